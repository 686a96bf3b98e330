import Derived.Test.YthapcapiiknjdaaDoorGP36
import Derived.Test.YthapcapiiknjdaaDoorGP35
import Derived.Test.YthapcapiiknjdaaDoorGP27
import Derived.Test.YthapcapiiknjdaaDoorGP32
import Derived.Deep.QuietTactic
import Derived.BigQuiet
import Derived.Test.YthapcapiiknjdaaDoorGP34
import Derived.Test.YthapcapiiknjdaaDoorGP33
import Derived.Test.YthapcapiiknjdaaDoorGP25

/-
  The model's l5Draw, told as a value.
-/
namespace Go.Proofs.YthapcapiiknjdaaDoor
set_option maxRecDepth 100000
open Go Go.RowKit

theorem li_byt (A : Int) (odd : Bool) : Byt (liX A odd) ∧ Byt (liY A odd) := by
  unfold liX liY
  split
  · exact ⟨bytes_5 _ _, bytes_5 _ _⟩
  · exact ⟨byt_nil, byt_nil⟩
theorem Two.put0 {w : World} {p : Nat} {x y : Value} (h : Two w p x y) (u : Value) : Two (w.setCell ⟨p, 0, none⟩ u) p u y :=
  ⟨World.cell?_setCell_same _ _ _ h.c0, by rw [World.cell?_setCell_other (h := by simp)]; exact h.c1, by rw [World.frozen?_setCell]; exact h.f0, by rw [World.frozen?_setCell]; exact h.f1⟩
theorem Two.put1 {w : World} {p : Nat} {x y : Value} (h : Two w p x y) (u : Value) : Two (w.setCell ⟨p, 1, none⟩ u) p x u :=
  ⟨by rw [World.cell?_setCell_other (h := by simp)]; exact h.c0, World.cell?_setCell_same _ _ _ h.c1, by rw [World.frozen?_setCell]; exact h.f0, by rw [World.frozen?_setCell]; exact h.f1⟩
theorem Two.put {w : World} {p : Nat} {x y : Value} (h : Two w p x y) (u v : Value) : Two ((w.setCell ⟨p, 0, none⟩ u).setCell ⟨p, 1, none⟩ v) p u v := (h.put0 u).put1 v
def bsX : List Int := liX (4 * iv 5) false
def bsY : List Int := liY (4 * iv 5) false
theorem bs_byt : Byt bsX ∧ Byt bsY := li_byt _ _
theorem bs_ok : PtOk bsX bsY := by
  have h : liB (4 * iv 5) false = true := by
    unfold liB
    rw [base_lift.1]
    simp
  unfold bsX bsY liX liY
  rw [if_pos h, if_pos h]
  exact ⟨⟨bytes_5 _ _, fill_len _ _⟩, bytes_5 _ _, fill_len _ _⟩
/-- The point that is drawn. -/
def drP (xs : List Int) (t : Int) : List Int × List Int :=
  if nxF xs t 8 = 0 then smP (nxF xs (t + 1) 8)
  else if nxF xs t 8 = 1 then (paX (smP (nxF xs (t + 1) 8)).1 (smP (nxF xs (t + 1) 8)).2 bsX bsY, paY (smP (nxF xs (t + 1) 8)).1 (smP (nxF xs (t + 1) 8)).2 bsX bsY)
  else if nxF xs t 8 < 4 then (plX (tmP (fill (dig (inF (nxF xs (t + 1) 1000))) 32) bsX bsY), plY (tmP (fill (dig (inF (nxF xs (t + 1) 1000))) 32) bsX bsY))
  else if nxF xs t 8 = 4 then
    (if nxF xs (t + 1) 2 = 0 then
      (if nxF xs (t + 1 + 1) 4 = 0 then (dbF xs (t + 1 + 1 + 1) 32, bsY)
       else if nxF xs (t + 1 + 1) 4 = 1 then (bsX, dbF xs (t + 1 + 1 + 1) 31)
       else if nxF xs (t + 1 + 1) 4 = 2 then (fill (dig pbytes) 32, fill (byt (1 % PP)) 32)
       else ([], []))
     else fdP 40 (dbF xs (t + 1 + 1) 32))
  else fdP 40 (dbF xs (t + 1) 32)
set_option maxHeartbeats 4000000 in
theorem l5DrawV_any (w : World) (s g : Nat) (a : Option Addr) (c : Nat) (xs : List Int) (t : Int) (hs : Src w s a xs.length c t) (hr : Rd w g a .u8 xs) (hne : 0 < xs.length → g ≠ s) (hb : Byt xs) (hl : xs.length ≤ 4194304) (t0 : 0 ≤ t) (t1 : t ≤ 10000) :
    Calls Tryd.prog 83 #[.pointer (some ⟨s, 0, none⟩)] w fun r w' => NewPt w.heap.size w' r (drP xs t).1 (drP xs t).2 ∧ But s w w' := by
  have TZ : Two (w.alloc pObj) w.heap.size (.slice none 0 0) (.slice none 0 0) := Two.new w (.slice none 0 0) (.slice none 0 0) 24
  have nz : Below w.heap.size w (w.alloc pObj) := (Below.refl _ _).alloc (Nat.le_refl _) _
  have zs := hs.lt
  have NX := hide (fun W (S : Src W s a xs.length c t) (R : Rd W g a .u8 xs) => l1NextV_any W s g a c xs t 8 S R hne hb hl (by omega) (by omega) (by decide) (by decide))
  have NY := hide (fun W n (S : Src W s a xs.length c (t + 1)) (R : Rd W g a .u8 xs) (h1 : 1 ≤ n) (h2 : n ≤ 1048576) => l1NextV_any W s g a c xs (t + 1) n S R hne hb hl (by omega) (by omega) h1 h2)
  have CH := hide (fun W (S : Src W s a xs.length c (t + 1)) (R : Rd W g a .u8 xs) => l1ChanceV_any W s g a c xs (t + 1) 2 S R hne hb hl (by omega) (by omega) (by decide) (by decide))
  have NW := hide (fun W (S : Src W s a xs.length c (t + 1 + 1)) (R : Rd W g a .u8 xs) => l1NextV_any W s g a c xs (t + 1 + 1) 4 S R hne hb hl (by omega) (by omega) (by decide) (by decide))
  have DB := hide (fun W u (n : Nat) (S : Src W s a xs.length c u) (R : Rd W g a .u8 xs) (h1 : 0 ≤ u) (h2 : u + (n : Int) ≤ 1048576) => l1DrawBytesV_any W s g a c xs u n S R hne hb hl h1 h2)
  obtain ⟨R, hR⟩ : ∃ R, R = drP xs t := ⟨_, rfl⟩
  rw [← hR]
  have k0 := nx_in xs t (show (0 : Int) < 8 by decide)
  unfold drP at hR
  have HR := hide hR
  clear hR
  have S0 := hs.up nz
  have hr0 := hr.up nz
  have N : But s w (w.alloc pObj) := But.ofBelow nz
  clear nz
  go_enter Tryd.func83, Tryd.ntmps83
  go_upto_region 1 with fail
  change Code.wp _ _ _ _ (w.alloc pObj)
  generalize w.alloc pObj = wz at *
  go_wp2_with fail
  refine (NX.out wz S0 hr0).mono ?_
  rintro e w1 ⟨rfl, _, S1, O1⟩
  have zz := TZ.lt
  have z1 := O1.size
  replace TZ := TZ.of_block' (O1.block w.heap.size (by omega))
  replace N := N.only O1
  have hr1 := hr.but N hne
  clear O1 NX S0 hr0 hs
  generalize nxF xs t 8 = k at *
  rcases (show k = 0 ∨ k = 1 ∨ k = 2 ∨ k = 3 ∨ k = 4 ∨ k = 5 ∨ k = 6 ∨ k = 7 by omega) with rfl | rfl | rfl | rfl | rfl | rfl | rfl | rfl
  · have HD : Hid (R = smP (nxF xs (t + 1) 8)) := by show _ = _; rw [HR.out, if_pos rfl]
    clear HR
    go_wp2_with fail
    refine (NY.out w1 8 S1 hr1 (by decide) (by decide)).mono ?_
    rintro e w2 ⟨rfl, ⟨r0, r1⟩, S2, O2⟩
    have z2 := O2.size
    replace TZ := TZ.of_block' (O2.block w.heap.size (by omega))
    replace N := N.only O2
    clear O2 S2 S1 NY CH NW DB
    obtain ⟨j, hj⟩ : ∃ j, j = nxF xs (t + 1) 8 := ⟨_, rfl⟩
    rw [← hj] at r0 r1 HD ⊢
    clear hj
    have SM := hide (l5SmallV_any w2 j r0 (by omega))
    generalize smP j = X at *
    go_wp2_with fail
    refine SM.out.mono ?_
    rintro r w3 ⟨⟨a1, a1', c1, c1', g1, g1', rfl, o1, o1', l1, l1'⟩, n3⟩
    have z3 := n3.size
    replace TZ := TZ.up n3
    replace N := N.trans (But.ofBelow n3)
    clear n3 SM
    obtain ⟨y0, y1, v0, v1⟩ := TZ
    have O := (Only.setCell w3 w.heap.size 0 (.slice a1 X.1.length c1)).trans (Only.setCell _ w.heap.size 1 (.slice a1' X.2.length c1'))
    go_wp2
    refine bodyPost_ret (v := .agg #[.slice a1 X.1.length c1, .slice a1' X.2.length c1']) (by simp [results, Tryd.results83, go_sem, y0, y1]) rfl ⟨?_, (N.setCell (Nat.le_refl _)).setCell (Nat.le_refl _)⟩
    rw [HD.out]
    exact ⟨a1, a1', c1, c1', g1, g1', rfl, o1.only O (fun _ => by omega), o1'.only O (fun _ => by omega), by omega, by omega⟩
  · have HD : Hid (R = (paX (smP (nxF xs (t + 1) 8)).1 (smP (nxF xs (t + 1) 8)).2 bsX bsY, paY (smP (nxF xs (t + 1) 8)).1 (smP (nxF xs (t + 1) 8)).2 bsX bsY)) := by show _ = _; rw [HR.out, if_neg (by decide), if_pos rfl]
    clear HR
    go_wp2_with fail
    refine (NY.out w1 8 S1 hr1 (by decide) (by decide)).mono ?_
    rintro e w2 ⟨rfl, ⟨r0, r1⟩, S2, O2⟩
    have z2 := O2.size
    replace TZ := TZ.of_block' (O2.block w.heap.size (by omega))
    replace N := N.only O2
    clear O2 S2 S1 NY CH NW DB
    obtain ⟨j, hj⟩ : ∃ j, j = nxF xs (t + 1) 8 := ⟨_, rfl⟩
    rw [← hj] at r0 r1 HD ⊢
    clear hj
    have SM := hide (l5SmallV_any w2 j r0 (by omega))
    have SK := hide (smP_ok j)
    generalize smP j = X at *
    go_wp2_with fail
    refine SM.out.mono ?_
    rintro r w3 ⟨⟨a3, a3', c3, c3', g3, g3', rfl, o3, o3', l3, l3'⟩, n3⟩
    have z3 := n3.size
    replace TZ := TZ.up n3
    replace N := N.trans (But.ofBelow n3)
    clear n3 SM
    have SB : Hid (Calls Tryd.prog 23 #[] w3 fun r w' => NewPt w3.heap.size w' r bsX bsY ∧ Below w3.heap.size w3 w') := specBase_any w3
    have BB := hide bs_byt
    generalize bsX = bx at *
    generalize bsY = by' at *
    go_wp2_with fail
    refine SB.out.mono ?_
    rintro r w4 ⟨⟨a4, a4', c4, c4', g4, g4', rfl, o4, o4', l4, l4'⟩, n4⟩
    have z4 := n4.size
    replace TZ := TZ.up n4
    replace N := N.trans (But.ofBelow n4)
    replace o3 := o3.up n4
    replace o3' := o3'.up n4
    clear n4 SB
    have AD := hide (specPointAdd_any w4 g3 g3' g4 g4' a3 a3' a4 a4' c3 c3' c4 c4' X.1 X.2 bx by' o3.rd o3'.rd o4.rd o4'.rd SK.out.1.1 SK.out.2.1 BB.out.1 BB.out.2)
    generalize paX X.1 X.2 bx by' = PX at *
    generalize paY X.1 X.2 bx by' = PY at *
    go_wp2_with fail
    refine AD.out.mono ?_
    rintro r w5 ⟨⟨a1, a1', c1, c1', g1, g1', rfl, o1, o1', l1, l1'⟩, n3⟩
    have z5 := n3.size
    replace TZ := TZ.up n3
    replace N := N.trans (But.ofBelow n3)
    clear n3 AD
    obtain ⟨y0, y1, v0, v1⟩ := TZ
    have O := (Only.setCell w5 w.heap.size 0 (.slice a1 PX.length c1)).trans (Only.setCell _ w.heap.size 1 (.slice a1' PY.length c1'))
    go_wp2
    refine bodyPost_ret (v := .agg #[.slice a1 PX.length c1, .slice a1' PY.length c1']) (by simp [results, Tryd.results83, go_sem, y0, y1]) rfl ⟨?_, (N.setCell (Nat.le_refl _)).setCell (Nat.le_refl _)⟩
    rw [HD.out]
    exact ⟨a1, a1', c1, c1', g1, g1', rfl, o1.only O (fun _ => by omega), o1'.only O (fun _ => by omega), by omega, by omega⟩
  · have HD : Hid (R = (plX (tmP (fill (dig (inF (nxF xs (t + 1) 1000))) 32) bsX bsY), plY (tmP (fill (dig (inF (nxF xs (t + 1) 1000))) 32) bsX bsY))) := by show _ = _; rw [HR.out, if_neg (by decide), if_neg (by decide), if_pos (by decide)]
    clear HR
    go_wp2_with fail
    refine (NY.out w1 1000 S1 hr1 (by decide) (by decide)).mono ?_
    rintro e w2 ⟨rfl, ⟨r0, r1⟩, S2, O2⟩
    have z2 := O2.size
    replace TZ := TZ.of_block' (O2.block w.heap.size (by omega))
    replace N := N.only O2
    clear O2 S2 S1 NY CH NW DB
    obtain ⟨j, hj⟩ : ∃ j, j = nxF xs (t + 1) 1000 := ⟨_, rfl⟩
    rw [← hj] at r0 r1 HD ⊢
    clear hj
    have SI := hide (l1IntV_any w2 j r0 (by omega))
    have IB := hide (inF_byt r0 (by omega))
    clear r0 r1
    generalize inF j = I at *
    go_wp2_with fail
    refine SI.out.mono ?_
    rintro r w3 ⟨⟨a3, c3, g3, rfl, o3, _, _, l3⟩, n3⟩
    have z3 := n3.size
    replace TZ := TZ.up n3
    replace N := N.trans (But.ofBelow n3)
    clear n3 SI
    have SL := hide (l1Little_any w3 g3 a3 c3 I 32 o3.rd IB.out.1 (by have := IB.out.2; omega) (by omega))
    have KB := hide (dig_bytes_5 IB.out.1 32)
    have KL := hide (fill_len (dig I) 32)
    generalize fill (dig I) 32 = K at *
    go_wp2_with fail
    refine SL.out.mono ?_
    rintro r w4 ⟨rfl, B4, n4⟩
    have z4 := n4.size
    replace TZ := TZ.up n4
    replace N := N.trans (But.ofBelow n4)
    clear n4 SL o3
    have SB : Hid (Calls Tryd.prog 23 #[] w4 fun r w' => NewPt w4.heap.size w' r bsX bsY ∧ Below w4.heap.size w4 w') := specBase_any w4
    have BB := hide bs_ok
    generalize bsX = bx at *
    generalize bsY = by' at *
    go_wp2_with fail
    refine SB.out.mono ?_
    rintro r w5 ⟨⟨a5, a5', c5, c5', g5, g5', rfl, o5, o5', l5, l5'⟩, n5⟩
    have z5 := n5.size
    replace TZ := TZ.up n5
    replace N := N.trans (But.ofBelow n5)
    have o4 := B4.own0.up n5
    clear n5 SB B4
    have ST := hide (l5Times_any w5 w3.heap.size g5 g5' (some ⟨w3.heap.size, 0, none⟩) a5 a5' 32 c5 c5' K bx by' o4.rd KB.out (by rw [KL.out]; omega) o5.rd o5'.rd BB.out.1.1 BB.out.2.1 BB.out.1.2 BB.out.2.2)
    rw [KL.out] at ST
    go_wp2_with fail
    refine ST.out.mono ?_
    rintro r w6 ⟨top, p, x, y, z, hc, hP, rfl, hx, hy, hz, n6⟩
    have z6 := n6.size
    replace TZ := TZ.up n6
    replace N := N.trans (But.ofBelow n6)
    have eP : Hid (tmP K bx by' = p) := by show _ = _; unfold tmP; rw [topF_eq (by rw [KL.out]; exact hc), hP]
    clear n6 ST hc hP o4 o5 o5'
    have SP : Hid (Calls Tryd.prog 72 #[ag48 x y z] w6 fun r w' => NewPt w6.heap.size w' r (plX p) (plY p) ∧ Below w6.heap.size w6 w') := l5Plain_any w6 x y z p.1 p.2.1 p.2.2 hx hy hz
    rw [eP.out] at HD
    clear eP hx hy hz
    generalize plX p = PX at *
    generalize plY p = PY at *
    generalize ag48 x y z = V at *
    go_wp2_with fail
    refine SP.out.mono ?_
    rintro r w7 ⟨⟨a1, a1', c1, c1', g1, g1', rfl, o1, o1', l1, l1'⟩, n3⟩
    have z7 := n3.size
    replace TZ := TZ.up n3
    replace N := N.trans (But.ofBelow n3)
    clear n3 SP
    obtain ⟨y0, y1, v0, v1⟩ := TZ
    have O := (Only.setCell w7 w.heap.size 0 (.slice a1 PX.length c1)).trans (Only.setCell _ w.heap.size 1 (.slice a1' PY.length c1'))
    go_wp2
    refine bodyPost_ret (v := .agg #[.slice a1 PX.length c1, .slice a1' PY.length c1']) (by simp [results, Tryd.results83, go_sem, y0, y1]) rfl ⟨?_, (N.setCell (Nat.le_refl _)).setCell (Nat.le_refl _)⟩
    rw [HD.out]
    exact ⟨a1, a1', c1, c1', g1, g1', rfl, o1.only O (fun _ => by omega), o1'.only O (fun _ => by omega), by omega, by omega⟩
  · have HD : Hid (R = (plX (tmP (fill (dig (inF (nxF xs (t + 1) 1000))) 32) bsX bsY), plY (tmP (fill (dig (inF (nxF xs (t + 1) 1000))) 32) bsX bsY))) := by show _ = _; rw [HR.out, if_neg (by decide), if_neg (by decide), if_pos (by decide)]
    clear HR
    go_wp2_with fail
    refine (NY.out w1 1000 S1 hr1 (by decide) (by decide)).mono ?_
    rintro e w2 ⟨rfl, ⟨r0, r1⟩, S2, O2⟩
    have z2 := O2.size
    replace TZ := TZ.of_block' (O2.block w.heap.size (by omega))
    replace N := N.only O2
    clear O2 S2 S1 NY CH NW DB
    obtain ⟨j, hj⟩ : ∃ j, j = nxF xs (t + 1) 1000 := ⟨_, rfl⟩
    rw [← hj] at r0 r1 HD ⊢
    clear hj
    have SI := hide (l1IntV_any w2 j r0 (by omega))
    have IB := hide (inF_byt r0 (by omega))
    clear r0 r1
    generalize inF j = I at *
    go_wp2_with fail
    refine SI.out.mono ?_
    rintro r w3 ⟨⟨a3, c3, g3, rfl, o3, _, _, l3⟩, n3⟩
    have z3 := n3.size
    replace TZ := TZ.up n3
    replace N := N.trans (But.ofBelow n3)
    clear n3 SI
    have SL := hide (l1Little_any w3 g3 a3 c3 I 32 o3.rd IB.out.1 (by have := IB.out.2; omega) (by omega))
    have KB := hide (dig_bytes_5 IB.out.1 32)
    have KL := hide (fill_len (dig I) 32)
    generalize fill (dig I) 32 = K at *
    go_wp2_with fail
    refine SL.out.mono ?_
    rintro r w4 ⟨rfl, B4, n4⟩
    have z4 := n4.size
    replace TZ := TZ.up n4
    replace N := N.trans (But.ofBelow n4)
    clear n4 SL o3
    have SB : Hid (Calls Tryd.prog 23 #[] w4 fun r w' => NewPt w4.heap.size w' r bsX bsY ∧ Below w4.heap.size w4 w') := specBase_any w4
    have BB := hide bs_ok
    generalize bsX = bx at *
    generalize bsY = by' at *
    go_wp2_with fail
    refine SB.out.mono ?_
    rintro r w5 ⟨⟨a5, a5', c5, c5', g5, g5', rfl, o5, o5', l5, l5'⟩, n5⟩
    have z5 := n5.size
    replace TZ := TZ.up n5
    replace N := N.trans (But.ofBelow n5)
    have o4 := B4.own0.up n5
    clear n5 SB B4
    have ST := hide (l5Times_any w5 w3.heap.size g5 g5' (some ⟨w3.heap.size, 0, none⟩) a5 a5' 32 c5 c5' K bx by' o4.rd KB.out (by rw [KL.out]; omega) o5.rd o5'.rd BB.out.1.1 BB.out.2.1 BB.out.1.2 BB.out.2.2)
    rw [KL.out] at ST
    go_wp2_with fail
    refine ST.out.mono ?_
    rintro r w6 ⟨top, p, x, y, z, hc, hP, rfl, hx, hy, hz, n6⟩
    have z6 := n6.size
    replace TZ := TZ.up n6
    replace N := N.trans (But.ofBelow n6)
    have eP : Hid (tmP K bx by' = p) := by show _ = _; unfold tmP; rw [topF_eq (by rw [KL.out]; exact hc), hP]
    clear n6 ST hc hP o4 o5 o5'
    have SP : Hid (Calls Tryd.prog 72 #[ag48 x y z] w6 fun r w' => NewPt w6.heap.size w' r (plX p) (plY p) ∧ Below w6.heap.size w6 w') := l5Plain_any w6 x y z p.1 p.2.1 p.2.2 hx hy hz
    rw [eP.out] at HD
    clear eP hx hy hz
    generalize plX p = PX at *
    generalize plY p = PY at *
    generalize ag48 x y z = V at *
    go_wp2_with fail
    refine SP.out.mono ?_
    rintro r w7 ⟨⟨a1, a1', c1, c1', g1, g1', rfl, o1, o1', l1, l1'⟩, n3⟩
    have z7 := n3.size
    replace TZ := TZ.up n3
    replace N := N.trans (But.ofBelow n3)
    clear n3 SP
    obtain ⟨y0, y1, v0, v1⟩ := TZ
    have O := (Only.setCell w7 w.heap.size 0 (.slice a1 PX.length c1)).trans (Only.setCell _ w.heap.size 1 (.slice a1' PY.length c1'))
    go_wp2
    refine bodyPost_ret (v := .agg #[.slice a1 PX.length c1, .slice a1' PY.length c1']) (by simp [results, Tryd.results83, go_sem, y0, y1]) rfl ⟨?_, (N.setCell (Nat.le_refl _)).setCell (Nat.le_refl _)⟩
    rw [HD.out]
    exact ⟨a1, a1', c1, c1', g1, g1', rfl, o1.only O (fun _ => by omega), o1'.only O (fun _ => by omega), by omega, by omega⟩
  · have HE := HR.out
    rw [if_neg (by decide), if_neg (by decide), if_neg (by decide), if_pos rfl] at HE
    replace HR := hide HE
    clear HE
    go_wp2_with fail
    refine (CH.out w1 S1 hr1).mono ?_
    rintro e w2 ⟨rfl, S2, O2⟩
    have z2 := O2.size
    replace TZ := TZ.of_block' (O2.block w.heap.size (by omega))
    replace N := N.only O2
    have hr2 := hr.but N hne
    clear O2 S1 hr1 CH
    generalize nxF xs (t + 1) 2 = q at *
    by_cases hq : q = 0
    · subst hq
      rw [if_pos rfl] at HR
      have SB : Hid (Calls Tryd.prog 23 #[] w2 fun r w' => NewPt w2.heap.size w' r bsX bsY ∧ Below w2.heap.size w2 w') := specBase_any w2
      rw [show ((0 : Int) == 0) = true from rfl]
      generalize bsX = bx at *
      generalize bsY = by' at *
      go_wp2_with fail
      refine SB.out.mono ?_
      rintro r w3 ⟨⟨a4, a4', c4, c4', g4, g4', rfl, o4, o4', l4, l4'⟩, n3⟩
      have z3 := n3.size
      have TP := Two.new w3 (.slice a4 bx.length c4) (.slice a4' by'.length c4') 24
      have n4 : Below w3.heap.size w3 (w3.alloc (.cells #[.slice a4 bx.length c4, .slice a4' by'.length c4'] 24)) := (Below.refl _ _).alloc (Nat.le_refl _) _
      have zl : w3.heap.size < (w3.alloc (.cells #[.slice a4 bx.length c4, .slice a4' by'.length c4'] 24)).heap.size := TP.lt
      have q4 := hide (fun h => o4.rd.lt h)
      have q4' := hide (fun h => o4'.rd.lt h)
      replace TZ := (TZ.up n3).up n4
      replace N := (N.trans (But.ofBelow n3)).trans (But.ofBelow n4)
      replace S2 := (S2.up n3).up n4
      replace o4 := o4.up n4
      replace o4' := o4'.up n4
      have hr3 := hr.but N hne
      clear n3 n4 SB hr2
      go_wp2_with fail
      generalize w3.alloc (.cells #[.slice a4 bx.length c4, .slice a4' by'.length c4'] 24) = w4 at *
      refine (NW.out w4 S2 hr3).mono ?_
      rintro e w5 ⟨rfl, ⟨r0, r1⟩, S5, O5⟩
      have z5 : w4.heap.size ≤ w5.heap.size := Nat.le_of_eq O5.size.symm
      replace TZ := TZ.of_block' (O5.block w.heap.size (by omega))
      replace TP := TP.of_block' (O5.block w3.heap.size (by omega))
      replace o4 := o4.only O5 (fun _ => by omega)
      replace o4' := o4'.only O5 (fun _ => by omega)
      replace N := N.only O5
      have hr5 := hr.but N hne
      clear O5 S2 hr3 NW NY
      generalize nxF xs (t + 1 + 1) 4 = j at *
      rcases (show j = 0 ∨ j = 1 ∨ j = 2 ∨ j = 3 by omega) with rfl | rfl | rfl | rfl
      · have HD : Hid (R = (dbF xs (t + 1 + 1 + 1) 32, by')) := by show _ = _; rw [HR.out, if_pos rfl]
        clear HR
        go_wp2_with fail
        refine (DB.out w5 (t + 1 + 1 + 1) 32 S5 hr5 (by omega) (by omega)).mono ?_
        rintro e w6 ⟨⟨a6, c6, g6, rfl, o6, _, _, l6⟩, S6, N6⟩
        have z6 := N6.size
        have z6p := TP.lt
        replace TZ := TZ.of_block' (N6.block w.heap.size (by omega) (by omega))
        replace TP := TP.of_block' (N6.block w3.heap.size (by omega) (by omega))
        replace o4 := o4.but N6 (fun _ => by omega)
        replace o4' := o4'.but N6 (fun _ => by omega)
        replace N := N.trans N6
        clear N6 S6 S5 DB
        generalize dbF xs (t + 1 + 1 + 1) 32 = D at *
        have O4 := Only.setCell w6 w3.heap.size 0 (.slice a6 D.length c6)
        have TP' := TP.put0 (.slice a6 D.length c6)
        replace TZ := TZ.of_block' (O4.block w.heap.size (by omega))
        replace N : But s w (w6.setCell ⟨w3.heap.size, 0, none⟩ (.slice a6 D.length c6)) := N.setCell (by omega)
        replace o6 := o6.only O4 (fun _ => by omega)
        replace o4 := o4.only O4 (fun h => by have := q4.out h; omega)
        replace o4' := o4'.only O4 (fun h => by have := q4'.out h; omega)
        obtain ⟨q0, q1, qf0, qf1⟩ := TP
        have TP := TP'
        clear TP' O4
        go_upto_region 19 with fail
        generalize w6.setCell ⟨w3.heap.size, 0, none⟩ (.slice a6 D.length c6) = w9 at *
        obtain ⟨p0, p1, pf0, pf1⟩ := TP
        obtain ⟨y0, y1, v0, v1⟩ := TZ
        have O := (Only.setCell w9 w.heap.size 0 (.slice a6 D.length c6)).trans (Only.setCell _ w.heap.size 1 (.slice a4' by'.length c4'))
        go_wp2
        refine bodyPost_ret (v := .agg #[.slice a6 D.length c6, .slice a4' by'.length c4']) (by simp [results, Tryd.results83, go_sem, y0, y1]) rfl ⟨?_, (N.setCell (Nat.le_refl _)).setCell (Nat.le_refl _)⟩
        rw [HD.out]
        exact ⟨a6, a4', c6, c4', g6, g4', rfl, o6.only O (fun _ => by omega), o4'.only O (fun _ => by omega), by omega, by omega⟩
      · have HD : Hid (R = (bx, dbF xs (t + 1 + 1 + 1) 31)) := by show _ = _; rw [HR.out, if_neg (by decide), if_pos rfl]
        clear HR
        go_wp2_with fail
        refine (DB.out w5 (t + 1 + 1 + 1) 31 S5 hr5 (by omega) (by omega)).mono ?_
        rintro e w6 ⟨⟨a6, c6, g6, rfl, o6, _, _, l6⟩, S6, N6⟩
        have z6 := N6.size
        have z6p := TP.lt
        replace TZ := TZ.of_block' (N6.block w.heap.size (by omega) (by omega))
        replace TP := TP.of_block' (N6.block w3.heap.size (by omega) (by omega))
        replace o4 := o4.but N6 (fun _ => by omega)
        replace o4' := o4'.but N6 (fun _ => by omega)
        replace N := N.trans N6
        clear N6 S6 S5 DB
        generalize dbF xs (t + 1 + 1 + 1) 31 = D at *
        have O4 := Only.setCell w6 w3.heap.size 1 (.slice a6 D.length c6)
        have TP' := TP.put1 (.slice a6 D.length c6)
        replace TZ := TZ.of_block' (O4.block w.heap.size (by omega))
        replace N : But s w (w6.setCell ⟨w3.heap.size, 1, none⟩ (.slice a6 D.length c6)) := N.setCell (by omega)
        replace o6 := o6.only O4 (fun _ => by omega)
        replace o4 := o4.only O4 (fun h => by have := q4.out h; omega)
        replace o4' := o4'.only O4 (fun h => by have := q4'.out h; omega)
        obtain ⟨q0, q1, qf0, qf1⟩ := TP
        have TP := TP'
        clear TP' O4
        go_upto_region 19 with fail
        generalize w6.setCell ⟨w3.heap.size, 1, none⟩ (.slice a6 D.length c6) = w9 at *
        obtain ⟨p0, p1, pf0, pf1⟩ := TP
        obtain ⟨y0, y1, v0, v1⟩ := TZ
        have O := (Only.setCell w9 w.heap.size 0 (.slice a4 bx.length c4)).trans (Only.setCell _ w.heap.size 1 (.slice a6 D.length c6))
        go_wp2
        refine bodyPost_ret (v := .agg #[.slice a4 bx.length c4, .slice a6 D.length c6]) (by simp [results, Tryd.results83, go_sem, y0, y1]) rfl ⟨?_, (N.setCell (Nat.le_refl _)).setCell (Nat.le_refl _)⟩
        rw [HD.out]
        exact ⟨a4, a6, c4, c6, g4, g6, rfl, o4.only O (fun _ => by omega), o6.only O (fun _ => by omega), by omega, by omega⟩
      · obtain ⟨PB, hPB⟩ : ∃ PB, PB = fill (dig pbytes) 32 := ⟨_, rfl⟩
        obtain ⟨QB, hQB⟩ : ∃ QB, QB = fill (byt (1 % PP)) 32 := ⟨_, rfl⟩
        have HD : Hid (R = (PB, QB)) := by show _ = _; rw [HR.out, if_neg (by decide), if_neg (by decide), if_pos rfl, hPB, hQB]
        have L7 : Hid (PB.length = 32) := by show _ = _; rw [hPB, fill_len]
        have HPB := hide hPB.symm
        have HQB := hide hQB.symm
        clear HR hPB hQB
        have PR := hide (l2Prime_any w5)
        have PY := hide pbytes_byt
        have PL := hide pbytes_len
        generalize pbytes = pb at *
        go_wp2_with fail
        refine PR.out.mono ?_
        rintro e w6 ⟨rfl, B6, n6⟩
        have z6 := n6.size
        replace TZ := TZ.up n6
        replace TP := TP.up n6
        replace N := N.trans (But.ofBelow n6)
        clear n6
        have SL := hide (l1Little_any w6 w5.heap.size (some ⟨w5.heap.size, 0, none⟩) 32 pb 32 B6.own0.rd PY.out (by rw [PL.out]; omega) (by omega))
        clear B6
        go_wp2_with fail
        refine SL.out.mono ?_
        rintro e w7 ⟨rfl, B7, n7⟩
        have z7 := n7.size
        replace TZ := TZ.up n7
        replace TP := TP.up n7
        replace N := N.trans (But.ofBelow n7)
        clear n7 SL
        have o7 := B7.own0
        rw [HPB.out] at o7
        clear HPB B7
        go_wp2_with fail
        refine (l2Small_any w7 1 (by decide)).mono ?_
        rintro e w8 ⟨f, rfl, hf, hfv, n8⟩
        have z8 := n8.size
        replace TZ := TZ.up n8
        replace TP := TP.up n8
        replace N := N.trans (But.ofBelow n8)
        replace o7 := o7.up n8
        have SY := hide (l2Bytes_any w8 f hf)
        rw [hfv, HQB.out] at SY
        clear n8 hf hfv HQB
        generalize ag16 f = V at *
        go_wp2_with fail
        refine SY.out.mono ?_
        rintro e wa ⟨⟨a8, c8, g8, rfl, o8, _, _, l8⟩, na⟩
        have za := na.size
        replace TZ := TZ.up na
        replace TP := TP.up na
        replace N := N.trans (But.ofBelow na)
        replace o7 := o7.up na
        clear na SY
        have O4 := (Only.setCell wa w3.heap.size 0 (.slice (some ⟨w6.heap.size, 0, none⟩) 32 32)).trans (Only.setCell _ w3.heap.size 1 (.slice a8 QB.length c8))
        have TP' := TP.put (.slice (some ⟨w6.heap.size, 0, none⟩) 32 32) (.slice a8 QB.length c8)
        replace TZ := TZ.of_block' (O4.block w.heap.size (by omega))
        replace N : But s w ((wa.setCell ⟨w3.heap.size, 0, none⟩ (.slice (some ⟨w6.heap.size, 0, none⟩) 32 32)).setCell ⟨w3.heap.size, 1, none⟩ (.slice a8 QB.length c8)) := (N.setCell (by omega)).setCell (by omega)
        obtain ⟨q0, q1, qf0, qf1⟩ := TP
        have TP := TP'
        clear TP'
        replace o7 := o7.only O4 (fun _ => by omega)
        replace o8 := o8.only O4 (fun _ => by omega)
        clear O4
        go_upto_region 19 with fail
        generalize (wa.setCell ⟨w3.heap.size, 0, none⟩ (.slice (some ⟨w6.heap.size, 0, none⟩) 32 32)).setCell ⟨w3.heap.size, 1, none⟩ (.slice a8 QB.length c8) = w9 at *
        obtain ⟨p0, p1, pf0, pf1⟩ := TP
        obtain ⟨y0, y1, v0, v1⟩ := TZ
        have O := (Only.setCell w9 w.heap.size 0 (.slice (some ⟨w6.heap.size, 0, none⟩) 32 32)).trans (Only.setCell _ w.heap.size 1 (.slice a8 QB.length c8))
        go_wp2
        refine bodyPost_ret (v := .agg #[.slice (some ⟨w6.heap.size, 0, none⟩) 32 32, .slice a8 QB.length c8]) (by simp [results, Tryd.results83, go_sem, y0, y1]) rfl ⟨?_, (N.setCell (Nat.le_refl _)).setCell (Nat.le_refl _)⟩
        rw [HD.out]
        exact ⟨(some ⟨w6.heap.size, 0, none⟩), a8, 32, c8, w6.heap.size, g8, by rw [L7.out], o7.only O (fun _ => by omega), o8.only O (fun _ => by omega), by omega, by omega⟩
      · have HD : Hid (R = ([], [])) := by show _ = _; rw [HR.out, if_neg (by decide), if_neg (by decide), if_neg (by decide)]
        clear HR
        have O4 := (Only.setCell w5 w3.heap.size 0 (.slice none 0 0)).trans (Only.setCell _ w3.heap.size 1 (.slice none 0 0))
        have TP' := TP.put (.slice none 0 0) (.slice none 0 0)
        replace TZ := TZ.of_block' (O4.block w.heap.size (by omega))
        replace N : But s w ((w5.setCell ⟨w3.heap.size, 0, none⟩ (.slice none 0 0)).setCell ⟨w3.heap.size, 1, none⟩ (.slice none 0 0)) := (N.setCell (by omega)).setCell (by omega)
        obtain ⟨q0, q1, qf0, qf1⟩ := TP
        have TP := TP'
        clear TP'
        clear O4
        go_upto_region 19 with fail
        generalize (w5.setCell ⟨w3.heap.size, 0, none⟩ (.slice none 0 0)).setCell ⟨w3.heap.size, 1, none⟩ (.slice none 0 0) = w9 at *
        obtain ⟨p0, p1, pf0, pf1⟩ := TP
        obtain ⟨y0, y1, v0, v1⟩ := TZ
        have O := (Only.setCell w9 w.heap.size 0 (.slice none 0 0)).trans (Only.setCell _ w.heap.size 1 (.slice none 0 0))
        go_wp2
        refine bodyPost_ret (v := .agg #[.slice none 0 0, .slice none 0 0]) (by simp [results, Tryd.results83, go_sem, y0, y1]) rfl ⟨?_, (N.setCell (Nat.le_refl _)).setCell (Nat.le_refl _)⟩
        rw [HD.out]
        exact ⟨none, none, 0, 0, w.heap.size, w.heap.size, rfl, Own.nil _ _ _ _, Own.nil _ _ _ _, by omega, by omega⟩
    · rw [show (q == 0) = false from beq_eq_false_iff_ne.2 hq]
      rw [if_neg hq] at HR
      have HD := HR
      clear HR hq
      go_wp2_with fail
      refine (DB.out w2 (t + 1 + 1) 32 S2 hr2 (by omega) (by omega)).mono ?_
      rintro e w8 ⟨⟨a8, c8, g8, rfl, o8, _, _, l8⟩, S8, N8⟩
      have z8 := N8.size
      have LB := hide (dbF_len xs (t + 1 + 1) 32)
      have BY := hide (dbF_byt xs (t + 1 + 1) 32)
      replace TZ := TZ.of_block' (N8.block w.heap.size (by omega) (by omega))
      replace N := N.trans N8
      clear N8 S8 DB NY NW S2
      generalize dbF xs (t + 1 + 1) 32 = B at *
      rw [LB.out]
      obtain ⟨o8f, ea, _⟩ := id o8 (by rw [LB.out]; decide)
      subst ea
      have zg := o8.rd.lt (by rw [LB.out]; decide)
      have FD := hide (l5Find_any w8 g8 o8f c8 B o8 BY.out LB.out)
      generalize fdP 40 B = X at *
      go_wp2_with fail
      refine FD.out.mono ?_
      rintro r w9 ⟨⟨a1, a1', c1, c1', g1, g1', rfl, o1, o1', l1, l1'⟩, n3⟩
      have z9 := n3.size
      replace TZ := TZ.of_block' (n3.block w.heap.size (by omega) (by omega))
      have N2 : But s w w9 := ⟨n3.os.trans N.os, n3.tape.trans N.tape, n3.output.trans N.output, Nat.le_trans N.size n3.size, fun i hi hn => (n3.block i (by omega) (by omega)).trans (N.block i hi hn)⟩
      clear n3 N FD o8
      obtain ⟨y0, y1, v0, v1⟩ := TZ
      have O := (Only.setCell w9 w.heap.size 0 (.slice a1 X.1.length c1)).trans (Only.setCell _ w.heap.size 1 (.slice a1' X.2.length c1'))
      go_wp2
      refine bodyPost_ret (v := .agg #[.slice a1 X.1.length c1, .slice a1' X.2.length c1']) (by simp [results, Tryd.results83, go_sem, y0, y1]) rfl ⟨?_, (N2.setCell (Nat.le_refl _)).setCell (Nat.le_refl _)⟩
      rw [HD.out]
      exact ⟨a1, a1', c1, c1', g1, g1', rfl, o1.only O (fun _ => by omega), o1'.only O (fun _ => by omega), by omega, by omega⟩
  · have HD : Hid (R = fdP 40 (dbF xs (t + 1) 32)) := by show _ = _; rw [HR.out, if_neg (by decide), if_neg (by decide), if_neg (by decide), if_neg (by decide)]
    clear HR
    go_wp2_with fail
    refine (DB.out w1 (t + 1) 32 S1 hr1 (by omega) (by omega)).mono ?_
    rintro e w8 ⟨⟨a8, c8, g8, rfl, o8, _, _, l8⟩, S8, N8⟩
    have z8 := N8.size
    have LB := hide (dbF_len xs (t + 1) 32)
    have BY := hide (dbF_byt xs (t + 1) 32)
    replace TZ := TZ.of_block' (N8.block w.heap.size (by omega) (by omega))
    replace N := N.trans N8
    clear N8 S8 DB NY CH NW S1
    generalize dbF xs (t + 1) 32 = B at *
    rw [LB.out]
    obtain ⟨o8f, ea, _⟩ := id o8 (by rw [LB.out]; decide)
    subst ea
    have zg := o8.rd.lt (by rw [LB.out]; decide)
    have FD := hide (l5Find_any w8 g8 o8f c8 B o8 BY.out LB.out)
    generalize fdP 40 B = X at *
    go_wp2_with fail
    refine FD.out.mono ?_
    rintro r w9 ⟨⟨a1, a1', c1, c1', g1, g1', rfl, o1, o1', l1, l1'⟩, n3⟩
    have z9 := n3.size
    replace TZ := TZ.of_block' (n3.block w.heap.size (by omega) (by omega))
    have N2 : But s w w9 := ⟨n3.os.trans N.os, n3.tape.trans N.tape, n3.output.trans N.output, Nat.le_trans N.size n3.size, fun i hi hn => (n3.block i (by omega) (by omega)).trans (N.block i hi hn)⟩
    clear n3 N FD o8
    obtain ⟨y0, y1, v0, v1⟩ := TZ
    have O := (Only.setCell w9 w.heap.size 0 (.slice a1 X.1.length c1)).trans (Only.setCell _ w.heap.size 1 (.slice a1' X.2.length c1'))
    go_wp2
    refine bodyPost_ret (v := .agg #[.slice a1 X.1.length c1, .slice a1' X.2.length c1']) (by simp [results, Tryd.results83, go_sem, y0, y1]) rfl ⟨?_, (N2.setCell (Nat.le_refl _)).setCell (Nat.le_refl _)⟩
    rw [HD.out]
    exact ⟨a1, a1', c1, c1', g1, g1', rfl, o1.only O (fun _ => by omega), o1'.only O (fun _ => by omega), by omega, by omega⟩
  · have HD : Hid (R = fdP 40 (dbF xs (t + 1) 32)) := by show _ = _; rw [HR.out, if_neg (by decide), if_neg (by decide), if_neg (by decide), if_neg (by decide)]
    clear HR
    go_wp2_with fail
    refine (DB.out w1 (t + 1) 32 S1 hr1 (by omega) (by omega)).mono ?_
    rintro e w8 ⟨⟨a8, c8, g8, rfl, o8, _, _, l8⟩, S8, N8⟩
    have z8 := N8.size
    have LB := hide (dbF_len xs (t + 1) 32)
    have BY := hide (dbF_byt xs (t + 1) 32)
    replace TZ := TZ.of_block' (N8.block w.heap.size (by omega) (by omega))
    replace N := N.trans N8
    clear N8 S8 DB NY CH NW S1
    generalize dbF xs (t + 1) 32 = B at *
    rw [LB.out]
    obtain ⟨o8f, ea, _⟩ := id o8 (by rw [LB.out]; decide)
    subst ea
    have zg := o8.rd.lt (by rw [LB.out]; decide)
    have FD := hide (l5Find_any w8 g8 o8f c8 B o8 BY.out LB.out)
    generalize fdP 40 B = X at *
    go_wp2_with fail
    refine FD.out.mono ?_
    rintro r w9 ⟨⟨a1, a1', c1, c1', g1, g1', rfl, o1, o1', l1, l1'⟩, n3⟩
    have z9 := n3.size
    replace TZ := TZ.of_block' (n3.block w.heap.size (by omega) (by omega))
    have N2 : But s w w9 := ⟨n3.os.trans N.os, n3.tape.trans N.tape, n3.output.trans N.output, Nat.le_trans N.size n3.size, fun i hi hn => (n3.block i (by omega) (by omega)).trans (N.block i hi hn)⟩
    clear n3 N FD o8
    obtain ⟨y0, y1, v0, v1⟩ := TZ
    have O := (Only.setCell w9 w.heap.size 0 (.slice a1 X.1.length c1)).trans (Only.setCell _ w.heap.size 1 (.slice a1' X.2.length c1'))
    go_wp2
    refine bodyPost_ret (v := .agg #[.slice a1 X.1.length c1, .slice a1' X.2.length c1']) (by simp [results, Tryd.results83, go_sem, y0, y1]) rfl ⟨?_, (N2.setCell (Nat.le_refl _)).setCell (Nat.le_refl _)⟩
    rw [HD.out]
    exact ⟨a1, a1', c1, c1', g1, g1', rfl, o1.only O (fun _ => by omega), o1'.only O (fun _ => by omega), by omega, by omega⟩
  · have HD : Hid (R = fdP 40 (dbF xs (t + 1) 32)) := by show _ = _; rw [HR.out, if_neg (by decide), if_neg (by decide), if_neg (by decide), if_neg (by decide)]
    clear HR
    go_wp2_with fail
    refine (DB.out w1 (t + 1) 32 S1 hr1 (by omega) (by omega)).mono ?_
    rintro e w8 ⟨⟨a8, c8, g8, rfl, o8, _, _, l8⟩, S8, N8⟩
    have z8 := N8.size
    have LB := hide (dbF_len xs (t + 1) 32)
    have BY := hide (dbF_byt xs (t + 1) 32)
    replace TZ := TZ.of_block' (N8.block w.heap.size (by omega) (by omega))
    replace N := N.trans N8
    clear N8 S8 DB NY CH NW S1
    generalize dbF xs (t + 1) 32 = B at *
    rw [LB.out]
    obtain ⟨o8f, ea, _⟩ := id o8 (by rw [LB.out]; decide)
    subst ea
    have zg := o8.rd.lt (by rw [LB.out]; decide)
    have FD := hide (l5Find_any w8 g8 o8f c8 B o8 BY.out LB.out)
    generalize fdP 40 B = X at *
    go_wp2_with fail
    refine FD.out.mono ?_
    rintro r w9 ⟨⟨a1, a1', c1, c1', g1, g1', rfl, o1, o1', l1, l1'⟩, n3⟩
    have z9 := n3.size
    replace TZ := TZ.of_block' (n3.block w.heap.size (by omega) (by omega))
    have N2 : But s w w9 := ⟨n3.os.trans N.os, n3.tape.trans N.tape, n3.output.trans N.output, Nat.le_trans N.size n3.size, fun i hi hn => (n3.block i (by omega) (by omega)).trans (N.block i hi hn)⟩
    clear n3 N FD o8
    obtain ⟨y0, y1, v0, v1⟩ := TZ
    have O := (Only.setCell w9 w.heap.size 0 (.slice a1 X.1.length c1)).trans (Only.setCell _ w.heap.size 1 (.slice a1' X.2.length c1'))
    go_wp2
    refine bodyPost_ret (v := .agg #[.slice a1 X.1.length c1, .slice a1' X.2.length c1']) (by simp [results, Tryd.results83, go_sem, y0, y1]) rfl ⟨?_, (N2.setCell (Nat.le_refl _)).setCell (Nat.le_refl _)⟩
    rw [HD.out]
    exact ⟨a1, a1', c1, c1', g1, g1', rfl, o1.only O (fun _ => by omega), o1'.only O (fun _ => by omega), by omega, by omega⟩
end Go.Proofs.YthapcapiiknjdaaDoor

/-
  The point that a law draws.
-/
namespace Go.Proofs.YthapcapiiknjdaaDoor
set_option maxRecDepth 100000
open Go Go.RowKit

theorem dc_byt (ys : List Int) : Byt (dcX ys) ∧ Byt (dcY ys) := by
  unfold dcX dcY
  by_cases h : dcB ys = true
  · rw [if_pos h, if_pos h]
    exact li_byt _ _
  · rw [if_neg h, if_neg h]
    exact ⟨byt_nil, byt_nil⟩
def BytP (p : List Int × List Int) : Prop := Byt p.1 ∧ Byt p.2
theorem bytP_mk {x y : List Int} (h : Byt x ∧ Byt y) : BytP (x, y) := h
theorem fdP_byt : ∀ n ys, BytP (fdP n ys)
  | 0, _ => by rw [fdP]; exact bytP_mk (li_byt _ _)
  | n + 1, ys => by
    rw [fdP]
    by_cases h : dcB ys = true
    · rw [if_pos h]
      exact bytP_mk (dc_byt ys)
    · rw [if_neg h]
      exact fdP_byt n _
theorem pa_byt (px py qx qy : List Int) : Byt (paX px py qx qy) ∧ Byt (paY px py qx qy) := by
  unfold paX paY
  by_cases h : validP px py = true ∧ validP qx qy = true
  · rw [if_pos h, if_pos h]
    exact ⟨bytes_5 _ _, bytes_5 _ _⟩
  · rw [if_neg h, if_neg h]
    exact ⟨byt_nil, byt_nil⟩
theorem ptok_byt {xs ys : List Int} (h : PtOk xs ys) : Byt xs ∧ Byt ys := ⟨h.1.1, h.2.1⟩
theorem smP_byt (k : Int) : BytP (smP k) := ptok_byt (smP_ok k)
theorem drP_byt (xs : List Int) (t : Int) : BytP (drP xs t) := by
  unfold drP
  by_cases h0 : nxF xs t 8 = 0
  · rw [if_pos h0]; exact smP_byt _
  rw [if_neg h0]
  by_cases h1 : nxF xs t 8 = 1
  · rw [if_pos h1]; exact bytP_mk (pa_byt _ _ _ _)
  rw [if_neg h1]
  by_cases h2 : nxF xs t 8 < 4
  · rw [if_pos h2]; exact bytP_mk (ptok_byt (pl_ok _))
  rw [if_neg h2]
  by_cases h4 : nxF xs t 8 = 4
  · rw [if_pos h4]
    by_cases h5 : nxF xs (t + 1) 2 = 0
    · rw [if_pos h5]
      by_cases j0 : nxF xs (t + 1 + 1) 4 = 0
      · rw [if_pos j0]; exact bytP_mk ⟨dbF_byt _ _ _, bs_byt.2⟩
      rw [if_neg j0]
      by_cases j1 : nxF xs (t + 1 + 1) 4 = 1
      · rw [if_pos j1]; exact bytP_mk ⟨bs_byt.1, dbF_byt _ _ _⟩
      rw [if_neg j1]
      by_cases j2 : nxF xs (t + 1 + 1) 4 = 2
      · rw [if_pos j2]; exact bytP_mk ⟨dig_bytes_5 pbytes_byt 32, bytes_5 _ _⟩
      rw [if_neg j2]
      exact bytP_mk ⟨byt_nil, byt_nil⟩
    · rw [if_neg h5]; exact fdP_byt _ _
  · rw [if_neg h4]; exact fdP_byt _ _
theorem Below.ofBut {w w1 w2 : World} {s : Nat} (h : Below w.heap.size w w1) (k : But s w1 w2) (hs : w.heap.size ≤ s) : Below w.heap.size w w2 :=
  ⟨k.os.trans h.os, k.tape.trans h.tape, k.output.trans h.output, Nat.le_trans h.size k.size, fun i hi => (k.block i (Nat.lt_of_lt_of_le hi h.size) (by omega)).trans (h.block i hi)⟩
set_option maxHeartbeats 400000 in
theorem l1SourceB_any (w : World) (a : Option Addr) (n c : Nat) (hn : n ≤ 4194304) :
    Calls Tryd.prog 81 #[.slice a n c] w fun e w' => e = .returned (.pointer (some ⟨w.heap.size, 0, none⟩)) ∧ Src w' w.heap.size a n c 0 ∧ Below w.heap.size w w' := by
  by_cases h : 12 < (n : Int) / 16
  · have t1 : decide (12 < (n : Int) / 16) = true := by simp; omega
    go_enter Tryd.func81, Tryd.ntmps81
    go_wp2
    go_ret
    exact ⟨rfl, ⟨by simp [World.cell?_alloc_at], by simp [World.cell?_alloc_at], by simp [World.frozen?_alloc_at]⟩, (Below.refl _ _).alloc (Nat.le_refl _) _⟩
  · have t1 : decide (12 < (n : Int) / 16) = false := by simp; omega
    go_enter Tryd.func81, Tryd.ntmps81
    go_wp2
    go_ret
    exact ⟨rfl, ⟨by simp [World.cell?_alloc_at], by simp [World.cell?_alloc_at], by simp [World.frozen?_alloc_at]⟩, (Below.refl _ _).alloc (Nat.le_refl _) _⟩
set_option maxHeartbeats 1000000 in
theorem drawNeg_any (w : World) (g : Nat) (a : Option Addr) (c : Nat) (xs : List Int) (hr : Rd w g a .u8 xs) (hb : Byt xs) (hl : xs.length ≤ 4194304) :
    Calls Tryd.prog 80 #[.slice a xs.length c] w fun r w' => NewPt w.heap.size w' r (drP xs 0).1 (drP xs 0).2 ∧ Below w.heap.size w w' := by
  have TZ : Two (w.alloc pObj) w.heap.size (.slice none 0 0) (.slice none 0 0) := Two.new w (.slice none 0 0) (.slice none 0 0) 24
  have N : Below w.heap.size w (w.alloc pObj) := (Below.refl _ _).alloc (Nat.le_refl _) _
  have DW := hide (fun W (s : Nat) (hs : Src W s a xs.length c 0) (h : Rd W g a .u8 xs) (hn : 0 < xs.length → g ≠ s) => l5DrawV_any W s g a c xs 0 hs h hn hb hl (by decide) (by decide))
  have SO := hide (fun W => l1SourceB_any W a xs.length c hl)
  have hg := hide (fun h => hr.lt h)
  generalize drP xs 0 = X at *
  go_enter Tryd.func80, Tryd.ntmps80
  go_upto_region 1 with fail
  change Code.wp _ _ _ _ (w.alloc pObj)
  generalize w.alloc pObj = wz at *
  go_wp2_with fail
  refine (SO.out wz).mono ?_
  rintro e w1 ⟨rfl, S1, n1⟩
  have zz := TZ.lt
  have z1 := n1.size
  replace TZ := TZ.up n1
  replace N := nxt N n1
  have hr1 := hr.up N
  have sl := S1.lt
  clear n1 SO
  go_wp2_with fail
  refine (DW.out w1 wz.heap.size S1 hr1 (fun h => by have := hg.out h; omega)).mono ?_
  rintro r w2 ⟨⟨a1, a1', c1, c1', g1, g1', rfl, o1, o1', l1, l1'⟩, n2⟩
  replace TZ := TZ.of_block' (n2.block w.heap.size (by omega) (by omega))
  replace N := Below.ofBut N n2 (by omega)
  clear n2 DW S1 hr1
  obtain ⟨y0, y1, v0, v1⟩ := TZ
  have O := (Only.setCell w2 w.heap.size 0 (.slice a1 X.1.length c1)).trans (Only.setCell _ w.heap.size 1 (.slice a1' X.2.length c1'))
  go_wp2
  refine bodyPost_ret (v := .agg #[.slice a1 X.1.length c1, .slice a1' X.2.length c1']) (by simp [results, Tryd.results80, go_sem, y0, y1]) rfl ⟨?_, (N.setCell (Nat.le_refl _) _).setCell (Nat.le_refl _) _⟩
  exact ⟨a1, a1', c1, c1', g1, g1', rfl, o1.only O (fun _ => by omega), o1'.only O (fun _ => by omega), by omega, by omega⟩
/-- The valid point of a code. -/
def lpP (xs : List Int) : List Int × List Int := if validP (drP xs 0).1 (drP xs 0).2 = true then drP xs 0 else (bsX, bsY)
set_option maxHeartbeats 2000000 in
theorem lwPoint_any (w : World) (g : Nat) (a : Option Addr) (c : Nat) (xs : List Int) (hr : Rd w g a .u8 xs) (hb : Byt xs) (hl : xs.length ≤ 4194304) :
    Calls Tryd.prog 44 #[.slice a xs.length c] w fun r w' => NewPt w.heap.size w' r (lpP xs).1 (lpP xs).2 ∧ Below w.heap.size w w' := by
  have TZ : Two (w.alloc pObj) w.heap.size (.slice none 0 0) (.slice none 0 0) := Two.new w (.slice none 0 0) (.slice none 0 0) 24
  have N : Below w.heap.size w (w.alloc pObj) := (Below.refl _ _).alloc (Nat.le_refl _) _
  have DW := hide (fun W (h : Rd W g a .u8 xs) => drawNeg_any W g a c xs h hb hl)
  have XB := hide (drP_byt xs 0)
  obtain ⟨R, hR⟩ : ∃ R, R = lpP xs := ⟨_, rfl⟩
  rw [← hR]
  unfold lpP at hR
  have HR := hide hR
  clear hR
  generalize drP xs 0 = X at *
  go_enter Tryd.func44, Tryd.ntmps44
  go_upto_region 1 with fail
  change Code.wp _ _ _ _ (w.alloc pObj)
  have hr0 := hr.up N
  generalize w.alloc pObj = wz at *
  go_wp2_with fail
  refine (DW.out wz hr0).mono ?_
  rintro r w1 ⟨⟨a1, a1', c1, c1', g1, g1', rfl, o1, o1', l1, l1'⟩, n1⟩
  have zz := TZ.lt
  have z1 := n1.size
  have TP := Two.new w1 (.slice a1 X.1.length c1) (.slice a1' X.2.length c1') 24
  have n2 : Below w1.heap.size w1 (w1.alloc (.cells #[.slice a1 X.1.length c1, .slice a1' X.2.length c1'] 24)) := (Below.refl _ _).alloc (Nat.le_refl _) _
  replace TZ := (TZ.up n1).up n2
  replace N := nxt (nxt N n1) n2
  replace o1 := o1.up n2
  replace o1' := o1'.up n2
  have z2 := n2.size
  clear n1 n2 DW hr0
  have zl := TP.lt
  have VA := hide (pointValid_any _ g1 g1' a1 a1' c1 c1' X.1 X.2 o1.rd o1'.rd XB.out.1 XB.out.2)
  obtain ⟨p0, p1, pf0, pf1⟩ := id TP
  obtain ⟨v, hv⟩ : ∃ v, v = validP X.1 X.2 := ⟨_, rfl⟩
  rw [← hv] at VA HR
  clear hv
  go_wp2_with fail
  generalize w1.alloc (.cells #[.slice a1 X.1.length c1, .slice a1' X.2.length c1'] 24) = w2 at *
  refine VA.out.mono ?_
  rintro e w3 ⟨rfl, n3⟩
  have z3 := n3.size
  replace TZ := TZ.up n3
  replace TP := TP.up n3
  replace N := nxt N n3
  replace o1 := o1.up n3
  replace o1' := o1'.up n3
  clear n3 VA p0 p1 pf0 pf1
  cases v with
  | true =>
    have HD : Hid (R = X) := by show _ = _; rw [HR.out, if_pos rfl]
    clear HR
    obtain ⟨p0, p1, pf0, pf1⟩ := TP
    obtain ⟨y0, y1, v0, v1⟩ := TZ
    have O := (Only.setCell w3 w.heap.size 0 (.slice a1 X.1.length c1)).trans (Only.setCell _ w.heap.size 1 (.slice a1' X.2.length c1'))
    go_wp2
    refine bodyPost_ret (v := .agg #[.slice a1 X.1.length c1, .slice a1' X.2.length c1']) (by simp [results, Tryd.results44, go_sem, y0, y1]) rfl ⟨?_, (N.setCell (Nat.le_refl _) _).setCell (Nat.le_refl _) _⟩
    rw [HD.out]
    exact ⟨a1, a1', c1, c1', g1, g1', rfl, o1.only O (fun _ => by omega), o1'.only O (fun _ => by omega), by omega, by omega⟩
  | false =>
    have HD : Hid (R = (bsX, bsY)) := by show _ = _; rw [HR.out, if_neg (by decide)]
    clear HR o1 o1'
    have SB : Hid (Calls Tryd.prog 23 #[] w3 fun r w' => NewPt w3.heap.size w' r bsX bsY ∧ Below w3.heap.size w3 w') := specBase_any w3
    generalize bsX = bx at *
    generalize bsY = by' at *
    go_wp2_with fail
    refine SB.out.mono ?_
    rintro r w4 ⟨⟨a4, a4', c4, c4', g4, g4', rfl, o4, o4', l4, l4'⟩, n4⟩
    have z4 := n4.size
    replace TZ := TZ.up n4
    replace N := nxt N n4
    clear n4 SB
    obtain ⟨y0, y1, v0, v1⟩ := TZ
    have O := (Only.setCell w4 w.heap.size 0 (.slice a4 bx.length c4)).trans (Only.setCell _ w.heap.size 1 (.slice a4' by'.length c4'))
    go_wp2
    refine bodyPost_ret (v := .agg #[.slice a4 bx.length c4, .slice a4' by'.length c4']) (by simp [results, Tryd.results44, go_sem, y0, y1]) rfl ⟨?_, (N.setCell (Nat.le_refl _) _).setCell (Nat.le_refl _) _⟩
    rw [HD.out]
    exact ⟨a4, a4', c4, c4', g4, g4', rfl, o4.only O (fun _ => by omega), o4'.only O (fun _ => by omega), by omega, by omega⟩
end Go.Proofs.YthapcapiiknjdaaDoor

/-
  The group of the curve in lists of bytes. Numbers alone.
-/
namespace Go.Proofs.YthapcapiiknjdaaDoor
set_option maxRecDepth 100000
open Go Go.RowKit

/-- A point of the curve in canonical coordinates. -/
structure Pv (p : Int × Int) : Prop where
  on : OnP PP (-1) d0 p
  cn : Cn p
def lx (p : Int × Int) : List Int := fill (byt p.1) 32
def ly (p : Int × Int) : List Int := fill (byt p.2) 32
theorem lx_byt (p : Int × Int) : Byt (lx p) := bytes_5 _ _
theorem ly_byt (p : Int × Int) : Byt (ly p) := bytes_5 _ _
theorem lx_len (p : Int × Int) : (lx p).length = 32 := fill_len _ _
theorem ly_len (p : Int × Int) : (ly p).length = 32 := fill_len _ _
theorem num_fill {v : Int} (h0 : 0 ≤ v) (h1 : v < PP) : num (fill (byt v) 32) = v := by
  have e := num_modS v
  rwa [Int.emod_eq_of_lt h0 h1] at e
theorem lx_num {p : Int × Int} (h : Pv p) : num (lx p) = p.1 := num_fill h.cn.x.1 h.cn.x.2
theorem ly_num {p : Int × Int} (h : Pv p) : num (ly p) = p.2 := num_fill h.cn.y.1 h.cn.y.2
theorem can_fill {v : Int} (h0 : 0 ≤ v) (h1 : v < PP) : canN (fill (byt v) 32) = true := by
  unfold canN
  rw [num_fill h0 h1, fill_len, decide_eq_true h1]
  rfl
theorem lv_valid {p : Int × Int} (h : Pv p) : validP (lx p) (ly p) = true := by
  unfold validP
  rw [lx_num h, ly_num h, show canN (lx p) = true from can_fill h.cn.x.1 h.cn.x.2, show canN (ly p) = true from can_fill h.cn.y.1 h.cn.y.2, on_valid h.on]
  rfl
theorem pv_of {xs ys : List Int} (hx : Byt xs) (hy : Byt ys) (h : validP xs ys = true) : Pv (num xs, num ys) ∧ xs = lx (num xs, num ys) ∧ ys = ly (num xs, num ys) := by
  have x1 := valid_x1 h
  have y1 := valid_y1 h
  refine ⟨⟨on_of h, ⟨num_ge hx, can_lt x1⟩, ⟨num_ge hy, can_lt y1⟩⟩, ?_, ?_⟩
  · have e := fill_can hx x1
    rw [Int.emod_eq_of_lt (num_ge hx) (can_lt x1)] at e
    exact e.symm
  · have e := fill_can hy y1
    rw [Int.emod_eq_of_lt (num_ge hy) (can_lt y1)] at e
    exact e.symm
theorem Pv.add {p q : Int × Int} (hp : Pv p) (hq : Pv q) : Pv (pAdd p q) := ⟨pAdd_on hp.on hq.on, pAdd_cn _ _⟩
theorem Pv.neg {p : Int × Int} (hp : Pv p) : Pv (pNeg p) := ⟨pNeg_on hp.on, pNeg_cn hp.cn⟩
theorem pa_of {p q : Int × Int} (hp : Pv p) (hq : Pv q) : paX (lx p) (ly p) (lx q) (ly q) = lx (pAdd p q) ∧ paY (lx p) (ly p) (lx q) (ly q) = ly (pAdd p q) := by
  unfold paX paY
  rw [if_pos ⟨lv_valid hp, lv_valid hq⟩, if_pos ⟨lv_valid hp, lv_valid hq⟩, lx_num hp, ly_num hp, lx_num hq, ly_num hq]
  exact ⟨rfl, rfl⟩
theorem ns_of {p : Int × Int} (hp : Pv p) : nsX (lx p) (ly p) = lx (pNeg p) ∧ nsY (lx p) (ly p) = ly (pNeg p) := by
  unfold nsX nsY
  rw [if_pos (lv_valid hp), if_pos (lv_valid hp), lx_num hp]
  exact ⟨rfl, rfl⟩
def pZero : Int × Int := (0, 1)
theorem pv_zero : Pv pZero := ⟨by show PP ∣ _; decide, zero_cn⟩
theorem ze_of : fill (byt (0 % PP)) 32 = lx pZero ∧ fill (byt (1 % PP)) 32 = ly pZero := ⟨rfl, rfl⟩
theorem pv_base : Pv (bX, bY) := ⟨base_on, base_cn⟩
theorem bs_of : bsX = lx (bX, bY) ∧ bsY = ly (bX, bY) := by
  have h : liB (4 * iv 5) false = true := by
    unfold liB
    rw [base_lift.1]
    simp
  have e1 : bX % PP = bX := Int.emod_eq_of_lt base_cn.x.1 base_cn.x.2
  unfold bsX bsY liX liY
  rw [if_pos h, if_pos h, base_lift.2, base_mod]
  refine ⟨?_, rfl⟩
  show fill (byt (bX % PP)) 32 = _
  rw [e1]
  rfl
/-- The point that is drawn. -/
theorem lpP_is {xs : List Int} : ∃ p, Pv p ∧ lpP xs = (lx p, ly p) := by
  have hb := drP_byt xs 0
  unfold lpP
  generalize drP xs 0 = X at *
  by_cases h : validP X.1 X.2 = true
  · rw [if_pos h]
    obtain ⟨k, e1, e2⟩ := pv_of hb.1 hb.2 h
    exact ⟨_, k, Prod.ext e1 e2⟩
  · rw [if_neg h]
    exact ⟨_, pv_base, by rw [bs_of.1, bs_of.2]⟩
theorem grp_comm {p q : Int × Int} (hp : Pv p) (hq : Pv q) : pAdd p q = pAdd q p := pAdd_comm hp.on hq.on
theorem grp_assoc {p q r : Int × Int} (hp : Pv p) (hq : Pv q) (hr : Pv r) : pAdd (pAdd p q) r = pAdd p (pAdd q r) := pAdd_assoc hp.on hq.on hr.on
theorem grp_zero {p : Int × Int} (hp : Pv p) : pAdd p pZero = p := pAdd_zero hp.on hp.cn
theorem grp_neg {p : Int × Int} (hp : Pv p) : pAdd p (pNeg p) = pZero := pAdd_neg hp.on
end Go.Proofs.YthapcapiiknjdaaDoor

/-
  Two points that are the same, as the laws ask it.
-/
namespace Go.Proofs.YthapcapiiknjdaaDoor
set_option maxRecDepth 100000
open Go Go.RowKit

set_option maxHeartbeats 2000000 in
theorem lwSamePoint_same (w : World) (g g' h h' : Nat) (a b p q : Option Addr) (ca cb cp cq : Nat) (ys ss : List Int) (h1 : Rd w g a .u8 ys) (h2 : Rd w h p .u8 ss) (h3 : Rd w g' b .u8 ys) (h4 : Rd w h' q .u8 ss) :
    Calls Tryd.prog 46 #[.agg #[.slice a ys.length ca, .slice p ss.length cp], .agg #[.slice b ys.length cb, .slice q ss.length cq]] w fun e w' => e = .returned (.bool true) ∧ Below w.heap.size w w' := by
  have n0 : Below w.heap.size w (w.alloc (.cells #[.slice a ys.length ca, .slice p ss.length cp] 24)) := (Below.refl _ _).alloc (Nat.le_refl _) _
  have n1 : Below w.heap.size w ((w.alloc (.cells #[.slice a ys.length ca, .slice p ss.length cp] 24)).alloc (.cells #[.slice b ys.length cb, .slice q ss.length cq] 24)) := n0.alloc (by simp) _
  have L1 := hide (lwSame_same _ g g' a b ca cb ys (h1.up n1) (h3.up n1))
  have L2 := hide (lwSame_same _ h h' p q cp cq ss (h2.up n1) (h4.up n1))
  go_enter Tryd.func46, Tryd.ntmps46
  go_wp2_with fail
  refine L1.out.mono ?_
  rintro e w3 ⟨rfl, rfl⟩
  go_wp2_with fail
  refine L2.out.mono ?_
  rintro e w4 ⟨rfl, rfl⟩
  go_wp2
  go_ret
  exact ⟨rfl, n1⟩
end Go.Proofs.YthapcapiiknjdaaDoor

/-
  The law of PointNegate.
-/
namespace Go.Proofs.YthapcapiiknjdaaDoor
set_option maxRecDepth 100000
open Go Go.RowKit

theorem ngX_eq (xs ys : List Int) : ngX dGo xs ys = nsX xs ys := by
  unfold ngX nsX
  rw [rp_valid]
  by_cases h : validP xs ys = true
  · rw [if_pos h, if_pos h, rpX_of h]
  · rw [if_neg h, if_neg h]
theorem ngY_eq {ys : List Int} (hb : Byt ys) (xs : List Int) : ngY dGo xs ys = nsY xs ys := by
  unfold ngY nsY
  rw [rp_valid]
  by_cases h : validP xs ys = true
  · rw [if_pos h, if_pos h, rpY_of h, fill_can hb (valid_y1 h)]
  · rw [if_neg h, if_neg h]
theorem ns_len1 (xs ys : List Int) : (nsX xs ys).length ≤ 1048576 := by
  unfold nsX
  split
  · rw [fill_len]; omega
  · simp
theorem ns_len2 (xs ys : List Int) : (nsY xs ys).length ≤ 1048576 := by
  unfold nsY
  split
  · rename_i h
    have := (valid_len h).2
    omega
  · simp
theorem laid_pneg {W : World} (h : laidMetH Tryd.prog Rows.fnExactPointNegateRow.laid W) : HasB W := ⟨tw_of_reads (reads_of h (by kernel_rfl) (.head _)), cf_of_reads (reads_of h (by kernel_rfl) (.tail _ (.head _)))⟩
set_option maxHeartbeats 8000000 in
theorem pneg_law (w : World) (g0 : Nat) (a0 : Option Addr) (c0 : Nat) (X0 : List Int) (hX0 : Rd w g0 a0 .u8 X0) (bX0 : Byt X0) (lX0 : X0.length < 9223372036854775808) (g0' : Nat) (a0' : Option Addr) (c0' : Nat) (Y0 : List Int) (hY0 : Rd w g0' a0' .u8 Y0) (bY0 : Byt Y0) (lY0 : Y0.length < 9223372036854775808) (hL : HasB w) :
    Calls Tryd.prog 9 #[.agg #[.slice a0 X0.length c0, .slice a0' Y0.length c0']] w fun e w' => e = .returned (.bool true) ∧ Below w.heap.size w w' := by
  have SP := fun W g1 g2 a1 a2 c1 c2 h1 h2 => specNegate_any W g1 g2 a1 a2 c1 c2 X0 Y0 h1 h2 bX0 bY0
  have IM := fun W g1 g2 a1 a2 c1 c2 h1 h2 (n : Below w.heap.size w W) => implNegate_any W g1 g2 a1 a2 c1 c2 X0 Y0 h1 h2 bX0 bY0 dGo (hL.1.up n) (hL.2.up n)
  simp only [ngX_eq, ngY_eq bY0] at IM
  have lrx : (nsX X0 Y0).length ≤ 1048576 := ns_len1 _ _
  obtain ⟨rx, hrx⟩ : ∃ l, l = nsX X0 Y0 := ⟨_, rfl⟩
  simp only [← hrx] at SP IM lrx
  clear hrx
  have lry : (nsY X0 Y0).length ≤ 1048576 := ns_len2 _ _
  obtain ⟨ry, hry⟩ : ∃ l, l = nsY X0 Y0 := ⟨_, rfl⟩
  simp only [← hry] at SP IM lry
  clear hry
  clear hL
  by_cases q0 : (X0.length + Y0.length) ≤ 1048576
  · skip
    have SZ0 := fun W => szPoint_any W a0 a0' X0.length c0 Y0.length c0' ((1048576 : Int)) lX0 lY0 (by omega) (by omega)
    rw [if_neg (show ¬ ((1048576 : Int)) < (X0.length : Int) + (Y0.length : Int) by omega)] at SZ0
    have t0 : decide (((1048576 : Int)) - (X0.length : Int) - (Y0.length : Int) < 0) = false := by simp; omega
    go_enter Tryd.func9, Tryd.ntmps9
    go_upto_region 1 with fail
    have B0 := Two.new w (.slice a0 X0.length c0) (.slice a0' Y0.length c0') 29
    have nb0 : Below w.heap.size w (w.alloc (.cells #[.slice a0 X0.length c0, .slice a0' Y0.length c0'] 29)) := (Below.refl _ _).alloc (Nat.le_refl _) _
    have sb0 : (w.alloc (.cells #[.slice a0 X0.length c0, .slice a0' Y0.length c0'] 29)).heap.size = w.heap.size + 1 := by simp
    generalize w.alloc (.cells #[.slice a0 X0.length c0, .slice a0' Y0.length c0'] 29) = v0 at *
    have N := nb0
    have zv : w.heap.size + 1 ≤ v0.heap.size := by omega
    clear nb0 sb0
    have B00 := B0.c0
    have B01 := B0.c1
    go_wp2_with fail
    refine (SZ0 v0).mono ?_
    rintro e w1 ⟨rfl, n1⟩
    clear B00 B01
    replace B0 := B0.up n1
    replace N := nxt N n1
    have zn1 := n1.size
    clear n1
    have B00 := B0.c0
    have B01 := B0.c1
    go_wp2_with fail
    refine (toPoint_any w1 g0 g0' a0 a0' c0 c0' X0 Y0 (hX0.up N) (hY0.up N) (by omega) (by omega)).mono ?_
    rintro e w2 ⟨m0p, m0q, rfl, m0x, m0y, m01, m02, n2⟩
    clear B00 B01
    replace B0 := B0.up n2
    replace N := nxt N n2
    have zn2 := n2.size
    clear n2
    have m03 := m0y.lt
    have m04 := m0x.lt
    go_wp2_with fail
    refine (SP w2 _ _ _ _ _ _ m0x.own0.rd m0y.own0.rd).mono ?_
    rintro e w3 ⟨⟨sa, sa', sc, sc', sg, sg', rfl, so, so', sl, sl'⟩, n3⟩
    replace B0 := B0.up n3
    replace m0x := m0x.up n3
    replace m0y := m0y.up n3
    replace N := nxt N n3
    have zn3 := n3.size
    clear n3
    have o4 : PrP w3 sg sa rx sg' sa' ry := ⟨so, so'⟩
    clear so so'
    have Y4 := hide o4.l.rd.lt
    have Y4' := hide o4.r.rd.lt
    clear m0x m0y
    have T4 := Two.new w3 (.slice sa rx.length sc) (.slice sa' ry.length sc') 24
    have n4 : Below w3.heap.size w3 (w3.alloc (.cells #[.slice sa rx.length sc, .slice sa' ry.length sc'] 24)) := (Below.refl _ _).alloc (Nat.le_refl _) _
    replace B0 := B0.up n4
    replace o4 := o4.up n4
    replace N := nxt N n4
    clear n4
    have B00 := B0.c0
    have B01 := B0.c1
    go_wp2_with fail
    generalize w3.alloc (.cells #[.slice sa rx.length sc, .slice sa' ry.length sc'] 24) = w4 at *
    have uT4 := T4.lt
    refine (toPoint_any w4 g0 g0' a0 a0' c0 c0' X0 Y0 (hX0.up N) (hY0.up N) (by omega) (by omega)).mono ?_
    rintro e w5 ⟨x0p, x0q, rfl, x0x, x0y, x01, x02, n5⟩
    clear B00 B01
    replace B0 := B0.up n5
    replace o4 := o4.up n5
    replace T4 := T4.up n5
    replace N := nxt N n5
    have zn5 := n5.size
    clear n5
    have x03 := x0y.lt
    have x04 := x0x.lt
    have T50 := Two.new w5 (.slice (some ⟨x0p, 0, none⟩) X0.length X0.length) (.slice (some ⟨x0q, 0, none⟩) Y0.length Y0.length) 24
    have n6 : Below w5.heap.size w5 (w5.alloc (.cells #[.slice (some ⟨x0p, 0, none⟩) X0.length X0.length, .slice (some ⟨x0q, 0, none⟩) Y0.length Y0.length] 24)) := (Below.refl _ _).alloc (Nat.le_refl _) _
    replace B0 := B0.up n6
    replace o4 := o4.up n6
    replace T4 := T4.up n6
    replace x0x := x0x.up n6
    replace x0y := x0y.up n6
    replace N := nxt N n6
    clear n6
    have T500 := T50.c0
    have T501 := T50.c1
    go_wp2_with fail
    generalize w5.alloc (.cells #[.slice (some ⟨x0p, 0, none⟩) X0.length X0.length, .slice (some ⟨x0q, 0, none⟩) Y0.length Y0.length] 24) = w6 at *
    have uT50 := T50.lt
    refine (IM w6 _ _ _ _ _ _ x0x.own0.rd x0y.own0.rd N).mono ?_
    rintro e w7 ⟨NR, n7⟩
    clear T500 T501
    have zn7 := n7.size
    obtain ⟨i6a, i6c, i6g, i6a', i6c', i6g', rfl, o6, i6l, i6h, i6l', i6h', i6r, i6r'⟩ := NR.at (B' := w5.heap.size) (by omega) (by omega)
    replace B0 := B0.up n7
    replace o4 := o4.up n7
    replace T4 := T4.up n7
    replace x0x := x0x.up n7
    replace x0y := x0y.up n7
    replace T50 := T50.up n7
    replace N := nxt N n7
    clear n7
    have T6 := Two.new w7 (.slice i6a rx.length i6c) (.slice i6a' ry.length i6c') 24
    have n8 : Below w7.heap.size w7 (w7.alloc (.cells #[.slice i6a rx.length i6c, .slice i6a' ry.length i6c'] 24)) := (Below.refl _ _).alloc (Nat.le_refl _) _
    replace B0 := B0.up n8
    replace o4 := o4.up n8
    replace T4 := T4.up n8
    replace x0x := x0x.up n8
    replace x0y := x0y.up n8
    replace T50 := T50.up n8
    replace o6 := o6.up n8
    replace N := nxt N n8
    clear n8
    have T60 := T6.c0
    have T61 := T6.c1
    have T40 := T4.c0
    have T41 := T4.c1
    go_wp2_with fail
    generalize w7.alloc (.cells #[.slice i6a rx.length i6c, .slice i6a' ry.length i6c'] 24) = w8 at *
    have uT6 := T6.lt
    refine (eqPoint_same w8 _ _ _ _ _ _ _ _ _ _ _ _ rx ry o6 o4 lrx lry).mono ?_
    rintro e w9 ⟨rfl, n9⟩
    clear T60 T61 T40 T41
    replace B0 := B0.up n9
    replace o4 := o4.up n9
    replace T4 := T4.up n9
    replace x0x := x0x.up n9
    replace x0y := x0y.up n9
    replace T50 := T50.up n9
    replace o6 := o6.up n9
    replace T6 := T6.up n9
    replace N := nxt N n9
    have zn9 := n9.size
    clear n9
    go_upto_region 10 with fail
    refine region_end 5 (fun i => [Fact.eq (.agg #[.slice (some ⟨x0p, 0, none⟩) X0.length X0.length, .slice (some ⟨x0q, 0, none⟩) Y0.length Y0.length]), Fact.eq (.agg #[.slice a0 X0.length c0, .slice a0' Y0.length c0']), PR X0 Y0, Fact.eq (.bool true), Fact.eq (.bool (!true))].getD i Fact.no) (by kernel_rfl) (by kernel_rfl) rfl ?_ ?_
    · intro i hi
      obtain rfl | rfl | rfl | rfl | rfl : i = 0 ∨ i = 1 ∨ i = 2 ∨ i = 3 ∨ i = 4 := by omega
      · exact step_l2 _ uP iP rfl 5 rfl (by kernel_rfl) _ rfl _ _ T50 rfl
      · exact step_l2 _ uLP iLP rfl 1 rfl (by kernel_rfl) _ rfl _ _ B0 rfl
      · exact step_toP rfl 28 1 rfl (by kernel_rfl) (hX0.up N) (hY0.up N) (by omega) (by omega) rfl rfl
      · exact step_eqP rfl 27 29 0 2 rfl (by kernel_rfl) (by kernel_rfl) (g := x0p) (g' := x0q) ⟨x0x.own0, x0y.own0⟩ (by omega) (by omega) rfl rfl rfl
      · exact step_notb rfl 30 3 rfl (by kernel_rfl) rfl rfl
    intro A w10 hb n10 hF
    have e2 := hF 4 31 (by kernel_rfl)
    obtain ⟨vs, hvs⟩ : ∃ vs : Nat → Value, ∀ d, A.tmps.getD d undef = vs d := ⟨_, fun _ => rfl⟩
    rw [hvs] at e2
    rw [puts_of (md := .any) (k := 5) (by kernel_rfl) rfl hb vs hvs]
    clear hb hF hvs
    have e3 : vs 31 = .bool false := e2
    clear e2
    simp only [puts, e3, Act.put, List.setIfInBounds_toArray, List.set_cons_succ, List.set_cons_zero]
    clear e3
    replace B0 := B0.up n10
    replace o4 := o4.up n10
    replace T4 := T4.up n10
    replace x0x := x0x.up n10
    replace x0y := x0y.up n10
    replace T50 := T50.up n10
    replace o6 := o6.up n10
    replace T6 := T6.up n10
    replace N := nxt N n10
    have zn10 := n10.size
    clear n10
    have T500 := T50.c0
    have T501 := T50.c1
    go_wp2_with fail
    refine (markPoint_any w10 x0p x0q _ _ _ _ X0 Y0 (1) ⟨x0x.own0, x0y.own0⟩ (by omega) (by omega) (by omega) (by omega) (fun _ => by omega) (fun _ => by omega) (by omega)).mono ?_
    rintro e w11 ⟨rfl, _, O11⟩
    have zz11 := O11.size
    clear T500 T501
    clear x0x x0y T50
    have NN := N.size
    replace N := N.trans (O11.below (B := w.heap.size) (by omega) (by omega) (by omega))
    clear NN
    replace B0 := B0.butP O11 (by omega) (by omega)
    replace o4 := o4.butP O11 (fun h => ⟨by have := Y4.out h; omega, by have := Y4.out h; omega⟩) (fun h => ⟨by have := Y4'.out h; omega, by have := Y4'.out h; omega⟩)
    replace T4 := T4.butP O11 (by omega) (by omega)
    replace o6 := o6.butP O11 (fun h => ⟨by have := i6r h; omega, by have := i6r h; omega⟩) (fun h => ⟨by have := i6r' h; omega, by have := i6r' h; omega⟩)
    replace T6 := T6.butP O11 (by omega) (by omega)
    clear O11
    have tk : decide ((1 + (X0.length : Int) + (Y0.length : Int) : Int) < 0) = false := by simp; omega
    have T60 := T6.c0
    have T61 := T6.c1
    have T40 := T4.c0
    have T41 := T4.c1
    go_wp2_with fail
    refine (eqPoint_same w11 _ _ _ _ _ _ _ _ _ _ _ _ rx ry o6 o4 lrx lry).mono ?_
    rintro e w12 ⟨rfl, n12⟩
    clear T60 T61 T40 T41
    replace B0 := B0.up n12
    replace o4 := o4.up n12
    replace T4 := T4.up n12
    replace o6 := o6.up n12
    replace T6 := T6.up n12
    replace N := nxt N n12
    have zn12 := n12.size
    clear n12
    have T60 := T6.c0
    have T61 := T6.c1
    go_wp2_with fail
    refine (markPoint_any w12 i6g i6g' _ _ _ _ rx ry 1 o6 lrx lry (by omega) (by omega) (fun h => (i6r h).2) (fun h => (i6r' h).2) (by omega)).mono ?_
    rintro e w13 ⟨rfl, oH, OH⟩
    have zzH := OH.size
    clear T60 T61
    clear o6
    have NN := N.size
    replace N := N.trans (OH.below (B := w.heap.size) (by omega) (by omega) (by omega))
    clear NN
    replace B0 := B0.butP OH (by omega) (by omega)
    replace o4 := o4.butP OH (fun h => ⟨by have := Y4.out h; omega, by have := Y4.out h; omega⟩) (fun h => ⟨by have := Y4'.out h; omega, by have := Y4'.out h; omega⟩)
    replace T4 := T4.butP OH (by omega) (by omega)
    replace T6 := T6.butP OH (by omega) (by omega)
    clear OH
    have t4 : decide ((1 : Int) + (rx.length : Int) + (ry.length : Int) < 0) = false := by simp; omega
    have T60 := T6.c0
    have T61 := T6.c1
    go_wp2_with fail
    refine (heldPoint_any w13 i6g i6g' _ _ _ _ rx.length ry.length 1 oH lrx lry (by omega) (by omega)).mono ?_
    rintro e w14 ⟨rfl, n14⟩
    clear T60 T61
    replace B0 := B0.up n14
    replace o4 := o4.up n14
    replace T4 := T4.up n14
    replace T6 := T6.up n14
    replace oH := oH.up n14
    replace N := nxt N n14
    have zn14 := n14.size
    clear n14
    have B00 := B0.c0
    have B01 := B0.c1
    go_wp2_with fail
    refine (toPoint_any w14 g0 g0' a0 a0' c0 c0' X0 Y0 (hX0.up N) (hY0.up N) (by omega) (by omega)).mono ?_
    rintro e w15 ⟨y0p, y0q, rfl, y0x, y0y, y01, y02, n15⟩
    clear B00 B01
    replace B0 := B0.up n15
    replace o4 := o4.up n15
    replace T4 := T4.up n15
    replace T6 := T6.up n15
    replace oH := oH.up n15
    replace N := nxt N n15
    have zn15 := n15.size
    clear n15
    have y03 := y0y.lt
    have y04 := y0x.lt
    go_wp2_with fail
    refine (IM w15 _ _ _ _ _ _ y0x.own0.rd y0y.own0.rd N).mono ?_
    rintro e w16 ⟨NR, n16⟩
    have zn16 := n16.size
    obtain ⟨i9a, i9c, i9g, i9a', i9c', i9g', rfl, i9o, i9o', i9l, i9l', i9r⟩ := NR
    have o9 : PrP w16 i9g i9a rx i9g' i9a' ry := ⟨i9o, i9o'⟩
    clear i9o i9o'
    replace B0 := B0.up n16
    replace o4 := o4.up n16
    replace T4 := T4.up n16
    replace T6 := T6.up n16
    replace oH := oH.up n16
    replace y0x := y0x.up n16
    replace y0y := y0y.up n16
    replace N := nxt N n16
    clear n16
    clear y0x y0y
    have T9 := Two.new w16 (.slice i9a rx.length i9c) (.slice i9a' ry.length i9c') 24
    have n17 : Below w16.heap.size w16 (w16.alloc (.cells #[.slice i9a rx.length i9c, .slice i9a' ry.length i9c'] 24)) := (Below.refl _ _).alloc (Nat.le_refl _) _
    replace B0 := B0.up n17
    replace o4 := o4.up n17
    replace T4 := T4.up n17
    replace T6 := T6.up n17
    replace oH := oH.up n17
    replace o9 := o9.up n17
    replace N := nxt N n17
    clear n17
    have T90 := T9.c0
    have T91 := T9.c1
    have T40 := T4.c0
    have T41 := T4.c1
    go_wp2_with fail
    generalize w16.alloc (.cells #[.slice i9a rx.length i9c, .slice i9a' ry.length i9c'] 24) = w17 at *
    have uT9 := T9.lt
    refine (eqPoint_same w17 _ _ _ _ _ _ _ _ _ _ _ _ rx ry o9 o4 lrx lry).mono ?_
    rintro e w18 ⟨rfl, n18⟩
    clear T90 T91 T40 T41
    replace B0 := B0.up n18
    replace o4 := o4.up n18
    replace T4 := T4.up n18
    replace T6 := T6.up n18
    replace oH := oH.up n18
    replace o9 := o9.up n18
    replace T9 := T9.up n18
    replace N := nxt N n18
    have zn18 := n18.size
    clear n18
    clear o9 o4 T9 T4
    have T60 := T6.c0
    have T61 := T6.c1
    go_wp2_with fail
    refine (heldPoint_any w18 i6g i6g' _ _ _ _ rx.length ry.length 1 oH lrx lry (by omega) (by omega)).mono ?_
    rintro e w19 ⟨rfl, n19⟩
    clear T60 T61
    replace B0 := B0.up n19
    replace T6 := T6.up n19
    replace oH := oH.up n19
    replace N := nxt N n19
    have zn19 := n19.size
    clear n19
    go_wp2
    go_ret
    exact ⟨rfl, N⟩
  · skip
    have SZ0 := fun W => szPoint_any W a0 a0' X0.length c0 Y0.length c0' ((1048576 : Int)) lX0 lY0 (by omega) (by omega)
    rw [if_pos (show ((1048576 : Int)) < (X0.length : Int) + (Y0.length : Int) by omega)] at SZ0
    go_enter Tryd.func9, Tryd.ntmps9
    go_upto_region 1 with fail
    have B0 := Two.new w (.slice a0 X0.length c0) (.slice a0' Y0.length c0') 29
    have nb0 : Below w.heap.size w (w.alloc (.cells #[.slice a0 X0.length c0, .slice a0' Y0.length c0'] 29)) := (Below.refl _ _).alloc (Nat.le_refl _) _
    have sb0 : (w.alloc (.cells #[.slice a0 X0.length c0, .slice a0' Y0.length c0'] 29)).heap.size = w.heap.size + 1 := by simp
    generalize w.alloc (.cells #[.slice a0 X0.length c0, .slice a0' Y0.length c0'] 29) = v0 at *
    have N := nb0
    have zv : w.heap.size + 1 ≤ v0.heap.size := by omega
    clear nb0 sb0
    have B00 := B0.c0
    have B01 := B0.c1
    go_wp2_with fail
    refine (SZ0 v0).mono ?_
    rintro e w1 ⟨rfl, n1⟩
    clear B00 B01
    replace B0 := B0.up n1
    replace N := nxt N n1
    have zn1 := n1.size
    clear n1
    go_wp2
    go_ret
    exact ⟨rfl, N⟩
end Go.Proofs.YthapcapiiknjdaaDoor

/-
  The program's PointZero, PointBase, PointToLadder.
-/
namespace Go.Proofs.YthapcapiiknjdaaDoor
set_option maxRecDepth 100000
open Go Go.RowKit

set_option maxHeartbeats 2000000 in
theorem implZero_any (w : World) (ZP : RowN w 0 0 [0, 1]) :
    Calls Tryd.prog 15 #[] w fun r w' => NewP2 w.heap.size w' r (fill (byt ((0) % PP)) 32) (fill (byt ((1) % PP)) 32) ∧ Below w.heap.size w w' := by
  have TZ := Two.new w (.slice none 0 0) (.slice none 0 0) 24
  have N : Below w.heap.size w (w.alloc pObj) := (Below.refl _ _).alloc (Nat.le_refl _) _
  go_enter Tryd.func15, Tryd.ntmps15
  go_upto_region 1 with fail
  obtain ⟨wr, hwr⟩ : ∃ W, W = w.alloc pObj := ⟨_, rfl⟩
  change Two (w.alloc pObj) _ _ _ at TZ
  rw [← hwr] at TZ N
  change Code.wp _ _ _ _ (w.alloc pObj)
  rw [← hwr]
  clear hwr
  replace ZP := ZP.up N
  refine region_putD 2 1 0 2 _ (fun i => [EN [0, 1], PD wr (fill (byt ((0) % PP)) 32) (fill (byt ((1) % PP)) 32)].getD i Fact.no) (fill (byt ((0) % PP)) 32) (fill (byt ((1) % PP)) 32) _ (by kernel_rfl) rfl rfl rfl (by kernel_rfl) rfl TZ.there (by kernel_rfl) rfl ?_ ?_
  · intro i hi
    obtain rfl | rfl : i = 0 ∨ i = 1 := by omega
    · exact step_glA rfl 0 rfl _ _ ZP rfl
    · exact step_pt rfl 1 0 _ _ rfl (by kernel_rfl) rfl rfl
  intro vsL Wa Wb b b' k k' h h' na rg o1 o2 l1 l2 hne nb
  have z := N.size
  have NS := nb w w.heap.size (nxt N na) (by omega)
  simp only [puts, Act.put, List.setIfInBounds_toArray, List.set_cons_succ, List.set_cons_zero]
  clear na nb N TZ ZP
  obtain ⟨fs, hfs⟩ := uP
  go_wp2
  exact bodyPost_ret (v := .agg #[.slice b _ k, .slice b' _ k']) (results_cell_mid Tryd.results15 _ _ w.heap.size [.slice b _ k, .slice b' _ k'] _ rfl rg hfs rfl iP) rfl ⟨⟨b, k, h, b', k', h', rfl, o1, o2, by omega, by omega, hne⟩, NS⟩
set_option maxHeartbeats 2000000 in
theorem implBase_any (w : World) (X Y : Int) (ZP : RowN w 1 0 [X, Y]) :
    Calls Tryd.prog 24 #[] w fun r w' => NewP2 w.heap.size w' r (fill (byt ((X) % PP)) 32) (fill (byt ((Y) % PP)) 32) ∧ Below w.heap.size w w' := by
  have TZ := Two.new w (.slice none 0 0) (.slice none 0 0) 24
  have N : Below w.heap.size w (w.alloc pObj) := (Below.refl _ _).alloc (Nat.le_refl _) _
  go_enter Tryd.func24, Tryd.ntmps24
  go_upto_region 1 with fail
  obtain ⟨wr, hwr⟩ : ∃ W, W = w.alloc pObj := ⟨_, rfl⟩
  change Two (w.alloc pObj) _ _ _ at TZ
  rw [← hwr] at TZ N
  change Code.wp _ _ _ _ (w.alloc pObj)
  rw [← hwr]
  clear hwr
  replace ZP := ZP.up N
  refine region_putD 2 1 0 2 _ (fun i => [EN [X, Y], PD wr (fill (byt ((X) % PP)) 32) (fill (byt ((Y) % PP)) 32)].getD i Fact.no) (fill (byt ((X) % PP)) 32) (fill (byt ((Y) % PP)) 32) _ (by kernel_rfl) rfl rfl rfl (by kernel_rfl) rfl TZ.there (by kernel_rfl) rfl ?_ ?_
  · intro i hi
    obtain rfl | rfl : i = 0 ∨ i = 1 := by omega
    · exact step_glA rfl 1 rfl _ _ ZP rfl
    · exact step_pt rfl 1 0 _ _ rfl (by kernel_rfl) rfl rfl
  intro vsL Wa Wb b b' k k' h h' na rg o1 o2 l1 l2 hne nb
  have z := N.size
  have NS := nb w w.heap.size (nxt N na) (by omega)
  simp only [puts, Act.put, List.setIfInBounds_toArray, List.set_cons_succ, List.set_cons_zero]
  clear na nb N TZ ZP
  obtain ⟨fs, hfs⟩ := uP
  go_wp2
  exact bodyPost_ret (v := .agg #[.slice b _ k, .slice b' _ k']) (results_cell_mid Tryd.results24 _ _ w.heap.size [.slice b _ k, .slice b' _ k'] _ rfl rg hfs rfl iP) rfl ⟨⟨b, k, h, b', k', h', rfl, o1, o2, by omega, by omega, hne⟩, NS⟩
/-- The ladder's coordinate of a point, as bytes. -/
def tlA (D : Int) (xs ys : List Int) : List Int := if rpB D xs ys = true then fill (byt ((1 + rpY xs ys) * (1 - rpY xs ys) ^ eInv % PP)) 32 else []
set_option maxHeartbeats 2000000 in
theorem implToLadder_any (w : World) (g g' : Nat) (a a' : Option Addr) (c c' : Nat) (xs ys : List Int) (hx : Rd w g a .u8 xs) (hy : Rd w g' a' .u8 ys) (bx : Byt xs) (by' : Byt ys) (D : Int) (TT : HasTw w 3) (CC : Em5 w 2 0 D) (SS : HasSt w 7) (II : Has3 w 4 12 5 4) :
    Calls Tryd.prog 31 #[.agg #[.slice a xs.length c, .slice a' ys.length c']] w fun r w' => NewRow w.heap.size w' r .u8 (tlA D xs ys) ∧ Below w.heap.size w w' := by
  have T := two_cells w (.slice a xs.length c) (.slice a' ys.length c') 24
  have m1 : Below w.heap.size w (w.alloc (.cells #[.slice a xs.length c, .slice a' ys.length c'] 24)) := (Below.refl _ _).alloc (Nat.le_refl _) _
  have s1 : (w.alloc (.cells #[.slice a xs.length c, .slice a' ys.length c'] 24)).heap.size = w.heap.size + 1 := by simp
  have RX : RdOk w a xs := ⟨g, hx, bx⟩
  have RY : RdOk w a' ys := ⟨g', hy, by'⟩
  obtain ⟨CX, CY⟩ := T
  clear hx hy bx by'
  go_enter Tryd.func31, Tryd.ntmps31
  go_upto_region 1 with fail
  generalize w.alloc (.cells #[.slice a xs.length c, .slice a' ys.length c'] 24) = wa at *
  have N := m1
  clear m1 s1
  replace RX := RX.up N
  replace RY := RY.up N
  replace TT := TT.up N
  replace CC := CC.up N
  replace SS := SS.up N
  replace II := II.up N
  refine region_newN_asg 58 6 5 3 3 8 4 9 4 _ _ (fun i => [Fact.eq (.agg #[.slice a xs.length c, .slice a' ys.length c']), TB [rpX xs ys, rpY xs ys] (rpB D xs ys), TB [rpX xs ys, rpY xs ys] (rpB D xs ys), EN [rpX xs ys, rpY xs ys], Fact.eq (.bool (rpB D xs ys)), NB wa 10].getD i Fact.no) [rpX xs ys, rpY xs ys] (.bool (rpB D xs ys)) (by kernel_rfl) rfl rfl rfl rfl rfl rfl iA (Nat.zero_lt_succ _) rfl rfl rfl (by kernel_rfl) (by kernel_rfl) (by kernel_rfl) rfl rfl rfl (by decide) (by kernel_rfl) ?_ ?_
  · intro i hi
    obtain rfl | rfl | rfl | rfl | rfl | rfl : i = 0 ∨ i = 1 ∨ i = 2 ∨ i = 3 ∨ i = 4 ∨ i = 5 := by omega
    · exact step_lP rfl 1 rfl (by kernel_rfl) _ rfl _ _ CX CY rfl
    · exact step_rp TT CC rfl 6 0 rfl (by kernel_rfl) RX RY rfl rfl
    · exact step_move rfl 7 1 (by exact Or.inl rfl) (by kernel_rfl) rfl
    · exact step_tx0 rfl 5 2 _ _ rfl (by kernel_rfl) rfl rfl
    · exact step_tx1 rfl 5 2 _ _ rfl (by kernel_rfl) rfl rfl
    · exact step_newA rfl rfl rfl
  intro vs1 q3 W1 v3 b4 l3 n E3 T3
  replace RX := RX.up n
  replace RY := RY.up n
  replace TT := TT.up n
  replace CC := CC.up n
  replace SS := SS.up n
  replace II := II.up n
  replace CX := (n.cell (block_lt_of_cell CX)).trans CX
  replace CY := (n.cell (block_lt_of_cell CY)).trans CY
  replace N := nxt N n
  clear n T3 l3
  obtain ⟨ok1, hok1⟩ : ∃ b, b = rpB D xs ys := ⟨_, rfl⟩
  rw [← hok1] at b4
  have HK1 := hide hok1
  clear hok1
  simp only [puts, v3, b4, Act.put, List.setIfInBounds_toArray, List.set_cons_succ, List.set_cons_zero]
  clear v3 b4
  cases ok1 with
  | false =>
    have e1 : tlA D xs ys = [] := by unfold tlA; rw [← HK1.out]; rfl
    clear RX RY TT CC SS II E3 CX CY
    go_wp2
    go_ret
    exact ⟨by rw [e1]; exact ⟨none, 0, w.heap.size, rfl, Own.nil _ _ _ _, fun _ => rfl, Nat.le_refl _, Nat.le_refl _⟩, N⟩
  | true =>
    have e1 : tlA D xs ys = (fill (byt (((1 + (rpY xs ys)) * (1 - (rpY xs ys)) ^ eInv) % PP)) 32) := by unfold tlA; rw [if_pos HK1.out.symm]
    go_upto_region 4 with fail
    refine region_end 4 (fun i => [EN [rpX xs ys, rpY xs ys], EM ((1 + (rpY xs ys)) * (1 - (rpY xs ys)) ^ eInv), RN W1 (fun u9 => u9 = fill (byt (((1 + (rpY xs ys)) * (1 - (rpY xs ys)) ^ eInv) % PP)) 32), RN W1 (fun u9 => u9 = fill (byt (((1 + (rpY xs ys)) * (1 - (rpY xs ys)) ^ eInv) % PP)) 32)].getD i Fact.no) (by kernel_rfl) (by kernel_rfl) rfl ?_ ?_
    · intro i hi
      obtain rfl | rfl | rfl | rfl : i = 0 ∨ i = 1 ∨ i = 2 ∨ i = 3 := by omega
      · exact step_lA rfl 3 rfl (by kernel_rfl) _ rfl _ _  E3 rfl
      · exact step_coord TT SS II rfl 12 0 _ _ rfl (by kernel_rfl) rfl rfl
      · exact step_eb rfl 13 1 _ rfl (by kernel_rfl) rfl rfl
      · exact step_move rfl 14 2 (by exact Or.inr rfl) (by kernel_rfl) rfl
    intro A W hb hw hF
    have e2 := hF 3 2 (by kernel_rfl)
    obtain ⟨vs, hvs⟩ : ∃ vs : Nat → Value, ∀ d, A.tmps.getD d undef = vs d := ⟨_, fun _ => rfl⟩
    rw [hvs] at e2
    rw [puts_of (md := .any) (k := 4) (by kernel_rfl) rfl hb vs hvs]
    have N9 := nxt N hw
    have z := N.size
    clear hb hF hvs hw RX RY TT CC SS II E3 CX CY
    obtain ⟨zs, b, d, h, e3, o3, l3, hzs, k1, k2⟩ := e2
    replace hzs : zs = (fill (byt (((1 + (rpY xs ys)) * (1 - (rpY xs ys)) ^ eInv) % PP)) 32) := hzs
    subst hzs
    simp only [puts, e3, Act.put, List.setIfInBounds_toArray, List.set_cons_succ, List.set_cons_zero]
    go_wp2
    go_ret
    exact ⟨by rw [e1]; exact ⟨b, d, h, rfl, o3, k1, k2, by omega⟩, N9⟩
end Go.Proofs.YthapcapiiknjdaaDoor

/-
  The program's sum of two points is the model's. Numbers alone.
-/
namespace Go.Proofs.YthapcapiiknjdaaDoor
set_option maxRecDepth 100000

theorem iv_eInv (z : Int) : iv z = z ^ eInv := by
  unfold iv
  rw [show eIv = eInv from by decide +kernel]
/-- A point in extended coordinates, told by two. -/
theorem ex_plain {X Y Z T : Int} {q : Int × Int} (h : Ex X Y Z T q) : X * Z ^ eInv % PP = q.1 % PP ∧ Y * Z ^ eInv % PP = q.2 % PP := by
  have k := pj_plain h.pj
  simp only [iv_eInv] at k
  exact k
theorem add_mod (p q : Int × Int) : addX p q % PP = (eadd (-1) d0 einv p q).1 % PP ∧ addY p q % PP = (eadd (-1) d0 einv p q).2 % PP := by
  have h := pAdd_pe p q
  have h1 := cong_dvd h.1
  have h2 := cong_dvd h.2
  unfold pAdd at h1 h2
  simp only [Int.emod_emod_of_dvd _ (Int.dvd_refl PP)] at h1 h2
  exact ⟨h1, h2⟩
theorem ps_ok {p q : Int × Int} (hp : OnP PP (-1) d0 p) (hq : OnP PP (-1) d0 q) :
    psX dGo p.1 p.2 q.1 q.2 * psZ dGo p.1 p.2 q.1 q.2 ^ eInv % PP = addX p q % PP ∧ psY dGo p.1 p.2 q.1 q.2 * psZ dGo p.1 p.2 q.1 q.2 ^ eInv % PP = addY p q % PP := by
  have e := ex_plain (ex_sum dGo_is hp hq (ex_one p) (ex_one q))
  have a := add_mod p q
  exact ⟨e.1.trans a.1.symm, e.2.trans a.2.symm⟩
theorem adX_eq (xs ys us vs : List Int) : adX dGo xs ys us vs = paX xs ys us vs := by
  unfold adX paX
  rw [rp_valid, rp_valid]
  by_cases h : validP xs ys = true ∧ validP us vs = true
  · rw [if_pos h, if_pos (by simp [h.1, h.2]), rpX_of h.1, rpY_of h.1, rpX_of h.2, rpY_of h.2]
    rw [(ps_ok (on_of h.1) (on_of h.2)).1]
  · rw [if_neg h, if_neg (by simpa using h)]
theorem adY_eq (xs ys us vs : List Int) : adY dGo xs ys us vs = paY xs ys us vs := by
  unfold adY paY
  rw [rp_valid, rp_valid]
  by_cases h : validP xs ys = true ∧ validP us vs = true
  · rw [if_pos h, if_pos (by simp [h.1, h.2]), rpX_of h.1, rpY_of h.1, rpX_of h.2, rpY_of h.2]
    rw [(ps_ok (on_of h.1) (on_of h.2)).2]
  · rw [if_neg h, if_neg (by simpa using h)]
theorem pa_len1 (xs ys us vs : List Int) : (paX xs ys us vs).length ≤ 1048576 := by
  unfold paX
  split
  · rw [fill_len]; omega
  · simp
theorem pa_len2 (xs ys us vs : List Int) : (paY xs ys us vs).length ≤ 1048576 := by
  unfold paY
  split
  · rw [fill_len]; omega
  · simp
end Go.Proofs.YthapcapiiknjdaaDoor

/-
  The law of PointToLadder.
-/
namespace Go.Proofs.YthapcapiiknjdaaDoor
set_option maxRecDepth 100000
open Go Go.RowKit

theorem tlA_eq (xs ys : List Int) : tlA dGo xs ys = toLad xs ys := by
  unfold tlA toLad
  rw [rp_valid]
  by_cases h : validP xs ys = true
  · rw [if_pos h, if_pos h, rpY_of h, iv_eInv]
  · rw [if_neg h, if_neg h]
theorem tl_len (xs ys : List Int) : (toLad xs ys).length ≤ 1048576 := by
  unfold toLad
  split
  · rw [fill_len]; omega
  · simp
/-- The tables that sums of points need. -/
def HasA (w : World) : Prop := HasTw w 3 ∧ Em5 w 2 0 dGo ∧ HasSt w 7 ∧ Has3 w 4 12 5 4
theorem hasA_of {l : List (String × DataW Unit)} {W : World} (h : laidMetH Tryd.prog l W) (hp : (l.all fun x => x.2.handleName?.isNone) = true)
    (h1 : ("loop.example/g00004/impl.chainSteps", Rows.laid_loop_example_g00004_impl_chainSteps) ∈ l) (h2 : ("loop.example/g00004/impl.inverseStep", Rows.laid_loop_example_g00004_impl_inverseStep) ∈ l)
    (h3 : ("loop.example/g00004/impl.twiceP", Rows.laid_loop_example_g00004_impl_twiceP) ∈ l) (h4 : ("loop.example/g00004/impl.curveFactor", Rows.laid_loop_example_g00004_impl_curveFactor) ∈ l) : HasA W :=
  ⟨tw_of_reads (reads_of h hp h3), cf_of_reads (reads_of h hp h4), st_of_reads (reads_of h hp h1), three_of_reads gIn tIn (reads_of h hp h2)⟩
theorem laid_ptl {W : World} (h : laidMetH Tryd.prog Rows.fnExactPointToLadderRow.laid W) : HasA W := hasA_of h (by kernel_rfl) (.head _) (.tail _ (.head _)) (.tail _ (.tail _ (.head _))) (.tail _ (.tail _ (.tail _ (.head _))))
set_option maxHeartbeats 8000000 in
theorem ptl_law (w : World) (g0 : Nat) (a0 : Option Addr) (c0 : Nat) (X0 : List Int) (hX0 : Rd w g0 a0 .u8 X0) (bX0 : Byt X0) (lX0 : X0.length < 9223372036854775808) (g0' : Nat) (a0' : Option Addr) (c0' : Nat) (Y0 : List Int) (hY0 : Rd w g0' a0' .u8 Y0) (bY0 : Byt Y0) (lY0 : Y0.length < 9223372036854775808) (hL : HasA w) :
    Calls Tryd.prog 7 #[.agg #[.slice a0 X0.length c0, .slice a0' Y0.length c0']] w fun e w' => e = .returned (.bool true) ∧ Below w.heap.size w w' := by
  have SP := fun W g1 g2 a1 a2 c1 c2 h1 h2 => pointToLadder_any W g1 g2 a1 a2 c1 c2 X0 Y0 h1 h2 bX0 bY0
  have IM := fun W g1 g2 a1 a2 c1 c2 h1 h2 (n : Below w.heap.size w W) => implToLadder_any W g1 g2 a1 a2 c1 c2 X0 Y0 h1 h2 bX0 bY0 dGo (hL.1.up n) (hL.2.1.up n) (hL.2.2.1.up n) (hL.2.2.2.up n)
  simp only [tlA_eq] at IM
  have lrx : (toLad X0 Y0).length ≤ 1048576 := tl_len _ _
  obtain ⟨rx, hrx⟩ : ∃ l, l = toLad X0 Y0 := ⟨_, rfl⟩
  simp only [← hrx] at SP IM lrx
  clear hrx
  clear hL
  by_cases q0 : (X0.length + Y0.length) ≤ 1048576
  · skip
    have SZ0 := fun W => szPoint_any W a0 a0' X0.length c0 Y0.length c0' ((1048576 : Int)) lX0 lY0 (by omega) (by omega)
    rw [if_neg (show ¬ ((1048576 : Int)) < (X0.length : Int) + (Y0.length : Int) by omega)] at SZ0
    have t0 : decide (((1048576 : Int)) - (X0.length : Int) - (Y0.length : Int) < 0) = false := by simp; omega
    go_enter Tryd.func7, Tryd.ntmps7
    go_upto_region 1 with fail
    have B0 := Two.new w (.slice a0 X0.length c0) (.slice a0' Y0.length c0') 29
    have nb0 : Below w.heap.size w (w.alloc (.cells #[.slice a0 X0.length c0, .slice a0' Y0.length c0'] 29)) := (Below.refl _ _).alloc (Nat.le_refl _) _
    have sb0 : (w.alloc (.cells #[.slice a0 X0.length c0, .slice a0' Y0.length c0'] 29)).heap.size = w.heap.size + 1 := by simp
    generalize w.alloc (.cells #[.slice a0 X0.length c0, .slice a0' Y0.length c0'] 29) = v0 at *
    have N := nb0
    have zv : w.heap.size + 1 ≤ v0.heap.size := by omega
    clear nb0 sb0
    have B00 := B0.c0
    have B01 := B0.c1
    go_wp2_with fail
    refine (SZ0 v0).mono ?_
    rintro e w1 ⟨rfl, n1⟩
    clear B00 B01
    replace B0 := B0.up n1
    replace N := nxt N n1
    have zn1 := n1.size
    clear n1
    have B00 := B0.c0
    have B01 := B0.c1
    go_wp2_with fail
    refine (toPoint_any w1 g0 g0' a0 a0' c0 c0' X0 Y0 (hX0.up N) (hY0.up N) (by omega) (by omega)).mono ?_
    rintro e w2 ⟨m0p, m0q, rfl, m0x, m0y, m01, m02, n2⟩
    clear B00 B01
    replace B0 := B0.up n2
    replace N := nxt N n2
    have zn2 := n2.size
    clear n2
    have m03 := m0y.lt
    have m04 := m0x.lt
    go_wp2_with fail
    refine (SP w2 _ _ _ _ _ _ m0x.own0.rd m0y.own0.rd).mono ?_
    rintro e w3 ⟨⟨sa, sc, sg, rfl, o4, sk1, sk2, sl⟩, n3⟩
    replace B0 := B0.up n3
    replace m0x := m0x.up n3
    replace m0y := m0y.up n3
    replace N := nxt N n3
    have zn3 := n3.size
    clear n3
    clear sk1 sk2
    have Y4 := hide o4.rd.lt
    clear m0x m0y
    have B00 := B0.c0
    have B01 := B0.c1
    go_wp2_with fail
    refine (toPoint_any w3 g0 g0' a0 a0' c0 c0' X0 Y0 (hX0.up N) (hY0.up N) (by omega) (by omega)).mono ?_
    rintro e w4 ⟨x0p, x0q, rfl, x0x, x0y, x01, x02, n4⟩
    clear B00 B01
    replace B0 := B0.up n4
    replace o4 := o4.up n4
    replace N := nxt N n4
    have zn4 := n4.size
    clear n4
    have x03 := x0y.lt
    have x04 := x0x.lt
    have T50 := Two.new w4 (.slice (some ⟨x0p, 0, none⟩) X0.length X0.length) (.slice (some ⟨x0q, 0, none⟩) Y0.length Y0.length) 24
    have n5 : Below w4.heap.size w4 (w4.alloc (.cells #[.slice (some ⟨x0p, 0, none⟩) X0.length X0.length, .slice (some ⟨x0q, 0, none⟩) Y0.length Y0.length] 24)) := (Below.refl _ _).alloc (Nat.le_refl _) _
    replace B0 := B0.up n5
    replace o4 := o4.up n5
    replace x0x := x0x.up n5
    replace x0y := x0y.up n5
    replace N := nxt N n5
    clear n5
    have T500 := T50.c0
    have T501 := T50.c1
    go_wp2_with fail
    generalize w4.alloc (.cells #[.slice (some ⟨x0p, 0, none⟩) X0.length X0.length, .slice (some ⟨x0q, 0, none⟩) Y0.length Y0.length] 24) = w5 at *
    have uT50 := T50.lt
    refine (IM w5 _ _ _ _ _ _ x0x.own0.rd x0y.own0.rd N).mono ?_
    rintro e w6 ⟨⟨i6a, i6c, i6g, rfl, o6, i6k1, i6k2, i6l⟩, n6⟩
    clear T500 T501
    replace B0 := B0.up n6
    replace o4 := o4.up n6
    replace x0x := x0x.up n6
    replace x0y := x0y.up n6
    replace T50 := T50.up n6
    replace N := nxt N n6
    have zn6 := n6.size
    clear n6
    clear i6k1 i6k2
    go_wp2_with fail
    refine (eqByteS_same w6 _ _ _ _ _ _ rx o6.rd o4.rd lrx).mono ?_
    rintro e w7 ⟨rfl, n7⟩
    replace B0 := B0.up n7
    replace o4 := o4.up n7
    replace x0x := x0x.up n7
    replace x0y := x0y.up n7
    replace T50 := T50.up n7
    replace o6 := o6.up n7
    replace N := nxt N n7
    have zn7 := n7.size
    clear n7
    go_upto_region 10 with fail
    refine region_end 5 (fun i => [Fact.eq (.agg #[.slice (some ⟨x0p, 0, none⟩) X0.length X0.length, .slice (some ⟨x0q, 0, none⟩) Y0.length Y0.length]), Fact.eq (.agg #[.slice a0 X0.length c0, .slice a0' Y0.length c0']), PR X0 Y0, Fact.eq (.bool true), Fact.eq (.bool (!true))].getD i Fact.no) (by kernel_rfl) (by kernel_rfl) rfl ?_ ?_
    · intro i hi
      obtain rfl | rfl | rfl | rfl | rfl : i = 0 ∨ i = 1 ∨ i = 2 ∨ i = 3 ∨ i = 4 := by omega
      · exact step_l2 _ uP iP rfl 5 rfl (by kernel_rfl) _ rfl _ _ T50 rfl
      · exact step_l2 _ uLP iLP rfl 1 rfl (by kernel_rfl) _ rfl _ _ B0 rfl
      · exact step_toP rfl 28 1 rfl (by kernel_rfl) (hX0.up N) (hY0.up N) (by omega) (by omega) rfl rfl
      · exact step_eqP rfl 27 29 0 2 rfl (by kernel_rfl) (by kernel_rfl) (g := x0p) (g' := x0q) ⟨x0x.own0, x0y.own0⟩ (by omega) (by omega) rfl rfl rfl
      · exact step_notb rfl 30 3 rfl (by kernel_rfl) rfl rfl
    intro A w8 hb n8 hF
    have e2 := hF 4 31 (by kernel_rfl)
    obtain ⟨vs, hvs⟩ : ∃ vs : Nat → Value, ∀ d, A.tmps.getD d undef = vs d := ⟨_, fun _ => rfl⟩
    rw [hvs] at e2
    rw [puts_of (md := .any) (k := 5) (by kernel_rfl) rfl hb vs hvs]
    clear hb hF hvs
    have e3 : vs 31 = .bool false := e2
    clear e2
    simp only [puts, e3, Act.put, List.setIfInBounds_toArray, List.set_cons_succ, List.set_cons_zero]
    clear e3
    replace B0 := B0.up n8
    replace o4 := o4.up n8
    replace x0x := x0x.up n8
    replace x0y := x0y.up n8
    replace T50 := T50.up n8
    replace o6 := o6.up n8
    replace N := nxt N n8
    have zn8 := n8.size
    clear n8
    have T500 := T50.c0
    have T501 := T50.c1
    go_wp2_with fail
    refine (markPoint_any w8 x0p x0q _ _ _ _ X0 Y0 (1) ⟨x0x.own0, x0y.own0⟩ (by omega) (by omega) (by omega) (by omega) (fun _ => by omega) (fun _ => by omega) (by omega)).mono ?_
    rintro e w9 ⟨rfl, _, O9⟩
    have zz9 := O9.size
    clear T500 T501
    clear x0x x0y T50
    have NN := N.size
    replace N := N.trans (O9.below (B := w.heap.size) (by omega) (by omega) (by omega))
    clear NN
    replace B0 := B0.butP O9 (by omega) (by omega)
    replace o4 := o4.butP O9 (fun h => ⟨by have := Y4.out h; omega, by have := Y4.out h; omega⟩)
    replace o6 := o6.butP O9 (fun h => ⟨by omega, by omega⟩)
    clear O9
    have tk : decide ((1 + (X0.length : Int) + (Y0.length : Int) : Int) < 0) = false := by simp; omega
    go_wp2_with fail
    refine (eqByteS_same w9 _ _ _ _ _ _ rx o6.rd o4.rd lrx).mono ?_
    rintro e w10 ⟨rfl, n10⟩
    replace B0 := B0.up n10
    replace o4 := o4.up n10
    replace o6 := o6.up n10
    replace N := nxt N n10
    have zn10 := n10.size
    clear n10
    go_wp2_with fail
    refine (markByteS_any w10 _ _ _ rx 1 o6 lrx (by omega) (by omega)).mono ?_
    rintro e w11 ⟨rfl, oH, OH⟩
    have zzH := OH.size
    clear o6
    have NN := N.size
    replace N := N.trans (OH.below (B := w.heap.size) (by omega))
    clear NN
    replace B0 := B0.only OH (by omega)
    replace o4 := o4.only OH (fun h => by have := Y4.out h; omega)
    clear OH
    have t4 : decide ((1 : Int) + (rx.length : Int) < 0) = false := by simp; omega
    go_wp2_with fail
    refine (heldByteS_any w11 _ _ _ rx.length 1 oH.rd lrx (by omega) (by omega)).mono ?_
    rintro e w12 ⟨rfl, eW⟩
    subst eW
    have B00 := B0.c0
    have B01 := B0.c1
    go_wp2_with fail
    refine (toPoint_any w12 g0 g0' a0 a0' c0 c0' X0 Y0 (hX0.up N) (hY0.up N) (by omega) (by omega)).mono ?_
    rintro e w13 ⟨y0p, y0q, rfl, y0x, y0y, y01, y02, n13⟩
    clear B00 B01
    replace B0 := B0.up n13
    replace o4 := o4.up n13
    replace oH := oH.up n13
    replace N := nxt N n13
    have zn13 := n13.size
    clear n13
    have y03 := y0y.lt
    have y04 := y0x.lt
    go_wp2_with fail
    refine (IM w13 _ _ _ _ _ _ y0x.own0.rd y0y.own0.rd N).mono ?_
    rintro e w14 ⟨⟨i9a, i9c, i9g, rfl, o9, i9k1, i9k2, i9l⟩, n14⟩
    replace B0 := B0.up n14
    replace o4 := o4.up n14
    replace oH := oH.up n14
    replace y0x := y0x.up n14
    replace y0y := y0y.up n14
    replace N := nxt N n14
    have zn14 := n14.size
    clear n14
    clear i9k1 i9k2
    clear y0x y0y
    go_wp2_with fail
    refine (eqByteS_same w14 _ _ _ _ _ _ rx o9.rd o4.rd lrx).mono ?_
    rintro e w15 ⟨rfl, n15⟩
    replace B0 := B0.up n15
    replace o4 := o4.up n15
    replace oH := oH.up n15
    replace o9 := o9.up n15
    replace N := nxt N n15
    have zn15 := n15.size
    clear n15
    clear o9 o4
    go_wp2_with fail
    refine (heldByteS_any w15 _ _ _ rx.length 1 oH.rd lrx (by omega) (by omega)).mono ?_
    rintro e w16 ⟨rfl, eW⟩
    subst eW
    go_wp2
    go_ret
    exact ⟨rfl, N⟩
  · skip
    have SZ0 := fun W => szPoint_any W a0 a0' X0.length c0 Y0.length c0' ((1048576 : Int)) lX0 lY0 (by omega) (by omega)
    rw [if_pos (show ((1048576 : Int)) < (X0.length : Int) + (Y0.length : Int) by omega)] at SZ0
    go_enter Tryd.func7, Tryd.ntmps7
    go_upto_region 1 with fail
    have B0 := Two.new w (.slice a0 X0.length c0) (.slice a0' Y0.length c0') 29
    have nb0 : Below w.heap.size w (w.alloc (.cells #[.slice a0 X0.length c0, .slice a0' Y0.length c0'] 29)) := (Below.refl _ _).alloc (Nat.le_refl _) _
    have sb0 : (w.alloc (.cells #[.slice a0 X0.length c0, .slice a0' Y0.length c0'] 29)).heap.size = w.heap.size + 1 := by simp
    generalize w.alloc (.cells #[.slice a0 X0.length c0, .slice a0' Y0.length c0'] 29) = v0 at *
    have N := nb0
    have zv : w.heap.size + 1 ≤ v0.heap.size := by omega
    clear nb0 sb0
    have B00 := B0.c0
    have B01 := B0.c1
    go_wp2_with fail
    refine (SZ0 v0).mono ?_
    rintro e w1 ⟨rfl, n1⟩
    clear B00 B01
    replace B0 := B0.up n1
    replace N := nxt N n1
    have zn1 := n1.size
    clear n1
    go_wp2
    go_ret
    exact ⟨rfl, N⟩
end Go.Proofs.YthapcapiiknjdaaDoor
