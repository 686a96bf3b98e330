import Derived.Test.YthapcapiiknjdaaDoorGB36
import Derived.Test.YthapcapiiknjdaaDoorGB35
import Derived.Test.YthapcapiiknjdaaDoorGB27
import Derived.Test.YthapcapiiknjdaaDoorGB32
import Derived.Deep.QuietTactic
import Derived.BigQuiet
import Derived.Test.YthapcapiiknjdaaDoorGB28
import Derived.Test.YthapcapiiknjdaaDoorGB33
import Derived.Test.YthapcapiiknjdaaDoorGB14
import Derived.Test.YthapcapiiknjdaaDoorGB12

/-
  The model's l5Draw, told as a value.
-/
namespace Go.Proofs.YthapcapiiknjdaaDoor
set_option maxRecDepth 100000
open Go Go.RowKit

theorem li_byt (A : Int) (odd : Bool) : Byt (liX A odd) ∧ Byt (liY A odd) := by
  unfold liX liY
  split
  · exact ⟨bytes_5 _ _, bytes_5 _ _⟩
  · exact ⟨byt_nil, byt_nil⟩
theorem Two.put0 {w : World} {p : Nat} {x y : Value} (h : Two w p x y) (u : Value) : Two (w.setCell ⟨p, 0, none⟩ u) p u y :=
  ⟨World.cell?_setCell_same _ _ _ h.c0, by rw [World.cell?_setCell_other (h := by simp)]; exact h.c1, by rw [World.frozen?_setCell]; exact h.f0, by rw [World.frozen?_setCell]; exact h.f1⟩
theorem Two.put1 {w : World} {p : Nat} {x y : Value} (h : Two w p x y) (u : Value) : Two (w.setCell ⟨p, 1, none⟩ u) p x u :=
  ⟨by rw [World.cell?_setCell_other (h := by simp)]; exact h.c0, World.cell?_setCell_same _ _ _ h.c1, by rw [World.frozen?_setCell]; exact h.f0, by rw [World.frozen?_setCell]; exact h.f1⟩
theorem Two.put {w : World} {p : Nat} {x y : Value} (h : Two w p x y) (u v : Value) : Two ((w.setCell ⟨p, 0, none⟩ u).setCell ⟨p, 1, none⟩ v) p u v := (h.put0 u).put1 v
def bsX : List Int := liX (4 * iv 5) false
def bsY : List Int := liY (4 * iv 5) false
theorem bs_byt : Byt bsX ∧ Byt bsY := li_byt _ _
theorem bs_ok : PtOk bsX bsY := by
  have h : liB (4 * iv 5) false = true := by
    unfold liB
    rw [base_lift.1]
    simp
  unfold bsX bsY liX liY
  rw [if_pos h, if_pos h]
  exact ⟨⟨bytes_5 _ _, fill_len _ _⟩, bytes_5 _ _, fill_len _ _⟩
/-- The point that is drawn. -/
def drP (xs : List Int) (t : Int) : List Int × List Int :=
  if nxF xs t 8 = 0 then smP (nxF xs (t + 1) 8)
  else if nxF xs t 8 = 1 then (paX (smP (nxF xs (t + 1) 8)).1 (smP (nxF xs (t + 1) 8)).2 bsX bsY, paY (smP (nxF xs (t + 1) 8)).1 (smP (nxF xs (t + 1) 8)).2 bsX bsY)
  else if nxF xs t 8 < 4 then (plX (tmP (fill (dig (inF (nxF xs (t + 1) 1000))) 32) bsX bsY), plY (tmP (fill (dig (inF (nxF xs (t + 1) 1000))) 32) bsX bsY))
  else if nxF xs t 8 = 4 then
    (if nxF xs (t + 1) 2 = 0 then
      (if nxF xs (t + 1 + 1) 4 = 0 then (dbF xs (t + 1 + 1 + 1) 32, bsY)
       else if nxF xs (t + 1 + 1) 4 = 1 then (bsX, dbF xs (t + 1 + 1 + 1) 31)
       else if nxF xs (t + 1 + 1) 4 = 2 then (fill (dig pbytes) 32, fill (byt (1 % PP)) 32)
       else ([], []))
     else fdP 40 (dbF xs (t + 1 + 1) 32))
  else fdP 40 (dbF xs (t + 1) 32)
set_option maxHeartbeats 4000000 in
theorem l5DrawV_any (w : World) (s g : Nat) (a : Option Addr) (c : Nat) (xs : List Int) (t : Int) (hs : Src w s a xs.length c t) (hr : Rd w g a .u8 xs) (hne : 0 < xs.length → g ≠ s) (hb : Byt xs) (hl : xs.length ≤ 4194304) (t0 : 0 ≤ t) (t1 : t ≤ 10000) :
    Calls Tryd.prog 83 #[.pointer (some ⟨s, 0, none⟩)] w fun r w' => NewPt w.heap.size w' r (drP xs t).1 (drP xs t).2 ∧ But s w w' := by
  have TZ : Two (w.alloc pObj) w.heap.size (.slice none 0 0) (.slice none 0 0) := Two.new w (.slice none 0 0) (.slice none 0 0) 24
  have nz : Below w.heap.size w (w.alloc pObj) := (Below.refl _ _).alloc (Nat.le_refl _) _
  have zs := hs.lt
  have NX := hide (fun W (S : Src W s a xs.length c t) (R : Rd W g a .u8 xs) => l1NextV_any W s g a c xs t 8 S R hne hb hl (by omega) (by omega) (by decide) (by decide))
  have NY := hide (fun W n (S : Src W s a xs.length c (t + 1)) (R : Rd W g a .u8 xs) (h1 : 1 ≤ n) (h2 : n ≤ 1048576) => l1NextV_any W s g a c xs (t + 1) n S R hne hb hl (by omega) (by omega) h1 h2)
  have CH := hide (fun W (S : Src W s a xs.length c (t + 1)) (R : Rd W g a .u8 xs) => l1ChanceV_any W s g a c xs (t + 1) 2 S R hne hb hl (by omega) (by omega) (by decide) (by decide))
  have NW := hide (fun W (S : Src W s a xs.length c (t + 1 + 1)) (R : Rd W g a .u8 xs) => l1NextV_any W s g a c xs (t + 1 + 1) 4 S R hne hb hl (by omega) (by omega) (by decide) (by decide))
  have DB := hide (fun W u (n : Nat) (S : Src W s a xs.length c u) (R : Rd W g a .u8 xs) (h1 : 0 ≤ u) (h2 : u + (n : Int) ≤ 1048576) => l1DrawBytesV_any W s g a c xs u n S R hne hb hl h1 h2)
  obtain ⟨R, hR⟩ : ∃ R, R = drP xs t := ⟨_, rfl⟩
  rw [← hR]
  have k0 := nx_in xs t (show (0 : Int) < 8 by decide)
  unfold drP at hR
  have HR := hide hR
  clear hR
  have S0 := hs.up nz
  have hr0 := hr.up nz
  have N : But s w (w.alloc pObj) := But.ofBelow nz
  clear nz
  go_enter Tryd.func83, Tryd.ntmps83
  go_upto_region 1 with fail
  change Code.wp _ _ _ _ (w.alloc pObj)
  generalize w.alloc pObj = wz at *
  go_wp2_with fail
  refine (NX.out wz S0 hr0).mono ?_
  rintro e w1 ⟨rfl, _, S1, O1⟩
  have zz := TZ.lt
  have z1 := O1.size
  replace TZ := TZ.of_block' (O1.block w.heap.size (by omega))
  replace N := N.only O1
  have hr1 := hr.but N hne
  clear O1 NX S0 hr0 hs
  generalize nxF xs t 8 = k at *
  rcases (show k = 0 ∨ k = 1 ∨ k = 2 ∨ k = 3 ∨ k = 4 ∨ k = 5 ∨ k = 6 ∨ k = 7 by omega) with rfl | rfl | rfl | rfl | rfl | rfl | rfl | rfl
  · have HD : Hid (R = smP (nxF xs (t + 1) 8)) := by show _ = _; rw [HR.out, if_pos rfl]
    clear HR
    go_wp2_with fail
    refine (NY.out w1 8 S1 hr1 (by decide) (by decide)).mono ?_
    rintro e w2 ⟨rfl, ⟨r0, r1⟩, S2, O2⟩
    have z2 := O2.size
    replace TZ := TZ.of_block' (O2.block w.heap.size (by omega))
    replace N := N.only O2
    clear O2 S2 S1 NY CH NW DB
    obtain ⟨j, hj⟩ : ∃ j, j = nxF xs (t + 1) 8 := ⟨_, rfl⟩
    rw [← hj] at r0 r1 HD ⊢
    clear hj
    have SM := hide (l5SmallV_any w2 j r0 (by omega))
    generalize smP j = X at *
    go_wp2_with fail
    refine SM.out.mono ?_
    rintro r w3 ⟨⟨a1, a1', c1, c1', g1, g1', rfl, o1, o1', l1, l1'⟩, n3⟩
    have z3 := n3.size
    replace TZ := TZ.up n3
    replace N := N.trans (But.ofBelow n3)
    clear n3 SM
    obtain ⟨y0, y1, v0, v1⟩ := TZ
    have O := (Only.setCell w3 w.heap.size 0 (.slice a1 X.1.length c1)).trans (Only.setCell _ w.heap.size 1 (.slice a1' X.2.length c1'))
    go_wp2
    refine bodyPost_ret (v := .agg #[.slice a1 X.1.length c1, .slice a1' X.2.length c1']) (by simp [results, Tryd.results83, go_sem, y0, y1]) rfl ⟨?_, (N.setCell (Nat.le_refl _)).setCell (Nat.le_refl _)⟩
    rw [HD.out]
    exact ⟨a1, a1', c1, c1', g1, g1', rfl, o1.only O (fun _ => by omega), o1'.only O (fun _ => by omega), by omega, by omega⟩
  · have HD : Hid (R = (paX (smP (nxF xs (t + 1) 8)).1 (smP (nxF xs (t + 1) 8)).2 bsX bsY, paY (smP (nxF xs (t + 1) 8)).1 (smP (nxF xs (t + 1) 8)).2 bsX bsY)) := by show _ = _; rw [HR.out, if_neg (by decide), if_pos rfl]
    clear HR
    go_wp2_with fail
    refine (NY.out w1 8 S1 hr1 (by decide) (by decide)).mono ?_
    rintro e w2 ⟨rfl, ⟨r0, r1⟩, S2, O2⟩
    have z2 := O2.size
    replace TZ := TZ.of_block' (O2.block w.heap.size (by omega))
    replace N := N.only O2
    clear O2 S2 S1 NY CH NW DB
    obtain ⟨j, hj⟩ : ∃ j, j = nxF xs (t + 1) 8 := ⟨_, rfl⟩
    rw [← hj] at r0 r1 HD ⊢
    clear hj
    have SM := hide (l5SmallV_any w2 j r0 (by omega))
    have SK := hide (smP_ok j)
    generalize smP j = X at *
    go_wp2_with fail
    refine SM.out.mono ?_
    rintro r w3 ⟨⟨a3, a3', c3, c3', g3, g3', rfl, o3, o3', l3, l3'⟩, n3⟩
    have z3 := n3.size
    replace TZ := TZ.up n3
    replace N := N.trans (But.ofBelow n3)
    clear n3 SM
    have SB : Hid (Calls Tryd.prog 23 #[] w3 fun r w' => NewPt w3.heap.size w' r bsX bsY ∧ Below w3.heap.size w3 w') := specBase_any w3
    have BB := hide bs_byt
    generalize bsX = bx at *
    generalize bsY = by' at *
    go_wp2_with fail
    refine SB.out.mono ?_
    rintro r w4 ⟨⟨a4, a4', c4, c4', g4, g4', rfl, o4, o4', l4, l4'⟩, n4⟩
    have z4 := n4.size
    replace TZ := TZ.up n4
    replace N := N.trans (But.ofBelow n4)
    replace o3 := o3.up n4
    replace o3' := o3'.up n4
    clear n4 SB
    have AD := hide (specPointAdd_any w4 g3 g3' g4 g4' a3 a3' a4 a4' c3 c3' c4 c4' X.1 X.2 bx by' o3.rd o3'.rd o4.rd o4'.rd SK.out.1.1 SK.out.2.1 BB.out.1 BB.out.2)
    generalize paX X.1 X.2 bx by' = PX at *
    generalize paY X.1 X.2 bx by' = PY at *
    go_wp2_with fail
    refine AD.out.mono ?_
    rintro r w5 ⟨⟨a1, a1', c1, c1', g1, g1', rfl, o1, o1', l1, l1'⟩, n3⟩
    have z5 := n3.size
    replace TZ := TZ.up n3
    replace N := N.trans (But.ofBelow n3)
    clear n3 AD
    obtain ⟨y0, y1, v0, v1⟩ := TZ
    have O := (Only.setCell w5 w.heap.size 0 (.slice a1 PX.length c1)).trans (Only.setCell _ w.heap.size 1 (.slice a1' PY.length c1'))
    go_wp2
    refine bodyPost_ret (v := .agg #[.slice a1 PX.length c1, .slice a1' PY.length c1']) (by simp [results, Tryd.results83, go_sem, y0, y1]) rfl ⟨?_, (N.setCell (Nat.le_refl _)).setCell (Nat.le_refl _)⟩
    rw [HD.out]
    exact ⟨a1, a1', c1, c1', g1, g1', rfl, o1.only O (fun _ => by omega), o1'.only O (fun _ => by omega), by omega, by omega⟩
  · have HD : Hid (R = (plX (tmP (fill (dig (inF (nxF xs (t + 1) 1000))) 32) bsX bsY), plY (tmP (fill (dig (inF (nxF xs (t + 1) 1000))) 32) bsX bsY))) := by show _ = _; rw [HR.out, if_neg (by decide), if_neg (by decide), if_pos (by decide)]
    clear HR
    go_wp2_with fail
    refine (NY.out w1 1000 S1 hr1 (by decide) (by decide)).mono ?_
    rintro e w2 ⟨rfl, ⟨r0, r1⟩, S2, O2⟩
    have z2 := O2.size
    replace TZ := TZ.of_block' (O2.block w.heap.size (by omega))
    replace N := N.only O2
    clear O2 S2 S1 NY CH NW DB
    obtain ⟨j, hj⟩ : ∃ j, j = nxF xs (t + 1) 1000 := ⟨_, rfl⟩
    rw [← hj] at r0 r1 HD ⊢
    clear hj
    have SI := hide (l1IntV_any w2 j r0 (by omega))
    have IB := hide (inF_byt r0 (by omega))
    clear r0 r1
    generalize inF j = I at *
    go_wp2_with fail
    refine SI.out.mono ?_
    rintro r w3 ⟨⟨a3, c3, g3, rfl, o3, _, _, l3⟩, n3⟩
    have z3 := n3.size
    replace TZ := TZ.up n3
    replace N := N.trans (But.ofBelow n3)
    clear n3 SI
    have SL := hide (l1Little_any w3 g3 a3 c3 I 32 o3.rd IB.out.1 (by have := IB.out.2; omega) (by omega))
    have KB := hide (dig_bytes_5 IB.out.1 32)
    have KL := hide (fill_len (dig I) 32)
    generalize fill (dig I) 32 = K at *
    go_wp2_with fail
    refine SL.out.mono ?_
    rintro r w4 ⟨rfl, B4, n4⟩
    have z4 := n4.size
    replace TZ := TZ.up n4
    replace N := N.trans (But.ofBelow n4)
    clear n4 SL o3
    have SB : Hid (Calls Tryd.prog 23 #[] w4 fun r w' => NewPt w4.heap.size w' r bsX bsY ∧ Below w4.heap.size w4 w') := specBase_any w4
    have BB := hide bs_ok
    generalize bsX = bx at *
    generalize bsY = by' at *
    go_wp2_with fail
    refine SB.out.mono ?_
    rintro r w5 ⟨⟨a5, a5', c5, c5', g5, g5', rfl, o5, o5', l5, l5'⟩, n5⟩
    have z5 := n5.size
    replace TZ := TZ.up n5
    replace N := N.trans (But.ofBelow n5)
    have o4 := B4.own0.up n5
    clear n5 SB B4
    have ST := hide (l5Times_any w5 w3.heap.size g5 g5' (some ⟨w3.heap.size, 0, none⟩) a5 a5' 32 c5 c5' K bx by' o4.rd KB.out (by rw [KL.out]; omega) o5.rd o5'.rd BB.out.1.1 BB.out.2.1 BB.out.1.2 BB.out.2.2)
    rw [KL.out] at ST
    go_wp2_with fail
    refine ST.out.mono ?_
    rintro r w6 ⟨top, p, x, y, z, hc, hP, rfl, hx, hy, hz, n6⟩
    have z6 := n6.size
    replace TZ := TZ.up n6
    replace N := N.trans (But.ofBelow n6)
    have eP : Hid (tmP K bx by' = p) := by show _ = _; unfold tmP; rw [topF_eq (by rw [KL.out]; exact hc), hP]
    clear n6 ST hc hP o4 o5 o5'
    have SP : Hid (Calls Tryd.prog 72 #[ag48 x y z] w6 fun r w' => NewPt w6.heap.size w' r (plX p) (plY p) ∧ Below w6.heap.size w6 w') := l5Plain_any w6 x y z p.1 p.2.1 p.2.2 hx hy hz
    rw [eP.out] at HD
    clear eP hx hy hz
    generalize plX p = PX at *
    generalize plY p = PY at *
    generalize ag48 x y z = V at *
    go_wp2_with fail
    refine SP.out.mono ?_
    rintro r w7 ⟨⟨a1, a1', c1, c1', g1, g1', rfl, o1, o1', l1, l1'⟩, n3⟩
    have z7 := n3.size
    replace TZ := TZ.up n3
    replace N := N.trans (But.ofBelow n3)
    clear n3 SP
    obtain ⟨y0, y1, v0, v1⟩ := TZ
    have O := (Only.setCell w7 w.heap.size 0 (.slice a1 PX.length c1)).trans (Only.setCell _ w.heap.size 1 (.slice a1' PY.length c1'))
    go_wp2
    refine bodyPost_ret (v := .agg #[.slice a1 PX.length c1, .slice a1' PY.length c1']) (by simp [results, Tryd.results83, go_sem, y0, y1]) rfl ⟨?_, (N.setCell (Nat.le_refl _)).setCell (Nat.le_refl _)⟩
    rw [HD.out]
    exact ⟨a1, a1', c1, c1', g1, g1', rfl, o1.only O (fun _ => by omega), o1'.only O (fun _ => by omega), by omega, by omega⟩
  · have HD : Hid (R = (plX (tmP (fill (dig (inF (nxF xs (t + 1) 1000))) 32) bsX bsY), plY (tmP (fill (dig (inF (nxF xs (t + 1) 1000))) 32) bsX bsY))) := by show _ = _; rw [HR.out, if_neg (by decide), if_neg (by decide), if_pos (by decide)]
    clear HR
    go_wp2_with fail
    refine (NY.out w1 1000 S1 hr1 (by decide) (by decide)).mono ?_
    rintro e w2 ⟨rfl, ⟨r0, r1⟩, S2, O2⟩
    have z2 := O2.size
    replace TZ := TZ.of_block' (O2.block w.heap.size (by omega))
    replace N := N.only O2
    clear O2 S2 S1 NY CH NW DB
    obtain ⟨j, hj⟩ : ∃ j, j = nxF xs (t + 1) 1000 := ⟨_, rfl⟩
    rw [← hj] at r0 r1 HD ⊢
    clear hj
    have SI := hide (l1IntV_any w2 j r0 (by omega))
    have IB := hide (inF_byt r0 (by omega))
    clear r0 r1
    generalize inF j = I at *
    go_wp2_with fail
    refine SI.out.mono ?_
    rintro r w3 ⟨⟨a3, c3, g3, rfl, o3, _, _, l3⟩, n3⟩
    have z3 := n3.size
    replace TZ := TZ.up n3
    replace N := N.trans (But.ofBelow n3)
    clear n3 SI
    have SL := hide (l1Little_any w3 g3 a3 c3 I 32 o3.rd IB.out.1 (by have := IB.out.2; omega) (by omega))
    have KB := hide (dig_bytes_5 IB.out.1 32)
    have KL := hide (fill_len (dig I) 32)
    generalize fill (dig I) 32 = K at *
    go_wp2_with fail
    refine SL.out.mono ?_
    rintro r w4 ⟨rfl, B4, n4⟩
    have z4 := n4.size
    replace TZ := TZ.up n4
    replace N := N.trans (But.ofBelow n4)
    clear n4 SL o3
    have SB : Hid (Calls Tryd.prog 23 #[] w4 fun r w' => NewPt w4.heap.size w' r bsX bsY ∧ Below w4.heap.size w4 w') := specBase_any w4
    have BB := hide bs_ok
    generalize bsX = bx at *
    generalize bsY = by' at *
    go_wp2_with fail
    refine SB.out.mono ?_
    rintro r w5 ⟨⟨a5, a5', c5, c5', g5, g5', rfl, o5, o5', l5, l5'⟩, n5⟩
    have z5 := n5.size
    replace TZ := TZ.up n5
    replace N := N.trans (But.ofBelow n5)
    have o4 := B4.own0.up n5
    clear n5 SB B4
    have ST := hide (l5Times_any w5 w3.heap.size g5 g5' (some ⟨w3.heap.size, 0, none⟩) a5 a5' 32 c5 c5' K bx by' o4.rd KB.out (by rw [KL.out]; omega) o5.rd o5'.rd BB.out.1.1 BB.out.2.1 BB.out.1.2 BB.out.2.2)
    rw [KL.out] at ST
    go_wp2_with fail
    refine ST.out.mono ?_
    rintro r w6 ⟨top, p, x, y, z, hc, hP, rfl, hx, hy, hz, n6⟩
    have z6 := n6.size
    replace TZ := TZ.up n6
    replace N := N.trans (But.ofBelow n6)
    have eP : Hid (tmP K bx by' = p) := by show _ = _; unfold tmP; rw [topF_eq (by rw [KL.out]; exact hc), hP]
    clear n6 ST hc hP o4 o5 o5'
    have SP : Hid (Calls Tryd.prog 72 #[ag48 x y z] w6 fun r w' => NewPt w6.heap.size w' r (plX p) (plY p) ∧ Below w6.heap.size w6 w') := l5Plain_any w6 x y z p.1 p.2.1 p.2.2 hx hy hz
    rw [eP.out] at HD
    clear eP hx hy hz
    generalize plX p = PX at *
    generalize plY p = PY at *
    generalize ag48 x y z = V at *
    go_wp2_with fail
    refine SP.out.mono ?_
    rintro r w7 ⟨⟨a1, a1', c1, c1', g1, g1', rfl, o1, o1', l1, l1'⟩, n3⟩
    have z7 := n3.size
    replace TZ := TZ.up n3
    replace N := N.trans (But.ofBelow n3)
    clear n3 SP
    obtain ⟨y0, y1, v0, v1⟩ := TZ
    have O := (Only.setCell w7 w.heap.size 0 (.slice a1 PX.length c1)).trans (Only.setCell _ w.heap.size 1 (.slice a1' PY.length c1'))
    go_wp2
    refine bodyPost_ret (v := .agg #[.slice a1 PX.length c1, .slice a1' PY.length c1']) (by simp [results, Tryd.results83, go_sem, y0, y1]) rfl ⟨?_, (N.setCell (Nat.le_refl _)).setCell (Nat.le_refl _)⟩
    rw [HD.out]
    exact ⟨a1, a1', c1, c1', g1, g1', rfl, o1.only O (fun _ => by omega), o1'.only O (fun _ => by omega), by omega, by omega⟩
  · have HE := HR.out
    rw [if_neg (by decide), if_neg (by decide), if_neg (by decide), if_pos rfl] at HE
    replace HR := hide HE
    clear HE
    go_wp2_with fail
    refine (CH.out w1 S1 hr1).mono ?_
    rintro e w2 ⟨rfl, S2, O2⟩
    have z2 := O2.size
    replace TZ := TZ.of_block' (O2.block w.heap.size (by omega))
    replace N := N.only O2
    have hr2 := hr.but N hne
    clear O2 S1 hr1 CH
    generalize nxF xs (t + 1) 2 = q at *
    by_cases hq : q = 0
    · subst hq
      rw [if_pos rfl] at HR
      have SB : Hid (Calls Tryd.prog 23 #[] w2 fun r w' => NewPt w2.heap.size w' r bsX bsY ∧ Below w2.heap.size w2 w') := specBase_any w2
      rw [show ((0 : Int) == 0) = true from rfl]
      generalize bsX = bx at *
      generalize bsY = by' at *
      go_wp2_with fail
      refine SB.out.mono ?_
      rintro r w3 ⟨⟨a4, a4', c4, c4', g4, g4', rfl, o4, o4', l4, l4'⟩, n3⟩
      have z3 := n3.size
      have TP := Two.new w3 (.slice a4 bx.length c4) (.slice a4' by'.length c4') 24
      have n4 : Below w3.heap.size w3 (w3.alloc (.cells #[.slice a4 bx.length c4, .slice a4' by'.length c4'] 24)) := (Below.refl _ _).alloc (Nat.le_refl _) _
      have zl : w3.heap.size < (w3.alloc (.cells #[.slice a4 bx.length c4, .slice a4' by'.length c4'] 24)).heap.size := TP.lt
      have q4 := hide (fun h => o4.rd.lt h)
      have q4' := hide (fun h => o4'.rd.lt h)
      replace TZ := (TZ.up n3).up n4
      replace N := (N.trans (But.ofBelow n3)).trans (But.ofBelow n4)
      replace S2 := (S2.up n3).up n4
      replace o4 := o4.up n4
      replace o4' := o4'.up n4
      have hr3 := hr.but N hne
      clear n3 n4 SB hr2
      go_wp2_with fail
      generalize w3.alloc (.cells #[.slice a4 bx.length c4, .slice a4' by'.length c4'] 24) = w4 at *
      refine (NW.out w4 S2 hr3).mono ?_
      rintro e w5 ⟨rfl, ⟨r0, r1⟩, S5, O5⟩
      have z5 : w4.heap.size ≤ w5.heap.size := Nat.le_of_eq O5.size.symm
      replace TZ := TZ.of_block' (O5.block w.heap.size (by omega))
      replace TP := TP.of_block' (O5.block w3.heap.size (by omega))
      replace o4 := o4.only O5 (fun _ => by omega)
      replace o4' := o4'.only O5 (fun _ => by omega)
      replace N := N.only O5
      have hr5 := hr.but N hne
      clear O5 S2 hr3 NW NY
      generalize nxF xs (t + 1 + 1) 4 = j at *
      rcases (show j = 0 ∨ j = 1 ∨ j = 2 ∨ j = 3 by omega) with rfl | rfl | rfl | rfl
      · have HD : Hid (R = (dbF xs (t + 1 + 1 + 1) 32, by')) := by show _ = _; rw [HR.out, if_pos rfl]
        clear HR
        go_wp2_with fail
        refine (DB.out w5 (t + 1 + 1 + 1) 32 S5 hr5 (by omega) (by omega)).mono ?_
        rintro e w6 ⟨⟨a6, c6, g6, rfl, o6, _, _, l6⟩, S6, N6⟩
        have z6 := N6.size
        have z6p := TP.lt
        replace TZ := TZ.of_block' (N6.block w.heap.size (by omega) (by omega))
        replace TP := TP.of_block' (N6.block w3.heap.size (by omega) (by omega))
        replace o4 := o4.but N6 (fun _ => by omega)
        replace o4' := o4'.but N6 (fun _ => by omega)
        replace N := N.trans N6
        clear N6 S6 S5 DB
        generalize dbF xs (t + 1 + 1 + 1) 32 = D at *
        have O4 := Only.setCell w6 w3.heap.size 0 (.slice a6 D.length c6)
        have TP' := TP.put0 (.slice a6 D.length c6)
        replace TZ := TZ.of_block' (O4.block w.heap.size (by omega))
        replace N : But s w (w6.setCell ⟨w3.heap.size, 0, none⟩ (.slice a6 D.length c6)) := N.setCell (by omega)
        replace o6 := o6.only O4 (fun _ => by omega)
        replace o4 := o4.only O4 (fun h => by have := q4.out h; omega)
        replace o4' := o4'.only O4 (fun h => by have := q4'.out h; omega)
        obtain ⟨q0, q1, qf0, qf1⟩ := TP
        have TP := TP'
        clear TP' O4
        go_upto_region 19 with fail
        generalize w6.setCell ⟨w3.heap.size, 0, none⟩ (.slice a6 D.length c6) = w9 at *
        obtain ⟨p0, p1, pf0, pf1⟩ := TP
        obtain ⟨y0, y1, v0, v1⟩ := TZ
        have O := (Only.setCell w9 w.heap.size 0 (.slice a6 D.length c6)).trans (Only.setCell _ w.heap.size 1 (.slice a4' by'.length c4'))
        go_wp2
        refine bodyPost_ret (v := .agg #[.slice a6 D.length c6, .slice a4' by'.length c4']) (by simp [results, Tryd.results83, go_sem, y0, y1]) rfl ⟨?_, (N.setCell (Nat.le_refl _)).setCell (Nat.le_refl _)⟩
        rw [HD.out]
        exact ⟨a6, a4', c6, c4', g6, g4', rfl, o6.only O (fun _ => by omega), o4'.only O (fun _ => by omega), by omega, by omega⟩
      · have HD : Hid (R = (bx, dbF xs (t + 1 + 1 + 1) 31)) := by show _ = _; rw [HR.out, if_neg (by decide), if_pos rfl]
        clear HR
        go_wp2_with fail
        refine (DB.out w5 (t + 1 + 1 + 1) 31 S5 hr5 (by omega) (by omega)).mono ?_
        rintro e w6 ⟨⟨a6, c6, g6, rfl, o6, _, _, l6⟩, S6, N6⟩
        have z6 := N6.size
        have z6p := TP.lt
        replace TZ := TZ.of_block' (N6.block w.heap.size (by omega) (by omega))
        replace TP := TP.of_block' (N6.block w3.heap.size (by omega) (by omega))
        replace o4 := o4.but N6 (fun _ => by omega)
        replace o4' := o4'.but N6 (fun _ => by omega)
        replace N := N.trans N6
        clear N6 S6 S5 DB
        generalize dbF xs (t + 1 + 1 + 1) 31 = D at *
        have O4 := Only.setCell w6 w3.heap.size 1 (.slice a6 D.length c6)
        have TP' := TP.put1 (.slice a6 D.length c6)
        replace TZ := TZ.of_block' (O4.block w.heap.size (by omega))
        replace N : But s w (w6.setCell ⟨w3.heap.size, 1, none⟩ (.slice a6 D.length c6)) := N.setCell (by omega)
        replace o6 := o6.only O4 (fun _ => by omega)
        replace o4 := o4.only O4 (fun h => by have := q4.out h; omega)
        replace o4' := o4'.only O4 (fun h => by have := q4'.out h; omega)
        obtain ⟨q0, q1, qf0, qf1⟩ := TP
        have TP := TP'
        clear TP' O4
        go_upto_region 19 with fail
        generalize w6.setCell ⟨w3.heap.size, 1, none⟩ (.slice a6 D.length c6) = w9 at *
        obtain ⟨p0, p1, pf0, pf1⟩ := TP
        obtain ⟨y0, y1, v0, v1⟩ := TZ
        have O := (Only.setCell w9 w.heap.size 0 (.slice a4 bx.length c4)).trans (Only.setCell _ w.heap.size 1 (.slice a6 D.length c6))
        go_wp2
        refine bodyPost_ret (v := .agg #[.slice a4 bx.length c4, .slice a6 D.length c6]) (by simp [results, Tryd.results83, go_sem, y0, y1]) rfl ⟨?_, (N.setCell (Nat.le_refl _)).setCell (Nat.le_refl _)⟩
        rw [HD.out]
        exact ⟨a4, a6, c4, c6, g4, g6, rfl, o4.only O (fun _ => by omega), o6.only O (fun _ => by omega), by omega, by omega⟩
      · obtain ⟨PB, hPB⟩ : ∃ PB, PB = fill (dig pbytes) 32 := ⟨_, rfl⟩
        obtain ⟨QB, hQB⟩ : ∃ QB, QB = fill (byt (1 % PP)) 32 := ⟨_, rfl⟩
        have HD : Hid (R = (PB, QB)) := by show _ = _; rw [HR.out, if_neg (by decide), if_neg (by decide), if_pos rfl, hPB, hQB]
        have L7 : Hid (PB.length = 32) := by show _ = _; rw [hPB, fill_len]
        have HPB := hide hPB.symm
        have HQB := hide hQB.symm
        clear HR hPB hQB
        have PR := hide (l2Prime_any w5)
        have PY := hide pbytes_byt
        have PL := hide pbytes_len
        generalize pbytes = pb at *
        go_wp2_with fail
        refine PR.out.mono ?_
        rintro e w6 ⟨rfl, B6, n6⟩
        have z6 := n6.size
        replace TZ := TZ.up n6
        replace TP := TP.up n6
        replace N := N.trans (But.ofBelow n6)
        clear n6
        have SL := hide (l1Little_any w6 w5.heap.size (some ⟨w5.heap.size, 0, none⟩) 32 pb 32 B6.own0.rd PY.out (by rw [PL.out]; omega) (by omega))
        clear B6
        go_wp2_with fail
        refine SL.out.mono ?_
        rintro e w7 ⟨rfl, B7, n7⟩
        have z7 := n7.size
        replace TZ := TZ.up n7
        replace TP := TP.up n7
        replace N := N.trans (But.ofBelow n7)
        clear n7 SL
        have o7 := B7.own0
        rw [HPB.out] at o7
        clear HPB B7
        go_wp2_with fail
        refine (l2Small_any w7 1 (by decide)).mono ?_
        rintro e w8 ⟨f, rfl, hf, hfv, n8⟩
        have z8 := n8.size
        replace TZ := TZ.up n8
        replace TP := TP.up n8
        replace N := N.trans (But.ofBelow n8)
        replace o7 := o7.up n8
        have SY := hide (l2Bytes_any w8 f hf)
        rw [hfv, HQB.out] at SY
        clear n8 hf hfv HQB
        generalize ag16 f = V at *
        go_wp2_with fail
        refine SY.out.mono ?_
        rintro e wa ⟨⟨a8, c8, g8, rfl, o8, _, _, l8⟩, na⟩
        have za := na.size
        replace TZ := TZ.up na
        replace TP := TP.up na
        replace N := N.trans (But.ofBelow na)
        replace o7 := o7.up na
        clear na SY
        have O4 := (Only.setCell wa w3.heap.size 0 (.slice (some ⟨w6.heap.size, 0, none⟩) 32 32)).trans (Only.setCell _ w3.heap.size 1 (.slice a8 QB.length c8))
        have TP' := TP.put (.slice (some ⟨w6.heap.size, 0, none⟩) 32 32) (.slice a8 QB.length c8)
        replace TZ := TZ.of_block' (O4.block w.heap.size (by omega))
        replace N : But s w ((wa.setCell ⟨w3.heap.size, 0, none⟩ (.slice (some ⟨w6.heap.size, 0, none⟩) 32 32)).setCell ⟨w3.heap.size, 1, none⟩ (.slice a8 QB.length c8)) := (N.setCell (by omega)).setCell (by omega)
        obtain ⟨q0, q1, qf0, qf1⟩ := TP
        have TP := TP'
        clear TP'
        replace o7 := o7.only O4 (fun _ => by omega)
        replace o8 := o8.only O4 (fun _ => by omega)
        clear O4
        go_upto_region 19 with fail
        generalize (wa.setCell ⟨w3.heap.size, 0, none⟩ (.slice (some ⟨w6.heap.size, 0, none⟩) 32 32)).setCell ⟨w3.heap.size, 1, none⟩ (.slice a8 QB.length c8) = w9 at *
        obtain ⟨p0, p1, pf0, pf1⟩ := TP
        obtain ⟨y0, y1, v0, v1⟩ := TZ
        have O := (Only.setCell w9 w.heap.size 0 (.slice (some ⟨w6.heap.size, 0, none⟩) 32 32)).trans (Only.setCell _ w.heap.size 1 (.slice a8 QB.length c8))
        go_wp2
        refine bodyPost_ret (v := .agg #[.slice (some ⟨w6.heap.size, 0, none⟩) 32 32, .slice a8 QB.length c8]) (by simp [results, Tryd.results83, go_sem, y0, y1]) rfl ⟨?_, (N.setCell (Nat.le_refl _)).setCell (Nat.le_refl _)⟩
        rw [HD.out]
        exact ⟨(some ⟨w6.heap.size, 0, none⟩), a8, 32, c8, w6.heap.size, g8, by rw [L7.out], o7.only O (fun _ => by omega), o8.only O (fun _ => by omega), by omega, by omega⟩
      · have HD : Hid (R = ([], [])) := by show _ = _; rw [HR.out, if_neg (by decide), if_neg (by decide), if_neg (by decide)]
        clear HR
        have O4 := (Only.setCell w5 w3.heap.size 0 (.slice none 0 0)).trans (Only.setCell _ w3.heap.size 1 (.slice none 0 0))
        have TP' := TP.put (.slice none 0 0) (.slice none 0 0)
        replace TZ := TZ.of_block' (O4.block w.heap.size (by omega))
        replace N : But s w ((w5.setCell ⟨w3.heap.size, 0, none⟩ (.slice none 0 0)).setCell ⟨w3.heap.size, 1, none⟩ (.slice none 0 0)) := (N.setCell (by omega)).setCell (by omega)
        obtain ⟨q0, q1, qf0, qf1⟩ := TP
        have TP := TP'
        clear TP'
        clear O4
        go_upto_region 19 with fail
        generalize (w5.setCell ⟨w3.heap.size, 0, none⟩ (.slice none 0 0)).setCell ⟨w3.heap.size, 1, none⟩ (.slice none 0 0) = w9 at *
        obtain ⟨p0, p1, pf0, pf1⟩ := TP
        obtain ⟨y0, y1, v0, v1⟩ := TZ
        have O := (Only.setCell w9 w.heap.size 0 (.slice none 0 0)).trans (Only.setCell _ w.heap.size 1 (.slice none 0 0))
        go_wp2
        refine bodyPost_ret (v := .agg #[.slice none 0 0, .slice none 0 0]) (by simp [results, Tryd.results83, go_sem, y0, y1]) rfl ⟨?_, (N.setCell (Nat.le_refl _)).setCell (Nat.le_refl _)⟩
        rw [HD.out]
        exact ⟨none, none, 0, 0, w.heap.size, w.heap.size, rfl, Own.nil _ _ _ _, Own.nil _ _ _ _, by omega, by omega⟩
    · rw [show (q == 0) = false from beq_eq_false_iff_ne.2 hq]
      rw [if_neg hq] at HR
      have HD := HR
      clear HR hq
      go_wp2_with fail
      refine (DB.out w2 (t + 1 + 1) 32 S2 hr2 (by omega) (by omega)).mono ?_
      rintro e w8 ⟨⟨a8, c8, g8, rfl, o8, _, _, l8⟩, S8, N8⟩
      have z8 := N8.size
      have LB := hide (dbF_len xs (t + 1 + 1) 32)
      have BY := hide (dbF_byt xs (t + 1 + 1) 32)
      replace TZ := TZ.of_block' (N8.block w.heap.size (by omega) (by omega))
      replace N := N.trans N8
      clear N8 S8 DB NY NW S2
      generalize dbF xs (t + 1 + 1) 32 = B at *
      rw [LB.out]
      obtain ⟨o8f, ea, _⟩ := id o8 (by rw [LB.out]; decide)
      subst ea
      have zg := o8.rd.lt (by rw [LB.out]; decide)
      have FD := hide (l5Find_any w8 g8 o8f c8 B o8 BY.out LB.out)
      generalize fdP 40 B = X at *
      go_wp2_with fail
      refine FD.out.mono ?_
      rintro r w9 ⟨⟨a1, a1', c1, c1', g1, g1', rfl, o1, o1', l1, l1'⟩, n3⟩
      have z9 := n3.size
      replace TZ := TZ.of_block' (n3.block w.heap.size (by omega) (by omega))
      have N2 : But s w w9 := ⟨n3.os.trans N.os, n3.tape.trans N.tape, n3.output.trans N.output, Nat.le_trans N.size n3.size, fun i hi hn => (n3.block i (by omega) (by omega)).trans (N.block i hi hn)⟩
      clear n3 N FD o8
      obtain ⟨y0, y1, v0, v1⟩ := TZ
      have O := (Only.setCell w9 w.heap.size 0 (.slice a1 X.1.length c1)).trans (Only.setCell _ w.heap.size 1 (.slice a1' X.2.length c1'))
      go_wp2
      refine bodyPost_ret (v := .agg #[.slice a1 X.1.length c1, .slice a1' X.2.length c1']) (by simp [results, Tryd.results83, go_sem, y0, y1]) rfl ⟨?_, (N2.setCell (Nat.le_refl _)).setCell (Nat.le_refl _)⟩
      rw [HD.out]
      exact ⟨a1, a1', c1, c1', g1, g1', rfl, o1.only O (fun _ => by omega), o1'.only O (fun _ => by omega), by omega, by omega⟩
  · have HD : Hid (R = fdP 40 (dbF xs (t + 1) 32)) := by show _ = _; rw [HR.out, if_neg (by decide), if_neg (by decide), if_neg (by decide), if_neg (by decide)]
    clear HR
    go_wp2_with fail
    refine (DB.out w1 (t + 1) 32 S1 hr1 (by omega) (by omega)).mono ?_
    rintro e w8 ⟨⟨a8, c8, g8, rfl, o8, _, _, l8⟩, S8, N8⟩
    have z8 := N8.size
    have LB := hide (dbF_len xs (t + 1) 32)
    have BY := hide (dbF_byt xs (t + 1) 32)
    replace TZ := TZ.of_block' (N8.block w.heap.size (by omega) (by omega))
    replace N := N.trans N8
    clear N8 S8 DB NY CH NW S1
    generalize dbF xs (t + 1) 32 = B at *
    rw [LB.out]
    obtain ⟨o8f, ea, _⟩ := id o8 (by rw [LB.out]; decide)
    subst ea
    have zg := o8.rd.lt (by rw [LB.out]; decide)
    have FD := hide (l5Find_any w8 g8 o8f c8 B o8 BY.out LB.out)
    generalize fdP 40 B = X at *
    go_wp2_with fail
    refine FD.out.mono ?_
    rintro r w9 ⟨⟨a1, a1', c1, c1', g1, g1', rfl, o1, o1', l1, l1'⟩, n3⟩
    have z9 := n3.size
    replace TZ := TZ.of_block' (n3.block w.heap.size (by omega) (by omega))
    have N2 : But s w w9 := ⟨n3.os.trans N.os, n3.tape.trans N.tape, n3.output.trans N.output, Nat.le_trans N.size n3.size, fun i hi hn => (n3.block i (by omega) (by omega)).trans (N.block i hi hn)⟩
    clear n3 N FD o8
    obtain ⟨y0, y1, v0, v1⟩ := TZ
    have O := (Only.setCell w9 w.heap.size 0 (.slice a1 X.1.length c1)).trans (Only.setCell _ w.heap.size 1 (.slice a1' X.2.length c1'))
    go_wp2
    refine bodyPost_ret (v := .agg #[.slice a1 X.1.length c1, .slice a1' X.2.length c1']) (by simp [results, Tryd.results83, go_sem, y0, y1]) rfl ⟨?_, (N2.setCell (Nat.le_refl _)).setCell (Nat.le_refl _)⟩
    rw [HD.out]
    exact ⟨a1, a1', c1, c1', g1, g1', rfl, o1.only O (fun _ => by omega), o1'.only O (fun _ => by omega), by omega, by omega⟩
  · have HD : Hid (R = fdP 40 (dbF xs (t + 1) 32)) := by show _ = _; rw [HR.out, if_neg (by decide), if_neg (by decide), if_neg (by decide), if_neg (by decide)]
    clear HR
    go_wp2_with fail
    refine (DB.out w1 (t + 1) 32 S1 hr1 (by omega) (by omega)).mono ?_
    rintro e w8 ⟨⟨a8, c8, g8, rfl, o8, _, _, l8⟩, S8, N8⟩
    have z8 := N8.size
    have LB := hide (dbF_len xs (t + 1) 32)
    have BY := hide (dbF_byt xs (t + 1) 32)
    replace TZ := TZ.of_block' (N8.block w.heap.size (by omega) (by omega))
    replace N := N.trans N8
    clear N8 S8 DB NY CH NW S1
    generalize dbF xs (t + 1) 32 = B at *
    rw [LB.out]
    obtain ⟨o8f, ea, _⟩ := id o8 (by rw [LB.out]; decide)
    subst ea
    have zg := o8.rd.lt (by rw [LB.out]; decide)
    have FD := hide (l5Find_any w8 g8 o8f c8 B o8 BY.out LB.out)
    generalize fdP 40 B = X at *
    go_wp2_with fail
    refine FD.out.mono ?_
    rintro r w9 ⟨⟨a1, a1', c1, c1', g1, g1', rfl, o1, o1', l1, l1'⟩, n3⟩
    have z9 := n3.size
    replace TZ := TZ.of_block' (n3.block w.heap.size (by omega) (by omega))
    have N2 : But s w w9 := ⟨n3.os.trans N.os, n3.tape.trans N.tape, n3.output.trans N.output, Nat.le_trans N.size n3.size, fun i hi hn => (n3.block i (by omega) (by omega)).trans (N.block i hi hn)⟩
    clear n3 N FD o8
    obtain ⟨y0, y1, v0, v1⟩ := TZ
    have O := (Only.setCell w9 w.heap.size 0 (.slice a1 X.1.length c1)).trans (Only.setCell _ w.heap.size 1 (.slice a1' X.2.length c1'))
    go_wp2
    refine bodyPost_ret (v := .agg #[.slice a1 X.1.length c1, .slice a1' X.2.length c1']) (by simp [results, Tryd.results83, go_sem, y0, y1]) rfl ⟨?_, (N2.setCell (Nat.le_refl _)).setCell (Nat.le_refl _)⟩
    rw [HD.out]
    exact ⟨a1, a1', c1, c1', g1, g1', rfl, o1.only O (fun _ => by omega), o1'.only O (fun _ => by omega), by omega, by omega⟩
  · have HD : Hid (R = fdP 40 (dbF xs (t + 1) 32)) := by show _ = _; rw [HR.out, if_neg (by decide), if_neg (by decide), if_neg (by decide), if_neg (by decide)]
    clear HR
    go_wp2_with fail
    refine (DB.out w1 (t + 1) 32 S1 hr1 (by omega) (by omega)).mono ?_
    rintro e w8 ⟨⟨a8, c8, g8, rfl, o8, _, _, l8⟩, S8, N8⟩
    have z8 := N8.size
    have LB := hide (dbF_len xs (t + 1) 32)
    have BY := hide (dbF_byt xs (t + 1) 32)
    replace TZ := TZ.of_block' (N8.block w.heap.size (by omega) (by omega))
    replace N := N.trans N8
    clear N8 S8 DB NY CH NW S1
    generalize dbF xs (t + 1) 32 = B at *
    rw [LB.out]
    obtain ⟨o8f, ea, _⟩ := id o8 (by rw [LB.out]; decide)
    subst ea
    have zg := o8.rd.lt (by rw [LB.out]; decide)
    have FD := hide (l5Find_any w8 g8 o8f c8 B o8 BY.out LB.out)
    generalize fdP 40 B = X at *
    go_wp2_with fail
    refine FD.out.mono ?_
    rintro r w9 ⟨⟨a1, a1', c1, c1', g1, g1', rfl, o1, o1', l1, l1'⟩, n3⟩
    have z9 := n3.size
    replace TZ := TZ.of_block' (n3.block w.heap.size (by omega) (by omega))
    have N2 : But s w w9 := ⟨n3.os.trans N.os, n3.tape.trans N.tape, n3.output.trans N.output, Nat.le_trans N.size n3.size, fun i hi hn => (n3.block i (by omega) (by omega)).trans (N.block i hi hn)⟩
    clear n3 N FD o8
    obtain ⟨y0, y1, v0, v1⟩ := TZ
    have O := (Only.setCell w9 w.heap.size 0 (.slice a1 X.1.length c1)).trans (Only.setCell _ w.heap.size 1 (.slice a1' X.2.length c1'))
    go_wp2
    refine bodyPost_ret (v := .agg #[.slice a1 X.1.length c1, .slice a1' X.2.length c1']) (by simp [results, Tryd.results83, go_sem, y0, y1]) rfl ⟨?_, (N2.setCell (Nat.le_refl _)).setCell (Nat.le_refl _)⟩
    rw [HD.out]
    exact ⟨a1, a1', c1, c1', g1, g1', rfl, o1.only O (fun _ => by omega), o1'.only O (fun _ => by omega), by omega, by omega⟩
end Go.Proofs.YthapcapiiknjdaaDoor

/-
  The point that a law draws.
-/
namespace Go.Proofs.YthapcapiiknjdaaDoor
set_option maxRecDepth 100000
open Go Go.RowKit

theorem dc_byt (ys : List Int) : Byt (dcX ys) ∧ Byt (dcY ys) := by
  unfold dcX dcY
  by_cases h : dcB ys = true
  · rw [if_pos h, if_pos h]
    exact li_byt _ _
  · rw [if_neg h, if_neg h]
    exact ⟨byt_nil, byt_nil⟩
def BytP (p : List Int × List Int) : Prop := Byt p.1 ∧ Byt p.2
theorem bytP_mk {x y : List Int} (h : Byt x ∧ Byt y) : BytP (x, y) := h
theorem fdP_byt : ∀ n ys, BytP (fdP n ys)
  | 0, _ => by rw [fdP]; exact bytP_mk (li_byt _ _)
  | n + 1, ys => by
    rw [fdP]
    by_cases h : dcB ys = true
    · rw [if_pos h]
      exact bytP_mk (dc_byt ys)
    · rw [if_neg h]
      exact fdP_byt n _
theorem pa_byt (px py qx qy : List Int) : Byt (paX px py qx qy) ∧ Byt (paY px py qx qy) := by
  unfold paX paY
  by_cases h : validP px py = true ∧ validP qx qy = true
  · rw [if_pos h, if_pos h]
    exact ⟨bytes_5 _ _, bytes_5 _ _⟩
  · rw [if_neg h, if_neg h]
    exact ⟨byt_nil, byt_nil⟩
theorem ptok_byt {xs ys : List Int} (h : PtOk xs ys) : Byt xs ∧ Byt ys := ⟨h.1.1, h.2.1⟩
theorem smP_byt (k : Int) : BytP (smP k) := ptok_byt (smP_ok k)
theorem drP_byt (xs : List Int) (t : Int) : BytP (drP xs t) := by
  unfold drP
  by_cases h0 : nxF xs t 8 = 0
  · rw [if_pos h0]; exact smP_byt _
  rw [if_neg h0]
  by_cases h1 : nxF xs t 8 = 1
  · rw [if_pos h1]; exact bytP_mk (pa_byt _ _ _ _)
  rw [if_neg h1]
  by_cases h2 : nxF xs t 8 < 4
  · rw [if_pos h2]; exact bytP_mk (ptok_byt (pl_ok _))
  rw [if_neg h2]
  by_cases h4 : nxF xs t 8 = 4
  · rw [if_pos h4]
    by_cases h5 : nxF xs (t + 1) 2 = 0
    · rw [if_pos h5]
      by_cases j0 : nxF xs (t + 1 + 1) 4 = 0
      · rw [if_pos j0]; exact bytP_mk ⟨dbF_byt _ _ _, bs_byt.2⟩
      rw [if_neg j0]
      by_cases j1 : nxF xs (t + 1 + 1) 4 = 1
      · rw [if_pos j1]; exact bytP_mk ⟨bs_byt.1, dbF_byt _ _ _⟩
      rw [if_neg j1]
      by_cases j2 : nxF xs (t + 1 + 1) 4 = 2
      · rw [if_pos j2]; exact bytP_mk ⟨dig_bytes_5 pbytes_byt 32, bytes_5 _ _⟩
      rw [if_neg j2]
      exact bytP_mk ⟨byt_nil, byt_nil⟩
    · rw [if_neg h5]; exact fdP_byt _ _
  · rw [if_neg h4]; exact fdP_byt _ _
theorem Below.ofBut {w w1 w2 : World} {s : Nat} (h : Below w.heap.size w w1) (k : But s w1 w2) (hs : w.heap.size ≤ s) : Below w.heap.size w w2 :=
  ⟨k.os.trans h.os, k.tape.trans h.tape, k.output.trans h.output, Nat.le_trans h.size k.size, fun i hi => (k.block i (Nat.lt_of_lt_of_le hi h.size) (by omega)).trans (h.block i hi)⟩
set_option maxHeartbeats 400000 in
theorem l1SourceB_any (w : World) (a : Option Addr) (n c : Nat) (hn : n ≤ 4194304) :
    Calls Tryd.prog 81 #[.slice a n c] w fun e w' => e = .returned (.pointer (some ⟨w.heap.size, 0, none⟩)) ∧ Src w' w.heap.size a n c 0 ∧ Below w.heap.size w w' := by
  by_cases h : 12 < (n : Int) / 16
  · have t1 : decide (12 < (n : Int) / 16) = true := by simp; omega
    go_enter Tryd.func81, Tryd.ntmps81
    go_wp2
    go_ret
    exact ⟨rfl, ⟨by simp [World.cell?_alloc_at], by simp [World.cell?_alloc_at], by simp [World.frozen?_alloc_at]⟩, (Below.refl _ _).alloc (Nat.le_refl _) _⟩
  · have t1 : decide (12 < (n : Int) / 16) = false := by simp; omega
    go_enter Tryd.func81, Tryd.ntmps81
    go_wp2
    go_ret
    exact ⟨rfl, ⟨by simp [World.cell?_alloc_at], by simp [World.cell?_alloc_at], by simp [World.frozen?_alloc_at]⟩, (Below.refl _ _).alloc (Nat.le_refl _) _⟩
set_option maxHeartbeats 1000000 in
theorem drawNeg_any (w : World) (g : Nat) (a : Option Addr) (c : Nat) (xs : List Int) (hr : Rd w g a .u8 xs) (hb : Byt xs) (hl : xs.length ≤ 4194304) :
    Calls Tryd.prog 80 #[.slice a xs.length c] w fun r w' => NewPt w.heap.size w' r (drP xs 0).1 (drP xs 0).2 ∧ Below w.heap.size w w' := by
  have TZ : Two (w.alloc pObj) w.heap.size (.slice none 0 0) (.slice none 0 0) := Two.new w (.slice none 0 0) (.slice none 0 0) 24
  have N : Below w.heap.size w (w.alloc pObj) := (Below.refl _ _).alloc (Nat.le_refl _) _
  have DW := hide (fun W (s : Nat) (hs : Src W s a xs.length c 0) (h : Rd W g a .u8 xs) (hn : 0 < xs.length → g ≠ s) => l5DrawV_any W s g a c xs 0 hs h hn hb hl (by decide) (by decide))
  have SO := hide (fun W => l1SourceB_any W a xs.length c hl)
  have hg := hide (fun h => hr.lt h)
  generalize drP xs 0 = X at *
  go_enter Tryd.func80, Tryd.ntmps80
  go_upto_region 1 with fail
  change Code.wp _ _ _ _ (w.alloc pObj)
  generalize w.alloc pObj = wz at *
  go_wp2_with fail
  refine (SO.out wz).mono ?_
  rintro e w1 ⟨rfl, S1, n1⟩
  have zz := TZ.lt
  have z1 := n1.size
  replace TZ := TZ.up n1
  replace N := nxt N n1
  have hr1 := hr.up N
  have sl := S1.lt
  clear n1 SO
  go_wp2_with fail
  refine (DW.out w1 wz.heap.size S1 hr1 (fun h => by have := hg.out h; omega)).mono ?_
  rintro r w2 ⟨⟨a1, a1', c1, c1', g1, g1', rfl, o1, o1', l1, l1'⟩, n2⟩
  replace TZ := TZ.of_block' (n2.block w.heap.size (by omega) (by omega))
  replace N := Below.ofBut N n2 (by omega)
  clear n2 DW S1 hr1
  obtain ⟨y0, y1, v0, v1⟩ := TZ
  have O := (Only.setCell w2 w.heap.size 0 (.slice a1 X.1.length c1)).trans (Only.setCell _ w.heap.size 1 (.slice a1' X.2.length c1'))
  go_wp2
  refine bodyPost_ret (v := .agg #[.slice a1 X.1.length c1, .slice a1' X.2.length c1']) (by simp [results, Tryd.results80, go_sem, y0, y1]) rfl ⟨?_, (N.setCell (Nat.le_refl _) _).setCell (Nat.le_refl _) _⟩
  exact ⟨a1, a1', c1, c1', g1, g1', rfl, o1.only O (fun _ => by omega), o1'.only O (fun _ => by omega), by omega, by omega⟩
/-- The valid point of a code. -/
def lpP (xs : List Int) : List Int × List Int := if validP (drP xs 0).1 (drP xs 0).2 = true then drP xs 0 else (bsX, bsY)
set_option maxHeartbeats 2000000 in
theorem lwPoint_any (w : World) (g : Nat) (a : Option Addr) (c : Nat) (xs : List Int) (hr : Rd w g a .u8 xs) (hb : Byt xs) (hl : xs.length ≤ 4194304) :
    Calls Tryd.prog 44 #[.slice a xs.length c] w fun r w' => NewPt w.heap.size w' r (lpP xs).1 (lpP xs).2 ∧ Below w.heap.size w w' := by
  have TZ : Two (w.alloc pObj) w.heap.size (.slice none 0 0) (.slice none 0 0) := Two.new w (.slice none 0 0) (.slice none 0 0) 24
  have N : Below w.heap.size w (w.alloc pObj) := (Below.refl _ _).alloc (Nat.le_refl _) _
  have DW := hide (fun W (h : Rd W g a .u8 xs) => drawNeg_any W g a c xs h hb hl)
  have XB := hide (drP_byt xs 0)
  obtain ⟨R, hR⟩ : ∃ R, R = lpP xs := ⟨_, rfl⟩
  rw [← hR]
  unfold lpP at hR
  have HR := hide hR
  clear hR
  generalize drP xs 0 = X at *
  go_enter Tryd.func44, Tryd.ntmps44
  go_upto_region 1 with fail
  change Code.wp _ _ _ _ (w.alloc pObj)
  have hr0 := hr.up N
  generalize w.alloc pObj = wz at *
  go_wp2_with fail
  refine (DW.out wz hr0).mono ?_
  rintro r w1 ⟨⟨a1, a1', c1, c1', g1, g1', rfl, o1, o1', l1, l1'⟩, n1⟩
  have zz := TZ.lt
  have z1 := n1.size
  have TP := Two.new w1 (.slice a1 X.1.length c1) (.slice a1' X.2.length c1') 24
  have n2 : Below w1.heap.size w1 (w1.alloc (.cells #[.slice a1 X.1.length c1, .slice a1' X.2.length c1'] 24)) := (Below.refl _ _).alloc (Nat.le_refl _) _
  replace TZ := (TZ.up n1).up n2
  replace N := nxt (nxt N n1) n2
  replace o1 := o1.up n2
  replace o1' := o1'.up n2
  have z2 := n2.size
  clear n1 n2 DW hr0
  have zl := TP.lt
  have VA := hide (pointValid_any _ g1 g1' a1 a1' c1 c1' X.1 X.2 o1.rd o1'.rd XB.out.1 XB.out.2)
  obtain ⟨p0, p1, pf0, pf1⟩ := id TP
  obtain ⟨v, hv⟩ : ∃ v, v = validP X.1 X.2 := ⟨_, rfl⟩
  rw [← hv] at VA HR
  clear hv
  go_wp2_with fail
  generalize w1.alloc (.cells #[.slice a1 X.1.length c1, .slice a1' X.2.length c1'] 24) = w2 at *
  refine VA.out.mono ?_
  rintro e w3 ⟨rfl, n3⟩
  have z3 := n3.size
  replace TZ := TZ.up n3
  replace TP := TP.up n3
  replace N := nxt N n3
  replace o1 := o1.up n3
  replace o1' := o1'.up n3
  clear n3 VA p0 p1 pf0 pf1
  cases v with
  | true =>
    have HD : Hid (R = X) := by show _ = _; rw [HR.out, if_pos rfl]
    clear HR
    obtain ⟨p0, p1, pf0, pf1⟩ := TP
    obtain ⟨y0, y1, v0, v1⟩ := TZ
    have O := (Only.setCell w3 w.heap.size 0 (.slice a1 X.1.length c1)).trans (Only.setCell _ w.heap.size 1 (.slice a1' X.2.length c1'))
    go_wp2
    refine bodyPost_ret (v := .agg #[.slice a1 X.1.length c1, .slice a1' X.2.length c1']) (by simp [results, Tryd.results44, go_sem, y0, y1]) rfl ⟨?_, (N.setCell (Nat.le_refl _) _).setCell (Nat.le_refl _) _⟩
    rw [HD.out]
    exact ⟨a1, a1', c1, c1', g1, g1', rfl, o1.only O (fun _ => by omega), o1'.only O (fun _ => by omega), by omega, by omega⟩
  | false =>
    have HD : Hid (R = (bsX, bsY)) := by show _ = _; rw [HR.out, if_neg (by decide)]
    clear HR o1 o1'
    have SB : Hid (Calls Tryd.prog 23 #[] w3 fun r w' => NewPt w3.heap.size w' r bsX bsY ∧ Below w3.heap.size w3 w') := specBase_any w3
    generalize bsX = bx at *
    generalize bsY = by' at *
    go_wp2_with fail
    refine SB.out.mono ?_
    rintro r w4 ⟨⟨a4, a4', c4, c4', g4, g4', rfl, o4, o4', l4, l4'⟩, n4⟩
    have z4 := n4.size
    replace TZ := TZ.up n4
    replace N := nxt N n4
    clear n4 SB
    obtain ⟨y0, y1, v0, v1⟩ := TZ
    have O := (Only.setCell w4 w.heap.size 0 (.slice a4 bx.length c4)).trans (Only.setCell _ w.heap.size 1 (.slice a4' by'.length c4'))
    go_wp2
    refine bodyPost_ret (v := .agg #[.slice a4 bx.length c4, .slice a4' by'.length c4']) (by simp [results, Tryd.results44, go_sem, y0, y1]) rfl ⟨?_, (N.setCell (Nat.le_refl _) _).setCell (Nat.le_refl _) _⟩
    rw [HD.out]
    exact ⟨a4, a4', c4, c4', g4, g4', rfl, o4.only O (fun _ => by omega), o4'.only O (fun _ => by omega), by omega, by omega⟩
end Go.Proofs.YthapcapiiknjdaaDoor

/-
  The group of the curve in lists of bytes. Numbers alone.
-/
namespace Go.Proofs.YthapcapiiknjdaaDoor
set_option maxRecDepth 100000
open Go Go.RowKit

/-- A point of the curve in canonical coordinates. -/
structure Pv (p : Int × Int) : Prop where
  on : OnP PP (-1) d0 p
  cn : Cn p
def lx (p : Int × Int) : List Int := fill (byt p.1) 32
def ly (p : Int × Int) : List Int := fill (byt p.2) 32
theorem lx_byt (p : Int × Int) : Byt (lx p) := bytes_5 _ _
theorem ly_byt (p : Int × Int) : Byt (ly p) := bytes_5 _ _
theorem ly_len (p : Int × Int) : (ly p).length = 32 := fill_len _ _
theorem num_fill {v : Int} (h0 : 0 ≤ v) (h1 : v < PP) : num (fill (byt v) 32) = v := by
  have e := num_modS v
  rwa [Int.emod_eq_of_lt h0 h1] at e
theorem lx_num {p : Int × Int} (h : Pv p) : num (lx p) = p.1 := num_fill h.cn.x.1 h.cn.x.2
theorem ly_num {p : Int × Int} (h : Pv p) : num (ly p) = p.2 := num_fill h.cn.y.1 h.cn.y.2
theorem can_fill {v : Int} (h0 : 0 ≤ v) (h1 : v < PP) : canN (fill (byt v) 32) = true := by
  unfold canN
  rw [num_fill h0 h1, fill_len, decide_eq_true h1]
  rfl
theorem lv_valid {p : Int × Int} (h : Pv p) : validP (lx p) (ly p) = true := by
  unfold validP
  rw [lx_num h, ly_num h, show canN (lx p) = true from can_fill h.cn.x.1 h.cn.x.2, show canN (ly p) = true from can_fill h.cn.y.1 h.cn.y.2, on_valid h.on]
  rfl
theorem pv_of {xs ys : List Int} (hx : Byt xs) (hy : Byt ys) (h : validP xs ys = true) : Pv (num xs, num ys) ∧ xs = lx (num xs, num ys) ∧ ys = ly (num xs, num ys) := by
  have x1 := valid_x1 h
  have y1 := valid_y1 h
  refine ⟨⟨on_of h, ⟨num_ge hx, can_lt x1⟩, ⟨num_ge hy, can_lt y1⟩⟩, ?_, ?_⟩
  · have e := fill_can hx x1
    rw [Int.emod_eq_of_lt (num_ge hx) (can_lt x1)] at e
    exact e.symm
  · have e := fill_can hy y1
    rw [Int.emod_eq_of_lt (num_ge hy) (can_lt y1)] at e
    exact e.symm
theorem Pv.add {p q : Int × Int} (hp : Pv p) (hq : Pv q) : Pv (pAdd p q) := ⟨pAdd_on hp.on hq.on, pAdd_cn _ _⟩
theorem pv_base : Pv (bX, bY) := ⟨base_on, base_cn⟩
theorem bs_of : bsX = lx (bX, bY) ∧ bsY = ly (bX, bY) := by
  have h : liB (4 * iv 5) false = true := by
    unfold liB
    rw [base_lift.1]
    simp
  have e1 : bX % PP = bX := Int.emod_eq_of_lt base_cn.x.1 base_cn.x.2
  unfold bsX bsY liX liY
  rw [if_pos h, if_pos h, base_lift.2, base_mod]
  refine ⟨?_, rfl⟩
  show fill (byt (bX % PP)) 32 = _
  rw [e1]
  rfl
/-- The point that is drawn. -/
theorem lpP_is {xs : List Int} : ∃ p, Pv p ∧ lpP xs = (lx p, ly p) := by
  have hb := drP_byt xs 0
  unfold lpP
  generalize drP xs 0 = X at *
  by_cases h : validP X.1 X.2 = true
  · rw [if_pos h]
    obtain ⟨k, e1, e2⟩ := pv_of hb.1 hb.2 h
    exact ⟨_, k, Prod.ext e1 e2⟩
  · rw [if_neg h]
    exact ⟨_, pv_base, by rw [bs_of.1, bs_of.2]⟩
end Go.Proofs.YthapcapiiknjdaaDoor

/-
  Two points that are the same, as the laws ask it.
-/
namespace Go.Proofs.YthapcapiiknjdaaDoor
set_option maxRecDepth 100000
open Go Go.RowKit

set_option maxHeartbeats 2000000 in
theorem lwSamePoint_same (w : World) (g g' h h' : Nat) (a b p q : Option Addr) (ca cb cp cq : Nat) (ys ss : List Int) (h1 : Rd w g a .u8 ys) (h2 : Rd w h p .u8 ss) (h3 : Rd w g' b .u8 ys) (h4 : Rd w h' q .u8 ss) :
    Calls Tryd.prog 46 #[.agg #[.slice a ys.length ca, .slice p ss.length cp], .agg #[.slice b ys.length cb, .slice q ss.length cq]] w fun e w' => e = .returned (.bool true) ∧ Below w.heap.size w w' := by
  have n0 : Below w.heap.size w (w.alloc (.cells #[.slice a ys.length ca, .slice p ss.length cp] 24)) := (Below.refl _ _).alloc (Nat.le_refl _) _
  have n1 : Below w.heap.size w ((w.alloc (.cells #[.slice a ys.length ca, .slice p ss.length cp] 24)).alloc (.cells #[.slice b ys.length cb, .slice q ss.length cq] 24)) := n0.alloc (by simp) _
  have L1 := hide (lwSame_same _ g g' a b ca cb ys (h1.up n1) (h3.up n1))
  have L2 := hide (lwSame_same _ h h' p q cp cq ss (h2.up n1) (h4.up n1))
  go_enter Tryd.func46, Tryd.ntmps46
  go_wp2_with fail
  refine L1.out.mono ?_
  rintro e w3 ⟨rfl, rfl⟩
  go_wp2_with fail
  refine L2.out.mono ?_
  rintro e w4 ⟨rfl, rfl⟩
  go_wp2
  go_ret
  exact ⟨rfl, n1⟩
end Go.Proofs.YthapcapiiknjdaaDoor

/-
  The law by facts for a region that draws its order, with guarded operations that all are wanted. No program in sight.
-/
namespace Go.Proofs.YthapcapiiknjdaaDoor
set_option maxRecDepth 100000
open Go Go.RowKit

section
variable {P : Program} {ops : Array Oper} {Q : Exit → Act → World → Prop} {md : Region.Mode} {F : Nat → Fact} {a0 : Act} {w0 : World}

def textEnd (md : Region.Mode) (ops : Array Oper) (n : Nat) : Bool :=
  (ops.all fun o => match o.dst with | some d => decide (d < n) | none => true)
  && ((List.range ops.size).all fun i => match ops[i]? with
    | some o => o.after.all (fun e => !Region.binds md e || decide (e.on < i)) && (List.range i).all fun j => match ops[j]? with
      | some x => x.dst.isNone || o.dst != x.dst
      | none => true
    | none => true)
structure TextE (md : Region.Mode) (ops : Array Oper) (n : Nat) : Prop where
  d : ∀ (i : Nat) o d, ops[i]? = some o → o.dst = some d → d < n
  a : ∀ (i : Nat) o, ops[i]? = some o → ∀ e ∈ o.after, Region.binds md e = true → e.on < i
  x : ∀ (i j : Nat) o o' d, ops[i]? = some o → ops[j]? = some o' → i ≠ j → o.dst = some d → o'.dst ≠ some d
theorem textE_of {n : Nat} (h : textEnd md ops n = true) : TextE md ops n := by
  unfold textEnd at h
  simp only [Bool.and_eq_true] at h
  obtain ⟨h1, h2⟩ := h
  rw [Array.all_eq_true_iff_forall_mem] at h1
  rw [List.all_eq_true] at h2
  have H : ∀ (i j : Nat) o o' d, j < i → ops[i]? = some o → ops[j]? = some o' → o.dst = some d → o'.dst ≠ some d := by
    intro i j o o' d hij hi hj hd hd'
    have q := h2 i (List.mem_range.2 (Array.getElem?_eq_some_iff.1 hi).1)
    simp only [hi, Bool.and_eq_true] at q
    have r := List.all_eq_true.1 q.2 j (List.mem_range.2 hij)
    simp only [hj, hd, hd'] at r
    simp at r
  refine ⟨?_, ?_, ?_⟩
  · intro i o d ho hd
    have q := h1 o (Array.mem_of_getElem? ho)
    simpa [hd] using q
  · intro i o ho e he hb
    have q := h2 i (List.mem_range.2 (Array.getElem?_eq_some_iff.1 ho).1)
    simp only [ho, Bool.and_eq_true] at q
    have r := (Array.all_eq_true_iff_forall_mem.1 q.1) e he
    rw [hb] at r
    simpa using r
  · intro i j o o' d hi hj hij hd hd'
    rcases Nat.lt_or_gt_of_ne hij with h | h
    · exact H j i o' o d h hj hi hd' hd
    · exact H i j o o' d h hi hj hd hd'
theorem Held.nextE {n : Nat} (T : TextE md ops n) (hn : n ≤ a0.tmps.size) {listed : Array Bool} {a : Act} {w : World} (H : Held md ops F a0 w0 listed a w) {i : Nat} {o : Oper} (ho : ops[i]? = some o) (hr : i ∈ Region.ready md ops listed)
    {v : Value} {w' : World} (hw : Below w.heap.size w w') (hf : (F i).p v w') : Held md ops F a0 w0 (listed.setIfInBounds i true) (a.put o.dst v) w' := by
  have hi : i < ops.size := (Array.getElem?_eq_some_iff.1 ho).1
  have hz : a.tmps.size = a0.tmps.size := H.b.2.1
  refine ⟨⟨by rw [put_defers]; exact H.b.1, by rw [put_size]; exact hz, fun d hd => ?_⟩, nxt H.n hw, ?_, ?_, by simp [H.s]⟩
  · rw [put_off]
    · exact H.b.2.2 d hd
    · have q := Array.all_eq_true_iff_forall_mem.1 hd o (Array.mem_of_getElem? ho)
      simpa using q
  · intro j oj d hoj hj hd
    by_cases e : i = j
    · subst e
      obtain rfl := Option.some.inj (ho.symm.trans hoj)
      rw [hd, put_at (Nat.lt_of_lt_of_le (T.d i o d ho hd) (hz ▸ hn))]
      exact hf
    · rw [getD_off e] at hj
      rw [put_off (T.x j i oj o d hoj ho (Ne.symm e) hd)]
      exact (F j).up hw (H.f j oj d hoj hj hd)
  · intro j oj hoj hj e he hb
    obtain ⟨_, o', ho', q⟩ := mem_ready.1 hr
    by_cases c : i = e.on
    · rw [← c]
      exact getD_same (by rw [H.s]; exact hi) _
    · rw [getD_off c]
      by_cases e' : i = j
      · subst e'
        obtain rfl := Option.some.inj (ho'.symm.trans hoj)
        exact q e he hb
      · rw [getD_off e'] at hj
        exact H.c j oj hoj hj e he hb
theorem any_end {n : Nat} (T : TextE md ops n) (hn : n ≤ a0.tmps.size) (steps : ∀ i, i < ops.size → StepOk P md ops Q F a0 w0 i)
    (hg : ∀ i o, ops[i]? = some o → ∀ (a : Act) (w : World), (∀ j d, waits md ops i j d = true → (F j).p (a.tmps.getD d undef) w) → Region.wanted o (yielded ops a.tmps) = true)
    (fin : ∀ a w, Based ops a0 a → Below w0.heap.size w0 w → (∀ i o d, ops[i]? = some o → o.dst = some d → (F i).p (a.tmps.getD d undef) w) → Q .normal a w) :
    ∀ (fuel : Nat) (listed : Array Bool) (a : Act) (w : World), left listed ops.size ≤ fuel → Held md ops F a0 w0 listed a w → wpAny P md ops Q fuel listed a w := by
  have done : ∀ (fuel : Nat) (listed : Array Bool) (a : Act) (w : World), Held md ops F a0 w0 listed a w → (∀ i, i < ops.size → listed.getD i false = true) → wpAny P md ops Q fuel listed a w := by
    intro fuel listed a w H hall
    refine wpAny_done ?_ (fin a w H.b H.n (fun i o d ho hd => H.f i o d ho (hall i (Array.getElem?_eq_some_iff.1 ho).1) hd)) fuel
    cases hr : Region.ready md ops listed with
    | nil => rfl
    | cons i t =>
      exfalso
      have hi : i ∈ Region.ready md ops listed := by rw [hr]; simp
      obtain ⟨h0, o, ho, _⟩ := mem_ready.1 hi
      have hlt := (Array.getElem?_eq_some_iff.1 ho).1
      rw [dflt (by rw [H.s]; exact hlt), hall i hlt] at h0
      simp at h0
  intro fuel
  induction fuel with
  | zero =>
    intro listed a w hl H
    exact done 0 listed a w H fun i hi => by
      rw [← dflt (by rw [H.s]; exact hi)]
      exact left_zero (n := ops.size) (by omega) i hi
  | succ fuel ih =>
    intro listed a w hl H
    by_cases hall : ∀ i, i < ops.size → listed.getD i false = true
    · exact done _ listed a w H hall
    · refine ⟨fun hr => ?_, fun i hi => ?_⟩
      · exfalso
        refine hall fun j hj => ?_
        have : ∀ m i, i < m → i < ops.size → listed.getD i false = true := by
          intro m
          induction m with
          | zero => intro i hi; omega
          | succ m ihm =>
            intro i hi hik
            rcases Nat.lt_or_ge i m with h1 | h1
            · exact ihm i h1 hik
            · obtain rfl : i = m := by omega
              cases hc : listed.getD i false
              · exfalso
                obtain ⟨o, ho⟩ : ∃ o, ops[i]? = some o := ⟨ops[i], by simp [hik]⟩
                have hr' : i ∈ Region.ready md ops listed := mem_ready.2 ⟨by rw [dflt (by rw [H.s]; omega)]; exact hc, o, ho, fun e he hb => ihm e.on (T.a i o ho e he hb) (by have := T.a i o ho e he hb; omega)⟩
                rw [hr] at hr'
                simp at hr'
              · rfl
        exact this (j + 1) j (by omega) hj
      · obtain ⟨h0, o, ho, hready⟩ := mem_ready.1 hi
        have hlt := (Array.getElem?_eq_some_iff.1 ho).1
        have hfacts : ∀ j d, waits md ops i j d = true → (F j).p (a.tmps.getD d undef) w := by
          intro j d hjd
          unfold waits at hjd
          rw [ho] at hjd
          cases hoj : ops[j]? with
          | none => rw [hoj] at hjd; simp at hjd
          | some oj =>
            rw [hoj] at hjd
            simp only [Bool.and_eq_true, beq_iff_eq] at hjd
            obtain ⟨e, he, hb⟩ := Array.any_eq_true'.1 hjd.1
            simp only [Bool.and_eq_true, beq_iff_eq] at hb
            exact H.f j oj d hoj (by rw [← hb.2]; exact hready e he hb.1) hjd.2
        have hwant := hg i o ho a w hfacts
        refine wpOp_step ho fun K' hK => ?_
        rw [if_pos hwant]
        have hll := left_set (by rw [H.s]; exact hlt) h0 ops.size hlt
        refine steps i hlt o ho a w H.b H.n hfacts K' fun v w' hw hf => ?_
        exact hK _ _ (ih _ _ _ (by omega) (H.nextE T hn ho hi hw hf))
/-- The same for the region. -/
theorem region_guard {id : Nat} {w : World} (F : Nat → Fact) (hm : P.follows .mixedOrders = true) (hT : textEnd .any ops a0.tmps.size = true) (steps : ∀ i, i < ops.size → StepOk P .any ops Q F a0 w i)
    (hg : ∀ i o, ops[i]? = some o → ∀ (a : Act) (w : World), (∀ j d, waits .any ops i j d = true → (F j).p (a.tmps.getD d undef) w) → Region.wanted o (yielded ops a.tmps) = true)
    (fin : ∀ a W, Based ops a0 a → Below w.heap.size w W → (∀ i d, writes ops i d = true → (F i).p (a.tmps.getD d undef) W) → Q .normal a W) : (Code.region id ops true).wp P Q a0 w := by
  have T := textE_of hT
  have z : ∀ j, (Array.replicate ops.size false).getD j false = false := fun j => by
    rw [Array.getD_eq_getD_getElem?, Array.getElem?_replicate]
    split <;> rfl
  refine wp_region_any hm ?_
  refine any_end (w0 := w) T (Nat.le_refl _) steps hg (fun a W hb hw hf => fin a W hb hw (fun i d hd => ?_)) ops.size _ a0 _ ?_ ⟨⟨rfl, rfl, fun _ _ => rfl⟩, (Below.refl _ _).drew, ?_, ?_, by simp⟩
  · obtain ⟨o, ho, hd'⟩ := writes_is hd
    exact hf i o d ho hd'
  · have : ∀ m, left (Array.replicate ops.size false) m ≤ m := by
      intro m
      induction m with
      | zero => exact Nat.le_refl _
      | succ m ih => unfold left; split <;> omega
    exact this _
  · intro i o d ho hl _
    rw [z] at hl
    simp at hl
  · intro i o ho hl
    rw [z] at hl
    simp at hl
theorem wanted_none {o : Oper} {a : Act} (h : o.guard = none) : Region.wanted o (yielded ops a.tmps) = true := by simp [Region.wanted, h]
theorem wanted_some {o : Oper} {a : Act} {g d : Nat} {v : Bool} (h : o.guard = some (g, v)) (hd : writes ops g d = true) (e : a.tmps.getD d undef = .bool v) : Region.wanted o (yielded ops a.tmps) = true := by
  obtain ⟨og, ho, hd'⟩ := writes_is hd
  have e1 : a.tmps[d]? = some (.bool v) := by
    rw [Array.getD_eq_getD_getElem?] at e
    cases hq : a.tmps[d]? with
    | none => rw [hq] at e; simp [undef] at e
    | some x => rw [hq] at e; simpa using e
  simp [Region.wanted, h, yielded, ho, hd', e1]
theorem puts_guard {n : Nat} (hT : textEnd md ops n = true) (hn : n = a0.tmps.size) {a : Act} (hb : Based ops a0 a) (vs : Nat → Value) (hv : ∀ d, a.tmps.getD d undef = vs d) : a = puts vs a0 ops.toList := by
  have T := textE_of hT
  have hin : ∀ o ∈ ops.toList, ∀ e, o.dst = some e → e < a0.tmps.size := fun o ho e he => by
    obtain ⟨i, hi⟩ := List.getElem?_of_mem ho
    have := T.d i o e (by simpa using hi) he
    rw [hn] at this
    exact this
  obtain ⟨s1, s2⟩ := puts_size vs ops.toList a0
  obtain ⟨ta, da⟩ := a
  obtain ⟨h1, h2, h3⟩ := hb
  have e1 : ta = (puts vs a0 ops.toList).tmps := by
    apply Array.ext
    · rw [s1]; exact h2
    · intro i hi hi'
      have g := puts_get vs i ops.toList a0 hin
      have l : ta[i] = ta.getD i undef := by simp [Array.getD_eq_getD_getElem?, hi]
      have r : (puts vs a0 ops.toList).tmps[i] = (puts vs a0 ops.toList).tmps.getD i undef := by simp only [Array.getD_eq_getD_getElem?, Array.getElem?_eq_getElem hi', Option.getD_some]
      rw [l, r, g]
      by_cases c : ops.toList.any (fun o => o.dst == some i) = true
      · rw [if_pos c]; exact hv i
      · rw [if_neg c]
        refine h3 i ?_
        unfold apart
        rw [Array.all_eq_true_iff_forall_mem]
        intro o ho
        have hne : ¬ (o.dst == some i) = true := fun x => c (List.any_eq_true.2 ⟨o, by simpa using ho, x⟩)
        simpa using hne
  have e2 : da = (puts vs a0 ops.toList).defers := h1.trans s2.symm
  subst e1
  subst e2
  rfl
end
end Go.Proofs.YthapcapiiknjdaaDoor

/-
  A point that may be read, as a fact; what is done with it.
-/
namespace Go.Proofs.YthapcapiiknjdaaDoor
set_option maxRecDepth 100000
open Go Go.RowKit

def RPb (p : Int × Int) : Fact := ⟨fun v w => ∃ (a a' : Option Addr) (c c' g g' : Nat), v = .agg #[.slice a (lx p).length c, .slice a' (ly p).length c'] ∧ Rd w g a .u8 (lx p) ∧ Rd w g' a' .u8 (ly p), fun n h => by
  obtain ⟨a, a', c, c', g, g', e, o, o'⟩ := h
  exact ⟨a, a', c, c', g, g', e, o.up n, o'.up n⟩⟩
/-- A decoding that is good or not. -/
def PGd (b : Bool) : Fact := ⟨fun v _ => ∃ x y, v = .agg #[.bool b, x, y], fun _ h => h⟩
theorem fldP0 (w : World) (b : Bool) (x y : Value) : (Instr.field 44 (.agg #[.bool b, x, y]) 0).run Tryd.prog w = .ok (.bool b) w := by kernel_rfl
theorem fldA0 (q : Nat) (w : World) : (Instr.fieldAt 44 (.pointer (some ⟨q, 0, none⟩)) 0).run Tryd.prog w = .ok (.pointer (some ⟨q, 0, none⟩)) w := by kernel_rfl
theorem fldA1 (q : Nat) (w : World) : (Instr.fieldAt 44 (.pointer (some ⟨q, 0, none⟩)) 1).run Tryd.prog w = .ok (.pointer (some ⟨q, 1, none⟩)) w := by kernel_rfl
section
variable {ops : Array Oper} {Q : Exit → Act → World → Prop} {md : Region.Mode} {F : Nat → Fact} {a0 : Act} {w0 : World} {i : Nat} {o : Oper} {ts : Array TypeId}
theorem step_bsame (hi : ops[i]? = some o) (p q j k : Nat) {x : Int × Int} (hop : o.op = .call { callee := .value (.func 46), args := #[.tmp p, .tmp q], argTypes := ts })
    (hj : waits md ops i j p = true) (hk : waits md ops i k q = true) (hFj : F j = RPb x) (hFk : F k = RPb x) (hFi : F i = Fact.eq (.bool true)) : StepOk Tryd.prog md ops Q F a0 w0 i := by
  refine step_call hi _ _ ts hop (by kernel_rfl) fun a w _ hw hF => ?_
  have ea := hF j p hj
  have eb := hF k q hk
  rw [hFj] at ea
  rw [hFk] at eb
  obtain ⟨a1, a1', c1, c1', g1, g1', e1, r1, r1'⟩ := ea
  obtain ⟨a2, a2', c2, c2', g2, g2', e2, r2, r2'⟩ := eb
  show Calls Tryd.prog 46 #[a.tmps.getD p undef, a.tmps.getD q undef] w _
  rw [e1, e2]
  refine (lwSamePoint_same w g1 g2 g1' g2' a1 a2 a1' a2' c1 c2 c1' c2' (lx x) (ly x) r1 r1' r2 r2').mono ?_
  rintro r w' ⟨rfl, hn⟩
  rw [hFi]
  exact ⟨_, rfl, hn, rfl⟩
theorem step_blw (hi : ops[i]? = some o) (p j : Nat) {x : Int × Int} {g : Nat} {b : Option Addr} {c : Nat} {zs : List Int} (hr : Rd w0 g b .u8 zs) (hb : Byt zs) (hl : zs.length ≤ 4194304) (hx : lpP zs = (lx x, ly x)) (hop : o.op = .call { callee := .value (.func 44), args := #[.tmp p], argTypes := ts })
    (hj : waits md ops i j p = true) (hFj : F j = Fact.eq (.slice b zs.length c)) (hFi : F i = RPb x) : StepOk Tryd.prog md ops Q F a0 w0 i := by
  refine step_call hi _ _ ts hop (by kernel_rfl) fun a w _ hw hF => ?_
  have ea := hF j p hj
  rw [hFj] at ea
  show Calls Tryd.prog 44 #[a.tmps.getD p undef] w _
  rw [show a.tmps.getD p undef = _ from ea]
  refine (lwPoint_any w g b c zs (hr.up hw) hb hl).mono ?_
  rintro r w' ⟨h, hn⟩
  rw [hFi]
  rw [hx] at h
  obtain ⟨a1, a1', c1, c1', g1, g1', rfl, o1, o1', _⟩ := h
  exact ⟨_, rfl, hn, a1, a1', c1, c1', g1, g1', rfl, o1.rd, o1'.rd⟩
theorem step_bload (hi : ops[i]? = some o) (p j : Nat) (hop : o.op = .load 24 (.tmp p)) (hj : waits md ops i j p = true) (B : Nat) {u : Value} {x : Int × Int} {a a' : Option Addr} {c c' g g' : Nat} (hFj : F j = Fact.eq (.pointer (some ⟨B, 1, none⟩))) (T : Tri w0 B u (.slice a (lx x).length c) (.slice a' (ly x).length c')) (r : Rd w0 g a .u8 (lx x)) (r' : Rd w0 g' a' .u8 (ly x)) (hF : F i = RPb x) : StepOk Tryd.prog md ops Q F a0 w0 i := by
  obtain ⟨fs, hu⟩ := uP
  refine step_load hi _ _ hop _ 2 hu rfl iP fun A w hb hw hf => ?_
  have e := hf j p hj
  rw [hFj] at e
  refine ⟨B, 1, [.slice a (lx x).length c, .slice a' (ly x).length c'], e, fun k v hv => ?_, rfl, by rw [hF]; exact ⟨a, a', c, c', g, g', rfl, r.up hw, r'.up hw⟩⟩
  have T' := T.up hw
  match k, hv with
  | 0, hv => cases hv; exact T'.c1
  | 1, hv => cases hv; exact T'.c2
theorem step_bdec (hi : ops[i]? = some o) (p j : Nat) {gd : Bool} {g : Nat} {b : Option Addr} {c : Nat} {zs : List Int} (hr : Rd w0 g b .u8 zs) (hb : Byt zs) (hc : b = none → c = 0) (hg : gd = dcB zs) (hop : o.op = .call { callee := .value (.func 39), args := #[.tmp p], argTypes := ts })
    (hj : waits md ops i j p = true) (hFj : F j = Fact.eq (.slice b zs.length c)) (hFi : F i = PGd gd) : StepOk Tryd.prog md ops Q F a0 w0 i := by
  refine step_call hi _ _ ts hop (by kernel_rfl) fun a w _ hw hF => ?_
  have ea := hF j p hj
  rw [hFj] at ea
  show Calls Tryd.prog 39 #[a.tmps.getD p undef] w _
  rw [show a.tmps.getD p undef = _ from ea]
  refine (specDecode_any w g b c zs (hr.up hw) hb hc).mono ?_
  rintro r w' ⟨h, hn⟩
  rw [hFi, hg]
  obtain ⟨a1, a1', c1, c1', g1, g1', rfl, _⟩ := h
  exact ⟨_, rfl, hn, _, _, rfl⟩
theorem step_bfld (hi : ops[i]? = some o) (p j : Nat) {gd : Bool} (hop : o.op = .field 44 (.tmp p) 0) (hj : waits md ops i j p = true) (hFj : F j = PGd gd) (hFi : F i = Fact.eq (.bool gd)) : StepOk Tryd.prog md ops Q F a0 w0 i := by
  refine step_pure hi fun a w _ _ hf => ⟨.bool gd, ?_, by rw [hFi]; exact rfl⟩
  have h1 := hf j p hj
  rw [hFj] at h1
  obtain ⟨x, y, e⟩ := h1
  have g1 : a.eval (.tmp p) = .agg #[.bool gd, x, y] := e
  have k := fldP0 w gd x y
  simp only [execOp, hop, g1]
  rw [Sem.run_bind, k]
  rfl
theorem step_bne (hi : ops[i]? = some o) (p q j k : Nat) {b : Bool} {t : TypeId} (hop : o.op = .binOp .neq 4 (.tmp p) (.tmp q) t) (hj : waits md ops i j p = true) (hk : waits md ops i k q = true) (hFj : F j = Fact.eq (.bool b)) (hFk : F k = Fact.eq (.bool b)) (hFi : F i = Fact.eq (.bool false)) : StepOk Tryd.prog md ops Q F a0 w0 i := by
  refine step_pure hi fun a w _ _ hf => ⟨.bool false, ?_, by rw [hFi]; exact rfl⟩
  have h1 := hf j p hj
  have h2 := hf k q hk
  rw [hFj] at h1
  rw [hFk] at h2
  have g1 : a.eval (.tmp p) = .bool b := h1
  have g2 : a.eval (.tmp q) = .bool b := h2
  simp only [execOp, hop, g1, g2]
  cases b <;> first | rfl | kernel_rfl | go_simp
end
end Go.Proofs.YthapcapiiknjdaaDoor

/-
  The bytes that are drawn for an element, from a source that was asked before.
-/
namespace Go.Proofs.YthapcapiiknjdaaDoor
set_option maxRecDepth 100000
open Go.RowKit

theorem canon_pos {ys : List Int} {v : Int} (h : Canon ys v) : 0 < ys.length ↔ 0 < v := by
  constructor
  · intro h0
    have := h.ge h0
    have hp := p256_pos (ys.length - 1)
    omega
  · intro hv
    by_cases e : ys.length = 0
    · have : ys = [] := List.eq_nil_of_length_eq_zero e
      subst this
      have := h.2.1
      rw [bval_nil] at this
      omega
    · omega
theorem But.up {g : Nat} {a b c : World} (h : But g a b) (n : Below b.heap.size b c) : But g a c := h.trans (But.ofBelow n)
theorem dig_bytes {xs : List Int} (h : Byt xs) (n : Nat) : Byt (fill (dig xs) n) := by
  intro i
  by_cases hi : i < n
  · rw [fill_get _ _ _ hi]; have := dig_byt h i; omega
  · rw [List.getD_eq_getElem?_getD, List.getElem?_eq_none (by rw [fill_len]; omega)]; simp

theorem byt_fill {f : Nat → Int} (h : ∀ i, 0 ≤ f i ∧ f i < 256) (n : Nat) : Byt (fill f n) := by
  intro i
  by_cases hi : i < n
  · rw [fill_get _ _ _ hi]; exact h i
  · rw [List.getD_eq_getElem?_getD, List.getElem?_eq_none (by rw [fill_len]; omega)]; simp

/-- A source that was asked at most m times. -/
def SrcTo (w : World) (s : Nat) (a : Option Addr) (n c : Nat) (m : Int) : Prop := ∃ t, 0 ≤ t ∧ t ≤ m ∧ Src w s a n c t

set_option maxHeartbeats 4000000 in
theorem l2DrawT_any (w : World) (s g : Nat) (a : Option Addr) (c : Nat) (xs : List Int) (t : Int) (t0 : 0 ≤ t) (t1 : t ≤ 10000) (hs : Src w s a xs.length c t) (hr : Rd w g a .u8 xs) (hne : 0 < xs.length → g ≠ s) (hb : Byt xs) (hl : xs.length ≤ 1048576) :
    Calls Tryd.prog 90 #[.pointer (some ⟨s, 0, none⟩)] w fun e w' => ∃ ys, Byt ys ∧ ys.length ≤ 64 ∧ NewRow w.heap.size w' e .u8 ys ∧ But s w w' ∧ SrcTo w' s a xs.length c (t + 200) := by
  obtain ⟨i0, hi, hz0, hz1, hz2⟩ := info_parts Tryd.info5
  have sl := hs.lt
  have NX := l1Next_any w s g a c xs t 10 hs hr hne hb hl (by omega) (by omega) (by decide) (by decide)
  go_enter Tryd.func90, Tryd.ntmps90
  go_wp2_with fail
  refine NX.mono ?_
  rintro e w1 ⟨r, rfl, ⟨r0, r1⟩, S1, O1⟩
  have N1 : But s w w1 := But.ofOnly O1
  have hr1 := hr.but N1 hne
  have z1 := hide O1.size
  clear NX
  rcases (show r = 0 ∨ r = 1 ∨ r = 2 ∨ r = 3 ∨ r = 4 ∨ 5 ≤ r by omega) with rfl | rfl | rfl | rfl | rfl | h5
  · go_wp2_with fail
    refine (l1Next_any w1 s g a c xs (t + 1) 40 S1 hr1 hne hb hl (by omega) (by omega) (by decide) (by decide)).mono ?_
    rintro e w2 ⟨v, rfl, ⟨v0, v1⟩, S2, O2⟩
    go_wp2_with fail
    refine (l1Int_any w2 v v0 (by omega)).mono ?_
    rintro e w3 ⟨i1, il, ib, ⟨ai, ci, gi, rfl, oi, pi, qi, ri⟩, n3⟩
    go_wp2_with fail
    refine (l1Little_any w3 gi ai ci i1 32 oi.rd ib (by omega) (by omega)).mono ?_
    rintro e w4 ⟨rfl, B4, n4⟩
    have N4 := ((N1.only O2).up n3).up n4
    have z := ((N1.only O2).up n3).size
    go_wp2
    go_ret
    exact ⟨_, dig_bytes ib 32, by rw [fill_len]; omega, ⟨_, 32, w3.heap.size, by rw [fill_len]; rfl, B4.own0, by simp, by rw [fill_len]; omega, z⟩, N4, ⟨_, by omega, by omega, (S2.up n3).up n4⟩⟩
  · go_wp2_with fail
    refine (l2Prime_any w1).mono ?_
    rintro e w2 ⟨rfl, B2, n2⟩
    have nB : Below w2.heap.size w2 (w2.alloc (.cells #[.int .u8 20] 5)) := (Below.refl _ _).alloc (Nat.le_refl _) _
    have BB : Blk (w2.alloc (.cells #[.int .u8 20] 5)) w2.heap.size .u8 [20] := ⟨5, by rw [heap_alloc_last]; rfl⟩
    have hb20 : Byt [20] := fun i => by
      match i with
      | 0 => decide
      | i + 1 => simp
    go_wp2_with fail
    generalize w2.alloc (.cells #[.int .u8 20] 5) = wB at *
    refine (l1Add_any wB _ _ _ _ 32 1 pbytes [20] (B2.up nB).own0.rd BB.own0.rd pbytes_byt hb20 (by decide) (by decide)).mono ?_
    rintro e w3 ⟨y3, C3, ⟨a3, c3, g3, rfl, o3, p3, q3, r3⟩, n3⟩
    rw [pbytes_val] at C3
    have N3 := ((N1.up n2).up nB).up n3
    have hz3 : w.heap.size ≤ w2.heap.size := (N1.up n2).size
    have S3 := ((S1.up n2).up nB).up n3
    have hg3 : w.heap.size ≤ g3 := by have := nB.size; omega
    clear B2 BB
    go_wp2_with fail
    refine (l1Next_any w3 s g a c xs (t + 1) 40 S3 (hr.but N3 hne) hne hb hl (by omega) (by omega) (by decide) (by decide)).mono ?_
    rintro e w4 ⟨v, rfl, ⟨v0, v1⟩, S4, O4⟩
    have o3a := o3.only O4 (fun _ => by omega)
    have N4 := N3.only O4
    go_wp2_with fail
    refine (l1Int_any w4 v v0 (by omega)).mono ?_
    rintro e w5 ⟨i1, il, ib, ⟨ai, ci, gi, rfl, oi, pi, qi, ri⟩, n5⟩
    have o3b := o3a.up n5
    have N5 := N4.up n5
    go_wp2_with fail
    have V : Hid (bval i1 ≤ bval y3) := by
      show _ ≤ _
      have h1 : bval i1 < 256 := by
        have := bval_lt ib
        have hp : (256 : Int) ^ i1.length ≤ 256 ^ 1 := p256_le il
        have : (256 : Int) ^ 1 = 256 := by decide
        omega
      rw [C3.2.1]
      have : bval [20] = 20 := rfl
      have : (0 : Int) ≤ PP - 256 := by decide
      omega
    have L3 : y3.length ≤ 64 := C3.len (by decide)
    have LI : i1.length ≤ y3.length := by
      have := (canon_pos C3).2 (by decide)
      omega
    refine (l1Sub_any w5 g3 gi a3 ai c3 ci y3 i1 o3b.rd oi.rd C3.1 ib (by omega) LI V.out).mono ?_
    rintro e w6 ⟨y6, C6, ⟨a6, c6, g6, rfl, o6, p6, q6, r6⟩, n6⟩
    have L6 : y6.length ≤ 64 := C6.len (Int.lt_of_le_of_lt (show bval y3 - bval i1 ≤ bval y3 by have := bval_nonneg ib; omega) (Int.lt_of_lt_of_le (bval_lt C3.1) (p256_le L3)))
    go_wp2_with fail
    refine (l1Little_any w6 g6 a6 c6 y6 32 o6.rd C6.1 (by omega) (by omega)).mono ?_
    rintro e w7 ⟨rfl, B7, n7⟩
    have N7 := (N5.up n6).up n7
    have z := (N5.up n6).size
    go_wp2
    go_ret
    exact ⟨_, dig_bytes C6.1 32, by rw [fill_len]; omega, ⟨_, 32, w6.heap.size, by rw [fill_len]; rfl, B7.own0, by simp, by rw [fill_len]; omega, z⟩, N7, ⟨_, by omega, by omega, ((S4.up n5).up n6).up n7⟩⟩
  · go_wp2_with fail
    refine (l2Prime_any w1).mono ?_
    rintro e w2 ⟨rfl, B2, n2⟩
    go_wp2_with fail
    refine (l1Shift1_any w2 _ _ 32 pbytes B2.own0.rd pbytes_byt (by simp) (by decide) (by decide)).mono ?_
    rintro e wS ⟨yS, CS, ⟨aS, cS, gS, rfl, oS, pS, qS, rS⟩, nS⟩
    rw [pbytes_val] at CS
    have lS : yS.length ≤ 64 := CS.len (by decide)
    have nB : Below wS.heap.size wS (wS.alloc (.cells #[.int .u8 20] 5)) := (Below.refl _ _).alloc (Nat.le_refl _) _
    have BB : Blk (wS.alloc (.cells #[.int .u8 20] 5)) wS.heap.size .u8 [20] := ⟨5, by rw [heap_alloc_last]; rfl⟩
    have hb20 : Byt [20] := fun i => by
      match i with
      | 0 => decide
      | i + 1 => simp
    go_wp2_with fail
    generalize wS.alloc (.cells #[.int .u8 20] 5) = wB at *
    refine (l1Add_any wB gS _ aS _ cS 1 yS [20] (oS.up nB).rd BB.own0.rd CS.1 hb20 (by omega) (by decide)).mono ?_
    rintro e w3 ⟨y3, C3, ⟨a3, c3, g3, rfl, o3, p3, q3, r3⟩, n3⟩
    rw [CS.2.1] at C3
    have N3 := (((N1.up n2).up nS).up nB).up n3
    have hz3 : w.heap.size ≤ wS.heap.size := ((N1.up n2).up nS).size
    have S3 := (((S1.up n2).up nS).up nB).up n3
    have hg3 : w.heap.size ≤ g3 := by have := nB.size; omega
    clear B2 BB
    go_wp2_with fail
    refine (l1Next_any w3 s g a c xs (t + 1) 40 S3 (hr.but N3 hne) hne hb hl (by omega) (by omega) (by decide) (by decide)).mono ?_
    rintro e w4 ⟨v, rfl, ⟨v0, v1⟩, S4, O4⟩
    have o3a := o3.only O4 (fun _ => by omega)
    have N4 := N3.only O4
    go_wp2_with fail
    refine (l1Int_any w4 v v0 (by omega)).mono ?_
    rintro e w5 ⟨i1, il, ib, ⟨ai, ci, gi, rfl, oi, pi, qi, ri⟩, n5⟩
    have o3b := o3a.up n5
    have N5 := N4.up n5
    go_wp2_with fail
    have V : Hid (bval i1 ≤ bval y3) := by
      show _ ≤ _
      have h1 : bval i1 < 256 := by
        have := bval_lt ib
        have hp : (256 : Int) ^ i1.length ≤ 256 ^ 1 := p256_le il
        have : (256 : Int) ^ 1 = 256 := by decide
        omega
      rw [C3.2.1]
      have : bval [20] = 20 := rfl
      have : (0 : Int) ≤ PP - 256 := by decide
      omega
    have L3 : y3.length ≤ 64 := C3.len (by decide)
    have LI : i1.length ≤ y3.length := by
      have := (canon_pos C3).2 (by decide)
      omega
    refine (l1Sub_any w5 g3 gi a3 ai c3 ci y3 i1 o3b.rd oi.rd C3.1 ib (by omega) LI V.out).mono ?_
    rintro e w6 ⟨y6, C6, ⟨a6, c6, g6, rfl, o6, p6, q6, r6⟩, n6⟩
    have L6 : y6.length ≤ 64 := C6.len (Int.lt_of_le_of_lt (show bval y3 - bval i1 ≤ bval y3 by have := bval_nonneg ib; omega) (Int.lt_of_lt_of_le (bval_lt C3.1) (p256_le L3)))
    go_wp2_with fail
    refine (l1Little_any w6 g6 a6 c6 y6 32 o6.rd C6.1 (by omega) (by omega)).mono ?_
    rintro e w7 ⟨rfl, B7, n7⟩
    have N7 := (N5.up n6).up n7
    have z := (N5.up n6).size
    go_wp2
    go_ret
    exact ⟨_, dig_bytes C6.1 32, by rw [fill_len]; omega, ⟨_, 32, w6.heap.size, by rw [fill_len]; rfl, B7.own0, by simp, by rw [fill_len]; omega, z⟩, N7, ⟨_, by omega, by omega, ((S4.up n5).up n6).up n7⟩⟩
  · go_wp2_with (at_make; refine wpList_make_full _ rfl _ _ 22 rfl w1.heap.size 5 i0 (.int .u8 0) 1 Tryd.underlying22 hi hz0 hz1 .i64 .i64 _ _ 32 rfl rfl rfl rfl (by rw [hz2]; omega) (by unfold maxLen; omega) (Nat.le_refl _) ?_; intro w2 hown hgrow)
    have hB := Blk.of_made hown
    have nM : Below w1.heap.size w1 w2 := (Below.refl _ _).grown hgrow (Nat.le_refl _) (by simp)
    have S2 := S1.up nM
    have N2 := N1.up nM
    have z2 : w1.heap.size < w2.heap.size := hB.lt
    clear hown hgrow
    go_loopw [5] (fun i wr => ∃ (k : Nat) (ys : List Int), k ≤ 32 ∧ i = .int .i64 k ∧ FillTo (fun _ => 255) ys 32 k ∧ Blk wr w1.heap.size .u8 ys ∧ Src wr s a xs.length c (t + 1) ∧ But s w wr) (fun i _ => 32 - (intOf i).toNat)
    case atStart => exact ⟨0, _, by omega, rfl, ⟨by simp, fun j hj => absurd hj (by omega)⟩, hB, S2, N2⟩
    case round =>
      clear hB nM S2 N2
      obtain ⟨k, ys, hk, rfl, hF, hB, hS, hN⟩ := hrel
      have z1' := z1.out
      have sne : s ≠ w1.heap.size := by omega
      clear z1'
      by_cases hlt : k < 32
      · have hst := hF.step hlt
        have hcy := hB.cell (i := k) (by rw [hF.1]; exact hlt)
        have hfy := hB.free k
        have k2 : (k : Int) < 32 := by omega
        have St := hB.store k 255
        have Ss := hS.of_block (w' := wr.setCell ⟨w1.heap.size, k, none⟩ (.int .u8 255)) (heap_setCell_other wr ⟨w1.heap.size, k, none⟩ s _ sne)
        have Sn : But s w (wr.setCell ⟨w1.heap.size, k, none⟩ (.int .u8 255)) := hN.setCell (by have := z1.out; omega)
        clear hB hN hF hS
        go_wp2
        go_roundw
        case rel => exact ⟨k + 1, _, by omega, by go_num, hst, St, Ss, Sn⟩
        case measure => simp [intOf]; omega
      · obtain rfl : k = 32 := by omega
        have hy := hF.all
        subst hy
        go_wp2_with fail
        refine (l1Next_any wr s g a c xs (t + 1) 256 hS (hr.but hN hne) hne hb hl (by omega) (by omega) (by decide) (by decide)).mono ?_
        rintro e w4 ⟨v, rfl, ⟨v0, v1⟩, S4, O4⟩
        have B4 := hB.of_block (O4.block w1.heap.size (by omega))
        have c0 : w4.cell? ⟨w1.heap.size, 0, none⟩ = some (.int .u8 255) := B4.cell (i := 0) (by rw [fill_len]; omega)
        have f0 := B4.free 0
        have B5 := B4.store 0 v
        have S5 := S4.of_block (w' := w4.setCell ⟨w1.heap.size, 0, none⟩ (.int .u8 v)) (heap_setCell_other w4 ⟨w1.heap.size, 0, none⟩ s _ sne)
        have N5 : But s w (w4.setCell ⟨w1.heap.size, 0, none⟩ (.int .u8 v)) := (hN.only O4).setCell (by have := z1.out; omega)
        have hv : v % 256 = v := by omega
        have zz : w.heap.size ≤ w1.heap.size := by have := z1.out; omega
        have ZZ := hide zz
        clear zz
        clear hB B4
        go_wp2
        go_ret
        refine ⟨_, byt_set (byt_fill (fun _ => ⟨by decide, by decide⟩) 32) 0 v v0 (by omega), by simp [fill_len], ⟨_, 32, w1.heap.size, ?_, B5.own0, by simp, by simp [fill_len], ZZ.out⟩, N5, ⟨_, by omega, by omega, S5⟩⟩
        simp [fill_len]
  · go_wp2_with (first | (at_make; refine wpList_make_full _ rfl _ _ 22 rfl w1.heap.size 5 i0 (.int .u8 0) 1 Tryd.underlying22 hi hz0 hz1 .i64 .i64 _ _ 32 rfl rfl rfl rfl (by rw [hz2]; omega) (by unfold maxLen; omega) (Nat.le_refl _) ?_; intro w2 hown hgrow) | fail)
    have hB := Blk.of_made hown
    have nM : Below w1.heap.size w1 w2 := (Below.refl _ _).grown hgrow (Nat.le_refl _) (by simp)
    have S2 := S1.up nM
    have N2 := N1.up nM
    clear hown hgrow
    refine (l1Next_any w2 s g a c xs (t + 1) 32 S2 (hr.but N2 hne) hne hb hl (by omega) (by omega) (by decide) (by decide)).mono ?_
    rintro e w3 ⟨i, rfl, ⟨j0, j1⟩, S3, O3⟩
    have sne : s ≠ w1.heap.size := by have := z1.out; omega
    have B3 := hB.of_block (O3.block w1.heap.size (by omega))
    have N3 := N2.only O3
    obtain ⟨j, rfl⟩ := Int.eq_ofNat_of_zero_le j0
    go_wp2_with fail
    refine (l1Next_any w3 s g a c xs (t + 1 + 1) 256 S3 (hr.but N3 hne) hne hb hl (by omega) (by omega) (by decide) (by decide)).mono ?_
    rintro e w4 ⟨v, rfl, ⟨v0, v1⟩, S4, O4⟩
    have B4 := B3.of_block (O4.block w1.heap.size (by omega))
    have c0 := B4.cell (i := j) (by simp; omega)
    have f0 := B4.free j
    have B5 := B4.store j v
    have S5 := S4.of_block (w' := w4.setCell ⟨w1.heap.size, j, none⟩ (.int .u8 v)) (heap_setCell_other w4 ⟨w1.heap.size, j, none⟩ s _ sne)
    have N5 : But s w (w4.setCell ⟨w1.heap.size, j, none⟩ (.int .u8 v)) := (N3.only O4).setCell (by have := z1.out; omega)
    have hv : v % 256 = v := by omega
    have zz : w.heap.size ≤ w1.heap.size := by have := z1.out; omega
    have ZZ := hide zz
    clear zz hB B3 B4
    go_wp2
    go_ret
    refine ⟨_, byt_set (byt_zeros 32) j v v0 (by omega), by simp, ⟨_, 32, w1.heap.size, ?_, B5.own0, by simp, by simp, ZZ.out⟩, N5, ⟨_, by omega, by omega, S5⟩⟩
    simp
  · have q0 : (r == 0) = false := by simp; omega
    have q1 : (r == 1) = false := by simp; omega
    have q2 : (r == 2) = false := by simp; omega
    have q3 : (r == 3) = false := by simp; omega
    have q4 : (r == 4) = false := by simp; omega
    clear r0 r1 h5
    go_wp2_with fail
    refine (l1DrawBytes_any w1 s g a c xs (t + 1) 32 S1 hr1 hne hb hl (by omega) (by omega)).mono ?_
    rintro e w2 ⟨y2, l2, b2, ⟨a2, c2, g2, rfl, o2, p2, q2', r2⟩, S2, T2⟩
    have N2 := N1.trans T2
    have z2 := T2.size
    go_wp2_with fail
    refine (l1Chance_any w2 s g a c xs (t + 1 + ((32 : Nat) : Int)) 25 S2 (hr.but N2 hne) hne hb hl (by omega) (by omega) (by decide) (by decide)).mono ?_
    rintro e w3 ⟨bb, rfl, S3, O3⟩
    have N3 := N2.only O3
    have z1' := z1.out
    have o3 := o2.only O3 (fun _ => by omega)
    have zz : w.heap.size ≤ g2 := by omega
    have ZZ := hide zz
    have L2 := hide l2
    clear zz z1' l2
    cases bb
    · go_wp2
      go_ret
      exact ⟨y2, b2, by have := L2.out; omega, ⟨_, _, g2, by rw [L2.out]; rfl, o3, p2, q2', ZZ.out⟩, N3, ⟨_, by omega, by omega, S3⟩⟩
    · go_wp2_with fail
      refine (l1Next_any w3 s g a c xs (t + 1 + ((32 : Nat) : Int) + 1) 2 S3 (hr.but N3 hne) hne hb hl (by omega) (by omega) (by decide) (by decide)).mono ?_
      rintro e w4 ⟨v, rfl, ⟨v0, v1⟩, S4, O4⟩
      have N4 := N3.only O4
      obtain ⟨j, rfl⟩ := Int.eq_ofNat_of_zero_le v0
      have hj : (31 : Int) + 2 * (j : Int) = ((31 + 2 * j : Nat) : Int) := by omega
      have DB := l1DrawBytes_any w4 s g a c xs (t + 1 + ((32 : Nat) : Int) + 1 + 1) (31 + 2 * j) S4 (hr.but N4 hne) hne hb hl (by omega) (by omega)
      rw [← hj] at DB
      have DH := hide DB
      clear DB hj
      go_wp2_with fail
      refine DH.out.mono ?_
      rintro e w5 ⟨y5, l5, b5, ⟨a5, c5, g5, rfl, o5, p5, q5, r5⟩, S5, T5⟩
      have N5 := N4.trans T5
      have z4 := N4.size
      have L5 : y5.length ≤ 64 := by omega
      have zz : w.heap.size ≤ g5 := by omega
      have ZZ := hide zz
      clear zz l5 DH
      go_wp2
      go_ret
      exact ⟨y5, b5, L5, ⟨_, _, g5, rfl, o5, p5, q5, ZZ.out⟩, N5, ⟨_, by omega, by omega, S5⟩⟩

end Go.Proofs.YthapcapiiknjdaaDoor

/-
  The model's PointEncode.
-/
namespace Go.Proofs.YthapcapiiknjdaaDoor
set_option maxRecDepth 100000
open Go Go.RowKit

/-- The form of a point as bytes; nothing, if there is none. -/
def esA (xs ys : List Int) : List Int := if validP xs ys = true then ys.set 31 (ys.getD 31 0 + 128 * (xs.getD 0 0 % 2)) else []
section
variable {ops : Array Oper} {Q : Exit → Act → World → Prop} {md : Region.Mode} {F : Nat → Fact} {a0 : Act} {w0 : World} {i : Nat} {o : Oper}
theorem step_at0 (hi : ops[i]? = some o) (p j : Nat) {g off c : Nat} (hop : o.op = .indexAddr 22 (.tmp p) (.const (.int .i64 0))) (hj : waits md ops i j p = true) (hFj : F j = Fact.eq (.slice (some ⟨g, off, none⟩) 32 c)) (hF : F i = Fact.eq (.pointer (some ⟨g, off, none⟩))) : StepOk Tryd.prog md ops Q F a0 w0 i := by
  refine step_pure hi fun a w hb hw hf => ⟨.pointer (some ⟨g, off, none⟩), ?_, by rw [hF]; exact rfl⟩
  have e := hf j p hj
  rw [hFj] at e
  have e' : a.eval (.tmp p) = .slice (some ⟨g, off, none⟩) 32 c := e
  have e2 : a.eval (.const (.int .i64 0)) = .int .i64 0 := rfl
  simp only [execOp, hop, e', e2]
  go_simp
theorem step_rem2 (hi : ops[i]? = some o) (p j : Nat) {v : Int} (h0 : 0 ≤ v ∧ v < 256) (hop : o.op = .binOp .rem 5 (.tmp p) (.const (.int .u8 2)) 5) (hj : waits md ops i j p = true) (hFj : F j = Fact.eq (.int .u8 v)) (hF : F i = Fact.eq (.int .u8 (v % 2))) : StepOk Tryd.prog md ops Q F a0 w0 i := by
  have et : v.tmod 2 = v % 2 := Int.tmod_eq_emod_of_nonneg h0.1
  refine step_pure hi fun a w _ hw hf => ⟨.int .u8 (v % 2), ?_, by rw [hF]; exact rfl⟩
  have e := hf j p hj
  rw [hFj] at e
  have e' : a.eval (.tmp p) = .int .u8 v := e
  have e2 : a.eval (.const (.int .u8 2)) = .int .u8 2 := rfl
  simp only [execOp, hop, e', e2]
  go_simp
theorem step_m128 (hi : ops[i]? = some o) (p j : Nat) {v : Int} (h0 : 0 ≤ v ∧ v < 2) (hop : o.op = .binOp .mul 5 (.const (.int .u8 128)) (.tmp p) 5) (hj : waits md ops i j p = true) (hFj : F j = Fact.eq (.int .u8 v)) (hF : F i = Fact.eq (.int .u8 (128 * v))) : StepOk Tryd.prog md ops Q F a0 w0 i := by
  have ew : IntKind.u8.wrap (128 * v) = 128 * v := by rw [IntKind.wrap_u8]; omega
  refine step_pure hi fun a w _ hw hf => ⟨.int .u8 (128 * v), ?_, by rw [hF]; exact rfl⟩
  have e := hf j p hj
  rw [hFj] at e
  have e' : a.eval (.tmp p) = .int .u8 v := e
  have e2 : a.eval (.const (.int .u8 128)) = .int .u8 128 := rfl
  simp only [execOp, hop, e', e2]
  go_simp
theorem step_add8 (hi : ops[i]? = some o) (p q j k : Nat) {u v : Int} (h0 : 0 ≤ u + v ∧ u + v < 256) (hop : o.op = .binOp .add 5 (.tmp p) (.tmp q) 5) (hj : waits md ops i j p = true) (hk : waits md ops i k q = true) (hFj : F j = Fact.eq (.int .u8 u)) (hFk : F k = Fact.eq (.int .u8 v)) (hF : F i = Fact.eq (.int .u8 (u + v))) : StepOk Tryd.prog md ops Q F a0 w0 i := by
  have ew : IntKind.u8.wrap (u + v) = u + v := by rw [IntKind.wrap_u8]; omega
  refine step_pure hi fun a w _ hw hf => ⟨.int .u8 (u + v), ?_, by rw [hF]; exact rfl⟩
  have e := hf j p hj
  have e3 := hf k q hk
  rw [hFj] at e
  rw [hFk] at e3
  have e' : a.eval (.tmp p) = .int .u8 u := e
  have e2 : a.eval (.tmp q) = .int .u8 v := e3
  simp only [execOp, hop, e', e2]
  go_simp
end
/-- One byte of a row is set. -/
theorem own_set {w : World} {h off : Nat} {xs : List Int} (o : Own w h (some ⟨h, off, none⟩) .u8 xs) (h0 : 0 < xs.length) (i : Nat) (hi : i < xs.length) (v : Int) : Own (w.setCell ⟨h, off + i, none⟩ (.int .u8 v)) h (some ⟨h, off, none⟩) .u8 (xs.set i v) := by
  obtain ⟨off', e, hc⟩ := o h0
  cases e
  intro _
  refine ⟨off, rfl, fun j hj => ?_⟩
  rw [List.length_set] at hj
  obtain ⟨c, f⟩ := hc j hj
  refine ⟨?_, by rw [World.frozen?_setCell]; exact f⟩
  by_cases e : j = i
  · subst e
    rw [World.cell?_setCell_same _ _ _ c]
    simp [List.getD_eq_getElem?_getD, hj]
  · rw [World.cell?_setCell_other (h := by simp; try omega), c]
    simp [List.getD_eq_getElem?_getD, Ne.symm e]
/-- A region that lays a byte. -/
theorem region_st8 {ops : Array Oper} {Q : Exit → Act → World → Prop} {a0 : Act} {w : World} {id : Nat} {draw : Bool} (k jA jV pA pV : Nat) (o : Oper) (F : Nat → Fact) {q off : Nat} {v u : Int} (hT : textOk .any ops a0.tmps.size k = true) (hk : ops[k]? = some o) (hd : o.dst = none) (hop : o.op = .store 5 (.tmp pA) (.tmp pV))
    (wA : writes ops jA pA = true) (wV : writes ops jV pV = true) (FA : F jA = Fact.eq (.pointer (some ⟨q, off, none⟩))) (FV : F jV = Fact.eq (.int .u8 v)) (hc : w.cell? ⟨q, off, none⟩ = some (.int .u8 u)) (hf : w.frozen? ⟨q, off, none⟩ = false) (steps : ∀ i, i < k → StepOk Tryd.prog .any ops Q F a0 w i)
    (fin : ∀ (vs : Nat → Value) (W : World), Below w.heap.size w W → Q .normal (puts vs a0 ops.toList) (W.setCell ⟨q, off, none⟩ (.int .u8 v))) :
    (Code.region id ops draw).wp Tryd.prog Q a0 w := by
  refine region_store k o F (by kernel_rfl) hT hk hd steps fun a W hb hw hF => ?_
  have h1 := hF jA pA wA
  have h2 := hF jV pV wV
  rw [FA] at h1
  rw [FV] at h2
  have e1 : a.eval (.tmp pA) = .pointer (some ⟨q, off, none⟩) := h1
  have e2 : a.eval (.tmp pV) = .int .u8 v := h2
  have lq := block_lt_of_cell hc
  have c' : W.cell? ⟨q, off, none⟩ = some (.int .u8 u) := (hw.cell lq).trans hc
  have f' : W.frozen? ⟨q, off, none⟩ = false := (hw.frozen lq).trans hf
  have hr : (execOp a.eval o).run Tryd.prog W = .ok .skip (W.setCell ⟨q, off, none⟩ (.int .u8 v)) := by
    simp only [execOp, hop, e1, e2]
    go_simp
  obtain ⟨vs, hvs⟩ : ∃ vs : Nat → Value, ∀ d, a.tmps.getD d undef = vs d := ⟨_, fun _ => rfl⟩
  unfold Oper.wp
  rw [hr, Oper.upon_skip, hd]
  show Q .normal a _
  rw [puts_of hT rfl hb vs hvs]
  exact fin vs W hw
set_option maxHeartbeats 4000000 in
theorem specEncode_any (w : World) (g g' : Nat) (a a' : Option Addr) (c c' : Nat) (xs ys : List Int) (hx : Rd w g a .u8 xs) (hy : Rd w g' a' .u8 ys) (bx : Byt xs) (by' : Byt ys) (y31 : validP xs ys = true → ys.getD 31 0 < 128) :
    Calls Tryd.prog 25 #[.agg #[.slice a xs.length c, .slice a' ys.length c']] w fun r w' => NewRow w.heap.size w' r .u8 (esA xs ys) ∧ Below w.heap.size w w' := by
  have PV := fun W h h' => pointValid_any W g g' a a' c c' xs ys h h' bx by'
  have hx0 := hx
  have hy0 := hy
  have bx0 := bx
  have by0 := by'
  have T := two_cells w (.slice a xs.length c) (.slice a' ys.length c') 24
  have m1 : Below w.heap.size w (w.alloc (.cells #[.slice a xs.length c, .slice a' ys.length c'] 24)) := (Below.refl _ _).alloc (Nat.le_refl _) _
  have s1 : (w.alloc (.cells #[.slice a xs.length c, .slice a' ys.length c'] 24)).heap.size = w.heap.size + 1 := by simp
  have RX : RdOk w a xs := ⟨g, hx, bx⟩
  have RY : RdOk w a' ys := ⟨g', hy, by'⟩
  obtain ⟨CX, CY⟩ := T
  clear hx hy bx by' RX RY
  go_enter Tryd.func25, Tryd.ntmps25
  go_upto_region 1 with fail
  generalize w.alloc (.cells #[.slice a xs.length c, .slice a' ys.length c'] 24) = wa at *
  have N := m1
  clear m1 s1
  cases hv : validP xs ys with
  | false =>
    have e1 : esA xs ys = [] := by unfold esA; rw [hv]; rfl
    simp only [hv] at PV
    go_wp2_with fail
    refine (PV wa (hx0.up N) (hy0.up N)).mono ?_
    rintro e w1 ⟨rfl, n1⟩
    replace N := nxt N n1
    clear PV n1 CX CY hv y31
    go_wp2
    go_ret
    have z := N.size
    exact ⟨by rw [e1]; exact ⟨_, 0, w1.heap.size, rfl, fun h => absurd h (by simp), fun _ => rfl, Nat.le_refl _, by omega⟩, N.alloc N.size _⟩
  | true =>
    have e1 := hide (show esA xs ys = ys.set 31 (ys.getD 31 0 + 128 * (xs.getD 0 0 % 2)) by unfold esA; rw [if_pos hv])
    have LL := hide (valid_len hv)
    have q31 := y31 hv
    simp only [hv] at PV
    go_wp2_with fail
    refine (PV wa (hx0.up N) (hy0.up N)).mono ?_
    rintro e w1 ⟨rfl, n1⟩
    replace N := nxt N n1
    replace CX := (n1.cell (block_lt_of_cell CX)).trans CX
    replace CY := (n1.cell (block_lt_of_cell CY)).trans CY
    have hs : Hid (a' = none → c' = 0) := fun e => by
      obtain ⟨_, e', _⟩ := hy0 (by have := LL.out.2; omega)
      rw [e] at e'
      cases e'
    have CP := hide (fun W (n : Below w.heap.size w W) => l1Copy_any W g' a' c' ys (hy0.up n) hs.out (by have := LL.out.2; omega))
    clear PV n1 hv
    go_wp2_with fail
    refine (CP.out w1 N).mono ?_
    rintro r w2 ⟨⟨b, d, h, rfl, o2, k1, k2, hh⟩, n2⟩
    have N2 := nxt N n2
    replace CX := (n2.cell (block_lt_of_cell CX)).trans CX
    have RX := hx0.up N2
    obtain ⟨off, rfl, hc⟩ := o2 (by have := LL.out.2; omega)
    obtain ⟨ox, rfl, hcx⟩ := RX (by have := LL.out.1; omega)
    have q0 := (hc 31 (by have := LL.out.2; omega)).1
    have f0 := (hc 31 (by have := LL.out.2; omega)).2
    have p0 := hcx 0 (by have := LL.out.1; omega)
    rw [Nat.add_zero] at p0
    have ly : (31 : Int) < (ys.length : Int) := by have := LL.out.2; omega
    have lx : (0 : Int) < (xs.length : Int) := by have := LL.out.1; omega
    have v0 := bx0 0
    have v1 := by0 31
    obtain ⟨y, hy⟩ : ∃ y, y = ys.getD 31 0 := ⟨_, rfl⟩
    obtain ⟨x, hx⟩ : ∃ x, x = xs.getD 0 0 := ⟨_, rfl⟩
    rw [← hy] at q0 v1 q31
    rw [← hx] at p0 v0
    have hY := hide hy
    have hX := hide hx
    have zN := N.size
    clear hy hx CY n2 CP N
    have l1 := LL.out.1
    have l2 := LL.out.2
    go_upto_region 4 with fail
    rw [l1] at CX
    clear l1 l2
    refine region_st8 12 11 10 22 21 _ (fun i => [Fact.eq (.slice (some ⟨h, off, none⟩) 32 d), Fact.eq (.slice (some ⟨h, off, none⟩) 32 d), Fact.eq (.pointer (some ⟨h, off + 31, none⟩)), Fact.eq (.int .u8 y), Fact.eq (.pointer (some ⟨w.heap.size, 0, none⟩)), Fact.eq (.slice (some ⟨g, ox, none⟩) 32 c), Fact.eq (.pointer (some ⟨g, ox, none⟩)), Fact.eq (.int .u8 x), Fact.eq (.int .u8 (x % 2)), Fact.eq (.int .u8 (128 * (x % 2))), Fact.eq (.int .u8 (y + 128 * (x % 2))), Fact.eq (.pointer (some ⟨h, off + 31, none⟩))].getD i Fact.no) (by kernel_rfl) rfl rfl rfl (by kernel_rfl) (by kernel_rfl) rfl rfl q0 f0 ?_ ?_
    · intro i hi
      obtain rfl | rfl | rfl | rfl | rfl | rfl | rfl | rfl | rfl | rfl | rfl | rfl : i = 0 ∨ i = 1 ∨ i = 2 ∨ i = 3 ∨ i = 4 ∨ i = 5 ∨ i = 6 ∨ i = 7 ∨ i = 8 ∨ i = 9 ∨ i = 10 ∨ i = 11 := by omega
      · exact step_mv rfl 3 rfl (by kernel_rfl) rfl rfl
      · exact step_mv rfl 3 rfl (by kernel_rfl) rfl rfl
      · exact step_at31 rfl 12 1 rfl (by kernel_rfl) rfl rfl
      · exact step_ld8 rfl 13 2 rfl (by kernel_rfl) rfl q0 rfl
      · exact step_fld rfl 24 1 0 rfl (by kernel_rfl) _ _ rfl (fxP _) rfl
      · exact step_lds rfl 15 4 rfl (by kernel_rfl) _ _ rfl _ _ _ CX rfl
      · exact step_at0 rfl 16 5 rfl (by kernel_rfl) rfl rfl
      · exact step_ld8 rfl 17 6 rfl (by kernel_rfl) rfl p0 rfl
      · exact step_rem2 rfl 18 7 v0 rfl (by kernel_rfl) rfl rfl
      · exact step_m128 rfl 19 8 (by omega) rfl (by kernel_rfl) rfl rfl
      · exact step_add8 rfl 14 20 3 9 (by omega) rfl (by kernel_rfl) (by kernel_rfl) rfl rfl rfl
      · exact step_at31 rfl 11 0 rfl (by kernel_rfl) rfl rfl
    intro vs W n
    have NW := nxt N2 n
    have ow := (o2.up n)
    have lh := o2.rd.lt (by have := LL.out.2; omega)
    have z1 := N2.size
    have o3 := own_set ow (by have := LL.out.2; omega) 31 (by have := LL.out.2; omega) (y + 128 * (x % 2))
    have NF : Below w.heap.size w (W.setCell ⟨h, off + 31, none⟩ (.int .u8 (y + 128 * (x % 2)))) := NW.setCell (by show w.heap.size ≤ h; omega) _
    simp only [puts, Act.put, List.setIfInBounds_toArray, List.set_cons_succ, List.set_cons_zero]
    clear n NW ow q0 f0 p0 CX hc hcx RX o2 ly lx
    have LS := hide (show (ys.set 31 (y + 128 * (x % 2))).length = 32 by rw [List.length_set]; exact LL.out.2)
    go_wp2
    go_ret
    exact ⟨by rw [e1.out, ← hY.out, ← hX.out]; exact ⟨_, d, h, by rw [LS.out]; rfl, o3, (fun e => by cases e), (by rw [LS.out]; have := LL.out.2; omega), (by omega)⟩, NF⟩
end Go.Proofs.YthapcapiiknjdaaDoor
