import Derived.Test.YtnaaanefndeafaaDoorGP52
import Derived.Test.YtnaaanefndeafaaDoorGP51
import Derived.Test.YtnaaanefndeafaaDoorGP49

/-
  The program's PointScale.
-/
namespace Go.Proofs.YtnaaanefndeafaaDoor
set_option maxRecDepth 100000
open Go Go.RowKit

/-- The number of these bytes, and the point scaled by it, as bytes. -/
def scV (ks : List Int) : Nat := (lsum (fun j => ks.getD j 0) 32).toNat
def skX (ks xs ys : List Int) : List Int := if ks.length = 32 ∧ validP xs ys = true then lx (pMul (scV ks) (num xs, num ys)) else []
def skY (ks xs ys : List Int) : List Int := if ks.length = 32 ∧ validP xs ys = true then ly (pMul (scV ks) (num xs, num ys)) else []
theorem byt_bt {ks : List Int} (h : Byt ks) : Bt (fun j => ks.getD j 0) := fun j => h j
theorem sc_words {ks : List Int} (h : Byt ks) : W4 (wv (fun j => ks.getD j 0) 32) ∧ wval (wv (fun j => ks.getD j 0) 32) = (scV ks : Int) := by
  refine ⟨fun j _ => wv_lt (byt_bt h) 32 j, ?_⟩
  rw [wv_sum _ 32 (by omega)]
  unfold scV
  have := lsum_nonneg (byt_bt h) 32
  omega
theorem valid_pt {xs ys : List Int} (h : validP xs ys = true) : OnP PP (-1) d0 (num xs, num ys) ∧ rpX xs ys = num xs ∧ rpY xs ys = num ys := by
  unfold validP at h
  have hc : rpC xs ys = true := by
    unfold rpC
    revert h
    cases canN xs <;> cases canN ys <;> simp
  have hv : validN (num xs) (num ys) = true := by
    revert h
    cases canN xs <;> cases canN ys <;> simp
  refine ⟨valid_on hv, ?_, ?_⟩
  · unfold rpX
    rw [if_pos hc]
  · unfold rpY
    rw [if_pos hc]
section
variable {ops : Array Oper} {Q : Exit → Act → World → Prop} {md : Region.Mode} {F : Nat → Fact} {a0 : Act} {w0 w : World} {i id : Nat} {o : Oper} {ts : Array TypeId} {draw : Bool}
theorem step_rs (hi : ops[i]? = some o) (p j : Nat) {a : Option Addr} {c : Nat} {ks : List Int} (hl : Hid (ks.length = 32)) (hop : o.op = .call { callee := .value (.func 29), args := #[.tmp p], argTypes := ts }) (hj : waits md ops i j p = true) (hR : RdOk w0 a ks) (hFj : F j = Fact.eq (.slice a ks.length c)) (hFi : F i = Fact.eq (ag4 (wv (fun j => ks.getD j 0) 32))) : StepOk Tryd.prog md ops Q F a0 w0 i := by
  refine step_call hi _ _ ts hop (by kernel_rfl) fun A w _ hw hF => ?_
  have ea := hF j p hj
  rw [hFj] at ea
  have e1 : A.tmps.getD p undef = .slice a ks.length c := ea
  obtain ⟨g, r, b⟩ := hR.up hw
  show Calls Tryd.prog _ #[A.tmps.getD p undef] w _
  rw [e1, hl.out]
  refine (readScalar_any w g a c ks r b hl.out).mono ?_
  rintro e w' ⟨rfl, hn⟩
  rw [hFi]
  exact ⟨_, rfl, hn, rfl⟩
theorem step_scl {D : Int} (hD : PP ∣ D - d0) (TT : HasTw w0 2) (CC : Em5 w0 1 0 D) (ZP : RowN w0 0 0 [0, 1]) (SS : HasSt w0 6) (II : Has3 w0 3 12 5 4) (X Y : Int) (hp : OnP PP (-1) d0 (X, Y)) {U : Nat → Int} (hU : W4 U) {v : Nat} (hv : wval U = (v : Int)) (hi : ops[i]? = some o) (p q j k : Nat) (hop : o.op = .call { callee := .value (.func 30), args := #[.tmp p, .tmp q], argTypes := ts }) (hj : waits md ops i j p = true) (hk : waits md ops i k q = true) (hFj : F j = Fact.eq (ag4 U)) (hFk : F k = EN [X, Y]) (hFi : F i = EN [(mlP v (X, Y)).1, (mlP v (X, Y)).2]) : StepOk Tryd.prog md ops Q F a0 w0 i := by
  refine step_call hi _ _ ts hop (by kernel_rfl) fun A w _ hw hF => ?_
  have ea := hF j p hj
  have eb := hF k q hk
  rw [hFj] at ea
  rw [hFk] at eb
  have e1 : A.tmps.getD p undef = ag4 U := ea
  obtain ⟨t, e2, L2⟩ := eb
  show Calls Tryd.prog _ #[A.tmps.getD p undef, A.tmps.getD q undef] w _
  rw [e1, e2]
  refine (scale_any w U hU v hv t X Y D L2 hp hD (TT.up hw) (CC.up hw) (ZP.up hw) (SS.up hw) (II.up hw)).mono ?_
  rintro e w' ⟨⟨s, X', Y', rfl, L, h1, h2⟩, hn⟩
  rw [hFi]
  exact ⟨_, rfl, hn, s, rfl, L.cg (by simp only [List.map_cons, List.map_nil, h1, h2])⟩
end

set_option maxHeartbeats 2000000 in
theorem implScale_any (w : World) (gk : Nat) (ak : Option Addr) (ck : Nat) (ks : List Int) (hk : Rd w gk ak .u8 ks) (bk : Byt ks) (g g' : Nat) (a a' : Option Addr) (c c' : Nat) (xs ys : List Int) (hx : Rd w g a .u8 xs) (hy : Rd w g' a' .u8 ys) (bx : Byt xs) (by' : Byt ys) (TT : HasTw w 2) (CC : Em5 w 1 0 dGo) (ZP : RowN w 0 0 [0, 1]) (SS : HasSt w 6) (II : Has3 w 3 12 5 4) :
    Calls Tryd.prog 9 #[.slice ak ks.length ck, .agg #[.slice a xs.length c, .slice a' ys.length c']] w fun r w' => NewP2 w.heap.size w' r (skX ks xs ys) (skY ks xs ys) ∧ Below w.heap.size w w' := by
  have T := two_cells w (.slice a xs.length c) (.slice a' ys.length c') 26
  have m1 : Below w.heap.size w (w.alloc (.cells #[.slice a xs.length c, .slice a' ys.length c'] 26)) := (Below.refl _ _).alloc (Nat.le_refl _) _
  have s1 : (w.alloc (.cells #[.slice a xs.length c, .slice a' ys.length c'] 26)).heap.size = w.heap.size + 1 := by simp
  have RX : RdOk w a xs := ⟨g, hx, bx⟩
  have RY : RdOk w a' ys := ⟨g', hy, by'⟩
  have RK : RdOk w ak ks := ⟨gk, hk, bk⟩
  have SW := hide (sc_words bk)
  obtain ⟨CX, CY⟩ := T
  clear hx hy bx by' hk bk
  go_enter Tryd.func9, Tryd.ntmps9
  go_upto_region 1 with fail
  generalize w.alloc (.cells #[.slice a xs.length c, .slice a' ys.length c'] 26) = wa at *
  have TZ := Two.new wa (.slice none 0 0) (.slice none 0 0) 26
  have mz : Below wa.heap.size wa (wa.alloc pObj) := (Below.refl _ _).alloc (Nat.le_refl _) _
  rw [s1] at TZ
  have N := nxt m1 mz
  replace CX := (mz.cell (block_lt_of_cell CX)).trans CX
  replace CY := (mz.cell (block_lt_of_cell CY)).trans CY
  obtain ⟨wr, hwr⟩ : ∃ W, W = wa.alloc pObj := ⟨_, rfl⟩
  change Two (wa.alloc pObj) _ _ _ at TZ
  rw [← hwr] at TZ N CX CY
  change Code.wp _ _ _ _ (wa.alloc pObj)
  rw [← hwr]
  clear hwr m1 mz s1
  replace RX := RX.up N
  replace RY := RY.up N
  replace RK := RK.up N
  replace TT := TT.up N
  replace CC := CC.up N
  replace ZP := ZP.up N
  replace SS := SS.up N
  replace II := II.up N
  refine region_newN_asg 51 6 5 3 5 10 4 11 6 _ _ (fun i => [Fact.eq (.agg #[.slice a xs.length c, .slice a' ys.length c']), TB [rpX xs ys, rpY xs ys] (rpB dGo xs ys), TB [rpX xs ys, rpY xs ys] (rpB dGo xs ys), EN [rpX xs ys, rpY xs ys], Fact.eq (.bool (rpB dGo xs ys)), NB wr 10].getD i Fact.no) [rpX xs ys, rpY xs ys] (.bool (rpB dGo xs ys)) (by kernel_rfl) rfl rfl rfl rfl rfl rfl iA (Nat.zero_lt_succ _) rfl rfl rfl (by kernel_rfl) (by kernel_rfl) (by kernel_rfl) rfl rfl rfl (by decide) (by kernel_rfl) ?_ ?_
  · intro i hi
    obtain rfl | rfl | rfl | rfl | rfl | rfl : i = 0 ∨ i = 1 ∨ i = 2 ∨ i = 3 ∨ i = 4 ∨ i = 5 := by omega
    · exact step_lP rfl 3 rfl (by kernel_rfl) _ rfl _ _ CX CY rfl
    · exact step_rp TT CC rfl 8 0 rfl (by kernel_rfl) RX RY rfl rfl
    · exact step_move rfl 9 1 (by exact Or.inl rfl) (by kernel_rfl) rfl
    · exact step_tx0 rfl 7 2 _ _ rfl (by kernel_rfl) rfl rfl
    · exact step_tx1 rfl 7 2 _ _ rfl (by kernel_rfl) rfl rfl
    · exact step_newA rfl rfl rfl
  intro vs1 q3 W1 v3 b4 l3 n E3 T3
  replace RK := RK.up n
  replace TT := TT.up n
  replace CC := CC.up n
  replace ZP := ZP.up n
  replace SS := SS.up n
  replace II := II.up n
  replace TZ := TZ.up n
  replace N := nxt N n
  clear n T3 l3 RX RY CX CY
  rw [rp_valid] at b4
  obtain ⟨ok1, hok1⟩ : ∃ b, b = validP xs ys := ⟨_, rfl⟩
  rw [← hok1] at b4
  have HK1 := hide hok1
  clear hok1
  simp only [puts, v3, b4, Act.put, List.setIfInBounds_toArray, List.set_cons_succ, List.set_cons_zero]
  clear v3 b4
  by_cases hbad : ks.length = 32 ∧ ok1 = true
  · obtain ⟨hl, rfl⟩ := hbad
    have HL := hide hl
    have VP := hide (valid_pt HK1.out.symm)
    have e1 : Hid (skX ks xs ys = fill (byt ((mlP (scV ks) (num xs, num ys)).1 % PP)) 32) := by
      show _ = _
      unfold skX
      rw [if_pos ⟨hl, HK1.out.symm⟩]
      rfl
    have e2 : Hid (skY ks xs ys = fill (byt ((mlP (scV ks) (num xs, num ys)).2 % PP)) 32) := by
      show _ = _
      unfold skY
      rw [if_pos ⟨hl, HK1.out.symm⟩]
      rfl
    rw [VP.out.2.1, VP.out.2.2] at E3
    have t1 : decide ((ks.length : Int) = 32) = true := by simp; omega
    have t2 : ((ks.length : Int) == 32) = true := by simp; omega
    clear hl
    generalize hm : mlP (scV ks) (num xs, num ys) = m at *
    have HM := hide hm
    clear hm
    go_upto_region 4 with fail
    clear t1 t2
    refine region_putD 5 4 4 24 _ (fun i => [Fact.eq (.slice ak ks.length ck), Fact.eq (ag4 (wv (fun j => ks.getD j 0) 32)), EN [num xs, num ys], EN [m.1, m.2], PD W1 (fill (byt (m.1 % PP)) 32) (fill (byt (m.2 % PP)) 32)].getD i Fact.no) (fill (byt (m.1 % PP)) 32) (fill (byt (m.2 % PP)) 32) _ (by kernel_rfl) rfl rfl rfl (by kernel_rfl) rfl TZ.there (by kernel_rfl) rfl ?_ ?_
    · intro i hi
      obtain rfl | rfl | rfl | rfl | rfl : i = 0 ∨ i = 1 ∨ i = 2 ∨ i = 3 ∨ i = 4 := by omega
      · exact step_mv rfl 0 rfl (by kernel_rfl) rfl rfl
      · exact step_rs rfl 20 0 HL rfl (by kernel_rfl) RK rfl rfl
      · exact step_lA rfl 5 rfl (by kernel_rfl) _ rfl _ _ E3 rfl
      · exact step_scl dGo_is TT CC ZP SS II _ _ VP.out.1 SW.out.1 SW.out.2 rfl 21 22 1 2 rfl (by kernel_rfl) (by kernel_rfl) rfl rfl (by show EN [m.1, m.2] = _; rw [← HM.out])
      · exact step_pt rfl 23 3 _ _ rfl (by kernel_rfl) rfl rfl
    intro vsL Wa Wb b b' k k' h h' na rg o1 o2 l1 l2 hne nb
    have z := N.size
    have NS := nb w w.heap.size (nxt N na) (by omega)
    simp only [puts, Act.put, List.setIfInBounds_toArray, List.set_cons_succ, List.set_cons_zero]
    clear na nb N TZ RK TT CC E3 ZP SS II
    obtain ⟨fs, hfs⟩ := uP
    go_wp2
    exact bodyPost_ret (v := .agg #[.slice b _ k, .slice b' _ k']) (results_cell_mid Tryd.results9 _ _ (w.heap.size + 1) [.slice b _ k, .slice b' _ k'] _ rfl rg hfs rfl iP) rfl ⟨by rw [e1.out, e2.out]; exact ⟨b, k, h, b', k', h', rfl, o1, o2, by omega, by omega, hne⟩, NS⟩
  · have e1 : Hid (skX ks xs ys = []) := by
      show _ = _
      unfold skX
      rw [if_neg (fun h => hbad ⟨h.1, HK1.out.trans h.2⟩)]
    have e2 : Hid (skY ks xs ys = []) := by
      show _ = _
      unfold skY
      rw [if_neg (fun h => hbad ⟨h.1, HK1.out.trans h.2⟩)]
    have c0 := TZ.c0
    have c1 := TZ.c1
    have f0 := TZ.f0
    have f1 := TZ.f1
    have TS := (TZ.set0 (.slice none 0 0)).set1 (.slice none 0 0)
    have NS := (N.setCell (p := ⟨w.heap.size + 1, 0, none⟩) (by show w.heap.size ≤ w.heap.size + 1; omega) (.slice none 0 0)).setCell (p := ⟨w.heap.size + 1, 1, none⟩) (by show w.heap.size ≤ w.heap.size + 1; omega) (.slice none 0 0)
    have k0 := TS.c0
    have k1 := TS.c1
    have FIN : Hid (NewP2 w.heap.size ((W1.setCell ⟨w.heap.size + 1, 0, none⟩ (.slice none 0 0)).setCell ⟨w.heap.size + 1, 1, none⟩ (.slice none 0 0)) (.returned (.agg #[.slice none 0 0, .slice none 0 0])) (skX ks xs ys) (skY ks xs ys) ∧ Below w.heap.size w ((W1.setCell ⟨w.heap.size + 1, 0, none⟩ (.slice none 0 0)).setCell ⟨w.heap.size + 1, 1, none⟩ (.slice none 0 0))) := ⟨by rw [e1.out, e2.out]; exact NewP2.nil, NS⟩
    clear E3 RK TT CC ZP SS II TZ N NS TS e1 e2 SW
    cases ok1 with
    | false =>
      clear hbad
      go_wp2
      exact bodyPost_ret (v := .agg #[.slice none 0 0, .slice none 0 0]) (by simp [results, Tryd.results9, go_sem, k0, k1]) rfl FIN.out
    | true =>
      have hl : ¬ ks.length = 32 := fun h => hbad ⟨h, rfl⟩
      have t1 : decide ((ks.length : Int) = 32) = false := by simp; omega
      have t2 : ((ks.length : Int) == 32) = false := by simp; omega
      clear hbad hl
      go_wp2
      exact bodyPost_ret (v := .agg #[.slice none 0 0, .slice none 0 0]) (by simp [results, Tryd.results9, go_sem, k0, k1]) rfl FIN.out
end Go.Proofs.YtnaaanefndeafaaDoor

/-
  The model's PointScale.
-/
namespace Go.Proofs.YtnaaanefndeafaaDoor
set_option maxRecDepth 100000
open Go Go.RowKit

theorem times_is {ks xs ys : List Int} (hl : ks.length = 32) (bk : Byt ks) (hv : validP xs ys = true) {top : List Int} (ht : Canon top (lsum (fun j => ks.getD j 0) ks.length)) {p : W3} (hp : p = acc dE (num xs, num ys, 1) (bitOf top) (8 * top.length)) :
    fill (byt (p.1 * iv p.2.2 % PP)) 32 = skX ks xs ys ∧ fill (byt (p.2.1 * iv p.2.2 % PP)) 32 = skY ks xs ys := by
  have e : bval top = (scV ks : Int) := by
    rw [ht.2.1, hl]
    unfold scV
    have := lsum_nonneg (byt_bt bk) 32
    omega
  have k := times_plain (valid_pt hv).1 ht.1 e
  simp only at k
  rw [← hp] at k
  unfold skX skY
  rw [if_pos ⟨hl, hv⟩, if_pos ⟨hl, hv⟩, ← k]
  exact ⟨rfl, rfl⟩

set_option maxHeartbeats 4000000 in
theorem specPointScale_any (w : World) (gk : Nat) (ak : Option Addr) (ck : Nat) (ks : List Int) (hk : Rd w gk ak .u8 ks) (bk : Byt ks) (g1 g2 : Nat) (a1 a2 : Option Addr) (c1 c2 : Nat) (px py : List Int) (hx : Rd w g1 a1 .u8 px) (hy : Rd w g2 a2 .u8 py) (bx : Byt px) (by' : Byt py) :
    Calls Tryd.prog 6 #[.slice ak ks.length ck, .agg #[.slice a1 px.length c1, .slice a2 py.length c2]] w fun r w' => NewPt w.heap.size w' r (skX ks px py) (skY ks px py) ∧ Below w.heap.size w w' := by
  have T := two_cells w (.slice a1 px.length c1) (.slice a2 py.length c2) 26
  have m1 : Below w.heap.size w (w.alloc (.cells #[.slice a1 px.length c1, .slice a2 py.length c2] 26)) := (Below.refl _ _).alloc (Nat.le_refl _) _
  have s1 : (w.alloc (.cells #[.slice a1 px.length c1, .slice a2 py.length c2] 26)).heap.size = w.heap.size + 1 := by simp
  have PV := fun W h h' => pointValid_any W g1 g2 a1 a2 c1 c2 px py h h' bx by'
  obtain ⟨CX, CY⟩ := T
  go_enter Tryd.func6, Tryd.ntmps6
  go_upto_region 1 with fail
  generalize w.alloc (.cells #[.slice a1 px.length c1, .slice a2 py.length c2] 26) = wa at *
  have TZ := Two.new wa (.slice none 0 0) (.slice none 0 0) 26
  have mz : Below wa.heap.size wa (wa.alloc pObj) := (Below.refl _ _).alloc (Nat.le_refl _) _
  rw [s1] at TZ
  have N := nxt m1 mz
  replace CX := (mz.cell (block_lt_of_cell CX)).trans CX
  replace CY := (mz.cell (block_lt_of_cell CY)).trans CY
  obtain ⟨wr, hwr⟩ : ∃ W, W = wa.alloc pObj := ⟨_, rfl⟩
  change Two (wa.alloc pObj) _ _ _ at TZ
  rw [← hwr] at TZ N CX CY
  change Code.wp _ _ _ _ (wa.alloc pObj)
  rw [← hwr]
  clear hwr m1 mz s1
  have RX := hx.up N
  have RY := hy.up N
  have RK := hk.up N
  clear hx hy hk
  have NIL : Hid (∀ W, Two W (w.heap.size + 1) (.slice none 0 0) (.slice none 0 0) → Below w.heap.size w W → skX ks px py = [] → skY ks px py = [] → ((W.setCell ⟨w.heap.size + 1, 0, none⟩ (.slice none 0 0)).setCell ⟨w.heap.size + 1, 1, none⟩ (.slice none 0 0)).cell? ⟨w.heap.size + 1, 0, none⟩ = some (.slice none 0 0) ∧ ((W.setCell ⟨w.heap.size + 1, 0, none⟩ (.slice none 0 0)).setCell ⟨w.heap.size + 1, 1, none⟩ (.slice none 0 0)).cell? ⟨w.heap.size + 1, 1, none⟩ = some (.slice none 0 0) ∧ NewPt w.heap.size ((W.setCell ⟨w.heap.size + 1, 0, none⟩ (.slice none 0 0)).setCell ⟨w.heap.size + 1, 1, none⟩ (.slice none 0 0)) (.returned (.agg #[.slice none 0 0, .slice none 0 0])) (skX ks px py) (skY ks px py) ∧ Below w.heap.size w ((W.setCell ⟨w.heap.size + 1, 0, none⟩ (.slice none 0 0)).setCell ⟨w.heap.size + 1, 1, none⟩ (.slice none 0 0))) := by
    intro W TW NW e1 e2
    have TS := (TW.set0 (.slice none 0 0)).set1 (.slice none 0 0)
    exact ⟨TS.c0, TS.c1, by rw [e1, e2]; exact newPt_nil, (NW.setCell (p := ⟨w.heap.size + 1, 0, none⟩) (by show w.heap.size ≤ w.heap.size + 1; omega) (.slice none 0 0)).setCell (p := ⟨w.heap.size + 1, 1, none⟩) (by show w.heap.size ≤ w.heap.size + 1; omega) (.slice none 0 0)⟩
  by_cases hl : ks.length = 32
  · have t1 : ((ks.length : Int) != 32) = false := by rw [hl]; rfl
    cases hv : validP px py with
    | false =>
      have e1 : Hid (skX ks px py = []) := by show _ = _; unfold skX; rw [if_neg (fun h => by rw [hv] at h; simp at h)]
      have e2 : Hid (skY ks px py = []) := by show _ = _; unfold skY; rw [if_neg (fun h => by rw [hv] at h; simp at h)]
      simp only [hv] at PV
      have HL := hide hl
      clear hl hv
      go_wp2_with fail
      refine (PV wr RX RY).mono ?_
      rintro e w1 ⟨rfl, n1⟩
      have FIN := hide (NIL.out w1 (TZ.up n1) (nxt N n1) e1.out e2.out)
      obtain ⟨y0, y1, f0, f1⟩ := TZ.up n1
      clear PV NIL n1 CX CY RX RY RK TZ N e1 e2
      go_wp2
      have k0 := FIN.out.1
      have k1 := FIN.out.2.1
      exact bodyPost_ret (v := .agg #[.slice none 0 0, .slice none 0 0]) (by simp [results, Tryd.results6, go_sem, k0, k1]) rfl FIN.out.2.2
    | true =>
      have l1 := hide (valid_len hv)
      have HT := fun top p => hide (fun ht hp => times_is hl bk hv (top := top) ht (p := p) hp)
      have TM := hide (fun W n => l5Times_any W gk g1 g2 ak a1 a2 ck c1 c2 ks px py (RK.up n) bk (by omega) (RX.up n) (RY.up n) bx by' l1.out.1 l1.out.2)
      simp only [hv] at PV
      have HL := hide hl
      clear hl hv NIL
      go_wp2_with fail
      refine (PV wr RX RY).mono ?_
      rintro e w1 ⟨rfl, n1⟩
      replace CX := (n1.cell (block_lt_of_cell CX)).trans CX
      replace CY := (n1.cell (block_lt_of_cell CY)).trans CY
      have TM1 := hide (TM.out w1 n1)
      replace TZ := TZ.up n1
      replace N := nxt N n1
      clear PV n1 TM RX RY RK
      go_wp2_with fail
      refine TM1.out.mono ?_
      rintro e w2 ⟨top, p, x, y, z, hc, hp, rfl, hx, hy, hz, n2⟩
      have EQ := (HT top p).out hc hp
      replace TZ := TZ.up n2
      replace N := nxt N n2
      have PL := hide (l5Plain_any w2 x y z p.1 p.2.1 p.2.2 hx hy hz)
      have EQ1 := hide EQ.1
      have EQ2 := hide EQ.2
      clear TM1 n2 hx hy hz hc hp HT EQ CX CY
      go_wp2_with fail
      refine PL.out.mono ?_
      rintro e w3 ⟨⟨b, b', k, k', h, h', rfl, o1, o2, q1, q2⟩, n3⟩
      have z2 : w.heap.size + 1 < w2.heap.size := TZ.lt
      replace TZ := TZ.up n3
      replace N := nxt N n3
      rw [EQ1.out] at o1 ⊢
      rw [EQ2.out] at o2 ⊢
      have OS : ∀ (x y : Value), Only (w.heap.size + 1) w3 ((w3.setCell ⟨w.heap.size + 1, 0, none⟩ x).setCell ⟨w.heap.size + 1, 1, none⟩ y) := fun x y => (Only.setCell _ _ _ _).trans (Only.setCell _ _ _ _)
      have TS := (TZ.set0 (.slice b (skX ks px py).length k)).set1 (.slice b' (skY ks px py).length k')
      have FIN : Hid (NewPt w.heap.size ((w3.setCell ⟨w.heap.size + 1, 0, none⟩ (.slice b (skX ks px py).length k)).setCell ⟨w.heap.size + 1, 1, none⟩ (.slice b' (skY ks px py).length k')) (.returned (.agg #[.slice b (skX ks px py).length k, .slice b' (skY ks px py).length k'])) (skX ks px py) (skY ks px py) ∧ Below w.heap.size w ((w3.setCell ⟨w.heap.size + 1, 0, none⟩ (.slice b (skX ks px py).length k)).setCell ⟨w.heap.size + 1, 1, none⟩ (.slice b' (skY ks px py).length k'))) :=
        ⟨⟨b, b', k, k', h, h', rfl, o1.only (OS _ _) (fun _ => by omega), o2.only (OS _ _) (fun _ => by omega), by omega, by omega⟩, N.trans ((OS _ _).below (by omega))⟩
      have k0 := TS.c0
      have k1 := TS.c1
      obtain ⟨y0, y1, f0, f1⟩ := TZ
      generalize (skX ks px py).length = n1 at *
      generalize (skY ks px py).length = n2 at *
      clear PL n3 N o1 o2 OS TS EQ1 EQ2
      go_wp2
      exact bodyPost_ret (v := .agg #[.slice b n1 k, .slice b' n2 k']) (by simp [results, Tryd.results6, go_sem, k0, k1]) rfl FIN.out
  · have e1 : Hid (skX ks px py = []) := by show _ = _; unfold skX; rw [if_neg (fun h => hl h.1)]
    have e2 : Hid (skY ks px py = []) := by show _ = _; unfold skY; rw [if_neg (fun h => hl h.1)]
    have t1 : ((ks.length : Int) != 32) = true := by simp; omega
    have FIN := hide (NIL.out wr TZ N e1.out e2.out)
    obtain ⟨y0, y1, f0, f1⟩ := TZ
    clear PV NIL CX CY RX RY RK N e1 e2 hl
    go_wp2
    have k0 := FIN.out.1
    have k1 := FIN.out.2.1
    exact bodyPost_ret (v := .agg #[.slice none 0 0, .slice none 0 0]) (by simp [results, Tryd.results6, go_sem, k0, k1]) rfl FIN.out.2.2
end Go.Proofs.YtnaaanefndeafaaDoor

/-
  The law of PointScale.
-/
namespace Go.Proofs.YtnaaanefndeafaaDoor
set_option maxRecDepth 100000
open Go Go.RowKit

/-- A copy of a list. -/
def BRc (xs : List Int) : Fact := ⟨fun v w => ∃ p : Nat, v = .slice (some ⟨p, 0, none⟩) xs.length xs.length ∧ Blk w p .u8 xs, fun n h => by obtain ⟨p, e, b⟩ := h; exact ⟨p, e, b.up n⟩⟩
section
variable {ops : Array Oper} {Q : Exit → Act → World → Prop} {md : Region.Mode} {F : Nat → Fact} {a0 : Act} {w0 : World} {i : Nat} {o : Oper} {ts : Array TypeId}
theorem step_toB (hi : ops[i]? = some o) (p j : Nat) {a : Option Addr} {c : Nat} {xs : List Int} (hop : o.op = .call { callee := .value (.func 7), args := #[.tmp p], argTypes := ts })
    (hj : waits md ops i j p = true) {g : Nat} (hx : Rd w0 g a .u8 xs) (hn : xs.length ≤ 1048576) (hFj : F j = Fact.eq (.slice a xs.length c)) (hFi : F i = BRc xs) : StepOk Tryd.prog md ops Q F a0 w0 i := by
  refine step_call hi _ _ ts hop (by kernel_rfl) fun A w _ hw hF => ?_
  have ea := hF j p hj
  rw [hFj] at ea
  have e1 : A.tmps.getD p undef = .slice a xs.length c := ea
  show Calls Tryd.prog _ #[A.tmps.getD p undef] w _
  rw [e1]
  refine (toByteS_any w g a c xs (hx.up hw) hn).mono ?_
  rintro r w' ⟨rfl, b, n⟩
  rw [hFi]
  exact ⟨_, rfl, n, _, rfl, b⟩
/-- A call at a list and a point that were copied. -/
theorem step_sp_pts (hi : ops[i]? = some o) {n : FuncId} (p q j k : Nat) {X0 X1 Y1 rx ry : List Int} (hop : o.op = .call { callee := .value (.func n), args := #[.tmp p, .tmp q], argTypes := ts }) (he : enters Tryd.prog n = true)
    (hj : waits md ops i j p = true) (hk : waits md ops i k q = true)
    (law : ∀ (W : World), Below w0.heap.size w0 W → ∀ (r p q : Nat), Blk W r .u8 X0 → Blk W p .u8 X1 → Blk W q .u8 Y1 → Calls Tryd.prog n #[.slice (some ⟨r, 0, none⟩) X0.length X0.length, .agg #[.slice (some ⟨p, 0, none⟩) X1.length X1.length, .slice (some ⟨q, 0, none⟩) Y1.length Y1.length]] W fun r w' => NewPt W.heap.size w' r rx ry ∧ Below W.heap.size W w')
    (hFj : F j = BRc X0) (hFk : F k = PR X1 Y1) (hFi : F i = PT w0 (fun u8 u9 => u8 = rx ∧ u9 = ry)) : StepOk Tryd.prog md ops Q F a0 w0 i := by
  refine step_call hi n _ ts hop he fun A w _ hw hF => ?_
  have ea := hF j p hj
  have eb := hF k q hk
  rw [hFj] at ea
  rw [hFk] at eb
  obtain ⟨r1, e1, b0⟩ := ea
  obtain ⟨p2, q2, e2, b3, b4⟩ := eb
  show Calls Tryd.prog n #[A.tmps.getD p undef, A.tmps.getD q undef] w _
  rw [e1, e2]
  refine (law w hw r1 p2 q2 b0 b3 b4).mono ?_
  rintro r w' ⟨⟨a, a', c, c', g, g', rfl, o1, o2, l1, l2⟩, hn⟩
  rw [hFi]
  have z := hw.size
  exact ⟨_, rfl, hn, rx, ry, a, a', c, c', g, g', rfl, o1, o2, by omega, by omega, rfl, rfl⟩
end
theorem sk_len1 (ks xs ys : List Int) : (skX ks xs ys).length ≤ 1048576 := by
  unfold skX
  split
  · unfold lx; rw [fill_len]; omega
  · simp
theorem sk_len2 (ks xs ys : List Int) : (skY ks xs ys).length ≤ 1048576 := by
  unfold skY
  split
  · unfold ly; rw [fill_len]; omega
  · simp
theorem laid_pscale {W : World} (h : laidMetH Tryd.prog Rows.fnExactPointScaleRow.laid W) : HasG W :=
  ⟨hasA_of h (by kernel_rfl) (.head _) (.tail _ (.head _)) (.tail _ (.tail _ (.head _))) (.tail _ (.tail _ (.tail _ (.head _)))), zp_of_reads (reads_of h (by kernel_rfl) (.tail _ (.tail _ (.tail _ (.tail _ (.head _))))))⟩
set_option maxHeartbeats 8000000 in
theorem pscale_law (w : World) (g0 : Nat) (a0 : Option Addr) (c0 : Nat) (X0 : List Int) (hX0 : Rd w g0 a0 .u8 X0) (bX0 : Byt X0) (g1 : Nat) (a1 : Option Addr) (c1 : Nat) (X1 : List Int) (hX1 : Rd w g1 a1 .u8 X1) (bX1 : Byt X1) (lX1 : X1.length < 9223372036854775808) (g1' : Nat) (a1' : Option Addr) (c1' : Nat) (Y1 : List Int) (hY1 : Rd w g1' a1' .u8 Y1) (bY1 : Byt Y1) (lY1 : Y1.length < 9223372036854775808) (hL : HasG w) :
    Calls Tryd.prog 3 #[.slice a0 X0.length c0, .agg #[.slice a1 X1.length c1, .slice a1' Y1.length c1']] w fun e w' => e = .returned (.bool true) ∧ Below w.heap.size w w' := by
  have SP := fun W gk ak ck hk g1 g2 a1 a2 c1 c2 h1 h2 => specPointScale_any W gk ak ck X0 hk bX0 g1 g2 a1 a2 c1 c2 X1 Y1 h1 h2 bX1 bY1
  have IM := fun W gk ak ck hk g1 g2 a1 a2 c1 c2 h1 h2 (n : Below w.heap.size w W) => implScale_any W gk ak ck X0 hk bX0 g1 g2 a1 a2 c1 c2 X1 Y1 h1 h2 bX1 bY1 (hL.1.1.up n) (hL.1.2.1.up n) (hL.2.up n) (hL.1.2.2.1.up n) (hL.1.2.2.2.up n)
  have SPp := fun W (_ : Below w.heap.size w W) (r p q : Nat) (h0 : Blk W r .u8 X0) (h1 : Blk W p .u8 X1) (h2 : Blk W q .u8 Y1) => SP W r (some ⟨r, 0, none⟩) X0.length h0.own0.rd p q (some ⟨p, 0, none⟩) (some ⟨q, 0, none⟩) X1.length Y1.length h1.own0.rd h2.own0.rd
  have IMp := fun W (n : Below w.heap.size w W) (r p q : Nat) (h0 : Blk W r .u8 X0) (h1 : Blk W p .u8 X1) (h2 : Blk W q .u8 Y1) => (IM W r (some ⟨r, 0, none⟩) X0.length h0.own0.rd p q (some ⟨p, 0, none⟩) (some ⟨q, 0, none⟩) X1.length Y1.length h1.own0.rd h2.own0.rd n).mono (fun e w' (h : NewP2 W.heap.size w' e (skX X0 X1 Y1) (skY X0 X1 Y1) ∧ Below W.heap.size W w') => (⟨h.1.pt, h.2⟩ : NewPt W.heap.size w' e (skX X0 X1 Y1) (skY X0 X1 Y1) ∧ Below W.heap.size W w'))
  have lrx : (skX X0 X1 Y1).length ≤ 1048576 := sk_len1 _ _ _
  obtain ⟨rx, hrx⟩ : ∃ l, l = skX X0 X1 Y1 := ⟨_, rfl⟩
  simp only [← hrx] at SP IM SPp IMp lrx
  clear hrx
  have lry : (skY X0 X1 Y1).length ≤ 1048576 := sk_len2 _ _ _
  obtain ⟨ry, hry⟩ : ∃ l, l = skY X0 X1 Y1 := ⟨_, rfl⟩
  simp only [← hry] at SP IM SPp IMp lry
  clear hry
  clear hL
  by_cases q0 : X0.length ≤ 1048576
  · skip
    by_cases q1 : (X1.length + Y1.length) ≤ 1048576
    · skip
      have t0 : decide ((1048576 : Int) < (X0.length : Int)) = false := by simp; omega
      have SZ1 := fun W => szPoint_any W a1 a1' X1.length c1 Y1.length c1' ((1048576 : Int)) lX1 lY1 (by omega) (by omega)
      rw [if_neg (show ¬ ((1048576 : Int)) < (X1.length : Int) + (Y1.length : Int) by omega)] at SZ1
      have t1 : decide (((1048576 : Int)) - (X1.length : Int) - (Y1.length : Int) < 0) = false := by simp; omega
      go_enter Tryd.func3, Tryd.ntmps3
      go_upto_region 1 with fail
      have B1 := Two.new w (.slice a1 X1.length c1) (.slice a1' Y1.length c1') 24
      have nb0 : Below w.heap.size w (w.alloc (.cells #[.slice a1 X1.length c1, .slice a1' Y1.length c1'] 24)) := (Below.refl _ _).alloc (Nat.le_refl _) _
      have sb0 : (w.alloc (.cells #[.slice a1 X1.length c1, .slice a1' Y1.length c1'] 24)).heap.size = w.heap.size + 1 := by simp
      generalize w.alloc (.cells #[.slice a1 X1.length c1, .slice a1' Y1.length c1'] 24) = v0 at *
      have N := nb0
      have zv : w.heap.size + 1 ≤ v0.heap.size := by omega
      clear nb0 sb0
      have B10 := B1.c0
      have B11 := B1.c1
      go_wp2_with fail
      refine (SZ1 v0).mono ?_
      rintro e w1 ⟨rfl, n1⟩
      clear B10 B11
      replace B1 := B1.up n1
      replace N := nxt N n1
      have zn1 := n1.size
      clear n1
      go_upto_region 7 with fail
      refine region_newPF 6 5 4 6 26 _ (fun i => [Fact.eq (.slice a0 X0.length c0), BRc X0, Fact.eq (.agg #[.slice a1 X1.length c1, .slice a1' Y1.length c1']), PR X1 Y1, PT w1 (fun u8 u9 => u8 = rx ∧ u9 = ry), NBp w1].getD i Fact.no) (fun u8 u9 => u8 = rx ∧ u9 = ry) (by kernel_rfl) rfl rfl rfl (by kernel_rfl) (by kernel_rfl) rfl rfl ?_ ?_
      · intro i hi
        obtain rfl | rfl | rfl | rfl | rfl | rfl : i = 0 ∨ i = 1 ∨ i = 2 ∨ i = 3 ∨ i = 4 ∨ i = 5 := by omega
        · exact step_mv rfl 0 rfl (by kernel_rfl) rfl rfl
        · exact step_toB rfl 22 0 rfl (by kernel_rfl) (hX0.up N) (by omega) rfl rfl
        · exact step_l2 _ uLP iLP rfl 3 rfl (by kernel_rfl) _ rfl _ _ B1 rfl
        · exact step_toP rfl 24 2 rfl (by kernel_rfl) (hX1.up N) (hY1.up N) (by omega) (by omega) rfl rfl
        · exact step_sp_pts rfl 23 25 1 3 rfl (by kernel_rfl) (by kernel_rfl) (by kernel_rfl) (fun W n r p q h0 h1 h2 => SPp W (nxt N n) r p q h0 h1 h2) rfl rfl rfl
        · exact step_newP rfl rfl rfl
      intro vs qT4 w2 xs' ys' sa sa' sc sc' sg sg' vq lq n2 rg th so so' sl sl' hp _
      obtain ⟨hp1, hp2⟩ := hp
      replace hp1 : xs' = rx := hp1
      replace hp2 : ys' = ry := hp2
      rw [hp1] at rg so
      rw [hp2] at rg so'
      clear hp1 hp2
      have T4 : Two w2 qT4 (.slice sa rx.length sc) (.slice sa' ry.length sc') := two_of rg th
      have o4 : PrP w2 sg sa rx sg' sa' ry := ⟨so, so'⟩
      clear rg th so so'
      simp only [puts, vq, Act.put, List.setIfInBounds_toArray, List.set_cons_succ, List.set_cons_zero]
      clear vq
      replace B1 := B1.up n2
      replace N := nxt N n2
      have zn2 := n2.size
      clear n2
      have uT4 := T4.lt
      have Y4 := hide o4.l.rd.lt
      have Y4' := hide o4.r.rd.lt
      go_wp2_with fail
      refine (toByteS_any w2 g0 a0 c0 X0 (hX0.up N) (by omega)).mono ?_
      rintro e w3 ⟨rfl, x0x, n3⟩
      replace B1 := B1.up n3
      replace T4 := T4.up n3
      replace o4 := o4.up n3
      replace N := nxt N n3
      have zn3 := n3.size
      clear n3
      have x04 := x0x.lt
      have B10 := B1.c0
      have B11 := B1.c1
      go_wp2_with fail
      refine (toPoint_any w3 g1 g1' a1 a1' c1 c1' X1 Y1 (hX1.up N) (hY1.up N) (by omega) (by omega)).mono ?_
      rintro e w4 ⟨x1p, x1q, rfl, x1x, x1y, x11, x12, n4⟩
      clear B10 B11
      replace B1 := B1.up n4
      replace T4 := T4.up n4
      replace o4 := o4.up n4
      replace x0x := x0x.up n4
      replace N := nxt N n4
      have zn4 := n4.size
      clear n4
      have x13 := x1y.lt
      have x14 := x1x.lt
      have T51 := Two.new w4 (.slice (some ⟨x1p, 0, none⟩) X1.length X1.length) (.slice (some ⟨x1q, 0, none⟩) Y1.length Y1.length) 26
      have n5 : Below w4.heap.size w4 (w4.alloc (.cells #[.slice (some ⟨x1p, 0, none⟩) X1.length X1.length, .slice (some ⟨x1q, 0, none⟩) Y1.length Y1.length] 26)) := (Below.refl _ _).alloc (Nat.le_refl _) _
      replace B1 := B1.up n5
      replace T4 := T4.up n5
      replace o4 := o4.up n5
      replace x0x := x0x.up n5
      replace x1x := x1x.up n5
      replace x1y := x1y.up n5
      replace N := nxt N n5
      clear n5
      have T510 := T51.c0
      have T511 := T51.c1
      go_wp2_with fail
      generalize w4.alloc (.cells #[.slice (some ⟨x1p, 0, none⟩) X1.length X1.length, .slice (some ⟨x1q, 0, none⟩) Y1.length Y1.length] 26) = w5 at *
      have uT51 := T51.lt
      refine (IM w5 _ _ _ x0x.own0.rd _ _ _ _ _ _ x1x.own0.rd x1y.own0.rd N).mono ?_
      rintro e w6 ⟨NR, n6⟩
      clear T510 T511
      have zn6 := n6.size
      obtain ⟨i6a, i6c, i6g, i6a', i6c', i6g', rfl, o6, i6l, i6h, i6l', i6h', i6r, i6r'⟩ := NR.at (B' := w4.heap.size) (by omega) (by omega)
      replace B1 := B1.up n6
      replace T4 := T4.up n6
      replace o4 := o4.up n6
      replace x0x := x0x.up n6
      replace x1x := x1x.up n6
      replace x1y := x1y.up n6
      replace T51 := T51.up n6
      replace N := nxt N n6
      clear n6
      have T6 := Two.new w6 (.slice i6a rx.length i6c) (.slice i6a' ry.length i6c') 26
      have n7 : Below w6.heap.size w6 (w6.alloc (.cells #[.slice i6a rx.length i6c, .slice i6a' ry.length i6c'] 26)) := (Below.refl _ _).alloc (Nat.le_refl _) _
      replace B1 := B1.up n7
      replace T4 := T4.up n7
      replace o4 := o4.up n7
      replace x0x := x0x.up n7
      replace x1x := x1x.up n7
      replace x1y := x1y.up n7
      replace T51 := T51.up n7
      replace o6 := o6.up n7
      replace N := nxt N n7
      clear n7
      have T60 := T6.c0
      have T61 := T6.c1
      have T40 := T4.c0
      have T41 := T4.c1
      go_wp2_with fail
      generalize w6.alloc (.cells #[.slice i6a rx.length i6c, .slice i6a' ry.length i6c'] 26) = w7 at *
      have uT6 := T6.lt
      refine (eqPoint_same w7 _ _ _ _ _ _ _ _ _ _ _ _ rx ry o6 o4 lrx lry).mono ?_
      rintro e w8 ⟨rfl, n8⟩
      clear T60 T61 T40 T41
      replace B1 := B1.up n8
      replace T4 := T4.up n8
      replace o4 := o4.up n8
      replace x0x := x0x.up n8
      replace x1x := x1x.up n8
      replace x1y := x1y.up n8
      replace T51 := T51.up n8
      replace o6 := o6.up n8
      replace T6 := T6.up n8
      replace N := nxt N n8
      have zn8 := n8.size
      clear n8
      go_wp2_with fail
      refine (toByteS_any w8 g0 a0 c0 X0 (hX0.up N) (by omega)).mono ?_
      rintro e w9 ⟨rfl, cx, n9⟩
      replace B1 := B1.up n9
      replace T4 := T4.up n9
      replace o4 := o4.up n9
      replace x0x := x0x.up n9
      replace x1x := x1x.up n9
      replace x1y := x1y.up n9
      replace T51 := T51.up n9
      replace o6 := o6.up n9
      replace T6 := T6.up n9
      replace N := nxt N n9
      have zn9 := n9.size
      clear n9
      go_wp2_with fail
      refine (eqByteS_same w9 _ _ _ _ _ _ X0 x0x.own0.rd cx.own0.rd (by omega)).mono ?_
      rintro e w10 ⟨rfl, n10⟩
      replace B1 := B1.up n10
      replace T4 := T4.up n10
      replace o4 := o4.up n10
      replace x0x := x0x.up n10
      replace x1x := x1x.up n10
      replace x1y := x1y.up n10
      replace T51 := T51.up n10
      replace o6 := o6.up n10
      replace T6 := T6.up n10
      replace cx := cx.up n10
      replace N := nxt N n10
      have zn10 := n10.size
      clear n10
      clear cx
      go_upto_region 15 with fail
      refine region_end 5 (fun i => [Fact.eq (.agg #[.slice (some ⟨x1p, 0, none⟩) X1.length X1.length, .slice (some ⟨x1q, 0, none⟩) Y1.length Y1.length]), Fact.eq (.agg #[.slice a1 X1.length c1, .slice a1' Y1.length c1']), PR X1 Y1, Fact.eq (.bool true), Fact.eq (.bool (!true))].getD i Fact.no) (by kernel_rfl) (by kernel_rfl) rfl ?_ ?_
      · intro i hi
        obtain rfl | rfl | rfl | rfl | rfl : i = 0 ∨ i = 1 ∨ i = 2 ∨ i = 3 ∨ i = 4 := by omega
        · exact step_l2 _ uP iP rfl 8 rfl (by kernel_rfl) _ rfl _ _ T51 rfl
        · exact step_l2 _ uLP iLP rfl 3 rfl (by kernel_rfl) _ rfl _ _ B1 rfl
        · exact step_toP rfl 44 1 rfl (by kernel_rfl) (hX1.up N) (hY1.up N) (by omega) (by omega) rfl rfl
        · exact step_eqP rfl 43 45 0 2 rfl (by kernel_rfl) (by kernel_rfl) (g := x1p) (g' := x1q) ⟨x1x.own0, x1y.own0⟩ (by omega) (by omega) rfl rfl rfl
        · exact step_notb rfl 46 3 rfl (by kernel_rfl) rfl rfl
      intro A w11 hb n11 hF
      have e2 := hF 4 47 (by kernel_rfl)
      obtain ⟨vs, hvs⟩ : ∃ vs : Nat → Value, ∀ d, A.tmps.getD d undef = vs d := ⟨_, fun _ => rfl⟩
      rw [hvs] at e2
      rw [puts_of (md := .any) (k := 5) (by kernel_rfl) rfl hb vs hvs]
      clear hb hF hvs
      have e3 : vs 47 = .bool false := e2
      clear e2
      simp only [puts, e3, Act.put, List.setIfInBounds_toArray, List.set_cons_succ, List.set_cons_zero]
      clear e3
      replace B1 := B1.up n11
      replace T4 := T4.up n11
      replace o4 := o4.up n11
      replace x0x := x0x.up n11
      replace x1x := x1x.up n11
      replace x1y := x1y.up n11
      replace T51 := T51.up n11
      replace o6 := o6.up n11
      replace T6 := T6.up n11
      replace N := nxt N n11
      have zn11 := n11.size
      clear n11
      go_wp2_with fail
      refine (markByteS_any w11 _ _ _ X0 (1) x0x.own0 (by omega) (by omega) (by omega)).mono ?_
      rintro e w12 ⟨rfl, _, O12⟩
      have zz12 := O12.size
      clear x0x
      have NN := N.size
      replace N := N.trans (O12.below (B := w.heap.size) (by omega))
      clear NN
      replace B1 := B1.only O12 (by omega)
      replace T4 := T4.only O12 (by omega)
      replace o4 := o4.only O12 (fun h => by have := Y4.out h; omega) (fun h => by have := Y4'.out h; omega)
      replace x1x := x1x.of_block (O12.block _ (by omega))
      replace x1y := x1y.of_block (O12.block _ (by omega))
      replace T51 := T51.only O12 (by omega)
      replace o6 := o6.only O12 (fun h => by have := i6r h; omega) (fun h => by have := i6r' h; omega)
      replace T6 := T6.only O12 (by omega)
      clear O12
      have T510 := T51.c0
      have T511 := T51.c1
      go_wp2_with fail
      refine (markPoint_any w12 x1p x1q _ _ _ _ X1 Y1 (1 + (X0.length : Int)) ⟨x1x.own0, x1y.own0⟩ (by omega) (by omega) (by omega) (by omega) (fun _ => by omega) (fun _ => by omega) (by omega)).mono ?_
      rintro e w13 ⟨rfl, _, O13⟩
      have zz13 := O13.size
      clear T510 T511
      clear x1x x1y T51
      have NN := N.size
      replace N := N.trans (O13.below (B := w.heap.size) (by omega) (by omega) (by omega))
      clear NN
      replace B1 := B1.butP O13 (by omega) (by omega)
      replace T4 := T4.butP O13 (by omega) (by omega)
      replace o4 := o4.butP O13 (fun h => ⟨by have := Y4.out h; omega, by have := Y4.out h; omega⟩) (fun h => ⟨by have := Y4'.out h; omega, by have := Y4'.out h; omega⟩)
      replace o6 := o6.butP O13 (fun h => ⟨by have := i6r h; omega, by have := i6r h; omega⟩) (fun h => ⟨by have := i6r' h; omega, by have := i6r' h; omega⟩)
      replace T6 := T6.butP O13 (by omega) (by omega)
      clear O13
      have tk : decide ((1 + (X0.length : Int) + (X1.length : Int) + (Y1.length : Int) : Int) < 0) = false := by simp; omega
      have T60 := T6.c0
      have T61 := T6.c1
      have T40 := T4.c0
      have T41 := T4.c1
      go_wp2_with fail
      refine (eqPoint_same w13 _ _ _ _ _ _ _ _ _ _ _ _ rx ry o6 o4 lrx lry).mono ?_
      rintro e w14 ⟨rfl, n14⟩
      clear T60 T61 T40 T41
      replace B1 := B1.up n14
      replace T4 := T4.up n14
      replace o4 := o4.up n14
      replace o6 := o6.up n14
      replace T6 := T6.up n14
      replace N := nxt N n14
      have zn14 := n14.size
      clear n14
      have T60 := T6.c0
      have T61 := T6.c1
      go_wp2_with fail
      refine (markPoint_any w14 i6g i6g' _ _ _ _ rx ry 1 o6 lrx lry (by omega) (by omega) (fun h => (i6r h).2) (fun h => (i6r' h).2) (by omega)).mono ?_
      rintro e w15 ⟨rfl, oH, OH⟩
      have zzH := OH.size
      clear T60 T61
      clear o6
      have NN := N.size
      replace N := N.trans (OH.below (B := w.heap.size) (by omega) (by omega) (by omega))
      clear NN
      replace B1 := B1.butP OH (by omega) (by omega)
      replace T4 := T4.butP OH (by omega) (by omega)
      replace o4 := o4.butP OH (fun h => ⟨by have := Y4.out h; omega, by have := Y4.out h; omega⟩) (fun h => ⟨by have := Y4'.out h; omega, by have := Y4'.out h; omega⟩)
      replace T6 := T6.butP OH (by omega) (by omega)
      clear OH
      have t4 : decide ((1 : Int) + (rx.length : Int) + (ry.length : Int) < 0) = false := by simp; omega
      have T60 := T6.c0
      have T61 := T6.c1
      go_wp2_with fail
      refine (heldPoint_any w15 i6g i6g' _ _ _ _ rx.length ry.length 1 oH lrx lry (by omega) (by omega)).mono ?_
      rintro e w16 ⟨rfl, n16⟩
      clear T60 T61
      replace B1 := B1.up n16
      replace T4 := T4.up n16
      replace o4 := o4.up n16
      replace T6 := T6.up n16
      replace oH := oH.up n16
      replace N := nxt N n16
      have zn16 := n16.size
      clear n16
      go_upto_region 30 with fail
      refine region_newPF 6 5 4 13 77 _ (fun i => [Fact.eq (.slice a0 X0.length c0), BRc X0, Fact.eq (.agg #[.slice a1 X1.length c1, .slice a1' Y1.length c1']), PR X1 Y1, PT w16 (fun u8 u9 => u8 = rx ∧ u9 = ry), NBp w16].getD i Fact.no) (fun u8 u9 => u8 = rx ∧ u9 = ry) (by kernel_rfl) rfl rfl rfl (by kernel_rfl) (by kernel_rfl) rfl rfl ?_ ?_
      · intro i hi
        obtain rfl | rfl | rfl | rfl | rfl | rfl : i = 0 ∨ i = 1 ∨ i = 2 ∨ i = 3 ∨ i = 4 ∨ i = 5 := by omega
        · exact step_mv rfl 0 rfl (by kernel_rfl) rfl rfl
        · exact step_toB rfl 73 0 rfl (by kernel_rfl) (hX0.up N) (by omega) rfl rfl
        · exact step_l2 _ uLP iLP rfl 3 rfl (by kernel_rfl) _ rfl _ _ B1 rfl
        · exact step_toP rfl 75 2 rfl (by kernel_rfl) (hX1.up N) (hY1.up N) (by omega) (by omega) rfl rfl
        · exact step_sp_pts rfl 74 76 1 3 rfl (by kernel_rfl) (by kernel_rfl) (by kernel_rfl) (fun W n r p q h0 h1 h2 => IMp W (nxt N n) r p q h0 h1 h2) rfl rfl rfl
        · exact step_newP rfl rfl rfl
      intro vs qT9 w17 xs' ys' i9a i9a' i9c i9c' i9g i9g' vq lq n17 rg th so so' i9l i9l' hp _
      obtain ⟨hp1, hp2⟩ := hp
      replace hp1 : xs' = rx := hp1
      replace hp2 : ys' = ry := hp2
      rw [hp1] at rg so
      rw [hp2] at rg so'
      clear hp1 hp2
      have T9 : Two w17 qT9 (.slice i9a rx.length i9c) (.slice i9a' ry.length i9c') := two_of rg th
      have o9 : PrP w17 i9g i9a rx i9g' i9a' ry := ⟨so, so'⟩
      clear rg th so so'
      simp only [puts, vq, Act.put, List.setIfInBounds_toArray, List.set_cons_succ, List.set_cons_zero]
      clear vq
      replace B1 := B1.up n17
      replace T4 := T4.up n17
      replace o4 := o4.up n17
      replace T6 := T6.up n17
      replace oH := oH.up n17
      replace N := nxt N n17
      have zn17 := n17.size
      clear n17
      have uT9 := T9.lt
      have T90 := T9.c0
      have T91 := T9.c1
      have T40 := T4.c0
      have T41 := T4.c1
      go_wp2_with fail
      refine (eqPoint_same w17 _ _ _ _ _ _ _ _ _ _ _ _ rx ry o9 o4 lrx lry).mono ?_
      rintro e w18 ⟨rfl, n18⟩
      clear T90 T91 T40 T41
      replace B1 := B1.up n18
      replace T4 := T4.up n18
      replace o4 := o4.up n18
      replace T6 := T6.up n18
      replace oH := oH.up n18
      replace T9 := T9.up n18
      replace o9 := o9.up n18
      replace N := nxt N n18
      have zn18 := n18.size
      clear n18
      clear o9 o4 T9 T4
      have T60 := T6.c0
      have T61 := T6.c1
      go_wp2_with fail
      refine (heldPoint_any w18 i6g i6g' _ _ _ _ rx.length ry.length 1 oH lrx lry (by omega) (by omega)).mono ?_
      rintro e w19 ⟨rfl, n19⟩
      clear T60 T61
      replace B1 := B1.up n19
      replace T6 := T6.up n19
      replace oH := oH.up n19
      replace N := nxt N n19
      have zn19 := n19.size
      clear n19
      go_wp2
      go_ret
      exact ⟨rfl, N⟩
    · skip
      have t0 : decide ((1048576 : Int) < (X0.length : Int)) = false := by simp; omega
      have SZ1 := fun W => szPoint_any W a1 a1' X1.length c1 Y1.length c1' ((1048576 : Int)) lX1 lY1 (by omega) (by omega)
      rw [if_pos (show ((1048576 : Int)) < (X1.length : Int) + (Y1.length : Int) by omega)] at SZ1
      go_enter Tryd.func3, Tryd.ntmps3
      go_upto_region 1 with fail
      have B1 := Two.new w (.slice a1 X1.length c1) (.slice a1' Y1.length c1') 24
      have nb0 : Below w.heap.size w (w.alloc (.cells #[.slice a1 X1.length c1, .slice a1' Y1.length c1'] 24)) := (Below.refl _ _).alloc (Nat.le_refl _) _
      have sb0 : (w.alloc (.cells #[.slice a1 X1.length c1, .slice a1' Y1.length c1'] 24)).heap.size = w.heap.size + 1 := by simp
      generalize w.alloc (.cells #[.slice a1 X1.length c1, .slice a1' Y1.length c1'] 24) = v0 at *
      have N := nb0
      have zv : w.heap.size + 1 ≤ v0.heap.size := by omega
      clear nb0 sb0
      have B10 := B1.c0
      have B11 := B1.c1
      go_wp2_with fail
      refine (SZ1 v0).mono ?_
      rintro e w1 ⟨rfl, n1⟩
      clear B10 B11
      replace B1 := B1.up n1
      replace N := nxt N n1
      have zn1 := n1.size
      clear n1
      go_wp2
      go_ret
      exact ⟨rfl, N⟩
  · skip
    have t0 : decide ((1048576 : Int) < (X0.length : Int)) = true := by simp; omega
    go_enter Tryd.func3, Tryd.ntmps3
    go_upto_region 1 with fail
    have B1 := Two.new w (.slice a1 X1.length c1) (.slice a1' Y1.length c1') 24
    have nb0 : Below w.heap.size w (w.alloc (.cells #[.slice a1 X1.length c1, .slice a1' Y1.length c1'] 24)) := (Below.refl _ _).alloc (Nat.le_refl _) _
    have sb0 : (w.alloc (.cells #[.slice a1 X1.length c1, .slice a1' Y1.length c1'] 24)).heap.size = w.heap.size + 1 := by simp
    generalize w.alloc (.cells #[.slice a1 X1.length c1, .slice a1' Y1.length c1'] 24) = v0 at *
    have N := nb0
    have zv : w.heap.size + 1 ≤ v0.heap.size := by omega
    clear nb0 sb0
    go_wp2
    go_ret
    exact ⟨rfl, N⟩
end Go.Proofs.YtnaaanefndeafaaDoor
