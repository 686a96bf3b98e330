import Derived.Test.YthapcapiiknjdaaDoorGP25
import Derived.Test.YthapcapiiknjdaaDoorGP22
import Derived.Test.YthapcapiiknjdaaDoorGP23

/-
  The model's l5Times.
-/
namespace Go.Proofs.YthapcapiiknjdaaDoor
set_option maxRecDepth 100000
open Go Go.RowKit

abbrev W3 : Type := Int × Int × Int
def wsum (p q : W3) (d : Int) : W3 := (wX p.1 p.2.1 p.2.2 q.1 q.2.1 q.2.2 d, wY p.1 p.2.1 p.2.2 q.1 q.2.1 q.2.2 d, wZ p.1 p.2.1 p.2.2 q.1 q.2.1 q.2.2 d)
def stp (d : Int) (p : W3) : Nat → W3
  | 0 => p
  | i + 1 => wsum (stp d p i) (stp d p i) d
def acc (d : Int) (p : W3) (b : Nat → Int) : Nat → W3
  | 0 => (0, 1, 1)
  | i + 1 => if b i = 1 then wsum (acc d p b i) (stp d p i) d else acc d p b i
/-- Bit i of a number that is told with its highest byte first. -/
def bitOf (top : List Int) (i : Nat) : Int := dig top (i / 8) / 2 ^ (i % 8) % 2
theorem Own.butQ {W W' : World} {g q : Nat} {a : Option Addr} {k : IntKind} {xs : List Int} (h : Own W g a k xs) (b : ButQ q W W') (hne : 0 < xs.length → g ≠ q) : Own W' g a k xs := fun h0 => h.of_block (b.1 g (hne h0) (h.rd.lt h0)) h0
theorem en_sum : enters Tryd.prog 112 = true := by kernel_rfl
theorem of_up {W W' : World} {a : Option Addr} {xs : List Int} (h : OfOk W a xs) (n : Below W.heap.size W W') : OfOk W' a xs := by
  obtain ⟨g, r, b, l⟩ := h
  exact ⟨g, r.up n, b, l⟩
theorem Elt.lt {W : World} {q o : Nat} {A : Int} (h : Elt W q o A) : q < W.heap.size := by
  obtain ⟨_, _, l, _⟩ := h
  exact l
section
variable {ops : Array Oper} {Q : Exit → Act → World → Prop} {md : Region.Mode} {F : Nat → Fact} {a0 : Act} {w0 : World} {i : Nat} {o : Oper} {ts : Array TypeId}
theorem step_e3 (hi : ops[i]? = some o) (p : Nat) (hop : o.op = .load 83 (.tmp p)) (hp : apart ops p = true) (q : Nat) (h0 : a0.tmps.getD p undef = .pointer (some ⟨q, 0, none⟩)) {A B C : Int} (hE : Elt3 w0 q A B C) (hF : F i = E3 A B C) : StepOk Tryd.prog md ops Q F a0 w0 i := by
  obtain ⟨fs, hfs⟩ := u144
  refine step_load hi _ _ hop _ 48 hfs rfl i144 fun a w hb hw _ => ?_
  obtain ⟨x, y, z, r, _, hx, hy, hz⟩ := hE.up hw
  exact ⟨q, 0, _, (based_at hb p hp).trans h0, r, c48_len x y z, by rw [hF]; exact ⟨x, y, z, rfl, hx, hy, hz⟩⟩
theorem step_sum (hi : ops[i]? = some o) (p q r j k l : Nat) (A B C A' B' C' D : Int) (hop : o.op = .call { callee := .value (.func 112), args := #[.tmp p, .tmp q, .tmp r], argTypes := ts })
    (hj : waits md ops i j p = true) (hk : waits md ops i k q = true) (hl : waits md ops i l r = true) (hFj : F j = E3 A B C) (hFk : F k = E3 A' B' C') (hFl : F l = EL D)
    (hFi : F i = E3 (wX A B C A' B' C' D) (wY A B C A' B' C' D) (wZ A B C A' B' C' D)) : StepOk Tryd.prog md ops Q F a0 w0 i := by
  refine step_call hi _ _ ts hop en_sum fun a w _ _ hF => ?_
  have ea := hF j p hj
  have eb := hF k q hk
  have ec := hF l r hl
  rw [hFj] at ea
  rw [hFk] at eb
  rw [hFl] at ec
  obtain ⟨x, y, z, e1, hx, hy, hz⟩ := ea
  obtain ⟨x', y', z', e2, hx', hy', hz'⟩ := eb
  obtain ⟨e, e3, he⟩ := ec
  show Calls Tryd.prog 112 #[a.tmps.getD p undef, a.tmps.getD q undef, a.tmps.getD r undef] w _
  rw [e1, e2, e3]
  refine (l5Sum_any w x y z x' y' z' e A B C A' B' C' D hx hy hz hx' hy' hz' he).mono ?_
  rintro r w' ⟨u, v, t, rfl, hu, hv, ht, hn⟩
  exact ⟨_, rfl, hn, by rw [hFi]; exact ⟨u, v, t, rfl, hu, hv, ht⟩⟩
end

set_option maxHeartbeats 4000000 in
theorem l5Times_any (w : World) (g gx gy : Nat) (a ax ay : Option Addr) (ck cx cy : Nat) (ks xs ys : List Int) (hk : Rd w g a .u8 ks) (bk : Byt ks) (lk : ks.length ≤ 4096) (hx : Rd w gx ax .u8 xs) (hy : Rd w gy ay .u8 ys) (bx : Byt xs) (by' : Byt ys) (lx : xs.length = 32) (ly : ys.length = 32) :
    Calls Tryd.prog 73 #[.slice a ks.length ck, .agg #[.slice ax xs.length cx, .slice ay ys.length cy]] w fun r w' => ∃ (top : List Int) (p : W3) (x y z : Nat → Int), Canon top (lsum (fun j => ks.getD j 0) ks.length) ∧ p = acc dE (num xs, num ys, 1) (bitOf top) (8 * top.length) ∧ r = .returned (ag48 x y z) ∧
      (L16 x ∧ s16 x 16 % PP = p.1 % PP) ∧ (L16 y ∧ s16 y 16 % PP = p.2.1 % PP) ∧ (L16 z ∧ s16 z 16 % PP = p.2.2 % PP) ∧ Below w.heap.size w w' := by
  have T := two_cells w (.slice ax xs.length cx) (.slice ay ys.length cy) 24
  have m1 : Below w.heap.size w (w.alloc (.cells #[.slice ax xs.length cx, .slice ay ys.length cy] 24)) := (Below.refl _ _).alloc (Nat.le_refl _) _
  have s1 : (w.alloc (.cells #[.slice ax xs.length cx, .slice ay ys.length cy] 24)).heap.size = w.heap.size + 1 := by simp
  obtain ⟨CX, CY⟩ := T
  have LX := hide lx
  have LY := hide ly
  clear lx ly
  go_enter Tryd.func73, Tryd.ntmps73
  go_upto_region 1 with fail
  generalize w.alloc (.cells #[.slice ax xs.length cx, .slice ay ys.length cy] 24) = wa at *
  have TR : (wa.alloc zObj48).there wa.heap.size 0 48 := there_new wa _ _
  have m2 : Below wa.heap.size wa (wa.alloc zObj48) := (Below.refl _ _).alloc (Nat.le_refl _) _
  rw [s1] at TR
  replace CX := (m2.cell (block_lt_of_cell CX)).trans CX
  replace CY := (m2.cell (block_lt_of_cell CY)).trans CY
  have N := nxt m1 m2
  obtain ⟨wr, hwr⟩ : ∃ W, W = wa.alloc zObj48 := ⟨_, rfl⟩
  rw [← hwr] at TR N CX CY
  change Code.wp _ _ _ _ (wa.alloc zObj48)
  rw [← hwr]
  clear hwr m1 m2 s1
  have RK := hk.up N
  have OX := hide (of_ok (hx.up N) bx LX.out)
  have OY := hide (of_ok (hy.up N) by' LY.out)
  clear hk hx hy
  refine region_new16 2 1 0 5 10 _ (fun i => [EL dE, NB wr 16].getD i Fact.no) (dE) (by kernel_rfl) rfl rfl rfl (by kernel_rfl) (by kernel_rfl) rfl rfl ?_ ?_
  · intro i hi
    obtain rfl | rfl : i = 0 ∨ i = 1 := by omega
    · exact step_d rfl rfl rfl
    · exact step_new16 rfl rfl rfl
  intro vs1 q5 W1 v5 h5 n1 E5 T5
  have z5 : w.heap.size + 1 < wr.heap.size := there_lt (by omega) TR
  replace CX := (n1.cell (block_lt_of_cell CX)).trans CX
  replace CY := (n1.cell (block_lt_of_cell CY)).trans CY
  replace TR := there_up (by omega) TR n1
  replace RK := RK.up n1
  replace OX := hide (of_up OX.out n1)
  replace OY := hide (of_up OY.out n1)
  replace N := nxt N n1
  have y5 := E5.lt
  clear n1 T5
  simp only [puts, v5, Act.put, List.setIfInBounds_toArray, List.set_cons_succ, List.set_cons_zero]
  clear v5
  go_upto_region 2 with fail
  refine region_new48 5 4 3 6 14 _ (fun i => [EL 0, EL 1, EL 1, E3 (0) (1) (1), NB W1 48].getD i Fact.no) (0) (1) (1) (by kernel_rfl) rfl rfl rfl (by kernel_rfl) (by kernel_rfl) rfl rfl ?_ ?_
  · intro i hi
    obtain rfl | rfl | rfl | rfl | rfl : i = 0 ∨ i = 1 ∨ i = 2 ∨ i = 3 ∨ i = 4 := by omega
    · exact step_small rfl 0 (by omega) rfl rfl
    · exact step_small rfl 1 (by omega) rfl rfl
    · exact step_small rfl 1 (by omega) rfl rfl
    · exact step_b48 rfl 11 12 13 0 1 2 _ _ _ rfl (by kernel_rfl) (by kernel_rfl) (by kernel_rfl) rfl rfl rfl rfl
    · exact step_new48 rfl rfl rfl
  intro vs2 q6 W2 v6 h6 n2 E6 T6
  replace CX := (n2.cell (block_lt_of_cell CX)).trans CX
  replace CY := (n2.cell (block_lt_of_cell CY)).trans CY
  replace TR := there_up (by omega) TR n2
  replace RK := RK.up n2
  replace OX := hide (of_up OX.out n2)
  replace OY := hide (of_up OY.out n2)
  replace E5 := E5.up n2
  replace N := nxt N n2
  have y6 := there_lt (by omega) T6
  clear n2
  simp only [puts, v6, Act.put, List.setIfInBounds_toArray, List.set_cons_succ, List.set_cons_zero]
  clear v6
  go_upto_region 3 with fail
  refine region_new48 9 8 7 7 22 _ (fun i => [Fact.eq (.pointer (some ⟨w.heap.size, 0, none⟩)), Fact.eq (.slice ax xs.length cx), EL (num xs), Fact.eq (.pointer (some ⟨w.heap.size, 1, none⟩)), Fact.eq (.slice ay ys.length cy), EL (num ys), EL 1, E3 (num xs) (num ys) (1), NB W2 48].getD i Fact.no) (num xs) (num ys) (1) (by kernel_rfl) rfl rfl rfl (by kernel_rfl) (by kernel_rfl) rfl rfl ?_ ?_
  · intro i hi
    obtain rfl | rfl | rfl | rfl | rfl | rfl | rfl | rfl | rfl : i = 0 ∨ i = 1 ∨ i = 2 ∨ i = 3 ∨ i = 4 ∨ i = 5 ∨ i = 6 ∨ i = 7 ∨ i = 8 := by omega
    · exact step_fld rfl 24 3 0 rfl (by kernel_rfl) _ _ rfl (fxP _) rfl
    · exact step_lds rfl 15 0 rfl (by kernel_rfl) _ _ rfl _ _ _ CX rfl
    · exact step_of rfl 16 1 rfl (by kernel_rfl) OX.out rfl rfl
    · exact step_fld rfl 24 3 1 rfl (by kernel_rfl) _ _ rfl (fyP _) rfl
    · exact step_lds rfl 18 3 rfl (by kernel_rfl) _ _ rfl _ _ _ CY rfl
    · exact step_of rfl 19 4 rfl (by kernel_rfl) OY.out rfl rfl
    · exact step_small rfl 1 (by omega) rfl rfl
    · exact step_b48 rfl 17 20 21 2 5 6 _ _ _ rfl (by kernel_rfl) (by kernel_rfl) (by kernel_rfl) rfl rfl rfl rfl
    · exact step_new48 rfl rfl rfl
  intro vs3 q7 Wv v7 h7 n3 E7 T7
  replace TR := there_up (by omega) TR n3
  replace RK := RK.up n3
  replace E5 := E5.up n3
  replace E6 := E6.up n3
  replace T6 := there_up (by omega) T6 n3
  replace N := nxt N n3
  have y7 := there_lt (by omega) T7
  clear n3 CX CY OX OY LX LY
  simp only [puts, v7, Act.put, List.setIfInBounds_toArray, List.set_cons_succ, List.set_cons_zero]
  clear v7
  go_wp2_with fail
  refine (l2Num_any Wv g a ck ks RK bk (by omega)).mono ?_
  rintro r W4 ⟨top, CT, lt', ⟨aT, cT, gT, rfl, oT, pT, qT, hT⟩, n4⟩
  replace TR := there_up (by omega) TR n4
  replace E5 := E5.up n4
  replace E6 := E6.up n4
  replace E7 := E7.up n4
  replace T6 := there_up (by omega) T6 n4
  replace T7 := there_up (by omega) T7 n4
  replace N := nxt N n4
  clear n4 RK
  go_wp2
  have HC := hide CT
  have TB : Byt top := CT.1
  clear CT
  have g6 : q5 < q6 := by omega
  have g7 : q6 < q7 := by omega
  have gg : q7 < gT := by omega
  have gr : w.heap.size + 1 < q5 := by omega
  have tl : top.length ≤ 4096 := by omega
  clear h5 z5 y5 h6 y6 h7 y7 hT
  obtain ⟨p, hp⟩ : ∃ p : W3, p = (num xs, num ys, 1) := ⟨_, rfl⟩
  have E6' : Elt3 W4 q6 (acc dE p (bitOf top) 0).1 (acc dE p (bitOf top) 0).2.1 (acc dE p (bitOf top) 0).2.2 := E6
  have E7' : Elt3 W4 q7 (stp dE p 0).1 (stp dE p 0).2.1 (stp dE p 0).2.2 := by rw [hp]; exact E7
  clear E6 E7
  go_loopw [9] (fun i wr => ∃ k : Nat, k ≤ 8 * top.length ∧ i = .int .i64 k ∧ Elt3 wr q6 (acc dE p (bitOf top) k).1 (acc dE p (bitOf top) k).2.1 (acc dE p (bitOf top) k).2.2 ∧ wr.there q6 0 48 ∧ Elt3 wr q7 (stp dE p k).1 (stp dE p k).2.1 (stp dE p k).2.2 ∧ wr.there q7 0 48 ∧ Elt wr q5 0 dE ∧ Own wr gT aT .u8 top ∧ wr.there (w.heap.size + 1) 0 48 ∧ Below w.heap.size w wr) (fun i _ => 8 * top.length - (intOf i).toNat)
  case atStart => exact ⟨0, Nat.zero_le _, rfl, E6', T6, E7', T7, E5, oT, TR, N⟩
  case round =>
    clear E6' E7' T6 T7 E5 oT TR N
    obtain ⟨k, hk, rfl, E6, T6, E7, T7, E5, oT, TR, N⟩ := hrel
    by_cases hlt : k < 8 * top.length
    · have k5 : (k : Int) < (top.length : Int) * 8 := by omega
      obtain ⟨j, hj⟩ : ∃ j : Nat, k / 8 = j := ⟨_, rfl⟩
      obtain ⟨m, hm⟩ : ∃ m : Nat, k % 8 = m := ⟨_, rfl⟩
      have p1 : (k : Int) / 8 = (j : Int) := by omega
      have p3 : (k : Int) % 8 = (m : Int) := by omega
      have p4 : m ≤ 7 := by omega
      have DG := l1Digit_any wr gT aT cT top (j : Int) oT.rd TB (by omega) (by omega) (by omega)
      rw [Int.toNat_natCast] at DG
      have BT : Hid (bitOf top k = dig top j / 2 ^ m % 2) := by show _ = _; unfold bitOf; rw [hj, hm]
      have xb := dig_byt TB j
      have pm := p2pos m
      have v0 : 0 ≤ dig top j / 2 ^ m := Int.ediv_nonneg xb.1 (by omega)
      have v1 : dig top j / 2 ^ m < 256 := Int.lt_of_le_of_lt (Int.ediv_le_self _ xb.1) (by omega)
      have e1 := and1 _ v0 v1
      generalize dig top j = x at *
      clear hj hm
      have AC := hide (show acc dE p (bitOf top) (k + 1) = if bitOf top k = 1 then wsum (acc dE p (bitOf top) k) (stp dE p k) dE else acc dE p (bitOf top) k from rfl)
      have ST := hide (show stp dE p (k + 1) = wsum (stp dE p k) (stp dE p k) dE from rfl)
      obtain ⟨ac, hac⟩ : ∃ c, c = acc dE p (bitOf top) k := ⟨_, rfl⟩
      obtain ⟨st, hst⟩ : ∃ c, c = stp dE p k := ⟨_, rfl⟩
      rw [← hac] at E6 AC
      rw [← hst] at E7 ST AC
      clear hac hst
      by_cases hbit : x / 2 ^ m % 2 = 1
      · have tb1 : (x / 2 ^ m % 2 == 1) = true := by simp [hbit]
        have AC' := hide (AC.out.trans (if_pos (BT.out.trans hbit)))
        clear AC BT hbit
        go_upto_region 9 with (go_at_call 111; refine DG.mono ?_; rintro r w' ⟨rfl, rfl⟩)
        clear DG
        refine region_put48 4 3 6 45 _ (fun i => [E3 (ac.1) (ac.2.1) (ac.2.2), E3 (st.1) (st.2.1) (st.2.2), EL (dE), E3 (wX (ac.1) (ac.2.1) (ac.2.2) (st.1) (st.2.1) (st.2.2) (dE)) (wY (ac.1) (ac.2.1) (ac.2.2) (st.1) (st.2.1) (st.2.2) (dE)) (wZ (ac.1) (ac.2.1) (ac.2.2) (st.1) (st.2.1) (st.2.2) (dE))].getD i Fact.no) (wX (ac.1) (ac.2.1) (ac.2.2) (st.1) (st.2.1) (st.2.2) (dE)) (wY (ac.1) (ac.2.1) (ac.2.2) (st.1) (st.2.1) (st.2.2) (dE)) (wZ (ac.1) (ac.2.1) (ac.2.2) (st.1) (st.2.1) (st.2.2) (dE)) _ (by kernel_rfl) rfl rfl rfl (by kernel_rfl) rfl T6 (by kernel_rfl) rfl ?_ ?_
        · intro i hi
          obtain rfl | rfl | rfl | rfl : i = 0 ∨ i = 1 ∨ i = 2 ∨ i = 3 := by omega
          · exact step_e3 rfl 6 rfl (by kernel_rfl) _ rfl E6 rfl
          · exact step_e3 rfl 7 rfl (by kernel_rfl) _ rfl E7 rfl
          · exact step_el rfl 52 5 rfl Go.Proofs.YthapcapiiknjdaaDoor.u50 i50 (by kernel_rfl) _ _ rfl _ E5 rfl
          · exact step_sum rfl 42 43 44 0 1 2 _ _ _ _ _ _ _ rfl (by kernel_rfl) (by kernel_rfl) (by kernel_rfl) rfl rfl rfl rfl
        intro vs9 Wa w9 na bq E6n T6n nb
        replace N := nb w w.heap.size (nxt N na) (by omega)
        replace E7 := E7.but bq (by omega)
        replace T7 := there_but (by omega) T7 bq (by omega)
        replace E5 := E5.but bq (by omega)
        replace oT := oT.butQ bq (fun _ => by omega)
        replace TR := there_but (by omega) TR bq (by omega)
        clear na bq nb E6 T6
        simp only [puts, Act.put, List.setIfInBounds_toArray, List.set_cons_succ, List.set_cons_zero]
        go_upto_region 10 with fail
        refine region_put48 4 3 7 49 _ (fun i => [E3 (st.1) (st.2.1) (st.2.2), E3 (st.1) (st.2.1) (st.2.2), EL (dE), E3 (wX (st.1) (st.2.1) (st.2.2) (st.1) (st.2.1) (st.2.2) (dE)) (wY (st.1) (st.2.1) (st.2.2) (st.1) (st.2.1) (st.2.2) (dE)) (wZ (st.1) (st.2.1) (st.2.2) (st.1) (st.2.1) (st.2.2) (dE))].getD i Fact.no) (wX (st.1) (st.2.1) (st.2.2) (st.1) (st.2.1) (st.2.2) (dE)) (wY (st.1) (st.2.1) (st.2.2) (st.1) (st.2.1) (st.2.2) (dE)) (wZ (st.1) (st.2.1) (st.2.2) (st.1) (st.2.1) (st.2.2) (dE)) _ (by kernel_rfl) rfl rfl rfl (by kernel_rfl) rfl T7 (by kernel_rfl) rfl ?_ ?_
        · intro i hi
          obtain rfl | rfl | rfl | rfl : i = 0 ∨ i = 1 ∨ i = 2 ∨ i = 3 := by omega
          · exact step_e3 rfl 7 rfl (by kernel_rfl) _ rfl E7 rfl
          · exact step_e3 rfl 7 rfl (by kernel_rfl) _ rfl E7 rfl
          · exact step_el rfl 52 5 rfl Go.Proofs.YthapcapiiknjdaaDoor.u50 i50 (by kernel_rfl) _ _ rfl _ E5 rfl
          · exact step_sum rfl 46 47 48 0 1 2 _ _ _ _ _ _ _ rfl (by kernel_rfl) (by kernel_rfl) (by kernel_rfl) rfl rfl rfl rfl
        intro vs10 Wb w10 na bq E7n T7n nb
        replace N := nb w w.heap.size (nxt N na) (by omega)
        replace E6n := E6n.but bq (by omega)
        replace T6n := there_but (by omega) T6n bq (by omega)
        replace E5 := E5.but bq (by omega)
        replace oT := oT.butQ bq (fun _ => by omega)
        replace TR := there_but (by omega) TR bq (by omega)
        clear na bq nb E7 T7
        simp only [puts, Act.put, List.setIfInBounds_toArray, List.set_cons_succ, List.set_cons_zero]
        go_wp2
        go_roundw
        case rel => exact ⟨k + 1, by omega, by go_num, by rw [AC'.out]; exact E6n, T6n, by rw [ST.out]; exact E7n, T7n, E5, oT, TR, N⟩
        case measure => simp [intOf]; omega
      · have tb1 : (x / 2 ^ m % 2 == 1) = false := by simp [hbit]
        have AC' := hide (AC.out.trans (if_neg (fun h => hbit (BT.out.symm.trans h))))
        clear AC BT hbit
        go_upto_region 10 with (go_at_call 111; refine DG.mono ?_; rintro r w' ⟨rfl, rfl⟩)
        clear DG
        refine region_put48 4 3 7 49 _ (fun i => [E3 (st.1) (st.2.1) (st.2.2), E3 (st.1) (st.2.1) (st.2.2), EL (dE), E3 (wX (st.1) (st.2.1) (st.2.2) (st.1) (st.2.1) (st.2.2) (dE)) (wY (st.1) (st.2.1) (st.2.2) (st.1) (st.2.1) (st.2.2) (dE)) (wZ (st.1) (st.2.1) (st.2.2) (st.1) (st.2.1) (st.2.2) (dE))].getD i Fact.no) (wX (st.1) (st.2.1) (st.2.2) (st.1) (st.2.1) (st.2.2) (dE)) (wY (st.1) (st.2.1) (st.2.2) (st.1) (st.2.1) (st.2.2) (dE)) (wZ (st.1) (st.2.1) (st.2.2) (st.1) (st.2.1) (st.2.2) (dE)) _ (by kernel_rfl) rfl rfl rfl (by kernel_rfl) rfl T7 (by kernel_rfl) rfl ?_ ?_
        · intro i hi
          obtain rfl | rfl | rfl | rfl : i = 0 ∨ i = 1 ∨ i = 2 ∨ i = 3 := by omega
          · exact step_e3 rfl 7 rfl (by kernel_rfl) _ rfl E7 rfl
          · exact step_e3 rfl 7 rfl (by kernel_rfl) _ rfl E7 rfl
          · exact step_el rfl 52 5 rfl Go.Proofs.YthapcapiiknjdaaDoor.u50 i50 (by kernel_rfl) _ _ rfl _ E5 rfl
          · exact step_sum rfl 46 47 48 0 1 2 _ _ _ _ _ _ _ rfl (by kernel_rfl) (by kernel_rfl) (by kernel_rfl) rfl rfl rfl rfl
        intro vs10 Wb w10 na bq E7n T7n nb
        replace N := nb w w.heap.size (nxt N na) (by omega)
        replace E6 := E6.but bq (by omega)
        replace T6 := there_but (by omega) T6 bq (by omega)
        replace E5 := E5.but bq (by omega)
        replace oT := oT.butQ bq (fun _ => by omega)
        replace TR := there_but (by omega) TR bq (by omega)
        clear na bq nb E7 T7
        simp only [puts, Act.put, List.setIfInBounds_toArray, List.set_cons_succ, List.set_cons_zero]
        go_wp2
        go_roundw
        case rel => exact ⟨k + 1, by omega, by go_num, by rw [AC'.out]; exact E6, T6, by rw [ST.out]; exact E7n, T7n, E5, oT, TR, N⟩
        case measure => simp [intOf]; omega
    · obtain rfl : k = 8 * top.length := by omega
      have k5 : decide (((8 * top.length : Nat) : Int) < (top.length : Int) * 8) = false := by simp; omega
      obtain ⟨ac, hac⟩ : ∃ c, c = acc dE p (bitOf top) (8 * top.length) := ⟨_, rfl⟩
      rw [← hac] at E6
      have HAC := hide hac
      clear hac
      go_upto_region 11 with fail
      refine region_put48 1 0 4 50 _ (fun i => [E3 (ac.1) (ac.2.1) (ac.2.2)].getD i Fact.no) (ac.1) (ac.2.1) (ac.2.2) _ (by kernel_rfl) rfl rfl rfl (by kernel_rfl) rfl TR (by kernel_rfl) rfl ?_ ?_
      · intro i hi
        obtain rfl : i = 0 := by omega
        exact step_e3 rfl 6 rfl (by kernel_rfl) _ rfl E6 rfl
      intro vs11 Wb w11 na bq E4n T4n nb
      have NS := nb w w.heap.size (nxt N na) (by omega)
      clear na bq nb E6 E7 T6 T7 E5 oT TR N T4n
      simp only [puts, Act.put, List.setIfInBounds_toArray, List.set_cons_succ, List.set_cons_zero]
      obtain ⟨x, y, z, rg, _, hx, hy, hz⟩ := E4n
      have lz : (c48 x y z).length = 48 := c48_len x y z
      go_wp2
      obtain ⟨fs, hfs⟩ := u144
      exact bodyPost_ret (v := ag48 x y z) (results_cell_mid Tryd.results73 _ _ (w.heap.size + 1) (c48 x y z) _ rfl rg hfs rfl (by rw [lz]; exact i144)) rfl ⟨top, ac, x, y, z, HC.out, by rw [HAC.out, hp], rfl, hx, hy, hz, NS⟩
end Go.Proofs.YthapcapiiknjdaaDoor

/-
  Points over a common denominator: the model's sums and multiples are those of the curve's group. Numbers alone.
-/
namespace Go.Proofs.YthapcapiiknjdaaDoor
set_option maxRecDepth 100000

/-- (X, Y, Z) stands for the point q. -/
structure Pj (t : W3) (q : Int × Int) : Prop where
  z : ¬ PP ∣ t.2.2
  x : PP ∣ t.1 - q.1 * t.2.2
  y : PP ∣ t.2.1 - q.2 * t.2.2
theorem Pj.cg {t : W3} {q q' : Int × Int} (h : Pj t q) (e : Pe PP q q') : Pj t q' :=
  ⟨h.z, dv2 h.x e.1 (c1 := 1) (c2 := t.2.2) (by grind), dv2 h.y e.2 (c1 := 1) (c2 := t.2.2) (by grind)⟩
theorem Pj.one (q : Int × Int) : Pj (q.1, q.2, 1) q := ⟨pri_PP.one, ⟨0, by simp⟩, ⟨0, by simp⟩⟩
theorem dE_is : PP ∣ dE - d0 := by
  have h : PP ∣ einv 121666 * 121666 - 1 := einv_ok 121666 (by decide)
  have k : PP ∣ 121666 * d0 + 121665 := by decide +kernel
  have n : ¬ PP ∣ 121666 := by decide
  have e : dE = (0 - 121665) * einv 121666 := rfl
  rw [e]
  generalize einv 121666 = f at *
  exact cancel pri_PP n (dv2 h k (c1 := -121665) (c2 := -1) (by grind))
section
variable {X Y Z X' Y' Z' D A B C A' B' C' E : Int}
theorem wA_cg (hZ : Z % PP = C % PP) (hZ' : Z' % PP = C' % PP) : wA Z Z' % PP = wA C C' % PP := mod_mul hZ hZ'
theorem wF_cg (hX : X % PP = A % PP) (hY : Y % PP = B % PP) (hX' : X' % PP = A' % PP) (hY' : Y' % PP = B' % PP) (hD : D % PP = E % PP) : wF X Y X' Y' D % PP = wF A B A' B' E % PP :=
  mod_mul hD (mod_mul (mod_mul hX hX') (mod_mul hY hY'))
theorem wL_cg (hX : X % PP = A % PP) (hY : Y % PP = B % PP) (hZ : Z % PP = C % PP) (hX' : X' % PP = A' % PP) (hY' : Y' % PP = B' % PP) (hZ' : Z' % PP = C' % PP) (hD : D % PP = E % PP) : wL X Y Z X' Y' Z' D % PP = wL A B C A' B' C' E % PP :=
  mod_sub (mod_mul (wA_cg hZ hZ') (wA_cg hZ hZ')) (wF_cg hX hY hX' hY' hD)
theorem wM_cg (hX : X % PP = A % PP) (hY : Y % PP = B % PP) (hZ : Z % PP = C % PP) (hX' : X' % PP = A' % PP) (hY' : Y' % PP = B' % PP) (hZ' : Z' % PP = C' % PP) (hD : D % PP = E % PP) : wM X Y Z X' Y' Z' D % PP = wM A B C A' B' C' E % PP :=
  mod_add (mod_mul (wA_cg hZ hZ') (wA_cg hZ hZ')) (wF_cg hX hY hX' hY' hD)
theorem wX_cg (hX : X % PP = A % PP) (hY : Y % PP = B % PP) (hZ : Z % PP = C % PP) (hX' : X' % PP = A' % PP) (hY' : Y' % PP = B' % PP) (hZ' : Z' % PP = C' % PP) (hD : D % PP = E % PP) : wX X Y Z X' Y' Z' D % PP = wX A B C A' B' C' E % PP :=
  mod_mul (mod_mul (wA_cg hZ hZ') (wL_cg hX hY hZ hX' hY' hZ' hD)) (mod_sub (mod_sub (mod_mul (mod_add hX hY) (mod_add hX' hY')) (mod_mul hX hX')) (mod_mul hY hY'))
theorem wY_cg (hX : X % PP = A % PP) (hY : Y % PP = B % PP) (hZ : Z % PP = C % PP) (hX' : X' % PP = A' % PP) (hY' : Y' % PP = B' % PP) (hZ' : Z' % PP = C' % PP) (hD : D % PP = E % PP) : wY X Y Z X' Y' Z' D % PP = wY A B C A' B' C' E % PP :=
  mod_mul (mod_mul (wA_cg hZ hZ') (wM_cg hX hY hZ hX' hY' hZ' hD)) (mod_add (mod_mul hY hY') (mod_mul hX hX'))
theorem wZ_cg (hX : X % PP = A % PP) (hY : Y % PP = B % PP) (hZ : Z % PP = C % PP) (hX' : X' % PP = A' % PP) (hY' : Y' % PP = B' % PP) (hZ' : Z' % PP = C' % PP) (hD : D % PP = E % PP) : wZ X Y Z X' Y' Z' D % PP = wZ A B C A' B' C' E % PP :=
  mod_mul (wL_cg hX hY hZ hX' hY' hZ' hD) (wM_cg hX hY hZ hX' hY' hZ' hD)
end
section
variable {x y x' y' Z Z' d : Int}
theorem wX_is : wX (x * Z) (y * Z) Z (x' * Z') (y' * Z') Z' d = (Z * Z') ^ 4 * (1 - d * x * x' * y * y') * (x * y' + y * x') := by
  unfold wX wL wF wA
  grind
theorem wY_is : wY (x * Z) (y * Z) Z (x' * Z') (y' * Z') Z' d = (Z * Z') ^ 4 * (1 + d * x * x' * y * y') * (y * y' + x * x') := by
  unfold wY wM wF wA
  grind
theorem wZ_is : wZ (x * Z) (y * Z) Z (x' * Z') (y' * Z') Z' d = (Z * Z') ^ 4 * (1 - d * x * x' * y * y') * (1 + d * x * x' * y * y') := by
  unfold wZ wL wM wF wA
  grind
end
/-- Sums. -/
theorem pj_sum {t u : W3} {p q : Int × Int} {D : Int} (hD : PP ∣ D - d0) (hp : OnP PP (-1) d0 p) (hq : OnP PP (-1) d0 q) (ht : Pj t p) (hu : Pj u q) : Pj (wsum t u D) (eadd (-1) d0 einv p q) := by
  obtain ⟨X, Y, Z⟩ := t
  obtain ⟨X', Y', Z'⟩ := u
  have sm := eadd_sm crv1 hp hq
  have c1 := crv1.cpl.p hp hq
  have c2 := crv1.cpl.q hp hq
  generalize eadd (-1) d0 einv p q = r at *
  obtain ⟨x, y⟩ := p
  obtain ⟨x', y'⟩ := q
  obtain ⟨hz, hx, hy⟩ := ht
  obtain ⟨hz', hx', hy'⟩ := hu
  simp only at hz hx hy hz' hx' hy' c1 c2
  have s1 := sm.x
  have s2 := sm.y
  simp only at s1 s2
  have kX := wX_cg (cong_dvd hx) (cong_dvd hy) (rfl : Z % PP = Z % PP) (cong_dvd hx') (cong_dvd hy') (rfl : Z' % PP = Z' % PP) (cong_dvd hD)
  have kY := wY_cg (cong_dvd hx) (cong_dvd hy) (rfl : Z % PP = Z % PP) (cong_dvd hx') (cong_dvd hy') (rfl : Z' % PP = Z' % PP) (cong_dvd hD)
  have kZ := wZ_cg (cong_dvd hx) (cong_dvd hy) (rfl : Z % PP = Z % PP) (cong_dvd hx') (cong_dvd hy') (rfl : Z' % PP = Z' % PP) (cong_dvd hD)
  rw [wX_is] at kX
  rw [wY_is] at kY
  rw [wZ_is] at kZ
  have jX := dvd_cong kX
  have jY := dvd_cong kY
  have jZ := dvd_cong kZ
  clear kX kY kZ sm
  show Pj (wX X Y Z X' Y' Z' D, wY X Y Z X' Y' Z' D, wZ X Y Z X' Y' Z' D) r
  generalize wX X Y Z X' Y' Z' D = WX at *
  generalize wY X Y Z X' Y' Z' D = WY at *
  generalize wZ X Y Z X' Y' Z' D = WZ at *
  have nA : ¬ PP ∣ (Z * Z') ^ 4 := nz_pow pri_PP (nz_mul pri_PP hz hz') 4
  clear hD hp hq
  generalize d0 = d at *
  generalize (Z * Z') ^ 4 = W at *
  generalize d * x * x' * y * y' = T at *
  refine ⟨fun k => ?_, ?_, ?_⟩
  · have : PP ∣ W * (1 - T) * (1 + T) := dv2 k jZ (c1 := 1) (c2 := -1) (by show _ = _; grind)
    exact nz_mul pri_PP (nz_mul pri_PP nA c2) c1 this
  · exact dv3 jX jZ s1 (c1 := 1) (c2 := -r.1) (c3 := -(W * (1 - T))) (by show _ = _; grind)
  · exact dv3 jY jZ s2 (c1 := 1) (c2 := -r.2) (c3 := -(W * (1 + T))) (by show _ = _; grind)
/-- The steps are the doubled points, what is gathered the multiples. -/
theorem stp_ok {p : Int × Int} (hp : OnP PP (-1) d0 p) : ∀ i, Pj (stp dE (p.1, p.2, 1) i) (emul (-1) d0 einv (2 ^ i) p)
  | 0 => (Pj.one p).cg ((eadd_comm crv1 zero_on hp).trans (eadd_zero crv1 hp)).symm
  | i + 1 => by
    have h := stp_ok hp i
    have on := emul_on crv1 hp (2 ^ i)
    have e : Pe PP (eadd (-1) d0 einv (emul (-1) d0 einv (2 ^ i) p) (emul (-1) d0 einv (2 ^ i) p)) (emul (-1) d0 einv (2 ^ (i + 1)) p) := by
      rw [show 2 ^ (i + 1) = 2 ^ i + 2 ^ i by rw [Nat.pow_succ]; omega]
      exact (emul_add crv1 hp (2 ^ i) (2 ^ i)).symm
    exact (pj_sum dE_is on on h h).cg e
/-- The number of the lowest n bits. -/
def lowN (b : Nat → Int) : Nat → Nat
  | 0 => 0
  | n + 1 => lowN b n + if b n = 1 then 2 ^ n else 0
theorem acc_ok {p : Int × Int} (hp : OnP PP (-1) d0 p) (b : Nat → Int) : ∀ i, Pj (acc dE (p.1, p.2, 1) b i) (emul (-1) d0 einv (lowN b i) p)
  | 0 => Pj.one (0, 1)
  | i + 1 => by
    have h := acc_ok hp b i
    have g := stp_ok hp i
    show Pj (if b i = 1 then wsum (acc dE (p.1, p.2, 1) b i) (stp dE (p.1, p.2, 1) i) dE else acc dE (p.1, p.2, 1) b i) (emul (-1) d0 einv (lowN b i + if b i = 1 then 2 ^ i else 0) p)
    by_cases c : b i = 1
    · rw [if_pos c, if_pos c]
      exact (pj_sum dE_is (emul_on crv1 hp _) (emul_on crv1 hp _) h g).cg (emul_add crv1 hp _ _).symm
    · rw [if_neg c, if_neg c, Nat.add_zero]
      exact h
/-- The bits of a number told in bytes, the highest first. -/
theorem low_bits {top : List Int} (hb : Byt top) {v : Nat} (hv : bval top = (v : Int)) : ∀ n, lowN (bitOf top) n = v % 2 ^ n
  | 0 => by simp [lowN, Nat.mod_one]
  | n + 1 => by
    have ih := low_bits hb hv n
    have e := bbit hb n
    have k : bitOf top n = ((v / 2 ^ n % 2 : Nat) : Int) := by
      unfold bitOf
      rw [← e, hv]
      simp
    rw [lowN, ih, k, Nat.pow_succ, Nat.mod_mul]
    rcases (show v / 2 ^ n % 2 = 0 ∨ v / 2 ^ n % 2 = 1 by omega) with z | z <;> rw [z] <;> simp
theorem low_all {top : List Int} (hb : Byt top) {v : Nat} (hv : bval top = (v : Int)) : lowN (bitOf top) (8 * top.length) = v := by
  rw [low_bits hb hv]
  refine Nat.mod_eq_of_lt ?_
  have h := bval_lt hb
  rw [hv] at h
  have e : (256 : Int) ^ top.length = ((2 ^ (8 * top.length) : Nat) : Int) := by
    rw [Nat.pow_mul]
    simp
  rw [e] at h
  omega
/-- What is told of a point over a common denominator. -/
theorem pj_plain {t : W3} {q : Int × Int} (h : Pj t q) : t.1 * iv t.2.2 % PP = q.1 % PP ∧ t.2.1 * iv t.2.2 % PP = q.2 % PP := by
  have hi := einv_ok _ h.z
  have e : iv t.2.2 = einv t.2.2 := rfl
  have hx := h.x
  have hy := h.y
  rw [e]
  generalize einv t.2.2 = f at *
  generalize t.2.2 = Z at *
  exact ⟨cong_dvd (dv2 hx hi (c1 := f) (c2 := q.1) (by grind)), cong_dvd (dv2 hy hi (c1 := f) (c2 := q.2) (by grind))⟩
/-- A valid point lies on the curve. -/
theorem valid_on {x y : Int} (h : validN x y = true) : OnP PP (-1) d0 (x, y) := by
  have e := dvd_cong (of_decide_eq_true h)
  have k := dE_is
  show PP ∣ (-1) * x ^ 2 + y ^ 2 - 1 - d0 * x ^ 2 * y ^ 2
  generalize dE = D at *
  generalize d0 = d at *
  exact dv2 e k (c1 := 1) (c2 := x ^ 2 * y ^ 2) (by grind)
theorem on_valid {x y : Int} (h : OnP PP (-1) d0 (x, y)) : validN x y = true := by
  have e : PP ∣ (-1) * x ^ 2 + y ^ 2 - 1 - d0 * x ^ 2 * y ^ 2 := h
  have k := dE_is
  refine decide_eq_true (cong_dvd ?_)
  generalize dE = D at *
  generalize d0 = d at *
  exact dv2 e k (c1 := 1) (c2 := -(x ^ 2 * y ^ 2)) (by grind)
/-- The first coordinate on the ladder's curve. -/
def toU (y : Int) : Int := (1 + y) * iv (1 - y) % PP
theorem iv_zero {z : Int} (h : PP ∣ z) : iv z % PP = 0 := zpow h
/-- A point scaled and taken to the ladder's curve is the ladder of the point taken there. -/
theorem ladder_of_points {p : Int × Int} (hp : OnP PP (-1) d0 p) {K : Nat} (hK : Clp K) : toU (emul (-1) d0 einv K p).2 = L (toU p.2) K := by
  have b1 : K < 2 ^ 256 := Nat.lt_trans hK.hi (by decide)
  by_cases hs : PP ∣ 1 - p.2 ∨ PP ∣ 1 + p.2
  · have z : toU p.2 = 0 := by
      unfold toU
      rcases hs with h | h
      · rw [Int.mul_emod, iv_zero h]; simp
      · rw [Int.mul_emod, PP_dvd.1 h]; simp
    have g := even_small crv1 mon1 hp hs (K := K) (by have := hK.ev; omega)
    rw [z, L_zero hK (Int.dvd_zero _)]
    unfold toU
    rw [Int.mul_emod, iv_zero (dv2 g.2 g.2 (c1 := -1) (c2 := 0) (by grind))]
    simp
  · have n1 : ¬ PP ∣ 1 - p.2 := fun h => hs (Or.inl h)
    have n2 : ¬ PP ∣ 1 + p.2 := fun h => hs (Or.inr h)
    have hi := einv_ok _ n1
    have hm : PP ∣ toU p.2 - (1 + p.2) * einv (1 - p.2) := dvd_cong (Int.emod_emod_of_dvd _ (Int.dvd_refl _))
    have hr : Rep PP 1 (toU p.2, 1) p.2 := by
      refine ⟨?_, fun k => pri_PP.one k.2⟩
      show PP ∣ toU p.2 * (1 - p.2) - 1 * 1 * (1 + p.2)
      generalize toU p.2 = m at *
      generalize einv (1 - p.2) = f at *
      exact dv2 hm hi (c1 := 1 - p.2) (c2 := 1 + p.2) (by grind)
    have nu : ¬ PP ∣ toU p.2 := fun k => by
      have : PP ∣ 1 + p.2 := dv2 hr.1 k (c1 := -1) (c2 := 1 - p.2) (by show _ = _; grind)
      exact n2 this
    obtain ⟨u, v, R, e⟩ := L_rep crv1 mon1 hp hr nu b1
    rw [e]
    generalize (emul (-1) d0 einv K p).2 = y at *
    have R2 : Rep PP 1 (1 + y, 1 - y) y := by
      refine ⟨⟨0, ?_⟩, fun k => pri_PP.two (dv2 k.1 k.2 (c1 := 1) (c2 := 1) (by show _ = _; grind))⟩
      show (1 + y) * (1 - y) - 1 * (1 - y) * (1 + y) = PP * 0
      grind
    exact end_same (Or.inl rfl) R2 R ⟨0, by omega⟩
end Go.Proofs.YthapcapiiknjdaaDoor

/-
  Extended coordinates: the program's sums and doublings are those of the curve's group. Numbers alone.
-/
namespace Go.Proofs.YthapcapiiknjdaaDoor
set_option maxRecDepth 100000

/-- (X, Y, Z) stands for the point q, and T is X Y / Z. -/
structure Ex (X Y Z T : Int) (q : Int × Int) : Prop where
  z : ¬ PP ∣ Z
  x : PP ∣ X - q.1 * Z
  y : PP ∣ Y - q.2 * Z
  t : PP ∣ T - q.1 * q.2 * Z
theorem Ex.cg {X Y Z T : Int} {q q' : Int × Int} (h : Ex X Y Z T q) (e : Pe PP q q') : Ex X Y Z T q' := by
  obtain ⟨e1, e2⟩ := e
  obtain ⟨hz, hx, hy, ht⟩ := h
  exact ⟨hz, dv2 hx e1 (c1 := 1) (c2 := Z) (by grind), dv2 hy e2 (c1 := 1) (c2 := Z) (by grind), dv3 ht e1 e2 (c1 := 1) (c2 := q.2 * Z) (c3 := q'.1 * Z) (by grind)⟩
/-- A point by two ratios. -/
theorem ex_ratios {a b c d : Int} {r : Int × Int} (nb : ¬ PP ∣ b) (nd : ¬ PP ∣ d) (h1 : PP ∣ a - r.1 * b) (h2 : PP ∣ c - r.2 * d) : Ex (a * d) (c * b) (b * d) (a * c) r :=
  ⟨nz_mul pri_PP nb nd, dv2 h1 h2 (c1 := d) (c2 := 0) (by grind), dv2 h1 h2 (c1 := 0) (c2 := b) (by grind), dv2 h1 h2 (c1 := c) (c2 := r.1 * b) (by grind)⟩
theorem Ex.pj {X Y Z T : Int} {q : Int × Int} (h : Ex X Y Z T q) : Pj (X, Y, Z) q := ⟨h.z, h.x, h.y⟩
theorem ex_one (q : Int × Int) : Ex q.1 q.2 1 (q.1 * q.2) q := ⟨pri_PP.one, ⟨0, by simp⟩, ⟨0, by simp⟩, ⟨0, by simp⟩⟩

def xaS (X Y X' Y' : Int) : Int := (Y + X) * (Y' + X') - (Y - X) * (Y' - X')
def yaS (X Y X' Y' : Int) : Int := (Y + X) * (Y' + X') + (Y - X) * (Y' - X')
def xbS (Z T Z' T' D : Int) : Int := (Z * Z' + Z * Z') + (T * T' * D + T * T' * D)
def ybS (Z T Z' T' D : Int) : Int := (Z * Z' + Z * Z') - (T * T' * D + T * T' * D)

theorem ex_sum {X Y Z T X' Y' Z' T' D : Int} {p q : Int × Int} (hD : PP ∣ D - d0) (hp : OnP PP (-1) d0 p) (hq : OnP PP (-1) d0 q) (ht : Ex X Y Z T p) (hu : Ex X' Y' Z' T' q) :
    Ex (xaS X Y X' Y' * ybS Z T Z' T' D) (yaS X Y X' Y' * xbS Z T Z' T' D) (xbS Z T Z' T' D * ybS Z T Z' T' D) (xaS X Y X' Y' * yaS X Y X' Y') (eadd (-1) d0 einv p q) := by
  have sm := eadd_sm crv1 hp hq
  have c1 := crv1.cpl.p hp hq
  have c2 := crv1.cpl.q hp hq
  generalize eadd (-1) d0 einv p q = r at *
  obtain ⟨x, y⟩ := p
  obtain ⟨x', y'⟩ := q
  obtain ⟨hz, hx, hy, hT⟩ := ht
  obtain ⟨hz', hx', hy', hT'⟩ := hu
  simp only at hz hx hy hT hz' hx' hy' hT' c1 c2
  have s1 := sm.x
  have s2 := sm.y
  simp only at s1 s2
  clear sm hp hq
  have n2 : ¬ PP ∣ 2 * (Z * Z') := nz_mul pri_PP pri_PP.two (nz_mul pri_PP hz hz')
  have kT : PP ∣ T * T' * D - Z * Z' * (d0 * x * x' * y * y') := dv3 hT hT' hD (c1 := T' * D) (c2 := x * y * Z * D) (c3 := x * y * Z * (x' * y' * Z')) (by grind)
  have k1 : PP ∣ X * Y' - Z * Z' * (x * y') := dv2 hx hy' (c1 := Y') (c2 := x * Z) (by grind)
  have k2 : PP ∣ Y * X' - Z * Z' * (y * x') := dv2 hy hx' (c1 := X') (c2 := y * Z) (by grind)
  have k3 : PP ∣ Y * Y' - Z * Z' * (y * y') := dv2 hy hy' (c1 := Y') (c2 := y * Z) (by grind)
  have k4 : PP ∣ X * X' - Z * Z' * (x * x') := dv2 hx hx' (c1 := X') (c2 := x * Z) (by grind)
  clear hx hy hT hx' hy' hT' hD
  have j1 : PP ∣ X * Y' + Y * X' - Z * Z' * (x * y' + y * x') := dv2 k1 k2 (c1 := 1) (c2 := 1) (by grind)
  have j2 : PP ∣ Y * Y' + X * X' - Z * Z' * (y * y' + x * x') := dv2 k3 k4 (c1 := 1) (c2 := 1) (by grind)
  clear k1 k2 k3 k4
  have e1 : xbS Z T Z' T' D = 2 * (Z * Z') + 2 * (T * T' * D) := by unfold xbS; grind
  have e2 : ybS Z T Z' T' D = 2 * (Z * Z') - 2 * (T * T' * D) := by unfold ybS; grind
  have e3 : xaS X Y X' Y' = 2 * (X * Y' + Y * X') := by unfold xaS; grind
  have e4 : yaS X Y X' Y' = 2 * (Y * Y' + X * X') := by unfold yaS; grind
  have s2' : PP ∣ r.2 * (1 - d0 * x * x' * y * y') - (y * y' + x * x') := dv2 s2 s2 (c1 := 1) (c2 := 0) (by grind)
  have s1' : PP ∣ r.1 * (1 + d0 * x * x' * y * y') - (x * y' + y * x') := dv2 s1 s1 (c1 := 1) (c2 := 0) (by grind)
  clear s1 s2
  rw [e1, e2, e3, e4]
  clear e1 e2 e3 e4
  generalize T * T' * D = TT at *
  generalize d0 * x * x' * y * y' = U at *
  generalize X * Y' + Y * X' = A at *
  generalize Y * Y' + X * X' = B at *
  generalize x * y' + y * x' = s at *
  generalize y * y' + x * x' = v at *
  generalize Z * Z' = V at *
  clear hz hz'
  refine ex_ratios (fun k => ?_) (fun k => ?_) ?_ ?_
  · have : PP ∣ 2 * V * (1 + U) := dv2 k kT (c1 := 1) (c2 := -2) (by grind)
    exact nz_mul pri_PP n2 c1 this
  · have : PP ∣ 2 * V * (1 - U) := dv2 k kT (c1 := 1) (c2 := 2) (by grind)
    exact nz_mul pri_PP n2 c2 this
  · exact dv3 j1 kT s1' (c1 := 2) (c2 := -2 * r.1) (c3 := -2 * V) (by grind)
  · exact dv3 j2 kT s2' (c1 := 2) (c2 := 2 * r.2) (c3 := -2 * V) (by grind)

def xaD (X Y : Int) : Int := (X + Y) * (X + Y) - (Y * Y + X * X)
def xbD (X Y : Int) : Int := Y * Y - X * X
def yaD (X Y : Int) : Int := Y * Y + X * X
def ybD (X Y Z : Int) : Int := (Z * Z + Z * Z) - (Y * Y - X * X)
theorem ex_double {X Y Z T : Int} {p : Int × Int} (hp : OnP PP (-1) d0 p) (ht : Ex X Y Z T p) :
    Ex (xaD X Y * ybD X Y Z) (yaD X Y * xbD X Y) (xbD X Y * ybD X Y Z) (xaD X Y * yaD X Y) (eadd (-1) d0 einv p p) := by
  have sm := eadd_sm crv1 hp hp
  have c1 := crv1.cpl.p hp hp
  have c2 := crv1.cpl.q hp hp
  have on : PP ∣ (-1) * p.1 ^ 2 + p.2 ^ 2 - 1 - d0 * p.1 ^ 2 * p.2 ^ 2 := hp
  generalize eadd (-1) d0 einv p p = r at *
  obtain ⟨x, y⟩ := p
  obtain ⟨hz, hx, hy, hT⟩ := ht
  simp only at hz hx hy hT c1 c2 on
  have s1 := sm.x
  have s2 := sm.y
  simp only at s1 s2
  clear sm hp hT
  have n1 : ¬ PP ∣ Z * Z := nz_mul pri_PP hz hz
  have k1 : PP ∣ X * X - Z * Z * (x * x) := dv2 hx hx (c1 := X + x * Z) (c2 := 0) (by grind)
  have k2 : PP ∣ Y * Y - Z * Z * (y * y) := dv2 hy hy (c1 := Y + y * Z) (c2 := 0) (by grind)
  have k3 : PP ∣ X * Y - Z * Z * (x * y) := dv2 hx hy (c1 := Y) (c2 := x * Z) (by grind)
  clear hx hy hz
  have o : PP ∣ y * y - x * x - 1 - d0 * x * x * y * y := dv2 on on (c1 := 1) (c2 := 0) (by grind)
  have s2' : PP ∣ r.2 * (1 - d0 * x * x * y * y) - (y * y + x * x) := dv2 s2 s2 (c1 := 1) (c2 := 0) (by grind)
  have s1' : PP ∣ r.1 * (1 + d0 * x * x * y * y) - 2 * (x * y) := dv2 s1 s1 (c1 := 1) (c2 := 0) (by grind)
  clear on s1 s2
  have e3 : xaD X Y = 2 * (X * Y) := by unfold xaD; grind
  unfold xbD yaD ybD
  rw [e3]
  clear e3
  generalize d0 * x * x * y * y = U at *
  generalize X * Y = A at *
  generalize x * y = a at *
  generalize X * X = B at *
  generalize Y * Y = C at *
  generalize Z * Z = V at *
  generalize x * x = b at *
  generalize y * y = c at *
  have m1 : PP ∣ C - B - V * (1 + U) := dv3 k1 k2 o (c1 := -1) (c2 := 1) (c3 := V) (by grind)
  have m2 : PP ∣ V + V - (C - B) - V * (1 - U) := dv2 m1 m1 (c1 := -1) (c2 := 0) (by grind)
  have m3 : PP ∣ C + B - V * (c + b) := dv2 k1 k2 (c1 := 1) (c2 := 1) (by grind)
  refine ex_ratios (fun k => ?_) (fun k => ?_) ?_ ?_
  · exact nz_mul pri_PP n1 c1 (dv2 k m1 (c1 := 1) (c2 := -1) (by grind))
  · exact nz_mul pri_PP n1 c2 (dv2 k m2 (c1 := 1) (c2 := -1) (by grind))
  · exact dv3 k3 m1 s1' (c1 := 2) (c2 := -r.1) (c3 := -V) (by grind)
  · exact dv3 m3 m2 s2' (c1 := 1) (c2 := -r.2) (c3 := -V) (by grind)
end Go.Proofs.YthapcapiiknjdaaDoor

/-
  Scaling by digits of four bits, the highest first. Numbers alone.
-/
namespace Go.Proofs.YthapcapiiknjdaaDoor
set_option maxRecDepth 100000

/-- The digits of a number of 64 digits, the highest first, and what they make so far. -/
def dgt (v i : Nat) : Nat := v / 16 ^ (63 - i) % 16
def hdd (v i : Nat) : Nat := v / 16 ^ (64 - i)
theorem hdd_zero {v : Nat} (h : v < 2 ^ 256) : hdd v 0 = 0 := by
  unfold hdd
  refine Nat.div_eq_of_lt ?_
  rw [show (16 : Nat) ^ (64 - 0) = 2 ^ 256 by decide +kernel]
  exact h
theorem hdd_all (v : Nat) : hdd v 64 = v := by simp [hdd]
theorem hdd_next (v : Nat) {i : Nat} (h : i < 64) : hdd v (i + 1) = 16 * hdd v i + dgt v i := by
  unfold hdd dgt
  rw [show 64 - (i + 1) = 63 - i by omega, show 64 - i = (63 - i) + 1 by omega, Nat.pow_succ, ← Nat.div_div_eq_div_mul]
  omega
/-- Twice. -/
theorem emul_dbl2 {p : Int × Int} (hp : OnP PP (-1) d0 p) (n : Nat) : Pe PP (eadd (-1) d0 einv (emul (-1) d0 einv n p) (emul (-1) d0 einv n p)) (emul (-1) d0 einv (2 * n) p) := by
  rw [show 2 * n = n + n by omega]
  exact (emul_add crv1 hp n n).symm
end Go.Proofs.YthapcapiiknjdaaDoor

/-
  What the chapter's sums and the lifting of a y are, as numbers.
-/
namespace Go.Proofs.YthapcapiiknjdaaDoor
set_option maxRecDepth 100000

def addT (p q : Int × Int) : Int := dE * (p.1 * q.1 * (p.2 * q.2))
def addX (p q : Int × Int) : Int := (p.1 * q.2 + p.2 * q.1) * iv (1 + addT p q)
def addY (p q : Int × Int) : Int := (p.2 * q.2 + p.1 * q.1) * iv (1 - addT p q)
/-- The square of x as y tells it. -/
def liftZ (y : Int) : Int := (y * y - 1) * iv (dE * (y * y) + 1)
end Go.Proofs.YthapcapiiknjdaaDoor
