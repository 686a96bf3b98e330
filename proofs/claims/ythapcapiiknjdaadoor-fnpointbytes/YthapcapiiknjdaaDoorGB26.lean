import Derived.Test.YthapcapiiknjdaaDoorGB25
import Derived.Test.YthapcapiiknjdaaDoorGB22
import Derived.Test.YthapcapiiknjdaaDoorGB23

/-
  The model's l5Times.
-/
namespace Go.Proofs.YthapcapiiknjdaaDoor
set_option maxRecDepth 100000
open Go Go.RowKit

abbrev W3 : Type := Int × Int × Int
def wsum (p q : W3) (d : Int) : W3 := (wX p.1 p.2.1 p.2.2 q.1 q.2.1 q.2.2 d, wY p.1 p.2.1 p.2.2 q.1 q.2.1 q.2.2 d, wZ p.1 p.2.1 p.2.2 q.1 q.2.1 q.2.2 d)
def stp (d : Int) (p : W3) : Nat → W3
  | 0 => p
  | i + 1 => wsum (stp d p i) (stp d p i) d
def acc (d : Int) (p : W3) (b : Nat → Int) : Nat → W3
  | 0 => (0, 1, 1)
  | i + 1 => if b i = 1 then wsum (acc d p b i) (stp d p i) d else acc d p b i
/-- Bit i of a number that is told with its highest byte first. -/
def bitOf (top : List Int) (i : Nat) : Int := dig top (i / 8) / 2 ^ (i % 8) % 2
theorem Own.butQ {W W' : World} {g q : Nat} {a : Option Addr} {k : IntKind} {xs : List Int} (h : Own W g a k xs) (b : ButQ q W W') (hne : 0 < xs.length → g ≠ q) : Own W' g a k xs := fun h0 => h.of_block (b.1 g (hne h0) (h.rd.lt h0)) h0
theorem en_sum : enters Tryd.prog 112 = true := by kernel_rfl
theorem of_up {W W' : World} {a : Option Addr} {xs : List Int} (h : OfOk W a xs) (n : Below W.heap.size W W') : OfOk W' a xs := by
  obtain ⟨g, r, b, l⟩ := h
  exact ⟨g, r.up n, b, l⟩
theorem Elt.lt {W : World} {q o : Nat} {A : Int} (h : Elt W q o A) : q < W.heap.size := by
  obtain ⟨_, _, l, _⟩ := h
  exact l
section
variable {ops : Array Oper} {Q : Exit → Act → World → Prop} {md : Region.Mode} {F : Nat → Fact} {a0 : Act} {w0 : World} {i : Nat} {o : Oper} {ts : Array TypeId}
theorem step_e3 (hi : ops[i]? = some o) (p : Nat) (hop : o.op = .load 83 (.tmp p)) (hp : apart ops p = true) (q : Nat) (h0 : a0.tmps.getD p undef = .pointer (some ⟨q, 0, none⟩)) {A B C : Int} (hE : Elt3 w0 q A B C) (hF : F i = E3 A B C) : StepOk Tryd.prog md ops Q F a0 w0 i := by
  obtain ⟨fs, hfs⟩ := u144
  refine step_load hi _ _ hop _ 48 hfs rfl i144 fun a w hb hw _ => ?_
  obtain ⟨x, y, z, r, _, hx, hy, hz⟩ := hE.up hw
  exact ⟨q, 0, _, (based_at hb p hp).trans h0, r, c48_len x y z, by rw [hF]; exact ⟨x, y, z, rfl, hx, hy, hz⟩⟩
theorem step_sum (hi : ops[i]? = some o) (p q r j k l : Nat) (A B C A' B' C' D : Int) (hop : o.op = .call { callee := .value (.func 112), args := #[.tmp p, .tmp q, .tmp r], argTypes := ts })
    (hj : waits md ops i j p = true) (hk : waits md ops i k q = true) (hl : waits md ops i l r = true) (hFj : F j = E3 A B C) (hFk : F k = E3 A' B' C') (hFl : F l = EL D)
    (hFi : F i = E3 (wX A B C A' B' C' D) (wY A B C A' B' C' D) (wZ A B C A' B' C' D)) : StepOk Tryd.prog md ops Q F a0 w0 i := by
  refine step_call hi _ _ ts hop en_sum fun a w _ _ hF => ?_
  have ea := hF j p hj
  have eb := hF k q hk
  have ec := hF l r hl
  rw [hFj] at ea
  rw [hFk] at eb
  rw [hFl] at ec
  obtain ⟨x, y, z, e1, hx, hy, hz⟩ := ea
  obtain ⟨x', y', z', e2, hx', hy', hz'⟩ := eb
  obtain ⟨e, e3, he⟩ := ec
  show Calls Tryd.prog 112 #[a.tmps.getD p undef, a.tmps.getD q undef, a.tmps.getD r undef] w _
  rw [e1, e2, e3]
  refine (l5Sum_any w x y z x' y' z' e A B C A' B' C' D hx hy hz hx' hy' hz' he).mono ?_
  rintro r w' ⟨u, v, t, rfl, hu, hv, ht, hn⟩
  exact ⟨_, rfl, hn, by rw [hFi]; exact ⟨u, v, t, rfl, hu, hv, ht⟩⟩
end

set_option maxHeartbeats 4000000 in
theorem l5Times_any (w : World) (g gx gy : Nat) (a ax ay : Option Addr) (ck cx cy : Nat) (ks xs ys : List Int) (hk : Rd w g a .u8 ks) (bk : Byt ks) (lk : ks.length ≤ 4096) (hx : Rd w gx ax .u8 xs) (hy : Rd w gy ay .u8 ys) (bx : Byt xs) (by' : Byt ys) (lx : xs.length = 32) (ly : ys.length = 32) :
    Calls Tryd.prog 73 #[.slice a ks.length ck, .agg #[.slice ax xs.length cx, .slice ay ys.length cy]] w fun r w' => ∃ (top : List Int) (p : W3) (x y z : Nat → Int), Canon top (lsum (fun j => ks.getD j 0) ks.length) ∧ p = acc dE (num xs, num ys, 1) (bitOf top) (8 * top.length) ∧ r = .returned (ag48 x y z) ∧
      (L16 x ∧ s16 x 16 % PP = p.1 % PP) ∧ (L16 y ∧ s16 y 16 % PP = p.2.1 % PP) ∧ (L16 z ∧ s16 z 16 % PP = p.2.2 % PP) ∧ Below w.heap.size w w' := by
  have T := two_cells w (.slice ax xs.length cx) (.slice ay ys.length cy) 24
  have m1 : Below w.heap.size w (w.alloc (.cells #[.slice ax xs.length cx, .slice ay ys.length cy] 24)) := (Below.refl _ _).alloc (Nat.le_refl _) _
  have s1 : (w.alloc (.cells #[.slice ax xs.length cx, .slice ay ys.length cy] 24)).heap.size = w.heap.size + 1 := by simp
  obtain ⟨CX, CY⟩ := T
  have LX := hide lx
  have LY := hide ly
  clear lx ly
  go_enter Tryd.func73, Tryd.ntmps73
  go_upto_region 1 with fail
  generalize w.alloc (.cells #[.slice ax xs.length cx, .slice ay ys.length cy] 24) = wa at *
  have TR : (wa.alloc zObj48).there wa.heap.size 0 48 := there_new wa _ _
  have m2 : Below wa.heap.size wa (wa.alloc zObj48) := (Below.refl _ _).alloc (Nat.le_refl _) _
  rw [s1] at TR
  replace CX := (m2.cell (block_lt_of_cell CX)).trans CX
  replace CY := (m2.cell (block_lt_of_cell CY)).trans CY
  have N := nxt m1 m2
  obtain ⟨wr, hwr⟩ : ∃ W, W = wa.alloc zObj48 := ⟨_, rfl⟩
  rw [← hwr] at TR N CX CY
  change Code.wp _ _ _ _ (wa.alloc zObj48)
  rw [← hwr]
  clear hwr m1 m2 s1
  have RK := hk.up N
  have OX := hide (of_ok (hx.up N) bx LX.out)
  have OY := hide (of_ok (hy.up N) by' LY.out)
  clear hk hx hy
  refine region_new16 2 1 0 5 10 _ (fun i => [EL dE, NB wr 16].getD i Fact.no) (dE) (by kernel_rfl) rfl rfl rfl (by kernel_rfl) (by kernel_rfl) rfl rfl ?_ ?_
  · intro i hi
    obtain rfl | rfl : i = 0 ∨ i = 1 := by omega
    · exact step_d rfl rfl rfl
    · exact step_new16 rfl rfl rfl
  intro vs1 q5 W1 v5 h5 n1 E5 T5
  have z5 : w.heap.size + 1 < wr.heap.size := there_lt (by omega) TR
  replace CX := (n1.cell (block_lt_of_cell CX)).trans CX
  replace CY := (n1.cell (block_lt_of_cell CY)).trans CY
  replace TR := there_up (by omega) TR n1
  replace RK := RK.up n1
  replace OX := hide (of_up OX.out n1)
  replace OY := hide (of_up OY.out n1)
  replace N := nxt N n1
  have y5 := E5.lt
  clear n1 T5
  simp only [puts, v5, Act.put, List.setIfInBounds_toArray, List.set_cons_succ, List.set_cons_zero]
  clear v5
  go_upto_region 2 with fail
  refine region_new48 5 4 3 6 14 _ (fun i => [EL 0, EL 1, EL 1, E3 (0) (1) (1), NB W1 48].getD i Fact.no) (0) (1) (1) (by kernel_rfl) rfl rfl rfl (by kernel_rfl) (by kernel_rfl) rfl rfl ?_ ?_
  · intro i hi
    obtain rfl | rfl | rfl | rfl | rfl : i = 0 ∨ i = 1 ∨ i = 2 ∨ i = 3 ∨ i = 4 := by omega
    · exact step_small rfl 0 (by omega) rfl rfl
    · exact step_small rfl 1 (by omega) rfl rfl
    · exact step_small rfl 1 (by omega) rfl rfl
    · exact step_b48 rfl 11 12 13 0 1 2 _ _ _ rfl (by kernel_rfl) (by kernel_rfl) (by kernel_rfl) rfl rfl rfl rfl
    · exact step_new48 rfl rfl rfl
  intro vs2 q6 W2 v6 h6 n2 E6 T6
  replace CX := (n2.cell (block_lt_of_cell CX)).trans CX
  replace CY := (n2.cell (block_lt_of_cell CY)).trans CY
  replace TR := there_up (by omega) TR n2
  replace RK := RK.up n2
  replace OX := hide (of_up OX.out n2)
  replace OY := hide (of_up OY.out n2)
  replace E5 := E5.up n2
  replace N := nxt N n2
  have y6 := there_lt (by omega) T6
  clear n2
  simp only [puts, v6, Act.put, List.setIfInBounds_toArray, List.set_cons_succ, List.set_cons_zero]
  clear v6
  go_upto_region 3 with fail
  refine region_new48 9 8 7 7 22 _ (fun i => [Fact.eq (.pointer (some ⟨w.heap.size, 0, none⟩)), Fact.eq (.slice ax xs.length cx), EL (num xs), Fact.eq (.pointer (some ⟨w.heap.size, 1, none⟩)), Fact.eq (.slice ay ys.length cy), EL (num ys), EL 1, E3 (num xs) (num ys) (1), NB W2 48].getD i Fact.no) (num xs) (num ys) (1) (by kernel_rfl) rfl rfl rfl (by kernel_rfl) (by kernel_rfl) rfl rfl ?_ ?_
  · intro i hi
    obtain rfl | rfl | rfl | rfl | rfl | rfl | rfl | rfl | rfl : i = 0 ∨ i = 1 ∨ i = 2 ∨ i = 3 ∨ i = 4 ∨ i = 5 ∨ i = 6 ∨ i = 7 ∨ i = 8 := by omega
    · exact step_fld rfl 24 3 0 rfl (by kernel_rfl) _ _ rfl (fxP _) rfl
    · exact step_lds rfl 15 0 rfl (by kernel_rfl) _ _ rfl _ _ _ CX rfl
    · exact step_of rfl 16 1 rfl (by kernel_rfl) OX.out rfl rfl
    · exact step_fld rfl 24 3 1 rfl (by kernel_rfl) _ _ rfl (fyP _) rfl
    · exact step_lds rfl 18 3 rfl (by kernel_rfl) _ _ rfl _ _ _ CY rfl
    · exact step_of rfl 19 4 rfl (by kernel_rfl) OY.out rfl rfl
    · exact step_small rfl 1 (by omega) rfl rfl
    · exact step_b48 rfl 17 20 21 2 5 6 _ _ _ rfl (by kernel_rfl) (by kernel_rfl) (by kernel_rfl) rfl rfl rfl rfl
    · exact step_new48 rfl rfl rfl
  intro vs3 q7 Wv v7 h7 n3 E7 T7
  replace TR := there_up (by omega) TR n3
  replace RK := RK.up n3
  replace E5 := E5.up n3
  replace E6 := E6.up n3
  replace T6 := there_up (by omega) T6 n3
  replace N := nxt N n3
  have y7 := there_lt (by omega) T7
  clear n3 CX CY OX OY LX LY
  simp only [puts, v7, Act.put, List.setIfInBounds_toArray, List.set_cons_succ, List.set_cons_zero]
  clear v7
  go_wp2_with fail
  refine (l2Num_any Wv g a ck ks RK bk (by omega)).mono ?_
  rintro r W4 ⟨top, CT, lt', ⟨aT, cT, gT, rfl, oT, pT, qT, hT⟩, n4⟩
  replace TR := there_up (by omega) TR n4
  replace E5 := E5.up n4
  replace E6 := E6.up n4
  replace E7 := E7.up n4
  replace T6 := there_up (by omega) T6 n4
  replace T7 := there_up (by omega) T7 n4
  replace N := nxt N n4
  clear n4 RK
  go_wp2
  have HC := hide CT
  have TB : Byt top := CT.1
  clear CT
  have g6 : q5 < q6 := by omega
  have g7 : q6 < q7 := by omega
  have gg : q7 < gT := by omega
  have gr : w.heap.size + 1 < q5 := by omega
  have tl : top.length ≤ 4096 := by omega
  clear h5 z5 y5 h6 y6 h7 y7 hT
  obtain ⟨p, hp⟩ : ∃ p : W3, p = (num xs, num ys, 1) := ⟨_, rfl⟩
  have E6' : Elt3 W4 q6 (acc dE p (bitOf top) 0).1 (acc dE p (bitOf top) 0).2.1 (acc dE p (bitOf top) 0).2.2 := E6
  have E7' : Elt3 W4 q7 (stp dE p 0).1 (stp dE p 0).2.1 (stp dE p 0).2.2 := by rw [hp]; exact E7
  clear E6 E7
  go_loopw [9] (fun i wr => ∃ k : Nat, k ≤ 8 * top.length ∧ i = .int .i64 k ∧ Elt3 wr q6 (acc dE p (bitOf top) k).1 (acc dE p (bitOf top) k).2.1 (acc dE p (bitOf top) k).2.2 ∧ wr.there q6 0 48 ∧ Elt3 wr q7 (stp dE p k).1 (stp dE p k).2.1 (stp dE p k).2.2 ∧ wr.there q7 0 48 ∧ Elt wr q5 0 dE ∧ Own wr gT aT .u8 top ∧ wr.there (w.heap.size + 1) 0 48 ∧ Below w.heap.size w wr) (fun i _ => 8 * top.length - (intOf i).toNat)
  case atStart => exact ⟨0, Nat.zero_le _, rfl, E6', T6, E7', T7, E5, oT, TR, N⟩
  case round =>
    clear E6' E7' T6 T7 E5 oT TR N
    obtain ⟨k, hk, rfl, E6, T6, E7, T7, E5, oT, TR, N⟩ := hrel
    by_cases hlt : k < 8 * top.length
    · have k5 : (k : Int) < (top.length : Int) * 8 := by omega
      obtain ⟨j, hj⟩ : ∃ j : Nat, k / 8 = j := ⟨_, rfl⟩
      obtain ⟨m, hm⟩ : ∃ m : Nat, k % 8 = m := ⟨_, rfl⟩
      have p1 : (k : Int) / 8 = (j : Int) := by omega
      have p3 : (k : Int) % 8 = (m : Int) := by omega
      have p4 : m ≤ 7 := by omega
      have DG := l1Digit_any wr gT aT cT top (j : Int) oT.rd TB (by omega) (by omega) (by omega)
      rw [Int.toNat_natCast] at DG
      have BT : Hid (bitOf top k = dig top j / 2 ^ m % 2) := by show _ = _; unfold bitOf; rw [hj, hm]
      have xb := dig_byt TB j
      have pm := p2pos m
      have v0 : 0 ≤ dig top j / 2 ^ m := Int.ediv_nonneg xb.1 (by omega)
      have v1 : dig top j / 2 ^ m < 256 := Int.lt_of_le_of_lt (Int.ediv_le_self _ xb.1) (by omega)
      have e1 := and1 _ v0 v1
      generalize dig top j = x at *
      clear hj hm
      have AC := hide (show acc dE p (bitOf top) (k + 1) = if bitOf top k = 1 then wsum (acc dE p (bitOf top) k) (stp dE p k) dE else acc dE p (bitOf top) k from rfl)
      have ST := hide (show stp dE p (k + 1) = wsum (stp dE p k) (stp dE p k) dE from rfl)
      obtain ⟨ac, hac⟩ : ∃ c, c = acc dE p (bitOf top) k := ⟨_, rfl⟩
      obtain ⟨st, hst⟩ : ∃ c, c = stp dE p k := ⟨_, rfl⟩
      rw [← hac] at E6 AC
      rw [← hst] at E7 ST AC
      clear hac hst
      by_cases hbit : x / 2 ^ m % 2 = 1
      · have tb1 : (x / 2 ^ m % 2 == 1) = true := by simp [hbit]
        have AC' := hide (AC.out.trans (if_pos (BT.out.trans hbit)))
        clear AC BT hbit
        go_upto_region 9 with (go_at_call 111; refine DG.mono ?_; rintro r w' ⟨rfl, rfl⟩)
        clear DG
        refine region_put48 4 3 6 45 _ (fun i => [E3 (ac.1) (ac.2.1) (ac.2.2), E3 (st.1) (st.2.1) (st.2.2), EL (dE), E3 (wX (ac.1) (ac.2.1) (ac.2.2) (st.1) (st.2.1) (st.2.2) (dE)) (wY (ac.1) (ac.2.1) (ac.2.2) (st.1) (st.2.1) (st.2.2) (dE)) (wZ (ac.1) (ac.2.1) (ac.2.2) (st.1) (st.2.1) (st.2.2) (dE))].getD i Fact.no) (wX (ac.1) (ac.2.1) (ac.2.2) (st.1) (st.2.1) (st.2.2) (dE)) (wY (ac.1) (ac.2.1) (ac.2.2) (st.1) (st.2.1) (st.2.2) (dE)) (wZ (ac.1) (ac.2.1) (ac.2.2) (st.1) (st.2.1) (st.2.2) (dE)) _ (by kernel_rfl) rfl rfl rfl (by kernel_rfl) rfl T6 (by kernel_rfl) rfl ?_ ?_
        · intro i hi
          obtain rfl | rfl | rfl | rfl : i = 0 ∨ i = 1 ∨ i = 2 ∨ i = 3 := by omega
          · exact step_e3 rfl 6 rfl (by kernel_rfl) _ rfl E6 rfl
          · exact step_e3 rfl 7 rfl (by kernel_rfl) _ rfl E7 rfl
          · exact step_el rfl 52 5 rfl Go.Proofs.YthapcapiiknjdaaDoor.u50 i50 (by kernel_rfl) _ _ rfl _ E5 rfl
          · exact step_sum rfl 42 43 44 0 1 2 _ _ _ _ _ _ _ rfl (by kernel_rfl) (by kernel_rfl) (by kernel_rfl) rfl rfl rfl rfl
        intro vs9 Wa w9 na bq E6n T6n nb
        replace N := nb w w.heap.size (nxt N na) (by omega)
        replace E7 := E7.but bq (by omega)
        replace T7 := there_but (by omega) T7 bq (by omega)
        replace E5 := E5.but bq (by omega)
        replace oT := oT.butQ bq (fun _ => by omega)
        replace TR := there_but (by omega) TR bq (by omega)
        clear na bq nb E6 T6
        simp only [puts, Act.put, List.setIfInBounds_toArray, List.set_cons_succ, List.set_cons_zero]
        go_upto_region 10 with fail
        refine region_put48 4 3 7 49 _ (fun i => [E3 (st.1) (st.2.1) (st.2.2), E3 (st.1) (st.2.1) (st.2.2), EL (dE), E3 (wX (st.1) (st.2.1) (st.2.2) (st.1) (st.2.1) (st.2.2) (dE)) (wY (st.1) (st.2.1) (st.2.2) (st.1) (st.2.1) (st.2.2) (dE)) (wZ (st.1) (st.2.1) (st.2.2) (st.1) (st.2.1) (st.2.2) (dE))].getD i Fact.no) (wX (st.1) (st.2.1) (st.2.2) (st.1) (st.2.1) (st.2.2) (dE)) (wY (st.1) (st.2.1) (st.2.2) (st.1) (st.2.1) (st.2.2) (dE)) (wZ (st.1) (st.2.1) (st.2.2) (st.1) (st.2.1) (st.2.2) (dE)) _ (by kernel_rfl) rfl rfl rfl (by kernel_rfl) rfl T7 (by kernel_rfl) rfl ?_ ?_
        · intro i hi
          obtain rfl | rfl | rfl | rfl : i = 0 ∨ i = 1 ∨ i = 2 ∨ i = 3 := by omega
          · exact step_e3 rfl 7 rfl (by kernel_rfl) _ rfl E7 rfl
          · exact step_e3 rfl 7 rfl (by kernel_rfl) _ rfl E7 rfl
          · exact step_el rfl 52 5 rfl Go.Proofs.YthapcapiiknjdaaDoor.u50 i50 (by kernel_rfl) _ _ rfl _ E5 rfl
          · exact step_sum rfl 46 47 48 0 1 2 _ _ _ _ _ _ _ rfl (by kernel_rfl) (by kernel_rfl) (by kernel_rfl) rfl rfl rfl rfl
        intro vs10 Wb w10 na bq E7n T7n nb
        replace N := nb w w.heap.size (nxt N na) (by omega)
        replace E6n := E6n.but bq (by omega)
        replace T6n := there_but (by omega) T6n bq (by omega)
        replace E5 := E5.but bq (by omega)
        replace oT := oT.butQ bq (fun _ => by omega)
        replace TR := there_but (by omega) TR bq (by omega)
        clear na bq nb E7 T7
        simp only [puts, Act.put, List.setIfInBounds_toArray, List.set_cons_succ, List.set_cons_zero]
        go_wp2
        go_roundw
        case rel => exact ⟨k + 1, by omega, by go_num, by rw [AC'.out]; exact E6n, T6n, by rw [ST.out]; exact E7n, T7n, E5, oT, TR, N⟩
        case measure => simp [intOf]; omega
      · have tb1 : (x / 2 ^ m % 2 == 1) = false := by simp [hbit]
        have AC' := hide (AC.out.trans (if_neg (fun h => hbit (BT.out.symm.trans h))))
        clear AC BT hbit
        go_upto_region 10 with (go_at_call 111; refine DG.mono ?_; rintro r w' ⟨rfl, rfl⟩)
        clear DG
        refine region_put48 4 3 7 49 _ (fun i => [E3 (st.1) (st.2.1) (st.2.2), E3 (st.1) (st.2.1) (st.2.2), EL (dE), E3 (wX (st.1) (st.2.1) (st.2.2) (st.1) (st.2.1) (st.2.2) (dE)) (wY (st.1) (st.2.1) (st.2.2) (st.1) (st.2.1) (st.2.2) (dE)) (wZ (st.1) (st.2.1) (st.2.2) (st.1) (st.2.1) (st.2.2) (dE))].getD i Fact.no) (wX (st.1) (st.2.1) (st.2.2) (st.1) (st.2.1) (st.2.2) (dE)) (wY (st.1) (st.2.1) (st.2.2) (st.1) (st.2.1) (st.2.2) (dE)) (wZ (st.1) (st.2.1) (st.2.2) (st.1) (st.2.1) (st.2.2) (dE)) _ (by kernel_rfl) rfl rfl rfl (by kernel_rfl) rfl T7 (by kernel_rfl) rfl ?_ ?_
        · intro i hi
          obtain rfl | rfl | rfl | rfl : i = 0 ∨ i = 1 ∨ i = 2 ∨ i = 3 := by omega
          · exact step_e3 rfl 7 rfl (by kernel_rfl) _ rfl E7 rfl
          · exact step_e3 rfl 7 rfl (by kernel_rfl) _ rfl E7 rfl
          · exact step_el rfl 52 5 rfl Go.Proofs.YthapcapiiknjdaaDoor.u50 i50 (by kernel_rfl) _ _ rfl _ E5 rfl
          · exact step_sum rfl 46 47 48 0 1 2 _ _ _ _ _ _ _ rfl (by kernel_rfl) (by kernel_rfl) (by kernel_rfl) rfl rfl rfl rfl
        intro vs10 Wb w10 na bq E7n T7n nb
        replace N := nb w w.heap.size (nxt N na) (by omega)
        replace E6 := E6.but bq (by omega)
        replace T6 := there_but (by omega) T6 bq (by omega)
        replace E5 := E5.but bq (by omega)
        replace oT := oT.butQ bq (fun _ => by omega)
        replace TR := there_but (by omega) TR bq (by omega)
        clear na bq nb E7 T7
        simp only [puts, Act.put, List.setIfInBounds_toArray, List.set_cons_succ, List.set_cons_zero]
        go_wp2
        go_roundw
        case rel => exact ⟨k + 1, by omega, by go_num, by rw [AC'.out]; exact E6, T6, by rw [ST.out]; exact E7n, T7n, E5, oT, TR, N⟩
        case measure => simp [intOf]; omega
    · obtain rfl : k = 8 * top.length := by omega
      have k5 : decide (((8 * top.length : Nat) : Int) < (top.length : Int) * 8) = false := by simp; omega
      obtain ⟨ac, hac⟩ : ∃ c, c = acc dE p (bitOf top) (8 * top.length) := ⟨_, rfl⟩
      rw [← hac] at E6
      have HAC := hide hac
      clear hac
      go_upto_region 11 with fail
      refine region_put48 1 0 4 50 _ (fun i => [E3 (ac.1) (ac.2.1) (ac.2.2)].getD i Fact.no) (ac.1) (ac.2.1) (ac.2.2) _ (by kernel_rfl) rfl rfl rfl (by kernel_rfl) rfl TR (by kernel_rfl) rfl ?_ ?_
      · intro i hi
        obtain rfl : i = 0 := by omega
        exact step_e3 rfl 6 rfl (by kernel_rfl) _ rfl E6 rfl
      intro vs11 Wb w11 na bq E4n T4n nb
      have NS := nb w w.heap.size (nxt N na) (by omega)
      clear na bq nb E6 E7 T6 T7 E5 oT TR N T4n
      simp only [puts, Act.put, List.setIfInBounds_toArray, List.set_cons_succ, List.set_cons_zero]
      obtain ⟨x, y, z, rg, _, hx, hy, hz⟩ := E4n
      have lz : (c48 x y z).length = 48 := c48_len x y z
      go_wp2
      obtain ⟨fs, hfs⟩ := u144
      exact bodyPost_ret (v := ag48 x y z) (results_cell_mid Tryd.results73 _ _ (w.heap.size + 1) (c48 x y z) _ rfl rg hfs rfl (by rw [lz]; exact i144)) rfl ⟨top, ac, x, y, z, HC.out, by rw [HAC.out, hp], rfl, hx, hy, hz, NS⟩
end Go.Proofs.YthapcapiiknjdaaDoor

/-
  Points over a common denominator: the model's sums and multiples are those of the curve's group. Numbers alone.
-/
namespace Go.Proofs.YthapcapiiknjdaaDoor
set_option maxRecDepth 100000

/-- (X, Y, Z) stands for the point q. -/
structure Pj (t : W3) (q : Int × Int) : Prop where
  z : ¬ PP ∣ t.2.2
  x : PP ∣ t.1 - q.1 * t.2.2
  y : PP ∣ t.2.1 - q.2 * t.2.2
theorem Pj.cg {t : W3} {q q' : Int × Int} (h : Pj t q) (e : Pe PP q q') : Pj t q' :=
  ⟨h.z, dv2 h.x e.1 (c1 := 1) (c2 := t.2.2) (by grind), dv2 h.y e.2 (c1 := 1) (c2 := t.2.2) (by grind)⟩
theorem Pj.one (q : Int × Int) : Pj (q.1, q.2, 1) q := ⟨pri_PP.one, ⟨0, by simp⟩, ⟨0, by simp⟩⟩
theorem dE_is : PP ∣ dE - d0 := by
  have h : PP ∣ einv 121666 * 121666 - 1 := einv_ok 121666 (by decide)
  have k : PP ∣ 121666 * d0 + 121665 := by decide +kernel
  have n : ¬ PP ∣ 121666 := by decide
  have e : dE = (0 - 121665) * einv 121666 := rfl
  rw [e]
  generalize einv 121666 = f at *
  exact cancel pri_PP n (dv2 h k (c1 := -121665) (c2 := -1) (by grind))
section
variable {X Y Z X' Y' Z' D A B C A' B' C' E : Int}
end
section
variable {x y x' y' Z Z' d : Int}
end
/-- A valid point lies on the curve. -/
theorem valid_on {x y : Int} (h : validN x y = true) : OnP PP (-1) d0 (x, y) := by
  have e := dvd_cong (of_decide_eq_true h)
  have k := dE_is
  show PP ∣ (-1) * x ^ 2 + y ^ 2 - 1 - d0 * x ^ 2 * y ^ 2
  generalize dE = D at *
  generalize d0 = d at *
  exact dv2 e k (c1 := 1) (c2 := x ^ 2 * y ^ 2) (by grind)
theorem on_valid {x y : Int} (h : OnP PP (-1) d0 (x, y)) : validN x y = true := by
  have e : PP ∣ (-1) * x ^ 2 + y ^ 2 - 1 - d0 * x ^ 2 * y ^ 2 := h
  have k := dE_is
  refine decide_eq_true (cong_dvd ?_)
  generalize dE = D at *
  generalize d0 = d at *
  exact dv2 e k (c1 := 1) (c2 := -(x ^ 2 * y ^ 2)) (by grind)
end Go.Proofs.YthapcapiiknjdaaDoor

/-
  Extended coordinates: the program's sums and doublings are those of the curve's group. Numbers alone.
-/
namespace Go.Proofs.YthapcapiiknjdaaDoor
set_option maxRecDepth 100000

/-- (X, Y, Z) stands for the point q, and T is X Y / Z. -/
structure Ex (X Y Z T : Int) (q : Int × Int) : Prop where
  z : ¬ PP ∣ Z
  x : PP ∣ X - q.1 * Z
  y : PP ∣ Y - q.2 * Z
  t : PP ∣ T - q.1 * q.2 * Z
theorem Ex.cg {X Y Z T : Int} {q q' : Int × Int} (h : Ex X Y Z T q) (e : Pe PP q q') : Ex X Y Z T q' := by
  obtain ⟨e1, e2⟩ := e
  obtain ⟨hz, hx, hy, ht⟩ := h
  exact ⟨hz, dv2 hx e1 (c1 := 1) (c2 := Z) (by grind), dv2 hy e2 (c1 := 1) (c2 := Z) (by grind), dv3 ht e1 e2 (c1 := 1) (c2 := q.2 * Z) (c3 := q'.1 * Z) (by grind)⟩



end Go.Proofs.YthapcapiiknjdaaDoor

/-
  Scaling by digits of four bits, the highest first. Numbers alone.
-/
namespace Go.Proofs.YthapcapiiknjdaaDoor
set_option maxRecDepth 100000

end Go.Proofs.YthapcapiiknjdaaDoor

/-
  What the chapter's sums and the lifting of a y are, as numbers.
-/
namespace Go.Proofs.YthapcapiiknjdaaDoor
set_option maxRecDepth 100000

def addT (p q : Int × Int) : Int := dE * (p.1 * q.1 * (p.2 * q.2))
def addX (p q : Int × Int) : Int := (p.1 * q.2 + p.2 * q.1) * iv (1 + addT p q)
def addY (p q : Int × Int) : Int := (p.2 * q.2 + p.1 * q.1) * iv (1 - addT p q)
/-- The square of x as y tells it. -/
def liftZ (y : Int) : Int := (y * y - 1) * iv (dE * (y * y) + 1)
end Go.Proofs.YthapcapiiknjdaaDoor
