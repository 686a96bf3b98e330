import Derived.Test.YtbhmhkimddjhaaaDoorGG30
/-
  The model's l5Small.
-/
namespace Go.Proofs.YtbhmhkimddjhaaaDoor
set_option maxRecDepth 100000
open Go Go.RowKit

theorem en_int : enters Tryd.prog 98 = true := by kernel_rfl
theorem en_little : enters Tryd.prog 47 = true := by kernel_rfl
theorem en_times : enters Tryd.prog 147 = true := by kernel_rfl
theorem en_plain : enters Tryd.prog 146 = true := by kernel_rfl
theorem en_zero : enters Tryd.prog 145 = true := by kernel_rfl
/-- Three elements, whatever they are. -/
def E3any : Fact := ⟨fun v _ => ∃ x y z, v = ag48 x y z ∧ L16 x ∧ L16 y ∧ L16 z, fun _ h => h⟩
/-- Two lists of thirty-two bytes. -/
def PtOk (xs ys : List Int) : Prop := (Byt xs ∧ xs.length = 32) ∧ (Byt ys ∧ ys.length = 32)
theorem bytes_5 (v : Int) (n : Nat) : Byt (fill (byt v) n) := fun i => by
  by_cases hi : i < n
  · rw [fill_get _ _ _ hi]; unfold byt; omega
  · rw [List.getD_eq_getElem?_getD, List.getElem?_eq_none (by rw [fill_len]; omega)]; simp
theorem dig_bytes_5 {xs : List Int} (h : Byt xs) (n : Nat) : Byt (fill (dig xs) n) := fun i => by
  by_cases hi : i < n
  · rw [fill_get _ _ _ hi]
    have := dig_byt h i
    omega
  · rw [List.getD_eq_getElem?_getD, List.getElem?_eq_none (by rw [fill_len]; omega)]; simp
section
variable {ops : Array Oper} {Q : Exit → Act → World → Prop} {md : Region.Mode} {F : Nat → Fact} {a0 : Act} {w0 : World} {i : Nat} {o : Oper} {ts : Array TypeId}
theorem step_mv0 {P : Program} (hi : ops[i]? = some o) (p : Nat) (hop : (match o.op with | .move (.tmp q) => q == p | .assign (.tmp q) => q == p | _ => false) = true) (hp : apart ops p = true) {v : Value} (h0 : a0.tmps.getD p undef = v) (hF : F i = Fact.eq v) : StepOk P md ops Q F a0 w0 i := by
  refine step_pure hi fun a w hb _ _ => ⟨v, ?_, by rw [hF]; exact rfl⟩
  have e := (based_at hb p hp).trans h0
  cases ho : o.op with
  | move x =>
    cases x with
    | tmp q =>
      rw [ho] at hop
      obtain rfl : q = p := by simpa using hop
      simp [execOp, ho, e]
    | _ => rw [ho] at hop; simp at hop
  | assign x =>
    cases x with
    | tmp q =>
      rw [ho] at hop
      obtain rfl : q = p := by simpa using hop
      simp [execOp, ho, e]
    | _ => rw [ho] at hop; simp at hop
  | _ => rw [ho] at hop; simp at hop
theorem step_int (hi : ops[i]? = some o) (p j : Nat) (v : Int) (hv : 0 ≤ v ∧ v ≤ 255) (hop : o.op = .call { callee := .value (.func 98), args := #[.tmp p], argTypes := ts })
    (hj : waits md ops i j p = true) (hFj : F j = Fact.eq (.int .i64 v)) (hFi : F i = RN w0 (fun xs => xs.length ≤ 1 ∧ Byt xs)) : StepOk Tryd.prog md ops Q F a0 w0 i := by
  refine step_call hi _ _ ts hop en_int fun a w _ hw hF => ?_
  have ea := hF j p hj
  rw [hFj] at ea
  have e1 : a.tmps.getD p undef = .int .i64 v := ea
  show Calls Tryd.prog 98 #[a.tmps.getD p undef] w _
  rw [e1]
  refine (l1Int_any w v hv.1 hv.2).mono ?_
  rintro r w' ⟨ys, hl, hb, ⟨b, c, g, rfl, ow, k1, k2, hg⟩, hn⟩
  rw [hFi]
  exact ⟨_, rfl, hn, ys, b, c, g, rfl, ow, Nat.le_trans hw.size hg, ⟨hl, hb⟩, k1, k2⟩
theorem step_lit (hi : ops[i]? = some o) (p j : Nat) (hop : o.op = .call { callee := .value (.func 47), args := #[.tmp p, .const (.int .i64 32)], argTypes := ts })
    (hj : waits md ops i j p = true) (hFj : F j = RN w0 (fun xs => xs.length ≤ 1 ∧ Byt xs)) (hFi : F i = RN w0 (fun xs => xs.length = 32 ∧ Byt xs)) : StepOk Tryd.prog md ops Q F a0 w0 i := by
  refine step_call hi _ _ ts hop en_little fun a w _ hw hF => ?_
  have ea := hF j p hj
  rw [hFj] at ea
  obtain ⟨xs, b, c, g, e1, ow, hg, ⟨hl, hb⟩, k1, k2⟩ := ea
  show Calls Tryd.prog 47 #[a.tmps.getD p undef, .int .i64 32] w _
  rw [e1]
  refine (l1Little_any w g b c xs 32 ow.rd hb (by omega) (by omega)).mono ?_
  rintro r w' ⟨rfl, B, hn⟩
  rw [hFi]
  refine ⟨_, rfl, hn, fill (dig xs) 32, _, 32, w.heap.size, by rw [fill_len], B.own0, hw.size, ⟨fill_len _ _, ?_⟩, by simp, by rw [fill_len]; omega⟩
  exact dig_bytes_5 hb 32
theorem step_times (hi : ops[i]? = some o) (p q j k : Nat) {f g : List Int} (hop : o.op = .call { callee := .value (.func 147), args := #[.tmp p, .tmp q], argTypes := ts })
    (hj : waits md ops i j p = true) (hk : waits md ops i k q = true) (hFj : F j = RN w0 (fun xs => xs.length = 32 ∧ Byt xs)) (hFk : F k = PT w0 (fun xs ys => xs = f ∧ ys = g)) (hFi : F i = E3any) (hf : PtOk f g := by exact ⟨⟨bytes_5 _ _, fill_len _ _⟩, bytes_5 _ _, fill_len _ _⟩) : StepOk Tryd.prog md ops Q F a0 w0 i := by
  refine step_call hi _ _ ts hop en_times fun a w _ _ hF => ?_
  have ea := hF j p hj
  have eb := hF k q hk
  rw [hFj] at ea
  rw [hFk] at eb
  obtain ⟨ks, b, c, h, e1, ow, _, ⟨hl, hb⟩, _, _⟩ := ea
  obtain ⟨xs, ys, b1, b2, c1, c2, h1, h2, e2, o1, o2, _, _, rfl, rfl⟩ := eb
  show Calls Tryd.prog 147 #[a.tmps.getD p undef, a.tmps.getD q undef] w _
  rw [e1, e2]
  refine (l5Times_any w h h1 h2 b b1 b2 c c1 c2 ks xs ys ow.rd hb (by omega) o1.rd o2.rd hf.1.1 hf.2.1 hf.1.2 hf.2.2).mono ?_
  rintro r w' ⟨top, P, x, y, z, _, _, rfl, hx, hy, hz, hn⟩
  rw [hFi]
  exact ⟨_, rfl, hn, x, y, z, rfl, hx.1, hy.1, hz.1⟩
theorem step_plain (hi : ops[i]? = some o) (p j : Nat) (hop : o.op = .call { callee := .value (.func 146), args := #[.tmp p], argTypes := ts })
    (hj : waits md ops i j p = true) (hFj : F j = E3any) (hFi : F i = PT w0 PtOk) : StepOk Tryd.prog md ops Q F a0 w0 i := by
  refine step_call hi _ _ ts hop en_plain fun a w _ hw hF => ?_
  have ea := hF j p hj
  rw [hFj] at ea
  obtain ⟨x, y, z, e1, hx, hy, hz⟩ := ea
  show Calls Tryd.prog 146 #[a.tmps.getD p undef] w _
  rw [e1]
  refine (l5Plain_any w x y z _ _ _ ⟨hx, rfl⟩ ⟨hy, rfl⟩ ⟨hz, rfl⟩).mono ?_
  rintro r w' ⟨⟨b, b', c, c', g, g', rfl, o1, o2, l1, l2⟩, hn⟩
  rw [hFi]
  exact ⟨_, rfl, hn, _, _, b, b', c, c', g, g', rfl, o1, o2, Nat.le_trans hw.size l1, Nat.le_trans hw.size l2, ⟨bytes_5 _ _, fill_len _ _⟩, bytes_5 _ _, fill_len _ _⟩
theorem step_zero (hi : ops[i]? = some o) (hop : o.op = .call { callee := .value (.func 145), args := #[], argTypes := ts }) (hFi : F i = PT w0 PtOk) : StepOk Tryd.prog md ops Q F a0 w0 i := by
  refine step_call hi _ _ ts hop en_zero fun a w _ hw _ => ?_
  refine (pointZero_any w).mono ?_
  rintro r w' ⟨⟨b, b', c, c', g, g', rfl, o1, o2, l1, l2⟩, hn⟩
  rw [hFi]
  exact ⟨_, rfl, hn, _, _, b, b', c, c', g, g', rfl, o1, o2, Nat.le_trans hw.size l1, Nat.le_trans hw.size l2, ⟨bytes_5 _ _, fill_len _ _⟩, bytes_5 _ _, fill_len _ _⟩
end

set_option maxHeartbeats 4000000 in
theorem l5Small_any (w : World) (k : Int) (k0 : 0 ≤ k) (k1 : k ≤ 255) :
    Calls Tryd.prog 137 #[.int .i64 k] w fun r w' => ∃ xs ys, NewPt w.heap.size w' r xs ys ∧ (Byt xs ∧ xs.length = 32) ∧ (Byt ys ∧ ys.length = 32) ∧ Below w.heap.size w w' := by
  go_enter Tryd.func137, Tryd.ntmps137
  go_upto_region 1 with fail
  change Code.wp _ _ _ _ (w.alloc pObj)
  have TR := there_p w
  have N : Below w.heap.size w (w.alloc pObj) := (Below.refl _ _).alloc (Nat.le_refl _) _
  generalize w.alloc pObj = wr at *
  have zr := there_lt (by omega) TR
  refine region_new16 2 1 0 3 10 _ (fun i => [EL dE, NB wr 16].getD i Fact.no) (dE) (by kernel_rfl) rfl rfl rfl (by kernel_rfl) (by kernel_rfl) rfl rfl ?_ ?_
  · intro i hi
    obtain rfl | rfl : i = 0 ∨ i = 1 := by omega
    · exact step_d rfl rfl rfl
    · exact step_new16 rfl rfl rfl
  intro vs1 q3 W1 v3 h3 n1 E3' T3
  have mn1 := n1.size
  replace TR := there_up (by omega) TR n1
  replace N := nxt N n1
  clear n1 T3
  simp only [puts, v3, Act.put, List.setIfInBounds_toArray, List.set_cons_succ, List.set_cons_zero]
  clear v3
  go_upto_region 2 with fail
  refine region_new16 9 7 6 5 17 _ (fun i => [EL 0, EL 1, EL ((0) - (1)), RT ((0) - (1)), RT ((0) - (1)), Fact.eq (.bool (rootB ((0) - (1)))), EL (rootV ((0) - (1))), NB W1 16, Fact.eq (.bool (rootB ((0) - (1))))].getD i Fact.no) (rootV ((0) - (1))) (by kernel_rfl) rfl rfl rfl (by kernel_rfl) (by kernel_rfl) rfl rfl ?_ ?_
  · intro i hi
    obtain rfl | rfl | rfl | rfl | rfl | rfl | rfl | rfl | rfl : i = 0 ∨ i = 1 ∨ i = 2 ∨ i = 3 ∨ i = 4 ∨ i = 5 ∨ i = 6 ∨ i = 7 ∨ i = 8 := by omega
    · exact step_small rfl 0 (by omega) rfl rfl
    · exact step_small rfl 1 (by omega) rfl rfl
    · exact step_sub rfl 12 13 0 1 _ _ rfl (by kernel_rfl) (by kernel_rfl) rfl rfl rfl
    · exact step_root rfl 14 2 _ rfl (by kernel_rfl) rfl rfl
    · exact step_move rfl 15 3 (by exact Or.inl rfl) (by kernel_rfl) rfl
    · exact step_ext0 rfl 11 4 _ rfl (by kernel_rfl) rfl rfl
    · exact step_ext1 rfl 11 4 _ rfl (by kernel_rfl) rfl rfl
    · exact step_new16 rfl rfl rfl
    · exact step_move rfl 16 5 (by exact Or.inr rfl) (by kernel_rfl) rfl
  intro vs2 q5 W2 v5 h5 n2 E5 T5
  have y5 := E5.lt
  have mn2 := n2.size
  replace E3' := E3'.up n2
  replace TR := there_up (by omega) TR n2
  replace N := nxt N n2
  clear n2 T5
  simp only [puts, v5, Act.put, List.setIfInBounds_toArray, List.set_cons_succ, List.set_cons_zero]
  clear v5
  go_upto_region 3 with fail
  refine region_new16 9 7 6 7 24 _ (fun i => [EL 1, EL (dE), EL ((1) + (dE)), RT ((1) + (dE)), RT ((1) + (dE)), Fact.eq (.bool (rootB ((1) + (dE)))), EL (rootV ((1) + (dE))), NB W2 16, Fact.eq (.bool (rootB ((1) + (dE))))].getD i Fact.no) (rootV ((1) + (dE))) (by kernel_rfl) rfl rfl rfl (by kernel_rfl) (by kernel_rfl) rfl rfl ?_ ?_
  · intro i hi
    obtain rfl | rfl | rfl | rfl | rfl | rfl | rfl | rfl | rfl : i = 0 ∨ i = 1 ∨ i = 2 ∨ i = 3 ∨ i = 4 ∨ i = 5 ∨ i = 6 ∨ i = 7 ∨ i = 8 := by omega
    · exact step_small rfl 1 (by omega) rfl rfl
    · exact step_el rfl 70 3 rfl Go.Proofs.YtbhmhkimddjhaaaDoor.u50 i50 (by kernel_rfl) _ _ rfl _ E3' rfl
    · exact step_add rfl 19 20 0 1 _ _ rfl (by kernel_rfl) (by kernel_rfl) rfl rfl rfl
    · exact step_root rfl 21 2 _ rfl (by kernel_rfl) rfl rfl
    · exact step_move rfl 22 3 (by exact Or.inl rfl) (by kernel_rfl) rfl
    · exact step_ext0 rfl 18 4 _ rfl (by kernel_rfl) rfl rfl
    · exact step_ext1 rfl 18 4 _ rfl (by kernel_rfl) rfl rfl
    · exact step_new16 rfl rfl rfl
    · exact step_move rfl 23 5 (by exact Or.inr rfl) (by kernel_rfl) rfl
  intro vs3 q7 W3' v7 h7 n3 E7 T7
  have mn3 := n3.size
  replace E3' := E3'.up n3
  replace E5 := E5.up n3
  replace TR := there_up (by omega) TR n3
  replace N := nxt N n3
  clear n3 T7
  simp only [puts, v7, Act.put, List.setIfInBounds_toArray, List.set_cons_succ, List.set_cons_zero]
  clear v7
  go_upto_region 4 with fail
  refine region_new16F 12 10 9 9 34 _ (fun i => [EL 1, EL (rootV ((1) + (dE))), EL ((1) + (rootV ((1) + (dE)))), EL (dE), EL (iv (dE)), EL (((1) + (rootV ((1) + (dE)))) * (iv (dE))), RT (((1) + (rootV ((1) + (dE)))) * (iv (dE))), RT (((1) + (rootV ((1) + (dE)))) * (iv (dE))), Fact.eq (.bool (rootB (((1) + (rootV ((1) + (dE)))) * (iv (dE))))), EL (rootV (((1) + (rootV ((1) + (dE)))) * (iv (dE)))), NB W3' 16, Fact.eq (.bool (rootB (((1) + (rootV ((1) + (dE)))) * (iv (dE)))))].getD i Fact.no) (rootV (((1) + (rootV ((1) + (dE)))) * (iv (dE)))) (by kernel_rfl) rfl rfl rfl (by kernel_rfl) (by kernel_rfl) rfl rfl ?_ ?_
  · intro i hi
    obtain rfl | rfl | rfl | rfl | rfl | rfl | rfl | rfl | rfl | rfl | rfl | rfl : i = 0 ∨ i = 1 ∨ i = 2 ∨ i = 3 ∨ i = 4 ∨ i = 5 ∨ i = 6 ∨ i = 7 ∨ i = 8 ∨ i = 9 ∨ i = 10 ∨ i = 11 := by omega
    · exact step_small rfl 1 (by omega) rfl rfl
    · exact step_el rfl 70 7 rfl Go.Proofs.YtbhmhkimddjhaaaDoor.u50 i50 (by kernel_rfl) _ _ rfl _ E7 rfl
    · exact step_add rfl 26 27 0 1 _ _ rfl (by kernel_rfl) (by kernel_rfl) rfl rfl rfl
    · exact step_el rfl 70 3 rfl Go.Proofs.YtbhmhkimddjhaaaDoor.u50 i50 (by kernel_rfl) _ _ rfl _ E3' rfl
    · exact step_inv rfl 29 3 _ rfl (by kernel_rfl) rfl rfl
    · exact step_mul rfl 28 30 2 4 _ _ rfl (by kernel_rfl) (by kernel_rfl) rfl rfl rfl
    · exact step_root rfl 31 5 _ rfl (by kernel_rfl) rfl rfl
    · exact step_move rfl 32 6 (by exact Or.inl rfl) (by kernel_rfl) rfl
    · exact step_ext0 rfl 25 7 _ rfl (by kernel_rfl) rfl rfl
    · exact step_ext1 rfl 25 7 _ rfl (by kernel_rfl) rfl rfl
    · exact step_new16 rfl rfl rfl
    · exact step_move rfl 33 8 (by exact Or.inr rfl) (by kernel_rfl) rfl
  intro vs4 q9 W4 v9 h9 n4 E9 T9 hF
  obtain ⟨_, v8⟩ := hF 11 8 (by kernel_rfl)
  clear hF
  have mn4 := n4.size
  replace E3' := E3'.up n4
  replace E5 := E5.up n4
  replace E7 := E7.up n4
  replace TR := there_up (by omega) TR n4
  replace N := nxt N n4
  have y9 := E9.lt
  have y3 := E3'.lt
  have r5 : q5 ≠ q9 := by omega
  clear n4
  change vs4 8 = .bool (rootB _) at v8
  simp only [puts, v9, v8, Act.put, List.setIfInBounds_toArray, List.set_cons_succ, List.set_cons_zero]
  clear v9 v8
  cases rootB (((1) + (rootV ((1) + (dE)))) * (iv (dE))) with
  | true =>
    go_upto_region 9 with fail
    refine region_putP 12 11 2 61 _ (fun i => [Fact.eq (.int .i64 k), RN W4 (fun xs => xs.length ≤ 1 ∧ Byt xs), RN W4 (fun xs => xs.length = 32 ∧ Byt xs), EL (rootV (((1) + (rootV ((1) + (dE)))) * (iv (dE)))), RN W4 (fun xs => xs = fill (byt ((rootV (((1) + (rootV ((1) + (dE)))) * (iv (dE)))) % PP)) 32), EL (rootV (((1) + (rootV ((1) + (dE)))) * (iv (dE)))), EL (rootV ((0) - (1))), EL ((rootV (((1) + (rootV ((1) + (dE)))) * (iv (dE)))) * (rootV ((0) - (1)))), RN W4 (fun xs => xs = fill (byt (((rootV (((1) + (rootV ((1) + (dE)))) * (iv (dE)))) * (rootV ((0) - (1)))) % PP)) 32), PT W4 (fun xs ys => xs = fill (byt ((rootV (((1) + (rootV ((1) + (dE)))) * (iv (dE)))) % PP)) 32 ∧ ys = fill (byt (((rootV (((1) + (rootV ((1) + (dE)))) * (iv (dE)))) * (rootV ((0) - (1)))) % PP)) 32), E3any, PT W4 PtOk].getD i Fact.no) PtOk _ (by kernel_rfl) rfl rfl rfl (by kernel_rfl) rfl TR (by kernel_rfl) rfl ?_ ?_
    · intro i hi
      obtain rfl | rfl | rfl | rfl | rfl | rfl | rfl | rfl | rfl | rfl | rfl | rfl : i = 0 ∨ i = 1 ∨ i = 2 ∨ i = 3 ∨ i = 4 ∨ i = 5 ∨ i = 6 ∨ i = 7 ∨ i = 8 ∨ i = 9 ∨ i = 10 ∨ i = 11 := by omega
      · exact step_mv0 rfl 0 (by kernel_rfl) (by kernel_rfl) rfl rfl
      · exact step_int rfl 50 0 k ⟨k0, k1⟩ rfl (by kernel_rfl) rfl rfl
      · exact step_lit rfl 51 1 rfl (by kernel_rfl) rfl rfl
      · exact step_el rfl 70 9 rfl Go.Proofs.YtbhmhkimddjhaaaDoor.u50 i50 (by kernel_rfl) _ _ rfl _ E9 rfl
      · exact step_bytes rfl 53 3 _ rfl (by kernel_rfl) rfl rfl
      · exact step_el rfl 70 9 rfl Go.Proofs.YtbhmhkimddjhaaaDoor.u50 i50 (by kernel_rfl) _ _ rfl _ E9 rfl
      · exact step_el rfl 70 5 rfl Go.Proofs.YtbhmhkimddjhaaaDoor.u50 i50 (by kernel_rfl) _ _ rfl _ E5 rfl
      · exact step_mul rfl 55 56 5 6 _ _ rfl (by kernel_rfl) (by kernel_rfl) rfl rfl rfl
      · exact step_bytes rfl 57 7 _ rfl (by kernel_rfl) rfl rfl
      · exact step_bp rfl 54 58 4 8 _ _ rfl (by kernel_rfl) (by kernel_rfl) rfl rfl rfl
      · exact step_times rfl 52 59 2 9 rfl (by kernel_rfl) (by kernel_rfl) rfl rfl rfl
      · exact step_plain rfl 60 10 rfl (by kernel_rfl) rfl rfl
    intro vs9 W W' xs ys a a' c c' g g' n bq rg o1 o2 l1 l2 hp nb
    have NS := nb w w.heap.size (nxt N n) (by omega)
    simp only [puts, Act.put, List.setIfInBounds_toArray, List.set_cons_succ, List.set_cons_zero]
    have z1 := N.size
    clear N n bq nb TR
    go_wp2
    obtain ⟨fs, hfs⟩ := uP
    exact bodyPost_ret (v := .agg #[_, _]) (results_cell_mid Tryd.results137 _ _ w.heap.size _ _ rfl rg hfs rfl iP) rfl ⟨xs, ys, ⟨a, a', c, c', g, g', rfl, o1, o2, by omega, by omega⟩, hp.1, hp.2, NS⟩
  | false =>
    go_upto_region 6 with fail
    refine region_put16F 11 9 9 46 _ (fun i => [EL 1, EL (rootV ((1) + (dE))), EL ((1) - (rootV ((1) + (dE)))), EL (dE), EL (iv (dE)), EL (((1) - (rootV ((1) + (dE)))) * (iv (dE))), RT (((1) - (rootV ((1) + (dE)))) * (iv (dE))), RT (((1) - (rootV ((1) + (dE)))) * (iv (dE))), Fact.eq (.bool (rootB (((1) - (rootV ((1) + (dE)))) * (iv (dE))))), EL (rootV (((1) - (rootV ((1) + (dE)))) * (iv (dE)))), Fact.eq (.bool (rootB (((1) - (rootV ((1) + (dE)))) * (iv (dE)))))].getD i Fact.no) (rootV (((1) - (rootV ((1) + (dE)))) * (iv (dE)))) _ (by kernel_rfl) rfl rfl rfl (by kernel_rfl) rfl T9 (by kernel_rfl) rfl ?_ ?_
    · intro i hi
      obtain rfl | rfl | rfl | rfl | rfl | rfl | rfl | rfl | rfl | rfl | rfl : i = 0 ∨ i = 1 ∨ i = 2 ∨ i = 3 ∨ i = 4 ∨ i = 5 ∨ i = 6 ∨ i = 7 ∨ i = 8 ∨ i = 9 ∨ i = 10 := by omega
      · exact step_small rfl 1 (by omega) rfl rfl
      · exact step_el rfl 70 7 rfl Go.Proofs.YtbhmhkimddjhaaaDoor.u50 i50 (by kernel_rfl) _ _ rfl _ E7 rfl
      · exact step_sub rfl 38 39 0 1 _ _ rfl (by kernel_rfl) (by kernel_rfl) rfl rfl rfl
      · exact step_el rfl 70 3 rfl Go.Proofs.YtbhmhkimddjhaaaDoor.u50 i50 (by kernel_rfl) _ _ rfl _ E3' rfl
      · exact step_inv rfl 41 3 _ rfl (by kernel_rfl) rfl rfl
      · exact step_mul rfl 40 42 2 4 _ _ rfl (by kernel_rfl) (by kernel_rfl) rfl rfl rfl
      · exact step_root rfl 43 5 _ rfl (by kernel_rfl) rfl rfl
      · exact step_move rfl 44 6 (by exact Or.inl rfl) (by kernel_rfl) rfl
      · exact step_ext0 rfl 37 7 _ rfl (by kernel_rfl) rfl rfl
      · exact step_ext1 rfl 37 7 _ rfl (by kernel_rfl) rfl rfl
      · exact step_move rfl 45 8 (by exact Or.inr rfl) (by kernel_rfl) rfl
    intro vs6 Wa W6 na bq E9n T9n nb hF
    obtain ⟨_, v8⟩ := hF 10 8 (by kernel_rfl)
    clear hF
    replace TR := there_but (by omega) TR bq (by omega)
    replace E5 := E5.but bq r5
    replace N := nb w w.heap.size (nxt N na) (by omega)
    clear bq nb na E9 E7 E3'
    have E9 := E9n
    change vs6 8 = .bool (rootB _) at v8
    simp only [puts, v8, Act.put, List.setIfInBounds_toArray, List.set_cons_succ, List.set_cons_zero]
    clear v8
    cases rootB (((1) - (rootV ((1) + (dE)))) * (iv (dE))) with
    | true =>
      go_upto_region 9 with fail
      refine region_putP 12 11 2 61 _ (fun i => [Fact.eq (.int .i64 k), RN W6 (fun xs => xs.length ≤ 1 ∧ Byt xs), RN W6 (fun xs => xs.length = 32 ∧ Byt xs), EL (rootV (((1) - (rootV ((1) + (dE)))) * (iv (dE)))), RN W6 (fun xs => xs = fill (byt ((rootV (((1) - (rootV ((1) + (dE)))) * (iv (dE)))) % PP)) 32), EL (rootV (((1) - (rootV ((1) + (dE)))) * (iv (dE)))), EL (rootV ((0) - (1))), EL ((rootV (((1) - (rootV ((1) + (dE)))) * (iv (dE)))) * (rootV ((0) - (1)))), RN W6 (fun xs => xs = fill (byt (((rootV (((1) - (rootV ((1) + (dE)))) * (iv (dE)))) * (rootV ((0) - (1)))) % PP)) 32), PT W6 (fun xs ys => xs = fill (byt ((rootV (((1) - (rootV ((1) + (dE)))) * (iv (dE)))) % PP)) 32 ∧ ys = fill (byt (((rootV (((1) - (rootV ((1) + (dE)))) * (iv (dE)))) * (rootV ((0) - (1)))) % PP)) 32), E3any, PT W6 PtOk].getD i Fact.no) PtOk _ (by kernel_rfl) rfl rfl rfl (by kernel_rfl) rfl TR (by kernel_rfl) rfl ?_ ?_
      · intro i hi
        obtain rfl | rfl | rfl | rfl | rfl | rfl | rfl | rfl | rfl | rfl | rfl | rfl : i = 0 ∨ i = 1 ∨ i = 2 ∨ i = 3 ∨ i = 4 ∨ i = 5 ∨ i = 6 ∨ i = 7 ∨ i = 8 ∨ i = 9 ∨ i = 10 ∨ i = 11 := by omega
        · exact step_mv0 rfl 0 (by kernel_rfl) (by kernel_rfl) rfl rfl
        · exact step_int rfl 50 0 k ⟨k0, k1⟩ rfl (by kernel_rfl) rfl rfl
        · exact step_lit rfl 51 1 rfl (by kernel_rfl) rfl rfl
        · exact step_el rfl 70 9 rfl Go.Proofs.YtbhmhkimddjhaaaDoor.u50 i50 (by kernel_rfl) _ _ rfl _ E9 rfl
        · exact step_bytes rfl 53 3 _ rfl (by kernel_rfl) rfl rfl
        · exact step_el rfl 70 9 rfl Go.Proofs.YtbhmhkimddjhaaaDoor.u50 i50 (by kernel_rfl) _ _ rfl _ E9 rfl
        · exact step_el rfl 70 5 rfl Go.Proofs.YtbhmhkimddjhaaaDoor.u50 i50 (by kernel_rfl) _ _ rfl _ E5 rfl
        · exact step_mul rfl 55 56 5 6 _ _ rfl (by kernel_rfl) (by kernel_rfl) rfl rfl rfl
        · exact step_bytes rfl 57 7 _ rfl (by kernel_rfl) rfl rfl
        · exact step_bp rfl 54 58 4 8 _ _ rfl (by kernel_rfl) (by kernel_rfl) rfl rfl rfl
        · exact step_times rfl 52 59 2 9 rfl (by kernel_rfl) (by kernel_rfl) rfl rfl rfl
        · exact step_plain rfl 60 10 rfl (by kernel_rfl) rfl rfl
      intro vs9 W W' xs ys a a' c c' g g' n bq rg o1 o2 l1 l2 hp nb
      have NS := nb w w.heap.size (nxt N n) (by omega)
      simp only [puts, Act.put, List.setIfInBounds_toArray, List.set_cons_succ, List.set_cons_zero]
      have z1 := N.size
      clear N n bq nb TR
      go_wp2
      obtain ⟨fs, hfs⟩ := uP
      exact bodyPost_ret (v := .agg #[_, _]) (results_cell_mid Tryd.results137 _ _ w.heap.size _ _ rfl rg hfs rfl iP) rfl ⟨xs, ys, ⟨a, a', c, c', g, g', rfl, o1, o2, by omega, by omega⟩, hp.1, hp.2, NS⟩
    | false =>
      go_upto_region 8 with fail
      refine region_putP 1 0 2 49 _ (fun i => [PT W6 PtOk].getD i Fact.no) PtOk _ (by kernel_rfl) rfl rfl rfl (by kernel_rfl) rfl TR (by kernel_rfl) rfl ?_ ?_
      · intro i hi
        obtain rfl : i = 0 := by omega
        exact step_zero rfl rfl rfl
      intro vs9 W W' xs ys a a' c c' g g' n bq rg o1 o2 l1 l2 hp nb
      have NS := nb w w.heap.size (nxt N n) (by omega)
      simp only [puts, Act.put, List.setIfInBounds_toArray, List.set_cons_succ, List.set_cons_zero]
      have z1 := N.size
      clear N n bq nb TR
      go_wp2
      obtain ⟨fs, hfs⟩ := uP
      exact bodyPost_ret (v := .agg #[_, _]) (results_cell_mid Tryd.results137 _ _ w.heap.size _ _ rfl rg hfs rfl iP) rfl ⟨xs, ys, ⟨a, a', c, c', g, g', rfl, o1, o2, by omega, by omega⟩, hp.1, hp.2, NS⟩
end Go.Proofs.YtbhmhkimddjhaaaDoor
