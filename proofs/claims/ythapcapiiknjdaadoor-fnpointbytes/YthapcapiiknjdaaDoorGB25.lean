import Derived.Test.YthapcapiiknjdaaDoorGB23
import Derived.Test.YthapcapiiknjdaaDoorGB24
import Derived.Test.YthapcapiiknjdaaDoorGB6

/-
  The model's PointValid; steps for points.
-/
namespace Go.Proofs.YthapcapiiknjdaaDoor
set_option maxRecDepth 100000
open Go Go.RowKit

theorem sg_neg (x y : Int) : decide (sg x y < 0) = decide (x < y) := by
  unfold sg
  by_cases h : x < y
  · rw [if_pos h]; simp [h]
  · rw [if_neg h]
    by_cases h2 : y < x
    · rw [if_pos h2, decide_eq_false h]; rfl
    · rw [if_neg h2, decide_eq_false h]; rfl
set_option maxHeartbeats 2000000 in
theorem specFieldCanonical_any (w : World) (g : Nat) (a : Option Addr) (c : Nat) (xs : List Int) (hr : Rd w g a .u8 xs) (hb : Byt xs) :
    Calls Tryd.prog 53 #[.slice a xs.length c] w fun e w' => e = .returned (.bool (canN xs)) ∧ Below w.heap.size w w' := by
  by_cases hl : xs.length = 32
  · have R1 := l2Num_any w g a c xs hr hb (by omega)
    have K : canN xs = decide (num xs < PP) := by simp [canN, hl]
    have hK := hide K
    have hl' : (xs.length : Int) = 32 := by omega
    have hL := hide hl
    clear K
    rw [hl] at R1 ⊢
    clear hl hl'
    go_enter Tryd.func53, Tryd.ntmps53
    go_wp2_with fail
    refine R1.mono ?_
    rintro e w1 ⟨ys, C, l1, ⟨a1, c1, g1, rfl, o1, p1, p2, p3⟩, n1⟩
    go_wp2_with fail
    refine (l2Prime_any w1).mono ?_
    rintro e w2 ⟨rfl, B2, n2⟩
    go_wp2_with fail
    refine (l1Cmp_any w2 g1 _ a1 _ c1 32 ys pbytes (o1.up n2).rd B2.own0.rd C.1 pbytes_byt (by omega) (by decide)).mono ?_
    rintro e w3 ⟨rfl, rfl⟩
    have N := nxt n1 n2
    have Q : Hid (decide (sg (bval ys) (bval pbytes) < 0) = canN xs) := by
      show _ = _
      have hv := C.2.1
      have e32 : num xs = lsum (fun j => xs.getD j 0) 32 := by unfold num; rw [hL.out]
      rw [hK.out, pbytes_val, hv, e32, sg_neg]
    generalize sg (bval ys) (bval pbytes) = s at *
    clear R1 C B2 n1 n2 o1 p1 p2 p3 l1
    go_wp2
    go_ret
    exact ⟨by rw [← Q.out]; rfl, N⟩
  · have K : canN xs = false := by simp [canN, hl]
    have hK := hide K
    have t : ((xs.length : Int) == 32) = false := by simp; omega
    clear K hl
    go_enter Tryd.func53, Tryd.ntmps53
    go_wp2
    go_ret
    exact ⟨by rw [hK.out]; rfl, Below.refl _ _⟩


theorem fxP (q : Nat) (w : World) : (Instr.fieldAt 24 (.pointer (some ⟨q, 0, none⟩)) 0).run Tryd.prog w = .ok (.pointer (some ⟨q, 0, none⟩)) w := by kernel_rfl
theorem fyP (q : Nat) (w : World) : (Instr.fieldAt 24 (.pointer (some ⟨q, 0, none⟩)) 1).run Tryd.prog w = .ok (.pointer (some ⟨q, 1, none⟩)) w := by kernel_rfl
/-- Thirty-two bytes that may be read. -/
def OfOk (W : World) (a : Option Addr) (xs : List Int) : Prop := ∃ g, Rd W g a .u8 xs ∧ Byt xs ∧ xs.length = 32
theorem of_ok {W : World} {g : Nat} {a : Option Addr} {xs : List Int} (h : Rd W g a .u8 xs) (b : Byt xs) (l : xs.length = 32) : OfOk W a xs := ⟨g, h, b, l⟩
section
variable {ops : Array Oper} {Q : Exit → Act → World → Prop} {md : Region.Mode} {F : Nat → Fact} {a0 : Act} {w0 : World} {i : Nat} {o : Oper} {ts : Array TypeId}
theorem step_move {P : Program} (hi : ops[i]? = some o) (p j : Nat) (hop : o.op = .move (.tmp p) ∨ o.op = .assign (.tmp p)) (hj : waits md ops i j p = true) (hF : F i = F j) : StepOk P md ops Q F a0 w0 i := by
  refine step_pure hi fun a w _ _ hf => ⟨a.eval (.tmp p), ?_, by rw [hF]; exact hf j p hj⟩
  rcases hop with h | h <;> simp [execOp, h]
theorem step_lds (hi : ops[i]? = some o) (p j : Nat) (hop : o.op = .load 22 (.tmp p)) (hj : waits md ops i j p = true) (q off : Nat) (hFj : F j = Fact.eq (.pointer (some ⟨q, off, none⟩))) (a : Option Addr) (n c : Nat)
    (hc : w0.cell? ⟨q, off, none⟩ = some (.slice a n c)) (hF : F i = Fact.eq (.slice a n c)) : StepOk Tryd.prog md ops Q F a0 w0 i := by
  refine step_pure hi fun b w _ hw hf => ⟨_, ?_, by rw [hF]; exact rfl⟩
  have e := hf j p hj
  rw [hFj] at e
  have e' : b.eval (.tmp p) = .pointer (some ⟨q, off, none⟩) := e
  have hc' : w.cell? ⟨q, off, none⟩ = some (.slice a n c) := (hw.cell (block_lt_of_cell hc)).trans hc
  simp only [execOp, hop, e']
  go_simp
theorem step_of (hi : ops[i]? = some o) (p j : Nat) {a : Option Addr} {c : Nat} {xs : List Int} (hop : o.op = .call { callee := .value (.func 54), args := #[.tmp p], argTypes := ts })
    (hj : waits md ops i j p = true) (hO : OfOk w0 a xs) (hFj : F j = Fact.eq (.slice a xs.length c)) (hFi : F i = EL (num xs)) : StepOk Tryd.prog md ops Q F a0 w0 i := by
  obtain ⟨g, hr, hb, hl⟩ := hO
  refine step_call hi _ _ ts hop en_of fun A w _ hw hF => ?_
  have ea := hF j p hj
  rw [hFj] at ea
  have e1 : A.tmps.getD p undef = .slice a 32 c := by rw [← hl]; exact ea
  show Calls Tryd.prog 54 #[A.tmps.getD p undef] w _
  rw [e1]
  refine (l2Of_any w g a c xs (hr.up hw) hb hl).mono ?_
  rintro r w' ⟨rfl, hn⟩
  rw [hFi]
  exact ⟨_, rfl, hn, _, rfl, of16_ok (fun j => hb j), by rw [of16_val, num, hl]⟩
end

theorem two_cells (w : World) (u v : Value) (t : TypeId) : (w.alloc (.cells #[u, v] t)).cell? ⟨w.heap.size, 0, none⟩ = some u ∧ (w.alloc (.cells #[u, v] t)).cell? ⟨w.heap.size, 1, none⟩ = some v := by
  have e : (w.alloc (.cells #[u, v] t)).heap[w.heap.size]? = some (.cells #[u, v] t) := heap_alloc_last _ _
  constructor <;> (unfold World.cell?; simp only; rw [e]; rfl)
theorem can_len {xs : List Int} (h : canN xs = true) : xs.length = 32 := by
  unfold canN at h
  simp at h
  exact h.1
/-- Are these the coordinates of a point? -/
def validN (x y : Int) : Bool := decide ((y * y - x * x) % PP = (1 + dE * (x * x * (y * y))) % PP)
def validP (xs ys : List Int) : Bool := canN xs && canN ys && validN (num xs) (num ys)
set_option maxHeartbeats 2000000 in
theorem pointValid_any (w : World) (g g' : Nat) (a a' : Option Addr) (c c' : Nat) (xs ys : List Int) (hx : Rd w g a .u8 xs) (hy : Rd w g' a' .u8 ys) (bx : Byt xs) (by' : Byt ys) :
    Calls Tryd.prog 20 #[.agg #[.slice a xs.length c, .slice a' ys.length c']] w fun r w' => r = .returned (.bool (validP xs ys)) ∧ Below w.heap.size w w' := by
  have T := two_cells w (.slice a xs.length c) (.slice a' ys.length c') 24
  have N : Below w.heap.size w (w.alloc (.cells #[.slice a xs.length c, .slice a' ys.length c'] 24)) := (Below.refl _ _).alloc (Nat.le_refl _) _
  obtain ⟨CX, CY⟩ := T
  have CN := fun W h => specFieldCanonical_any W g a c xs h bx
  have CM := fun W h => specFieldCanonical_any W g' a' c' ys h by'
  go_enter Tryd.func20, Tryd.ntmps20
  go_upto_region 1 with fail
  generalize w.alloc (.cells #[.slice a xs.length c, .slice a' ys.length c'] 24) = wa at *
  have RX := hx.up N
  have RY := hy.up N
  clear hx hy
  cases hkx : canN xs with
  | false =>
    have VP : validP xs ys = false := by unfold validP; rw [hkx]; rfl
    replace VP := hide VP
    simp only [hkx] at CN
    go_wp2_with fail
    refine (CN wa RX).mono ?_
    rintro e w1 ⟨rfl, n1⟩
    have N1 := nxt N n1
    clear CN CM
    go_wp2
    go_ret
    exact ⟨by rw [VP.out]; rfl, N1⟩
  | true =>
    simp only [hkx] at CN
    go_wp2_with fail
    refine (CN wa RX).mono ?_
    rintro e w1 ⟨rfl, n1⟩
    replace CX := (n1.cell (block_lt_of_cell CX)).trans CX
    replace CY := (n1.cell (block_lt_of_cell CY)).trans CY
    replace RX := RX.up n1
    replace RY := RY.up n1
    replace N := nxt N n1
    clear n1 CN
    cases hky : canN ys with
    | false =>
      have VP : validP xs ys = false := by unfold validP; rw [hkx, hky]; rfl
      replace VP := hide VP
      simp only [hky] at CM
      go_wp2_with fail
      refine (CM w1 RY).mono ?_
      rintro e w2 ⟨rfl, n2⟩
      have N1 := nxt N n2
      clear CM
      go_wp2
      go_ret
      exact ⟨by rw [VP.out]; rfl, N1⟩
    | true =>
      have VP : validP xs ys = validN (num xs) (num ys) := by unfold validP; rw [hkx, hky]; rfl
      replace VP := hide VP
      have LX := hide (can_len hkx)
      have LY := hide (can_len hky)
      clear hkx
      simp only [hky] at CM
      go_wp2_with fail
      refine (CM w1 RY).mono ?_
      rintro e wr ⟨rfl, n2⟩
      replace CX := (n2.cell (block_lt_of_cell CX)).trans CX
      replace CY := (n2.cell (block_lt_of_cell CY)).trans CY
      replace RX := RX.up n2
      replace RY := RY.up n2
      replace N := nxt N n2
      have OX := hide (of_ok RX bx LX.out)
      have OY := hide (of_ok RY by' LY.out)
      clear CM n2 hky
      go_upto_region 3 with fail
      refine region_new16 4 3 2 3 19 _ (fun i => [Fact.eq (.pointer (some ⟨w.heap.size, 0, none⟩)), Fact.eq (.slice a xs.length c), EL (num xs), NB wr 16].getD i Fact.no) (num xs) (by kernel_rfl) rfl rfl rfl (by kernel_rfl) (by kernel_rfl) rfl rfl ?_ ?_
      · intro i hi
        obtain rfl | rfl | rfl | rfl : i = 0 ∨ i = 1 ∨ i = 2 ∨ i = 3 := by omega
        · exact step_fld rfl 24 1 0 rfl (by kernel_rfl) _ _ rfl (fxP _) rfl
        · exact step_lds rfl 17 0 rfl (by kernel_rfl) _ _ rfl _ _ _ CX rfl
        · exact step_of rfl 18 1 rfl (by kernel_rfl) OX.out rfl rfl
        · exact step_new16 rfl rfl rfl
      intro vs3 q3 W3 v3 h3 n3 E3 T3
      clear T3
      replace CX := (n3.cell (block_lt_of_cell CX)).trans CX
      replace CY := (n3.cell (block_lt_of_cell CY)).trans CY
      replace RX := RX.up n3
      replace RY := RY.up n3
      replace N := nxt N n3
      have OX := hide (of_ok RX bx LX.out)
      have OY := hide (of_ok RY by' LY.out)
      clear n3
      simp only [puts, v3, Act.put, List.setIfInBounds_toArray, List.set_cons_succ, List.set_cons_zero]
      clear v3
      go_upto_region 4 with fail
      refine region_new16 4 3 2 4 22 _ (fun i => [Fact.eq (.pointer (some ⟨w.heap.size, 1, none⟩)), Fact.eq (.slice a' ys.length c'), EL (num ys), NB W3 16].getD i Fact.no) (num ys) (by kernel_rfl) rfl rfl rfl (by kernel_rfl) (by kernel_rfl) rfl rfl ?_ ?_
      · intro i hi
        obtain rfl | rfl | rfl | rfl : i = 0 ∨ i = 1 ∨ i = 2 ∨ i = 3 := by omega
        · exact step_fld rfl 24 1 1 rfl (by kernel_rfl) _ _ rfl (fyP _) rfl
        · exact step_lds rfl 20 0 rfl (by kernel_rfl) _ _ rfl _ _ _ CY rfl
        · exact step_of rfl 21 1 rfl (by kernel_rfl) OY.out rfl rfl
        · exact step_new16 rfl rfl rfl
      intro vs4 q4 W4 v4 h4 n4 E4 T4
      clear T4
      replace E3 := E3.up n4
      replace CX := (n4.cell (block_lt_of_cell CX)).trans CX
      replace CY := (n4.cell (block_lt_of_cell CY)).trans CY
      replace RX := RX.up n4
      replace RY := RY.up n4
      replace N := nxt N n4
      have OX := hide (of_ok RX bx LX.out)
      have OY := hide (of_ok RY by' LY.out)
      clear n4
      simp only [puts, v4, Act.put, List.setIfInBounds_toArray, List.set_cons_succ, List.set_cons_zero]
      clear v4
      go_upto_region 5 with fail
      refine region_new16 4 3 2 5 25 _ (fun i => [EL (num xs), EL (num xs), EL ((num xs) * (num xs)), NB W4 16].getD i Fact.no) ((num xs) * (num xs)) (by kernel_rfl) rfl rfl rfl (by kernel_rfl) (by kernel_rfl) rfl rfl ?_ ?_
      · intro i hi
        obtain rfl | rfl | rfl | rfl : i = 0 ∨ i = 1 ∨ i = 2 ∨ i = 3 := by omega
        · exact step_el rfl 52 3 rfl Go.Proofs.YthapcapiiknjdaaDoor.u50 i50 (by kernel_rfl) _ _ rfl _ E3 rfl
        · exact step_el rfl 52 3 rfl Go.Proofs.YthapcapiiknjdaaDoor.u50 i50 (by kernel_rfl) _ _ rfl _ E3 rfl
        · exact step_mul rfl 23 24 0 1 _ _ rfl (by kernel_rfl) (by kernel_rfl) rfl rfl rfl
        · exact step_new16 rfl rfl rfl
      intro vs5 q5 W5 v5 h5 n5 E5 T5
      clear T5
      replace E3 := E3.up n5
      replace E4 := E4.up n5
      replace CX := (n5.cell (block_lt_of_cell CX)).trans CX
      replace CY := (n5.cell (block_lt_of_cell CY)).trans CY
      replace RX := RX.up n5
      replace RY := RY.up n5
      replace N := nxt N n5
      have OX := hide (of_ok RX bx LX.out)
      have OY := hide (of_ok RY by' LY.out)
      clear n5
      simp only [puts, v5, Act.put, List.setIfInBounds_toArray, List.set_cons_succ, List.set_cons_zero]
      clear v5
      go_upto_region 6 with fail
      refine region_new16 4 3 2 6 28 _ (fun i => [EL (num ys), EL (num ys), EL ((num ys) * (num ys)), NB W5 16].getD i Fact.no) ((num ys) * (num ys)) (by kernel_rfl) rfl rfl rfl (by kernel_rfl) (by kernel_rfl) rfl rfl ?_ ?_
      · intro i hi
        obtain rfl | rfl | rfl | rfl : i = 0 ∨ i = 1 ∨ i = 2 ∨ i = 3 := by omega
        · exact step_el rfl 52 4 rfl Go.Proofs.YthapcapiiknjdaaDoor.u50 i50 (by kernel_rfl) _ _ rfl _ E4 rfl
        · exact step_el rfl 52 4 rfl Go.Proofs.YthapcapiiknjdaaDoor.u50 i50 (by kernel_rfl) _ _ rfl _ E4 rfl
        · exact step_mul rfl 26 27 0 1 _ _ rfl (by kernel_rfl) (by kernel_rfl) rfl rfl rfl
        · exact step_new16 rfl rfl rfl
      intro vs6 q6 W6 v6 h6 n6 E6 T6
      clear T6
      replace E3 := E3.up n6
      replace E4 := E4.up n6
      replace E5 := E5.up n6
      replace CX := (n6.cell (block_lt_of_cell CX)).trans CX
      replace CY := (n6.cell (block_lt_of_cell CY)).trans CY
      replace RX := RX.up n6
      replace RY := RY.up n6
      replace N := nxt N n6
      have OX := hide (of_ok RX bx LX.out)
      have OY := hide (of_ok RY by' LY.out)
      clear n6
      simp only [puts, v6, Act.put, List.setIfInBounds_toArray, List.set_cons_succ, List.set_cons_zero]
      clear v6
      go_upto_region 7 with fail
      refine region_end 12 (fun i => [EL ((num ys) * (num ys)), EL ((num xs) * (num xs)), EL (((num ys) * (num ys)) - ((num xs) * (num xs))), EL 1, EL dE, EL ((num xs) * (num xs)), EL ((num ys) * (num ys)), EL (((num xs) * (num xs)) * ((num ys) * (num ys))), EL ((dE) * (((num xs) * (num xs)) * ((num ys) * (num ys)))), EL ((1) + ((dE) * (((num xs) * (num xs)) * ((num ys) * (num ys))))), Fact.eq (.bool (decide ((((num ys) * (num ys)) - ((num xs) * (num xs))) % PP = ((1) + ((dE) * (((num xs) * (num xs)) * ((num ys) * (num ys))))) % PP))), Fact.eq (.bool (decide ((((num ys) * (num ys)) - ((num xs) * (num xs))) % PP = ((1) + ((dE) * (((num xs) * (num xs)) * ((num ys) * (num ys))))) % PP)))].getD i Fact.no) (by kernel_rfl) (by kernel_rfl) rfl ?_ ?_
      · intro i hi
        obtain rfl | rfl | rfl | rfl | rfl | rfl | rfl | rfl | rfl | rfl | rfl | rfl : i = 0 ∨ i = 1 ∨ i = 2 ∨ i = 3 ∨ i = 4 ∨ i = 5 ∨ i = 6 ∨ i = 7 ∨ i = 8 ∨ i = 9 ∨ i = 10 ∨ i = 11 := by omega
        · exact step_el rfl 52 6 rfl Go.Proofs.YthapcapiiknjdaaDoor.u50 i50 (by kernel_rfl) _ _ rfl _ E6 rfl
        · exact step_el rfl 52 5 rfl Go.Proofs.YthapcapiiknjdaaDoor.u50 i50 (by kernel_rfl) _ _ rfl _ E5 rfl
        · exact step_sub rfl 29 30 0 1 _ _ rfl (by kernel_rfl) (by kernel_rfl) rfl rfl rfl
        · exact step_small rfl 1 (by omega) rfl rfl
        · exact step_d rfl rfl rfl
        · exact step_el rfl 52 5 rfl Go.Proofs.YthapcapiiknjdaaDoor.u50 i50 (by kernel_rfl) _ _ rfl _ E5 rfl
        · exact step_el rfl 52 6 rfl Go.Proofs.YthapcapiiknjdaaDoor.u50 i50 (by kernel_rfl) _ _ rfl _ E6 rfl
        · exact step_mul rfl 34 35 5 6 _ _ rfl (by kernel_rfl) (by kernel_rfl) rfl rfl rfl
        · exact step_mul rfl 33 36 4 7 _ _ rfl (by kernel_rfl) (by kernel_rfl) rfl rfl rfl
        · exact step_add rfl 32 37 3 8 _ _ rfl (by kernel_rfl) (by kernel_rfl) rfl rfl rfl
        · exact step_same rfl 31 38 2 9 _ _ rfl (by kernel_rfl) (by kernel_rfl) rfl rfl rfl
        · exact step_move rfl 39 10 (by exact Or.inr rfl) (by kernel_rfl) rfl
      intro A W hb hw hF
      have e2 := hF 11 2 (by kernel_rfl)
      obtain ⟨vs, hvs⟩ : ∃ vs : Nat → Value, ∀ d, A.tmps.getD d undef = vs d := ⟨_, fun _ => rfl⟩
      rw [hvs] at e2
      rw [puts_of (md := .any) (k := 12) (by kernel_rfl) rfl hb vs hvs]
      have N9 := nxt N hw
      clear hb hF hvs hw
      change vs 2 = _ at e2
      simp only [puts, e2, Act.put, List.setIfInBounds_toArray, List.set_cons_succ, List.set_cons_zero]
      go_wp2
      go_ret
      exact ⟨by rw [VP.out]; rfl, N9⟩
end Go.Proofs.YthapcapiiknjdaaDoor

/-
  The model's PointToLadder.
-/
namespace Go.Proofs.YthapcapiiknjdaaDoor
set_option maxRecDepth 100000
open Go Go.RowKit

end Go.Proofs.YthapcapiiknjdaaDoor
