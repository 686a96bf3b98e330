import Derived.Test.YtbhmhkimddjhaaaDoorGG38
/-
  The model's PointToLadder.
-/
namespace Go.Proofs.YtbhmhkimddjhaaaDoor
set_option maxRecDepth 100000
open Go Go.RowKit

def toLad (xs ys : List Int) : List Int := if validP xs ys = true then fill (byt ((1 + num ys) * iv (1 - num ys) % PP)) 32 else []
theorem valid_y {xs ys : List Int} (h : validP xs ys = true) : canN ys = true := by
  unfold validP at h
  simp only [Bool.and_eq_true] at h
  exact h.1.2
set_option maxHeartbeats 2000000 in
theorem pointToLadder_any (w : World) (g g' : Nat) (a a' : Option Addr) (c c' : Nat) (xs ys : List Int) (hx : Rd w g a .u8 xs) (hy : Rd w g' a' .u8 ys) (bx : Byt xs) (by' : Byt ys) :
    Calls Tryd.prog 136 #[.agg #[.slice a xs.length c, .slice a' ys.length c']] w fun r w' => NewRow w.heap.size w' r .u8 (toLad xs ys) ∧ Below w.heap.size w w' := by
  have T := two_cells w (.slice a xs.length c) (.slice a' ys.length c') 135
  have N : Below w.heap.size w (w.alloc (.cells #[.slice a xs.length c, .slice a' ys.length c'] 135)) := (Below.refl _ _).alloc (Nat.le_refl _) _
  obtain ⟨CX, CY⟩ := T
  have CN := fun W h h' => pointValid_any W g g' a a' c c' xs ys h h' bx by'
  go_enter Tryd.func136, Tryd.ntmps136
  go_upto_region 1 with fail
  generalize w.alloc (.cells #[.slice a xs.length c, .slice a' ys.length c'] 135) = wa at *
  have RX := hx.up N
  have RY := hy.up N
  clear hx hy
  cases hk : validP xs ys with
  | false =>
    have VP : toLad xs ys = [] := by unfold toLad; rw [hk]; rfl
    replace VP := hide VP
    simp only [hk] at CN
    go_wp2_with fail
    refine (CN wa RX RY).mono ?_
    rintro e w1 ⟨rfl, n1⟩
    have N1 := nxt N n1
    clear CN
    go_wp2
    go_ret
    rw [VP.out]
    have z := N1.size
    exact ⟨⟨_, 0, w1.heap.size, rfl, fun h => absurd h (by simp), fun _ => rfl, Nat.le_refl _, by omega⟩, N1.alloc N1.size _⟩
  | true =>
    have VP : toLad xs ys = fill (byt ((1 + num ys) * iv (1 - num ys) % PP)) 32 := by unfold toLad; rw [if_pos hk]
    replace VP := hide VP
    have LY := hide (can_len (valid_y hk))
    simp only [hk] at CN
    go_wp2_with fail
    refine (CN wa RX RY).mono ?_
    rintro e wr ⟨rfl, n1⟩
    replace CX := (n1.cell (block_lt_of_cell CX)).trans CX
    replace CY := (n1.cell (block_lt_of_cell CY)).trans CY
    replace RY := RY.up n1
    replace N := nxt N n1
    have OY := hide (of_ok RY by' LY.out)
    clear CN n1 hk RX
    go_upto_region 3 with fail
    refine region_new16 4 3 2 3 10 _ (fun i => [Fact.eq (.pointer (some ⟨w.heap.size, 1, none⟩)), Fact.eq (.slice a' ys.length c'), EL (num ys), NB wr 16].getD i Fact.no) (num ys) (by kernel_rfl) rfl rfl rfl (by kernel_rfl) (by kernel_rfl) rfl rfl ?_ ?_
    · intro i hi
      obtain rfl | rfl | rfl | rfl : i = 0 ∨ i = 1 ∨ i = 2 ∨ i = 3 := by omega
      · exact step_fld rfl 135 1 1 rfl (by kernel_rfl) _ _ rfl (fyP _) rfl
      · exact step_lds rfl 8 0 rfl (by kernel_rfl) _ _ rfl _ _ _ CY rfl
      · exact step_of rfl 9 1 rfl (by kernel_rfl) OY.out rfl rfl
      · exact step_new16 rfl rfl rfl
    intro vs3 q3 W3 v3 h3 n3 E3' T3
    replace N := nxt N n3
    clear n3 T3
    simp only [puts, v3, Act.put, List.setIfInBounds_toArray, List.set_cons_succ, List.set_cons_zero]
    clear v3
    go_upto_region 4 with fail
    refine region_end 10 (fun i => [EL 1, EL (num ys), EL ((1) + (num ys)), EL 1, EL (num ys), EL ((1) - (num ys)), EL (iv ((1) - (num ys))), EL (((1) + (num ys)) * (iv ((1) - (num ys)))), RN W3 (fun xs => xs = fill (byt ((((1) + (num ys)) * (iv ((1) - (num ys)))) % PP)) 32), RN W3 (fun xs => xs = fill (byt ((((1) + (num ys)) * (iv ((1) - (num ys)))) % PP)) 32)].getD i Fact.no) (by kernel_rfl) (by kernel_rfl) rfl ?_ ?_
    · intro i hi
      obtain rfl | rfl | rfl | rfl | rfl | rfl | rfl | rfl | rfl | rfl : i = 0 ∨ i = 1 ∨ i = 2 ∨ i = 3 ∨ i = 4 ∨ i = 5 ∨ i = 6 ∨ i = 7 ∨ i = 8 ∨ i = 9 := by omega
      · exact step_small rfl 1 (by omega) rfl rfl
      · exact step_el rfl 70 3 rfl Go.Proofs.YtbhmhkimddjhaaaDoor.u50 i50 (by kernel_rfl) _ _ rfl _ E3' rfl
      · exact step_add rfl 11 12 0 1 _ _ rfl (by kernel_rfl) (by kernel_rfl) rfl rfl rfl
      · exact step_small rfl 1 (by omega) rfl rfl
      · exact step_el rfl 70 3 rfl Go.Proofs.YtbhmhkimddjhaaaDoor.u50 i50 (by kernel_rfl) _ _ rfl _ E3' rfl
      · exact step_sub rfl 14 15 3 4 _ _ rfl (by kernel_rfl) (by kernel_rfl) rfl rfl rfl
      · exact step_inv rfl 16 5 _ rfl (by kernel_rfl) rfl rfl
      · exact step_mul rfl 13 17 2 6 _ _ rfl (by kernel_rfl) (by kernel_rfl) rfl rfl rfl
      · exact step_bytes rfl 18 7 _ rfl (by kernel_rfl) rfl rfl
      · exact step_move rfl 19 8 (by exact Or.inr rfl) (by kernel_rfl) rfl
    intro A W hb hw hF
    have e2 := hF 9 2 (by kernel_rfl)
    obtain ⟨vs, hvs⟩ : ∃ vs : Nat → Value, ∀ d, A.tmps.getD d undef = vs d := ⟨_, fun _ => rfl⟩
    rw [hvs] at e2
    rw [puts_of (md := .any) (k := 10) (by kernel_rfl) rfl hb vs hvs]
    have N9 := nxt N hw
    have z := N.size
    clear hb hF hvs hw
    obtain ⟨zs, b, d, h, e3, o3, l3, rfl, k1, k2⟩ := e2
    simp only [puts, e3, Act.put, List.setIfInBounds_toArray, List.set_cons_succ, List.set_cons_zero]
    go_wp2
    go_ret
    exact ⟨by rw [VP.out]; exact ⟨b, d, h, rfl, o3, k1, k2, by omega⟩, N9⟩
end Go.Proofs.YtbhmhkimddjhaaaDoor
