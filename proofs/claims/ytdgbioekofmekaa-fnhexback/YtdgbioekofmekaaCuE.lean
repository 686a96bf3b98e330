
/-
  The cursor's digits.
-/
import Derived.Test.YtdgbioekofmekaaCuL
import Derived.Test.YtdgbioekofmekaaCuT
import Derived.Test.YtdgbioekofmekaaDtN
namespace Go.Proofs.Ytdgbioekofmekaa
open Go Go.RowKit

theorem curI_def (w : World) (p : Nat) (l : Value) (i : Nat) (h : Cur w p l (i : Int)) : w.cell? ⟨p, 1, none⟩ = some (.int .i64 (i : Int)) := h.c1
theorem dvK_drop (b : List Int) (i n : Nat) : ∀ j, j ≤ n → dvK ((b.drop i).take n) j = dvK (b.drop i) j
  | 0, _ => rfl
  | j + 1, h => by
    show dvK _ j * 10 + (((b.drop i).take n).getD j 0 - 48) = dvK _ j * 10 + ((b.drop i).getD j 0 - 48)
    rw [dvK_drop b i n j (by omega), List.getD_eq_getElem?_getD, List.getElem?_take, if_pos (by omega), ← List.getD_eq_getElem?_getD]
theorem drop_getD (b : List Int) (i j : Nat) : (b.drop i).getD j 0 = b.getD (i + j) 0 := by
  rw [List.getD_eq_getElem?_getD, List.getD_eq_getElem?_getD, List.getElem?_drop]
/-- n digits from place i on are digits, and there. -/
def DgA (b : List Int) (i n : Nat) : Prop := i + n ≤ b.length ∧ ∀ j, j < n → 48 ≤ b.getD (i + j) 0 ∧ b.getD (i + j) 0 ≤ 57
theorem DgA.bd {b : List Int} {i n : Nat} (h : DgA b i n) : ∀ j, j ≤ n → 0 ≤ dvK (b.drop i) j ∧ dvK (b.drop i) j < 10 ^ j
  | 0, _ => by simp [dvK]
  | j + 1, hj => by
    have ih := h.bd j (by omega)
    have hx := h.2 j (by omega)
    show 0 ≤ dvK (b.drop i) j * 10 + ((b.drop i).getD j 0 - 48) ∧ dvK (b.drop i) j * 10 + ((b.drop i).getD j 0 - 48) < _
    rw [drop_getD, Int.pow_succ]
    omega
theorem DgA.dv {b : List Int} {i n : Nat} (h : DgA b i n) : dvP b i n = dvK (b.drop i) n := by
  unfold dvP Proofs.Ytdgbioekofmekaa.dv
  rw [show ((b.drop i).take n).length = n by rw [List.length_take, List.length_drop]; have := h.1; omega]
  exact dvK_drop b i n n (Nat.le_refl _)

theorem DgA.step {b : List Int} {i j : Nat} (h : DgA b i j) (h1 : i + j < b.length) (h2 : 48 ≤ b.getD (i + j) 0) (h3 : b.getD (i + j) 0 ≤ 57) : DgA b i (j + 1) := ⟨by omega, fun k hk => by
  by_cases e : k = j
  · subst e; exact ⟨h2, h3⟩
  · exact h.2 k (by omega)⟩
theorem DgA.not1 {b : List Int} {i j n : Nat} (hj : j < n) (h : b.length ≤ i + j) : ¬ DgA b i n := fun d => by have := d.1; omega
theorem DgA.not2 {b : List Int} {i j n : Nat} (hj : j < n) (h : b.getD (i + j) 0 < 48 ∨ 57 < b.getD (i + j) 0) : ¬ DgA b i n := fun d => by have := d.2 j hj; omega
/-- A number of n digits within these bounds. -/
def DgB (b : List Int) (i n : Nat) (lo hi : Int) : Prop := DgA b i n ∧ lo ≤ dvP b i n ∧ dvP b i n ≤ hi
theorem p10_4 {j : Nat} (h : j ≤ 4) : (10 : Int) ^ j ≤ 10000 := by
  match j, h with
  | 0, _ => decide
  | 1, _ => decide
  | 2, _ => decide
  | 3, _ => decide
  | 4, _ => decide

end Go.Proofs.Ytdgbioekofmekaa
