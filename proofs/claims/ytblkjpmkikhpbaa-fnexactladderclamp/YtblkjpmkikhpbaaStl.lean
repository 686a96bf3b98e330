
/-
  The program's settle: five limbs brought to the one form of an element.
-/
import Derived.Test.YtblkjpmkikhpbaaHelp
import Derived.Test.YtblkjpmkikhpbaaFldM
import Derived.WalkSpells
import Derived.Deep.QuietTactic
import Derived.BigQuiet
import Derived.Deep.WholeRow
namespace Go.Proofs.Ytblkjpmkikhpbaa
open Go.RowKit

/-- Five limbs as the value of an array. -/
def ag5 (u : Nat → Int) : Value := .agg #[.int .u64 (u 0), .int .u64 (u 1), .int .u64 (u 2), .int .u64 (u 3), .int .u64 (u 4)]
theorem wraps_u64 (n : Int) (h₀ : 0 ≤ n) (h₁ : n < 2 ^ 64) : IntKind.u64.wrap n = n := by
  simp [IntKind.wrap, IntKind.bits, IntKind.signed]
  omega
theorem mask51 (x : Int) (h0 : 0 ≤ x) (h1 : x < 18446744073709551616) : bits BinOp.and IntKind.u64 x 2251799813685247 = x % 2251799813685248 :=
  bits_mask .u64 64 (by decide) wraps_u64 51 (by decide) x h0 h1

/-- The first k limbs are f's, the others u's. -/
def Upd (f u : Nat → Int) (ys : List Int) (k : Nat) : Prop := ys.length = 5 ∧ (∀ j, j < k → ys.getD j 0 = f j) ∧ ∀ j, k ≤ j → j < 5 → ys.getD j 0 = u j
theorem Upd.step {f u : Nat → Int} {ys : List Int} {k : Nat} (h : Upd f u ys k) (hk : k < 5) : Upd f u (ys.set k (f k)) (k + 1) := by
  refine ⟨by simpa using h.1, fun j hj => ?_, fun j hj hj5 => ?_⟩
  · by_cases e : k = j
    · subst e
      rw [getD_set_self _ _ _ (by rw [h.1]; exact hk)]
    · rw [getD_set_ne _ _ _ _ e]
      exact h.2.1 j (by omega)
  · rw [getD_set_ne _ _ _ _ (by omega)]
    exact h.2.2 j (by omega) hj5
theorem Upd.all {f u : Nat → Int} {ys : List Int} (h : Upd f u ys 5) : ys = [f 0, f 1, f 2, f 3, f 4] := by
  refine eq_of_getD (by rw [h.1]; rfl) (fun i hi => ?_)
  rw [h.1] at hi
  rw [h.2.1 i hi]
  obtain rfl | rfl | rfl | rfl | rfl : i = 0 ∨ i = 1 ∨ i = 2 ∨ i = 3 ∨ i = 4 := by omega
  all_goals rfl
theorem Upd.zero (f u : Nat → Int) : Upd f u [u 0, u 1, u 2, u 3, u 4] 0 := by
  refine ⟨rfl, fun j hj => absurd hj (by omega), fun i _ hi => ?_⟩
  obtain rfl | rfl | rfl | rfl | rfl : i = 0 ∨ i = 1 ∨ i = 2 ∨ i = 3 ∨ i = 4 := by omega
  all_goals rfl
theorem blk_box (w : World) (k : IntKind) (t : TypeId) (a b c d e : Int) : Blk (w.alloc (.cells #[.int k a, .int k b, .int k c, .int k d, .int k e] t)) w.heap.size k [a, b, c, d, e] :=
  ⟨t, by rw [heap_alloc_last]; rfl⟩

end Go.Proofs.Ytblkjpmkikhpbaa
