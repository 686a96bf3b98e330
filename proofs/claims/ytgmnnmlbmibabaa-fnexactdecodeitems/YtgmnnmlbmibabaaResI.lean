
/-
  The laws' helpers on what DecodeItem answers.
-/
import Derived.Test.YtgmnnmlbmibabaaFoA
namespace Go.Proofs.Ytgmnnmlbmibabaa
open Go Go.RowKit

theorem NewT.at {B B' : Nat} {w : World} {e : Ending} {b : Bool} {t n : Int} {ys : List Int} (h : NewT B w e b t ys n) (h1 : B' ≤ B) (h2 : B' < w.heap.size) :
    ∃ (a : Option Addr) (c g : Nat), e = .returned (.agg #[.bool b, .int .i64 t, .slice a ys.length c, .int .i64 n]) ∧ Own w g a .u8 ys ∧ B' ≤ g ∧ g < w.heap.size ∧ (0 < ys.length → B ≤ g) := by
  obtain ⟨a, c, g, he, o, _, _, hg⟩ := h
  by_cases h0 : 0 < ys.length
  · exact ⟨a, c, g, he, o, by omega, o.rd.lt h0, fun _ => hg⟩
  · obtain rfl : ys = [] := List.eq_nil_of_length_eq_zero (by omega)
    exact ⟨a, c, B', he, Own.nil _ _ _ _, Nat.le_refl _, h2, fun h => absurd h (by simp)⟩
theorem dbT_len (xs : List Int) (o : Option (Int × Nat × Nat)) : (dbT xs o).length ≤ xs.length := by
  unfold dbT
  split
  · rw [List.length_take, List.length_drop]; omega
  · simp
end Go.Proofs.Ytgmnnmlbmibabaa
