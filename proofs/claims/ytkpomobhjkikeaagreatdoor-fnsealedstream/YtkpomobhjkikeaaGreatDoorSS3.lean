import Derived.Test.YtkpomobhjkikeaaGreatDoorRows
import Derived.Test.YtkpomobhjkikeaaGreatDoorSS1
import Derived.WalkSpells
import Derived.Deep.QuietTactic
import Derived.BigQuiet
namespace Go.Proofs.YtkpomobhjkikeaaGreatDoor
set_option maxRecDepth 100000
open Go.RowKit
theorem Tryz.info5 : (Tryz.prog.info? 5).map (fun i => (i.zero, i.size, i.bytes)) = some (some (.int .u8 0), 1, 1) := by kernel_rfl
def CopyTo (xs ys : List Int) (k : Nat) : Prop := ys.length = xs.length ∧ ∀ j, j < k → ys.getD j 0 = xs.getD j 0
theorem CopyTo.zero (xs : List Int) : CopyTo xs (List.replicate xs.length 0) 0 := ⟨by simp, fun j h => absurd h (by omega)⟩
theorem CopyTo.step {xs ys : List Int} {k : Nat} (h : CopyTo xs ys k) (hk : k < xs.length) : CopyTo xs (ys.set k (xs.getD k 0)) (k + 1) := by
  refine ⟨by simpa using h.1, fun j hj => ?_⟩
  by_cases e : k = j
  · subst e
    rw [getD_set_self _ _ _ (by rw [h.1]; exact hk)]
  · rw [getD_set_ne _ _ _ _ e]
    exact h.2 j (by omega)
theorem CopyTo.all {xs ys : List Int} (h : CopyTo xs ys xs.length) : ys = xs := eq_of_getD h.1 (fun i hi => h.2 i (by rw [← h.1]; exact hi))
def marks (k : Int) (n : Nat) : List Int := (List.range n).map fun i : Nat => (k + (i : Int)) % 256
theorem marks_len (k : Int) (n : Nat) : (marks k n).length = n := by simp [marks]
theorem marks_get (k : Int) (n i : Nat) (h : i < n) : (marks k n).getD i 0 = (k + (i : Int)) % 256 := by simp [marks, h]
def MarkTo (k : Int) (ys : List Int) (n j : Nat) : Prop := ys.length = n ∧ ∀ i, i < j → ys.getD i 0 = (k + (i : Int)) % 256
theorem MarkTo.step {k : Int} {ys : List Int} {n j : Nat} (h : MarkTo k ys n j) (hj : j < n) : MarkTo k (ys.set j ((k + (j : Int)) % 256)) n (j + 1) := by
  refine ⟨by simpa using h.1, fun i hi => ?_⟩
  by_cases e : j = i
  · subst e
    rw [getD_set_self _ _ _ (by rw [h.1]; exact hj)]
  · rw [getD_set_ne _ _ _ _ e]
    exact h.2 i (by omega)
theorem MarkTo.all {k : Int} {ys : List Int} {n : Nat} (h : MarkTo k ys n n) : ys = marks k n :=
  eq_of_getD (by rw [h.1, marks_len]) (fun i hi => by rw [h.1] at hi; rw [h.2 i hi, marks_get k n i hi])
end Go.Proofs.YtkpomobhjkikeaaGreatDoor
