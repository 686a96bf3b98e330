import Derived.Test.YtkglcainhkbgbaaGreatDoorSG5
import Derived.Test.YtkglcainhkbgbaaGreatDoorSG9
import Derived.Test.YtkglcainhkbgbaaGreatDoorSG25
import Derived.Laws.BitsLemmas
import Derived.Laws.Rows
import Derived.Laws.Tables
import Derived.Deep.MidRow
import Derived.Deep.DeepCutAuto
namespace Go.Proofs.YtkglcainhkbgbaaGreatDoor
set_option maxRecDepth 100000
open Go.RowKit
def ls16 (f : Nat → Int) : List Int := (List.range 16).map f
theorem ls16_len (f : Nat → Int) : (ls16 f).length = 16 := by simp [ls16]
theorem ls16_get (f : Nat → Int) {j : Nat} (h : j < 16) : (ls16 f).getD j 0 = f j := by simp [ls16, h]
def ag16 (f : Nat → Int) : Value := .agg ((ls16 f).map (Value.int .i64)).toArray
def Up16 (p q : Nat → Int) (ys : List Int) (k : Nat) : Prop := ys.length = 16 ∧ (∀ j, j < k → ys.getD j 0 = p j) ∧ ∀ j, k ≤ j → j < 16 → ys.getD j 0 = q j
theorem Up16.step {p q : Nat → Int} {ys : List Int} {k : Nat} (h : Up16 p q ys k) (hk : k < 16) : Up16 p q (ys.set k (p k)) (k + 1) := by
  refine ⟨by simpa using h.1, fun j hj => ?_, fun j hj hj5 => ?_⟩
  · by_cases e : k = j
    · subst e
      rw [getD_set_self _ _ _ (by rw [h.1]; exact hk)]
    · rw [getD_set_ne _ _ _ _ e]
      exact h.2.1 j (by omega)
  · rw [getD_set_ne _ _ _ _ (by omega)]
    exact h.2.2 j (by omega) hj5
theorem Up16.all {p q : Nat → Int} {ys : List Int} (h : Up16 p q ys 16) : ys = ls16 p :=
  eq_of_getD (by rw [h.1, ls16_len]) (fun i hi => by rw [h.1] at hi; rw [h.2.1 i hi, ls16_get p hi])
theorem Up16.zero (p q : Nat → Int) : Up16 p q (ls16 q) 0 := ⟨ls16_len q, fun j hj => absurd hj (by omega), fun j _ hj => ls16_get q hj⟩
abbrev a16 (f : Nat → Int) : Array Value := ((ls16 f).map (Value.int .i64)).toArray
end Go.Proofs.YtkglcainhkbgbaaGreatDoor
