
/-
  Parts of a list that may be read.
-/
import Derived.Test.YtdgbioekofmekaaBase
namespace Go.Proofs.Ytdgbioekofmekaa
open Go.RowKit

theorem Rd.dropA {w : World} {g : Nat} {a : Option Addr} {k : IntKind} {xs : List Int} (h : Rd w g a k xs) (n : Nat) (hn : n < xs.length) : ∃ o, a = some ⟨g, o, none⟩ ∧ Rd w g (some ⟨g, o + n, none⟩) k (xs.drop n) := by
  obtain ⟨o, rfl, hc⟩ := h (by omega)
  refine ⟨o, rfl, fun _ => ⟨o + n, rfl, fun i hi => ?_⟩⟩
  rw [List.length_drop] at hi
  rw [Nat.add_assoc, hc (n + i) (by omega), List.getD_eq_getElem?_getD, List.getD_eq_getElem?_getD, List.getElem?_drop]
theorem Rd.takeA {w : World} {g : Nat} {a : Option Addr} {k : IntKind} {xs : List Int} (h : Rd w g a k xs) (n : Nat) : Rd w g a k (xs.take n) := fun h0 => by
  rw [List.length_take] at h0
  obtain ⟨o, e, hc⟩ := h (by omega)
  refine ⟨o, e, fun i hi => ?_⟩
  rw [List.length_take] at hi
  rw [hc i (by omega), List.getD_eq_getElem?_getD, List.getD_eq_getElem?_getD, List.getElem?_take, if_pos (by omega)]
end Go.Proofs.Ytdgbioekofmekaa
