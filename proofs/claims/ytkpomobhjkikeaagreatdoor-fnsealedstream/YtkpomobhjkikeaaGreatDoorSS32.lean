import Derived.Test.YtkpomobhjkikeaaGreatDoorSS26
import Derived.Test.YtkpomobhjkikeaaGreatDoorSS29
import Derived.Test.YtkpomobhjkikeaaGreatDoorSS31
namespace Go.Proofs.YtkpomobhjkikeaaGreatDoor
set_option maxRecDepth 100000
open Go Go.RowKit Go.Shelf
theorem rd_ofK {W W' : World} {row : Option Nat} {g : Nat} {a : Option Addr} {k : IntKind} {xs : List Int} (h : Rd W g a k xs) (hg : W.grownBy W' row) (hr : ∀ r, row = some r → ∃ o : Obj, W.heap[r]? = some o ∧ o.isCells = false) : Rd W' g a k xs := by
  intro h0
  obtain ⟨o, e, hc⟩ := h h0
  exact ⟨o, e, fun i hi => cell_kept (hc i hi) hg hr⟩
theorem blk_ofK {W W' : World} {row : Option Nat} {g : Nat} {k : IntKind} {xs : List Int} (h : Blk W g k xs) (hg : W.grownBy W' row) (hr : ∀ r, row = some r → ∃ o : Obj, W.heap[r]? = some o ∧ o.isCells = false) : Blk W' g k xs := by
  obtain ⟨t, h⟩ := h
  exact ⟨t, (grownBy_keeps_cells hg hr h rfl).trans h⟩
theorem keeps_below {B : Nat} {W W' : World} (h : Below W.heap.size W W') : KeepsFrom B W W' := KeepsOthers.from ⟨h.size, fun k _ hk _ => (h.block k (Array.getElem?_eq_some_iff.1 hk).1).trans hk⟩ B
theorem rd_part {W : World} {g o : Nat} {k : IntKind} {xs : List Int} (h : Rd W g (some ⟨g, o, none⟩) k xs) (s n : Nat) (hs : s + n ≤ xs.length) : Rd W g (some ⟨g, o + s, none⟩) k ((xs.drop s).take n) := by
  intro h0
  have hl : ((xs.drop s).take n).length = n := by rw [List.length_take, List.length_drop]; omega
  rw [hl] at h0
  obtain ⟨o', e, hc⟩ := h (by omega)
  simp only [Option.some.injEq, Addr.mk.injEq, true_and, and_true] at e
  subst e
  refine ⟨o + s, rfl, fun i hi => ?_⟩
  rw [hl] at hi
  have := hc (s + i) (by omega)
  rw [← Nat.add_assoc] at this
  rw [this]
  congr 2
  rw [List.getD_eq_getElem?_getD, List.getD_eq_getElem?_getD, List.getElem?_take, if_pos hi, List.getElem?_drop]
theorem part_len (xs : List Int) (s n : Nat) (hs : s + n ≤ xs.length) : ((xs.drop s).take n).length = n := by rw [List.length_take, List.length_drop]; omega
theorem part_get (xs : List Int) (s n i : Nat) (hi : i < n) : ((xs.drop s).take n).getD i 0 = xs.getD (s + i) 0 := by
  rw [List.getD_eq_getElem?_getD, List.getD_eq_getElem?_getD, List.getElem?_take, if_pos hi, List.getElem?_drop]
theorem byt_part {xs : List Int} (h : Byt xs) (s n : Nat) : Byt ((xs.drop s).take n) := by
  intro i
  by_cases hi : i < n
  · rw [part_get xs s n i hi]; exact h _
  · rw [List.getD_eq_getElem?_getD, List.getElem?_eq_none (by rw [List.length_take]; omega)]; decide
end Go.Proofs.YtkpomobhjkikeaaGreatDoor
