import Derived.Test.YtkglcainhkbgbaaGreatDoorSG28
import Derived.Test.YtkglcainhkbgbaaGreatDoorSG32
namespace Go.Proofs.YtkglcainhkbgbaaGreatDoor
set_option maxRecDepth 100000
open Go.RowKit
theorem Blk.setRow {w : World} {g : Nat} {k : IntKind} {ys zs : List Int} (h : Blk w g k ys) : Blk (w.setRow g ((zs.map (Value.int k)).toArray)) g k zs := by
  obtain ⟨e, h⟩ := h
  exact ⟨e, setRow_heap _ _ _ _ _ _ h⟩
theorem Blk.row {w : World} {g g' : Nat} {k : IntKind} {ys : List Int} {cs : Array Value} (h : Blk w g k ys) (hne : g ≠ g') : Blk (w.setRow g' cs) g k ys :=
  h.of_block (setRow_other w g' g cs hne)
end Go.Proofs.YtkglcainhkbgbaaGreatDoor
