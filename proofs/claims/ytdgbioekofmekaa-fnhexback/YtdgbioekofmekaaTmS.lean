
/-
  The model's calendar, digits and EncodeTime.
-/
import Derived.Test.YtdgbioekofmekaaHelp
import Derived.Test.YtdgbioekofmekaaTmN
import Derived.Test.YtdgbioekofmekaaApd
namespace Go.Proofs.Ytdgbioekofmekaa
open Go Go.RowKit

/-- A block of bytes of its own kind. -/
def Bk5 (w : World) (g : Nat) (ys : List Int) : Prop := w.heap[g]? = some (.cells (ys.map (Value.int .u8)).toArray 5 (0, 0))
theorem Bk5.blk {w : World} {g : Nat} {ys : List Int} (h : Bk5 w g ys) : Blk w g .u8 ys := ⟨5, h⟩
theorem Bk5.of_made {w : World} {base : Nat} {g n : Nat} (h : w.ownsRow base 5 1 (.slice (some ⟨g, 0, none⟩) n n) n (madeCells (Value.int .u8 0).cells (n * 1)).toList) : Bk5 w g (List.replicate n 0) := by
  obtain ⟨t, hb⟩ := Blk.of_made h
  rcases h.2 with ⟨h', _⟩ | ⟨g', cap', cur, h', _, hg, _⟩
  · simp at h'
  · simp only [Value.slice.injEq, Option.some.injEq, Addr.mk.injEq, and_true, true_and] at h'
    obtain ⟨rfl, rfl⟩ := h'
    rw [hg] at hb
    simp only [Option.some.injEq, Obj.cells.injEq, and_true] at hb
    show w.heap[g]? = _
    rw [hg, hb.1]
theorem Bk5.store {w : World} {g : Nat} {ys : List Int} (h : Bk5 w g ys) (i : Nat) (z : Int) : Bk5 (w.setCell ⟨g, i, none⟩ (.int .u8 z)) g (ys.set i z) := by
  show (w.heap.modify g _)[g]? = _
  rw [Array.getElem?_modify, if_pos rfl, h]
  show some (Obj.cells ((ys.map (Value.int .u8)).toArray.setIfInBounds i (.int .u8 z)) 5 (0, 0)) = _
  rw [List.setIfInBounds_toArray, List.map_set]
theorem Bk5.row {w : World} {g base : Nat} {ys : List Int} (h : Bk5 w g ys) (hb : base ≤ g) (hl : ys.length ≤ 1048576) : RowB w base (.slice (some ⟨g, 0, none⟩) ys.length ys.length) ys := by
  refine ⟨by simp, .inr ⟨g, ys.length, _, rfl, hb, h, Nat.le_refl _, by unfold maxLen; omega, by simp, ?_⟩⟩
  rw [List.take_of_length_le (by simp)]

/-- The parts one behind the other are the digits of all. -/
theorem dgs_parts {y : Int} {k : Nat} {x t : Int} (hk : k < 12) (x0 : 0 ≤ x) (x1 : x < 31) : dgs 4 y ++ dgs 2 ((k : Int) + 1) ++ dgs 2 (x + 1) ++ dgs 2 (t % 86400 / 3600) ++ dgs 2 (t % 3600 / 60) ++ dgs 2 (t % 60) = dgs 14 (pts y k x (t % 86400)) := by
  have e1 : t % 3600 / 60 = t % 86400 / 60 % 60 := by omega
  have e2 : t % 60 = t % 86400 % 60 := by omega
  rw [e1, e2]
  generalize hs : t % 86400 = s
  have s0 : 0 ≤ s ∧ s < 86400 := by omega
  rw [dgs_app 4 2 _ _ (by omega) (by omega), dgs_app 6 2 _ _ (by omega) (by omega), dgs_app 8 2 _ _ (by omega) (by omega), dgs_app 10 2 _ _ (by omega) (by omega), dgs_app 12 2 _ _ (by omega) (by omega)]
  rfl

end Go.Proofs.Ytdgbioekofmekaa
