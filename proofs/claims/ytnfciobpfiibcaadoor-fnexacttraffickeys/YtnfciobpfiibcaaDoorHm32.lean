
/-
  More is handed in to a good hash state.
-/
import Derived.Test.YtnfciobpfiibcaaDoorHr32
namespace Go.Proofs.YtnfciobpfiibcaaDoor
set_option maxRecDepth 100000
open Go Go.RowKit

theorem S8.ext_l {C D : S8} (h : C.l = D.l) : C = D := by
  cases C
  cases D
  simp only [S8.l, List.cons.injEq, and_true] at h
  obtain ⟨rfl, rfl, rfl, rfl, rfl, rfl, rfl, rfl⟩ := h
  rfl
end Go.Proofs.YtnfciobpfiibcaaDoor
