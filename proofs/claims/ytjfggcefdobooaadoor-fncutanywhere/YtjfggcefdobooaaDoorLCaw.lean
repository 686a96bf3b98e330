
/-
  FnCutAnywhere: the errors that its code reads, as they are laid.
-/
import Derived.Test.YtjfggcefdobooaaDoorRows
import Derived.Test.YtjfggcefdobooaaDoorCaW
namespace Go.Proofs.YtjfggcefdobooaaDoor
set_option maxRecDepth 100000
open Go Go.RowKit

theorem laid_cutAny {W : World} (h : laidMetH Tryd.prog Rows.fnCutAnywhereRow.laid W) : HasR3c W := by
  obtain ⟨x0, y0, h0, k0, e0⟩ := sen_pair h (by kernel_rfl) (n0 := "loop.example/g00004/impl.errNotWhole") (n1 := "loop.example/g00004/impl.errNoKind") (.cons_cons _ (.cons_cons _ (.cons _ (.slnil)))) (g0 := 0) (g1 := 1) (by kernel_rfl) (by kernel_rfl) (by kernel_rfl) (by kernel_rfl)
  obtain ⟨x1, y1, h1, k1, e1⟩ := sen_pair h (by kernel_rfl) (n0 := "loop.example/g00004/impl.errNotWhole") (n1 := "loop.example/g00004/impl.errWrongSize") (.cons_cons _ (.cons _ (.cons_cons _ (.slnil)))) (g0 := 0) (g1 := 2) (by kernel_rfl) (by kernel_rfl) (by kernel_rfl) (by kernel_rfl)
  obtain rfl := Sen.same h0 h1
  obtain ⟨x2, y2, h2, k2, e2⟩ := sen_pair h (by kernel_rfl) (n0 := "loop.example/g00004/impl.errNoKind") (n1 := "loop.example/g00004/impl.errWrongSize") (.cons _ (.cons_cons _ (.cons_cons _ (.slnil)))) (g0 := 1) (g1 := 2) (by kernel_rfl) (by kernel_rfl) (by kernel_rfl) (by kernel_rfl)
  obtain rfl := Sen.same k0 h2
  obtain rfl := Sen.same k1 k2
  exact ⟨_, _, _, h0, k0, k1, e0, e1, e2⟩
end Go.Proofs.YtjfggcefdobooaaDoor
