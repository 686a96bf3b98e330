
/-
  The product of elements, with its value.
-/
import Derived.Test.YtnaaanefndeafaaDoorMul
namespace Go.Proofs.YtnaaanefndeafaaDoor
set_option maxRecDepth 100000
open Go.RowKit
theorem mulE_any (w : World) (e f : Nat → Int) (he : Lm e) (hf : Lm f) :
    Calls Tryd.prog 100 #[ag5 e, ag5 f] w fun r w' => ∃ t, r = .returned (ag5 t) ∧ Lm t ∧ sv t 5 = (sv e 5 * sv f 5) % PP ∧ Below w.heap.size w w' := by
  refine (mul_any w e f he hf).mono ?_
  rintro r w' ⟨rfl, n⟩
  obtain ⟨_, h2, h3⟩ := mul_ok he hf
  exact ⟨_, rfl, h3, h2, n⟩
end Go.Proofs.YtnaaanefndeafaaDoor
