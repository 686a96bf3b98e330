/-
  DERIVED. GIVEN WITH THE SEED: THE PROGRAM's TIES (one call each: nine closed facts by the kernel) AND EACH ROW's TIE, after the 31st guide's Derived/Test/Toyas{Tie, Card}.lean. No idea stands in it: it is a product of the set-up. Laid BY PROGRAM, IN A SANDBOX (cutbox-door.mjs). By AI agents, Wed Nov 11 2026. No macro, syntax, notation, axiom, sorry.
-/
import Derived.Test.YtnaaanefndeafaaDoorRows
import Derived.LaidByTextLater
import Derived.SevenTiedAt
import Derived.LaidSub
import Derived.LaidOnce
namespace Go.Proofs.YtnaaanefndeafaaDoor
open Go
set_option maxRecDepth 100000
theorem seatTie1 : Tryd.prog.laidByTextLater [("loop.example/g00004/impl.chainSteps", Rows.laid_loop_example_g00004_impl_chainSteps), ("loop.example/g00004/impl.inverseStep", Rows.laid_loop_example_g00004_impl_inverseStep), ("loop.example/g00004/impl.rootStep", Rows.laid_loop_example_g00004_impl_rootStep), ("loop.example/g00004/impl.rootOfMinusOne", Rows.laid_loop_example_g00004_impl_rootOfMinusOne), ("loop.example/g00004/impl.twiceP", Rows.laid_loop_example_g00004_impl_twiceP), ("loop.example/g00004/impl.curveFactor", Rows.laid_loop_example_g00004_impl_curveFactor), ("loop.example/g00004/impl.zeroPoint", Rows.laid_loop_example_g00004_impl_zeroPoint)] [.data, .data, .data, .data, .data, .wider, .wider] true :=
  Program.laidByTextLater_by_one 56 8 34 (by kernel_rfl) (by kernel_rfl) (by kernel_rfl) (by kernel_rfl) (by kernel_rfl) (by kernel_rfl) (fun _ _ => by kernel_rfl)
theorem noOwnUnsafe : Tryd.pinned.checked.prog.headLifts.contains "ownunsafe" = false := by kernel_rfl
theorem tie : Tryd.prog.laidByTextLater [("loop.example/g00004/impl.chainSteps", Rows.laid_loop_example_g00004_impl_chainSteps), ("loop.example/g00004/impl.inverseStep", Rows.laid_loop_example_g00004_impl_inverseStep), ("loop.example/g00004/impl.twiceP", Rows.laid_loop_example_g00004_impl_twiceP), ("loop.example/g00004/impl.curveFactor", Rows.laid_loop_example_g00004_impl_curveFactor), ("loop.example/g00004/impl.zeroPoint", Rows.laid_loop_example_g00004_impl_zeroPoint)] [.data, .data, .data, .wider, .wider] true :=
  Program.laidByTextLater.sub seatTie1 ["loop.example/g00004/impl.chainSteps", "loop.example/g00004/impl.inverseStep", "loop.example/g00004/impl.twiceP", "loop.example/g00004/impl.curveFactor", "loop.example/g00004/impl.zeroPoint"] (by kernel_rfl) (by kernel_rfl)
theorem fnExactPointScale_row_tie : Rows.fnExactPointScaleRow.laidByTextAt .later Tryd.pinned [.data, .data, .data, .wider, .wider] true :=
  OpenClaim.laidByTextAt_later rfl rfl tie noOwnUnsafe
theorem tie2 : Tryd.prog.laidByTextLater [("loop.example/g00004/impl.chainSteps", Rows.laid_loop_example_g00004_impl_chainSteps), ("loop.example/g00004/impl.inverseStep", Rows.laid_loop_example_g00004_impl_inverseStep), ("loop.example/g00004/impl.rootStep", Rows.laid_loop_example_g00004_impl_rootStep), ("loop.example/g00004/impl.rootOfMinusOne", Rows.laid_loop_example_g00004_impl_rootOfMinusOne), ("loop.example/g00004/impl.twiceP", Rows.laid_loop_example_g00004_impl_twiceP), ("loop.example/g00004/impl.curveFactor", Rows.laid_loop_example_g00004_impl_curveFactor)] [.data, .data, .data, .data, .data, .wider] true :=
  Program.laidByTextLater.sub seatTie1 ["loop.example/g00004/impl.chainSteps", "loop.example/g00004/impl.inverseStep", "loop.example/g00004/impl.rootStep", "loop.example/g00004/impl.rootOfMinusOne", "loop.example/g00004/impl.twiceP", "loop.example/g00004/impl.curveFactor"] (by kernel_rfl) (by kernel_rfl)
theorem fnPointBytes_row_tie : Rows.fnPointBytesRow.laidByTextAt .later Tryd.pinned [.data, .data, .data, .data, .data, .wider] true :=
  OpenClaim.laidByTextAt_later rfl rfl tie2 noOwnUnsafe
theorem fnExactPointScaleUpto_row_tie : Rows.fnExactPointScaleUptoRow.laidByTextAt .later Tryd.pinned [.data, .data, .data, .wider, .wider] true :=
  OpenClaim.laidByTextAt_later rfl rfl tie noOwnUnsafe
theorem fnPointBytesUpto_row_tie : Rows.fnPointBytesUptoRow.laidByTextAt .later Tryd.pinned [.data, .data, .data, .data, .data, .wider] true :=
  OpenClaim.laidByTextAt_later rfl rfl tie2 noOwnUnsafe
end Go.Proofs.YtnaaanefndeafaaDoor
