/-
  DERIVED. GIVEN WITH THE SEED: THE PROGRAM's TIES (one call each: nine closed facts by the kernel) AND EACH ROW's TIE, after the 31st guide's Derived/Test/Toyas{Tie, Card}.lean. No idea stands in it: it is a product of the set-up. Laid BY PROGRAM, IN A SANDBOX (cutbox-door.mjs). By AI agents, Wed Nov 11 2026. No macro, syntax, notation, axiom, sorry.
-/
import Derived.Test.YtgecfmagpliepaaDoorRows
import Derived.LaidByTextLater
import Derived.SevenTiedAt
import Derived.LaidSub
import Derived.LaidOnce
namespace Go.Proofs.YtgecfmagpliepaaDoor
open Go
set_option maxRecDepth 100000
theorem seatTie1 : Tryd.prog.laidByTextLater [("loop.example/g00004/impl.chainSteps", Rows.laid_loop_example_g00004_impl_chainSteps), ("loop.example/g00004/impl.inverseStep", Rows.laid_loop_example_g00004_impl_inverseStep), ("loop.example/g00004/impl.rootStep", Rows.laid_loop_example_g00004_impl_rootStep), ("loop.example/g00004/impl.rootOfMinusOne", Rows.laid_loop_example_g00004_impl_rootOfMinusOne), ("loop.example/g00004/impl.twiceP", Rows.laid_loop_example_g00004_impl_twiceP)] [.data, .data, .data, .data, .data] true :=
  Program.laidByTextLater_by_one 45 8 34 (by kernel_rfl) (by kernel_rfl) (by kernel_rfl) (by kernel_rfl) (by kernel_rfl) (by kernel_rfl) (fun _ _ => by kernel_rfl)
theorem noOwnUnsafe : Tryd.pinned.checked.prog.headLifts.contains "ownunsafe" = false := by kernel_rfl
theorem tie : Tryd.prog.laidByTextLater [("loop.example/g00004/impl.twiceP", Rows.laid_loop_example_g00004_impl_twiceP)] [.data] true :=
  Program.laidByTextLater.sub seatTie1 ["loop.example/g00004/impl.twiceP"] (by kernel_rfl) (by kernel_rfl)
theorem fnExactFieldSub_row_tie : Rows.fnExactFieldSubRow.laidByTextAt .later Tryd.pinned [.data] true :=
  OpenClaim.laidByTextAt_later rfl rfl tie noOwnUnsafe
theorem fnFieldRing_row_tie : Rows.fnFieldRingRow.laidByTextAt .later Tryd.pinned [.data] true :=
  OpenClaim.laidByTextAt_later rfl rfl tie noOwnUnsafe
theorem tie2 : Tryd.prog.laidByTextLater [("loop.example/g00004/impl.chainSteps", Rows.laid_loop_example_g00004_impl_chainSteps), ("loop.example/g00004/impl.inverseStep", Rows.laid_loop_example_g00004_impl_inverseStep)] [.data, .data] true :=
  Program.laidByTextLater.sub seatTie1 ["loop.example/g00004/impl.chainSteps", "loop.example/g00004/impl.inverseStep"] (by kernel_rfl) (by kernel_rfl)
theorem fnExactFieldInvert_row_tie : Rows.fnExactFieldInvertRow.laidByTextAt .later Tryd.pinned [.data, .data] true :=
  OpenClaim.laidByTextAt_later rfl rfl tie2 noOwnUnsafe
theorem fnFieldInverse_row_tie : Rows.fnFieldInverseRow.laidByTextAt .later Tryd.pinned [.data, .data] true :=
  OpenClaim.laidByTextAt_later rfl rfl tie2 noOwnUnsafe
theorem tie3 : Tryd.prog.laidByTextLater [("loop.example/g00004/impl.chainSteps", Rows.laid_loop_example_g00004_impl_chainSteps), ("loop.example/g00004/impl.rootStep", Rows.laid_loop_example_g00004_impl_rootStep), ("loop.example/g00004/impl.rootOfMinusOne", Rows.laid_loop_example_g00004_impl_rootOfMinusOne), ("loop.example/g00004/impl.twiceP", Rows.laid_loop_example_g00004_impl_twiceP)] [.data, .data, .data, .data] true :=
  Program.laidByTextLater.sub seatTie1 ["loop.example/g00004/impl.chainSteps", "loop.example/g00004/impl.rootStep", "loop.example/g00004/impl.rootOfMinusOne", "loop.example/g00004/impl.twiceP"] (by kernel_rfl) (by kernel_rfl)
theorem fnExactFieldRoot_row_tie : Rows.fnExactFieldRootRow.laidByTextAt .later Tryd.pinned [.data, .data, .data, .data] true :=
  OpenClaim.laidByTextAt_later rfl rfl tie3 noOwnUnsafe
theorem fnFieldSquares_row_tie : Rows.fnFieldSquaresRow.laidByTextAt .later Tryd.pinned [.data, .data, .data, .data] true :=
  OpenClaim.laidByTextAt_later rfl rfl tie3 noOwnUnsafe
theorem fnExactFieldSubUpto_row_tie : Rows.fnExactFieldSubUptoRow.laidByTextAt .later Tryd.pinned [.data] true :=
  OpenClaim.laidByTextAt_later rfl rfl tie noOwnUnsafe
theorem fnExactFieldInvertUpto_row_tie : Rows.fnExactFieldInvertUptoRow.laidByTextAt .later Tryd.pinned [.data, .data] true :=
  OpenClaim.laidByTextAt_later rfl rfl tie2 noOwnUnsafe
theorem fnFieldInverseUpto_row_tie : Rows.fnFieldInverseUptoRow.laidByTextAt .later Tryd.pinned [.data, .data] true :=
  OpenClaim.laidByTextAt_later rfl rfl tie2 noOwnUnsafe
theorem fnExactFieldRootUpto_row_tie : Rows.fnExactFieldRootUptoRow.laidByTextAt .later Tryd.pinned [.data, .data, .data, .data] true :=
  OpenClaim.laidByTextAt_later rfl rfl tie3 noOwnUnsafe
theorem fnFieldSquaresUpto_row_tie : Rows.fnFieldSquaresUptoRow.laidByTextAt .later Tryd.pinned [.data, .data, .data, .data] true :=
  OpenClaim.laidByTextAt_later rfl rfl tie3 noOwnUnsafe
theorem fnFieldRingUpto_row_tie : Rows.fnFieldRingUptoRow.laidByTextAt .later Tryd.pinned [.data] true :=
  OpenClaim.laidByTextAt_later rfl rfl tie noOwnUnsafe
end Go.Proofs.YtgecfmagpliepaaDoor
