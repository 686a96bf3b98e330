/-
  DERIVED. GIVEN WITH THE SEED: THE PROGRAM's TIES (one call each: nine closed facts by the kernel) AND EACH ROW's TIE, after the 31st guide's Derived/Test/Toyas{Tie, Card}.lean. No idea stands in it: it is a product of the set-up. Laid BY PROGRAM, IN A SANDBOX (cutbox-door.mjs). By AI agents, Wed Nov 11 2026. No macro, syntax, notation, axiom, sorry.
-/
import Derived.Test.YteedfhljbdnmnaaGreatDoorRows
import Derived.LaidByTextLater
import Derived.SevenTiedAt
import Derived.LaidSub
import Derived.LaidOnce
namespace Go.Proofs.YteedfhljbdnmnaaGreatDoor
open Go
set_option maxRecDepth 100000
theorem seatTie1 : Tryz.prog.laidByTextLater [("loop.example/g00004/impl.chainSteps", Rows.laid_loop_example_g00004_impl_chainSteps), ("loop.example/g00004/impl.inverseStep", Rows.laid_loop_example_g00004_impl_inverseStep), ("loop.example/g00004/impl.twiceP", Rows.laid_loop_example_g00004_impl_twiceP), ("loop.example/g00004/impl.startWords", Rows.laid_loop_example_g00004_impl_startWords), ("loop.example/g00004/impl.stepWords", Rows.laid_loop_example_g00004_impl_stepWords)] [.data, .data, .data, .data, .data] true :=
  Program.laidByTextLater_by_one 45 8 81 (by kernel_rfl) (by kernel_rfl) (by kernel_rfl) (by kernel_rfl) (by kernel_rfl) (by kernel_rfl) (fun _ _ => by kernel_rfl)
theorem noOwnUnsafe : Tryz.pinned.checked.prog.headLifts.contains "ownunsafe" = false := by kernel_rfl
theorem tie : Tryz.prog.laidByTextLater [("loop.example/g00004/impl.chainSteps", Rows.laid_loop_example_g00004_impl_chainSteps), ("loop.example/g00004/impl.inverseStep", Rows.laid_loop_example_g00004_impl_inverseStep), ("loop.example/g00004/impl.twiceP", Rows.laid_loop_example_g00004_impl_twiceP), ("loop.example/g00004/impl.startWords", Rows.laid_loop_example_g00004_impl_startWords), ("loop.example/g00004/impl.stepWords", Rows.laid_loop_example_g00004_impl_stepWords)] [.data, .data, .data, .data, .data] true :=
  Program.laidByTextLater.sub seatTie1 ["loop.example/g00004/impl.chainSteps", "loop.example/g00004/impl.inverseStep", "loop.example/g00004/impl.twiceP", "loop.example/g00004/impl.startWords", "loop.example/g00004/impl.stepWords"] (by kernel_rfl) (by kernel_rfl)
theorem fnSchedulesAgree_row_tie : Rows.fnSchedulesAgreeRow.laidByTextAt .later Tryz.pinned [.data, .data, .data, .data, .data] true :=
  OpenClaim.laidByTextAt_later rfl rfl tie noOwnUnsafe
theorem fnSchedulesAgreeUpto_row_tie : Rows.fnSchedulesAgreeUptoRow.laidByTextAt .later Tryz.pinned [.data, .data, .data, .data, .data] true :=
  OpenClaim.laidByTextAt_later rfl rfl tie noOwnUnsafe
end Go.Proofs.YteedfhljbdnmnaaGreatDoor
