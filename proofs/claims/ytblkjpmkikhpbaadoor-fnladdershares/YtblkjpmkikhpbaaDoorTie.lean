/-
  DERIVED. GIVEN WITH THE SEED: THE PROGRAM's TIES (one call each: nine closed facts by the kernel) AND EACH ROW's TIE, after the 31st guide's Derived/Test/Toyas{Tie, Card}.lean. No idea stands in it: it is a product of the set-up. Laid BY PROGRAM, IN A SANDBOX (cutbox-door.mjs). By AI agents, Wed Nov 11 2026. No macro, syntax, notation, axiom, sorry.
-/
import Derived.Test.YtblkjpmkikhpbaaDoorRows
import Derived.LaidByTextLater
import Derived.SevenTiedAt
import Derived.LaidSub
import Derived.LaidOnce
namespace Go.Proofs.YtblkjpmkikhpbaaDoor
open Go
set_option maxRecDepth 100000
theorem seatTie1 : Tryd.prog.laidByTextLater [("loop.example/g00004/impl.chainSteps", Rows.laid_loop_example_g00004_impl_chainSteps), ("loop.example/g00004/impl.inverseStep", Rows.laid_loop_example_g00004_impl_inverseStep), ("loop.example/g00004/impl.twiceP", Rows.laid_loop_example_g00004_impl_twiceP)] [.data, .data, .data] true :=
  Program.laidByTextLater_by_one 35 8 34 (by kernel_rfl) (by kernel_rfl) (by kernel_rfl) (by kernel_rfl) (by kernel_rfl) (by kernel_rfl) (fun _ _ => by kernel_rfl)
theorem noOwnUnsafe : Tryd.pinned.checked.prog.headLifts.contains "ownunsafe" = false := by kernel_rfl
theorem tie : Tryd.prog.laidByTextLater [("loop.example/g00004/impl.chainSteps", Rows.laid_loop_example_g00004_impl_chainSteps), ("loop.example/g00004/impl.inverseStep", Rows.laid_loop_example_g00004_impl_inverseStep), ("loop.example/g00004/impl.twiceP", Rows.laid_loop_example_g00004_impl_twiceP)] [.data, .data, .data] true :=
  Program.laidByTextLater.sub seatTie1 ["loop.example/g00004/impl.chainSteps", "loop.example/g00004/impl.inverseStep", "loop.example/g00004/impl.twiceP"] (by kernel_rfl) (by kernel_rfl)
theorem fnExactLadder_row_tie : Rows.fnExactLadderRow.laidByTextAt .later Tryd.pinned [.data, .data, .data] true :=
  OpenClaim.laidByTextAt_later rfl rfl tie noOwnUnsafe
theorem fnExactLadderPublic_row_tie : Rows.fnExactLadderPublicRow.laidByTextAt .later Tryd.pinned [.data, .data, .data] true :=
  OpenClaim.laidByTextAt_later rfl rfl tie noOwnUnsafe
theorem fnExactLadderShared_row_tie : Rows.fnExactLadderSharedRow.laidByTextAt .later Tryd.pinned [.data, .data, .data] true :=
  OpenClaim.laidByTextAt_later rfl rfl tie noOwnUnsafe
theorem fnLadderShares_row_tie : Rows.fnLadderSharesRow.laidByTextAt .later Tryd.pinned [.data, .data, .data] true :=
  OpenClaim.laidByTextAt_later rfl rfl tie noOwnUnsafe
theorem fnExactLadderUpto_row_tie : Rows.fnExactLadderUptoRow.laidByTextAt .later Tryd.pinned [.data, .data, .data] true :=
  OpenClaim.laidByTextAt_later rfl rfl tie noOwnUnsafe
theorem fnExactLadderPublicUpto_row_tie : Rows.fnExactLadderPublicUptoRow.laidByTextAt .later Tryd.pinned [.data, .data, .data] true :=
  OpenClaim.laidByTextAt_later rfl rfl tie noOwnUnsafe
theorem fnExactLadderSharedUpto_row_tie : Rows.fnExactLadderSharedUptoRow.laidByTextAt .later Tryd.pinned [.data, .data, .data] true :=
  OpenClaim.laidByTextAt_later rfl rfl tie noOwnUnsafe
theorem fnLadderSharesUpto_row_tie : Rows.fnLadderSharesUptoRow.laidByTextAt .later Tryd.pinned [.data, .data, .data] true :=
  OpenClaim.laidByTextAt_later rfl rfl tie noOwnUnsafe
end Go.Proofs.YtblkjpmkikhpbaaDoor
