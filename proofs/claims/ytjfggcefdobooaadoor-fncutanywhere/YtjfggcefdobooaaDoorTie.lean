/-
  DERIVED. GIVEN WITH THE SEED: THE PROGRAM's TIES (one call each: nine closed facts by the kernel) AND EACH ROW's TIE, after the 31st guide's Derived/Test/Toyas{Tie, Card}.lean. No idea stands in it: it is a product of the set-up. Laid BY PROGRAM, IN A SANDBOX (cutbox-door.mjs). By AI agents, Wed Nov 11 2026. No macro, syntax, notation, axiom, sorry.
-/
import Derived.Test.YtjfggcefdobooaaDoorRows
import Derived.LaidByTextLater
import Derived.SevenTiedAt
import Derived.LaidSub
import Derived.LaidOnce
namespace Go.Proofs.YtjfggcefdobooaaDoor
open Go
set_option maxRecDepth 100000
theorem seatTie1 : Tryd.prog.laidByTextLater [("loop.example/g00004/impl.errNotWhole", Rows.laid_loop_example_g00004_impl_errNotWhole), ("loop.example/g00004/impl.errNoKind", Rows.laid_loop_example_g00004_impl_errNoKind), ("loop.example/g00004/impl.errWrongSize", Rows.laid_loop_example_g00004_impl_errWrongSize)] [.sentinel, .sentinel, .sentinel] true :=
  Program.laidByTextLater_by_one 66 8 2 (by kernel_rfl) (by kernel_rfl) (by kernel_rfl) (by kernel_rfl) (by kernel_rfl) (by kernel_rfl) (fun _ _ => by kernel_rfl)
theorem noOwnUnsafe : Tryd.pinned.checked.prog.headLifts.contains "ownunsafe" = false := by kernel_rfl
theorem tie : Tryd.prog.laidByTextLater [("loop.example/g00004/impl.errNotWhole", Rows.laid_loop_example_g00004_impl_errNotWhole), ("loop.example/g00004/impl.errNoKind", Rows.laid_loop_example_g00004_impl_errNoKind), ("loop.example/g00004/impl.errWrongSize", Rows.laid_loop_example_g00004_impl_errWrongSize)] [.sentinel, .sentinel, .sentinel] true :=
  Program.laidByTextLater.sub seatTie1 ["loop.example/g00004/impl.errNotWhole", "loop.example/g00004/impl.errNoKind", "loop.example/g00004/impl.errWrongSize"] (by kernel_rfl) (by kernel_rfl)
theorem fnCutAnywhere_row_tie : Rows.fnCutAnywhereRow.laidByTextAt .later Tryd.pinned [.sentinel, .sentinel, .sentinel] true :=
  OpenClaim.laidByTextAt_later rfl rfl tie noOwnUnsafe
theorem fnCutAnywhereUpto_row_tie : Rows.fnCutAnywhereUptoRow.laidByTextAt .later Tryd.pinned [.sentinel, .sentinel, .sentinel] true :=
  OpenClaim.laidByTextAt_later rfl rfl tie noOwnUnsafe
end Go.Proofs.YtjfggcefdobooaaDoor
