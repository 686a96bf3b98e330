/-
  DERIVED. GIVEN WITH THE SEED: THE PROGRAM's TIES (one call each: nine closed facts by the kernel) AND EACH ROW's TIE, after the 31st guide's Derived/Test/Toyas{Tie, Card}.lean. No idea stands in it: it is a product of the set-up. Laid BY PROGRAM, IN A SANDBOX (cutbox-door.mjs). By AI agents, Wed Nov 11 2026. No macro, syntax, notation, axiom, sorry.
-/
import Derived.Test.YtbhmhkimddjhaaaDoorRows
import Derived.LaidByTextLater
import Derived.SevenTiedAt
import Derived.LaidSub
import Derived.LaidOnce
namespace Go.Proofs.YtbhmhkimddjhaaaDoor
open Go
set_option maxRecDepth 100000
theorem seatTie1 : Tryd.prog.laidByTextLater [("loop.example/g00004/impl.chainSteps", Rows.laid_loop_example_g00004_impl_chainSteps), ("loop.example/g00004/impl.rootStep", Rows.laid_loop_example_g00004_impl_rootStep), ("loop.example/g00004/impl.rootOfMinusOne", Rows.laid_loop_example_g00004_impl_rootOfMinusOne), ("loop.example/g00004/impl.twiceP", Rows.laid_loop_example_g00004_impl_twiceP), ("loop.example/g00004/impl.orderOfGroup", Rows.laid_loop_example_g00004_impl_orderOfGroup), ("loop.example/g00004/impl.orderSixteenfold", Rows.laid_loop_example_g00004_impl_orderSixteenfold), ("loop.example/g00004/impl.orderFolds", Rows.laid_loop_example_g00004_impl_orderFolds)] [.data, .data, .data, .data, .wider, .data, .data] true :=
  Program.laidByTextLater_by_one 59 8 34 (by kernel_rfl) (by kernel_rfl) (by kernel_rfl) (by kernel_rfl) (by kernel_rfl) (by kernel_rfl) (fun _ _ => by kernel_rfl)
theorem noOwnUnsafe : Tryd.pinned.checked.prog.headLifts.contains "ownunsafe" = false := by kernel_rfl
theorem tie : Tryd.prog.laidByTextLater [("loop.example/g00004/impl.orderOfGroup", Rows.laid_loop_example_g00004_impl_orderOfGroup)] [.wider] true :=
  Program.laidByTextLater.sub seatTie1 ["loop.example/g00004/impl.orderOfGroup"] (by kernel_rfl) (by kernel_rfl)
theorem fnExactOrderBytes_row_tie : Rows.fnExactOrderBytesRow.laidByTextAt .later Tryd.pinned [.wider] true :=
  OpenClaim.laidByTextAt_later rfl rfl tie noOwnUnsafe
theorem fnExactOrderValid_row_tie : Rows.fnExactOrderValidRow.laidByTextAt .later Tryd.pinned [.wider] true :=
  OpenClaim.laidByTextAt_later rfl rfl tie noOwnUnsafe
theorem tie2 : Tryd.prog.laidByTextLater [("loop.example/g00004/impl.orderOfGroup", Rows.laid_loop_example_g00004_impl_orderOfGroup), ("loop.example/g00004/impl.orderSixteenfold", Rows.laid_loop_example_g00004_impl_orderSixteenfold), ("loop.example/g00004/impl.orderFolds", Rows.laid_loop_example_g00004_impl_orderFolds)] [.wider, .data, .data] true :=
  Program.laidByTextLater.sub seatTie1 ["loop.example/g00004/impl.orderOfGroup", "loop.example/g00004/impl.orderSixteenfold", "loop.example/g00004/impl.orderFolds"] (by kernel_rfl) (by kernel_rfl)
theorem fnExactOrderReduce_row_tie : Rows.fnExactOrderReduceRow.laidByTextAt .later Tryd.pinned [.wider, .data, .data] true :=
  OpenClaim.laidByTextAt_later rfl rfl tie2 noOwnUnsafe
theorem fnExactOrderMulAdd_row_tie : Rows.fnExactOrderMulAddRow.laidByTextAt .later Tryd.pinned [.wider, .data, .data] true :=
  OpenClaim.laidByTextAt_later rfl rfl tie2 noOwnUnsafe
theorem fnOrderByNumbers_row_tie : Rows.fnOrderByNumbersRow.laidByTextAt .later Tryd.pinned [.wider, .data, .data] true :=
  OpenClaim.laidByTextAt_later rfl rfl tie2 noOwnUnsafe
theorem tie3 : Tryd.prog.laidByTextLater [("loop.example/g00004/impl.chainSteps", Rows.laid_loop_example_g00004_impl_chainSteps), ("loop.example/g00004/impl.rootStep", Rows.laid_loop_example_g00004_impl_rootStep), ("loop.example/g00004/impl.rootOfMinusOne", Rows.laid_loop_example_g00004_impl_rootOfMinusOne), ("loop.example/g00004/impl.twiceP", Rows.laid_loop_example_g00004_impl_twiceP)] [.data, .data, .data, .data] true :=
  Program.laidByTextLater.sub seatTie1 ["loop.example/g00004/impl.chainSteps", "loop.example/g00004/impl.rootStep", "loop.example/g00004/impl.rootOfMinusOne", "loop.example/g00004/impl.twiceP"] (by kernel_rfl) (by kernel_rfl)
theorem fnExactFieldRoot_row_tie : Rows.fnExactFieldRootRow.laidByTextAt .later Tryd.pinned [.data, .data, .data, .data] true :=
  OpenClaim.laidByTextAt_later rfl rfl tie3 noOwnUnsafe
theorem fnFieldSquares_row_tie : Rows.fnFieldSquaresRow.laidByTextAt .later Tryd.pinned [.data, .data, .data, .data] true :=
  OpenClaim.laidByTextAt_later rfl rfl tie3 noOwnUnsafe
theorem tie4 : Tryd.prog.laidByTextLater [("loop.example/g00004/impl.twiceP", Rows.laid_loop_example_g00004_impl_twiceP)] [.data] true :=
  Program.laidByTextLater.sub seatTie1 ["loop.example/g00004/impl.twiceP"] (by kernel_rfl) (by kernel_rfl)
theorem fnFieldRing_row_tie : Rows.fnFieldRingRow.laidByTextAt .later Tryd.pinned [.data] true :=
  OpenClaim.laidByTextAt_later rfl rfl tie4 noOwnUnsafe
theorem fnExactOrderBytesUpto_row_tie : Rows.fnExactOrderBytesUptoRow.laidByTextAt .later Tryd.pinned [.wider] true :=
  OpenClaim.laidByTextAt_later rfl rfl tie noOwnUnsafe
theorem fnExactOrderValidUpto_row_tie : Rows.fnExactOrderValidUptoRow.laidByTextAt .later Tryd.pinned [.wider] true :=
  OpenClaim.laidByTextAt_later rfl rfl tie noOwnUnsafe
theorem fnExactOrderReduceUpto_row_tie : Rows.fnExactOrderReduceUptoRow.laidByTextAt .later Tryd.pinned [.wider, .data, .data] true :=
  OpenClaim.laidByTextAt_later rfl rfl tie2 noOwnUnsafe
theorem fnExactOrderMulAddUpto_row_tie : Rows.fnExactOrderMulAddUptoRow.laidByTextAt .later Tryd.pinned [.wider, .data, .data] true :=
  OpenClaim.laidByTextAt_later rfl rfl tie2 noOwnUnsafe
theorem fnOrderByNumbersUpto_row_tie : Rows.fnOrderByNumbersUptoRow.laidByTextAt .later Tryd.pinned [.wider, .data, .data] true :=
  OpenClaim.laidByTextAt_later rfl rfl tie2 noOwnUnsafe
theorem fnExactFieldRootUpto_row_tie : Rows.fnExactFieldRootUptoRow.laidByTextAt .later Tryd.pinned [.data, .data, .data, .data] true :=
  OpenClaim.laidByTextAt_later rfl rfl tie3 noOwnUnsafe
theorem fnFieldSquaresUpto_row_tie : Rows.fnFieldSquaresUptoRow.laidByTextAt .later Tryd.pinned [.data, .data, .data, .data] true :=
  OpenClaim.laidByTextAt_later rfl rfl tie3 noOwnUnsafe
theorem fnFieldRingUpto_row_tie : Rows.fnFieldRingUptoRow.laidByTextAt .later Tryd.pinned [.data] true :=
  OpenClaim.laidByTextAt_later rfl rfl tie4 noOwnUnsafe
end Go.Proofs.YtbhmhkimddjhaaaDoor
