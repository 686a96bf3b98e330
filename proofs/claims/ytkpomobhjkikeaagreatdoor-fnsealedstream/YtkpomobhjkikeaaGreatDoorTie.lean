/-
  DERIVED. GIVEN WITH THE SEED: THE PROGRAM's TIES (one call each: nine closed facts by the kernel) AND EACH ROW's TIE, after the 31st guide's Derived/Test/Toyas{Tie, Card}.lean. No idea stands in it: it is a product of the set-up. Laid BY PROGRAM, IN A SANDBOX (cutbox-door.mjs). By AI agents, Wed Nov 11 2026. No macro, syntax, notation, axiom, sorry.
-/
import Derived.Test.YtkpomobhjkikeaaGreatDoorRows
import Derived.LaidByTextLater
import Derived.SevenTiedAt
import Derived.LaidSub
import Derived.LaidOnce
namespace Go.Proofs.YtkpomobhjkikeaaGreatDoor
open Go
set_option maxRecDepth 100000
theorem seatTie1 : Tryz.prog.laidByTextLater [("unicode/utf8.acceptRanges", Rows.laid_unicode_utf8_acceptRanges), ("loop.example/g00004/impl.errNotWhole", Rows.laid_loop_example_g00004_impl_errNotWhole), ("loop.example/g00004/impl.errNoKind", Rows.laid_loop_example_g00004_impl_errNoKind), ("loop.example/g00004/impl.errWrongSize", Rows.laid_loop_example_g00004_impl_errWrongSize), ("loop.example/g00004/impl.errWrongKeys", Rows.laid_loop_example_g00004_impl_errWrongKeys), ("loop.example/g00004/impl.errNotOpened", Rows.laid_loop_example_g00004_impl_errNotOpened), ("loop.example/g00004/impl.errAllPad", Rows.laid_loop_example_g00004_impl_errAllPad), ("loop.example/g00004/impl.errMuchData", Rows.laid_loop_example_g00004_impl_errMuchData), ("loop.example/g00004/impl.errNoData", Rows.laid_loop_example_g00004_impl_errNoData)] [.data, .sentinel, .sentinel, .sentinel, .sentinel, .sentinel, .sentinel, .sentinel, .sentinel] true :=
  Program.laidByTextLater_by_one 171 8 33 (by kernel_rfl) (by kernel_rfl) (by kernel_rfl) (by kernel_rfl) (by kernel_rfl) (by kernel_rfl) (fun _ _ => by kernel_rfl)
theorem pin_laid_unicode_utf8_first : Tryz.pinned.checked.prog.pinnedFits "unicode/utf8.first" = true := by kernel_rfl
theorem noOwnUnsafe : Tryz.pinned.checked.prog.headLifts.contains "ownunsafe" = false := by kernel_rfl
theorem fits1 : Tryz.pinned.checked.prog.listedFits [("unicode/utf8.acceptRanges", Rows.laid_unicode_utf8_acceptRanges), ("loop.example/g00004/impl.errNotWhole", Rows.laid_loop_example_g00004_impl_errNotWhole), ("loop.example/g00004/impl.errNoKind", Rows.laid_loop_example_g00004_impl_errNoKind), ("loop.example/g00004/impl.errWrongSize", Rows.laid_loop_example_g00004_impl_errWrongSize), ("loop.example/g00004/impl.errWrongKeys", Rows.laid_loop_example_g00004_impl_errWrongKeys), ("loop.example/g00004/impl.errNotOpened", Rows.laid_loop_example_g00004_impl_errNotOpened), ("loop.example/g00004/impl.errAllPad", Rows.laid_loop_example_g00004_impl_errAllPad), ("loop.example/g00004/impl.errMuchData", Rows.laid_loop_example_g00004_impl_errMuchData), ("loop.example/g00004/impl.errNoData", Rows.laid_loop_example_g00004_impl_errNoData), ("unicode/utf8.first", Rows.laid_unicode_utf8_first)] = true := by
  unfold Program.listedFits
  rw [noOwnUnsafe]
  kernel_rfl
theorem tie : Tryz.prog.laidByTextLater [("unicode/utf8.acceptRanges", Rows.laid_unicode_utf8_acceptRanges), ("loop.example/g00004/impl.errNotWhole", Rows.laid_loop_example_g00004_impl_errNotWhole), ("loop.example/g00004/impl.errNoKind", Rows.laid_loop_example_g00004_impl_errNoKind), ("loop.example/g00004/impl.errWrongSize", Rows.laid_loop_example_g00004_impl_errWrongSize), ("loop.example/g00004/impl.errWrongKeys", Rows.laid_loop_example_g00004_impl_errWrongKeys), ("loop.example/g00004/impl.errNotOpened", Rows.laid_loop_example_g00004_impl_errNotOpened), ("loop.example/g00004/impl.errAllPad", Rows.laid_loop_example_g00004_impl_errAllPad), ("loop.example/g00004/impl.errMuchData", Rows.laid_loop_example_g00004_impl_errMuchData), ("loop.example/g00004/impl.errNoData", Rows.laid_loop_example_g00004_impl_errNoData)] [.data, .sentinel, .sentinel, .sentinel, .sentinel, .sentinel, .sentinel, .sentinel, .sentinel] true :=
  Program.laidByTextLater.sub seatTie1 ["unicode/utf8.acceptRanges", "loop.example/g00004/impl.errNotWhole", "loop.example/g00004/impl.errNoKind", "loop.example/g00004/impl.errWrongSize", "loop.example/g00004/impl.errWrongKeys", "loop.example/g00004/impl.errNotOpened", "loop.example/g00004/impl.errAllPad", "loop.example/g00004/impl.errMuchData", "loop.example/g00004/impl.errNoData"] (by kernel_rfl) (by kernel_rfl)
theorem fnSealedStream_row_tie : Rows.fnSealedStreamRow.laidByTextAt .later Tryz.pinned [.data, .sentinel, .sentinel, .sentinel, .sentinel, .sentinel, .sentinel, .sentinel, .sentinel, .pinned] true :=
  OpenClaim.laidByTextAt_pinned rfl rfl tie rfl rfl rfl rfl (fun y hy _e => by
    simp only [Rows.fnSealedStreamRow, List.zip_cons_cons, List.zip_nil_right, List.mem_cons, List.mem_nil_iff, or_false] at hy
    rcases hy with rfl | rfl | rfl | rfl | rfl | rfl | rfl | rfl | rfl | rfl
    · cases _e
    · cases _e
    · cases _e
    · cases _e
    · cases _e
    · cases _e
    · cases _e
    · cases _e
    · cases _e
    · exact ⟨pin_laid_unicode_utf8_first, by kernel_rfl⟩) fits1
theorem fnSealedStreamUpto_row_tie : Rows.fnSealedStreamUptoRow.laidByTextAt .later Tryz.pinned [.data, .sentinel, .sentinel, .sentinel, .sentinel, .sentinel, .sentinel, .sentinel, .sentinel, .pinned] true :=
  OpenClaim.laidByTextAt_pinned rfl rfl tie rfl rfl rfl rfl (fun y hy _e => by
    simp only [Rows.fnSealedStreamUptoRow, List.zip_cons_cons, List.zip_nil_right, List.mem_cons, List.mem_nil_iff, or_false] at hy
    rcases hy with rfl | rfl | rfl | rfl | rfl | rfl | rfl | rfl | rfl | rfl
    · cases _e
    · cases _e
    · cases _e
    · cases _e
    · cases _e
    · cases _e
    · cases _e
    · cases _e
    · cases _e
    · exact ⟨pin_laid_unicode_utf8_first, by kernel_rfl⟩) fits1
end Go.Proofs.YtkpomobhjkikeaaGreatDoor
