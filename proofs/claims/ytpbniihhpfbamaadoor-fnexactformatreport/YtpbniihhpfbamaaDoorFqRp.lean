
/-
  The model's text of any world's report.
-/
import Derived.Test.YtpbniihhpfbamaaDoorFqRn
namespace Go.Proofs.YtpbniihhpfbamaaDoor
set_option maxRecDepth 100000
open Go Go.RowKit

set_option maxRecDepth 100000 in
set_option maxHeartbeats 8000000 in
theorem specFormat_all (w : World) (p : WA) (d : WD) (h : HasR w p d) (L : LnWd d) :
    Calls Tryd.prog 5 #[.agg (wrV p d)] w fun e w' => e = .returned (tx (rpT d)) ∧ Below w.heap.size w w' := by
  by_cases h0 : d.fa = 0
  · have E : rpT d = ltT (rpL d) := if_pos h0
    rw [E]
    exact specFormat_any w p d h L h0
  · have n1 : Below w.heap.size w (w.alloc (.cells (wrV p d) 39)) := (Below.refl _ _).alloc (Nat.le_refl _) _
    have T1 : RwC (w.alloc (.cells (wrV p d) 39)) w.heap.size (wrL p d) 39 := RwC.new w (wrL p d) 39
    have c0 : (w.alloc (.cells (wrV p d) 39)).cell? ⟨w.heap.size, 0, none⟩ = some (.int .i64 d.fa) := T1.cell 0
    have t0 : (d.fa != 0) = true := by simp [h0]
    have E : Hid (rpT d = faT d.fa ++ [10]) := if_neg h0
    have N1 := hide n1
    clear n1 T1 h h0
    go_enter Tryd.func5, Tryd.ntmps5
    go_upto_region 2 with fail
    generalize w.alloc (.cells (wrV p d) 39) = w1 at *
    have NW := hide (l20Number_any w1 d.fa L.fa)
    go_wp2_with fail
    refine NW.out.mono ?_
    rintro e w2 ⟨rfl, n2⟩
    have m3 : Below w2.heap.size w2 (w2.alloc (.cells #[tx [102, 97, 117, 108, 116], tx (itL d.fa)] 9)) := (Below.refl _ _).alloc (Nat.le_refl _) _
    have LI : Hid (Calls Tryd.prog 12 #[.slice (some ⟨w2.heap.size, 0, none⟩) 2 2] (w2.alloc (.cells #[tx [102, 97, 117, 108, 116], tx (itL d.fa)] 9)) _) := l20Line_any _ w2.heap.size 2 [[102, 97, 117, 108, 116], itL d.fa] (heap_alloc_new w2 _) rfl (by decide) (Nat.le_trans (one_len (by decide) L.fa) (by decide))
    have N3 := hide (nxt (nxt N1.out n2) m3)
    clear n2 m3 NW N1 c0
    unfold tx at *
    go_wp2_with fail
    refine LI.out.mono ?_
    rintro e w4 ⟨rfl, n4⟩
    have N4 := hide (nxt N3.out n4)
    clear n4 LI N3
    go_wp2
    go_ret
    exact ⟨by rw [E.out]; rfl, N4.out⟩
end Go.Proofs.YtpbniihhpfbamaaDoor
