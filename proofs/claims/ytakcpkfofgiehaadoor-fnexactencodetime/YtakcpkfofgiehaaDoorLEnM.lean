
/-
  The law of EncodeTime.
-/
import Derived.Test.YtakcpkfofgiehaaDoorTmS
import Derived.Test.YtakcpkfofgiehaaDoorLaidM
namespace Go.Proofs.YtakcpkfofgiehaaDoor
set_option maxRecDepth 100000
open Go Go.RowKit

set_option maxHeartbeats 2000000 in
theorem encTime_law (w : World) (n : Int) (_h0 : (Lit.int .i64 n).wf = true) (hL : HasQ w) :
    Calls Tryd.prog 3 #[.int .i64 n] w fun e w' => e = .returned (.bool true) ∧ Below w.heap.size w w' := by
  obtain ⟨ys', hys⟩ := etIs_some n
  have hy : ys'.length ≤ 1048576 := by have := hys.len; omega
  have SP := fun w => specEncodeTime_any w n ys' hys
  have IM := fun W (m : Below w.heap.size w W) => implEncodeTime_any W n ys' hys (hL.1.up m) (hL.2.up m)
  clear hys
  go_enter Tryd.func3, Tryd.ntmps3
  go_wp2_with fail
  refine (SP w).mono ?_
  rintro e w2 ⟨⟨a2, c2, g2, rfl, o2, p2, q2, r2⟩, N2⟩
  have l2 := o2.rd.lt
  go_wp2_with fail
  refine (IM w2 N2).mono ?_
  rintro e w4 ⟨⟨a4, c4, g4, rfl, o4, p4, q4, r4⟩, n4⟩
  have N4 := nxt N2 n4
  have o2' := o2.up n4
  go_wp2_with fail
  refine (eqByteS_same w4 _ _ _ _ _ _ ys' o4.rd o2'.rd hy).mono ?_
  rintro e w5 ⟨rfl, n5⟩
  have N9 := nxt N4 n5
  have o2c := o2'.up n5
  have o4c := o4.up n5
  clear o2 o2' o4 n4 n5 N4
  go_wp2_with fail
  refine (markByteS_any w5 _ _ _ ys' 1 o4c hy (by decide) (by decide)).mono ?_
  rintro e wA ⟨rfl, oA, OA⟩
  have NA := N9.trans (OA.below (B := w.heap.size) (by have := N2.size; omega))
  have o2d := o2c.only OA (fun h => by have := l2 h; omega)
  have t3 : decide ((1 : Int) + (ys'.length : Int) < 0) = false := by simp; omega
  clear o2c o4c N9 OA
  go_wp2_with fail
  refine (heldByteS_any wA _ _ _ ys'.length 1 oA.rd hy (by decide) (by decide)).mono ?_
  rintro e wA' ⟨rfl, rfl⟩
  go_wp2_with fail
  refine (IM wA' NA).mono ?_
  rintro e wC ⟨⟨aC, cC, gC, rfl, oC, pC, qC, rC⟩, nC⟩
  have o2e := o2d.up nC
  have oAe := oA.up nC
  go_wp2_with fail
  refine (eqByteS_same wC _ _ _ _ _ _ ys' oC.rd o2e.rd hy).mono ?_
  rintro e wD ⟨rfl, nD⟩
  go_wp2_with fail
  refine (heldByteS_any wD _ _ _ ys'.length 1 (oAe.up nD).rd hy (by decide) (by decide)).mono ?_
  rintro e wD' ⟨rfl, rfl⟩
  go_wp2
  go_ret
  exact ⟨rfl, nxt (nxt NA nC) nD⟩

end Go.Proofs.YtakcpkfofgiehaaDoor
