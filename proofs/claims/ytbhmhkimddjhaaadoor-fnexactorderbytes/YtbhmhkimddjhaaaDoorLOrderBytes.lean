/-
  The law of OrderBytes.
-/
import Derived.Test.YtbhmhkimddjhaaaDoorSca
import Derived.Test.YtbhmhkimddjhaaaDoorSpQ
namespace Go.Proofs.YtbhmhkimddjhaaaDoor
set_option maxRecDepth 100000
open Go.RowKit

set_option maxHeartbeats 2000000 in
theorem orderBytes_law (w : World) (hQ : HasW w 0 qw 4) :
    Calls Tryd.prog 3 #[] w fun e w' => e = .returned (.bool true) ∧ Below w.heap.size w w' := by
  have hy : (fill (byt QQ) 32).length ≤ 1048576 := by rw [fill_len]; omega
  obtain ⟨ys', hys⟩ : ∃ ys, ys = fill (byt QQ) 32 := ⟨_, rfl⟩
  have SP := fun w => specOrderBytes_any w
  have IM := fun w h => implOrderBytes_any w h
  simp only [← hys] at SP IM hy
  clear hys
  go_enter Tryd.func3, Tryd.ntmps3
  go_wp2_with fail
  refine (SP w).mono ?_
  rintro e w2 ⟨⟨a2, c2, g2, rfl, o2, p2, q2, r2⟩, n2⟩
  have l2 := o2.rd.lt
  go_wp2_with fail
  refine (IM w2 (hQ.up n2)).mono ?_
  rintro e w4 ⟨⟨a4, c4, g4, rfl, o4, p4, q4, r4⟩, n4⟩
  have N4 := nxt n2 n4
  have o2' := o2.up n4
  have z := n2.size
  go_wp2_with fail
  refine (eqByteS_same w4 _ _ _ _ _ _ ys' o4.rd o2'.rd hy).mono ?_
  rintro e w5 ⟨rfl, n5⟩
  have N5 := nxt N4 n5
  have o2'' := o2'.up n5
  have o4' := o4.up n5
  go_wp2_with fail
  refine (markByteS_any w5 _ _ _ ys' 1 o4' hy (by decide) (by decide)).mono ?_
  rintro e wA ⟨rfl, oA, OA⟩
  have NA := N5.trans (OA.below (B := w.heap.size) (by omega))
  have o2d := o2''.only OA (fun h => by have := l2 h; omega)
  have t3 : decide ((1 : Int) + (ys'.length : Int) < 0) = false := by simp; omega
  clear o2'' o4' N5 OA o2 o2' o4 n4 n5 N4
  go_wp2_with fail
  refine (heldByteS_any wA _ _ _ ys'.length 1 oA.rd hy (by decide) (by decide)).mono ?_
  rintro e wA' ⟨rfl, rfl⟩
  go_wp2_with fail
  refine (IM wA' (hQ.up NA)).mono ?_
  rintro e wC ⟨⟨aC, cC, gC, rfl, oC, pC, qC, rC⟩, nC⟩
  have o2e := o2d.up nC
  have oAe := oA.up nC
  go_wp2_with fail
  refine (eqByteS_same wC _ _ _ _ _ _ ys' oC.rd o2e.rd hy).mono ?_
  rintro e wD ⟨rfl, nD⟩
  go_wp2_with fail
  refine (heldByteS_any wD _ _ _ ys'.length 1 (oAe.up nD).rd hy (by decide) (by decide)).mono ?_
  rintro e wD' ⟨rfl, rfl⟩
  go_wp2
  go_ret
  exact ⟨rfl, nxt (nxt NA nC) nD⟩
end Go.Proofs.YtbhmhkimddjhaaaDoor
