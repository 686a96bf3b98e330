
/-
  The law of EncodeInteger.
-/
import Derived.Test.YtakcpkfofgiehaaIeA
import Derived.Test.YtakcpkfofgiehaaIeS
namespace Go.Proofs.Ytakcpkfofgiehaa
open Go.RowKit

set_option maxHeartbeats 2000000 in
theorem encInt_law (w : World) (n : Int) (h0 : (Lit.int .i64 n).wf = true) :
    Calls Try.prog 4 #[.int .i64 n] w fun e w' => e = .returned (.bool true) ∧ Below w.heap.size w w' := by
  have h : -9223372036854775808 ≤ n ∧ n < 9223372036854775808 := by
    have h1 : -9223372036854775808 ≤ n ∧ n ≤ 9223372036854775807 := by simpa [Lit.wf, IntKind.min, IntKind.max, IntKind.signed, IntKind.bits] using h0
    omega
  clear h0
  have hy : (eiL n).length ≤ 1048576 := by rw [eiL_len]; have := isz_bd n; omega
  have SP := fun w => specEncodeInteger_any w n
  have IM := fun w => implEncodeInteger_any w n h.1 h.2
  generalize eiL n = ys' at *
  go_enter Try.func4, Try.ntmps4
  go_wp2_with fail
  refine (SP w).mono ?_
  rintro e w2 ⟨⟨a2, c2, g2, rfl, o2, p2, q2, r2⟩, N2⟩
  have l2 := o2.rd.lt
  go_wp2_with fail
  refine (IM w2).mono ?_
  rintro e w4 ⟨⟨a4, c4, g4, rfl, o4, p4, q4, r4⟩, n4⟩
  have N4 := nxt N2 n4
  have o2' := o2.up n4
  go_wp2_with fail
  refine (eqByteS_same w4 _ _ _ _ _ _ ys' o4.rd o2'.rd hy).mono ?_
  rintro e w5 ⟨rfl, n5⟩
  have N9 := nxt N4 n5
  have o2c := o2'.up n5
  have o4c := o4.up n5
  clear o2 o2' o4 n4 n5 N4
  go_wp2_with fail
  refine (markByteS_any w5 _ _ _ ys' 1 o4c hy (by decide) (by decide)).mono ?_
  rintro e wA ⟨rfl, oA, OA⟩
  have NA := N9.trans (OA.below (B := w.heap.size) (by have := N2.size; omega))
  have o2d := o2c.only OA (fun h => by have := l2 h; omega)
  have t3 : decide ((1 : Int) + (ys'.length : Int) < 0) = false := by simp; omega
  clear o2c o4c N9 OA
  go_wp2_with fail
  refine (heldByteS_any wA _ _ _ ys'.length 1 oA.rd hy (by decide) (by decide)).mono ?_
  rintro e wA' ⟨rfl, rfl⟩
  go_wp2_with fail
  refine (IM wA').mono ?_
  rintro e wC ⟨⟨aC, cC, gC, rfl, oC, pC, qC, rC⟩, nC⟩
  have o2e := o2d.up nC
  have oAe := oA.up nC
  go_wp2_with fail
  refine (eqByteS_same wC _ _ _ _ _ _ ys' oC.rd o2e.rd hy).mono ?_
  rintro e wD ⟨rfl, nD⟩
  go_wp2_with fail
  refine (heldByteS_any wD _ _ _ ys'.length 1 (oAe.up nD).rd hy (by decide) (by decide)).mono ?_
  rintro e wD' ⟨rfl, rfl⟩
  go_wp2
  go_ret
  exact ⟨rfl, nxt (nxt NA nC) nD⟩

end Go.Proofs.Ytakcpkfofgiehaa
