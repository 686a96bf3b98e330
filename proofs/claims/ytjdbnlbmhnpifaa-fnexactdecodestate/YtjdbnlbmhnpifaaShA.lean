
/-
  A short text appended: its length is one byte; the program's.
-/
import Derived.Test.YtjdbnlbmhnpifaaTxA
import Derived.Test.YtjdbnlbmhnpifaaNbA
namespace Go.Proofs.Ytjdbnlbmhnpifaa
open Go Go.RowKit

/-- A text, its length ahead. -/
def shL (l : List UInt8) : List Int := bigL (l.length : Int) 1 ++ txL l
theorem shL_len (l : List UInt8) : (shL l).length = l.length + 1 := by simp [shL, bigL_len, txL_len]; omega
set_option maxHeartbeats 1000000 in
theorem appendShort_any (w : World) (base : Nat) (v : Value) (xs : List Int) (R0 : RowB w base v xs) (hb : base ≤ w.heap.size) (l : List UInt8) (hl : xs.length ≤ 1073741824) (hz : l.length ≤ 1048576) :
    Calls Try.prog 34 #[v, .string ⟨⟨l⟩⟩] w fun e w' => ∃ v', e = .returned v' ∧ RowB w' base v' (xs ++ shL l) ∧ Below base w w' := by
  obtain ⟨i0, hi, hz0, hz1, hz2⟩ := info_parts Try.info5
  have C1 := hide (appendNum_any w base v xs R0 hb (l.length : Int) 1 (by omega) hl)
  have sz := tx_size l
  go_enter Try.func34, Try.ntmps34
  go_wp2_with fail
  refine C1.out.mono ?_
  rintro r w1 ⟨v1, rfl, R1, n1⟩
  have s1 := n1.size
  obtain ⟨v2, w2, hap, R2, n2⟩ := appendT_any (P := Try.prog) w1 22 i0 Try.underlying22 Try.underlying9 hi hz0 hz1 hz2 base base _ _ R1 l (by rw [List.length_append, bigL_len]; omega) (Nat.le_refl _) (by omega)
  rw [List.append_assoc] at R2
  have N2 := n1.trans n2
  clear R1 n1 n2 C1 R0
  go_wp2_with (at_builtin; refine Lib.wpList_append_run _ rfl _ _ 22 9 rfl _ _ rfl rfl _ _ hap ?_)
  go_ret
  exact ⟨_, rfl, R2, N2⟩
end Go.Proofs.Ytjdbnlbmhnpifaa
