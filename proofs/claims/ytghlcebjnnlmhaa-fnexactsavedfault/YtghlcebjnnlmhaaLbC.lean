
/-
  The program's NameFault.
-/
import Derived.Test.YtghlcebjnnlmhaaLbA
namespace Go.Proofs.Ytghlcebjnnlmhaa
open Go Go.RowKit

set_option maxRecDepth 100000 in
set_option maxHeartbeats 1000000 in
theorem implNameFault_any (w : World) (l : List UInt8) (hl : l.length ≤ 9223372036854775807) :
    Calls Try.prog 14 #[.string ⟨⟨l⟩⟩] w fun e w' => e = .returned (.int .i64 (nameF l)) ∧ w' = w := by
  have hsz := tx_size l
  by_cases h0 : l.length < 1
  · have eN : Hid (nameF l = 1) := by show _ = _; unfold nameF; rw [if_pos (.inl h0)]
    have eq0 : l.isEmpty = true := by cases l with | nil => rfl | cons a b => simp at h0
    go_enter Try.func14, Try.ntmps14
    go_wp2
    go_ret
    exact ⟨by rw [eN.out]; rfl, rfl⟩
  · have eq0 : l.isEmpty = false := by cases l with | nil => simp at h0 | cons a b => rfl
    by_cases h1 : 128 < l.length
    · have eN : Hid (nameF l = 1) := by show _ = _; unfold nameF; rw [if_pos (.inr h1)]
      have t1 : decide ((128 : Int) < (l.length : Int)) = true := by simp; omega
      go_enter Try.func14, Try.ntmps14
      go_wp2
      go_ret
      exact ⟨by rw [eN.out]; rfl, rfl⟩
    · have eN : Hid (nameF l = ff (lst (l ++ [46])).1) := by
        show _ = _
        unfold nameF
        rw [if_neg (by omega), lst_dot l 46 (by decide)]
      have t1 : decide ((128 : Int) < (l.length : Int)) = false := by simp; omega
      have LF := hide (fun w => labelsFault_any w (l ++ [46]) (by simp; omega))
      have ad : ∀ w : World, (Op.stringOp .add (ByteArray.mk ⟨l⟩) (ByteArray.mk #[46])).run Try.prog w = .ok (.string ⟨⟨l ++ [46]⟩⟩) w := by
        intro w
        rw [run_string_add_sum w _ _ (by rw [tx_size]; show l.length + 1 ≤ _; omega)]
        have := ByteArray.mk_append_mk l [46]
        exact congrArg (fun s => Result.ok (Value.string s) w) this
      go_enter Try.func14, Try.ntmps14
      go_wp2_with fail
      refine (LF.out w).mono ?_
      rintro e w1 ⟨rfl, rfl⟩
      go_wp2
      go_ret
      exact ⟨by rw [eN.out]; rfl, rfl⟩
end Go.Proofs.Ytghlcebjnnlmhaa
