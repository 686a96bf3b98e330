
/-
  The model's DecodeTime.
-/
import Derived.Test.YtdgbioekofmekaaTmS
import Derived.Test.YtdgbioekofmekaaDtN
import Derived.Test.YtdgbioekofmekaaCuE
import Derived.Test.YtdgbioekofmekaaSm8
namespace Go.Proofs.Ytdgbioekofmekaa
open Go Go.RowKit

theorem EtIs.byt {t : Int} {L : List Int} (h : EtIs t L) : Byt L := by
  rcases h with ⟨_, y, k, x, _, rfl⟩ | ⟨_, rfl⟩
  · intro i
    by_cases c : i < 14
    · rw [getD_app_l _ _ _ (by rw [dgs_len]; exact c)]
      exact dgs_byt _ _ i
    · rw [getD_app_r _ _ _ (by rw [dgs_len]; omega), dgs_len]
      by_cases e : i = 14
      · subst e; decide
      · rw [show [(90 : Int)].getD (i - 14) 0 = 0 from by cases h : i - 14 with | zero => omega | succ n => rfl]; decide
  · intro i; simp
end Go.Proofs.Ytdgbioekofmekaa
