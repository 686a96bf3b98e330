
/-
  The law of NameFault.
-/
import Derived.Test.YtdblpjnicgmjmaaLbT
namespace Go.Proofs.Ytdblpjnicgmjmaa
open Go Go.RowKit

set_option maxHeartbeats 2000000 in
theorem nameFault_law (w : World) (s : ByteArray) (hs : s.size ≤ 9223372036854775807) :
    Calls Try.prog 3 #[.string s] w fun e w' => e = .returned (.bool true) ∧ Below w.heap.size w w' := by
  obtain ⟨⟨l⟩⟩ := s
  have hsz := tx_size l
  rw [hsz] at hs
  by_cases h : 1048576 < l.length
  · have t0 : decide ((1048576 : Int) < (l.length : Int)) = true := by simp; omega
    go_enter Try.func3, Try.ntmps3
    go_wp2
    go_ret
    exact ⟨rfl, Below.refl _ _⟩
  · have t0 : decide ((1048576 : Int) < (l.length : Int)) = false := by simp; omega
    have SP := hide (specNameFault_any w l hs)
    have IM := hide (fun W => implNameFault_any W l hs)
    generalize nameF l = r at *
    go_enter Try.func3, Try.ntmps3
    go_wp2_with fail
    refine SP.out.mono ?_
    rintro e w1 ⟨rfl, n1⟩
    go_wp2_with fail
    refine (IM.out w1).mono ?_
    rintro e w2 ⟨rfl, rfl⟩
    go_wp2
    go_ret
    exact ⟨rfl, n1⟩
end Go.Proofs.Ytdblpjnicgmjmaa
