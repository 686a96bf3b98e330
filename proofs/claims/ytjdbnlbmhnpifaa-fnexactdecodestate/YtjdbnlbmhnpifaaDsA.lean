
/-
  The cursor's numbers of up to eight bytes, and its short text; the program's.
-/
import Derived.Test.YtjdbnlbmhnpifaaDsN
import Derived.Test.YtjdbnlbmhnpifaaCuV
namespace Go.Proofs.Ytjdbnlbmhnpifaa
open Go Go.RowKit

theorem or_wrap (m x : Int) (x0 : 0 ≤ x) (x1 : x < 256) : bits .or .i64 (wrap64 (m * 256)) x = wrap64 (wrap64 (m * 256) + x) := by
  have e : wrap64 (m * 256) = (wrap64 (m * 256) / 256) * 256 := by unfold wrap64; omega
  have b0 : -9223372036854775808 ≤ wrap64 (m * 256) := by unfold wrap64; omega
  have b1 : wrap64 (m * 256) < 9223372036854775808 := by unfold wrap64; omega
  have := or_byte (wrap64 (m * 256) / 256) x (by omega) (by omega) x0 x1
  rw [← e] at this
  rw [this]
  generalize hv : wrap64 (m * 256) = v at *
  unfold wrap64
  omega
theorem nmV_step (xs : List Int) (i k : Nat) : nmV xs i (k + 1) = wrap64 (wrap64 (nmV xs i k * 256) + xs.getD (i + k) 0) := by
  unfold nmV wrap64
  simp only [beN]
  omega
set_option maxHeartbeats 1000000 in
theorem numberG_any (w : World) (p g : Nat) (a : Option Addr) (c : Nat) (xs : List Int) (i t : Nat) (hC : Cur w p (.slice a xs.length c) i) (hr : Rd w g a .u8 xs) (hb : Byt xs) (hgp : 0 < xs.length → g ≠ p) (hi : i + t ≤ xs.length) (ht : t ≤ 8) (hn : xs.length ≤ 4194304) :
    Calls Try.prog 46 #[.pointer (some ⟨p, 0, none⟩), .int .i64 (t : Int)] w fun e w' => e = .returned (.int .i64 (nmV xs i t)) ∧ Cur w' p (.slice a xs.length c) ((i + t : Nat) : Int) ∧ Only p w w' := by
  go_enter Try.func46, Try.ntmps46
  go_wp2
  go_loopw [5, 7] (fun v j wr => ∃ k : Nat, k ≤ t ∧ v = .int .i64 (nmV xs i k) ∧ j = .int .i64 k ∧ Cur wr p (.slice a xs.length c) ((i + k : Nat) : Int) ∧ Only p w wr) (fun _ j _ => t - (intOf j).toNat)
  case atStart => exact ⟨0, Nat.zero_le _, by rw [show nmV xs i 0 = 0 by unfold nmV wrap64 beN; decide], rfl, hC, Only.refl _ _⟩
  case round =>
    obtain ⟨k, hk, rfl, rfl, C, O⟩ := hrel
    by_cases hlt : k < t
    · have TK := hide (take_ok wr p g a c xs (i + k) C (hr.of_block' (fun h => O.block g (hgp h))) (by omega) (by omega))
      have bx := hb (i + k)
      have OR := or_wrap (nmV xs i k) (xs.getD (i + k) 0) bx.1 bx.2
      have e := hide (nmV_step xs i k)
      generalize nmV xs i k = m at *
      generalize xs.getD (i + k) 0 = x at *
      have x0 := bx.1
      have x1 := bx.2
      have k1 : (k : Int) < (t : Int) := by omega
      clear bx C
      go_wp2_with fail
      refine TK.out.mono ?_
      rintro r w' ⟨rfl, C', O'⟩
      clear TK
      go_wp2
      go_roundw
      case rel => exact ⟨k + 1, by omega, by rw [e.out], by go_num, C', O.trans O'⟩
      case measure => simp [intOf]; omega
    · obtain rfl : k = t := by omega
      go_wp2
      go_ret
      exact ⟨rfl, C, O⟩
set_option maxHeartbeats 1000000 in
theorem number_bad (w : World) (p g : Nat) (a : Option Addr) (c : Nat) (xs : List Int) (i t : Nat) (hC : Cur w p (.slice a xs.length c) i) (hr : Rd w g a .u8 xs) (hgp : 0 < xs.length → g ≠ p) (hi : i ≤ xs.length) (hit : xs.length < i + t) (ht : t ≤ 8) (hn : xs.length ≤ 4194304) :
    Calls Try.prog 46 #[.pointer (some ⟨p, 0, none⟩), .int .i64 (t : Int)] w fun e w' => Pan e ∧ Only p w w' := by
  go_enter Try.func46, Try.ntmps46
  go_wp2
  go_loopw [5, 7] (fun v j wr => ∃ (k : Nat) (m : Int), i + k ≤ xs.length ∧ v = .int .i64 m ∧ j = .int .i64 k ∧ Cur wr p (.slice a xs.length c) ((i + k : Nat) : Int) ∧ Only p w wr) (fun _ j _ => t - (intOf j).toNat)
  case atStart => exact ⟨0, 0, hi, rfl, rfl, hC, Only.refl _ _⟩
  case round =>
    obtain ⟨k, m, hk, rfl, rfl, C, O⟩ := hrel
    have k1 : (k : Int) < (t : Int) := by omega
    by_cases hlt : i + k < xs.length
    · have TK := hide (take_ok wr p g a c xs (i + k) C (hr.of_block' (fun h => O.block g (hgp h))) (by omega) (by omega))
      generalize xs.getD (i + k) 0 = x at *
      clear C
      go_wp2_with fail
      refine TK.out.mono ?_
      rintro r w' ⟨rfl, C', O'⟩
      clear TK
      go_wp2
      go_roundw
      case rel => exact ⟨k + 1, _, by omega, rfl, by go_num, C', O.trans O'⟩
      case measure => simp [intOf]; omega
    · have TK := hide (take_bad wr p a xs.length c ((i + k : Nat) : Int) C (by omega))
      clear C
      go_wp2_with fail
      refine TK.out.mono ?_
      rintro r w' ⟨⟨u, v, rfl⟩, O'⟩
      clear TK
      go_wp2
      exact ⟨rfl, ⟨_, _, rfl⟩, O.trans O'⟩
end Go.Proofs.Ytjdbnlbmhnpifaa
