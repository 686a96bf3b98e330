
/-
  Bytes 0 at the end left out: bytes.TrimRight.
-/
import Derived.Test.YtbdecibgejmelaaGreatDoorHelp
import Derived.Test.YtbdecibgejmelaaGreatDoorApd
namespace Go.Proofs.YtbdecibgejmelaaGreatDoor
set_option maxRecDepth 100000
open Go Go.RowKit

/-- How many of the first n bytes are left without the bytes 0 at their end. -/
def tz (xs : List Int) : Nat → Nat
  | 0 => 0
  | n + 1 => if xs.getD n 0 = 0 then tz xs n else n + 1
theorem tz_le (xs : List Int) : ∀ n, tz xs n ≤ n
  | 0 => Nat.le_refl _
  | n + 1 => by
    rw [tz]
    split
    · exact Nat.le_succ_of_le (tz_le xs n)
    · exact Nat.le_refl _
theorem tz_last (xs : List Int) : ∀ n, 0 < tz xs n → xs.getD (tz xs n - 1) 0 ≠ 0
  | 0, h => by simp [tz] at h
  | n + 1, h => by
    rw [tz] at h ⊢
    split at h
    · next e => rw [if_pos e]; exact tz_last xs n h
    · next e => rw [if_neg e]; exact e
set_option maxHeartbeats 1000000 in
theorem trimByte_any (w : World) (g : Nat) (a : Option Addr) (c : Nat) (xs : List Int) (hr : Rd w g a .u8 xs) (hc : xs.length ≤ c) (hn : xs.length ≤ 4194304) :
    Calls Tryz.prog 107 #[.slice a xs.length c, .int .u8 0] w fun e w' => e = .returned (.slice a (tz xs xs.length) c) ∧ w' = w := by
  obtain ⟨N, hN⟩ : ∃ N, N = xs.length := ⟨_, rfl⟩
  rw [← hN] at hc hn ⊢
  have HN := hide hN
  clear hN
  go_enter Tryz.func107, Tryz.ntmps107
  go_wp2
  go_loopw [0] (fun v wr => ∃ m : Nat, m ≤ N ∧ v = .slice a m c ∧ Hid (tz xs m = tz xs N) ∧ wr = w) (fun v _ => (match v with | .slice _ m _ => m | _ => 0))
  case atStart => exact ⟨N, Nat.le_refl _, rfl, rfl, rfl⟩
  case round =>
    obtain ⟨m, hm, rfl, ht, rfl⟩ := hrel
    by_cases h0 : 0 < m
    · obtain ⟨off, ha, hcell⟩ := hr (by rw [← HN.out]; omega)
      subst ha
      obtain ⟨k, rfl⟩ : ∃ k, m = k + 1 := ⟨m - 1, by omega⟩
      have hc1 := hcell k (by rw [← HN.out]; omega)
      have kb : (k : Int) ≤ 4194304 := by omega
      have q0 : (0 : Int) < (k : Int) + 1 := by omega
      have k1 : (k : Int) < (k : Int) + 1 := by omega
      have k2 : (k : Int) ≤ (c : Int) := by omega
      have k3 : (0 : Int) ≤ (k : Int) := by omega
      by_cases hz : xs.getD k 0 = 0
      · have ht' : Hid (tz xs k = tz xs N) := by
          show _ = _
          rw [← ht.out, tz, if_pos hz]
        rw [hz] at hc1
        clear hz ht hcell
        go_wp2
        go_roundw
        case rel => exact ⟨k, by omega, rfl, ht', trivial⟩
        case measure => simp
      · have ht' : Hid (tz xs N = k + 1) := by
          show _ = _
          rw [← ht.out, tz, if_neg hz]
        obtain ⟨x, hx⟩ : ∃ x, x = xs.getD k 0 := ⟨_, rfl⟩
        rw [← hx] at hc1 hz
        have hz1 : (x == 0) = false := by simp [hz]
        have hz2 : decide (x = 0) = false := by simp [hz]
        clear hx ht hcell
        go_wp2
        go_ret
        exact ⟨by rw [ht'.out]; rfl, rfl⟩
    · obtain rfl : m = 0 := by omega
      have ht' : Hid (tz xs N = 0) := by show _ = _; rw [← ht.out]; rfl
      clear ht
      go_wp2
      go_ret
      exact ⟨by rw [ht'.out]; rfl, rfl⟩
set_option maxHeartbeats 1000000 in
theorem trimRight_any (w : World) (g : Nat) (a : Option Addr) (c : Nat) (xs : List Int) (hr : Rd w g a .u8 xs) (hc : xs.length ≤ c) (hn : xs.length ≤ 4194304) :
    Calls Tryz.prog 86 #[.slice a xs.length c, .string ⟨#[0]⟩] w fun e w' => e = .returned (.slice a (tz xs xs.length) c) ∧ w' = w := by
  have TB := hide (trimByte_any w g a c xs hr hc hn)
  by_cases h0 : xs.length = 0
  · have hl : Hid (tz xs xs.length = 0) := by show _ = _; rw [h0]; rfl
    rw [h0] at hl ⊢
    clear TB hr hc h0 hn
    go_enter Tryz.func86, Tryz.ntmps86
    go_wp2
    go_ret
    exact ⟨by rw [hl.out]; rfl, rfl⟩
  · have q0 : ((xs.length : Int) == 0) = false := beq_eq_false_iff_ne.2 (by omega)
    have q1 : decide ((xs.length : Int) = 0) = false := decide_eq_false (by omega)
    clear hr hc h0 hn
    go_enter Tryz.func86, Tryz.ntmps86
    go_wp2_with fail
    refine TB.out.mono ?_
    rintro e w' ⟨rfl, rfl⟩
    go_wp2
    go_ret
    exact ⟨rfl, rfl⟩
end Go.Proofs.YtbdecibgejmelaaGreatDoor
