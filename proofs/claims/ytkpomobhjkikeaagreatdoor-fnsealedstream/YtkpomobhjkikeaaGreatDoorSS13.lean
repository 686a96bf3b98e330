import Derived.Test.YtkpomobhjkikeaaGreatDoorSS6
namespace Go.Proofs.YtkpomobhjkikeaaGreatDoor
set_option maxRecDepth 100000
open Go.RowKit
def lsum (a : Nat → Int) : Nat → Int
  | 0 => 0
  | k + 1 => lsum a k + a k * 256 ^ k
def wv (a : Nat → Int) : Nat → Nat → Int
  | 0, _ => 0
  | i + 1, k => wv a i k + if i / 8 = k then a i * 256 ^ (i % 8) else 0
def wval (W : Nat → Int) : Int := W 0 + W 1 * 18446744073709551616 + W 2 * 340282366920938463463374607431768211456 + W 3 * 6277101735386680763835789423207666416102355444464034512896
def Bt (a : Nat → Int) : Prop := ∀ j, 0 ≤ a j ∧ a j < 256
theorem p256_le {m n : Nat} (h : m ≤ n) : (256 : Int) ^ m ≤ 256 ^ n := by
  obtain ⟨d, rfl⟩ := Nat.le.dest h
  induction d with
  | zero => exact Int.le_refl _
  | succ d ih =>
    have := ih (by omega)
    have hp := p256_pos (m + d)
    rw [← Nat.add_assoc, Int.pow_succ]; omega
theorem wv_bd {a : Nat → Int} (h : Bt a) (k : Nat) : ∀ i, 0 ≤ wv a i k ∧ wv a i k < 256 ^ (min (i - 8 * k) 8)
  | 0 => by simp [wv]
  | i + 1 => by
    have ih := wv_bd h k i
    have ha := h i
    rw [wv]
    by_cases e : i / 8 = k
    · rw [if_pos e]
      have e1 : min (i - 8 * k) 8 = i % 8 := by omega
      have e2 : min (i + 1 - 8 * k) 8 = i % 8 + 1 := by omega
      rw [e1] at ih
      rw [e2, Int.pow_succ]
      have hp := p256_pos (i % 8)
      have h1 : 0 ≤ a i * 256 ^ (i % 8) := Int.mul_nonneg ha.1 (by omega)
      have h2 : a i * 256 ^ (i % 8) ≤ 255 * 256 ^ (i % 8) := Int.mul_le_mul_of_nonneg_right (by omega) (by omega)
      omega
    · rw [if_neg e, Int.add_zero]
      have := p256_le (show min (i - 8 * k) 8 ≤ min (i + 1 - 8 * k) 8 by omega)
      omega
theorem wv_lt {a : Nat → Int} (h : Bt a) (i k : Nat) : 0 ≤ wv a i k ∧ wv a i k < 18446744073709551616 := by
  have h1 := wv_bd h k i
  have h2 := p256_le (show min (i - 8 * k) 8 ≤ 8 by omega)
  have h3 : (256 : Int) ^ 8 = 18446744073709551616 := by decide
  omega
theorem wv_cur {a : Nat → Int} (h : Bt a) (i : Nat) : wv a i (i / 8) < 256 ^ (i % 8) := by
  have h1 := wv_bd h (i / 8) i
  rw [show min (i - 8 * (i / 8)) 8 = i % 8 by omega] at h1
  exact h1.2
def byt (v : Int) (i : Nat) : Int := v / 256 ^ i % 256
end Go.Proofs.YtkpomobhjkikeaaGreatDoor
