import Derived.Test.YtkglcainhkbgbaaGreatDoorSG17
namespace Go.Proofs.YtkglcainhkbgbaaGreatDoor
set_option maxRecDepth 100000
def lsum (a : Nat → Int) : Nat → Int
  | 0 => 0
  | k + 1 => lsum a k + a k * 256 ^ k
def wv (a : Nat → Int) : Nat → Nat → Int
  | 0, _ => 0
  | i + 1, k => wv a i k + if i / 8 = k then a i * 256 ^ (i % 8) else 0
def wval (W : Nat → Int) : Int := W 0 + W 1 * 18446744073709551616 + W 2 * 340282366920938463463374607431768211456 + W 3 * 6277101735386680763835789423207666416102355444464034512896
def Bt (a : Nat → Int) : Prop := ∀ j, 0 ≤ a j ∧ a j < 256
theorem p256_le {m n : Nat} (h : m ≤ n) : (256 : Int) ^ m ≤ 256 ^ n := by
  obtain ⟨d, rfl⟩ := Nat.le.dest h
  induction d with
  | zero => exact Int.le_refl _
  | succ d ih =>
    have := ih (by omega)
    have hp := p256_pos (m + d)
    rw [← Nat.add_assoc, Int.pow_succ]; omega
theorem wv_bd {a : Nat → Int} (h : Bt a) (k : Nat) : ∀ i, 0 ≤ wv a i k ∧ wv a i k < 256 ^ (min (i - 8 * k) 8)
  | 0 => by simp [wv]
  | i + 1 => by
    have ih := wv_bd h k i
    have ha := h i
    rw [wv]
    by_cases e : i / 8 = k
    · rw [if_pos e]
      have e1 : min (i - 8 * k) 8 = i % 8 := by omega
      have e2 : min (i + 1 - 8 * k) 8 = i % 8 + 1 := by omega
      rw [e1] at ih
      rw [e2, Int.pow_succ]
      have hp := p256_pos (i % 8)
      have h1 : 0 ≤ a i * 256 ^ (i % 8) := Int.mul_nonneg ha.1 (by omega)
      have h2 : a i * 256 ^ (i % 8) ≤ 255 * 256 ^ (i % 8) := Int.mul_le_mul_of_nonneg_right (by omega) (by omega)
      omega
    · rw [if_neg e, Int.add_zero]
      have := p256_le (show min (i - 8 * k) 8 ≤ min (i + 1 - 8 * k) 8 by omega)
      omega
theorem wv_lt {a : Nat → Int} (h : Bt a) (i k : Nat) : 0 ≤ wv a i k ∧ wv a i k < 18446744073709551616 := by
  have h1 := wv_bd h k i
  have h2 := p256_le (show min (i - 8 * k) 8 ≤ 8 by omega)
  have h3 : (256 : Int) ^ 8 = 18446744073709551616 := by decide
  omega
theorem wv_cur {a : Nat → Int} (h : Bt a) (i : Nat) : wv a i (i / 8) < 256 ^ (i % 8) := by
  have h1 := wv_bd h (i / 8) i
  rw [show min (i - 8 * (i / 8)) 8 = i % 8 by omega] at h1
  exact h1.2
theorem wv_sum (a : Nat → Int) : ∀ i, i ≤ 32 → wval (wv a i) = lsum a i
  | 0, _ => by simp [wval, wv, lsum]
  | i + 1, hi => by
    have ih := wv_sum a i (by omega)
    have hp : (256 : Int) ^ i = 256 ^ (8 * (i / 8)) * 256 ^ (i % 8) := by
      rw [← Int.pow_add, show 8 * (i / 8) + i % 8 = i by omega]
    rw [lsum, ← ih, hp]
    unfold wval
    simp only [wv]
    generalize 256 ^ (i % 8) = q
    rcases (show i / 8 = 0 ∨ i / 8 = 1 ∨ i / 8 = 2 ∨ i / 8 = 3 by omega) with e | e | e | e
    all_goals
      rw [e]
      simp
      try grind
def rl (W : Nat → Int) : Nat → Int
  | 0 => W 0 % 2251799813685248
  | 1 => (W 0 / 2251799813685248 + W 1 * 8192 % 18446744073709551616) % 2251799813685248
  | 2 => (W 1 / 274877906944 + W 2 * 67108864 % 18446744073709551616) % 2251799813685248
  | 3 => (W 2 / 33554432 + W 3 * 549755813888 % 18446744073709551616) % 2251799813685248
  | 4 => W 3 / 4096
  | _ => 0
def W4 (W : Nat → Int) : Prop := ∀ j, j < 4 → 0 ≤ W j ∧ W j < 18446744073709551616
theorem rl_ok {W : Nat → Int} (h : W4 W) : sv (rl W) 5 = wval W ∧ ∀ j, 0 ≤ rl W j ∧ rl W j < 9223372036854775808 := by
  have h0 := h 0 (by omega); have h1 := h 1 (by omega); have h2 := h 2 (by omega); have h3 := h 3 (by omega)
  refine ⟨?_, ?_⟩
  · simp only [sv, rl, wval]
    omega
  · intro j
    match j with
    | 0 => simp only [rl]; omega
    | 1 => simp only [rl]; omega
    | 2 => simp only [rl]; omega
    | 3 => simp only [rl]; omega
    | 4 => simp only [rl]; omega
    | _ + 5 => simp only [rl]; omega
def lw (e : Nat → Int) : Nat → Int
  | 0 => e 0 + e 1 * 2251799813685248 % 18446744073709551616
  | 1 => e 1 / 8192 + e 2 * 274877906944 % 18446744073709551616
  | 2 => e 2 / 67108864 + e 3 * 33554432 % 18446744073709551616
  | 3 => e 3 / 549755813888 + e 4 * 4096 % 18446744073709551616
  | _ => 0
theorem lw_ok {e : Nat → Int} (h : Lm e) : wval (lw e) = sv e 5 ∧ W4 (lw e) := by
  have h0 := h 0 (by omega); have h1 := h 1 (by omega); have h2 := h 2 (by omega); have h3 := h 3 (by omega); have h4 := h 4 (by omega)
  refine ⟨?_, ?_⟩
  · simp only [sv, lw, wval]
    omega
  · intro j hj
    obtain rfl | rfl | rfl | rfl : j = 0 ∨ j = 1 ∨ j = 2 ∨ j = 3 := by omega
    all_goals simp only [lw]; omega
theorem W4.uniq {U V : Nat → Int} (hu : W4 U) (hv : W4 V) (h : wval U = wval V) : ∀ j, j < 4 → U j = V j := by
  have a0 := hu 0 (by omega); have a1 := hu 1 (by omega); have a2 := hu 2 (by omega); have a3 := hu 3 (by omega)
  have b0 := hv 0 (by omega); have b1 := hv 1 (by omega); have b2 := hv 2 (by omega); have b3 := hv 3 (by omega)
  unfold wval at h
  have e0 : U 0 = V 0 := by omega
  have e1 : U 1 = V 1 := by omega
  have e2 : U 2 = V 2 := by omega
  have e3 : U 3 = V 3 := by omega
  intro j hj
  obtain rfl | rfl | rfl | rfl : j = 0 ∨ j = 1 ∨ j = 2 ∨ j = 3 := by omega
  all_goals assumption
def byt (v : Int) (i : Nat) : Int := v / 256 ^ i % 256
theorem word_byte {W : Nat → Int} (h : W4 W) (i : Nat) (hi : i < 32) : W (i / 8) / 256 ^ (i % 8) % 256 = byt (wval W) i := by
  have h0 := h 0 (by omega); have h1 := h 1 (by omega); have h2 := h 2 (by omega); have h3 := h 3 (by omega)
  unfold byt
  have hp : (256 : Int) ^ i = 256 ^ (8 * (i / 8)) * 256 ^ (i % 8) := by
    rw [← Int.pow_add, show 8 * (i / 8) + i % 8 = i by omega]
  rw [hp, ← Int.ediv_ediv_of_nonneg (Int.le_of_lt (p256_pos _))]
  have key : ∀ x y : Int, (x - y) % 18446744073709551616 = 0 → x / 256 ^ (i % 8) % 256 = y / 256 ^ (i % 8) % 256 := by
    intro x y hxy
    rcases (show i % 8 = 0 ∨ i % 8 = 1 ∨ i % 8 = 2 ∨ i % 8 = 3 ∨ i % 8 = 4 ∨ i % 8 = 5 ∨ i % 8 = 6 ∨ i % 8 = 7 by omega) with e | e | e | e | e | e | e | e
    all_goals
      rw [e]
      simp
      omega
  apply key
  rcases (show i / 8 = 0 ∨ i / 8 = 1 ∨ i / 8 = 2 ∨ i / 8 = 3 by omega) with e | e | e | e
  all_goals
    rw [e]
    simp [wval]
    omega
end Go.Proofs.YtkglcainhkbgbaaGreatDoor
