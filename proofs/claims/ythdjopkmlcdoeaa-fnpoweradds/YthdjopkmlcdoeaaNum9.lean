/-
  Powers: plain arithmetic.
-/
import Derived.Test.YthdjopkmlcdoeaaNum8
import Derived.Test.YthdjopkmlcdoeaaNum7
namespace Go.Proofs.Ythdjopkmlcdoeaa

theorem div_join {h B l : Int} (l0 : 0 ≤ l) (l1 : l < B) : (l + h * B) / B = h := by
  rw [Int.add_mul_ediv_right _ _ (by omega), Int.ediv_eq_zero_of_lt l0 l1]
  omega
/-- A bit of a number out of the digit where it lies. -/
theorem bit_of {A d h l : Int} {i n k r : Nat} (hn : i = n * k + r) (hr : r < n) (hA : A = l + (d + h * 2 ^ n) * 2 ^ (n * k)) (l0 : 0 ≤ l) (l1 : l < 2 ^ (n * k)) : A / 2 ^ i % 2 = d / 2 ^ r % 2 := by
  rw [hn, Int.pow_add, ← Int.ediv_ediv_of_nonneg (show (0 : Int) ≤ 2 ^ (n * k) by have := p2pos (n * k); omega), hA, div_join l0 l1]
  obtain ⟨s, hs⟩ : ∃ s, n = r + (s + 1) := ⟨n - r - 1, by omega⟩
  have e : h * 2 ^ n = 2 * (h * 2 ^ s) * 2 ^ r := by
    rw [hs, Int.pow_add, Int.pow_succ]
    simp only [Int.mul_comm, Int.mul_left_comm]
  rw [e, Int.add_mul_ediv_right _ _ (by have := p2pos r; omega)]
  omega
theorem p32_2 (m : Nat) : (4294967296 : Int) ^ m = 2 ^ (32 * m) := by
  rw [Int.pow_mul]; rfl
theorem lbit {zs : List Int} (hz : Lmb zs) (i : Nat) : lval zs / 2 ^ i % 2 = zs.getD (i / 32) 0 / 2 ^ (i % 32) % 2 := by
  have e := lval_llo zs (i / 32)
  have b := llo_bd hz (i / 32)
  rw [lhi_step zs (i / 32), Int.mul_comm 4294967296 (lhi zs (i / 32 + 1))] at e
  rw [p32_2] at e b
  exact bit_of (n := 32) (k := i / 32) (h := lhi zs (i / 32 + 1)) (by omega) (by omega) e b.1 b.2
theorem bbit {xs : List Int} (hx : Byt xs) (i : Nat) : bval xs / 2 ^ i % 2 = dig xs (i / 8) / 2 ^ (i % 8) % 2 := by
  have e := bval_lo xs (i / 8)
  have b := lo_bd hx (i / 8)
  rw [hi_step xs (i / 8), Int.add_comm, Int.add_comm (hi xs (i / 8 + 1) * 256)] at e
  rw [p256_2] at e b
  exact bit_of (n := 8) (k := i / 8) (h := hi xs (i / 8 + 1)) (by omega) (by omega) e b.1 b.2

/-- .. as a natural number. -/
theorem nbit {A b : Int} {E i : Nat} (hE : (E : Int) = A) (h : A / 2 ^ i % 2 = b) : ((E / 2 ^ i % 2 : Nat) : Int) = b := by
  rw [← h, ← hE]
  simp
theorem half_of (E i : Nat) : E / 2 ^ i = 2 * (E / 2 ^ (i + 1)) + E / 2 ^ i % 2 := by
  rw [Nat.pow_succ, ← Nat.div_div_eq_div_mul]
  omega
theorem low_of (E i : Nat) : E % 2 ^ (i + 1) = E % 2 ^ i + 2 ^ i * (E / 2 ^ i % 2) := Nat.mod_pow_succ

theorem pow_sq {a m : Int} {e : Nat} : (a ^ e % m) * (a ^ e % m) % m = a ^ (2 * e) % m := by
  rw [← Int.mul_emod, ← Int.pow_add, show e + e = 2 * e by omega]
theorem pow_on {a m : Int} {e f : Nat} : (a ^ e % m) * (a ^ f % m) % m = a ^ (e + f) % m := by
  rw [← Int.mul_emod, ← Int.pow_add]

theorem Canon.ge {ys : List Int} {v : Int} (h : Canon ys v) (h0 : 0 < ys.length) : 256 ^ (ys.length - 1) ≤ v := by
  have e := bval_lo ys (ys.length - 1)
  have b := lo_bd h.1 (ys.length - 1)
  have d : dig ys (ys.length - 1) = ys.getD 0 0 := by unfold dig; rw [if_pos (by omega), show ys.length - 1 - (ys.length - 1) = 0 by omega]
  have p := h.1 0
  have q := h.2.2 h0
  rw [hi_step, hi_past ys _ (by omega), d, h.2.1] at e
  have : 1 * 256 ^ (ys.length - 1) ≤ (0 * 256 + ys.getD 0 0) * 256 ^ (ys.length - 1) := Int.mul_le_mul_of_nonneg_right (by omega) (by have := p256_pos (ys.length - 1); omega)
  omega
theorem Canon.len {ys : List Int} {v : Int} {n : Nat} (h : Canon ys v) (hv : v < 256 ^ n) : ys.length ≤ n := by
  by_cases h0 : n < ys.length
  · have g := h.ge (by omega)
    have : (256 : Int) ^ n ≤ 256 ^ (ys.length - 1) := by
      rw [show ys.length - 1 = n + (ys.length - 1 - n) by omega, Int.pow_add]
      have p := p256_pos n
      have q := p256_pos (ys.length - 1 - n)
      have := Int.mul_le_mul_of_nonneg_left (show (1 : Int) ≤ 256 ^ (ys.length - 1 - n) by omega) (show (0 : Int) ≤ 256 ^ n by omega)
      omega
    omega
  · omega
theorem lval_len {zs : List Int} {n : Nat} (h : Lmb zs) (t : Top zs) (hv : lval zs < 4294967296 ^ n) : zs.length ≤ n := by
  by_cases h0 : n < zs.length
  · have g := lval_ge h t (by omega)
    have : (4294967296 : Int) ^ n ≤ 4294967296 ^ (zs.length - 1) := by
      rw [show zs.length - 1 = n + (zs.length - 1 - n) by omega, Int.pow_add]
      have p : (0 : Int) < 4294967296 ^ n := Int.pow_pos (by decide)
      have q : (0 : Int) < 4294967296 ^ (zs.length - 1 - n) := Int.pow_pos (by decide)
      have := Int.mul_le_mul_of_nonneg_left (show (1 : Int) ≤ 4294967296 ^ (zs.length - 1 - n) by omega) (show (0 : Int) ≤ 4294967296 ^ n by omega)
      omega
    omega
  · omega
theorem mul_lt_pow {x y B : Int} {n m : Nat} (hB : 0 < B) (x0 : 0 ≤ x) (x1 : x < B ^ n) (y0 : 0 ≤ y) (y1 : y < B ^ m) : x * y < B ^ (n + m) := by
  rw [Int.pow_add]
  have h1 : x * y ≤ x * B ^ m := Int.mul_le_mul_of_nonneg_left (by omega) x0
  have h2 : (x + 1) * B ^ m ≤ B ^ n * B ^ m := Int.mul_le_mul_of_nonneg_right (by omega) (by omega)
  have p : 0 < B ^ m := Int.pow_pos hB
  rw [Int.add_mul] at h2
  omega
end Go.Proofs.Ythdjopkmlcdoeaa
