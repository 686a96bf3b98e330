/-
  Long division.
-/
import Derived.Test.YthdjopkmlcdoeaaDivL
import Derived.Test.YthdjopkmlcdoeaaNum7
import Derived.Test.YthdjopkmlcdoeaaLen
namespace Go.Proofs.Ythdjopkmlcdoeaa
open Go.RowKit

/-- The divisor, shifted: it needs no limb more. -/
theorem shifted {ms ys : List Int} {n s : Nat} (hm : Lmb ms) (tm : Top ms) (l1 : ms.length = n + 2) (hs : s ≤ 31) (hx : ms.getD (n + 1) 0 * 2 ^ s < 4294967296) (hy : Lmb ys) (ly : ys.length = n + 2 + 1) (hv : lval ys = lval ms * 2 ^ s) :
    (ys.take (n + 2)).length = n + 2 ∧ Lmb (ys.take (n + 2)) ∧ lval (ys.take (n + 2)) = lval ms * 2 ^ s ∧ 1 ≤ (ys.take (n + 2)).getD (n + 1) 0 ∧ 4294967296 ^ (n + 1) * 2 ^ s ≤ lval ms * 2 ^ s ∧ lval ms * 2 ^ s < 4294967296 ^ (n + 2) := by
  have p := p2_pos s
  have hBC : (4294967296 : Int) = 2 ^ s * 2 ^ (32 - s) := by rw [← Int.pow_add, show s + (32 - s) = 32 by omega]; rfl
  have t1 := lval_ge hm tm (by omega)
  rw [l1, show n + 2 - 1 = n + 1 by omega] at t1
  have a1 : 4294967296 ^ (n + 1) * 2 ^ s ≤ lval ms * 2 ^ s := Int.mul_le_mul_of_nonneg_right t1 (by omega)
  have m1 := hm (n + 1)
  have a2 : lval ms < (ms.getD (n + 1) 0 + 1) * 4294967296 ^ (n + 1) := by
    have e := lval_llo ms (n + 1)
    have b := (llo_bd hm (n + 1)).2
    rw [lhi_step, lhi_past ms (n + 1 + 1) (by omega)] at e
    rw [Int.add_mul, Int.one_mul]
    rw [Int.mul_zero, Int.add_zero] at e
    omega
  have a3 : (ms.getD (n + 1) 0 + 1) * 2 ^ s ≤ 4294967296 := by
    have c1 : ms.getD (n + 1) 0 < 2 ^ (32 - s) := by
      by_cases h : ms.getD (n + 1) 0 < 2 ^ (32 - s)
      · exact h
      · have : 2 ^ (32 - s) * 2 ^ s ≤ ms.getD (n + 1) 0 * (2 : Int) ^ s := Int.mul_le_mul_of_nonneg_right (by omega) (by omega)
        rw [Int.mul_comm, ← hBC] at this
        omega
    have : (ms.getD (n + 1) 0 + 1) * (2 : Int) ^ s ≤ 2 ^ (32 - s) * 2 ^ s := Int.mul_le_mul_of_nonneg_right (by omega) (by omega)
    rw [Int.mul_comm (2 ^ (32 - s)), ← hBC] at this
    exact this
  have a4 : lval ms * 2 ^ s < 4294967296 ^ (n + 2) := by
    have q := p32_pos (n + 1)
    have b1 : lval ms * 2 ^ s < (ms.getD (n + 1) 0 + 1) * 4294967296 ^ (n + 1) * 2 ^ s := Int.mul_lt_mul_of_pos_right a2 p
    have b2 : (ms.getD (n + 1) 0 + 1) * 2 ^ s * 4294967296 ^ (n + 1) ≤ 4294967296 * 4294967296 ^ (n + 1) := Int.mul_le_mul_of_nonneg_right a3 (by omega)
    rw [Int.mul_right_comm] at b1
    rw [Int.pow_succ 4294967296 (n + 1), Int.mul_comm (4294967296 ^ (n + 1))]
    omega
  have z : ∀ j, n + 2 ≤ j → ys.getD j 0 = 0 := fun j hj => limbs_zero hy (i := 0) (m := n + 2) (by rw [lhi_zero, hv]; exact a4) j (by omega)
  have lt : (ys.take (n + 2)).length = n + 2 := by simp; omega
  have vt : lval (ys.take (n + 2)) = lval ms * 2 ^ s := by rw [lval_take ys _ z, hv]
  refine ⟨lt, lmb_take hy _, vt, ?_, a1, a4⟩
  have g := lmb_take hy (n + 2) (n + 1)
  by_cases c : 1 ≤ (ys.take (n + 2)).getD (n + 1) 0
  · exact c
  · have e := lval_llo (ys.take (n + 2)) (n + 1)
    have b := (llo_bd (lmb_take hy (n + 2)) (n + 1)).2
    rw [lhi_step, lhi_past _ (n + 1 + 1) (by omega), show (ys.take (n + 2)).getD (n + 1) 0 = 0 by omega, vt] at e
    have q : 4294967296 ^ (n + 1) * 1 ≤ 4294967296 ^ (n + 1) * (2 : Int) ^ s := Int.mul_le_mul_of_nonneg_left (by omega) (by have := p32_pos (n + 1); omega)
    simp only [Int.mul_zero, Int.add_zero, Int.zero_mul] at e
    omega
/-- Nothing above: the highest part of the dividend is less than the divisor. -/
theorem long_start {zs rs : List Int} {K n s : Nat} {v : Int} (hz : Lmb zs) (hr : Lmb rs) (hl : zs.length = K + n + 1) (hv : lval rs = lval zs * 2 ^ s) (hd : 4294967296 ^ (n + 1) * 2 ^ s ≤ v) : lhi rs K < v := by
  have p := p2_pos s
  have b := (lval_bd hz).2
  rw [hl, show K + n + 1 = K + (n + 1) by omega, Int.pow_add] at b
  have e := lval_llo rs K
  have l0 := (llo_bd hr K).1
  have q := p32_pos K
  have b1 : lval zs * 2 ^ s < 4294967296 ^ K * 4294967296 ^ (n + 1) * 2 ^ s := Int.mul_lt_mul_of_pos_right b p
  rw [Int.mul_assoc] at b1
  have b2 : 4294967296 ^ K * (4294967296 ^ (n + 1) * 2 ^ s) ≤ 4294967296 ^ K * v := Int.mul_le_mul_of_nonneg_left hd (by omega)
  by_cases c : lhi rs K < v
  · exact c
  · have : v * 4294967296 ^ K ≤ lhi rs K * 4294967296 ^ K := Int.mul_le_mul_of_nonneg_right (by omega) (by omega)
    rw [Int.mul_comm v] at this
    omega
theorem lmb_win {XS : List Int} (h : Lmb XS) (off len : Nat) : Lmb (win XS off len) := lmb_take (lmb_drop h off) len
/-- One limb's step is right. -/
theorem take_right {W v X B : Int} {q bo c : Int} (hq : q * v ≤ W ∧ W < q * v + v) (hX : 0 ≤ X ∧ X < B) (hb : 0 ≤ bo) (hc : 0 ≤ c) (hT : X + q * v = W + (bo + c) * B) : c + bo = 0 ∧ X = W - q * v := by
  by_cases h : bo + c = 0
  · rw [h] at hT; exact ⟨by omega, by omega⟩
  · have : 1 * B ≤ (bo + c) * B := Int.mul_le_mul_of_nonneg_right (by omega) (by omega)
    omega
theorem take_over {W v X B : Int} {q bo c : Int} (hq : q * v ≤ W ∧ W < q * v + v) (hX : 0 ≤ X ∧ X < B) (hv : v ≤ B) (hb : 0 ≤ bo) (hc : 0 ≤ c) (hT : X + (q + 1) * v = W + (bo + c) * B) : c + bo ≠ 0 ∧ X + v = W - q * v + B := by
  rw [Int.add_mul, Int.one_mul] at hT
  have h0 : bo + c ≠ 0 := fun h => by rw [h] at hT; omega
  by_cases h : bo + c = 1
  · rw [h] at hT; exact ⟨by omega, by omega⟩
  · have : 2 * B ≤ (bo + c) * B := Int.mul_le_mul_of_nonneg_right (by omega) (by omega)
    omega
theorem back_right {W v X Y B q c : Int} (hq : q * v ≤ W ∧ W < q * v + v) (hX : X + v = W - q * v + B) (hY : 0 ≤ Y ∧ Y < B) (hc : 0 ≤ c ∧ c ≤ 1) (hT : Y + c * B = X + v) : Y = W - q * v := by
  rcases (show c = 0 ∨ c = 1 by omega) with rfl | rfl <;> omega
end Go.Proofs.Ythdjopkmlcdoeaa
