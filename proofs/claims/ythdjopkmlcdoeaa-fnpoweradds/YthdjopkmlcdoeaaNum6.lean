/-
  Shifts, and division by one limb: plain arithmetic.
-/
import Derived.Test.YthdjopkmlcdoeaaNum5
namespace Go.Proofs.Ythdjopkmlcdoeaa

/-- Limbs times P, from below. -/
def ShlTo (zs ys : List Int) (P : Int) (i : Nat) (c : Int) : Prop := ys.length = zs.length + 1 ∧ Lmb ys ∧ (0 ≤ c ∧ c < P) ∧ llo ys i + c * 4294967296 ^ i = llo zs i * P
theorem ShlTo.step {zs ys : List Int} {P : Int} {i : Nat} {c : Int} (h : ShlTo zs ys P i c) (hz : Lmb zs) (hi : i < zs.length) (hP : P ≤ 4294967296) :
    ShlTo zs (ys.set i ((c + zs.getD i 0 * P) % 4294967296)) P (i + 1) ((c + zs.getD i 0 * P) / 4294967296) := by
  obtain ⟨h1, h2, h3, h4⟩ := h
  have d1 := hz i
  have m0 : 0 ≤ zs.getD i 0 * P := Int.mul_nonneg d1.1 (by omega)
  have m1 : zs.getD i 0 * P ≤ 4294967295 * P := Int.mul_le_mul_of_nonneg_right (by omega) (by omega)
  refine ⟨by simpa using h1, lmb_set h2 _ _ (by omega) (by omega), ⟨by omega, by omega⟩, ?_⟩
  rw [llo_set ys i _ (by omega), show llo zs (i + 1) = llo zs i + zs.getD i 0 * 4294967296 ^ i from rfl, Int.pow_succ, Int.add_mul, ← h4, Int.mul_right_comm (zs.getD i 0)]
  generalize zs.getD i 0 * P = zp at *
  generalize hQ : (4294967296 : Int) ^ i = Q at *
  generalize hv : c + zp = v at *
  have e : v = v % 4294967296 + v / 4294967296 * 4294967296 := by omega
  have e2 : v * Q = (v % 4294967296) * Q + v / 4294967296 * (Q * 4294967296) := by
    conv => lhs; rw [e]
    rw [Int.add_mul, Int.mul_assoc, Int.mul_comm 4294967296 Q]
  have e3 : v * Q = c * Q + zp * Q := by rw [← hv, Int.add_mul]
  omega
theorem ShlTo.done {zs ys : List Int} {P c : Int} (h : ShlTo zs ys P zs.length c) (hP : P ≤ 4294967296) : lval (ys.set zs.length c) = lval zs * P ∧ Lmb (ys.set zs.length c) := by
  obtain ⟨h1, h2, h3, h4⟩ := h
  refine ⟨?_, lmb_set h2 _ _ (by omega) (by omega)⟩
  rw [← llo_all _ (zs.length + 1) (by simp; omega), llo_set ys _ _ (by omega), h4, llo_all zs _ (Nat.le_refl _)]

/-- Limbs divided by P, from above. -/
def ShrTo (zs ys : List Int) (P : Int) (i : Nat) : Prop := ys.length = zs.length ∧ Lmb ys ∧ lhi ys i = lhi zs i / P
theorem lhi_congr {xs ys : List Int} (hl : xs.length = ys.length) {i : Nat} (h : ∀ j, i ≤ j → xs.getD j 0 = ys.getD j 0) : lhi xs i = lhi ys i := by
  unfold lhi
  congr 1
  apply eq_of_getD (by simp [hl])
  intro j hj
  have := h (i + j) (by omega)
  simpa [List.getElem?_drop] using this
theorem lhi_set (ys : List Int) (i : Nat) (v : Int) (h : i < ys.length) : lhi (ys.set i v) i = v + 4294967296 * lhi ys (i + 1) := by
  rw [lhi_step, getD_set_self _ _ _ h, lhi_congr (by simp) (fun j hj => getD_set_ne _ _ _ _ (by omega))]
theorem shr_limb (z y H C P : Int) (hB : 4294967296 = P * C) (hP : 0 < P) (z0 : 0 ≤ z) (z1 : z < 4294967296) (hy : H % P = y % P) :
    (z + 4294967296 * H) / P = (y * 4294967296 + z) / P % 4294967296 + 4294967296 * (H / P) := by
  have e1 : (z + 4294967296 * H) / P = z / P + C * H := by rw [hB, Int.mul_assoc]; exact Int.add_mul_ediv_left z (C * H) (by omega)
  have e2 : (y * 4294967296 + z) / P = z / P + C * y := by rw [hB, Int.mul_comm y, Int.mul_assoc, Int.add_comm]; exact Int.add_mul_ediv_left z (C * y) (by omega)
  have h1 : H = P * (H / P) + H % P := (Int.mul_ediv_add_emod H P).symm
  have h2 : y = P * (y / P) + y % P := (Int.mul_ediv_add_emod y P).symm
  have e3 : C * H = 4294967296 * (H / P) + C * (H % P) := by
    conv => lhs; rw [h1]
    rw [Int.mul_add, ← Int.mul_assoc, Int.mul_comm C P, ← hB]
  have e4 : C * y = 4294967296 * (y / P) + C * (y % P) := by
    conv => lhs; rw [h2]
    rw [Int.mul_add, ← Int.mul_assoc, Int.mul_comm C P, ← hB]
  have r0 := Int.emod_nonneg y (show P ≠ 0 by omega)
  have r1 := Int.emod_lt_of_pos y hP
  have C0 : 0 < C := by
    by_cases h : 0 < C
    · exact h
    · have : P * C ≤ P * 0 := Int.mul_le_mul_of_nonneg_left (by omega) (by omega)
      omega
  have c0 : 0 ≤ C * (y % P) := Int.mul_nonneg (by omega) r0
  have c1 : C * (y % P) ≤ C * (P - 1) := Int.mul_le_mul_of_nonneg_left (by omega) (by omega)
  rw [Int.mul_sub, Int.mul_comm C P, ← hB, Int.mul_one] at c1
  have q0 : 0 ≤ z / P := Int.ediv_nonneg z0 (by omega)
  have q1 : z / P < C := Int.ediv_lt_of_lt_mul hP (by rw [Int.mul_comm, ← hB]; exact z1)
  rw [e1, e2, e3, e4, hy]
  generalize C * (y % P) = k at *
  generalize z / P = q at *
  generalize y / P = m at *
  omega
theorem lhi_mod (zs : List Int) (i : Nat) (P C : Int) (hB : 4294967296 = P * C) : lhi zs i % P = zs.getD i 0 % P := by
  rw [lhi_step, hB, Int.mul_assoc, Int.add_mul_emod_self_left]
theorem lhi_nonneg {zs : List Int} (hz : Lmb zs) (i : Nat) : 0 ≤ lhi zs i := by
  unfold lhi
  refine (lval_bd (fun j => ?_)).1
  have := hz (i + j)
  simpa [List.getElem?_drop] using this
theorem ShrTo.step {zs ys : List Int} {P C : Int} {i : Nat} (h : ShrTo zs ys P (i + 1)) (hz : Lmb zs) (hi : i < zs.length) (hB : 4294967296 = P * C) (hP : 0 < P) :
    ShrTo zs (ys.set i ((zs.getD (i + 1) 0 * 4294967296 + zs.getD i 0) / P % 4294967296)) P i := by
  obtain ⟨h1, h2, h3⟩ := h
  refine ⟨by simpa using h1, lmb_set h2 _ _ (by omega) (by omega), ?_⟩
  rw [lhi_set ys i _ (by omega), h3, lhi_step zs i]
  exact (shr_limb (zs.getD i 0) (zs.getD (i + 1) 0) (lhi zs (i + 1)) C P hB hP (hz i).1 (hz i).2 (lhi_mod zs _ P C hB)).symm
theorem ShrTo.done {zs ys : List Int} {P : Int} (h : ShrTo zs ys P 0) : lval ys = lval zs / P := h.2.2

/-- Division by one limb, from above. -/
def DlTo (zs qs : List Int) (d : Int) (i : Nat) (r : Int) : Prop := qs.length = zs.length ∧ Lmb qs ∧ (0 ≤ r ∧ r < d) ∧ lhi zs i = lhi qs i * d + r
theorem DlTo.step {zs qs : List Int} {d : Int} {i : Nat} {r : Int} (h : DlTo zs qs d (i + 1) r) (hz : Lmb zs) (hi : i < zs.length) (hd : 0 < d) :
    DlTo zs (qs.set i ((r * 4294967296 + zs.getD i 0) / d)) d i ((r * 4294967296 + zs.getD i 0) % d) ∧ (0 ≤ (r * 4294967296 + zs.getD i 0) / d ∧ (r * 4294967296 + zs.getD i 0) / d < 4294967296) := by
  obtain ⟨h1, h2, h3, h4⟩ := h
  have zb := hz i
  have q0 : 0 ≤ (r * 4294967296 + zs.getD i 0) / d := Int.ediv_nonneg (by omega) (by omega)
  have q1 : (r * 4294967296 + zs.getD i 0) / d < 4294967296 := Int.ediv_lt_of_lt_mul hd (by omega)
  refine ⟨⟨by simpa using h1, lmb_set h2 _ _ q0 q1, ⟨Int.emod_nonneg _ (by omega), Int.emod_lt_of_pos _ hd⟩, ?_⟩, q0, q1⟩
  rw [lhi_set qs i _ (by omega), lhi_step zs i, h4, Int.add_mul, Int.mul_assoc]
  have := Int.mul_ediv_add_emod (r * 4294967296 + zs.getD i 0) d
  rw [Int.mul_comm d] at this
  generalize lhi qs (i + 1) * d = k at *
  omega
end Go.Proofs.Ythdjopkmlcdoeaa
