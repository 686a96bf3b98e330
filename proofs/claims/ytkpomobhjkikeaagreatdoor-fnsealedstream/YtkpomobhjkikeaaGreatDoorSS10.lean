import Derived.Test.YtkpomobhjkikeaaGreatDoorSS9
namespace Go.Proofs.YtkpomobhjkikeaaGreatDoor
set_option maxRecDepth 100000
def clo (cs : List Int) : Nat → Int
  | 0 => 0
  | i + 1 => clo cs i + cs.getD i 0 * 256 ^ i
theorem clo_set (cs : List Int) (q : Nat) (v : Int) (h : q < cs.length) : ∀ N, clo (cs.set q v) N = clo cs N + (if q < N then (v - cs.getD q 0) * 256 ^ q else 0)
  | 0 => by simp [clo]
  | N + 1 => by
    rw [clo, clo, clo_set cs q v h N]
    by_cases e : q = N
    · subst e
      rw [getD_set_self _ _ _ h, if_neg (by omega), if_pos (by omega), Int.sub_mul]
      omega
    · rw [getD_set_ne _ _ _ _ e]
      by_cases h1 : q < N
      · rw [if_pos h1, if_pos (by omega)]; omega
      · rw [if_neg h1, if_neg (by omega)]; omega
theorem clo_zeros (n : Nat) : ∀ N, clo (List.replicate n 0) N = 0
  | 0 => rfl
  | N + 1 => by
    rw [clo, clo_zeros n N]
    by_cases h : N < n <;> simp [h]
def ColTo (xs us cs : List Int) (n i j : Nat) : Prop :=
  cs.length = n ∧ (∀ k, 0 ≤ cs.getD k 0 ∧ cs.getD k 0 ≤ 65025 * (i : Int) + (if k < i + j then 65025 else 0)) ∧ clo cs n = lo xs i * bval us + dig xs i * 256 ^ i * lo us j
theorem ColTo.step {xs us cs : List Int} {n i j : Nat} (h : ColTo xs us cs n i j) (hx : Byt xs) (hu : Byt us) (hij : i + j < n) :
    ColTo xs us (cs.set (i + j) (cs.getD (i + j) 0 + dig xs i * dig us j)) n i (j + 1) := by
  obtain ⟨h1, h2, h3⟩ := h
  have d1 := dig_byt hx i
  have d2 := dig_byt hu j
  have m0 : 0 ≤ dig xs i * dig us j := Int.mul_nonneg d1.1 d2.1
  have m1 : dig xs i * dig us j ≤ 255 * 255 := Int.le_trans (Int.mul_le_mul_of_nonneg_right d1.2 d2.1) (Int.mul_le_mul_of_nonneg_left d2.2 (by decide))
  refine ⟨by simpa using h1, fun k => ?_, ?_⟩
  · by_cases e : i + j = k
    · subst e
      rw [getD_set_self _ _ _ (by omega)]
      have := h2 (i + j)
      rw [if_neg (by omega)] at this
      rw [if_pos (by omega)]
      omega
    · rw [getD_set_ne _ _ _ _ e]
      have := h2 k
      by_cases hk : k < i + j
      · rw [if_pos hk] at this
        rw [if_pos (by omega)]
        exact this
      · rw [if_neg hk] at this
        rw [if_neg (by omega)]
        exact this
  · rw [clo_set cs _ _ (by omega), if_pos hij, h3, lo, Int.mul_add]
    have e1 : (cs.getD (i + j) 0 + dig xs i * dig us j - cs.getD (i + j) 0) * 256 ^ (i + j) = dig xs i * 256 ^ i * (dig us j * 256 ^ j) := by
      rw [show cs.getD (i + j) 0 + dig xs i * dig us j - cs.getD (i + j) 0 = dig xs i * dig us j by omega, Int.pow_add, Int.mul_assoc, Int.mul_assoc, ← Int.mul_assoc (dig us j), Int.mul_comm (dig us j), Int.mul_assoc (256 ^ i)]
    omega
theorem ColTo.row {xs us cs : List Int} {n i : Nat} (h : ColTo xs us cs n i us.length) : ColTo xs us cs n (i + 1) 0 := by
  obtain ⟨h1, h2, h3⟩ := h
  refine ⟨h1, fun k => ?_, ?_⟩
  · have := h2 k
    have e : ((i + 1 : Nat) : Int) = (i : Int) + 1 := by omega
    rw [e]
    by_cases c1 : k < i + us.length
    · rw [if_pos c1] at this
      by_cases c2 : k < i + 1 + 0
      · rw [if_pos c2]; omega
      · rw [if_neg c2]; omega
    · rw [if_neg c1] at this
      by_cases c2 : k < i + 1 + 0
      · rw [if_pos c2]; omega
      · rw [if_neg c2]; omega
  · rw [h3, lo_all us _ (Nat.le_refl _)]
    show _ = (lo xs i + dig xs i * 256 ^ i) * bval us + dig xs (i + 1) * 256 ^ (i + 1) * 0
    rw [Int.add_mul]
    omega
theorem ColTo.zero (xs us : List Int) (n : Nat) : ColTo xs us (List.replicate n 0) n 0 0 := by
  refine ⟨by simp, fun k => ?_, by rw [clo_zeros]; simp [lo]⟩
  by_cases h : k < n <;> simp [h]
def OutTo (cs ys : List Int) (n i : Nat) (c : Int) : Prop := ys.length = n ∧ Byt ys ∧ lo ys i + c * 256 ^ i = clo cs i
theorem OutTo.step {cs ys : List Int} {n i : Nat} {c : Int} (h : OutTo cs ys n i c) (hi : i < n) : OutTo cs (ys.set (n - 1 - i) ((cs.getD i 0 + c) % 256)) n (i + 1) ((cs.getD i 0 + c) / 256) := by
  obtain ⟨h1, h2, h3⟩ := h
  subst h1
  refine ⟨by simp, byt_set h2 _ _ (by omega) (by omega), ?_⟩
  rw [lo_set ys i _ hi, clo, Int.pow_succ, ← h3]
  generalize hv : cs.getD i 0 + c = v at *
  have e : v = v % 256 + v / 256 * 256 := by omega
  have e2 : v * 256 ^ i = (v % 256) * 256 ^ i + v / 256 * (256 ^ i * 256) := by
    conv => lhs; rw [e]
    rw [Int.add_mul, Int.mul_assoc, Int.mul_comm 256]
  have e3 : v * 256 ^ i = cs.getD i 0 * 256 ^ i + c * 256 ^ i := by rw [← hv, Int.add_mul]
  omega
theorem bval_lt {xs : List Int} (h : Byt xs) : bval xs < 256 ^ xs.length := by
  rw [← lo_all xs xs.length (Nat.le_refl _)]; exact (lo_bd h _).2
theorem mul_lt {a b p q : Int} (a0 : 0 ≤ a) (ha : a < p) (b0 : 0 ≤ b) (hb : b < q) : a * b < p * q := by
  have h1 : a * b ≤ a * q := Int.mul_le_mul_of_nonneg_left (by omega) a0
  have h2 : a * q < p * q := Int.mul_lt_mul_of_pos_right ha (by omega)
  omega
theorem OutTo.done {xs us cs ys : List Int} {c : Int} (h : OutTo cs ys (xs.length + us.length + 1) (xs.length + us.length + 1) c) (hc : 0 ≤ c) (hC : ColTo xs us cs (xs.length + us.length + 1) xs.length 0) (hx : Byt xs) (hu : Byt us) :
    bval ys = bval xs * bval us := by
  obtain ⟨h1, h2, h3⟩ := h
  obtain ⟨_, _, k3⟩ := hC
  rw [k3, lo_all ys _ (by omega), lo_all xs _ (Nat.le_refl _), lo, Int.mul_zero, Int.add_zero, Int.pow_succ, Int.pow_add] at h3
  have l1 := mul_lt (bval_nonneg hx) (bval_lt hx) (bval_nonneg hu) (bval_lt hu)
  have y0 := bval_nonneg h2
  have p := Int.mul_pos (p256_pos xs.length) (p256_pos us.length)
  generalize (256 : Int) ^ xs.length * 256 ^ us.length = P at *
  by_cases h0 : c = 0
  · rw [h0] at h3; omega
  · have : 1 * (P * 256) ≤ c * (P * 256) := Int.mul_le_mul_of_nonneg_right (by omega) (by omega)
    omega
theorem mul4 (a p b q : Int) : a * p * (b * q) = a * b * (p * q) := by rw [Int.mul_assoc, Int.mul_left_comm p b q, ← Int.mul_assoc]
def LMulTo (zs ms ps : List Int) (i j : Nat) (c : Int) : Prop :=
  ps.length = zs.length + ms.length ∧ Lmb ps ∧ (0 ≤ c ∧ c < 4294967296) ∧ (∀ k, i + ms.length ≤ k → ps.getD k 0 = 0) ∧
  lval ps + c * 4294967296 ^ (i + j) = llo zs i * lval ms + zs.getD i 0 * 4294967296 ^ i * llo ms j
theorem LMulTo.zero (zs ms : List Int) : LMulTo zs ms (List.replicate (zs.length + ms.length) 0) 0 0 0 := by
  refine ⟨by simp, lmb_zeros _, ⟨by omega, by omega⟩, fun k _ => ?_, by rw [lval_zeros]; simp [llo]⟩
  by_cases h : k < zs.length + ms.length <;> simp [h]
theorem LMulTo.step {zs ms ps : List Int} {i j : Nat} {c : Int} (h : LMulTo zs ms ps i j c) (hz : Lmb zs) (hm : Lmb ms) (hi : i < zs.length) (hj : j < ms.length) :
    LMulTo zs ms (ps.set (i + j) ((c + (zs.getD i 0 * ms.getD j 0 + ps.getD (i + j) 0)) % 4294967296)) i (j + 1) ((c + (zs.getD i 0 * ms.getD j 0 + ps.getD (i + j) 0)) / 4294967296) := by
  obtain ⟨h1, h2, h3, h4, h5⟩ := h
  have d1 := hz i
  have d2 := hm j
  have d3 := h2 (i + j)
  have u0 : 0 ≤ zs.getD i 0 * ms.getD j 0 := Int.mul_nonneg d1.1 d2.1
  have u1 : zs.getD i 0 * ms.getD j 0 ≤ 4294967295 * 4294967295 := Int.le_trans (Int.mul_le_mul_of_nonneg_right (show zs.getD i 0 ≤ 4294967295 by omega) d2.1) (Int.mul_le_mul_of_nonneg_left (by omega) (by decide))
  refine ⟨by simpa using h1, lmb_set h2 _ _ (by omega) (by omega), ⟨by omega, by omega⟩, fun k hk => by rw [getD_set_ne _ _ _ _ (by omega)]; exact h4 k hk, ?_⟩
  rw [lval_set _ ps (i + j) (by omega), show llo ms (j + 1) = llo ms j + ms.getD j 0 * 4294967296 ^ j from rfl, Int.mul_add, ← Nat.add_assoc, Int.pow_succ]
  have e1 : zs.getD i 0 * 4294967296 ^ i * (ms.getD j 0 * 4294967296 ^ j) = zs.getD i 0 * ms.getD j 0 * 4294967296 ^ (i + j) := by
    rw [Int.pow_add, mul4]
  rw [e1]
  generalize hP : (4294967296 : Int) ^ (i + j) = P at *
  generalize zs.getD i 0 * ms.getD j 0 = zm at *
  generalize ps.getD (i + j) 0 = q at *
  generalize hv : c + (zm + q) = v at *
  have e : v = v % 4294967296 + v / 4294967296 * 4294967296 := by omega
  have e2 : v * P = (v % 4294967296) * P + v / 4294967296 * (P * 4294967296) := by
    conv => lhs; rw [e]
    rw [Int.add_mul, Int.mul_assoc, Int.mul_comm 4294967296 P]
  have e3 : v * P = c * P + (zm * P + q * P) := by rw [← hv, Int.add_mul, Int.add_mul]
  rw [Int.sub_mul]
  omega
theorem LMulTo.row {zs ms ps : List Int} {i : Nat} {c : Int} (h : LMulTo zs ms ps i ms.length c) (hi : i < zs.length) : LMulTo zs ms (ps.set (i + ms.length) c) (i + 1) 0 0 := by
  obtain ⟨h1, h2, h3, h4, h5⟩ := h
  refine ⟨by simpa using h1, lmb_set h2 _ _ h3.1 h3.2, ⟨by omega, by omega⟩, fun k hk => by rw [getD_set_ne _ _ _ _ (by omega)]; exact h4 k (by omega), ?_⟩
  rw [lval_set _ ps (i + ms.length) (by omega), h4 _ (Nat.le_refl _), Int.sub_zero, h5, llo_all ms _ (Nat.le_refl _), llo, llo, Int.add_mul]
  omega
theorem LMulTo.done {zs ms ps : List Int} (h : LMulTo zs ms ps zs.length 0 0) : lval ps = lval zs * lval ms := by
  obtain ⟨h1, h2, h3, h4, h5⟩ := h
  rw [llo_all zs _ (Nat.le_refl _), llo] at h5
  omega
end Go.Proofs.YtkpomobhjkikeaaGreatDoor
