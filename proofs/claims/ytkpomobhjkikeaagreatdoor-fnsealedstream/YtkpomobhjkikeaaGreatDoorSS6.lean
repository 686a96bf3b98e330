import Derived.Test.YtkpomobhjkikeaaGreatDoorSS5
namespace Go.Proofs.YtkpomobhjkikeaaGreatDoor
set_option maxRecDepth 100000
theorem dig_set_self (ys : List Int) (i : Nat) (v : Int) (h : i < ys.length) : dig (ys.set (ys.length - 1 - i) v) i = v := by
  unfold dig
  rw [List.length_set, if_pos h, getD_set_self _ _ _ (by omega)]
theorem dig_set_ne (ys : List Int) (i j : Nat) (v : Int) (h : i < ys.length) (hne : j ≠ i) : dig (ys.set (ys.length - 1 - i) v) j = dig ys j := by
  unfold dig
  rw [List.length_set]
  by_cases hj : j < ys.length
  · rw [if_pos hj, if_pos hj, getD_set_ne _ _ _ _ (by omega)]
  · rw [if_neg hj, if_neg hj]
theorem lo_congr {xs ys : List Int} : ∀ {i : Nat}, (∀ j, j < i → dig xs j = dig ys j) → lo xs i = lo ys i
  | 0, _ => rfl
  | i + 1, h => by rw [lo, lo, lo_congr (fun j hj => h j (by omega)), h i (by omega)]
theorem lo_set (ys : List Int) (i : Nat) (v : Int) (h : i < ys.length) : lo (ys.set (ys.length - 1 - i) v) (i + 1) = lo ys i + v * 256 ^ i := by
  rw [lo, dig_set_self ys i v h, lo_congr (fun j hj => dig_set_ne ys i j v h (by omega))]
theorem byt_set {ys : List Int} (h : Byt ys) (q : Nat) (v : Int) (h0 : 0 ≤ v) (h1 : v < 256) : Byt (ys.set q v) := by
  intro i
  by_cases e : q = i
  · subst e
    by_cases hq : q < ys.length
    · rw [getD_set_self _ _ _ hq]; exact ⟨h0, h1⟩
    · have := h q
      rwa [List.set_eq_of_length_le (by omega)]
  · rw [getD_set_ne _ _ _ _ e]; exact h i
theorem byt_zeros (n : Nat) : Byt (List.replicate n 0) := by
  intro i
  by_cases h : i < n <;> simp [h]
theorem dig_past (xs : List Int) (i : Nat) (h : xs.length ≤ i) : dig xs i = 0 := by unfold dig; rw [if_neg (by omega)]
def AddTo (xs us ys : List Int) (n i : Nat) (c : Int) : Prop :=
  ys.length = n + 1 ∧ Byt ys ∧ (0 ≤ c ∧ c ≤ 1) ∧ lo ys i + c * 256 ^ i = lo xs i + lo us i
theorem AddTo.step {xs us ys : List Int} {n i : Nat} {c : Int} (h : AddTo xs us ys n i c) (hx : Byt xs) (hu : Byt us) (hi : i ≤ n) :
    AddTo xs us (ys.set (n - i) ((dig xs i + dig us i + c) % 256)) n (i + 1) ((dig xs i + dig us i + c) / 256) := by
  obtain ⟨h1, h2, h3, h4⟩ := h
  have d1 := dig_byt hx i
  have d2 := dig_byt hu i
  refine ⟨by simpa using h1, byt_set h2 _ _ (by omega) (by omega), ⟨by omega, by omega⟩, ?_⟩
  rw [show n - i = ys.length - 1 - i by omega, lo_set ys i _ (by omega), lo, lo, Int.pow_succ]
  generalize hv : dig xs i + dig us i + c = v at *
  have e : v = v % 256 + v / 256 * 256 := by omega
  have e2 : v * 256 ^ i = (v % 256) * 256 ^ i + v / 256 * (256 ^ i * 256) := by
    conv => lhs; rw [e]
    rw [Int.add_mul, Int.mul_assoc, Int.mul_comm 256]
  have e3 : v * 256 ^ i = dig xs i * 256 ^ i + dig us i * 256 ^ i + c * 256 ^ i := by rw [← hv, Int.add_mul, Int.add_mul]
  omega
theorem AddTo.done {xs us ys : List Int} {n : Nat} {c : Int} (h : AddTo xs us ys n (n + 1) c) (hx : xs.length ≤ n) (hu : us.length ≤ n) (hc : c = 0) : bval ys = bval xs + bval us := by
  obtain ⟨h1, h2, h3, h4⟩ := h
  rw [lo_all ys _ (by omega), lo_all xs _ (by omega), lo_all us _ (by omega), hc] at h4
  omega
def llo (zs : List Int) : Nat → Int
  | 0 => 0
  | i + 1 => llo zs i + zs.getD i 0 * 4294967296 ^ i
theorem llo_congr {xs ys : List Int} : ∀ {i : Nat}, (∀ j, j < i → xs.getD j 0 = ys.getD j 0) → llo xs i = llo ys i
  | 0, _ => rfl
  | i + 1, h => by rw [llo, llo, llo_congr (fun j hj => h j (by omega)), h i (by omega)]
theorem llo_set (zs : List Int) (i : Nat) (v : Int) (h : i < zs.length) : llo (zs.set i v) (i + 1) = llo zs i + v * 4294967296 ^ i := by
  rw [llo, getD_set_self _ _ _ h, llo_congr (fun j hj => getD_set_ne _ _ _ _ (by omega))]
theorem lval_llo (zs : List Int) : ∀ i, lval zs = llo zs i + lhi zs i * 4294967296 ^ i
  | 0 => by simp [llo, lhi_zero]
  | i + 1 => by
    rw [lval_llo zs i, lhi_step zs i, llo, Int.pow_succ, Int.add_mul, Int.mul_comm 4294967296 (lhi zs (i + 1)), Int.mul_assoc, Int.mul_comm 4294967296]
    omega
theorem llo_all (zs : List Int) (i : Nat) (h : zs.length ≤ i) : llo zs i = lval zs := by
  rw [lval_llo zs i, lhi_past zs i h]; omega
def LAddTo (zs ms ys : List Int) (i : Nat) (c : Int) : Prop :=
  ys.length = zs.length ∧ Lmb ys ∧ (0 ≤ c ∧ c ≤ 1) ∧ llo ys i + c * 4294967296 ^ i = llo zs i + llo ms i ∧ ∀ j, i ≤ j → ys.getD j 0 = zs.getD j 0
theorem LAddTo.zero {zs : List Int} (ms : List Int) (h : Lmb zs) : LAddTo zs ms zs 0 0 := ⟨rfl, h, ⟨by omega, by omega⟩, rfl, fun _ _ => rfl⟩
theorem LAddTo.step {zs ms ys : List Int} {i : Nat} {c : Int} (h : LAddTo zs ms ys i c) (hz : Lmb zs) (hm : Lmb ms) (hi : i < zs.length) :
    LAddTo zs ms (ys.set i ((c + zs.getD i 0 + ms.getD i 0) % 4294967296)) (i + 1) ((c + zs.getD i 0 + ms.getD i 0) / 4294967296) := by
  obtain ⟨h1, h2, h3, h4, h5⟩ := h
  have d1 := hz i
  have d2 := hm i
  refine ⟨by simpa using h1, lmb_set h2 _ _ (by omega) (by omega), ⟨by omega, by omega⟩, ?_, fun j hj => by rw [getD_set_ne _ _ _ _ (by omega)]; exact h5 j (by omega)⟩
  rw [llo_set ys i _ (by omega), llo, llo, Int.pow_succ]
  generalize hv : c + zs.getD i 0 + ms.getD i 0 = v at *
  have e : v = v % 4294967296 + v / 4294967296 * 4294967296 := by omega
  have e2 : v * 4294967296 ^ i = (v % 4294967296) * 4294967296 ^ i + v / 4294967296 * (4294967296 ^ i * 4294967296) := by
    conv => lhs; rw [e]
    rw [Int.add_mul, Int.mul_assoc, Int.mul_comm 4294967296 (4294967296 ^ i)]
  have e3 : v * 4294967296 ^ i = c * 4294967296 ^ i + zs.getD i 0 * 4294967296 ^ i + ms.getD i 0 * 4294967296 ^ i := by rw [← hv, Int.add_mul, Int.add_mul]
  omega
theorem LAddTo.done {zs ms ys : List Int} {c : Int} (h : LAddTo zs ms ys zs.length c) (hm : ms.length ≤ zs.length) : lval ys + c * 4294967296 ^ zs.length = lval zs + lval ms := by
  obtain ⟨h1, h2, h3, h4, h5⟩ := h
  rw [llo_all ys _ (by omega), llo_all zs _ (Nat.le_refl _), llo_all ms _ hm] at h4
  exact h4
def lb (zs : List Int) (i : Nat) : Int := zs.getD (i / 4) 0 / 256 ^ (i % 4) % 256
def DigTo (f : Nat → Int) (ys : List Int) (n k : Nat) : Prop := ys.length = n ∧ Byt ys ∧ ∀ j, j < k → dig ys j = f j
theorem DigTo.step {f : Nat → Int} {ys : List Int} {n k : Nat} (h : DigTo f ys n k) (hk : k < n) (h0 : 0 ≤ f k) (h1 : f k < 256) : DigTo f (ys.set (n - 1 - k) (f k)) n (k + 1) := by
  obtain ⟨e, hb, hd⟩ := h
  subst e
  refine ⟨by simp, byt_set hb _ _ h0 h1, fun j hj => ?_⟩
  by_cases e : j = k
  · subst e
    exact dig_set_self ys j _ hk
  · rw [dig_set_ne ys k j _ hk e]
    exact hd j (by omega)
theorem lo_lb {zs ys : List Int} (hz : Lmb zs) (hd : ∀ j, j < 4 * zs.length → dig ys j = lb zs j) : ∀ q, q ≤ zs.length → lo ys (4 * q) = llo zs q
  | 0, _ => rfl
  | q + 1, h => by
    have ih := lo_lb hz hd q (by omega)
    have hzq := hz q
    rw [show 4 * (q + 1) = 4 * q + 1 + 1 + 1 + 1 by omega, lo, lo, lo, lo, ih, llo]
    rw [hd (4 * q) (by omega), hd (4 * q + 1) (by omega), hd (4 * q + 1 + 1) (by omega), hd (4 * q + 1 + 1 + 1) (by omega)]
    unfold lb
    rw [show 4 * q / 4 = q by omega, show (4 * q + 1) / 4 = q by omega, show (4 * q + 1 + 1) / 4 = q by omega, show (4 * q + 1 + 1 + 1) / 4 = q by omega,
      show 4 * q % 4 = 0 by omega, show (4 * q + 1) % 4 = 1 by omega, show (4 * q + 1 + 1) % 4 = 2 by omega, show (4 * q + 1 + 1 + 1) % 4 = 3 by omega]
    have p0 : (256 : Int) ^ (4 * q) = 4294967296 ^ q := by
      have := p256_4 0 q
      simpa using this
    have p1 : (256 : Int) ^ (4 * q + 1) = 4294967296 ^ q * 256 := by rw [Int.pow_succ, p0]
    have p2 : (256 : Int) ^ (4 * q + 1 + 1) = 4294967296 ^ q * 65536 := by rw [Int.pow_succ, p1]; omega
    have p3 : (256 : Int) ^ (4 * q + 1 + 1 + 1) = 4294967296 ^ q * 16777216 := by rw [Int.pow_succ, p2]; omega
    rw [p3, p2, p1, p0]
    clear p0 p1 p2 p3 ih
    generalize zs.getD q 0 = z at *
    generalize (4294967296 : Int) ^ q = p at *
    have e : z = z / 256 ^ 0 % 256 + z / 256 ^ 1 % 256 * 256 + z / 256 ^ 2 % 256 * 65536 + z / 256 ^ 3 % 256 * 16777216 := by
      simp
      omega
    generalize z / 256 ^ 0 % 256 = b0 at *
    generalize z / 256 ^ 1 % 256 = b1 at *
    generalize z / 256 ^ 2 % 256 = b2 at *
    generalize z / 256 ^ 3 % 256 = b3 at *
    subst e
    rw [Int.add_mul, Int.add_mul, Int.add_mul, Int.mul_right_comm b1, Int.mul_right_comm b2, Int.mul_right_comm b3, ← Int.mul_assoc b1, ← Int.mul_assoc b2, ← Int.mul_assoc b3]
    omega
theorem DigTo.val {zs ys : List Int} (h : DigTo (lb zs) ys (4 * zs.length) (4 * zs.length)) (hz : Lmb zs) : bval ys = lval zs := by
  rw [← lo_all ys (4 * zs.length) (by rw [h.1]; exact Nat.le_refl _), lo_lb hz h.2.2 zs.length (Nat.le_refl _), llo_all zs _ (Nat.le_refl _)]
end Go.Proofs.YtkpomobhjkikeaaGreatDoor
