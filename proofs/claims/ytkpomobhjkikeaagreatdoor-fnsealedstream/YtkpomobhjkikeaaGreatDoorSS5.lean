import Derived.Test.YtkpomobhjkikeaaGreatDoorSS1
namespace Go.Proofs.YtkpomobhjkikeaaGreatDoor
set_option maxRecDepth 100000
def bval (xs : List Int) : Int := xs.foldl (fun v x => v * 256 + x) 0
def dig (xs : List Int) (i : Nat) : Int := if i < xs.length then xs.getD (xs.length - 1 - i) 0 else 0
def hi (xs : List Int) (i : Nat) : Int := bval (xs.take (xs.length - i))
def lo (xs : List Int) : Nat → Int
  | 0 => 0
  | i + 1 => lo xs i + dig xs i * 256 ^ i
def sg (x y : Int) : Int := if x < y then -1 else if y < x then 1 else 0
theorem bval_snoc (xs : List Int) (x : Int) : bval (xs ++ [x]) = bval xs * 256 + x := by simp [bval]
theorem bval_nil : bval [] = 0 := rfl
theorem hi_zero (xs : List Int) : hi xs 0 = bval xs := by simp [hi]
theorem hi_past (xs : List Int) (i : Nat) (h : xs.length ≤ i) : hi xs i = 0 := by
  unfold hi
  rw [show xs.length - i = 0 by omega]
  rfl
theorem hi_step (xs : List Int) (i : Nat) : hi xs i = hi xs (i + 1) * 256 + dig xs i := by
  by_cases h : i < xs.length
  · unfold hi dig
    rw [if_pos h, show xs.length - i = (xs.length - (i + 1)) + 1 by omega, List.take_succ_eq_append_getElem (by omega), bval_snoc]
    simp [show xs.length - 1 - i = xs.length - (i + 1) by omega, show xs.length - (i + 1) < xs.length by omega]
  · rw [hi_past xs i (by omega), hi_past xs (i + 1) (by omega)]
    simp [dig, h]
theorem dig_byt {xs : List Int} (hb : Byt xs) (i : Nat) : 0 ≤ dig xs i ∧ dig xs i ≤ 255 := by
  unfold dig
  split
  · have := hb (xs.length - 1 - i); omega
  · omega
theorem hi_lt {a b : List Int} (ha : Byt a) (hb : Byt b) : ∀ i, hi a i < hi b i → bval a < bval b
  | 0, h => by rwa [hi_zero, hi_zero] at h
  | i + 1, h => by
    refine hi_lt ha hb i ?_
    rw [hi_step a i, hi_step b i]
    have := dig_byt ha i
    have := dig_byt hb i
    omega
theorem bval_lo (xs : List Int) : ∀ i, bval xs = hi xs i * 256 ^ i + lo xs i
  | 0 => by rw [hi_zero]; simp [lo]
  | i + 1 => by
    rw [bval_lo xs i, hi_step xs i, lo, Int.pow_succ, Int.add_mul, Int.mul_assoc, Int.mul_comm 256]
    omega
theorem lo_all (xs : List Int) (i : Nat) (h : xs.length ≤ i) : lo xs i = bval xs := by
  rw [bval_lo xs i, hi_past xs i h]; omega
theorem p256_pos (i : Nat) : (0 : Int) < 256 ^ i := Int.pow_pos (by decide)
theorem lo_bd {xs : List Int} (hb : Byt xs) : ∀ i, 0 ≤ lo xs i ∧ lo xs i < 256 ^ i
  | 0 => by simp [lo]
  | i + 1 => by
    have h := lo_bd hb i
    have hd := dig_byt hb i
    have hp := p256_pos i
    rw [lo, Int.pow_succ]
    have h1 : 0 ≤ dig xs i * 256 ^ i := Int.mul_nonneg hd.1 (by omega)
    have h2 : dig xs i * 256 ^ i ≤ 255 * 256 ^ i := Int.mul_le_mul_of_nonneg_right hd.2 (by omega)
    omega
theorem bval_nonneg {xs : List Int} (hb : Byt xs) : 0 ≤ bval xs := by
  rw [← lo_all xs xs.length (Nat.le_refl _)]; exact (lo_bd hb _).1
def lval : List Int → Int
  | [] => 0
  | z :: r => z + 4294967296 * lval r
def Lmb (zs : List Int) : Prop := ∀ i, 0 ≤ zs.getD i 0 ∧ zs.getD i 0 < 4294967296
def lhi (zs : List Int) (i : Nat) : Int := lval (zs.drop i)
theorem lhi_zero (zs : List Int) : lhi zs 0 = lval zs := rfl
theorem lhi_past (zs : List Int) (i : Nat) (h : zs.length ≤ i) : lhi zs i = 0 := by
  unfold lhi; rw [List.drop_of_length_le h]; rfl
theorem lhi_step (zs : List Int) (i : Nat) : lhi zs i = zs.getD i 0 + 4294967296 * lhi zs (i + 1) := by
  by_cases h : i < zs.length
  · unfold lhi
    rw [List.drop_eq_getElem_cons h, lval]
    simp [h]
  · rw [lhi_past zs i (by omega), lhi_past zs (i + 1) (by omega)]
    simp [show zs.length ≤ i by omega]
theorem lval_set (v : Int) : ∀ (zs : List Int) (q : Nat), q < zs.length → lval (zs.set q v) = lval zs + (v - zs.getD q 0) * 4294967296 ^ q
  | z :: r, 0, _ => by simp [lval]; omega
  | z :: r, q + 1, h => by
    have := lval_set v r q (by simpa using h)
    simp only [List.set_cons_succ, lval, this, List.getD_cons_succ, Int.pow_succ]
    rw [Int.mul_add, ← Int.mul_assoc (v - r.getD q 0), Int.mul_comm 4294967296 ((v - r.getD q 0) * 4294967296 ^ q)]
    omega
theorem lmb_set {zs : List Int} (h : Lmb zs) (q : Nat) (v : Int) (h0 : 0 ≤ v) (h1 : v < 4294967296) : Lmb (zs.set q v) := by
  intro i
  by_cases e : q = i
  · subst e
    by_cases hq : q < zs.length
    · rw [getD_set_self _ _ _ hq]; exact ⟨h0, h1⟩
    · have := h q
      rwa [List.set_eq_of_length_le (by omega)]
  · rw [getD_set_ne _ _ _ _ e]; exact h i
theorem lmb_zeros (n : Nat) : Lmb (List.replicate n 0) := by
  intro i
  by_cases h : i < n <;> simp [h]
theorem lval_zeros : ∀ n, lval (List.replicate n 0) = 0
  | 0 => rfl
  | n + 1 => by rw [List.replicate_succ, lval, lval_zeros n]; rfl
def Canon (ys : List Int) (v : Int) : Prop := Byt ys ∧ bval ys = v ∧ (0 < ys.length → ys.getD 0 0 ≠ 0)
theorem bval_cons0 (xs : List Int) : bval (0 :: xs) = bval xs := rfl
theorem bval_drop : ∀ (xs : List Int) (k : Nat), (∀ j, j < k → xs.getD j 0 = 0) → bval (xs.drop k) = bval xs
  | xs, 0, _ => by simp
  | [], k + 1, _ => by simp
  | x :: r, k + 1, h => by
    have h0 := h 0 (by omega)
    simp at h0
    subst h0
    rw [List.drop_succ_cons, bval_cons0]
    exact bval_drop r k (fun j hj => by simpa using h (j + 1) (by omega))
theorem byt_drop {xs : List Int} (h : Byt xs) (k : Nat) : Byt (xs.drop k) := fun i => by
  have := h (k + i)
  simpa [List.getElem?_drop] using this
theorem byt_nil : Byt [] := fun i => by simp
def ZeroTo (xs : List Int) (k : Nat) : Prop := ∀ j, j < k → xs.getD j 0 = 0
theorem ZeroTo.step {xs : List Int} {k : Nat} (h : ZeroTo xs k) (h0 : xs.getD k 0 = 0) : ZeroTo xs (k + 1) := fun j hj => by
  by_cases e : j = k
  · rw [e]; exact h0
  · exact h j (by omega)
theorem ZeroTo.canon {xs : List Int} {k : Nat} (h : ZeroTo xs k) (hb : Byt xs) (hk : k < xs.length → xs.getD k 0 ≠ 0) : Canon (xs.drop k) (bval xs) := by
  refine ⟨byt_drop hb k, bval_drop xs k h, fun h0 => ?_⟩
  have := hk (by rw [List.length_drop] at h0; omega)
  simpa [List.getElem?_drop] using this
theorem p256_4 (r : Nat) : ∀ q : Nat, (256 : Int) ^ (4 * q + r) = 4294967296 ^ q * 256 ^ r
  | 0 => by simp
  | q + 1 => by
    have := p256_4 r q
    rw [show 4 * (q + 1) + r = (4 * q + r) + 1 + 1 + 1 + 1 by omega, Int.pow_succ, Int.pow_succ, Int.pow_succ, Int.pow_succ, this, Int.pow_succ, Int.mul_right_comm (4294967296 ^ q) 4294967296 (256 ^ r)]
    omega
theorem sg_lt {x y : Int} (h : x < y) : sg x y = -1 := by simp [sg, h]
theorem sg_gt {x y : Int} (h : y < x) : sg x y = 1 := by simp [sg, h]; omega
theorem sg_eq {x y : Int} (h : x = y) : sg x y = 0 := by simp [sg, h]
end Go.Proofs.YtkpomobhjkikeaaGreatDoor
