
/-
  Numbers as bytes, the highest first, and the padding of a hash. No program in sight.
-/
import Derived.Test.YtjjoimlnpbelpaaBase
import Derived.Test.YtjjoimlnpbelpaaNum
namespace Go.Proofs.Ytjjoimlnpbelpaa
open Go.RowKit

/-- v in t bytes, the highest first. -/
def bigL (v : Int) (t : Nat) : List Int := (List.range t).map fun j => v / 256 ^ (t - 1 - j) % 256
theorem bigL_len (v : Int) (t : Nat) : (bigL v t).length = t := by simp [bigL]
theorem bigL_get (v : Int) (t j : Nat) (h : j < t) : (bigL v t).getD j 0 = v / 256 ^ (t - 1 - j) % 256 := by simp [bigL, h]
theorem bigL_byt (v : Int) (t : Nat) : Byt (bigL v t) := by
  intro j
  by_cases h : j < t
  · rw [bigL_get v t j h]
    omega
  · have : (bigL v t).getD j 0 = 0 := by
      rw [List.getD_eq_getElem?_getD, List.getElem?_eq_none (by rw [bigL_len]; omega)]
      rfl
    rw [this]
    omega

/-- The last k places of ys are those of v. -/
def BigTo (v : Int) (t : Nat) (ys : List Int) (k : Nat) : Prop := ys.length = t ∧ ∀ j, t - k ≤ j → j < t → ys.getD j 0 = v / 256 ^ (t - 1 - j) % 256
theorem BigTo.zero (v : Int) (t : Nat) : BigTo v t (List.replicate t 0) 0 := ⟨by simp, fun j h h' => absurd h (by omega)⟩
theorem BigTo.step {v : Int} {t : Nat} {ys : List Int} {k : Nat} (h : BigTo v t ys k) (hk : k < t) : BigTo v t (ys.set (t - 1 - k) (v / 256 ^ k % 256)) (k + 1) := by
  refine ⟨by simpa using h.1, fun j hj hj' => ?_⟩
  by_cases e : t - 1 - k = j
  · subst e
    rw [getD_set_self _ _ _ (by rw [h.1]; omega), show t - 1 - (t - 1 - k) = k by omega]
  · rw [getD_set_ne _ _ _ _ e]
    exact h.2 j (by omega) hj'
theorem BigTo.all {v : Int} {t : Nat} {ys : List Int} (h : BigTo v t ys t) : ys = bigL v t :=
  eq_of_getD (by rw [h.1, bigL_len]) (fun i hi => by rw [h.1] at hi; rw [h.2 i (by omega) hi, bigL_get v t i hi])
theorem div256 (v : Int) (k : Nat) : v / 256 ^ k / 256 = v / 256 ^ (k + 1) := by
  have h0 := p256_pos k
  rw [Int.ediv_ediv_of_nonneg (by omega), ← Int.pow_succ]

theorem getD_apd_right (xs ys : List Int) (i : Nat) (h : xs.length ≤ i) : (xs ++ ys).getD i 0 = ys.getD (i - xs.length) 0 := by
  rw [List.getD_eq_getElem?_getD, List.getElem?_append_right h, ← List.getD_eq_getElem?_getD]
theorem getD_apd_left (xs ys : List Int) (i : Nat) (h : i < xs.length) : (xs ++ ys).getD i 0 = xs.getD i 0 := by
  rw [List.getD_eq_getElem?_getD, List.getElem?_append_left h, ← List.getD_eq_getElem?_getD]

/-- How many zeros, and the whole padding. -/
def padZ (n : Int) (B t : Nat) : Nat := (((B : Int) - (n + 1 + (t : Int)) % (B : Int)) % (B : Int)).toNat
def padL (n : Int) (B t : Nat) : List Int := 128 :: (List.replicate (padZ n B t) 0 ++ bigL (8 * n) t)
theorem padL_len (n : Int) (B t : Nat) : (padL n B t).length = 1 + padZ n B t + t := by
  unfold padL
  simp [bigL_len]
  omega
theorem byt_cons {x : Int} {xs : List Int} (h0 : 0 ≤ x) (h1 : x < 256) (h : Byt xs) : Byt (x :: xs) := by
  intro j
  cases j with
  | zero => exact ⟨h0, h1⟩
  | succ j => exact h j
theorem byt_apd {xs ys : List Int} (h : Byt xs) (k : Byt ys) : Byt (xs ++ ys) := by
  intro j
  rw [List.getD_eq_getElem?_getD]
  by_cases c : j < xs.length
  · rw [List.getElem?_append_left c, ← List.getD_eq_getElem?_getD]
    exact h j
  · rw [List.getElem?_append_right (by omega), ← List.getD_eq_getElem?_getD]
    exact k _
theorem byt_rep0 (n : Nat) : Byt (List.replicate n 0) := by
  intro j
  rw [List.getD_eq_getElem?_getD, List.getElem?_replicate]
  split <;> simp
theorem padL_byt (n : Int) (B t : Nat) : Byt (padL n B t) := byt_cons (by omega) (by omega) (byt_apd (byt_rep0 _) (bigL_byt _ _))
/-- What is asked for: nothing, where n is not to be hashed. -/
def padA (n : Int) (B t : Nat) : List Int := if 0 ≤ n ∧ n ≤ 1099511627776 then padL n B t else []
theorem padA_byt (n : Int) (B t : Nat) : Byt (padA n B t) := by
  unfold padA
  split
  · exact padL_byt n B t
  · intro j
    simp
theorem padZ_lt (n : Int) {B t : Nat} (h : 0 < B) : padZ n B t < B := by
  unfold padZ
  have h0 := Int.emod_nonneg ((B : Int) - (n + 1 + (t : Int)) % (B : Int)) (show (B : Int) ≠ 0 by omega)
  have h1 := Int.emod_lt_of_pos ((B : Int) - (n + 1 + (t : Int)) % (B : Int)) (show (0 : Int) < (B : Int) by omega)
  omega
theorem padA_len (n : Int) {B t : Nat} (h : 0 < B) : (padA n B t).length ≤ B + t := by
  unfold padA
  split
  · rw [padL_len]
    have := padZ_lt n (t := t) h
    omega
  · simp
/-- As long as the length is no multiple, there are less zeros than are asked. -/
theorem padZ_go {n : Int} {B t k : Nat} (h : k ≤ padZ n B t) (hB : B = 64 ∧ t = 8 ∨ B = 128 ∧ t = 16) (hn : (n + (1 + (k : Int)) + (t : Int)) % (B : Int) ≠ 0) : k + 1 ≤ padZ n B t := by
  unfold padZ at *
  rcases hB with ⟨rfl, rfl⟩ | ⟨rfl, rfl⟩ <;> omega
theorem padZ_end {n : Int} {B t k : Nat} (h : k ≤ padZ n B t) (hB : B = 64 ∧ t = 8 ∨ B = 128 ∧ t = 16) (hn : (n + (1 + (k : Int)) + (t : Int)) % (B : Int) = 0) : k = padZ n B t := by
  unfold padZ at *
  rcases hB with ⟨rfl, rfl⟩ | ⟨rfl, rfl⟩ <;> omega

/-- The program's: the size, and the places from the end on. -/
def padS (n : Int) (B t : Nat) : Nat := 1 + padZ n B t + t
theorem padS_32 (n : Int) : ((padS n 64 8 : Nat) : Int) = if 64 - n % 64 < 9 then 64 - n % 64 + 64 else 64 - n % 64 := by
  unfold padS padZ
  split <;> omega
theorem padS_64 (n : Int) : ((padS n 128 16 : Nat) : Int) = if 128 - n % 128 < 17 then 128 - n % 128 + 128 else 128 - n % 128 := by
  unfold padS padZ
  split <;> omega
def PadTo (n : Int) (s : Nat) (ys : List Int) (k : Nat) : Prop :=
  ys.length = s ∧ ys.getD 0 0 = 128 ∧ (∀ j, 0 < j → j < s - k → ys.getD j 0 = 0) ∧ ∀ j, s - k ≤ j → j < s → ys.getD j 0 = 8 * n / 256 ^ (s - 1 - j) % 256
theorem PadTo.zero (n : Int) (s : Nat) (h : 0 < s) : PadTo n s ((List.replicate s 0).set 0 128) 0 := by
  refine ⟨by simp, ?_, fun j h0 hj => ?_, fun j hj hj' => absurd hj (by omega)⟩
  · rw [getD_set_self _ _ _ (by simpa using h)]
  · rw [getD_set_ne _ _ _ _ (by omega)]
    rw [List.getD_eq_getElem?_getD, List.getElem?_replicate]
    split <;> rfl
theorem PadTo.step {n : Int} {s : Nat} {ys : List Int} {k : Nat} (h : PadTo n s ys k) (hk : k + 1 < s) : PadTo n s (ys.set (s - 1 - k) (8 * n / 256 ^ k % 256)) (k + 1) := by
  obtain ⟨h1, h2, h3, h4⟩ := h
  refine ⟨by simpa using h1, ?_, fun j h0 hj => ?_, fun j hj hj' => ?_⟩
  · rw [getD_set_ne _ _ _ _ (by omega)]
    exact h2
  · rw [getD_set_ne _ _ _ _ (by omega)]
    exact h3 j h0 (by omega)
  · by_cases e : s - 1 - k = j
    · subst e
      rw [getD_set_self _ _ _ (by rw [h1]; omega), show s - 1 - (s - 1 - k) = k by omega]
    · rw [getD_set_ne _ _ _ _ e]
      exact h4 j (by omega) hj'
theorem PadTo.all {n : Int} {B t : Nat} {ys : List Int} (h0 : 0 ≤ n) (h1 : n ≤ 1099511627776) (ht : t = 8 ∨ t = 16) (h : PadTo n (padS n B t) ys 8) : ys = padL n B t := by
  obtain ⟨a1, a2, a3, a4⟩ := h
  refine eq_of_getD (by rw [a1, padL_len]; rfl) (fun i hi => ?_)
  rw [a1] at hi
  have hs : padS n B t = 1 + padZ n B t + t := rfl
  unfold padL
  cases i with
  | zero => rw [a2]; rfl
  | succ i =>
    rw [List.getD_cons_succ]
    by_cases c : i < padZ n B t
    · rw [a3 _ (by omega) (by omega), List.getD_eq_getElem?_getD, List.getElem?_append_left (by simpa using c), List.getElem?_replicate, if_pos c]
      rfl
    · rw [getD_apd_right (List.replicate (padZ n B t) 0) _ i (by simpa using c), List.length_replicate, bigL_get _ _ _ (by omega)]
      by_cases d : padS n B t - 8 ≤ i + 1
      · rw [a4 _ d hi, show padS n B t - 1 - (i + 1) = t - 1 - (i - padZ n B t) by omega]
      · rw [a3 _ (by omega) (by omega)]
        obtain ⟨e, he⟩ : ∃ e, t - 1 - (i - padZ n B t) = 8 + e := ⟨t - 1 - (i - padZ n B t) - 8, by omega⟩
        rw [he, Int.pow_add]
        have hp := p256_pos e
        have hz : 8 * n / ((256 : Int) ^ 8 * 256 ^ e) = 0 := by
          refine Int.ediv_eq_zero_of_lt (by omega) ?_
          have : (256 : Int) ^ 8 * 1 ≤ 256 ^ 8 * 256 ^ e := Int.mul_le_mul_of_nonneg_left (by omega) (by decide)
          have : (256 : Int) ^ 8 = 18446744073709551616 := by decide
          omega
        rw [hz]
        rfl
end Go.Proofs.Ytjjoimlnpbelpaa
