
/-
  Integers as bytes: numbers alone.
-/
import Derived.Test.YtdgbioekofmekaaBase
namespace Go.Proofs.Ytdgbioekofmekaa

/-- n bytes of v, the highest first. -/
def sgB (n : Nat) (v : Int) : List Int := fill (fun j => v / 2 ^ (8 * (n - 1 - j)) % 256) n
theorem sgB_len (n : Nat) (v : Int) : (sgB n v).length = n := fill_len _ _
theorem sgB_get (n : Nat) (v : Int) (j : Nat) (h : j < n) : (sgB n v).getD j 0 = v / 2 ^ (8 * (n - 1 - j)) % 256 := fill_get _ _ _ h
theorem sgB_byt (n : Nat) (v : Int) : Byt (sgB n v) := fun i => by
  by_cases h : i < n
  · rw [sgB_get n v i h]; omega
  · rw [List.getD_eq_getElem?_getD, List.getElem?_eq_none (by rw [sgB_len]; omega)]; decide
/-- v is told by n bytes. -/
def fits (n : Nat) (v : Int) : Bool := decide (-(2 ^ (8 * n - 1)) ≤ v ∧ v < 2 ^ (8 * n - 1))
def isz (v : Int) : Nat := if fits 1 v then 1 else if fits 2 v then 2 else if fits 3 v then 3 else if fits 4 v then 4 else if fits 5 v then 5 else if fits 6 v then 6 else if fits 7 v then 7 else 8
theorem fits_mono {n m : Nat} (h1 : 1 ≤ n) (h : n ≤ m) {v : Int} (hf : fits n v = true) : fits m v = true := by
  unfold fits at *
  simp only [decide_eq_true_eq] at *
  have : (2 : Int) ^ (8 * n - 1) ≤ 2 ^ (8 * m - 1) := by exact_mod_cast Nat.pow_le_pow_right (by decide) (by omega)
  omega
/-- The size is the least one that does. -/
theorem isz_of {v : Int} {n : Nat} (h1 : 1 ≤ n) (h8 : n ≤ 8) (hf : n = 8 ∨ fits n v = true) (hn : n = 1 ∨ fits (n - 1) v = false) : isz v = n := by
  have no : ∀ m, 1 ≤ m → m < n → fits m v = false := by
    intro m hm hmn
    rcases hn with hn | hn
    · omega
    · cases hfm : fits m v with
      | false => rfl
      | true => rw [fits_mono hm (by omega) hfm] at hn; cases hn
  obtain rfl | rfl | rfl | rfl | rfl | rfl | rfl | rfl : n = 1 ∨ n = 2 ∨ n = 3 ∨ n = 4 ∨ n = 5 ∨ n = 6 ∨ n = 7 ∨ n = 8 := by omega
  all_goals (unfold isz; simp_all [no 1, no 2, no 3, no 4, no 5, no 6, no 7])
theorem isz_bd (v : Int) : 1 ≤ isz v ∧ isz v ≤ 8 := by unfold isz; repeat' split
                                                       all_goals omega
theorem isz_min (v : Int) : isz v = 1 ∨ fits (isz v - 1) v = false := by
  unfold isz
  split
  · exact .inl rfl
  split
  · simp_all
  split
  · simp_all
  split
  · simp_all
  split
  · simp_all
  split
  · simp_all
  split
  · simp_all
  · simp_all
theorem isz_fits (v : Int) (h0 : -9223372036854775808 ≤ v) (h1 : v < 9223372036854775808) : fits (isz v) v = true := by
  unfold isz
  repeat' split
  all_goals first | assumption | skip
  unfold fits
  simp only [decide_eq_true_eq]
  exact ⟨by simpa using h0, by simpa using h1⟩
/-- What EncodeInteger answers. -/
def eiL (v : Int) : List Int := sgB (isz v) v
/-- The signed number of the first k bytes. -/
def svK (b : List Int) : Nat → Int
  | 0 => if 128 ≤ b.getD 0 0 then -1 else 0
  | k + 1 => svK b k * 256 + b.getD k 0
def sv (b : List Int) : Int := svK b b.length
theorem svK_bd {b : List Int} (hb : Byt b) : ∀ k, -(2 ^ (8 * k + 7)) ≤ svK b (k + 1) ∧ svK b (k + 1) < 2 ^ (8 * k + 7)
  | 0 => by
    have := hb 0
    simp only [svK]
    split <;> omega
  | k + 1 => by
    have ih := svK_bd hb k
    have hx := hb (k + 1)
    have e : svK b (k + 1 + 1) = svK b (k + 1) * 256 + b.getD (k + 1) 0 := rfl
    have p : (2 : Int) ^ (8 * (k + 1) + 7) = 2 ^ (8 * k + 7) * 256 := by rw [show 8 * (k + 1) + 7 = (8 * k + 7) + 8 by omega, Int.pow_add]; rfl
    rw [e, p]
    generalize (2 : Int) ^ (8 * k + 7) = q at *
    omega
theorem sv_fits {b : List Int} (hb : Byt b) (h : 1 ≤ b.length) : fits b.length (sv b) = true := by
  have := svK_bd hb (b.length - 1)
  unfold fits sv
  simp only [decide_eq_true_eq]
  rw [show b.length - 1 + 1 = b.length by omega, show 8 * (b.length - 1) + 7 = 8 * b.length - 1 by omega] at this
  exact this
theorem pow8_pos (k : Nat) : (0 : Int) < 2 ^ k := Int.pow_pos (by decide)
theorem svK_div {b : List Int} (hb : Byt b) (k : Nat) : ∀ m, svK b (k + m) / 2 ^ (8 * m) = svK b k
  | 0 => by simp
  | m + 1 => by
    have ih := svK_div hb k m
    have hx := hb (k + m)
    have e : svK b (k + (m + 1)) = svK b (k + m) * 256 + b.getD (k + m) 0 := rfl
    rw [show 8 * (m + 1) = 8 + 8 * m by omega, Int.pow_add, ← Int.ediv_ediv_of_nonneg (by decide), e, show ((2 : Int) ^ 8) = 256 from rfl]
    rw [show (svK b (k + m) * 256 + b.getD (k + m) 0) / 256 = svK b (k + m) by omega]
    exact ih
theorem sgB_sv {b : List Int} (hb : Byt b) : sgB b.length (sv b) = b := by
  refine eq_of_getD (sgB_len _ _) fun i hi => ?_
  rw [sgB_len] at hi
  rw [sgB_get _ _ _ hi]
  have := svK_div hb (i + 1) (b.length - 1 - i)
  rw [show i + 1 + (b.length - 1 - i) = b.length by omega] at this
  unfold sv
  rw [this]
  have hx := hb i
  show (svK b i * 256 + b.getD i 0) % 256 = _
  omega
theorem svK_sgB {n : Nat} {v : Int} (h1 : 1 ≤ n) (hf : fits n v = true) : ∀ k, k ≤ n → svK (sgB n v) k = v / 2 ^ (8 * (n - k))
  | 0, _ => by
    unfold fits at hf
    simp only [decide_eq_true_eq] at hf
    have p : (2 : Int) ^ (8 * (n - 0)) = 2 ^ (8 * (n - 1)) * 256 := by rw [show 8 * (n - 0) = 8 * (n - 1) + 8 by omega, Int.pow_add]; rfl
    have q : (2 : Int) ^ (8 * n - 1) = 2 ^ (8 * (n - 1)) * 128 := by rw [show 8 * n - 1 = 8 * (n - 1) + 7 by omega, Int.pow_add]; rfl
    rw [q] at hf
    have hp := pow8_pos (8 * (n - 1))
    rw [p, ← Int.ediv_ediv_of_nonneg (by omega)]
    simp only [svK]
    rw [sgB_get n v 0 (by omega), show n - 1 - 0 = n - 1 by omega]
    generalize (2 : Int) ^ (8 * (n - 1)) = d at *
    have a1 : -128 ≤ v / d := by rw [Int.le_ediv_iff_mul_le hp]; rw [Int.neg_mul, Int.mul_comm]; exact hf.1
    have a2 : v / d < 128 := by rw [Int.ediv_lt_iff_lt_mul hp, Int.mul_comm]; exact hf.2
    generalize v / d = t at *
    split <;> omega
  | k + 1, hk => by
    have ih := svK_sgB h1 hf k (by omega)
    show svK (sgB n v) k * 256 + (sgB n v).getD k 0 = _
    rw [ih, sgB_get n v k (by omega)]
    have p : (2 : Int) ^ (8 * (n - k)) = 2 ^ (8 * (n - 1 - k)) * 256 := by rw [show 8 * (n - k) = 8 * (n - 1 - k) + 8 by omega, Int.pow_add]; rfl
    have hp := pow8_pos (8 * (n - 1 - k))
    rw [p, ← Int.ediv_ediv_of_nonneg (by omega), show n - (k + 1) = n - 1 - k by omega]
    generalize v / 2 ^ (8 * (n - 1 - k)) = t
    omega
theorem sv_sgB {n : Nat} {v : Int} (h1 : 1 ≤ n) (hf : fits n v = true) : sv (sgB n v) = v := by
  have := svK_sgB h1 hf n (Nat.le_refl _)
  unfold sv
  rw [sgB_len, this]
  simp
theorem sv_sgB_iff {n : Nat} {v : Int} (h1 : 1 ≤ n) : decide (sv (sgB n v) = v) = fits n v := by
  cases hf : fits n v with
  | true => exact decide_eq_true (sv_sgB h1 hf)
  | false =>
    refine decide_eq_false fun h => ?_
    have := sv_fits (sgB_byt n v) (by rw [sgB_len]; exact h1)
    rw [sgB_len, h, hf] at this
    cases this
theorem sgB_drop (n m : Nat) (v : Int) (h : n ≤ m) : (sgB m v).drop (m - n) = sgB n v := by
  refine eq_of_getD (by rw [List.length_drop, sgB_len, sgB_len]; omega) fun i hi => ?_
  rw [List.length_drop, sgB_len] at hi
  rw [List.getD_eq_getElem?_getD, List.getElem?_drop, ← List.getD_eq_getElem?_getD, sgB_get _ _ _ (by omega), sgB_get _ _ _ (by omega), show m - 1 - (m - n + i) = n - 1 - i by omega]
/-- What DecodeInteger answers. -/
def diB (b : List Int) : Bool := decide (1 ≤ b.length) && (decide (b.length ≤ 8) && decide (isz (sv b) = b.length))
def diV (b : List Int) : Int := if diB b = true then sv b else 0
theorem diB_same {b : List Int} (hb : Byt b) : decide (eiL (sv b) = b) = decide (isz (sv b) = b.length) := by
  by_cases h : isz (sv b) = b.length
  · rw [decide_eq_true h]
    refine decide_eq_true ?_
    unfold eiL
    rw [h]
    exact sgB_sv hb
  · rw [decide_eq_false h]
    refine decide_eq_false fun e => h ?_
    have := congrArg List.length e
    unfold eiL at this
    rwa [sgB_len] at this
theorem eiL_len (v : Int) : (eiL v).length = isz v := sgB_len _ _
theorem eiL_byt (v : Int) : Byt (eiL v) := sgB_byt _ _
/-- There and back. -/
theorem di_ei (v : Int) (h0 : -9223372036854775808 ≤ v) (h1 : v < 9223372036854775808) : diB (eiL v) = true ∧ diV (eiL v) = v := by
  have hz := isz_bd v
  have e : sv (eiL v) = v := sv_sgB hz.1 (isz_fits v h0 h1)
  have hB : diB (eiL v) = true := by
    unfold diB
    rw [e, eiL_len]
    simp [hz.1, hz.2]
  refine ⟨hB, ?_⟩
  unfold diV
  rw [if_pos hB, e]
theorem ei_di {b : List Int} (hb : Byt b) (h : diB b = true) : eiL (diV b) = b := by
  unfold diV
  rw [if_pos h]
  unfold diB at h
  simp only [Bool.and_eq_true, decide_eq_true_eq] at h
  unfold eiL
  rw [h.2.2]
  exact sgB_sv hb
/-- L bits hold x, and no fewer do. -/
def Bts (x : Int) (L : Nat) : Prop := 0 ≤ x ∧ x < 2 ^ L ∧ (L = 0 ∨ 2 ^ (L - 1) ≤ x)
theorem Bts.le {x : Int} {L k : Nat} (h : Bts x L) (hx : x < 2 ^ k) : L ≤ k := by
  by_cases c : L ≤ k
  · exact c
  · rcases h.2.2 with h0 | h0
    · omega
    · have : (2 : Int) ^ k ≤ 2 ^ (L - 1) := by exact_mod_cast Nat.pow_le_pow_right (by decide) (by omega)
      omega
/-- How many bytes by how many bits. -/
theorem isz_bts {v : Int} {L : Nat} (h : Bts (if v < 0 then -v - 1 else v) L) (hL : L ≤ 63) : isz v = L / 8 + 1 := by
  obtain ⟨h0, h1, h2⟩ := h
  refine isz_of (by omega) (by omega) (.inr ?_) ?_
  · unfold fits
    simp only [decide_eq_true_eq]
    have : (2 : Int) ^ L ≤ 2 ^ (8 * (L / 8 + 1) - 1) := by exact_mod_cast Nat.pow_le_pow_right (by decide) (by omega)
    generalize (2 : Int) ^ (8 * (L / 8 + 1) - 1) = q at *
    split at h0 <;> split at h1 <;> omega
  · by_cases c : L < 8
    · left; omega
    · right
      rcases h2 with h2 | h2
      · omega
      · unfold fits
        simp only [decide_eq_false_iff_not]
        have : (2 : Int) ^ (8 * (L / 8 + 1 - 1) - 1) ≤ 2 ^ (L - 1) := by exact_mod_cast Nat.pow_le_pow_right (by decide) (by omega)
        generalize (2 : Int) ^ (8 * (L / 8 + 1 - 1) - 1) = q at *
        split at h2 <;> omega
end Go.Proofs.Ytdgbioekofmekaa
