
/-
  The stream laid over twice, and the part behind a multiple of 64 bytes, as numbers.
-/
import Derived.Test.YtcljoaknaegpmaaCcH
namespace Go.Proofs.Ytcljoaknaegpmaa
open Go Go.RowKit

theorem xr_byt {d b : Int} (hd : 0 ≤ d ∧ d < 256) (hb : 0 ≤ b ∧ b < 256) : 0 ≤ xr d b ∧ xr d b < 256 := by
  unfold xr
  obtain ⟨n, rfl⟩ := Int.eq_ofNat_of_zero_le hd.1
  obtain ⟨m, rfl⟩ := Int.eq_ofNat_of_zero_le hb.1
  have h1 := hd.2
  have h2 := hb.2
  rw [u8_xor_nat n m (by omega) (by omega)]
  have : n ^^^ m < 2 ^ 8 := Nat.xor_lt_two_pow (by omega) (by omega)
  exact ⟨by omega, by omega⟩
theorem xr_xr {d b : Int} (hd : 0 ≤ d ∧ d < 256) (hb : 0 ≤ b ∧ b < 256) : xr (xr d b) b = d := by
  unfold xr
  obtain ⟨n, rfl⟩ := Int.eq_ofNat_of_zero_le hd.1
  obtain ⟨m, rfl⟩ := Int.eq_ofNat_of_zero_le hb.1
  have h1 := hd.2
  have h2 := hb.2
  have h3 : n ^^^ m < 2 ^ 8 := Nat.xor_lt_two_pow (by omega) (by omega)
  rw [u8_xor_nat n m (by omega) (by omega), u8_xor_nat (n ^^^ m) m (by omega) (by omega), Nat.xor_assoc, Nat.xor_self, Nat.xor_zero]
theorem xoG_byt (ys : List Int) (c : Int) {data : List Int} (hb : Byt data) (k : Nat) : Byt (xoG ys c data k) := by
  intro i
  by_cases hi : i < data.length
  · rw [xoG_get _ _ _ _ hi]
    split
    · exact xr_byt (hb i) (stB_byt _ _)
    · exact hb i
  · rw [List.getD_eq_getElem?_getD, List.getElem?_eq_none (by rw [xoG_len]; omega)]; decide
theorem xoG_xoG (ys : List Int) (c : Int) {data : List Int} (hb : Byt data) : xoG ys c (xoG ys c data ((data.length + 63) / 64)) ((data.length + 63) / 64) = data := by
  refine eq_of_getD (by rw [xoG_len, xoG_len]) (fun i hi => ?_)
  rw [xoG_len, xoG_len] at hi
  rw [xoG_get _ _ _ _ (by rw [xoG_len]; exact hi), if_pos (by omega), xoG_get _ _ _ _ hi, if_pos (by omega)]
  exact xr_xr (hb i) (stB_byt _ _)
theorem xoG_drop (ys : List Int) (c : Int) (data : List Int) (b : Nat) (h : 64 * b ≤ data.length) : xoG ys (c + (b : Int)) (data.drop (64 * b)) ((data.length - 64 * b + 63) / 64) = (xoG ys c data ((data.length + 63) / 64)).drop (64 * b) := by
  refine eq_of_getD (by rw [xoG_len, List.length_drop, List.length_drop, xoG_len]) (fun i hi => ?_)
  rw [xoG_len, List.length_drop] at hi
  have e : ∀ l : List Int, (l.drop (64 * b)).getD i 0 = l.getD (64 * b + i) 0 := fun l => by rw [List.getD_eq_getElem?_getD, List.getElem?_drop, List.getD_eq_getElem?_getD]
  rw [xoG_get _ _ _ _ (by rw [List.length_drop]; exact hi), if_pos (by omega), e, e, xoG_get _ _ _ _ (by omega), if_pos (by omega), show (64 * b + i) % 64 = i % 64 by omega, show (64 * b + i) / 64 = b + i / 64 by omega]
  congr 4
  omega
theorem sxA_len_or (key : List Int) (c : Int) (non data : List Int) : (sxA key c non data).length = data.length ∨ sxA key c non data = [] := by
  unfold sxA
  split
  · exact .inl (xoG_len _ _ _ _)
  · exact .inr rfl
/-- The two parts of the law. -/
theorem sxA_twice {key : List Int} {c : Int} {non data : List Int} (hb : Byt data) (h0 : 0 < data.length) (h : (sxA key c non data).length = data.length) : sxA key c non (sxA key c non data) = data := by
  unfold sxA at h ⊢
  by_cases hc : fitB key c non = true ∧ hasC c data.length = true
  · rw [if_pos hc, xoG_len, if_pos hc]
    exact xoG_xoG _ _ hb
  · rw [if_neg hc] at h
    simp at h
    omega
theorem sxA_part {key : List Int} {c : Int} {non data : List Int} (h : (sxA key c non data).length = data.length) (b : Nat) (hb : 64 * b < data.length) : sxA key (c + (b : Int)) non (data.drop (64 * b)) = (sxA key c non data).drop (64 * b) := by
  unfold sxA at h ⊢
  by_cases hc : fitB key c non = true ∧ hasC c data.length = true
  · rw [if_pos hc]
    obtain ⟨h1, h2⟩ := hc
    unfold hasC at h2
    simp only [decide_eq_true_eq] at h2
    unfold fitB at h1
    simp only [Bool.and_eq_true, decide_eq_true_eq] at h1
    rw [if_pos, List.length_drop]
    · exact xoG_drop _ _ _ b (by omega)
    · unfold fitB hasC
      simp only [Bool.and_eq_true, decide_eq_true_eq, List.length_drop]
      exact ⟨⟨h1.1, by omega, by omega⟩, by omega⟩
  · rw [if_neg hc] at h
    simp at h
    omega
end Go.Proofs.Ytcljoaknaegpmaa
