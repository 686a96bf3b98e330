import Derived.Test.YtkpomobhjkikeaaGreatDoorSS22
import Derived.Deep.RegionHeld3
namespace Go.Proofs.YtkpomobhjkikeaaGreatDoor
set_option maxRecDepth 100000
open Go Go.RowKit
theorem lsum_set {ys : List Int} {i : Nat} {v : Int} : ∀ n, n ≤ ys.length → lsum (fun j => (ys.set i v).getD j 0) n = lsum (fun j => ys.getD j 0) n + if i < n then (v - ys.getD i 0) * 256 ^ i else 0
  | 0, _ => by simp [lsum]
  | n + 1, h => by
    have ih := lsum_set (ys := ys) (i := i) (v := v) n (by omega)
    rw [lsum, lsum, ih]
    by_cases e : i = n
    · subst e
      rw [if_neg (by omega), if_pos (by omega), getD_set_self _ _ _ (by omega), Int.sub_mul]
      omega
    · rw [getD_set_ne _ _ _ _ e]
      by_cases c : i < n
      · rw [if_pos c, if_pos (by omega)]; omega
      · rw [if_neg c, if_neg (by omega)]; omega
def ybd : Nat → Int
  | 0 => 12111920640
  | r + 1 => 4 * ybd r
def yc (c : Nat → Int) (j : Nat) : Int := c j + 320 * c (j + 17)
structure Col (a b : Nat → Int) (cs : List Int) (i j : Nat) : Prop where
  len : cs.length = 34
  bd : ∀ t, 0 ≤ cs.getD t 0 ∧ cs.getD t 0 ≤ (17 * i + j : Nat) * 130560
  val : lsum (fun t => cs.getD t 0) 34 = lsum a i * lsum b 17 + a i * 256 ^ i * lsum b j
theorem Col.zero (a b : Nat → Int) : Col a b (List.replicate 34 0) 0 0 := by
  refine ⟨by simp, fun t => ?_, ?_⟩
  · rw [List.getD_eq_getElem?_getD, List.getElem?_replicate]; split <;> simp
  · have : lsum (fun t => (List.replicate 34 (0 : Int)).getD t 0) 34 = 0 := by decide +kernel
    rw [this]
    simp [lsum]
theorem Col.step {a b : Nat → Int} {cs : List Int} {i j : Nat} (h : Col a b cs i j) (hi : i < 17) (hj : j < 17) (hp : 0 ≤ a i * b j ∧ a i * b j ≤ 130560) : Col a b (cs.set (i + j) (cs.getD (i + j) 0 + a i * b j)) i (j + 1) := by
  refine ⟨by rw [List.length_set]; exact h.len, fun t => ?_, ?_⟩
  · by_cases e : i + j = t
    · subst e
      rw [getD_set_self _ _ _ (by rw [h.len]; omega)]
      have := h.bd (i + j)
      omega
    · rw [getD_set_ne _ _ _ _ e]
      have := h.bd t
      omega
  · rw [lsum_set 34 (by rw [h.len]; omega), h.val, if_pos (by omega), lsum.eq_2 b j, Int.pow_add]
    generalize lsum a i * lsum b 17 = X
    generalize cs.getD (i + j) 0 = c
    have e1 : (c + a i * b j - c) = a i * b j := by omega
    rw [e1, Int.mul_add]
    have e2 : a i * b j * (256 ^ i * 256 ^ j) = a i * 256 ^ i * (b j * 256 ^ j) := by
      rw [Int.mul_assoc, Int.mul_assoc, Int.mul_left_comm (b j)]
    rw [e2]
    omega
theorem Col.next {a b : Nat → Int} {cs : List Int} {i : Nat} (h : Col a b cs i 17) : Col a b cs (i + 1) 0 := by
  refine ⟨h.len, fun t => ?_, ?_⟩
  · have := h.bd t; omega
  · rw [h.val, lsum.eq_2 a i, Int.add_mul, lsum.eq_1 b, Int.mul_zero, Int.add_zero]
def UpN (n : Nat) (f u : Nat → Int) (ys : List Int) (k : Nat) : Prop := ys.length = n ∧ (∀ j, j < k → ys.getD j 0 = f j) ∧ ∀ j, k ≤ j → j < n → ys.getD j 0 = u j
theorem UpN.step {n : Nat} {f u : Nat → Int} {ys : List Int} {k : Nat} (h : UpN n f u ys k) (hk : k < n) : UpN n f u (ys.set k (f k)) (k + 1) := by
  refine ⟨by simpa using h.1, fun j hj => ?_, fun j hj hj5 => ?_⟩
  · by_cases e : k = j
    · subst e
      rw [getD_set_self _ _ _ (by rw [h.1]; exact hk)]
    · rw [getD_set_ne _ _ _ _ e]
      exact h.2.1 j (by omega)
  · rw [getD_set_ne _ _ _ _ (by omega)]
    exact h.2.2 j (by omega) hj5
theorem UpN.all {n : Nat} {f u : Nat → Int} {ys : List Int} (h : UpN n f u ys n) : ys = fill f n :=
  eq_of_getD (by rw [h.1, fill_len]) (fun i hi => by rw [h.1] at hi; rw [h.2.1 i hi, fill_get _ _ _ hi])
end Go.Proofs.YtkpomobhjkikeaaGreatDoor
