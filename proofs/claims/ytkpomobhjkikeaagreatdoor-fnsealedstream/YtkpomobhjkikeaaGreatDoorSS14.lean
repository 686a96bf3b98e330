import Derived.Test.YtkpomobhjkikeaaGreatDoorSS12
import Derived.Test.YtkpomobhjkikeaaGreatDoorSS13
namespace Go.Proofs.YtkpomobhjkikeaaGreatDoor
set_option maxRecDepth 100000
open Go.RowKit
theorem byt_app1 {ys : List Int} (h : Byt ys) (x : Int) (h0 : 0 ≤ x) (h1 : x < 256) : Byt (ys ++ [x]) := by
  intro i
  rcases Nat.lt_trichotomy i ys.length with e | e | e
  · have := h i
    simpa [List.getElem?_append, e] using this
  · subst e
    simp [h0, h1]
  · rw [List.getD_eq_getElem?_getD, List.getElem?_eq_none (by simp; omega)]
    decide
def TurnTo (xs ys : List Int) (k : Nat) : Prop := ys.length = k ∧ ∀ i, i < k → ys.getD i 0 = xs.getD (xs.length - 1 - i) 0
theorem TurnTo.step {xs ys : List Int} {k : Nat} (h : TurnTo xs ys k) : TurnTo xs (ys ++ [xs.getD (xs.length - 1 - k) 0]) (k + 1) := by
  refine ⟨by simp [h.1], fun i hi => ?_⟩
  by_cases e : i < k
  · rw [← h.2 i e]
    simp [List.getElem?_append, h.1, e]
  · obtain rfl : i = k := by omega
    simp [h.1]
theorem lo_lsum {ys : List Int} {a : Nat → Int} : ∀ n, (∀ i, i < n → dig ys i = a i) → lo ys n = lsum a n
  | 0, _ => rfl
  | n + 1, h => by rw [lo, lsum, lo_lsum n (fun i hi => h i (by omega)), h n (by omega)]
theorem TurnTo.val {xs ys : List Int} (h : TurnTo xs ys xs.length) : bval ys = lsum (fun j => xs.getD j 0) xs.length := by
  rw [← lo_all ys xs.length (by rw [h.1]; exact Nat.le_refl _)]
  refine lo_lsum _ (fun i hi => ?_)
  unfold dig
  rw [if_pos (by rw [h.1]; exact hi), h.2 _ (by rw [h.1]; omega), h.1]
  congr 1
  omega
theorem hi_div {xs : List Int} (hb : Byt xs) : ∀ i, hi xs i = bval xs / 256 ^ i
  | 0 => by rw [hi_zero]; simp
  | i + 1 => by
    have h := hi_step xs i
    have hd := dig_byt hb i
    rw [Int.pow_succ, ← Int.ediv_ediv_of_nonneg (Int.le_of_lt (p256_pos i)), ← hi_div hb i]
    omega
theorem dig_of {xs : List Int} (hb : Byt xs) (i : Nat) : dig xs i = byt (bval xs) i := by
  have h := hi_step xs i
  have hd := dig_byt hb i
  unfold byt
  rw [← hi_div hb i]
  omega
theorem fill_congr {f g : Nat → Int} {n : Nat} (h : ∀ i, i < n → f i = g i) : fill f n = fill g n :=
  eq_of_getD (by rw [fill_len, fill_len]) (fun i hi => by rw [fill_len] at hi; rw [fill_get f n i hi, fill_get g n i hi, h i hi])
end Go.Proofs.YtkpomobhjkikeaaGreatDoor
