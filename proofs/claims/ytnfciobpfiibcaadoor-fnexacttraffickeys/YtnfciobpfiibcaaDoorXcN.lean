
/-
  What is expanded, as lists: the pieces one behind the other. Numbers alone.
-/
import Derived.Test.YtnfciobpfiibcaaDoorXcE
namespace Go.Proofs.YtnfciobpfiibcaaDoor
set_option maxRecDepth 100000
open Go Go.RowKit

/-- The pieces of a key. -/
def tM (ks inf : List Int) (j : Nat) : List Int := pT (maskL (keyL ks) 54) (maskL (keyL ks) 92) inf j
theorem tM_succ (ks inf : List Int) (j : Nat) : tM ks inf (j + 1) = macL ks (tM ks inf j ++ (inf ++ [((j + 1 : Nat) : Int)])) := rfl
theorem tM_zero (ks inf : List Int) : tM ks inf 0 = [] := rfl
theorem tM_len (ks inf : List Int) {j : Nat} (h : 0 < j) : (tM ks inf j).length = 32 := by unfold tM; rw [pT_len, if_neg (by omega)]
theorem tM_byt (ks inf : List Int) (j : Nat) : Byt (tM ks inf j) := pT_byt _ _ _ _
def catT (ks inf : List Int) : Nat → List Int
  | 0 => []
  | k + 1 => catT ks inf k ++ tM ks inf (k + 1)
theorem catT_len (ks inf : List Int) : ∀ k, (catT ks inf k).length = 32 * k
  | 0 => rfl
  | k + 1 => by unfold catT; rw [List.length_append, catT_len ks inf k, tM_len _ _ (by omega)]; omega
theorem catT_byt (ks inf : List Int) : ∀ k, Byt (catT ks inf k)
  | 0 => byt_nil
  | k + 1 => byt_apd (catT_byt ks inf k) (tM_byt ks inf (k + 1))
/-- N bytes of them. -/
def expL (ks inf : List Int) (N : Nat) : List Int := (catT ks inf ((N + 31) / 32)).take N
theorem expL_len (ks inf : List Int) (N : Nat) : (expL ks inf N).length = N := by unfold expL; rw [List.length_take, catT_len]; omega
theorem expL_byt (ks inf : List Int) (N : Nat) : Byt (expL ks inf N) := byt_takeh (catT_byt _ _ _) _
theorem catT_pre (ks inf : List Int) (a : Nat) : ∀ d, (catT ks inf (a + d)).take (32 * a) = catT ks inf a
  | 0 => by rw [Nat.add_zero, ← catT_len ks inf a, List.take_length]
  | d + 1 => by
    show (catT ks inf (a + d) ++ tM ks inf (a + d + 1)).take (32 * a) = _
    rw [List.take_append_of_le_length (by rw [catT_len]; omega)]
    exact catT_pre ks inf a d
theorem expL_pre (ks inf : List Int) {n m : Nat} (h : n ≤ m) : expL ks inf n = (expL ks inf m).take n := by
  unfold expL
  have e := catT_pre ks inf ((n + 31) / 32) ((m + 31) / 32 - (n + 31) / 32)
  rw [show (n + 31) / 32 + ((m + 31) / 32 - (n + 31) / 32) = (m + 31) / 32 by omega] at e
  rw [← e, List.take_take, List.take_take, Nat.min_eq_left (show n ≤ 32 * ((n + 31) / 32) by omega), Nat.min_eq_left h]
theorem tG_is (ks inf : List Int) (N : Nat) : ∀ k, 32 * k < N + 32 → tG (maskL (keyL ks) 54) (maskL (keyL ks) 92) inf N k = (catT ks inf k).take N ++ List.replicate (N - 32 * k) 0
  | 0, _ => by
    show List.replicate N 0 = _
    simp [catT]
  | k + 1, h => by
    have ih := tG_is ks inf N k (by omega)
    have lc := catT_len ks inf k
    have lt := tM_len ks inf (j := k + 1) (by omega)
    show lay (tG _ _ inf N k) (32 * k) ((tM ks inf (k + 1)).take (pcL N k)) = (catT ks inf k ++ tM ks inf (k + 1)).take N ++ _
    rw [ih, List.take_of_length_le (show (catT ks inf k).length ≤ N by omega)]
    unfold lay
    have e1 : ((tM ks inf (k + 1)).take (pcL N k)).length = pcL N k := by rw [List.length_take, lt]; unfold pcL; omega
    have e3 : (catT ks inf k ++ List.replicate (N - 32 * k) 0).drop (32 * k + pcL N k) = List.replicate (N - 32 * (k + 1)) 0 := by
      rw [List.drop_append, List.drop_eq_nil_of_le (by rw [lc]; omega), List.nil_append, List.drop_replicate, lc]
      congr 1
      unfold pcL
      omega
    have e2 : (tM ks inf (k + 1)).take (N - 32 * k) = (tM ks inf (k + 1)).take (pcL N k) := by
      unfold pcL
      by_cases c : N - 32 * k ≤ 32
      · rw [Nat.min_eq_right c]
      · rw [Nat.min_eq_left (by omega), List.take_of_length_le (by omega), List.take_of_length_le (by omega)]
    rw [e1, e3, List.take_left' lc, List.take_append, lc, List.take_of_length_le (show (catT ks inf k).length ≤ N by omega), e2, List.append_assoc]
theorem tG_exp (ks inf : List Int) (N : Nat) : tG (maskL (keyL ks) 54) (maskL (keyL ks) 92) inf N ((N + 31) / 32) = expL ks inf N := by
  rw [tG_is ks inf N _ (by omega), show N - 32 * ((N + 31) / 32) = 0 by omega]
  simp [expL]
/-- The whole answer. -/
def expA (ks inf : List Int) (n : Int) : List Int := if 0 ≤ n ∧ n ≤ 8160 then expL ks inf n.toNat else []
theorem expA_of (ks inf : List Int) {N : Nat} (h : N ≤ 8160) : expA ks inf (N : Int) = expL ks inf N := by
  unfold expA
  rw [if_pos (by omega)]
  rfl
theorem expA_len (ks inf : List Int) (n : Int) : (expA ks inf n).length ≤ 8160 := by
  unfold expA
  split
  · rw [expL_len]; omega
  · simp
end Go.Proofs.YtnfciobpfiibcaaDoor
