
/-
  Items by trial: the model's way, numbers alone.
-/
import Derived.Test.YtgmnnmlbmibabaaItR
namespace Go.Proofs.Ytgmnnmlbmibabaa

/-- The length that k bytes ahead of the body tell. -/
def nK (R : List Int) (k : Nat) : Nat := if k = 2 then (R.getD 1 0).toNat else if k = 3 then (R.getD 2 0).toNat else (256 * R.getD 2 0 + R.getD 3 0).toNat
def mtK (R : List Int) (k : Nat) : Bool := decide (k + nK R k ≤ R.length) && decide (lenL (nK R k) = (R.drop 1).take (k - 1))
theorem getD_dropA (xs : List Int) (i j : Nat) : (xs.drop i).getD j 0 = xs.getD (i + j) 0 := by
  rw [List.getD_eq_getElem?_getD, List.getD_eq_getElem?_getD, List.getElem?_drop]
theorem getD_takeA (xs : List Int) (n j : Nat) (h : j < n) : (xs.take n).getD j 0 = xs.getD j 0 := by
  rw [List.getD_eq_getElem?_getD, List.getD_eq_getElem?_getD, List.getElem?_take, if_pos h]
theorem nK_bd {R : List Int} (hb : Byt R) (k : Nat) : nK R k ≤ 65535 := by
  have b1 := hb 1
  have b2 := hb 2
  have b3 := hb 3
  unfold nK
  repeat' split
  all_goals omega
theorem itA_mt {xs : List Int} (hb : Byt xs) {i k : Nat} (hi : i < xs.length) (hx : xs.getD i 0 ≠ 0) (h2 : 2 ≤ k) (hk : k ≤ (xs.drop i).length) (hm : mtK (xs.drop i) k = true) : itA xs i = some (xs.getD i 0, i + k, nK (xs.drop i) k) := by
  have hbR : Byt (xs.drop i) := fun j => by rw [getD_dropA]; exact hb _
  have hn := nK_bd hbR k
  unfold mtK at hm
  simp only [Bool.and_eq_true, decide_eq_true_eq] at hm
  generalize nK (xs.drop i) k = n at *
  rw [List.length_drop] at hk hm
  have hL : (lenL n).length = k - 1 := by rw [hm.2, List.length_take, List.length_drop, List.length_drop]; omega
  have hln := lnA_of (xs := xs) (i := i + 1) (n := n) (by omega) (fun j hj => by
    rw [hm.2, getD_takeA _ _ _ (by omega), getD_dropA, getD_dropA, Nat.add_assoc]) hn
  rw [hL] at hln
  have := itA_yes hi hx hln (by omega)
  rwa [show i + 1 + (k - 1) = i + k by omega] at this
theorem itA_no {xs : List Int} (hb : Byt xs) {i : Nat} (h : ∀ k, 2 ≤ k → k ≤ 4 → k ≤ (xs.drop i).length → mtK (xs.drop i) k = false) : itA xs i = none := by
  cases hl : lnA xs (i + 1) with
  | none => exact itA_ln hl
  | some p =>
    obtain ⟨m, n⟩ := p
    by_cases hs : i + 1 + m + n ≤ xs.length
    · exfalso
      have bd := lnA_bd hb hl
      obtain ⟨hL, hf⟩ := lnA_form hb hl
      have e : lenL n = ((xs.drop i).drop 1).take m := by
        refine eq_of_getD (by rw [hL, List.length_take, List.length_drop, List.length_drop]; omega) fun j hj => ?_
        rw [hL] at hj
        rw [getD_takeA _ _ _ hj, getD_dropA, getD_dropA, ← hf j hj]
        congr 1
        omega
      have hn : nK (xs.drop i) (m + 1) = n := by
        unfold nK
        simp only [getD_dropA]
        unfold lenL at hL hf
        split at hL
        · rename_i c
          rw [if_pos c] at hf
          obtain rfl : m = 1 := by simpa using hL.symm
          have h0 : xs.getD (i + 1) 0 = (n : Int) := hf 0 (by omega)
          rw [if_pos rfl, h0]
          simp
        · rename_i c
          rw [if_neg c] at hf
          split at hL
          · rename_i c2
            rw [if_pos c2] at hf
            obtain rfl : m = 2 := by simpa using hL.symm
            have h1 : xs.getD (i + 1 + 1) 0 = (n : Int) := hf 1 (by omega)
            rw [if_neg (by omega), if_pos rfl, show i + 2 = i + 1 + 1 by omega, h1]
            simp
          · rename_i c2
            rw [if_neg c2] at hf
            obtain rfl : m = 3 := by simpa using hL.symm
            have h1 : xs.getD (i + 1 + 1) 0 = (n : Int) / 256 := hf 1 (by omega)
            have h2 : xs.getD (i + 1 + 2) 0 = (n : Int) % 256 := hf 2 (by omega)
            rw [if_neg (by omega), if_neg (by omega), show i + 2 = i + 1 + 1 by omega, show i + 3 = i + 1 + 2 by omega, h1, h2]
            omega
      have := h (m + 1) (by omega) (by omega) (by rw [List.length_drop]; omega)
      unfold mtK at this
      rw [hn, show m + 1 - 1 = m by omega, decide_eq_true e, decide_eq_true (by rw [List.length_drop]; omega)] at this
      cases this
    · exact itA_short hl (by omega)
end Go.Proofs.Ytgmnnmlbmibabaa
