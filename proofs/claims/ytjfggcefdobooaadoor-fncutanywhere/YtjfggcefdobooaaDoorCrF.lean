
/-
  Records cut off a list, one behind the other; no Go.
-/
import Derived.Test.YtjfggcefdobooaaDoorCrB
namespace Go.Proofs.YtjfggcefdobooaaDoor
set_option maxRecDepth 100000
open Go Go.RowKit

/-- What stands at the front: 0 a whole record, 1 not a whole one yet, 2 no kind, 3 a wrong size. -/
def rcT (ys : List Int) : Nat := if ys.length = 0 then 1 else if isK (rcK ys) = true then (if ys.length < 3 then 1 else if 1 ≤ beN ys 1 2 ∧ beN ys 1 2 ≤ 2321 then (if (ys.length : Int) - 3 < beN ys 1 2 then 1 else 0) else 3) else 2
def rcX (a0 a1 a2 : Addr) : Nat → Option Addr
  | 0 => none
  | 1 => some a0
  | 2 => some a1
  | _ => some a2
theorem rcE_T (a0 a1 a2 : Addr) (ys : List Int) : rcE a0 a1 a2 ys = rcX a0 a1 a2 (rcT ys) := by
  unfold rcE rcT
  repeat' split
  all_goals rfl
theorem rcT_len {ys : List Int} (hb : Byt ys) (h : rcT ys = 0) : 1 ≤ rcN ys ∧ 3 + rcN ys ≤ ys.length ∧ rcN ys ≤ 2321 ∧ (rcB ys).length = rcN ys := by
  unfold rcT at h
  have N := beN_rng hb 1 2
  have e : (rcN ys : Int) = beN ys 1 2 := by unfold rcN; omega
  split at h
  · cases h
  · split at h
    · split at h
      · cases h
      · split at h
        · split at h
          · cases h
          · have L : 3 + rcN ys ≤ ys.length := by omega
            refine ⟨by omega, L, by omega, ?_⟩
            unfold rcB
            rw [List.length_take, List.length_drop]
            omega
        · cases h
    · cases h
/-- The records from a place on, at most so many, and the place behind them. -/
def cutF (xs : List Int) : Nat → Nat → List (Int × List Int) × Nat
  | 0, k => ([], k)
  | f + 1, k => if rcT (xs.drop k) = 0 then ((rcK (xs.drop k), rcB (xs.drop k)) :: (cutF xs f (k + (3 + rcN (xs.drop k)))).1, (cutF xs f (k + (3 + rcN (xs.drop k)))).2) else ([], k)
def cutR (xs : List Int) : List (Int × List Int) := (cutF xs (xs.length + 1) 0).1
def cutK (xs : List Int) : Nat := (cutF xs (xs.length + 1) 0).2
def cutC (xs : List Int) : Int := ((rcT (xs.drop (cutK xs)) : Nat) : Int) - 1
def cutL (xs : List Int) : List Int := if rcT (xs.drop (cutK xs)) = 1 then xs.drop (cutK xs) else []
/-- These are the records ahead of this place. -/
structure Ahc (xs : List Int) (its : List (Int × List Int)) (k : Nat) : Prop where
  e : cutF xs (xs.length + 1) 0 = (its ++ (cutF xs (xs.length + 1 - its.length) k).1, (cutF xs (xs.length + 1 - its.length) k).2)
  l : its.length * 4 ≤ k
  k : k ≤ xs.length
  b : ∀ i, i < its.length → (its.getD i (0, [])).2.length ≤ 2321
theorem Ahc.zero (xs : List Int) : Ahc xs [] 0 := ⟨by simp, by simp, Nat.zero_le _, fun i h => absurd h (by simp)⟩
theorem Ahc.step {xs : List Int} {its : List (Int × List Int)} {k : Nat} (hb : Byt xs) (h : Ahc xs its k) (ht : rcT (xs.drop k) = 0) : Ahc xs (its ++ [(rcK (xs.drop k), rcB (xs.drop k))]) (k + (3 + rcN (xs.drop k))) := by
  have L := rcT_len (byt_drop hb k) ht
  have hl := h.l
  have hk := h.k
  have ld : (xs.drop k).length = xs.length - k := List.length_drop
  obtain ⟨f, hf⟩ : ∃ f, xs.length + 1 - its.length = f + 1 := ⟨xs.length - its.length, by omega⟩
  refine ⟨?_, by simp; omega, by omega, fun i hi => ?_⟩
  · rw [h.e, hf, show xs.length + 1 - (its ++ [(rcK (xs.drop k), rcB (xs.drop k))]).length = f by simp; omega]
    show (its ++ (if rcT (xs.drop k) = 0 then _ else _ : List (Int × List Int) × Nat).1, (if rcT (xs.drop k) = 0 then _ else _ : List (Int × List Int) × Nat).2) = _
    rw [if_pos ht]
    simp
  · by_cases h' : i < its.length
    · have : (its ++ [(rcK (xs.drop k), rcB (xs.drop k))]).getD i (0, []) = its.getD i (0, []) := by simp [List.getD, List.getElem?_append_left h']
      rw [this]
      exact h.b i h'
    · have : i = its.length := by simp at hi; omega
      subst this
      have : (its ++ [(rcK (xs.drop k), rcB (xs.drop k))]).getD its.length (0, []) = (rcK (xs.drop k), rcB (xs.drop k)) := by simp
      rw [this]
      show (rcB (xs.drop k)).length ≤ 2321
      omega
theorem Ahc.done {xs : List Int} {its : List (Int × List Int)} {k : Nat} (h : Ahc xs its k) (ht : rcT (xs.drop k) ≠ 0) : cutR xs = its ∧ cutK xs = k := by
  have hl := h.l
  have hk := h.k
  obtain ⟨f, hf⟩ : ∃ f, xs.length + 1 - its.length = f + 1 := ⟨xs.length - its.length, by omega⟩
  have e : cutF xs (f + 1) k = ([], k) := by
    show (if rcT (xs.drop k) = 0 then _ else _) = _
    rw [if_neg ht]
  unfold cutR cutK
  rw [h.e, hf, e]
  simp
end Go.Proofs.YtjfggcefdobooaaDoor
