
/-
  Records one behind the other, cut at any place: no Go.
-/
import Derived.Test.YtjfggcefdobooaaDoorCrF
namespace Go.Proofs.YtjfggcefdobooaaDoor
set_option maxRecDepth 100000
open Go Go.RowKit

/-- A record that can be encoded. -/
def gdR (r : Int × List Int) : Prop := isK r.1 = true ∧ 1 ≤ r.2.length ∧ r.2.length ≤ 2321 ∧ Byt r.2
/-- Records one behind the other. -/
def flR : List (Int × List Int) → List Int
  | [] => []
  | r :: rs => enA r.1 r.2 ++ flR rs
theorem flR_append : ∀ (a b : List (Int × List Int)), flR (a ++ b) = flR a ++ flR b
  | [], _ => rfl
  | r :: a, b => by
    show enA r.1 r.2 ++ flR (a ++ b) = (enA r.1 r.2 ++ flR a) ++ flR b
    rw [flR_append a b, List.append_assoc]
theorem isK_rng {k : Int} (h : isK k = true) : k = 21 ∨ k = 22 ∨ k = 23 := by
  unfold isK at h
  simp at h
  omega
/-- An encoded record: its three first bytes, and its body. -/
theorem enA_is {r : Int × List Int} (h : gdR r) : enA r.1 r.2 = [r.1, (r.2.length : Int) / 256, (r.2.length : Int) % 256] ++ r.2 := by
  obtain ⟨h1, h2, h3, -⟩ := h
  unfold enA
  rw [if_pos ⟨h1, h2, h3⟩]
  have := isK_rng h1
  have e1 : bigL r.1 1 = [r.1] := by simp [bigL, List.range_succ]; omega
  have e2 : bigL (r.2.length : Int) 2 = [(r.2.length : Int) / 256, (r.2.length : Int) % 256] := by simp [bigL, List.range_succ]; omega
  rw [hdL, e1, e2]
  rfl
theorem enA_ln {r : Int × List Int} (h : gdR r) : (enA r.1 r.2).length = 3 + r.2.length := by rw [enA_is h]; simp; omega
/-- What stands at the front of a list that begins as a record does. -/
theorem rcT_front {r : Int × List Int} (h : gdR r) (t : List Int) (u : List Int) (ht : t ++ u = enA r.1 r.2) (hu : 0 < u.length) : rcT t = 1 := by
  have L := congrArg List.length ht
  rw [List.length_append, enA_ln h] at L
  unfold rcT
  by_cases h0 : t.length = 0
  · rw [if_pos h0]
  · rw [if_neg h0]
    have e : ∀ i, i < t.length → t.getD i 0 = (enA r.1 r.2).getD i 0 := fun i hi => by rw [← ht]; simp [List.getD, List.getElem?_append_left hi]
    have e0 : rcK t = r.1 := by
      unfold rcK beN beN
      rw [e 0 (by omega), enA_is h]
      simp
    rw [e0, if_pos h.1]
    by_cases h3 : t.length < 3
    · rw [if_pos h3]
    · rw [if_neg h3]
      have e1 : beN t 1 2 = (r.2.length : Int) := by
        unfold beN beN beN
        rw [e (1 + 0) (by omega), e (1 + 1) (by omega), enA_is h]
        simp
        omega
      have := h.2.1
      have := h.2.2.1
      rw [e1, if_pos (by omega), if_pos (by omega)]
/-- A whole record at the front. -/
theorem rcT_whole {r : Int × List Int} (h : gdR r) (u : List Int) : rcT (enA r.1 r.2 ++ u) = 0 ∧ rcK (enA r.1 r.2 ++ u) = r.1 ∧ rcN (enA r.1 r.2 ++ u) = r.2.length ∧ rcB (enA r.1 r.2 ++ u) = r.2 := by
  have L : (enA r.1 r.2 ++ u).length = 3 + r.2.length + u.length := by rw [List.length_append, enA_ln h]
  have e0 : rcK (enA r.1 r.2 ++ u) = r.1 := by
    unfold rcK beN beN
    rw [enA_is h]
    simp
  have e1 : beN (enA r.1 r.2 ++ u) 1 2 = (r.2.length : Int) := by
    unfold beN beN beN
    rw [enA_is h]
    simp
    omega
  have e2 : rcN (enA r.1 r.2 ++ u) = r.2.length := by unfold rcN; rw [e1]; simp
  have := h.2.1
  have := h.2.2.1
  refine ⟨?_, e0, e2, ?_⟩
  · unfold rcT
    rw [if_neg (by omega), e0, if_pos h.1, if_neg (by omega), e1, if_pos (by omega), if_neg (by omega)]
  · unfold rcB
    rw [e2, enA_is h]
    simp
theorem byt_app {a b : List Int} (ha : Byt a) (hb : Byt b) : Byt (a ++ b) := fun i => by
  by_cases h : i < a.length
  · have : (a ++ b).getD i 0 = a.getD i 0 := by simp [List.getD, List.getElem?_append_left h]
    rw [this]
    exact ha i
  · have : (a ++ b).getD i 0 = b.getD (i - a.length) 0 := by simp [List.getD, List.getElem?_append_right (by omega : a.length ≤ i)]
    rw [this]
    exact hb _
/-- What is cut off records one behind the other, with something behind them that is not a whole one. -/
theorem cut_flR {xs : List Int} (hb : Byt xs) (rs : List (Int × List Int)) (t : List Int) (hx : xs = flR rs ++ t) (hg : ∀ r ∈ rs, gdR r) (ht : rcT t = 1) : cutR xs = rs ∧ cutC xs = 0 ∧ cutL xs = t := by
  have key : ∀ (b a : List (Int × List Int)), a ++ b = rs → Ahc xs a (flR a).length → cutR xs = rs ∧ cutK xs = (flR rs).length := by
    intro b
    induction b with
    | nil =>
      intro a ha A
      rw [List.append_nil] at ha
      subst ha
      have : xs.drop (flR a).length = t := by rw [hx]; simp
      exact A.done (by rw [this, ht]; decide)
    | cons r b ih =>
      intro a ha A
      have hd : xs.drop (flR a).length = enA r.1 r.2 ++ (flR b ++ t) := by
        rw [hx, ← ha, flR_append, List.append_assoc, List.drop_left]
        show (enA r.1 r.2 ++ flR b) ++ t = _
        rw [List.append_assoc]
      have gr : gdR r := hg r (by rw [← ha]; simp)
      have W := rcT_whole gr (flR b ++ t)
      have A' := A.step hb (by rw [hd]; exact W.1)
      rw [hd, W.2.1, W.2.2.1, W.2.2.2] at A'
      have ea : flR (a ++ [r]) = flR a ++ enA r.1 r.2 := by rw [flR_append]; simp [flR]
      refine ih (a ++ [r]) (by rw [← ha]; simp) ?_
      rw [ea, List.length_append, enA_ln gr]
      exact A'
  obtain ⟨k1, k2⟩ := key rs [] rfl (Ahc.zero xs)
  have hd : xs.drop (cutK xs) = t := by rw [k2, hx, List.drop_left]
  refine ⟨k1, ?_, ?_⟩
  · unfold cutC
    rw [hd, ht]
    rfl
  · unfold cutL
    rw [hd, if_pos ht]
theorem rcT_nil : rcT [] = 1 := by unfold rcT; simp
/-- Cut at any place: a part of the records, and a rest that begins as the next one does. -/
theorem flR_take : ∀ (rs : List (Int × List Int)) (n : Nat), (∀ r ∈ rs, gdR r) → n ≤ (flR rs).length → ∃ a b t, a ++ b = rs ∧ (flR rs).take n = flR a ++ t ∧ t ++ (flR rs).drop n = flR b ∧ rcT t = 1
  | [], n, _, _ => ⟨[], [], [], rfl, by simp [flR], by simp [flR], rcT_nil⟩
  | r :: rs, n, hg, hn => by
    have gr : gdR r := hg r (by simp)
    by_cases h : n < (enA r.1 r.2).length
    · refine ⟨[], r :: rs, (enA r.1 r.2).take n, rfl, ?_, ?_, ?_⟩
      · show ((enA r.1 r.2 ++ flR rs)).take n = _
        rw [List.take_append_of_le_length (by omega)]
        rfl
      · show (enA r.1 r.2).take n ++ (enA r.1 r.2 ++ flR rs).drop n = _
        rw [List.drop_append_of_le_length (by omega), ← List.append_assoc, List.take_append_drop]
        rfl
      · exact rcT_front gr _ ((enA r.1 r.2).drop n) (List.take_append_drop _ _) (by rw [List.length_drop]; omega)
    · obtain ⟨a, b, t, h1, h2, h3, h4⟩ := flR_take rs (n - (enA r.1 r.2).length) (fun r' hr' => hg r' (by simp [hr'])) (by
        have : (flR (r :: rs)).length = (enA r.1 r.2).length + (flR rs).length := List.length_append
        omega)
      refine ⟨r :: a, b, t, by rw [← h1]; rfl, ?_, ?_, h4⟩
      · show (enA r.1 r.2 ++ flR rs).take n = (enA r.1 r.2 ++ flR a) ++ t
        rw [List.take_append, List.take_of_length_le (by omega), h2, List.append_assoc]
      · show t ++ (enA r.1 r.2 ++ flR rs).drop n = _
        rw [List.drop_append, List.drop_eq_nil_of_le (by omega), List.nil_append, h3]
/-- All of it: both parts together are the records, and nothing is left. -/
theorem cut_anywhere (rs : List (Int × List Int)) (n : Nat) (hb : Byt (flR rs)) (hg : ∀ r ∈ rs, gdR r) (hn : n ≤ (flR rs).length) :
    cutC ((flR rs).take n) = 0 ∧ cutC (cutL ((flR rs).take n) ++ (flR rs).drop n) = 0 ∧ cutL (cutL ((flR rs).take n) ++ (flR rs).drop n) = [] ∧ cutR ((flR rs).take n) ++ cutR (cutL ((flR rs).take n) ++ (flR rs).drop n) = rs := by
  obtain ⟨a, b, t, h1, h2, h3, h4⟩ := flR_take rs n hg hn
  have ba : Byt ((flR rs).take n) := fun i => by
    by_cases h : i < n
    · have : ((flR rs).take n).getD i 0 = (flR rs).getD i 0 := by simp [List.getD, h]
      rw [this]
      exact hb i
    · have : ((flR rs).take n).getD i 0 = 0 := by simp [List.getD, List.getElem?_take, h]
      rw [this]
      decide
  obtain ⟨c1, c2, c3⟩ := cut_flR ba a t h2 (fun r hr => hg r (by rw [← h1]; simp [hr])) h4
  have eb : flR rs = flR a ++ flR b := by rw [← h1, flR_append]
  have bb : Byt (flR b) := by
    have := byt_drop hb (flR a).length
    rw [eb, List.drop_left] at this
    exact this
  obtain ⟨d1, d2, d3⟩ := cut_flR bb b [] (by simp) (fun r hr => hg r (by rw [← h1]; simp [hr])) rcT_nil
  rw [c3, h3]
  exact ⟨c2, d2, d3, by rw [c1, d1, h1]⟩
end Go.Proofs.YtjfggcefdobooaaDoor
