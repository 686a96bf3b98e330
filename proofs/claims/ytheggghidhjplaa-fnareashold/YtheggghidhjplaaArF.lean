
/-
  The law of areas.
-/
import Derived.Test.YtheggghidhjplaaArE
import Derived.BigQuiet
namespace Go.Proofs.Ytheggghidhjplaa
open Go Go.RowKit

theorem first_plain {f : List UInt8} (h : (labs f).getD 0 [] = f) : labs f = [f] := by
  have hu := unl_labs f
  cases hl : labs f with
  | nil => exact absurd hl (labs_ne f)
  | cons x ys =>
    rw [hl] at h hu
    have hx : x = f := h
    cases ys with
    | nil => rw [hx]
    | cons y ys =>
      rw [unl_cons x (by simp)] at hu
      have := congrArg List.length hu
      rw [hx] at this
      simp at this
/-- What a pattern matches lies where the pattern lies. -/
theorem areas_ok {p h : List UInt8} {pm ex : List (List UInt8)} (hm : nmB p h = true) (ho : poB p pm ex = false) : ((decide (pm = []) || pm.any (niB h)) && !ex.any (niB h)) = true := by
  unfold nmB at hm
  simp only [Bool.and_eq_true, decide_eq_true_eq] at hm
  obtain ⟨⟨hp, hh⟩, hmt⟩ := hm
  unfold poB at ho
  rw [Bool.or_eq_false_iff, Bool.or_eq_false_iff] at ho
  obtain ⟨⟨_, ho1⟩, ho2⟩ := ho
  cases hs : star p with
  | false =>
    unfold mtS at hmt
    rw [if_neg (by rw [hs]; decide)] at hmt
    have e : p = h := of_decide_eq_true hmt
    subst e
    have hb : bas p = p := by
      unfold bas
      rw [if_neg (by rw [hs]; decide)]
    rw [hb] at ho1 ho2
    have e2 : ex.any (niB p) = false := by
      rw [List.any_eq_false] at ho2 ⊢
      intro a ha
      have := ho2 a ha
      simp only [Bool.or_eq_true, not_or] at this
      exact this.1
    rw [e2]
    by_cases hpm : pm = []
    · subst hpm
      rfl
    · simp only [ne_eq, hpm, not_false_eq_true, decide_true, Bool.true_and] at ho1
      have : pm.any (niB p) = true := by simpa using ho1
      rw [this]
      simp
  | true =>
    have hb : bas p = p.drop 2 := by
      unfold bas
      rw [if_pos hs]
    rw [hb] at ho1 ho2
    have hn := (patF_name hs hp).1
    have hmt2 := hmt
    unfold mtS at hmt
    rw [if_pos hs] at hmt
    have e : (labs h).getD 0 [] ++ 46 :: p.drop 2 = h := of_decide_eq_true hmt
    generalize p.drop 2 = n at *
    obtain ⟨f, hf⟩ : ∃ f, f = (labs h).getD 0 [] := ⟨_, rfl⟩
    rw [← hf] at e
    have hL : labs h = labs f ++ labs n := by rw [← e, labs_cat]
    have hff : labs f = [f] := by
      apply first_plain
      have : (labs h).getD 0 [] = (labs f).getD 0 [] := by
        rw [hL]
        cases hl : labs f with
        | nil => exact absurd hl (labs_ne f)
        | cons x ys => rfl
      rw [← this, ← hf]
    rw [hff] at hL
    have up : ∀ a, niB n a = true → niB h a = true := by
      intro a ha
      unfold niB at ha ⊢
      simp only [Bool.and_eq_true, decide_eq_true_eq] at ha ⊢
      refine ⟨⟨hh, ha.1.2⟩, ?_⟩
      rw [← e]
      exact inS_pre f ha.2
    have dn : ∀ a, niB h a = true → niB n a = true ∨ nmB p a = true := by
      intro a ha
      have ha2 := ha
      unfold niB at ha
      simp only [Bool.and_eq_true, decide_eq_true_eq] at ha
      obtain ⟨X, hX⟩ := (inS_labs h a).1 ha.2
      rw [hL] at hX
      cases X with
      | nil =>
        right
        have : a = h := by
          have e1 : labs a = labs h := by rw [hL]; exact hX
          have := congrArg unl e1
          rwa [unl_labs, unl_labs] at this
        rw [this]
        unfold nmB
        rw [decide_eq_true hp, decide_eq_true hh, hmt2]
        rfl
      | cons x X =>
        left
        have hc : x = f ∧ X ++ labs a = labs n := by
          have : x :: (X ++ labs a) = f :: labs n := hX
          exact List.cons.inj this
        rw [niB_of hn ha.1.2]
        exact (inS_labs n a).2 ⟨X, hc.2⟩
    have e2 : ex.any (niB h) = false := by
      rw [List.any_eq_false] at ho2 ⊢
      intro a ha hc
      have h1 := ho2 a ha
      rcases dn a hc with h2 | h2
      · exact h1 (by rw [h2]; rfl)
      · exact h1 (by rw [h2, hs]; simp)
    rw [e2]
    by_cases hpm : pm = []
    · subst hpm
      rfl
    · simp only [ne_eq, hpm, not_false_eq_true, decide_true, Bool.true_and] at ho1
      have h3 : pm.any (niB n) = true := by simpa using ho1
      rw [List.any_eq_true] at h3
      obtain ⟨a, ha, hna⟩ := h3
      have : pm.any (niB h) = true := List.any_eq_true.2 ⟨a, ha, up a hna⟩
      rw [this]
      simp
/-- The pattern without a star ahead, as the law cuts it. -/
def bsL (p : List UInt8) : List UInt8 := if 2 < p.length ∧ star p = true then p.drop 2 else p
def hoL (b : List UInt8) : List (List UInt8) := [b, 113 :: 46 :: b, 120 :: 46 :: b, 97 :: 46 :: 98 :: 46 :: b, 48 :: 45 :: 49 :: 46 :: b]
theorem met_ok {p : List UInt8} (pm ex : List (List UInt8)) (hp : patF p = 0) (hl : p.length ≤ 120) : (hoL (bsL p) ++ ex ++ pm).any (nmB p) = true := by
  rw [List.any_append, List.any_append]
  have : (hoL (bsL p)).any (nmB p) = true := by
    rw [List.any_eq_true]
    cases hs : star p with
    | false =>
      refine ⟨p, ?_, ?_⟩
      · unfold hoL bsL
        rw [if_neg (by rw [hs]; simp)]
        simp
      · unfold nmB mtS
        rw [if_neg (by rw [hs]; decide), decide_eq_true hp, ← patF_plain hs, decide_eq_true hp]
        simp
    | true =>
      have hn := patF_name hs hp
      have h1 := nameF_len hn.1
      have h2 := star_len hs
      have lt : 2 < p.length := by
        have := h1.1
        rw [List.length_drop] at this
        omega
      refine ⟨113 :: 46 :: p.drop 2, ?_, ?_⟩
      · unfold hoL bsL
        rw [if_pos ⟨lt, hs⟩]
        simp
      · have hq : nameF (113 :: 46 :: p.drop 2) = 0 := nameF_pre (x := [113]) rfl (by decide) hn.1 (by simp; omega)
        unfold nmB mtS
        rw [decide_eq_true hp, decide_eq_true hq, if_pos hs]
        have : (labs (113 :: 46 :: p.drop 2)).getD 0 [] = [113] := by
          have := labs_cat [113] (p.drop 2)
          rw [dotless (l := [113]) rfl] at this
          show (labs ([113] ++ 46 :: p.drop 2)).getD 0 [] = _
          rw [this]
          rfl
        rw [this]
        simp
  rw [this]
  rfl
end Go.Proofs.Ytheggghidhjplaa
