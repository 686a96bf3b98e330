import Derived.Test.YtfckjoheiabfoaaGM49
import Derived.Test.YtfckjoheiabfoaaGMxMhD
import Derived.Test.YtfckjoheiabfoaaGMxMhA
import Derived.Test.YtfckjoheiabfoaaGMxMhB
import Derived.OpenShut
import Derived.SliceStrings

/-
  Messages: the program's fault is the model's (no Go; written by gens/mhe.py).
-/
namespace Go.Proofs.Ytfckjoheiabfoaa
open Go Go.RowKit

/-- What the model's l13Extra and l13Sizes answer. -/
def extV (k v : Int) (n2 n3 : Nat) (ho : List UInt8) (n5 n6 : Nat) (ag ea : Int) (n9 : Nat) (rs : Bool) (n11 n12 : Nat) : Bool := ex6 (v != 0) (decide ((0 : Int) < (n2 : Int))) (k == 1) (k == 2) (k == 4) || (ex8 (decide ((0 : Int) < (n3 : Int))) (!(ho == [])) (decide ((0 : Int) < (n5 : Int))) (k == 1) (k == 2) (k == 8) || (ex10 (decide ((0 : Int) < (n6 : Int))) (ag != 0) (decide ((0 : Int) < (n9 : Int))) (k == 1) (k == 4) || (ex12 (ea != 0) (k == 1) (k == 4) (k == 8) (k != 24) || ex14 rs (k == 2) (decide ((0 : Int) < (n11 : Int))) (k != 11) (decide ((0 : Int) < (n12 : Int))) (k != 15) (k != 20))))
def sizV (k v : Int) (n2 n3 n6 : Nat) (ag ea : Int) (n9 n12 : Nat) : Bool := !si2 (decide (v < 0)) (decide (255 < v)) && (!si4 (k == 1) (k == 2) (k == 4) ((n2 : Int) != 32) && (!si6 (k == 1) (k == 2) ((n3 : Int) != 32) && (!si8 (k == 15) ((n12 : Int) != 64) (k == 20) ((n12 : Int) != 32) && siR (k == 1) (decide ((0 : Int) < (n6 : Int))) ((n9 : Int) == 32) ((n9 : Int) == 0) (ag == 0) (ea == 0))))
def spM (m : Msg) : Int := spV (decide (m.k ∈ kinds)) (extV m.k m.v m.r.length m.s.length m.ho m.pr.length m.ti.length m.ag m.ea m.bi.length m.rs m.ce.length m.pf.length) (sizV m.k m.v m.r.length m.s.length m.ti.length m.ag m.ea m.bi.length m.pf.length) (nameF m.ho) (prB m.pr 8) (prB m.pr 1) m.k m.ag m.ea m.ti.length m.ce.length (ctA m.ce)
theorem prB_nil (n : Nat) : prB [] n = true := by simp [prB]
theorem ctA_nil : ctA [] = false := rfl
set_option linter.unusedSimpArgs false in
set_option maxHeartbeats 2000000 in
theorem mf_hello (m : Msg) (hk : m.k = 1) : mfF m = spM m := by
  obtain ⟨k, v, r, s, ho, pr, ti, ag, ea, bi, rs, ce, pf⟩ := m
  simp only at hk
  subst hk
  cases rs
  rotate_left
  · simp [mfF, kfF, sameM, msg0, spM, spV, extV, ex6, ex8, ex10, ex12, ex14, kinds, helloM]
  cases ce with
  | cons _ _ => simp [mfF, kfF, sameM, msg0, spM, spV, extV, ex6, ex8, ex10, ex12, ex14, kinds, helloM]
  | nil =>
    cases pf with
    | cons _ _ => simp [mfF, kfF, sameM, msg0, spM, spV, extV, ex6, ex8, ex10, ex12, ex14, kinds, helloM]
    | nil =>
      by_cases h1 : v < 0
      · simp [mfF, kfF, sameM, msg0, spM, spV, extV, ex6, ex8, ex10, ex12, ex14, kinds, helloM, si2, si4, si6, si8, siR, sizV, spT, prB_nil, ctA_nil, heF, fpB, bdB, ageB, flgB, h1]
      by_cases h2 : 255 < v
      · simp [mfF, kfF, sameM, msg0, spM, spV, extV, ex6, ex8, ex10, ex12, ex14, kinds, helloM, si2, si4, si6, si8, siR, sizV, spT, prB_nil, ctA_nil, heF, fpB, bdB, ageB, flgB, h1, h2]
      by_cases h3 : r.length = 32
      rotate_left
      · have h3' : ¬ (r.length : Int) = 32 := by omega
        simp [mfF, kfF, sameM, msg0, spM, spV, extV, ex6, ex8, ex10, ex12, ex14, kinds, helloM, si2, si4, si6, si8, siR, sizV, spT, prB_nil, ctA_nil, heF, fpB, bdB, ageB, flgB, h1, h2, h3, h3']
      have h3' : (r.length : Int) = 32 := by omega
      by_cases h4 : s.length = 32
      rotate_left
      · have h4' : ¬ (s.length : Int) = 32 := by omega
        simp [mfF, kfF, sameM, msg0, spM, spV, extV, ex6, ex8, ex10, ex12, ex14, kinds, helloM, si2, si4, si6, si8, siR, sizV, spT, prB_nil, ctA_nil, heF, fpB, bdB, ageB, flgB, h1, h2, h3, h3', h4, h4']
      have h4' : (s.length : Int) = 32 := by omega
      by_cases h5 : ti.length = 0
      · have h5' : ¬ 0 < ti.length := by omega
        have h5'' : ¬ 400 < ti.length := by omega
        by_cases h6 : bi.length = 0
        rotate_left
        · have h6' : ¬ (bi.length : Int) = 0 := by omega
          simp [mfF, kfF, sameM, msg0, spM, spV, extV, ex6, ex8, ex10, ex12, ex14, kinds, helloM, si2, si4, si6, si8, siR, sizV, spT, prB_nil, ctA_nil, heF, fpB, bdB, ageB, flgB, h1, h2, h3, h3', h4, h4', h5, h5', h6, h6']
        have h6' : (bi.length : Int) = 0 := by omega
        by_cases h7 : ag = 0
        rotate_left
        · simp [mfF, kfF, sameM, msg0, spM, spV, extV, ex6, ex8, ex10, ex12, ex14, kinds, helloM, si2, si4, si6, si8, siR, sizV, spT, prB_nil, ctA_nil, heF, fpB, bdB, ageB, flgB, h1, h2, h3, h3', h4, h4', h5, h5', h6, h6', h7]
        by_cases h8 : ea = 0
        rotate_left
        · simp [mfF, kfF, sameM, msg0, spM, spV, extV, ex6, ex8, ex10, ex12, ex14, kinds, helloM, si2, si4, si6, si8, siR, sizV, spT, prB_nil, ctA_nil, heF, fpB, bdB, ageB, flgB, h1, h2, h3, h3', h4, h4', h5, h5', h6, h6', h7, h8]
        subst h7
        subst h8
        by_cases h9 : nameF ho = 0
        rotate_left
        · simp [mfF, kfF, sameM, msg0, spM, spV, extV, ex6, ex8, ex10, ex12, ex14, kinds, helloM, si2, si4, si6, si8, siR, sizV, spT, prB_nil, ctA_nil, heF, fpB, bdB, ageB, flgB, h1, h2, h3, h3', h4, h4', h5, h5', h6, h6', h9]
        cases hp : prB pr 8 with
        | false => simp [mfF, kfF, sameM, msg0, spM, spV, extV, ex6, ex8, ex10, ex12, ex14, kinds, helloM, si2, si4, si6, si8, siR, sizV, spT, prB_nil, ctA_nil, heF, fpB, bdB, ageB, flgB, h1, h2, h3, h3', h4, h4', h5, h5', h6, h6', h9, hp]
        | true => simp [mfF, kfF, sameM, msg0, spM, spV, extV, ex6, ex8, ex10, ex12, ex14, kinds, helloM, si2, si4, si6, si8, siR, sizV, spT, prB_nil, ctA_nil, heF, fpB, bdB, ageB, flgB, h1, h2, h3, h3', h4, h4', h5, h5', h5'', h6, h6', h9, hp]
      have h5' : 0 < ti.length := by omega
      by_cases h6 : bi.length = 32
      rotate_left
      · have h6' : ¬ (bi.length : Int) = 32 := by omega
        simp [mfF, kfF, sameM, msg0, spM, spV, extV, ex6, ex8, ex10, ex12, ex14, kinds, helloM, si2, si4, si6, si8, siR, sizV, spT, prB_nil, ctA_nil, heF, fpB, bdB, ageB, flgB, h1, h2, h3, h3', h4, h4', h5, h5', h6, h6']
      have h6' : (bi.length : Int) = 32 := by omega
      by_cases h9 : nameF ho = 0
      rotate_left
      · simp [mfF, kfF, sameM, msg0, spM, spV, extV, ex6, ex8, ex10, ex12, ex14, kinds, helloM, si2, si4, si6, si8, siR, sizV, spT, prB_nil, ctA_nil, heF, fpB, bdB, ageB, flgB, h1, h2, h3, h3', h4, h4', h5, h5', h6, h6', h9]
      cases hp : prB pr 8 with
      | false => simp [mfF, kfF, sameM, msg0, spM, spV, extV, ex6, ex8, ex10, ex12, ex14, kinds, helloM, si2, si4, si6, si8, siR, sizV, spT, prB_nil, ctA_nil, heF, fpB, bdB, ageB, flgB, h1, h2, h3, h3', h4, h4', h5, h5', h6, h6', h9, hp]
      | true =>
        by_cases ha : 400 < ti.length
        · simp [mfF, kfF, sameM, msg0, spM, spV, extV, ex6, ex8, ex10, ex12, ex14, kinds, helloM, si2, si4, si6, si8, siR, sizV, spT, prB_nil, ctA_nil, heF, fpB, bdB, ageB, flgB, h1, h2, h3, h3', h4, h4', h5, h5', h6, h6', h9, hp, ha]
        by_cases hb : 0 ≤ ag
        rotate_left
        · have hb' : ag < 0 := by omega
          simp [mfF, kfF, sameM, msg0, spM, spV, extV, ex6, ex8, ex10, ex12, ex14, kinds, helloM, si2, si4, si6, si8, siR, sizV, spT, prB_nil, ctA_nil, heF, fpB, bdB, ageB, flgB, h1, h2, h3, h3', h4, h4', h5, h5', h6, h6', h9, hp, ha, hb, hb']
        have hb' : ¬ ag < 0 := by omega
        by_cases hc : ag ≤ 4294967295
        rotate_left
        · have hc' : 4294967295 < ag := by omega
          simp [mfF, kfF, sameM, msg0, spM, spV, extV, ex6, ex8, ex10, ex12, ex14, kinds, helloM, si2, si4, si6, si8, siR, sizV, spT, prB_nil, ctA_nil, heF, fpB, bdB, ageB, flgB, h1, h2, h3, h3', h4, h4', h5, h5', h6, h6', h9, hp, ha, hb, hb', hc, hc']
        have hc' : ¬ 4294967295 < ag := by omega
        by_cases he : ea = 0
        · subst he
          simp [mfF, kfF, sameM, msg0, spM, spV, extV, ex6, ex8, ex10, ex12, ex14, kinds, helloM, si2, si4, si6, si8, siR, sizV, spT, prB_nil, ctA_nil, heF, fpB, bdB, ageB, flgB, h1, h2, h3, h3', h4, h4', h5, h5', h6, h6', h9, hp, ha, hb, hb', hc, hc']
        by_cases hf : ea = 1
        · subst hf
          simp [mfF, kfF, sameM, msg0, spM, spV, extV, ex6, ex8, ex10, ex12, ex14, kinds, helloM, si2, si4, si6, si8, siR, sizV, spT, prB_nil, ctA_nil, heF, fpB, bdB, ageB, flgB, h1, h2, h3, h3', h4, h4', h5, h5', h6, h6', h9, hp, ha, hb, hb', hc, hc']
        have hg : ea < 0 ∨ 1 < ea := by omega
        simp [mfF, kfF, sameM, msg0, spM, spV, extV, ex6, ex8, ex10, ex12, ex14, kinds, helloM, si2, si4, si6, si8, siR, sizV, spT, prB_nil, ctA_nil, heF, fpB, bdB, ageB, flgB, h1, h2, h3, h3', h4, h4', h5, h5', h6, h6', h9, hp, ha, hb, hb', hc, hc', he, hf, hg]
set_option linter.unusedSimpArgs false in
set_option maxHeartbeats 2000000 in
theorem mf_answer (m : Msg) (hk : m.k = 2) : mfF m = spM m := by
  obtain ⟨k, v, r, s, ho, pr, ti, ag, ea, bi, rs, ce, pf⟩ := m
  simp only at hk
  subst hk
  cases ho with
  | cons _ _ => simp [mfF, kfF, sameM, msg0, spM, spV, extV, ex6, ex8, ex10, ex12, ex14, kinds, answerM]
  | nil =>
    cases pr with
    | cons _ _ => simp [mfF, kfF, sameM, msg0, spM, spV, extV, ex6, ex8, ex10, ex12, ex14, kinds, answerM]
    | nil =>
      cases ti with
      | cons _ _ => simp [mfF, kfF, sameM, msg0, spM, spV, extV, ex6, ex8, ex10, ex12, ex14, kinds, answerM]
      | nil =>
        by_cases h_ag : ag = 0
        rotate_left
        · have g_ag : ¬ 0 = ag := fun h => h_ag h.symm
          simp [mfF, kfF, sameM, msg0, spM, spV, extV, ex6, ex8, ex10, ex12, ex14, kinds, answerM, h_ag, g_ag]
        subst h_ag
        by_cases h_ea : ea = 0
        rotate_left
        · have g_ea : ¬ 0 = ea := fun h => h_ea h.symm
          simp [mfF, kfF, sameM, msg0, spM, spV, extV, ex6, ex8, ex10, ex12, ex14, kinds, answerM, h_ea, g_ea]
        subst h_ea
        cases bi with
        | cons _ _ => simp [mfF, kfF, sameM, msg0, spM, spV, extV, ex6, ex8, ex10, ex12, ex14, kinds, answerM]
        | nil =>
          cases ce with
          | cons _ _ => simp [mfF, kfF, sameM, msg0, spM, spV, extV, ex6, ex8, ex10, ex12, ex14, kinds, answerM]
          | nil =>
            cases pf with
            | cons _ _ => simp [mfF, kfF, sameM, msg0, spM, spV, extV, ex6, ex8, ex10, ex12, ex14, kinds, answerM]
            | nil =>
              by_cases h1 : v < 0
              · simp [mfF, kfF, sameM, msg0, spM, spV, extV, ex6, ex8, ex10, ex12, ex14, kinds, answerM, si2, si4, si6, si8, siR, sizV, spT, prB_nil, ctA_nil, fpF, fpB, h1]
              by_cases h2 : 255 < v
              · simp [mfF, kfF, sameM, msg0, spM, spV, extV, ex6, ex8, ex10, ex12, ex14, kinds, answerM, si2, si4, si6, si8, siR, sizV, spT, prB_nil, ctA_nil, fpF, fpB, h1, h2]
              by_cases h3 : r.length = 32
              rotate_left
              · have h3_0 : ¬ (r.length : Int) = 32 := by omega
                simp [mfF, kfF, sameM, msg0, spM, spV, extV, ex6, ex8, ex10, ex12, ex14, kinds, answerM, si2, si4, si6, si8, siR, sizV, spT, prB_nil, ctA_nil, fpF, fpB, h1, h2, h3, h3_0]
              have h3_0 : (r.length : Int) = 32 := by omega
              by_cases h4 : s.length = 32
              rotate_left
              · have h4_0 : ¬ (s.length : Int) = 32 := by omega
                simp [mfF, kfF, sameM, msg0, spM, spV, extV, ex6, ex8, ex10, ex12, ex14, kinds, answerM, si2, si4, si6, si8, siR, sizV, spT, prB_nil, ctA_nil, fpF, fpB, h1, h2, h3, h3_0, h4, h4_0]
              have h4_0 : (s.length : Int) = 32 := by omega
              simp [mfF, kfF, sameM, msg0, spM, spV, extV, ex6, ex8, ex10, ex12, ex14, kinds, answerM, si2, si4, si6, si8, siR, sizV, spT, prB_nil, ctA_nil, fpF, fpB, h1, h2, h3, h3_0, h4, h4_0]
set_option linter.unusedSimpArgs false in
set_option maxHeartbeats 2000000 in
theorem mf_ticket (m : Msg) (hk : m.k = 4) : mfF m = spM m := by
  obtain ⟨k, v, r, s, ho, pr, ti, ag, ea, bi, rs, ce, pf⟩ := m
  simp only at hk
  subst hk
  by_cases h_v : v = 0
  rotate_left
  · have g_v : ¬ 0 = v := fun h => h_v h.symm
    simp [mfF, kfF, sameM, msg0, spM, spV, extV, ex6, ex8, ex10, ex12, ex14, kinds, ticketM, h_v, g_v]
  subst h_v
  cases s with
  | cons _ _ => simp [mfF, kfF, sameM, msg0, spM, spV, extV, ex6, ex8, ex10, ex12, ex14, kinds, ticketM]
  | nil =>
    cases ho with
    | cons _ _ => simp [mfF, kfF, sameM, msg0, spM, spV, extV, ex6, ex8, ex10, ex12, ex14, kinds, ticketM]
    | nil =>
      cases pr with
      | cons _ _ => simp [mfF, kfF, sameM, msg0, spM, spV, extV, ex6, ex8, ex10, ex12, ex14, kinds, ticketM]
      | nil =>
        cases bi with
        | cons _ _ => simp [mfF, kfF, sameM, msg0, spM, spV, extV, ex6, ex8, ex10, ex12, ex14, kinds, ticketM]
        | nil =>
          cases rs
          rotate_left
          · simp [mfF, kfF, sameM, msg0, spM, spV, extV, ex6, ex8, ex10, ex12, ex14, kinds, ticketM]
          cases ce with
          | cons _ _ => simp [mfF, kfF, sameM, msg0, spM, spV, extV, ex6, ex8, ex10, ex12, ex14, kinds, ticketM]
          | nil =>
            cases pf with
            | cons _ _ => simp [mfF, kfF, sameM, msg0, spM, spV, extV, ex6, ex8, ex10, ex12, ex14, kinds, ticketM]
            | nil =>
              by_cases h3 : r.length = 32
              rotate_left
              · have h3_0 : ¬ (r.length : Int) = 32 := by omega
                simp [mfF, kfF, sameM, msg0, spM, spV, extV, ex6, ex8, ex10, ex12, ex14, kinds, ticketM, si2, si4, si6, si8, siR, sizV, spT, prB_nil, ctA_nil, tiF, ageB, h3, h3_0]
              have h3_0 : (r.length : Int) = 32 := by omega
              by_cases h5 : ti.length = 0
              · simp [mfF, kfF, sameM, msg0, spM, spV, extV, ex6, ex8, ex10, ex12, ex14, kinds, ticketM, si2, si4, si6, si8, siR, sizV, spT, prB_nil, ctA_nil, tiF, ageB, h3, h3_0, h5]
              by_cases h6 : 400 < ti.length
              · simp [mfF, kfF, sameM, msg0, spM, spV, extV, ex6, ex8, ex10, ex12, ex14, kinds, ticketM, si2, si4, si6, si8, siR, sizV, spT, prB_nil, ctA_nil, tiF, ageB, h3, h3_0, h5, h6]
              by_cases h7 : 0 ≤ ag
              rotate_left
              · simp [mfF, kfF, sameM, msg0, spM, spV, extV, ex6, ex8, ex10, ex12, ex14, kinds, ticketM, si2, si4, si6, si8, siR, sizV, spT, prB_nil, ctA_nil, tiF, ageB, h3, h3_0, h5, h6, h7]
              by_cases h8 : ag ≤ 4294967295
              rotate_left
              · simp [mfF, kfF, sameM, msg0, spM, spV, extV, ex6, ex8, ex10, ex12, ex14, kinds, ticketM, si2, si4, si6, si8, siR, sizV, spT, prB_nil, ctA_nil, tiF, ageB, h3, h3_0, h5, h6, h7, h8]
              by_cases h9 : 0 ≤ ea
              rotate_left
              · simp [mfF, kfF, sameM, msg0, spM, spV, extV, ex6, ex8, ex10, ex12, ex14, kinds, ticketM, si2, si4, si6, si8, siR, sizV, spT, prB_nil, ctA_nil, tiF, ageB, h3, h3_0, h5, h6, h7, h8, h9]
              by_cases ha : ea ≤ 4294967295
              rotate_left
              · simp [mfF, kfF, sameM, msg0, spM, spV, extV, ex6, ex8, ex10, ex12, ex14, kinds, ticketM, si2, si4, si6, si8, siR, sizV, spT, prB_nil, ctA_nil, tiF, ageB, h3, h3_0, h5, h6, h7, h8, h9, ha]
              simp [mfF, kfF, sameM, msg0, spM, spV, extV, ex6, ex8, ex10, ex12, ex14, kinds, ticketM, si2, si4, si6, si8, siR, sizV, spT, prB_nil, ctA_nil, tiF, ageB, h3, h3_0, h5, h6, h7, h8, h9, ha]
set_option linter.unusedSimpArgs false in
set_option maxHeartbeats 2000000 in
theorem mf_end (m : Msg) (hk : m.k = 5) : mfF m = spM m := by
  obtain ⟨k, v, r, s, ho, pr, ti, ag, ea, bi, rs, ce, pf⟩ := m
  simp only at hk
  subst hk
  by_cases h_v : v = 0
  rotate_left
  · have g_v : ¬ 0 = v := fun h => h_v h.symm
    simp [mfF, kfF, sameM, msg0, spM, spV, extV, ex6, ex8, ex10, ex12, ex14, kinds, endM, h_v, g_v]
  subst h_v
  cases r with
  | cons _ _ => simp [mfF, kfF, sameM, msg0, spM, spV, extV, ex6, ex8, ex10, ex12, ex14, kinds, endM]
  | nil =>
    cases s with
    | cons _ _ => simp [mfF, kfF, sameM, msg0, spM, spV, extV, ex6, ex8, ex10, ex12, ex14, kinds, endM]
    | nil =>
      cases ho with
      | cons _ _ => simp [mfF, kfF, sameM, msg0, spM, spV, extV, ex6, ex8, ex10, ex12, ex14, kinds, endM]
      | nil =>
        cases pr with
        | cons _ _ => simp [mfF, kfF, sameM, msg0, spM, spV, extV, ex6, ex8, ex10, ex12, ex14, kinds, endM]
        | nil =>
          cases ti with
          | cons _ _ => simp [mfF, kfF, sameM, msg0, spM, spV, extV, ex6, ex8, ex10, ex12, ex14, kinds, endM]
          | nil =>
            by_cases h_ag : ag = 0
            rotate_left
            · have g_ag : ¬ 0 = ag := fun h => h_ag h.symm
              simp [mfF, kfF, sameM, msg0, spM, spV, extV, ex6, ex8, ex10, ex12, ex14, kinds, endM, h_ag, g_ag]
            subst h_ag
            by_cases h_ea : ea = 0
            rotate_left
            · have g_ea : ¬ 0 = ea := fun h => h_ea h.symm
              simp [mfF, kfF, sameM, msg0, spM, spV, extV, ex6, ex8, ex10, ex12, ex14, kinds, endM, h_ea, g_ea]
            subst h_ea
            cases bi with
            | cons _ _ => simp [mfF, kfF, sameM, msg0, spM, spV, extV, ex6, ex8, ex10, ex12, ex14, kinds, endM]
            | nil =>
              cases rs
              rotate_left
              · simp [mfF, kfF, sameM, msg0, spM, spV, extV, ex6, ex8, ex10, ex12, ex14, kinds, endM]
              cases ce with
              | cons _ _ => simp [mfF, kfF, sameM, msg0, spM, spV, extV, ex6, ex8, ex10, ex12, ex14, kinds, endM]
              | nil =>
                cases pf with
                | cons _ _ => simp [mfF, kfF, sameM, msg0, spM, spV, extV, ex6, ex8, ex10, ex12, ex14, kinds, endM]
                | nil =>
                  simp [mfF, kfF, sameM, msg0, spM, spV, extV, ex6, ex8, ex10, ex12, ex14, kinds, endM, si2, si4, si6, si8, siR, sizV, spT, prB_nil, ctA_nil]
set_option linter.unusedSimpArgs false in
set_option maxHeartbeats 2000000 in
theorem mf_extras (m : Msg) (hk : m.k = 8) : mfF m = spM m := by
  obtain ⟨k, v, r, s, ho, pr, ti, ag, ea, bi, rs, ce, pf⟩ := m
  simp only at hk
  subst hk
  by_cases h_v : v = 0
  rotate_left
  · have g_v : ¬ 0 = v := fun h => h_v h.symm
    simp [mfF, kfF, sameM, msg0, spM, spV, extV, ex6, ex8, ex10, ex12, ex14, kinds, extrasM, h_v, g_v]
  subst h_v
  cases r with
  | cons _ _ => simp [mfF, kfF, sameM, msg0, spM, spV, extV, ex6, ex8, ex10, ex12, ex14, kinds, extrasM]
  | nil =>
    cases s with
    | cons _ _ => simp [mfF, kfF, sameM, msg0, spM, spV, extV, ex6, ex8, ex10, ex12, ex14, kinds, extrasM]
    | nil =>
      cases ho with
      | cons _ _ => simp [mfF, kfF, sameM, msg0, spM, spV, extV, ex6, ex8, ex10, ex12, ex14, kinds, extrasM]
      | nil =>
        cases ti with
        | cons _ _ => simp [mfF, kfF, sameM, msg0, spM, spV, extV, ex6, ex8, ex10, ex12, ex14, kinds, extrasM]
        | nil =>
          by_cases h_ag : ag = 0
          rotate_left
          · have g_ag : ¬ 0 = ag := fun h => h_ag h.symm
            simp [mfF, kfF, sameM, msg0, spM, spV, extV, ex6, ex8, ex10, ex12, ex14, kinds, extrasM, h_ag, g_ag]
          subst h_ag
          cases bi with
          | cons _ _ => simp [mfF, kfF, sameM, msg0, spM, spV, extV, ex6, ex8, ex10, ex12, ex14, kinds, extrasM]
          | nil =>
            cases rs
            rotate_left
            · simp [mfF, kfF, sameM, msg0, spM, spV, extV, ex6, ex8, ex10, ex12, ex14, kinds, extrasM]
            cases ce with
            | cons _ _ => simp [mfF, kfF, sameM, msg0, spM, spV, extV, ex6, ex8, ex10, ex12, ex14, kinds, extrasM]
            | nil =>
              cases pf with
              | cons _ _ => simp [mfF, kfF, sameM, msg0, spM, spV, extV, ex6, ex8, ex10, ex12, ex14, kinds, extrasM]
              | nil =>
                cases hp : prB pr 1 with
                | false => simp [mfF, kfF, sameM, msg0, spM, spV, extV, ex6, ex8, ex10, ex12, ex14, kinds, extrasM, si2, si4, si6, si8, siR, sizV, spT, prB_nil, ctA_nil, exF, flgB, hp]
                | true =>
                  by_cases h1 : ea = 0
                  · subst h1
                    simp [mfF, kfF, sameM, msg0, spM, spV, extV, ex6, ex8, ex10, ex12, ex14, kinds, extrasM, si2, si4, si6, si8, siR, sizV, spT, prB_nil, ctA_nil, exF, flgB, hp]
                  by_cases h2 : ea = 1
                  · subst h2
                    simp [mfF, kfF, sameM, msg0, spM, spV, extV, ex6, ex8, ex10, ex12, ex14, kinds, extrasM, si2, si4, si6, si8, siR, sizV, spT, prB_nil, ctA_nil, exF, flgB, hp]
                  have h3 : ea < 0 ∨ 1 < ea := by omega
                  simp [mfF, kfF, sameM, msg0, spM, spV, extV, ex6, ex8, ex10, ex12, ex14, kinds, extrasM, si2, si4, si6, si8, siR, sizV, spT, prB_nil, ctA_nil, exF, flgB, hp, h1, h2, h3]
set_option linter.unusedSimpArgs false in
set_option maxHeartbeats 2000000 in
theorem mf_certs (m : Msg) (hk : m.k = 11) : mfF m = spM m := by
  obtain ⟨k, v, r, s, ho, pr, ti, ag, ea, bi, rs, ce, pf⟩ := m
  simp only at hk
  subst hk
  by_cases h_v : v = 0
  rotate_left
  · have g_v : ¬ 0 = v := fun h => h_v h.symm
    simp [mfF, kfF, sameM, msg0, spM, spV, extV, ex6, ex8, ex10, ex12, ex14, kinds, certsM, h_v, g_v]
  subst h_v
  cases r with
  | cons _ _ => simp [mfF, kfF, sameM, msg0, spM, spV, extV, ex6, ex8, ex10, ex12, ex14, kinds, certsM]
  | nil =>
    cases s with
    | cons _ _ => simp [mfF, kfF, sameM, msg0, spM, spV, extV, ex6, ex8, ex10, ex12, ex14, kinds, certsM]
    | nil =>
      cases ho with
      | cons _ _ => simp [mfF, kfF, sameM, msg0, spM, spV, extV, ex6, ex8, ex10, ex12, ex14, kinds, certsM]
      | nil =>
        cases pr with
        | cons _ _ => simp [mfF, kfF, sameM, msg0, spM, spV, extV, ex6, ex8, ex10, ex12, ex14, kinds, certsM]
        | nil =>
          cases ti with
          | cons _ _ => simp [mfF, kfF, sameM, msg0, spM, spV, extV, ex6, ex8, ex10, ex12, ex14, kinds, certsM]
          | nil =>
            by_cases h_ag : ag = 0
            rotate_left
            · have g_ag : ¬ 0 = ag := fun h => h_ag h.symm
              simp [mfF, kfF, sameM, msg0, spM, spV, extV, ex6, ex8, ex10, ex12, ex14, kinds, certsM, h_ag, g_ag]
            subst h_ag
            by_cases h_ea : ea = 0
            rotate_left
            · have g_ea : ¬ 0 = ea := fun h => h_ea h.symm
              simp [mfF, kfF, sameM, msg0, spM, spV, extV, ex6, ex8, ex10, ex12, ex14, kinds, certsM, h_ea, g_ea]
            subst h_ea
            cases bi with
            | cons _ _ => simp [mfF, kfF, sameM, msg0, spM, spV, extV, ex6, ex8, ex10, ex12, ex14, kinds, certsM]
            | nil =>
              cases rs
              rotate_left
              · simp [mfF, kfF, sameM, msg0, spM, spV, extV, ex6, ex8, ex10, ex12, ex14, kinds, certsM]
              cases pf with
              | cons _ _ => simp [mfF, kfF, sameM, msg0, spM, spV, extV, ex6, ex8, ex10, ex12, ex14, kinds, certsM]
              | nil =>
                by_cases h1 : ce.length = 0
                · simp [mfF, kfF, sameM, msg0, spM, spV, extV, ex6, ex8, ex10, ex12, ex14, kinds, certsM, si2, si4, si6, si8, siR, sizV, spT, prB_nil, ctA_nil, ceF, h1]
                by_cases h2 : 4 < ce.length
                · simp [mfF, kfF, sameM, msg0, spM, spV, extV, ex6, ex8, ex10, ex12, ex14, kinds, certsM, si2, si4, si6, si8, siR, sizV, spT, prB_nil, ctA_nil, ceF, h1, h2]
                cases hc : ctA ce with
                | false => simp [mfF, kfF, sameM, msg0, spM, spV, extV, ex6, ex8, ex10, ex12, ex14, kinds, certsM, si2, si4, si6, si8, siR, sizV, spT, prB_nil, ctA_nil, ceF, h1, h2, hc]
                | true => simp [mfF, kfF, sameM, msg0, spM, spV, extV, ex6, ex8, ex10, ex12, ex14, kinds, certsM, si2, si4, si6, si8, siR, sizV, spT, prB_nil, ctA_nil, ceF, h1, h2, hc]
set_option linter.unusedSimpArgs false in
set_option maxHeartbeats 2000000 in
theorem mf_proof (m : Msg) (hk : m.k = 15) : mfF m = spM m := by
  obtain ⟨k, v, r, s, ho, pr, ti, ag, ea, bi, rs, ce, pf⟩ := m
  simp only at hk
  subst hk
  by_cases h_v : v = 0
  rotate_left
  · have g_v : ¬ 0 = v := fun h => h_v h.symm
    simp [mfF, kfF, sameM, msg0, spM, spV, extV, ex6, ex8, ex10, ex12, ex14, kinds, proofM, h_v, g_v]
  subst h_v
  cases r with
  | cons _ _ => simp [mfF, kfF, sameM, msg0, spM, spV, extV, ex6, ex8, ex10, ex12, ex14, kinds, proofM]
  | nil =>
    cases s with
    | cons _ _ => simp [mfF, kfF, sameM, msg0, spM, spV, extV, ex6, ex8, ex10, ex12, ex14, kinds, proofM]
    | nil =>
      cases ho with
      | cons _ _ => simp [mfF, kfF, sameM, msg0, spM, spV, extV, ex6, ex8, ex10, ex12, ex14, kinds, proofM]
      | nil =>
        cases pr with
        | cons _ _ => simp [mfF, kfF, sameM, msg0, spM, spV, extV, ex6, ex8, ex10, ex12, ex14, kinds, proofM]
        | nil =>
          cases ti with
          | cons _ _ => simp [mfF, kfF, sameM, msg0, spM, spV, extV, ex6, ex8, ex10, ex12, ex14, kinds, proofM]
          | nil =>
            by_cases h_ag : ag = 0
            rotate_left
            · have g_ag : ¬ 0 = ag := fun h => h_ag h.symm
              simp [mfF, kfF, sameM, msg0, spM, spV, extV, ex6, ex8, ex10, ex12, ex14, kinds, proofM, h_ag, g_ag]
            subst h_ag
            by_cases h_ea : ea = 0
            rotate_left
            · have g_ea : ¬ 0 = ea := fun h => h_ea h.symm
              simp [mfF, kfF, sameM, msg0, spM, spV, extV, ex6, ex8, ex10, ex12, ex14, kinds, proofM, h_ea, g_ea]
            subst h_ea
            cases bi with
            | cons _ _ => simp [mfF, kfF, sameM, msg0, spM, spV, extV, ex6, ex8, ex10, ex12, ex14, kinds, proofM]
            | nil =>
              cases rs
              rotate_left
              · simp [mfF, kfF, sameM, msg0, spM, spV, extV, ex6, ex8, ex10, ex12, ex14, kinds, proofM]
              cases ce with
              | cons _ _ => simp [mfF, kfF, sameM, msg0, spM, spV, extV, ex6, ex8, ex10, ex12, ex14, kinds, proofM]
              | nil =>
                by_cases h1 : pf.length = 64
                rotate_left
                · have h1_0 : ¬ (pf.length : Int) = 64 := by omega
                  simp [mfF, kfF, sameM, msg0, spM, spV, extV, ex6, ex8, ex10, ex12, ex14, kinds, proofM, si2, si4, si6, si8, siR, sizV, spT, prB_nil, ctA_nil, pfF, h1, h1_0]
                have h1_0 : (pf.length : Int) = 64 := by omega
                simp [mfF, kfF, sameM, msg0, spM, spV, extV, ex6, ex8, ex10, ex12, ex14, kinds, proofM, si2, si4, si6, si8, siR, sizV, spT, prB_nil, ctA_nil, pfF, h1, h1_0]
set_option linter.unusedSimpArgs false in
set_option maxHeartbeats 2000000 in
theorem mf_finished (m : Msg) (hk : m.k = 20) : mfF m = spM m := by
  obtain ⟨k, v, r, s, ho, pr, ti, ag, ea, bi, rs, ce, pf⟩ := m
  simp only at hk
  subst hk
  by_cases h_v : v = 0
  rotate_left
  · have g_v : ¬ 0 = v := fun h => h_v h.symm
    simp [mfF, kfF, sameM, msg0, spM, spV, extV, ex6, ex8, ex10, ex12, ex14, kinds, finishedM, h_v, g_v]
  subst h_v
  cases r with
  | cons _ _ => simp [mfF, kfF, sameM, msg0, spM, spV, extV, ex6, ex8, ex10, ex12, ex14, kinds, finishedM]
  | nil =>
    cases s with
    | cons _ _ => simp [mfF, kfF, sameM, msg0, spM, spV, extV, ex6, ex8, ex10, ex12, ex14, kinds, finishedM]
    | nil =>
      cases ho with
      | cons _ _ => simp [mfF, kfF, sameM, msg0, spM, spV, extV, ex6, ex8, ex10, ex12, ex14, kinds, finishedM]
      | nil =>
        cases pr with
        | cons _ _ => simp [mfF, kfF, sameM, msg0, spM, spV, extV, ex6, ex8, ex10, ex12, ex14, kinds, finishedM]
        | nil =>
          cases ti with
          | cons _ _ => simp [mfF, kfF, sameM, msg0, spM, spV, extV, ex6, ex8, ex10, ex12, ex14, kinds, finishedM]
          | nil =>
            by_cases h_ag : ag = 0
            rotate_left
            · have g_ag : ¬ 0 = ag := fun h => h_ag h.symm
              simp [mfF, kfF, sameM, msg0, spM, spV, extV, ex6, ex8, ex10, ex12, ex14, kinds, finishedM, h_ag, g_ag]
            subst h_ag
            by_cases h_ea : ea = 0
            rotate_left
            · have g_ea : ¬ 0 = ea := fun h => h_ea h.symm
              simp [mfF, kfF, sameM, msg0, spM, spV, extV, ex6, ex8, ex10, ex12, ex14, kinds, finishedM, h_ea, g_ea]
            subst h_ea
            cases bi with
            | cons _ _ => simp [mfF, kfF, sameM, msg0, spM, spV, extV, ex6, ex8, ex10, ex12, ex14, kinds, finishedM]
            | nil =>
              cases rs
              rotate_left
              · simp [mfF, kfF, sameM, msg0, spM, spV, extV, ex6, ex8, ex10, ex12, ex14, kinds, finishedM]
              cases ce with
              | cons _ _ => simp [mfF, kfF, sameM, msg0, spM, spV, extV, ex6, ex8, ex10, ex12, ex14, kinds, finishedM]
              | nil =>
                by_cases h1 : pf.length = 32
                rotate_left
                · have h1_0 : ¬ (pf.length : Int) = 32 := by omega
                  simp [mfF, kfF, sameM, msg0, spM, spV, extV, ex6, ex8, ex10, ex12, ex14, kinds, finishedM, si2, si4, si6, si8, siR, sizV, spT, prB_nil, ctA_nil, pfF, h1, h1_0]
                have h1_0 : (pf.length : Int) = 32 := by omega
                simp [mfF, kfF, sameM, msg0, spM, spV, extV, ex6, ex8, ex10, ex12, ex14, kinds, finishedM, si2, si4, si6, si8, siR, sizV, spT, prB_nil, ctA_nil, pfF, h1, h1_0]
set_option linter.unusedSimpArgs false in
set_option maxHeartbeats 2000000 in
theorem mf_update (m : Msg) (hk : m.k = 24) : mfF m = spM m := by
  obtain ⟨k, v, r, s, ho, pr, ti, ag, ea, bi, rs, ce, pf⟩ := m
  simp only at hk
  subst hk
  by_cases h_v : v = 0
  rotate_left
  · have g_v : ¬ 0 = v := fun h => h_v h.symm
    simp [mfF, kfF, sameM, msg0, spM, spV, extV, ex6, ex8, ex10, ex12, ex14, kinds, updateM, h_v, g_v]
  subst h_v
  cases r with
  | cons _ _ => simp [mfF, kfF, sameM, msg0, spM, spV, extV, ex6, ex8, ex10, ex12, ex14, kinds, updateM]
  | nil =>
    cases s with
    | cons _ _ => simp [mfF, kfF, sameM, msg0, spM, spV, extV, ex6, ex8, ex10, ex12, ex14, kinds, updateM]
    | nil =>
      cases ho with
      | cons _ _ => simp [mfF, kfF, sameM, msg0, spM, spV, extV, ex6, ex8, ex10, ex12, ex14, kinds, updateM]
      | nil =>
        cases pr with
        | cons _ _ => simp [mfF, kfF, sameM, msg0, spM, spV, extV, ex6, ex8, ex10, ex12, ex14, kinds, updateM]
        | nil =>
          cases ti with
          | cons _ _ => simp [mfF, kfF, sameM, msg0, spM, spV, extV, ex6, ex8, ex10, ex12, ex14, kinds, updateM]
          | nil =>
            by_cases h_ag : ag = 0
            rotate_left
            · have g_ag : ¬ 0 = ag := fun h => h_ag h.symm
              simp [mfF, kfF, sameM, msg0, spM, spV, extV, ex6, ex8, ex10, ex12, ex14, kinds, updateM, h_ag, g_ag]
            subst h_ag
            cases bi with
            | cons _ _ => simp [mfF, kfF, sameM, msg0, spM, spV, extV, ex6, ex8, ex10, ex12, ex14, kinds, updateM]
            | nil =>
              cases rs
              rotate_left
              · simp [mfF, kfF, sameM, msg0, spM, spV, extV, ex6, ex8, ex10, ex12, ex14, kinds, updateM]
              cases ce with
              | cons _ _ => simp [mfF, kfF, sameM, msg0, spM, spV, extV, ex6, ex8, ex10, ex12, ex14, kinds, updateM]
              | nil =>
                cases pf with
                | cons _ _ => simp [mfF, kfF, sameM, msg0, spM, spV, extV, ex6, ex8, ex10, ex12, ex14, kinds, updateM]
                | nil =>
                  by_cases h1 : ea = 0
                  · subst h1
                    simp [mfF, kfF, sameM, msg0, spM, spV, extV, ex6, ex8, ex10, ex12, ex14, kinds, updateM, si2, si4, si6, si8, siR, sizV, spT, prB_nil, ctA_nil, upF, flgB]
                  by_cases h2 : ea = 1
                  · subst h2
                    simp [mfF, kfF, sameM, msg0, spM, spV, extV, ex6, ex8, ex10, ex12, ex14, kinds, updateM, si2, si4, si6, si8, siR, sizV, spT, prB_nil, ctA_nil, upF, flgB]
                  have h3 : ea < 0 ∨ 1 < ea := by omega
                  simp [mfF, kfF, sameM, msg0, spM, spV, extV, ex6, ex8, ex10, ex12, ex14, kinds, updateM, si2, si4, si6, si8, siR, sizV, spT, prB_nil, ctA_nil, upF, flgB, h1, h2, h3]
theorem mf_eq (m : Msg) : mfF m = spM m := by
  by_cases h1 : m.k = 1
  · exact mf_hello m h1
  by_cases h2 : m.k = 2
  · exact mf_answer m h2
  by_cases h4 : m.k = 4
  · exact mf_ticket m h4
  by_cases h5 : m.k = 5
  · exact mf_end m h5
  by_cases h8 : m.k = 8
  · exact mf_extras m h8
  by_cases h11 : m.k = 11
  · exact mf_certs m h11
  by_cases h15 : m.k = 15
  · exact mf_proof m h15
  by_cases h20 : m.k = 20
  · exact mf_finished m h20
  by_cases h24 : m.k = 24
  · exact mf_update m h24
  simp [mfF, kfF, spM, spV, kinds, h1, h2, h4, h5, h8, h11, h15, h20, h24]
end Go.Proofs.Ytfckjoheiabfoaa

/-
  The model's MessageFault.
-/
namespace Go.Proofs.Ytfckjoheiabfoaa
open Go Go.RowKit

theorem specMF_any (w : World) (p : MQ) (m : Msg) (h : HasM w p m) (i : IsM m) :
    Calls Try.prog 5 #[.agg (mgV p m)] w fun e w' => e = .returned (.int .i64 (mfF m)) ∧ Below w.heap.size w w' := by
  rw [mf_eq]
  obtain ⟨k, v, r, s, ho, pr, ti, ag, ea, bi, rs, ce, pf⟩ := m
  exact specMF_walk w k v ag ea p.a2 p.a3 p.a5 p.a6 p.a9 p.a11 p.a12 r.length s.length pr.length ti.length bi.length pf.length p.c2 p.c3 p.c5 p.c6 p.c9 p.c11 p.c12 ho rs ce p.g11 p.ps _ _ _ _ _ _
    (fun W => l13Known_any W k)
    (fun W => l13Extra_any W k v ag ea p.a2 p.a3 p.a5 p.a6 p.a9 p.a11 p.a12 r.length s.length pr.length ti.length bi.length ce.length pf.length p.c2 p.c3 p.c5 p.c6 p.c9 p.c11 p.c12 ho rs)
    (fun W => l13Sizes_any W k v ag ea p.a2 p.a3 p.a5 p.a6 p.a9 p.a11 p.a12 r.length s.length pr.length ti.length bi.length ce.length pf.length p.c2 p.c3 p.c5 p.c6 p.c9 p.c11 p.c12 ho rs)
    (fun W => specNameFault_any W ho (Nat.le_trans i.hoL (by decide)))
    (fun W n => l13Protocols_any W p.g5 p.a5 p.c5 pr 8 (h.pr.up n) i.prL (by decide) i.prZ)
    (fun W n => l13Protocols_any W p.g5 p.a5 p.c5 pr 1 (h.pr.up n) i.prL (by decide) i.prZ)
    h.ce i.ceZ i.tiL i.ceL
end Go.Proofs.Ytfckjoheiabfoaa

/-
  The law of MessageFault (written by gens/mhk.py).
-/
namespace Go.Proofs.Ytfckjoheiabfoaa
open Go Go.RowKit

theorem iLM : (Try.prog.info? 26).map (·.size) = some 13 := by kernel_rfl
theorem rowLM : ∃ d, Try.prog.underlying 26 = some d ∧ d.isRow = true := ⟨_, Try.underlying26, rfl⟩
theorem rangeM {w w' : World} {b : Nat} {cs : List Value} (h : w.rangeAt b 0 cs) (n : Below w.heap.size w w') : w'.rangeAt b 0 cs := fun j v hj => (n.cell (block_lt_of_cell (h j v hj))).trans (h j v hj)
theorem mgV_one (q : MQ) (m : Msg) : (mgV q m).all (·.oneCell') = true := by
  refine all_oneCell_toArray (cs := [.int .i64 m.k, .int .i64 m.v, .slice q.a2 m.r.length q.c2, .slice q.a3 m.s.length q.c3, .string ⟨⟨m.ho⟩⟩, .slice q.a5 m.pr.length q.c5, .slice q.a6 m.ti.length q.c6, .int .i64 m.ag, .int .i64 m.ea, .slice q.a9 m.bi.length q.c9, .bool m.rs, .slice q.a11 m.ce.length q.c11, .slice q.a12 m.pf.length q.c12]) fun v hv => ?_
  simp only [List.mem_cons, List.not_mem_nil, or_false] at hv
  rcases hv with rfl | rfl | rfl | rfl | rfl | rfl | rfl | rfl | rfl | rfl | rfl | rfl | rfl
  all_goals rfl
/-- A message that may be read. -/
def FM (m : Msg) : Fact := ⟨fun v w => ∃ q, v = .agg (mgV q m) ∧ HasM w q m, fun n h => by
  obtain ⟨q, e, h⟩ := h
  exact ⟨q, e, h.up n⟩⟩
section
variable {ops : Array Oper} {Q : Exit → Act → World → Prop} {md : Region.Mode} {F : Nat → Fact} {a0 : Act} {w0 : World} {i : Nat} {o : Oper} {ts : Array TypeId}
theorem step_lM (ty : TypeId) (hu : ∃ d, Try.prog.underlying ty = some d ∧ d.isRow = true) (hs : (Try.prog.info? ty).map (·.size) = some 13) (hi : ops[i]? = some o) (p : Nat) (hop : o.op = .load ty (.tmp p)) (hp : apart ops p = true) (b : Nat) (h0 : a0.tmps.getD p undef = .pointer (some ⟨b, 0, none⟩)) {q : MQ} {m : Msg} (T : w0.rangeAt b 0 (mgV q m).toList) (hF : F i = Fact.eq (.agg (mgV q m))) : StepOk Try.prog md ops Q F a0 w0 i := by
  obtain ⟨d, hu, hr⟩ := hu
  refine step_load hi _ _ hop _ 13 hu hr hs fun a w hb hw _ => ?_
  exact ⟨b, 0, (mgV q m).toList, (based_at hb p hp).trans h0, rangeM T hw, rfl, by rw [hF]; exact rfl⟩
theorem step_toM (hi : ops[i]? = some o) (p j : Nat) {q : MQ} {m : Msg} (hop : o.op = .call { callee := .value (.func 6), args := #[.tmp p], argTypes := ts })
    (hj : waits md ops i j p = true) (hC : HasM w0 q m) (im : IsM m) (hFj : F j = Fact.eq (.agg (mgV q m))) (hFi : F i = FM m) : StepOk Try.prog md ops Q F a0 w0 i := by
  refine step_callv hi _ _ ts hop (by kernel_rfl) fun A w _ hw hF => ?_
  have ea := hF j p hj
  rw [hFj] at ea
  show Calls Try.prog 6 #[A.tmps.getD p undef] w _
  rw [show A.tmps.getD p undef = _ from ea]
  refine (toMessage_any w q m (hC.up hw) im).mono ?_
  rintro r w' ⟨⟨z, rfl, hz⟩, hn⟩
  rw [hFi]
  exact ⟨_, rfl, hn, z, rfl, hz⟩
theorem step_eqM (hi : ops[i]? = some o) (p q j k : Nat) {z : MQ} {m : Msg} (hop : o.op = .call { callee := .value (.func 8), args := #[.tmp p, .tmp q], argTypes := ts })
    (hj : waits md ops i j p = true) (hk : waits md ops i k q = true) (hC : HasM w0 z m) (im : IsM m) (hFj : F j = Fact.eq (.agg (mgV z m))) (hFk : F k = FM m) (hFi : F i = Fact.eq (.bool true)) : StepOk Try.prog md ops Q F a0 w0 i := by
  refine step_callv hi _ _ ts hop (by kernel_rfl) fun A w _ hw hF => ?_
  have ea := hF j p hj
  rw [hFj] at ea
  have eb := hF k q hk
  rw [hFk] at eb
  obtain ⟨y, eb, hy⟩ := eb
  show Calls Try.prog 8 #[A.tmps.getD p undef, A.tmps.getD q undef] w _
  rw [show A.tmps.getD p undef = _ from ea, show A.tmps.getD q undef = _ from eb]
  refine (eqMessage_same w z y m (hC.up hw) hy im).mono ?_
  rintro r w' ⟨rfl, hn⟩
  rw [hFi]
  exact ⟨_, rfl, hn, rfl⟩
theorem step_notM {P : Program} (hi : ops[i]? = some o) (p j : Nat) {b : Bool} {t : TypeId} (hop : o.op = .unOp .not t (.tmp p)) (hj : waits md ops i j p = true) (hFj : F j = Fact.eq (.bool b)) (hFi : F i = Fact.eq (.bool (!b))) : StepOk P md ops Q F a0 w0 i := by
  refine step_pure hi fun a w _ _ hf => ⟨.bool (!b), ?_, by rw [hFi]; exact rfl⟩
  have e := hf j p hj
  rw [hFj] at e
  have e' : a.eval (.tmp p) = .bool b := e
  simp only [execOp, hop, e']
  rfl
end
/-- A message of any size that a machine holds. -/
structure OkM (m : Msg) : Prop where
  rB : Byt m.r
  sB : Byt m.s
  tiB : Byt m.ti
  biB : Byt m.bi
  pfB : Byt m.pf
  ceB : ∀ i, i < m.ce.length → Byt (m.ce.getD i [])
  l2 : m.r.length ≤ 9223372036854775807
  l3 : m.s.length ≤ 9223372036854775807
  l4 : m.ho.length ≤ 9223372036854775807
  l5 : m.pr.length ≤ 9223372036854775807
  lz : ∀ l ∈ m.pr, l.length ≤ 9223372036854775807
  l6 : m.ti.length ≤ 9223372036854775807
  l9 : m.bi.length ≤ 9223372036854775807
  l11 : m.ce.length ≤ 9223372036854775807
  lc : ∀ i, i < m.ce.length → (m.ce.getD i []).length ≤ 9223372036854775807
  l12 : m.pf.length ≤ 9223372036854775807
theorem isM_of {m : Msg} (o : OkM m) (h : m.r.length + m.s.length + m.ho.length + (m.pr.length + sumT m.pr) + m.ti.length + m.bi.length + (m.ce.length + sumB m.ce) + m.pf.length ≤ 1048576) : IsM m :=
  ⟨o.rB, o.sB, o.tiB, o.biB, o.pfB, o.ceB, by omega, by omega, by omega, by omega, by omega, by omega, by omega, fun i hi => by have := sumB_get hi; omega, by omega, fun l hl => by have := sumT_mem hl; omega⟩
set_option maxRecDepth 100000 in
set_option maxHeartbeats 8000000 in
theorem msgFault_core (w : World) (p : MQ) (m : Msg) (hC : HasM w p m) (ok : OkM m) :
    Calls Try.prog 3 #[.agg (mgV p m)] w fun e w' => e = .returned (.bool true) ∧ Below w.heap.size w w' := by
  have n1 : Below w.heap.size w (w.alloc (.cells (mgV p m) 26)) := (Below.refl _ _).alloc (Nat.le_refl _) _
  have T0 : RwC (w.alloc (.cells (mgV p m) 26)) w.heap.size (mgV p m).toList 26 := RwC.new w (mgV p m).toList 26
  have SZ := hide (szMessage_r (w.alloc (.cells (mgV p m) 26)) p m (hC.up n1) ok.l2 ok.l3 ok.l4 ok.l5 ok.lz ok.l6 ok.l9 ok.l11 ok.lc ok.l12)
  have HC := hide (fun W (h : Below w.heap.size w W) => hC.up h)
  have N1 := hide n1
  have TT := hide T0
  clear n1 T0 hC
  have IS := hide (fun h => isM_of ok h)
  clear ok
  generalize hS : m.r.length + m.s.length + m.ho.length + (m.pr.length + sumT m.pr) + m.ti.length + m.bi.length + (m.ce.length + sumB m.ce) + m.pf.length = S at *
  clear hS
  go_enter Try.func3, Try.ntmps3
  obtain ⟨dL, hdL, hrL⟩ := rowLM
  obtain ⟨dC, hdC, hrC⟩ := rowM
  go_upto_region 2 with fail
  generalize w.alloc (.cells (mgV p m) 26) = W1 at *
  have RG := TT.out.rangeG
  clear TT
  go_wp2_with (first | (refine wpList_load_mid rfl 26 (.tmp 1) rfl w.heap.size 0 rfl (mgV p m).toList dL RG hdL hrL iLM ?_) | fail)
  refine SZ.out.mono ?_
  rintro e w2 ⟨⟨x, rfl, hx, hx'⟩, n2⟩
  have N2 := hide (nxt N1.out n2)
  have RG2 := rangeM RG n2
  clear n2 RG SZ N1
  by_cases hl : x < 0
  · have t1 : decide (x < 0) = true := decide_eq_true hl
    clear hl hx hx' IS HC RG2
    go_wp2
    go_ret
    exact ⟨rfl, N2.out⟩
  have t1 : decide (x < 0) = false := decide_eq_false hl
  have im := hide (IS.out (hx (by omega)))
  clear hl hx hx' IS
  have TO := hide (fun W (h : Below w.heap.size w W) => toMessage_any W p m (HC.out W h) im.out)
  have SP := hide (fun W q (h : HasM W q m) => specMF_any W q m h im.out)
  have IM := hide (fun W q (h : HasM W q m) => implMF_any W q m h im.out)
  generalize mfF m = z at *
  have zz : (z == z) = true := by simp
  have zn : (z != z) = false := by simp
  go_wp2_with (first | (refine wpList_load_mid rfl 26 (.tmp 1) rfl w.heap.size 0 rfl (mgV p m).toList dL RG2 hdL hrL iLM ?_) | fail)
  refine (TO.out w2 N2.out).mono ?_
  rintro e w3 ⟨⟨q, rfl, nc⟩, n3⟩
  have N3 := hide (nxt N2.out n3)
  have RG3 := rangeM RG2 n3
  clear n3 RG2 N2
  go_wp2_with fail
  refine (SP.out w3 q nc).mono ?_
  rintro e w4 ⟨rfl, n4⟩
  have N4 := hide (nxt N3.out n4)
  have RG4 := rangeM RG3 n4
  clear n4 RG3 N3 nc
  go_wp2_with (first | (refine wpList_load_mid rfl 26 (.tmp 1) rfl w.heap.size 0 rfl (mgV p m).toList dL RG4 hdL hrL iLM ?_) | fail)
  refine (TO.out w4 N4.out).mono ?_
  rintro e w5 ⟨⟨q', rfl, nc⟩, n5⟩
  have N5 := hide (nxt N4.out n5)
  have RG5 := rangeM RG4 n5
  clear n5 RG4 N4
  have a5 : Below w5.heap.size w5 (w5.alloc (.cells #[.int .i64 0, .int .i64 0, .slice none 0 0, .slice none 0 0, .string ⟨#[]⟩, .slice none 0 0, .slice none 0 0, .int .i64 0, .int .i64 0, .slice none 0 0, .bool false, .slice none 0 0, .slice none 0 0] 31)) := (Below.refl _ _).alloc (Nat.le_refl _) _
  have TH0 : RwC (w5.alloc (.cells #[.int .i64 0, .int .i64 0, .slice none 0 0, .slice none 0 0, .string ⟨#[]⟩, .slice none 0 0, .slice none 0 0, .int .i64 0, .int .i64 0, .slice none 0 0, .bool false, .slice none 0 0, .slice none 0 0] 31)) w5.heap.size (#[.int .i64 0, .int .i64 0, .slice none 0 0, .slice none 0 0, .string ⟨#[]⟩, .slice none 0 0, .slice none 0 0, .int .i64 0, .int .i64 0, .slice none 0 0, .bool false, .slice none 0 0, .slice none 0 0] : Array Value).toList 31 := RwC.new w5 (#[.int .i64 0, .int .i64 0, .slice none 0 0, .slice none 0 0, .string ⟨#[]⟩, .slice none 0 0, .slice none 0 0, .int .i64 0, .int .i64 0, .slice none 0 0, .bool false, .slice none 0 0, .slice none 0 0] : Array Value).toList 31
  have TH : (w5.alloc (.cells #[.int .i64 0, .int .i64 0, .slice none 0 0, .slice none 0 0, .string ⟨#[]⟩, .slice none 0 0, .slice none 0 0, .int .i64 0, .int .i64 0, .slice none 0 0, .bool false, .slice none 0 0, .slice none 0 0] 31)).there w5.heap.size 0 (mgV q' m).size := TH0.thereG
  have RX := World.rangeAt_setCells_same (w5.alloc (.cells #[.int .i64 0, .int .i64 0, .slice none 0 0, .slice none 0 0, .string ⟨#[]⟩, .slice none 0 0, .slice none 0 0, .int .i64 0, .int .i64 0, .slice none 0 0, .bool false, .slice none 0 0, .slice none 0 0] 31)) w5.heap.size 0 (mgV q' m).toList TH
  have OX := only_setG (w5.alloc (.cells #[.int .i64 0, .int .i64 0, .slice none 0 0, .slice none 0 0, .string ⟨#[]⟩, .slice none 0 0, .slice none 0 0, .int .i64 0, .int .i64 0, .slice none 0 0, .bool false, .slice none 0 0, .slice none 0 0] 31)) w5.heap.size (mgV q' m).toList 0
  have b5 : Below w5.heap.size w5 ((w5.alloc (.cells #[.int .i64 0, .int .i64 0, .slice none 0 0, .slice none 0 0, .string ⟨#[]⟩, .slice none 0 0, .slice none 0 0, .int .i64 0, .int .i64 0, .slice none 0 0, .bool false, .slice none 0 0, .slice none 0 0] 31)).setCells w5.heap.size 0 (mgV q' m).toList) := a5.trans (OX.below (Nat.le_refl _))
  have N6 := hide (nxt N5.out b5)
  have RG6 := rangeM RG5 b5
  have HQ := hide (nc.up b5)
  clear a5 OX b5 RG5 N5 nc TH0
  have ON := mgV_one q' m
  go_upto_region 7 with (first | (refine wpList_store_mid rfl 31 (.tmp 5) (.tmp 16) rfl w5.heap.size 0 (mgV q' m) rfl rfl TH iM ON ?_) | fail)
  generalize (w5.alloc (.cells #[.int .i64 0, .int .i64 0, .slice none 0 0, .slice none 0 0, .string ⟨#[]⟩, .slice none 0 0, .slice none 0 0, .int .i64 0, .int .i64 0, .slice none 0 0, .bool false, .slice none 0 0, .slice none 0 0] 31)).setCells w5.heap.size 0 (mgV q' m).toList = w6 at *
  clear TH ON
  generalize w5.heap.size = b5 at *
  clear w5
  go_wp2_with (first | (refine wpList_load_mid rfl 31 (.tmp 5) rfl b5 0 rfl (mgV q' m).toList dC RX hdC hrC iM ?_) | fail)
  refine (IM.out w6 q' HQ.out).mono ?_
  rintro e w7 ⟨rfl, n7⟩
  have N7 := hide (nxt N6.out n7)
  have RG7 := hide (rangeM RG6 n7)
  have RX7 := hide (rangeM RX n7)
  have HQ7 := hide (HQ.out.up n7)
  clear n7 RG6 RX HQ N6
  go_upto_region 10 with fail
  refine region_end 5 (fun i => [Fact.eq (.agg (mgV q' m)), Fact.eq (.agg (mgV p m)), FM m, Fact.eq (.bool true), Fact.eq (.bool (!true))].getD i Fact.no) (by kernel_rfl) (by kernel_rfl) rfl ?_ ?_
  · intro i hi
    obtain rfl | rfl | rfl | rfl | rfl : i = 0 ∨ i = 1 ∨ i = 2 ∨ i = 3 ∨ i = 4 := by omega
    · exact step_lM _ rowM iM rfl 5 rfl (by kernel_rfl) b5 rfl RX7.out rfl
    · exact step_lM _ rowLM iLM rfl 1 rfl (by kernel_rfl) w.heap.size rfl RG7.out rfl
    · exact step_toM rfl 23 1 rfl (by kernel_rfl) (HC.out w7 N7.out) im.out rfl rfl
    · exact step_eqM rfl 22 24 0 2 rfl (by kernel_rfl) (by kernel_rfl) HQ7.out im.out rfl rfl rfl
    · exact step_notM rfl 25 3 rfl (by kernel_rfl) rfl rfl
  intro A W hb hw hF
  have e2 := hF 4 26 (by kernel_rfl)
  obtain ⟨vs, hvs⟩ : ∃ vs : Nat → Value, ∀ d, A.tmps.getD d undef = vs d := ⟨_, fun _ => rfl⟩
  rw [hvs] at e2
  rw [puts_of (md := .any) (k := 5) (by kernel_rfl) rfl hb vs hvs]
  clear hb hF hvs
  have e3 : vs 26 = .bool false := e2
  clear e2
  simp only [puts, e3, Act.put, List.setIfInBounds_toArray, List.set_cons_succ, List.set_cons_zero]
  clear e3
  have N8 := hide (nxt N7.out hw)
  clear hw N7 RG7 RX7 HQ7
  go_wp2
  go_ret
  exact ⟨rfl, N8.out⟩
end Go.Proofs.Ytfckjoheiabfoaa

/-
  The law of MessageFault, at what came in.
-/
namespace Go.Proofs.Ytfckjoheiabfoaa
open Go Go.RowKit Go.ChangeShapes Go.WideShapes

theorem rdT_of_rowM {w : World} {a : Option Addr} {len cap : Nat} {ss : List ByteArray}
    (h : (a = none ∧ len = 0 ∧ cap = 0 ∧ ss = []) ∨ ∃ x, a = some x ∧ len ≤ cap ∧ cap ≤ maxLen ∧ ss.length = cap ∧ (∀ i, i < ss.length → w.cell? (x.add i) = some (.string (ss.getD i ByteArray.empty))) ∧ ∀ s ∈ ss, s.size ≤ maxLen) :
    ∃ (g : Nat) (ls : List (List UInt8)), ls.length = len ∧ RdT w g a ls ∧ ls.length ≤ 9223372036854775807 ∧ ∀ l ∈ ls, l.length ≤ 9223372036854775807 := by
  rcases h with ⟨rfl, rfl, rfl, rfl⟩ | ⟨x, rfl, hl, hm, hz, hc, hw⟩
  · exact ⟨0, [], rfl, RdT.nil _ _ _, by simp, fun l h => by cases h⟩
  · have hlen : ((ss.take len).map (fun s : ByteArray => s.data.toList)).length = len := by simp; omega
    refine ⟨x.block, (ss.take len).map (fun s : ByteArray => s.data.toList), hlen, ?_, by rw [hlen]; unfold maxLen at hm; omega, ?_⟩
    · intro h0
      rw [hlen] at h0
      obtain ⟨b, off, spot⟩ := x
      have h1 := hc 0 (by omega)
      have hs : spot = none := by simpa [Addr.add] using World.cell?_spot h1
      subst hs
      refine ⟨off, rfl, fun i hi => ?_⟩
      rw [hlen] at hi
      have h2 := hc i (by omega)
      have e : (⟨b, off, none⟩ : Addr).add i = ⟨b, off + i, none⟩ := by
        unfold Addr.add
        split <;> simp_all
      rw [e] at h2
      show w.cell? ⟨b, off + i, none⟩ = _
      rw [h2]
      have hi2 : i < ss.length := by omega
      simp [hi, hi2, tx]
    · intro l hl'
      obtain ⟨s, hs, rfl⟩ := List.mem_map.1 hl'
      have := hw s (List.mem_of_mem_take hs)
      unfold maxLen at this
      exact this
theorem rd_of_rowM {w : World} {a : Option Addr} {len cap : Nat} {zs : List Int}
    (h : (a = none ∧ len = 0 ∧ cap = 0 ∧ zs = []) ∨ ∃ x, a = some x ∧ len ≤ cap ∧ cap ≤ maxLen ∧ zs.length = cap ∧ (∀ i, i < zs.length → w.cell? (x.add i) = some (.int .u8 (zs.getD i 0))) ∧ ∀ n ∈ zs, (Lit.int .u8 n).wf = true) :
    ∃ (g : Nat) (xs : List Int), xs.length = len ∧ Rd w g a .u8 xs ∧ Byt xs ∧ xs.length ≤ 9223372036854775807 := by
  obtain ⟨g, xs, e, r, b⟩ := rd_of_row h
  refine ⟨g, xs, e, r, b, ?_⟩
  rw [e]
  rcases h with ⟨_, rfl, _, _⟩ | ⟨x, _, hl, hm, _⟩
  · omega
  · unfold maxLen at hm
    omega
def IsRowM (w : World) (a : Option Addr) (len cap : Nat) (zs : List Int) : Prop :=
  (a = none ∧ len = 0 ∧ cap = 0 ∧ zs = []) ∨ ∃ x, a = some x ∧ len ≤ cap ∧ cap ≤ maxLen ∧ zs.length = cap ∧ (∀ i, i < zs.length → w.cell? (x.add i) = some (.int .u8 (zs.getD i 0))) ∧ ∀ n ∈ zs, (Lit.int .u8 n).wf = true
def IsRowB (w : World) (a : Option Addr) (len cap : Nat) : Prop :=
  (a = none ∧ len = 0 ∧ cap = 0) ∨ ∃ x, a = some x ∧ len ≤ cap ∧ cap ≤ maxLen ∧ ∀ i, i < len → ∃ (ai : Option Addr) (li ci : Nat) (zi : List Int), w.cell? (x.add i) = some (.slice ai li ci) ∧ IsRowM w ai li ci zi
theorem pickG {α : Type} (d : α) {P : Nat → α → Prop} : ∀ n, (∀ j, j < n → ∃ G, P j G) → ∃ Gs : List α, Gs.length = n ∧ ∀ j, j < n → P j (Gs.getD j d)
  | 0, _ => ⟨[], rfl, fun j hj => absurd hj (by omega)⟩
  | n + 1, h => by
    obtain ⟨Gs, hl, hG⟩ := pickG d (P := P) n (fun j hj => h j (by omega))
    obtain ⟨G, hn⟩ := h n (by omega)
    refine ⟨Gs ++ [G], by simp [hl], fun j hj => ?_⟩
    by_cases e : j < n
    · have : (Gs ++ [G]).getD j d = Gs.getD j d := by
        rw [List.getD_eq_getElem?_getD, List.getElem?_append_left (by omega), ← List.getD_eq_getElem?_getD]
      rw [this]
      exact hG j e
    · obtain rfl : j = n := by omega
      have : (Gs ++ [G]).getD j d = G := by
        rw [List.getD_eq_getElem?_getD, List.getElem?_append_right (by omega), hl]
        simp
      rw [this]
      exact hn
theorem rdL_of_row {w : World} {a : Option Addr} {len cap : Nat} (h : IsRowB w a len cap) :
    ∃ (g : Nat) (ce : List (List Int)) (ps : List Plb), ce.length = len ∧ RdL w g a ce ps ∧ (∀ i, i < ce.length → Byt (ce.getD i [])) ∧ ce.length ≤ 9223372036854775807 ∧ ∀ i, i < ce.length → (ce.getD i []).length ≤ 9223372036854775807 := by
  rcases h with ⟨rfl, rfl, rfl⟩ | ⟨x, rfl, hl, hm, hr⟩
  · exact ⟨0, [], [], rfl, ⟨fun h => absurd h (by simp), fun i hi => absurd hi (by simp)⟩, fun i hi => absurd hi (by simp), by simp, fun i hi => absurd hi (by simp)⟩
  · have H : ∀ i, i < len → ∃ G : List Int × Plb, w.cell? (x.add i) = some (.slice G.2.a G.1.length G.2.c) ∧ Rd w G.2.q G.2.a .u8 G.1 ∧ Byt G.1 ∧ G.1.length ≤ 9223372036854775807 := fun i hi => by
      obtain ⟨ai, li, ci, zi, e, hz⟩ := hr i hi
      obtain ⟨g, xs, rfl, r, b, l⟩ := rd_of_rowM hz
      exact ⟨(xs, ⟨ai, ci, g⟩), e, r, b, l⟩
    obtain ⟨Gs, hGl, hG⟩ := pickG (([] : List Int), plb0) len H
    have e1 : ∀ i, i < len → (Gs.map (·.1)).getD i [] = (Gs.getD i ([], plb0)).1 := fun i hi => by
      rw [List.getD_eq_getElem?_getD, List.getElem?_map, List.getElem?_eq_getElem (by omega), List.getD_eq_getElem?_getD, List.getElem?_eq_getElem (by omega)]
      rfl
    have e2 : ∀ i, i < len → (Gs.map (·.2)).getD i plb0 = (Gs.getD i ([], plb0)).2 := fun i hi => by
      rw [List.getD_eq_getElem?_getD, List.getElem?_map, List.getElem?_eq_getElem (by omega), List.getD_eq_getElem?_getD, List.getElem?_eq_getElem (by omega)]
      rfl
    have el : (Gs.map (·.1)).length = len := by simp [hGl]
    refine ⟨x.block, Gs.map (·.1), Gs.map (·.2), el, ⟨fun h0 => ?_, fun i hi => ?_⟩, fun i hi => ?_, by rw [el]; unfold maxLen at hm; omega, fun i hi => ?_⟩
    · rw [el] at h0
      obtain ⟨b, off, spot⟩ := x
      have h1 := (hG 0 h0).1
      have hs : spot = none := by simpa [Addr.add] using World.cell?_spot h1
      subst hs
      refine ⟨off, rfl, fun i hi => ?_⟩
      rw [el] at hi
      have h2 := (hG i hi).1
      have e : (⟨b, off, none⟩ : Addr).add i = ⟨b, off + i, none⟩ := by
        unfold Addr.add
        split <;> simp_all
      rw [e] at h2
      rw [e1 i hi, e2 i hi]
      exact h2
    · rw [el] at hi
      rw [e1 i hi, e2 i hi]
      exact (hG i hi).2.1
    · rw [el] at hi
      rw [e1 i hi]
      exact (hG i hi).2.2.1
    · rw [el] at hi
      rw [e1 i hi]
      exact (hG i hi).2.2.2
set_option maxRecDepth 100000 in
theorem open_blobs {H : Type} {enc : TypeId × Value → H} {w : World} {base : Nat} {held : Bool} {fuel : Nat} {v : Value} {y : DataW H × List MemPlace} (h : DataW.trod enc Try.prog w base (fun _ => true) held fuel 24 [v] = some y) : ∃ a len cap, v = .slice a len cap ∧ IsRowB w a len cap := by
  rcases DataW.trod_slice Try.underlying24 h with ⟨hcs, _⟩ | ⟨x, l, c, elems, rest, n, _, hcs, _, _, hl, hm, hlen, hel, _, _⟩
  · simp at hcs
    exact ⟨none, 0, 0, hcs, .inl ⟨rfl, rfl, rfl⟩⟩
  · simp at hcs
    refine ⟨some x, l, c, hcs, .inr ⟨x, rfl, hl, hm, fun i hi => ?_⟩⟩
    have hb := hel i hi
    have hc1 : Try.prog.cellsOf 55 = 1 := by kernel_rfl
    rw [hc1, Nat.mul_one, List.getElem?_eq_getElem (by omega), Option.bind_eq_some_iff] at hb
    obtain ⟨cs', hcs', hy⟩ := hb
    obtain ⟨xs, n', _, _, hcl, hxl, hf⟩ := DataW.trod_struct Try.underlying55 hy
    have hx1 : xs.length = 1 := hxl
    rw [hc1] at hcl
    match cs', hcl, xs, hx1 with
    | [u], _, [z], _ =>
      have h0 := hf 0 _ rfl
      have hc2 : Try.prog.cellsOf 22 = 1 := by kernel_rfl
      have h0 : DataW.trod enc Try.prog w base (fun _ => true) held n' 22 [u] = some z := h0
      rcases open_ints Try.underlying22 Try.underlying5 (by kernel_rfl) h0 with ⟨hu, _⟩ | ⟨x', l', c', zs, hu, _, hl', hm', hz', _, hcell', hwz'⟩
      · simp at hu
        subst hu
        exact ⟨none, 0, 0, [], cell_of_cells?_one hcs', .inl ⟨rfl, rfl, rfl, rfl⟩⟩
      · simp at hu
        subst hu
        exact ⟨some x', l', c', zs, cell_of_cells?_one hcs', .inr ⟨x', rfl, hl', hm', by simpa using hz', hcell', hwz'⟩⟩
theorem msgFault_law (w : World) (k : Int) (_ : (Lit.int .i64 k).wf = true) (v : Int) (_ : (Lit.int .i64 v).wf = true) (g2 : Nat) (a2 : Option Addr) (c2 : Nat) (r : List Int) (q2 : Rd w g2 a2 .u8 r) (b2 : Byt r) (k2 : r.length ≤ 9223372036854775807) (g3 : Nat) (a3 : Option Addr) (c3 : Nat) (s : List Int) (q3 : Rd w g3 a3 .u8 s) (b3 : Byt s) (k3 : s.length ≤ 9223372036854775807)
    (ho : ByteArray) (k4 : ho.size ≤ maxLen) (g5 : Nat) (a5 : Option Addr) (c5 : Nat) (pr : List (List UInt8)) (q5 : RdT w g5 a5 pr) (k5 : pr.length ≤ 9223372036854775807) (m5 : ∀ l ∈ pr, l.length ≤ 9223372036854775807) (z5 : pr.length ≤ c5) (g6 : Nat) (a6 : Option Addr) (c6 : Nat) (ti : List Int) (q6 : Rd w g6 a6 .u8 ti) (b6 : Byt ti) (k6 : ti.length ≤ 9223372036854775807)
    (ag : Int) (_ : (Lit.int .i64 ag).wf = true) (ea : Int) (_ : (Lit.int .i64 ea).wf = true) (g9 : Nat) (a9 : Option Addr) (c9 : Nat) (bi : List Int) (q9 : Rd w g9 a9 .u8 bi) (b9 : Byt bi) (k9 : bi.length ≤ 9223372036854775807) (rs : Bool) (g11 : Nat) (a11 : Option Addr) (c11 : Nat) (ce : List (List Int)) (ps : List Plb) (q11 : RdL w g11 a11 ce ps) (b11 : ∀ i, i < ce.length → Byt (ce.getD i [])) (k11 : ce.length ≤ 9223372036854775807) (m11 : ∀ i, i < ce.length → (ce.getD i []).length ≤ 9223372036854775807)
    (g12 : Nat) (a12 : Option Addr) (c12 : Nat) (pf : List Int) (q12 : Rd w g12 a12 .u8 pf) (b12 : Byt pf) (k12 : pf.length ≤ 9223372036854775807) :
    Calls Try.prog 3 #[.agg #[.int .i64 k, .int .i64 v, .slice a2 r.length c2, .slice a3 s.length c3, .string ho, .slice a5 pr.length c5, .slice a6 ti.length c6, .int .i64 ag, .int .i64 ea, .slice a9 bi.length c9, .bool rs, .slice a11 ce.length c11, .slice a12 pf.length c12]] w fun e w' => e = .returned (.bool true) ∧ Below w.heap.size w w' := by
  obtain ⟨⟨h⟩⟩ := ho
  have hh : h.length ≤ 9223372036854775807 := by
    have e : (ByteArray.mk ⟨h⟩).size = h.length := tx_size h
    unfold maxLen at k4
    omega
  exact msgFault_core w ⟨a2, c2, g2, a3, c3, g3, a5, c5, g5, a6, c6, g6, a9, c9, g9, a11, c11, g11, a12, c12, g12, ps⟩ ⟨k, v, r, s, h, pr, ti, ag, ea, bi, rs, ce, pf⟩ ⟨q2, q3, q5, q6, q9, q11, q12, z5⟩ ⟨b2, b3, b6, b9, b12, b11, k2, k3, hh, k5, m5, k6, k9, k11, m11, k12⟩
end Go.Proofs.Ytfckjoheiabfoaa
