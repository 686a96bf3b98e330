import Derived.Test.YtcaljanahpdidaaGreatGV18
import Derived.Test.YtcaljanahpdidaaGreatGVxMhD
import Derived.Test.YtcaljanahpdidaaGreatGVxMhA
import Derived.Test.YtcaljanahpdidaaGreatGVxMhB
import Derived.Test.YtcaljanahpdidaaGreatGV10
import Derived.Test.YtcaljanahpdidaaGreatGV5
namespace Go.Proofs.YtcaljanahpdidaaGreat
open Go Go.RowKit
def extV (k v : Int) (n2 n3 : Nat) (ho : List UInt8) (n5 n6 : Nat) (ag ea : Int) (n9 : Nat) (rs : Bool) (n11 n12 : Nat) : Bool := ex6 (v != 0) (decide ((0 : Int) < (n2 : Int))) (k == 1) (k == 2) (k == 4) || (ex8 (decide ((0 : Int) < (n3 : Int))) (!(ho == [])) (decide ((0 : Int) < (n5 : Int))) (k == 1) (k == 2) (k == 8) || (ex10 (decide ((0 : Int) < (n6 : Int))) (ag != 0) (decide ((0 : Int) < (n9 : Int))) (k == 1) (k == 4) || (ex12 (ea != 0) (k == 1) (k == 4) (k == 8) (k != 24) || ex14 rs (k == 2) (decide ((0 : Int) < (n11 : Int))) (k != 11) (decide ((0 : Int) < (n12 : Int))) (k != 15) (k != 20))))
def sizV (k v : Int) (n2 n3 n6 : Nat) (ag ea : Int) (n9 n12 : Nat) : Bool := !si2 (decide (v < 0)) (decide (255 < v)) && (!si4 (k == 1) (k == 2) (k == 4) ((n2 : Int) != 32) && (!si6 (k == 1) (k == 2) ((n3 : Int) != 32) && (!si8 (k == 15) ((n12 : Int) != 64) (k == 20) ((n12 : Int) != 32) && siR (k == 1) (decide ((0 : Int) < (n6 : Int))) ((n9 : Int) == 32) ((n9 : Int) == 0) (ag == 0) (ea == 0))))
def spM (m : Msg) : Int := spV (decide (m.k ∈ kinds)) (extV m.k m.v m.r.length m.s.length m.ho m.pr.length m.ti.length m.ag m.ea m.bi.length m.rs m.ce.length m.pf.length) (sizV m.k m.v m.r.length m.s.length m.ti.length m.ag m.ea m.bi.length m.pf.length) (nameF m.ho) (prB m.pr 8) (prB m.pr 1) m.k m.ag m.ea m.ti.length m.ce.length (ctA m.ce)
theorem prB_nil (n : Nat) : prB [] n = true := by simp [prB]
theorem ctA_nil : ctA [] = false := rfl
set_option linter.unusedSimpArgs false in
set_option maxHeartbeats 2000000 in
theorem mf_hello (m : Msg) (hk : m.k = 1) : mfF m = spM m := by
  obtain ⟨k, v, r, s, ho, pr, ti, ag, ea, bi, rs, ce, pf⟩ := m
  simp only at hk
  subst hk
  cases rs
  rotate_left
  · simp [mfF, kfF, sameM, msg0, spM, spV, extV, ex6, ex8, ex10, ex12, ex14, kinds, helloM]
  cases ce with
  | cons _ _ => simp [mfF, kfF, sameM, msg0, spM, spV, extV, ex6, ex8, ex10, ex12, ex14, kinds, helloM]
  | nil =>
    cases pf with
    | cons _ _ => simp [mfF, kfF, sameM, msg0, spM, spV, extV, ex6, ex8, ex10, ex12, ex14, kinds, helloM]
    | nil =>
      by_cases h1 : v < 0
      · simp [mfF, kfF, sameM, msg0, spM, spV, extV, ex6, ex8, ex10, ex12, ex14, kinds, helloM, si2, si4, si6, si8, siR, sizV, spT, prB_nil, ctA_nil, heF, fpB, bdB, ageB, flgB, h1]
      by_cases h2 : 255 < v
      · simp [mfF, kfF, sameM, msg0, spM, spV, extV, ex6, ex8, ex10, ex12, ex14, kinds, helloM, si2, si4, si6, si8, siR, sizV, spT, prB_nil, ctA_nil, heF, fpB, bdB, ageB, flgB, h1, h2]
      by_cases h3 : r.length = 32
      rotate_left
      · have h3' : ¬ (r.length : Int) = 32 := by omega
        simp [mfF, kfF, sameM, msg0, spM, spV, extV, ex6, ex8, ex10, ex12, ex14, kinds, helloM, si2, si4, si6, si8, siR, sizV, spT, prB_nil, ctA_nil, heF, fpB, bdB, ageB, flgB, h1, h2, h3, h3']
      have h3' : (r.length : Int) = 32 := by omega
      by_cases h4 : s.length = 32
      rotate_left
      · have h4' : ¬ (s.length : Int) = 32 := by omega
        simp [mfF, kfF, sameM, msg0, spM, spV, extV, ex6, ex8, ex10, ex12, ex14, kinds, helloM, si2, si4, si6, si8, siR, sizV, spT, prB_nil, ctA_nil, heF, fpB, bdB, ageB, flgB, h1, h2, h3, h3', h4, h4']
      have h4' : (s.length : Int) = 32 := by omega
      by_cases h5 : ti.length = 0
      · have h5' : ¬ 0 < ti.length := by omega
        have h5'' : ¬ 400 < ti.length := by omega
        by_cases h6 : bi.length = 0
        rotate_left
        · have h6' : ¬ (bi.length : Int) = 0 := by omega
          simp [mfF, kfF, sameM, msg0, spM, spV, extV, ex6, ex8, ex10, ex12, ex14, kinds, helloM, si2, si4, si6, si8, siR, sizV, spT, prB_nil, ctA_nil, heF, fpB, bdB, ageB, flgB, h1, h2, h3, h3', h4, h4', h5, h5', h6, h6']
        have h6' : (bi.length : Int) = 0 := by omega
        by_cases h7 : ag = 0
        rotate_left
        · simp [mfF, kfF, sameM, msg0, spM, spV, extV, ex6, ex8, ex10, ex12, ex14, kinds, helloM, si2, si4, si6, si8, siR, sizV, spT, prB_nil, ctA_nil, heF, fpB, bdB, ageB, flgB, h1, h2, h3, h3', h4, h4', h5, h5', h6, h6', h7]
        by_cases h8 : ea = 0
        rotate_left
        · simp [mfF, kfF, sameM, msg0, spM, spV, extV, ex6, ex8, ex10, ex12, ex14, kinds, helloM, si2, si4, si6, si8, siR, sizV, spT, prB_nil, ctA_nil, heF, fpB, bdB, ageB, flgB, h1, h2, h3, h3', h4, h4', h5, h5', h6, h6', h7, h8]
        subst h7
        subst h8
        by_cases h9 : nameF ho = 0
        rotate_left
        · simp [mfF, kfF, sameM, msg0, spM, spV, extV, ex6, ex8, ex10, ex12, ex14, kinds, helloM, si2, si4, si6, si8, siR, sizV, spT, prB_nil, ctA_nil, heF, fpB, bdB, ageB, flgB, h1, h2, h3, h3', h4, h4', h5, h5', h6, h6', h9]
        cases hp : prB pr 8 with
        | false => simp [mfF, kfF, sameM, msg0, spM, spV, extV, ex6, ex8, ex10, ex12, ex14, kinds, helloM, si2, si4, si6, si8, siR, sizV, spT, prB_nil, ctA_nil, heF, fpB, bdB, ageB, flgB, h1, h2, h3, h3', h4, h4', h5, h5', h6, h6', h9, hp]
        | true => simp [mfF, kfF, sameM, msg0, spM, spV, extV, ex6, ex8, ex10, ex12, ex14, kinds, helloM, si2, si4, si6, si8, siR, sizV, spT, prB_nil, ctA_nil, heF, fpB, bdB, ageB, flgB, h1, h2, h3, h3', h4, h4', h5, h5', h5'', h6, h6', h9, hp]
      have h5' : 0 < ti.length := by omega
      by_cases h6 : bi.length = 32
      rotate_left
      · have h6' : ¬ (bi.length : Int) = 32 := by omega
        simp [mfF, kfF, sameM, msg0, spM, spV, extV, ex6, ex8, ex10, ex12, ex14, kinds, helloM, si2, si4, si6, si8, siR, sizV, spT, prB_nil, ctA_nil, heF, fpB, bdB, ageB, flgB, h1, h2, h3, h3', h4, h4', h5, h5', h6, h6']
      have h6' : (bi.length : Int) = 32 := by omega
      by_cases h9 : nameF ho = 0
      rotate_left
      · simp [mfF, kfF, sameM, msg0, spM, spV, extV, ex6, ex8, ex10, ex12, ex14, kinds, helloM, si2, si4, si6, si8, siR, sizV, spT, prB_nil, ctA_nil, heF, fpB, bdB, ageB, flgB, h1, h2, h3, h3', h4, h4', h5, h5', h6, h6', h9]
      cases hp : prB pr 8 with
      | false => simp [mfF, kfF, sameM, msg0, spM, spV, extV, ex6, ex8, ex10, ex12, ex14, kinds, helloM, si2, si4, si6, si8, siR, sizV, spT, prB_nil, ctA_nil, heF, fpB, bdB, ageB, flgB, h1, h2, h3, h3', h4, h4', h5, h5', h6, h6', h9, hp]
      | true =>
        by_cases ha : 400 < ti.length
        · simp [mfF, kfF, sameM, msg0, spM, spV, extV, ex6, ex8, ex10, ex12, ex14, kinds, helloM, si2, si4, si6, si8, siR, sizV, spT, prB_nil, ctA_nil, heF, fpB, bdB, ageB, flgB, h1, h2, h3, h3', h4, h4', h5, h5', h6, h6', h9, hp, ha]
        by_cases hb : 0 ≤ ag
        rotate_left
        · have hb' : ag < 0 := by omega
          simp [mfF, kfF, sameM, msg0, spM, spV, extV, ex6, ex8, ex10, ex12, ex14, kinds, helloM, si2, si4, si6, si8, siR, sizV, spT, prB_nil, ctA_nil, heF, fpB, bdB, ageB, flgB, h1, h2, h3, h3', h4, h4', h5, h5', h6, h6', h9, hp, ha, hb, hb']
        have hb' : ¬ ag < 0 := by omega
        by_cases hc : ag ≤ 4294967295
        rotate_left
        · have hc' : 4294967295 < ag := by omega
          simp [mfF, kfF, sameM, msg0, spM, spV, extV, ex6, ex8, ex10, ex12, ex14, kinds, helloM, si2, si4, si6, si8, siR, sizV, spT, prB_nil, ctA_nil, heF, fpB, bdB, ageB, flgB, h1, h2, h3, h3', h4, h4', h5, h5', h6, h6', h9, hp, ha, hb, hb', hc, hc']
        have hc' : ¬ 4294967295 < ag := by omega
        by_cases he : ea = 0
        · subst he
          simp [mfF, kfF, sameM, msg0, spM, spV, extV, ex6, ex8, ex10, ex12, ex14, kinds, helloM, si2, si4, si6, si8, siR, sizV, spT, prB_nil, ctA_nil, heF, fpB, bdB, ageB, flgB, h1, h2, h3, h3', h4, h4', h5, h5', h6, h6', h9, hp, ha, hb, hb', hc, hc']
        by_cases hf : ea = 1
        · subst hf
          simp [mfF, kfF, sameM, msg0, spM, spV, extV, ex6, ex8, ex10, ex12, ex14, kinds, helloM, si2, si4, si6, si8, siR, sizV, spT, prB_nil, ctA_nil, heF, fpB, bdB, ageB, flgB, h1, h2, h3, h3', h4, h4', h5, h5', h6, h6', h9, hp, ha, hb, hb', hc, hc']
        have hg : ea < 0 ∨ 1 < ea := by omega
        simp [mfF, kfF, sameM, msg0, spM, spV, extV, ex6, ex8, ex10, ex12, ex14, kinds, helloM, si2, si4, si6, si8, siR, sizV, spT, prB_nil, ctA_nil, heF, fpB, bdB, ageB, flgB, h1, h2, h3, h3', h4, h4', h5, h5', h6, h6', h9, hp, ha, hb, hb', hc, hc', he, hf, hg]
set_option linter.unusedSimpArgs false in
set_option maxHeartbeats 2000000 in
theorem mf_answer (m : Msg) (hk : m.k = 2) : mfF m = spM m := by
  obtain ⟨k, v, r, s, ho, pr, ti, ag, ea, bi, rs, ce, pf⟩ := m
  simp only at hk
  subst hk
  cases ho with
  | cons _ _ => simp [mfF, kfF, sameM, msg0, spM, spV, extV, ex6, ex8, ex10, ex12, ex14, kinds, answerM]
  | nil =>
    cases pr with
    | cons _ _ => simp [mfF, kfF, sameM, msg0, spM, spV, extV, ex6, ex8, ex10, ex12, ex14, kinds, answerM]
    | nil =>
      cases ti with
      | cons _ _ => simp [mfF, kfF, sameM, msg0, spM, spV, extV, ex6, ex8, ex10, ex12, ex14, kinds, answerM]
      | nil =>
        by_cases h_ag : ag = 0
        rotate_left
        · have g_ag : ¬ 0 = ag := fun h => h_ag h.symm
          simp [mfF, kfF, sameM, msg0, spM, spV, extV, ex6, ex8, ex10, ex12, ex14, kinds, answerM, h_ag, g_ag]
        subst h_ag
        by_cases h_ea : ea = 0
        rotate_left
        · have g_ea : ¬ 0 = ea := fun h => h_ea h.symm
          simp [mfF, kfF, sameM, msg0, spM, spV, extV, ex6, ex8, ex10, ex12, ex14, kinds, answerM, h_ea, g_ea]
        subst h_ea
        cases bi with
        | cons _ _ => simp [mfF, kfF, sameM, msg0, spM, spV, extV, ex6, ex8, ex10, ex12, ex14, kinds, answerM]
        | nil =>
          cases ce with
          | cons _ _ => simp [mfF, kfF, sameM, msg0, spM, spV, extV, ex6, ex8, ex10, ex12, ex14, kinds, answerM]
          | nil =>
            cases pf with
            | cons _ _ => simp [mfF, kfF, sameM, msg0, spM, spV, extV, ex6, ex8, ex10, ex12, ex14, kinds, answerM]
            | nil =>
              by_cases h1 : v < 0
              · simp [mfF, kfF, sameM, msg0, spM, spV, extV, ex6, ex8, ex10, ex12, ex14, kinds, answerM, si2, si4, si6, si8, siR, sizV, spT, prB_nil, ctA_nil, fpF, fpB, h1]
              by_cases h2 : 255 < v
              · simp [mfF, kfF, sameM, msg0, spM, spV, extV, ex6, ex8, ex10, ex12, ex14, kinds, answerM, si2, si4, si6, si8, siR, sizV, spT, prB_nil, ctA_nil, fpF, fpB, h1, h2]
              by_cases h3 : r.length = 32
              rotate_left
              · have h3_0 : ¬ (r.length : Int) = 32 := by omega
                simp [mfF, kfF, sameM, msg0, spM, spV, extV, ex6, ex8, ex10, ex12, ex14, kinds, answerM, si2, si4, si6, si8, siR, sizV, spT, prB_nil, ctA_nil, fpF, fpB, h1, h2, h3, h3_0]
              have h3_0 : (r.length : Int) = 32 := by omega
              by_cases h4 : s.length = 32
              rotate_left
              · have h4_0 : ¬ (s.length : Int) = 32 := by omega
                simp [mfF, kfF, sameM, msg0, spM, spV, extV, ex6, ex8, ex10, ex12, ex14, kinds, answerM, si2, si4, si6, si8, siR, sizV, spT, prB_nil, ctA_nil, fpF, fpB, h1, h2, h3, h3_0, h4, h4_0]
              have h4_0 : (s.length : Int) = 32 := by omega
              simp [mfF, kfF, sameM, msg0, spM, spV, extV, ex6, ex8, ex10, ex12, ex14, kinds, answerM, si2, si4, si6, si8, siR, sizV, spT, prB_nil, ctA_nil, fpF, fpB, h1, h2, h3, h3_0, h4, h4_0]
set_option linter.unusedSimpArgs false in
set_option maxHeartbeats 2000000 in
theorem mf_ticket (m : Msg) (hk : m.k = 4) : mfF m = spM m := by
  obtain ⟨k, v, r, s, ho, pr, ti, ag, ea, bi, rs, ce, pf⟩ := m
  simp only at hk
  subst hk
  by_cases h_v : v = 0
  rotate_left
  · have g_v : ¬ 0 = v := fun h => h_v h.symm
    simp [mfF, kfF, sameM, msg0, spM, spV, extV, ex6, ex8, ex10, ex12, ex14, kinds, ticketM, h_v, g_v]
  subst h_v
  cases s with
  | cons _ _ => simp [mfF, kfF, sameM, msg0, spM, spV, extV, ex6, ex8, ex10, ex12, ex14, kinds, ticketM]
  | nil =>
    cases ho with
    | cons _ _ => simp [mfF, kfF, sameM, msg0, spM, spV, extV, ex6, ex8, ex10, ex12, ex14, kinds, ticketM]
    | nil =>
      cases pr with
      | cons _ _ => simp [mfF, kfF, sameM, msg0, spM, spV, extV, ex6, ex8, ex10, ex12, ex14, kinds, ticketM]
      | nil =>
        cases bi with
        | cons _ _ => simp [mfF, kfF, sameM, msg0, spM, spV, extV, ex6, ex8, ex10, ex12, ex14, kinds, ticketM]
        | nil =>
          cases rs
          rotate_left
          · simp [mfF, kfF, sameM, msg0, spM, spV, extV, ex6, ex8, ex10, ex12, ex14, kinds, ticketM]
          cases ce with
          | cons _ _ => simp [mfF, kfF, sameM, msg0, spM, spV, extV, ex6, ex8, ex10, ex12, ex14, kinds, ticketM]
          | nil =>
            cases pf with
            | cons _ _ => simp [mfF, kfF, sameM, msg0, spM, spV, extV, ex6, ex8, ex10, ex12, ex14, kinds, ticketM]
            | nil =>
              by_cases h3 : r.length = 32
              rotate_left
              · have h3_0 : ¬ (r.length : Int) = 32 := by omega
                simp [mfF, kfF, sameM, msg0, spM, spV, extV, ex6, ex8, ex10, ex12, ex14, kinds, ticketM, si2, si4, si6, si8, siR, sizV, spT, prB_nil, ctA_nil, tiF, ageB, h3, h3_0]
              have h3_0 : (r.length : Int) = 32 := by omega
              by_cases h5 : ti.length = 0
              · simp [mfF, kfF, sameM, msg0, spM, spV, extV, ex6, ex8, ex10, ex12, ex14, kinds, ticketM, si2, si4, si6, si8, siR, sizV, spT, prB_nil, ctA_nil, tiF, ageB, h3, h3_0, h5]
              by_cases h6 : 400 < ti.length
              · simp [mfF, kfF, sameM, msg0, spM, spV, extV, ex6, ex8, ex10, ex12, ex14, kinds, ticketM, si2, si4, si6, si8, siR, sizV, spT, prB_nil, ctA_nil, tiF, ageB, h3, h3_0, h5, h6]
              by_cases h7 : 0 ≤ ag
              rotate_left
              · simp [mfF, kfF, sameM, msg0, spM, spV, extV, ex6, ex8, ex10, ex12, ex14, kinds, ticketM, si2, si4, si6, si8, siR, sizV, spT, prB_nil, ctA_nil, tiF, ageB, h3, h3_0, h5, h6, h7]
              by_cases h8 : ag ≤ 4294967295
              rotate_left
              · simp [mfF, kfF, sameM, msg0, spM, spV, extV, ex6, ex8, ex10, ex12, ex14, kinds, ticketM, si2, si4, si6, si8, siR, sizV, spT, prB_nil, ctA_nil, tiF, ageB, h3, h3_0, h5, h6, h7, h8]
              by_cases h9 : 0 ≤ ea
              rotate_left
              · simp [mfF, kfF, sameM, msg0, spM, spV, extV, ex6, ex8, ex10, ex12, ex14, kinds, ticketM, si2, si4, si6, si8, siR, sizV, spT, prB_nil, ctA_nil, tiF, ageB, h3, h3_0, h5, h6, h7, h8, h9]
              by_cases ha : ea ≤ 4294967295
              rotate_left
              · simp [mfF, kfF, sameM, msg0, spM, spV, extV, ex6, ex8, ex10, ex12, ex14, kinds, ticketM, si2, si4, si6, si8, siR, sizV, spT, prB_nil, ctA_nil, tiF, ageB, h3, h3_0, h5, h6, h7, h8, h9, ha]
              simp [mfF, kfF, sameM, msg0, spM, spV, extV, ex6, ex8, ex10, ex12, ex14, kinds, ticketM, si2, si4, si6, si8, siR, sizV, spT, prB_nil, ctA_nil, tiF, ageB, h3, h3_0, h5, h6, h7, h8, h9, ha]
set_option linter.unusedSimpArgs false in
set_option maxHeartbeats 2000000 in
theorem mf_end (m : Msg) (hk : m.k = 5) : mfF m = spM m := by
  obtain ⟨k, v, r, s, ho, pr, ti, ag, ea, bi, rs, ce, pf⟩ := m
  simp only at hk
  subst hk
  by_cases h_v : v = 0
  rotate_left
  · have g_v : ¬ 0 = v := fun h => h_v h.symm
    simp [mfF, kfF, sameM, msg0, spM, spV, extV, ex6, ex8, ex10, ex12, ex14, kinds, endM, h_v, g_v]
  subst h_v
  cases r with
  | cons _ _ => simp [mfF, kfF, sameM, msg0, spM, spV, extV, ex6, ex8, ex10, ex12, ex14, kinds, endM]
  | nil =>
    cases s with
    | cons _ _ => simp [mfF, kfF, sameM, msg0, spM, spV, extV, ex6, ex8, ex10, ex12, ex14, kinds, endM]
    | nil =>
      cases ho with
      | cons _ _ => simp [mfF, kfF, sameM, msg0, spM, spV, extV, ex6, ex8, ex10, ex12, ex14, kinds, endM]
      | nil =>
        cases pr with
        | cons _ _ => simp [mfF, kfF, sameM, msg0, spM, spV, extV, ex6, ex8, ex10, ex12, ex14, kinds, endM]
        | nil =>
          cases ti with
          | cons _ _ => simp [mfF, kfF, sameM, msg0, spM, spV, extV, ex6, ex8, ex10, ex12, ex14, kinds, endM]
          | nil =>
            by_cases h_ag : ag = 0
            rotate_left
            · have g_ag : ¬ 0 = ag := fun h => h_ag h.symm
              simp [mfF, kfF, sameM, msg0, spM, spV, extV, ex6, ex8, ex10, ex12, ex14, kinds, endM, h_ag, g_ag]
            subst h_ag
            by_cases h_ea : ea = 0
            rotate_left
            · have g_ea : ¬ 0 = ea := fun h => h_ea h.symm
              simp [mfF, kfF, sameM, msg0, spM, spV, extV, ex6, ex8, ex10, ex12, ex14, kinds, endM, h_ea, g_ea]
            subst h_ea
            cases bi with
            | cons _ _ => simp [mfF, kfF, sameM, msg0, spM, spV, extV, ex6, ex8, ex10, ex12, ex14, kinds, endM]
            | nil =>
              cases rs
              rotate_left
              · simp [mfF, kfF, sameM, msg0, spM, spV, extV, ex6, ex8, ex10, ex12, ex14, kinds, endM]
              cases ce with
              | cons _ _ => simp [mfF, kfF, sameM, msg0, spM, spV, extV, ex6, ex8, ex10, ex12, ex14, kinds, endM]
              | nil =>
                cases pf with
                | cons _ _ => simp [mfF, kfF, sameM, msg0, spM, spV, extV, ex6, ex8, ex10, ex12, ex14, kinds, endM]
                | nil =>
                  simp [mfF, kfF, sameM, msg0, spM, spV, extV, ex6, ex8, ex10, ex12, ex14, kinds, endM, si2, si4, si6, si8, siR, sizV, spT, prB_nil, ctA_nil]
set_option linter.unusedSimpArgs false in
set_option maxHeartbeats 2000000 in
theorem mf_extras (m : Msg) (hk : m.k = 8) : mfF m = spM m := by
  obtain ⟨k, v, r, s, ho, pr, ti, ag, ea, bi, rs, ce, pf⟩ := m
  simp only at hk
  subst hk
  by_cases h_v : v = 0
  rotate_left
  · have g_v : ¬ 0 = v := fun h => h_v h.symm
    simp [mfF, kfF, sameM, msg0, spM, spV, extV, ex6, ex8, ex10, ex12, ex14, kinds, extrasM, h_v, g_v]
  subst h_v
  cases r with
  | cons _ _ => simp [mfF, kfF, sameM, msg0, spM, spV, extV, ex6, ex8, ex10, ex12, ex14, kinds, extrasM]
  | nil =>
    cases s with
    | cons _ _ => simp [mfF, kfF, sameM, msg0, spM, spV, extV, ex6, ex8, ex10, ex12, ex14, kinds, extrasM]
    | nil =>
      cases ho with
      | cons _ _ => simp [mfF, kfF, sameM, msg0, spM, spV, extV, ex6, ex8, ex10, ex12, ex14, kinds, extrasM]
      | nil =>
        cases ti with
        | cons _ _ => simp [mfF, kfF, sameM, msg0, spM, spV, extV, ex6, ex8, ex10, ex12, ex14, kinds, extrasM]
        | nil =>
          by_cases h_ag : ag = 0
          rotate_left
          · have g_ag : ¬ 0 = ag := fun h => h_ag h.symm
            simp [mfF, kfF, sameM, msg0, spM, spV, extV, ex6, ex8, ex10, ex12, ex14, kinds, extrasM, h_ag, g_ag]
          subst h_ag
          cases bi with
          | cons _ _ => simp [mfF, kfF, sameM, msg0, spM, spV, extV, ex6, ex8, ex10, ex12, ex14, kinds, extrasM]
          | nil =>
            cases rs
            rotate_left
            · simp [mfF, kfF, sameM, msg0, spM, spV, extV, ex6, ex8, ex10, ex12, ex14, kinds, extrasM]
            cases ce with
            | cons _ _ => simp [mfF, kfF, sameM, msg0, spM, spV, extV, ex6, ex8, ex10, ex12, ex14, kinds, extrasM]
            | nil =>
              cases pf with
              | cons _ _ => simp [mfF, kfF, sameM, msg0, spM, spV, extV, ex6, ex8, ex10, ex12, ex14, kinds, extrasM]
              | nil =>
                cases hp : prB pr 1 with
                | false => simp [mfF, kfF, sameM, msg0, spM, spV, extV, ex6, ex8, ex10, ex12, ex14, kinds, extrasM, si2, si4, si6, si8, siR, sizV, spT, prB_nil, ctA_nil, exF, flgB, hp]
                | true =>
                  by_cases h1 : ea = 0
                  · subst h1
                    simp [mfF, kfF, sameM, msg0, spM, spV, extV, ex6, ex8, ex10, ex12, ex14, kinds, extrasM, si2, si4, si6, si8, siR, sizV, spT, prB_nil, ctA_nil, exF, flgB, hp]
                  by_cases h2 : ea = 1
                  · subst h2
                    simp [mfF, kfF, sameM, msg0, spM, spV, extV, ex6, ex8, ex10, ex12, ex14, kinds, extrasM, si2, si4, si6, si8, siR, sizV, spT, prB_nil, ctA_nil, exF, flgB, hp]
                  have h3 : ea < 0 ∨ 1 < ea := by omega
                  simp [mfF, kfF, sameM, msg0, spM, spV, extV, ex6, ex8, ex10, ex12, ex14, kinds, extrasM, si2, si4, si6, si8, siR, sizV, spT, prB_nil, ctA_nil, exF, flgB, hp, h1, h2, h3]
set_option linter.unusedSimpArgs false in
set_option maxHeartbeats 2000000 in
theorem mf_certs (m : Msg) (hk : m.k = 11) : mfF m = spM m := by
  obtain ⟨k, v, r, s, ho, pr, ti, ag, ea, bi, rs, ce, pf⟩ := m
  simp only at hk
  subst hk
  by_cases h_v : v = 0
  rotate_left
  · have g_v : ¬ 0 = v := fun h => h_v h.symm
    simp [mfF, kfF, sameM, msg0, spM, spV, extV, ex6, ex8, ex10, ex12, ex14, kinds, certsM, h_v, g_v]
  subst h_v
  cases r with
  | cons _ _ => simp [mfF, kfF, sameM, msg0, spM, spV, extV, ex6, ex8, ex10, ex12, ex14, kinds, certsM]
  | nil =>
    cases s with
    | cons _ _ => simp [mfF, kfF, sameM, msg0, spM, spV, extV, ex6, ex8, ex10, ex12, ex14, kinds, certsM]
    | nil =>
      cases ho with
      | cons _ _ => simp [mfF, kfF, sameM, msg0, spM, spV, extV, ex6, ex8, ex10, ex12, ex14, kinds, certsM]
      | nil =>
        cases pr with
        | cons _ _ => simp [mfF, kfF, sameM, msg0, spM, spV, extV, ex6, ex8, ex10, ex12, ex14, kinds, certsM]
        | nil =>
          cases ti with
          | cons _ _ => simp [mfF, kfF, sameM, msg0, spM, spV, extV, ex6, ex8, ex10, ex12, ex14, kinds, certsM]
          | nil =>
            by_cases h_ag : ag = 0
            rotate_left
            · have g_ag : ¬ 0 = ag := fun h => h_ag h.symm
              simp [mfF, kfF, sameM, msg0, spM, spV, extV, ex6, ex8, ex10, ex12, ex14, kinds, certsM, h_ag, g_ag]
            subst h_ag
            by_cases h_ea : ea = 0
            rotate_left
            · have g_ea : ¬ 0 = ea := fun h => h_ea h.symm
              simp [mfF, kfF, sameM, msg0, spM, spV, extV, ex6, ex8, ex10, ex12, ex14, kinds, certsM, h_ea, g_ea]
            subst h_ea
            cases bi with
            | cons _ _ => simp [mfF, kfF, sameM, msg0, spM, spV, extV, ex6, ex8, ex10, ex12, ex14, kinds, certsM]
            | nil =>
              cases rs
              rotate_left
              · simp [mfF, kfF, sameM, msg0, spM, spV, extV, ex6, ex8, ex10, ex12, ex14, kinds, certsM]
              cases pf with
              | cons _ _ => simp [mfF, kfF, sameM, msg0, spM, spV, extV, ex6, ex8, ex10, ex12, ex14, kinds, certsM]
              | nil =>
                by_cases h1 : ce.length = 0
                · simp [mfF, kfF, sameM, msg0, spM, spV, extV, ex6, ex8, ex10, ex12, ex14, kinds, certsM, si2, si4, si6, si8, siR, sizV, spT, prB_nil, ctA_nil, ceF, h1]
                by_cases h2 : 4 < ce.length
                · simp [mfF, kfF, sameM, msg0, spM, spV, extV, ex6, ex8, ex10, ex12, ex14, kinds, certsM, si2, si4, si6, si8, siR, sizV, spT, prB_nil, ctA_nil, ceF, h1, h2]
                cases hc : ctA ce with
                | false => simp [mfF, kfF, sameM, msg0, spM, spV, extV, ex6, ex8, ex10, ex12, ex14, kinds, certsM, si2, si4, si6, si8, siR, sizV, spT, prB_nil, ctA_nil, ceF, h1, h2, hc]
                | true => simp [mfF, kfF, sameM, msg0, spM, spV, extV, ex6, ex8, ex10, ex12, ex14, kinds, certsM, si2, si4, si6, si8, siR, sizV, spT, prB_nil, ctA_nil, ceF, h1, h2, hc]
set_option linter.unusedSimpArgs false in
set_option maxHeartbeats 2000000 in
theorem mf_proof (m : Msg) (hk : m.k = 15) : mfF m = spM m := by
  obtain ⟨k, v, r, s, ho, pr, ti, ag, ea, bi, rs, ce, pf⟩ := m
  simp only at hk
  subst hk
  by_cases h_v : v = 0
  rotate_left
  · have g_v : ¬ 0 = v := fun h => h_v h.symm
    simp [mfF, kfF, sameM, msg0, spM, spV, extV, ex6, ex8, ex10, ex12, ex14, kinds, proofM, h_v, g_v]
  subst h_v
  cases r with
  | cons _ _ => simp [mfF, kfF, sameM, msg0, spM, spV, extV, ex6, ex8, ex10, ex12, ex14, kinds, proofM]
  | nil =>
    cases s with
    | cons _ _ => simp [mfF, kfF, sameM, msg0, spM, spV, extV, ex6, ex8, ex10, ex12, ex14, kinds, proofM]
    | nil =>
      cases ho with
      | cons _ _ => simp [mfF, kfF, sameM, msg0, spM, spV, extV, ex6, ex8, ex10, ex12, ex14, kinds, proofM]
      | nil =>
        cases pr with
        | cons _ _ => simp [mfF, kfF, sameM, msg0, spM, spV, extV, ex6, ex8, ex10, ex12, ex14, kinds, proofM]
        | nil =>
          cases ti with
          | cons _ _ => simp [mfF, kfF, sameM, msg0, spM, spV, extV, ex6, ex8, ex10, ex12, ex14, kinds, proofM]
          | nil =>
            by_cases h_ag : ag = 0
            rotate_left
            · have g_ag : ¬ 0 = ag := fun h => h_ag h.symm
              simp [mfF, kfF, sameM, msg0, spM, spV, extV, ex6, ex8, ex10, ex12, ex14, kinds, proofM, h_ag, g_ag]
            subst h_ag
            by_cases h_ea : ea = 0
            rotate_left
            · have g_ea : ¬ 0 = ea := fun h => h_ea h.symm
              simp [mfF, kfF, sameM, msg0, spM, spV, extV, ex6, ex8, ex10, ex12, ex14, kinds, proofM, h_ea, g_ea]
            subst h_ea
            cases bi with
            | cons _ _ => simp [mfF, kfF, sameM, msg0, spM, spV, extV, ex6, ex8, ex10, ex12, ex14, kinds, proofM]
            | nil =>
              cases rs
              rotate_left
              · simp [mfF, kfF, sameM, msg0, spM, spV, extV, ex6, ex8, ex10, ex12, ex14, kinds, proofM]
              cases ce with
              | cons _ _ => simp [mfF, kfF, sameM, msg0, spM, spV, extV, ex6, ex8, ex10, ex12, ex14, kinds, proofM]
              | nil =>
                by_cases h1 : pf.length = 64
                rotate_left
                · have h1_0 : ¬ (pf.length : Int) = 64 := by omega
                  simp [mfF, kfF, sameM, msg0, spM, spV, extV, ex6, ex8, ex10, ex12, ex14, kinds, proofM, si2, si4, si6, si8, siR, sizV, spT, prB_nil, ctA_nil, pfF, h1, h1_0]
                have h1_0 : (pf.length : Int) = 64 := by omega
                simp [mfF, kfF, sameM, msg0, spM, spV, extV, ex6, ex8, ex10, ex12, ex14, kinds, proofM, si2, si4, si6, si8, siR, sizV, spT, prB_nil, ctA_nil, pfF, h1, h1_0]
set_option linter.unusedSimpArgs false in
set_option maxHeartbeats 2000000 in
theorem mf_finished (m : Msg) (hk : m.k = 20) : mfF m = spM m := by
  obtain ⟨k, v, r, s, ho, pr, ti, ag, ea, bi, rs, ce, pf⟩ := m
  simp only at hk
  subst hk
  by_cases h_v : v = 0
  rotate_left
  · have g_v : ¬ 0 = v := fun h => h_v h.symm
    simp [mfF, kfF, sameM, msg0, spM, spV, extV, ex6, ex8, ex10, ex12, ex14, kinds, finishedM, h_v, g_v]
  subst h_v
  cases r with
  | cons _ _ => simp [mfF, kfF, sameM, msg0, spM, spV, extV, ex6, ex8, ex10, ex12, ex14, kinds, finishedM]
  | nil =>
    cases s with
    | cons _ _ => simp [mfF, kfF, sameM, msg0, spM, spV, extV, ex6, ex8, ex10, ex12, ex14, kinds, finishedM]
    | nil =>
      cases ho with
      | cons _ _ => simp [mfF, kfF, sameM, msg0, spM, spV, extV, ex6, ex8, ex10, ex12, ex14, kinds, finishedM]
      | nil =>
        cases pr with
        | cons _ _ => simp [mfF, kfF, sameM, msg0, spM, spV, extV, ex6, ex8, ex10, ex12, ex14, kinds, finishedM]
        | nil =>
          cases ti with
          | cons _ _ => simp [mfF, kfF, sameM, msg0, spM, spV, extV, ex6, ex8, ex10, ex12, ex14, kinds, finishedM]
          | nil =>
            by_cases h_ag : ag = 0
            rotate_left
            · have g_ag : ¬ 0 = ag := fun h => h_ag h.symm
              simp [mfF, kfF, sameM, msg0, spM, spV, extV, ex6, ex8, ex10, ex12, ex14, kinds, finishedM, h_ag, g_ag]
            subst h_ag
            by_cases h_ea : ea = 0
            rotate_left
            · have g_ea : ¬ 0 = ea := fun h => h_ea h.symm
              simp [mfF, kfF, sameM, msg0, spM, spV, extV, ex6, ex8, ex10, ex12, ex14, kinds, finishedM, h_ea, g_ea]
            subst h_ea
            cases bi with
            | cons _ _ => simp [mfF, kfF, sameM, msg0, spM, spV, extV, ex6, ex8, ex10, ex12, ex14, kinds, finishedM]
            | nil =>
              cases rs
              rotate_left
              · simp [mfF, kfF, sameM, msg0, spM, spV, extV, ex6, ex8, ex10, ex12, ex14, kinds, finishedM]
              cases ce with
              | cons _ _ => simp [mfF, kfF, sameM, msg0, spM, spV, extV, ex6, ex8, ex10, ex12, ex14, kinds, finishedM]
              | nil =>
                by_cases h1 : pf.length = 32
                rotate_left
                · have h1_0 : ¬ (pf.length : Int) = 32 := by omega
                  simp [mfF, kfF, sameM, msg0, spM, spV, extV, ex6, ex8, ex10, ex12, ex14, kinds, finishedM, si2, si4, si6, si8, siR, sizV, spT, prB_nil, ctA_nil, pfF, h1, h1_0]
                have h1_0 : (pf.length : Int) = 32 := by omega
                simp [mfF, kfF, sameM, msg0, spM, spV, extV, ex6, ex8, ex10, ex12, ex14, kinds, finishedM, si2, si4, si6, si8, siR, sizV, spT, prB_nil, ctA_nil, pfF, h1, h1_0]
set_option linter.unusedSimpArgs false in
set_option maxHeartbeats 2000000 in
theorem mf_update (m : Msg) (hk : m.k = 24) : mfF m = spM m := by
  obtain ⟨k, v, r, s, ho, pr, ti, ag, ea, bi, rs, ce, pf⟩ := m
  simp only at hk
  subst hk
  by_cases h_v : v = 0
  rotate_left
  · have g_v : ¬ 0 = v := fun h => h_v h.symm
    simp [mfF, kfF, sameM, msg0, spM, spV, extV, ex6, ex8, ex10, ex12, ex14, kinds, updateM, h_v, g_v]
  subst h_v
  cases r with
  | cons _ _ => simp [mfF, kfF, sameM, msg0, spM, spV, extV, ex6, ex8, ex10, ex12, ex14, kinds, updateM]
  | nil =>
    cases s with
    | cons _ _ => simp [mfF, kfF, sameM, msg0, spM, spV, extV, ex6, ex8, ex10, ex12, ex14, kinds, updateM]
    | nil =>
      cases ho with
      | cons _ _ => simp [mfF, kfF, sameM, msg0, spM, spV, extV, ex6, ex8, ex10, ex12, ex14, kinds, updateM]
      | nil =>
        cases pr with
        | cons _ _ => simp [mfF, kfF, sameM, msg0, spM, spV, extV, ex6, ex8, ex10, ex12, ex14, kinds, updateM]
        | nil =>
          cases ti with
          | cons _ _ => simp [mfF, kfF, sameM, msg0, spM, spV, extV, ex6, ex8, ex10, ex12, ex14, kinds, updateM]
          | nil =>
            by_cases h_ag : ag = 0
            rotate_left
            · have g_ag : ¬ 0 = ag := fun h => h_ag h.symm
              simp [mfF, kfF, sameM, msg0, spM, spV, extV, ex6, ex8, ex10, ex12, ex14, kinds, updateM, h_ag, g_ag]
            subst h_ag
            cases bi with
            | cons _ _ => simp [mfF, kfF, sameM, msg0, spM, spV, extV, ex6, ex8, ex10, ex12, ex14, kinds, updateM]
            | nil =>
              cases rs
              rotate_left
              · simp [mfF, kfF, sameM, msg0, spM, spV, extV, ex6, ex8, ex10, ex12, ex14, kinds, updateM]
              cases ce with
              | cons _ _ => simp [mfF, kfF, sameM, msg0, spM, spV, extV, ex6, ex8, ex10, ex12, ex14, kinds, updateM]
              | nil =>
                cases pf with
                | cons _ _ => simp [mfF, kfF, sameM, msg0, spM, spV, extV, ex6, ex8, ex10, ex12, ex14, kinds, updateM]
                | nil =>
                  by_cases h1 : ea = 0
                  · subst h1
                    simp [mfF, kfF, sameM, msg0, spM, spV, extV, ex6, ex8, ex10, ex12, ex14, kinds, updateM, si2, si4, si6, si8, siR, sizV, spT, prB_nil, ctA_nil, upF, flgB]
                  by_cases h2 : ea = 1
                  · subst h2
                    simp [mfF, kfF, sameM, msg0, spM, spV, extV, ex6, ex8, ex10, ex12, ex14, kinds, updateM, si2, si4, si6, si8, siR, sizV, spT, prB_nil, ctA_nil, upF, flgB]
                  have h3 : ea < 0 ∨ 1 < ea := by omega
                  simp [mfF, kfF, sameM, msg0, spM, spV, extV, ex6, ex8, ex10, ex12, ex14, kinds, updateM, si2, si4, si6, si8, siR, sizV, spT, prB_nil, ctA_nil, upF, flgB, h1, h2, h3]
theorem mf_eq (m : Msg) : mfF m = spM m := by
  by_cases h1 : m.k = 1
  · exact mf_hello m h1
  by_cases h2 : m.k = 2
  · exact mf_answer m h2
  by_cases h4 : m.k = 4
  · exact mf_ticket m h4
  by_cases h5 : m.k = 5
  · exact mf_end m h5
  by_cases h8 : m.k = 8
  · exact mf_extras m h8
  by_cases h11 : m.k = 11
  · exact mf_certs m h11
  by_cases h15 : m.k = 15
  · exact mf_proof m h15
  by_cases h20 : m.k = 20
  · exact mf_finished m h20
  by_cases h24 : m.k = 24
  · exact mf_update m h24
  simp [mfF, kfF, spM, spV, kinds, h1, h2, h4, h5, h8, h11, h15, h20, h24]
end Go.Proofs.YtcaljanahpdidaaGreat
namespace Go.Proofs.YtcaljanahpdidaaGreat
open Go Go.RowKit
theorem specMF_any (w : World) (p : MQ) (m : Msg) (h : HasM w p m) (i : IsM m) :
    Calls Tryz.prog 6 #[.agg (mgV p m)] w fun e w' => e = .returned (.int .i64 (mfF m)) ∧ Below w.heap.size w w' := by
  rw [mf_eq]
  obtain ⟨k, v, r, s, ho, pr, ti, ag, ea, bi, rs, ce, pf⟩ := m
  exact specMF_walk w k v ag ea p.a2 p.a3 p.a5 p.a6 p.a9 p.a11 p.a12 r.length s.length pr.length ti.length bi.length pf.length p.c2 p.c3 p.c5 p.c6 p.c9 p.c11 p.c12 ho rs ce p.g11 p.ps _ _ _ _ _ _
    (fun W => l13Known_any W k)
    (fun W => l13Extra_any W k v ag ea p.a2 p.a3 p.a5 p.a6 p.a9 p.a11 p.a12 r.length s.length pr.length ti.length bi.length ce.length pf.length p.c2 p.c3 p.c5 p.c6 p.c9 p.c11 p.c12 ho rs)
    (fun W => l13Sizes_any W k v ag ea p.a2 p.a3 p.a5 p.a6 p.a9 p.a11 p.a12 r.length s.length pr.length ti.length bi.length ce.length pf.length p.c2 p.c3 p.c5 p.c6 p.c9 p.c11 p.c12 ho rs)
    (fun W => specNameFault_any W ho (Nat.le_trans i.hoL (by decide)))
    (fun W n => l13Protocols_any W p.g5 p.a5 p.c5 pr 8 (h.pr.up n) i.prL (by decide) i.prZ)
    (fun W n => l13Protocols_any W p.g5 p.a5 p.c5 pr 1 (h.pr.up n) i.prL (by decide) i.prZ)
    h.ce i.ceZ i.tiL i.ceL
end Go.Proofs.YtcaljanahpdidaaGreat
namespace Go.Proofs.YtcaljanahpdidaaGreat
open Go Go.RowKit
end Go.Proofs.YtcaljanahpdidaaGreat
namespace Go.Proofs.YtcaljanahpdidaaGreat
open Go Go.RowKit
section
variable {P : Program} {ops : Array Oper} {Q : Exit → Act → World → Prop} {md : Region.Mode} {F : Nat → Fact} {a0 : Act} {w0 : World}
end
end Go.Proofs.YtcaljanahpdidaaGreat
namespace Go.Proofs.YtcaljanahpdidaaGreat
open Go Go.RowKit
section
variable {P : Program} {ops : Array Oper} {Q : Exit → Act → World → Prop} {md : Region.Mode} {F : Nat → Fact} {a0 : Act} {w0 : World}
end
end Go.Proofs.YtcaljanahpdidaaGreat
namespace Go.Proofs.YtcaljanahpdidaaGreat
open Go Go.RowKit
theorem iMR : (Tryz.prog.info? 57).map (·.size) = some 15 := by kernel_rfl
theorem rowMR : ∃ d, Tryz.prog.underlying 57 = some d ∧ d.isRow = true := ⟨_, Tryz.underlying57, rfl⟩
theorem one15 (l : List Value) (h : l.all (·.oneCell') = true) : l.toArray.all (·.oneCell') = true := by simpa using h
end Go.Proofs.YtcaljanahpdidaaGreat
