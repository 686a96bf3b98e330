import Derived.Test.YtmfajpplagbfcaaGreatDoorHC16
import Derived.Test.YtmfajpplagbfcaaGreatDoorHCxMhD
import Derived.Test.YtmfajpplagbfcaaGreatDoorHCxMhA
import Derived.Test.YtmfajpplagbfcaaGreatDoorHCxMhB
import Derived.Test.YtmfajpplagbfcaaGreatDoorHC3
import Derived.Deep.MidRow
namespace Go.Proofs.YtmfajpplagbfcaaGreatDoor
set_option maxRecDepth 100000
open Go Go.RowKit
def extV (k v : Int) (n2 n3 : Nat) (ho : List UInt8) (n5 n6 : Nat) (ag ea : Int) (n9 : Nat) (rs : Bool) (n11 n12 : Nat) : Bool := ex6 (v != 0) (decide ((0 : Int) < (n2 : Int))) (k == 1) (k == 2) (k == 4) || (ex8 (decide ((0 : Int) < (n3 : Int))) (!(ho == [])) (decide ((0 : Int) < (n5 : Int))) (k == 1) (k == 2) (k == 8) || (ex10 (decide ((0 : Int) < (n6 : Int))) (ag != 0) (decide ((0 : Int) < (n9 : Int))) (k == 1) (k == 4) || (ex12 (ea != 0) (k == 1) (k == 4) (k == 8) (k != 24) || ex14 rs (k == 2) (decide ((0 : Int) < (n11 : Int))) (k != 11) (decide ((0 : Int) < (n12 : Int))) (k != 15) (k != 20))))
def sizV (k v : Int) (n2 n3 n6 : Nat) (ag ea : Int) (n9 n12 : Nat) : Bool := !si2 (decide (v < 0)) (decide (255 < v)) && (!si4 (k == 1) (k == 2) (k == 4) ((n2 : Int) != 32) && (!si6 (k == 1) (k == 2) ((n3 : Int) != 32) && (!si8 (k == 15) ((n12 : Int) != 64) (k == 20) ((n12 : Int) != 32) && siR (k == 1) (decide ((0 : Int) < (n6 : Int))) ((n9 : Int) == 32) ((n9 : Int) == 0) (ag == 0) (ea == 0))))
def spM (m : Msg) : Int := spV (decide (m.k ∈ kinds)) (extV m.k m.v m.r.length m.s.length m.ho m.pr.length m.ti.length m.ag m.ea m.bi.length m.rs m.ce.length m.pf.length) (sizV m.k m.v m.r.length m.s.length m.ti.length m.ag m.ea m.bi.length m.pf.length) (nameF m.ho) (prB m.pr 8) (prB m.pr 1) m.k m.ag m.ea m.ti.length m.ce.length (ctA m.ce)
theorem prB_nil (n : Nat) : prB [] n = true := by simp [prB]
theorem ctA_nil : ctA [] = false := rfl
set_option linter.unusedSimpArgs false in
set_option maxHeartbeats 2000000 in
theorem mf_hello (m : Msg) (hk : m.k = 1) : mfF m = spM m := by
  obtain ⟨k, v, r, s, ho, pr, ti, ag, ea, bi, rs, ce, pf⟩ := m
  simp only at hk
  subst hk
  cases rs
  rotate_left
  · simp [mfF, kfF, sameM, msg0, spM, spV, extV, ex6, ex8, ex10, ex12, ex14, kinds, helloM]
  cases ce with
  | cons _ _ => simp [mfF, kfF, sameM, msg0, spM, spV, extV, ex6, ex8, ex10, ex12, ex14, kinds, helloM]
  | nil =>
    cases pf with
    | cons _ _ => simp [mfF, kfF, sameM, msg0, spM, spV, extV, ex6, ex8, ex10, ex12, ex14, kinds, helloM]
    | nil =>
      by_cases h1 : v < 0
      · simp [mfF, kfF, sameM, msg0, spM, spV, extV, ex6, ex8, ex10, ex12, ex14, kinds, helloM, si2, si4, si6, si8, siR, sizV, spT, prB_nil, ctA_nil, heF, fpB, bdB, ageB, flgB, h1]
      by_cases h2 : 255 < v
      · simp [mfF, kfF, sameM, msg0, spM, spV, extV, ex6, ex8, ex10, ex12, ex14, kinds, helloM, si2, si4, si6, si8, siR, sizV, spT, prB_nil, ctA_nil, heF, fpB, bdB, ageB, flgB, h1, h2]
      by_cases h3 : r.length = 32
      rotate_left
      · have h3' : ¬ (r.length : Int) = 32 := by omega
        simp [mfF, kfF, sameM, msg0, spM, spV, extV, ex6, ex8, ex10, ex12, ex14, kinds, helloM, si2, si4, si6, si8, siR, sizV, spT, prB_nil, ctA_nil, heF, fpB, bdB, ageB, flgB, h1, h2, h3, h3']
      have h3' : (r.length : Int) = 32 := by omega
      by_cases h4 : s.length = 32
      rotate_left
      · have h4' : ¬ (s.length : Int) = 32 := by omega
        simp [mfF, kfF, sameM, msg0, spM, spV, extV, ex6, ex8, ex10, ex12, ex14, kinds, helloM, si2, si4, si6, si8, siR, sizV, spT, prB_nil, ctA_nil, heF, fpB, bdB, ageB, flgB, h1, h2, h3, h3', h4, h4']
      have h4' : (s.length : Int) = 32 := by omega
      by_cases h5 : ti.length = 0
      · have h5' : ¬ 0 < ti.length := by omega
        have h5'' : ¬ 400 < ti.length := by omega
        by_cases h6 : bi.length = 0
        rotate_left
        · have h6' : ¬ (bi.length : Int) = 0 := by omega
          simp [mfF, kfF, sameM, msg0, spM, spV, extV, ex6, ex8, ex10, ex12, ex14, kinds, helloM, si2, si4, si6, si8, siR, sizV, spT, prB_nil, ctA_nil, heF, fpB, bdB, ageB, flgB, h1, h2, h3, h3', h4, h4', h5, h5', h6, h6']
        have h6' : (bi.length : Int) = 0 := by omega
        by_cases h7 : ag = 0
        rotate_left
        · simp [mfF, kfF, sameM, msg0, spM, spV, extV, ex6, ex8, ex10, ex12, ex14, kinds, helloM, si2, si4, si6, si8, siR, sizV, spT, prB_nil, ctA_nil, heF, fpB, bdB, ageB, flgB, h1, h2, h3, h3', h4, h4', h5, h5', h6, h6', h7]
        by_cases h8 : ea = 0
        rotate_left
        · simp [mfF, kfF, sameM, msg0, spM, spV, extV, ex6, ex8, ex10, ex12, ex14, kinds, helloM, si2, si4, si6, si8, siR, sizV, spT, prB_nil, ctA_nil, heF, fpB, bdB, ageB, flgB, h1, h2, h3, h3', h4, h4', h5, h5', h6, h6', h7, h8]
        subst h7
        subst h8
        by_cases h9 : nameF ho = 0
        rotate_left
        · simp [mfF, kfF, sameM, msg0, spM, spV, extV, ex6, ex8, ex10, ex12, ex14, kinds, helloM, si2, si4, si6, si8, siR, sizV, spT, prB_nil, ctA_nil, heF, fpB, bdB, ageB, flgB, h1, h2, h3, h3', h4, h4', h5, h5', h6, h6', h9]
        cases hp : prB pr 8 with
        | false => simp [mfF, kfF, sameM, msg0, spM, spV, extV, ex6, ex8, ex10, ex12, ex14, kinds, helloM, si2, si4, si6, si8, siR, sizV, spT, prB_nil, ctA_nil, heF, fpB, bdB, ageB, flgB, h1, h2, h3, h3', h4, h4', h5, h5', h6, h6', h9, hp]
        | true => simp [mfF, kfF, sameM, msg0, spM, spV, extV, ex6, ex8, ex10, ex12, ex14, kinds, helloM, si2, si4, si6, si8, siR, sizV, spT, prB_nil, ctA_nil, heF, fpB, bdB, ageB, flgB, h1, h2, h3, h3', h4, h4', h5, h5', h5'', h6, h6', h9, hp]
      have h5' : 0 < ti.length := by omega
      by_cases h6 : bi.length = 32
      rotate_left
      · have h6' : ¬ (bi.length : Int) = 32 := by omega
        simp [mfF, kfF, sameM, msg0, spM, spV, extV, ex6, ex8, ex10, ex12, ex14, kinds, helloM, si2, si4, si6, si8, siR, sizV, spT, prB_nil, ctA_nil, heF, fpB, bdB, ageB, flgB, h1, h2, h3, h3', h4, h4', h5, h5', h6, h6']
      have h6' : (bi.length : Int) = 32 := by omega
      by_cases h9 : nameF ho = 0
      rotate_left
      · simp [mfF, kfF, sameM, msg0, spM, spV, extV, ex6, ex8, ex10, ex12, ex14, kinds, helloM, si2, si4, si6, si8, siR, sizV, spT, prB_nil, ctA_nil, heF, fpB, bdB, ageB, flgB, h1, h2, h3, h3', h4, h4', h5, h5', h6, h6', h9]
      cases hp : prB pr 8 with
      | false => simp [mfF, kfF, sameM, msg0, spM, spV, extV, ex6, ex8, ex10, ex12, ex14, kinds, helloM, si2, si4, si6, si8, siR, sizV, spT, prB_nil, ctA_nil, heF, fpB, bdB, ageB, flgB, h1, h2, h3, h3', h4, h4', h5, h5', h6, h6', h9, hp]
      | true =>
        by_cases ha : 400 < ti.length
        · simp [mfF, kfF, sameM, msg0, spM, spV, extV, ex6, ex8, ex10, ex12, ex14, kinds, helloM, si2, si4, si6, si8, siR, sizV, spT, prB_nil, ctA_nil, heF, fpB, bdB, ageB, flgB, h1, h2, h3, h3', h4, h4', h5, h5', h6, h6', h9, hp, ha]
        by_cases hb : 0 ≤ ag
        rotate_left
        · have hb' : ag < 0 := by omega
          simp [mfF, kfF, sameM, msg0, spM, spV, extV, ex6, ex8, ex10, ex12, ex14, kinds, helloM, si2, si4, si6, si8, siR, sizV, spT, prB_nil, ctA_nil, heF, fpB, bdB, ageB, flgB, h1, h2, h3, h3', h4, h4', h5, h5', h6, h6', h9, hp, ha, hb, hb']
        have hb' : ¬ ag < 0 := by omega
        by_cases hc : ag ≤ 4294967295
        rotate_left
        · have hc' : 4294967295 < ag := by omega
          simp [mfF, kfF, sameM, msg0, spM, spV, extV, ex6, ex8, ex10, ex12, ex14, kinds, helloM, si2, si4, si6, si8, siR, sizV, spT, prB_nil, ctA_nil, heF, fpB, bdB, ageB, flgB, h1, h2, h3, h3', h4, h4', h5, h5', h6, h6', h9, hp, ha, hb, hb', hc, hc']
        have hc' : ¬ 4294967295 < ag := by omega
        by_cases he : ea = 0
        · subst he
          simp [mfF, kfF, sameM, msg0, spM, spV, extV, ex6, ex8, ex10, ex12, ex14, kinds, helloM, si2, si4, si6, si8, siR, sizV, spT, prB_nil, ctA_nil, heF, fpB, bdB, ageB, flgB, h1, h2, h3, h3', h4, h4', h5, h5', h6, h6', h9, hp, ha, hb, hb', hc, hc']
        by_cases hf : ea = 1
        · subst hf
          simp [mfF, kfF, sameM, msg0, spM, spV, extV, ex6, ex8, ex10, ex12, ex14, kinds, helloM, si2, si4, si6, si8, siR, sizV, spT, prB_nil, ctA_nil, heF, fpB, bdB, ageB, flgB, h1, h2, h3, h3', h4, h4', h5, h5', h6, h6', h9, hp, ha, hb, hb', hc, hc']
        have hg : ea < 0 ∨ 1 < ea := by omega
        simp [mfF, kfF, sameM, msg0, spM, spV, extV, ex6, ex8, ex10, ex12, ex14, kinds, helloM, si2, si4, si6, si8, siR, sizV, spT, prB_nil, ctA_nil, heF, fpB, bdB, ageB, flgB, h1, h2, h3, h3', h4, h4', h5, h5', h6, h6', h9, hp, ha, hb, hb', hc, hc', he, hf, hg]
set_option linter.unusedSimpArgs false in
set_option maxHeartbeats 2000000 in
theorem mf_answer (m : Msg) (hk : m.k = 2) : mfF m = spM m := by
  obtain ⟨k, v, r, s, ho, pr, ti, ag, ea, bi, rs, ce, pf⟩ := m
  simp only at hk
  subst hk
  cases ho with
  | cons _ _ => simp [mfF, kfF, sameM, msg0, spM, spV, extV, ex6, ex8, ex10, ex12, ex14, kinds, answerM]
  | nil =>
    cases pr with
    | cons _ _ => simp [mfF, kfF, sameM, msg0, spM, spV, extV, ex6, ex8, ex10, ex12, ex14, kinds, answerM]
    | nil =>
      cases ti with
      | cons _ _ => simp [mfF, kfF, sameM, msg0, spM, spV, extV, ex6, ex8, ex10, ex12, ex14, kinds, answerM]
      | nil =>
        by_cases h_ag : ag = 0
        rotate_left
        · have g_ag : ¬ 0 = ag := fun h => h_ag h.symm
          simp [mfF, kfF, sameM, msg0, spM, spV, extV, ex6, ex8, ex10, ex12, ex14, kinds, answerM, h_ag, g_ag]
        subst h_ag
        by_cases h_ea : ea = 0
        rotate_left
        · have g_ea : ¬ 0 = ea := fun h => h_ea h.symm
          simp [mfF, kfF, sameM, msg0, spM, spV, extV, ex6, ex8, ex10, ex12, ex14, kinds, answerM, h_ea, g_ea]
        subst h_ea
        cases bi with
        | cons _ _ => simp [mfF, kfF, sameM, msg0, spM, spV, extV, ex6, ex8, ex10, ex12, ex14, kinds, answerM]
        | nil =>
          cases ce with
          | cons _ _ => simp [mfF, kfF, sameM, msg0, spM, spV, extV, ex6, ex8, ex10, ex12, ex14, kinds, answerM]
          | nil =>
            cases pf with
            | cons _ _ => simp [mfF, kfF, sameM, msg0, spM, spV, extV, ex6, ex8, ex10, ex12, ex14, kinds, answerM]
            | nil =>
              by_cases h1 : v < 0
              · simp [mfF, kfF, sameM, msg0, spM, spV, extV, ex6, ex8, ex10, ex12, ex14, kinds, answerM, si2, si4, si6, si8, siR, sizV, spT, prB_nil, ctA_nil, fpF, fpB, h1]
              by_cases h2 : 255 < v
              · simp [mfF, kfF, sameM, msg0, spM, spV, extV, ex6, ex8, ex10, ex12, ex14, kinds, answerM, si2, si4, si6, si8, siR, sizV, spT, prB_nil, ctA_nil, fpF, fpB, h1, h2]
              by_cases h3 : r.length = 32
              rotate_left
              · have h3_0 : ¬ (r.length : Int) = 32 := by omega
                simp [mfF, kfF, sameM, msg0, spM, spV, extV, ex6, ex8, ex10, ex12, ex14, kinds, answerM, si2, si4, si6, si8, siR, sizV, spT, prB_nil, ctA_nil, fpF, fpB, h1, h2, h3, h3_0]
              have h3_0 : (r.length : Int) = 32 := by omega
              by_cases h4 : s.length = 32
              rotate_left
              · have h4_0 : ¬ (s.length : Int) = 32 := by omega
                simp [mfF, kfF, sameM, msg0, spM, spV, extV, ex6, ex8, ex10, ex12, ex14, kinds, answerM, si2, si4, si6, si8, siR, sizV, spT, prB_nil, ctA_nil, fpF, fpB, h1, h2, h3, h3_0, h4, h4_0]
              have h4_0 : (s.length : Int) = 32 := by omega
              simp [mfF, kfF, sameM, msg0, spM, spV, extV, ex6, ex8, ex10, ex12, ex14, kinds, answerM, si2, si4, si6, si8, siR, sizV, spT, prB_nil, ctA_nil, fpF, fpB, h1, h2, h3, h3_0, h4, h4_0]
set_option linter.unusedSimpArgs false in
set_option maxHeartbeats 2000000 in
theorem mf_ticket (m : Msg) (hk : m.k = 4) : mfF m = spM m := by
  obtain ⟨k, v, r, s, ho, pr, ti, ag, ea, bi, rs, ce, pf⟩ := m
  simp only at hk
  subst hk
  by_cases h_v : v = 0
  rotate_left
  · have g_v : ¬ 0 = v := fun h => h_v h.symm
    simp [mfF, kfF, sameM, msg0, spM, spV, extV, ex6, ex8, ex10, ex12, ex14, kinds, ticketM, h_v, g_v]
  subst h_v
  cases s with
  | cons _ _ => simp [mfF, kfF, sameM, msg0, spM, spV, extV, ex6, ex8, ex10, ex12, ex14, kinds, ticketM]
  | nil =>
    cases ho with
    | cons _ _ => simp [mfF, kfF, sameM, msg0, spM, spV, extV, ex6, ex8, ex10, ex12, ex14, kinds, ticketM]
    | nil =>
      cases pr with
      | cons _ _ => simp [mfF, kfF, sameM, msg0, spM, spV, extV, ex6, ex8, ex10, ex12, ex14, kinds, ticketM]
      | nil =>
        cases bi with
        | cons _ _ => simp [mfF, kfF, sameM, msg0, spM, spV, extV, ex6, ex8, ex10, ex12, ex14, kinds, ticketM]
        | nil =>
          cases rs
          rotate_left
          · simp [mfF, kfF, sameM, msg0, spM, spV, extV, ex6, ex8, ex10, ex12, ex14, kinds, ticketM]
          cases ce with
          | cons _ _ => simp [mfF, kfF, sameM, msg0, spM, spV, extV, ex6, ex8, ex10, ex12, ex14, kinds, ticketM]
          | nil =>
            cases pf with
            | cons _ _ => simp [mfF, kfF, sameM, msg0, spM, spV, extV, ex6, ex8, ex10, ex12, ex14, kinds, ticketM]
            | nil =>
              by_cases h3 : r.length = 32
              rotate_left
              · have h3_0 : ¬ (r.length : Int) = 32 := by omega
                simp [mfF, kfF, sameM, msg0, spM, spV, extV, ex6, ex8, ex10, ex12, ex14, kinds, ticketM, si2, si4, si6, si8, siR, sizV, spT, prB_nil, ctA_nil, tiF, ageB, h3, h3_0]
              have h3_0 : (r.length : Int) = 32 := by omega
              by_cases h5 : ti.length = 0
              · simp [mfF, kfF, sameM, msg0, spM, spV, extV, ex6, ex8, ex10, ex12, ex14, kinds, ticketM, si2, si4, si6, si8, siR, sizV, spT, prB_nil, ctA_nil, tiF, ageB, h3, h3_0, h5]
              by_cases h6 : 400 < ti.length
              · simp [mfF, kfF, sameM, msg0, spM, spV, extV, ex6, ex8, ex10, ex12, ex14, kinds, ticketM, si2, si4, si6, si8, siR, sizV, spT, prB_nil, ctA_nil, tiF, ageB, h3, h3_0, h5, h6]
              by_cases h7 : 0 ≤ ag
              rotate_left
              · simp [mfF, kfF, sameM, msg0, spM, spV, extV, ex6, ex8, ex10, ex12, ex14, kinds, ticketM, si2, si4, si6, si8, siR, sizV, spT, prB_nil, ctA_nil, tiF, ageB, h3, h3_0, h5, h6, h7]
              by_cases h8 : ag ≤ 4294967295
              rotate_left
              · simp [mfF, kfF, sameM, msg0, spM, spV, extV, ex6, ex8, ex10, ex12, ex14, kinds, ticketM, si2, si4, si6, si8, siR, sizV, spT, prB_nil, ctA_nil, tiF, ageB, h3, h3_0, h5, h6, h7, h8]
              by_cases h9 : 0 ≤ ea
              rotate_left
              · simp [mfF, kfF, sameM, msg0, spM, spV, extV, ex6, ex8, ex10, ex12, ex14, kinds, ticketM, si2, si4, si6, si8, siR, sizV, spT, prB_nil, ctA_nil, tiF, ageB, h3, h3_0, h5, h6, h7, h8, h9]
              by_cases ha : ea ≤ 4294967295
              rotate_left
              · simp [mfF, kfF, sameM, msg0, spM, spV, extV, ex6, ex8, ex10, ex12, ex14, kinds, ticketM, si2, si4, si6, si8, siR, sizV, spT, prB_nil, ctA_nil, tiF, ageB, h3, h3_0, h5, h6, h7, h8, h9, ha]
              simp [mfF, kfF, sameM, msg0, spM, spV, extV, ex6, ex8, ex10, ex12, ex14, kinds, ticketM, si2, si4, si6, si8, siR, sizV, spT, prB_nil, ctA_nil, tiF, ageB, h3, h3_0, h5, h6, h7, h8, h9, ha]
set_option linter.unusedSimpArgs false in
set_option maxHeartbeats 2000000 in
theorem mf_end (m : Msg) (hk : m.k = 5) : mfF m = spM m := by
  obtain ⟨k, v, r, s, ho, pr, ti, ag, ea, bi, rs, ce, pf⟩ := m
  simp only at hk
  subst hk
  by_cases h_v : v = 0
  rotate_left
  · have g_v : ¬ 0 = v := fun h => h_v h.symm
    simp [mfF, kfF, sameM, msg0, spM, spV, extV, ex6, ex8, ex10, ex12, ex14, kinds, endM, h_v, g_v]
  subst h_v
  cases r with
  | cons _ _ => simp [mfF, kfF, sameM, msg0, spM, spV, extV, ex6, ex8, ex10, ex12, ex14, kinds, endM]
  | nil =>
    cases s with
    | cons _ _ => simp [mfF, kfF, sameM, msg0, spM, spV, extV, ex6, ex8, ex10, ex12, ex14, kinds, endM]
    | nil =>
      cases ho with
      | cons _ _ => simp [mfF, kfF, sameM, msg0, spM, spV, extV, ex6, ex8, ex10, ex12, ex14, kinds, endM]
      | nil =>
        cases pr with
        | cons _ _ => simp [mfF, kfF, sameM, msg0, spM, spV, extV, ex6, ex8, ex10, ex12, ex14, kinds, endM]
        | nil =>
          cases ti with
          | cons _ _ => simp [mfF, kfF, sameM, msg0, spM, spV, extV, ex6, ex8, ex10, ex12, ex14, kinds, endM]
          | nil =>
            by_cases h_ag : ag = 0
            rotate_left
            · have g_ag : ¬ 0 = ag := fun h => h_ag h.symm
              simp [mfF, kfF, sameM, msg0, spM, spV, extV, ex6, ex8, ex10, ex12, ex14, kinds, endM, h_ag, g_ag]
            subst h_ag
            by_cases h_ea : ea = 0
            rotate_left
            · have g_ea : ¬ 0 = ea := fun h => h_ea h.symm
              simp [mfF, kfF, sameM, msg0, spM, spV, extV, ex6, ex8, ex10, ex12, ex14, kinds, endM, h_ea, g_ea]
            subst h_ea
            cases bi with
            | cons _ _ => simp [mfF, kfF, sameM, msg0, spM, spV, extV, ex6, ex8, ex10, ex12, ex14, kinds, endM]
            | nil =>
              cases rs
              rotate_left
              · simp [mfF, kfF, sameM, msg0, spM, spV, extV, ex6, ex8, ex10, ex12, ex14, kinds, endM]
              cases ce with
              | cons _ _ => simp [mfF, kfF, sameM, msg0, spM, spV, extV, ex6, ex8, ex10, ex12, ex14, kinds, endM]
              | nil =>
                cases pf with
                | cons _ _ => simp [mfF, kfF, sameM, msg0, spM, spV, extV, ex6, ex8, ex10, ex12, ex14, kinds, endM]
                | nil =>
                  simp [mfF, kfF, sameM, msg0, spM, spV, extV, ex6, ex8, ex10, ex12, ex14, kinds, endM, si2, si4, si6, si8, siR, sizV, spT, prB_nil, ctA_nil]
set_option linter.unusedSimpArgs false in
set_option maxHeartbeats 2000000 in
theorem mf_extras (m : Msg) (hk : m.k = 8) : mfF m = spM m := by
  obtain ⟨k, v, r, s, ho, pr, ti, ag, ea, bi, rs, ce, pf⟩ := m
  simp only at hk
  subst hk
  by_cases h_v : v = 0
  rotate_left
  · have g_v : ¬ 0 = v := fun h => h_v h.symm
    simp [mfF, kfF, sameM, msg0, spM, spV, extV, ex6, ex8, ex10, ex12, ex14, kinds, extrasM, h_v, g_v]
  subst h_v
  cases r with
  | cons _ _ => simp [mfF, kfF, sameM, msg0, spM, spV, extV, ex6, ex8, ex10, ex12, ex14, kinds, extrasM]
  | nil =>
    cases s with
    | cons _ _ => simp [mfF, kfF, sameM, msg0, spM, spV, extV, ex6, ex8, ex10, ex12, ex14, kinds, extrasM]
    | nil =>
      cases ho with
      | cons _ _ => simp [mfF, kfF, sameM, msg0, spM, spV, extV, ex6, ex8, ex10, ex12, ex14, kinds, extrasM]
      | nil =>
        cases ti with
        | cons _ _ => simp [mfF, kfF, sameM, msg0, spM, spV, extV, ex6, ex8, ex10, ex12, ex14, kinds, extrasM]
        | nil =>
          by_cases h_ag : ag = 0
          rotate_left
          · have g_ag : ¬ 0 = ag := fun h => h_ag h.symm
            simp [mfF, kfF, sameM, msg0, spM, spV, extV, ex6, ex8, ex10, ex12, ex14, kinds, extrasM, h_ag, g_ag]
          subst h_ag
          cases bi with
          | cons _ _ => simp [mfF, kfF, sameM, msg0, spM, spV, extV, ex6, ex8, ex10, ex12, ex14, kinds, extrasM]
          | nil =>
            cases rs
            rotate_left
            · simp [mfF, kfF, sameM, msg0, spM, spV, extV, ex6, ex8, ex10, ex12, ex14, kinds, extrasM]
            cases ce with
            | cons _ _ => simp [mfF, kfF, sameM, msg0, spM, spV, extV, ex6, ex8, ex10, ex12, ex14, kinds, extrasM]
            | nil =>
              cases pf with
              | cons _ _ => simp [mfF, kfF, sameM, msg0, spM, spV, extV, ex6, ex8, ex10, ex12, ex14, kinds, extrasM]
              | nil =>
                cases hp : prB pr 1 with
                | false => simp [mfF, kfF, sameM, msg0, spM, spV, extV, ex6, ex8, ex10, ex12, ex14, kinds, extrasM, si2, si4, si6, si8, siR, sizV, spT, prB_nil, ctA_nil, exF, flgB, hp]
                | true =>
                  by_cases h1 : ea = 0
                  · subst h1
                    simp [mfF, kfF, sameM, msg0, spM, spV, extV, ex6, ex8, ex10, ex12, ex14, kinds, extrasM, si2, si4, si6, si8, siR, sizV, spT, prB_nil, ctA_nil, exF, flgB, hp]
                  by_cases h2 : ea = 1
                  · subst h2
                    simp [mfF, kfF, sameM, msg0, spM, spV, extV, ex6, ex8, ex10, ex12, ex14, kinds, extrasM, si2, si4, si6, si8, siR, sizV, spT, prB_nil, ctA_nil, exF, flgB, hp]
                  have h3 : ea < 0 ∨ 1 < ea := by omega
                  simp [mfF, kfF, sameM, msg0, spM, spV, extV, ex6, ex8, ex10, ex12, ex14, kinds, extrasM, si2, si4, si6, si8, siR, sizV, spT, prB_nil, ctA_nil, exF, flgB, hp, h1, h2, h3]
set_option linter.unusedSimpArgs false in
set_option maxHeartbeats 2000000 in
theorem mf_certs (m : Msg) (hk : m.k = 11) : mfF m = spM m := by
  obtain ⟨k, v, r, s, ho, pr, ti, ag, ea, bi, rs, ce, pf⟩ := m
  simp only at hk
  subst hk
  by_cases h_v : v = 0
  rotate_left
  · have g_v : ¬ 0 = v := fun h => h_v h.symm
    simp [mfF, kfF, sameM, msg0, spM, spV, extV, ex6, ex8, ex10, ex12, ex14, kinds, certsM, h_v, g_v]
  subst h_v
  cases r with
  | cons _ _ => simp [mfF, kfF, sameM, msg0, spM, spV, extV, ex6, ex8, ex10, ex12, ex14, kinds, certsM]
  | nil =>
    cases s with
    | cons _ _ => simp [mfF, kfF, sameM, msg0, spM, spV, extV, ex6, ex8, ex10, ex12, ex14, kinds, certsM]
    | nil =>
      cases ho with
      | cons _ _ => simp [mfF, kfF, sameM, msg0, spM, spV, extV, ex6, ex8, ex10, ex12, ex14, kinds, certsM]
      | nil =>
        cases pr with
        | cons _ _ => simp [mfF, kfF, sameM, msg0, spM, spV, extV, ex6, ex8, ex10, ex12, ex14, kinds, certsM]
        | nil =>
          cases ti with
          | cons _ _ => simp [mfF, kfF, sameM, msg0, spM, spV, extV, ex6, ex8, ex10, ex12, ex14, kinds, certsM]
          | nil =>
            by_cases h_ag : ag = 0
            rotate_left
            · have g_ag : ¬ 0 = ag := fun h => h_ag h.symm
              simp [mfF, kfF, sameM, msg0, spM, spV, extV, ex6, ex8, ex10, ex12, ex14, kinds, certsM, h_ag, g_ag]
            subst h_ag
            by_cases h_ea : ea = 0
            rotate_left
            · have g_ea : ¬ 0 = ea := fun h => h_ea h.symm
              simp [mfF, kfF, sameM, msg0, spM, spV, extV, ex6, ex8, ex10, ex12, ex14, kinds, certsM, h_ea, g_ea]
            subst h_ea
            cases bi with
            | cons _ _ => simp [mfF, kfF, sameM, msg0, spM, spV, extV, ex6, ex8, ex10, ex12, ex14, kinds, certsM]
            | nil =>
              cases rs
              rotate_left
              · simp [mfF, kfF, sameM, msg0, spM, spV, extV, ex6, ex8, ex10, ex12, ex14, kinds, certsM]
              cases pf with
              | cons _ _ => simp [mfF, kfF, sameM, msg0, spM, spV, extV, ex6, ex8, ex10, ex12, ex14, kinds, certsM]
              | nil =>
                by_cases h1 : ce.length = 0
                · simp [mfF, kfF, sameM, msg0, spM, spV, extV, ex6, ex8, ex10, ex12, ex14, kinds, certsM, si2, si4, si6, si8, siR, sizV, spT, prB_nil, ctA_nil, ceF, h1]
                by_cases h2 : 4 < ce.length
                · simp [mfF, kfF, sameM, msg0, spM, spV, extV, ex6, ex8, ex10, ex12, ex14, kinds, certsM, si2, si4, si6, si8, siR, sizV, spT, prB_nil, ctA_nil, ceF, h1, h2]
                cases hc : ctA ce with
                | false => simp [mfF, kfF, sameM, msg0, spM, spV, extV, ex6, ex8, ex10, ex12, ex14, kinds, certsM, si2, si4, si6, si8, siR, sizV, spT, prB_nil, ctA_nil, ceF, h1, h2, hc]
                | true => simp [mfF, kfF, sameM, msg0, spM, spV, extV, ex6, ex8, ex10, ex12, ex14, kinds, certsM, si2, si4, si6, si8, siR, sizV, spT, prB_nil, ctA_nil, ceF, h1, h2, hc]
set_option linter.unusedSimpArgs false in
set_option maxHeartbeats 2000000 in
theorem mf_proof (m : Msg) (hk : m.k = 15) : mfF m = spM m := by
  obtain ⟨k, v, r, s, ho, pr, ti, ag, ea, bi, rs, ce, pf⟩ := m
  simp only at hk
  subst hk
  by_cases h_v : v = 0
  rotate_left
  · have g_v : ¬ 0 = v := fun h => h_v h.symm
    simp [mfF, kfF, sameM, msg0, spM, spV, extV, ex6, ex8, ex10, ex12, ex14, kinds, proofM, h_v, g_v]
  subst h_v
  cases r with
  | cons _ _ => simp [mfF, kfF, sameM, msg0, spM, spV, extV, ex6, ex8, ex10, ex12, ex14, kinds, proofM]
  | nil =>
    cases s with
    | cons _ _ => simp [mfF, kfF, sameM, msg0, spM, spV, extV, ex6, ex8, ex10, ex12, ex14, kinds, proofM]
    | nil =>
      cases ho with
      | cons _ _ => simp [mfF, kfF, sameM, msg0, spM, spV, extV, ex6, ex8, ex10, ex12, ex14, kinds, proofM]
      | nil =>
        cases pr with
        | cons _ _ => simp [mfF, kfF, sameM, msg0, spM, spV, extV, ex6, ex8, ex10, ex12, ex14, kinds, proofM]
        | nil =>
          cases ti with
          | cons _ _ => simp [mfF, kfF, sameM, msg0, spM, spV, extV, ex6, ex8, ex10, ex12, ex14, kinds, proofM]
          | nil =>
            by_cases h_ag : ag = 0
            rotate_left
            · have g_ag : ¬ 0 = ag := fun h => h_ag h.symm
              simp [mfF, kfF, sameM, msg0, spM, spV, extV, ex6, ex8, ex10, ex12, ex14, kinds, proofM, h_ag, g_ag]
            subst h_ag
            by_cases h_ea : ea = 0
            rotate_left
            · have g_ea : ¬ 0 = ea := fun h => h_ea h.symm
              simp [mfF, kfF, sameM, msg0, spM, spV, extV, ex6, ex8, ex10, ex12, ex14, kinds, proofM, h_ea, g_ea]
            subst h_ea
            cases bi with
            | cons _ _ => simp [mfF, kfF, sameM, msg0, spM, spV, extV, ex6, ex8, ex10, ex12, ex14, kinds, proofM]
            | nil =>
              cases rs
              rotate_left
              · simp [mfF, kfF, sameM, msg0, spM, spV, extV, ex6, ex8, ex10, ex12, ex14, kinds, proofM]
              cases ce with
              | cons _ _ => simp [mfF, kfF, sameM, msg0, spM, spV, extV, ex6, ex8, ex10, ex12, ex14, kinds, proofM]
              | nil =>
                by_cases h1 : pf.length = 64
                rotate_left
                · have h1_0 : ¬ (pf.length : Int) = 64 := by omega
                  simp [mfF, kfF, sameM, msg0, spM, spV, extV, ex6, ex8, ex10, ex12, ex14, kinds, proofM, si2, si4, si6, si8, siR, sizV, spT, prB_nil, ctA_nil, pfF, h1, h1_0]
                have h1_0 : (pf.length : Int) = 64 := by omega
                simp [mfF, kfF, sameM, msg0, spM, spV, extV, ex6, ex8, ex10, ex12, ex14, kinds, proofM, si2, si4, si6, si8, siR, sizV, spT, prB_nil, ctA_nil, pfF, h1, h1_0]
set_option linter.unusedSimpArgs false in
set_option maxHeartbeats 2000000 in
theorem mf_finished (m : Msg) (hk : m.k = 20) : mfF m = spM m := by
  obtain ⟨k, v, r, s, ho, pr, ti, ag, ea, bi, rs, ce, pf⟩ := m
  simp only at hk
  subst hk
  by_cases h_v : v = 0
  rotate_left
  · have g_v : ¬ 0 = v := fun h => h_v h.symm
    simp [mfF, kfF, sameM, msg0, spM, spV, extV, ex6, ex8, ex10, ex12, ex14, kinds, finishedM, h_v, g_v]
  subst h_v
  cases r with
  | cons _ _ => simp [mfF, kfF, sameM, msg0, spM, spV, extV, ex6, ex8, ex10, ex12, ex14, kinds, finishedM]
  | nil =>
    cases s with
    | cons _ _ => simp [mfF, kfF, sameM, msg0, spM, spV, extV, ex6, ex8, ex10, ex12, ex14, kinds, finishedM]
    | nil =>
      cases ho with
      | cons _ _ => simp [mfF, kfF, sameM, msg0, spM, spV, extV, ex6, ex8, ex10, ex12, ex14, kinds, finishedM]
      | nil =>
        cases pr with
        | cons _ _ => simp [mfF, kfF, sameM, msg0, spM, spV, extV, ex6, ex8, ex10, ex12, ex14, kinds, finishedM]
        | nil =>
          cases ti with
          | cons _ _ => simp [mfF, kfF, sameM, msg0, spM, spV, extV, ex6, ex8, ex10, ex12, ex14, kinds, finishedM]
          | nil =>
            by_cases h_ag : ag = 0
            rotate_left
            · have g_ag : ¬ 0 = ag := fun h => h_ag h.symm
              simp [mfF, kfF, sameM, msg0, spM, spV, extV, ex6, ex8, ex10, ex12, ex14, kinds, finishedM, h_ag, g_ag]
            subst h_ag
            by_cases h_ea : ea = 0
            rotate_left
            · have g_ea : ¬ 0 = ea := fun h => h_ea h.symm
              simp [mfF, kfF, sameM, msg0, spM, spV, extV, ex6, ex8, ex10, ex12, ex14, kinds, finishedM, h_ea, g_ea]
            subst h_ea
            cases bi with
            | cons _ _ => simp [mfF, kfF, sameM, msg0, spM, spV, extV, ex6, ex8, ex10, ex12, ex14, kinds, finishedM]
            | nil =>
              cases rs
              rotate_left
              · simp [mfF, kfF, sameM, msg0, spM, spV, extV, ex6, ex8, ex10, ex12, ex14, kinds, finishedM]
              cases ce with
              | cons _ _ => simp [mfF, kfF, sameM, msg0, spM, spV, extV, ex6, ex8, ex10, ex12, ex14, kinds, finishedM]
              | nil =>
                by_cases h1 : pf.length = 32
                rotate_left
                · have h1_0 : ¬ (pf.length : Int) = 32 := by omega
                  simp [mfF, kfF, sameM, msg0, spM, spV, extV, ex6, ex8, ex10, ex12, ex14, kinds, finishedM, si2, si4, si6, si8, siR, sizV, spT, prB_nil, ctA_nil, pfF, h1, h1_0]
                have h1_0 : (pf.length : Int) = 32 := by omega
                simp [mfF, kfF, sameM, msg0, spM, spV, extV, ex6, ex8, ex10, ex12, ex14, kinds, finishedM, si2, si4, si6, si8, siR, sizV, spT, prB_nil, ctA_nil, pfF, h1, h1_0]
set_option linter.unusedSimpArgs false in
set_option maxHeartbeats 2000000 in
theorem mf_update (m : Msg) (hk : m.k = 24) : mfF m = spM m := by
  obtain ⟨k, v, r, s, ho, pr, ti, ag, ea, bi, rs, ce, pf⟩ := m
  simp only at hk
  subst hk
  by_cases h_v : v = 0
  rotate_left
  · have g_v : ¬ 0 = v := fun h => h_v h.symm
    simp [mfF, kfF, sameM, msg0, spM, spV, extV, ex6, ex8, ex10, ex12, ex14, kinds, updateM, h_v, g_v]
  subst h_v
  cases r with
  | cons _ _ => simp [mfF, kfF, sameM, msg0, spM, spV, extV, ex6, ex8, ex10, ex12, ex14, kinds, updateM]
  | nil =>
    cases s with
    | cons _ _ => simp [mfF, kfF, sameM, msg0, spM, spV, extV, ex6, ex8, ex10, ex12, ex14, kinds, updateM]
    | nil =>
      cases ho with
      | cons _ _ => simp [mfF, kfF, sameM, msg0, spM, spV, extV, ex6, ex8, ex10, ex12, ex14, kinds, updateM]
      | nil =>
        cases pr with
        | cons _ _ => simp [mfF, kfF, sameM, msg0, spM, spV, extV, ex6, ex8, ex10, ex12, ex14, kinds, updateM]
        | nil =>
          cases ti with
          | cons _ _ => simp [mfF, kfF, sameM, msg0, spM, spV, extV, ex6, ex8, ex10, ex12, ex14, kinds, updateM]
          | nil =>
            by_cases h_ag : ag = 0
            rotate_left
            · have g_ag : ¬ 0 = ag := fun h => h_ag h.symm
              simp [mfF, kfF, sameM, msg0, spM, spV, extV, ex6, ex8, ex10, ex12, ex14, kinds, updateM, h_ag, g_ag]
            subst h_ag
            cases bi with
            | cons _ _ => simp [mfF, kfF, sameM, msg0, spM, spV, extV, ex6, ex8, ex10, ex12, ex14, kinds, updateM]
            | nil =>
              cases rs
              rotate_left
              · simp [mfF, kfF, sameM, msg0, spM, spV, extV, ex6, ex8, ex10, ex12, ex14, kinds, updateM]
              cases ce with
              | cons _ _ => simp [mfF, kfF, sameM, msg0, spM, spV, extV, ex6, ex8, ex10, ex12, ex14, kinds, updateM]
              | nil =>
                cases pf with
                | cons _ _ => simp [mfF, kfF, sameM, msg0, spM, spV, extV, ex6, ex8, ex10, ex12, ex14, kinds, updateM]
                | nil =>
                  by_cases h1 : ea = 0
                  · subst h1
                    simp [mfF, kfF, sameM, msg0, spM, spV, extV, ex6, ex8, ex10, ex12, ex14, kinds, updateM, si2, si4, si6, si8, siR, sizV, spT, prB_nil, ctA_nil, upF, flgB]
                  by_cases h2 : ea = 1
                  · subst h2
                    simp [mfF, kfF, sameM, msg0, spM, spV, extV, ex6, ex8, ex10, ex12, ex14, kinds, updateM, si2, si4, si6, si8, siR, sizV, spT, prB_nil, ctA_nil, upF, flgB]
                  have h3 : ea < 0 ∨ 1 < ea := by omega
                  simp [mfF, kfF, sameM, msg0, spM, spV, extV, ex6, ex8, ex10, ex12, ex14, kinds, updateM, si2, si4, si6, si8, siR, sizV, spT, prB_nil, ctA_nil, upF, flgB, h1, h2, h3]
theorem mf_eq (m : Msg) : mfF m = spM m := by
  by_cases h1 : m.k = 1
  · exact mf_hello m h1
  by_cases h2 : m.k = 2
  · exact mf_answer m h2
  by_cases h4 : m.k = 4
  · exact mf_ticket m h4
  by_cases h5 : m.k = 5
  · exact mf_end m h5
  by_cases h8 : m.k = 8
  · exact mf_extras m h8
  by_cases h11 : m.k = 11
  · exact mf_certs m h11
  by_cases h15 : m.k = 15
  · exact mf_proof m h15
  by_cases h20 : m.k = 20
  · exact mf_finished m h20
  by_cases h24 : m.k = 24
  · exact mf_update m h24
  simp [mfF, kfF, spM, spV, kinds, h1, h2, h4, h5, h8, h11, h15, h20, h24]
end Go.Proofs.YtmfajpplagbfcaaGreatDoor
namespace Go.Proofs.YtmfajpplagbfcaaGreatDoor
set_option maxRecDepth 100000
open Go Go.RowKit
theorem specMF_any (w : World) (p : MQ) (m : Msg) (h : HasM w p m) (i : IsM m) :
    Calls Tryz.prog 16 #[.agg (mgV p m)] w fun e w' => e = .returned (.int .i64 (mfF m)) ∧ Below w.heap.size w w' := by
  rw [mf_eq]
  obtain ⟨k, v, r, s, ho, pr, ti, ag, ea, bi, rs, ce, pf⟩ := m
  exact specMF_walk w k v ag ea p.a2 p.a3 p.a5 p.a6 p.a9 p.a11 p.a12 r.length s.length pr.length ti.length bi.length pf.length p.c2 p.c3 p.c5 p.c6 p.c9 p.c11 p.c12 ho rs ce p.g11 p.ps _ _ _ _ _ _
    (fun W => l13Known_any W k)
    (fun W => l13Extra_any W k v ag ea p.a2 p.a3 p.a5 p.a6 p.a9 p.a11 p.a12 r.length s.length pr.length ti.length bi.length ce.length pf.length p.c2 p.c3 p.c5 p.c6 p.c9 p.c11 p.c12 ho rs)
    (fun W => l13Sizes_any W k v ag ea p.a2 p.a3 p.a5 p.a6 p.a9 p.a11 p.a12 r.length s.length pr.length ti.length bi.length ce.length pf.length p.c2 p.c3 p.c5 p.c6 p.c9 p.c11 p.c12 ho rs)
    (fun W => specNameFault_any W ho (Nat.le_trans i.hoL (by decide)))
    (fun W n => l13Protocols_any W p.g5 p.a5 p.c5 pr 8 (h.pr.up n) i.prL (by decide) i.prZ)
    (fun W n => l13Protocols_any W p.g5 p.a5 p.c5 pr 1 (h.pr.up n) i.prL (by decide) i.prZ)
    h.ce i.ceZ i.tiL i.ceL
end Go.Proofs.YtmfajpplagbfcaaGreatDoor
namespace Go.Proofs.YtmfajpplagbfcaaGreatDoor
set_option maxRecDepth 100000
open Go Go.RowKit
theorem specEnc_any (w : World) (p : MQ) (m : Msg) (h : HasM w p m) (i : IsM m) (z : HasZ p m) :
    Calls Tryz.prog 17 #[.agg (mgV p m)] w (BodP w (encF m)) :=
  specEnc_walk w p m h i z fun W hW => specMF_any W p m hW i
end Go.Proofs.YtmfajpplagbfcaaGreatDoor
namespace Go.Proofs.YtmfajpplagbfcaaGreatDoor
set_option maxRecDepth 100000
open Go Go.RowKit
theorem he_more {v : Int} {r s : Nat} {ho : List UInt8} {ls : List (List UInt8)} {t b : Nat} {g e : Int} (h : heF v r s ho ls t b g e = 0) : (r = 32 ∧ s = 32) ∧ t ≤ 400 ∧ b ≤ 32 := by
  unfold heF at h
  by_cases h1 : (fpB v r s || !bdB t b g e) = true
  · rw [if_pos h1] at h
    simp at h
  rw [if_neg h1] at h
  rw [Bool.not_eq_true, Bool.or_eq_false_iff] at h1
  by_cases h2 : nameF ho ≠ 0
  · rw [if_pos h2] at h
    simp at h
  rw [if_neg h2] at h
  by_cases h3 : prB ls 8 = false
  · rw [if_pos h3] at h
    simp at h
  rw [if_neg h3] at h
  by_cases h4 : 400 < t
  · rw [if_pos h4] at h
    simp at h
  refine ⟨?_, by omega, ?_⟩
  · have f := h1.1
    unfold fpB at f
    rw [Bool.or_eq_false_iff, Bool.or_eq_false_iff, Bool.or_eq_false_iff] at f
    have a := of_decide_eq_false f.2.2.1
    have c := of_decide_eq_false f.2.2.2
    omega
  · have f := h1.2
    have f' : bdB t b g e = true := by simpa using f
    unfold bdB at f'
    by_cases c : t = 0
    · rw [if_pos c, Bool.and_eq_true] at f'
      have := of_decide_eq_true f'.1
      omega
    · rw [if_neg c] at f'
      have := of_decide_eq_true f'
      omega
theorem fp_more {v : Int} {r s : Nat} (h : fpF v r s = 0) : r = 32 ∧ s = 32 := by
  unfold fpF at h
  by_cases h1 : fpB v r s = true
  · rw [if_pos h1] at h
    simp at h
  · have f : fpB v r s = false := by simpa using h1
    unfold fpB at f
    rw [Bool.or_eq_false_iff, Bool.or_eq_false_iff, Bool.or_eq_false_iff] at f
    have a := of_decide_eq_false f.2.2.1
    have c := of_decide_eq_false f.2.2.2
    omega
theorem ti_more {g e : Int} {r t : Nat} (h : tiF g e r t = 0) : r = 32 ∧ t ≤ 400 := by
  unfold tiF at h
  by_cases h1 : r ≠ 32
  · rw [if_pos h1] at h
    simp at h
  rw [if_neg h1] at h
  by_cases h2 : t = 0 ∨ 400 < t
  · rw [if_pos h2] at h
    simp at h
  omega
theorem pf_more {n k : Nat} (h : pfF n k = 0) : k = n := by
  unfold pfF at h
  by_cases h1 : k ≠ n
  · rw [if_pos h1] at h
    simp at h
  · omega
theorem ce_more {bs : List (List Int)} (h : ceF bs = 0) : ∀ i, i < bs.length → (bs.getD i []).length ≤ 2000 := by
  unfold ceF at h
  by_cases c0 : bs.length = 0
  · intro i hi
    omega
  rw [if_neg c0] at h
  by_cases c1 : 4 < bs.length
  · rw [if_pos c1] at h
    simp at h
  rw [if_neg c1] at h
  intro i hi
  by_cases c2 : 2000 < (bs.getD i []).length
  · have : ctA bs = true := ctA_yes hi (by unfold ctO; simp; exact .inr (by simpa [List.getD_eq_getElem?_getD] using c2))
    rw [if_pos this] at h
    simp at h
  · omega
theorem lsL_le {ls : List (List UInt8)} (h : ls.length ≤ 8) (hz : ∀ l ∈ ls, l.length ≤ 255) : (lsL ls).length ≤ 2049 := by
  have := sh_sum ls 255 hz ls.length
  rw [List.take_of_length_le (by simp)] at this
  unfold lsL
  rw [List.length_append]
  have : ls.length * (255 + 1) ≤ 8 * (255 + 1) := Nat.mul_le_mul_right _ h
  simp only [List.length_cons, List.length_nil]
  omega
theorem clL_le {bs : List (List Int)} (n : bs.length ≤ 4) (z : ∀ i, i < bs.length → (bs.getD i []).length ≤ 2000) : (clL bs).length ≤ 8009 := by
  have := lo_sum bs 2000 z bs.length
  rw [List.take_of_length_le (by simp)] at this
  have : bs.length * (2000 + 2) ≤ 4 * (2000 + 2) := Nat.mul_le_mul_right _ n
  unfold clL
  rw [List.length_append]
  simp only [List.length_cons, List.length_nil]
  omega
theorem heL_le {v : Int} {r s : List Int} {ho : List UInt8} {pr : List (List UInt8)} {t : List Int} {ag ea : Int} {b : List Int} (h1 : r.length = 32) (h2 : s.length = 32) (h3 : ho.length ≤ 255) (h4 : pr.length ≤ 8) (h5 : ∀ l ∈ pr, l.length ≤ 255) (h6 : t.length ≤ 400) (h7 : b.length ≤ 32) : (heL v r s ho pr t ag ea b).length ≤ 9000 := by
  have := lsL_le h4 h5
  have : (bdL t ag ea b).length ≤ 37 := by
    unfold bdL
    split
    · simp
    · simp only [List.length_append, bigL_len]; omega
  unfold heL
  simp only [List.length_append, fpL_len, shL_len, loL_len]
  omega
theorem bod_le (m : Msg) (f0 : mfF m = 0) : (bodF m).length ≤ 9000 := by
  by_cases h1 : m.k = 1
  · have F : heF m.v m.r.length m.s.length m.ho m.pr m.ti.length m.bi.length m.ag m.ea = 0 := mf_zero (m' := helloM m) (by unfold kfF; rw [if_pos h1]) f0
    have eb : bodF m = heL m.v m.r m.s m.ho m.pr m.ti m.ag m.ea m.bi := by unfold bodF; rw [if_pos h1]
    rw [eb]
    have A := he_all F; have B := he_more F; exact heL_le B.1.1 B.1.2 A.2.1 (he_pr F) A.2.2.1 B.2.1 B.2.2
  by_cases h2 : m.k = 2
  · have F : fpF m.v m.r.length m.s.length = 0 := mf_zero (m' := answerM m) (by unfold kfF; rw [if_neg h1]; rw [if_pos h2]) f0
    have eb : bodF m = fpL m.v m.r m.s ++ [if m.rs = true then 1 else 0] := by unfold bodF; rw [if_neg h1]; rw [if_pos h2]
    rw [eb]
    have B := fp_more F; rw [List.length_append, fpL_len]; simp only [List.length_cons, List.length_nil]; omega
  by_cases h4 : m.k = 4
  · have F : tiF m.ag m.ea m.r.length m.ti.length = 0 := mf_zero (m' := ticketM m) (by unfold kfF; rw [if_neg h1]; rw [if_neg h2]; rw [if_pos h4]) f0
    have eb : bodF m = tkL m.ag m.ea m.r m.ti := by unfold bodF; rw [if_neg h1]; rw [if_neg h2]; rw [if_pos h4]
    rw [eb]
    have B := ti_more F; unfold tkL; simp only [List.length_append, bigL_len, loL_len]; omega
  by_cases h5 : m.k = 5
  · skip
    have eb : bodF m = [] := by unfold bodF; rw [if_neg h1]; rw [if_neg h2]; rw [if_neg h4]; rw [if_pos h5]
    rw [eb]
    simp
  by_cases h8 : m.k = 8
  · have F : exF m.pr m.ea = 0 := mf_zero (m' := extrasM m) (by unfold kfF; rw [if_neg h1]; rw [if_neg h2]; rw [if_neg h4]; rw [if_neg h5]; rw [if_pos h8]) f0
    have eb : bodF m = lsL m.pr ++ bigL m.ea 1 := by unfold bodF; rw [if_neg h1]; rw [if_neg h2]; rw [if_neg h4]; rw [if_neg h5]; rw [if_pos h8]
    rw [eb]
    have A := ex_all F; have a1 := lsL_le (ex_pr F) A.1; rw [List.length_append, bigL_len]; omega
  by_cases h11 : m.k = 11
  · have F : ceF m.ce = 0 := mf_zero (m' := certsM m) (by unfold kfF; rw [if_neg h1]; rw [if_neg h2]; rw [if_neg h4]; rw [if_neg h5]; rw [if_neg h8]; rw [if_pos h11]) f0
    have eb : bodF m = clL m.ce := by unfold bodF; rw [if_neg h1]; rw [if_neg h2]; rw [if_neg h4]; rw [if_neg h5]; rw [if_neg h8]; rw [if_pos h11]
    rw [eb]
    have a1 := clL_le (ce_n F) (ce_more F); omega
  by_cases h15 : m.k = 15
  · have F : pfF 64 m.pf.length = 0 := mf_zero (m' := proofM m) (by unfold kfF; rw [if_neg h1]; rw [if_neg h2]; rw [if_neg h4]; rw [if_neg h5]; rw [if_neg h8]; rw [if_neg h11]; rw [if_pos h15]) f0
    have eb : bodF m = m.pf := by unfold bodF; rw [if_neg h1]; rw [if_neg h2]; rw [if_neg h4]; rw [if_neg h5]; rw [if_neg h8]; rw [if_neg h11]; rw [if_pos h15]
    rw [eb]
    have B := pf_more F; omega
  by_cases h20 : m.k = 20
  · have F : pfF 32 m.pf.length = 0 := mf_zero (m' := finishedM m) (by unfold kfF; rw [if_neg h1]; rw [if_neg h2]; rw [if_neg h4]; rw [if_neg h5]; rw [if_neg h8]; rw [if_neg h11]; rw [if_neg h15]; rw [if_pos h20]) f0
    have eb : bodF m = m.pf := by unfold bodF; rw [if_neg h1]; rw [if_neg h2]; rw [if_neg h4]; rw [if_neg h5]; rw [if_neg h8]; rw [if_neg h11]; rw [if_neg h15]; rw [if_pos h20]
    rw [eb]
    have B := pf_more F; omega
  by_cases h24 : m.k = 24
  · have F : upF m.ea = 0 := mf_zero (m' := updateM m) (by unfold kfF; rw [if_neg h1]; rw [if_neg h2]; rw [if_neg h4]; rw [if_neg h5]; rw [if_neg h8]; rw [if_neg h11]; rw [if_neg h15]; rw [if_neg h20]; rw [if_pos h24]) f0
    have eb : bodF m = bigL m.ea 1 := by unfold bodF; rw [if_neg h1]; rw [if_neg h2]; rw [if_neg h4]; rw [if_neg h5]; rw [if_neg h8]; rw [if_neg h11]; rw [if_neg h15]; rw [if_neg h20]; rw [if_pos h24]
    rw [eb]
    rw [bigL_len]; omega
  exfalso
  unfold mfF kfF at f0
  rw [if_neg h1, if_neg h2, if_neg h4, if_neg h5, if_neg h8, if_neg h11, if_neg h15, if_neg h20, if_neg h24] at f0
  simp at f0
theorem enc_le (m : Msg) : (encF m).length ≤ 10000 := by
  unfold encF
  by_cases c : mfF m = 0
  · rw [if_pos c]
    have := bod_le m c
    unfold enL
    simp only [List.length_append, bigL_len, List.length_cons, List.length_nil]
    omega
  · rw [if_neg c]
    simp
end Go.Proofs.YtmfajpplagbfcaaGreatDoor
namespace Go.Proofs.YtmfajpplagbfcaaGreatDoor
set_option maxRecDepth 100000
open Go Go.RowKit
def HhP (w : World) (xs : List Int) (e : Ending) (w' : World) : Prop := (∃ (a : Option Addr) (c g : Nat), e = .returned (.slice a xs.length c) ∧ Own w' g a .u8 xs ∧ (a = none → c = 0) ∧ xs.length ≤ c ∧ w.heap.size ≤ g) ∧ Below w.heap.size w w'
theorem Own.takeH {w : World} {g : Nat} {a : Option Addr} {k : IntKind} {xs : List Int} (h : Own w g a k xs) (n : Nat) : Own w g a k (xs.take n) := fun h0 => by
  rw [List.length_take] at h0
  obtain ⟨off, ha, hc⟩ := h (by omega)
  refine ⟨off, ha, fun i hi => ?_⟩
  rw [List.length_take] at hi
  rw [show (xs.take n).getD i 0 = xs.getD i 0 by rw [List.getD_eq_getElem?_getD, List.getElem?_take, if_pos (by omega), ← List.getD_eq_getElem?_getD]]
  exact hc i (by omega)
def hhF (m : Msg) : List Int := if m.k = 1 ∧ m.ti ≠ [] ∧ mfF m = 0 then (encF m).take ((encF m).length - 32) else []
theorem hh_le (m : Msg) : (hhF m).length ≤ 10000 := by
  have := enc_le m
  unfold hhF
  split
  · rw [List.length_take]; omega
  · simp
theorem enc_some {m : Msg} (hk : m.k = 1) (h : mfF m = 0) : 32 ≤ (encF m).length := by
  have hf := mf_zero (m := m) (m' := helloM m) (f := heF m.v m.r.length m.s.length m.ho m.pr m.ti.length m.bi.length m.ag m.ea) (by unfold kfF; rw [if_pos hk]) h
  have hm := (he_more hf).1.1
  unfold encF
  rw [if_pos h]
  unfold enL bodF
  rw [if_pos hk]
  unfold heL fpL
  simp only [List.length_append]
  omega
theorem enc_none {m : Msg} (h : mfF m ≠ 0) : encF m = [] := by
  unfold encF
  rw [if_neg h]
set_option maxRecDepth 100000 in
set_option maxHeartbeats 4000000 in
theorem implHH_any (w : World) (p : MQ) (m : Msg) (h : HasM w p m) (i : IsM m) (z : HasZ p m) :
    Calls Tryz.prog 5 #[.agg (mgV p m)] w (HhP w (hhF m)) := by
  obtain ⟨OUT, hO'⟩ : ∃ l : List Int, l = hhF m := ⟨_, rfl⟩
  rw [← hO']
  have hO := hide hO'
  clear hO'
  have n0 : Below w.heap.size w (w.alloc (.cells (mgV p m) 26)) := (Below.refl _ _).alloc (Nat.le_refl _) _
  have RW : RwC (w.alloc (.cells (mgV p m) 26)) w.heap.size (mgV p m).toList 26 := RwC.new w (mgV p m).toList 26
  have C1 := hide (implEnc_any _ p m (h.up n0) i z)
  have N0 := hide n0
  have RG := RW.rangeG
  have RH := hide RW
  have EL := hide (enc_le m)
  clear n0 h i z RW
  obtain ⟨dC, hdC, hrC⟩ := rowM
  go_enter Tryz.func5, Tryz.ntmps5
  go_upto_region 1 with fail
  generalize w.alloc (.cells (mgV p m) 26) = W1 at *
  go_wp2_with (first | (refine wpList_load_mid rfl 26 (.tmp 1) rfl w.heap.size 0 rfl (mgV p m).toList dC RG hdC hrC iM ?_) | fail)
  refine C1.out.mono ?_
  rintro e w1 ⟨⟨v1, rfl, R1⟩, n1⟩
  have N1 := hide (nxt N0.out n1)
  have RW1 := RH.out.up n1
  obtain ⟨a1, c1, g1, rfl, o1, z1, l1, lg⟩ := R1.own
  have c0 : w1.cell? ⟨w.heap.size, 0, none⟩ = some (.int .i64 m.k) := RW1.cell 0
  have c6 : w1.cell? ⟨w.heap.size, 6, none⟩ = some (.slice p.a6 m.ti.length p.c6) := RW1.cell 6
  have s0 := N0.out.size
  clear RG RH C1 N0 n1 RW1 R1
  by_cases hk : m.k = 1
  rotate_left
  · have FIN : Hid (HhP w OUT (.returned (.slice none 0 0)) w1) := by
      have eo : OUT = [] := by rw [hO.out]; unfold hhF; rw [if_neg (fun h => hk h.1)]
      subst eo
      exact ⟨⟨none, 0, w.heap.size, rfl, fun h => absurd h (by simp), fun _ => rfl, by simp, Nat.le_refl _⟩, N1.out⟩
    have t1 : (m.k == 1) = false := by simp [hk]
    generalize m.k = k at *
    clear hO N1 o1
    go_wp2
    go_ret
    exact FIN.out
  by_cases ht : m.ti = []
  · have FIN : Hid (HhP w OUT (.returned (.slice none 0 0)) w1) := by
      have eo : OUT = [] := by rw [hO.out]; unfold hhF; rw [if_neg (fun h => h.2.1 ht)]
      subst eo
      exact ⟨⟨none, 0, w.heap.size, rfl, fun h => absurd h (by simp), fun _ => rfl, by simp, Nat.le_refl _⟩, N1.out⟩
    have t2 : m.ti.length = 0 := by rw [ht]; rfl
    rw [hk] at c0
    rw [t2] at c6
    clear hO N1 o1 hk ht
    go_wp2
    go_ret
    exact FIN.out
  have t2 : ((m.ti.length : Int) == 0) = false := by
    have : m.ti.length ≠ 0 := fun h => ht (List.length_eq_zero_iff.1 h)
    simp; omega
  rw [hk] at c0
  by_cases hf : mfF m = 0
  rotate_left
  · have FIN : Hid (HhP w OUT (.returned (.slice none 0 0)) w1) := by
      have eo : OUT = [] := by rw [hO.out]; unfold hhF; rw [if_neg (fun h => hf h.2.2)]
      subst eo
      exact ⟨⟨none, 0, w.heap.size, rfl, fun h => absurd h (by simp), fun _ => rfl, by simp, Nat.le_refl _⟩, N1.out⟩
    have e0 := enc_none hf
    rw [e0] at *
    generalize m.ti.length = tl at *
    clear hO N1 o1 hf hk ht e0
    go_wp2
    go_ret
    exact FIN.out
  have h32 := enc_some hk hf
  have eo : Hid (OUT = (encF m).take ((encF m).length - 32)) := by show _ = _; rw [hO.out]; unfold hhF; rw [if_pos ⟨hk, ht, hf⟩]
  have el := EL.out
  clear hO hk ht hf EL
  generalize encF m = E at *
  generalize m.ti.length = tl at *
  have lo : Hid (OUT.length = E.length - 32) := by show _ = _; rw [eo.out, List.length_take]; omega
  have OO : Hid (Own w1 g1 a1 .u8 OUT) := by show Own _ _ _ _ _; rw [eo.out]; exact o1.takeH _
  have t3 : ((E.length : Int) == 0) = false := beq_eq_false_iff_ne.2 (by omega)
  have s1 : IntKind.i64.wrap ((E.length : Int) - 32) = ((E.length - 32 : Nat) : Int) := by rw [IntKind.wrap_i64]; omega
  have s2 : ((E.length - 32 : Nat) : Int) ≤ (c1 : Int) := by omega
  obtain ⟨n, hn⟩ : ∃ n : Nat, n = E.length - 32 := ⟨_, rfl⟩
  rw [← hn] at s1 s2 lo
  have hc : n ≤ c1 := by omega
  have hcs : (n : Int) ≤ c1 := by omega
  have FIN : Hid (HhP w OUT (.returned (.slice a1 n c1)) w1) := ⟨⟨a1, c1, g1, by rw [lo.out], OO.out, z1, by rw [lo.out]; omega, by omega⟩, N1.out⟩
  generalize E.length = el' at *
  clear o1 OO eo lo N1 hn z1
  go_wp2
  go_ret
  exact FIN.out
theorem hhNone {w w1 : World} {OUT : List Int} (eo : OUT = []) (N1 : Below w.heap.size w w1) : HhP w OUT (.returned (.slice (some ⟨w1.heap.size, 0, none⟩) 0 0)) (w1.alloc (.cells #[] 5)) := by
  subst eo
  exact ⟨⟨_, 0, w.heap.size, rfl, fun h => absurd h (by simp), fun _ => rfl, by simp, Nat.le_refl _⟩, nxt N1 ((Below.refl _ _).alloc (Nat.le_refl _) _)⟩
set_option maxRecDepth 100000 in
set_option maxHeartbeats 4000000 in
theorem specHH_any (w : World) (p : MQ) (m : Msg) (h : HasM w p m) (i : IsM m) (z : HasZ p m) :
    Calls Tryz.prog 6 #[.agg (mgV p m)] w (HhP w (hhF m)) := by
  obtain ⟨OUT, hO'⟩ : ∃ l : List Int, l = hhF m := ⟨_, rfl⟩
  rw [← hO']
  have hO := hide hO'
  clear hO'
  have n0 : Below w.heap.size w (w.alloc (.cells (mgV p m) 26)) := (Below.refl _ _).alloc (Nat.le_refl _) _
  have RW : RwC (w.alloc (.cells (mgV p m) 26)) w.heap.size (mgV p m).toList 26 := RwC.new w (mgV p m).toList 26
  have C1 := hide (specMF_any _ p m (h.up n0) i)
  have C2 : Hid (∀ W, Below w.heap.size w W → Calls Tryz.prog 17 #[.agg (mgV p m)] W (BodP W (encF m))) := fun W n => specEnc_any W p m (h.up n) i z
  have N0 := hide n0
  have RG := RW.rangeG
  have RH := hide RW
  have EL := hide (enc_le m)
  clear n0 h i z RW
  obtain ⟨dC, hdC, hrC⟩ := rowM
  go_enter Tryz.func6, Tryz.ntmps6
  go_upto_region 1 with fail
  generalize w.alloc (.cells (mgV p m) 26) = W1 at *
  go_wp2_with (first | (refine wpList_load_mid rfl 26 (.tmp 1) rfl w.heap.size 0 rfl (mgV p m).toList dC RG hdC hrC iM ?_) | fail)
  refine C1.out.mono ?_
  rintro e w1 ⟨rfl, n1⟩
  have N1 := hide (nxt N0.out n1)
  have RW1 := RH.out.up n1
  have RG1 := hide RW1.rangeG
  have c0 : w1.cell? ⟨w.heap.size, 0, none⟩ = some (.int .i64 m.k) := RW1.cell 0
  have c6 : w1.cell? ⟨w.heap.size, 6, none⟩ = some (.slice p.a6 m.ti.length p.c6) := RW1.cell 6
  clear RG RH C1 N0 n1 RW1
  by_cases hf : mfF m = 0
  rotate_left
  · have FIN := hide (hhNone (OUT := OUT) (by rw [hO.out]; unfold hhF; rw [if_neg (fun h => hf h.2.2)]) N1.out)
    have t1 : (mfF m == 0) = false := by simp [hf]
    generalize mfF m = f at *
    clear hO N1 C2 EL RG1
    go_wp2
    go_ret
    exact FIN.out
  by_cases hk : m.k = 1
  rotate_left
  · have FIN := hide (hhNone (OUT := OUT) (by rw [hO.out]; unfold hhF; rw [if_neg (fun h => hk h.1)]) N1.out)
    have t1 : (m.k == 1) = false := by simp [hk]
    rw [hf]
    generalize m.k = k at *
    clear hO N1 C2 EL RG1 hf
    go_wp2
    go_ret
    exact FIN.out
  by_cases ht : m.ti = []
  · have FIN := hide (hhNone (OUT := OUT) (by rw [hO.out]; unfold hhF; rw [if_neg (fun h => h.2.1 ht)]) N1.out)
    have t2 : m.ti.length = 0 := by rw [ht]; rfl
    rw [hf]
    rw [hk] at c0
    rw [t2] at c6
    clear hO N1 C2 EL RG1 hf hk ht
    go_wp2
    go_ret
    exact FIN.out
  have t2 : ((m.ti.length : Int) == 0) = false := by
    have : m.ti.length ≠ 0 := fun h => ht (List.length_eq_zero_iff.1 h)
    simp; omega
  have h32 := enc_some hk hf
  have eo : Hid (OUT = (encF m).take ((encF m).length - 32)) := by show _ = _; rw [hO.out]; unfold hhF; rw [if_pos ⟨hk, ht, hf⟩]
  have el := EL.out
  rw [hf]
  rw [hk] at c0
  have C3 := hide ((unhide C2) w1 N1.out)
  have RG2 := RG1.out
  clear hO hk ht hf EL C2 RG1
  generalize m.ti.length = tl at *
  generalize encF m = E at *
  go_wp2_with (first | (refine wpList_load_mid rfl 26 (.tmp 1) rfl w.heap.size 0 rfl (mgV p m).toList dC RG2 hdC hrC iM ?_) | fail)
  refine C3.out.mono ?_
  rintro e w2 ⟨⟨v2, rfl, R2⟩, n2⟩
  have N2 := hide (nxt N1.out n2)
  obtain ⟨a1, c1, g1, rfl, o1, z1, l1, lg⟩ := R2.own
  clear RG2 C3 c0 c6 t2 N1 n2 R2
  have lo : OUT.length = E.length - 32 := by rw [eo.out, List.length_take]; omega
  have RR : Rd w2 g1 a1 .u8 OUT := by rw [eo.out]; exact (o1.takeH _).rd
  have s1 : IntKind.i64.wrap ((E.length : Int) - 32) = ((E.length - 32 : Nat) : Int) := by rw [IntKind.wrap_i64]; omega
  have hc : E.length - 32 ≤ c1 := by omega
  have CP := l1CopyN_any w2 g1 a1 c1 OUT RR z1 (by omega)
  rw [lo] at CP
  replace CP := hide CP
  generalize E.length = el' at *
  clear o1 eo RR
  go_wp2_with fail
  refine CP.out.mono ?_
  rintro e w3 ⟨v3, rfl, R3, n3⟩
  have FIN : Hid (HhP w OUT (.returned v3) w3) := by
    obtain ⟨a, c, g, rfl, o, zz, l, lg'⟩ := R3.own
    have := N2.out.size
    exact ⟨⟨a, c, g, rfl, o, zz, l, by omega⟩, nxt N2.out n3⟩
  clear CP R3 n3 N2 z1
  go_wp2
  go_ret
  exact FIN.out
end Go.Proofs.YtmfajpplagbfcaaGreatDoor
namespace Go.Proofs.YtmfajpplagbfcaaGreatDoor
set_option maxRecDepth 100000
open Go Go.RowKit
theorem hb_apd {xs ys : List Int} (h : Byt xs) (k : Byt ys) : Byt (xs ++ ys) := fun i => by
  rw [List.getD_eq_getElem?_getD, List.getElem?_append]
  split
  · rw [← List.getD_eq_getElem?_getD]; exact h i
  · rw [← List.getD_eq_getElem?_getD]; exact k _
theorem hb_one {x : Int} (h0 : 0 ≤ x) (h1 : x < 256) : Byt [x] := fun i => by
  match i with
  | 0 => exact ⟨h0, h1⟩
  | n + 1 => exact ⟨by simp, by simp⟩
def mSB (m : Msg) (s b : List Int) : Msg := { m with s := s, bi := b }
structure Hb (m : Msg) : Prop where
  k : m.k = 1
  t : m.ti ≠ []
  f : mfF m = 0
theorem hb_of {m : Msg} (h : hhF m ≠ []) : Hb m := by
  unfold hhF at h
  by_cases c : m.k = 1 ∧ m.ti ≠ [] ∧ mfF m = 0
  · exact ⟨c.1, c.2.1, c.2.2⟩
  · rw [if_neg c] at h
    exact absurd rfl h
theorem hb_parts {m : Msg} (h : Hb m) : sameM (helloM m) m = true ∧ heF m.v m.r.length m.s.length m.ho m.pr m.ti.length m.bi.length m.ag m.ea = 0 := by
  have hk : kfF m = some (helloM m, heF m.v m.r.length m.s.length m.ho m.pr m.ti.length m.bi.length m.ag m.ea) := by unfold kfF; rw [if_pos h.k]
  have f := h.f
  refine ⟨?_, mf_zero hk f⟩
  unfold mfF at f
  rw [hk] at f
  by_cases c : sameM (helloM m) m = true
  · exact c
  · simp [c] at f
theorem hb_bi {m : Msg} (h : Hb m) : m.bi.length = 32 := by
  have f := (hb_parts h).2
  unfold heF at f
  by_cases h1 : (fpB m.v m.r.length m.s.length || !bdB m.ti.length m.bi.length m.ag m.ea) = true
  · rw [if_pos h1] at f
    simp at f
  · rw [Bool.not_eq_true, Bool.or_eq_false_iff] at h1
    have g := h1.2
    unfold bdB at g
    rw [if_neg (fun e => h.t (List.length_eq_zero_iff.1 e))] at g
    simpa using g
theorem hb_rs {m : Msg} (h : Hb m) : m.r.length = 32 ∧ m.s.length = 32 := (he_more (hb_parts h).2).1
theorem hb_mSB {m : Msg} (h : Hb m) {s b : List Int} (hs : s.length = 32) (hb : b.length = 32) : Hb (mSB m s b) := by
  obtain ⟨p1, p2⟩ := hb_parts h
  refine ⟨h.k, h.t, ?_⟩
  have hk : kfF (mSB m s b) = some (helloM (mSB m s b), heF m.v m.r.length s.length m.ho m.pr m.ti.length b.length m.ag m.ea) := by unfold kfF; exact if_pos h.k
  unfold mfF
  rw [hk, hs, hb]
  rw [hb_bi h, (hb_rs h).2] at p2
  have c : sameM (helloM (mSB m s b)) (mSB m s b) = true := by
    simp [sameM, helloM, msg0, mSB] at p1 ⊢
    exact p1
  show (if sameM (helloM (mSB m s b)) (mSB m s b) = true then heF m.v m.r.length 32 m.ho m.pr m.ti.length 32 m.ag m.ea else 2) = 0
  rw [if_pos c]
  exact p2
def hdR (m : Msg) : List Int := shL m.ho ++ (lsL m.pr ++ (loL m.ti ++ (bigL m.ag 4 ++ bigL m.ea 1)))
def hdL (m : Msg) (s : List Int) : List Int := ([1] ++ bigL ((97 + (hdR m).length : Nat) : Int) 3 ++ (bigL m.v 1 ++ m.r)) ++ (s ++ hdR m)
theorem enc_hb {m : Msg} (h : Hb m) {s b : List Int} (hs : s.length = 32) (hb : b.length = 32) : encF (mSB m s b) = hdL m s ++ b := by
  have h' := hb_mSB h hs hb
  unfold encF
  rw [if_pos h'.f]
  have e1 : bodF (mSB m s b) = (bigL m.v 1 ++ m.r) ++ (s ++ hdR m) ++ b := by
    unfold bodF
    rw [if_pos h'.k]
    unfold heL fpL bdL hdR
    rw [if_neg (fun e => h'.t (List.length_eq_zero_iff.1 e))]
    simp [mSB, List.append_assoc]
  have e2 : (bodF (mSB m s b)).length = 97 + (hdR m).length := by
    rw [e1]
    have := (hb_rs h).1
    simp only [List.length_append, bigL_len]
    omega
  unfold enL
  rw [e2, e1, show (mSB m s b).k = 1 from h.k]
  unfold hdL
  simp [List.append_assoc]
theorem hh_hb {m : Msg} (h : Hb m) {s b : List Int} (hs : s.length = 32) (hb : b.length = 32) : hhF (mSB m s b) = hdL m s := by
  have h' := hb_mSB h hs hb
  unfold hhF
  rw [if_pos ⟨h'.k, h'.t, h'.f⟩, enc_hb h hs hb, List.length_append, hb, Nat.add_sub_cancel, List.take_left]
theorem hh_self {m : Msg} (h : Hb m) : hhF m = hdL m m.s := hh_hb (s := m.s) (b := m.bi) h (hb_rs h).2 (hb_bi h)
theorem hd_ne {m : Msg} {s s' : List Int} (hl : s.length = s'.length) (h : s ≠ s') : hdL m s ≠ hdL m s' := fun e => by
  unfold hdL at e
  have e1 := List.append_cancel_left e
  exact h (List.append_inj e1 hl).1
theorem hbT_byt (l : List UInt8) : Byt (txL l) := fun i => by
  rw [List.getD_eq_getElem?_getD]
  unfold txL
  rw [List.getElem?_map]
  cases l[i]? with
  | none => simp
  | some u =>
    have := u.toNat_lt
    simp
    omega
theorem hb_flat {ls : List (List Int)} (h : ∀ l ∈ ls, Byt l) : Byt ls.flatten := by
  induction ls with
  | nil => exact byt_nil
  | cons l ls ih =>
    rw [List.flatten_cons]
    exact hb_apd (h l (by simp)) (ih fun x hx => h x (by simp [hx]))
theorem hb_lsL {ls : List (List UInt8)} (h : ls.length < 256) : Byt (lsL ls) := by
  refine hb_apd (hb_one (by omega) (by omega)) (hb_flat fun l hl => ?_)
  obtain ⟨t, _, rfl⟩ := List.mem_map.1 hl
  exact hb_apd (bigL_byt _ _) (hbT_byt _)
theorem hd_byt {m : Msg} (h : Hb m) (i : IsM m) {s : List Int} (hs : Byt s) : Byt (hdL m s) := by
  have n5 := he_pr (hb_parts h).2
  exact hb_apd (hb_apd (hb_apd (hb_one (by omega) (by omega)) (bigL_byt _ _)) (hb_apd (bigL_byt _ _) i.rB)) (hb_apd hs (hb_apd (hb_apd (bigL_byt _ _) (hbT_byt _)) (hb_apd (hb_lsL (by omega)) (hb_apd (hb_apd (bigL_byt _ _) i.tiB) (hb_apd (bigL_byt _ _) (bigL_byt _ _))))))
theorem enc_end : (encF { msg0 with k := 5 }).length = 4 := by decide
end Go.Proofs.YtmfajpplagbfcaaGreatDoor
