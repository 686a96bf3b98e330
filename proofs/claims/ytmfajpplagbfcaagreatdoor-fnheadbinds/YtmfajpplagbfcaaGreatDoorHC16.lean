import Derived.Test.YtmfajpplagbfcaaGreatDoorHC11
import Derived.Test.YtmfajpplagbfcaaGreatDoorHC15
import Derived.Deep.MidRow
namespace Go.Proofs.YtmfajpplagbfcaaGreatDoor
set_option maxRecDepth 100000
open Go Go.RowKit
def bodF (m : Msg) : List Int := if m.k = 1 then heL m.v m.r m.s m.ho m.pr m.ti m.ag m.ea m.bi else if m.k = 2 then fpL m.v m.r m.s ++ [if m.rs = true then 1 else 0] else if m.k = 4 then tkL m.ag m.ea m.r m.ti else if m.k = 5 then [] else if m.k = 8 then lsL m.pr ++ bigL m.ea 1 else if m.k = 11 then clL m.ce else if m.k = 15 then m.pf else if m.k = 20 then m.pf else if m.k = 24 then bigL m.ea 1 else []
def encF (m : Msg) : List Int := if mfF m = 0 then enL m.k (bodF m) else []
theorem encF_of {m : Msg} {m' : Msg} {f : Int} {b : List Int} (h : kfF m = some (m', f)) (hb : bodF m = b) : encF m = if sameM m' m = true ∧ f = 0 then enL m.k b else [] := by
  unfold encF mfF
  rw [h, hb]
  by_cases c : sameM m' m = true
  · by_cases d : f = 0
    · simp [c, d]
    · simp [c, d]
  · simp [c]
set_option maxHeartbeats 1000000 in
theorem encNone (w : World) (x0 x1 x2 x3 x4 x5 x6 x7 x8 x9 x10 x11 x12 : Value)
    (TO : ∀ W, Below w.heap.size w W → Calls Tryz.prog 19 #[.agg #[x0, x1, x2, x3, x4, x5, x6, x7, x8, x9, x10, x11, x12]] W fun e w' => e = .returned (.tuple #[.nilIface, .int .i64 1]) ∧ Below W.heap.size W w') :
    Calls Tryz.prog 7 #[.agg #[x0, x1, x2, x3, x4, x5, x6, x7, x8, x9, x10, x11, x12]] w (BodP w []) := by
  have n0 : Below w.heap.size w (w.alloc (.cells #[x0, x1, x2, x3, x4, x5, x6, x7, x8, x9, x10, x11, x12] 26)) := (Below.refl _ _).alloc (Nat.le_refl _) _
  have CC := hide (TO _ n0)
  have RG := RwC.range (RwC.new w [x0, x1, x2, x3, x4, x5, x6, x7, x8, x9, x10, x11, x12] 26)
  obtain ⟨d13, hd13, hrow13⟩ := rowM
  have N0 := hide n0
  clear TO n0
  go_enter Tryz.func7, Tryz.ntmps7
  go_wp2_with fail
  refine CC.out.mono ?_
  rintro e w1 ⟨rfl, n1⟩
  have N1 := nxt N0.out n1
  clear CC RG n1
  go_wp2
  go_ret
  exact ⟨⟨_, rfl, RowB.nil _ _⟩, N1⟩
theorem implEnc_any (w : World) (p : MQ) (m : Msg) (h : HasM w p m) (i : IsM m) (z : HasZ p m) :
    Calls Tryz.prog 7 #[.agg (mgV p m)] w (BodP w (encF m)) := by
  by_cases h1 : m.k = 1
  · rw [encF_of (m := m) (m' := helloM m) (f := heF m.v m.r.length m.s.length m.ho m.pr m.ti.length m.bi.length m.ag m.ea) (b := heL m.v m.r m.s m.ho m.pr m.ti m.ag m.ea m.bi) (by unfold kfF; rw [if_pos h1]) (by unfold bodF; rw [if_pos h1]), h1]
    exact implEncHello w p m.k m.v m.r m.s m.ho m.pr m.ti m.ag m.ea m.bi m.rs m.ce m.pf h i z h1
  by_cases h2 : m.k = 2
  · rw [encF_of (m := m) (m' := answerM m) (f := fpF m.v m.r.length m.s.length) (b := fpL m.v m.r m.s ++ [if m.rs = true then 1 else 0]) (by unfold kfF; rw [if_neg h1]; rw [if_pos h2]) (by unfold bodF; rw [if_neg h1]; rw [if_pos h2]), h2]
    exact implEncAnswer w p m.k m.v m.r m.s m.ho m.pr m.ti m.ag m.ea m.bi m.rs m.ce m.pf h i z h2
  by_cases h4 : m.k = 4
  · rw [encF_of (m := m) (m' := ticketM m) (f := tiF m.ag m.ea m.r.length m.ti.length) (b := tkL m.ag m.ea m.r m.ti) (by unfold kfF; rw [if_neg h1]; rw [if_neg h2]; rw [if_pos h4]) (by unfold bodF; rw [if_neg h1]; rw [if_neg h2]; rw [if_pos h4]), h4]
    exact implEncTicket w p m.k m.v m.r m.s m.ho m.pr m.ti m.ag m.ea m.bi m.rs m.ce m.pf h i z h4
  by_cases h5 : m.k = 5
  · rw [encF_of (m := m) (m' := endM m) (f := 0) (b := []) (by unfold kfF; rw [if_neg h1]; rw [if_neg h2]; rw [if_neg h4]; rw [if_pos h5]) (by unfold bodF; rw [if_neg h1]; rw [if_neg h2]; rw [if_neg h4]; rw [if_pos h5]), h5]
    exact implEncEnd w p m.k m.v m.r m.s m.ho m.pr m.ti m.ag m.ea m.bi m.rs m.ce m.pf h i z h5
  by_cases h8 : m.k = 8
  · rw [encF_of (m := m) (m' := extrasM m) (f := exF m.pr m.ea) (b := lsL m.pr ++ bigL m.ea 1) (by unfold kfF; rw [if_neg h1]; rw [if_neg h2]; rw [if_neg h4]; rw [if_neg h5]; rw [if_pos h8]) (by unfold bodF; rw [if_neg h1]; rw [if_neg h2]; rw [if_neg h4]; rw [if_neg h5]; rw [if_pos h8]), h8]
    exact implEncExtras w p m.k m.v m.r m.s m.ho m.pr m.ti m.ag m.ea m.bi m.rs m.ce m.pf h i z h8
  by_cases h11 : m.k = 11
  · rw [encF_of (m := m) (m' := certsM m) (f := ceF m.ce) (b := clL m.ce) (by unfold kfF; rw [if_neg h1]; rw [if_neg h2]; rw [if_neg h4]; rw [if_neg h5]; rw [if_neg h8]; rw [if_pos h11]) (by unfold bodF; rw [if_neg h1]; rw [if_neg h2]; rw [if_neg h4]; rw [if_neg h5]; rw [if_neg h8]; rw [if_pos h11]), h11]
    exact implEncCerts w p m.k m.v m.r m.s m.ho m.pr m.ti m.ag m.ea m.bi m.rs m.ce m.pf h i z h11
  by_cases h15 : m.k = 15
  · rw [encF_of (m := m) (m' := proofM m) (f := pfF 64 m.pf.length) (b := m.pf) (by unfold kfF; rw [if_neg h1]; rw [if_neg h2]; rw [if_neg h4]; rw [if_neg h5]; rw [if_neg h8]; rw [if_neg h11]; rw [if_pos h15]) (by unfold bodF; rw [if_neg h1]; rw [if_neg h2]; rw [if_neg h4]; rw [if_neg h5]; rw [if_neg h8]; rw [if_neg h11]; rw [if_pos h15]), h15]
    exact implEncProof w p m.k m.v m.r m.s m.ho m.pr m.ti m.ag m.ea m.bi m.rs m.ce m.pf h i z h15
  by_cases h20 : m.k = 20
  · rw [encF_of (m := m) (m' := finishedM m) (f := pfF 32 m.pf.length) (b := m.pf) (by unfold kfF; rw [if_neg h1]; rw [if_neg h2]; rw [if_neg h4]; rw [if_neg h5]; rw [if_neg h8]; rw [if_neg h11]; rw [if_neg h15]; rw [if_pos h20]) (by unfold bodF; rw [if_neg h1]; rw [if_neg h2]; rw [if_neg h4]; rw [if_neg h5]; rw [if_neg h8]; rw [if_neg h11]; rw [if_neg h15]; rw [if_pos h20]), h20]
    exact implEncFinished w p m.k m.v m.r m.s m.ho m.pr m.ti m.ag m.ea m.bi m.rs m.ce m.pf h i z h20
  by_cases h24 : m.k = 24
  · rw [encF_of (m := m) (m' := updateM m) (f := upF m.ea) (b := bigL m.ea 1) (by unfold kfF; rw [if_neg h1]; rw [if_neg h2]; rw [if_neg h4]; rw [if_neg h5]; rw [if_neg h8]; rw [if_neg h11]; rw [if_neg h15]; rw [if_neg h20]; rw [if_pos h24]) (by unfold bodF; rw [if_neg h1]; rw [if_neg h2]; rw [if_neg h4]; rw [if_neg h5]; rw [if_neg h8]; rw [if_neg h11]; rw [if_neg h15]; rw [if_neg h20]; rw [if_pos h24]), h24]
    exact implEncUpdate w p m.k m.v m.r m.s m.ho m.pr m.ti m.ag m.ea m.bi m.rs m.ce m.pf h i z h24
  have e0 : encF m = [] := by
    unfold encF mfF kfF
    rw [if_neg h1, if_neg h2, if_neg h4, if_neg h5, if_neg h8, if_neg h11, if_neg h15, if_neg h20, if_neg h24]
    rfl
  rw [e0]
  refine encNone w _ _ _ _ _ _ _ _ _ _ _ _ _ fun W n => ?_
  refine (typedNone_any W m.k m.v m.ag m.ea p.a2 p.a3 p.a5 p.a6 p.a9 p.a11 p.a12 m.r.length m.s.length m.pr.length m.ti.length m.bi.length m.ce.length m.pf.length p.c2 p.c3 p.c5 p.c6 p.c9 p.c11 p.c12 ⟨⟨m.ho⟩⟩ m.rs ?_).mono ?_
  · unfold regV
    rw [if_neg h1, if_neg h2, if_neg h4, if_neg h5, if_neg h8, if_neg h11, if_neg h15, if_neg h20, if_neg h24]
  · rintro e w' ⟨rfl, n'⟩
    exact ⟨rfl, n'⟩
end Go.Proofs.YtmfajpplagbfcaaGreatDoor
namespace Go.Proofs.YtmfajpplagbfcaaGreatDoor
set_option maxRecDepth 100000
open Go Go.RowKit
theorem pr_all {ls : List (List UInt8)} {n : Nat} (h : prB ls n ≠ false) : ∀ l ∈ ls, l.length ≤ 255 := by
  unfold prB at h
  rw [Bool.ne_false_iff, Bool.and_eq_true] at h
  have h2 := List.all_eq_true.1 h.2
  intro l hl
  obtain ⟨i, hi, rfl⟩ := List.getElem_of_mem hl
  have h3 := h2 i (List.mem_range.2 hi)
  unfold prA at h3
  rw [List.getD_eq_getElem?_getD, List.getElem?_eq_getElem hi, Option.getD_some, Bool.and_eq_true, Bool.and_eq_true] at h3
  have := of_decide_eq_true h3.2.1
  omega
theorem fp_all {v : Int} {r s : Nat} (h : fpB v r s = false) : 0 ≤ v ∧ v ≤ 255 := by
  unfold fpB at h
  rw [Bool.or_eq_false_iff, Bool.or_eq_false_iff] at h
  have a := of_decide_eq_false h.1
  have b := of_decide_eq_false h.2.1
  omega
theorem age_all {g : Int} (h : ageB g = true) : 0 ≤ g ∧ g < 9223372036854775808 := by
  unfold ageB at h
  rw [Bool.and_eq_true] at h
  have a := of_decide_eq_true h.1
  have b := of_decide_eq_true h.2
  omega
theorem flg_all {g : Int} (h : flgB g = true) : 0 ≤ g ∧ g ≤ 255 := by
  unfold flgB at h
  rw [Bool.or_eq_true] at h
  rcases h with h | h
  · have a := of_decide_eq_true h
    omega
  · have a := of_decide_eq_true h
    omega
theorem name_all {ho : List UInt8} (h : nameF ho = 0) : ho.length ≤ 255 := by
  unfold nameF at h
  by_cases c : ho.length < 1 ∨ 128 < ho.length
  · rw [if_pos c] at h
    simp at h
  · omega
theorem he_all {v : Int} {r s : Nat} {ho : List UInt8} {ls : List (List UInt8)} {t b : Nat} {g e : Int} (h : heF v r s ho ls t b g e = 0) : (0 ≤ v ∧ v ≤ 255) ∧ ho.length ≤ 255 ∧ (∀ l ∈ ls, l.length ≤ 255) ∧ (0 ≤ g ∧ g < 9223372036854775808) ∧ (0 ≤ e ∧ e ≤ 255) := by
  unfold heF at h
  by_cases h1 : (fpB v r s || !bdB t b g e) = true
  · rw [if_pos h1] at h
    simp at h
  rw [if_neg h1] at h
  rw [Bool.not_eq_true, Bool.or_eq_false_iff] at h1
  by_cases h2 : nameF ho ≠ 0
  · rw [if_pos h2] at h
    simp at h
  rw [if_neg h2] at h
  by_cases h3 : prB ls 8 = false
  · rw [if_pos h3] at h
    simp at h
  rw [if_neg h3] at h
  by_cases h4 : 400 < t
  · rw [if_pos h4] at h
    simp at h
  rw [if_neg h4] at h
  by_cases h5 : (!ageB g || !flgB e) = true
  · rw [if_pos h5] at h
    simp at h
  rw [Bool.not_eq_true, Bool.or_eq_false_iff] at h5
  exact ⟨fp_all h1.1, name_all (Classical.not_not.1 h2), pr_all h3, age_all (by simpa using h5.1), flg_all (by simpa using h5.2)⟩
theorem fpF_all {v : Int} {r s : Nat} (h : fpF v r s = 0) : 0 ≤ v ∧ v ≤ 255 := by
  unfold fpF at h
  by_cases h1 : fpB v r s = true
  · rw [if_pos h1] at h
    simp at h
  · exact fp_all (by simpa using h1)
theorem ti_all {g e : Int} {r t : Nat} (h : tiF g e r t = 0) : (0 ≤ g ∧ g < 9223372036854775808) ∧ (0 ≤ e ∧ e < 9223372036854775808) := by
  unfold tiF at h
  by_cases h1 : r ≠ 32
  · rw [if_pos h1] at h
    simp at h
  rw [if_neg h1] at h
  by_cases h2 : t = 0 ∨ 400 < t
  · rw [if_pos h2] at h
    simp at h
  rw [if_neg h2] at h
  by_cases h5 : (!ageB g || !ageB e) = true
  · rw [if_pos h5] at h
    simp at h
  rw [Bool.not_eq_true, Bool.or_eq_false_iff] at h5
  exact ⟨age_all (by simpa using h5.1), age_all (by simpa using h5.2)⟩
theorem ex_all {ls : List (List UInt8)} {e : Int} (h : exF ls e = 0) : (∀ l ∈ ls, l.length ≤ 255) ∧ (0 ≤ e ∧ e ≤ 255) := by
  unfold exF at h
  by_cases h1 : prB ls 1 = false
  · rw [if_pos h1] at h
    simp at h
  rw [if_neg h1] at h
  by_cases h2 : flgB e = false
  · rw [if_pos h2] at h
    simp at h
  exact ⟨pr_all h1, flg_all (by simpa using h2)⟩
theorem up_all {e : Int} (h : upF e = 0) : 0 ≤ e ∧ e ≤ 255 := by
  unfold upF at h
  by_cases h2 : flgB e = false
  · rw [if_pos h2] at h
    simp at h
  exact flg_all (by simpa using h2)
theorem mf_zero {m m' : Msg} {f : Int} (hk : kfF m = some (m', f)) (h : mfF m = 0) : f = 0 := by
  unfold mfF at h
  rw [hk] at h
  by_cases c : sameM m' m = true
  · simpa [c] using h
  · simp [c] at h
def SbP (w : World) (p : MQ) (m : Msg) : Prop := Calls Tryz.prog 36 #[.agg (mgV p m)] w (BodP w (bodF m)) ∧ (bodF m).length ≤ 536870912 ∧ 0 ≤ m.k ∧ m.k ≤ 255
set_option maxRecDepth 100000 in
theorem sb_any (w : World) (p : MQ) (m : Msg) (h : HasM w p m) (i : IsM m) (z : HasZ p m) (f0 : mfF m = 0) : SbP w p m := by
  unfold SbP
  by_cases h1 : m.k = 1
  · have F : heF m.v m.r.length m.s.length m.ho m.pr m.ti.length m.bi.length m.ag m.ea = 0 := mf_zero (m' := helloM m) (by unfold kfF; rw [if_pos h1]) f0
    have eb : bodF m = heL m.v m.r m.s m.ho m.pr m.ti m.ag m.ea m.bi := by unfold bodF; rw [if_pos h1]
    have kk : 0 ≤ m.k ∧ m.k ≤ 255 := by omega
    rw [eb]
    unfold mgV
    rw [h1] at kk ⊢
    have A := he_all F; exact ⟨sbHello_any w _ _ _ m.v A.1.1 A.1.2 ⟨p.g2, p.a2, p.c2, m.r⟩ ⟨p.g3, p.a3, p.c3, m.s⟩ ⟨p.g6, p.a6, p.c6, m.ti⟩ ⟨p.g9, p.a9, p.c9, m.bi⟩ (lstR_of h.r z.z2 i.rL) (lstR_of h.s z.z3 i.sL) (lstR_of h.ti z.z6 i.tiL) (lstR_of h.bi z.z9 i.biL) m.ho A.2.1 p.g5 p.a5 p.c5 m.pr (txsR_of h.pr (he_pr F) i.prZ) A.2.2.1 m.ag m.ea A.2.2.2.1.1 A.2.2.2.1.2 A.2.2.2.2.1 A.2.2.2.2.2, heL_len i.rL i.sL i.hoL (he_pr F) i.prZ i.tiL i.biL, kk⟩
  by_cases h2 : m.k = 2
  · have F : fpF m.v m.r.length m.s.length = 0 := mf_zero (m' := answerM m) (by unfold kfF; rw [if_neg h1]; rw [if_pos h2]) f0
    have eb : bodF m = fpL m.v m.r m.s ++ [if m.rs = true then 1 else 0] := by unfold bodF; rw [if_neg h1]; rw [if_pos h2]
    have kk : 0 ≤ m.k ∧ m.k ≤ 255 := by omega
    rw [eb]
    unfold mgV
    rw [h2] at kk ⊢
    have A := fpF_all F; exact ⟨sbAnswer_any w _ _ _ _ _ _ _ _ m.v A.1 A.2 ⟨p.g2, p.a2, p.c2, m.r⟩ ⟨p.g3, p.a3, p.c3, m.s⟩ (lstR_of h.r z.z2 i.rL) (lstR_of h.s z.z3 i.sL) m.rs, by have a1 := i.rL; have a2 := i.sL; rw [List.length_append, fpL_len]; simp only [List.length_cons, List.length_nil]; omega, kk⟩
  by_cases h4 : m.k = 4
  · have F : tiF m.ag m.ea m.r.length m.ti.length = 0 := mf_zero (m' := ticketM m) (by unfold kfF; rw [if_neg h1]; rw [if_neg h2]; rw [if_pos h4]) f0
    have eb : bodF m = tkL m.ag m.ea m.r m.ti := by unfold bodF; rw [if_neg h1]; rw [if_neg h2]; rw [if_pos h4]
    have kk : 0 ≤ m.k ∧ m.k ≤ 255 := by omega
    rw [eb]
    unfold mgV
    rw [h4] at kk ⊢
    have A := ti_all F; exact ⟨sbTicket_any w _ _ _ _ _ _ _ _ m.ag m.ea A.1.1 A.1.2 A.2.1 A.2.2 ⟨p.g2, p.a2, p.c2, m.r⟩ ⟨p.g6, p.a6, p.c6, m.ti⟩ (lstR_of h.r z.z2 i.rL) (lstR_of h.ti z.z6 i.tiL), by have a1 := i.rL; have a2 := i.tiL; unfold tkL; simp only [List.length_append, bigL_len, loL_len]; omega, kk⟩
  by_cases h5 : m.k = 5
  · skip
    have eb : bodF m = [] := by unfold bodF; rw [if_neg h1]; rw [if_neg h2]; rw [if_neg h4]; rw [if_pos h5]
    have kk : 0 ≤ m.k ∧ m.k ≤ 255 := by omega
    rw [eb]
    unfold mgV
    rw [h5] at kk ⊢
    exact ⟨sbEnd_any w _ _ _ _ _ _ _ _ _ _ _ _, by simp, kk⟩
  by_cases h8 : m.k = 8
  · have F : exF m.pr m.ea = 0 := mf_zero (m' := extrasM m) (by unfold kfF; rw [if_neg h1]; rw [if_neg h2]; rw [if_neg h4]; rw [if_neg h5]; rw [if_pos h8]) f0
    have eb : bodF m = lsL m.pr ++ bigL m.ea 1 := by unfold bodF; rw [if_neg h1]; rw [if_neg h2]; rw [if_neg h4]; rw [if_neg h5]; rw [if_pos h8]
    have kk : 0 ≤ m.k ∧ m.k ≤ 255 := by omega
    rw [eb]
    unfold mgV
    rw [h8] at kk ⊢
    have A := ex_all F; exact ⟨sbExtras_any w _ _ _ _ _ _ _ _ _ _ p.g5 p.a5 p.c5 m.pr (txsR_of h.pr (ex_pr F) i.prZ) A.1 m.ea A.2.1 A.2.2, by have a1 := lsL_len m.pr (ex_pr F) i.prZ; rw [List.length_append, bigL_len]; omega, kk⟩
  by_cases h11 : m.k = 11
  · have F : ceF m.ce = 0 := mf_zero (m' := certsM m) (by unfold kfF; rw [if_neg h1]; rw [if_neg h2]; rw [if_neg h4]; rw [if_neg h5]; rw [if_neg h8]; rw [if_pos h11]) f0
    have eb : bodF m = clL m.ce := by unfold bodF; rw [if_neg h1]; rw [if_neg h2]; rw [if_neg h4]; rw [if_neg h5]; rw [if_neg h8]; rw [if_pos h11]
    have kk : 0 ≤ m.k ∧ m.k ≤ 255 := by omega
    rw [eb]
    unfold mgV
    rw [h11] at kk ⊢
    exact ⟨sbCerts_any w _ _ _ _ _ _ _ _ _ _ _ p.g11 p.a11 p.c11 m.ce p.ps (ctsR_of h.ce (ce_n F) i.ceZ z.zc), clL_len (ce_n F) i.ceZ, kk⟩
  by_cases h15 : m.k = 15
  · have F : pfF 64 m.pf.length = 0 := mf_zero (m' := proofM m) (by unfold kfF; rw [if_neg h1]; rw [if_neg h2]; rw [if_neg h4]; rw [if_neg h5]; rw [if_neg h8]; rw [if_neg h11]; rw [if_pos h15]) f0
    have eb : bodF m = m.pf := by unfold bodF; rw [if_neg h1]; rw [if_neg h2]; rw [if_neg h4]; rw [if_neg h5]; rw [if_neg h8]; rw [if_neg h11]; rw [if_pos h15]
    have kk : 0 ≤ m.k ∧ m.k ≤ 255 := by omega
    rw [eb]
    unfold mgV
    rw [h15] at kk ⊢
    exact ⟨sbProof_any w _ _ _ _ _ _ _ _ _ _ _ ⟨p.g12, p.a12, p.c12, m.pf⟩ (lstR_of h.pf z.z12 i.pfL), by have a1 := i.pfL; omega, kk⟩
  by_cases h20 : m.k = 20
  · have F : pfF 32 m.pf.length = 0 := mf_zero (m' := finishedM m) (by unfold kfF; rw [if_neg h1]; rw [if_neg h2]; rw [if_neg h4]; rw [if_neg h5]; rw [if_neg h8]; rw [if_neg h11]; rw [if_neg h15]; rw [if_pos h20]) f0
    have eb : bodF m = m.pf := by unfold bodF; rw [if_neg h1]; rw [if_neg h2]; rw [if_neg h4]; rw [if_neg h5]; rw [if_neg h8]; rw [if_neg h11]; rw [if_neg h15]; rw [if_pos h20]
    have kk : 0 ≤ m.k ∧ m.k ≤ 255 := by omega
    rw [eb]
    unfold mgV
    rw [h20] at kk ⊢
    exact ⟨sbFinished_any w _ _ _ _ _ _ _ _ _ _ _ ⟨p.g12, p.a12, p.c12, m.pf⟩ (lstR_of h.pf z.z12 i.pfL), by have a1 := i.pfL; omega, kk⟩
  by_cases h24 : m.k = 24
  · have F : upF m.ea = 0 := mf_zero (m' := updateM m) (by unfold kfF; rw [if_neg h1]; rw [if_neg h2]; rw [if_neg h4]; rw [if_neg h5]; rw [if_neg h8]; rw [if_neg h11]; rw [if_neg h15]; rw [if_neg h20]; rw [if_pos h24]) f0
    have eb : bodF m = bigL m.ea 1 := by unfold bodF; rw [if_neg h1]; rw [if_neg h2]; rw [if_neg h4]; rw [if_neg h5]; rw [if_neg h8]; rw [if_neg h11]; rw [if_neg h15]; rw [if_neg h20]; rw [if_pos h24]
    have kk : 0 ≤ m.k ∧ m.k ≤ 255 := by omega
    rw [eb]
    unfold mgV
    rw [h24] at kk ⊢
    have A := up_all F; exact ⟨sbUpdate_any w _ _ _ _ _ _ _ _ _ _ _ m.ea A.1 A.2, by rw [bigL_len]; omega, kk⟩
  exfalso
  unfold mfF kfF at f0
  rw [if_neg h1, if_neg h2, if_neg h4, if_neg h5, if_neg h8, if_neg h11, if_neg h15, if_neg h20, if_neg h24] at f0
  simp at f0
end Go.Proofs.YtmfajpplagbfcaaGreatDoor
namespace Go.Proofs.YtmfajpplagbfcaaGreatDoor
set_option maxRecDepth 100000
open Go Go.RowKit
set_option maxRecDepth 100000 in
set_option maxHeartbeats 8000000 in
theorem specEnc_walk (w : World) (p : MQ) (m : Msg) (h : HasM w p m) (i : IsM m) (z : HasZ p m)
    (MF : ∀ W, HasM W p m → Calls Tryz.prog 16 #[.agg (mgV p m)] W fun e w' => e = .returned (.int .i64 (mfF m)) ∧ Below W.heap.size W w') :
    Calls Tryz.prog 17 #[.agg (mgV p m)] w (BodP w (encF m)) := by
  obtain ⟨i0, hi, hz0, hz1, hz2⟩ := info_parts Tryz.info5
  obtain ⟨OUT, hO'⟩ : ∃ l : List Int, l = encF m := ⟨_, rfl⟩
  rw [← hO']
  have hO := hide hO'
  clear hO'
  have n0 : Below w.heap.size w (w.alloc (.cells (mgV p m) 26)) := (Below.refl _ _).alloc (Nat.le_refl _) _
  have RW : RwC (w.alloc (.cells (mgV p m) 26)) w.heap.size (mgV p m).toList 26 := RwC.new w (mgV p m).toList 26
  have C1 := hide (MF _ (h.up n0))
  have SB : Hid (∀ W, Below w.heap.size w W → mfF m = 0 → SbP W p m) := fun W n f0 => sb_any W p m (h.up n) i z f0
  have N0 := hide n0
  have RG := RW.rangeG
  have RH := hide RW
  clear n0 MF h i z RW
  obtain ⟨dC, hdC, hrC⟩ := rowM
  go_enter Tryz.func17, Tryz.ntmps17
  go_upto_region 1 with fail
  generalize w.alloc (.cells (mgV p m) 26) = W1 at *
  go_wp2_with (first | (refine wpList_load_mid rfl 26 (.tmp 1) rfl w.heap.size 0 rfl (mgV p m).toList dC RG hdC hrC iM ?_) | fail)
  refine C1.out.mono ?_
  rintro e w1 ⟨rfl, n1⟩
  have N1 := nxt N0.out n1
  have RW1 := RH.out.up n1
  clear RG RH C1 N0 n1
  by_cases f0 : mfF m = 0
  rotate_left
  · have eo : Hid (OUT = []) := by show _ = _; rw [hO.out]; unfold encF; rw [if_neg f0]
    clear SB hO RW1
    generalize mfF m = f at *
    have d0 : (f == 0) = false := beq_eq_false_iff_ne.2 f0
    have FIN : Hid (BodP w OUT (.returned (.slice (some ⟨w1.heap.size, 0, none⟩) 0 0)) (w1.alloc (.cells #[] 5))) := ⟨⟨_, rfl, by rw [eo.out]; exact (RowB.lit0 w1).base N1.size⟩, nxt N1 ((Below.refl _ _).alloc (Nat.le_refl _) _)⟩
    clear eo N1
    go_wp2
    go_ret
    exact FIN.out
  obtain ⟨S1, S2, S3, S4⟩ := (unhide SB) w1 N1 f0
  have hO2 : Hid (OUT = ([m.k] ++ bigL ((bodF m).length : Int) 3) ++ bodF m) := by show _ = _; rw [hO.out]; unfold encF enL; rw [if_pos f0]
  have S5 := hide S1
  have RG1 := RW1.rangeG
  clear SB hO S1
  rw [f0]
  clear f0
  go_wp2_with (first | (refine wpList_load_mid rfl 26 (.tmp 1) rfl w.heap.size 0 rfl (mgV p m).toList dC RG1 hdC hrC iM ?_) | fail)
  refine S5.out.mono ?_
  rintro e w2 ⟨⟨v2, rfl, R2⟩, n2⟩
  have N2 := nxt N1 n2
  have RW2 := RW1.up n2
  obtain ⟨a2, c2, g2, rfl, r2, z2⟩ := row_slice R2
  clear RG1 RW1 S5 N1 n2 R2
  generalize bodF m = bl at *
  have kc : w2.cell? ⟨w.heap.size, 0, none⟩ = some (.int .i64 m.k) := RW2.cell 0
  have kq := RW2.lt
  clear RW2
  generalize m.k = k at *
  have w8 : IntKind.u8.wrap k = k := by simp [IntKind.wrap, IntKind.signed, IntKind.bits]; omega
  go_upto_region 4 with fail
  have nd : Below w2.heap.size w2 w2.drew := (Below.refl _ _).drew
  have bA : ∀ {W : World}, Below w2.heap.size w2 W → ∀ o, Below w2.heap.size w2 (W.alloc o) := fun n o => n.alloc n.size o
  have LB := S2
  have CL : Hid (∀ W, Below w2.heap.size w2 W → Calls Tryz.prog 37 #[.int .i64 (bl.length : Int), .int .i64 3] W fun e w' => ∃ v, e = .returned v ∧ RowB w' w2.heap.size v (bigL (bl.length : Int) 3) ∧ Below w2.heap.size w2 w' ∧ Below W.heap.size W w') := fun W n => (l1BigB_any W (bl.length : Int) 3 (by omega) (by omega) (by decide)).mono (by rintro e w' ⟨rfl, R, m⟩; exact ⟨_, rfl, R.base n.size, nxt n m, m⟩)
  have AP : Hid (∀ W v u, Below w2.heap.size w2 W → RowB W w2.heap.size v [k] → RowB W w2.heap.size u (bigL (bl.length : Int) 3) → ∃ v' w', (Builtin.append_ #[22, 22] 22 #[v, u]).run Tryz.prog W = .ok v' w' ∧ (RowB w' w2.heap.size v' ([k] ++ bigL (bl.length : Int) 3) ∧ Below w2.heap.size w2 w')) := fun W v u n R S => by
    obtain ⟨a, c, g, e, r, zz⟩ := row_slice S
    obtain ⟨v', w', h1, h2, h3⟩ := append_any (P := Tryz.prog) W 22 i0 Tryz.underlying22 hi hz0 hz1 hz2 w2.heap.size w2.heap.size v [k] R g a c _ r zz (by rw [bigL_len]; simp) (Nat.le_refl _) n.size
    rw [e]
    exact ⟨v', w', h1, h2, n.trans h3⟩
  have AQ : Hid (∀ W v, Below w2.heap.size w2 W → RowB W w2.heap.size v ([k] ++ bigL (bl.length : Int) 3) → ∃ v' w', (Builtin.append_ #[22, 22] 22 #[v, .slice a2 bl.length c2]).run Tryz.prog W = .ok v' w' ∧ (RowB w' w2.heap.size v' (([k] ++ bigL (bl.length : Int) 3) ++ bl) ∧ Below w2.heap.size w2 w')) := fun W v n R => by
    obtain ⟨v', w', h1, h2, h3⟩ := append_any (P := Tryz.prog) W 22 i0 Tryz.underlying22 hi hz0 hz1 hz2 w2.heap.size w2.heap.size v _ R g2 a2 c2 bl (r2.up n) z2 (by rw [List.length_append, bigL_len]; simp only [List.length_cons, List.length_nil]; omega) (Nat.le_refl _) n.size
    exact ⟨v', w', h1, h2, n.trans h3⟩
  have CY : Hid (∀ W, Below w2.heap.size w2 W → W.cell? ⟨w.heap.size, 0, none⟩ = some (.int .i64 k)) := fun W n => cellq n kc
  have C0 := hide ((unhide CL) w2.drew nd)
  have C1 := hide ((unhide CL) (w2.drew.alloc (.cells #[.int .u8 k] 5)) (bA nd _))
  have RE : RowB (w2.drew.alloc (.cells #[.int .u8 k] 5)) w2.heap.size (.slice (some ⟨w2.heap.size, 0, none⟩) 1 1) [k] := RowB.lit1 w2.drew k
  clear kc CL
  go_region_held3 (fun W => W.cell? ⟨w.heap.size, 0, none⟩ = some (.int .i64 k))
    (first | exact (unhide CY) _ nd | exact (unhide CY) _ (bA nd _) | exact (unhide CY) _ n16 | exact (unhide CY) _ (bA n16 _) | exact (unhide CY) _ n17 | exact (unhide CY) _ n19)
    (first
      | (go_at_call 37; refine C0.out.mono ?_; rintro rr w16 ⟨v16, rfl, R16, n16, m16⟩; (have B17a := hide ((unhide AP) (w16.alloc (.cells #[.int .u8 k] 5)) (.slice (some ⟨w16.heap.size, 0, none⟩) 1 1) v16 (bA n16 _) ((RowB.lit1 w16 k).base n16.size) (R16.up ((Below.refl _ _).alloc (Nat.le_refl _) _)))))
      | (go_at_call 37; refine C1.out.mono ?_; rintro rr w16 ⟨v16, rfl, R16, n16, m16⟩; (have B17b := hide ((unhide AP) w16 (.slice (some ⟨w2.heap.size, 0, none⟩) 1 1) v16 n16 (RE.up m16) R16)))
      | (refine step_append_exM rfl (.tmp 13) (.tmp 16) 22 22 rfl (.slice (some ⟨w16.heap.size, 0, none⟩) 1 1) v16 rfl rfl _ B17a.out ?_; rintro v17 w17 ⟨R17, n17⟩; (have B19 := hide ((unhide AQ) w17 v17 n17 R17)))
      | (refine step_append_exM rfl (.tmp 13) (.tmp 16) 22 22 rfl (.slice (some ⟨w2.heap.size, 0, none⟩) 1 1) v16 rfl rfl _ B17b.out ?_; rintro v17 w17 ⟨R17, n17⟩; (have B19 := hide ((unhide AQ) w17 v17 n17 R17)))
      | (refine step_append_exM rfl (.tmp 17) (.tmp 18) 22 22 rfl v17 (.slice a2 bl.length c2) rfl rfl _ B19.out ?_; rintro v19 w19 ⟨R19, n19⟩)
      | fail)
  all_goals
    have FIN : Hid (BodP w OUT (.returned v19) w19) := ⟨⟨v19, rfl, by rw [hO2.out]; exact R19.base N2.size⟩, nxt N2 n19⟩
    clear C0 C1 AP AQ CY R16 m16 n16 R17 n17 R19 n19 nd bA RE B19
    go_wp2
    go_ret
    exact FIN.out
end Go.Proofs.YtmfajpplagbfcaaGreatDoor
namespace Go.Proofs.YtmfajpplagbfcaaGreatDoor
set_option maxRecDepth 100000
open Go Go.RowKit
def ex6 (vb rb he an tk : Bool) : Bool := (vb && !he && !an) || (rb && !he && !an && !tk)
def ex8 (sb hb pb he an ex : Bool) : Bool := (sb && !he && !an) || (hb && !he) || (pb && !he && !ex)
def ex10 (tb gb bb he tk : Bool) : Bool := (tb && !he && !tk) || (gb && !he && !tk) || (bb && !he)
def ex12 (eb he tk ex nu : Bool) : Bool := eb && !he && !tk && !ex && nu
def ex14 (rs an cb nc fb np nf : Bool) : Bool := (rs && !an) || (cb && nc) || (fb && np && nf)
def si2 (v0 v1 : Bool) : Bool := v0 || v1
def si4 (he an tk r2 : Bool) : Bool := (he || an || tk) && r2
def si6 (he an s2 : Bool) : Bool := (he || an) && s2
def si8 (pf p6 ff p3 : Bool) : Bool := (pf && p6) || (ff && p3)
def siR (he tb b3 b0 g0 e0 : Bool) : Bool := if (he && tb) = true then b3 else if he = true then b0 && g0 && e0 else true
end Go.Proofs.YtmfajpplagbfcaaGreatDoor
