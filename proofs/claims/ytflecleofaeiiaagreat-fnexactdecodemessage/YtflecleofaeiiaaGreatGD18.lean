import Derived.Test.YtflecleofaeiiaaGreatGD17
import Derived.Test.YtflecleofaeiiaaGreatGD13
import Derived.Test.YtflecleofaeiiaaGreatGD16
import Derived.Test.YtflecleofaeiiaaGreatGD7
import Derived.Test.YtflecleofaeiiaaGreatGD8
import Derived.Test.YtflecleofaeiiaaGreatGD5
import Derived.Test.YtflecleofaeiiaaGreatGD3
import Derived.Test.YtflecleofaeiiaaGreatGD4
import Derived.Deep.MidRow
import Derived.Deep.Cut
import Derived.Deep.QuietTactic
import Derived.BigQuiet

/-
  Messages: the model's body of any message without a fault.
-/
namespace Go.Proofs.YtflecleofaeiiaaGreat
open Go Go.RowKit

theorem pr_all {ls : List (List UInt8)} {n : Nat} (h : prB ls n ≠ false) : ∀ l ∈ ls, l.length ≤ 255 := by
  unfold prB at h
  rw [Bool.ne_false_iff, Bool.and_eq_true] at h
  have h2 := List.all_eq_true.1 h.2
  intro l hl
  obtain ⟨i, hi, rfl⟩ := List.getElem_of_mem hl
  have h3 := h2 i (List.mem_range.2 hi)
  unfold prA at h3
  rw [List.getD_eq_getElem?_getD, List.getElem?_eq_getElem hi, Option.getD_some, Bool.and_eq_true, Bool.and_eq_true] at h3
  have := of_decide_eq_true h3.2.1
  omega
theorem fp_all {v : Int} {r s : Nat} (h : fpB v r s = false) : 0 ≤ v ∧ v ≤ 255 := by
  unfold fpB at h
  rw [Bool.or_eq_false_iff, Bool.or_eq_false_iff] at h
  have a := of_decide_eq_false h.1
  have b := of_decide_eq_false h.2.1
  omega
theorem age_all {g : Int} (h : ageB g = true) : 0 ≤ g ∧ g < 9223372036854775808 := by
  unfold ageB at h
  rw [Bool.and_eq_true] at h
  have a := of_decide_eq_true h.1
  have b := of_decide_eq_true h.2
  omega
theorem flg_all {g : Int} (h : flgB g = true) : 0 ≤ g ∧ g ≤ 255 := by
  unfold flgB at h
  rw [Bool.or_eq_true] at h
  rcases h with h | h
  · have a := of_decide_eq_true h
    omega
  · have a := of_decide_eq_true h
    omega
theorem name_all {ho : List UInt8} (h : nameF ho = 0) : ho.length ≤ 255 := by
  unfold nameF at h
  by_cases c : ho.length < 1 ∨ 128 < ho.length
  · rw [if_pos c] at h
    simp at h
  · omega
theorem he_all {v : Int} {r s : Nat} {ho : List UInt8} {ls : List (List UInt8)} {t b : Nat} {g e : Int} (h : heF v r s ho ls t b g e = 0) : (0 ≤ v ∧ v ≤ 255) ∧ ho.length ≤ 255 ∧ (∀ l ∈ ls, l.length ≤ 255) ∧ (0 ≤ g ∧ g < 9223372036854775808) ∧ (0 ≤ e ∧ e ≤ 255) := by
  unfold heF at h
  by_cases h1 : (fpB v r s || !bdB t b g e) = true
  · rw [if_pos h1] at h
    simp at h
  rw [if_neg h1] at h
  rw [Bool.not_eq_true, Bool.or_eq_false_iff] at h1
  by_cases h2 : nameF ho ≠ 0
  · rw [if_pos h2] at h
    simp at h
  rw [if_neg h2] at h
  by_cases h3 : prB ls 8 = false
  · rw [if_pos h3] at h
    simp at h
  rw [if_neg h3] at h
  by_cases h4 : 400 < t
  · rw [if_pos h4] at h
    simp at h
  rw [if_neg h4] at h
  by_cases h5 : (!ageB g || !flgB e) = true
  · rw [if_pos h5] at h
    simp at h
  rw [Bool.not_eq_true, Bool.or_eq_false_iff] at h5
  exact ⟨fp_all h1.1, name_all (Classical.not_not.1 h2), pr_all h3, age_all (by simpa using h5.1), flg_all (by simpa using h5.2)⟩
theorem fpF_all {v : Int} {r s : Nat} (h : fpF v r s = 0) : 0 ≤ v ∧ v ≤ 255 := by
  unfold fpF at h
  by_cases h1 : fpB v r s = true
  · rw [if_pos h1] at h
    simp at h
  · exact fp_all (by simpa using h1)
theorem ti_all {g e : Int} {r t : Nat} (h : tiF g e r t = 0) : (0 ≤ g ∧ g < 9223372036854775808) ∧ (0 ≤ e ∧ e < 9223372036854775808) := by
  unfold tiF at h
  by_cases h1 : r ≠ 32
  · rw [if_pos h1] at h
    simp at h
  rw [if_neg h1] at h
  by_cases h2 : t = 0 ∨ 400 < t
  · rw [if_pos h2] at h
    simp at h
  rw [if_neg h2] at h
  by_cases h5 : (!ageB g || !ageB e) = true
  · rw [if_pos h5] at h
    simp at h
  rw [Bool.not_eq_true, Bool.or_eq_false_iff] at h5
  exact ⟨age_all (by simpa using h5.1), age_all (by simpa using h5.2)⟩
theorem ex_all {ls : List (List UInt8)} {e : Int} (h : exF ls e = 0) : (∀ l ∈ ls, l.length ≤ 255) ∧ (0 ≤ e ∧ e ≤ 255) := by
  unfold exF at h
  by_cases h1 : prB ls 1 = false
  · rw [if_pos h1] at h
    simp at h
  rw [if_neg h1] at h
  by_cases h2 : flgB e = false
  · rw [if_pos h2] at h
    simp at h
  exact ⟨pr_all h1, flg_all (by simpa using h2)⟩
theorem up_all {e : Int} (h : upF e = 0) : 0 ≤ e ∧ e ≤ 255 := by
  unfold upF at h
  by_cases h2 : flgB e = false
  · rw [if_pos h2] at h
    simp at h
  exact flg_all (by simpa using h2)
theorem mf_zero {m m' : Msg} {f : Int} (hk : kfF m = some (m', f)) (h : mfF m = 0) : f = 0 := by
  unfold mfF at h
  rw [hk] at h
  by_cases c : sameM m' m = true
  · simpa [c] using h
  · simp [c] at h
/-- What the model's body answers of a message, and the two facts that its bytes need. -/
def SbP (w : World) (p : MQ) (m : Msg) : Prop := Calls Tryz.prog 42 #[.agg (mgV p m)] w (BodP w (bodF m)) ∧ (bodF m).length ≤ 536870912 ∧ 0 ≤ m.k ∧ m.k ≤ 255
set_option maxRecDepth 100000 in
theorem sb_any (w : World) (p : MQ) (m : Msg) (h : HasM w p m) (i : IsM m) (z : HasZ p m) (f0 : mfF m = 0) : SbP w p m := by
  unfold SbP
  by_cases h1 : m.k = 1
  · have F : heF m.v m.r.length m.s.length m.ho m.pr m.ti.length m.bi.length m.ag m.ea = 0 := mf_zero (m' := helloM m) (by unfold kfF; rw [if_pos h1]) f0
    have eb : bodF m = heL m.v m.r m.s m.ho m.pr m.ti m.ag m.ea m.bi := by unfold bodF; rw [if_pos h1]
    have kk : 0 ≤ m.k ∧ m.k ≤ 255 := by omega
    rw [eb]
    unfold mgV
    rw [h1] at kk ⊢
    have A := he_all F; exact ⟨sbHello_any w _ _ _ m.v A.1.1 A.1.2 ⟨p.g2, p.a2, p.c2, m.r⟩ ⟨p.g3, p.a3, p.c3, m.s⟩ ⟨p.g6, p.a6, p.c6, m.ti⟩ ⟨p.g9, p.a9, p.c9, m.bi⟩ (lstR_of h.r z.z2 i.rL) (lstR_of h.s z.z3 i.sL) (lstR_of h.ti z.z6 i.tiL) (lstR_of h.bi z.z9 i.biL) m.ho A.2.1 p.g5 p.a5 p.c5 m.pr (txsR_of h.pr (he_pr F) i.prZ) A.2.2.1 m.ag m.ea A.2.2.2.1.1 A.2.2.2.1.2 A.2.2.2.2.1 A.2.2.2.2.2, heL_len i.rL i.sL i.hoL (he_pr F) i.prZ i.tiL i.biL, kk⟩
  by_cases h2 : m.k = 2
  · have F : fpF m.v m.r.length m.s.length = 0 := mf_zero (m' := answerM m) (by unfold kfF; rw [if_neg h1]; rw [if_pos h2]) f0
    have eb : bodF m = fpL m.v m.r m.s ++ [if m.rs = true then 1 else 0] := by unfold bodF; rw [if_neg h1]; rw [if_pos h2]
    have kk : 0 ≤ m.k ∧ m.k ≤ 255 := by omega
    rw [eb]
    unfold mgV
    rw [h2] at kk ⊢
    have A := fpF_all F; exact ⟨sbAnswer_any w _ _ _ _ _ _ _ _ m.v A.1 A.2 ⟨p.g2, p.a2, p.c2, m.r⟩ ⟨p.g3, p.a3, p.c3, m.s⟩ (lstR_of h.r z.z2 i.rL) (lstR_of h.s z.z3 i.sL) m.rs, by have a1 := i.rL; have a2 := i.sL; rw [List.length_append, fpL_len]; simp only [List.length_cons, List.length_nil]; omega, kk⟩
  by_cases h4 : m.k = 4
  · have F : tiF m.ag m.ea m.r.length m.ti.length = 0 := mf_zero (m' := ticketM m) (by unfold kfF; rw [if_neg h1]; rw [if_neg h2]; rw [if_pos h4]) f0
    have eb : bodF m = tkL m.ag m.ea m.r m.ti := by unfold bodF; rw [if_neg h1]; rw [if_neg h2]; rw [if_pos h4]
    have kk : 0 ≤ m.k ∧ m.k ≤ 255 := by omega
    rw [eb]
    unfold mgV
    rw [h4] at kk ⊢
    have A := ti_all F; exact ⟨sbTicket_any w _ _ _ _ _ _ _ _ m.ag m.ea A.1.1 A.1.2 A.2.1 A.2.2 ⟨p.g2, p.a2, p.c2, m.r⟩ ⟨p.g6, p.a6, p.c6, m.ti⟩ (lstR_of h.r z.z2 i.rL) (lstR_of h.ti z.z6 i.tiL), by have a1 := i.rL; have a2 := i.tiL; unfold tkL; simp only [List.length_append, bigL_len, loL_len]; omega, kk⟩
  by_cases h5 : m.k = 5
  · skip
    have eb : bodF m = [] := by unfold bodF; rw [if_neg h1]; rw [if_neg h2]; rw [if_neg h4]; rw [if_pos h5]
    have kk : 0 ≤ m.k ∧ m.k ≤ 255 := by omega
    rw [eb]
    unfold mgV
    rw [h5] at kk ⊢
    exact ⟨sbEnd_any w _ _ _ _ _ _ _ _ _ _ _ _, by simp, kk⟩
  by_cases h8 : m.k = 8
  · have F : exF m.pr m.ea = 0 := mf_zero (m' := extrasM m) (by unfold kfF; rw [if_neg h1]; rw [if_neg h2]; rw [if_neg h4]; rw [if_neg h5]; rw [if_pos h8]) f0
    have eb : bodF m = lsL m.pr ++ bigL m.ea 1 := by unfold bodF; rw [if_neg h1]; rw [if_neg h2]; rw [if_neg h4]; rw [if_neg h5]; rw [if_pos h8]
    have kk : 0 ≤ m.k ∧ m.k ≤ 255 := by omega
    rw [eb]
    unfold mgV
    rw [h8] at kk ⊢
    have A := ex_all F; exact ⟨sbExtras_any w _ _ _ _ _ _ _ _ _ _ p.g5 p.a5 p.c5 m.pr (txsR_of h.pr (ex_pr F) i.prZ) A.1 m.ea A.2.1 A.2.2, by have a1 := lsL_len m.pr (ex_pr F) i.prZ; rw [List.length_append, bigL_len]; omega, kk⟩
  by_cases h11 : m.k = 11
  · have F : ceF m.ce = 0 := mf_zero (m' := certsM m) (by unfold kfF; rw [if_neg h1]; rw [if_neg h2]; rw [if_neg h4]; rw [if_neg h5]; rw [if_neg h8]; rw [if_pos h11]) f0
    have eb : bodF m = clL m.ce := by unfold bodF; rw [if_neg h1]; rw [if_neg h2]; rw [if_neg h4]; rw [if_neg h5]; rw [if_neg h8]; rw [if_pos h11]
    have kk : 0 ≤ m.k ∧ m.k ≤ 255 := by omega
    rw [eb]
    unfold mgV
    rw [h11] at kk ⊢
    exact ⟨sbCerts_any w _ _ _ _ _ _ _ _ _ _ _ p.g11 p.a11 p.c11 m.ce p.ps (ctsR_of h.ce (ce_n F) i.ceZ z.zc), clL_len (ce_n F) i.ceZ, kk⟩
  by_cases h15 : m.k = 15
  · have F : pfF 64 m.pf.length = 0 := mf_zero (m' := proofM m) (by unfold kfF; rw [if_neg h1]; rw [if_neg h2]; rw [if_neg h4]; rw [if_neg h5]; rw [if_neg h8]; rw [if_neg h11]; rw [if_pos h15]) f0
    have eb : bodF m = m.pf := by unfold bodF; rw [if_neg h1]; rw [if_neg h2]; rw [if_neg h4]; rw [if_neg h5]; rw [if_neg h8]; rw [if_neg h11]; rw [if_pos h15]
    have kk : 0 ≤ m.k ∧ m.k ≤ 255 := by omega
    rw [eb]
    unfold mgV
    rw [h15] at kk ⊢
    exact ⟨sbProof_any w _ _ _ _ _ _ _ _ _ _ _ ⟨p.g12, p.a12, p.c12, m.pf⟩ (lstR_of h.pf z.z12 i.pfL), by have a1 := i.pfL; omega, kk⟩
  by_cases h20 : m.k = 20
  · have F : pfF 32 m.pf.length = 0 := mf_zero (m' := finishedM m) (by unfold kfF; rw [if_neg h1]; rw [if_neg h2]; rw [if_neg h4]; rw [if_neg h5]; rw [if_neg h8]; rw [if_neg h11]; rw [if_neg h15]; rw [if_pos h20]) f0
    have eb : bodF m = m.pf := by unfold bodF; rw [if_neg h1]; rw [if_neg h2]; rw [if_neg h4]; rw [if_neg h5]; rw [if_neg h8]; rw [if_neg h11]; rw [if_neg h15]; rw [if_pos h20]
    have kk : 0 ≤ m.k ∧ m.k ≤ 255 := by omega
    rw [eb]
    unfold mgV
    rw [h20] at kk ⊢
    exact ⟨sbFinished_any w _ _ _ _ _ _ _ _ _ _ _ ⟨p.g12, p.a12, p.c12, m.pf⟩ (lstR_of h.pf z.z12 i.pfL), by have a1 := i.pfL; omega, kk⟩
  by_cases h24 : m.k = 24
  · have F : upF m.ea = 0 := mf_zero (m' := updateM m) (by unfold kfF; rw [if_neg h1]; rw [if_neg h2]; rw [if_neg h4]; rw [if_neg h5]; rw [if_neg h8]; rw [if_neg h11]; rw [if_neg h15]; rw [if_neg h20]; rw [if_pos h24]) f0
    have eb : bodF m = bigL m.ea 1 := by unfold bodF; rw [if_neg h1]; rw [if_neg h2]; rw [if_neg h4]; rw [if_neg h5]; rw [if_neg h8]; rw [if_neg h11]; rw [if_neg h15]; rw [if_neg h20]; rw [if_pos h24]
    have kk : 0 ≤ m.k ∧ m.k ≤ 255 := by omega
    rw [eb]
    unfold mgV
    rw [h24] at kk ⊢
    have A := up_all F; exact ⟨sbUpdate_any w _ _ _ _ _ _ _ _ _ _ _ m.ea A.1 A.2, by rw [bigL_len]; omega, kk⟩
  exfalso
  unfold mfF kfF at f0
  rw [if_neg h1, if_neg h2, if_neg h4, if_neg h5, if_neg h8, if_neg h11, if_neg h15, if_neg h20, if_neg h24] at f0
  simp at f0
end Go.Proofs.YtflecleofaeiiaaGreat

/-
  Messages: what is read out of bytes, kind by kind, as a function of the bytes; no Go.
-/
namespace Go.Proofs.YtflecleofaeiiaaGreat
open Go Go.RowKit

def rdHello (xs : List Int) : Msg := ⟨1, beN xs 0 1, tkB xs 1 32, tkB xs 33 32, txB (tkB xs 66 (beN xs 65 1).toNat), txT xs (hpA xs + 1) (xs.getD (hpA xs) 0).toNat, tkB xs (hpB xs + 2) (hpN xs), if hpN xs = 0 then 0 else beN xs (hpC xs) 4, if hpN xs = 0 then 0 else beN xs (hpC xs + 4) 1, if hpN xs = 0 then [] else tkB xs (hpC xs + 5) 32, false, [], []⟩
def rdAnswer (xs : List Int) : Msg := ⟨2, beN xs 0 1, tkB xs 1 32, tkB xs 33 32, [], [], [], 0, 0, [], beN xs 65 1 == 1, [], []⟩
def rdTicket (xs : List Int) : Msg := ⟨4, 0, tkB xs 8 32, [], [], [], tkB xs 42 (beN xs 40 2).toNat, beN xs 0 4, beN xs 4 4, [], false, [], []⟩
def rdEnd (_xs : List Int) : Msg := ⟨5, 0, [], [], [], [], [], 0, 0, [], false, [], []⟩
def rdExtras (xs : List Int) : Msg := ⟨8, 0, [], [], [], txT xs 1 (xs.getD 0 0).toNat, [], 0, beN xs (ppT xs 1 (xs.getD 0 0).toNat) 1, [], false, [], []⟩
def rdCerts (xs : List Int) : Msg := ⟨11, 0, [], [], [], [], [], 0, 0, [], false, clT xs 1 (xs.getD 0 0).toNat, []⟩
def rdProof (xs : List Int) : Msg := ⟨15, 0, [], [], [], [], [], 0, 0, [], false, [], tkB xs 0 64⟩
def rdFinished (xs : List Int) : Msg := ⟨20, 0, [], [], [], [], [], 0, 0, [], false, [], tkB xs 0 32⟩
def rdUpdate (xs : List Int) : Msg := ⟨24, 0, [], [], [], [], [], 0, beN xs 0 1, [], false, [], []⟩
/-- What is read out of a body of this kind. -/
def rdM (k : Int) (xs : List Int) : Msg := if k = 1 then rdHello xs else if k = 2 then rdAnswer xs else if k = 4 then rdTicket xs else if k = 5 then rdEnd xs else if k = 8 then rdExtras xs else if k = 11 then rdCerts xs else if k = 15 then rdProof xs else if k = 20 then rdFinished xs else rdUpdate xs
/-- It can be read to its end. -/
def fitM (k : Int) (xs : List Int) : Prop := if k = 1 then HeG xs else if k = 2 then 66 ≤ xs.length else if k = 4 then 42 + (beN xs 40 2).toNat ≤ xs.length else if k = 5 then True else if k = 8 then 0 < xs.length ∧ ppT xs 1 (xs.getD 0 0).toNat + 1 ≤ xs.length else if k = 11 then 0 < xs.length ∧ ppL xs 1 (xs.getD 0 0).toNat ≤ xs.length else if k = 15 then 64 ≤ xs.length else if k = 20 then 32 ≤ xs.length else 1 ≤ xs.length
theorem be_byte {xs : List Int} (hb : Byt xs) (i t : Nat) (h : t ≤ 4) : 0 ≤ beN xs i t ∧ beN xs i t < 4294967296 := by
  have h1 := beN_rng hb i t
  refine ⟨h1.1, ?_⟩
  have : t = 0 ∨ t = 1 ∨ t = 2 ∨ t = 3 ∨ t = 4 := by omega
  rcases this with e | e | e | e | e <;> subst e <;> omega
theorem be1 {xs : List Int} (hb : Byt xs) (i : Nat) : (beN xs i 1).toNat < 256 := by have := beN_rng hb i 1; omega
theorem be2 {xs : List Int} (hb : Byt xs) (i : Nat) : (beN xs i 2).toNat < 65536 := by have := beN_rng hb i 2; omega
theorem bx1 {xs : List Int} (hb : Byt xs) (i : Nat) : (xs.getD i 0).toNat < 256 := by have := hb i; omega
theorem txT_small {xs : List Int} (hb : Byt xs) (i k : Nat) : ∀ l ∈ txT xs i k, l.length ≤ 1048576 := fun l hl => by
  obtain ⟨j, _, rfl⟩ := List.mem_map.1 hl
  rw [txB_len, tkB_len]
  have := be1 hb (ppT xs i j)
  omega
theorem clT_get (xs : List Int) (i k j : Nat) (h : j < k) : (clT xs i k).getD j [] = tkB xs (ppL xs i j + 2) (beN xs (ppL xs i j) 2).toNat := by simp [clT, h]
theorem isM_hello {xs : List Int} (hb : Byt xs) : IsM (rdHello xs) := by
  have h1 := be1 hb 65
  have h2 := be2 hb (hpB xs)
  have h3 := bx1 hb (hpA xs)
  refine ⟨tkB_byt hb _ _, tkB_byt hb _ _, tkB_byt hb _ _, ?_, byt_nil, fun i hi => absurd hi (by simp [rdHello]), ?_, ?_, ?_, ?_, ?_, ?_, ?_, fun i hi => absurd hi (by simp [rdHello]), ?_, txT_small hb _ _⟩
  · show Byt (if hpN xs = 0 then [] else tkB xs (hpC xs + 5) 32)
    split
    · exact byt_nil
    · exact tkB_byt hb _ _
  all_goals simp only [rdHello]
  all_goals first | (rw [tkB_len]; omega) | skip
  · rw [txT_len]; omega
  · rw [tkB_len]; show hpN xs ≤ _; unfold hpN; omega
  · split
    · simp
    · rw [tkB_len]; omega
  · simp
  · simp
  · rw [txB_len, tkB_len]; omega
theorem isM_answer {xs : List Int} (hb : Byt xs) : IsM (rdAnswer xs) := by
  refine ⟨tkB_byt hb _ _, tkB_byt hb _ _, byt_nil, byt_nil, byt_nil, fun i hi => absurd hi (by simp [rdAnswer]), ?_, ?_, ?_, ?_, ?_, ?_, ?_, fun i hi => absurd hi (by simp [rdAnswer]), ?_, fun l hl => absurd hl (by simp [rdAnswer])⟩
  all_goals simp [rdAnswer, tkB_len]
theorem isM_ticket {xs : List Int} (hb : Byt xs) : IsM (rdTicket xs) := by
  have h2 := be2 hb 40
  refine ⟨tkB_byt hb _ _, byt_nil, tkB_byt hb _ _, byt_nil, byt_nil, fun i hi => absurd hi (by simp [rdTicket]), ?_, ?_, ?_, ?_, ?_, ?_, ?_, fun i hi => absurd hi (by simp [rdTicket]), ?_, fun l hl => absurd hl (by simp [rdTicket])⟩
  all_goals simp only [rdTicket, tkB_len]
  all_goals first | (simp; done) | omega
theorem isM_end (xs : List Int) : IsM (rdEnd xs) := by
  refine ⟨byt_nil, byt_nil, byt_nil, byt_nil, byt_nil, fun i hi => absurd hi (by simp [rdEnd]), ?_, ?_, ?_, ?_, ?_, ?_, ?_, fun i hi => absurd hi (by simp [rdEnd]), ?_, fun l hl => absurd hl (by simp [rdEnd])⟩
  all_goals simp [rdEnd]
theorem isM_extras {xs : List Int} (hb : Byt xs) : IsM (rdExtras xs) := by
  have h3 := bx1 hb 0
  refine ⟨byt_nil, byt_nil, byt_nil, byt_nil, byt_nil, fun i hi => absurd hi (by simp [rdExtras]), ?_, ?_, ?_, ?_, ?_, ?_, ?_, fun i hi => absurd hi (by simp [rdExtras]), ?_, txT_small hb _ _⟩
  all_goals simp only [rdExtras, txT_len]
  all_goals first | (simp; done) | omega
theorem isM_certs {xs : List Int} (hb : Byt xs) : IsM (rdCerts xs) := by
  have h3 := bx1 hb 0
  refine ⟨byt_nil, byt_nil, byt_nil, byt_nil, byt_nil, fun i hi => ?_, ?_, ?_, ?_, ?_, ?_, ?_, ?_, fun i hi => ?_, ?_, fun l hl => absurd hl (by simp [rdCerts])⟩
  · have hi : i < (xs.getD 0 0).toNat := by simpa [rdCerts, clT_len] using hi
    show Byt ((clT xs 1 (xs.getD 0 0).toNat).getD i [])
    rw [clT_get _ _ _ _ hi]
    exact tkB_byt hb _ _
  rotate_right 2
  · have hi : i < (xs.getD 0 0).toNat := by simpa [rdCerts, clT_len] using hi
    show ((clT xs 1 (xs.getD 0 0).toNat).getD i []).length ≤ _
    rw [clT_get _ _ _ _ hi, tkB_len]
    have := be2 hb (ppL xs 1 i)
    omega
  all_goals simp only [rdCerts, clT_len]
  all_goals first | (simp; done) | omega
theorem isM_proof {xs : List Int} (hb : Byt xs) : IsM (rdProof xs) := by
  refine ⟨byt_nil, byt_nil, byt_nil, byt_nil, tkB_byt hb _ _, fun i hi => absurd hi (by simp [rdProof]), ?_, ?_, ?_, ?_, ?_, ?_, ?_, fun i hi => absurd hi (by simp [rdProof]), ?_, fun l hl => absurd hl (by simp [rdProof])⟩
  all_goals simp [rdProof, tkB_len]
theorem isM_finished {xs : List Int} (hb : Byt xs) : IsM (rdFinished xs) := by
  refine ⟨byt_nil, byt_nil, byt_nil, byt_nil, tkB_byt hb _ _, fun i hi => absurd hi (by simp [rdFinished]), ?_, ?_, ?_, ?_, ?_, ?_, ?_, fun i hi => absurd hi (by simp [rdFinished]), ?_, fun l hl => absurd hl (by simp [rdFinished])⟩
  all_goals simp [rdFinished, tkB_len]
theorem isM_update (xs : List Int) : IsM (rdUpdate xs) := by
  refine ⟨byt_nil, byt_nil, byt_nil, byt_nil, byt_nil, fun i hi => absurd hi (by simp [rdUpdate]), ?_, ?_, ?_, ?_, ?_, ?_, ?_, fun i hi => absurd hi (by simp [rdUpdate]), ?_, fun l hl => absurd hl (by simp [rdUpdate])⟩
  all_goals simp [rdUpdate]
theorem isM_rd {xs : List Int} (hb : Byt xs) (k : Int) : IsM (rdM k xs) := by
  unfold rdM
  split
  · exact isM_hello hb
  split
  · exact isM_answer hb
  split
  · exact isM_ticket hb
  split
  · exact isM_end xs
  split
  · exact isM_extras hb
  split
  · exact isM_certs hb
  split
  · exact isM_proof hb
  split
  · exact isM_finished hb
  · exact isM_update xs
/-- A body that is just what was read can be read to its end. -/
theorem shs_len (xs : List Int) (i : Nat) : ∀ k, i + ((txT xs i k).map shL).flatten.length = ppT xs i k
  | 0 => by simp [txT, ppT]
  | k + 1 => by
    have h := shs_len xs i k
    have e : ppT xs i (k + 1) = ppT xs i k + 1 + (beN xs (ppT xs i k) 1).toNat := rfl
    rw [txT_step, e, List.map_append, List.flatten_append, List.length_append]
    simp only [List.map_cons, List.map_nil, List.flatten_cons, List.flatten_nil, List.append_nil, shL_len, txB_len, tkB_len]
    omega
theorem los_len (xs : List Int) (i : Nat) : ∀ k, i + ((clT xs i k).map loL).flatten.length = ppL xs i k
  | 0 => by simp [clT, ppL]
  | k + 1 => by
    have h := los_len xs i k
    have e : ppL xs i (k + 1) = ppL xs i k + 2 + (beN xs (ppL xs i k) 2).toNat := rfl
    rw [clT_step, e, List.map_append, List.flatten_append, List.length_append]
    simp only [List.map_cons, List.map_nil, List.flatten_cons, List.flatten_nil, List.append_nil, loL_len, tkB_len]
    omega
theorem fit_hello {xs : List Int} (h : heL (rdHello xs).v (rdHello xs).r (rdHello xs).s (rdHello xs).ho (rdHello xs).pr (rdHello xs).ti (rdHello xs).ag (rdHello xs).ea (rdHello xs).bi = xs) : HeG xs := by
  have l := congrArg List.length h
  have s := shs_len xs (hpA xs + 1) (xs.getD (hpA xs) 0).toNat
  have eA : hpA xs = 65 + 1 + (beN xs 65 1).toNat := rfl
  have eB : hpB xs = ppT xs (hpA xs + 1) (xs.getD (hpA xs) 0).toNat := rfl
  have eC : hpC xs = hpB xs + 2 + hpN xs := rfl
  have eb : (bdL (rdHello xs).ti (rdHello xs).ag (rdHello xs).ea (rdHello xs).bi).length = if hpN xs = 0 then 0 else 37 := by
    have et : (rdHello xs).ti.length = hpN xs := tkB_len _ _ _
    unfold bdL
    rw [et]
    split
    · rfl
    · rename_i hz
      simp only [rdHello, if_neg hz, List.length_append, bigL_len, tkB_len]
  unfold heL lsL at l
  rw [List.length_append, List.length_append, List.length_append, List.length_append, List.length_append, eb, fpL_len, shL_len, loL_len] at l
  have e1 : (rdHello xs).r.length = 32 := tkB_len _ _ _
  have e2 : (rdHello xs).s.length = 32 := tkB_len _ _ _
  have e3 : (rdHello xs).ho.length = (beN xs 65 1).toNat := by show (txB _).length = _; rw [txB_len, tkB_len]
  have e4 : (rdHello xs).ti.length = hpN xs := tkB_len _ _ _
  have e5 : ((rdHello xs).pr.map shL).flatten.length = ((txT xs (hpA xs + 1) (xs.getD (hpA xs) 0).toNat).map shL).flatten.length := rfl
  have e6 : [((rdHello xs).pr.length : Int)].length = 1 := rfl
  rw [e1, e2, e3, e4, e5, e6] at l
  unfold HeG
  split at l
  · refine ⟨by omega, by omega, fun h => by omega⟩
  · refine ⟨by omega, by omega, fun h => by omega⟩
theorem fit_rd {xs : List Int} {k : Int} (hk : k ∈ kinds) (h : bodF (rdM k xs) = xs) : fitM k xs := by
  have : k = 1 ∨ k = 2 ∨ k = 4 ∨ k = 5 ∨ k = 8 ∨ k = 11 ∨ k = 15 ∨ k = 20 ∨ k = 24 := by simpa [kinds] using hk
  rcases this with e | e | e | e | e | e | e | e | e <;> subst e
  · exact fit_hello (by simpa [bodF, rdM, rdHello] using h)
  · have l := congrArg List.length h
    simp [bodF, rdM, rdAnswer, fpL_len, tkB_len] at l
    show 66 ≤ xs.length
    omega
  · have l := congrArg List.length h
    simp [bodF, rdM, rdTicket, tkL, bigL_len, loL_len, tkB_len] at l
    show 42 + (beN xs 40 2).toNat ≤ xs.length
    omega
  · exact trivial
  · have l := congrArg List.length h
    have s := shs_len xs 1 (xs.getD 0 0).toNat
    have eb : bodF (rdM 8 xs) = lsL (txT xs 1 (xs.getD 0 0).toNat) ++ bigL (beN xs (ppT xs 1 (xs.getD 0 0).toNat) 1) 1 := rfl
    rw [eb, List.length_append, bigL_len] at l
    unfold lsL at l
    rw [List.length_append] at l
    have e6 : [((txT xs 1 (xs.getD 0 0).toNat).length : Int)].length = 1 := rfl
    rw [e6] at l
    show 0 < xs.length ∧ _ ≤ xs.length
    omega
  · have l := congrArg List.length h
    have s := los_len xs 1 (xs.getD 0 0).toNat
    have eb : bodF (rdM 11 xs) = clL (clT xs 1 (xs.getD 0 0).toNat) := rfl
    rw [eb] at l
    unfold clL at l
    rw [List.length_append] at l
    have e6 : [((clT xs 1 (xs.getD 0 0).toNat).length : Int)].length = 1 := rfl
    rw [e6] at l
    show 0 < xs.length ∧ _ ≤ xs.length
    omega
  · have l := congrArg List.length h
    have eb : bodF (rdM 15 xs) = tkB xs 0 64 := rfl
    rw [eb, tkB_len] at l
    show 64 ≤ xs.length
    omega
  · have l := congrArg List.length h
    have eb : bodF (rdM 20 xs) = tkB xs 0 32 := rfl
    rw [eb, tkB_len] at l
    show 32 ≤ xs.length
    omega
  · have l := congrArg List.length h
    have eb : bodF (rdM 24 xs) = bigL (beN xs 0 1) 1 := rfl
    rw [eb, bigL_len] at l
    show 1 ≤ xs.length
    omega
end Go.Proofs.YtflecleofaeiiaaGreat

/-
  The laws' helpers on rows of lists (Blobs): copied, held against each other, counted.
-/
namespace Go.Proofs.YtflecleofaeiiaaGreat
open Go Go.RowKit

theorem iB : (Tryz.prog.info? 63).map (·.size) = some 1 := by kernel_rfl
theorem rowB : ∃ d, Tryz.prog.underlying 63 = some d ∧ d.isRow = true := ⟨_, Tryz.underlying63, rfl⟩
end Go.Proofs.YtflecleofaeiiaaGreat

/-
  The laws' helpers on rows of lists (Blobs), in loops.
-/
namespace Go.Proofs.YtflecleofaeiiaaGreat
open Go Go.RowKit

theorem infoBl : (Tryz.prog.info? 63).map (fun i => (i.zero, i.size, i.bytes)) = some (some (.agg #[.slice none 0 0]), 1, 24) := by kernel_rfl
theorem RwC.of_made {w : World} {base g n : Nat} {t : TypeId} (h : w.ownsRow base t 1 (.slice (some ⟨g, 0, none⟩) n n) n (madeCells (Value.agg #[.slice none 0 0]).cells (n * 1)).toList) : RwC w g (List.replicate n (.slice none 0 0)) t := by
  rcases h.2 with ⟨h', _⟩ | ⟨g', cap', cur, h', _, hg, _, _, hcs, htake⟩
  · simp at h'
  · simp only [Value.slice.injEq, Option.some.injEq, Addr.mk.injEq, and_true, true_and] at h'
    obtain ⟨rfl, rfl⟩ := h'
    show _ = _
    rw [hg]
    have : cur = (List.replicate n (Value.slice none 0 0)).toArray := by
      apply Array.ext'
      rw [List.take_of_length_le (by rw [Array.length_toList, hcs]; exact Nat.le_refl _)] at htake
      rw [htake]
      apply List.ext_getElem
      · simp [madeCells]
      · intro i h1 h2
        simp [madeCells, Value.cells, Nat.mod_one]
    rw [this]
theorem pick_list {P : Nat → Nat → Prop} : ∀ n, (∀ j, j < n → ∃ G, P j G) → ∃ Gs : List Nat, ∀ j, j < n → P j (Gs.getD j 0)
  | 0, _ => ⟨[], fun j hj => absurd hj (by omega)⟩
  | n + 1, h => by
    obtain ⟨Gs, hG⟩ := pick_list (P := P) n (fun j hj => h j (by omega))
    obtain ⟨G, hn⟩ := h n (by omega)
    refine ⟨(List.range n).map (fun j => Gs.getD j 0) ++ [G], fun j hj => ?_⟩
    by_cases e : j < n
    · have : ((List.range n).map (fun j => Gs.getD j 0) ++ [G]).getD j 0 = Gs.getD j 0 := by
        rw [List.getD_eq_getElem?_getD, List.getElem?_append_left (by simpa using e)]
        simp [e]
      rw [this]
      exact hG j e
    · obtain rfl : j = n := by omega
      have : ((List.range j).map (fun i => Gs.getD i 0) ++ [G]).getD j 0 = G := by
        rw [List.getD_eq_getElem?_getD, List.getElem?_append_right (by simp)]
        simp
      rw [this]
      exact hn
/-- A new row of lists, the first k of them laid. -/
def RowK (B : Nat) (wr : World) (g : Nat) (ce : List (List Int)) (k : Nat) (vs : List Value) : Prop := vs.length = ce.length ∧ RwC wr g vs 63 ∧ ∀ j, j < k → ∃ G, vs[j]? = some (.slice (some ⟨G, 0, none⟩) (ce.getD j []).length (ce.getD j []).length) ∧ Blk wr G .u8 (ce.getD j []) ∧ B < G
theorem RowK.step {B g k : Nat} {wr w1 : World} {ce : List (List Int)} {vs : List Value} (h : RowK B wr g ce k vs) (hk : k < ce.length) (hg : g ≤ B) (n : Below wr.heap.size wr w1) {G : Nat} (hG : B < G) (b : Blk w1 G .u8 (ce.getD k [])) :
    RowK B (w1.setCell ⟨g, k, none⟩ (.slice (some ⟨G, 0, none⟩) (ce.getD k []).length (ce.getD k []).length)) g ce (k + 1) (vs.set k (.slice (some ⟨G, 0, none⟩) (ce.getD k []).length (ce.getD k []).length)) := by
  obtain ⟨h1, h2, h3⟩ := h
  have O := Only.setCell w1 g k (.slice (some ⟨G, 0, none⟩) (ce.getD k []).length (ce.getD k []).length)
  refine ⟨by simpa using h1, (h2.up n).set k _, fun j hj => ?_⟩
  by_cases e : j = k
  · subst e
    exact ⟨G, by simp [h1, hk], b.of_block (O.block G (by omega)), hG⟩
  · obtain ⟨G', e1, b1, l1⟩ := h3 j (by omega)
    exact ⟨G', by rw [List.getElem?_set_ne (by omega)]; exact e1, (b1.up n).of_block (O.block G' (by omega)), l1⟩
theorem RowK.rd {B g : Nat} {wr : World} {ce : List (List Int)} {vs : List Value} (h : RowK B wr g ce ce.length vs) : ∃ ps, RdL wr g (some ⟨g, 0, none⟩) ce ps ∧ ∀ i, i < ce.length → B < (ps.getD i plb0).q := by
  obtain ⟨h1, h2, h3⟩ := h
  obtain ⟨Gs, hG⟩ := pick_list ce.length h3
  have e : ∀ i, i < ce.length → ((List.range ce.length).map fun j => (⟨some ⟨Gs.getD j 0, 0, none⟩, (ce.getD j []).length, Gs.getD j 0⟩ : Plb)).getD i plb0 = ⟨some ⟨Gs.getD i 0, 0, none⟩, (ce.getD i []).length, Gs.getD i 0⟩ := fun i hi => by
    rw [List.getD_eq_getElem?_getD]
    simp [hi]
  refine ⟨(List.range ce.length).map fun j => ⟨some ⟨Gs.getD j 0, 0, none⟩, (ce.getD j []).length, Gs.getD j 0⟩, ⟨fun _ => ⟨0, rfl, fun i hi => ?_⟩, fun i hi => ?_⟩, fun i hi => ?_⟩
  · rw [Nat.zero_add, h2.cell i, e i hi]
    exact (hG i hi).1
  · rw [e i hi]
    exact (hG i hi).2.1.own0.rd
  · rw [e i hi]
    exact (hG i hi).2.2
set_option maxHeartbeats 1000000 in
theorem eqBlob_same (w : World) (g g' : Nat) (a b : Option Addr) (ca cb : Nat) (xs : List Int) (ha : Rd w g a .u8 xs) (hb : Rd w g' b .u8 xs) (hn : xs.length ≤ 1048576) :
    Calls Tryz.prog 70 #[.agg #[.slice a xs.length ca], .agg #[.slice b xs.length cb]] w fun e w' => e = .returned (.bool true) ∧ Below w.heap.size w w' := by
  have n1 : Below w.heap.size w (w.alloc (.cells #[.slice a xs.length ca] 63)) := (Below.refl _ _).alloc (Nat.le_refl _) _
  have n2 : Below w.heap.size w ((w.alloc (.cells #[.slice a xs.length ca] 63)).alloc (.cells #[.slice b xs.length cb] 63)) := n1.alloc n1.size _
  have BE := hide (eqByteS_same _ g g' a b ca cb xs (ha.up n2) (hb.up n2) hn)
  have N2 := hide n2
  clear ha hb n1 n2
  generalize xs.length = m at *
  go_enter Tryz.func70, Tryz.ntmps70
  go_wp2_with fail
  refine BE.out.mono ?_
  rintro e w1 ⟨rfl, n3⟩
  go_wp2
  go_ret
  exact ⟨rfl, nxt N2.out n3⟩
end Go.Proofs.YtflecleofaeiiaaGreat

/-
  The laws' helpers on rows of lists: held against each other, counted.
-/
namespace Go.Proofs.YtflecleofaeiiaaGreat
open Go Go.RowKit

theorem range_one {w : World} {g o : Nat} {v : Value} (h : w.cell? ⟨g, o, none⟩ = some v) : w.rangeAt g o [v] := fun j u hj => by
  match j, hj with
  | 0, hj =>
    rw [Nat.add_zero]
    simp only [List.getElem?_cons_zero, Option.some.injEq] at hj
    rw [← hj]
    exact h
  | j + 1, hj => simp at hj
set_option maxHeartbeats 2000000 in
theorem eqBlobS_same (w : World) (g g' : Nat) (a b : Option Addr) (ca cb : Nat) (ce : List (List Int)) (ps qs : List Plb) (ha : RdL w g a ce ps) (hb : RdL w g' b ce qs) (hn : ce.length ≤ 1048576) (hz : ∀ i, i < ce.length → (ce.getD i []).length ≤ 1048576) :
    Calls Tryz.prog 57 #[.slice a ce.length ca, .slice b ce.length cb] w fun e w' => e = .returned (.bool true) ∧ Below w.heap.size w w' := by
  obtain ⟨d1, hd1, hrow1⟩ := rowB
  have e0 : ((ce.length : Int) != (ce.length : Int)) = false := by simp
  go_enter Tryz.func57, Tryz.ntmps57
  go_wp2
  go_loopw [5] (fun i wr => ∃ (k : Nat), k ≤ ce.length ∧ i = .int .i64 k ∧ Below w.heap.size w wr) (fun i _ => ce.length - (intOf i).toNat)
  case atStart => exact ⟨0, Nat.zero_le _, rfl, Below.refl _ _⟩
  case round =>
    obtain ⟨k, hk, rfl, nb⟩ := hrel
    by_cases hlt : k < ce.length
    · obtain ⟨off, rfl, hc⟩ := (ha.up nb).r (by omega)
      obtain ⟨off', rfl, hc'⟩ := (hb.up nb).r (by omega)
      have t0 : (k : Int) < (ce.length : Int) := by omega
      have t1 : decide ((k : Int) < (ce.length : Int)) = true := decide_eq_true t0
      have c1 := hc k hlt
      have c2 := hc' k hlt
      have EB := hide (fun (W : World) (n : Below wr.heap.size wr W) => eqBlob_same W _ _ _ _ (ps.getD k plb0).c (qs.getD k plb0).c _ (((ha.up nb).b k hlt).up n) (((hb.up nb).b k hlt).up n) (hz k hlt))
      have NB := hide nb
      clear hc hc' nb
      generalize (ps.getD k plb0).a = pa at *
      generalize (ps.getD k plb0).c = pc at *
      generalize (qs.getD k plb0).a = qa at *
      generalize (qs.getD k plb0).c = qc at *
      generalize (ce.getD k []).length = m at *
      go_upto_region 6 with fail
      refine region_end 10 (fun i => [Fact.eq (.slice (some ⟨g, off, none⟩) ce.length ca), Fact.eq (.int .i64 (k : Int)), Fact.eq (.pointer (some ⟨g, off + k, none⟩)), Fact.eq (.agg #[.slice pa m pc]), Fact.eq (.slice (some ⟨g', off', none⟩) ce.length cb), Fact.eq (.int .i64 (k : Int)), Fact.eq (.pointer (some ⟨g', off' + k, none⟩)), Fact.eq (.agg #[.slice qa m qc]), Fact.eq (.bool true), Fact.eq (.bool false)].getD i Fact.no) (by kernel_rfl) (by kernel_rfl) rfl ?_ ?_
      · intro i hi
        obtain rfl | rfl | rfl | rfl | rfl | rfl | rfl | rfl | rfl | rfl : i = 0 ∨ i = 1 ∨ i = 2 ∨ i = 3 ∨ i = 4 ∨ i = 5 ∨ i = 6 ∨ i = 7 ∨ i = 8 ∨ i = 9 := by omega
        · refine step_pure rfl fun A ww hb hw hf => ?_
          have e1 : A.tmps[0]?.getD undef = .slice (some ⟨g, off, none⟩) ce.length ca := gdv (hb.2.2 0 (by kernel_rfl))
          exact ⟨.slice (some ⟨g, off, none⟩) ce.length ca, by simp [go_sem, e1], rfl⟩
        · refine step_pure rfl fun A ww hb hw hf => ?_
          have e1 : A.tmps[5]?.getD undef = .int .i64 (k : Int) := gdv (hb.2.2 5 (by kernel_rfl))
          exact ⟨.int .i64 (k : Int), by simp [go_sem, e1], rfl⟩
        · refine step_pure rfl fun A ww hb hw hf => ?_
          have e1 : A.tmps[17]?.getD undef = .slice (some ⟨g, off, none⟩) ce.length ca := gdv (hf 0 17 (by kernel_rfl))
          have e2 : A.tmps[18]?.getD undef = .int .i64 (k : Int) := gdv (hf 1 18 (by kernel_rfl))
          exact ⟨.pointer (some ⟨g, off + k, none⟩), by simp [go_sem, e1, e2, hlt], rfl⟩
        · refine step_load rfl 63 (.tmp 19) rfl d1 1 hd1 hrow1 iB fun A ww hb hw hf => ⟨_, _, [.slice pa m pc], hf 2 19 (by kernel_rfl), range_one ((hw.cell (block_lt_of_cell c1)).trans c1), rfl, rfl⟩
        · refine step_pure rfl fun A ww hb hw hf => ?_
          have e1 : A.tmps[1]?.getD undef = .slice (some ⟨g', off', none⟩) ce.length cb := gdv (hb.2.2 1 (by kernel_rfl))
          exact ⟨.slice (some ⟨g', off', none⟩) ce.length cb, by simp [go_sem, e1], rfl⟩
        · refine step_pure rfl fun A ww hb hw hf => ?_
          have e1 : A.tmps[5]?.getD undef = .int .i64 (k : Int) := gdv (hb.2.2 5 (by kernel_rfl))
          exact ⟨.int .i64 (k : Int), by simp [go_sem, e1], rfl⟩
        · refine step_pure rfl fun A ww hb hw hf => ?_
          have e1 : A.tmps[21]?.getD undef = .slice (some ⟨g', off', none⟩) ce.length cb := gdv (hf 4 21 (by kernel_rfl))
          have e2 : A.tmps[22]?.getD undef = .int .i64 (k : Int) := gdv (hf 5 22 (by kernel_rfl))
          exact ⟨.pointer (some ⟨g', off' + k, none⟩), by simp [go_sem, e1, e2, hlt], rfl⟩
        · refine step_load rfl 63 (.tmp 23) rfl d1 1 hd1 hrow1 iB fun A ww hb hw hf => ⟨_, _, [.slice qa m qc], hf 6 23 (by kernel_rfl), range_one ((hw.cell (block_lt_of_cell c2)).trans c2), rfl, rfl⟩
        · refine step_callv rfl 70 _ _ rfl (by kernel_rfl) fun A ww hb hw hf => ?_
          have e1 : A.tmps.getD 20 undef = .agg #[.slice pa m pc] := hf 3 20 (by kernel_rfl)
          have e2 : A.tmps.getD 24 undef = .agg #[.slice qa m qc] := hf 7 24 (by kernel_rfl)
          show Calls Tryz.prog 70 #[A.tmps.getD 20 undef, A.tmps.getD 24 undef] ww _
          rw [e1, e2]
          exact (EB.out ww hw).mono (by rintro r w' ⟨rfl, n⟩; exact ⟨_, rfl, n, rfl⟩)
        · refine step_pure rfl fun A ww hb hw hf => ?_
          have e1 : A.tmps[25]?.getD undef = .bool true := gdv (hf 8 25 (by kernel_rfl))
          exact ⟨.bool false, by simp [go_sem, e1], rfl⟩
      intro A W hb' hw hF
      have e2 := hF 9 26 (by kernel_rfl)
      obtain ⟨vs, hvs⟩ : ∃ vs : Nat → Value, ∀ d, A.tmps.getD d undef = vs d := ⟨_, fun _ => rfl⟩
      rw [hvs] at e2
      rw [puts_of (md := .any) (k := 10) (by kernel_rfl) rfl hb' vs hvs]
      have e3 : vs 26 = .bool false := e2
      have NW := hide (nxt NB.out hw)
      clear hb' hF hvs e2 c1 c2 EB hw NB
      simp only [puts, e3, Act.put, List.setIfInBounds_toArray, List.set_cons_succ, List.set_cons_zero]
      clear e3
      go_wp2
      go_roundw
      case rel => exact ⟨k + 1, by omega, by go_num, NW.out⟩
      case measure => simp [intOf]; omega
    · obtain rfl : k = ce.length := by omega
      have NB := hide nb
      clear nb ha hb
      go_wp2
      go_ret
      exact ⟨rfl, NB.out⟩
/-- What is left of a number behind a count, or -1. -/
def Lft (L : Int) (n : Int) (r : Int) : Prop := (L < n ∧ r = -1) ∨ (n ≤ L ∧ r = L - n)
def sumB (ce : List (List Int)) : Nat := ce.foldr (fun l s => l.length + s) 0
theorem sumB_app (x y : List (List Int)) : sumB (x ++ y) = sumB x + sumB y := by
  induction x with
  | nil => simp [sumB]
  | cons a x ih => show a.length + sumB (x ++ y) = a.length + sumB x + sumB y; rw [ih]; omega
theorem sumB_take {ls : List (List Int)} {k : Nat} (h : k < ls.length) : sumB (ls.take (k + 1)) = sumB (ls.take k) + (ls.getD k []).length := by
  rw [List.take_succ_eq_append_getElem h, sumB_app, List.getD_eq_getElem?_getD, List.getElem?_eq_getElem h]
  simp [sumB]
theorem sumB_le {ls : List (List Int)} (k : Nat) : sumB (ls.take k) ≤ sumB ls := by
  have := sumB_app (ls.take k) (ls.drop k)
  rw [List.take_append_drop] at this
  omega
theorem sumB_get {ls : List (List Int)} {k : Nat} (h : k < ls.length) : (ls.getD k []).length ≤ sumB ls := by
  have := sumB_take h
  have := sumB_le (ls := ls) (k + 1)
  omega
end Go.Proofs.YtflecleofaeiiaaGreat
