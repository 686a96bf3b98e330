import Derived.Test.YtmfajpplagbfcaaGreatDoorHB16
import Derived.Test.YtmfajpplagbfcaaGreatDoorHB4
import Derived.Test.YtmfajpplagbfcaaGreatDoorHB3
import Derived.Test.YtmfajpplagbfcaaGreatDoorHB5
import Derived.Maps.AppendAt
import Derived.Test.YtmfajpplagbfcaaGreatDoorHB13
import Derived.Deep.Cut
namespace Go.Proofs.YtmfajpplagbfcaaGreatDoor
set_option maxRecDepth 100000
open Go Go.RowKit
structure HasZ (p : MQ) (m : Msg) : Prop where
  z2 : p.a2 = none → p.c2 = 0
  z3 : p.a3 = none → p.c3 = 0
  z6 : p.a6 = none → p.c6 = 0
  z9 : p.a9 = none → p.c9 = 0
  z12 : p.a12 = none → p.c12 = 0
  zc : ∀ i, i < m.ce.length → (p.ps.getD i plb0).a = none → (p.ps.getD i plb0).c = 0
theorem rd_lt {w : World} {g : Nat} {a : Option Addr} {xs : List Int} (r : Rd w g a .u8 xs) : xs.length = 0 ∨ g < w.heap.size := by
  by_cases h0 : 0 < xs.length
  · obtain ⟨off, ha, hc⟩ := r h0
    exact .inr (block_lt_of_cell (hc 0 h0))
  · exact .inl (by omega)
theorem lstR_of {w : World} {g : Nat} {a : Option Addr} {c : Nat} {xs : List Int} (r : Rd w g a .u8 xs) (z : a = none → c = 0) (m : xs.length ≤ 1048576) : LstR w ⟨g, a, c, xs⟩ := ⟨r, z, m, rd_lt r⟩
theorem txsR_of {w : World} {g : Nat} {a : Option Addr} {ls : List (List UInt8)} (r : RdT w g a ls) (n : ls.length ≤ 8) (z : ∀ l ∈ ls, l.length ≤ 1048576) : TxsR w g a ls := ⟨r, n, z, by
  by_cases h0 : 0 < ls.length
  · exact .inr (r.lt h0)
  · exact .inl (by omega)⟩
theorem ctsR_of {w : World} {g : Nat} {a : Option Addr} {bs : List (List Int)} {ps : List Plb} (r : RdL w g a bs ps) (n : bs.length ≤ 4) (z : ∀ i, i < bs.length → (bs.getD i []).length ≤ 1048576) (y : ∀ i, i < bs.length → (ps.getD i plb0).a = none → (ps.getD i plb0).c = 0) : CtsR w g a bs ps := ⟨r, n, z, y, fun i hi => rd_lt (r.b i hi)⟩
theorem pr_len {ls : List (List UInt8)} {n : Nat} (h : prB ls n ≠ false) : ls.length ≤ n := by
  unfold prB at h
  rw [Bool.ne_false_iff, Bool.and_eq_true] at h
  simpa using h.1
theorem he_pr {v : Int} {r s : Nat} {ho : List UInt8} {ls : List (List UInt8)} {t b : Nat} {g e : Int} (h : heF v r s ho ls t b g e = 0) : ls.length ≤ 8 := by
  unfold heF at h
  refine pr_len fun c => ?_
  rw [c] at h
  revert h
  split
  · simp
  · split
    · simp
    · simp
theorem ex_pr {ls : List (List UInt8)} {e : Int} (h : exF ls e = 0) : ls.length ≤ 8 := by
  unfold exF at h
  refine Nat.le_trans (pr_len (n := 1) fun c => ?_) (by decide)
  rw [c] at h
  simp at h
theorem ce_n {bs : List (List Int)} (h : ceF bs = 0) : bs.length ≤ 4 := by
  unfold ceF at h
  by_cases c : 4 < bs.length
  · rw [if_neg (by omega), if_pos c] at h
    simp at h
  · omega
theorem clL_len {bs : List (List Int)} (n : bs.length ≤ 4) (z : ∀ i, i < bs.length → (bs.getD i []).length ≤ 1048576) : (clL bs).length ≤ 536870912 := by
  have := lo_sum bs 1048576 z bs.length
  rw [List.take_of_length_le (by simp)] at this
  have : bs.length * (1048576 + 2) ≤ 4 * (1048576 + 2) := Nat.mul_le_mul_right _ n
  unfold clL
  rw [List.length_append]
  simp only [List.length_cons, List.length_nil]
  omega
theorem heL_len {v : Int} {r s : List Int} {ho : List UInt8} {pr : List (List UInt8)} {t : List Int} {ag ea : Int} {b : List Int} (h1 : r.length ≤ 1048576) (h2 : s.length ≤ 1048576) (h3 : ho.length ≤ 1048576) (h4 : pr.length ≤ 8) (h5 : ∀ l ∈ pr, l.length ≤ 1048576) (h6 : t.length ≤ 1048576) (h7 : b.length ≤ 1048576) : (heL v r s ho pr t ag ea b).length ≤ 536870912 := by
  have := lsL_len pr h4 h5
  have : (bdL t ag ea b).length ≤ 1048581 := by
    unfold bdL
    split
    · simp
    · simp only [List.length_append, bigL_len]; omega
  unfold heL
  simp only [List.length_append, fpL_len, shL_len, loL_len]
  omega
set_option maxRecDepth 100000 in
theorem implEncHello (w : World) (p : MQ) (k v : Int) (r s : List Int) (ho : List UInt8) (pr : List (List UInt8)) (ti : List Int) (ag ea : Int) (bi : List Int) (rs : Bool) (ce : List (List Int)) (pf : List Int) (h : HasM w p ⟨k, v, r, s, ho, pr, ti, ag, ea, bi, rs, ce, pf⟩) (i : IsM ⟨k, v, r, s, ho, pr, ti, ag, ea, bi, rs, ce, pf⟩) (z : HasZ p ⟨k, v, r, s, ho, pr, ti, ag, ea, bi, rs, ce, pf⟩) (hk : k = 1) :
    Calls Tryz.prog 7 #[.agg (mgV p ⟨k, v, r, s, ho, pr, ti, ag, ea, bi, rs, ce, pf⟩)] w (BodP w (if sameM (helloM ⟨k, v, r, s, ho, pr, ti, ag, ea, bi, rs, ce, pf⟩) ⟨k, v, r, s, ho, pr, ti, ag, ea, bi, rs, ce, pf⟩ = true ∧ heF v r.length s.length ho pr ti.length bi.length ag ea = 0 then enL 1 (heL v r s ho pr ti ag ea bi) else [])) := by
  subst hk
  exact encHello w _ _ _ _ _ _ _ _ _ _ _ _ _ rfl _ _ _ (heL v r s ho pr ti ag ea bi) (fun f0 => heL_len i.rL i.sL i.hoL (he_pr f0) i.prZ i.tiL i.biL) (fun W n => typedHello_any W p _ (h.up n) i rfl) (fun W q n R _ f0 => helloBody_any W q v ⟨p.g2, p.a2, p.c2, r⟩ ⟨p.g3, p.a3, p.c3, s⟩ ⟨p.g6, p.a6, p.c6, ti⟩ ⟨p.g9, p.a9, p.c9, bi⟩ ho p.g5 p.a5 p.c5 pr ag ea (R.cell 0) (R.cell 1) (R.cell 2) (R.cell 3) (R.cell 4) (R.cell 5) (R.cell 6) (R.cell 7) (R.cell 8) (lstR_of (h.up n).r z.z2 i.rL) (lstR_of (h.up n).s z.z3 i.sL) (lstR_of (h.up n).ti z.z6 i.tiL) (lstR_of (h.up n).bi z.z9 i.biL) (txsR_of (h.up n).pr (he_pr f0) i.prZ) i.hoL)
set_option maxRecDepth 100000 in
theorem implEncAnswer (w : World) (p : MQ) (k v : Int) (r s : List Int) (ho : List UInt8) (pr : List (List UInt8)) (ti : List Int) (ag ea : Int) (bi : List Int) (rs : Bool) (ce : List (List Int)) (pf : List Int) (h : HasM w p ⟨k, v, r, s, ho, pr, ti, ag, ea, bi, rs, ce, pf⟩) (i : IsM ⟨k, v, r, s, ho, pr, ti, ag, ea, bi, rs, ce, pf⟩) (z : HasZ p ⟨k, v, r, s, ho, pr, ti, ag, ea, bi, rs, ce, pf⟩) (hk : k = 2) :
    Calls Tryz.prog 7 #[.agg (mgV p ⟨k, v, r, s, ho, pr, ti, ag, ea, bi, rs, ce, pf⟩)] w (BodP w (if sameM (answerM ⟨k, v, r, s, ho, pr, ti, ag, ea, bi, rs, ce, pf⟩) ⟨k, v, r, s, ho, pr, ti, ag, ea, bi, rs, ce, pf⟩ = true ∧ fpF v r.length s.length = 0 then enL 2 (fpL v r s ++ [if rs = true then 1 else 0]) else [])) := by
  subst hk
  exact encAnswer w _ _ _ _ _ _ _ _ _ _ _ _ _ rfl _ _ _ (fpL v r s ++ [if rs = true then 1 else 0]) (fun _ => by have a1 : r.length ≤ 1048576 := i.rL; have a2 : s.length ≤ 1048576 := i.sL; rw [List.length_append, fpL_len]; simp only [List.length_cons, List.length_nil]; omega) (fun W n => typedAnswer_any W p _ (h.up n) i rfl) (fun W q n R _ _ => answerBody_any W q v ⟨p.g2, p.a2, p.c2, r⟩ ⟨p.g3, p.a3, p.c3, s⟩ rs (R.cell 0) (R.cell 1) (R.cell 2) (R.cell 3) (lstR_of (h.up n).r z.z2 i.rL) (lstR_of (h.up n).s z.z3 i.sL))
set_option maxRecDepth 100000 in
theorem implEncTicket (w : World) (p : MQ) (k v : Int) (r s : List Int) (ho : List UInt8) (pr : List (List UInt8)) (ti : List Int) (ag ea : Int) (bi : List Int) (rs : Bool) (ce : List (List Int)) (pf : List Int) (h : HasM w p ⟨k, v, r, s, ho, pr, ti, ag, ea, bi, rs, ce, pf⟩) (i : IsM ⟨k, v, r, s, ho, pr, ti, ag, ea, bi, rs, ce, pf⟩) (z : HasZ p ⟨k, v, r, s, ho, pr, ti, ag, ea, bi, rs, ce, pf⟩) (hk : k = 4) :
    Calls Tryz.prog 7 #[.agg (mgV p ⟨k, v, r, s, ho, pr, ti, ag, ea, bi, rs, ce, pf⟩)] w (BodP w (if sameM (ticketM ⟨k, v, r, s, ho, pr, ti, ag, ea, bi, rs, ce, pf⟩) ⟨k, v, r, s, ho, pr, ti, ag, ea, bi, rs, ce, pf⟩ = true ∧ tiF ag ea r.length ti.length = 0 then enL 4 (tkL ag ea r ti) else [])) := by
  subst hk
  exact encTicket w _ _ _ _ _ _ _ _ _ _ _ _ _ rfl _ _ _ (tkL ag ea r ti) (fun _ => by have a1 : r.length ≤ 1048576 := i.rL; have a2 : ti.length ≤ 1048576 := i.tiL; unfold tkL; simp only [List.length_append, bigL_len, loL_len]; omega) (fun W n => typedTicket_any W p _ (h.up n) i rfl) (fun W q n R _ _ => ticketBody_any W q ag ea ⟨p.g2, p.a2, p.c2, r⟩ ⟨p.g6, p.a6, p.c6, ti⟩ (R.cell 0) (R.cell 1) (R.cell 2) (R.cell 3) (lstR_of (h.up n).r z.z2 i.rL) (lstR_of (h.up n).ti z.z6 i.tiL))
set_option maxRecDepth 100000 in
theorem implEncEnd (w : World) (p : MQ) (k v : Int) (r s : List Int) (ho : List UInt8) (pr : List (List UInt8)) (ti : List Int) (ag ea : Int) (bi : List Int) (rs : Bool) (ce : List (List Int)) (pf : List Int) (h : HasM w p ⟨k, v, r, s, ho, pr, ti, ag, ea, bi, rs, ce, pf⟩) (i : IsM ⟨k, v, r, s, ho, pr, ti, ag, ea, bi, rs, ce, pf⟩) (_z : HasZ p ⟨k, v, r, s, ho, pr, ti, ag, ea, bi, rs, ce, pf⟩) (hk : k = 5) :
    Calls Tryz.prog 7 #[.agg (mgV p ⟨k, v, r, s, ho, pr, ti, ag, ea, bi, rs, ce, pf⟩)] w (BodP w (if sameM (endM ⟨k, v, r, s, ho, pr, ti, ag, ea, bi, rs, ce, pf⟩) ⟨k, v, r, s, ho, pr, ti, ag, ea, bi, rs, ce, pf⟩ = true ∧ (0 : Int) = 0 then enL 5 ([]) else [])) := by
  subst hk
  exact encEnd w _ _ _ _ _ _ _ _ _ _ _ _ _ rfl _ _ _ ([]) (fun _ => by simp) (fun W n => typedEnd_any W p _ (h.up n) i rfl) (fun W _ _ _ _ _ => endBody_any W _)
set_option maxRecDepth 100000 in
theorem implEncExtras (w : World) (p : MQ) (k v : Int) (r s : List Int) (ho : List UInt8) (pr : List (List UInt8)) (ti : List Int) (ag ea : Int) (bi : List Int) (rs : Bool) (ce : List (List Int)) (pf : List Int) (h : HasM w p ⟨k, v, r, s, ho, pr, ti, ag, ea, bi, rs, ce, pf⟩) (i : IsM ⟨k, v, r, s, ho, pr, ti, ag, ea, bi, rs, ce, pf⟩) (_z : HasZ p ⟨k, v, r, s, ho, pr, ti, ag, ea, bi, rs, ce, pf⟩) (hk : k = 8) :
    Calls Tryz.prog 7 #[.agg (mgV p ⟨k, v, r, s, ho, pr, ti, ag, ea, bi, rs, ce, pf⟩)] w (BodP w (if sameM (extrasM ⟨k, v, r, s, ho, pr, ti, ag, ea, bi, rs, ce, pf⟩) ⟨k, v, r, s, ho, pr, ti, ag, ea, bi, rs, ce, pf⟩ = true ∧ exF pr ea = 0 then enL 8 (lsL pr ++ bigL ea 1) else [])) := by
  subst hk
  exact encExtras w _ _ _ _ _ _ _ _ _ _ _ _ _ rfl _ _ _ (lsL pr ++ bigL ea 1) (fun f0 => by have a1 := lsL_len pr (ex_pr f0) i.prZ; rw [List.length_append, bigL_len]; omega) (fun W n => typedExtras_any W p _ (h.up n) i rfl) (fun W q n R _ f0 => extrasBody_any W q p.g5 p.a5 p.c5 pr ea (R.cell 0) (R.cell 1) (txsR_of (h.up n).pr (ex_pr f0) i.prZ))
set_option maxRecDepth 100000 in
theorem implEncCerts (w : World) (p : MQ) (k v : Int) (r s : List Int) (ho : List UInt8) (pr : List (List UInt8)) (ti : List Int) (ag ea : Int) (bi : List Int) (rs : Bool) (ce : List (List Int)) (pf : List Int) (h : HasM w p ⟨k, v, r, s, ho, pr, ti, ag, ea, bi, rs, ce, pf⟩) (i : IsM ⟨k, v, r, s, ho, pr, ti, ag, ea, bi, rs, ce, pf⟩) (z : HasZ p ⟨k, v, r, s, ho, pr, ti, ag, ea, bi, rs, ce, pf⟩) (hk : k = 11) :
    Calls Tryz.prog 7 #[.agg (mgV p ⟨k, v, r, s, ho, pr, ti, ag, ea, bi, rs, ce, pf⟩)] w (BodP w (if sameM (certsM ⟨k, v, r, s, ho, pr, ti, ag, ea, bi, rs, ce, pf⟩) ⟨k, v, r, s, ho, pr, ti, ag, ea, bi, rs, ce, pf⟩ = true ∧ ceF ce = 0 then enL 11 (clL ce) else [])) := by
  subst hk
  exact encCerts w _ _ _ _ _ _ _ _ _ _ _ _ _ rfl _ _ _ (clL ce) (fun f0 => clL_len (ce_n f0) i.ceZ) (fun W n => typedCerts_any W p _ (h.up n) i rfl) (fun W q n R _ f0 => certsBody_any W q p.g11 p.a11 p.c11 ce p.ps (R.cell 0) (ctsR_of (h.up n).ce (ce_n f0) i.ceZ z.zc))
set_option maxRecDepth 100000 in
theorem implEncProof (w : World) (p : MQ) (k v : Int) (r s : List Int) (ho : List UInt8) (pr : List (List UInt8)) (ti : List Int) (ag ea : Int) (bi : List Int) (rs : Bool) (ce : List (List Int)) (pf : List Int) (h : HasM w p ⟨k, v, r, s, ho, pr, ti, ag, ea, bi, rs, ce, pf⟩) (i : IsM ⟨k, v, r, s, ho, pr, ti, ag, ea, bi, rs, ce, pf⟩) (z : HasZ p ⟨k, v, r, s, ho, pr, ti, ag, ea, bi, rs, ce, pf⟩) (hk : k = 15) :
    Calls Tryz.prog 7 #[.agg (mgV p ⟨k, v, r, s, ho, pr, ti, ag, ea, bi, rs, ce, pf⟩)] w (BodP w (if sameM (proofM ⟨k, v, r, s, ho, pr, ti, ag, ea, bi, rs, ce, pf⟩) ⟨k, v, r, s, ho, pr, ti, ag, ea, bi, rs, ce, pf⟩ = true ∧ pfF 64 pf.length = 0 then enL 15 (pf) else [])) := by
  subst hk
  exact encProof w _ _ _ _ _ _ _ _ _ _ _ _ _ rfl _ _ _ (pf) (fun _ => by have a1 : pf.length ≤ 1048576 := i.pfL; omega) (fun W n => typedProof_any W p _ (h.up n) i rfl) (fun W q n R _ _ => proofBody_any W q ⟨p.g12, p.a12, p.c12, pf⟩ (lstR_of (h.up n).pf z.z12 i.pfL) (R.cell 0))
set_option maxRecDepth 100000 in
theorem implEncFinished (w : World) (p : MQ) (k v : Int) (r s : List Int) (ho : List UInt8) (pr : List (List UInt8)) (ti : List Int) (ag ea : Int) (bi : List Int) (rs : Bool) (ce : List (List Int)) (pf : List Int) (h : HasM w p ⟨k, v, r, s, ho, pr, ti, ag, ea, bi, rs, ce, pf⟩) (i : IsM ⟨k, v, r, s, ho, pr, ti, ag, ea, bi, rs, ce, pf⟩) (z : HasZ p ⟨k, v, r, s, ho, pr, ti, ag, ea, bi, rs, ce, pf⟩) (hk : k = 20) :
    Calls Tryz.prog 7 #[.agg (mgV p ⟨k, v, r, s, ho, pr, ti, ag, ea, bi, rs, ce, pf⟩)] w (BodP w (if sameM (finishedM ⟨k, v, r, s, ho, pr, ti, ag, ea, bi, rs, ce, pf⟩) ⟨k, v, r, s, ho, pr, ti, ag, ea, bi, rs, ce, pf⟩ = true ∧ pfF 32 pf.length = 0 then enL 20 (pf) else [])) := by
  subst hk
  exact encFinished w _ _ _ _ _ _ _ _ _ _ _ _ _ rfl _ _ _ (pf) (fun _ => by have a1 : pf.length ≤ 1048576 := i.pfL; omega) (fun W n => typedFinished_any W p _ (h.up n) i rfl) (fun W q n R _ _ => finishedBody_any W q ⟨p.g12, p.a12, p.c12, pf⟩ (lstR_of (h.up n).pf z.z12 i.pfL) (R.cell 0))
set_option maxRecDepth 100000 in
theorem implEncUpdate (w : World) (p : MQ) (k v : Int) (r s : List Int) (ho : List UInt8) (pr : List (List UInt8)) (ti : List Int) (ag ea : Int) (bi : List Int) (rs : Bool) (ce : List (List Int)) (pf : List Int) (h : HasM w p ⟨k, v, r, s, ho, pr, ti, ag, ea, bi, rs, ce, pf⟩) (i : IsM ⟨k, v, r, s, ho, pr, ti, ag, ea, bi, rs, ce, pf⟩) (_z : HasZ p ⟨k, v, r, s, ho, pr, ti, ag, ea, bi, rs, ce, pf⟩) (hk : k = 24) :
    Calls Tryz.prog 7 #[.agg (mgV p ⟨k, v, r, s, ho, pr, ti, ag, ea, bi, rs, ce, pf⟩)] w (BodP w (if sameM (updateM ⟨k, v, r, s, ho, pr, ti, ag, ea, bi, rs, ce, pf⟩) ⟨k, v, r, s, ho, pr, ti, ag, ea, bi, rs, ce, pf⟩ = true ∧ upF ea = 0 then enL 24 (bigL ea 1) else [])) := by
  subst hk
  exact encUpdate w _ _ _ _ _ _ _ _ _ _ _ _ _ rfl _ _ _ (bigL ea 1) (fun _ => by rw [bigL_len]; omega) (fun W n => typedUpdate_any W p _ (h.up n) i rfl) (fun W q _ R _ _ => updateBody_any W q ea (R.cell 0))
end Go.Proofs.YtmfajpplagbfcaaGreatDoor
namespace Go.Proofs.YtmfajpplagbfcaaGreatDoor
set_option maxRecDepth 100000
open Go Go.RowKit
structure Plc where
  a : Option Addr
  c : Nat
  q : Nat
def plc0 : Plc := ⟨none, 0, 0⟩
def blC (x : List Int) (q : Plc) : Value := .slice q.a x.length q.c
def blCs : List (List Int) → List Plc → List Value
  | x :: xs, q :: qs => blC x q :: blCs xs qs
  | _, _ => []
theorem blCs_snoc : ∀ (its : List (List Int)) (bs : List Plc) (x : List Int) (q : Plc), bs.length = its.length → blCs (its ++ [x]) (bs ++ [q]) = blCs its bs ++ [blC x q]
  | [], [], x, q, _ => rfl
  | [], _ :: _, _, _, h => by simp at h
  | _ :: _, [], _, _, h => by simp at h
  | y :: its, p :: bs, x, q, h => by
    show blC y p :: blCs (its ++ [x]) (bs ++ [q]) = (blC y p :: blCs its bs) ++ [blC x q]
    rw [blCs_snoc its bs x q (by simpa using h)]
    rfl
theorem blCs_at : ∀ (its : List (List Int)) (bs : List Plc) (i : Nat), bs.length = its.length → i < its.length → (blCs its bs)[i]? = some (.slice (bs.getD i plc0).a (its.getD i []).length (bs.getD i plc0).c)
  | [], _, i, _, hi => by simp at hi
  | _ :: _, [], _, h, _ => by simp at h
  | y :: its, p :: bs, 0, h, hi => rfl
  | y :: its, p :: bs, i + 1, h, hi => by
    show (blCs its bs)[i]? = _
    rw [blCs_at its bs i (by simpa using h) (by simpa using hi)]
    simp
structure Lie (w : World) (x : List Int) (p : Plc) : Prop where
  o : Own w p.q p.a .u8 x
  n : p.a = none → p.c = 0
  c : x.length ≤ p.c
theorem Lie.of {w w' : World} {x : List Int} {p : Plc} (h : Lie w x p) (hb : 0 < x.length → w'.heap[p.q]? = w.heap[p.q]?) : Lie w' x p := by
  refine ⟨?_, h.n, h.c⟩
  by_cases h0 : 0 < x.length
  · exact h.o.of_block (hb h0)
  · exact fun h1 => absurd h1 h0
structure BRow (w : World) (B : Nat) (v : Value) (its : List (List Int)) (bs : List Plc) : Prop where
  o : w.ownsRow B 58 1 v its.length (blCs its bs)
  l : bs.length = its.length
  b : ∀ i, i < its.length → Lie w (its.getD i []) (bs.getD i plc0)
  h : ∀ i, i < its.length → 0 < (its.getD i []).length → B ≤ (bs.getD i plc0).q ∧ v.ownBlock ≠ some (bs.getD i plc0).q
  d : ∀ i j, i < its.length → j < its.length → i ≠ j → 0 < (its.getD i []).length → 0 < (its.getD j []).length → (bs.getD i plc0).q ≠ (bs.getD j plc0).q
theorem bInfo : (Tryz.prog.info? 58).map (fun i => (i.zero, i.size, i.bytes)) = some (some (.agg #[.slice none 0 0]), 1, 24) := by kernel_rfl
theorem bUnd : Tryz.prog.underlying 24 = some (.slice 58) := Tryz.underlying24
theorem BRow.nil (w : World) (B : Nat) : BRow w B (.slice none 0 0) [] [] :=
  ⟨⟨rfl, .inl ⟨rfl, rfl⟩⟩, rfl, fun i h => absurd h (by simp), fun i h => absurd h (by simp), fun i j h => absurd h (by simp)⟩
theorem BRow.lt {w : World} {B : Nat} {v : Value} {its : List (List Int)} {bs : List Plc} (h : BRow w B v its bs) {i : Nat} (hi : i < its.length) (h0 : 0 < (its.getD i []).length) : (bs.getD i plc0).q < w.heap.size := (h.b i hi).o.rd.lt h0
theorem BRow.of {w w' : World} {B : Nat} {v : Value} {its : List (List Int)} {bs : List Plc} (h : BRow w B v its bs) (hb : ∀ k, k < w.heap.size → B ≤ k → w'.heap[k]? = w.heap[k]?) : BRow w' B v its bs := by
  refine ⟨⟨h.o.1, ?_⟩, h.l, fun i hi => ?_, h.h, h.d⟩
  · rcases h.o.2 with h' | ⟨g, cap, cur, rfl, hbg, hg, hnc, hcm, hcs, ht⟩
    · exact .inl h'
    · exact .inr ⟨g, cap, cur, rfl, hbg, by rw [hb g ((Array.getElem?_eq_some_iff.1 hg).1) hbg]; exact hg, hnc, hcm, hcs, ht⟩
  · exact (h.b i hi).of fun h0 => hb _ (h.lt hi h0) (h.h i hi h0).1
theorem BRow.app {w : World} {B : Nat} {v : Value} {its : List (List Int)} {bs : List Plc} (h : BRow w B v its bs) (x : List Int) (q : Plc) (hB : B ≤ w.heap.size) (hq : Lie w x q) (M : Nat) (hBM : B ≤ M) (hM1 : ∀ i, i < its.length → 0 < (its.getD i []).length → (bs.getD i plc0).q < M) (hM2 : ∀ k, v.ownBlock = some k → k < M) (hqM : M ≤ q.q) (hl : its.length ≤ 1048576) :
    ∃ v' w', (Builtin.append_ #[24, 24] 24 #[v, .slice (some ⟨w.heap.size, 0, none⟩) 1 1]).run Tryz.prog (w.alloc (.cells #[.slice q.a x.length q.c] 58)) = .ok v' w' ∧ BRow w' B v' (its ++ [x]) (bs ++ [q]) ∧ (∀ k, k < w.heap.size → v.ownBlock ≠ some k → w'.heap[k]? = w.heap[k]?) ∧ Below B w w' ∧ (∀ p, p < w.heap.size → v.ownBlock ≠ some p → v'.ownBlock ≠ some p) := by
  obtain ⟨i, hi, hz, hs, hby⟩ := info_parts bInfo
  have na : Below w.heap.size w (w.alloc (.cells #[.slice q.a x.length q.c] 58)) := (Below.refl _ _).alloc (Nat.le_refl _) _
  have h0 : (w.alloc (.cells #[.slice q.a x.length q.c] 58)).ownsRow B 58 1 v its.length (blCs its bs) := h.o.alloc _
  have hcell : ∀ j u, ([blC x q])[j]? = some u → (w.alloc (.cells #[.slice q.a x.length q.c] 58)).cell? ((⟨w.heap.size, 0, none⟩ : Addr).add j) = some u := by
    intro j u hj
    have e : (w.alloc (.cells #[.slice q.a x.length q.c] 58)).heap[w.heap.size]? = some (.cells #[.slice q.a x.length q.c] 58) := heap_alloc_new w _
    rw [Addr.add_mid, Nat.zero_add, cell_of_row _ _ j _ _ (0, 0) e]
    simpa [blC] using hj
  obtain ⟨v', w', h1, h2, h3, h4, h5⟩ := run_append_own_at (P := Tryz.prog) (w.alloc (.cells #[.slice q.a x.length q.c] 58)) B 24 24 58 i (.agg #[.slice none 0 0]) 1 24 bUnd hi hz hs hby rfl (by decide) v its.length (blCs its bs) h0 ⟨w.heap.size, 0, none⟩ 1 1 ([blC x q]) (by simp [blC]) hcell (fun u hu => by
    simp only [blC, List.mem_cons, List.not_mem_nil, or_false] at hu
    subst hu; rfl) (by unfold maxLen; omega) (by omega) (Nat.le_trans hB na.size)
  have z : (w.alloc (.cells #[.slice q.a x.length q.c] 58)).heap.size = w.heap.size + 1 := by simp
  have keep : ∀ k, k < w.heap.size → v.ownBlock ≠ some k → w'.heap[k]? = w.heap[k]? := fun k hk hne => (h3.block k (by omega) (fun e => hne e.symm)).trans (na.block k hk)
  have ob := h.o.lt
  have A1 : ∀ j, j < its.length → (bs ++ [q]).getD j plc0 = bs.getD j plc0 := fun j hj => by
    have : j < bs.length := by rw [h.l]; exact hj
    simp [List.getD, List.getElem?_append_left this]
  have A2 : ∀ j, j < its.length → (its ++ [x]).getD j [] = its.getD j [] := fun j hj => by simp [List.getD, List.getElem?_append_left hj]
  have A3 : (bs ++ [q]).getD its.length plc0 = q := by rw [← h.l]; simp
  have A4 : (its ++ [x]).getD its.length [] = x := by simp
  have hqr : v.ownBlock ≠ some q.q := fun e => by have := hM2 _ e; omega
  have LT : ∀ p, p < w.heap.size → v.ownBlock ≠ some p → v'.ownBlock ≠ some p := fun p hp hn => by
    rcases h5 with h5 | h5
    · rw [h5]; exact hn
    · rw [h5]
      intro e
      have e := Option.some.inj e
      omega
  refine ⟨v', w', h1, ⟨?_, by simp [h.l], fun j hj => ?_, fun j hj h0' => ?_, fun j k hj hk hne hj0 hk0 => ?_⟩, keep, ((Below.refl B w).alloc hB _).grown h3 (by omega) (fun k hk => (ob k hk).1), LT⟩
  · show w'.ownsRow B 58 1 v' (its ++ [x]).length (blCs (its ++ [x]) (bs ++ [q]))
    rw [blCs_snoc its bs x q h.l, List.length_append]
    exact h2
  · by_cases hj' : j < its.length
    · rw [A1 j hj', A2 j hj']
      exact (h.b j hj').of fun h0' => keep _ (h.lt hj' h0') (h.h j hj' h0').2
    · have ej : j = its.length := by simp at hj; omega
      subst ej
      rw [A3, A4]
      exact hq.of fun h0' => keep _ (hq.o.rd.lt h0') hqr
  · by_cases hj' : j < its.length
    · rw [A2 j hj'] at h0'
      rw [A1 j hj']
      exact ⟨(h.h j hj' h0').1, LT _ (h.lt hj' h0') (h.h j hj' h0').2⟩
    · have ej : j = its.length := by simp at hj; omega
      subst ej
      rw [A4] at h0'
      rw [A3]
      exact ⟨by omega, LT _ (hq.o.rd.lt h0') hqr⟩
  · by_cases hj' : j < its.length
    · rw [A2 j hj'] at hj0
      rw [A1 j hj']
      by_cases hk' : k < its.length
      · rw [A2 k hk'] at hk0
        rw [A1 k hk']
        exact h.d j k hj' hk' hne hj0 hk0
      · have ek : k = its.length := by simp at hk; omega
        subst ek
        rw [A3]
        have := hM1 j hj' hj0
        omega
    · have ej : j = its.length := by simp at hj; omega
      subst ej
      have hk' : k < its.length := by simp at hk; omega
      rw [A2 k hk'] at hk0
      rw [A1 k hk', A3]
      have := hM1 k hk' hk0
      omega
theorem BRow.cells {w : World} {B : Nat} {v : Value} {its : List (List Int)} {bs : List Plc} (h : BRow w B v its bs) (h0 : 0 < its.length) : ∃ g c, v = .slice (some ⟨g, 0, none⟩) its.length c ∧ B ≤ g ∧ g < w.heap.size ∧ v.ownBlock = some g ∧ (∀ i, i < its.length → w.cell? ⟨g, i, none⟩ = some (.slice (bs.getD i plc0).a (its.getD i []).length (bs.getD i plc0).c)) := by
  rcases h.o.2 with ⟨_, h'⟩ | ⟨g, cap, cur, rfl, hb, hg, hnc, hcm, hcs, ht⟩
  · omega
  · refine ⟨g, cap, rfl, hb, (Array.getElem?_eq_some_iff.1 hg).1, rfl, fun i hi => ?_⟩
    rw [cell_of_row w g _ cur _ (0, 0) hg]
    have : (cur.toList.take (its.length * 1))[i]? = (blCs its bs)[i]? := by rw [ht]
    rw [List.getElem?_take, if_pos (by omega), blCs_at its bs i h.l hi] at this
    simpa using this
theorem BRow.slice {w : World} {B : Nat} {v : Value} {its : List (List Int)} {bs : List Plc} (h : BRow w B v its bs) : ∃ a c, v = .slice a its.length c ∧ (a = none → c = 0) := by
  rcases h.o.2 with ⟨h1, h'⟩ | ⟨g, cap, cur, rfl, hb, hg, hnc, hcm, hcs, ht⟩
  · exact ⟨none, 0, by rw [h1, h'], fun _ => rfl⟩
  · exact ⟨_, cap, rfl, fun e => by cases e⟩
structure NoB (p : Nat) (v : Value) (its : List (List Int)) (bs : List Plc) : Prop where
  o : v.ownBlock ≠ some p
  b : ∀ i, i < its.length → 0 < (its.getD i []).length → (bs.getD i plc0).q ≠ p
theorem NoB.nil (p : Nat) : NoB p (.slice none 0 0) [] [] := ⟨(fun e => nomatch e), fun i h => absurd h (by simp)⟩
theorem NoB.app {p : Nat} {v v' : Value} {its : List (List Int)} {bs : List Plc} (h : NoB p v its bs) (l : bs.length = its.length) (ho : v'.ownBlock ≠ some p) (x : List Int) (q : Plc) (hq : q.q ≠ p) : NoB p v' (its ++ [x]) (bs ++ [q]) := by
  refine ⟨ho, fun j hj h0 => ?_⟩
  by_cases hj' : j < its.length
  · have A1 : (bs ++ [q]).getD j plc0 = bs.getD j plc0 := by
      have : j < bs.length := by rw [l]; exact hj'
      simp [List.getD, List.getElem?_append_left this]
    have A2 : (its ++ [x]).getD j [] = its.getD j [] := by simp [List.getD, List.getElem?_append_left hj']
    rw [A2] at h0
    rw [A1]
    exact h.b j hj' h0
  · have ej : j = its.length := by simp at hj; omega
    subst ej
    rw [← l]
    simpa using hq
theorem BRow.base {w : World} {B C : Nat} {v : Value} {its : List (List Int)} {bs : List Plc} (R : BRow w B v its bs) (hC : C ≤ B) : BRow w C v its bs :=
  ⟨⟨R.o.1, by
      rcases R.o.2 with h' | ⟨g, cap, cur, e1, hbg, h3⟩
      · exact .inl h'
      · exact .inr ⟨g, cap, cur, e1, by omega, h3⟩⟩, R.l, R.b, fun i hi h0 => ⟨by have := (R.h i hi h0).1; omega, (R.h i hi h0).2⟩, R.d⟩
end Go.Proofs.YtmfajpplagbfcaaGreatDoor
namespace Go.Proofs.YtmfajpplagbfcaaGreatDoor
set_option maxRecDepth 100000
open Go Go.RowKit
def putAt : List Value → Nat → List Value → List Value
  | zs, _, [] => zs
  | zs, o, v :: vs => putAt (zs.set o v) (o + 1) vs
theorem putAt_get : ∀ (vs zs : List Value) (o i : Nat), o + vs.length ≤ zs.length → (putAt zs o vs)[i]? = if o ≤ i ∧ i < o + vs.length then vs[i - o]? else zs[i]?
  | [], zs, o, i, _ => by
    rw [if_neg (by simp only [List.length_nil]; omega)]
    rfl
  | v :: vs, zs, o, i, h => by
    simp only [List.length_cons] at h ⊢
    rw [putAt, putAt_get vs (zs.set o v) (o + 1) i (by rw [List.length_set]; omega)]
    by_cases e : o = i
    · subst e
      rw [if_neg (by omega), if_pos (by omega), List.getElem?_set_self (by omega), Nat.sub_self]
      rfl
    · by_cases h2 : o + 1 ≤ i ∧ i < o + 1 + vs.length
      · rw [if_pos h2, if_pos (by omega), show i - o = (i - (o + 1)) + 1 by omega]
        rfl
      · rw [if_neg h2, if_neg (by omega), List.getElem?_set_ne e]
theorem putAt_all {zs cs : List Value} (h : cs.length = zs.length) : putAt zs 0 cs = cs := by
  apply List.ext_getElem?
  intro i
  rw [putAt_get cs zs 0 i (by omega)]
  by_cases hi : i < cs.length
  · rw [if_pos (by omega)]
    rfl
  · rw [if_neg (by omega), List.getElem?_eq_none (by omega), List.getElem?_eq_none (by omega)]
theorem RwC.puts {t : TypeId} {q : Nat} : ∀ (vs zs : List Value) (w : World) (o : Nat), RwC w q zs t → RwC (w.setCells q o vs) q (putAt zs o vs) t
  | [], _, _, _, h => h
  | v :: vs, zs, w, o, h => RwC.puts vs (zs.set o v) (w.setCell ⟨q, o, none⟩ v) (o + 1) (h.set o v)
theorem RwC.put {w : World} {q : Nat} {zs cs : List Value} {t : TypeId} (h : RwC w q zs t) (hl : cs.length = zs.length) : RwC (w.setCells q 0 cs) q cs t := by
  have := RwC.puts cs zs w 0 h
  rwa [putAt_all hl] at this
section
variable {P : Program} {ops : Array Oper} {Q : Exit → Act → World → Prop}
end
end Go.Proofs.YtmfajpplagbfcaaGreatDoor
