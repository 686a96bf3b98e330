import Derived.Test.YtpopaifcanlkeaaGreatGE22
import Derived.Test.YtpopaifcanlkeaaGreatGE20
import Derived.Test.YtpopaifcanlkeaaGreatGE21
import Derived.Test.YtpopaifcanlkeaaGreatGE14

/-
  A copied message marked (written by gens/miw.py).
-/
namespace Go.Proofs.YtpopaifcanlkeaaGreat
open Go Go.RowKit

theorem cellM {w w' : World} {b hi q i : Nat} {x : Value} (n : Ch b hi w w') (h : w.cell? ⟨q, i, none⟩ = some x) (hq : hi ≤ q) : w'.cell? ⟨q, i, none⟩ = some x :=
  (World.cell?_of_block (a := ⟨q, i, none⟩) (n.block q (block_lt_of_cell h) (.inr hq))).trans h
set_option maxRecDepth 100000 in
set_option maxHeartbeats 4000000 in
theorem markMessage_own (w : World) (b G2 G3 G5 G6 G9 G11 G12 : Nat) (Gs : List Nat) (m : Msg) (k : Int) (h : OwnM b w G2 G3 G5 G6 G9 G11 G12 Gs m) (i : IsM m) (hz : sumB m.ce ≤ 1048576) (k0 : 0 ≤ k) (k1 : k ≤ 1000) :
    Calls Tryz.prog 10 #[.agg (mgV (mqO G2 G3 G5 G6 G9 G11 G12 Gs m) m), .int .i64 k] w fun e w' => (∃ k' : Int, e = .returned (.int .i64 k') ∧ k ≤ k') ∧ Ch b (G12 + 1) w w' := by
  have n1 : Below w.heap.size w (w.alloc (.cells (mgV (mqO G2 G3 G5 G6 G9 G11 G12 Gs m) m) 31)) := (Below.refl _ _).alloc (Nat.le_refl _) _
  have P0 : RwC (w.alloc (.cells (mgV (mqO G2 G3 G5 G6 G9 G11 G12 Gs m) m) 31)) w.heap.size (mgV (mqO G2 G3 G5 G6 G9 G11 G12 Gs m) m).toList 31 := RwC.new w (mgV (mqO G2 G3 G5 G6 G9 G11 G12 Gs m) m).toList 31
  have H := h.up n1
  have l12 := h.pf.lt
  have N1 := hide n1
  clear h n1
  go_enter Tryz.func10, Tryz.ntmps10
  go_upto_region 1 with fail
  generalize w.alloc (.cells (mgV (mqO G2 G3 G5 G6 G9 G11 G12 Gs m) m) 31) = wa at *
  have rL := i.rL
  have sL := i.sL
  have prL := i.prL
  have tiL := i.tiL
  have biL := i.biL
  have ceL := i.ceL
  have pfL := i.pfL
  have o2 := H.o2
  have o3 := H.o3
  have o5 := H.o5
  have o6 := H.o6
  have o9 := H.o9
  have o11 := H.o11
  have o12 := H.o12
  clear i
  have c2 : wa.cell? ⟨w.heap.size, 2, none⟩ = some (.slice (some ⟨G2, 0, none⟩) m.r.length m.r.length) := P0.cell 2
  have c3 : wa.cell? ⟨w.heap.size, 3, none⟩ = some (.slice (some ⟨G3, 0, none⟩) m.s.length m.s.length) := P0.cell 3
  have c5 : wa.cell? ⟨w.heap.size, 5, none⟩ = some (.slice (some ⟨G5, 0, none⟩) m.pr.length m.pr.length) := P0.cell 5
  have c6 : wa.cell? ⟨w.heap.size, 6, none⟩ = some (.slice (some ⟨G6, 0, none⟩) m.ti.length m.ti.length) := P0.cell 6
  have c9 : wa.cell? ⟨w.heap.size, 9, none⟩ = some (.slice (some ⟨G9, 0, none⟩) m.bi.length m.bi.length) := P0.cell 9
  have c11 : wa.cell? ⟨w.heap.size, 11, none⟩ = some (.slice (some ⟨G11, 0, none⟩) m.ce.length m.ce.length) := P0.cell 11
  have c12 : wa.cell? ⟨w.heap.size, 12, none⟩ = some (.slice (some ⟨G12, 0, none⟩) m.pf.length m.pf.length) := P0.cell 12
  have HH := hide H
  have C3 := hide c3
  have C5 := hide c5
  have C6 := hide c6
  have C9 := hide c9
  have C11 := hide c11
  have C12 := hide c12
  clear P0 H c3 c5 c6 c9 c11 c12
  have M2 := hide (markByteS_any wa G2 (some ⟨G2, 0, none⟩) m.r.length m.r (k) HH.out.r.own0 rL (by omega) (by omega))
  go_wp2_with fail
  refine M2.out.mono ?_
  rintro e w2 ⟨rfl, -, O⟩
  have N2 : Ch b (G2 + 1) wa w2 := (Ch.of_only O (by omega) (by omega))
  clear M2 O c2
  have d3 := cellM N2 C3.out (by omega)
  have M3 := hide (markByteS_any w2 G3 (some ⟨G3, 0, none⟩) m.s.length m.s (k + (m.r.length : Int)) (HH.out.s.of_block (N2.block G3 HH.out.s.lt (.inr (by omega)))).own0 sL (by omega) (by omega))
  go_wp2_with fail
  refine M3.out.mono ?_
  rintro e w3 ⟨rfl, -, O⟩
  have N3 : Ch b (G3 + 1) wa w3 := (N2.mono (Nat.le_refl _) (by omega)).trans (Ch.of_only O (by omega) (by omega))
  clear M3 O d3 N2
  have d5 := cellM N3 C5.out (by omega)
  have M5 := hide (markStringS_any w3 G5 m.pr.length m.pr (k + (m.r.length : Int) + (m.s.length : Int)) ((N3.block G5 HH.out.pr.lt (.inr (by omega))).trans HH.out.pr) prL (by omega) (by omega))
  go_wp2_with fail
  refine M5.out.mono ?_
  rintro e w5 ⟨rfl, O⟩
  have N5 : Ch b (G5 + 1) wa w5 := (N3.mono (Nat.le_refl _) (by omega)).trans (O.mono (by omega) (Nat.le_refl _))
  clear M5 O d5 N3
  have d6 := cellM N5 C6.out (by omega)
  have M6 := hide (markByteS_any w5 G6 (some ⟨G6, 0, none⟩) m.ti.length m.ti (k + (m.r.length : Int) + (m.s.length : Int) + (m.pr.length : Int)) (HH.out.ti.of_block (N5.block G6 HH.out.ti.lt (.inr (by omega)))).own0 tiL (by omega) (by omega))
  go_wp2_with fail
  refine M6.out.mono ?_
  rintro e w6 ⟨rfl, -, O⟩
  have N6 : Ch b (G6 + 1) wa w6 := (N5.mono (Nat.le_refl _) (by omega)).trans (Ch.of_only O (by omega) (by omega))
  clear M6 O d6 N5
  have d9 := cellM N6 C9.out (by omega)
  have M9 := hide (markByteS_any w6 G9 (some ⟨G9, 0, none⟩) m.bi.length m.bi (k + (m.r.length : Int) + (m.s.length : Int) + (m.pr.length : Int) + (m.ti.length : Int)) (HH.out.bi.of_block (N6.block G9 HH.out.bi.lt (.inr (by omega)))).own0 biL (by omega) (by omega))
  go_wp2_with fail
  refine M9.out.mono ?_
  rintro e w9 ⟨rfl, -, O⟩
  have N9 : Ch b (G9 + 1) wa w9 := (N6.mono (Nat.le_refl _) (by omega)).trans (Ch.of_only O (by omega) (by omega))
  clear M9 O d9 N6
  have d11 := cellM N9 C11.out (by omega)
  have M11 := hide (markBlobS_own w9 G11 m.ce.length m.ce Gs (k + (m.r.length : Int) + (m.s.length : Int) + (m.pr.length : Int) + (m.ti.length : Int) + (m.bi.length : Int)) (HH.out.ce.ch N9 (by omega)) ceL hz (by omega) (by omega) G12 HH.out.oc)
  go_wp2_with fail
  refine M11.out.mono ?_
  rintro e w11 ⟨⟨kc, rfl, kc0, kc1⟩, O⟩
  have N11 : Ch b (G12) wa w11 := (N9.mono (Nat.le_refl _) (by omega)).trans (O.mono (by omega) (Nat.le_refl _))
  clear M11 O d11 N9
  have d12 := cellM N11 C12.out (by omega)
  have M12 := hide (markByteS_any w11 G12 (some ⟨G12, 0, none⟩) m.pf.length m.pf (kc) (HH.out.pf.of_block (N11.block G12 HH.out.pf.lt (.inr (by omega)))).own0 pfL (by omega) (by omega))
  go_wp2_with fail
  refine M12.out.mono ?_
  rintro e w12 ⟨rfl, -, O⟩
  have N12 : Ch b (G12 + 1) wa w12 := (N11.mono (Nat.le_refl _) (by omega)).trans (Ch.of_only O (by omega) (by omega))
  clear M12 O d12 N11
  have FIN : Hid (Ch b (G12 + 1) w w12) := (Ch.of_below N1.out).trans N12
  clear N12 N1
  go_wp2
  go_ret
  exact ⟨⟨_, rfl, by omega⟩, FIN.out⟩
end Go.Proofs.YtpopaifcanlkeaaGreat

/-
  Messages: how long a message's bytes are (no Go; written by gens/mix0.py).
-/
namespace Go.Proofs.YtpopaifcanlkeaaGreat
open Go Go.RowKit

theorem he_more {v : Int} {r s : Nat} {ho : List UInt8} {ls : List (List UInt8)} {t b : Nat} {g e : Int} (h : heF v r s ho ls t b g e = 0) : (r = 32 ∧ s = 32) ∧ t ≤ 400 ∧ b ≤ 32 := by
  unfold heF at h
  by_cases h1 : (fpB v r s || !bdB t b g e) = true
  · rw [if_pos h1] at h
    simp at h
  rw [if_neg h1] at h
  rw [Bool.not_eq_true, Bool.or_eq_false_iff] at h1
  by_cases h2 : nameF ho ≠ 0
  · rw [if_pos h2] at h
    simp at h
  rw [if_neg h2] at h
  by_cases h3 : prB ls 8 = false
  · rw [if_pos h3] at h
    simp at h
  rw [if_neg h3] at h
  by_cases h4 : 400 < t
  · rw [if_pos h4] at h
    simp at h
  refine ⟨?_, by omega, ?_⟩
  · have f := h1.1
    unfold fpB at f
    rw [Bool.or_eq_false_iff, Bool.or_eq_false_iff, Bool.or_eq_false_iff] at f
    have a := of_decide_eq_false f.2.2.1
    have c := of_decide_eq_false f.2.2.2
    omega
  · have f := h1.2
    have f' : bdB t b g e = true := by simpa using f
    unfold bdB at f'
    by_cases c : t = 0
    · rw [if_pos c, Bool.and_eq_true] at f'
      have := of_decide_eq_true f'.1
      omega
    · rw [if_neg c] at f'
      have := of_decide_eq_true f'
      omega
theorem fp_more {v : Int} {r s : Nat} (h : fpF v r s = 0) : r = 32 ∧ s = 32 := by
  unfold fpF at h
  by_cases h1 : fpB v r s = true
  · rw [if_pos h1] at h
    simp at h
  · have f : fpB v r s = false := by simpa using h1
    unfold fpB at f
    rw [Bool.or_eq_false_iff, Bool.or_eq_false_iff, Bool.or_eq_false_iff] at f
    have a := of_decide_eq_false f.2.2.1
    have c := of_decide_eq_false f.2.2.2
    omega
theorem ti_more {g e : Int} {r t : Nat} (h : tiF g e r t = 0) : r = 32 ∧ t ≤ 400 := by
  unfold tiF at h
  by_cases h1 : r ≠ 32
  · rw [if_pos h1] at h
    simp at h
  rw [if_neg h1] at h
  by_cases h2 : t = 0 ∨ 400 < t
  · rw [if_pos h2] at h
    simp at h
  omega
theorem pf_more {n k : Nat} (h : pfF n k = 0) : k = n := by
  unfold pfF at h
  by_cases h1 : k ≠ n
  · rw [if_pos h1] at h
    simp at h
  · omega
theorem ce_more {bs : List (List Int)} (h : ceF bs = 0) : ∀ i, i < bs.length → (bs.getD i []).length ≤ 2000 := by
  unfold ceF at h
  by_cases c0 : bs.length = 0
  · intro i hi
    omega
  rw [if_neg c0] at h
  by_cases c1 : 4 < bs.length
  · rw [if_pos c1] at h
    simp at h
  rw [if_neg c1] at h
  intro i hi
  by_cases c2 : 2000 < (bs.getD i []).length
  · have : ctA bs = true := ctA_yes hi (by unfold ctO; simp; exact .inr (by simpa [List.getD_eq_getElem?_getD] using c2))
    rw [if_pos this] at h
    simp at h
  · omega
theorem lsL_le {ls : List (List UInt8)} (h : ls.length ≤ 8) (hz : ∀ l ∈ ls, l.length ≤ 255) : (lsL ls).length ≤ 2049 := by
  have := sh_sum ls 255 hz ls.length
  rw [List.take_of_length_le (by simp)] at this
  unfold lsL
  rw [List.length_append]
  have : ls.length * (255 + 1) ≤ 8 * (255 + 1) := Nat.mul_le_mul_right _ h
  simp only [List.length_cons, List.length_nil]
  omega
theorem clL_le {bs : List (List Int)} (n : bs.length ≤ 4) (z : ∀ i, i < bs.length → (bs.getD i []).length ≤ 2000) : (clL bs).length ≤ 8009 := by
  have := lo_sum bs 2000 z bs.length
  rw [List.take_of_length_le (by simp)] at this
  have : bs.length * (2000 + 2) ≤ 4 * (2000 + 2) := Nat.mul_le_mul_right _ n
  unfold clL
  rw [List.length_append]
  simp only [List.length_cons, List.length_nil]
  omega
theorem heL_le {v : Int} {r s : List Int} {ho : List UInt8} {pr : List (List UInt8)} {t : List Int} {ag ea : Int} {b : List Int} (h1 : r.length = 32) (h2 : s.length = 32) (h3 : ho.length ≤ 255) (h4 : pr.length ≤ 8) (h5 : ∀ l ∈ pr, l.length ≤ 255) (h6 : t.length ≤ 400) (h7 : b.length ≤ 32) : (heL v r s ho pr t ag ea b).length ≤ 9000 := by
  have := lsL_le h4 h5
  have : (bdL t ag ea b).length ≤ 37 := by
    unfold bdL
    split
    · simp
    · simp only [List.length_append, bigL_len]; omega
  unfold heL
  simp only [List.length_append, fpL_len, shL_len, loL_len]
  omega
theorem bod_le (m : Msg) (f0 : mfF m = 0) : (bodF m).length ≤ 9000 := by
  by_cases h1 : m.k = 1
  · have F : heF m.v m.r.length m.s.length m.ho m.pr m.ti.length m.bi.length m.ag m.ea = 0 := mf_zero (m' := helloM m) (by unfold kfF; rw [if_pos h1]) f0
    have eb : bodF m = heL m.v m.r m.s m.ho m.pr m.ti m.ag m.ea m.bi := by unfold bodF; rw [if_pos h1]
    rw [eb]
    have A := he_all F; have B := he_more F; exact heL_le B.1.1 B.1.2 A.2.1 (he_pr F) A.2.2.1 B.2.1 B.2.2
  by_cases h2 : m.k = 2
  · have F : fpF m.v m.r.length m.s.length = 0 := mf_zero (m' := answerM m) (by unfold kfF; rw [if_neg h1]; rw [if_pos h2]) f0
    have eb : bodF m = fpL m.v m.r m.s ++ [if m.rs = true then 1 else 0] := by unfold bodF; rw [if_neg h1]; rw [if_pos h2]
    rw [eb]
    have B := fp_more F; rw [List.length_append, fpL_len]; simp only [List.length_cons, List.length_nil]; omega
  by_cases h4 : m.k = 4
  · have F : tiF m.ag m.ea m.r.length m.ti.length = 0 := mf_zero (m' := ticketM m) (by unfold kfF; rw [if_neg h1]; rw [if_neg h2]; rw [if_pos h4]) f0
    have eb : bodF m = tkL m.ag m.ea m.r m.ti := by unfold bodF; rw [if_neg h1]; rw [if_neg h2]; rw [if_pos h4]
    rw [eb]
    have B := ti_more F; unfold tkL; simp only [List.length_append, bigL_len, loL_len]; omega
  by_cases h5 : m.k = 5
  · skip
    have eb : bodF m = [] := by unfold bodF; rw [if_neg h1]; rw [if_neg h2]; rw [if_neg h4]; rw [if_pos h5]
    rw [eb]
    simp
  by_cases h8 : m.k = 8
  · have F : exF m.pr m.ea = 0 := mf_zero (m' := extrasM m) (by unfold kfF; rw [if_neg h1]; rw [if_neg h2]; rw [if_neg h4]; rw [if_neg h5]; rw [if_pos h8]) f0
    have eb : bodF m = lsL m.pr ++ bigL m.ea 1 := by unfold bodF; rw [if_neg h1]; rw [if_neg h2]; rw [if_neg h4]; rw [if_neg h5]; rw [if_pos h8]
    rw [eb]
    have A := ex_all F; have a1 := lsL_le (ex_pr F) A.1; rw [List.length_append, bigL_len]; omega
  by_cases h11 : m.k = 11
  · have F : ceF m.ce = 0 := mf_zero (m' := certsM m) (by unfold kfF; rw [if_neg h1]; rw [if_neg h2]; rw [if_neg h4]; rw [if_neg h5]; rw [if_neg h8]; rw [if_pos h11]) f0
    have eb : bodF m = clL m.ce := by unfold bodF; rw [if_neg h1]; rw [if_neg h2]; rw [if_neg h4]; rw [if_neg h5]; rw [if_neg h8]; rw [if_pos h11]
    rw [eb]
    have a1 := clL_le (ce_n F) (ce_more F); omega
  by_cases h15 : m.k = 15
  · have F : pfF 64 m.pf.length = 0 := mf_zero (m' := proofM m) (by unfold kfF; rw [if_neg h1]; rw [if_neg h2]; rw [if_neg h4]; rw [if_neg h5]; rw [if_neg h8]; rw [if_neg h11]; rw [if_pos h15]) f0
    have eb : bodF m = m.pf := by unfold bodF; rw [if_neg h1]; rw [if_neg h2]; rw [if_neg h4]; rw [if_neg h5]; rw [if_neg h8]; rw [if_neg h11]; rw [if_pos h15]
    rw [eb]
    have B := pf_more F; omega
  by_cases h20 : m.k = 20
  · have F : pfF 32 m.pf.length = 0 := mf_zero (m' := finishedM m) (by unfold kfF; rw [if_neg h1]; rw [if_neg h2]; rw [if_neg h4]; rw [if_neg h5]; rw [if_neg h8]; rw [if_neg h11]; rw [if_neg h15]; rw [if_pos h20]) f0
    have eb : bodF m = m.pf := by unfold bodF; rw [if_neg h1]; rw [if_neg h2]; rw [if_neg h4]; rw [if_neg h5]; rw [if_neg h8]; rw [if_neg h11]; rw [if_neg h15]; rw [if_pos h20]
    rw [eb]
    have B := pf_more F; omega
  by_cases h24 : m.k = 24
  · have F : upF m.ea = 0 := mf_zero (m' := updateM m) (by unfold kfF; rw [if_neg h1]; rw [if_neg h2]; rw [if_neg h4]; rw [if_neg h5]; rw [if_neg h8]; rw [if_neg h11]; rw [if_neg h15]; rw [if_neg h20]; rw [if_pos h24]) f0
    have eb : bodF m = bigL m.ea 1 := by unfold bodF; rw [if_neg h1]; rw [if_neg h2]; rw [if_neg h4]; rw [if_neg h5]; rw [if_neg h8]; rw [if_neg h11]; rw [if_neg h15]; rw [if_neg h20]; rw [if_pos h24]
    rw [eb]
    rw [bigL_len]; omega
  exfalso
  unfold mfF kfF at f0
  rw [if_neg h1, if_neg h2, if_neg h4, if_neg h5, if_neg h8, if_neg h11, if_neg h15, if_neg h20, if_neg h24] at f0
  simp at f0
theorem enc_le (m : Msg) : (encF m).length ≤ 10000 := by
  unfold encF
  by_cases c : mfF m = 0
  · rw [if_pos c]
    have := bod_le m c
    unfold enL
    simp only [List.length_append, bigL_len, List.length_cons, List.length_nil]
    omega
  · rw [if_neg c]
    simp
end Go.Proofs.YtpopaifcanlkeaaGreat

/-
  The law of EncodeMessage (written by gens/miy.py).
-/
namespace Go.Proofs.YtpopaifcanlkeaaGreat
open Go Go.RowKit

theorem Rd.chL {w w' : World} {g lo hi : Nat} {a : Option Addr} {xs : List Int} (h : Rd w g a .u8 xs) (n : Ch lo hi w w') (hg : xs.length = 0 ∨ g < lo) : Rd w' g a .u8 xs := fun h0 => by
  have l : g < w.heap.size := by
    rcases rd_lt h with e | e
    · omega
    · exact e
  exact h.of_block (n.block g l (.inl (by omega))) h0
theorem Own.chH {w w' : World} {g lo hi : Nat} {a : Option Addr} {xs : List Int} (h : Own w g a .u8 xs) (n : Ch lo hi w w') (hg : hi ≤ g) : Own w' g a .u8 xs := fun h0 => by
  have l : g < w.heap.size := by
    rcases rd_lt h.rd with e | e
    · omega
    · exact e
  exact h.of_block (n.block g l (.inr hg)) h0
theorem Rd.onlO {w w' : World} {g q : Nat} {a : Option Addr} {xs : List Int} (h : Rd w g a .u8 xs) (O : Only q w w') (hne : xs.length = 0 ∨ g < q) : Rd w' g a .u8 xs := fun h0 => h.of_block (O.block g (by omega)) h0
set_option maxRecDepth 100000 in
set_option maxHeartbeats 2000000 in
theorem encMsg_core (w : World) (p : MQ) (m : Msg) (hC : HasM w p m) (ok : OkM m) :
    Calls Tryz.prog 3 #[.agg (mgV p m)] w fun e w' => e = .returned (.bool true) ∧ Below w.heap.size w w' := by
  have n1 : Below w.heap.size w (w.alloc (.cells (mgV p m) 26)) := (Below.refl _ _).alloc (Nat.le_refl _) _
  have T0 : RwC (w.alloc (.cells (mgV p m) 26)) w.heap.size (mgV p m).toList 26 := RwC.new w (mgV p m).toList 26
  have SZ := hide (szMessage_r (w.alloc (.cells (mgV p m) 26)) p m (hC.up n1) ok.l2 ok.l3 ok.l4 ok.l5 ok.lz ok.l6 ok.l9 ok.l11 ok.lc ok.l12)
  have HC : Hid (∀ W, Below w.heap.size w W → HasM W p m) := fun W n => hC.up n
  have N1 := hide n1
  have TT := hide T0
  clear n1 T0 hC
  have IS : Hid (m.r.length + m.s.length + m.ho.length + (m.pr.length + sumT m.pr) + m.ti.length + m.bi.length + (m.ce.length + sumB m.ce) + m.pf.length ≤ 1048576 → IsM m ∧ sumB m.ce ≤ 1048576) := fun h => ⟨isM_of ok h, by omega⟩
  clear ok
  generalize hS : m.r.length + m.s.length + m.ho.length + (m.pr.length + sumT m.pr) + m.ti.length + m.bi.length + (m.ce.length + sumB m.ce) + m.pf.length = S at *
  clear hS
  go_enter Tryz.func3, Tryz.ntmps3
  obtain ⟨dL, hdL, hrL⟩ := rowLM
  obtain ⟨dC, hdC, hrC⟩ := rowM
  go_upto_region 2 with fail
  generalize w.alloc (.cells (mgV p m) 26) = W1 at *
  have RG := TT.out.rangeG
  clear TT
  go_wp2_with (first | (refine wpList_load_mid rfl 26 (.tmp 1) rfl w.heap.size 0 rfl (mgV p m).toList dL RG hdL hrL iLM ?_) | fail)
  refine SZ.out.mono ?_
  rintro e w2 ⟨⟨x, rfl, hx, hx'⟩, n2⟩
  have N2 := hide (nxt N1.out n2)
  have RG2 := rangeM RG n2
  clear n2 RG SZ N1
  by_cases hl : x < 0
  · have t1 : decide (x < 0) = true := decide_eq_true hl
    clear hl hx hx' IS HC RG2
    go_wp2
    go_ret
    exact ⟨rfl, N2.out⟩
  have t1 : decide (x < 0) = false := decide_eq_false hl
  have im := hide ((unhide IS) (hx (by omega)))
  clear hl hx hx' IS
  have TO : Hid (∀ W, Below w.heap.size w W → Calls Tryz.prog 6 #[.agg (mgV p m)] W fun e w' => (∃ G2 G3 G5 G6 G9 G11 G12 Gs, e = .returned (.agg (mgV (mqO G2 G3 G5 G6 G9 G11 G12 Gs m) m)) ∧ OwnM W.heap.size w' G2 G3 G5 G6 G9 G11 G12 Gs m) ∧ Below W.heap.size W w') := fun W n => toMessage_own W p m ((unhide HC) W n) im.out.1
  have SP : Hid (∀ W q, HasM W q m → HasZ q m → Calls Tryz.prog 5 #[.agg (mgV q m)] W (BodP W (encF m))) := fun W q h z => specEnc_any W q m h im.out.1 z
  have IM : Hid (∀ W q, HasM W q m → HasZ q m → Calls Tryz.prog 7 #[.agg (mgV q m)] W (BodP W (encF m))) := fun W q h z => implEnc_any W q m h im.out.1 z
  have EL := enc_le m
  generalize encF m = E at *
  go_wp2_with (first | (refine wpList_load_mid rfl 26 (.tmp 1) rfl w.heap.size 0 rfl (mgV p m).toList dL RG2 hdL hrL iLM ?_) | fail)
  refine ((unhide TO) w2 N2.out).mono ?_
  rintro e w3 ⟨⟨a2, a3, a5, a6, a9, a11, a12, az, rfl, nc⟩, n3⟩
  have N3 := hide (nxt N2.out n3)
  have RG3 := rangeM RG2 n3
  have SP3 := hide ((unhide SP) w3 _ nc.has mqO_z)
  clear n3 RG2 N2 nc SP
  go_wp2_with fail
  refine SP3.out.mono ?_
  rintro e w4 ⟨⟨v4, rfl, R4⟩, n4⟩
  have N4 := hide (nxt N3.out n4)
  have RG4 := rangeM RG3 n4
  obtain ⟨b4, c4, g4, rfl, r4, -⟩ := row_slice R4
  have l4 := rd_lt r4
  clear n4 RG3 N3 SP3 R4
  go_wp2_with (first | (refine wpList_load_mid rfl 26 (.tmp 1) rfl w.heap.size 0 rfl (mgV p m).toList dL RG4 hdL hrL iLM ?_) | fail)
  refine ((unhide TO) w4 N4.out).mono ?_
  rintro e w5 ⟨⟨G2, G3, G5, G6, G9, G11, G12, Gs, rfl, nc⟩, n5⟩
  have N5 := hide (nxt N4.out n5)
  have S4 := N4.out.size
  have S4' : w.heap.size < w4.heap.size := block_lt_of_cell (RG4 0 (.int .i64 m.k) rfl)
  have RG5 := rangeM RG4 n5
  have r5 := r4.up n5
  have s5 := n5.size
  have l12 := nc.pf.lt
  clear n5 RG4 N4 r4
  have HM := nc.has
  have HZm : HasZ (mqO G2 G3 G5 G6 G9 G11 G12 Gs m) m := mqO_z
  generalize hq : mqO G2 G3 G5 G6 G9 G11 G12 Gs m = q' at *
  have a5 : Below w5.heap.size w5 (w5.alloc (.cells #[.int .i64 0, .int .i64 0, .slice none 0 0, .slice none 0 0, .string ⟨#[]⟩, .slice none 0 0, .slice none 0 0, .int .i64 0, .int .i64 0, .slice none 0 0, .bool false, .slice none 0 0, .slice none 0 0] 31)) := (Below.refl _ _).alloc (Nat.le_refl _) _
  have TH0 : RwC (w5.alloc (.cells #[.int .i64 0, .int .i64 0, .slice none 0 0, .slice none 0 0, .string ⟨#[]⟩, .slice none 0 0, .slice none 0 0, .int .i64 0, .int .i64 0, .slice none 0 0, .bool false, .slice none 0 0, .slice none 0 0] 31)) w5.heap.size (#[.int .i64 0, .int .i64 0, .slice none 0 0, .slice none 0 0, .string ⟨#[]⟩, .slice none 0 0, .slice none 0 0, .int .i64 0, .int .i64 0, .slice none 0 0, .bool false, .slice none 0 0, .slice none 0 0] : Array Value).toList 31 := RwC.new w5 (#[.int .i64 0, .int .i64 0, .slice none 0 0, .slice none 0 0, .string ⟨#[]⟩, .slice none 0 0, .slice none 0 0, .int .i64 0, .int .i64 0, .slice none 0 0, .bool false, .slice none 0 0, .slice none 0 0] : Array Value).toList 31
  have TH : (w5.alloc (.cells #[.int .i64 0, .int .i64 0, .slice none 0 0, .slice none 0 0, .string ⟨#[]⟩, .slice none 0 0, .slice none 0 0, .int .i64 0, .int .i64 0, .slice none 0 0, .bool false, .slice none 0 0, .slice none 0 0] 31)).there w5.heap.size 0 (mgV q' m).size := TH0.thereG
  have RX := World.rangeAt_setCells_same (w5.alloc (.cells #[.int .i64 0, .int .i64 0, .slice none 0 0, .slice none 0 0, .string ⟨#[]⟩, .slice none 0 0, .slice none 0 0, .int .i64 0, .int .i64 0, .slice none 0 0, .bool false, .slice none 0 0, .slice none 0 0] 31)) w5.heap.size 0 (mgV q' m).toList TH
  have OX := only_setG (w5.alloc (.cells #[.int .i64 0, .int .i64 0, .slice none 0 0, .slice none 0 0, .string ⟨#[]⟩, .slice none 0 0, .slice none 0 0, .int .i64 0, .int .i64 0, .slice none 0 0, .bool false, .slice none 0 0, .slice none 0 0] 31)) w5.heap.size (mgV q' m).toList 0
  have b5 : Below w5.heap.size w5 ((w5.alloc (.cells #[.int .i64 0, .int .i64 0, .slice none 0 0, .slice none 0 0, .string ⟨#[]⟩, .slice none 0 0, .slice none 0 0, .int .i64 0, .int .i64 0, .slice none 0 0, .bool false, .slice none 0 0, .slice none 0 0] 31)).setCells w5.heap.size 0 (mgV q' m).toList) := a5.trans (OX.below (Nat.le_refl _))
  have N6 := hide (nxt N5.out b5)
  have RG6 := rangeM RG5 b5
  have HO := hide (nc.up b5)
  have r6 := r5.up b5
  have s6 := b5.size
  have HQ := hide (And.intro (HM.up b5) HZm)
  clear HM HZm a5 OX b5 RG5 N5 nc TH0 r5
  have ON := mgV_one q' m
  go_upto_region 7 with (first | (refine wpList_store_mid rfl 31 (.tmp 5) (.tmp 20) rfl w5.heap.size 0 (mgV q' m) rfl rfl TH iM ON ?_) | fail)
  generalize (w5.alloc (.cells #[.int .i64 0, .int .i64 0, .slice none 0 0, .slice none 0 0, .string ⟨#[]⟩, .slice none 0 0, .slice none 0 0, .int .i64 0, .int .i64 0, .slice none 0 0, .bool false, .slice none 0 0, .slice none 0 0] 31)).setCells w5.heap.size 0 (mgV q' m).toList = w6 at *
  clear TH ON
  generalize w5.heap.size = b5 at *
  clear w5
  go_wp2_with (first | (refine wpList_load_mid rfl 31 (.tmp 5) rfl b5 0 rfl (mgV q' m).toList dC RX hdC hrC iM ?_) | fail)
  refine ((unhide IM) w6 q' HQ.out.1 HQ.out.2).mono ?_
  rintro e w7 ⟨⟨v7, rfl, R7⟩, n7⟩
  have N7 := hide (nxt N6.out n7)
  have RG7 := hide (rangeM RG6 n7)
  have RX7 := hide (rangeM RX n7)
  have HQ7 := hide (HQ.out.1.up n7)
  have HO7 := hide (HO.out.up n7)
  have r7 := r6.up n7
  obtain ⟨b7, c7, g7, rfl, o7, -, -, l7⟩ := R7.own
  have EQ1 := hide (eqByteS_same w7 g7 g4 b7 b4 c7 c4 E o7.rd r7 (by omega))
  have O7 := hide o7
  have R7' := hide r7
  have S7 := n7.size
  clear n7 RG6 RX HQ HO N6 r6 r7 o7 R7
  go_wp2_with fail
  refine EQ1.out.mono ?_
  rintro e w8 ⟨rfl, n8⟩
  have N8 := hide (nxt N7.out n8)
  have RG8 := hide (rangeM RG7.out n8)
  have RX8 := hide (rangeM RX7.out n8)
  have HQ8 := hide (HQ7.out.up n8)
  have HO8 := hide (HO7.out.up n8)
  have O8 := hide (O7.out.up n8)
  have R8 := hide (R7'.out.up n8)
  have S8 := n8.size
  clear n8 EQ1 N7 RG7 RX7 HQ7 HO7 O7 R7'
  go_upto_region 10 with fail
  refine region_end 5 (fun i => [Fact.eq (.agg (mgV q' m)), Fact.eq (.agg (mgV p m)), FM m, Fact.eq (.bool true), Fact.eq (.bool (!true))].getD i Fact.no) (by kernel_rfl) (by kernel_rfl) rfl ?_ ?_
  · intro i hi
    obtain rfl | rfl | rfl | rfl | rfl : i = 0 ∨ i = 1 ∨ i = 2 ∨ i = 3 ∨ i = 4 := by omega
    · exact step_lM _ rowM iM rfl 5 rfl (by kernel_rfl) b5 rfl RX8.out rfl
    · exact step_lM _ rowLM iLM rfl 1 rfl (by kernel_rfl) w.heap.size rfl RG8.out rfl
    · exact step_toM rfl 28 1 rfl (by kernel_rfl) ((unhide HC) w8 N8.out) im.out.1 rfl rfl
    · exact step_eqM rfl 27 29 0 2 rfl (by kernel_rfl) (by kernel_rfl) HQ8.out im.out.1 rfl rfl rfl
    · exact step_notM rfl 30 3 rfl (by kernel_rfl) rfl rfl
  intro A W hb hw hF
  have e2 := hF 4 31 (by kernel_rfl)
  obtain ⟨vs, hvs⟩ : ∃ vs : Nat → Value, ∀ d, A.tmps.getD d undef = vs d := ⟨_, fun _ => rfl⟩
  rw [hvs] at e2
  rw [puts_of (md := .any) (k := 5) (by kernel_rfl) rfl hb vs hvs]
  clear hb hF hvs
  have e3 : vs 31 = .bool false := e2
  clear e2
  simp only [puts, e3, Act.put, List.setIfInBounds_toArray, List.set_cons_succ, List.set_cons_zero]
  clear e3
  have N9 := hide (nxt N8.out hw)
  have RG9 := hide (rangeM RG8.out hw)
  have RX9 := rangeM RX8.out hw
  have HO9 := hide (HO8.out.up hw)
  have O9 := hide (O8.out.up hw)
  have R9 := hide (R8.out.up hw)
  have S9 := hw.size
  clear hw N8 RG8 RX8 HQ8 HO8 O8 R8
  subst hq
  have MK := hide (markMessage_own W w4.heap.size G2 G3 G5 G6 G9 G11 G12 Gs m 1 HO9.out im.out.1 im.out.2 (by omega) (by omega))
  go_wp2_with (first | (refine wpList_load_mid rfl 31 (.tmp 5) rfl b5 0 rfl (mgV (mqO G2 G3 G5 G6 G9 G11 G12 Gs m) m).toList dC RX9 hdC hrC iM ?_) | fail)
  refine MK.out.mono ?_
  rintro e w10 ⟨⟨k', rfl, k1⟩, C10⟩
  have t2 : decide (k' < 0) = false := decide_eq_false (by omega)
  have B10 : Below w.heap.size W w10 := (C10.below (by omega)).mono S4
  have N10 := hide (N9.out.trans B10)
  have RG10 := (show World.rangeAt w10 w.heap.size 0 (mgV p m).toList from fun j v hj => (World.cell?_of_block (C10.block w.heap.size (block_lt_of_cell (RG9.out j v hj)) (.inl (by have := N9.out.size; omega)))).trans (RG9.out j v hj))
  have O10 := O9.out.chH C10 (by omega)
  have R10 := R9.out.chL C10 l4
  have EQ2 := hide (eqByteS_same w10 g7 g4 b7 b4 c7 c4 E O10.rd R10 (by omega))
  have S10 := C10.size
  have RG10 := hide RG10
  have O10 := hide O10
  have R10 := hide R10
  clear MK RX9 HO9 O9 R9 N9 RG9 C10 B10 k1
  go_wp2_with fail
  refine EQ2.out.mono ?_
  rintro e w11 ⟨rfl, n11⟩
  have N11 := hide (nxt N10.out n11)
  have RG11 := hide (rangeM RG10.out n11)
  have R11 := hide (R10.out.up n11)
  have MB := hide (markByteS_any w11 g7 b7 c7 E 1 (O10.out.up n11) (by omega) (by omega) (by omega))
  have S11 := n11.size
  clear n11 EQ2 N10 RG10 R10 O10
  go_wp2_with fail
  refine MB.out.mono ?_
  rintro e w12 ⟨rfl, O12, P12⟩
  have N12 := hide (N11.out.trans (P12.below (by omega)))
  have RG12 := (show World.rangeAt w12 w.heap.size 0 (mgV p m).toList from fun j v hj => (World.cell?_of_block (P12.block w.heap.size (by omega))).trans (RG11.out j v hj))
  have R12 := hide (R11.out.onlO P12 (by omega))
  have HD := hide (heldByteS_any w12 g7 b7 c7 E.length 1 O12.rd (by omega) (by omega) (by omega))
  have t3 : decide ((1 : Int) + (E.length : Int) < 0) = false := decide_eq_false (by omega)
  have t4 : ((1 : Int) + (E.length : Int) == 1 + (E.length : Int)) = true := by simp
  have t5 : ((1 : Int) + (E.length : Int) != 1 + (E.length : Int)) = false := by simp
  have O12 := hide O12
  clear MB P12 N11 RG11 R11
  go_wp2_with fail
  refine HD.out.mono ?_
  rintro e w12' ⟨rfl, rfl⟩
  clear HD
  go_wp2_with (first | (refine wpList_load_mid rfl 26 (.tmp 1) rfl w.heap.size 0 rfl (mgV p m).toList dL RG12 hdL hrL iLM ?_) | fail)
  refine ((unhide TO) w12' N12.out).mono ?_
  rintro e w13 ⟨⟨d2, d3, d5, d6, d9, d11, d12, ds, rfl, nc⟩, n13⟩
  have N13 := hide (nxt N12.out n13)
  have R13 := hide (R12.out.up n13)
  have O13 := hide (O12.out.up n13)
  have IM13 := hide ((unhide IM) w13 _ nc.has mqO_z)
  clear n13 N12 R12 O12 nc RG12 TO IM
  go_wp2_with fail
  refine IM13.out.mono ?_
  rintro e w14 ⟨⟨v14, rfl, Q14⟩, n14⟩
  have N14 := hide (nxt N13.out n14)
  have R14 := R13.out.up n14
  have O14 := hide (O13.out.up n14)
  obtain ⟨b14, c14, g14, rfl, r14, -⟩ := row_slice Q14
  have EQ3 := hide (eqByteS_same w14 g14 g4 b14 b4 c14 c4 E r14 R14 (by omega))
  clear n14 N13 R13 O13 IM13 Q14 r14 R14
  go_wp2_with fail
  refine EQ3.out.mono ?_
  rintro e w15 ⟨rfl, n15⟩
  have N15 := hide (nxt N14.out n15)
  have HD := hide (heldByteS_any w15 g7 b7 c7 E.length 1 (O14.out.up n15).rd (by omega) (by omega) (by omega))
  clear n15 N14 O14 EQ3
  go_wp2_with fail
  refine HD.out.mono ?_
  rintro e w16 ⟨rfl, rfl⟩
  clear HD
  go_wp2
  go_ret
  exact ⟨rfl, N15.out⟩
end Go.Proofs.YtpopaifcanlkeaaGreat

/-
  The law of EncodeMessage, at what came in.
-/
namespace Go.Proofs.YtpopaifcanlkeaaGreat
open Go Go.RowKit Go.ChangeShapes Go.WideShapes

theorem encMsg_law (w : World) (k : Int) (_ : (Lit.int .i64 k).wf = true) (v : Int) (_ : (Lit.int .i64 v).wf = true) (g2 : Nat) (a2 : Option Addr) (c2 : Nat) (r : List Int) (q2 : Rd w g2 a2 .u8 r) (b2 : Byt r) (k2 : r.length ≤ 9223372036854775807) (g3 : Nat) (a3 : Option Addr) (c3 : Nat) (s : List Int) (q3 : Rd w g3 a3 .u8 s) (b3 : Byt s) (k3 : s.length ≤ 9223372036854775807)
    (ho : ByteArray) (k4 : ho.size ≤ maxLen) (g5 : Nat) (a5 : Option Addr) (c5 : Nat) (pr : List (List UInt8)) (q5 : RdT w g5 a5 pr) (k5 : pr.length ≤ 9223372036854775807) (m5 : ∀ l ∈ pr, l.length ≤ 9223372036854775807) (z5 : pr.length ≤ c5) (g6 : Nat) (a6 : Option Addr) (c6 : Nat) (ti : List Int) (q6 : Rd w g6 a6 .u8 ti) (b6 : Byt ti) (k6 : ti.length ≤ 9223372036854775807)
    (ag : Int) (_ : (Lit.int .i64 ag).wf = true) (ea : Int) (_ : (Lit.int .i64 ea).wf = true) (g9 : Nat) (a9 : Option Addr) (c9 : Nat) (bi : List Int) (q9 : Rd w g9 a9 .u8 bi) (b9 : Byt bi) (k9 : bi.length ≤ 9223372036854775807) (rs : Bool) (g11 : Nat) (a11 : Option Addr) (c11 : Nat) (ce : List (List Int)) (ps : List Plb) (q11 : RdL w g11 a11 ce ps) (b11 : ∀ i, i < ce.length → Byt (ce.getD i [])) (k11 : ce.length ≤ 9223372036854775807) (m11 : ∀ i, i < ce.length → (ce.getD i []).length ≤ 9223372036854775807)
    (g12 : Nat) (a12 : Option Addr) (c12 : Nat) (pf : List Int) (q12 : Rd w g12 a12 .u8 pf) (b12 : Byt pf) (k12 : pf.length ≤ 9223372036854775807) :
    Calls Tryz.prog 3 #[.agg #[.int .i64 k, .int .i64 v, .slice a2 r.length c2, .slice a3 s.length c3, .string ho, .slice a5 pr.length c5, .slice a6 ti.length c6, .int .i64 ag, .int .i64 ea, .slice a9 bi.length c9, .bool rs, .slice a11 ce.length c11, .slice a12 pf.length c12]] w fun e w' => e = .returned (.bool true) ∧ Below w.heap.size w w' := by
  obtain ⟨⟨h⟩⟩ := ho
  have hh : h.length ≤ 9223372036854775807 := by
    have e : (ByteArray.mk ⟨h⟩).size = h.length := tx_size h
    unfold maxLen at k4
    omega
  exact encMsg_core w ⟨a2, c2, g2, a3, c3, g3, a5, c5, g5, a6, c6, g6, a9, c9, g9, a11, c11, g11, a12, c12, g12, ps⟩ ⟨k, v, r, s, h, pr, ti, ag, ea, bi, rs, ce, pf⟩ ⟨q2, q3, q5, q6, q9, q11, q12, z5⟩ ⟨b2, b3, b6, b9, b12, b11, k2, k3, hh, k5, m5, k6, k9, k11, m11, k12⟩
end Go.Proofs.YtpopaifcanlkeaaGreat
