import Derived.Test.YtdbgdiahddpgkaaGreatGExMhA
import Derived.Test.YtdbgdiahddpgkaaGreatGExMhB
import Derived.Test.YtdbgdiahddpgkaaGreatGExMhE
import Derived.Test.YtdbgdiahddpgkaaGreatGE18
import Derived.Test.YtdbgdiahddpgkaaGreatGE8
import Derived.Test.YtdbgdiahddpgkaaGreatGE3
import Derived.Test.YtdbgdiahddpgkaaGreatGE5
import Derived.Test.YtdbgdiahddpgkaaGreatGE4
import Derived.Deep.MidRow
import Derived.Deep.Cut
import Derived.Test.YtdbgdiahddpgkaaGreatGE10
import Derived.Deep.QuietTactic
import Derived.BigQuiet

/-
  The model's MessageFault.
-/
namespace Go.Proofs.YtdbgdiahddpgkaaGreat
open Go Go.RowKit

theorem specMF_any (w : World) (p : MQ) (m : Msg) (h : HasM w p m) (i : IsM m) :
    Calls Tryz.prog 16 #[.agg (mgV p m)] w fun e w' => e = .returned (.int .i64 (mfF m)) ∧ Below w.heap.size w w' := by
  rw [mf_eq]
  obtain ⟨k, v, r, s, ho, pr, ti, ag, ea, bi, rs, ce, pf⟩ := m
  exact specMF_walk w k v ag ea p.a2 p.a3 p.a5 p.a6 p.a9 p.a11 p.a12 r.length s.length pr.length ti.length bi.length pf.length p.c2 p.c3 p.c5 p.c6 p.c9 p.c11 p.c12 ho rs ce p.g11 p.ps _ _ _ _ _ _
    (fun W => l13Known_any W k)
    (fun W => l13Extra_any W k v ag ea p.a2 p.a3 p.a5 p.a6 p.a9 p.a11 p.a12 r.length s.length pr.length ti.length bi.length ce.length pf.length p.c2 p.c3 p.c5 p.c6 p.c9 p.c11 p.c12 ho rs)
    (fun W => l13Sizes_any W k v ag ea p.a2 p.a3 p.a5 p.a6 p.a9 p.a11 p.a12 r.length s.length pr.length ti.length bi.length ce.length pf.length p.c2 p.c3 p.c5 p.c6 p.c9 p.c11 p.c12 ho rs)
    (fun W => specNameFault_any W ho (Nat.le_trans i.hoL (by decide)))
    (fun W n => l13Protocols_any W p.g5 p.a5 p.c5 pr 8 (h.pr.up n) i.prL (by decide) i.prZ)
    (fun W n => l13Protocols_any W p.g5 p.a5 p.c5 pr 1 (h.pr.up n) i.prL (by decide) i.prZ)
    h.ce i.ceZ i.tiL i.ceL
end Go.Proofs.YtdbgdiahddpgkaaGreat

/-
  Messages: the model's EncodeMessage answers as the program's.
-/
namespace Go.Proofs.YtdbgdiahddpgkaaGreat
open Go Go.RowKit

theorem specEnc_any (w : World) (p : MQ) (m : Msg) (h : HasM w p m) (i : IsM m) (z : HasZ p m) :
    Calls Tryz.prog 17 #[.agg (mgV p m)] w (BodP w (encF m)) :=
  specEnc_walk w p m h i z fun W hW => specMF_any W p m hW i
end Go.Proofs.YtdbgdiahddpgkaaGreat

/-
  Messages: how long a message's bytes are (no Go; written by gens/mix0.py).
-/
namespace Go.Proofs.YtdbgdiahddpgkaaGreat
open Go Go.RowKit

theorem he_more {v : Int} {r s : Nat} {ho : List UInt8} {ls : List (List UInt8)} {t b : Nat} {g e : Int} (h : heF v r s ho ls t b g e = 0) : (r = 32 ∧ s = 32) ∧ t ≤ 400 ∧ b ≤ 32 := by
  unfold heF at h
  by_cases h1 : (fpB v r s || !bdB t b g e) = true
  · rw [if_pos h1] at h
    simp at h
  rw [if_neg h1] at h
  rw [Bool.not_eq_true, Bool.or_eq_false_iff] at h1
  by_cases h2 : nameF ho ≠ 0
  · rw [if_pos h2] at h
    simp at h
  rw [if_neg h2] at h
  by_cases h3 : prB ls 8 = false
  · rw [if_pos h3] at h
    simp at h
  rw [if_neg h3] at h
  by_cases h4 : 400 < t
  · rw [if_pos h4] at h
    simp at h
  refine ⟨?_, by omega, ?_⟩
  · have f := h1.1
    unfold fpB at f
    rw [Bool.or_eq_false_iff, Bool.or_eq_false_iff, Bool.or_eq_false_iff] at f
    have a := of_decide_eq_false f.2.2.1
    have c := of_decide_eq_false f.2.2.2
    omega
  · have f := h1.2
    have f' : bdB t b g e = true := by simpa using f
    unfold bdB at f'
    by_cases c : t = 0
    · rw [if_pos c, Bool.and_eq_true] at f'
      have := of_decide_eq_true f'.1
      omega
    · rw [if_neg c] at f'
      have := of_decide_eq_true f'
      omega
theorem fp_more {v : Int} {r s : Nat} (h : fpF v r s = 0) : r = 32 ∧ s = 32 := by
  unfold fpF at h
  by_cases h1 : fpB v r s = true
  · rw [if_pos h1] at h
    simp at h
  · have f : fpB v r s = false := by simpa using h1
    unfold fpB at f
    rw [Bool.or_eq_false_iff, Bool.or_eq_false_iff, Bool.or_eq_false_iff] at f
    have a := of_decide_eq_false f.2.2.1
    have c := of_decide_eq_false f.2.2.2
    omega
theorem ti_more {g e : Int} {r t : Nat} (h : tiF g e r t = 0) : r = 32 ∧ t ≤ 400 := by
  unfold tiF at h
  by_cases h1 : r ≠ 32
  · rw [if_pos h1] at h
    simp at h
  rw [if_neg h1] at h
  by_cases h2 : t = 0 ∨ 400 < t
  · rw [if_pos h2] at h
    simp at h
  omega
theorem pf_more {n k : Nat} (h : pfF n k = 0) : k = n := by
  unfold pfF at h
  by_cases h1 : k ≠ n
  · rw [if_pos h1] at h
    simp at h
  · omega
theorem ce_more {bs : List (List Int)} (h : ceF bs = 0) : ∀ i, i < bs.length → (bs.getD i []).length ≤ 2000 := by
  unfold ceF at h
  by_cases c0 : bs.length = 0
  · intro i hi
    omega
  rw [if_neg c0] at h
  by_cases c1 : 4 < bs.length
  · rw [if_pos c1] at h
    simp at h
  rw [if_neg c1] at h
  intro i hi
  by_cases c2 : 2000 < (bs.getD i []).length
  · have : ctA bs = true := ctA_yes hi (by unfold ctO; simp; exact .inr (by simpa [List.getD_eq_getElem?_getD] using c2))
    rw [if_pos this] at h
    simp at h
  · omega
theorem lsL_le {ls : List (List UInt8)} (h : ls.length ≤ 8) (hz : ∀ l ∈ ls, l.length ≤ 255) : (lsL ls).length ≤ 2049 := by
  have := sh_sum ls 255 hz ls.length
  rw [List.take_of_length_le (by simp)] at this
  unfold lsL
  rw [List.length_append]
  have : ls.length * (255 + 1) ≤ 8 * (255 + 1) := Nat.mul_le_mul_right _ h
  simp only [List.length_cons, List.length_nil]
  omega
theorem clL_le {bs : List (List Int)} (n : bs.length ≤ 4) (z : ∀ i, i < bs.length → (bs.getD i []).length ≤ 2000) : (clL bs).length ≤ 8009 := by
  have := lo_sum bs 2000 z bs.length
  rw [List.take_of_length_le (by simp)] at this
  have : bs.length * (2000 + 2) ≤ 4 * (2000 + 2) := Nat.mul_le_mul_right _ n
  unfold clL
  rw [List.length_append]
  simp only [List.length_cons, List.length_nil]
  omega
theorem heL_le {v : Int} {r s : List Int} {ho : List UInt8} {pr : List (List UInt8)} {t : List Int} {ag ea : Int} {b : List Int} (h1 : r.length = 32) (h2 : s.length = 32) (h3 : ho.length ≤ 255) (h4 : pr.length ≤ 8) (h5 : ∀ l ∈ pr, l.length ≤ 255) (h6 : t.length ≤ 400) (h7 : b.length ≤ 32) : (heL v r s ho pr t ag ea b).length ≤ 9000 := by
  have := lsL_le h4 h5
  have : (bdL t ag ea b).length ≤ 37 := by
    unfold bdL
    split
    · simp
    · simp only [List.length_append, bigL_len]; omega
  unfold heL
  simp only [List.length_append, fpL_len, shL_len, loL_len]
  omega
theorem bod_le (m : Msg) (f0 : mfF m = 0) : (bodF m).length ≤ 9000 := by
  by_cases h1 : m.k = 1
  · have F : heF m.v m.r.length m.s.length m.ho m.pr m.ti.length m.bi.length m.ag m.ea = 0 := mf_zero (m' := helloM m) (by unfold kfF; rw [if_pos h1]) f0
    have eb : bodF m = heL m.v m.r m.s m.ho m.pr m.ti m.ag m.ea m.bi := by unfold bodF; rw [if_pos h1]
    rw [eb]
    have A := he_all F; have B := he_more F; exact heL_le B.1.1 B.1.2 A.2.1 (he_pr F) A.2.2.1 B.2.1 B.2.2
  by_cases h2 : m.k = 2
  · have F : fpF m.v m.r.length m.s.length = 0 := mf_zero (m' := answerM m) (by unfold kfF; rw [if_neg h1]; rw [if_pos h2]) f0
    have eb : bodF m = fpL m.v m.r m.s ++ [if m.rs = true then 1 else 0] := by unfold bodF; rw [if_neg h1]; rw [if_pos h2]
    rw [eb]
    have B := fp_more F; rw [List.length_append, fpL_len]; simp only [List.length_cons, List.length_nil]; omega
  by_cases h4 : m.k = 4
  · have F : tiF m.ag m.ea m.r.length m.ti.length = 0 := mf_zero (m' := ticketM m) (by unfold kfF; rw [if_neg h1]; rw [if_neg h2]; rw [if_pos h4]) f0
    have eb : bodF m = tkL m.ag m.ea m.r m.ti := by unfold bodF; rw [if_neg h1]; rw [if_neg h2]; rw [if_pos h4]
    rw [eb]
    have B := ti_more F; unfold tkL; simp only [List.length_append, bigL_len, loL_len]; omega
  by_cases h5 : m.k = 5
  · skip
    have eb : bodF m = [] := by unfold bodF; rw [if_neg h1]; rw [if_neg h2]; rw [if_neg h4]; rw [if_pos h5]
    rw [eb]
    simp
  by_cases h8 : m.k = 8
  · have F : exF m.pr m.ea = 0 := mf_zero (m' := extrasM m) (by unfold kfF; rw [if_neg h1]; rw [if_neg h2]; rw [if_neg h4]; rw [if_neg h5]; rw [if_pos h8]) f0
    have eb : bodF m = lsL m.pr ++ bigL m.ea 1 := by unfold bodF; rw [if_neg h1]; rw [if_neg h2]; rw [if_neg h4]; rw [if_neg h5]; rw [if_pos h8]
    rw [eb]
    have A := ex_all F; have a1 := lsL_le (ex_pr F) A.1; rw [List.length_append, bigL_len]; omega
  by_cases h11 : m.k = 11
  · have F : ceF m.ce = 0 := mf_zero (m' := certsM m) (by unfold kfF; rw [if_neg h1]; rw [if_neg h2]; rw [if_neg h4]; rw [if_neg h5]; rw [if_neg h8]; rw [if_pos h11]) f0
    have eb : bodF m = clL m.ce := by unfold bodF; rw [if_neg h1]; rw [if_neg h2]; rw [if_neg h4]; rw [if_neg h5]; rw [if_neg h8]; rw [if_pos h11]
    rw [eb]
    have a1 := clL_le (ce_n F) (ce_more F); omega
  by_cases h15 : m.k = 15
  · have F : pfF 64 m.pf.length = 0 := mf_zero (m' := proofM m) (by unfold kfF; rw [if_neg h1]; rw [if_neg h2]; rw [if_neg h4]; rw [if_neg h5]; rw [if_neg h8]; rw [if_neg h11]; rw [if_pos h15]) f0
    have eb : bodF m = m.pf := by unfold bodF; rw [if_neg h1]; rw [if_neg h2]; rw [if_neg h4]; rw [if_neg h5]; rw [if_neg h8]; rw [if_neg h11]; rw [if_pos h15]
    rw [eb]
    have B := pf_more F; omega
  by_cases h20 : m.k = 20
  · have F : pfF 32 m.pf.length = 0 := mf_zero (m' := finishedM m) (by unfold kfF; rw [if_neg h1]; rw [if_neg h2]; rw [if_neg h4]; rw [if_neg h5]; rw [if_neg h8]; rw [if_neg h11]; rw [if_neg h15]; rw [if_pos h20]) f0
    have eb : bodF m = m.pf := by unfold bodF; rw [if_neg h1]; rw [if_neg h2]; rw [if_neg h4]; rw [if_neg h5]; rw [if_neg h8]; rw [if_neg h11]; rw [if_neg h15]; rw [if_pos h20]
    rw [eb]
    have B := pf_more F; omega
  by_cases h24 : m.k = 24
  · have F : upF m.ea = 0 := mf_zero (m' := updateM m) (by unfold kfF; rw [if_neg h1]; rw [if_neg h2]; rw [if_neg h4]; rw [if_neg h5]; rw [if_neg h8]; rw [if_neg h11]; rw [if_neg h15]; rw [if_neg h20]; rw [if_pos h24]) f0
    have eb : bodF m = bigL m.ea 1 := by unfold bodF; rw [if_neg h1]; rw [if_neg h2]; rw [if_neg h4]; rw [if_neg h5]; rw [if_neg h8]; rw [if_neg h11]; rw [if_neg h15]; rw [if_neg h20]; rw [if_pos h24]
    rw [eb]
    rw [bigL_len]; omega
  exfalso
  unfold mfF kfF at f0
  rw [if_neg h1, if_neg h2, if_neg h4, if_neg h5, if_neg h8, if_neg h11, if_neg h15, if_neg h20, if_neg h24] at f0
  simp at f0
theorem enc_le (m : Msg) : (encF m).length ≤ 10000 := by
  unfold encF
  by_cases c : mfF m = 0
  · rw [if_pos c]
    have := bod_le m c
    unfold enL
    simp only [List.length_append, bigL_len, List.length_cons, List.length_nil]
    omega
  · rw [if_neg c]
    simp
end Go.Proofs.YtdbgdiahddpgkaaGreat

/-
  The laws' helpers on rows of lists (Blobs): copied, held against each other, counted.
-/
namespace Go.Proofs.YtdbgdiahddpgkaaGreat
open Go Go.RowKit

theorem iB : (Tryz.prog.info? 54).map (·.size) = some 1 := by kernel_rfl
theorem rowB : ∃ d, Tryz.prog.underlying 54 = some d ∧ d.isRow = true := ⟨_, Tryz.underlying54, rfl⟩
set_option maxHeartbeats 2000000 in
theorem toBlob_any (w : World) (g : Nat) (a : Option Addr) (c : Nat) (xs : List Int) (hr : Rd w g a .u8 xs) (hn : xs.length ≤ 1048576) :
    Calls Tryz.prog 35 #[.agg #[.slice a xs.length c]] w fun e w' => (∃ G, e = .returned (.agg #[.slice (some ⟨G, 0, none⟩) xs.length xs.length]) ∧ w.heap.size ≤ G ∧ Blk w' G .u8 xs) ∧ Below w.heap.size w w' := by
  have T0 := TMs.new w 49 54 [.slice a xs.length c] [.slice none 0 0]
  obtain ⟨d1, hd1, hrow1⟩ := rowB
  go_enter Tryz.func35, Tryz.ntmps35
  go_upto_region 2 with fail
  have T0 : TMs w (((w.alloc (.cells #[.slice a xs.length c] 49)).alloc (.cells #[.slice none 0 0] 54)).alloc (.cells #[.slice none 0 0] 54)) 49 54 [.slice a xs.length c] [.slice none 0 0] [.slice none 0 0] := T0
  generalize ((w.alloc (.cells #[.slice a xs.length c] 49)).alloc (.cells #[.slice none 0 0] 54)).alloc (.cells #[.slice none 0 0] 54) = W0 at *
  have qS : W0.cell? ⟨w.heap.size, 0, none⟩ = some (.slice a xs.length c) := T0.S.cell 0
  have TB := hide (toByteS_any W0 g a c xs (hr.up T0.N) hn)
  go_wp2_with fail
  refine TB.out.mono ?_
  rintro e V ⟨rfl, B, m⟩
  have lt := T0.T.lt
  have T1 := T0.up m
  clear TB qS T0 m
  obtain ⟨G, hG⟩ : ∃ G, W0.heap.size = G := ⟨_, rfl⟩
  rw [hG] at B lt ⊢
  clear hG
  have qT : V.cell? ⟨w.heap.size + 1 + 1, 0, none⟩ = some (.slice none 0 0) := T1.T.cell 0
  have qF := T1.T.free 0
  go_upto_region 3 with fail
  have T2 : TMs w (V.setCell ⟨w.heap.size + 1 + 1, 0, none⟩ (.slice (some ⟨G, 0, none⟩) xs.length xs.length)) 49 54 [.slice a xs.length c] [.slice none 0 0] [.slice (some ⟨G, 0, none⟩) xs.length xs.length] := T1.set 0 _
  have B2 : Blk (V.setCell ⟨w.heap.size + 1 + 1, 0, none⟩ (.slice (some ⟨G, 0, none⟩) xs.length xs.length)) G .u8 xs := B.of_block ((Only.setCell V (w.heap.size + 1 + 1) 0 _).block G (by omega))
  clear T1 B qT qF
  generalize V.setCell ⟨w.heap.size + 1 + 1, 0, none⟩ (.slice (some ⟨G, 0, none⟩) xs.length xs.length) = W1 at *
  have RG := T2.T.rangeG
  have TH := T2.U.thereG
  have RR := World.rangeAt_setCells_same W1 (w.heap.size + 1) 0 [.slice (some ⟨G, 0, none⟩) xs.length xs.length] TH
  have OQ := only_setG W1 (w.heap.size + 1) [.slice (some ⟨G, 0, none⟩) xs.length xs.length] 0
  have N8 : Hid (Below w.heap.size w (W1.setCells (w.heap.size + 1) 0 [.slice (some ⟨G, 0, none⟩) xs.length xs.length])) := T2.N.trans (OQ.below (by omega))
  have B3 := hide (B2.of_block (OQ.block G (by omega)))
  have ON : ([.slice (some ⟨G, 0, none⟩) xs.length xs.length] : List Value).toArray.all (·.oneCell') = true := all_oneCell_toArray fun v hv => by
    simp only [List.mem_cons, List.not_mem_nil, or_false] at hv
    subst hv
    rfl
  clear OQ T2 B2
  go_wp2_with (first
    | (refine wpList_load_mid rfl 54 (.tmp 3) rfl (w.heap.size + 1 + 1) 0 rfl [.slice (some ⟨G, 0, none⟩) xs.length xs.length] d1 RG hd1 hrow1 iB ?_)
    | (refine wpList_store_mid rfl 54 (.tmp 2) (.tmp 8) rfl (w.heap.size + 1) 0 #[.slice (some ⟨G, 0, none⟩) xs.length xs.length] rfl rfl ?hth ?hin ?hon ?_))
  case hth => exact TH
  case hin => exact iB
  case hon => exact ON
  exact bodyPost_ret (v := .agg #[.slice (some ⟨G, 0, none⟩) xs.length xs.length]) (results_cellG Tryz.results35 _ _ (w.heap.size + 1) _ d1 rfl RR hd1 hrow1 iB) rfl ⟨⟨G, rfl, by omega, B3.out⟩, N8.out⟩
end Go.Proofs.YtdbgdiahddpgkaaGreat

/-
  The laws' helpers on rows of lists (Blobs), in loops.
-/
namespace Go.Proofs.YtdbgdiahddpgkaaGreat
open Go Go.RowKit

theorem infoBl : (Tryz.prog.info? 54).map (fun i => (i.zero, i.size, i.bytes)) = some (some (.agg #[.slice none 0 0]), 1, 24) := by kernel_rfl
theorem RwC.of_made {w : World} {base g n : Nat} {t : TypeId} (h : w.ownsRow base t 1 (.slice (some ⟨g, 0, none⟩) n n) n (madeCells (Value.agg #[.slice none 0 0]).cells (n * 1)).toList) : RwC w g (List.replicate n (.slice none 0 0)) t := by
  rcases h.2 with ⟨h', _⟩ | ⟨g', cap', cur, h', _, hg, _, _, hcs, htake⟩
  · simp at h'
  · simp only [Value.slice.injEq, Option.some.injEq, Addr.mk.injEq, and_true, true_and] at h'
    obtain ⟨rfl, rfl⟩ := h'
    show _ = _
    rw [hg]
    have : cur = (List.replicate n (Value.slice none 0 0)).toArray := by
      apply Array.ext'
      rw [List.take_of_length_le (by rw [Array.length_toList, hcs]; exact Nat.le_refl _)] at htake
      rw [htake]
      apply List.ext_getElem
      · simp [madeCells]
      · intro i h1 h2
        simp [madeCells, Value.cells, Nat.mod_one]
    rw [this]
theorem pick_list {P : Nat → Nat → Prop} : ∀ n, (∀ j, j < n → ∃ G, P j G) → ∃ Gs : List Nat, ∀ j, j < n → P j (Gs.getD j 0)
  | 0, _ => ⟨[], fun j hj => absurd hj (by omega)⟩
  | n + 1, h => by
    obtain ⟨Gs, hG⟩ := pick_list (P := P) n (fun j hj => h j (by omega))
    obtain ⟨G, hn⟩ := h n (by omega)
    refine ⟨(List.range n).map (fun j => Gs.getD j 0) ++ [G], fun j hj => ?_⟩
    by_cases e : j < n
    · have : ((List.range n).map (fun j => Gs.getD j 0) ++ [G]).getD j 0 = Gs.getD j 0 := by
        rw [List.getD_eq_getElem?_getD, List.getElem?_append_left (by simpa using e)]
        simp [e]
      rw [this]
      exact hG j e
    · obtain rfl : j = n := by omega
      have : ((List.range j).map (fun i => Gs.getD i 0) ++ [G]).getD j 0 = G := by
        rw [List.getD_eq_getElem?_getD, List.getElem?_append_right (by simp)]
        simp
      rw [this]
      exact hn
/-- A new row of lists, the first k of them laid. -/
def RowK (B : Nat) (wr : World) (g : Nat) (ce : List (List Int)) (k : Nat) (vs : List Value) : Prop := vs.length = ce.length ∧ RwC wr g vs 54 ∧ ∀ j, j < k → ∃ G, vs[j]? = some (.slice (some ⟨G, 0, none⟩) (ce.getD j []).length (ce.getD j []).length) ∧ Blk wr G .u8 (ce.getD j []) ∧ B < G
theorem RowK.step {B g k : Nat} {wr w1 : World} {ce : List (List Int)} {vs : List Value} (h : RowK B wr g ce k vs) (hk : k < ce.length) (hg : g ≤ B) (n : Below wr.heap.size wr w1) {G : Nat} (hG : B < G) (b : Blk w1 G .u8 (ce.getD k [])) :
    RowK B (w1.setCell ⟨g, k, none⟩ (.slice (some ⟨G, 0, none⟩) (ce.getD k []).length (ce.getD k []).length)) g ce (k + 1) (vs.set k (.slice (some ⟨G, 0, none⟩) (ce.getD k []).length (ce.getD k []).length)) := by
  obtain ⟨h1, h2, h3⟩ := h
  have O := Only.setCell w1 g k (.slice (some ⟨G, 0, none⟩) (ce.getD k []).length (ce.getD k []).length)
  refine ⟨by simpa using h1, (h2.up n).set k _, fun j hj => ?_⟩
  by_cases e : j = k
  · subst e
    exact ⟨G, by simp [h1, hk], b.of_block (O.block G (by omega)), hG⟩
  · obtain ⟨G', e1, b1, l1⟩ := h3 j (by omega)
    exact ⟨G', by rw [List.getElem?_set_ne (by omega)]; exact e1, (b1.up n).of_block (O.block G' (by omega)), l1⟩
theorem RowK.rd {B g : Nat} {wr : World} {ce : List (List Int)} {vs : List Value} (h : RowK B wr g ce ce.length vs) : ∃ ps, RdL wr g (some ⟨g, 0, none⟩) ce ps ∧ ∀ i, i < ce.length → B < (ps.getD i plb0).q := by
  obtain ⟨h1, h2, h3⟩ := h
  obtain ⟨Gs, hG⟩ := pick_list ce.length h3
  have e : ∀ i, i < ce.length → ((List.range ce.length).map fun j => (⟨some ⟨Gs.getD j 0, 0, none⟩, (ce.getD j []).length, Gs.getD j 0⟩ : Plb)).getD i plb0 = ⟨some ⟨Gs.getD i 0, 0, none⟩, (ce.getD i []).length, Gs.getD i 0⟩ := fun i hi => by
    rw [List.getD_eq_getElem?_getD]
    simp [hi]
  refine ⟨(List.range ce.length).map fun j => ⟨some ⟨Gs.getD j 0, 0, none⟩, (ce.getD j []).length, Gs.getD j 0⟩, ⟨fun _ => ⟨0, rfl, fun i hi => ?_⟩, fun i hi => ?_⟩, fun i hi => ?_⟩
  · rw [Nat.zero_add, h2.cell i, e i hi]
    exact (hG i hi).1
  · rw [e i hi]
    exact (hG i hi).2.1.own0.rd
  · rw [e i hi]
    exact (hG i hi).2.2
set_option maxHeartbeats 2000000 in
theorem toBlobS_any (w : World) (g : Nat) (a : Option Addr) (c : Nat) (ce : List (List Int)) (ps : List Plb) (hr : RdL w g a ce ps) (hn : ce.length ≤ 1048576) (hz : ∀ i, i < ce.length → (ce.getD i []).length ≤ 1048576) :
    Calls Tryz.prog 21 #[.slice a ce.length c] w fun e w' => (e = .returned (.slice (some ⟨w.heap.size, 0, none⟩) ce.length ce.length) ∧ ∃ ps', RdL w' w.heap.size (some ⟨w.heap.size, 0, none⟩) ce ps' ∧ ∀ i, i < ce.length → w.heap.size < (ps'.getD i plb0).q) ∧ Below w.heap.size w w' := by
  obtain ⟨i0, hi, hz0, hz1, hz2⟩ : ∃ i0, Tryz.prog.info? 54 = some i0 ∧ i0.zero = some (.agg #[.slice none 0 0]) ∧ i0.size = 1 ∧ i0.bytes = 24 := by
    have h := infoBl
    cases hq : Tryz.prog.info? 54 with
    | none => rw [hq] at h; simp at h
    | some i0 =>
      rw [hq] at h
      simp only [Option.map_some, Option.some.injEq, Prod.mk.injEq] at h
      exact ⟨i0, rfl, h.1, h.2.1, h.2.2⟩
  go_enter Tryz.func21, Tryz.ntmps21
  go_wp2_with (at_make; refine wpList_make_full _ rfl _ _ 29 rfl w.heap.size 54 i0 (.agg #[.slice none 0 0]) 1 Tryz.underlying29 hi hz0 hz1 .i64 .i64 _ _ ce.length rfl rfl rfl rfl (by rw [hz2]; omega) (by unfold maxLen; omega) (Nat.le_refl _) ?_; intro w1 hown hgrow)
  have hB0 := RwC.of_made hown
  have hN0 : Below w.heap.size w w1 := (Below.refl _ _).grown hgrow (Nat.le_refl _) (by simp)
  clear hown hgrow
  go_loopw [4] (fun i wr => ∃ (k : Nat) (vs : List Value), k ≤ ce.length ∧ i = .int .i64 k ∧ RowK w.heap.size wr w.heap.size ce k vs ∧ Below w.heap.size w wr) (fun i _ => ce.length - (intOf i).toNat)
  case atStart => exact ⟨0, _, Nat.zero_le _, rfl, ⟨by simp, hB0, fun j hj => absurd hj (by omega)⟩, hN0⟩
  case round =>
    obtain ⟨k, vs, hk, rfl, hR, hN⟩ := hrel
    clear hB0 hN0
    by_cases hlt : k < ce.length
    · obtain ⟨off, rfl, hc⟩ := (hr.up hN).r (by omega)
      have t0 : (k : Int) < (ce.length : Int) := by omega
      have c1 := hc k hlt
      have TB := hide (toBlob_any wr _ _ (ps.getD k plb0).c _ ((hr.up hN).b k hlt) (hz k hlt))
      have HS := hide (fun (w1 : World) (n : Below wr.heap.size wr w1) G hG b => RowK.step (w1 := w1) (G := G) hR hlt (Nat.le_refl _) n hG b)
      have hR2 := hide hR.2.1
      have hlen := hide hR.1
      have hlg := hR.2.1.lt
      have HN := hide hN
      clear hc hR hN
      generalize (ps.getD k plb0).a = pa at *
      generalize (ps.getD k plb0).c = pc at *
      generalize ce.getD k [] = x at *
      go_wp2_with fail
      refine TB.out.mono ?_
      rintro e w2 ⟨⟨G, rfl, hG, B⟩, n2⟩
      have T2 := hR2.out.up n2
      have q1 := T2.cell k
      have kl : k < vs.length := by rw [hlen.out]; exact hlt
      obtain ⟨y, hy⟩ : ∃ y, vs[k]? = some y := ⟨_, List.getElem?_eq_getElem kl⟩
      rw [hy] at q1
      have q2 := T2.free k
      have ST := hide (HS.out w2 n2 G (by omega) B)
      have N2 := hide (nxt HN.out n2)
      clear TB HS hR2 hlen T2 B n2 HN kl hG hy
      go_wp2
      go_roundw
      case rel => exact ⟨k + 1, _, by omega, by go_num, ST.out, N2.out.setCell (Nat.le_refl _) _⟩
      case measure => simp [intOf]; omega
    · obtain rfl : k = ce.length := by omega
      have RD := hide hR.rd
      have HN := hide hN
      clear hR hN hr
      go_wp2
      go_ret
      obtain ⟨ps', h1, h2⟩ := RD.out
      exact ⟨⟨rfl, ps', h1, h2⟩, HN.out⟩
set_option maxHeartbeats 1000000 in
theorem eqBlob_same (w : World) (g g' : Nat) (a b : Option Addr) (ca cb : Nat) (xs : List Int) (ha : Rd w g a .u8 xs) (hb : Rd w g' b .u8 xs) (hn : xs.length ≤ 1048576) :
    Calls Tryz.prog 38 #[.agg #[.slice a xs.length ca], .agg #[.slice b xs.length cb]] w fun e w' => e = .returned (.bool true) ∧ Below w.heap.size w w' := by
  have n1 : Below w.heap.size w (w.alloc (.cells #[.slice a xs.length ca] 54)) := (Below.refl _ _).alloc (Nat.le_refl _) _
  have n2 : Below w.heap.size w ((w.alloc (.cells #[.slice a xs.length ca] 54)).alloc (.cells #[.slice b xs.length cb] 54)) := n1.alloc n1.size _
  have BE := hide (eqByteS_same _ g g' a b ca cb xs (ha.up n2) (hb.up n2) hn)
  have N2 := hide n2
  clear ha hb n1 n2
  generalize xs.length = m at *
  go_enter Tryz.func38, Tryz.ntmps38
  go_wp2_with fail
  refine BE.out.mono ?_
  rintro e w1 ⟨rfl, n3⟩
  go_wp2
  go_ret
  exact ⟨rfl, nxt N2.out n3⟩
end Go.Proofs.YtdbgdiahddpgkaaGreat

/-
  The laws' helpers on rows of lists: held against each other, counted.
-/
namespace Go.Proofs.YtdbgdiahddpgkaaGreat
open Go Go.RowKit

theorem range_one {w : World} {g o : Nat} {v : Value} (h : w.cell? ⟨g, o, none⟩ = some v) : w.rangeAt g o [v] := fun j u hj => by
  match j, hj with
  | 0, hj =>
    rw [Nat.add_zero]
    simp only [List.getElem?_cons_zero, Option.some.injEq] at hj
    rw [← hj]
    exact h
  | j + 1, hj => simp at hj
set_option maxHeartbeats 2000000 in
theorem eqBlobS_same (w : World) (g g' : Nat) (a b : Option Addr) (ca cb : Nat) (ce : List (List Int)) (ps qs : List Plb) (ha : RdL w g a ce ps) (hb : RdL w g' b ce qs) (hn : ce.length ≤ 1048576) (hz : ∀ i, i < ce.length → (ce.getD i []).length ≤ 1048576) :
    Calls Tryz.prog 24 #[.slice a ce.length ca, .slice b ce.length cb] w fun e w' => e = .returned (.bool true) ∧ Below w.heap.size w w' := by
  obtain ⟨d1, hd1, hrow1⟩ := rowB
  have e0 : ((ce.length : Int) != (ce.length : Int)) = false := by simp
  go_enter Tryz.func24, Tryz.ntmps24
  go_wp2
  go_loopw [5] (fun i wr => ∃ (k : Nat), k ≤ ce.length ∧ i = .int .i64 k ∧ Below w.heap.size w wr) (fun i _ => ce.length - (intOf i).toNat)
  case atStart => exact ⟨0, Nat.zero_le _, rfl, Below.refl _ _⟩
  case round =>
    obtain ⟨k, hk, rfl, nb⟩ := hrel
    by_cases hlt : k < ce.length
    · obtain ⟨off, rfl, hc⟩ := (ha.up nb).r (by omega)
      obtain ⟨off', rfl, hc'⟩ := (hb.up nb).r (by omega)
      have t0 : (k : Int) < (ce.length : Int) := by omega
      have t1 : decide ((k : Int) < (ce.length : Int)) = true := decide_eq_true t0
      have c1 := hc k hlt
      have c2 := hc' k hlt
      have EB := hide (fun (W : World) (n : Below wr.heap.size wr W) => eqBlob_same W _ _ _ _ (ps.getD k plb0).c (qs.getD k plb0).c _ (((ha.up nb).b k hlt).up n) (((hb.up nb).b k hlt).up n) (hz k hlt))
      have NB := hide nb
      clear hc hc' nb
      generalize (ps.getD k plb0).a = pa at *
      generalize (ps.getD k plb0).c = pc at *
      generalize (qs.getD k plb0).a = qa at *
      generalize (qs.getD k plb0).c = qc at *
      generalize (ce.getD k []).length = m at *
      go_upto_region 6 with fail
      refine region_end 10 (fun i => [Fact.eq (.slice (some ⟨g, off, none⟩) ce.length ca), Fact.eq (.int .i64 (k : Int)), Fact.eq (.pointer (some ⟨g, off + k, none⟩)), Fact.eq (.agg #[.slice pa m pc]), Fact.eq (.slice (some ⟨g', off', none⟩) ce.length cb), Fact.eq (.int .i64 (k : Int)), Fact.eq (.pointer (some ⟨g', off' + k, none⟩)), Fact.eq (.agg #[.slice qa m qc]), Fact.eq (.bool true), Fact.eq (.bool false)].getD i Fact.no) (by kernel_rfl) (by kernel_rfl) rfl ?_ ?_
      · intro i hi
        obtain rfl | rfl | rfl | rfl | rfl | rfl | rfl | rfl | rfl | rfl : i = 0 ∨ i = 1 ∨ i = 2 ∨ i = 3 ∨ i = 4 ∨ i = 5 ∨ i = 6 ∨ i = 7 ∨ i = 8 ∨ i = 9 := by omega
        · refine step_pure rfl fun A ww hb hw hf => ?_
          have e1 : A.tmps[0]?.getD undef = .slice (some ⟨g, off, none⟩) ce.length ca := gdv (hb.2.2 0 (by kernel_rfl))
          exact ⟨.slice (some ⟨g, off, none⟩) ce.length ca, by simp [go_sem, e1], rfl⟩
        · refine step_pure rfl fun A ww hb hw hf => ?_
          have e1 : A.tmps[5]?.getD undef = .int .i64 (k : Int) := gdv (hb.2.2 5 (by kernel_rfl))
          exact ⟨.int .i64 (k : Int), by simp [go_sem, e1], rfl⟩
        · refine step_pure rfl fun A ww hb hw hf => ?_
          have e1 : A.tmps[17]?.getD undef = .slice (some ⟨g, off, none⟩) ce.length ca := gdv (hf 0 17 (by kernel_rfl))
          have e2 : A.tmps[18]?.getD undef = .int .i64 (k : Int) := gdv (hf 1 18 (by kernel_rfl))
          exact ⟨.pointer (some ⟨g, off + k, none⟩), by simp [go_sem, e1, e2, hlt], rfl⟩
        · refine step_load rfl 54 (.tmp 19) rfl d1 1 hd1 hrow1 iB fun A ww hb hw hf => ⟨_, _, [.slice pa m pc], hf 2 19 (by kernel_rfl), range_one ((hw.cell (block_lt_of_cell c1)).trans c1), rfl, rfl⟩
        · refine step_pure rfl fun A ww hb hw hf => ?_
          have e1 : A.tmps[1]?.getD undef = .slice (some ⟨g', off', none⟩) ce.length cb := gdv (hb.2.2 1 (by kernel_rfl))
          exact ⟨.slice (some ⟨g', off', none⟩) ce.length cb, by simp [go_sem, e1], rfl⟩
        · refine step_pure rfl fun A ww hb hw hf => ?_
          have e1 : A.tmps[5]?.getD undef = .int .i64 (k : Int) := gdv (hb.2.2 5 (by kernel_rfl))
          exact ⟨.int .i64 (k : Int), by simp [go_sem, e1], rfl⟩
        · refine step_pure rfl fun A ww hb hw hf => ?_
          have e1 : A.tmps[21]?.getD undef = .slice (some ⟨g', off', none⟩) ce.length cb := gdv (hf 4 21 (by kernel_rfl))
          have e2 : A.tmps[22]?.getD undef = .int .i64 (k : Int) := gdv (hf 5 22 (by kernel_rfl))
          exact ⟨.pointer (some ⟨g', off' + k, none⟩), by simp [go_sem, e1, e2, hlt], rfl⟩
        · refine step_load rfl 54 (.tmp 23) rfl d1 1 hd1 hrow1 iB fun A ww hb hw hf => ⟨_, _, [.slice qa m qc], hf 6 23 (by kernel_rfl), range_one ((hw.cell (block_lt_of_cell c2)).trans c2), rfl, rfl⟩
        · refine step_callv rfl 38 _ _ rfl (by kernel_rfl) fun A ww hb hw hf => ?_
          have e1 : A.tmps.getD 20 undef = .agg #[.slice pa m pc] := hf 3 20 (by kernel_rfl)
          have e2 : A.tmps.getD 24 undef = .agg #[.slice qa m qc] := hf 7 24 (by kernel_rfl)
          show Calls Tryz.prog 38 #[A.tmps.getD 20 undef, A.tmps.getD 24 undef] ww _
          rw [e1, e2]
          exact (EB.out ww hw).mono (by rintro r w' ⟨rfl, n⟩; exact ⟨_, rfl, n, rfl⟩)
        · refine step_pure rfl fun A ww hb hw hf => ?_
          have e1 : A.tmps[25]?.getD undef = .bool true := gdv (hf 8 25 (by kernel_rfl))
          exact ⟨.bool false, by simp [go_sem, e1], rfl⟩
      intro A W hb' hw hF
      have e2 := hF 9 26 (by kernel_rfl)
      obtain ⟨vs, hvs⟩ : ∃ vs : Nat → Value, ∀ d, A.tmps.getD d undef = vs d := ⟨_, fun _ => rfl⟩
      rw [hvs] at e2
      rw [puts_of (md := .any) (k := 10) (by kernel_rfl) rfl hb' vs hvs]
      have e3 : vs 26 = .bool false := e2
      have NW := hide (nxt NB.out hw)
      clear hb' hF hvs e2 c1 c2 EB hw NB
      simp only [puts, e3, Act.put, List.setIfInBounds_toArray, List.set_cons_succ, List.set_cons_zero]
      clear e3
      go_wp2
      go_roundw
      case rel => exact ⟨k + 1, by omega, by go_num, NW.out⟩
      case measure => simp [intOf]; omega
    · obtain rfl : k = ce.length := by omega
      have NB := hide nb
      clear nb ha hb
      go_wp2
      go_ret
      exact ⟨rfl, NB.out⟩
/-- What is left of a number behind a count, or -1. -/
def Lft (L : Int) (n : Int) (r : Int) : Prop := (L < n ∧ r = -1) ∨ (n ≤ L ∧ r = L - n)
set_option maxHeartbeats 1000000 in
theorem szByteS_r (w : World) (a : Option Addr) (c n : Nat) (L : Int) (hn : n ≤ 9223372036854775807) (h0 : 0 ≤ L) (h1 : L ≤ 1048576) :
    Calls Tryz.prog 13 #[.slice a n c, .int .i64 L] w fun e w' => (∃ r, e = .returned (.int .i64 r) ∧ Lft L n r) ∧ w' = w := by
  have s1 : IntKind.i64.wrap (L - (n : Int)) = L - (n : Int) := by rw [IntKind.wrap_i64]; omega
  by_cases h : L < (n : Int)
  · have t1 : decide (L - (n : Int) < 0) = true := decide_eq_true (by omega)
    have H := hide h
    clear h
    go_enter Tryz.func13, Tryz.ntmps13
    go_wp2
    go_ret
    exact ⟨⟨_, rfl, .inl ⟨H.out, rfl⟩⟩, rfl⟩
  · have t1 : decide (L - (n : Int) < 0) = false := decide_eq_false (by omega)
    have H := hide h
    clear h
    go_enter Tryz.func13, Tryz.ntmps13
    go_wp2
    go_ret
    exact ⟨⟨_, rfl, .inr ⟨by have := H.out; omega, rfl⟩⟩, rfl⟩
set_option maxHeartbeats 1000000 in
theorem szBlob_r (w : World) (a : Option Addr) (c n : Nat) (L : Int) (hn : n ≤ 9223372036854775807) (h0 : 0 ≤ L) (h1 : L ≤ 1048576) :
    Calls Tryz.prog 27 #[.agg #[.slice a n c], .int .i64 L] w fun e w' => (∃ r, e = .returned (.int .i64 r) ∧ Lft L n r) ∧ Below w.heap.size w w' := by
  have n1 : Hid (Below w.heap.size w (w.alloc (.cells #[.slice a n c] 49))) := (Below.refl _ _).alloc (Nat.le_refl _) _
  have SZ := hide (szByteS_r (w.alloc (.cells #[.slice a n c] 49)) a c n L hn h0 h1)
  go_enter Tryz.func27, Tryz.ntmps27
  go_wp2_with fail
  refine SZ.out.mono ?_
  rintro e w1 ⟨⟨r, rfl, hr⟩, hw⟩
  subst hw
  rcases hr with ⟨h2, rfl⟩ | ⟨h2, rfl⟩
  · have H := hide h2
    clear h2
    go_wp2
    go_ret
    exact ⟨⟨_, rfl, .inl ⟨H.out, rfl⟩⟩, n1.out⟩
  · have t1 : decide (L - (n : Int) < 0) = false := decide_eq_false (by omega)
    have H := hide h2
    clear h2
    go_wp2
    go_ret
    exact ⟨⟨_, rfl, .inr ⟨H.out, rfl⟩⟩, n1.out⟩
def sumB (ce : List (List Int)) : Nat := ce.foldr (fun l s => l.length + s) 0
theorem sumB_app (x y : List (List Int)) : sumB (x ++ y) = sumB x + sumB y := by
  induction x with
  | nil => simp [sumB]
  | cons a x ih => show a.length + sumB (x ++ y) = a.length + sumB x + sumB y; rw [ih]; omega
theorem sumB_take {ls : List (List Int)} {k : Nat} (h : k < ls.length) : sumB (ls.take (k + 1)) = sumB (ls.take k) + (ls.getD k []).length := by
  rw [List.take_succ_eq_append_getElem h, sumB_app, List.getD_eq_getElem?_getD, List.getElem?_eq_getElem h]
  simp [sumB]
theorem sumB_le {ls : List (List Int)} (k : Nat) : sumB (ls.take k) ≤ sumB ls := by
  have := sumB_app (ls.take k) (ls.drop k)
  rw [List.take_append_drop] at this
  omega
theorem sumB_get {ls : List (List Int)} {k : Nat} (h : k < ls.length) : (ls.getD k []).length ≤ sumB ls := by
  have := sumB_take h
  have := sumB_le (ls := ls) (k + 1)
  omega
set_option maxHeartbeats 2000000 in
theorem szBlobS_r (w : World) (g : Nat) (a : Option Addr) (c : Nat) (ce : List (List Int)) (ps : List Plb) (L : Int) (hr : RdL w g a ce ps) (hn : ce.length ≤ 9223372036854775807) (hz : ∀ i, i < ce.length → (ce.getD i []).length ≤ 9223372036854775807) (h0 : 0 ≤ L) (h1 : L ≤ 1048576) :
    Calls Tryz.prog 15 #[.slice a ce.length c, .int .i64 L] w fun e w' => (∃ r, e = .returned (.int .i64 r) ∧ Lft L ((ce.length : Int) + (sumB ce : Int)) r) ∧ Below w.heap.size w w' := by
  have s1 : IntKind.i64.wrap (L - (ce.length : Int)) = L - (ce.length : Int) := by rw [IntKind.wrap_i64]; omega
  by_cases hl : L < (ce.length : Int)
  · have t1 : decide (L - (ce.length : Int) < 0) = true := decide_eq_true (by omega)
    have H := hide hl
    clear hl hr
    go_enter Tryz.func15, Tryz.ntmps15
    go_wp2
    go_ret
    exact ⟨⟨_, rfl, .inl ⟨by have := H.out; omega, rfl⟩⟩, Below.refl _ _⟩
  · have t1 : decide (L - (ce.length : Int) < 0) = false := decide_eq_false (by omega)
    go_enter Tryz.func15, Tryz.ntmps15
    go_wp2
    go_loopw [1, 5] (fun l i wr => ∃ (k : Nat), k ≤ ce.length ∧ i = .int .i64 k ∧ l = .int .i64 (L - (ce.length : Int) - (sumB (ce.take k) : Int)) ∧ 0 ≤ L - (ce.length : Int) - (sumB (ce.take k) : Int) ∧ Below w.heap.size w wr) (fun _ i _ => ce.length - (intOf i).toNat)
    case atStart => exact ⟨0, Nat.zero_le _, rfl, by rw [List.take_zero]; simp [sumB], by rw [List.take_zero]; simp [sumB]; omega, Below.refl _ _⟩
    case round =>
      obtain ⟨k, hk, rfl, rfl, hpos, nb⟩ := hrel
      by_cases hlt : k < ce.length
      · obtain ⟨off, rfl, hc⟩ := (hr.up nb).r (by omega)
        have t0 : (k : Int) < (ce.length : Int) := by omega
        have c1 := hc k hlt
        have ST := hide (sumB_take hlt)
        have SL := hide (sumB_le (ls := ce) (k + 1))
        have SZ := hide (szBlob_r wr (ps.getD k plb0).a (ps.getD k plb0).c (ce.getD k []).length (L - (ce.length : Int) - (sumB (ce.take k) : Int)) (hz k hlt) hpos (by omega))
        have NB := hide nb
        clear hc nb
        generalize (ps.getD k plb0).a = pa at *
        generalize (ps.getD k plb0).c = pc at *
        generalize (ce.getD k []).length = m at *
        obtain ⟨q, hq⟩ : ∃ q : Int, q = L - (ce.length : Int) - (sumB (ce.take k) : Int) := ⟨_, rfl⟩
        rw [← hq] at SZ hpos ⊢
        have HQ := hide hq
        clear hq
        go_wp2_with fail
        refine SZ.out.mono ?_
        rintro e w1 ⟨⟨r, rfl, hr1⟩, n1⟩
        have N1 := hide (nxt NB.out n1)
        clear SZ NB n1
        rcases hr1 with ⟨h2, rfl⟩ | ⟨h2, rfl⟩
        · have FA : Hid (L < (ce.length : Int) + (sumB ce : Int)) := by
            have := ST.out; have := SL.out; have := HQ.out
            show L < _
            omega
          clear h2 ST SL HQ
          go_wp2
          go_ret
          exact ⟨⟨_, rfl, .inl ⟨FA.out, rfl⟩⟩, N1.out⟩
        · have t3 : decide (q - (m : Int) < 0) = false := decide_eq_false (by omega)
          have EQ : Hid (q - (m : Int) = L - (ce.length : Int) - (sumB (ce.take (k + 1)) : Int)) := by
            have := ST.out; have := HQ.out
            show _ = _
            omega
          have GE : Hid (0 ≤ q - (m : Int)) := by show (0 : Int) ≤ _; omega
          clear h2 ST SL HQ hpos
          go_wp2
          go_roundw
          case rel => exact ⟨k + 1, by omega, by go_num, by rw [EQ.out], by rw [← EQ.out]; exact GE.out, N1.out⟩
          case measure => simp [intOf]; omega
      · obtain rfl : k = ce.length := by omega
        rw [List.take_length] at hpos ⊢
        have NB := hide nb
        have HP := hide hpos
        clear nb hr hpos
        go_wp2
        go_ret
        exact ⟨⟨_, rfl, .inr ⟨by have := HP.out; omega, by omega⟩⟩, NB.out⟩
end Go.Proofs.YtdbgdiahddpgkaaGreat
