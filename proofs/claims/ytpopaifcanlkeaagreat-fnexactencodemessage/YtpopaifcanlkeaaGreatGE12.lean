import Derived.Test.YtpopaifcanlkeaaGreatGE8
import Derived.Test.YtpopaifcanlkeaaGreatGE3
import Derived.Test.YtpopaifcanlkeaaGreatGE5
import Derived.Test.YtpopaifcanlkeaaGreatGE4
import Derived.Deep.MidRow
import Derived.Deep.Cut
import Derived.Test.YtpopaifcanlkeaaGreatGE10
import Derived.Deep.QuietTactic
import Derived.BigQuiet

/-
  The laws' helpers on rows of lists (Blobs): copied, held against each other, counted.
-/
namespace Go.Proofs.YtpopaifcanlkeaaGreat
open Go Go.RowKit

theorem iB : (Tryz.prog.info? 61).map (·.size) = some 1 := by kernel_rfl
theorem rowB : ∃ d, Tryz.prog.underlying 61 = some d ∧ d.isRow = true := ⟨_, Tryz.underlying61, rfl⟩
set_option maxHeartbeats 2000000 in
theorem toBlob_any (w : World) (g : Nat) (a : Option Addr) (c : Nat) (xs : List Int) (hr : Rd w g a .u8 xs) (hn : xs.length ≤ 1048576) :
    Calls Tryz.prog 37 #[.agg #[.slice a xs.length c]] w fun e w' => (∃ G, e = .returned (.agg #[.slice (some ⟨G, 0, none⟩) xs.length xs.length]) ∧ w.heap.size ≤ G ∧ Blk w' G .u8 xs) ∧ Below w.heap.size w w' := by
  have T0 := TMs.new w 56 61 [.slice a xs.length c] [.slice none 0 0]
  obtain ⟨d1, hd1, hrow1⟩ := rowB
  go_enter Tryz.func37, Tryz.ntmps37
  go_upto_region 2 with fail
  have T0 : TMs w (((w.alloc (.cells #[.slice a xs.length c] 56)).alloc (.cells #[.slice none 0 0] 61)).alloc (.cells #[.slice none 0 0] 61)) 56 61 [.slice a xs.length c] [.slice none 0 0] [.slice none 0 0] := T0
  generalize ((w.alloc (.cells #[.slice a xs.length c] 56)).alloc (.cells #[.slice none 0 0] 61)).alloc (.cells #[.slice none 0 0] 61) = W0 at *
  have qS : W0.cell? ⟨w.heap.size, 0, none⟩ = some (.slice a xs.length c) := T0.S.cell 0
  have TB := hide (toByteS_any W0 g a c xs (hr.up T0.N) hn)
  go_wp2_with fail
  refine TB.out.mono ?_
  rintro e V ⟨rfl, B, m⟩
  have lt := T0.T.lt
  have T1 := T0.up m
  clear TB qS T0 m
  obtain ⟨G, hG⟩ : ∃ G, W0.heap.size = G := ⟨_, rfl⟩
  rw [hG] at B lt ⊢
  clear hG
  have qT : V.cell? ⟨w.heap.size + 1 + 1, 0, none⟩ = some (.slice none 0 0) := T1.T.cell 0
  have qF := T1.T.free 0
  go_upto_region 3 with fail
  have T2 : TMs w (V.setCell ⟨w.heap.size + 1 + 1, 0, none⟩ (.slice (some ⟨G, 0, none⟩) xs.length xs.length)) 56 61 [.slice a xs.length c] [.slice none 0 0] [.slice (some ⟨G, 0, none⟩) xs.length xs.length] := T1.set 0 _
  have B2 : Blk (V.setCell ⟨w.heap.size + 1 + 1, 0, none⟩ (.slice (some ⟨G, 0, none⟩) xs.length xs.length)) G .u8 xs := B.of_block ((Only.setCell V (w.heap.size + 1 + 1) 0 _).block G (by omega))
  clear T1 B qT qF
  generalize V.setCell ⟨w.heap.size + 1 + 1, 0, none⟩ (.slice (some ⟨G, 0, none⟩) xs.length xs.length) = W1 at *
  have RG := T2.T.rangeG
  have TH := T2.U.thereG
  have RR := World.rangeAt_setCells_same W1 (w.heap.size + 1) 0 [.slice (some ⟨G, 0, none⟩) xs.length xs.length] TH
  have OQ := only_setG W1 (w.heap.size + 1) [.slice (some ⟨G, 0, none⟩) xs.length xs.length] 0
  have N8 : Hid (Below w.heap.size w (W1.setCells (w.heap.size + 1) 0 [.slice (some ⟨G, 0, none⟩) xs.length xs.length])) := T2.N.trans (OQ.below (by omega))
  have B3 := hide (B2.of_block (OQ.block G (by omega)))
  have ON : ([.slice (some ⟨G, 0, none⟩) xs.length xs.length] : List Value).toArray.all (·.oneCell') = true := all_oneCell_toArray fun v hv => by
    simp only [List.mem_cons, List.not_mem_nil, or_false] at hv
    subst hv
    rfl
  clear OQ T2 B2
  go_wp2_with (first
    | (refine wpList_load_mid rfl 61 (.tmp 3) rfl (w.heap.size + 1 + 1) 0 rfl [.slice (some ⟨G, 0, none⟩) xs.length xs.length] d1 RG hd1 hrow1 iB ?_)
    | (refine wpList_store_mid rfl 61 (.tmp 2) (.tmp 8) rfl (w.heap.size + 1) 0 #[.slice (some ⟨G, 0, none⟩) xs.length xs.length] rfl rfl ?hth ?hin ?hon ?_))
  case hth => exact TH
  case hin => exact iB
  case hon => exact ON
  exact bodyPost_ret (v := .agg #[.slice (some ⟨G, 0, none⟩) xs.length xs.length]) (results_cellG Tryz.results37 _ _ (w.heap.size + 1) _ d1 rfl RR hd1 hrow1 iB) rfl ⟨⟨G, rfl, by omega, B3.out⟩, N8.out⟩
end Go.Proofs.YtpopaifcanlkeaaGreat

/-
  The laws' helpers on rows of lists (Blobs), in loops.
-/
namespace Go.Proofs.YtpopaifcanlkeaaGreat
open Go Go.RowKit

theorem infoBl : (Tryz.prog.info? 61).map (fun i => (i.zero, i.size, i.bytes)) = some (some (.agg #[.slice none 0 0]), 1, 24) := by kernel_rfl
theorem RwC.of_made {w : World} {base g n : Nat} {t : TypeId} (h : w.ownsRow base t 1 (.slice (some ⟨g, 0, none⟩) n n) n (madeCells (Value.agg #[.slice none 0 0]).cells (n * 1)).toList) : RwC w g (List.replicate n (.slice none 0 0)) t := by
  rcases h.2 with ⟨h', _⟩ | ⟨g', cap', cur, h', _, hg, _, _, hcs, htake⟩
  · simp at h'
  · simp only [Value.slice.injEq, Option.some.injEq, Addr.mk.injEq, and_true, true_and] at h'
    obtain ⟨rfl, rfl⟩ := h'
    show _ = _
    rw [hg]
    have : cur = (List.replicate n (Value.slice none 0 0)).toArray := by
      apply Array.ext'
      rw [List.take_of_length_le (by rw [Array.length_toList, hcs]; exact Nat.le_refl _)] at htake
      rw [htake]
      apply List.ext_getElem
      · simp [madeCells]
      · intro i h1 h2
        simp [madeCells, Value.cells, Nat.mod_one]
    rw [this]
theorem pick_list {P : Nat → Nat → Prop} : ∀ n, (∀ j, j < n → ∃ G, P j G) → ∃ Gs : List Nat, ∀ j, j < n → P j (Gs.getD j 0)
  | 0, _ => ⟨[], fun j hj => absurd hj (by omega)⟩
  | n + 1, h => by
    obtain ⟨Gs, hG⟩ := pick_list (P := P) n (fun j hj => h j (by omega))
    obtain ⟨G, hn⟩ := h n (by omega)
    refine ⟨(List.range n).map (fun j => Gs.getD j 0) ++ [G], fun j hj => ?_⟩
    by_cases e : j < n
    · have : ((List.range n).map (fun j => Gs.getD j 0) ++ [G]).getD j 0 = Gs.getD j 0 := by
        rw [List.getD_eq_getElem?_getD, List.getElem?_append_left (by simpa using e)]
        simp [e]
      rw [this]
      exact hG j e
    · obtain rfl : j = n := by omega
      have : ((List.range j).map (fun i => Gs.getD i 0) ++ [G]).getD j 0 = G := by
        rw [List.getD_eq_getElem?_getD, List.getElem?_append_right (by simp)]
        simp
      rw [this]
      exact hn
/-- A new row of lists, the first k of them laid. -/
def RowK (B : Nat) (wr : World) (g : Nat) (ce : List (List Int)) (k : Nat) (vs : List Value) : Prop := vs.length = ce.length ∧ RwC wr g vs 61 ∧ ∀ j, j < k → ∃ G, vs[j]? = some (.slice (some ⟨G, 0, none⟩) (ce.getD j []).length (ce.getD j []).length) ∧ Blk wr G .u8 (ce.getD j []) ∧ B < G
theorem RowK.step {B g k : Nat} {wr w1 : World} {ce : List (List Int)} {vs : List Value} (h : RowK B wr g ce k vs) (hk : k < ce.length) (hg : g ≤ B) (n : Below wr.heap.size wr w1) {G : Nat} (hG : B < G) (b : Blk w1 G .u8 (ce.getD k [])) :
    RowK B (w1.setCell ⟨g, k, none⟩ (.slice (some ⟨G, 0, none⟩) (ce.getD k []).length (ce.getD k []).length)) g ce (k + 1) (vs.set k (.slice (some ⟨G, 0, none⟩) (ce.getD k []).length (ce.getD k []).length)) := by
  obtain ⟨h1, h2, h3⟩ := h
  have O := Only.setCell w1 g k (.slice (some ⟨G, 0, none⟩) (ce.getD k []).length (ce.getD k []).length)
  refine ⟨by simpa using h1, (h2.up n).set k _, fun j hj => ?_⟩
  by_cases e : j = k
  · subst e
    exact ⟨G, by simp [h1, hk], b.of_block (O.block G (by omega)), hG⟩
  · obtain ⟨G', e1, b1, l1⟩ := h3 j (by omega)
    exact ⟨G', by rw [List.getElem?_set_ne (by omega)]; exact e1, (b1.up n).of_block (O.block G' (by omega)), l1⟩
theorem RowK.rd {B g : Nat} {wr : World} {ce : List (List Int)} {vs : List Value} (h : RowK B wr g ce ce.length vs) : ∃ ps, RdL wr g (some ⟨g, 0, none⟩) ce ps ∧ ∀ i, i < ce.length → B < (ps.getD i plb0).q := by
  obtain ⟨h1, h2, h3⟩ := h
  obtain ⟨Gs, hG⟩ := pick_list ce.length h3
  have e : ∀ i, i < ce.length → ((List.range ce.length).map fun j => (⟨some ⟨Gs.getD j 0, 0, none⟩, (ce.getD j []).length, Gs.getD j 0⟩ : Plb)).getD i plb0 = ⟨some ⟨Gs.getD i 0, 0, none⟩, (ce.getD i []).length, Gs.getD i 0⟩ := fun i hi => by
    rw [List.getD_eq_getElem?_getD]
    simp [hi]
  refine ⟨(List.range ce.length).map fun j => ⟨some ⟨Gs.getD j 0, 0, none⟩, (ce.getD j []).length, Gs.getD j 0⟩, ⟨fun _ => ⟨0, rfl, fun i hi => ?_⟩, fun i hi => ?_⟩, fun i hi => ?_⟩
  · rw [Nat.zero_add, h2.cell i, e i hi]
    exact (hG i hi).1
  · rw [e i hi]
    exact (hG i hi).2.1.own0.rd
  · rw [e i hi]
    exact (hG i hi).2.2
set_option maxHeartbeats 2000000 in
theorem toBlobS_any (w : World) (g : Nat) (a : Option Addr) (c : Nat) (ce : List (List Int)) (ps : List Plb) (hr : RdL w g a ce ps) (hn : ce.length ≤ 1048576) (hz : ∀ i, i < ce.length → (ce.getD i []).length ≤ 1048576) :
    Calls Tryz.prog 21 #[.slice a ce.length c] w fun e w' => (e = .returned (.slice (some ⟨w.heap.size, 0, none⟩) ce.length ce.length) ∧ ∃ ps', RdL w' w.heap.size (some ⟨w.heap.size, 0, none⟩) ce ps' ∧ ∀ i, i < ce.length → w.heap.size < (ps'.getD i plb0).q) ∧ Below w.heap.size w w' := by
  obtain ⟨i0, hi, hz0, hz1, hz2⟩ : ∃ i0, Tryz.prog.info? 61 = some i0 ∧ i0.zero = some (.agg #[.slice none 0 0]) ∧ i0.size = 1 ∧ i0.bytes = 24 := by
    have h := infoBl
    cases hq : Tryz.prog.info? 61 with
    | none => rw [hq] at h; simp at h
    | some i0 =>
      rw [hq] at h
      simp only [Option.map_some, Option.some.injEq, Prod.mk.injEq] at h
      exact ⟨i0, rfl, h.1, h.2.1, h.2.2⟩
  go_enter Tryz.func21, Tryz.ntmps21
  go_wp2_with (at_make; refine wpList_make_full _ rfl _ _ 29 rfl w.heap.size 61 i0 (.agg #[.slice none 0 0]) 1 Tryz.underlying29 hi hz0 hz1 .i64 .i64 _ _ ce.length rfl rfl rfl rfl (by rw [hz2]; omega) (by unfold maxLen; omega) (Nat.le_refl _) ?_; intro w1 hown hgrow)
  have hB0 := RwC.of_made hown
  have hN0 : Below w.heap.size w w1 := (Below.refl _ _).grown hgrow (Nat.le_refl _) (by simp)
  clear hown hgrow
  go_loopw [4] (fun i wr => ∃ (k : Nat) (vs : List Value), k ≤ ce.length ∧ i = .int .i64 k ∧ RowK w.heap.size wr w.heap.size ce k vs ∧ Below w.heap.size w wr) (fun i _ => ce.length - (intOf i).toNat)
  case atStart => exact ⟨0, _, Nat.zero_le _, rfl, ⟨by simp, hB0, fun j hj => absurd hj (by omega)⟩, hN0⟩
  case round =>
    obtain ⟨k, vs, hk, rfl, hR, hN⟩ := hrel
    clear hB0 hN0
    by_cases hlt : k < ce.length
    · obtain ⟨off, rfl, hc⟩ := (hr.up hN).r (by omega)
      have t0 : (k : Int) < (ce.length : Int) := by omega
      have c1 := hc k hlt
      have TB := hide (toBlob_any wr _ _ (ps.getD k plb0).c _ ((hr.up hN).b k hlt) (hz k hlt))
      have HS := hide (fun (w1 : World) (n : Below wr.heap.size wr w1) G hG b => RowK.step (w1 := w1) (G := G) hR hlt (Nat.le_refl _) n hG b)
      have hR2 := hide hR.2.1
      have hlen := hide hR.1
      have hlg := hR.2.1.lt
      have HN := hide hN
      clear hc hR hN
      generalize (ps.getD k plb0).a = pa at *
      generalize (ps.getD k plb0).c = pc at *
      generalize ce.getD k [] = x at *
      go_wp2_with fail
      refine TB.out.mono ?_
      rintro e w2 ⟨⟨G, rfl, hG, B⟩, n2⟩
      have T2 := hR2.out.up n2
      have q1 := T2.cell k
      have kl : k < vs.length := by rw [hlen.out]; exact hlt
      obtain ⟨y, hy⟩ : ∃ y, vs[k]? = some y := ⟨_, List.getElem?_eq_getElem kl⟩
      rw [hy] at q1
      have q2 := T2.free k
      have ST := hide (HS.out w2 n2 G (by omega) B)
      have N2 := hide (nxt HN.out n2)
      clear TB HS hR2 hlen T2 B n2 HN kl hG hy
      go_wp2
      go_roundw
      case rel => exact ⟨k + 1, _, by omega, by go_num, ST.out, N2.out.setCell (Nat.le_refl _) _⟩
      case measure => simp [intOf]; omega
    · obtain rfl : k = ce.length := by omega
      have RD := hide hR.rd
      have HN := hide hN
      clear hR hN hr
      go_wp2
      go_ret
      obtain ⟨ps', h1, h2⟩ := RD.out
      exact ⟨⟨rfl, ps', h1, h2⟩, HN.out⟩
set_option maxHeartbeats 1000000 in
theorem eqBlob_same (w : World) (g g' : Nat) (a b : Option Addr) (ca cb : Nat) (xs : List Int) (ha : Rd w g a .u8 xs) (hb : Rd w g' b .u8 xs) (hn : xs.length ≤ 1048576) :
    Calls Tryz.prog 41 #[.agg #[.slice a xs.length ca], .agg #[.slice b xs.length cb]] w fun e w' => e = .returned (.bool true) ∧ Below w.heap.size w w' := by
  have n1 : Below w.heap.size w (w.alloc (.cells #[.slice a xs.length ca] 61)) := (Below.refl _ _).alloc (Nat.le_refl _) _
  have n2 : Below w.heap.size w ((w.alloc (.cells #[.slice a xs.length ca] 61)).alloc (.cells #[.slice b xs.length cb] 61)) := n1.alloc n1.size _
  have BE := hide (eqByteS_same _ g g' a b ca cb xs (ha.up n2) (hb.up n2) hn)
  have N2 := hide n2
  clear ha hb n1 n2
  generalize xs.length = m at *
  go_enter Tryz.func41, Tryz.ntmps41
  go_wp2_with fail
  refine BE.out.mono ?_
  rintro e w1 ⟨rfl, n3⟩
  go_wp2
  go_ret
  exact ⟨rfl, nxt N2.out n3⟩
end Go.Proofs.YtpopaifcanlkeaaGreat

/-
  The laws' helpers on rows of lists: held against each other, counted.
-/
namespace Go.Proofs.YtpopaifcanlkeaaGreat
open Go Go.RowKit

theorem range_one {w : World} {g o : Nat} {v : Value} (h : w.cell? ⟨g, o, none⟩ = some v) : w.rangeAt g o [v] := fun j u hj => by
  match j, hj with
  | 0, hj =>
    rw [Nat.add_zero]
    simp only [List.getElem?_cons_zero, Option.some.injEq] at hj
    rw [← hj]
    exact h
  | j + 1, hj => simp at hj
set_option maxHeartbeats 2000000 in
theorem eqBlobS_same (w : World) (g g' : Nat) (a b : Option Addr) (ca cb : Nat) (ce : List (List Int)) (ps qs : List Plb) (ha : RdL w g a ce ps) (hb : RdL w g' b ce qs) (hn : ce.length ≤ 1048576) (hz : ∀ i, i < ce.length → (ce.getD i []).length ≤ 1048576) :
    Calls Tryz.prog 25 #[.slice a ce.length ca, .slice b ce.length cb] w fun e w' => e = .returned (.bool true) ∧ Below w.heap.size w w' := by
  obtain ⟨d1, hd1, hrow1⟩ := rowB
  have e0 : ((ce.length : Int) != (ce.length : Int)) = false := by simp
  go_enter Tryz.func25, Tryz.ntmps25
  go_wp2
  go_loopw [5] (fun i wr => ∃ (k : Nat), k ≤ ce.length ∧ i = .int .i64 k ∧ Below w.heap.size w wr) (fun i _ => ce.length - (intOf i).toNat)
  case atStart => exact ⟨0, Nat.zero_le _, rfl, Below.refl _ _⟩
  case round =>
    obtain ⟨k, hk, rfl, nb⟩ := hrel
    by_cases hlt : k < ce.length
    · obtain ⟨off, rfl, hc⟩ := (ha.up nb).r (by omega)
      obtain ⟨off', rfl, hc'⟩ := (hb.up nb).r (by omega)
      have t0 : (k : Int) < (ce.length : Int) := by omega
      have t1 : decide ((k : Int) < (ce.length : Int)) = true := decide_eq_true t0
      have c1 := hc k hlt
      have c2 := hc' k hlt
      have EB := hide (fun (W : World) (n : Below wr.heap.size wr W) => eqBlob_same W _ _ _ _ (ps.getD k plb0).c (qs.getD k plb0).c _ (((ha.up nb).b k hlt).up n) (((hb.up nb).b k hlt).up n) (hz k hlt))
      have NB := hide nb
      clear hc hc' nb
      generalize (ps.getD k plb0).a = pa at *
      generalize (ps.getD k plb0).c = pc at *
      generalize (qs.getD k plb0).a = qa at *
      generalize (qs.getD k plb0).c = qc at *
      generalize (ce.getD k []).length = m at *
      go_upto_region 6 with fail
      refine region_end 10 (fun i => [Fact.eq (.slice (some ⟨g, off, none⟩) ce.length ca), Fact.eq (.int .i64 (k : Int)), Fact.eq (.pointer (some ⟨g, off + k, none⟩)), Fact.eq (.agg #[.slice pa m pc]), Fact.eq (.slice (some ⟨g', off', none⟩) ce.length cb), Fact.eq (.int .i64 (k : Int)), Fact.eq (.pointer (some ⟨g', off' + k, none⟩)), Fact.eq (.agg #[.slice qa m qc]), Fact.eq (.bool true), Fact.eq (.bool false)].getD i Fact.no) (by kernel_rfl) (by kernel_rfl) rfl ?_ ?_
      · intro i hi
        obtain rfl | rfl | rfl | rfl | rfl | rfl | rfl | rfl | rfl | rfl : i = 0 ∨ i = 1 ∨ i = 2 ∨ i = 3 ∨ i = 4 ∨ i = 5 ∨ i = 6 ∨ i = 7 ∨ i = 8 ∨ i = 9 := by omega
        · refine step_pure rfl fun A ww hb hw hf => ?_
          have e1 : A.tmps[0]?.getD undef = .slice (some ⟨g, off, none⟩) ce.length ca := gdv (hb.2.2 0 (by kernel_rfl))
          exact ⟨.slice (some ⟨g, off, none⟩) ce.length ca, by simp [go_sem, e1], rfl⟩
        · refine step_pure rfl fun A ww hb hw hf => ?_
          have e1 : A.tmps[5]?.getD undef = .int .i64 (k : Int) := gdv (hb.2.2 5 (by kernel_rfl))
          exact ⟨.int .i64 (k : Int), by simp [go_sem, e1], rfl⟩
        · refine step_pure rfl fun A ww hb hw hf => ?_
          have e1 : A.tmps[17]?.getD undef = .slice (some ⟨g, off, none⟩) ce.length ca := gdv (hf 0 17 (by kernel_rfl))
          have e2 : A.tmps[18]?.getD undef = .int .i64 (k : Int) := gdv (hf 1 18 (by kernel_rfl))
          exact ⟨.pointer (some ⟨g, off + k, none⟩), by simp [go_sem, e1, e2, hlt], rfl⟩
        · refine step_load rfl 61 (.tmp 19) rfl d1 1 hd1 hrow1 iB fun A ww hb hw hf => ⟨_, _, [.slice pa m pc], hf 2 19 (by kernel_rfl), range_one ((hw.cell (block_lt_of_cell c1)).trans c1), rfl, rfl⟩
        · refine step_pure rfl fun A ww hb hw hf => ?_
          have e1 : A.tmps[1]?.getD undef = .slice (some ⟨g', off', none⟩) ce.length cb := gdv (hb.2.2 1 (by kernel_rfl))
          exact ⟨.slice (some ⟨g', off', none⟩) ce.length cb, by simp [go_sem, e1], rfl⟩
        · refine step_pure rfl fun A ww hb hw hf => ?_
          have e1 : A.tmps[5]?.getD undef = .int .i64 (k : Int) := gdv (hb.2.2 5 (by kernel_rfl))
          exact ⟨.int .i64 (k : Int), by simp [go_sem, e1], rfl⟩
        · refine step_pure rfl fun A ww hb hw hf => ?_
          have e1 : A.tmps[21]?.getD undef = .slice (some ⟨g', off', none⟩) ce.length cb := gdv (hf 4 21 (by kernel_rfl))
          have e2 : A.tmps[22]?.getD undef = .int .i64 (k : Int) := gdv (hf 5 22 (by kernel_rfl))
          exact ⟨.pointer (some ⟨g', off' + k, none⟩), by simp [go_sem, e1, e2, hlt], rfl⟩
        · refine step_load rfl 61 (.tmp 23) rfl d1 1 hd1 hrow1 iB fun A ww hb hw hf => ⟨_, _, [.slice qa m qc], hf 6 23 (by kernel_rfl), range_one ((hw.cell (block_lt_of_cell c2)).trans c2), rfl, rfl⟩
        · refine step_callv rfl 41 _ _ rfl (by kernel_rfl) fun A ww hb hw hf => ?_
          have e1 : A.tmps.getD 20 undef = .agg #[.slice pa m pc] := hf 3 20 (by kernel_rfl)
          have e2 : A.tmps.getD 24 undef = .agg #[.slice qa m qc] := hf 7 24 (by kernel_rfl)
          show Calls Tryz.prog 41 #[A.tmps.getD 20 undef, A.tmps.getD 24 undef] ww _
          rw [e1, e2]
          exact (EB.out ww hw).mono (by rintro r w' ⟨rfl, n⟩; exact ⟨_, rfl, n, rfl⟩)
        · refine step_pure rfl fun A ww hb hw hf => ?_
          have e1 : A.tmps[25]?.getD undef = .bool true := gdv (hf 8 25 (by kernel_rfl))
          exact ⟨.bool false, by simp [go_sem, e1], rfl⟩
      intro A W hb' hw hF
      have e2 := hF 9 26 (by kernel_rfl)
      obtain ⟨vs, hvs⟩ : ∃ vs : Nat → Value, ∀ d, A.tmps.getD d undef = vs d := ⟨_, fun _ => rfl⟩
      rw [hvs] at e2
      rw [puts_of (md := .any) (k := 10) (by kernel_rfl) rfl hb' vs hvs]
      have e3 : vs 26 = .bool false := e2
      have NW := hide (nxt NB.out hw)
      clear hb' hF hvs e2 c1 c2 EB hw NB
      simp only [puts, e3, Act.put, List.setIfInBounds_toArray, List.set_cons_succ, List.set_cons_zero]
      clear e3
      go_wp2
      go_roundw
      case rel => exact ⟨k + 1, by omega, by go_num, NW.out⟩
      case measure => simp [intOf]; omega
    · obtain rfl : k = ce.length := by omega
      have NB := hide nb
      clear nb ha hb
      go_wp2
      go_ret
      exact ⟨rfl, NB.out⟩
/-- What is left of a number behind a count, or -1. -/
def Lft (L : Int) (n : Int) (r : Int) : Prop := (L < n ∧ r = -1) ∨ (n ≤ L ∧ r = L - n)
set_option maxHeartbeats 1000000 in
theorem szByteS_r (w : World) (a : Option Addr) (c n : Nat) (L : Int) (hn : n ≤ 9223372036854775807) (h0 : 0 ≤ L) (h1 : L ≤ 1048576) :
    Calls Tryz.prog 13 #[.slice a n c, .int .i64 L] w fun e w' => (∃ r, e = .returned (.int .i64 r) ∧ Lft L n r) ∧ w' = w := by
  have s1 : IntKind.i64.wrap (L - (n : Int)) = L - (n : Int) := by rw [IntKind.wrap_i64]; omega
  by_cases h : L < (n : Int)
  · have t1 : decide (L - (n : Int) < 0) = true := decide_eq_true (by omega)
    have H := hide h
    clear h
    go_enter Tryz.func13, Tryz.ntmps13
    go_wp2
    go_ret
    exact ⟨⟨_, rfl, .inl ⟨H.out, rfl⟩⟩, rfl⟩
  · have t1 : decide (L - (n : Int) < 0) = false := decide_eq_false (by omega)
    have H := hide h
    clear h
    go_enter Tryz.func13, Tryz.ntmps13
    go_wp2
    go_ret
    exact ⟨⟨_, rfl, .inr ⟨by have := H.out; omega, rfl⟩⟩, rfl⟩
set_option maxHeartbeats 1000000 in
theorem szBlob_r (w : World) (a : Option Addr) (c n : Nat) (L : Int) (hn : n ≤ 9223372036854775807) (h0 : 0 ≤ L) (h1 : L ≤ 1048576) :
    Calls Tryz.prog 28 #[.agg #[.slice a n c], .int .i64 L] w fun e w' => (∃ r, e = .returned (.int .i64 r) ∧ Lft L n r) ∧ Below w.heap.size w w' := by
  have n1 : Hid (Below w.heap.size w (w.alloc (.cells #[.slice a n c] 56))) := (Below.refl _ _).alloc (Nat.le_refl _) _
  have SZ := hide (szByteS_r (w.alloc (.cells #[.slice a n c] 56)) a c n L hn h0 h1)
  go_enter Tryz.func28, Tryz.ntmps28
  go_wp2_with fail
  refine SZ.out.mono ?_
  rintro e w1 ⟨⟨r, rfl, hr⟩, hw⟩
  subst hw
  rcases hr with ⟨h2, rfl⟩ | ⟨h2, rfl⟩
  · have H := hide h2
    clear h2
    go_wp2
    go_ret
    exact ⟨⟨_, rfl, .inl ⟨H.out, rfl⟩⟩, n1.out⟩
  · have t1 : decide (L - (n : Int) < 0) = false := decide_eq_false (by omega)
    have H := hide h2
    clear h2
    go_wp2
    go_ret
    exact ⟨⟨_, rfl, .inr ⟨H.out, rfl⟩⟩, n1.out⟩
def sumB (ce : List (List Int)) : Nat := ce.foldr (fun l s => l.length + s) 0
theorem sumB_app (x y : List (List Int)) : sumB (x ++ y) = sumB x + sumB y := by
  induction x with
  | nil => simp [sumB]
  | cons a x ih => show a.length + sumB (x ++ y) = a.length + sumB x + sumB y; rw [ih]; omega
theorem sumB_take {ls : List (List Int)} {k : Nat} (h : k < ls.length) : sumB (ls.take (k + 1)) = sumB (ls.take k) + (ls.getD k []).length := by
  rw [List.take_succ_eq_append_getElem h, sumB_app, List.getD_eq_getElem?_getD, List.getElem?_eq_getElem h]
  simp [sumB]
theorem sumB_le {ls : List (List Int)} (k : Nat) : sumB (ls.take k) ≤ sumB ls := by
  have := sumB_app (ls.take k) (ls.drop k)
  rw [List.take_append_drop] at this
  omega
theorem sumB_get {ls : List (List Int)} {k : Nat} (h : k < ls.length) : (ls.getD k []).length ≤ sumB ls := by
  have := sumB_take h
  have := sumB_le (ls := ls) (k + 1)
  omega
set_option maxHeartbeats 2000000 in
theorem szBlobS_r (w : World) (g : Nat) (a : Option Addr) (c : Nat) (ce : List (List Int)) (ps : List Plb) (L : Int) (hr : RdL w g a ce ps) (hn : ce.length ≤ 9223372036854775807) (hz : ∀ i, i < ce.length → (ce.getD i []).length ≤ 9223372036854775807) (h0 : 0 ≤ L) (h1 : L ≤ 1048576) :
    Calls Tryz.prog 15 #[.slice a ce.length c, .int .i64 L] w fun e w' => (∃ r, e = .returned (.int .i64 r) ∧ Lft L ((ce.length : Int) + (sumB ce : Int)) r) ∧ Below w.heap.size w w' := by
  have s1 : IntKind.i64.wrap (L - (ce.length : Int)) = L - (ce.length : Int) := by rw [IntKind.wrap_i64]; omega
  by_cases hl : L < (ce.length : Int)
  · have t1 : decide (L - (ce.length : Int) < 0) = true := decide_eq_true (by omega)
    have H := hide hl
    clear hl hr
    go_enter Tryz.func15, Tryz.ntmps15
    go_wp2
    go_ret
    exact ⟨⟨_, rfl, .inl ⟨by have := H.out; omega, rfl⟩⟩, Below.refl _ _⟩
  · have t1 : decide (L - (ce.length : Int) < 0) = false := decide_eq_false (by omega)
    go_enter Tryz.func15, Tryz.ntmps15
    go_wp2
    go_loopw [1, 5] (fun l i wr => ∃ (k : Nat), k ≤ ce.length ∧ i = .int .i64 k ∧ l = .int .i64 (L - (ce.length : Int) - (sumB (ce.take k) : Int)) ∧ 0 ≤ L - (ce.length : Int) - (sumB (ce.take k) : Int) ∧ Below w.heap.size w wr) (fun _ i _ => ce.length - (intOf i).toNat)
    case atStart => exact ⟨0, Nat.zero_le _, rfl, by rw [List.take_zero]; simp [sumB], by rw [List.take_zero]; simp [sumB]; omega, Below.refl _ _⟩
    case round =>
      obtain ⟨k, hk, rfl, rfl, hpos, nb⟩ := hrel
      by_cases hlt : k < ce.length
      · obtain ⟨off, rfl, hc⟩ := (hr.up nb).r (by omega)
        have t0 : (k : Int) < (ce.length : Int) := by omega
        have c1 := hc k hlt
        have ST := hide (sumB_take hlt)
        have SL := hide (sumB_le (ls := ce) (k + 1))
        have SZ := hide (szBlob_r wr (ps.getD k plb0).a (ps.getD k plb0).c (ce.getD k []).length (L - (ce.length : Int) - (sumB (ce.take k) : Int)) (hz k hlt) hpos (by omega))
        have NB := hide nb
        clear hc nb
        generalize (ps.getD k plb0).a = pa at *
        generalize (ps.getD k plb0).c = pc at *
        generalize (ce.getD k []).length = m at *
        obtain ⟨q, hq⟩ : ∃ q : Int, q = L - (ce.length : Int) - (sumB (ce.take k) : Int) := ⟨_, rfl⟩
        rw [← hq] at SZ hpos ⊢
        have HQ := hide hq
        clear hq
        go_wp2_with fail
        refine SZ.out.mono ?_
        rintro e w1 ⟨⟨r, rfl, hr1⟩, n1⟩
        have N1 := hide (nxt NB.out n1)
        clear SZ NB n1
        rcases hr1 with ⟨h2, rfl⟩ | ⟨h2, rfl⟩
        · have FA : Hid (L < (ce.length : Int) + (sumB ce : Int)) := by
            have := ST.out; have := SL.out; have := HQ.out
            show L < _
            omega
          clear h2 ST SL HQ
          go_wp2
          go_ret
          exact ⟨⟨_, rfl, .inl ⟨FA.out, rfl⟩⟩, N1.out⟩
        · have t3 : decide (q - (m : Int) < 0) = false := decide_eq_false (by omega)
          have EQ : Hid (q - (m : Int) = L - (ce.length : Int) - (sumB (ce.take (k + 1)) : Int)) := by
            have := ST.out; have := HQ.out
            show _ = _
            omega
          have GE : Hid (0 ≤ q - (m : Int)) := by show (0 : Int) ≤ _; omega
          clear h2 ST SL HQ hpos
          go_wp2
          go_roundw
          case rel => exact ⟨k + 1, by omega, by go_num, by rw [EQ.out], by rw [← EQ.out]; exact GE.out, N1.out⟩
          case measure => simp [intOf]; omega
      · obtain rfl : k = ce.length := by omega
        rw [List.take_length] at hpos ⊢
        have NB := hide nb
        have HP := hide hpos
        clear nb hr hpos
        go_wp2
        go_ret
        exact ⟨⟨_, rfl, .inr ⟨by have := HP.out; omega, by omega⟩⟩, NB.out⟩
end Go.Proofs.YtpopaifcanlkeaaGreat
