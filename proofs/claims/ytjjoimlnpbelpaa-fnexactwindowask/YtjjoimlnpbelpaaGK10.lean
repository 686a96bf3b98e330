import Derived.Test.YtjjoimlnpbelpaaGK8
import Derived.Test.YtjjoimlnpbelpaaGK9
import Derived.Test.YtjjoimlnpbelpaaGK6

/-
  Windows that are asked: a window that the law made, as a row that it owns (written by gens/wat.py).
-/
namespace Go.Proofs.Ytjjoimlnpbelpaa
open Go Go.RowKit

set_option maxRecDepth 100000 in
def ofM (ms : List Mrk) : List (Int × List Int) := ms.map fun m => (m.un, m.id)
set_option maxRecDepth 100000 in
theorem ofM_len (ms : List Mrk) : (ofM ms).length = ms.length := by simp [ofM]
set_option maxRecDepth 100000 in
theorem ofM_get {ms : List Mrk} {i : Nat} (h : i < ms.length) : (ofM ms).getD i (0, []) = ((ms.getD i mrk0).un, (ms.getD i mrk0).id) := by
  unfold ofM
  rw [List.getD_eq_getElem?_getD, List.getElem?_map, List.getElem?_eq_getElem h, List.getD_eq_getElem?_getD, List.getElem?_eq_getElem h]
  rfl
set_option maxRecDepth 100000 in
/-- A new row of marks, the first k of them laid, each list in a block behind the one ahead of it. -/
def RowK3 (B : Nat) (wr : World) (g : Nat) (ms : List Mrk) (k : Nat) (vs : List Value) : Prop := vs.length = ms.length * 2 ∧ RwC wr g vs 46 ∧ ∃ Gs : List Nat, Gs.length = k ∧ (∀ j, j < k → (vs[j * 2]? = some (.slice (some ⟨Gs.getD j 0, 0, none⟩) (ms.getD j mrk0).id.length (ms.getD j mrk0).id.length) ∧ vs[j * 2 + 1]? = some (.int .i64 (ms.getD j mrk0).un)) ∧ Blk wr (Gs.getD j 0) .u8 (ms.getD j mrk0).id ∧ B < Gs.getD j 0 ∧ Gs.getD j 0 < wr.heap.size) ∧ ∀ i j, i < j → j < k → Gs.getD i 0 < Gs.getD j 0
set_option maxRecDepth 100000 in
theorem RowK3.nil {B g : Nat} {wr : World} {ms : List Mrk} {vs : List Value} (h1 : vs.length = ms.length * 2) (h2 : RwC wr g vs 46) : RowK3 B wr g ms 0 vs := ⟨h1, h2, [], rfl, fun j hj => absurd hj (by omega), fun i j _ hj => absurd hj (by omega)⟩
set_option maxRecDepth 100000 in
theorem RowK3.step {B g k : Nat} {wr w1 : World} {ms : List Mrk} {vs : List Value} (h : RowK3 B wr g ms k vs) (hk : k < ms.length) (hg : g = B) (n : Below wr.heap.size wr w1) {G : Nat} (hG : wr.heap.size ≤ G) (b : Blk w1 G .u8 (ms.getD k mrk0).id) :
    RowK3 B (w1.setCells g (k * 2) [.slice (some ⟨G, 0, none⟩) (ms.getD k mrk0).id.length (ms.getD k mrk0).id.length, .int .i64 (ms.getD k mrk0).un]) g ms (k + 1) ((vs.set (k * 2) (.slice (some ⟨G, 0, none⟩) (ms.getD k mrk0).id.length (ms.getD k mrk0).id.length)).set (k * 2 + 1) (.int .i64 (ms.getD k mrk0).un)) := by
  obtain ⟨h1, h2, Gs, hl, h3, h4⟩ := h
  have hgl := h2.lt
  have O := only_setG w1 g [.slice (some ⟨G, 0, none⟩) (ms.getD k mrk0).id.length (ms.getD k mrk0).id.length, .int .i64 (ms.getD k mrk0).un] (k * 2)
  have L1 : ∀ j, j < k → (Gs ++ [G]).getD j 0 = Gs.getD j 0 := fun j hj => by
    rw [List.getD_eq_getElem?_getD, List.getElem?_append_left (by omega), List.getD_eq_getElem?_getD]
  have L2 : (Gs ++ [G]).getD k 0 = G := by rw [← hl]; simp
  have sz := n.size
  have hGl : G < w1.heap.size := b.lt
  refine ⟨by simpa using h1, ((h2.up n).set (k * 2) _).set (k * 2 + 1) _, Gs ++ [G], by simp [hl], fun j hj => ?_, fun i j hij hj => ?_⟩
  · by_cases e : j = k
    · subst e
      rw [L2, O.size]
      refine ⟨⟨?_, ?_⟩, b.of_block (O.block G (by omega)), by omega, hGl⟩
      · rw [List.getElem?_set_ne (by omega), List.getElem?_set_self (by omega)]
      · rw [List.getElem?_set_self (by rw [List.length_set]; omega)]
    · obtain ⟨⟨e1, e2⟩, b1, l1, l2⟩ := h3 j (by omega)
      rw [L1 j (by omega), O.size]
      refine ⟨⟨?_, ?_⟩, (b1.up n).of_block (O.block _ (by omega)), l1, by omega⟩
      · rw [List.getElem?_set_ne (by omega), List.getElem?_set_ne (by omega)]; exact e1
      · rw [List.getElem?_set_ne (by omega), List.getElem?_set_ne (by omega)]; exact e2
  · rw [L1 i (by omega)]
    by_cases e : j = k
    · subst e
      rw [L2]
      have := (h3 i hij).2.2.2
      omega
    · rw [L1 j (by omega)]
      exact h4 i j hij (by omega)
set_option maxRecDepth 100000 in
theorem RowK3.row {g : Nat} {wr : World} {ms : List Mrk} {vs : List Value} (h : RowK3 g wr g ms ms.length vs) (hn : ms.length ≤ 1048576) : ∃ bs, IRow wr g (.slice (some ⟨g, 0, none⟩) ms.length ms.length) (ofM ms) bs := by
  obtain ⟨h1, h2, Gs, hl, h3, h4⟩ := h
  obtain ⟨bs, hbs⟩ : ∃ bs : List Plc, bs = (List.range ms.length).map fun j => (⟨some ⟨Gs.getD j 0, 0, none⟩, (ms.getD j mrk0).id.length, Gs.getD j 0⟩ : Plc) := ⟨_, rfl⟩
  have bl : bs.length = ms.length := by rw [hbs]; simp
  have e : ∀ i, i < ms.length → bs.getD i plc0 = ⟨some ⟨Gs.getD i 0, 0, none⟩, (ms.getD i mrk0).id.length, Gs.getD i 0⟩ := fun i hi => by
    rw [hbs, List.getD_eq_getElem?_getD]
    simp [hi]
  have ev : vs = itCs (ofM ms) bs := by
    refine List.ext_getElem? fun q => ?_
    have il := itCs_len (ofM ms) bs (by rw [bl, ofM_len])
    rw [ofM_len] at il
    by_cases hq : q < ms.length * 2
    · have hj : q / 2 < ms.length := by omega
      rcases Nat.mod_two_eq_zero_or_one q with hm | hm
      · have eq : q = 2 * (q / 2) := by omega
        rw [eq, itCs_at0 (ofM ms) bs (q / 2) (by rw [bl, ofM_len]) (by rw [ofM_len]; exact hj), e _ hj, ofM_get hj, Nat.mul_comm 2 (q / 2)]
        exact (h3 _ hj).1.1
      · have eq : q = 2 * (q / 2) + 1 := by omega
        rw [eq, itCs_at1 (ofM ms) bs (q / 2) (by rw [bl, ofM_len]) (by rw [ofM_len]; exact hj), ofM_get hj, Nat.mul_comm 2 (q / 2)]
        exact (h3 _ hj).1.2
    · rw [List.getElem?_eq_none (by omega), List.getElem?_eq_none (by omega)]
  refine ⟨bs, ⟨⟨?_, ?_⟩, by rw [bl, ofM_len], fun i hi => ?_, fun i hi _ => ?_, fun i j hi hj hne _ _ => ?_⟩⟩
  · rw [itCs_len _ _ (by rw [bl, ofM_len])]
  · refine .inr ⟨g, ms.length, vs.toArray, by rw [ofM_len], Nat.le_refl _, h2, by rw [ofM_len]; exact Nat.le_refl _, by unfold maxLen; omega, by simpa using h1, ?_⟩
    rw [ofM_len, ← ev]
    show vs.take _ = vs
    exact List.take_of_length_le (by omega)
  · rw [ofM_len] at hi
    rw [ofM_get hi, e i hi]
    exact ⟨(h3 i hi).2.1.own0, (fun h => by cases h), Nat.le_refl _⟩
  · rw [ofM_len] at hi
    rw [e i hi]
    have := (h3 i hi).2.2.1
    refine ⟨by simp only; omega, fun h => ?_⟩
    have : g = Gs.getD i 0 := by simpa [Value.ownBlock] using h
    omega
  · rw [ofM_len] at hi hj
    rw [e i hi, e j hj]
    simp only
    rcases Nat.lt_or_gt_of_ne hne with h | h
    · have := h4 i j h hj
      omega
    · have := h4 j i h hi
      omega
set_option maxRecDepth 100000 in
set_option maxHeartbeats 2000000 in
theorem toMarkS_own (w : World) (g : Nat) (a : Option Addr) (c : Nat) (ms : List Mrk) (ps : List Plm) (hr : RdK w g a ms ps) (hn : ms.length ≤ 1048576) (hz : ∀ i, i < ms.length → (ms.getD i mrk0).id.length ≤ 1048576) :
    Calls Try.prog 21 #[.slice a ms.length c] w fun e w' => (e = .returned (.slice (some ⟨w.heap.size, 0, none⟩) ms.length ms.length) ∧ ∃ bs, IRow w' w.heap.size (.slice (some ⟨w.heap.size, 0, none⟩) ms.length ms.length) (ofM ms) bs) ∧ Below w.heap.size w w' := by
  obtain ⟨i0, hi, hz0, hz1, hz2⟩ : ∃ i0, Try.prog.info? 46 = some i0 ∧ i0.zero = some (.agg #[.slice none 0 0, .int .i64 0]) ∧ i0.size = 2 ∧ i0.bytes = 32 := by
    have h := infoMk
    cases hq : Try.prog.info? 46 with
    | none => rw [hq] at h; simp at h
    | some i0 =>
      rw [hq] at h
      simp only [Option.map_some, Option.some.injEq, Prod.mk.injEq] at h
      exact ⟨i0, rfl, h.1, h.2.1, h.2.2⟩
  go_enter Try.func21, Try.ntmps21
  go_wp2_with (at_make; refine wpList_make_full _ rfl _ _ 27 rfl w.heap.size 46 i0 (.agg #[.slice none 0 0, .int .i64 0]) 2 Try.underlying27 hi hz0 hz1 .i64 .i64 _ _ ms.length rfl rfl rfl rfl (by rw [hz2]; omega) (by unfold maxLen; omega) (Nat.le_refl _) ?_; intro w1 hown hgrow)
  obtain ⟨v0, hv0, hB0⟩ := RwC.of_made2 hown
  have hN0 : Below w.heap.size w w1 := (Below.refl _ _).grown hgrow (Nat.le_refl _) (by simp)
  clear hown hgrow
  go_loopw [4] (fun i wr => ∃ (k : Nat) (vs : List Value), k ≤ ms.length ∧ i = .int .i64 k ∧ RowK3 w.heap.size wr w.heap.size ms k vs ∧ Below w.heap.size w wr) (fun i _ => ms.length - (intOf i).toNat)
  case atStart => exact ⟨0, _, Nat.zero_le _, rfl, RowK3.nil hv0 hB0, hN0⟩
  case round =>
    obtain ⟨k, vs, hk, rfl, hR, hN⟩ := hrel
    clear hB0 hN0 hv0
    by_cases hlt : k < ms.length
    · obtain ⟨off, rfl, hc⟩ := (hr.up hN).r (by omega)
      have t0 : (k : Int) < (ms.length : Int) := by omega
      have c1 := (hc k hlt).1
      have c2 := (hc k hlt).2
      have TB := hide (toMark_any wr (ms.getD k mrk0).un _ _ (ps.getD k plm0).c _ ((hr.up hN).b k hlt) (hz k hlt))
      have HS := hide (fun (w1 : World) (n : Below wr.heap.size wr w1) G hG b => RowK3.step (w1 := w1) (G := G) hR hlt rfl n hG b)
      have hR2 := hide hR.2.1
      have hlen := hide hR.1
      have hlg := hR.2.1.lt
      have HN := hide hN
      clear hc hR hN
      generalize (ps.getD k plm0).a = pa at *
      generalize (ps.getD k plm0).c = pc at *
      generalize (ms.getD k mrk0).id = x at *
      generalize (ms.getD k mrk0).un = un at *
      go_wp2_with fail
      refine TB.out.mono ?_
      rintro e w2 ⟨G, rfl, B, hG, n2⟩
      have T2 := hR2.out.up n2
      have TH : w2.there w.heap.size (k * 2) 2 := fun j hj => by
        rw [T2.cell (k * 2 + j), T2.free (k * 2 + j)]
        exact ⟨by rw [List.getElem?_eq_getElem (by rw [hlen.out]; omega)]; simp, rfl⟩
      have ST := hide (HS.out w2 n2 G (by omega) B)
      have N2 := hide (nxt HN.out n2)
      have ON := oneMk (some ⟨G, 0, none⟩) x.length x.length un
      clear TB HS hR2 hlen T2 B n2 HN hG
      go_wp2_with (first | (refine wpList_store_mid rfl 46 (.tmp 21) (.tmp 20) rfl w.heap.size (k * 2) #[.slice (some ⟨G, 0, none⟩) x.length x.length, .int .i64 un] rfl rfl TH iMk ON ?_) | fail)
      go_roundw
      case rel => exact ⟨k + 1, _, by omega, by go_num, ST.out, N2.out.trans ((only_setG w2 w.heap.size _ (k * 2)).below (Nat.le_refl _))⟩
      case measure => simp [intOf]; omega
    · obtain rfl : k = ms.length := by omega
      have RD := hide (hR.row hn)
      have HN := hide hN
      clear hR hN hr
      go_wp2
      go_ret
      obtain ⟨bs, h1⟩ := RD.out
      exact ⟨⟨rfl, bs, h1⟩, HN.out⟩
set_option maxRecDepth 100000 in
theorem ownMarkS (w : World) (g : Nat) (a : Option Addr) (c : Nat) (ms : List Mrk) (ps : List Plm) (hr : RdK w g a ms ps) (hn : ms.length ≤ 1048576) (hz : ∀ i, i < ms.length → (ms.getD i mrk0).id.length ≤ 1048576) :
    Calls Try.prog 21 #[.slice a ms.length c] w fun e w' => ∃ p qs, e = .returned (.slice (some ⟨p, 0, none⟩) ms.length ms.length) ∧ IRow w' w.heap.size (.slice (some ⟨p, 0, none⟩) ms.length ms.length) (ofM ms) qs ∧ Below w.heap.size w w' :=
  (toMarkS_own w g a c ms ps hr hn hz).mono (by rintro e w' ⟨⟨rfl, bs, R⟩, n⟩; exact ⟨_, bs, rfl, R, n⟩)
set_option maxRecDepth 100000 in
set_option maxHeartbeats 16000000 in
theorem toWindow_own (w : World) (wd : Int) (g : Nat) (a : Option Addr) (c : Nat) (ms : List Mrk) (ps : List Plm) (hr : RdK w g a ms ps) (hn : ms.length ≤ 1048576) (hz : ∀ i, i < ms.length → (ms.getD i mrk0).id.length ≤ 1048576) :
    Calls Try.prog 6 #[.agg #[.int .i64 wd, .slice a ms.length c]] w fun e w' => ∃ p qs, e = .returned (.agg #[.int .i64 wd, .slice (some ⟨p, 0, none⟩) ms.length ms.length]) ∧ IRow w' w.heap.size (.slice (some ⟨p, 0, none⟩) ms.length ms.length) (ofM ms) qs ∧ Below w.heap.size w w' := by
  have T0 := TMs.new w 24 29 [.int .i64 wd, .slice a ms.length c] [.int .i64 0, .slice none 0 0]
  obtain ⟨d1, hd1, hrow1⟩ := rowWd
  go_enter Try.func6, Try.ntmps6
  go_upto_region 2 with fail
  have T0 : TMs w (((w.alloc (.cells #[.int .i64 wd, .slice a ms.length c] 24)).alloc (.cells #[.int .i64 0, .slice none 0 0] 29)).alloc (.cells #[.int .i64 0, .slice none 0 0] 29)) 24 29 [.int .i64 wd, .slice a ms.length c] [.int .i64 0, .slice none 0 0] [.int .i64 0, .slice none 0 0] := T0
  generalize ((w.alloc (.cells #[.int .i64 wd, .slice a ms.length c] 24)).alloc (.cells #[.int .i64 0, .slice none 0 0] 29)).alloc (.cells #[.int .i64 0, .slice none 0 0] 29) = X0 at *
  have q0 : X0.cell? ⟨w.heap.size, 0, none⟩ = some (.int .i64 wd) := T0.S.cell 0
  have q1 : X0.cell? ⟨w.heap.size + 1 + 1, 0, none⟩ = some (.int .i64 0) := T0.T.cell 0
  have q2 := T0.T.free 0
  have T6 : TMs w (X0.setCell ⟨w.heap.size + 1 + 1, 0, none⟩ (.int .i64 wd)) 24 29 [.int .i64 wd, .slice a ms.length c] [.int .i64 0, .slice none 0 0] [.int .i64 wd, .slice none 0 0] := T0.set 0 _
  go_upto_region 3 with fail
  clear q0 q1 q2 T0
  generalize X0.setCell ⟨w.heap.size + 1 + 1, 0, none⟩ (.int .i64 wd) = X1 at *
  have T0 := T6
  clear T6
  have qS : X1.cell? ⟨w.heap.size, 1, none⟩ = some (.slice a ms.length c) := T0.S.cell 1
  have TB := hide (ownMarkS X1 g a c ms ps (hr.up T0.N) hn hz)
  go_wp2_with fail
  refine TB.out.mono ?_
  rintro e V1 ⟨p, qs, rfl, K, m⟩
  have lt := T0.T.lt
  have T2 := T0.up m
  replace K := K.base (show (w.heap.size + 1 + 1 + 1) ≤ _ by omega)
  clear TB qS T0 m
  have qT : V1.cell? ⟨w.heap.size + 1 + 1, 1, none⟩ = some (.slice none 0 0) := T2.T.cell 1
  have qF := T2.T.free 1
  have T3 : TMs w (V1.setCell ⟨w.heap.size + 1 + 1, 1, none⟩ (.slice (some ⟨p, 0, none⟩) ms.length ms.length)) 24 29 [.int .i64 wd, .slice a ms.length c] [.int .i64 0, .slice none 0 0] [.int .i64 wd, .slice (some ⟨p, 0, none⟩) ms.length ms.length] := T2.set 1 _
  replace K := K.of (fun k hk hB => (Only.setCell V1 (w.heap.size + 1 + 1) 1 (.slice (some ⟨p, 0, none⟩) ms.length ms.length)).block k (by omega))
  go_upto_region 4 with fail
  clear T2 qT qF lt
  generalize V1.setCell ⟨w.heap.size + 1 + 1, 1, none⟩ (.slice (some ⟨p, 0, none⟩) ms.length ms.length) = X2 at *
  have T0 := T3
  clear T3
  have RG := T0.T.rangeG
  have TH := T0.U.thereG
  have RR := World.rangeAt_setCells_same X2 (w.heap.size + 1) 0 [.int .i64 wd, .slice (some ⟨p, 0, none⟩) ms.length ms.length] TH
  have OQ := only_setG X2 (w.heap.size + 1) [.int .i64 wd, .slice (some ⟨p, 0, none⟩) ms.length ms.length] 0
  have N8 : Hid (Below w.heap.size w (X2.setCells (w.heap.size + 1) 0 [.int .i64 wd, .slice (some ⟨p, 0, none⟩) ms.length ms.length])) := T0.N.trans (OQ.below (by omega))
  have DK := hide ((K.of (fun k hk hB => OQ.block k (by omega))).base (show w.heap.size ≤ _ by omega))
  have ON := oneWd wd (some ⟨p, 0, none⟩) ms.length ms.length
  clear OQ T0 K
  go_wp2_with (first
    | (refine wpList_load_mid rfl 29 (.tmp 3) rfl (w.heap.size + 1 + 1) 0 rfl [.int .i64 wd, .slice (some ⟨p, 0, none⟩) ms.length ms.length] d1 RG hd1 hrow1 iWd ?_)
    | (refine wpList_store_mid rfl 29 (.tmp 2) (.tmp 11) rfl (w.heap.size + 1) 0 #[.int .i64 wd, .slice (some ⟨p, 0, none⟩) ms.length ms.length] rfl rfl ?hth ?hin ?hon ?_))
  case hth => exact TH
  case hin => exact iWd
  case hon => exact ON
  exact bodyPost_ret (v := .agg #[.int .i64 wd, .slice (some ⟨p, 0, none⟩) ms.length ms.length]) (results_cellG Try.results6 _ _ (w.heap.size + 1) _ d1 rfl RR hd1 hrow1 iWd) rfl ⟨p, qs, rfl, DK.out, N8.out⟩
end Go.Proofs.Ytjjoimlnpbelpaa

/-
  Windows: the ends of marks looked through.
-/
namespace Go.Proofs.Ytjjoimlnpbelpaa
open Go Go.RowKit

def utO (u : Int) : Bool := decide (u < 0) || decide (253402473599 < u)
def utA (ms : List Mrk) : Bool := ms.any fun m => utO m.un
theorem utA_yes {ms : List Mrk} {k : Nat} (hk : k < ms.length) (h : utO (ms.getD k mrk0).un = true) : utA ms = true := by
  unfold utA
  rw [List.any_eq_true]
  refine ⟨ms.getD k mrk0, ?_, h⟩
  rw [List.getD_eq_getElem?_getD, List.getElem?_eq_getElem hk]
  exact List.getElem_mem hk
theorem utA_no {ms : List Mrk} (h : ∀ j, j < ms.length → utO (ms.getD j mrk0).un = false) : utA ms = false := by
  unfold utA
  rw [List.any_eq_false]
  intro b hb
  obtain ⟨i, hi, e⟩ := List.getElem_of_mem hb
  have := h i hi
  rw [List.getD_eq_getElem?_getD, List.getElem?_eq_getElem hi] at this
  simpa [← e] using this
def wdO (n : Int) : Bool := decide (0 ≤ n) && decide (n ≤ 86400)
theorem isWidth_any (w : World) (n : Int) : Calls Try.prog 32 #[.int .i64 n] w fun e w' => e = .returned (.bool (wdO n)) ∧ w' = w := by
  by_cases h : 0 ≤ n
  · have u : decide (0 ≤ n) = true := decide_eq_true h
    unfold wdO
    rw [u]
    go_enter Try.func32, Try.ntmps32
    go_wp2
    go_ret
    exact ⟨by simp, rfl⟩
  · have u : decide (0 ≤ n) = false := decide_eq_false h
    unfold wdO
    rw [u]
    go_enter Try.func32, Try.ntmps32
    go_wp2
    go_ret
    exact ⟨by simp, rfl⟩
theorem hasWrong_any (w : World) (a : Option Addr) (n c : Nat) (un : Int) : Calls Try.prog 34 #[.agg #[.slice a n c, .int .i64 un]] w fun e w' => e = .returned (.bool (utO un)) ∧ Below w.heap.size w w' := by
  have n1 : Hid (Below w.heap.size w (w.alloc (.cells #[.slice a n c, .int .i64 un] 46))) := (Below.refl _ _).alloc (Nat.le_refl _) _
  by_cases h : un < 0
  · have u : decide (un < 0) = true := decide_eq_true h
    unfold utO
    rw [u]
    go_enter Try.func34, Try.ntmps34
    go_wp2
    go_ret
    exact ⟨by simp, n1.out⟩
  · have u : decide (un < 0) = false := decide_eq_false h
    unfold utO
    rw [u]
    go_enter Try.func34, Try.ntmps34
    go_wp2
    go_ret
    exact ⟨by simp, n1.out⟩
set_option maxHeartbeats 1000000 in
theorem untilIndex_any (w : World) (g : Nat) (a : Option Addr) (c : Nat) (ms : List Mrk) (ps : List Plm) (hr : RdK w g a ms ps) (hn : ms.length ≤ 1048576) :
    Calls Try.prog 43 #[.slice a ms.length c, .func (Fn.func 34) #[] #[]] w fun e w' => ∃ r : Int, e = .returned (.int .i64 r) ∧ decide (0 ≤ r) = utA ms ∧ Below w.heap.size w w' := by
  go_enter Try.func43, Try.ntmps43
  go_wp2
  go_loopw [8] (fun i wr => ∃ (k : Nat), k ≤ ms.length ∧ i = .int .i64 k ∧ Below w.heap.size w wr ∧ ∀ j, j < k → utO (ms.getD j mrk0).un = false) (fun i _ => ms.length - (intOf i).toNat)
  case atStart => exact ⟨0, Nat.zero_le _, rfl, Below.refl _ _, fun j hj => absurd hj (by omega)⟩
  case round =>
    obtain ⟨k, hk, rfl, N, hall⟩ := hrel
    by_cases hlt : k < ms.length
    · obtain ⟨off, rfl, hc⟩ := (hr.up N).r (by omega)
      have t0 : (k : Int) < (ms.length : Int) := by omega
      have c1 := (hc k hlt).1
      have c2 := (hc k hlt).2
      have CO := hide (hasWrong_any wr (ps.getD k plm0).a (ms.getD k mrk0).id.length (ps.getD k plm0).c (ms.getD k mrk0).un)
      have YES := hide (fun h => utA_yes hlt h)
      have HALL := hide hall
      have HN := hide N
      clear hc hall N
      generalize (ps.getD k plm0).a = pa at *
      generalize (ps.getD k plm0).c = pc at *
      generalize (ms.getD k mrk0).id.length = nn at *
      generalize hx : (ms.getD k mrk0).un = x at *
      have HX := hide hx
      clear hx
      generalize hv : utO x = v at *
      have HV := hide hv
      clear hv
      go_wp2_with fail
      refine CO.out.mono ?_
      rintro e w1 ⟨rfl, n1⟩
      have N1 := hide (nxt HN.out n1)
      clear CO n1 HN
      cases v with
      | true =>
        have Y := hide (YES.out (by first | rfl | exact HV.out))
        clear YES HALL
        go_wp2
        go_ret
        exact ⟨_, rfl, by rw [Y.out]; simp, N1.out⟩
      | false =>
        have NXT : Hid (∀ j, j < k + 1 → utO (ms.getD j mrk0).un = false) := fun j hj => by
          by_cases h : j = k
          · subst h
            rw [HX.out]
            exact HV.out
          · exact HALL.out j (by omega)
        clear YES HALL
        go_wp2
        go_roundw
        case rel => exact ⟨k + 1, by omega, by go_num, N1.out, NXT.out⟩
        case measure => simp [intOf]; omega
    · obtain rfl : k = ms.length := by omega
      have NO := hide (utA_no hall)
      have HN := hide N
      clear hall hr N
      go_wp2
      go_ret
      exact ⟨-1, rfl, by rw [NO.out]; rfl, HN.out⟩
theorem untilContains_any (w : World) (g : Nat) (a : Option Addr) (c : Nat) (ms : List Mrk) (ps : List Plm) (hr : RdK w g a ms ps) (hn : ms.length ≤ 1048576) :
    Calls Try.prog 33 #[.slice a ms.length c, .func (Fn.func 34) #[] #[]] w fun e w' => e = .returned (.bool (utA ms)) ∧ Below w.heap.size w w' := by
  have IX := hide (untilIndex_any w g a c ms ps hr hn)
  clear hr
  generalize utA ms = v at *
  go_enter Try.func33, Try.ntmps33
  go_wp2_with fail
  refine IX.out.mono ?_
  rintro e w1 ⟨r, rfl, hr, n1⟩
  have HR := hide hr
  have N1 := hide n1
  clear hr n1 IX
  go_wp2
  go_ret
  exact ⟨by rw [← HR.out]; rfl, N1.out⟩
end Go.Proofs.Ytjjoimlnpbelpaa
