import Derived.Test.YtjjoimlnpbelpaaGK3
import Derived.Test.YtjjoimlnpbelpaaGK5
import Derived.Deep.QuietTactic
import Derived.BigQuiet

/-
  The laws' helpers on rows of marks: copied, held against each other, counted.
-/
namespace Go.Proofs.Ytjjoimlnpbelpaa
open Go Go.RowKit

theorem infoMk : (Try.prog.info? 46).map (fun i => (i.zero, i.size, i.bytes)) = some (some (.agg #[.slice none 0 0, .int .i64 0]), 2, 32) := by kernel_rfl
theorem RwC.of_made2 {w : World} {base g n : Nat} {t : TypeId} {xs : List Value} (h : w.ownsRow base t 2 (.slice (some ⟨g, 0, none⟩) n n) n xs) : ∃ vs : List Value, vs.length = n * 2 ∧ RwC w g vs t := by
  rcases h.2 with ⟨h', _⟩ | ⟨g', cap', cur, h', _, hg, _, _, hcs, htake⟩
  · simp at h'
  · simp only [Value.slice.injEq, Option.some.injEq, Addr.mk.injEq, and_true, true_and] at h'
    obtain ⟨rfl, rfl⟩ := h'
    exact ⟨cur.toList, by rw [Array.length_toList, hcs], by show _ = _; rw [hg]⟩
theorem pick_listK {P : Nat → Nat → Prop} : ∀ n, (∀ j, j < n → ∃ G, P j G) → ∃ Gs : List Nat, ∀ j, j < n → P j (Gs.getD j 0)
  | 0, _ => ⟨[], fun j hj => absurd hj (by omega)⟩
  | n + 1, h => by
    obtain ⟨Gs, hG⟩ := pick_listK (P := P) n (fun j hj => h j (by omega))
    obtain ⟨G, hn⟩ := h n (by omega)
    refine ⟨(List.range n).map (fun j => Gs.getD j 0) ++ [G], fun j hj => ?_⟩
    by_cases e : j < n
    · have : ((List.range n).map (fun j => Gs.getD j 0) ++ [G]).getD j 0 = Gs.getD j 0 := by
        rw [List.getD_eq_getElem?_getD, List.getElem?_append_left (by simpa using e)]
        simp [e]
      rw [this]
      exact hG j e
    · obtain rfl : j = n := by omega
      have : ((List.range j).map (fun i => Gs.getD i 0) ++ [G]).getD j 0 = G := by
        rw [List.getD_eq_getElem?_getD, List.getElem?_append_right (by simp)]
        simp
      rw [this]
      exact hn
/-- A new row of marks, the first k of them laid. -/
def RowK2 (B : Nat) (wr : World) (g : Nat) (ms : List Mrk) (k : Nat) (vs : List Value) : Prop := vs.length = ms.length * 2 ∧ RwC wr g vs 46 ∧ ∀ j, j < k → ∃ G, (vs[j * 2]? = some (.slice (some ⟨G, 0, none⟩) (ms.getD j mrk0).id.length (ms.getD j mrk0).id.length) ∧ vs[j * 2 + 1]? = some (.int .i64 (ms.getD j mrk0).un)) ∧ Blk wr G .u8 (ms.getD j mrk0).id ∧ B < G
theorem RowK2.step {B g k : Nat} {wr w1 : World} {ms : List Mrk} {vs : List Value} (h : RowK2 B wr g ms k vs) (hk : k < ms.length) (hg : g ≤ B) (n : Below wr.heap.size wr w1) {G : Nat} (hG : B < G) (b : Blk w1 G .u8 (ms.getD k mrk0).id) :
    RowK2 B (w1.setCells g (k * 2) [.slice (some ⟨G, 0, none⟩) (ms.getD k mrk0).id.length (ms.getD k mrk0).id.length, .int .i64 (ms.getD k mrk0).un]) g ms (k + 1) ((vs.set (k * 2) (.slice (some ⟨G, 0, none⟩) (ms.getD k mrk0).id.length (ms.getD k mrk0).id.length)).set (k * 2 + 1) (.int .i64 (ms.getD k mrk0).un)) := by
  obtain ⟨h1, h2, h3⟩ := h
  have O := only_setG w1 g [.slice (some ⟨G, 0, none⟩) (ms.getD k mrk0).id.length (ms.getD k mrk0).id.length, .int .i64 (ms.getD k mrk0).un] (k * 2)
  refine ⟨by simpa using h1, ((h2.up n).set (k * 2) _).set (k * 2 + 1) _, fun j hj => ?_⟩
  by_cases e : j = k
  · subst e
    refine ⟨G, ⟨?_, ?_⟩, b.of_block (O.block G (by omega)), hG⟩
    · rw [List.getElem?_set_ne (by omega), List.getElem?_set_self (by omega)]
    · rw [List.getElem?_set_self (by rw [List.length_set]; omega)]
  · obtain ⟨G', ⟨e1, e2⟩, b1, l1⟩ := h3 j (by omega)
    refine ⟨G', ⟨?_, ?_⟩, (b1.up n).of_block (O.block G' (by omega)), l1⟩
    · rw [List.getElem?_set_ne (by omega), List.getElem?_set_ne (by omega)]; exact e1
    · rw [List.getElem?_set_ne (by omega), List.getElem?_set_ne (by omega)]; exact e2
theorem RowK2.rd {B g : Nat} {wr : World} {ms : List Mrk} {vs : List Value} (h : RowK2 B wr g ms ms.length vs) : ∃ ps, RdK wr g (some ⟨g, 0, none⟩) ms ps ∧ ∀ i, i < ms.length → B < (ps.getD i plm0).q := by
  obtain ⟨h1, h2, h3⟩ := h
  obtain ⟨Gs, hG⟩ := pick_listK ms.length h3
  have e : ∀ i, i < ms.length → ((List.range ms.length).map fun j => (⟨some ⟨Gs.getD j 0, 0, none⟩, (ms.getD j mrk0).id.length, Gs.getD j 0⟩ : Plm)).getD i plm0 = ⟨some ⟨Gs.getD i 0, 0, none⟩, (ms.getD i mrk0).id.length, Gs.getD i 0⟩ := fun i hi => by
    rw [List.getD_eq_getElem?_getD]
    simp [hi]
  refine ⟨(List.range ms.length).map fun j => ⟨some ⟨Gs.getD j 0, 0, none⟩, (ms.getD j mrk0).id.length, Gs.getD j 0⟩, ⟨fun _ => ⟨0, rfl, fun i hi => ⟨?_, ?_⟩⟩, fun i hi => ?_⟩, fun i hi => ?_⟩
  · rw [Nat.zero_add, h2.cell, e i hi]
    exact (hG i hi).1.1
  · rw [Nat.zero_add, h2.cell]
    exact (hG i hi).1.2
  · rw [e i hi]
    exact (hG i hi).2.1.own0.rd
  · rw [e i hi]
    exact (hG i hi).2.2
set_option maxHeartbeats 2000000 in
theorem toMarkS_any (w : World) (g : Nat) (a : Option Addr) (c : Nat) (ms : List Mrk) (ps : List Plm) (hr : RdK w g a ms ps) (hn : ms.length ≤ 1048576) (hz : ∀ i, i < ms.length → (ms.getD i mrk0).id.length ≤ 1048576) :
    Calls Try.prog 21 #[.slice a ms.length c] w fun e w' => (e = .returned (.slice (some ⟨w.heap.size, 0, none⟩) ms.length ms.length) ∧ ∃ ps', RdK w' w.heap.size (some ⟨w.heap.size, 0, none⟩) ms ps' ∧ ∀ i, i < ms.length → w.heap.size < (ps'.getD i plm0).q) ∧ Below w.heap.size w w' := by
  obtain ⟨i0, hi, hz0, hz1, hz2⟩ : ∃ i0, Try.prog.info? 46 = some i0 ∧ i0.zero = some (.agg #[.slice none 0 0, .int .i64 0]) ∧ i0.size = 2 ∧ i0.bytes = 32 := by
    have h := infoMk
    cases hq : Try.prog.info? 46 with
    | none => rw [hq] at h; simp at h
    | some i0 =>
      rw [hq] at h
      simp only [Option.map_some, Option.some.injEq, Prod.mk.injEq] at h
      exact ⟨i0, rfl, h.1, h.2.1, h.2.2⟩
  go_enter Try.func21, Try.ntmps21
  go_wp2_with (at_make; refine wpList_make_full _ rfl _ _ 27 rfl w.heap.size 46 i0 (.agg #[.slice none 0 0, .int .i64 0]) 2 Try.underlying27 hi hz0 hz1 .i64 .i64 _ _ ms.length rfl rfl rfl rfl (by rw [hz2]; omega) (by unfold maxLen; omega) (Nat.le_refl _) ?_; intro w1 hown hgrow)
  obtain ⟨v0, hv0, hB0⟩ := RwC.of_made2 hown
  have hN0 : Below w.heap.size w w1 := (Below.refl _ _).grown hgrow (Nat.le_refl _) (by simp)
  clear hown hgrow
  go_loopw [4] (fun i wr => ∃ (k : Nat) (vs : List Value), k ≤ ms.length ∧ i = .int .i64 k ∧ RowK2 w.heap.size wr w.heap.size ms k vs ∧ Below w.heap.size w wr) (fun i _ => ms.length - (intOf i).toNat)
  case atStart => exact ⟨0, _, Nat.zero_le _, rfl, ⟨hv0, hB0, fun j hj => absurd hj (by omega)⟩, hN0⟩
  case round =>
    obtain ⟨k, vs, hk, rfl, hR, hN⟩ := hrel
    clear hB0 hN0 hv0
    by_cases hlt : k < ms.length
    · obtain ⟨off, rfl, hc⟩ := (hr.up hN).r (by omega)
      have t0 : (k : Int) < (ms.length : Int) := by omega
      have c1 := (hc k hlt).1
      have c2 := (hc k hlt).2
      have TB := hide (toMark_any wr (ms.getD k mrk0).un _ _ (ps.getD k plm0).c _ ((hr.up hN).b k hlt) (hz k hlt))
      have HS := hide (fun (w1 : World) (n : Below wr.heap.size wr w1) G hG b => RowK2.step (w1 := w1) (G := G) hR hlt (Nat.le_refl _) n hG b)
      have hR2 := hide hR.2.1
      have hlen := hide hR.1
      have hlg := hR.2.1.lt
      have HN := hide hN
      clear hc hR hN
      generalize (ps.getD k plm0).a = pa at *
      generalize (ps.getD k plm0).c = pc at *
      generalize (ms.getD k mrk0).id = x at *
      generalize (ms.getD k mrk0).un = un at *
      go_wp2_with fail
      refine TB.out.mono ?_
      rintro e w2 ⟨G, rfl, B, hG, n2⟩
      have T2 := hR2.out.up n2
      have TH : w2.there w.heap.size (k * 2) 2 := fun j hj => by
        rw [T2.cell (k * 2 + j), T2.free (k * 2 + j)]
        exact ⟨by rw [List.getElem?_eq_getElem (by rw [hlen.out]; omega)]; simp, rfl⟩
      have ST := hide (HS.out w2 n2 G (by omega) B)
      have N2 := hide (nxt HN.out n2)
      have ON := oneMk (some ⟨G, 0, none⟩) x.length x.length un
      clear TB HS hR2 hlen T2 B n2 HN hG
      go_wp2_with (first | (refine wpList_store_mid rfl 46 (.tmp 21) (.tmp 20) rfl w.heap.size (k * 2) #[.slice (some ⟨G, 0, none⟩) x.length x.length, .int .i64 un] rfl rfl TH iMk ON ?_) | fail)
      go_roundw
      case rel => exact ⟨k + 1, _, by omega, by go_num, ST.out, N2.out.trans ((only_setG w2 w.heap.size _ (k * 2)).below (Nat.le_refl _))⟩
      case measure => simp [intOf]; omega
    · obtain rfl : k = ms.length := by omega
      have RD := hide hR.rd
      have HN := hide hN
      clear hR hN hr
      go_wp2
      go_ret
      obtain ⟨ps', h1, h2⟩ := RD.out
      exact ⟨⟨rfl, ps', h1, h2⟩, HN.out⟩
theorem range_two {w : World} {g o : Nat} {v u : Value} (h : w.cell? ⟨g, o, none⟩ = some v) (h' : w.cell? ⟨g, o + 1, none⟩ = some u) : w.rangeAt g o [v, u] := fun j x hj => by
  match j, hj with
  | 0, hj =>
    rw [Nat.add_zero]
    simp only [List.getElem?_cons_zero, Option.some.injEq] at hj
    rw [← hj]
    exact h
  | 1, hj =>
    simp only [List.getElem?_cons_succ, List.getElem?_cons_zero, Option.some.injEq] at hj
    rw [← hj]
    exact h'
  | j + 2, hj => simp at hj
set_option maxHeartbeats 2000000 in
theorem eqMarkS_same (w : World) (g g' : Nat) (a b : Option Addr) (ca cb : Nat) (ms : List Mrk) (ps qs : List Plm) (ha : RdK w g a ms ps) (hb : RdK w g' b ms qs) (hn : ms.length ≤ 1048576) (hz : ∀ i, i < ms.length → (ms.getD i mrk0).id.length ≤ 1048576) :
    Calls Try.prog 27 #[.slice a ms.length ca, .slice b ms.length cb] w fun e w' => e = .returned (.bool true) ∧ Below w.heap.size w w' := by
  obtain ⟨d1, hd1, hrow1⟩ := rowMk
  have e0 : ((ms.length : Int) != (ms.length : Int)) = false := by simp
  go_enter Try.func27, Try.ntmps27
  go_wp2
  go_loopw [5] (fun i wr => ∃ (k : Nat), k ≤ ms.length ∧ i = .int .i64 k ∧ Below w.heap.size w wr) (fun i _ => ms.length - (intOf i).toNat)
  case atStart => exact ⟨0, Nat.zero_le _, rfl, Below.refl _ _⟩
  case round =>
    obtain ⟨k, hk, rfl, nb⟩ := hrel
    by_cases hlt : k < ms.length
    · obtain ⟨off, rfl, hc⟩ := (ha.up nb).r (by omega)
      obtain ⟨off', rfl, hc'⟩ := (hb.up nb).r (by omega)
      have t0 : (k : Int) < (ms.length : Int) := by omega
      have t1 : decide ((k : Int) < (ms.length : Int)) = true := decide_eq_true t0
      have c1 := (hc k hlt).1
      have d1' := (hc k hlt).2
      have c2 := (hc' k hlt).1
      have d2' := (hc' k hlt).2
      have EB := hide (fun (W : World) (n : Below wr.heap.size wr W) => eqMark_same W (ms.getD k mrk0).un _ _ _ _ (ps.getD k plm0).c (qs.getD k plm0).c _ (((ha.up nb).b k hlt).up n) (((hb.up nb).b k hlt).up n) (hz k hlt))
      have NB := hide nb
      clear hc hc' nb
      generalize (ps.getD k plm0).a = pa at *
      generalize (ps.getD k plm0).c = pc at *
      generalize (qs.getD k plm0).a = qa at *
      generalize (qs.getD k plm0).c = qc at *
      generalize (ms.getD k mrk0).id.length = m at *
      generalize (ms.getD k mrk0).un = un at *
      go_upto_region 6 with fail
      refine region_end 10 (fun i => [Fact.eq (.slice (some ⟨g, off, none⟩) ms.length ca), Fact.eq (.int .i64 (k : Int)), Fact.eq (.pointer (some ⟨g, off + k * 2, none⟩)), Fact.eq (.agg #[.slice pa m pc, .int .i64 un]), Fact.eq (.slice (some ⟨g', off', none⟩) ms.length cb), Fact.eq (.int .i64 (k : Int)), Fact.eq (.pointer (some ⟨g', off' + k * 2, none⟩)), Fact.eq (.agg #[.slice qa m qc, .int .i64 un]), Fact.eq (.bool true), Fact.eq (.bool false)].getD i Fact.no) (by kernel_rfl) (by kernel_rfl) rfl ?_ ?_
      · intro i hi
        obtain rfl | rfl | rfl | rfl | rfl | rfl | rfl | rfl | rfl | rfl : i = 0 ∨ i = 1 ∨ i = 2 ∨ i = 3 ∨ i = 4 ∨ i = 5 ∨ i = 6 ∨ i = 7 ∨ i = 8 ∨ i = 9 := by omega
        · refine step_pure rfl fun A ww hb hw hf => ?_
          have e1 : A.tmps[0]?.getD undef = .slice (some ⟨g, off, none⟩) ms.length ca := gdv (hb.2.2 0 (by kernel_rfl))
          exact ⟨.slice (some ⟨g, off, none⟩) ms.length ca, by simp [go_sem, e1], rfl⟩
        · refine step_pure rfl fun A ww hb hw hf => ?_
          have e1 : A.tmps[5]?.getD undef = .int .i64 (k : Int) := gdv (hb.2.2 5 (by kernel_rfl))
          exact ⟨.int .i64 (k : Int), by simp [go_sem, e1], rfl⟩
        · refine step_pure rfl fun A ww hb hw hf => ?_
          have e1 : A.tmps[17]?.getD undef = .slice (some ⟨g, off, none⟩) ms.length ca := gdv (hf 0 17 (by kernel_rfl))
          have e2 : A.tmps[18]?.getD undef = .int .i64 (k : Int) := gdv (hf 1 18 (by kernel_rfl))
          exact ⟨.pointer (some ⟨g, off + k * 2, none⟩), by simp [go_sem, e1, e2, hlt], rfl⟩
        · refine step_load rfl 46 (.tmp 19) rfl d1 2 hd1 hrow1 iMk fun A ww hb hw hf => ⟨_, _, [.slice pa m pc, .int .i64 un], hf 2 19 (by kernel_rfl), range_two ((hw.cell (block_lt_of_cell c1)).trans c1) ((hw.cell (block_lt_of_cell d1')).trans d1'), rfl, rfl⟩
        · refine step_pure rfl fun A ww hb hw hf => ?_
          have e1 : A.tmps[1]?.getD undef = .slice (some ⟨g', off', none⟩) ms.length cb := gdv (hb.2.2 1 (by kernel_rfl))
          exact ⟨.slice (some ⟨g', off', none⟩) ms.length cb, by simp [go_sem, e1], rfl⟩
        · refine step_pure rfl fun A ww hb hw hf => ?_
          have e1 : A.tmps[5]?.getD undef = .int .i64 (k : Int) := gdv (hb.2.2 5 (by kernel_rfl))
          exact ⟨.int .i64 (k : Int), by simp [go_sem, e1], rfl⟩
        · refine step_pure rfl fun A ww hb hw hf => ?_
          have e1 : A.tmps[21]?.getD undef = .slice (some ⟨g', off', none⟩) ms.length cb := gdv (hf 4 21 (by kernel_rfl))
          have e2 : A.tmps[22]?.getD undef = .int .i64 (k : Int) := gdv (hf 5 22 (by kernel_rfl))
          exact ⟨.pointer (some ⟨g', off' + k * 2, none⟩), by simp [go_sem, e1, e2, hlt], rfl⟩
        · refine step_load rfl 46 (.tmp 23) rfl d1 2 hd1 hrow1 iMk fun A ww hb hw hf => ⟨_, _, [.slice qa m qc, .int .i64 un], hf 6 23 (by kernel_rfl), range_two ((hw.cell (block_lt_of_cell c2)).trans c2) ((hw.cell (block_lt_of_cell d2')).trans d2'), rfl, rfl⟩
        · refine step_callv rfl 40 _ _ rfl (by kernel_rfl) fun A ww hb hw hf => ?_
          have e1 : A.tmps.getD 20 undef = .agg #[.slice pa m pc, .int .i64 un] := hf 3 20 (by kernel_rfl)
          have e2 : A.tmps.getD 24 undef = .agg #[.slice qa m qc, .int .i64 un] := hf 7 24 (by kernel_rfl)
          show Calls Try.prog 40 #[A.tmps.getD 20 undef, A.tmps.getD 24 undef] ww _
          rw [e1, e2]
          exact (EB.out ww hw).mono (by rintro r w' ⟨rfl, n⟩; exact ⟨_, rfl, n, rfl⟩)
        · refine step_pure rfl fun A ww hb hw hf => ?_
          have e1 : A.tmps[25]?.getD undef = .bool true := gdv (hf 8 25 (by kernel_rfl))
          exact ⟨.bool false, by simp [go_sem, e1], rfl⟩
      intro A W hb' hw hF
      have e2 := hF 9 26 (by kernel_rfl)
      obtain ⟨vs, hvs⟩ : ∃ vs : Nat → Value, ∀ d, A.tmps.getD d undef = vs d := ⟨_, fun _ => rfl⟩
      rw [hvs] at e2
      rw [puts_of (md := .any) (k := 10) (by kernel_rfl) rfl hb' vs hvs]
      have e3 : vs 26 = .bool false := e2
      have NW := hide (nxt NB.out hw)
      clear hb' hF hvs e2 c1 c2 d1' d2' EB hw NB
      simp only [puts, e3, Act.put, List.setIfInBounds_toArray, List.set_cons_succ, List.set_cons_zero]
      clear e3
      go_wp2
      go_roundw
      case rel => exact ⟨k + 1, by omega, by go_num, NW.out⟩
      case measure => simp [intOf]; omega
    · obtain rfl : k = ms.length := by omega
      have NB := hide nb
      clear nb ha hb
      go_wp2
      go_ret
      exact ⟨rfl, NB.out⟩
def sumK (ms : List Mrk) : Nat := ms.foldr (fun l s => l.id.length + s) 0
theorem sumK_app (x y : List Mrk) : sumK (x ++ y) = sumK x + sumK y := by
  induction x with
  | nil => simp [sumK]
  | cons a x ih => show a.id.length + sumK (x ++ y) = a.id.length + sumK x + sumK y; rw [ih]; omega
theorem sumK_take {ls : List Mrk} {k : Nat} (h : k < ls.length) : sumK (ls.take (k + 1)) = sumK (ls.take k) + (ls.getD k mrk0).id.length := by
  rw [List.take_succ_eq_append_getElem h, sumK_app, List.getD_eq_getElem?_getD, List.getElem?_eq_getElem h]
  simp [sumK]
theorem sumK_le {ls : List Mrk} (k : Nat) : sumK (ls.take k) ≤ sumK ls := by
  have := sumK_app (ls.take k) (ls.drop k)
  rw [List.take_append_drop] at this
  omega
theorem sumK_get {ls : List Mrk} {k : Nat} (h : k < ls.length) : (ls.getD k mrk0).id.length ≤ sumK ls := by
  have := sumK_take h
  have := sumK_le (ls := ls) (k + 1)
  omega
set_option maxHeartbeats 2000000 in
theorem szMarkS_r (w : World) (g : Nat) (a : Option Addr) (c : Nat) (ms : List Mrk) (ps : List Plm) (L : Int) (hr : RdK w g a ms ps) (hn : ms.length ≤ 9223372036854775807) (hz : ∀ i, i < ms.length → (ms.getD i mrk0).id.length < 9223372036854775808) (h0 : 0 ≤ L) (h1 : L ≤ 1048576) :
    Calls Try.prog 16 #[.slice a ms.length c, .int .i64 L] w fun e w' => (∃ r, e = .returned (.int .i64 r) ∧ LftK L ((ms.length : Int) + (sumK ms : Int)) r) ∧ Below w.heap.size w w' := by
  have s1 : IntKind.i64.wrap (L - (ms.length : Int)) = L - (ms.length : Int) := by rw [IntKind.wrap_i64]; omega
  by_cases hl : L < (ms.length : Int)
  · have t1 : decide (L - (ms.length : Int) < 0) = true := decide_eq_true (by omega)
    have H := hide hl
    clear hl hr
    go_enter Try.func16, Try.ntmps16
    go_wp2
    go_ret
    exact ⟨⟨_, rfl, .inl ⟨by have := H.out; omega, rfl⟩⟩, Below.refl _ _⟩
  · have t1 : decide (L - (ms.length : Int) < 0) = false := decide_eq_false (by omega)
    go_enter Try.func16, Try.ntmps16
    go_wp2
    go_loopw [1, 5] (fun l i wr => ∃ (k : Nat), k ≤ ms.length ∧ i = .int .i64 k ∧ l = .int .i64 (L - (ms.length : Int) - (sumK (ms.take k) : Int)) ∧ 0 ≤ L - (ms.length : Int) - (sumK (ms.take k) : Int) ∧ Below w.heap.size w wr) (fun _ i _ => ms.length - (intOf i).toNat)
    case atStart => exact ⟨0, Nat.zero_le _, rfl, by rw [List.take_zero]; simp [sumK], by rw [List.take_zero]; simp [sumK]; omega, Below.refl _ _⟩
    case round =>
      obtain ⟨k, hk, rfl, rfl, hpos, nb⟩ := hrel
      by_cases hlt : k < ms.length
      · obtain ⟨off, rfl, hc⟩ := (hr.up nb).r (by omega)
        have t0 : (k : Int) < (ms.length : Int) := by omega
        have c1 := (hc k hlt).1
        have c2 := (hc k hlt).2
        have ST := hide (sumK_take hlt)
        have SL := hide (sumK_le (ls := ms) (k + 1))
        have SZ := hide (szMark_r wr (ps.getD k plm0).a (ps.getD k plm0).c (ms.getD k mrk0).id.length (ms.getD k mrk0).un (L - (ms.length : Int) - (sumK (ms.take k) : Int)) (hz k hlt) hpos (by omega))
        have NB := hide nb
        clear hc nb
        generalize (ps.getD k plm0).a = pa at *
        generalize (ps.getD k plm0).c = pc at *
        generalize (ms.getD k mrk0).id.length = m at *
        generalize (ms.getD k mrk0).un = un at *
        obtain ⟨q, hq⟩ : ∃ q : Int, q = L - (ms.length : Int) - (sumK (ms.take k) : Int) := ⟨_, rfl⟩
        rw [← hq] at SZ hpos ⊢
        have HQ := hide hq
        clear hq
        go_wp2_with fail
        refine SZ.out.mono ?_
        rintro e w1 ⟨⟨r, rfl, hr1⟩, n1⟩
        have N1 := hide (nxt NB.out n1)
        clear SZ NB n1
        rcases hr1 with ⟨h2, rfl⟩ | ⟨h2, rfl⟩
        · have FA : Hid (L < (ms.length : Int) + (sumK ms : Int)) := by
            have := ST.out; have := SL.out; have := HQ.out
            show L < _
            omega
          clear h2 ST SL HQ
          go_wp2
          go_ret
          exact ⟨⟨_, rfl, .inl ⟨FA.out, rfl⟩⟩, N1.out⟩
        · have t3 : decide (q - (m : Int) < 0) = false := decide_eq_false (by omega)
          have EQ : Hid (q - (m : Int) = L - (ms.length : Int) - (sumK (ms.take (k + 1)) : Int)) := by
            have := ST.out; have := HQ.out
            show _ = _
            omega
          have GE : Hid (0 ≤ q - (m : Int)) := by show (0 : Int) ≤ _; omega
          clear h2 ST SL HQ hpos
          go_wp2
          go_roundw
          case rel => exact ⟨k + 1, by omega, by go_num, by rw [EQ.out], by rw [← EQ.out]; exact GE.out, N1.out⟩
          case measure => simp [intOf]; omega
      · obtain rfl : k = ms.length := by omega
        rw [List.take_length] at hpos ⊢
        have NB := hide nb
        have HP := hide hpos
        clear nb hr hpos
        go_wp2
        go_ret
        exact ⟨⟨_, rfl, .inr ⟨by have := HP.out; omega, by omega⟩⟩, NB.out⟩
end Go.Proofs.Ytjjoimlnpbelpaa
