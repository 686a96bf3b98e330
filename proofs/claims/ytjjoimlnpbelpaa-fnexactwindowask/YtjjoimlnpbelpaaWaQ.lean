
/-
  Windows that are asked: the model (written by gens/waq.py).
-/
import Derived.Test.YtjjoimlnpbelpaaWaP
namespace Go.Proofs.Ytjjoimlnpbelpaa
open Go Go.RowKit Go.Maps

/-- Where the model stands: s is the answer's box, w4 the world ahead of the loops, C the end of what was there ahead of the copy. -/
structure AkS (w w4 wr : World) (s C : Nat) (wd : Int) (its : List (Int × List Int)) (bs : List Plc) (v : Value) : Prop where
  R : KRow wr C w4.heap.size v its bs
  F : ∀ k, k < w4.heap.size → k ≠ s → wr.heap[k]? = w4.heap[k]?
  S : RwC wr s [.int .i64 0, .int .i64 wd, v] 31
  N : Below w.heap.size w wr
  B1 : w4.heap.size ≤ wr.heap.size
  B2 : w.heap.size ≤ s ∧ s < C ∧ C ≤ w4.heap.size
set_option maxRecDepth 100000 in
theorem AkS.row {w w4 wr : World} {s C : Nat} {wd : Int} {its : List (Int × List Int)} {bs : List Plc} {v : Value} (h : AkS w w4 wr s C wd its bs v) {q : Nat} {cs : List Value} {t : TypeId} (r : RwC w4 q cs t) (hq : q ≠ s) : RwC wr q cs t := (h.F q r.lt hq).trans r
set_option maxRecDepth 100000 in
theorem AkS.app {w w4 wr : World} {s C : Nat} {wd : Int} {its : List (Int × List Int)} {bs : List Plc} {v : Value} (h : AkS w w4 wr s C wd its bs v) {w9 : World} (b9 : Below wr.heap.size wr w9) {p0 : Nat} {x : Int} {D : List Int} {q : Plc} (hp : RwC w9 p0 [.slice q.a D.length q.c, .int .i64 x] 46) (hq : Rd w9 q.q q.a .u8 D) (hqr : 0 < D.length → C ≤ q.q ∧ v.ownBlock ≠ some q.q) (hl : its.length ≤ 1000) :
    ∃ v' w', (Builtin.append_ #[27, 27] 27 #[v, .slice (some ⟨p0, 0, none⟩) 1 1]).run Try.prog w9 = .ok v' w' ∧ w'.cell? ⟨s, 2, none⟩ = some v ∧ w'.frozen? ⟨s, 2, none⟩ = false ∧ ∃ bs', AkS w w4 (w'.setCell ⟨s, 2, none⟩ v') s C wd (its ++ [(x, D)]) bs' v' := by
  obtain ⟨hs, hsC, hC⟩ := h.B2
  have z9 := b9.size
  have hB1 := h.B1
  have R9 := h.R.of (w' := w9) hC (fun k hk _ => b9.block k hk)
  obtain ⟨v', w', r1, r2, r4⟩ := R9.app (x, D) q p0 hp (by omega) hq hqr (by omega)
  have S4 : RwC w' s [.int .i64 0, .int .i64 wd, v] 31 := (r4.block _ (by omega)).trans (h.S.up b9)
  have O5 := Only.setCell w' s 2 v'
  have z4 := r4.size
  refine ⟨v', w', r1, S4.c2, S4.free 2, _, ⟨r2.of hC (fun k hk hB => O5.block k (by omega)), fun k hk hne => ?_, S4.set 2 v', ((h.N.trans (b9.mono h.N.size)).trans (r4.mono (by omega))).trans (O5.below hs), by rw [O5.size]; omega, h.B2⟩⟩
  rw [O5.block k hne, r4.block k hk, b9.block k (by omega)]
  exact h.F k hk hne
set_option maxRecDepth 100000 in
/-- How it ends: the box is laid into the answer's. -/
theorem ak_end {w wA : World} {z C B : Nat} {cd wd : Int} {its : List (Int × List Int)} {bs : List Plc} {v : Value} (R : KRow wA C B v its bs) (hC : C ≤ B) (Z : RwC wA z [.int .i64 0, .int .i64 0, .slice none 0 0] 31) (N : Below w.heap.size w wA) (hz : w.heap.size ≤ z) (hzC : z < C) :
    World.rangeAt (((wA.setCell ⟨z, 0, none⟩ (.int .i64 cd)).setCell ⟨z, 1, none⟩ (.int .i64 wd)).setCell ⟨z, 2, none⟩ v) z 0 [.int .i64 cd, .int .i64 wd, v] ∧ KRow (((wA.setCell ⟨z, 0, none⟩ (.int .i64 cd)).setCell ⟨z, 1, none⟩ (.int .i64 wd)).setCell ⟨z, 2, none⟩ v) C B v its bs ∧ Below w.heap.size w (((wA.setCell ⟨z, 0, none⟩ (.int .i64 cd)).setCell ⟨z, 1, none⟩ (.int .i64 wd)).setCell ⟨z, 2, none⟩ v) := by
  have O : Only z wA (((wA.setCell ⟨z, 0, none⟩ (.int .i64 cd)).setCell ⟨z, 1, none⟩ (.int .i64 wd)).setCell ⟨z, 2, none⟩ v) := ((Only.setCell _ _ _ _).trans (Only.setCell _ _ _ _)).trans (Only.setCell _ _ _ _)
  exact ⟨(((Z.set 0 _).set 1 _).set 2 _).rangeG, R.of hC (fun k hk hB => O.block k (by omega)), N.trans (O.below hz)⟩
set_option maxRecDepth 100000 in
/-- What the model answers. -/
def AsP (w : World) (wd : Int) (ms : List Mrk) (X : List Int) (now : Int) (e : Ending) (w' : World) : Prop := (∃ v C B bs, e = .returned (.agg #[.int .i64 (askC wd ms X now), .int .i64 (askW wd ms X now), v]) ∧ KRow w' C B v (askM wd ms X now) bs) ∧ Below w.heap.size w w'
set_option maxRecDepth 100000 in
theorem asP_bad {w w' : World} {wd : Int} {ms : List Mrk} {X : List Int} {now : Int} (h : ¬ AskOk wd ms X now) (n : Below w.heap.size w w') : AsP w wd ms X now (.returned (.agg #[.int .i64 3, .int .i64 0, .slice none 0 0])) w' := by
  refine ⟨⟨.slice none 0 0, 0, 0, [], ?_, ?_⟩, n⟩
  · unfold askC askW
    rw [if_neg h, if_neg h]
  · unfold askM
    rw [if_neg h]
    exact KRow.nil _ _ _
set_option maxRecDepth 100000 in
theorem asP_ok {w w' : World} {wd : Int} {ms : List Mrk} {X : List Int} {now : Int} (h : AskOk wd ms X now) (n : Below w.heap.size w w') {cd : Int} (hc : cd = tkC (kept ms now) X) {its : List (Int × List Int)} (hi : its = mkOf (askE wd ms X now)) {C B : Nat} {v : Value} {bs : List Plc} (R : KRow w' C B v its bs) : AsP w wd ms X now (.returned (.agg #[.int .i64 cd, .int .i64 wd, v])) w' := by
  refine ⟨⟨v, C, B, bs, ?_, ?_⟩, n⟩
  · unfold askC askW
    rw [if_pos h, if_pos h, hc]
  · unfold askM
    rw [if_pos h, ← hi]
    exact R
set_option maxRecDepth 100000 in
theorem kept_some {ms : List Mrk} {now : Int} {X : List Int} {k : Nat} (hk : k < (mkOf (kept ms now)).length) (h : ((mkOf (kept ms now)).getD k (0, [])).2 = X) : tkC (kept ms now) X = 1 := by
  unfold tkC
  rw [mkOf_len] at hk
  rw [if_pos]
  refine ⟨(kept ms now)[k], List.getElem_mem hk, ?_⟩
  rw [← h]
  unfold mkOf
  rw [List.getD_eq_getElem?_getD, List.getElem?_map, List.getElem?_eq_getElem hk]
  rfl
set_option maxRecDepth 100000 in
theorem kept_none {ms : List Mrk} {now : Int} {X : List Int} (h : ∀ k, k < (mkOf (kept ms now)).length → ((mkOf (kept ms now)).getD k (0, [])).2 ≠ X) : tkC (kept ms now) X = if (mkOf (kept ms now)).length = 64 then 2 else 0 := by
  unfold tkC
  rw [if_neg, mkOf_len]
  rintro ⟨e, he, hx⟩
  obtain ⟨k, hk, rfl⟩ := List.getElem_of_mem he
  refine h k (by rw [mkOf_len]; exact hk) ?_
  rw [← hx]
  unfold mkOf
  rw [List.getD_eq_getElem?_getD, List.getElem?_map, List.getElem?_eq_getElem hk]
  rfl
set_option maxRecDepth 100000 in
theorem askE_stay {wd : Int} {ms : List Mrk} {X : List Int} {now : Int} (h : tkC (kept ms now) X ≠ 0) : mkOf (kept ms now) = mkOf (askE wd ms X now) := by
  unfold askE tkE
  rw [if_neg h]
set_option maxRecDepth 100000 in
theorem askE_more {wd : Int} {ms : List Mrk} {X : List Int} {now : Int} (h : tkC (kept ms now) X = 0) : mkOf (kept ms now) ++ [(now + 2 * wd, X)] = mkOf (askE wd ms X now) := by
  unfold askE tkE
  rw [if_pos h, mkOf_app]
set_option maxRecDepth 100000 in
/-- What is kept of the first marks. -/
def keptTo (ms : List Mrk) (now : Int) (k : Nat) : List Ent := (entsTo ms k).filter fun e => decide (now ≤ e.un)
set_option maxRecDepth 100000 in
theorem keptTo_yes {ms : List Mrk} {now : Int} {k : Nat} (h : now ≤ (ms.getD k mrk0).un) : mkOf (keptTo ms now (k + 1)) = mkOf (keptTo ms now k) ++ [((ms.getD k mrk0).un, (ms.getD k mrk0).id)] := by
  unfold keptTo
  rw [entsTo_succ, List.filter_append, List.filter_cons_of_pos (by simpa using h), List.filter_nil, mkOf_app]
set_option maxRecDepth 100000 in
theorem keptTo_no {ms : List Mrk} {now : Int} {k : Nat} (h : ¬ now ≤ (ms.getD k mrk0).un) : mkOf (keptTo ms now (k + 1)) = mkOf (keptTo ms now k) := by
  unfold keptTo
  rw [entsTo_succ, List.filter_append, List.filter_cons_of_neg (by simpa using h), List.filter_nil, List.append_nil]
set_option maxRecDepth 100000 in
theorem keptTo_len (ms : List Mrk) (now : Int) (k : Nat) : (mkOf (keptTo ms now k)).length ≤ k := by
  rw [mkOf_len]
  unfold keptTo
  have := List.length_filter_le (fun e : Ent => decide (now ≤ e.un)) (entsTo ms k)
  rw [entsTo_len] at this
  exact this
set_option maxRecDepth 100000 in
theorem mkE_get {ms : List Mrk} {n k : Nat} (h : k < n) : (mkOf (entsTo ms n)).getD k (0, []) = ((ms.getD k mrk0).un, (ms.getD k mrk0).id) := by
  unfold mkOf entsTo
  rw [List.getD_eq_getElem?_getD, List.getElem?_map, List.getElem?_map, List.getElem?_range h]
  rfl
set_option maxRecDepth 100000 in
theorem kept_byt {ms : List Mrk} {now : Int} (hb : ∀ i, i < ms.length → Byt (ms.getD i mrk0).id) {j : Nat} (hj : j < (mkOf (kept ms now)).length) : Byt ((mkOf (kept ms now)).getD j (0, [])).2 := by
  rw [mkOf_len] at hj
  have e : ((mkOf (kept ms now)).getD j (0, [])).2 = ((kept ms now)[j]).id := by
    unfold mkOf
    rw [List.getD_eq_getElem?_getD, List.getElem?_map, List.getElem?_eq_getElem hj]
    rfl
  rw [e]
  have hm : (kept ms now)[j] ∈ entsTo ms ms.length := (List.mem_filter.1 (List.getElem_mem hj)).1
  unfold entsTo at hm
  obtain ⟨i, hi, he⟩ := List.mem_map.1 hm
  rw [← he]
  exact hb i (by simpa using hi)
set_option maxRecDepth 100000 in
/-- A row of one mark that lends its list. -/
def NBo (pa : Option Addr) (n pc : Nat) (x : Int) : Fact := ⟨fun v w => ∃ p, v = .slice (some ⟨p, 0, none⟩) 1 1 ∧ RwC w p [.slice pa n pc, .int .i64 x] 46, fun n h => by
  obtain ⟨p, e, r⟩ := h
  exact ⟨p, e, r.up n⟩⟩
end Go.Proofs.Ytjjoimlnpbelpaa
