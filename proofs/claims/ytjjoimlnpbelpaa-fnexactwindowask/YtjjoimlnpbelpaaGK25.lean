import Derived.Test.YtjjoimlnpbelpaaGK24

/-
  Windows that are asked: a row of marks that lends its lists, no walk (written by gens/wap.py).
-/
namespace Go.Proofs.Ytjjoimlnpbelpaa
open Go Go.RowKit

section
variable {P : Program} {ops : Array Oper} {Q : Exit → Act → World → Prop}
set_option maxRecDepth 100000 in
theorem region_appT {a0 : Act} {id : Nat} {draw : Bool} {w : World} (k jR jS pR pS dA dE dF : Nat) (t : TypeId) (o o1 o2 o3 : Oper) (F : Nat → Fact) (GS : Fact) (vr : Value) (q1 f0 f1 : Nat) (R : Value → World → Prop) (hm : P.follows .mixedOrders = true) (hT : textTail .any draw ops a0.tmps.size k = true) (hk : ops.toList.drop k = [o, o1, o2, o3]) (ho : ops[k]? = some o) (ho1 : ops[k + 1]? = some o1) (ho2 : ops[k + 2]? = some o2)
    (hop : o.op = .call { callee := .builtin .append, args := #[.tmp pR, .tmp pS], argTypes := #[t, t] }) (hty : o.type = t) (hd : o.dst = some dA) (hd1 : o1.dst = some dE) (hd2 : o2.dst = some dF) (hne : dA ≠ dF) (hne1 : dA ≠ dE) (sA : dA < a0.tmps.size) (sE : dE < a0.tmps.size) (sF : dF < a0.tmps.size)
    (hop1 : ∀ a W, Based ops a0 a → (execOp a.eval o1).run P W = .ok (.value (.pointer (some ⟨q1, f0, none⟩))) W)
    (hop2 : ∀ (a : Act) (W : World), a.tmps.getD dE undef = .pointer (some ⟨q1, f0, none⟩) → (execOp a.eval o2).run P W = .ok (.value (.pointer (some ⟨q1, f1, none⟩))) W)
    (hst : ∀ a W v', a.tmps.getD dF undef = .pointer (some ⟨q1, f1, none⟩) → a.tmps.getD dA undef = v' → R v' W → Q .normal a (W.setCell ⟨q1, f1, none⟩ v') → o3.wp P a W (fun a'' w3 => Q .normal a'' w3) Q)
    (wR : decide (jR < k) = true ∧ writes ops jR pR = true) (FR : F jR = Fact.eq vr) (wS : decide (jS < k) = true ∧ writes ops jS pS = true) (FS : F jS = GS) (steps : ∀ i, i < k → StepOk P .any ops Q F a0 w i)
    (hA : ∀ W vS, Below w.heap.size w W → GS.p vS W → ∃ v' w', (Builtin.append_ #[t, t] t #[vr, vS]).run P W = .ok v' w' ∧ R v' w')
    (fin : ∀ (vs : Nat → Value) (W : World) (v' : Value), R v' W → Q .normal (puts vs a0 ops.toList) (W.setCell ⟨q1, f1, none⟩ v')) : (Code.region id ops draw).wp P Q a0 w := by
  refine region_tail k F hm hT steps [] (by simp) (by simp) fun a W hb hw hf _ => ?_
  rw [hk]
  show o.wp P a W (fun a' w' => o1.wp P a' w' (fun a'' w'' => o2.wp P a'' w'' (fun a3 w3 => o3.wp P a3 w3 (fun a4 w4 => Q .normal a4 w4) Q) Q) Q) Q
  have e1 := hf jR pR wR.1 wR.2
  rw [FR] at e1
  have e2 := hf jS pS wS.1 wS.2
  rw [FS] at e2
  obtain ⟨v', w', hr, hR⟩ := hA W _ hw e2
  have e1' : a.tmps.getD pR undef = vr := e1
  refine Lib.wp_append_run W (.tmp pR) (.tmp pS) t t hop vr (a.tmps.getD pS undef) e1' rfl v' w' (by rw [hty]; exact hr) ?_
  have hb1 := Based.put hb ho v'
  have r1 := hop1 _ w' hb1
  have sz1 : (a.put o.dst v').tmps.size = a0.tmps.size := hb1.2.1
  have hb2 := Based.put hb1 ho1 (.pointer (some ⟨q1, f0, none⟩))
  have sz2 : ((a.put o.dst v').put o1.dst (.pointer (some ⟨q1, f0, none⟩))).tmps.size = a0.tmps.size := hb2.2.1
  have y1 : ((a.put o.dst v').put o1.dst (.pointer (some ⟨q1, f0, none⟩))).tmps.getD dE undef = .pointer (some ⟨q1, f0, none⟩) := by
    rw [hd1]
    exact put_at (by rw [sz1]; exact sE)
  have y2 : ((a.put o.dst v').put o1.dst (.pointer (some ⟨q1, f0, none⟩))).tmps.getD dA undef = v' := by
    rw [put_off (by rw [hd1]; simpa using Ne.symm hne1), hd]
    exact put_at (by rw [hb.2.1]; exact sA)
  have r2 := hop2 _ w' y1
  have hb3 := Based.put hb2 ho2 (.pointer (some ⟨q1, f1, none⟩))
  unfold Oper.wp
  rw [r1, Oper.upon_value, r2, Oper.upon_value]
  have x1 : (((a.put o.dst v').put o1.dst (.pointer (some ⟨q1, f0, none⟩))).put o2.dst (.pointer (some ⟨q1, f1, none⟩))).tmps.getD dF undef = .pointer (some ⟨q1, f1, none⟩) := by
    rw [hd2]
    exact put_at (by rw [sz2]; exact sF)
  have x2 : (((a.put o.dst v').put o1.dst (.pointer (some ⟨q1, f0, none⟩))).put o2.dst (.pointer (some ⟨q1, f1, none⟩))).tmps.getD dA undef = v' := by
    rw [put_off (by rw [hd2]; simpa using Ne.symm hne)]
    exact y2
  refine hst _ w' v' x1 x2 hR ?_
  obtain ⟨vs, hvs⟩ : ∃ vs : Nat → Value, ∀ d, (((a.put o.dst v').put o1.dst (.pointer (some ⟨q1, f0, none⟩))).put o2.dst (.pointer (some ⟨q1, f1, none⟩))).tmps.getD d undef = vs d := ⟨_, fun _ => rfl⟩
  rw [puts_tail hT rfl hb3 vs hvs]
  exact fin vs w' v' hR
end
/-- A row of marks that the call made; its lists lie at C or behind it, and none in the row's block. -/
structure KRow (w : World) (C B : Nat) (v : Value) (its : List (Int × List Int)) (bs : List Plc) : Prop where
  o : w.ownsRow B 46 2 v its.length (itCs its bs)
  l : bs.length = its.length
  b : ∀ i, i < its.length → Rd w (bs.getD i plc0).q (bs.getD i plc0).a .u8 (its.getD i (0, [])).2
  h : ∀ i, i < its.length → 0 < (its.getD i (0, [])).2.length → C ≤ (bs.getD i plc0).q ∧ v.ownBlock ≠ some (bs.getD i plc0).q
set_option maxRecDepth 100000 in
theorem KRow.nil (w : World) (C B : Nat) : KRow w C B (.slice none 0 0) [] [] :=
  ⟨⟨rfl, .inl ⟨rfl, rfl⟩⟩, rfl, fun i h => absurd h (by simp), fun i h => absurd h (by simp)⟩
set_option maxRecDepth 100000 in
theorem rd_of {w w' : World} {g : Nat} {a : Option Addr} {k : IntKind} {xs : List Int} (h : Rd w g a k xs) (hb : 0 < xs.length → w'.heap[g]? = w.heap[g]?) : Rd w' g a k xs := by
  by_cases h0 : 0 < xs.length
  · exact h.of_block (hb h0)
  · exact fun h1 => absurd h1 h0
set_option maxRecDepth 100000 in
theorem KRow.of {w w' : World} {C B : Nat} {v : Value} {its : List (Int × List Int)} {bs : List Plc} (h : KRow w C B v its bs) (hC : C ≤ B) (hb : ∀ k, k < w.heap.size → C ≤ k → w'.heap[k]? = w.heap[k]?) : KRow w' C B v its bs := by
  refine ⟨⟨h.o.1, ?_⟩, h.l, fun i hi => ?_, h.h⟩
  · rcases h.o.2 with h' | ⟨g, cap, cur, rfl, hbg, hg, hnc, hcm, hcs, ht⟩
    · exact .inl h'
    · exact .inr ⟨g, cap, cur, rfl, hbg, by rw [hb g ((Array.getElem?_eq_some_iff.1 hg).1) (by omega)]; exact hg, hnc, hcm, hcs, ht⟩
  · exact rd_of (h.b i hi) fun h0 => hb _ ((h.b i hi).lt h0) (h.h i hi h0).1
set_option maxRecDepth 100000 in
theorem KRow.app {w : World} {C B : Nat} {v : Value} {its : List (Int × List Int)} {bs : List Plc} (h : KRow w C B v its bs) (x : Int × List Int) (q : Plc) (p0 : Nat) (hp0 : RwC w p0 [.slice q.a x.2.length q.c, .int .i64 x.1] 46) (hB : B ≤ w.heap.size) (hq : Rd w q.q q.a .u8 x.2) (hqr : 0 < x.2.length → C ≤ q.q ∧ v.ownBlock ≠ some q.q) (hl : its.length ≤ 1048576) :
    ∃ v' w', (Builtin.append_ #[27, 27] 27 #[v, .slice (some ⟨p0, 0, none⟩) 1 1]).run Try.prog w = .ok v' w' ∧ KRow w' C B v' (its ++ [x]) (bs ++ [q]) ∧ Below B w w' := by
  obtain ⟨i, hi, hz, hs, hby⟩ := info_parts iInfo
  have h0 : w.ownsRow B 46 2 v its.length (itCs its bs) := h.o
  have hcell : ∀ j u, (itC x q)[j]? = some u → w.cell? ((⟨p0, 0, none⟩ : Addr).add j) = some u := by
    intro j u hj
    rw [Addr.add_mid, Nat.zero_add, hp0.cell j]
    exact hj
  obtain ⟨v', w', h1, h2, h3, h4, h5⟩ := run_append_own_at (P := Try.prog) w B 27 27 46 i (.agg #[.slice none 0 0, .int .i64 0]) 2 32 iUnd hi hz hs hby rfl (by decide) v its.length (itCs its bs) h0 ⟨p0, 0, none⟩ 1 1 (itC x q) (by simp [itC]) hcell (fun u hu => by
    simp only [itC, List.mem_cons, List.not_mem_nil, or_false] at hu
    rcases hu with rfl | rfl <;> rfl) (by unfold maxLen; omega) (by omega) hB
  have keep : ∀ k, k < w.heap.size → v.ownBlock ≠ some k → w'.heap[k]? = w.heap[k]? := fun k hk hne => h3.block k (by omega) (fun e => hne e.symm)
  have ob := h.o.lt
  have A1 : ∀ j, j < its.length → (bs ++ [q]).getD j plc0 = bs.getD j plc0 := fun j hj => by
    have : j < bs.length := by rw [h.l]; exact hj
    simp [List.getD, List.getElem?_append_left this]
  have A2 : ∀ j, j < its.length → (its ++ [x]).getD j (0, []) = its.getD j (0, []) := fun j hj => by simp [List.getD, List.getElem?_append_left hj]
  have A3 : (bs ++ [q]).getD its.length plc0 = q := by rw [← h.l]; simp
  have A4 : (its ++ [x]).getD its.length (0, []) = x := by simp
  have LT : ∀ p, p < w.heap.size → v.ownBlock ≠ some p → v'.ownBlock ≠ some p := fun p hp hn => by
    rcases h5 with h5 | h5
    · rw [h5]; exact hn
    · rw [h5]
      intro e
      have e := Option.some.inj e
      omega
  refine ⟨v', w', h1, ⟨?_, by simp [h.l], fun j hj => ?_, fun j hj h0' => ?_⟩, (Below.refl B w).grown h3 (by omega) (fun k hk => (ob k hk).1)⟩
  · show w'.ownsRow B 46 2 v' (its ++ [x]).length (itCs (its ++ [x]) (bs ++ [q]))
    rw [itCs_snoc its bs x q h.l, List.length_append]
    exact h2
  · by_cases hj' : j < its.length
    · rw [A1 j hj', A2 j hj']
      exact rd_of (h.b j hj') fun h0' => keep _ ((h.b j hj').lt h0') (h.h j hj' h0').2
    · have ej : j = its.length := by simp at hj; omega
      subst ej
      rw [A3, A4]
      exact rd_of hq fun h0' => keep _ (hq.lt h0') (hqr h0').2
  · by_cases hj' : j < its.length
    · rw [A2 j hj'] at h0'
      rw [A1 j hj']
      exact ⟨(h.h j hj' h0').1, LT _ ((h.b j hj').lt h0') (h.h j hj' h0').2⟩
    · have ej : j = its.length := by simp at hj; omega
      subst ej
      rw [A4] at h0'
      rw [A3]
      exact ⟨(hqr h0').1, LT _ (hq.lt h0') (hqr h0').2⟩
set_option maxRecDepth 100000 in
theorem KRow.cells {w : World} {C B : Nat} {v : Value} {its : List (Int × List Int)} {bs : List Plc} (h : KRow w C B v its bs) (h0 : 0 < its.length) : ∃ g c, v = .slice (some ⟨g, 0, none⟩) its.length c ∧ B ≤ g ∧ g < w.heap.size ∧ v.ownBlock = some g ∧ (∀ i, i < its.length → w.cell? ⟨g, i * 2, none⟩ = some (.slice (bs.getD i plc0).a (its.getD i (0, [])).2.length (bs.getD i plc0).c) ∧ w.cell? ⟨g, i * 2 + 1, none⟩ = some (.int .i64 (its.getD i (0, [])).1)) ∧ (∀ i, w.frozen? ⟨g, i, none⟩ = false) := by
  rcases h.o.2 with ⟨_, h'⟩ | ⟨g, cap, cur, rfl, hb, hg, hnc, hcm, hcs, ht⟩
  · omega
  · refine ⟨g, cap, rfl, hb, (Array.getElem?_eq_some_iff.1 hg).1, rfl, fun i hi => ⟨?_, ?_⟩, fun i => frozen_of_row w g i cur _ hg⟩
    · rw [cell_of_row w g _ cur _ (0, 0) hg]
      have : (cur.toList.take (its.length * 2))[i * 2]? = (itCs its bs)[i * 2]? := by rw [ht]
      rw [List.getElem?_take, if_pos (by omega), show i * 2 = 2 * i from Nat.mul_comm _ _, itCs_at0 its bs i h.l hi] at this
      simpa [Nat.mul_comm] using this
    · rw [cell_of_row w g _ cur _ (0, 0) hg]
      have : (cur.toList.take (its.length * 2))[i * 2 + 1]? = (itCs its bs)[i * 2 + 1]? := by rw [ht]
      rw [List.getElem?_take, if_pos (by omega), show i * 2 = 2 * i from Nat.mul_comm _ _, itCs_at1 its bs i h.l hi] at this
      simpa [Nat.mul_comm] using this
set_option maxRecDepth 100000 in
theorem KRow.slice {w : World} {C B : Nat} {v : Value} {its : List (Int × List Int)} {bs : List Plc} (h : KRow w C B v its bs) : ∃ a c, v = .slice a its.length c ∧ (a = none → c = 0) := by
  rcases h.o.2 with ⟨h1, h'⟩ | ⟨g, cap, cur, rfl, hb, hg, hnc, hcm, hcs, ht⟩
  · exact ⟨none, 0, by rw [h1, h'], fun _ => rfl⟩
  · exact ⟨_, cap, rfl, fun e => by cases e⟩
set_option maxRecDepth 100000 in
/-- The marks of a row, as the laws read them. -/
def toM (its : List (Int × List Int)) : List Mrk := its.map fun x => ⟨x.2, x.1⟩
set_option maxRecDepth 100000 in
theorem toM_len (its : List (Int × List Int)) : (toM its).length = its.length := by simp [toM]
set_option maxRecDepth 100000 in
theorem toM_get {its : List (Int × List Int)} {i : Nat} (h : i < its.length) : (toM its).getD i mrk0 = ⟨(its.getD i (0, [])).2, (its.getD i (0, [])).1⟩ := by
  unfold toM
  rw [List.getD_eq_getElem?_getD, List.getElem?_map, List.getElem?_eq_getElem h, List.getD_eq_getElem?_getD, List.getElem?_eq_getElem h]
  rfl
set_option maxRecDepth 100000 in
def toP (bs : List Plc) : List Plm := bs.map fun p => ⟨p.a, p.c, p.q⟩
set_option maxRecDepth 100000 in
theorem toP_get {bs : List Plc} {i : Nat} (h : i < bs.length) : (toP bs).getD i plm0 = ⟨(bs.getD i plc0).a, (bs.getD i plc0).c, (bs.getD i plc0).q⟩ := by
  unfold toP
  rw [List.getD_eq_getElem?_getD, List.getElem?_map, List.getElem?_eq_getElem h, List.getD_eq_getElem?_getD, List.getElem?_eq_getElem h]
  rfl
set_option maxRecDepth 100000 in
theorem KRow.rdK {w : World} {C B : Nat} {v : Value} {its : List (Int × List Int)} {bs : List Plc} (h : KRow w C B v its bs) : ∃ g a c, v = .slice a (toM its).length c ∧ RdK w g a (toM its) (toP bs) := by
  by_cases h0 : 0 < its.length
  · obtain ⟨g, c, e, -, -, -, hc, -⟩ := h.cells h0
    refine ⟨g, _, c, by rw [toM_len]; exact e, ⟨fun _ => ⟨0, rfl, fun i hi => ?_⟩, fun i hi => ?_⟩⟩
    · rw [toM_len] at hi
      rw [toM_get hi, toP_get (by rw [h.l]; exact hi)]
      have := hc i hi
      rw [Nat.zero_add]
      exact this
    · rw [toM_len] at hi
      rw [toM_get hi, toP_get (by rw [h.l]; exact hi)]
      exact h.b i hi
  · obtain ⟨a, c, e, -⟩ := h.slice
    exact ⟨0, a, c, by rw [toM_len]; exact e, ⟨fun h1 => absurd h1 (by rw [toM_len]; exact h0), fun i hi => absurd hi (by rw [toM_len]; omega)⟩⟩
set_option maxRecDepth 100000 in
theorem IRow.kRow {w : World} {B : Nat} {v : Value} {its : List (Int × List Int)} {bs : List Plc} (h : IRow w B v its bs) : KRow w B B v its bs := ⟨h.o, h.l, fun i hi => (h.b i hi).o.rd, h.h⟩
end Go.Proofs.Ytjjoimlnpbelpaa

/-
  Windows that are asked: the model (written by gens/waq.py).
-/
namespace Go.Proofs.Ytjjoimlnpbelpaa
open Go Go.RowKit Go.Maps

/-- Where the model stands: s is the answer's box, w4 the world ahead of the loops, C the end of what was there ahead of the copy. -/
structure AkS (w w4 wr : World) (s C : Nat) (wd : Int) (its : List (Int × List Int)) (bs : List Plc) (v : Value) : Prop where
  R : KRow wr C w4.heap.size v its bs
  F : ∀ k, k < w4.heap.size → k ≠ s → wr.heap[k]? = w4.heap[k]?
  S : RwC wr s [.int .i64 0, .int .i64 wd, v] 31
  N : Below w.heap.size w wr
  B1 : w4.heap.size ≤ wr.heap.size
  B2 : w.heap.size ≤ s ∧ s < C ∧ C ≤ w4.heap.size
set_option maxRecDepth 100000 in
theorem AkS.row {w w4 wr : World} {s C : Nat} {wd : Int} {its : List (Int × List Int)} {bs : List Plc} {v : Value} (h : AkS w w4 wr s C wd its bs v) {q : Nat} {cs : List Value} {t : TypeId} (r : RwC w4 q cs t) (hq : q ≠ s) : RwC wr q cs t := (h.F q r.lt hq).trans r
set_option maxRecDepth 100000 in
theorem AkS.app {w w4 wr : World} {s C : Nat} {wd : Int} {its : List (Int × List Int)} {bs : List Plc} {v : Value} (h : AkS w w4 wr s C wd its bs v) {w9 : World} (b9 : Below wr.heap.size wr w9) {p0 : Nat} {x : Int} {D : List Int} {q : Plc} (hp : RwC w9 p0 [.slice q.a D.length q.c, .int .i64 x] 46) (hq : Rd w9 q.q q.a .u8 D) (hqr : 0 < D.length → C ≤ q.q ∧ v.ownBlock ≠ some q.q) (hl : its.length ≤ 1000) :
    ∃ v' w', (Builtin.append_ #[27, 27] 27 #[v, .slice (some ⟨p0, 0, none⟩) 1 1]).run Try.prog w9 = .ok v' w' ∧ w'.cell? ⟨s, 2, none⟩ = some v ∧ w'.frozen? ⟨s, 2, none⟩ = false ∧ ∃ bs', AkS w w4 (w'.setCell ⟨s, 2, none⟩ v') s C wd (its ++ [(x, D)]) bs' v' := by
  obtain ⟨hs, hsC, hC⟩ := h.B2
  have z9 := b9.size
  have hB1 := h.B1
  have R9 := h.R.of (w' := w9) hC (fun k hk _ => b9.block k hk)
  obtain ⟨v', w', r1, r2, r4⟩ := R9.app (x, D) q p0 hp (by omega) hq hqr (by omega)
  have S4 : RwC w' s [.int .i64 0, .int .i64 wd, v] 31 := (r4.block _ (by omega)).trans (h.S.up b9)
  have O5 := Only.setCell w' s 2 v'
  have z4 := r4.size
  refine ⟨v', w', r1, S4.c2, S4.free 2, _, ⟨r2.of hC (fun k hk hB => O5.block k (by omega)), fun k hk hne => ?_, S4.set 2 v', ((h.N.trans (b9.mono h.N.size)).trans (r4.mono (by omega))).trans (O5.below hs), by rw [O5.size]; omega, h.B2⟩⟩
  rw [O5.block k hne, r4.block k hk, b9.block k (by omega)]
  exact h.F k hk hne
set_option maxRecDepth 100000 in
/-- How it ends: the box is laid into the answer's. -/
theorem ak_end {w wA : World} {z C B : Nat} {cd wd : Int} {its : List (Int × List Int)} {bs : List Plc} {v : Value} (R : KRow wA C B v its bs) (hC : C ≤ B) (Z : RwC wA z [.int .i64 0, .int .i64 0, .slice none 0 0] 31) (N : Below w.heap.size w wA) (hz : w.heap.size ≤ z) (hzC : z < C) :
    World.rangeAt (((wA.setCell ⟨z, 0, none⟩ (.int .i64 cd)).setCell ⟨z, 1, none⟩ (.int .i64 wd)).setCell ⟨z, 2, none⟩ v) z 0 [.int .i64 cd, .int .i64 wd, v] ∧ KRow (((wA.setCell ⟨z, 0, none⟩ (.int .i64 cd)).setCell ⟨z, 1, none⟩ (.int .i64 wd)).setCell ⟨z, 2, none⟩ v) C B v its bs ∧ Below w.heap.size w (((wA.setCell ⟨z, 0, none⟩ (.int .i64 cd)).setCell ⟨z, 1, none⟩ (.int .i64 wd)).setCell ⟨z, 2, none⟩ v) := by
  have O : Only z wA (((wA.setCell ⟨z, 0, none⟩ (.int .i64 cd)).setCell ⟨z, 1, none⟩ (.int .i64 wd)).setCell ⟨z, 2, none⟩ v) := ((Only.setCell _ _ _ _).trans (Only.setCell _ _ _ _)).trans (Only.setCell _ _ _ _)
  exact ⟨(((Z.set 0 _).set 1 _).set 2 _).rangeG, R.of hC (fun k hk hB => O.block k (by omega)), N.trans (O.below hz)⟩
set_option maxRecDepth 100000 in
/-- What the model answers. -/
def AsP (w : World) (wd : Int) (ms : List Mrk) (X : List Int) (now : Int) (e : Ending) (w' : World) : Prop := (∃ v C B bs, e = .returned (.agg #[.int .i64 (askC wd ms X now), .int .i64 (askW wd ms X now), v]) ∧ KRow w' C B v (askM wd ms X now) bs) ∧ Below w.heap.size w w'
set_option maxRecDepth 100000 in
theorem asP_bad {w w' : World} {wd : Int} {ms : List Mrk} {X : List Int} {now : Int} (h : ¬ AskOk wd ms X now) (n : Below w.heap.size w w') : AsP w wd ms X now (.returned (.agg #[.int .i64 3, .int .i64 0, .slice none 0 0])) w' := by
  refine ⟨⟨.slice none 0 0, 0, 0, [], ?_, ?_⟩, n⟩
  · unfold askC askW
    rw [if_neg h, if_neg h]
  · unfold askM
    rw [if_neg h]
    exact KRow.nil _ _ _
set_option maxRecDepth 100000 in
theorem asP_ok {w w' : World} {wd : Int} {ms : List Mrk} {X : List Int} {now : Int} (h : AskOk wd ms X now) (n : Below w.heap.size w w') {cd : Int} (hc : cd = tkC (kept ms now) X) {its : List (Int × List Int)} (hi : its = mkOf (askE wd ms X now)) {C B : Nat} {v : Value} {bs : List Plc} (R : KRow w' C B v its bs) : AsP w wd ms X now (.returned (.agg #[.int .i64 cd, .int .i64 wd, v])) w' := by
  refine ⟨⟨v, C, B, bs, ?_, ?_⟩, n⟩
  · unfold askC askW
    rw [if_pos h, if_pos h, hc]
  · unfold askM
    rw [if_pos h, ← hi]
    exact R
set_option maxRecDepth 100000 in
theorem kept_some {ms : List Mrk} {now : Int} {X : List Int} {k : Nat} (hk : k < (mkOf (kept ms now)).length) (h : ((mkOf (kept ms now)).getD k (0, [])).2 = X) : tkC (kept ms now) X = 1 := by
  unfold tkC
  rw [mkOf_len] at hk
  rw [if_pos]
  refine ⟨(kept ms now)[k], List.getElem_mem hk, ?_⟩
  rw [← h]
  unfold mkOf
  rw [List.getD_eq_getElem?_getD, List.getElem?_map, List.getElem?_eq_getElem hk]
  rfl
set_option maxRecDepth 100000 in
theorem kept_none {ms : List Mrk} {now : Int} {X : List Int} (h : ∀ k, k < (mkOf (kept ms now)).length → ((mkOf (kept ms now)).getD k (0, [])).2 ≠ X) : tkC (kept ms now) X = if (mkOf (kept ms now)).length = 64 then 2 else 0 := by
  unfold tkC
  rw [if_neg, mkOf_len]
  rintro ⟨e, he, hx⟩
  obtain ⟨k, hk, rfl⟩ := List.getElem_of_mem he
  refine h k (by rw [mkOf_len]; exact hk) ?_
  rw [← hx]
  unfold mkOf
  rw [List.getD_eq_getElem?_getD, List.getElem?_map, List.getElem?_eq_getElem hk]
  rfl
set_option maxRecDepth 100000 in
theorem askE_stay {wd : Int} {ms : List Mrk} {X : List Int} {now : Int} (h : tkC (kept ms now) X ≠ 0) : mkOf (kept ms now) = mkOf (askE wd ms X now) := by
  unfold askE tkE
  rw [if_neg h]
set_option maxRecDepth 100000 in
theorem askE_more {wd : Int} {ms : List Mrk} {X : List Int} {now : Int} (h : tkC (kept ms now) X = 0) : mkOf (kept ms now) ++ [(now + 2 * wd, X)] = mkOf (askE wd ms X now) := by
  unfold askE tkE
  rw [if_pos h, mkOf_app]
set_option maxRecDepth 100000 in
/-- What is kept of the first marks. -/
def keptTo (ms : List Mrk) (now : Int) (k : Nat) : List Ent := (entsTo ms k).filter fun e => decide (now ≤ e.un)
set_option maxRecDepth 100000 in
theorem keptTo_yes {ms : List Mrk} {now : Int} {k : Nat} (h : now ≤ (ms.getD k mrk0).un) : mkOf (keptTo ms now (k + 1)) = mkOf (keptTo ms now k) ++ [((ms.getD k mrk0).un, (ms.getD k mrk0).id)] := by
  unfold keptTo
  rw [entsTo_succ, List.filter_append, List.filter_cons_of_pos (by simpa using h), List.filter_nil, mkOf_app]
set_option maxRecDepth 100000 in
theorem keptTo_no {ms : List Mrk} {now : Int} {k : Nat} (h : ¬ now ≤ (ms.getD k mrk0).un) : mkOf (keptTo ms now (k + 1)) = mkOf (keptTo ms now k) := by
  unfold keptTo
  rw [entsTo_succ, List.filter_append, List.filter_cons_of_neg (by simpa using h), List.filter_nil, List.append_nil]
set_option maxRecDepth 100000 in
theorem keptTo_len (ms : List Mrk) (now : Int) (k : Nat) : (mkOf (keptTo ms now k)).length ≤ k := by
  rw [mkOf_len]
  unfold keptTo
  have := List.length_filter_le (fun e : Ent => decide (now ≤ e.un)) (entsTo ms k)
  rw [entsTo_len] at this
  exact this
set_option maxRecDepth 100000 in
theorem mkE_get {ms : List Mrk} {n k : Nat} (h : k < n) : (mkOf (entsTo ms n)).getD k (0, []) = ((ms.getD k mrk0).un, (ms.getD k mrk0).id) := by
  unfold mkOf entsTo
  rw [List.getD_eq_getElem?_getD, List.getElem?_map, List.getElem?_map, List.getElem?_range h]
  rfl
set_option maxRecDepth 100000 in
theorem kept_byt {ms : List Mrk} {now : Int} (hb : ∀ i, i < ms.length → Byt (ms.getD i mrk0).id) {j : Nat} (hj : j < (mkOf (kept ms now)).length) : Byt ((mkOf (kept ms now)).getD j (0, [])).2 := by
  rw [mkOf_len] at hj
  have e : ((mkOf (kept ms now)).getD j (0, [])).2 = ((kept ms now)[j]).id := by
    unfold mkOf
    rw [List.getD_eq_getElem?_getD, List.getElem?_map, List.getElem?_eq_getElem hj]
    rfl
  rw [e]
  have hm : (kept ms now)[j] ∈ entsTo ms ms.length := (List.mem_filter.1 (List.getElem_mem hj)).1
  unfold entsTo at hm
  obtain ⟨i, hi, he⟩ := List.mem_map.1 hm
  rw [← he]
  exact hb i (by simpa using hi)
set_option maxRecDepth 100000 in
/-- A row of one mark that lends its list. -/
def NBo (pa : Option Addr) (n pc : Nat) (x : Int) : Fact := ⟨fun v w => ∃ p, v = .slice (some ⟨p, 0, none⟩) 1 1 ∧ RwC w p [.slice pa n pc, .int .i64 x] 46, fun n h => by
  obtain ⟨p, e, r⟩ := h
  exact ⟨p, e, r.up n⟩⟩
end Go.Proofs.Ytjjoimlnpbelpaa
