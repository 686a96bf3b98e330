import Derived.Test.YtpopaifcanlkeaaGreatGE10
import Derived.Test.YtpopaifcanlkeaaGreatGE13
import Derived.OpenShut
import Derived.SliceStrings
import Derived.Test.YtpopaifcanlkeaaGreatGE1
import Derived.Laws.AppendOwnNone
import Derived.Lib.AppendZeros
import Derived.Deep.MidRow
import Derived.Test.YtpopaifcanlkeaaGreatGE4
import Derived.Lib.AppendStr
import Derived.Test.YtpopaifcanlkeaaGreatGE5

/-
  The laws' helpers on a message by value (MhK without its law).
-/
namespace Go.Proofs.YtpopaifcanlkeaaGreat
open Go Go.RowKit

theorem iLM : (Tryz.prog.info? 26).map (·.size) = some 13 := by kernel_rfl
theorem rowLM : ∃ d, Tryz.prog.underlying 26 = some d ∧ d.isRow = true := ⟨_, Tryz.underlying26, rfl⟩
theorem rangeM {w w' : World} {b : Nat} {cs : List Value} (h : w.rangeAt b 0 cs) (n : Below w.heap.size w w') : w'.rangeAt b 0 cs := fun j v hj => (n.cell (block_lt_of_cell (h j v hj))).trans (h j v hj)
theorem mgV_one (q : MQ) (m : Msg) : (mgV q m).all (·.oneCell') = true := by
  refine all_oneCell_toArray (cs := [.int .i64 m.k, .int .i64 m.v, .slice q.a2 m.r.length q.c2, .slice q.a3 m.s.length q.c3, .string ⟨⟨m.ho⟩⟩, .slice q.a5 m.pr.length q.c5, .slice q.a6 m.ti.length q.c6, .int .i64 m.ag, .int .i64 m.ea, .slice q.a9 m.bi.length q.c9, .bool m.rs, .slice q.a11 m.ce.length q.c11, .slice q.a12 m.pf.length q.c12]) fun v hv => ?_
  simp only [List.mem_cons, List.not_mem_nil, or_false] at hv
  rcases hv with rfl | rfl | rfl | rfl | rfl | rfl | rfl | rfl | rfl | rfl | rfl | rfl | rfl
  all_goals rfl
/-- A message that may be read. -/
def FM (m : Msg) : Fact := ⟨fun v w => ∃ q, v = .agg (mgV q m) ∧ HasM w q m, fun n h => by
  obtain ⟨q, e, h⟩ := h
  exact ⟨q, e, h.up n⟩⟩
section
variable {ops : Array Oper} {Q : Exit → Act → World → Prop} {md : Region.Mode} {F : Nat → Fact} {a0 : Act} {w0 : World} {i : Nat} {o : Oper} {ts : Array TypeId}
theorem step_lM (ty : TypeId) (hu : ∃ d, Tryz.prog.underlying ty = some d ∧ d.isRow = true) (hs : (Tryz.prog.info? ty).map (·.size) = some 13) (hi : ops[i]? = some o) (p : Nat) (hop : o.op = .load ty (.tmp p)) (hp : apart ops p = true) (b : Nat) (h0 : a0.tmps.getD p undef = .pointer (some ⟨b, 0, none⟩)) {q : MQ} {m : Msg} (T : w0.rangeAt b 0 (mgV q m).toList) (hF : F i = Fact.eq (.agg (mgV q m))) : StepOk Tryz.prog md ops Q F a0 w0 i := by
  obtain ⟨d, hu, hr⟩ := hu
  refine step_load hi _ _ hop _ 13 hu hr hs fun a w hb hw _ => ?_
  exact ⟨b, 0, (mgV q m).toList, (based_at hb p hp).trans h0, rangeM T hw, rfl, by rw [hF]; exact rfl⟩
theorem step_toM (hi : ops[i]? = some o) (p j : Nat) {q : MQ} {m : Msg} (hop : o.op = .call { callee := .value (.func 6), args := #[.tmp p], argTypes := ts })
    (hj : waits md ops i j p = true) (hC : HasM w0 q m) (im : IsM m) (hFj : F j = Fact.eq (.agg (mgV q m))) (hFi : F i = FM m) : StepOk Tryz.prog md ops Q F a0 w0 i := by
  refine step_callv hi _ _ ts hop (by kernel_rfl) fun A w _ hw hF => ?_
  have ea := hF j p hj
  rw [hFj] at ea
  show Calls Tryz.prog 6 #[A.tmps.getD p undef] w _
  rw [show A.tmps.getD p undef = _ from ea]
  refine (toMessage_any w q m (hC.up hw) im).mono ?_
  rintro r w' ⟨⟨z, rfl, hz⟩, hn⟩
  rw [hFi]
  exact ⟨_, rfl, hn, z, rfl, hz⟩
theorem step_eqM (hi : ops[i]? = some o) (p q j k : Nat) {z : MQ} {m : Msg} (hop : o.op = .call { callee := .value (.func 9), args := #[.tmp p, .tmp q], argTypes := ts })
    (hj : waits md ops i j p = true) (hk : waits md ops i k q = true) (hC : HasM w0 z m) (im : IsM m) (hFj : F j = Fact.eq (.agg (mgV z m))) (hFk : F k = FM m) (hFi : F i = Fact.eq (.bool true)) : StepOk Tryz.prog md ops Q F a0 w0 i := by
  refine step_callv hi _ _ ts hop (by kernel_rfl) fun A w _ hw hF => ?_
  have ea := hF j p hj
  rw [hFj] at ea
  have eb := hF k q hk
  rw [hFk] at eb
  obtain ⟨y, eb, hy⟩ := eb
  show Calls Tryz.prog 9 #[A.tmps.getD p undef, A.tmps.getD q undef] w _
  rw [show A.tmps.getD p undef = _ from ea, show A.tmps.getD q undef = _ from eb]
  refine (eqMessage_same w z y m (hC.up hw) hy im).mono ?_
  rintro r w' ⟨rfl, hn⟩
  rw [hFi]
  exact ⟨_, rfl, hn, rfl⟩
theorem step_notM {P : Program} (hi : ops[i]? = some o) (p j : Nat) {b : Bool} {t : TypeId} (hop : o.op = .unOp .not t (.tmp p)) (hj : waits md ops i j p = true) (hFj : F j = Fact.eq (.bool b)) (hFi : F i = Fact.eq (.bool (!b))) : StepOk P md ops Q F a0 w0 i := by
  refine step_pure hi fun a w _ _ hf => ⟨.bool (!b), ?_, by rw [hFi]; exact rfl⟩
  have e := hf j p hj
  rw [hFj] at e
  have e' : a.eval (.tmp p) = .bool b := e
  simp only [execOp, hop, e']
  rfl
end
/-- A message of any size that a machine holds. -/
structure OkM (m : Msg) : Prop where
  rB : Byt m.r
  sB : Byt m.s
  tiB : Byt m.ti
  biB : Byt m.bi
  pfB : Byt m.pf
  ceB : ∀ i, i < m.ce.length → Byt (m.ce.getD i [])
  l2 : m.r.length ≤ 9223372036854775807
  l3 : m.s.length ≤ 9223372036854775807
  l4 : m.ho.length ≤ 9223372036854775807
  l5 : m.pr.length ≤ 9223372036854775807
  lz : ∀ l ∈ m.pr, l.length ≤ 9223372036854775807
  l6 : m.ti.length ≤ 9223372036854775807
  l9 : m.bi.length ≤ 9223372036854775807
  l11 : m.ce.length ≤ 9223372036854775807
  lc : ∀ i, i < m.ce.length → (m.ce.getD i []).length ≤ 9223372036854775807
  l12 : m.pf.length ≤ 9223372036854775807
theorem isM_of {m : Msg} (o : OkM m) (h : m.r.length + m.s.length + m.ho.length + (m.pr.length + sumT m.pr) + m.ti.length + m.bi.length + (m.ce.length + sumB m.ce) + m.pf.length ≤ 1048576) : IsM m :=
  ⟨o.rB, o.sB, o.tiB, o.biB, o.pfB, o.ceB, by omega, by omega, by omega, by omega, by omega, by omega, by omega, fun i hi => by have := sumB_get hi; omega, by omega, fun l hl => by have := sumT_mem hl; omega⟩
end Go.Proofs.YtpopaifcanlkeaaGreat

/-
  What comes in as a message (MhL without its law).
-/
namespace Go.Proofs.YtpopaifcanlkeaaGreat
open Go Go.RowKit Go.ChangeShapes Go.WideShapes

theorem rdT_of_rowM {w : World} {a : Option Addr} {len cap : Nat} {ss : List ByteArray}
    (h : (a = none ∧ len = 0 ∧ cap = 0 ∧ ss = []) ∨ ∃ x, a = some x ∧ len ≤ cap ∧ cap ≤ maxLen ∧ ss.length = cap ∧ (∀ i, i < ss.length → w.cell? (x.add i) = some (.string (ss.getD i ByteArray.empty))) ∧ ∀ s ∈ ss, s.size ≤ maxLen) :
    ∃ (g : Nat) (ls : List (List UInt8)), ls.length = len ∧ RdT w g a ls ∧ ls.length ≤ 9223372036854775807 ∧ ∀ l ∈ ls, l.length ≤ 9223372036854775807 := by
  rcases h with ⟨rfl, rfl, rfl, rfl⟩ | ⟨x, rfl, hl, hm, hz, hc, hw⟩
  · exact ⟨0, [], rfl, RdT.nil _ _ _, by simp, fun l h => by cases h⟩
  · have hlen : ((ss.take len).map (fun s : ByteArray => s.data.toList)).length = len := by simp; omega
    refine ⟨x.block, (ss.take len).map (fun s : ByteArray => s.data.toList), hlen, ?_, by rw [hlen]; unfold maxLen at hm; omega, ?_⟩
    · intro h0
      rw [hlen] at h0
      obtain ⟨b, off, spot⟩ := x
      have h1 := hc 0 (by omega)
      have hs : spot = none := by simpa [Addr.add] using World.cell?_spot h1
      subst hs
      refine ⟨off, rfl, fun i hi => ?_⟩
      rw [hlen] at hi
      have h2 := hc i (by omega)
      have e : (⟨b, off, none⟩ : Addr).add i = ⟨b, off + i, none⟩ := by
        unfold Addr.add
        split <;> simp_all
      rw [e] at h2
      show w.cell? ⟨b, off + i, none⟩ = _
      rw [h2]
      have hi2 : i < ss.length := by omega
      simp [hi, hi2, tx]
    · intro l hl'
      obtain ⟨s, hs, rfl⟩ := List.mem_map.1 hl'
      have := hw s (List.mem_of_mem_take hs)
      unfold maxLen at this
      exact this
theorem rd_of_rowM {w : World} {a : Option Addr} {len cap : Nat} {zs : List Int}
    (h : (a = none ∧ len = 0 ∧ cap = 0 ∧ zs = []) ∨ ∃ x, a = some x ∧ len ≤ cap ∧ cap ≤ maxLen ∧ zs.length = cap ∧ (∀ i, i < zs.length → w.cell? (x.add i) = some (.int .u8 (zs.getD i 0))) ∧ ∀ n ∈ zs, (Lit.int .u8 n).wf = true) :
    ∃ (g : Nat) (xs : List Int), xs.length = len ∧ Rd w g a .u8 xs ∧ Byt xs ∧ xs.length ≤ 9223372036854775807 := by
  obtain ⟨g, xs, e, r, b⟩ := rd_of_row h
  refine ⟨g, xs, e, r, b, ?_⟩
  rw [e]
  rcases h with ⟨_, rfl, _, _⟩ | ⟨x, _, hl, hm, _⟩
  · omega
  · unfold maxLen at hm
    omega
def IsRowM (w : World) (a : Option Addr) (len cap : Nat) (zs : List Int) : Prop :=
  (a = none ∧ len = 0 ∧ cap = 0 ∧ zs = []) ∨ ∃ x, a = some x ∧ len ≤ cap ∧ cap ≤ maxLen ∧ zs.length = cap ∧ (∀ i, i < zs.length → w.cell? (x.add i) = some (.int .u8 (zs.getD i 0))) ∧ ∀ n ∈ zs, (Lit.int .u8 n).wf = true
def IsRowB (w : World) (a : Option Addr) (len cap : Nat) : Prop :=
  (a = none ∧ len = 0 ∧ cap = 0) ∨ ∃ x, a = some x ∧ len ≤ cap ∧ cap ≤ maxLen ∧ ∀ i, i < len → ∃ (ai : Option Addr) (li ci : Nat) (zi : List Int), w.cell? (x.add i) = some (.slice ai li ci) ∧ IsRowM w ai li ci zi
theorem pickG {α : Type} (d : α) {P : Nat → α → Prop} : ∀ n, (∀ j, j < n → ∃ G, P j G) → ∃ Gs : List α, Gs.length = n ∧ ∀ j, j < n → P j (Gs.getD j d)
  | 0, _ => ⟨[], rfl, fun j hj => absurd hj (by omega)⟩
  | n + 1, h => by
    obtain ⟨Gs, hl, hG⟩ := pickG d (P := P) n (fun j hj => h j (by omega))
    obtain ⟨G, hn⟩ := h n (by omega)
    refine ⟨Gs ++ [G], by simp [hl], fun j hj => ?_⟩
    by_cases e : j < n
    · have : (Gs ++ [G]).getD j d = Gs.getD j d := by
        rw [List.getD_eq_getElem?_getD, List.getElem?_append_left (by omega), ← List.getD_eq_getElem?_getD]
      rw [this]
      exact hG j e
    · obtain rfl : j = n := by omega
      have : (Gs ++ [G]).getD j d = G := by
        rw [List.getD_eq_getElem?_getD, List.getElem?_append_right (by omega), hl]
        simp
      rw [this]
      exact hn
theorem rdL_of_row {w : World} {a : Option Addr} {len cap : Nat} (h : IsRowB w a len cap) :
    ∃ (g : Nat) (ce : List (List Int)) (ps : List Plb), ce.length = len ∧ RdL w g a ce ps ∧ (∀ i, i < ce.length → Byt (ce.getD i [])) ∧ ce.length ≤ 9223372036854775807 ∧ ∀ i, i < ce.length → (ce.getD i []).length ≤ 9223372036854775807 := by
  rcases h with ⟨rfl, rfl, rfl⟩ | ⟨x, rfl, hl, hm, hr⟩
  · exact ⟨0, [], [], rfl, ⟨fun h => absurd h (by simp), fun i hi => absurd hi (by simp)⟩, fun i hi => absurd hi (by simp), by simp, fun i hi => absurd hi (by simp)⟩
  · have H : ∀ i, i < len → ∃ G : List Int × Plb, w.cell? (x.add i) = some (.slice G.2.a G.1.length G.2.c) ∧ Rd w G.2.q G.2.a .u8 G.1 ∧ Byt G.1 ∧ G.1.length ≤ 9223372036854775807 := fun i hi => by
      obtain ⟨ai, li, ci, zi, e, hz⟩ := hr i hi
      obtain ⟨g, xs, rfl, r, b, l⟩ := rd_of_rowM hz
      exact ⟨(xs, ⟨ai, ci, g⟩), e, r, b, l⟩
    obtain ⟨Gs, hGl, hG⟩ := pickG (([] : List Int), plb0) len H
    have e1 : ∀ i, i < len → (Gs.map (·.1)).getD i [] = (Gs.getD i ([], plb0)).1 := fun i hi => by
      rw [List.getD_eq_getElem?_getD, List.getElem?_map, List.getElem?_eq_getElem (by omega), List.getD_eq_getElem?_getD, List.getElem?_eq_getElem (by omega)]
      rfl
    have e2 : ∀ i, i < len → (Gs.map (·.2)).getD i plb0 = (Gs.getD i ([], plb0)).2 := fun i hi => by
      rw [List.getD_eq_getElem?_getD, List.getElem?_map, List.getElem?_eq_getElem (by omega), List.getD_eq_getElem?_getD, List.getElem?_eq_getElem (by omega)]
      rfl
    have el : (Gs.map (·.1)).length = len := by simp [hGl]
    refine ⟨x.block, Gs.map (·.1), Gs.map (·.2), el, ⟨fun h0 => ?_, fun i hi => ?_⟩, fun i hi => ?_, by rw [el]; unfold maxLen at hm; omega, fun i hi => ?_⟩
    · rw [el] at h0
      obtain ⟨b, off, spot⟩ := x
      have h1 := (hG 0 h0).1
      have hs : spot = none := by simpa [Addr.add] using World.cell?_spot h1
      subst hs
      refine ⟨off, rfl, fun i hi => ?_⟩
      rw [el] at hi
      have h2 := (hG i hi).1
      have e : (⟨b, off, none⟩ : Addr).add i = ⟨b, off + i, none⟩ := by
        unfold Addr.add
        split <;> simp_all
      rw [e] at h2
      rw [e1 i hi, e2 i hi]
      exact h2
    · rw [el] at hi
      rw [e1 i hi, e2 i hi]
      exact (hG i hi).2.1
    · rw [el] at hi
      rw [e1 i hi]
      exact (hG i hi).2.2.1
    · rw [el] at hi
      rw [e1 i hi]
      exact (hG i hi).2.2.2
set_option maxRecDepth 100000 in
theorem open_blobs {H : Type} {enc : TypeId × Value → H} {w : World} {base : Nat} {held : Bool} {fuel : Nat} {v : Value} {y : DataW H × List MemPlace} (h : DataW.trod enc Tryz.prog w base (fun _ => true) held fuel 24 [v] = some y) : ∃ a len cap, v = .slice a len cap ∧ IsRowB w a len cap := by
  rcases DataW.trod_slice Tryz.underlying24 h with ⟨hcs, _⟩ | ⟨x, l, c, elems, rest, n, _, hcs, _, _, hl, hm, hlen, hel, _, _⟩
  · simp at hcs
    exact ⟨none, 0, 0, hcs, .inl ⟨rfl, rfl, rfl⟩⟩
  · simp at hcs
    refine ⟨some x, l, c, hcs, .inr ⟨x, rfl, hl, hm, fun i hi => ?_⟩⟩
    have hb := hel i hi
    have hc1 : Tryz.prog.cellsOf 56 = 1 := by kernel_rfl
    rw [hc1, Nat.mul_one, List.getElem?_eq_getElem (by omega), Option.bind_eq_some_iff] at hb
    obtain ⟨cs', hcs', hy⟩ := hb
    obtain ⟨xs, n', _, _, hcl, hxl, hf⟩ := DataW.trod_struct Tryz.underlying56 hy
    have hx1 : xs.length = 1 := hxl
    rw [hc1] at hcl
    match cs', hcl, xs, hx1 with
    | [u], _, [z], _ =>
      have h0 := hf 0 _ rfl
      have hc2 : Tryz.prog.cellsOf 22 = 1 := by kernel_rfl
      have h0 : DataW.trod enc Tryz.prog w base (fun _ => true) held n' 22 [u] = some z := h0
      rcases open_ints Tryz.underlying22 Tryz.underlying5 (by kernel_rfl) h0 with ⟨hu, _⟩ | ⟨x', l', c', zs, hu, _, hl', hm', hz', _, hcell', hwz'⟩
      · simp at hu
        subst hu
        exact ⟨none, 0, 0, [], cell_of_cells?_one hcs', .inl ⟨rfl, rfl, rfl, rfl⟩⟩
      · simp at hu
        subst hu
        exact ⟨some x', l', c', zs, cell_of_cells?_one hcs', .inr ⟨x', rfl, hl', hm', by simpa using hz', hcell', hwz'⟩⟩
end Go.Proofs.YtpopaifcanlkeaaGreat

/-
  A row of bytes appended to an owned row of bytes, nil ones too, as one equation. No program in sight.
-/
namespace Go.Proofs.YtpopaifcanlkeaaGreat
open Go.RowKit

/-- A row of bytes that the walk owns. -/
def RowB (w : World) (base : Nat) (v : Value) (xs : List Int) : Prop := w.ownsRow base 5 1 v xs.length (xs.map (Value.int .u8))
theorem RowB.up {w w' : World} {base : Nat} {v : Value} {xs : List Int} (h : RowB w base v xs) (hb : Below w.heap.size w w') : RowB w' base v xs := by
  refine ⟨h.1, ?_⟩
  rcases h.2 with h' | ⟨g, cap, cur, rfl, hbg, hg, hnc, hcm, hcs, ht⟩
  · exact .inl h'
  · exact .inr ⟨g, cap, cur, rfl, hbg, by rw [hb.block g ((Array.getElem?_eq_some_iff.1 hg).1)]; exact hg, hnc, hcm, hcs, ht⟩
theorem RowB.only {w w' : World} {base q : Nat} {v : Value} {xs : List Int} (h : RowB w base v xs) (hb : Only q w w') (hq : q < base) : RowB w' base v xs := by
  refine ⟨h.1, ?_⟩
  rcases h.2 with h' | ⟨g, cap, cur, rfl, hbg, hg, hnc, hcm, hcs, ht⟩
  · exact .inl h'
  · exact .inr ⟨g, cap, cur, rfl, hbg, by rw [hb.block g (by omega)]; exact hg, hnc, hcm, hcs, ht⟩
theorem RowB.base {w : World} {base base' : Nat} {v : Value} {xs : List Int} (h : RowB w base v xs) (hb : base' ≤ base) : RowB w base' v xs := by
  refine ⟨h.1, ?_⟩
  rcases h.2 with h' | ⟨g, cap, cur, rfl, hbg, hg, hnc, hcm, hcs, ht⟩
  · exact .inl h'
  · exact .inr ⟨g, cap, cur, rfl, by omega, hg, hnc, hcm, hcs, ht⟩
theorem RowB.own {w : World} {base : Nat} {v : Value} {xs : List Int} (h : RowB w base v xs) :
    ∃ (a : Option Addr) (c g : Nat), v = .slice a xs.length c ∧ Own w g a .u8 xs ∧ (a = none → c = 0) ∧ xs.length ≤ c ∧ base ≤ g := Own.of_ownsRow h
/-- What an append leaves, with all that is asked of it. -/
theorem append_any {P : Program} (w : World) (ty : TypeId) (i : TypeInfo) (ht : P.underlying 22 = some (.slice 5)) (hi : P.info? 5 = some i) (hz : i.zero = some (.int .u8 0)) (hsize : i.size = 1) (hby : i.bytes = 1)
    (base B : Nat) (v : Value) (xs : List Int) (hown : RowB w base v xs) (g : Nat) (a : Option Addr) (c : Nat) (us : List Int) (hr : Rd w g a .u8 us) (hc : a = none → c = 0) (hl : xs.length + us.length ≤ 1099511627776) (hB : B ≤ base) (hbase : base ≤ w.heap.size) :
    ∃ v' w', (Builtin.append_ #[22, 22] ty #[v, .slice a us.length c]).run P w = .ok v' w' ∧ RowB w' base v' (xs ++ us) ∧ Below B w w' := by
  cases a with
  | none =>
    obtain rfl : us = [] := by
      by_cases h0 : 0 < us.length
      · obtain ⟨off, h, _⟩ := hr h0
        simp at h
      · exact List.eq_nil_of_length_eq_zero (by omega)
    obtain rfl := hc rfl
    exact ⟨v, w, run_append_owned_none (P := P) (w := w) base 22 ty 5 i 1 ht hi v _ _ hown, by rw [List.append_nil]; exact hown, Below.refl _ _⟩
  | some ad =>
    have hcell : ∀ j u, (us.map (Value.int .u8))[j]? = some u → w.cell? (ad.add j) = some u := by
      intro j u hj
      have hjl : j < us.length := by
        have := (List.getElem?_eq_some_iff.1 hj).1
        simpa using this
      obtain ⟨off, ha, hcc⟩ := hr (by omega)
      simp only [Option.some.injEq] at ha
      subst ha
      rw [Addr.add_mid, hcc j hjl]
      simpa [hjl] using hj
    have hone : ∀ u ∈ us.map (Value.int .u8), u.oneCell' = true := by
      intro u hu
      obtain ⟨x, _, rfl⟩ := List.mem_map.1 hu
      rfl
    obtain ⟨v', w', h1, h2, h3, _⟩ := run_append_own (P := P) w base 22 ty 5 i (.int .u8 0) 1 1 ht hi hz hsize hby rfl (by decide) v xs.length (xs.map (Value.int .u8)) hown ad us.length c (us.map (Value.int .u8)) (by simp) hcell hone (by unfold maxLen; omega) (by omega) hbase
    refine ⟨v', w', h1, ?_, (Below.refl B w).grown h3 (by omega) (fun k hk => by have := (World.ownsRow.lt hown k hk).1; omega)⟩
    show w'.ownsRow base 5 1 v' (xs ++ us).length ((xs ++ us).map (Value.int .u8))
    rw [List.length_append, List.map_append]
    exact h2
theorem RowB.lit0 (w : World) : RowB (w.alloc (.cells #[] 5)) w.heap.size (.slice (some ⟨w.heap.size, 0, none⟩) 0 0) [] :=
  World.ownsRow_lit w #[] 0 (Nat.le_refl _) (by unfold maxLen; omega) (by simp)
theorem RowB.lit1 (w : World) (x : Int) : RowB (w.alloc (.cells #[.int .u8 x] 5)) w.heap.size (.slice (some ⟨w.heap.size, 0, none⟩) 1 1) [x] :=
  World.ownsRow_lit w #[.int .u8 x] 1 (Nat.le_refl _) (by unfold maxLen; omega) (by simp)
theorem RowB.rd {w : World} {base : Nat} {v : Value} {xs : List Int} (h : RowB w base v xs) : ∃ (a : Option Addr) (c g : Nat), v = .slice a xs.length c ∧ Rd w g a .u8 xs ∧ (a = none → c = 0) ∧ xs.length ≤ c ∧ base ≤ g := by
  obtain ⟨a, c, g, h1, h2, h3⟩ := h.own
  exact ⟨a, c, g, h1, h2.rd, h3⟩
theorem newRow_e (w : World) (k : IntKind) : NewRow w.heap.size (w.alloc (.cells #[] 5)) (.returned (.slice (some ⟨w.heap.size, 0, none⟩) 0 0)) k [] :=
  ⟨_, 0, w.heap.size, rfl, Own.nil _ _ _ _, by simp, Nat.zero_le _, Nat.le_refl _⟩
theorem newRow_z (w : World) (k : IntKind) : NewRow w.heap.size w (.returned (.slice none 0 0)) k [] :=
  ⟨_, 0, w.heap.size, rfl, Own.nil _ _ _ _, by simp, Nat.zero_le _, Nat.le_refl _⟩
theorem blk_lit1 (w : World) (k : IntKind) (e : TypeId) (x : Int) : Blk (w.alloc (.cells #[.int k x] e)) w.heap.size k [x] := by
  refine ⟨e, ?_⟩
  show (w.heap.push _)[w.heap.size]? = _
  simp
end Go.Proofs.YtpopaifcanlkeaaGreat

/-
  Numbers as bytes, the highest first, and the padding of a hash. No program in sight.
-/
namespace Go.Proofs.YtpopaifcanlkeaaGreat
open Go.RowKit

/-- v in t bytes, the highest first. -/
def bigL (v : Int) (t : Nat) : List Int := (List.range t).map fun j => v / 256 ^ (t - 1 - j) % 256
theorem bigL_len (v : Int) (t : Nat) : (bigL v t).length = t := by simp [bigL]
theorem bigL_get (v : Int) (t j : Nat) (h : j < t) : (bigL v t).getD j 0 = v / 256 ^ (t - 1 - j) % 256 := by simp [bigL, h]
theorem bigL_byt (v : Int) (t : Nat) : Byt (bigL v t) := by
  intro j
  by_cases h : j < t
  · rw [bigL_get v t j h]
    omega
  · have : (bigL v t).getD j 0 = 0 := by
      rw [List.getD_eq_getElem?_getD, List.getElem?_eq_none (by rw [bigL_len]; omega)]
      rfl
    rw [this]
    omega

/-- The last k places of ys are those of v. -/
def BigTo (v : Int) (t : Nat) (ys : List Int) (k : Nat) : Prop := ys.length = t ∧ ∀ j, t - k ≤ j → j < t → ys.getD j 0 = v / 256 ^ (t - 1 - j) % 256
theorem BigTo.zero (v : Int) (t : Nat) : BigTo v t (List.replicate t 0) 0 := ⟨by simp, fun j h h' => absurd h (by omega)⟩
theorem BigTo.step {v : Int} {t : Nat} {ys : List Int} {k : Nat} (h : BigTo v t ys k) (hk : k < t) : BigTo v t (ys.set (t - 1 - k) (v / 256 ^ k % 256)) (k + 1) := by
  refine ⟨by simpa using h.1, fun j hj hj' => ?_⟩
  by_cases e : t - 1 - k = j
  · subst e
    rw [getD_set_self _ _ _ (by rw [h.1]; omega), show t - 1 - (t - 1 - k) = k by omega]
  · rw [getD_set_ne _ _ _ _ e]
    exact h.2 j (by omega) hj'
theorem BigTo.all {v : Int} {t : Nat} {ys : List Int} (h : BigTo v t ys t) : ys = bigL v t :=
  eq_of_getD (by rw [h.1, bigL_len]) (fun i hi => by rw [h.1] at hi; rw [h.2 i (by omega) hi, bigL_get v t i hi])
theorem div256 (v : Int) (k : Nat) : v / 256 ^ k / 256 = v / 256 ^ (k + 1) := by
  have h0 := p256_pos k
  rw [Int.ediv_ediv_of_nonneg (by omega), ← Int.pow_succ]

theorem getD_apd_right (xs ys : List Int) (i : Nat) (h : xs.length ≤ i) : (xs ++ ys).getD i 0 = ys.getD (i - xs.length) 0 := by
  rw [List.getD_eq_getElem?_getD, List.getElem?_append_right h, ← List.getD_eq_getElem?_getD]
theorem getD_apd_left (xs ys : List Int) (i : Nat) (h : i < xs.length) : (xs ++ ys).getD i 0 = xs.getD i 0 := by
  rw [List.getD_eq_getElem?_getD, List.getElem?_append_left h, ← List.getD_eq_getElem?_getD]

/-- How many zeros, and the whole padding. -/
def padZ (n : Int) (B t : Nat) : Nat := (((B : Int) - (n + 1 + (t : Int)) % (B : Int)) % (B : Int)).toNat
def padL (n : Int) (B t : Nat) : List Int := 128 :: (List.replicate (padZ n B t) 0 ++ bigL (8 * n) t)
theorem padL_len (n : Int) (B t : Nat) : (padL n B t).length = 1 + padZ n B t + t := by
  unfold padL
  simp [bigL_len]
  omega
theorem byt_cons {x : Int} {xs : List Int} (h0 : 0 ≤ x) (h1 : x < 256) (h : Byt xs) : Byt (x :: xs) := by
  intro j
  cases j with
  | zero => exact ⟨h0, h1⟩
  | succ j => exact h j
theorem byt_apd {xs ys : List Int} (h : Byt xs) (k : Byt ys) : Byt (xs ++ ys) := by
  intro j
  rw [List.getD_eq_getElem?_getD]
  by_cases c : j < xs.length
  · rw [List.getElem?_append_left c, ← List.getD_eq_getElem?_getD]
    exact h j
  · rw [List.getElem?_append_right (by omega), ← List.getD_eq_getElem?_getD]
    exact k _
theorem byt_rep0 (n : Nat) : Byt (List.replicate n 0) := by
  intro j
  rw [List.getD_eq_getElem?_getD, List.getElem?_replicate]
  split <;> simp
theorem padL_byt (n : Int) (B t : Nat) : Byt (padL n B t) := byt_cons (by omega) (by omega) (byt_apd (byt_rep0 _) (bigL_byt _ _))
/-- What is asked for: nothing, where n is not to be hashed. -/
def padA (n : Int) (B t : Nat) : List Int := if 0 ≤ n ∧ n ≤ 1099511627776 then padL n B t else []
theorem padA_byt (n : Int) (B t : Nat) : Byt (padA n B t) := by
  unfold padA
  split
  · exact padL_byt n B t
  · intro j
    simp
theorem padZ_lt (n : Int) {B t : Nat} (h : 0 < B) : padZ n B t < B := by
  unfold padZ
  have h0 := Int.emod_nonneg ((B : Int) - (n + 1 + (t : Int)) % (B : Int)) (show (B : Int) ≠ 0 by omega)
  have h1 := Int.emod_lt_of_pos ((B : Int) - (n + 1 + (t : Int)) % (B : Int)) (show (0 : Int) < (B : Int) by omega)
  omega
theorem padA_len (n : Int) {B t : Nat} (h : 0 < B) : (padA n B t).length ≤ B + t := by
  unfold padA
  split
  · rw [padL_len]
    have := padZ_lt n (t := t) h
    omega
  · simp
/-- As long as the length is no multiple, there are less zeros than are asked. -/
theorem padZ_go {n : Int} {B t k : Nat} (h : k ≤ padZ n B t) (hB : B = 64 ∧ t = 8 ∨ B = 128 ∧ t = 16) (hn : (n + (1 + (k : Int)) + (t : Int)) % (B : Int) ≠ 0) : k + 1 ≤ padZ n B t := by
  unfold padZ at *
  rcases hB with ⟨rfl, rfl⟩ | ⟨rfl, rfl⟩ <;> omega
theorem padZ_end {n : Int} {B t k : Nat} (h : k ≤ padZ n B t) (hB : B = 64 ∧ t = 8 ∨ B = 128 ∧ t = 16) (hn : (n + (1 + (k : Int)) + (t : Int)) % (B : Int) = 0) : k = padZ n B t := by
  unfold padZ at *
  rcases hB with ⟨rfl, rfl⟩ | ⟨rfl, rfl⟩ <;> omega

/-- The program's: the size, and the places from the end on. -/
def padS (n : Int) (B t : Nat) : Nat := 1 + padZ n B t + t
theorem padS_32 (n : Int) : ((padS n 64 8 : Nat) : Int) = if 64 - n % 64 < 9 then 64 - n % 64 + 64 else 64 - n % 64 := by
  unfold padS padZ
  split <;> omega
theorem padS_64 (n : Int) : ((padS n 128 16 : Nat) : Int) = if 128 - n % 128 < 17 then 128 - n % 128 + 128 else 128 - n % 128 := by
  unfold padS padZ
  split <;> omega
def PadTo (n : Int) (s : Nat) (ys : List Int) (k : Nat) : Prop :=
  ys.length = s ∧ ys.getD 0 0 = 128 ∧ (∀ j, 0 < j → j < s - k → ys.getD j 0 = 0) ∧ ∀ j, s - k ≤ j → j < s → ys.getD j 0 = 8 * n / 256 ^ (s - 1 - j) % 256
theorem PadTo.zero (n : Int) (s : Nat) (h : 0 < s) : PadTo n s ((List.replicate s 0).set 0 128) 0 := by
  refine ⟨by simp, ?_, fun j h0 hj => ?_, fun j hj hj' => absurd hj (by omega)⟩
  · rw [getD_set_self _ _ _ (by simpa using h)]
  · rw [getD_set_ne _ _ _ _ (by omega)]
    rw [List.getD_eq_getElem?_getD, List.getElem?_replicate]
    split <;> rfl
theorem PadTo.step {n : Int} {s : Nat} {ys : List Int} {k : Nat} (h : PadTo n s ys k) (hk : k + 1 < s) : PadTo n s (ys.set (s - 1 - k) (8 * n / 256 ^ k % 256)) (k + 1) := by
  obtain ⟨h1, h2, h3, h4⟩ := h
  refine ⟨by simpa using h1, ?_, fun j h0 hj => ?_, fun j hj hj' => ?_⟩
  · rw [getD_set_ne _ _ _ _ (by omega)]
    exact h2
  · rw [getD_set_ne _ _ _ _ (by omega)]
    exact h3 j h0 (by omega)
  · by_cases e : s - 1 - k = j
    · subst e
      rw [getD_set_self _ _ _ (by rw [h1]; omega), show s - 1 - (s - 1 - k) = k by omega]
    · rw [getD_set_ne _ _ _ _ e]
      exact h4 j (by omega) hj'
theorem PadTo.all {n : Int} {B t : Nat} {ys : List Int} (h0 : 0 ≤ n) (h1 : n ≤ 1099511627776) (ht : t = 8 ∨ t = 16) (h : PadTo n (padS n B t) ys 8) : ys = padL n B t := by
  obtain ⟨a1, a2, a3, a4⟩ := h
  refine eq_of_getD (by rw [a1, padL_len]; rfl) (fun i hi => ?_)
  rw [a1] at hi
  have hs : padS n B t = 1 + padZ n B t + t := rfl
  unfold padL
  cases i with
  | zero => rw [a2]; rfl
  | succ i =>
    rw [List.getD_cons_succ]
    by_cases c : i < padZ n B t
    · rw [a3 _ (by omega) (by omega), List.getD_eq_getElem?_getD, List.getElem?_append_left (by simpa using c), List.getElem?_replicate, if_pos c]
      rfl
    · rw [getD_apd_right (List.replicate (padZ n B t) 0) _ i (by simpa using c), List.length_replicate, bigL_get _ _ _ (by omega)]
      by_cases d : padS n B t - 8 ≤ i + 1
      · rw [a4 _ d hi, show padS n B t - 1 - (i + 1) = t - 1 - (i - padZ n B t) by omega]
      · rw [a3 _ (by omega) (by omega)]
        obtain ⟨e, he⟩ : ∃ e, t - 1 - (i - padZ n B t) = 8 + e := ⟨t - 1 - (i - padZ n B t) - 8, by omega⟩
        rw [he, Int.pow_add]
        have hp := p256_pos e
        have hz : 8 * n / ((256 : Int) ^ 8 * 256 ^ e) = 0 := by
          refine Int.ediv_eq_zero_of_lt (by omega) ?_
          have : (256 : Int) ^ 8 * 1 ≤ 256 ^ 8 * 256 ^ e := Int.mul_le_mul_of_nonneg_left (by omega) (by decide)
          have : (256 : Int) ^ 8 = 18446744073709551616 := by decide
          omega
        rw [hz]
        rfl
end Go.Proofs.YtpopaifcanlkeaaGreat

/-
  A text appended to an owned row.
-/
namespace Go.Proofs.YtpopaifcanlkeaaGreat
open Go Go.RowKit

/-- A text's bytes. -/
def txL (l : List UInt8) : List Int := l.map fun b => (b.toNat : Int)
theorem txL_len (l : List UInt8) : (txL l).length = l.length := by simp [txL]
/-- A text appended. -/
theorem appendT_any {P : Program} (w : World) (ty : TypeId) (i : TypeInfo) (ht : P.underlying 22 = some (.slice 5)) (hu : P.underlying 9 = some .string) (hi : P.info? 5 = some i) (hz : i.zero = some (.int .u8 0)) (hsize : i.size = 1) (hby : i.bytes = 1)
    (base B : Nat) (v : Value) (xs : List Int) (hown : RowB w base v xs) (l : List UInt8) (hl : xs.length + l.length ≤ 1099511627776) (hB : B ≤ base) (hbase : base ≤ w.heap.size) :
    ∃ v' w', (Builtin.append_ #[22, 9] ty #[v, .string ⟨⟨l⟩⟩]).run P w = .ok v' w' ∧ RowB w' base v' (xs ++ txL l) ∧ Below B w w' := by
  have hs : (ByteArray.mk ⟨l⟩).size = l.length := rfl
  obtain ⟨v', w', h1, h2, h3, _⟩ := Lib.run_append_own_string (P := P) w base 22 9 ty 5 i ht hu hi hz hsize hby v xs.length (xs.map (Value.int .u8)) hown ⟨⟨l⟩⟩ (by rw [hs]; unfold maxLen; omega) (by rw [hs]; omega) hbase
  refine ⟨v', w', h1, ?_, (Below.refl B w).grown h3 (by omega) (fun k hk => by have := (World.ownsRow.lt hown k hk).1; omega)⟩
  show w'.ownsRow base 5 1 v' (xs ++ txL l).length ((xs ++ txL l).map (Value.int .u8))
  rw [List.length_append, List.map_append, txL_len]
  have e : (txL l).map (Value.int .u8) = Lib.strCells ⟨⟨l⟩⟩ := by simp [txL, Lib.strCells]
  rw [e]
  exact h2
end Go.Proofs.YtpopaifcanlkeaaGreat

/-
  Messages: bytes appended to an owned row (one byte, a text); the program's appendNumber, appendShort, appendShorts, appendLong.
-/
namespace Go.Proofs.YtpopaifcanlkeaaGreat
open Go Go.RowKit

theorem RowB.nil (w : World) (base : Nat) : RowB w base (.slice none 0 0) [] := ⟨rfl, .inl ⟨rfl, rfl⟩⟩
end Go.Proofs.YtpopaifcanlkeaaGreat

/-
  The program's appendNumber, up to eight bytes; slices.Clone of bytes (as MiB, MiD, without the messages).
-/
namespace Go.Proofs.YtpopaifcanlkeaaGreat
open Go Go.RowKit

theorem bigL_takeN (n : Int) (t k : Nat) (h : k < t) : (bigL n t).take (k + 1) = (bigL n t).take k ++ [n / 256 ^ (t - 1 - k) % 256] := by
  rw [List.take_add_one]
  simp [bigL, h]
theorem RowB.nilN (w : World) (base : Nat) : RowB w base (.slice none 0 0) [] := ⟨rfl, .inl ⟨rfl, rfl⟩⟩
set_option maxHeartbeats 4000000 in
theorem appendNum_any (w : World) (base : Nat) (v : Value) (xs : List Int) (R0 : RowB w base v xs) (hb : base ≤ w.heap.size) (n : Int) (t : Nat) (ht : t ≤ 8) (hl : xs.length ≤ 1073741824) :
    Calls Tryz.prog 23 #[v, .int .i64 n, .int .i64 (t : Int)] w fun e w' => ∃ v', e = .returned v' ∧ RowB w' base v' (xs ++ bigL n t) ∧ Below base w w' := by
  obtain ⟨i0, hi, hz0, hz1, hz2⟩ := info_parts Tryz.info5
  go_enter Tryz.func23, Tryz.ntmps23
  go_wp2
  go_loopw [0, 7, 9] (fun l _ i wr => ∃ k : Nat, k ≤ t ∧ i = .int .i64 k ∧ RowB wr base l (xs ++ (bigL n t).take k) ∧ Below base w wr) (fun _ _ i _ => t - (intOf i).toNat)
  case atStart => exact ⟨0, Nat.zero_le _, rfl, by simpa using R0, Below.refl _ _⟩
  case round =>
    obtain ⟨k, hk, rfl, R, hN⟩ := hrel
    by_cases hlt : k < t
    · have hs := hN.size
      have bt := bigL_takeN n t k hlt
      obtain ⟨x, hx⟩ : ∃ x, x = n / 256 ^ (t - 1 - k) % 256 := ⟨_, rfl⟩
      rw [← hx] at bt
      have BT := hide bt
      clear bt
      have n2 : Below wr.heap.size wr (wr.alloc (.cells #[.int .u8 x] 5)) := (Below.refl _ _).alloc (Nat.le_refl _) _
      obtain ⟨v3, w3, hap3, R3, n3⟩ := append_any (P := Tryz.prog) (wr.alloc (.cells #[.int .u8 x] 5)) 22 i0 Tryz.underlying22 hi hz0 hz1 hz2 base base _ _ (R.up n2) _ _ 1 [x] (blk_lit1 wr .u8 5 x).own0.rd (by simp) (by simp; omega) (Nat.le_refl _) (by simp; omega)
      rw [List.append_assoc, ← BT.out] at R3
      have N3 := (hN.trans (n2.mono (by omega))).trans n3
      clear R n2 n3 hN BT
      have k1 : (k : Int) < (t : Int) := by omega
      obtain ⟨d, hd⟩ : ∃ d, d = t - 1 - k := ⟨_, rfl⟩
      rw [← hd] at hx
      rcases (by omega : d = 0 ∨ d = 1 ∨ d = 2 ∨ d = 3 ∨ d = 4 ∨ d = 5 ∨ d = 6 ∨ d = 7) with rfl | rfl | rfl | rfl | rfl | rfl | rfl | rfl
      · have he : (t : Int) - 1 - (k : Int) = 0 := by omega
        clear hd
        simp at hx
        replace hx := hx.symm
        go_wp2_with (at_builtin; refine Lib.wpList_append_run _ rfl _ _ 22 22 rfl _ _ rfl rfl _ _ hap3 ?_)
        clear hap3
        go_roundw
        case rel => exact ⟨k + 1, by omega, by go_num, R3, N3⟩
        case measure => simp [intOf]; omega
      · have he : (t : Int) - 1 - (k : Int) = 1 := by omega
        clear hd
        simp at hx
        replace hx := hx.symm
        go_wp2_with (at_builtin; refine Lib.wpList_append_run _ rfl _ _ 22 22 rfl _ _ rfl rfl _ _ hap3 ?_)
        clear hap3
        go_roundw
        case rel => exact ⟨k + 1, by omega, by go_num, R3, N3⟩
        case measure => simp [intOf]; omega
      · have he : (t : Int) - 1 - (k : Int) = 2 := by omega
        clear hd
        simp at hx
        replace hx := hx.symm
        go_wp2_with (at_builtin; refine Lib.wpList_append_run _ rfl _ _ 22 22 rfl _ _ rfl rfl _ _ hap3 ?_)
        clear hap3
        go_roundw
        case rel => exact ⟨k + 1, by omega, by go_num, R3, N3⟩
        case measure => simp [intOf]; omega
      · have he : (t : Int) - 1 - (k : Int) = 3 := by omega
        clear hd
        simp at hx
        replace hx := hx.symm
        go_wp2_with (at_builtin; refine Lib.wpList_append_run _ rfl _ _ 22 22 rfl _ _ rfl rfl _ _ hap3 ?_)
        clear hap3
        go_roundw
        case rel => exact ⟨k + 1, by omega, by go_num, R3, N3⟩
        case measure => simp [intOf]; omega
      · have he : (t : Int) - 1 - (k : Int) = 4 := by omega
        clear hd
        simp at hx
        replace hx := hx.symm
        go_wp2_with (at_builtin; refine Lib.wpList_append_run _ rfl _ _ 22 22 rfl _ _ rfl rfl _ _ hap3 ?_)
        clear hap3
        go_roundw
        case rel => exact ⟨k + 1, by omega, by go_num, R3, N3⟩
        case measure => simp [intOf]; omega
      · have he : (t : Int) - 1 - (k : Int) = 5 := by omega
        clear hd
        simp at hx
        replace hx := hx.symm
        go_wp2_with (at_builtin; refine Lib.wpList_append_run _ rfl _ _ 22 22 rfl _ _ rfl rfl _ _ hap3 ?_)
        clear hap3
        go_roundw
        case rel => exact ⟨k + 1, by omega, by go_num, R3, N3⟩
        case measure => simp [intOf]; omega
      · have he : (t : Int) - 1 - (k : Int) = 6 := by omega
        clear hd
        simp at hx
        replace hx := hx.symm
        go_wp2_with (at_builtin; refine Lib.wpList_append_run _ rfl _ _ 22 22 rfl _ _ rfl rfl _ _ hap3 ?_)
        clear hap3
        go_roundw
        case rel => exact ⟨k + 1, by omega, by go_num, R3, N3⟩
        case measure => simp [intOf]; omega
      · have he : (t : Int) - 1 - (k : Int) = 7 := by omega
        clear hd
        simp at hx
        replace hx := hx.symm
        go_wp2_with (at_builtin; refine Lib.wpList_append_run _ rfl _ _ 22 22 rfl _ _ rfl rfl _ _ hap3 ?_)
        clear hap3
        go_roundw
        case rel => exact ⟨k + 1, by omega, by go_num, R3, N3⟩
        case measure => simp [intOf]; omega
    · obtain rfl : k = t := by omega
      rw [List.take_of_length_le (by rw [bigL_len]; exact Nat.le_refl _)] at R
      go_wp2
      go_ret
      exact ⟨_, rfl, R, hN⟩
set_option maxRecDepth 100000 in
set_option maxHeartbeats 1000000 in
theorem cloneR_any (w : World) (g : Nat) (a : Option Addr) (c : Nat) (xs : List Int) (h : Rd w g a .u8 xs) (hz : a = none → c = 0) (m : xs.length ≤ 1099511627776) : Calls Tryz.prog 122 #[.slice a xs.length c] w fun e w' => ∃ v', e = .returned v' ∧ RowB w' w.heap.size v' xs ∧ Below w.heap.size w w' := by
  obtain ⟨i0, hi, hz0, hz1, hz2⟩ := info_parts Tryz.info5
  cases a with
  | none =>
    obtain rfl : xs = [] := by
      by_cases h0 : 0 < xs.length
      · obtain ⟨off, e, _⟩ := h h0
        simp at e
      · exact List.eq_nil_of_length_eq_zero (by omega)
    obtain rfl := hz rfl
    have b0 : ∀ W, (binOp BinOp.eql 22 (.slice none 0 0) (.slice none 0 0)).run Tryz.prog W = .ok (.bool true) W := fun W => by kernel_rfl
    go_enter Tryz.func122, Tryz.ntmps122
    go_wp2
    go_ret
    exact ⟨_, rfl, RowB.nilN _ _, Below.refl _ _⟩
  | some ad =>
    have n0 : Below w.heap.size w (w.alloc (.cells #[] 5)) := (Below.refl _ _).alloc (Nat.le_refl _) _
    have r := h.up n0
    obtain ⟨v1, w1, hap, R1, n1⟩ := append_any (P := Tryz.prog) (w.alloc (.cells #[] 5)) 22 i0 Tryz.underlying22 hi hz0 hz1 hz2 w.heap.size w.heap.size _ _ (RowB.lit0 w) g (some ad) c xs r (by simp) (by simp; omega) (Nat.le_refl _) n0.size
    have N1 := n0.trans n1
    rw [List.nil_append] at R1
    have b0 : ∀ W, (binOp BinOp.eql 22 (.slice (some ad) xs.length c) (.slice none 0 0)).run Tryz.prog W = .ok (.bool false) W := fun W => by kernel_rfl
    clear n0 n1 r m h
    go_enter Tryz.func122, Tryz.ntmps122
    go_wp2_with (at_builtin; refine Lib.wpList_append_run _ rfl _ _ 22 22 rfl _ _ rfl rfl _ _ hap ?_)
    go_ret
    exact ⟨_, rfl, R1, N1⟩
end Go.Proofs.YtpopaifcanlkeaaGreat

/-
  A short text appended: its length is one byte; the program's.
-/
namespace Go.Proofs.YtpopaifcanlkeaaGreat
open Go Go.RowKit

/-- A text, its length ahead. -/
def shL (l : List UInt8) : List Int := bigL (l.length : Int) 1 ++ txL l
theorem shL_len (l : List UInt8) : (shL l).length = l.length + 1 := by simp [shL, bigL_len, txL_len]; omega
set_option maxRecDepth 100000 in
set_option maxHeartbeats 1000000 in
theorem appendShort_any (w : World) (base : Nat) (v : Value) (xs : List Int) (R0 : RowB w base v xs) (hb : base ≤ w.heap.size) (l : List UInt8) (hl : xs.length ≤ 1073741824) (hz : l.length ≤ 1048576) :
    Calls Tryz.prog 78 #[v, .string ⟨⟨l⟩⟩] w fun e w' => ∃ v', e = .returned v' ∧ RowB w' base v' (xs ++ shL l) ∧ Below base w w' := by
  obtain ⟨i0, hi, hz0, hz1, hz2⟩ := info_parts Tryz.info5
  have C1 := hide (appendNum_any w base v xs R0 hb (l.length : Int) 1 (by omega) hl)
  have sz := tx_size l
  go_enter Tryz.func78, Tryz.ntmps78
  go_wp2_with fail
  refine C1.out.mono ?_
  rintro r w1 ⟨v1, rfl, R1, n1⟩
  have s1 := n1.size
  obtain ⟨v2, w2, hap, R2, n2⟩ := appendT_any (P := Tryz.prog) w1 22 i0 Tryz.underlying22 Tryz.underlying9 hi hz0 hz1 hz2 base base _ _ R1 l (by rw [List.length_append, bigL_len]; omega) (Nat.le_refl _) (by omega)
  rw [List.append_assoc] at R2
  have N2 := n1.trans n2
  clear R1 n1 n2 C1 R0
  go_wp2_with (at_builtin; refine Lib.wpList_append_run _ rfl _ _ 22 9 rfl _ _ rfl rfl _ _ hap ?_)
  go_ret
  exact ⟨_, rfl, R2, N2⟩
end Go.Proofs.YtpopaifcanlkeaaGreat
