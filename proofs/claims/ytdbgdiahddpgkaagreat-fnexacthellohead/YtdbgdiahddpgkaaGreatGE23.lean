import Derived.Test.YtdbgdiahddpgkaaGreatGE22
import Derived.Test.YtdbgdiahddpgkaaGreatGE10
import Derived.Test.YtdbgdiahddpgkaaGreatGE20
import Derived.OpenShut
import Derived.SliceStrings

/-
  A copied message marked (written by gens/miw.py).
-/
namespace Go.Proofs.YtdbgdiahddpgkaaGreat
open Go Go.RowKit

theorem cellM {w w' : World} {b hi q i : Nat} {x : Value} (n : Ch b hi w w') (h : w.cell? ⟨q, i, none⟩ = some x) (hq : hi ≤ q) : w'.cell? ⟨q, i, none⟩ = some x :=
  (World.cell?_of_block (a := ⟨q, i, none⟩) (n.block q (block_lt_of_cell h) (.inr hq))).trans h
set_option maxRecDepth 100000 in
set_option maxHeartbeats 4000000 in
theorem markMessage_own (w : World) (b G2 G3 G5 G6 G9 G11 G12 : Nat) (Gs : List Nat) (m : Msg) (k : Int) (h : OwnM b w G2 G3 G5 G6 G9 G11 G12 Gs m) (i : IsM m) (hz : sumB m.ce ≤ 1048576) (k0 : 0 ≤ k) (k1 : k ≤ 1000) :
    Calls Tryz.prog 10 #[.agg (mgV (mqO G2 G3 G5 G6 G9 G11 G12 Gs m) m), .int .i64 k] w fun e w' => (∃ k' : Int, e = .returned (.int .i64 k') ∧ k ≤ k') ∧ Ch b (G12 + 1) w w' := by
  have n1 : Below w.heap.size w (w.alloc (.cells (mgV (mqO G2 G3 G5 G6 G9 G11 G12 Gs m) m) 31)) := (Below.refl _ _).alloc (Nat.le_refl _) _
  have P0 : RwC (w.alloc (.cells (mgV (mqO G2 G3 G5 G6 G9 G11 G12 Gs m) m) 31)) w.heap.size (mgV (mqO G2 G3 G5 G6 G9 G11 G12 Gs m) m).toList 31 := RwC.new w (mgV (mqO G2 G3 G5 G6 G9 G11 G12 Gs m) m).toList 31
  have H := h.up n1
  have l12 := h.pf.lt
  have N1 := hide n1
  clear h n1
  go_enter Tryz.func10, Tryz.ntmps10
  go_upto_region 1 with fail
  generalize w.alloc (.cells (mgV (mqO G2 G3 G5 G6 G9 G11 G12 Gs m) m) 31) = wa at *
  have rL := i.rL
  have sL := i.sL
  have prL := i.prL
  have tiL := i.tiL
  have biL := i.biL
  have ceL := i.ceL
  have pfL := i.pfL
  have o2 := H.o2
  have o3 := H.o3
  have o5 := H.o5
  have o6 := H.o6
  have o9 := H.o9
  have o11 := H.o11
  have o12 := H.o12
  clear i
  have c2 : wa.cell? ⟨w.heap.size, 2, none⟩ = some (.slice (some ⟨G2, 0, none⟩) m.r.length m.r.length) := P0.cell 2
  have c3 : wa.cell? ⟨w.heap.size, 3, none⟩ = some (.slice (some ⟨G3, 0, none⟩) m.s.length m.s.length) := P0.cell 3
  have c5 : wa.cell? ⟨w.heap.size, 5, none⟩ = some (.slice (some ⟨G5, 0, none⟩) m.pr.length m.pr.length) := P0.cell 5
  have c6 : wa.cell? ⟨w.heap.size, 6, none⟩ = some (.slice (some ⟨G6, 0, none⟩) m.ti.length m.ti.length) := P0.cell 6
  have c9 : wa.cell? ⟨w.heap.size, 9, none⟩ = some (.slice (some ⟨G9, 0, none⟩) m.bi.length m.bi.length) := P0.cell 9
  have c11 : wa.cell? ⟨w.heap.size, 11, none⟩ = some (.slice (some ⟨G11, 0, none⟩) m.ce.length m.ce.length) := P0.cell 11
  have c12 : wa.cell? ⟨w.heap.size, 12, none⟩ = some (.slice (some ⟨G12, 0, none⟩) m.pf.length m.pf.length) := P0.cell 12
  have HH := hide H
  have C3 := hide c3
  have C5 := hide c5
  have C6 := hide c6
  have C9 := hide c9
  have C11 := hide c11
  have C12 := hide c12
  clear P0 H c3 c5 c6 c9 c11 c12
  have M2 := hide (markByteS_any wa G2 (some ⟨G2, 0, none⟩) m.r.length m.r (k) HH.out.r.own0 rL (by omega) (by omega))
  go_wp2_with fail
  refine M2.out.mono ?_
  rintro e w2 ⟨rfl, -, O⟩
  have N2 : Ch b (G2 + 1) wa w2 := (Ch.of_only O (by omega) (by omega))
  clear M2 O c2
  have d3 := cellM N2 C3.out (by omega)
  have M3 := hide (markByteS_any w2 G3 (some ⟨G3, 0, none⟩) m.s.length m.s (k + (m.r.length : Int)) (HH.out.s.of_block (N2.block G3 HH.out.s.lt (.inr (by omega)))).own0 sL (by omega) (by omega))
  go_wp2_with fail
  refine M3.out.mono ?_
  rintro e w3 ⟨rfl, -, O⟩
  have N3 : Ch b (G3 + 1) wa w3 := (N2.mono (Nat.le_refl _) (by omega)).trans (Ch.of_only O (by omega) (by omega))
  clear M3 O d3 N2
  have d5 := cellM N3 C5.out (by omega)
  have M5 := hide (markStringS_any w3 G5 m.pr.length m.pr (k + (m.r.length : Int) + (m.s.length : Int)) ((N3.block G5 HH.out.pr.lt (.inr (by omega))).trans HH.out.pr) prL (by omega) (by omega))
  go_wp2_with fail
  refine M5.out.mono ?_
  rintro e w5 ⟨rfl, O⟩
  have N5 : Ch b (G5 + 1) wa w5 := (N3.mono (Nat.le_refl _) (by omega)).trans (O.mono (by omega) (Nat.le_refl _))
  clear M5 O d5 N3
  have d6 := cellM N5 C6.out (by omega)
  have M6 := hide (markByteS_any w5 G6 (some ⟨G6, 0, none⟩) m.ti.length m.ti (k + (m.r.length : Int) + (m.s.length : Int) + (m.pr.length : Int)) (HH.out.ti.of_block (N5.block G6 HH.out.ti.lt (.inr (by omega)))).own0 tiL (by omega) (by omega))
  go_wp2_with fail
  refine M6.out.mono ?_
  rintro e w6 ⟨rfl, -, O⟩
  have N6 : Ch b (G6 + 1) wa w6 := (N5.mono (Nat.le_refl _) (by omega)).trans (Ch.of_only O (by omega) (by omega))
  clear M6 O d6 N5
  have d9 := cellM N6 C9.out (by omega)
  have M9 := hide (markByteS_any w6 G9 (some ⟨G9, 0, none⟩) m.bi.length m.bi (k + (m.r.length : Int) + (m.s.length : Int) + (m.pr.length : Int) + (m.ti.length : Int)) (HH.out.bi.of_block (N6.block G9 HH.out.bi.lt (.inr (by omega)))).own0 biL (by omega) (by omega))
  go_wp2_with fail
  refine M9.out.mono ?_
  rintro e w9 ⟨rfl, -, O⟩
  have N9 : Ch b (G9 + 1) wa w9 := (N6.mono (Nat.le_refl _) (by omega)).trans (Ch.of_only O (by omega) (by omega))
  clear M9 O d9 N6
  have d11 := cellM N9 C11.out (by omega)
  have M11 := hide (markBlobS_own w9 G11 m.ce.length m.ce Gs (k + (m.r.length : Int) + (m.s.length : Int) + (m.pr.length : Int) + (m.ti.length : Int) + (m.bi.length : Int)) (HH.out.ce.ch N9 (by omega)) ceL hz (by omega) (by omega) G12 HH.out.oc)
  go_wp2_with fail
  refine M11.out.mono ?_
  rintro e w11 ⟨⟨kc, rfl, kc0, kc1⟩, O⟩
  have N11 : Ch b (G12) wa w11 := (N9.mono (Nat.le_refl _) (by omega)).trans (O.mono (by omega) (Nat.le_refl _))
  clear M11 O d11 N9
  have d12 := cellM N11 C12.out (by omega)
  have M12 := hide (markByteS_any w11 G12 (some ⟨G12, 0, none⟩) m.pf.length m.pf (kc) (HH.out.pf.of_block (N11.block G12 HH.out.pf.lt (.inr (by omega)))).own0 pfL (by omega) (by omega))
  go_wp2_with fail
  refine M12.out.mono ?_
  rintro e w12 ⟨rfl, -, O⟩
  have N12 : Ch b (G12 + 1) wa w12 := (N11.mono (Nat.le_refl _) (by omega)).trans (Ch.of_only O (by omega) (by omega))
  clear M12 O d12 N11
  have FIN : Hid (Ch b (G12 + 1) w w12) := (Ch.of_below N1.out).trans N12
  clear N12 N1
  go_wp2
  go_ret
  exact ⟨⟨_, rfl, by omega⟩, FIN.out⟩
end Go.Proofs.YtdbgdiahddpgkaaGreat

/-
  The laws' helpers on a message by value (MhK without its law).
-/
namespace Go.Proofs.YtdbgdiahddpgkaaGreat
open Go Go.RowKit

theorem iLM : (Tryz.prog.info? 26).map (·.size) = some 13 := by kernel_rfl
theorem rowLM : ∃ d, Tryz.prog.underlying 26 = some d ∧ d.isRow = true := ⟨_, Tryz.underlying26, rfl⟩
theorem rangeM {w w' : World} {b : Nat} {cs : List Value} (h : w.rangeAt b 0 cs) (n : Below w.heap.size w w') : w'.rangeAt b 0 cs := fun j v hj => (n.cell (block_lt_of_cell (h j v hj))).trans (h j v hj)
theorem mgV_one (q : MQ) (m : Msg) : (mgV q m).all (·.oneCell') = true := by
  refine all_oneCell_toArray (cs := [.int .i64 m.k, .int .i64 m.v, .slice q.a2 m.r.length q.c2, .slice q.a3 m.s.length q.c3, .string ⟨⟨m.ho⟩⟩, .slice q.a5 m.pr.length q.c5, .slice q.a6 m.ti.length q.c6, .int .i64 m.ag, .int .i64 m.ea, .slice q.a9 m.bi.length q.c9, .bool m.rs, .slice q.a11 m.ce.length q.c11, .slice q.a12 m.pf.length q.c12]) fun v hv => ?_
  simp only [List.mem_cons, List.not_mem_nil, or_false] at hv
  rcases hv with rfl | rfl | rfl | rfl | rfl | rfl | rfl | rfl | rfl | rfl | rfl | rfl | rfl
  all_goals rfl
/-- A message that may be read. -/
def FM (m : Msg) : Fact := ⟨fun v w => ∃ q, v = .agg (mgV q m) ∧ HasM w q m, fun n h => by
  obtain ⟨q, e, h⟩ := h
  exact ⟨q, e, h.up n⟩⟩
section
variable {ops : Array Oper} {Q : Exit → Act → World → Prop} {md : Region.Mode} {F : Nat → Fact} {a0 : Act} {w0 : World} {i : Nat} {o : Oper} {ts : Array TypeId}
theorem step_lM (ty : TypeId) (hu : ∃ d, Tryz.prog.underlying ty = some d ∧ d.isRow = true) (hs : (Tryz.prog.info? ty).map (·.size) = some 13) (hi : ops[i]? = some o) (p : Nat) (hop : o.op = .load ty (.tmp p)) (hp : apart ops p = true) (b : Nat) (h0 : a0.tmps.getD p undef = .pointer (some ⟨b, 0, none⟩)) {q : MQ} {m : Msg} (T : w0.rangeAt b 0 (mgV q m).toList) (hF : F i = Fact.eq (.agg (mgV q m))) : StepOk Tryz.prog md ops Q F a0 w0 i := by
  obtain ⟨d, hu, hr⟩ := hu
  refine step_load hi _ _ hop _ 13 hu hr hs fun a w hb hw _ => ?_
  exact ⟨b, 0, (mgV q m).toList, (based_at hb p hp).trans h0, rangeM T hw, rfl, by rw [hF]; exact rfl⟩
theorem step_toM (hi : ops[i]? = some o) (p j : Nat) {q : MQ} {m : Msg} (hop : o.op = .call { callee := .value (.func 6), args := #[.tmp p], argTypes := ts })
    (hj : waits md ops i j p = true) (hC : HasM w0 q m) (im : IsM m) (hFj : F j = Fact.eq (.agg (mgV q m))) (hFi : F i = FM m) : StepOk Tryz.prog md ops Q F a0 w0 i := by
  refine step_callv hi _ _ ts hop (by kernel_rfl) fun A w _ hw hF => ?_
  have ea := hF j p hj
  rw [hFj] at ea
  show Calls Tryz.prog 6 #[A.tmps.getD p undef] w _
  rw [show A.tmps.getD p undef = _ from ea]
  refine (toMessage_any w q m (hC.up hw) im).mono ?_
  rintro r w' ⟨⟨z, rfl, hz⟩, hn⟩
  rw [hFi]
  exact ⟨_, rfl, hn, z, rfl, hz⟩
theorem step_eqM (hi : ops[i]? = some o) (p q j k : Nat) {z : MQ} {m : Msg} (hop : o.op = .call { callee := .value (.func 9), args := #[.tmp p, .tmp q], argTypes := ts })
    (hj : waits md ops i j p = true) (hk : waits md ops i k q = true) (hC : HasM w0 z m) (im : IsM m) (hFj : F j = Fact.eq (.agg (mgV z m))) (hFk : F k = FM m) (hFi : F i = Fact.eq (.bool true)) : StepOk Tryz.prog md ops Q F a0 w0 i := by
  refine step_callv hi _ _ ts hop (by kernel_rfl) fun A w _ hw hF => ?_
  have ea := hF j p hj
  rw [hFj] at ea
  have eb := hF k q hk
  rw [hFk] at eb
  obtain ⟨y, eb, hy⟩ := eb
  show Calls Tryz.prog 9 #[A.tmps.getD p undef, A.tmps.getD q undef] w _
  rw [show A.tmps.getD p undef = _ from ea, show A.tmps.getD q undef = _ from eb]
  refine (eqMessage_same w z y m (hC.up hw) hy im).mono ?_
  rintro r w' ⟨rfl, hn⟩
  rw [hFi]
  exact ⟨_, rfl, hn, rfl⟩
theorem step_notM {P : Program} (hi : ops[i]? = some o) (p j : Nat) {b : Bool} {t : TypeId} (hop : o.op = .unOp .not t (.tmp p)) (hj : waits md ops i j p = true) (hFj : F j = Fact.eq (.bool b)) (hFi : F i = Fact.eq (.bool (!b))) : StepOk P md ops Q F a0 w0 i := by
  refine step_pure hi fun a w _ _ hf => ⟨.bool (!b), ?_, by rw [hFi]; exact rfl⟩
  have e := hf j p hj
  rw [hFj] at e
  have e' : a.eval (.tmp p) = .bool b := e
  simp only [execOp, hop, e']
  rfl
end
/-- A message of any size that a machine holds. -/
structure OkM (m : Msg) : Prop where
  rB : Byt m.r
  sB : Byt m.s
  tiB : Byt m.ti
  biB : Byt m.bi
  pfB : Byt m.pf
  ceB : ∀ i, i < m.ce.length → Byt (m.ce.getD i [])
  l2 : m.r.length ≤ 9223372036854775807
  l3 : m.s.length ≤ 9223372036854775807
  l4 : m.ho.length ≤ 9223372036854775807
  l5 : m.pr.length ≤ 9223372036854775807
  lz : ∀ l ∈ m.pr, l.length ≤ 9223372036854775807
  l6 : m.ti.length ≤ 9223372036854775807
  l9 : m.bi.length ≤ 9223372036854775807
  l11 : m.ce.length ≤ 9223372036854775807
  lc : ∀ i, i < m.ce.length → (m.ce.getD i []).length ≤ 9223372036854775807
  l12 : m.pf.length ≤ 9223372036854775807
theorem isM_of {m : Msg} (o : OkM m) (h : m.r.length + m.s.length + m.ho.length + (m.pr.length + sumT m.pr) + m.ti.length + m.bi.length + (m.ce.length + sumB m.ce) + m.pf.length ≤ 1048576) : IsM m :=
  ⟨o.rB, o.sB, o.tiB, o.biB, o.pfB, o.ceB, by omega, by omega, by omega, by omega, by omega, by omega, by omega, fun i hi => by have := sumB_get hi; omega, by omega, fun l hl => by have := sumT_mem hl; omega⟩
end Go.Proofs.YtdbgdiahddpgkaaGreat

/-
  What comes in as a message (MhL without its law).
-/
namespace Go.Proofs.YtdbgdiahddpgkaaGreat
open Go Go.RowKit Go.ChangeShapes Go.WideShapes

theorem rdT_of_rowM {w : World} {a : Option Addr} {len cap : Nat} {ss : List ByteArray}
    (h : (a = none ∧ len = 0 ∧ cap = 0 ∧ ss = []) ∨ ∃ x, a = some x ∧ len ≤ cap ∧ cap ≤ maxLen ∧ ss.length = cap ∧ (∀ i, i < ss.length → w.cell? (x.add i) = some (.string (ss.getD i ByteArray.empty))) ∧ ∀ s ∈ ss, s.size ≤ maxLen) :
    ∃ (g : Nat) (ls : List (List UInt8)), ls.length = len ∧ RdT w g a ls ∧ ls.length ≤ 9223372036854775807 ∧ ∀ l ∈ ls, l.length ≤ 9223372036854775807 := by
  rcases h with ⟨rfl, rfl, rfl, rfl⟩ | ⟨x, rfl, hl, hm, hz, hc, hw⟩
  · exact ⟨0, [], rfl, RdT.nil _ _ _, by simp, fun l h => by cases h⟩
  · have hlen : ((ss.take len).map (fun s : ByteArray => s.data.toList)).length = len := by simp; omega
    refine ⟨x.block, (ss.take len).map (fun s : ByteArray => s.data.toList), hlen, ?_, by rw [hlen]; unfold maxLen at hm; omega, ?_⟩
    · intro h0
      rw [hlen] at h0
      obtain ⟨b, off, spot⟩ := x
      have h1 := hc 0 (by omega)
      have hs : spot = none := by simpa [Addr.add] using World.cell?_spot h1
      subst hs
      refine ⟨off, rfl, fun i hi => ?_⟩
      rw [hlen] at hi
      have h2 := hc i (by omega)
      have e : (⟨b, off, none⟩ : Addr).add i = ⟨b, off + i, none⟩ := by
        unfold Addr.add
        split <;> simp_all
      rw [e] at h2
      show w.cell? ⟨b, off + i, none⟩ = _
      rw [h2]
      have hi2 : i < ss.length := by omega
      simp [hi, hi2, tx]
    · intro l hl'
      obtain ⟨s, hs, rfl⟩ := List.mem_map.1 hl'
      have := hw s (List.mem_of_mem_take hs)
      unfold maxLen at this
      exact this
theorem rd_of_rowM {w : World} {a : Option Addr} {len cap : Nat} {zs : List Int}
    (h : (a = none ∧ len = 0 ∧ cap = 0 ∧ zs = []) ∨ ∃ x, a = some x ∧ len ≤ cap ∧ cap ≤ maxLen ∧ zs.length = cap ∧ (∀ i, i < zs.length → w.cell? (x.add i) = some (.int .u8 (zs.getD i 0))) ∧ ∀ n ∈ zs, (Lit.int .u8 n).wf = true) :
    ∃ (g : Nat) (xs : List Int), xs.length = len ∧ Rd w g a .u8 xs ∧ Byt xs ∧ xs.length ≤ 9223372036854775807 := by
  obtain ⟨g, xs, e, r, b⟩ := rd_of_row h
  refine ⟨g, xs, e, r, b, ?_⟩
  rw [e]
  rcases h with ⟨_, rfl, _, _⟩ | ⟨x, _, hl, hm, _⟩
  · omega
  · unfold maxLen at hm
    omega
def IsRowM (w : World) (a : Option Addr) (len cap : Nat) (zs : List Int) : Prop :=
  (a = none ∧ len = 0 ∧ cap = 0 ∧ zs = []) ∨ ∃ x, a = some x ∧ len ≤ cap ∧ cap ≤ maxLen ∧ zs.length = cap ∧ (∀ i, i < zs.length → w.cell? (x.add i) = some (.int .u8 (zs.getD i 0))) ∧ ∀ n ∈ zs, (Lit.int .u8 n).wf = true
def IsRowB (w : World) (a : Option Addr) (len cap : Nat) : Prop :=
  (a = none ∧ len = 0 ∧ cap = 0) ∨ ∃ x, a = some x ∧ len ≤ cap ∧ cap ≤ maxLen ∧ ∀ i, i < len → ∃ (ai : Option Addr) (li ci : Nat) (zi : List Int), w.cell? (x.add i) = some (.slice ai li ci) ∧ IsRowM w ai li ci zi
theorem pickG {α : Type} (d : α) {P : Nat → α → Prop} : ∀ n, (∀ j, j < n → ∃ G, P j G) → ∃ Gs : List α, Gs.length = n ∧ ∀ j, j < n → P j (Gs.getD j d)
  | 0, _ => ⟨[], rfl, fun j hj => absurd hj (by omega)⟩
  | n + 1, h => by
    obtain ⟨Gs, hl, hG⟩ := pickG d (P := P) n (fun j hj => h j (by omega))
    obtain ⟨G, hn⟩ := h n (by omega)
    refine ⟨Gs ++ [G], by simp [hl], fun j hj => ?_⟩
    by_cases e : j < n
    · have : (Gs ++ [G]).getD j d = Gs.getD j d := by
        rw [List.getD_eq_getElem?_getD, List.getElem?_append_left (by omega), ← List.getD_eq_getElem?_getD]
      rw [this]
      exact hG j e
    · obtain rfl : j = n := by omega
      have : (Gs ++ [G]).getD j d = G := by
        rw [List.getD_eq_getElem?_getD, List.getElem?_append_right (by omega), hl]
        simp
      rw [this]
      exact hn
theorem rdL_of_row {w : World} {a : Option Addr} {len cap : Nat} (h : IsRowB w a len cap) :
    ∃ (g : Nat) (ce : List (List Int)) (ps : List Plb), ce.length = len ∧ RdL w g a ce ps ∧ (∀ i, i < ce.length → Byt (ce.getD i [])) ∧ ce.length ≤ 9223372036854775807 ∧ ∀ i, i < ce.length → (ce.getD i []).length ≤ 9223372036854775807 := by
  rcases h with ⟨rfl, rfl, rfl⟩ | ⟨x, rfl, hl, hm, hr⟩
  · exact ⟨0, [], [], rfl, ⟨fun h => absurd h (by simp), fun i hi => absurd hi (by simp)⟩, fun i hi => absurd hi (by simp), by simp, fun i hi => absurd hi (by simp)⟩
  · have H : ∀ i, i < len → ∃ G : List Int × Plb, w.cell? (x.add i) = some (.slice G.2.a G.1.length G.2.c) ∧ Rd w G.2.q G.2.a .u8 G.1 ∧ Byt G.1 ∧ G.1.length ≤ 9223372036854775807 := fun i hi => by
      obtain ⟨ai, li, ci, zi, e, hz⟩ := hr i hi
      obtain ⟨g, xs, rfl, r, b, l⟩ := rd_of_rowM hz
      exact ⟨(xs, ⟨ai, ci, g⟩), e, r, b, l⟩
    obtain ⟨Gs, hGl, hG⟩ := pickG (([] : List Int), plb0) len H
    have e1 : ∀ i, i < len → (Gs.map (·.1)).getD i [] = (Gs.getD i ([], plb0)).1 := fun i hi => by
      rw [List.getD_eq_getElem?_getD, List.getElem?_map, List.getElem?_eq_getElem (by omega), List.getD_eq_getElem?_getD, List.getElem?_eq_getElem (by omega)]
      rfl
    have e2 : ∀ i, i < len → (Gs.map (·.2)).getD i plb0 = (Gs.getD i ([], plb0)).2 := fun i hi => by
      rw [List.getD_eq_getElem?_getD, List.getElem?_map, List.getElem?_eq_getElem (by omega), List.getD_eq_getElem?_getD, List.getElem?_eq_getElem (by omega)]
      rfl
    have el : (Gs.map (·.1)).length = len := by simp [hGl]
    refine ⟨x.block, Gs.map (·.1), Gs.map (·.2), el, ⟨fun h0 => ?_, fun i hi => ?_⟩, fun i hi => ?_, by rw [el]; unfold maxLen at hm; omega, fun i hi => ?_⟩
    · rw [el] at h0
      obtain ⟨b, off, spot⟩ := x
      have h1 := (hG 0 h0).1
      have hs : spot = none := by simpa [Addr.add] using World.cell?_spot h1
      subst hs
      refine ⟨off, rfl, fun i hi => ?_⟩
      rw [el] at hi
      have h2 := (hG i hi).1
      have e : (⟨b, off, none⟩ : Addr).add i = ⟨b, off + i, none⟩ := by
        unfold Addr.add
        split <;> simp_all
      rw [e] at h2
      rw [e1 i hi, e2 i hi]
      exact h2
    · rw [el] at hi
      rw [e1 i hi, e2 i hi]
      exact (hG i hi).2.1
    · rw [el] at hi
      rw [e1 i hi]
      exact (hG i hi).2.2.1
    · rw [el] at hi
      rw [e1 i hi]
      exact (hG i hi).2.2.2
set_option maxRecDepth 100000 in
theorem open_blobs {H : Type} {enc : TypeId × Value → H} {w : World} {base : Nat} {held : Bool} {fuel : Nat} {v : Value} {y : DataW H × List MemPlace} (h : DataW.trod enc Tryz.prog w base (fun _ => true) held fuel 24 [v] = some y) : ∃ a len cap, v = .slice a len cap ∧ IsRowB w a len cap := by
  rcases DataW.trod_slice Tryz.underlying24 h with ⟨hcs, _⟩ | ⟨x, l, c, elems, rest, n, _, hcs, _, _, hl, hm, hlen, hel, _, _⟩
  · simp at hcs
    exact ⟨none, 0, 0, hcs, .inl ⟨rfl, rfl, rfl⟩⟩
  · simp at hcs
    refine ⟨some x, l, c, hcs, .inr ⟨x, rfl, hl, hm, fun i hi => ?_⟩⟩
    have hb := hel i hi
    have hc1 : Tryz.prog.cellsOf 49 = 1 := by kernel_rfl
    rw [hc1, Nat.mul_one, List.getElem?_eq_getElem (by omega), Option.bind_eq_some_iff] at hb
    obtain ⟨cs', hcs', hy⟩ := hb
    obtain ⟨xs, n', _, _, hcl, hxl, hf⟩ := DataW.trod_struct Tryz.underlying49 hy
    have hx1 : xs.length = 1 := hxl
    rw [hc1] at hcl
    match cs', hcl, xs, hx1 with
    | [u], _, [z], _ =>
      have h0 := hf 0 _ rfl
      have hc2 : Tryz.prog.cellsOf 22 = 1 := by kernel_rfl
      have h0 : DataW.trod enc Tryz.prog w base (fun _ => true) held n' 22 [u] = some z := h0
      rcases open_ints Tryz.underlying22 Tryz.underlying5 (by kernel_rfl) h0 with ⟨hu, _⟩ | ⟨x', l', c', zs, hu, _, hl', hm', hz', _, hcell', hwz'⟩
      · simp at hu
        subst hu
        exact ⟨none, 0, 0, [], cell_of_cells?_one hcs', .inl ⟨rfl, rfl, rfl, rfl⟩⟩
      · simp at hu
        subst hu
        exact ⟨some x', l', c', zs, cell_of_cells?_one hcs', .inr ⟨x', rfl, hl', hm', by simpa using hz', hcell', hwz'⟩⟩
end Go.Proofs.YtdbgdiahddpgkaaGreat
