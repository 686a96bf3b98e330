import Derived.Test.YtcaljanahpdidaaGreatGV21
import Derived.Maps.AppendAt
import Derived.Test.YtcaljanahpdidaaGreatGV14
import Derived.Test.YtcaljanahpdidaaGreatGV16
import Derived.Test.YtcaljanahpdidaaGreatGV17
namespace Go.Proofs.YtcaljanahpdidaaGreat
open Go Go.RowKit
theorem mInfo : (Tryz.prog.info? 28).map (fun i => (i.zero, i.size, i.bytes)) = some (some (.agg zM.toArray), 13, 224) := by kernel_rfl
theorem mUnd : Tryz.prog.underlying 23 = some (.slice 28) := Tryz.underlying23
theorem MRow.app {w : World} {B : Nat} {v : Value} {ms : List Msg} {es : List El} (h : MRow w B v ms es) (m : Msg) (e : El) (hB : B ≤ w.heap.size) (hA : AnsC w e.F e.p m e.bs) (hB0 : B ≤ e.F 0) (hT : e.F 7 ≤ w.heap.size) (hd : ∀ i, i < ms.length → (es.getD i el0).F 7 ≤ e.F 0) (ho : ∀ g, v.ownBlock = some g → g < e.F 0 ∨ e.F 7 ≤ g) (hl : ms.length ≤ 1048576) :
    ∃ v' w', (Builtin.append_ #[23, 23] 23 #[v, .slice (some ⟨w.heap.size, 0, none⟩) 1 1]).run Tryz.prog (w.alloc (.cells (mgV e.p m) 28)) = .ok v' w' ∧ MRow w' B v' (ms ++ [m]) (es ++ [e]) ∧ (∀ k, k < w.heap.size → v.ownBlock ≠ some k → w'.heap[k]? = w.heap[k]?) ∧ Below B w w' ∧ ∀ p, p < w.heap.size → v.ownBlock ≠ some p → v'.ownBlock ≠ some p := by
  obtain ⟨i, hi, hz, hs, hby⟩ := info_parts mInfo
  have na : Below w.heap.size w (w.alloc (.cells (mgV e.p m) 28)) := (Below.refl _ _).alloc (Nat.le_refl _) _
  have h0 : (w.alloc (.cells (mgV e.p m) 28)).ownsRow B 28 13 v ms.length (mgCs ms es) := h.o.alloc _
  have hcell : ∀ j u, ((mgV e.p m).toList)[j]? = some u → (w.alloc (.cells (mgV e.p m) 28)).cell? ((⟨w.heap.size, 0, none⟩ : Addr).add j) = some u := by
    intro j u hj
    have e' : (w.alloc (.cells (mgV e.p m) 28)).heap[w.heap.size]? = some (.cells (mgV e.p m) 28) := heap_alloc_new w _
    rw [add_mid, Nat.zero_add, cell_of_row _ _ j _ _ (0, 0) e']
    simpa using hj
  obtain ⟨v', w', h1, h2, h3, h4, h5⟩ := run_append_own_at (P := Tryz.prog) (w.alloc (.cells (mgV e.p m) 28)) B 23 23 28 i (.agg zM.toArray) 13 224 mUnd hi hz hs hby rfl (by decide) v ms.length (mgCs ms es) h0 ⟨w.heap.size, 0, none⟩ 1 1 ((mgV e.p m).toList) (by rw [mgV_len]) hcell (fun u hu => by
    have := one13m e.p m
    rw [Array.all_eq_true_iff_forall_mem] at this
    exact this u (by simpa using hu)) (by unfold maxLen; omega) (by omega) (Nat.le_trans hB na.size)
  have z : (w.alloc (.cells (mgV e.p m) 28)).heap.size = w.heap.size + 1 := by simp
  have keep : ∀ k, k < w.heap.size → v.ownBlock ≠ some k → w'.heap[k]? = w.heap[k]? := fun k hk hne => (h3.block k (by omega) (fun e => hne e.symm)).trans (na.block k hk)
  have ob := h.o.lt
  have sz : w.heap.size ≤ w'.heap.size := Nat.le_trans na.size h3.size
  have A1 : ∀ j, j < ms.length → (es ++ [e]).getD j el0 = es.getD j el0 := fun j hj => by
    have : j < es.length := by rw [h.l]; exact hj
    simp [List.getD, List.getElem?_append_left this]
  have A2 : ∀ j, j < ms.length → (ms ++ [m]).getD j msg0 = ms.getD j msg0 := fun j hj => by simp [List.getD, List.getElem?_append_left hj]
  have A3 : (es ++ [e]).getD ms.length el0 = e := by rw [← h.l]; simp
  have A4 : (ms ++ [m]).getD ms.length msg0 = m := by simp
  have LT : ∀ p, p < w.heap.size → v.ownBlock ≠ some p → v'.ownBlock ≠ some p := fun p hp hn => by
    rcases h5 with h5 | h5
    · rw [h5]; exact hn
    · rw [h5]
      intro e
      have e := Option.some.inj e
      omega
  have GE : ∀ g, v'.ownBlock = some g → v.ownBlock = some g ∨ w.heap.size ≤ g := fun g hg => by
    by_cases hlt : g < w.heap.size
    · by_cases hv : v.ownBlock = some g
      · exact .inl hv
      · exact absurd hg (LT g hlt hv)
    · exact .inr (by omega)
  have cut : ∀ j, j < (ms ++ [m]).length → j < ms.length ∨ j = ms.length := fun j hj => by
    rw [List.length_append] at hj
    simp at hj
    omega
  refine ⟨v', w', h1, ⟨?_, by simp [h.l], fun j hj => ?_, fun j hj => ?_, fun j k hjk hk => ?_, fun j hj => ?_⟩, keep, ((Below.refl B w).alloc hB _).grown h3 (by omega) (fun k hk => (ob k hk).1), LT⟩
  · show w'.ownsRow B 28 13 v' (ms ++ [m]).length (mgCs (ms ++ [m]) (es ++ [e]))
    rw [mgCs_snoc ms es m e h.l, List.length_append]
    exact h2
  · rcases cut j hj with hj' | rfl
    · rw [A1 j hj', A2 j hj']
      exact (h.b j hj').of fun k hk k0 k7 => keep k hk (fun e => by rcases (h.h j hj').2 k e with q | q <;> omega)
    · rw [A3, A4]
      exact hA.of fun k hk k0 k7 => keep k hk (fun e => by rcases ho k e with q | q <;> omega)
  · rcases cut j hj with hj' | rfl
    · rw [A1 j hj']
      refine ⟨(h.h j hj').1, fun g hg => ?_⟩
      rcases GE g hg with q | q
      · exact (h.h j hj').2 g q
      · exact .inr (Nat.le_trans (h.t j hj') q)
    · rw [A3]
      refine ⟨hB0, fun g hg => ?_⟩
      rcases GE g hg with q | q
      · exact ho g q
      · exact .inr (Nat.le_trans hT q)
  · rcases cut k hk with hk' | rfl
    · rw [A1 j (by omega), A1 k hk']
      exact h.d j k hjk hk'
    · rw [A1 j hjk, A3]
      exact hd j hjk
  · rcases cut j hj with hj' | rfl
    · rw [A1 j hj']
      exact Nat.le_trans (h.t j hj') sz
    · rw [A3]
      exact Nat.le_trans hT sz
theorem MRow.cells {w : World} {B : Nat} {v : Value} {ms : List Msg} {es : List El} (h : MRow w B v ms es) (h0 : 0 < ms.length) : ∃ g c, v = .slice (some ⟨g, 0, none⟩) ms.length c ∧ B ≤ g ∧ g < w.heap.size ∧ v.ownBlock = some g ∧ (∀ i, i < ms.length → w.rangeAt g (i * 13) (mgV (es.getD i el0).p (ms.getD i msg0)).toList) ∧ (∀ i, w.frozen? ⟨g, i, none⟩ = false) := by
  rcases h.o.2 with ⟨_, h'⟩ | ⟨g, cap, cur, rfl, hb, hg, hnc, hcm, hcs, ht⟩
  · omega
  · refine ⟨g, cap, rfl, hb, (Array.getElem?_eq_some_iff.1 hg).1, rfl, fun i hi => ?_, fun i => frozen_of_row w g i cur 28 hg⟩
    intro j u hj
    have hj13 : j < 13 := by
      have := (List.getElem?_eq_some_iff.1 hj).1
      rw [mgV_len] at this
      exact this
    rw [cell_of_row w g _ cur _ (0, 0) hg]
    have : (cur.toList.take (ms.length * 13))[i * 13 + j]? = (mgCs ms es)[i * 13 + j]? := by rw [ht]
    rw [List.getElem?_take, if_pos (by omega), mgCs_at ms es i j h.l hi hj13, hj] at this
    simpa using this
theorem MRow.slice {w : World} {B : Nat} {v : Value} {ms : List Msg} {es : List El} (h : MRow w B v ms es) : ∃ a c, v = .slice a ms.length c ∧ (a = none → c = 0) := by
  rcases h.o.2 with ⟨h1, h'⟩ | ⟨g, cap, cur, rfl, hb, hg, hnc, hcm, hcs, ht⟩
  · exact ⟨none, 0, by rw [h1, h'], fun _ => rfl⟩
  · exact ⟨_, cap, rfl, fun e => by cases e⟩
end Go.Proofs.YtcaljanahpdidaaGreat
namespace Go.Proofs.YtcaljanahpdidaaGreat
open Go Go.RowKit
structure UsM (p : MQ) (m : Msg) (S : Nat → Prop) : Prop where
  r : 0 < m.r.length → S p.g2
  s : 0 < m.s.length → S p.g3
  pr : 0 < m.pr.length → S p.g5
  ti : 0 < m.ti.length → S p.g6
  bi : 0 < m.bi.length → S p.g9
  ce : 0 < m.ce.length → S p.g11
  cs : ∀ i, i < m.ce.length → 0 < (m.ce.getD i []).length → S (p.ps.getD i plb0).q
  pf : 0 < m.pf.length → S p.g12
theorem UsM.mono {p : MQ} {m : Msg} {S T : Nat → Prop} (h : UsM p m S) (k : ∀ g, S g → T g) : UsM p m T := ⟨fun a => k _ (h.r a), fun a => k _ (h.s a), fun a => k _ (h.pr a), fun a => k _ (h.ti a), fun a => k _ (h.bi a), fun a => k _ (h.ce a), fun i hi a => k _ (h.cs i hi a), fun a => k _ (h.pf a)⟩
theorem rd_ofU {W W' : World} {g : Nat} {a : Option Addr} {xs : List Int} (h : Rd W g a .u8 xs) (k : 0 < xs.length → W'.heap[g]? = W.heap[g]?) : Rd W' g a .u8 xs := by
  by_cases h0 : 0 < xs.length
  · exact h.of_block (k h0)
  · exact fun h1 => absurd h1 h0
theorem HasM.ofU {W W' : World} {p : MQ} {m : Msg} {S : Nat → Prop} (h : HasM W p m) (u : UsM p m S) (k : ∀ g, S g → W'.heap[g]? = W.heap[g]?) : HasM W' p m := by
  refine ⟨rd_ofU h.r fun a => k _ (u.r a), rd_ofU h.s fun a => k _ (u.s a), ?_, rd_ofU h.ti fun a => k _ (u.ti a), rd_ofU h.bi fun a => k _ (u.bi a), ⟨fun h0 => ?_, fun i hi => rd_ofU (h.ce.b i hi) fun a => k _ (u.cs i hi a)⟩, rd_ofU h.pf fun a => k _ (u.pf a), h.prC⟩
  · by_cases h0 : 0 < m.pr.length
    · exact h.pr.of_block (k _ (u.pr h0))
    · exact fun h1 => absurd h1 h0
  · obtain ⟨off, ha, hc⟩ := h.ce.r h0
    exact ⟨off, ha, fun i hi => (World.cell?_of_block (a := ⟨p.g11, off + i, none⟩) (k _ (u.ce h0))).trans (hc i hi)⟩
theorem MsF.msgU {W : World} {B : Nat} {v0 v1 v2 v3 v4 v5 v6 v7 v8 v9 v10 v11 v12 : Value} (h : MsF W B v0 v1 v2 v3 v4 v5 v6 v7 v8 v9 v10 v11 v12) : ∃ (p : MQ) (m : Msg), #[v0, v1, v2, v3, v4, v5, v6, v7, v8, v9, v10, v11, v12] = mgV p m ∧ HasM W p m ∧ IsM m ∧ HasZ p m ∧ UsM p m (fun g => B ≤ g ∧ g < W.heap.size) := by
  obtain ⟨⟨n0, rfl⟩, ⟨n1, rfl⟩, ⟨X2, R2, l2, y2⟩, ⟨X3, R3, l3, y3⟩, ⟨l4, rfl, m4⟩, ⟨a5, c5, g5, X5, rfl, r5, k5, j5, m5, u5⟩, ⟨X6, R6, l6, y6⟩, ⟨n7, rfl⟩, ⟨n8, rfl⟩, ⟨X9, R9, l9, y9⟩, ⟨b, rfl⟩, ⟨a11, c11, g11, X11, ps, rfl, r11, j11, m11, u11⟩, ⟨X12, R12, l12, y12⟩⟩ := h
  obtain ⟨a2, c2, g2, rfl, o2, z2, _, b2⟩ := R2.own
  obtain ⟨a3, c3, g3, rfl, o3, z3, _, b3⟩ := R3.own
  obtain ⟨a6, c6, g6, rfl, o6, z6, _, b6⟩ := R6.own
  obtain ⟨a9, c9, g9, rfl, o9, z9, _, b9⟩ := R9.own
  obtain ⟨a12, c12, g12, rfl, o12, z12, _, b12⟩ := R12.own
  refine ⟨⟨a2, c2, g2, a3, c3, g3, a5, c5, g5, a6, c6, g6, a9, c9, g9, a11, c11, g11, a12, c12, g12, ps⟩, ⟨n0, n1, X2, X3, l4, X5, X6, n7, n8, X9, b, X11, X12⟩, rfl, ⟨o2.rd, o3.rd, r5, o6.rd, o9.rd, r11, o12.rd, k5⟩, ⟨y2, y3, y6, y9, y12, fun i hi => (m11 i hi).1, ?_, ?_, ?_, ?_, ?_, ?_, ?_, fun i hi => ?_, ?_, fun l hl => ?_⟩, ⟨z2, z3, z6, z9, z12, fun i hi => (m11 i hi).2.2.1⟩, ⟨fun a => ⟨b2, o2.rd.lt a⟩, fun a => ⟨b3, o3.rd.lt a⟩, fun a => ⟨(u5 a).1, r5.lt a⟩, fun a => ⟨b6, o6.rd.lt a⟩, fun a => ⟨b9, o9.rd.lt a⟩, fun a => ⟨(u11 a).1, by obtain ⟨_, cs, mk, e⟩ := u11 a; exact heap_lt e⟩, fun i hi a => ⟨((m11 i hi).2.2.2 a).1, (r11.b i hi).lt a⟩, fun a => ⟨b12, o12.rd.lt a⟩⟩⟩
  · show X2.length ≤ _; omega
  · show X3.length ≤ _; omega
  · show X5.length ≤ _; omega
  · show X6.length ≤ _; omega
  · show X9.length ≤ _; omega
  · show X11.length ≤ _; omega
  · show X12.length ≤ _; omega
  · have := (m11 i hi).2.1
    show (X11.getD i []).length ≤ _
    omega
  · show l4.length ≤ _; omega
  · have := m5 l hl
    omega
structure WRow (w : World) (B : Nat) (v : Value) (x : Option Nat) (ms : List Msg) (es : List El) : Prop where
  o : w.ownsRow B 28 13 v ms.length (mgCs ms es)
  l : es.length = ms.length
  b : ∀ i, i < ms.length → HasM w (es.getD i el0).p (ms.getD i msg0) ∧ IsM (ms.getD i msg0) ∧ HasZ (es.getD i el0).p (ms.getD i msg0)
  u : ∀ i, i < ms.length → UsM (es.getD i el0).p (ms.getD i msg0) (fun g => v.ownBlock ≠ some g ∧ x ≠ some g ∧ g < w.heap.size)
theorem WRow.keep {w w' : World} {B : Nat} {v : Value} {x x' : Option Nat} {ms : List Msg} {es : List El} (h : WRow w B v x ms es) (k : ∀ g, g < w.heap.size → x ≠ some g → w'.heap[g]? = w.heap[g]?) (hs : w.heap.size ≤ w'.heap.size) (hv : ∀ g, v.ownBlock = some g → x ≠ some g) (hx : x' = x ∨ ∀ g, x' = some g → w.heap.size ≤ g) : WRow w' B v x' ms es := by
  refine ⟨⟨h.o.1, ?_⟩, h.l, fun i hi => ⟨(h.b i hi).1.ofU (h.u i hi) fun g ⟨_, g2, g3⟩ => k g g3 g2, (h.b i hi).2⟩, fun i hi => (h.u i hi).mono fun g ⟨g1, g2, g3⟩ => ⟨g1, ?_, by omega⟩⟩
  · rcases h.o.2 with h' | ⟨g, cap, cur, rfl, hb, hg, hk⟩
    · exact .inl h'
    · exact .inr ⟨g, cap, cur, rfl, hb, (k g (heap_lt hg) (hv g rfl)).trans hg, hk⟩
  · rcases hx with rfl | hx
    · exact g2
    · intro e
      have := hx g e
      omega
theorem WRow.up {w w' : World} {B : Nat} {v : Value} {x : Option Nat} {ms : List Msg} {es : List El} (h : WRow w B v x ms es) (n : Below w.heap.size w w') : WRow w' B v x ms es := by
  refine ⟨⟨h.o.1, ?_⟩, h.l, fun i hi => ⟨(h.b i hi).1.up n, (h.b i hi).2⟩, fun i hi => (h.u i hi).mono fun g ⟨g1, g2, g3⟩ => ⟨g1, g2, by have := n.size; omega⟩⟩
  rcases h.o.2 with h' | ⟨g, cap, cur, rfl, hb, hg, hk⟩
  · exact .inl h'
  · exact .inr ⟨g, cap, cur, rfl, hb, (n.block g (heap_lt hg)).trans hg, hk⟩
theorem WRow.app {w : World} {B : Nat} {v : Value} {x : Option Nat} {ms : List Msg} {es : List El} (h : WRow w B v x ms es) (m : Msg) (e : El) (hB : B ≤ w.heap.size) (hM : HasM w e.p m) (hI : IsM m) (hZ : HasZ e.p m) (hU : UsM e.p m (fun g => v.ownBlock ≠ some g ∧ x ≠ some g ∧ g < w.heap.size)) (hl : ms.length ≤ 1000) :
    ∃ v' w', (Builtin.append_ #[23, 23] 23 #[v, .slice (some ⟨w.heap.size, 0, none⟩) 1 1]).run Tryz.prog (w.alloc (.cells (mgV e.p m) 28)) = .ok v' w' ∧ WRow w' B v' x (ms ++ [m]) (es ++ [e]) ∧ (∀ k, k < w.heap.size → v.ownBlock ≠ some k → w'.heap[k]? = w.heap[k]?) ∧ Below B w w' ∧ (∀ g, v'.ownBlock = some g → v.ownBlock = some g ∨ w.heap.size ≤ g) := by
  obtain ⟨i, hi, hz, hs, hby⟩ := info_parts mInfo
  have na : Below w.heap.size w (w.alloc (.cells (mgV e.p m) 28)) := (Below.refl _ _).alloc (Nat.le_refl _) _
  have h0 : (w.alloc (.cells (mgV e.p m) 28)).ownsRow B 28 13 v ms.length (mgCs ms es) := h.o.alloc _
  have hcell : ∀ j u, ((mgV e.p m).toList)[j]? = some u → (w.alloc (.cells (mgV e.p m) 28)).cell? ((⟨w.heap.size, 0, none⟩ : Addr).add j) = some u := by
    intro j u hj
    have e' : (w.alloc (.cells (mgV e.p m) 28)).heap[w.heap.size]? = some (.cells (mgV e.p m) 28) := heap_alloc_new w _
    rw [Addr.add_mid, Nat.zero_add, cell_of_row _ _ j _ _ (0, 0) e']
    simpa using hj
  obtain ⟨v', w', h1, h2, h3, h4, h5⟩ := run_append_own_at (P := Tryz.prog) (w.alloc (.cells (mgV e.p m) 28)) B 23 23 28 i (.agg zM.toArray) 13 224 mUnd hi hz hs hby rfl (by decide) v ms.length (mgCs ms es) h0 ⟨w.heap.size, 0, none⟩ 1 1 ((mgV e.p m).toList) (by rw [mgV_len]) hcell (fun u hu => by
    have := one13m e.p m
    rw [Array.all_eq_true_iff_forall_mem] at this
    exact this u (by simpa using hu)) (by unfold maxLen; omega) (by omega) (Nat.le_trans hB na.size)
  have z : (w.alloc (.cells (mgV e.p m) 28)).heap.size = w.heap.size + 1 := by simp
  have keep : ∀ k, k < w.heap.size → v.ownBlock ≠ some k → w'.heap[k]? = w.heap[k]? := fun k hk hne => (h3.block k (by omega) (fun e => hne e.symm)).trans (na.block k hk)
  have ob := h.o.lt
  have sz : w.heap.size ≤ w'.heap.size := Nat.le_trans na.size h3.size
  have A1 : ∀ j, j < ms.length → (es ++ [e]).getD j el0 = es.getD j el0 := fun j hj => by
    have : j < es.length := by rw [h.l]; exact hj
    simp [List.getD, List.getElem?_append_left this]
  have A2 : ∀ j, j < ms.length → (ms ++ [m]).getD j msg0 = ms.getD j msg0 := fun j hj => by simp [List.getD, List.getElem?_append_left hj]
  have A3 : (es ++ [e]).getD ms.length el0 = e := by rw [← h.l]; simp
  have A4 : (ms ++ [m]).getD ms.length msg0 = m := by simp
  have GE : ∀ g, v'.ownBlock = some g → v.ownBlock = some g ∨ w.heap.size ≤ g := fun g hg => by
    rcases h5 with h5 | h5
    · rw [h5] at hg; exact .inl hg
    · rw [h5] at hg
      have := Option.some.inj hg
      exact .inr (by omega)
  have cut : ∀ j, j < (ms ++ [m]).length → j < ms.length ∨ j = ms.length := fun j hj => by
    rw [List.length_append] at hj
    simp at hj
    omega
  have mv : ∀ g, (v.ownBlock ≠ some g ∧ x ≠ some g ∧ g < w.heap.size) → (v'.ownBlock ≠ some g ∧ x ≠ some g ∧ g < w'.heap.size) := fun g ⟨g1, g2, g3⟩ => ⟨fun e => by
    rcases GE g e with q | q
    · exact g1 q
    · omega, g2, by omega⟩
  refine ⟨v', w', h1, ⟨?_, by simp [h.l], fun j hj => ?_, fun j hj => ?_⟩, keep, ((Below.refl B w).alloc hB _).grown h3 (by omega) (fun k hk => (ob k hk).1), GE⟩
  · show w'.ownsRow B 28 13 v' (ms ++ [m]).length (mgCs (ms ++ [m]) (es ++ [e]))
    rw [mgCs_snoc ms es m e h.l, List.length_append]
    exact h2
  · rcases cut j hj with hj' | rfl
    · rw [A1 j hj', A2 j hj']
      exact ⟨(h.b j hj').1.ofU (h.u j hj') fun g ⟨g1, _, g3⟩ => keep g g3 g1, (h.b j hj').2⟩
    · rw [A3, A4]
      exact ⟨hM.ofU hU fun g ⟨g1, _, g3⟩ => keep g g3 g1, hI, hZ⟩
  · rcases cut j hj with hj' | rfl
    · rw [A1 j hj', A2 j hj']
      exact (h.u j hj').mono mv
    · rw [A3, A4]
      exact hU.mono mv
end Go.Proofs.YtcaljanahpdidaaGreat
namespace Go.Proofs.YtcaljanahpdidaaGreat
open Go Go.RowKit
theorem he_more {v : Int} {r s : Nat} {ho : List UInt8} {ls : List (List UInt8)} {t b : Nat} {g e : Int} (h : heF v r s ho ls t b g e = 0) : (r = 32 ∧ s = 32) ∧ t ≤ 400 ∧ b ≤ 32 := by
  unfold heF at h
  by_cases h1 : (fpB v r s || !bdB t b g e) = true
  · rw [if_pos h1] at h
    simp at h
  rw [if_neg h1] at h
  rw [Bool.not_eq_true, Bool.or_eq_false_iff] at h1
  by_cases h2 : nameF ho ≠ 0
  · rw [if_pos h2] at h
    simp at h
  rw [if_neg h2] at h
  by_cases h3 : prB ls 8 = false
  · rw [if_pos h3] at h
    simp at h
  rw [if_neg h3] at h
  by_cases h4 : 400 < t
  · rw [if_pos h4] at h
    simp at h
  refine ⟨?_, by omega, ?_⟩
  · have f := h1.1
    unfold fpB at f
    rw [Bool.or_eq_false_iff, Bool.or_eq_false_iff, Bool.or_eq_false_iff] at f
    have a := of_decide_eq_false f.2.2.1
    have c := of_decide_eq_false f.2.2.2
    omega
  · have f := h1.2
    have f' : bdB t b g e = true := by simpa using f
    unfold bdB at f'
    by_cases c : t = 0
    · rw [if_pos c, Bool.and_eq_true] at f'
      have := of_decide_eq_true f'.1
      omega
    · rw [if_neg c] at f'
      have := of_decide_eq_true f'
      omega
theorem fp_more {v : Int} {r s : Nat} (h : fpF v r s = 0) : r = 32 ∧ s = 32 := by
  unfold fpF at h
  by_cases h1 : fpB v r s = true
  · rw [if_pos h1] at h
    simp at h
  · have f : fpB v r s = false := by simpa using h1
    unfold fpB at f
    rw [Bool.or_eq_false_iff, Bool.or_eq_false_iff, Bool.or_eq_false_iff] at f
    have a := of_decide_eq_false f.2.2.1
    have c := of_decide_eq_false f.2.2.2
    omega
theorem ti_more {g e : Int} {r t : Nat} (h : tiF g e r t = 0) : r = 32 ∧ t ≤ 400 := by
  unfold tiF at h
  by_cases h1 : r ≠ 32
  · rw [if_pos h1] at h
    simp at h
  rw [if_neg h1] at h
  by_cases h2 : t = 0 ∨ 400 < t
  · rw [if_pos h2] at h
    simp at h
  omega
theorem pf_more {n k : Nat} (h : pfF n k = 0) : k = n := by
  unfold pfF at h
  by_cases h1 : k ≠ n
  · rw [if_pos h1] at h
    simp at h
  · omega
theorem ce_more {bs : List (List Int)} (h : ceF bs = 0) : ∀ i, i < bs.length → (bs.getD i []).length ≤ 2000 := by
  unfold ceF at h
  by_cases c0 : bs.length = 0
  · intro i hi
    omega
  rw [if_neg c0] at h
  by_cases c1 : 4 < bs.length
  · rw [if_pos c1] at h
    simp at h
  rw [if_neg c1] at h
  intro i hi
  by_cases c2 : 2000 < (bs.getD i []).length
  · have : ctA bs = true := ctA_yes hi (by unfold ctO; simp; exact .inr (by simpa [List.getD_eq_getElem?_getD] using c2))
    rw [if_pos this] at h
    simp at h
  · omega
theorem lsL_le {ls : List (List UInt8)} (h : ls.length ≤ 8) (hz : ∀ l ∈ ls, l.length ≤ 255) : (lsL ls).length ≤ 2049 := by
  have := sh_sum ls 255 hz ls.length
  rw [List.take_of_length_le (by simp)] at this
  unfold lsL
  rw [List.length_append]
  have : ls.length * (255 + 1) ≤ 8 * (255 + 1) := Nat.mul_le_mul_right _ h
  simp only [List.length_cons, List.length_nil]
  omega
theorem clL_le {bs : List (List Int)} (n : bs.length ≤ 4) (z : ∀ i, i < bs.length → (bs.getD i []).length ≤ 2000) : (clL bs).length ≤ 8009 := by
  have := lo_sum bs 2000 z bs.length
  rw [List.take_of_length_le (by simp)] at this
  have : bs.length * (2000 + 2) ≤ 4 * (2000 + 2) := Nat.mul_le_mul_right _ n
  unfold clL
  rw [List.length_append]
  simp only [List.length_cons, List.length_nil]
  omega
theorem heL_le {v : Int} {r s : List Int} {ho : List UInt8} {pr : List (List UInt8)} {t : List Int} {ag ea : Int} {b : List Int} (h1 : r.length = 32) (h2 : s.length = 32) (h3 : ho.length ≤ 255) (h4 : pr.length ≤ 8) (h5 : ∀ l ∈ pr, l.length ≤ 255) (h6 : t.length ≤ 400) (h7 : b.length ≤ 32) : (heL v r s ho pr t ag ea b).length ≤ 8192 := by
  have := lsL_le h4 h5
  have : (bdL t ag ea b).length ≤ 37 := by
    unfold bdL
    split
    · simp
    · simp only [List.length_append, bigL_len]; omega
  unfold heL
  simp only [List.length_append, fpL_len, shL_len, loL_len]
  omega
theorem bod_le (m : Msg) (f0 : mfF m = 0) : (bodF m).length ≤ 8192 := by
  by_cases h1 : m.k = 1
  · have F : heF m.v m.r.length m.s.length m.ho m.pr m.ti.length m.bi.length m.ag m.ea = 0 := mf_zero (m' := helloM m) (by unfold kfF; rw [if_pos h1]) f0
    have eb : bodF m = heL m.v m.r m.s m.ho m.pr m.ti m.ag m.ea m.bi := by unfold bodF; rw [if_pos h1]
    rw [eb]
    have A := he_all F; have B := he_more F; exact heL_le B.1.1 B.1.2 A.2.1 (he_pr F) A.2.2.1 B.2.1 B.2.2
  by_cases h2 : m.k = 2
  · have F : fpF m.v m.r.length m.s.length = 0 := mf_zero (m' := answerM m) (by unfold kfF; rw [if_neg h1]; rw [if_pos h2]) f0
    have eb : bodF m = fpL m.v m.r m.s ++ [if m.rs = true then 1 else 0] := by unfold bodF; rw [if_neg h1]; rw [if_pos h2]
    rw [eb]
    have B := fp_more F; rw [List.length_append, fpL_len]; simp only [List.length_cons, List.length_nil]; omega
  by_cases h4 : m.k = 4
  · have F : tiF m.ag m.ea m.r.length m.ti.length = 0 := mf_zero (m' := ticketM m) (by unfold kfF; rw [if_neg h1]; rw [if_neg h2]; rw [if_pos h4]) f0
    have eb : bodF m = tkL m.ag m.ea m.r m.ti := by unfold bodF; rw [if_neg h1]; rw [if_neg h2]; rw [if_pos h4]
    rw [eb]
    have B := ti_more F; unfold tkL; simp only [List.length_append, bigL_len, loL_len]; omega
  by_cases h5 : m.k = 5
  · skip
    have eb : bodF m = [] := by unfold bodF; rw [if_neg h1]; rw [if_neg h2]; rw [if_neg h4]; rw [if_pos h5]
    rw [eb]
    simp
  by_cases h8 : m.k = 8
  · have F : exF m.pr m.ea = 0 := mf_zero (m' := extrasM m) (by unfold kfF; rw [if_neg h1]; rw [if_neg h2]; rw [if_neg h4]; rw [if_neg h5]; rw [if_pos h8]) f0
    have eb : bodF m = lsL m.pr ++ bigL m.ea 1 := by unfold bodF; rw [if_neg h1]; rw [if_neg h2]; rw [if_neg h4]; rw [if_neg h5]; rw [if_pos h8]
    rw [eb]
    have A := ex_all F; have a1 := lsL_le (ex_pr F) A.1; rw [List.length_append, bigL_len]; omega
  by_cases h11 : m.k = 11
  · have F : ceF m.ce = 0 := mf_zero (m' := certsM m) (by unfold kfF; rw [if_neg h1]; rw [if_neg h2]; rw [if_neg h4]; rw [if_neg h5]; rw [if_neg h8]; rw [if_pos h11]) f0
    have eb : bodF m = clL m.ce := by unfold bodF; rw [if_neg h1]; rw [if_neg h2]; rw [if_neg h4]; rw [if_neg h5]; rw [if_neg h8]; rw [if_pos h11]
    rw [eb]
    have a1 := clL_le (ce_n F) (ce_more F); omega
  by_cases h15 : m.k = 15
  · have F : pfF 64 m.pf.length = 0 := mf_zero (m' := proofM m) (by unfold kfF; rw [if_neg h1]; rw [if_neg h2]; rw [if_neg h4]; rw [if_neg h5]; rw [if_neg h8]; rw [if_neg h11]; rw [if_pos h15]) f0
    have eb : bodF m = m.pf := by unfold bodF; rw [if_neg h1]; rw [if_neg h2]; rw [if_neg h4]; rw [if_neg h5]; rw [if_neg h8]; rw [if_neg h11]; rw [if_pos h15]
    rw [eb]
    have B := pf_more F; omega
  by_cases h20 : m.k = 20
  · have F : pfF 32 m.pf.length = 0 := mf_zero (m' := finishedM m) (by unfold kfF; rw [if_neg h1]; rw [if_neg h2]; rw [if_neg h4]; rw [if_neg h5]; rw [if_neg h8]; rw [if_neg h11]; rw [if_neg h15]; rw [if_pos h20]) f0
    have eb : bodF m = m.pf := by unfold bodF; rw [if_neg h1]; rw [if_neg h2]; rw [if_neg h4]; rw [if_neg h5]; rw [if_neg h8]; rw [if_neg h11]; rw [if_neg h15]; rw [if_pos h20]
    rw [eb]
    have B := pf_more F; omega
  by_cases h24 : m.k = 24
  · have F : upF m.ea = 0 := mf_zero (m' := updateM m) (by unfold kfF; rw [if_neg h1]; rw [if_neg h2]; rw [if_neg h4]; rw [if_neg h5]; rw [if_neg h8]; rw [if_neg h11]; rw [if_neg h15]; rw [if_neg h20]; rw [if_pos h24]) f0
    have eb : bodF m = bigL m.ea 1 := by unfold bodF; rw [if_neg h1]; rw [if_neg h2]; rw [if_neg h4]; rw [if_neg h5]; rw [if_neg h8]; rw [if_neg h11]; rw [if_neg h15]; rw [if_neg h20]; rw [if_pos h24]
    rw [eb]
    rw [bigL_len]; omega
  exfalso
  unfold mfF kfF at f0
  rw [if_neg h1, if_neg h2, if_neg h4, if_neg h5, if_neg h8, if_neg h11, if_neg h15, if_neg h20, if_neg h24] at f0
  simp at f0
theorem enc_le (m : Msg) : (encF m).length ≤ 10000 := by
  unfold encF
  by_cases c : mfF m = 0
  · rw [if_pos c]
    have := bod_le m c
    unfold enL
    simp only [List.length_append, bigL_len, List.length_cons, List.length_nil]
    omega
  · rw [if_neg c]
    simp
end Go.Proofs.YtcaljanahpdidaaGreat
namespace Go.Proofs.YtcaljanahpdidaaGreat
open Go Go.RowKit
def At (xs : List Int) (i : Nat) (Y : List Int) : Prop := ∃ A Z, A.length = i ∧ xs = A ++ (Y ++ Z)
theorem At.self (xs : List Int) : At xs 0 xs := ⟨[], [], rfl, by simp⟩
theorem At.fst {xs : List Int} {i : Nat} {Y Y' : List Int} (h : At xs i (Y ++ Y')) : At xs i Y := by
  obtain ⟨A, Z, l, rfl⟩ := h
  exact ⟨A, Y' ++ Z, l, by simp [List.append_assoc]⟩
theorem At.snd {xs : List Int} {i : Nat} {Y Y' : List Int} (h : At xs i (Y ++ Y')) : At xs (i + Y.length) Y' := by
  obtain ⟨A, Z, l, rfl⟩ := h
  exact ⟨A ++ Y, Z, by simp [l], by simp [List.append_assoc]⟩
theorem At.get {xs : List Int} {i : Nat} {Y : List Int} (h : At xs i Y) {j : Nat} (hj : j < Y.length) : xs.getD (i + j) 0 = Y.getD j 0 := by
  obtain ⟨A, Z, rfl, rfl⟩ := h
  rw [List.getD_eq_getElem?_getD, List.getElem?_append_right (by omega), Nat.add_sub_cancel_left, List.getElem?_append_left hj, ← List.getD_eq_getElem?_getD]
theorem At.tk {xs : List Int} {i : Nat} {Y : List Int} (h : At xs i Y) {n : Nat} (hn : Y.length = n) : tkB xs i n = Y := by
  apply List.ext_getElem
  · simp [tkB, fill, hn]
  · intro j h1 h2
    simp only [tkB, fill, List.getElem_map, List.getElem_range]
    rw [h.get h2, List.getD_eq_getElem?_getD, List.getElem?_eq_getElem h2, Option.getD_some]
theorem At.be {xs : List Int} {i t : Nat} {v : Int} (h : At xs i (bigL v t)) (v0 : 0 ≤ v) (v1 : v < 256 ^ t) : beN xs i t = v := by
  have key : ∀ k, k ≤ t → beN xs i k = v / 256 ^ (t - k) := by
    intro k
    induction k with
    | zero =>
      intro _
      rw [Nat.sub_zero, Int.ediv_eq_zero_of_lt v0 v1]
      rfl
    | succ k ih =>
      intro hk
      have e := ih (by omega)
      have g := h.get (j := k) (by rw [bigL_len]; omega)
      rw [bigL_get v t k (by omega)] at g
      show beN xs i k * 256 + xs.getD (i + k) 0 = _
      rw [e, g, show t - k = (t - 1 - k) + 1 by omega, show t - (k + 1) = t - 1 - k by omega, Int.pow_succ, ← Int.ediv_ediv_of_nonneg (Int.le_of_lt (Int.pow_pos (by omega)))]
      generalize v / 256 ^ (t - 1 - k) = q
      omega
  have := key t (Nat.le_refl _)
  simpa using this
theorem txB_txL (l : List UInt8) : txB (txL l) = l := by
  unfold txB txL
  rw [List.map_map]
  conv => rhs; rw [← List.map_id l]
  apply List.map_congr_left
  intro b _
  simp
theorem txL_len' (l : List UInt8) : (txL l).length = l.length := by simp [txL]
theorem ppT_shift (xs : List Int) (i : Nat) : ∀ k, ppT xs i (k + 1) = ppT xs (i + 1 + (beN xs i 1).toNat) k
  | 0 => rfl
  | k + 1 => by
    show ppT xs i (k + 1) + 1 + _ = _
    rw [ppT_shift xs i k]
    rfl
theorem txT_cons (xs : List Int) (i k : Nat) : txT xs i (k + 1) = txB (tkB xs (i + 1) (beN xs i 1).toNat) :: txT xs (i + 1 + (beN xs i 1).toNat) k := by
  unfold txT
  rw [List.range_succ_eq_map, List.map_cons, List.map_map]
  congr 1
  apply List.map_congr_left
  intro j _
  show txB (tkB xs (ppT xs i (j + 1) + 1) (beN xs (ppT xs i (j + 1)) 1).toNat) = _
  rw [ppT_shift]
theorem at_texts {xs : List Int} : ∀ (ls : List (List UInt8)) (i : Nat), At xs i (ls.map shL).flatten → (∀ l ∈ ls, l.length ≤ 255) → txT xs i ls.length = ls ∧ ppT xs i ls.length = i + (ls.map shL).flatten.length
  | [], i, _, _ => ⟨rfl, by simp [ppT]⟩
  | l :: ls, i, h, hl => by
    rw [List.map_cons, List.flatten_cons] at h
    have h1 := h.fst
    have h2 := h.snd
    have l0 := hl l (by simp)
    have b : beN xs i 1 = (l.length : Int) := (At.fst (Y := bigL (l.length : Int) 1) h1).be (by omega) (by simp; omega)
    have bn : (beN xs i 1).toNat = l.length := by rw [b]; simp
    have t : tkB xs (i + 1) l.length = txL l := by
      have := At.snd (Y := bigL (l.length : Int) 1) h1
      rw [bigL_len] at this
      exact this.tk (txL_len' l)
    have sl : (shL l).length = 1 + l.length := by simp [shL, bigL_len, txL]
    rw [sl] at h2
    obtain ⟨r1, r2⟩ := at_texts ls (i + (1 + l.length)) h2 (fun x hx => hl x (by simp [hx]))
    rw [List.length_cons, txT_cons, ppT_shift, bn, t, txB_txL, show i + 1 + l.length = i + (1 + l.length) by omega, r1, r2]
    refine ⟨rfl, ?_⟩
    rw [List.map_cons, List.flatten_cons, List.length_append, sl]
    omega
theorem ppL_shift (xs : List Int) (i : Nat) : ∀ k, ppL xs i (k + 1) = ppL xs (i + 2 + (beN xs i 2).toNat) k
  | 0 => rfl
  | k + 1 => by
    show ppL xs i (k + 1) + 2 + _ = _
    rw [ppL_shift xs i k]
    rfl
theorem clT_cons (xs : List Int) (i k : Nat) : clT xs i (k + 1) = tkB xs (i + 2) (beN xs i 2).toNat :: clT xs (i + 2 + (beN xs i 2).toNat) k := by
  unfold clT
  rw [List.range_succ_eq_map, List.map_cons, List.map_map]
  congr 1
  apply List.map_congr_left
  intro j _
  show tkB xs (ppL xs i (j + 1) + 2) (beN xs (ppL xs i (j + 1)) 2).toNat = _
  rw [ppL_shift]
theorem at_lists {xs : List Int} : ∀ (ls : List (List Int)) (i : Nat), At xs i (ls.map loL).flatten → (∀ l ∈ ls, l.length ≤ 65535) → clT xs i ls.length = ls ∧ ppL xs i ls.length = i + (ls.map loL).flatten.length
  | [], i, _, _ => ⟨rfl, by simp [ppL]⟩
  | l :: ls, i, h, hl => by
    rw [List.map_cons, List.flatten_cons] at h
    have h1 := h.fst
    have h2 := h.snd
    have l0 := hl l (by simp)
    have b : beN xs i 2 = (l.length : Int) := (At.fst (Y := bigL (l.length : Int) 2) h1).be (by omega) (by simp; omega)
    have bn : (beN xs i 2).toNat = l.length := by rw [b]; simp
    have t : tkB xs (i + 2) l.length = l := by
      have := At.snd (Y := bigL (l.length : Int) 2) h1
      rw [bigL_len] at this
      exact this.tk rfl
    have sl : (loL l).length = 2 + l.length := by rw [loL_len]; omega
    rw [sl] at h2
    obtain ⟨r1, r2⟩ := at_lists ls (i + (2 + l.length)) h2 (fun x hx => hl x (by simp [hx]))
    rw [List.length_cons, clT_cons, ppL_shift, bn, t, show i + 2 + l.length = i + (2 + l.length) by omega, r1, r2]
    refine ⟨rfl, ?_⟩
    rw [List.map_cons, List.flatten_cons, List.length_append, sl]
    omega
end Go.Proofs.YtcaljanahpdidaaGreat
namespace Go.Proofs.YtcaljanahpdidaaGreat
open Go Go.RowKit
theorem sameM_eq {m' m : Msg} (h : sameM m' m = true) : m' = m := by
  obtain ⟨k, v, r, s, ho, pr, ti, ag, ea, bi, rs, ce, pf⟩ := m
  obtain ⟨k', v', r', s', ho', pr', ti', ag', ea', bi', rs', ce', pf'⟩ := m'
  simp only [sameM, Bool.and_eq_true, decide_eq_true_eq] at h
  obtain ⟨h1, h2, h3, h4, h5, h6, h7, h8, h9, h10, h11, h12, h13⟩ := h
  subst h1 h2 h3 h4 h5 h6 h7 h8 h9 h10 h11 h12 h13
  rfl
theorem mf_same {m m' : Msg} {f : Int} (hk : kfF m = some (m', f)) (h : mfF m = 0) : m' = m := by
  unfold mfF at h
  rw [hk] at h
  by_cases c : sameM m' m = true
  · exact sameM_eq c
  · simp [c] at h
theorem he_rest {v : Int} {r s : Nat} {ho : List UInt8} {ls : List (List UInt8)} {t b : Nat} {g e : Int} (h : heF v r s ho ls t b g e = 0) : bdB t b g e = true ∧ ageB g = true ∧ flgB e = true := by
  unfold heF at h
  by_cases h1 : (fpB v r s || !bdB t b g e) = true
  · rw [if_pos h1] at h; simp at h
  rw [if_neg h1] at h
  rw [Bool.not_eq_true, Bool.or_eq_false_iff] at h1
  by_cases h2 : nameF ho ≠ 0
  · rw [if_pos h2] at h; simp at h
  rw [if_neg h2] at h
  by_cases h3 : prB ls 8 = false
  · rw [if_pos h3] at h; simp at h
  rw [if_neg h3] at h
  by_cases h4 : 400 < t
  · rw [if_pos h4] at h; simp at h
  rw [if_neg h4] at h
  by_cases h5 : (!ageB g || !flgB e) = true
  · rw [if_pos h5] at h; simp at h
  rw [Bool.not_eq_true, Bool.or_eq_false_iff] at h5
  exact ⟨by simpa using h1.2, by simpa using h5.1, by simpa using h5.2⟩
theorem age_rng {n : Int} (h : ageB n = true) : 0 ≤ n ∧ n ≤ 4294967295 := by simpa [ageB] using h
theorem flg_rng {n : Int} (h : flgB n = true) : n = 0 ∨ n = 1 := by simpa [flgB] using h
set_option maxHeartbeats 1000000 in
theorem rd_hello {m : Msg} (h : mfF m = 0) (hk : m.k = 1) : rdHello (bodF m) = m := by
  have kf : kfF m = some (helloM m, heF m.v m.r.length m.s.length m.ho m.pr m.ti.length m.bi.length m.ag m.ea) := by unfold kfF; exact if_pos hk
  have f0 := mf_zero kf h
  have sm := mf_same kf h
  obtain ⟨⟨v0, v1⟩, hoL, prZ, _, _⟩ := he_all f0
  obtain ⟨⟨rl, sl⟩, tl, _⟩ := he_more f0
  have pl := he_pr f0
  obtain ⟨bd, ag, fl⟩ := he_rest f0
  have agr := age_rng ag
  have flr := flg_rng fl
  have xe : bodF m = fpL m.v m.r m.s ++ (shL m.ho ++ (lsL m.pr ++ (loL m.ti ++ bdL m.ti m.ag m.ea m.bi))) := by unfold bodF; exact if_pos hk
  obtain ⟨xs, hx⟩ : ∃ xs, xs = bodF m := ⟨_, rfl⟩
  have A0 : At xs 0 (fpL m.v m.r m.s ++ (shL m.ho ++ (lsL m.pr ++ (loL m.ti ++ bdL m.ti m.ag m.ea m.bi)))) := by rw [← xe, hx]; exact At.self _
  rw [← hx]
  clear xe hx kf f0 ag fl h
  have a1 := A0.fst
  have e1 : beN xs 0 1 = m.v := (At.fst (Y := bigL m.v 1) a1).be v0 (by simp; omega)
  have a1s := At.snd (Y := bigL m.v 1) a1
  rw [bigL_len, Nat.zero_add] at a1s
  have e2 : tkB xs 1 32 = m.r := a1s.fst.tk rl
  have e3 : tkB xs 33 32 = m.s := by
    have := a1s.snd
    rw [rl] at this
    exact this.tk sl
  have a2 := A0.snd
  rw [fpL_len, rl, sl] at a2
  have a2f := a2.fst
  have e4 : (beN xs 65 1).toNat = m.ho.length := by
    rw [(At.fst (Y := bigL (m.ho.length : Int) 1) a2f).be (by omega) (by simp; omega)]
    simp
  have e5 : txB (tkB xs 66 m.ho.length) = m.ho := by
    have := At.snd (Y := bigL (m.ho.length : Int) 1) a2f
    rw [bigL_len] at this
    rw [this.tk (txL_len' _), txB_txL]
  have shl : (shL m.ho).length = 1 + m.ho.length := by simp [shL, bigL_len, txL]
  have a3 := a2.snd
  rw [shl] at a3
  have hA : hpA xs = 66 + m.ho.length := by unfold hpA; rw [e4]
  have a3' : At xs (hpA xs) (lsL m.pr ++ (loL m.ti ++ bdL m.ti m.ag m.ea m.bi)) := by
    rw [hA]
    rw [show (0 + (32 + 32 + 1) + (1 + m.ho.length) : Nat) = 66 + m.ho.length by omega] at a3
    exact a3
  have a3f := a3'.fst
  have e6 : (xs.getD (hpA xs) 0).toNat = m.pr.length := by
    have := (At.fst (Y := [(m.pr.length : Int)]) a3f).get (j := 0) (by simp)
    rw [Nat.add_zero] at this
    rw [this]
    simp
  have a3s := At.snd (Y := [(m.pr.length : Int)]) a3f
  obtain ⟨e7, e8⟩ := at_texts m.pr (hpA xs + 1) a3s prZ
  have hB : hpB xs = hpA xs + 1 + (m.pr.map shL).flatten.length := by unfold hpB; rw [e6, e8]
  have a4 := a3'.snd
  have lsl : (lsL m.pr).length = 1 + (m.pr.map shL).flatten.length := by simp [lsL]; omega
  rw [lsl, show hpA xs + (1 + (m.pr.map shL).flatten.length) = hpB xs by omega] at a4
  have a4f := a4.fst
  have e9 : hpN xs = m.ti.length := by
    unfold hpN
    rw [(At.fst (Y := bigL (m.ti.length : Int) 2) a4f).be (by omega) (by simp; omega)]
    simp
  have e10 : tkB xs (hpB xs + 2) m.ti.length = m.ti := by
    have := At.snd (Y := bigL (m.ti.length : Int) 2) a4f
    rw [bigL_len] at this
    exact this.tk rfl
  have a5 := a4.snd
  rw [loL_len] at a5
  have hC : hpC xs = hpB xs + 2 + m.ti.length := by unfold hpC; rw [e9]
  have a5' : At xs (hpC xs) (bdL m.ti m.ag m.ea m.bi) := by
    rw [hC]
    rw [show hpB xs + (m.ti.length + 2) = hpB xs + 2 + m.ti.length by omega] at a5
    exact a5
  rw [← sm]
  show (⟨1, beN xs 0 1, tkB xs 1 32, tkB xs 33 32, txB (tkB xs 66 (beN xs 65 1).toNat), txT xs (hpA xs + 1) (xs.getD (hpA xs) 0).toNat, tkB xs (hpB xs + 2) (hpN xs), if hpN xs = 0 then 0 else beN xs (hpC xs) 4, if hpN xs = 0 then 0 else beN xs (hpC xs + 4) 1, if hpN xs = 0 then [] else tkB xs (hpC xs + 5) 32, false, [], []⟩ : Msg) = ⟨1, m.v, m.r, m.s, m.ho, m.pr, m.ti, m.ag, m.ea, m.bi, false, [], []⟩
  rw [e1, e2, e3, e4, e5, e6, e7, e9, e10]
  by_cases t0 : m.ti.length = 0
  · unfold bdB at bd
    rw [if_pos t0] at bd
    simp only [Bool.and_eq_true, decide_eq_true_eq] at bd
    rw [if_pos t0, if_pos t0, if_pos t0, bd.2.1, bd.2.2, List.length_eq_zero_iff.1 bd.1]
  · unfold bdB at bd
    rw [if_neg t0, decide_eq_true_eq] at bd
    unfold bdL at a5'
    rw [if_neg t0] at a5'
    have f1 : beN xs (hpC xs) 4 = m.ag := a5'.fst.be agr.1 (by simp; omega)
    have b1 := a5'.snd
    rw [bigL_len] at b1
    have f2 : beN xs (hpC xs + 4) 1 = m.ea := b1.fst.be (by omega) (by simp; omega)
    have b2 := b1.snd
    rw [bigL_len] at b2
    have f3 : tkB xs (hpC xs + 5) 32 = m.bi := b2.tk bd
    rw [if_neg t0, if_neg t0, if_neg t0, f1, f2, f3]
theorem be_one (xs : List Int) (i : Nat) : beN xs i 1 = xs.getD i 0 := by
  show (0 : Int) * 256 + xs.getD (i + 0) 0 = _
  rw [Nat.add_zero]
  omega
theorem fp_v {v : Int} {r s : Nat} (h : fpF v r s = 0) : 0 ≤ v ∧ v ≤ 255 := by
  unfold fpF at h
  by_cases c : fpB v r s = true
  · rw [if_pos c] at h; simp at h
  · exact fp_all (by simpa using c)
theorem rd_answer {m : Msg} (h : mfF m = 0) (hk : m.k = 2) : rdAnswer (bodF m) = m := by
  have kf : kfF m = some (answerM m, fpF m.v m.r.length m.s.length) := by unfold kfF; rw [if_neg (by omega), if_pos hk]
  have f0 := mf_zero kf h
  have sm := mf_same kf h
  obtain ⟨v0, v1⟩ := fp_v f0
  obtain ⟨rl, sl⟩ := fp_more f0
  have xe : bodF m = fpL m.v m.r m.s ++ [if m.rs = true then 1 else 0] := by unfold bodF; rw [if_neg (by omega), if_pos hk]
  obtain ⟨xs, hx⟩ : ∃ xs, xs = bodF m := ⟨_, rfl⟩
  have A0 : At xs 0 (fpL m.v m.r m.s ++ [if m.rs = true then 1 else 0]) := by rw [← xe, hx]; exact At.self _
  rw [← hx]
  clear xe hx kf f0 h
  have a1 := A0.fst
  have e1 : beN xs 0 1 = m.v := (At.fst (Y := bigL m.v 1) a1).be v0 (by simp; omega)
  have a1s := At.snd (Y := bigL m.v 1) a1
  rw [bigL_len, Nat.zero_add] at a1s
  have e2 : tkB xs 1 32 = m.r := a1s.fst.tk rl
  have e3 : tkB xs 33 32 = m.s := by
    have := a1s.snd
    rw [rl] at this
    exact this.tk sl
  have a2 := A0.snd
  rw [fpL_len, rl, sl] at a2
  have e4 : beN xs 65 1 = if m.rs = true then 1 else 0 := by
    rw [be_one]
    exact a2.get (j := 0) (by simp)
  have e5 : (beN xs 65 1 == 1) = m.rs := by
    rw [e4]
    cases m.rs <;> simp
  rw [← sm]
  show (⟨2, beN xs 0 1, tkB xs 1 32, tkB xs 33 32, [], [], [], 0, 0, [], beN xs 65 1 == 1, [], []⟩ : Msg) = ⟨2, m.v, m.r, m.s, [], [], [], 0, 0, [], m.rs, [], []⟩
  rw [e1, e2, e3, e5]
theorem ti_rest {g e : Int} {r t : Nat} (h : tiF g e r t = 0) : ageB g = true ∧ ageB e = true := by
  unfold tiF at h
  by_cases h1 : r ≠ 32
  · rw [if_pos h1] at h; simp at h
  rw [if_neg h1] at h
  by_cases h2 : t = 0 ∨ 400 < t
  · rw [if_pos h2] at h; simp at h
  rw [if_neg h2] at h
  by_cases h5 : (!ageB g || !ageB e) = true
  · rw [if_pos h5] at h; simp at h
  rw [Bool.not_eq_true, Bool.or_eq_false_iff] at h5
  exact ⟨by simpa using h5.1, by simpa using h5.2⟩
theorem rd_ticket {m : Msg} (h : mfF m = 0) (hk : m.k = 4) : rdTicket (bodF m) = m := by
  have kf : kfF m = some (ticketM m, tiF m.ag m.ea m.r.length m.ti.length) := by unfold kfF; rw [if_neg (by omega), if_neg (by omega), if_pos hk]
  have f0 := mf_zero kf h
  have sm := mf_same kf h
  obtain ⟨rl, tl⟩ := ti_more f0
  have g1 := age_rng (ti_rest f0).1
  have g2 := age_rng (ti_rest f0).2
  have xe : bodF m = bigL m.ag 4 ++ (bigL m.ea 4 ++ (m.r ++ loL m.ti)) := by
    unfold bodF tkL
    rw [if_neg (by omega), if_neg (by omega), if_pos hk]
    simp [List.append_assoc]
  obtain ⟨xs, hx⟩ : ∃ xs, xs = bodF m := ⟨_, rfl⟩
  have A0 : At xs 0 (bigL m.ag 4 ++ (bigL m.ea 4 ++ (m.r ++ loL m.ti))) := by rw [← xe, hx]; exact At.self _
  rw [← hx]
  clear xe hx kf f0 h
  have e1 : beN xs 0 4 = m.ag := A0.fst.be g1.1 (by simp; omega)
  have a1 := A0.snd
  rw [bigL_len, Nat.zero_add] at a1
  have e2 : beN xs 4 4 = m.ea := a1.fst.be g2.1 (by simp; omega)
  have a2 := a1.snd
  rw [bigL_len] at a2
  have e3 : tkB xs 8 32 = m.r := a2.fst.tk rl
  have a3 := a2.snd
  rw [rl] at a3
  have e4 : (beN xs 40 2).toNat = m.ti.length := by
    rw [(At.fst (Y := bigL (m.ti.length : Int) 2) a3).be (by omega) (by simp; omega)]
    simp
  have e5 : tkB xs 42 m.ti.length = m.ti := by
    have := At.snd (Y := bigL (m.ti.length : Int) 2) a3
    rw [bigL_len] at this
    exact this.tk rfl
  rw [← sm]
  show (⟨4, 0, tkB xs 8 32, [], [], [], tkB xs 42 (beN xs 40 2).toNat, beN xs 0 4, beN xs 4 4, [], false, [], []⟩ : Msg) = ⟨4, 0, m.r, [], [], [], m.ti, m.ag, m.ea, [], false, [], []⟩
  rw [e1, e2, e3, e4, e5]
theorem rd_end {m : Msg} (h : mfF m = 0) (hk : m.k = 5) : rdEnd (bodF m) = m := by
  have kf : kfF m = some (endM m, 0) := by unfold kfF; rw [if_neg (by omega), if_neg (by omega), if_neg (by omega), if_pos hk]
  exact mf_same kf h
theorem rd_extras {m : Msg} (h : mfF m = 0) (hk : m.k = 8) : rdExtras (bodF m) = m := by
  have kf : kfF m = some (extrasM m, exF m.pr m.ea) := by unfold kfF; rw [if_neg (by omega), if_neg (by omega), if_neg (by omega), if_neg (by omega), if_pos hk]
  have f0 := mf_zero kf h
  have sm := mf_same kf h
  obtain ⟨pz, ⟨e0, e1⟩⟩ := ex_all f0
  have xe : bodF m = lsL m.pr ++ bigL m.ea 1 := by unfold bodF; rw [if_neg (by omega), if_neg (by omega), if_neg (by omega), if_neg (by omega), if_pos hk]
  obtain ⟨xs, hx⟩ : ∃ xs, xs = bodF m := ⟨_, rfl⟩
  have A0 : At xs 0 (lsL m.pr ++ bigL m.ea 1) := by rw [← xe, hx]; exact At.self _
  rw [← hx]
  clear xe hx kf f0 h
  have a1 := A0.fst
  have e6 : (xs.getD 0 0).toNat = m.pr.length := by
    have := (At.fst (Y := [(m.pr.length : Int)]) a1).get (j := 0) (by simp)
    rw [Nat.add_zero] at this
    rw [this]
    simp
  have a1s := At.snd (Y := [(m.pr.length : Int)]) a1
  obtain ⟨e7, e8⟩ := at_texts m.pr (0 + 1) a1s pz
  have a2 := A0.snd
  have lsl : (lsL m.pr).length = 1 + (m.pr.map shL).flatten.length := by simp [lsL]; omega
  rw [lsl] at a2
  rw [Nat.zero_add] at e7 e8 a2
  have e9 : beN xs (ppT xs 1 m.pr.length) 1 = m.ea := by
    rw [e8]
    exact a2.be e0 (by simp; omega)
  rw [← sm]
  show (⟨8, 0, [], [], [], txT xs 1 (xs.getD 0 0).toNat, [], 0, beN xs (ppT xs 1 (xs.getD 0 0).toNat) 1, [], false, [], []⟩ : Msg) = ⟨8, 0, [], [], [], m.pr, [], 0, m.ea, [], false, [], []⟩
  rw [e6, e7, e9]
theorem rd_certs {m : Msg} (h : mfF m = 0) (hk : m.k = 11) : rdCerts (bodF m) = m := by
  have kf : kfF m = some (certsM m, ceF m.ce) := by unfold kfF; rw [if_neg (by omega), if_neg (by omega), if_neg (by omega), if_neg (by omega), if_neg (by omega), if_pos hk]
  have f0 := mf_zero kf h
  have sm := mf_same kf h
  have cz := ce_more f0
  have xe : bodF m = clL m.ce := by unfold bodF; rw [if_neg (by omega), if_neg (by omega), if_neg (by omega), if_neg (by omega), if_neg (by omega), if_pos hk]
  obtain ⟨xs, hx⟩ : ∃ xs, xs = bodF m := ⟨_, rfl⟩
  have A0 : At xs 0 (clL m.ce) := by rw [← xe, hx]; exact At.self _
  rw [← hx]
  clear xe hx kf f0 h
  have e6 : (xs.getD 0 0).toNat = m.ce.length := by
    have := (At.fst (Y := [(m.ce.length : Int)]) A0).get (j := 0) (by simp)
    rw [Nat.add_zero] at this
    rw [this]
    simp
  have a1s := At.snd (Y := [(m.ce.length : Int)]) A0
  obtain ⟨e7, e8⟩ := at_lists m.ce (0 + 1) a1s (fun l hl => by
    obtain ⟨i, hi, rfl⟩ := List.mem_iff_getElem.1 hl
    have := cz i hi
    rw [List.getD_eq_getElem?_getD, List.getElem?_eq_getElem hi, Option.getD_some] at this
    omega)
  rw [Nat.zero_add] at e7
  rw [← sm]
  show (⟨11, 0, [], [], [], [], [], 0, 0, [], false, clT xs 1 (xs.getD 0 0).toNat, []⟩ : Msg) = ⟨11, 0, [], [], [], [], [], 0, 0, [], false, m.ce, []⟩
  rw [e6, e7]
theorem pf_len {n k : Nat} (h : pfF n k = 0) : k = n := by
  unfold pfF at h
  by_cases c : k = n
  · exact c
  · rw [if_pos c] at h; simp at h
theorem rd_proof {m : Msg} (h : mfF m = 0) (hk : m.k = 15) : rdProof (bodF m) = m := by
  have kf : kfF m = some (proofM m, pfF 64 m.pf.length) := by unfold kfF; rw [if_neg (by omega), if_neg (by omega), if_neg (by omega), if_neg (by omega), if_neg (by omega), if_neg (by omega), if_pos hk]
  have l := pf_len (mf_zero kf h)
  have sm := mf_same kf h
  have xe : bodF m = m.pf := by unfold bodF; rw [if_neg (by omega), if_neg (by omega), if_neg (by omega), if_neg (by omega), if_neg (by omega), if_neg (by omega), if_pos hk]
  have e := (At.self m.pf).tk l
  rw [xe]
  conv => rhs; rw [← sm]
  show (⟨15, 0, [], [], [], [], [], 0, 0, [], false, [], tkB m.pf 0 64⟩ : Msg) = ⟨15, 0, [], [], [], [], [], 0, 0, [], false, [], m.pf⟩
  rw [e]
theorem rd_finished {m : Msg} (h : mfF m = 0) (hk : m.k = 20) : rdFinished (bodF m) = m := by
  have kf : kfF m = some (finishedM m, pfF 32 m.pf.length) := by unfold kfF; rw [if_neg (by omega), if_neg (by omega), if_neg (by omega), if_neg (by omega), if_neg (by omega), if_neg (by omega), if_neg (by omega), if_pos hk]
  have l := pf_len (mf_zero kf h)
  have sm := mf_same kf h
  have xe : bodF m = m.pf := by unfold bodF; rw [if_neg (by omega), if_neg (by omega), if_neg (by omega), if_neg (by omega), if_neg (by omega), if_neg (by omega), if_neg (by omega), if_pos hk]
  have e := (At.self m.pf).tk l
  rw [xe]
  conv => rhs; rw [← sm]
  show (⟨20, 0, [], [], [], [], [], 0, 0, [], false, [], tkB m.pf 0 32⟩ : Msg) = ⟨20, 0, [], [], [], [], [], 0, 0, [], false, [], m.pf⟩
  rw [e]
theorem rd_update {m : Msg} (h : mfF m = 0) (hk : m.k = 24) : rdUpdate (bodF m) = m := by
  have kf : kfF m = some (updateM m, upF m.ea) := by unfold kfF; rw [if_neg (by omega), if_neg (by omega), if_neg (by omega), if_neg (by omega), if_neg (by omega), if_neg (by omega), if_neg (by omega), if_neg (by omega), if_pos hk]
  obtain ⟨e0, e1⟩ := up_all (mf_zero kf h)
  have sm := mf_same kf h
  have xe : bodF m = bigL m.ea 1 := by unfold bodF; rw [if_neg (by omega), if_neg (by omega), if_neg (by omega), if_neg (by omega), if_neg (by omega), if_neg (by omega), if_neg (by omega), if_neg (by omega), if_pos hk]
  have e := (At.self (bigL m.ea 1)).be e0 (by simp; omega)
  rw [xe]
  conv => rhs; rw [← sm]
  show (⟨24, 0, [], [], [], [], [], 0, beN (bigL m.ea 1) 0 1, [], false, [], []⟩ : Msg) = ⟨24, 0, [], [], [], [], [], 0, m.ea, [], false, [], []⟩
  rw [e]
theorem mf_kind {m : Msg} (h : mfF m = 0) : m.k = 1 ∨ m.k = 2 ∨ m.k = 4 ∨ m.k = 5 ∨ m.k = 8 ∨ m.k = 11 ∨ m.k = 15 ∨ m.k = 20 ∨ m.k = 24 := by
  by_cases c : m.k = 1 ∨ m.k = 2 ∨ m.k = 4 ∨ m.k = 5 ∨ m.k = 8 ∨ m.k = 11 ∨ m.k = 15 ∨ m.k = 20 ∨ m.k = 24
  · exact c
  · have kf : kfF m = none := by
      unfold kfF
      rw [if_neg (by omega), if_neg (by omega), if_neg (by omega), if_neg (by omega), if_neg (by omega), if_neg (by omega), if_neg (by omega), if_neg (by omega), if_neg (by omega)]
    unfold mfF at h
    rw [kf] at h
    simp at h
theorem rd_bod {m : Msg} (h : mfF m = 0) : rdM m.k (bodF m) = m := by
  unfold rdM
  rcases mf_kind h with k | k | k | k | k | k | k | k | k
  · rw [if_pos k]; exact rd_hello h k
  · rw [if_neg (by omega), if_pos k]; exact rd_answer h k
  · rw [if_neg (by omega), if_neg (by omega), if_pos k]; exact rd_ticket h k
  · rw [if_neg (by omega), if_neg (by omega), if_neg (by omega), if_pos k]; exact rd_end h k
  · rw [if_neg (by omega), if_neg (by omega), if_neg (by omega), if_neg (by omega), if_pos k]; exact rd_extras h k
  · rw [if_neg (by omega), if_neg (by omega), if_neg (by omega), if_neg (by omega), if_neg (by omega), if_pos k]; exact rd_certs h k
  · rw [if_neg (by omega), if_neg (by omega), if_neg (by omega), if_neg (by omega), if_neg (by omega), if_neg (by omega), if_pos k]; exact rd_proof h k
  · rw [if_neg (by omega), if_neg (by omega), if_neg (by omega), if_neg (by omega), if_neg (by omega), if_neg (by omega), if_neg (by omega), if_pos k]; exact rd_finished h k
  · rw [if_neg (by omega), if_neg (by omega), if_neg (by omega), if_neg (by omega), if_neg (by omega), if_neg (by omega), if_neg (by omega), if_neg (by omega)]; exact rd_update h k
end Go.Proofs.YtcaljanahpdidaaGreat
namespace Go.Proofs.YtcaljanahpdidaaGreat
open Go Go.RowKit
def cmM (xs : List Int) : Nat → Nat → List Msg
  | 0, _ => []
  | f + 1, i => if dmC xs (i : Int) = 0 then dmR xs (i : Int) :: cmM xs f (dmE xs (i : Int)).toNat else []
def cmA (xs : List Int) : Nat → Nat → Nat
  | 0, i => i
  | f + 1, i => if dmC xs (i : Int) = 0 then cmA xs f (dmE xs (i : Int)).toNat else i
def cmL (xs : List Int) : List Msg := cmM xs (xs.length + 1) 0
def cmE (xs : List Int) : Nat := cmA xs (xs.length + 1) 0
def cmC (xs : List Int) : Int := if dmC xs (cmE xs : Int) = 1 then 0 else dmC xs (cmE xs : Int)
def cmR (xs : List Int) : List Int := if dmC xs (cmE xs : Int) = 1 then xs.drop (cmE xs) else []
theorem dmE_at {xs : List Int} (hb : Byt xs) {i : Nat} (hi : i ≤ xs.length) (h : dmC xs (i : Int) = 0) : ∃ j, dmE xs (i : Int) = ((j : Nat) : Int) ∧ i + 4 ≤ j ∧ j ≤ xs.length := by
  have h' := h
  unfold dmC at h'
  split at h'
  · simp at h'
  split at h'
  · rename_i h1 h2
    exact absurd h' h2
  rename_i ho hp
  have hp : dmP (xs.drop ((i : Int)).toNat) = 0 := Decidable.not_not.1 hp
  have z := dmP_zero hp
  have n0 := beN_rng (byt_drop hb ((i : Int)).toNat) 1 3
  refine ⟨i + 4 + dmN (xs.drop ((i : Int)).toNat), ?_, by omega, ?_⟩
  · unfold dmE
    rw [if_pos h]
    omega
  · have l := z.2.2.2.2
    have e : ((i : Int)).toNat = i := rfl
    rw [e] at l n0 ⊢
    rw [List.length_drop] at l
    unfold dmN
    omega
theorem cm_step {xs : List Int} {f i : Nat} (h : dmC xs (i : Int) = 0) : cmM xs (f + 1) i = dmR xs (i : Int) :: cmM xs f (dmE xs (i : Int)).toNat ∧ cmA xs (f + 1) i = cmA xs f (dmE xs (i : Int)).toNat := by
  constructor
  · show (if dmC xs (i : Int) = 0 then _ else _) = _
    rw [if_pos h]
  · show (if dmC xs (i : Int) = 0 then _ else _) = _
    rw [if_pos h]
theorem cm_stop {xs : List Int} {f i : Nat} (h : dmC xs (i : Int) ≠ 0) : cmM xs (f + 1) i = [] ∧ cmA xs (f + 1) i = i := by
  constructor
  · show (if dmC xs (i : Int) = 0 then _ else _) = _
    rw [if_neg h]
  · show (if dmC xs (i : Int) = 0 then _ else _) = _
    rw [if_neg h]
structure CM (xs : List Int) (i : Nat) (ms : List Msg) : Prop where
  f : ∃ f, xs.length - i < f ∧ ms ++ cmM xs f i = cmL xs ∧ cmA xs f i = cmE xs
  le : i ≤ xs.length
  n : 4 * ms.length ≤ i
theorem CM.start (xs : List Int) : CM xs 0 [] := ⟨⟨xs.length + 1, by omega, rfl, rfl⟩, Nat.zero_le _, by simp⟩
theorem CM.next {xs : List Int} (hb : Byt xs) {i : Nat} {ms : List Msg} (h : CM xs i ms) (hc : dmC xs (i : Int) = 0) : ∃ j, dmE xs (i : Int) = ((j : Nat) : Int) ∧ i + 4 ≤ j ∧ CM xs j (ms ++ [dmR xs (i : Int)]) := by
  obtain ⟨j, ej, h4, hj⟩ := dmE_at hb h.le hc
  obtain ⟨f, hf, e1, e2⟩ := h.f
  obtain ⟨f, rfl⟩ : ∃ f', f = f' + 1 := ⟨f - 1, by omega⟩
  obtain ⟨s1, s2⟩ := cm_step (f := f) hc
  have et : (dmE xs (i : Int)).toNat = j := by rw [ej]; rfl
  rw [et] at s1 s2
  refine ⟨j, ej, h4, ⟨f, by omega, ?_, by rw [← e2, s2]⟩, hj, ?_⟩
  · rw [← e1, s1, List.append_assoc]
    rfl
  · rw [List.length_append]
    have := h.n
    simp
    omega
theorem CM.stop {xs : List Int} {i : Nat} {ms : List Msg} (h : CM xs i ms) (hc : dmC xs (i : Int) ≠ 0) : ms = cmL xs ∧ i = cmE xs := by
  obtain ⟨f, hf, e1, e2⟩ := h.f
  obtain ⟨f, rfl⟩ : ∃ f', f = f' + 1 := ⟨f - 1, by omega⟩
  obtain ⟨s1, s2⟩ := cm_stop (f := f) hc
  rw [s1, List.append_nil] at e1
  rw [s2] at e2
  exact ⟨e1, e2⟩
theorem dmC_rng (xs : List Int) (i : Int) : 0 ≤ dmC xs i ∧ dmC xs i ≤ 3 := by
  unfold dmC
  split
  · omega
  split
  · unfold dmP
    repeat' split
    all_goals omega
  split <;> omega
end Go.Proofs.YtcaljanahpdidaaGreat
