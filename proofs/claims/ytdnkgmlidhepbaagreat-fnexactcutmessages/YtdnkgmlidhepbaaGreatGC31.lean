import Derived.Test.YtdnkgmlidhepbaaGreatGC30
import Derived.Maps.AppendAt
namespace Go.Proofs.YtdnkgmlidhepbaaGreat
open Go Go.RowKit
structure AnsC (W : World) (F : Nat → Nat) (p : MQ) (m : Msg) (bs : List Plc) : Prop where
  r : Own W p.g2 p.a2 .u8 m.r
  s : Own W p.g3 p.a3 .u8 m.s
  pr : 0 < m.pr.length → RowT W (F 2) (.slice p.a5 m.pr.length p.c5) m.pr
  ti : Own W p.g6 p.a6 .u8 m.ti
  bi : Own W p.g9 p.a9 .u8 m.bi
  ce : 0 < m.ce.length → BRow W (F 5) (.slice p.a11 m.ce.length p.c11) m.ce bs
  pf : Own W p.g12 p.a12 .u8 m.pf
  b2 : 0 < m.r.length → F 0 ≤ p.g2 ∧ p.g2 < F 1
  b3 : 0 < m.s.length → F 1 ≤ p.g3 ∧ p.g3 < F 2
  b5 : 0 < m.pr.length → p.a5 = some ⟨p.g5, 0, none⟩ ∧ p.g5 < F 3
  b6 : 0 < m.ti.length → F 3 ≤ p.g6 ∧ p.g6 < F 4
  b9 : 0 < m.bi.length → F 4 ≤ p.g9 ∧ p.g9 < F 5
  b11 : 0 < m.ce.length → p.a11 = some ⟨p.g11, 0, none⟩ ∧ p.g11 < F 6
  bl : ∀ i, i < m.ce.length → 0 < (m.ce.getD i []).length → (bs.getD i plc0).q < F 6
  b12 : 0 < m.pf.length → F 6 ≤ p.g12 ∧ p.g12 < F 7
  mono : F 0 ≤ F 1 ∧ F 1 ≤ F 2 ∧ F 2 ≤ F 3 ∧ F 3 ≤ F 4 ∧ F 4 ≤ F 5 ∧ F 5 ≤ F 6 ∧ F 6 ≤ F 7
  z : HasZ p m
  prC : m.pr.length ≤ p.c5
  ps : p.ps = plbs bs
theorem AnsM.c {W : World} {F : Nat → Nat} {p : MQ} {m : Msg} {bs : List Plc} (h : AnsM W F p m bs) : AnsC W F p m bs :=
  ⟨h.r, h.s, fun _ => h.pr, h.ti, h.bi, fun _ => h.ce, h.pf, h.b2, h.b3, h.b5, h.b6, h.b9, h.b11, h.bl, h.b12, h.mono, h.z, h.prC, h.ps⟩
theorem BRow.ofS {w w' : World} {B : Nat} {v : Value} {its : List (List Int)} {bs : List Plc} (h : BRow w B v its bs) (ho : ∀ k, v.ownBlock = some k → w'.heap[k]? = w.heap[k]?) (hb : ∀ i, i < its.length → 0 < (its.getD i []).length → w'.heap[(bs.getD i plc0).q]? = w.heap[(bs.getD i plc0).q]?) : BRow w' B v its bs := by
  refine ⟨⟨h.o.1, ?_⟩, h.l, fun i hi => (h.b i hi).of fun h0 => hb i hi h0, h.h, h.d⟩
  rcases h.o.2 with h' | ⟨g, cap, cur, rfl, hbg, hg, hnc, hcm, hcs, ht⟩
  · exact .inl h'
  · exact .inr ⟨g, cap, cur, rfl, hbg, by rw [ho g rfl]; exact hg, hnc, hcm, hcs, ht⟩
theorem AnsC.of {W W' : World} {F : Nat → Nat} {p : MQ} {m : Msg} {bs : List Plc} (h : AnsC W F p m bs) (hb : ∀ k, k < W.heap.size → F 0 ≤ k → k < F 7 → W'.heap[k]? = W.heap[k]?) : AnsC W' F p m bs := by
  have mo := h.mono
  refine ⟨own_ch h.r fun h0 => hb _ (h.r.rd.lt h0) (h.b2 h0).1 (by have := (h.b2 h0).2; omega), own_ch h.s fun h0 => hb _ (h.s.rd.lt h0) (by have := (h.b3 h0).1; omega) (by have := (h.b3 h0).2; omega), fun h0 => ?_, own_ch h.ti fun h0 => hb _ (h.ti.rd.lt h0) (by have := (h.b6 h0).1; omega) (by have := (h.b6 h0).2; omega), own_ch h.bi fun h0 => hb _ (h.bi.rd.lt h0) (by have := (h.b9 h0).1; omega) (by have := (h.b9 h0).2; omega), fun h0 => ?_, own_ch h.pf fun h0 => hb _ (h.pf.rd.lt h0) (by have := (h.b12 h0).1; omega) (by have := (h.b12 h0).2; omega), h.b2, h.b3, h.b5, h.b6, h.b9, h.b11, h.bl, h.b12, h.mono, h.z, h.prC, h.ps⟩
  · have R := h.pr h0
    refine rowT_ch R fun k hk => hb k (World.ownsRow.lt R k hk).2 (by have := (World.ownsRow.lt R k hk).1; omega) ?_
    have e := h.b5 h0
    rw [e.1] at hk
    have : p.g5 = k := Option.some.inj hk
    omega
  · have R := h.ce h0
    refine R.ofS (fun k hk => hb k (World.ownsRow.lt R.o k hk).2 (by have := (World.ownsRow.lt R.o k hk).1; omega) ?_) (fun i hi h1 => hb _ (R.lt hi h1) (by have := (R.h i hi h1).1; omega) (by have := h.bl i hi h1; omega))
    have e := h.b11 h0
    rw [e.1] at hk
    have : p.g11 = k := Option.some.inj hk
    omega
theorem AnsC.up {W W' : World} {F : Nat → Nat} {p : MQ} {m : Msg} {bs : List Plc} (h : AnsC W F p m bs) (n : Below W.heap.size W W') : AnsC W' F p m bs := h.of fun k hk _ _ => n.block k hk
theorem AnsC.has {W : World} {F : Nat → Nat} {p : MQ} {m : Msg} {bs : List Plc} (h : AnsC W F p m bs) : HasM W p m := by
  refine ⟨h.r.rd, h.s.rd, fun h0 => ?_, h.ti.rd, h.bi.rd, ⟨fun h0 => ?_, fun i hi => ?_⟩, h.pf.rd, h.prC⟩
  · obtain ⟨e, -⟩ := h.b5 h0
    obtain ⟨g, c, e', -, -, hc, -⟩ := (h.pr h0).cells h0
    have eg : p.g5 = g := by rw [e] at e'; exact Option.some.inj (congrArg Value.ownBlock e')
    exact ⟨0, e, fun i hi => by rw [Nat.zero_add, eg]; exact hc i hi⟩
  · obtain ⟨e, -⟩ := h.b11 h0
    obtain ⟨g, c, e', -, -, -, hc⟩ := (h.ce h0).cells h0
    have eg : p.g11 = g := by rw [e] at e'; exact Option.some.inj (congrArg Value.ownBlock e')
    exact ⟨0, e, fun i hi => by rw [Nat.zero_add, eg, h.ps, plbs_get (by rw [(h.ce h0).l]; exact hi)]; exact hc i hi⟩
  · have h0 : 0 < m.ce.length := by omega
    rw [h.ps, plbs_get (by rw [(h.ce h0).l]; exact hi)]
    exact ((h.ce h0).b i hi).o.rd
structure El where
  p : MQ
  bs : List Plc
  F : Nat → Nat
def el0 : El := ⟨mq0, [], fun _ => 0⟩
def mgCs : List Msg → List El → List Value
  | m :: ms, e :: es => (mgV e.p m).toList ++ mgCs ms es
  | _, _ => []
theorem mgV_len (p : MQ) (m : Msg) : (mgV p m).toList.length = 13 := rfl
theorem mgCs_snoc : ∀ (ms : List Msg) (es : List El) (m : Msg) (e : El), es.length = ms.length → mgCs (ms ++ [m]) (es ++ [e]) = mgCs ms es ++ (mgV e.p m).toList
  | [], [], m, e, _ => by simp [mgCs]
  | [], _ :: _, _, _, h => by simp at h
  | _ :: _, [], _, _, h => by simp at h
  | y :: ms, q :: es, m, e, h => by
    show (mgV q.p y).toList ++ mgCs (ms ++ [m]) (es ++ [e]) = ((mgV q.p y).toList ++ mgCs ms es) ++ (mgV e.p m).toList
    rw [mgCs_snoc ms es m e (by simpa using h), List.append_assoc]
theorem mgCs_at : ∀ (ms : List Msg) (es : List El) (i j : Nat), es.length = ms.length → i < ms.length → j < 13 → (mgCs ms es)[i * 13 + j]? = (mgV (es.getD i el0).p (ms.getD i msg0)).toList[j]?
  | [], _, i, _, _, hi, _ => by simp at hi
  | _ :: _, [], _, _, h, _, _ => by simp at h
  | y :: ms, q :: es, 0, j, h, hi, hj => by
    show ((mgV q.p y).toList ++ mgCs ms es)[0 * 13 + j]? = _
    rw [List.getElem?_append_left (by rw [mgV_len]; omega), Nat.zero_mul, Nat.zero_add]
    rfl
  | y :: ms, q :: es, i + 1, j, h, hi, hj => by
    show ((mgV q.p y).toList ++ mgCs ms es)[(i + 1) * 13 + j]? = _
    rw [List.getElem?_append_right (by rw [mgV_len]; omega), mgV_len, show (i + 1) * 13 + j - 13 = i * 13 + j by omega, mgCs_at ms es i j (by simpa using h) (by simpa using hi) hj]
    simp
structure MRow (w : World) (B : Nat) (v : Value) (ms : List Msg) (es : List El) : Prop where
  o : w.ownsRow B 26 13 v ms.length (mgCs ms es)
  l : es.length = ms.length
  b : ∀ i, i < ms.length → AnsC w (es.getD i el0).F (es.getD i el0).p (ms.getD i msg0) (es.getD i el0).bs
  h : ∀ i, i < ms.length → B ≤ (es.getD i el0).F 0 ∧ ∀ g, v.ownBlock = some g → g < (es.getD i el0).F 0 ∨ (es.getD i el0).F 7 ≤ g
  d : ∀ i j, i < j → j < ms.length → (es.getD i el0).F 7 ≤ (es.getD j el0).F 0
  t : ∀ i, i < ms.length → (es.getD i el0).F 7 ≤ w.heap.size
theorem MRow.nil (w : World) (B : Nat) : MRow w B (.slice none 0 0) [] [] :=
  ⟨⟨rfl, .inl ⟨rfl, rfl⟩⟩, rfl, fun i h => absurd h (by simp), fun i h => absurd h (by simp), fun i j _ h => absurd h (by simp), fun i h => absurd h (by simp)⟩
theorem MRow.of {w w' : World} {B : Nat} {v : Value} {ms : List Msg} {es : List El} (h : MRow w B v ms es) (hs : w.heap.size ≤ w'.heap.size) (hb : ∀ k, k < w.heap.size → B ≤ k → w'.heap[k]? = w.heap[k]?) : MRow w' B v ms es := by
  refine ⟨⟨h.o.1, ?_⟩, h.l, fun i hi => (h.b i hi).of fun k hk h0 _ => hb k hk (by have := (h.h i hi).1; omega), h.h, h.d, fun i hi => Nat.le_trans (h.t i hi) hs⟩
  rcases h.o.2 with h' | ⟨g, cap, cur, rfl, hbg, hg, hnc, hcm, hcs, ht⟩
  · exact .inl h'
  · exact .inr ⟨g, cap, cur, rfl, hbg, by rw [hb g ((Array.getElem?_eq_some_iff.1 hg).1) hbg]; exact hg, hnc, hcm, hcs, ht⟩
end Go.Proofs.YtdnkgmlidhepbaaGreat
namespace Go.Proofs.YtdnkgmlidhepbaaGreat
open Go Go.RowKit
theorem mInfo : (Tryz.prog.info? 26).map (fun i => (i.zero, i.size, i.bytes)) = some (some (.agg zM.toArray), 13, 224) := by kernel_rfl
theorem mUnd : Tryz.prog.underlying 36 = some (.slice 26) := Tryz.underlying36
theorem MRow.app {w : World} {B : Nat} {v : Value} {ms : List Msg} {es : List El} (h : MRow w B v ms es) (m : Msg) (e : El) (hB : B ≤ w.heap.size) (hA : AnsC w e.F e.p m e.bs) (hB0 : B ≤ e.F 0) (hT : e.F 7 ≤ w.heap.size) (hd : ∀ i, i < ms.length → (es.getD i el0).F 7 ≤ e.F 0) (ho : ∀ g, v.ownBlock = some g → g < e.F 0 ∨ e.F 7 ≤ g) (hl : ms.length ≤ 1048576) :
    ∃ v' w', (Builtin.append_ #[36, 36] 36 #[v, .slice (some ⟨w.heap.size, 0, none⟩) 1 1]).run Tryz.prog (w.alloc (.cells (mgV e.p m) 26)) = .ok v' w' ∧ MRow w' B v' (ms ++ [m]) (es ++ [e]) ∧ (∀ k, k < w.heap.size → v.ownBlock ≠ some k → w'.heap[k]? = w.heap[k]?) ∧ Below B w w' ∧ ∀ p, p < w.heap.size → v.ownBlock ≠ some p → v'.ownBlock ≠ some p := by
  obtain ⟨i, hi, hz, hs, hby⟩ := info_parts mInfo
  have na : Below w.heap.size w (w.alloc (.cells (mgV e.p m) 26)) := (Below.refl _ _).alloc (Nat.le_refl _) _
  have h0 : (w.alloc (.cells (mgV e.p m) 26)).ownsRow B 26 13 v ms.length (mgCs ms es) := h.o.alloc _
  have hcell : ∀ j u, ((mgV e.p m).toList)[j]? = some u → (w.alloc (.cells (mgV e.p m) 26)).cell? ((⟨w.heap.size, 0, none⟩ : Addr).add j) = some u := by
    intro j u hj
    have e' : (w.alloc (.cells (mgV e.p m) 26)).heap[w.heap.size]? = some (.cells (mgV e.p m) 26) := heap_alloc_new w _
    rw [add_mid, Nat.zero_add, cell_of_row _ _ j _ _ (0, 0) e']
    simpa using hj
  obtain ⟨v', w', h1, h2, h3, h4, h5⟩ := run_append_own_at (P := Tryz.prog) (w.alloc (.cells (mgV e.p m) 26)) B 36 36 26 i (.agg zM.toArray) 13 224 mUnd hi hz hs hby rfl (by decide) v ms.length (mgCs ms es) h0 ⟨w.heap.size, 0, none⟩ 1 1 ((mgV e.p m).toList) (by rw [mgV_len]) hcell (fun u hu => by
    have := one13m e.p m
    rw [Array.all_eq_true_iff_forall_mem] at this
    exact this u (by simpa using hu)) (by unfold maxLen; omega) (by omega) (Nat.le_trans hB na.size)
  have z : (w.alloc (.cells (mgV e.p m) 26)).heap.size = w.heap.size + 1 := by simp
  have keep : ∀ k, k < w.heap.size → v.ownBlock ≠ some k → w'.heap[k]? = w.heap[k]? := fun k hk hne => (h3.block k (by omega) (fun e => hne e.symm)).trans (na.block k hk)
  have ob := h.o.lt
  have sz : w.heap.size ≤ w'.heap.size := Nat.le_trans na.size h3.size
  have A1 : ∀ j, j < ms.length → (es ++ [e]).getD j el0 = es.getD j el0 := fun j hj => by
    have : j < es.length := by rw [h.l]; exact hj
    simp [List.getD, List.getElem?_append_left this]
  have A2 : ∀ j, j < ms.length → (ms ++ [m]).getD j msg0 = ms.getD j msg0 := fun j hj => by simp [List.getD, List.getElem?_append_left hj]
  have A3 : (es ++ [e]).getD ms.length el0 = e := by rw [← h.l]; simp
  have A4 : (ms ++ [m]).getD ms.length msg0 = m := by simp
  have LT : ∀ p, p < w.heap.size → v.ownBlock ≠ some p → v'.ownBlock ≠ some p := fun p hp hn => by
    rcases h5 with h5 | h5
    · rw [h5]; exact hn
    · rw [h5]
      intro e
      have e := Option.some.inj e
      omega
  have GE : ∀ g, v'.ownBlock = some g → v.ownBlock = some g ∨ w.heap.size ≤ g := fun g hg => by
    by_cases hlt : g < w.heap.size
    · by_cases hv : v.ownBlock = some g
      · exact .inl hv
      · exact absurd hg (LT g hlt hv)
    · exact .inr (by omega)
  have cut : ∀ j, j < (ms ++ [m]).length → j < ms.length ∨ j = ms.length := fun j hj => by
    rw [List.length_append] at hj
    simp at hj
    omega
  refine ⟨v', w', h1, ⟨?_, by simp [h.l], fun j hj => ?_, fun j hj => ?_, fun j k hjk hk => ?_, fun j hj => ?_⟩, keep, ((Below.refl B w).alloc hB _).grown h3 (by omega) (fun k hk => (ob k hk).1), LT⟩
  · show w'.ownsRow B 26 13 v' (ms ++ [m]).length (mgCs (ms ++ [m]) (es ++ [e]))
    rw [mgCs_snoc ms es m e h.l, List.length_append]
    exact h2
  · rcases cut j hj with hj' | rfl
    · rw [A1 j hj', A2 j hj']
      exact (h.b j hj').of fun k hk k0 k7 => keep k hk (fun e => by rcases (h.h j hj').2 k e with q | q <;> omega)
    · rw [A3, A4]
      exact hA.of fun k hk k0 k7 => keep k hk (fun e => by rcases ho k e with q | q <;> omega)
  · rcases cut j hj with hj' | rfl
    · rw [A1 j hj']
      refine ⟨(h.h j hj').1, fun g hg => ?_⟩
      rcases GE g hg with q | q
      · exact (h.h j hj').2 g q
      · exact .inr (Nat.le_trans (h.t j hj') q)
    · rw [A3]
      refine ⟨hB0, fun g hg => ?_⟩
      rcases GE g hg with q | q
      · exact ho g q
      · exact .inr (Nat.le_trans hT q)
  · rcases cut k hk with hk' | rfl
    · rw [A1 j (by omega), A1 k hk']
      exact h.d j k hjk hk'
    · rw [A1 j hjk, A3]
      exact hd j hjk
  · rcases cut j hj with hj' | rfl
    · rw [A1 j hj']
      exact Nat.le_trans (h.t j hj') sz
    · rw [A3]
      exact Nat.le_trans hT sz
theorem MRow.cells {w : World} {B : Nat} {v : Value} {ms : List Msg} {es : List El} (h : MRow w B v ms es) (h0 : 0 < ms.length) : ∃ g c, v = .slice (some ⟨g, 0, none⟩) ms.length c ∧ B ≤ g ∧ g < w.heap.size ∧ v.ownBlock = some g ∧ (∀ i, i < ms.length → w.rangeAt g (i * 13) (mgV (es.getD i el0).p (ms.getD i msg0)).toList) ∧ (∀ i, w.frozen? ⟨g, i, none⟩ = false) := by
  rcases h.o.2 with ⟨_, h'⟩ | ⟨g, cap, cur, rfl, hb, hg, hnc, hcm, hcs, ht⟩
  · omega
  · refine ⟨g, cap, rfl, hb, (Array.getElem?_eq_some_iff.1 hg).1, rfl, fun i hi => ?_, fun i => frozen_of_row w g i cur 26 hg⟩
    intro j u hj
    have hj13 : j < 13 := by
      have := (List.getElem?_eq_some_iff.1 hj).1
      rw [mgV_len] at this
      exact this
    rw [cell_of_row w g _ cur _ (0, 0) hg]
    have : (cur.toList.take (ms.length * 13))[i * 13 + j]? = (mgCs ms es)[i * 13 + j]? := by rw [ht]
    rw [List.getElem?_take, if_pos (by omega), mgCs_at ms es i j h.l hi hj13, hj] at this
    simpa using this
theorem MRow.slice {w : World} {B : Nat} {v : Value} {ms : List Msg} {es : List El} (h : MRow w B v ms es) : ∃ a c, v = .slice a ms.length c ∧ (a = none → c = 0) := by
  rcases h.o.2 with ⟨h1, h'⟩ | ⟨g, cap, cur, rfl, hb, hg, hnc, hcm, hcs, ht⟩
  · exact ⟨none, 0, by rw [h1, h'], fun _ => rfl⟩
  · exact ⟨_, cap, rfl, fun e => by cases e⟩
end Go.Proofs.YtdnkgmlidhepbaaGreat
namespace Go.Proofs.YtdnkgmlidhepbaaGreat
open Go Go.RowKit
def cmM (xs : List Int) : Nat → Nat → List Msg
  | 0, _ => []
  | f + 1, i => if dmC xs (i : Int) = 0 then dmR xs (i : Int) :: cmM xs f (dmE xs (i : Int)).toNat else []
def cmA (xs : List Int) : Nat → Nat → Nat
  | 0, i => i
  | f + 1, i => if dmC xs (i : Int) = 0 then cmA xs f (dmE xs (i : Int)).toNat else i
def cmL (xs : List Int) : List Msg := cmM xs (xs.length + 1) 0
def cmE (xs : List Int) : Nat := cmA xs (xs.length + 1) 0
def cmC (xs : List Int) : Int := if dmC xs (cmE xs : Int) = 1 then 0 else dmC xs (cmE xs : Int)
def cmR (xs : List Int) : List Int := if dmC xs (cmE xs : Int) = 1 then xs.drop (cmE xs) else []
theorem dmE_at {xs : List Int} (hb : Byt xs) {i : Nat} (hi : i ≤ xs.length) (h : dmC xs (i : Int) = 0) : ∃ j, dmE xs (i : Int) = ((j : Nat) : Int) ∧ i + 4 ≤ j ∧ j ≤ xs.length := by
  have h' := h
  unfold dmC at h'
  split at h'
  · simp at h'
  split at h'
  · rename_i h1 h2
    exact absurd h' h2
  rename_i ho hp
  have hp : dmP (xs.drop ((i : Int)).toNat) = 0 := Decidable.not_not.1 hp
  have z := dmP_zero hp
  have n0 := beN_rng (byt_drop hb ((i : Int)).toNat) 1 3
  refine ⟨i + 4 + dmN (xs.drop ((i : Int)).toNat), ?_, by omega, ?_⟩
  · unfold dmE
    rw [if_pos h]
    omega
  · have l := z.2.2.2.2
    have e : ((i : Int)).toNat = i := rfl
    rw [e] at l n0 ⊢
    rw [List.length_drop] at l
    unfold dmN
    omega
theorem cm_step {xs : List Int} {f i : Nat} (h : dmC xs (i : Int) = 0) : cmM xs (f + 1) i = dmR xs (i : Int) :: cmM xs f (dmE xs (i : Int)).toNat ∧ cmA xs (f + 1) i = cmA xs f (dmE xs (i : Int)).toNat := by
  constructor
  · show (if dmC xs (i : Int) = 0 then _ else _) = _
    rw [if_pos h]
  · show (if dmC xs (i : Int) = 0 then _ else _) = _
    rw [if_pos h]
theorem cm_stop {xs : List Int} {f i : Nat} (h : dmC xs (i : Int) ≠ 0) : cmM xs (f + 1) i = [] ∧ cmA xs (f + 1) i = i := by
  constructor
  · show (if dmC xs (i : Int) = 0 then _ else _) = _
    rw [if_neg h]
  · show (if dmC xs (i : Int) = 0 then _ else _) = _
    rw [if_neg h]
structure CM (xs : List Int) (i : Nat) (ms : List Msg) : Prop where
  f : ∃ f, xs.length - i < f ∧ ms ++ cmM xs f i = cmL xs ∧ cmA xs f i = cmE xs
  le : i ≤ xs.length
  n : 4 * ms.length ≤ i
theorem CM.start (xs : List Int) : CM xs 0 [] := ⟨⟨xs.length + 1, by omega, rfl, rfl⟩, Nat.zero_le _, by simp⟩
theorem CM.next {xs : List Int} (hb : Byt xs) {i : Nat} {ms : List Msg} (h : CM xs i ms) (hc : dmC xs (i : Int) = 0) : ∃ j, dmE xs (i : Int) = ((j : Nat) : Int) ∧ i + 4 ≤ j ∧ CM xs j (ms ++ [dmR xs (i : Int)]) := by
  obtain ⟨j, ej, h4, hj⟩ := dmE_at hb h.le hc
  obtain ⟨f, hf, e1, e2⟩ := h.f
  obtain ⟨f, rfl⟩ : ∃ f', f = f' + 1 := ⟨f - 1, by omega⟩
  obtain ⟨s1, s2⟩ := cm_step (f := f) hc
  have et : (dmE xs (i : Int)).toNat = j := by rw [ej]; rfl
  rw [et] at s1 s2
  refine ⟨j, ej, h4, ⟨f, by omega, ?_, by rw [← e2, s2]⟩, hj, ?_⟩
  · rw [← e1, s1, List.append_assoc]
    rfl
  · rw [List.length_append]
    have := h.n
    simp
    omega
theorem CM.stop {xs : List Int} {i : Nat} {ms : List Msg} (h : CM xs i ms) (hc : dmC xs (i : Int) ≠ 0) : ms = cmL xs ∧ i = cmE xs := by
  obtain ⟨f, hf, e1, e2⟩ := h.f
  obtain ⟨f, rfl⟩ : ∃ f', f = f' + 1 := ⟨f - 1, by omega⟩
  obtain ⟨s1, s2⟩ := cm_stop (f := f) hc
  rw [s1, List.append_nil] at e1
  rw [s2] at e2
  exact ⟨e1, e2⟩
theorem dmC_rng (xs : List Int) (i : Int) : 0 ≤ dmC xs i ∧ dmC xs i ≤ 3 := by
  unfold dmC
  split
  · omega
  split
  · unfold dmP
    repeat' split
    all_goals omega
  split <;> omega
end Go.Proofs.YtdnkgmlidhepbaaGreat
