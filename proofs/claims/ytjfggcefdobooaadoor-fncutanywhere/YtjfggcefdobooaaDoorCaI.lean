
/-
  A list of bytes and a row of records that grow side by side.
-/
import Derived.Test.YtjfggcefdobooaaDoorCrL
namespace Go.Proofs.YtjfggcefdobooaaDoor
set_option maxRecDepth 100000
open Go Go.RowKit

theorem append_anyI {P : Program} (w : World) (ty : TypeId) (i : TypeInfo) (ht : P.underlying 22 = some (.slice 5)) (hi : P.info? 5 = some i) (hz : i.zero = some (.int .u8 0)) (hsize : i.size = 1) (hby : i.bytes = 1)
    (base : Nat) (v : Value) (xs : List Int) (hown : RowB w base v xs) (g o c : Nat) (us : List Int) (hr : Rd w g (some ⟨g, o, none⟩) .u8 us) (hl : xs.length + us.length ≤ 1099511627776) (hbase : base ≤ w.heap.size) :
    ∃ v' w', (Builtin.append_ #[22, 22] ty #[v, .slice (some ⟨g, o, none⟩) us.length c]).run P w = .ok v' w' ∧ RowB w' base v' (xs ++ us) ∧ w.grownBy w' v.ownBlock ∧ (v'.ownBlock = v.ownBlock ∨ v'.ownBlock = some w.heap.size) := by
  have hcell : ∀ j u, (us.map (Value.int .u8))[j]? = some u → w.cell? ((⟨g, o, none⟩ : Addr).add j) = some u := by
    intro j u hj
    have hjl : j < us.length := by
      have := (List.getElem?_eq_some_iff.1 hj).1
      simpa using this
    obtain ⟨off, ha, hcc⟩ := hr (by omega)
    simp only [Option.some.injEq, Addr.mk.injEq, and_true, true_and] at ha
    subst ha
    rw [Addr.add_mid, hcc j hjl]
    simpa [hjl] using hj
  have hone : ∀ u ∈ us.map (Value.int .u8), u.oneCell' = true := by
    intro u hu
    obtain ⟨x, _, rfl⟩ := List.mem_map.1 hu
    rfl
  obtain ⟨v', w', h1, h2, h3, _, h5⟩ := run_append_own_at (P := P) w base 22 ty 5 i (.int .u8 0) 1 1 ht hi hz hsize hby rfl (by decide) v xs.length (xs.map (Value.int .u8)) hown ⟨g, o, none⟩ us.length c (us.map (Value.int .u8)) (by simp) hcell hone (by unfold maxLen; omega) (by omega) hbase
  refine ⟨v', w', h1, ?_, h3, h5⟩
  show w'.ownsRow base 5 1 v' (xs ++ us).length ((xs ++ us).map (Value.int .u8))
  rw [List.length_append, List.map_append]
  exact h2

/-- Where the longer row of items lies. -/
theorem IRow.app_at {w : World} {B : Nat} {v : Value} {its : List (Int × List Int)} {bs : List Plc} (h : IRow w B v its bs) (x : Int × List Int) (q : Plc) (hB : B ≤ w.heap.size) (hl : its.length ≤ 1048576) {v' : Value} {w' : World}
    (he : (Builtin.append_ #[23, 23] 23 #[v, .slice (some ⟨w.heap.size, 0, none⟩) 1 1]).run Tryd.prog (w.alloc (.cells #[.int .i64 x.1, .slice q.a x.2.length q.c] 25)) = .ok v' w') :
    v'.ownBlock = v.ownBlock ∨ v'.ownBlock = some (w.heap.size + 1) := by
  obtain ⟨i, hi, hz, hs, hby⟩ := info_parts iInfo
  have na : Below w.heap.size w (w.alloc (.cells #[.int .i64 x.1, .slice q.a x.2.length q.c] 25)) := (Below.refl _ _).alloc (Nat.le_refl _) _
  have h0 : (w.alloc (.cells #[.int .i64 x.1, .slice q.a x.2.length q.c] 25)).ownsRow B 25 2 v its.length (itCs its bs) := h.o.alloc _
  have hcell : ∀ j u, (itC x q)[j]? = some u → (w.alloc (.cells #[.int .i64 x.1, .slice q.a x.2.length q.c] 25)).cell? ((⟨w.heap.size, 0, none⟩ : Addr).add j) = some u := by
    intro j u hj
    have e : (w.alloc (.cells #[.int .i64 x.1, .slice q.a x.2.length q.c] 25)).heap[w.heap.size]? = some (.cells #[.int .i64 x.1, .slice q.a x.2.length q.c] 25) := heap_alloc_new w _
    rw [Addr.add_mid, Nat.zero_add, cell_of_row _ _ j _ _ (0, 0) e]
    simpa [itC] using hj
  obtain ⟨v2, w2, h1, -, -, -, h5⟩ := run_append_own_at (P := Tryd.prog) (w.alloc (.cells #[.int .i64 x.1, .slice q.a x.2.length q.c] 25)) B 23 23 25 i (.agg #[.int .i64 0, .slice none 0 0]) 2 32 iUnd hi hz hs hby rfl (by decide) v its.length (itCs its bs) h0 ⟨w.heap.size, 0, none⟩ 1 1 (itC x q) (by simp [itC]) hcell (fun u hu => by
    simp only [itC, List.mem_cons, List.not_mem_nil, or_false] at hu
    rcases hu with rfl | rfl <;> rfl) (by unfold maxLen; omega) (by omega) (Nat.le_trans hB na.size)
  have e := h1.symm.trans he
  injection e with e1 e2
  subst e1
  have z : (w.alloc (.cells #[.int .i64 x.1, .slice q.a x.2.length q.c] 25)).heap.size = w.heap.size + 1 := by simp
  rw [z] at h5
  exact h5
theorem IRow.lit0 (w : World) (B : Nat) (hB : B ≤ w.heap.size) : IRow (w.alloc (.cells #[] 25)) B (.slice (some ⟨w.heap.size, 0, none⟩) 0 0) [] [] :=
  ⟨World.ownsRow_lit w #[] 0 hB (by unfold maxLen; omega) (by simp), rfl, fun i h => absurd h (by simp), fun i h => absurd h (by simp), fun i j h => absurd h (by simp)⟩

structure Two (w : World) (B : Nat) (va : Value) (all : List Int) (vw : Value) (its : List (Int × List Int)) (bs : List Plc) : Prop where
  r : RowB w B va all
  i : IRow w B vw its bs
  s : ∀ k, va.ownBlock = some k → vw.ownBlock ≠ some k ∧ ∀ j, j < its.length → 0 < (its.getD j (0, [])).2.length → (bs.getD j plc0).q ≠ k
theorem Two.up {w w' : World} {B : Nat} {va vw : Value} {all : List Int} {its : List (Int × List Int)} {bs : List Plc} (h : Two w B va all vw its bs) (n : Below w.heap.size w w') : Two w' B va all vw its bs :=
  ⟨h.r.up n, h.i.of (fun k hk _ => n.block k hk), h.s⟩
theorem Two.all {w : World} {B : Nat} {va vw : Value} {all : List Int} {its : List (Int × List Int)} {bs : List Plc} (h : Two w B va all vw its bs) (ty : TypeId) (g o c : Nat) (us : List Int) (hr : Rd w g (some ⟨g, o, none⟩) .u8 us) (hl : all.length + us.length ≤ 1099511627776) (hB : B ≤ w.heap.size) :
    ∃ va' w', (Builtin.append_ #[22, 22] ty #[va, .slice (some ⟨g, o, none⟩) us.length c]).run Tryd.prog w = .ok va' w' ∧ Two w' B va' (all ++ us) vw its bs ∧ Below B w w' ∧ (∀ k, k < w.heap.size → va.ownBlock ≠ some k → w'.heap[k]? = w.heap[k]?) ∧ (va'.ownBlock = va.ownBlock ∨ va'.ownBlock = some w.heap.size) := by
  obtain ⟨i0, hi, hz0, hz1, hz2⟩ := info_parts Tryd.info5
  obtain ⟨va', w', h1, h2, h3, h4⟩ := append_anyI (P := Tryd.prog) w ty i0 Tryd.underlying22 hi hz0 hz1 hz2 B va all h.r g o c us hr hl hB
  have keep : ∀ k, k < w.heap.size → va.ownBlock ≠ some k → w'.heap[k]? = w.heap[k]? := fun k hk hne => h3.block k hk (fun e => hne e.symm)
  have hI : IRow w' B vw its bs := by
    refine ⟨⟨h.i.o.1, ?_⟩, h.i.l, fun i hi => ?_, h.i.h, h.i.d⟩
    · rcases h.i.o.2 with h' | ⟨g, cap, cur, rfl, hbg, hg, hnc, hcm, hcs, ht⟩
      · exact .inl h'
      · exact .inr ⟨g, cap, cur, rfl, hbg, by rw [keep g ((Array.getElem?_eq_some_iff.1 hg).1) (fun e => (h.s g e).1 rfl)]; exact hg, hnc, hcm, hcs, ht⟩
    · exact (h.i.b i hi).of fun h0 => keep _ (h.i.lt hi h0) (fun e => (h.s _ e).2 i hi h0 rfl)
  refine ⟨va', w', h1, ⟨h2, hI, fun k hk => ?_⟩, (Below.refl B w).grown h3 hB (fun k hk => (World.ownsRow.lt h.r k hk).1), keep, h4⟩
  rcases h4 with h4 | h4
  · exact h.s k (by rw [← h4]; exact hk)
  · have ek : k = w.heap.size := by rw [h4] at hk; exact (Option.some.inj hk).symm
    subst ek
    refine ⟨fun e => ?_, fun j hj h0 e => ?_⟩
    · have := (World.ownsRow.lt h.i.o _ e).2
      omega
    · have := h.i.lt hj h0
      omega
theorem Two.item {w : World} {B : Nat} {va vw : Value} {all : List Int} {its : List (Int × List Int)} {bs : List Plc} (h : Two w B va all vw its bs) (x : Int × List Int) (q : Plc) (hB : B ≤ w.heap.size) (hq : Lie w x.2 q) (M : Nat) (hBM : B ≤ M) (hM1 : ∀ i, i < its.length → 0 < (its.getD i (0, [])).2.length → (bs.getD i plc0).q < M) (hM2 : ∀ k, vw.ownBlock = some k → k < M) (hqM : M ≤ q.q) (hqa : va.ownBlock ≠ some q.q) (hl : its.length ≤ 1000) :
    ∃ vw' w', (Builtin.append_ #[23, 23] 23 #[vw, .slice (some ⟨w.heap.size, 0, none⟩) 1 1]).run Tryd.prog (w.alloc (.cells #[.int .i64 x.1, .slice q.a x.2.length q.c] 25)) = .ok vw' w' ∧ Two w' B va all vw' (its ++ [x]) (bs ++ [q]) ∧ Below B w w' ∧ (∀ k, k < w.heap.size → vw.ownBlock ≠ some k → w'.heap[k]? = w.heap[k]?) := by
  obtain ⟨vw', w', h1, h2, h3, h4, -⟩ := h.i.app x q hB hq M hBM hM1 hM2 hqM (by omega)
  have h5 := h.i.app_at x q hB (by omega) h1
  have hR : RowB w' B va all := by
    refine ⟨h.r.1, ?_⟩
    rcases h.r.2 with h' | ⟨g, cap, cur, rfl, hbg, hg, hr⟩
    · exact .inl h'
    · exact .inr ⟨g, cap, cur, rfl, hbg, by rw [h3 g ((Array.getElem?_eq_some_iff.1 hg).1) (h.s g rfl).1]; exact hg, hr⟩
  refine ⟨vw', w', h1, ⟨hR, h2, fun k hk => ?_⟩, h4, h3⟩
  have hk' := (World.ownsRow.lt h.r k hk).2
  refine ⟨fun e => ?_, fun j hj h0 e => ?_⟩
  · rcases h5 with h5 | h5
    · rw [h5] at e
      exact (h.s k hk).1 e
    · rw [h5] at e
      have := Option.some.inj e
      omega
  · by_cases hj' : j < its.length
    · have hb : j < bs.length := by rw [h.i.l]; exact hj'
      have A1 : (bs ++ [q]).getD j plc0 = bs.getD j plc0 := by simp [List.getD, List.getElem?_append_left hb]
      have A2 : (its ++ [x]).getD j (0, []) = its.getD j (0, []) := by simp [List.getD, List.getElem?_append_left hj']
      rw [A2] at h0
      rw [A1] at e
      exact (h.s k hk).2 j hj' h0 e
    · have ej : j = its.length := by simp at hj; omega
      subst ej
      have A3 : (bs ++ [q]).getD its.length plc0 = q := by rw [← h.i.l]; simp
      rw [A3] at e
      exact hqa (by rw [e]; exact hk)
end Go.Proofs.YtjfggcefdobooaaDoor
