
/-
  Rows of lists in structs of one field (Blob): each list in a block of its own.
-/
import Derived.Test.YtickbedbdpccpaaApd
import Derived.Test.YtickbedbdpccpaaHelp
import Derived.Test.YtickbedbdpccpaaStC
import Derived.Test.YtickbedbdpccpaaTcH
import Derived.Maps.AppendAt
namespace Go.Proofs.Ytickbedbdpccpaa
open Go Go.RowKit

/-- Where a list lies. -/
structure Plc where
  a : Option Addr
  c : Nat
  q : Nat
def plc0 : Plc := ⟨none, 0, 0⟩
def blC (x : List Int) (q : Plc) : Value := .slice q.a x.length q.c
def blCs : List (List Int) → List Plc → List Value
  | x :: xs, q :: qs => blC x q :: blCs xs qs
  | _, _ => []
theorem blCs_snoc : ∀ (its : List (List Int)) (bs : List Plc) (x : List Int) (q : Plc), bs.length = its.length → blCs (its ++ [x]) (bs ++ [q]) = blCs its bs ++ [blC x q]
  | [], [], x, q, _ => rfl
  | [], _ :: _, _, _, h => by simp at h
  | _ :: _, [], _, _, h => by simp at h
  | y :: its, p :: bs, x, q, h => by
    show blC y p :: blCs (its ++ [x]) (bs ++ [q]) = (blC y p :: blCs its bs) ++ [blC x q]
    rw [blCs_snoc its bs x q (by simpa using h)]
    rfl
theorem blCs_at : ∀ (its : List (List Int)) (bs : List Plc) (i : Nat), bs.length = its.length → i < its.length → (blCs its bs)[i]? = some (.slice (bs.getD i plc0).a (its.getD i []).length (bs.getD i plc0).c)
  | [], _, i, _, hi => by simp at hi
  | _ :: _, [], _, h, _ => by simp at h
  | y :: its, p :: bs, 0, h, hi => rfl
  | y :: its, p :: bs, i + 1, h, hi => by
    show (blCs its bs)[i]? = _
    rw [blCs_at its bs i (by simpa using h) (by simpa using hi)]
    simp
/-- A list and its place. -/
structure Lie (w : World) (x : List Int) (p : Plc) : Prop where
  o : Own w p.q p.a .u8 x
  n : p.a = none → p.c = 0
  c : x.length ≤ p.c
theorem Lie.of {w w' : World} {x : List Int} {p : Plc} (h : Lie w x p) (hb : 0 < x.length → w'.heap[p.q]? = w.heap[p.q]?) : Lie w' x p := by
  refine ⟨?_, h.n, h.c⟩
  by_cases h0 : 0 < x.length
  · exact h.o.of_block (hb h0)
  · exact fun h1 => absurd h1 h0
/-- A row of items that the call made: the lists lie in blocks of their own, none of which is the row's. -/
structure BRow (w : World) (B : Nat) (v : Value) (its : List (List Int)) (bs : List Plc) : Prop where
  o : w.ownsRow B 38 1 v its.length (blCs its bs)
  l : bs.length = its.length
  b : ∀ i, i < its.length → Lie w (its.getD i []) (bs.getD i plc0)
  h : ∀ i, i < its.length → 0 < (its.getD i []).length → B ≤ (bs.getD i plc0).q ∧ v.ownBlock ≠ some (bs.getD i plc0).q
  d : ∀ i j, i < its.length → j < its.length → i ≠ j → 0 < (its.getD i []).length → 0 < (its.getD j []).length → (bs.getD i plc0).q ≠ (bs.getD j plc0).q
theorem bInfo : (Try.prog.info? 38).map (fun i => (i.zero, i.size, i.bytes)) = some (some (.agg #[.slice none 0 0]), 1, 24) := by kernel_rfl
theorem bUnd : Try.prog.underlying 28 = some (.slice 38) := Try.underlying28
theorem BRow.nil (w : World) (B : Nat) : BRow w B (.slice none 0 0) [] [] :=
  ⟨⟨rfl, .inl ⟨rfl, rfl⟩⟩, rfl, fun i h => absurd h (by simp), fun i h => absurd h (by simp), fun i j h => absurd h (by simp)⟩
theorem BRow.lt {w : World} {B : Nat} {v : Value} {its : List (List Int)} {bs : List Plc} (h : BRow w B v its bs) {i : Nat} (hi : i < its.length) (h0 : 0 < (its.getD i []).length) : (bs.getD i plc0).q < w.heap.size := (h.b i hi).o.rd.lt h0
/-- What else does not change, does not change such a row. -/
theorem BRow.of {w w' : World} {B : Nat} {v : Value} {its : List (List Int)} {bs : List Plc} (h : BRow w B v its bs) (hb : ∀ k, k < w.heap.size → B ≤ k → w'.heap[k]? = w.heap[k]?) : BRow w' B v its bs := by
  refine ⟨⟨h.o.1, ?_⟩, h.l, fun i hi => ?_, h.h, h.d⟩
  · rcases h.o.2 with h' | ⟨g, cap, cur, rfl, hbg, hg, hnc, hcm, hcs, ht⟩
    · exact .inl h'
    · exact .inr ⟨g, cap, cur, rfl, hbg, by rw [hb g ((Array.getElem?_eq_some_iff.1 hg).1) hbg]; exact hg, hnc, hcm, hcs, ht⟩
  · exact (h.b i hi).of fun h0 => hb _ (h.lt hi h0) (h.h i hi h0).1
/-- One item more: its list was made behind M, the row and the others ahead of it. -/
theorem BRow.app {w : World} {B : Nat} {v : Value} {its : List (List Int)} {bs : List Plc} (h : BRow w B v its bs) (x : List Int) (q : Plc) (hB : B ≤ w.heap.size) (hq : Lie w x q) (M : Nat) (hBM : B ≤ M) (hM1 : ∀ i, i < its.length → 0 < (its.getD i []).length → (bs.getD i plc0).q < M) (hM2 : ∀ k, v.ownBlock = some k → k < M) (hqM : M ≤ q.q) (hl : its.length ≤ 1048576) :
    ∃ v' w', (Builtin.append_ #[28, 28] 28 #[v, .slice (some ⟨w.heap.size, 0, none⟩) 1 1]).run Try.prog (w.alloc (.cells #[.slice q.a x.length q.c] 38)) = .ok v' w' ∧ BRow w' B v' (its ++ [x]) (bs ++ [q]) ∧ (∀ k, k < w.heap.size → v.ownBlock ≠ some k → w'.heap[k]? = w.heap[k]?) ∧ Below B w w' ∧ (∀ p, p < w.heap.size → v.ownBlock ≠ some p → v'.ownBlock ≠ some p) := by
  obtain ⟨i, hi, hz, hs, hby⟩ := info_parts bInfo
  have na : Below w.heap.size w (w.alloc (.cells #[.slice q.a x.length q.c] 38)) := (Below.refl _ _).alloc (Nat.le_refl _) _
  have h0 : (w.alloc (.cells #[.slice q.a x.length q.c] 38)).ownsRow B 38 1 v its.length (blCs its bs) := h.o.alloc _
  have hcell : ∀ j u, ([blC x q])[j]? = some u → (w.alloc (.cells #[.slice q.a x.length q.c] 38)).cell? ((⟨w.heap.size, 0, none⟩ : Addr).add j) = some u := by
    intro j u hj
    have e : (w.alloc (.cells #[.slice q.a x.length q.c] 38)).heap[w.heap.size]? = some (.cells #[.slice q.a x.length q.c] 38) := heap_alloc_new w _
    rw [Addr.add_mid, Nat.zero_add, cell_of_row _ _ j _ _ (0, 0) e]
    simpa [blC] using hj
  obtain ⟨v', w', h1, h2, h3, h4, h5⟩ := run_append_own_at (P := Try.prog) (w.alloc (.cells #[.slice q.a x.length q.c] 38)) B 28 28 38 i (.agg #[.slice none 0 0]) 1 24 bUnd hi hz hs hby rfl (by decide) v its.length (blCs its bs) h0 ⟨w.heap.size, 0, none⟩ 1 1 ([blC x q]) (by simp [blC]) hcell (fun u hu => by
    simp only [blC, List.mem_cons, List.not_mem_nil, or_false] at hu
    subst hu; rfl) (by unfold maxLen; omega) (by omega) (Nat.le_trans hB na.size)
  have z : (w.alloc (.cells #[.slice q.a x.length q.c] 38)).heap.size = w.heap.size + 1 := by simp
  have keep : ∀ k, k < w.heap.size → v.ownBlock ≠ some k → w'.heap[k]? = w.heap[k]? := fun k hk hne => (h3.block k (by omega) (fun e => hne e.symm)).trans (na.block k hk)
  have ob := h.o.lt
  have A1 : ∀ j, j < its.length → (bs ++ [q]).getD j plc0 = bs.getD j plc0 := fun j hj => by
    have : j < bs.length := by rw [h.l]; exact hj
    simp [List.getD, List.getElem?_append_left this]
  have A2 : ∀ j, j < its.length → (its ++ [x]).getD j [] = its.getD j [] := fun j hj => by simp [List.getD, List.getElem?_append_left hj]
  have A3 : (bs ++ [q]).getD its.length plc0 = q := by rw [← h.l]; simp
  have A4 : (its ++ [x]).getD its.length [] = x := by simp
  have hqr : v.ownBlock ≠ some q.q := fun e => by have := hM2 _ e; omega
  have LT : ∀ p, p < w.heap.size → v.ownBlock ≠ some p → v'.ownBlock ≠ some p := fun p hp hn => by
    rcases h5 with h5 | h5
    · rw [h5]; exact hn
    · rw [h5]
      intro e
      have e := Option.some.inj e
      omega
  refine ⟨v', w', h1, ⟨?_, by simp [h.l], fun j hj => ?_, fun j hj h0' => ?_, fun j k hj hk hne hj0 hk0 => ?_⟩, keep, ((Below.refl B w).alloc hB _).grown h3 (by omega) (fun k hk => (ob k hk).1), LT⟩
  · show w'.ownsRow B 38 1 v' (its ++ [x]).length (blCs (its ++ [x]) (bs ++ [q]))
    rw [blCs_snoc its bs x q h.l, List.length_append]
    exact h2
  · by_cases hj' : j < its.length
    · rw [A1 j hj', A2 j hj']
      exact (h.b j hj').of fun h0' => keep _ (h.lt hj' h0') (h.h j hj' h0').2
    · have ej : j = its.length := by simp at hj; omega
      subst ej
      rw [A3, A4]
      exact hq.of fun h0' => keep _ (hq.o.rd.lt h0') hqr
  · by_cases hj' : j < its.length
    · rw [A2 j hj'] at h0'
      rw [A1 j hj']
      exact ⟨(h.h j hj' h0').1, LT _ (h.lt hj' h0') (h.h j hj' h0').2⟩
    · have ej : j = its.length := by simp at hj; omega
      subst ej
      rw [A4] at h0'
      rw [A3]
      exact ⟨by omega, LT _ (hq.o.rd.lt h0') hqr⟩
  · by_cases hj' : j < its.length
    · rw [A2 j hj'] at hj0
      rw [A1 j hj']
      by_cases hk' : k < its.length
      · rw [A2 k hk'] at hk0
        rw [A1 k hk']
        exact h.d j k hj' hk' hne hj0 hk0
      · have ek : k = its.length := by simp at hk; omega
        subst ek
        rw [A3]
        have := hM1 j hj' hj0
        omega
    · have ej : j = its.length := by simp at hj; omega
      subst ej
      have hk' : k < its.length := by simp at hk; omega
      rw [A2 k hk'] at hk0
      rw [A1 k hk', A3]
      have := hM1 k hk' hk0
      omega
/-- The row's slice, and its cells. -/
theorem BRow.cells {w : World} {B : Nat} {v : Value} {its : List (List Int)} {bs : List Plc} (h : BRow w B v its bs) (h0 : 0 < its.length) : ∃ g c, v = .slice (some ⟨g, 0, none⟩) its.length c ∧ B ≤ g ∧ g < w.heap.size ∧ v.ownBlock = some g ∧ (∀ i, i < its.length → w.cell? ⟨g, i, none⟩ = some (.slice (bs.getD i plc0).a (its.getD i []).length (bs.getD i plc0).c)) := by
  rcases h.o.2 with ⟨_, h'⟩ | ⟨g, cap, cur, rfl, hb, hg, hnc, hcm, hcs, ht⟩
  · omega
  · refine ⟨g, cap, rfl, hb, (Array.getElem?_eq_some_iff.1 hg).1, rfl, fun i hi => ?_⟩
    rw [cell_of_row w g _ cur _ (0, 0) hg]
    have : (cur.toList.take (its.length * 1))[i]? = (blCs its bs)[i]? := by rw [ht]
    rw [List.getElem?_take, if_pos (by omega), blCs_at its bs i h.l hi] at this
    simpa using this
theorem BRow.slice {w : World} {B : Nat} {v : Value} {its : List (List Int)} {bs : List Plc} (h : BRow w B v its bs) : ∃ a c, v = .slice a its.length c ∧ (a = none → c = 0) := by
  rcases h.o.2 with ⟨h1, h'⟩ | ⟨g, cap, cur, rfl, hb, hg, hnc, hcm, hcs, ht⟩
  · exact ⟨none, 0, by rw [h1, h'], fun _ => rfl⟩
  · exact ⟨_, cap, rfl, fun e => by cases e⟩
/-- No list of the row, nor the row itself, lies in this block. -/
structure NoB (p : Nat) (v : Value) (its : List (List Int)) (bs : List Plc) : Prop where
  o : v.ownBlock ≠ some p
  b : ∀ i, i < its.length → 0 < (its.getD i []).length → (bs.getD i plc0).q ≠ p
theorem NoB.nil (p : Nat) : NoB p (.slice none 0 0) [] [] := ⟨(fun e => nomatch e), fun i h => absurd h (by simp)⟩
theorem BRow.ofN {w w' : World} {B p : Nat} {v : Value} {its : List (List Int)} {bs : List Plc} (h : BRow w B v its bs) (np : NoB p v its bs) (hb : ∀ k, k < w.heap.size → B ≤ k → k ≠ p → w'.heap[k]? = w.heap[k]?) : BRow w' B v its bs := by
  refine ⟨⟨h.o.1, ?_⟩, h.l, fun i hi => ?_, h.h, h.d⟩
  · rcases h.o.2 with h' | ⟨g, cap, cur, rfl, hbg, hg, hnc, hcm, hcs, ht⟩
    · exact .inl h'
    · exact .inr ⟨g, cap, cur, rfl, hbg, by rw [hb g ((Array.getElem?_eq_some_iff.1 hg).1) hbg (fun e => np.o (by rw [e]; rfl))]; exact hg, hnc, hcm, hcs, ht⟩
  · exact (h.b i hi).of fun h0 => hb _ (h.lt hi h0) (h.h i hi h0).1 (np.b i hi h0)
theorem NoB.app {p : Nat} {v v' : Value} {its : List (List Int)} {bs : List Plc} (h : NoB p v its bs) (l : bs.length = its.length) (ho : v'.ownBlock ≠ some p) (x : List Int) (q : Plc) (hq : q.q ≠ p) : NoB p v' (its ++ [x]) (bs ++ [q]) := by
  refine ⟨ho, fun j hj h0 => ?_⟩
  by_cases hj' : j < its.length
  · have A1 : (bs ++ [q]).getD j plc0 = bs.getD j plc0 := by
      have : j < bs.length := by rw [l]; exact hj'
      simp [List.getD, List.getElem?_append_left this]
    have A2 : (its ++ [x]).getD j [] = its.getD j [] := by simp [List.getD, List.getElem?_append_left hj']
    rw [A2] at h0
    rw [A1]
    exact h.b j hj' h0
  · have ej : j = its.length := by simp at hj; omega
    subst ej
    rw [← l]
    simpa using hq
/-- From a base lower down. -/
theorem BRow.base {w : World} {B C : Nat} {v : Value} {its : List (List Int)} {bs : List Plc} (R : BRow w B v its bs) (hC : C ≤ B) : BRow w C v its bs :=
  ⟨⟨R.o.1, by
      rcases R.o.2 with h' | ⟨g, cap, cur, e1, hbg, h3⟩
      · exact .inl h'
      · exact .inr ⟨g, cap, cur, e1, by omega, h3⟩⟩, R.l, R.b, fun i hi h0 => ⟨by have := (R.h i hi h0).1; omega, (R.h i hi h0).2⟩, R.d⟩
end Go.Proofs.Ytickbedbdpccpaa
