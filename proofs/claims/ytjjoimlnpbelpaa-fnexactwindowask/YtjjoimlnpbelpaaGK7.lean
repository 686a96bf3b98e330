import Derived.Test.YtjjoimlnpbelpaaGK1
import Derived.Test.YtjjoimlnpbelpaaGK6
import Derived.Maps.AppendAt

/-
  Rows of marks: a list and a number each, the list in a block of its own (written by gens/wak.py out of CrR and CrU).
-/
namespace Go.Proofs.Ytjjoimlnpbelpaa
open Go Go.RowKit

/-- Where a list lies. -/
structure Plc where
  a : Option Addr
  c : Nat
  q : Nat
set_option maxRecDepth 100000 in
def plc0 : Plc := ⟨none, 0, 0⟩
set_option maxRecDepth 100000 in
/-- An item's two cells. -/
def itC (x : Int × List Int) (q : Plc) : List Value := [.slice q.a x.2.length q.c, .int .i64 x.1]
set_option maxRecDepth 100000 in
def itCs : List (Int × List Int) → List Plc → List Value
  | x :: xs, q :: qs => itC x q ++ itCs xs qs
  | _, _ => []
set_option maxRecDepth 100000 in
theorem itCs_snoc : ∀ (its : List (Int × List Int)) (bs : List Plc) (x : Int × List Int) (q : Plc), bs.length = its.length → itCs (its ++ [x]) (bs ++ [q]) = itCs its bs ++ itC x q
  | [], [], x, q, _ => rfl
  | [], _ :: _, _, _, h => by simp at h
  | _ :: _, [], _, _, h => by simp at h
  | y :: its, p :: bs, x, q, h => by
    show itC y p ++ itCs (its ++ [x]) (bs ++ [q]) = (itC y p ++ itCs its bs) ++ itC x q
    rw [itCs_snoc its bs x q (by simpa using h), List.append_assoc]
set_option maxRecDepth 100000 in
theorem itCs_len : ∀ (its : List (Int × List Int)) (bs : List Plc), bs.length = its.length → (itCs its bs).length = its.length * 2
  | [], [], _ => rfl
  | [], _ :: _, h => by simp at h
  | _ :: _, [], h => by simp at h
  | y :: its, p :: bs, h => by
    show (itC y p ++ itCs its bs).length = _
    rw [List.length_append, itCs_len its bs (by simpa using h)]
    simp [itC]
    omega
set_option maxRecDepth 100000 in
theorem itCs_at0 : ∀ (its : List (Int × List Int)) (bs : List Plc) (i : Nat), bs.length = its.length → i < its.length → (itCs its bs)[2 * i]? = some (.slice (bs.getD i plc0).a (its.getD i (0, [])).2.length (bs.getD i plc0).c)
  | [], _, i, _, hi => by simp at hi
  | _ :: _, [], _, h, _ => by simp at h
  | y :: its, p :: bs, 0, h, hi => rfl
  | y :: its, p :: bs, i + 1, h, hi => by
    show (itC y p ++ itCs its bs)[2 * (i + 1)]? = _
    rw [List.getElem?_append_right (by simp [itC]; omega), show 2 * (i + 1) - (itC y p).length = 2 * i by simp [itC]; omega, itCs_at0 its bs i (by simpa using h) (by simpa using hi)]
    simp
set_option maxRecDepth 100000 in
theorem itCs_at1 : ∀ (its : List (Int × List Int)) (bs : List Plc) (i : Nat), bs.length = its.length → i < its.length → (itCs its bs)[2 * i + 1]? = some (.int .i64 (its.getD i (0, [])).1)
  | [], _, i, _, hi => by simp at hi
  | _ :: _, [], _, h, _ => by simp at h
  | y :: its, p :: bs, 0, h, hi => rfl
  | y :: its, p :: bs, i + 1, h, hi => by
    show (itC y p ++ itCs its bs)[2 * (i + 1) + 1]? = _
    rw [List.getElem?_append_right (by simp [itC]; omega), show 2 * (i + 1) + 1 - (itC y p).length = 2 * i + 1 by simp [itC]; omega, itCs_at1 its bs i (by simpa using h) (by simpa using hi)]
    simp
/-- A list and its place. -/
structure Lie (w : World) (x : List Int) (p : Plc) : Prop where
  o : Own w p.q p.a .u8 x
  n : p.a = none → p.c = 0
  c : x.length ≤ p.c
set_option maxRecDepth 100000 in
theorem Lie.of {w w' : World} {x : List Int} {p : Plc} (h : Lie w x p) (hb : 0 < x.length → w'.heap[p.q]? = w.heap[p.q]?) : Lie w' x p := by
  refine ⟨?_, h.n, h.c⟩
  by_cases h0 : 0 < x.length
  · exact h.o.of_block (hb h0)
  · exact fun h1 => absurd h1 h0
/-- A row of items that the call made: the lists lie in blocks of their own, none of which is the row's. -/
structure IRow (w : World) (B : Nat) (v : Value) (its : List (Int × List Int)) (bs : List Plc) : Prop where
  o : w.ownsRow B 46 2 v its.length (itCs its bs)
  l : bs.length = its.length
  b : ∀ i, i < its.length → Lie w (its.getD i (0, [])).2 (bs.getD i plc0)
  h : ∀ i, i < its.length → 0 < (its.getD i (0, [])).2.length → B ≤ (bs.getD i plc0).q ∧ v.ownBlock ≠ some (bs.getD i plc0).q
  d : ∀ i j, i < its.length → j < its.length → i ≠ j → 0 < (its.getD i (0, [])).2.length → 0 < (its.getD j (0, [])).2.length → (bs.getD i plc0).q ≠ (bs.getD j plc0).q
set_option maxRecDepth 100000 in
theorem iInfo : (Try.prog.info? 46).map (fun i => (i.zero, i.size, i.bytes)) = some (some (.agg #[.slice none 0 0, .int .i64 0]), 2, 32) := by kernel_rfl
set_option maxRecDepth 100000 in
theorem iUnd : Try.prog.underlying 27 = some (.slice 46) := Try.underlying27
set_option maxRecDepth 100000 in
theorem IRow.nil (w : World) (B : Nat) : IRow w B (.slice none 0 0) [] [] :=
  ⟨⟨rfl, .inl ⟨rfl, rfl⟩⟩, rfl, fun i h => absurd h (by simp), fun i h => absurd h (by simp), fun i j h => absurd h (by simp)⟩
set_option maxRecDepth 100000 in
theorem IRow.lt {w : World} {B : Nat} {v : Value} {its : List (Int × List Int)} {bs : List Plc} (h : IRow w B v its bs) {i : Nat} (hi : i < its.length) (h0 : 0 < (its.getD i (0, [])).2.length) : (bs.getD i plc0).q < w.heap.size := (h.b i hi).o.rd.lt h0
set_option maxRecDepth 100000 in
/-- What else does not change, does not change such a row. -/
theorem IRow.of {w w' : World} {B : Nat} {v : Value} {its : List (Int × List Int)} {bs : List Plc} (h : IRow w B v its bs) (hb : ∀ k, k < w.heap.size → B ≤ k → w'.heap[k]? = w.heap[k]?) : IRow w' B v its bs := by
  refine ⟨⟨h.o.1, ?_⟩, h.l, fun i hi => ?_, h.h, h.d⟩
  · rcases h.o.2 with h' | ⟨g, cap, cur, rfl, hbg, hg, hnc, hcm, hcs, ht⟩
    · exact .inl h'
    · exact .inr ⟨g, cap, cur, rfl, hbg, by rw [hb g ((Array.getElem?_eq_some_iff.1 hg).1) hbg]; exact hg, hnc, hcm, hcs, ht⟩
  · exact (h.b i hi).of fun h0 => hb _ (h.lt hi h0) (h.h i hi h0).1
set_option maxRecDepth 100000 in
/-- One item more: its list was made behind M, the row and the others ahead of it. -/
theorem IRow.appQ {w : World} {B : Nat} {v : Value} {its : List (Int × List Int)} {bs : List Plc} (h : IRow w B v its bs) (x : Int × List Int) (q : Plc) (p0 : Nat) (hp0 : RwC w p0 [.slice q.a x.2.length q.c, .int .i64 x.1] 46) (hB : B ≤ w.heap.size) (hq : Lie w x.2 q) (M : Nat) (hBM : B ≤ M) (hM1 : ∀ i, i < its.length → 0 < (its.getD i (0, [])).2.length → (bs.getD i plc0).q < M) (hM2 : ∀ k, v.ownBlock = some k → k < M) (hqM : M ≤ q.q) (hl : its.length ≤ 1048576) :
    ∃ v' w', (Builtin.append_ #[27, 27] 27 #[v, .slice (some ⟨p0, 0, none⟩) 1 1]).run Try.prog w = .ok v' w' ∧ IRow w' B v' (its ++ [x]) (bs ++ [q]) ∧ (∀ k, k < w.heap.size → v.ownBlock ≠ some k → w'.heap[k]? = w.heap[k]?) ∧ Below B w w' ∧ (∀ p, p < w.heap.size → v.ownBlock ≠ some p → v'.ownBlock ≠ some p) := by
  obtain ⟨i, hi, hz, hs, hby⟩ := info_parts iInfo
  have na : Below w.heap.size w w := Below.refl _ _
  have h0 : w.ownsRow B 46 2 v its.length (itCs its bs) := h.o
  have hcell : ∀ j u, (itC x q)[j]? = some u → w.cell? ((⟨p0, 0, none⟩ : Addr).add j) = some u := by
    intro j u hj
    rw [Addr.add_mid, Nat.zero_add, hp0.cell j]
    exact hj
  obtain ⟨v', w', h1, h2, h3, h4, h5⟩ := run_append_own_at (P := Try.prog) w B 27 27 46 i (.agg #[.slice none 0 0, .int .i64 0]) 2 32 iUnd hi hz hs hby rfl (by decide) v its.length (itCs its bs) h0 ⟨p0, 0, none⟩ 1 1 (itC x q) (by simp [itC]) hcell (fun u hu => by
    simp only [itC, List.mem_cons, List.not_mem_nil, or_false] at hu
    rcases hu with rfl | rfl <;> rfl) (by unfold maxLen; omega) (by omega) (Nat.le_trans hB na.size)
  have keep : ∀ k, k < w.heap.size → v.ownBlock ≠ some k → w'.heap[k]? = w.heap[k]? := fun k hk hne => (h3.block k (by omega) (fun e => hne e.symm)).trans (na.block k hk)
  have ob := h.o.lt
  have A1 : ∀ j, j < its.length → (bs ++ [q]).getD j plc0 = bs.getD j plc0 := fun j hj => by
    have : j < bs.length := by rw [h.l]; exact hj
    simp [List.getD, List.getElem?_append_left this]
  have A2 : ∀ j, j < its.length → (its ++ [x]).getD j (0, []) = its.getD j (0, []) := fun j hj => by simp [List.getD, List.getElem?_append_left hj]
  have A3 : (bs ++ [q]).getD its.length plc0 = q := by rw [← h.l]; simp
  have A4 : (its ++ [x]).getD its.length (0, []) = x := by simp
  have hqr : v.ownBlock ≠ some q.q := fun e => by have := hM2 _ e; omega
  have LT : ∀ p, p < w.heap.size → v.ownBlock ≠ some p → v'.ownBlock ≠ some p := fun p hp hn => by
    rcases h5 with h5 | h5
    · rw [h5]; exact hn
    · rw [h5]
      intro e
      have e := Option.some.inj e
      omega
  refine ⟨v', w', h1, ⟨?_, by simp [h.l], fun j hj => ?_, fun j hj h0' => ?_, fun j k hj hk hne hj0 hk0 => ?_⟩, keep, (Below.refl B w).grown h3 (by omega) (fun k hk => (ob k hk).1), LT⟩
  · show w'.ownsRow B 46 2 v' (its ++ [x]).length (itCs (its ++ [x]) (bs ++ [q]))
    rw [itCs_snoc its bs x q h.l, List.length_append]
    exact h2
  · by_cases hj' : j < its.length
    · rw [A1 j hj', A2 j hj']
      exact (h.b j hj').of fun h0' => keep _ (h.lt hj' h0') (h.h j hj' h0').2
    · have ej : j = its.length := by simp at hj; omega
      subst ej
      rw [A3, A4]
      exact hq.of fun h0' => keep _ (hq.o.rd.lt h0') hqr
  · by_cases hj' : j < its.length
    · rw [A2 j hj'] at h0'
      rw [A1 j hj']
      exact ⟨(h.h j hj' h0').1, LT _ (h.lt hj' h0') (h.h j hj' h0').2⟩
    · have ej : j = its.length := by simp at hj; omega
      subst ej
      rw [A4] at h0'
      rw [A3]
      exact ⟨by omega, LT _ (hq.o.rd.lt h0') hqr⟩
  · by_cases hj' : j < its.length
    · rw [A2 j hj'] at hj0
      rw [A1 j hj']
      by_cases hk' : k < its.length
      · rw [A2 k hk'] at hk0
        rw [A1 k hk']
        exact h.d j k hj' hk' hne hj0 hk0
      · have ek : k = its.length := by simp at hk; omega
        subst ek
        rw [A3]
        have := hM1 j hj' hj0
        omega
    · have ej : j = its.length := by simp at hj; omega
      subst ej
      have hk' : k < its.length := by simp at hk; omega
      rw [A2 k hk'] at hk0
      rw [A1 k hk', A3]
      have := hM1 k hk' hk0
      omega

set_option maxRecDepth 100000 in
/-- The row's slice, and its cells. -/
theorem IRow.cells {w : World} {B : Nat} {v : Value} {its : List (Int × List Int)} {bs : List Plc} (h : IRow w B v its bs) (h0 : 0 < its.length) : ∃ g c, v = .slice (some ⟨g, 0, none⟩) its.length c ∧ B ≤ g ∧ g < w.heap.size ∧ v.ownBlock = some g ∧ (∀ i, i < its.length → w.cell? ⟨g, i * 2, none⟩ = some (.slice (bs.getD i plc0).a (its.getD i (0, [])).2.length (bs.getD i plc0).c) ∧ w.cell? ⟨g, i * 2 + 1, none⟩ = some (.int .i64 (its.getD i (0, [])).1)) ∧ (∀ i, w.frozen? ⟨g, i, none⟩ = false) := by
  rcases h.o.2 with ⟨_, h'⟩ | ⟨g, cap, cur, rfl, hb, hg, hnc, hcm, hcs, ht⟩
  · omega
  · refine ⟨g, cap, rfl, hb, (Array.getElem?_eq_some_iff.1 hg).1, rfl, fun i hi => ⟨?_, ?_⟩, fun i => frozen_of_row w g i cur _ hg⟩
    · rw [cell_of_row w g _ cur _ (0, 0) hg]
      have : (cur.toList.take (its.length * 2))[i * 2]? = (itCs its bs)[i * 2]? := by rw [ht]
      rw [List.getElem?_take, if_pos (by omega), show i * 2 = 2 * i from Nat.mul_comm _ _, itCs_at0 its bs i h.l hi] at this
      simpa [Nat.mul_comm] using this
    · rw [cell_of_row w g _ cur _ (0, 0) hg]
      have : (cur.toList.take (its.length * 2))[i * 2 + 1]? = (itCs its bs)[i * 2 + 1]? := by rw [ht]
      rw [List.getElem?_take, if_pos (by omega), show i * 2 = 2 * i from Nat.mul_comm _ _, itCs_at1 its bs i h.l hi] at this
      simpa [Nat.mul_comm] using this
set_option maxRecDepth 100000 in
theorem IRow.slice {w : World} {B : Nat} {v : Value} {its : List (Int × List Int)} {bs : List Plc} (h : IRow w B v its bs) : ∃ a c, v = .slice a its.length c ∧ (a = none → c = 0) := by
  rcases h.o.2 with ⟨h1, h'⟩ | ⟨g, cap, cur, rfl, hb, hg, hnc, hcm, hcs, ht⟩
  · exact ⟨none, 0, by rw [h1, h'], fun _ => rfl⟩
  · exact ⟨_, cap, rfl, fun e => by cases e⟩
set_option maxRecDepth 100000 in
/-- From a base lower down. -/
theorem IRow.base {w : World} {B C : Nat} {v : Value} {its : List (Int × List Int)} {bs : List Plc} (R : IRow w B v its bs) (hC : C ≤ B) : IRow w C v its bs :=
  ⟨⟨R.o.1, by
      rcases R.o.2 with h' | ⟨g, cap, cur, e1, hbg, h3⟩
      · exact .inl h'
      · exact .inr ⟨g, cap, cur, e1, by omega, h3⟩⟩, R.l, R.b, fun i hi h0 => ⟨by have := (R.h i hi h0).1; omega, (R.h i hi h0).2⟩, R.d⟩
end Go.Proofs.Ytjjoimlnpbelpaa
