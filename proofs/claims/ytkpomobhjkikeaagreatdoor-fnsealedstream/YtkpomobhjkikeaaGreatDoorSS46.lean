import Derived.Test.YtkpomobhjkikeaaGreatDoorSS42
import Derived.Test.YtkpomobhjkikeaaGreatDoorSS2
import Derived.Maps.AppendAt
import Derived.Test.YtkpomobhjkikeaaGreatDoorSS45
import Derived.Test.YtkpomobhjkikeaaGreatDoorSS43
import Derived.Test.YtkpomobhjkikeaaGreatDoorRows
import Derived.Deep.RegionHeld3
import Derived.Test.YtkpomobhjkikeaaGreatDoorSS3
import Derived.Test.YtkpomobhjkikeaaGreatDoorSS1
import Derived.WalkSpells
import Derived.Deep.QuietTactic
import Derived.BigQuiet
import Derived.WalkMore
import Derived.Laws.AppendOwnNone
import Derived.Lib.AppendZeros
import Derived.Lib.Bytealg
namespace Go.Proofs.YtkpomobhjkikeaaGreatDoor
set_option maxRecDepth 100000
open Go Go.RowKit
structure Plc where
  a : Option Addr
  c : Nat
  q : Nat
def plc0 : Plc := ⟨none, 0, 0⟩
def itC (x : Int × List Int) (q : Plc) : List Value := [.int .i64 x.1, .slice q.a x.2.length q.c]
def itCs : List (Int × List Int) → List Plc → List Value
  | x :: xs, q :: qs => itC x q ++ itCs xs qs
  | _, _ => []
theorem itCs_snoc : ∀ (its : List (Int × List Int)) (bs : List Plc) (x : Int × List Int) (q : Plc), bs.length = its.length → itCs (its ++ [x]) (bs ++ [q]) = itCs its bs ++ itC x q
  | [], [], x, q, _ => rfl
  | [], _ :: _, _, _, h => by simp at h
  | _ :: _, [], _, _, h => by simp at h
  | y :: its, p :: bs, x, q, h => by
    show itC y p ++ itCs (its ++ [x]) (bs ++ [q]) = (itC y p ++ itCs its bs) ++ itC x q
    rw [itCs_snoc its bs x q (by simpa using h), List.append_assoc]
theorem itCs_at0 : ∀ (its : List (Int × List Int)) (bs : List Plc) (i : Nat), bs.length = its.length → i < its.length → (itCs its bs)[2 * i]? = some (.int .i64 (its.getD i (0, [])).1)
  | [], _, i, _, hi => by simp at hi
  | _ :: _, [], _, h, _ => by simp at h
  | y :: its, p :: bs, 0, h, hi => rfl
  | y :: its, p :: bs, i + 1, h, hi => by
    show (itC y p ++ itCs its bs)[2 * (i + 1)]? = _
    rw [List.getElem?_append_right (by simp [itC]; omega), show 2 * (i + 1) - (itC y p).length = 2 * i by simp [itC]; omega, itCs_at0 its bs i (by simpa using h) (by simpa using hi)]
    simp
theorem itCs_at1 : ∀ (its : List (Int × List Int)) (bs : List Plc) (i : Nat), bs.length = its.length → i < its.length → (itCs its bs)[2 * i + 1]? = some (.slice (bs.getD i plc0).a (its.getD i (0, [])).2.length (bs.getD i plc0).c)
  | [], _, i, _, hi => by simp at hi
  | _ :: _, [], _, h, _ => by simp at h
  | y :: its, p :: bs, 0, h, hi => rfl
  | y :: its, p :: bs, i + 1, h, hi => by
    show (itC y p ++ itCs its bs)[2 * (i + 1) + 1]? = _
    rw [List.getElem?_append_right (by simp [itC]; omega), show 2 * (i + 1) + 1 - (itC y p).length = 2 * i + 1 by simp [itC]; omega, itCs_at1 its bs i (by simpa using h) (by simpa using hi)]
    simp
structure Lie (w : World) (x : List Int) (p : Plc) : Prop where
  o : Own w p.q p.a .u8 x
  n : p.a = none → p.c = 0
  c : x.length ≤ p.c
theorem Lie.of {w w' : World} {x : List Int} {p : Plc} (h : Lie w x p) (hb : 0 < x.length → w'.heap[p.q]? = w.heap[p.q]?) : Lie w' x p := by
  refine ⟨?_, h.n, h.c⟩
  by_cases h0 : 0 < x.length
  · exact h.o.of_block (hb h0)
  · exact fun h1 => absurd h1 h0
structure IRow (w : World) (B : Nat) (v : Value) (its : List (Int × List Int)) (bs : List Plc) : Prop where
  o : w.ownsRow B 42 2 v its.length (itCs its bs)
  l : bs.length = its.length
  b : ∀ i, i < its.length → Lie w (its.getD i (0, [])).2 (bs.getD i plc0)
  h : ∀ i, i < its.length → 0 < (its.getD i (0, [])).2.length → B ≤ (bs.getD i plc0).q ∧ v.ownBlock ≠ some (bs.getD i plc0).q
  d : ∀ i j, i < its.length → j < its.length → i ≠ j → 0 < (its.getD i (0, [])).2.length → 0 < (its.getD j (0, [])).2.length → (bs.getD i plc0).q ≠ (bs.getD j plc0).q
theorem iInfo : (Tryz.prog.info? 42).map (fun i => (i.zero, i.size, i.bytes)) = some (some (.agg #[.int .i64 0, .slice none 0 0]), 2, 32) := by kernel_rfl
theorem iUnd : Tryz.prog.underlying 34 = some (.slice 42) := Tryz.underlying34
theorem IRow.nil (w : World) (B : Nat) : IRow w B (.slice none 0 0) [] [] :=
  ⟨⟨rfl, .inl ⟨rfl, rfl⟩⟩, rfl, fun i h => absurd h (by simp), fun i h => absurd h (by simp), fun i j h => absurd h (by simp)⟩
theorem IRow.lt {w : World} {B : Nat} {v : Value} {its : List (Int × List Int)} {bs : List Plc} (h : IRow w B v its bs) {i : Nat} (hi : i < its.length) (h0 : 0 < (its.getD i (0, [])).2.length) : (bs.getD i plc0).q < w.heap.size := (h.b i hi).o.rd.lt h0
theorem IRow.of {w w' : World} {B : Nat} {v : Value} {its : List (Int × List Int)} {bs : List Plc} (h : IRow w B v its bs) (hb : ∀ k, k < w.heap.size → B ≤ k → w'.heap[k]? = w.heap[k]?) : IRow w' B v its bs := by
  refine ⟨⟨h.o.1, ?_⟩, h.l, fun i hi => ?_, h.h, h.d⟩
  · rcases h.o.2 with h' | ⟨g, cap, cur, rfl, hbg, hg, hnc, hcm, hcs, ht⟩
    · exact .inl h'
    · exact .inr ⟨g, cap, cur, rfl, hbg, by rw [hb g ((Array.getElem?_eq_some_iff.1 hg).1) hbg]; exact hg, hnc, hcm, hcs, ht⟩
  · exact (h.b i hi).of fun h0 => hb _ (h.lt hi h0) (h.h i hi h0).1
theorem IRow.app {w : World} {B : Nat} {v : Value} {its : List (Int × List Int)} {bs : List Plc} (h : IRow w B v its bs) (x : Int × List Int) (q : Plc) (hB : B ≤ w.heap.size) (hq : Lie w x.2 q) (M : Nat) (hBM : B ≤ M) (hM1 : ∀ i, i < its.length → 0 < (its.getD i (0, [])).2.length → (bs.getD i plc0).q < M) (hM2 : ∀ k, v.ownBlock = some k → k < M) (hqM : M ≤ q.q) (hl : its.length ≤ 1048576) :
    ∃ v' w', (Builtin.append_ #[34, 34] 34 #[v, .slice (some ⟨w.heap.size, 0, none⟩) 1 1]).run Tryz.prog (w.alloc (.cells #[.int .i64 x.1, .slice q.a x.2.length q.c] 42)) = .ok v' w' ∧ IRow w' B v' (its ++ [x]) (bs ++ [q]) ∧ (∀ k, k < w.heap.size → v.ownBlock ≠ some k → w'.heap[k]? = w.heap[k]?) ∧ Below B w w' ∧ (∀ p, p < w.heap.size → v.ownBlock ≠ some p → v'.ownBlock ≠ some p) := by
  obtain ⟨i, hi, hz, hs, hby⟩ := info_parts iInfo
  have na : Below w.heap.size w (w.alloc (.cells #[.int .i64 x.1, .slice q.a x.2.length q.c] 42)) := (Below.refl _ _).alloc (Nat.le_refl _) _
  have h0 : (w.alloc (.cells #[.int .i64 x.1, .slice q.a x.2.length q.c] 42)).ownsRow B 42 2 v its.length (itCs its bs) := h.o.alloc _
  have hcell : ∀ j u, (itC x q)[j]? = some u → (w.alloc (.cells #[.int .i64 x.1, .slice q.a x.2.length q.c] 42)).cell? ((⟨w.heap.size, 0, none⟩ : Addr).add j) = some u := by
    intro j u hj
    have e : (w.alloc (.cells #[.int .i64 x.1, .slice q.a x.2.length q.c] 42)).heap[w.heap.size]? = some (.cells #[.int .i64 x.1, .slice q.a x.2.length q.c] 42) := heap_alloc_new w _
    rw [Addr.add_mid, Nat.zero_add, cell_of_row _ _ j _ _ (0, 0) e]
    simpa [itC] using hj
  obtain ⟨v', w', h1, h2, h3, h4, h5⟩ := run_append_own_at (P := Tryz.prog) (w.alloc (.cells #[.int .i64 x.1, .slice q.a x.2.length q.c] 42)) B 34 34 42 i (.agg #[.int .i64 0, .slice none 0 0]) 2 32 iUnd hi hz hs hby rfl (by decide) v its.length (itCs its bs) h0 ⟨w.heap.size, 0, none⟩ 1 1 (itC x q) (by simp [itC]) hcell (fun u hu => by
    simp only [itC, List.mem_cons, List.not_mem_nil, or_false] at hu
    rcases hu with rfl | rfl <;> rfl) (by unfold maxLen; omega) (by omega) (Nat.le_trans hB na.size)
  have z : (w.alloc (.cells #[.int .i64 x.1, .slice q.a x.2.length q.c] 42)).heap.size = w.heap.size + 1 := by simp
  have keep : ∀ k, k < w.heap.size → v.ownBlock ≠ some k → w'.heap[k]? = w.heap[k]? := fun k hk hne => (h3.block k (by omega) (fun e => hne e.symm)).trans (na.block k hk)
  have ob := h.o.lt
  have A1 : ∀ j, j < its.length → (bs ++ [q]).getD j plc0 = bs.getD j plc0 := fun j hj => by
    have : j < bs.length := by rw [h.l]; exact hj
    simp [List.getD, List.getElem?_append_left this]
  have A2 : ∀ j, j < its.length → (its ++ [x]).getD j (0, []) = its.getD j (0, []) := fun j hj => by simp [List.getD, List.getElem?_append_left hj]
  have A3 : (bs ++ [q]).getD its.length plc0 = q := by rw [← h.l]; simp
  have A4 : (its ++ [x]).getD its.length (0, []) = x := by simp
  have hqr : v.ownBlock ≠ some q.q := fun e => by have := hM2 _ e; omega
  have LT : ∀ p, p < w.heap.size → v.ownBlock ≠ some p → v'.ownBlock ≠ some p := fun p hp hn => by
    rcases h5 with h5 | h5
    · rw [h5]; exact hn
    · rw [h5]
      intro e
      have e := Option.some.inj e
      omega
  refine ⟨v', w', h1, ⟨?_, by simp [h.l], fun j hj => ?_, fun j hj h0' => ?_, fun j k hj hk hne hj0 hk0 => ?_⟩, keep, ((Below.refl B w).alloc hB _).grown h3 (by omega) (fun k hk => (ob k hk).1), LT⟩
  · show w'.ownsRow B 42 2 v' (its ++ [x]).length (itCs (its ++ [x]) (bs ++ [q]))
    rw [itCs_snoc its bs x q h.l, List.length_append]
    exact h2
  · by_cases hj' : j < its.length
    · rw [A1 j hj', A2 j hj']
      exact (h.b j hj').of fun h0' => keep _ (h.lt hj' h0') (h.h j hj' h0').2
    · have ej : j = its.length := by simp at hj; omega
      subst ej
      rw [A3, A4]
      exact hq.of fun h0' => keep _ (hq.o.rd.lt h0') hqr
  · by_cases hj' : j < its.length
    · rw [A2 j hj'] at h0'
      rw [A1 j hj']
      exact ⟨(h.h j hj' h0').1, LT _ (h.lt hj' h0') (h.h j hj' h0').2⟩
    · have ej : j = its.length := by simp at hj; omega
      subst ej
      rw [A4] at h0'
      rw [A3]
      exact ⟨by omega, LT _ (hq.o.rd.lt h0') hqr⟩
  · by_cases hj' : j < its.length
    · rw [A2 j hj'] at hj0
      rw [A1 j hj']
      by_cases hk' : k < its.length
      · rw [A2 k hk'] at hk0
        rw [A1 k hk']
        exact h.d j k hj' hk' hne hj0 hk0
      · have ek : k = its.length := by simp at hk; omega
        subst ek
        rw [A3]
        have := hM1 j hj' hj0
        omega
    · have ej : j = its.length := by simp at hj; omega
      subst ej
      have hk' : k < its.length := by simp at hk; omega
      rw [A2 k hk'] at hk0
      rw [A1 k hk', A3]
      have := hM1 k hk' hk0
      omega
theorem IRow.cells {w : World} {B : Nat} {v : Value} {its : List (Int × List Int)} {bs : List Plc} (h : IRow w B v its bs) (h0 : 0 < its.length) : ∃ g c, v = .slice (some ⟨g, 0, none⟩) its.length c ∧ B ≤ g ∧ g < w.heap.size ∧ v.ownBlock = some g ∧ (∀ i, i < its.length → w.cell? ⟨g, i * 2, none⟩ = some (.int .i64 (its.getD i (0, [])).1) ∧ w.cell? ⟨g, i * 2 + 1, none⟩ = some (.slice (bs.getD i plc0).a (its.getD i (0, [])).2.length (bs.getD i plc0).c)) ∧ (∀ i, w.frozen? ⟨g, i, none⟩ = false) := by
  rcases h.o.2 with ⟨_, h'⟩ | ⟨g, cap, cur, rfl, hb, hg, hnc, hcm, hcs, ht⟩
  · omega
  · refine ⟨g, cap, rfl, hb, (Array.getElem?_eq_some_iff.1 hg).1, rfl, fun i hi => ⟨?_, ?_⟩, fun i => frozen_of_row w g i cur _ hg⟩
    · rw [cell_of_row w g _ cur _ (0, 0) hg]
      have : (cur.toList.take (its.length * 2))[i * 2]? = (itCs its bs)[i * 2]? := by rw [ht]
      rw [List.getElem?_take, if_pos (by omega), show i * 2 = 2 * i from Nat.mul_comm _ _, itCs_at0 its bs i h.l hi] at this
      simpa [Nat.mul_comm] using this
    · rw [cell_of_row w g _ cur _ (0, 0) hg]
      have : (cur.toList.take (its.length * 2))[i * 2 + 1]? = (itCs its bs)[i * 2 + 1]? := by rw [ht]
      rw [List.getElem?_take, if_pos (by omega), show i * 2 = 2 * i from Nat.mul_comm _ _, itCs_at1 its bs i h.l hi] at this
      simpa [Nat.mul_comm] using this
theorem IRow.slice {w : World} {B : Nat} {v : Value} {its : List (Int × List Int)} {bs : List Plc} (h : IRow w B v its bs) : ∃ a c, v = .slice a its.length c ∧ (a = none → c = 0) := by
  rcases h.o.2 with ⟨h1, h'⟩ | ⟨g, cap, cur, rfl, hb, hg, hnc, hcm, hcs, ht⟩
  · exact ⟨none, 0, by rw [h1, h'], fun _ => rfl⟩
  · exact ⟨_, cap, rfl, fun e => by cases e⟩
structure NoP (p : Nat) (v : Value) (its : List (Int × List Int)) (bs : List Plc) : Prop where
  o : v.ownBlock ≠ some p
  b : ∀ i, i < its.length → 0 < (its.getD i (0, [])).2.length → (bs.getD i plc0).q ≠ p
theorem NoP.nil (p : Nat) : NoP p (.slice none 0 0) [] [] := ⟨(fun e => nomatch e), fun i h => absurd h (by simp)⟩
theorem IRow.ofN {w w' : World} {B p : Nat} {v : Value} {its : List (Int × List Int)} {bs : List Plc} (h : IRow w B v its bs) (np : NoP p v its bs) (hb : ∀ k, k < w.heap.size → B ≤ k → k ≠ p → w'.heap[k]? = w.heap[k]?) : IRow w' B v its bs := by
  refine ⟨⟨h.o.1, ?_⟩, h.l, fun i hi => ?_, h.h, h.d⟩
  · rcases h.o.2 with h' | ⟨g, cap, cur, rfl, hbg, hg, hnc, hcm, hcs, ht⟩
    · exact .inl h'
    · exact .inr ⟨g, cap, cur, rfl, hbg, by rw [hb g ((Array.getElem?_eq_some_iff.1 hg).1) hbg (fun e => np.o (by rw [e]; rfl))]; exact hg, hnc, hcm, hcs, ht⟩
  · exact (h.b i hi).of fun h0 => hb _ (h.lt hi h0) (h.h i hi h0).1 (np.b i hi h0)
theorem NoP.app {p : Nat} {v v' : Value} {its : List (Int × List Int)} {bs : List Plc} (h : NoP p v its bs) (l : bs.length = its.length) (ho : v'.ownBlock ≠ some p) (x : Int × List Int) (q : Plc) (hq : q.q ≠ p) : NoP p v' (its ++ [x]) (bs ++ [q]) := by
  refine ⟨ho, fun j hj h0 => ?_⟩
  by_cases hj' : j < its.length
  · have A1 : (bs ++ [q]).getD j plc0 = bs.getD j plc0 := by
      have : j < bs.length := by rw [l]; exact hj'
      simp [List.getD, List.getElem?_append_left this]
    have A2 : (its ++ [x]).getD j (0, []) = its.getD j (0, []) := by simp [List.getD, List.getElem?_append_left hj']
    rw [A2] at h0
    rw [A1]
    exact h.b j hj' h0
  · have ej : j = its.length := by simp at hj; omega
    subst ej
    rw [← l]
    simpa using hq
theorem IRow.base {w : World} {B C : Nat} {v : Value} {its : List (Int × List Int)} {bs : List Plc} (R : IRow w B v its bs) (hC : C ≤ B) : IRow w C v its bs :=
  ⟨⟨R.o.1, by
      rcases R.o.2 with h' | ⟨g, cap, cur, e1, hbg, h3⟩
      · exact .inl h'
      · exact .inr ⟨g, cap, cur, e1, by omega, h3⟩⟩, R.l, R.b, fun i hi h0 => ⟨by have := (R.h i hi h0).1; omega, (R.h i hi h0).2⟩, R.d⟩
end Go.Proofs.YtkpomobhjkikeaaGreatDoor
namespace Go.Proofs.YtkpomobhjkikeaaGreatDoor
set_option maxRecDepth 100000
open Go Go.RowKit
def ccN (a1 a2 : Addr) (x : Option Addr) : Int := if x = some a1 then 1 else if x = some a2 then 2 else 0
set_option maxHeartbeats 4000000 in
theorem cutCode_any (w : World) (x : Option Addr) (a1 a2 : Addr) (hx : ∀ a, x = some a → ∃ ca ta, w.heap[a.block]? = some (.cells ca ta (0, 0)))
    (h1 : Sen w 1 a1) (h2 : Sen w 5 a2) :
    Calls Tryz.prog 28 #[x.elim .nilIface erV] w fun e w' => e = .returned (.int .i64 (ccN a1 a2 x)) ∧ w' = w := by
  have I0 := hide (isErr_any x a1 w hx h1.b)
  have c0 := h1.c
  have I1 := hide (isErr_any x a2 w hx h2.b)
  have c1 := h2.c
  obtain ⟨v, hv⟩ : ∃ v, v = x.elim .nilIface erV := ⟨_, rfl⟩
  rw [← hv] at I0 I1 ⊢
  clear h1 h2
  unfold erV at c0 c1 I0 I1
  by_cases q0 : x = some a1
  · rw [decide_eq_true q0] at I0
    have e : Hid (ccN a1 a2 x = 1) := by show _ = _; unfold ccN; rw [if_pos q0]
    generalize ccN a1 a2 x = o at *
    clear q0 hx hv
    go_enter Tryz.func28, Tryz.ntmps28
    go_wp2_with fail
    refine I0.out.mono ?_
    rintro e w' ⟨rfl, hw⟩
    have hw := hw.symm
    subst hw
    go_wp2
    go_ret
    exact ⟨by rw [e.out]; rfl, rfl⟩
  rw [decide_eq_false q0] at I0
  by_cases q1 : x = some a2
  · rw [decide_eq_true q1] at I1
    have e : Hid (ccN a1 a2 x = 2) := by show _ = _; unfold ccN; rw [if_neg q0]; rw [if_pos q1]
    generalize ccN a1 a2 x = o at *
    clear q0 q1 hx hv
    go_enter Tryz.func28, Tryz.ntmps28
    go_wp2_with fail
    refine I0.out.mono ?_
    rintro e w' ⟨rfl, hw⟩
    have hw := hw.symm
    subst hw
    go_wp2_with fail
    refine I1.out.mono ?_
    rintro e w' ⟨rfl, hw⟩
    have hw := hw.symm
    subst hw
    go_wp2
    go_ret
    exact ⟨by rw [e.out]; rfl, rfl⟩
  rw [decide_eq_false q1] at I1
  have e : Hid (ccN a1 a2 x = 0) := by show _ = _; unfold ccN; rw [if_neg q0]; rw [if_neg q1]
  generalize ccN a1 a2 x = o at *
  clear q0 q1 hx hv
  go_enter Tryz.func28, Tryz.ntmps28
  go_wp2_with fail
  refine I0.out.mono ?_
  rintro e w' ⟨rfl, hw⟩
  have hw := hw.symm
  subst hw
  go_wp2_with fail
  refine I1.out.mono ?_
  rintro e w' ⟨rfl, hw⟩
  have hw := hw.symm
  subst hw
  go_wp2
  go_ret
  exact ⟨by rw [e.out]; rfl, rfl⟩
end Go.Proofs.YtkpomobhjkikeaaGreatDoor
namespace Go.Proofs.YtkpomobhjkikeaaGreatDoor
set_option maxRecDepth 100000
open Go Go.RowKit
def RS (a0 a1 a2 : Addr) (w : World) (B : Nat) (ys : List Int) (K : Int) (ad : Option Addr) (n cd : Nat) (ev : Value) : Prop :=
  (rcT ys = 0 ∧ ev = .nilIface ∧ K = rcK ys ∧ n = (rcB ys).length ∧ RowB w B (.slice ad n cd) (rcB ys)) ∨ (rcT ys ≠ 0 ∧ ∃ x, rcX a0 a1 a2 (rcT ys) = some x ∧ ev = erV x)
theorem RS.up {a0 a1 a2 : Addr} {w w' : World} {B : Nat} {ys : List Int} {K : Int} {ad : Option Addr} {n cd : Nat} {ev : Value} (h : RS a0 a1 a2 w B ys K ad n cd ev) (m : Below w.heap.size w w') : RS a0 a1 a2 w' B ys K ad n cd ev := by
  rcases h with ⟨h1, h2, h3, h4, h5⟩ | h
  · exact .inl ⟨h1, h2, h3, h4, h5.up m⟩
  · exact .inr h
theorem RS.only {a0 a1 a2 : Addr} {w w' : World} {B q : Nat} {zs : List Value} {t : TypeId} {ys : List Int} {K : Int} {ad : Option Addr} {n cd : Nat} {ev : Value} (h : RS a0 a1 a2 w B ys K ad n cd ev) (O : Only q w w') (hq : RwC w q zs t) (ht : t ≠ 5) : RS a0 a1 a2 w' B ys K ad n cd ev := by
  rcases h with ⟨h1, h2, h3, h4, h5⟩ | h
  · exact .inl ⟨h1, h2, h3, h4, h5.onlyT O hq ht⟩
  · exact .inr h
theorem firstR_any (w W : World) (g : Nat) (a : Option Addr) (c m k : Nat) (xs : List Int) (hm : m = (xs.drop k).length) (hr : Rd w g a .u8 (xs.drop k)) (hb : Byt xs) (hc : m ≤ c) (hn : xs.length ≤ 1048576) (a0 a1 a2 : Addr) (h0 : Sen w 0 a0) (h1 : Sen w 1 a1) (h2 : Sen w 5 a2) (N : Below w.heap.size w W) :
    Calls Tryz.prog 26 #[.slice a m c] W fun e w' => Below W.heap.size W w' ∧ ∃ K ad n cd ev, e = .returned (.tuple #[.agg #[.int .i64 K, .slice ad n cd], ev]) ∧ RS a0 a1 a2 w' W.heap.size (xs.drop k) K ad n cd ev := by
  subst hm
  refine (firstRecord_any W g a c (xs.drop k) (hr.up N) (byt_drop hb k) hc (by rw [List.length_drop]; omega) a0 a1 a2 (h0.up N) (h1.up N) (h2.up N)).mono ?_
  rintro e w' ⟨b, ⟨h, ad, cd, rfl, R⟩ | ⟨x, h, rfl⟩⟩
  · refine ⟨b, _, _, _, _, _, rfl, .inl ⟨?_, rfl, rfl, rfl, R⟩⟩
    rw [rcE_T] at h
    generalize rcT (xs.drop k) = t at h
    match t, h with
    | 0, _ => rfl
    | 1, h => cases h
    | 2, h => cases h
    | t + 3, h => cases h
  · refine ⟨b, _, _, _, _, _, rfl, .inr ⟨fun e => ?_, x, ?_, rfl⟩⟩
    · rw [rcE_T, e] at h
      cases h
    · rw [← rcE_T]
      exact h
structure CSt (w wr : World) (g q4 : Nat) (xs : List Int) (a0 a1 a2 : Addr) (k m : Nat) (a' : Option Addr) (c' : Nat) (its : List (Int × List Int)) (bs : List Plc) (v : Value) (K : Int) (ad : Option Addr) (n cd : Nat) (ev : Value) (M : Nat) : Prop where
  hm : m = (xs.drop k).length
  mc : m ≤ c'
  z : a' = none → c' = 0
  rd : Rd w g a' .u8 (xs.drop k)
  A : Ahc xs its k
  R : IRow wr (w.heap.size + 2) v its bs
  NP : NoP q4 v its bs
  T : RwC wr (w.heap.size + 1) [.int .i64 0, v, .slice none 0 0] 36
  U : RwC wr w.heap.size [.int .i64 0, .slice none 0 0, .slice none 0 0] 36
  V : RwC wr q4 [.int .i64 K, .slice ad n cd] 42
  S : RS a0 a1 a2 wr M (xs.drop k) K ad n cd ev
  M0 : w.heap.size + 2 ≤ M
  M1 : ∀ i, i < its.length → 0 < (its.getD i (0, [])).2.length → (bs.getD i plc0).q < M
  M2 : ∀ k, v.ownBlock = some k → k < M
  N : Below w.heap.size w wr
  q : w.heap.size + 2 ≤ q4
structure CSm (w w5 : World) (q4 : Nat) (xs : List Int) (k : Nat) (its : List (Int × List Int)) (bs : List Plc) (v : Value) (K : Int) (ad : Option Addr) (n cd : Nat) : Prop where
  A : Ahc xs its k
  R : IRow w5 (w.heap.size + 2) v its bs
  NP : NoP q4 v its bs
  T : RwC w5 (w.heap.size + 1) [.int .i64 0, v, .slice none 0 0] 36
  U : RwC w5 w.heap.size [.int .i64 0, .slice none 0 0, .slice none 0 0] 36
  V : RwC w5 q4 [.int .i64 K, .slice ad n cd] 42
  N : Below w.heap.size w w5
theorem CSt.app {w wr : World} {g q4 : Nat} {xs : List Int} {a0 a1 a2 : Addr} {k m : Nat} {a' : Option Addr} {c' : Nat} {its : List (Int × List Int)} {bs : List Plc} {v : Value} {K : Int} {ad : Option Addr} {n cd : Nat} {ev : Value} {M : Nat} (h : CSt w wr g q4 xs a0 a1 a2 k m a' c' its bs v K ad n cd ev M) (hb : Byt xs) (hn : xs.length ≤ 1048576) (ht : rcT (xs.drop k) = 0) :
    ∃ v' w4, (Builtin.append_ #[34, 34] 34 #[v, .slice (some ⟨wr.heap.size, 0, none⟩) 1 1]).run Tryz.prog (wr.alloc (.cells #[.int .i64 K, .slice ad n cd] 42)) = .ok v' w4 ∧ w4.cell? ⟨w.heap.size + 1, 1, none⟩ = some v ∧ w4.frozen? ⟨w.heap.size + 1, 1, none⟩ = false ∧
      ∃ its' bs', CSm w (w4.setCell ⟨w.heap.size + 1, 1, none⟩ v') q4 xs (k + (3 + n)) its' bs' v' K ad n cd ∧ its'.length ≤ 1048576 ∧ 3 + n ≤ m := by
  have L := rcT_len (byt_drop hb k) ht
  rcases h.S with ⟨-, -, hK, hn', hR⟩ | ⟨h1, -⟩
  · subst hK
    subst hn'
    have Al := h.A.l
    have Ak := h.A.k
    obtain ⟨a, c, gd, ev', O1, O2, O3, O4⟩ := hR.own
    simp only [Value.slice.injEq, true_and] at ev'
    obtain ⟨rfl, rfl⟩ := ev'
    have LI : Lie wr (rcB (xs.drop k)) ⟨ad, cd, gd⟩ := ⟨O1, O2, O3⟩
    have z := h.N.size
    have zq := h.V.lt
    have Mg : M ≤ gd := O4
    have gq : gd ≠ q4 := by
      rintro rfl
      obtain ⟨-, ⟨e1, e2⟩ | ⟨gg, cap, cur, e1, -, hg, -⟩⟩ := hR
      · omega
      · have lt := O1.rd.lt (by omega)
        obtain ⟨off, e3, -⟩ := O1 (by omega)
        simp only [Value.slice.injEq] at e1
        rw [e3] at e1
        simp only [Option.some.injEq, Addr.mk.injEq] at e1
        obtain ⟨⟨rfl, -⟩, -⟩ := e1
        have := hg.symm.trans h.V
        simp at this
    obtain ⟨v', w4, r1, r2, r3, r4, r5⟩ := h.R.app (rcK (xs.drop k), rcB (xs.drop k)) ⟨ad, cd, gd⟩ (by have := h.T.lt; have := h.q; omega) LI M h.M0 h.M1 h.M2 Mg (by omega)
    have T4 : RwC w4 (w.heap.size + 1) [.int .i64 0, v, .slice none 0 0] 36 := (r4.block _ (by omega)).trans h.T
    have U4 : RwC w4 w.heap.size [.int .i64 0, .slice none 0 0, .slice none 0 0] 36 := (r4.block _ (by omega)).trans h.U
    have V4 : RwC w4 q4 [.int .i64 (rcK (xs.drop k)), .slice ad (rcB (xs.drop k)).length cd] 42 := (r3 q4 zq h.NP.o).trans h.V
    have O5 := Only.setCell w4 (w.heap.size + 1) 1 v'
    refine ⟨v', w4, r1, T4.c1, T4.free 1, _, _, ⟨?_, r2.of (fun i hi hB => O5.block i (by omega)), h.NP.app h.R.l (r5 q4 zq h.NP.o) _ _ gq, T4.set 1 v', U4.onl O5 (by omega), V4.onl O5 (by have := h.q; omega), (h.N.trans (r4.mono (show w.heap.size ≤ w.heap.size + 2 by omega))).trans (O5.below (by omega))⟩, by simp; omega, by have := h.hm; omega⟩
    have := h.A.step hb ht
    rw [L.2.2.2]
    exact this
  · exact absurd ht h1
theorem CSm.next {w w5 w6 w7 : World} {g q4 : Nat} {xs : List Int} {a0 a1 a2 : Addr} {k m : Nat} {a' : Option Addr} {c' : Nat} {its : List (Int × List Int)} {bs : List Plc} {v : Value} {K K' : Int} {ad ad' : Option Addr} {n cd n' cd' : Nat} {ev : Value} (h : CSm w w5 q4 xs k its bs v K ad n cd) (q : w.heap.size + 2 ≤ q4) (b6 : Below w5.heap.size w5 w6) (S : RS a0 a1 a2 w6 w5.heap.size (xs.drop k) K' ad' n' cd' ev) (O : Only q4 w6 w7) (V7 : RwC w7 q4 [.int .i64 K', .slice ad' n' cd'] 42)
    (hm : m = (xs.drop k).length) (mc : m ≤ c') (z : a' = none → c' = 0) (rd : Rd w g a' .u8 (xs.drop k)) : CSt w w7 g q4 xs a0 a1 a2 k m a' c' its bs v K' ad' n' cd' ev w5.heap.size := by
  have zq := h.V.lt
  have s6 := b6.size
  refine ⟨hm, mc, z, rd, h.A, ?_, h.NP, (h.T.up b6).onl O (by omega), (h.U.up b6).onl O (by omega), V7, S.only O (h.V.up b6) (by decide), by omega, fun i hi h0 => h.R.lt hi h0, fun i hi => (h.R.o.lt i hi).2, (nxt h.N b6).trans (O.below (by omega)), q⟩
  exact (h.R.of (w' := w6) (fun i hi _ => b6.block i hi)).ofN h.NP (fun i hi hB hne => O.block i hne)
end Go.Proofs.YtkpomobhjkikeaaGreatDoor
namespace Go.Proofs.YtkpomobhjkikeaaGreatDoor
set_option maxRecDepth 100000
open Go Go.RowKit
theorem iRl : (Tryz.prog.info? 36).map (·.size) = some 3 := by kernel_rfl
theorem rowRl : ∃ d, Tryz.prog.underlying 36 = some d ∧ d.isRow = true := ⟨_, Tryz.underlying36, rfl⟩
def NewC (B : Nat) (w' : World) (e : Ending) (xs : List Int) : Prop :=
  ∃ v bs vr, e = .returned (.agg #[.int .i64 (cutC xs), v, vr]) ∧ IRow w' B v (cutR xs) bs ∧ RowB w' B vr (cutL xs) ∧ (∀ p, vr.ownBlock = some p → NoP p v (cutR xs) bs)
def slL : Value → Nat
  | .slice _ n _ => n
  | _ => 0
theorem rcX_code {a0 a1 a2 : Addr} (d01 : a0 ≠ a1) (d02 : a0 ≠ a2) (d12 : a1 ≠ a2) {t : Nat} {x : Addr} (h : rcX a0 a1 a2 t = some x) (h3 : t ≤ 3) : ccN a1 a2 (some x) = (t : Int) - 1 ∧ (decide (some x = some a0) = true ↔ t = 1) := by
  match t, h, h3 with
  | 1, h, _ =>
    obtain rfl := Option.some.inj h
    refine ⟨?_, by simp⟩
    unfold ccN
    rw [if_neg (fun e => d01 (Option.some.inj e)), if_neg (fun e => d02 (Option.some.inj e))]
    rfl
  | 2, h, _ =>
    obtain rfl := Option.some.inj h
    refine ⟨?_, by simp [Ne.symm d01]⟩
    unfold ccN
    rw [if_pos rfl]
    rfl
  | 3, h, _ =>
    obtain rfl := Option.some.inj h
    refine ⟨?_, by simp [Ne.symm d02]⟩
    unfold ccN
    rw [if_neg (fun e => d12 (Option.some.inj e).symm), if_pos rfl]
    rfl
theorem rcT_le (ys : List Int) : rcT ys ≤ 3 := by
  unfold rcT
  repeat' split
  all_goals omega
theorem rcX_sen {w : World} {a0 a1 a2 : Addr} (h0 : Sen w 0 a0) (h1 : Sen w 1 a1) (h2 : Sen w 5 a2) {t : Nat} {x : Addr} (h : rcX a0 a1 a2 t = some x) : ∀ a, some x = some a → ∃ ca ta, w.heap[a.block]? = some (.cells ca ta (0, 0)) := by
  rintro a e
  obtain rfl := Option.some.inj e
  match t, h with
  | 1, h =>
    obtain rfl := Option.some.inj h
    exact h0.b
  | 2, h =>
    obtain rfl := Option.some.inj h
    exact h1.b
  | t + 3, h =>
    obtain rfl := Option.some.inj h
    exact h2.b
theorem noP_of {w w' : World} {B : Nat} {v vr : Value} {its : List (Int × List Int)} {bs : List Plc} {ys : List Int} (R : IRow w B v its bs) (h : RowB w' w.heap.size vr ys) : ∀ p, vr.ownBlock = some p → NoP p v its bs := fun p hp => by
  have := (World.ownsRow.lt h p hp).1
  exact ⟨fun e => by have := (R.o.lt p e).2; omega, fun i hi h0 => by have := R.lt hi h0; omega⟩
set_option maxHeartbeats 8000000 in
theorem implCut_any (w : World) (g : Nat) (a : Option Addr) (c : Nat) (xs : List Int) (hr : Rd w g a .u8 xs) (hb : Byt xs) (hc0 : a = none → c = 0) (hc : xs.length ≤ c) (hn : xs.length ≤ 1048576) (a0 a1 a2 : Addr) (h0 : Sen w 0 a0) (h1 : Sen w 1 a1) (h2 : Sen w 5 a2) (d01 : a0 ≠ a1) (d02 : a0 ≠ a2) (d12 : a1 ≠ a2) :
    Calls Tryz.prog 10 #[.slice a xs.length c] w fun e w' => NewC w.heap.size w' e xs ∧ Below w.heap.size w w' := by
  obtain ⟨d1, hd1, hrow1⟩ := rowRl
  have n0 : Below w.heap.size w (w.alloc (.cells #[.int .i64 0, .slice none 0 0, .slice none 0 0] 36)) := (Below.refl _ _).alloc (Nat.le_refl _) _
  have U0 : RwC (w.alloc (.cells #[.int .i64 0, .slice none 0 0, .slice none 0 0] 36)) w.heap.size [.int .i64 0, .slice none 0 0, .slice none 0 0] 36 := RwC.new w _ _
  have z0 : (w.alloc (.cells #[.int .i64 0, .slice none 0 0, .slice none 0 0] 36)).heap.size = w.heap.size + 1 := by simp
  have n1 : Below w.heap.size w ((w.alloc (.cells #[.int .i64 0, .slice none 0 0, .slice none 0 0] 36)).alloc (.cells #[.int .i64 0, .slice none 0 0, .slice none 0 0] 36)) := n0.alloc (by simp) _
  have U1 := U0.push (.cells #[.int .i64 0, .slice none 0 0, .slice none 0 0] 36)
  have T1 : RwC ((w.alloc (.cells #[.int .i64 0, .slice none 0 0, .slice none 0 0] 36)).alloc (.cells #[.int .i64 0, .slice none 0 0, .slice none 0 0] 36)) (w.heap.size + 1) [.int .i64 0, .slice none 0 0, .slice none 0 0] 36 := by
    have := RwC.new (w.alloc (.cells #[.int .i64 0, .slice none 0 0, .slice none 0 0] 36)) [.int .i64 0, .slice none 0 0, .slice none 0 0] 36
    rw [z0] at this
    exact this
  have Z1 : Hid (w.heap.size + 2 ≤ ((w.alloc (.cells #[.int .i64 0, .slice none 0 0, .slice none 0 0] 36)).alloc (.cells #[.int .i64 0, .slice none 0 0, .slice none 0 0] 36)).heap.size) := by show _ ≤ _; simp
  have FR := hide fun W a m c k hm hr hc N => firstR_any w W g a c m k xs hm hr hb hc hn a0 a1 a2 h0 h1 h2 N
  have HB := hide (And.intro hb hn)
  have HS := hide (And.intro h0 (And.intro h1 h2))
  have HD := hide (And.intro d01 (And.intro d02 d12))
  have HR := hide (And.intro hr (And.intro hc0 hc))
  clear n0 U0 z0 hb hn h0 h1 h2 d01 d02 d12 hr hc0 hc
  have er1 := er_eq
  have er2 := nil_eq
  go_enter Tryz.func10, Tryz.ntmps10
  go_wp2_with fail
  generalize (w.alloc (.cells #[.int .i64 0, .slice none 0 0, .slice none 0 0] 36)).alloc (.cells #[.int .i64 0, .slice none 0 0, .slice none 0 0] 36) = W1 at *
  refine (FR.out W1 a xs.length c 0 (by simp) HR.out.1 HR.out.2.2 n1).mono ?_
  rintro e w2 ⟨b2, K, ad, n, cd, ev, rfl, S2⟩
  have V3 := RwC.new w2 [.int .i64 K, .slice ad n cd] 42
  have n3 : Below w2.heap.size w2 (w2.alloc (.cells #[.int .i64 K, .slice ad n cd] 42)) := (Below.refl _ _).alloc (Nat.le_refl _) _
  have N3 := nxt (nxt n1 b2) n3
  have U3 := (U1.up b2).up n3
  have T3 := (T1.up b2).up n3
  have S3 := S2.up n3
  have q3 : Hid (w.heap.size + 2 ≤ w2.heap.size) := by show _ ≤ _; have := b2.size; have := Z1.out; omega
  have ST : Hid (CSt w (w2.alloc (.cells #[.int .i64 K, .slice ad n cd] 42)) g w2.heap.size xs a0 a1 a2 0 xs.length a c [] [] (.slice none 0 0) K ad n cd ev W1.heap.size) := ⟨by simp, HR.out.2.2, HR.out.2.1, HR.out.1, Ahc.zero xs, IRow.nil _ _, NoP.nil _, T3, U3, V3, S3, Z1.out, fun i h => absurd h (by simp), (fun k h => nomatch h), N3, q3.out⟩
  clear V3 n3 N3 U3 T3 S3 S2 b2 U1 T1 n1 Z1
  go_upto_region 3 with fail
  generalize w2.alloc (.cells #[.int .i64 K, .slice ad n cd] 42) = W3 at *
  go_loopw [0, 5] (fun s e wr => ∃ (k m : Nat) (a' : Option Addr) (c' : Nat) (its : List (Int × List Int)) (bs : List Plc) (v : Value) (K : Int) (ad : Option Addr) (n cd M : Nat) (ev : Value), s = .slice a' m c' ∧ ev = e ∧ Hid (CSt w wr g w2.heap.size xs a0 a1 a2 k m a' c' its bs v K ad n cd ev M)) (fun s _ _ => slL s)
  case atStart => exact ⟨_, _, _, _, _, _, _, _, _, _, _, _, _, rfl, rfl, ST⟩
  case round =>
    clear ST
    obtain ⟨k, m, a', c', its, bs, v, K, ad, n, cd, M, e, rfl, rfl, C⟩ := hrel
    by_cases ht : rcT (xs.drop k) = 0
    · obtain ⟨v', w4, ap, x1, f1, its', bs', CM, hl', h3⟩ := C.out.app HB.out.1 HB.out.2 ht
      have he : e = .nilIface := by
        rcases C.out.S with ⟨-, he, -⟩ | ⟨hx, -⟩
        · exact he
        · exact absurd ht hx
      subst he
      have r0 := C.out.T.c1
      have r1 := C.out.V.c0
      have r2 := C.out.V.c1
      have r3 := CM.V.c1
      have hm := C.out.hm
      have mc := C.out.mc
      have m5 : m ≤ 1048576 := by rw [hm, List.length_drop]; have := HB.out.2; omega
      obtain ⟨off, ha, -⟩ := C.out.rd (by omega)
      subst ha
      obtain ⟨ra, rc, ev, -⟩ := C.out.R.slice
      obtain ⟨ra', rc', ev', -⟩ := CM.R.slice
      have CH := hide CM
      have FX := hide (FR.out (w4.setCell ⟨w.heap.size + 1, 1, none⟩ v'))
      have HL : Hid (its'.length ≤ 1048576) := hl'
      have HM := hide hm
      clear hm hl' CM
      generalize its.length = p1 at ev
      generalize its'.length = p2 at ev'
      subst ev ev'
      have i3 : (3 : Int) + (n : Int) ≤ (m : Int) := by omega
      have i4 : (3 : Int) + (n : Int) ≤ (c' : Int) := by omega
      have RN : Hid (∀ a'' : Option Addr, ((xs.drop (k + (3 + n))).length = 0 ∨ a'' = some ⟨g, off + (3 + n), none⟩) → Rd w g a'' .u8 (xs.drop (k + (3 + n)))) := fun a'' hh h0 => by
        rcases hh with hh | rfl
        · omega
        · obtain ⟨off', e1, hc⟩ := C.out.rd (by have := HM.out; omega)
          simp only [Option.some.injEq, Addr.mk.injEq, true_and, and_true] at e1
          subst e1
          refine ⟨off + (3 + n), rfl, fun i hi => ?_⟩
          rw [Nat.add_assoc, hc (3 + n + i) (by rw [List.length_drop] at hi ⊢; omega), List.getD_eq_getElem?_getD, List.getD_eq_getElem?_getD, List.getElem?_drop, List.getElem?_drop, show k + (3 + n) + i = k + (3 + n + i) by omega]
      have LN : Hid ((xs.drop (k + (3 + n))).length = m - (3 + n)) := by
        show _ = _
        have := HM.out
        rw [List.length_drop] at this ⊢
        omega
      clear C
      go_wp2_with (at_builtin; refine Lib.wpList_append_run _ rfl _ _ 34 34 rfl _ _ rfl rfl _ _ ap ?_)
      all_goals
        clear ap
        go_wp2_with fail
      all_goals
        refine (FX.out _ _ _ (k + (3 + n)) (by rw [LN.out]; try omega) (by first | exact RN.out _ (.inr rfl) | exact RN.out _ (.inl (by rw [LN.out]; omega))) (by omega) CH.out.N).mono ?_
        rintro e w6 ⟨b6, K', ad', n', cd', ev', rfl, S6⟩
        have V6 := CH.out.V.up b6
        have V7 : RwC ((w6.setCell ⟨w2.heap.size, 0, none⟩ (.int .i64 K')).setCell ⟨w2.heap.size, 1, none⟩ (.slice ad' n' cd')) w2.heap.size [.int .i64 K', .slice ad' n' cd'] 42 := (V6.set 0 _).set 1 _
        have O7 : Only w2.heap.size w6 ((w6.setCell ⟨w2.heap.size, 0, none⟩ (.int .i64 K')).setCell ⟨w2.heap.size, 1, none⟩ (.slice ad' n' cd')) := (Only.setCell _ w2.heap.size 0 _).trans (Only.setCell _ w2.heap.size 1 _)
        have ST := hide fun a'' c'' mc z rd => CSm.next (m := m - (3 + n)) (a' := a'') (c' := c'') (g := g) CH.out q3.out b6 S6 O7 V7 LN.out.symm mc z rd
        have x0 := V6.c0
        have x1 := V6.c1
        have f0 := V6.free 0
        have f1 := V6.free 1
        clear V6 V7 O7 S6 b6
        go_wp2
        go_roundw
        case rel => exact ⟨k + (3 + n), _, _, _, _, _, _, _, _, _, _, _, _, by first | rfl | (congr 1; omega), rfl, ST.out _ _ (by omega) (by simp) (by first | exact RN.out _ (.inr rfl) | exact RN.out _ (.inl (by rw [LN.out]; omega)))⟩
        case measure => simp [slL]; omega
    · obtain ⟨x, hx, he⟩ : ∃ x, rcX a0 a1 a2 (rcT (xs.drop k)) = some x ∧ e = erV x := by
        rcases C.out.S with ⟨h, -⟩ | ⟨-, h⟩
        · exact absurd h ht
        · exact h
      subst he
      obtain ⟨D1, D2⟩ := C.out.A.done ht
      obtain ⟨E1, E2⟩ := rcX_code HD.out.1 HD.out.2.1 HD.out.2.2 hx (rcT_le _)
      have eC' : cutC xs = ccN a1 a2 (some x) := by unfold cutC; rw [D2, E1]
      have eL' : cutL xs = if rcT (xs.drop k) = 1 then xs.drop k else [] := by unfold cutL; rw [D2]
      have I0 := hide (isErr_any (some x) a0 wr (rcX_sen (HS.out.1.up C.out.N) (HS.out.2.1.up C.out.N) (HS.out.2.2.up C.out.N) hx) (HS.out.1.up C.out.N).b)
      have CC := hide fun W (N : Below w.heap.size w W) => cutCode_any W (some x) a1 a2 (rcX_sen (HS.out.1.up N) (HS.out.2.1.up N) (HS.out.2.2.up N) hx) (HS.out.2.1.up N) (HS.out.2.2.up N)
      have cg := (HS.out.1.up C.out.N).c
      obtain ⟨cN, hcN⟩ : ∃ cN, cN = ccN a1 a2 (some x) := ⟨_, rfl⟩
      rw [← hcN] at CC eC'
      have eC := hide eC'
      have eI := hide D1.symm
      clear hcN eC' D1 D2 E1 FR
      obtain ⟨ra, rc, ev, -⟩ := C.out.R.slice
      obtain ⟨p1, hp1⟩ : ∃ p1, p1 = its.length := ⟨_, rfl⟩
      rw [← hp1] at ev
      subst ev
      clear hp1
      simp only [Option.elim_some, erV] at I0 CC cg
      unfold erV
      by_cases h1 : rcT (xs.drop k) = 1
      · rw [E2.2 h1] at I0
        rw [if_pos h1] at eL'
        have eL := hide eL'
        clear eL' E2 hx ht h1
        have CL := hide (cloneR_any wr g a' c' (xs.drop k) (C.out.rd.up C.out.N) C.out.z (by rw [← C.out.hm]; have := HB.out.2; rw [C.out.hm, List.length_drop]; omega))
        rw [← C.out.hm] at CL
        go_wp2_with fail
        refine I0.out.mono ?_
        rintro e w' ⟨rfl, hw⟩
        have hw := hw.symm
        subst hw
        have C8 := C
        clear I0 C
        go_wp2_with fail
        refine CL.out.mono ?_
        rintro e w8 ⟨vr, rfl, R8, b8⟩
        obtain ⟨av, cv, gv, ev, -⟩ := R8.own
        rw [← C8.out.hm] at ev
        subst ev
        have T8 := C8.out.T.up b8
        have U8 := C8.out.U.up b8
        have s8 := b8.size
        have sT := C8.out.T.lt
        have O9 := Only.setCell w8 (w.heap.size + 1) 2 (.slice av m cv)
        have T9 : RwC (w8.setCell ⟨w.heap.size + 1, 2, none⟩ (.slice av m cv)) (w.heap.size + 1) [.int .i64 0, .slice ra p1 rc, .slice av m cv] 36 := T8.set 2 _
        have U9 := U8.onl O9 (by omega)
        have R9 := (C8.out.R.of (w' := w8) (fun i hi _ => b8.block i hi)).of (w' := w8.setCell ⟨w.heap.size + 1, 2, none⟩ (.slice av m cv)) (fun i hi hB => O9.block i (by omega))
        have B9 : RowB (w8.setCell ⟨w.heap.size + 1, 2, none⟩ (.slice av m cv)) wr.heap.size (.slice av m cv) (cutL xs) := by
          rw [eL.out]
          exact R8.only O9 (by omega)
        have NP9 := noP_of C8.out.R R8
        have N9 := (nxt C8.out.N b8).trans (O9.below (B := w.heap.size) (by omega))
        have t2 := T8.c2
        have tf2 := T8.free 2
        clear T8 U8 R8 b8 O9 CL C8
        go_wp2_with fail
        generalize w8.setCell ⟨w.heap.size + 1, 2, none⟩ (.slice av m cv) = W9 at *
        refine (CC.out W9 N9).mono ?_
        rintro e w' ⟨rfl, hw⟩
        have hw := hw.symm
        subst hw
        clear CC
        have t0 := T9.c0
        have t1 := T9.c1
        have t2 := T9.c2
        have tf0 := T9.free 0
        have u0 := U9.c0
        have u1 := U9.c1
        have u2 := U9.c2
        have uf0 := U9.free 0
        have uf1 := U9.free 1
        have uf2 := U9.free 2
        have O10 := Only.setCell W9 (w.heap.size + 1) 0 (.int .i64 cN)
        have U10 := U9.onl O10 (by omega)
        have R10 := R9.of (w' := W9.setCell ⟨w.heap.size + 1, 0, none⟩ (.int .i64 cN)) (fun i hi hB => O10.block i (by omega))
        have B10 := B9.only O10 (by omega)
        have N10 := N9.trans (O10.below (B := w.heap.size) (by omega))
        have U11 : RwC ((((W9.setCell ⟨w.heap.size + 1, 0, none⟩ (.int .i64 cN)).setCell ⟨w.heap.size, 0, none⟩ (.int .i64 cN)).setCell ⟨w.heap.size, 1, none⟩ (.slice ra p1 rc)).setCell ⟨w.heap.size, 2, none⟩ (.slice av m cv)) w.heap.size [.int .i64 cN, .slice ra p1 rc, (.slice av m cv)] 36 := ((U10.set 0 _).set 1 _).set 2 _
        have O11 : Only w.heap.size (W9.setCell ⟨w.heap.size + 1, 0, none⟩ (.int .i64 cN)) ((((W9.setCell ⟨w.heap.size + 1, 0, none⟩ (.int .i64 cN)).setCell ⟨w.heap.size, 0, none⟩ (.int .i64 cN)).setCell ⟨w.heap.size, 1, none⟩ (.slice ra p1 rc)).setCell ⟨w.heap.size, 2, none⟩ (.slice av m cv)) := ((Only.setCell _ w.heap.size 0 _).trans (Only.setCell _ w.heap.size 1 _)).trans (Only.setCell _ w.heap.size 2 _)
        have R11 := R10.of (w' := (((W9.setCell ⟨w.heap.size + 1, 0, none⟩ (.int .i64 cN)).setCell ⟨w.heap.size, 0, none⟩ (.int .i64 cN)).setCell ⟨w.heap.size, 1, none⟩ (.slice ra p1 rc)).setCell ⟨w.heap.size, 2, none⟩ (.slice av m cv)) (fun i hi hB => O11.block i (by omega))
        have B11 := B10.only O11 (by omega)
        have N11 := N10.trans (O11.below (B := w.heap.size) (Nat.le_refl _))
        have RR := U11.rangeG
        clear U9 T9 R9 B9 N9 O10 U10 R10 B10 N10 U11 O11
        go_wp2
        exact bodyPost_ret (v := .agg #[.int .i64 cN, .slice ra p1 rc, (.slice av m cv)]) (results_cellG Tryz.results10 _ _ w.heap.size [.int .i64 cN, .slice ra p1 rc, (.slice av m cv)] d1 rfl RR hd1 hrow1 iRl) rfl ⟨⟨_, bs, _, by rw [eC.out], eI.out ▸ R11.base (by omega), B11.base (by omega), eI.out ▸ NP9⟩, N11⟩
      · rw [Bool.eq_false_iff.2 (fun h => h1 (E2.1 h))] at I0
        rw [if_neg h1] at eL'
        have eL := hide eL'
        clear eL' E2 hx ht h1
        have C8 := C
        have T9 := C8.out.T
        have U9 := C8.out.U
        have R9 := C8.out.R
        have sT := C8.out.T.lt
        have B9 : RowB wr wr.heap.size (.slice none 0 0) (cutL xs) := by
          rw [eL.out]
          exact RowB.nilN _ _
        have NP9 := noP_of C8.out.R B9
        have N9 := C8.out.N
        clear C C8
        go_wp2_with fail
        refine I0.out.mono ?_
        rintro e w' ⟨rfl, hw⟩
        have hw := hw.symm
        subst hw
        clear I0
        go_wp2_with fail
        obtain ⟨W9, hW9⟩ : ∃ W, W = wr := ⟨_, rfl⟩
        rw [← hW9] at T9 U9 R9 N9 ⊢
        have B9' : RowB W9 wr.heap.size (.slice none 0 0) (cutL xs) := by rw [hW9]; exact B9
        replace B9 := B9'
        clear B9' hW9
        refine (CC.out W9 N9).mono ?_
        rintro e w' ⟨rfl, hw⟩
        have hw := hw.symm
        subst hw
        clear CC
        have t0 := T9.c0
        have t1 := T9.c1
        have t2 := T9.c2
        have tf0 := T9.free 0
        have u0 := U9.c0
        have u1 := U9.c1
        have u2 := U9.c2
        have uf0 := U9.free 0
        have uf1 := U9.free 1
        have uf2 := U9.free 2
        have O10 := Only.setCell W9 (w.heap.size + 1) 0 (.int .i64 cN)
        have U10 := U9.onl O10 (by omega)
        have R10 := R9.of (w' := W9.setCell ⟨w.heap.size + 1, 0, none⟩ (.int .i64 cN)) (fun i hi hB => O10.block i (by omega))
        have B10 := B9.only O10 (by omega)
        have N10 := N9.trans (O10.below (B := w.heap.size) (by omega))
        have U11 : RwC ((((W9.setCell ⟨w.heap.size + 1, 0, none⟩ (.int .i64 cN)).setCell ⟨w.heap.size, 0, none⟩ (.int .i64 cN)).setCell ⟨w.heap.size, 1, none⟩ (.slice ra p1 rc)).setCell ⟨w.heap.size, 2, none⟩ (.slice none 0 0)) w.heap.size [.int .i64 cN, .slice ra p1 rc, (.slice none 0 0)] 36 := ((U10.set 0 _).set 1 _).set 2 _
        have O11 : Only w.heap.size (W9.setCell ⟨w.heap.size + 1, 0, none⟩ (.int .i64 cN)) ((((W9.setCell ⟨w.heap.size + 1, 0, none⟩ (.int .i64 cN)).setCell ⟨w.heap.size, 0, none⟩ (.int .i64 cN)).setCell ⟨w.heap.size, 1, none⟩ (.slice ra p1 rc)).setCell ⟨w.heap.size, 2, none⟩ (.slice none 0 0)) := ((Only.setCell _ w.heap.size 0 _).trans (Only.setCell _ w.heap.size 1 _)).trans (Only.setCell _ w.heap.size 2 _)
        have R11 := R10.of (w' := (((W9.setCell ⟨w.heap.size + 1, 0, none⟩ (.int .i64 cN)).setCell ⟨w.heap.size, 0, none⟩ (.int .i64 cN)).setCell ⟨w.heap.size, 1, none⟩ (.slice ra p1 rc)).setCell ⟨w.heap.size, 2, none⟩ (.slice none 0 0)) (fun i hi hB => O11.block i (by omega))
        have B11 := B10.only O11 (by omega)
        have N11 := N10.trans (O11.below (B := w.heap.size) (Nat.le_refl _))
        have RR := U11.rangeG
        clear U9 T9 R9 B9 N9 O10 U10 R10 B10 N10 U11 O11
        go_wp2
        exact bodyPost_ret (v := .agg #[.int .i64 cN, .slice ra p1 rc, (.slice none 0 0)]) (results_cellG Tryz.results10 _ _ w.heap.size [.int .i64 cN, .slice ra p1 rc, (.slice none 0 0)] d1 rfl RR hd1 hrow1 iRl) rfl ⟨⟨_, bs, _, by rw [eC.out], eI.out ▸ R11.base (by omega), B11.base (by omega), eI.out ▸ NP9⟩, N11⟩
end Go.Proofs.YtkpomobhjkikeaaGreatDoor
namespace Go.Proofs.YtkpomobhjkikeaaGreatDoor
set_option maxRecDepth 100000
open Go Go.RowKit
theorem rd_onlyS {w w' : World} {g s : Nat} {a : Option Addr} {k : IntKind} {xs : List Int} (h : Rd w g a k xs) (n : Only s w w') (hg : 0 < xs.length → g ≠ s) : Rd w' g a k xs := by
  by_cases h0 : 0 < xs.length
  · exact h.of_block (n.block g (hg h0))
  · exact fun q => absurd q h0
def HasR8 (W : World) : Prop := ∃ a0 a1 a2 a3 a4 a5 a6 a7, Sen W 0 a0 ∧ Sen W 1 a1 ∧ Sen W 5 a2 ∧ Sen W 4 a3 ∧ Sen W 6 a4 ∧ Sen W 7 a5 ∧ Sen W 2 a6 ∧ Sen W 3 a7 ∧ Dst a1 a2 a3 a4 a5 a6 a7 ∧ a0 ≠ a1 ∧ a0 ≠ a2
theorem HasR8.up {w w' : World} (h : HasR8 w) (n : Below w.heap.size w w') : HasR8 w' := by
  obtain ⟨a0, a1, a2, a3, a4, a5, a6, a7, h0, h1, h2, h3, h4, h5, h6, h7, r⟩ := h
  exact ⟨a0, a1, a2, a3, a4, a5, a6, a7, h0.up n, h1.up n, h2.up n, h3.up n, h4.up n, h5.up n, h6.up n, h7.up n, r⟩
theorem laid_ss {W : World} (h : laidMetH Tryz.prog Rows.fnSealedStreamRow.laid W) : HasR8 W := by
  obtain ⟨x0, y0, h0, k0, e0⟩ := sen_pair h (by kernel_rfl) (n0 := "loop.example/g00004/impl.errNotWhole") (n1 := "loop.example/g00004/impl.errNoKind") (.cons _ (.cons_cons _ (.cons_cons _ (.cons _ (.cons _ (.cons _ (.cons _ (.cons _ (.cons _ (.cons _ (.slnil))))))))))) (g0 := 0) (g1 := 1) (by kernel_rfl) (by kernel_rfl) (by kernel_rfl) (by kernel_rfl)
  obtain ⟨x1, y1, h1, k1, e1⟩ := sen_pair h (by kernel_rfl) (n0 := "loop.example/g00004/impl.errNotWhole") (n1 := "loop.example/g00004/impl.errWrongSize") (.cons _ (.cons_cons _ (.cons _ (.cons_cons _ (.cons _ (.cons _ (.cons _ (.cons _ (.cons _ (.cons _ (.slnil))))))))))) (g0 := 0) (g1 := 5) (by kernel_rfl) (by kernel_rfl) (by kernel_rfl) (by kernel_rfl)
  obtain rfl := Sen.same h0 h1
  obtain ⟨x2, y2, h2, k2, e2⟩ := sen_pair h (by kernel_rfl) (n0 := "loop.example/g00004/impl.errNoKind") (n1 := "loop.example/g00004/impl.errWrongSize") (.cons _ (.cons _ (.cons_cons _ (.cons_cons _ (.cons _ (.cons _ (.cons _ (.cons _ (.cons _ (.cons _ (.slnil))))))))))) (g0 := 1) (g1 := 5) (by kernel_rfl) (by kernel_rfl) (by kernel_rfl) (by kernel_rfl)
  obtain rfl := Sen.same k0 h2
  obtain rfl := Sen.same k1 k2
  obtain ⟨x3, y3, h3, k3, e3⟩ := sen_pair h (by kernel_rfl) (n0 := "loop.example/g00004/impl.errNoKind") (n1 := "loop.example/g00004/impl.errWrongKeys") (.cons _ (.cons _ (.cons_cons _ (.cons _ (.cons_cons _ (.cons _ (.cons _ (.cons _ (.cons _ (.cons _ (.slnil))))))))))) (g0 := 1) (g1 := 4) (by kernel_rfl) (by kernel_rfl) (by kernel_rfl) (by kernel_rfl)
  obtain rfl := Sen.same k0 h3
  obtain ⟨x4, y4, h4, k4, e4⟩ := sen_pair h (by kernel_rfl) (n0 := "loop.example/g00004/impl.errNoKind") (n1 := "loop.example/g00004/impl.errNotOpened") (.cons _ (.cons _ (.cons_cons _ (.cons _ (.cons _ (.cons_cons _ (.cons _ (.cons _ (.cons _ (.cons _ (.slnil))))))))))) (g0 := 1) (g1 := 6) (by kernel_rfl) (by kernel_rfl) (by kernel_rfl) (by kernel_rfl)
  obtain rfl := Sen.same k0 h4
  obtain ⟨x5, y5, h5, k5, e5⟩ := sen_pair h (by kernel_rfl) (n0 := "loop.example/g00004/impl.errNoKind") (n1 := "loop.example/g00004/impl.errAllPad") (.cons _ (.cons _ (.cons_cons _ (.cons _ (.cons _ (.cons _ (.cons_cons _ (.cons _ (.cons _ (.cons _ (.slnil))))))))))) (g0 := 1) (g1 := 7) (by kernel_rfl) (by kernel_rfl) (by kernel_rfl) (by kernel_rfl)
  obtain rfl := Sen.same k0 h5
  obtain ⟨x6, y6, h6, k6, e6⟩ := sen_pair h (by kernel_rfl) (n0 := "loop.example/g00004/impl.errNoKind") (n1 := "loop.example/g00004/impl.errMuchData") (.cons _ (.cons _ (.cons_cons _ (.cons _ (.cons _ (.cons _ (.cons _ (.cons_cons _ (.cons _ (.cons _ (.slnil))))))))))) (g0 := 1) (g1 := 2) (by kernel_rfl) (by kernel_rfl) (by kernel_rfl) (by kernel_rfl)
  obtain rfl := Sen.same k0 h6
  obtain ⟨x7, y7, h7, k7, e7⟩ := sen_pair h (by kernel_rfl) (n0 := "loop.example/g00004/impl.errNoKind") (n1 := "loop.example/g00004/impl.errNoData") (.cons _ (.cons _ (.cons_cons _ (.cons _ (.cons _ (.cons _ (.cons _ (.cons _ (.cons_cons _ (.cons _ (.slnil))))))))))) (g0 := 1) (g1 := 3) (by kernel_rfl) (by kernel_rfl) (by kernel_rfl) (by kernel_rfl)
  obtain rfl := Sen.same k0 h7
  obtain ⟨x8, y8, h8, k8, e8⟩ := sen_pair h (by kernel_rfl) (n0 := "loop.example/g00004/impl.errWrongSize") (n1 := "loop.example/g00004/impl.errWrongKeys") (.cons _ (.cons _ (.cons _ (.cons_cons _ (.cons_cons _ (.cons _ (.cons _ (.cons _ (.cons _ (.cons _ (.slnil))))))))))) (g0 := 5) (g1 := 4) (by kernel_rfl) (by kernel_rfl) (by kernel_rfl) (by kernel_rfl)
  obtain rfl := Sen.same k1 h8
  obtain rfl := Sen.same k3 k8
  obtain ⟨x9, y9, h9, k9, e9⟩ := sen_pair h (by kernel_rfl) (n0 := "loop.example/g00004/impl.errWrongSize") (n1 := "loop.example/g00004/impl.errNotOpened") (.cons _ (.cons _ (.cons _ (.cons_cons _ (.cons _ (.cons_cons _ (.cons _ (.cons _ (.cons _ (.cons _ (.slnil))))))))))) (g0 := 5) (g1 := 6) (by kernel_rfl) (by kernel_rfl) (by kernel_rfl) (by kernel_rfl)
  obtain rfl := Sen.same k1 h9
  obtain rfl := Sen.same k4 k9
  obtain ⟨x10, y10, h10, k10, e10⟩ := sen_pair h (by kernel_rfl) (n0 := "loop.example/g00004/impl.errWrongSize") (n1 := "loop.example/g00004/impl.errAllPad") (.cons _ (.cons _ (.cons _ (.cons_cons _ (.cons _ (.cons _ (.cons_cons _ (.cons _ (.cons _ (.cons _ (.slnil))))))))))) (g0 := 5) (g1 := 7) (by kernel_rfl) (by kernel_rfl) (by kernel_rfl) (by kernel_rfl)
  obtain rfl := Sen.same k1 h10
  obtain rfl := Sen.same k5 k10
  obtain ⟨x11, y11, h11, k11, e11⟩ := sen_pair h (by kernel_rfl) (n0 := "loop.example/g00004/impl.errWrongSize") (n1 := "loop.example/g00004/impl.errMuchData") (.cons _ (.cons _ (.cons _ (.cons_cons _ (.cons _ (.cons _ (.cons _ (.cons_cons _ (.cons _ (.cons _ (.slnil))))))))))) (g0 := 5) (g1 := 2) (by kernel_rfl) (by kernel_rfl) (by kernel_rfl) (by kernel_rfl)
  obtain rfl := Sen.same k1 h11
  obtain rfl := Sen.same k6 k11
  obtain ⟨x12, y12, h12, k12, e12⟩ := sen_pair h (by kernel_rfl) (n0 := "loop.example/g00004/impl.errWrongSize") (n1 := "loop.example/g00004/impl.errNoData") (.cons _ (.cons _ (.cons _ (.cons_cons _ (.cons _ (.cons _ (.cons _ (.cons _ (.cons_cons _ (.cons _ (.slnil))))))))))) (g0 := 5) (g1 := 3) (by kernel_rfl) (by kernel_rfl) (by kernel_rfl) (by kernel_rfl)
  obtain rfl := Sen.same k1 h12
  obtain rfl := Sen.same k7 k12
  obtain ⟨x13, y13, h13, k13, e13⟩ := sen_pair h (by kernel_rfl) (n0 := "loop.example/g00004/impl.errWrongKeys") (n1 := "loop.example/g00004/impl.errNotOpened") (.cons _ (.cons _ (.cons _ (.cons _ (.cons_cons _ (.cons_cons _ (.cons _ (.cons _ (.cons _ (.cons _ (.slnil))))))))))) (g0 := 4) (g1 := 6) (by kernel_rfl) (by kernel_rfl) (by kernel_rfl) (by kernel_rfl)
  obtain rfl := Sen.same k3 h13
  obtain rfl := Sen.same k4 k13
  obtain ⟨x14, y14, h14, k14, e14⟩ := sen_pair h (by kernel_rfl) (n0 := "loop.example/g00004/impl.errWrongKeys") (n1 := "loop.example/g00004/impl.errAllPad") (.cons _ (.cons _ (.cons _ (.cons _ (.cons_cons _ (.cons _ (.cons_cons _ (.cons _ (.cons _ (.cons _ (.slnil))))))))))) (g0 := 4) (g1 := 7) (by kernel_rfl) (by kernel_rfl) (by kernel_rfl) (by kernel_rfl)
  obtain rfl := Sen.same k3 h14
  obtain rfl := Sen.same k5 k14
  obtain ⟨x15, y15, h15, k15, e15⟩ := sen_pair h (by kernel_rfl) (n0 := "loop.example/g00004/impl.errWrongKeys") (n1 := "loop.example/g00004/impl.errMuchData") (.cons _ (.cons _ (.cons _ (.cons _ (.cons_cons _ (.cons _ (.cons _ (.cons_cons _ (.cons _ (.cons _ (.slnil))))))))))) (g0 := 4) (g1 := 2) (by kernel_rfl) (by kernel_rfl) (by kernel_rfl) (by kernel_rfl)
  obtain rfl := Sen.same k3 h15
  obtain rfl := Sen.same k6 k15
  obtain ⟨x16, y16, h16, k16, e16⟩ := sen_pair h (by kernel_rfl) (n0 := "loop.example/g00004/impl.errWrongKeys") (n1 := "loop.example/g00004/impl.errNoData") (.cons _ (.cons _ (.cons _ (.cons _ (.cons_cons _ (.cons _ (.cons _ (.cons _ (.cons_cons _ (.cons _ (.slnil))))))))))) (g0 := 4) (g1 := 3) (by kernel_rfl) (by kernel_rfl) (by kernel_rfl) (by kernel_rfl)
  obtain rfl := Sen.same k3 h16
  obtain rfl := Sen.same k7 k16
  obtain ⟨x17, y17, h17, k17, e17⟩ := sen_pair h (by kernel_rfl) (n0 := "loop.example/g00004/impl.errNotOpened") (n1 := "loop.example/g00004/impl.errAllPad") (.cons _ (.cons _ (.cons _ (.cons _ (.cons _ (.cons_cons _ (.cons_cons _ (.cons _ (.cons _ (.cons _ (.slnil))))))))))) (g0 := 6) (g1 := 7) (by kernel_rfl) (by kernel_rfl) (by kernel_rfl) (by kernel_rfl)
  obtain rfl := Sen.same k4 h17
  obtain rfl := Sen.same k5 k17
  obtain ⟨x18, y18, h18, k18, e18⟩ := sen_pair h (by kernel_rfl) (n0 := "loop.example/g00004/impl.errNotOpened") (n1 := "loop.example/g00004/impl.errMuchData") (.cons _ (.cons _ (.cons _ (.cons _ (.cons _ (.cons_cons _ (.cons _ (.cons_cons _ (.cons _ (.cons _ (.slnil))))))))))) (g0 := 6) (g1 := 2) (by kernel_rfl) (by kernel_rfl) (by kernel_rfl) (by kernel_rfl)
  obtain rfl := Sen.same k4 h18
  obtain rfl := Sen.same k6 k18
  obtain ⟨x19, y19, h19, k19, e19⟩ := sen_pair h (by kernel_rfl) (n0 := "loop.example/g00004/impl.errNotOpened") (n1 := "loop.example/g00004/impl.errNoData") (.cons _ (.cons _ (.cons _ (.cons _ (.cons _ (.cons_cons _ (.cons _ (.cons _ (.cons_cons _ (.cons _ (.slnil))))))))))) (g0 := 6) (g1 := 3) (by kernel_rfl) (by kernel_rfl) (by kernel_rfl) (by kernel_rfl)
  obtain rfl := Sen.same k4 h19
  obtain rfl := Sen.same k7 k19
  obtain ⟨x20, y20, h20, k20, e20⟩ := sen_pair h (by kernel_rfl) (n0 := "loop.example/g00004/impl.errAllPad") (n1 := "loop.example/g00004/impl.errMuchData") (.cons _ (.cons _ (.cons _ (.cons _ (.cons _ (.cons _ (.cons_cons _ (.cons_cons _ (.cons _ (.cons _ (.slnil))))))))))) (g0 := 7) (g1 := 2) (by kernel_rfl) (by kernel_rfl) (by kernel_rfl) (by kernel_rfl)
  obtain rfl := Sen.same k5 h20
  obtain rfl := Sen.same k6 k20
  obtain ⟨x21, y21, h21, k21, e21⟩ := sen_pair h (by kernel_rfl) (n0 := "loop.example/g00004/impl.errAllPad") (n1 := "loop.example/g00004/impl.errNoData") (.cons _ (.cons _ (.cons _ (.cons _ (.cons _ (.cons _ (.cons_cons _ (.cons _ (.cons_cons _ (.cons _ (.slnil))))))))))) (g0 := 7) (g1 := 3) (by kernel_rfl) (by kernel_rfl) (by kernel_rfl) (by kernel_rfl)
  obtain rfl := Sen.same k5 h21
  obtain rfl := Sen.same k7 k21
  obtain ⟨x22, y22, h22, k22, e22⟩ := sen_pair h (by kernel_rfl) (n0 := "loop.example/g00004/impl.errMuchData") (n1 := "loop.example/g00004/impl.errNoData") (.cons _ (.cons _ (.cons _ (.cons _ (.cons _ (.cons _ (.cons _ (.cons_cons _ (.cons_cons _ (.cons _ (.slnil))))))))))) (g0 := 2) (g1 := 3) (by kernel_rfl) (by kernel_rfl) (by kernel_rfl) (by kernel_rfl)
  obtain rfl := Sen.same k6 h22
  obtain rfl := Sen.same k7 k22
  exact ⟨_, _, _, _, _, _, _, _, h0, k0, k1, k3, k4, k5, k6, k7, ⟨⟨e2, e3, e4, e5, e6, e7⟩, ⟨e8, e9, e10, e11, e12⟩, ⟨e13, e14, e15, e16⟩, ⟨e17, e18, e19⟩, ⟨e20, e21⟩, e22⟩, e0, e1⟩
def KD (w : World) (ax : Option Addr) (cx : Nat) (X : List Int) (ay : Option Addr) (cy : Nat) (Y : List Int) : Prop := ∃ gx gy, Rd w gx ax .u8 X ∧ Byt X ∧ X.length ≤ cx ∧ Rd w gy ay .u8 Y ∧ Byt Y ∧ (ay = none → cy = 0)
theorem KD.up {w w' : World} {ax : Option Addr} {cx : Nat} {X : List Int} {ay : Option Addr} {cy : Nat} {Y : List Int} (h : KD w ax cx X ay cy Y) (n : Below w.heap.size w w') : KD w' ax cx X ay cy Y := by
  obtain ⟨gx, gy, h1, h2, h3, h4, h5, h6⟩ := h
  exact ⟨gx, gy, h1.up n, h2, h3, h4.up n, h5, h6⟩
theorem ptC (w : World) (ax : Option Addr) (cx : Nat) (X : List Int) (ay : Option Addr) (cy : Nat) (Y : List Int) (hK : KD w ax cx X ay cy Y) (q k : Int) (v : Value) (ys : List Int) (hd : DR w v ys) (yb : Byt ys) (pad : Int) (hL : HasR8 w) :
    Calls Tryz.prog 9 #[.agg #[.slice ax X.length cx, .slice ay Y.length cy], .int .i64 q, .int .i64 k, v, .int .i64 pad] w fun e w' => ∃ v', e = .returned v' ∧ DR w' v' (prA X Y q k ys pad) ∧ Below w.heap.size w w' := by
  obtain ⟨a, c, g, rfl, r, z, l⟩ := hd
  obtain ⟨gx, gy, x1, x2, x3, y1, y2, y3⟩ := hK
  obtain ⟨a0, a1, a2, a3, a4, a5, a6, a7, h0, h1, h2, h3, h4, h5, h6, h7, -⟩ := hL
  refine (implProtect_any w gx ax cx X x1 x2 x3 gy ay cy Y y1 y2 y3 q k g a c ys r yb z pad a1 a2 a3 a6 a7 h1 h2 h3 h6 h7).mono ?_
  rintro e w' ⟨v, rfl, R, n⟩
  obtain ⟨a, c, g, rfl, r, z, l, -⟩ := R.rd
  exact ⟨_, rfl, ⟨a, c, g, rfl, r, z, l⟩, n⟩
theorem upC (w : World) (ax : Option Addr) (cx : Nat) (X : List Int) (ay : Option Addr) (cy : Nat) (Y : List Int) (hK : KD w ax cx X ay cy Y) (q : Int) (v : Value) (zs : List Int) (hd : DR w v zs) (zb : Byt zs) (lz : zs.length ≤ 1048576) (hL : HasR8 w) :
    Calls Tryz.prog 11 #[.agg #[.slice ax X.length cx, .slice ay Y.length cy], .int .i64 q, v] w fun e w' => ∃ a c, e = .returned (.agg #[.int .i64 (upN X Y q zs), .int .i64 (upK X Y q zs), .slice a (upD X Y q zs).length c]) ∧ DR w' (.slice a (upD X Y q zs).length c) (upD X Y q zs) ∧ Below w.heap.size w w' := by
  obtain ⟨a, c, g, rfl, r, z, l⟩ := hd
  obtain ⟨gx, gy, x1, x2, x3, y1, y2, y3⟩ := hK
  obtain ⟨a0, a1, a2, a3, a4, a5, a6, a7, h0, h1, h2, h3, h4, h5, h6, h7, hD, -⟩ := hL
  refine (implUnprotect_any w gx ax cx X x1 x2 x3 gy ay cy Y y1 y2 y3 q g a c zs r zb l lz a1 a2 a3 a4 a5 a6 a7 h1 h2 h3 h4 h5 h6 h7 hD).mono ?_
  rintro e w' ⟨⟨a, c, g, rfl, o, z, l, -⟩, n⟩
  exact ⟨a, c, rfl, ⟨a, c, g, rfl, o.rd, z, l⟩, n⟩
theorem ctC (w : World) (v : Value) (zs : List Int) (hd : DR w v zs) (zb : Byt zs) (lz : zs.length ≤ 1048576) (hL : HasR8 w) :
    Calls Tryz.prog 10 #[v] w fun e w' => NewC w.heap.size w' e zs ∧ Below w.heap.size w w' := by
  obtain ⟨a, c, g, rfl, r, z, l⟩ := hd
  obtain ⟨a0, a1, a2, a3, a4, a5, a6, a7, h0, h1, h2, h3, h4, h5, h6, h7, ⟨⟨d12, -⟩, -⟩, d01, d02⟩ := hL
  exact implCut_any w g a c zs r zb z l lz a0 a1 a2 h0 h1 h2 d01 d02 d12
theorem DR.ofRowK {w : World} {B : Nat} {v : Value} {xs : List Int} (h : RowB w B v xs) : DR w v xs := by
  obtain ⟨a, c, g, e, r, z, k, -⟩ := h.rd
  exact ⟨a, c, g, e, r, z, k⟩
theorem rd_ne3 {w : World} {g q : Nat} {a : Option Addr} {xs : List Int} {t : TypeId} (h : Rd w g a .u8 xs) (hq : RwC w q [.int .i64 0, .int .i64 0, .slice none 0 0] t) (h0 : 0 < xs.length) : g ≠ q := fun e => by
  subst e
  obtain ⟨off, -, hc⟩ := h h0
  have h1 := hc 0 h0
  have e : w.heap[g]? = some (.cells #[.int .i64 0, .int .i64 0, .slice none 0 0] t) := hq
  rw [cell_of_row w g _ _ _ (0, 0) e] at h1
  match off, h1 with
  | 0, h1 => simp at h1
  | 1, h1 => simp at h1
  | 2, h1 => simp at h1
  | n + 3, h1 => simp at h1
def C10 (wa : World) (k : Int) (ys : List Int) (v : Value) (wc : World) : Prop := ∃ p a c, v = .pointer (some ⟨p, 0, none⟩) ∧ RwC wc p [.int .i64 0, .int .i64 k, .slice a ys.length c] 39 ∧ DR wc (.slice a ys.length c) ys ∧ Below wa.heap.size wa wc
theorem c10_1 {wa wm : World} {k : Int} {ys : List Int} {a : Option Addr} {c : Nat} (n : Below wa.heap.size wa wm) (D : DR wm (.slice a ys.length c) ys) : C10 wa k ys (.pointer (some ⟨wm.heap.size, 0, none⟩)) (wm.alloc (.cells #[.int .i64 0, .int .i64 k, .slice a ys.length c] 39)) := by
  have na : Below wm.heap.size wm (wm.alloc (.cells #[.int .i64 0, .int .i64 k, .slice a ys.length c] 39)) := (Below.refl _ _).alloc (Nat.le_refl _) _
  exact ⟨_, a, c, rfl, RwC.new wm _ _, D.up na, nxt n na⟩
theorem c10_2 {wa wm : World} {k : Int} {ys : List Int} {a : Option Addr} {c q : Nat} (n : Below wa.heap.size wa wm) (D : DR wm (.slice a ys.length c) ys) (Z : RwC wm q [.int .i64 0, .int .i64 0, .slice none 0 0] 39) (hq : wa.heap.size ≤ q) :
    C10 wa k ys (.pointer (some ⟨q, 0, none⟩)) (((wm.setCell ⟨q, 0, none⟩ (.int .i64 0)).setCell ⟨q, 1, none⟩ (.int .i64 k)).setCell ⟨q, 2, none⟩ (.slice a ys.length c)) := by
  have O : Only q wm (((wm.setCell ⟨q, 0, none⟩ (.int .i64 0)).setCell ⟨q, 1, none⟩ (.int .i64 k)).setCell ⟨q, 2, none⟩ (.slice a ys.length c)) := ((Only.setCell _ q 0 _).trans (Only.setCell _ q 1 _)).trans (Only.setCell _ q 2 _)
  have Z' : RwC (((wm.setCell ⟨q, 0, none⟩ (.int .i64 0)).setCell ⟨q, 1, none⟩ (.int .i64 k)).setCell ⟨q, 2, none⟩ (.slice a ys.length c)) q [.int .i64 0, .int .i64 k, .slice a ys.length c] 39 := ((Z.set 0 _).set 1 _).set 2 _
  obtain ⟨a', c', g, e, r, z, l⟩ := D
  injection e with e1 _ e3
  subst e1 e3
  exact ⟨q, a, c, rfl, Z', ⟨a, c, g, rfl, rd_onlyS r O (fun h => rd_ne3 r Z h), z, l⟩, n.trans (O.below hq)⟩
theorem RwC.newDk (w : World) (zs : List Value) (t : TypeId) : RwC (w.drew.alloc (.cells zs.toArray t)) w.heap.size zs t := RwC.new w.drew zs t
end Go.Proofs.YtkpomobhjkikeaaGreatDoor
namespace Go.Proofs.YtkpomobhjkikeaaGreatDoor
set_option maxRecDepth 100000
open Go Go.RowKit
def blC (x : List Int) (q : Plc) : Value := .slice q.a x.length q.c
def blCs : List (List Int) → List Plc → List Value
  | x :: xs, q :: qs => blC x q :: blCs xs qs
  | _, _ => []
theorem blCs_snoc : ∀ (its : List (List Int)) (bs : List Plc) (x : List Int) (q : Plc), bs.length = its.length → blCs (its ++ [x]) (bs ++ [q]) = blCs its bs ++ [blC x q]
  | [], [], x, q, _ => rfl
  | [], _ :: _, _, _, h => by simp at h
  | _ :: _, [], _, _, h => by simp at h
  | y :: its, p :: bs, x, q, h => by
    show blC y p :: blCs (its ++ [x]) (bs ++ [q]) = (blC y p :: blCs its bs) ++ [blC x q]
    rw [blCs_snoc its bs x q (by simpa using h)]
    rfl
theorem blCs_at : ∀ (its : List (List Int)) (bs : List Plc) (i : Nat), bs.length = its.length → i < its.length → (blCs its bs)[i]? = some (.slice (bs.getD i plc0).a (its.getD i []).length (bs.getD i plc0).c)
  | [], _, i, _, hi => by simp at hi
  | _ :: _, [], _, h, _ => by simp at h
  | y :: its, p :: bs, 0, h, hi => rfl
  | y :: its, p :: bs, i + 1, h, hi => by
    show (blCs its bs)[i]? = _
    rw [blCs_at its bs i (by simpa using h) (by simpa using hi)]
    simp
structure BRowP (w : World) (B : Nat) (v : Value) (its : List (List Int)) (bs : List Plc) : Prop where
  o : w.ownsRow B 33 1 v its.length (blCs its bs)
  l : bs.length = its.length
  b : ∀ i, i < its.length → Lie w (its.getD i []) (bs.getD i plc0)
  h : ∀ i, i < its.length → 0 < (its.getD i []).length → B ≤ (bs.getD i plc0).q ∧ v.ownBlock ≠ some (bs.getD i plc0).q
  d : ∀ i j, i < its.length → j < its.length → i ≠ j → 0 < (its.getD i []).length → 0 < (its.getD j []).length → (bs.getD i plc0).q ≠ (bs.getD j plc0).q
theorem bInfo : (Tryz.prog.info? 33).map (fun i => (i.zero, i.size, i.bytes)) = some (some (.agg #[.slice none 0 0]), 1, 24) := by kernel_rfl
theorem bUnd : Tryz.prog.underlying 29 = some (.slice 33) := Tryz.underlying29
theorem BRowP.nil (w : World) (B : Nat) : BRowP w B (.slice none 0 0) [] [] :=
  ⟨⟨rfl, .inl ⟨rfl, rfl⟩⟩, rfl, fun i h => absurd h (by simp), fun i h => absurd h (by simp), fun i j h => absurd h (by simp)⟩
theorem BRowP.lt {w : World} {B : Nat} {v : Value} {its : List (List Int)} {bs : List Plc} (h : BRowP w B v its bs) {i : Nat} (hi : i < its.length) (h0 : 0 < (its.getD i []).length) : (bs.getD i plc0).q < w.heap.size := (h.b i hi).o.rd.lt h0
theorem BRowP.of {w w' : World} {B : Nat} {v : Value} {its : List (List Int)} {bs : List Plc} (h : BRowP w B v its bs) (hb : ∀ k, k < w.heap.size → B ≤ k → w'.heap[k]? = w.heap[k]?) : BRowP w' B v its bs := by
  refine ⟨⟨h.o.1, ?_⟩, h.l, fun i hi => ?_, h.h, h.d⟩
  · rcases h.o.2 with h' | ⟨g, cap, cur, rfl, hbg, hg, hnc, hcm, hcs, ht⟩
    · exact .inl h'
    · exact .inr ⟨g, cap, cur, rfl, hbg, by rw [hb g ((Array.getElem?_eq_some_iff.1 hg).1) hbg]; exact hg, hnc, hcm, hcs, ht⟩
  · exact (h.b i hi).of fun h0 => hb _ (h.lt hi h0) (h.h i hi h0).1
theorem BRowP.app {w : World} {B : Nat} {v : Value} {its : List (List Int)} {bs : List Plc} (h : BRowP w B v its bs) (x : List Int) (q : Plc) (hB : B ≤ w.heap.size) (hq : Lie w x q) (M : Nat) (hBM : B ≤ M) (hM1 : ∀ i, i < its.length → 0 < (its.getD i []).length → (bs.getD i plc0).q < M) (hM2 : ∀ k, v.ownBlock = some k → k < M) (hqM : M ≤ q.q) (hl : its.length ≤ 1048576) :
    ∃ v' w', (Builtin.append_ #[29, 29] 29 #[v, .slice (some ⟨w.heap.size, 0, none⟩) 1 1]).run Tryz.prog (w.alloc (.cells #[.slice q.a x.length q.c] 33)) = .ok v' w' ∧ BRowP w' B v' (its ++ [x]) (bs ++ [q]) ∧ (∀ k, k < w.heap.size → v.ownBlock ≠ some k → w'.heap[k]? = w.heap[k]?) ∧ Below B w w' ∧ (∀ p, p < w.heap.size → v.ownBlock ≠ some p → v'.ownBlock ≠ some p) := by
  obtain ⟨i, hi, hz, hs, hby⟩ := info_parts bInfo
  have na : Below w.heap.size w (w.alloc (.cells #[.slice q.a x.length q.c] 33)) := (Below.refl _ _).alloc (Nat.le_refl _) _
  have h0 : (w.alloc (.cells #[.slice q.a x.length q.c] 33)).ownsRow B 33 1 v its.length (blCs its bs) := h.o.alloc _
  have hcell : ∀ j u, ([blC x q])[j]? = some u → (w.alloc (.cells #[.slice q.a x.length q.c] 33)).cell? ((⟨w.heap.size, 0, none⟩ : Addr).add j) = some u := by
    intro j u hj
    have e : (w.alloc (.cells #[.slice q.a x.length q.c] 33)).heap[w.heap.size]? = some (.cells #[.slice q.a x.length q.c] 33) := heap_alloc_new w _
    rw [Addr.add_mid, Nat.zero_add, cell_of_row _ _ j _ _ (0, 0) e]
    simpa [blC] using hj
  obtain ⟨v', w', h1, h2, h3, h4, h5⟩ := run_append_own_at (P := Tryz.prog) (w.alloc (.cells #[.slice q.a x.length q.c] 33)) B 29 29 33 i (.agg #[.slice none 0 0]) 1 24 bUnd hi hz hs hby rfl (by decide) v its.length (blCs its bs) h0 ⟨w.heap.size, 0, none⟩ 1 1 ([blC x q]) (by simp [blC]) hcell (fun u hu => by
    simp only [blC, List.mem_cons, List.not_mem_nil, or_false] at hu
    subst hu; rfl) (by unfold maxLen; omega) (by omega) (Nat.le_trans hB na.size)
  have z : (w.alloc (.cells #[.slice q.a x.length q.c] 33)).heap.size = w.heap.size + 1 := by simp
  have keep : ∀ k, k < w.heap.size → v.ownBlock ≠ some k → w'.heap[k]? = w.heap[k]? := fun k hk hne => (h3.block k (by omega) (fun e => hne e.symm)).trans (na.block k hk)
  have ob := h.o.lt
  have A1 : ∀ j, j < its.length → (bs ++ [q]).getD j plc0 = bs.getD j plc0 := fun j hj => by
    have : j < bs.length := by rw [h.l]; exact hj
    simp [List.getD, List.getElem?_append_left this]
  have A2 : ∀ j, j < its.length → (its ++ [x]).getD j [] = its.getD j [] := fun j hj => by simp [List.getD, List.getElem?_append_left hj]
  have A3 : (bs ++ [q]).getD its.length plc0 = q := by rw [← h.l]; simp
  have A4 : (its ++ [x]).getD its.length [] = x := by simp
  have hqr : v.ownBlock ≠ some q.q := fun e => by have := hM2 _ e; omega
  have LT : ∀ p, p < w.heap.size → v.ownBlock ≠ some p → v'.ownBlock ≠ some p := fun p hp hn => by
    rcases h5 with h5 | h5
    · rw [h5]; exact hn
    · rw [h5]
      intro e
      have e := Option.some.inj e
      omega
  refine ⟨v', w', h1, ⟨?_, by simp [h.l], fun j hj => ?_, fun j hj h0' => ?_, fun j k hj hk hne hj0 hk0 => ?_⟩, keep, ((Below.refl B w).alloc hB _).grown h3 (by omega) (fun k hk => (ob k hk).1), LT⟩
  · show w'.ownsRow B 33 1 v' (its ++ [x]).length (blCs (its ++ [x]) (bs ++ [q]))
    rw [blCs_snoc its bs x q h.l, List.length_append]
    exact h2
  · by_cases hj' : j < its.length
    · rw [A1 j hj', A2 j hj']
      exact (h.b j hj').of fun h0' => keep _ (h.lt hj' h0') (h.h j hj' h0').2
    · have ej : j = its.length := by simp at hj; omega
      subst ej
      rw [A3, A4]
      exact hq.of fun h0' => keep _ (hq.o.rd.lt h0') hqr
  · by_cases hj' : j < its.length
    · rw [A2 j hj'] at h0'
      rw [A1 j hj']
      exact ⟨(h.h j hj' h0').1, LT _ (h.lt hj' h0') (h.h j hj' h0').2⟩
    · have ej : j = its.length := by simp at hj; omega
      subst ej
      rw [A4] at h0'
      rw [A3]
      exact ⟨by omega, LT _ (hq.o.rd.lt h0') hqr⟩
  · by_cases hj' : j < its.length
    · rw [A2 j hj'] at hj0
      rw [A1 j hj']
      by_cases hk' : k < its.length
      · rw [A2 k hk'] at hk0
        rw [A1 k hk']
        exact h.d j k hj' hk' hne hj0 hk0
      · have ek : k = its.length := by simp at hk; omega
        subst ek
        rw [A3]
        have := hM1 j hj' hj0
        omega
    · have ej : j = its.length := by simp at hj; omega
      subst ej
      have hk' : k < its.length := by simp at hk; omega
      rw [A2 k hk'] at hk0
      rw [A1 k hk', A3]
      have := hM1 k hk' hk0
      omega
theorem BRowP.cells {w : World} {B : Nat} {v : Value} {its : List (List Int)} {bs : List Plc} (h : BRowP w B v its bs) (h0 : 0 < its.length) : ∃ g c, v = .slice (some ⟨g, 0, none⟩) its.length c ∧ B ≤ g ∧ g < w.heap.size ∧ v.ownBlock = some g ∧ (∀ i, i < its.length → w.cell? ⟨g, i, none⟩ = some (.slice (bs.getD i plc0).a (its.getD i []).length (bs.getD i plc0).c)) := by
  rcases h.o.2 with ⟨_, h'⟩ | ⟨g, cap, cur, rfl, hb, hg, hnc, hcm, hcs, ht⟩
  · omega
  · refine ⟨g, cap, rfl, hb, (Array.getElem?_eq_some_iff.1 hg).1, rfl, fun i hi => ?_⟩
    rw [cell_of_row w g _ cur _ (0, 0) hg]
    have : (cur.toList.take (its.length * 1))[i]? = (blCs its bs)[i]? := by rw [ht]
    rw [List.getElem?_take, if_pos (by omega), blCs_at its bs i h.l hi] at this
    simpa using this
theorem BRowP.slice {w : World} {B : Nat} {v : Value} {its : List (List Int)} {bs : List Plc} (h : BRowP w B v its bs) : ∃ a c, v = .slice a its.length c ∧ (a = none → c = 0) := by
  rcases h.o.2 with ⟨h1, h'⟩ | ⟨g, cap, cur, rfl, hb, hg, hnc, hcm, hcs, ht⟩
  · exact ⟨none, 0, by rw [h1, h'], fun _ => rfl⟩
  · exact ⟨_, cap, rfl, fun e => by cases e⟩
structure NoB (p : Nat) (v : Value) (its : List (List Int)) (bs : List Plc) : Prop where
  o : v.ownBlock ≠ some p
  b : ∀ i, i < its.length → 0 < (its.getD i []).length → (bs.getD i plc0).q ≠ p
theorem NoB.nil (p : Nat) : NoB p (.slice none 0 0) [] [] := ⟨(fun e => nomatch e), fun i h => absurd h (by simp)⟩
theorem BRowP.ofN {w w' : World} {B p : Nat} {v : Value} {its : List (List Int)} {bs : List Plc} (h : BRowP w B v its bs) (np : NoB p v its bs) (hb : ∀ k, k < w.heap.size → B ≤ k → k ≠ p → w'.heap[k]? = w.heap[k]?) : BRowP w' B v its bs := by
  refine ⟨⟨h.o.1, ?_⟩, h.l, fun i hi => ?_, h.h, h.d⟩
  · rcases h.o.2 with h' | ⟨g, cap, cur, rfl, hbg, hg, hnc, hcm, hcs, ht⟩
    · exact .inl h'
    · exact .inr ⟨g, cap, cur, rfl, hbg, by rw [hb g ((Array.getElem?_eq_some_iff.1 hg).1) hbg (fun e => np.o (by rw [e]; rfl))]; exact hg, hnc, hcm, hcs, ht⟩
  · exact (h.b i hi).of fun h0 => hb _ (h.lt hi h0) (h.h i hi h0).1 (np.b i hi h0)
theorem NoB.app {p : Nat} {v v' : Value} {its : List (List Int)} {bs : List Plc} (h : NoB p v its bs) (l : bs.length = its.length) (ho : v'.ownBlock ≠ some p) (x : List Int) (q : Plc) (hq : q.q ≠ p) : NoB p v' (its ++ [x]) (bs ++ [q]) := by
  refine ⟨ho, fun j hj h0 => ?_⟩
  by_cases hj' : j < its.length
  · have A1 : (bs ++ [q]).getD j plc0 = bs.getD j plc0 := by
      have : j < bs.length := by rw [l]; exact hj'
      simp [List.getD, List.getElem?_append_left this]
    have A2 : (its ++ [x]).getD j [] = its.getD j [] := by simp [List.getD, List.getElem?_append_left hj']
    rw [A2] at h0
    rw [A1]
    exact h.b j hj' h0
  · have ej : j = its.length := by simp at hj; omega
    subst ej
    rw [← l]
    simpa using hq
theorem BRowP.base {w : World} {B C : Nat} {v : Value} {its : List (List Int)} {bs : List Plc} (R : BRowP w B v its bs) (hC : C ≤ B) : BRowP w C v its bs :=
  ⟨⟨R.o.1, by
      rcases R.o.2 with h' | ⟨g, cap, cur, e1, hbg, h3⟩
      · exact .inl h'
      · exact .inr ⟨g, cap, cur, e1, by omega, h3⟩⟩, R.l, R.b, fun i hi h0 => ⟨by have := (R.h i hi h0).1; omega, (R.h i hi h0).2⟩, R.d⟩
end Go.Proofs.YtkpomobhjkikeaaGreatDoor
namespace Go.Proofs.YtkpomobhjkikeaaGreatDoor
set_option maxRecDepth 100000
open Go Go.RowKit
def pce (xs : List Int) (k : Nat) : List Int := (xs.drop (2048 * k)).take 2048
def pces (xs : List Int) (n : Nat) : List (List Int) := (List.range n).map (pce xs)
theorem pces_snoc (xs : List Int) (n : Nat) : pces xs (n + 1) = pces xs n ++ [pce xs n] := by simp [pces, List.range_succ]
theorem pces_len (xs : List Int) (n : Nat) : (pces xs n).length = n := by simp [pces]
theorem pce_len (xs : List Int) (k : Nat) : (pce xs k).length = min 2048 (xs.length - 2048 * k) := by simp [pce]
def pcN (xs : List Int) : Nat := (xs.length + 2047) / 2048
def NewBP (B : Nat) (w' : World) (e : Ending) (xs : List Int) : Prop := ∃ v bs, e = .returned v ∧ BRowP w' B v (pces xs (pcN xs)) bs
theorem BRowP.lit0 (w : World) : BRowP (w.alloc (.cells #[] 33)) w.heap.size (.slice (some ⟨w.heap.size, 0, none⟩) 0 0) [] [] :=
  ⟨⟨rfl, .inr ⟨w.heap.size, 0, #[], rfl, Nat.le_refl _, heap_alloc_new w _, Nat.le_refl _, by unfold maxLen; omega, rfl, rfl⟩⟩, rfl, fun i h => absurd h (by simp), fun i h => absurd h (by simp), fun i j h => absurd h (by simp)⟩
theorem rd_pce {w : World} {g o : Nat} {xs : List Int} (h : Rd w g (some ⟨g, o, none⟩) .u8 xs) (k : Nat) : Rd w g (some ⟨g, o + 2048 * k, none⟩) .u8 (pce xs k) := by
  intro h0
  rw [pce_len] at h0
  obtain ⟨o', e, hc⟩ := h (by omega)
  simp only [Option.some.injEq, Addr.mk.injEq, true_and, and_true] at e
  subst e
  refine ⟨o + 2048 * k, rfl, fun i hi => ?_⟩
  rw [pce_len] at hi
  rw [Nat.add_assoc, hc (2048 * k + i) (by omega), pce, List.getD_eq_getElem?_getD, List.getD_eq_getElem?_getD, List.getElem?_take, if_pos (by omega), List.getElem?_drop]
end Go.Proofs.YtkpomobhjkikeaaGreatDoor
namespace Go.Proofs.YtkpomobhjkikeaaGreatDoor
set_option maxRecDepth 100000
open Go Go.RowKit
def ssR (K V : List Int) (xs : List Int) (pd : Nat → Int) (n : Nat) : List (Int × List Int) := (List.range n).map fun i : Nat => ((23 : Int), sdP K V (i : Int) 23 (pce xs i) (pd i))
theorem ssR_succ (K V : List Int) (xs : List Int) (pd : Nat → Int) (n : Nat) : ssR K V xs pd (n + 1) = ssR K V xs pd n ++ [(23, sdP K V (n : Int) 23 (pce xs n) (pd n))] := by simp [ssR, List.range_succ]
theorem ssR_len (K V : List Int) (xs : List Int) (pd : Nat → Int) (n : Nat) : (ssR K V xs pd n).length = n := by simp [ssR]
theorem ssR_get (K V : List Int) (xs : List Int) (pd : Nat → Int) (n i : Nat) (hi : i < n) : (ssR K V xs pd n).getD i (0, []) = (23, sdP K V (i : Int) 23 (pce xs i) (pd i)) := by
  simp [ssR, List.getD, hi]
theorem byt_pce {xs : List Int} (h : Byt xs) (k : Nat) : Byt (pce xs k) := fun i => by
  unfold pce
  rw [List.getD_eq_getElem?_getD, List.getElem?_take]
  split
  · rw [List.getElem?_drop, ← List.getD_eq_getElem?_getD]
    exact h _
  · simp
theorem pces_flat (xs : List Int) : ∀ n, (pces xs n).flatten = xs.take (2048 * n)
  | 0 => by simp [pces]
  | n + 1 => by
    rw [pces_snoc, List.flatten_append, pces_flat xs n, show 2048 * (n + 1) = 2048 * n + 2048 by omega, List.take_add]
    simp [pce]
theorem pces_all (xs : List Int) : (pces xs (pcN xs)).flatten = xs := by
  rw [pces_flat, List.take_of_length_le]
  unfold pcN
  omega
structure SsP (K V xs : List Int) (pd : Nat → Int) (n : Nat) : Prop where
  ok : ∀ i, i < n → okP K V (i : Int) 23 (pce xs i).length (pd i)
  b : Byt xs
theorem ss_ok {K V xs : List Int} {pd : Nat → Int} {n : Nat} (hK : K.length = 32) (hV : V.length = 12) (hb : Byt xs) (hn : n ≤ pcN xs) (h1 : n ≤ 1000) (hp : ∀ i, i < n → 0 ≤ pd i ∧ pd i ≤ 256) : SsP K V xs pd n := by
  refine ⟨fun i hi => ?_, hb⟩
  have hr : (rnA V (i : Int)).length = 12 := by
    unfold rnA
    rw [if_pos ⟨hV, by omega, by omega⟩, nzT_len]
    omega
  have hl := pce_len xs i
  have hm : 2048 * i < xs.length := by unfold pcN at hn; omega
  refine ⟨⟨hK, hr⟩, ?_, (hp i hi).1, (hp i hi).2⟩
  refine ⟨rfl, ?_, ?_⟩
  · show _ ≤ _
    omega
  · intro _
    omega
theorem prA_is {K V : List Int} {q k : Int} {xs : List Int} {pad : Int} (h : okP K V q k xs.length pad) (hb : Byt xs) : prA K V q k xs pad = enA 23 (sdP K V q k xs pad) ∧ gdR (23, sdP K V q k xs pad) := by
  have hf : fitK K (rnA V q) = true := by unfold fitK; simp [h.1.1, h.1.2]
  have sl : (sdP K V q k xs pad).length = xs.length + pad.toNat + 17 := by
    have := (opT_seA (ex := hdL 23 (szP xs.length pad)) (plain := inL k xs pad.toNat) hf).2.2
    unfold sdP
    rw [this, inL_len]
    omega
  have sb := (rec_back h hb).2.2.2.2.2.2.2.1
  have hn := h.2.1.2.1
  have p0 := h.2.2.1
  have p1 := h.2.2.2
  have g : gdR (23, sdP K V q k xs pad) := ⟨rfl, by show 1 ≤ (sdP K V q k xs pad).length; omega, by show (sdP K V q k xs pad).length ≤ 2321; omega, sb⟩
  refine ⟨?_, g⟩
  have sz : szP xs.length pad = ((sdP K V q k xs pad).length : Int) := by
    rw [sl]
    unfold szP
    omega
  unfold prA
  rw [if_pos h]
  show hdL 23 (szP xs.length pad) ++ sdP K V q k xs pad = enA 23 (sdP K V q k xs pad)
  unfold enA
  rw [if_pos ⟨rfl, g.2.1, g.2.2.1⟩, sz]
theorem flR_bytS : ∀ (rs : List (Int × List Int)), (∀ r ∈ rs, gdR r) → Byt (flR rs)
  | [], _ => fun i => by simp [flR]
  | r :: rs, h => by
    have g := h r (List.mem_cons_self ..)
    show Byt (enA r.1 r.2 ++ flR rs)
    rw [enA_is g]
    have l := g.2.2.1
    have k : r.1 = 21 ∨ r.1 = 22 ∨ r.1 = 23 := isK_rng g.1
    refine byt_app (byt_app (fun i => ?_) g.2.2.2) (flR_bytS rs fun x hx => h x (List.mem_cons_of_mem _ hx))
    match i with
    | 0 => exact ⟨by simp; omega, by simp; omega⟩
    | 1 => exact ⟨by simp; omega, by simp; omega⟩
    | 2 => exact ⟨by simp; omega, by simp; omega⟩
    | n + 3 => exact ⟨by simp, by simp⟩
theorem flR_lenS : ∀ (rs : List (Int × List Int)), (∀ r ∈ rs, gdR r) → (flR rs).length ≤ 2324 * rs.length
  | [], _ => by simp [flR]
  | r :: rs, h => by
    have g := h r (List.mem_cons_self ..)
    have e := enA_ln g
    have l := g.2.2.1
    have := flR_lenS rs fun x hx => h x (List.mem_cons_of_mem _ hx)
    show (enA r.1 r.2 ++ flR rs).length ≤ _
    rw [List.length_append, List.length_cons, e]
    omega
theorem SsP.good {K V xs : List Int} {pd : Nat → Int} {n : Nat} (S : SsP K V xs pd n) : ∀ r ∈ ssR K V xs pd n, gdR r := fun r hr => by
  unfold ssR at hr
  obtain ⟨i, hi, rfl⟩ := List.mem_map.1 hr
  exact (prA_is (S.ok i (List.mem_range.1 hi)) (byt_pce S.b i)).2
theorem SsP.step {K V xs : List Int} {pd : Nat → Int} {n k : Nat} (S : SsP K V xs pd n) (hk : k < n) : flR (ssR K V xs pd (k + 1)) = flR (ssR K V xs pd k) ++ prA K V (k : Int) 23 (pce xs k) (pd k) := by
  rw [ssR_succ, flR_append, (prA_is (S.ok k hk) (byt_pce S.b k)).1]
  simp [flR]
theorem SsP.le {K V xs : List Int} {pd : Nat → Int} {n k : Nat} (S : SsP K V xs pd n) (hk : k ≤ n) : SsP K V xs pd k := ⟨fun i hi => S.ok i (by omega), S.b⟩
theorem SsP.len {K V xs : List Int} {pd : Nat → Int} {n k : Nat} (S : SsP K V xs pd n) (hk : k ≤ n) : (flR (ssR K V xs pd k)).length ≤ 2324 * k := by
  have := flR_lenS _ (S.le hk).good
  rwa [ssR_len] at this
theorem SsP.byt {K V xs : List Int} {pd : Nat → Int} {n k : Nat} (S : SsP K V xs pd n) (hk : k ≤ n) : Byt (flR (ssR K V xs pd k)) := flR_bytS _ (S.le hk).good
theorem SsP.cut {K V xs : List Int} {pd : Nat → Int} {n : Nat} (S : SsP K V xs pd n) : cutR (flR (ssR K V xs pd n)) = ssR K V xs pd n ∧ cutC (flR (ssR K V xs pd n)) = 0 ∧ cutL (flR (ssR K V xs pd n)) = [] :=
  cut_flR (S.byt (Nat.le_refl n)) _ [] (by simp) S.good rcT_nil
theorem SsP.back {K V xs : List Int} {pd : Nat → Int} {n k : Nat} (S : SsP K V xs pd n) (hk : k < n) : upN K V (k : Int) (sdP K V (k : Int) 23 (pce xs k) (pd k)) = 0 ∧ upK K V (k : Int) (sdP K V (k : Int) 23 (pce xs k) (pd k)) = 23 ∧ upD K V (k : Int) (sdP K V (k : Int) 23 (pce xs k) (pd k)) = pce xs k ∧ Byt (sdP K V (k : Int) 23 (pce xs k) (pd k)) ∧ (sdP K V (k : Int) 23 (pce xs k) (pd k)).length ≤ 2321 := by
  have r := (rec_back (S.ok k hk) (byt_pce S.b k)).2.2.2.2
  exact ⟨r.1, r.2.1, r.2.2.1, r.2.2.2.1, r.2.2.2.2.1⟩
end Go.Proofs.YtkpomobhjkikeaaGreatDoor
namespace Go.Proofs.YtkpomobhjkikeaaGreatDoor
set_option maxRecDepth 100000
def okB (c : UInt8) : Bool := (decide (97 ≤ (c.toNat : Int)) && decide ((c.toNat : Int) ≤ 122)) || (decide (48 ≤ (c.toNat : Int)) && decide ((c.toNat : Int) ≤ 57)) || decide ((c.toNat : Int) = 45)
def bad (l : List UInt8) : Bool := l.any fun c => !okB c
def lbFz (l : List UInt8) : Int := if l.length = 0 then 2 else if 63 < l.length then 3 else if bad l = true then 4 else if ((l.getD 0 0).toNat : Int) = 45 ∨ ((l.getD (l.length - 1) 0).toNat : Int) = 45 then 5 else 0
def ff : List (List UInt8) → Int
  | [] => 0
  | l :: ls => if lbFz l = 0 then ff ls else lbFz l
def stp (p : List (List UInt8) × List UInt8) (c : UInt8) : List (List UInt8) × List UInt8 := if (c.toNat : Int) = 46 then (p.1 ++ [p.2], []) else (p.1, p.2 ++ [c])
def lst (l : List UInt8) : List (List UInt8) × List UInt8 := l.foldl stp ([], [])
def tx (l : List UInt8) : Value := .string ⟨⟨l⟩⟩
end Go.Proofs.YtkpomobhjkikeaaGreatDoor
namespace Go.Proofs.YtkpomobhjkikeaaGreatDoor
set_option maxRecDepth 100000
open Go Go.RowKit
end Go.Proofs.YtkpomobhjkikeaaGreatDoor
namespace Go.Proofs.YtkpomobhjkikeaaGreatDoor
set_option maxRecDepth 100000
open Go Go.RowKit
end Go.Proofs.YtkpomobhjkikeaaGreatDoor
namespace Go.Proofs.YtkpomobhjkikeaaGreatDoor
set_option maxRecDepth 100000
open Go Go.RowKit
def RowT (w : World) (base : Nat) (v : Value) (ls : List (List UInt8)) : Prop := w.ownsRow base 9 1 v ls.length (ls.map tx)
theorem RowT.cells {w : World} {base : Nat} {v : Value} {ls : List (List UInt8)} (h : RowT w base v ls) (h0 : 0 < ls.length) : ∃ g c, v = .slice (some ⟨g, 0, none⟩) ls.length c ∧ base ≤ g ∧ g < w.heap.size ∧ (∀ i, i < ls.length → w.cell? ⟨g, i, none⟩ = some (tx (ls.getD i []))) ∧ ∀ i, w.frozen? ⟨g, i, none⟩ = false := by
  rcases h.2 with ⟨_, h'⟩ | ⟨g, cap, cur, rfl, hb, hg, hnc, hcm, hcs, ht⟩
  · omega
  · refine ⟨g, cap, rfl, hb, (Array.getElem?_eq_some_iff.1 hg).1, fun i hi => ?_, fun i => frozen_of_row w g i cur 9 hg⟩
    rw [cell_of_row w g i cur 9 (0, 0) hg]
    have : (cur.toList.take (ls.length * 1))[i]? = (ls.map tx)[i]? := by rw [ht]
    rw [List.getElem?_take, if_pos (by omega)] at this
    simpa [hi] using this
theorem RowT.up {w w' : World} {base : Nat} {v : Value} {ls : List (List UInt8)} (h : RowT w base v ls) (hb : Below w.heap.size w w') : RowT w' base v ls := by
  refine ⟨h.1, ?_⟩
  rcases h.2 with h' | ⟨g, cap, cur, rfl, hbg, hg, hnc, hcm, hcs, ht⟩
  · exact .inl h'
  · exact .inr ⟨g, cap, cur, rfl, hbg, by rw [hb.block g ((Array.getElem?_eq_some_iff.1 hg).1)]; exact hg, hnc, hcm, hcs, ht⟩
end Go.Proofs.YtkpomobhjkikeaaGreatDoor
namespace Go.Proofs.YtkpomobhjkikeaaGreatDoor
set_option maxRecDepth 100000
open Go Go.RowKit
end Go.Proofs.YtkpomobhjkikeaaGreatDoor
namespace Go.Proofs.YtkpomobhjkikeaaGreatDoor
set_option maxRecDepth 100000
open Go Go.RowKit
end Go.Proofs.YtkpomobhjkikeaaGreatDoor
namespace Go.Proofs.YtkpomobhjkikeaaGreatDoor
set_option maxRecDepth 100000
open Go Go.RowKit
end Go.Proofs.YtkpomobhjkikeaaGreatDoor
namespace Go.Proofs.YtkpomobhjkikeaaGreatDoor
set_option maxRecDepth 100000
open Go
end Go.Proofs.YtkpomobhjkikeaaGreatDoor
namespace Go.Proofs.YtkpomobhjkikeaaGreatDoor
set_option maxRecDepth 100000
open Go Go.RowKit
end Go.Proofs.YtkpomobhjkikeaaGreatDoor
namespace Go.Proofs.YtkpomobhjkikeaaGreatDoor
set_option maxRecDepth 100000
open Go Go.RowKit
end Go.Proofs.YtkpomobhjkikeaaGreatDoor
namespace Go.Proofs.YtkpomobhjkikeaaGreatDoor
set_option maxRecDepth 100000
open Go Go.RowKit
end Go.Proofs.YtkpomobhjkikeaaGreatDoor
namespace Go.Proofs.YtkpomobhjkikeaaGreatDoor
set_option maxRecDepth 100000
open Go Go.RowKit
end Go.Proofs.YtkpomobhjkikeaaGreatDoor
