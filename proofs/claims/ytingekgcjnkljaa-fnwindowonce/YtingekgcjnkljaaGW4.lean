import Derived.Test.YtingekgcjnkljaaGW3
import Derived.Deep.MidRow
import Derived.Test.YtingekgcjnkljaaGW2
import Derived.Deep.QuietTactic
import Derived.BigQuiet
import Derived.Test.YtingekgcjnkljaaGW1
import Derived.Maps.AppendAt
import Derived.Deep.DeepCutAuto

/-
  Regions by facts: values that are known, calls that only read. (The steps are written by regv.py.)
-/
namespace Go.Proofs.Ytingekgcjnkljaa
open Go Go.RowKit

theorem gdv {a : Act} {p : Nat} {v : Value} (h : a.tmps.getD p undef = v) : a.tmps[p]?.getD undef = v := by rw [← h]; simp

section
variable {P : Program} {ops : Array Oper} {Q : Exit → Act → World → Prop} {md : Region.Mode} {F : Nat → Fact} {a0 : Act} {w0 : World}
theorem step_callv {i : Nat} {o : Oper} (hi : ops[i]? = some o) (n : FuncId) (args : Array Operand) (ts : Array TypeId) (hop : o.op = .call { callee := .value (.func n), args := args, argTypes := ts }) (he : enters P n = true)
    (G : ∀ a w, Based ops a0 a → Below w0.heap.size w0 w → Facts md ops F i a w → Calls P n (args.toList.map a.eval).toArray w fun e w' => ∃ v, e = .returned v ∧ Below w.heap.size w w' ∧ (F i).p v w') : StepOk P md ops Q F a0 w0 i := by
  intro o' ho' a w hb hw hf K hK
  obtain rfl := Option.some.inj (hi.symm.trans ho')
  have hr : (execOp a.eval o).run P w = .ok (.enter n (args.map a.eval)) w := by
    have h0 : (Deferred.ofValue (Value.func (Fn.func n) #[] #[]) (args.map a.eval)).run P w = .ok { target := .fn (.func n) #[], args := args.map a.eval } w := by simp [Deferred.ofValue]
    simp [execOp, hop, resolve, invoke, Act.eval, h0, run_enter he]
  have e : args.map a.eval = (args.toList.map a.eval).toArray := by cases args; simp
  unfold Oper.wp
  rw [hr, e, Oper.upon_enter]
  refine (G a w hb hw hf).mono ?_
  rintro e w' ⟨v, rfl, hn, hv⟩
  exact hK v w' hn hv
/-- A region that ends with the storing of a row of known cells, at a place that is known. -/
theorem region_put {id : Nat} {draw : Bool} {w : World} (k jD jV pD pV : Nat) (o : Oper) (F : Nat → Fact) (q off : Nat) (ty : TypeId) (cells : List Value) (hm : P.follows .mixedOrders = true) (hT : textOk .any ops a0.tmps.size k = true) (hk : ops[k]? = some o) (hd : o.dst = none)
    (hop : o.op = .store ty (.tmp pD) (.tmp pV)) (wD : writes ops jD pD = true) (FD : F jD = Fact.eq (.pointer (some ⟨q, off, none⟩))) (wV : writes ops jV pV = true) (FV : F jV = Fact.eq (.agg cells.toArray))
    (hth : ∀ W, Below w.heap.size w W → W.there q off cells.length) (hi : (P.info? ty).map (·.size) = some cells.length) (h1 : cells.toArray.all (·.oneCell') = true) (steps : ∀ i, i < k → StepOk P .any ops Q F a0 w i)
    (fin : ∀ (vs : Nat → Value) (W : World), Below w.heap.size w W → Q .normal (puts vs a0 ops.toList) (W.setCells q off cells)) : (Code.region id ops draw).wp P Q a0 w := by
  refine region_store k o F hm hT hk hd steps fun a W hb hw hF => ?_
  have e1 := hF jD pD wD
  have e2 := hF jV pV wV
  rw [FD] at e1
  rw [FV] at e2
  refine wp_store_mid ty (.tmp pD) (.tmp pV) hop q off cells.toArray e1 e2 (by rw [List.size_toArray]; exact hth W hw) (by rw [List.size_toArray]; exact hi) h1 ?_
  obtain ⟨vs, hvs⟩ : ∃ vs : Nat → Value, ∀ d, a.tmps.getD d undef = vs d := ⟨_, fun _ => rfl⟩
  rw [hd]
  show Q .normal a _
  rw [puts_of hT rfl hb vs hvs]
  exact fin vs W hw
end
end Go.Proofs.Ytingekgcjnkljaa

/-
  The laws' helpers on rows of marks: copied, held against each other, counted.
-/
namespace Go.Proofs.Ytingekgcjnkljaa
open Go Go.RowKit

theorem infoMk : (Try.prog.info? 36).map (fun i => (i.zero, i.size, i.bytes)) = some (some (.agg #[.slice none 0 0, .int .i64 0]), 2, 32) := by kernel_rfl
theorem RwC.of_made2 {w : World} {base g n : Nat} {t : TypeId} {xs : List Value} (h : w.ownsRow base t 2 (.slice (some ⟨g, 0, none⟩) n n) n xs) : ∃ vs : List Value, vs.length = n * 2 ∧ RwC w g vs t := by
  rcases h.2 with ⟨h', _⟩ | ⟨g', cap', cur, h', _, hg, _, _, hcs, htake⟩
  · simp at h'
  · simp only [Value.slice.injEq, Option.some.injEq, Addr.mk.injEq, and_true, true_and] at h'
    obtain ⟨rfl, rfl⟩ := h'
    exact ⟨cur.toList, by rw [Array.length_toList, hcs], by show _ = _; rw [hg]⟩
theorem pick_listK {P : Nat → Nat → Prop} : ∀ n, (∀ j, j < n → ∃ G, P j G) → ∃ Gs : List Nat, ∀ j, j < n → P j (Gs.getD j 0)
  | 0, _ => ⟨[], fun j hj => absurd hj (by omega)⟩
  | n + 1, h => by
    obtain ⟨Gs, hG⟩ := pick_listK (P := P) n (fun j hj => h j (by omega))
    obtain ⟨G, hn⟩ := h n (by omega)
    refine ⟨(List.range n).map (fun j => Gs.getD j 0) ++ [G], fun j hj => ?_⟩
    by_cases e : j < n
    · have : ((List.range n).map (fun j => Gs.getD j 0) ++ [G]).getD j 0 = Gs.getD j 0 := by
        rw [List.getD_eq_getElem?_getD, List.getElem?_append_left (by simpa using e)]
        simp [e]
      rw [this]
      exact hG j e
    · obtain rfl : j = n := by omega
      have : ((List.range j).map (fun i => Gs.getD i 0) ++ [G]).getD j 0 = G := by
        rw [List.getD_eq_getElem?_getD, List.getElem?_append_right (by simp)]
        simp
      rw [this]
      exact hn
/-- A new row of marks, the first k of them laid. -/
def RowK2 (B : Nat) (wr : World) (g : Nat) (ms : List Mrk) (k : Nat) (vs : List Value) : Prop := vs.length = ms.length * 2 ∧ RwC wr g vs 36 ∧ ∀ j, j < k → ∃ G, (vs[j * 2]? = some (.slice (some ⟨G, 0, none⟩) (ms.getD j mrk0).id.length (ms.getD j mrk0).id.length) ∧ vs[j * 2 + 1]? = some (.int .i64 (ms.getD j mrk0).un)) ∧ Blk wr G .u8 (ms.getD j mrk0).id ∧ B < G
theorem RowK2.step {B g k : Nat} {wr w1 : World} {ms : List Mrk} {vs : List Value} (h : RowK2 B wr g ms k vs) (hk : k < ms.length) (hg : g ≤ B) (n : Below wr.heap.size wr w1) {G : Nat} (hG : B < G) (b : Blk w1 G .u8 (ms.getD k mrk0).id) :
    RowK2 B (w1.setCells g (k * 2) [.slice (some ⟨G, 0, none⟩) (ms.getD k mrk0).id.length (ms.getD k mrk0).id.length, .int .i64 (ms.getD k mrk0).un]) g ms (k + 1) ((vs.set (k * 2) (.slice (some ⟨G, 0, none⟩) (ms.getD k mrk0).id.length (ms.getD k mrk0).id.length)).set (k * 2 + 1) (.int .i64 (ms.getD k mrk0).un)) := by
  obtain ⟨h1, h2, h3⟩ := h
  have O := only_setG w1 g [.slice (some ⟨G, 0, none⟩) (ms.getD k mrk0).id.length (ms.getD k mrk0).id.length, .int .i64 (ms.getD k mrk0).un] (k * 2)
  refine ⟨by simpa using h1, ((h2.up n).set (k * 2) _).set (k * 2 + 1) _, fun j hj => ?_⟩
  by_cases e : j = k
  · subst e
    refine ⟨G, ⟨?_, ?_⟩, b.of_block (O.block G (by omega)), hG⟩
    · rw [List.getElem?_set_ne (by omega), List.getElem?_set_self (by omega)]
    · rw [List.getElem?_set_self (by rw [List.length_set]; omega)]
  · obtain ⟨G', ⟨e1, e2⟩, b1, l1⟩ := h3 j (by omega)
    refine ⟨G', ⟨?_, ?_⟩, (b1.up n).of_block (O.block G' (by omega)), l1⟩
    · rw [List.getElem?_set_ne (by omega), List.getElem?_set_ne (by omega)]; exact e1
    · rw [List.getElem?_set_ne (by omega), List.getElem?_set_ne (by omega)]; exact e2
theorem RowK2.rd {B g : Nat} {wr : World} {ms : List Mrk} {vs : List Value} (h : RowK2 B wr g ms ms.length vs) : ∃ ps, RdK wr g (some ⟨g, 0, none⟩) ms ps ∧ ∀ i, i < ms.length → B < (ps.getD i plm0).q := by
  obtain ⟨h1, h2, h3⟩ := h
  obtain ⟨Gs, hG⟩ := pick_listK ms.length h3
  have e : ∀ i, i < ms.length → ((List.range ms.length).map fun j => (⟨some ⟨Gs.getD j 0, 0, none⟩, (ms.getD j mrk0).id.length, Gs.getD j 0⟩ : Plm)).getD i plm0 = ⟨some ⟨Gs.getD i 0, 0, none⟩, (ms.getD i mrk0).id.length, Gs.getD i 0⟩ := fun i hi => by
    rw [List.getD_eq_getElem?_getD]
    simp [hi]
  refine ⟨(List.range ms.length).map fun j => ⟨some ⟨Gs.getD j 0, 0, none⟩, (ms.getD j mrk0).id.length, Gs.getD j 0⟩, ⟨fun _ => ⟨0, rfl, fun i hi => ⟨?_, ?_⟩⟩, fun i hi => ?_⟩, fun i hi => ?_⟩
  · rw [Nat.zero_add, h2.cell, e i hi]
    exact (hG i hi).1.1
  · rw [Nat.zero_add, h2.cell]
    exact (hG i hi).1.2
  · rw [e i hi]
    exact (hG i hi).2.1.own0.rd
  · rw [e i hi]
    exact (hG i hi).2.2
theorem range_two {w : World} {g o : Nat} {v u : Value} (h : w.cell? ⟨g, o, none⟩ = some v) (h' : w.cell? ⟨g, o + 1, none⟩ = some u) : w.rangeAt g o [v, u] := fun j x hj => by
  match j, hj with
  | 0, hj =>
    rw [Nat.add_zero]
    simp only [List.getElem?_cons_zero, Option.some.injEq] at hj
    rw [← hj]
    exact h
  | 1, hj =>
    simp only [List.getElem?_cons_succ, List.getElem?_cons_zero, Option.some.injEq] at hj
    rw [← hj]
    exact h'
  | j + 2, hj => simp at hj
def sumK (ms : List Mrk) : Nat := ms.foldr (fun l s => l.id.length + s) 0
theorem sumK_app (x y : List Mrk) : sumK (x ++ y) = sumK x + sumK y := by
  induction x with
  | nil => simp [sumK]
  | cons a x ih => show a.id.length + sumK (x ++ y) = a.id.length + sumK x + sumK y; rw [ih]; omega
theorem sumK_take {ls : List Mrk} {k : Nat} (h : k < ls.length) : sumK (ls.take (k + 1)) = sumK (ls.take k) + (ls.getD k mrk0).id.length := by
  rw [List.take_succ_eq_append_getElem h, sumK_app, List.getD_eq_getElem?_getD, List.getElem?_eq_getElem h]
  simp [sumK]
theorem sumK_le {ls : List Mrk} (k : Nat) : sumK (ls.take k) ≤ sumK ls := by
  have := sumK_app (ls.take k) (ls.drop k)
  rw [List.take_append_drop] at this
  omega
theorem sumK_get {ls : List Mrk} {k : Nat} (h : k < ls.length) : (ls.getD k mrk0).id.length ≤ sumK ls := by
  have := sumK_take h
  have := sumK_le (ls := ls) (k + 1)
  omega
end Go.Proofs.Ytingekgcjnkljaa

/-
  Rows of marks: a list and a number each, the list in a block of its own (written by gens/wak.py out of CrR and CrU).
-/
namespace Go.Proofs.Ytingekgcjnkljaa
open Go Go.RowKit

/-- Where a list lies. -/
structure Plc where
  a : Option Addr
  c : Nat
  q : Nat
set_option maxRecDepth 100000 in
def plc0 : Plc := ⟨none, 0, 0⟩
set_option maxRecDepth 100000 in
/-- An item's two cells. -/
def itC (x : Int × List Int) (q : Plc) : List Value := [.slice q.a x.2.length q.c, .int .i64 x.1]
set_option maxRecDepth 100000 in
def itCs : List (Int × List Int) → List Plc → List Value
  | x :: xs, q :: qs => itC x q ++ itCs xs qs
  | _, _ => []
set_option maxRecDepth 100000 in
theorem itCs_snoc : ∀ (its : List (Int × List Int)) (bs : List Plc) (x : Int × List Int) (q : Plc), bs.length = its.length → itCs (its ++ [x]) (bs ++ [q]) = itCs its bs ++ itC x q
  | [], [], x, q, _ => rfl
  | [], _ :: _, _, _, h => by simp at h
  | _ :: _, [], _, _, h => by simp at h
  | y :: its, p :: bs, x, q, h => by
    show itC y p ++ itCs (its ++ [x]) (bs ++ [q]) = (itC y p ++ itCs its bs) ++ itC x q
    rw [itCs_snoc its bs x q (by simpa using h), List.append_assoc]
set_option maxRecDepth 100000 in
theorem itCs_len : ∀ (its : List (Int × List Int)) (bs : List Plc), bs.length = its.length → (itCs its bs).length = its.length * 2
  | [], [], _ => rfl
  | [], _ :: _, h => by simp at h
  | _ :: _, [], h => by simp at h
  | y :: its, p :: bs, h => by
    show (itC y p ++ itCs its bs).length = _
    rw [List.length_append, itCs_len its bs (by simpa using h)]
    simp [itC]
    omega
set_option maxRecDepth 100000 in
theorem itCs_at0 : ∀ (its : List (Int × List Int)) (bs : List Plc) (i : Nat), bs.length = its.length → i < its.length → (itCs its bs)[2 * i]? = some (.slice (bs.getD i plc0).a (its.getD i (0, [])).2.length (bs.getD i plc0).c)
  | [], _, i, _, hi => by simp at hi
  | _ :: _, [], _, h, _ => by simp at h
  | y :: its, p :: bs, 0, h, hi => rfl
  | y :: its, p :: bs, i + 1, h, hi => by
    show (itC y p ++ itCs its bs)[2 * (i + 1)]? = _
    rw [List.getElem?_append_right (by simp [itC]; omega), show 2 * (i + 1) - (itC y p).length = 2 * i by simp [itC]; omega, itCs_at0 its bs i (by simpa using h) (by simpa using hi)]
    simp
set_option maxRecDepth 100000 in
theorem itCs_at1 : ∀ (its : List (Int × List Int)) (bs : List Plc) (i : Nat), bs.length = its.length → i < its.length → (itCs its bs)[2 * i + 1]? = some (.int .i64 (its.getD i (0, [])).1)
  | [], _, i, _, hi => by simp at hi
  | _ :: _, [], _, h, _ => by simp at h
  | y :: its, p :: bs, 0, h, hi => rfl
  | y :: its, p :: bs, i + 1, h, hi => by
    show (itC y p ++ itCs its bs)[2 * (i + 1) + 1]? = _
    rw [List.getElem?_append_right (by simp [itC]; omega), show 2 * (i + 1) + 1 - (itC y p).length = 2 * i + 1 by simp [itC]; omega, itCs_at1 its bs i (by simpa using h) (by simpa using hi)]
    simp
/-- A list and its place. -/
structure Lie (w : World) (x : List Int) (p : Plc) : Prop where
  o : Own w p.q p.a .u8 x
  n : p.a = none → p.c = 0
  c : x.length ≤ p.c
set_option maxRecDepth 100000 in
theorem Lie.of {w w' : World} {x : List Int} {p : Plc} (h : Lie w x p) (hb : 0 < x.length → w'.heap[p.q]? = w.heap[p.q]?) : Lie w' x p := by
  refine ⟨?_, h.n, h.c⟩
  by_cases h0 : 0 < x.length
  · exact h.o.of_block (hb h0)
  · exact fun h1 => absurd h1 h0
/-- A row of items that the call made: the lists lie in blocks of their own, none of which is the row's. -/
structure IRow (w : World) (B : Nat) (v : Value) (its : List (Int × List Int)) (bs : List Plc) : Prop where
  o : w.ownsRow B 36 2 v its.length (itCs its bs)
  l : bs.length = its.length
  b : ∀ i, i < its.length → Lie w (its.getD i (0, [])).2 (bs.getD i plc0)
  h : ∀ i, i < its.length → 0 < (its.getD i (0, [])).2.length → B ≤ (bs.getD i plc0).q ∧ v.ownBlock ≠ some (bs.getD i plc0).q
  d : ∀ i j, i < its.length → j < its.length → i ≠ j → 0 < (its.getD i (0, [])).2.length → 0 < (its.getD j (0, [])).2.length → (bs.getD i plc0).q ≠ (bs.getD j plc0).q
set_option maxRecDepth 100000 in
theorem iInfo : (Try.prog.info? 36).map (fun i => (i.zero, i.size, i.bytes)) = some (some (.agg #[.slice none 0 0, .int .i64 0]), 2, 32) := by kernel_rfl
set_option maxRecDepth 100000 in
theorem iUnd : Try.prog.underlying 23 = some (.slice 36) := Try.underlying23
set_option maxRecDepth 100000 in
theorem IRow.nil (w : World) (B : Nat) : IRow w B (.slice none 0 0) [] [] :=
  ⟨⟨rfl, .inl ⟨rfl, rfl⟩⟩, rfl, fun i h => absurd h (by simp), fun i h => absurd h (by simp), fun i j h => absurd h (by simp)⟩
set_option maxRecDepth 100000 in
theorem IRow.lt {w : World} {B : Nat} {v : Value} {its : List (Int × List Int)} {bs : List Plc} (h : IRow w B v its bs) {i : Nat} (hi : i < its.length) (h0 : 0 < (its.getD i (0, [])).2.length) : (bs.getD i plc0).q < w.heap.size := (h.b i hi).o.rd.lt h0
set_option maxRecDepth 100000 in
/-- What else does not change, does not change such a row. -/
theorem IRow.of {w w' : World} {B : Nat} {v : Value} {its : List (Int × List Int)} {bs : List Plc} (h : IRow w B v its bs) (hb : ∀ k, k < w.heap.size → B ≤ k → w'.heap[k]? = w.heap[k]?) : IRow w' B v its bs := by
  refine ⟨⟨h.o.1, ?_⟩, h.l, fun i hi => ?_, h.h, h.d⟩
  · rcases h.o.2 with h' | ⟨g, cap, cur, rfl, hbg, hg, hnc, hcm, hcs, ht⟩
    · exact .inl h'
    · exact .inr ⟨g, cap, cur, rfl, hbg, by rw [hb g ((Array.getElem?_eq_some_iff.1 hg).1) hbg]; exact hg, hnc, hcm, hcs, ht⟩
  · exact (h.b i hi).of fun h0 => hb _ (h.lt hi h0) (h.h i hi h0).1
set_option maxRecDepth 100000 in
/-- One item more: its list was made behind M, the row and the others ahead of it. -/
theorem IRow.appQ {w : World} {B : Nat} {v : Value} {its : List (Int × List Int)} {bs : List Plc} (h : IRow w B v its bs) (x : Int × List Int) (q : Plc) (p0 : Nat) (hp0 : RwC w p0 [.slice q.a x.2.length q.c, .int .i64 x.1] 36) (hB : B ≤ w.heap.size) (hq : Lie w x.2 q) (M : Nat) (hBM : B ≤ M) (hM1 : ∀ i, i < its.length → 0 < (its.getD i (0, [])).2.length → (bs.getD i plc0).q < M) (hM2 : ∀ k, v.ownBlock = some k → k < M) (hqM : M ≤ q.q) (hl : its.length ≤ 1048576) :
    ∃ v' w', (Builtin.append_ #[23, 23] 23 #[v, .slice (some ⟨p0, 0, none⟩) 1 1]).run Try.prog w = .ok v' w' ∧ IRow w' B v' (its ++ [x]) (bs ++ [q]) ∧ (∀ k, k < w.heap.size → v.ownBlock ≠ some k → w'.heap[k]? = w.heap[k]?) ∧ Below B w w' ∧ (∀ p, p < w.heap.size → v.ownBlock ≠ some p → v'.ownBlock ≠ some p) := by
  obtain ⟨i, hi, hz, hs, hby⟩ := info_parts iInfo
  have na : Below w.heap.size w w := Below.refl _ _
  have h0 : w.ownsRow B 36 2 v its.length (itCs its bs) := h.o
  have hcell : ∀ j u, (itC x q)[j]? = some u → w.cell? ((⟨p0, 0, none⟩ : Addr).add j) = some u := by
    intro j u hj
    rw [Addr.add_mid, Nat.zero_add, hp0.cell j]
    exact hj
  obtain ⟨v', w', h1, h2, h3, h4, h5⟩ := run_append_own_at (P := Try.prog) w B 23 23 36 i (.agg #[.slice none 0 0, .int .i64 0]) 2 32 iUnd hi hz hs hby rfl (by decide) v its.length (itCs its bs) h0 ⟨p0, 0, none⟩ 1 1 (itC x q) (by simp [itC]) hcell (fun u hu => by
    simp only [itC, List.mem_cons, List.not_mem_nil, or_false] at hu
    rcases hu with rfl | rfl <;> rfl) (by unfold maxLen; omega) (by omega) (Nat.le_trans hB na.size)
  have keep : ∀ k, k < w.heap.size → v.ownBlock ≠ some k → w'.heap[k]? = w.heap[k]? := fun k hk hne => (h3.block k (by omega) (fun e => hne e.symm)).trans (na.block k hk)
  have ob := h.o.lt
  have A1 : ∀ j, j < its.length → (bs ++ [q]).getD j plc0 = bs.getD j plc0 := fun j hj => by
    have : j < bs.length := by rw [h.l]; exact hj
    simp [List.getD, List.getElem?_append_left this]
  have A2 : ∀ j, j < its.length → (its ++ [x]).getD j (0, []) = its.getD j (0, []) := fun j hj => by simp [List.getD, List.getElem?_append_left hj]
  have A3 : (bs ++ [q]).getD its.length plc0 = q := by rw [← h.l]; simp
  have A4 : (its ++ [x]).getD its.length (0, []) = x := by simp
  have hqr : v.ownBlock ≠ some q.q := fun e => by have := hM2 _ e; omega
  have LT : ∀ p, p < w.heap.size → v.ownBlock ≠ some p → v'.ownBlock ≠ some p := fun p hp hn => by
    rcases h5 with h5 | h5
    · rw [h5]; exact hn
    · rw [h5]
      intro e
      have e := Option.some.inj e
      omega
  refine ⟨v', w', h1, ⟨?_, by simp [h.l], fun j hj => ?_, fun j hj h0' => ?_, fun j k hj hk hne hj0 hk0 => ?_⟩, keep, (Below.refl B w).grown h3 (by omega) (fun k hk => (ob k hk).1), LT⟩
  · show w'.ownsRow B 36 2 v' (its ++ [x]).length (itCs (its ++ [x]) (bs ++ [q]))
    rw [itCs_snoc its bs x q h.l, List.length_append]
    exact h2
  · by_cases hj' : j < its.length
    · rw [A1 j hj', A2 j hj']
      exact (h.b j hj').of fun h0' => keep _ (h.lt hj' h0') (h.h j hj' h0').2
    · have ej : j = its.length := by simp at hj; omega
      subst ej
      rw [A3, A4]
      exact hq.of fun h0' => keep _ (hq.o.rd.lt h0') hqr
  · by_cases hj' : j < its.length
    · rw [A2 j hj'] at h0'
      rw [A1 j hj']
      exact ⟨(h.h j hj' h0').1, LT _ (h.lt hj' h0') (h.h j hj' h0').2⟩
    · have ej : j = its.length := by simp at hj; omega
      subst ej
      rw [A4] at h0'
      rw [A3]
      exact ⟨by omega, LT _ (hq.o.rd.lt h0') hqr⟩
  · by_cases hj' : j < its.length
    · rw [A2 j hj'] at hj0
      rw [A1 j hj']
      by_cases hk' : k < its.length
      · rw [A2 k hk'] at hk0
        rw [A1 k hk']
        exact h.d j k hj' hk' hne hj0 hk0
      · have ek : k = its.length := by simp at hk; omega
        subst ek
        rw [A3]
        have := hM1 j hj' hj0
        omega
    · have ej : j = its.length := by simp at hj; omega
      subst ej
      have hk' : k < its.length := by simp at hk; omega
      rw [A2 k hk'] at hk0
      rw [A1 k hk', A3]
      have := hM1 k hk' hk0
      omega

set_option maxRecDepth 100000 in
/-- The row's slice, and its cells. -/
theorem IRow.cells {w : World} {B : Nat} {v : Value} {its : List (Int × List Int)} {bs : List Plc} (h : IRow w B v its bs) (h0 : 0 < its.length) : ∃ g c, v = .slice (some ⟨g, 0, none⟩) its.length c ∧ B ≤ g ∧ g < w.heap.size ∧ v.ownBlock = some g ∧ (∀ i, i < its.length → w.cell? ⟨g, i * 2, none⟩ = some (.slice (bs.getD i plc0).a (its.getD i (0, [])).2.length (bs.getD i plc0).c) ∧ w.cell? ⟨g, i * 2 + 1, none⟩ = some (.int .i64 (its.getD i (0, [])).1)) ∧ (∀ i, w.frozen? ⟨g, i, none⟩ = false) := by
  rcases h.o.2 with ⟨_, h'⟩ | ⟨g, cap, cur, rfl, hb, hg, hnc, hcm, hcs, ht⟩
  · omega
  · refine ⟨g, cap, rfl, hb, (Array.getElem?_eq_some_iff.1 hg).1, rfl, fun i hi => ⟨?_, ?_⟩, fun i => frozen_of_row w g i cur _ hg⟩
    · rw [cell_of_row w g _ cur _ (0, 0) hg]
      have : (cur.toList.take (its.length * 2))[i * 2]? = (itCs its bs)[i * 2]? := by rw [ht]
      rw [List.getElem?_take, if_pos (by omega), show i * 2 = 2 * i from Nat.mul_comm _ _, itCs_at0 its bs i h.l hi] at this
      simpa [Nat.mul_comm] using this
    · rw [cell_of_row w g _ cur _ (0, 0) hg]
      have : (cur.toList.take (its.length * 2))[i * 2 + 1]? = (itCs its bs)[i * 2 + 1]? := by rw [ht]
      rw [List.getElem?_take, if_pos (by omega), show i * 2 = 2 * i from Nat.mul_comm _ _, itCs_at1 its bs i h.l hi] at this
      simpa [Nat.mul_comm] using this
set_option maxRecDepth 100000 in
theorem IRow.slice {w : World} {B : Nat} {v : Value} {its : List (Int × List Int)} {bs : List Plc} (h : IRow w B v its bs) : ∃ a c, v = .slice a its.length c ∧ (a = none → c = 0) := by
  rcases h.o.2 with ⟨h1, h'⟩ | ⟨g, cap, cur, rfl, hb, hg, hnc, hcm, hcs, ht⟩
  · exact ⟨none, 0, by rw [h1, h'], fun _ => rfl⟩
  · exact ⟨_, cap, rfl, fun e => by cases e⟩
set_option maxRecDepth 100000 in
/-- From a base lower down. -/
theorem IRow.base {w : World} {B C : Nat} {v : Value} {its : List (Int × List Int)} {bs : List Plc} (R : IRow w B v its bs) (hC : C ≤ B) : IRow w C v its bs :=
  ⟨⟨R.o.1, by
      rcases R.o.2 with h' | ⟨g, cap, cur, e1, hbg, h3⟩
      · exact .inl h'
      · exact .inr ⟨g, cap, cur, e1, by omega, h3⟩⟩, R.l, R.b, fun i hi h0 => ⟨by have := (R.h i hi h0).1; omega, (R.h i hi h0).2⟩, R.d⟩
end Go.Proofs.Ytingekgcjnkljaa

/-
  The laws' own helpers on rows of marks: markMarkS, heldMarkS (written by gens/was.py).
-/
namespace Go.Proofs.Ytingekgcjnkljaa
open Go Go.RowKit

set_option maxRecDepth 100000 in
/-- The number that a mark's list begins with. -/
def psI (its : List (Int × List Int)) (n : Int) : Nat → Int
  | 0 => n
  | k + 1 => psI its n k + ((its.getD k (0, [])).2.length : Int) + 1
set_option maxRecDepth 100000 in
theorem psI_le {its : List (Int × List Int)} {n : Int} : ∀ (d k : Nat), psI its n k ≤ psI its n (k + d)
  | 0, k => Int.le_refl _
  | d + 1, k => by
    have := psI_le (its := its) (n := n) d k
    show _ ≤ psI its n (k + d) + ((its.getD (k + d) (0, [])).2.length : Int) + 1
    omega
set_option maxRecDepth 100000 in
theorem psI_bd {its : List (Int × List Int)} {n : Int} (h0 : 0 ≤ n) (k : Nat) (hk : k ≤ its.length) : 0 ≤ psI its n k ∧ psI its n k ≤ psI its n its.length := by
  have a := psI_le (its := its) (n := n) k 0
  have b := psI_le (its := its) (n := n) (its.length - k) k
  rw [Nat.zero_add] at a
  rw [show k + (its.length - k) = its.length by omega] at b
  have c : psI its n 0 = n := rfl
  omega
set_option maxRecDepth 100000 in
/-- The blocks of a row and of its lists. -/
def rowS (v : Value) (its : List (Int × List Int)) (bs : List Plc) (p : Nat) : Prop := v.ownBlock = some p ∨ ∃ i, i < its.length ∧ 0 < (its.getD i (0, [])).2.length ∧ (bs.getD i plc0).q = p
/-- What lies outside these blocks has not turned. -/
structure Bsx (S : Nat → Prop) (w w' : World) : Prop where
  os : w'.os = w.os
  tape : w'.tape = w.tape
  output : w'.output = w.output
  size : w'.heap.size = w.heap.size
  block : ∀ k, ¬ S k → w'.heap[k]? = w.heap[k]?
set_option maxRecDepth 100000 in
theorem Bsx.refl (S : Nat → Prop) (w : World) : Bsx S w w := ⟨rfl, rfl, rfl, rfl, fun _ _ => rfl⟩
set_option maxRecDepth 100000 in
theorem Bsx.trans {S : Nat → Prop} {a b c : World} (h : Bsx S a b) (k : Bsx S b c) : Bsx S a c := ⟨k.os.trans h.os, k.tape.trans h.tape, k.output.trans h.output, k.size.trans h.size, fun i hi => (k.block i hi).trans (h.block i hi)⟩
set_option maxRecDepth 100000 in
theorem Bsx.only {S : Nat → Prop} {p : Nat} {a b c : World} (h : Bsx S a b) (k : Only p b c) (h1 : S p) (_ : True) : Bsx S a c := h.trans ⟨k.os, k.tape, k.output, k.size, fun i hi => k.block i (fun e => hi (e ▸ h1))⟩
set_option maxRecDepth 100000 in
/-- One mark as it is marked. -/
def MkP (w : World) (g : Nat) (its : List (Int × List Int)) (bs : List Plc) (n : Int) (i : Nat) : Prop :=
  w.cell? ⟨g, i * 2, none⟩ = some (.slice (bs.getD i plc0).a (its.getD i (0, [])).2.length (bs.getD i plc0).c) ∧ w.cell? ⟨g, i * 2 + 1, none⟩ = some (.int .i64 (psI its n i + ((its.getD i (0, [])).2.length : Int))) ∧ Own w (bs.getD i plc0).q (bs.getD i plc0).a .u8 (marks (psI its n i) (its.getD i (0, [])).2.length)
set_option maxRecDepth 100000 in
/-- .. and as it is not yet. -/
def MkQ (w : World) (g : Nat) (its : List (Int × List Int)) (bs : List Plc) (i : Nat) : Prop :=
  w.cell? ⟨g, i * 2, none⟩ = some (.slice (bs.getD i plc0).a (its.getD i (0, [])).2.length (bs.getD i plc0).c) ∧ w.cell? ⟨g, i * 2 + 1, none⟩ = some (.int .i64 (its.getD i (0, [])).1) ∧ Own w (bs.getD i plc0).q (bs.getD i plc0).a .u8 (its.getD i (0, [])).2
set_option maxRecDepth 100000 in
theorem own_any {w w' : World} {g : Nat} {a : Option Addr} {xs : List Int} (h : Own w g a .u8 xs) (hb : 0 < xs.length → w'.heap[g]? = w.heap[g]?) : Own w' g a .u8 xs := fun h0 => h.of_block (hb h0) h0
set_option maxRecDepth 100000 in
theorem MkP.keep {w w' : World} {g : Nat} {its : List (Int × List Int)} {bs : List Plc} {n : Int} {i : Nat} (h : MkP w g its bs n i) (h1 : w'.cell? ⟨g, i * 2, none⟩ = w.cell? ⟨g, i * 2, none⟩) (h2 : w'.cell? ⟨g, i * 2 + 1, none⟩ = w.cell? ⟨g, i * 2 + 1, none⟩) (h3 : 0 < (its.getD i (0, [])).2.length → w'.heap[(bs.getD i plc0).q]? = w.heap[(bs.getD i plc0).q]?) : MkP w' g its bs n i :=
  ⟨h1.trans h.1, h2.trans h.2.1, own_any h.2.2 (fun h0 => h3 (by rwa [marks_len] at h0))⟩
set_option maxRecDepth 100000 in
theorem MkQ.keep {w w' : World} {g : Nat} {its : List (Int × List Int)} {bs : List Plc} {i : Nat} (h : MkQ w g its bs i) (h1 : w'.cell? ⟨g, i * 2, none⟩ = w.cell? ⟨g, i * 2, none⟩) (h2 : w'.cell? ⟨g, i * 2 + 1, none⟩ = w.cell? ⟨g, i * 2 + 1, none⟩) (h3 : 0 < (its.getD i (0, [])).2.length → w'.heap[(bs.getD i plc0).q]? = w.heap[(bs.getD i plc0).q]?) : MkQ w' g its bs i :=
  ⟨h1.trans h.1, h2.trans h.2.1, own_any h.2.2 h3⟩
set_option maxRecDepth 100000 in
/-- The whole row, marked. -/
def Mkd (w : World) (v : Value) (its : List (Int × List Int)) (bs : List Plc) (n : Int) : Prop := ∀ g c, v = .slice (some ⟨g, 0, none⟩) its.length c → ∀ i, i < its.length → MkP w g its bs n i
set_option maxRecDepth 100000 in
theorem Mkd.up {w w' : World} {v : Value} {its : List (Int × List Int)} {bs : List Plc} {n : Int} (h : Mkd w v its bs n) (N : Below w.heap.size w w') : Mkd w' v its bs n := fun g c e i hi => by
  have P := h g c e i hi
  have hg : g < w.heap.size := block_lt_of_cell P.1
  exact P.keep (World.cell?_of_block (a := ⟨g, i * 2, none⟩) (N.block g hg)) (World.cell?_of_block (a := ⟨g, i * 2 + 1, none⟩) (N.block g hg)) (fun h0 => N.block _ (P.2.2.rd.lt (by rw [marks_len]; exact h0)))

set_option maxRecDepth 100000 in
/-- A row's slice, as the marks' helpers want it. -/
theorem IRow.shape {w : World} {B : Nat} {v : Value} {its : List (Int × List Int)} {bs : List Plc} (h : IRow w B v its bs) : ∃ a c, v = .slice a its.length c ∧ (0 < its.length → ∃ g, a = some ⟨g, 0, none⟩) := by
  by_cases h0 : 0 < its.length
  · obtain ⟨g, c, e, -⟩ := h.cells h0
    exact ⟨_, c, e, fun _ => ⟨g, rfl⟩⟩
  · obtain ⟨a, c, e, -⟩ := h.slice
    exact ⟨a, c, e, fun h1 => absurd h1 h0⟩
end Go.Proofs.Ytingekgcjnkljaa

/-
  The laws' helpers on a Saved: counted, copied, held against each other (written by gens/svc.py).
-/
namespace Go.Proofs.Ytingekgcjnkljaa
open Go Go.RowKit

theorem oneSv (md li : Int) (ho pr : ByteArray) (ea : Int) (a : Option Addr) (n c : Nat) (a' : Option Addr) (n' c' : Nat) (a'' : Option Addr) (n'' c'' : Nat) : ([.slice a n c, .slice a' n' c', .slice a'' n'' c'', .int .i64 md, .int .i64 li, .string ho, .string pr, .int .i64 ea] : List Value).toArray.all (·.oneCell') = true := all_oneCell_toArray fun v hv => by
  simp only [List.mem_cons, List.not_mem_nil, or_false] at hv
  rcases hv with rfl | rfl | rfl | rfl | rfl | rfl | rfl | rfl
  all_goals rfl
end Go.Proofs.Ytingekgcjnkljaa
