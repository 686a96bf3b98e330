import Derived.Test.YtingekgcjnkljaaGW5
import Derived.Test.YtingekgcjnkljaaGW8
import Derived.Test.YtingekgcjnkljaaGW20

/-
  Windows and the reports of ends and of a channel, held against each other (written by gens/kme.py).
-/
namespace Go.Proofs.Ytingekgcjnkljaa
open Go Go.RowKit

end Go.Proofs.Ytingekgcjnkljaa

/-
  Windows and reports, counted (written by gens/kmh.py).
-/
namespace Go.Proofs.Ytingekgcjnkljaa
open Go Go.RowKit

end Go.Proofs.Ytingekgcjnkljaa

/-
  The law of WindowFault (written by gens/kwe.py).
-/
namespace Go.Proofs.Ytingekgcjnkljaa
open Go Go.RowKit

set_option maxHeartbeats 2000000 in
theorem implWf_any (w : World) (wd : Int) (g : Nat) (a : Option Addr) (c : Nat) (ms : List Mrk) (ps : List Plm) (hr : RdK w g a ms ps) (hb : ∀ i, i < ms.length → Byt (ms.getD i mrk0).id) :
    Calls Try.prog 11 #[.agg #[.int .i64 wd, .slice a ms.length c]] w fun e w' => e = .returned (.int .i64 (wfV wd ms)) ∧ Below w.heap.size w w' := by
  have n1 : Below w.heap.size w (w.alloc (.cells #[.int .i64 wd, .slice a ms.length c] 25)) := (Below.refl _ _).alloc (Nat.le_refl _) _
  have BO := hide (bookOf_any _ wd g a c ms ps (hr.up n1) hb)
  have N1 := hide n1
  clear n1 hr hb
  generalize wfV wd ms = R at *
  go_enter Try.func11, Try.ntmps11
  go_wp2_with fail
  refine BO.out.mono ?_
  rintro e w1 ⟨⟨v, rfl⟩, n2⟩
  have N2 := hide (nxt N1.out n2)
  clear BO N1 n2
  go_wp2
  go_ret
  exact ⟨rfl, N2.out⟩
/-- A window as data, and where it lies. -/
structure WD where
  wd : Int
  ms : List Mrk
structure WA where
  a : Option Addr
  c : Nat
  g : Nat
  pl : List Plm
structure HasW (w : World) (p : WA) (d : WD) : Prop where
  r : RdK w p.g p.a d.ms p.pl
theorem HasW.up {w w' : World} {p : WA} {d : WD} (h : HasW w p d) (n : Below w.heap.size w w') : HasW w' p d := ⟨h.r.up n⟩
structure OkW (d : WD) : Prop where
  ms : d.ms.length ≤ 1048576
  mz : ∀ i, i < d.ms.length → (d.ms.getD i mrk0).id.length ≤ 1048576
structure BgW (d : WD) : Prop where
  ms : d.ms.length ≤ 9223372036854775807
  mz : ∀ i, i < d.ms.length → (d.ms.getD i mrk0).id.length < 9223372036854775808
  by' : ∀ i, i < d.ms.length → Byt (d.ms.getD i mrk0).id
def winV (p : WA) (d : WD) : Array Value := #[.int .i64 d.wd, .slice p.a d.ms.length p.c]
theorem winV_one (p : WA) (d : WD) : (winV p d).all (·.oneCell') = true := oneWd d.wd p.a d.ms.length p.c
theorem spW (w : World) (p : WA) (d : WD) (h : HasW w p d) (b : ∀ i, i < d.ms.length → Byt (d.ms.getD i mrk0).id) :
    Calls Try.prog 5 #[.agg (winV p d)] w fun e w' => e = .returned (.int .i64 (wfV d.wd d.ms)) ∧ Below w.heap.size w w' := specWf_any w d.wd p.g p.a p.c d.ms p.pl h.r b
theorem imW (w : World) (p : WA) (d : WD) (h : HasW w p d) (b : ∀ i, i < d.ms.length → Byt (d.ms.getD i mrk0).id) :
    Calls Try.prog 11 #[.agg (winV p d)] w fun e w' => e = .returned (.int .i64 (wfV d.wd d.ms)) ∧ Below w.heap.size w w' := implWf_any w d.wd p.g p.a p.c d.ms p.pl h.r b
theorem rangeW {w w' : World} {b : Nat} {cs : List Value} (h : w.rangeAt b 0 cs) (n : Below w.heap.size w w') : w'.rangeAt b 0 cs := rangeK h n
/-- A window that may be read. -/
def FWn (m : WD) : Fact := ⟨fun v w => ∃ q, v = .agg (winV q m) ∧ HasW w q m, fun n h => by
  obtain ⟨q, e, h⟩ := h
  exact ⟨q, e, h.up n⟩⟩
section
variable {ops : Array Oper} {Q : Exit → Act → World → Prop} {md : Region.Mode} {F : Nat → Fact} {a0 : Act} {w0 : World} {i : Nat} {o : Oper} {ts : Array TypeId}
theorem step_lW (ty : TypeId) (hu : ∃ d, Try.prog.underlying ty = some d ∧ d.isRow = true) (hs : (Try.prog.info? ty).map (·.size) = some 2) (hi : ops[i]? = some o) (p : Nat) (hop : o.op = .load ty (.tmp p)) (hp : apart ops p = true) (b : Nat) (h0 : a0.tmps.getD p undef = .pointer (some ⟨b, 0, none⟩)) {q : WA} {m : WD} (T : w0.rangeAt b 0 (winV q m).toList) (hF : F i = Fact.eq (.agg (winV q m))) : StepOk Try.prog md ops Q F a0 w0 i := by
  obtain ⟨d, hu, hr⟩ := hu
  refine step_load hi _ _ hop _ 2 hu hr hs fun a w hb hw _ => ?_
  exact ⟨b, 0, (winV q m).toList, (based_at hb p hp).trans h0, rangeW T hw, rfl, by rw [hF]; exact rfl⟩
theorem step_notW {P : Program} (hi : ops[i]? = some o) (p j : Nat) {b : Bool} {t : TypeId} (hop : o.op = .unOp .not t (.tmp p)) (hj : waits md ops i j p = true) (hFj : F j = Fact.eq (.bool b)) (hFi : F i = Fact.eq (.bool (!b))) : StepOk P md ops Q F a0 w0 i := by
  refine step_pure hi fun a w _ _ hf => ⟨.bool (!b), ?_, by rw [hFi]; exact rfl⟩
  have e := hf j p hj
  rw [hFj] at e
  have e' : a.eval (.tmp p) = .bool b := e
  simp only [execOp, hop, e']
  rfl
end
end Go.Proofs.Ytingekgcjnkljaa

/-
  The laws' own helpers on windows that are asked (written by gens/wau.py).
-/
namespace Go.Proofs.Ytingekgcjnkljaa
open Go Go.RowKit

/-- Of what was there only blocks of S have turned. -/
structure Tws (S : Nat → Prop) (w w' : World) : Prop where
  os : w'.os = w.os
  tape : w'.tape = w.tape
  output : w'.output = w.output
  size : w.heap.size ≤ w'.heap.size
  block : ∀ k, k < w.heap.size → ¬ S k → w'.heap[k]? = w.heap[k]?
set_option maxRecDepth 100000 in
theorem Tws.of {S : Nat → Prop} {a b c : World} (h : Below a.heap.size a b) (k : Bsx S b c) : Tws S a c := ⟨k.os.trans h.os, k.tape.trans h.tape, k.output.trans h.output, by rw [k.size]; exact h.size, fun i hi hn => (k.block i hn).trans (h.block i hi)⟩
set_option maxRecDepth 100000 in
theorem Tws.ofT {S : Nat → Prop} {a b c : World} (h : Below a.heap.size a b) (k : Tws S b c) : Tws S a c := ⟨k.os.trans h.os, k.tape.trans h.tape, k.output.trans h.output, Nat.le_trans h.size k.size, fun i hi hn => (k.block i (Nat.lt_of_lt_of_le hi h.size) hn).trans (h.block i hi)⟩
set_option maxRecDepth 100000 in
theorem Tws.below {S : Nat → Prop} {w w' : World} {B : Nat} (h : Tws S w w') (hS : ∀ p, S p → B ≤ p) (hB : B ≤ w.heap.size) : Below B w w' := ⟨h.os, h.tape, h.output, h.size, fun k hk => h.block k (by omega) (fun s => by have := hS k s; omega)⟩
set_option maxRecDepth 100000 in
theorem IRow.rows {w : World} {B : Nat} {v : Value} {its : List (Int × List Int)} {bs : List Plc} (h : IRow w B v its bs) : ∀ p, rowS v its bs p → B ≤ p ∧ p < w.heap.size := fun p hp => by
  rcases hp with hp | ⟨i, hi, h0, rfl⟩
  · exact h.o.lt p hp
  · exact ⟨(h.h i hi h0).1, h.lt hi h0⟩
end Go.Proofs.Ytingekgcjnkljaa

/-
  Windows that are asked: numbers (written by gens/wav.py).
-/
namespace Go.Proofs.Ytingekgcjnkljaa
open Go Go.RowKit Go.Maps

set_option maxRecDepth 100000 in
theorem toM_ofM (ms : List Mrk) : toM (ofM ms) = ms := by
  unfold toM ofM
  rw [List.map_map]
  exact List.map_id' ms
set_option maxRecDepth 100000 in
theorem psI_ofM (ms : List Mrk) (n : Int) : ∀ k, k ≤ ms.length → psI (ofM ms) n k ≤ n + (k : Int) + (sumK (ms.take k) : Int)
  | 0, _ => by
    show n ≤ _
    omega
  | k + 1, h => by
    have ih := psI_ofM ms n k (by omega)
    rw [sumK_take (show k < ms.length by omega)]
    show psI (ofM ms) n k + (((ofM ms).getD k (0, [])).2.length : Int) + 1 ≤ _
    rw [ofM_get (show k < ms.length by omega)]
    simp only
    omega
set_option maxRecDepth 100000 in
theorem psI_all {its : List (Int × List Int)} {n : Int} (hn : ∀ i, i < its.length → (its.getD i (0, [])).2.length ≤ 32) : ∀ k, k ≤ its.length → psI its n k ≤ n + (k : Int) * 33
  | 0, _ => by
    show n ≤ _
    omega
  | k + 1, h => by
    have ih := psI_all (n := n) hn k (by omega)
    have := hn k (by omega)
    show psI its n k + ((its.getD k (0, [])).2.length : Int) + 1 ≤ _
    omega
set_option maxRecDepth 100000 in
theorem askM_len (wd : Int) (ms : List Mrk) (X : List Int) (now : Int) : (askM wd ms X now).length ≤ 65 := by
  unfold askM
  split
  · rename_i ok
    rw [mkOf_len]
    have := askE_len wd ms X now
    have := (wfV_zero ok.1).2.1
    omega
  · simp
set_option maxRecDepth 100000 in
theorem askM_id (wd : Int) (ms : List Mrk) (X : List Int) (now : Int) : ∀ i, i < (askM wd ms X now).length → ((askM wd ms X now).getD i (0, [])).2.length ≤ 32 := by
  intro i hi
  have hm : (askM wd ms X now).getD i (0, []) ∈ askM wd ms X now := by
    rw [List.getD_eq_getElem?_getD, List.getElem?_eq_getElem hi]
    exact List.getElem_mem hi
  generalize (askM wd ms X now).getD i (0, []) = x at *
  unfold askM at hm
  split at hm
  · rename_i ok
    unfold mkOf at hm
    obtain ⟨e, he, rfl⟩ := List.mem_map.1 hm
    have hk : ∀ e ∈ kept ms now, e.id.length = 32 := fun e he => by
      have h1 : e ∈ entsTo ms ms.length := (List.mem_filter.1 he).1
      unfold entsTo at h1
      obtain ⟨j, hj, rfl⟩ := List.mem_map.1 h1
      exact ((wfV_zero ok.1).2.2.1 j (by simpa using hj)).1
    unfold askE tkE at he
    split at he
    · rcases List.mem_append.1 he with h | h
      · exact Nat.le_of_eq (hk e h)
      · simp only [List.mem_singleton] at h
        rw [h]
        exact Nat.le_of_eq ok.2.1
    · exact Nat.le_of_eq (hk e he)
  · simp at hm
set_option maxRecDepth 100000 in
/-- The law's box of its argument, and what has turned since. -/
theorem IRow.rdM {w : World} {B : Nat} {g : Nat} {c : Nat} {ms : List Mrk} {bs : List Plc} (h : IRow w B (.slice (some ⟨g, 0, none⟩) ms.length c) (ofM ms) bs) : ∃ g', RdK w g' (some ⟨g, 0, none⟩) ms (toP bs) := by
  obtain ⟨g', a, c', e, r⟩ := h.kRow.rdK
  rw [toM_ofM] at r e
  simp only [Value.slice.injEq, true_and] at e
  rw [← e.1] at r
  exact ⟨g', r⟩
set_option maxRecDepth 100000 in
/-- An answer that may be read: its row's slice, and where it lies. -/
theorem KRow.rdA {w : World} {C B : Nat} {v : Value} {its : List (Int × List Int)} {bs : List Plc} (h : KRow w C B v its bs) : ∃ g a c, v = .slice a its.length c ∧ RdK w g a (toM its) (toP bs) := by
  obtain ⟨g, a, c, e, r⟩ := h.rdK
  rw [toM_len] at e
  exact ⟨g, a, c, e, r⟩
end Go.Proofs.Ytingekgcjnkljaa

/-
  A window that is asked again and again: numbers, no walk.
-/
namespace Go.Proofs.Ytingekgcjnkljaa
open Go Go.RowKit Go.Maps

set_option maxRecDepth 100000 in
/-- The marks behind a question. -/
def nxM (wd : Int) (ms : List Mrk) (X : List Int) (now : Int) : List Mrk := toM (askM wd ms X now)
set_option maxRecDepth 100000 in
theorem nxM_ok {wd : Int} {ms : List Mrk} {X : List Int} {now : Int} (ok : AskOk wd ms X now) : nxM wd ms X now = (askE wd ms X now).map fun e => ⟨e.id, e.un⟩ := by
  unfold nxM askM toM mkOf
  rw [if_pos ok, List.map_map]
  rfl
set_option maxRecDepth 100000 in
theorem mem_ents {ms : List Mrk} {e : Ent} (h : e ∈ entsTo ms ms.length) : ∃ i, i < ms.length ∧ e = ⟨(ms.getD i mrk0).id, (i : Int), (ms.getD i mrk0).un⟩ := by
  unfold entsTo at h
  obtain ⟨i, hi, rfl⟩ := List.mem_map.1 h
  exact ⟨i, by simpa using hi, rfl⟩
set_option maxRecDepth 100000 in
theorem mem_kept {ms : List Mrk} {now : Int} {m : Mrk} (h : m ∈ ms) (hu : now ≤ m.un) : ∃ e ∈ kept ms now, e.id = m.id ∧ e.un = m.un := by
  obtain ⟨i, hi, rfl⟩ := List.getElem_of_mem h
  have g : ms.getD i mrk0 = ms[i] := by rw [List.getD_eq_getElem?_getD, List.getElem?_eq_getElem hi]; rfl
  refine ⟨⟨(ms.getD i mrk0).id, (i : Int), (ms.getD i mrk0).un⟩, ?_, by rw [g], by rw [g]⟩
  unfold kept
  refine List.mem_filter.2 ⟨?_, by rw [g]; simpa using hu⟩
  unfold entsTo
  exact List.mem_map.2 ⟨i, by simpa using hi, rfl⟩
set_option maxRecDepth 100000 in
theorem kept_ask {wd : Int} {ms : List Mrk} {X : List Int} {now : Int} {e : Ent} (h : e ∈ kept ms now) : e ∈ askE wd ms X now := by
  unfold askE tkE
  split
  · exact List.mem_append_left _ h
  · exact h
set_option maxRecDepth 100000 in
/-- A mark whose end is not over stays. -/
theorem nxM_stay {wd : Int} {ms : List Mrk} {X : List Int} {now : Int} (ok : AskOk wd ms X now) {m : Mrk} (h : m ∈ ms) (hu : now ≤ m.un) : m ∈ nxM wd ms X now := by
  obtain ⟨e, he, e1, e2⟩ := mem_kept h hu
  rw [nxM_ok ok]
  refine List.mem_map.2 ⟨e, kept_ask he, ?_⟩
  rw [e1, e2]
set_option maxRecDepth 100000 in
/-- .. and is told. -/
theorem askC_held {wd : Int} {ms : List Mrk} {X : List Int} {now : Int} (ok : AskOk wd ms X now) {m : Mrk} (h : m ∈ ms) (hu : now ≤ m.un) (hx : m.id = X) : askC wd ms X now = 1 := by
  obtain ⟨e, he, e1, -⟩ := mem_kept h hu
  unfold askC
  rw [if_pos ok]
  unfold tkC
  rw [if_pos ⟨e, he, e1.trans hx⟩]
set_option maxRecDepth 100000 in
/-- What is taken is a mark. -/
theorem nxM_new {wd : Int} {ms : List Mrk} {X : List Int} {now : Int} (ok : AskOk wd ms X now) (h : askC wd ms X now = 0) : (⟨X, now + 2 * wd⟩ : Mrk) ∈ nxM wd ms X now := by
  unfold askC at h
  rw [if_pos ok] at h
  rw [nxM_ok ok]
  refine List.mem_map.2 ⟨⟨X, (ms.length : Int), now + 2 * wd⟩, ?_, rfl⟩
  unfold askE tkE
  rw [if_pos h]
  exact List.mem_append_right _ (by simp)
set_option maxRecDepth 100000 in
theorem kept_ids {ms : List Mrk} (ok : IdOk ms) (now : Int) : (kept ms now).Pairwise (fun x y => x.id ≠ y.id) := by
  unfold kept
  refine List.Pairwise.filter _ ?_
  unfold entsTo
  rw [List.pairwise_map]
  refine List.Pairwise.imp_of_mem (R := fun a b => a < b) ?_ List.pairwise_lt_range
  intro a b _ hb hab
  have hb' : b < ms.length := by simpa using hb
  exact fun e => (ok b hb').2 a hab e.symm
set_option maxRecDepth 100000 in
theorem askE_ids {wd : Int} {ms : List Mrk} {X : List Int} {now : Int} (ok : IdOk ms) : (askE wd ms X now).Pairwise (fun x y => x.id ≠ y.id) := by
  unfold askE tkE
  split
  · rename_i h
    refine List.pairwise_append.2 ⟨kept_ids ok now, by simp, fun x hx y hy => ?_⟩
    simp only [List.mem_singleton] at hy
    rw [hy]
    intro e
    have : tkC (kept ms now) X = 1 := by unfold tkC; rw [if_pos ⟨x, hx, e⟩]
    rw [this] at h
    exact absurd h (by decide)
  · exact kept_ids ok now
set_option maxRecDepth 100000 in
theorem askE_64 {wd : Int} {ms : List Mrk} {X : List Int} {now : Int} (h : ms.length ≤ 64) : (askE wd ms X now).length ≤ 64 := by
  have k := kept_len ms now
  unfold askE tkE
  split
  · rename_i h0
    rw [List.length_append]
    have : (kept ms now).length ≠ 64 := fun e => by
      unfold tkC at h0
      rw [if_pos e] at h0
      split at h0 <;> exact absurd h0 (by decide)
    simp
    omega
  · omega
set_option maxRecDepth 100000 in
theorem utO_of {ms : List Mrk} (h : utA ms = false) {i : Nat} (hi : i < ms.length) : 0 ≤ (ms.getD i mrk0).un ∧ (ms.getD i mrk0).un ≤ 253402473599 := by
  by_cases hu : utO (ms.getD i mrk0).un = true
  · rw [utA_yes hi hu] at h
    cases h
  · unfold utO at hu
    rw [Bool.or_eq_true, decide_eq_true_iff, decide_eq_true_iff] at hu
    omega
set_option maxRecDepth 100000 in
/-- A window without a fault has none behind a question. -/
theorem nxM_wf {wd : Int} {ms : List Mrk} {X : List Int} {now : Int} (ok : AskOk wd ms X now) : wfV wd (nxM wd ms X now) = 0 := by
  obtain ⟨q1, q2, q3, q4⟩ := wfV_zero ok.1
  have hw : 0 ≤ wd ∧ wd ≤ 86400 := by unfold wdO at q1; simpa using q1
  have hn : 0 ≤ now ∧ now ≤ 253402300799 := by have := ok.2.2; unfold tmO at this; simpa using this
  have ln : (nxM wd ms X now).length = (askE wd ms X now).length := by rw [nxM_ok ok, List.length_map]
  have gt : ∀ i (h : i < (askE wd ms X now).length), (nxM wd ms X now).getD i mrk0 = ⟨((askE wd ms X now)[i]).id, ((askE wd ms X now)[i]).un⟩ := fun i h => by
    rw [nxM_ok ok, List.getD_eq_getElem?_getD, List.getElem?_map, List.getElem?_eq_getElem h]
    rfl
  have el : ∀ e ∈ askE wd ms X now, e.id.length = 32 ∧ 0 ≤ e.un ∧ e.un ≤ 253402473599 := by
    have hk : ∀ e ∈ kept ms now, e.id.length = 32 ∧ 0 ≤ e.un ∧ e.un ≤ 253402473599 := fun e he => by
      obtain ⟨i, hi, rfl⟩ := mem_ents (List.mem_filter.1 he).1
      exact ⟨(q3 i hi).1, utO_of q4 hi⟩
    intro e he
    unfold askE tkE at he
    split at he
    · rcases List.mem_append.1 he with h | h
      · exact hk e h
      · simp only [List.mem_singleton] at h
        rw [h]
        exact ⟨ok.2.1, by simp only; omega, by simp only; omega⟩
    · exact hk e he
  refine wfV0 (by rw [q1]; decide) (by rw [ln]; have := askE_64 (wd := wd) (X := X) (now := now) q2; omega) (fun i hi => ?_) (utA_no fun j hj => ?_)
  · rw [ln] at hi
    refine ⟨by rw [gt i hi]; exact (el _ (List.getElem_mem hi)).1, fun j hj => ?_⟩
    rw [gt i hi, gt j (by omega)]
    exact Ne.symm (List.pairwise_iff_getElem.1 (askE_ids q3) j i (by omega) hi hj)
  · rw [ln] at hj
    rw [gt j hj]
    have := (el _ (List.getElem_mem hj)).2
    unfold utO
    simp
    omega
set_option maxRecDepth 100000 in
/-- There is a mark behind every question. -/
theorem nxM_pos {wd : Int} {ms : List Mrk} {X : List Int} {now : Int} (ok : AskOk wd ms X now) : 0 < (nxM wd ms X now).length := by
  rw [nxM_ok ok, List.length_map]
  exact askE_pos wd ms X now
end Go.Proofs.Ytingekgcjnkljaa
