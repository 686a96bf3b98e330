
/-
  Messages: what the kinds take over.
-/
import Derived.Test.YtfckjoheiabfoaaMgH
import Derived.BigRegion
import Derived.Deep.RegionWith
namespace Go.Proofs.Ytfckjoheiabfoaa
open Go Go.RowKit

theorem RwC.free {w : World} {q : Nat} {cs : List Value} {t : TypeId} (h : RwC w q cs t) (i : Nat) : w.frozen? ⟨q, i, none⟩ = false := frozen_of_row w q i _ t h
theorem RwC.set {w : World} {q : Nat} {cs : List Value} {t : TypeId} (h : RwC w q cs t) (i : Nat) (v : Value) : RwC (w.setCell ⟨q, i, none⟩ v) q (cs.set i v) t := by
  show (w.heap.modify q _)[q]? = _
  rw [Array.getElem?_modify, if_pos rfl, show w.heap[q]? = _ from h]
  simp
theorem RwC.push {w : World} {q : Nat} {cs : List Value} {t : TypeId} (h : RwC w q cs t) (o : Obj) : RwC (w.alloc o) q cs t := h.up ((Below.refl _ _).alloc (Nat.le_refl _) o)
theorem RwC.drew1 {w : World} {q : Nat} {cs : List Value} {t : TypeId} (h : RwC w q cs t) : RwC w.drew q cs t := h
theorem RwC.drews {w : World} {q : Nat} {cs : List Value} {t : TypeId} (h : RwC w q cs t) (n : Nat) : RwC (w.drewN n) q cs t := h

/-- All blocks but q are as they were. -/
structure Oth (q : Nat) (w w' : World) : Prop where
  os : w'.os = w.os
  tape : w'.tape = w.tape
  output : w'.output = w.output
  size : w.heap.size ≤ w'.heap.size
  block : ∀ k, k < w.heap.size → k ≠ q → w'.heap[k]? = w.heap[k]?
theorem Oth.refl (q : Nat) (w : World) : Oth q w w := ⟨rfl, rfl, rfl, Nat.le_refl _, fun _ _ _ => rfl⟩
theorem Oth.trans {q : Nat} {a b c : World} (h : Oth q a b) (k : Oth q b c) : Oth q a c :=
  ⟨k.os.trans h.os, k.tape.trans h.tape, k.output.trans h.output, Nat.le_trans h.size k.size, fun i hi hn => (k.block i (Nat.lt_of_lt_of_le hi h.size) hn).trans (h.block i hi hn)⟩
theorem Oth.of {q : Nat} {w w' : World} (h : Below w.heap.size w w') : Oth q w w' := ⟨h.os, h.tape, h.output, h.size, fun k hk _ => h.block k hk⟩
theorem Oth.alloc {q : Nat} {a w : World} (h : Oth q a w) (o : Obj) : Oth q a (w.alloc o) := h.trans (Oth.of ((Below.refl _ _).alloc (Nat.le_refl _) o))
theorem Oth.drew {q : Nat} {a w : World} (h : Oth q a w) : Oth q a w.drew := ⟨h.os, h.tape, h.output, h.size, h.block⟩
theorem Oth.drews {q : Nat} {a w : World} (h : Oth q a w) (n : Nat) : Oth q a (w.drewN n) := ⟨h.os, h.tape, h.output, h.size, h.block⟩
theorem Oth.setCell {q : Nat} {a w : World} (h : Oth q a w) (i : Nat) (v : Value) : Oth q a (w.setCell ⟨q, i, none⟩ v) :=
  h.trans ⟨rfl, rfl, rfl, by simp [World.setCell], fun k _ hk => Below.heap_setCell _ _ _ _ hk⟩
theorem Oth.below {q B : Nat} {w w' : World} (h : Oth q w w') (hq : B ≤ q) (hB : B ≤ w.heap.size) : Below B w w' := ⟨h.os, h.tape, h.output, h.size, fun k hk => h.block k (by omega) (by omega)⟩
theorem RwC.oth {w w' : World} {q r : Nat} {cs : List Value} {t : TypeId} (h : RwC w q cs t) (n : Oth r w w') (hne : q ≠ r) : RwC w' q cs t := (n.block q h.lt hne).trans h

section
variable (w : World) (q : Nat) (t : TypeId) (us : List Value) (u0 u1 u2 u3 u4 u5 u6 u7 u8 : Value) (k v ag ea : Int) (a2 a3 a5 a6 a9 a11 a12 : Option Addr) (n2 n3 n5 n6 n9 n11 n12 c2 c3 c5 c6 c9 c11 c12 : Nat) (ho : ByteArray) (rs : Bool)
set_option maxHeartbeats 400000 in
theorem firstTake_any (h : RwC w q (u0 :: u1 :: u2 :: us) t) :
    Calls Try.prog 71 #[.pointer (some ⟨q, 0, none⟩), .agg #[Value.int .i64 k, Value.int .i64 v, Value.slice a2 n2 c2, Value.slice a3 n3 c3, Value.string ho, Value.slice a5 n5 c5, Value.slice a6 n6 c6, Value.int .i64 ag, Value.int .i64 ea, Value.slice a9 n9 c9, Value.bool rs, Value.slice a11 n11 c11, Value.slice a12 n12 c12]] w fun e w' => e = .returned (.tuple #[]) ∧ Oth q w w' ∧ RwC w' q (Value.int .i64 v :: Value.slice a2 n2 c2 :: Value.slice a3 n3 c3 :: us) t := by
  have lt := h.lt
  have nq : w.heap.size ≠ q := by omega
  have qn : q ≠ w.heap.size := by omega
  have h0 : w.cell? ⟨q, 0, none⟩ = some u0 := h.cell 0
  have f0 := h.free 0
  have h1 : w.cell? ⟨q, 1, none⟩ = some u1 := h.cell 1
  have f1 := h.free 1
  have h2 : w.cell? ⟨q, 2, none⟩ = some u2 := h.cell 2
  have f2 := h.free 2
  have H := hide h
  clear h
  go_enter Try.func71, Try.ntmps71
  go_wp2
  go_region
  go_end0
  refine ⟨rfl, ?_, ?_⟩
  · repeat (with_reducible first | exact Oth.refl _ _ | apply Oth.drew | apply Oth.drews | apply Oth.alloc | apply Oth.setCell)
  · repeat (with_reducible first | apply RwC.drew1 | apply RwC.drews | apply RwC.push)
    exact (((H.out.set 0 _).set 1 _).set 2 _)
set_option maxHeartbeats 400000 in
theorem ticketTake_any (h : RwC w q ([u0, u1, u2, u3]) t) :
    Calls Try.prog 83 #[.pointer (some ⟨q, 0, none⟩), .agg #[Value.int .i64 k, Value.int .i64 v, Value.slice a2 n2 c2, Value.slice a3 n3 c3, Value.string ho, Value.slice a5 n5 c5, Value.slice a6 n6 c6, Value.int .i64 ag, Value.int .i64 ea, Value.slice a9 n9 c9, Value.bool rs, Value.slice a11 n11 c11, Value.slice a12 n12 c12]] w fun e w' => e = .returned (.tuple #[]) ∧ Oth q w w' ∧ RwC w' q ([Value.int .i64 ag, Value.int .i64 ea, Value.slice a2 n2 c2, Value.slice a6 n6 c6]) t := by
  have lt := h.lt
  have nq : w.heap.size ≠ q := by omega
  have qn : q ≠ w.heap.size := by omega
  have h0 : w.cell? ⟨q, 0, none⟩ = some u0 := h.cell 0
  have f0 := h.free 0
  have h1 : w.cell? ⟨q, 1, none⟩ = some u1 := h.cell 1
  have f1 := h.free 1
  have h2 : w.cell? ⟨q, 2, none⟩ = some u2 := h.cell 2
  have f2 := h.free 2
  have h3 : w.cell? ⟨q, 3, none⟩ = some u3 := h.cell 3
  have f3 := h.free 3
  have H := hide h
  clear h
  go_enter Try.func83, Try.ntmps83
  go_wp2
  go_region
  go_end0
  refine ⟨rfl, ?_, ?_⟩
  · repeat (with_reducible first | exact Oth.refl _ _ | apply Oth.drew | apply Oth.drews | apply Oth.alloc | apply Oth.setCell)
  · repeat (with_reducible first | apply RwC.drew1 | apply RwC.drews | apply RwC.push)
    exact ((((H.out.set 0 _).set 1 _).set 2 _).set 3 _)
set_option maxHeartbeats 400000 in
theorem extrasTake_any (h : RwC w q ([u0, u1]) t) :
    Calls Try.prog 91 #[.pointer (some ⟨q, 0, none⟩), .agg #[Value.int .i64 k, Value.int .i64 v, Value.slice a2 n2 c2, Value.slice a3 n3 c3, Value.string ho, Value.slice a5 n5 c5, Value.slice a6 n6 c6, Value.int .i64 ag, Value.int .i64 ea, Value.slice a9 n9 c9, Value.bool rs, Value.slice a11 n11 c11, Value.slice a12 n12 c12]] w fun e w' => e = .returned (.tuple #[]) ∧ Oth q w w' ∧ RwC w' q ([Value.slice a5 n5 c5, Value.int .i64 ea]) t := by
  have lt := h.lt
  have nq : w.heap.size ≠ q := by omega
  have qn : q ≠ w.heap.size := by omega
  have h0 : w.cell? ⟨q, 0, none⟩ = some u0 := h.cell 0
  have f0 := h.free 0
  have h1 : w.cell? ⟨q, 1, none⟩ = some u1 := h.cell 1
  have f1 := h.free 1
  have H := hide h
  clear h
  go_enter Try.func91, Try.ntmps91
  go_wp2
  go_region
  go_end0
  refine ⟨rfl, ?_, ?_⟩
  · repeat (with_reducible first | exact Oth.refl _ _ | apply Oth.drew | apply Oth.drews | apply Oth.alloc | apply Oth.setCell)
  · repeat (with_reducible first | apply RwC.drew1 | apply RwC.drews | apply RwC.push)
    exact ((H.out.set 0 _).set 1 _)
set_option maxHeartbeats 400000 in
theorem certsTake_any (h : RwC w q ([u0]) t) :
    Calls Try.prog 95 #[.pointer (some ⟨q, 0, none⟩), .agg #[Value.int .i64 k, Value.int .i64 v, Value.slice a2 n2 c2, Value.slice a3 n3 c3, Value.string ho, Value.slice a5 n5 c5, Value.slice a6 n6 c6, Value.int .i64 ag, Value.int .i64 ea, Value.slice a9 n9 c9, Value.bool rs, Value.slice a11 n11 c11, Value.slice a12 n12 c12]] w fun e w' => e = .returned (.tuple #[]) ∧ Oth q w w' ∧ RwC w' q ([Value.slice a11 n11 c11]) t := by
  have lt := h.lt
  have nq : w.heap.size ≠ q := by omega
  have qn : q ≠ w.heap.size := by omega
  have h0 : w.cell? ⟨q, 0, none⟩ = some u0 := h.cell 0
  have f0 := h.free 0
  have H := hide h
  clear h
  go_enter Try.func95, Try.ntmps95
  go_wp2
  go_end0
  refine ⟨rfl, ?_, ?_⟩
  · repeat (with_reducible first | exact Oth.refl _ _ | apply Oth.drew | apply Oth.drews | apply Oth.alloc | apply Oth.setCell)
  · repeat (with_reducible first | apply RwC.drew1 | apply RwC.drews | apply RwC.push)
    exact (H.out.set 0 _)
set_option maxHeartbeats 400000 in
theorem proofTake_any (h : RwC w q ([u0]) t) :
    Calls Try.prog 102 #[.pointer (some ⟨q, 0, none⟩), .agg #[Value.int .i64 k, Value.int .i64 v, Value.slice a2 n2 c2, Value.slice a3 n3 c3, Value.string ho, Value.slice a5 n5 c5, Value.slice a6 n6 c6, Value.int .i64 ag, Value.int .i64 ea, Value.slice a9 n9 c9, Value.bool rs, Value.slice a11 n11 c11, Value.slice a12 n12 c12]] w fun e w' => e = .returned (.tuple #[]) ∧ Oth q w w' ∧ RwC w' q ([Value.slice a12 n12 c12]) t := by
  have lt := h.lt
  have nq : w.heap.size ≠ q := by omega
  have qn : q ≠ w.heap.size := by omega
  have h0 : w.cell? ⟨q, 0, none⟩ = some u0 := h.cell 0
  have f0 := h.free 0
  have H := hide h
  clear h
  go_enter Try.func102, Try.ntmps102
  go_wp2
  go_end0
  refine ⟨rfl, ?_, ?_⟩
  · repeat (with_reducible first | exact Oth.refl _ _ | apply Oth.drew | apply Oth.drews | apply Oth.alloc | apply Oth.setCell)
  · repeat (with_reducible first | apply RwC.drew1 | apply RwC.drews | apply RwC.push)
    exact (H.out.set 0 _)
set_option maxHeartbeats 400000 in
theorem finishedTake_any (h : RwC w q ([u0]) t) :
    Calls Try.prog 106 #[.pointer (some ⟨q, 0, none⟩), .agg #[Value.int .i64 k, Value.int .i64 v, Value.slice a2 n2 c2, Value.slice a3 n3 c3, Value.string ho, Value.slice a5 n5 c5, Value.slice a6 n6 c6, Value.int .i64 ag, Value.int .i64 ea, Value.slice a9 n9 c9, Value.bool rs, Value.slice a11 n11 c11, Value.slice a12 n12 c12]] w fun e w' => e = .returned (.tuple #[]) ∧ Oth q w w' ∧ RwC w' q ([Value.slice a12 n12 c12]) t := by
  have lt := h.lt
  have nq : w.heap.size ≠ q := by omega
  have qn : q ≠ w.heap.size := by omega
  have h0 : w.cell? ⟨q, 0, none⟩ = some u0 := h.cell 0
  have f0 := h.free 0
  have H := hide h
  clear h
  go_enter Try.func106, Try.ntmps106
  go_wp2
  go_end0
  refine ⟨rfl, ?_, ?_⟩
  · repeat (with_reducible first | exact Oth.refl _ _ | apply Oth.drew | apply Oth.drews | apply Oth.alloc | apply Oth.setCell)
  · repeat (with_reducible first | apply RwC.drew1 | apply RwC.drews | apply RwC.push)
    exact (H.out.set 0 _)
set_option maxHeartbeats 400000 in
theorem updateTake_any (h : RwC w q ([u0]) t) :
    Calls Try.prog 110 #[.pointer (some ⟨q, 0, none⟩), .agg #[Value.int .i64 k, Value.int .i64 v, Value.slice a2 n2 c2, Value.slice a3 n3 c3, Value.string ho, Value.slice a5 n5 c5, Value.slice a6 n6 c6, Value.int .i64 ag, Value.int .i64 ea, Value.slice a9 n9 c9, Value.bool rs, Value.slice a11 n11 c11, Value.slice a12 n12 c12]] w fun e w' => e = .returned (.tuple #[]) ∧ Oth q w w' ∧ RwC w' q ([Value.int .i64 ea]) t := by
  have lt := h.lt
  have nq : w.heap.size ≠ q := by omega
  have qn : q ≠ w.heap.size := by omega
  have h0 : w.cell? ⟨q, 0, none⟩ = some u0 := h.cell 0
  have f0 := h.free 0
  have H := hide h
  clear h
  go_enter Try.func110, Try.ntmps110
  go_wp2
  go_end0
  refine ⟨rfl, ?_, ?_⟩
  · repeat (with_reducible first | exact Oth.refl _ _ | apply Oth.drew | apply Oth.drews | apply Oth.alloc | apply Oth.setCell)
  · repeat (with_reducible first | apply RwC.drew1 | apply RwC.drews | apply RwC.push)
    exact (H.out.set 0 _)
theorem endTake_any (x : Value) :
    Calls Try.prog 87 #[x, .agg #[Value.int .i64 k, Value.int .i64 v, Value.slice a2 n2 c2, Value.slice a3 n3 c3, Value.string ho, Value.slice a5 n5 c5, Value.slice a6 n6 c6, Value.int .i64 ag, Value.int .i64 ea, Value.slice a9 n9 c9, Value.bool rs, Value.slice a11 n11 c11, Value.slice a12 n12 c12]] w fun e w' => e = .returned (.tuple #[]) ∧ Below w.heap.size w w' := by
  go_enter Try.func87, Try.ntmps87
  go_wp2
  go_end0
  exact ⟨rfl, (Below.refl _ _).alloc (Nat.le_refl _) _⟩
end
end Go.Proofs.Ytfckjoheiabfoaa
