import Derived.Test.YtmmbkkfjiaoeiaaGreatGV4
import Derived.BigRegion
import Derived.Deep.RegionWith
import Derived.Deep.MidRow
namespace Go.Proofs.YtmmbkkfjiaoeiaaGreat
open Go Go.RowKit
structure Oth (q : Nat) (w w' : World) : Prop where
  os : w'.os = w.os
  tape : w'.tape = w.tape
  output : w'.output = w.output
  size : w.heap.size ≤ w'.heap.size
  block : ∀ k, k < w.heap.size → k ≠ q → w'.heap[k]? = w.heap[k]?
theorem Oth.refl (q : Nat) (w : World) : Oth q w w := ⟨rfl, rfl, rfl, Nat.le_refl _, fun _ _ _ => rfl⟩
theorem Oth.trans {q : Nat} {a b c : World} (h : Oth q a b) (k : Oth q b c) : Oth q a c :=
  ⟨k.os.trans h.os, k.tape.trans h.tape, k.output.trans h.output, Nat.le_trans h.size k.size, fun i hi hn => (k.block i (Nat.lt_of_lt_of_le hi h.size) hn).trans (h.block i hi hn)⟩
theorem Oth.of {q : Nat} {w w' : World} (h : Below w.heap.size w w') : Oth q w w' := ⟨h.os, h.tape, h.output, h.size, fun k hk _ => h.block k hk⟩
theorem Oth.alloc {q : Nat} {a w : World} (h : Oth q a w) (o : Obj) : Oth q a (w.alloc o) := h.trans (Oth.of ((Below.refl _ _).alloc (Nat.le_refl _) o))
theorem Oth.drew {q : Nat} {a w : World} (h : Oth q a w) : Oth q a w.drew := ⟨h.os, h.tape, h.output, h.size, h.block⟩
theorem Oth.drews {q : Nat} {a w : World} (h : Oth q a w) (n : Nat) : Oth q a (w.drewN n) := ⟨h.os, h.tape, h.output, h.size, h.block⟩
theorem Oth.setCell {q : Nat} {a w : World} (h : Oth q a w) (i : Nat) (v : Value) : Oth q a (w.setCell ⟨q, i, none⟩ v) :=
  h.trans ⟨rfl, rfl, rfl, by simp [World.setCell], fun k _ hk => Below.heap_setCell _ _ _ _ hk⟩
theorem Oth.below {q B : Nat} {w w' : World} (h : Oth q w w') (hq : B ≤ q) (hB : B ≤ w.heap.size) : Below B w w' := ⟨h.os, h.tape, h.output, h.size, fun k hk => h.block k (by omega) (by omega)⟩
theorem RwC.oth {w w' : World} {q r : Nat} {cs : List Value} {t : TypeId} (h : RwC w q cs t) (n : Oth r w w') (hne : q ≠ r) : RwC w' q cs t := (n.block q h.lt hne).trans h
section
variable (w : World) (q : Nat) (t : TypeId) (us : List Value) (u0 u1 u2 u3 u4 u5 u6 u7 u8 : Value) (k v ag ea : Int) (a2 a3 a5 a6 a9 a11 a12 : Option Addr) (n2 n3 n5 n6 n9 n11 n12 c2 c3 c5 c6 c9 c11 c12 : Nat) (ho : ByteArray) (rs : Bool)
set_option maxHeartbeats 400000 in
theorem firstTake_any (h : RwC w q (u0 :: u1 :: u2 :: us) t) :
    Calls Tryz.prog 106 #[.pointer (some ⟨q, 0, none⟩), .agg #[Value.int .i64 k, Value.int .i64 v, Value.slice a2 n2 c2, Value.slice a3 n3 c3, Value.string ho, Value.slice a5 n5 c5, Value.slice a6 n6 c6, Value.int .i64 ag, Value.int .i64 ea, Value.slice a9 n9 c9, Value.bool rs, Value.slice a11 n11 c11, Value.slice a12 n12 c12]] w fun e w' => e = .returned (.tuple #[]) ∧ Oth q w w' ∧ RwC w' q (Value.int .i64 v :: Value.slice a2 n2 c2 :: Value.slice a3 n3 c3 :: us) t := by
  have lt := h.lt
  have nq : w.heap.size ≠ q := by omega
  have qn : q ≠ w.heap.size := by omega
  have h0 : w.cell? ⟨q, 0, none⟩ = some u0 := h.cell 0
  have f0 := h.free 0
  have h1 : w.cell? ⟨q, 1, none⟩ = some u1 := h.cell 1
  have f1 := h.free 1
  have h2 : w.cell? ⟨q, 2, none⟩ = some u2 := h.cell 2
  have f2 := h.free 2
  have H := hide h
  clear h
  go_enter Tryz.func106, Tryz.ntmps106
  go_wp2
  go_region
  go_end0
  refine ⟨rfl, ?_, ?_⟩
  · repeat (with_reducible first | exact Oth.refl _ _ | apply Oth.drew | apply Oth.drews | apply Oth.alloc | apply Oth.setCell)
  · repeat (with_reducible first | apply RwC.drew1 | apply RwC.drews | apply RwC.push)
    exact (((H.out.set 0 _).set 1 _).set 2 _)
set_option maxHeartbeats 400000 in
theorem ticketTake_any (h : RwC w q ([u0, u1, u2, u3]) t) :
    Calls Tryz.prog 120 #[.pointer (some ⟨q, 0, none⟩), .agg #[Value.int .i64 k, Value.int .i64 v, Value.slice a2 n2 c2, Value.slice a3 n3 c3, Value.string ho, Value.slice a5 n5 c5, Value.slice a6 n6 c6, Value.int .i64 ag, Value.int .i64 ea, Value.slice a9 n9 c9, Value.bool rs, Value.slice a11 n11 c11, Value.slice a12 n12 c12]] w fun e w' => e = .returned (.tuple #[]) ∧ Oth q w w' ∧ RwC w' q ([Value.int .i64 ag, Value.int .i64 ea, Value.slice a2 n2 c2, Value.slice a6 n6 c6]) t := by
  have lt := h.lt
  have nq : w.heap.size ≠ q := by omega
  have qn : q ≠ w.heap.size := by omega
  have h0 : w.cell? ⟨q, 0, none⟩ = some u0 := h.cell 0
  have f0 := h.free 0
  have h1 : w.cell? ⟨q, 1, none⟩ = some u1 := h.cell 1
  have f1 := h.free 1
  have h2 : w.cell? ⟨q, 2, none⟩ = some u2 := h.cell 2
  have f2 := h.free 2
  have h3 : w.cell? ⟨q, 3, none⟩ = some u3 := h.cell 3
  have f3 := h.free 3
  have H := hide h
  clear h
  go_enter Tryz.func120, Tryz.ntmps120
  go_wp2
  go_region
  go_end0
  refine ⟨rfl, ?_, ?_⟩
  · repeat (with_reducible first | exact Oth.refl _ _ | apply Oth.drew | apply Oth.drews | apply Oth.alloc | apply Oth.setCell)
  · repeat (with_reducible first | apply RwC.drew1 | apply RwC.drews | apply RwC.push)
    exact ((((H.out.set 0 _).set 1 _).set 2 _).set 3 _)
set_option maxHeartbeats 400000 in
theorem extrasTake_any (h : RwC w q ([u0, u1]) t) :
    Calls Tryz.prog 128 #[.pointer (some ⟨q, 0, none⟩), .agg #[Value.int .i64 k, Value.int .i64 v, Value.slice a2 n2 c2, Value.slice a3 n3 c3, Value.string ho, Value.slice a5 n5 c5, Value.slice a6 n6 c6, Value.int .i64 ag, Value.int .i64 ea, Value.slice a9 n9 c9, Value.bool rs, Value.slice a11 n11 c11, Value.slice a12 n12 c12]] w fun e w' => e = .returned (.tuple #[]) ∧ Oth q w w' ∧ RwC w' q ([Value.slice a5 n5 c5, Value.int .i64 ea]) t := by
  have lt := h.lt
  have nq : w.heap.size ≠ q := by omega
  have qn : q ≠ w.heap.size := by omega
  have h0 : w.cell? ⟨q, 0, none⟩ = some u0 := h.cell 0
  have f0 := h.free 0
  have h1 : w.cell? ⟨q, 1, none⟩ = some u1 := h.cell 1
  have f1 := h.free 1
  have H := hide h
  clear h
  go_enter Tryz.func128, Tryz.ntmps128
  go_wp2
  go_region
  go_end0
  refine ⟨rfl, ?_, ?_⟩
  · repeat (with_reducible first | exact Oth.refl _ _ | apply Oth.drew | apply Oth.drews | apply Oth.alloc | apply Oth.setCell)
  · repeat (with_reducible first | apply RwC.drew1 | apply RwC.drews | apply RwC.push)
    exact ((H.out.set 0 _).set 1 _)
set_option maxHeartbeats 400000 in
theorem certsTake_any (h : RwC w q ([u0]) t) :
    Calls Tryz.prog 132 #[.pointer (some ⟨q, 0, none⟩), .agg #[Value.int .i64 k, Value.int .i64 v, Value.slice a2 n2 c2, Value.slice a3 n3 c3, Value.string ho, Value.slice a5 n5 c5, Value.slice a6 n6 c6, Value.int .i64 ag, Value.int .i64 ea, Value.slice a9 n9 c9, Value.bool rs, Value.slice a11 n11 c11, Value.slice a12 n12 c12]] w fun e w' => e = .returned (.tuple #[]) ∧ Oth q w w' ∧ RwC w' q ([Value.slice a11 n11 c11]) t := by
  have lt := h.lt
  have nq : w.heap.size ≠ q := by omega
  have qn : q ≠ w.heap.size := by omega
  have h0 : w.cell? ⟨q, 0, none⟩ = some u0 := h.cell 0
  have f0 := h.free 0
  have H := hide h
  clear h
  go_enter Tryz.func132, Tryz.ntmps132
  go_wp2
  go_end0
  refine ⟨rfl, ?_, ?_⟩
  · repeat (with_reducible first | exact Oth.refl _ _ | apply Oth.drew | apply Oth.drews | apply Oth.alloc | apply Oth.setCell)
  · repeat (with_reducible first | apply RwC.drew1 | apply RwC.drews | apply RwC.push)
    exact (H.out.set 0 _)
set_option maxHeartbeats 400000 in
theorem proofTake_any (h : RwC w q ([u0]) t) :
    Calls Tryz.prog 139 #[.pointer (some ⟨q, 0, none⟩), .agg #[Value.int .i64 k, Value.int .i64 v, Value.slice a2 n2 c2, Value.slice a3 n3 c3, Value.string ho, Value.slice a5 n5 c5, Value.slice a6 n6 c6, Value.int .i64 ag, Value.int .i64 ea, Value.slice a9 n9 c9, Value.bool rs, Value.slice a11 n11 c11, Value.slice a12 n12 c12]] w fun e w' => e = .returned (.tuple #[]) ∧ Oth q w w' ∧ RwC w' q ([Value.slice a12 n12 c12]) t := by
  have lt := h.lt
  have nq : w.heap.size ≠ q := by omega
  have qn : q ≠ w.heap.size := by omega
  have h0 : w.cell? ⟨q, 0, none⟩ = some u0 := h.cell 0
  have f0 := h.free 0
  have H := hide h
  clear h
  go_enter Tryz.func139, Tryz.ntmps139
  go_wp2
  go_end0
  refine ⟨rfl, ?_, ?_⟩
  · repeat (with_reducible first | exact Oth.refl _ _ | apply Oth.drew | apply Oth.drews | apply Oth.alloc | apply Oth.setCell)
  · repeat (with_reducible first | apply RwC.drew1 | apply RwC.drews | apply RwC.push)
    exact (H.out.set 0 _)
set_option maxHeartbeats 400000 in
theorem finishedTake_any (h : RwC w q ([u0]) t) :
    Calls Tryz.prog 144 #[.pointer (some ⟨q, 0, none⟩), .agg #[Value.int .i64 k, Value.int .i64 v, Value.slice a2 n2 c2, Value.slice a3 n3 c3, Value.string ho, Value.slice a5 n5 c5, Value.slice a6 n6 c6, Value.int .i64 ag, Value.int .i64 ea, Value.slice a9 n9 c9, Value.bool rs, Value.slice a11 n11 c11, Value.slice a12 n12 c12]] w fun e w' => e = .returned (.tuple #[]) ∧ Oth q w w' ∧ RwC w' q ([Value.slice a12 n12 c12]) t := by
  have lt := h.lt
  have nq : w.heap.size ≠ q := by omega
  have qn : q ≠ w.heap.size := by omega
  have h0 : w.cell? ⟨q, 0, none⟩ = some u0 := h.cell 0
  have f0 := h.free 0
  have H := hide h
  clear h
  go_enter Tryz.func144, Tryz.ntmps144
  go_wp2
  go_end0
  refine ⟨rfl, ?_, ?_⟩
  · repeat (with_reducible first | exact Oth.refl _ _ | apply Oth.drew | apply Oth.drews | apply Oth.alloc | apply Oth.setCell)
  · repeat (with_reducible first | apply RwC.drew1 | apply RwC.drews | apply RwC.push)
    exact (H.out.set 0 _)
set_option maxHeartbeats 400000 in
theorem updateTake_any (h : RwC w q ([u0]) t) :
    Calls Tryz.prog 148 #[.pointer (some ⟨q, 0, none⟩), .agg #[Value.int .i64 k, Value.int .i64 v, Value.slice a2 n2 c2, Value.slice a3 n3 c3, Value.string ho, Value.slice a5 n5 c5, Value.slice a6 n6 c6, Value.int .i64 ag, Value.int .i64 ea, Value.slice a9 n9 c9, Value.bool rs, Value.slice a11 n11 c11, Value.slice a12 n12 c12]] w fun e w' => e = .returned (.tuple #[]) ∧ Oth q w w' ∧ RwC w' q ([Value.int .i64 ea]) t := by
  have lt := h.lt
  have nq : w.heap.size ≠ q := by omega
  have qn : q ≠ w.heap.size := by omega
  have h0 : w.cell? ⟨q, 0, none⟩ = some u0 := h.cell 0
  have f0 := h.free 0
  have H := hide h
  clear h
  go_enter Tryz.func148, Tryz.ntmps148
  go_wp2
  go_end0
  refine ⟨rfl, ?_, ?_⟩
  · repeat (with_reducible first | exact Oth.refl _ _ | apply Oth.drew | apply Oth.drews | apply Oth.alloc | apply Oth.setCell)
  · repeat (with_reducible first | apply RwC.drew1 | apply RwC.drews | apply RwC.push)
    exact (H.out.set 0 _)
theorem endTake_any (x : Value) :
    Calls Tryz.prog 124 #[x, .agg #[Value.int .i64 k, Value.int .i64 v, Value.slice a2 n2 c2, Value.slice a3 n3 c3, Value.string ho, Value.slice a5 n5 c5, Value.slice a6 n6 c6, Value.int .i64 ag, Value.int .i64 ea, Value.slice a9 n9 c9, Value.bool rs, Value.slice a11 n11 c11, Value.slice a12 n12 c12]] w fun e w' => e = .returned (.tuple #[]) ∧ Below w.heap.size w w' := by
  go_enter Tryz.func124, Tryz.ntmps124
  go_wp2
  go_end0
  exact ⟨rfl, (Below.refl _ _).alloc (Nat.le_refl _) _⟩
end
end Go.Proofs.YtmmbkkfjiaoeiaaGreat
namespace Go.Proofs.YtmmbkkfjiaoeiaaGreat
open Go Go.RowKit
section
variable (w : World) (q : Nat) (t : TypeId) (us : List Value) (u0 u1 u2 u3 u4 u5 u6 u7 u8 : Value) (k v ag ea : Int) (a2 a3 a5 a6 a9 a11 a12 : Option Addr) (n2 n3 n5 n6 n9 n11 n12 c2 c3 c5 c6 c9 c11 c12 : Nat) (ho : ByteArray) (rs : Bool)
set_option maxHeartbeats 1000000 in
theorem answerTake_any (h : RwC w q ([u0, u1, u2, u3]) t) :
    Calls Tryz.prog 116 #[.pointer (some ⟨q, 0, none⟩), .agg #[Value.int .i64 k, Value.int .i64 v, Value.slice a2 n2 c2, Value.slice a3 n3 c3, Value.string ho, Value.slice a5 n5 c5, Value.slice a6 n6 c6, Value.int .i64 ag, Value.int .i64 ea, Value.slice a9 n9 c9, Value.bool rs, Value.slice a11 n11 c11, Value.slice a12 n12 c12]] w fun e w' => e = .returned (.tuple #[]) ∧ Oth q w w' ∧ RwC w' q ([Value.int .i64 v, Value.slice a2 n2 c2, Value.slice a3 n3 c3, Value.bool rs]) t := by
  have lt := h.lt
  have nq : w.heap.size ≠ q := by omega
  have qn : q ≠ w.heap.size := by omega
  have HC := hide (fun W (H : RwC W q ([u0, u1, u2, u3]) t) => firstTake_any W q t [u3] u0 u1 u2 k v ag ea a2 a3 a5 a6 a9 a11 a12 n2 n3 n5 n6 n9 n11 n12 c2 c3 c5 c6 c9 c11 c12 ho rs H)
  have n1 := hide (show RwC (w.alloc (.cells #[Value.int .i64 k, Value.int .i64 v, Value.slice a2 n2 c2, Value.slice a3 n3 c3, Value.string ho, Value.slice a5 n5 c5, Value.slice a6 n6 c6, Value.int .i64 ag, Value.int .i64 ea, Value.slice a9 n9 c9, Value.bool rs, Value.slice a11 n11 c11, Value.slice a12 n12 c12] 26)) w.heap.size _ _ from RwC.new w _ 26)
  have H := hide h
  clear h
  go_enter Tryz.func116, Tryz.ntmps116
  go_wp2
  go_region_with (go_at_call 106; refine ((unhide HC) _ ?_).mono ?_; exact (H.out.push _); rintro e w2 ⟨rfl, K, R⟩)
  have B := hide ((n1.out.drew1).oth K nq)
  have b10 : w2.cell? ⟨w.heap.size, 10, none⟩ = some (Value.bool rs) := B.out.cell 10
  have h3 : w2.cell? ⟨q, 3, none⟩ = some u3 := R.cell 3
  have f3 := R.free 3
  have R2 := hide R
  have K2 := hide K
  clear R K
  go_wp2
  go_end0
  refine ⟨rfl, ?_, ?_⟩
  · repeat (with_reducible first | apply Oth.drew | apply Oth.drews | apply Oth.setCell)
    exact ((Oth.refl q w).alloc _).drew.trans K2.out
  · repeat (with_reducible first | apply RwC.drew1 | apply RwC.drews)
    exact (R2.out.set 3 _)
set_option maxHeartbeats 1000000 in
theorem helloTake_any (h : RwC w q ([u0, u1, u2, u3, u4, u5, u6, u7, u8]) t) :
    Calls Tryz.prog 90 #[.pointer (some ⟨q, 0, none⟩), .agg #[Value.int .i64 k, Value.int .i64 v, Value.slice a2 n2 c2, Value.slice a3 n3 c3, Value.string ho, Value.slice a5 n5 c5, Value.slice a6 n6 c6, Value.int .i64 ag, Value.int .i64 ea, Value.slice a9 n9 c9, Value.bool rs, Value.slice a11 n11 c11, Value.slice a12 n12 c12]] w fun e w' => e = .returned (.tuple #[]) ∧ Oth q w w' ∧ RwC w' q ([Value.int .i64 v, Value.slice a2 n2 c2, Value.slice a3 n3 c3, Value.string ho, Value.slice a5 n5 c5, Value.slice a6 n6 c6, Value.int .i64 ag, Value.int .i64 ea, Value.slice a9 n9 c9]) t := by
  have lt := h.lt
  have nq : w.heap.size ≠ q := by omega
  have qn : q ≠ w.heap.size := by omega
  have HC := hide (fun W (H : RwC W q ([u0, u1, u2, u3, u4, u5, u6, u7, u8]) t) => firstTake_any W q t [u3, u4, u5, u6, u7, u8] u0 u1 u2 k v ag ea a2 a3 a5 a6 a9 a11 a12 n2 n3 n5 n6 n9 n11 n12 c2 c3 c5 c6 c9 c11 c12 ho rs H)
  have n1 := hide (show RwC (w.alloc (.cells #[Value.int .i64 k, Value.int .i64 v, Value.slice a2 n2 c2, Value.slice a3 n3 c3, Value.string ho, Value.slice a5 n5 c5, Value.slice a6 n6 c6, Value.int .i64 ag, Value.int .i64 ea, Value.slice a9 n9 c9, Value.bool rs, Value.slice a11 n11 c11, Value.slice a12 n12 c12] 26)) w.heap.size _ _ from RwC.new w _ 26)
  have H := hide h
  clear h
  go_enter Tryz.func90, Tryz.ntmps90
  go_wp2
  go_region_with (go_at_call 106; refine ((unhide HC) _ ?_).mono ?_; exact (H.out.push _); rintro e w2 ⟨rfl, K, R⟩)
  have B := hide ((n1.out.drew1).oth K nq)
  have b4 : w2.cell? ⟨w.heap.size, 4, none⟩ = some (Value.string ho) := B.out.cell 4
  have b5 : w2.cell? ⟨w.heap.size, 5, none⟩ = some (Value.slice a5 n5 c5) := B.out.cell 5
  have b6 : w2.cell? ⟨w.heap.size, 6, none⟩ = some (Value.slice a6 n6 c6) := B.out.cell 6
  have b7 : w2.cell? ⟨w.heap.size, 7, none⟩ = some (Value.int .i64 ag) := B.out.cell 7
  have b8 : w2.cell? ⟨w.heap.size, 8, none⟩ = some (Value.int .i64 ea) := B.out.cell 8
  have b9 : w2.cell? ⟨w.heap.size, 9, none⟩ = some (Value.slice a9 n9 c9) := B.out.cell 9
  have h3 : w2.cell? ⟨q, 3, none⟩ = some u3 := R.cell 3
  have f3 := R.free 3
  have h4 : w2.cell? ⟨q, 4, none⟩ = some u4 := R.cell 4
  have f4 := R.free 4
  have h5 : w2.cell? ⟨q, 5, none⟩ = some u5 := R.cell 5
  have f5 := R.free 5
  have h6 : w2.cell? ⟨q, 6, none⟩ = some u6 := R.cell 6
  have f6 := R.free 6
  have h7 : w2.cell? ⟨q, 7, none⟩ = some u7 := R.cell 7
  have f7 := R.free 7
  have h8 : w2.cell? ⟨q, 8, none⟩ = some u8 := R.cell 8
  have f8 := R.free 8
  have R2 := hide R
  have K2 := hide K
  clear R K
  go_wp2
  go_region
  go_wp2
  go_region
  go_end0
  refine ⟨rfl, ?_, ?_⟩
  · repeat (with_reducible first | apply Oth.drew | apply Oth.drews | apply Oth.setCell)
    exact ((Oth.refl q w).alloc _).drew.trans K2.out
  · repeat (with_reducible first | apply RwC.drew1 | apply RwC.drews)
    exact ((((((R2.out.set 3 _).set 4 _).set 5 _).set 6 _).set 7 _).set 8 _)
end
end Go.Proofs.YtmmbkkfjiaoeiaaGreat
namespace Go.Proofs.YtmmbkkfjiaoeiaaGreat
open Go Go.RowKit
theorem iM : (Tryz.prog.info? 26).map (·.size) = some 13 := by kernel_rfl
theorem rowM : ∃ d, Tryz.prog.underlying 26 = some d ∧ d.isRow = true := ⟨_, Tryz.underlying26, rfl⟩
theorem results_cellM {P : Program} {fn : Func} {p : Tmp} {ty : TypeId} (h : fn.results = #[.cell p ty]) (tmps : Array Value) (w : World) (g : Nat) (cs : List Value) (d : TypeDesc)
    (hp : tmps.getD p undef = .pointer (some ⟨g, 0, none⟩)) (hc : w.rangeAt g 0 cs) (hu : P.underlying ty = some d) (hd : d.isRow = true) (hi : (P.info? ty).map (·.size) = some cs.length) :
    (results fn tmps).run P w = .ok (.agg cs.toArray) w := by
  have hp' : tmps[p]?.getD undef = .pointer (some ⟨g, 0, none⟩) := by simpa using hp
  simp [results, h, hp', asAddr, run_loadVar_mid w g 0 ty cs d hc hu hd hi]
theorem RwC.range {w : World} {q : Nat} {cs : List Value} {t : TypeId} (h : RwC w q cs t) : w.rangeAt q 0 cs := fun j v hj => by
  rw [Nat.zero_add]
  exact (h.cell j).trans hj
section
variable (w : World) (q : Nat) (t : TypeId) (v ag ea : Int) (a2 a3 a5 a6 a9 a11 a12 : Option Addr) (n2 n3 n5 n6 n9 n11 n12 c2 c3 c5 c6 c9 c11 c12 : Nat) (ho : ByteArray) (rs : Bool)
set_option maxRecDepth 20000 in
set_option maxHeartbeats 1000000 in
theorem plainAnswer_any (h : RwC w q [Value.int .i64 v, Value.slice a2 n2 c2, Value.slice a3 n3 c3, Value.bool rs] t) :
    Calls Tryz.prog 36 #[.iface 77 (.pointer (some ⟨q, 0, none⟩))] w fun e w' => e = .returned (.agg #[Value.int .i64 2, Value.int .i64 v, Value.slice a2 n2 c2, Value.slice a3 n3 c3, Value.string ⟨#[]⟩, Value.slice none 0 0, Value.slice none 0 0, Value.int .i64 0, Value.int .i64 0, Value.slice none 0 0, Value.bool rs, Value.slice none 0 0, Value.slice none 0 0]) ∧ Below w.heap.size w w' := by
  have lt := h.lt
  have nq : w.heap.size ≠ q := by omega
  have qn : q ≠ w.heap.size := by omega
  have h0 : w.cell? ⟨q, 0, none⟩ = some (Value.int .i64 v) := h.cell 0
  have h1 : w.cell? ⟨q, 1, none⟩ = some (Value.slice a2 n2 c2) := h.cell 1
  have h2 : w.cell? ⟨q, 2, none⟩ = some (Value.slice a3 n3 c3) := h.cell 2
  have h3 : w.cell? ⟨q, 3, none⟩ = some (Value.bool rs) := h.cell 3
  have A_helloMessage : ∀ (x : Value) (W : World), (Instr.typeAssert (.iface 77 x) 42 72 true).run Tryz.prog W = .ok (.tuple #[.pointer none, .bool false]) W := fun _ _ => by kernel_rfl
  have A_answerMessage : ∀ (x : Value) (W : World), (Instr.typeAssert (.iface 77 x) 42 77 true).run Tryz.prog W = .ok (.tuple #[x, .bool true]) W := fun _ _ => by kernel_rfl
  clear h
  have RN := hide (RwC.new w [Value.int .i64 2, Value.int .i64 v, Value.slice a2 n2 c2, Value.slice a3 n3 c3, Value.string ⟨#[]⟩, Value.slice none 0 0, Value.slice none 0 0, Value.int .i64 0, Value.int .i64 0, Value.slice none 0 0, Value.bool rs, Value.slice none 0 0, Value.slice none 0 0] 26)
  obtain ⟨d13, hd13, hrow13⟩ := rowM
  go_enter Tryz.func36, Tryz.ntmps36
  go_wp2
  go_region
  go_wp2
  exact bodyPost_ret (v := .agg #[Value.int .i64 2, Value.int .i64 v, Value.slice a2 n2 c2, Value.slice a3 n3 c3, Value.string ⟨#[]⟩, Value.slice none 0 0, Value.slice none 0 0, Value.int .i64 0, Value.int .i64 0, Value.slice none 0 0, Value.bool rs, Value.slice none 0 0, Value.slice none 0 0]) (results_cellM Tryz.results36 _ _ w.heap.size [Value.int .i64 2, Value.int .i64 v, Value.slice a2 n2 c2, Value.slice a3 n3 c3, Value.string ⟨#[]⟩, Value.slice none 0 0, Value.slice none 0 0, Value.int .i64 0, Value.int .i64 0, Value.slice none 0 0, Value.bool rs, Value.slice none 0 0, Value.slice none 0 0] d13 rfl (RN.out.drew1.range) hd13 hrow13 iM) rfl ⟨rfl, ((Below.refl _ _).alloc (Nat.le_refl _) _).drew⟩
set_option maxRecDepth 20000 in
set_option maxHeartbeats 1000000 in
theorem plainTicket_any (h : RwC w q [Value.int .i64 ag, Value.int .i64 ea, Value.slice a2 n2 c2, Value.slice a6 n6 c6] t) :
    Calls Tryz.prog 36 #[.iface 80 (.pointer (some ⟨q, 0, none⟩))] w fun e w' => e = .returned (.agg #[Value.int .i64 4, Value.int .i64 0, Value.slice a2 n2 c2, Value.slice none 0 0, Value.string ⟨#[]⟩, Value.slice none 0 0, Value.slice a6 n6 c6, Value.int .i64 ag, Value.int .i64 ea, Value.slice none 0 0, Value.bool false, Value.slice none 0 0, Value.slice none 0 0]) ∧ Below w.heap.size w w' := by
  have lt := h.lt
  have nq : w.heap.size ≠ q := by omega
  have qn : q ≠ w.heap.size := by omega
  have h0 : w.cell? ⟨q, 0, none⟩ = some (Value.int .i64 ag) := h.cell 0
  have h1 : w.cell? ⟨q, 1, none⟩ = some (Value.int .i64 ea) := h.cell 1
  have h2 : w.cell? ⟨q, 2, none⟩ = some (Value.slice a2 n2 c2) := h.cell 2
  have h3 : w.cell? ⟨q, 3, none⟩ = some (Value.slice a6 n6 c6) := h.cell 3
  have A_helloMessage : ∀ (x : Value) (W : World), (Instr.typeAssert (.iface 80 x) 42 72 true).run Tryz.prog W = .ok (.tuple #[.pointer none, .bool false]) W := fun _ _ => by kernel_rfl
  have A_answerMessage : ∀ (x : Value) (W : World), (Instr.typeAssert (.iface 80 x) 42 77 true).run Tryz.prog W = .ok (.tuple #[.pointer none, .bool false]) W := fun _ _ => by kernel_rfl
  have A_ticketMessage : ∀ (x : Value) (W : World), (Instr.typeAssert (.iface 80 x) 42 80 true).run Tryz.prog W = .ok (.tuple #[x, .bool true]) W := fun _ _ => by kernel_rfl
  clear h
  have RN := hide (RwC.new w [Value.int .i64 4, Value.int .i64 0, Value.slice a2 n2 c2, Value.slice none 0 0, Value.string ⟨#[]⟩, Value.slice none 0 0, Value.slice a6 n6 c6, Value.int .i64 ag, Value.int .i64 ea, Value.slice none 0 0, Value.bool false, Value.slice none 0 0, Value.slice none 0 0] 26)
  obtain ⟨d13, hd13, hrow13⟩ := rowM
  go_enter Tryz.func36, Tryz.ntmps36
  go_wp2
  go_region
  go_wp2
  exact bodyPost_ret (v := .agg #[Value.int .i64 4, Value.int .i64 0, Value.slice a2 n2 c2, Value.slice none 0 0, Value.string ⟨#[]⟩, Value.slice none 0 0, Value.slice a6 n6 c6, Value.int .i64 ag, Value.int .i64 ea, Value.slice none 0 0, Value.bool false, Value.slice none 0 0, Value.slice none 0 0]) (results_cellM Tryz.results36 _ _ w.heap.size [Value.int .i64 4, Value.int .i64 0, Value.slice a2 n2 c2, Value.slice none 0 0, Value.string ⟨#[]⟩, Value.slice none 0 0, Value.slice a6 n6 c6, Value.int .i64 ag, Value.int .i64 ea, Value.slice none 0 0, Value.bool false, Value.slice none 0 0, Value.slice none 0 0] d13 rfl (RN.out.drew1.range) hd13 hrow13 iM) rfl ⟨rfl, ((Below.refl _ _).alloc (Nat.le_refl _) _).drew⟩
set_option maxRecDepth 20000 in
set_option maxHeartbeats 1000000 in
theorem plainEnd_any (x : Value) :
    Calls Tryz.prog 36 #[.iface 83 x] w fun e w' => e = .returned (.agg #[Value.int .i64 5, Value.int .i64 0, Value.slice none 0 0, Value.slice none 0 0, Value.string ⟨#[]⟩, Value.slice none 0 0, Value.slice none 0 0, Value.int .i64 0, Value.int .i64 0, Value.slice none 0 0, Value.bool false, Value.slice none 0 0, Value.slice none 0 0]) ∧ Below w.heap.size w w' := by
  have A_helloMessage : ∀ (x : Value) (W : World), (Instr.typeAssert (.iface 83 x) 42 72 true).run Tryz.prog W = .ok (.tuple #[.pointer none, .bool false]) W := fun _ _ => by kernel_rfl
  have A_answerMessage : ∀ (x : Value) (W : World), (Instr.typeAssert (.iface 83 x) 42 77 true).run Tryz.prog W = .ok (.tuple #[.pointer none, .bool false]) W := fun _ _ => by kernel_rfl
  have A_ticketMessage : ∀ (x : Value) (W : World), (Instr.typeAssert (.iface 83 x) 42 80 true).run Tryz.prog W = .ok (.tuple #[.pointer none, .bool false]) W := fun _ _ => by kernel_rfl
  have A_endOfEarlyMessage : ∀ (x : Value) (W : World), (Instr.typeAssert (.iface 83 x) 42 83 true).run Tryz.prog W = .ok (.tuple #[x, .bool true]) W := fun _ _ => by kernel_rfl
  have RN := hide (RwC.new w [Value.int .i64 5, Value.int .i64 0, Value.slice none 0 0, Value.slice none 0 0, Value.string ⟨#[]⟩, Value.slice none 0 0, Value.slice none 0 0, Value.int .i64 0, Value.int .i64 0, Value.slice none 0 0, Value.bool false, Value.slice none 0 0, Value.slice none 0 0] 26)
  obtain ⟨d13, hd13, hrow13⟩ := rowM
  go_enter Tryz.func36, Tryz.ntmps36
  go_wp2
  exact bodyPost_ret (v := .agg #[Value.int .i64 5, Value.int .i64 0, Value.slice none 0 0, Value.slice none 0 0, Value.string ⟨#[]⟩, Value.slice none 0 0, Value.slice none 0 0, Value.int .i64 0, Value.int .i64 0, Value.slice none 0 0, Value.bool false, Value.slice none 0 0, Value.slice none 0 0]) (results_cellM Tryz.results36 _ _ w.heap.size [Value.int .i64 5, Value.int .i64 0, Value.slice none 0 0, Value.slice none 0 0, Value.string ⟨#[]⟩, Value.slice none 0 0, Value.slice none 0 0, Value.int .i64 0, Value.int .i64 0, Value.slice none 0 0, Value.bool false, Value.slice none 0 0, Value.slice none 0 0] d13 rfl (RN.out.range) hd13 hrow13 iM) rfl ⟨rfl, ((Below.refl _ _).alloc (Nat.le_refl _) _)⟩
set_option maxRecDepth 20000 in
set_option maxHeartbeats 1000000 in
theorem plainExtras_any (h : RwC w q [Value.slice a5 n5 c5, Value.int .i64 ea] t) :
    Calls Tryz.prog 36 #[.iface 86 (.pointer (some ⟨q, 0, none⟩))] w fun e w' => e = .returned (.agg #[Value.int .i64 8, Value.int .i64 0, Value.slice none 0 0, Value.slice none 0 0, Value.string ⟨#[]⟩, Value.slice a5 n5 c5, Value.slice none 0 0, Value.int .i64 0, Value.int .i64 ea, Value.slice none 0 0, Value.bool false, Value.slice none 0 0, Value.slice none 0 0]) ∧ Below w.heap.size w w' := by
  have lt := h.lt
  have nq : w.heap.size ≠ q := by omega
  have qn : q ≠ w.heap.size := by omega
  have h0 : w.cell? ⟨q, 0, none⟩ = some (Value.slice a5 n5 c5) := h.cell 0
  have h1 : w.cell? ⟨q, 1, none⟩ = some (Value.int .i64 ea) := h.cell 1
  have A_helloMessage : ∀ (x : Value) (W : World), (Instr.typeAssert (.iface 86 x) 42 72 true).run Tryz.prog W = .ok (.tuple #[.pointer none, .bool false]) W := fun _ _ => by kernel_rfl
  have A_answerMessage : ∀ (x : Value) (W : World), (Instr.typeAssert (.iface 86 x) 42 77 true).run Tryz.prog W = .ok (.tuple #[.pointer none, .bool false]) W := fun _ _ => by kernel_rfl
  have A_ticketMessage : ∀ (x : Value) (W : World), (Instr.typeAssert (.iface 86 x) 42 80 true).run Tryz.prog W = .ok (.tuple #[.pointer none, .bool false]) W := fun _ _ => by kernel_rfl
  have A_endOfEarlyMessage : ∀ (x : Value) (W : World), (Instr.typeAssert (.iface 86 x) 42 83 true).run Tryz.prog W = .ok (.tuple #[.pointer none, .bool false]) W := fun _ _ => by kernel_rfl
  have A_extrasMessage : ∀ (x : Value) (W : World), (Instr.typeAssert (.iface 86 x) 42 86 true).run Tryz.prog W = .ok (.tuple #[x, .bool true]) W := fun _ _ => by kernel_rfl
  clear h
  have RN := hide (RwC.new w [Value.int .i64 8, Value.int .i64 0, Value.slice none 0 0, Value.slice none 0 0, Value.string ⟨#[]⟩, Value.slice a5 n5 c5, Value.slice none 0 0, Value.int .i64 0, Value.int .i64 ea, Value.slice none 0 0, Value.bool false, Value.slice none 0 0, Value.slice none 0 0] 26)
  obtain ⟨d13, hd13, hrow13⟩ := rowM
  go_enter Tryz.func36, Tryz.ntmps36
  go_wp2
  go_region
  go_wp2
  exact bodyPost_ret (v := .agg #[Value.int .i64 8, Value.int .i64 0, Value.slice none 0 0, Value.slice none 0 0, Value.string ⟨#[]⟩, Value.slice a5 n5 c5, Value.slice none 0 0, Value.int .i64 0, Value.int .i64 ea, Value.slice none 0 0, Value.bool false, Value.slice none 0 0, Value.slice none 0 0]) (results_cellM Tryz.results36 _ _ w.heap.size [Value.int .i64 8, Value.int .i64 0, Value.slice none 0 0, Value.slice none 0 0, Value.string ⟨#[]⟩, Value.slice a5 n5 c5, Value.slice none 0 0, Value.int .i64 0, Value.int .i64 ea, Value.slice none 0 0, Value.bool false, Value.slice none 0 0, Value.slice none 0 0] d13 rfl (RN.out.drew1.range) hd13 hrow13 iM) rfl ⟨rfl, ((Below.refl _ _).alloc (Nat.le_refl _) _).drew⟩
set_option maxRecDepth 20000 in
set_option maxHeartbeats 1000000 in
theorem plainCerts_any (h : RwC w q [Value.slice a11 n11 c11] t) :
    Calls Tryz.prog 36 #[.iface 89 (.pointer (some ⟨q, 0, none⟩))] w fun e w' => e = .returned (.agg #[Value.int .i64 11, Value.int .i64 0, Value.slice none 0 0, Value.slice none 0 0, Value.string ⟨#[]⟩, Value.slice none 0 0, Value.slice none 0 0, Value.int .i64 0, Value.int .i64 0, Value.slice none 0 0, Value.bool false, Value.slice a11 n11 c11, Value.slice none 0 0]) ∧ Below w.heap.size w w' := by
  have lt := h.lt
  have nq : w.heap.size ≠ q := by omega
  have qn : q ≠ w.heap.size := by omega
  have h0 : w.cell? ⟨q, 0, none⟩ = some (Value.slice a11 n11 c11) := h.cell 0
  have A_helloMessage : ∀ (x : Value) (W : World), (Instr.typeAssert (.iface 89 x) 42 72 true).run Tryz.prog W = .ok (.tuple #[.pointer none, .bool false]) W := fun _ _ => by kernel_rfl
  have A_answerMessage : ∀ (x : Value) (W : World), (Instr.typeAssert (.iface 89 x) 42 77 true).run Tryz.prog W = .ok (.tuple #[.pointer none, .bool false]) W := fun _ _ => by kernel_rfl
  have A_ticketMessage : ∀ (x : Value) (W : World), (Instr.typeAssert (.iface 89 x) 42 80 true).run Tryz.prog W = .ok (.tuple #[.pointer none, .bool false]) W := fun _ _ => by kernel_rfl
  have A_endOfEarlyMessage : ∀ (x : Value) (W : World), (Instr.typeAssert (.iface 89 x) 42 83 true).run Tryz.prog W = .ok (.tuple #[.pointer none, .bool false]) W := fun _ _ => by kernel_rfl
  have A_extrasMessage : ∀ (x : Value) (W : World), (Instr.typeAssert (.iface 89 x) 42 86 true).run Tryz.prog W = .ok (.tuple #[.pointer none, .bool false]) W := fun _ _ => by kernel_rfl
  have A_certsMessage : ∀ (x : Value) (W : World), (Instr.typeAssert (.iface 89 x) 42 89 true).run Tryz.prog W = .ok (.tuple #[x, .bool true]) W := fun _ _ => by kernel_rfl
  clear h
  have RN := hide (RwC.new w [Value.int .i64 11, Value.int .i64 0, Value.slice none 0 0, Value.slice none 0 0, Value.string ⟨#[]⟩, Value.slice none 0 0, Value.slice none 0 0, Value.int .i64 0, Value.int .i64 0, Value.slice none 0 0, Value.bool false, Value.slice a11 n11 c11, Value.slice none 0 0] 26)
  obtain ⟨d13, hd13, hrow13⟩ := rowM
  go_enter Tryz.func36, Tryz.ntmps36
  go_wp2
  exact bodyPost_ret (v := .agg #[Value.int .i64 11, Value.int .i64 0, Value.slice none 0 0, Value.slice none 0 0, Value.string ⟨#[]⟩, Value.slice none 0 0, Value.slice none 0 0, Value.int .i64 0, Value.int .i64 0, Value.slice none 0 0, Value.bool false, Value.slice a11 n11 c11, Value.slice none 0 0]) (results_cellM Tryz.results36 _ _ w.heap.size [Value.int .i64 11, Value.int .i64 0, Value.slice none 0 0, Value.slice none 0 0, Value.string ⟨#[]⟩, Value.slice none 0 0, Value.slice none 0 0, Value.int .i64 0, Value.int .i64 0, Value.slice none 0 0, Value.bool false, Value.slice a11 n11 c11, Value.slice none 0 0] d13 rfl (RN.out.range) hd13 hrow13 iM) rfl ⟨rfl, ((Below.refl _ _).alloc (Nat.le_refl _) _)⟩
set_option maxRecDepth 20000 in
set_option maxHeartbeats 1000000 in
theorem plainProof_any (h : RwC w q [Value.slice a12 n12 c12] t) :
    Calls Tryz.prog 36 #[.iface 92 (.pointer (some ⟨q, 0, none⟩))] w fun e w' => e = .returned (.agg #[Value.int .i64 15, Value.int .i64 0, Value.slice none 0 0, Value.slice none 0 0, Value.string ⟨#[]⟩, Value.slice none 0 0, Value.slice none 0 0, Value.int .i64 0, Value.int .i64 0, Value.slice none 0 0, Value.bool false, Value.slice none 0 0, Value.slice a12 n12 c12]) ∧ Below w.heap.size w w' := by
  have lt := h.lt
  have nq : w.heap.size ≠ q := by omega
  have qn : q ≠ w.heap.size := by omega
  have h0 : w.cell? ⟨q, 0, none⟩ = some (Value.slice a12 n12 c12) := h.cell 0
  have A_helloMessage : ∀ (x : Value) (W : World), (Instr.typeAssert (.iface 92 x) 42 72 true).run Tryz.prog W = .ok (.tuple #[.pointer none, .bool false]) W := fun _ _ => by kernel_rfl
  have A_answerMessage : ∀ (x : Value) (W : World), (Instr.typeAssert (.iface 92 x) 42 77 true).run Tryz.prog W = .ok (.tuple #[.pointer none, .bool false]) W := fun _ _ => by kernel_rfl
  have A_ticketMessage : ∀ (x : Value) (W : World), (Instr.typeAssert (.iface 92 x) 42 80 true).run Tryz.prog W = .ok (.tuple #[.pointer none, .bool false]) W := fun _ _ => by kernel_rfl
  have A_endOfEarlyMessage : ∀ (x : Value) (W : World), (Instr.typeAssert (.iface 92 x) 42 83 true).run Tryz.prog W = .ok (.tuple #[.pointer none, .bool false]) W := fun _ _ => by kernel_rfl
  have A_extrasMessage : ∀ (x : Value) (W : World), (Instr.typeAssert (.iface 92 x) 42 86 true).run Tryz.prog W = .ok (.tuple #[.pointer none, .bool false]) W := fun _ _ => by kernel_rfl
  have A_certsMessage : ∀ (x : Value) (W : World), (Instr.typeAssert (.iface 92 x) 42 89 true).run Tryz.prog W = .ok (.tuple #[.pointer none, .bool false]) W := fun _ _ => by kernel_rfl
  have A_proofMessage : ∀ (x : Value) (W : World), (Instr.typeAssert (.iface 92 x) 42 92 true).run Tryz.prog W = .ok (.tuple #[x, .bool true]) W := fun _ _ => by kernel_rfl
  clear h
  have RN := hide (RwC.new w [Value.int .i64 15, Value.int .i64 0, Value.slice none 0 0, Value.slice none 0 0, Value.string ⟨#[]⟩, Value.slice none 0 0, Value.slice none 0 0, Value.int .i64 0, Value.int .i64 0, Value.slice none 0 0, Value.bool false, Value.slice none 0 0, Value.slice a12 n12 c12] 26)
  obtain ⟨d13, hd13, hrow13⟩ := rowM
  go_enter Tryz.func36, Tryz.ntmps36
  go_wp2
  exact bodyPost_ret (v := .agg #[Value.int .i64 15, Value.int .i64 0, Value.slice none 0 0, Value.slice none 0 0, Value.string ⟨#[]⟩, Value.slice none 0 0, Value.slice none 0 0, Value.int .i64 0, Value.int .i64 0, Value.slice none 0 0, Value.bool false, Value.slice none 0 0, Value.slice a12 n12 c12]) (results_cellM Tryz.results36 _ _ w.heap.size [Value.int .i64 15, Value.int .i64 0, Value.slice none 0 0, Value.slice none 0 0, Value.string ⟨#[]⟩, Value.slice none 0 0, Value.slice none 0 0, Value.int .i64 0, Value.int .i64 0, Value.slice none 0 0, Value.bool false, Value.slice none 0 0, Value.slice a12 n12 c12] d13 rfl (RN.out.range) hd13 hrow13 iM) rfl ⟨rfl, ((Below.refl _ _).alloc (Nat.le_refl _) _)⟩
set_option maxRecDepth 20000 in
set_option maxHeartbeats 1000000 in
theorem plainFinished_any (h : RwC w q [Value.slice a12 n12 c12] t) :
    Calls Tryz.prog 36 #[.iface 95 (.pointer (some ⟨q, 0, none⟩))] w fun e w' => e = .returned (.agg #[Value.int .i64 20, Value.int .i64 0, Value.slice none 0 0, Value.slice none 0 0, Value.string ⟨#[]⟩, Value.slice none 0 0, Value.slice none 0 0, Value.int .i64 0, Value.int .i64 0, Value.slice none 0 0, Value.bool false, Value.slice none 0 0, Value.slice a12 n12 c12]) ∧ Below w.heap.size w w' := by
  have lt := h.lt
  have nq : w.heap.size ≠ q := by omega
  have qn : q ≠ w.heap.size := by omega
  have h0 : w.cell? ⟨q, 0, none⟩ = some (Value.slice a12 n12 c12) := h.cell 0
  have A_helloMessage : ∀ (x : Value) (W : World), (Instr.typeAssert (.iface 95 x) 42 72 true).run Tryz.prog W = .ok (.tuple #[.pointer none, .bool false]) W := fun _ _ => by kernel_rfl
  have A_answerMessage : ∀ (x : Value) (W : World), (Instr.typeAssert (.iface 95 x) 42 77 true).run Tryz.prog W = .ok (.tuple #[.pointer none, .bool false]) W := fun _ _ => by kernel_rfl
  have A_ticketMessage : ∀ (x : Value) (W : World), (Instr.typeAssert (.iface 95 x) 42 80 true).run Tryz.prog W = .ok (.tuple #[.pointer none, .bool false]) W := fun _ _ => by kernel_rfl
  have A_endOfEarlyMessage : ∀ (x : Value) (W : World), (Instr.typeAssert (.iface 95 x) 42 83 true).run Tryz.prog W = .ok (.tuple #[.pointer none, .bool false]) W := fun _ _ => by kernel_rfl
  have A_extrasMessage : ∀ (x : Value) (W : World), (Instr.typeAssert (.iface 95 x) 42 86 true).run Tryz.prog W = .ok (.tuple #[.pointer none, .bool false]) W := fun _ _ => by kernel_rfl
  have A_certsMessage : ∀ (x : Value) (W : World), (Instr.typeAssert (.iface 95 x) 42 89 true).run Tryz.prog W = .ok (.tuple #[.pointer none, .bool false]) W := fun _ _ => by kernel_rfl
  have A_proofMessage : ∀ (x : Value) (W : World), (Instr.typeAssert (.iface 95 x) 42 92 true).run Tryz.prog W = .ok (.tuple #[.pointer none, .bool false]) W := fun _ _ => by kernel_rfl
  have A_finishedMessage : ∀ (x : Value) (W : World), (Instr.typeAssert (.iface 95 x) 42 95 true).run Tryz.prog W = .ok (.tuple #[x, .bool true]) W := fun _ _ => by kernel_rfl
  clear h
  have RN := hide (RwC.new w [Value.int .i64 20, Value.int .i64 0, Value.slice none 0 0, Value.slice none 0 0, Value.string ⟨#[]⟩, Value.slice none 0 0, Value.slice none 0 0, Value.int .i64 0, Value.int .i64 0, Value.slice none 0 0, Value.bool false, Value.slice none 0 0, Value.slice a12 n12 c12] 26)
  obtain ⟨d13, hd13, hrow13⟩ := rowM
  go_enter Tryz.func36, Tryz.ntmps36
  go_wp2
  exact bodyPost_ret (v := .agg #[Value.int .i64 20, Value.int .i64 0, Value.slice none 0 0, Value.slice none 0 0, Value.string ⟨#[]⟩, Value.slice none 0 0, Value.slice none 0 0, Value.int .i64 0, Value.int .i64 0, Value.slice none 0 0, Value.bool false, Value.slice none 0 0, Value.slice a12 n12 c12]) (results_cellM Tryz.results36 _ _ w.heap.size [Value.int .i64 20, Value.int .i64 0, Value.slice none 0 0, Value.slice none 0 0, Value.string ⟨#[]⟩, Value.slice none 0 0, Value.slice none 0 0, Value.int .i64 0, Value.int .i64 0, Value.slice none 0 0, Value.bool false, Value.slice none 0 0, Value.slice a12 n12 c12] d13 rfl (RN.out.range) hd13 hrow13 iM) rfl ⟨rfl, ((Below.refl _ _).alloc (Nat.le_refl _) _)⟩
set_option maxRecDepth 20000 in
set_option maxHeartbeats 1000000 in
theorem plainUpdate_any (h : RwC w q [Value.int .i64 ea] t) :
    Calls Tryz.prog 36 #[.iface 97 (.pointer (some ⟨q, 0, none⟩))] w fun e w' => e = .returned (.agg #[Value.int .i64 24, Value.int .i64 0, Value.slice none 0 0, Value.slice none 0 0, Value.string ⟨#[]⟩, Value.slice none 0 0, Value.slice none 0 0, Value.int .i64 0, Value.int .i64 ea, Value.slice none 0 0, Value.bool false, Value.slice none 0 0, Value.slice none 0 0]) ∧ Below w.heap.size w w' := by
  have lt := h.lt
  have nq : w.heap.size ≠ q := by omega
  have qn : q ≠ w.heap.size := by omega
  have h0 : w.cell? ⟨q, 0, none⟩ = some (Value.int .i64 ea) := h.cell 0
  have A_helloMessage : ∀ (x : Value) (W : World), (Instr.typeAssert (.iface 97 x) 42 72 true).run Tryz.prog W = .ok (.tuple #[.pointer none, .bool false]) W := fun _ _ => by kernel_rfl
  have A_answerMessage : ∀ (x : Value) (W : World), (Instr.typeAssert (.iface 97 x) 42 77 true).run Tryz.prog W = .ok (.tuple #[.pointer none, .bool false]) W := fun _ _ => by kernel_rfl
  have A_ticketMessage : ∀ (x : Value) (W : World), (Instr.typeAssert (.iface 97 x) 42 80 true).run Tryz.prog W = .ok (.tuple #[.pointer none, .bool false]) W := fun _ _ => by kernel_rfl
  have A_endOfEarlyMessage : ∀ (x : Value) (W : World), (Instr.typeAssert (.iface 97 x) 42 83 true).run Tryz.prog W = .ok (.tuple #[.pointer none, .bool false]) W := fun _ _ => by kernel_rfl
  have A_extrasMessage : ∀ (x : Value) (W : World), (Instr.typeAssert (.iface 97 x) 42 86 true).run Tryz.prog W = .ok (.tuple #[.pointer none, .bool false]) W := fun _ _ => by kernel_rfl
  have A_certsMessage : ∀ (x : Value) (W : World), (Instr.typeAssert (.iface 97 x) 42 89 true).run Tryz.prog W = .ok (.tuple #[.pointer none, .bool false]) W := fun _ _ => by kernel_rfl
  have A_proofMessage : ∀ (x : Value) (W : World), (Instr.typeAssert (.iface 97 x) 42 92 true).run Tryz.prog W = .ok (.tuple #[.pointer none, .bool false]) W := fun _ _ => by kernel_rfl
  have A_finishedMessage : ∀ (x : Value) (W : World), (Instr.typeAssert (.iface 97 x) 42 95 true).run Tryz.prog W = .ok (.tuple #[.pointer none, .bool false]) W := fun _ _ => by kernel_rfl
  have A_updateMessage : ∀ (x : Value) (W : World), (Instr.typeAssert (.iface 97 x) 42 97 true).run Tryz.prog W = .ok (.tuple #[x, .bool true]) W := fun _ _ => by kernel_rfl
  clear h
  have RN := hide (RwC.new w [Value.int .i64 24, Value.int .i64 0, Value.slice none 0 0, Value.slice none 0 0, Value.string ⟨#[]⟩, Value.slice none 0 0, Value.slice none 0 0, Value.int .i64 0, Value.int .i64 ea, Value.slice none 0 0, Value.bool false, Value.slice none 0 0, Value.slice none 0 0] 26)
  obtain ⟨d13, hd13, hrow13⟩ := rowM
  go_enter Tryz.func36, Tryz.ntmps36
  go_wp2
  exact bodyPost_ret (v := .agg #[Value.int .i64 24, Value.int .i64 0, Value.slice none 0 0, Value.slice none 0 0, Value.string ⟨#[]⟩, Value.slice none 0 0, Value.slice none 0 0, Value.int .i64 0, Value.int .i64 ea, Value.slice none 0 0, Value.bool false, Value.slice none 0 0, Value.slice none 0 0]) (results_cellM Tryz.results36 _ _ w.heap.size [Value.int .i64 24, Value.int .i64 0, Value.slice none 0 0, Value.slice none 0 0, Value.string ⟨#[]⟩, Value.slice none 0 0, Value.slice none 0 0, Value.int .i64 0, Value.int .i64 ea, Value.slice none 0 0, Value.bool false, Value.slice none 0 0, Value.slice none 0 0] d13 rfl (RN.out.range) hd13 hrow13 iM) rfl ⟨rfl, ((Below.refl _ _).alloc (Nat.le_refl _) _)⟩
end
end Go.Proofs.YtmmbkkfjiaoeiaaGreat
namespace Go.Proofs.YtmmbkkfjiaoeiaaGreat
open Go Go.RowKit
theorem newHello_any (w : World) : Calls Tryz.prog 39 #[] w fun e w' => e = .returned (.iface 72 (.pointer (some ⟨w.heap.size, 0, none⟩))) ∧ RwC w' w.heap.size [.int .i64 0, .slice none 0 0, .slice none 0 0, .string ⟨#[]⟩, .slice none 0 0, .slice none 0 0, .int .i64 0, .int .i64 0, .slice none 0 0] 76 ∧ Below w.heap.size w w' := by
  go_enter Tryz.func39, Tryz.ntmps39
  go_wp2
  go_ret
  exact ⟨rfl, RwC.new w _ _, (Below.refl _ _).alloc (Nat.le_refl _) _⟩
theorem newAnswer_any (w : World) : Calls Tryz.prog 40 #[] w fun e w' => e = .returned (.iface 77 (.pointer (some ⟨w.heap.size, 0, none⟩))) ∧ RwC w' w.heap.size [.int .i64 0, .slice none 0 0, .slice none 0 0, .bool false] 79 ∧ Below w.heap.size w w' := by
  go_enter Tryz.func40, Tryz.ntmps40
  go_wp2
  go_ret
  exact ⟨rfl, RwC.new w _ _, (Below.refl _ _).alloc (Nat.le_refl _) _⟩
theorem newTicket_any (w : World) : Calls Tryz.prog 41 #[] w fun e w' => e = .returned (.iface 80 (.pointer (some ⟨w.heap.size, 0, none⟩))) ∧ RwC w' w.heap.size [.int .i64 0, .int .i64 0, .slice none 0 0, .slice none 0 0] 82 ∧ Below w.heap.size w w' := by
  go_enter Tryz.func41, Tryz.ntmps41
  go_wp2
  go_ret
  exact ⟨rfl, RwC.new w _ _, (Below.refl _ _).alloc (Nat.le_refl _) _⟩
theorem newEnd_any (w : World) : Calls Tryz.prog 42 #[] w fun e w' => e = .returned (.iface 83 (.pointer (some ⟨w.heap.size, 0, none⟩))) ∧ RwC w' w.heap.size [] 85 ∧ Below w.heap.size w w' := by
  go_enter Tryz.func42, Tryz.ntmps42
  go_wp2
  go_ret
  exact ⟨rfl, RwC.new w _ _, (Below.refl _ _).alloc (Nat.le_refl _) _⟩
theorem newExtras_any (w : World) : Calls Tryz.prog 43 #[] w fun e w' => e = .returned (.iface 86 (.pointer (some ⟨w.heap.size, 0, none⟩))) ∧ RwC w' w.heap.size [.slice none 0 0, .int .i64 0] 88 ∧ Below w.heap.size w w' := by
  go_enter Tryz.func43, Tryz.ntmps43
  go_wp2
  go_ret
  exact ⟨rfl, RwC.new w _ _, (Below.refl _ _).alloc (Nat.le_refl _) _⟩
theorem newCerts_any (w : World) : Calls Tryz.prog 44 #[] w fun e w' => e = .returned (.iface 89 (.pointer (some ⟨w.heap.size, 0, none⟩))) ∧ RwC w' w.heap.size [.slice none 0 0] 91 ∧ Below w.heap.size w w' := by
  go_enter Tryz.func44, Tryz.ntmps44
  go_wp2
  go_ret
  exact ⟨rfl, RwC.new w _ _, (Below.refl _ _).alloc (Nat.le_refl _) _⟩
theorem newProof_any (w : World) : Calls Tryz.prog 45 #[] w fun e w' => e = .returned (.iface 92 (.pointer (some ⟨w.heap.size, 0, none⟩))) ∧ RwC w' w.heap.size [.slice none 0 0] 94 ∧ Below w.heap.size w w' := by
  go_enter Tryz.func45, Tryz.ntmps45
  go_wp2
  go_ret
  exact ⟨rfl, RwC.new w _ _, (Below.refl _ _).alloc (Nat.le_refl _) _⟩
theorem newFinished_any (w : World) : Calls Tryz.prog 46 #[] w fun e w' => e = .returned (.iface 95 (.pointer (some ⟨w.heap.size, 0, none⟩))) ∧ RwC w' w.heap.size [.slice none 0 0] 96 ∧ Below w.heap.size w w' := by
  go_enter Tryz.func46, Tryz.ntmps46
  go_wp2
  go_ret
  exact ⟨rfl, RwC.new w _ _, (Below.refl _ _).alloc (Nat.le_refl _) _⟩
theorem newUpdate_any (w : World) : Calls Tryz.prog 47 #[] w fun e w' => e = .returned (.iface 97 (.pointer (some ⟨w.heap.size, 0, none⟩))) ∧ RwC w' w.heap.size [.int .i64 0] 99 ∧ Below w.heap.size w w' := by
  go_enter Tryz.func47, Tryz.ntmps47
  go_wp2
  go_ret
  exact ⟨rfl, RwC.new w _ _, (Below.refl _ _).alloc (Nat.le_refl _) _⟩
end Go.Proofs.YtmmbkkfjiaoeiaaGreat
namespace Go.Proofs.YtmmbkkfjiaoeiaaGreat
open Go Go.RowKit
section
variable (w : World) (k v ag ea : Int) (a2 a3 a5 a6 a9 a11 a12 : Option Addr) (n2 n3 n5 n6 n9 n11 n12 c2 c3 c5 c6 c9 c11 c12 : Nat) (ho : ByteArray) (rs : Bool)
set_option maxRecDepth 20000 in
set_option maxHeartbeats 1000000 in
theorem typedNone_any (hk : regV k = .nilFunc) :
    Calls Tryz.prog 16 #[.agg #[Value.int .i64 k, Value.int .i64 v, Value.slice a2 n2 c2, Value.slice a3 n3 c3, Value.string ho, Value.slice a5 n5 c5, Value.slice a6 n6 c6, Value.int .i64 ag, Value.int .i64 ea, Value.slice a9 n9 c9, Value.bool rs, Value.slice a11 n11 c11, Value.slice a12 n12 c12]] w fun e w' => e = .returned (.tuple #[.nilIface, .int .i64 1]) ∧ Below w.heap.size w w' := by
  have B := hide (RwC.new w [Value.int .i64 k, Value.int .i64 v, Value.slice a2 n2 c2, Value.slice a3 n3 c3, Value.string ho, Value.slice a5 n5 c5, Value.slice a6 n6 c6, Value.int .i64 ag, Value.int .i64 ea, Value.slice a9 n9 c9, Value.bool rs, Value.slice a11 n11 c11, Value.slice a12 n12 c12] 26)
  have N := hide (show Below w.heap.size w (w.alloc (.cells #[Value.int .i64 k, Value.int .i64 v, Value.slice a2 n2 c2, Value.slice a3 n3 c3, Value.string ho, Value.slice a5 n5 c5, Value.slice a6 n6 c6, Value.int .i64 ag, Value.int .i64 ea, Value.slice a9 n9 c9, Value.bool rs, Value.slice a11 n11 c11, Value.slice a12 n12 c12] 26)) from (Below.refl _ _).alloc (Nat.le_refl _) _)
  have MK := hide messageKinds_any
  have HK := hide hk
  have eq0 : ∀ W, (binOp .eql 65 .nilFunc .nilFunc).run Tryz.prog W = .ok (.bool true) W := fun _ => by kernel_rfl
  clear hk
  go_enter Tryz.func16, Tryz.ntmps16
  go_wp2
  go_region_with (go_at_call 23; refine (MK.out _).mono ?_; rintro e w1 ⟨rfl, hb, n⟩; have l0 : w1.cell? ⟨w.heap.size, 0, none⟩ = some (.int .i64 k) := (B.out.drew1.up n).cell 0; have lk : (Instr.lookup 54 (.map (some (w.heap.size + 1))) (.int .i64 k) false).run Tryz.prog w1 = .ok .nilFunc w1 := (regLook w1 (w.heap.size + 1) (by simpa using hb) k).trans (by rw [HK.out]); have N1 := hide (nxt N.out.drew n); clear n hb)
  all_goals
    go_wp2
    go_ret2
    exact ⟨rfl, N1.out⟩
end
end Go.Proofs.YtmmbkkfjiaoeiaaGreat
