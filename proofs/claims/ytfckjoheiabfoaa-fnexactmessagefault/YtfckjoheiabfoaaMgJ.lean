
/-
  Messages: what Hello and Answer take over.
-/
import Derived.Test.YtfckjoheiabfoaaMgI
namespace Go.Proofs.Ytfckjoheiabfoaa
open Go Go.RowKit

section
variable (w : World) (q : Nat) (t : TypeId) (us : List Value) (u0 u1 u2 u3 u4 u5 u6 u7 u8 : Value) (k v ag ea : Int) (a2 a3 a5 a6 a9 a11 a12 : Option Addr) (n2 n3 n5 n6 n9 n11 n12 c2 c3 c5 c6 c9 c11 c12 : Nat) (ho : ByteArray) (rs : Bool)
set_option maxHeartbeats 1000000 in
theorem answerTake_any (h : RwC w q ([u0, u1, u2, u3]) t) :
    Calls Try.prog 79 #[.pointer (some ⟨q, 0, none⟩), .agg #[Value.int .i64 k, Value.int .i64 v, Value.slice a2 n2 c2, Value.slice a3 n3 c3, Value.string ho, Value.slice a5 n5 c5, Value.slice a6 n6 c6, Value.int .i64 ag, Value.int .i64 ea, Value.slice a9 n9 c9, Value.bool rs, Value.slice a11 n11 c11, Value.slice a12 n12 c12]] w fun e w' => e = .returned (.tuple #[]) ∧ Oth q w w' ∧ RwC w' q ([Value.int .i64 v, Value.slice a2 n2 c2, Value.slice a3 n3 c3, Value.bool rs]) t := by
  have lt := h.lt
  have nq : w.heap.size ≠ q := by omega
  have qn : q ≠ w.heap.size := by omega
  have HC := hide (fun W (H : RwC W q ([u0, u1, u2, u3]) t) => firstTake_any W q t [u3] u0 u1 u2 k v ag ea a2 a3 a5 a6 a9 a11 a12 n2 n3 n5 n6 n9 n11 n12 c2 c3 c5 c6 c9 c11 c12 ho rs H)
  have n1 := hide (show RwC (w.alloc (.cells #[Value.int .i64 k, Value.int .i64 v, Value.slice a2 n2 c2, Value.slice a3 n3 c3, Value.string ho, Value.slice a5 n5 c5, Value.slice a6 n6 c6, Value.int .i64 ag, Value.int .i64 ea, Value.slice a9 n9 c9, Value.bool rs, Value.slice a11 n11 c11, Value.slice a12 n12 c12] 31)) w.heap.size _ _ from RwC.new w _ 31)
  have H := hide h
  clear h
  go_enter Try.func79, Try.ntmps79
  go_wp2
  go_region_with (go_at_call 71; refine ((unhide HC) _ ?_).mono ?_; exact (H.out.push _); rintro e w2 ⟨rfl, K, R⟩)
  have B := hide ((n1.out.drew1).oth K nq)
  have b10 : w2.cell? ⟨w.heap.size, 10, none⟩ = some (Value.bool rs) := B.out.cell 10
  have h3 : w2.cell? ⟨q, 3, none⟩ = some u3 := R.cell 3
  have f3 := R.free 3
  have R2 := hide R
  have K2 := hide K
  clear R K
  go_wp2
  go_end0
  refine ⟨rfl, ?_, ?_⟩
  · repeat (with_reducible first | apply Oth.drew | apply Oth.drews | apply Oth.setCell)
    exact ((Oth.refl q w).alloc _).drew.trans K2.out
  · repeat (with_reducible first | apply RwC.drew1 | apply RwC.drews)
    exact (R2.out.set 3 _)
set_option maxHeartbeats 1000000 in
theorem helloTake_any (h : RwC w q ([u0, u1, u2, u3, u4, u5, u6, u7, u8]) t) :
    Calls Try.prog 64 #[.pointer (some ⟨q, 0, none⟩), .agg #[Value.int .i64 k, Value.int .i64 v, Value.slice a2 n2 c2, Value.slice a3 n3 c3, Value.string ho, Value.slice a5 n5 c5, Value.slice a6 n6 c6, Value.int .i64 ag, Value.int .i64 ea, Value.slice a9 n9 c9, Value.bool rs, Value.slice a11 n11 c11, Value.slice a12 n12 c12]] w fun e w' => e = .returned (.tuple #[]) ∧ Oth q w w' ∧ RwC w' q ([Value.int .i64 v, Value.slice a2 n2 c2, Value.slice a3 n3 c3, Value.string ho, Value.slice a5 n5 c5, Value.slice a6 n6 c6, Value.int .i64 ag, Value.int .i64 ea, Value.slice a9 n9 c9]) t := by
  have lt := h.lt
  have nq : w.heap.size ≠ q := by omega
  have qn : q ≠ w.heap.size := by omega
  have HC := hide (fun W (H : RwC W q ([u0, u1, u2, u3, u4, u5, u6, u7, u8]) t) => firstTake_any W q t [u3, u4, u5, u6, u7, u8] u0 u1 u2 k v ag ea a2 a3 a5 a6 a9 a11 a12 n2 n3 n5 n6 n9 n11 n12 c2 c3 c5 c6 c9 c11 c12 ho rs H)
  have n1 := hide (show RwC (w.alloc (.cells #[Value.int .i64 k, Value.int .i64 v, Value.slice a2 n2 c2, Value.slice a3 n3 c3, Value.string ho, Value.slice a5 n5 c5, Value.slice a6 n6 c6, Value.int .i64 ag, Value.int .i64 ea, Value.slice a9 n9 c9, Value.bool rs, Value.slice a11 n11 c11, Value.slice a12 n12 c12] 31)) w.heap.size _ _ from RwC.new w _ 31)
  have H := hide h
  clear h
  go_enter Try.func64, Try.ntmps64
  go_wp2
  go_region_with (go_at_call 71; refine ((unhide HC) _ ?_).mono ?_; exact (H.out.push _); rintro e w2 ⟨rfl, K, R⟩)
  have B := hide ((n1.out.drew1).oth K nq)
  have b4 : w2.cell? ⟨w.heap.size, 4, none⟩ = some (Value.string ho) := B.out.cell 4
  have b5 : w2.cell? ⟨w.heap.size, 5, none⟩ = some (Value.slice a5 n5 c5) := B.out.cell 5
  have b6 : w2.cell? ⟨w.heap.size, 6, none⟩ = some (Value.slice a6 n6 c6) := B.out.cell 6
  have b7 : w2.cell? ⟨w.heap.size, 7, none⟩ = some (Value.int .i64 ag) := B.out.cell 7
  have b8 : w2.cell? ⟨w.heap.size, 8, none⟩ = some (Value.int .i64 ea) := B.out.cell 8
  have b9 : w2.cell? ⟨w.heap.size, 9, none⟩ = some (Value.slice a9 n9 c9) := B.out.cell 9
  have h3 : w2.cell? ⟨q, 3, none⟩ = some u3 := R.cell 3
  have f3 := R.free 3
  have h4 : w2.cell? ⟨q, 4, none⟩ = some u4 := R.cell 4
  have f4 := R.free 4
  have h5 : w2.cell? ⟨q, 5, none⟩ = some u5 := R.cell 5
  have f5 := R.free 5
  have h6 : w2.cell? ⟨q, 6, none⟩ = some u6 := R.cell 6
  have f6 := R.free 6
  have h7 : w2.cell? ⟨q, 7, none⟩ = some u7 := R.cell 7
  have f7 := R.free 7
  have h8 : w2.cell? ⟨q, 8, none⟩ = some u8 := R.cell 8
  have f8 := R.free 8
  have R2 := hide R
  have K2 := hide K
  clear R K
  go_wp2
  go_region
  go_wp2
  go_region
  go_end0
  refine ⟨rfl, ?_, ?_⟩
  · repeat (with_reducible first | apply Oth.drew | apply Oth.drews | apply Oth.setCell)
    exact ((Oth.refl q w).alloc _).drew.trans K2.out
  · repeat (with_reducible first | apply RwC.drew1 | apply RwC.drews)
    exact ((((((R2.out.set 3 _).set 4 _).set 5 _).set 6 _).set 7 _).set 8 _)
end
end Go.Proofs.Ytfckjoheiabfoaa
