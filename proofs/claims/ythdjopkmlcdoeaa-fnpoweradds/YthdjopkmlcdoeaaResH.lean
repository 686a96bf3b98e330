/-
  The laws' helpers on structs of a truth and a slice.
-/
import Derived.Test.YthdjopkmlcdoeaaAddS
namespace Go.Proofs.Ythdjopkmlcdoeaa
open Go.RowKit

/-- Of what was there nothing but block g has turned. -/
structure But (g : Nat) (w w' : World) : Prop where
  os : w'.os = w.os
  tape : w'.tape = w.tape
  output : w'.output = w.output
  size : w.heap.size ≤ w'.heap.size
  block : ∀ k, k < w.heap.size → k ≠ g → w'.heap[k]? = w.heap[k]?
theorem But.of {g : Nat} {a b c : World} (h : Below a.heap.size a b) (k : Only g b c) : But g a c :=
  ⟨k.os.trans h.os, k.tape.trans h.tape, k.output.trans h.output, by rw [k.size]; exact h.size, fun i hi hne => (k.block i hne).trans (h.block i hi)⟩
theorem But.below {g B : Nat} {w w' : World} (h : But g w w') (hB : B ≤ g) (hs : B ≤ w.heap.size) : Below B w w' := ⟨h.os, h.tape, h.output, h.size, fun k hk => h.block k (by omega) (by omega)⟩
theorem Own.but {w w' : World} {g g' : Nat} {a : Option Addr} {k : IntKind} {xs : List Int} (h : Own w g a k xs) (ho : But g' w w') (hne : 0 < xs.length → g ≠ g') : Own w' g a k xs := by
  by_cases h0 : 0 < xs.length
  · exact h.of_block (ho.block g (h.rd.lt h0) (hne h0))
  · exact fun h1 => absurd h1 h0
theorem Two.but {w w' : World} {p g : Nat} {x y : Value} (h : Two w p x y) (n : But g w w') (hne : p ≠ g) : Two w' p x y := h.of_block (n.block p h.lt hne)

set_option maxHeartbeats 1000000 in
theorem eqNumResult_same (w : World) (t : Bool) (g g' : Nat) (a b : Option Addr) (ca cb : Nat) (ys : List Int) (ha : Rd w g a .u8 ys) (hb : Rd w g' b .u8 ys) (hn : ys.length ≤ 1048576) :
    Calls Try.prog 26 #[.agg #[.bool t, .slice a ys.length ca], .agg #[.bool t, .slice b ys.length cb]] w fun e w' => e = .returned (.bool true) ∧ Below w.heap.size w w' := by
  have n1 : Below w.heap.size w (w.alloc (.cells #[.bool t, .slice a ys.length ca] 31)) := (Below.refl _ _).alloc (Nat.le_refl _) _
  have n2 : Below w.heap.size w ((w.alloc (.cells #[.bool t, .slice a ys.length ca] 31)).alloc (.cells #[.bool t, .slice b ys.length cb] 31)) := n1.alloc (by simp) _
  cases t
  all_goals
    go_enter Try.func26, Try.ntmps26
    go_wp2_with fail
    refine (eqByteS_same _ g g' a b ca cb ys (ha.up n2) (hb.up n2) hn).mono ?_
    rintro e w3 ⟨rfl, n3⟩
    go_wp2
    go_ret
    exact ⟨rfl, nxt n2 n3⟩

set_option maxHeartbeats 1000000 in
theorem markNumResult_any (w : World) (t : Bool) (g : Nat) (a : Option Addr) (ca : Nat) (ys : List Int) (k : Int) (ha : Own w g a .u8 ys) (hn : ys.length ≤ 1048576) (k0 : 0 ≤ k) (k1 : k ≤ 1099511627776) :
    Calls Try.prog 27 #[.agg #[.bool t, .slice a ys.length ca], .int .i64 k] w fun e w' => e = .returned (.int .i64 (k + (ys.length : Int))) ∧ Own w' g a .u8 (marks k ys.length) ∧ But g w w' := by
  have n1 : Below w.heap.size w (w.alloc (.cells #[.bool t, .slice a ys.length ca] 31)) := (Below.refl _ _).alloc (Nat.le_refl _) _
  go_enter Try.func27, Try.ntmps27
  go_wp2_with fail
  refine (markByteS_any _ g a ca ys k (ha.up n1) hn k0 k1).mono ?_
  rintro e w2 ⟨rfl, o2, O2⟩
  go_wp2
  go_ret
  exact ⟨rfl, o2, But.of n1 O2⟩

set_option maxHeartbeats 1000000 in
theorem heldNumResult_any (w : World) (t : Bool) (g : Nat) (a : Option Addr) (ca n : Nat) (k : Int) (ha : Rd w g a .u8 (marks k n)) (hn : n ≤ 1048576) (k0 : 0 ≤ k) (k1 : k ≤ 1099511627776) :
    Calls Try.prog 28 #[.agg #[.bool t, .slice a n ca], .int .i64 k] w fun e w' => e = .returned (.int .i64 (k + (n : Int))) ∧ Below w.heap.size w w' := by
  have n1 : Below w.heap.size w (w.alloc (.cells #[.bool t, .slice a n ca] 31)) := (Below.refl _ _).alloc (Nat.le_refl _) _
  have t1 : decide (k + (n : Int) < 0) = false := by simp; omega
  go_enter Try.func28, Try.ntmps28
  go_wp2_with fail
  refine (heldByteS_any _ g a ca n k (ha.up n1) hn k0 k1).mono ?_
  rintro e w2 ⟨rfl, rfl⟩
  go_wp2
  go_ret
  exact ⟨rfl, n1⟩
end Go.Proofs.Ythdjopkmlcdoeaa
