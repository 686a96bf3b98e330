
/-
  The laws' own helpers for a hash's state: comparing and marking; the model's l6Valid.
-/
import Derived.Test.YtljpjbojdekeiaaDoorLsH
namespace Go.Proofs.YtljpjbojdekeiaaDoor
set_option maxRecDepth 100000
open Go Go.RowKit

set_option maxHeartbeats 2000000 in
theorem eqState_same (w : World) (L : Int) (g1 g2 g3 g4 : Nat) (a1 a2 a3 a4 : Option Addr) (c1 c2 c3 c4 : Nat) (ws rs : List Int) (h1 : Rd w g1 a1 .u8 ws) (h2 : Rd w g2 a2 .u8 rs) (h3 : Rd w g3 a3 .u8 ws) (h4 : Rd w g4 a4 .u8 rs) (lw : ws.length ≤ 1048576) (lr : rs.length ≤ 1048576) :
    Calls Tryd.prog 32 #[.agg #[.int .i64 L, .slice a1 ws.length c1, .slice a2 rs.length c2], .agg #[.int .i64 L, .slice a3 ws.length c3, .slice a4 rs.length c4]] w fun e w' => e = .returned (.bool true) ∧ Below w.heap.size w w' := by
  have T0 := C3.new w (.int .i64 L) (.slice a1 ws.length c1) (.slice a2 rs.length c2) 26
  have n0 : Below w.heap.size w (w.alloc (.cells #[.int .i64 L, .slice a1 ws.length c1, .slice a2 rs.length c2] 26)) := (Below.refl _ _).alloc (Nat.le_refl _) _
  have z0 : (w.alloc (.cells #[.int .i64 L, .slice a1 ws.length c1, .slice a2 rs.length c2] 26)).heap.size = w.heap.size + 1 := by simp
  go_enter Tryd.func32, Tryd.ntmps32
  go_upto_region 1 with fail
  generalize w.alloc (.cells #[.int .i64 L, .slice a1 ws.length c1, .slice a2 rs.length c2] 26) = wa at *
  have n1 : Below wa.heap.size wa (wa.alloc (.cells #[.int .i64 L, .slice a3 ws.length c3, .slice a4 rs.length c4] 26)) := (Below.refl _ _).alloc (Nat.le_refl _) _
  have T1 := C3.new wa (.int .i64 L) (.slice a3 ws.length c3) (.slice a4 rs.length c4) 26
  replace T0 := T0.up n1
  generalize wa.alloc (.cells #[.int .i64 L, .slice a3 ws.length c3, .slice a4 rs.length c4] 26) = wb at *
  rw [z0] at T1
  have N := nxt n0 n1
  clear n0 n1 z0
  have p0 := T0.c0
  have p1 := T0.c1
  have q0 := T1.c0
  have q1 := T1.c1
  go_wp2_with fail
  refine (eqByteS_same wb g1 g3 a1 a3 c1 c3 ws (h1.up N) (h3.up N) lw).mono ?_
  rintro e w1 ⟨rfl, m1⟩
  have p2 := (T0.up m1).c2
  have q2 := (T1.up m1).c2
  have N1 := nxt N m1
  clear p0 p1 q0 q1
  go_wp2_with fail
  refine (eqByteS_same w1 g2 g4 a2 a4 c2 c4 rs (h2.up N1) (h4.up N1) lr).mono ?_
  rintro e w2 ⟨rfl, m2⟩
  go_wp2
  go_ret
  exact ⟨rfl, nxt N1 m2⟩
/-- All blocks but two that were there are as they were. -/
structure Bt2 (g g' : Nat) (w w' : World) : Prop where
  os : w'.os = w.os
  tape : w'.tape = w.tape
  output : w'.output = w.output
  size : w.heap.size ≤ w'.heap.size
  block : ∀ b, b < w.heap.size → b ≠ g → b ≠ g' → w'.heap[b]? = w.heap[b]?
theorem Bt2.below {g g' B : Nat} {a b : World} (h : Bt2 g g' a b) (h1 : B ≤ g) (h2 : B ≤ g') (h3 : B ≤ a.heap.size) : Below B a b := ⟨h.os, h.tape, h.output, h.size, fun k hk => h.block k (by omega) (by omega) (by omega)⟩
theorem Own.bt2 {w w' : World} {g g' p : Nat} {a : Option Addr} {k : IntKind} {xs : List Int} (h : Own w p a k xs) (b : Bt2 g g' w w') (h1 : 0 < xs.length → p ≠ g ∧ p ≠ g') : Own w' p a k xs := by
  by_cases h0 : 0 < xs.length
  · exact h.of_block (b.block p (h.rd.lt h0) (h1 h0).1 (h1 h0).2)
  · exact fun h1 => absurd h1 h0
set_option maxHeartbeats 2000000 in
theorem markState_any (w : World) (L : Int) (g g' : Nat) (ws rs : List Int) (k : Int) (B1 : Blk w g .u8 ws) (B2 : Blk w g' .u8 rs) (hg : g ≠ g') (lw : ws.length ≤ 1048576) (lr : rs.length ≤ 1048576) (k0 : 0 ≤ k) (k1 : k ≤ 4194304) :
    Calls Tryd.prog 34 #[.agg #[.int .i64 L, .slice (some ⟨g, 0, none⟩) ws.length ws.length, .slice (some ⟨g', 0, none⟩) rs.length rs.length], .int .i64 k] w fun e w' => e = .returned (.int .i64 (k + (ws.length : Int) + (rs.length : Int))) ∧ Bt2 g g' w w' := by
  have T0 := C3.new w (.int .i64 L) (.slice (some ⟨g, 0, none⟩) ws.length ws.length) (.slice (some ⟨g', 0, none⟩) rs.length rs.length) 26
  have n0 : Below w.heap.size w (w.alloc (.cells #[.int .i64 L, .slice (some ⟨g, 0, none⟩) ws.length ws.length, .slice (some ⟨g', 0, none⟩) rs.length rs.length] 26)) := (Below.refl _ _).alloc (Nat.le_refl _) _
  have y1 := B1.lt
  have y2 := B2.lt
  go_enter Tryd.func34, Tryd.ntmps34
  go_upto_region 1 with fail
  generalize w.alloc (.cells #[.int .i64 L, .slice (some ⟨g, 0, none⟩) ws.length ws.length, .slice (some ⟨g', 0, none⟩) rs.length rs.length] 26) = wa at *
  have p1 := T0.c1
  go_wp2_with fail
  refine (markByteS_any wa g _ _ ws k (B1.up n0).own0 lw k0 (by omega)).mono ?_
  rintro e w1 ⟨rfl, -, O1⟩
  have T1 := T0.of_block (O1.block w.heap.size (by omega))
  have p2 := T1.c2
  have B2' := (B2.up n0).of_block (O1.block g' (by omega))
  clear p1
  go_wp2_with fail
  refine (markByteS_any w1 g' _ _ rs (k + (ws.length : Int)) B2'.own0 lr (by omega) (by omega)).mono ?_
  rintro e w2 ⟨rfl, -, O2⟩
  have BB : Bt2 g g' w w2 := ⟨O2.os.trans (O1.os.trans n0.os), O2.tape.trans (O1.tape.trans n0.tape), O2.output.trans (O1.output.trans n0.output), by have := n0.size; have := O1.size; have := O2.size; omega, fun b h0 h1 h2 => (O2.block b h2).trans ((O1.block b h1).trans (n0.block b h0))⟩
  clear O1 O2
  go_wp2
  go_ret
  exact ⟨rfl, BB⟩
/-- A state that is valid. -/
def vld (L : Int) (nw nr : Nat) : Bool := decide (0 ≤ L) && decide (L ≤ 1099511627776) && (nw == 32) && ((nr : Int) == L.tmod 64)
set_option maxHeartbeats 2000000 in
theorem l6Valid_any (w : World) (L : Int) (a a' : Option Addr) (nw nr c c' : Nat) :
    Calls Tryd.prog 66 #[.agg #[.int .i64 L, .slice a nw c, .slice a' nr c']] w fun e w' => e = .returned (.bool (vld L nw nr)) ∧ Below w.heap.size w w' := by
  have T0 := C3.new w (.int .i64 L) (.slice a nw c) (.slice a' nr c') 26
  have n0 : Below w.heap.size w (w.alloc (.cells #[.int .i64 L, .slice a nw c, .slice a' nr c'] 26)) := (Below.refl _ _).alloc (Nat.le_refl _) _
  unfold vld
  cases t0 : decide (0 ≤ L) with
  | false =>
    go_enter Tryd.func66, Tryd.ntmps66
    go_upto_region 1 with fail
    generalize w.alloc (.cells #[.int .i64 L, .slice a nw c, .slice a' nr c'] 26) = wa at *
    have p0 := T0.c0
    go_wp2
    go_ret
    exact ⟨by simp, n0⟩
  | true =>
    cases t1 : decide (L ≤ 1099511627776) with
    | false =>
      go_enter Tryd.func66, Tryd.ntmps66
      go_upto_region 1 with fail
      generalize w.alloc (.cells #[.int .i64 L, .slice a nw c, .slice a' nr c'] 26) = wa at *
      have p0 := T0.c0
      go_wp2
      go_ret
      exact ⟨by simp, n0⟩
    | true =>
      cases t2 : (nw == 32) with
      | false =>
        have t2' : ((nw : Int) == 32) = false := by
          have : nw ≠ 32 := by simpa using t2
          simp; omega
        go_enter Tryd.func66, Tryd.ntmps66
        go_upto_region 1 with fail
        generalize w.alloc (.cells #[.int .i64 L, .slice a nw c, .slice a' nr c'] 26) = wa at *
        have p0 := T0.c0
        have p1 := T0.c1
        go_wp2
        go_ret
        exact ⟨by simp, n0⟩
      | true =>
        have t2' : ((nw : Int) == 32) = true := by
          have : nw = 32 := by simpa using t2
          simp; omega
        go_enter Tryd.func66, Tryd.ntmps66
        go_upto_region 1 with fail
        generalize w.alloc (.cells #[.int .i64 L, .slice a nw c, .slice a' nr c'] 26) = wa at *
        have p0 := T0.c0
        have p1 := T0.c1
        have p2 := T0.c2
        go_wp2
        go_ret
        exact ⟨by simp, n0⟩
end Go.Proofs.YtljpjbojdekeiaaDoor
