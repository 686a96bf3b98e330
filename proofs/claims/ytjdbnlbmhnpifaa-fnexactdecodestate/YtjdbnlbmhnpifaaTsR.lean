
/-
  The laws' helpers on a StateResult: held against each other, marked, marks asked for (written by gens/tsr.py).
-/
import Derived.Test.YtjdbnlbmhnpifaaTsC
namespace Go.Proofs.Ytjdbnlbmhnpifaa
open Go Go.RowKit

set_option maxHeartbeats 2000000 in
theorem eqStateResult_same (w : World) (gd : Bool) (md li : Int) (ho pr : ByteArray) (ea : Int) (g g2 : Nat) (a a2 : Option Addr) (c c2 : Nat) (xs : List Int) (h1 : Rd w g a .u8 xs) (h2 : Rd w g2 a2 .u8 xs) (hn : xs.length ≤ 1048576) (g' g2' : Nat) (a' a2' : Option Addr) (c' c2' : Nat) (ys : List Int) (h1' : Rd w g' a' .u8 ys) (h2' : Rd w g2' a2' .u8 ys) (hn' : ys.length ≤ 1048576) :
    Calls Try.prog 20 #[.agg #[.bool gd, .slice a xs.length c, .slice a' ys.length c', .int .i64 md, .int .i64 li, .string ho, .string pr, .int .i64 ea], .agg #[.bool gd, .slice a2 xs.length c2, .slice a2' ys.length c2', .int .i64 md, .int .i64 li, .string ho, .string pr, .int .i64 ea]] w fun e w' => e = .returned (.bool true) ∧ Below w.heap.size w w' := by
  have n1 : Below w.heap.size w (w.alloc (.cells #[.bool gd, .slice a xs.length c, .slice a' ys.length c', .int .i64 md, .int .i64 li, .string ho, .string pr, .int .i64 ea] 36)) := (Below.refl _ _).alloc (Nat.le_refl _) _
  have n2 : Below (w.alloc (.cells #[.bool gd, .slice a xs.length c, .slice a' ys.length c', .int .i64 md, .int .i64 li, .string ho, .string pr, .int .i64 ea] 36)).heap.size (w.alloc (.cells #[.bool gd, .slice a xs.length c, .slice a' ys.length c', .int .i64 md, .int .i64 li, .string ho, .string pr, .int .i64 ea] 36)) ((w.alloc (.cells #[.bool gd, .slice a xs.length c, .slice a' ys.length c', .int .i64 md, .int .i64 li, .string ho, .string pr, .int .i64 ea] 36)).alloc (.cells #[.bool gd, .slice a2 xs.length c2, .slice a2' ys.length c2', .int .i64 md, .int .i64 li, .string ho, .string pr, .int .i64 ea] 36)) := (Below.refl _ _).alloc (Nat.le_refl _) _
  have P0 : RwC (w.alloc (.cells #[.bool gd, .slice a xs.length c, .slice a' ys.length c', .int .i64 md, .int .i64 li, .string ho, .string pr, .int .i64 ea] 36)) w.heap.size [.bool gd, .slice a xs.length c, .slice a' ys.length c', .int .i64 md, .int .i64 li, .string ho, .string pr, .int .i64 ea] 36 := RwC.new w _ _
  have P1 : RwC ((w.alloc (.cells #[.bool gd, .slice a xs.length c, .slice a' ys.length c', .int .i64 md, .int .i64 li, .string ho, .string pr, .int .i64 ea] 36)).alloc (.cells #[.bool gd, .slice a2 xs.length c2, .slice a2' ys.length c2', .int .i64 md, .int .i64 li, .string ho, .string pr, .int .i64 ea] 36)) (w.heap.size + 1) [.bool gd, .slice a2 xs.length c2, .slice a2' ys.length c2', .int .i64 md, .int .i64 li, .string ho, .string pr, .int .i64 ea] 36 := by have := RwC.new (w.alloc (.cells #[.bool gd, .slice a xs.length c, .slice a' ys.length c', .int .i64 md, .int .i64 li, .string ho, .string pr, .int .i64 ea] 36)) [.bool gd, .slice a2 xs.length c2, .slice a2' ys.length c2', .int .i64 md, .int .i64 li, .string ho, .string pr, .int .i64 ea] 36; simpa using this
  have N := nxt n1 n2
  replace P0 := P0.up n2
  have E := hide (eqTicketState_same ((w.alloc (.cells #[.bool gd, .slice a xs.length c, .slice a' ys.length c', .int .i64 md, .int .i64 li, .string ho, .string pr, .int .i64 ea] 36)).alloc (.cells #[.bool gd, .slice a2 xs.length c2, .slice a2' ys.length c2', .int .i64 md, .int .i64 li, .string ho, .string pr, .int .i64 ea] 36)) md li ho pr ea g g2 a a2 c c2 xs (h1.up N) (h2.up N) hn g' g2' a' a2' c' c2' ys (h1'.up N) (h2'.up N) hn')
  have p0 : ((w.alloc (.cells #[.bool gd, .slice a xs.length c, .slice a' ys.length c', .int .i64 md, .int .i64 li, .string ho, .string pr, .int .i64 ea] 36)).alloc (.cells #[.bool gd, .slice a2 xs.length c2, .slice a2' ys.length c2', .int .i64 md, .int .i64 li, .string ho, .string pr, .int .i64 ea] 36)).cell? ⟨w.heap.size, 0, none⟩ = some (.bool gd) := P0.cell 0
  have r0 : ((w.alloc (.cells #[.bool gd, .slice a xs.length c, .slice a' ys.length c', .int .i64 md, .int .i64 li, .string ho, .string pr, .int .i64 ea] 36)).alloc (.cells #[.bool gd, .slice a2 xs.length c2, .slice a2' ys.length c2', .int .i64 md, .int .i64 li, .string ho, .string pr, .int .i64 ea] 36)).cell? ⟨w.heap.size + 1, 0, none⟩ = some (.bool gd) := P1.cell 0
  have p1 : ((w.alloc (.cells #[.bool gd, .slice a xs.length c, .slice a' ys.length c', .int .i64 md, .int .i64 li, .string ho, .string pr, .int .i64 ea] 36)).alloc (.cells #[.bool gd, .slice a2 xs.length c2, .slice a2' ys.length c2', .int .i64 md, .int .i64 li, .string ho, .string pr, .int .i64 ea] 36)).cell? ⟨w.heap.size, 1, none⟩ = some (.slice a xs.length c) := P0.cell 1
  have r1 : ((w.alloc (.cells #[.bool gd, .slice a xs.length c, .slice a' ys.length c', .int .i64 md, .int .i64 li, .string ho, .string pr, .int .i64 ea] 36)).alloc (.cells #[.bool gd, .slice a2 xs.length c2, .slice a2' ys.length c2', .int .i64 md, .int .i64 li, .string ho, .string pr, .int .i64 ea] 36)).cell? ⟨w.heap.size + 1, 1, none⟩ = some (.slice a2 xs.length c2) := P1.cell 1
  have p2 : ((w.alloc (.cells #[.bool gd, .slice a xs.length c, .slice a' ys.length c', .int .i64 md, .int .i64 li, .string ho, .string pr, .int .i64 ea] 36)).alloc (.cells #[.bool gd, .slice a2 xs.length c2, .slice a2' ys.length c2', .int .i64 md, .int .i64 li, .string ho, .string pr, .int .i64 ea] 36)).cell? ⟨w.heap.size, 2, none⟩ = some (.slice a' ys.length c') := P0.cell 2
  have r2 : ((w.alloc (.cells #[.bool gd, .slice a xs.length c, .slice a' ys.length c', .int .i64 md, .int .i64 li, .string ho, .string pr, .int .i64 ea] 36)).alloc (.cells #[.bool gd, .slice a2 xs.length c2, .slice a2' ys.length c2', .int .i64 md, .int .i64 li, .string ho, .string pr, .int .i64 ea] 36)).cell? ⟨w.heap.size + 1, 2, none⟩ = some (.slice a2' ys.length c2') := P1.cell 2
  have p3 : ((w.alloc (.cells #[.bool gd, .slice a xs.length c, .slice a' ys.length c', .int .i64 md, .int .i64 li, .string ho, .string pr, .int .i64 ea] 36)).alloc (.cells #[.bool gd, .slice a2 xs.length c2, .slice a2' ys.length c2', .int .i64 md, .int .i64 li, .string ho, .string pr, .int .i64 ea] 36)).cell? ⟨w.heap.size, 3, none⟩ = some (.int .i64 md) := P0.cell 3
  have r3 : ((w.alloc (.cells #[.bool gd, .slice a xs.length c, .slice a' ys.length c', .int .i64 md, .int .i64 li, .string ho, .string pr, .int .i64 ea] 36)).alloc (.cells #[.bool gd, .slice a2 xs.length c2, .slice a2' ys.length c2', .int .i64 md, .int .i64 li, .string ho, .string pr, .int .i64 ea] 36)).cell? ⟨w.heap.size + 1, 3, none⟩ = some (.int .i64 md) := P1.cell 3
  have p4 : ((w.alloc (.cells #[.bool gd, .slice a xs.length c, .slice a' ys.length c', .int .i64 md, .int .i64 li, .string ho, .string pr, .int .i64 ea] 36)).alloc (.cells #[.bool gd, .slice a2 xs.length c2, .slice a2' ys.length c2', .int .i64 md, .int .i64 li, .string ho, .string pr, .int .i64 ea] 36)).cell? ⟨w.heap.size, 4, none⟩ = some (.int .i64 li) := P0.cell 4
  have r4 : ((w.alloc (.cells #[.bool gd, .slice a xs.length c, .slice a' ys.length c', .int .i64 md, .int .i64 li, .string ho, .string pr, .int .i64 ea] 36)).alloc (.cells #[.bool gd, .slice a2 xs.length c2, .slice a2' ys.length c2', .int .i64 md, .int .i64 li, .string ho, .string pr, .int .i64 ea] 36)).cell? ⟨w.heap.size + 1, 4, none⟩ = some (.int .i64 li) := P1.cell 4
  have p5 : ((w.alloc (.cells #[.bool gd, .slice a xs.length c, .slice a' ys.length c', .int .i64 md, .int .i64 li, .string ho, .string pr, .int .i64 ea] 36)).alloc (.cells #[.bool gd, .slice a2 xs.length c2, .slice a2' ys.length c2', .int .i64 md, .int .i64 li, .string ho, .string pr, .int .i64 ea] 36)).cell? ⟨w.heap.size, 5, none⟩ = some (.string ho) := P0.cell 5
  have r5 : ((w.alloc (.cells #[.bool gd, .slice a xs.length c, .slice a' ys.length c', .int .i64 md, .int .i64 li, .string ho, .string pr, .int .i64 ea] 36)).alloc (.cells #[.bool gd, .slice a2 xs.length c2, .slice a2' ys.length c2', .int .i64 md, .int .i64 li, .string ho, .string pr, .int .i64 ea] 36)).cell? ⟨w.heap.size + 1, 5, none⟩ = some (.string ho) := P1.cell 5
  have p6 : ((w.alloc (.cells #[.bool gd, .slice a xs.length c, .slice a' ys.length c', .int .i64 md, .int .i64 li, .string ho, .string pr, .int .i64 ea] 36)).alloc (.cells #[.bool gd, .slice a2 xs.length c2, .slice a2' ys.length c2', .int .i64 md, .int .i64 li, .string ho, .string pr, .int .i64 ea] 36)).cell? ⟨w.heap.size, 6, none⟩ = some (.string pr) := P0.cell 6
  have r6 : ((w.alloc (.cells #[.bool gd, .slice a xs.length c, .slice a' ys.length c', .int .i64 md, .int .i64 li, .string ho, .string pr, .int .i64 ea] 36)).alloc (.cells #[.bool gd, .slice a2 xs.length c2, .slice a2' ys.length c2', .int .i64 md, .int .i64 li, .string ho, .string pr, .int .i64 ea] 36)).cell? ⟨w.heap.size + 1, 6, none⟩ = some (.string pr) := P1.cell 6
  have p7 : ((w.alloc (.cells #[.bool gd, .slice a xs.length c, .slice a' ys.length c', .int .i64 md, .int .i64 li, .string ho, .string pr, .int .i64 ea] 36)).alloc (.cells #[.bool gd, .slice a2 xs.length c2, .slice a2' ys.length c2', .int .i64 md, .int .i64 li, .string ho, .string pr, .int .i64 ea] 36)).cell? ⟨w.heap.size, 7, none⟩ = some (.int .i64 ea) := P0.cell 7
  have r7 : ((w.alloc (.cells #[.bool gd, .slice a xs.length c, .slice a' ys.length c', .int .i64 md, .int .i64 li, .string ho, .string pr, .int .i64 ea] 36)).alloc (.cells #[.bool gd, .slice a2 xs.length c2, .slice a2' ys.length c2', .int .i64 md, .int .i64 li, .string ho, .string pr, .int .i64 ea] 36)).cell? ⟨w.heap.size + 1, 7, none⟩ = some (.int .i64 ea) := P1.cell 7
  clear n1 n2 h1 h2 h1' h2'
  go_enter Try.func20, Try.ntmps20
  go_wp2_with fail
  refine E.out.mono ?_
  rintro e w2 ⟨rfl, m⟩
  go_wp2
  go_ret
  exact ⟨rfl, nxt N m⟩
set_option maxHeartbeats 1000000 in
theorem markStateResult_any (w : World) (gd : Bool) (md li : Int) (ho pr : ByteArray) (ea : Int) (g : Nat) (a : Option Addr) (c : Nat) (xs : List Int) (g' : Nat) (a' : Option Addr) (c' : Nat) (ys : List Int) (m : Int) (ha : Own w g a .u8 xs) (ha' : Own w g' a' .u8 ys) (hn : xs.length ≤ 1048576) (hn' : ys.length ≤ 1048576) (hne : g ≠ g' ∧ g < w.heap.size ∧ g' < w.heap.size) (k0 : 0 ≤ m) (k1 : m ≤ 1000000000) :
    Calls Try.prog 21 #[.agg #[.bool gd, .slice a xs.length c, .slice a' ys.length c', .int .i64 md, .int .i64 li, .string ho, .string pr, .int .i64 ea], .int .i64 m] w fun e w' => e = .returned (.int .i64 (m + (xs.length : Int) + (ys.length : Int))) ∧ Own w' g a .u8 (marks m xs.length) ∧ Own w' g' a' .u8 (marks (m + (xs.length : Int)) ys.length) ∧ Tch [g, g'] w w' := by
  have n1 : Below w.heap.size w (w.alloc (.cells #[.bool gd, .slice a xs.length c, .slice a' ys.length c', .int .i64 md, .int .i64 li, .string ho, .string pr, .int .i64 ea] 36)) := (Below.refl _ _).alloc (Nat.le_refl _) _
  have P0 : RwC (w.alloc (.cells #[.bool gd, .slice a xs.length c, .slice a' ys.length c', .int .i64 md, .int .i64 li, .string ho, .string pr, .int .i64 ea] 36)) w.heap.size [.bool gd, .slice a xs.length c, .slice a' ys.length c', .int .i64 md, .int .i64 li, .string ho, .string pr, .int .i64 ea] 36 := RwC.new w _ _
  have zs := n1.size
  have E := hide (markTicketState_any (w.alloc (.cells #[.bool gd, .slice a xs.length c, .slice a' ys.length c', .int .i64 md, .int .i64 li, .string ho, .string pr, .int .i64 ea] 36)) md li ho pr ea g a c xs g' a' c' ys m (ha.up n1) (ha'.up n1) hn hn' ⟨hne.1, by omega, by omega⟩ k0 k1)
  have p1 : (w.alloc (.cells #[.bool gd, .slice a xs.length c, .slice a' ys.length c', .int .i64 md, .int .i64 li, .string ho, .string pr, .int .i64 ea] 36)).cell? ⟨w.heap.size, 1, none⟩ = some (.slice a xs.length c) := P0.cell 1
  have p2 : (w.alloc (.cells #[.bool gd, .slice a xs.length c, .slice a' ys.length c', .int .i64 md, .int .i64 li, .string ho, .string pr, .int .i64 ea] 36)).cell? ⟨w.heap.size, 2, none⟩ = some (.slice a' ys.length c') := P0.cell 2
  have p3 : (w.alloc (.cells #[.bool gd, .slice a xs.length c, .slice a' ys.length c', .int .i64 md, .int .i64 li, .string ho, .string pr, .int .i64 ea] 36)).cell? ⟨w.heap.size, 3, none⟩ = some (.int .i64 md) := P0.cell 3
  have p4 : (w.alloc (.cells #[.bool gd, .slice a xs.length c, .slice a' ys.length c', .int .i64 md, .int .i64 li, .string ho, .string pr, .int .i64 ea] 36)).cell? ⟨w.heap.size, 4, none⟩ = some (.int .i64 li) := P0.cell 4
  have p5 : (w.alloc (.cells #[.bool gd, .slice a xs.length c, .slice a' ys.length c', .int .i64 md, .int .i64 li, .string ho, .string pr, .int .i64 ea] 36)).cell? ⟨w.heap.size, 5, none⟩ = some (.string ho) := P0.cell 5
  have p6 : (w.alloc (.cells #[.bool gd, .slice a xs.length c, .slice a' ys.length c', .int .i64 md, .int .i64 li, .string ho, .string pr, .int .i64 ea] 36)).cell? ⟨w.heap.size, 6, none⟩ = some (.string pr) := P0.cell 6
  have p7 : (w.alloc (.cells #[.bool gd, .slice a xs.length c, .slice a' ys.length c', .int .i64 md, .int .i64 li, .string ho, .string pr, .int .i64 ea] 36)).cell? ⟨w.heap.size, 7, none⟩ = some (.int .i64 ea) := P0.cell 7
  clear ha ha' hne zs
  go_enter Try.func21, Try.ntmps21
  go_wp2_with fail
  refine E.out.mono ?_
  rintro e w2 ⟨rfl, A1, A2, T⟩
  have A1 := hide A1
  have A2 := hide A2
  go_wp2
  go_ret
  exact ⟨rfl, A1.out, A2.out, ((Tch.of_below (S := []) n1).trans T).mono (by simp)⟩
set_option maxHeartbeats 1000000 in
theorem heldStateResult_any (w : World) (gd : Bool) (md li : Int) (ho pr : ByteArray) (ea : Int) (g : Nat) (a : Option Addr) (c n : Nat) (g' : Nat) (a' : Option Addr) (c' n' : Nat) (m : Int) (ha : Rd w g a .u8 (marks m n)) (ha' : Rd w g' a' .u8 (marks (m + (n : Int)) n')) (hn : n ≤ 1048576) (hn' : n' ≤ 1048576) (k0 : 0 ≤ m) (k1 : m ≤ 1000000000) :
    Calls Try.prog 22 #[.agg #[.bool gd, .slice a n c, .slice a' n' c', .int .i64 md, .int .i64 li, .string ho, .string pr, .int .i64 ea], .int .i64 m] w fun e w' => e = .returned (.int .i64 (m + (n : Int) + (n' : Int))) ∧ Below w.heap.size w w' := by
  have n1 : Below w.heap.size w (w.alloc (.cells #[.bool gd, .slice a n c, .slice a' n' c', .int .i64 md, .int .i64 li, .string ho, .string pr, .int .i64 ea] 36)) := (Below.refl _ _).alloc (Nat.le_refl _) _
  have P0 : RwC (w.alloc (.cells #[.bool gd, .slice a n c, .slice a' n' c', .int .i64 md, .int .i64 li, .string ho, .string pr, .int .i64 ea] 36)) w.heap.size [.bool gd, .slice a n c, .slice a' n' c', .int .i64 md, .int .i64 li, .string ho, .string pr, .int .i64 ea] 36 := RwC.new w _ _
  have E := hide (heldTicketState_any (w.alloc (.cells #[.bool gd, .slice a n c, .slice a' n' c', .int .i64 md, .int .i64 li, .string ho, .string pr, .int .i64 ea] 36)) md li ho pr ea g a c n g' a' c' n' m (ha.up n1) (ha'.up n1) hn hn' k0 k1)
  have t2 : decide (m + (n : Int) + (n' : Int) < 0) = false := by simp; omega
  have p1 : (w.alloc (.cells #[.bool gd, .slice a n c, .slice a' n' c', .int .i64 md, .int .i64 li, .string ho, .string pr, .int .i64 ea] 36)).cell? ⟨w.heap.size, 1, none⟩ = some (.slice a n c) := P0.cell 1
  have p2 : (w.alloc (.cells #[.bool gd, .slice a n c, .slice a' n' c', .int .i64 md, .int .i64 li, .string ho, .string pr, .int .i64 ea] 36)).cell? ⟨w.heap.size, 2, none⟩ = some (.slice a' n' c') := P0.cell 2
  have p3 : (w.alloc (.cells #[.bool gd, .slice a n c, .slice a' n' c', .int .i64 md, .int .i64 li, .string ho, .string pr, .int .i64 ea] 36)).cell? ⟨w.heap.size, 3, none⟩ = some (.int .i64 md) := P0.cell 3
  have p4 : (w.alloc (.cells #[.bool gd, .slice a n c, .slice a' n' c', .int .i64 md, .int .i64 li, .string ho, .string pr, .int .i64 ea] 36)).cell? ⟨w.heap.size, 4, none⟩ = some (.int .i64 li) := P0.cell 4
  have p5 : (w.alloc (.cells #[.bool gd, .slice a n c, .slice a' n' c', .int .i64 md, .int .i64 li, .string ho, .string pr, .int .i64 ea] 36)).cell? ⟨w.heap.size, 5, none⟩ = some (.string ho) := P0.cell 5
  have p6 : (w.alloc (.cells #[.bool gd, .slice a n c, .slice a' n' c', .int .i64 md, .int .i64 li, .string ho, .string pr, .int .i64 ea] 36)).cell? ⟨w.heap.size, 6, none⟩ = some (.string pr) := P0.cell 6
  have p7 : (w.alloc (.cells #[.bool gd, .slice a n c, .slice a' n' c', .int .i64 md, .int .i64 li, .string ho, .string pr, .int .i64 ea] 36)).cell? ⟨w.heap.size, 7, none⟩ = some (.int .i64 ea) := P0.cell 7
  clear ha ha'
  go_enter Try.func22, Try.ntmps22
  go_wp2_with fail
  refine E.out.mono ?_
  rintro e w2 ⟨rfl, m2⟩
  go_wp2
  go_ret
  exact ⟨rfl, nxt n1 m2⟩
end Go.Proofs.Ytjdbnlbmhnpifaa
