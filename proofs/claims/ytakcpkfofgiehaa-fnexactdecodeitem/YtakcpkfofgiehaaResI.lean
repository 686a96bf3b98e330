
/-
  The laws' helpers on what DecodeItem answers.
-/
import Derived.Test.YtakcpkfofgiehaaFoA
namespace Go.Proofs.Ytakcpkfofgiehaa
open Go Go.RowKit

theorem NewT.at {B B' : Nat} {w : World} {e : Ending} {b : Bool} {t n : Int} {ys : List Int} (h : NewT B w e b t ys n) (h1 : B' ≤ B) (h2 : B' < w.heap.size) :
    ∃ (a : Option Addr) (c g : Nat), e = .returned (.agg #[.bool b, .int .i64 t, .slice a ys.length c, .int .i64 n]) ∧ Own w g a .u8 ys ∧ B' ≤ g ∧ g < w.heap.size ∧ (0 < ys.length → B ≤ g) := by
  obtain ⟨a, c, g, he, o, _, _, hg⟩ := h
  by_cases h0 : 0 < ys.length
  · exact ⟨a, c, g, he, o, by omega, o.rd.lt h0, fun _ => hg⟩
  · obtain rfl : ys = [] := List.eq_nil_of_length_eq_zero (by omega)
    exact ⟨a, c, B', he, Own.nil _ _ _ _, Nat.le_refl _, h2, fun h => absurd h (by simp)⟩
set_option maxHeartbeats 1000000 in
theorem eqItemResult_same (w : World) (t : Bool) (u v : Int) (g g' : Nat) (a b : Option Addr) (ca cb : Nat) (ys : List Int) (ha : Rd w g a .u8 ys) (hb : Rd w g' b .u8 ys) (hn : ys.length ≤ 1048576) :
    Calls Try.prog 23 #[.agg #[.bool t, .int .i64 u, .slice a ys.length ca, .int .i64 v], .agg #[.bool t, .int .i64 u, .slice b ys.length cb, .int .i64 v]] w fun e w' => e = .returned (.bool true) ∧ Below w.heap.size w w' := by
  have n1 : Below w.heap.size w (w.alloc (.cells #[.bool t, .int .i64 u, .slice a ys.length ca, .int .i64 v] 36)) := (Below.refl _ _).alloc (Nat.le_refl _) _
  have n2 : Below w.heap.size w ((w.alloc (.cells #[.bool t, .int .i64 u, .slice a ys.length ca, .int .i64 v] 36)).alloc (.cells #[.bool t, .int .i64 u, .slice b ys.length cb, .int .i64 v] 36)) := n1.alloc (by simp) _
  have T1 := (Fo.new w (.bool t) (.int .i64 u) (.slice a ys.length ca) (.int .i64 v) 36).up ((Below.refl _ _).alloc (Nat.le_refl _) (.cells #[.bool t, .int .i64 u, .slice b ys.length cb, .int .i64 v] 36))
  have T2 := Fo.new (w.alloc (.cells #[.bool t, .int .i64 u, .slice a ys.length ca, .int .i64 v] 36)) (.bool t) (.int .i64 u) (.slice b ys.length cb) (.int .i64 v) 36
  have z1 : (w.alloc (.cells #[.bool t, .int .i64 u, .slice a ys.length ca, .int .i64 v] 36)).heap.size = w.heap.size + 1 := by simp
  rw [z1] at T2
  clear z1
  cases t
  all_goals
    go_enter Try.func23, Try.ntmps23
    go_wp2_with fail
    refine (eqByteS_same _ g g' a b ca cb ys (ha.up n2) (hb.up n2) hn).mono ?_
    rintro e w3 ⟨rfl, n3⟩
    have U1 := (T1.up n3).c3
    have U2 := (T2.up n3).c3
    go_wp2
    go_ret
    exact ⟨rfl, nxt n2 n3⟩
set_option maxHeartbeats 1000000 in
theorem markItemResult_any (w : World) (t : Bool) (u v : Int) (g : Nat) (a : Option Addr) (ca : Nat) (ys : List Int) (k : Int) (ha : Own w g a .u8 ys) (hn : ys.length ≤ 1048576) (k0 : 0 ≤ k) (k1 : k ≤ 1099511627776) :
    Calls Try.prog 24 #[.agg #[.bool t, .int .i64 u, .slice a ys.length ca, .int .i64 v], .int .i64 k] w fun e w' => e = .returned (.int .i64 (k + (ys.length : Int))) ∧ Own w' g a .u8 (marks k ys.length) ∧ ∃ w1, Below w.heap.size w w1 ∧ Only g w1 w' := by
  have n1 : Below w.heap.size w (w.alloc (.cells #[.bool t, .int .i64 u, .slice a ys.length ca, .int .i64 v] 36)) := (Below.refl _ _).alloc (Nat.le_refl _) _
  go_enter Try.func24, Try.ntmps24
  go_wp2_with fail
  refine (markByteS_any _ g a ca ys k (ha.up n1) hn k0 k1).mono ?_
  rintro e w2 ⟨rfl, o2, O2⟩
  go_wp2
  go_ret
  exact ⟨rfl, o2, _, n1, O2⟩
set_option maxHeartbeats 1000000 in
theorem heldItemResult_any (w : World) (t : Bool) (u v : Int) (g : Nat) (a : Option Addr) (ca n : Nat) (k : Int) (ha : Rd w g a .u8 (marks k n)) (hn : n ≤ 1048576) (k0 : 0 ≤ k) (k1 : k ≤ 1099511627776) :
    Calls Try.prog 25 #[.agg #[.bool t, .int .i64 u, .slice a n ca, .int .i64 v], .int .i64 k] w fun e w' => e = .returned (.int .i64 (k + (n : Int))) ∧ Below w.heap.size w w' := by
  have n1 : Below w.heap.size w (w.alloc (.cells #[.bool t, .int .i64 u, .slice a n ca, .int .i64 v] 36)) := (Below.refl _ _).alloc (Nat.le_refl _) _
  have t1 : decide (k + (n : Int) < 0) = false := by simp; omega
  go_enter Try.func25, Try.ntmps25
  go_wp2_with fail
  refine (heldByteS_any _ g a ca n k (ha.up n1) hn k0 k1).mono ?_
  rintro e w2 ⟨rfl, rfl⟩
  go_wp2
  go_ret
  exact ⟨rfl, n1⟩
theorem dbT_len (xs : List Int) (o : Option (Int × Nat × Nat)) : (dbT xs o).length ≤ xs.length := by
  unfold dbT
  split
  · rw [List.length_take, List.length_drop]; omega
  · simp
end Go.Proofs.Ytakcpkfofgiehaa
