
/-
  The program's calendar.
-/
import Derived.Test.YtakcpkfofgiehaaDoorHelp
import Derived.Test.YtakcpkfofgiehaaDoorTmN
namespace Go.Proofs.YtakcpkfofgiehaaDoor
set_option maxRecDepth 100000
open Go Go.RowKit

/-- The lengths of the months as they are laid. -/
def mlL : List Int := [31, 28, 31, 30, 31, 30, 31, 31, 30, 31, 30, 31]
def HasM (w : World) : Prop := ∀ k, k < 12 → w.cell? ⟨0, k, none⟩ = some (.int .i64 (mlL.getD k 0))
theorem HasM.up {w w' : World} (h : HasM w) (n : Below w.heap.size w w') : HasM w' := fun k hk => (n.cell (p := ⟨0, k, none⟩) (block_lt_of_cell (h k hk))).trans (h k hk)
theorem HasM.lt {w : World} (h : HasM w) : 0 < w.heap.size := block_lt_of_cell (h 0 (by decide))
theorem HasM.of_block {w w' : World} (h : HasM w) (hb : w'.heap[0]? = w.heap[0]?) : HasM w' := fun k hk => (World.cell?_of_block (a := ⟨0, k, none⟩) hb).trans (h k hk)
theorem mlL_md (y : Int) (k : Nat) (hk : k < 12) (h2 : k ≠ 1 ∨ leap y = false) : mlL.getD k 0 = mdI y ((k : Int) + 1) := by
  unfold mlL mdI
  obtain rfl | rfl | rfl | rfl | rfl | rfl | rfl | rfl | rfl | rfl | rfl | rfl : k = 0 ∨ k = 1 ∨ k = 2 ∨ k = 3 ∨ k = 4 ∨ k = 5 ∨ k = 6 ∨ k = 7 ∨ k = 8 ∨ k = 9 ∨ k = 10 ∨ k = 11 := by omega
  all_goals simp_all

set_option maxHeartbeats 400000 in
theorem leapAhead_any (w : World) (y : Int) (h0 : 1 ≤ y) (h1 : y ≤ 100000000) :
    Calls Tryd.prog 41 #[.int .i64 y] w fun e w' => e = .returned (.int .i64 (lyA y)) ∧ w' = w := by
  have p0 : 0 ≤ y - 1 := by omega
  have E : Hid (lyA y = (y - 1) / 4 - (y - 1) / 100 + (y - 1) / 400) := rfl
  go_enter Tryd.func41, Tryd.ntmps41
  go_wp2
  go_ret
  exact ⟨by rw [E.out]; exact ret_int (by omega), rfl⟩
set_option maxHeartbeats 400000 in
theorem daysAhead_any (w : World) (y : Int) (h0 : 1970 ≤ y) (h1 : y ≤ 100000000) :
    Calls Tryd.prog 34 #[.int .i64 y] w fun e w' => e = .returned (.int .i64 (dyA y)) ∧ w' = w := by
  have L1 := hide (leapAhead_any w y (by omega) h1)
  have L2 := hide (leapAhead_any w 1970 (by omega) (by omega))
  rw [show lyA 1970 = 477 by decide] at L2
  have E : Hid (dyA y = 365 * (y - 1970) + lyA y - 477) := rfl
  have b : 0 ≤ lyA y ∧ lyA y ≤ 100000000 := by unfold lyA; omega
  generalize lyA y = l at *
  go_enter Tryd.func34, Tryd.ntmps34
  go_wp2_with fail
  refine L1.out.mono ?_
  rintro e w1 ⟨rfl, h⟩
  have h := h.symm
  subst h
  go_wp2_with fail
  refine L2.out.mono ?_
  rintro e w1 ⟨rfl, h⟩
  have h := h.symm
  subst h
  go_wp2
  go_ret
  exact ⟨by rw [E.out]; exact ret_int (by omega), rfl⟩
set_option maxHeartbeats 400000 in
theorem isLeap_any (w : World) (y : Int) (h0 : 0 ≤ y) :
    Calls Tryd.prog 42 #[.int .i64 y] w fun e w' => e = .returned (.bool (leap y)) ∧ w' = w := by
  by_cases c4 : y % 4 = 0
  · by_cases c100 : y % 100 = 0
    · by_cases c400 : y % 400 = 0
      · have E : Hid (leap y = true) := by show leap y = _; unfold leap; simp [c400]
        go_enter Tryd.func42, Tryd.ntmps42
        go_wp2
        go_ret
        exact ⟨by rw [E.out]; rfl, rfl⟩
      · have E : Hid (leap y = false) := by show leap y = _; unfold leap; simp [c400, c100]
        have t4 : (y % 400 == 0) = false := by simpa using c400
        have t5 : decide (y % 400 = 0) = false := decide_eq_false c400
        go_enter Tryd.func42, Tryd.ntmps42
        go_wp2
        go_ret
        exact ⟨by rw [E.out]; rfl, rfl⟩
    · have E : Hid (leap y = true) := by show leap y = _; unfold leap; simp [c4, c100]
      have t4 : (y % 100 == 0) = false := by simpa using c100
      have t5 : decide (y % 100 = 0) = false := decide_eq_false c100
      go_enter Tryd.func42, Tryd.ntmps42
      go_wp2
      go_ret
      exact ⟨by rw [E.out]; rfl, rfl⟩
  · have c400 : ¬ y % 400 = 0 := by omega
    have E : Hid (leap y = false) := by show leap y = _; unfold leap; simp [c4, c400]
    have t4 : (y % 4 == 0) = false := by simpa using c4
    have t5 : decide (y % 4 = 0) = false := decide_eq_false c4
    have t6 : (y % 400 == 0) = false := by simpa using c400
    have t7 : decide (y % 400 = 0) = false := decide_eq_false c400
    go_enter Tryd.func42, Tryd.ntmps42
    go_wp2
    go_ret
    exact ⟨by rw [E.out]; rfl, rfl⟩
set_option maxHeartbeats 1000000 in
theorem monthLength_any (w : World) (y : Int) (k : Nat) (hM : HasM w) (h0 : 0 ≤ y) (hk : k < 12) :
    Calls Tryd.prog 35 #[.int .i64 y, .int .i64 ((k : Int) + 1)] w fun e w' => e = .returned (.int .i64 (mdI y ((k : Int) + 1))) ∧ w' = w := by
  have IL := hide (isLeap_any w y h0)
  have cl := hM k hk
  have k1 : (k : Int) + 1 - 1 = (k : Int) := by omega
  have k2 : (k : Int) < 12 := by omega
  by_cases c : k = 1
  · subst c
    cases hl : leap y with
    | true =>
      have E : Hid (mdI y ((1 : Nat) + 1) = 29) := by show mdI y ((1 : Nat) + 1) = 29; unfold mdI; simp [hl]
      rw [hl] at IL
      go_enter Tryd.func35, Tryd.ntmps35
      go_wp2_with fail
      refine IL.out.mono ?_
      rintro e w1 ⟨rfl, h⟩
      have h := h.symm
      subst h
      go_wp2
      go_ret
      exact ⟨by rw [E.out]; rfl, rfl⟩
    | false =>
      rw [mlL_md y 1 hk (.inr hl)] at cl
      rw [hl] at IL
      generalize mdI y ((1 : Nat) + 1) = md at *
      go_enter Tryd.func35, Tryd.ntmps35
      go_wp2_with fail
      refine IL.out.mono ?_
      rintro e w1 ⟨rfl, h⟩
      have h := h.symm
      subst h
      go_wp2
      go_ret
      exact ⟨rfl, rfl⟩
  · rw [mlL_md y k hk (.inl c)] at cl
    have t2 : ((k : Int) + 1 == 2) = false := by simp; omega
    have t3 : decide ((k : Int) + 1 = 2) = false := by simp; omega
    generalize mdI y ((k : Int) + 1) = md at *
    go_enter Tryd.func35, Tryd.ntmps35
    go_wp2
    go_ret
    exact ⟨rfl, rfl⟩
end Go.Proofs.YtakcpkfofgiehaaDoor
