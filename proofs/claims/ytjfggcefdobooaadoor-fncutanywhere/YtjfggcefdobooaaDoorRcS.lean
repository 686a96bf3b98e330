
/-
  Records: the model's l15Known, l15Head, EncodeRecord.
-/
import Derived.Test.YtjfggcefdobooaaDoorRcA
import Derived.Test.YtjfggcefdobooaaDoorNbS
namespace Go.Proofs.YtjfggcefdobooaaDoor
set_option maxRecDepth 100000
open Go Go.RowKit

theorem known_any (w : World) (k : Int) : Calls Tryd.prog 16 #[.int .i64 k] w fun e w' => e = .returned (.bool (isK k)) ∧ w' = w := by
  by_cases h0 : k = 21
  · subst h0
    go_enter Tryd.func16, Tryd.ntmps16
    go_wp2
    go_ret
    exact ⟨rfl, rfl⟩
  by_cases h1 : k = 22
  · subst h1
    go_enter Tryd.func16, Tryd.ntmps16
    go_wp2
    go_ret
    exact ⟨rfl, rfl⟩
  by_cases h2 : k = 23
  · subst h2
    go_enter Tryd.func16, Tryd.ntmps16
    go_wp2
    go_ret
    exact ⟨rfl, rfl⟩
  have e : isK k = false := by simp [isK, h0, h1, h2]
  have q0 : (k == 21) = false := by simp [h0]
  have q1 : (k == 22) = false := by simp [h1]
  have q2 : (k == 23) = false := by simp [h2]
  have q3 : Hid ((k == 21 || k == 22 || k == 23) = false) := by show _ = _; rw [q0, q1, q2]; rfl
  rw [e]
  go_enter Tryd.func16, Tryd.ntmps16
  go_wp2
  go_ret
  exact ⟨by first | rfl | (rw [show false = (k == 21 || k == 22 || k == 23) from q3.out.symm]; rfl), rfl⟩
set_option maxHeartbeats 1000000 in
theorem l15Head_any (w : World) (k n : Int) (h0 : 0 ≤ n) (h1 : n < 9223372036854775808) :
    Calls Tryd.prog 17 #[.int .i64 k, .int .i64 n] w fun e w' => ∃ v, e = .returned v ∧ RowB w' w.heap.size v (hdL k n) ∧ Below w.heap.size w w' := by
  obtain ⟨i0, hi, hz0, hz1, hz2⟩ := info_parts Tryd.info5
  obtain ⟨x, hx⟩ : ∃ x, k % 256 = x := ⟨_, rfl⟩
  have BK : Hid (bigL k 1 = [x]) := by show _ = _; simp [bigL, ← hx]
  have n0 : Below w.heap.size w (w.alloc (.cells #[.int .u8 x] 5)) := (Below.refl _ _).alloc (Nat.le_refl _) _
  have R0 := RowB.lit1 w x
  have AN := fun W => hide (l1BigB_any W n 2 h0 h1 (by decide))
  have HD : Hid (hdL k n = [x] ++ bigL n 2) := by show _ = _; rw [hdL, BK.out]
  have BL : Hid ((bigL n 2).length = 2) := bigL_len n 2
  generalize bigL n 2 = B at *
  go_enter Tryd.func17, Tryd.ntmps17
  go_wp2_with fail
  generalize w.alloc (.cells #[.int .u8 x] 5) = wa at *
  refine (AN _).out.mono ?_
  rintro e w1 ⟨rfl, R1, n1⟩
  obtain ⟨a1, c1, g1, e1, D1, z1, q1, r1⟩ := R1.rd
  rw [BL.out] at e1
  simp only [Value.slice.injEq] at e1
  obtain ⟨rfl, -, rfl⟩ := e1
  obtain ⟨v2, w2, hap, R2, n2⟩ := append_any (P := Tryd.prog) w1 22 i0 Tryd.underlying22 hi hz0 hz1 hz2 w.heap.size w.heap.size _ _ (R0.up n1) g1 _ 2 B D1 (by simp) (by rw [BL.out]; simp) (Nat.le_refl _) (by have := n0.size; have := n1.size; omega)
  rw [← HD.out] at R2
  rw [BL.out] at hap
  go_wp2_with (at_builtin; refine Lib.wpList_append_run _ rfl _ _ 22 22 rfl _ _ rfl rfl _ _ hap ?_)
  go_ret
  exact ⟨_, rfl, R2, (nxt n0 n1).trans n2⟩
end Go.Proofs.YtjfggcefdobooaaDoor
