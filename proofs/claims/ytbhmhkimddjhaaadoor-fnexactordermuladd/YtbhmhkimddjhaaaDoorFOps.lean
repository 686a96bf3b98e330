/-
  What the three operations share: the model's l2Two, bounds of bytes, the elements' operations with their values.
-/
import Derived.Test.YtbhmhkimddjhaaaDoorLCan
import Derived.Test.YtbhmhkimddjhaaaDoorAdd
namespace Go.Proofs.YtbhmhkimddjhaaaDoor
set_option maxRecDepth 100000
open Go.RowKit

theorem bval_lt32 {ys : List Int} (h : Byt ys) (hl : ys.length ≤ 32) : bval ys < 115792089237316195423570985008687907853269984665640564039457584007913129639936 := by
  have h1 := (lo_bd h 32).2
  rw [lo_all ys 32 hl] at h1
  have h2 : (256 : Int) ^ 32 = 115792089237316195423570985008687907853269984665640564039457584007913129639936 := by decide
  omega
theorem add_lt64 {x y : Int} (hx : x < 115792089237316195423570985008687907853269984665640564039457584007913129639936) (hy : y < 115792089237316195423570985008687907853269984665640564039457584007913129639936) : x + y < 256 ^ 64 := by
  have h2 : (115792089237316195423570985008687907853269984665640564039457584007913129639936 : Int) + 115792089237316195423570985008687907853269984665640564039457584007913129639936 < 256 ^ 64 := by decide
  omega
theorem mul_lt64 {x y : Int} (hx : x < 115792089237316195423570985008687907853269984665640564039457584007913129639936) (hy : y < 115792089237316195423570985008687907853269984665640564039457584007913129639936) (x0 : 0 ≤ x) (y0 : 0 ≤ y) : x * y < 256 ^ 64 := by
  have h1 : x * y ≤ 115792089237316195423570985008687907853269984665640564039457584007913129639935 * 115792089237316195423570985008687907853269984665640564039457584007913129639935 := Int.mul_le_mul (by omega) (by omega) y0 (by decide)
  have h2 : (115792089237316195423570985008687907853269984665640564039457584007913129639935 : Int) * 115792089237316195423570985008687907853269984665640564039457584007913129639935 < 256 ^ 64 := by decide
  omega

set_option maxHeartbeats 1000000 in
theorem l2Two_any (w : World) (a b : Option Addr) (ca cb n m : Nat) :
    Calls Tryd.prog 81 #[.slice a n ca, .slice b m cb] w fun e w' => e = .returned (.bool (decide (n = 32 ∧ m = 32))) ∧ w' = w := by
  by_cases h : n = 32
  · subst h
    by_cases h2 : m = 32
    · subst h2
      go_enter Tryd.func81, Tryd.ntmps81
      go_wp2
      go_ret
      exact ⟨rfl, rfl⟩
    · have t : ((m : Int) == 32) = false := by simp; omega
      rw [show decide ((32 : Nat) = 32 ∧ m = 32) = false by simp [h2]]
      clear h2
      go_enter Tryd.func81, Tryd.ntmps81
      go_wp2
      go_ret
      exact ⟨rfl, rfl⟩
  · have t : ((n : Int) == 32) = false := by simp; omega
    have R : Hid (decide (n = 32 ∧ m = 32) = false) := by show _ = _; simp [h]
    clear h
    go_enter Tryd.func81, Tryd.ntmps81
    go_wp2
    go_ret
    exact ⟨by rw [R.out]; rfl, rfl⟩

theorem addE_any (w : World) (e f : Nat → Int) (he : Lm e) (hf : Lm f) :
    Calls Tryd.prog 83 #[ag5 e, ag5 f] w fun r w' => ∃ t, r = .returned (ag5 t) ∧ Lm t ∧ sv t 5 = (sv e 5 + sv f 5) % PP ∧ Below w.heap.size w w' := by
  refine (add_any w e f he hf).mono ?_
  rintro r w' ⟨rfl, n⟩
  obtain ⟨_, h2, h3⟩ := add_ok he hf
  exact ⟨_, rfl, h3, h2, n⟩
end Go.Proofs.YtbhmhkimddjhaaaDoor
