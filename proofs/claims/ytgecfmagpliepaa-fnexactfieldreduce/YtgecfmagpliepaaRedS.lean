/-
  FieldReduce, the model's.
-/
import Derived.Test.YtgecfmagpliepaaRed
namespace Go.Proofs.Ytgecfmagpliepaa
open Go.RowKit

theorem num_lt {xs : List Int} (hb : Byt xs) (h : xs.length ≤ 64) : num xs < 256 ^ 64 := by
  have : ∀ n, lsum (fun j => xs.getD j 0) n < 256 ^ n := by
    intro n
    induction n with
    | zero => simp [lsum]
    | succ n ih =>
      have h1 := hb n
      have hp := p256_pos n
      have : xs.getD n 0 * 256 ^ n ≤ 255 * 256 ^ n := Int.mul_le_mul_of_nonneg_right (by omega) (by omega)
      rw [lsum, Int.pow_succ]
      omega
  exact Int.lt_of_lt_of_le (this xs.length) (p256_le h)

set_option maxHeartbeats 2000000 in
theorem specFieldReduce_any (w : World) (g : Nat) (a : Option Addr) (c : Nat) (xs : List Int) (hr : Rd w g a .u8 xs) (hb : Byt xs) :
    Calls Try.prog 11 #[.slice a xs.length c] w fun e w' => NewRow w.heap.size w' e .u8 (fred xs) ∧ Below w.heap.size w w' := by
  have hal : Below w.heap.size w (w.alloc (.cells #[] 5)) := (Below.refl _ _).alloc (Nat.le_refl _) _
  by_cases h1 : xs.length < 1
  · have t1 : decide ((xs.length : Int) < 1) = true := by simp; omega
    have K : Hid (fred xs = []) := by show _ = _; unfold fred; rw [if_neg (by omega)]
    clear h1
    go_enter Try.func11, Try.ntmps11
    go_wp2
    go_ret
    rw [K.out]
    exact ⟨newRow_lit _ _, hal⟩
  · by_cases h2 : 64 < xs.length
    · have t1 : decide ((xs.length : Int) < 1) = false := by simp; omega
      have t2 : decide ((64 : Int) < (xs.length : Int)) = true := by simp; omega
      have K : Hid (fred xs = []) := by show _ = _; unfold fred; rw [if_neg (by omega)]
      clear h1 h2
      go_enter Try.func11, Try.ntmps11
      go_wp2
      go_ret
      rw [K.out]
      exact ⟨newRow_lit _ _, hal⟩
    · have t1 : decide ((xs.length : Int) < 1) = false := by simp; omega
      have t2 : decide ((64 : Int) < (xs.length : Int)) = false := by simp; omega
      have K : Hid (fred xs = fill (byt (num xs % PP)) 32) := by show _ = _; unfold fred; rw [if_pos (by omega)]
      have NL := num_lt hb (by omega)
      have R := l2Num_any w g a c xs hr hb (by omega)
      clear h1 h2 hal
      go_enter Try.func11, Try.ntmps11
      go_wp2_with fail
      refine R.mono ?_
      rintro e w1 ⟨y1, C1, l1, ⟨a1, c1, g1, rfl, o1, p1, q1, r1⟩, n1⟩
      have L1 : y1.length ≤ 4096 := by have := C1.len NL; omega
      have K' : Hid (fred xs = fill (byt (bval y1 % PP)) 32) := by show _ = _; rw [K.out, C1.2.1]
      go_wp2_with fail
      refine (l2Tell_any w1 g1 a1 c1 y1 o1.rd C1.1 L1).mono ?_
      rintro e w2 ⟨⟨a2, c2, g2, rfl, o2, p2, q2, r2⟩, n2⟩
      have N2 := nxt n1 n2
      have z := n1.size
      clear R C1
      go_wp2
      go_ret
      refine ⟨?_, N2⟩
      rw [K'.out]
      exact ⟨a2, c2, g2, rfl, o2, p2, q2, by omega⟩
end Go.Proofs.Ytgecfmagpliepaa
