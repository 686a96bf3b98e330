
/-
  The program's scalars: read, and clamped.
-/
import Derived.Test.YtblkjpmkikhpbaaSca
import Derived.Test.YtblkjpmkikhpbaaLCan
import Derived.Laws.BitsAllLaws
namespace Go.Proofs.Ytblkjpmkikhpbaa
open Go Go.RowKit

theorem and_not7 (x : Int) (h0 : 0 ≤ x) (h1 : x < 18446744073709551616) : bits BinOp.andNot IntKind.u64 x 7 = x - x % 8 := by
  obtain ⟨n, rfl⟩ := Int.eq_ofNat_of_zero_le h0
  have hn : n < 18446744073709551616 := by omega
  have h := u64_andNot_nat n 7 hn (by omega)
  have e : n &&& (18446744073709551615 - 7) = n / 8 * 8 := by
    apply Nat.eq_of_testBit_eq
    intro i
    rw [Nat.testBit_and, show (18446744073709551615 - 7 : Nat) = (2 ^ 61 - 1) * 2 ^ 3 from rfl, show n / 8 * 8 = n / 2 ^ 3 * 2 ^ 3 from rfl, Nat.testBit_mul_two_pow, Nat.testBit_mul_two_pow, Nat.testBit_two_pow_sub_one, Nat.testBit_div_two_pow]
    by_cases c : 3 ≤ i
    · rw [show i - 3 + 3 = i by omega]
      by_cases d : i < 64
      · simp [c, show i - 3 < 61 by omega]
      · have : n.testBit i = false := Nat.testBit_lt_two_pow (Nat.lt_of_lt_of_le hn (Nat.pow_le_pow_right (n := 2) (by decide) (show 64 ≤ i by omega)))
        simp [this]
    · simp [c]
  rw [e] at h
  rw [show (7 : Int) = ((7 : Nat) : Int) from rfl, h]
  omega
theorem and_not63 (x : Int) (h0 : 0 ≤ x) (h1 : x < 18446744073709551616) : bits BinOp.andNot IntKind.u64 x 9223372036854775808 = x % 9223372036854775808 := by
  obtain ⟨n, rfl⟩ := Int.eq_ofNat_of_zero_le h0
  have h := u64_andNot_nat n 9223372036854775808 (by omega) (by omega)
  rw [show (18446744073709551615 - 9223372036854775808 : Nat) = 2 ^ 63 - 1 from rfl, Nat.and_two_pow_sub_one_eq_mod] at h
  rw [show (9223372036854775808 : Int) = ((9223372036854775808 : Nat) : Int) from rfl, h]
  omega
theorem or62 (x : Int) (h0 : 0 ≤ x) (h1 : x < 9223372036854775808) : bits BinOp.or IntKind.u64 x 4611686018427387904 = x % 4611686018427387904 + 4611686018427387904 := by
  obtain ⟨n, rfl⟩ := Int.eq_ofNat_of_zero_le h0
  have h := bits_or_u64_nat n 4611686018427387904 (by omega) (by omega)
  have hr : n % 4611686018427387904 < 2 ^ 62 := by omega
  have o1 : 1 <<< 62 + n % 4611686018427387904 = 1 <<< 62 ||| n % 4611686018427387904 := Nat.shiftLeft_add_eq_or_of_lt hr 1
  have e : n ||| 4611686018427387904 = 4611686018427387904 + n % 4611686018427387904 := by
    rcases (show n = n % 4611686018427387904 ∨ n = 4611686018427387904 + n % 4611686018427387904 by omega) with c | c
    · rw [← c] at o1 ⊢
      rw [Nat.or_comm]
      exact o1.symm
    · have o2 : n = 4611686018427387904 ||| n % 4611686018427387904 := c.trans o1
      rw [o2, Nat.or_comm, ← Nat.or_assoc, Nat.or_self, ← o2]
      exact c
  rw [e] at h
  rw [show (4611686018427387904 : Int) = ((4611686018427387904 : Nat) : Int) from rfl, h]
  omega
/-- The clamped words. -/
def clw (W : Nat → Int) (j : Nat) : Int := if j = 0 then W 0 - W 0 % 8 else if j = 3 then W 3 % 4611686018427387904 + 4611686018427387904 else W j
theorem clw_ok {W : Nat → Int} (h : W4 W) : W4 (clw W) := by
  intro j hj
  have := h 0 (by omega)
  have := h 3 (by omega)
  have := h j hj
  unfold clw
  split
  · omega
  · split <;> omega

set_option maxHeartbeats 2000000 in
theorem readScalar_any (w : World) (g : Nat) (a : Option Addr) (cap : Nat) (xs : List Int) (hr : Rd w g a .u8 xs) (hb : Byt xs) (hl : xs.length = 32) :
    Calls Try.prog 12 #[.slice a 32 cap] w fun e w' => e = .returned (ag4 (wv (fun j => xs.getD j 0) 32)) ∧ Below w.heap.size w w' := by
  have hal : Below w.heap.size w (w.alloc (.cells #[.int .u64 0, .int .u64 0, .int .u64 0, .int .u64 0] 29)) := (Below.refl _ _).alloc (Nat.le_refl _) _
  have T0 := blk_box4 w .u64 29 0 0 0 0
  have sz0 : (w.alloc (.cells #[.int .u64 0, .int .u64 0, .int .u64 0, .int .u64 0] 29)).heap.size = w.heap.size + 1 := by simp
  have RW' := hide (fun w' n => readWords_any w' g a cap xs (hr.up n) hb hl)
  clear hl
  go_enter Try.func12, Try.ntmps12
  go_wp2_with fail
  generalize w.alloc (.cells #[.int .u64 0, .int .u64 0, .int .u64 0, .int .u64 0] 29) = wa at *
  refine (RW'.out wa hal).mono ?_
  rintro r w1 ⟨rfl, n1⟩
  obtain ⟨u, hu⟩ : ∃ u, u = wv (fun j => xs.getD j 0) 32 := ⟨_, rfl⟩
  have hU := hide hu
  rw [← hu]
  clear hu
  obtain ⟨⟨p0, p1, p2, p3⟩, ⟨g0, g1, g2, g3⟩⟩ := (T0.up n1).f4
  have N := nxt hal n1
  clear RW' T0 hal n1 hr hb
  simp only [ag4]
  go_wp2
  refine bodyPost_ret (v := ag4 u) (by simp [ag4, results, Try.results12, go_sem, p0, p1, p2, p3]) rfl ⟨by rw [hU.out], ?_⟩
  exact below_set4 N (by omega) _ _ _ _

set_option maxHeartbeats 4000000 in
theorem clamp_any (w : World) (W : Nat → Int) (hW : W4 W) :
    Calls Try.prog 13 #[ag4 W] w fun r w' => r = .returned (ag4 (clw W)) ∧ Below w.heap.size w w' := by
  have b0 := hW 0 (by omega)
  have b1 := hW 1 (by omega)
  have b2 := hW 2 (by omega)
  have b3 := hW 3 (by omega)
  have e1 := and_not7 (W 0) b0.1 b0.2
  have e2 := and_not63 (W 3) b3.1 b3.2
  have e3 := or62 (W 3 % 9223372036854775808) (by omega) (by omega)
  simp only [ag4]
  go_enter Try.func13, Try.ntmps13
  go_wp2
  exact bodyPost_ret (v := ag4 (clw W)) (by simp [ag4, clw, results, Try.results13, go_sem]) rfl ⟨rfl, ((Below.refl _ _).alloc (Nat.le_refl _) _).alloc (by simp) _⟩

/-- Thirty-two bytes without the highest bit. -/
def low7 (xs : List Int) : List Int := xs.set 31 (xs.getD 31 0 % 128)
theorem and127 : ∀ n : Fin 256, bits BinOp.and IntKind.u8 (n.val : Int) 127 = (n.val : Int) % 128 := by decide +kernel
theorem and127' (x : Int) (h : 0 ≤ x ∧ x < 256) : bits BinOp.and IntKind.u8 x 127 = x % 128 := by
  obtain ⟨n, rfl⟩ := Int.eq_ofNat_of_zero_le h.1
  exact and127 ⟨n, by omega⟩
theorem low7_byt {xs : List Int} (h : Byt xs) : Byt (low7 xs) := by
  intro j
  unfold low7
  by_cases e : 31 = j
  · subst e
    by_cases c : 31 < xs.length
    · rw [getD_set_self _ _ _ c]
      have := h 31
      show 0 ≤ xs.getD 31 0 % 128 ∧ xs.getD 31 0 % 128 < 256
      omega
    · rw [List.set_eq_of_length_le (by omega)]
      exact h 31
  · rw [getD_set_ne _ _ _ _ e]
    exact h j
theorem low7_len (xs : List Int) : (low7 xs).length = xs.length := by unfold low7; simp

end Go.Proofs.Ytblkjpmkikhpbaa
