
/-
  Words of 32 bits: turning and mixing, as numbers, and the calls of the program and of the model (written by gens/hw.py).
-/
import Derived.Test.YtnfciobpfiibcaaDoorPdI
import Derived.Test.YtnfciobpfiibcaaDoorPdS
import Derived.Laws.BitsAllLaws
import Derived.Deep.QuietTactic
import Derived.BigQuiet
namespace Go.Proofs.YtnfciobpfiibcaaDoor
set_option maxRecDepth 100000
open Go Go.RowKit

def Wd32 (x : Int) : Prop := 0 ≤ x ∧ x < 4294967296
def rr32 (x : Int) (n : Nat) : Int := bits BinOp.or IntKind.u32 (x / 2 ^ n) (x * 2 ^ (32 - n) % 4294967296)
def ng32 (x : Int) : Int := bits BinOp.xor IntKind.u32 IntKind.u32.max x
def sg032 (x : Int) : Int := bits BinOp.xor IntKind.u32 (bits BinOp.xor IntKind.u32 (rr32 x 7) (rr32 x 18)) (x / 8)
def sg132 (x : Int) : Int := bits BinOp.xor IntKind.u32 (bits BinOp.xor IntKind.u32 (rr32 x 17) (rr32 x 19)) (x / 1024)
def gg032 (x : Int) : Int := bits BinOp.xor IntKind.u32 (bits BinOp.xor IntKind.u32 (rr32 x 2) (rr32 x 13)) (rr32 x 22)
def gg132 (x : Int) : Int := bits BinOp.xor IntKind.u32 (bits BinOp.xor IntKind.u32 (rr32 x 6) (rr32 x 11)) (rr32 x 25)
def ch32 (e f g : Int) : Int := bits BinOp.xor IntKind.u32 (bits BinOp.and IntKind.u32 e f) (bits BinOp.and IntKind.u32 (ng32 e) g)
def mj32 (a b c : Int) : Int := bits BinOp.xor IntKind.u32 (bits BinOp.xor IntKind.u32 (bits BinOp.and IntKind.u32 a b) (bits BinOp.and IntKind.u32 a c)) (bits BinOp.and IntKind.u32 b c)

theorem or_wd32 {x y : Int} (h : Wd32 x) (k : Wd32 y) : Wd32 (bits BinOp.or IntKind.u32 x y) := by
  obtain ⟨n, rfl⟩ := Int.eq_ofNat_of_zero_le h.1
  obtain ⟨m, rfl⟩ := Int.eq_ofNat_of_zero_le k.1
  have h1 := h.2
  have k1 := k.2
  rw [u32_or_nat n m (by omega) (by omega)]
  have : n ||| m < 2 ^ 32 := Nat.or_lt_two_pow (by omega) (by omega)
  exact ⟨by omega, by omega⟩
theorem xor_wd32 {x y : Int} (h : Wd32 x) (k : Wd32 y) : Wd32 (bits BinOp.xor IntKind.u32 x y) := by
  obtain ⟨n, rfl⟩ := Int.eq_ofNat_of_zero_le h.1
  obtain ⟨m, rfl⟩ := Int.eq_ofNat_of_zero_le k.1
  have h1 := h.2
  have k1 := k.2
  rw [u32_xor_nat n m (by omega) (by omega)]
  have : n ^^^ m < 2 ^ 32 := Nat.xor_lt_two_pow (by omega) (by omega)
  exact ⟨by omega, by omega⟩
theorem and_wd32 {x y : Int} (h : Wd32 x) (k : Wd32 y) : Wd32 (bits BinOp.and IntKind.u32 x y) := by
  obtain ⟨n, rfl⟩ := Int.eq_ofNat_of_zero_le h.1
  obtain ⟨m, rfl⟩ := Int.eq_ofNat_of_zero_le k.1
  have h1 := h.2
  have k1 := k.2
  rw [u32_and_nat n m (by omega) (by omega)]
  have : n &&& m < 2 ^ 32 := Nat.and_lt_two_pow _ (by omega)
  exact ⟨by omega, by omega⟩
theorem shr_wd32 {x : Int} (h : Wd32 x) (n : Nat) : Wd32 (x / 2 ^ n) := by
  have hp : (0 : Int) < 2 ^ n := Int.pow_pos (by decide)
  have h1 := Int.ediv_nonneg h.1 (Int.le_of_lt hp)
  have h2 := Int.ediv_le_self (2 ^ n) h.1
  have h3 := h.2
  exact ⟨h1, by omega⟩
theorem mod_wd32 (x : Int) : Wd32 (x % 4294967296) := ⟨by omega, by omega⟩
theorem rr_wd32 {x : Int} (h : Wd32 x) (n : Nat) : Wd32 (rr32 x n) := or_wd32 (shr_wd32 h n) (mod_wd32 _)
theorem max32 : IntKind.u32.max = 4294967295 := by decide
theorem ng_wd32 {x : Int} (h : Wd32 x) : Wd32 (ng32 x) := by
  unfold ng32
  rw [max32]
  exact xor_wd32 ⟨by omega, by omega⟩ h
theorem sg0_wd32 {x : Int} (h : Wd32 x) : Wd32 (sg032 x) := xor_wd32 (xor_wd32 (rr_wd32 h _) (rr_wd32 h _)) (by obtain ⟨h0, h1⟩ := h; exact ⟨by omega, by omega⟩)
theorem sg1_wd32 {x : Int} (h : Wd32 x) : Wd32 (sg132 x) := xor_wd32 (xor_wd32 (rr_wd32 h _) (rr_wd32 h _)) (by obtain ⟨h0, h1⟩ := h; exact ⟨by omega, by omega⟩)
theorem gg0_wd32 {x : Int} (h : Wd32 x) : Wd32 (gg032 x) := xor_wd32 (xor_wd32 (rr_wd32 h _) (rr_wd32 h _)) (rr_wd32 h _)
theorem gg1_wd32 {x : Int} (h : Wd32 x) : Wd32 (gg132 x) := xor_wd32 (xor_wd32 (rr_wd32 h _) (rr_wd32 h _)) (rr_wd32 h _)
theorem ch_wd32 {e f g : Int} (he : Wd32 e) (hf : Wd32 f) (hg : Wd32 g) : Wd32 (ch32 e f g) := xor_wd32 (and_wd32 he hf) (and_wd32 (ng_wd32 he) hg)
theorem mj_wd32 {a b c : Int} (ha : Wd32 a) (hb : Wd32 b) (hc : Wd32 c) : Wd32 (mj32 a b c) := xor_wd32 (xor_wd32 (and_wd32 ha hb) (and_wd32 ha hc)) (and_wd32 hb hc)

/-- Where the document takes the exclusive or, the model takes the or. -/
theorem ch_same32 {e f g : Int} (he : Wd32 e) (hf : Wd32 f) (hg : Wd32 g) :
    bits BinOp.or IntKind.u32 (bits BinOp.and IntKind.u32 e f) (bits BinOp.and IntKind.u32 (ng32 e) g) = ch32 e f g := by
  unfold ch32 ng32
  rw [max32]
  obtain ⟨a, rfl⟩ := Int.eq_ofNat_of_zero_le he.1
  obtain ⟨b, rfl⟩ := Int.eq_ofNat_of_zero_le hf.1
  obtain ⟨c, rfl⟩ := Int.eq_ofNat_of_zero_le hg.1
  have h1 : a < 4294967296 := by have := he.2; omega
  have h2 : b < 4294967296 := by have := hf.2; omega
  have h3 : c < 4294967296 := by have := hg.2; omega
  have hx : 4294967295 ^^^ a < 2 ^ 32 := Nat.xor_lt_two_pow (by omega) (by omega)
  have hy : a &&& b < 2 ^ 32 := Nat.and_lt_two_pow _ (by omega)
  have hz : (4294967295 ^^^ a) &&& c < 2 ^ 32 := Nat.and_lt_two_pow _ (by omega)
  rw [show (4294967295 : Int) = ((4294967295 : Nat) : Int) from rfl, u32_xor_nat 4294967295 a (by omega) h1, u32_and_nat a b h1 h2, u32_and_nat _ c (by omega) h3, u32_or_nat _ _ (by omega) (by omega), u32_xor_nat _ _ (by omega) (by omega)]
  congr 1
  apply Nat.eq_of_testBit_eq
  intro i
  simp only [Nat.testBit_or, Nat.testBit_xor, Nat.testBit_and]
  by_cases ci : i < 32
  · have : Nat.testBit 4294967295 i = true := by rw [show (4294967295 : Nat) = 2 ^ 32 - 1 from rfl, Nat.testBit_two_pow_sub_one]; simpa using ci
    rw [this]
    cases a.testBit i <;> cases b.testBit i <;> cases c.testBit i <;> rfl
  · have : a.testBit i = false := Nat.testBit_lt_two_pow (Nat.lt_of_lt_of_le h1 (Nat.pow_le_pow_right (n := 2) (by decide) (show 32 ≤ i by omega)))
    rw [this]
    cases Nat.testBit 4294967295 i <;> cases b.testBit i <;> cases c.testBit i <;> rfl
theorem mj_same32 {a b c : Int} (ha : Wd32 a) (hb : Wd32 b) (hc : Wd32 c) :
    bits BinOp.or IntKind.u32 (bits BinOp.or IntKind.u32 (bits BinOp.and IntKind.u32 a b) (bits BinOp.and IntKind.u32 a c)) (bits BinOp.and IntKind.u32 b c) = mj32 a b c := by
  unfold mj32
  obtain ⟨a, rfl⟩ := Int.eq_ofNat_of_zero_le ha.1
  obtain ⟨b, rfl⟩ := Int.eq_ofNat_of_zero_le hb.1
  obtain ⟨c, rfl⟩ := Int.eq_ofNat_of_zero_le hc.1
  have h1 : a < 4294967296 := by have := ha.2; omega
  have h2 : b < 4294967296 := by have := hb.2; omega
  have h3 : c < 4294967296 := by have := hc.2; omega
  have hx : a &&& b < 2 ^ 32 := Nat.and_lt_two_pow _ (by omega)
  have hy : a &&& c < 2 ^ 32 := Nat.and_lt_two_pow _ (by omega)
  have hz : b &&& c < 2 ^ 32 := Nat.and_lt_two_pow _ (by omega)
  have o1 : a &&& b ||| a &&& c < 2 ^ 32 := Nat.or_lt_two_pow hx hy
  have o2 : a &&& b ^^^ a &&& c < 2 ^ 32 := Nat.xor_lt_two_pow hx hy
  rw [u32_and_nat a b h1 h2, u32_and_nat a c h1 h3, u32_and_nat b c h2 h3, u32_or_nat _ _ (by omega) (by omega), u32_xor_nat _ _ (by omega) (by omega), u32_or_nat _ _ (by omega) (by omega), u32_xor_nat _ _ (by omega) (by omega)]
  congr 1
  apply Nat.eq_of_testBit_eq
  intro i
  simp only [Nat.testBit_or, Nat.testBit_xor, Nat.testBit_and]
  cases a.testBit i <;> cases b.testBit i <;> cases c.testBit i <;> rfl

set_option maxHeartbeats 1000000 in
theorem right_32 (w : World) (x : Int) (h : Wd32 x) (n : Nat) (h0 : 0 < n) (h1 : n < 32) : Calls Tryd.prog 95 #[.int .u32 x, .int .u64 (n : Int)] w fun e w' => e = .returned (.int .u32 (rr32 x n)) ∧ w' = w := by
  obtain ⟨x0, x1⟩ := h
  go_enter Tryd.func95, Tryd.ntmps95
  go_wp2
  go_ret
  exact ⟨rfl, rfl⟩
set_option maxHeartbeats 1000000 in
theorem turnRight_32 (w : World) (x : Int) (h : Wd32 x) (n : Nat) (h0 : 0 < n) (h1 : n < 32) : Calls Tryd.prog 111 #[.int .u32 x, .int .i64 (n : Int)] w fun e w' => e = .returned (.int .u32 (rr32 x n)) ∧ ∃ m, w' = w.drewN m := by
  obtain ⟨x0, x1⟩ := h
  go_enter Tryd.func111, Tryd.ntmps111
  go_wp2_with fail
  go_quiet ((go_at_call 96; exact Calls.quiet_of_same (wordBits_32 _)))
  go_wp2
  go_ret
  exact ⟨rfl, _, rfl⟩
theorem choice_32 (w : World) (e f g : Int) (he : Wd32 e) (hf : Wd32 f) (hg : Wd32 g) : Calls Tryd.prog 101 #[.int .u32 e, .int .u32 f, .int .u32 g] w fun r w' => r = .returned (.int .u32 (ch32 e f g)) ∧ w' = w := by
  obtain ⟨e0, e1⟩ := he
  obtain ⟨f0, f1⟩ := hf
  obtain ⟨g0, g1⟩ := hg
  go_enter Tryd.func101, Tryd.ntmps101
  go_wp2
  go_ret
  exact ⟨rfl, rfl⟩
theorem majority_32 (w : World) (e f g : Int) (he : Wd32 e) (hf : Wd32 f) (hg : Wd32 g) : Calls Tryd.prog 103 #[.int .u32 e, .int .u32 f, .int .u32 g] w fun r w' => r = .returned (.int .u32 (mj32 e f g)) ∧ w' = w := by
  obtain ⟨e0, e1⟩ := he
  obtain ⟨f0, f1⟩ := hf
  obtain ⟨g0, g1⟩ := hg
  go_enter Tryd.func103, Tryd.ntmps103
  go_wp2
  go_ret
  exact ⟨rfl, rfl⟩
theorem hasLong_32 (w : World) : Calls Tryd.prog 108 #[] w fun e w' => e = .returned (.bool false) ∧ w' = w := by
  go_enter Tryd.func108, Tryd.ntmps108
  go_wp2_with fail
  refine (wordBits_32 w).mono ?_
  rintro r w1 ⟨rfl, rfl⟩
  go_wp2
  go_ret
  exact ⟨rfl, rfl⟩
theorem stepsOf_32 (w : World) : Calls Tryd.prog 98 #[] w fun e w' => e = .returned (.int .i64 64) ∧ w' = w := by
  go_enter Tryd.func98, Tryd.ntmps98
  go_wp2_with fail
  refine (hasLong_32 w).mono ?_
  rintro r w1 ⟨rfl, rfl⟩
  go_wp2
  go_ret
  exact ⟨rfl, rfl⟩
theorem upperBits_32 (w : World) (x : Int) (h0 : 0 ≤ x) (h1 : x < 18446744073709551616) : Calls Tryd.prog 82 #[.int .u64 x] w fun e w' => e = .returned (.int .u32 (x / 4294967296)) ∧ w' = w := by
  go_enter Tryd.func82, Tryd.ntmps82
  go_wp2_with fail
  refine (wordBits_32 w).mono ?_
  rintro r w1 ⟨rfl, rfl⟩
  go_wp2
  go_ret
  exact ⟨rfl, rfl⟩

set_option maxHeartbeats 1000000 in
theorem smallMix0_32 (w : World) (x : Int) (h : Wd32 x) : Calls Tryd.prog 110 #[.int .u32 x] w fun e w' => e = .returned (.int .u32 (sg032 x)) ∧ ∃ m, w' = w.drewN m := by
  have T0 := fun w => hide (turnRight_32 w x h 7 (by decide) (by decide))
  have T1 := fun w => hide (turnRight_32 w x h 18 (by decide) (by decide))
  obtain ⟨x0, x1⟩ := h
  go_enter Tryd.func110, Tryd.ntmps110
  go_wp2_with fail
  refine (hasLong_32 w).mono ?_
  rintro r w0 ⟨rfl, rfl⟩
  go_wp2_with fail
  refine (T0 w0).out.mono ?_
  rintro r w1 ⟨rfl, n1, rfl⟩
  go_wp2_with fail
  refine (T1 (w0.drewN n1)).out.mono ?_
  rintro r w2 ⟨rfl, n2, rfl⟩
  go_wp2
  go_ret
  exact ⟨rfl, _, rfl⟩

set_option maxHeartbeats 1000000 in
theorem smallMix1_32 (w : World) (x : Int) (h : Wd32 x) : Calls Tryd.prog 109 #[.int .u32 x] w fun e w' => e = .returned (.int .u32 (sg132 x)) ∧ ∃ m, w' = w.drewN m := by
  have T0 := fun w => hide (turnRight_32 w x h 17 (by decide) (by decide))
  have T1 := fun w => hide (turnRight_32 w x h 19 (by decide) (by decide))
  obtain ⟨x0, x1⟩ := h
  go_enter Tryd.func109, Tryd.ntmps109
  go_wp2_with fail
  refine (hasLong_32 w).mono ?_
  rintro r w0 ⟨rfl, rfl⟩
  go_wp2_with fail
  refine (T0 w0).out.mono ?_
  rintro r w1 ⟨rfl, n1, rfl⟩
  go_wp2_with fail
  refine (T1 (w0.drewN n1)).out.mono ?_
  rintro r w2 ⟨rfl, n2, rfl⟩
  go_wp2
  go_ret
  exact ⟨rfl, _, rfl⟩

set_option maxHeartbeats 1000000 in
theorem greatMix0_32 (w : World) (x : Int) (h : Wd32 x) : Calls Tryd.prog 102 #[.int .u32 x] w fun e w' => e = .returned (.int .u32 (gg032 x)) ∧ ∃ m, w' = w.drewN m := by
  have T0 := fun w => hide (turnRight_32 w x h 2 (by decide) (by decide))
  have T1 := fun w => hide (turnRight_32 w x h 13 (by decide) (by decide))
  have T2 := fun w => hide (turnRight_32 w x h 22 (by decide) (by decide))
  obtain ⟨x0, x1⟩ := h
  go_enter Tryd.func102, Tryd.ntmps102
  go_wp2_with fail
  refine (hasLong_32 w).mono ?_
  rintro r w0 ⟨rfl, rfl⟩
  go_wp2_with fail
  refine (T0 w0).out.mono ?_
  rintro r w1 ⟨rfl, n1, rfl⟩
  go_wp2_with fail
  refine (T1 (w0.drewN n1)).out.mono ?_
  rintro r w2 ⟨rfl, n2, rfl⟩
  go_wp2_with fail
  refine (T2 _).out.mono ?_
  rintro r w3 ⟨rfl, n3, rfl⟩
  go_wp2
  go_ret
  exact ⟨rfl, _, rfl⟩

set_option maxHeartbeats 1000000 in
theorem greatMix1_32 (w : World) (x : Int) (h : Wd32 x) : Calls Tryd.prog 100 #[.int .u32 x] w fun e w' => e = .returned (.int .u32 (gg132 x)) ∧ ∃ m, w' = w.drewN m := by
  have T0 := fun w => hide (turnRight_32 w x h 6 (by decide) (by decide))
  have T1 := fun w => hide (turnRight_32 w x h 11 (by decide) (by decide))
  have T2 := fun w => hide (turnRight_32 w x h 25 (by decide) (by decide))
  obtain ⟨x0, x1⟩ := h
  go_enter Tryd.func100, Tryd.ntmps100
  go_wp2_with fail
  refine (hasLong_32 w).mono ?_
  rintro r w0 ⟨rfl, rfl⟩
  go_wp2_with fail
  refine (T0 w0).out.mono ?_
  rintro r w1 ⟨rfl, n1, rfl⟩
  go_wp2_with fail
  refine (T1 (w0.drewN n1)).out.mono ?_
  rintro r w2 ⟨rfl, n2, rfl⟩
  go_wp2_with fail
  refine (T2 _).out.mono ?_
  rintro r w3 ⟨rfl, n3, rfl⟩
  go_wp2
  go_ret
  exact ⟨rfl, _, rfl⟩
end Go.Proofs.YtnfciobpfiibcaaDoor
