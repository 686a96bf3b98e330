
/-
  Words of 64 bits: turning and mixing, as numbers, and the calls of the program and of the model (written by gens/hw.py).
-/
import Derived.Test.YtbjcegabjpeejaaDoorPdI
import Derived.Test.YtbjcegabjpeejaaDoorPdS
import Derived.Laws.BitsAllLaws
import Derived.Deep.QuietTactic
import Derived.BigQuiet
namespace Go.Proofs.YtbjcegabjpeejaaDoor
set_option maxRecDepth 100000
open Go Go.RowKit

def Wd64 (x : Int) : Prop := 0 ≤ x ∧ x < 18446744073709551616
def rr64 (x : Int) (n : Nat) : Int := bits BinOp.or IntKind.u64 (x / 2 ^ n) (x * 2 ^ (64 - n) % 18446744073709551616)
def ng64 (x : Int) : Int := bits BinOp.xor IntKind.u64 IntKind.u64.max x
def sg064 (x : Int) : Int := bits BinOp.xor IntKind.u64 (bits BinOp.xor IntKind.u64 (rr64 x 1) (rr64 x 8)) (x / 128)
def sg164 (x : Int) : Int := bits BinOp.xor IntKind.u64 (bits BinOp.xor IntKind.u64 (rr64 x 19) (rr64 x 61)) (x / 64)
def gg064 (x : Int) : Int := bits BinOp.xor IntKind.u64 (bits BinOp.xor IntKind.u64 (rr64 x 28) (rr64 x 34)) (rr64 x 39)
def gg164 (x : Int) : Int := bits BinOp.xor IntKind.u64 (bits BinOp.xor IntKind.u64 (rr64 x 14) (rr64 x 18)) (rr64 x 41)
def ch64 (e f g : Int) : Int := bits BinOp.xor IntKind.u64 (bits BinOp.and IntKind.u64 e f) (bits BinOp.and IntKind.u64 (ng64 e) g)
def mj64 (a b c : Int) : Int := bits BinOp.xor IntKind.u64 (bits BinOp.xor IntKind.u64 (bits BinOp.and IntKind.u64 a b) (bits BinOp.and IntKind.u64 a c)) (bits BinOp.and IntKind.u64 b c)

theorem or_wd64 {x y : Int} (h : Wd64 x) (k : Wd64 y) : Wd64 (bits BinOp.or IntKind.u64 x y) := by
  obtain ⟨n, rfl⟩ := Int.eq_ofNat_of_zero_le h.1
  obtain ⟨m, rfl⟩ := Int.eq_ofNat_of_zero_le k.1
  have h1 := h.2
  have k1 := k.2
  rw [u64_or_nat n m (by omega) (by omega)]
  have : n ||| m < 2 ^ 64 := Nat.or_lt_two_pow (by omega) (by omega)
  exact ⟨by omega, by omega⟩
theorem xor_wd64 {x y : Int} (h : Wd64 x) (k : Wd64 y) : Wd64 (bits BinOp.xor IntKind.u64 x y) := by
  obtain ⟨n, rfl⟩ := Int.eq_ofNat_of_zero_le h.1
  obtain ⟨m, rfl⟩ := Int.eq_ofNat_of_zero_le k.1
  have h1 := h.2
  have k1 := k.2
  rw [u64_xor_nat n m (by omega) (by omega)]
  have : n ^^^ m < 2 ^ 64 := Nat.xor_lt_two_pow (by omega) (by omega)
  exact ⟨by omega, by omega⟩
theorem and_wd64 {x y : Int} (h : Wd64 x) (k : Wd64 y) : Wd64 (bits BinOp.and IntKind.u64 x y) := by
  obtain ⟨n, rfl⟩ := Int.eq_ofNat_of_zero_le h.1
  obtain ⟨m, rfl⟩ := Int.eq_ofNat_of_zero_le k.1
  have h1 := h.2
  have k1 := k.2
  rw [u64_and_nat n m (by omega) (by omega)]
  have : n &&& m < 2 ^ 64 := Nat.and_lt_two_pow _ (by omega)
  exact ⟨by omega, by omega⟩
theorem shr_wd64 {x : Int} (h : Wd64 x) (n : Nat) : Wd64 (x / 2 ^ n) := by
  have hp : (0 : Int) < 2 ^ n := Int.pow_pos (by decide)
  have h1 := Int.ediv_nonneg h.1 (Int.le_of_lt hp)
  have h2 := Int.ediv_le_self (2 ^ n) h.1
  have h3 := h.2
  exact ⟨h1, by omega⟩
theorem mod_wd64 (x : Int) : Wd64 (x % 18446744073709551616) := ⟨by omega, by omega⟩
theorem rr_wd64 {x : Int} (h : Wd64 x) (n : Nat) : Wd64 (rr64 x n) := or_wd64 (shr_wd64 h n) (mod_wd64 _)
theorem max64 : IntKind.u64.max = 18446744073709551615 := by decide
theorem ng_wd64 {x : Int} (h : Wd64 x) : Wd64 (ng64 x) := by
  unfold ng64
  rw [max64]
  exact xor_wd64 ⟨by omega, by omega⟩ h
theorem sg0_wd64 {x : Int} (h : Wd64 x) : Wd64 (sg064 x) := xor_wd64 (xor_wd64 (rr_wd64 h _) (rr_wd64 h _)) (by obtain ⟨h0, h1⟩ := h; exact ⟨by omega, by omega⟩)
theorem sg1_wd64 {x : Int} (h : Wd64 x) : Wd64 (sg164 x) := xor_wd64 (xor_wd64 (rr_wd64 h _) (rr_wd64 h _)) (by obtain ⟨h0, h1⟩ := h; exact ⟨by omega, by omega⟩)
theorem gg0_wd64 {x : Int} (h : Wd64 x) : Wd64 (gg064 x) := xor_wd64 (xor_wd64 (rr_wd64 h _) (rr_wd64 h _)) (rr_wd64 h _)
theorem gg1_wd64 {x : Int} (h : Wd64 x) : Wd64 (gg164 x) := xor_wd64 (xor_wd64 (rr_wd64 h _) (rr_wd64 h _)) (rr_wd64 h _)
theorem ch_wd64 {e f g : Int} (he : Wd64 e) (hf : Wd64 f) (hg : Wd64 g) : Wd64 (ch64 e f g) := xor_wd64 (and_wd64 he hf) (and_wd64 (ng_wd64 he) hg)
theorem mj_wd64 {a b c : Int} (ha : Wd64 a) (hb : Wd64 b) (hc : Wd64 c) : Wd64 (mj64 a b c) := xor_wd64 (xor_wd64 (and_wd64 ha hb) (and_wd64 ha hc)) (and_wd64 hb hc)

/-- Where the document takes the exclusive or, the model takes the or. -/
theorem ch_same64 {e f g : Int} (he : Wd64 e) (hf : Wd64 f) (hg : Wd64 g) :
    bits BinOp.or IntKind.u64 (bits BinOp.and IntKind.u64 e f) (bits BinOp.and IntKind.u64 (ng64 e) g) = ch64 e f g := by
  unfold ch64 ng64
  rw [max64]
  obtain ⟨a, rfl⟩ := Int.eq_ofNat_of_zero_le he.1
  obtain ⟨b, rfl⟩ := Int.eq_ofNat_of_zero_le hf.1
  obtain ⟨c, rfl⟩ := Int.eq_ofNat_of_zero_le hg.1
  have h1 : a < 18446744073709551616 := by have := he.2; omega
  have h2 : b < 18446744073709551616 := by have := hf.2; omega
  have h3 : c < 18446744073709551616 := by have := hg.2; omega
  have hx : 18446744073709551615 ^^^ a < 2 ^ 64 := Nat.xor_lt_two_pow (by omega) (by omega)
  have hy : a &&& b < 2 ^ 64 := Nat.and_lt_two_pow _ (by omega)
  have hz : (18446744073709551615 ^^^ a) &&& c < 2 ^ 64 := Nat.and_lt_two_pow _ (by omega)
  rw [show (18446744073709551615 : Int) = ((18446744073709551615 : Nat) : Int) from rfl, u64_xor_nat 18446744073709551615 a (by omega) h1, u64_and_nat a b h1 h2, u64_and_nat _ c (by omega) h3, u64_or_nat _ _ (by omega) (by omega), u64_xor_nat _ _ (by omega) (by omega)]
  congr 1
  apply Nat.eq_of_testBit_eq
  intro i
  simp only [Nat.testBit_or, Nat.testBit_xor, Nat.testBit_and]
  by_cases ci : i < 64
  · have : Nat.testBit 18446744073709551615 i = true := by rw [show (18446744073709551615 : Nat) = 2 ^ 64 - 1 from rfl, Nat.testBit_two_pow_sub_one]; simpa using ci
    rw [this]
    cases a.testBit i <;> cases b.testBit i <;> cases c.testBit i <;> rfl
  · have : a.testBit i = false := Nat.testBit_lt_two_pow (Nat.lt_of_lt_of_le h1 (Nat.pow_le_pow_right (n := 2) (by decide) (show 64 ≤ i by omega)))
    rw [this]
    cases Nat.testBit 18446744073709551615 i <;> cases b.testBit i <;> cases c.testBit i <;> rfl
theorem mj_same64 {a b c : Int} (ha : Wd64 a) (hb : Wd64 b) (hc : Wd64 c) :
    bits BinOp.or IntKind.u64 (bits BinOp.or IntKind.u64 (bits BinOp.and IntKind.u64 a b) (bits BinOp.and IntKind.u64 a c)) (bits BinOp.and IntKind.u64 b c) = mj64 a b c := by
  unfold mj64
  obtain ⟨a, rfl⟩ := Int.eq_ofNat_of_zero_le ha.1
  obtain ⟨b, rfl⟩ := Int.eq_ofNat_of_zero_le hb.1
  obtain ⟨c, rfl⟩ := Int.eq_ofNat_of_zero_le hc.1
  have h1 : a < 18446744073709551616 := by have := ha.2; omega
  have h2 : b < 18446744073709551616 := by have := hb.2; omega
  have h3 : c < 18446744073709551616 := by have := hc.2; omega
  have hx : a &&& b < 2 ^ 64 := Nat.and_lt_two_pow _ (by omega)
  have hy : a &&& c < 2 ^ 64 := Nat.and_lt_two_pow _ (by omega)
  have hz : b &&& c < 2 ^ 64 := Nat.and_lt_two_pow _ (by omega)
  have o1 : a &&& b ||| a &&& c < 2 ^ 64 := Nat.or_lt_two_pow hx hy
  have o2 : a &&& b ^^^ a &&& c < 2 ^ 64 := Nat.xor_lt_two_pow hx hy
  rw [u64_and_nat a b h1 h2, u64_and_nat a c h1 h3, u64_and_nat b c h2 h3, u64_or_nat _ _ (by omega) (by omega), u64_xor_nat _ _ (by omega) (by omega), u64_or_nat _ _ (by omega) (by omega), u64_xor_nat _ _ (by omega) (by omega)]
  congr 1
  apply Nat.eq_of_testBit_eq
  intro i
  simp only [Nat.testBit_or, Nat.testBit_xor, Nat.testBit_and]
  cases a.testBit i <;> cases b.testBit i <;> cases c.testBit i <;> rfl

set_option maxHeartbeats 1000000 in
theorem right_64 (w : World) (x : Int) (h : Wd64 x) (n : Nat) (h0 : 0 < n) (h1 : n < 64) : Calls Tryd.prog 67 #[.int .u64 x, .int .u64 (n : Int)] w fun e w' => e = .returned (.int .u64 (rr64 x n)) ∧ w' = w := by
  obtain ⟨x0, x1⟩ := h
  go_enter Tryd.func67, Tryd.ntmps67
  go_wp2
  go_ret
  exact ⟨rfl, rfl⟩
set_option maxHeartbeats 1000000 in
theorem turnRight_64 (w : World) (x : Int) (h : Wd64 x) (n : Nat) (h0 : 0 < n) (h1 : n < 64) : Calls Tryd.prog 104 #[.int .u64 x, .int .i64 (n : Int)] w fun e w' => e = .returned (.int .u64 (rr64 x n)) ∧ ∃ m, w' = w.drewN m := by
  obtain ⟨x0, x1⟩ := h
  go_enter Tryd.func104, Tryd.ntmps104
  go_wp2_with fail
  go_quiet ((go_at_call 84; exact Calls.quiet_of_same (wordBits_64 _)))
  go_wp2
  go_ret
  exact ⟨rfl, _, rfl⟩
theorem choice_64 (w : World) (e f g : Int) (he : Wd64 e) (hf : Wd64 f) (hg : Wd64 g) : Calls Tryd.prog 88 #[.int .u64 e, .int .u64 f, .int .u64 g] w fun r w' => r = .returned (.int .u64 (ch64 e f g)) ∧ w' = w := by
  obtain ⟨e0, e1⟩ := he
  obtain ⟨f0, f1⟩ := hf
  obtain ⟨g0, g1⟩ := hg
  go_enter Tryd.func88, Tryd.ntmps88
  go_wp2
  go_ret
  exact ⟨rfl, rfl⟩
theorem majority_64 (w : World) (e f g : Int) (he : Wd64 e) (hf : Wd64 f) (hg : Wd64 g) : Calls Tryd.prog 90 #[.int .u64 e, .int .u64 f, .int .u64 g] w fun r w' => r = .returned (.int .u64 (mj64 e f g)) ∧ w' = w := by
  obtain ⟨e0, e1⟩ := he
  obtain ⟨f0, f1⟩ := hf
  obtain ⟨g0, g1⟩ := hg
  go_enter Tryd.func90, Tryd.ntmps90
  go_wp2
  go_ret
  exact ⟨rfl, rfl⟩
theorem hasLong_64 (w : World) : Calls Tryd.prog 101 #[] w fun e w' => e = .returned (.bool true) ∧ w' = w := by
  go_enter Tryd.func101, Tryd.ntmps101
  go_wp2_with fail
  refine (wordBits_64 w).mono ?_
  rintro r w1 ⟨rfl, rfl⟩
  go_wp2
  go_ret
  exact ⟨rfl, rfl⟩
theorem stepsOf_64 (w : World) : Calls Tryd.prog 85 #[] w fun e w' => e = .returned (.int .i64 80) ∧ w' = w := by
  go_enter Tryd.func85, Tryd.ntmps85
  go_wp2_with fail
  refine (hasLong_64 w).mono ?_
  rintro r w1 ⟨rfl, rfl⟩
  go_wp2
  go_ret
  exact ⟨rfl, rfl⟩
theorem upperBits_64 (w : World) (x : Int) (_h0 : 0 ≤ x) (_h1 : x < 18446744073709551616) : Calls Tryd.prog 68 #[.int .u64 x] w fun e w' => e = .returned (.int .u64 x) ∧ w' = w := by
  go_enter Tryd.func68, Tryd.ntmps68
  go_wp2_with fail
  refine (wordBits_64 w).mono ?_
  rintro r w1 ⟨rfl, rfl⟩
  go_wp2
  go_ret
  exact ⟨rfl, rfl⟩

set_option maxHeartbeats 1000000 in
theorem smallMix0_64 (w : World) (x : Int) (h : Wd64 x) : Calls Tryd.prog 103 #[.int .u64 x] w fun e w' => e = .returned (.int .u64 (sg064 x)) ∧ ∃ m, w' = w.drewN m := by
  have T0 := fun w => hide (turnRight_64 w x h 1 (by decide) (by decide))
  have T1 := fun w => hide (turnRight_64 w x h 8 (by decide) (by decide))
  obtain ⟨x0, x1⟩ := h
  go_enter Tryd.func103, Tryd.ntmps103
  go_wp2_with fail
  refine (hasLong_64 w).mono ?_
  rintro r w0 ⟨rfl, rfl⟩
  go_wp2_with fail
  refine (T0 w0).out.mono ?_
  rintro r w1 ⟨rfl, n1, rfl⟩
  go_wp2_with fail
  refine (T1 (w0.drewN n1)).out.mono ?_
  rintro r w2 ⟨rfl, n2, rfl⟩
  go_wp2
  go_ret
  exact ⟨rfl, _, rfl⟩

set_option maxHeartbeats 1000000 in
theorem smallMix1_64 (w : World) (x : Int) (h : Wd64 x) : Calls Tryd.prog 102 #[.int .u64 x] w fun e w' => e = .returned (.int .u64 (sg164 x)) ∧ ∃ m, w' = w.drewN m := by
  have T0 := fun w => hide (turnRight_64 w x h 19 (by decide) (by decide))
  have T1 := fun w => hide (turnRight_64 w x h 61 (by decide) (by decide))
  obtain ⟨x0, x1⟩ := h
  go_enter Tryd.func102, Tryd.ntmps102
  go_wp2_with fail
  refine (hasLong_64 w).mono ?_
  rintro r w0 ⟨rfl, rfl⟩
  go_wp2_with fail
  refine (T0 w0).out.mono ?_
  rintro r w1 ⟨rfl, n1, rfl⟩
  go_wp2_with fail
  refine (T1 (w0.drewN n1)).out.mono ?_
  rintro r w2 ⟨rfl, n2, rfl⟩
  go_wp2
  go_ret
  exact ⟨rfl, _, rfl⟩

set_option maxHeartbeats 1000000 in
theorem greatMix0_64 (w : World) (x : Int) (h : Wd64 x) : Calls Tryd.prog 89 #[.int .u64 x] w fun e w' => e = .returned (.int .u64 (gg064 x)) ∧ ∃ m, w' = w.drewN m := by
  have T0 := fun w => hide (turnRight_64 w x h 28 (by decide) (by decide))
  have T1 := fun w => hide (turnRight_64 w x h 34 (by decide) (by decide))
  have T2 := fun w => hide (turnRight_64 w x h 39 (by decide) (by decide))
  obtain ⟨x0, x1⟩ := h
  go_enter Tryd.func89, Tryd.ntmps89
  go_wp2_with fail
  refine (hasLong_64 w).mono ?_
  rintro r w0 ⟨rfl, rfl⟩
  go_wp2_with fail
  refine (T0 w0).out.mono ?_
  rintro r w1 ⟨rfl, n1, rfl⟩
  go_wp2_with fail
  refine (T1 (w0.drewN n1)).out.mono ?_
  rintro r w2 ⟨rfl, n2, rfl⟩
  go_wp2_with fail
  refine (T2 _).out.mono ?_
  rintro r w3 ⟨rfl, n3, rfl⟩
  go_wp2
  go_ret
  exact ⟨rfl, _, rfl⟩

set_option maxHeartbeats 1000000 in
theorem greatMix1_64 (w : World) (x : Int) (h : Wd64 x) : Calls Tryd.prog 87 #[.int .u64 x] w fun e w' => e = .returned (.int .u64 (gg164 x)) ∧ ∃ m, w' = w.drewN m := by
  have T0 := fun w => hide (turnRight_64 w x h 14 (by decide) (by decide))
  have T1 := fun w => hide (turnRight_64 w x h 18 (by decide) (by decide))
  have T2 := fun w => hide (turnRight_64 w x h 41 (by decide) (by decide))
  obtain ⟨x0, x1⟩ := h
  go_enter Tryd.func87, Tryd.ntmps87
  go_wp2_with fail
  refine (hasLong_64 w).mono ?_
  rintro r w0 ⟨rfl, rfl⟩
  go_wp2_with fail
  refine (T0 w0).out.mono ?_
  rintro r w1 ⟨rfl, n1, rfl⟩
  go_wp2_with fail
  refine (T1 (w0.drewN n1)).out.mono ?_
  rintro r w2 ⟨rfl, n2, rfl⟩
  go_wp2_with fail
  refine (T2 _).out.mono ?_
  rintro r w3 ⟨rfl, n3, rfl⟩
  go_wp2
  go_ret
  exact ⟨rfl, _, rfl⟩
end Go.Proofs.YtbjcegabjpeejaaDoor
