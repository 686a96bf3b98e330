
/-
  Words of 64 bits: turning and mixing, as numbers, and the calls of the program and of the model (written by gens/hw.py).
-/
import Derived.Test.YtnfciobpfiibcaaDoorPdI
import Derived.Test.YtnfciobpfiibcaaDoorPdS
import Derived.Laws.BitsAllLaws
import Derived.Deep.QuietTactic
import Derived.BigQuiet
namespace Go.Proofs.YtnfciobpfiibcaaDoor
set_option maxRecDepth 100000
open Go Go.RowKit

def Wd64 (x : Int) : Prop := 0 ≤ x ∧ x < 18446744073709551616
def rr64 (x : Int) (n : Nat) : Int := bits BinOp.or IntKind.u64 (x / 2 ^ n) (x * 2 ^ (64 - n) % 18446744073709551616)
def ng64 (x : Int) : Int := bits BinOp.xor IntKind.u64 IntKind.u64.max x
def sg064 (x : Int) : Int := bits BinOp.xor IntKind.u64 (bits BinOp.xor IntKind.u64 (rr64 x 1) (rr64 x 8)) (x / 128)
def sg164 (x : Int) : Int := bits BinOp.xor IntKind.u64 (bits BinOp.xor IntKind.u64 (rr64 x 19) (rr64 x 61)) (x / 64)
def gg064 (x : Int) : Int := bits BinOp.xor IntKind.u64 (bits BinOp.xor IntKind.u64 (rr64 x 28) (rr64 x 34)) (rr64 x 39)
def gg164 (x : Int) : Int := bits BinOp.xor IntKind.u64 (bits BinOp.xor IntKind.u64 (rr64 x 14) (rr64 x 18)) (rr64 x 41)
def ch64 (e f g : Int) : Int := bits BinOp.xor IntKind.u64 (bits BinOp.and IntKind.u64 e f) (bits BinOp.and IntKind.u64 (ng64 e) g)
def mj64 (a b c : Int) : Int := bits BinOp.xor IntKind.u64 (bits BinOp.xor IntKind.u64 (bits BinOp.and IntKind.u64 a b) (bits BinOp.and IntKind.u64 a c)) (bits BinOp.and IntKind.u64 b c)

theorem or_wd64 {x y : Int} (h : Wd64 x) (k : Wd64 y) : Wd64 (bits BinOp.or IntKind.u64 x y) := by
  obtain ⟨n, rfl⟩ := Int.eq_ofNat_of_zero_le h.1
  obtain ⟨m, rfl⟩ := Int.eq_ofNat_of_zero_le k.1
  have h1 := h.2
  have k1 := k.2
  rw [u64_or_nat n m (by omega) (by omega)]
  have : n ||| m < 2 ^ 64 := Nat.or_lt_two_pow (by omega) (by omega)
  exact ⟨by omega, by omega⟩
theorem xor_wd64 {x y : Int} (h : Wd64 x) (k : Wd64 y) : Wd64 (bits BinOp.xor IntKind.u64 x y) := by
  obtain ⟨n, rfl⟩ := Int.eq_ofNat_of_zero_le h.1
  obtain ⟨m, rfl⟩ := Int.eq_ofNat_of_zero_le k.1
  have h1 := h.2
  have k1 := k.2
  rw [u64_xor_nat n m (by omega) (by omega)]
  have : n ^^^ m < 2 ^ 64 := Nat.xor_lt_two_pow (by omega) (by omega)
  exact ⟨by omega, by omega⟩
theorem and_wd64 {x y : Int} (h : Wd64 x) (k : Wd64 y) : Wd64 (bits BinOp.and IntKind.u64 x y) := by
  obtain ⟨n, rfl⟩ := Int.eq_ofNat_of_zero_le h.1
  obtain ⟨m, rfl⟩ := Int.eq_ofNat_of_zero_le k.1
  have h1 := h.2
  have k1 := k.2
  rw [u64_and_nat n m (by omega) (by omega)]
  have : n &&& m < 2 ^ 64 := Nat.and_lt_two_pow _ (by omega)
  exact ⟨by omega, by omega⟩
theorem shr_wd64 {x : Int} (h : Wd64 x) (n : Nat) : Wd64 (x / 2 ^ n) := by
  have hp : (0 : Int) < 2 ^ n := Int.pow_pos (by decide)
  have h1 := Int.ediv_nonneg h.1 (Int.le_of_lt hp)
  have h2 := Int.ediv_le_self (2 ^ n) h.1
  have h3 := h.2
  exact ⟨h1, by omega⟩
theorem mod_wd64 (x : Int) : Wd64 (x % 18446744073709551616) := ⟨by omega, by omega⟩
theorem rr_wd64 {x : Int} (h : Wd64 x) (n : Nat) : Wd64 (rr64 x n) := or_wd64 (shr_wd64 h n) (mod_wd64 _)
theorem max64 : IntKind.u64.max = 18446744073709551615 := by decide
theorem ng_wd64 {x : Int} (h : Wd64 x) : Wd64 (ng64 x) := by
  unfold ng64
  rw [max64]
  exact xor_wd64 ⟨by omega, by omega⟩ h
theorem sg0_wd64 {x : Int} (h : Wd64 x) : Wd64 (sg064 x) := xor_wd64 (xor_wd64 (rr_wd64 h _) (rr_wd64 h _)) (by obtain ⟨h0, h1⟩ := h; exact ⟨by omega, by omega⟩)
theorem sg1_wd64 {x : Int} (h : Wd64 x) : Wd64 (sg164 x) := xor_wd64 (xor_wd64 (rr_wd64 h _) (rr_wd64 h _)) (by obtain ⟨h0, h1⟩ := h; exact ⟨by omega, by omega⟩)
theorem gg0_wd64 {x : Int} (h : Wd64 x) : Wd64 (gg064 x) := xor_wd64 (xor_wd64 (rr_wd64 h _) (rr_wd64 h _)) (rr_wd64 h _)
theorem gg1_wd64 {x : Int} (h : Wd64 x) : Wd64 (gg164 x) := xor_wd64 (xor_wd64 (rr_wd64 h _) (rr_wd64 h _)) (rr_wd64 h _)
theorem ch_wd64 {e f g : Int} (he : Wd64 e) (hf : Wd64 f) (hg : Wd64 g) : Wd64 (ch64 e f g) := xor_wd64 (and_wd64 he hf) (and_wd64 (ng_wd64 he) hg)
theorem mj_wd64 {a b c : Int} (ha : Wd64 a) (hb : Wd64 b) (hc : Wd64 c) : Wd64 (mj64 a b c) := xor_wd64 (xor_wd64 (and_wd64 ha hb) (and_wd64 ha hc)) (and_wd64 hb hc)

/-- Where the document takes the exclusive or, the model takes the or. -/
theorem ch_same64 {e f g : Int} (he : Wd64 e) (hf : Wd64 f) (hg : Wd64 g) :
    bits BinOp.or IntKind.u64 (bits BinOp.and IntKind.u64 e f) (bits BinOp.and IntKind.u64 (ng64 e) g) = ch64 e f g := by
  unfold ch64 ng64
  rw [max64]
  obtain ⟨a, rfl⟩ := Int.eq_ofNat_of_zero_le he.1
  obtain ⟨b, rfl⟩ := Int.eq_ofNat_of_zero_le hf.1
  obtain ⟨c, rfl⟩ := Int.eq_ofNat_of_zero_le hg.1
  have h1 : a < 18446744073709551616 := by have := he.2; omega
  have h2 : b < 18446744073709551616 := by have := hf.2; omega
  have h3 : c < 18446744073709551616 := by have := hg.2; omega
  have hx : 18446744073709551615 ^^^ a < 2 ^ 64 := Nat.xor_lt_two_pow (by omega) (by omega)
  have hy : a &&& b < 2 ^ 64 := Nat.and_lt_two_pow _ (by omega)
  have hz : (18446744073709551615 ^^^ a) &&& c < 2 ^ 64 := Nat.and_lt_two_pow _ (by omega)
  rw [show (18446744073709551615 : Int) = ((18446744073709551615 : Nat) : Int) from rfl, u64_xor_nat 18446744073709551615 a (by omega) h1, u64_and_nat a b h1 h2, u64_and_nat _ c (by omega) h3, u64_or_nat _ _ (by omega) (by omega), u64_xor_nat _ _ (by omega) (by omega)]
  congr 1
  apply Nat.eq_of_testBit_eq
  intro i
  simp only [Nat.testBit_or, Nat.testBit_xor, Nat.testBit_and]
  by_cases ci : i < 64
  · have : Nat.testBit 18446744073709551615 i = true := by rw [show (18446744073709551615 : Nat) = 2 ^ 64 - 1 from rfl, Nat.testBit_two_pow_sub_one]; simpa using ci
    rw [this]
    cases a.testBit i <;> cases b.testBit i <;> cases c.testBit i <;> rfl
  · have : a.testBit i = false := Nat.testBit_lt_two_pow (Nat.lt_of_lt_of_le h1 (Nat.pow_le_pow_right (n := 2) (by decide) (show 64 ≤ i by omega)))
    rw [this]
    cases Nat.testBit 18446744073709551615 i <;> cases b.testBit i <;> cases c.testBit i <;> rfl
theorem mj_same64 {a b c : Int} (ha : Wd64 a) (hb : Wd64 b) (hc : Wd64 c) :
    bits BinOp.or IntKind.u64 (bits BinOp.or IntKind.u64 (bits BinOp.and IntKind.u64 a b) (bits BinOp.and IntKind.u64 a c)) (bits BinOp.and IntKind.u64 b c) = mj64 a b c := by
  unfold mj64
  obtain ⟨a, rfl⟩ := Int.eq_ofNat_of_zero_le ha.1
  obtain ⟨b, rfl⟩ := Int.eq_ofNat_of_zero_le hb.1
  obtain ⟨c, rfl⟩ := Int.eq_ofNat_of_zero_le hc.1
  have h1 : a < 18446744073709551616 := by have := ha.2; omega
  have h2 : b < 18446744073709551616 := by have := hb.2; omega
  have h3 : c < 18446744073709551616 := by have := hc.2; omega
  have hx : a &&& b < 2 ^ 64 := Nat.and_lt_two_pow _ (by omega)
  have hy : a &&& c < 2 ^ 64 := Nat.and_lt_two_pow _ (by omega)
  have hz : b &&& c < 2 ^ 64 := Nat.and_lt_two_pow _ (by omega)
  have o1 : a &&& b ||| a &&& c < 2 ^ 64 := Nat.or_lt_two_pow hx hy
  have o2 : a &&& b ^^^ a &&& c < 2 ^ 64 := Nat.xor_lt_two_pow hx hy
  rw [u64_and_nat a b h1 h2, u64_and_nat a c h1 h3, u64_and_nat b c h2 h3, u64_or_nat _ _ (by omega) (by omega), u64_xor_nat _ _ (by omega) (by omega), u64_or_nat _ _ (by omega) (by omega), u64_xor_nat _ _ (by omega) (by omega)]
  congr 1
  apply Nat.eq_of_testBit_eq
  intro i
  simp only [Nat.testBit_or, Nat.testBit_xor, Nat.testBit_and]
  cases a.testBit i <;> cases b.testBit i <;> cases c.testBit i <;> rfl

end Go.Proofs.YtnfciobpfiibcaaDoor
