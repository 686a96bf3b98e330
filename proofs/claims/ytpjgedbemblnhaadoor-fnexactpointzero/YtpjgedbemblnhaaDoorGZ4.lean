import Derived.Test.YtpjgedbemblnhaaDoorGZ3
import Derived.Test.YtpjgedbemblnhaaDoorGZ2
import Derived.WalkSpells
import Derived.Deep.QuietTactic
import Derived.BigQuiet
import Derived.Deep.WholeRow
import Derived.Laws.Bits64b
import Derived.Laws.BitsLemmas
import Derived.Laws.Rows
import Derived.Laws.Tables
import Derived.Deep.MidRow
import Derived.Deep.DeepCutAuto

/-
  The model's quotient and rest.
-/
namespace Go.Proofs.YtpjgedbemblnhaaDoor
set_option maxRecDepth 100000
open Go.RowKit

theorem div_of {A D q r : Int} (h : A = q * D + r) (r0 : 0 ≤ r) (r1 : r < D) : q = A / D ∧ r = A % D := by
  have h1 : A / D = q := by
    rw [h, Int.add_comm, Int.add_mul_ediv_right _ _ (by omega), Int.ediv_eq_zero_of_lt r0 r1]
    omega
  have h2 : A % D = r := by
    rw [h, Int.add_comm, Int.add_mul_emod_self_right, Int.emod_eq_of_lt r0 r1]
  exact ⟨h1.symm, h2.symm⟩

theorem and1 (x : Int) (h0 : 0 ≤ x) (h1 : x < 256) : bits BinOp.and IntKind.i64 x 1 = x % 2 :=
  bits_mask .i64 8 (by decide) (fun n a b => by rw [IntKind.wrap_i64]; omega) 1 (by decide) x h0 h1

theorem and255 (x : Int) (h0 : 0 ≤ x) (h1 : x < 1024) : bits BinOp.and IntKind.i64 x 255 = x % 256 :=
  bits_mask .i64 10 (by decide) (fun n a b => by rw [IntKind.wrap_i64]; omega) 8 (by decide) x h0 h1

/-- Quotient and rest as rows of their own. -/
def DivRow (B : Nat) (w' : World) (e : Ending) (q r : Int) : Prop :=
  ∃ (qs rs : List Int) (a1 : Option Addr) (c1 g1 : Nat) (a2 : Option Addr) (c2 g2 : Nat), e = .returned (.tuple #[.slice a1 qs.length c1, .slice a2 rs.length c2]) ∧ Canon qs q ∧ Canon rs r ∧ (Own w' g1 a1 .u8 qs ∧ (a1 = none → c1 = 0) ∧ qs.length ≤ c1 ∧ B ≤ g1) ∧ (Own w' g2 a2 .u8 rs ∧ (a2 = none → c2 = 0) ∧ rs.length ≤ c2 ∧ B ≤ g2) ∧ (0 < qs.length → g1 < g2)

/-- A row of bytes of a number. -/
def BRow (w : World) (B g : Nat) (a : Option Addr) (c : Nat) (ys : List Int) (v : Int) : Prop := Own w g a .u8 ys ∧ (a = none → c = 0) ∧ ys.length ≤ c ∧ B ≤ g ∧ Canon ys v

theorem BRow.up {w w' : World} {B g : Nat} {a : Option Addr} {c : Nat} {ys : List Int} {v : Int} (h : BRow w B g a c ys v) (n : Below w.heap.size w w') : BRow w' B g a c ys v := ⟨h.1.up n, h.2⟩

theorem BRow.low {w : World} {B g : Nat} {a : Option Addr} {c : Nat} {ys : List Int} {v : Int} (h : BRow w B g a c ys v) (B' : Nat) (hB : B' ≤ B) : BRow w B' g a c ys v := ⟨h.1, h.2.1, h.2.2.1, by have := h.2.2.2.1; omega, h.2.2.2.2⟩

def NewB (B : Nat) (w' : World) (e : Ending) (v : Int) : Prop := ∃ (ys : List Int) (a : Option Addr) (c g : Nat), e = .returned (.slice a ys.length c) ∧ BRow w' B g a c ys v

theorem Canon.ge {ys : List Int} {v : Int} (h : Canon ys v) (h0 : 0 < ys.length) : 256 ^ (ys.length - 1) ≤ v := by
  have e := bval_lo ys (ys.length - 1)
  have b := lo_bd h.1 (ys.length - 1)
  have d : dig ys (ys.length - 1) = ys.getD 0 0 := by unfold dig; rw [if_pos (by omega), show ys.length - 1 - (ys.length - 1) = 0 by omega]
  have p := h.1 0
  have q := h.2.2 h0
  rw [hi_step, hi_past ys _ (by omega), d, h.2.1] at e
  have : 1 * 256 ^ (ys.length - 1) ≤ (0 * 256 + ys.getD 0 0) * 256 ^ (ys.length - 1) := Int.mul_le_mul_of_nonneg_right (by omega) (by have := p256_pos (ys.length - 1); omega)
  omega

theorem Canon.len {ys : List Int} {v : Int} {n : Nat} (h : Canon ys v) (hv : v < 256 ^ n) : ys.length ≤ n := by
  by_cases h0 : n < ys.length
  · have g := h.ge (by omega)
    have : (256 : Int) ^ n ≤ 256 ^ (ys.length - 1) := by
      rw [show ys.length - 1 = n + (ys.length - 1 - n) by omega, Int.pow_add]
      have p := p256_pos n
      have q := p256_pos (ys.length - 1 - n)
      have := Int.mul_le_mul_of_nonneg_left (show (1 : Int) ≤ 256 ^ (ys.length - 1 - n) by omega) (show (0 : Int) ≤ 256 ^ n by omega)
      omega
    omega
  · omega

end Go.Proofs.YtpjgedbemblnhaaDoor

/-
  The product in five limbs: numbers alone.
-/
namespace Go.Proofs.YtpjgedbemblnhaaDoor
set_option maxRecDepth 100000

/-- The limbs of f, and below them those that come round. -/
def rnd (f : Nat → Int) (j : Nat) : Int := if j < 4 then 19 * f (j + 1) else f (j - 4)
/-- The first n products of column k. -/
def col (e f : Nat → Int) (k : Nat) : Nat → Int
  | 0 => 0
  | i + 1 => col e f k i + e i * rnd f (4 + k - i)
theorem col_mod (e f : Nat → Int) : ∃ q, sv (fun k => col e f k 5) 5 + PP * q = sv e 5 * sv f 5 := by
  refine ⟨e 1 * f 4 + e 2 * f 3 + e 3 * f 2 + e 4 * f 1 + 2251799813685248 * (e 2 * f 4 + e 3 * f 3 + e 4 * f 2) + 2251799813685248 ^ 2 * (e 3 * f 4 + e 4 * f 3) + 2251799813685248 ^ 3 * (e 4 * f 4), ?_⟩
  simp only [sv, col, rnd]
  simp
  generalize e 0 = e0, e 1 = e1, e 2 = e2, e 3 = e3, e 4 = e4, f 0 = f0, f 1 = f1, f 2 = f2, f 3 = f3, f 4 = f4
  grind
theorem rnd_bd {f : Nat → Int} (h : Lm f) (j : Nat) (hj : j < 9) : 0 ≤ rnd f j ∧ rnd f j ≤ 42784196460019712 := by
  unfold rnd
  split
  · have := h (j + 1) (by omega); omega
  · have := h (j - 4) (by omega); omega
theorem mul_bd {a b A B : Int} (ha : 0 ≤ a ∧ a ≤ A) (hb : 0 ≤ b ∧ b ≤ B) : 0 ≤ a * b ∧ a * b ≤ A * B :=
  ⟨Int.mul_nonneg ha.1 hb.1, Int.mul_le_mul ha.2 hb.2 hb.1 (by omega)⟩
theorem col_bd {e f : Nat → Int} (he : Lm e) (hf : Lm f) (k : Nat) (hk : k < 5) : ∀ i, i ≤ 5 → 0 ≤ col e f k i ∧ col e f k i ≤ i * 96341445617345434513749443608576
  | 0, _ => by simp [col]
  | i + 1, h => by
    have ih := col_bd he hf k hk i (by omega)
    have h1 := he i (by omega)
    have := mul_bd (A := 2251799813685248) ⟨h1.1, by omega⟩ (rnd_bd hf (4 + k - i) (by omega))
    rw [col]
    omega
/-- The columns, as far as there are any. -/
def cols (e f : Nat → Int) (k : Nat) : Int := if k < 5 then col e f k 5 else 0
theorem cols_bd {e f : Nat → Int} (he : Lm e) (hf : Lm f) (k : Nat) : 0 ≤ cols e f k ∧ cols e f k ≤ 481707228086727172568747218042880 := by
  unfold cols
  split
  · have := col_bd he hf k (by omega) 5 (by omega); omega
  · omega
theorem cols_cr {e f : Nat → Int} (he : Lm e) (hf : Lm f) (k : Nat) : 0 ≤ cr 0 (cols e f) k ∧ cr 0 (cols e f) k ≤ 213920982300098656 :=
  cr_bd (M := 213920982300098656) (by omega) (by omega) (by omega) (fun j => by have := cols_bd he hf j; omega) k
theorem mul_ok {e f : Nat → Int} (he : Lm e) (hf : Lm f) : (∀ j, 0 ≤ st1 (cols e f) j ∧ st1 (cols e f) j < 9223372036854775808) ∧ sv (stl (st1 (cols e f))) 5 = sv e 5 * sv f 5 % PP ∧ Lm (stl (st1 (cols e f))) := by
  have b : ∀ j, 0 ≤ st1 (cols e f) j ∧ st1 (cols e f) j < 9223372036854775808 := fun j => by
    have := cols_cr he hf 5
    have := lf_bd 0 (cols e f) j
    have := lf_bd 0 (cols e f) 0
    unfold st1
    split <;> omega
  obtain ⟨L, hv⟩ := stl_ok b
  refine ⟨b, ?_, L⟩
  rw [hv, st1_val]
  obtain ⟨q, hq⟩ := col_mod e f
  have h1 := cr_sum 0 (cols e f) 5
  have h2 : sv (cols e f) 5 = sv (fun k => col e f k 5) 5 := sv_congr 5 (fun j hj => by simp [cols, hj])
  rw [← hq]
  rw [h2] at h1
  generalize sv (fun k => col e f k 5) 5 = U at *
  generalize sv (lf 0 (cols e f)) 5 = A at *
  generalize cr 0 (cols e f) 5 = c at *
  have h3 : A + 19 * c = U + 57896044618658097711785492504343953926634992332820282019728792003956564819949 * (-c) := by omega
  rw [h3]
  show (U + 57896044618658097711785492504343953926634992332820282019728792003956564819949 * (-c)) % 57896044618658097711785492504343953926634992332820282019728792003956564819949 = (U + 57896044618658097711785492504343953926634992332820282019728792003956564819949 * q) % 57896044618658097711785492504343953926634992332820282019728792003956564819949
  rw [Int.add_mul_emod_self_left, Int.add_mul_emod_self_left]
end Go.Proofs.YtpjgedbemblnhaaDoor

/-
  Four words of 64 bits, thirty-two bytes (the lowest first), five limbs: numbers alone.
-/
namespace Go.Proofs.YtpjgedbemblnhaaDoor
set_option maxRecDepth 100000

/-- The number of the first k bytes, the lowest first. -/
def lsum (a : Nat → Int) : Nat → Int
  | 0 => 0
  | k + 1 => lsum a k + a k * 256 ^ k
/-- Word k behind the first i bytes. -/
def wv (a : Nat → Int) : Nat → Nat → Int
  | 0, _ => 0
  | i + 1, k => wv a i k + if i / 8 = k then a i * 256 ^ (i % 8) else 0
def wval (W : Nat → Int) : Int := W 0 + W 1 * 18446744073709551616 + W 2 * 340282366920938463463374607431768211456 + W 3 * 6277101735386680763835789423207666416102355444464034512896

/-- Bytes, as a function of the place. -/
def Bt (a : Nat → Int) : Prop := ∀ j, 0 ≤ a j ∧ a j < 256
theorem p256_le {m n : Nat} (h : m ≤ n) : (256 : Int) ^ m ≤ 256 ^ n := by
  obtain ⟨d, rfl⟩ := Nat.le.dest h
  induction d with
  | zero => exact Int.le_refl _
  | succ d ih =>
    have := ih (by omega)
    have hp := p256_pos (m + d)
    rw [← Nat.add_assoc, Int.pow_succ]; omega
theorem wv_bd {a : Nat → Int} (h : Bt a) (k : Nat) : ∀ i, 0 ≤ wv a i k ∧ wv a i k < 256 ^ (min (i - 8 * k) 8)
  | 0 => by simp [wv]
  | i + 1 => by
    have ih := wv_bd h k i
    have ha := h i
    rw [wv]
    by_cases e : i / 8 = k
    · rw [if_pos e]
      have e1 : min (i - 8 * k) 8 = i % 8 := by omega
      have e2 : min (i + 1 - 8 * k) 8 = i % 8 + 1 := by omega
      rw [e1] at ih
      rw [e2, Int.pow_succ]
      have hp := p256_pos (i % 8)
      have h1 : 0 ≤ a i * 256 ^ (i % 8) := Int.mul_nonneg ha.1 (by omega)
      have h2 : a i * 256 ^ (i % 8) ≤ 255 * 256 ^ (i % 8) := Int.mul_le_mul_of_nonneg_right (by omega) (by omega)
      omega
    · rw [if_neg e, Int.add_zero]
      have := p256_le (show min (i - 8 * k) 8 ≤ min (i + 1 - 8 * k) 8 by omega)
      omega
theorem wv_lt {a : Nat → Int} (h : Bt a) (i k : Nat) : 0 ≤ wv a i k ∧ wv a i k < 18446744073709551616 := by
  have h1 := wv_bd h k i
  have h2 := p256_le (show min (i - 8 * k) 8 ≤ 8 by omega)
  have h3 : (256 : Int) ^ 8 = 18446744073709551616 := by decide
  omega
theorem wv_cur {a : Nat → Int} (h : Bt a) (i : Nat) : wv a i (i / 8) < 256 ^ (i % 8) := by
  have h1 := wv_bd h (i / 8) i
  rw [show min (i - 8 * (i / 8)) 8 = i % 8 by omega] at h1
  exact h1.2
theorem wv_sum (a : Nat → Int) : ∀ i, i ≤ 32 → wval (wv a i) = lsum a i
  | 0, _ => by simp [wval, wv, lsum]
  | i + 1, hi => by
    have ih := wv_sum a i (by omega)
    have hp : (256 : Int) ^ i = 256 ^ (8 * (i / 8)) * 256 ^ (i % 8) := by
      rw [← Int.pow_add, show 8 * (i / 8) + i % 8 = i by omega]
    rw [lsum, ← ih, hp]
    unfold wval
    simp only [wv]
    generalize 256 ^ (i % 8) = q
    rcases (show i / 8 = 0 ∨ i / 8 = 1 ∨ i / 8 = 2 ∨ i / 8 = 3 by omega) with e | e | e | e
    all_goals
      rw [e]
      simp
      try grind

/-! ### the limbs of four words -/
def rl (W : Nat → Int) : Nat → Int
  | 0 => W 0 % 2251799813685248
  | 1 => (W 0 / 2251799813685248 + W 1 * 8192 % 18446744073709551616) % 2251799813685248
  | 2 => (W 1 / 274877906944 + W 2 * 67108864 % 18446744073709551616) % 2251799813685248
  | 3 => (W 2 / 33554432 + W 3 * 549755813888 % 18446744073709551616) % 2251799813685248
  | 4 => W 3 / 4096
  | _ => 0
def W4 (W : Nat → Int) : Prop := ∀ j, j < 4 → 0 ≤ W j ∧ W j < 18446744073709551616
theorem rl_ok {W : Nat → Int} (h : W4 W) : sv (rl W) 5 = wval W ∧ ∀ j, 0 ≤ rl W j ∧ rl W j < 9223372036854775808 := by
  have h0 := h 0 (by omega); have h1 := h 1 (by omega); have h2 := h 2 (by omega); have h3 := h 3 (by omega)
  refine ⟨?_, ?_⟩
  · simp only [sv, rl, wval]
    omega
  · intro j
    match j with
    | 0 => simp only [rl]; omega
    | 1 => simp only [rl]; omega
    | 2 => simp only [rl]; omega
    | 3 => simp only [rl]; omega
    | 4 => simp only [rl]; omega
    | _ + 5 => simp only [rl]; omega
/-! ### and back -/
def lw (e : Nat → Int) : Nat → Int
  | 0 => e 0 + e 1 * 2251799813685248 % 18446744073709551616
  | 1 => e 1 / 8192 + e 2 * 274877906944 % 18446744073709551616
  | 2 => e 2 / 67108864 + e 3 * 33554432 % 18446744073709551616
  | 3 => e 3 / 549755813888 + e 4 * 4096 % 18446744073709551616
  | _ => 0
theorem lw_ok {e : Nat → Int} (h : Lm e) : wval (lw e) = sv e 5 ∧ W4 (lw e) := by
  have h0 := h 0 (by omega); have h1 := h 1 (by omega); have h2 := h 2 (by omega); have h3 := h 3 (by omega); have h4 := h 4 (by omega)
  refine ⟨?_, ?_⟩
  · simp only [sv, lw, wval]
    omega
  · intro j hj
    obtain rfl | rfl | rfl | rfl : j = 0 ∨ j = 1 ∨ j = 2 ∨ j = 3 := by omega
    all_goals simp only [lw]; omega
theorem W4.uniq {U V : Nat → Int} (hu : W4 U) (hv : W4 V) (h : wval U = wval V) : ∀ j, j < 4 → U j = V j := by
  have a0 := hu 0 (by omega); have a1 := hu 1 (by omega); have a2 := hu 2 (by omega); have a3 := hu 3 (by omega)
  have b0 := hv 0 (by omega); have b1 := hv 1 (by omega); have b2 := hv 2 (by omega); have b3 := hv 3 (by omega)
  unfold wval at h
  have e0 : U 0 = V 0 := by omega
  have e1 : U 1 = V 1 := by omega
  have e2 : U 2 = V 2 := by omega
  have e3 : U 3 = V 3 := by omega
  intro j hj
  obtain rfl | rfl | rfl | rfl : j = 0 ∨ j = 1 ∨ j = 2 ∨ j = 3 := by omega
  all_goals assumption

/-- Byte i of a number. -/
def byt (v : Int) (i : Nat) : Int := v / 256 ^ i % 256
theorem word_byte {W : Nat → Int} (h : W4 W) (i : Nat) (hi : i < 32) : W (i / 8) / 256 ^ (i % 8) % 256 = byt (wval W) i := by
  have h0 := h 0 (by omega); have h1 := h 1 (by omega); have h2 := h 2 (by omega); have h3 := h 3 (by omega)
  unfold byt
  have hp : (256 : Int) ^ i = 256 ^ (8 * (i / 8)) * 256 ^ (i % 8) := by
    rw [← Int.pow_add, show 8 * (i / 8) + i % 8 = i by omega]
  rw [hp, ← Int.ediv_ediv_of_nonneg (Int.le_of_lt (p256_pos _))]
  have key : ∀ x y : Int, (x - y) % 18446744073709551616 = 0 → x / 256 ^ (i % 8) % 256 = y / 256 ^ (i % 8) % 256 := by
    intro x y hxy
    rcases (show i % 8 = 0 ∨ i % 8 = 1 ∨ i % 8 = 2 ∨ i % 8 = 3 ∨ i % 8 = 4 ∨ i % 8 = 5 ∨ i % 8 = 6 ∨ i % 8 = 7 by omega) with e | e | e | e | e | e | e | e
    all_goals
      rw [e]
      simp
      omega
  apply key
  rcases (show i / 8 = 0 ∨ i / 8 = 1 ∨ i / 8 = 2 ∨ i / 8 = 3 by omega) with e | e | e | e
  all_goals
    rw [e]
    simp [wval]
    omega
end Go.Proofs.YtpjgedbemblnhaaDoor

/-
  The model's small functions of chapter 2: turning, the prime, a number of bytes, telling.
-/
namespace Go.Proofs.YtpjgedbemblnhaaDoor
set_option maxRecDepth 100000
open Go.RowKit

theorem byt_app1 {ys : List Int} (h : Byt ys) (x : Int) (h0 : 0 ≤ x) (h1 : x < 256) : Byt (ys ++ [x]) := by
  intro i
  rcases Nat.lt_trichotomy i ys.length with e | e | e
  · have := h i
    simpa [List.getElem?_append, e] using this
  · subst e
    simp [h0, h1]
  · rw [List.getD_eq_getElem?_getD, List.getElem?_eq_none (by simp; omega)]
    decide
/-- What has been turned so far. -/
def TurnTo (xs ys : List Int) (k : Nat) : Prop := ys.length = k ∧ ∀ i, i < k → ys.getD i 0 = xs.getD (xs.length - 1 - i) 0
theorem TurnTo.step {xs ys : List Int} {k : Nat} (h : TurnTo xs ys k) : TurnTo xs (ys ++ [xs.getD (xs.length - 1 - k) 0]) (k + 1) := by
  refine ⟨by simp [h.1], fun i hi => ?_⟩
  by_cases e : i < k
  · rw [← h.2 i e]
    simp [List.getElem?_append, h.1, e]
  · obtain rfl : i = k := by omega
    simp [h.1]
theorem lo_lsum {ys : List Int} {a : Nat → Int} : ∀ n, (∀ i, i < n → dig ys i = a i) → lo ys n = lsum a n
  | 0, _ => rfl
  | n + 1, h => by rw [lo, lsum, lo_lsum n (fun i hi => h i (by omega)), h n (by omega)]
theorem TurnTo.val {xs ys : List Int} (h : TurnTo xs ys xs.length) : bval ys = lsum (fun j => xs.getD j 0) xs.length := by
  rw [← lo_all ys xs.length (by rw [h.1]; exact Nat.le_refl _)]
  refine lo_lsum _ (fun i hi => ?_)
  unfold dig
  rw [if_pos (by rw [h.1]; exact hi), h.2 _ (by rw [h.1]; omega), h.1]
  congr 1
  omega
theorem hi_div {xs : List Int} (hb : Byt xs) : ∀ i, hi xs i = bval xs / 256 ^ i
  | 0 => by rw [hi_zero]; simp
  | i + 1 => by
    have h := hi_step xs i
    have hd := dig_byt hb i
    rw [Int.pow_succ, ← Int.ediv_ediv_of_nonneg (Int.le_of_lt (p256_pos i)), ← hi_div hb i]
    omega
theorem dig_of {xs : List Int} (hb : Byt xs) (i : Nat) : dig xs i = byt (bval xs) i := by
  have h := hi_step xs i
  have hd := dig_byt hb i
  unfold byt
  rw [← hi_div hb i]
  omega
theorem fill_congr {f g : Nat → Int} {n : Nat} (h : ∀ i, i < n → f i = g i) : fill f n = fill g n :=
  eq_of_getD (by rw [fill_len, fill_len]) (fun i hi => by rw [fill_len] at hi; rw [fill_get f n i hi, fill_get g n i hi, h i hi])

set_option maxHeartbeats 2000000 in
theorem l1Turn_any (w : World) (g : Nat) (a : Option Addr) (c : Nat) (xs : List Int) (hr : Rd w g a .u8 xs) (hb : Byt xs) (hl : xs.length ≤ 1048576) :
    Calls Tryd.prog 17 #[.slice a xs.length c] w fun e w' => ∃ ys, TurnTo xs ys xs.length ∧ Byt ys ∧ NewRow w.heap.size w' e .u8 ys ∧ Below w.heap.size w w' := by
  obtain ⟨i0, hi, hz0, hz1, hz2⟩ := info_parts Tryd.info5
  have hown0 : (w.alloc (.cells #[] 5)).ownsRow w.heap.size 5 1 (.slice (some ⟨w.heap.size, 0, none⟩) 0 0) 0 [] := World.ownsRow_lit w #[] 0 (Nat.le_refl _) (by unfold maxLen; omega) (by simp)
  have hal : Below w.heap.size w (w.alloc (.cells #[] 5)) := (Below.refl _ _).alloc (Nat.le_refl _) _
  go_enter Tryd.func17, Tryd.ntmps17
  go_wp2
  go_loopw [3, 4] (fun v i wr => ∃ (k : Nat) (t : Int) (ys : List Int), i = .int .i64 t ∧ t + (k : Int) + 1 = (xs.length : Int) ∧ -1 ≤ t ∧ TurnTo xs ys k ∧ Byt ys ∧ wr.ownsRow w.heap.size 5 1 v k (ys.map (Value.int .u8)) ∧ Below w.heap.size w wr) (fun _ i _ => (intOf i + 1).toNat)
  case atStart => exact ⟨0, (xs.length : Int) - 1, [], rfl, by omega, by omega, ⟨rfl, fun i h => absurd h (by omega)⟩, byt_nil, hown0, hal⟩
  case round =>
    obtain ⟨k, t, ys, rfl, ht, ht0, hT, hyb, hown, hN⟩ := hrel
    have hob := hown.lt
    by_cases hlt : 0 ≤ t
    · obtain ⟨j, rfl⟩ := Int.eq_ofNat_of_zero_le hlt
      obtain ⟨off, rfl, hc⟩ := (hr.up hN) (by omega)
      have cx := hc j (by omega)
      have xb := hb j
      have hT' := hT.step
      rw [show xs.length - 1 - k = j by omega] at hT'
      generalize xs.getD j 0 = x at *
      have j1 : (j : Int) < (xs.length : Int) := by omega
      have HT := hide ht
      clear hc ht
      go_wp2_with (at_builtin; refine wpList_append_own _ rfl _ _ 22 rfl w.heap.size 5 i0 (.int .u8 0) 1 1 Tryd.underlying22 hi hz0 hz1 hz2 rfl (by decide) _ k (ys.map (Value.int .u8)) rfl (hown.alloc _) ⟨wr.heap.size, 0, none⟩ 1 1 [.int .u8 x] rfl rfl ?c1 ?c2 ?c3 ?c4 ?c5 ?_)
      case c1 =>
        intro j u hj
        match j, hj with
        | 0, hj => simp at hj; subst hj; simp [Addr.add]
      case c2 => intro u hu; simp at hu; subst hu; rfl
      case c3 => unfold maxLen; have := HT.out; omega
      case c4 => have := HT.out; omega
      case c5 => simp; have := hN.size; omega
      · intro v' w2 hown2 hgrow _
        have nA : Below w.heap.size w (wr.alloc (.cells #[.int .u8 x] 5)) := hN.alloc hN.size _
        have N2 : Below w.heap.size w w2 := nA.grown hgrow (by simp; have := hN.size; omega) (fun i hi => (hob i hi).1)
        have hown3 : w2.ownsRow w.heap.size 5 1 v' (k + 1) ((ys ++ [x]).map (Value.int .u8)) := by simpa using hown2
        have hb3 := byt_app1 hyb x xb.1 (by omega)
        clear hown hown2 hgrow nA hob
        go_wp2
        go_roundw
        case rel => exact ⟨k + 1, (j : Int) - 1, ys ++ [x], rfl, by have := HT.out; omega, by omega, hT', hb3, hown3, N2⟩
        case measure => simp [intOf]
    · obtain rfl : t = -1 := by omega
      obtain rfl : k = xs.length := by omega
      have hown' := hown
      rw [← hT.1] at hown'
      obtain ⟨a', c', g', hv, o1, o2, o3, o4⟩ := Own.of_ownsRow hown'
      subst hv
      have L := hide hT
      clear hown hown' ht hT
      go_wp2
      go_ret
      exact ⟨ys, L.out, hyb, ⟨_, _, g', rfl, o1, o2, o3, o4⟩, hN⟩

/-- The bytes of the prime, the highest first. -/
def pbytes : List Int := [127, 255, 255, 255, 255, 255, 255, 255, 255, 255, 255, 255, 255, 255, 255, 255, 255, 255, 255, 255, 255, 255, 255, 255, 255, 255, 255, 255, 255, 255, 255, 237]
theorem pbytes_val : bval pbytes = PP := by decide +kernel
theorem pbytes_len : pbytes.length = 32 := rfl
theorem pbytes_byt : Byt pbytes := by
  intro i
  by_cases h : i < 32
  · have : ∀ i, i < 32 → 0 ≤ pbytes.getD i 0 ∧ pbytes.getD i 0 < 256 := by decide
    exact this i h
  · rw [List.getD_eq_getElem?_getD, List.getElem?_eq_none (by rw [pbytes_len]; omega)]
    simp
theorem pbytes_made : ((fill (fun _ => 255) 32).set 0 127).set 31 237 = pbytes := by decide

set_option maxHeartbeats 1000000 in
theorem l2Prime_any (w : World) :
    Calls Tryd.prog 18 #[] w fun e w' => e = .returned (.slice (some ⟨w.heap.size, 0, none⟩) pbytes.length 32) ∧ Blk w' w.heap.size .u8 pbytes ∧ Below w.heap.size w w' := by
  obtain ⟨i0, hi, hz0, hz1, hz2⟩ := info_parts Tryd.info5
  go_enter Tryd.func18, Tryd.ntmps18
  go_wp2_with (at_make; refine wpList_make_full _ rfl _ _ 22 rfl w.heap.size 5 i0 (.int .u8 0) 1 Tryd.underlying22 hi hz0 hz1 .i64 .i64 _ _ 32 rfl rfl rfl rfl (by rw [hz2]; omega) (by unfold maxLen; omega) (Nat.le_refl _) ?_; intro w1 hown hgrow)
  have hB0 := Blk.of_made hown
  have hN0 : Below w.heap.size w w1 := (Below.refl _ _).grown hgrow (Nat.le_refl _) (by simp)
  clear hown hgrow
  go_loopw [2] (fun i wr => ∃ (k : Nat) (ys : List Int), k ≤ 32 ∧ i = .int .i64 k ∧ FillTo (fun _ => 255) ys 32 k ∧ Blk wr w.heap.size .u8 ys ∧ Below w.heap.size w wr) (fun i _ => 32 - (intOf i).toNat)
  case atStart => exact ⟨0, _, by omega, rfl, ⟨by simp, fun j hj => absurd hj (by omega)⟩, hB0, hN0⟩
  case round =>
    clear hB0 hN0
    obtain ⟨k, ys, hk, rfl, hF, hB, hN⟩ := hrel
    by_cases hlt : k < 32
    · have hst := hF.step hlt
      have hcy := hB.cell (i := k) (by rw [hF.1]; exact hlt)
      have hfy := hB.free k
      have k2 : (k : Int) < 32 := by omega
      have S := hB.store k 255
      have Sn : Below w.heap.size w (wr.setCell ⟨w.heap.size, k, none⟩ (.int .u8 255)) := hN.setCell (Nat.le_refl _) _
      clear hB hN hF
      go_wp2
      go_roundw
      case rel => exact ⟨k + 1, _, by omega, by go_num, hst, S, Sn⟩
      case measure => simp [intOf]; omega
    · obtain rfl : k = 32 := by omega
      have hy := hF.all
      subst hy
      have c0 : wr.cell? ⟨w.heap.size, 0, none⟩ = some (.int .u8 255) := hB.cell (i := 0) (by rw [fill_len]; omega)
      have f0 := hB.free 0
      have S := hB.store 0 127
      have c1 : wr.cell? ⟨w.heap.size, 31, none⟩ = some (.int .u8 255) := hB.cell (i := 31) (by rw [fill_len]; omega)
      have f1 := hB.free 31
      have S2 := S.store 31 237
      rw [pbytes_made] at S2
      have Sn : Below w.heap.size w ((wr.setCell ⟨w.heap.size, 0, none⟩ (.int .u8 127)).setCell ⟨w.heap.size, 31, none⟩ (.int .u8 237)) := (hN.setCell (Nat.le_refl _) _).setCell (Nat.le_refl _) _
      clear hB hN hF S
      go_wp2
      go_ret
      exact ⟨rfl, S2, Sn⟩

end Go.Proofs.YtpjgedbemblnhaaDoor

/-
  The program's settle: five limbs brought to the one form of an element.
-/
namespace Go.Proofs.YtpjgedbemblnhaaDoor
set_option maxRecDepth 100000
open Go.RowKit

/-- Five limbs as the value of an array. -/
def ag5 (u : Nat → Int) : Value := .agg #[.int .u64 (u 0), .int .u64 (u 1), .int .u64 (u 2), .int .u64 (u 3), .int .u64 (u 4)]
theorem wraps_u64 (n : Int) (h₀ : 0 ≤ n) (h₁ : n < 2 ^ 64) : IntKind.u64.wrap n = n := by
  simp [IntKind.wrap, IntKind.bits, IntKind.signed]
  omega
theorem mask51 (x : Int) (h0 : 0 ≤ x) (h1 : x < 18446744073709551616) : bits BinOp.and IntKind.u64 x 2251799813685247 = x % 2251799813685248 :=
  bits_mask .u64 64 (by decide) wraps_u64 51 (by decide) x h0 h1

/-- The first k limbs are f's, the others u's. -/
def Upd (f u : Nat → Int) (ys : List Int) (k : Nat) : Prop := ys.length = 5 ∧ (∀ j, j < k → ys.getD j 0 = f j) ∧ ∀ j, k ≤ j → j < 5 → ys.getD j 0 = u j
theorem Upd.step {f u : Nat → Int} {ys : List Int} {k : Nat} (h : Upd f u ys k) (hk : k < 5) : Upd f u (ys.set k (f k)) (k + 1) := by
  refine ⟨by simpa using h.1, fun j hj => ?_, fun j hj hj5 => ?_⟩
  · by_cases e : k = j
    · subst e
      rw [getD_set_self _ _ _ (by rw [h.1]; exact hk)]
    · rw [getD_set_ne _ _ _ _ e]
      exact h.2.1 j (by omega)
  · rw [getD_set_ne _ _ _ _ (by omega)]
    exact h.2.2 j (by omega) hj5
theorem Upd.all {f u : Nat → Int} {ys : List Int} (h : Upd f u ys 5) : ys = [f 0, f 1, f 2, f 3, f 4] := by
  refine eq_of_getD (by rw [h.1]; rfl) (fun i hi => ?_)
  rw [h.1] at hi
  rw [h.2.1 i hi]
  obtain rfl | rfl | rfl | rfl | rfl : i = 0 ∨ i = 1 ∨ i = 2 ∨ i = 3 ∨ i = 4 := by omega
  all_goals rfl
theorem Upd.zero (f u : Nat → Int) : Upd f u [u 0, u 1, u 2, u 3, u 4] 0 := by
  refine ⟨rfl, fun j hj => absurd hj (by omega), fun i _ hi => ?_⟩
  obtain rfl | rfl | rfl | rfl | rfl : i = 0 ∨ i = 1 ∨ i = 2 ∨ i = 3 ∨ i = 4 := by omega
  all_goals rfl
theorem blk_box (w : World) (k : IntKind) (t : TypeId) (a b c d e : Int) : Blk (w.alloc (.cells #[.int k a, .int k b, .int k c, .int k d, .int k e] t)) w.heap.size k [a, b, c, d, e] :=
  ⟨t, by rw [heap_alloc_last]; rfl⟩

end Go.Proofs.YtpjgedbemblnhaaDoor

/-
  The program's words and limbs of thirty-two bytes: readWords, readElement, words, wordsBytes.
-/
namespace Go.Proofs.YtpjgedbemblnhaaDoor
set_option maxRecDepth 100000
open Go.RowKit

/-- Four words as the value of an array. -/
def ag4 (u : Nat → Int) : Value := .agg #[.int .u64 (u 0), .int .u64 (u 1), .int .u64 (u 2), .int .u64 (u 3)]
theorem or_mul (a b i m : Nat) (hm : m = 2 ^ i) (h : a < m) : a ||| (b * m) = b * m + a := by
  subst hm
  rw [Nat.or_comm, ← Nat.shiftLeft_eq, Nat.shiftLeft_add_eq_or_of_lt h]
theorem or64 (z x : Int) (i m : Nat) (hm : m = 2 ^ i) (z0 : 0 ≤ z) (z1 : z < (m : Int)) (x0 : 0 ≤ x) (x1 : x * (m : Int) < 18446744073709551616) (m1 : m ≤ 18446744073709551616) :
    bits BinOp.or IntKind.u64 z (x * (m : Int)) = z + x * (m : Int) := by
  obtain ⟨a, rfl⟩ := Int.eq_ofNat_of_zero_le z0
  obtain ⟨b, rfl⟩ := Int.eq_ofNat_of_zero_le x0
  have e : (b : Int) * (m : Int) = ((b * m : Nat) : Int) := by simp
  rw [e] at x1 ⊢
  rw [bits_or_u64_nat a (b * m) (by omega) (by omega), or_mul a b i m hm (by omega)]
  omega
/-- The same where the shifted one may lose its upper bits. -/
theorem or64w (z y : Int) (i m : Nat) (hm : m = 2 ^ i) (hi : i ≤ 64) (z0 : 0 ≤ z) (z1 : z < (m : Int)) :
    bits BinOp.or IntKind.u64 z (y * (m : Int) % 18446744073709551616) = z + y * (m : Int) % 18446744073709551616 := by
  have hd : m * 2 ^ (64 - i) = 18446744073709551616 := by rw [hm, ← Nat.pow_add, show i + (64 - i) = 64 by omega]
  have h1 : (18446744073709551616 : Int) = (m : Int) * ((2 ^ (64 - i) : Nat) : Int) := by
    rw [← Int.natCast_mul, hd]; rfl
  have h2 : y * (m : Int) % 18446744073709551616 = y % ((2 ^ (64 - i) : Nat) : Int) * (m : Int) := by
    rw [h1, Int.mul_comm y, Int.mul_emod_mul_of_pos _ _ (by omega), Int.mul_comm]
  have h3 := Int.emod_lt_of_pos (y * (m : Int)) (show (0 : Int) < 18446744073709551616 by decide)
  have hp : (0 : Int) < ((2 ^ (64 - i) : Nat) : Int) := by have := Nat.two_pow_pos (64 - i); omega
  rw [h2] at h3 ⊢
  exact or64 z _ i m hm z0 z1 (Int.emod_nonneg _ (by omega)) h3 (by have := Nat.two_pow_pos (64 - i); have := Nat.le_mul_of_pos_right m this; omega)

/-- Four cells that hold f. -/
def At4 (f : Nat → Int) (ys : List Int) : Prop := ys.length = 4 ∧ ∀ j, j < 4 → ys.getD j 0 = f j
theorem At4.all {f : Nat → Int} {ys : List Int} (h : At4 f ys) : ys = [f 0, f 1, f 2, f 3] := by
  refine eq_of_getD (by rw [h.1]; rfl) (fun i hi => ?_)
  rw [h.1] at hi
  rw [h.2 i hi]
  obtain rfl | rfl | rfl | rfl : i = 0 ∨ i = 1 ∨ i = 2 ∨ i = 3 := by omega
  all_goals rfl
theorem At4.wv {a : Nat → Int} {k : Nat} {ys : List Int} (h : At4 (wv a k) ys) (v : Int) (hv : v = Go.Proofs.YtpjgedbemblnhaaDoor.wv a k (k / 8) + a k * 256 ^ (k % 8)) : At4 (Go.Proofs.YtpjgedbemblnhaaDoor.wv a (k + 1)) (ys.set (k / 8) v) := by
  refine ⟨by simpa using h.1, fun j hj => ?_⟩
  rw [Go.Proofs.YtpjgedbemblnhaaDoor.wv]
  by_cases e : k / 8 = j
  · subst e
    rw [getD_set_self _ _ _ (by rw [h.1]; exact hj), if_pos rfl, hv]
  · rw [getD_set_ne _ _ _ _ e, if_neg e, h.2 j hj]; omega
theorem At4.zero (a : Nat → Int) : At4 (Go.Proofs.YtpjgedbemblnhaaDoor.wv a 0) [0, 0, 0, 0] := by
  refine ⟨rfl, fun j hj => ?_⟩
  obtain rfl | rfl | rfl | rfl : j = 0 ∨ j = 1 ∨ j = 2 ∨ j = 3 := by omega
  all_goals rfl
theorem blk_box4 (w : World) (k : IntKind) (t : TypeId) (a b c d : Int) : Blk (w.alloc (.cells #[.int k a, .int k b, .int k c, .int k d] t)) w.heap.size k [a, b, c, d] :=
  ⟨t, by rw [heap_alloc_last]; rfl⟩

end Go.Proofs.YtpjgedbemblnhaaDoor

/-
  The program's readElement, words, wordsBytes, bytes.
-/
namespace Go.Proofs.YtpjgedbemblnhaaDoor
set_option maxRecDepth 100000
open Go.RowKit

theorem Blk.f5 {w : World} {g : Nat} {k : IntKind} {a b c d e : Int} (h : Blk w g k [a, b, c, d, e]) :
    (w.cell? ⟨g, 0, none⟩ = some (.int k a) ∧ w.cell? ⟨g, 1, none⟩ = some (.int k b) ∧ w.cell? ⟨g, 2, none⟩ = some (.int k c) ∧ w.cell? ⟨g, 3, none⟩ = some (.int k d) ∧ w.cell? ⟨g, 4, none⟩ = some (.int k e)) ∧
    (w.frozen? ⟨g, 0, none⟩ = false ∧ w.frozen? ⟨g, 1, none⟩ = false ∧ w.frozen? ⟨g, 2, none⟩ = false ∧ w.frozen? ⟨g, 3, none⟩ = false ∧ w.frozen? ⟨g, 4, none⟩ = false) :=
  ⟨⟨h.cell (i := 0) (by simp), h.cell (i := 1) (by simp), h.cell (i := 2) (by simp), h.cell (i := 3) (by simp), h.cell (i := 4) (by simp)⟩, h.free 0, h.free 1, h.free 2, h.free 3, h.free 4⟩
theorem Blk.f4 {w : World} {g : Nat} {k : IntKind} {a b c d : Int} (h : Blk w g k [a, b, c, d]) :
    (w.cell? ⟨g, 0, none⟩ = some (.int k a) ∧ w.cell? ⟨g, 1, none⟩ = some (.int k b) ∧ w.cell? ⟨g, 2, none⟩ = some (.int k c) ∧ w.cell? ⟨g, 3, none⟩ = some (.int k d)) ∧
    (w.frozen? ⟨g, 0, none⟩ = false ∧ w.frozen? ⟨g, 1, none⟩ = false ∧ w.frozen? ⟨g, 2, none⟩ = false ∧ w.frozen? ⟨g, 3, none⟩ = false) :=
  ⟨⟨h.cell (i := 0) (by simp), h.cell (i := 1) (by simp), h.cell (i := 2) (by simp), h.cell (i := 3) (by simp)⟩, h.free 0, h.free 1, h.free 2, h.free 3⟩
theorem below_set5 {B : Nat} {w w' : World} (h : Below B w w') {g : Nat} (hg : B ≤ g) (a b c d e : Value) :
    Below B w (((((w'.setCell ⟨g, 0, none⟩ a).setCell ⟨g, 1, none⟩ b).setCell ⟨g, 2, none⟩ c).setCell ⟨g, 3, none⟩ d).setCell ⟨g, 4, none⟩ e) :=
  ((((h.setCell hg _).setCell hg _).setCell hg _).setCell hg _).setCell hg _
theorem below_set4 {B : Nat} {w w' : World} (h : Below B w w') {g : Nat} (hg : B ≤ g) (a b c d : Value) :
    Below B w ((((w'.setCell ⟨g, 0, none⟩ a).setCell ⟨g, 1, none⟩ b).setCell ⟨g, 2, none⟩ c).setCell ⟨g, 3, none⟩ d) :=
  (((h.setCell hg _).setCell hg _).setCell hg _).setCell hg _

set_option maxHeartbeats 4000000 in
set_option maxRecDepth 100000 in
theorem words_any (w : World) (e : Nat → Int) (he : Lm e) :
    Calls Tryd.prog 25 #[ag5 e] w fun r w' => r = .returned (ag4 (lw e)) ∧ Below w.heap.size w w' := by
  have h0 := he 0 (by omega); have h1 := he 1 (by omega); have h2 := he 2 (by omega); have h3 := he 3 (by omega); have h4 := he 4 (by omega)
  have o0 : bits BinOp.or IntKind.u64 (e 0) (IntKind.u64.wrap (e 1 * 2251799813685248)) = e 0 + e 1 * 2251799813685248 % 18446744073709551616 := by
    rw [IntKind.wrap_u64]; exact or64w (e 0) (e 1) 51 2251799813685248 (by decide) (by decide) (by omega) (by omega)
  have o1 : bits BinOp.or IntKind.u64 (e 1 / 8192) (IntKind.u64.wrap (e 2 * 274877906944)) = e 1 / 8192 + e 2 * 274877906944 % 18446744073709551616 := by
    rw [IntKind.wrap_u64]; exact or64w (e 1 / 8192) (e 2) 38 274877906944 (by decide) (by decide) (by omega) (by omega)
  have o2 : bits BinOp.or IntKind.u64 (e 2 / 67108864) (IntKind.u64.wrap (e 3 * 33554432)) = e 2 / 67108864 + e 3 * 33554432 % 18446744073709551616 := by
    rw [IntKind.wrap_u64]; exact or64w (e 2 / 67108864) (e 3) 25 33554432 (by decide) (by decide) (by omega) (by omega)
  have o3 : bits BinOp.or IntKind.u64 (e 3 / 549755813888) (e 4 * 4096) = e 3 / 549755813888 + e 4 * 4096 := 
    or64 (e 3 / 549755813888) (e 4) 12 4096 (by decide) (by omega) (by omega) (by omega) (by omega) (by decide)
  have z3 : Hid (e 4 * 4096 % 18446744073709551616 = e 4 * 4096) := by show _ = _; omega
  simp only [ag5]
  go_enter Tryd.func25, Tryd.ntmps25
  go_wp2
  refine bodyPost_ret (v := .agg #[.int .u64 (e 0 + e 1 * 2251799813685248 % 18446744073709551616), .int .u64 (e 1 / 8192 + e 2 * 274877906944 % 18446744073709551616), .int .u64 (e 2 / 67108864 + e 3 * 33554432 % 18446744073709551616), .int .u64 (e 3 / 549755813888 + e 4 * 4096)])
    (by simp [results, Tryd.results25, go_sem]) rfl ⟨?_, ((Below.refl _ _).alloc (Nat.le_refl _) _).alloc (by simp) _⟩
  simp only [ag4, lw]
  rw [z3.out]

end Go.Proofs.YtpjgedbemblnhaaDoor

/-
  The program's wordsBytes, bytes.
-/
namespace Go.Proofs.YtpjgedbemblnhaaDoor
set_option maxRecDepth 100000
open Go.RowKit

set_option maxHeartbeats 4000000 in
set_option maxRecDepth 100000 in
theorem wordsBytes_any (w : World) (W : Nat → Int) (hW : W4 W) :
    Calls Tryd.prog 24 #[ag4 W] w fun e w' => e = .returned (.slice (some ⟨w.heap.size + 1, 0, none⟩) 32 32) ∧ Blk w' (w.heap.size + 1) .u8 (fill (byt (wval W)) 32) ∧ Below w.heap.size w w' := by
  obtain ⟨i0, hi, hz0, hz1, hz2⟩ := info_parts Tryd.info5
  have hal : Below w.heap.size w (w.alloc (.cells #[.int .u64 (W 0), .int .u64 (W 1), .int .u64 (W 2), .int .u64 (W 3)] 49)) := (Below.refl _ _).alloc (Nat.le_refl _) _
  have T0 := blk_box4 w .u64 49 (W 0) (W 1) (W 2) (W 3)
  have sz0 : (w.alloc (.cells #[.int .u64 (W 0), .int .u64 (W 1), .int .u64 (W 2), .int .u64 (W 3)] 49)).heap.size = w.heap.size + 1 := by simp
  simp only [ag4]
  go_enter Tryd.func24, Tryd.ntmps24
  go_wp2_with (at_make; refine wpList_make_full _ rfl _ _ 22 rfl (w.heap.size + 1) 5 i0 (.int .u8 0) 1 Tryd.underlying22 hi hz0 hz1 .i64 .i64 _ _ 32 rfl rfl rfl rfl (by rw [hz2]; omega) (by unfold maxLen; omega) (by rw [sz0]; exact Nat.le_refl _) ?_; intro w1 hown hgrow)
  have hB0 := Blk.of_made hown
  rw [sz0] at hB0
  have hN1 : Below (w.heap.size + 1) (w.alloc (.cells #[.int .u64 (W 0), .int .u64 (W 1), .int .u64 (W 2), .int .u64 (W 3)] 49)) w1 := by
    have h := (Below.refl _ _).grown hgrow (Nat.le_refl _) (by simp)
    rw [sz0] at h
    exact h
  have T1 := T0.of_block (hN1.block w.heap.size (by omega))
  have N1 : Below w.heap.size w w1 := hal.trans (hN1.mono (by omega))
  clear hown hgrow T0 hN1 hal sz0
  go_loopw [8] (fun i wr => ∃ (k : Nat) (ys : List Int), k ≤ 32 ∧ i = .int .i64 k ∧ FillTo (byt (wval W)) ys 32 k ∧ Blk wr w.heap.size .u64 [W 0, W 1, W 2, W 3] ∧ Blk wr (w.heap.size + 1) .u8 ys ∧ Below w.heap.size w wr) (fun i _ => 32 - (intOf i).toNat)
  case atStart => exact ⟨0, _, by omega, rfl, ⟨by simp, fun j hj => absurd hj (by omega)⟩, T1, hB0, N1⟩
  case round =>
    clear T1 hB0 N1
    obtain ⟨k, ys, hk, rfl, hF, hT, hB, hN⟩ := hrel
    by_cases hlt : k < 32
    · have hwb := word_byte hW k hlt
      have hst := hF.step hlt
      obtain ⟨q, hq⟩ : ∃ q : Nat, k / 8 = q := ⟨_, rfl⟩
      rw [hq] at hwb
      have hq4 : q < 4 := by omega
      have hz := hW q hq4
      have hcx : wr.cell? ⟨w.heap.size, q, none⟩ = some (.int .u64 (W q)) := by
        rw [hT.cell hq4]
        obtain rfl | rfl | rfl | rfl : q = 0 ∨ q = 1 ∨ q = 2 ∨ q = 3 := by omega
        all_goals rfl
      have hcy := hB.cell (i := k) (by rw [hF.1]; exact hlt)
      have hfy := hB.free k
      have q1 : (k : Int) / 8 = (q : Int) := by omega
      have q2 : (q : Int) < 4 := by omega
      have k2 : (k : Int) < 32 := by omega
      have S := hB.store k (byt (wval W) k)
      have S0 := hT.of_block (w' := wr.setCell ⟨w.heap.size + 1, k, none⟩ (.int .u8 (byt (wval W) k))) (heap_setCell_other wr ⟨w.heap.size + 1, k, none⟩ w.heap.size _ (by show w.heap.size ≠ w.heap.size + 1; omega))
      have Sn : Below w.heap.size w (wr.setCell ⟨w.heap.size + 1, k, none⟩ (.int .u8 (byt (wval W) k))) := hN.setCell (by show w.heap.size ≤ w.heap.size + 1; omega) _
      generalize byt (wval W) k = b at *
      have hS0 := hide S0
      generalize W q = z at *
      clear hT hB hN hF S0
      rcases (show k % 8 = 0 ∨ k % 8 = 1 ∨ k % 8 = 2 ∨ k % 8 = 3 ∨ k % 8 = 4 ∨ k % 8 = 5 ∨ k % 8 = 6 ∨ k % 8 = 7 by omega) with h4 | h4 | h4 | h4 | h4 | h4 | h4 | h4
      · have r1 : (k : Int) % 8 = 0 := by omega
        rw [h4] at hwb
        have e' : z % 256 = b := by simpa using hwb
        clear hwb
        go_wp2
        go_roundw
        case rel => exact ⟨k + 1, _, by omega, by go_num, hst, hS0.out, S, Sn⟩
        case measure => simp [intOf]; omega
      · have r1 : (k : Int) % 8 = 1 := by omega
        rw [h4] at hwb
        have e' : z / 256 % 256 = b := by simpa using hwb
        clear hwb
        go_wp2
        go_roundw
        case rel => exact ⟨k + 1, _, by omega, by go_num, hst, hS0.out, S, Sn⟩
        case measure => simp [intOf]; omega
      · have r1 : (k : Int) % 8 = 2 := by omega
        rw [h4] at hwb
        have e' : z / 65536 % 256 = b := by simpa using hwb
        clear hwb
        go_wp2
        go_roundw
        case rel => exact ⟨k + 1, _, by omega, by go_num, hst, hS0.out, S, Sn⟩
        case measure => simp [intOf]; omega
      · have r1 : (k : Int) % 8 = 3 := by omega
        rw [h4] at hwb
        have e' : z / 16777216 % 256 = b := by simpa using hwb
        clear hwb
        go_wp2
        go_roundw
        case rel => exact ⟨k + 1, _, by omega, by go_num, hst, hS0.out, S, Sn⟩
        case measure => simp [intOf]; omega
      · have r1 : (k : Int) % 8 = 4 := by omega
        rw [h4] at hwb
        have e' : z / 4294967296 % 256 = b := by simpa using hwb
        clear hwb
        go_wp2
        go_roundw
        case rel => exact ⟨k + 1, _, by omega, by go_num, hst, hS0.out, S, Sn⟩
        case measure => simp [intOf]; omega
      · have r1 : (k : Int) % 8 = 5 := by omega
        rw [h4] at hwb
        have e' : z / 1099511627776 % 256 = b := by simpa using hwb
        clear hwb
        go_wp2
        go_roundw
        case rel => exact ⟨k + 1, _, by omega, by go_num, hst, hS0.out, S, Sn⟩
        case measure => simp [intOf]; omega
      · have r1 : (k : Int) % 8 = 6 := by omega
        rw [h4] at hwb
        have e' : z / 281474976710656 % 256 = b := by simpa using hwb
        clear hwb
        go_wp2
        go_roundw
        case rel => exact ⟨k + 1, _, by omega, by go_num, hst, hS0.out, S, Sn⟩
        case measure => simp [intOf]; omega
      · have r1 : (k : Int) % 8 = 7 := by omega
        rw [h4] at hwb
        have e'' : z / 72057594037927936 % 256 = b := by simpa using hwb
        have e' : z / 72057594037927936 = b := by omega
        clear e''
        clear hwb
        go_wp2
        go_roundw
        case rel => exact ⟨k + 1, _, by omega, by go_num, hst, hS0.out, S, Sn⟩
        case measure => simp [intOf]; omega
    · obtain rfl : k = 32 := by omega
      go_wp2
      go_ret
      refine ⟨rfl, ?_, hN⟩
      rw [← hF.all]
      exact hB

set_option maxHeartbeats 4000000 in
set_option maxRecDepth 100000 in
theorem bytes_any (w : World) (e : Nat → Int) (he : Lm e) :
    Calls Tryd.prog 21 #[ag5 e] w fun r w' => NewRow w.heap.size w' r .u8 (fill (byt (sv e 5)) 32) ∧ Below w.heap.size w w' := by
  have hal : Below w.heap.size w (w.alloc (.cells #[.int .u64 (e 0), .int .u64 (e 1), .int .u64 (e 2), .int .u64 (e 3), .int .u64 (e 4)] 35)) := (Below.refl _ _).alloc (Nat.le_refl _) _
  simp only [ag5]
  go_enter Tryd.func21, Tryd.ntmps21
  go_wp2_with fail
  generalize w.alloc (.cells #[.int .u64 (e 0), .int .u64 (e 1), .int .u64 (e 2), .int .u64 (e 3), .int .u64 (e 4)] 35) = wa at *
  refine (words_any wa e he).mono ?_
  rintro r w1 ⟨rfl, n1⟩
  have N1 := nxt hal n1
  go_wp2_with fail
  refine (wordsBytes_any w1 (lw e) (lw_ok he).2).mono ?_
  rintro r w2 ⟨rfl, B, n2⟩
  rw [(lw_ok he).1] at B
  have N2 := nxt N1 n2
  go_wp2
  go_ret
  refine ⟨⟨_, 32, w1.heap.size + 1, by rw [fill_len]; rfl, B.own0, by simp, by rw [fill_len]; omega, ?_⟩, N2⟩
  have := N1.size
  omega
end Go.Proofs.YtpjgedbemblnhaaDoor

/-
  FieldCanonical, the program's; the element of thirty-two bytes.
-/
namespace Go.Proofs.YtpjgedbemblnhaaDoor
set_option maxRecDepth 100000
open Go.RowKit

/-- What thirty-two bytes stand for. -/
abbrev num (xs : List Int) : Int := lsum (fun j => xs.getD j 0) xs.length

def canN (xs : List Int) : Bool := decide (xs.length = 32) && decide (num xs < PP)

theorem lsum_nonneg {a : Nat → Int} (h : Bt a) : ∀ k, 0 ≤ lsum a k
  | 0 => by simp [lsum]
  | k + 1 => by
    have ih := lsum_nonneg h k
    have := Int.mul_nonneg (h k).1 (Int.le_of_lt (p256_pos k))
    rw [lsum]; omega

/-- The element of thirty-two bytes. -/
def elt (xs : List Int) : Nat → Int := stl (rl (wv (fun j => xs.getD j 0) 32))

theorem elt_ok {xs : List Int} (hb : Byt xs) (hl : xs.length = 32) : Lm (elt xs) ∧ sv (elt xs) 5 = num xs % PP := by
  have hW : W4 (wv (fun j => xs.getD j 0) 32) := fun j _ => wv_lt hb 32 j
  obtain ⟨h1, h2⟩ := rl_ok hW
  obtain ⟨h3, h4⟩ := stl_ok h2
  refine ⟨h3, ?_⟩
  show sv (stl _) 5 = _
  rw [h4, h1, wv_sum _ 32 (by omega)]
  unfold num
  rw [hl]

set_option maxHeartbeats 4000000 in
theorem eqWords (a0 a1 a2 a3 b0 b1 b2 b3 : Int) (w : World) :
    (Op.equalIn 10000 49 (.agg #[.int .u64 a0, .int .u64 a1, .int .u64 a2, .int .u64 a3]) (.agg #[.int .u64 b0, .int .u64 b1, .int .u64 b2, .int .u64 b3])).run Tryd.prog w = .ok (a0 == b0 && a1 == b1 && a2 == b2 && a3 == b3) w := by
  have u3 := Tryd.underlying33
  have a3' := Tryd.isAgg33
  have z3 := Tryd.sizeOf33
  rw [show (10000 : Nat) = 9999 + 1 from rfl, Op.equalIn]
  simp only [Sem.run_bind, run_underlying Tryd.underlying49, Result.andThen_ok]
  simp only [Std.Legacy.Range.forIn_eq_forIn_range', Std.Legacy.Range.size, Nat.sub_zero, Nat.add_sub_cancel, Nat.div_one, List.range'_succ, List.range'_zero, List.forIn_cons, List.forIn_nil]
  go_simp
  by_cases h0 : a0 = b0 <;> by_cases h1 : a1 = b1 <;> by_cases h2 : a2 = b2 <;> by_cases h3 : a3 = b3 <;> simp [h0, h1, h2, h3]

end Go.Proofs.YtpjgedbemblnhaaDoor

/-
  The program's sum of two elements.
-/
namespace Go.Proofs.YtpjgedbemblnhaaDoor
set_option maxRecDepth 100000
open Go.RowKit

/-- Two sums of limbs. -/
def addU (e f : Nat → Int) (j : Nat) : Int := if j < 5 then e j + f j else 0
theorem add_ok {e f : Nat → Int} (he : Lm e) (hf : Lm f) : (∀ j, 0 ≤ addU e f j ∧ addU e f j < 9223372036854775808) ∧ sv (stl (addU e f)) 5 = (sv e 5 + sv f 5) % PP ∧ Lm (stl (addU e f)) := by
  have b : ∀ j, 0 ≤ addU e f j ∧ addU e f j < 9223372036854775808 := fun j => by
    unfold addU
    split
    · have := he j (by omega); have := hf j (by omega); omega
    · omega
  obtain ⟨h1, h2⟩ := stl_ok b
  refine ⟨b, ?_, h1⟩
  rw [h2]
  congr 1
  simp [sv, addU]
  omega

theorem Blk.at5 {w : World} {g : Nat} {u : Nat → Int} (h : Blk w g .u64 [u 0, u 1, u 2, u 3, u 4]) {k : Nat} (hk : k < 5) : w.cell? ⟨g, k, none⟩ = some (.int .u64 (u k)) := by
  rw [h.cell hk, (Upd.zero u u).2.2 k (by omega) hk]
theorem Blk.keep {w : World} {g g' k : Nat} {kk : IntKind} {ys : List Int} {v : Value} (h : Blk w g kk ys) (hne : g ≠ g') : Blk (w.setCell ⟨g', k, none⟩ v) g kk ys :=
  h.of_block (heap_setCell_other w ⟨g', k, none⟩ g v hne)

end Go.Proofs.YtpjgedbemblnhaaDoor

/-
  The model's l2Carry.
-/
namespace Go.Proofs.YtpjgedbemblnhaaDoor
set_option maxRecDepth 100000
open Go.RowKit

theorem and65535 (n : Int) : bits .and .i64 n 65535 = n % 65536 := by
  have h127 : (BitVec.ofInt 64 65535).toNat = 2 ^ 16 - 1 := by decide
  have key : (BitVec.ofInt 64 n &&& BitVec.ofInt 64 65535).toNat = (n % ((2 ^ 64 : Nat) : Int)).toNat % 2 ^ 16 := by
    rw [BitVec.toNat_and, BitVec.toNat_ofInt, h127, Nat.and_two_pow_sub_one_eq_mod]
  show IntKind.i64.wrap ((BitVec.ofInt 64 n &&& BitVec.ofInt 64 65535).toNat : Nat) = n % 65536
  rw [key, IntKind.wrap_i64]
  omega
/-- Sixteen limbs, as a list. -/
def ls16 (f : Nat → Int) : List Int := (List.range 16).map f
theorem ls16_len (f : Nat → Int) : (ls16 f).length = 16 := by simp [ls16]
theorem ls16_get (f : Nat → Int) {j : Nat} (h : j < 16) : (ls16 f).getD j 0 = f j := by simp [ls16, h]
/-- Sixteen limbs as the value of an array. -/
def ag16 (f : Nat → Int) : Value := .agg ((ls16 f).map (Value.int .i64)).toArray
theorem blk16 (w : World) (t : TypeId) (f : Nat → Int) : Blk (w.alloc (.cells ((ls16 f).map (Value.int .i64)).toArray t)) w.heap.size .i64 (ls16 f) := ⟨t, by rw [heap_alloc_last]⟩

/-- The first k of sixteen are p's, the others q's. -/
def Up16 (p q : Nat → Int) (ys : List Int) (k : Nat) : Prop := ys.length = 16 ∧ (∀ j, j < k → ys.getD j 0 = p j) ∧ ∀ j, k ≤ j → j < 16 → ys.getD j 0 = q j
theorem Up16.step {p q : Nat → Int} {ys : List Int} {k : Nat} (h : Up16 p q ys k) (hk : k < 16) : Up16 p q (ys.set k (p k)) (k + 1) := by
  refine ⟨by simpa using h.1, fun j hj => ?_, fun j hj hj5 => ?_⟩
  · by_cases e : k = j
    · subst e
      rw [getD_set_self _ _ _ (by rw [h.1]; exact hk)]
    · rw [getD_set_ne _ _ _ _ e]
      exact h.2.1 j (by omega)
  · rw [getD_set_ne _ _ _ _ (by omega)]
    exact h.2.2 j (by omega) hj5
theorem Up16.all {p q : Nat → Int} {ys : List Int} (h : Up16 p q ys 16) : ys = ls16 p :=
  eq_of_getD (by rw [h.1, ls16_len]) (fun i hi => by rw [h.1] at hi; rw [h.2.1 i hi, ls16_get p hi])
theorem Up16.zero (p q : Nat → Int) : Up16 p q (ls16 q) 0 := ⟨ls16_len q, fun j hj => absurd hj (by omega), fun j _ hj => ls16_get q hj⟩
theorem ls16_set (p : Nat → Int) (v : Int) : (ls16 p).set 0 v = ls16 (fun j => if j = 0 then v else p j) := by
  refine eq_of_getD (by simp [ls16]) (fun i hi => ?_)
  have hi' : i < 16 := by simpa [ls16] using hi
  rw [ls16_get _ hi']
  by_cases e : i = 0
  · subst e
    rw [getD_set_self _ _ _ (by rw [ls16_len]; omega)]; rfl
  · rw [getD_set_ne _ _ _ _ (by omega), ls16_get _ hi', if_neg e]
/-- Rounds of carrying. -/
def it16 (f : Nat → Int) : Nat → Nat → Int
  | 0 => f
  | k + 1 => r16 (it16 f k)
def In60 (f : Nat → Int) : Prop := ∀ j, -1152921504606846976 ≤ f j ∧ f j ≤ 1152921504606846976
theorem it16_in {f : Nat → Int} (hf : In60 f) : ∀ k, In60 (it16 f k)
  | 0 => hf
  | k + 1 => fun j => by
    have := r16_bd (f := it16 f k) (M := 17592454500000) (by omega) (fun j => by have := it16_in hf k j; omega) j
    show _ ≤ r16 (it16 f k) j ∧ r16 (it16 f k) j ≤ _
    omega
abbrev a16 (f : Nat → Int) : Array Value := ((ls16 f).map (Value.int .i64)).toArray
theorem a16_size (f : Nat → Int) : (a16 f).size = 16 := by simp [a16, ls16]
theorem a16_one (f : Nat → Int) : (a16 f).all (·.oneCell') = true := all_oneCell_toArray (oneCells _ _)
theorem z16 : (#[.int .i64 0, .int .i64 0, .int .i64 0, .int .i64 0, .int .i64 0, .int .i64 0, .int .i64 0, .int .i64 0, .int .i64 0, .int .i64 0, .int .i64 0, .int .i64 0, .int .i64 0, .int .i64 0, .int .i64 0, .int .i64 0] : Array Value) = a16 (fun _ => 0) := rfl
theorem u50 : Tryd.prog.underlying 31 = some (.array 16 2) := by kernel_rfl
theorem i50 : (Tryd.prog.info? 31).map (·.size) = some 16 := by kernel_rfl

set_option maxHeartbeats 2000000 in
theorem l2Carry_any (w : World) (f : Nat → Int) (hf : In60 f) :
    Calls Tryd.prog 15 #[ag16 f] w fun r w' => r = .returned (ag16 (cry f)) ∧ Below w.heap.size w w' := by
  show Calls Tryd.prog 15 #[.agg (a16 f)] w fun r w' => r = .returned (.agg (a16 (it16 f 3))) ∧ Below w.heap.size w w'
  have B0 := blk16 w 31 f
  have n0 : Below w.heap.size w (w.alloc (.cells (a16 f) 31)) := (Below.refl _ _).alloc (Nat.le_refl _) _
  have s0 : (w.alloc (.cells (a16 f) 31)).heap.size = w.heap.size + 1 := by simp
  obtain ⟨A, hA⟩ : ∃ A, A = a16 f := ⟨_, rfl⟩
  change Blk (w.alloc (.cells (a16 f) 31)) _ _ _ at B0
  rw [← hA] at B0 n0 s0 ⊢
  clear hA
  go_enter Tryd.func15, Tryd.ntmps15
  go_wp2
  generalize w.alloc (.cells A 31) = wa at *
  rw [z16]
  have B1 := blk16 wa 31 (fun _ => 0)
  have n1 : Below wa.heap.size wa (wa.alloc (.cells (a16 (fun _ => 0)) 31)) := (Below.refl _ _).alloc (Nat.le_refl _) _
  rw [s0] at B1
  change Blk (wa.alloc (.cells (a16 (fun _ => 0)) 31)) _ _ _ at B1
  generalize wa.alloc (.cells (a16 (fun _ => 0)) 31) = wb at *
  have E0 := B0.up n1
  have N1 := nxt n0 n1
  clear B0 n0 n1 s0
  go_loopw [3] (fun i wr => ∃ (k : Nat), k ≤ 3 ∧ i = .int .i64 k ∧ Blk wr w.heap.size .i64 (ls16 (it16 f k)) ∧ Blk wr (w.heap.size + 1) .i64 (ls16 (fun _ => 0)) ∧ Below w.heap.size w wr) (fun i _ => 3 - (intOf i).toNat)
  case atStart => exact ⟨0, by omega, rfl, E0, B1, N1⟩
  case round =>
    clear E0 B1 N1
    obtain ⟨k, hk, rfl, hB, hR, hN⟩ := hrel
    by_cases hlt : k < 3
    · have k2 : decide ((k : Int) < 3) = true := by simp; omega
      have hin := it16_in hf k
      obtain ⟨q, hq⟩ : ∃ q, q = it16 f k := ⟨_, rfl⟩
      have hq' : Hid (it16 f (k + 1) = r16 q) := by show _ = _; rw [hq]; rfl
      rw [← hq] at hB hin
      clear hq
      have cb := fun j => c16_bd (f := q) (M := 17592454500000) (by omega) (fun j => by have := hin j; omega) j
      go_wp2
      go_loopw [4, 5] (fun c i wq => ∃ (j : Nat) (ys : List Int), j ≤ 16 ∧ i = .int .i64 j ∧ c = .int .i64 (c16 q j) ∧ Up16 (l16 q) q ys j ∧ Blk wq w.heap.size .i64 ys ∧ Blk wq (w.heap.size + 1) .i64 (ls16 (fun _ => 0)) ∧ Below w.heap.size w wq) (fun _ i _ => 16 - (intOf i).toNat)
      case atStart => exact ⟨0, _, by omega, rfl, rfl, Up16.zero _ q, hB, hR, hN⟩
      case round =>
        clear hB hR hN
        obtain ⟨j, ys, hj, rfl, rfl, hU, hB, hR, hN⟩ := hrel
        by_cases hjt : j < 16
        · have R := hU.step hjt
          have hcy := hB.cell (i := j) (by rw [hU.1]; exact hjt)
          rw [hU.2.2 j (Nat.le_refl _) hjt] at hcy
          have hfy := hB.free j
          have j2 : (j : Int) < 16 := by omega
          have cj := cb j
          have qj := hin j
          have S := hB.store j (l16 q j)
          have S1 := hR.keep (g' := w.heap.size) (k := j) (v := .int .i64 (l16 q j)) (by omega)
          have Sn : Below w.heap.size w (wr.setCell ⟨w.heap.size, j, none⟩ (.int .i64 (l16 q j))) := hN.setCell (Nat.le_refl _) _
          have E1 : l16 q j = (q j + c16 q j) % 65536 := by unfold l16; rw [Int.add_comm]
          have F : Hid (c16 q (j + 1) = (q j + c16 q j) / 65536) := by show _ = _; rw [c16, Int.add_comm]
          rw [E1] at R S S1 Sn
          have m1 := and65535 (q j + c16 q j)
          clear hU hB hR hN cb hin E1 hf
          generalize q j = z at *
          generalize c16 q j = c at *
          go_wp2
          go_roundw
          case rel => exact ⟨j + 1, _, by omega, by go_num, by rw [F.out], R, S, S1, Sn⟩
          case measure => simp [intOf]; omega
        · obtain rfl : j = 16 := by omega
          have hy := hU.all
          subst hy
          have c0 : wr.cell? ⟨w.heap.size, 0, none⟩ = some (.int .i64 (l16 q 0)) := by rw [hB.cell (i := 0) (by rw [ls16_len]; omega), ls16_get _ (by omega)]
          have f0 := hB.free 0
          have l0 := l16_bd q 0
          have c5 := cb 16
          have S := hB.store 0 (l16 q 0 + 38 * c16 q 16)
          have S1 := hR.keep (g' := w.heap.size) (k := 0) (v := .int .i64 (l16 q 0 + 38 * c16 q 16)) (by omega)
          have Sn : Below w.heap.size w (wr.setCell ⟨w.heap.size, 0, none⟩ (.int .i64 (l16 q 0 + 38 * c16 q 16))) := hN.setCell (Nat.le_refl _) _
          rw [ls16_set] at S
          have S' : Blk (wr.setCell ⟨w.heap.size, 0, none⟩ (.int .i64 (l16 q 0 + 38 * c16 q 16))) w.heap.size .i64 (ls16 (r16 q)) := S
          clear hU hB hR hN cb hin S hf
          generalize l16 q 0 = l at *
          generalize c16 q 16 = c at *
          go_wp2
          go_roundw
          case rel => exact ⟨k + 1, by omega, by go_num, by rw [hq'.out]; exact S', S1, Sn⟩
          case measure => simp [intOf]; omega
    · obtain rfl : k = 3 := by omega
      obtain ⟨t, hB⟩ := hB
      obtain ⟨t2, hR⟩ := hR
      have hne : w.heap.size + 1 ≠ w.heap.size := by omega
      have SR : ((wr.setRow (w.heap.size + 1) (a16 (it16 f 3))).heap[w.heap.size + 1]?) = some (.cells (a16 (it16 f 3)) t2 (0, 0)) := setRow_heap _ _ _ _ _ _ hR
      have SN : Below w.heap.size w (wr.setRow (w.heap.size + 1) (a16 (it16 f 3))) := hN.trans ⟨rfl, rfl, rfl, by simp, fun i hi => setRow_other wr _ i _ (by omega)⟩
      go_upto_region 12 with fail
      go_wp2_with (first | (refine wpList_load_row rfl 31 (.tmp 1) rfl w.heap.size rfl t (a16 (it16 f 3)) (0, 0) (.array 16 2) hB u50 rfl (by rw [a16_size]; exact i50) ?_) | (refine wpList_store_row rfl 31 (.tmp 2) (.tmp 32) rfl (w.heap.size + 1) (a16 (it16 f 3)) rfl rfl t2 (a16 (fun _ => 0)) hR (by rw [a16_size]; exact i50) (by rw [a16_size, a16_size]) (a16_one _) ?_))
      exact bodyPost_ret (v := .agg (a16 (it16 f 3))) (results_cell_row Tryd.results15 _ _ (w.heap.size + 1) t2 (a16 (it16 f 3)) (0, 0) (.array 16 2) rfl SR u50 rfl (by rw [a16_size]; exact i50)) rfl ⟨rfl, SN⟩
end Go.Proofs.YtpjgedbemblnhaaDoor

/-
  The model's l2Mul.
-/
namespace Go.Proofs.YtpjgedbemblnhaaDoor
set_option maxRecDepth 100000
open Go.RowKit

theorem s16_congr {u v : Nat → Int} : ∀ k, (∀ j, j < k → u j = v j) → s16 u k = s16 v k
  | 0, _ => rfl
  | k + 1, h => by rw [s16, s16, s16_congr k (fun j hj => h j (by omega)), h k (by omega)]
theorem s16_upd (p : Nat → Int) (q : Nat) (v : Int) : ∀ n, s16 (fun k => if k = q then v else p k) n = s16 p n + if q < n then (v - p q) * 65536 ^ q else 0
  | 0 => by simp [s16]
  | n + 1 => by
    rw [s16, s16, s16_upd p q v n]
    by_cases e : n = q
    · subst e
      rw [if_pos rfl, if_neg (by omega), if_pos (by omega), Int.sub_mul]; omega
    · rw [if_neg e]
      by_cases h : q < n
      · rw [if_pos h, if_pos (by omega)]; omega
      · rw [if_neg h, if_neg (by omega)]; omega
theorem getD_set_fun (cs : List Int) (q : Nat) (v : Int) (hq : q < cs.length) : (fun k => (cs.set q v).getD k 0) = fun k => if k = q then v else cs.getD k 0 := by
  funext k
  by_cases e : k = q
  · subst e; rw [if_pos rfl, getD_set_self _ _ _ hq]
  · rw [if_neg e, getD_set_ne _ _ _ _ (by omega)]
/-- The columns, as far as they are summed. -/
def Cl (a b : Nat → Int) (cs : List Int) (i j : Nat) : Prop :=
  cs.length = 32 ∧ (∀ k, 0 ≤ cs.getD k 0 ∧ cs.getD k 0 ≤ ((i * 16 + j : Nat) : Int) * 4294967296) ∧ s16 (fun k => cs.getD k 0) 32 = s16 a i * s16 b 16 + a i * 65536 ^ i * s16 b j
theorem Cl.step {a b : Nat → Int} {cs : List Int} {i j : Nat} (h : Cl a b cs i j) (ha : L16 a) (hb : L16 b) (hi : i < 16) (hj : j < 16) (v : Int) (hv : v = cs.getD (i + j) 0 + a i * b j) : Cl a b (cs.set (i + j) v) i (j + 1) := by
  obtain ⟨h1, h2, h3⟩ := h
  have xi := ha i hi
  have yj := hb j hj
  have m := mul_bd (A := 65535) (B := 65535) ⟨xi.1, by omega⟩ ⟨yj.1, by omega⟩
  refine ⟨by simpa using h1, fun k => ?_, ?_⟩
  · have hk := h2 k
    have hij := h2 (i + j)
    by_cases e : i + j = k
    · subst e
      rw [getD_set_self _ _ _ (by omega), hv]; omega
    · rw [getD_set_ne _ _ _ _ e]; omega
  · have hs : s16 b (j + 1) = s16 b j + b j * 65536 ^ j := rfl
    rw [getD_set_fun _ _ _ (by omega), s16_upd, if_pos (by omega), h3, hv, hs, Int.pow_add]
    generalize (65536 : Int) ^ i = p
    generalize (65536 : Int) ^ j = q
    generalize cs.getD (i + j) 0 = c
    grind
theorem Cl.row {a b : Nat → Int} {cs : List Int} {i : Nat} (h : Cl a b cs i 16) : Cl a b cs (i + 1) 0 := by
  obtain ⟨h1, h2, h3⟩ := h
  refine ⟨h1, fun k => by have := h2 k; omega, ?_⟩
  have hs : s16 a (i + 1) = s16 a i + a i * 65536 ^ i := rfl
  have h0 : s16 b 0 = 0 := rfl
  rw [h3, hs, h0]
  generalize (65536 : Int) ^ i = p
  grind
theorem Cl.zero (a b : Nat → Int) : Cl a b (List.replicate 32 0) 0 0 := by
  have e : (fun k => (List.replicate 32 (0 : Int)).getD k 0) = fun _ => 0 := by
    funext k
    by_cases h : k < 32
    · rw [List.getD_eq_getElem?_getD, List.getElem?_replicate, if_pos h]; rfl
    · rw [List.getD_eq_getElem?_getD, List.getElem?_eq_none (by simp; omega)]; rfl
  refine ⟨by simp, fun k => ?_, ?_⟩
  · have h : (List.replicate 32 (0 : Int)).getD k 0 = 0 := congrFun e k
    rw [h]; omega
  · rw [e]; simp [s16]
theorem s16_split (p : Nat → Int) (m : Nat) : ∀ n, s16 p (m + n) = s16 p m + 65536 ^ m * s16 (fun k => p (m + k)) n
  | 0 => by simp [s16]
  | n + 1 => by
    rw [← Nat.add_assoc, s16, s16_split p m n, s16, Int.pow_add, Int.mul_add, Int.mul_left_comm, Int.add_assoc]
theorem s16_lin (p q : Nat → Int) (c : Int) : ∀ n, s16 (fun k => p k + c * q k) n = s16 p n + c * s16 q n
  | 0 => by simp [s16]
  | n + 1 => by rw [s16, s16_lin p q c n, s16, s16, Int.add_mul, Int.mul_add, Int.mul_assoc]; omega
/-- The columns, folded. -/
def fold (cs : List Int) (i : Nat) : Int := if i < 16 then cs.getD i 0 + 38 * cs.getD (16 + i) 0 else 0
theorem Cl.fold {a b : Nat → Int} {cs : List Int} (h : Cl a b cs 16 0) : In60 (fold cs) ∧ s16 (Go.Proofs.YtpjgedbemblnhaaDoor.fold cs) 16 % PP = s16 a 16 * s16 b 16 % PP := by
  obtain ⟨h1, h2, h3⟩ := h
  refine ⟨fun j => ?_, ?_⟩
  · have a1 := h2 j
    have a2 := h2 (16 + j)
    unfold Go.Proofs.YtpjgedbemblnhaaDoor.fold
    split <;> omega
  · have e1 : s16 (Go.Proofs.YtpjgedbemblnhaaDoor.fold cs) 16 = s16 (fun k => cs.getD k 0 + 38 * (fun k => cs.getD (16 + k) 0) k) 16 := s16_congr 16 (fun j hj => by simp [Go.Proofs.YtpjgedbemblnhaaDoor.fold, hj])
    rw [e1, s16_lin (fun k => cs.getD k 0) (fun k => cs.getD (16 + k) 0) 38 16]
    have e2 := s16_split (fun k => cs.getD k 0) 16 16
    rw [h3] at e2
    have e3 : (65536 : Int) ^ 16 = 115792089237316195423570985008687907853269984665640564039457584007913129639936 := by decide
    have e4 : a 16 * 65536 ^ 16 * s16 b 0 = 0 := by simp [s16]
    rw [e4] at e2
    rw [e3] at e2
    generalize s16 a 16 * s16 b 16 = X at *
    generalize s16 (fun k => cs.getD k 0) 16 = L at *
    generalize s16 (fun k => cs.getD (16 + k) 0) 16 = H at *
    show (L + 38 * H) % 57896044618658097711785492504343953926634992332820282019728792003956564819949 = X % 57896044618658097711785492504343953926634992332820282019728792003956564819949
    omega

theorem z32 : (#[.int .i64 0, .int .i64 0, .int .i64 0, .int .i64 0, .int .i64 0, .int .i64 0, .int .i64 0, .int .i64 0, .int .i64 0, .int .i64 0, .int .i64 0, .int .i64 0, .int .i64 0, .int .i64 0, .int .i64 0, .int .i64 0, .int .i64 0, .int .i64 0, .int .i64 0, .int .i64 0, .int .i64 0, .int .i64 0, .int .i64 0, .int .i64 0, .int .i64 0, .int .i64 0, .int .i64 0, .int .i64 0, .int .i64 0, .int .i64 0, .int .i64 0, .int .i64 0] : Array Value) = ((List.replicate 32 0).map (Value.int .i64)).toArray := rfl

end Go.Proofs.YtpjgedbemblnhaaDoor
