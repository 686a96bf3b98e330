import Derived.Test.YtbhmhkimddjhaaaDoorGR2
import Derived.Test.YtbhmhkimddjhaaaDoorGR9
/-
  Numbers in five limbs of 51 bits, and what carrying makes of them: numbers alone.
-/
namespace Go.Proofs.YtbhmhkimddjhaaaDoor
set_option maxRecDepth 100000

/-- The prime, as an integer. -/
abbrev PP : Int := 57896044618658097711785492504343953926634992332820282019728792003956564819949

/-- What is carried into place k. -/
def cr (c : Int) (u : Nat → Int) : Nat → Int
  | 0 => c
  | k + 1 => (cr c u k + u k) / 2251799813685248
/-- What is left at place k. -/
def lf (c : Int) (u : Nat → Int) (k : Nat) : Int := (cr c u k + u k) % 2251799813685248
/-- The number of the first k limbs. -/
def sv (u : Nat → Int) : Nat → Int
  | 0 => 0
  | k + 1 => sv u k + u k * 2251799813685248 ^ k

theorem cr_sum (c : Int) (u : Nat → Int) : ∀ k, sv (lf c u) k + cr c u k * 2251799813685248 ^ k = c + sv u k
  | 0 => by simp [sv, cr]
  | k + 1 => by
    have ih := cr_sum c u k
    have h : cr c u k + u k = lf c u k + 2251799813685248 * cr c u (k + 1) := by
      rw [lf, cr]; omega
    have h2 : (cr c u k + u k) * 2251799813685248 ^ k = (lf c u k + 2251799813685248 * cr c u (k + 1)) * 2251799813685248 ^ k := by rw [h]
    rw [Int.add_mul, Int.add_mul] at h2
    rw [sv, sv, Int.pow_succ]
    have h3 : cr c u (k + 1) * (2251799813685248 ^ k * 2251799813685248) = 2251799813685248 * cr c u (k + 1) * 2251799813685248 ^ k := by
      rw [Int.mul_comm (2251799813685248 ^ k) 2251799813685248, ← Int.mul_assoc, Int.mul_comm (cr c u (k + 1))]
    rw [h3]
    omega
theorem cr_congr {c : Int} {u v : Nat → Int} : ∀ k, (∀ j, j < k → u j = v j) → cr c u k = cr c v k
  | 0, _ => rfl
  | k + 1, h => by rw [cr, cr, cr_congr k (fun j hj => h j (by omega)), h k (by omega)]
theorem sv_congr {u v : Nat → Int} : ∀ k, (∀ j, j < k → u j = v j) → sv u k = sv v k
  | 0, _ => rfl
  | k + 1, h => by rw [sv, sv, sv_congr k (fun j hj => h j (by omega)), h k (by omega)]
theorem lf_bd (c : Int) (u : Nat → Int) (k : Nat) : 0 ≤ lf c u k ∧ lf c u k < 2251799813685248 := by
  unfold lf; omega
theorem cr_bd {c : Int} {u : Nat → Int} {M : Int} (hc : 0 ≤ c) (hcM : c ≤ M) (hM : 0 ≤ M) (hu : ∀ j, 0 ≤ u j ∧ u j ≤ 2251799813685247 * M) : ∀ k, 0 ≤ cr c u k ∧ cr c u k ≤ M
  | 0 => ⟨hc, hcM⟩
  | k + 1 => by
    have ih := cr_bd hc hcM hM hu k
    have := hu k
    rw [cr]
    omega

/-- Five limbs in their bounds. -/
def Lm (u : Nat → Int) : Prop := ∀ j, j < 5 → 0 ≤ u j ∧ u j < 2251799813685248
theorem Lm.bd {u : Nat → Int} (h : Lm u) : 0 ≤ sv u 5 ∧ sv u 5 < 57896044618658097711785492504343953926634992332820282019728792003956564819968 := by
  have h0 := h 0 (by omega); have h1 := h 1 (by omega); have h2 := h 2 (by omega); have h3 := h 3 (by omega); have h4 := h 4 (by omega)
  simp only [sv]
  omega
theorem Lm.uniq {u v : Nat → Int} (hu : Lm u) (hv : Lm v) (h : sv u 5 = sv v 5) : ∀ j, j < 5 → u j = v j := by
  have a0 := hu 0 (by omega); have a1 := hu 1 (by omega); have a2 := hu 2 (by omega); have a3 := hu 3 (by omega); have a4 := hu 4 (by omega)
  have b0 := hv 0 (by omega); have b1 := hv 1 (by omega); have b2 := hv 2 (by omega); have b3 := hv 3 (by omega); have b4 := hv 4 (by omega)
  simp only [sv] at h
  have e0 : u 0 = v 0 := by omega
  have e1 : u 1 = v 1 := by omega
  have e2 : u 2 = v 2 := by omega
  have e3 : u 3 = v 3 := by omega
  have e4 : u 4 = v 4 := by omega
  intro j hj
  obtain rfl | rfl | rfl | rfl | rfl : j = 0 ∨ j = 1 ∨ j = 2 ∨ j = 3 ∨ j = 4 := by omega
  all_goals assumption

/-! ### settling -/
/-- Behind the first round of carrying, and what comes round. -/
def st1 (u : Nat → Int) (j : Nat) : Int := if j = 0 then lf 0 u 0 + 19 * cr 0 u 5 else lf 0 u j
def stl (u : Nat → Int) : Nat → Int := lf (19 * cr 19 (st1 u) 5) (st1 u)
theorem st1_val (u : Nat → Int) : sv (st1 u) 5 = sv (lf 0 u) 5 + 19 * cr 0 u 5 := by
  simp [sv, st1]; omega
theorem stl_ok {u : Nat → Int} (hu : ∀ j, 0 ≤ u j ∧ u j < 9223372036854775808) : Lm (stl u) ∧ sv (stl u) 5 = sv u 5 % PP := by
  refine ⟨fun j _ => lf_bd _ _ _, ?_⟩
  have h1 := cr_sum 0 u 5
  have b1 := cr_bd (c := 0) (u := u) (M := 4097) (by omega) (by omega) (by omega) (fun j => by have := hu j; omega) 5
  have L1 := Lm.bd (u := lf 0 u) (fun j _ => lf_bd _ _ _)
  have hv := st1_val u
  have b2 : ∀ j, 0 ≤ st1 u j ∧ st1 u j ≤ 2251799813763091 := fun j => by
    have := lf_bd 0 u j
    have := lf_bd 0 u 0
    unfold st1
    split <;> omega
  have h2 := cr_sum 19 (st1 u) 5
  have L2 := Lm.bd (u := lf 19 (st1 u)) (fun j _ => lf_bd _ _ _)
  have h3 := cr_sum (19 * cr 19 (st1 u) 5) (st1 u) 5
  have L3 := Lm.bd (u := lf (19 * cr 19 (st1 u) 5) (st1 u)) (fun j _ => lf_bd _ _ _)
  have e3 : sv (stl u) 5 = sv (lf (19 * cr 19 (st1 u) 5) (st1 u)) 5 := rfl
  rw [e3]
  generalize sv (lf 0 u) 5 = A at *
  generalize cr 0 u 5 = c at *
  generalize sv (st1 u) 5 = V at *
  generalize sv (lf 19 (st1 u)) 5 = B at *
  generalize cr 19 (st1 u) 5 = r at *
  generalize sv (lf (19 * r) (st1 u)) 5 = E at *
  generalize cr (19 * r) (st1 u) 5 = d at *
  generalize sv u 5 = U at *
  show E = U % 57896044618658097711785492504343953926634992332820282019728792003956564819949
  have hr : r = 0 ∨ r = 1 := by omega
  have hd : d = r := by omega
  omega
end Go.Proofs.YtbhmhkimddjhaaaDoor
/-
  The product in five limbs: numbers alone.
-/
namespace Go.Proofs.YtbhmhkimddjhaaaDoor
set_option maxRecDepth 100000

/-- The limbs of f, and below them those that come round. -/
def rnd (f : Nat → Int) (j : Nat) : Int := if j < 4 then 19 * f (j + 1) else f (j - 4)
/-- The first n products of column k. -/
def col (e f : Nat → Int) (k : Nat) : Nat → Int
  | 0 => 0
  | i + 1 => col e f k i + e i * rnd f (4 + k - i)
theorem col_mod (e f : Nat → Int) : ∃ q, sv (fun k => col e f k 5) 5 + PP * q = sv e 5 * sv f 5 := by
  refine ⟨e 1 * f 4 + e 2 * f 3 + e 3 * f 2 + e 4 * f 1 + 2251799813685248 * (e 2 * f 4 + e 3 * f 3 + e 4 * f 2) + 2251799813685248 ^ 2 * (e 3 * f 4 + e 4 * f 3) + 2251799813685248 ^ 3 * (e 4 * f 4), ?_⟩
  simp only [sv, col, rnd]
  simp
  generalize e 0 = e0, e 1 = e1, e 2 = e2, e 3 = e3, e 4 = e4, f 0 = f0, f 1 = f1, f 2 = f2, f 3 = f3, f 4 = f4
  grind
theorem rnd_bd {f : Nat → Int} (h : Lm f) (j : Nat) (hj : j < 9) : 0 ≤ rnd f j ∧ rnd f j ≤ 42784196460019712 := by
  unfold rnd
  split
  · have := h (j + 1) (by omega); omega
  · have := h (j - 4) (by omega); omega
theorem mul_bd {a b A B : Int} (ha : 0 ≤ a ∧ a ≤ A) (hb : 0 ≤ b ∧ b ≤ B) : 0 ≤ a * b ∧ a * b ≤ A * B :=
  ⟨Int.mul_nonneg ha.1 hb.1, Int.mul_le_mul ha.2 hb.2 hb.1 (by omega)⟩
theorem col_bd {e f : Nat → Int} (he : Lm e) (hf : Lm f) (k : Nat) (hk : k < 5) : ∀ i, i ≤ 5 → 0 ≤ col e f k i ∧ col e f k i ≤ i * 96341445617345434513749443608576
  | 0, _ => by simp [col]
  | i + 1, h => by
    have ih := col_bd he hf k hk i (by omega)
    have h1 := he i (by omega)
    have := mul_bd (A := 2251799813685248) ⟨h1.1, by omega⟩ (rnd_bd hf (4 + k - i) (by omega))
    rw [col]
    omega
/-- The columns, as far as there are any. -/
def cols (e f : Nat → Int) (k : Nat) : Int := if k < 5 then col e f k 5 else 0
theorem cols_bd {e f : Nat → Int} (he : Lm e) (hf : Lm f) (k : Nat) : 0 ≤ cols e f k ∧ cols e f k ≤ 481707228086727172568747218042880 := by
  unfold cols
  split
  · have := col_bd he hf k (by omega) 5 (by omega); omega
  · omega
theorem cols_cr {e f : Nat → Int} (he : Lm e) (hf : Lm f) (k : Nat) : 0 ≤ cr 0 (cols e f) k ∧ cr 0 (cols e f) k ≤ 213920982300098656 :=
  cr_bd (M := 213920982300098656) (by omega) (by omega) (by omega) (fun j => by have := cols_bd he hf j; omega) k
theorem mul_ok {e f : Nat → Int} (he : Lm e) (hf : Lm f) : (∀ j, 0 ≤ st1 (cols e f) j ∧ st1 (cols e f) j < 9223372036854775808) ∧ sv (stl (st1 (cols e f))) 5 = sv e 5 * sv f 5 % PP ∧ Lm (stl (st1 (cols e f))) := by
  have b : ∀ j, 0 ≤ st1 (cols e f) j ∧ st1 (cols e f) j < 9223372036854775808 := fun j => by
    have := cols_cr he hf 5
    have := lf_bd 0 (cols e f) j
    have := lf_bd 0 (cols e f) 0
    unfold st1
    split <;> omega
  obtain ⟨L, hv⟩ := stl_ok b
  refine ⟨b, ?_, L⟩
  rw [hv, st1_val]
  obtain ⟨q, hq⟩ := col_mod e f
  have h1 := cr_sum 0 (cols e f) 5
  have h2 : sv (cols e f) 5 = sv (fun k => col e f k 5) 5 := sv_congr 5 (fun j hj => by simp [cols, hj])
  rw [← hq]
  rw [h2] at h1
  generalize sv (fun k => col e f k 5) 5 = U at *
  generalize sv (lf 0 (cols e f)) 5 = A at *
  generalize cr 0 (cols e f) 5 = c at *
  have h3 : A + 19 * c = U + 57896044618658097711785492504343953926634992332820282019728792003956564819949 * (-c) := by omega
  rw [h3]
  show (U + 57896044618658097711785492504343953926634992332820282019728792003956564819949 * (-c)) % 57896044618658097711785492504343953926634992332820282019728792003956564819949 = (U + 57896044618658097711785492504343953926634992332820282019728792003956564819949 * q) % 57896044618658097711785492504343953926634992332820282019728792003956564819949
  rw [Int.add_mul_emod_self_left, Int.add_mul_emod_self_left]
end Go.Proofs.YtbhmhkimddjhaaaDoor
/-
  Four words of 64 bits, thirty-two bytes (the lowest first), five limbs: numbers alone.
-/
namespace Go.Proofs.YtbhmhkimddjhaaaDoor
set_option maxRecDepth 100000

/-- The number of the first k bytes, the lowest first. -/
def lsum (a : Nat → Int) : Nat → Int
  | 0 => 0
  | k + 1 => lsum a k + a k * 256 ^ k
/-- Word k behind the first i bytes. -/
def wv (a : Nat → Int) : Nat → Nat → Int
  | 0, _ => 0
  | i + 1, k => wv a i k + if i / 8 = k then a i * 256 ^ (i % 8) else 0
def wval (W : Nat → Int) : Int := W 0 + W 1 * 18446744073709551616 + W 2 * 340282366920938463463374607431768211456 + W 3 * 6277101735386680763835789423207666416102355444464034512896

/-- Bytes, as a function of the place. -/
def Bt (a : Nat → Int) : Prop := ∀ j, 0 ≤ a j ∧ a j < 256
theorem p256_le {m n : Nat} (h : m ≤ n) : (256 : Int) ^ m ≤ 256 ^ n := by
  obtain ⟨d, rfl⟩ := Nat.le.dest h
  induction d with
  | zero => exact Int.le_refl _
  | succ d ih =>
    have := ih (by omega)
    have hp := p256_pos (m + d)
    rw [← Nat.add_assoc, Int.pow_succ]; omega
theorem wv_bd {a : Nat → Int} (h : Bt a) (k : Nat) : ∀ i, 0 ≤ wv a i k ∧ wv a i k < 256 ^ (min (i - 8 * k) 8)
  | 0 => by simp [wv]
  | i + 1 => by
    have ih := wv_bd h k i
    have ha := h i
    rw [wv]
    by_cases e : i / 8 = k
    · rw [if_pos e]
      have e1 : min (i - 8 * k) 8 = i % 8 := by omega
      have e2 : min (i + 1 - 8 * k) 8 = i % 8 + 1 := by omega
      rw [e1] at ih
      rw [e2, Int.pow_succ]
      have hp := p256_pos (i % 8)
      have h1 : 0 ≤ a i * 256 ^ (i % 8) := Int.mul_nonneg ha.1 (by omega)
      have h2 : a i * 256 ^ (i % 8) ≤ 255 * 256 ^ (i % 8) := Int.mul_le_mul_of_nonneg_right (by omega) (by omega)
      omega
    · rw [if_neg e, Int.add_zero]
      have := p256_le (show min (i - 8 * k) 8 ≤ min (i + 1 - 8 * k) 8 by omega)
      omega
theorem wv_lt {a : Nat → Int} (h : Bt a) (i k : Nat) : 0 ≤ wv a i k ∧ wv a i k < 18446744073709551616 := by
  have h1 := wv_bd h k i
  have h2 := p256_le (show min (i - 8 * k) 8 ≤ 8 by omega)
  have h3 : (256 : Int) ^ 8 = 18446744073709551616 := by decide
  omega
theorem wv_cur {a : Nat → Int} (h : Bt a) (i : Nat) : wv a i (i / 8) < 256 ^ (i % 8) := by
  have h1 := wv_bd h (i / 8) i
  rw [show min (i - 8 * (i / 8)) 8 = i % 8 by omega] at h1
  exact h1.2
theorem wv_sum (a : Nat → Int) : ∀ i, i ≤ 32 → wval (wv a i) = lsum a i
  | 0, _ => by simp [wval, wv, lsum]
  | i + 1, hi => by
    have ih := wv_sum a i (by omega)
    have hp : (256 : Int) ^ i = 256 ^ (8 * (i / 8)) * 256 ^ (i % 8) := by
      rw [← Int.pow_add, show 8 * (i / 8) + i % 8 = i by omega]
    rw [lsum, ← ih, hp]
    unfold wval
    simp only [wv]
    generalize 256 ^ (i % 8) = q
    rcases (show i / 8 = 0 ∨ i / 8 = 1 ∨ i / 8 = 2 ∨ i / 8 = 3 by omega) with e | e | e | e
    all_goals
      rw [e]
      simp
      try grind

/-! ### the limbs of four words -/
def rl (W : Nat → Int) : Nat → Int
  | 0 => W 0 % 2251799813685248
  | 1 => (W 0 / 2251799813685248 + W 1 * 8192 % 18446744073709551616) % 2251799813685248
  | 2 => (W 1 / 274877906944 + W 2 * 67108864 % 18446744073709551616) % 2251799813685248
  | 3 => (W 2 / 33554432 + W 3 * 549755813888 % 18446744073709551616) % 2251799813685248
  | 4 => W 3 / 4096
  | _ => 0
def W4 (W : Nat → Int) : Prop := ∀ j, j < 4 → 0 ≤ W j ∧ W j < 18446744073709551616
theorem rl_ok {W : Nat → Int} (h : W4 W) : sv (rl W) 5 = wval W ∧ ∀ j, 0 ≤ rl W j ∧ rl W j < 9223372036854775808 := by
  have h0 := h 0 (by omega); have h1 := h 1 (by omega); have h2 := h 2 (by omega); have h3 := h 3 (by omega)
  refine ⟨?_, ?_⟩
  · simp only [sv, rl, wval]
    omega
  · intro j
    match j with
    | 0 => simp only [rl]; omega
    | 1 => simp only [rl]; omega
    | 2 => simp only [rl]; omega
    | 3 => simp only [rl]; omega
    | 4 => simp only [rl]; omega
    | _ + 5 => simp only [rl]; omega
/-! ### and back -/
def lw (e : Nat → Int) : Nat → Int
  | 0 => e 0 + e 1 * 2251799813685248 % 18446744073709551616
  | 1 => e 1 / 8192 + e 2 * 274877906944 % 18446744073709551616
  | 2 => e 2 / 67108864 + e 3 * 33554432 % 18446744073709551616
  | 3 => e 3 / 549755813888 + e 4 * 4096 % 18446744073709551616
  | _ => 0
theorem lw_ok {e : Nat → Int} (h : Lm e) : wval (lw e) = sv e 5 ∧ W4 (lw e) := by
  have h0 := h 0 (by omega); have h1 := h 1 (by omega); have h2 := h 2 (by omega); have h3 := h 3 (by omega); have h4 := h 4 (by omega)
  refine ⟨?_, ?_⟩
  · simp only [sv, lw, wval]
    omega
  · intro j hj
    obtain rfl | rfl | rfl | rfl : j = 0 ∨ j = 1 ∨ j = 2 ∨ j = 3 := by omega
    all_goals simp only [lw]; omega
theorem W4.uniq {U V : Nat → Int} (hu : W4 U) (hv : W4 V) (h : wval U = wval V) : ∀ j, j < 4 → U j = V j := by
  have a0 := hu 0 (by omega); have a1 := hu 1 (by omega); have a2 := hu 2 (by omega); have a3 := hu 3 (by omega)
  have b0 := hv 0 (by omega); have b1 := hv 1 (by omega); have b2 := hv 2 (by omega); have b3 := hv 3 (by omega)
  unfold wval at h
  have e0 : U 0 = V 0 := by omega
  have e1 : U 1 = V 1 := by omega
  have e2 : U 2 = V 2 := by omega
  have e3 : U 3 = V 3 := by omega
  intro j hj
  obtain rfl | rfl | rfl | rfl : j = 0 ∨ j = 1 ∨ j = 2 ∨ j = 3 := by omega
  all_goals assumption

/-- Byte i of a number. -/
def byt (v : Int) (i : Nat) : Int := v / 256 ^ i % 256
theorem word_byte {W : Nat → Int} (h : W4 W) (i : Nat) (hi : i < 32) : W (i / 8) / 256 ^ (i % 8) % 256 = byt (wval W) i := by
  have h0 := h 0 (by omega); have h1 := h 1 (by omega); have h2 := h 2 (by omega); have h3 := h 3 (by omega)
  unfold byt
  have hp : (256 : Int) ^ i = 256 ^ (8 * (i / 8)) * 256 ^ (i % 8) := by
    rw [← Int.pow_add, show 8 * (i / 8) + i % 8 = i by omega]
  rw [hp, ← Int.ediv_ediv_of_nonneg (Int.le_of_lt (p256_pos _))]
  have key : ∀ x y : Int, (x - y) % 18446744073709551616 = 0 → x / 256 ^ (i % 8) % 256 = y / 256 ^ (i % 8) % 256 := by
    intro x y hxy
    rcases (show i % 8 = 0 ∨ i % 8 = 1 ∨ i % 8 = 2 ∨ i % 8 = 3 ∨ i % 8 = 4 ∨ i % 8 = 5 ∨ i % 8 = 6 ∨ i % 8 = 7 by omega) with e | e | e | e | e | e | e | e
    all_goals
      rw [e]
      simp
      omega
  apply key
  rcases (show i / 8 = 0 ∨ i / 8 = 1 ∨ i / 8 = 2 ∨ i / 8 = 3 by omega) with e | e | e | e
  all_goals
    rw [e]
    simp [wval]
    omega
end Go.Proofs.YtbhmhkimddjhaaaDoor
