import Derived.Test.YtblkjpmkikhpbaaDoorGL7
import Derived.Test.YtblkjpmkikhpbaaDoorGL6

/-
  The product in five limbs: numbers alone.
-/
namespace Go.Proofs.YtblkjpmkikhpbaaDoor
set_option maxRecDepth 100000

/-- The limbs of f, and below them those that come round. -/
def rnd (f : Nat → Int) (j : Nat) : Int := if j < 4 then 19 * f (j + 1) else f (j - 4)
/-- The first n products of column k. -/
def col (e f : Nat → Int) (k : Nat) : Nat → Int
  | 0 => 0
  | i + 1 => col e f k i + e i * rnd f (4 + k - i)
theorem col_mod (e f : Nat → Int) : ∃ q, sv (fun k => col e f k 5) 5 + PP * q = sv e 5 * sv f 5 := by
  refine ⟨e 1 * f 4 + e 2 * f 3 + e 3 * f 2 + e 4 * f 1 + 2251799813685248 * (e 2 * f 4 + e 3 * f 3 + e 4 * f 2) + 2251799813685248 ^ 2 * (e 3 * f 4 + e 4 * f 3) + 2251799813685248 ^ 3 * (e 4 * f 4), ?_⟩
  simp only [sv, col, rnd]
  simp
  generalize e 0 = e0, e 1 = e1, e 2 = e2, e 3 = e3, e 4 = e4, f 0 = f0, f 1 = f1, f 2 = f2, f 3 = f3, f 4 = f4
  grind
theorem rnd_bd {f : Nat → Int} (h : Lm f) (j : Nat) (hj : j < 9) : 0 ≤ rnd f j ∧ rnd f j ≤ 42784196460019712 := by
  unfold rnd
  split
  · have := h (j + 1) (by omega); omega
  · have := h (j - 4) (by omega); omega
theorem mul_bd {a b A B : Int} (ha : 0 ≤ a ∧ a ≤ A) (hb : 0 ≤ b ∧ b ≤ B) : 0 ≤ a * b ∧ a * b ≤ A * B :=
  ⟨Int.mul_nonneg ha.1 hb.1, Int.mul_le_mul ha.2 hb.2 hb.1 (by omega)⟩
theorem col_bd {e f : Nat → Int} (he : Lm e) (hf : Lm f) (k : Nat) (hk : k < 5) : ∀ i, i ≤ 5 → 0 ≤ col e f k i ∧ col e f k i ≤ i * 96341445617345434513749443608576
  | 0, _ => by simp [col]
  | i + 1, h => by
    have ih := col_bd he hf k hk i (by omega)
    have h1 := he i (by omega)
    have := mul_bd (A := 2251799813685248) ⟨h1.1, by omega⟩ (rnd_bd hf (4 + k - i) (by omega))
    rw [col]
    omega
/-- The columns, as far as there are any. -/
def cols (e f : Nat → Int) (k : Nat) : Int := if k < 5 then col e f k 5 else 0
theorem cols_bd {e f : Nat → Int} (he : Lm e) (hf : Lm f) (k : Nat) : 0 ≤ cols e f k ∧ cols e f k ≤ 481707228086727172568747218042880 := by
  unfold cols
  split
  · have := col_bd he hf k (by omega) 5 (by omega); omega
  · omega
theorem cols_cr {e f : Nat → Int} (he : Lm e) (hf : Lm f) (k : Nat) : 0 ≤ cr 0 (cols e f) k ∧ cr 0 (cols e f) k ≤ 213920982300098656 :=
  cr_bd (M := 213920982300098656) (by omega) (by omega) (by omega) (fun j => by have := cols_bd he hf j; omega) k
theorem mul_ok {e f : Nat → Int} (he : Lm e) (hf : Lm f) : (∀ j, 0 ≤ st1 (cols e f) j ∧ st1 (cols e f) j < 9223372036854775808) ∧ sv (stl (st1 (cols e f))) 5 = sv e 5 * sv f 5 % PP ∧ Lm (stl (st1 (cols e f))) := by
  have b : ∀ j, 0 ≤ st1 (cols e f) j ∧ st1 (cols e f) j < 9223372036854775808 := fun j => by
    have := cols_cr he hf 5
    have := lf_bd 0 (cols e f) j
    have := lf_bd 0 (cols e f) 0
    unfold st1
    split <;> omega
  obtain ⟨L, hv⟩ := stl_ok b
  refine ⟨b, ?_, L⟩
  rw [hv, st1_val]
  obtain ⟨q, hq⟩ := col_mod e f
  have h1 := cr_sum 0 (cols e f) 5
  have h2 : sv (cols e f) 5 = sv (fun k => col e f k 5) 5 := sv_congr 5 (fun j hj => by simp [cols, hj])
  rw [← hq]
  rw [h2] at h1
  generalize sv (fun k => col e f k 5) 5 = U at *
  generalize sv (lf 0 (cols e f)) 5 = A at *
  generalize cr 0 (cols e f) 5 = c at *
  have h3 : A + 19 * c = U + 57896044618658097711785492504343953926634992332820282019728792003956564819949 * (-c) := by omega
  rw [h3]
  show (U + 57896044618658097711785492504343953926634992332820282019728792003956564819949 * (-c)) % 57896044618658097711785492504343953926634992332820282019728792003956564819949 = (U + 57896044618658097711785492504343953926634992332820282019728792003956564819949 * q) % 57896044618658097711785492504343953926634992332820282019728792003956564819949
  rw [Int.add_mul_emod_self_left, Int.add_mul_emod_self_left]
end Go.Proofs.YtblkjpmkikhpbaaDoor

/-
  Four words of 64 bits, thirty-two bytes (the lowest first), five limbs: numbers alone.
-/
namespace Go.Proofs.YtblkjpmkikhpbaaDoor
set_option maxRecDepth 100000

/-- The number of the first k bytes, the lowest first. -/
def lsum (a : Nat → Int) : Nat → Int
  | 0 => 0
  | k + 1 => lsum a k + a k * 256 ^ k
/-- Word k behind the first i bytes. -/
def wv (a : Nat → Int) : Nat → Nat → Int
  | 0, _ => 0
  | i + 1, k => wv a i k + if i / 8 = k then a i * 256 ^ (i % 8) else 0
def wval (W : Nat → Int) : Int := W 0 + W 1 * 18446744073709551616 + W 2 * 340282366920938463463374607431768211456 + W 3 * 6277101735386680763835789423207666416102355444464034512896

/-- Bytes, as a function of the place. -/
def Bt (a : Nat → Int) : Prop := ∀ j, 0 ≤ a j ∧ a j < 256
theorem p256_le {m n : Nat} (h : m ≤ n) : (256 : Int) ^ m ≤ 256 ^ n := by
  obtain ⟨d, rfl⟩ := Nat.le.dest h
  induction d with
  | zero => exact Int.le_refl _
  | succ d ih =>
    have := ih (by omega)
    have hp := p256_pos (m + d)
    rw [← Nat.add_assoc, Int.pow_succ]; omega
theorem wv_bd {a : Nat → Int} (h : Bt a) (k : Nat) : ∀ i, 0 ≤ wv a i k ∧ wv a i k < 256 ^ (min (i - 8 * k) 8)
  | 0 => by simp [wv]
  | i + 1 => by
    have ih := wv_bd h k i
    have ha := h i
    rw [wv]
    by_cases e : i / 8 = k
    · rw [if_pos e]
      have e1 : min (i - 8 * k) 8 = i % 8 := by omega
      have e2 : min (i + 1 - 8 * k) 8 = i % 8 + 1 := by omega
      rw [e1] at ih
      rw [e2, Int.pow_succ]
      have hp := p256_pos (i % 8)
      have h1 : 0 ≤ a i * 256 ^ (i % 8) := Int.mul_nonneg ha.1 (by omega)
      have h2 : a i * 256 ^ (i % 8) ≤ 255 * 256 ^ (i % 8) := Int.mul_le_mul_of_nonneg_right (by omega) (by omega)
      omega
    · rw [if_neg e, Int.add_zero]
      have := p256_le (show min (i - 8 * k) 8 ≤ min (i + 1 - 8 * k) 8 by omega)
      omega
theorem wv_lt {a : Nat → Int} (h : Bt a) (i k : Nat) : 0 ≤ wv a i k ∧ wv a i k < 18446744073709551616 := by
  have h1 := wv_bd h k i
  have h2 := p256_le (show min (i - 8 * k) 8 ≤ 8 by omega)
  have h3 : (256 : Int) ^ 8 = 18446744073709551616 := by decide
  omega
theorem wv_cur {a : Nat → Int} (h : Bt a) (i : Nat) : wv a i (i / 8) < 256 ^ (i % 8) := by
  have h1 := wv_bd h (i / 8) i
  rw [show min (i - 8 * (i / 8)) 8 = i % 8 by omega] at h1
  exact h1.2
theorem wv_sum (a : Nat → Int) : ∀ i, i ≤ 32 → wval (wv a i) = lsum a i
  | 0, _ => by simp [wval, wv, lsum]
  | i + 1, hi => by
    have ih := wv_sum a i (by omega)
    have hp : (256 : Int) ^ i = 256 ^ (8 * (i / 8)) * 256 ^ (i % 8) := by
      rw [← Int.pow_add, show 8 * (i / 8) + i % 8 = i by omega]
    rw [lsum, ← ih, hp]
    unfold wval
    simp only [wv]
    generalize 256 ^ (i % 8) = q
    rcases (show i / 8 = 0 ∨ i / 8 = 1 ∨ i / 8 = 2 ∨ i / 8 = 3 by omega) with e | e | e | e
    all_goals
      rw [e]
      simp
      try grind

/-! ### the limbs of four words -/
def rl (W : Nat → Int) : Nat → Int
  | 0 => W 0 % 2251799813685248
  | 1 => (W 0 / 2251799813685248 + W 1 * 8192 % 18446744073709551616) % 2251799813685248
  | 2 => (W 1 / 274877906944 + W 2 * 67108864 % 18446744073709551616) % 2251799813685248
  | 3 => (W 2 / 33554432 + W 3 * 549755813888 % 18446744073709551616) % 2251799813685248
  | 4 => W 3 / 4096
  | _ => 0
def W4 (W : Nat → Int) : Prop := ∀ j, j < 4 → 0 ≤ W j ∧ W j < 18446744073709551616
theorem rl_ok {W : Nat → Int} (h : W4 W) : sv (rl W) 5 = wval W ∧ ∀ j, 0 ≤ rl W j ∧ rl W j < 9223372036854775808 := by
  have h0 := h 0 (by omega); have h1 := h 1 (by omega); have h2 := h 2 (by omega); have h3 := h 3 (by omega)
  refine ⟨?_, ?_⟩
  · simp only [sv, rl, wval]
    omega
  · intro j
    match j with
    | 0 => simp only [rl]; omega
    | 1 => simp only [rl]; omega
    | 2 => simp only [rl]; omega
    | 3 => simp only [rl]; omega
    | 4 => simp only [rl]; omega
    | _ + 5 => simp only [rl]; omega
/-! ### and back -/
def lw (e : Nat → Int) : Nat → Int
  | 0 => e 0 + e 1 * 2251799813685248 % 18446744073709551616
  | 1 => e 1 / 8192 + e 2 * 274877906944 % 18446744073709551616
  | 2 => e 2 / 67108864 + e 3 * 33554432 % 18446744073709551616
  | 3 => e 3 / 549755813888 + e 4 * 4096 % 18446744073709551616
  | _ => 0
theorem lw_ok {e : Nat → Int} (h : Lm e) : wval (lw e) = sv e 5 ∧ W4 (lw e) := by
  have h0 := h 0 (by omega); have h1 := h 1 (by omega); have h2 := h 2 (by omega); have h3 := h 3 (by omega); have h4 := h 4 (by omega)
  refine ⟨?_, ?_⟩
  · simp only [sv, lw, wval]
    omega
  · intro j hj
    obtain rfl | rfl | rfl | rfl : j = 0 ∨ j = 1 ∨ j = 2 ∨ j = 3 := by omega
    all_goals simp only [lw]; omega
theorem W4.uniq {U V : Nat → Int} (hu : W4 U) (hv : W4 V) (h : wval U = wval V) : ∀ j, j < 4 → U j = V j := by
  have a0 := hu 0 (by omega); have a1 := hu 1 (by omega); have a2 := hu 2 (by omega); have a3 := hu 3 (by omega)
  have b0 := hv 0 (by omega); have b1 := hv 1 (by omega); have b2 := hv 2 (by omega); have b3 := hv 3 (by omega)
  unfold wval at h
  have e0 : U 0 = V 0 := by omega
  have e1 : U 1 = V 1 := by omega
  have e2 : U 2 = V 2 := by omega
  have e3 : U 3 = V 3 := by omega
  intro j hj
  obtain rfl | rfl | rfl | rfl : j = 0 ∨ j = 1 ∨ j = 2 ∨ j = 3 := by omega
  all_goals assumption

/-- Byte i of a number. -/
def byt (v : Int) (i : Nat) : Int := v / 256 ^ i % 256
theorem word_byte {W : Nat → Int} (h : W4 W) (i : Nat) (hi : i < 32) : W (i / 8) / 256 ^ (i % 8) % 256 = byt (wval W) i := by
  have h0 := h 0 (by omega); have h1 := h 1 (by omega); have h2 := h 2 (by omega); have h3 := h 3 (by omega)
  unfold byt
  have hp : (256 : Int) ^ i = 256 ^ (8 * (i / 8)) * 256 ^ (i % 8) := by
    rw [← Int.pow_add, show 8 * (i / 8) + i % 8 = i by omega]
  rw [hp, ← Int.ediv_ediv_of_nonneg (Int.le_of_lt (p256_pos _))]
  have key : ∀ x y : Int, (x - y) % 18446744073709551616 = 0 → x / 256 ^ (i % 8) % 256 = y / 256 ^ (i % 8) % 256 := by
    intro x y hxy
    rcases (show i % 8 = 0 ∨ i % 8 = 1 ∨ i % 8 = 2 ∨ i % 8 = 3 ∨ i % 8 = 4 ∨ i % 8 = 5 ∨ i % 8 = 6 ∨ i % 8 = 7 by omega) with e | e | e | e | e | e | e | e
    all_goals
      rw [e]
      simp
      omega
  apply key
  rcases (show i / 8 = 0 ∨ i / 8 = 1 ∨ i / 8 = 2 ∨ i / 8 = 3 by omega) with e | e | e | e
  all_goals
    rw [e]
    simp [wval]
    omega
end Go.Proofs.YtblkjpmkikhpbaaDoor

/-
  The model's small functions of chapter 2: turning, the prime, a number of bytes, telling.
-/
namespace Go.Proofs.YtblkjpmkikhpbaaDoor
set_option maxRecDepth 100000
open Go.RowKit

theorem byt_app1 {ys : List Int} (h : Byt ys) (x : Int) (h0 : 0 ≤ x) (h1 : x < 256) : Byt (ys ++ [x]) := by
  intro i
  rcases Nat.lt_trichotomy i ys.length with e | e | e
  · have := h i
    simpa [List.getElem?_append, e] using this
  · subst e
    simp [h0, h1]
  · rw [List.getD_eq_getElem?_getD, List.getElem?_eq_none (by simp; omega)]
    decide
/-- What has been turned so far. -/
def TurnTo (xs ys : List Int) (k : Nat) : Prop := ys.length = k ∧ ∀ i, i < k → ys.getD i 0 = xs.getD (xs.length - 1 - i) 0
theorem TurnTo.step {xs ys : List Int} {k : Nat} (h : TurnTo xs ys k) : TurnTo xs (ys ++ [xs.getD (xs.length - 1 - k) 0]) (k + 1) := by
  refine ⟨by simp [h.1], fun i hi => ?_⟩
  by_cases e : i < k
  · rw [← h.2 i e]
    simp [List.getElem?_append, h.1, e]
  · obtain rfl : i = k := by omega
    simp [h.1]
theorem lo_lsum {ys : List Int} {a : Nat → Int} : ∀ n, (∀ i, i < n → dig ys i = a i) → lo ys n = lsum a n
  | 0, _ => rfl
  | n + 1, h => by rw [lo, lsum, lo_lsum n (fun i hi => h i (by omega)), h n (by omega)]
theorem TurnTo.val {xs ys : List Int} (h : TurnTo xs ys xs.length) : bval ys = lsum (fun j => xs.getD j 0) xs.length := by
  rw [← lo_all ys xs.length (by rw [h.1]; exact Nat.le_refl _)]
  refine lo_lsum _ (fun i hi => ?_)
  unfold dig
  rw [if_pos (by rw [h.1]; exact hi), h.2 _ (by rw [h.1]; omega), h.1]
  congr 1
  omega
theorem hi_div {xs : List Int} (hb : Byt xs) : ∀ i, hi xs i = bval xs / 256 ^ i
  | 0 => by rw [hi_zero]; simp
  | i + 1 => by
    have h := hi_step xs i
    have hd := dig_byt hb i
    rw [Int.pow_succ, ← Int.ediv_ediv_of_nonneg (Int.le_of_lt (p256_pos i)), ← hi_div hb i]
    omega
theorem dig_of {xs : List Int} (hb : Byt xs) (i : Nat) : dig xs i = byt (bval xs) i := by
  have h := hi_step xs i
  have hd := dig_byt hb i
  unfold byt
  rw [← hi_div hb i]
  omega
theorem fill_congr {f g : Nat → Int} {n : Nat} (h : ∀ i, i < n → f i = g i) : fill f n = fill g n :=
  eq_of_getD (by rw [fill_len, fill_len]) (fun i hi => by rw [fill_len] at hi; rw [fill_get f n i hi, fill_get g n i hi, h i hi])

set_option maxHeartbeats 2000000 in
theorem l1Turn_any (w : World) (g : Nat) (a : Option Addr) (c : Nat) (xs : List Int) (hr : Rd w g a .u8 xs) (hb : Byt xs) (hl : xs.length ≤ 1048576) :
    Calls Tryd.prog 46 #[.slice a xs.length c] w fun e w' => ∃ ys, TurnTo xs ys xs.length ∧ Byt ys ∧ NewRow w.heap.size w' e .u8 ys ∧ Below w.heap.size w w' := by
  obtain ⟨i0, hi, hz0, hz1, hz2⟩ := info_parts Tryd.info5
  have hown0 : (w.alloc (.cells #[] 5)).ownsRow w.heap.size 5 1 (.slice (some ⟨w.heap.size, 0, none⟩) 0 0) 0 [] := World.ownsRow_lit w #[] 0 (Nat.le_refl _) (by unfold maxLen; omega) (by simp)
  have hal : Below w.heap.size w (w.alloc (.cells #[] 5)) := (Below.refl _ _).alloc (Nat.le_refl _) _
  go_enter Tryd.func46, Tryd.ntmps46
  go_wp2
  go_loopw [3, 4] (fun v i wr => ∃ (k : Nat) (t : Int) (ys : List Int), i = .int .i64 t ∧ t + (k : Int) + 1 = (xs.length : Int) ∧ -1 ≤ t ∧ TurnTo xs ys k ∧ Byt ys ∧ wr.ownsRow w.heap.size 5 1 v k (ys.map (Value.int .u8)) ∧ Below w.heap.size w wr) (fun _ i _ => (intOf i + 1).toNat)
  case atStart => exact ⟨0, (xs.length : Int) - 1, [], rfl, by omega, by omega, ⟨rfl, fun i h => absurd h (by omega)⟩, byt_nil, hown0, hal⟩
  case round =>
    obtain ⟨k, t, ys, rfl, ht, ht0, hT, hyb, hown, hN⟩ := hrel
    have hob := hown.lt
    by_cases hlt : 0 ≤ t
    · obtain ⟨j, rfl⟩ := Int.eq_ofNat_of_zero_le hlt
      obtain ⟨off, rfl, hc⟩ := (hr.up hN) (by omega)
      have cx := hc j (by omega)
      have xb := hb j
      have hT' := hT.step
      rw [show xs.length - 1 - k = j by omega] at hT'
      generalize xs.getD j 0 = x at *
      have j1 : (j : Int) < (xs.length : Int) := by omega
      have HT := hide ht
      clear hc ht
      go_wp2_with (at_builtin; refine wpList_append_own _ rfl _ _ 22 rfl w.heap.size 5 i0 (.int .u8 0) 1 1 Tryd.underlying22 hi hz0 hz1 hz2 rfl (by decide) _ k (ys.map (Value.int .u8)) rfl (hown.alloc _) ⟨wr.heap.size, 0, none⟩ 1 1 [.int .u8 x] rfl rfl ?c1 ?c2 ?c3 ?c4 ?c5 ?_)
      case c1 =>
        intro j u hj
        match j, hj with
        | 0, hj => simp at hj; subst hj; simp [Addr.add]
      case c2 => intro u hu; simp at hu; subst hu; rfl
      case c3 => unfold maxLen; have := HT.out; omega
      case c4 => have := HT.out; omega
      case c5 => simp; have := hN.size; omega
      · intro v' w2 hown2 hgrow _
        have nA : Below w.heap.size w (wr.alloc (.cells #[.int .u8 x] 5)) := hN.alloc hN.size _
        have N2 : Below w.heap.size w w2 := nA.grown hgrow (by simp; have := hN.size; omega) (fun i hi => (hob i hi).1)
        have hown3 : w2.ownsRow w.heap.size 5 1 v' (k + 1) ((ys ++ [x]).map (Value.int .u8)) := by simpa using hown2
        have hb3 := byt_app1 hyb x xb.1 (by omega)
        clear hown hown2 hgrow nA hob
        go_wp2
        go_roundw
        case rel => exact ⟨k + 1, (j : Int) - 1, ys ++ [x], rfl, by have := HT.out; omega, by omega, hT', hb3, hown3, N2⟩
        case measure => simp [intOf]
    · obtain rfl : t = -1 := by omega
      obtain rfl : k = xs.length := by omega
      have hown' := hown
      rw [← hT.1] at hown'
      obtain ⟨a', c', g', hv, o1, o2, o3, o4⟩ := Own.of_ownsRow hown'
      subst hv
      have L := hide hT
      clear hown hown' ht hT
      go_wp2
      go_ret
      exact ⟨ys, L.out, hyb, ⟨_, _, g', rfl, o1, o2, o3, o4⟩, hN⟩

set_option maxHeartbeats 1000000 in
theorem l2Num_any (w : World) (g : Nat) (a : Option Addr) (c : Nat) (xs : List Int) (hr : Rd w g a .u8 xs) (hb : Byt xs) (hl : xs.length ≤ 1048576) :
    Calls Tryd.prog 24 #[.slice a xs.length c] w fun e w' => ∃ ys, Canon ys (lsum (fun j => xs.getD j 0) xs.length) ∧ ys.length ≤ xs.length ∧ NewRow w.heap.size w' e .u8 ys ∧ Below w.heap.size w w' := by
  go_enter Tryd.func24, Tryd.ntmps24
  go_wp2_with fail
  refine (l1Turn_any w g a c xs hr hb hl).mono ?_
  rintro e w1 ⟨ys, T, yb, ⟨a1, c1, g1, rfl, o1, p1, p2, p3⟩, n1⟩
  have V := hide T.val
  have L := hide T.1
  clear T
  go_wp2_with fail
  refine (l1Trim_any w1 g1 a1 c1 ys o1.rd yb p1 p2 (by have := L.out; omega)).mono ?_
  rintro e w2 ⟨zs, C, l2, ⟨a2, c2, g2, rfl, o2, q1, q2, q3⟩, n2⟩
  go_wp2
  go_ret
  exact ⟨zs, by rw [← V.out]; exact C, by have := L.out; omega, ⟨_, _, g2, rfl, o2, q1, q2, Nat.le_trans n1.size q3⟩, nxt n1 n2⟩

/-- The bytes of the prime, the highest first. -/
def pbytes : List Int := [127, 255, 255, 255, 255, 255, 255, 255, 255, 255, 255, 255, 255, 255, 255, 255, 255, 255, 255, 255, 255, 255, 255, 255, 255, 255, 255, 255, 255, 255, 255, 237]
theorem pbytes_val : bval pbytes = PP := by decide +kernel
theorem pbytes_len : pbytes.length = 32 := rfl
theorem pbytes_byt : Byt pbytes := by
  intro i
  by_cases h : i < 32
  · have : ∀ i, i < 32 → 0 ≤ pbytes.getD i 0 ∧ pbytes.getD i 0 < 256 := by decide
    exact this i h
  · rw [List.getD_eq_getElem?_getD, List.getElem?_eq_none (by rw [pbytes_len]; omega)]
    simp
theorem pbytes_made : ((fill (fun _ => 255) 32).set 0 127).set 31 237 = pbytes := by decide

set_option maxHeartbeats 1000000 in
theorem l2Prime_any (w : World) :
    Calls Tryd.prog 52 #[] w fun e w' => e = .returned (.slice (some ⟨w.heap.size, 0, none⟩) pbytes.length 32) ∧ Blk w' w.heap.size .u8 pbytes ∧ Below w.heap.size w w' := by
  obtain ⟨i0, hi, hz0, hz1, hz2⟩ := info_parts Tryd.info5
  go_enter Tryd.func52, Tryd.ntmps52
  go_wp2_with (at_make; refine wpList_make_full _ rfl _ _ 22 rfl w.heap.size 5 i0 (.int .u8 0) 1 Tryd.underlying22 hi hz0 hz1 .i64 .i64 _ _ 32 rfl rfl rfl rfl (by rw [hz2]; omega) (by unfold maxLen; omega) (Nat.le_refl _) ?_; intro w1 hown hgrow)
  have hB0 := Blk.of_made hown
  have hN0 : Below w.heap.size w w1 := (Below.refl _ _).grown hgrow (Nat.le_refl _) (by simp)
  clear hown hgrow
  go_loopw [2] (fun i wr => ∃ (k : Nat) (ys : List Int), k ≤ 32 ∧ i = .int .i64 k ∧ FillTo (fun _ => 255) ys 32 k ∧ Blk wr w.heap.size .u8 ys ∧ Below w.heap.size w wr) (fun i _ => 32 - (intOf i).toNat)
  case atStart => exact ⟨0, _, by omega, rfl, ⟨by simp, fun j hj => absurd hj (by omega)⟩, hB0, hN0⟩
  case round =>
    clear hB0 hN0
    obtain ⟨k, ys, hk, rfl, hF, hB, hN⟩ := hrel
    by_cases hlt : k < 32
    · have hst := hF.step hlt
      have hcy := hB.cell (i := k) (by rw [hF.1]; exact hlt)
      have hfy := hB.free k
      have k2 : (k : Int) < 32 := by omega
      have S := hB.store k 255
      have Sn : Below w.heap.size w (wr.setCell ⟨w.heap.size, k, none⟩ (.int .u8 255)) := hN.setCell (Nat.le_refl _) _
      clear hB hN hF
      go_wp2
      go_roundw
      case rel => exact ⟨k + 1, _, by omega, by go_num, hst, S, Sn⟩
      case measure => simp [intOf]; omega
    · obtain rfl : k = 32 := by omega
      have hy := hF.all
      subst hy
      have c0 : wr.cell? ⟨w.heap.size, 0, none⟩ = some (.int .u8 255) := hB.cell (i := 0) (by rw [fill_len]; omega)
      have f0 := hB.free 0
      have S := hB.store 0 127
      have c1 : wr.cell? ⟨w.heap.size, 31, none⟩ = some (.int .u8 255) := hB.cell (i := 31) (by rw [fill_len]; omega)
      have f1 := hB.free 31
      have S2 := S.store 31 237
      rw [pbytes_made] at S2
      have Sn : Below w.heap.size w ((wr.setCell ⟨w.heap.size, 0, none⟩ (.int .u8 127)).setCell ⟨w.heap.size, 31, none⟩ (.int .u8 237)) := (hN.setCell (Nat.le_refl _) _).setCell (Nat.le_refl _) _
      clear hB hN hF S
      go_wp2
      go_ret
      exact ⟨rfl, S2, Sn⟩

set_option maxHeartbeats 1000000 in
theorem l2Tell_any (w : World) (g : Nat) (a : Option Addr) (c : Nat) (xs : List Int) (hr : Rd w g a .u8 xs) (hb : Byt xs) (hl : xs.length ≤ 4096) :
    Calls Tryd.prog 47 #[.slice a xs.length c] w fun e w' => NewRow w.heap.size w' e .u8 (fill (byt (bval xs % PP)) 32) ∧ Below w.heap.size w w' := by
  go_enter Tryd.func47, Tryd.ntmps47
  go_wp2_with fail
  refine (l2Prime_any w).mono ?_
  rintro e w1 ⟨rfl, B1, n1⟩
  go_wp2_with fail
  refine (l1Mod_any w1 g _ a _ c 32 xs pbytes (hr.up n1) B1.own0.rd hb pbytes_byt (by simp) (by decide) hl (by decide) (by rw [pbytes_val]; decide)).mono ?_
  rintro e w2 ⟨⟨ys, a2, c2, g2, rfl, o2, q1, q2, q3, C⟩, n2⟩
  have V : Hid (fill (dig ys) 32 = fill (byt (bval xs % PP)) 32) := by
    show _ = _
    refine fill_congr (fun i _ => ?_)
    rw [dig_of C.1, C.2.1, pbytes_val]
  have L : ys.length ≤ 32 := by
    have : bval xs % bval pbytes < 256 ^ 32 := Int.lt_trans (Int.emod_lt_of_pos _ (by rw [pbytes_val]; decide)) (by rw [pbytes_val]; decide)
    exact C.len this
  go_wp2_with fail
  refine (l1Little_any w2 g2 a2 c2 ys 32 o2.rd C.1 (by omega) (by omega)).mono ?_
  rintro e w3 ⟨rfl, B3, n3⟩
  rw [V.out] at B3
  have N3 := nxt (nxt n1 n2) n3
  have z := (nxt n1 n2).size
  go_wp2
  go_ret
  exact ⟨⟨_, 32, w2.heap.size, by rw [fill_len]; rfl, B3.own0, by simp, by rw [fill_len]; omega, z⟩, N3⟩
end Go.Proofs.YtblkjpmkikhpbaaDoor
