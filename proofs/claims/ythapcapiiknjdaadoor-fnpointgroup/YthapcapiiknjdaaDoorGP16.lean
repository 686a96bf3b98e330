import Derived.Test.YthapcapiiknjdaaDoorGP4
import Derived.Test.YthapcapiiknjdaaDoorGP5
import Derived.Test.YthapcapiiknjdaaDoorGP14
import Derived.Test.YthapcapiiknjdaaDoorGP15
import Derived.Deep.RegionWith
import Derived.Deep.WholeRow
import Derived.Deep.RegionHeld3

/-
  Four and eight words of 64 bits modulo the order of the group: numbers alone.
-/
namespace Go.Proofs.YthapcapiiknjdaaDoor
set_option maxRecDepth 100000

/-- The order of the group. -/
abbrev QQ : Int := 7237005577332262213973186563042994240857116359379907606001950938285454250989

/-- Eight words in their bounds, and their number. -/
def W8 (D : Nat → Int) : Prop := ∀ j, j < 8 → 0 ≤ D j ∧ D j < 18446744073709551616
def dval (D : Nat → Int) : Int := wval D + (D 4 + D 5 * 18446744073709551616 + D 6 * 340282366920938463463374607431768211456 + D 7 * 6277101735386680763835789423207666416102355444464034512896) * 115792089237316195423570985008687907853269984665640564039457584007913129639936

/-! ### a product with a word, added -/
/-- What is carried into step k. -/
def ac (n : Int) (s d : Nat → Int) : Nat → Int
  | 0 => 0
  | k + 1 => (ac n s d k + n * s k + d k) / 18446744073709551616
/-- The words behind k steps at place p. -/
def at8 (p : Nat) (n : Int) (s D : Nat → Int) (k j : Nat) : Int :=
  if p ≤ j ∧ j < p + k then (ac n s (fun i => D (p + i)) (j - p) + n * s (j - p) + D j) % 18446744073709551616 else D j
/-- And all of them. -/
def adT (p : Nat) (n : Int) (s D : Nat → Int) (j : Nat) : Int :=
  if j = p + 4 then D j + ac n s (fun i => D (p + i)) 4 else at8 p n s D 4 j

theorem mul_word {n x : Int} (hn : 0 ≤ n ∧ n < 18446744073709551616) (hx : 0 ≤ x ∧ x < 18446744073709551616) : 0 ≤ n * x ∧ n * x ≤ 340282366920938463426481119284349108225 := by
  refine ⟨Int.mul_nonneg hn.1 hx.1, ?_⟩
  have h1 : n * x ≤ 18446744073709551615 * x := Int.mul_le_mul_of_nonneg_right (by omega) hx.1
  omega
theorem ac_bd {n : Int} {s d : Nat → Int} (hn : 0 ≤ n ∧ n < 18446744073709551616) (hs : W4 s) : ∀ k, k ≤ 4 → (∀ j, j < k → 0 ≤ d j ∧ d j < 18446744073709551616) → 0 ≤ ac n s d k ∧ ac n s d k < 18446744073709551616
  | 0, _, _ => by simp [ac]
  | k + 1, hk, hd => by
    have ih := ac_bd hn hs k (by omega) (fun j hj => hd j (by omega))
    have h1 := hd k (by omega)
    have h2 := mul_word hn (hs k (by omega))
    rw [ac]
    generalize n * s k = m at *
    omega
theorem ac_sum (n : Int) (s d : Nat → Int) : 
    (ac n s d 0 + n * s 0 + d 0) % 18446744073709551616 + (ac n s d 1 + n * s 1 + d 1) % 18446744073709551616 * 18446744073709551616 + (ac n s d 2 + n * s 2 + d 2) % 18446744073709551616 * 340282366920938463463374607431768211456 + (ac n s d 3 + n * s 3 + d 3) % 18446744073709551616 * 6277101735386680763835789423207666416102355444464034512896 + ac n s d 4 * 115792089237316195423570985008687907853269984665640564039457584007913129639936 = wval d + n * wval s := by
  have e : n * wval s = n * s 0 + n * s 1 * 18446744073709551616 + n * s 2 * 340282366920938463463374607431768211456 + n * s 3 * 6277101735386680763835789423207666416102355444464034512896 := by
    unfold wval
    simp only [Int.mul_add, Int.mul_assoc]
  rw [e]
  have h1 : ac n s d 1 = (ac n s d 0 + n * s 0 + d 0) / 18446744073709551616 := rfl
  have h2 : ac n s d 2 = (ac n s d 1 + n * s 1 + d 1) / 18446744073709551616 := rfl
  have h3 : ac n s d 3 = (ac n s d 2 + n * s 2 + d 2) / 18446744073709551616 := rfl
  have h4 : ac n s d 4 = (ac n s d 3 + n * s 3 + d 3) / 18446744073709551616 := rfl
  have h0 : ac n s d 0 = 0 := rfl
  unfold wval
  generalize ac n s d 0 = c0 at *
  generalize ac n s d 1 = c1 at *
  generalize ac n s d 2 = c2 at *
  generalize ac n s d 3 = c3 at *
  generalize ac n s d 4 = c4 at *
  generalize n * s 0 = m0 at *
  generalize n * s 1 = m1 at *
  generalize n * s 2 = m2 at *
  generalize n * s 3 = m3 at *
  omega
theorem adT_ok {p : Nat} {n : Int} {s D : Nat → Int} (hp : p ≤ 3) (hn : 0 ≤ n ∧ n < 18446744073709551616) (hs : W4 s) (hD : W8 D) (ho : D (p + 4) + ac n s (fun i => D (p + i)) 4 < 18446744073709551616) :
    W8 (adT p n s D) ∧ dval (adT p n s D) = dval D + n * wval s * 18446744073709551616 ^ p := by
  have hb := ac_bd (d := fun i => D (p + i)) hn hs 4 (by omega) (fun j hj => hD (p + j) (by omega))
  have hS := ac_sum n s (fun i => D (p + i))
  refine ⟨fun j hj => ?_, ?_⟩
  · unfold adT at8
    have := hD j hj
    split
    · subst_vars; omega
    · split
      · omega
      · exact this
  · simp only [wval, Nat.add_zero] at hS
    have e : n * wval s = n * (s 0 + s 1 * 18446744073709551616 + s 2 * 340282366920938463463374607431768211456 + s 3 * 6277101735386680763835789423207666416102355444464034512896) := rfl
    rw [← e] at hS
    generalize n * wval s = M at *
    obtain rfl | rfl | rfl | rfl : p = 0 ∨ p = 1 ∨ p = 2 ∨ p = 3 := by omega
    all_goals
      simp [dval, wval, adT, at8] at hS ⊢
      omega

/-! ### less a product with a word -/
/-- What is carried of the product into step k. -/
def lo4 (n : Int) (t : Nat → Int) : Nat → Int
  | 0 => 0
  | k + 1 => (lo4 n t k + n * t k) / 18446744073709551616
/-- What was borrowed ahead of step k. -/
def lb4 (n : Int) (s t : Nat → Int) : Nat → Int
  | 0 => 0
  | k + 1 => if s k - (lo4 n t k + n * t k) % 18446744073709551616 - lb4 n s t k < 0 then 1 else 0
/-- What is left at place k. -/
def ls4 (n : Int) (s t : Nat → Int) (k : Nat) : Int := (s k - (lo4 n t k + n * t k) % 18446744073709551616 - lb4 n s t k) % 18446744073709551616
/-- What is carried when the order is added, if it is. -/
def qc4 (u q : Nat → Int) (b : Int) : Nat → Int
  | 0 => 0
  | k + 1 => (u k + q k * b + qc4 u q b k) / 18446744073709551616
def qs4 (u q : Nat → Int) (b : Int) (k : Nat) : Int := (u k + q k * b + qc4 u q b k) % 18446744073709551616
theorem lo4_bd {n : Int} {t : Nat → Int} (hn : 0 ≤ n ∧ n < 18446744073709551616) (ht : W4 t) : ∀ k, k ≤ 4 → 0 ≤ lo4 n t k ∧ lo4 n t k < 18446744073709551616
  | 0, _ => by simp [lo4]
  | k + 1, hk => by
    have ih := lo4_bd hn ht k (by omega)
    have h2 := mul_word hn (ht k (by omega))
    rw [lo4]
    generalize n * t k = m at *
    omega
theorem lb4_bd (n : Int) (s t : Nat → Int) : ∀ k, lb4 n s t k = 0 ∨ lb4 n s t k = 1
  | 0 => by simp [lb4]
  | k + 1 => by rw [lb4]; split <;> simp
theorem ls4_W4 (n : Int) (s t : Nat → Int) : W4 (ls4 n s t) := fun k _ => by unfold ls4; omega
theorem qs4_W4 (u q : Nat → Int) (b : Int) : W4 (qs4 u q b) := fun k _ => by unfold qs4; omega
theorem qc4_bd {u q : Nat → Int} {b : Int} (hu : W4 u) (hq : W4 q) (hb : b = 0 ∨ b = 1) : ∀ k, k ≤ 4 → qc4 u q b k = 0 ∨ qc4 u q b k = 1
  | 0, _ => by simp [qc4]
  | k + 1, hk => by
    have ih := qc4_bd hu hq hb k (by omega)
    have h1 := hu k (by omega)
    have h2 := hq k (by omega)
    rw [qc4]
    rcases hb with rfl | rfl
    all_goals omega
theorem ls4_sum {n : Int} {s t : Nat → Int} (hs : W4 s) : wval (ls4 n s t) = wval s - n * wval t + (lb4 n s t 4 + lo4 n t 4) * 115792089237316195423570985008687907853269984665640564039457584007913129639936 := by
  have e : n * wval t = n * t 0 + n * t 1 * 18446744073709551616 + n * t 2 * 340282366920938463463374607431768211456 + n * t 3 * 6277101735386680763835789423207666416102355444464034512896 := by
    unfold wval
    simp only [Int.mul_add, Int.mul_assoc]
  rw [e]
  have h0 : lo4 n t 0 = 0 := rfl
  have h1 : lo4 n t 1 = (lo4 n t 0 + n * t 0) / 18446744073709551616 := rfl
  have h2 : lo4 n t 2 = (lo4 n t 1 + n * t 1) / 18446744073709551616 := rfl
  have h3 : lo4 n t 3 = (lo4 n t 2 + n * t 2) / 18446744073709551616 := rfl
  have h4 : lo4 n t 4 = (lo4 n t 3 + n * t 3) / 18446744073709551616 := rfl
  have b0 : lb4 n s t 0 = 0 := rfl
  have b1 : lb4 n s t 1 = if s 0 - (lo4 n t 0 + n * t 0) % 18446744073709551616 - lb4 n s t 0 < 0 then 1 else 0 := rfl
  have b2 : lb4 n s t 2 = if s 1 - (lo4 n t 1 + n * t 1) % 18446744073709551616 - lb4 n s t 1 < 0 then 1 else 0 := rfl
  have b3 : lb4 n s t 3 = if s 2 - (lo4 n t 2 + n * t 2) % 18446744073709551616 - lb4 n s t 2 < 0 then 1 else 0 := rfl
  have b4 : lb4 n s t 4 = if s 3 - (lo4 n t 3 + n * t 3) % 18446744073709551616 - lb4 n s t 3 < 0 then 1 else 0 := rfl
  have s0 := hs 0 (by omega); have s1 := hs 1 (by omega); have s2 := hs 2 (by omega); have s3 := hs 3 (by omega)
  have k1 := lb4_bd n s t 1; have k2 := lb4_bd n s t 2; have k3 := lb4_bd n s t 3
  unfold wval ls4
  generalize lo4 n t 0 = c0 at *
  generalize lo4 n t 1 = c1 at *
  generalize lo4 n t 2 = c2 at *
  generalize lo4 n t 3 = c3 at *
  generalize lo4 n t 4 = c4 at *
  generalize lb4 n s t 0 = d0 at *
  generalize lb4 n s t 1 = d1 at *
  generalize lb4 n s t 2 = d2 at *
  generalize lb4 n s t 3 = d3 at *
  generalize lb4 n s t 4 = d4 at *
  generalize n * t 0 = m0 at *
  generalize n * t 1 = m1 at *
  generalize n * t 2 = m2 at *
  generalize n * t 3 = m3 at *
  have one : ∀ (x y b b' : Int), 0 ≤ x ∧ x < 18446744073709551616 → (b = 0 ∨ b = 1) → b' = (if x - y % 18446744073709551616 - b < 0 then 1 else 0) → (x - y % 18446744073709551616 - b) % 18446744073709551616 = x - y % 18446744073709551616 - b + b' * 18446744073709551616 := by
    intro x y b b' hx hb hb'
    split at hb' <;> omega
  rw [one _ _ _ _ s0 (by omega) b1, one _ _ _ _ s1 k1 b2, one _ _ _ _ s2 k2 b3, one _ _ _ _ s3 k3 b4]
  clear b1 b2 b3 b4 one
  omega
theorem qs4_sum {u q : Nat → Int} {b : Int} : wval (qs4 u q b) + qc4 u q b 4 * 115792089237316195423570985008687907853269984665640564039457584007913129639936 = wval u + wval q * b := by
  have e : wval q * b = q 0 * b + q 1 * b * 18446744073709551616 + q 2 * b * 340282366920938463463374607431768211456 + q 3 * b * 6277101735386680763835789423207666416102355444464034512896 := by
    unfold wval
    grind
  rw [e]
  have h0 : qc4 u q b 0 = 0 := rfl
  have h1 : qc4 u q b 1 = (u 0 + q 0 * b + qc4 u q b 0) / 18446744073709551616 := rfl
  have h2 : qc4 u q b 2 = (u 1 + q 1 * b + qc4 u q b 1) / 18446744073709551616 := rfl
  have h3 : qc4 u q b 3 = (u 2 + q 2 * b + qc4 u q b 2) / 18446744073709551616 := rfl
  have h4 : qc4 u q b 4 = (u 3 + q 3 * b + qc4 u q b 3) / 18446744073709551616 := rfl
  unfold wval qs4
  generalize qc4 u q b 0 = c0 at *
  generalize qc4 u q b 1 = c1 at *
  generalize qc4 u q b 2 = c2 at *
  generalize qc4 u q b 3 = c3 at *
  generalize qc4 u q b 4 = c4 at *
  generalize q 0 * b = m0 at *
  generalize q 1 * b = m1 at *
  generalize q 2 * b = m2 at *
  generalize q 3 * b = m3 at *
  omega
theorem lo4_all {n : Int} {t : Nat → Int} : lo4 n t 4 = n * wval t / 115792089237316195423570985008687907853269984665640564039457584007913129639936 := by
  have e : n * wval t = n * t 0 + n * t 1 * 18446744073709551616 + n * t 2 * 340282366920938463463374607431768211456 + n * t 3 * 6277101735386680763835789423207666416102355444464034512896 := by
    unfold wval
    simp only [Int.mul_add, Int.mul_assoc]
  rw [e]
  have h0 : lo4 n t 0 = 0 := rfl
  have h1 : lo4 n t 1 = (lo4 n t 0 + n * t 0) / 18446744073709551616 := rfl
  have h2 : lo4 n t 2 = (lo4 n t 1 + n * t 1) / 18446744073709551616 := rfl
  have h3 : lo4 n t 3 = (lo4 n t 2 + n * t 2) / 18446744073709551616 := rfl
  have h4 : lo4 n t 4 = (lo4 n t 3 + n * t 3) / 18446744073709551616 := rfl
  generalize lo4 n t 0 = c0 at *
  generalize lo4 n t 1 = c1 at *
  generalize lo4 n t 2 = c2 at *
  generalize lo4 n t 3 = c3 at *
  generalize lo4 n t 4 = c4 at *
  generalize n * t 0 = m0 at *
  generalize n * t 1 = m1 at *
  generalize n * t 2 = m2 at *
  generalize n * t 3 = m3 at *
  omega
theorem W4.bd {u : Nat → Int} (h : W4 u) : 0 ≤ wval u ∧ wval u < 115792089237316195423570985008687907853269984665640564039457584007913129639936 := by
  have h0 := h 0 (by omega); have h1 := h 1 (by omega); have h2 := h 2 (by omega); have h3 := h 3 (by omega)
  unfold wval
  omega
/-- The words of the order. -/
def qw : Nat → Int
  | 0 => 6346243789798364141
  | 1 => 1503914060200516822
  | 2 => 0
  | 3 => 1152921504606846976
  | _ => 0
theorem qw_val : wval qw = QQ := by decide
theorem qw_W4 : W4 qw := by unfold W4; decide
/-- What lessTimes answers. -/
def lsT (n : Int) (s t : Nat → Int) : Nat → Int := qs4 (ls4 n s t) qw (lb4 n s t 4)
theorem lsT_ok {n : Int} {s t : Nat → Int} (hn : 0 ≤ n ∧ n < 18446744073709551616) (hs : W4 s) (ht : W4 t) (h1 : n * wval t < 115792089237316195423570985008687907853269984665640564039457584007913129639936) (h2 : n * wval t ≤ wval s + QQ) :
    W4 (lsT n s t) ∧ wval (lsT n s t) = if wval s < n * wval t then wval s - n * wval t + QQ else wval s - n * wval t := by
  refine ⟨qs4_W4 _ _ _, ?_⟩
  have e1 := ls4_sum (n := n) (t := t) hs
  have e2 := qs4_sum (u := ls4 n s t) (q := qw) (b := lb4 n s t 4)
  have b1 := (ls4_W4 n s t).bd
  have b2 := (qs4_W4 (ls4 n s t) qw (lb4 n s t 4)).bd
  have b3 := hs.bd
  have k := lb4_bd n s t 4
  have c := qc4_bd (b := lb4 n s t 4) (ls4_W4 n s t) qw_W4 k 4 (by omega)
  have l := lo4_all (n := n) (t := t)
  have m : 0 ≤ n * wval t := Int.mul_nonneg hn.1 ht.bd.1
  rw [qw_val] at e2
  unfold lsT
  generalize wval (qs4 (ls4 n s t) qw (lb4 n s t 4)) = r at *
  generalize qc4 (ls4 n s t) qw (lb4 n s t 4) 4 = cc at *
  generalize wval (ls4 n s t) = v at *
  generalize n * wval t = M at *
  generalize wval s = x at *
  generalize lb4 n s t 4 = b at *
  generalize lo4 n t 4 = o at *
  have e3 : o = 0 := by omega
  subst e3
  simp only [QQ] at *
  split
  all_goals
    rcases k with rfl | rfl <;> rcases c with rfl | rfl <;> omega

/-! ### reducing -/
def rdS (s : Nat → Int) : Nat → Int := lsT (s 3 / 1152921504606846976) s qw
theorem rdS_ok {s : Nat → Int} (hs : W4 s) : W4 (rdS s) ∧ wval (rdS s) = wval s % QQ := by
  have b := hs.bd
  have h0 := hs 0 (by omega); have h1 := hs 1 (by omega); have h2 := hs 2 (by omega); have h3 := hs 3 (by omega)
  have e : s 3 / 1152921504606846976 = wval s / 7237005577332262213973186563042994240857116359379907606001950938285454250989 ∨ s 3 / 1152921504606846976 = wval s / 7237005577332262213973186563042994240857116359379907606001950938285454250989 + 1 := by
    unfold wval; omega
  have e2 : 0 ≤ s 3 / 1152921504606846976 ∧ s 3 / 1152921504606846976 ≤ 15 := by omega
  obtain ⟨h, h'⟩ := lsT_ok (n := s 3 / 1152921504606846976) (s := s) (t := qw) (by omega) hs qw_W4 (by rw [qw_val]; simp only [QQ]; omega) (by rw [qw_val]; simp only [QQ]; omega)
  refine ⟨h, ?_⟩
  show wval (lsT _ _ _) = _
  rw [h', qw_val]
  generalize s 3 / 1152921504606846976 = n at *
  generalize wval s = x at *
  clear h h' hs
  simp only [QQ]
  split <;> omega

/-- What 16 Q has above 2^256. -/
def q16 : Nat → Int
  | 0 => 9306180268226068176
  | 1 => 5615880889498717541
  | 2 => 1
  | _ => 0
theorem q16_val : wval q16 = 16 * QQ - 115792089237316195423570985008687907853269984665640564039457584007913129639936 := by decide
theorem q16_W4 : W4 q16 := by unfold W4; decide
/-- What the words above the lowest four count. -/
def fw : Nat → Nat → Int
  | 0, 0 => 0xd6ec31748d98951d
  | 0, 1 => 0xc6ef5bf4737dcf70
  | 0, 2 => 0xfffffffffffffffe
  | 0, 3 => 0x0fffffffffffffff
  | 1, 0 => 0x5812631a5cf5d3ed
  | 1, 1 => 0x93b8c838d39a5e06
  | 1, 2 => 0xb2106215d086329a
  | 1, 3 => 0x0ffffffffffffffe
  | 2, 0 => 0x39822129a02a6271
  | 2, 1 => 0xb64a7f435e4fdd95
  | 2, 2 => 0x7ed9ce5a30a2c131
  | 2, 3 => 0x02106215d086329a
  | 3, 0 => 0x79daf520a00acb65
  | 3, 1 => 0xe24babbe38d1d7a9
  | 3, 2 => 0xb399411b7c309a3d
  | 3, 3 => 0x0ed9ce5a30a2c131
  | _, _ => 0
theorem fw_W4 (i : Nat) (hi : i < 4) : W4 (fw i) := by
  obtain rfl | rfl | rfl | rfl : i = 0 ∨ i = 1 ∨ i = 2 ∨ i = 3 := by omega
  all_goals unfold W4; decide
theorem fw_val (i : Nat) (hi : i < 4) : wval (fw i) < 7237005577332262213973186563042994240857116359379907606001950938285454250989 ∧ (18446744073709551616 ^ (4 + i) - wval (fw i)) % QQ = 0 := by
  obtain rfl | rfl | rfl | rfl : i = 0 ∨ i = 1 ∨ i = 2 ∨ i = 3 := by omega
  all_goals decide
/-- The words behind i folds. -/
def fd (D : Nat → Int) : Nat → Nat → Int
  | 0, j => if j < 4 then D j else 0
  | i + 1, j => adT 0 (D (4 + i)) (fw i) (fd D i) j
theorem fd_step {D : Nat → Int} (hD : W8 D) (i : Nat) (hi : i < 4) (h : W8 (fd D i) ∧ fd D i 5 = 0 ∧ fd D i 6 = 0 ∧ fd D i 7 = 0) (hv : dval (fd D i) + D (4 + i) * wval (fw i) < 2135987035920910082395021706169552114602704522356652769947041607822219725780640550022962086936576) :
    fd D i 4 + ac (D (4 + i)) (fw i) (fun j => fd D i (0 + j)) 4 < 18446744073709551616 ∧ W8 (fd D (i + 1)) ∧ fd D (i + 1) 5 = 0 ∧ fd D (i + 1) 6 = 0 ∧ fd D (i + 1) 7 = 0 ∧ dval (fd D (i + 1)) = dval (fd D i) + D (4 + i) * wval (fw i) := by
  obtain ⟨h1, h5, h6, h7⟩ := h
  have hn := hD (4 + i) (by omega)
  have hS := ac_sum (D (4 + i)) (fw i) (fun j => fd D i (0 + j))
  have ho : fd D i (0 + 4) + ac (D (4 + i)) (fw i) (fun j => fd D i (0 + j)) 4 < 18446744073709551616 := by
    have e : wval (fun j => fd D i (0 + j)) = wval (fd D i) := by unfold wval; simp
    rw [e] at hS
    unfold dval at hv
    rw [h5, h6, h7] at hv
    simp only [Nat.zero_add] at hS hv ⊢
    generalize D (4 + i) * wval (fw i) = M at *
    generalize wval (fd D i) = v at *
    omega
  obtain ⟨a, b⟩ := adT_ok (p := 0) (by omega) hn (fw_W4 i hi) h1 ho
  rw [Int.pow_zero, Int.mul_one] at b
  refine ⟨by simpa using ho, a, ?_, ?_, ?_, b⟩
  · show adT 0 _ _ _ 5 = 0
    simp [adT, at8, h5]
  · show adT 0 _ _ _ 6 = 0
    simp [adT, at8, h6]
  · show adT 0 _ _ _ 7 = 0
    simp [adT, at8, h7]
theorem fd_zero {D : Nat → Int} (hD : W8 D) : W8 (fd D 0) ∧ fd D 0 5 = 0 ∧ fd D 0 6 = 0 ∧ fd D 0 7 = 0 ∧ dval (fd D 0) = wval D := by
  refine ⟨fun j hj => ?_, rfl, rfl, rfl, ?_⟩
  · rw [fd]
    split
    · exact hD j hj
    · omega
  · simp [dval, wval, fd]
theorem fd_all {D : Nat → Int} (hD : W8 D) : (∀ i, i < 4 → fd D i 4 + ac (D (4 + i)) (fw i) (fun j => fd D i (0 + j)) 4 < 18446744073709551616) ∧ (∀ i, i ≤ 4 → W8 (fd D i)) ∧ fd D 4 5 = 0 ∧ fd D 4 6 = 0 ∧ fd D 4 7 = 0 ∧
    dval (fd D 4) = wval D + D 4 * wval (fw 0) + D 5 * wval (fw 1) + D 6 * wval (fw 2) + D 7 * wval (fw 3) := by
  obtain ⟨a1, a2, a3, a4, a5⟩ := fd_zero hD
  have d4 := hD (4 + 0) (by omega); have d5 := hD (4 + 1) (by omega); have d6 := hD (4 + 2) (by omega); have d7 := hD (4 + 3) (by omega)
  have v0 : wval (fw 0) = 7237005577332262213973186563042994240413239274941949949428319933631315875101 := by decide
  have v1 : wval (fw 1) = 7237005577332262205785099586231624600664197829225752203328093420762508415981 := by decide
  have v2 : wval (fw 2) = 933572209464014797850993495837617212577308338482798680094955262100143497841 := by decide
  have v3 : wval (fw 3) = 6717209884487221122130433782546922659424526032998609012467404696761183947621 := by decide
  have b := W4.bd (u := D) (fun j hj => hD j (by omega))
  obtain ⟨o1, b1, b2, b3, b4, b5⟩ := fd_step hD 0 (by omega) ⟨a1, a2, a3, a4⟩ (by rw [a5, v0]; omega)
  obtain ⟨o2, c1, c2, c3, c4, c5⟩ := fd_step hD 1 (by omega) ⟨b1, b2, b3, b4⟩ (by rw [b5, a5, v1, v0]; omega)
  obtain ⟨o3, e1, e2, e3, e4, e5⟩ := fd_step hD 2 (by omega) ⟨c1, c2, c3, c4⟩ (by rw [c5, b5, a5, v2, v1, v0]; omega)
  obtain ⟨o4, f1, f2, f3, f4, f5⟩ := fd_step hD 3 (by omega) ⟨e1, e2, e3, e4⟩ (by rw [e5, c5, b5, a5, v3, v2, v1, v0]; omega)
  refine ⟨fun i hi => ?_, fun i hi => ?_, f2, f3, f4, by rw [f5, e5, c5, b5, a5]⟩
  · obtain rfl | rfl | rfl | rfl : i = 0 ∨ i = 1 ∨ i = 2 ∨ i = 3 := by omega
    all_goals assumption
  · obtain rfl | rfl | rfl | rfl | rfl : i = 0 ∨ i = 1 ∨ i = 2 ∨ i = 3 ∨ i = 4 := by omega
    all_goals assumption
/-- What the reduction of eight words answers. -/
def rdD (D : Nat → Int) : Nat → Int := rdS (lsT (fd D 4 4) (fd D 4) q16)
theorem lsT_fd {D : Nat → Int} (hD : W8 D) : W4 (lsT (fd D 4 4) (fd D 4) q16) ∧ wval (lsT (fd D 4 4) (fd D 4) q16) % QQ = dval D % QQ := by
  obtain ⟨_, h1, h5, h6, h7, h⟩ := fd_all hD
  have d4 := hD 4 (by omega); have d5 := hD 5 (by omega); have d6 := hD 6 (by omega); have d7 := hD 7 (by omega)
  have v0 : wval (fw 0) = 7237005577332262213973186563042994240413239274941949949428319933631315875101 := by decide
  have v1 : wval (fw 1) = 7237005577332262205785099586231624600664197829225752203328093420762508415981 := by decide
  have v2 : wval (fw 2) = 933572209464014797850993495837617212577308338482798680094955262100143497841 := by decide
  have v3 : wval (fw 3) = 6717209884487221122130433782546922659424526032998609012467404696761183947621 := by decide
  have b := W4.bd (u := D) (fun j hj => hD j (by omega))
  have w8 := h1 4 (by omega)
  have w4 : W4 (fd D 4) := fun j hj => w8 j (by omega)
  have bb := w4.bd
  have n4 := w8 4 (by omega)
  rw [v0, v1, v2, v3] at h
  have e : dval (fd D 4) = wval (fd D 4) + fd D 4 4 * 115792089237316195423570985008687907853269984665640564039457584007913129639936 := by
    unfold dval
    rw [h5, h6, h7]
    omega
  rw [e] at h
  obtain ⟨r1, r2⟩ := lsT_ok (n := fd D 4 4) (s := fd D 4) (t := q16) n4 w4 q16_W4 (by rw [q16_val]; simp only [QQ]; omega) (by rw [q16_val]; simp only [QQ]; omega)
  refine ⟨r1, ?_⟩
  rw [r2, q16_val]
  have ed : dval D = wval D + (D 4 + D 5 * 18446744073709551616 + D 6 * 340282366920938463463374607431768211456 + D 7 * 6277101735386680763835789423207666416102355444464034512896) * 115792089237316195423570985008687907853269984665640564039457584007913129639936 := rfl
  rw [ed]
  generalize wval (fd D 4) = x at *
  generalize fd D 4 4 = n at *
  generalize wval D = y at *
  simp only [QQ]
  clear r1 r2 ed e w4 w8 h1 hD
  split <;> omega
theorem rdD_ok {D : Nat → Int} (hD : W8 D) : W4 (rdD D) ∧ wval (rdD D) = dval D % QQ := by
  obtain ⟨h1, h2⟩ := lsT_fd hD
  obtain ⟨h3, h4⟩ := rdS_ok h1
  exact ⟨h3, by rw [← h2]; exact h4⟩

/-! ### a product and a sum -/
/-- The words behind i of four products. -/
def ma (s t u : Nat → Int) : Nat → Nat → Int
  | 0, j => if j < 4 then u j else 0
  | i + 1, j => adT i (s i) t (ma s t u i) j
theorem ma_all {s t u : Nat → Int} (hs : W4 s) (ht : W4 t) (hu : W4 u) : (∀ i, i < 4 → ma s t u i (i + 4) + ac (s i) t (fun j => ma s t u i (i + j)) 4 < 18446744073709551616) ∧ (∀ i, i ≤ 4 → W8 (ma s t u i)) ∧ dval (ma s t u 4) = wval s * wval t + wval u := by
  have key : ∀ i, i ≤ 4 → W8 (ma s t u i) ∧ (∀ j, i + 4 ≤ j → ma s t u i j = 0) := by
    intro i
    induction i with
    | zero =>
      intro _
      refine ⟨fun j hj => ?_, fun j hj => ?_⟩
      · rw [ma]
        split
        · exact hu j (by omega)
        · omega
      · rw [ma, if_neg (by omega)]
    | succ i ih =>
      intro hi
      obtain ⟨k1, k2⟩ := ih (by omega)
      have hb := ac_bd (d := fun j => ma s t u i (i + j)) (hs i (by omega)) ht 4 (by omega) (fun j hj => k1 (i + j) (by omega))
      refine ⟨(adT_ok (by omega) (hs i (by omega)) ht k1 (by rw [k2 (i + 4) (by omega)]; omega)).1, fun j hj => ?_⟩
      show adT i _ _ _ j = 0
      unfold adT at8
      rw [if_neg (by omega), if_neg (by omega), k2 j (by omega)]
  have ho : ∀ i, i < 4 → ma s t u i (i + 4) + ac (s i) t (fun j => ma s t u i (i + j)) 4 < 18446744073709551616 := by
    intro i hi
    obtain ⟨k1, k2⟩ := key i (by omega)
    have hb := ac_bd (d := fun j => ma s t u i (i + j)) (hs i (by omega)) ht 4 (by omega) (fun j hj => k1 (i + j) (by omega))
    rw [k2 (i + 4) (by omega)]
    omega
  refine ⟨ho, fun i hi => (key i hi).1, ?_⟩
  have st : ∀ i, i < 4 → dval (ma s t u (i + 1)) = dval (ma s t u i) + s i * wval t * 18446744073709551616 ^ i := fun i hi => (adT_ok (by omega) (hs i (by omega)) ht (key i (by omega)).1 (ho i hi)).2
  have z : dval (ma s t u 0) = wval u := by simp [dval, wval, ma]
  rw [st 3 (by omega), st 2 (by omega), st 1 (by omega), st 0 (by omega), z]
  generalize wval t = T
  simp only [wval]
  grind

/-! ### bytes -/
theorem wv_dval (a : Nat → Int) : ∀ i, i ≤ 64 → dval (wv a i) = lsum a i
  | 0, _ => by simp [dval, wval, wv, lsum]
  | i + 1, hi => by
    have ih := wv_dval a i (by omega)
    have hp : (256 : Int) ^ i = 256 ^ (8 * (i / 8)) * 256 ^ (i % 8) := by
      rw [← Int.pow_add, show 8 * (i / 8) + i % 8 = i by omega]
    rw [lsum, ← ih, hp]
    unfold dval wval
    simp only [wv]
    generalize 256 ^ (i % 8) = q
    rcases (show i / 8 = 0 ∨ i / 8 = 1 ∨ i / 8 = 2 ∨ i / 8 = 3 ∨ i / 8 = 4 ∨ i / 8 = 5 ∨ i / 8 = 6 ∨ i / 8 = 7 by omega) with e | e | e | e | e | e | e | e
    all_goals
      rw [e]
      simp
      try grind
end Go.Proofs.YthapcapiiknjdaaDoor

/-
  The model's small functions of chapter 3: a shift by whole bytes, a number told in decimals, the order.
-/
namespace Go.Proofs.YthapcapiiknjdaaDoor
set_option maxRecDepth 100000
open Go.RowKit

set_option maxHeartbeats 400000 in
theorem l1Copy_own (w : World) (g : Nat) (ad : Addr) (cap : Nat) (xs : List Int) (hr : Rd w g (some ad) .u8 xs) (hn : xs.length ≤ 1048576) (h0 : 0 < xs.length) :
    Calls Tryd.prog 63 #[.slice (some ad) xs.length cap] w fun e w' => ∃ v, e = .returned v ∧ v ≠ .slice none 0 0 ∧ w'.ownsRow w.heap.size 5 1 v xs.length (xs.map (Value.int .u8)) ∧ Below w.heap.size w w' := by
  obtain ⟨i0, hi, hz0, hz1, hz2⟩ := info_parts Tryd.info5
  have hown : (w.alloc (.cells #[] 5)).ownsRow w.heap.size 5 1 (.slice (some ⟨w.heap.size, 0, none⟩) 0 0) 0 [] := World.ownsRow_lit w #[] 0 (Nat.le_refl _) (by unfold maxLen; omega) (by simp)
  have hal : Below w.heap.size w (w.alloc (.cells #[] 5)) := (Below.refl _ _).alloc (Nat.le_refl _) _
  have hcell : ∀ j u, (xs.map (Value.int .u8))[j]? = some u → (w.alloc (.cells #[] 5)).cell? (ad.add j) = some u := by
    intro j u hj
    have hjl : j < xs.length := by
      have := (List.getElem?_eq_some_iff.1 hj).1
      simpa using this
    obtain ⟨off, ha, hcc⟩ := (hr.up hal) (by omega)
    simp only [Option.some.injEq] at ha
    subst ha
    rw [Addr.add_mid, hcc j hjl]
    simpa [hjl] using hj
  have hone : ∀ u ∈ xs.map (Value.int .u8), u.oneCell' = true := oneCells _ _
  go_enter Tryd.func63, Tryd.ntmps63
  go_wp2_with (at_builtin; refine wpList_append_own _ rfl _ _ 22 rfl w.heap.size 5 i0 (.int .u8 0) 1 1 Tryd.underlying22 hi hz0 hz1 hz2 rfl (by decide) (.slice (some ⟨w.heap.size, 0, none⟩) 0 0) 0 [] rfl hown ad xs.length cap (xs.map (Value.int .u8)) rfl (by simp) hcell hone (by unfold maxLen; omega) (by omega) (by simp) ?_; intro v' w1 hown' hgrow hnil)
  simp only [Nat.zero_add, List.nil_append] at hown'
  have hB : Below w.heap.size w w1 := hal.grown hgrow (by simp) (by intro k hk; simp [Value.ownBlock] at hk; omega)
  have hv : v' ≠ .slice none 0 0 := fun h => by have := (hnil.1 h).1; simp at this
  clear hgrow hown hnil
  go_wp2
  go_ret
  exact ⟨_, rfl, hv, hown', hB⟩

theorem bval_zeros (xs : List Int) : ∀ m, bval (xs ++ List.replicate m 0) = bval xs * 256 ^ m
  | 0 => by simp
  | m + 1 => by
    rw [List.replicate_succ', ← List.append_assoc, bval_snoc, bval_zeros xs m, Int.pow_succ, Int.mul_assoc]
    omega
theorem byt_addz {xs : List Int} (h : Byt xs) (m : Nat) : Byt (xs ++ List.replicate m 0) := by
  intro i
  by_cases e : i < xs.length
  · have := h i
    simpa [List.getElem?_append, e] using this
  · rw [List.getD_eq_getElem?_getD, List.getElem?_append, if_neg e, List.getElem?_replicate]
    split <;> simp

set_option maxHeartbeats 1000000 in
theorem l1Shift252_any (w : World) (g : Nat) (ad : Addr) (c : Nat) (xs : List Int) (ha : Rd w g (some ad) .u8 xs) (hb : Byt xs) (hl : xs.length ≤ 64) (h0 : 0 < xs.length) :
    Calls Tryd.prog 124 #[.slice (some ad) xs.length c, .int .i64 252] w fun e w' => ∃ ys, Canon ys (bval xs * 7237005577332262213973186563042994240829374041602535252466099000494570602496) ∧ NewRow w.heap.size w' e .u8 ys ∧ Below w.heap.size w w' := by
  obtain ⟨i0, hi, hz0, hz1, hz2⟩ := info_parts Tryd.info5
  go_enter Tryd.func124, Tryd.ntmps124
  go_wp2_with fail
  refine (l1Copy_own w g ad c xs ha (by omega) h0).mono ?_
  rintro e w1 ⟨v, rfl, hv, o1, n1⟩
  obtain ⟨v', w2, hap, o2, hgr, hv'⟩ := append_zeros_own (P := Tryd.prog) w1 22 3 22 5 i0 .i64 .i64 Tryd.underlying22 Tryd.underlying3 hi hz0 hz1 hz2 w.heap.size v xs.length _ o1 hv 31 (by omega) (by omega) n1.size
  have n2 : Below w.heap.size w w2 := n1.grown hgr (n1.size) (fun i hi => (o1.lt i hi).1)
  have o2' : w2.ownsRow w.heap.size 5 1 v' (xs ++ List.replicate 31 0).length ((xs ++ List.replicate 31 0).map (Value.int .u8)) := by simpa using o2
  obtain ⟨a3, c3, g3, rfl, o3, p3, q3, r3⟩ := Own.of_ownsRow o2'
  have V := hide (bval_zeros xs 31)
  have Z := byt_addz hb 31
  have L : (xs ++ List.replicate 31 (0 : Int)).length ≤ 128 := by simp; omega
  generalize xs ++ List.replicate 31 (0 : Int) = zs at *
  clear o1 o2 o2' hgr hv hv'
  go_wp2_with (at_builtin; refine Lib.wpList_append_run _ rfl _ _ 22 3 rfl _ _ rfl rfl _ _ hap ?_)
  have n3 : Below w2.heap.size w2 (w2.alloc (.cells #[.int .u8 16] 5)) := (Below.refl _ _).alloc (Nat.le_refl _) _
  have B2 : Blk (w2.alloc (.cells #[.int .u8 16] 5)) w2.heap.size .u8 [16] := ⟨5, by rw [heap_alloc_last]; rfl⟩
  generalize w2.alloc (.cells #[.int .u8 16] 5) = w4 at *
  have hb2 : Byt [16] := fun i => by
    match i with
    | 0 => decide
    | i + 1 => simp
  refine (l1Mul_any w4 g3 _ _ _ c3 1 zs [16] (o3.up n3).rd B2.own0.rd Z hb2 (by omega) (by decide)).mono ?_
  rintro e w5 ⟨ys, C, ⟨a5, c5, g5, rfl, o5, p5, q5, r5⟩, n5⟩
  have N5 := nxt (nxt n2 n3) n5
  have z := (nxt n2 n3).size
  have C' : Canon ys (bval xs * 7237005577332262213973186563042994240829374041602535252466099000494570602496) := by
    rw [V.out] at C
    have e1 : bval [16] = 16 := by decide
    have e2 : (256 : Int) ^ 31 * 16 = 7237005577332262213973186563042994240829374041602535252466099000494570602496 := by decide
    rw [e1, Int.mul_assoc, e2] at C
    exact C
  clear hap C
  go_wp2
  go_ret
  exact ⟨ys, C', ⟨a5, c5, g5, rfl, o5, p5, q5, by omega⟩, N5⟩

/-- The digits that the model tells the order's lower part by. -/
def qdec : List Int := [2, 7, 7, 4, 2, 3, 1, 7, 7, 7, 7, 3, 7, 2, 3, 5, 3, 5, 3, 5, 8, 5, 1, 9, 3, 7, 7, 9, 0, 8, 8, 3, 6, 4, 8, 4, 9, 3]
def dec (ds : List Int) (k : Nat) : Int := (ds.take k).foldl (fun v d => v * 10 + d) 0
theorem byt_one {d : Int} (h0 : 0 ≤ d) (h1 : d < 256) : Byt [d] := fun i => by
  match i with
  | 0 => exact ⟨h0, h1⟩
  | i + 1 => simp
theorem upb {w w' : World} (n : Below w.heap.size w w') {g : Nat} {k : IntKind} {ys : List Int} (h : Blk w g k ys) : Blk w' g k ys := h.up n
theorem one_a (W : World) (d : Int) : Blk (W.alloc (.cells #[.int .u8 d] 5)) W.heap.size .u8 [d] := ⟨5, by rw [heap_alloc_last]; rfl⟩
theorem one_b (W : World) (d : Int) (o : Obj) : Blk ((W.alloc (.cells #[.int .u8 d] 5)).alloc o) W.heap.size .u8 [d] := (one_a W d).up ((Below.refl _ _).alloc (Nat.le_refl _) _)
theorem one_c (W : World) (d : Int) (o : Obj) : Blk ((W.alloc o).alloc (.cells #[.int .u8 d] 5)) (W.heap.size + 1) .u8 [d] := by
  have h := one_a (W.alloc o) d
  simpa using h
theorem dec_step (ds : List Int) (k : Nat) (h : k < ds.length) : dec ds (k + 1) = dec ds k * 10 + ds.getD k 0 := by
  unfold dec
  rw [List.take_succ_eq_append_getElem h, List.foldl_append]
  simp [h]
theorem qdec_dig : ∀ k, k < 38 → 0 ≤ qdec.getD k 0 ∧ qdec.getD k 0 ≤ 9 := by decide
theorem dec_bd : ∀ k, k ≤ 38 → 0 ≤ dec qdec k ∧ dec qdec k < 256 ^ 16 := by decide +kernel
theorem dec10_lt (k : Nat) (hk : k ≤ 38) : dec qdec k * 10 < 256 ^ 64 := by
  have h := dec_bd k hk
  have e : (256 : Int) ^ 16 * 10 < 256 ^ 64 := by decide
  omega
theorem qdec_all : dec qdec 38 = 27742317777372353535851937790883648493 := by decide +kernel
/-- A text of digits. -/
def Txt (t : ByteArray) (ds : List Int) : Prop := t.size = ds.length ∧ ∀ k, k < ds.length → ∃ b : UInt8, t[k]? = some b ∧ (b.toNat : Int) = ds.getD k 0 + 48

end Go.Proofs.YthapcapiiknjdaaDoor

/-
  The even root modulo the prime, as the program and as the model seek it: numbers alone.
-/
namespace Go.Proofs.YthapcapiiknjdaaDoor
set_option maxRecDepth 100000

/-- (P + 3) / 8, and the power of 2 whose square is P - 1. -/
def eRt : Nat := 7237005577332262213973186563042994240829374041602535252466099000494570602494
abbrev iM : Int := 19681161376707505956807079304988542015446066515923890162744021073123829784752
theorem iM_sq : iM * iM % PP = PP - 1 := by decide +kernel
theorem turn_sq (r : Int) : (r * iM % PP) * (r * iM % PP) % PP = (0 - r * r) % PP := by
  rw [← Int.mul_emod]
  have e : r * iM * (r * iM) = r * r * (iM * iM) := by grind
  rw [e]
  generalize r * r = s
  have h : iM * iM = PP * (iM * iM / PP) + (PP - 1) := by rw [← iM_sq]; exact (Int.mul_ediv_add_emod _ _).symm
  rw [h]
  generalize iM * iM / PP = q
  have e2 : s * (PP * q + (PP - 1)) = (0 - s) + PP * (s * q + s) := by grind
  rw [e2, Int.add_mul_emod_self_left]
def rtR (A : Int) : Int := A ^ eRt % PP
def r1I (A : Int) : Int := if rtR A * rtR A % PP = (0 - A) % PP then rtR A * iM % PP else rtR A
def r1S (A : Int) : Int := if rtR A * rtR A % PP = A then rtR A else rtR A * iM % PP
theorem rtR_zero : rtR 0 = 0 := by
  unfold rtR
  rw [Int.zero_pow (by decide)]
  rfl
theorem neg_modP (x s : Int) (h : x % PP = s) : (0 - x) % PP = (0 - s) % PP := by
  rw [← h, Int.zero_sub, Int.zero_sub]
  have := Int.mul_ediv_add_emod x PP
  have e : -x = -(x % PP) + PP * (-(x / PP)) := by
    generalize x / PP = q at *
    generalize x % PP = t at *
    subst this
    grind
  rw [e, Int.add_mul_emod_self_left]
theorem not1 {A s : Int} (h0 : 0 ≤ A) (h1 : A < PP) (hA : ¬ A = 0) (c : s = A) : ¬ s = (0 - A) % PP := by
  subst c
  have e : (0 - s) % PP = PP - s := by
    rw [show 0 - s = (PP - s) + PP * (-1) by generalize PP = P; omega, Int.add_mul_emod_self_left]
    exact Int.emod_eq_of_lt (by generalize PP = P at *; omega) (by generalize PP = P at *; omega)
  rw [e]
  intro h
  have h2 : s + s = PP := by generalize PP = P at *; omega
  have h3 : (s + s) % 2 = 0 := by omega
  rw [h2] at h3
  exact absurd h3 (by decide)
theorem not2 {A s : Int} (h1 : A < PP) (s0 : 0 ≤ s) (s1 : s < PP) (c : ¬ s = (0 - A) % PP) : ¬ (0 - s) % PP = A := by
  have h2 : A < 57896044618658097711785492504343953926634992332820282019728792003956564819949 := h1
  have h3 : s < 57896044618658097711785492504343953926634992332820282019728792003956564819949 := s1
  have h4 : ¬ s = (0 - A) % 57896044618658097711785492504343953926634992332820282019728792003956564819949 := c
  show ¬ (0 - s) % 57896044618658097711785492504343953926634992332820282019728792003956564819949 = A
  omega
theorem same_root {A : Int} (h0 : 0 ≤ A) (h1 : A < PP) : (r1I A * r1I A % PP = A ↔ r1S A * r1S A % PP = A) ∧ (r1S A * r1S A % PP = A → r1I A = r1S A) := by
  unfold r1I r1S
  have ht := turn_sq (rtR A)
  have hz : A = 0 → rtR A = 0 := fun h => by rw [h]; exact rtR_zero
  generalize rtR A = r at *
  obtain ⟨s, hs⟩ : ∃ s, r * r % PP = s := ⟨_, rfl⟩
  have hs0 : 0 ≤ s ∧ s < PP := by rw [← hs]; exact ⟨Int.emod_nonneg _ (by decide), Int.emod_lt_of_pos _ (by decide)⟩
  rw [neg_modP _ _ hs] at ht
  rw [hs]
  by_cases hA : A = 0
  · have hr := hz hA
    subst hr
    have e1 : (0 : Int) * iM % PP = 0 := by rw [Int.zero_mul]; rfl
    have e2 : (0 : Int) * 0 % PP = 0 := rfl
    have es : s = 0 := by rw [← hs]; rfl
    have ea : (0 - A) % PP = 0 := by rw [hA]; rfl
    rw [es, ea, hA, if_pos rfl, if_pos rfl, e1]
    exact ⟨Iff.rfl, fun _ => rfl⟩
  · by_cases c1 : s = A
    · rw [if_pos c1, if_neg (not1 h0 h1 hA c1), hs]
      exact ⟨Iff.rfl, fun _ => rfl⟩
    · rw [if_neg c1, ht]
      by_cases c2 : s = (0 - A) % PP
      · rw [if_pos c2, ht]
        exact ⟨Iff.rfl, fun _ => rfl⟩
      · rw [if_neg c2, hs]
        have n2 : ¬ ((0 - s) % PP = A) := not2 h1 hs0.1 hs0.2 c2
        exact ⟨⟨fun h => absurd h c1, fun h => absurd h n2⟩, fun h => absurd h n2⟩
theorem rtR_bd (A : Int) : 0 ≤ rtR A ∧ rtR A < PP := by
  unfold rtR
  generalize A ^ eRt = x
  exact ⟨Int.emod_nonneg _ (by decide), Int.emod_lt_of_pos _ (by decide)⟩
theorem r1I_bd (A : Int) : 0 ≤ r1I A ∧ r1I A < PP := by
  unfold r1I
  split
  · generalize rtR A * iM = x
    exact ⟨Int.emod_nonneg _ (by decide), Int.emod_lt_of_pos _ (by decide)⟩
  · exact rtR_bd A
theorem r1S_bd (A : Int) : 0 ≤ r1S A ∧ r1S A < PP := by
  unfold r1S
  split
  · exact rtR_bd A
  · generalize rtR A * iM = x
    exact ⟨Int.emod_nonneg _ (by decide), Int.emod_lt_of_pos _ (by decide)⟩
/-- The even one of a root and its negative. -/
def fin2 (r : Int) : Int := if r % 2 = 0 then r else (0 - r) % PP
end Go.Proofs.YthapcapiiknjdaaDoor
