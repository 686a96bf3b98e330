import Derived.Test.YthapcapiiknjdaaDoorGP16
import Derived.Test.YthapcapiiknjdaaDoorGP4
import Derived.Test.YthapcapiiknjdaaDoorGP12
import Derived.Test.YthapcapiiknjdaaDoorGP20

/-
  Squares modulo P: which numbers have a root. Numbers alone.
-/
namespace Go.Proofs.YthapcapiiknjdaaDoor
set_option maxRecDepth 100000

def eQ : Nat := 14474011154664524427946373126085988481658748083205070504932198000989141204987
def eH : Nat := 28948022309329048855892746252171976963317496166410141009864396001978282409974
theorem PP_nat : (PP : Int) = ((P25519 : Nat) : Int) := rfl
theorem pwm (x : Int) : ∀ e : Nat, (x % PP) ^ e % PP = x ^ e % PP
  | 0 => by rw [Int.pow_zero, Int.pow_zero]
  | e + 1 => by
    rw [Int.pow_succ, Int.pow_succ, Int.mul_emod, pwm x e, Int.emod_emod_of_dvd _ (Int.dvd_refl _), ← Int.mul_emod]
/-- A product that is 0 has a factor that is. -/
theorem PP_mul {x y : Int} (h : x * y % PP = 0) : x % PP = 0 ∨ y % PP = 0 := by
  have hd : (PP : Int) ∣ x * y := Int.dvd_of_emod_eq_zero h
  have h2 : P25519 ∣ x.natAbs * y.natAbs := by
    have := Int.natAbs_dvd_natAbs.mpr hd
    rwa [Int.natAbs_mul] at this
  rcases prm_P.mul h2 with k | k
  · exact .inl (Int.emod_eq_zero_of_dvd (Int.natAbs_dvd_natAbs.mp (by exact k)))
  · exact .inr (Int.emod_eq_zero_of_dvd (Int.natAbs_dvd_natAbs.mp (by exact k)))
theorem PP_fermat {x : Int} (h0 : 0 < x) (h1 : x < PP) : x ^ (2 * eH) % PP = 1 := by
  obtain ⟨n, rfl⟩ := Int.eq_ofNat_of_zero_le (show 0 ≤ x by omega)
  have hn : ¬ P25519 ∣ n := fun hd => by
    have h := Nat.le_of_dvd (by omega) hd
    have := PP_nat
    omega
  have f := prm_P.fermat hn
  have e : P25519 - 1 = 2 * eH := by decide +kernel
  rw [e] at f
  rw [PP_nat, ← Int.natCast_pow, ← Int.natCast_emod, f]
  rfl
/-- The roots of one are one and minus one. -/
theorem one_roots {y : Int} (h0 : 0 ≤ y) (h1 : y < PP) (h : y * y % PP = 1) : y = 1 ∨ y = PP - 1 := by
  have e : (y - 1) * (y + 1) = y * y - 1 := by grind
  have z : (y - 1) * (y + 1) % PP = 0 := by
    rw [e, Int.sub_emod, h]
    decide
  have hP : (PP : Int) = 57896044618658097711785492504343953926634992332820282019728792003956564819949 := rfl
  rcases PP_mul z with k | k
  · left
    clear h z e
    rw [hP] at h1 k
    omega
  · right
    clear h z e
    rw [hP] at h1 k ⊢
    omega
theorem half_one {x : Int} (h0 : 0 < x) (h1 : x < PP) : x ^ eH % PP = 1 ∨ x ^ eH % PP = PP - 1 := by
  refine one_roots (Int.emod_nonneg _ (by decide)) (Int.emod_lt_of_pos _ (by decide)) ?_
  rw [pow_sq]
  exact PP_fermat h0 h1
theorem rt_sq (A : Int) : rtR A * rtR A % PP = (A ^ eQ % PP) * A % PP := by
  unfold rtR
  rw [pow_sq, show 2 * eRt = eQ + 1 by decide +kernel, Int.pow_succ, Int.mul_emod, Int.mul_emod (A ^ eQ % PP) A, Int.emod_emod]
theorem neg_neg_P {A : Int} (h0 : 0 ≤ A) (h1 : A < PP) : (0 - (0 - A) % PP) % PP = A := by
  have hP : (PP : Int) = 57896044618658097711785492504343953926634992332820282019728792003956564819949 := rfl
  rw [hP] at h1 ⊢
  omega
theorem neg_mul_P (A : Int) : (PP - 1) * A = PP * A + (0 - A) := by
  generalize PP = p
  rw [Int.sub_mul, Int.one_mul]
  omega
theorem has_of {A : Int} (h0 : 0 < A) (h1 : A < PP) (h : A ^ eH % PP = 1) : r1I A * r1I A % PP = A := by
  have q : A ^ eQ % PP = 1 ∨ A ^ eQ % PP = PP - 1 := by
    refine one_roots (Int.emod_nonneg _ (by decide)) (Int.emod_lt_of_pos _ (by decide)) ?_
    rw [pow_sq, show 2 * eQ = eH by decide +kernel]
    exact h
  have s := rt_sq A
  rcases q with q | q
  · rw [q, Int.one_mul, Int.emod_eq_of_lt (Int.le_of_lt h0) h1] at s
    refine (same_root (Int.le_of_lt h0) h1).1.mpr ?_
    rw [show r1S A = rtR A by rw [r1S, if_pos s]]
    exact s
  · rw [q, neg_mul_P, Int.mul_add_emod_self_left] at s
    rw [show r1I A = rtR A * iM % PP by rw [r1I, if_pos s], turn_sq, neg_modP _ _ s]
    exact neg_neg_P (Int.le_of_lt h0) h1
theorem pow_of_sq {R : Int} (h0 : 0 < R) (h1 : R < PP) : (R * R % PP) ^ eH % PP = 1 := by
  rw [pwm, show R * R = R ^ 2 by rw [Int.pow_succ, Int.pow_succ, Int.pow_zero, Int.one_mul], ← Int.pow_mul]
  exact PP_fermat h0 h1
theorem of_has {A : Int} (h0 : 0 < A) (h : r1I A * r1I A % PP = A) : A ^ eH % PP = 1 := by
  have b := r1I_bd A
  have r0 : 0 < r1I A := by
    rcases Int.lt_or_eq_of_le b.1 with k | k
    · exact k
    · rw [← k] at h
      rw [Int.zero_mul] at h
      have : (0 : Int) % PP = 0 := by decide
      rw [this] at h
      exact absurd h0 (by rw [← h]; decide)
  have k := pow_of_sq r0 b.2
  rw [h] at k
  exact k
/-- A square has a root. -/
theorem sq_has {x : Int} (h0 : 0 ≤ x) (h1 : x < PP) : r1I (x * x % PP) * r1I (x * x % PP) % PP = x * x % PP := by
  by_cases hx : x = 0
  · subst hx
    rw [Int.mul_zero, show (0 : Int) % PP = 0 by decide]
    have : r1I 0 = 0 := by rw [r1I, rtR_zero]; simp
    rw [this]
    rfl
  · have s0 : 0 ≤ x * x % PP := Int.emod_nonneg _ (by decide)
    have s1 : x * x % PP < PP := Int.emod_lt_of_pos _ (by decide)
    have s2 : ¬ x * x % PP = 0 := fun e => by
      rcases PP_mul e with k | k
      all_goals
        rw [Int.emod_eq_of_lt h0 h1] at k
        exact hx k
    have x0 : 0 < x := by omega
    have y0 : 0 < x * x % PP := by omega
    exact has_of y0 s1 (pow_of_sq x0 h1)
theorem two_half : (2 : Int) ^ eH % PP = PP - 1 := by
  have h : pm P25519 255 2 eH = P25519 - 1 := by decide +kernel
  rw [pm_eq _ _ _ _ (by decide +kernel)] at h
  have h' : (((2 : Nat) ^ eH % P25519 : Nat) : Int) = ((P25519 - 1 : Nat) : Int) := by rw [h]
  rw [Int.natCast_emod, Int.natCast_pow] at h'
  rw [PP_nat]
  exact h'
theorem dbl (A : Int) (e : Nat) (h : (2 : Int) ^ e % PP = PP - 1) : ((A + A) % PP) ^ e % PP = (PP - 1) * (A ^ e % PP) % PP := by
  rw [pwm, ← Int.two_mul, Int.mul_pow, Int.mul_emod, h]
theorem just_gen {P Q : Prop} {u v : Int} (e : v = (PP - 1) * u % PP) (k : u = 1 ∨ u = PP - 1) (O1 : P → u = 1) (H1 : u = 1 → P) (O2 : Q → v = 1) (H2 : v = 1 → Q) : P ↔ ¬ Q := by
  rcases k with rfl | rfl
  · refine ⟨fun _ c => ?_, fun _ => H1 rfl⟩
    exact absurd ((O2 c).symm.trans e) (by decide +kernel)
  · refine ⟨fun c => ?_, fun c => absurd (H2 (e.trans (by decide +kernel))) c⟩
    exact absurd (O1 c) (by decide +kernel)
theorem dbl_ne {A : Int} (h0 : 0 < A) (h1 : A < PP) : ¬ (A + A) % PP = 0 := fun h => by
  rw [← Int.two_mul] at h
  rcases PP_mul h with k | k
  · exact absurd k (by decide +kernel)
  · rw [Int.emod_eq_of_lt (Int.le_of_lt h0) h1] at k
    rw [k] at h0
    exact absurd h0 (by decide)
theorem dbl_pos {A : Int} (h0 : 0 < A) (h1 : A < PP) : 0 < (A + A) % PP := by
  have n := dbl_ne h0 h1
  have d0 : 0 ≤ (A + A) % PP := Int.emod_nonneg _ (by decide)
  generalize (A + A) % PP = D at *
  omega
/-- Of a number and its double just one has a root. -/
theorem just_one {A : Int} (h0 : 0 < A) (h1 : A < PP) : r1I A * r1I A % PP = A ↔ ¬ r1I ((A + A) % PP) * r1I ((A + A) % PP) % PP = (A + A) % PP := by
  have d1 : (A + A) % PP < PP := Int.emod_lt_of_pos _ (by decide)
  have dp := dbl_pos h0 h1
  have e := dbl A eH two_half
  have k := half_one h0 h1
  have O1 := of_has h0
  have H1 := has_of h0 h1
  have O2 := of_has dp
  have H2 := has_of dp d1
  exact just_gen e k O1 H1 O2 H2
/-- The root that is told is even, and its square is the same. -/
theorem neg_P {r : Int} (h0 : 0 < r) (h1 : r < PP) : (0 - r) % PP = PP - r := by
  have e : (0 - r) = (PP - r) + PP * (-1) := by generalize PP = p; omega
  rw [e, Int.add_mul_emod_self_left, Int.emod_eq_of_lt]
  · generalize PP = p at *; omega
  · generalize PP = p at *; omega
theorem fin2_bd {r : Int} (h0 : 0 ≤ r) (h1 : r < PP) : 0 ≤ fin2 r ∧ fin2 r < PP ∧ fin2 r % 2 = 0 := by
  unfold fin2
  split
  · exact ⟨h0, h1, by assumption⟩
  · have hp : PP % 2 = 1 := by decide
    rw [neg_P (by omega) h1]
    generalize PP = p at *
    omega
theorem fin2_sq (r : Int) : fin2 r * fin2 r % PP = r * r % PP := by
  unfold fin2
  split
  · rfl
  · rw [← Int.mul_emod]
    congr 1
    grind
theorem fin2_zero : fin2 (r1I 0) = 0 := by
  have : r1I 0 = 0 := by rw [r1I, rtR_zero]; simp
  rw [this]
  rfl
end Go.Proofs.YthapcapiiknjdaaDoor

/-
  The ladder's numbers: the clamped number and its bits, and that a round more ahead changes nothing.
-/
namespace Go.Proofs.YthapcapiiknjdaaDoor
set_option maxRecDepth 100000

/-! ### the clamped number -/
def clampL (xs : List Int) : List Int := (xs.set 0 (xs.getD 0 0 - xs.getD 0 0 % 8)).set 31 (xs.getD 31 0 % 64 + 64)
theorem clampL_len (xs : List Int) : (clampL xs).length = xs.length := by unfold clampL; simp
theorem clampL_0 {xs : List Int} (hl : xs.length = 32) : (clampL xs).getD 0 0 = xs.getD 0 0 - xs.getD 0 0 % 8 := by
  unfold clampL
  rw [getD_set_ne _ _ _ _ (by omega), getD_set_self _ _ _ (by omega)]
theorem clampL_31 {xs : List Int} (hl : xs.length = 32) : (clampL xs).getD 31 0 = xs.getD 31 0 % 64 + 64 := by
  unfold clampL
  rw [getD_set_self _ _ _ (by rw [List.length_set]; omega)]
theorem clampL_mid {xs : List Int} {j : Nat} (h0 : 0 ≠ j) (h1 : 31 ≠ j) : (clampL xs).getD j 0 = xs.getD j 0 := by
  unfold clampL
  rw [getD_set_ne _ _ _ _ h1, getD_set_ne _ _ _ _ h0]
theorem clampL_byt {xs : List Int} (hb : Byt xs) (hl : xs.length = 32) : Byt (clampL xs) := by
  intro j
  by_cases e0 : 0 = j
  · subst e0
    have := hb 0
    rw [clampL_0 hl]
    omega
  · by_cases e1 : 31 = j
    · subst e1
      have := hb 31
      rw [clampL_31 hl]
      omega
    · rw [clampL_mid e0 e1]
      exact hb j
theorem wv0 (a : Nat → Int) : wv a 32 0 = a 0 + a 1 * 256 + a 2 * 65536 + a 3 * 16777216 + a 4 * 4294967296 + a 5 * 1099511627776 + a 6 * 281474976710656 + a 7 * 72057594037927936 := by
  simp [wv]
theorem wv1 (a : Nat → Int) : wv a 32 1 = a 8 + a 9 * 256 + a 10 * 65536 + a 11 * 16777216 + a 12 * 4294967296 + a 13 * 1099511627776 + a 14 * 281474976710656 + a 15 * 72057594037927936 := by
  simp [wv]
theorem wv2 (a : Nat → Int) : wv a 32 2 = a 16 + a 17 * 256 + a 18 * 65536 + a 19 * 16777216 + a 20 * 4294967296 + a 21 * 1099511627776 + a 22 * 281474976710656 + a 23 * 72057594037927936 := by
  simp [wv]
theorem wv3 (a : Nat → Int) : wv a 32 3 = a 24 + a 25 * 256 + a 26 * 65536 + a 27 * 16777216 + a 28 * 4294967296 + a 29 * 1099511627776 + a 30 * 281474976710656 + a 31 * 72057594037927936 := by
  simp [wv]
theorem clw_is {xs : List Int} (hb : Byt xs) (hl : xs.length = 32) : ∀ j, j < 4 → clw (wv (fun j => xs.getD j 0) 32) j = wv (fun j => (clampL xs).getD j 0) 32 j := by
  intro j hj
  obtain rfl | rfl | rfl | rfl : j = 0 ∨ j = 1 ∨ j = 2 ∨ j = 3 := by omega
  · rw [wv0]
    simp only [clampL_0 hl, clampL_mid (xs := xs) (j := 1) (by omega) (by omega), clampL_mid (xs := xs) (j := 2) (by omega) (by omega), clampL_mid (xs := xs) (j := 3) (by omega) (by omega), clampL_mid (xs := xs) (j := 4) (by omega) (by omega), clampL_mid (xs := xs) (j := 5) (by omega) (by omega), clampL_mid (xs := xs) (j := 6) (by omega) (by omega), clampL_mid (xs := xs) (j := 7) (by omega) (by omega)]
    show wv (fun j => xs.getD j 0) 32 0 - wv (fun j => xs.getD j 0) 32 0 % 8 = _
    rw [wv0]
    omega
  · show wv (fun j => xs.getD j 0) 32 1 = _
    rw [wv1, wv1]
    simp only [clampL_mid (xs := xs) (j := 8) (by omega) (by omega), clampL_mid (xs := xs) (j := 9) (by omega) (by omega), clampL_mid (xs := xs) (j := 10) (by omega) (by omega), clampL_mid (xs := xs) (j := 11) (by omega) (by omega), clampL_mid (xs := xs) (j := 12) (by omega) (by omega), clampL_mid (xs := xs) (j := 13) (by omega) (by omega), clampL_mid (xs := xs) (j := 14) (by omega) (by omega), clampL_mid (xs := xs) (j := 15) (by omega) (by omega)]
  · show wv (fun j => xs.getD j 0) 32 2 = _
    rw [wv2, wv2]
    simp only [clampL_mid (xs := xs) (j := 16) (by omega) (by omega), clampL_mid (xs := xs) (j := 17) (by omega) (by omega), clampL_mid (xs := xs) (j := 18) (by omega) (by omega), clampL_mid (xs := xs) (j := 19) (by omega) (by omega), clampL_mid (xs := xs) (j := 20) (by omega) (by omega), clampL_mid (xs := xs) (j := 21) (by omega) (by omega), clampL_mid (xs := xs) (j := 22) (by omega) (by omega), clampL_mid (xs := xs) (j := 23) (by omega) (by omega)]
  · rw [wv3]
    simp only [clampL_31 hl, clampL_mid (xs := xs) (j := 24) (by omega) (by omega), clampL_mid (xs := xs) (j := 25) (by omega) (by omega), clampL_mid (xs := xs) (j := 26) (by omega) (by omega), clampL_mid (xs := xs) (j := 27) (by omega) (by omega), clampL_mid (xs := xs) (j := 28) (by omega) (by omega), clampL_mid (xs := xs) (j := 29) (by omega) (by omega), clampL_mid (xs := xs) (j := 30) (by omega) (by omega)]
    show wv (fun j => xs.getD j 0) 32 3 % 4611686018427387904 + 4611686018427387904 = _
    rw [wv3]
    have b24 := hb 24
    have b25 := hb 25
    have b26 := hb 26
    have b27 := hb 27
    have b28 := hb 28
    have b29 := hb 29
    have b30 := hb 30
    have b31 := hb 31
    generalize xs.getD 24 0 = x24 at *
    generalize xs.getD 25 0 = x25 at *
    generalize xs.getD 26 0 = x26 at *
    generalize xs.getD 27 0 = x27 at *
    generalize xs.getD 28 0 = x28 at *
    generalize xs.getD 29 0 = x29 at *
    generalize xs.getD 30 0 = x30 at *
    generalize xs.getD 31 0 = x31 at *
    omega
theorem clw_num {xs : List Int} (hb : Byt xs) (hl : xs.length = 32) : wval (clw (wv (fun j => xs.getD j 0) 32)) = num (clampL xs) := by
  have e : wval (clw (wv (fun j => xs.getD j 0) 32)) = wval (wv (fun j => (clampL xs).getD j 0) 32) := by
    unfold wval
    rw [clw_is hb hl 0 (by omega), clw_is hb hl 1 (by omega), clw_is hb hl 2 (by omega), clw_is hb hl 3 (by omega)]
  rw [e, wv_sum _ 32 (by omega)]
  unfold num
  rw [clampL_len, hl]

/-! ### its bits -/
def kbit (K : Int) (n : Nat) : Bool := decide (K / 2 ^ n % 2 = 1)
theorem wbit_k {W : Nat → Int} (hW : W4 W) {n : Nat} (hn : n < 256) : wbit W n = kbit (wval W) n := by
  have h0 := hW 0 (by omega)
  have h1 := hW 1 (by omega)
  have h2 := hW 2 (by omega)
  have h3 := hW 3 (by omega)
  have key : wval W / 2 ^ n % 2 = W (n / 64) / 2 ^ (n % 64) % 2 := by
    rcases (show n / 64 = 0 ∨ n / 64 = 1 ∨ n / 64 = 2 ∨ n / 64 = 3 by omega) with e | e | e | e
    · rw [e]
      exact bit_of (n := 64) (k := 0) (l := 0) (h := W 1 + W 2 * 18446744073709551616 + W 3 * 340282366920938463463374607431768211456) (by omega) (by omega) (by unfold wval; omega) (by omega) (by decide)
    · rw [e]
      exact bit_of (n := 64) (k := 1) (l := W 0) (h := W 2 + W 3 * 18446744073709551616) (by omega) (by omega) (by unfold wval; omega) (by omega) (by simpa using h0.2)
    · rw [e]
      exact bit_of (n := 64) (k := 2) (l := W 0 + W 1 * 18446744073709551616) (h := W 3) (by omega) (by omega) (by unfold wval; omega) (by omega) (by simp only [show (2 : Int) ^ (64 * 2) = 340282366920938463463374607431768211456 from rfl]; omega)
    · rw [e]
      exact bit_of (n := 64) (k := 3) (l := W 0 + W 1 * 18446744073709551616 + W 2 * 340282366920938463463374607431768211456) (h := 0) (by omega) (by omega) (by unfold wval; omega) (by omega) (by simp only [show (2 : Int) ^ (64 * 3) = 6277101735386680763835789423207666416102355444464034512896 from rfl]; omega)
  unfold wbit kbit
  rw [key]
/-- Bit n from the top of thirty-two bytes, the highest first. -/
def sbit (top : List Int) (n : Nat) : Bool := decide (top.getD (n / 8) 0 / 2 ^ (7 - n % 8) % 2 = 1)
theorem sbit_k {top : List Int} (hb : Byt top) (hl : top.length = 32) {n : Nat} (hn : n < 256) : sbit top n = kbit (bval top) (255 - n) := by
  have e := bbit hb (255 - n)
  have e1 : dig top ((255 - n) / 8) = top.getD (n / 8) 0 := by
    unfold dig
    rw [if_pos (by omega), hl, show 32 - 1 - (255 - n) / 8 = n / 8 by omega]
  rw [e1, show (255 - n) % 8 = 7 - n % 8 by omega] at e
  unfold sbit kbit
  rw [e]
theorem clampL_bd {xs : List Int} (hb : Byt xs) (hl : xs.length = 32) : 28948022309329048855892746252171976963317496166410141009864396001978282409984 ≤ num (clampL xs) ∧ num (clampL xs) < 57896044618658097711785492504343953926634992332820282019728792003956564819968 ∧ num (clampL xs) % 8 = 0 := by
  rw [← clw_num hb hl]
  have hW : W4 (wv (fun j => xs.getD j 0) 32) := fun j _ => wv_lt hb 32 j
  have h0 := hW 0 (by omega)
  have h1 := hW 1 (by omega)
  have h2 := hW 2 (by omega)
  have h3 := hW 3 (by omega)
  generalize wv (fun j => xs.getD j 0) 32 = W at *
  have e0 : clw W 0 = W 0 - W 0 % 8 := rfl
  have e1 : clw W 1 = W 1 := rfl
  have e2 : clw W 2 = W 2 := rfl
  have e3 : clw W 3 = W 3 % 4611686018427387904 + 4611686018427387904 := rfl
  unfold wval
  rw [e0, e1, e2, e3]
  omega

/-! ### a round more ahead -/
theorem PP_dvd {x : Int} : PP ∣ x ↔ x % PP = 0 := ⟨Int.emod_eq_zero_of_dvd, Int.dvd_of_emod_eq_zero⟩
theorem pri_PP : Pri PP := by
  refine ⟨fun {x y} h => ?_, by decide, by decide⟩
  have h' : P25519 ∣ x.natAbs * y.natAbs := by
    rw [← Int.natAbs_mul]
    exact Int.ofNat_dvd_left.1 h
  rcases prm_P.mul h' with k | k
  · exact Or.inl (Int.ofNat_dvd_left.2 k)
  · exact Or.inr (Int.ofNat_dvd_left.2 k)
def Two4.scale (l m : Int) (s : Two4) : Two4 := ⟨l * s.a, l * s.b, m * s.c, m * s.d⟩
theorem dU_sc (l u v : Int) : dU (l * u) (l * v) = l ^ 4 * dU u v := by unfold dU; grind
theorem dV_sc (l u v : Int) : dV (l * u) (l * v) = l ^ 4 * dV u v := by unfold dV dW; grind
theorem sU_sc (l m u v u' v' : Int) : sU (l * u) (l * v) (m * u') (m * v') = (l * m) ^ 2 * sU u v u' v' := by unfold sU sY sZ; grind
theorem sV_sc (l m x u v u' v' : Int) : sV x (l * u) (l * v) (m * u') (m * v') = (l * m) ^ 2 * sV x u v u' v' := by unfold sV sY sZ; grind
theorem lrnd_scale (x : Int) (b : Bool) (l m : Int) (s : Two4) : lrnd x b (s.scale l m) = (lrnd x b s).scale (pick b ((l * m) ^ 2) (l ^ 4)) (pick b (m ^ 4) ((l * m) ^ 2)) := by
  cases b
  · show Two4.mk _ _ _ _ = Two4.mk _ _ _ _
    simp only [pick, Two4.scale]
    simp only [Bool.false_eq_true, if_false]
    rw [dU_sc, dV_sc, sU_sc, sV_sc]
    rfl
  · show Two4.mk _ _ _ _ = Two4.mk _ _ _ _
    simp only [pick, Two4.scale]
    simp only [if_true]
    rw [dU_sc, dV_sc, sU_sc, sV_sc]
    rfl
theorem nz_pow (hP : Pri PP) {x : Int} (h : ¬ PP ∣ x) : ∀ n : Nat, ¬ PP ∣ x ^ n
  | 0 => by rw [Int.pow_zero]; exact hP.one
  | n + 1 => by rw [Int.pow_succ]; exact nz_mul hP (nz_pow hP h n) h
theorem lrnds_ahead (x : Int) (bt bt' : Nat → Bool) (h0 : bt' 0 = false) (hs : ∀ i, bt' (i + 1) = bt i) : ∀ n, ∃ l m, lrnds x bt' (n + 1) = (lrnds x bt n).scale l m ∧ (¬ PP ∣ x → ¬ PP ∣ l ∧ ¬ PP ∣ m)
  | 0 => by
    refine ⟨1, 4 * x, ?_, fun h => ⟨by decide, nz_mul pri_PP (by decide) h⟩⟩
    show lrnd x (bt' 0) ⟨1, 0, x, 1⟩ = _
    rw [h0]
    show Two4.mk (dU 1 0) (dV 1 0) (sU 1 0 x 1) (sV x 1 0 x 1) = Two4.mk (1 * 1) (1 * 0) (4 * x * x) (4 * x * 1)
    congr 1
    · unfold sU sY sZ; grind
    · unfold sV sY sZ; grind
  | n + 1 => by
    obtain ⟨l, m, e, k⟩ := lrnds_ahead x bt bt' h0 hs n
    refine ⟨pick (bt n) ((l * m) ^ 2) (l ^ 4), pick (bt n) (m ^ 4) ((l * m) ^ 2), ?_, fun h => ?_⟩
    · show lrnd x (bt' (n + 1)) (lrnds x bt' (n + 1)) = _
      rw [hs, e, lrnd_scale]
      rfl
    · obtain ⟨k1, k2⟩ := k h
      have k3 := nz_mul pri_PP k1 k2
      cases bt n
      · exact ⟨nz_pow pri_PP k1 4, nz_pow pri_PP k3 2⟩
      · exact ⟨nz_pow pri_PP k3 2, nz_pow pri_PP k2 4⟩
/-- With x = 0 nothing is left. -/
theorem lrnd_zero {x : Int} (hx : PP ∣ x) (b : Bool) {s : Two4} (hb : PP ∣ s.b) (hd : PP ∣ s.d) : PP ∣ (lrnd x b s).b ∧ PP ∣ (lrnd x b s).d := by
  have w1 : PP ∣ dV s.a s.b := Int.dvd_mul_of_dvd_left (by
    show PP ∣ dW s.a s.b
    rw [show dW s.a s.b = 4 * s.a * s.b by unfold dW; grind]
    exact Int.dvd_mul_of_dvd_right hb)
  have w2 : PP ∣ dV s.c s.d := Int.dvd_mul_of_dvd_left (by
    show PP ∣ dW s.c s.d
    rw [show dW s.c s.d = 4 * s.c * s.d by unfold dW; grind]
    exact Int.dvd_mul_of_dvd_right hd)
  have w3 : PP ∣ sV x s.a s.b s.c s.d := Int.dvd_mul_of_dvd_left hx
  cases b
  · exact ⟨w1, w3⟩
  · exact ⟨w3, w2⟩
theorem lrnds_zero {x : Int} (hx : PP ∣ x) (bt : Nat → Bool) (h0 : bt 0 = true) : ∀ n, PP ∣ (lrnds x bt (n + 1)).b ∧ PP ∣ (lrnds x bt (n + 1)).d
  | 0 => by
    show PP ∣ (lrnd x (bt 0) ⟨1, 0, x, 1⟩).b ∧ PP ∣ (lrnd x (bt 0) ⟨1, 0, x, 1⟩).d
    rw [h0]
    refine ⟨Int.dvd_mul_of_dvd_left hx, ?_⟩
    show PP ∣ dW x 1 * _
    refine Int.dvd_mul_of_dvd_left ?_
    rw [show dW x 1 = 4 * x by unfold dW; grind]
    exact Int.dvd_mul_of_dvd_right hx
  | n + 1 => by
    obtain ⟨h1, h2⟩ := lrnds_zero hx bt h0 n
    exact lrnd_zero hx _ h1 h2
theorem fer {l : Int} (h : ¬ PP ∣ l) : l ^ (eInv + 1) % PP = 1 := by
  have h1 : 0 < l % PP := by
    have := Int.emod_nonneg l (show PP ≠ 0 by decide)
    rcases Int.lt_or_eq_of_le this with k | k
    · exact k
    · exact absurd (PP_dvd.2 k.symm) h
  have h2 := Int.emod_lt_of_pos l (show (0 : Int) < PP by decide)
  rw [← pwm l]
  obtain ⟨n, hn⟩ := Int.eq_ofNat_of_zero_le (show 0 ≤ l % PP by omega)
  rw [hn] at h1 h2 ⊢
  have hd : ¬ P25519 ∣ n := fun hd => by
    have h := Nat.le_of_dvd (by omega) hd
    have : ((P25519 : Nat) : Int) = PP := rfl
    omega
  have f := prm_P.fermat hd
  rw [← eInv_P] at f
  rw [PP_nat, ← Int.natCast_pow, ← Int.natCast_emod, f]
  rfl
theorem zpow {b : Int} (h : PP ∣ b) : b ^ eInv % PP = 0 := by
  rw [show eInv = eInv - 1 + 1 from rfl, Int.pow_succ]
  exact PP_dvd.1 (Int.dvd_mul_of_dvd_right h)
theorem lrnds_congr (x : Int) (f g : Nat → Bool) : ∀ n, (∀ i, i < n → g i = f i) → lrnds x f n = lrnds x g n
  | 0, _ => rfl
  | n + 1, h => by
    show lrnd x (f n) (lrnds x f n) = lrnd x (g n) (lrnds x g n)
    rw [lrnds_congr x f g n (fun i hi => h i (by omega)), h n (by omega)]
theorem regroup (l a p q : Int) : l * a * (p * q) = p * l * (a * q) := by grind
theorem lad_same (x : Int) (bt bt' : Nat → Bool) (h0 : bt' 0 = false) (hs : ∀ i, bt' (i + 1) = bt i) (h1 : bt 0 = true) (n : Nat) : ladE x bt' (n + 2) % PP = ladE x bt (n + 1) % PP := by
  obtain ⟨l, m, e, k⟩ := lrnds_ahead x bt bt' h0 hs (n + 1)
  unfold ladE
  rw [e]
  show l * (lrnds x bt (n + 1)).a * (l * (lrnds x bt (n + 1)).b) ^ eInv % PP = _
  by_cases hx : PP ∣ x
  · have z := (lrnds_zero hx bt h1 n).1
    rw [Int.mul_emod, zpow (Int.dvd_mul_of_dvd_right z), Int.mul_emod _ ((lrnds x bt (n + 1)).b ^ eInv), zpow z]
    simp
  · have f := fer (k hx).1
    generalize (lrnds x bt (n + 1)).a = a at *
    generalize (lrnds x bt (n + 1)).b = b at *
    rw [Int.mul_pow, regroup, ← Int.pow_succ, Int.mul_emod, f, Int.one_mul, Int.emod_emod_of_dvd _ (Int.dvd_refl _)]
end Go.Proofs.YthapcapiiknjdaaDoor

/-
  The ladder over first coordinates, on an Edwards curve and on its twist: numbers alone.
-/
namespace Go.Proofs.YthapcapiiknjdaaDoor
set_option maxRecDepth 100000

section
variable {P a d b s k : Int} {inv : Int → Int}

/-- The pair (u : v) stands for the points with this y; s is 1 or -1. -/
def Rep (P s : Int) (w : Int × Int) (y : Int) : Prop := P ∣ w.1 * (1 - y) - s * w.2 * (1 + y) ∧ ¬ (P ∣ w.1 ∧ P ∣ w.2)
def ldbl (k : Int) (w : Int × Int) : Int × Int :=
  ((w.1 + w.2) * (w.1 + w.2) * ((w.1 - w.2) * (w.1 - w.2)), ((w.1 + w.2) * (w.1 + w.2) - (w.1 - w.2) * (w.1 - w.2)) * ((w.1 + w.2) * (w.1 + w.2) + k * ((w.1 + w.2) * (w.1 + w.2) - (w.1 - w.2) * (w.1 - w.2))))
def lsum2 (p q : Int × Int) (x : Int) : Int × Int :=
  (((q.1 - q.2) * (p.1 + p.2) + (q.1 + q.2) * (p.1 - p.2)) * ((q.1 - q.2) * (p.1 + p.2) + (q.1 + q.2) * (p.1 - p.2)), x * (((q.1 - q.2) * (p.1 + p.2) - (q.1 + q.2) * (p.1 - p.2)) * ((q.1 - q.2) * (p.1 + p.2) - (q.1 + q.2) * (p.1 - p.2))))

/-- With a factor. -/
theorem Rep.fac (hP : Pri P) (hi : ∀ c, ¬ P ∣ c → P ∣ inv c * c - 1) (hs : s * s = 1) {w : Int × Int} {y : Int} (h : Rep P s w y) : ∃ c, ¬ P ∣ c ∧ P ∣ w.1 - s * c * (1 + y) ∧ P ∣ w.2 - c * (1 - y) := by
  have h2 := hi 2 hP.two
  obtain ⟨h1, hn⟩ := h
  refine ⟨(s * w.1 + w.2) * inv 2, fun hc => hn ?_, ?_, ?_⟩
  · have e1 : P ∣ w.1 - s * ((s * w.1 + w.2) * inv 2) * (1 + y) := dv2 h1 h2 (c1 := inv 2) (c2 := -w.1) (by grind)
    have e2 : P ∣ w.2 - ((s * w.1 + w.2) * inv 2) * (1 - y) := dv2 h1 h2 (c1 := -(s * inv 2)) (c2 := -w.2) (by grind)
    exact ⟨dv2 e1 hc (c1 := 1) (c2 := s * (1 + y)) (by grind), dv2 e2 hc (c1 := 1) (c2 := 1 - y) (by grind)⟩
  · exact dv2 h1 h2 (c1 := inv 2) (c2 := -w.1) (by grind)
  · exact dv2 h1 h2 (c1 := -(s * inv 2)) (c2 := -w.2) (by grind)
theorem Rep.st (hP : Pri P) (hs : s = 1 ∨ s = -1) {w : Int × Int} {y : Int} (h : Rep P s w y) : P ∣ (w.1 - s * w.2) - y * (w.1 + s * w.2) ∧ ¬ P ∣ w.1 + s * w.2 := by
  have t : P ∣ (w.1 - s * w.2) - y * (w.1 + s * w.2) := dv2 h.1 h.1 (c1 := 1) (c2 := 0) (by grind)
  refine ⟨t, fun hS => h.2 ?_⟩
  have hT : P ∣ w.1 - s * w.2 := dv2 t hS (c1 := 1) (c2 := y) (by grind)
  have u : P ∣ 2 * w.1 := dv2 hS hT (c1 := 1) (c2 := 1) (by grind)
  have v : P ∣ 2 * w.2 := dv2 hS hT (c1 := s) (c2 := -s) (by rcases hs with rfl | rfl <;> grind)
  exact ⟨(hP.mul u).resolve_left hP.two, (hP.mul v).resolve_left hP.two⟩
/-- What the doubling needs of the curve's numbers. -/
structure Mon (P a d b s k : Int) : Prop where
  s1 : s = 1 ∨ s = -1
  bd : P ∣ b * (a - d) - d
  kb : 2 * k + 1 = s * (2 * b + 1)
  ad : ¬ P ∣ a - d
  a0 : ¬ P ∣ a
theorem Rep.dbl (hP : Pri P) (hC : Cpl P a d) (M : Mon P a d b s k) {w : Int × Int} {x y x2 y2 : Int} (h : Rep P s w y) (ho : On P a d x y) (hm : Sm P a d x y x y x2 y2) : Rep P s (ldbl k w) y2 := by
  obtain ⟨t, hS⟩ := h.st hP M.s1
  have E1 : P ∣ y ^ 2 - (1 + b * (1 - y ^ 2)) * (1 - a * x ^ 2) := cancel hP M.ad (dv2 ho M.bd (c1 := a) (c2 := -((1 - y ^ 2) * (1 - a * x ^ 2))) (by grind))
  have hq := hC.q ho ho
  have my := hm.y
  obtain ⟨U, V⟩ := w
  simp only at t hS
  have ST : ∃ S T, P ∣ T - y * S ∧ ¬ P ∣ S ∧ (ldbl k (U, V)).1 = S ^ 2 * T ^ 2 ∧ (ldbl k (U, V)).2 = s * (S ^ 2 - T ^ 2) * (S ^ 2 + b * (S ^ 2 - T ^ 2)) := by
    refine ⟨U + s * V, U - s * V, t, hS, ?_, ?_⟩
    · unfold ldbl
      rcases M.s1 with e | e <;> subst e <;> grind
    · unfold ldbl
      have kb := M.kb
      rcases M.s1 with e | e
      · subst e
        obtain rfl : k = b := by omega
        grind
      · subst e
        obtain rfl : k = -1 - b := by omega
        grind
  obtain ⟨S, T, hT, hS, e1, e2⟩ := ST
  have tau : P ∣ T ^ 2 - y ^ 2 * S ^ 2 := dv2 hT hT (c1 := T + y * S) (c2 := 0) (by grind)
  have ss : s * s = 1 := by rcases M.s1 with e | e <;> subst e <;> decide
  unfold Rep
  rw [e1, e2]
  constructor
  · have g1 : P ∣ S ^ 2 * T ^ 2 * (1 - y ^ 2) - (S ^ 2 - T ^ 2) * (S ^ 2 + b * (S ^ 2 - T ^ 2)) * (1 - a * x ^ 2) :=
      dv2 E1 tau (c1 := S ^ 4 * (1 - y ^ 2)) (c2 := S ^ 2 * (1 - y ^ 2) + (1 - a * x ^ 2) * (S ^ 2 * (1 + b * (1 - y ^ 2)) + b * (S ^ 2 * (1 - y ^ 2) - (T ^ 2 - y ^ 2 * S ^ 2)))) (by grind)
    refine cancel hP hq (dv3 g1 ho my (c1 := 2) (c2 := S ^ 2 * T ^ 2 - (S ^ 2 - T ^ 2) * (S ^ 2 + b * (S ^ 2 - T ^ 2))) (c3 := -(S ^ 2 * T ^ 2 + (S ^ 2 - T ^ 2) * (S ^ 2 + b * (S ^ 2 - T ^ 2)))) ?_)
    grind
  · rintro ⟨z1, z2⟩
    have zT : P ∣ T := by
      have h1 : P ∣ (S * T) * (S * T) := dv2 z1 z1 (c1 := 1) (c2 := 0) (by grind)
      rcases hP.mul h1 with h | h <;> exact (hP.mul h).resolve_left hS
    have z3 : P ∣ (1 + b) * (S ^ 2 * S ^ 2) := dv2 z2 zT (c1 := s) (c2 := T * (S ^ 2 + b * (S ^ 2 - T ^ 2)) + S ^ 2 * b * T) (by grind)
    have n2 : ¬ P ∣ S ^ 2 * S ^ 2 := by
      have n1 : ¬ P ∣ S ^ 2 := by rw [show S ^ 2 = S * S by grind]; exact nz_mul hP hS hS
      exact nz_mul hP n1 n1
    have z4 := cancel hP n2 z3
    exact M.a0 (dv2 z4 M.bd (c1 := a - d) (c2 := -1) (by grind))
theorem Rep.sum (hP : Pri P) (hC : Cpl P a d) (hs : s = 1 ∨ s = -1) {p q : Int × Int} {x x1 y1 x2 y2 xs ys xd yd : Int} (h1 : Rep P s p y1) (h2 : Rep P s q y2) (o1 : On P a d x1 y1) (o2 : On P a d x2 y2)
    (hm : Sm P a d x1 y1 x2 y2 xs ys) (hd : Sm P a d x1 y1 (-x2) y2 xd yd) (hx : P ∣ x * (1 - yd) - s * (1 + yd)) (hn : ¬ P ∣ 1 - yd) (h0 : ¬ P ∣ x) : Rep P s (lsum2 p q x) ys := by
  obtain ⟨t1, n1⟩ := h1.st hP hs
  obtain ⟨t2, n2⟩ := h2.st hP hs
  have hp := hC.p o1 o2
  have hq := hC.q o1 o2
  have D := dv2 o1 o2 (ed_diff x1 y1 x2 y2 a d)
  have dy : P ∣ yd * (1 + d * x1 * x2 * y1 * y2) - (y1 * y2 + a * x1 * x2) := dv2 hd.y hd.y (c1 := 1) (c2 := 0) (by grind)
  have sy := hm.y
  have ss : s * s = 1 := by rcases hs with e | e <;> subst e <;> decide
  have K : P ∣ (1 + ys) * (1 + yd) * (y1 - y2) ^ 2 - (1 - ys) * (1 - yd) * (y1 + y2) ^ 2 := by
    have g1 : P ∣ ((1 - d * x1 * x2 * y1 * y2) * (1 + ys)) * ((1 + d * x1 * x2 * y1 * y2) * (1 + yd)) * (y1 - y2) ^ 2 - ((1 - d * x1 * x2 * y1 * y2) * (1 - ys)) * ((1 + d * x1 * x2 * y1 * y2) * (1 - yd)) * (y1 + y2) ^ 2 := by
      generalize 1 - d * x1 * x2 * y1 * y2 = Q at *
      generalize 1 + d * x1 * x2 * y1 * y2 = R at *
      generalize y1 * y2 - a * x1 * x2 = X at *
      generalize y1 * y2 + a * x1 * x2 = Y at *
      refine dv3 D sy dy (c1 := 1) (c2 := R * (1 + yd) * (y1 - y2) ^ 2 + R * (1 - yd) * (y1 + y2) ^ 2) (c3 := (Q + X) * (y1 - y2) ^ 2 + (Q - X) * (y1 + y2) ^ 2) ?_
      grind
    refine cancel hP (nz_mul hP hq hp) (dv2 g1 g1 (c1 := 1) (c2 := 0) ?_)
    grind
  have M : P ∣ x * (1 + ys) * (y1 - y2) ^ 2 - s * (1 - ys) * (y1 + y2) ^ 2 := by
    refine cancel hP hn (dv2 K hx (c1 := s) (c2 := (1 + ys) * (y1 - y2) ^ 2) ?_)
    grind
  obtain ⟨U1, V1⟩ := p
  obtain ⟨U2, V2⟩ := q
  simp only at t1 n1 t2 n2
  have ST : ∃ S1 T1 S2 T2, P ∣ T1 - y1 * S1 ∧ ¬ P ∣ S1 ∧ P ∣ T2 - y2 * S2 ∧ ¬ P ∣ S2 ∧ (lsum2 (U1, V1) (U2, V2) x).1 = (S1 * T2 + S2 * T1) ^ 2 ∧ (lsum2 (U1, V1) (U2, V2) x).2 = x * (S1 * T2 - S2 * T1) ^ 2 := by
    refine ⟨U1 + s * V1, U1 - s * V1, U2 + s * V2, U2 - s * V2, t1, n1, t2, n2, ?_, ?_⟩
    · unfold lsum2
      rcases hs with e | e <;> subst e <;> grind
    · unfold lsum2
      rcases hs with e | e <;> subst e <;> grind
  obtain ⟨S1, T1, S2, T2, k1, m1, k2, m2, e1, e2⟩ := ST
  have f1 : P ∣ (S1 * T2 + S2 * T1) - S1 * S2 * (y1 + y2) := dv2 k1 k2 (c1 := S2) (c2 := S1) (by grind)
  have f2 : P ∣ (S1 * T2 - S2 * T1) - S1 * S2 * (y2 - y1) := dv2 k1 k2 (c1 := -S2) (c2 := S1) (by grind)
  unfold Rep
  rw [e1, e2]
  constructor
  · refine dv3 M f1 f2 (c1 := -(s * (S1 * S2) ^ 2)) (c2 := (1 - ys) * (S1 * T2 + S2 * T1 + S1 * S2 * (y1 + y2))) (c3 := -(s * x * (1 + ys) * (S1 * T2 - S2 * T1 + S1 * S2 * (y2 - y1)))) ?_
    grind
  · rintro ⟨z1, z2⟩
    have sq : ∀ z : Int, P ∣ z ^ 2 → P ∣ z := fun z hz => by
      rw [show z ^ 2 = z * z by grind] at hz
      exact (hP.mul hz).elim id id
    have z1' := sq _ z1
    have z2' := sq _ ((hP.mul z2).resolve_left h0)
    have y1z : P ∣ y1 := by
      have g : P ∣ y1 * (2 * (S1 * S2)) := dv3 z1' z2' k1 (c1 := 1) (c2 := -1) (c3 := -(2 * S2)) (by grind)
      exact cancel hP (nz_mul hP hP.two (nz_mul hP m1 m2)) g
    have y2z : P ∣ y2 := by
      have g : P ∣ y2 * (2 * (S1 * S2)) := dv3 z1' z2' k2 (c1 := 1) (c2 := 1) (c3 := -(2 * S1)) (by grind)
      exact cancel hP (nz_mul hP hP.two (nz_mul hP m1 m2)) g
    have a1 : P ∣ a * x1 ^ 2 - 1 := dv2 o1 y1z (c1 := 1) (c2 := -(y1 - d * x1 ^ 2 * y1)) (by grind)
    have a2 : P ∣ a * x2 ^ 2 - 1 := dv2 o2 y2z (c1 := 1) (c2 := -(y2 - d * x2 ^ 2 * y2)) (by grind)
    have ydv : P ∣ yd - a * x1 * x2 := dv2 dy y1z (c1 := 1) (c2 := y2 - yd * d * x1 * x2 * y2) (by grind)
    have yd1 : P ∣ (1 - yd) * (1 + yd) := dv3 ydv a1 a2 (c1 := -(yd + a * x1 * x2)) (c2 := -(a * x2 ^ 2)) (c3 := -1) (by grind)
    have yd2 : P ∣ 1 + yd := (hP.mul yd1).resolve_left hn
    have yx : P ∣ x * (1 - yd) := dv2 hx yd2 (c1 := 1) (c2 := s) (by grind)
    rcases hP.mul yx with h | h
    · exact h0 h
    · exact hn h
end
end Go.Proofs.YthapcapiiknjdaaDoor

/-
  The two curves of the ladder as numbers: squares and none, inverses, the group of each.
-/
namespace Go.Proofs.YthapcapiiknjdaaDoor
set_option maxRecDepth 100000

abbrev d0 : Int := 37095705934669439343138083508754565189542113879843219016388785533085940283555
abbrev i0 : Int := 19681161376707505956807079304988542015446066515923890162744021073123829784752
abbrev r0 : Int := 55487632915927625549282413919184614932259505768049324239291840100650878933168
theorem eI_H : eInv + 1 = 2 * eH := by decide +kernel
theorem fer2 {l : Int} (h : ¬ PP ∣ l) : l ^ (2 * eH) % PP = 1 := by rw [← eI_H]; exact fer h
def einv (c : Int) : Int := c ^ eInv
theorem einv_ok : ∀ c, ¬ PP ∣ c → PP ∣ einv c * c - 1 := fun c h => by
  have f := fer h
  unfold einv
  rw [← Int.pow_succ]
  refine PP_dvd.2 ?_
  rw [Int.sub_emod, f]
  rfl
theorem cong_dvd {x y : Int} (h : PP ∣ x - y) : x % PP = y % PP := Int.emod_eq_emod_iff_emod_sub_eq_zero.2 (PP_dvd.1 h)
theorem dvd_cong {x y : Int} (h : x % PP = y % PP) : PP ∣ x - y := PP_dvd.2 (Int.emod_eq_emod_iff_emod_sub_eq_zero.1 h)
/-- No square, by Euler's number. -/
theorem nsq_of {d : Int} (h : d ^ eH % PP = PP - 1) : NSq PP d := by
  intro r t hrt
  by_cases ht : PP ∣ t
  · exact ht
  exfalso
  have e := pow_mod (cong_dvd hrt) eH
  have et : (d * t ^ 2) ^ eH % PP = PP - 1 := by
    rw [Int.mul_pow, ← Int.pow_mul, Int.mul_emod, h, fer2 ht]
    decide
  rw [et] at e
  by_cases hr : PP ∣ r
  · have z : PP ∣ r ^ 2 := by rw [Int.pow_succ]; exact Int.dvd_mul_of_dvd_right hr
    have z2 : (r ^ 2) ^ eH % PP = 0 := by
      rw [show eH = eH - 1 + 1 from rfl, Int.pow_succ]
      exact PP_dvd.1 (Int.dvd_mul_of_dvd_right z)
    rw [z2] at e
    exact absurd e (by decide)
  · rw [← Int.pow_mul, fer2 hr] at e
    exact absurd e (by decide)
theorem nsq2 : NSq PP 2 := nsq_of two_half
theorem i0_sq : PP ∣ i0 ^ 2 - (-1) := by decide +kernel
theorem i0_nz : ¬ PP ∣ i0 := by decide +kernel
theorem nsqm2 : NSq PP (-2) := by
  intro r t h
  have k : PP ∣ r ^ 2 - 2 * (i0 * t) ^ 2 := dv2 h i0_sq (c1 := 1) (c2 := -(2 * t ^ 2)) (by grind)
  exact (pri_PP.mul (nsq2 r (i0 * t) k)).resolve_left i0_nz
theorem d0_half : d0 ^ eH % PP = PP - 1 := by
  have h : pm P25519 255 37095705934669439343138083508754565189542113879843219016388785533085940283555 eH = P25519 - 1 := by decide +kernel
  rw [pm_eq _ _ _ _ (by decide +kernel)] at h
  have h' : (((37095705934669439343138083508754565189542113879843219016388785533085940283555 : Nat) ^ eH % P25519 : Nat) : Int) = ((P25519 - 1 : Nat) : Int) := by rw [h]
  rw [Int.natCast_emod, Int.natCast_pow] at h'
  rw [PP_nat]
  exact h'
theorem nsqd : NSq PP d0 := nsq_of d0_half
theorem r0_sq : PP ∣ r0 ^ 2 - 2 * d0 := by decide +kernel
/-- The curve itself, and its twist. -/
theorem crv1 : Crv PP (-1) d0 einv := ⟨pri_PP, cpl_of pri_PP i0_sq nsqd, einv_ok⟩
theorem crv2 : Crv PP (2 * d0) (-2) einv := ⟨pri_PP, cpl_of pri_PP r0_sq nsqm2, einv_ok⟩
theorem mon1 : Mon PP (-1) d0 121665 1 121665 := ⟨Or.inl rfl, by decide +kernel, by decide, by decide +kernel, by decide +kernel⟩
theorem mon2 : Mon PP (2 * d0) (-2) (-121666) (-1) 121665 := ⟨Or.inr rfl, by decide +kernel, by decide, by decide +kernel, by decide +kernel⟩
/-- Of a number and its double just one is a square. -/
theorem sq_or {z : Int} (hz : ¬ PP ∣ z) : (∃ v, PP ∣ v ^ 2 - z) ∨ ∃ v, PP ∣ v ^ 2 - 2 * z := by
  have h1 : 0 < z % PP := by
    have := Int.emod_nonneg z (show PP ≠ 0 by decide)
    rcases Int.lt_or_eq_of_le this with k | k
    · exact k
    · exact absurd (PP_dvd.2 k.symm) hz
  have h2 := Int.emod_lt_of_pos z (show (0 : Int) < PP by decide)
  have sq : ∀ A : Int, 0 < A → A < PP → A ^ eH % PP = 1 → ∃ v, PP ∣ v ^ 2 - A := fun A a0 a1 ha => by
    refine ⟨r1I A, dvd_cong ?_⟩
    rw [show r1I A ^ 2 = r1I A * r1I A by rw [Int.pow_succ, Int.pow_succ, Int.pow_zero, Int.one_mul], has_of a0 a1 ha, Int.emod_eq_of_lt (Int.le_of_lt a0) a1]
  have back : ∀ {v A B : Int}, PP ∣ v ^ 2 - A → A % PP = B % PP → PP ∣ v ^ 2 - B := fun {v A B} h e => by
    have := Int.dvd_add h (dvd_cong e)
    rwa [show v ^ 2 - A + (A - B) = v ^ 2 - B by omega] at this
  rcases half_one h1 h2 with k | k
  · obtain ⟨v, hv⟩ := sq _ h1 h2 k
    exact Or.inl ⟨v, back hv (Int.emod_emod_of_dvd _ (Int.dvd_refl _))⟩
  · have e : (2 * z) ^ eH % PP = 1 := by
      rw [Int.mul_pow, Int.mul_emod, two_half, ← pwm z, k]
      decide +kernel
    have g1 : 0 < 2 * z % PP := by
      have := Int.emod_nonneg (2 * z) (show PP ≠ 0 by decide)
      rcases Int.lt_or_eq_of_le this with q | q
      · exact q
      · exact absurd (PP_dvd.2 q.symm) (nz_mul pri_PP (by decide) hz)
    obtain ⟨v, hv⟩ := sq _ g1 (Int.emod_lt_of_pos _ (by decide)) (by rw [pwm]; exact e)
    exact Or.inr ⟨v, back hv (Int.emod_emod_of_dvd _ (Int.dvd_refl _))⟩
end Go.Proofs.YthapcapiiknjdaaDoor
