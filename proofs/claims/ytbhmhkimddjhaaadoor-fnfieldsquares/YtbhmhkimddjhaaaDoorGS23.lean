import Derived.Test.YtbhmhkimddjhaaaDoorGS10
import Derived.Test.YtbhmhkimddjhaaaDoorGS7
import Derived.Test.YtbhmhkimddjhaaaDoorGS6
import Derived.Test.YtbhmhkimddjhaaaDoorGS9
/-
  The even root modulo the prime, as the program and as the model seek it: numbers alone.
-/
namespace Go.Proofs.YtbhmhkimddjhaaaDoor
set_option maxRecDepth 100000

/-- (P + 3) / 8, and the power of 2 whose square is P - 1. -/
def eRt : Nat := 7237005577332262213973186563042994240829374041602535252466099000494570602494
abbrev iM : Int := 19681161376707505956807079304988542015446066515923890162744021073123829784752
theorem iM_sq : iM * iM % PP = PP - 1 := by decide +kernel
theorem turn_sq (r : Int) : (r * iM % PP) * (r * iM % PP) % PP = (0 - r * r) % PP := by
  rw [← Int.mul_emod]
  have e : r * iM * (r * iM) = r * r * (iM * iM) := by grind
  rw [e]
  generalize r * r = s
  have h : iM * iM = PP * (iM * iM / PP) + (PP - 1) := by rw [← iM_sq]; exact (Int.mul_ediv_add_emod _ _).symm
  rw [h]
  generalize iM * iM / PP = q
  have e2 : s * (PP * q + (PP - 1)) = (0 - s) + PP * (s * q + s) := by grind
  rw [e2, Int.add_mul_emod_self_left]
def rtR (A : Int) : Int := A ^ eRt % PP
def r1I (A : Int) : Int := if rtR A * rtR A % PP = (0 - A) % PP then rtR A * iM % PP else rtR A
def r1S (A : Int) : Int := if rtR A * rtR A % PP = A then rtR A else rtR A * iM % PP
theorem rtR_zero : rtR 0 = 0 := by
  unfold rtR
  rw [Int.zero_pow (by decide)]
  rfl
theorem neg_modP (x s : Int) (h : x % PP = s) : (0 - x) % PP = (0 - s) % PP := by
  rw [← h, Int.zero_sub, Int.zero_sub]
  have := Int.mul_ediv_add_emod x PP
  have e : -x = -(x % PP) + PP * (-(x / PP)) := by
    generalize x / PP = q at *
    generalize x % PP = t at *
    subst this
    grind
  rw [e, Int.add_mul_emod_self_left]
theorem not1 {A s : Int} (h0 : 0 ≤ A) (h1 : A < PP) (hA : ¬ A = 0) (c : s = A) : ¬ s = (0 - A) % PP := by
  subst c
  have e : (0 - s) % PP = PP - s := by
    rw [show 0 - s = (PP - s) + PP * (-1) by generalize PP = P; omega, Int.add_mul_emod_self_left]
    exact Int.emod_eq_of_lt (by generalize PP = P at *; omega) (by generalize PP = P at *; omega)
  rw [e]
  intro h
  have h2 : s + s = PP := by generalize PP = P at *; omega
  have h3 : (s + s) % 2 = 0 := by omega
  rw [h2] at h3
  exact absurd h3 (by decide)
theorem not2 {A s : Int} (h1 : A < PP) (s0 : 0 ≤ s) (s1 : s < PP) (c : ¬ s = (0 - A) % PP) : ¬ (0 - s) % PP = A := by
  have h2 : A < 57896044618658097711785492504343953926634992332820282019728792003956564819949 := h1
  have h3 : s < 57896044618658097711785492504343953926634992332820282019728792003956564819949 := s1
  have h4 : ¬ s = (0 - A) % 57896044618658097711785492504343953926634992332820282019728792003956564819949 := c
  show ¬ (0 - s) % 57896044618658097711785492504343953926634992332820282019728792003956564819949 = A
  omega
theorem same_root {A : Int} (h0 : 0 ≤ A) (h1 : A < PP) : (r1I A * r1I A % PP = A ↔ r1S A * r1S A % PP = A) ∧ (r1S A * r1S A % PP = A → r1I A = r1S A) := by
  unfold r1I r1S
  have ht := turn_sq (rtR A)
  have hz : A = 0 → rtR A = 0 := fun h => by rw [h]; exact rtR_zero
  generalize rtR A = r at *
  obtain ⟨s, hs⟩ : ∃ s, r * r % PP = s := ⟨_, rfl⟩
  have hs0 : 0 ≤ s ∧ s < PP := by rw [← hs]; exact ⟨Int.emod_nonneg _ (by decide), Int.emod_lt_of_pos _ (by decide)⟩
  rw [neg_modP _ _ hs] at ht
  rw [hs]
  by_cases hA : A = 0
  · have hr := hz hA
    subst hr
    have e1 : (0 : Int) * iM % PP = 0 := by rw [Int.zero_mul]; rfl
    have e2 : (0 : Int) * 0 % PP = 0 := rfl
    have es : s = 0 := by rw [← hs]; rfl
    have ea : (0 - A) % PP = 0 := by rw [hA]; rfl
    rw [es, ea, hA, if_pos rfl, if_pos rfl, e1]
    exact ⟨Iff.rfl, fun _ => rfl⟩
  · by_cases c1 : s = A
    · rw [if_pos c1, if_neg (not1 h0 h1 hA c1), hs]
      exact ⟨Iff.rfl, fun _ => rfl⟩
    · rw [if_neg c1, ht]
      by_cases c2 : s = (0 - A) % PP
      · rw [if_pos c2, ht]
        exact ⟨Iff.rfl, fun _ => rfl⟩
      · rw [if_neg c2, hs]
        have n2 : ¬ ((0 - s) % PP = A) := not2 h1 hs0.1 hs0.2 c2
        exact ⟨⟨fun h => absurd h c1, fun h => absurd h n2⟩, fun h => absurd h n2⟩
theorem rtR_bd (A : Int) : 0 ≤ rtR A ∧ rtR A < PP := by
  unfold rtR
  generalize A ^ eRt = x
  exact ⟨Int.emod_nonneg _ (by decide), Int.emod_lt_of_pos _ (by decide)⟩
theorem r1I_bd (A : Int) : 0 ≤ r1I A ∧ r1I A < PP := by
  unfold r1I
  split
  · generalize rtR A * iM = x
    exact ⟨Int.emod_nonneg _ (by decide), Int.emod_lt_of_pos _ (by decide)⟩
  · exact rtR_bd A
theorem r1S_bd (A : Int) : 0 ≤ r1S A ∧ r1S A < PP := by
  unfold r1S
  split
  · exact rtR_bd A
  · generalize rtR A * iM = x
    exact ⟨Int.emod_nonneg _ (by decide), Int.emod_lt_of_pos _ (by decide)⟩
/-- The even one of a root and its negative. -/
def fin2 (r : Int) : Int := if r % 2 = 0 then r else (0 - r) % PP
end Go.Proofs.YtbhmhkimddjhaaaDoor
/-
  Bits of numbers, and powers by squaring: plain arithmetic.
-/
namespace Go.Proofs.YtbhmhkimddjhaaaDoor
set_option maxRecDepth 100000

theorem div_join {h B l : Int} (l0 : 0 ≤ l) (l1 : l < B) : (l + h * B) / B = h := by
  rw [Int.add_mul_ediv_right _ _ (by omega), Int.ediv_eq_zero_of_lt l0 l1]
  omega

/-- A bit of a number out of the digit where it lies. -/
theorem bit_of {A d h l : Int} {i n k r : Nat} (hn : i = n * k + r) (hr : r < n) (hA : A = l + (d + h * 2 ^ n) * 2 ^ (n * k)) (l0 : 0 ≤ l) (l1 : l < 2 ^ (n * k)) : A / 2 ^ i % 2 = d / 2 ^ r % 2 := by
  rw [hn, Int.pow_add, ← Int.ediv_ediv_of_nonneg (show (0 : Int) ≤ 2 ^ (n * k) by have := p2pos (n * k); omega), hA, div_join l0 l1]
  obtain ⟨s, hs⟩ : ∃ s, n = r + (s + 1) := ⟨n - r - 1, by omega⟩
  have e : h * 2 ^ n = 2 * (h * 2 ^ s) * 2 ^ r := by
    rw [hs, Int.pow_add, Int.pow_succ]
    simp only [Int.mul_comm, Int.mul_left_comm]
  rw [e, Int.add_mul_ediv_right _ _ (by have := p2pos r; omega)]
  omega

theorem bbit {xs : List Int} (hx : Byt xs) (i : Nat) : bval xs / 2 ^ i % 2 = dig xs (i / 8) / 2 ^ (i % 8) % 2 := by
  have e := bval_lo xs (i / 8)
  have b := lo_bd hx (i / 8)
  rw [hi_step xs (i / 8), Int.add_comm, Int.add_comm (hi xs (i / 8 + 1) * 256)] at e
  rw [p256_2] at e b
  exact bit_of (n := 8) (k := i / 8) (h := hi xs (i / 8 + 1)) (by omega) (by omega) e b.1 b.2

/-- .. as a natural number. -/
theorem nbit {A b : Int} {E i : Nat} (hE : (E : Int) = A) (h : A / 2 ^ i % 2 = b) : ((E / 2 ^ i % 2 : Nat) : Int) = b := by
  rw [← h, ← hE]
  simp

theorem half_of (E i : Nat) : E / 2 ^ i = 2 * (E / 2 ^ (i + 1)) + E / 2 ^ i % 2 := by
  rw [Nat.pow_succ, ← Nat.div_div_eq_div_mul]
  omega

theorem pow_sq {a m : Int} {e : Nat} : (a ^ e % m) * (a ^ e % m) % m = a ^ (2 * e) % m := by
  rw [← Int.mul_emod, ← Int.pow_add, show e + e = 2 * e by omega]

theorem pow_on {a m : Int} {e f : Nat} : (a ^ e % m) * (a ^ f % m) % m = a ^ (e + f) % m := by
  rw [← Int.mul_emod, ← Int.pow_add]

end Go.Proofs.YtbhmhkimddjhaaaDoor
/-
  Squares modulo P: which numbers have a root. Numbers alone.
-/
namespace Go.Proofs.YtbhmhkimddjhaaaDoor
set_option maxRecDepth 100000

def eQ : Nat := 14474011154664524427946373126085988481658748083205070504932198000989141204987
def eH : Nat := 28948022309329048855892746252171976963317496166410141009864396001978282409974
theorem PP_nat : (PP : Int) = ((P25519 : Nat) : Int) := rfl
theorem pwm (x : Int) : ∀ e : Nat, (x % PP) ^ e % PP = x ^ e % PP
  | 0 => by rw [Int.pow_zero, Int.pow_zero]
  | e + 1 => by
    rw [Int.pow_succ, Int.pow_succ, Int.mul_emod, pwm x e, Int.emod_emod_of_dvd _ (Int.dvd_refl _), ← Int.mul_emod]
/-- A product that is 0 has a factor that is. -/
theorem PP_mul {x y : Int} (h : x * y % PP = 0) : x % PP = 0 ∨ y % PP = 0 := by
  have hd : (PP : Int) ∣ x * y := Int.dvd_of_emod_eq_zero h
  have h2 : P25519 ∣ x.natAbs * y.natAbs := by
    have := Int.natAbs_dvd_natAbs.mpr hd
    rwa [Int.natAbs_mul] at this
  rcases prm_P.mul h2 with k | k
  · exact .inl (Int.emod_eq_zero_of_dvd (Int.natAbs_dvd_natAbs.mp (by exact k)))
  · exact .inr (Int.emod_eq_zero_of_dvd (Int.natAbs_dvd_natAbs.mp (by exact k)))
theorem PP_fermat {x : Int} (h0 : 0 < x) (h1 : x < PP) : x ^ (2 * eH) % PP = 1 := by
  obtain ⟨n, rfl⟩ := Int.eq_ofNat_of_zero_le (show 0 ≤ x by omega)
  have hn : ¬ P25519 ∣ n := fun hd => by
    have h := Nat.le_of_dvd (by omega) hd
    have := PP_nat
    omega
  have f := prm_P.fermat hn
  have e : P25519 - 1 = 2 * eH := by decide +kernel
  rw [e] at f
  rw [PP_nat, ← Int.natCast_pow, ← Int.natCast_emod, f]
  rfl
/-- The roots of one are one and minus one. -/
theorem one_roots {y : Int} (h0 : 0 ≤ y) (h1 : y < PP) (h : y * y % PP = 1) : y = 1 ∨ y = PP - 1 := by
  have e : (y - 1) * (y + 1) = y * y - 1 := by grind
  have z : (y - 1) * (y + 1) % PP = 0 := by
    rw [e, Int.sub_emod, h]
    decide
  have hP : (PP : Int) = 57896044618658097711785492504343953926634992332820282019728792003956564819949 := rfl
  rcases PP_mul z with k | k
  · left
    clear h z e
    rw [hP] at h1 k
    omega
  · right
    clear h z e
    rw [hP] at h1 k ⊢
    omega
theorem half_one {x : Int} (h0 : 0 < x) (h1 : x < PP) : x ^ eH % PP = 1 ∨ x ^ eH % PP = PP - 1 := by
  refine one_roots (Int.emod_nonneg _ (by decide)) (Int.emod_lt_of_pos _ (by decide)) ?_
  rw [pow_sq]
  exact PP_fermat h0 h1
theorem rt_sq (A : Int) : rtR A * rtR A % PP = (A ^ eQ % PP) * A % PP := by
  unfold rtR
  rw [pow_sq, show 2 * eRt = eQ + 1 by decide +kernel, Int.pow_succ, Int.mul_emod, Int.mul_emod (A ^ eQ % PP) A, Int.emod_emod]
theorem neg_neg_P {A : Int} (h0 : 0 ≤ A) (h1 : A < PP) : (0 - (0 - A) % PP) % PP = A := by
  have hP : (PP : Int) = 57896044618658097711785492504343953926634992332820282019728792003956564819949 := rfl
  rw [hP] at h1 ⊢
  omega
theorem neg_mul_P (A : Int) : (PP - 1) * A = PP * A + (0 - A) := by
  generalize PP = p
  rw [Int.sub_mul, Int.one_mul]
  omega
theorem has_of {A : Int} (h0 : 0 < A) (h1 : A < PP) (h : A ^ eH % PP = 1) : r1I A * r1I A % PP = A := by
  have q : A ^ eQ % PP = 1 ∨ A ^ eQ % PP = PP - 1 := by
    refine one_roots (Int.emod_nonneg _ (by decide)) (Int.emod_lt_of_pos _ (by decide)) ?_
    rw [pow_sq, show 2 * eQ = eH by decide +kernel]
    exact h
  have s := rt_sq A
  rcases q with q | q
  · rw [q, Int.one_mul, Int.emod_eq_of_lt (Int.le_of_lt h0) h1] at s
    refine (same_root (Int.le_of_lt h0) h1).1.mpr ?_
    rw [show r1S A = rtR A by rw [r1S, if_pos s]]
    exact s
  · rw [q, neg_mul_P, Int.mul_add_emod_self_left] at s
    rw [show r1I A = rtR A * iM % PP by rw [r1I, if_pos s], turn_sq, neg_modP _ _ s]
    exact neg_neg_P (Int.le_of_lt h0) h1
theorem pow_of_sq {R : Int} (h0 : 0 < R) (h1 : R < PP) : (R * R % PP) ^ eH % PP = 1 := by
  rw [pwm, show R * R = R ^ 2 by rw [Int.pow_succ, Int.pow_succ, Int.pow_zero, Int.one_mul], ← Int.pow_mul]
  exact PP_fermat h0 h1
theorem of_has {A : Int} (h0 : 0 < A) (h : r1I A * r1I A % PP = A) : A ^ eH % PP = 1 := by
  have b := r1I_bd A
  have r0 : 0 < r1I A := by
    rcases Int.lt_or_eq_of_le b.1 with k | k
    · exact k
    · rw [← k] at h
      rw [Int.zero_mul] at h
      have : (0 : Int) % PP = 0 := by decide
      rw [this] at h
      exact absurd h0 (by rw [← h]; decide)
  have k := pow_of_sq r0 b.2
  rw [h] at k
  exact k
/-- A square has a root. -/
theorem sq_has {x : Int} (h0 : 0 ≤ x) (h1 : x < PP) : r1I (x * x % PP) * r1I (x * x % PP) % PP = x * x % PP := by
  by_cases hx : x = 0
  · subst hx
    rw [Int.mul_zero, show (0 : Int) % PP = 0 by decide]
    have : r1I 0 = 0 := by rw [r1I, rtR_zero]; simp
    rw [this]
    rfl
  · have s0 : 0 ≤ x * x % PP := Int.emod_nonneg _ (by decide)
    have s1 : x * x % PP < PP := Int.emod_lt_of_pos _ (by decide)
    have s2 : ¬ x * x % PP = 0 := fun e => by
      rcases PP_mul e with k | k
      all_goals
        rw [Int.emod_eq_of_lt h0 h1] at k
        exact hx k
    have x0 : 0 < x := by omega
    have y0 : 0 < x * x % PP := by omega
    exact has_of y0 s1 (pow_of_sq x0 h1)
theorem two_half : (2 : Int) ^ eH % PP = PP - 1 := by
  have h : pm P25519 255 2 eH = P25519 - 1 := by decide +kernel
  rw [pm_eq _ _ _ _ (by decide +kernel)] at h
  have h' : (((2 : Nat) ^ eH % P25519 : Nat) : Int) = ((P25519 - 1 : Nat) : Int) := by rw [h]
  rw [Int.natCast_emod, Int.natCast_pow] at h'
  rw [PP_nat]
  exact h'
theorem dbl (A : Int) (e : Nat) (h : (2 : Int) ^ e % PP = PP - 1) : ((A + A) % PP) ^ e % PP = (PP - 1) * (A ^ e % PP) % PP := by
  rw [pwm, ← Int.two_mul, Int.mul_pow, Int.mul_emod, h]
theorem just_gen {P Q : Prop} {u v : Int} (e : v = (PP - 1) * u % PP) (k : u = 1 ∨ u = PP - 1) (O1 : P → u = 1) (H1 : u = 1 → P) (O2 : Q → v = 1) (H2 : v = 1 → Q) : P ↔ ¬ Q := by
  rcases k with rfl | rfl
  · refine ⟨fun _ c => ?_, fun _ => H1 rfl⟩
    exact absurd ((O2 c).symm.trans e) (by decide +kernel)
  · refine ⟨fun c => ?_, fun c => absurd (H2 (e.trans (by decide +kernel))) c⟩
    exact absurd (O1 c) (by decide +kernel)
theorem dbl_ne {A : Int} (h0 : 0 < A) (h1 : A < PP) : ¬ (A + A) % PP = 0 := fun h => by
  rw [← Int.two_mul] at h
  rcases PP_mul h with k | k
  · exact absurd k (by decide +kernel)
  · rw [Int.emod_eq_of_lt (Int.le_of_lt h0) h1] at k
    rw [k] at h0
    exact absurd h0 (by decide)
theorem dbl_pos {A : Int} (h0 : 0 < A) (h1 : A < PP) : 0 < (A + A) % PP := by
  have n := dbl_ne h0 h1
  have d0 : 0 ≤ (A + A) % PP := Int.emod_nonneg _ (by decide)
  generalize (A + A) % PP = D at *
  omega
/-- Of a number and its double just one has a root. -/
theorem just_one {A : Int} (h0 : 0 < A) (h1 : A < PP) : r1I A * r1I A % PP = A ↔ ¬ r1I ((A + A) % PP) * r1I ((A + A) % PP) % PP = (A + A) % PP := by
  have d1 : (A + A) % PP < PP := Int.emod_lt_of_pos _ (by decide)
  have dp := dbl_pos h0 h1
  have e := dbl A eH two_half
  have k := half_one h0 h1
  have O1 := of_has h0
  have H1 := has_of h0 h1
  have O2 := of_has dp
  have H2 := has_of dp d1
  exact just_gen e k O1 H1 O2 H2
/-- The root that is told is even, and its square is the same. -/
theorem neg_P {r : Int} (h0 : 0 < r) (h1 : r < PP) : (0 - r) % PP = PP - r := by
  have e : (0 - r) = (PP - r) + PP * (-1) := by generalize PP = p; omega
  rw [e, Int.add_mul_emod_self_left, Int.emod_eq_of_lt]
  · generalize PP = p at *; omega
  · generalize PP = p at *; omega
theorem fin2_bd {r : Int} (h0 : 0 ≤ r) (h1 : r < PP) : 0 ≤ fin2 r ∧ fin2 r < PP ∧ fin2 r % 2 = 0 := by
  unfold fin2
  split
  · exact ⟨h0, h1, by assumption⟩
  · have hp : PP % 2 = 1 := by decide
    rw [neg_P (by omega) h1]
    generalize PP = p at *
    omega
theorem fin2_sq (r : Int) : fin2 r * fin2 r % PP = r * r % PP := by
  unfold fin2
  split
  · rfl
  · rw [← Int.mul_emod]
    congr 1
    grind
theorem fin2_zero : fin2 (r1I 0) = 0 := by
  have : r1I 0 = 0 := by rw [r1I, rtR_zero]; simp
  rw [this]
  rfl
end Go.Proofs.YtbhmhkimddjhaaaDoor
