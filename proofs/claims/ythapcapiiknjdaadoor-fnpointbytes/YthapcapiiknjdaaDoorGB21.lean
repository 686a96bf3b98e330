import Derived.Test.YthapcapiiknjdaaDoorGB16
import Derived.Test.YthapcapiiknjdaaDoorGB4
import Derived.Test.YthapcapiiknjdaaDoorGB12
import Derived.Test.YthapcapiiknjdaaDoorGB20

/-
  Squares modulo P: which numbers have a root. Numbers alone.
-/
namespace Go.Proofs.YthapcapiiknjdaaDoor
set_option maxRecDepth 100000

def eQ : Nat := 14474011154664524427946373126085988481658748083205070504932198000989141204987
def eH : Nat := 28948022309329048855892746252171976963317496166410141009864396001978282409974
theorem PP_nat : (PP : Int) = ((P25519 : Nat) : Int) := rfl
theorem pwm (x : Int) : ∀ e : Nat, (x % PP) ^ e % PP = x ^ e % PP
  | 0 => by rw [Int.pow_zero, Int.pow_zero]
  | e + 1 => by
    rw [Int.pow_succ, Int.pow_succ, Int.mul_emod, pwm x e, Int.emod_emod_of_dvd _ (Int.dvd_refl _), ← Int.mul_emod]
/-- A product that is 0 has a factor that is. -/
theorem PP_mul {x y : Int} (h : x * y % PP = 0) : x % PP = 0 ∨ y % PP = 0 := by
  have hd : (PP : Int) ∣ x * y := Int.dvd_of_emod_eq_zero h
  have h2 : P25519 ∣ x.natAbs * y.natAbs := by
    have := Int.natAbs_dvd_natAbs.mpr hd
    rwa [Int.natAbs_mul] at this
  rcases prm_P.mul h2 with k | k
  · exact .inl (Int.emod_eq_zero_of_dvd (Int.natAbs_dvd_natAbs.mp (by exact k)))
  · exact .inr (Int.emod_eq_zero_of_dvd (Int.natAbs_dvd_natAbs.mp (by exact k)))
theorem PP_fermat {x : Int} (h0 : 0 < x) (h1 : x < PP) : x ^ (2 * eH) % PP = 1 := by
  obtain ⟨n, rfl⟩ := Int.eq_ofNat_of_zero_le (show 0 ≤ x by omega)
  have hn : ¬ P25519 ∣ n := fun hd => by
    have h := Nat.le_of_dvd (by omega) hd
    have := PP_nat
    omega
  have f := prm_P.fermat hn
  have e : P25519 - 1 = 2 * eH := by decide +kernel
  rw [e] at f
  rw [PP_nat, ← Int.natCast_pow, ← Int.natCast_emod, f]
  rfl
/-- The roots of one are one and minus one. -/
theorem one_roots {y : Int} (h0 : 0 ≤ y) (h1 : y < PP) (h : y * y % PP = 1) : y = 1 ∨ y = PP - 1 := by
  have e : (y - 1) * (y + 1) = y * y - 1 := by grind
  have z : (y - 1) * (y + 1) % PP = 0 := by
    rw [e, Int.sub_emod, h]
    decide
  have hP : (PP : Int) = 57896044618658097711785492504343953926634992332820282019728792003956564819949 := rfl
  rcases PP_mul z with k | k
  · left
    clear h z e
    rw [hP] at h1 k
    omega
  · right
    clear h z e
    rw [hP] at h1 k ⊢
    omega
theorem rt_sq (A : Int) : rtR A * rtR A % PP = (A ^ eQ % PP) * A % PP := by
  unfold rtR
  rw [pow_sq, show 2 * eRt = eQ + 1 by decide +kernel, Int.pow_succ, Int.mul_emod, Int.mul_emod (A ^ eQ % PP) A, Int.emod_emod]
theorem neg_neg_P {A : Int} (h0 : 0 ≤ A) (h1 : A < PP) : (0 - (0 - A) % PP) % PP = A := by
  have hP : (PP : Int) = 57896044618658097711785492504343953926634992332820282019728792003956564819949 := rfl
  rw [hP] at h1 ⊢
  omega
theorem neg_mul_P (A : Int) : (PP - 1) * A = PP * A + (0 - A) := by
  generalize PP = p
  rw [Int.sub_mul, Int.one_mul]
  omega
theorem has_of {A : Int} (h0 : 0 < A) (h1 : A < PP) (h : A ^ eH % PP = 1) : r1I A * r1I A % PP = A := by
  have q : A ^ eQ % PP = 1 ∨ A ^ eQ % PP = PP - 1 := by
    refine one_roots (Int.emod_nonneg _ (by decide)) (Int.emod_lt_of_pos _ (by decide)) ?_
    rw [pow_sq, show 2 * eQ = eH by decide +kernel]
    exact h
  have s := rt_sq A
  rcases q with q | q
  · rw [q, Int.one_mul, Int.emod_eq_of_lt (Int.le_of_lt h0) h1] at s
    refine (same_root (Int.le_of_lt h0) h1).1.mpr ?_
    rw [show r1S A = rtR A by rw [r1S, if_pos s]]
    exact s
  · rw [q, neg_mul_P, Int.mul_add_emod_self_left] at s
    rw [show r1I A = rtR A * iM % PP by rw [r1I, if_pos s], turn_sq, neg_modP _ _ s]
    exact neg_neg_P (Int.le_of_lt h0) h1
theorem pow_of_sq {R : Int} (h0 : 0 < R) (h1 : R < PP) : (R * R % PP) ^ eH % PP = 1 := by
  rw [pwm, show R * R = R ^ 2 by rw [Int.pow_succ, Int.pow_succ, Int.pow_zero, Int.one_mul], ← Int.pow_mul]
  exact PP_fermat h0 h1
/-- A square has a root. -/
theorem sq_has {x : Int} (h0 : 0 ≤ x) (h1 : x < PP) : r1I (x * x % PP) * r1I (x * x % PP) % PP = x * x % PP := by
  by_cases hx : x = 0
  · subst hx
    rw [Int.mul_zero, show (0 : Int) % PP = 0 by decide]
    have : r1I 0 = 0 := by rw [r1I, rtR_zero]; simp
    rw [this]
    rfl
  · have s0 : 0 ≤ x * x % PP := Int.emod_nonneg _ (by decide)
    have s1 : x * x % PP < PP := Int.emod_lt_of_pos _ (by decide)
    have s2 : ¬ x * x % PP = 0 := fun e => by
      rcases PP_mul e with k | k
      all_goals
        rw [Int.emod_eq_of_lt h0 h1] at k
        exact hx k
    have x0 : 0 < x := by omega
    have y0 : 0 < x * x % PP := by omega
    exact has_of y0 s1 (pow_of_sq x0 h1)
theorem dbl (A : Int) (e : Nat) (h : (2 : Int) ^ e % PP = PP - 1) : ((A + A) % PP) ^ e % PP = (PP - 1) * (A ^ e % PP) % PP := by
  rw [pwm, ← Int.two_mul, Int.mul_pow, Int.mul_emod, h]
/-- The root that is told is even, and its square is the same. -/
theorem neg_P {r : Int} (h0 : 0 < r) (h1 : r < PP) : (0 - r) % PP = PP - r := by
  have e : (0 - r) = (PP - r) + PP * (-1) := by generalize PP = p; omega
  rw [e, Int.add_mul_emod_self_left, Int.emod_eq_of_lt]
  · generalize PP = p at *; omega
  · generalize PP = p at *; omega
theorem fin2_bd {r : Int} (h0 : 0 ≤ r) (h1 : r < PP) : 0 ≤ fin2 r ∧ fin2 r < PP ∧ fin2 r % 2 = 0 := by
  unfold fin2
  split
  · exact ⟨h0, h1, by assumption⟩
  · have hp : PP % 2 = 1 := by decide
    rw [neg_P (by omega) h1]
    generalize PP = p at *
    omega
theorem fin2_sq (r : Int) : fin2 r * fin2 r % PP = r * r % PP := by
  unfold fin2
  split
  · rfl
  · rw [← Int.mul_emod]
    congr 1
    grind
end Go.Proofs.YthapcapiiknjdaaDoor

/-
  The ladder's numbers: the clamped number and its bits, and that a round more ahead changes nothing.
-/
namespace Go.Proofs.YthapcapiiknjdaaDoor
set_option maxRecDepth 100000

/-! ### the clamped number -/

/-! ### its bits -/
def kbit (K : Int) (n : Nat) : Bool := decide (K / 2 ^ n % 2 = 1)

/-! ### a round more ahead -/
theorem PP_dvd {x : Int} : PP ∣ x ↔ x % PP = 0 := ⟨Int.emod_eq_zero_of_dvd, Int.dvd_of_emod_eq_zero⟩
theorem pri_PP : Pri PP := by
  refine ⟨fun {x y} h => ?_, by decide, by decide⟩
  have h' : P25519 ∣ x.natAbs * y.natAbs := by
    rw [← Int.natAbs_mul]
    exact Int.ofNat_dvd_left.1 h
  rcases prm_P.mul h' with k | k
  · exact Or.inl (Int.ofNat_dvd_left.2 k)
  · exact Or.inr (Int.ofNat_dvd_left.2 k)
theorem fer {l : Int} (h : ¬ PP ∣ l) : l ^ (eInv + 1) % PP = 1 := by
  have h1 : 0 < l % PP := by
    have := Int.emod_nonneg l (show PP ≠ 0 by decide)
    rcases Int.lt_or_eq_of_le this with k | k
    · exact k
    · exact absurd (PP_dvd.2 k.symm) h
  have h2 := Int.emod_lt_of_pos l (show (0 : Int) < PP by decide)
  rw [← pwm l]
  obtain ⟨n, hn⟩ := Int.eq_ofNat_of_zero_le (show 0 ≤ l % PP by omega)
  rw [hn] at h1 h2 ⊢
  have hd : ¬ P25519 ∣ n := fun hd => by
    have h := Nat.le_of_dvd (by omega) hd
    have : ((P25519 : Nat) : Int) = PP := rfl
    omega
  have f := prm_P.fermat hd
  rw [← eInv_P] at f
  rw [PP_nat, ← Int.natCast_pow, ← Int.natCast_emod, f]
  rfl
end Go.Proofs.YthapcapiiknjdaaDoor

/-
  The ladder over first coordinates, on an Edwards curve and on its twist: numbers alone.
-/
namespace Go.Proofs.YthapcapiiknjdaaDoor
set_option maxRecDepth 100000

section
variable {P a d b s k : Int} {inv : Int → Int}

/-- The pair (u : v) stands for the points with this y; s is 1 or -1. -/
def Rep (P s : Int) (w : Int × Int) (y : Int) : Prop := P ∣ w.1 * (1 - y) - s * w.2 * (1 + y) ∧ ¬ (P ∣ w.1 ∧ P ∣ w.2)
def ldbl (k : Int) (w : Int × Int) : Int × Int :=
  ((w.1 + w.2) * (w.1 + w.2) * ((w.1 - w.2) * (w.1 - w.2)), ((w.1 + w.2) * (w.1 + w.2) - (w.1 - w.2) * (w.1 - w.2)) * ((w.1 + w.2) * (w.1 + w.2) + k * ((w.1 + w.2) * (w.1 + w.2) - (w.1 - w.2) * (w.1 - w.2))))
def lsum2 (p q : Int × Int) (x : Int) : Int × Int :=
  (((q.1 - q.2) * (p.1 + p.2) + (q.1 + q.2) * (p.1 - p.2)) * ((q.1 - q.2) * (p.1 + p.2) + (q.1 + q.2) * (p.1 - p.2)), x * (((q.1 - q.2) * (p.1 + p.2) - (q.1 + q.2) * (p.1 - p.2)) * ((q.1 - q.2) * (p.1 + p.2) - (q.1 + q.2) * (p.1 - p.2))))

theorem Rep.st (hP : Pri P) (hs : s = 1 ∨ s = -1) {w : Int × Int} {y : Int} (h : Rep P s w y) : P ∣ (w.1 - s * w.2) - y * (w.1 + s * w.2) ∧ ¬ P ∣ w.1 + s * w.2 := by
  have t : P ∣ (w.1 - s * w.2) - y * (w.1 + s * w.2) := dv2 h.1 h.1 (c1 := 1) (c2 := 0) (by grind)
  refine ⟨t, fun hS => h.2 ?_⟩
  have hT : P ∣ w.1 - s * w.2 := dv2 t hS (c1 := 1) (c2 := y) (by grind)
  have u : P ∣ 2 * w.1 := dv2 hS hT (c1 := 1) (c2 := 1) (by grind)
  have v : P ∣ 2 * w.2 := dv2 hS hT (c1 := s) (c2 := -s) (by rcases hs with rfl | rfl <;> grind)
  exact ⟨(hP.mul u).resolve_left hP.two, (hP.mul v).resolve_left hP.two⟩
/-- What the doubling needs of the curve's numbers. -/
structure Mon (P a d b s k : Int) : Prop where
  s1 : s = 1 ∨ s = -1
  bd : P ∣ b * (a - d) - d
  kb : 2 * k + 1 = s * (2 * b + 1)
  ad : ¬ P ∣ a - d
  a0 : ¬ P ∣ a
theorem Rep.dbl (hP : Pri P) (hC : Cpl P a d) (M : Mon P a d b s k) {w : Int × Int} {x y x2 y2 : Int} (h : Rep P s w y) (ho : On P a d x y) (hm : Sm P a d x y x y x2 y2) : Rep P s (ldbl k w) y2 := by
  obtain ⟨t, hS⟩ := h.st hP M.s1
  have E1 : P ∣ y ^ 2 - (1 + b * (1 - y ^ 2)) * (1 - a * x ^ 2) := cancel hP M.ad (dv2 ho M.bd (c1 := a) (c2 := -((1 - y ^ 2) * (1 - a * x ^ 2))) (by grind))
  have hq := hC.q ho ho
  have my := hm.y
  obtain ⟨U, V⟩ := w
  simp only at t hS
  have ST : ∃ S T, P ∣ T - y * S ∧ ¬ P ∣ S ∧ (ldbl k (U, V)).1 = S ^ 2 * T ^ 2 ∧ (ldbl k (U, V)).2 = s * (S ^ 2 - T ^ 2) * (S ^ 2 + b * (S ^ 2 - T ^ 2)) := by
    refine ⟨U + s * V, U - s * V, t, hS, ?_, ?_⟩
    · unfold ldbl
      rcases M.s1 with e | e <;> subst e <;> grind
    · unfold ldbl
      have kb := M.kb
      rcases M.s1 with e | e
      · subst e
        obtain rfl : k = b := by omega
        grind
      · subst e
        obtain rfl : k = -1 - b := by omega
        grind
  obtain ⟨S, T, hT, hS, e1, e2⟩ := ST
  have tau : P ∣ T ^ 2 - y ^ 2 * S ^ 2 := dv2 hT hT (c1 := T + y * S) (c2 := 0) (by grind)
  have ss : s * s = 1 := by rcases M.s1 with e | e <;> subst e <;> decide
  unfold Rep
  rw [e1, e2]
  constructor
  · have g1 : P ∣ S ^ 2 * T ^ 2 * (1 - y ^ 2) - (S ^ 2 - T ^ 2) * (S ^ 2 + b * (S ^ 2 - T ^ 2)) * (1 - a * x ^ 2) :=
      dv2 E1 tau (c1 := S ^ 4 * (1 - y ^ 2)) (c2 := S ^ 2 * (1 - y ^ 2) + (1 - a * x ^ 2) * (S ^ 2 * (1 + b * (1 - y ^ 2)) + b * (S ^ 2 * (1 - y ^ 2) - (T ^ 2 - y ^ 2 * S ^ 2)))) (by grind)
    refine cancel hP hq (dv3 g1 ho my (c1 := 2) (c2 := S ^ 2 * T ^ 2 - (S ^ 2 - T ^ 2) * (S ^ 2 + b * (S ^ 2 - T ^ 2))) (c3 := -(S ^ 2 * T ^ 2 + (S ^ 2 - T ^ 2) * (S ^ 2 + b * (S ^ 2 - T ^ 2)))) ?_)
    grind
  · rintro ⟨z1, z2⟩
    have zT : P ∣ T := by
      have h1 : P ∣ (S * T) * (S * T) := dv2 z1 z1 (c1 := 1) (c2 := 0) (by grind)
      rcases hP.mul h1 with h | h <;> exact (hP.mul h).resolve_left hS
    have z3 : P ∣ (1 + b) * (S ^ 2 * S ^ 2) := dv2 z2 zT (c1 := s) (c2 := T * (S ^ 2 + b * (S ^ 2 - T ^ 2)) + S ^ 2 * b * T) (by grind)
    have n2 : ¬ P ∣ S ^ 2 * S ^ 2 := by
      have n1 : ¬ P ∣ S ^ 2 := by rw [show S ^ 2 = S * S by grind]; exact nz_mul hP hS hS
      exact nz_mul hP n1 n1
    have z4 := cancel hP n2 z3
    exact M.a0 (dv2 z4 M.bd (c1 := a - d) (c2 := -1) (by grind))
theorem Rep.sum (hP : Pri P) (hC : Cpl P a d) (hs : s = 1 ∨ s = -1) {p q : Int × Int} {x x1 y1 x2 y2 xs ys xd yd : Int} (h1 : Rep P s p y1) (h2 : Rep P s q y2) (o1 : On P a d x1 y1) (o2 : On P a d x2 y2)
    (hm : Sm P a d x1 y1 x2 y2 xs ys) (hd : Sm P a d x1 y1 (-x2) y2 xd yd) (hx : P ∣ x * (1 - yd) - s * (1 + yd)) (hn : ¬ P ∣ 1 - yd) (h0 : ¬ P ∣ x) : Rep P s (lsum2 p q x) ys := by
  obtain ⟨t1, n1⟩ := h1.st hP hs
  obtain ⟨t2, n2⟩ := h2.st hP hs
  have hp := hC.p o1 o2
  have hq := hC.q o1 o2
  have D := dv2 o1 o2 (ed_diff x1 y1 x2 y2 a d)
  have dy : P ∣ yd * (1 + d * x1 * x2 * y1 * y2) - (y1 * y2 + a * x1 * x2) := dv2 hd.y hd.y (c1 := 1) (c2 := 0) (by grind)
  have sy := hm.y
  have ss : s * s = 1 := by rcases hs with e | e <;> subst e <;> decide
  have K : P ∣ (1 + ys) * (1 + yd) * (y1 - y2) ^ 2 - (1 - ys) * (1 - yd) * (y1 + y2) ^ 2 := by
    have g1 : P ∣ ((1 - d * x1 * x2 * y1 * y2) * (1 + ys)) * ((1 + d * x1 * x2 * y1 * y2) * (1 + yd)) * (y1 - y2) ^ 2 - ((1 - d * x1 * x2 * y1 * y2) * (1 - ys)) * ((1 + d * x1 * x2 * y1 * y2) * (1 - yd)) * (y1 + y2) ^ 2 := by
      generalize 1 - d * x1 * x2 * y1 * y2 = Q at *
      generalize 1 + d * x1 * x2 * y1 * y2 = R at *
      generalize y1 * y2 - a * x1 * x2 = X at *
      generalize y1 * y2 + a * x1 * x2 = Y at *
      refine dv3 D sy dy (c1 := 1) (c2 := R * (1 + yd) * (y1 - y2) ^ 2 + R * (1 - yd) * (y1 + y2) ^ 2) (c3 := (Q + X) * (y1 - y2) ^ 2 + (Q - X) * (y1 + y2) ^ 2) ?_
      grind
    refine cancel hP (nz_mul hP hq hp) (dv2 g1 g1 (c1 := 1) (c2 := 0) ?_)
    grind
  have M : P ∣ x * (1 + ys) * (y1 - y2) ^ 2 - s * (1 - ys) * (y1 + y2) ^ 2 := by
    refine cancel hP hn (dv2 K hx (c1 := s) (c2 := (1 + ys) * (y1 - y2) ^ 2) ?_)
    grind
  obtain ⟨U1, V1⟩ := p
  obtain ⟨U2, V2⟩ := q
  simp only at t1 n1 t2 n2
  have ST : ∃ S1 T1 S2 T2, P ∣ T1 - y1 * S1 ∧ ¬ P ∣ S1 ∧ P ∣ T2 - y2 * S2 ∧ ¬ P ∣ S2 ∧ (lsum2 (U1, V1) (U2, V2) x).1 = (S1 * T2 + S2 * T1) ^ 2 ∧ (lsum2 (U1, V1) (U2, V2) x).2 = x * (S1 * T2 - S2 * T1) ^ 2 := by
    refine ⟨U1 + s * V1, U1 - s * V1, U2 + s * V2, U2 - s * V2, t1, n1, t2, n2, ?_, ?_⟩
    · unfold lsum2
      rcases hs with e | e <;> subst e <;> grind
    · unfold lsum2
      rcases hs with e | e <;> subst e <;> grind
  obtain ⟨S1, T1, S2, T2, k1, m1, k2, m2, e1, e2⟩ := ST
  have f1 : P ∣ (S1 * T2 + S2 * T1) - S1 * S2 * (y1 + y2) := dv2 k1 k2 (c1 := S2) (c2 := S1) (by grind)
  have f2 : P ∣ (S1 * T2 - S2 * T1) - S1 * S2 * (y2 - y1) := dv2 k1 k2 (c1 := -S2) (c2 := S1) (by grind)
  unfold Rep
  rw [e1, e2]
  constructor
  · refine dv3 M f1 f2 (c1 := -(s * (S1 * S2) ^ 2)) (c2 := (1 - ys) * (S1 * T2 + S2 * T1 + S1 * S2 * (y1 + y2))) (c3 := -(s * x * (1 + ys) * (S1 * T2 - S2 * T1 + S1 * S2 * (y2 - y1)))) ?_
    grind
  · rintro ⟨z1, z2⟩
    have sq : ∀ z : Int, P ∣ z ^ 2 → P ∣ z := fun z hz => by
      rw [show z ^ 2 = z * z by grind] at hz
      exact (hP.mul hz).elim id id
    have z1' := sq _ z1
    have z2' := sq _ ((hP.mul z2).resolve_left h0)
    have y1z : P ∣ y1 := by
      have g : P ∣ y1 * (2 * (S1 * S2)) := dv3 z1' z2' k1 (c1 := 1) (c2 := -1) (c3 := -(2 * S2)) (by grind)
      exact cancel hP (nz_mul hP hP.two (nz_mul hP m1 m2)) g
    have y2z : P ∣ y2 := by
      have g : P ∣ y2 * (2 * (S1 * S2)) := dv3 z1' z2' k2 (c1 := 1) (c2 := 1) (c3 := -(2 * S1)) (by grind)
      exact cancel hP (nz_mul hP hP.two (nz_mul hP m1 m2)) g
    have a1 : P ∣ a * x1 ^ 2 - 1 := dv2 o1 y1z (c1 := 1) (c2 := -(y1 - d * x1 ^ 2 * y1)) (by grind)
    have a2 : P ∣ a * x2 ^ 2 - 1 := dv2 o2 y2z (c1 := 1) (c2 := -(y2 - d * x2 ^ 2 * y2)) (by grind)
    have ydv : P ∣ yd - a * x1 * x2 := dv2 dy y1z (c1 := 1) (c2 := y2 - yd * d * x1 * x2 * y2) (by grind)
    have yd1 : P ∣ (1 - yd) * (1 + yd) := dv3 ydv a1 a2 (c1 := -(yd + a * x1 * x2)) (c2 := -(a * x2 ^ 2)) (c3 := -1) (by grind)
    have yd2 : P ∣ 1 + yd := (hP.mul yd1).resolve_left hn
    have yx : P ∣ x * (1 - yd) := dv2 hx yd2 (c1 := 1) (c2 := s) (by grind)
    rcases hP.mul yx with h | h
    · exact h0 h
    · exact hn h
end
end Go.Proofs.YthapcapiiknjdaaDoor

/-
  The two curves of the ladder as numbers: squares and none, inverses, the group of each.
-/
namespace Go.Proofs.YthapcapiiknjdaaDoor
set_option maxRecDepth 100000

abbrev d0 : Int := 37095705934669439343138083508754565189542113879843219016388785533085940283555
abbrev i0 : Int := 19681161376707505956807079304988542015446066515923890162744021073123829784752
abbrev r0 : Int := 55487632915927625549282413919184614932259505768049324239291840100650878933168
theorem eI_H : eInv + 1 = 2 * eH := by decide +kernel
theorem fer2 {l : Int} (h : ¬ PP ∣ l) : l ^ (2 * eH) % PP = 1 := by rw [← eI_H]; exact fer h
def einv (c : Int) : Int := c ^ eInv
theorem einv_ok : ∀ c, ¬ PP ∣ c → PP ∣ einv c * c - 1 := fun c h => by
  have f := fer h
  unfold einv
  rw [← Int.pow_succ]
  refine PP_dvd.2 ?_
  rw [Int.sub_emod, f]
  rfl
theorem cong_dvd {x y : Int} (h : PP ∣ x - y) : x % PP = y % PP := Int.emod_eq_emod_iff_emod_sub_eq_zero.2 (PP_dvd.1 h)
theorem dvd_cong {x y : Int} (h : x % PP = y % PP) : PP ∣ x - y := PP_dvd.2 (Int.emod_eq_emod_iff_emod_sub_eq_zero.1 h)
/-- No square, by Euler's number. -/
theorem nsq_of {d : Int} (h : d ^ eH % PP = PP - 1) : NSq PP d := by
  intro r t hrt
  by_cases ht : PP ∣ t
  · exact ht
  exfalso
  have e := pow_mod (cong_dvd hrt) eH
  have et : (d * t ^ 2) ^ eH % PP = PP - 1 := by
    rw [Int.mul_pow, ← Int.pow_mul, Int.mul_emod, h, fer2 ht]
    decide
  rw [et] at e
  by_cases hr : PP ∣ r
  · have z : PP ∣ r ^ 2 := by rw [Int.pow_succ]; exact Int.dvd_mul_of_dvd_right hr
    have z2 : (r ^ 2) ^ eH % PP = 0 := by
      rw [show eH = eH - 1 + 1 from rfl, Int.pow_succ]
      exact PP_dvd.1 (Int.dvd_mul_of_dvd_right z)
    rw [z2] at e
    exact absurd e (by decide)
  · rw [← Int.pow_mul, fer2 hr] at e
    exact absurd e (by decide)
theorem i0_sq : PP ∣ i0 ^ 2 - (-1) := by decide +kernel
theorem i0_nz : ¬ PP ∣ i0 := by decide +kernel
theorem d0_half : d0 ^ eH % PP = PP - 1 := by
  have h : pm P25519 255 37095705934669439343138083508754565189542113879843219016388785533085940283555 eH = P25519 - 1 := by decide +kernel
  rw [pm_eq _ _ _ _ (by decide +kernel)] at h
  have h' : (((37095705934669439343138083508754565189542113879843219016388785533085940283555 : Nat) ^ eH % P25519 : Nat) : Int) = ((P25519 - 1 : Nat) : Int) := by rw [h]
  rw [Int.natCast_emod, Int.natCast_pow] at h'
  rw [PP_nat]
  exact h'
theorem nsqd : NSq PP d0 := nsq_of d0_half
/-- The curve itself, and its twist. -/
theorem crv1 : Crv PP (-1) d0 einv := ⟨pri_PP, cpl_of pri_PP i0_sq nsqd, einv_ok⟩
end Go.Proofs.YthapcapiiknjdaaDoor
