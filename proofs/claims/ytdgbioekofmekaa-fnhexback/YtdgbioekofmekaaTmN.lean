
/-
  The calendar and decimal digits: numbers alone.
-/
import Derived.Test.YtdgbioekofmekaaBase
namespace Go.Proofs.Ytdgbioekofmekaa

def leap (y : Int) : Bool := decide (y % 400 = 0) || (decide (y % 4 = 0) && !decide (y % 100 = 0))
def ydI (y : Int) : Int := if leap y = true then 366 else 365
def mdI (y m : Int) : Int := if m = 2 then (if leap y = true then 29 else 28) else if m = 4 ∨ m = 6 ∨ m = 9 ∨ m = 11 then 30 else 31
/-- The leap years ahead of y, and the days. -/
def lyA (y : Int) : Int := (y - 1) / 4 - (y - 1) / 100 + (y - 1) / 400
def dyA (y : Int) : Int := 365 * (y - 1970) + lyA y - 477
theorem leap_iff (y : Int) : leap y = true ↔ (y % 400 = 0 ∨ (y % 4 = 0 ∧ y % 100 ≠ 0)) := by unfold leap; simp
theorem dyA_step (y : Int) : dyA (y + 1) = dyA y + ydI y := by
  unfold dyA lyA ydI
  by_cases h : leap y = true
  · rw [if_pos h]; rw [leap_iff] at h; omega
  · rw [if_neg h]; rw [leap_iff] at h; omega
theorem dyA_first : dyA 1970 = 0 := by decide
theorem dyA_le (y : Int) (h : 1970 ≤ y) : dyA y ≤ 366 * (y - 1970) := by unfold dyA lyA; omega
theorem dyA_ge (y : Int) (h : 1970 ≤ y) : 365 * (y - 1970) ≤ dyA y := by unfold dyA lyA; omega
theorem ydI_bd (y : Int) : 365 ≤ ydI y ∧ ydI y ≤ 366 := by unfold ydI; split <;> omega
theorem mdI_bd (y m : Int) : 28 ≤ mdI y m ∧ mdI y m ≤ 31 := by unfold mdI; repeat' split
                                                               all_goals omega
theorem dyA_mono {x y : Int} (h : x ≤ y) : dyA x ≤ dyA y := by unfold dyA lyA; omega
/-- The days of the first k months. -/
def mdS (y : Int) : Nat → Int
  | 0 => 0
  | k + 1 => mdS y k + mdI y (k + 1)
theorem mdS_mono (y : Int) (k : Nat) : ∀ m, mdS y k ≤ mdS y (k + m)
  | 0 => Int.le_refl _
  | m + 1 => by have := mdS_mono y k m; have := mdI_bd y ((k + m : Nat) + 1 : Int); show _ ≤ mdS y (k + m) + mdI y ((k + m : Nat) + 1 : Int); omega
theorem mdS_all (y : Int) : mdS y 12 = ydI y := by
  unfold ydI
  by_cases h : leap y = true
  · rw [if_pos h]; simp [mdS, mdI, h]
  · rw [if_neg h]; simp [mdS, mdI, h]
/-- Day d (from 0 on) is that day (from 0 on) of that month (from 0 on) of that year. -/
def IsDay (d y : Int) (k : Nat) (x : Int) : Prop := 1970 ≤ y ∧ k < 12 ∧ 0 ≤ x ∧ x < mdI y (k + 1) ∧ d = dyA y + mdS y k + x
theorem IsDay.year {d y : Int} {k : Nat} {x : Int} (h : IsDay d y k x) : dyA y ≤ d ∧ d < dyA (y + 1) := by
  obtain ⟨h1, h2, h3, h4, h5⟩ := h
  have a := mdS_mono y 0 k
  have b := mdS_mono y (k + 1) (11 - k)
  rw [show k + 1 + (11 - k) = 12 by omega, mdS_all] at b
  rw [Nat.zero_add] at a
  have e : mdS y (k + 1) = mdS y k + mdI y (k + 1) := rfl
  have z : mdS y 0 = 0 := rfl
  rw [dyA_step]
  omega
theorem IsDay.uniq {d y y' : Int} {k k' : Nat} {x x' : Int} (h : IsDay d y k x) (h' : IsDay d y' k' x') : y = y' ∧ k = k' ∧ x = x' := by
  have a := h.year
  have a' := h'.year
  obtain rfl : y = y' := by
    rcases Int.lt_trichotomy y y' with l | l | l
    · have := dyA_mono (show y + 1 ≤ y' by omega); omega
    · exact l
    · have := dyA_mono (show y' + 1 ≤ y by omega); omega
  obtain ⟨h1, h2, h3, h4, h5⟩ := h
  obtain ⟨g1, g2, g3, g4, g5⟩ := h'
  have e : mdS y (k + 1) = mdS y k + mdI y (k + 1) := rfl
  have e' : mdS y (k' + 1) = mdS y k' + mdI y (k' + 1) := rfl
  obtain rfl : k = k' := by
    rcases Nat.lt_trichotomy k k' with l | l | l
    · have := mdS_mono y (k + 1) (k' - (k + 1)); rw [show k + 1 + (k' - (k + 1)) = k' by omega] at this; omega
    · exact l
    · have := mdS_mono y (k' + 1) (k - (k' + 1)); rw [show k' + 1 + (k - (k' + 1)) = k by omega] at this; omega
  exact ⟨rfl, rfl, by omega⟩
theorem isDay_some : ∀ n : Nat, ∃ y k x, IsDay (n : Int) y k x
  | 0 => ⟨1970, 0, 0, by omega, by omega, by omega, by decide, by decide⟩
  | n + 1 => by
    obtain ⟨y, k, x, h1, h2, h3, h4, h5⟩ := isDay_some n
    by_cases c : x + 1 < mdI y (k + 1)
    · exact ⟨y, k, x + 1, h1, h2, by omega, c, by omega⟩
    · by_cases c2 : k < 11
      · refine ⟨y, k + 1, 0, h1, by omega, by omega, ?_, ?_⟩
        · have := mdI_bd y ((k + 1 : Nat) + 1 : Int); omega
        · have e : mdS y (k + 1) = mdS y k + mdI y (k + 1) := rfl
          omega
      · obtain rfl : k = 11 := by omega
        refine ⟨y + 1, 0, 0, by omega, by omega, by omega, ?_, ?_⟩
        · have := mdI_bd (y + 1) ((0 : Nat) + 1 : Int); omega
        · have e : mdS y 12 = mdS y 11 + mdI y ((11 : Nat) + 1) := rfl
          have z : mdS (y + 1) 0 = 0 := rfl
          rw [mdS_all] at e
          rw [dyA_step]
          omega
/-- n digits of v, the highest first. -/
def dgs (n : Nat) (v : Int) : List Int := fill (fun j => 48 + v / 10 ^ (n - 1 - j) % 10) n
theorem dgs_len (n : Nat) (v : Int) : (dgs n v).length = n := fill_len _ _
theorem dgs_get (n : Nat) (v : Int) (j : Nat) (h : j < n) : (dgs n v).getD j 0 = 48 + v / 10 ^ (n - 1 - j) % 10 := fill_get _ _ _ h
theorem dgs_byt (n : Nat) (v : Int) : Byt (dgs n v) := fun i => by
  by_cases h : i < n
  · rw [dgs_get n v i h]; omega
  · rw [List.getD_eq_getElem?_getD, List.getElem?_eq_none (by rw [dgs_len]; omega)]; decide
theorem p10_pos (k : Nat) : (0 : Int) < 10 ^ k := Int.pow_pos (by decide)
theorem getD_app_l (a b : List Int) (i : Nat) (h : i < a.length) : (a ++ b).getD i 0 = a.getD i 0 := by
  rw [List.getD_eq_getElem?_getD, List.getD_eq_getElem?_getD, List.getElem?_append_left h]
theorem getD_app_r (a b : List Int) (i : Nat) (h : a.length ≤ i) : (a ++ b).getD i 0 = b.getD (i - a.length) 0 := by
  rw [List.getD_eq_getElem?_getD, List.getD_eq_getElem?_getD, List.getElem?_append_right h]
theorem dgs_app (a b : Nat) (x y : Int) (h0 : 0 ≤ y) (h1 : y < 10 ^ b) : dgs a x ++ dgs b y = dgs (a + b) (x * 10 ^ b + y) := by
  refine eq_of_getD (by simp [dgs_len]) fun i hi => ?_
  rw [List.length_append, dgs_len, dgs_len] at hi
  rw [dgs_get _ _ _ hi]
  by_cases c : i < a
  · rw [getD_app_l _ _ _ (by rw [dgs_len]; exact c), dgs_get _ _ _ c]
    rw [show a + b - 1 - i = b + (a - 1 - i) by omega, Int.pow_add, ← Int.ediv_ediv_of_nonneg (Int.le_of_lt (p10_pos b)), Int.add_comm (x * 10 ^ b), Int.add_mul_ediv_right _ _ (Int.ne_of_gt (p10_pos b)), Int.ediv_eq_zero_of_lt h0 h1, Int.zero_add]
  · rw [getD_app_r _ _ _ (by rw [dgs_len]; omega), dgs_len, dgs_get _ _ _ (by omega)]
    have e : (10 : Int) ^ b = 10 ^ (b - 1 - (i - a)) * (10 ^ (i - a) * 10) := by
      rw [← Int.mul_assoc, ← Int.pow_add, ← Int.pow_succ]; congr 1; omega
    rw [show a + b - 1 - i = b - 1 - (i - a) by omega]
    have hp := p10_pos (b - 1 - (i - a))
    rw [e, show x * (10 ^ (b - 1 - (i - a)) * (10 ^ (i - a) * 10)) + y = y + (x * (10 ^ (i - a) * 10)) * 10 ^ (b - 1 - (i - a)) by
      generalize (10 : Int) ^ (b - 1 - (i - a)) = p; generalize (10 : Int) ^ (i - a) = q; grind]
    rw [Int.add_mul_ediv_right _ _ (Int.ne_of_gt hp), ← Int.mul_assoc, Int.add_mul_emod_self_right]
/-- The number that n digits tell. -/
def dvK (b : List Int) : Nat → Int
  | 0 => 0
  | k + 1 => dvK b k * 10 + (b.getD k 0 - 48)
def dv (b : List Int) : Int := dvK b b.length
def Dgt (b : List Int) : Prop := ∀ i, i < b.length → 48 ≤ b.getD i 0 ∧ b.getD i 0 ≤ 57
theorem dvK_bd {b : List Int} (hb : Dgt b) : ∀ k, k ≤ b.length → 0 ≤ dvK b k ∧ dvK b k < 10 ^ k
  | 0, _ => by simp [dvK]
  | k + 1, h => by
    have ih := dvK_bd hb k (by omega)
    have hx := hb k (by omega)
    show 0 ≤ dvK b k * 10 + (b.getD k 0 - 48) ∧ dvK b k * 10 + (b.getD k 0 - 48) < _
    rw [Int.pow_succ]
    omega
theorem dvK_div {b : List Int} (hb : Dgt b) (k : Nat) : ∀ m, k + m ≤ b.length → dvK b (k + m) / 10 ^ m = dvK b k
  | 0, _ => by simp
  | m + 1, h => by
    have ih := dvK_div hb k m (by omega)
    have hx := hb (k + m) (by omega)
    have e : dvK b (k + (m + 1)) = dvK b (k + m) * 10 + (b.getD (k + m) 0 - 48) := rfl
    rw [Nat.add_comm m 1, Int.pow_add, ← Int.ediv_ediv_of_nonneg (by decide), Nat.add_comm 1 m, e, show ((10 : Int) ^ 1) = 10 from rfl]
    rw [show (dvK b (k + m) * 10 + (b.getD (k + m) 0 - 48)) / 10 = dvK b (k + m) by omega]
    exact ih
theorem dgs_dv {b : List Int} (hb : Dgt b) : dgs b.length (dv b) = b := by
  refine eq_of_getD (dgs_len _ _) fun i hi => ?_
  rw [dgs_len] at hi
  rw [dgs_get _ _ _ hi]
  have := dvK_div hb (i + 1) (b.length - 1 - i) (by omega)
  rw [show i + 1 + (b.length - 1 - i) = b.length by omega] at this
  unfold dv
  rw [this]
  have hx := hb i hi
  show 48 + (dvK b i * 10 + (b.getD i 0 - 48)) % 10 = _
  omega
theorem dvK_dgs {n : Nat} {v : Int} (h0 : 0 ≤ v) (h1 : v < 10 ^ n) : ∀ k, k ≤ n → dvK (dgs n v) k = v / 10 ^ (n - k)
  | 0, _ => by
    show 0 = _
    rw [Nat.sub_zero, Int.ediv_eq_zero_of_lt h0 h1]
  | k + 1, hk => by
    have ih := dvK_dgs h0 h1 k (by omega)
    show dvK (dgs n v) k * 10 + ((dgs n v).getD k 0 - 48) = _
    rw [ih, dgs_get n v k (by omega)]
    have p : (10 : Int) ^ (n - k) = 10 ^ (n - 1 - k) * 10 := by rw [← Int.pow_succ]; congr 1; omega
    rw [p, ← Int.ediv_ediv_of_nonneg (Int.le_of_lt (p10_pos _)), show n - (k + 1) = n - 1 - k by omega]
    generalize v / 10 ^ (n - 1 - k) = t
    omega
theorem dv_dgs {n : Nat} {v : Int} (h0 : 0 ≤ v) (h1 : v < 10 ^ n) : dv (dgs n v) = v := by
  have := dvK_dgs h0 h1 n (Nat.le_refl _)
  unfold dv
  rw [dgs_len, this]
  simp
theorem dgs_dgt (n : Nat) (v : Int) : Dgt (dgs n v) := fun i hi => by
  rw [dgs_len] at hi
  rw [dgs_get _ _ _ hi]
  omega
/-- The parts of a time as one number. -/
def pts (y : Int) (k : Nat) (x s : Int) : Int := ((((y * 100 + (k + 1)) * 100 + (x + 1)) * 100 + s / 3600) * 100 + s / 60 % 60) * 100 + s % 60
/-- What EncodeTime answers. -/
def EtIs (t : Int) (L : List Int) : Prop := ((0 ≤ t ∧ t ≤ 253402300799) ∧ ∃ y k x, IsDay (t / 86400) y k x ∧ L = dgs 14 (pts y k x (t % 86400)) ++ [90]) ∨ (¬ (0 ≤ t ∧ t ≤ 253402300799) ∧ L = [])
theorem EtIs.uniq {t : Int} {L M : List Int} (h : EtIs t L) (k : EtIs t M) : L = M := by
  rcases h with ⟨h, y, a, x, hd, rfl⟩ | ⟨h, rfl⟩
  · rcases k with ⟨_, y', a', x', hd', rfl⟩ | ⟨k, _⟩
    · obtain ⟨rfl, rfl, rfl⟩ := hd.uniq hd'; rfl
    · exact absurd h k
  · rcases k with ⟨k, _⟩ | ⟨_, rfl⟩
    · exact absurd k h
    · rfl
theorem etIs_some (t : Int) : ∃ L, EtIs t L := by
  by_cases h : 0 ≤ t ∧ t ≤ 253402300799
  · obtain ⟨n, hn⟩ := Int.eq_ofNat_of_zero_le (show 0 ≤ t / 86400 by omega)
    obtain ⟨y, k, x, hd⟩ := isDay_some n
    exact ⟨_, .inl ⟨h, y, k, x, by rw [hn]; exact hd, rfl⟩⟩
  · exact ⟨[], .inr ⟨h, rfl⟩⟩
theorem EtIs.len {t : Int} {L : List Int} (h : EtIs t L) : L.length ≤ 15 := by
  rcases h with ⟨_, _, _, _, _, rfl⟩ | ⟨_, rfl⟩
  · simp [dgs_len]
  · simp
theorem IsDay.year_le {t y : Int} {k : Nat} {x : Int} (h : IsDay (t / 86400) y k x) (ht : t ≤ 253402300799) : y ≤ 9999 := by
  have a := h.year
  by_cases c : y ≤ 9999
  · exact c
  · have := dyA_mono (show 10000 ≤ y by omega)
    have e : dyA 10000 = 2932897 := by decide
    omega
end Go.Proofs.Ytdgbioekofmekaa
