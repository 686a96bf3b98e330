
namespace Go.Proofs.YtkglcainhkbgbaaGreatDoor
set_option maxRecDepth 100000
def Prm (p : Nat) : Prop := 2 ≤ p ∧ ∀ d, d ∣ p → d = 1 ∨ d = p
theorem Prm.cop {p : Nat} (h : Prm p) (a : Nat) (ha : ¬ p ∣ a) : Nat.gcd p a = 1 := by
  rcases h.2 (Nat.gcd p a) (Nat.gcd_dvd_left p a) with e | e
  · exact e
  · exact absurd (e ▸ Nat.gcd_dvd_right p a) ha
theorem Prm.mul {p : Nat} (h : Prm p) {a b : Nat} (hd : p ∣ a * b) : p ∣ a ∨ p ∣ b := by
  by_cases ha : p ∣ a
  · exact Or.inl ha
  · exact Or.inr (Nat.Coprime.dvd_of_dvd_mul_left (h.cop a ha) hd)
def chs : Nat → Nat → Nat
  | _, 0 => 1
  | 0, _ + 1 => 0
  | n + 1, k + 1 => chs n k + chs n (k + 1)
theorem chs_zero (n : Nat) : chs n 0 = 1 := by cases n <;> rfl
theorem chs_past : ∀ n k, n < k → chs n k = 0
  | 0, 0, h => absurd h (by omega)
  | 0, k + 1, _ => rfl
  | n + 1, 0, h => absurd h (by omega)
  | n + 1, k + 1, h => by rw [chs, chs_past n k (by omega), chs_past n (k + 1) (by omega)]
theorem chs_self : ∀ n, chs n n = 1
  | 0 => rfl
  | n + 1 => by rw [chs, chs_self n, chs_past n (n + 1) (by omega)]
theorem chs_absorb : ∀ n k, (k + 1) * chs (n + 1) (k + 1) = (n + 1) * chs n k
  | 0, 0 => rfl
  | 0, k + 1 => by
    have e : chs (0 + 1) (k + 1 + 1) = chs 0 (k + 1) + chs 0 (k + 1 + 1) := rfl
    rw [e, chs_past 0 (k + 1) (by omega), chs_past 0 (k + 1 + 1) (by omega)]; rfl
  | n + 1, 0 => by
    have h := chs_absorb n 0
    have e : chs (n + 1 + 1) (0 + 1) = chs (n + 1) 0 + chs (n + 1) (0 + 1) := rfl
    rw [chs_zero] at h e
    rw [e, chs_zero]; omega
  | n + 1, k + 1 => by
    have h1 := chs_absorb n k
    have h2 := chs_absorb n (k + 1)
    have e1 : chs (n + 1 + 1) (k + 1 + 1) = chs (n + 1) (k + 1) + chs (n + 1) (k + 1 + 1) := by rw [chs]
    have e2 : chs (n + 1) (k + 1) = chs n k + chs n (k + 1) := by rw [chs]
    rw [e1, Nat.mul_add, h2, show k + 1 + 1 = (k + 1) + 1 by rfl, Nat.add_mul (k + 1) 1, h1, Nat.one_mul, e2, Nat.mul_add, Nat.add_mul (n + 1) 1, Nat.one_mul]
    rw [Nat.add_mul (n + 1) 1, Nat.one_mul]
    omega
def sm (f : Nat → Nat) : Nat → Nat
  | 0 => 0
  | n + 1 => sm f n + f n
theorem sm_mul (f : Nat → Nat) (c : Nat) : ∀ n, sm (fun k => c * f k) n = c * sm f n
  | 0 => rfl
  | n + 1 => by rw [sm, sm, sm_mul f c n, Nat.mul_add]
theorem sm_add (f g : Nat → Nat) : ∀ n, sm (fun k => f k + g k) n = sm f n + sm g n
  | 0 => rfl
  | n + 1 => by simp only [sm]; rw [sm_add f g n]; omega
theorem sm_head (f : Nat → Nat) : ∀ n, sm f (n + 1) = f 0 + sm (fun k => f (k + 1)) n
  | 0 => by simp [sm]
  | n + 1 => by rw [sm, sm_head f n]; simp only [sm]; omega
theorem sm_congr {f g : Nat → Nat} : ∀ n, (∀ k, k < n → f k = g k) → sm f n = sm g n
  | 0, _ => rfl
  | n + 1, h => by rw [sm, sm, sm_congr n (fun k hk => h k (by omega)), h n (by omega)]
theorem sm_dvd {f : Nat → Nat} (p : Nat) : ∀ n, (∀ k, k < n → p ∣ f k) → p ∣ sm f n
  | 0, _ => Nat.dvd_zero p
  | n + 1, h => by rw [sm]; exact Nat.dvd_add (sm_dvd p n (fun k hk => h k (by omega))) (h n (by omega))
theorem binom (a : Nat) : ∀ n, (a + 1) ^ n = sm (fun k => chs n k * a ^ k) (n + 1)
  | 0 => by simp [sm, chs]
  | n + 1 => by
    have e1 : sm (fun k => chs n k * a ^ k) (n + 1) = 1 + sm (fun k => chs n (k + 1) * a ^ (k + 1)) n := by
      rw [sm_head]; simp [chs_zero]
    have e2 : sm (fun k => chs n (k + 1) * a ^ (k + 1)) (n + 1) = sm (fun k => chs n (k + 1) * a ^ (k + 1)) n := by
      rw [sm, chs_past n (n + 1) (by omega)]; omega
    rw [sm_head, Nat.pow_succ, binom a n, Nat.mul_add, Nat.mul_one, Nat.mul_comm, ← sm_mul]
    have e3 : sm (fun k => chs (n + 1) (k + 1) * a ^ (k + 1)) (n + 1) = sm (fun k => a * (chs n k * a ^ k) + chs n (k + 1) * a ^ (k + 1)) (n + 1) :=
      sm_congr _ (fun k _ => by rw [chs, Nat.add_mul]; congr 1; rw [Nat.pow_succ, ← Nat.mul_assoc, Nat.mul_comm])
    rw [e3, sm_add, e2, e1, chs_zero, Nat.pow_zero]
    omega
theorem Prm.chs {p : Nat} (h : Prm p) {k : Nat} (h0 : 0 < k) (h1 : k < p) : p ∣ chs p k := by
  obtain ⟨q, rfl⟩ : ∃ q, p = q + 1 := ⟨p - 1, by omega⟩
  obtain ⟨j, rfl⟩ : ∃ j, k = j + 1 := ⟨k - 1, by omega⟩
  have hd : q + 1 ∣ (j + 1) * Go.Proofs.YtkglcainhkbgbaaGreatDoor.chs (q + 1) (j + 1) := by rw [chs_absorb]; exact Nat.dvd_mul_right _ _
  rcases h.mul hd with e | e
  · exact absurd (Nat.le_of_dvd (by omega) e) (by omega)
  · exact e
theorem Prm.little {p : Nat} (h : Prm p) : ∀ a, a ^ p % p = a % p
  | 0 => by
    have := h.1
    rw [Nat.zero_pow (by omega)]
  | a + 1 => by
    have ih := h.little a
    have hp := h.1
    obtain ⟨q, rfl⟩ : ∃ q, p = q + 1 := ⟨p - 1, by omega⟩
    rw [binom, sm, sm_head]
    simp only [chs_self, chs_zero, Nat.pow_zero, Nat.mul_one, Nat.one_mul]
    have hd : q + 1 ∣ sm (fun k => Go.Proofs.YtkglcainhkbgbaaGreatDoor.chs (q + 1) (k + 1) * a ^ (k + 1)) q :=
      sm_dvd _ _ (fun k hk => Nat.dvd_trans (h.chs (by omega) (by omega)) (Nat.dvd_mul_right _ _))
    obtain ⟨c, hc⟩ := hd
    rw [hc, Nat.add_mod, ih, Nat.add_mul_mod_self_left]
    rw [← Nat.add_mod, Nat.add_comm]
theorem Prm.fermat {p : Nat} (h : Prm p) {a : Nat} (ha : ¬ p ∣ a) : a ^ (p - 1) % p = 1 := by
  have hp := h.1
  have h1 := h.little a
  obtain ⟨q, rfl⟩ : ∃ q, p = q + 1 := ⟨p - 1, by omega⟩
  rw [Nat.add_sub_cancel]
  have hpos : 0 < a := Nat.pos_of_ne_zero (fun e => ha (e ▸ Nat.dvd_zero _))
  have h2 : q + 1 ∣ a ^ (q + 1) - a := Nat.dvd_of_mod_eq_zero (Nat.sub_mod_eq_zero_of_mod_eq h1)
  rw [show a ^ (q + 1) - a = a * (a ^ q - 1) by rw [Nat.mul_sub, Nat.mul_one, Nat.pow_succ, Nat.mul_comm]] at h2
  rcases h.mul h2 with e | e
  · exact absurd e ha
  · obtain ⟨c, hc⟩ := e
    have h3 : 0 < a ^ q := Nat.pow_pos hpos
    rw [show a ^ q = 1 + (q + 1) * c by omega, Nat.add_mul_mod_self_left, Nat.mod_eq_of_lt (by omega)]
theorem pow_gcd {m x : Nat} : ∀ a b, x ^ a % m = 1 % m → x ^ b % m = 1 % m → x ^ (Nat.gcd a b) % m = 1 % m := by
  intro a b
  induction a, b using Nat.gcd.induction with
  | H0 b => intro _ h; rw [Nat.gcd_zero_left]; exact h
  | H1 a b ha ih =>
    intro h1 h2
    rw [Nat.gcd_rec]
    refine ih ?_ h1
    rw [← Nat.div_add_mod b a, Nat.pow_add, Nat.pow_mul, Nat.mul_mod, Nat.pow_mod, h1, ← Nat.pow_mod, Nat.one_pow, ← Nat.mul_mod, Nat.one_mul] at h2
    exact h2
theorem prime_factor : ∀ n : Nat, 2 ≤ n → ∃ p, Prm p ∧ p ∣ n := by
  intro n
  induction n using Nat.strongRecOn with
  | _ n ih =>
    intro hn
    by_cases h : ∃ d, d ∣ n ∧ d ≠ 1 ∧ d ≠ n
    · obtain ⟨d, hd, h1, h2⟩ := h
      have hle := Nat.le_of_dvd (by omega) hd
      have h0 : d ≠ 0 := fun e => by subst e; have := Nat.eq_zero_of_zero_dvd hd; omega
      obtain ⟨p, hp, hpd⟩ := ih d (by omega) (by omega)
      exact ⟨p, hp, Nat.dvd_trans hpd hd⟩
    · refine ⟨n, ⟨hn, fun d hd => ?_⟩, Nat.dvd_refl n⟩
      by_cases h1 : d = 1
      · exact Or.inl h1
      · by_cases h2 : d = n
        · exact Or.inr h2
        · exact absurd ⟨d, hd, h1, h2⟩ h
theorem prime_of_small {n : Nat} (hn : 2 ≤ n) (h : ∀ p, Prm p → p ∣ n → n < p * p) : Prm n := by
  refine ⟨hn, fun d hd => ?_⟩
  by_cases h1 : d = 1
  · exact Or.inl h1
  by_cases h2 : d = n
  · exact Or.inr h2
  exfalso
  obtain ⟨c, rfl⟩ := hd
  have hd0 : d ≠ 0 := fun e => by subst e; omega
  have hc0 : c ≠ 0 := fun e => by subst e; omega
  have hc1 : c ≠ 1 := fun e => by subst e; omega
  by_cases hle : d ≤ c
  · obtain ⟨p, hp, hpd⟩ := prime_factor d (by omega)
    have := h p hp (Nat.dvd_trans hpd (Nat.dvd_mul_right _ _))
    have hpl := Nat.le_of_dvd (by omega) hpd
    have := Nat.mul_le_mul hpl (Nat.le_trans hpl hle)
    omega
  · obtain ⟨p, hp, hpd⟩ := prime_factor c (by omega)
    have := h p hp (Nat.dvd_trans hpd (Nat.dvd_mul_left _ _))
    have hpl := Nat.le_of_dvd (by omega) hpd
    have := Nat.mul_le_mul (show p ≤ d by omega) hpl
    omega
theorem pock {n q g h : Nat} (hn : 2 ≤ n) (hq : Prm q) (hd : q ∣ n - 1) (h1 : g ^ (n - 1) % n = 1) (hh : g ^ ((n - 1) / q) % n = h) (hg : Nat.gcd (h + n - 1) n = 1) (p : Nat) (hp : Prm p) (hpn : p ∣ n) : q ∣ p - 1 := by
  have hp2 := hp.1
  have m1 : ∀ x y : Nat, x % n = y % n → x % p = y % p := fun x y e => by
    rw [← Nat.mod_mod_of_dvd x hpn, e, Nat.mod_mod_of_dvd y hpn]
  have ga : ¬ p ∣ g := fun e => by
    have := m1 (g ^ (n - 1)) 1 (by rw [h1, Nat.mod_eq_of_lt (by omega)])
    have h0 : g ^ (n - 1) % p = 0 := Nat.mod_eq_zero_of_dvd (Nat.dvd_trans e (by rw [show n - 1 = (n - 2) + 1 by omega, Nat.pow_succ]; exact Nat.dvd_mul_left _ _))
    rw [h0, Nat.mod_eq_of_lt (by omega)] at this
    omega
  have hf := hp.fermat ga
  by_cases hqp : q ∣ p - 1
  · exact hqp
  exfalso
  have hc : Nat.gcd q (p - 1) = 1 := hq.cop _ hqp
  obtain ⟨k, hk⟩ := hd
  have hq0 : 0 < q := by have := hq.1; omega
  rw [hk, Nat.mul_div_cancel_left k hq0] at hh
  have e1 : (g ^ k) ^ q % p = 1 % p := by
    rw [← Nat.pow_mul, Nat.mul_comm, ← hk]
    exact m1 _ _ (by rw [h1, Nat.mod_eq_of_lt (by omega)])
  have e2 : (g ^ k) ^ (p - 1) % p = 1 % p := by
    rw [← Nat.pow_mul, Nat.mul_comm, Nat.pow_mul, Nat.pow_mod, hf, Nat.one_pow]
  have e3 := pow_gcd _ _ e1 e2
  rw [hc, Nat.pow_one] at e3
  have e4 : h % p = 1 % p := by rw [← hh, Nat.mod_mod_of_dvd _ hpn]; exact e3
  have e5 : p ∣ h + n - 1 := by
    apply Nat.dvd_of_mod_eq_zero
    apply Nat.sub_mod_eq_zero_of_mod_eq
    obtain ⟨c, rfl⟩ := hpn
    rw [Nat.add_mul_mod_self_left, e4]
  have := Nat.dvd_gcd e5 hpn
  rw [hg] at this
  have := Nat.le_of_dvd (by omega) this
  omega
theorem prime_by_one {n q g h : Nat} (hn : 2 ≤ n) (hq : Prm q) (hd : q ∣ n - 1) (h1 : g ^ (n - 1) % n = 1) (hh : g ^ ((n - 1) / q) % n = h) (hg : Nat.gcd (h + n - 1) n = 1) (hbig : n < (q + 1) * (q + 1)) : Prm n :=
  prime_of_small hn fun p hp hpn => by
    have h0 := Nat.le_of_dvd (by have := hp.1; omega) (pock hn hq hd h1 hh hg p hp hpn)
    have := Nat.mul_le_mul (show q + 1 ≤ p by have := hp.1; omega) (show q + 1 ≤ p by have := hp.1; omega)
    omega
theorem prime_by_two {n q r g h i : Nat} (hn : 2 ≤ n) (hq : Prm q) (hr : Prm r) (hqr : Nat.gcd q r = 1) (hd : q ∣ n - 1) (hd' : r ∣ n - 1) (h1 : g ^ (n - 1) % n = 1) (hh : g ^ ((n - 1) / q) % n = h) (hi : g ^ ((n - 1) / r) % n = i)
    (hg : Nat.gcd (h + n - 1) n = 1) (hg' : Nat.gcd (i + n - 1) n = 1) (hbig : n < (q * r + 1) * (q * r + 1)) : Prm n :=
  prime_of_small hn fun p hp hpn => by
    have d1 := pock hn hq hd h1 hh hg p hp hpn
    have d2 := pock hn hr hd' h1 hi hg' p hp hpn
    have h0 := Nat.le_of_dvd (by have := hp.1; omega) (Nat.Coprime.mul_dvd_of_dvd_of_dvd hqr d1 d2)
    have := Nat.mul_le_mul (show q * r + 1 ≤ p by have := hp.1; omega) (show q * r + 1 ≤ p by have := hp.1; omega)
    omega
def pm (n : Nat) : Nat → Nat → Nat → Nat
  | 0, _, _ => 1 % n
  | f + 1, b, e => if e % 2 = 1 then pm n f (b * b % n) (e / 2) * b % n else pm n f (b * b % n) (e / 2)
theorem pm_eq (n : Nat) : ∀ f b e, e < 2 ^ f → pm n f b e = b ^ e % n
  | 0, b, e, h => by
    obtain rfl : e = 0 := by simpa using h
    rfl
  | f + 1, b, e, h => by
    have hs := pm_eq n f (b * b % n) (e / 2) (by rw [Nat.pow_succ] at h; omega)
    have e1 : (b * b % n) ^ (e / 2) % n = b ^ (2 * (e / 2)) % n := by
      rw [← Nat.pow_mod, Nat.pow_mul, Nat.pow_two]
    rw [pm, hs, e1]
    by_cases h2 : e % 2 = 1
    · rw [if_pos h2]
      have e2 : b ^ e = b ^ (2 * (e / 2)) * b := by rw [← Nat.pow_succ]; congr 1; omega
      rw [e2, Nat.mod_mul_mod]
    · rw [if_neg h2]
      congr 2; omega
def trial (n : Nat) : Nat → Bool
  | 0 => true
  | k + 1 => n % (k + 2) != 0 && trial n k
theorem trial_ok (n : Nat) : ∀ k, trial n k = true → ∀ d, 2 ≤ d → d < k + 2 → ¬ d ∣ n
  | 0, _, d, h1, h2 => absurd h2 (by omega)
  | k + 1, h, d, h1, h2 => by
    simp only [trial, Bool.and_eq_true, bne_iff_ne, ne_eq] at h
    by_cases e : d = k + 2
    · subst e
      exact fun hd => h.1 (Nat.mod_eq_zero_of_dvd hd)
    · exact trial_ok n k h.2 d h1 (by omega)
theorem prime_by_trial {n k : Nat} (hn : 2 ≤ n) (hk : n < (k + 2) * (k + 2)) (ht : trial n k = true) : Prm n :=
  prime_of_small hn fun p hp hpn => by
    have h1 := hp.1
    by_cases h : p < k + 2
    · exact absurd hpn (trial_ok n k ht p h1 h)
    · have := Nat.mul_le_mul (show k + 2 ≤ p by omega) (show k + 2 ≤ p by omega)
      omega
theorem prm_97 : Prm 97 := prime_by_trial (k := 8) (by decide) (by decide) (by decide)
theorem prm_103 : Prm 103 := prime_by_trial (k := 9) (by decide) (by decide) (by decide)
theorem prm_127 : Prm 127 := prime_by_trial (k := 10) (by decide) (by decide) (by decide)
theorem prm_419 : Prm 419 := prime_by_trial (k := 19) (by decide) (by decide) (by decide)
theorem prm_991 : Prm 991 := prime_by_trial (k := 30) (by decide) (by decide) (by decide)
theorem prm_1723 : Prm 1723 := prime_by_trial (k := 40) (by decide) (by decide) (by decide)
theorem prm_4153 : Prm 4153 := prime_by_trial (k := 63) (by decide) (by decide) (by decide)
theorem cert_one {n q f h : Nat} (hn : 2 ≤ n) (hf : n - 1 < 2 ^ f) (hq : Prm q) (hd : q ∣ n - 1) (h1 : pm n f 2 (n - 1) = 1) (hh : pm n f 2 ((n - 1) / q) = h) (hg : Nat.gcd (h + n - 1) n = 1) (hbig : n < (q + 1) * (q + 1)) : Prm n :=
  prime_by_one hn hq hd (by rw [← pm_eq n f 2 _ hf]; exact h1) (by rw [← pm_eq n f 2 _ (Nat.lt_of_le_of_lt (Nat.div_le_self _ _) hf)]; exact hh) hg hbig
theorem cert_two {n q r f h i : Nat} (hn : 2 ≤ n) (hf : n - 1 < 2 ^ f) (hq : Prm q) (hr : Prm r) (hqr : Nat.gcd q r = 1) (hd : q ∣ n - 1) (hd' : r ∣ n - 1) (h1 : pm n f 2 (n - 1) = 1) (hh : pm n f 2 ((n - 1) / q) = h) (hi : pm n f 2 ((n - 1) / r) = i)
    (hg : Nat.gcd (h + n - 1) n = 1) (hg' : Nat.gcd (i + n - 1) n = 1) (hbig : n < (q * r + 1) * (q * r + 1)) : Prm n :=
  prime_by_two hn hq hr hqr hd hd' (by rw [← pm_eq n f 2 _ hf]; exact h1) (by rw [← pm_eq n f 2 _ (Nat.lt_of_le_of_lt (Nat.div_le_self _ _) hf)]; exact hh)
    (by rw [← pm_eq n f 2 _ (Nat.lt_of_le_of_lt (Nat.div_le_self _ _) hf)]; exact hi) hg hg' hbig
theorem prm_430751 : Prm 430751 := cert_one (f := 19) (h := 293176) (by decide +kernel) (by decide +kernel) prm_1723 (by decide +kernel) (by decide +kernel) (by decide +kernel) (by decide +kernel) (by decide +kernel)
theorem prm_569003 : Prm 569003 := cert_two (f := 20) (h := 236160) (i := 439588) (by decide +kernel) (by decide +kernel) prm_419 prm_97 (by decide +kernel) (by decide +kernel) (by decide +kernel) (by decide +kernel) (by decide +kernel) (by decide +kernel) (by decide +kernel) (by decide +kernel) (by decide +kernel)
theorem prm_8574133 : Prm 8574133 := cert_two (f := 24) (h := 3435729) (i := 4321357) (by decide +kernel) (by decide +kernel) prm_991 prm_103 (by decide +kernel) (by decide +kernel) (by decide +kernel) (by decide +kernel) (by decide +kernel) (by decide +kernel) (by decide +kernel) (by decide +kernel) (by decide +kernel)
theorem prm_2773320623 : Prm 2773320623 := cert_one (f := 32) (h := 2039232613) (by decide +kernel) (by decide +kernel) prm_569003 (by decide +kernel) (by decide +kernel) (by decide +kernel) (by decide +kernel) (by decide +kernel)
theorem prm_72106336199 : Prm 72106336199 := cert_one (f := 37) (h := 67108864) (by decide +kernel) (by decide +kernel) prm_2773320623 (by decide +kernel) (by decide +kernel) (by decide +kernel) (by decide +kernel) (by decide +kernel)
theorem prm_191951956938n16 : Prm 1919519569386763 := cert_two (f := 51) (h := 1059928654987441) (i := 576774792492622) (by decide +kernel) (by decide +kernel) prm_8574133 prm_127 (by decide +kernel) (by decide +kernel) (by decide +kernel) (by decide +kernel) (by decide +kernel) (by decide +kernel) (by decide +kernel) (by decide +kernel) (by decide +kernel)
theorem prm_317577555688n17 : Prm 31757755568855353 := cert_two (f := 55) (h := 15280470251845350) (i := 28256283979054930) (by decide +kernel) (by decide +kernel) prm_430751 prm_4153 (by decide +kernel) (by decide +kernel) (by decide +kernel) (by decide +kernel) (by decide +kernel) (by decide +kernel) (by decide +kernel) (by decide +kernel) (by decide +kernel)
theorem prm_754457024797n35 : Prm 75445702479781427272750846543864801 := cert_two (f := 116) (h := 56747016255153332959347766392083459) (i := 71619851993489548214160924360205394) (by decide +kernel) (by decide +kernel) prm_191951956938n16 prm_72106336199 (by decide +kernel) (by decide +kernel) (by decide +kernel) (by decide +kernel) (by decide +kernel) (by decide +kernel) (by decide +kernel) (by decide +kernel) (by decide +kernel)
theorem prm_740582127325n71 : Prm 74058212732561358302231226437062788676166966415465897661863160754340907 := cert_two (f := 236) (h := 69490809710348678725736597923071784769591275419387514694139338586948360) (i := 50366660687963342066214195241331738400016478712605795091965648721912165) (by decide +kernel) (by decide +kernel) prm_754457024797n35 prm_317577555688n17 (by decide +kernel) (by decide +kernel) (by decide +kernel) (by decide +kernel) (by decide +kernel) (by decide +kernel) (by decide +kernel) (by decide +kernel) (by decide +kernel)
theorem prm_578960446186n77 : Prm 57896044618658097711785492504343953926634992332820282019728792003956564819949 := cert_one (f := 255) (h := 427094198651976259540344842774561673889945192655078505504941250475370961481) (by decide +kernel) (by decide +kernel) prm_740582127325n71 (by decide +kernel) (by decide +kernel) (by decide +kernel) (by decide +kernel) (by decide +kernel)
abbrev P25519 : Nat := 57896044618658097711785492504343953926634992332820282019728792003956564819949
theorem prm_P : Prm P25519 := prm_578960446186n77
end Go.Proofs.YtkglcainhkbgbaaGreatDoor
