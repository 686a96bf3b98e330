import Derived.Test.YtpjgedbemblnhaaDoorGZ2
import Derived.Test.YtpjgedbemblnhaaDoorRows
import Derived.WalkSpells
import Derived.Deep.QuietTactic
import Derived.BigQuiet
import Derived.Laws.AppendOwnNone
import Derived.Deep.MidRow

/-
  Numbers in five limbs of 51 bits, and what carrying makes of them: numbers alone.
-/
namespace Go.Proofs.YtpjgedbemblnhaaDoor
set_option maxRecDepth 100000

/-- The prime, as an integer. -/
abbrev PP : Int := 57896044618658097711785492504343953926634992332820282019728792003956564819949

/-- What is carried into place k. -/
def cr (c : Int) (u : Nat → Int) : Nat → Int
  | 0 => c
  | k + 1 => (cr c u k + u k) / 2251799813685248
/-- What is left at place k. -/
def lf (c : Int) (u : Nat → Int) (k : Nat) : Int := (cr c u k + u k) % 2251799813685248
/-- The number of the first k limbs. -/
def sv (u : Nat → Int) : Nat → Int
  | 0 => 0
  | k + 1 => sv u k + u k * 2251799813685248 ^ k

theorem cr_sum (c : Int) (u : Nat → Int) : ∀ k, sv (lf c u) k + cr c u k * 2251799813685248 ^ k = c + sv u k
  | 0 => by simp [sv, cr]
  | k + 1 => by
    have ih := cr_sum c u k
    have h : cr c u k + u k = lf c u k + 2251799813685248 * cr c u (k + 1) := by
      rw [lf, cr]; omega
    have h2 : (cr c u k + u k) * 2251799813685248 ^ k = (lf c u k + 2251799813685248 * cr c u (k + 1)) * 2251799813685248 ^ k := by rw [h]
    rw [Int.add_mul, Int.add_mul] at h2
    rw [sv, sv, Int.pow_succ]
    have h3 : cr c u (k + 1) * (2251799813685248 ^ k * 2251799813685248) = 2251799813685248 * cr c u (k + 1) * 2251799813685248 ^ k := by
      rw [Int.mul_comm (2251799813685248 ^ k) 2251799813685248, ← Int.mul_assoc, Int.mul_comm (cr c u (k + 1))]
    rw [h3]
    omega
theorem cr_congr {c : Int} {u v : Nat → Int} : ∀ k, (∀ j, j < k → u j = v j) → cr c u k = cr c v k
  | 0, _ => rfl
  | k + 1, h => by rw [cr, cr, cr_congr k (fun j hj => h j (by omega)), h k (by omega)]
theorem sv_congr {u v : Nat → Int} : ∀ k, (∀ j, j < k → u j = v j) → sv u k = sv v k
  | 0, _ => rfl
  | k + 1, h => by rw [sv, sv, sv_congr k (fun j hj => h j (by omega)), h k (by omega)]
theorem lf_bd (c : Int) (u : Nat → Int) (k : Nat) : 0 ≤ lf c u k ∧ lf c u k < 2251799813685248 := by
  unfold lf; omega
theorem cr_bd {c : Int} {u : Nat → Int} {M : Int} (hc : 0 ≤ c) (hcM : c ≤ M) (hM : 0 ≤ M) (hu : ∀ j, 0 ≤ u j ∧ u j ≤ 2251799813685247 * M) : ∀ k, 0 ≤ cr c u k ∧ cr c u k ≤ M
  | 0 => ⟨hc, hcM⟩
  | k + 1 => by
    have ih := cr_bd hc hcM hM hu k
    have := hu k
    rw [cr]
    omega

/-- Five limbs in their bounds. -/
def Lm (u : Nat → Int) : Prop := ∀ j, j < 5 → 0 ≤ u j ∧ u j < 2251799813685248
theorem Lm.bd {u : Nat → Int} (h : Lm u) : 0 ≤ sv u 5 ∧ sv u 5 < 57896044618658097711785492504343953926634992332820282019728792003956564819968 := by
  have h0 := h 0 (by omega); have h1 := h 1 (by omega); have h2 := h 2 (by omega); have h3 := h 3 (by omega); have h4 := h 4 (by omega)
  simp only [sv]
  omega
theorem Lm.uniq {u v : Nat → Int} (hu : Lm u) (hv : Lm v) (h : sv u 5 = sv v 5) : ∀ j, j < 5 → u j = v j := by
  have a0 := hu 0 (by omega); have a1 := hu 1 (by omega); have a2 := hu 2 (by omega); have a3 := hu 3 (by omega); have a4 := hu 4 (by omega)
  have b0 := hv 0 (by omega); have b1 := hv 1 (by omega); have b2 := hv 2 (by omega); have b3 := hv 3 (by omega); have b4 := hv 4 (by omega)
  simp only [sv] at h
  have e0 : u 0 = v 0 := by omega
  have e1 : u 1 = v 1 := by omega
  have e2 : u 2 = v 2 := by omega
  have e3 : u 3 = v 3 := by omega
  have e4 : u 4 = v 4 := by omega
  intro j hj
  obtain rfl | rfl | rfl | rfl | rfl : j = 0 ∨ j = 1 ∨ j = 2 ∨ j = 3 ∨ j = 4 := by omega
  all_goals assumption

/-! ### settling -/
/-- Behind the first round of carrying, and what comes round. -/
def st1 (u : Nat → Int) (j : Nat) : Int := if j = 0 then lf 0 u 0 + 19 * cr 0 u 5 else lf 0 u j
def stl (u : Nat → Int) : Nat → Int := lf (19 * cr 19 (st1 u) 5) (st1 u)
theorem st1_val (u : Nat → Int) : sv (st1 u) 5 = sv (lf 0 u) 5 + 19 * cr 0 u 5 := by
  simp [sv, st1]; omega
theorem stl_ok {u : Nat → Int} (hu : ∀ j, 0 ≤ u j ∧ u j < 9223372036854775808) : Lm (stl u) ∧ sv (stl u) 5 = sv u 5 % PP := by
  refine ⟨fun j _ => lf_bd _ _ _, ?_⟩
  have h1 := cr_sum 0 u 5
  have b1 := cr_bd (c := 0) (u := u) (M := 4097) (by omega) (by omega) (by omega) (fun j => by have := hu j; omega) 5
  have L1 := Lm.bd (u := lf 0 u) (fun j _ => lf_bd _ _ _)
  have hv := st1_val u
  have b2 : ∀ j, 0 ≤ st1 u j ∧ st1 u j ≤ 2251799813763091 := fun j => by
    have := lf_bd 0 u j
    have := lf_bd 0 u 0
    unfold st1
    split <;> omega
  have h2 := cr_sum 19 (st1 u) 5
  have L2 := Lm.bd (u := lf 19 (st1 u)) (fun j _ => lf_bd _ _ _)
  have h3 := cr_sum (19 * cr 19 (st1 u) 5) (st1 u) 5
  have L3 := Lm.bd (u := lf (19 * cr 19 (st1 u) 5) (st1 u)) (fun j _ => lf_bd _ _ _)
  have e3 : sv (stl u) 5 = sv (lf (19 * cr 19 (st1 u) 5) (st1 u)) 5 := rfl
  rw [e3]
  generalize sv (lf 0 u) 5 = A at *
  generalize cr 0 u 5 = c at *
  generalize sv (st1 u) 5 = V at *
  generalize sv (lf 19 (st1 u)) 5 = B at *
  generalize cr 19 (st1 u) 5 = r at *
  generalize sv (lf (19 * r) (st1 u)) 5 = E at *
  generalize cr (19 * r) (st1 u) 5 = d at *
  generalize sv u 5 = U at *
  show E = U % 57896044618658097711785492504343953926634992332820282019728792003956564819949
  have hr : r = 0 ∨ r = 1 := by omega
  have hd : d = r := by omega
  omega
end Go.Proofs.YtpjgedbemblnhaaDoor

/-
  The model's sixteen limbs of 16 bits, signed, and what its carrying makes of them: numbers alone.
-/
namespace Go.Proofs.YtpjgedbemblnhaaDoor
set_option maxRecDepth 100000

/-- What is carried into place k. -/
def c16 (f : Nat → Int) : Nat → Int
  | 0 => 0
  | k + 1 => (c16 f k + f k) / 65536
/-- What is left at place k. -/
def l16 (f : Nat → Int) (k : Nat) : Int := (c16 f k + f k) % 65536
/-- The number of the first k limbs. -/
def s16 (f : Nat → Int) : Nat → Int
  | 0 => 0
  | k + 1 => s16 f k + f k * 65536 ^ k
theorem c16_sum (f : Nat → Int) : ∀ k, s16 (l16 f) k + c16 f k * 65536 ^ k = s16 f k
  | 0 => by simp [s16, c16]
  | k + 1 => by
    have ih := c16_sum f k
    have h : c16 f k + f k = l16 f k + 65536 * c16 f (k + 1) := by
      rw [l16, c16]; omega
    have h2 : (c16 f k + f k) * 65536 ^ k = (l16 f k + 65536 * c16 f (k + 1)) * 65536 ^ k := by rw [h]
    rw [Int.add_mul, Int.add_mul] at h2
    rw [s16, s16, Int.pow_succ]
    have h3 : c16 f (k + 1) * (65536 ^ k * 65536) = 65536 * c16 f (k + 1) * 65536 ^ k := by
      rw [Int.mul_comm (65536 ^ k) 65536, ← Int.mul_assoc, Int.mul_comm (c16 f (k + 1))]
    rw [h3]
    omega
theorem l16_bd (f : Nat → Int) (k : Nat) : 0 ≤ l16 f k ∧ l16 f k < 65536 := by
  unfold l16; omega
theorem c16_bd {f : Nat → Int} {M : Int} (hM : 1 ≤ M) (hf : ∀ j, -(65535 * M) ≤ f j ∧ f j ≤ 65535 * M) : ∀ k, -M ≤ c16 f k ∧ c16 f k ≤ M
  | 0 => by simp [c16]; omega
  | k + 1 => by
    have ih := c16_bd hM hf k
    have := hf k
    rw [c16]
    omega
/-- Sixteen limbs in their bounds. -/
def L16 (f : Nat → Int) : Prop := ∀ j, j < 16 → 0 ≤ f j ∧ f j < 65536
/-- 2^256 -/
abbrev W256 : Int := 115792089237316195423570985008687907853269984665640564039457584007913129639936
theorem L16.bd {f : Nat → Int} (h : L16 f) : 0 ≤ s16 f 16 ∧ s16 f 16 < W256 := by
  have h0 := h 0 (by omega); have h1 := h 1 (by omega); have h2 := h 2 (by omega); have h3 := h 3 (by omega)
  have h4 := h 4 (by omega); have h5 := h 5 (by omega); have h6 := h 6 (by omega); have h7 := h 7 (by omega)
  have h8 := h 8 (by omega); have h9 := h 9 (by omega); have ha := h 10 (by omega); have hb := h 11 (by omega)
  have hc := h 12 (by omega); have hd := h 13 (by omega); have he := h 14 (by omega); have hf := h 15 (by omega)
  simp only [s16]
  show _ ∧ _ < 115792089237316195423570985008687907853269984665640564039457584007913129639936
  omega
/-- One round of carrying. -/
def r16 (f : Nat → Int) (j : Nat) : Int := if j = 0 then l16 f 0 + 38 * c16 f 16 else l16 f j
theorem r16_val (f : Nat → Int) : s16 (r16 f) 16 = s16 (l16 f) 16 + 38 * c16 f 16 := by
  simp [s16, r16]; omega
theorem r16_sum (f : Nat → Int) : ∃ c, c = c16 f 16 ∧ s16 (r16 f) 16 = s16 f 16 - 115792089237316195423570985008687907853269984665640564039457584007913129639936 * c + 38 * c ∧ 0 ≤ s16 f 16 - 115792089237316195423570985008687907853269984665640564039457584007913129639936 * c ∧ s16 f 16 - 115792089237316195423570985008687907853269984665640564039457584007913129639936 * c < 115792089237316195423570985008687907853269984665640564039457584007913129639936 := by
  have h1 := c16_sum f 16
  have h2 := L16.bd (f := l16 f) (fun j _ => l16_bd f j)
  have h3 := r16_val f
  have e : (65536 : Int) ^ 16 = 115792089237316195423570985008687907853269984665640564039457584007913129639936 := by decide
  rw [e] at h1
  refine ⟨_, rfl, ?_⟩
  generalize s16 (l16 f) 16 = A at *
  generalize c16 f 16 = c at *
  generalize s16 (r16 f) 16 = B at *
  generalize s16 f 16 = U at *
  have h2' : 0 ≤ A ∧ A < 115792089237316195423570985008687907853269984665640564039457584007913129639936 := h2
  omega
/-- Three rounds. -/
def cry (f : Nat → Int) : Nat → Int := r16 (r16 (r16 f))
theorem r16_bd {f : Nat → Int} {M : Int} (hM : 1 ≤ M) (hf : ∀ j, -(65535 * M) ≤ f j ∧ f j ≤ 65535 * M) : ∀ j, -(38 * M) ≤ r16 f j ∧ r16 f j ≤ 65535 + 38 * M := by
  intro j
  have h1 := c16_bd hM hf 16
  have h2 := l16_bd f j
  have h3 := l16_bd f 0
  unfold r16
  split <;> omega
theorem cry_ok {f : Nat → Int} (hf : ∀ j, -1152921504606846976 ≤ f j ∧ f j ≤ 1152921504606846976) : L16 (cry f) ∧ s16 (cry f) 16 % PP = s16 f 16 % PP := by
  have b1 := r16_bd (f := f) (M := 17592454500000) (by omega) (fun j => by have := hf j; omega)
  obtain ⟨c1, _, v1, lo1, hi1⟩ := r16_sum f
  obtain ⟨c2, _, v2, lo2, hi2⟩ := r16_sum (r16 f)
  obtain ⟨c3, hc3, v3, lo3, hi3⟩ := r16_sum (r16 (r16 f))
  have hc1 : -17592454500000 ≤ c1 ∧ c1 ≤ 17592454500000 := by
    have := c16_bd (f := f) (M := 17592454500000) (by omega) (fun j => by have := hf j; omega) 16
    omega
  have e3 : c3 = 0 := by
    generalize s16 (r16 f) 16 = S1 at *
    generalize s16 (r16 (r16 f)) 16 = S2 at *
    generalize s16 f 16 = U at *
    have h2 : c2 = 0 ∨ c2 = 1 ∨ c2 = -1 := by omega
    omega
  refine ⟨?_, ?_⟩
  · intro j _
    have h0 := l16_bd (r16 (r16 f)) j
    unfold cry
    show 0 ≤ r16 (r16 (r16 f)) j ∧ r16 (r16 (r16 f)) j < 65536
    rw [r16, ← hc3, e3]
    split
    · rename_i e; subst e; omega
    · exact h0
  · show s16 (r16 (r16 (r16 f))) 16 % 57896044618658097711785492504343953926634992332820282019728792003956564819949 = s16 f 16 % 57896044618658097711785492504343953926634992332820282019728792003956564819949
    omega
end Go.Proofs.YtpjgedbemblnhaaDoor

/-
  Sums, differences and products digit by digit: plain arithmetic.
-/
namespace Go.Proofs.YtpjgedbemblnhaaDoor
set_option maxRecDepth 100000

theorem dig_set_self (ys : List Int) (i : Nat) (v : Int) (h : i < ys.length) : dig (ys.set (ys.length - 1 - i) v) i = v := by
  unfold dig
  rw [List.length_set, if_pos h, getD_set_self _ _ _ (by omega)]
theorem dig_set_ne (ys : List Int) (i j : Nat) (v : Int) (h : i < ys.length) (hne : j ≠ i) : dig (ys.set (ys.length - 1 - i) v) j = dig ys j := by
  unfold dig
  rw [List.length_set]
  by_cases hj : j < ys.length
  · rw [if_pos hj, if_pos hj, getD_set_ne _ _ _ _ (by omega)]
  · rw [if_neg hj, if_neg hj]
theorem lo_congr {xs ys : List Int} : ∀ {i : Nat}, (∀ j, j < i → dig xs j = dig ys j) → lo xs i = lo ys i
  | 0, _ => rfl
  | i + 1, h => by rw [lo, lo, lo_congr (fun j hj => h j (by omega)), h i (by omega)]
theorem lo_set (ys : List Int) (i : Nat) (v : Int) (h : i < ys.length) : lo (ys.set (ys.length - 1 - i) v) (i + 1) = lo ys i + v * 256 ^ i := by
  rw [lo, dig_set_self ys i v h, lo_congr (fun j hj => dig_set_ne ys i j v h (by omega))]
theorem byt_set {ys : List Int} (h : Byt ys) (q : Nat) (v : Int) (h0 : 0 ≤ v) (h1 : v < 256) : Byt (ys.set q v) := by
  intro i
  by_cases e : q = i
  · subst e
    by_cases hq : q < ys.length
    · rw [getD_set_self _ _ _ hq]; exact ⟨h0, h1⟩
    · have := h q
      rwa [List.set_eq_of_length_le (by omega)]
  · rw [getD_set_ne _ _ _ _ e]; exact h i
theorem byt_zeros (n : Nat) : Byt (List.replicate n 0) := by
  intro i
  by_cases h : i < n <;> simp [h]
theorem dig_past (xs : List Int) (i : Nat) (h : xs.length ≤ i) : dig xs i = 0 := by unfold dig; rw [if_neg (by omega)]

/-- The model's sum: i digits are laid, c is carried. -/
def AddTo (xs us ys : List Int) (n i : Nat) (c : Int) : Prop :=
  ys.length = n + 1 ∧ Byt ys ∧ (0 ≤ c ∧ c ≤ 1) ∧ lo ys i + c * 256 ^ i = lo xs i + lo us i
theorem AddTo.step {xs us ys : List Int} {n i : Nat} {c : Int} (h : AddTo xs us ys n i c) (hx : Byt xs) (hu : Byt us) (hi : i ≤ n) :
    AddTo xs us (ys.set (n - i) ((dig xs i + dig us i + c) % 256)) n (i + 1) ((dig xs i + dig us i + c) / 256) := by
  obtain ⟨h1, h2, h3, h4⟩ := h
  have d1 := dig_byt hx i
  have d2 := dig_byt hu i
  refine ⟨by simpa using h1, byt_set h2 _ _ (by omega) (by omega), ⟨by omega, by omega⟩, ?_⟩
  rw [show n - i = ys.length - 1 - i by omega, lo_set ys i _ (by omega), lo, lo, Int.pow_succ]
  generalize hv : dig xs i + dig us i + c = v at *
  have e : v = v % 256 + v / 256 * 256 := by omega
  have e2 : v * 256 ^ i = (v % 256) * 256 ^ i + v / 256 * (256 ^ i * 256) := by
    conv => lhs; rw [e]
    rw [Int.add_mul, Int.mul_assoc, Int.mul_comm 256]
  have e3 : v * 256 ^ i = dig xs i * 256 ^ i + dig us i * 256 ^ i + c * 256 ^ i := by rw [← hv, Int.add_mul, Int.add_mul]
  omega
theorem AddTo.done {xs us ys : List Int} {n : Nat} {c : Int} (h : AddTo xs us ys n (n + 1) c) (hx : xs.length ≤ n) (hu : us.length ≤ n) (hc : c = 0) : bval ys = bval xs + bval us := by
  obtain ⟨h1, h2, h3, h4⟩ := h
  rw [lo_all ys _ (by omega), lo_all xs _ (by omega), lo_all us _ (by omega), hc] at h4
  omega

/-! ### limbs, from below -/
def llo (zs : List Int) : Nat → Int
  | 0 => 0
  | i + 1 => llo zs i + zs.getD i 0 * 4294967296 ^ i
theorem llo_congr {xs ys : List Int} : ∀ {i : Nat}, (∀ j, j < i → xs.getD j 0 = ys.getD j 0) → llo xs i = llo ys i
  | 0, _ => rfl
  | i + 1, h => by rw [llo, llo, llo_congr (fun j hj => h j (by omega)), h i (by omega)]
theorem llo_set (zs : List Int) (i : Nat) (v : Int) (h : i < zs.length) : llo (zs.set i v) (i + 1) = llo zs i + v * 4294967296 ^ i := by
  rw [llo, getD_set_self _ _ _ h, llo_congr (fun j hj => getD_set_ne _ _ _ _ (by omega))]
theorem lval_llo (zs : List Int) : ∀ i, lval zs = llo zs i + lhi zs i * 4294967296 ^ i
  | 0 => by simp [llo, lhi_zero]
  | i + 1 => by
    rw [lval_llo zs i, lhi_step zs i, llo, Int.pow_succ, Int.add_mul, Int.mul_comm 4294967296 (lhi zs (i + 1)), Int.mul_assoc, Int.mul_comm 4294967296]
    omega
theorem llo_all (zs : List Int) (i : Nat) (h : zs.length ≤ i) : llo zs i = lval zs := by
  rw [lval_llo zs i, lhi_past zs i h]; omega

/-- A sum in place: i limbs are laid, c is carried. -/
def LAddTo (zs ms ys : List Int) (i : Nat) (c : Int) : Prop :=
  ys.length = zs.length ∧ Lmb ys ∧ (0 ≤ c ∧ c ≤ 1) ∧ llo ys i + c * 4294967296 ^ i = llo zs i + llo ms i ∧ ∀ j, i ≤ j → ys.getD j 0 = zs.getD j 0
theorem LAddTo.zero {zs : List Int} (ms : List Int) (h : Lmb zs) : LAddTo zs ms zs 0 0 := ⟨rfl, h, ⟨by omega, by omega⟩, rfl, fun _ _ => rfl⟩
theorem LAddTo.step {zs ms ys : List Int} {i : Nat} {c : Int} (h : LAddTo zs ms ys i c) (hz : Lmb zs) (hm : Lmb ms) (hi : i < zs.length) :
    LAddTo zs ms (ys.set i ((c + zs.getD i 0 + ms.getD i 0) % 4294967296)) (i + 1) ((c + zs.getD i 0 + ms.getD i 0) / 4294967296) := by
  obtain ⟨h1, h2, h3, h4, h5⟩ := h
  have d1 := hz i
  have d2 := hm i
  refine ⟨by simpa using h1, lmb_set h2 _ _ (by omega) (by omega), ⟨by omega, by omega⟩, ?_, fun j hj => by rw [getD_set_ne _ _ _ _ (by omega)]; exact h5 j (by omega)⟩
  rw [llo_set ys i _ (by omega), llo, llo, Int.pow_succ]
  generalize hv : c + zs.getD i 0 + ms.getD i 0 = v at *
  have e : v = v % 4294967296 + v / 4294967296 * 4294967296 := by omega
  have e2 : v * 4294967296 ^ i = (v % 4294967296) * 4294967296 ^ i + v / 4294967296 * (4294967296 ^ i * 4294967296) := by
    conv => lhs; rw [e]
    rw [Int.add_mul, Int.mul_assoc, Int.mul_comm 4294967296 (4294967296 ^ i)]
  have e3 : v * 4294967296 ^ i = c * 4294967296 ^ i + zs.getD i 0 * 4294967296 ^ i + ms.getD i 0 * 4294967296 ^ i := by rw [← hv, Int.add_mul, Int.add_mul]
  omega
theorem LAddTo.done {zs ms ys : List Int} {c : Int} (h : LAddTo zs ms ys zs.length c) (hm : ms.length ≤ zs.length) : lval ys + c * 4294967296 ^ zs.length = lval zs + lval ms := by
  obtain ⟨h1, h2, h3, h4, h5⟩ := h
  rw [llo_all ys _ (by omega), llo_all zs _ (Nat.le_refl _), llo_all ms _ hm] at h4
  exact h4
theorem lmb_nil : Lmb [] := fun i => by simp

/-! ### limbs into bytes -/
/-- Byte i of the limbs. -/
def lb (zs : List Int) (i : Nat) : Int := zs.getD (i / 4) 0 / 256 ^ (i % 4) % 256
theorem lb_bd (zs : List Int) (i : Nat) : 0 ≤ lb zs i ∧ lb zs i < 256 := by unfold lb; omega
/-- k digits are laid. -/
def DigTo (f : Nat → Int) (ys : List Int) (n k : Nat) : Prop := ys.length = n ∧ Byt ys ∧ ∀ j, j < k → dig ys j = f j
theorem DigTo.step {f : Nat → Int} {ys : List Int} {n k : Nat} (h : DigTo f ys n k) (hk : k < n) (h0 : 0 ≤ f k) (h1 : f k < 256) : DigTo f (ys.set (n - 1 - k) (f k)) n (k + 1) := by
  obtain ⟨e, hb, hd⟩ := h
  subst e
  refine ⟨by simp, byt_set hb _ _ h0 h1, fun j hj => ?_⟩
  by_cases e : j = k
  · subst e
    exact dig_set_self ys j _ hk
  · rw [dig_set_ne ys k j _ hk e]
    exact hd j (by omega)
theorem lo_lb {zs ys : List Int} (hz : Lmb zs) (hd : ∀ j, j < 4 * zs.length → dig ys j = lb zs j) : ∀ q, q ≤ zs.length → lo ys (4 * q) = llo zs q
  | 0, _ => rfl
  | q + 1, h => by
    have ih := lo_lb hz hd q (by omega)
    have hzq := hz q
    rw [show 4 * (q + 1) = 4 * q + 1 + 1 + 1 + 1 by omega, lo, lo, lo, lo, ih, llo]
    rw [hd (4 * q) (by omega), hd (4 * q + 1) (by omega), hd (4 * q + 1 + 1) (by omega), hd (4 * q + 1 + 1 + 1) (by omega)]
    unfold lb
    rw [show 4 * q / 4 = q by omega, show (4 * q + 1) / 4 = q by omega, show (4 * q + 1 + 1) / 4 = q by omega, show (4 * q + 1 + 1 + 1) / 4 = q by omega,
      show 4 * q % 4 = 0 by omega, show (4 * q + 1) % 4 = 1 by omega, show (4 * q + 1 + 1) % 4 = 2 by omega, show (4 * q + 1 + 1 + 1) % 4 = 3 by omega]
    have p0 : (256 : Int) ^ (4 * q) = 4294967296 ^ q := by
      have := p256_4 0 q
      simpa using this
    have p1 : (256 : Int) ^ (4 * q + 1) = 4294967296 ^ q * 256 := by rw [Int.pow_succ, p0]
    have p2 : (256 : Int) ^ (4 * q + 1 + 1) = 4294967296 ^ q * 65536 := by rw [Int.pow_succ, p1]; omega
    have p3 : (256 : Int) ^ (4 * q + 1 + 1 + 1) = 4294967296 ^ q * 16777216 := by rw [Int.pow_succ, p2]; omega
    rw [p3, p2, p1, p0]
    clear p0 p1 p2 p3 ih
    generalize zs.getD q 0 = z at *
    generalize (4294967296 : Int) ^ q = p at *
    have e : z = z / 256 ^ 0 % 256 + z / 256 ^ 1 % 256 * 256 + z / 256 ^ 2 % 256 * 65536 + z / 256 ^ 3 % 256 * 16777216 := by
      simp
      omega
    generalize z / 256 ^ 0 % 256 = b0 at *
    generalize z / 256 ^ 1 % 256 = b1 at *
    generalize z / 256 ^ 2 % 256 = b2 at *
    generalize z / 256 ^ 3 % 256 = b3 at *
    subst e
    rw [Int.add_mul, Int.add_mul, Int.add_mul, Int.mul_right_comm b1, Int.mul_right_comm b2, Int.mul_right_comm b3, ← Int.mul_assoc b1, ← Int.mul_assoc b2, ← Int.mul_assoc b3]
    omega
theorem DigTo.val {zs ys : List Int} (h : DigTo (lb zs) ys (4 * zs.length) (4 * zs.length)) (hz : Lmb zs) : bval ys = lval zs := by
  rw [← lo_all ys (4 * zs.length) (by rw [h.1]; exact Nat.le_refl _), lo_lb hz h.2.2 zs.length (Nat.le_refl _), llo_all zs _ (Nat.le_refl _)]
end Go.Proofs.YtpjgedbemblnhaaDoor

/-
  The contracts of the model's small functions of chapter 1: a digit, a comparison, the limit.
-/
namespace Go.Proofs.YtpjgedbemblnhaaDoor
set_option maxRecDepth 100000
open Go.RowKit

set_option maxHeartbeats 400000 in
theorem l1Digit_any (w : World) (g : Nat) (a : Option Addr) (cap : Nat) (xs : List Int) (i : Int) (hr : Rd w g a .u8 xs) (hb : Byt xs) (hn : xs.length ≤ 1048576) (h0 : 0 ≤ i) (h1 : i ≤ 1099511627776) :
    Calls Tryd.prog 22 #[.slice a xs.length cap, .int .i64 i] w fun e w' => e = .returned (.int .i64 (dig xs i.toNat)) ∧ w' = w := by
  obtain ⟨j, rfl⟩ := Int.eq_ofNat_of_zero_le h0
  rw [Int.toNat_natCast]
  by_cases hlt : j < xs.length
  · obtain ⟨off, rfl, hc⟩ := hr (by omega)
    have hcx := hc (xs.length - 1 - j) (by omega)
    have hx := hb (xs.length - 1 - j)
    have hd : dig xs j = xs.getD (xs.length - 1 - j) 0 := by simp [dig, hlt]
    rw [hd]
    clear hd hc
    generalize xs.getD (xs.length - 1 - j) 0 = x at *
    obtain ⟨m, hm⟩ : ∃ m : Nat, m = xs.length - 1 - j := ⟨_, rfl⟩
    rw [← hm] at hcx
    have hi1 : (0 : Int) ≤ (xs.length : Int) - 1 - (j : Int) := by omega
    have hi2 : (xs.length : Int) - 1 - (j : Int) < (xs.length : Int) := by omega
    have hi3 : ((xs.length : Int) - 1 - (j : Int)).toNat = m := by omega
    clear hm
    go_enter Tryd.func22, Tryd.ntmps22
    go_wp2
    go_ret
    exact ⟨rfl, rfl⟩
  · have hd : dig xs j = 0 := by simp [dig, hlt]
    rw [hd]
    clear hd
    go_enter Tryd.func22, Tryd.ntmps22
    go_wp2
    go_ret
    exact ⟨rfl, rfl⟩

/-- Above place k the two are one. -/
def HiEq (a b : List Int) (k : Nat) : Prop := hi a k = hi b k

set_option maxHeartbeats 1000000 in
set_option maxRecDepth 100000 in
theorem l1Cmp_any (w : World) (g g' : Nat) (a b : Option Addr) (ca cb : Nat) (xs ys : List Int) (ha : Rd w g a .u8 xs) (hb : Rd w g' b .u8 ys) (hx : Byt xs) (hy : Byt ys)
    (hn : xs.length ≤ 1048576) (hm : ys.length ≤ 1048576) :
    Calls Tryd.prog 16 #[.slice a xs.length ca, .slice b ys.length cb] w fun e w' => e = .returned (.int .i64 (sg (bval xs) (bval ys))) ∧ w' = w := by
  by_cases hlen : xs.length < ys.length
  all_goals
    go_enter Tryd.func16, Tryd.ntmps16
    go_wp2
    go_loop [6] (fun i => ∃ t : Int, i = .int .i64 t ∧ -1 ≤ t ∧ t < 1048576 ∧ HiEq xs ys (t + 1).toNat) (fun i => (intOf i + 1).toNat)
    case atStart =>
      refine ⟨_, rfl, by omega, by omega, ?_⟩
      unfold HiEq
      rw [hi_past _ _ (by omega), hi_past _ _ (by omega)]
    case round =>
      obtain ⟨t, rfl, ht0, ht1, he⟩ := hrel
      by_cases ht : 0 ≤ t
      · obtain ⟨j, rfl⟩ := Int.eq_ofNat_of_zero_le ht
        have he' : HiEq xs ys (j + 1) := he
        clear he ht0
        have s1 := hi_step xs j
        have s2 := hi_step ys j
        have R1 : dig xs j < dig ys j → sg (bval xs) (bval ys) = -1 := fun h => sg_lt (hi_lt hx hy j (by unfold HiEq at he'; omega))
        have R2 : dig ys j < dig xs j → sg (bval xs) (bval ys) = 1 := fun h => sg_gt (hi_lt hy hx j (by unfold HiEq at he'; omega))
        have R3 : dig xs j = dig ys j → HiEq xs ys j := fun h => by unfold HiEq at he' ⊢; omega
        clear s1 s2 he'
        go_wp2_with fail
        refine (l1Digit_any w g a ca xs _ ha hx hn (by omega) (by omega)).mono ?_
        rintro e w' ⟨rfl, rfl⟩
        rw [Int.toNat_natCast]
        go_wp2_with fail
        refine (l1Digit_any w' g' b cb ys _ hb hy hm (by omega) (by omega)).mono ?_
        rintro e w'' ⟨rfl, rfl⟩
        rw [Int.toNat_natCast]
        generalize dig xs j = x at *
        generalize dig ys j = y at *
        rcases Int.lt_trichotomy x y with h | h | h
        · have R : Hid (sg (bval xs) (bval ys) = -1) := R1 h
          clear R1 R2 R3
          go_wp2
          go_ret
          exact ⟨ret_int R.out.symm, rfl⟩
        · have R := R3 h
          subst h
          clear R1 R2 R3
          go_wp2
          go_round
          case rel => exact ⟨_, rfl, by omega, by omega, by simpa using R⟩
          case measure => simp [intOf]
        · have h1 : decide (x < y) = false := by simp; omega
          clear R1 R3
          go_wp2
          go_ret
          exact ⟨ret_int (R2 h).symm, rfl⟩
      · obtain rfl : t = -1 := by omega
        have R : Hid (sg (bval xs) (bval ys) = 0) := sg_eq (by simpa [HiEq, hi_zero] using he)
        go_wp2
        go_ret
        exact ⟨ret_int R.out.symm, rfl⟩
end Go.Proofs.YtpjgedbemblnhaaDoor

/-
  The model's small functions of chapter 1 (those that chapter 2 takes): copy, trim, add, little.
-/
namespace Go.Proofs.YtpjgedbemblnhaaDoor
set_option maxRecDepth 100000
open Go.RowKit

set_option maxHeartbeats 400000 in
theorem l1Copy_any (w : World) (g : Nat) (a : Option Addr) (cap : Nat) (xs : List Int) (hr : Rd w g a .u8 xs) (hc : a = none → cap = 0) (hn : xs.length ≤ 1048576) :
    Calls Tryd.prog 26 #[.slice a xs.length cap] w fun e w' => NewRow w.heap.size w' e .u8 xs ∧ Below w.heap.size w w' := by
  obtain ⟨i0, hi, hz0, hz1, hz2⟩ := info_parts Tryd.info5
  have hown : (w.alloc (.cells #[] 5)).ownsRow w.heap.size 5 1 (.slice (some ⟨w.heap.size, 0, none⟩) 0 0) 0 [] := World.ownsRow_lit w #[] 0 (Nat.le_refl _) (by unfold maxLen; omega) (by simp)
  have hal : Below w.heap.size w (w.alloc (.cells #[] 5)) := (Below.refl _ _).alloc (Nat.le_refl _) _
  cases a with
  | none =>
    obtain rfl : xs = [] := by
      by_cases h0 : 0 < xs.length
      · obtain ⟨off, h, _⟩ := hr h0
        simp at h
      · exact List.eq_nil_of_length_eq_zero (by omega)
    obtain rfl := hc rfl
    go_enter Tryd.func26, Tryd.ntmps26
    go_wp2_with (at_builtin; refine wpList_append_own_none rfl _ _ 22 rfl w.heap.size 5 i0 1 Tryd.underlying22 hi _ 0 [] rfl hown rfl ?_)
    go_ret
    exact ⟨⟨_, _, w.heap.size, rfl, Own.nil _ _ _ _, by simp, Nat.zero_le _, Nat.le_refl _⟩, hal⟩
  | some ad =>
    have hcell : ∀ j u, (xs.map (Value.int .u8))[j]? = some u → (w.alloc (.cells #[] 5)).cell? (ad.add j) = some u := by
      intro j u hj
      have hjl : j < xs.length := by
        have := (List.getElem?_eq_some_iff.1 hj).1
        simpa using this
      obtain ⟨off, ha, hcc⟩ := (hr.up hal) (by omega)
      simp only [Option.some.injEq] at ha
      subst ha
      rw [Addr.add_mid, hcc j hjl]
      simpa [hjl] using hj
    have hone : ∀ u ∈ xs.map (Value.int .u8), u.oneCell' = true := by
      intro u hu
      obtain ⟨x, _, rfl⟩ := List.mem_map.1 hu
      rfl
    go_enter Tryd.func26, Tryd.ntmps26
    go_wp2_with (at_builtin; refine wpList_append_own _ rfl _ _ 22 rfl w.heap.size 5 i0 (.int .u8 0) 1 1 Tryd.underlying22 hi hz0 hz1 hz2 rfl (by decide) (.slice (some ⟨w.heap.size, 0, none⟩) 0 0) 0 [] rfl hown ad xs.length cap (xs.map (Value.int .u8)) rfl (by simp) hcell hone (by unfold maxLen; omega) (by omega) (by simp) ?_; intro v' w1 hown' hgrow _)
    simp only [Nat.zero_add, List.nil_append] at hown'
    obtain ⟨a', c', g', rfl, h1, h2, h3, h4⟩ := Own.of_ownsRow hown'
    have hB : Below w.heap.size w w1 := hal.grown hgrow (by simp) (by intro k hk; simp [Value.ownBlock] at hk; omega)
    clear hown' hgrow hown
    go_wp2
    go_ret
    exact ⟨⟨_, _, g', rfl, h1, h2, h3, h4⟩, hB⟩

set_option maxHeartbeats 400000 in
theorem l1Trim_any (w : World) (g : Nat) (a : Option Addr) (cap : Nat) (xs : List Int) (hr : Rd w g a .u8 xs) (hb : Byt xs) (hc : a = none → cap = 0) (hcap : xs.length ≤ cap) (hn : xs.length ≤ 1048576) :
    Calls Tryd.prog 23 #[.slice a xs.length cap] w fun e w' => ∃ ys, Canon ys (bval xs) ∧ ys.length ≤ xs.length ∧ NewRow w.heap.size w' e .u8 ys ∧ Below w.heap.size w w' := by
  go_enter Tryd.func23, Tryd.ntmps23
  go_wp2
  go_loop [3] (fun i => ∃ k : Nat, k ≤ xs.length ∧ i = .int .i64 k ∧ ZeroTo xs k) (fun i => xs.length - (intOf i).toNat)
  case atStart => exact ⟨0, Nat.zero_le _, rfl, fun j hj => absurd hj (by omega)⟩
  case round =>
    obtain ⟨k, hk, rfl, hz⟩ := hrel
    by_cases hlt : k < xs.length
    · obtain ⟨off, rfl, hcc⟩ := hr (by omega)
      have hcx := hcc k hlt
      have R := hz.step
      obtain ⟨x, hx⟩ : ∃ x, x = xs.getD k 0 := ⟨_, rfl⟩
      rw [← hx] at hcx R
      have Hx : Hid (x = xs.getD k 0) := hx
      clear hx
      by_cases h0 : x = 0
      · have R' := R h0
        subst h0
        clear R hcc Hx hz
        go_wp2
        go_round
        case rel => exact ⟨k + 1, by omega, by go_num, R'⟩
        case measure => simp [intOf]; omega
      · have h1 : (x == 0) = false := by simp [h0]
        have C := hz.canon hb (fun _ => by rw [← Hx.out]; exact h0)
        have hr' : Rd w g (some ⟨g, off + k, none⟩) .u8 (xs.drop k) := by
          intro _
          refine ⟨off + k, rfl, fun i hi => ?_⟩
          rw [List.length_drop] at hi
          rw [Nat.add_assoc, hcc (k + i) (by omega)]
          simp [List.getElem?_drop]
        have K := l1Copy_any w g (some ⟨g, off + k, none⟩) (cap - k) (xs.drop k) hr' (by simp) (by rw [List.length_drop]; omega)
        rw [List.length_drop] at K
        have HK := hide K
        clear R hcc Hx hz K
        go_wp2_with fail
        refine (unhide HK).mono ?_
        rintro e w1 ⟨⟨a1, c1, g1, rfl, o1, q1, q2, q3⟩, n1⟩
        go_wp2
        go_ret
        exact ⟨_, C, by rw [List.length_drop]; omega, ⟨_, _, _, ret_slice (List.length_drop).symm, o1, q1, q2, q3⟩, n1⟩
    · obtain rfl : k = xs.length := by omega
      have C := hz.canon hb (fun h => absurd h (by omega))
      rw [List.drop_length] at C
      go_wp2_with fail
      · have K := l1Copy_any w 0 a 0 [] (Rd.nil _ _ _ _) (fun _ => rfl) (by simp)
        refine K.mono ?_
        rintro e w1 ⟨⟨a1, c1, g1, rfl, o1, q1, q2, q3⟩, n1⟩
        go_wp2
        go_ret
        exact ⟨_, C, Nat.zero_le _, ⟨_, _, _, rfl, o1, q1, q2, q3⟩, n1⟩
      · have K := l1Copy_any w 0 (Option.map (fun x => x.add xs.length) a) (cap - xs.length) [] (Rd.nil _ _ _ _) (fun h => by simp at h; rw [hc h]; omega) (by simp)
        refine K.mono ?_
        rintro e w1 ⟨⟨a1, c1, g1, rfl, o1, q1, q2, q3⟩, n1⟩
        go_wp2
        go_ret
        exact ⟨_, C, Nat.zero_le _, ⟨_, _, _, rfl, o1, q1, q2, q3⟩, n1⟩

set_option maxHeartbeats 1000000 in
theorem l1Little_any (w : World) (g : Nat) (a : Option Addr) (cap : Nat) (xs : List Int) (n : Nat) (hr : Rd w g a .u8 xs) (hb : Byt xs) (hn : xs.length ≤ 1048576) (hm : n ≤ 1048576) :
    Calls Tryd.prog 19 #[.slice a xs.length cap, .int .i64 n] w fun e w' => e = .returned (.slice (some ⟨w.heap.size, 0, none⟩) n n) ∧ Blk w' w.heap.size .u8 (fill (dig xs) n) ∧ Below w.heap.size w w' := by
  obtain ⟨i0, hi, hz0, hz1, hz2⟩ := info_parts Tryd.info5
  go_enter Tryd.func19, Tryd.ntmps19
  go_wp2_with (at_make; refine wpList_make_full _ rfl _ _ 22 rfl w.heap.size 5 i0 (.int .u8 0) 1 Tryd.underlying22 hi hz0 hz1 .i64 .i64 _ _ n rfl rfl rfl rfl (by rw [hz2]; omega) (by unfold maxLen; omega) (Nat.le_refl _) ?_; intro w1 hown hgrow)
  have hB0 := Blk.of_made hown
  have hN0 : Below w.heap.size w w1 := (Below.refl _ _).grown hgrow (Nat.le_refl _) (by simp)
  clear hown hgrow
  go_loopw [6] (fun i wr => ∃ (k : Nat) (ys : List Int), k ≤ n ∧ i = .int .i64 k ∧ FillTo (dig xs) ys n k ∧ Blk wr w.heap.size .u8 ys ∧ Below w.heap.size w wr) (fun i _ => n - (intOf i).toNat)
  case atStart => exact ⟨0, _, Nat.zero_le _, rfl, ⟨by simp, fun j h => absurd h (by omega)⟩, hB0, hN0⟩
  case round =>
    obtain ⟨k, ys, hk, rfl, hcp, hB, hN⟩ := hrel
    by_cases hlt : k < n
    · have R := hcp.step hlt
      have hcy : wr.cell? ⟨w.heap.size, k, none⟩ = some (.int .u8 (ys.getD k 0)) := hB.cell (by rw [hcp.1]; exact hlt)
      have hfy := hB.free k
      have hB' := hB.store k (dig xs k)
      have hN' : Below w.heap.size w (wr.setCell ⟨w.heap.size, k, none⟩ (.int .u8 (dig xs k))) := hN.setCell (Nat.le_refl _) _
      have hr' := hr.up hN
      have hd := dig_byt hb k
      have hd' : dig xs k % 256 = dig xs k := by omega
      clear hB hN hcp
      go_wp2_with fail
      refine (l1Digit_any wr g a cap xs _ hr' hb hn (by omega) (by omega)).mono ?_
      rintro e w' ⟨rfl, rfl⟩
      rw [Int.toNat_natCast]
      generalize dig xs k = x at *
      go_wp2
      go_roundw
      case rel => exact ⟨k + 1, _, by omega, by go_num, R, hB', hN'⟩
      case measure => simp [intOf]; omega
    · obtain rfl : k = n := by omega
      go_wp2
      go_ret
      refine ⟨rfl, ?_, hN⟩
      rw [← hcp.all]
      exact hB

/-- An empty row in a new block. -/
theorem newRow_lit (w : World) (k : IntKind) : NewRow w.heap.size (w.alloc (.cells #[] 5)) (.returned (.slice (some ⟨w.heap.size, 0, none⟩) 0 0)) k [] :=
  ⟨_, 0, w.heap.size, rfl, Own.nil _ _ _ _, by simp, Nat.zero_le _, Nat.le_refl _⟩

theorem newRow_nil (w : World) (k : IntKind) : NewRow w.heap.size w (.returned (.slice none 0 0)) k [] :=
  ⟨_, 0, w.heap.size, rfl, Own.nil _ _ _ _, by simp, Nat.zero_le _, Nat.le_refl _⟩

theorem newRow_nil' {B : Nat} {w : World} {k : IntKind} (h : B ≤ w.heap.size) : NewRow B w (.returned (.slice none 0 0)) k [] :=
  ⟨_, 0, w.heap.size, rfl, Own.nil _ _ _ _, by simp, Nat.zero_le _, h⟩

end Go.Proofs.YtpjgedbemblnhaaDoor

/-
  Differences digit by digit: plain arithmetic.
-/
namespace Go.Proofs.YtpjgedbemblnhaaDoor
set_option maxRecDepth 100000

/-- The model's difference: i digits are laid, c is borrowed. -/
def SubTo (xs us ys : List Int) (i : Nat) (c : Int) : Prop :=
  ys.length = xs.length ∧ Byt ys ∧ (0 ≤ c ∧ c ≤ 1) ∧ lo ys i + lo us i = lo xs i + c * 256 ^ i
theorem SubTo.step {xs us ys : List Int} {i : Nat} {c : Int} (h : SubTo xs us ys i c) (hi : i < xs.length) (v c' : Int) (hv : v = dig xs i - dig us i - c + 256 * c') (h0 : 0 ≤ v) (h1 : v < 256) (hc' : 0 ≤ c' ∧ c' ≤ 1) :
    SubTo xs us (ys.set (xs.length - 1 - i) v) (i + 1) c' := by
  obtain ⟨h2, h3, h4, h5⟩ := h
  refine ⟨by simpa using h2, byt_set h3 _ _ h0 h1, hc', ?_⟩
  rw [← h2, lo_set ys i _ (by omega), lo, lo, Int.pow_succ]
  have e : v * 256 ^ i + dig us i * 256 ^ i + c * 256 ^ i = dig xs i * 256 ^ i + c' * (256 ^ i * 256) := by
    rw [hv, ← Int.add_mul, ← Int.add_mul, Int.mul_comm (256 ^ i) 256, ← Int.mul_assoc, ← Int.add_mul]
    congr 1
    omega
  omega
theorem SubTo.done {xs us ys : List Int} {c : Int} (h : SubTo xs us ys xs.length c) (hu : us.length ≤ xs.length) (hle : bval us ≤ bval xs) : bval ys = bval xs - bval us := by
  obtain ⟨h1, h2, h3, h4⟩ := h
  have hb := (lo_bd h2 xs.length).2
  rw [lo_all ys _ (by omega), lo_all xs _ (Nat.le_refl _), lo_all us _ hu] at h4
  rw [lo_all ys _ (by omega)] at hb
  rcases (show c = 0 ∨ c = 1 by omega) with rfl | rfl
  · omega
  · omega
theorem canon_lt {a b : List Int} {v : Int} (ha : Byt a) (hb : Canon b v) (h : a.length < b.length) : bval a < bval b := by
  refine hi_lt ha hb.1 (b.length - 1) ?_
  rw [hi_past a _ (by omega), hi_step b, hi_past b _ (by omega), dig_top b (by omega)]
  have := hb.1 0
  have := hb.2.2 (by omega)
  omega

/-- Limbs less T times other limbs, in place: i limbs are laid, b is borrowed, c is carried. -/
def TakeTo (zs ms ys : List Int) (T : Int) (i : Nat) (b c : Int) : Prop :=
  ys.length = zs.length ∧ Lmb ys ∧ (0 ≤ b ∧ b ≤ 1) ∧ (0 ≤ c ∧ c < 4294967296) ∧ llo ys i + T * llo ms i = llo zs i + (b + c) * 4294967296 ^ i ∧ ∀ j, i ≤ j → ys.getD j 0 = zs.getD j 0
theorem TakeTo.zero {zs : List Int} (ms : List Int) (T : Int) (h : Lmb zs) : TakeTo zs ms zs T 0 0 0 := ⟨rfl, h, ⟨by omega, by omega⟩, ⟨by omega, by omega⟩, by simp [llo], fun _ _ => rfl⟩
theorem TakeTo.step {zs ms ys : List Int} {T : Int} {i : Nat} {b c : Int} (h : TakeTo zs ms ys T i b c) (hi : i < zs.length) (y b' c' l : Int) (h1 : c + T * ms.getD i 0 = c' * 4294967296 + l) (h2 : y = zs.getD i 0 - l - b + b' * 4294967296)
    (y0 : 0 ≤ y) (y1 : y < 4294967296) (hb : 0 ≤ b' ∧ b' ≤ 1) (hc : 0 ≤ c' ∧ c' < 4294967296) : TakeTo zs ms (ys.set i y) T (i + 1) b' c' := by
  obtain ⟨e1, e2, e3, e4, e5, e6⟩ := h
  refine ⟨by simpa using e1, lmb_set e2 _ _ y0 y1, hb, hc, ?_, fun j hj => by rw [getD_set_ne _ _ _ _ (by omega)]; exact e6 j (by omega)⟩
  rw [llo_set ys i _ (by omega), llo, llo, Int.pow_succ, Int.mul_add, ← Int.mul_assoc T]
  have e : y * 4294967296 ^ i + T * ms.getD i 0 * 4294967296 ^ i + (b + c) * 4294967296 ^ i = zs.getD i 0 * 4294967296 ^ i + (b' + c') * (4294967296 ^ i * 4294967296) := by
    rw [Int.mul_comm (4294967296 ^ i) 4294967296, ← Int.mul_assoc, ← Int.add_mul, ← Int.add_mul, ← Int.add_mul]
    congr 1
    omega
  omega
theorem TakeTo.done {zs ms ys : List Int} {T : Int} {b c : Int} (h : TakeTo zs ms ys T zs.length b c) (hm : ms.length ≤ zs.length) : lval ys + T * lval ms = lval zs + (b + c) * 4294967296 ^ zs.length := by
  obtain ⟨h1, h2, h3, h4, h5, h6⟩ := h
  rw [llo_all ys _ (by omega), llo_all zs _ (Nat.le_refl _), llo_all ms _ hm] at h5
  exact h5
/-- One limb's difference, as the machine makes it. -/
theorem take_limb (z l b : Int) (hz : 0 ≤ z ∧ z < 4294967296) (hl : 0 ≤ l ∧ l < 4294967296) (hb : 0 ≤ b ∧ b ≤ 1) :
    IntKind.u64.wrap (IntKind.u64.wrap (z - l) - b) % 4294967296 = z - l - b + IntKind.u64.wrap (IntKind.u64.wrap (z - l) - b) / 9223372036854775808 * 4294967296 ∧
    (0 ≤ IntKind.u64.wrap (IntKind.u64.wrap (z - l) - b) % 4294967296 ∧ IntKind.u64.wrap (IntKind.u64.wrap (z - l) - b) % 4294967296 < 4294967296) ∧
    (0 ≤ IntKind.u64.wrap (IntKind.u64.wrap (z - l) - b) / 9223372036854775808 ∧ IntKind.u64.wrap (IntKind.u64.wrap (z - l) - b) / 9223372036854775808 ≤ 1) := by
  have e : ∀ n : Int, IntKind.u64.wrap n = n % 18446744073709551616 := fun n => by simp [IntKind.wrap, IntKind.bits, IntKind.signed]
  rw [e, e]
  refine ⟨?_, ⟨?_, ?_⟩, ⟨?_, ?_⟩⟩ <;> omega
end Go.Proofs.YtpjgedbemblnhaaDoor

/-
  Products digit by digit: plain arithmetic.
-/
namespace Go.Proofs.YtpjgedbemblnhaaDoor
set_option maxRecDepth 100000

/-- The value of columns, from below. -/
def clo (cs : List Int) : Nat → Int
  | 0 => 0
  | i + 1 => clo cs i + cs.getD i 0 * 256 ^ i
theorem clo_set (cs : List Int) (q : Nat) (v : Int) (h : q < cs.length) : ∀ N, clo (cs.set q v) N = clo cs N + (if q < N then (v - cs.getD q 0) * 256 ^ q else 0)
  | 0 => by simp [clo]
  | N + 1 => by
    rw [clo, clo, clo_set cs q v h N]
    by_cases e : q = N
    · subst e
      rw [getD_set_self _ _ _ h, if_neg (by omega), if_pos (by omega), Int.sub_mul]
      omega
    · rw [getD_set_ne _ _ _ _ e]
      by_cases h1 : q < N
      · rw [if_pos h1, if_pos (by omega)]; omega
      · rw [if_neg h1, if_neg (by omega)]; omega
theorem clo_zeros (n : Nat) : ∀ N, clo (List.replicate n 0) N = 0
  | 0 => rfl
  | N + 1 => by
    rw [clo, clo_zeros n N]
    by_cases h : N < n <;> simp [h]

/-- The model's columns behind i rows and j digits of the next. -/
def ColTo (xs us cs : List Int) (n i j : Nat) : Prop :=
  cs.length = n ∧ (∀ k, 0 ≤ cs.getD k 0 ∧ cs.getD k 0 ≤ 65025 * (i : Int) + (if k < i + j then 65025 else 0)) ∧ clo cs n = lo xs i * bval us + dig xs i * 256 ^ i * lo us j
theorem ColTo.step {xs us cs : List Int} {n i j : Nat} (h : ColTo xs us cs n i j) (hx : Byt xs) (hu : Byt us) (hij : i + j < n) :
    ColTo xs us (cs.set (i + j) (cs.getD (i + j) 0 + dig xs i * dig us j)) n i (j + 1) := by
  obtain ⟨h1, h2, h3⟩ := h
  have d1 := dig_byt hx i
  have d2 := dig_byt hu j
  have m0 : 0 ≤ dig xs i * dig us j := Int.mul_nonneg d1.1 d2.1
  have m1 : dig xs i * dig us j ≤ 255 * 255 := Int.le_trans (Int.mul_le_mul_of_nonneg_right d1.2 d2.1) (Int.mul_le_mul_of_nonneg_left d2.2 (by decide))
  refine ⟨by simpa using h1, fun k => ?_, ?_⟩
  · by_cases e : i + j = k
    · subst e
      rw [getD_set_self _ _ _ (by omega)]
      have := h2 (i + j)
      rw [if_neg (by omega)] at this
      rw [if_pos (by omega)]
      omega
    · rw [getD_set_ne _ _ _ _ e]
      have := h2 k
      by_cases hk : k < i + j
      · rw [if_pos hk] at this
        rw [if_pos (by omega)]
        exact this
      · rw [if_neg hk] at this
        rw [if_neg (by omega)]
        exact this
  · rw [clo_set cs _ _ (by omega), if_pos hij, h3, lo, Int.mul_add]
    have e1 : (cs.getD (i + j) 0 + dig xs i * dig us j - cs.getD (i + j) 0) * 256 ^ (i + j) = dig xs i * 256 ^ i * (dig us j * 256 ^ j) := by
      rw [show cs.getD (i + j) 0 + dig xs i * dig us j - cs.getD (i + j) 0 = dig xs i * dig us j by omega, Int.pow_add, Int.mul_assoc, Int.mul_assoc, ← Int.mul_assoc (dig us j), Int.mul_comm (dig us j), Int.mul_assoc (256 ^ i)]
    omega
theorem ColTo.row {xs us cs : List Int} {n i : Nat} (h : ColTo xs us cs n i us.length) : ColTo xs us cs n (i + 1) 0 := by
  obtain ⟨h1, h2, h3⟩ := h
  refine ⟨h1, fun k => ?_, ?_⟩
  · have := h2 k
    have e : ((i + 1 : Nat) : Int) = (i : Int) + 1 := by omega
    rw [e]
    by_cases c1 : k < i + us.length
    · rw [if_pos c1] at this
      by_cases c2 : k < i + 1 + 0
      · rw [if_pos c2]; omega
      · rw [if_neg c2]; omega
    · rw [if_neg c1] at this
      by_cases c2 : k < i + 1 + 0
      · rw [if_pos c2]; omega
      · rw [if_neg c2]; omega
  · rw [h3, lo_all us _ (Nat.le_refl _)]
    show _ = (lo xs i + dig xs i * 256 ^ i) * bval us + dig xs (i + 1) * 256 ^ (i + 1) * 0
    rw [Int.add_mul]
    omega
theorem ColTo.zero (xs us : List Int) (n : Nat) : ColTo xs us (List.replicate n 0) n 0 0 := by
  refine ⟨by simp, fun k => ?_, by rw [clo_zeros]; simp [lo]⟩
  by_cases h : k < n <;> simp [h]

/-- Columns into digits: i are laid, c is carried. -/
def OutTo (cs ys : List Int) (n i : Nat) (c : Int) : Prop := ys.length = n ∧ Byt ys ∧ lo ys i + c * 256 ^ i = clo cs i
theorem OutTo.step {cs ys : List Int} {n i : Nat} {c : Int} (h : OutTo cs ys n i c) (hi : i < n) : OutTo cs (ys.set (n - 1 - i) ((cs.getD i 0 + c) % 256)) n (i + 1) ((cs.getD i 0 + c) / 256) := by
  obtain ⟨h1, h2, h3⟩ := h
  subst h1
  refine ⟨by simp, byt_set h2 _ _ (by omega) (by omega), ?_⟩
  rw [lo_set ys i _ hi, clo, Int.pow_succ, ← h3]
  generalize hv : cs.getD i 0 + c = v at *
  have e : v = v % 256 + v / 256 * 256 := by omega
  have e2 : v * 256 ^ i = (v % 256) * 256 ^ i + v / 256 * (256 ^ i * 256) := by
    conv => lhs; rw [e]
    rw [Int.add_mul, Int.mul_assoc, Int.mul_comm 256]
  have e3 : v * 256 ^ i = cs.getD i 0 * 256 ^ i + c * 256 ^ i := by rw [← hv, Int.add_mul]
  omega
theorem bval_lt {xs : List Int} (h : Byt xs) : bval xs < 256 ^ xs.length := by
  rw [← lo_all xs xs.length (Nat.le_refl _)]; exact (lo_bd h _).2
theorem mul_lt {a b p q : Int} (a0 : 0 ≤ a) (ha : a < p) (b0 : 0 ≤ b) (hb : b < q) : a * b < p * q := by
  have h1 : a * b ≤ a * q := Int.mul_le_mul_of_nonneg_left (by omega) a0
  have h2 : a * q < p * q := Int.mul_lt_mul_of_pos_right ha (by omega)
  omega
theorem OutTo.done {xs us cs ys : List Int} {c : Int} (h : OutTo cs ys (xs.length + us.length + 1) (xs.length + us.length + 1) c) (hc : 0 ≤ c) (hC : ColTo xs us cs (xs.length + us.length + 1) xs.length 0) (hx : Byt xs) (hu : Byt us) :
    bval ys = bval xs * bval us := by
  obtain ⟨h1, h2, h3⟩ := h
  obtain ⟨_, _, k3⟩ := hC
  rw [k3, lo_all ys _ (by omega), lo_all xs _ (Nat.le_refl _), lo, Int.mul_zero, Int.add_zero, Int.pow_succ, Int.pow_add] at h3
  have l1 := mul_lt (bval_nonneg hx) (bval_lt hx) (bval_nonneg hu) (bval_lt hu)
  have y0 := bval_nonneg h2
  have p := Int.mul_pos (p256_pos xs.length) (p256_pos us.length)
  generalize (256 : Int) ^ xs.length * 256 ^ us.length = P at *
  by_cases h0 : c = 0
  · rw [h0] at h3; omega
  · have : 1 * (P * 256) ≤ c * (P * 256) := Int.mul_le_mul_of_nonneg_right (by omega) (by omega)
    omega

theorem mul4 (a p b q : Int) : a * p * (b * q) = a * b * (p * q) := by rw [Int.mul_assoc, Int.mul_left_comm p b q, ← Int.mul_assoc]
/-- Limbs times limbs: i rows, j limbs of the next, c carried; beyond i + m there is nothing. -/
def LMulTo (zs ms ps : List Int) (i j : Nat) (c : Int) : Prop :=
  ps.length = zs.length + ms.length ∧ Lmb ps ∧ (0 ≤ c ∧ c < 4294967296) ∧ (∀ k, i + ms.length ≤ k → ps.getD k 0 = 0) ∧
  lval ps + c * 4294967296 ^ (i + j) = llo zs i * lval ms + zs.getD i 0 * 4294967296 ^ i * llo ms j
theorem LMulTo.zero (zs ms : List Int) : LMulTo zs ms (List.replicate (zs.length + ms.length) 0) 0 0 0 := by
  refine ⟨by simp, lmb_zeros _, ⟨by omega, by omega⟩, fun k _ => ?_, by rw [lval_zeros]; simp [llo]⟩
  by_cases h : k < zs.length + ms.length <;> simp [h]
theorem LMulTo.step {zs ms ps : List Int} {i j : Nat} {c : Int} (h : LMulTo zs ms ps i j c) (hz : Lmb zs) (hm : Lmb ms) (hi : i < zs.length) (hj : j < ms.length) :
    LMulTo zs ms (ps.set (i + j) ((c + (zs.getD i 0 * ms.getD j 0 + ps.getD (i + j) 0)) % 4294967296)) i (j + 1) ((c + (zs.getD i 0 * ms.getD j 0 + ps.getD (i + j) 0)) / 4294967296) := by
  obtain ⟨h1, h2, h3, h4, h5⟩ := h
  have d1 := hz i
  have d2 := hm j
  have d3 := h2 (i + j)
  have u0 : 0 ≤ zs.getD i 0 * ms.getD j 0 := Int.mul_nonneg d1.1 d2.1
  have u1 : zs.getD i 0 * ms.getD j 0 ≤ 4294967295 * 4294967295 := Int.le_trans (Int.mul_le_mul_of_nonneg_right (show zs.getD i 0 ≤ 4294967295 by omega) d2.1) (Int.mul_le_mul_of_nonneg_left (by omega) (by decide))
  refine ⟨by simpa using h1, lmb_set h2 _ _ (by omega) (by omega), ⟨by omega, by omega⟩, fun k hk => by rw [getD_set_ne _ _ _ _ (by omega)]; exact h4 k hk, ?_⟩
  rw [lval_set _ ps (i + j) (by omega), show llo ms (j + 1) = llo ms j + ms.getD j 0 * 4294967296 ^ j from rfl, Int.mul_add, ← Nat.add_assoc, Int.pow_succ]
  have e1 : zs.getD i 0 * 4294967296 ^ i * (ms.getD j 0 * 4294967296 ^ j) = zs.getD i 0 * ms.getD j 0 * 4294967296 ^ (i + j) := by
    rw [Int.pow_add, mul4]
  rw [e1]
  generalize hP : (4294967296 : Int) ^ (i + j) = P at *
  generalize zs.getD i 0 * ms.getD j 0 = zm at *
  generalize ps.getD (i + j) 0 = q at *
  generalize hv : c + (zm + q) = v at *
  have e : v = v % 4294967296 + v / 4294967296 * 4294967296 := by omega
  have e2 : v * P = (v % 4294967296) * P + v / 4294967296 * (P * 4294967296) := by
    conv => lhs; rw [e]
    rw [Int.add_mul, Int.mul_assoc, Int.mul_comm 4294967296 P]
  have e3 : v * P = c * P + (zm * P + q * P) := by rw [← hv, Int.add_mul, Int.add_mul]
  rw [Int.sub_mul]
  omega
theorem LMulTo.row {zs ms ps : List Int} {i : Nat} {c : Int} (h : LMulTo zs ms ps i ms.length c) (hi : i < zs.length) : LMulTo zs ms (ps.set (i + ms.length) c) (i + 1) 0 0 := by
  obtain ⟨h1, h2, h3, h4, h5⟩ := h
  refine ⟨by simpa using h1, lmb_set h2 _ _ h3.1 h3.2, ⟨by omega, by omega⟩, fun k hk => by rw [getD_set_ne _ _ _ _ (by omega)]; exact h4 k (by omega), ?_⟩
  rw [lval_set _ ps (i + ms.length) (by omega), h4 _ (Nat.le_refl _), Int.sub_zero, h5, llo_all ms _ (Nat.le_refl _), llo, llo, Int.add_mul]
  omega
theorem LMulTo.done {zs ms ps : List Int} (h : LMulTo zs ms ps zs.length 0 0) : lval ps = lval zs * lval ms := by
  obtain ⟨h1, h2, h3, h4, h5⟩ := h
  rw [llo_all zs _ (Nat.le_refl _), llo] at h5
  omega
end Go.Proofs.YtpjgedbemblnhaaDoor

/-
  Division bit by bit: plain arithmetic.
-/
namespace Go.Proofs.YtpjgedbemblnhaaDoor
set_option maxRecDepth 100000

theorem p2pos (s : Nat) : (0 : Int) < 2 ^ s := Int.pow_pos (by decide)
/-- Bit i, the highest first. -/
def bitAt (xs : List Int) (i : Nat) : Int := xs.getD (i / 8) 0 / 2 ^ (7 - i % 8) % 2
/-- The number of the first i bits. -/
def abits (xs : List Int) (i : Nat) : Int := bval (xs.take (i / 8)) * 2 ^ (i % 8) + xs.getD (i / 8) 0 / 2 ^ (8 - i % 8)
theorem abits_step {xs : List Int} (hx : Byt xs) (i : Nat) (hi : i < 8 * xs.length) : abits xs (i + 1) = 2 * abits xs i + bitAt xs i := by
  have hb := hx (i / 8)
  unfold abits bitAt
  by_cases h : i % 8 = 7
  · rw [show (i + 1) / 8 = i / 8 + 1 by omega, show (i + 1) % 8 = 0 by omega, h, List.take_succ_eq_append_getElem (show i / 8 < xs.length by omega), bval_snoc]
    have hb2 := hx (i / 8 + 1)
    have e : xs[i / 8]'(by omega) = xs.getD (i / 8) 0 := by simp [show i / 8 < xs.length by omega]
    rw [e]
    generalize bval (xs.take (i / 8)) = T
    generalize xs.getD (i / 8) 0 = x at *
    generalize xs.getD (i / 8 + 1) 0 = y at *
    have y0 : y / 2 ^ (8 - 0) = 0 := Int.ediv_eq_zero_of_lt hb2.1 (by show y < 256; exact hb2.2)
    rw [y0]
    simp
    omega
  · rw [show (i + 1) / 8 = i / 8 by omega, show (i + 1) % 8 = i % 8 + 1 by omega]
    obtain ⟨m, hm⟩ : ∃ m, 7 - i % 8 = m := ⟨_, rfl⟩
    rw [show 8 - (i % 8 + 1) = m by omega, show 8 - i % 8 = m + 1 by omega, hm, Int.pow_succ, Int.pow_succ, ← Int.ediv_ediv_of_nonneg (show (0 : Int) ≤ 2 ^ m by have := p2pos m; omega)]
    generalize xs.getD (i / 8) 0 / 2 ^ m = y
    generalize bval (xs.take (i / 8)) = T
    rw [← Int.mul_assoc]
    generalize T * 2 ^ (i % 8) = u
    omega
theorem abits_all (xs : List Int) : abits xs (8 * xs.length) = bval xs := by
  unfold abits
  rw [show 8 * xs.length / 8 = xs.length by omega, show 8 * xs.length % 8 = 0 by omega, List.take_length, List.getD_eq_getElem?_getD, List.getElem?_eq_none (Nat.le_refl _)]
  simp
theorem bit_01 (xs : List Int) (i : Nat) : 0 ≤ bitAt xs i ∧ bitAt xs i ≤ 1 := by unfold bitAt; omega

theorem lo_set_all (ys : List Int) (i : Nat) (v : Int) (h : i < ys.length) : ∀ N, lo (ys.set (ys.length - 1 - i) v) N = lo ys N + (if i < N then (v - dig ys i) * 256 ^ i else 0)
  | 0 => by simp [lo]
  | N + 1 => by
    rw [lo, lo, lo_set_all ys i v h N]
    by_cases e : i = N
    · subst e
      rw [dig_set_self ys i v h, if_neg (by omega), if_pos (by omega), Int.sub_mul]
      omega
    · rw [dig_set_ne ys i N v h (by omega)]
      by_cases h1 : i < N
      · rw [if_pos h1, if_pos (by omega)]; omega
      · rw [if_neg h1, if_neg (by omega)]; omega
theorem bval_set (ys : List Int) (p : Nat) (v : Int) (h : p < ys.length) : bval (ys.set p v) = bval ys + (v - ys.getD p 0) * 256 ^ (ys.length - 1 - p) := by
  have e := lo_set_all ys (ys.length - 1 - p) v (by omega) ys.length
  rw [show ys.length - 1 - (ys.length - 1 - p) = p by omega, if_pos (by omega), lo_all ys _ (Nat.le_refl _), lo_all _ _ (by simp)] at e
  have d : dig ys (ys.length - 1 - p) = ys.getD p 0 := by unfold dig; rw [if_pos (by omega), show ys.length - 1 - (ys.length - 1 - p) = p by omega]
  rw [d] at e
  exact e
theorem p256_2 (m : Nat) : (256 : Int) ^ m = 2 ^ (8 * m) := by
  induction m with
  | zero => rfl
  | succ m ih => rw [Int.pow_succ, ih, show 8 * (m + 1) = 8 * m + 8 by omega, Int.pow_add]; rfl

/-- The quotient behind i bits: what is not yet reached is 0. -/
def QTo (qs : List Int) (n i : Nat) (Q : Int) : Prop := qs.length = n ∧ Byt qs ∧ bval qs = Q * 2 ^ (8 * n - i) ∧ qs.getD (i / 8) 0 % 2 ^ (8 - i % 8) = 0 ∧ ∀ k, i / 8 < k → qs.getD k 0 = 0
theorem QTo.zero (n : Nat) : QTo (List.replicate n 0) n 0 0 := by
  refine ⟨by simp, byt_zeros n, ?_, ?_, fun k _ => by by_cases h : k < n <;> simp [h]⟩
  · rw [← lo_all _ n (by simp), Int.zero_mul]
    have h : ∀ N, lo (List.replicate n 0) N = 0 := fun N => by
      induction N with
      | zero => rfl
      | succ N ih =>
        have d := dig_byt (byt_zeros n) N
        have e : dig (List.replicate n (0 : Int)) N = 0 := by
          unfold dig
          split
          · rename_i hN
            simp at hN
            simp [show n - 1 - N < n by omega]
          · rfl
        rw [lo, ih, e]
        omega
    exact h n
  · by_cases h : 0 < n <;> simp [h]
theorem mod_half {x : Int} {m : Nat} (h : x % 2 ^ (m + 1) = 0) : x % 2 ^ m = 0 := by
  rw [Int.pow_succ] at h
  have := Int.emod_emod_of_dvd x (Int.dvd_mul_right (2 ^ m) 2)
  rw [h] at this
  simpa using this.symm
theorem QTo.off {qs : List Int} {n i : Nat} {Q : Int} (h : QTo qs n i Q) (hi : i < 8 * n) : QTo qs n (i + 1) (2 * Q) := by
  obtain ⟨h1, h2, h3, h4, h5⟩ := h
  refine ⟨h1, h2, ?_, ?_, fun k hk => h5 k (by omega)⟩
  · rw [h3, show 8 * n - i = (8 * n - (i + 1)) + 1 by omega, Int.pow_succ, Int.mul_comm 2 Q, Int.mul_assoc Q 2, Int.mul_comm 2]
  · by_cases h : i % 8 = 7
    · rw [show (i + 1) / 8 = i / 8 + 1 by omega, h5 _ (by omega)]
      simp
    · rw [show (i + 1) / 8 = i / 8 by omega]
      refine mod_half ?_
      rw [show 8 - (i + 1) % 8 + 1 = 8 - i % 8 by omega]
      exact h4
theorem QTo.on {qs : List Int} {n i : Nat} {Q : Int} (h : QTo qs n i Q) (hi : i < 8 * n) : QTo (qs.set (i / 8) (qs.getD (i / 8) 0 + 2 ^ (7 - i % 8))) n (i + 1) (2 * Q + 1) := by
  have ho := h.off hi
  obtain ⟨h1, h2, h3, h4, h5⟩ := h
  have hb := h2 (i / 8)
  have p := p2pos (7 - i % 8)
  have lt : qs.getD (i / 8) 0 + 2 ^ (7 - i % 8) < 256 := by
    have e : (256 : Int) = 2 ^ (8 - i % 8) * 2 ^ (i % 8) := by rw [← Int.pow_add, show 8 - i % 8 + i % 8 = 8 by omega]; rfl
    have e2 : (2 : Int) ^ (8 - i % 8) = 2 ^ (7 - i % 8) * 2 := by rw [show 8 - i % 8 = (7 - i % 8) + 1 by omega, Int.pow_succ]
    obtain ⟨c, hc⟩ := Int.dvd_of_emod_eq_zero h4
    rw [hc] at hb ⊢
    have p8 := p2pos (8 - i % 8)
    have c1 : c < 2 ^ (i % 8) := by
      by_cases k : c < 2 ^ (i % 8)
      · exact k
      · have : 2 ^ (8 - i % 8) * 2 ^ (i % 8) ≤ 2 ^ (8 - i % 8) * c := Int.mul_le_mul_of_nonneg_left (by omega) (by omega)
        omega
    have : 2 ^ (8 - i % 8) * (c + 1) ≤ 2 ^ (8 - i % 8) * 2 ^ (i % 8) := Int.mul_le_mul_of_nonneg_left (by omega) (by omega)
    rw [Int.mul_add, Int.mul_one] at this
    omega
  refine ⟨by simpa using h1, byt_set h2 _ _ (by omega) lt, ?_, ?_, fun k hk => by rw [getD_set_ne _ _ _ _ (by omega)]; exact h5 k (by omega)⟩
  · rw [bval_set qs _ _ (by omega), show qs.getD (i / 8) 0 + 2 ^ (7 - i % 8) - qs.getD (i / 8) 0 = 2 ^ (7 - i % 8) by omega, ho.2.2.1, Int.add_mul, Int.one_mul, p256_2, ← Int.pow_add, h1, show 7 - i % 8 + 8 * (n - 1 - i / 8) = 8 * n - (i + 1) by omega]
  · by_cases c : i % 8 = 7
    · rw [show (i + 1) / 8 = i / 8 + 1 by omega, getD_set_ne _ _ _ _ (by omega), h5 _ (by omega)]
      simp
    · rw [show (i + 1) / 8 = i / 8 by omega, getD_set_self _ _ _ (by omega)]
      have a := ho.2.2.2.1
      rw [show (i + 1) / 8 = i / 8 by omega] at a
      rw [show 8 - (i + 1) % 8 = 7 - i % 8 by omega] at a ⊢
      rw [Int.add_emod, a]
      simp
theorem or_bit {x : Int} {m : Nat} (h : x % 2 ^ (m + 1) = 0) (x0 : 0 ≤ x) (x1 : x < 256) (hm : m ≤ 7) : bits BinOp.or IntKind.u8 x (2 ^ m) = x + 2 ^ m := by
  have p := p2pos m
  have p7 : (2 : Int) ^ m ≤ 128 := by
    have h1 : 2 ^ m ≤ 128 := Nat.pow_le_pow_right (n := 2) (by decide) hm
    have h2 : ((2 ^ m : Nat) : Int) ≤ 128 := by omega
    rw [Int.natCast_pow] at h2
    exact h2
  exact bits_join .u8 8 (by decide) wraps_u8 (m + 1) x (2 ^ m) x0 h (by omega) (by omega) (by rw [Int.pow_succ]; omega) (by omega)

/-- Twice a number and a bit, in place. -/
def DblTo (rs ys : List Int) (i : Nat) (b c : Int) : Prop := ys.length = rs.length ∧ Byt ys ∧ (0 ≤ c ∧ c ≤ 1) ∧ lo ys i + c * 256 ^ i = 2 * lo rs i + b ∧ ∀ j, i ≤ j → dig ys j = dig rs j
theorem DblTo.zero {rs : List Int} (h : Byt rs) (b : Int) (hb : 0 ≤ b ∧ b ≤ 1) : DblTo rs rs 0 b b := ⟨rfl, h, hb, by simp [lo], fun _ _ => rfl⟩
theorem DblTo.step {rs ys : List Int} {i : Nat} {b c : Int} (h : DblTo rs ys i b c) (hr : Byt rs) (hi : i < rs.length) : DblTo rs (ys.set (rs.length - 1 - i) ((dig rs i * 2 + c) % 256)) (i + 1) b ((dig rs i * 2 + c) / 256) := by
  obtain ⟨h1, h2, h3, h4, h5⟩ := h
  have d := dig_byt hr i
  refine ⟨by simpa using h1, byt_set h2 _ _ (by omega) (by omega), ⟨by omega, by omega⟩, ?_, fun j hj => ?_⟩
  · rw [← h1, lo_set ys i _ (by omega), lo, Int.pow_succ]
    generalize hv : dig rs i * 2 + c = v at *
    have e : v = v % 256 + v / 256 * 256 := by omega
    have e2 : v * 256 ^ i = (v % 256) * 256 ^ i + v / 256 * (256 ^ i * 256) := by
      conv => lhs; rw [e]
      rw [Int.add_mul, Int.mul_assoc, Int.mul_comm 256]
    have e3 : v * 256 ^ i = 2 * (dig rs i * 256 ^ i) + c * 256 ^ i := by rw [← hv, Int.add_mul, Int.mul_comm (dig rs i) 2, Int.mul_assoc]
    omega
  · rw [← h1, dig_set_ne ys i j _ (by omega) (by omega)]
    exact h5 j (by omega)
theorem DblTo.done {rs ys : List Int} {b c D : Int} (h : DblTo rs ys rs.length b c) (hr : bval rs < D) (hb : b ≤ 1) (hD : 2 * D ≤ 256 ^ rs.length) : bval ys = 2 * bval rs + b := by
  obtain ⟨h1, h2, h3, h4, h5⟩ := h
  rw [lo_all ys _ (by omega), lo_all rs _ (Nat.le_refl _)] at h4
  have y0 := bval_nonneg h2
  rcases (show c = 0 ∨ c = 1 by omega) with rfl | rfl <;> omega
/-- A difference in place. -/
def SbTo (rs ds ys : List Int) (i : Nat) (c : Int) : Prop := SubTo rs ds ys i c ∧ ∀ j, i ≤ j → dig ys j = dig rs j
theorem SbTo.step {rs ds ys : List Int} {i : Nat} {c : Int} (h : SbTo rs ds ys i c) (hi : i < rs.length) (v c' : Int) (hv : v = dig rs i - dig ds i - c + 256 * c') (h0 : 0 ≤ v) (h1 : v < 256) (hc' : 0 ≤ c' ∧ c' ≤ 1) :
    SbTo rs ds (ys.set (rs.length - 1 - i) v) (i + 1) c' :=
  ⟨h.1.step hi v c' hv h0 h1 hc', fun j hj => by rw [← h.1.1, dig_set_ne ys i j _ (by rw [h.1.1]; exact hi) (by omega)]; exact h.2 j (by omega)⟩
end Go.Proofs.YtpjgedbemblnhaaDoor
