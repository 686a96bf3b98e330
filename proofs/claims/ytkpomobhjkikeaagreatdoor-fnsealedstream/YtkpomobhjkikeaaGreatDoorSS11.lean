import Derived.Test.YtkpomobhjkikeaaGreatDoorSS10
namespace Go.Proofs.YtkpomobhjkikeaaGreatDoor
set_option maxRecDepth 100000
theorem p2pos (s : Nat) : (0 : Int) < 2 ^ s := Int.pow_pos (by decide)
theorem lo_set_all (ys : List Int) (i : Nat) (v : Int) (h : i < ys.length) : ∀ N, lo (ys.set (ys.length - 1 - i) v) N = lo ys N + (if i < N then (v - dig ys i) * 256 ^ i else 0)
  | 0 => by simp [lo]
  | N + 1 => by
    rw [lo, lo, lo_set_all ys i v h N]
    by_cases e : i = N
    · subst e
      rw [dig_set_self ys i v h, if_neg (by omega), if_pos (by omega), Int.sub_mul]
      omega
    · rw [dig_set_ne ys i N v h (by omega)]
      by_cases h1 : i < N
      · rw [if_pos h1, if_pos (by omega)]; omega
      · rw [if_neg h1, if_neg (by omega)]; omega
theorem bval_set (ys : List Int) (p : Nat) (v : Int) (h : p < ys.length) : bval (ys.set p v) = bval ys + (v - ys.getD p 0) * 256 ^ (ys.length - 1 - p) := by
  have e := lo_set_all ys (ys.length - 1 - p) v (by omega) ys.length
  rw [show ys.length - 1 - (ys.length - 1 - p) = p by omega, if_pos (by omega), lo_all ys _ (Nat.le_refl _), lo_all _ _ (by simp)] at e
  have d : dig ys (ys.length - 1 - p) = ys.getD p 0 := by unfold dig; rw [if_pos (by omega), show ys.length - 1 - (ys.length - 1 - p) = p by omega]
  rw [d] at e
  exact e
theorem p256_2 (m : Nat) : (256 : Int) ^ m = 2 ^ (8 * m) := by
  induction m with
  | zero => rfl
  | succ m ih => rw [Int.pow_succ, ih, show 8 * (m + 1) = 8 * m + 8 by omega, Int.pow_add]; rfl
def QTo (qs : List Int) (n i : Nat) (Q : Int) : Prop := qs.length = n ∧ Byt qs ∧ bval qs = Q * 2 ^ (8 * n - i) ∧ qs.getD (i / 8) 0 % 2 ^ (8 - i % 8) = 0 ∧ ∀ k, i / 8 < k → qs.getD k 0 = 0
theorem QTo.zero (n : Nat) : QTo (List.replicate n 0) n 0 0 := by
  refine ⟨by simp, byt_zeros n, ?_, ?_, fun k _ => by by_cases h : k < n <;> simp [h]⟩
  · rw [← lo_all _ n (by simp), Int.zero_mul]
    have h : ∀ N, lo (List.replicate n 0) N = 0 := fun N => by
      induction N with
      | zero => rfl
      | succ N ih =>
        have d := dig_byt (byt_zeros n) N
        have e : dig (List.replicate n (0 : Int)) N = 0 := by
          unfold dig
          split
          · rename_i hN
            simp at hN
            simp [show n - 1 - N < n by omega]
          · rfl
        rw [lo, ih, e]
        omega
    exact h n
  · by_cases h : 0 < n <;> simp [h]
theorem mod_half {x : Int} {m : Nat} (h : x % 2 ^ (m + 1) = 0) : x % 2 ^ m = 0 := by
  rw [Int.pow_succ] at h
  have := Int.emod_emod_of_dvd x (Int.dvd_mul_right (2 ^ m) 2)
  rw [h] at this
  simpa using this.symm
theorem QTo.off {qs : List Int} {n i : Nat} {Q : Int} (h : QTo qs n i Q) (hi : i < 8 * n) : QTo qs n (i + 1) (2 * Q) := by
  obtain ⟨h1, h2, h3, h4, h5⟩ := h
  refine ⟨h1, h2, ?_, ?_, fun k hk => h5 k (by omega)⟩
  · rw [h3, show 8 * n - i = (8 * n - (i + 1)) + 1 by omega, Int.pow_succ, Int.mul_comm 2 Q, Int.mul_assoc Q 2, Int.mul_comm 2]
  · by_cases h : i % 8 = 7
    · rw [show (i + 1) / 8 = i / 8 + 1 by omega, h5 _ (by omega)]
      simp
    · rw [show (i + 1) / 8 = i / 8 by omega]
      refine mod_half ?_
      rw [show 8 - (i + 1) % 8 + 1 = 8 - i % 8 by omega]
      exact h4
theorem QTo.on {qs : List Int} {n i : Nat} {Q : Int} (h : QTo qs n i Q) (hi : i < 8 * n) : QTo (qs.set (i / 8) (qs.getD (i / 8) 0 + 2 ^ (7 - i % 8))) n (i + 1) (2 * Q + 1) := by
  have ho := h.off hi
  obtain ⟨h1, h2, h3, h4, h5⟩ := h
  have hb := h2 (i / 8)
  have p := p2pos (7 - i % 8)
  have lt : qs.getD (i / 8) 0 + 2 ^ (7 - i % 8) < 256 := by
    have e : (256 : Int) = 2 ^ (8 - i % 8) * 2 ^ (i % 8) := by rw [← Int.pow_add, show 8 - i % 8 + i % 8 = 8 by omega]; rfl
    have e2 : (2 : Int) ^ (8 - i % 8) = 2 ^ (7 - i % 8) * 2 := by rw [show 8 - i % 8 = (7 - i % 8) + 1 by omega, Int.pow_succ]
    obtain ⟨c, hc⟩ := Int.dvd_of_emod_eq_zero h4
    rw [hc] at hb ⊢
    have p8 := p2pos (8 - i % 8)
    have c1 : c < 2 ^ (i % 8) := by
      by_cases k : c < 2 ^ (i % 8)
      · exact k
      · have : 2 ^ (8 - i % 8) * 2 ^ (i % 8) ≤ 2 ^ (8 - i % 8) * c := Int.mul_le_mul_of_nonneg_left (by omega) (by omega)
        omega
    have : 2 ^ (8 - i % 8) * (c + 1) ≤ 2 ^ (8 - i % 8) * 2 ^ (i % 8) := Int.mul_le_mul_of_nonneg_left (by omega) (by omega)
    rw [Int.mul_add, Int.mul_one] at this
    omega
  refine ⟨by simpa using h1, byt_set h2 _ _ (by omega) lt, ?_, ?_, fun k hk => by rw [getD_set_ne _ _ _ _ (by omega)]; exact h5 k (by omega)⟩
  · rw [bval_set qs _ _ (by omega), show qs.getD (i / 8) 0 + 2 ^ (7 - i % 8) - qs.getD (i / 8) 0 = 2 ^ (7 - i % 8) by omega, ho.2.2.1, Int.add_mul, Int.one_mul, p256_2, ← Int.pow_add, h1, show 7 - i % 8 + 8 * (n - 1 - i / 8) = 8 * n - (i + 1) by omega]
  · by_cases c : i % 8 = 7
    · rw [show (i + 1) / 8 = i / 8 + 1 by omega, getD_set_ne _ _ _ _ (by omega), h5 _ (by omega)]
      simp
    · rw [show (i + 1) / 8 = i / 8 by omega, getD_set_self _ _ _ (by omega)]
      have a := ho.2.2.2.1
      rw [show (i + 1) / 8 = i / 8 by omega] at a
      rw [show 8 - (i + 1) % 8 = 7 - i % 8 by omega] at a ⊢
      rw [Int.add_emod, a]
      simp
def DblTo (rs ys : List Int) (i : Nat) (b c : Int) : Prop := ys.length = rs.length ∧ Byt ys ∧ (0 ≤ c ∧ c ≤ 1) ∧ lo ys i + c * 256 ^ i = 2 * lo rs i + b ∧ ∀ j, i ≤ j → dig ys j = dig rs j
theorem DblTo.zero {rs : List Int} (h : Byt rs) (b : Int) (hb : 0 ≤ b ∧ b ≤ 1) : DblTo rs rs 0 b b := ⟨rfl, h, hb, by simp [lo], fun _ _ => rfl⟩
theorem DblTo.step {rs ys : List Int} {i : Nat} {b c : Int} (h : DblTo rs ys i b c) (hr : Byt rs) (hi : i < rs.length) : DblTo rs (ys.set (rs.length - 1 - i) ((dig rs i * 2 + c) % 256)) (i + 1) b ((dig rs i * 2 + c) / 256) := by
  obtain ⟨h1, h2, h3, h4, h5⟩ := h
  have d := dig_byt hr i
  refine ⟨by simpa using h1, byt_set h2 _ _ (by omega) (by omega), ⟨by omega, by omega⟩, ?_, fun j hj => ?_⟩
  · rw [← h1, lo_set ys i _ (by omega), lo, Int.pow_succ]
    generalize hv : dig rs i * 2 + c = v at *
    have e : v = v % 256 + v / 256 * 256 := by omega
    have e2 : v * 256 ^ i = (v % 256) * 256 ^ i + v / 256 * (256 ^ i * 256) := by
      conv => lhs; rw [e]
      rw [Int.add_mul, Int.mul_assoc, Int.mul_comm 256]
    have e3 : v * 256 ^ i = 2 * (dig rs i * 256 ^ i) + c * 256 ^ i := by rw [← hv, Int.add_mul, Int.mul_comm (dig rs i) 2, Int.mul_assoc]
    omega
  · rw [← h1, dig_set_ne ys i j _ (by omega) (by omega)]
    exact h5 j (by omega)
theorem DblTo.done {rs ys : List Int} {b c D : Int} (h : DblTo rs ys rs.length b c) (hr : bval rs < D) (hb : b ≤ 1) (hD : 2 * D ≤ 256 ^ rs.length) : bval ys = 2 * bval rs + b := by
  obtain ⟨h1, h2, h3, h4, h5⟩ := h
  rw [lo_all ys _ (by omega), lo_all rs _ (Nat.le_refl _)] at h4
  have y0 := bval_nonneg h2
  rcases (show c = 0 ∨ c = 1 by omega) with rfl | rfl <;> omega
def SbTo (rs ds ys : List Int) (i : Nat) (c : Int) : Prop := SubTo rs ds ys i c ∧ ∀ j, i ≤ j → dig ys j = dig rs j
theorem SbTo.step {rs ds ys : List Int} {i : Nat} {c : Int} (h : SbTo rs ds ys i c) (hi : i < rs.length) (v c' : Int) (hv : v = dig rs i - dig ds i - c + 256 * c') (h0 : 0 ≤ v) (h1 : v < 256) (hc' : 0 ≤ c' ∧ c' ≤ 1) :
    SbTo rs ds (ys.set (rs.length - 1 - i) v) (i + 1) c' :=
  ⟨h.1.step hi v c' hv h0 h1 hc', fun j hj => by rw [← h.1.1, dig_set_ne ys i j _ (by rw [h.1.1]; exact hi) (by omega)]; exact h.2 j (by omega)⟩
end Go.Proofs.YtkpomobhjkikeaaGreatDoor
