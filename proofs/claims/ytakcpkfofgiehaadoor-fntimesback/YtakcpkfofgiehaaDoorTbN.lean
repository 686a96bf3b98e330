
/-
  Times and their texts: order. Numbers alone.
-/
import Derived.Test.YtakcpkfofgiehaaDoorDtN
import Derived.Test.YtakcpkfofgiehaaDoorSm8
namespace Go.Proofs.YtakcpkfofgiehaaDoor
set_option maxRecDepth 100000
open Go Go.RowKit

/-- One list of bytes comes ahead of another. -/
def lls : List Int → List Int → Bool
  | _, [] => false
  | [], _ :: _ => true
  | a :: x, b :: y => decide (a < b) || (decide (a = b) && lls x y)
theorem byt_cons {a : Int} {x : List Int} (h : Byt (a :: x)) : (0 ≤ a ∧ a < 256) ∧ Byt x := ⟨by simpa using h 0, fun i => by simpa using h (i + 1)⟩
theorem u8_lt {a b : Int} (ha : 0 ≤ a ∧ a < 256) (hb : 0 ≤ b ∧ b < 256) : decide (UInt8.ofNat a.toNat < UInt8.ofNat b.toNat) = decide (a < b) := by
  apply decide_eq_decide.2
  rw [UInt8.lt_iff_toNat_lt]
  simp
  omega
theorem u8_eq {a b : Int} (ha : 0 ≤ a ∧ a < 256) (hb : 0 ≤ b ∧ b < 256) : (UInt8.ofNat a.toNat == UInt8.ofNat b.toNat) = decide (a = b) := by
  by_cases h : a = b
  · subst h; simp
  · rw [decide_eq_false h]
    refine beq_eq_false_iff_ne.2 fun e => h ?_
    have := congrArg UInt8.toNat e
    simp at this
    omega
theorem bl_map : ∀ (xs ys : List Int), Byt xs → Byt ys → Op.bytesLess (xs.map (fun n => UInt8.ofNat n.toNat)) (ys.map (fun n => UInt8.ofNat n.toNat)) = lls xs ys
  | [], [], _, _ => rfl
  | _ :: _, [], _, _ => rfl
  | [], _ :: _, _, _ => rfl
  | a :: x, b :: y, hx, hy => by
    obtain ⟨ha, hx'⟩ := byt_cons hx
    obtain ⟨hb, hy'⟩ := byt_cons hy
    show (decide (UInt8.ofNat a.toNat < UInt8.ofNat b.toNat) || (UInt8.ofNat a.toNat == UInt8.ofNat b.toNat && Op.bytesLess (x.map _) (y.map _))) = _
    rw [u8_lt ha hb, u8_eq ha hb, bl_map x y hx' hy']
    rfl
theorem bl_str (xs ys : List Int) (hx : Byt xs) (hy : Byt ys) : Op.bytesLess (str xs).toList (str ys).toList = lls xs ys := by
  rw [ByteArray.toList_eq, ByteArray.toList_eq]
  unfold str
  rw [str_data, str_data]
  simpa using bl_map xs ys hx hy
theorem lls_end (z : Int) : ∀ (xs ys : List Int), xs.length = ys.length → lls (xs ++ [z]) (ys ++ [z]) = lls xs ys
  | [], [], _ => by simp [lls]
  | _ :: _, [], h => by simp at h
  | [], _ :: _, h => by simp at h
  | a :: x, b :: y, h => by
    show (decide (a < b) || (decide (a = b) && lls (x ++ [z]) (y ++ [z]))) = _
    rw [lls_end z x y (by simpa using h)]
    rfl
theorem dgs_one (x : Int) : dgs 1 x = [48 + x % 10] := by
  have l := dgs_len 1 x
  match h : dgs 1 x, l with
  | [a], _ =>
    have g := dgs_get 1 x 0 (by decide)
    rw [h] at g
    simp at g
    rw [g]
theorem dgs_head (n : Nat) (u : Int) : dgs (n + 1) u = (48 + u / 10 ^ n % 10) :: dgs n (u % 10 ^ n) := by
  have p := p10_pos n
  have := dgs_app 1 n (u / 10 ^ n) (u % 10 ^ n) (Int.emod_nonneg _ (by omega)) (Int.emod_lt_of_pos _ p)
  rw [dgs_one, Int.mul_comm, Int.mul_ediv_add_emod, Nat.add_comm 1 n] at this
  rw [← this]
  rfl
theorem dgs_lls : ∀ (n : Nat) (u v : Int), 0 ≤ u → u < 10 ^ n → 0 ≤ v → v < 10 ^ n → lls (dgs n u) (dgs n v) = decide (u < v)
  | 0, u, v, u0, u1, v0, v1 => by
    simp at u1 v1
    rw [decide_eq_false (by omega)]
    have a : dgs 0 u = [] := List.eq_nil_of_length_eq_zero (dgs_len 0 u)
    have b : dgs 0 v = [] := List.eq_nil_of_length_eq_zero (dgs_len 0 v)
    rw [a, b]
    rfl
  | n + 1, u, v, u0, u1, v0, v1 => by
    have p := p10_pos n
    rw [dgs_head n u, dgs_head n v]
    show (decide (48 + u / 10 ^ n % 10 < 48 + v / 10 ^ n % 10) || (decide (48 + u / 10 ^ n % 10 = 48 + v / 10 ^ n % 10) && lls (dgs n (u % 10 ^ n)) (dgs n (v % 10 ^ n)))) = _
    rw [dgs_lls n _ _ (Int.emod_nonneg _ (by omega)) (Int.emod_lt_of_pos _ p) (Int.emod_nonneg _ (by omega)) (Int.emod_lt_of_pos _ p)]
    rw [Int.pow_succ] at u1 v1
    have a1 := Int.mul_ediv_add_emod u (10 ^ n)
    have a2 := Int.mul_ediv_add_emod v (10 ^ n)
    have b1 := Int.emod_nonneg u (show (10 : Int) ^ n ≠ 0 by omega)
    have b2 := Int.emod_nonneg v (show (10 : Int) ^ n ≠ 0 by omega)
    have c1 := Int.emod_lt_of_pos u p
    have c2 := Int.emod_lt_of_pos v p
    have d1 : 0 ≤ u / 10 ^ n := Int.ediv_nonneg u0 (by omega)
    have d2 : 0 ≤ v / 10 ^ n := Int.ediv_nonneg v0 (by omega)
    have e1 : u / 10 ^ n < 10 := Int.ediv_lt_of_lt_mul p (by rw [Int.mul_comm]; exact u1)
    have e2 : v / 10 ^ n < 10 := Int.ediv_lt_of_lt_mul p (by rw [Int.mul_comm]; exact v1)
    generalize u / 10 ^ n = q1 at *
    generalize v / 10 ^ n = q2 at *
    generalize u % 10 ^ n = r1 at *
    generalize v % 10 ^ n = r2 at *
    generalize (10 : Int) ^ n = P at *
    rw [show q1 % 10 = q1 by omega, show q2 % 10 = q2 by omega]
    rcases Int.lt_trichotomy q1 q2 with h | h | h
    · have := Int.mul_le_mul_of_nonneg_left (show q1 + 1 ≤ q2 by omega) (show 0 ≤ P by omega)
      rw [Int.mul_add] at this
      rw [decide_eq_true (show 48 + q1 < 48 + q2 by omega), decide_eq_true (show u < v by omega)]
      rfl
    · subst h
      rw [decide_eq_false (show ¬ 48 + q1 < 48 + q1 by omega), decide_eq_true (show 48 + q1 = 48 + q1 from rfl)]
      simp only [Bool.false_or, Bool.true_and]
      exact decide_eq_decide.2 (by omega)
    · have := Int.mul_le_mul_of_nonneg_left (show q2 + 1 ≤ q1 by omega) (show 0 ≤ P by omega)
      rw [Int.mul_add] at this
      rw [decide_eq_false (show ¬ 48 + q1 < 48 + q2 by omega), decide_eq_false (show ¬ 48 + q1 = 48 + q2 by omega), decide_eq_false (show ¬ u < v by omega)]
      rfl
theorem pts_bds {d y x s : Int} {k : Nat} (h : IsDay d y k x) (hy : y ≤ 9999) (s0 : 0 ≤ s) (s1 : s < 86400) : 0 ≤ pts y k x s ∧ pts y k x s < 10 ^ 14 := by
  obtain ⟨y0, hk, x0, x1, -⟩ := h
  have := md_pos y (k + 1)
  unfold pts
  omega
theorem pts_day {d y x s d' y' x' s' : Int} {k k' : Nat} (h : IsDay d y k x) (h' : IsDay d' y' k' x') (hd : d < d') (s0 : 0 ≤ s) (s1 : s < 86400) (s0' : 0 ≤ s') (s1' : s' < 86400) : pts y k x s < pts y' k' x' s' := by
  have Y := h.year
  have Y' := h'.year
  obtain ⟨y0, hk, x0, x1, e⟩ := h
  obtain ⟨y0', hk', x0', x1', e'⟩ := h'
  have m1 := md_pos y (k + 1)
  have m2 := md_pos y' (k' + 1)
  have hy : y ≤ y' := by
    by_cases c : y ≤ y'
    · exact c
    · have := dyA_mono (show y' + 1 ≤ y by omega)
      omega
  unfold pts
  by_cases c : y = y'
  · subst c
    have hk3 : k ≤ k' := by
      by_cases c : k ≤ k'
      · exact c
      · have := mdS_mono y (k' + 1) (k - (k' + 1))
        rw [show k' + 1 + (k - (k' + 1)) = k by omega] at this
        have s : mdS y (k' + 1) = mdS y k' + mdI y (k' + 1) := rfl
        omega
    by_cases c2 : k = k'
    · subst c2
      omega
    · omega
  · omega
theorem pts_lt {t u y x y' x' : Int} {k k' : Nat} (h : IsDay (t / 86400) y k x) (h' : IsDay (u / 86400) y' k' x') (hd : t < u) : pts y k x (t % 86400) < pts y' k' x' (u % 86400) := by
  by_cases c : t / 86400 = u / 86400
  · rw [c] at h
    obtain ⟨rfl, rfl, rfl⟩ := h.uniq h'
    have e : t % 86400 < u % 86400 := by omega
    have a : 0 ≤ t % 86400 := by omega
    have b : u % 86400 < 86400 := by omega
    generalize t % 86400 = s at *
    generalize u % 86400 = s' at *
    have f1 : s = 3600 * (s / 3600) + 60 * (s / 60 % 60) + s % 60 := by omega
    have f2 : s' = 3600 * (s' / 3600) + 60 * (s' / 60 % 60) + s' % 60 := by omega
    have g1 : 0 ≤ s / 60 % 60 ∧ s / 60 % 60 < 60 := by omega
    have g2 : 0 ≤ s' / 60 % 60 ∧ s' / 60 % 60 < 60 := by omega
    have h1 : 0 ≤ s % 60 ∧ s % 60 < 60 := by omega
    have h2 : 0 ≤ s' % 60 ∧ s' % 60 < 60 := by omega
    unfold pts
    generalize s / 3600 = p1 at *
    generalize s' / 3600 = p2 at *
    generalize s / 60 % 60 = q1 at *
    generalize s' / 60 % 60 = q2 at *
    generalize s % 60 = r1 at *
    generalize s' % 60 = r2 at *
    clear h h' c hd
    omega
  · exact pts_day h h' (by omega) (by omega) (by omega) (by omega) (by omega)
theorem et_order {t u : Int} {L M : List Int} (hL : EtIs t L) (hM : EtIs u M) (ht : 0 ≤ t ∧ t ≤ 253402300799) (hu : 0 ≤ u ∧ u ≤ 253402300799) : lls L M = decide (t < u) := by
  rcases hL with ⟨_, y, k, x, hd, rfl⟩ | ⟨n, _⟩
  · rcases hM with ⟨_, y', k', x', hd', rfl⟩ | ⟨n, _⟩
    · rw [lls_end _ _ _ (by rw [dgs_len, dgs_len])]
      have a := pts_bds (s := t % 86400) hd (hd.year_le ht.2) (by omega) (by omega)
      have b := pts_bds (s := u % 86400) hd' (hd'.year_le hu.2) (by omega) (by omega)
      rw [dgs_lls 14 _ _ a.1 a.2 b.1 b.2]
      rcases Int.lt_trichotomy t u with h | h | h
      · rw [decide_eq_true h, decide_eq_true (pts_lt hd hd' h)]
      · subst h
        obtain ⟨rfl, rfl, rfl⟩ := hd.uniq hd'
        rw [decide_eq_false (by omega), decide_eq_false (by omega)]
      · have := pts_lt hd' hd h
        rw [decide_eq_false (by omega), decide_eq_false (by omega)]
    · exact absurd hu n
  · exact absurd ht n
/-- What was told is read back. -/
theorem et_back {t : Int} {L : List Int} (hL : EtIs t L) (ht : 0 ≤ t ∧ t ≤ 253402300799) : L.length = 15 ∧ GT L ∧ TV L = t := by
  have hL' := hL
  rcases hL' with ⟨_, y, k, x, hd, rfl⟩ | ⟨n, _⟩
  · have y9 := hd.year_le ht.2
    have pb := pts_bds (s := t % 86400) hd y9 (by omega) (by omega)
    have md := md_pos y (k + 1)
    obtain ⟨y0, hk, x0, x1, e⟩ := hd
    have s0 : 0 ≤ t % 86400 ∧ t % 86400 < 86400 := by omega
    have h15 : (dgs 14 (pts y k x (t % 86400)) ++ [90]).length = 15 := by simp [dgs_len]
    have ht14 : (dgs 14 (pts y k x (t % 86400)) ++ [90]).take 14 = dgs 14 (pts y k x (t % 86400)) := by
      rw [List.take_append_of_le_length (by rw [dgs_len]; exact Nat.le_refl _), List.take_of_length_le (by rw [dgs_len]; exact Nat.le_refl _)]
    have hdv := dv_dgs pb.1 pb.2
    rw [← ht14] at hdv
    have hD : Dgt ((dgs 14 (pts y k x (t % 86400)) ++ [90]).take 14) := by rw [ht14]; exact dgs_dgt _ _
    generalize hb : dgs 14 (pts y k x (t % 86400)) ++ [90] = b at *
    have e14 := dv14 b h15
    have b0 := dvP_bd (dgt_part hD (by omega) 0 4 (by omega)) (by omega)
    have b4 := dvP_bd (dgt_part hD (by omega) 4 2 (by omega)) (by omega)
    have b6 := dvP_bd (dgt_part hD (by omega) 6 2 (by omega)) (by omega)
    have b8 := dvP_bd (dgt_part hD (by omega) 8 2 (by omega)) (by omega)
    have b10 := dvP_bd (dgt_part hD (by omega) 10 2 (by omega)) (by omega)
    have b12 := dvP_bd (dgt_part hD (by omega) 12 2 (by omega)) (by omega)
    rw [e14] at hdv
    generalize hs : t % 86400 = s at *
    unfold pts at hdv
    have eY : dvP b 0 4 = y := by omega
    have eM : dvP b 4 2 = k + 1 := by omega
    have eD : dvP b 6 2 = x + 1 := by omega
    have eT : dvP b 8 2 * 3600 + dvP b 10 2 * 60 + dvP b 12 2 = s := by omega
    have eV : TV b = t := by
      unfold TV
      rw [eY, eM, eD, show ((k : Int) + 1 - 1).toNat = k by omega, show x + 1 - 1 = x by omega, ← e]
      omega
    refine ⟨h15, ?_, eV⟩
    exact (gt_iff h15 hD (by omega) (by omega) (by rw [eV]; exact hL)).1 rfl
  · exact absurd ht n
/-- What was read is told so. -/
theorem gt_enc {b : List Int} (g : GT b) : EtIs (TV b) b := by
  obtain ⟨L, hL⟩ := etIs_some (TV b)
  have := (gt_iff g.1 g.2.1 g.2.2.1.1 g.2.2.2.1 hL).2 g
  rwa [this] at hL
theorem et_same {t u : Int} {L M : List Int} (hL : EtIs t L) (hM : EtIs u M) (ht : 0 ≤ t ∧ t ≤ 253402300799) (hu : 0 ≤ u ∧ u ≤ 253402300799) : decide (L = M) = decide (t = u) := by
  apply decide_eq_decide.2
  constructor
  · rintro rfl
    rw [← (et_back hL ht).2.2, (et_back hM hu).2.2]
  · rintro rfl
    exact hL.uniq hM
end Go.Proofs.YtakcpkfofgiehaaDoor
