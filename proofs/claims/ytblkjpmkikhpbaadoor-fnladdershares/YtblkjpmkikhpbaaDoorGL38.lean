import Derived.Test.YtblkjpmkikhpbaaDoorGL35
import Derived.Test.YtblkjpmkikhpbaaDoorGL36
import Derived.Test.YtblkjpmkikhpbaaDoorGL22
import Derived.Test.YtblkjpmkikhpbaaDoorGL37
import Derived.Test.YtblkjpmkikhpbaaDoorGL11

/-
  The ladder's numbers: the clamped number and its bits, and that a round more ahead changes nothing.
-/
namespace Go.Proofs.YtblkjpmkikhpbaaDoor
set_option maxRecDepth 100000

/-! ### the clamped number -/
def clampL (xs : List Int) : List Int := (xs.set 0 (xs.getD 0 0 - xs.getD 0 0 % 8)).set 31 (xs.getD 31 0 % 64 + 64)
theorem clampL_len (xs : List Int) : (clampL xs).length = xs.length := by unfold clampL; simp
theorem clampL_0 {xs : List Int} (hl : xs.length = 32) : (clampL xs).getD 0 0 = xs.getD 0 0 - xs.getD 0 0 % 8 := by
  unfold clampL
  rw [getD_set_ne _ _ _ _ (by omega), getD_set_self _ _ _ (by omega)]
theorem clampL_31 {xs : List Int} (hl : xs.length = 32) : (clampL xs).getD 31 0 = xs.getD 31 0 % 64 + 64 := by
  unfold clampL
  rw [getD_set_self _ _ _ (by rw [List.length_set]; omega)]
theorem clampL_mid {xs : List Int} {j : Nat} (h0 : 0 ≠ j) (h1 : 31 ≠ j) : (clampL xs).getD j 0 = xs.getD j 0 := by
  unfold clampL
  rw [getD_set_ne _ _ _ _ h1, getD_set_ne _ _ _ _ h0]
theorem clampL_byt {xs : List Int} (hb : Byt xs) (hl : xs.length = 32) : Byt (clampL xs) := by
  intro j
  by_cases e0 : 0 = j
  · subst e0
    have := hb 0
    rw [clampL_0 hl]
    omega
  · by_cases e1 : 31 = j
    · subst e1
      have := hb 31
      rw [clampL_31 hl]
      omega
    · rw [clampL_mid e0 e1]
      exact hb j
theorem wv0 (a : Nat → Int) : wv a 32 0 = a 0 + a 1 * 256 + a 2 * 65536 + a 3 * 16777216 + a 4 * 4294967296 + a 5 * 1099511627776 + a 6 * 281474976710656 + a 7 * 72057594037927936 := by
  simp [wv]
theorem wv1 (a : Nat → Int) : wv a 32 1 = a 8 + a 9 * 256 + a 10 * 65536 + a 11 * 16777216 + a 12 * 4294967296 + a 13 * 1099511627776 + a 14 * 281474976710656 + a 15 * 72057594037927936 := by
  simp [wv]
theorem wv2 (a : Nat → Int) : wv a 32 2 = a 16 + a 17 * 256 + a 18 * 65536 + a 19 * 16777216 + a 20 * 4294967296 + a 21 * 1099511627776 + a 22 * 281474976710656 + a 23 * 72057594037927936 := by
  simp [wv]
theorem wv3 (a : Nat → Int) : wv a 32 3 = a 24 + a 25 * 256 + a 26 * 65536 + a 27 * 16777216 + a 28 * 4294967296 + a 29 * 1099511627776 + a 30 * 281474976710656 + a 31 * 72057594037927936 := by
  simp [wv]
theorem clw_is {xs : List Int} (hb : Byt xs) (hl : xs.length = 32) : ∀ j, j < 4 → clw (wv (fun j => xs.getD j 0) 32) j = wv (fun j => (clampL xs).getD j 0) 32 j := by
  intro j hj
  obtain rfl | rfl | rfl | rfl : j = 0 ∨ j = 1 ∨ j = 2 ∨ j = 3 := by omega
  · rw [wv0]
    simp only [clampL_0 hl, clampL_mid (xs := xs) (j := 1) (by omega) (by omega), clampL_mid (xs := xs) (j := 2) (by omega) (by omega), clampL_mid (xs := xs) (j := 3) (by omega) (by omega), clampL_mid (xs := xs) (j := 4) (by omega) (by omega), clampL_mid (xs := xs) (j := 5) (by omega) (by omega), clampL_mid (xs := xs) (j := 6) (by omega) (by omega), clampL_mid (xs := xs) (j := 7) (by omega) (by omega)]
    show wv (fun j => xs.getD j 0) 32 0 - wv (fun j => xs.getD j 0) 32 0 % 8 = _
    rw [wv0]
    omega
  · show wv (fun j => xs.getD j 0) 32 1 = _
    rw [wv1, wv1]
    simp only [clampL_mid (xs := xs) (j := 8) (by omega) (by omega), clampL_mid (xs := xs) (j := 9) (by omega) (by omega), clampL_mid (xs := xs) (j := 10) (by omega) (by omega), clampL_mid (xs := xs) (j := 11) (by omega) (by omega), clampL_mid (xs := xs) (j := 12) (by omega) (by omega), clampL_mid (xs := xs) (j := 13) (by omega) (by omega), clampL_mid (xs := xs) (j := 14) (by omega) (by omega), clampL_mid (xs := xs) (j := 15) (by omega) (by omega)]
  · show wv (fun j => xs.getD j 0) 32 2 = _
    rw [wv2, wv2]
    simp only [clampL_mid (xs := xs) (j := 16) (by omega) (by omega), clampL_mid (xs := xs) (j := 17) (by omega) (by omega), clampL_mid (xs := xs) (j := 18) (by omega) (by omega), clampL_mid (xs := xs) (j := 19) (by omega) (by omega), clampL_mid (xs := xs) (j := 20) (by omega) (by omega), clampL_mid (xs := xs) (j := 21) (by omega) (by omega), clampL_mid (xs := xs) (j := 22) (by omega) (by omega), clampL_mid (xs := xs) (j := 23) (by omega) (by omega)]
  · rw [wv3]
    simp only [clampL_31 hl, clampL_mid (xs := xs) (j := 24) (by omega) (by omega), clampL_mid (xs := xs) (j := 25) (by omega) (by omega), clampL_mid (xs := xs) (j := 26) (by omega) (by omega), clampL_mid (xs := xs) (j := 27) (by omega) (by omega), clampL_mid (xs := xs) (j := 28) (by omega) (by omega), clampL_mid (xs := xs) (j := 29) (by omega) (by omega), clampL_mid (xs := xs) (j := 30) (by omega) (by omega)]
    show wv (fun j => xs.getD j 0) 32 3 % 4611686018427387904 + 4611686018427387904 = _
    rw [wv3]
    have b24 := hb 24
    have b25 := hb 25
    have b26 := hb 26
    have b27 := hb 27
    have b28 := hb 28
    have b29 := hb 29
    have b30 := hb 30
    have b31 := hb 31
    generalize xs.getD 24 0 = x24 at *
    generalize xs.getD 25 0 = x25 at *
    generalize xs.getD 26 0 = x26 at *
    generalize xs.getD 27 0 = x27 at *
    generalize xs.getD 28 0 = x28 at *
    generalize xs.getD 29 0 = x29 at *
    generalize xs.getD 30 0 = x30 at *
    generalize xs.getD 31 0 = x31 at *
    omega
theorem clw_num {xs : List Int} (hb : Byt xs) (hl : xs.length = 32) : wval (clw (wv (fun j => xs.getD j 0) 32)) = num (clampL xs) := by
  have e : wval (clw (wv (fun j => xs.getD j 0) 32)) = wval (wv (fun j => (clampL xs).getD j 0) 32) := by
    unfold wval
    rw [clw_is hb hl 0 (by omega), clw_is hb hl 1 (by omega), clw_is hb hl 2 (by omega), clw_is hb hl 3 (by omega)]
  rw [e, wv_sum _ 32 (by omega)]
  unfold num
  rw [clampL_len, hl]

/-! ### its bits -/
def kbit (K : Int) (n : Nat) : Bool := decide (K / 2 ^ n % 2 = 1)
theorem wbit_k {W : Nat → Int} (hW : W4 W) {n : Nat} (hn : n < 256) : wbit W n = kbit (wval W) n := by
  have h0 := hW 0 (by omega)
  have h1 := hW 1 (by omega)
  have h2 := hW 2 (by omega)
  have h3 := hW 3 (by omega)
  have key : wval W / 2 ^ n % 2 = W (n / 64) / 2 ^ (n % 64) % 2 := by
    rcases (show n / 64 = 0 ∨ n / 64 = 1 ∨ n / 64 = 2 ∨ n / 64 = 3 by omega) with e | e | e | e
    · rw [e]
      exact bit_of (n := 64) (k := 0) (l := 0) (h := W 1 + W 2 * 18446744073709551616 + W 3 * 340282366920938463463374607431768211456) (by omega) (by omega) (by unfold wval; omega) (by omega) (by decide)
    · rw [e]
      exact bit_of (n := 64) (k := 1) (l := W 0) (h := W 2 + W 3 * 18446744073709551616) (by omega) (by omega) (by unfold wval; omega) (by omega) (by simpa using h0.2)
    · rw [e]
      exact bit_of (n := 64) (k := 2) (l := W 0 + W 1 * 18446744073709551616) (h := W 3) (by omega) (by omega) (by unfold wval; omega) (by omega) (by simp only [show (2 : Int) ^ (64 * 2) = 340282366920938463463374607431768211456 from rfl]; omega)
    · rw [e]
      exact bit_of (n := 64) (k := 3) (l := W 0 + W 1 * 18446744073709551616 + W 2 * 340282366920938463463374607431768211456) (h := 0) (by omega) (by omega) (by unfold wval; omega) (by omega) (by simp only [show (2 : Int) ^ (64 * 3) = 6277101735386680763835789423207666416102355444464034512896 from rfl]; omega)
  unfold wbit kbit
  rw [key]
/-- Bit n from the top of thirty-two bytes, the highest first. -/
def sbit (top : List Int) (n : Nat) : Bool := decide (top.getD (n / 8) 0 / 2 ^ (7 - n % 8) % 2 = 1)
theorem sbit_k {top : List Int} (hb : Byt top) (hl : top.length = 32) {n : Nat} (hn : n < 256) : sbit top n = kbit (bval top) (255 - n) := by
  have e := bbit hb (255 - n)
  have e1 : dig top ((255 - n) / 8) = top.getD (n / 8) 0 := by
    unfold dig
    rw [if_pos (by omega), hl, show 32 - 1 - (255 - n) / 8 = n / 8 by omega]
  rw [e1, show (255 - n) % 8 = 7 - n % 8 by omega] at e
  unfold sbit kbit
  rw [e]
theorem clampL_bd {xs : List Int} (hb : Byt xs) (hl : xs.length = 32) : 28948022309329048855892746252171976963317496166410141009864396001978282409984 ≤ num (clampL xs) ∧ num (clampL xs) < 57896044618658097711785492504343953926634992332820282019728792003956564819968 ∧ num (clampL xs) % 8 = 0 := by
  rw [← clw_num hb hl]
  have hW : W4 (wv (fun j => xs.getD j 0) 32) := fun j _ => wv_lt hb 32 j
  have h0 := hW 0 (by omega)
  have h1 := hW 1 (by omega)
  have h2 := hW 2 (by omega)
  have h3 := hW 3 (by omega)
  generalize wv (fun j => xs.getD j 0) 32 = W at *
  have e0 : clw W 0 = W 0 - W 0 % 8 := rfl
  have e1 : clw W 1 = W 1 := rfl
  have e2 : clw W 2 = W 2 := rfl
  have e3 : clw W 3 = W 3 % 4611686018427387904 + 4611686018427387904 := rfl
  unfold wval
  rw [e0, e1, e2, e3]
  omega

/-! ### a round more ahead -/
theorem PP_dvd {x : Int} : PP ∣ x ↔ x % PP = 0 := ⟨Int.emod_eq_zero_of_dvd, Int.dvd_of_emod_eq_zero⟩
theorem pri_PP : Pri PP := by
  refine ⟨fun {x y} h => ?_, by decide, by decide⟩
  have h' : P25519 ∣ x.natAbs * y.natAbs := by
    rw [← Int.natAbs_mul]
    exact Int.ofNat_dvd_left.1 h
  rcases prm_P.mul h' with k | k
  · exact Or.inl (Int.ofNat_dvd_left.2 k)
  · exact Or.inr (Int.ofNat_dvd_left.2 k)
def Two4.scale (l m : Int) (s : Two4) : Two4 := ⟨l * s.a, l * s.b, m * s.c, m * s.d⟩
theorem dU_sc (l u v : Int) : dU (l * u) (l * v) = l ^ 4 * dU u v := by unfold dU; grind
theorem dV_sc (l u v : Int) : dV (l * u) (l * v) = l ^ 4 * dV u v := by unfold dV dW; grind
theorem sU_sc (l m u v u' v' : Int) : sU (l * u) (l * v) (m * u') (m * v') = (l * m) ^ 2 * sU u v u' v' := by unfold sU sY sZ; grind
theorem sV_sc (l m x u v u' v' : Int) : sV x (l * u) (l * v) (m * u') (m * v') = (l * m) ^ 2 * sV x u v u' v' := by unfold sV sY sZ; grind
theorem lrnd_scale (x : Int) (b : Bool) (l m : Int) (s : Two4) : lrnd x b (s.scale l m) = (lrnd x b s).scale (pick b ((l * m) ^ 2) (l ^ 4)) (pick b (m ^ 4) ((l * m) ^ 2)) := by
  cases b
  · show Two4.mk _ _ _ _ = Two4.mk _ _ _ _
    simp only [pick, Two4.scale]
    simp only [Bool.false_eq_true, if_false]
    rw [dU_sc, dV_sc, sU_sc, sV_sc]
    rfl
  · show Two4.mk _ _ _ _ = Two4.mk _ _ _ _
    simp only [pick, Two4.scale]
    simp only [if_true]
    rw [dU_sc, dV_sc, sU_sc, sV_sc]
    rfl
theorem nz_pow (hP : Pri PP) {x : Int} (h : ¬ PP ∣ x) : ∀ n : Nat, ¬ PP ∣ x ^ n
  | 0 => by rw [Int.pow_zero]; exact hP.one
  | n + 1 => by rw [Int.pow_succ]; exact nz_mul hP (nz_pow hP h n) h
theorem lrnds_ahead (x : Int) (bt bt' : Nat → Bool) (h0 : bt' 0 = false) (hs : ∀ i, bt' (i + 1) = bt i) : ∀ n, ∃ l m, lrnds x bt' (n + 1) = (lrnds x bt n).scale l m ∧ (¬ PP ∣ x → ¬ PP ∣ l ∧ ¬ PP ∣ m)
  | 0 => by
    refine ⟨1, 4 * x, ?_, fun h => ⟨by decide, nz_mul pri_PP (by decide) h⟩⟩
    show lrnd x (bt' 0) ⟨1, 0, x, 1⟩ = _
    rw [h0]
    show Two4.mk (dU 1 0) (dV 1 0) (sU 1 0 x 1) (sV x 1 0 x 1) = Two4.mk (1 * 1) (1 * 0) (4 * x * x) (4 * x * 1)
    congr 1
    · unfold sU sY sZ; grind
    · unfold sV sY sZ; grind
  | n + 1 => by
    obtain ⟨l, m, e, k⟩ := lrnds_ahead x bt bt' h0 hs n
    refine ⟨pick (bt n) ((l * m) ^ 2) (l ^ 4), pick (bt n) (m ^ 4) ((l * m) ^ 2), ?_, fun h => ?_⟩
    · show lrnd x (bt' (n + 1)) (lrnds x bt' (n + 1)) = _
      rw [hs, e, lrnd_scale]
      rfl
    · obtain ⟨k1, k2⟩ := k h
      have k3 := nz_mul pri_PP k1 k2
      cases bt n
      · exact ⟨nz_pow pri_PP k1 4, nz_pow pri_PP k3 2⟩
      · exact ⟨nz_pow pri_PP k3 2, nz_pow pri_PP k2 4⟩
/-- With x = 0 nothing is left. -/
theorem lrnd_zero {x : Int} (hx : PP ∣ x) (b : Bool) {s : Two4} (hb : PP ∣ s.b) (hd : PP ∣ s.d) : PP ∣ (lrnd x b s).b ∧ PP ∣ (lrnd x b s).d := by
  have w1 : PP ∣ dV s.a s.b := Int.dvd_mul_of_dvd_left (by
    show PP ∣ dW s.a s.b
    rw [show dW s.a s.b = 4 * s.a * s.b by unfold dW; grind]
    exact Int.dvd_mul_of_dvd_right hb)
  have w2 : PP ∣ dV s.c s.d := Int.dvd_mul_of_dvd_left (by
    show PP ∣ dW s.c s.d
    rw [show dW s.c s.d = 4 * s.c * s.d by unfold dW; grind]
    exact Int.dvd_mul_of_dvd_right hd)
  have w3 : PP ∣ sV x s.a s.b s.c s.d := Int.dvd_mul_of_dvd_left hx
  cases b
  · exact ⟨w1, w3⟩
  · exact ⟨w3, w2⟩
theorem lrnds_zero {x : Int} (hx : PP ∣ x) (bt : Nat → Bool) (h0 : bt 0 = true) : ∀ n, PP ∣ (lrnds x bt (n + 1)).b ∧ PP ∣ (lrnds x bt (n + 1)).d
  | 0 => by
    show PP ∣ (lrnd x (bt 0) ⟨1, 0, x, 1⟩).b ∧ PP ∣ (lrnd x (bt 0) ⟨1, 0, x, 1⟩).d
    rw [h0]
    refine ⟨Int.dvd_mul_of_dvd_left hx, ?_⟩
    show PP ∣ dW x 1 * _
    refine Int.dvd_mul_of_dvd_left ?_
    rw [show dW x 1 = 4 * x by unfold dW; grind]
    exact Int.dvd_mul_of_dvd_right hx
  | n + 1 => by
    obtain ⟨h1, h2⟩ := lrnds_zero hx bt h0 n
    exact lrnd_zero hx _ h1 h2
theorem fer {l : Int} (h : ¬ PP ∣ l) : l ^ (eInv + 1) % PP = 1 := by
  have h1 : 0 < l % PP := by
    have := Int.emod_nonneg l (show PP ≠ 0 by decide)
    rcases Int.lt_or_eq_of_le this with k | k
    · exact k
    · exact absurd (PP_dvd.2 k.symm) h
  have h2 := Int.emod_lt_of_pos l (show (0 : Int) < PP by decide)
  rw [← pwm l]
  obtain ⟨n, hn⟩ := Int.eq_ofNat_of_zero_le (show 0 ≤ l % PP by omega)
  rw [hn] at h1 h2 ⊢
  have hd : ¬ P25519 ∣ n := fun hd => by
    have h := Nat.le_of_dvd (by omega) hd
    have : ((P25519 : Nat) : Int) = PP := rfl
    omega
  have f := prm_P.fermat hd
  rw [← eInv_P] at f
  rw [PP_nat, ← Int.natCast_pow, ← Int.natCast_emod, f]
  rfl
theorem zpow {b : Int} (h : PP ∣ b) : b ^ eInv % PP = 0 := by
  rw [show eInv = eInv - 1 + 1 from rfl, Int.pow_succ]
  exact PP_dvd.1 (Int.dvd_mul_of_dvd_right h)
theorem lrnds_congr (x : Int) (f g : Nat → Bool) : ∀ n, (∀ i, i < n → g i = f i) → lrnds x f n = lrnds x g n
  | 0, _ => rfl
  | n + 1, h => by
    show lrnd x (f n) (lrnds x f n) = lrnd x (g n) (lrnds x g n)
    rw [lrnds_congr x f g n (fun i hi => h i (by omega)), h n (by omega)]
theorem regroup (l a p q : Int) : l * a * (p * q) = p * l * (a * q) := by grind
theorem lad_same (x : Int) (bt bt' : Nat → Bool) (h0 : bt' 0 = false) (hs : ∀ i, bt' (i + 1) = bt i) (h1 : bt 0 = true) (n : Nat) : ladE x bt' (n + 2) % PP = ladE x bt (n + 1) % PP := by
  obtain ⟨l, m, e, k⟩ := lrnds_ahead x bt bt' h0 hs (n + 1)
  unfold ladE
  rw [e]
  show l * (lrnds x bt (n + 1)).a * (l * (lrnds x bt (n + 1)).b) ^ eInv % PP = _
  by_cases hx : PP ∣ x
  · have z := (lrnds_zero hx bt h1 n).1
    rw [Int.mul_emod, zpow (Int.dvd_mul_of_dvd_right z), Int.mul_emod _ ((lrnds x bt (n + 1)).b ^ eInv), zpow z]
    simp
  · have f := fer (k hx).1
    generalize (lrnds x bt (n + 1)).a = a at *
    generalize (lrnds x bt (n + 1)).b = b at *
    rw [Int.mul_pow, regroup, ← Int.pow_succ, Int.mul_emod, f, Int.one_mul, Int.emod_emod_of_dvd _ (Int.dvd_refl _)]
end Go.Proofs.YtblkjpmkikhpbaaDoor

/-
  What the three operations share: the model's l2Two, bounds of bytes, the elements' operations with their values.
-/
namespace Go.Proofs.YtblkjpmkikhpbaaDoor
set_option maxRecDepth 100000
open Go.RowKit

theorem bval_lt32 {ys : List Int} (h : Byt ys) (hl : ys.length ≤ 32) : bval ys < 115792089237316195423570985008687907853269984665640564039457584007913129639936 := by
  have h1 := (lo_bd h 32).2
  rw [lo_all ys 32 hl] at h1
  have h2 : (256 : Int) ^ 32 = 115792089237316195423570985008687907853269984665640564039457584007913129639936 := by decide
  omega
theorem add_lt64 {x y : Int} (hx : x < 115792089237316195423570985008687907853269984665640564039457584007913129639936) (hy : y < 115792089237316195423570985008687907853269984665640564039457584007913129639936) : x + y < 256 ^ 64 := by
  have h2 : (115792089237316195423570985008687907853269984665640564039457584007913129639936 : Int) + 115792089237316195423570985008687907853269984665640564039457584007913129639936 < 256 ^ 64 := by decide
  omega
theorem mul_lt64 {x y : Int} (hx : x < 115792089237316195423570985008687907853269984665640564039457584007913129639936) (hy : y < 115792089237316195423570985008687907853269984665640564039457584007913129639936) (x0 : 0 ≤ x) (y0 : 0 ≤ y) : x * y < 256 ^ 64 := by
  have h1 : x * y ≤ 115792089237316195423570985008687907853269984665640564039457584007913129639935 * 115792089237316195423570985008687907853269984665640564039457584007913129639935 := Int.mul_le_mul (by omega) (by omega) y0 (by decide)
  have h2 : (115792089237316195423570985008687907853269984665640564039457584007913129639935 : Int) * 115792089237316195423570985008687907853269984665640564039457584007913129639935 < 256 ^ 64 := by decide
  omega

theorem addE_any (w : World) (e f : Nat → Int) (he : Lm e) (hf : Lm f) :
    Calls Tryd.prog 76 #[ag5 e, ag5 f] w fun r w' => ∃ t, r = .returned (ag5 t) ∧ Lm t ∧ sv t 5 = (sv e 5 + sv f 5) % PP ∧ Below w.heap.size w w' := by
  refine (add_any w e f he hf).mono ?_
  rintro r w' ⟨rfl, n⟩
  obtain ⟨_, h2, h3⟩ := add_ok he hf
  exact ⟨_, rfl, h3, h2, n⟩
end Go.Proofs.YtblkjpmkikhpbaaDoor
