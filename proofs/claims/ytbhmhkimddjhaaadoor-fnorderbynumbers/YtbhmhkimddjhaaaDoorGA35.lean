import Derived.Test.YtbhmhkimddjhaaaDoorGA29
import Derived.Test.YtbhmhkimddjhaaaDoorGA34
/-
  math/bits.Len32, as far as it is wanted.
-/
namespace Go.Proofs.YtbhmhkimddjhaaaDoor
set_option maxRecDepth 100000
open Go.RowKit

/-- The table of Len32. -/
abbrev tab : ByteArray := { data := #[0, 1, 2, 2, 3, 3, 3, 3, 4, 4, 4, 4, 4, 4, 4, 4, 5, 5, 5, 5, 5, 5, 5, 5, 5, 5, 5, 5, 5, 5, 5, 5, 6, 6, 6, 6, 6, 6, 6, 6, 6, 6, 6, 6, 6, 6, 6, 6, 6, 6, 6, 6, 6, 6, 6, 6, 6, 6, 6, 6, 6, 6, 6, 6, 7, 7, 7, 7, 7, 7, 7, 7, 7, 7, 7, 7, 7, 7, 7, 7, 7, 7, 7, 7, 7, 7, 7, 7, 7, 7, 7, 7, 7, 7, 7, 7, 7, 7, 7, 7, 7, 7, 7, 7, 7, 7, 7, 7, 7, 7, 7, 7, 7, 7, 7, 7, 7, 7, 7, 7, 7, 7, 7, 7, 7, 7, 7, 7, 8, 8, 8, 8, 8, 8, 8, 8, 8, 8, 8, 8, 8, 8, 8, 8, 8, 8, 8, 8, 8, 8, 8, 8, 8, 8, 8, 8, 8, 8, 8, 8, 8, 8, 8, 8, 8, 8, 8, 8, 8, 8, 8, 8, 8, 8, 8, 8, 8, 8, 8, 8, 8, 8, 8, 8, 8, 8, 8, 8, 8, 8, 8, 8, 8, 8, 8, 8, 8, 8, 8, 8, 8, 8, 8, 8, 8, 8, 8, 8, 8, 8, 8, 8, 8, 8, 8, 8, 8, 8, 8, 8, 8, 8, 8, 8, 8, 8, 8, 8, 8, 8, 8, 8, 8, 8, 8, 8, 8, 8, 8, 8, 8, 8, 8, 8, 8, 8, 8, 8, 8, 8, 8, 8, 8, 8, 8, 8] }
set_option maxRecDepth 100000 in
theorem tab_size : tab.size = 256 := by decide +kernel
set_option maxRecDepth 100000 in
theorem tab_all : ∀ f : Fin 256, f.val < 2 ^ (tab[f.val]!).toNat ∧ (tab[f.val]!).toNat ≤ 8 ∧ (1 ≤ f.val → 1 ≤ (tab[f.val]!).toNat) := by decide +kernel
theorem wrap64_small {n : Int} (h0 : 0 ≤ n) (h1 : n ≤ 1000) : wrap64 n = n := by unfold wrap64; omega
set_option maxRecDepth 100000 in
theorem fin8 (n b : Nat) (h : n < tab.size) (hn : n < 256) (hb : b ≤ 24) : wrap64 ((b : Int) + wrap64 ((tab[n]'h).toNat : Int)) = ((b + tab[n]!.toNat : Nat) : Int) := by
  have e : tab[n]'h = tab[n]! := (getElem!_pos tab n h).symm
  have F : tab[n]!.toNat ≤ 8 := (tab_all ⟨n, hn⟩).2.1
  have w1 : wrap64 (tab[n]!.toNat : Int) = (tab[n]!.toNat : Int) := wrap64_small (by omega) (by omega)
  rw [e, w1, wrap64_small (by omega) (by omega)]
  omega
theorem pow_le {x : Int} {n b L : Nat} (d : Int) (hd : d = 2 ^ b) (hx : x < ((n : Int) + 1) * d) (hn : n < 2 ^ L) : x < 2 ^ (b + L) := by
  have h1 : (n : Int) + 1 ≤ 2 ^ L := by exact_mod_cast hn
  have h2 : (0 : Int) < 2 ^ b := Int.pow_pos (by decide)
  have h3 : ((n : Int) + 1) * d ≤ 2 ^ L * d := Int.mul_le_mul_of_nonneg_right h1 (by omega)
  rw [Int.pow_add, Int.mul_comm, ← hd]
  omega

set_option maxHeartbeats 1000000 in
set_option maxRecDepth 100000 in
theorem len32_0 (x : Int) (w : World) (h0 : 0 ≤ x) (h1 : x < 256) :
    Calls Tryd.prog 140 #[.int .u32 x] w fun e w' => ∃ L : Nat, e = .returned (.int .i64 L) ∧ L ≤ 32 ∧ x < 2 ^ L ∧ (1 ≤ x → 1 ≤ L) ∧ w' = w := by
  obtain ⟨n, hn⟩ := Int.eq_ofNat_of_zero_le (show 0 ≤ x by omega)
  subst hn
  have hn1 : n < 256 := by omega
  have F : n < 2 ^ (tab[n]!).toNat ∧ (tab[n]!).toNat ≤ 8 ∧ (1 ≤ n → 1 ≤ (tab[n]!).toNat) := tab_all ⟨n, hn1⟩
  have hx : (n : Int) < ((n : Int) + 1) * 1 := by omega
  have hx1 : 0 ≤ (n : Int) := h0
  have t1 : decide (65536 ≤ (n : Int)) = false := by simp; omega
  have t2 : decide (256 ≤ (n : Int)) = false := by simp; omega
  go_enter Tryd.func140, Tryd.ntmps140
  go_wp2
  go_ret
  exact ⟨0 + tab[n]!.toNat, ret_int ((congrArg wrap64 (Int.zero_add _).symm).trans (fin8 n 0 (by rw [tab_size]; exact hn1) hn1 (by decide))), by have := F.2.1; omega, pow_le (n := n) (b := 0) 1 (by decide) hx F.1, fun h => by have := F.2.2; omega, rfl⟩

set_option maxHeartbeats 1000000 in
set_option maxRecDepth 100000 in
theorem len32_8 (x : Int) (w : World) (h0 : 256 ≤ x) (h1 : x < 65536) :
    Calls Tryd.prog 140 #[.int .u32 x] w fun e w' => ∃ L : Nat, e = .returned (.int .i64 L) ∧ L ≤ 32 ∧ x < 2 ^ L ∧ (1 ≤ x → 1 ≤ L) ∧ w' = w := by
  obtain ⟨n, hn⟩ := Int.eq_ofNat_of_zero_le (show 0 ≤ x / 256 by omega)
  have hn1 : n < 256 := by omega
  have F : n < 2 ^ (tab[n]!).toNat ∧ (tab[n]!).toNat ≤ 8 ∧ (1 ≤ n → 1 ≤ (tab[n]!).toNat) := tab_all ⟨n, hn1⟩
  have hx : x < ((n : Int) + 1) * 256 := by omega
  have hx1 : 256 ≤ x := h0
  have t1 : decide (65536 ≤ x) = false := by simp; omega
  have t2 : decide (256 ≤ x) = true := by simp; omega
  go_enter Tryd.func140, Tryd.ntmps140
  go_wp2
  go_ret
  exact ⟨8 + tab[n]!.toNat, ret_int (fin8 n 8 _ hn1 (by decide)), by have := F.2.1; omega, pow_le (n := n) (b := 8) 256 (by decide) hx F.1, fun h => by have := F.2.2; omega, rfl⟩

set_option maxHeartbeats 1000000 in
set_option maxRecDepth 100000 in
theorem len32_16 (x : Int) (w : World) (h0 : 65536 ≤ x) (h1 : x < 16777216) :
    Calls Tryd.prog 140 #[.int .u32 x] w fun e w' => ∃ L : Nat, e = .returned (.int .i64 L) ∧ L ≤ 32 ∧ x < 2 ^ L ∧ (1 ≤ x → 1 ≤ L) ∧ w' = w := by
  obtain ⟨n, hn⟩ := Int.eq_ofNat_of_zero_le (show 0 ≤ x / 65536 by omega)
  have hn1 : n < 256 := by omega
  have F : n < 2 ^ (tab[n]!).toNat ∧ (tab[n]!).toNat ≤ 8 ∧ (1 ≤ n → 1 ≤ (tab[n]!).toNat) := tab_all ⟨n, hn1⟩
  have hx : x < ((n : Int) + 1) * 65536 := by omega
  have hx1 : 65536 ≤ x := h0
  have t1 : decide (65536 ≤ x) = true := by simp; omega
  have t2 : decide (256 ≤ x / 65536) = false := by simp; omega
  go_enter Tryd.func140, Tryd.ntmps140
  go_wp2
  go_ret
  exact ⟨16 + tab[n]!.toNat, ret_int (fin8 n 16 _ hn1 (by decide)), by have := F.2.1; omega, pow_le (n := n) (b := 16) 65536 (by decide) hx F.1, fun h => by have := F.2.2; omega, rfl⟩

set_option maxHeartbeats 1000000 in
set_option maxRecDepth 100000 in
theorem len32_24 (x : Int) (w : World) (h0 : 16777216 ≤ x) (h1 : x < 4294967296) :
    Calls Tryd.prog 140 #[.int .u32 x] w fun e w' => ∃ L : Nat, e = .returned (.int .i64 L) ∧ L ≤ 32 ∧ x < 2 ^ L ∧ (1 ≤ x → 1 ≤ L) ∧ w' = w := by
  obtain ⟨n, hn⟩ := Int.eq_ofNat_of_zero_le (show 0 ≤ x / 16777216 by omega)
  have hn' : x / 65536 / 256 = (n : Int) := by omega
  have hn1 : n < 256 := by omega
  have F : n < 2 ^ (tab[n]!).toNat ∧ (tab[n]!).toNat ≤ 8 ∧ (1 ≤ n → 1 ≤ (tab[n]!).toNat) := tab_all ⟨n, hn1⟩
  have hx : x < ((n : Int) + 1) * 16777216 := by omega
  have hx1 : 16777216 ≤ x := h0
  have t1 : decide (65536 ≤ x) = true := by simp; omega
  have t2 : decide (256 ≤ x / 65536) = true := by simp; omega
  go_enter Tryd.func140, Tryd.ntmps140
  go_wp2
  go_ret
  exact ⟨24 + tab[n]!.toNat, ret_int (fin8 n 24 _ hn1 (by decide)), by have := F.2.1; omega, pow_le (n := n) (b := 24) 16777216 (by decide) hx F.1, fun h => by have := F.2.2; omega, rfl⟩

theorem len32_any (x : Int) (w : World) (h0 : 0 ≤ x) (h1 : x < 4294967296) :
    Calls Tryd.prog 140 #[.int .u32 x] w fun e w' => ∃ L : Nat, e = .returned (.int .i64 L) ∧ L ≤ 32 ∧ x < 2 ^ L ∧ (1 ≤ x → 1 ≤ L) ∧ w' = w := by
  by_cases c1 : x < 256
  · exact len32_0 x w h0 c1
  · by_cases c2 : x < 65536
    · exact len32_8 x w (by omega) c2
    · by_cases c3 : x < 16777216
      · exact len32_16 x w (by omega) c3
      · exact len32_24 x w (by omega) h1

set_option maxHeartbeats 400000 in
theorem leadingZeros32_any (x : Int) (w : World) (h0 : 1 ≤ x) (h1 : x < 4294967296) :
    Calls Tryd.prog 128 #[.int .u32 x] w fun e w' => ∃ s : Nat, e = .returned (.int .i64 s) ∧ s ≤ 31 ∧ x * 2 ^ s < 4294967296 ∧ w' = w := by
  go_enter Tryd.func128, Tryd.ntmps128
  go_wp2_with fail
  refine (len32_any x w (by omega) h1).mono ?_
  rintro e w' ⟨L, rfl, hL, hx, hl, rfl⟩
  have l1 := hl h0
  go_wp2
  go_ret
  refine ⟨32 - L, ret_int (by omega), by omega, ?_, rfl⟩
  have e : (4294967296 : Int) = 2 ^ L * 2 ^ (32 - L) := by rw [← Int.pow_add, show L + (32 - L) = 32 by omega]; decide
  rw [e]
  exact Int.mul_lt_mul_of_pos_right hx (Int.pow_pos (by decide))
end Go.Proofs.YtbhmhkimddjhaaaDoor
/-
  Long division.
-/
namespace Go.Proofs.YtbhmhkimddjhaaaDoor
set_option maxRecDepth 100000
open Go.RowKit

/-- The divisor, shifted: it needs no limb more. -/
theorem shifted {ms ys : List Int} {n s : Nat} (hm : Lmb ms) (tm : Top ms) (l1 : ms.length = n + 2) (hs : s ≤ 31) (hx : ms.getD (n + 1) 0 * 2 ^ s < 4294967296) (hy : Lmb ys) (ly : ys.length = n + 2 + 1) (hv : lval ys = lval ms * 2 ^ s) :
    (ys.take (n + 2)).length = n + 2 ∧ Lmb (ys.take (n + 2)) ∧ lval (ys.take (n + 2)) = lval ms * 2 ^ s ∧ 1 ≤ (ys.take (n + 2)).getD (n + 1) 0 ∧ 4294967296 ^ (n + 1) * 2 ^ s ≤ lval ms * 2 ^ s ∧ lval ms * 2 ^ s < 4294967296 ^ (n + 2) := by
  have p := p2_pos s
  have hBC : (4294967296 : Int) = 2 ^ s * 2 ^ (32 - s) := by rw [← Int.pow_add, show s + (32 - s) = 32 by omega]; rfl
  have t1 := lval_ge hm tm (by omega)
  rw [l1, show n + 2 - 1 = n + 1 by omega] at t1
  have a1 : 4294967296 ^ (n + 1) * 2 ^ s ≤ lval ms * 2 ^ s := Int.mul_le_mul_of_nonneg_right t1 (by omega)
  have m1 := hm (n + 1)
  have a2 : lval ms < (ms.getD (n + 1) 0 + 1) * 4294967296 ^ (n + 1) := by
    have e := lval_llo ms (n + 1)
    have b := (llo_bd hm (n + 1)).2
    rw [lhi_step, lhi_past ms (n + 1 + 1) (by omega)] at e
    rw [Int.add_mul, Int.one_mul]
    rw [Int.mul_zero, Int.add_zero] at e
    omega
  have a3 : (ms.getD (n + 1) 0 + 1) * 2 ^ s ≤ 4294967296 := by
    have c1 : ms.getD (n + 1) 0 < 2 ^ (32 - s) := by
      by_cases h : ms.getD (n + 1) 0 < 2 ^ (32 - s)
      · exact h
      · have : 2 ^ (32 - s) * 2 ^ s ≤ ms.getD (n + 1) 0 * (2 : Int) ^ s := Int.mul_le_mul_of_nonneg_right (by omega) (by omega)
        rw [Int.mul_comm, ← hBC] at this
        omega
    have : (ms.getD (n + 1) 0 + 1) * (2 : Int) ^ s ≤ 2 ^ (32 - s) * 2 ^ s := Int.mul_le_mul_of_nonneg_right (by omega) (by omega)
    rw [Int.mul_comm (2 ^ (32 - s)), ← hBC] at this
    exact this
  have a4 : lval ms * 2 ^ s < 4294967296 ^ (n + 2) := by
    have q := p32_pos (n + 1)
    have b1 : lval ms * 2 ^ s < (ms.getD (n + 1) 0 + 1) * 4294967296 ^ (n + 1) * 2 ^ s := Int.mul_lt_mul_of_pos_right a2 p
    have b2 : (ms.getD (n + 1) 0 + 1) * 2 ^ s * 4294967296 ^ (n + 1) ≤ 4294967296 * 4294967296 ^ (n + 1) := Int.mul_le_mul_of_nonneg_right a3 (by omega)
    rw [Int.mul_right_comm] at b1
    rw [Int.pow_succ 4294967296 (n + 1), Int.mul_comm (4294967296 ^ (n + 1))]
    omega
  have z : ∀ j, n + 2 ≤ j → ys.getD j 0 = 0 := fun j hj => limbs_zero hy (i := 0) (m := n + 2) (by rw [lhi_zero, hv]; exact a4) j (by omega)
  have lt : (ys.take (n + 2)).length = n + 2 := by simp; omega
  have vt : lval (ys.take (n + 2)) = lval ms * 2 ^ s := by rw [lval_take ys _ z, hv]
  refine ⟨lt, lmb_take hy _, vt, ?_, a1, a4⟩
  have g := lmb_take hy (n + 2) (n + 1)
  by_cases c : 1 ≤ (ys.take (n + 2)).getD (n + 1) 0
  · exact c
  · have e := lval_llo (ys.take (n + 2)) (n + 1)
    have b := (llo_bd (lmb_take hy (n + 2)) (n + 1)).2
    rw [lhi_step, lhi_past _ (n + 1 + 1) (by omega), show (ys.take (n + 2)).getD (n + 1) 0 = 0 by omega, vt] at e
    have q : 4294967296 ^ (n + 1) * 1 ≤ 4294967296 ^ (n + 1) * (2 : Int) ^ s := Int.mul_le_mul_of_nonneg_left (by omega) (by have := p32_pos (n + 1); omega)
    simp only [Int.mul_zero, Int.add_zero, Int.zero_mul] at e
    omega
/-- Nothing above: the highest part of the dividend is less than the divisor. -/
theorem long_start {zs rs : List Int} {K n s : Nat} {v : Int} (hz : Lmb zs) (hr : Lmb rs) (hl : zs.length = K + n + 1) (hv : lval rs = lval zs * 2 ^ s) (hd : 4294967296 ^ (n + 1) * 2 ^ s ≤ v) : lhi rs K < v := by
  have p := p2_pos s
  have b := (lval_bd hz).2
  rw [hl, show K + n + 1 = K + (n + 1) by omega, Int.pow_add] at b
  have e := lval_llo rs K
  have l0 := (llo_bd hr K).1
  have q := p32_pos K
  have b1 : lval zs * 2 ^ s < 4294967296 ^ K * 4294967296 ^ (n + 1) * 2 ^ s := Int.mul_lt_mul_of_pos_right b p
  rw [Int.mul_assoc] at b1
  have b2 : 4294967296 ^ K * (4294967296 ^ (n + 1) * 2 ^ s) ≤ 4294967296 ^ K * v := Int.mul_le_mul_of_nonneg_left hd (by omega)
  by_cases c : lhi rs K < v
  · exact c
  · have : v * 4294967296 ^ K ≤ lhi rs K * 4294967296 ^ K := Int.mul_le_mul_of_nonneg_right (by omega) (by omega)
    rw [Int.mul_comm v] at this
    omega
theorem lmb_win {XS : List Int} (h : Lmb XS) (off len : Nat) : Lmb (win XS off len) := lmb_take (lmb_drop h off) len
/-- One limb's step is right. -/
theorem take_right {W v X B : Int} {q bo c : Int} (hq : q * v ≤ W ∧ W < q * v + v) (hX : 0 ≤ X ∧ X < B) (hb : 0 ≤ bo) (hc : 0 ≤ c) (hT : X + q * v = W + (bo + c) * B) : c + bo = 0 ∧ X = W - q * v := by
  by_cases h : bo + c = 0
  · rw [h] at hT; exact ⟨by omega, by omega⟩
  · have : 1 * B ≤ (bo + c) * B := Int.mul_le_mul_of_nonneg_right (by omega) (by omega)
    omega
theorem take_over {W v X B : Int} {q bo c : Int} (hq : q * v ≤ W ∧ W < q * v + v) (hX : 0 ≤ X ∧ X < B) (hv : v ≤ B) (hb : 0 ≤ bo) (hc : 0 ≤ c) (hT : X + (q + 1) * v = W + (bo + c) * B) : c + bo ≠ 0 ∧ X + v = W - q * v + B := by
  rw [Int.add_mul, Int.one_mul] at hT
  have h0 : bo + c ≠ 0 := fun h => by rw [h] at hT; omega
  by_cases h : bo + c = 1
  · rw [h] at hT; exact ⟨by omega, by omega⟩
  · have : 2 * B ≤ (bo + c) * B := Int.mul_le_mul_of_nonneg_right (by omega) (by omega)
    omega
theorem back_right {W v X Y B q c : Int} (hq : q * v ≤ W ∧ W < q * v + v) (hX : X + v = W - q * v + B) (hY : 0 ≤ Y ∧ Y < B) (hc : 0 ≤ c ∧ c ≤ 1) (hT : Y + c * B = X + v) : Y = W - q * v := by
  rcases (show c = 0 ∨ c = 1 by omega) with rfl | rfl <;> omega
end Go.Proofs.YtbhmhkimddjhaaaDoor
