/-
  math/bits.Len32, as far as it is wanted.
-/
import Derived.Test.YthdjopkmlcdoeaaTake
namespace Go.Proofs.Ythdjopkmlcdoeaa
open Go.RowKit

/-- The table of Len32. -/
abbrev tab : ByteArray := { data := #[0, 1, 2, 2, 3, 3, 3, 3, 4, 4, 4, 4, 4, 4, 4, 4, 5, 5, 5, 5, 5, 5, 5, 5, 5, 5, 5, 5, 5, 5, 5, 5, 6, 6, 6, 6, 6, 6, 6, 6, 6, 6, 6, 6, 6, 6, 6, 6, 6, 6, 6, 6, 6, 6, 6, 6, 6, 6, 6, 6, 6, 6, 6, 6, 7, 7, 7, 7, 7, 7, 7, 7, 7, 7, 7, 7, 7, 7, 7, 7, 7, 7, 7, 7, 7, 7, 7, 7, 7, 7, 7, 7, 7, 7, 7, 7, 7, 7, 7, 7, 7, 7, 7, 7, 7, 7, 7, 7, 7, 7, 7, 7, 7, 7, 7, 7, 7, 7, 7, 7, 7, 7, 7, 7, 7, 7, 7, 7, 8, 8, 8, 8, 8, 8, 8, 8, 8, 8, 8, 8, 8, 8, 8, 8, 8, 8, 8, 8, 8, 8, 8, 8, 8, 8, 8, 8, 8, 8, 8, 8, 8, 8, 8, 8, 8, 8, 8, 8, 8, 8, 8, 8, 8, 8, 8, 8, 8, 8, 8, 8, 8, 8, 8, 8, 8, 8, 8, 8, 8, 8, 8, 8, 8, 8, 8, 8, 8, 8, 8, 8, 8, 8, 8, 8, 8, 8, 8, 8, 8, 8, 8, 8, 8, 8, 8, 8, 8, 8, 8, 8, 8, 8, 8, 8, 8, 8, 8, 8, 8, 8, 8, 8, 8, 8, 8, 8, 8, 8, 8, 8, 8, 8, 8, 8, 8, 8, 8, 8, 8, 8, 8, 8, 8, 8, 8, 8] }
set_option maxRecDepth 100000 in
theorem tab_size : tab.size = 256 := by decide +kernel
set_option maxRecDepth 100000 in
theorem tab_all : ∀ f : Fin 256, f.val < 2 ^ (tab[f.val]!).toNat ∧ (tab[f.val]!).toNat ≤ 8 ∧ (1 ≤ f.val → 1 ≤ (tab[f.val]!).toNat) := by decide +kernel
theorem wrap64_small {n : Int} (h0 : 0 ≤ n) (h1 : n ≤ 1000) : wrap64 n = n := by unfold wrap64; omega
set_option maxRecDepth 100000 in
theorem fin8 (n b : Nat) (h : n < tab.size) (hn : n < 256) (hb : b ≤ 24) : wrap64 ((b : Int) + wrap64 ((tab[n]'h).toNat : Int)) = ((b + tab[n]!.toNat : Nat) : Int) := by
  have e : tab[n]'h = tab[n]! := (getElem!_pos tab n h).symm
  have F : tab[n]!.toNat ≤ 8 := (tab_all ⟨n, hn⟩).2.1
  have w1 : wrap64 (tab[n]!.toNat : Int) = (tab[n]!.toNat : Int) := wrap64_small (by omega) (by omega)
  rw [e, w1, wrap64_small (by omega) (by omega)]
  omega
theorem pow_le {x : Int} {n b L : Nat} (d : Int) (hd : d = 2 ^ b) (hx : x < ((n : Int) + 1) * d) (hn : n < 2 ^ L) : x < 2 ^ (b + L) := by
  have h1 : (n : Int) + 1 ≤ 2 ^ L := by exact_mod_cast hn
  have h2 : (0 : Int) < 2 ^ b := Int.pow_pos (by decide)
  have h3 : ((n : Int) + 1) * d ≤ 2 ^ L * d := Int.mul_le_mul_of_nonneg_right h1 (by omega)
  rw [Int.pow_add, Int.mul_comm, ← hd]
  omega

set_option maxHeartbeats 1000000 in
set_option maxRecDepth 100000 in
theorem len32_0 (x : Int) (w : World) (h0 : 0 ≤ x) (h1 : x < 256) :
    Calls Try.prog 91 #[.int .u32 x] w fun e w' => ∃ L : Nat, e = .returned (.int .i64 L) ∧ L ≤ 32 ∧ x < 2 ^ L ∧ (1 ≤ x → 1 ≤ L) ∧ w' = w := by
  obtain ⟨n, hn⟩ := Int.eq_ofNat_of_zero_le (show 0 ≤ x by omega)
  subst hn
  have hn1 : n < 256 := by omega
  have F : n < 2 ^ (tab[n]!).toNat ∧ (tab[n]!).toNat ≤ 8 ∧ (1 ≤ n → 1 ≤ (tab[n]!).toNat) := tab_all ⟨n, hn1⟩
  have hx : (n : Int) < ((n : Int) + 1) * 1 := by omega
  have hx1 : 0 ≤ (n : Int) := h0
  have t1 : decide (65536 ≤ (n : Int)) = false := by simp; omega
  have t2 : decide (256 ≤ (n : Int)) = false := by simp; omega
  go_enter Try.func91, Try.ntmps91
  go_wp2
  go_ret
  exact ⟨0 + tab[n]!.toNat, ret_int ((congrArg wrap64 (Int.zero_add _).symm).trans (fin8 n 0 (by rw [tab_size]; exact hn1) hn1 (by decide))), by have := F.2.1; omega, pow_le (n := n) (b := 0) 1 (by decide) hx F.1, fun h => by have := F.2.2; omega, rfl⟩

set_option maxHeartbeats 1000000 in
set_option maxRecDepth 100000 in
theorem len32_8 (x : Int) (w : World) (h0 : 256 ≤ x) (h1 : x < 65536) :
    Calls Try.prog 91 #[.int .u32 x] w fun e w' => ∃ L : Nat, e = .returned (.int .i64 L) ∧ L ≤ 32 ∧ x < 2 ^ L ∧ (1 ≤ x → 1 ≤ L) ∧ w' = w := by
  obtain ⟨n, hn⟩ := Int.eq_ofNat_of_zero_le (show 0 ≤ x / 256 by omega)
  have hn1 : n < 256 := by omega
  have F : n < 2 ^ (tab[n]!).toNat ∧ (tab[n]!).toNat ≤ 8 ∧ (1 ≤ n → 1 ≤ (tab[n]!).toNat) := tab_all ⟨n, hn1⟩
  have hx : x < ((n : Int) + 1) * 256 := by omega
  have hx1 : 256 ≤ x := h0
  have t1 : decide (65536 ≤ x) = false := by simp; omega
  have t2 : decide (256 ≤ x) = true := by simp; omega
  go_enter Try.func91, Try.ntmps91
  go_wp2
  go_ret
  exact ⟨8 + tab[n]!.toNat, ret_int (fin8 n 8 _ hn1 (by decide)), by have := F.2.1; omega, pow_le (n := n) (b := 8) 256 (by decide) hx F.1, fun h => by have := F.2.2; omega, rfl⟩

set_option maxHeartbeats 1000000 in
set_option maxRecDepth 100000 in
theorem len32_16 (x : Int) (w : World) (h0 : 65536 ≤ x) (h1 : x < 16777216) :
    Calls Try.prog 91 #[.int .u32 x] w fun e w' => ∃ L : Nat, e = .returned (.int .i64 L) ∧ L ≤ 32 ∧ x < 2 ^ L ∧ (1 ≤ x → 1 ≤ L) ∧ w' = w := by
  obtain ⟨n, hn⟩ := Int.eq_ofNat_of_zero_le (show 0 ≤ x / 65536 by omega)
  have hn1 : n < 256 := by omega
  have F : n < 2 ^ (tab[n]!).toNat ∧ (tab[n]!).toNat ≤ 8 ∧ (1 ≤ n → 1 ≤ (tab[n]!).toNat) := tab_all ⟨n, hn1⟩
  have hx : x < ((n : Int) + 1) * 65536 := by omega
  have hx1 : 65536 ≤ x := h0
  have t1 : decide (65536 ≤ x) = true := by simp; omega
  have t2 : decide (256 ≤ x / 65536) = false := by simp; omega
  go_enter Try.func91, Try.ntmps91
  go_wp2
  go_ret
  exact ⟨16 + tab[n]!.toNat, ret_int (fin8 n 16 _ hn1 (by decide)), by have := F.2.1; omega, pow_le (n := n) (b := 16) 65536 (by decide) hx F.1, fun h => by have := F.2.2; omega, rfl⟩

set_option maxHeartbeats 1000000 in
set_option maxRecDepth 100000 in
theorem len32_24 (x : Int) (w : World) (h0 : 16777216 ≤ x) (h1 : x < 4294967296) :
    Calls Try.prog 91 #[.int .u32 x] w fun e w' => ∃ L : Nat, e = .returned (.int .i64 L) ∧ L ≤ 32 ∧ x < 2 ^ L ∧ (1 ≤ x → 1 ≤ L) ∧ w' = w := by
  obtain ⟨n, hn⟩ := Int.eq_ofNat_of_zero_le (show 0 ≤ x / 16777216 by omega)
  have hn' : x / 65536 / 256 = (n : Int) := by omega
  have hn1 : n < 256 := by omega
  have F : n < 2 ^ (tab[n]!).toNat ∧ (tab[n]!).toNat ≤ 8 ∧ (1 ≤ n → 1 ≤ (tab[n]!).toNat) := tab_all ⟨n, hn1⟩
  have hx : x < ((n : Int) + 1) * 16777216 := by omega
  have hx1 : 16777216 ≤ x := h0
  have t1 : decide (65536 ≤ x) = true := by simp; omega
  have t2 : decide (256 ≤ x / 65536) = true := by simp; omega
  go_enter Try.func91, Try.ntmps91
  go_wp2
  go_ret
  exact ⟨24 + tab[n]!.toNat, ret_int (fin8 n 24 _ hn1 (by decide)), by have := F.2.1; omega, pow_le (n := n) (b := 24) 16777216 (by decide) hx F.1, fun h => by have := F.2.2; omega, rfl⟩

theorem len32_any (x : Int) (w : World) (h0 : 0 ≤ x) (h1 : x < 4294967296) :
    Calls Try.prog 91 #[.int .u32 x] w fun e w' => ∃ L : Nat, e = .returned (.int .i64 L) ∧ L ≤ 32 ∧ x < 2 ^ L ∧ (1 ≤ x → 1 ≤ L) ∧ w' = w := by
  by_cases c1 : x < 256
  · exact len32_0 x w h0 c1
  · by_cases c2 : x < 65536
    · exact len32_8 x w (by omega) c2
    · by_cases c3 : x < 16777216
      · exact len32_16 x w (by omega) c3
      · exact len32_24 x w (by omega) h1

set_option maxHeartbeats 400000 in
theorem leadingZeros32_any (x : Int) (w : World) (h0 : 1 ≤ x) (h1 : x < 4294967296) :
    Calls Try.prog 87 #[.int .u32 x] w fun e w' => ∃ s : Nat, e = .returned (.int .i64 s) ∧ s ≤ 31 ∧ x * 2 ^ s < 4294967296 ∧ w' = w := by
  go_enter Try.func87, Try.ntmps87
  go_wp2_with fail
  refine (len32_any x w (by omega) h1).mono ?_
  rintro e w' ⟨L, rfl, hL, hx, hl, rfl⟩
  have l1 := hl h0
  go_wp2
  go_ret
  refine ⟨32 - L, ret_int (by omega), by omega, ?_, rfl⟩
  have e : (4294967296 : Int) = 2 ^ L * 2 ^ (32 - L) := by rw [← Int.pow_add, show L + (32 - L) = 32 by omega]; decide
  rw [e]
  exact Int.mul_lt_mul_of_pos_right hx (Int.pow_pos (by decide))
end Go.Proofs.Ythdjopkmlcdoeaa
