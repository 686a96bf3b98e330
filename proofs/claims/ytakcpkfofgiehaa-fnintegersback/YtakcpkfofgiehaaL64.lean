
/-
  math/bits.Len64.
-/
import Derived.Test.YtakcpkfofgiehaaHelp
import Derived.Test.YtakcpkfofgiehaaNiA
namespace Go.Proofs.Ytakcpkfofgiehaa
open Go.RowKit

/-- The table of Len64. -/
abbrev tb8 : ByteArray := { data := #[0, 1, 2, 2, 3, 3, 3, 3, 4, 4, 4, 4, 4, 4, 4, 4, 5, 5, 5, 5, 5, 5, 5, 5, 5, 5, 5, 5, 5, 5, 5, 5, 6, 6, 6, 6, 6, 6, 6, 6, 6, 6, 6, 6, 6, 6, 6, 6, 6, 6, 6, 6, 6, 6, 6, 6, 6, 6, 6, 6, 6, 6, 6, 6, 7, 7, 7, 7, 7, 7, 7, 7, 7, 7, 7, 7, 7, 7, 7, 7, 7, 7, 7, 7, 7, 7, 7, 7, 7, 7, 7, 7, 7, 7, 7, 7, 7, 7, 7, 7, 7, 7, 7, 7, 7, 7, 7, 7, 7, 7, 7, 7, 7, 7, 7, 7, 7, 7, 7, 7, 7, 7, 7, 7, 7, 7, 7, 7, 8, 8, 8, 8, 8, 8, 8, 8, 8, 8, 8, 8, 8, 8, 8, 8, 8, 8, 8, 8, 8, 8, 8, 8, 8, 8, 8, 8, 8, 8, 8, 8, 8, 8, 8, 8, 8, 8, 8, 8, 8, 8, 8, 8, 8, 8, 8, 8, 8, 8, 8, 8, 8, 8, 8, 8, 8, 8, 8, 8, 8, 8, 8, 8, 8, 8, 8, 8, 8, 8, 8, 8, 8, 8, 8, 8, 8, 8, 8, 8, 8, 8, 8, 8, 8, 8, 8, 8, 8, 8, 8, 8, 8, 8, 8, 8, 8, 8, 8, 8, 8, 8, 8, 8, 8, 8, 8, 8, 8, 8, 8, 8, 8, 8, 8, 8, 8, 8, 8, 8, 8, 8, 8, 8, 8, 8, 8, 8] }
set_option maxRecDepth 100000 in
theorem tb8_size : tb8.size = 256 := by decide +kernel
set_option maxRecDepth 100000 in
theorem tb8_all : ∀ f : Fin 256, f.val < 2 ^ (tb8[f.val]!).toNat ∧ (tb8[f.val]!).toNat ≤ 8 ∧ (1 ≤ f.val → 1 ≤ (tb8[f.val]!).toNat ∧ 2 ^ ((tb8[f.val]!).toNat - 1) ≤ f.val) ∧ (f.val = 0 → (tb8[f.val]!).toNat = 0) := by decide +kernel
theorem wrp {n : Int} (h0 : 0 ≤ n) (h1 : n ≤ 1000) : wrap64 n = n := by unfold wrap64; omega
set_option maxRecDepth 100000 in
theorem tb8_fin (n b : Nat) (h : n < tb8.size) (hn : n < 256) (hb : b ≤ 56) : wrap64 ((b : Int) + wrap64 ((tb8[n]'h).toNat : Int)) = ((b + tb8[n]!.toNat : Nat) : Int) := by
  have e : tb8[n]'h = tb8[n]! := (getElem!_pos tb8 n h).symm
  have F : tb8[n]!.toNat ≤ 8 := (tb8_all ⟨n, hn⟩).2.1
  have w1 : wrap64 (tb8[n]!.toNat : Int) = (tb8[n]!.toNat : Int) := wrp (by omega) (by omega)
  rw [e, w1, wrp (by omega) (by omega)]
  omega
theorem bts_up {x : Int} {n b L : Nat} (h0 : 0 ≤ x) (d : Int) (hd : d = 2 ^ b) (hx : x < ((n : Int) + 1) * d) (hx' : (n : Int) * d ≤ x) (hn : n < 2 ^ L) (hn' : 1 ≤ n ∨ b = 0) (hL : 1 ≤ n → 1 ≤ L ∧ 2 ^ (L - 1) ≤ n) (hz : n = 0 → L = 0) : Bts x (b + L) := by
  have p0 : (0 : Int) < 2 ^ b := Int.pow_pos (by decide)
  refine ⟨h0, ?_, ?_⟩
  · have h1 : (n : Int) + 1 ≤ 2 ^ L := by exact_mod_cast hn
    have h3 : ((n : Int) + 1) * d ≤ 2 ^ L * d := Int.mul_le_mul_of_nonneg_right h1 (by omega)
    rw [Int.pow_add, Int.mul_comm, ← hd]
    omega
  · by_cases c : 1 ≤ n
    · right
      obtain ⟨l1, l2⟩ := hL c
      have h1 : (2 : Int) ^ (L - 1) ≤ n := by exact_mod_cast l2
      have h3 : (2 : Int) ^ (L - 1) * d ≤ n * d := Int.mul_le_mul_of_nonneg_right h1 (by omega)
      rw [show b + L - 1 = b + (L - 1) by omega, Int.pow_add, Int.mul_comm, ← hd]
      omega
    · left
      have := hz (by omega)
      omega

set_option maxHeartbeats 1000000 in
set_option maxRecDepth 100000 in
theorem len64_0 (x : Int) (w : World) (h0 : 0 ≤ x) (h1 : x < 256) :
    Calls Try.prog 63 #[.int .u64 x] w fun e w' => ∃ L : Nat, e = .returned (.int .i64 L) ∧ Bts x L ∧ w' = w := by
  obtain ⟨n, hn⟩ := Int.eq_ofNat_of_zero_le (show 0 ≤ x by omega)
  have hn1 : n < 256 := by omega
  have hn2 : 1 ≤ n ∨ 0 = 0 := by omega
  have F := tb8_all ⟨n, hn1⟩
  have hx : x < ((n : Int) + 1) * 1 := by omega
  have hx' : (n : Int) * 1 ≤ x := by omega
  have FN : Hid (Bts x (0 + tb8[n]!.toNat)) := bts_up (by omega) 1 (by decide) hx hx' F.1 hn2 F.2.2.1 F.2.2.2
  have t0 : decide (4294967296 ≤ x) = false := by simp; omega
  have t1 : decide (65536 ≤ x) = false := by simp; omega
  have t2 : decide (256 ≤ x) = false := by simp; omega
  clear F hx hx' hn2
  subst hn
  go_enter Try.func63, Try.ntmps63
  go_wp2
  go_ret
  exact ⟨0 + tb8[n]!.toNat, ret_int ((congrArg wrap64 (Int.zero_add _).symm).trans (tb8_fin n 0 (by rw [tb8_size]; exact hn1) hn1 (by decide))), FN.out, rfl⟩

set_option maxHeartbeats 1000000 in
set_option maxRecDepth 100000 in
theorem len64_8 (x : Int) (w : World) (h0 : 256 ≤ x) (h1 : x < 65536) :
    Calls Try.prog 63 #[.int .u64 x] w fun e w' => ∃ L : Nat, e = .returned (.int .i64 L) ∧ Bts x L ∧ w' = w := by
  obtain ⟨n, hn⟩ := Int.eq_ofNat_of_zero_le (show 0 ≤ x / 256 by omega)
  have hn1 : n < 256 := by omega
  have hn2 : 1 ≤ n ∨ 8 = 0 := by omega
  have F := tb8_all ⟨n, hn1⟩
  have hx : x < ((n : Int) + 1) * 256 := by omega
  have hx' : (n : Int) * 256 ≤ x := by omega
  have FN : Hid (Bts x (8 + tb8[n]!.toNat)) := bts_up (by omega) 256 (by decide) hx hx' F.1 hn2 F.2.2.1 F.2.2.2
  have t0 : decide (4294967296 ≤ x) = false := by simp; omega
  have t1 : decide (65536 ≤ x) = false := by simp; omega
  have t2 : decide (256 ≤ x) = true := by simp; omega
  clear F hx hx' hn2
  go_enter Try.func63, Try.ntmps63
  go_wp2
  go_ret
  exact ⟨8 + tb8[n]!.toNat, ret_int (tb8_fin n 8 _ hn1 (by decide)), FN.out, rfl⟩

set_option maxHeartbeats 1000000 in
set_option maxRecDepth 100000 in
theorem len64_16 (x : Int) (w : World) (h0 : 65536 ≤ x) (h1 : x < 16777216) :
    Calls Try.prog 63 #[.int .u64 x] w fun e w' => ∃ L : Nat, e = .returned (.int .i64 L) ∧ Bts x L ∧ w' = w := by
  obtain ⟨n, hn⟩ := Int.eq_ofNat_of_zero_le (show 0 ≤ x / 65536 by omega)
  have hn1 : n < 256 := by omega
  have hn2 : 1 ≤ n ∨ 16 = 0 := by omega
  have F := tb8_all ⟨n, hn1⟩
  have hx : x < ((n : Int) + 1) * 65536 := by omega
  have hx' : (n : Int) * 65536 ≤ x := by omega
  have FN : Hid (Bts x (16 + tb8[n]!.toNat)) := bts_up (by omega) 65536 (by decide) hx hx' F.1 hn2 F.2.2.1 F.2.2.2
  have t0 : decide (4294967296 ≤ x) = false := by simp; omega
  have t1 : decide (65536 ≤ x) = true := by simp; omega
  have t2 : decide (256 ≤ x / 65536) = false := by simp; omega
  clear F hx hx' hn2
  go_enter Try.func63, Try.ntmps63
  go_wp2
  go_ret
  exact ⟨16 + tb8[n]!.toNat, ret_int (tb8_fin n 16 _ hn1 (by decide)), FN.out, rfl⟩

set_option maxHeartbeats 1000000 in
set_option maxRecDepth 100000 in
theorem len64_24 (x : Int) (w : World) (h0 : 16777216 ≤ x) (h1 : x < 4294967296) :
    Calls Try.prog 63 #[.int .u64 x] w fun e w' => ∃ L : Nat, e = .returned (.int .i64 L) ∧ Bts x L ∧ w' = w := by
  obtain ⟨n, hn⟩ := Int.eq_ofNat_of_zero_le (show 0 ≤ x / 65536 / 256 by omega)
  have hn1 : n < 256 := by omega
  have hn2 : 1 ≤ n ∨ 24 = 0 := by omega
  have F := tb8_all ⟨n, hn1⟩
  have hx : x < ((n : Int) + 1) * 16777216 := by omega
  have hx' : (n : Int) * 16777216 ≤ x := by omega
  have FN : Hid (Bts x (24 + tb8[n]!.toNat)) := bts_up (by omega) 16777216 (by decide) hx hx' F.1 hn2 F.2.2.1 F.2.2.2
  have t0 : decide (4294967296 ≤ x) = false := by simp; omega
  have t1 : decide (65536 ≤ x) = true := by simp; omega
  have t2 : decide (256 ≤ x / 65536) = true := by simp; omega
  clear F hx hx' hn2
  go_enter Try.func63, Try.ntmps63
  go_wp2
  go_ret
  exact ⟨24 + tb8[n]!.toNat, ret_int (tb8_fin n 24 _ hn1 (by decide)), FN.out, rfl⟩

set_option maxHeartbeats 1000000 in
set_option maxRecDepth 100000 in
theorem len64_32 (x : Int) (w : World) (h0 : 4294967296 ≤ x) (h1 : x < 1099511627776) :
    Calls Try.prog 63 #[.int .u64 x] w fun e w' => ∃ L : Nat, e = .returned (.int .i64 L) ∧ Bts x L ∧ w' = w := by
  obtain ⟨n, hn⟩ := Int.eq_ofNat_of_zero_le (show 0 ≤ x / 4294967296 by omega)
  have hn1 : n < 256 := by omega
  have hn2 : 1 ≤ n ∨ 32 = 0 := by omega
  have F := tb8_all ⟨n, hn1⟩
  have hx : x < ((n : Int) + 1) * 4294967296 := by omega
  have hx' : (n : Int) * 4294967296 ≤ x := by omega
  have FN : Hid (Bts x (32 + tb8[n]!.toNat)) := bts_up (by omega) 4294967296 (by decide) hx hx' F.1 hn2 F.2.2.1 F.2.2.2
  have t0 : decide (4294967296 ≤ x) = true := by simp; omega
  have t1 : decide (65536 ≤ (n : Int)) = false := by simp; omega
  have t2 : decide (256 ≤ (n : Int)) = false := by simp; omega
  clear F hx hx' hn2
  go_enter Try.func63, Try.ntmps63
  go_wp2
  go_ret
  exact ⟨32 + tb8[n]!.toNat, ret_int (tb8_fin n 32 _ hn1 (by decide)), FN.out, rfl⟩

set_option maxHeartbeats 1000000 in
set_option maxRecDepth 100000 in
theorem len64_40 (x : Int) (w : World) (h0 : 1099511627776 ≤ x) (h1 : x < 281474976710656) :
    Calls Try.prog 63 #[.int .u64 x] w fun e w' => ∃ L : Nat, e = .returned (.int .i64 L) ∧ Bts x L ∧ w' = w := by
  obtain ⟨n, hn⟩ := Int.eq_ofNat_of_zero_le (show 0 ≤ x / 4294967296 / 256 by omega)
  have hn1 : n < 256 := by omega
  have hn2 : 1 ≤ n ∨ 40 = 0 := by omega
  have F := tb8_all ⟨n, hn1⟩
  have hx : x < ((n : Int) + 1) * 1099511627776 := by omega
  have hx' : (n : Int) * 1099511627776 ≤ x := by omega
  have FN : Hid (Bts x (40 + tb8[n]!.toNat)) := bts_up (by omega) 1099511627776 (by decide) hx hx' F.1 hn2 F.2.2.1 F.2.2.2
  have t0 : decide (4294967296 ≤ x) = true := by simp; omega
  have t1 : decide (65536 ≤ x / 4294967296) = false := by simp; omega
  have t2 : decide (256 ≤ x / 4294967296) = true := by simp; omega
  clear F hx hx' hn2
  go_enter Try.func63, Try.ntmps63
  go_wp2
  go_ret
  exact ⟨40 + tb8[n]!.toNat, ret_int (tb8_fin n 40 _ hn1 (by decide)), FN.out, rfl⟩

set_option maxHeartbeats 1000000 in
set_option maxRecDepth 100000 in
theorem len64_48 (x : Int) (w : World) (h0 : 281474976710656 ≤ x) (h1 : x < 72057594037927936) :
    Calls Try.prog 63 #[.int .u64 x] w fun e w' => ∃ L : Nat, e = .returned (.int .i64 L) ∧ Bts x L ∧ w' = w := by
  obtain ⟨n, hn⟩ := Int.eq_ofNat_of_zero_le (show 0 ≤ x / 4294967296 / 65536 by omega)
  have hn1 : n < 256 := by omega
  have hn2 : 1 ≤ n ∨ 48 = 0 := by omega
  have F := tb8_all ⟨n, hn1⟩
  have hx : x < ((n : Int) + 1) * 281474976710656 := by omega
  have hx' : (n : Int) * 281474976710656 ≤ x := by omega
  have FN : Hid (Bts x (48 + tb8[n]!.toNat)) := bts_up (by omega) 281474976710656 (by decide) hx hx' F.1 hn2 F.2.2.1 F.2.2.2
  have t0 : decide (4294967296 ≤ x) = true := by simp; omega
  have t1 : decide (65536 ≤ x / 4294967296) = true := by simp; omega
  have t2 : decide (256 ≤ x / 4294967296 / 65536) = false := by simp; omega
  clear F hx hx' hn2
  go_enter Try.func63, Try.ntmps63
  go_wp2
  go_ret
  exact ⟨48 + tb8[n]!.toNat, ret_int (tb8_fin n 48 _ hn1 (by decide)), FN.out, rfl⟩

set_option maxHeartbeats 1000000 in
set_option maxRecDepth 100000 in
theorem len64_56 (x : Int) (w : World) (h0 : 72057594037927936 ≤ x) (h1 : x < 18446744073709551616) :
    Calls Try.prog 63 #[.int .u64 x] w fun e w' => ∃ L : Nat, e = .returned (.int .i64 L) ∧ Bts x L ∧ w' = w := by
  obtain ⟨n, hn⟩ := Int.eq_ofNat_of_zero_le (show 0 ≤ x / 4294967296 / 65536 / 256 by omega)
  have hn1 : n < 256 := by omega
  have hn2 : 1 ≤ n ∨ 56 = 0 := by omega
  have F := tb8_all ⟨n, hn1⟩
  have hx : x < ((n : Int) + 1) * 72057594037927936 := by omega
  have hx' : (n : Int) * 72057594037927936 ≤ x := by omega
  have FN : Hid (Bts x (56 + tb8[n]!.toNat)) := bts_up (by omega) 72057594037927936 (by decide) hx hx' F.1 hn2 F.2.2.1 F.2.2.2
  have t0 : decide (4294967296 ≤ x) = true := by simp; omega
  have t1 : decide (65536 ≤ x / 4294967296) = true := by simp; omega
  have t2 : decide (256 ≤ x / 4294967296 / 65536) = true := by simp; omega
  clear F hx hx' hn2
  go_enter Try.func63, Try.ntmps63
  go_wp2
  go_ret
  exact ⟨56 + tb8[n]!.toNat, ret_int (tb8_fin n 56 _ hn1 (by decide)), FN.out, rfl⟩

theorem len64_any (x : Int) (w : World) (h0 : 0 ≤ x) (h1 : x < 18446744073709551616) :
    Calls Try.prog 63 #[.int .u64 x] w fun e w' => ∃ L : Nat, e = .returned (.int .i64 L) ∧ Bts x L ∧ w' = w := by
  by_cases c0 : x < 256
  · exact len64_0 x w (by omega) c0
  by_cases c8 : x < 65536
  · exact len64_8 x w (by omega) c8
  by_cases c16 : x < 16777216
  · exact len64_16 x w (by omega) c16
  by_cases c24 : x < 4294967296
  · exact len64_24 x w (by omega) c24
  by_cases c32 : x < 1099511627776
  · exact len64_32 x w (by omega) c32
  by_cases c40 : x < 281474976710656
  · exact len64_40 x w (by omega) c40
  by_cases c48 : x < 72057594037927936
  · exact len64_48 x w (by omega) c48
  exact len64_56 x w (by omega) (by omega)
end Go.Proofs.Ytakcpkfofgiehaa
