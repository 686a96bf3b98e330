
/-
  math/bits.Len64.
-/
import Derived.Test.YtgmnnmlbmibabaaHelp
import Derived.Test.YtgmnnmlbmibabaaNiA
namespace Go.Proofs.Ytgmnnmlbmibabaa
open Go.RowKit

/-- The table of Len64. -/
abbrev tb8 : ByteArray := { data := #[0, 1, 2, 2, 3, 3, 3, 3, 4, 4, 4, 4, 4, 4, 4, 4, 5, 5, 5, 5, 5, 5, 5, 5, 5, 5, 5, 5, 5, 5, 5, 5, 6, 6, 6, 6, 6, 6, 6, 6, 6, 6, 6, 6, 6, 6, 6, 6, 6, 6, 6, 6, 6, 6, 6, 6, 6, 6, 6, 6, 6, 6, 6, 6, 7, 7, 7, 7, 7, 7, 7, 7, 7, 7, 7, 7, 7, 7, 7, 7, 7, 7, 7, 7, 7, 7, 7, 7, 7, 7, 7, 7, 7, 7, 7, 7, 7, 7, 7, 7, 7, 7, 7, 7, 7, 7, 7, 7, 7, 7, 7, 7, 7, 7, 7, 7, 7, 7, 7, 7, 7, 7, 7, 7, 7, 7, 7, 7, 8, 8, 8, 8, 8, 8, 8, 8, 8, 8, 8, 8, 8, 8, 8, 8, 8, 8, 8, 8, 8, 8, 8, 8, 8, 8, 8, 8, 8, 8, 8, 8, 8, 8, 8, 8, 8, 8, 8, 8, 8, 8, 8, 8, 8, 8, 8, 8, 8, 8, 8, 8, 8, 8, 8, 8, 8, 8, 8, 8, 8, 8, 8, 8, 8, 8, 8, 8, 8, 8, 8, 8, 8, 8, 8, 8, 8, 8, 8, 8, 8, 8, 8, 8, 8, 8, 8, 8, 8, 8, 8, 8, 8, 8, 8, 8, 8, 8, 8, 8, 8, 8, 8, 8, 8, 8, 8, 8, 8, 8, 8, 8, 8, 8, 8, 8, 8, 8, 8, 8, 8, 8, 8, 8, 8, 8, 8, 8] }
set_option maxRecDepth 100000 in
theorem tb8_size : tb8.size = 256 := by decide +kernel
set_option maxRecDepth 100000 in
theorem tb8_all : ∀ f : Fin 256, f.val < 2 ^ (tb8[f.val]!).toNat ∧ (tb8[f.val]!).toNat ≤ 8 ∧ (1 ≤ f.val → 1 ≤ (tb8[f.val]!).toNat ∧ 2 ^ ((tb8[f.val]!).toNat - 1) ≤ f.val) ∧ (f.val = 0 → (tb8[f.val]!).toNat = 0) := by decide +kernel
theorem wrp {n : Int} (h0 : 0 ≤ n) (h1 : n ≤ 1000) : wrap64 n = n := by unfold wrap64; omega
set_option maxRecDepth 100000 in
theorem tb8_fin (n b : Nat) (h : n < tb8.size) (hn : n < 256) (hb : b ≤ 56) : wrap64 ((b : Int) + wrap64 ((tb8[n]'h).toNat : Int)) = ((b + tb8[n]!.toNat : Nat) : Int) := by
  have e : tb8[n]'h = tb8[n]! := (getElem!_pos tb8 n h).symm
  have F : tb8[n]!.toNat ≤ 8 := (tb8_all ⟨n, hn⟩).2.1
  have w1 : wrap64 (tb8[n]!.toNat : Int) = (tb8[n]!.toNat : Int) := wrp (by omega) (by omega)
  rw [e, w1, wrp (by omega) (by omega)]
  omega
theorem bts_up {x : Int} {n b L : Nat} (h0 : 0 ≤ x) (d : Int) (hd : d = 2 ^ b) (hx : x < ((n : Int) + 1) * d) (hx' : (n : Int) * d ≤ x) (hn : n < 2 ^ L) (hn' : 1 ≤ n ∨ b = 0) (hL : 1 ≤ n → 1 ≤ L ∧ 2 ^ (L - 1) ≤ n) (hz : n = 0 → L = 0) : Bts x (b + L) := by
  have p0 : (0 : Int) < 2 ^ b := Int.pow_pos (by decide)
  refine ⟨h0, ?_, ?_⟩
  · have h1 : (n : Int) + 1 ≤ 2 ^ L := by exact_mod_cast hn
    have h3 : ((n : Int) + 1) * d ≤ 2 ^ L * d := Int.mul_le_mul_of_nonneg_right h1 (by omega)
    rw [Int.pow_add, Int.mul_comm, ← hd]
    omega
  · by_cases c : 1 ≤ n
    · right
      obtain ⟨l1, l2⟩ := hL c
      have h1 : (2 : Int) ^ (L - 1) ≤ n := by exact_mod_cast l2
      have h3 : (2 : Int) ^ (L - 1) * d ≤ n * d := Int.mul_le_mul_of_nonneg_right h1 (by omega)
      rw [show b + L - 1 = b + (L - 1) by omega, Int.pow_add, Int.mul_comm, ← hd]
      omega
    · left
      have := hz (by omega)
      omega

end Go.Proofs.Ytgmnnmlbmibabaa
