
/-
  Bits of signed numbers, as far as they are wanted.
-/
import Derived.Test.YtdgbioekofmekaaNiA
import Derived.Laws.Bits64b
namespace Go.Proofs.Ytdgbioekofmekaa
open Go Go.RowKit

theorem ofInt64 (v : Int) : ((BitVec.ofInt 64 v).toNat : Int) = v % 18446744073709551616 := by
  rw [BitVec.toNat_ofInt]
  rw [Int.toNat_of_nonneg (Int.emod_nonneg _ (by decide))]
  rfl
theorem wrap_i64 (n : Int) : IntKind.i64.wrap n = (n + 9223372036854775808) % 18446744073709551616 - 9223372036854775808 := by
  simp [IntKind.wrap, IntKind.signed, IntKind.bits]
  omega
/-- A number, or what has all its bits turned. -/
theorem xor_sign (v : Int) (h0 : -9223372036854775808 ≤ v) (h1 : v < 9223372036854775808) : IntKind.u64.wrap (bits .xor .i64 v (v / 9223372036854775808)) = if v < 0 then -v - 1 else v := by
  have e : bits .xor .i64 v (v / 9223372036854775808) = IntKind.i64.wrap ((BitVec.ofInt 64 v ^^^ BitVec.ofInt 64 (v / 9223372036854775808)).toNat : Int) := rfl
  rw [e, IntKind.wrap_u64, wrap_i64]
  by_cases c : v < 0
  · rw [if_pos c, show v / 9223372036854775808 = -1 by omega, show BitVec.ofInt 64 (-1) = BitVec.allOnes 64 by decide, BitVec.xor_allOnes, BitVec.toNat_not]
    have := ofInt64 v
    omega
  · rw [if_neg c, show v / 9223372036854775808 = 0 by omega, show BitVec.ofInt 64 0 = 0#64 by decide, BitVec.xor_zero]
    have := ofInt64 v
    omega
theorem or_byte (v x : Int) (h0 : -9223372036854775808 ≤ v * 256) (h1 : v * 256 < 9223372036854775808) (x0 : 0 ≤ x) (x1 : x < 256) : bits .or .i64 (v * 256) x = v * 256 + x := by
  have e : bits .or .i64 (v * 256) x = IntKind.i64.wrap ((BitVec.ofInt 64 (v * 256) ||| BitVec.ofInt 64 x).toNat : Int) := rfl
  rw [e, wrap_i64, BitVec.toNat_or]
  have a := ofInt64 (v * 256)
  have b := ofInt64 x
  obtain ⟨m, hm⟩ : ∃ m, (BitVec.ofInt 64 (v * 256)).toNat = 2 ^ 8 * m := ⟨(BitVec.ofInt 64 (v * 256)).toNat / 256, by omega⟩
  obtain ⟨y, hy⟩ : ∃ y, (BitVec.ofInt 64 x).toNat = y := ⟨_, rfl⟩
  rw [hm, hy, ← Nat.two_pow_add_eq_or_of_lt (by omega)]
  rw [hm] at a
  rw [hy] at b
  omega
end Go.Proofs.Ytdgbioekofmekaa
