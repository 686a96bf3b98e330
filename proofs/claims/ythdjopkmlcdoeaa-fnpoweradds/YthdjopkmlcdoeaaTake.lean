/-
  Limbs less so many times other limbs, in place.
-/
import Derived.Test.YthdjopkmlcdoeaaLimb
import Derived.Test.YthdjopkmlcdoeaaNum3
namespace Go.Proofs.Ythdjopkmlcdoeaa
open Go.RowKit

theorem wraps_u64 (n : Int) (h₀ : 0 ≤ n) (h₁ : n < 2 ^ 64) : IntKind.u64.wrap n = n := by
  simp [IntKind.wrap, IntKind.bits, IntKind.signed]
  omega
theorem mask32 (x : Int) (h0 : 0 ≤ x) (h1 : x < 18446744073709551616) : bits BinOp.and IntKind.u64 x 4294967295 = x % 4294967296 :=
  bits_mask .u64 64 (by decide) wraps_u64 32 (by decide) x h0 h1

set_option maxHeartbeats 2000000 in
theorem takeTimes_any (w : World) (g : Nat) (a : Option Addr) (ca : Nat) (zs : List Int) (g' : Nat) (b : Option Addr) (cb : Nat) (ms : List Int) (T : Int) (ha : Own w g a .u32 zs) (hb : Rd w g' b .u32 ms) (hne : 0 < ms.length → g' ≠ g)
    (hz : Lmb zs) (hm : Lmb ms) (hn : zs.length ≤ 8192) (hk : ms.length ≤ 8192) (T0 : 0 ≤ T) (T1 : T < 4294967296) :
    Calls Try.prog 82 #[.slice a zs.length ca, .slice b ms.length cb, .int .u64 T] w fun e w' => ∃ ys bo c, e = .returned (.bool (c + bo != 0)) ∧ TakeTo zs ms ys T zs.length bo c ∧ Own w' g a .u32 ys ∧ Only g w w' := by
  go_enter Try.func82, Try.ntmps82
  go_wp2
  go_loopw [7, 8, 13] (fun q r i wr => ∃ (k : Nat) (bo c : Int) (ys : List Int), k ≤ zs.length ∧ i = .int .i64 k ∧ q = .int .u64 c ∧ r = .int .u64 bo ∧ (0 ≤ bo ∧ bo ≤ 1) ∧ (0 ≤ c ∧ c < 4294967296) ∧ TakeTo zs ms ys T k bo c ∧ Own wr g a .u32 ys ∧ Only g w wr) (fun _ _ i _ => zs.length - (intOf i).toNat)
  case atStart => exact ⟨0, 0, 0, zs, Nat.zero_le _, rfl, rfl, rfl, ⟨by omega, by omega⟩, ⟨by omega, by omega⟩, TakeTo.zero ms T hz, ha, Only.refl _ _⟩
  case round =>
    obtain ⟨k, bo, c, ys, hk', rfl, rfl, rfl, hbo, hc, hA, hO, hN⟩ := hrel
    by_cases hlt : k < zs.length
    · have R := hA.step hlt
      have hl : ys.length = zs.length := hA.1
      have hyz := hA.2.2.2.2.2 k (Nat.le_refl _)
      obtain ⟨off, rfl, hcc⟩ := hO (by omega)
      obtain ⟨hcy, hfy⟩ := hcc k (by omega)
      rw [hyz] at hcy
      have hS := fun v => hO.store k (by omega) v
      have hSn := fun v => hN.trans (Only.setCell wr g (off + k) (.int .u32 v))
      have zb := hz k
      have mb := hm k
      by_cases hkm : k < ms.length
      · obtain ⟨off', rfl, hcm⟩ := hb (by omega)
        have hcx : wr.cell? ⟨g', off' + k, none⟩ = some (.int .u32 (ms.getD k 0)) := by
          rw [World.cell?_of_block (a := ⟨g', off' + k, none⟩) (hN.block g' (hne (by omega)))]
          exact hcm k hkm
        have tk : decide ((k : Int) < (ms.length : Int)) = true := by simp; omega
        have u0 : 0 ≤ T * ms.getD k 0 := Int.mul_nonneg T0 mb.1
        have u1 : T * ms.getD k 0 ≤ 4294967295 * 4294967295 := Int.le_trans (Int.mul_le_mul_of_nonneg_right (show T ≤ 4294967295 by omega) mb.1) (Int.mul_le_mul_of_nonneg_left (by omega) (by decide))
        have u2 : T * ms.getD k 0 ≤ 18446744065119617025 := u1
        generalize zs.getD k 0 = z at *
        generalize ms.getD k 0 = m at *
        have e1 := mask32 (c + T * m) (by omega) (by omega)
        have F := hide (take_limb z ((c + T * m) % 4294967296) bo zb ⟨by omega, by omega⟩ hbo)
        have R' := hide R
        clear hcc hO hN hA hl hyz hcm ha u1 R
        go_wp2
        go_roundw
        case rel =>
          obtain ⟨f1, f2, f3⟩ := F.out
          exact ⟨k + 1, _, _, _, by omega, by go_num, rfl, rfl, f3, ⟨by omega, by omega⟩, R'.out _ _ _ ((c + T * m) % 4294967296) (by omega) f1 f2.1 f2.2 f3 ⟨by omega, by omega⟩, hS _, hSn _⟩
        case measure => simp [intOf]; omega
      · have hm0 : ms.getD k 0 = 0 := by
          rw [List.getD_eq_getElem?_getD, List.getElem?_eq_none (by omega)]
          rfl
        rw [hm0] at R
        have tk : decide ((k : Int) < (ms.length : Int)) = false := by simp; omega
        generalize zs.getD k 0 = z at *
        have e1 := mask32 c (by omega) (by omega)
        have e2 : c % 4294967296 = c := by omega
        rw [e2] at e1
        have F := hide (take_limb z c bo zb hc hbo)
        have R' := hide R
        clear hcc hO hN hA hl hyz ha R hm0 mb e2
        go_wp2
        go_roundw
        case rel =>
          obtain ⟨f1, f2, f3⟩ := F.out
          exact ⟨k + 1, _, _, _, by omega, by go_num, rfl, rfl, f3, ⟨by omega, by omega⟩, R'.out _ _ _ c (by omega) f1 f2.1 f2.2 f3 ⟨by omega, by omega⟩, hS _, hSn _⟩
        case measure => simp [intOf]; omega
    · obtain rfl : k = zs.length := by omega
      go_wp2
      go_ret
      exact ⟨ys, bo, c, rfl, hA, hO, hN⟩
end Go.Proofs.Ythdjopkmlcdoeaa
