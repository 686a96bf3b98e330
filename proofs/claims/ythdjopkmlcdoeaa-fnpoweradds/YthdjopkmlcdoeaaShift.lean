/-
  Shifts of limbs, and division by one limb.
-/
import Derived.Test.YthdjopkmlcdoeaaGuessL
import Derived.Test.YthdjopkmlcdoeaaNum6
namespace Go.Proofs.Ythdjopkmlcdoeaa
open Go.RowKit

theorem p2_pos (s : Nat) : (0 : Int) < 2 ^ s := Int.pow_pos (by decide)
theorem p2_le {s : Nat} (hs : s ≤ 31) : (2 : Int) ^ s ≤ 2147483648 := by
  have h1 : 2 ^ s ≤ 2147483648 := Nat.pow_le_pow_right (n := 2) (by decide) hs
  have h2 : ((2 ^ s : Nat) : Int) ≤ 2147483648 := by omega
  rw [Int.natCast_pow] at h2
  exact h2
theorem or_comm64 (x y : Int) : bits BinOp.or IntKind.u64 x y = bits BinOp.or IntKind.u64 y x := by
  unfold bits
  simp only []
  rw [BitVec.or_comm]
theorem or_low (c v : Int) (s : Nat) (hs : s ≤ 31) (c0 : 0 ≤ c) (c1 : c < 2 ^ s) (v0 : 0 ≤ v) (v1 : v < 4294967296) : bits BinOp.or IntKind.u64 c (v * 2 ^ s) = c + v * 2 ^ s := by
  have p := p2_pos s
  have p2 := p2_le hs
  have m0 : 0 ≤ v * 2 ^ s := Int.mul_nonneg v0 (by omega)
  have m1 : v * 2 ^ s ≤ 4294967295 * 2147483648 := Int.le_trans (Int.mul_le_mul_of_nonneg_right (show v ≤ 4294967295 by omega) (by omega)) (Int.mul_le_mul_of_nonneg_left p2 (by decide))
  have := bits_join .u64 64 (by decide) wraps_u64 s (v * 2 ^ s) c m0 (Int.mul_emod_left _ _) (by omega) c0 c1 (by omega)
  rw [or_comm64, this]
  omega

set_option maxHeartbeats 2000000 in
theorem shiftLeft_any (w : World) (g : Nat) (a : Option Addr) (ca : Nat) (zs : List Int) (s : Nat) (ha : Rd w g a .u32 zs) (hz : Lmb zs) (hn : zs.length ≤ 4096) (hs : s ≤ 31) :
    Calls Try.prog 88 #[.slice a zs.length ca, .int .i64 s] w fun e w' => ∃ ys : List Int, e = .returned (.slice (some ⟨w.heap.size, 0, none⟩) (zs.length + 1) (zs.length + 1)) ∧ ys.length = zs.length + 1 ∧ Lmb ys ∧ lval ys = lval zs * 2 ^ s ∧ Blk w' w.heap.size .u32 ys ∧ Below w.heap.size w w' := by
  obtain ⟨i0, hi, hz0, hz1, hz2⟩ := info_parts Try.info69
  have p := p2_pos s
  have p2 := p2_le hs
  go_enter Try.func88, Try.ntmps88
  go_wp2_with (at_make; refine wpList_make_full _ rfl _ _ 48 rfl w.heap.size 69 i0 (.int .u32 0) 1 Try.underlying48 hi hz0 hz1 .i64 .i64 _ _ (zs.length + 1) rfl rfl (by omega) (by omega) (by rw [hz2]; omega) (by unfold maxLen; omega) (Nat.le_refl _) ?_; intro w1 hown hgrow)
  have hB0 := Blk.of_made hown
  have hN0 : Below w.heap.size w w1 := (Below.refl _ _).grown hgrow (Nat.le_refl _) (by simp)
  clear hown hgrow
  go_loopw [6, 14] (fun q i wr => ∃ (k : Nat) (c : Int) (ys : List Int), k ≤ zs.length ∧ i = .int .i64 k ∧ q = .int .u64 c ∧ ShlTo zs ys (2 ^ s) k c ∧ Blk wr w.heap.size .u32 ys ∧ Below w.heap.size w wr) (fun _ i _ => zs.length - (intOf i).toNat)
  case atStart => exact ⟨0, 0, _, Nat.zero_le _, rfl, rfl, ⟨by simp, lmb_zeros _, ⟨by omega, by omega⟩, by simp [llo]⟩, hB0, hN0⟩
  case round =>
    obtain ⟨k, c, ys, hk, rfl, rfl, hA, hB, hN⟩ := hrel
    have hcb := hA.2.2.1
    have hyl := hA.1
    by_cases hlt : k < zs.length
    · obtain ⟨off, rfl, hc⟩ := ha (by omega)
      have R := hide (hA.step hz hlt (by omega))
      have zb := hz k
      have c1 : wr.cell? ⟨g, off + k, none⟩ = some (.int .u32 (zs.getD k 0)) := (hN.cell (p := ⟨g, off + k, none⟩) (ha.lt (by omega))).trans (hc k hlt)
      have c2 : wr.cell? ⟨w.heap.size, k, none⟩ = some (.int .u32 (ys.getD k 0)) := hB.cell (by omega)
      have f2 := hB.free k
      have S := hB.store k ((c + zs.getD k 0 * 2 ^ s) % 4294967296)
      have Sn : Below w.heap.size w (wr.setCell ⟨w.heap.size, k, none⟩ (.int .u32 ((c + zs.getD k 0 * 2 ^ s) % 4294967296))) := hN.setCell (Nat.le_refl _) _
      have m0 : 0 ≤ zs.getD k 0 * 2 ^ s := Int.mul_nonneg zb.1 (by omega)
      have m1 : zs.getD k 0 * 2 ^ s ≤ 4294967295 * 2147483648 := Int.le_trans (Int.mul_le_mul_of_nonneg_right (show zs.getD k 0 ≤ 4294967295 by omega) (by omega)) (Int.mul_le_mul_of_nonneg_left p2 (by decide))
      have e1 := or_low c (zs.getD k 0) s hs hcb.1 hcb.2 zb.1 zb.2
      generalize zs.getD k 0 = z at *
      clear hA hB hN hc hyl hcb
      go_wp2
      go_roundw
      case rel => exact ⟨k + 1, _, _, by omega, by go_num, rfl, R.out, S, Sn⟩
      case measure => simp [intOf]; omega
    · obtain rfl : k = zs.length := by omega
      have D := hide (hA.done (by omega))
      have c2 : wr.cell? ⟨w.heap.size, zs.length, none⟩ = some (.int .u32 (ys.getD zs.length 0)) := hB.cell (by omega)
      have f2 := hB.free zs.length
      have S := hB.store zs.length c
      have Sn : Below w.heap.size w (wr.setCell ⟨w.heap.size, zs.length, none⟩ (.int .u32 c)) := hN.setCell (Nat.le_refl _) _
      have m1 : c % 4294967296 = c := by omega
      have L := hide hyl
      clear hA hB hN hyl
      go_wp2
      go_ret
      exact ⟨ys.set zs.length c, rfl, by rw [List.length_set]; exact L.out, D.out.2, D.out.1, S, Sn⟩

set_option maxHeartbeats 2000000 in
theorem shiftRight_any (w : World) (g : Nat) (a : Option Addr) (ca : Nat) (zs : List Int) (s : Nat) (ha : Rd w g a .u32 zs) (hz : Lmb zs) (hn : zs.length ≤ 4096) (hs : s ≤ 31) :
    Calls Try.prog 90 #[.slice a zs.length ca, .int .i64 s] w fun e w' => ∃ ys : List Int, e = .returned (.slice (some ⟨w.heap.size, 0, none⟩) zs.length zs.length) ∧ ys.length = zs.length ∧ Lmb ys ∧ lval ys = lval zs / 2 ^ s ∧ Blk w' w.heap.size .u32 ys ∧ Below w.heap.size w w' := by
  obtain ⟨i0, hi, hz0, hz1, hz2⟩ := info_parts Try.info69
  have p := p2_pos s
  have p2 := p2_le hs
  have hBC : (4294967296 : Int) = 2 ^ s * 2 ^ (32 - s) := by rw [← Int.pow_add, show s + (32 - s) = 32 by omega]; rfl
  have HBC := hide hBC
  clear hBC
  go_enter Try.func90, Try.ntmps90
  go_wp2_with (at_make; refine wpList_make_full _ rfl _ _ 48 rfl w.heap.size 69 i0 (.int .u32 0) 1 Try.underlying48 hi hz0 hz1 .i64 .i64 _ _ zs.length rfl rfl rfl rfl (by rw [hz2]; omega) (by unfold maxLen; omega) (Nat.le_refl _) ?_; intro w1 hown hgrow)
  have hB0 := Blk.of_made hown
  have hN0 : Below w.heap.size w w1 := (Below.refl _ _).grown hgrow (Nat.le_refl _) (by simp)
  clear hown hgrow
  go_loopw [6, 7] (fun q i wr => ∃ (t : Int) (ys : List Int), i = .int .i64 t ∧ q = .int .u64 (zs.getD (t + 1).toNat 0) ∧ -1 ≤ t ∧ t < (zs.length : Int) ∧ ShrTo zs ys (2 ^ s) (t + 1).toNat ∧ Blk wr w.heap.size .u32 ys ∧ Below w.heap.size w wr) (fun _ i _ => (intOf i + 1).toNat)
  case atStart =>
    refine ⟨(zs.length : Int) - 1, _, rfl, ?_, by omega, by omega, ⟨by simp, lmb_zeros _, ?_⟩, hB0, hN0⟩
    · rw [show ((zs.length : Int) - 1 + 1).toNat = zs.length by omega, List.getD_eq_getElem?_getD, List.getElem?_eq_none (Nat.le_refl _)]
      rfl
    · rw [lhi_past _ _ (by simp), lhi_past _ _ (by omega)]
      simp
  case round =>
    obtain ⟨t, ys, rfl, rfl, ht0, ht1, hA, hB, hN⟩ := hrel
    by_cases ht : 0 ≤ t
    · obtain ⟨j, rfl⟩ := Int.eq_ofNat_of_zero_le ht
      have hj : j < zs.length := by omega
      rw [show ((j : Int) + 1).toNat = j + 1 by omega] at hA ⊢
      obtain ⟨off, rfl, hc⟩ := ha (by omega)
      have R := hide (hA.step hz hj HBC.out p)
      have hyl := hA.1
      have zb := hz j
      have yb := hz (j + 1)
      have c1 : wr.cell? ⟨g, off + j, none⟩ = some (.int .u32 (zs.getD j 0)) := (hN.cell (p := ⟨g, off + j, none⟩) (ha.lt (by omega))).trans (hc j hj)
      have c2 : wr.cell? ⟨w.heap.size, j, none⟩ = some (.int .u32 (ys.getD j 0)) := hB.cell (by omega)
      have f2 := hB.free j
      have S := hB.store j ((zs.getD (j + 1) 0 * 4294967296 + zs.getD j 0) / 2 ^ s % 4294967296)
      have Sn : Below w.heap.size w (wr.setCell ⟨w.heap.size, j, none⟩ (.int .u32 ((zs.getD (j + 1) 0 * 4294967296 + zs.getD j 0) / 2 ^ s % 4294967296))) := hN.setCell (Nat.le_refl _) _
      have e1 := or64 (zs.getD (j + 1) 0) (zs.getD j 0) yb.1 yb.2 zb.1 zb.2
      have c3 : ∀ v, (wr.setCell ⟨w.heap.size, j, none⟩ v).cell? ⟨g, off + j, none⟩ = some (.int .u32 (zs.getD j 0)) := fun v => by
        rw [World.cell?_of_block (a := ⟨g, off + j, none⟩) (heap_setCell_other wr ⟨w.heap.size, j, none⟩ g v (by have := ha.lt (by omega); show g ≠ w.heap.size; omega))]
        exact c1
      have Hz : Hid (zs.getD ((j : Int) - 1 + 1).toNat 0 = zs.getD j 0) := by show _ = _; rw [show ((j : Int) - 1 + 1).toNat = j by omega]
      generalize hy : zs.getD (j + 1) 0 = y at *
      generalize hx : zs.getD j 0 = z at *
      clear hA hB hN hc hyl hy hx
      have d1 : (j : Int) < (zs.length : Int) := by omega
      go_wp2
      go_roundw
      case rel => exact ⟨(j : Int) - 1, _, rfl, by rw [Hz.out], by omega, by omega, by rw [show ((j : Int) - 1 + 1).toNat = j by omega]; exact R.out, S, Sn⟩
      case measure => simp [intOf]
    · obtain rfl : t = -1 := by omega
      have D := hide (ShrTo.done hA)
      have L := hide hA.1
      have hl := hA.2.1
      clear hA
      go_wp2
      go_ret
      exact ⟨rfl, ys, L.out, hl, D.out, hB, hN⟩
end Go.Proofs.Ythdjopkmlcdoeaa
