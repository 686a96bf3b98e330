
/-
  The program's word sizes and paddings (written by gens/pdi.py).
-/
import Derived.Test.YtnfciobpfiibcaaDoorHelp
import Derived.Test.YtnfciobpfiibcaaDoorPdN
import Derived.Test.YtnfciobpfiibcaaDoorApd
namespace Go.Proofs.YtnfciobpfiibcaaDoor
set_option maxRecDepth 100000
open Go.RowKit

theorem p256_two (k : Nat) : (256 : Int) ^ k = 2 ^ (8 * k) := by rw [Int.pow_mul]; rfl

set_option maxRecDepth 20000 in
set_option maxHeartbeats 1000000 in
theorem len64_32 (w : World) : Calls Tryd.prog 107 #[.int .u64 4294967295] w fun e w' => e = .returned (.int .i64 32) ∧ w' = w := by
  go_enter Tryd.func107, Tryd.ntmps107
  go_wp2
  go_ret
  exact ⟨by kernel_rfl, rfl⟩
set_option maxHeartbeats 1000000 in
theorem wordBits_32 (w : World) : Calls Tryd.prog 96 #[] w fun e w' => e = .returned (.int .i64 32) ∧ w' = w := by
  go_enter Tryd.func96, Tryd.ntmps96
  go_wp2_with fail
  refine (len64_32 w).mono ?_
  rintro r w1 ⟨rfl, rfl⟩
  go_wp2
  go_ret
  exact ⟨rfl, rfl⟩
theorem wordSize_32 (w : World) : Calls Tryd.prog 97 #[] w fun e w' => e = .returned (.int .i64 4) ∧ w' = w := by
  go_enter Tryd.func97, Tryd.ntmps97
  go_wp2_with fail
  refine (wordBits_32 w).mono ?_
  rintro r w1 ⟨rfl, rfl⟩
  go_wp2
  go_ret
  exact ⟨rfl, rfl⟩
theorem blockSize_32 (w : World) : Calls Tryd.prog 83 #[] w fun e w' => e = .returned (.int .i64 64) ∧ w' = w := by
  go_enter Tryd.func83, Tryd.ntmps83
  go_wp2_with fail
  refine (wordSize_32 w).mono ?_
  rintro r w1 ⟨rfl, rfl⟩
  go_wp2
  go_ret
  exact ⟨rfl, rfl⟩

set_option maxHeartbeats 4000000 in
theorem padding_32 (w : World) (n : Int) (h0 : 0 ≤ n) (h1 : n ≤ 1099511627776) :
    Calls Tryd.prog 87 #[.int .i64 n] w fun e w' => NewRow w.heap.size w' e .u8 (padL n 64 8) ∧ Below w.heap.size w w' := by
  obtain ⟨i0, hi, hz0, hz1, hz2⟩ := info_parts Tryd.info5
  have PS := padS_32 n
  have PL : padS n 64 8 = (padL n 64 8).length := (padL_len n 64 8).symm
  have PA := fun ys => hide (fun h => PadTo.all (n := n) (B := 64) (t := 8) (ys := ys) h0 h1 (by decide) h)
  have S1 : 9 ≤ padS n 64 8 ∧ padS n 64 8 ≤ 256 := by have := padZ_lt n (B := 64) (t := 8) (by decide); unfold padS; omega
  have T : decide (64 - n % 64 < 9) = true ∧ 64 - n % 64 + 64 = (padS n 64 8 : Int) ∨ decide (64 - n % 64 < 9) = false ∧ 64 - n % 64 = (padS n 64 8 : Int) := by
    rw [PS]
    split
    · left; simp_all
    · right; simp_all
  generalize padL n 64 8 = pl at *
  generalize padS n 64 8 = s at *
  clear PS
  have KL := hide PL
  clear PL
  have z0 : 0 ≤ n % 64 ∧ n % 64 < 64 := by omega
  rcases T with ⟨t1, t2⟩ | ⟨t1, t2⟩
  · go_enter Tryd.func87, Tryd.ntmps87
    go_wp2_with fail
    refine (blockSize_32 w).mono ?_
    rintro r w1 ⟨rfl, rfl⟩
    go_wp2_with fail
    refine (blockSize_32 w1).mono ?_
    rintro r w2 ⟨rfl, rfl⟩
    go_wp2_with fail
    refine (wordSize_32 w2).mono ?_
    rintro r w3 ⟨rfl, rfl⟩
    go_wp2_with fail
    refine (blockSize_32 w3).mono ?_
    rintro r w4 ⟨rfl, rfl⟩
    go_wp2_with (at_make; refine wpList_make_full _ rfl _ _ 22 rfl w4.heap.size 5 i0 (.int .u8 0) 1 Tryd.underlying22 hi hz0 hz1 .i64 .i64 _ _ s rfl rfl rfl rfl (by rw [hz2]; omega) (by unfold maxLen; omega) (Nat.le_refl _) ?_; intro w5 hown hgrow; have hB0 := Blk.of_made hown; have h00 := hB0.cell (i := 0) (by simp; omega); generalize (List.replicate s (0 : Int)).getD 0 0 = y0 at h00; have f00 := hB0.free 0; have s0 : (0 : Int) < (s : Int) := by omega)
    have hN0 : Below w4.heap.size w4 w5 := (Below.refl _ _).grown hgrow (Nat.le_refl _) (by simp)
    have hB1 := hB0.store 0 128
    have hN1 : Below w4.heap.size w4 (w5.setCell ⟨w4.heap.size, 0, none⟩ (.int .u8 128)) := hN0.setCell (Nat.le_refl _) _
    have P0 := PadTo.zero n s (by omega)
    clear hown hgrow hB0 hN0
    go_loopw [23] (fun i wr => ∃ (k : Nat) (ys : List Int), k ≤ 8 ∧ i = .int .i64 k ∧ PadTo n s ys k ∧ Blk wr w4.heap.size .u8 ys ∧ Below w4.heap.size w4 wr) (fun i _ => 8 - (intOf i).toNat)
    case atStart => exact ⟨0, _, Nat.zero_le _, rfl, P0, hB1, hN1⟩
    case round =>
      obtain ⟨k, ys, hk, rfl, hT, hB, hN⟩ := hrel
      by_cases hlt : k < 8
      · have R := hT.step (by omega)
        rw [p256_two k] at R
        obtain ⟨p, hp⟩ : ∃ p : Nat, s - 1 - k = p := ⟨_, rfl⟩
        rw [hp] at R
        have hl : p < ys.length := by rw [hT.1]; omega
        have p1 : (s : Int) - 1 - (k : Int) = (p : Int) := by omega
        have p2 : (p : Int) < (s : Int) := by omega
        have hcy := hB.cell hl
        have hfy := hB.free p
        have hB' := hB.store p (8 * n / 2 ^ (8 * k) % 256)
        have hN' : Below w4.heap.size w4 (wr.setCell ⟨w4.heap.size, p, none⟩ (.int .u8 (8 * n / 2 ^ (8 * k) % 256))) := hN.setCell (Nat.le_refl _) _
        clear hB hN hT
        go_wp2
        go_roundw
        case rel => exact ⟨k + 1, _, by omega, by go_num, R, hB', hN'⟩
        case measure => simp [intOf]; omega
      · obtain rfl : k = 8 := by omega
        have K := hide ((PA ys).out hT)
        have LS := hide hT.1
        clear hT PA
        go_wp2
        go_ret
        refine ⟨⟨_, s, w4.heap.size, by rw [KL.out]; rfl, ?_, by simp, by rw [← KL.out]; exact Nat.le_refl _, Nat.le_refl _⟩, hN⟩
        rw [← K.out]
        exact hB.own0
  · go_enter Tryd.func87, Tryd.ntmps87
    go_wp2_with fail
    refine (blockSize_32 w).mono ?_
    rintro r w1 ⟨rfl, rfl⟩
    go_wp2_with fail
    refine (blockSize_32 w1).mono ?_
    rintro r w2 ⟨rfl, rfl⟩
    go_wp2_with fail
    refine (wordSize_32 w2).mono ?_
    rintro r w3 ⟨rfl, rfl⟩
    go_wp2_with (at_make; refine wpList_make_full _ rfl _ _ 22 rfl w3.heap.size 5 i0 (.int .u8 0) 1 Tryd.underlying22 hi hz0 hz1 .i64 .i64 _ _ s rfl rfl rfl rfl (by rw [hz2]; omega) (by unfold maxLen; omega) (Nat.le_refl _) ?_; intro w5 hown hgrow; have hB0 := Blk.of_made hown; have h00 := hB0.cell (i := 0) (by simp; omega); generalize (List.replicate s (0 : Int)).getD 0 0 = y0 at h00; have f00 := hB0.free 0; have s0 : (0 : Int) < (s : Int) := by omega)
    have hN0 : Below w3.heap.size w3 w5 := (Below.refl _ _).grown hgrow (Nat.le_refl _) (by simp)
    have hB1 := hB0.store 0 128
    have hN1 : Below w3.heap.size w3 (w5.setCell ⟨w3.heap.size, 0, none⟩ (.int .u8 128)) := hN0.setCell (Nat.le_refl _) _
    have P0 := PadTo.zero n s (by omega)
    clear hown hgrow hB0 hN0
    go_loopw [23] (fun i wr => ∃ (k : Nat) (ys : List Int), k ≤ 8 ∧ i = .int .i64 k ∧ PadTo n s ys k ∧ Blk wr w3.heap.size .u8 ys ∧ Below w3.heap.size w3 wr) (fun i _ => 8 - (intOf i).toNat)
    case atStart => exact ⟨0, _, Nat.zero_le _, rfl, P0, hB1, hN1⟩
    case round =>
      obtain ⟨k, ys, hk, rfl, hT, hB, hN⟩ := hrel
      by_cases hlt : k < 8
      · have R := hT.step (by omega)
        rw [p256_two k] at R
        obtain ⟨p, hp⟩ : ∃ p : Nat, s - 1 - k = p := ⟨_, rfl⟩
        rw [hp] at R
        have hl : p < ys.length := by rw [hT.1]; omega
        have p1 : (s : Int) - 1 - (k : Int) = (p : Int) := by omega
        have p2 : (p : Int) < (s : Int) := by omega
        have hcy := hB.cell hl
        have hfy := hB.free p
        have hB' := hB.store p (8 * n / 2 ^ (8 * k) % 256)
        have hN' : Below w3.heap.size w3 (wr.setCell ⟨w3.heap.size, p, none⟩ (.int .u8 (8 * n / 2 ^ (8 * k) % 256))) := hN.setCell (Nat.le_refl _) _
        clear hB hN hT
        go_wp2
        go_roundw
        case rel => exact ⟨k + 1, _, by omega, by go_num, R, hB', hN'⟩
        case measure => simp [intOf]; omega
      · obtain rfl : k = 8 := by omega
        have K := hide ((PA ys).out hT)
        have LS := hide hT.1
        clear hT PA
        go_wp2
        go_ret
        refine ⟨⟨_, s, w3.heap.size, by rw [KL.out]; rfl, ?_, by simp, by rw [← KL.out]; exact Nat.le_refl _, Nat.le_refl _⟩, hN⟩
        rw [← K.out]
        exact hB.own0

set_option maxRecDepth 20000 in
set_option maxHeartbeats 1000000 in
theorem len64_64 (w : World) : Calls Tryd.prog 107 #[.int .u64 18446744073709551615] w fun e w' => e = .returned (.int .i64 64) ∧ w' = w := by
  go_enter Tryd.func107, Tryd.ntmps107
  go_wp2
  go_ret
  exact ⟨by kernel_rfl, rfl⟩
end Go.Proofs.YtnfciobpfiibcaaDoor
