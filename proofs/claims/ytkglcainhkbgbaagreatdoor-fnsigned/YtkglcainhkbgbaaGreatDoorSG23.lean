import Derived.Test.YtkglcainhkbgbaaGreatDoorSG22
namespace Go.Proofs.YtkglcainhkbgbaaGreatDoor
set_option maxRecDepth 100000
open Go.RowKit
set_option maxHeartbeats 4000000 in
set_option maxRecDepth 100000 in
theorem wordsBytes_any (w : World) (W : Nat → Int) (hW : W4 W) :
    Calls Tryz.prog 50 #[ag4 W] w fun e w' => e = .returned (.slice (some ⟨w.heap.size + 1, 0, none⟩) 32 32) ∧ Blk w' (w.heap.size + 1) .u8 (fill (byt (wval W)) 32) ∧ Below w.heap.size w w' := by
  obtain ⟨i0, hi, hz0, hz1, hz2⟩ := info_parts Tryz.info5
  have hal : Below w.heap.size w (w.alloc (.cells #[.int .u64 (W 0), .int .u64 (W 1), .int .u64 (W 2), .int .u64 (W 3)] 40)) := (Below.refl _ _).alloc (Nat.le_refl _) _
  have T0 := blk_box4 w .u64 40 (W 0) (W 1) (W 2) (W 3)
  have sz0 : (w.alloc (.cells #[.int .u64 (W 0), .int .u64 (W 1), .int .u64 (W 2), .int .u64 (W 3)] 40)).heap.size = w.heap.size + 1 := by simp
  simp only [ag4]
  go_enter Tryz.func50, Tryz.ntmps50
  go_wp2_with (at_make; refine wpList_make_full _ rfl _ _ 22 rfl (w.heap.size + 1) 5 i0 (.int .u8 0) 1 Tryz.underlying22 hi hz0 hz1 .i64 .i64 _ _ 32 rfl rfl rfl rfl (by rw [hz2]; omega) (by unfold maxLen; omega) (by rw [sz0]; exact Nat.le_refl _) ?_; intro w1 hown hgrow)
  have hB0 := Blk.of_made hown
  rw [sz0] at hB0
  have hN1 : Below (w.heap.size + 1) (w.alloc (.cells #[.int .u64 (W 0), .int .u64 (W 1), .int .u64 (W 2), .int .u64 (W 3)] 40)) w1 := by
    have h := (Below.refl _ _).grown hgrow (Nat.le_refl _) (by simp)
    rw [sz0] at h
    exact h
  have T1 := T0.of_block (hN1.block w.heap.size (by omega))
  have N1 : Below w.heap.size w w1 := hal.trans (hN1.mono (by omega))
  clear hown hgrow T0 hN1 hal sz0
  go_loopw [8] (fun i wr => ∃ (k : Nat) (ys : List Int), k ≤ 32 ∧ i = .int .i64 k ∧ FillTo (byt (wval W)) ys 32 k ∧ Blk wr w.heap.size .u64 [W 0, W 1, W 2, W 3] ∧ Blk wr (w.heap.size + 1) .u8 ys ∧ Below w.heap.size w wr) (fun i _ => 32 - (intOf i).toNat)
  case atStart => exact ⟨0, _, by omega, rfl, ⟨by simp, fun j hj => absurd hj (by omega)⟩, T1, hB0, N1⟩
  case round =>
    clear T1 hB0 N1
    obtain ⟨k, ys, hk, rfl, hF, hT, hB, hN⟩ := hrel
    by_cases hlt : k < 32
    · have hwb := word_byte hW k hlt
      have hst := hF.step hlt
      obtain ⟨q, hq⟩ : ∃ q : Nat, k / 8 = q := ⟨_, rfl⟩
      rw [hq] at hwb
      have hq4 : q < 4 := by omega
      have hz := hW q hq4
      have hcx : wr.cell? ⟨w.heap.size, q, none⟩ = some (.int .u64 (W q)) := by
        rw [hT.cell hq4]
        obtain rfl | rfl | rfl | rfl : q = 0 ∨ q = 1 ∨ q = 2 ∨ q = 3 := by omega
        all_goals rfl
      have hcy := hB.cell (i := k) (by rw [hF.1]; exact hlt)
      have hfy := hB.free k
      have q1 : (k : Int) / 8 = (q : Int) := by omega
      have q2 : (q : Int) < 4 := by omega
      have k2 : (k : Int) < 32 := by omega
      have S := hB.store k (byt (wval W) k)
      have S0 := hT.of_block (w' := wr.setCell ⟨w.heap.size + 1, k, none⟩ (.int .u8 (byt (wval W) k))) (heap_setCell_other wr ⟨w.heap.size + 1, k, none⟩ w.heap.size _ (by show w.heap.size ≠ w.heap.size + 1; omega))
      have Sn : Below w.heap.size w (wr.setCell ⟨w.heap.size + 1, k, none⟩ (.int .u8 (byt (wval W) k))) := hN.setCell (by show w.heap.size ≤ w.heap.size + 1; omega) _
      generalize byt (wval W) k = b at *
      have hS0 := hide S0
      generalize W q = z at *
      clear hT hB hN hF S0
      rcases (show k % 8 = 0 ∨ k % 8 = 1 ∨ k % 8 = 2 ∨ k % 8 = 3 ∨ k % 8 = 4 ∨ k % 8 = 5 ∨ k % 8 = 6 ∨ k % 8 = 7 by omega) with h4 | h4 | h4 | h4 | h4 | h4 | h4 | h4
      · have r1 : (k : Int) % 8 = 0 := by omega
        rw [h4] at hwb
        have e' : z % 256 = b := by simpa using hwb
        clear hwb
        go_wp2
        go_roundw
        case rel => exact ⟨k + 1, _, by omega, by go_num, hst, hS0.out, S, Sn⟩
        case measure => simp [intOf]; omega
      · have r1 : (k : Int) % 8 = 1 := by omega
        rw [h4] at hwb
        have e' : z / 256 % 256 = b := by simpa using hwb
        clear hwb
        go_wp2
        go_roundw
        case rel => exact ⟨k + 1, _, by omega, by go_num, hst, hS0.out, S, Sn⟩
        case measure => simp [intOf]; omega
      · have r1 : (k : Int) % 8 = 2 := by omega
        rw [h4] at hwb
        have e' : z / 65536 % 256 = b := by simpa using hwb
        clear hwb
        go_wp2
        go_roundw
        case rel => exact ⟨k + 1, _, by omega, by go_num, hst, hS0.out, S, Sn⟩
        case measure => simp [intOf]; omega
      · have r1 : (k : Int) % 8 = 3 := by omega
        rw [h4] at hwb
        have e' : z / 16777216 % 256 = b := by simpa using hwb
        clear hwb
        go_wp2
        go_roundw
        case rel => exact ⟨k + 1, _, by omega, by go_num, hst, hS0.out, S, Sn⟩
        case measure => simp [intOf]; omega
      · have r1 : (k : Int) % 8 = 4 := by omega
        rw [h4] at hwb
        have e' : z / 4294967296 % 256 = b := by simpa using hwb
        clear hwb
        go_wp2
        go_roundw
        case rel => exact ⟨k + 1, _, by omega, by go_num, hst, hS0.out, S, Sn⟩
        case measure => simp [intOf]; omega
      · have r1 : (k : Int) % 8 = 5 := by omega
        rw [h4] at hwb
        have e' : z / 1099511627776 % 256 = b := by simpa using hwb
        clear hwb
        go_wp2
        go_roundw
        case rel => exact ⟨k + 1, _, by omega, by go_num, hst, hS0.out, S, Sn⟩
        case measure => simp [intOf]; omega
      · have r1 : (k : Int) % 8 = 6 := by omega
        rw [h4] at hwb
        have e' : z / 281474976710656 % 256 = b := by simpa using hwb
        clear hwb
        go_wp2
        go_roundw
        case rel => exact ⟨k + 1, _, by omega, by go_num, hst, hS0.out, S, Sn⟩
        case measure => simp [intOf]; omega
      · have r1 : (k : Int) % 8 = 7 := by omega
        rw [h4] at hwb
        have e'' : z / 72057594037927936 % 256 = b := by simpa using hwb
        have e' : z / 72057594037927936 = b := by omega
        clear e''
        clear hwb
        go_wp2
        go_roundw
        case rel => exact ⟨k + 1, _, by omega, by go_num, hst, hS0.out, S, Sn⟩
        case measure => simp [intOf]; omega
    · obtain rfl : k = 32 := by omega
      go_wp2
      go_ret
      refine ⟨rfl, ?_, hN⟩
      rw [← hF.all]
      exact hB
end Go.Proofs.YtkglcainhkbgbaaGreatDoor
