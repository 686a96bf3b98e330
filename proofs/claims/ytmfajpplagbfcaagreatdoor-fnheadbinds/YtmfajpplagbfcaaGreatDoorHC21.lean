import Derived.Test.YtmfajpplagbfcaaGreatDoorHC20
import Derived.BigRegion
import Derived.Test.YtmfajpplagbfcaaGreatDoorHC8
namespace Go.Proofs.YtmfajpplagbfcaaGreatDoor
set_option maxRecDepth 100000
open Go Go.RowKit
set_option maxHeartbeats 4000000 in
theorem fillWords_32 (w : World) (q off n cw : Nat) (hZ : Seg w q off .u32 (List.replicate n 0)) (g : Nat) (a : Option Addr) (c : Nat) (xs : List Int) (hr : Rd w g a .u8 xs) (hb : Byt xs) (hl : xs.length = 4 * n) (h0 : 0 < n) (hn : n ≤ 16) (hg : g ≠ q) :
    Calls Tryz.prog 92 #[.slice (some ⟨q, off, none⟩) n cw, .slice a xs.length c] w fun e w' => e = .returned (.tuple #[]) ∧ ∃ ys, (ys.length = n ∧ ∀ j, j < n → ys.getD j 0 = wd 4 xs j) ∧ Seg w' q off .u32 ys ∧ SegX q off n w w' := by
  obtain ⟨o2, rfl, hc⟩ := hr (by omega)
  rw [hl]
  have HL := hide hl
  clear hl
  go_enter Tryz.func92, Tryz.ntmps92
  go_wp2_with fail
  refine (wordSize_32 w).mono ?_
  rintro r w1 ⟨rfl, rfl⟩
  go_wp2
  go_loopw [10] (fun i wr => ∃ (j : Nat) (ys : List Int), j ≤ 4 * n ∧ i = .int .i64 j ∧ FilW 4 xs n ys j ∧ Seg wr q off .u32 ys ∧ SegX q off n w1 wr) (fun i _ => 4 * n - (intOf i).toNat)
  case atStart => exact ⟨0, _, Nat.zero_le _, rfl, FilW.zero 4 xs n, hZ, SegX.refl _ _ _ _⟩
  case round =>
    obtain ⟨j, ys, hj, rfl, hF, hS, hX⟩ := hrel
    by_cases hlt : j < 4 * n
    · have cx : wr.cell? ⟨g, o2 + j, none⟩ = some (.int .u8 (xs.getD j 0)) := by
        rw [World.cell?_of_block (a := ⟨g, o2 + j, none⟩) (hX.only.block g hg)]
        exact hc j (by rw [HL.out]; exact hlt)
      have hp : j / 4 < n := by omega
      have R := hF.step (by decide)
      have hh := hF.here hp
      have hs := hS (j / 4) (by rw [hF.1]; exact hp)
      rw [hh] at hs
      have xb := hb j
      have bl := bw_lt (z := 4) hb (j / 4) (j % 4)
      have bl2 : bw 4 xs (j / 4) (j % 4) < 16777216 := by
        have : (256 : Int) ^ (j % 4) ≤ 256 ^ (4 - 1) := p256_leh (by omega)
        have e : (256 : Int) ^ (4 - 1) = 16777216 := by decide
        omega
      have ov := orb32 (bw 4 xs (j / 4) (j % 4)) (xs.getD j 0) bl.1 bl2 xb.1 xb.2
      have S' := hS.store (j / 4) (by rw [hF.1]; exact hp) (bw 4 xs (j / 4) (j % 4) * 256 + xs.getD j 0)
      have X' := hX.trans (SegX.set wr q off n (j / 4) hp (.int .u32 (bw 4 xs (j / 4) (j % 4) * 256 + xs.getD j 0)))
      obtain ⟨h1, h2⟩ := hs
      have d1 : (j : Int) / 4 = ((j / 4 : Nat) : Int) := by omega
      have d2 : ((j / 4 : Nat) : Int) < (n : Int) := by omega
      have d3 : (j : Int) < 4 * (n : Int) := by omega
      clear hF hS hX hh bl hp
      generalize j / 4 = p at *
      generalize bw 4 xs p (j % 4) = bv at *
      generalize xs.getD j 0 = x at *
      obtain ⟨x0, x1⟩ := xb
      go_wp2_with fail
      go_region
      go_wp2
      go_roundw
      case rel => exact ⟨j + 1, _, by omega, by go_num, R, S', X'.drew⟩
      case measure => simp [intOf]; omega
    · obtain rfl : j = 4 * n := by omega
      have K := hide (hF.all (by decide))
      clear hF
      go_wp2
      exact bodyPost_end (v := .tuple #[]) (by simp [results, Tryz.results92, go_sem]) rfl ⟨rfl, ys, K.out, hS, hX⟩
theorem info16_32 : (Tryz.prog.info? 123).map (·.size) = some 16 := by kernel_rfl
theorem und16_32 : Tryz.prog.underlying 123 = some (.array 16 71) := by kernel_rfl
set_option maxHeartbeats 4000000 in
theorem readBlock_32 (w : World) (g : Nat) (a : Option Addr) (c : Nat) (xs : List Int) (hr : Rd w g a .u8 xs) (hb : Byt xs) (hl : xs.length = 64) :
    Calls Tryz.prog 78 #[.slice a 64 c] w fun e w' => e = .returned (agw .u32 (wd 4 xs)) ∧ Below w.heap.size w w' := by
  have n0 : Below w.heap.size w (w.alloc (.cells #[.int .u32 0, .int .u32 0, .int .u32 0, .int .u32 0, .int .u32 0, .int .u32 0, .int .u32 0, .int .u32 0, .int .u32 0, .int .u32 0, .int .u32 0, .int .u32 0, .int .u32 0, .int .u32 0, .int .u32 0, .int .u32 0] 123)) := (Below.refl _ _).alloc (Nat.le_refl _) _
  have B0 := blk_agw w .u32 123 (fun _ => 0)
  have z0 : (w.alloc (.cells #[.int .u32 0, .int .u32 0, .int .u32 0, .int .u32 0, .int .u32 0, .int .u32 0, .int .u32 0, .int .u32 0, .int .u32 0, .int .u32 0, .int .u32 0, .int .u32 0, .int .u32 0, .int .u32 0, .int .u32 0, .int .u32 0] 123)).heap.size = w.heap.size + 1 := by simp
  have gl := hr.lt (by omega)
  have HL := hide hl
  go_enter Tryz.func78, Tryz.ntmps78
  go_wp2_with fail
  generalize w.alloc (.cells #[.int .u32 0, .int .u32 0, .int .u32 0, .int .u32 0, .int .u32 0, .int .u32 0, .int .u32 0, .int .u32 0, .int .u32 0, .int .u32 0, .int .u32 0, .int .u32 0, .int .u32 0, .int .u32 0, .int .u32 0, .int .u32 0] 123) = wa at *
  have n1 : Below wa.heap.size wa (wa.alloc (.cells #[.int .u32 0, .int .u32 0, .int .u32 0, .int .u32 0, .int .u32 0, .int .u32 0, .int .u32 0, .int .u32 0, .int .u32 0, .int .u32 0, .int .u32 0, .int .u32 0, .int .u32 0, .int .u32 0, .int .u32 0, .int .u32 0] 123)) := (Below.refl _ _).alloc (Nat.le_refl _) _
  have B1 := blk_agw wa .u32 123 (fun _ => 0)
  have z1 : (wa.alloc (.cells #[.int .u32 0, .int .u32 0, .int .u32 0, .int .u32 0, .int .u32 0, .int .u32 0, .int .u32 0, .int .u32 0, .int .u32 0, .int .u32 0, .int .u32 0, .int .u32 0, .int .u32 0, .int .u32 0, .int .u32 0, .int .u32 0] 123)).heap.size = wa.heap.size + 1 := by simp
  generalize wa.alloc (.cells #[.int .u32 0, .int .u32 0, .int .u32 0, .int .u32 0, .int .u32 0, .int .u32 0, .int .u32 0, .int .u32 0, .int .u32 0, .int .u32 0, .int .u32 0, .int .u32 0, .int .u32 0, .int .u32 0, .int .u32 0, .int .u32 0] 123) = wb at *
  rw [z0] at B1 z1
  have B0 := B0.up n1
  have N1 := nxt n0 n1
  have FW := fillWords_32 wb (w.heap.size + 1) 0 16 16 (Seg.blk B1) g a c xs (hr.up N1) hb HL.out (by decide) (by decide) (by omega)
  rw [HL.out] at FW
  clear n0 n1 hl hr
  have FH := hide FW
  clear FW
  refine FH.out.mono ?_
  rintro r w2 ⟨rfl, ys, ⟨yl, yv⟩, S2, X2⟩
  obtain rfl : ys = lsw (wd 4 xs) := eq_of_getD (by rw [yl, lsw_len]) (fun i hi => by rw [yl] at hi; rw [yv i hi, lsw_get _ _ hi])
  have B0 := B0.of_block (X2.only.block w.heap.size (by omega))
  have N2 : Below w.heap.size w w2 := N1.trans (X2.only.below (by omega))
  have RG := S2.range
  obtain ⟨t0, H0⟩ := B0
  have SR := setRow_heap w2 w.heap.size _ ((lsw (wd 4 xs)).map (Value.int .u32)).toArray _ _ H0
  have SN : Below w.heap.size w (w2.setRow w.heap.size ((lsw (wd 4 xs)).map (Value.int .u32)).toArray) := N2.trans ⟨rfl, rfl, rfl, by simp, fun i hi => setRow_other w2 _ i _ (by omega)⟩
  have V : Hid (agw .u32 (wd 4 xs) = .agg ((lsw (wd 4 xs)).map (Value.int .u32)).toArray) := rfl
  have L : Hid (((lsw (wd 4 xs)).map (Value.int .u32)).length = 16) := by show _ = _; rw [List.length_map]; rfl
  have O := one_ints .u32 (lsw (wd 4 xs))
  generalize (lsw (wd 4 xs)).map (Value.int .u32) = vs at *
  clear FH X2 S2 yl yv N1 N2 B1
  go_wp2_with (first
    | (refine wpList_load_mid rfl 123 (.tmp 3) rfl (w.heap.size + 1) 0 rfl vs (.array 16 71) RG und16_32 rfl (by rw [L.out]; exact info16_32) ?_)
    | (refine wpList_store_row rfl 123 (.tmp 2) (.tmp 7) rfl w.heap.size vs.toArray rfl rfl t0 _ H0 (by rw [List.size_toArray, L.out]; exact info16_32) (by rw [List.size_toArray, List.size_toArray, L.out]; rfl) O ?_))
  exact bodyPost_ret (v := .agg vs.toArray) (results_cell_row Tryz.results78 _ _ w.heap.size t0 vs.toArray (0, 0) (.array 16 71) rfl SR und16_32 rfl (by rw [List.size_toArray, L.out]; exact info16_32)) rfl ⟨by rw [V.out], SN⟩
set_option maxHeartbeats 4000000 in
theorem bytes_32 (w : World) (s : S8) (hs : Ok32 s) :
    Calls Tryz.prog 80 #[ag8 .u32 s] w fun e w' => NewRow w.heap.size w' e .u8 (tell32 s) ∧ Below w.heap.size w w' := by
  obtain ⟨i0, hi, hz0, hz1, hz2⟩ := info_parts Tryz.info5
  have n0 : Below w.heap.size w (w.alloc (.cells #[.int .u32 s.a, .int .u32 s.b, .int .u32 s.c, .int .u32 s.d, .int .u32 s.e, .int .u32 s.f, .int .u32 s.g, .int .u32 s.h] 73)) := (Below.refl _ _).alloc (Nat.le_refl _) _
  have B0 := blk_ag8 w .u32 73 s
  have z0 : (w.alloc (.cells #[.int .u32 s.a, .int .u32 s.b, .int .u32 s.c, .int .u32 s.d, .int .u32 s.e, .int .u32 s.f, .int .u32 s.g, .int .u32 s.h] 73)).heap.size = w.heap.size + 1 := by simp
  have TL := hide (tell_len32 s)
  have TG := fun i h => hide (tell_get32 s i h)
  have SW : ∀ p, p < 8 → Wd32 (s.l.getD p 0) := by
    obtain ⟨h1, h2, h3, h4, h5, h6, h7, h8⟩ := hs
    intro p hp
    obtain rfl | rfl | rfl | rfl | rfl | rfl | rfl | rfl : p = 0 ∨ p = 1 ∨ p = 2 ∨ p = 3 ∨ p = 4 ∨ p = 5 ∨ p = 6 ∨ p = 7 := by omega
    all_goals assumption
  simp only [ag8]
  go_enter Tryz.func80, Tryz.ntmps80
  go_wp2_with fail
  generalize w.alloc (.cells #[.int .u32 s.a, .int .u32 s.b, .int .u32 s.c, .int .u32 s.d, .int .u32 s.e, .int .u32 s.f, .int .u32 s.g, .int .u32 s.h] 73) = wa at *
  refine (wordSize_32 wa).mono ?_
  rintro r wa' ⟨rfl, rfl⟩
  go_wp2_with (at_make; refine wpList_make_full _ rfl _ _ 22 rfl wa'.heap.size 5 i0 (.int .u8 0) 1 Tryz.underlying22 hi hz0 hz1 .i64 .i64 _ _ 32 rfl rfl rfl rfl (by rw [hz2]; decide) (by unfold maxLen; decide) (Nat.le_refl _) ?_; intro w5 hown hgrow)
  have hB0 := Blk.of_made hown
  have hN0 : Below wa'.heap.size wa' w5 := (Below.refl _ _).grown hgrow (Nat.le_refl _) (by simp)
  have B0 := B0.up hN0
  have N := nxt n0 hN0
  rw [z0] at hB0
  have CP : CopyTo (tell32 s) (List.replicate 32 0) 0 := ⟨by rw [TL.out]; simp, fun j h => absurd h (by omega)⟩
  clear hown hgrow hN0 n0
  go_loopw [12] (fun i wr => ∃ (j : Nat) (ys : List Int), j ≤ 32 ∧ i = .int .i64 j ∧ CopyTo (tell32 s) ys j ∧ Blk wr (w.heap.size + 1) .u8 ys ∧ Blk wr w.heap.size .u32 s.l ∧ Below w.heap.size w wr) (fun i _ => 32 - (intOf i).toNat)
  case atStart => exact ⟨0, _, Nat.zero_le _, rfl, CP, hB0, B0, N⟩
  case round =>
    obtain ⟨j, ys, hj, rfl, hC, hY, hS, hN⟩ := hrel
    clear CP hB0 B0 N
    by_cases hlt : j < 32
    · have R := hC.step (by rw [TL.out]; exact hlt)
      have tg := (TG j hlt).out
      have yl : ys.length = 32 := hC.1.trans TL.out
      have cs := hS.cell (i := j / 4) (by rw [S8.l_len]; omega)
      have cy := hY.cell (i := j) (by omega)
      have fy := hY.free j
      have sw := SW (j / 4) (by omega)
      have Y' := hY.store j ((tell32 s).getD j 0)
      have S' := hS.of_block (w' := wr.setCell ⟨w.heap.size + 1, j, none⟩ (.int .u8 ((tell32 s).getD j 0))) (heap_setCell_other _ ⟨w.heap.size + 1, j, none⟩ _ _ (by show w.heap.size ≠ w.heap.size + 1; omega))
      have N' : Below w.heap.size w (wr.setCell ⟨w.heap.size + 1, j, none⟩ (.int .u8 ((tell32 s).getD j 0))) := hN.setCell (by show w.heap.size ≤ w.heap.size + 1; omega) _
      rw [tg] at R Y' S' N'
      have d1 : (j : Int) / 4 = ((j / 4 : Nat) : Int) := by omega
      have d2 : ((j / 4 : Nat) : Int) < 8 := by omega
      have d3 : (j : Int) % 4 = ((j % 4 : Nat) : Int) := by omega
      have d4 : (3 : Int) - ((j % 4 : Nat) : Int) = ((4 - 1 - j % 4 : Nat) : Int) := by omega
      have d5 : 4 - 1 - j % 4 ≤ 3 := by omega
      have d6 : (j : Int) < 32 := by omega
      generalize ys.getD j 0 = y0 at *
      generalize j / 4 = p at *
      generalize s.l.getD p 0 = v at *
      generalize 4 - 1 - j % 4 = sh at *
      generalize j % 4 = rm at *
      obtain ⟨v0, v1⟩ := sw
      clear hC hY hS hN tg TG SW yl
      go_wp2_with fail
      go_region
      go_wp2
      go_roundw
      case rel => exact ⟨j + 1, _, by omega, by go_num, R, Y'.drew, S'.drew, N'.drew⟩
      case measure => simp [intOf]; omega
    · obtain rfl : j = 32 := by omega
      have K := hide (show ys = tell32 s from CopyTo.all (by rw [TL.out]; exact hC))
      clear hC
      go_wp2
      go_ret
      refine ⟨⟨_, 32, w.heap.size + 1, by rw [TL.out]; rfl, ?_, by simp, by rw [TL.out]; exact Nat.le_refl _, by omega⟩, hN⟩
      rw [← K.out]
      exact hY.own0
end Go.Proofs.YtmfajpplagbfcaaGreatDoor
namespace Go.Proofs.YtmfajpplagbfcaaGreatDoor
set_option maxRecDepth 100000
open Go Go.RowKit
theorem infoH_32 : (Tryz.prog.info? 76).map (·.size) = some 137 := by kernel_rfl
set_option maxHeartbeats 4000000 in
theorem restSize_32 (w : World) (L : Int) (C : S8) (R : List Int) (hl : R.length = 128) (h0 : 0 ≤ L) :
    Calls Tryz.prog 76 #[.agg (hcl .u32 L C R).toArray] w fun e w' => e = .returned (.int .i64 (L % 64)) ∧ Below w.heap.size w w' := by
  have n0 : Below w.heap.size w (w.alloc (.cells (hcl .u32 L C R).toArray 76)) := (Below.refl _ _).alloc (Nat.le_refl _) _
  have H0 := HB.alloc .u32 w 76 L C hl
  generalize hv : hcl .u32 L C R = vs at *
  go_enter Tryz.func76, Tryz.ntmps76
  go_wp2_with fail
  generalize w.alloc (.cells vs.toArray 76) = wa at *
  have c0 := H0.c0
  go_quiet ((go_at_call 75; exact Calls.quiet_of_same (blockSize_32 _)))
  go_wp2
  go_ret
  exact ⟨rfl, below_drewN n0 _⟩
theorem undH_32 : (Tryz.prog.underlying 76).map (·.isRow) = some true := by kernel_rfl
abbrev zH32 : Obj := .cells (List.toArray (.int .i64 0 :: .int .u32 0 :: .int .u32 0 :: .int .u32 0 :: .int .u32 0 :: .int .u32 0 :: .int .u32 0 :: .int .u32 0 :: .int .u32 0 :: .int .u8 0 :: .int .u8 0 :: .int .u8 0 :: .int .u8 0 :: .int .u8 0 :: .int .u8 0 :: .int .u8 0 :: .int .u8 0 :: .int .u8 0 :: .int .u8 0 :: .int .u8 0 :: .int .u8 0 :: .int .u8 0 :: .int .u8 0 :: .int .u8 0 :: .int .u8 0 :: .int .u8 0 :: .int .u8 0 :: .int .u8 0 :: .int .u8 0 :: .int .u8 0 :: .int .u8 0 :: .int .u8 0 :: .int .u8 0 :: .int .u8 0 :: .int .u8 0 :: .int .u8 0 :: .int .u8 0 :: .int .u8 0 :: .int .u8 0 :: .int .u8 0 :: .int .u8 0 :: .int .u8 0 :: .int .u8 0 :: .int .u8 0 :: .int .u8 0 :: .int .u8 0 :: .int .u8 0 :: .int .u8 0 :: .int .u8 0 :: .int .u8 0 :: .int .u8 0 :: .int .u8 0 :: .int .u8 0 :: .int .u8 0 :: .int .u8 0 :: .int .u8 0 :: .int .u8 0 :: .int .u8 0 :: .int .u8 0 :: .int .u8 0 :: .int .u8 0 :: .int .u8 0 :: .int .u8 0 :: .int .u8 0 :: .int .u8 0 :: .int .u8 0 :: .int .u8 0 :: .int .u8 0 :: .int .u8 0 :: .int .u8 0 :: .int .u8 0 :: .int .u8 0 :: .int .u8 0 :: .int .u8 0 :: .int .u8 0 :: .int .u8 0 :: .int .u8 0 :: .int .u8 0 :: .int .u8 0 :: .int .u8 0 :: .int .u8 0 :: .int .u8 0 :: .int .u8 0 :: .int .u8 0 :: .int .u8 0 :: .int .u8 0 :: .int .u8 0 :: .int .u8 0 :: .int .u8 0 :: .int .u8 0 :: .int .u8 0 :: .int .u8 0 :: .int .u8 0 :: .int .u8 0 :: .int .u8 0 :: .int .u8 0 :: .int .u8 0 :: .int .u8 0 :: .int .u8 0 :: .int .u8 0 :: .int .u8 0 :: .int .u8 0 :: .int .u8 0 :: .int .u8 0 :: .int .u8 0 :: .int .u8 0 :: .int .u8 0 :: .int .u8 0 :: .int .u8 0 :: .int .u8 0 :: .int .u8 0 :: .int .u8 0 :: .int .u8 0 :: .int .u8 0 :: .int .u8 0 :: .int .u8 0 :: .int .u8 0 :: .int .u8 0 :: .int .u8 0 :: .int .u8 0 :: .int .u8 0 :: .int .u8 0 :: .int .u8 0 :: .int .u8 0 :: .int .u8 0 :: .int .u8 0 :: .int .u8 0 :: .int .u8 0 :: .int .u8 0 :: .int .u8 0 :: .int .u8 0 :: .int .u8 0 :: .int .u8 0 :: .int .u8 0 :: .int .u8 0 :: .int .u8 0 :: .int .u8 0 :: [])) 76
set_option maxRecDepth 20000 in
theorem zeroH_32 : (.int .i64 0 :: .int .u32 0 :: .int .u32 0 :: .int .u32 0 :: .int .u32 0 :: .int .u32 0 :: .int .u32 0 :: .int .u32 0 :: .int .u32 0 :: .int .u8 0 :: .int .u8 0 :: .int .u8 0 :: .int .u8 0 :: .int .u8 0 :: .int .u8 0 :: .int .u8 0 :: .int .u8 0 :: .int .u8 0 :: .int .u8 0 :: .int .u8 0 :: .int .u8 0 :: .int .u8 0 :: .int .u8 0 :: .int .u8 0 :: .int .u8 0 :: .int .u8 0 :: .int .u8 0 :: .int .u8 0 :: .int .u8 0 :: .int .u8 0 :: .int .u8 0 :: .int .u8 0 :: .int .u8 0 :: .int .u8 0 :: .int .u8 0 :: .int .u8 0 :: .int .u8 0 :: .int .u8 0 :: .int .u8 0 :: .int .u8 0 :: .int .u8 0 :: .int .u8 0 :: .int .u8 0 :: .int .u8 0 :: .int .u8 0 :: .int .u8 0 :: .int .u8 0 :: .int .u8 0 :: .int .u8 0 :: .int .u8 0 :: .int .u8 0 :: .int .u8 0 :: .int .u8 0 :: .int .u8 0 :: .int .u8 0 :: .int .u8 0 :: .int .u8 0 :: .int .u8 0 :: .int .u8 0 :: .int .u8 0 :: .int .u8 0 :: .int .u8 0 :: .int .u8 0 :: .int .u8 0 :: .int .u8 0 :: .int .u8 0 :: .int .u8 0 :: .int .u8 0 :: .int .u8 0 :: .int .u8 0 :: .int .u8 0 :: .int .u8 0 :: .int .u8 0 :: .int .u8 0 :: .int .u8 0 :: .int .u8 0 :: .int .u8 0 :: .int .u8 0 :: .int .u8 0 :: .int .u8 0 :: .int .u8 0 :: .int .u8 0 :: .int .u8 0 :: .int .u8 0 :: .int .u8 0 :: .int .u8 0 :: .int .u8 0 :: .int .u8 0 :: .int .u8 0 :: .int .u8 0 :: .int .u8 0 :: .int .u8 0 :: .int .u8 0 :: .int .u8 0 :: .int .u8 0 :: .int .u8 0 :: .int .u8 0 :: .int .u8 0 :: .int .u8 0 :: .int .u8 0 :: .int .u8 0 :: .int .u8 0 :: .int .u8 0 :: .int .u8 0 :: .int .u8 0 :: .int .u8 0 :: .int .u8 0 :: .int .u8 0 :: .int .u8 0 :: .int .u8 0 :: .int .u8 0 :: .int .u8 0 :: .int .u8 0 :: .int .u8 0 :: .int .u8 0 :: .int .u8 0 :: .int .u8 0 :: .int .u8 0 :: .int .u8 0 :: .int .u8 0 :: .int .u8 0 :: .int .u8 0 :: .int .u8 0 :: .int .u8 0 :: .int .u8 0 :: .int .u8 0 :: .int .u8 0 :: .int .u8 0 :: .int .u8 0 :: .int .u8 0 :: .int .u8 0 :: .int .u8 0 :: .int .u8 0 :: .int .u8 0 :: .int .u8 0 :: .int .u8 0 :: .int .u8 0 :: []) = hcl .u32 0 ⟨0, 0, 0, 0, 0, 0, 0, 0⟩ (List.replicate 128 0) := by rw [zero137]; kernel_rfl
theorem HB.zero32 (w : World) : HB .u32 (w.alloc zH32) w.heap.size 0 ⟨0, 0, 0, 0, 0, 0, 0, 0⟩ (List.replicate 128 0) := by
  unfold zH32
  rw [zeroH_32]
  exact HB.alloc _ _ _ _ _ (by simp)
theorem idx8_32 (n : Nat) (hn : n < 8) (W : World) : (Instr.index 118 (.agg #[.int .u64 7640891576956012808, .int .u64 13503953896175478587, .int .u64 4354685564936845355, .int .u64 11912009170470909681, .int .u64 5840696475078001361, .int .u64 11170449401992604703, .int .u64 2270897969802886507, .int .u64 6620516959819538809]) (.int .i64 (n : Int))).run Tryz.prog W = .ok (.int .u64 (stLh.getD n 0)) W := by
  obtain rfl | rfl | rfl | rfl | rfl | rfl | rfl | rfl : n = 0 ∨ n = 1 ∨ n = 2 ∨ n = 3 ∨ n = 4 ∨ n = 5 ∨ n = 6 ∨ n = 7 := by omega
  all_goals kernel_rfl
theorem start_is32 : ∀ n : Fin 8, start32.l.getD n.val 0 = stLh.getD n.val 0 / 4294967296 := by decide +kernel
set_option maxRecDepth 20000 in
set_option maxHeartbeats 8000000 in
theorem newHashing_32 (w : World) (hT : HasT w 0 stLh) :
    Calls Tryz.prog 46 #[] w fun e w' => e = .returned (.agg (hcl .u32 0 start32 (List.replicate 128 0)).toArray) ∧ Below w.heap.size w w' := by
  go_enter Tryz.func46, Tryz.ntmps46
  go_upto_region 1 with fail
  change Code.wp _ _ _ _ (w.alloc zH32)
  have n0 : Below w.heap.size w (w.alloc zH32) := (Below.refl _ _).alloc (Nat.le_refl _) _
  have H0 := HB.zero32 w
  have z0 : (w.alloc zH32).heap.size = w.heap.size + 1 := by simp
  generalize w.alloc zH32 = wa at *
  go_upto_region 2 with fail
  change Code.wp _ _ _ _ (wa.alloc zH32)
  have n1 : Below wa.heap.size wa (wa.alloc zH32) := (Below.refl _ _).alloc (Nat.le_refl _) _
  have H1 := HB.zero32 wa
  have z1 : (wa.alloc zH32).heap.size = wa.heap.size + 1 := by simp
  generalize wa.alloc zH32 = wb at *
  rw [z0] at H1 z1
  have H0 := H0.up n1
  have N := nxt n0 n1
  have hT2 := hT.up N
  have c0 : wb.cell? ⟨0, 0, none⟩ = some (.int .u64 7640891576956012808) := hT2 0 (by decide)
  have c1 : wb.cell? ⟨0, 1, none⟩ = some (.int .u64 13503953896175478587) := hT2 1 (by decide)
  have c2 : wb.cell? ⟨0, 2, none⟩ = some (.int .u64 4354685564936845355) := hT2 2 (by decide)
  have c3 : wb.cell? ⟨0, 3, none⟩ = some (.int .u64 11912009170470909681) := hT2 3 (by decide)
  have c4 : wb.cell? ⟨0, 4, none⟩ = some (.int .u64 5840696475078001361) := hT2 4 (by decide)
  have c5 : wb.cell? ⟨0, 5, none⟩ = some (.int .u64 11170449401992604703) := hT2 5 (by decide)
  have c6 : wb.cell? ⟨0, 6, none⟩ = some (.int .u64 2270897969802886507) := hT2 6 (by decide)
  have c7 : wb.cell? ⟨0, 7, none⟩ = some (.int .u64 6620516959819538809) := hT2 7 (by decide)
  clear n0 n1 hT hT2
  go_wp2_with fail
  have Z1 : Seg wb (w.heap.size + 1) 1 .u32 (List.replicate 8 0) := H1.ch
  go_loopw [5] (fun i wr => ∃ (n : Nat) (ys : List Int), n ≤ 8 ∧ i = .int .i64 n ∧ ys.length = 8 ∧ (∀ j, j < n → ys.getD j 0 = start32.l.getD j 0) ∧ Seg wr (w.heap.size + 1) 1 .u32 ys ∧ SegX (w.heap.size + 1) 1 8 wb wr) (fun i _ => 8 - (intOf i).toNat)
  case atStart => exact ⟨0, _, Nat.zero_le _, rfl, by simp, fun j h => absurd h (by omega), Z1, SegX.refl _ _ _ _⟩
  case round =>
    obtain ⟨n, ys, hn, rfl, hy, hv, hS, hX⟩ := hrel
    clear c0 c1 c2 c3 c4 c5 c6 c7
    by_cases hlt : n < 8
    · have sl := stL_lt ⟨n, hlt⟩
      have si := start_is32 ⟨n, hlt⟩
      have UB : ∀ w, Hid (Calls Tryz.prog 74 #[.int .u64 (stLh.getD n 0)] w fun e w' => e = .returned (.int .u32 (start32.l.getD n 0)) ∧ w' = w) := fun w => by
        show Calls _ _ _ _ _
        rw [si]
        exact upperBits_32 w (stLh.getD n 0) sl.1 sl.2
      have S' := hS.store n (by omega) (start32.l.getD n 0)
      have X' := hX.trans (SegX.set wr (w.heap.size + 1) 1 8 n hlt (.int .u32 (start32.l.getD n 0)))
      have V' : ∀ j, j < n + 1 → (ys.set n (start32.l.getD n 0)).getD j 0 = start32.l.getD j 0 := by
        intro j hj
        by_cases e : n = j
        · subst e
          rw [getD_set_self _ _ _ (by omega)]
        · rw [getD_set_ne _ _ _ _ e]
          exact hv j (by omega)
      have L' : (ys.set n (start32.l.getD n 0)).length = 8 := by rw [List.length_set]; exact hy
      obtain ⟨h1, h2⟩ := hS n (by omega)
      have IX := fun W => idx8_32 n hlt W
      have n8 : (n : Int) < 8 := by omega
      generalize start32.l.getD n 0 = sv at UB S' X' L' V' ⊢
      generalize stLh.getD n 0 = su at UB IX
      have VH := hide V'
      clear hS hX hv sl si hy V'
      generalize ys.getD n 0 = y0 at h1
      go_wp2_with fail
      refine (UB _).out.mono ?_
      rintro x wx ⟨rfl, rfl⟩
      go_wp2
      go_roundw
      case rel => exact ⟨n + 1, _, by omega, by go_num, L', VH.out, S', X'⟩
      case measure => simp [intOf]; omega
    · obtain rfl : n = 8 := by omega
      obtain rfl : ys = start32.l := eq_of_getD (by rw [hy]; rfl) (fun i hi => hv i (by omega))
      have H1' := H1.of_seg hX hS
      have H0' := H0.of_block (hX.only.block w.heap.size (by omega))
      have N' : Below w.heap.size w wr := N.trans (hX.only.below (by omega))
      clear H1 H0 N hX hS hv hy
      have L1 := hcl_len .u32 0 start32 (R := List.replicate 128 0) (by simp)
      have O1 := hcl_one .u32 0 start32 (List.replicate 128 0)
      have RG := H1'.range
      have TH := H0'.there
      have VH : Hid (∀ v, v = hcl .u32 0 start32 (List.replicate 128 0) → v.length = 137 ∧ (wr.setCells w.heap.size 0 v).rangeAt w.heap.size 0 v) := by
        rintro v rfl
        exact ⟨L1, World.rangeAt_setCells_same wr w.heap.size 0 _ (by rw [L1]; exact TH)⟩
      have N2 : ∀ v, Below w.heap.size w (wr.setCells w.heap.size 0 v) := fun v => N'.trans ((only_setCells wr w.heap.size v 0).below (Nat.le_refl _))
      generalize hvs : hcl .u32 0 start32 (List.replicate 128 0) = vs at *
      obtain ⟨d, hd, hrow⟩ : ∃ d, Tryz.prog.underlying 76 = some d ∧ d.isRow = true := by
        have h := undH_32
        cases hq : Tryz.prog.underlying 76 with
        | none => rw [hq] at h; simp at h
        | some d => rw [hq] at h; exact ⟨d, rfl, by simpa using h⟩
      go_wp2_with (first
        | (refine wpList_load_mid rfl 76 (.tmp 1) rfl (w.heap.size + 1) 0 rfl vs d RG hd hrow (by rw [L1]; exact infoH_32) ?_)
        | (refine wpList_store_mid rfl 76 (.tmp 0) (.tmp 15) rfl w.heap.size 0 vs.toArray rfl rfl ?hth ?hin ?hon ?_))
      case hth => show wr.there w.heap.size 0 vs.length; rw [L1]; exact TH
      case hin => show _ = some vs.length; rw [L1]; exact infoH_32
      case hon => exact O1
      obtain ⟨-, RR⟩ := VH.out vs rfl
      exact bodyPost_ret (v := .agg vs.toArray) (results_cell_m Tryz.results46 _ _ w.heap.size vs d rfl RR hd hrow (by rw [L1]; exact infoH_32)) rfl ⟨by rw [hvs], N2 vs⟩
end Go.Proofs.YtmfajpplagbfcaaGreatDoor
namespace Go.Proofs.YtmfajpplagbfcaaGreatDoor
set_option maxRecDepth 100000
open Go Go.RowKit
set_option maxHeartbeats 8000000 in
theorem take_32 (w : World) (q L : Nat) (C : S8) (R : List Int) (hH : HB .u32 w q (L : Int) C R) (hC : Ok32 C) (hR : Byt R) (g : Nat) (a : Option Addr) (c : Nat) (xs : List Int) (hr : Rd w g a .u8 xs) (hx : Byt xs) (hc : xs.length ≤ c)
    (hg : 0 < xs.length → g ≠ q) (hL : L + xs.length ≤ 1152921504606846976) (hT : HasT w 1 kL) (hq : 1 ≠ q) :
    Calls Tryz.prog 47 #[.pointer (some ⟨q, 0, none⟩), .slice a xs.length c] w fun e w' => e = .returned (.tuple #[]) ∧ ∃ R', HB .u32 w' q ((L + xs.length : Nat) : Int) (whole32 C (R.take (L % 64) ++ xs)) R' ∧ Byt R' ∧ R'.take ((L + xs.length) % 64) = left32 (R.take (L % 64) ++ xs) ∧ Bth q w w' := by
  obtain ⟨Lt, hLt⟩ : ∃ n, n = L + xs.length := ⟨_, rfl⟩
  obtain ⟨Wt, hWt⟩ : ∃ s, s = whole32 C (R.take (L % 64) ++ xs) := ⟨_, rfl⟩
  obtain ⟨Lf, hLf⟩ : ∃ l, l = left32 (R.take (L % 64) ++ xs) := ⟨_, rfl⟩
  rw [← hLt, ← hWt, ← hLf]
  rw [← hLt] at hL
  have HLt := hide hLt.symm
  have HWt := hide hWt.symm
  have HLf := hide hLf.symm
  clear hLt hWt hLf
  go_enter Tryz.func47, Tryz.ntmps47
  go_wp2_with fail
  go_quiet ((go_at_call 75; exact Calls.quiet_of_same (blockSize_32 _)))
  go_wp2_with fail
  have B0 : Bth q w (w.drewN nq) := ⟨rfl, rfl, rfl, Nat.le_refl _, fun _ _ _ => rfl⟩
  have H0 : HB .u32 (w.drewN nq) q (L : Int) C R := hH.of_block rfl
  have T0 : HasT (w.drewN nq) 1 kL := hT
  have R0 : Rd (w.drewN nq) g a .u8 xs := hr
  generalize w.drewN nq = w0 at *
  go_loopw [1] (fun v wr => ∃ (L1 c1 : Nat) (C1 : S8) (R1 xs1 : List Int) (a1 : Option Addr), v = .slice a1 xs1.length c1 ∧ HB .u32 wr q (L1 : Int) C1 R1 ∧ Ok32 C1 ∧ Byt R1 ∧ Rd wr g a1 .u8 xs1 ∧ Byt xs1 ∧ xs1.length ≤ c1 ∧ xs1.length ≤ xs.length ∧ Hid (L1 + xs1.length = Lt) ∧ Hid (whole32 C1 (R1.take (L1 % 64) ++ xs1) = Wt) ∧ Hid (left32 (R1.take (L1 % 64) ++ xs1) = Lf) ∧ HasT wr 1 kL ∧ Bth q w wr) (fun v _ => vlen v)
  case atStart => exact ⟨L, c, C, R, xs, a, rfl, H0, hC, hR, R0, hx, hc, Nat.le_refl _, HLt, HWt, HLf, T0, B0⟩
  case round =>
    obtain ⟨L1, c1, C1, R1, xs1, a1, rfl, hH1, hC1, hR1, hr1, hx1, hc1, hle, hL1, hW1, hF1, hT1, hB1⟩ := hrel
    clear H0 R0 T0 B0 hH hC hR hr hx hT HLt HWt HLf
    by_cases hlt : 0 < xs1.length
    · have hgq := hg (by omega)
      obtain ⟨o1, rfl, hcc⟩ := id hr1 hlt
      obtain ⟨r, er⟩ : ∃ r, r = L1 % 64 := ⟨_, rfl⟩
      have rl : r < 64 := by omega
      have rz : (L1 : Int) % 64 = (r : Int) := by omega
      have rl2 : (r : Int) ≤ 64 := by omega
      have ER := hide er
      clear er
      obtain ⟨n1, hn1⟩ : ∃ n, xs1.length = n := ⟨_, rfl⟩
      have l1 : (0 : Int) < (n1 : Int) := by omega
      have RG := hH1.range
      have RS := restSize_32 wr (L1 : Int) C1 R1 hH1.len (by omega)
      rw [rz] at RS
      have RSH := hide RS
      have LH := hide (hcl_len .u32 (L1 : Int) C1 hH1.len)
      have RN := hide hH1.len
      clear RS
      obtain ⟨d, hd, hrow⟩ : ∃ d, Tryz.prog.underlying 76 = some d ∧ d.isRow = true := by
        have h := undH_32
        cases hq : Tryz.prog.underlying 76 with
        | none => rw [hq] at h; simp at h
        | some d => rw [hq] at h; exact ⟨d, rfl, by simpa using h⟩
      generalize hcl .u32 (L1 : Int) C1 R1 = vs at *
      rw [hn1]
      have HN := hide hn1
      clear hn1
      go_wp2_with (refine wpList_load_mid rfl 76 (.tmp 16) rfl q 0 rfl vs d RG hd hrow (by rw [LH.out]; exact infoH_32) ?_)
      refine RSH.out.mono ?_
      rintro x w2 ⟨rfl, n2⟩
      clear RSH
      go_wp2_with fail
      obtain ⟨t, ht⟩ : ∃ t, t = min (64 - r) n1 := ⟨_, rfl⟩
      obtain ⟨tk, htk⟩ : ∃ l, l = xs1.take t := ⟨_, rfl⟩
      have tl : tk.length = t := by rw [htk, List.length_take, HN.out]; omega
      have H2 := hH1.up n2
      have hrun := run_copy_cells (P := Tryz.prog) w2 22 22 3 5 q (9 + r) (64 - r) (128 - r) ⟨g, o1, none⟩ n1 c1 (tk.map (Value.int .u8)) und22h s5 (by rw [List.length_map, tl, ht]; exact Nat.min_comm _ _)
        (fun j v hj => by
          have hjl : j < tk.length := by have := (List.getElem?_eq_some_iff.1 hj).1; simpa using this
          have e : tk.getD j 0 = xs1.getD j 0 := by rw [htk, List.getD_eq_getElem?_getD, List.getD_eq_getElem?_getD, List.getElem?_take, if_pos (by omega)]
          have hc' := (hr1.up n2) hlt
          obtain ⟨o', e', hcc'⟩ := hc'
          simp only [Option.some.injEq, Addr.mk.injEq, true_and, and_true] at e'
          subst e'
          rw [Addr.add_mid, hcc' j (by rw [HN.out]; omega), ← e]
          simpa [hjl] using hj)
        (fun j hj => by
          rw [List.length_map, tl] at hj
          have := H2.rs (r + j) (by rw [H2.len]; omega)
          rw [show 9 + (r + j) = 9 + r + j by omega] at this
          rw [this.1]; rfl)
        (fun j hj => by
          rw [List.length_map, tl] at hj
          have := H2.rs (r + j) (by rw [H2.len]; omega)
          rw [show 9 + (r + j) = 9 + r + j by omega] at this
          exact this.2)
        (fun v hv => by obtain ⟨x, _, rfl⟩ := List.mem_map.1 hv; rfl)
      rw [List.length_map, tl] at hrun
      have H3 := H2.setR r tk (by omega)
      have Q3 := only_setCells w2 q (tk.map (Value.int .u8)) (9 + r)
      have B3 : Bth q w (w2.setCells q (9 + r) (tk.map (Value.int .u8))) := (hB1.trans (Bth.of_below n2)).trans (Bth.of_only Q3)
      have T3 : HasT (w2.setCells q (9 + r) (tk.map (Value.int .u8))) 1 kL := (hT1.up n2).of_block (Q3.block _ hq)
      have r3 : Rd (w2.setCells q (9 + r) (tk.map (Value.int .u8))) g (some ⟨g, o1, none⟩) .u8 xs1 := (hr1.up n2).of_block (Q3.block _ hgq)
      have c3 := H3.c0
      have f3 := H3.f0
      have H4 := H3.setL ((L1 : Int) + (t : Int))
      have Q4 := Only.setCell (w2.setCells q (9 + r) (tk.map (Value.int .u8))) q 0 (.int .i64 ((L1 : Int) + (t : Int)))
      have B4 := B3.trans (Bth.of_only Q4)
      have T4 := T3.of_block (Q4.block _ hq)
      have r4 := r3.of_block (Q4.block _ hgq)
      have t0 : 0 < t := by omega
      have tn : t ≤ n1 := by omega
      have tr : r + t ≤ 64 := by omega
      have tn' : (t : Int) ≤ (n1 : Int) := by omega
      have nc' : (n1 : Int) ≤ (c1 : Int) := by have := HN.out; omega
      have nb' : (L1 : Int) + (n1 : Int) ≤ 1152921504606846976 := by have := hL1.out; have := HN.out; omega
      have TT : Hid (t = min (64 - r) n1) := ht
      have TK := hide htk
      have TL := hide tl
      clear ht htk tl hH1 RG LH H2 H3 B3 T3 r3 Q3 Q4 hB1 hT1 hr1 hcc n2
      rw [hrun]
      clear hrun
      generalize w2.setCells q (9 + r) (tk.map (Value.int .u8)) = w3 at *
      have ly := lay_byt (r := r) hR1 (show Byt tk by rw [TK.out]; exact byt_takeh hx1 t)
      have mk : Hid ((lay R1 r tk).take (r + t) = R1.take r ++ tk) := by show _ = _; rw [← TL.out]; exact take_more (by rw [RN.out]; omega)
      have RG := H4.range
      have L4 := H4.len
      have RS := restSize_32 (w3.setCell ⟨q, 0, none⟩ (.int .i64 ((L1 : Int) + (t : Int)))) ((L1 : Int) + (t : Int)) C1 (lay R1 r tk) L4 (by omega)
      have LH := hide (hcl_len .u32 ((L1 : Int) + (t : Int)) C1 L4)
      generalize hcl .u32 ((L1 : Int) + (t : Int)) C1 (lay R1 r tk) = vs4 at *
      have RSH := hide RS
      have L4H := hide L4
      clear RS L4
      by_cases hct : c1 = t
      · have hct2 := hct.symm
        subst hct2
        go_wp2_with (refine wpList_load_mid rfl 76 (.tmp 34) rfl q 0 rfl vs4 d RG hd hrow (by rw [LH.out]; exact infoH_32) ?_)
        generalize w3.setCell ⟨q, 0, none⟩ (.int .i64 ((L1 : Int) + (t : Int))) = w4 at *
        refine RSH.out.mono ?_
        rintro x w5 ⟨rfl, n5⟩
        have H5 := H4.up n5
        have B5 := B4.trans (Bth.of_below n5)
        have T5 := T4.up n5
        have r5 : Rd w5 g (some ⟨g, o1, none⟩) .u8 (xs1.drop t) := by rw [List.drop_eq_nil_of_le (by have := HN.out; omega)]; exact Rd.nil _ _ _ _
        have dl : Hid ((xs1.drop t).length = n1 - t) := by show _ = _; rw [List.length_drop, HN.out]
        clear RSH RG LH H4 B4 T4 r4 n5 c3 f3
        by_cases hf : r + t = 64
        · have z5 : ((L1 : Int) + (t : Int)) % 64 = 0 := by have := ER.out; omega
          have bl : ((lay R1 r tk).take 64).length = 64 := by rw [List.length_take, L4H.out]; omega
          have bb : Byt ((lay R1 r tk).take 64) := byt_takeh ly _
          have be : (lay R1 r tk).take 64 = R1.take r ++ tk := by rw [← hf]; exact mk.out
          have rb : ∀ W, Below w5.heap.size w5 W → Rd W q (some ⟨q, 9, none⟩) .u8 ((lay R1 r tk).take 64) := fun W n _ => ⟨9, rfl, fun i hi => by
            have h := ((H5.up n).rs i (by rw [L4H.out]; omega)).1
            rw [List.getD_eq_getElem?_getD, List.getElem?_take, if_pos (by omega), ← List.getD_eq_getElem?_getD]
            exact h⟩
          obtain ⟨C2, hC2⟩ : ∃ s, s = blk32 C1 (wd 4 ((lay R1 r tk).take 64)) := ⟨_, rfl⟩
          have oC2 : Ok32 C2 := by rw [hC2]; exact blk_ok32 _ _
          have HC2 := hide hC2
          go_wp2_with fail
          refine region_put 10 9 7 47 45 _ (fun i => [Fact.eq (.pointer (some ⟨q, 0, none⟩)), Fact.eq (.pointer (some ⟨q, 0, none⟩)), Fact.eq (.pointer (some ⟨q, 0, none⟩)), Fact.eq (.pointer (some ⟨q, 1, none⟩)), Fact.eq (ag8 .u32 C1), Fact.eq (.slice (some ⟨q, 9, none⟩) 64 128), Fact.eq (agw .u32 (wd 4 ((lay R1 r tk).take 64))), Fact.eq (ag8 .u32 C2), Fact.eq (.pointer (some ⟨q, 0, none⟩)), Fact.eq (.pointer (some ⟨q, 1, none⟩))].getD i Fact.no) q 1 73 (C2.l.map (Value.int .u32)) (by kernel_rfl) (by kernel_rfl) rfl rfl rfl (by kernel_rfl) rfl (by kernel_rfl) rfl ?_ (by rw [List.length_map]; kernel_rfl) (one_ints _ _) ?_ ?_
          · intro W n j hj
            rw [List.length_map] at hj
            have h := (H5.up n).ch j hj
            exact ⟨by rw [h.1]; rfl, h.2⟩
          · skip
            intro i hi
            obtain rfl | rfl | rfl | rfl | rfl | rfl | rfl | rfl | rfl | rfl : i = 0 ∨ i = 1 ∨ i = 2 ∨ i = 3 ∨ i = 4 ∨ i = 5 ∨ i = 6 ∨ i = 7 ∨ i = 8 ∨ i = 9 := by omega
            · refine step_pure rfl fun a w hb hw hf => ?_
              have e0 : a.tmps[0]?.getD undef = .pointer (some ⟨q, 0, none⟩) := gdv (hb.2.2 0 (by kernel_rfl))
              exact ⟨.pointer (some ⟨q, 0, none⟩), by simp [go_sem, e0], rfl⟩
            · refine step_pure rfl fun a w hb hw hf => ?_
              have e0 : a.tmps[0]?.getD undef = .pointer (some ⟨q, 0, none⟩) := gdv (hb.2.2 0 (by kernel_rfl))
              exact ⟨.pointer (some ⟨q, 0, none⟩), by simp [go_sem, e0], rfl⟩
            · refine step_pure rfl fun a w hb hw hf => ?_
              have e39 : a.tmps[39]?.getD undef = .pointer (some ⟨q, 0, none⟩) := gdv (hf 1 39 (by kernel_rfl))
              exact ⟨.pointer (some ⟨q, 0, none⟩), by simp [go_sem, e39], rfl⟩
            · refine step_pure rfl fun a w hb hw hf => ?_
              have e40 : a.tmps[40]?.getD undef = .pointer (some ⟨q, 0, none⟩) := gdv (hf 2 40 (by kernel_rfl))
              exact ⟨.pointer (some ⟨q, 1, none⟩), by simp [go_sem, e40], rfl⟩
            · refine step_load rfl 73 (.tmp 41) rfl (.array 8 71) 8 (by kernel_rfl) rfl (by kernel_rfl) fun a w hb hw hf => ⟨q, 1, C1.l.map (Value.int .u32), hf 3 41 (by kernel_rfl), (H5.up hw).ch.range, by rw [List.length_map]; rfl, rfl⟩
            · refine step_pure rfl fun a w hb hw hf => ?_
              have e4 : a.tmps[4]?.getD undef = .slice (some ⟨q, 9, none⟩) 64 128 := gdv (hb.2.2 4 (by kernel_rfl))
              exact ⟨.slice (some ⟨q, 9, none⟩) 64 128, by simp [go_sem, e4], rfl⟩
            · refine step_callv rfl 78 _ _ rfl (by kernel_rfl) fun a w hb hw hf => ?_
              have e43 : a.tmps.getD 43 undef = .slice (some ⟨q, 9, none⟩) 64 128 := hf 5 43 (by kernel_rfl)
              show Calls Tryz.prog 78 #[a.tmps.getD 43 undef] w _
              rw [e43]
              exact (readBlock_32 w q (some ⟨q, 9, none⟩) 128 _ (rb w hw) bb bl).mono (by rintro r w' ⟨rfl, n⟩; exact ⟨_, rfl, n, rfl⟩)
            · refine step_callv rfl 77 _ _ rfl (by kernel_rfl) fun a w hb hw hf => ?_
              have e42 : a.tmps.getD 42 undef = ag8 .u32 C1 := hf 4 42 (by kernel_rfl)
              have e44 : a.tmps.getD 44 undef = agw .u32 (wd 4 ((lay R1 r tk).take 64)) := hf 6 44 (by kernel_rfl)
              show Calls Tryz.prog 77 #[a.tmps.getD 42 undef, a.tmps.getD 44 undef] w _
              rw [e42, e44]
              rw [HC2.out]; exact (behind_32 w C1 hC1 _ (fun i _ => wd_32 bb i) (T5.up hw)).mono (by rintro r w' ⟨rfl, n⟩; exact ⟨_, rfl, n, rfl⟩)
            · refine step_pure rfl fun a w hb hw hf => ?_
              have e38 : a.tmps[38]?.getD undef = .pointer (some ⟨q, 0, none⟩) := gdv (hf 0 38 (by kernel_rfl))
              exact ⟨.pointer (some ⟨q, 0, none⟩), by simp [go_sem, e38], rfl⟩
            · refine step_pure rfl fun a w hb hw hf => ?_
              have e46 : a.tmps[46]?.getD undef = .pointer (some ⟨q, 0, none⟩) := gdv (hf 8 46 (by kernel_rfl))
              exact ⟨.pointer (some ⟨q, 1, none⟩), by simp [go_sem, e46], rfl⟩
          intro vs6 W n6
          have H6 := (H5.up n6).setC C2
          have Q6 := only_setCells W q (C2.l.map (Value.int .u32)) 1
          have B6 := (B5.trans (Bth.of_below n6)).trans (Bth.of_only Q6)
          have T6 := (T5.up n6).of_block (Q6.block _ hq)
          have r6 := (r5.up n6).of_block (Q6.block _ hgq)
          simp only [puts, Act.put, List.setIfInBounds_toArray, List.set_cons_succ, List.set_cons_zero]
          generalize W.setCells q 1 (C2.l.map (Value.int .u32)) = w6 at *
          have lf : (L1 + t) % 64 = 0 := by have := ER.out; omega
          have whx : xs1 = tk ++ xs1.drop t := by rw [TK.out]; exact (List.take_append_drop t xs1).symm
          have KW : Hid (whole32 C2 ((lay R1 r tk).take ((L1 + t) % 64) ++ xs1.drop t) = Wt) := by
            show _ = _
            rw [lf, List.take_zero, List.nil_append, ← hW1.out, ← ER.out]
            conv => rhs; rw [whx, ← List.append_assoc, ← be, whole_app32 _ _ _ bl, ← HC2.out]
          have KF : Hid (left32 ((lay R1 r tk).take ((L1 + t) % 64) ++ xs1.drop t) = Lf) := by
            show _ = _
            rw [lf, List.take_zero, List.nil_append, ← hF1.out, ← ER.out]
            conv => rhs; rw [whx, ← List.append_assoc, ← be, left_app32 _ _ bl]
          clear mk bl bb be rb lf whx
          go_wp2
          go_roundw
          case rel => exact ⟨L1 + t, 0, C2, lay R1 r tk, xs1.drop t, _, by rw [dl.out], by rw [Int.natCast_add]; exact H6, oC2, ly, r6, byt_drop hx1 t, by rw [dl.out]; have := HN.out; omega, by rw [dl.out]; have := HN.out; omega, by show _ = _; rw [dl.out]; have := hL1.out; have := HN.out; omega, KW, KF, T6, B6⟩
          case measure => simp only [vlen_slice]; omega
        · have z5 : (((L1 : Int) + (t : Int)) % 64 == 0) = false := by have := ER.out; simp; omega
          obtain rfl : t = n1 := by have := TT.out; omega
          have lf : (L1 + t) % 64 = r + t := by have := ER.out; omega
          have dn : xs1.drop t = [] := List.drop_eq_nil_of_le (by rw [HN.out]; exact Nat.le_refl _)
          have tx : tk = xs1 := by rw [TK.out]; exact List.take_of_length_le (by rw [HN.out]; exact Nat.le_refl _)
          have KW : Hid (whole32 C1 ((lay R1 r tk).take ((L1 + t) % 64) ++ xs1.drop t) = Wt) := by
            show _ = _
            rw [lf, mk.out, dn, List.append_nil, tx, ER.out]
            exact hW1.out
          have KF : Hid (left32 ((lay R1 r tk).take ((L1 + t) % 64) ++ xs1.drop t) = Lf) := by
            show _ = _
            rw [lf, mk.out, dn, List.append_nil, tx, ER.out]
            exact hF1.out
          clear mk lf dn tx
          go_wp2
          go_roundw
          case rel => exact ⟨L1 + t, 0, C1, lay R1 r tk, xs1.drop t, _, by rw [dl.out, Nat.sub_self], by rw [Int.natCast_add]; exact H5, hC1, ly, r5, byt_drop hx1 t, by rw [dl.out]; have := HN.out; omega, by rw [dl.out]; have := HN.out; omega, by show _ = _; rw [dl.out]; have := hL1.out; have := HN.out; omega, KW, KF, T5, B5⟩
          case measure => simp only [vlen_slice]; omega
      · have hct' : ¬ ((c1 : Int) = (t : Int)) := by omega
        go_wp2_with (refine wpList_load_mid rfl 76 (.tmp 34) rfl q 0 rfl vs4 d RG hd hrow (by rw [LH.out]; exact infoH_32) ?_)
        generalize w3.setCell ⟨q, 0, none⟩ (.int .i64 ((L1 : Int) + (t : Int))) = w4 at *
        refine RSH.out.mono ?_
        rintro x w5 ⟨rfl, n5⟩
        have H5 := H4.up n5
        have B5 := B4.trans (Bth.of_below n5)
        have T5 := T4.up n5
        have r5 : Rd w5 g (some ⟨g, o1 + t, none⟩) .u8 (xs1.drop t) := rd_drop (t := t) (r4.up n5)
        have dl : Hid ((xs1.drop t).length = n1 - t) := by show _ = _; rw [List.length_drop, HN.out]
        clear RSH RG LH H4 B4 T4 r4 n5 c3 f3
        by_cases hf : r + t = 64
        · have z5 : ((L1 : Int) + (t : Int)) % 64 = 0 := by have := ER.out; omega
          have bl : ((lay R1 r tk).take 64).length = 64 := by rw [List.length_take, L4H.out]; omega
          have bb : Byt ((lay R1 r tk).take 64) := byt_takeh ly _
          have be : (lay R1 r tk).take 64 = R1.take r ++ tk := by rw [← hf]; exact mk.out
          have rb : ∀ W, Below w5.heap.size w5 W → Rd W q (some ⟨q, 9, none⟩) .u8 ((lay R1 r tk).take 64) := fun W n _ => ⟨9, rfl, fun i hi => by
            have h := ((H5.up n).rs i (by rw [L4H.out]; omega)).1
            rw [List.getD_eq_getElem?_getD, List.getElem?_take, if_pos (by omega), ← List.getD_eq_getElem?_getD]
            exact h⟩
          obtain ⟨C2, hC2⟩ : ∃ s, s = blk32 C1 (wd 4 ((lay R1 r tk).take 64)) := ⟨_, rfl⟩
          have oC2 : Ok32 C2 := by rw [hC2]; exact blk_ok32 _ _
          have HC2 := hide hC2
          go_wp2_with fail
          refine region_put 10 9 7 47 45 _ (fun i => [Fact.eq (.pointer (some ⟨q, 0, none⟩)), Fact.eq (.pointer (some ⟨q, 0, none⟩)), Fact.eq (.pointer (some ⟨q, 0, none⟩)), Fact.eq (.pointer (some ⟨q, 1, none⟩)), Fact.eq (ag8 .u32 C1), Fact.eq (.slice (some ⟨q, 9, none⟩) 64 128), Fact.eq (agw .u32 (wd 4 ((lay R1 r tk).take 64))), Fact.eq (ag8 .u32 C2), Fact.eq (.pointer (some ⟨q, 0, none⟩)), Fact.eq (.pointer (some ⟨q, 1, none⟩))].getD i Fact.no) q 1 73 (C2.l.map (Value.int .u32)) (by kernel_rfl) (by kernel_rfl) rfl rfl rfl (by kernel_rfl) rfl (by kernel_rfl) rfl ?_ (by rw [List.length_map]; kernel_rfl) (one_ints _ _) ?_ ?_
          · intro W n j hj
            rw [List.length_map] at hj
            have h := (H5.up n).ch j hj
            exact ⟨by rw [h.1]; rfl, h.2⟩
          · skip
            intro i hi
            obtain rfl | rfl | rfl | rfl | rfl | rfl | rfl | rfl | rfl | rfl : i = 0 ∨ i = 1 ∨ i = 2 ∨ i = 3 ∨ i = 4 ∨ i = 5 ∨ i = 6 ∨ i = 7 ∨ i = 8 ∨ i = 9 := by omega
            · refine step_pure rfl fun a w hb hw hf => ?_
              have e0 : a.tmps[0]?.getD undef = .pointer (some ⟨q, 0, none⟩) := gdv (hb.2.2 0 (by kernel_rfl))
              exact ⟨.pointer (some ⟨q, 0, none⟩), by simp [go_sem, e0], rfl⟩
            · refine step_pure rfl fun a w hb hw hf => ?_
              have e0 : a.tmps[0]?.getD undef = .pointer (some ⟨q, 0, none⟩) := gdv (hb.2.2 0 (by kernel_rfl))
              exact ⟨.pointer (some ⟨q, 0, none⟩), by simp [go_sem, e0], rfl⟩
            · refine step_pure rfl fun a w hb hw hf => ?_
              have e39 : a.tmps[39]?.getD undef = .pointer (some ⟨q, 0, none⟩) := gdv (hf 1 39 (by kernel_rfl))
              exact ⟨.pointer (some ⟨q, 0, none⟩), by simp [go_sem, e39], rfl⟩
            · refine step_pure rfl fun a w hb hw hf => ?_
              have e40 : a.tmps[40]?.getD undef = .pointer (some ⟨q, 0, none⟩) := gdv (hf 2 40 (by kernel_rfl))
              exact ⟨.pointer (some ⟨q, 1, none⟩), by simp [go_sem, e40], rfl⟩
            · refine step_load rfl 73 (.tmp 41) rfl (.array 8 71) 8 (by kernel_rfl) rfl (by kernel_rfl) fun a w hb hw hf => ⟨q, 1, C1.l.map (Value.int .u32), hf 3 41 (by kernel_rfl), (H5.up hw).ch.range, by rw [List.length_map]; rfl, rfl⟩
            · refine step_pure rfl fun a w hb hw hf => ?_
              have e4 : a.tmps[4]?.getD undef = .slice (some ⟨q, 9, none⟩) 64 128 := gdv (hb.2.2 4 (by kernel_rfl))
              exact ⟨.slice (some ⟨q, 9, none⟩) 64 128, by simp [go_sem, e4], rfl⟩
            · refine step_callv rfl 78 _ _ rfl (by kernel_rfl) fun a w hb hw hf => ?_
              have e43 : a.tmps.getD 43 undef = .slice (some ⟨q, 9, none⟩) 64 128 := hf 5 43 (by kernel_rfl)
              show Calls Tryz.prog 78 #[a.tmps.getD 43 undef] w _
              rw [e43]
              exact (readBlock_32 w q (some ⟨q, 9, none⟩) 128 _ (rb w hw) bb bl).mono (by rintro r w' ⟨rfl, n⟩; exact ⟨_, rfl, n, rfl⟩)
            · refine step_callv rfl 77 _ _ rfl (by kernel_rfl) fun a w hb hw hf => ?_
              have e42 : a.tmps.getD 42 undef = ag8 .u32 C1 := hf 4 42 (by kernel_rfl)
              have e44 : a.tmps.getD 44 undef = agw .u32 (wd 4 ((lay R1 r tk).take 64)) := hf 6 44 (by kernel_rfl)
              show Calls Tryz.prog 77 #[a.tmps.getD 42 undef, a.tmps.getD 44 undef] w _
              rw [e42, e44]
              rw [HC2.out]; exact (behind_32 w C1 hC1 _ (fun i _ => wd_32 bb i) (T5.up hw)).mono (by rintro r w' ⟨rfl, n⟩; exact ⟨_, rfl, n, rfl⟩)
            · refine step_pure rfl fun a w hb hw hf => ?_
              have e38 : a.tmps[38]?.getD undef = .pointer (some ⟨q, 0, none⟩) := gdv (hf 0 38 (by kernel_rfl))
              exact ⟨.pointer (some ⟨q, 0, none⟩), by simp [go_sem, e38], rfl⟩
            · refine step_pure rfl fun a w hb hw hf => ?_
              have e46 : a.tmps[46]?.getD undef = .pointer (some ⟨q, 0, none⟩) := gdv (hf 8 46 (by kernel_rfl))
              exact ⟨.pointer (some ⟨q, 1, none⟩), by simp [go_sem, e46], rfl⟩
          intro vs6 W n6
          have H6 := (H5.up n6).setC C2
          have Q6 := only_setCells W q (C2.l.map (Value.int .u32)) 1
          have B6 := (B5.trans (Bth.of_below n6)).trans (Bth.of_only Q6)
          have T6 := (T5.up n6).of_block (Q6.block _ hq)
          have r6 := (r5.up n6).of_block (Q6.block _ hgq)
          simp only [puts, Act.put, List.setIfInBounds_toArray, List.set_cons_succ, List.set_cons_zero]
          generalize W.setCells q 1 (C2.l.map (Value.int .u32)) = w6 at *
          have lf : (L1 + t) % 64 = 0 := by have := ER.out; omega
          have whx : xs1 = tk ++ xs1.drop t := by rw [TK.out]; exact (List.take_append_drop t xs1).symm
          have KW : Hid (whole32 C2 ((lay R1 r tk).take ((L1 + t) % 64) ++ xs1.drop t) = Wt) := by
            show _ = _
            rw [lf, List.take_zero, List.nil_append, ← hW1.out, ← ER.out]
            conv => rhs; rw [whx, ← List.append_assoc, ← be, whole_app32 _ _ _ bl, ← HC2.out]
          have KF : Hid (left32 ((lay R1 r tk).take ((L1 + t) % 64) ++ xs1.drop t) = Lf) := by
            show _ = _
            rw [lf, List.take_zero, List.nil_append, ← hF1.out, ← ER.out]
            conv => rhs; rw [whx, ← List.append_assoc, ← be, left_app32 _ _ bl]
          clear mk bl bb be rb lf whx
          go_wp2
          go_roundw
          case rel => exact ⟨L1 + t, c1 - t, C2, lay R1 r tk, xs1.drop t, _, by rw [dl.out], by rw [Int.natCast_add]; exact H6, oC2, ly, r6, byt_drop hx1 t, by rw [dl.out]; have := HN.out; omega, by rw [dl.out]; have := HN.out; omega, by show _ = _; rw [dl.out]; have := hL1.out; have := HN.out; omega, KW, KF, T6, B6⟩
          case measure => simp only [vlen_slice]; omega
        · have z5 : (((L1 : Int) + (t : Int)) % 64 == 0) = false := by have := ER.out; simp; omega
          obtain rfl : t = n1 := by have := TT.out; omega
          have lf : (L1 + t) % 64 = r + t := by have := ER.out; omega
          have dn : xs1.drop t = [] := List.drop_eq_nil_of_le (by rw [HN.out]; exact Nat.le_refl _)
          have tx : tk = xs1 := by rw [TK.out]; exact List.take_of_length_le (by rw [HN.out]; exact Nat.le_refl _)
          have KW : Hid (whole32 C1 ((lay R1 r tk).take ((L1 + t) % 64) ++ xs1.drop t) = Wt) := by
            show _ = _
            rw [lf, mk.out, dn, List.append_nil, tx, ER.out]
            exact hW1.out
          have KF : Hid (left32 ((lay R1 r tk).take ((L1 + t) % 64) ++ xs1.drop t) = Lf) := by
            show _ = _
            rw [lf, mk.out, dn, List.append_nil, tx, ER.out]
            exact hF1.out
          clear mk lf dn tx
          go_wp2
          go_roundw
          case rel => exact ⟨L1 + t, c1 - t, C1, lay R1 r tk, xs1.drop t, _, by rw [dl.out, Nat.sub_self], by rw [Int.natCast_add]; exact H5, hC1, ly, r5, byt_drop hx1 t, by rw [dl.out]; have := HN.out; omega, by rw [dl.out]; have := HN.out; omega, by show _ = _; rw [dl.out]; have := hL1.out; have := HN.out; omega, KW, KF, T5, B5⟩
          case measure => simp only [vlen_slice]; omega
    · obtain rfl : xs1 = [] := List.eq_nil_of_length_eq_zero (by omega)
      have e1 : L1 = Lt := by have := hL1.out; simpa using this
      have sh : (R1.take (L1 % 64)).length < 64 := by rw [List.length_take]; omega
      have e2 : C1 = Wt := by have := hW1.out; rw [List.append_nil, whole_short32 _ sh] at this; exact this
      have e3 : R1.take (L1 % 64) = Lf := by have := hF1.out; rw [List.append_nil, left_short32 sh] at this; exact this
      have E := hide (And.intro e1 (And.intro e2 e3))
      clear e1 e2 e3 sh hL1 hW1 hF1
      go_wp2
      obtain ⟨e1, e2, e3⟩ := E.out
      subst e1 e2
      exact bodyPost_end (v := .tuple #[]) (by simp [results, Tryz.results47, go_sem]) rfl ⟨rfl, R1, hH1, hR1, e3, hB1⟩
end Go.Proofs.YtmfajpplagbfcaaGreatDoor
namespace Go.Proofs.YtmfajpplagbfcaaGreatDoor
set_option maxRecDepth 100000
open Go Go.RowKit
structure HBo (k : IntKind) (w : World) (q o : Nat) (L : Int) (C : S8) (R : List Int) : Prop where
  len : R.length = 128
  c0 : w.cell? ⟨q, o, none⟩ = some (.int .i64 L)
  f0 : w.frozen? ⟨q, o, none⟩ = false
  ch : Seg w q (o + 1) k C.l
  rs : Seg w q (o + 9) .u8 R
section
variable {k : IntKind} {w w' : World} {q o : Nat} {L : Int} {C : S8} {R : List Int}
theorem HBo.lt (h : HBo k w q o L C R) : q < w.heap.size := block_lt_of_cell h.c0
theorem HBo.of_cells (h : HBo k w q o L C R) (hb : ∀ j, o ≤ j → j < o + 137 → w'.cell? ⟨q, j, none⟩ = w.cell? ⟨q, j, none⟩ ∧ w'.frozen? ⟨q, j, none⟩ = w.frozen? ⟨q, j, none⟩) : HBo k w' q o L C R :=
  ⟨h.len, (hb o (Nat.le_refl _) (by omega)).1.trans h.c0, (hb o (Nat.le_refl _) (by omega)).2.trans h.f0,
   fun i hi => by
    have := hb (o + 1 + i) (by omega) (by rw [S8.l_len] at hi; omega)
    exact ⟨this.1.trans (h.ch i hi).1, this.2.trans (h.ch i hi).2⟩,
   fun i hi => by
    have := hb (o + 9 + i) (by omega) (by rw [h.len] at hi; omega)
    exact ⟨this.1.trans (h.rs i hi).1, this.2.trans (h.rs i hi).2⟩⟩
theorem HBo.of_block (h : HBo k w q o L C R) (hb : w'.heap[q]? = w.heap[q]?) : HBo k w' q o L C R :=
  h.of_cells fun j _ _ => ⟨World.cell?_of_block (a := ⟨q, j, none⟩) hb, World.frozen?_of_block (a := ⟨q, j, none⟩) hb⟩
theorem HBo.up (h : HBo k w q o L C R) (n : Below w.heap.size w w') : HBo k w' q o L C R := h.of_block (n.block q h.lt)
theorem HBo.range (h : HBo k w q o L C R) : w.rangeAt q o (hcl k L C R) := by
  intro j v hv
  unfold hcl at hv
  cases j with
  | zero =>
    simp at hv
    subst hv
    exact h.c0
  | succ j =>
    rw [List.getElem?_cons_succ] at hv
    by_cases c : j < 8
    · rw [List.getElem?_append_left (by rw [List.length_map, S8.l_len]; exact c)] at hv
      rw [show o + (j + 1) = o + 1 + j by omega]
      exact h.ch.range j v hv
    · rw [List.getElem?_append_right (by rw [List.length_map, S8.l_len]; omega), List.length_map, S8.l_len] at hv
      rw [show o + (j + 1) = o + 9 + (j - 8) by omega]
      exact h.rs.range (j - 8) v hv
theorem HBo.there (h : HBo k w q o L C R) : w.there q o 137 := by
  intro j hj
  cases j with
  | zero => exact ⟨by rw [Nat.add_zero, h.c0]; rfl, h.f0⟩
  | succ j =>
    by_cases c : j < 8
    · have := h.ch j (by rw [S8.l_len]; exact c)
      rw [show o + 1 + j = o + (j + 1) by omega] at this
      exact ⟨by rw [this.1]; rfl, this.2⟩
    · have := h.rs (j - 8) (by rw [h.len]; omega)
      rw [show o + 9 + (j - 8) = o + (j + 1) by omega] at this
      exact ⟨by rw [this.1]; rfl, this.2⟩
theorem HBo.of_range (hl : R.length = 128) (rg : w.rangeAt q o (hcl k L C R)) (th : w.there q o 137) : HBo k w q o L C R := by
  have f : ∀ j, j < 137 → w.frozen? ⟨q, o + j, none⟩ = false := fun j hj => (th j hj).2
  refine ⟨hl, rg 0 _ rfl, f 0 (by omega), fun i hi => ⟨?_, ?_⟩, fun i hi => ⟨?_, ?_⟩⟩
  · have := rg (i + 1) (.int k (C.l.getD i 0)) (by
      unfold hcl
      rw [List.getElem?_cons_succ, List.getElem?_append_left (by rw [List.length_map]; exact hi)]
      simp [hi])
    rwa [show o + (i + 1) = o + 1 + i by omega] at this
  · have := f (i + 1) (by rw [S8.l_len] at hi; omega)
    rwa [show o + (i + 1) = o + 1 + i by omega] at this
  · have := rg (i + 9) (.int .u8 (R.getD i 0)) (by
      unfold hcl
      rw [show i + 9 = (i + 8) + 1 by omega, List.getElem?_cons_succ, List.getElem?_append_right (by rw [List.length_map, S8.l_len]; omega), List.length_map, S8.l_len, Nat.add_sub_cancel]
      simp [hi])
    rwa [show o + (i + 9) = o + 9 + i by omega] at this
  · have := f (i + 9) (by omega)
    rwa [show o + (i + 9) = o + 9 + i by omega] at this
theorem HBo.setL (h : HBo k w q o L C R) (L' : Int) : HBo k (w.setCell ⟨q, o, none⟩ (.int .i64 L')) q o L' C R := by
  refine ⟨h.len, World.cell?_setCell_same _ _ _ h.c0, by rw [frozen_setCell]; exact h.f0, fun i hi => ⟨?_, by rw [frozen_setCell]; exact (h.ch i hi).2⟩, fun i hi => ⟨?_, by rw [frozen_setCell]; exact (h.rs i hi).2⟩⟩
  · rw [World.cell?_setCell_other (h := fun h => by simp only [Addr.mk.injEq, true_and, and_true] at h; omega)]
    exact (h.ch i hi).1
  · rw [World.cell?_setCell_other (h := fun h => by simp only [Addr.mk.injEq, true_and, and_true] at h; omega)]
    exact (h.rs i hi).1
theorem HBo.setC (h : HBo k w q o L C R) (C' : S8) : HBo k (w.setCells q (o + 1) (C'.l.map (Value.int k))) q o L C' R := by
  have l8 : (C'.l.map (Value.int k)).length = 8 := by rw [List.length_map, S8.l_len]
  have sm := World.rangeAt_setCells_same w q (o + 1) (C'.l.map (Value.int k)) (by
    rw [l8]
    intro j hj
    have := h.ch j (by rw [S8.l_len]; exact hj)
    exact ⟨by rw [this.1]; rfl, this.2⟩)
  refine ⟨h.len, cell_out h.c0 (.inl (by omega)), by rw [setCells_frozen]; exact h.f0, fun i hi => ⟨?_, ?_⟩, fun i hi => ⟨cell_out (h.rs i hi).1 (.inr (by rw [l8]; omega)), by rw [setCells_frozen]; exact (h.rs i hi).2⟩⟩
  · exact sm i _ (by simp [hi])
  · rw [setCells_frozen]
    exact (h.ch i (by rw [S8.l_len] at hi ⊢; exact hi)).2
theorem HBo.setR (h : HBo k w q o L C R) (r : Nat) (xs : List Int) (hr : r + xs.length ≤ 128) : HBo k (w.setCells q (o + 9 + r) (xs.map (Value.int .u8))) q o L C (lay R r xs) := by
  have hl := h.len
  have lx : (xs.map (Value.int .u8)).length = xs.length := List.length_map _
  have sm := World.rangeAt_setCells_same w q (o + 9 + r) (xs.map (Value.int .u8)) (by
    rw [lx]
    intro j hj
    have := h.rs (r + j) (by omega)
    rw [show o + 9 + (r + j) = o + 9 + r + j by omega] at this
    exact ⟨by rw [this.1]; rfl, this.2⟩)
  refine ⟨by rw [lay_len (by omega)]; exact hl, cell_out h.c0 (.inl (by omega)), by rw [setCells_frozen]; exact h.f0, fun i hi => ⟨cell_out (h.ch i hi).1 (.inl (by rw [S8.l_len] at hi; omega)), by rw [setCells_frozen]; exact (h.ch i hi).2⟩, fun i hi => ?_⟩
  rw [lay_len (by omega)] at hi
  refine ⟨?_, by rw [setCells_frozen]; exact (h.rs i hi).2⟩
  unfold lay
  have tl : (R.take r).length = r := by rw [List.length_take]; omega
  by_cases c1 : i < r
  · rw [getD_apd_left _ _ _ (by omega)]
    have e : (R.take r).getD i 0 = R.getD i 0 := by rw [List.getD_eq_getElem?_getD, List.getD_eq_getElem?_getD, List.getElem?_take, if_pos c1]
    rw [e]
    exact cell_out (h.rs i hi).1 (.inl (by omega))
  · rw [getD_apd_right _ _ _ (by omega), tl]
    by_cases c2 : i - r < xs.length
    · rw [getD_apd_left _ _ _ c2]
      have := sm (i - r) (.int .u8 (xs.getD (i - r) 0)) (by simp [c2])
      rwa [show o + 9 + r + (i - r) = o + 9 + i by omega] at this
    · rw [getD_apd_right _ _ _ (by omega), List.getD_eq_getElem?_getD, List.getElem?_drop, show r + xs.length + (i - r - xs.length) = i by omega, ← List.getD_eq_getElem?_getD]
      exact cell_out (h.rs i hi).1 (.inr (by rw [lx]; omega))
end
structure Bx (q o : Nat) (w w' : World) : Prop where
  bt : Bth q w w'
  out : ∀ j, (j < o ∨ o + 137 ≤ j) → w'.cell? ⟨q, j, none⟩ = w.cell? ⟨q, j, none⟩ ∧ w'.frozen? ⟨q, j, none⟩ = w.frozen? ⟨q, j, none⟩
theorem Bx.refl (q o : Nat) (w : World) : Bx q o w w := ⟨Bth.refl _ _, fun _ _ => ⟨rfl, rfl⟩⟩
theorem Bx.drewN (q o : Nat) (w : World) (n : Nat) : Bx q o w (w.drewN n) := ⟨⟨rfl, rfl, rfl, Nat.le_refl _, fun _ _ _ => rfl⟩, fun _ _ => ⟨rfl, rfl⟩⟩
theorem Bx.trans {q o : Nat} {a b c : World} (h : Bx q o a b) (k : Bx q o b c) : Bx q o a c :=
  ⟨h.bt.trans k.bt, fun j hj => ⟨(k.out j hj).1.trans (h.out j hj).1, (k.out j hj).2.trans (h.out j hj).2⟩⟩
theorem Bx.of_below {q o : Nat} {a b : World} (h : Below a.heap.size a b) (hq : q < a.heap.size) : Bx q o a b :=
  ⟨Bth.of_below h, fun j _ => ⟨World.cell?_of_block (a := ⟨q, j, none⟩) (h.block q hq), World.frozen?_of_block (a := ⟨q, j, none⟩) (h.block q hq)⟩⟩
theorem cells_out (w : World) (q : Nat) : ∀ (vs : List Value) (o j : Nat), (j < o ∨ o + vs.length ≤ j) → (w.setCells q o vs).cell? ⟨q, j, none⟩ = w.cell? ⟨q, j, none⟩ := by
  intro vs
  induction vs generalizing w with
  | nil => intro o j _; rfl
  | cons v vs ih =>
    intro o j hj
    rw [List.length_cons] at hj
    show ((w.setCell ⟨q, o, none⟩ v).setCells q (o + 1) vs).cell? _ = _
    rw [ih (w.setCell ⟨q, o, none⟩ v) (o + 1) j (by omega), World.cell?_setCell_other (h := fun h => by simp only [Addr.mk.injEq, true_and, and_true] at h; omega)]
theorem Bx.cells {q o : Nat} (w : World) (p : Nat) (vs : List Value) (h1 : o ≤ p) (h2 : p + vs.length ≤ o + 137) : Bx q o w (w.setCells q p vs) :=
  ⟨Bth.of_only (only_setCells w q vs p), fun j hj => ⟨cells_out w q vs p j (by omega), setCells_frozen _ _ _ _ _⟩⟩
theorem Bx.setL {q o : Nat} (w : World) (v : Value) : Bx q o w (w.setCell ⟨q, o, none⟩ v) := Bx.cells w o [v] (Nat.le_refl _) (by simp)
theorem HBo.bx {k : IntKind} {w w' : World} {q o p : Nat} {L : Int} {C : S8} {R : List Int} (h : HBo k w q p L C R) (b : Bx q o w w') (hp : p + 137 ≤ o ∨ o + 137 ≤ p) : HBo k w' q p L C R :=
  h.of_cells fun j h1 h2 => b.out j (by omega)
end Go.Proofs.YtmfajpplagbfcaaGreatDoor
