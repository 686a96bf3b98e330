import Derived.Test.YtkglcainhkbgbaaGreatDoorSG47
import Derived.BigRegion
import Derived.Test.YtkglcainhkbgbaaGreatDoorSG46
import Derived.Test.YtkglcainhkbgbaaGreatDoorSG44
import Derived.Test.YtkglcainhkbgbaaGreatDoorSG45
import Derived.Test.YtkglcainhkbgbaaGreatDoorSG40
import Derived.Test.YtkglcainhkbgbaaGreatDoorSG5
import Derived.Lib.AppendZeros
namespace Go.Proofs.YtkglcainhkbgbaaGreatDoor
set_option maxRecDepth 100000
open Go Go.RowKit
set_option maxHeartbeats 4000000 in
theorem fillWords_64 (w : World) (q off n cw : Nat) (hZ : Seg w q off .u64 (List.replicate n 0)) (g : Nat) (a : Option Addr) (c : Nat) (xs : List Int) (hr : Rd w g a .u8 xs) (hb : Byt xs) (hl : xs.length = 8 * n) (h0 : 0 < n) (hn : n ≤ 16) (hg : g ≠ q) :
    Calls Tryz.prog 100 #[.slice (some ⟨q, off, none⟩) n cw, .slice a xs.length c] w fun e w' => e = .returned (.tuple #[]) ∧ ∃ ys, (ys.length = n ∧ ∀ j, j < n → ys.getD j 0 = wd 8 xs j) ∧ Seg w' q off .u64 ys ∧ SegX q off n w w' := by
  obtain ⟨o2, rfl, hc⟩ := hr (by omega)
  rw [hl]
  have HL := hide hl
  clear hl
  go_enter Tryz.func100, Tryz.ntmps100
  go_wp2_with fail
  refine (wordSize_64 w).mono ?_
  rintro r w1 ⟨rfl, rfl⟩
  go_wp2
  go_loopw [10] (fun i wr => ∃ (j : Nat) (ys : List Int), j ≤ 8 * n ∧ i = .int .i64 j ∧ FilW 8 xs n ys j ∧ Seg wr q off .u64 ys ∧ SegX q off n w1 wr) (fun i _ => 8 * n - (intOf i).toNat)
  case atStart => exact ⟨0, _, Nat.zero_le _, rfl, FilW.zero 8 xs n, hZ, SegX.refl _ _ _ _⟩
  case round =>
    obtain ⟨j, ys, hj, rfl, hF, hS, hX⟩ := hrel
    by_cases hlt : j < 8 * n
    · have cx : wr.cell? ⟨g, o2 + j, none⟩ = some (.int .u8 (xs.getD j 0)) := by
        rw [World.cell?_of_block (a := ⟨g, o2 + j, none⟩) (hX.only.block g hg)]
        exact hc j (by rw [HL.out]; exact hlt)
      have hp : j / 8 < n := by omega
      have R := hF.step (by decide)
      have hh := hF.here hp
      have hs := hS (j / 8) (by rw [hF.1]; exact hp)
      rw [hh] at hs
      have xb := hb j
      have bl := bw_lt (z := 8) hb (j / 8) (j % 8)
      have bl2 : bw 8 xs (j / 8) (j % 8) < 72057594037927936 := by
        have : (256 : Int) ^ (j % 8) ≤ 256 ^ (8 - 1) := p256_leh (by omega)
        have e : (256 : Int) ^ (8 - 1) = 72057594037927936 := by decide
        omega
      have ov := orb64 (bw 8 xs (j / 8) (j % 8)) (xs.getD j 0) bl.1 bl2 xb.1 xb.2
      rw [← wrap_u64e] at ov
      have S' := hS.store (j / 8) (by rw [hF.1]; exact hp) (bw 8 xs (j / 8) (j % 8) * 256 + xs.getD j 0)
      have X' := hX.trans (SegX.set wr q off n (j / 8) hp (.int .u64 (bw 8 xs (j / 8) (j % 8) * 256 + xs.getD j 0)))
      obtain ⟨h1, h2⟩ := hs
      have d1 : (j : Int) / 8 = ((j / 8 : Nat) : Int) := by omega
      have d2 : ((j / 8 : Nat) : Int) < (n : Int) := by omega
      have d3 : (j : Int) < 8 * (n : Int) := by omega
      clear hF hS hX hh bl hp
      generalize j / 8 = p at *
      generalize bw 8 xs p (j % 8) = bv at *
      generalize xs.getD j 0 = x at *
      obtain ⟨x0, x1⟩ := xb
      go_wp2_with fail
      go_region
      go_wp2
      go_roundw
      case rel => exact ⟨j + 1, _, by omega, by go_num, R, S', X'.drew⟩
      case measure => simp [intOf]; omega
    · obtain rfl : j = 8 * n := by omega
      have K := hide (hF.all (by decide))
      clear hF
      go_wp2
      exact bodyPost_end (v := .tuple #[]) (by simp [results, Tryz.results100, go_sem]) rfl ⟨rfl, ys, K.out, hS, hX⟩
theorem info16_64 : (Tryz.prog.info? 138).map (·.size) = some 16 := by kernel_rfl
theorem und16_64 : Tryz.prog.underlying 138 = some (.array 16 39) := by kernel_rfl
set_option maxHeartbeats 4000000 in
theorem readBlock_64 (w : World) (g : Nat) (a : Option Addr) (c : Nat) (xs : List Int) (hr : Rd w g a .u8 xs) (hb : Byt xs) (hl : xs.length = 128) :
    Calls Tryz.prog 75 #[.slice a 128 c] w fun e w' => e = .returned (agw .u64 (wd 8 xs)) ∧ Below w.heap.size w w' := by
  have n0 : Below w.heap.size w (w.alloc (.cells #[.int .u64 0, .int .u64 0, .int .u64 0, .int .u64 0, .int .u64 0, .int .u64 0, .int .u64 0, .int .u64 0, .int .u64 0, .int .u64 0, .int .u64 0, .int .u64 0, .int .u64 0, .int .u64 0, .int .u64 0, .int .u64 0] 138)) := (Below.refl _ _).alloc (Nat.le_refl _) _
  have B0 := blk_agw w .u64 138 (fun _ => 0)
  have z0 : (w.alloc (.cells #[.int .u64 0, .int .u64 0, .int .u64 0, .int .u64 0, .int .u64 0, .int .u64 0, .int .u64 0, .int .u64 0, .int .u64 0, .int .u64 0, .int .u64 0, .int .u64 0, .int .u64 0, .int .u64 0, .int .u64 0, .int .u64 0] 138)).heap.size = w.heap.size + 1 := by simp
  have gl := hr.lt (by omega)
  have HL := hide hl
  go_enter Tryz.func75, Tryz.ntmps75
  go_wp2_with fail
  generalize w.alloc (.cells #[.int .u64 0, .int .u64 0, .int .u64 0, .int .u64 0, .int .u64 0, .int .u64 0, .int .u64 0, .int .u64 0, .int .u64 0, .int .u64 0, .int .u64 0, .int .u64 0, .int .u64 0, .int .u64 0, .int .u64 0, .int .u64 0] 138) = wa at *
  have n1 : Below wa.heap.size wa (wa.alloc (.cells #[.int .u64 0, .int .u64 0, .int .u64 0, .int .u64 0, .int .u64 0, .int .u64 0, .int .u64 0, .int .u64 0, .int .u64 0, .int .u64 0, .int .u64 0, .int .u64 0, .int .u64 0, .int .u64 0, .int .u64 0, .int .u64 0] 138)) := (Below.refl _ _).alloc (Nat.le_refl _) _
  have B1 := blk_agw wa .u64 138 (fun _ => 0)
  have z1 : (wa.alloc (.cells #[.int .u64 0, .int .u64 0, .int .u64 0, .int .u64 0, .int .u64 0, .int .u64 0, .int .u64 0, .int .u64 0, .int .u64 0, .int .u64 0, .int .u64 0, .int .u64 0, .int .u64 0, .int .u64 0, .int .u64 0, .int .u64 0] 138)).heap.size = wa.heap.size + 1 := by simp
  generalize wa.alloc (.cells #[.int .u64 0, .int .u64 0, .int .u64 0, .int .u64 0, .int .u64 0, .int .u64 0, .int .u64 0, .int .u64 0, .int .u64 0, .int .u64 0, .int .u64 0, .int .u64 0, .int .u64 0, .int .u64 0, .int .u64 0, .int .u64 0] 138) = wb at *
  rw [z0] at B1 z1
  have B0 := B0.up n1
  have N1 := nxt n0 n1
  have FW := fillWords_64 wb (w.heap.size + 1) 0 16 16 (Seg.blk B1) g a c xs (hr.up N1) hb HL.out (by decide) (by decide) (by omega)
  rw [HL.out] at FW
  clear n0 n1 hl hr
  have FH := hide FW
  clear FW
  refine FH.out.mono ?_
  rintro r w2 ⟨rfl, ys, ⟨yl, yv⟩, S2, X2⟩
  obtain rfl : ys = lsw (wd 8 xs) := eq_of_getD (by rw [yl, lsw_len]) (fun i hi => by rw [yl] at hi; rw [yv i hi, lsw_get _ _ hi])
  have B0 := B0.of_block (X2.only.block w.heap.size (by omega))
  have N2 : Below w.heap.size w w2 := N1.trans (X2.only.below (by omega))
  have RG := S2.range
  obtain ⟨t0, H0⟩ := B0
  have SR := setRow_heap w2 w.heap.size _ ((lsw (wd 8 xs)).map (Value.int .u64)).toArray _ _ H0
  have SN : Below w.heap.size w (w2.setRow w.heap.size ((lsw (wd 8 xs)).map (Value.int .u64)).toArray) := N2.trans ⟨rfl, rfl, rfl, by simp, fun i hi => setRow_other w2 _ i _ (by omega)⟩
  have V : Hid (agw .u64 (wd 8 xs) = .agg ((lsw (wd 8 xs)).map (Value.int .u64)).toArray) := rfl
  have L : Hid (((lsw (wd 8 xs)).map (Value.int .u64)).length = 16) := by show _ = _; rw [List.length_map]; rfl
  have O := one_ints .u64 (lsw (wd 8 xs))
  generalize (lsw (wd 8 xs)).map (Value.int .u64) = vs at *
  clear FH X2 S2 yl yv N1 N2 B1
  go_wp2_with (first
    | (refine wpList_load_mid rfl 138 (.tmp 3) rfl (w.heap.size + 1) 0 rfl vs (.array 16 39) RG und16_64 rfl (by rw [L.out]; exact info16_64) ?_)
    | (refine wpList_store_row rfl 138 (.tmp 2) (.tmp 7) rfl w.heap.size vs.toArray rfl rfl t0 _ H0 (by rw [List.size_toArray, L.out]; exact info16_64) (by rw [List.size_toArray, List.size_toArray, L.out]; rfl) O ?_))
  exact bodyPost_ret (v := .agg vs.toArray) (results_cell_row Tryz.results75 _ _ w.heap.size t0 vs.toArray (0, 0) (.array 16 39) rfl SR und16_64 rfl (by rw [List.size_toArray, L.out]; exact info16_64)) rfl ⟨by rw [V.out], SN⟩
set_option maxHeartbeats 4000000 in
theorem bytes_64 (w : World) (s : S8) (hs : Ok64 s) :
    Calls Tryz.prog 77 #[ag8 .u64 s] w fun e w' => NewRow w.heap.size w' e .u8 (tell64 s) ∧ Below w.heap.size w w' := by
  obtain ⟨i0, hi, hz0, hz1, hz2⟩ := info_parts Tryz.info5
  have n0 : Below w.heap.size w (w.alloc (.cells #[.int .u64 s.a, .int .u64 s.b, .int .u64 s.c, .int .u64 s.d, .int .u64 s.e, .int .u64 s.f, .int .u64 s.g, .int .u64 s.h] 97)) := (Below.refl _ _).alloc (Nat.le_refl _) _
  have B0 := blk_ag8 w .u64 97 s
  have z0 : (w.alloc (.cells #[.int .u64 s.a, .int .u64 s.b, .int .u64 s.c, .int .u64 s.d, .int .u64 s.e, .int .u64 s.f, .int .u64 s.g, .int .u64 s.h] 97)).heap.size = w.heap.size + 1 := by simp
  have TL := hide (tell_len64 s)
  have TG := fun i h => hide (tell_get64 s i h)
  have SW : ∀ p, p < 8 → Wd64 (s.l.getD p 0) := by
    obtain ⟨h1, h2, h3, h4, h5, h6, h7, h8⟩ := hs
    intro p hp
    obtain rfl | rfl | rfl | rfl | rfl | rfl | rfl | rfl : p = 0 ∨ p = 1 ∨ p = 2 ∨ p = 3 ∨ p = 4 ∨ p = 5 ∨ p = 6 ∨ p = 7 := by omega
    all_goals assumption
  simp only [ag8]
  go_enter Tryz.func77, Tryz.ntmps77
  go_wp2_with fail
  generalize w.alloc (.cells #[.int .u64 s.a, .int .u64 s.b, .int .u64 s.c, .int .u64 s.d, .int .u64 s.e, .int .u64 s.f, .int .u64 s.g, .int .u64 s.h] 97) = wa at *
  refine (wordSize_64 wa).mono ?_
  rintro r wa' ⟨rfl, rfl⟩
  go_wp2_with (at_make; refine wpList_make_full _ rfl _ _ 22 rfl wa'.heap.size 5 i0 (.int .u8 0) 1 Tryz.underlying22 hi hz0 hz1 .i64 .i64 _ _ 64 rfl rfl rfl rfl (by rw [hz2]; decide) (by unfold maxLen; decide) (Nat.le_refl _) ?_; intro w5 hown hgrow)
  have hB0 := Blk.of_made hown
  have hN0 : Below wa'.heap.size wa' w5 := (Below.refl _ _).grown hgrow (Nat.le_refl _) (by simp)
  have B0 := B0.up hN0
  have N := nxt n0 hN0
  rw [z0] at hB0
  have CP : CopyTo (tell64 s) (List.replicate 64 0) 0 := ⟨by rw [TL.out]; simp, fun j h => absurd h (by omega)⟩
  clear hown hgrow hN0 n0
  go_loopw [12] (fun i wr => ∃ (j : Nat) (ys : List Int), j ≤ 64 ∧ i = .int .i64 j ∧ CopyTo (tell64 s) ys j ∧ Blk wr (w.heap.size + 1) .u8 ys ∧ Blk wr w.heap.size .u64 s.l ∧ Below w.heap.size w wr) (fun i _ => 64 - (intOf i).toNat)
  case atStart => exact ⟨0, _, Nat.zero_le _, rfl, CP, hB0, B0, N⟩
  case round =>
    obtain ⟨j, ys, hj, rfl, hC, hY, hS, hN⟩ := hrel
    clear CP hB0 B0 N
    by_cases hlt : j < 64
    · have R := hC.step (by rw [TL.out]; exact hlt)
      have tg := (TG j hlt).out
      have yl : ys.length = 64 := hC.1.trans TL.out
      have cs := hS.cell (i := j / 8) (by rw [S8.l_len]; omega)
      have cy := hY.cell (i := j) (by omega)
      have fy := hY.free j
      have sw := SW (j / 8) (by omega)
      have Y' := hY.store j ((tell64 s).getD j 0)
      have S' := hS.of_block (w' := wr.setCell ⟨w.heap.size + 1, j, none⟩ (.int .u8 ((tell64 s).getD j 0))) (heap_setCell_other _ ⟨w.heap.size + 1, j, none⟩ _ _ (by show w.heap.size ≠ w.heap.size + 1; omega))
      have N' : Below w.heap.size w (wr.setCell ⟨w.heap.size + 1, j, none⟩ (.int .u8 ((tell64 s).getD j 0))) := hN.setCell (by show w.heap.size ≤ w.heap.size + 1; omega) _
      rw [tg] at R Y' S' N'
      have d1 : (j : Int) / 8 = ((j / 8 : Nat) : Int) := by omega
      have d2 : ((j / 8 : Nat) : Int) < 8 := by omega
      have d3 : (j : Int) % 8 = ((j % 8 : Nat) : Int) := by omega
      have d4 : (7 : Int) - ((j % 8 : Nat) : Int) = ((8 - 1 - j % 8 : Nat) : Int) := by omega
      have d5 : 8 - 1 - j % 8 ≤ 7 := by omega
      have d6 : (j : Int) < 64 := by omega
      generalize ys.getD j 0 = y0 at *
      generalize j / 8 = p at *
      generalize s.l.getD p 0 = v at *
      generalize 8 - 1 - j % 8 = sh at *
      generalize j % 8 = rm at *
      obtain ⟨v0, v1⟩ := sw
      clear hC hY hS hN tg TG SW yl
      go_wp2_with fail
      go_region
      go_wp2
      go_roundw
      case rel => exact ⟨j + 1, _, by omega, by go_num, R, Y'.drew, S'.drew, N'.drew⟩
      case measure => simp [intOf]; omega
    · obtain rfl : j = 64 := by omega
      have K := hide (show ys = tell64 s from CopyTo.all (by rw [TL.out]; exact hC))
      clear hC
      go_wp2
      go_ret
      refine ⟨⟨_, 64, w.heap.size + 1, by rw [TL.out]; rfl, ?_, by simp, by rw [TL.out]; exact Nat.le_refl _, by omega⟩, hN⟩
      rw [← K.out]
      exact hY.own0
end Go.Proofs.YtkglcainhkbgbaaGreatDoor
namespace Go.Proofs.YtkglcainhkbgbaaGreatDoor
set_option maxRecDepth 100000
open Go Go.RowKit
theorem infoH_64 : (Tryz.prog.info? 100).map (·.size) = some 137 := by kernel_rfl
set_option maxHeartbeats 4000000 in
theorem restSize_64 (w : World) (L : Int) (C : S8) (R : List Int) (hl : R.length = 128) (h0 : 0 ≤ L) :
    Calls Tryz.prog 73 #[.agg (hcl .u64 L C R).toArray] w fun e w' => e = .returned (.int .i64 (L % 128)) ∧ Below w.heap.size w w' := by
  have n0 : Below w.heap.size w (w.alloc (.cells (hcl .u64 L C R).toArray 100)) := (Below.refl _ _).alloc (Nat.le_refl _) _
  have H0 := HB.alloc .u64 w 100 L C hl
  generalize hv : hcl .u64 L C R = vs at *
  go_enter Tryz.func73, Tryz.ntmps73
  go_wp2_with fail
  generalize w.alloc (.cells vs.toArray 100) = wa at *
  have c0 := H0.c0
  go_quiet ((go_at_call 72; exact Calls.quiet_of_same (blockSize_64 _)))
  go_wp2
  go_ret
  exact ⟨rfl, below_drewN n0 _⟩
theorem undH_64 : (Tryz.prog.underlying 100).map (·.isRow) = some true := by kernel_rfl
abbrev zH64 : Obj := .cells (List.toArray (.int .i64 0 :: .int .u64 0 :: .int .u64 0 :: .int .u64 0 :: .int .u64 0 :: .int .u64 0 :: .int .u64 0 :: .int .u64 0 :: .int .u64 0 :: .int .u8 0 :: .int .u8 0 :: .int .u8 0 :: .int .u8 0 :: .int .u8 0 :: .int .u8 0 :: .int .u8 0 :: .int .u8 0 :: .int .u8 0 :: .int .u8 0 :: .int .u8 0 :: .int .u8 0 :: .int .u8 0 :: .int .u8 0 :: .int .u8 0 :: .int .u8 0 :: .int .u8 0 :: .int .u8 0 :: .int .u8 0 :: .int .u8 0 :: .int .u8 0 :: .int .u8 0 :: .int .u8 0 :: .int .u8 0 :: .int .u8 0 :: .int .u8 0 :: .int .u8 0 :: .int .u8 0 :: .int .u8 0 :: .int .u8 0 :: .int .u8 0 :: .int .u8 0 :: .int .u8 0 :: .int .u8 0 :: .int .u8 0 :: .int .u8 0 :: .int .u8 0 :: .int .u8 0 :: .int .u8 0 :: .int .u8 0 :: .int .u8 0 :: .int .u8 0 :: .int .u8 0 :: .int .u8 0 :: .int .u8 0 :: .int .u8 0 :: .int .u8 0 :: .int .u8 0 :: .int .u8 0 :: .int .u8 0 :: .int .u8 0 :: .int .u8 0 :: .int .u8 0 :: .int .u8 0 :: .int .u8 0 :: .int .u8 0 :: .int .u8 0 :: .int .u8 0 :: .int .u8 0 :: .int .u8 0 :: .int .u8 0 :: .int .u8 0 :: .int .u8 0 :: .int .u8 0 :: .int .u8 0 :: .int .u8 0 :: .int .u8 0 :: .int .u8 0 :: .int .u8 0 :: .int .u8 0 :: .int .u8 0 :: .int .u8 0 :: .int .u8 0 :: .int .u8 0 :: .int .u8 0 :: .int .u8 0 :: .int .u8 0 :: .int .u8 0 :: .int .u8 0 :: .int .u8 0 :: .int .u8 0 :: .int .u8 0 :: .int .u8 0 :: .int .u8 0 :: .int .u8 0 :: .int .u8 0 :: .int .u8 0 :: .int .u8 0 :: .int .u8 0 :: .int .u8 0 :: .int .u8 0 :: .int .u8 0 :: .int .u8 0 :: .int .u8 0 :: .int .u8 0 :: .int .u8 0 :: .int .u8 0 :: .int .u8 0 :: .int .u8 0 :: .int .u8 0 :: .int .u8 0 :: .int .u8 0 :: .int .u8 0 :: .int .u8 0 :: .int .u8 0 :: .int .u8 0 :: .int .u8 0 :: .int .u8 0 :: .int .u8 0 :: .int .u8 0 :: .int .u8 0 :: .int .u8 0 :: .int .u8 0 :: .int .u8 0 :: .int .u8 0 :: .int .u8 0 :: .int .u8 0 :: .int .u8 0 :: .int .u8 0 :: .int .u8 0 :: .int .u8 0 :: .int .u8 0 :: .int .u8 0 :: .int .u8 0 :: .int .u8 0 :: .int .u8 0 :: .int .u8 0 :: .int .u8 0 :: [])) 100
set_option maxRecDepth 20000 in
theorem zeroH_64 : (.int .i64 0 :: .int .u64 0 :: .int .u64 0 :: .int .u64 0 :: .int .u64 0 :: .int .u64 0 :: .int .u64 0 :: .int .u64 0 :: .int .u64 0 :: .int .u8 0 :: .int .u8 0 :: .int .u8 0 :: .int .u8 0 :: .int .u8 0 :: .int .u8 0 :: .int .u8 0 :: .int .u8 0 :: .int .u8 0 :: .int .u8 0 :: .int .u8 0 :: .int .u8 0 :: .int .u8 0 :: .int .u8 0 :: .int .u8 0 :: .int .u8 0 :: .int .u8 0 :: .int .u8 0 :: .int .u8 0 :: .int .u8 0 :: .int .u8 0 :: .int .u8 0 :: .int .u8 0 :: .int .u8 0 :: .int .u8 0 :: .int .u8 0 :: .int .u8 0 :: .int .u8 0 :: .int .u8 0 :: .int .u8 0 :: .int .u8 0 :: .int .u8 0 :: .int .u8 0 :: .int .u8 0 :: .int .u8 0 :: .int .u8 0 :: .int .u8 0 :: .int .u8 0 :: .int .u8 0 :: .int .u8 0 :: .int .u8 0 :: .int .u8 0 :: .int .u8 0 :: .int .u8 0 :: .int .u8 0 :: .int .u8 0 :: .int .u8 0 :: .int .u8 0 :: .int .u8 0 :: .int .u8 0 :: .int .u8 0 :: .int .u8 0 :: .int .u8 0 :: .int .u8 0 :: .int .u8 0 :: .int .u8 0 :: .int .u8 0 :: .int .u8 0 :: .int .u8 0 :: .int .u8 0 :: .int .u8 0 :: .int .u8 0 :: .int .u8 0 :: .int .u8 0 :: .int .u8 0 :: .int .u8 0 :: .int .u8 0 :: .int .u8 0 :: .int .u8 0 :: .int .u8 0 :: .int .u8 0 :: .int .u8 0 :: .int .u8 0 :: .int .u8 0 :: .int .u8 0 :: .int .u8 0 :: .int .u8 0 :: .int .u8 0 :: .int .u8 0 :: .int .u8 0 :: .int .u8 0 :: .int .u8 0 :: .int .u8 0 :: .int .u8 0 :: .int .u8 0 :: .int .u8 0 :: .int .u8 0 :: .int .u8 0 :: .int .u8 0 :: .int .u8 0 :: .int .u8 0 :: .int .u8 0 :: .int .u8 0 :: .int .u8 0 :: .int .u8 0 :: .int .u8 0 :: .int .u8 0 :: .int .u8 0 :: .int .u8 0 :: .int .u8 0 :: .int .u8 0 :: .int .u8 0 :: .int .u8 0 :: .int .u8 0 :: .int .u8 0 :: .int .u8 0 :: .int .u8 0 :: .int .u8 0 :: .int .u8 0 :: .int .u8 0 :: .int .u8 0 :: .int .u8 0 :: .int .u8 0 :: .int .u8 0 :: .int .u8 0 :: .int .u8 0 :: .int .u8 0 :: .int .u8 0 :: .int .u8 0 :: .int .u8 0 :: .int .u8 0 :: .int .u8 0 :: .int .u8 0 :: .int .u8 0 :: .int .u8 0 :: .int .u8 0 :: .int .u8 0 :: .int .u8 0 :: []) = hcl .u64 0 ⟨0, 0, 0, 0, 0, 0, 0, 0⟩ (List.replicate 128 0) := by rw [zero137]; kernel_rfl
theorem HB.zero64 (w : World) : HB .u64 (w.alloc zH64) w.heap.size 0 ⟨0, 0, 0, 0, 0, 0, 0, 0⟩ (List.replicate 128 0) := by
  unfold zH64
  rw [zeroH_64]
  exact HB.alloc _ _ _ _ _ (by simp)
theorem idx8_64 (n : Nat) (hn : n < 8) (W : World) : (Instr.index 63 (.agg #[.int .u64 7640891576956012808, .int .u64 13503953896175478587, .int .u64 4354685564936845355, .int .u64 11912009170470909681, .int .u64 5840696475078001361, .int .u64 11170449401992604703, .int .u64 2270897969802886507, .int .u64 6620516959819538809]) (.int .i64 (n : Int))).run Tryz.prog W = .ok (.int .u64 (stLh.getD n 0)) W := by
  obtain rfl | rfl | rfl | rfl | rfl | rfl | rfl | rfl : n = 0 ∨ n = 1 ∨ n = 2 ∨ n = 3 ∨ n = 4 ∨ n = 5 ∨ n = 6 ∨ n = 7 := by omega
  all_goals kernel_rfl
theorem start_is64 : ∀ n : Fin 8, start64.l.getD n.val 0 = stLh.getD n.val 0 := by decide +kernel
set_option maxRecDepth 20000 in
set_option maxHeartbeats 8000000 in
theorem newHashing_64 (w : World) (hT : HasT w 5 stLh) :
    Calls Tryz.prog 51 #[] w fun e w' => e = .returned (.agg (hcl .u64 0 start64 (List.replicate 128 0)).toArray) ∧ Below w.heap.size w w' := by
  go_enter Tryz.func51, Tryz.ntmps51
  go_upto_region 1 with fail
  change Code.wp _ _ _ _ (w.alloc zH64)
  have n0 : Below w.heap.size w (w.alloc zH64) := (Below.refl _ _).alloc (Nat.le_refl _) _
  have H0 := HB.zero64 w
  have z0 : (w.alloc zH64).heap.size = w.heap.size + 1 := by simp
  generalize w.alloc zH64 = wa at *
  go_upto_region 2 with fail
  change Code.wp _ _ _ _ (wa.alloc zH64)
  have n1 : Below wa.heap.size wa (wa.alloc zH64) := (Below.refl _ _).alloc (Nat.le_refl _) _
  have H1 := HB.zero64 wa
  have z1 : (wa.alloc zH64).heap.size = wa.heap.size + 1 := by simp
  generalize wa.alloc zH64 = wb at *
  rw [z0] at H1 z1
  have H0 := H0.up n1
  have N := nxt n0 n1
  have hT2 := hT.up N
  have c0 : wb.cell? ⟨5, 0, none⟩ = some (.int .u64 7640891576956012808) := hT2 0 (by decide)
  have c1 : wb.cell? ⟨5, 1, none⟩ = some (.int .u64 13503953896175478587) := hT2 1 (by decide)
  have c2 : wb.cell? ⟨5, 2, none⟩ = some (.int .u64 4354685564936845355) := hT2 2 (by decide)
  have c3 : wb.cell? ⟨5, 3, none⟩ = some (.int .u64 11912009170470909681) := hT2 3 (by decide)
  have c4 : wb.cell? ⟨5, 4, none⟩ = some (.int .u64 5840696475078001361) := hT2 4 (by decide)
  have c5 : wb.cell? ⟨5, 5, none⟩ = some (.int .u64 11170449401992604703) := hT2 5 (by decide)
  have c6 : wb.cell? ⟨5, 6, none⟩ = some (.int .u64 2270897969802886507) := hT2 6 (by decide)
  have c7 : wb.cell? ⟨5, 7, none⟩ = some (.int .u64 6620516959819538809) := hT2 7 (by decide)
  clear n0 n1 hT hT2
  go_wp2_with fail
  have Z1 : Seg wb (w.heap.size + 1) 1 .u64 (List.replicate 8 0) := H1.ch
  go_loopw [5] (fun i wr => ∃ (n : Nat) (ys : List Int), n ≤ 8 ∧ i = .int .i64 n ∧ ys.length = 8 ∧ (∀ j, j < n → ys.getD j 0 = start64.l.getD j 0) ∧ Seg wr (w.heap.size + 1) 1 .u64 ys ∧ SegX (w.heap.size + 1) 1 8 wb wr) (fun i _ => 8 - (intOf i).toNat)
  case atStart => exact ⟨0, _, Nat.zero_le _, rfl, by simp, fun j h => absurd h (by omega), Z1, SegX.refl _ _ _ _⟩
  case round =>
    obtain ⟨n, ys, hn, rfl, hy, hv, hS, hX⟩ := hrel
    clear c0 c1 c2 c3 c4 c5 c6 c7
    by_cases hlt : n < 8
    · have sl := stL_lt ⟨n, hlt⟩
      have si := start_is64 ⟨n, hlt⟩
      have UB : ∀ w, Hid (Calls Tryz.prog 71 #[.int .u64 (stLh.getD n 0)] w fun e w' => e = .returned (.int .u64 (start64.l.getD n 0)) ∧ w' = w) := fun w => by
        show Calls _ _ _ _ _
        rw [si]
        exact upperBits_64 w (stLh.getD n 0) sl.1 sl.2
      have S' := hS.store n (by omega) (start64.l.getD n 0)
      have X' := hX.trans (SegX.set wr (w.heap.size + 1) 1 8 n hlt (.int .u64 (start64.l.getD n 0)))
      have V' : ∀ j, j < n + 1 → (ys.set n (start64.l.getD n 0)).getD j 0 = start64.l.getD j 0 := by
        intro j hj
        by_cases e : n = j
        · subst e
          rw [getD_set_self _ _ _ (by omega)]
        · rw [getD_set_ne _ _ _ _ e]
          exact hv j (by omega)
      have L' : (ys.set n (start64.l.getD n 0)).length = 8 := by rw [List.length_set]; exact hy
      obtain ⟨h1, h2⟩ := hS n (by omega)
      have IX := fun W => idx8_64 n hlt W
      have n8 : (n : Int) < 8 := by omega
      generalize start64.l.getD n 0 = sv at UB S' X' L' V' ⊢
      generalize stLh.getD n 0 = su at UB IX
      have VH := hide V'
      clear hS hX hv sl si hy V'
      generalize ys.getD n 0 = y0 at h1
      go_wp2_with fail
      refine (UB _).out.mono ?_
      rintro x wx ⟨rfl, rfl⟩
      go_wp2
      go_roundw
      case rel => exact ⟨n + 1, _, by omega, by go_num, L', VH.out, S', X'⟩
      case measure => simp [intOf]; omega
    · obtain rfl : n = 8 := by omega
      obtain rfl : ys = start64.l := eq_of_getD (by rw [hy]; rfl) (fun i hi => hv i (by omega))
      have H1' := H1.of_seg hX hS
      have H0' := H0.of_block (hX.only.block w.heap.size (by omega))
      have N' : Below w.heap.size w wr := N.trans (hX.only.below (by omega))
      clear H1 H0 N hX hS hv hy
      have L1 := hcl_len .u64 0 start64 (R := List.replicate 128 0) (by simp)
      have O1 := hcl_one .u64 0 start64 (List.replicate 128 0)
      have RG := H1'.range
      have TH := H0'.there
      have VH : Hid (∀ v, v = hcl .u64 0 start64 (List.replicate 128 0) → v.length = 137 ∧ (wr.setCells w.heap.size 0 v).rangeAt w.heap.size 0 v) := by
        rintro v rfl
        exact ⟨L1, World.rangeAt_setCells_same wr w.heap.size 0 _ (by rw [L1]; exact TH)⟩
      have N2 : ∀ v, Below w.heap.size w (wr.setCells w.heap.size 0 v) := fun v => N'.trans ((only_setCells wr w.heap.size v 0).below (Nat.le_refl _))
      generalize hvs : hcl .u64 0 start64 (List.replicate 128 0) = vs at *
      obtain ⟨d, hd, hrow⟩ : ∃ d, Tryz.prog.underlying 100 = some d ∧ d.isRow = true := by
        have h := undH_64
        cases hq : Tryz.prog.underlying 100 with
        | none => rw [hq] at h; simp at h
        | some d => rw [hq] at h; exact ⟨d, rfl, by simpa using h⟩
      go_wp2_with (first
        | (refine wpList_load_mid rfl 100 (.tmp 1) rfl (w.heap.size + 1) 0 rfl vs d RG hd hrow (by rw [L1]; exact infoH_64) ?_)
        | (refine wpList_store_mid rfl 100 (.tmp 0) (.tmp 15) rfl w.heap.size 0 vs.toArray rfl rfl ?hth ?hin ?hon ?_))
      case hth => show wr.there w.heap.size 0 vs.length; rw [L1]; exact TH
      case hin => show _ = some vs.length; rw [L1]; exact infoH_64
      case hon => exact O1
      obtain ⟨-, RR⟩ := VH.out vs rfl
      exact bodyPost_ret (v := .agg vs.toArray) (results_cell_m Tryz.results51 _ _ w.heap.size vs d rfl RR hd hrow (by rw [L1]; exact infoH_64)) rfl ⟨by rw [hvs], N2 vs⟩
end Go.Proofs.YtkglcainhkbgbaaGreatDoor
namespace Go.Proofs.YtkglcainhkbgbaaGreatDoor
set_option maxRecDepth 100000
open Go Go.RowKit
set_option maxHeartbeats 8000000 in
theorem take_64 (w : World) (q L : Nat) (C : S8) (R : List Int) (hH : HB .u64 w q (L : Int) C R) (hC : Ok64 C) (hR : Byt R) (g : Nat) (a : Option Addr) (c : Nat) (xs : List Int) (hr : Rd w g a .u8 xs) (hx : Byt xs) (hc : xs.length ≤ c)
    (hg : 0 < xs.length → g ≠ q) (hL : L + xs.length ≤ 1152921504606846976) (hT : HasT w 7 kL) (hq : 7 ≠ q) :
    Calls Tryz.prog 52 #[.pointer (some ⟨q, 0, none⟩), .slice a xs.length c] w fun e w' => e = .returned (.tuple #[]) ∧ ∃ R', HB .u64 w' q ((L + xs.length : Nat) : Int) (whole64 C (R.take (L % 128) ++ xs)) R' ∧ Byt R' ∧ R'.take ((L + xs.length) % 128) = left64 (R.take (L % 128) ++ xs) ∧ Bth q w w' := by
  obtain ⟨Lt, hLt⟩ : ∃ n, n = L + xs.length := ⟨_, rfl⟩
  obtain ⟨Wt, hWt⟩ : ∃ s, s = whole64 C (R.take (L % 128) ++ xs) := ⟨_, rfl⟩
  obtain ⟨Lf, hLf⟩ : ∃ l, l = left64 (R.take (L % 128) ++ xs) := ⟨_, rfl⟩
  rw [← hLt, ← hWt, ← hLf]
  rw [← hLt] at hL
  have HLt := hide hLt.symm
  have HWt := hide hWt.symm
  have HLf := hide hLf.symm
  clear hLt hWt hLf
  go_enter Tryz.func52, Tryz.ntmps52
  go_wp2_with fail
  go_quiet ((go_at_call 72; exact Calls.quiet_of_same (blockSize_64 _)))
  go_wp2_with fail
  have B0 : Bth q w (w.drewN nq) := ⟨rfl, rfl, rfl, Nat.le_refl _, fun _ _ _ => rfl⟩
  have H0 : HB .u64 (w.drewN nq) q (L : Int) C R := hH.of_block rfl
  have T0 : HasT (w.drewN nq) 7 kL := hT
  have R0 : Rd (w.drewN nq) g a .u8 xs := hr
  generalize w.drewN nq = w0 at *
  go_loopw [1] (fun v wr => ∃ (L1 c1 : Nat) (C1 : S8) (R1 xs1 : List Int) (a1 : Option Addr), v = .slice a1 xs1.length c1 ∧ HB .u64 wr q (L1 : Int) C1 R1 ∧ Ok64 C1 ∧ Byt R1 ∧ Rd wr g a1 .u8 xs1 ∧ Byt xs1 ∧ xs1.length ≤ c1 ∧ xs1.length ≤ xs.length ∧ Hid (L1 + xs1.length = Lt) ∧ Hid (whole64 C1 (R1.take (L1 % 128) ++ xs1) = Wt) ∧ Hid (left64 (R1.take (L1 % 128) ++ xs1) = Lf) ∧ HasT wr 7 kL ∧ Bth q w wr) (fun v _ => vlen v)
  case atStart => exact ⟨L, c, C, R, xs, a, rfl, H0, hC, hR, R0, hx, hc, Nat.le_refl _, HLt, HWt, HLf, T0, B0⟩
  case round =>
    obtain ⟨L1, c1, C1, R1, xs1, a1, rfl, hH1, hC1, hR1, hr1, hx1, hc1, hle, hL1, hW1, hF1, hT1, hB1⟩ := hrel
    clear H0 R0 T0 B0 hH hC hR hr hx hT HLt HWt HLf
    by_cases hlt : 0 < xs1.length
    · have hgq := hg (by omega)
      obtain ⟨o1, rfl, hcc⟩ := id hr1 hlt
      obtain ⟨r, er⟩ : ∃ r, r = L1 % 128 := ⟨_, rfl⟩
      have rl : r < 128 := by omega
      have rz : (L1 : Int) % 128 = (r : Int) := by omega
      have rl2 : (r : Int) ≤ 128 := by omega
      have ER := hide er
      clear er
      obtain ⟨n1, hn1⟩ : ∃ n, xs1.length = n := ⟨_, rfl⟩
      have l1 : (0 : Int) < (n1 : Int) := by omega
      have RG := hH1.range
      have RS := restSize_64 wr (L1 : Int) C1 R1 hH1.len (by omega)
      rw [rz] at RS
      have RSH := hide RS
      have LH := hide (hcl_len .u64 (L1 : Int) C1 hH1.len)
      have RN := hide hH1.len
      clear RS
      obtain ⟨d, hd, hrow⟩ : ∃ d, Tryz.prog.underlying 100 = some d ∧ d.isRow = true := by
        have h := undH_64
        cases hq : Tryz.prog.underlying 100 with
        | none => rw [hq] at h; simp at h
        | some d => rw [hq] at h; exact ⟨d, rfl, by simpa using h⟩
      generalize hcl .u64 (L1 : Int) C1 R1 = vs at *
      rw [hn1]
      have HN := hide hn1
      clear hn1
      go_wp2_with (refine wpList_load_mid rfl 100 (.tmp 16) rfl q 0 rfl vs d RG hd hrow (by rw [LH.out]; exact infoH_64) ?_)
      refine RSH.out.mono ?_
      rintro x w2 ⟨rfl, n2⟩
      clear RSH
      go_wp2_with fail
      obtain ⟨t, ht⟩ : ∃ t, t = min (128 - r) n1 := ⟨_, rfl⟩
      obtain ⟨tk, htk⟩ : ∃ l, l = xs1.take t := ⟨_, rfl⟩
      have tl : tk.length = t := by rw [htk, List.length_take, HN.out]; omega
      have H2 := hH1.up n2
      have hrun := run_copy_cells (P := Tryz.prog) w2 22 22 3 5 q (9 + r) (128 - r) (128 - r) ⟨g, o1, none⟩ n1 c1 (tk.map (Value.int .u8)) und22h s5 (by rw [List.length_map, tl, ht]; exact Nat.min_comm _ _)
        (fun j v hj => by
          have hjl : j < tk.length := by have := (List.getElem?_eq_some_iff.1 hj).1; simpa using this
          have e : tk.getD j 0 = xs1.getD j 0 := by rw [htk, List.getD_eq_getElem?_getD, List.getD_eq_getElem?_getD, List.getElem?_take, if_pos (by omega)]
          have hc' := (hr1.up n2) hlt
          obtain ⟨o', e', hcc'⟩ := hc'
          simp only [Option.some.injEq, Addr.mk.injEq, true_and, and_true] at e'
          subst e'
          rw [Addr.add_mid, hcc' j (by rw [HN.out]; omega), ← e]
          simpa [hjl] using hj)
        (fun j hj => by
          rw [List.length_map, tl] at hj
          have := H2.rs (r + j) (by rw [H2.len]; omega)
          rw [show 9 + (r + j) = 9 + r + j by omega] at this
          rw [this.1]; rfl)
        (fun j hj => by
          rw [List.length_map, tl] at hj
          have := H2.rs (r + j) (by rw [H2.len]; omega)
          rw [show 9 + (r + j) = 9 + r + j by omega] at this
          exact this.2)
        (fun v hv => by obtain ⟨x, _, rfl⟩ := List.mem_map.1 hv; rfl)
      rw [List.length_map, tl] at hrun
      have H3 := H2.setR r tk (by omega)
      have Q3 := only_setCells w2 q (tk.map (Value.int .u8)) (9 + r)
      have B3 : Bth q w (w2.setCells q (9 + r) (tk.map (Value.int .u8))) := (hB1.trans (Bth.of_below n2)).trans (Bth.of_only Q3)
      have T3 : HasT (w2.setCells q (9 + r) (tk.map (Value.int .u8))) 7 kL := (hT1.up n2).of_block (Q3.block _ hq)
      have r3 : Rd (w2.setCells q (9 + r) (tk.map (Value.int .u8))) g (some ⟨g, o1, none⟩) .u8 xs1 := (hr1.up n2).of_block (Q3.block _ hgq)
      have c3 := H3.c0
      have f3 := H3.f0
      have H4 := H3.setL ((L1 : Int) + (t : Int))
      have Q4 := Only.setCell (w2.setCells q (9 + r) (tk.map (Value.int .u8))) q 0 (.int .i64 ((L1 : Int) + (t : Int)))
      have B4 := B3.trans (Bth.of_only Q4)
      have T4 := T3.of_block (Q4.block _ hq)
      have r4 := r3.of_block (Q4.block _ hgq)
      have t0 : 0 < t := by omega
      have tn : t ≤ n1 := by omega
      have tr : r + t ≤ 128 := by omega
      have tn' : (t : Int) ≤ (n1 : Int) := by omega
      have nc' : (n1 : Int) ≤ (c1 : Int) := by have := HN.out; omega
      have nb' : (L1 : Int) + (n1 : Int) ≤ 1152921504606846976 := by have := hL1.out; have := HN.out; omega
      have TT : Hid (t = min (128 - r) n1) := ht
      have TK := hide htk
      have TL := hide tl
      clear ht htk tl hH1 RG LH H2 H3 B3 T3 r3 Q3 Q4 hB1 hT1 hr1 hcc n2
      rw [hrun]
      clear hrun
      generalize w2.setCells q (9 + r) (tk.map (Value.int .u8)) = w3 at *
      have ly := lay_byt (r := r) hR1 (show Byt tk by rw [TK.out]; exact byt_takeh hx1 t)
      have mk : Hid ((lay R1 r tk).take (r + t) = R1.take r ++ tk) := by show _ = _; rw [← TL.out]; exact take_more (by rw [RN.out]; omega)
      have RG := H4.range
      have L4 := H4.len
      have RS := restSize_64 (w3.setCell ⟨q, 0, none⟩ (.int .i64 ((L1 : Int) + (t : Int)))) ((L1 : Int) + (t : Int)) C1 (lay R1 r tk) L4 (by omega)
      have LH := hide (hcl_len .u64 ((L1 : Int) + (t : Int)) C1 L4)
      generalize hcl .u64 ((L1 : Int) + (t : Int)) C1 (lay R1 r tk) = vs4 at *
      have RSH := hide RS
      have L4H := hide L4
      clear RS L4
      by_cases hct : c1 = t
      · have hct2 := hct.symm
        subst hct2
        go_wp2_with (refine wpList_load_mid rfl 100 (.tmp 34) rfl q 0 rfl vs4 d RG hd hrow (by rw [LH.out]; exact infoH_64) ?_)
        generalize w3.setCell ⟨q, 0, none⟩ (.int .i64 ((L1 : Int) + (t : Int))) = w4 at *
        refine RSH.out.mono ?_
        rintro x w5 ⟨rfl, n5⟩
        have H5 := H4.up n5
        have B5 := B4.trans (Bth.of_below n5)
        have T5 := T4.up n5
        have r5 : Rd w5 g (some ⟨g, o1, none⟩) .u8 (xs1.drop t) := by rw [List.drop_eq_nil_of_le (by have := HN.out; omega)]; exact Rd.nil _ _ _ _
        have dl : Hid ((xs1.drop t).length = n1 - t) := by show _ = _; rw [List.length_drop, HN.out]
        clear RSH RG LH H4 B4 T4 r4 n5 c3 f3
        by_cases hf : r + t = 128
        · have z5 : ((L1 : Int) + (t : Int)) % 128 = 0 := by have := ER.out; omega
          have bl : ((lay R1 r tk).take 128).length = 128 := by rw [List.length_take, L4H.out]; omega
          have bb : Byt ((lay R1 r tk).take 128) := byt_takeh ly _
          have be : (lay R1 r tk).take 128 = R1.take r ++ tk := by rw [← hf]; exact mk.out
          have rb : ∀ W, Below w5.heap.size w5 W → Rd W q (some ⟨q, 9, none⟩) .u8 ((lay R1 r tk).take 128) := fun W n _ => ⟨9, rfl, fun i hi => by
            have h := ((H5.up n).rs i (by rw [L4H.out]; omega)).1
            rw [List.getD_eq_getElem?_getD, List.getElem?_take, if_pos (by omega), ← List.getD_eq_getElem?_getD]
            exact h⟩
          obtain ⟨C2, hC2⟩ : ∃ s, s = blk64 C1 (wd 8 ((lay R1 r tk).take 128)) := ⟨_, rfl⟩
          have oC2 : Ok64 C2 := by rw [hC2]; exact blk_ok64 _ _
          have HC2 := hide hC2
          go_wp2_with fail
          refine region_put 10 9 7 47 45 _ (fun i => [Fact.eq (.pointer (some ⟨q, 0, none⟩)), Fact.eq (.pointer (some ⟨q, 0, none⟩)), Fact.eq (.pointer (some ⟨q, 0, none⟩)), Fact.eq (.pointer (some ⟨q, 1, none⟩)), Fact.eq (ag8 .u64 C1), Fact.eq (.slice (some ⟨q, 9, none⟩) 128 128), Fact.eq (agw .u64 (wd 8 ((lay R1 r tk).take 128))), Fact.eq (ag8 .u64 C2), Fact.eq (.pointer (some ⟨q, 0, none⟩)), Fact.eq (.pointer (some ⟨q, 1, none⟩))].getD i Fact.no) q 1 97 (C2.l.map (Value.int .u64)) (by kernel_rfl) (by kernel_rfl) rfl rfl rfl (by kernel_rfl) rfl (by kernel_rfl) rfl ?_ (by rw [List.length_map]; kernel_rfl) (one_ints _ _) ?_ ?_
          · intro W n j hj
            rw [List.length_map] at hj
            have h := (H5.up n).ch j hj
            exact ⟨by rw [h.1]; rfl, h.2⟩
          · skip
            intro i hi
            obtain rfl | rfl | rfl | rfl | rfl | rfl | rfl | rfl | rfl | rfl : i = 0 ∨ i = 1 ∨ i = 2 ∨ i = 3 ∨ i = 4 ∨ i = 5 ∨ i = 6 ∨ i = 7 ∨ i = 8 ∨ i = 9 := by omega
            · refine step_pure rfl fun a w hb hw hf => ?_
              have e0 : a.tmps[0]?.getD undef = .pointer (some ⟨q, 0, none⟩) := gdv (hb.2.2 0 (by kernel_rfl))
              exact ⟨.pointer (some ⟨q, 0, none⟩), by simp [go_sem, e0], rfl⟩
            · refine step_pure rfl fun a w hb hw hf => ?_
              have e0 : a.tmps[0]?.getD undef = .pointer (some ⟨q, 0, none⟩) := gdv (hb.2.2 0 (by kernel_rfl))
              exact ⟨.pointer (some ⟨q, 0, none⟩), by simp [go_sem, e0], rfl⟩
            · refine step_pure rfl fun a w hb hw hf => ?_
              have e39 : a.tmps[39]?.getD undef = .pointer (some ⟨q, 0, none⟩) := gdv (hf 1 39 (by kernel_rfl))
              exact ⟨.pointer (some ⟨q, 0, none⟩), by simp [go_sem, e39], rfl⟩
            · refine step_pure rfl fun a w hb hw hf => ?_
              have e40 : a.tmps[40]?.getD undef = .pointer (some ⟨q, 0, none⟩) := gdv (hf 2 40 (by kernel_rfl))
              exact ⟨.pointer (some ⟨q, 1, none⟩), by simp [go_sem, e40], rfl⟩
            · refine step_load rfl 97 (.tmp 41) rfl (.array 8 39) 8 (by kernel_rfl) rfl (by kernel_rfl) fun a w hb hw hf => ⟨q, 1, C1.l.map (Value.int .u64), hf 3 41 (by kernel_rfl), (H5.up hw).ch.range, by rw [List.length_map]; rfl, rfl⟩
            · refine step_pure rfl fun a w hb hw hf => ?_
              have e4 : a.tmps[4]?.getD undef = .slice (some ⟨q, 9, none⟩) 128 128 := gdv (hb.2.2 4 (by kernel_rfl))
              exact ⟨.slice (some ⟨q, 9, none⟩) 128 128, by simp [go_sem, e4], rfl⟩
            · refine step_callv rfl 75 _ _ rfl (by kernel_rfl) fun a w hb hw hf => ?_
              have e43 : a.tmps.getD 43 undef = .slice (some ⟨q, 9, none⟩) 128 128 := hf 5 43 (by kernel_rfl)
              show Calls Tryz.prog 75 #[a.tmps.getD 43 undef] w _
              rw [e43]
              exact (readBlock_64 w q (some ⟨q, 9, none⟩) 128 _ (rb w hw) bb bl).mono (by rintro r w' ⟨rfl, n⟩; exact ⟨_, rfl, n, rfl⟩)
            · refine step_callv rfl 74 _ _ rfl (by kernel_rfl) fun a w hb hw hf => ?_
              have e42 : a.tmps.getD 42 undef = ag8 .u64 C1 := hf 4 42 (by kernel_rfl)
              have e44 : a.tmps.getD 44 undef = agw .u64 (wd 8 ((lay R1 r tk).take 128)) := hf 6 44 (by kernel_rfl)
              show Calls Tryz.prog 74 #[a.tmps.getD 42 undef, a.tmps.getD 44 undef] w _
              rw [e42, e44]
              rw [HC2.out]; exact (behind_64 w C1 hC1 _ (fun i _ => wd_64 bb i) (T5.up hw)).mono (by rintro r w' ⟨rfl, n⟩; exact ⟨_, rfl, n, rfl⟩)
            · refine step_pure rfl fun a w hb hw hf => ?_
              have e38 : a.tmps[38]?.getD undef = .pointer (some ⟨q, 0, none⟩) := gdv (hf 0 38 (by kernel_rfl))
              exact ⟨.pointer (some ⟨q, 0, none⟩), by simp [go_sem, e38], rfl⟩
            · refine step_pure rfl fun a w hb hw hf => ?_
              have e46 : a.tmps[46]?.getD undef = .pointer (some ⟨q, 0, none⟩) := gdv (hf 8 46 (by kernel_rfl))
              exact ⟨.pointer (some ⟨q, 1, none⟩), by simp [go_sem, e46], rfl⟩
          intro vs6 W n6
          have H6 := (H5.up n6).setC C2
          have Q6 := only_setCells W q (C2.l.map (Value.int .u64)) 1
          have B6 := (B5.trans (Bth.of_below n6)).trans (Bth.of_only Q6)
          have T6 := (T5.up n6).of_block (Q6.block _ hq)
          have r6 := (r5.up n6).of_block (Q6.block _ hgq)
          simp only [puts, Act.put, List.setIfInBounds_toArray, List.set_cons_succ, List.set_cons_zero]
          generalize W.setCells q 1 (C2.l.map (Value.int .u64)) = w6 at *
          have lf : (L1 + t) % 128 = 0 := by have := ER.out; omega
          have whx : xs1 = tk ++ xs1.drop t := by rw [TK.out]; exact (List.take_append_drop t xs1).symm
          have KW : Hid (whole64 C2 ((lay R1 r tk).take ((L1 + t) % 128) ++ xs1.drop t) = Wt) := by
            show _ = _
            rw [lf, List.take_zero, List.nil_append, ← hW1.out, ← ER.out]
            conv => rhs; rw [whx, ← List.append_assoc, ← be, whole_app64 _ _ _ bl, ← HC2.out]
          have KF : Hid (left64 ((lay R1 r tk).take ((L1 + t) % 128) ++ xs1.drop t) = Lf) := by
            show _ = _
            rw [lf, List.take_zero, List.nil_append, ← hF1.out, ← ER.out]
            conv => rhs; rw [whx, ← List.append_assoc, ← be, left_app64 _ _ bl]
          clear mk bl bb be rb lf whx
          go_wp2
          go_roundw
          case rel => exact ⟨L1 + t, 0, C2, lay R1 r tk, xs1.drop t, _, by rw [dl.out], by rw [Int.natCast_add]; exact H6, oC2, ly, r6, byt_drop hx1 t, by rw [dl.out]; have := HN.out; omega, by rw [dl.out]; have := HN.out; omega, by show _ = _; rw [dl.out]; have := hL1.out; have := HN.out; omega, KW, KF, T6, B6⟩
          case measure => simp only [vlen_slice]; omega
        · have z5 : (((L1 : Int) + (t : Int)) % 128 == 0) = false := by have := ER.out; simp; omega
          obtain rfl : t = n1 := by have := TT.out; omega
          have lf : (L1 + t) % 128 = r + t := by have := ER.out; omega
          have dn : xs1.drop t = [] := List.drop_eq_nil_of_le (by rw [HN.out]; exact Nat.le_refl _)
          have tx : tk = xs1 := by rw [TK.out]; exact List.take_of_length_le (by rw [HN.out]; exact Nat.le_refl _)
          have KW : Hid (whole64 C1 ((lay R1 r tk).take ((L1 + t) % 128) ++ xs1.drop t) = Wt) := by
            show _ = _
            rw [lf, mk.out, dn, List.append_nil, tx, ER.out]
            exact hW1.out
          have KF : Hid (left64 ((lay R1 r tk).take ((L1 + t) % 128) ++ xs1.drop t) = Lf) := by
            show _ = _
            rw [lf, mk.out, dn, List.append_nil, tx, ER.out]
            exact hF1.out
          clear mk lf dn tx
          go_wp2
          go_roundw
          case rel => exact ⟨L1 + t, 0, C1, lay R1 r tk, xs1.drop t, _, by rw [dl.out, Nat.sub_self], by rw [Int.natCast_add]; exact H5, hC1, ly, r5, byt_drop hx1 t, by rw [dl.out]; have := HN.out; omega, by rw [dl.out]; have := HN.out; omega, by show _ = _; rw [dl.out]; have := hL1.out; have := HN.out; omega, KW, KF, T5, B5⟩
          case measure => simp only [vlen_slice]; omega
      · have hct' : ¬ ((c1 : Int) = (t : Int)) := by omega
        go_wp2_with (refine wpList_load_mid rfl 100 (.tmp 34) rfl q 0 rfl vs4 d RG hd hrow (by rw [LH.out]; exact infoH_64) ?_)
        generalize w3.setCell ⟨q, 0, none⟩ (.int .i64 ((L1 : Int) + (t : Int))) = w4 at *
        refine RSH.out.mono ?_
        rintro x w5 ⟨rfl, n5⟩
        have H5 := H4.up n5
        have B5 := B4.trans (Bth.of_below n5)
        have T5 := T4.up n5
        have r5 : Rd w5 g (some ⟨g, o1 + t, none⟩) .u8 (xs1.drop t) := rd_drop (t := t) (r4.up n5)
        have dl : Hid ((xs1.drop t).length = n1 - t) := by show _ = _; rw [List.length_drop, HN.out]
        clear RSH RG LH H4 B4 T4 r4 n5 c3 f3
        by_cases hf : r + t = 128
        · have z5 : ((L1 : Int) + (t : Int)) % 128 = 0 := by have := ER.out; omega
          have bl : ((lay R1 r tk).take 128).length = 128 := by rw [List.length_take, L4H.out]; omega
          have bb : Byt ((lay R1 r tk).take 128) := byt_takeh ly _
          have be : (lay R1 r tk).take 128 = R1.take r ++ tk := by rw [← hf]; exact mk.out
          have rb : ∀ W, Below w5.heap.size w5 W → Rd W q (some ⟨q, 9, none⟩) .u8 ((lay R1 r tk).take 128) := fun W n _ => ⟨9, rfl, fun i hi => by
            have h := ((H5.up n).rs i (by rw [L4H.out]; omega)).1
            rw [List.getD_eq_getElem?_getD, List.getElem?_take, if_pos (by omega), ← List.getD_eq_getElem?_getD]
            exact h⟩
          obtain ⟨C2, hC2⟩ : ∃ s, s = blk64 C1 (wd 8 ((lay R1 r tk).take 128)) := ⟨_, rfl⟩
          have oC2 : Ok64 C2 := by rw [hC2]; exact blk_ok64 _ _
          have HC2 := hide hC2
          go_wp2_with fail
          refine region_put 10 9 7 47 45 _ (fun i => [Fact.eq (.pointer (some ⟨q, 0, none⟩)), Fact.eq (.pointer (some ⟨q, 0, none⟩)), Fact.eq (.pointer (some ⟨q, 0, none⟩)), Fact.eq (.pointer (some ⟨q, 1, none⟩)), Fact.eq (ag8 .u64 C1), Fact.eq (.slice (some ⟨q, 9, none⟩) 128 128), Fact.eq (agw .u64 (wd 8 ((lay R1 r tk).take 128))), Fact.eq (ag8 .u64 C2), Fact.eq (.pointer (some ⟨q, 0, none⟩)), Fact.eq (.pointer (some ⟨q, 1, none⟩))].getD i Fact.no) q 1 97 (C2.l.map (Value.int .u64)) (by kernel_rfl) (by kernel_rfl) rfl rfl rfl (by kernel_rfl) rfl (by kernel_rfl) rfl ?_ (by rw [List.length_map]; kernel_rfl) (one_ints _ _) ?_ ?_
          · intro W n j hj
            rw [List.length_map] at hj
            have h := (H5.up n).ch j hj
            exact ⟨by rw [h.1]; rfl, h.2⟩
          · skip
            intro i hi
            obtain rfl | rfl | rfl | rfl | rfl | rfl | rfl | rfl | rfl | rfl : i = 0 ∨ i = 1 ∨ i = 2 ∨ i = 3 ∨ i = 4 ∨ i = 5 ∨ i = 6 ∨ i = 7 ∨ i = 8 ∨ i = 9 := by omega
            · refine step_pure rfl fun a w hb hw hf => ?_
              have e0 : a.tmps[0]?.getD undef = .pointer (some ⟨q, 0, none⟩) := gdv (hb.2.2 0 (by kernel_rfl))
              exact ⟨.pointer (some ⟨q, 0, none⟩), by simp [go_sem, e0], rfl⟩
            · refine step_pure rfl fun a w hb hw hf => ?_
              have e0 : a.tmps[0]?.getD undef = .pointer (some ⟨q, 0, none⟩) := gdv (hb.2.2 0 (by kernel_rfl))
              exact ⟨.pointer (some ⟨q, 0, none⟩), by simp [go_sem, e0], rfl⟩
            · refine step_pure rfl fun a w hb hw hf => ?_
              have e39 : a.tmps[39]?.getD undef = .pointer (some ⟨q, 0, none⟩) := gdv (hf 1 39 (by kernel_rfl))
              exact ⟨.pointer (some ⟨q, 0, none⟩), by simp [go_sem, e39], rfl⟩
            · refine step_pure rfl fun a w hb hw hf => ?_
              have e40 : a.tmps[40]?.getD undef = .pointer (some ⟨q, 0, none⟩) := gdv (hf 2 40 (by kernel_rfl))
              exact ⟨.pointer (some ⟨q, 1, none⟩), by simp [go_sem, e40], rfl⟩
            · refine step_load rfl 97 (.tmp 41) rfl (.array 8 39) 8 (by kernel_rfl) rfl (by kernel_rfl) fun a w hb hw hf => ⟨q, 1, C1.l.map (Value.int .u64), hf 3 41 (by kernel_rfl), (H5.up hw).ch.range, by rw [List.length_map]; rfl, rfl⟩
            · refine step_pure rfl fun a w hb hw hf => ?_
              have e4 : a.tmps[4]?.getD undef = .slice (some ⟨q, 9, none⟩) 128 128 := gdv (hb.2.2 4 (by kernel_rfl))
              exact ⟨.slice (some ⟨q, 9, none⟩) 128 128, by simp [go_sem, e4], rfl⟩
            · refine step_callv rfl 75 _ _ rfl (by kernel_rfl) fun a w hb hw hf => ?_
              have e43 : a.tmps.getD 43 undef = .slice (some ⟨q, 9, none⟩) 128 128 := hf 5 43 (by kernel_rfl)
              show Calls Tryz.prog 75 #[a.tmps.getD 43 undef] w _
              rw [e43]
              exact (readBlock_64 w q (some ⟨q, 9, none⟩) 128 _ (rb w hw) bb bl).mono (by rintro r w' ⟨rfl, n⟩; exact ⟨_, rfl, n, rfl⟩)
            · refine step_callv rfl 74 _ _ rfl (by kernel_rfl) fun a w hb hw hf => ?_
              have e42 : a.tmps.getD 42 undef = ag8 .u64 C1 := hf 4 42 (by kernel_rfl)
              have e44 : a.tmps.getD 44 undef = agw .u64 (wd 8 ((lay R1 r tk).take 128)) := hf 6 44 (by kernel_rfl)
              show Calls Tryz.prog 74 #[a.tmps.getD 42 undef, a.tmps.getD 44 undef] w _
              rw [e42, e44]
              rw [HC2.out]; exact (behind_64 w C1 hC1 _ (fun i _ => wd_64 bb i) (T5.up hw)).mono (by rintro r w' ⟨rfl, n⟩; exact ⟨_, rfl, n, rfl⟩)
            · refine step_pure rfl fun a w hb hw hf => ?_
              have e38 : a.tmps[38]?.getD undef = .pointer (some ⟨q, 0, none⟩) := gdv (hf 0 38 (by kernel_rfl))
              exact ⟨.pointer (some ⟨q, 0, none⟩), by simp [go_sem, e38], rfl⟩
            · refine step_pure rfl fun a w hb hw hf => ?_
              have e46 : a.tmps[46]?.getD undef = .pointer (some ⟨q, 0, none⟩) := gdv (hf 8 46 (by kernel_rfl))
              exact ⟨.pointer (some ⟨q, 1, none⟩), by simp [go_sem, e46], rfl⟩
          intro vs6 W n6
          have H6 := (H5.up n6).setC C2
          have Q6 := only_setCells W q (C2.l.map (Value.int .u64)) 1
          have B6 := (B5.trans (Bth.of_below n6)).trans (Bth.of_only Q6)
          have T6 := (T5.up n6).of_block (Q6.block _ hq)
          have r6 := (r5.up n6).of_block (Q6.block _ hgq)
          simp only [puts, Act.put, List.setIfInBounds_toArray, List.set_cons_succ, List.set_cons_zero]
          generalize W.setCells q 1 (C2.l.map (Value.int .u64)) = w6 at *
          have lf : (L1 + t) % 128 = 0 := by have := ER.out; omega
          have whx : xs1 = tk ++ xs1.drop t := by rw [TK.out]; exact (List.take_append_drop t xs1).symm
          have KW : Hid (whole64 C2 ((lay R1 r tk).take ((L1 + t) % 128) ++ xs1.drop t) = Wt) := by
            show _ = _
            rw [lf, List.take_zero, List.nil_append, ← hW1.out, ← ER.out]
            conv => rhs; rw [whx, ← List.append_assoc, ← be, whole_app64 _ _ _ bl, ← HC2.out]
          have KF : Hid (left64 ((lay R1 r tk).take ((L1 + t) % 128) ++ xs1.drop t) = Lf) := by
            show _ = _
            rw [lf, List.take_zero, List.nil_append, ← hF1.out, ← ER.out]
            conv => rhs; rw [whx, ← List.append_assoc, ← be, left_app64 _ _ bl]
          clear mk bl bb be rb lf whx
          go_wp2
          go_roundw
          case rel => exact ⟨L1 + t, c1 - t, C2, lay R1 r tk, xs1.drop t, _, by rw [dl.out], by rw [Int.natCast_add]; exact H6, oC2, ly, r6, byt_drop hx1 t, by rw [dl.out]; have := HN.out; omega, by rw [dl.out]; have := HN.out; omega, by show _ = _; rw [dl.out]; have := hL1.out; have := HN.out; omega, KW, KF, T6, B6⟩
          case measure => simp only [vlen_slice]; omega
        · have z5 : (((L1 : Int) + (t : Int)) % 128 == 0) = false := by have := ER.out; simp; omega
          obtain rfl : t = n1 := by have := TT.out; omega
          have lf : (L1 + t) % 128 = r + t := by have := ER.out; omega
          have dn : xs1.drop t = [] := List.drop_eq_nil_of_le (by rw [HN.out]; exact Nat.le_refl _)
          have tx : tk = xs1 := by rw [TK.out]; exact List.take_of_length_le (by rw [HN.out]; exact Nat.le_refl _)
          have KW : Hid (whole64 C1 ((lay R1 r tk).take ((L1 + t) % 128) ++ xs1.drop t) = Wt) := by
            show _ = _
            rw [lf, mk.out, dn, List.append_nil, tx, ER.out]
            exact hW1.out
          have KF : Hid (left64 ((lay R1 r tk).take ((L1 + t) % 128) ++ xs1.drop t) = Lf) := by
            show _ = _
            rw [lf, mk.out, dn, List.append_nil, tx, ER.out]
            exact hF1.out
          clear mk lf dn tx
          go_wp2
          go_roundw
          case rel => exact ⟨L1 + t, c1 - t, C1, lay R1 r tk, xs1.drop t, _, by rw [dl.out, Nat.sub_self], by rw [Int.natCast_add]; exact H5, hC1, ly, r5, byt_drop hx1 t, by rw [dl.out]; have := HN.out; omega, by rw [dl.out]; have := HN.out; omega, by show _ = _; rw [dl.out]; have := hL1.out; have := HN.out; omega, KW, KF, T5, B5⟩
          case measure => simp only [vlen_slice]; omega
    · obtain rfl : xs1 = [] := List.eq_nil_of_length_eq_zero (by omega)
      have e1 : L1 = Lt := by have := hL1.out; simpa using this
      have sh : (R1.take (L1 % 128)).length < 128 := by rw [List.length_take]; omega
      have e2 : C1 = Wt := by have := hW1.out; rw [List.append_nil, whole_short64 _ sh] at this; exact this
      have e3 : R1.take (L1 % 128) = Lf := by have := hF1.out; rw [List.append_nil, left_short64 sh] at this; exact this
      have E := hide (And.intro e1 (And.intro e2 e3))
      clear e1 e2 e3 sh hL1 hW1 hF1
      go_wp2
      obtain ⟨e1, e2, e3⟩ := E.out
      subst e1 e2
      exact bodyPost_end (v := .tuple #[]) (by simp [results, Tryz.results52, go_sem]) rfl ⟨rfl, R1, hH1, hR1, e3, hB1⟩
end Go.Proofs.YtkglcainhkbgbaaGreatDoor
namespace Go.Proofs.YtkglcainhkbgbaaGreatDoor
set_option maxRecDepth 100000
open Go Go.RowKit
theorem rowH_64 : ∃ d, Tryz.prog.underlying 100 = some d ∧ d.isRow = true := by
  have h := undH_64
  cases hq : Tryz.prog.underlying 100 with
  | none => rw [hq] at h; simp at h
  | some d => rw [hq] at h; exact ⟨d, rfl, by simpa using h⟩
theorem row8_64 : Tryz.prog.underlying 97 = some (.array 8 39) := by kernel_rfl
theorem info8_64 : (Tryz.prog.info? 97).map (·.size) = some 8 := by kernel_rfl
def endL64 (L : Nat) (C : S8) (R : List Int) : List Int := tell64 (whole64 C (R.take (L % 128) ++ padL (L : Int) 128 16))
set_option maxHeartbeats 4000000 in
theorem end_64 (w : World) (L : Nat) (C : S8) (R : List Int) (hl : R.length = 128) (hC : Ok64 C) (hR : Byt R) (hL : L ≤ 1099511627776) (hT : HasT w 7 kL) :
    Calls Tryz.prog 53 #[.agg (hcl .u64 (L : Int) C R).toArray] w fun e w' => NewRow w.heap.size w' e .u8 (endL64 L C R) ∧ Below w.heap.size w w' := by
  have n0 : Below w.heap.size w (w.alloc (.cells (hcl .u64 (L : Int) C R).toArray 100)) := (Below.refl _ _).alloc (Nat.le_refl _) _
  have H0 := HB.alloc .u64 w 100 (L : Int) C hl
  have z0 : (w.alloc (.cells (hcl .u64 (L : Int) C R).toArray 100)).heap.size = w.heap.size + 1 := by simp
  have gl : 7 < w.heap.size := block_lt_of_cell (hT 0 (by decide))
  have PD := fun w => hide (padding_64 w (L : Int) (by omega) (by omega))
  have PB := padL_byt (L : Int) 128 16
  have PL : (padL (L : Int) 128 16).length ≤ 512 := by rw [padL_len]; have := padZ_lt (L : Int) (B := 128) (t := 16) (by decide); omega
  generalize hv : hcl .u64 (L : Int) C R = vs at *
  unfold endL64
  generalize padL (L : Int) 128 16 = pl at *
  obtain ⟨C2, hC2⟩ : ∃ s, s = whole64 C (R.take (L % 128) ++ pl) := ⟨_, rfl⟩
  have oC : Ok64 C2 := by rw [hC2]; exact whole_ok64 hC _
  rw [← hC2]
  have TK0 := fun w1 q H1 g1 a1 c1 o1 q1 h1 h2 h3 h4 => take_64 w1 q L C R H1 hC hR g1 a1 c1 pl o1 PB q1 h1 h2 h3 h4
  rw [← hC2] at TK0
  clear hC2
  go_enter Tryz.func53, Tryz.ntmps53
  go_upto_region 1 with fail
  generalize w.alloc (.cells vs.toArray 100) = wa at *
  have c0 := H0.c0
  go_wp2_with fail
  refine (PD wa).out.mono ?_
  rintro r w1 ⟨⟨a1, c1, g1, rfl, o1, p1, q1, r1⟩, n1⟩
  have H1 := H0.up n1
  have N1 := nxt n0 n1
  have TK := TK0 w1 w.heap.size H1 g1 a1 c1 o1.rd q1 (fun _ => by omega) (by omega) (hT.up N1) (by omega)
  have TKH := hide TK
  clear TK PD H0 n1 c0 H1
  go_wp2_with fail
  refine TKH.out.mono ?_
  rintro r w2 ⟨rfl, R2, H2, b2, e2, B2⟩
  have N2 : Below w.heap.size w w2 := N1.trans (B2.below (by omega) N1.size)
  have RG := H2.ch.range
  have BY := hide (bytes_64 w2 C2 oC)
  clear TKH H2 b2 e2 B2 N1 o1 TK0
  go_wp2_with (refine wpList_load_mid rfl 97 (.tmp 7) rfl w.heap.size 1 rfl (C2.l.map (Value.int .u64)) (.array 8 39) RG row8_64 rfl (by rw [List.length_map]; exact info8_64) ?_)
  refine BY.out.mono ?_
  rintro r w3 ⟨⟨a3, c3, g3, rfl, o3, p3, q3, r3⟩, n3⟩
  have z2 := N2.size
  go_wp2
  go_ret
  exact ⟨⟨a3, c3, g3, rfl, o3, p3, q3, by omega⟩, nxt N2 n3⟩
theorem whole_left64 (s : S8) (l m : List Int) : whole64 (whole64 s l) (left64 l ++ m) = whole64 s (l ++ m) := by
  induction h : l.length using Nat.strongRecOn generalizing s l with
  | ind n ih =>
    by_cases c : l.length < 128
    · rw [whole_short64 s c, left_short64 c]
    · have hl : (l.take 128).length = 128 := by rw [List.length_take]; omega
      have e : l = l.take 128 ++ l.drop 128 := (List.take_append_drop _ _).symm
      have r := ih (l.drop 128).length (by rw [List.length_drop]; omega) (blk64 s (wd 8 (l.take 128))) (l.drop 128) rfl
      rw [e, whole_app64 _ _ _ hl, left_app64 _ _ hl, List.append_assoc, whole_app64 _ _ _ hl]
      exact r
def hashL64 (xs : List Int) : List Int := tell64 (whole64 start64 (xs ++ padL (xs.length : Int) 128 16))
theorem hash_is64 {R xs : List Int} (e : R.take (xs.length % 128) = left64 xs) : endL64 xs.length (whole64 start64 xs) R = hashL64 xs := by
  unfold endL64 hashL64
  rw [e, whole_left64]
set_option maxRecDepth 20000 in
set_option maxHeartbeats 8000000 in
theorem implHash_64 (w : World) (g : Nat) (a : Option Addr) (c : Nat) (xs : List Int) (hr : Rd w g a .u8 xs) (hx : Byt xs) (hc : xs.length ≤ c) (hn : xs.length ≤ 1099511627776) (hS : HasT w 5 stLh) (hT : HasT w 7 kL) :
    Calls Tryz.prog 32 #[.slice a xs.length c] w fun e w' => NewRow w.heap.size w' e .u8 (hashL64 xs) ∧ Below w.heap.size w w' := by
  have NH := hide (newHashing_64 w hS)
  have gl : 7 < w.heap.size := block_lt_of_cell (hT 0 (by decide))
  have L1 := hide (hcl_len .u64 0 start64 (R := List.replicate 128 0) (by simp))
  have O1 := hcl_one .u64 0 start64 (List.replicate 128 0)
  have HO : Hid (∀ W q, W.rangeAt q 0 (hcl .u64 0 start64 (List.replicate 128 0)) → W.there q 0 137 → HB .u64 W q ((0 : Nat) : Int) start64 (List.replicate 128 0)) := fun W q h1 h2 => HB.of_range (by simp) h1 h2
  obtain ⟨d, hd, hrow⟩ := rowH_64
  generalize hcl .u64 0 start64 (List.replicate 128 0) = vs at *
  have gr : 0 < xs.length → g < w.heap.size := fun h => hr.lt h
  go_enter Tryz.func32, Tryz.ntmps32
  go_wp2_with fail
  refine NH.out.mono ?_
  rintro r w1 ⟨rfl, n1⟩
  clear NH
  have z1 := n1.size
  have HZ := HB.zero64 w1
  have TH := HZ.there
  have na : Below w1.heap.size w1 (w1.alloc zH64) := (Below.refl _ _).alloc (Nat.le_refl _) _
  have sm := World.rangeAt_setCells_same (w1.alloc zH64) w1.heap.size 0 vs (by rw [L1.out]; exact TH)
  have th2 := World.there_setCells TH w1.heap.size 0 vs
  have O2 := only_setCells (w1.alloc zH64) w1.heap.size vs 0
  have H2 := HO.out _ _ sm th2
  have N2 : Below w.heap.size w ((w1.alloc zH64).setCells w1.heap.size 0 vs) := (nxt n1 na).trans (O2.below (by omega))
  go_wp2_with (refine wpList_store_mid rfl 100 (.tmp 3) (.tmp 4) rfl w1.heap.size 0 vs.toArray rfl rfl ?hth ?hin ?hon ?_)
  case hth => exact (show (w1.alloc zH64).there w1.heap.size 0 vs.length by rw [L1.out]; exact TH)
  case hin => show _ = some vs.length; rw [L1.out]; exact infoH_64
  case hon => exact O1
  have TK := take_64 ((w1.alloc zH64).setCells w1.heap.size 0 vs) w1.heap.size 0 start64 (List.replicate 128 0) H2 start_ok64 (byt_rep0 _) g a c xs (hr.up N2) hx hc (fun h => by have := gr h; omega) (by omega) (hT.up N2) (by omega)
  rw [Nat.zero_add, Nat.zero_mod, List.take_zero, List.nil_append] at TK
  have TKH := hide TK
  clear TK HZ TH sm th2 O2 H2 na HO
  change Calls _ _ _ ((w1.alloc zH64).setCells w1.heap.size 0 vs) _
  generalize hw2 : (w1.alloc zH64).setCells w1.heap.size 0 vs = w2 at *
  refine TKH.out.mono ?_
  rintro r w3 ⟨rfl, R3, H3, b3, e3, B3⟩
  have N3 : Below w.heap.size w w3 := N2.trans (B3.below (by omega) N2.size)
  have RG := H3.range
  have L3 := hide (hcl_len .u64 (xs.length : Int) (whole64 start64 xs) H3.len)
  have EN := end_64 w3 xs.length (whole64 start64 xs) R3 H3.len (whole_ok64 start_ok64 xs) b3 hn (hT.up N3)
  rw [hash_is64 e3] at EN
  have ENH := hide EN
  generalize hcl .u64 (xs.length : Int) (whole64 start64 xs) R3 = v3 at *
  clear EN TKH H3 b3 e3 B3 hw2 N2
  go_wp2_with (refine wpList_load_mid rfl 100 (.tmp 3) rfl w1.heap.size 0 rfl v3 d RG hd hrow (by rw [L3.out]; exact infoH_64) ?_)
  refine ENH.out.mono ?_
  rintro r w4 ⟨⟨a4, c4, g4, rfl, o4, p4, q4, r4⟩, n4⟩
  have z3 := N3.size
  go_wp2
  go_ret
  exact ⟨⟨a4, c4, g4, rfl, o4, p4, q4, by omega⟩, nxt N3 n4⟩
end Go.Proofs.YtkglcainhkbgbaaGreatDoor
namespace Go.Proofs.YtkglcainhkbgbaaGreatDoor
set_option maxRecDepth 100000
open Go Go.RowKit
theorem pv_mulB (k : Nat) : Pv (pMul k (bX, bY)) := ⟨pMul_on pv_base.on k, pMul_cn k _⟩
def sgB (v : Nat) : List Int := en (pMul v (bX, bY))
theorem en_form {p : Int × Int} (h : Pv p) : fill (byt (p.2 % PP + if (!decide (p.1 % PP % 2 = 0)) = true then 57896044618658097711785492504343953926634992332820282019728792003956564819968 else 0)) 32 = en p := by
  have e := enA_eq (lx_byt p) (ly_byt p)
  rw [es_en h] at e
  rw [← e]
  unfold enA
  rw [rp_valid, if_pos (lv_valid h), rpX_of (lv_valid h), rpY_of (lv_valid h), lx_num h, ly_num h]
theorem sgB_form (v : Nat) : fill (byt ((mlP v (bX, bY)).2 % PP + if (!decide ((mlP v (bX, bY)).1 % PP % 2 = 0)) = true then 57896044618658097711785492504343953926634992332820282019728792003956564819968 else 0)) 32 = sgB v := by
  have e := en_form (pv_mulB v)
  unfold sgB
  rw [← e]
  show _ = fill (byt ((mlP v (bX, bY)).2 % PP % PP + if (!decide ((mlP v (bX, bY)).1 % PP % PP % 2 = 0)) = true then 57896044618658097711785492504343953926634992332820282019728792003956564819968 else 0)) 32
  rw [Int.emod_emod_of_dvd _ (Int.dvd_refl _), Int.emod_emod_of_dvd _ (Int.dvd_refl _)]
structure HasS (w : World) : Prop where
  T : HasTw w 9
  C : Em5 w 8 0 dGo
  Z : RowN w 6 0 [0, 1]
  S : HasSt w 13
  I : Has3 w 10 12 5 4
  B : RowN w 2 0 [bX, bY]
theorem HasS.up {w w' : World} (h : HasS w) (n : Below w.heap.size w w') : HasS w' := ⟨h.T.up n, h.C.up n, h.Z.up n, h.S.up n, h.I.up n, RowN.up h.B n⟩
set_option maxHeartbeats 2000000 in
theorem baseForm_any (w : World) (U : Nat → Int) (hU : W4 U) (v : Nat) (hv : wval U = (v : Int)) (H : HasS w) :
    Calls Tryz.prog 34 #[ag4 U] w fun r w' => NewRow w.heap.size w' r .u8 (sgB v) ∧ Below w.heap.size w w' := by
  show Calls Tryz.prog 34 #[.agg (cU U).toArray] w _
  have E := hide (sgB_form v)
  have m0 : Below w.heap.size w (w.alloc (.cells (cU U).toArray 41)) := (Below.refl _ _).alloc (Nat.le_refl _) _
  have RV : RowV (w.alloc (.cells (cU U).toArray 41)) w.heap.size (cU U) := rowV_new w _ _
  obtain ⟨V0, hV0⟩ : ∃ V, V = (cU U).toArray := ⟨_, rfl⟩
  rw [← hV0] at RV m0 ⊢
  clear hV0
  go_enter Tryz.func34, Tryz.ntmps34
  go_upto_region 1 with fail
  generalize w.alloc (.cells V0 41) = wa at *
  have HA := H.up m0
  clear H
  refine region_end 6 (fun i => [Fact.eq (ag4 U), EN [bX, bY], EN [(mlP v (bX, bY)).1, (mlP v (bX, bY)).2], FM ((mlP v (bX, bY)).2 % PP) (!decide ((mlP v (bX, bY)).1 % PP % 2 = 0)), RN wa (fun u9 => u9 = fill (byt ((mlP v (bX, bY)).2 % PP + if (!decide ((mlP v (bX, bY)).1 % PP % 2 = 0)) = true then 57896044618658097711785492504343953926634992332820282019728792003956564819968 else 0)) 32), RN wa (fun u9 => u9 = fill (byt ((mlP v (bX, bY)).2 % PP + if (!decide ((mlP v (bX, bY)).1 % PP % 2 = 0)) = true then 57896044618658097711785492504343953926634992332820282019728792003956564819968 else 0)) 32)].getD i Fact.no) (by kernel_rfl) (by kernel_rfl) rfl ?_ ?_
  · intro i hi
    obtain rfl | rfl | rfl | rfl | rfl | rfl : i = 0 ∨ i = 1 ∨ i = 2 ∨ i = 3 ∨ i = 4 ∨ i = 5 := by omega
    · exact step_lV 41 _ (cU U) Tryz.underlying41 rfl (by kernel_rfl) rfl 1 rfl (by kernel_rfl) w.heap.size rfl RV rfl
    · exact step_glA rfl 2 rfl _ _ HA.B rfl
    · exact step_scl dGo_is HA.T HA.C HA.Z HA.S HA.I bX bY pv_base.on hU hv rfl 3 4 0 1 rfl (by kernel_rfl) (by kernel_rfl) rfl rfl rfl
    · exact step_form rfl 5 2 _ _ rfl (by kernel_rfl) rfl rfl
    · exact step_fby rfl 6 3 _ _ rfl (by kernel_rfl) rfl rfl
    · exact step_move rfl 7 4 (by exact Or.inr rfl) (by kernel_rfl) rfl
  intro A W hb hw hF
  have e2 := hF 5 2 (by kernel_rfl)
  obtain ⟨vs, hvs⟩ : ∃ vs : Nat → Value, ∀ d, A.tmps.getD d undef = vs d := ⟨_, fun _ => rfl⟩
  rw [hvs] at e2
  rw [puts_of (md := .any) (k := 6) (by kernel_rfl) rfl hb vs hvs]
  have N9 := nxt m0 hw
  have z := m0.size
  clear hb hF hvs hw HA RV m0
  obtain ⟨zs, b, d, h, e3, o3, l3, hzs, k1, k2⟩ := e2
  replace hzs : zs = _ := hzs
  rw [E.out] at hzs
  have HZ := hide hzs
  clear hzs E
  simp only [puts, e3, Act.put, List.setIfInBounds_toArray, List.set_cons_succ, List.set_cons_zero]
  go_wp2
  go_ret
  exact ⟨by rw [← HZ.out]; exact ⟨b, d, h, rfl, o3, k1, k2, by omega⟩, N9⟩
def sgV (hs : List Int) : Nat := (num (clampL (hs.take 32))).toNat
theorem hash64_len (xs : List Int) : (hashL64 xs).length = 64 := by unfold hashL64; rw [tell_len64]
theorem sg_words {hs : List Int} (hb : Byt hs) (hl : hs.length = 64) : W4 (clw (wv (fun j => (hs.take 32).getD j 0) 32)) ∧ wval (clw (wv (fun j => (hs.take 32).getD j 0) 32)) = (sgV hs : Int) := by
  have bt : Byt (hs.take 32) := byt_takeh hb 32
  have l : (hs.take 32).length = 32 := by rw [List.length_take]; omega
  have h4 : W4 (wv (fun j => (hs.take 32).getD j 0) 32) := fun j _ => wv_lt bt 32 j
  refine ⟨clw_ok h4, ?_⟩
  rw [clw_num bt l]
  unfold sgV
  have := num_ge (clampL_byt bt l)
  omega
theorem Own.drop1n {w : World} {g off : Nat} {xs : List Int} (h : Own w g (some ⟨g, off, none⟩) .u8 xs) (n : Nat) (hn : n < xs.length) : Own w g (some ⟨g, off + n, none⟩) .u8 (xs.drop n) := fun _ => by
  obtain ⟨o, e, hc⟩ := h (by omega)
  simp only [Option.some.injEq, Addr.mk.injEq, and_true, true_and] at e
  subst e
  refine ⟨_, rfl, fun i hi => ?_⟩
  rw [List.length_drop] at hi
  have := hc (n + i) (by omega)
  rw [show off + n + i = off + (n + i) by omega, show (xs.drop n).getD i 0 = xs.getD (n + i) 0 by simp [List.getD]]
  exact this
def sgC (U : Nat → Int) (m p : Value) : List Value := [.int .u64 (U 0), .int .u64 (U 1), .int .u64 (U 2), .int .u64 (U 3), m, p]
theorem sgI : (Tryz.prog.info? 43).map (·.size) = some 6 := by kernel_rfl
def SGF (w0 : World) (U : Nat → Int) (m : Value) (ys : List Int) : Fact := ⟨fun v w => ∃ (a : Option Addr) (c g : Nat), v = .agg (sgC U m (.slice a ys.length c)).toArray ∧ Own w g a .u8 ys ∧ (a = none → c = 0) ∧ ys.length ≤ c ∧ w0.heap.size ≤ g, fun n h => by
  obtain ⟨a, c, g, e, o, k⟩ := h
  exact ⟨a, c, g, e, o.up n, k⟩⟩
def NewSg (B : Nat) (w' : World) (r : Ending) (hs : List Int) : Prop :=
  ∃ (am a : Option Addr) (cm c gm g : Nat), r = .returned (.agg (sgC (clw (wv (fun j => (hs.take 32).getD j 0) 32)) (.slice am 32 cm) (.slice a 32 c)).toArray) ∧ Own w' gm am .u8 (hs.drop 32) ∧ 32 ≤ cm ∧ Own w' g a .u8 (sgB (sgV hs)) ∧ (a = none → c = 0) ∧ 32 ≤ c ∧ B ≤ g ∧ B ≤ gm
theorem hash64_byt (xs : List Int) : Byt (hashL64 xs) := tell_byt64 _
set_option maxHeartbeats 2000000 in
theorem newSigner_any (w : World) (g : Nat) (a : Option Addr) (c : Nat) (xs : List Int) (hr : Rd w g a .u8 xs) (hb : Byt xs) (hc : xs.length ≤ c) (hl : xs.length ≤ 1048576) (H : HasS w) (H1 : HasT w 5 stLh) (H2 : HasT w 7 kL) :
    Calls Tryz.prog 19 #[.slice a xs.length c] w fun r w' => NewSg w.heap.size w' r (hashL64 xs) ∧ Below w.heap.size w w' := by
  have m0 : Below w.heap.size w (w.alloc (.cells #[.int .u64 0, .int .u64 0, .int .u64 0, .int .u64 0, .slice none 0 0, .slice none 0 0] 43)) := (Below.refl _ _).alloc (Nat.le_refl _) _
  have TR : (w.alloc (.cells #[.int .u64 0, .int .u64 0, .int .u64 0, .int .u64 0, .slice none 0 0, .slice none 0 0] 43)).there w.heap.size 0 6 := there_new w _ _
  have IH := hide (implHash_64 _ g a c xs (hr.up m0) hb hc (by omega) (H1.up m0) (H2.up m0))
  have HL := hide (hash64_len xs)
  have HB := hide (hash64_byt xs)
  generalize hashL64 xs = hs at *
  have H0 := H.up m0
  clear H H1 H2 hr hb hc hl
  go_enter Tryz.func19, Tryz.ntmps19
  go_wp2_with fail
  generalize w.alloc (.cells #[.int .u64 0, .int .u64 0, .int .u64 0, .int .u64 0, .slice none 0 0, .slice none 0 0] 43) = wa at *
  refine IH.out.mono ?_
  rintro e w1 ⟨⟨a1, c1, g1, rfl, o1, p1, q1, r1⟩, n1⟩
  have N1 := nxt m0 n1
  have H1 := H0.up n1
  have TR1 := there_up (by decide) TR n1
  obtain ⟨off, rfl, -⟩ := id o1 (by rw [HL.out]; omega)
  have lT : (hs.take 32).length = 32 := by rw [List.length_take, HL.out]; omega
  have SW := hide (sg_words HB.out HL.out)
  have bT : Byt (hs.take 32) := byt_takeh HB.out 32
  have RS := hide (readScalar_any w1 g1 (some ⟨g1, off, none⟩) c1 (hs.take 32) (o1.rd.takeA 32) bT lT)
  have CL := hide (fun w => clamp_any w _ (fun j _ => wv_lt bT 32 j))
  have q32 : (32 : Int) ≤ (c1 : Int) := by rw [HL.out] at q1; omega
  have q64 : 64 ≤ c1 := by rw [HL.out] at q1; exact q1
  rw [HL.out]
  have oM := o1.drop1n 32 (by rw [HL.out]; omega)
  generalize hU : clw (wv (fun j => (hs.take 32).getD j 0) 32) = U at *
  have HU := hide hU
  generalize wv (fun j => (hs.take 32).getD j 0) 32 = U0 at RS CL
  clear hU lT bT IH q1 n1 m0 H0
  simp only [ag4] at RS CL
  go_wp2_with fail
  refine RS.out.mono ?_
  rintro r w2 ⟨rfl, n2⟩
  clear RS
  go_wp2_with fail
  refine (CL.out w2).mono ?_
  rintro r w3 ⟨rfl, n3⟩
  have N3 := nxt (nxt N1 n2) n3
  have H3 := (H1.up n2).up n3
  have o3 := (o1.up n2).up n3
  have TR3 := there_up (by decide) (there_up (by decide) TR1 n2) n3
  have oM3 := (oM.up n2).up n3
  clear CL N1 H1 o1 TR1 oM n2 n3
  have RV : RowV (w3.alloc (.cells (cU U).toArray 41)) w3.heap.size (cU U) := rowV_new w3 _ _
  have n4 : Below w3.heap.size w3 (w3.alloc (.cells (cU U).toArray 41)) := (Below.refl _ _).alloc (Nat.le_refl _) _
  go_upto_region 3 with fail
  change Code.wp _ _ _ _ (w3.alloc (.cells (cU U).toArray 41))
  generalize w3.alloc (.cells (cU U).toArray 41) = w4 at *
  have N4 := nxt N3 n4
  have H4 := H3.up n4
  have TR4 := there_up (by decide) TR3 n4
  have oM4 := oM3.up n4
  have cne : ¬ (c1 = 32) := by omega
  have zw := N3.size
  have gz : w.heap.size < g1 := by
    have := there_lt (by decide) TR
    omega
  clear N3 n4 H3 o3 TR3 oM3
  have BF := hide (fun W (n : Below w4.heap.size w4 W) => baseForm_any W U SW.out.1 (sgV hs) SW.out.2 (H4.up n))
  have LB := hide (show (sgB (sgV hs)).length = 32 from en_len _)
  generalize hzs : sgB (sgV hs) = zs at *
  have HZS := hide hzs
  clear hzs
  have lt4 := there_lt (by decide) TR4
  refine region_putB 6 2 5 16 _ (fun i => [Fact.eq (.agg (cU U).toArray), Fact.eq (.slice (some ⟨g1, off, none⟩) 64 c1), Fact.eq (.slice (some ⟨g1, off + 32, none⟩) 32 (c1 - 32)), Fact.eq (.agg (cU U).toArray), RN w4 (fun u9 => u9 = zs), SGF w4 U (.slice (some ⟨g1, off + 32, none⟩) 32 (c1 - 32)) zs].getD i Fact.no) w.heap.size 6 43 (fun cells W => ∃ (a : Option Addr) (c g : Nat), cells = sgC U (.slice (some ⟨g1, off + 32, none⟩) 32 (c1 - 32)) (.slice a zs.length c) ∧ Own W g a .u8 zs ∧ (a = none → c = 0) ∧ zs.length ≤ c ∧ w4.heap.size ≤ g) (by kernel_rfl) (by kernel_rfl) rfl rfl rfl (by kernel_rfl) rfl (by kernel_rfl) ?_ ?_ sgI ?_ ?_
  · rintro v W ⟨a5, c5, g5, rfl, o5, k5⟩
    exact ⟨_, rfl, rfl, by simp [sgC, Value.oneCell'], a5, c5, g5, rfl, o5, k5⟩
  · exact fun W n => there_up (by decide) TR4 n
  · intro i hi
    obtain rfl | rfl | rfl | rfl | rfl | rfl : i = 0 ∨ i = 1 ∨ i = 2 ∨ i = 3 ∨ i = 4 ∨ i = 5 := by omega
    · exact step_lV 41 _ (cU U) Tryz.underlying41 rfl (by kernel_rfl) rfl 4 rfl (by kernel_rfl) w3.heap.size rfl RV rfl
    · refine step_pure rfl fun A ww hb hw hf => ?_
      have e3 : A.tmps[3]?.getD undef = .slice (some ⟨g1, off, none⟩) 64 c1 := gdv (hb.2.2 3 (by kernel_rfl))
      exact ⟨.slice (some ⟨g1, off, none⟩) 64 c1, by simp [go_sem, e3], rfl⟩
    · refine step_pure rfl fun A ww hb hw hf => ?_
      have e12 : A.tmps[12]?.getD undef = .slice (some ⟨g1, off, none⟩) 64 c1 := gdv (hf 1 12 (by kernel_rfl))
      exact ⟨.slice (some ⟨g1, off + 32, none⟩) 32 (c1 - 32), by simp [go_sem, e12, cne, Addr.add], rfl⟩
    · exact step_lV 41 _ (cU U) Tryz.underlying41 rfl (by kernel_rfl) rfl 4 rfl (by kernel_rfl) w3.heap.size rfl RV rfl
    · refine step_callv rfl 34 _ _ rfl (by kernel_rfl) fun A ww hb hw hf => ?_
      have e14 : A.tmps.getD 14 undef = .agg (cU U).toArray := hf 3 14 (by kernel_rfl)
      show Calls Tryz.prog 34 #[A.tmps.getD 14 undef] ww _
      rw [e14]
      refine (BF.out ww hw).mono ?_
      rintro r w' ⟨⟨a5, c5, g5, rfl, o5, p5, q5, r5⟩, n⟩
      exact ⟨_, rfl, n, zs, a5, c5, g5, rfl, o5, Nat.le_trans hw.size r5, rfl, p5, q5⟩
    · refine step_pure rfl fun A ww hb hw hf => ?_
      have e11 : A.tmps[11]?.getD undef = .agg (cU U).toArray := gdv (hf 0 11 (by kernel_rfl))
      have e13 : A.tmps[13]?.getD undef = .slice (some ⟨g1, off + 32, none⟩) 32 (c1 - 32) := gdv (hf 2 13 (by kernel_rfl))
      obtain ⟨ys, a5, c5, g5, e15, o5, l5, hys, p5, q5⟩ := hf 4 15 (by kernel_rfl)
      have hys : ys = zs := hys
      subst hys
      have e15 := gdv e15
      refine ⟨.agg (sgC U (.slice (some ⟨g1, off + 32, none⟩) 32 (c1 - 32)) (.slice a5 ys.length c5)).toArray, ?_, a5, c5, g5, rfl, o5, p5, q5, l5⟩
      simp [go_sem, e11, e13, e15, cU, sgC]
  rintro vs W cells hw ⟨a5, c5, g5, rfl, o5, p5, q5, l5⟩
  have TW := there_up (by decide) TR4 hw
  have rg := World.rangeAt_setCells_same W w.heap.size 0 (sgC U (.slice (some ⟨g1, off + 32, none⟩) 32 (c1 - 32)) (.slice a5 zs.length c5)) TW
  have OS := only_setCells W w.heap.size (sgC U (.slice (some ⟨g1, off + 32, none⟩) 32 (c1 - 32)) (.slice a5 zs.length c5)) 0
  have z4 := N4.size
  have NS := (nxt N4 hw).trans (OS.below (Nat.le_refl _))
  have oE := o5.only OS (fun _ => by omega)
  have mE := (oM4.up hw).only OS (fun _ => by omega)
  rw [LB.out] at q5
  have e32 : zs.length = 32 := LB.out
  rw [e32] at rg NS oE mE
  simp only [puts, Act.put, List.setIfInBounds_toArray, List.set_cons_succ, List.set_cons_zero]
  rw [e32]
  clear hw N4 H4 BF RV TR4 oM4 o5 OS TW
  obtain ⟨fs, hfs⟩ : ∃ fs, Tryz.prog.underlying 43 = some (.struct fs) := ⟨_, Tryz.underlying43⟩
  go_wp2
  exact bodyPost_ret (v := .agg (sgC U (.slice (some ⟨g1, off + 32, none⟩) 32 (c1 - 32)) (.slice a5 32 c5)).toArray) (results_cell_mid Tryz.results19 _ _ w.heap.size (sgC U (.slice (some ⟨g1, off + 32, none⟩) 32 (c1 - 32)) (.slice a5 32 c5)) _ rfl rg hfs rfl sgI) rfl ⟨⟨_, a5, c1 - 32, c5, g1, g5, by rw [HU.out], mE, by omega, by rw [HZS.out]; exact oE, p5, q5, by omega, by omega⟩, NS⟩
def spA (xs : List Int) : List Int := if xs.length = 32 then sgB (sgV (hashL64 xs)) else []
theorem fdS (U : Nat → Int) (m : Value) (a1 : Option Addr) (n1 c1 : Nat) (am : Option Addr) (nm cm : Nat) (hm : m = .slice am nm cm) (w : World) : (Instr.field 43 (.agg (sgC U m (.slice a1 n1 c1)).toArray) 2).run Tryz.prog w = .ok (.slice a1 n1 c1) w := by subst hm; kernel_rfl
set_option maxHeartbeats 2000000 in
theorem implSignPublic_any (w : World) (g : Nat) (a : Option Addr) (c : Nat) (xs : List Int) (hr : Rd w g a .u8 xs) (hb : Byt xs) (hc : xs.length ≤ c) (H : HasS w) (H1 : HasT w 5 stLh) (H2 : HasT w 7 kL) :
    Calls Tryz.prog 6 #[.slice a xs.length c] w fun r w' => NewRow w.heap.size w' r .u8 (spA xs) ∧ Below w.heap.size w w' := by
  by_cases hl : xs.length = 32
  · have e : Hid (spA xs = sgB (sgV (hashL64 xs))) := by show _ = _; unfold spA; rw [if_pos hl]
    have NS := hide (newSigner_any w g a c xs hr hb hc (by omega) H H1 H2)
    have L32 := hide (show (sgB (sgV (hashL64 xs))).length = 32 from en_len _)
    rw [e.out]
    rw [hl] at NS ⊢
    generalize hashL64 xs = hs at *
    clear e hr hb hc hl H H1 H2
    go_enter Tryz.func6, Tryz.ntmps6
    go_wp2_with fail
    refine NS.out.mono ?_
    rintro r w1 ⟨⟨am, a1, cm, c1, gm, g1, rfl, oM, kM, o1, p1, q1, r1, -⟩, n1⟩
    have FD := fdS (clw (wv (fun j => (hs.take 32).getD j 0) 32)) (.slice am 32 cm) a1 32 c1 am 32 cm rfl
    generalize (sgC (clw (wv (fun j => (hs.take 32).getD j 0) 32)) (.slice am 32 cm) (.slice a1 32 c1)).toArray = V at *
    clear NS oM kM
    go_wp2
    go_ret
    rw [← L32.out] at q1 ⊢
    exact ⟨⟨a1, c1, g1, rfl, o1, p1, q1, r1⟩, n1⟩
  · have e : Hid (spA xs = []) := by show _ = _; unfold spA; rw [if_neg hl]
    have t1 : ((xs.length : Int) != 32) = true := by simp; omega
    clear hl
    go_enter Tryz.func6, Tryz.ntmps6
    go_wp2
    go_ret
    rw [e.out]
    exact ⟨newRow_z w .u8, Below.refl _ _⟩
end Go.Proofs.YtkglcainhkbgbaaGreatDoor
namespace Go.Proofs.YtkglcainhkbgbaaGreatDoor
set_option maxRecDepth 100000
open Go Go.RowKit
structure Lst where
  g : Nat
  a : Option Addr
  c : Nat
  xs : List Int
def cat (ls : List Lst) : List Int := (ls.map Lst.xs).flatten
theorem cat_take (ls : List Lst) (j : Nat) (l : Lst) (h : ls[j]? = some l) : cat (ls.take (j + 1)) = cat (ls.take j) ++ l.xs := by
  unfold cat
  rw [List.take_add_one, h]
  simp
def Lsts (w : World) (b : Nat) (ls : List Lst) : Prop := ∀ j l, ls[j]? = some l → w.cell? ⟨b, j, none⟩ = some (.slice l.a l.xs.length l.c)
theorem Lsts.up {w w' : World} {b : Nat} {ls : List Lst} (h : Lsts w b ls) (n : Below w.heap.size w w') : Lsts w' b ls := fun j l hj => by
  have := h j l hj
  rw [World.cell?_of_block (a := ⟨b, j, none⟩) (n.block b (block_lt_of_cell this))]
  exact this
set_option maxRecDepth 100000 in
set_option maxHeartbeats 1000000 in
theorem grow_any (w : World) (n : Nat) (h0 : 0 < n) (h1 : n ≤ 4194304) :
    Calls Tryz.prog 59 #[.slice none 0 0, .int .i64 (n : Int)] w fun e w' => ∃ v, e = .returned v ∧ RowB w' w.heap.size v [] ∧ Below w.heap.size w w' := by
  obtain ⟨i0, hi, hz0, hz1, hz2⟩ := info_parts Tryz.info5
  have hap := Lib.run_append_nil_zeros (P := Tryz.prog) w 22 3 22 5 i0 (.int .u8 0) .i64 .i64 Tryz.underlying22 Tryz.underlying3 hi hz0 n h0 (by omega) (by omega) (by rw [hz2]; omega)
  have ge := grownCap_ge w n 0 5
  have le : grownCap w n 0 5 ≤ maxLen := grownCap_le_maxLen w n 0 5 (by unfold maxLen; omega)
  have R : RowB (w.drew.alloc (.cells (Builtin.zeroCells (Value.int .u8 0).cells n ++ Builtin.zeroCells (Value.int .u8 0).cells (grownCap w n 0 5 - n)) 5)) w.heap.size (.slice (some ⟨w.heap.size, 0, none⟩) 0 (grownCap w n 0 5)) [] :=
    ⟨rfl, .inr ⟨w.heap.size, grownCap w n 0 5, _, rfl, Nat.le_refl _, _root_.Go.heap_alloc_new w.drew _, Nat.zero_le _, le, by rw [Array.size_append, size_zeroCells, size_zeroCells]; show n * 1 + (grownCap w n 0 5 - n) * 1 = _; omega, by simp⟩⟩
  have nb : Below w.heap.size w (w.drew.alloc (.cells (Builtin.zeroCells (Value.int .u8 0).cells n ++ Builtin.zeroCells (Value.int .u8 0).cells (grownCap w n 0 5 - n)) 5)) := ((Below.refl _ _).drew).alloc (Nat.le_refl _) _
  generalize w.drew.alloc (.cells (Builtin.zeroCells (Value.int .u8 0).cells n ++ Builtin.zeroCells (Value.int .u8 0).cells (grownCap w n 0 5 - n)) 5) = w' at *
  generalize grownCap w n 0 5 = cp at *
  have n0 : decide ((n : Int) < 0) = false := by simp
  have n1 : decide ((0 : Int) < (n : Int)) = true := by simp; omega
  have n2 : decide (0 < n) = true := by simpa using h0
  clear ge le
  go_enter Tryz.func59, Tryz.ntmps59
  go_wp2_with (at_builtin; refine Lib.wpList_append_run _ rfl _ _ 22 3 rfl _ _ rfl rfl _ _ hap ?_)
  go_ret
  exact ⟨_, rfl, R, nb⟩
theorem cat_len_le (ls : List Lst) (j : Nat) : (cat (ls.take j)).length ≤ (cat ls).length := by
  have : cat ls = cat (ls.take j) ++ cat (ls.drop j) := by
    unfold cat
    rw [← List.flatten_append, ← List.map_append, List.take_append_drop]
  rw [this, List.length_append]
  omega
set_option maxRecDepth 100000 in
set_option maxHeartbeats 4000000 in
theorem concatB_any (w : World) (b n c : Nat) (ls : List Lst) (hn : ls.length = n) (hm : n ≤ 1000) (hs : Lsts w b ls) (hl : ∀ l ∈ ls, Rd w l.g l.a .u8 l.xs ∧ (l.a = none → l.c = 0)) (h0 : 0 < (cat ls).length) (h1 : (cat ls).length ≤ 4194304) :
    Calls Tryz.prog 36 #[.slice (some ⟨b, 0, none⟩) n c] w fun e w' => (∃ v, e = .returned v ∧ RowB w' w.heap.size v (cat ls)) ∧ Below w.heap.size w w' := by
  obtain ⟨i0, hi, hz0, hz1, hz2⟩ := info_parts Tryz.info5
  have HN := hide hn
  clear hn
  obtain ⟨rs, hrs⟩ : ∃ l, l = cat ls := ⟨_, rfl⟩
  have HR := hide hrs
  rw [← hrs] at h0 h1 ⊢
  clear hrs
  have GR := hide (grow_any w rs.length h0 h1)
  go_enter Tryz.func36, Tryz.ntmps36
  go_wp2
  go_loopw [3, 5, 11] (fun s _ i wr => ∃ (j : Nat), j ≤ n ∧ i = .int .i64 j ∧ s = .int .i64 ((cat (ls.take j)).length : Int) ∧ w = wr) (fun _ _ i _ => n - (intOf i).toNat)
  case atStart => exact ⟨0, Nat.zero_le _, rfl, rfl, rfl⟩
  case round =>
    obtain ⟨j, hj, rfl, rfl, rfl⟩ := hrel
    by_cases hlt : j < n
    · obtain ⟨l, hjl⟩ : ∃ l, ls[j]? = some l := ⟨ls[j]'(by rw [HN.out]; exact hlt), List.getElem?_eq_getElem _⟩
      have cc := hs j l hjl
      have ct := cat_take ls j l hjl
      have lb := cat_len_le ls (j + 1)
      rw [← HR.out, ct, List.length_append] at lb
      have CT : Hid ((cat (ls.take (j + 1))).length = (cat (ls.take j)).length + l.xs.length) := by show _ = _; rw [ct, List.length_append]
      clear ct
      generalize (cat (ls.take j)).length = cj at *
      have jn : (j : Int) < (n : Int) := by omega
      have c0 : decide ((cj : Int) + (l.xs.length : Int) < 0) = false := by simp; omega
      go_wp2
      go_roundw
      case rel => exact ⟨j + 1, by omega, by go_num, by rw [CT.out]; go_num, by trivial⟩
      case measure => simp [intOf]; omega
    · obtain rfl : j = n := by omega
      have e : ls.take j = ls := List.take_of_length_le (by rw [HN.out]; exact Nat.le_refl _)
      rw [e, ← HR.out]
      clear e
      go_wp2_with fail
      refine GR.out.mono ?_
      rintro r w1 ⟨v1, rfl, R1, n1⟩
      go_wp2
      go_loopw [6, 8, 27] (fun v _ i wq => ∃ (k : Nat), k ≤ j ∧ i = .int .i64 k ∧ RowB wq w.heap.size v (cat (ls.take k)) ∧ Below w.heap.size w wq) (fun _ _ i _ => j - (intOf i).toNat)
      case atStart => exact ⟨0, Nat.zero_le _, rfl, R1, n1⟩
      case round =>
        obtain ⟨k, hk, rfl, R, hN⟩ := hrel
        clear R1 n1 GR
        by_cases hlt2 : k < j
        · obtain ⟨l, hjl⟩ : ∃ l, ls[k]? = some l := ⟨ls[k]'(by rw [HN.out]; exact hlt2), List.getElem?_eq_getElem _⟩
          have lm : l ∈ ls := List.mem_of_getElem? hjl
          have cc := (hs.up hN) k l hjl
          have ct := cat_take ls k l hjl
          have lb := cat_len_le ls (k + 1)
          rw [← HR.out, ct, List.length_append] at lb
          obtain ⟨v', w2, hap, o2, n2⟩ := append_any (P := Tryz.prog) wr 22 i0 Tryz.underlying22 hi hz0 hz1 hz2 w.heap.size w.heap.size _ _ R l.g l.a l.c l.xs ((hl l lm).1.up hN) (hl l lm).2 (by omega) (Nat.le_refl _) hN.size
          rw [← ct] at o2
          have N2 := hN.trans n2
          have kj : (k : Int) < (j : Int) := by omega
          clear ct lb R n2
          go_wp2_with (at_builtin; refine Lib.wpList_append_run _ rfl _ _ 22 22 rfl _ _ rfl rfl _ _ hap ?_)
          clear hap
          go_roundw
          case rel => exact ⟨k + 1, by omega, by go_num, o2, N2⟩
          case measure => simp [intOf]; omega
        · obtain rfl : k = j := by omega
          have e : ls.take k = ls := List.take_of_length_le (by rw [HN.out]; exact Nat.le_refl _)
          rw [e, ← HR.out] at R
          clear e
          go_wp2
          go_ret
          exact ⟨⟨_, rfl, R⟩, hN⟩
theorem concat_any (w : World) (b n c : Nat) (ls : List Lst) (hn : ls.length = n) (hm : n ≤ 1000) (hs : Lsts w b ls) (hl : ∀ l ∈ ls, Rd w l.g l.a .u8 l.xs ∧ (l.a = none → l.c = 0)) (h0 : 0 < (cat ls).length) (h1 : (cat ls).length ≤ 4194304) :
    Calls Tryz.prog 36 #[.slice (some ⟨b, 0, none⟩) n c] w fun e w' => NewRow w.heap.size w' e .u8 (cat ls) ∧ Below w.heap.size w w' := by
  refine (concatB_any w b n c ls hn hm hs hl h0 h1).mono ?_
  rintro e w' ⟨⟨v, rfl, R⟩, n⟩
  obtain ⟨a4, c4, g4, rfl, o4, p4, q4, r4⟩ := R.own
  exact ⟨⟨a4, c4, g4, rfl, o4, p4, q4, r4⟩, n⟩
end Go.Proofs.YtkglcainhkbgbaaGreatDoor
namespace Go.Proofs.YtkglcainhkbgbaaGreatDoor
set_option maxRecDepth 100000
open Go Go.RowKit
theorem left_left64 (l m : List Int) : left64 (left64 l ++ m) = left64 (l ++ m) := by
  induction h : l.length using Nat.strongRecOn generalizing l with
  | ind n ih =>
    by_cases c : l.length < 128
    · rw [left_short64 c]
    · have hl : (l.take 128).length = 128 := by rw [List.length_take]; omega
      have e : l = l.take 128 ++ l.drop 128 := (List.take_append_drop _ _).symm
      have r := ih (l.drop 128).length (by rw [List.length_drop]; omega) (l.drop 128) rfl
      rw [e, left_app64 _ _ hl, List.append_assoc, left_app64 _ _ hl]
      exact r
def HD (w : World) (q : Nat) (ys : List Int) : Prop := ∃ R, HB .u64 w q ((ys.length : Nat) : Int) (whole64 start64 ys) R ∧ Byt R ∧ R.take (ys.length % 128) = left64 ys
theorem HD.lt {w : World} {q : Nat} {ys : List Int} (h : HD w q ys) : q < w.heap.size := by
  obtain ⟨R, h, _⟩ := h
  exact h.lt
theorem HD.up {w w' : World} {q : Nat} {ys : List Int} (h : HD w q ys) (n : Below w.heap.size w w') : HD w' q ys := by
  obtain ⟨R, h, k⟩ := h
  exact ⟨R, h.up n, k⟩
theorem HD.of_block {w w' : World} {q : Nat} {ys : List Int} (h : HD w q ys) (hb : w'.heap[q]? = w.heap[q]?) : HD w' q ys := by
  obtain ⟨R, h, k⟩ := h
  exact ⟨R, h.of_block hb, k⟩
def HV (vs : List Value) (ys : List Int) : Prop := ∃ R, vs = hcl .u64 ((ys.length : Nat) : Int) (whole64 start64 ys) R ∧ R.length = 128 ∧ Byt R ∧ R.take (ys.length % 128) = left64 ys
theorem HV.len {vs : List Value} {ys : List Int} (h : HV vs ys) : vs.length = 137 := by
  obtain ⟨R, rfl, hl, _⟩ := h
  exact hcl_len _ _ _ hl
theorem HV.one {vs : List Value} {ys : List Int} (h : HV vs ys) : ∀ v ∈ vs, v.oneCell' = true := by
  obtain ⟨R, rfl, hl, _⟩ := h
  intro v hv
  have := hcl_one .u64 ((ys.length : Nat) : Int) (whole64 start64 ys) R
  rw [Array.all_eq_true_iff_forall_mem] at this
  exact this v (by simpa using hv)
theorem HD.val {w : World} {q : Nat} {ys : List Int} (h : HD w q ys) : ∃ vs, HV vs ys ∧ w.rangeAt q 0 vs ∧ w.there q 0 137 := by
  obtain ⟨R, h, b, e⟩ := h
  exact ⟨_, ⟨R, rfl, h.len, b, e⟩, h.range, h.there⟩
theorem HV.at {w : World} {q : Nat} {vs : List Value} {ys : List Int} (h : HV vs ys) (rg : w.rangeAt q 0 vs) (th : w.there q 0 137) : HD w q ys := by
  obtain ⟨R, rfl, hl, b, e⟩ := h
  exact ⟨R, HB.of_range hl rg th, b, e⟩
theorem HV.start : HV (hcl .u64 0 start64 (List.replicate 128 0)) [] := ⟨List.replicate 128 0, by rw [whole_short64 start64 (by simp)]; rfl, by simp, byt_rep0 _, by rw [left_short64 (by simp)]; rfl⟩
theorem takeD (w : World) (q : Nat) (ys : List Int) (h : HD w q ys) (g : Nat) (a : Option Addr) (c : Nat) (xs : List Int) (hr : Rd w g a .u8 xs) (hx : Byt xs) (hc : xs.length ≤ c) (hg : 0 < xs.length → g ≠ q)
    (hL : ys.length + xs.length ≤ 1152921504606846976) (hT : HasT w 7 kL) (hq : 7 ≠ q) :
    Calls Tryz.prog 52 #[.pointer (some ⟨q, 0, none⟩), .slice a xs.length c] w fun e w' => e = .returned (.tuple #[]) ∧ HD w' q (ys ++ xs) ∧ Bth q w w' := by
  obtain ⟨R, H, b, e⟩ := h
  refine (take_64 w q ys.length (whole64 start64 ys) R H (whole_ok64 start_ok64 ys) b g a c xs hr hx hc hg hL hT hq).mono ?_
  rintro r w' ⟨rfl, R', H', b', e', B'⟩
  rw [e, whole_left64] at H'
  rw [e, left_left64] at e'
  exact ⟨rfl, ⟨R', by rw [List.length_append]; exact H', b', by rw [List.length_append]; exact e'⟩, B'⟩
theorem endV (w : World) (vs : List Value) (ys : List Int) (h : HV vs ys) (hn : ys.length ≤ 1099511627776) (hT : HasT w 7 kL) :
    Calls Tryz.prog 53 #[.agg vs.toArray] w fun e w' => NewRow w.heap.size w' e .u8 (hashL64 ys) ∧ Below w.heap.size w w' := by
  obtain ⟨R, rfl, hl, b, e⟩ := h
  rw [← hash_is64 e]
  exact end_64 w ys.length (whole64 start64 ys) R hl (whole_ok64 start_ok64 ys) b hn hT
def Lst.ok (w : World) (q : Nat) (l : Lst) : Prop := Rd w l.g l.a .u8 l.xs ∧ Byt l.xs ∧ l.xs.length ≤ l.c ∧ (0 < l.xs.length → l.g ≠ q)
theorem Lst.ok.bt {w w' : World} {q : Nat} {l : Lst} (h : l.ok w q) (b : Bth q w w') : l.ok w' q := by
  obtain ⟨h1, h2, h3, h4⟩ := h
  refine ⟨?_, h2, h3, h4⟩
  by_cases h0 : 0 < l.xs.length
  · exact h1.bt b (h4 h0)
  · exact fun h1 => absurd h1 h0
theorem Lsts.bt {w w' : World} {q b : Nat} {ls : List Lst} (h : Lsts w b ls) (B : Bth q w w') (hb : b ≠ q) : Lsts w' b ls := fun j l hj => by
  have := h j l hj
  rw [World.cell?_of_block (a := ⟨b, j, none⟩) (B.block b (block_lt_of_cell this) hb)]
  exact this
set_option maxHeartbeats 2000000 in
theorem takeAllD (w : World) (q : Nat) (ys : List Int) (h : HD w q ys) (b n c : Nat) (ls : List Lst) (hn : ls.length = n) (hm : n ≤ 1000) (hs : Lsts w b ls) (hl : ∀ l ∈ ls, l.ok w q) (hb : b ≠ q)
    (hL : ys.length + (cat ls).length ≤ 1152921504606846976) (hT : HasT w 7 kL) (hq : 7 ≠ q) :
    Calls Tryz.prog 57 #[.pointer (some ⟨q, 0, none⟩), .slice (some ⟨b, 0, none⟩) n c] w fun e w' => e = .returned (.tuple #[]) ∧ HD w' q (ys ++ cat ls) ∧ Bth q w w' := by
  have HN := hide hn
  clear hn
  have hp : ∀ j, (cat (ls.take j)).length ≤ (cat ls).length := fun j => by
    have : cat ls = cat (ls.take j) ++ cat (ls.drop j) := by
      unfold cat
      rw [← List.flatten_append, ← List.map_append, List.take_append_drop]
    rw [this, List.length_append]
    omega
  go_enter Tryz.func57, Tryz.ntmps57
  go_wp2_with fail
  go_loopw [5, 8] (fun _ i wr => ∃ (j : Nat), j ≤ n ∧ i = .int .i64 j ∧ HD wr q (ys ++ cat (ls.take j)) ∧ Bth q w wr) (fun _ i _ => n - (intOf i).toNat)
  case atStart => exact ⟨0, Nat.zero_le _, rfl, by simpa [cat] using h, Bth.refl _ _⟩
  case round =>
    obtain ⟨j, hj, rfl, hD, hB⟩ := hrel
    by_cases hlt : j < n
    · obtain ⟨l, hjl⟩ : ∃ l, ls[j]? = some l := ⟨ls[j]'(by rw [HN.out]; exact hlt), List.getElem?_eq_getElem _⟩
      have lm : l ∈ ls := List.mem_of_getElem? hjl
      have ok := (hl l lm).bt hB
      have cc := (hs.bt hB hb) j l hjl
      have ct := cat_take ls j l hjl
      have lb : (ys ++ cat (ls.take j)).length + l.xs.length ≤ 1152921504606846976 := by
        have := hp (j + 1)
        rw [ct, List.length_append] at this
        rw [List.length_append]
        omega
      have TD := hide (takeD wr q _ hD l.g l.a l.c l.xs ok.1 ok.2.1 ok.2.2.1 ok.2.2.2 lb (hT.bt (by decide) hB hq) hq)
      have CT := hide ct
      clear lb ct hD h hs hl ok lm
      generalize cat (ls.take j) = cj at *
      have jn : (j : Int) < (n : Int) := by omega
      go_wp2_with fail
      refine TD.out.mono ?_
      rintro e w1 ⟨rfl, D1, B1⟩
      rw [List.append_assoc, ← CT.out] at D1
      have BB := hB.trans B1
      clear TD
      go_wp2
      go_roundw
      case rel => exact ⟨j + 1, by omega, by go_num, D1, BB⟩
      case measure => simp [intOf]; omega
    · obtain rfl : j = n := by omega
      have e : ls.take j = ls := List.take_of_length_le (by rw [HN.out]; exact Nat.le_refl _)
      rw [e] at hD
      go_wp2
      exact bodyPost_end (v := .tuple #[]) (by simp [results, Tryz.results57, go_sem]) rfl ⟨rfl, hD, hB⟩
end Go.Proofs.YtkglcainhkbgbaaGreatDoor
