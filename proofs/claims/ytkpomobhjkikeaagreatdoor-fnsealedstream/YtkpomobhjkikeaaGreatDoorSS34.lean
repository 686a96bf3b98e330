import Derived.Test.YtkpomobhjkikeaaGreatDoorSS33
namespace Go.Proofs.YtkpomobhjkikeaaGreatDoor
set_option maxRecDepth 100000
open Go Go.RowKit
theorem infoS : (Tryz.prog.info? 101).map (·.size) = some 16 := by kernel_rfl
theorem undS : Tryz.prog.underlying 101 = some (.array 16 99) := by kernel_rfl
theorem blk_z16 (w : World) (t : TypeId) : Blk (w.alloc (.cells #[.int .u32 0, .int .u32 0, .int .u32 0, .int .u32 0, .int .u32 0, .int .u32 0, .int .u32 0, .int .u32 0, .int .u32 0, .int .u32 0, .int .u32 0, .int .u32 0, .int .u32 0, .int .u32 0, .int .u32 0, .int .u32 0] t)) w.heap.size .u32 (List.replicate 16 0) := ⟨t, by show (w.heap.push _)[w.heap.size]? = _; simp⟩
set_option maxRecDepth 100000 in
set_option maxHeartbeats 8000000 in
theorem mixed_core (w : World) (ys : List Int) (hw : Ws ys) (hl : ys.length = 16) (m : Nat) (hm : m = 10) : Calls Tryz.prog 104 #[ag .u32 ys] w fun e w' => e = .returned (ag .u32 (rds m ys)) ∧ Below w.heap.size w w' := by
  have B0 := blk_alloc w .u32 101 ys
  have n0 : Below w.heap.size w (w.alloc (.cells (ys.map (Value.int .u32)).toArray 101)) := (Below.refl _ _).alloc (Nat.le_refl _) _
  have z0 : (w.alloc (.cells (ys.map (Value.int .u32)).toArray 101)).heap.size = w.heap.size + 1 := by simp
  unfold ag
  obtain ⟨vs, hvs⟩ : ∃ vs, vs = ys.map (Value.int .u32) := ⟨_, rfl⟩
  rw [← hvs] at B0 n0 z0 ⊢
  have HVS := hide hvs
  clear hvs
  have HL := hide hl
  clear hl
  go_enter Tryz.func104, Tryz.ntmps104
  go_upto_region 1 with fail
  generalize w.alloc (.cells vs.toArray 101) = wa at *
  have n1 : Below wa.heap.size wa (wa.alloc (.cells #[.int .u32 0, .int .u32 0, .int .u32 0, .int .u32 0, .int .u32 0, .int .u32 0, .int .u32 0, .int .u32 0, .int .u32 0, .int .u32 0, .int .u32 0, .int .u32 0, .int .u32 0, .int .u32 0, .int .u32 0, .int .u32 0] 101)) := (Below.refl _ _).alloc (Nat.le_refl _) _
  have B1 := blk_z16 wa 101
  have z1 : (wa.alloc (.cells #[.int .u32 0, .int .u32 0, .int .u32 0, .int .u32 0, .int .u32 0, .int .u32 0, .int .u32 0, .int .u32 0, .int .u32 0, .int .u32 0, .int .u32 0, .int .u32 0, .int .u32 0, .int .u32 0, .int .u32 0, .int .u32 0] 101)).heap.size = wa.heap.size + 1 := by simp
  generalize wa.alloc (.cells #[.int .u32 0, .int .u32 0, .int .u32 0, .int .u32 0, .int .u32 0, .int .u32 0, .int .u32 0, .int .u32 0, .int .u32 0, .int .u32 0, .int .u32 0, .int .u32 0, .int .u32 0, .int .u32 0, .int .u32 0, .int .u32 0] 101) = wb at *
  rw [z0] at B1 z1
  have B0 := B0.up n1
  have N1 := nxt n0 n1
  clear n0 n1 z0
  go_wp2
  go_loopw [3] (fun i wr => ∃ (k : Nat), k ≤ 10 ∧ i = .int .i64 k ∧ Blk wr w.heap.size .u32 (rds k ys) ∧ Blk wr (w.heap.size + 1) .u32 (List.replicate 16 0) ∧ Below w.heap.size w wr) (fun i _ => 10 - (intOf i).toNat)
  case atStart => exact ⟨0, Nat.zero_le _, rfl, B0, B1, N1⟩
  case round =>
    obtain ⟨k, hk, rfl, hB, hZ, hN⟩ := hrel
    clear B0 B1 N1 z1
    by_cases hlt : k < 10
    · have yl : (rds k ys).length = 16 := (rds_len ys k).trans HL.out
      have yw := rds_ws hw k
      obtain ⟨y0, hy0⟩ : ∃ y, y = rds k ys := ⟨_, rfl⟩
      rw [← hy0] at yl yw hB
      have E0 := hide hy0
      clear hy0
      have YL := hide yl
      clear yl
      have g0 := yw.get4 0 4 8 12
      have c0 := hB.cell (i := 0) (by rw [YL.out]; decide)
      have c1 := hB.cell (i := 4) (by rw [YL.out]; decide)
      have c2 := hB.cell (i := 8) (by rw [YL.out]; decide)
      have c3 := hB.cell (i := 12) (by rw [YL.out]; decide)
      have p0 := hB.free 0
      have p1 := hB.free 4
      have p2 := hB.free 8
      have p3 := hB.free 12
      have QC := quarter_any wr (get4 y0 0 4 8 12) g0
      have hB' : Blk ((((wr.setCell ⟨w.heap.size, 0, none⟩ (.int .u32 (qr (get4 y0 0 4 8 12)).a)).setCell ⟨w.heap.size, 4, none⟩ (.int .u32 (qr (get4 y0 0 4 8 12)).b)).setCell ⟨w.heap.size, 8, none⟩ (.int .u32 (qr (get4 y0 0 4 8 12)).c)).setCell ⟨w.heap.size, 12, none⟩ (.int .u32 (qr (get4 y0 0 4 8 12)).d)) w.heap.size .u32 (qrL y0 0 4 8 12) := (((hB.store 0 _).store 4 _).store 8 _).store 12 _
      have hO := (((Only.setCell wr w.heap.size 0 (.int .u32 (qr (get4 y0 0 4 8 12)).a)).trans (Only.setCell _ w.heap.size 4 (.int .u32 (qr (get4 y0 0 4 8 12)).b))).trans (Only.setCell _ w.heap.size 8 (.int .u32 (qr (get4 y0 0 4 8 12)).c))).trans (Only.setCell _ w.heap.size 12 (.int .u32 (qr (get4 y0 0 4 8 12)).d))
      have yw' := yw.qr 0 4 8 12
      have YL' := hide ((qrL_len y0 0 4 8 12).trans YL.out)
      have EG : Hid (get4 y0 0 4 8 12 = ⟨y0.getD 0 0, y0.getD 4 0, y0.getD 8 0, y0.getD 12 0⟩) := rfl
      have QC' : Hid (Calls Tryz.prog 116 #[.int .u32 (y0.getD 0 0), .int .u32 (y0.getD 4 0), .int .u32 (y0.getD 8 0), .int .u32 (y0.getD 12 0)] wr fun e w' => e = .returned (.tuple #[.int .u32 (qr (get4 y0 0 4 8 12)).a, .int .u32 (qr (get4 y0 0 4 8 12)).b, .int .u32 (qr (get4 y0 0 4 8 12)).c, .int .u32 (qr (get4 y0 0 4 8 12)).d]) ∧ w' = wr) := QC
      clear QC EG hB g0 yw
      generalize hE : qrL y0 0 4 8 12 = y1 at *
      have E1 := hide hE
      clear hE
      generalize (qr (get4 y0 0 4 8 12)).a = r0 at *
      generalize (qr (get4 y0 0 4 8 12)).b = r1 at *
      generalize (qr (get4 y0 0 4 8 12)).c = r2 at *
      generalize (qr (get4 y0 0 4 8 12)).d = r3 at *
      generalize y0.getD 0 0 = t0 at *
      generalize y0.getD 4 0 = t1 at *
      generalize y0.getD 8 0 = t2 at *
      generalize y0.getD 12 0 = t3 at *
      go_wp2_with fail
      refine QC'.out.mono ?_
      rintro r w1 ⟨rfl, rfl⟩
      go_upto_region 4 with fail
      have hN' := hN.trans (hO.below (Nat.le_refl _))
      have hZ' := hZ.of_block (hO.block (w.heap.size + 1) (by omega))
      clear c0 c1 c2 c3 p0 p1 p2 p3 QC' hN hZ hO YL
      generalize (((w1.setCell ⟨w.heap.size, 0, none⟩ (.int .u32 r0)).setCell ⟨w.heap.size, 4, none⟩ (.int .u32 r1)).setCell ⟨w.heap.size, 8, none⟩ (.int .u32 r2)).setCell ⟨w.heap.size, 12, none⟩ (.int .u32 r3) = wr at *
      have hB := hB'
      have yw := yw'
      have YL := YL'
      have hN := hN'
      have hZ := hZ'
      clear hB' yw' YL' hN' hZ'
      have g1 := yw.get4 1 5 9 13
      have c0 := hB.cell (i := 1) (by rw [YL.out]; decide)
      have c1 := hB.cell (i := 5) (by rw [YL.out]; decide)
      have c2 := hB.cell (i := 9) (by rw [YL.out]; decide)
      have c3 := hB.cell (i := 13) (by rw [YL.out]; decide)
      have p0 := hB.free 1
      have p1 := hB.free 5
      have p2 := hB.free 9
      have p3 := hB.free 13
      have QC := quarter_any wr (get4 y1 1 5 9 13) g1
      have hB' : Blk ((((wr.setCell ⟨w.heap.size, 1, none⟩ (.int .u32 (qr (get4 y1 1 5 9 13)).a)).setCell ⟨w.heap.size, 5, none⟩ (.int .u32 (qr (get4 y1 1 5 9 13)).b)).setCell ⟨w.heap.size, 9, none⟩ (.int .u32 (qr (get4 y1 1 5 9 13)).c)).setCell ⟨w.heap.size, 13, none⟩ (.int .u32 (qr (get4 y1 1 5 9 13)).d)) w.heap.size .u32 (qrL y1 1 5 9 13) := (((hB.store 1 _).store 5 _).store 9 _).store 13 _
      have hO := (((Only.setCell wr w.heap.size 1 (.int .u32 (qr (get4 y1 1 5 9 13)).a)).trans (Only.setCell _ w.heap.size 5 (.int .u32 (qr (get4 y1 1 5 9 13)).b))).trans (Only.setCell _ w.heap.size 9 (.int .u32 (qr (get4 y1 1 5 9 13)).c))).trans (Only.setCell _ w.heap.size 13 (.int .u32 (qr (get4 y1 1 5 9 13)).d))
      have yw' := yw.qr 1 5 9 13
      have YL' := hide ((qrL_len y1 1 5 9 13).trans YL.out)
      have EG : Hid (get4 y1 1 5 9 13 = ⟨y1.getD 1 0, y1.getD 5 0, y1.getD 9 0, y1.getD 13 0⟩) := rfl
      have QC' : Hid (Calls Tryz.prog 116 #[.int .u32 (y1.getD 1 0), .int .u32 (y1.getD 5 0), .int .u32 (y1.getD 9 0), .int .u32 (y1.getD 13 0)] wr fun e w' => e = .returned (.tuple #[.int .u32 (qr (get4 y1 1 5 9 13)).a, .int .u32 (qr (get4 y1 1 5 9 13)).b, .int .u32 (qr (get4 y1 1 5 9 13)).c, .int .u32 (qr (get4 y1 1 5 9 13)).d]) ∧ w' = wr) := QC
      clear QC EG hB g1 yw
      generalize hE : qrL y1 1 5 9 13 = y2 at *
      have E2 := hide hE
      clear hE
      generalize (qr (get4 y1 1 5 9 13)).a = r0 at *
      generalize (qr (get4 y1 1 5 9 13)).b = r1 at *
      generalize (qr (get4 y1 1 5 9 13)).c = r2 at *
      generalize (qr (get4 y1 1 5 9 13)).d = r3 at *
      generalize y1.getD 1 0 = t0 at *
      generalize y1.getD 5 0 = t1 at *
      generalize y1.getD 9 0 = t2 at *
      generalize y1.getD 13 0 = t3 at *
      go_wp2_with fail
      refine QC'.out.mono ?_
      rintro r w1 ⟨rfl, rfl⟩
      go_upto_region 5 with fail
      have hN' := hN.trans (hO.below (Nat.le_refl _))
      have hZ' := hZ.of_block (hO.block (w.heap.size + 1) (by omega))
      clear c0 c1 c2 c3 p0 p1 p2 p3 QC' hN hZ hO YL
      generalize (((w1.setCell ⟨w.heap.size, 1, none⟩ (.int .u32 r0)).setCell ⟨w.heap.size, 5, none⟩ (.int .u32 r1)).setCell ⟨w.heap.size, 9, none⟩ (.int .u32 r2)).setCell ⟨w.heap.size, 13, none⟩ (.int .u32 r3) = wr at *
      have hB := hB'
      have yw := yw'
      have YL := YL'
      have hN := hN'
      have hZ := hZ'
      clear hB' yw' YL' hN' hZ'
      have g2 := yw.get4 2 6 10 14
      have c0 := hB.cell (i := 2) (by rw [YL.out]; decide)
      have c1 := hB.cell (i := 6) (by rw [YL.out]; decide)
      have c2 := hB.cell (i := 10) (by rw [YL.out]; decide)
      have c3 := hB.cell (i := 14) (by rw [YL.out]; decide)
      have p0 := hB.free 2
      have p1 := hB.free 6
      have p2 := hB.free 10
      have p3 := hB.free 14
      have QC := quarter_any wr (get4 y2 2 6 10 14) g2
      have hB' : Blk ((((wr.setCell ⟨w.heap.size, 2, none⟩ (.int .u32 (qr (get4 y2 2 6 10 14)).a)).setCell ⟨w.heap.size, 6, none⟩ (.int .u32 (qr (get4 y2 2 6 10 14)).b)).setCell ⟨w.heap.size, 10, none⟩ (.int .u32 (qr (get4 y2 2 6 10 14)).c)).setCell ⟨w.heap.size, 14, none⟩ (.int .u32 (qr (get4 y2 2 6 10 14)).d)) w.heap.size .u32 (qrL y2 2 6 10 14) := (((hB.store 2 _).store 6 _).store 10 _).store 14 _
      have hO := (((Only.setCell wr w.heap.size 2 (.int .u32 (qr (get4 y2 2 6 10 14)).a)).trans (Only.setCell _ w.heap.size 6 (.int .u32 (qr (get4 y2 2 6 10 14)).b))).trans (Only.setCell _ w.heap.size 10 (.int .u32 (qr (get4 y2 2 6 10 14)).c))).trans (Only.setCell _ w.heap.size 14 (.int .u32 (qr (get4 y2 2 6 10 14)).d))
      have yw' := yw.qr 2 6 10 14
      have YL' := hide ((qrL_len y2 2 6 10 14).trans YL.out)
      have EG : Hid (get4 y2 2 6 10 14 = ⟨y2.getD 2 0, y2.getD 6 0, y2.getD 10 0, y2.getD 14 0⟩) := rfl
      have QC' : Hid (Calls Tryz.prog 116 #[.int .u32 (y2.getD 2 0), .int .u32 (y2.getD 6 0), .int .u32 (y2.getD 10 0), .int .u32 (y2.getD 14 0)] wr fun e w' => e = .returned (.tuple #[.int .u32 (qr (get4 y2 2 6 10 14)).a, .int .u32 (qr (get4 y2 2 6 10 14)).b, .int .u32 (qr (get4 y2 2 6 10 14)).c, .int .u32 (qr (get4 y2 2 6 10 14)).d]) ∧ w' = wr) := QC
      clear QC EG hB g2 yw
      generalize hE : qrL y2 2 6 10 14 = y3 at *
      have E3 := hide hE
      clear hE
      generalize (qr (get4 y2 2 6 10 14)).a = r0 at *
      generalize (qr (get4 y2 2 6 10 14)).b = r1 at *
      generalize (qr (get4 y2 2 6 10 14)).c = r2 at *
      generalize (qr (get4 y2 2 6 10 14)).d = r3 at *
      generalize y2.getD 2 0 = t0 at *
      generalize y2.getD 6 0 = t1 at *
      generalize y2.getD 10 0 = t2 at *
      generalize y2.getD 14 0 = t3 at *
      go_wp2_with fail
      refine QC'.out.mono ?_
      rintro r w1 ⟨rfl, rfl⟩
      go_upto_region 6 with fail
      have hN' := hN.trans (hO.below (Nat.le_refl _))
      have hZ' := hZ.of_block (hO.block (w.heap.size + 1) (by omega))
      clear c0 c1 c2 c3 p0 p1 p2 p3 QC' hN hZ hO YL
      generalize (((w1.setCell ⟨w.heap.size, 2, none⟩ (.int .u32 r0)).setCell ⟨w.heap.size, 6, none⟩ (.int .u32 r1)).setCell ⟨w.heap.size, 10, none⟩ (.int .u32 r2)).setCell ⟨w.heap.size, 14, none⟩ (.int .u32 r3) = wr at *
      have hB := hB'
      have yw := yw'
      have YL := YL'
      have hN := hN'
      have hZ := hZ'
      clear hB' yw' YL' hN' hZ'
      have g3 := yw.get4 3 7 11 15
      have c0 := hB.cell (i := 3) (by rw [YL.out]; decide)
      have c1 := hB.cell (i := 7) (by rw [YL.out]; decide)
      have c2 := hB.cell (i := 11) (by rw [YL.out]; decide)
      have c3 := hB.cell (i := 15) (by rw [YL.out]; decide)
      have p0 := hB.free 3
      have p1 := hB.free 7
      have p2 := hB.free 11
      have p3 := hB.free 15
      have QC := quarter_any wr (get4 y3 3 7 11 15) g3
      have hB' : Blk ((((wr.setCell ⟨w.heap.size, 3, none⟩ (.int .u32 (qr (get4 y3 3 7 11 15)).a)).setCell ⟨w.heap.size, 7, none⟩ (.int .u32 (qr (get4 y3 3 7 11 15)).b)).setCell ⟨w.heap.size, 11, none⟩ (.int .u32 (qr (get4 y3 3 7 11 15)).c)).setCell ⟨w.heap.size, 15, none⟩ (.int .u32 (qr (get4 y3 3 7 11 15)).d)) w.heap.size .u32 (qrL y3 3 7 11 15) := (((hB.store 3 _).store 7 _).store 11 _).store 15 _
      have hO := (((Only.setCell wr w.heap.size 3 (.int .u32 (qr (get4 y3 3 7 11 15)).a)).trans (Only.setCell _ w.heap.size 7 (.int .u32 (qr (get4 y3 3 7 11 15)).b))).trans (Only.setCell _ w.heap.size 11 (.int .u32 (qr (get4 y3 3 7 11 15)).c))).trans (Only.setCell _ w.heap.size 15 (.int .u32 (qr (get4 y3 3 7 11 15)).d))
      have yw' := yw.qr 3 7 11 15
      have YL' := hide ((qrL_len y3 3 7 11 15).trans YL.out)
      have EG : Hid (get4 y3 3 7 11 15 = ⟨y3.getD 3 0, y3.getD 7 0, y3.getD 11 0, y3.getD 15 0⟩) := rfl
      have QC' : Hid (Calls Tryz.prog 116 #[.int .u32 (y3.getD 3 0), .int .u32 (y3.getD 7 0), .int .u32 (y3.getD 11 0), .int .u32 (y3.getD 15 0)] wr fun e w' => e = .returned (.tuple #[.int .u32 (qr (get4 y3 3 7 11 15)).a, .int .u32 (qr (get4 y3 3 7 11 15)).b, .int .u32 (qr (get4 y3 3 7 11 15)).c, .int .u32 (qr (get4 y3 3 7 11 15)).d]) ∧ w' = wr) := QC
      clear QC EG hB g3 yw
      generalize hE : qrL y3 3 7 11 15 = y4 at *
      have E4 := hide hE
      clear hE
      generalize (qr (get4 y3 3 7 11 15)).a = r0 at *
      generalize (qr (get4 y3 3 7 11 15)).b = r1 at *
      generalize (qr (get4 y3 3 7 11 15)).c = r2 at *
      generalize (qr (get4 y3 3 7 11 15)).d = r3 at *
      generalize y3.getD 3 0 = t0 at *
      generalize y3.getD 7 0 = t1 at *
      generalize y3.getD 11 0 = t2 at *
      generalize y3.getD 15 0 = t3 at *
      go_wp2_with fail
      refine QC'.out.mono ?_
      rintro r w1 ⟨rfl, rfl⟩
      go_upto_region 7 with fail
      have hN' := hN.trans (hO.below (Nat.le_refl _))
      have hZ' := hZ.of_block (hO.block (w.heap.size + 1) (by omega))
      clear c0 c1 c2 c3 p0 p1 p2 p3 QC' hN hZ hO YL
      generalize (((w1.setCell ⟨w.heap.size, 3, none⟩ (.int .u32 r0)).setCell ⟨w.heap.size, 7, none⟩ (.int .u32 r1)).setCell ⟨w.heap.size, 11, none⟩ (.int .u32 r2)).setCell ⟨w.heap.size, 15, none⟩ (.int .u32 r3) = wr at *
      have hB := hB'
      have yw := yw'
      have YL := YL'
      have hN := hN'
      have hZ := hZ'
      clear hB' yw' YL' hN' hZ'
      have g4 := yw.get4 0 5 10 15
      have c0 := hB.cell (i := 0) (by rw [YL.out]; decide)
      have c1 := hB.cell (i := 5) (by rw [YL.out]; decide)
      have c2 := hB.cell (i := 10) (by rw [YL.out]; decide)
      have c3 := hB.cell (i := 15) (by rw [YL.out]; decide)
      have p0 := hB.free 0
      have p1 := hB.free 5
      have p2 := hB.free 10
      have p3 := hB.free 15
      have QC := quarter_any wr (get4 y4 0 5 10 15) g4
      have hB' : Blk ((((wr.setCell ⟨w.heap.size, 0, none⟩ (.int .u32 (qr (get4 y4 0 5 10 15)).a)).setCell ⟨w.heap.size, 5, none⟩ (.int .u32 (qr (get4 y4 0 5 10 15)).b)).setCell ⟨w.heap.size, 10, none⟩ (.int .u32 (qr (get4 y4 0 5 10 15)).c)).setCell ⟨w.heap.size, 15, none⟩ (.int .u32 (qr (get4 y4 0 5 10 15)).d)) w.heap.size .u32 (qrL y4 0 5 10 15) := (((hB.store 0 _).store 5 _).store 10 _).store 15 _
      have hO := (((Only.setCell wr w.heap.size 0 (.int .u32 (qr (get4 y4 0 5 10 15)).a)).trans (Only.setCell _ w.heap.size 5 (.int .u32 (qr (get4 y4 0 5 10 15)).b))).trans (Only.setCell _ w.heap.size 10 (.int .u32 (qr (get4 y4 0 5 10 15)).c))).trans (Only.setCell _ w.heap.size 15 (.int .u32 (qr (get4 y4 0 5 10 15)).d))
      have yw' := yw.qr 0 5 10 15
      have YL' := hide ((qrL_len y4 0 5 10 15).trans YL.out)
      have EG : Hid (get4 y4 0 5 10 15 = ⟨y4.getD 0 0, y4.getD 5 0, y4.getD 10 0, y4.getD 15 0⟩) := rfl
      have QC' : Hid (Calls Tryz.prog 116 #[.int .u32 (y4.getD 0 0), .int .u32 (y4.getD 5 0), .int .u32 (y4.getD 10 0), .int .u32 (y4.getD 15 0)] wr fun e w' => e = .returned (.tuple #[.int .u32 (qr (get4 y4 0 5 10 15)).a, .int .u32 (qr (get4 y4 0 5 10 15)).b, .int .u32 (qr (get4 y4 0 5 10 15)).c, .int .u32 (qr (get4 y4 0 5 10 15)).d]) ∧ w' = wr) := QC
      clear QC EG hB g4 yw
      generalize hE : qrL y4 0 5 10 15 = y5 at *
      have E5 := hide hE
      clear hE
      generalize (qr (get4 y4 0 5 10 15)).a = r0 at *
      generalize (qr (get4 y4 0 5 10 15)).b = r1 at *
      generalize (qr (get4 y4 0 5 10 15)).c = r2 at *
      generalize (qr (get4 y4 0 5 10 15)).d = r3 at *
      generalize y4.getD 0 0 = t0 at *
      generalize y4.getD 5 0 = t1 at *
      generalize y4.getD 10 0 = t2 at *
      generalize y4.getD 15 0 = t3 at *
      go_wp2_with fail
      refine QC'.out.mono ?_
      rintro r w1 ⟨rfl, rfl⟩
      go_upto_region 8 with fail
      have hN' := hN.trans (hO.below (Nat.le_refl _))
      have hZ' := hZ.of_block (hO.block (w.heap.size + 1) (by omega))
      clear c0 c1 c2 c3 p0 p1 p2 p3 QC' hN hZ hO YL
      generalize (((w1.setCell ⟨w.heap.size, 0, none⟩ (.int .u32 r0)).setCell ⟨w.heap.size, 5, none⟩ (.int .u32 r1)).setCell ⟨w.heap.size, 10, none⟩ (.int .u32 r2)).setCell ⟨w.heap.size, 15, none⟩ (.int .u32 r3) = wr at *
      have hB := hB'
      have yw := yw'
      have YL := YL'
      have hN := hN'
      have hZ := hZ'
      clear hB' yw' YL' hN' hZ'
      have g5 := yw.get4 1 6 11 12
      have c0 := hB.cell (i := 1) (by rw [YL.out]; decide)
      have c1 := hB.cell (i := 6) (by rw [YL.out]; decide)
      have c2 := hB.cell (i := 11) (by rw [YL.out]; decide)
      have c3 := hB.cell (i := 12) (by rw [YL.out]; decide)
      have p0 := hB.free 1
      have p1 := hB.free 6
      have p2 := hB.free 11
      have p3 := hB.free 12
      have QC := quarter_any wr (get4 y5 1 6 11 12) g5
      have hB' : Blk ((((wr.setCell ⟨w.heap.size, 1, none⟩ (.int .u32 (qr (get4 y5 1 6 11 12)).a)).setCell ⟨w.heap.size, 6, none⟩ (.int .u32 (qr (get4 y5 1 6 11 12)).b)).setCell ⟨w.heap.size, 11, none⟩ (.int .u32 (qr (get4 y5 1 6 11 12)).c)).setCell ⟨w.heap.size, 12, none⟩ (.int .u32 (qr (get4 y5 1 6 11 12)).d)) w.heap.size .u32 (qrL y5 1 6 11 12) := (((hB.store 1 _).store 6 _).store 11 _).store 12 _
      have hO := (((Only.setCell wr w.heap.size 1 (.int .u32 (qr (get4 y5 1 6 11 12)).a)).trans (Only.setCell _ w.heap.size 6 (.int .u32 (qr (get4 y5 1 6 11 12)).b))).trans (Only.setCell _ w.heap.size 11 (.int .u32 (qr (get4 y5 1 6 11 12)).c))).trans (Only.setCell _ w.heap.size 12 (.int .u32 (qr (get4 y5 1 6 11 12)).d))
      have yw' := yw.qr 1 6 11 12
      have YL' := hide ((qrL_len y5 1 6 11 12).trans YL.out)
      have EG : Hid (get4 y5 1 6 11 12 = ⟨y5.getD 1 0, y5.getD 6 0, y5.getD 11 0, y5.getD 12 0⟩) := rfl
      have QC' : Hid (Calls Tryz.prog 116 #[.int .u32 (y5.getD 1 0), .int .u32 (y5.getD 6 0), .int .u32 (y5.getD 11 0), .int .u32 (y5.getD 12 0)] wr fun e w' => e = .returned (.tuple #[.int .u32 (qr (get4 y5 1 6 11 12)).a, .int .u32 (qr (get4 y5 1 6 11 12)).b, .int .u32 (qr (get4 y5 1 6 11 12)).c, .int .u32 (qr (get4 y5 1 6 11 12)).d]) ∧ w' = wr) := QC
      clear QC EG hB g5 yw
      generalize hE : qrL y5 1 6 11 12 = y6 at *
      have E6 := hide hE
      clear hE
      generalize (qr (get4 y5 1 6 11 12)).a = r0 at *
      generalize (qr (get4 y5 1 6 11 12)).b = r1 at *
      generalize (qr (get4 y5 1 6 11 12)).c = r2 at *
      generalize (qr (get4 y5 1 6 11 12)).d = r3 at *
      generalize y5.getD 1 0 = t0 at *
      generalize y5.getD 6 0 = t1 at *
      generalize y5.getD 11 0 = t2 at *
      generalize y5.getD 12 0 = t3 at *
      go_wp2_with fail
      refine QC'.out.mono ?_
      rintro r w1 ⟨rfl, rfl⟩
      go_upto_region 9 with fail
      have hN' := hN.trans (hO.below (Nat.le_refl _))
      have hZ' := hZ.of_block (hO.block (w.heap.size + 1) (by omega))
      clear c0 c1 c2 c3 p0 p1 p2 p3 QC' hN hZ hO YL
      generalize (((w1.setCell ⟨w.heap.size, 1, none⟩ (.int .u32 r0)).setCell ⟨w.heap.size, 6, none⟩ (.int .u32 r1)).setCell ⟨w.heap.size, 11, none⟩ (.int .u32 r2)).setCell ⟨w.heap.size, 12, none⟩ (.int .u32 r3) = wr at *
      have hB := hB'
      have yw := yw'
      have YL := YL'
      have hN := hN'
      have hZ := hZ'
      clear hB' yw' YL' hN' hZ'
      have g6 := yw.get4 2 7 8 13
      have c0 := hB.cell (i := 2) (by rw [YL.out]; decide)
      have c1 := hB.cell (i := 7) (by rw [YL.out]; decide)
      have c2 := hB.cell (i := 8) (by rw [YL.out]; decide)
      have c3 := hB.cell (i := 13) (by rw [YL.out]; decide)
      have p0 := hB.free 2
      have p1 := hB.free 7
      have p2 := hB.free 8
      have p3 := hB.free 13
      have QC := quarter_any wr (get4 y6 2 7 8 13) g6
      have hB' : Blk ((((wr.setCell ⟨w.heap.size, 2, none⟩ (.int .u32 (qr (get4 y6 2 7 8 13)).a)).setCell ⟨w.heap.size, 7, none⟩ (.int .u32 (qr (get4 y6 2 7 8 13)).b)).setCell ⟨w.heap.size, 8, none⟩ (.int .u32 (qr (get4 y6 2 7 8 13)).c)).setCell ⟨w.heap.size, 13, none⟩ (.int .u32 (qr (get4 y6 2 7 8 13)).d)) w.heap.size .u32 (qrL y6 2 7 8 13) := (((hB.store 2 _).store 7 _).store 8 _).store 13 _
      have hO := (((Only.setCell wr w.heap.size 2 (.int .u32 (qr (get4 y6 2 7 8 13)).a)).trans (Only.setCell _ w.heap.size 7 (.int .u32 (qr (get4 y6 2 7 8 13)).b))).trans (Only.setCell _ w.heap.size 8 (.int .u32 (qr (get4 y6 2 7 8 13)).c))).trans (Only.setCell _ w.heap.size 13 (.int .u32 (qr (get4 y6 2 7 8 13)).d))
      have yw' := yw.qr 2 7 8 13
      have YL' := hide ((qrL_len y6 2 7 8 13).trans YL.out)
      have EG : Hid (get4 y6 2 7 8 13 = ⟨y6.getD 2 0, y6.getD 7 0, y6.getD 8 0, y6.getD 13 0⟩) := rfl
      have QC' : Hid (Calls Tryz.prog 116 #[.int .u32 (y6.getD 2 0), .int .u32 (y6.getD 7 0), .int .u32 (y6.getD 8 0), .int .u32 (y6.getD 13 0)] wr fun e w' => e = .returned (.tuple #[.int .u32 (qr (get4 y6 2 7 8 13)).a, .int .u32 (qr (get4 y6 2 7 8 13)).b, .int .u32 (qr (get4 y6 2 7 8 13)).c, .int .u32 (qr (get4 y6 2 7 8 13)).d]) ∧ w' = wr) := QC
      clear QC EG hB g6 yw
      generalize hE : qrL y6 2 7 8 13 = y7 at *
      have E7 := hide hE
      clear hE
      generalize (qr (get4 y6 2 7 8 13)).a = r0 at *
      generalize (qr (get4 y6 2 7 8 13)).b = r1 at *
      generalize (qr (get4 y6 2 7 8 13)).c = r2 at *
      generalize (qr (get4 y6 2 7 8 13)).d = r3 at *
      generalize y6.getD 2 0 = t0 at *
      generalize y6.getD 7 0 = t1 at *
      generalize y6.getD 8 0 = t2 at *
      generalize y6.getD 13 0 = t3 at *
      go_wp2_with fail
      refine QC'.out.mono ?_
      rintro r w1 ⟨rfl, rfl⟩
      go_upto_region 10 with fail
      have hN' := hN.trans (hO.below (Nat.le_refl _))
      have hZ' := hZ.of_block (hO.block (w.heap.size + 1) (by omega))
      clear c0 c1 c2 c3 p0 p1 p2 p3 QC' hN hZ hO YL
      generalize (((w1.setCell ⟨w.heap.size, 2, none⟩ (.int .u32 r0)).setCell ⟨w.heap.size, 7, none⟩ (.int .u32 r1)).setCell ⟨w.heap.size, 8, none⟩ (.int .u32 r2)).setCell ⟨w.heap.size, 13, none⟩ (.int .u32 r3) = wr at *
      have hB := hB'
      have yw := yw'
      have YL := YL'
      have hN := hN'
      have hZ := hZ'
      clear hB' yw' YL' hN' hZ'
      have g7 := yw.get4 3 4 9 14
      have c0 := hB.cell (i := 3) (by rw [YL.out]; decide)
      have c1 := hB.cell (i := 4) (by rw [YL.out]; decide)
      have c2 := hB.cell (i := 9) (by rw [YL.out]; decide)
      have c3 := hB.cell (i := 14) (by rw [YL.out]; decide)
      have p0 := hB.free 3
      have p1 := hB.free 4
      have p2 := hB.free 9
      have p3 := hB.free 14
      have QC := quarter_any wr (get4 y7 3 4 9 14) g7
      have hB' : Blk ((((wr.setCell ⟨w.heap.size, 3, none⟩ (.int .u32 (qr (get4 y7 3 4 9 14)).a)).setCell ⟨w.heap.size, 4, none⟩ (.int .u32 (qr (get4 y7 3 4 9 14)).b)).setCell ⟨w.heap.size, 9, none⟩ (.int .u32 (qr (get4 y7 3 4 9 14)).c)).setCell ⟨w.heap.size, 14, none⟩ (.int .u32 (qr (get4 y7 3 4 9 14)).d)) w.heap.size .u32 (qrL y7 3 4 9 14) := (((hB.store 3 _).store 4 _).store 9 _).store 14 _
      have hO := (((Only.setCell wr w.heap.size 3 (.int .u32 (qr (get4 y7 3 4 9 14)).a)).trans (Only.setCell _ w.heap.size 4 (.int .u32 (qr (get4 y7 3 4 9 14)).b))).trans (Only.setCell _ w.heap.size 9 (.int .u32 (qr (get4 y7 3 4 9 14)).c))).trans (Only.setCell _ w.heap.size 14 (.int .u32 (qr (get4 y7 3 4 9 14)).d))
      have yw' := yw.qr 3 4 9 14
      have YL' := hide ((qrL_len y7 3 4 9 14).trans YL.out)
      have EG : Hid (get4 y7 3 4 9 14 = ⟨y7.getD 3 0, y7.getD 4 0, y7.getD 9 0, y7.getD 14 0⟩) := rfl
      have QC' : Hid (Calls Tryz.prog 116 #[.int .u32 (y7.getD 3 0), .int .u32 (y7.getD 4 0), .int .u32 (y7.getD 9 0), .int .u32 (y7.getD 14 0)] wr fun e w' => e = .returned (.tuple #[.int .u32 (qr (get4 y7 3 4 9 14)).a, .int .u32 (qr (get4 y7 3 4 9 14)).b, .int .u32 (qr (get4 y7 3 4 9 14)).c, .int .u32 (qr (get4 y7 3 4 9 14)).d]) ∧ w' = wr) := QC
      clear QC EG hB g7 yw
      generalize hE : qrL y7 3 4 9 14 = y8 at *
      have E8 := hide hE
      clear hE
      generalize (qr (get4 y7 3 4 9 14)).a = r0 at *
      generalize (qr (get4 y7 3 4 9 14)).b = r1 at *
      generalize (qr (get4 y7 3 4 9 14)).c = r2 at *
      generalize (qr (get4 y7 3 4 9 14)).d = r3 at *
      generalize y7.getD 3 0 = t0 at *
      generalize y7.getD 4 0 = t1 at *
      generalize y7.getD 9 0 = t2 at *
      generalize y7.getD 14 0 = t3 at *
      go_wp2_with fail
      refine QC'.out.mono ?_
      rintro r w1 ⟨rfl, rfl⟩
      go_upto_region 11 with fail
      have hN' := hN.trans (hO.below (Nat.le_refl _))
      have hZ' := hZ.of_block (hO.block (w.heap.size + 1) (by omega))
      clear c0 c1 c2 c3 p0 p1 p2 p3 QC' hN hZ hO YL
      generalize (((w1.setCell ⟨w.heap.size, 3, none⟩ (.int .u32 r0)).setCell ⟨w.heap.size, 4, none⟩ (.int .u32 r1)).setCell ⟨w.heap.size, 9, none⟩ (.int .u32 r2)).setCell ⟨w.heap.size, 14, none⟩ (.int .u32 r3) = wr at *
      have hB := hB'
      have yw := yw'
      have YL := YL'
      have hN := hN'
      have hZ := hZ'
      clear hB' yw' YL' hN' hZ'
      have hB2 : Blk wr w.heap.size .u32 (rds (k + 1) ys) := by
        rw [show rds (k + 1) ys = dbl (rds k ys) from rfl, ← E0.out, dbl, E1.out, E2.out, E3.out, E4.out, E5.out, E6.out, E7.out, E8.out]
        exact hB
      clear hB E0 E1 E2 E3 E4 E5 E6 E7 E8 yw YL
      go_wp2
      go_roundw
      case rel => exact ⟨k + 1, by omega, by go_num, hB2, hZ, hN⟩
      case measure => simp [intOf]; omega
    · obtain rfl : k = m := by omega
      have RG := (Seg.blk hB).range
      have L : Hid (((rds k ys).map (Value.int .u32)).length = 16) := by show _ = _; rw [List.length_map, rds_len]; exact HL.out
      have O := one_ints .u32 (rds k ys)
      obtain ⟨t0, H0⟩ := hZ
      have SR := setRow_heap wr (w.heap.size + 1) _ ((rds k ys).map (Value.int .u32)).toArray _ _ H0
      have SN : Below w.heap.size w (wr.setRow (w.heap.size + 1) ((rds k ys).map (Value.int .u32)).toArray) := hN.trans ((only_setRow wr (w.heap.size + 1) _).below (by omega))
      obtain ⟨vs', hv⟩ : ∃ v, v = (rds k ys).map (Value.int .u32) := ⟨_, rfl⟩
      rw [← hv] at RG L O SR SN
      have HV := hide hv
      clear hv
      go_wp2_with (first
        | (refine wpList_load_mid rfl 101 (.tmp 1) rfl w.heap.size 0 rfl vs' (.array 16 99) RG undS rfl (by rw [L.out]; exact infoS) ?_)
        | (refine wpList_store_row rfl 101 (.tmp 2) (.tmp 150) rfl (w.heap.size + 1) vs'.toArray rfl rfl t0 _ H0 (by rw [List.size_toArray, L.out]; exact infoS) (by rw [List.size_toArray, List.size_toArray, L.out]; rfl) O ?_))
      exact bodyPost_ret (v := .agg vs'.toArray) (results_cell_row Tryz.results104 _ _ (w.heap.size + 1) t0 vs'.toArray (0, 0) (.array 16 99) rfl SR undS rfl (by rw [List.size_toArray, L.out]; exact infoS)) rfl ⟨by rw [HV.out], SN⟩
theorem mixed_any (w : World) (ys : List Int) (hw : Ws ys) (hl : ys.length = 16) : Calls Tryz.prog 104 #[ag .u32 ys] w fun e w' => e = .returned (ag .u32 (rds 10 ys)) ∧ Below w.heap.size w w' := mixed_core w ys hw hl 10 rfl
end Go.Proofs.YtkpomobhjkikeaaGreatDoor
