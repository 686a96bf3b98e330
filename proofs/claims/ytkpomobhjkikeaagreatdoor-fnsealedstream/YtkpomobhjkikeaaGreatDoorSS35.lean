import Derived.Test.YtkpomobhjkikeaaGreatDoorSS34
namespace Go.Proofs.YtkpomobhjkikeaaGreatDoor
set_option maxRecDepth 100000
open Go Go.RowKit
def stF (ys rs : List Int) (i : Nat) : Int := (ys.getD (i / 4) 0 + rs.getD (i / 4) 0) % 4294967296 / 2 ^ (8 * (i % 4)) % 256
def stB (ys : List Int) : List Int := fill (stF ys (rds 10 ys)) 64
theorem stB_len (ys : List Int) : (stB ys).length = 64 := fill_len _ _
theorem fill_byt (f : Nat → Int) (n : Nat) (h : ∀ i, 0 ≤ f i ∧ f i < 256) : Byt (fill f n) := by
  intro i
  by_cases hi : i < n
  · rw [fill_get f n i hi]; exact h i
  · rw [List.getD_eq_getElem?_getD, List.getElem?_eq_none (by rw [fill_len]; omega)]; decide
theorem stB_byt (ys : List Int) : Byt (stB ys) := fill_byt _ _ fun i => by unfold stF; exact ⟨by omega, by omega⟩
theorem blk_z64 (w : World) (t : TypeId) : Blk (w.alloc (.cells #[.int .u8 0, .int .u8 0, .int .u8 0, .int .u8 0, .int .u8 0, .int .u8 0, .int .u8 0, .int .u8 0, .int .u8 0, .int .u8 0, .int .u8 0, .int .u8 0, .int .u8 0, .int .u8 0, .int .u8 0, .int .u8 0, .int .u8 0, .int .u8 0, .int .u8 0, .int .u8 0, .int .u8 0, .int .u8 0, .int .u8 0, .int .u8 0, .int .u8 0, .int .u8 0, .int .u8 0, .int .u8 0, .int .u8 0, .int .u8 0, .int .u8 0, .int .u8 0, .int .u8 0, .int .u8 0, .int .u8 0, .int .u8 0, .int .u8 0, .int .u8 0, .int .u8 0, .int .u8 0, .int .u8 0, .int .u8 0, .int .u8 0, .int .u8 0, .int .u8 0, .int .u8 0, .int .u8 0, .int .u8 0, .int .u8 0, .int .u8 0, .int .u8 0, .int .u8 0, .int .u8 0, .int .u8 0, .int .u8 0, .int .u8 0, .int .u8 0, .int .u8 0, .int .u8 0, .int .u8 0, .int .u8 0, .int .u8 0, .int .u8 0, .int .u8 0] t)) w.heap.size .u8 (List.replicate 64 0) := ⟨t, by show (w.heap.push _)[w.heap.size]? = _; rw [Array.getElem?_push_size]; rfl⟩
theorem infoB : (Tryz.prog.info? 143).map (·.size) = some 64 := by kernel_rfl
theorem undB : Tryz.prog.underlying 143 = some (.array 64 5) := by kernel_rfl
theorem int_ofW {x : Int} (h : W4 x) : x % 4294967296 = x := by obtain ⟨h0, h1⟩ := h; omega
set_option maxRecDepth 100000 in
set_option maxHeartbeats 8000000 in
theorem block_any (w : World) (ys : List Int) (hw : Ws ys) (hl : ys.length = 16) (c : Int) (hc : W4 c) :
    Calls Tryz.prog 86 #[ag .u32 ys, .int .i64 c] w fun e w' => e = .returned (ag .u8 (stB (ys.set 12 c))) ∧ Below w.heap.size w w' := by
  have B0 := blk_alloc w .u32 101 ys
  have n0 : Below w.heap.size w (w.alloc (.cells (ys.map (Value.int .u32)).toArray 101)) := (Below.refl _ _).alloc (Nat.le_refl _) _
  have z0 : (w.alloc (.cells (ys.map (Value.int .u32)).toArray 101)).heap.size = w.heap.size + 1 := by simp
  have yw : Ws (ys.set 12 c) := hw.set 12 hc
  have YL := hide (show (ys.set 12 c).length = 16 by rw [List.length_set]; exact hl)
  have HL := hide hl
  obtain ⟨ys', hys'⟩ : ∃ y, y = ys.set 12 c := ⟨_, rfl⟩
  rw [← hys'] at yw YL ⊢
  obtain ⟨rs, hrs⟩ : ∃ r, r = rds 10 ys' := ⟨_, rfl⟩
  have MX := fun W => hide (mixed_any W ys' yw YL.out)
  have RL := hide (show rs.length = 16 by rw [hrs, rds_len]; exact YL.out)
  have SB : Hid (stB ys' = fill (stF ys' rs) 64) := by show _ = _; rw [hrs]; rfl
  rw [SB.out]
  simp only [← hrs] at MX
  have HYS := hide hys'
  clear hrs SB hys' hl
  have cm := int_ofW hc
  obtain ⟨c0, c1⟩ := hc
  have VY : Hid (ag .u32 ys = Value.agg (ys.map (Value.int .u32)).toArray) := rfl
  rw [VY.out]
  obtain ⟨vs, hvs⟩ : ∃ vs, vs = ys.map (Value.int .u32) := ⟨_, rfl⟩
  rw [← hvs] at B0 n0 z0 ⊢
  clear hvs VY hw
  go_enter Tryz.func86, Tryz.ntmps86
  go_upto_region 1 with fail
  generalize w.alloc (.cells vs.toArray 101) = wa at *
  have n1 : Below wa.heap.size wa (wa.alloc (.cells #[.int .u8 0, .int .u8 0, .int .u8 0, .int .u8 0, .int .u8 0, .int .u8 0, .int .u8 0, .int .u8 0, .int .u8 0, .int .u8 0, .int .u8 0, .int .u8 0, .int .u8 0, .int .u8 0, .int .u8 0, .int .u8 0, .int .u8 0, .int .u8 0, .int .u8 0, .int .u8 0, .int .u8 0, .int .u8 0, .int .u8 0, .int .u8 0, .int .u8 0, .int .u8 0, .int .u8 0, .int .u8 0, .int .u8 0, .int .u8 0, .int .u8 0, .int .u8 0, .int .u8 0, .int .u8 0, .int .u8 0, .int .u8 0, .int .u8 0, .int .u8 0, .int .u8 0, .int .u8 0, .int .u8 0, .int .u8 0, .int .u8 0, .int .u8 0, .int .u8 0, .int .u8 0, .int .u8 0, .int .u8 0, .int .u8 0, .int .u8 0, .int .u8 0, .int .u8 0, .int .u8 0, .int .u8 0, .int .u8 0, .int .u8 0, .int .u8 0, .int .u8 0, .int .u8 0, .int .u8 0, .int .u8 0, .int .u8 0, .int .u8 0, .int .u8 0] 143)) := (Below.refl _ _).alloc (Nat.le_refl _) _
  have B1 := blk_z64 wa 143
  have z1 : (wa.alloc (.cells #[.int .u8 0, .int .u8 0, .int .u8 0, .int .u8 0, .int .u8 0, .int .u8 0, .int .u8 0, .int .u8 0, .int .u8 0, .int .u8 0, .int .u8 0, .int .u8 0, .int .u8 0, .int .u8 0, .int .u8 0, .int .u8 0, .int .u8 0, .int .u8 0, .int .u8 0, .int .u8 0, .int .u8 0, .int .u8 0, .int .u8 0, .int .u8 0, .int .u8 0, .int .u8 0, .int .u8 0, .int .u8 0, .int .u8 0, .int .u8 0, .int .u8 0, .int .u8 0, .int .u8 0, .int .u8 0, .int .u8 0, .int .u8 0, .int .u8 0, .int .u8 0, .int .u8 0, .int .u8 0, .int .u8 0, .int .u8 0, .int .u8 0, .int .u8 0, .int .u8 0, .int .u8 0, .int .u8 0, .int .u8 0, .int .u8 0, .int .u8 0, .int .u8 0, .int .u8 0, .int .u8 0, .int .u8 0, .int .u8 0, .int .u8 0, .int .u8 0, .int .u8 0, .int .u8 0, .int .u8 0, .int .u8 0, .int .u8 0, .int .u8 0, .int .u8 0] 143)).heap.size = wa.heap.size + 1 := by simp
  generalize wa.alloc (.cells #[.int .u8 0, .int .u8 0, .int .u8 0, .int .u8 0, .int .u8 0, .int .u8 0, .int .u8 0, .int .u8 0, .int .u8 0, .int .u8 0, .int .u8 0, .int .u8 0, .int .u8 0, .int .u8 0, .int .u8 0, .int .u8 0, .int .u8 0, .int .u8 0, .int .u8 0, .int .u8 0, .int .u8 0, .int .u8 0, .int .u8 0, .int .u8 0, .int .u8 0, .int .u8 0, .int .u8 0, .int .u8 0, .int .u8 0, .int .u8 0, .int .u8 0, .int .u8 0, .int .u8 0, .int .u8 0, .int .u8 0, .int .u8 0, .int .u8 0, .int .u8 0, .int .u8 0, .int .u8 0, .int .u8 0, .int .u8 0, .int .u8 0, .int .u8 0, .int .u8 0, .int .u8 0, .int .u8 0, .int .u8 0, .int .u8 0, .int .u8 0, .int .u8 0, .int .u8 0, .int .u8 0, .int .u8 0, .int .u8 0, .int .u8 0, .int .u8 0, .int .u8 0, .int .u8 0, .int .u8 0, .int .u8 0, .int .u8 0, .int .u8 0, .int .u8 0] 143) = wb at *
  rw [z0] at B1 z1
  have B0 := B0.up n1
  have N1 := nxt n0 n1
  clear n0 n1 z0
  have e12 := B0.cell (i := 12) (by rw [HL.out]; decide)
  have f12 := B0.free 12
  have B0' := B0.store 12 c
  have O2 := Only.setCell wb w.heap.size 12 (.int .u32 c)
  rw [← HYS.out] at B0'
  generalize ys.getD 12 0 = y12 at *
  go_upto_region 2 with fail
  have B1' := B1.of_block (O2.block (w.heap.size + 1) (by omega))
  have N2 := N1.trans (O2.below (Nat.le_refl _))
  have z2 := O2.size
  generalize wb.setCell ⟨w.heap.size, 12, none⟩ (.int .u32 c) = wc at *
  clear B0 B1 N1 O2 e12 f12 HYS HL
  have RG := (Seg.blk B0').range
  have L : Hid ((ys'.map (Value.int .u32)).length = 16) := by show _ = _; rw [List.length_map]; exact YL.out
  have VM : Hid (ag .u32 ys' = Value.agg (ys'.map (Value.int .u32)).toArray) := rfl
  have VR : Hid (ag .u32 rs = Value.agg (rs.map (Value.int .u32)).toArray) := rfl
  simp only [VM.out, VR.out] at MX
  clear VM VR
  obtain ⟨vy, hvy⟩ : ∃ v, v = ys'.map (Value.int .u32) := ⟨_, rfl⟩
  rw [← hvy] at RG L
  simp only [← hvy] at MX
  clear hvy
  go_wp2_with (refine wpList_load_mid rfl 101 (.tmp 2) rfl w.heap.size 0 rfl vy (.array 16 99) RG undS rfl (by rw [L.out]; exact infoS) ?_)
  refine (MX wc).out.mono ?_
  rintro e wm ⟨rfl, nm⟩
  have B2 := B0'.up nm
  have B3 := B1'.up nm
  have N3 := N2.trans (nm.mono (by omega))
  have zm := nm.size
  clear B0' B1' N2 RG MX L nm
  have n4 : Below wm.heap.size wm (wm.alloc (.cells #[.int .u32 0, .int .u32 0, .int .u32 0, .int .u32 0, .int .u32 0, .int .u32 0, .int .u32 0, .int .u32 0, .int .u32 0, .int .u32 0, .int .u32 0, .int .u32 0, .int .u32 0, .int .u32 0, .int .u32 0, .int .u32 0] 101)) := (Below.refl _ _).alloc (Nat.le_refl _) _
  have B4 := blk_z16 wm 101
  have z4 : (wm.alloc (.cells #[.int .u32 0, .int .u32 0, .int .u32 0, .int .u32 0, .int .u32 0, .int .u32 0, .int .u32 0, .int .u32 0, .int .u32 0, .int .u32 0, .int .u32 0, .int .u32 0, .int .u32 0, .int .u32 0, .int .u32 0, .int .u32 0] 101)).heap.size = wm.heap.size + 1 := by simp
  have L : Hid ((rs.map (Value.int .u32)).length = 16) := by show _ = _; rw [List.length_map]; exact RL.out
  have O := one_ints .u32 rs
  obtain ⟨t4, H4⟩ := B4
  have SR := blk_setRow (zs := rs) ⟨t4, H4⟩
  have OR := only_setRow (wm.alloc (.cells #[.int .u32 0, .int .u32 0, .int .u32 0, .int .u32 0, .int .u32 0, .int .u32 0, .int .u32 0, .int .u32 0, .int .u32 0, .int .u32 0, .int .u32 0, .int .u32 0, .int .u32 0, .int .u32 0, .int .u32 0, .int .u32 0] 101)) wm.heap.size (rs.map (Value.int .u32)).toArray
  obtain ⟨vr, hvr⟩ : ∃ v, v = rs.map (Value.int .u32) := ⟨_, rfl⟩
  rw [← hvr] at L O SR OR ⊢
  clear hvr
  have B2 := B2.up n4
  have B3 := B3.up n4
  have N4 := N3.trans (n4.mono (by omega))
  go_wp2_with (refine wpList_store_row rfl 101 (.tmp 5) (.tmp 14) rfl wm.heap.size vr.toArray rfl rfl t4 _ H4 (by rw [List.size_toArray, L.out]; exact infoS) (by rw [List.size_toArray, List.size_toArray, L.out]; rfl) O ?_)
  generalize wm.alloc (.cells #[.int .u32 0, .int .u32 0, .int .u32 0, .int .u32 0, .int .u32 0, .int .u32 0, .int .u32 0, .int .u32 0, .int .u32 0, .int .u32 0, .int .u32 0, .int .u32 0, .int .u32 0, .int .u32 0, .int .u32 0, .int .u32 0] 101) = wn at *
  have B2 := B2.of_block (OR.block w.heap.size (by omega))
  have B3 := B3.of_block (OR.block (w.heap.size + 1) (by omega))
  have N5 := N4.trans (OR.below (B := w.heap.size) (by omega))
  have z5 := OR.size
  generalize wn.setRow wm.heap.size vr.toArray = wo at *
  clear N3 N4 n4 OR H4 O L
  have n6 : Below wo.heap.size wo (wo.alloc (.cells #[.int .u8 0, .int .u8 0, .int .u8 0, .int .u8 0, .int .u8 0, .int .u8 0, .int .u8 0, .int .u8 0, .int .u8 0, .int .u8 0, .int .u8 0, .int .u8 0, .int .u8 0, .int .u8 0, .int .u8 0, .int .u8 0, .int .u8 0, .int .u8 0, .int .u8 0, .int .u8 0, .int .u8 0, .int .u8 0, .int .u8 0, .int .u8 0, .int .u8 0, .int .u8 0, .int .u8 0, .int .u8 0, .int .u8 0, .int .u8 0, .int .u8 0, .int .u8 0, .int .u8 0, .int .u8 0, .int .u8 0, .int .u8 0, .int .u8 0, .int .u8 0, .int .u8 0, .int .u8 0, .int .u8 0, .int .u8 0, .int .u8 0, .int .u8 0, .int .u8 0, .int .u8 0, .int .u8 0, .int .u8 0, .int .u8 0, .int .u8 0, .int .u8 0, .int .u8 0, .int .u8 0, .int .u8 0, .int .u8 0, .int .u8 0, .int .u8 0, .int .u8 0, .int .u8 0, .int .u8 0, .int .u8 0, .int .u8 0, .int .u8 0, .int .u8 0] 143)) := (Below.refl _ _).alloc (Nat.le_refl _) _
  have B6 := blk_z64 wo 143
  have z6 : (wo.alloc (.cells #[.int .u8 0, .int .u8 0, .int .u8 0, .int .u8 0, .int .u8 0, .int .u8 0, .int .u8 0, .int .u8 0, .int .u8 0, .int .u8 0, .int .u8 0, .int .u8 0, .int .u8 0, .int .u8 0, .int .u8 0, .int .u8 0, .int .u8 0, .int .u8 0, .int .u8 0, .int .u8 0, .int .u8 0, .int .u8 0, .int .u8 0, .int .u8 0, .int .u8 0, .int .u8 0, .int .u8 0, .int .u8 0, .int .u8 0, .int .u8 0, .int .u8 0, .int .u8 0, .int .u8 0, .int .u8 0, .int .u8 0, .int .u8 0, .int .u8 0, .int .u8 0, .int .u8 0, .int .u8 0, .int .u8 0, .int .u8 0, .int .u8 0, .int .u8 0, .int .u8 0, .int .u8 0, .int .u8 0, .int .u8 0, .int .u8 0, .int .u8 0, .int .u8 0, .int .u8 0, .int .u8 0, .int .u8 0, .int .u8 0, .int .u8 0, .int .u8 0, .int .u8 0, .int .u8 0, .int .u8 0, .int .u8 0, .int .u8 0, .int .u8 0, .int .u8 0] 143)).heap.size = wo.heap.size + 1 := by simp
  generalize wo.alloc (.cells #[.int .u8 0, .int .u8 0, .int .u8 0, .int .u8 0, .int .u8 0, .int .u8 0, .int .u8 0, .int .u8 0, .int .u8 0, .int .u8 0, .int .u8 0, .int .u8 0, .int .u8 0, .int .u8 0, .int .u8 0, .int .u8 0, .int .u8 0, .int .u8 0, .int .u8 0, .int .u8 0, .int .u8 0, .int .u8 0, .int .u8 0, .int .u8 0, .int .u8 0, .int .u8 0, .int .u8 0, .int .u8 0, .int .u8 0, .int .u8 0, .int .u8 0, .int .u8 0, .int .u8 0, .int .u8 0, .int .u8 0, .int .u8 0, .int .u8 0, .int .u8 0, .int .u8 0, .int .u8 0, .int .u8 0, .int .u8 0, .int .u8 0, .int .u8 0, .int .u8 0, .int .u8 0, .int .u8 0, .int .u8 0, .int .u8 0, .int .u8 0, .int .u8 0, .int .u8 0, .int .u8 0, .int .u8 0, .int .u8 0, .int .u8 0, .int .u8 0, .int .u8 0, .int .u8 0, .int .u8 0, .int .u8 0, .int .u8 0, .int .u8 0, .int .u8 0] 143) = wp at *
  have B2 := B2.up n6
  have B3 := B3.up n6
  have B5 := SR.up n6
  have N6 := N5.trans (n6.mono (by omega))
  generalize hp : wm.heap.size = p at *
  have s6 : wo.heap.size = p + 1 := by omega
  rw [s6] at B6 z6
  have pb : w.heap.size + 1 < p := by omega
  clear N5 n6 SR zm z1 z2 z4 z5 hp s6
  have F0 : FillTo (stF ys' rs) (List.replicate 64 0) 64 (4 * 0) := ⟨by simp, fun j h => absurd h (by omega)⟩
  go_loopw [15] (fun v wr => ∃ (i : Nat) (zs : List Int), i ≤ 16 ∧ v = .int .i64 i ∧ FillTo (stF ys' rs) zs 64 (4 * i) ∧ Blk wr (p + 1) .u8 zs ∧ Blk wr w.heap.size .u32 ys' ∧ Blk wr (w.heap.size + 1) .u8 (List.replicate 64 0) ∧ Blk wr p .u32 rs ∧ Below w.heap.size w wr) (fun v _ => 16 - (intOf v).toNat)
  case atStart => exact ⟨0, _, Nat.zero_le _, rfl, F0, B6, B2, B3, B5, N6⟩
  case round =>
    obtain ⟨i, zs, hi, rfl, hF, hZ, hY, hR, hS, hN⟩ := hrel
    clear B2 B3 B5 B6 N6 F0 z6
    by_cases hlt : i < 16
    · have cy := hY.cell (i := i) (by rw [YL.out]; exact hlt)
      have cs := hS.cell (i := i) (by rw [RL.out]; exact hlt)
      have i16 : (i : Int) < 16 := by omega
      have FV : ∀ j, j < 4 → Hid (stF ys' rs (4 * i + j) = (ys'.getD i 0 + rs.getD i 0) % 4294967296 / 2 ^ (8 * j) % 256) := fun j hj => by
        show _ = _
        unfold stF
        rw [show (4 * i + j) / 4 = i by omega, show (4 * i + j) % 4 = j by omega]
      have HF := hide hF
      clear hF
      generalize ys'.getD i 0 = yv at *
      generalize rs.getD i 0 = rv at *
      go_wp2_with fail
      go_quiet (fail)
      obtain ⟨v, hv⟩ : ∃ v, v = (yv + rv) % 4294967296 := ⟨_, rfl⟩
      simp only [← hv] at FV ⊢
      have v0 : 0 ≤ v := by omega
      have v1 : v < 4294967296 := by omega
      clear hv cy cs
      have hZ : Blk (wr.drewN nq) (p + 1) .u8 zs := hZ
      have hY : Blk (wr.drewN nq) w.heap.size .u32 ys' := hY
      have hR : Blk (wr.drewN nq) (w.heap.size + 1) .u8 (List.replicate 64 0) := hR
      have hS : Blk (wr.drewN nq) p .u32 rs := hS
      have hN := below_drewN hN nq
      generalize wr.drewN nq = ws at *
      go_wp2
      go_loopw [25] (fun u wq => ∃ (j : Nat) (us : List Int), j ≤ 4 ∧ u = .int .i64 j ∧ Hid (FillTo (stF ys' rs) us 64 (4 * i + j)) ∧ Blk wq (p + 1) .u8 us ∧ Blk wq w.heap.size .u32 ys' ∧ Blk wq (w.heap.size + 1) .u8 (List.replicate 64 0) ∧ Blk wq p .u32 rs ∧ Below w.heap.size w wq) (fun u _ => 4 - (intOf u).toNat)
      case atStart => exact ⟨0, zs, Nat.zero_le _, rfl, HF, hZ, hY, hR, hS, hN⟩
      case round =>
        obtain ⟨j, us, hj, rfl, gF, gZ, gY, gR, gS, gN⟩ := hrel
        clear hZ hY hR hS hN HF
        by_cases jl : j < 4
        · have R := gF.out.step (show 4 * i + j < 64 by omega)
          have ul := gF.out.1
          rw [(FV j jl).out] at R
          have HR := hide R
          have UL := hide ul
          have cz := gZ.cell (i := 4 * i + j) (by rw [ul]; omega)
          have fz := gZ.free (4 * i + j)
          have Z' := gZ.store (4 * i + j) (v / 2 ^ (8 * j) % 256)
          have O' := Only.setCell wr (p + 1) (4 * i + j) (.int .u8 (v / 2 ^ (8 * j) % 256))
          have Y' := gY.of_block (O'.block w.heap.size (by omega))
          have R' := gR.of_block (O'.block (w.heap.size + 1) (by omega))
          have S' := gS.of_block (O'.block p (by omega))
          have N' := gN.trans (O'.below (B := w.heap.size) (by omega))
          have d1 : 4 * (i : Int) + (j : Int) = ((4 * i + j : Nat) : Int) := by omega
          have d2 : ((4 * i + j : Nat) : Int) < 64 := by omega
          have d3 : 8 * (j : Int) = ((8 * j : Nat) : Int) := by omega
          have d4 : 8 * j ≤ 24 := by omega
          have d5 : (j : Int) < 4 := by omega
          have d6 : (i : Int) * 4 + (j : Int) = ((4 * i + j : Nat) : Int) := by omega
          have ix : Hid (4 * i + j + 1 = 4 * i + (j + 1)) := by show _ = _; omega
          rw [ix.out] at HR
          clear R ul gF gZ gY gR gS gN O' FV ix
          generalize us.getD (4 * i + j) 0 = u0 at *
          generalize us.set (4 * i + j) (v / 2 ^ (8 * j) % 256) = us' at *
          generalize hnx : 4 * i + (j + 1) = nx at *
          have HX := hide hnx
          clear hnx
          generalize 4 * i + j = pl at *
          generalize 8 * j = sh at *
          go_wp2
          go_roundw
          case rel => exact ⟨j + 1, us', by omega, by go_num, by rw [HX.out]; exact HR, Z', Y', R', S', N'⟩
          case measure => simp [intOf]; omega
        · obtain rfl : j = 4 := by omega
          have GF := gF
          rw [show 4 * i + 4 = 4 * (i + 1) by omega] at GF
          clear gF FV
          go_wp2
          go_roundw
          case rel => exact ⟨i + 1, us, by omega, by go_num, GF.out, gZ, gY, gR, gS, gN⟩
          case measure => simp [intOf]; omega
    · obtain rfl : i = 16 := by omega
      obtain rfl := hF.all
      have RG := (Seg.blk hZ).range
      have L : Hid (((fill (stF ys' rs) 64).map (Value.int .u8)).length = 64) := by show _ = _; rw [List.length_map, fill_len]
      have O := one_ints .u8 (fill (stF ys' rs) 64)
      obtain ⟨t0, H0⟩ := hR
      have SR := setRow_heap wr (w.heap.size + 1) _ ((fill (stF ys' rs) 64).map (Value.int .u8)).toArray _ _ H0
      have SN : Below w.heap.size w (wr.setRow (w.heap.size + 1) ((fill (stF ys' rs) 64).map (Value.int .u8)).toArray) := hN.trans ((only_setRow wr (w.heap.size + 1) _).below (by omega))
      have V : Hid (ag .u8 (fill (stF ys' rs) 64) = Value.agg ((fill (stF ys' rs) 64).map (Value.int .u8)).toArray) := rfl
      obtain ⟨vs', hv⟩ : ∃ v, v = (fill (stF ys' rs) 64).map (Value.int .u8) := ⟨_, rfl⟩
      rw [← hv] at RG L O SR SN V
      clear hv hF hZ hY hS hN
      go_wp2_with (first
        | (refine wpList_load_mid rfl 143 (.tmp 6) rfl (p + 1) 0 rfl vs' (.array 64 5) RG undB rfl (by rw [L.out]; exact infoB) ?_)
        | (refine wpList_store_row rfl 143 (.tmp 4) (.tmp 40) rfl (w.heap.size + 1) vs'.toArray rfl rfl t0 _ H0 (by rw [List.size_toArray, L.out]; exact infoB) (by rw [List.size_toArray, List.size_toArray, L.out]; rfl) O ?_))
      exact bodyPost_ret (v := .agg vs'.toArray) (results_cell_row Tryz.results86 _ _ (w.heap.size + 1) t0 vs'.toArray (0, 0) (.array 64 5) rfl SR undB rfl (by rw [List.size_toArray, L.out]; exact infoB)) rfl ⟨by rw [V.out], SN⟩
end Go.Proofs.YtkpomobhjkikeaaGreatDoor
