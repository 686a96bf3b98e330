
/-
  The program's words out of bytes and back, 32 bits (written by gens/hf.py).
-/
import Derived.Test.YtnfciobpfiibcaaDoorHsS
import Derived.Test.YtnfciobpfiibcaaDoorHb32
import Derived.BigRegion
namespace Go.Proofs.YtnfciobpfiibcaaDoor
set_option maxRecDepth 100000
open Go Go.RowKit

set_option maxHeartbeats 4000000 in
theorem fillWords_32 (w : World) (q off n cw : Nat) (hZ : Seg w q off .u32 (List.replicate n 0)) (g : Nat) (a : Option Addr) (c : Nat) (xs : List Int) (hr : Rd w g a .u8 xs) (hb : Byt xs) (hl : xs.length = 4 * n) (h0 : 0 < n) (hn : n ≤ 16) (hg : g ≠ q) :
    Calls Tryd.prog 104 #[.slice (some ⟨q, off, none⟩) n cw, .slice a xs.length c] w fun e w' => e = .returned (.tuple #[]) ∧ ∃ ys, (ys.length = n ∧ ∀ j, j < n → ys.getD j 0 = wd 4 xs j) ∧ Seg w' q off .u32 ys ∧ SegX q off n w w' := by
  obtain ⟨o2, rfl, hc⟩ := hr (by omega)
  rw [hl]
  have HL := hide hl
  clear hl
  go_enter Tryd.func104, Tryd.ntmps104
  go_wp2_with fail
  refine (wordSize_32 w).mono ?_
  rintro r w1 ⟨rfl, rfl⟩
  go_wp2
  go_loopw [10] (fun i wr => ∃ (j : Nat) (ys : List Int), j ≤ 4 * n ∧ i = .int .i64 j ∧ FilW 4 xs n ys j ∧ Seg wr q off .u32 ys ∧ SegX q off n w1 wr) (fun i _ => 4 * n - (intOf i).toNat)
  case atStart => exact ⟨0, _, Nat.zero_le _, rfl, FilW.zero 4 xs n, hZ, SegX.refl _ _ _ _⟩
  case round =>
    obtain ⟨j, ys, hj, rfl, hF, hS, hX⟩ := hrel
    by_cases hlt : j < 4 * n
    · have cx : wr.cell? ⟨g, o2 + j, none⟩ = some (.int .u8 (xs.getD j 0)) := by
        rw [World.cell?_of_block (a := ⟨g, o2 + j, none⟩) (hX.only.block g hg)]
        exact hc j (by rw [HL.out]; exact hlt)
      have hp : j / 4 < n := by omega
      have R := hF.step (by decide)
      have hh := hF.here hp
      have hs := hS (j / 4) (by rw [hF.1]; exact hp)
      rw [hh] at hs
      have xb := hb j
      have bl := bw_lt (z := 4) hb (j / 4) (j % 4)
      have bl2 : bw 4 xs (j / 4) (j % 4) < 16777216 := by
        have : (256 : Int) ^ (j % 4) ≤ 256 ^ (4 - 1) := p256_leh (by omega)
        have e : (256 : Int) ^ (4 - 1) = 16777216 := by decide
        omega
      have ov := orb32 (bw 4 xs (j / 4) (j % 4)) (xs.getD j 0) bl.1 bl2 xb.1 xb.2
      have S' := hS.store (j / 4) (by rw [hF.1]; exact hp) (bw 4 xs (j / 4) (j % 4) * 256 + xs.getD j 0)
      have X' := hX.trans (SegX.set wr q off n (j / 4) hp (.int .u32 (bw 4 xs (j / 4) (j % 4) * 256 + xs.getD j 0)))
      obtain ⟨h1, h2⟩ := hs
      have d1 : (j : Int) / 4 = ((j / 4 : Nat) : Int) := by omega
      have d2 : ((j / 4 : Nat) : Int) < (n : Int) := by omega
      have d3 : (j : Int) < 4 * (n : Int) := by omega
      clear hF hS hX hh bl hp
      generalize j / 4 = p at *
      generalize bw 4 xs p (j % 4) = bv at *
      generalize xs.getD j 0 = x at *
      obtain ⟨x0, x1⟩ := xb
      go_wp2_with fail
      go_region
      go_wp2
      go_roundw
      case rel => exact ⟨j + 1, _, by omega, by go_num, R, S', X'.drew⟩
      case measure => simp [intOf]; omega
    · obtain rfl : j = 4 * n := by omega
      have K := hide (hF.all (by decide))
      clear hF
      go_wp2
      exact bodyPost_end (v := .tuple #[]) (by simp [results, Tryd.results104, go_sem]) rfl ⟨rfl, ys, K.out, hS, hX⟩

theorem info16_32 : (Tryd.prog.info? 73).map (·.size) = some 16 := by kernel_rfl
theorem und16_32 : Tryd.prog.underlying 73 = some (.array 16 47) := by kernel_rfl
set_option maxHeartbeats 4000000 in
theorem readBlock_32 (w : World) (g : Nat) (a : Option Addr) (c : Nat) (xs : List Int) (hr : Rd w g a .u8 xs) (hb : Byt xs) (hl : xs.length = 64) :
    Calls Tryd.prog 86 #[.slice a 64 c] w fun e w' => e = .returned (agw .u32 (wd 4 xs)) ∧ Below w.heap.size w w' := by
  have n0 : Below w.heap.size w (w.alloc (.cells #[.int .u32 0, .int .u32 0, .int .u32 0, .int .u32 0, .int .u32 0, .int .u32 0, .int .u32 0, .int .u32 0, .int .u32 0, .int .u32 0, .int .u32 0, .int .u32 0, .int .u32 0, .int .u32 0, .int .u32 0, .int .u32 0] 73)) := (Below.refl _ _).alloc (Nat.le_refl _) _
  have B0 := blk_agw w .u32 73 (fun _ => 0)
  have z0 : (w.alloc (.cells #[.int .u32 0, .int .u32 0, .int .u32 0, .int .u32 0, .int .u32 0, .int .u32 0, .int .u32 0, .int .u32 0, .int .u32 0, .int .u32 0, .int .u32 0, .int .u32 0, .int .u32 0, .int .u32 0, .int .u32 0, .int .u32 0] 73)).heap.size = w.heap.size + 1 := by simp
  have gl := hr.lt (by omega)
  have HL := hide hl
  go_enter Tryd.func86, Tryd.ntmps86
  go_wp2_with fail
  generalize w.alloc (.cells #[.int .u32 0, .int .u32 0, .int .u32 0, .int .u32 0, .int .u32 0, .int .u32 0, .int .u32 0, .int .u32 0, .int .u32 0, .int .u32 0, .int .u32 0, .int .u32 0, .int .u32 0, .int .u32 0, .int .u32 0, .int .u32 0] 73) = wa at *
  have n1 : Below wa.heap.size wa (wa.alloc (.cells #[.int .u32 0, .int .u32 0, .int .u32 0, .int .u32 0, .int .u32 0, .int .u32 0, .int .u32 0, .int .u32 0, .int .u32 0, .int .u32 0, .int .u32 0, .int .u32 0, .int .u32 0, .int .u32 0, .int .u32 0, .int .u32 0] 73)) := (Below.refl _ _).alloc (Nat.le_refl _) _
  have B1 := blk_agw wa .u32 73 (fun _ => 0)
  have z1 : (wa.alloc (.cells #[.int .u32 0, .int .u32 0, .int .u32 0, .int .u32 0, .int .u32 0, .int .u32 0, .int .u32 0, .int .u32 0, .int .u32 0, .int .u32 0, .int .u32 0, .int .u32 0, .int .u32 0, .int .u32 0, .int .u32 0, .int .u32 0] 73)).heap.size = wa.heap.size + 1 := by simp
  generalize wa.alloc (.cells #[.int .u32 0, .int .u32 0, .int .u32 0, .int .u32 0, .int .u32 0, .int .u32 0, .int .u32 0, .int .u32 0, .int .u32 0, .int .u32 0, .int .u32 0, .int .u32 0, .int .u32 0, .int .u32 0, .int .u32 0, .int .u32 0] 73) = wb at *
  rw [z0] at B1 z1
  have B0 := B0.up n1
  have N1 := nxt n0 n1
  have FW := fillWords_32 wb (w.heap.size + 1) 0 16 16 (Seg.blk B1) g a c xs (hr.up N1) hb HL.out (by decide) (by decide) (by omega)
  rw [HL.out] at FW
  clear n0 n1 hl hr
  have FH := hide FW
  clear FW
  refine FH.out.mono ?_
  rintro r w2 ⟨rfl, ys, ⟨yl, yv⟩, S2, X2⟩
  obtain rfl : ys = lsw (wd 4 xs) := eq_of_getD (by rw [yl, lsw_len]) (fun i hi => by rw [yl] at hi; rw [yv i hi, lsw_get _ _ hi])
  have B0 := B0.of_block (X2.only.block w.heap.size (by omega))
  have N2 : Below w.heap.size w w2 := N1.trans (X2.only.below (by omega))
  have RG := S2.range
  obtain ⟨t0, H0⟩ := B0
  have SR := setRow_heap w2 w.heap.size _ ((lsw (wd 4 xs)).map (Value.int .u32)).toArray _ _ H0
  have SN : Below w.heap.size w (w2.setRow w.heap.size ((lsw (wd 4 xs)).map (Value.int .u32)).toArray) := N2.trans ⟨rfl, rfl, rfl, by simp, fun i hi => setRow_other w2 _ i _ (by omega)⟩
  have V : Hid (agw .u32 (wd 4 xs) = .agg ((lsw (wd 4 xs)).map (Value.int .u32)).toArray) := rfl
  have L : Hid (((lsw (wd 4 xs)).map (Value.int .u32)).length = 16) := by show _ = _; rw [List.length_map]; rfl
  have O := one_ints .u32 (lsw (wd 4 xs))
  generalize (lsw (wd 4 xs)).map (Value.int .u32) = vs at *
  clear FH X2 S2 yl yv N1 N2 B1
  go_wp2_with (first
    | (refine wpList_load_mid rfl 73 (.tmp 3) rfl (w.heap.size + 1) 0 rfl vs (.array 16 47) RG und16_32 rfl (by rw [L.out]; exact info16_32) ?_)
    | (refine wpList_store_row rfl 73 (.tmp 2) (.tmp 7) rfl w.heap.size vs.toArray rfl rfl t0 _ H0 (by rw [List.size_toArray, L.out]; exact info16_32) (by rw [List.size_toArray, List.size_toArray, L.out]; rfl) O ?_))
  exact bodyPost_ret (v := .agg vs.toArray) (results_cell_row Tryd.results86 _ _ w.heap.size t0 vs.toArray (0, 0) (.array 16 47) rfl SR und16_32 rfl (by rw [List.size_toArray, L.out]; exact info16_32)) rfl ⟨by rw [V.out], SN⟩

set_option maxHeartbeats 4000000 in
theorem bytes_32 (w : World) (s : S8) (hs : Ok32 s) :
    Calls Tryd.prog 88 #[ag8 .u32 s] w fun e w' => NewRow w.heap.size w' e .u8 (tell32 s) ∧ Below w.heap.size w w' := by
  obtain ⟨i0, hi, hz0, hz1, hz2⟩ := info_parts Tryd.info5
  have n0 : Below w.heap.size w (w.alloc (.cells #[.int .u32 s.a, .int .u32 s.b, .int .u32 s.c, .int .u32 s.d, .int .u32 s.e, .int .u32 s.f, .int .u32 s.g, .int .u32 s.h] 52)) := (Below.refl _ _).alloc (Nat.le_refl _) _
  have B0 := blk_ag8 w .u32 52 s
  have z0 : (w.alloc (.cells #[.int .u32 s.a, .int .u32 s.b, .int .u32 s.c, .int .u32 s.d, .int .u32 s.e, .int .u32 s.f, .int .u32 s.g, .int .u32 s.h] 52)).heap.size = w.heap.size + 1 := by simp
  have TL := hide (tell_len32 s)
  have TG := fun i h => hide (tell_get32 s i h)
  have SW : ∀ p, p < 8 → Wd32 (s.l.getD p 0) := by
    obtain ⟨h1, h2, h3, h4, h5, h6, h7, h8⟩ := hs
    intro p hp
    obtain rfl | rfl | rfl | rfl | rfl | rfl | rfl | rfl : p = 0 ∨ p = 1 ∨ p = 2 ∨ p = 3 ∨ p = 4 ∨ p = 5 ∨ p = 6 ∨ p = 7 := by omega
    all_goals assumption
  simp only [ag8]
  go_enter Tryd.func88, Tryd.ntmps88
  go_wp2_with fail
  generalize w.alloc (.cells #[.int .u32 s.a, .int .u32 s.b, .int .u32 s.c, .int .u32 s.d, .int .u32 s.e, .int .u32 s.f, .int .u32 s.g, .int .u32 s.h] 52) = wa at *
  refine (wordSize_32 wa).mono ?_
  rintro r wa' ⟨rfl, rfl⟩
  go_wp2_with (at_make; refine wpList_make_full _ rfl _ _ 22 rfl wa'.heap.size 5 i0 (.int .u8 0) 1 Tryd.underlying22 hi hz0 hz1 .i64 .i64 _ _ 32 rfl rfl rfl rfl (by rw [hz2]; decide) (by unfold maxLen; decide) (Nat.le_refl _) ?_; intro w5 hown hgrow)
  have hB0 := Blk.of_made hown
  have hN0 : Below wa'.heap.size wa' w5 := (Below.refl _ _).grown hgrow (Nat.le_refl _) (by simp)
  have B0 := B0.up hN0
  have N := nxt n0 hN0
  rw [z0] at hB0
  have CP : CopyTo (tell32 s) (List.replicate 32 0) 0 := ⟨by rw [TL.out]; simp, fun j h => absurd h (by omega)⟩
  clear hown hgrow hN0 n0
  go_loopw [12] (fun i wr => ∃ (j : Nat) (ys : List Int), j ≤ 32 ∧ i = .int .i64 j ∧ CopyTo (tell32 s) ys j ∧ Blk wr (w.heap.size + 1) .u8 ys ∧ Blk wr w.heap.size .u32 s.l ∧ Below w.heap.size w wr) (fun i _ => 32 - (intOf i).toNat)
  case atStart => exact ⟨0, _, Nat.zero_le _, rfl, CP, hB0, B0, N⟩
  case round =>
    obtain ⟨j, ys, hj, rfl, hC, hY, hS, hN⟩ := hrel
    clear CP hB0 B0 N
    by_cases hlt : j < 32
    · have R := hC.step (by rw [TL.out]; exact hlt)
      have tg := (TG j hlt).out
      have yl : ys.length = 32 := hC.1.trans TL.out
      have cs := hS.cell (i := j / 4) (by rw [S8.l_len]; omega)
      have cy := hY.cell (i := j) (by omega)
      have fy := hY.free j
      have sw := SW (j / 4) (by omega)
      have Y' := hY.store j ((tell32 s).getD j 0)
      have S' := hS.of_block (w' := wr.setCell ⟨w.heap.size + 1, j, none⟩ (.int .u8 ((tell32 s).getD j 0))) (heap_setCell_other _ ⟨w.heap.size + 1, j, none⟩ _ _ (by show w.heap.size ≠ w.heap.size + 1; omega))
      have N' : Below w.heap.size w (wr.setCell ⟨w.heap.size + 1, j, none⟩ (.int .u8 ((tell32 s).getD j 0))) := hN.setCell (by show w.heap.size ≤ w.heap.size + 1; omega) _
      rw [tg] at R Y' S' N'
      have d1 : (j : Int) / 4 = ((j / 4 : Nat) : Int) := by omega
      have d2 : ((j / 4 : Nat) : Int) < 8 := by omega
      have d3 : (j : Int) % 4 = ((j % 4 : Nat) : Int) := by omega
      have d4 : (3 : Int) - ((j % 4 : Nat) : Int) = ((4 - 1 - j % 4 : Nat) : Int) := by omega
      have d5 : 4 - 1 - j % 4 ≤ 3 := by omega
      have d6 : (j : Int) < 32 := by omega
      generalize ys.getD j 0 = y0 at *
      generalize j / 4 = p at *
      generalize s.l.getD p 0 = v at *
      generalize 4 - 1 - j % 4 = sh at *
      generalize j % 4 = rm at *
      obtain ⟨v0, v1⟩ := sw
      clear hC hY hS hN tg TG SW yl
      go_wp2_with fail
      go_region
      go_wp2
      go_roundw
      case rel => exact ⟨j + 1, _, by omega, by go_num, R, Y'.drew, S'.drew, N'.drew⟩
      case measure => simp [intOf]; omega
    · obtain rfl : j = 32 := by omega
      have K := hide (show ys = tell32 s from CopyTo.all (by rw [TL.out]; exact hC))
      clear hC
      go_wp2
      go_ret
      refine ⟨⟨_, 32, w.heap.size + 1, by rw [TL.out]; rfl, ?_, by simp, by rw [TL.out]; exact Nat.le_refl _, by omega⟩, hN⟩
      rw [← K.out]
      exact hY.own0
end Go.Proofs.YtnfciobpfiibcaaDoor
