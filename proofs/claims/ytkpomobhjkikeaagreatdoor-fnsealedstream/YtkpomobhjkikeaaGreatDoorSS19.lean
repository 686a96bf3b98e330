import Derived.Test.YtkpomobhjkikeaaGreatDoorSS15
import Derived.Test.YtkpomobhjkikeaaGreatDoorSS16
import Derived.Test.YtkpomobhjkikeaaGreatDoorSS18
import Derived.Deep.RegionWith
import Derived.Deep.DeepCutAuto
namespace Go.Proofs.YtkpomobhjkikeaaGreatDoor
set_option maxRecDepth 100000
open Go Go.RowKit
theorem mask26 (x : Int) (h0 : 0 ≤ x) (h1 : x < 18446744073709551616) : bits BinOp.and IntKind.u64 x 67108863 = x % 67108864 :=
  bits_mask .u64 64 (by decide) wraps_u64 26 (by decide) x h0 h1
theorem Blk.at5 {w : World} {g : Nat} {k : IntKind} {u : Nat → Int} (h : Blk w g k [u 0, u 1, u 2, u 3, u 4]) {j : Nat} (hj : j < 5) : w.cell? ⟨g, j, none⟩ = some (.int k (u j)) := by
  rw [h.cell (i := j) (by simpa using hj)]
  obtain rfl | rfl | rfl | rfl | rfl : j = 0 ∨ j = 1 ∨ j = 2 ∨ j = 3 ∨ j = 4 := by omega
  all_goals rfl
theorem Blk.keep {w : World} {g h i : Nat} {k : IntKind} {ys : List Int} {v : Value} (hB : Blk w g k ys) (hne : g ≠ h) : Blk (w.setCell ⟨h, i, none⟩ v) g k ys :=
  hB.of_block (heap_setCell_other w ⟨h, i, none⟩ g v hne)
theorem lw_l4 (bs : List Int) (p : Nat) : lw (bs.drop p) 0 = l4 (fun j => bs.getD j 0) p := by
  unfold lw l4
  simp only [List.getD_eq_getElem?_getD, List.getElem?_drop, Nat.zero_add, Nat.add_zero]
theorem own_drop {w : World} {g : Nat} {k : IntKind} {ys : List Int} (h : Blk w g k ys) (p : Nat) (hp : p ≤ ys.length) : Own w g (some ⟨g, p, none⟩) k (ys.drop p) :=
  h.own p (by rw [List.length_drop]; omega) (fun i _ => by simp only [List.getD_eq_getElem?_getD, List.getElem?_drop])
set_option maxRecDepth 100000 in
set_option maxHeartbeats 4000000 in
theorem number_any (w : World) (bs : List Int) (hb : Byt bs) (hl : bs.length = 17) :
    Calls Tryz.prog 117 #[ag .u8 bs] w fun e w' => e = .returned (ag5 (knm (fun j => bs.getD j 0))) ∧ Below w.heap.size w w' := by
  have B0 := blk_alloc w .u8 180 bs
  have n0 : Below w.heap.size w (w.alloc (.cells (bs.map (Value.int .u8)).toArray 180)) := (Below.refl _ _).alloc (Nat.le_refl _) _
  have z0 : (w.alloc (.cells (bs.map (Value.int .u8)).toArray 180)).heap.size = w.heap.size + 1 := by simp
  have HL := hide hl
  clear hl
  have VY : Hid (ag .u8 bs = Value.agg (bs.map (Value.int .u8)).toArray) := rfl
  rw [VY.out]
  obtain ⟨vs, hvs⟩ : ∃ vs, vs = bs.map (Value.int .u8) := ⟨_, rfl⟩
  rw [← hvs] at B0 n0 z0 ⊢
  clear hvs VY
  go_enter Tryz.func117, Tryz.ntmps117
  go_upto_region 1 with fail
  generalize w.alloc (.cells vs.toArray 180) = wa at *
  have B1 := blk_box wa .u64 165 0 0 0 0 0
  have n1 : Below wa.heap.size wa (wa.alloc (.cells #[.int .u64 0, .int .u64 0, .int .u64 0, .int .u64 0, .int .u64 0] 165)) := (Below.refl _ _).alloc (Nat.le_refl _) _
  have z1 : (wa.alloc (.cells #[.int .u64 0, .int .u64 0, .int .u64 0, .int .u64 0, .int .u64 0] 165)).heap.size = w.heap.size + 1 + 1 := by simp [z0]
  generalize wa.alloc (.cells #[.int .u64 0, .int .u64 0, .int .u64 0, .int .u64 0, .int .u64 0] 165) = wb at *
  rw [z0] at B1
  have B2 := blk_box wb .u64 165 0 0 0 0 0
  have n2 : Below wb.heap.size wb (wb.alloc (.cells #[.int .u64 0, .int .u64 0, .int .u64 0, .int .u64 0, .int .u64 0] 165)) := (Below.refl _ _).alloc (Nat.le_refl _) _
  rw [z1] at B2
  have B0 := (B0.up n1).up n2
  have B1 := B1.up n2
  have N0 := nxt (nxt n0 n1) n2
  go_upto_region 2 with fail
  generalize wb.alloc (.cells #[.int .u64 0, .int .u64 0, .int .u64 0, .int .u64 0, .int .u64 0] 165) = wc at *
  clear n0 n1 n2 z0 z1
  go_wp2
  go_loopw [6] (fun i wr => ∃ (k : Nat) (ys : List Int), k ≤ 5 ∧ i = .int .i64 k ∧ Upd (knm (fun j => bs.getD j 0)) (fun _ => 0) ys k ∧ Blk wr w.heap.size .u8 bs ∧ Blk wr (w.heap.size + 1) .u64 [0, 0, 0, 0, 0] ∧ Blk wr (w.heap.size + 1 + 1) .u64 ys ∧ Below w.heap.size w wr) (fun i _ => 5 - (intOf i).toNat)
  case atStart => exact ⟨0, _, by omega, rfl, Upd.zero _ (fun _ => 0), B0, B1, B2, N0⟩
  case round =>
    clear B0 B1 B2 N0
    obtain ⟨k, ys, hk, rfl, hU, hB, hB1, hB2, hN⟩ := hrel
    by_cases hlt : k < 5
    · have R := hide (hU.step hlt)
      have hcz := hB2.cell (i := k) (by rw [hU.1]; exact hlt)
      have hfz := hB2.free k
      have S := fun W (n : Below wr.heap.size wr W) => (hB2.up n).store k (knm (fun j => bs.getD j 0) k)
      have S0 := fun W (n : Below wr.heap.size wr W) => (hB.up n).keep (h := w.heap.size + 1 + 1) (i := k) (v := .int .u64 (knm (fun j => bs.getD j 0) k)) (by omega)
      have S1 := fun W (n : Below wr.heap.size wr W) => (hB1.up n).keep (h := w.heap.size + 1 + 1) (i := k) (v := .int .u64 (knm (fun j => bs.getD j 0) k)) (by omega)
      have Sn := fun W (n : Below wr.heap.size wr W) => (hN.trans (n.mono hN.size)).setCell (p := ⟨w.heap.size + 1 + 1, k, none⟩) (by show w.heap.size ≤ w.heap.size + 1 + 1; omega) (.int .u64 (knm (fun j => bs.getD j 0) k))
      rcases (show k = 0 ∨ k = 1 ∨ k = 2 ∨ k = 3 ∨ k = 4 by omega) with rfl | rfl | rfl | rfl | rfl
      · have LB := lw_w4 (byt_drop hb 0) 0
        have LW := hide (littleWord_any wr w.heap.size (some ⟨w.heap.size, 0, none⟩) 17 (bs.drop 0) (own_drop hB 0 (by rw [HL.out]; omega)).rd (byt_drop hb 0) (by rw [List.length_drop, HL.out]; omega))
        rw [List.length_drop, HL.out] at LW
        have E : Hid (knm (fun j => bs.getD j 0) 0 = lw (bs.drop 0) 0 % 67108864) := by show _ = _; rw [lw_l4]; rfl
        rw [E.out] at R S S0 S1 Sn
        generalize lw (bs.drop 0) 0 = lv at *
        obtain ⟨b0, b1⟩ := LB
        have m1 := mask26 (lv) (by omega) (by omega)
        have LC : Hid (Calls Tryz.prog 103 #[.slice (some ⟨w.heap.size, 0, none⟩) 17 17] wr fun e w' => e = .returned (.int .u32 lv) ∧ ∃ m, w' = wr.drewN m) := LW
        clear hU hB hB1 hB2 hN hb E LW
        go_wp2_with fail
        refine LC.out.mono ?_
        rintro e w' ⟨rfl, m, rfl⟩
        have n3 : Below wr.heap.size wr (wr.drewN m) := below_drewN (Below.refl _ _) m
        have S := S _ n3
        have S0 := S0 _ n3
        have S1 := S1 _ n3
        have Sn := Sn _ n3
        have hcz : (wr.drewN m).cell? ⟨w.heap.size + 1 + 1, 0, none⟩ = _ := hcz
        have hfz : (wr.drewN m).frozen? ⟨w.heap.size + 1 + 1, 0, none⟩ = _ := hfz
        clear LC n3
        generalize wr.drewN m = wm at *
        go_wp2
        go_roundw
        case rel => exact ⟨0 + 1, _, by omega, by go_num, R.out, S0, S1, S, Sn⟩
        case measure => simp [intOf]
      · have LB := lw_w4 (byt_drop hb 3) 0
        have LW := hide (littleWord_any wr w.heap.size (some ⟨w.heap.size, 3, none⟩) 14 (bs.drop 3) (own_drop hB 3 (by rw [HL.out]; omega)).rd (byt_drop hb 3) (by rw [List.length_drop, HL.out]; omega))
        rw [List.length_drop, HL.out] at LW
        have E : Hid (knm (fun j => bs.getD j 0) 1 = lw (bs.drop 3) 0 / 4 % 67108864) := by show _ = _; rw [lw_l4]; rfl
        rw [E.out] at R S S0 S1 Sn
        generalize lw (bs.drop 3) 0 = lv at *
        obtain ⟨b0, b1⟩ := LB
        have m1 := mask26 (lv / 4) (by omega) (by omega)
        have LC : Hid (Calls Tryz.prog 103 #[.slice (some ⟨w.heap.size, 3, none⟩) 14 14] wr fun e w' => e = .returned (.int .u32 lv) ∧ ∃ m, w' = wr.drewN m) := LW
        clear hU hB hB1 hB2 hN hb E LW
        go_wp2_with fail
        refine LC.out.mono ?_
        rintro e w' ⟨rfl, m, rfl⟩
        have n3 : Below wr.heap.size wr (wr.drewN m) := below_drewN (Below.refl _ _) m
        have S := S _ n3
        have S0 := S0 _ n3
        have S1 := S1 _ n3
        have Sn := Sn _ n3
        have hcz : (wr.drewN m).cell? ⟨w.heap.size + 1 + 1, 1, none⟩ = _ := hcz
        have hfz : (wr.drewN m).frozen? ⟨w.heap.size + 1 + 1, 1, none⟩ = _ := hfz
        clear LC n3
        generalize wr.drewN m = wm at *
        go_wp2
        go_roundw
        case rel => exact ⟨1 + 1, _, by omega, by go_num, R.out, S0, S1, S, Sn⟩
        case measure => simp [intOf]
      · have LB := lw_w4 (byt_drop hb 6) 0
        have LW := hide (littleWord_any wr w.heap.size (some ⟨w.heap.size, 6, none⟩) 11 (bs.drop 6) (own_drop hB 6 (by rw [HL.out]; omega)).rd (byt_drop hb 6) (by rw [List.length_drop, HL.out]; omega))
        rw [List.length_drop, HL.out] at LW
        have E : Hid (knm (fun j => bs.getD j 0) 2 = lw (bs.drop 6) 0 / 16 % 67108864) := by show _ = _; rw [lw_l4]; rfl
        rw [E.out] at R S S0 S1 Sn
        generalize lw (bs.drop 6) 0 = lv at *
        obtain ⟨b0, b1⟩ := LB
        have m1 := mask26 (lv / 16) (by omega) (by omega)
        have LC : Hid (Calls Tryz.prog 103 #[.slice (some ⟨w.heap.size, 6, none⟩) 11 11] wr fun e w' => e = .returned (.int .u32 lv) ∧ ∃ m, w' = wr.drewN m) := LW
        clear hU hB hB1 hB2 hN hb E LW
        go_wp2_with fail
        refine LC.out.mono ?_
        rintro e w' ⟨rfl, m, rfl⟩
        have n3 : Below wr.heap.size wr (wr.drewN m) := below_drewN (Below.refl _ _) m
        have S := S _ n3
        have S0 := S0 _ n3
        have S1 := S1 _ n3
        have Sn := Sn _ n3
        have hcz : (wr.drewN m).cell? ⟨w.heap.size + 1 + 1, 2, none⟩ = _ := hcz
        have hfz : (wr.drewN m).frozen? ⟨w.heap.size + 1 + 1, 2, none⟩ = _ := hfz
        clear LC n3
        generalize wr.drewN m = wm at *
        go_wp2
        go_roundw
        case rel => exact ⟨2 + 1, _, by omega, by go_num, R.out, S0, S1, S, Sn⟩
        case measure => simp [intOf]
      · have LB := lw_w4 (byt_drop hb 9) 0
        have LW := hide (littleWord_any wr w.heap.size (some ⟨w.heap.size, 9, none⟩) 8 (bs.drop 9) (own_drop hB 9 (by rw [HL.out]; omega)).rd (byt_drop hb 9) (by rw [List.length_drop, HL.out]; omega))
        rw [List.length_drop, HL.out] at LW
        have E : Hid (knm (fun j => bs.getD j 0) 3 = lw (bs.drop 9) 0 / 64 % 67108864) := by show _ = _; rw [lw_l4]; rfl
        rw [E.out] at R S S0 S1 Sn
        generalize lw (bs.drop 9) 0 = lv at *
        obtain ⟨b0, b1⟩ := LB
        have m1 := mask26 (lv / 64) (by omega) (by omega)
        have LC : Hid (Calls Tryz.prog 103 #[.slice (some ⟨w.heap.size, 9, none⟩) 8 8] wr fun e w' => e = .returned (.int .u32 lv) ∧ ∃ m, w' = wr.drewN m) := LW
        clear hU hB hB1 hB2 hN hb E LW
        go_wp2_with fail
        refine LC.out.mono ?_
        rintro e w' ⟨rfl, m, rfl⟩
        have n3 : Below wr.heap.size wr (wr.drewN m) := below_drewN (Below.refl _ _) m
        have S := S _ n3
        have S0 := S0 _ n3
        have S1 := S1 _ n3
        have Sn := Sn _ n3
        have hcz : (wr.drewN m).cell? ⟨w.heap.size + 1 + 1, 3, none⟩ = _ := hcz
        have hfz : (wr.drewN m).frozen? ⟨w.heap.size + 1 + 1, 3, none⟩ = _ := hfz
        clear LC n3
        generalize wr.drewN m = wm at *
        go_wp2
        go_roundw
        case rel => exact ⟨3 + 1, _, by omega, by go_num, R.out, S0, S1, S, Sn⟩
        case measure => simp [intOf]
      · have LB := lw_w4 (byt_drop hb 13) 0
        have LW := hide (littleWord_any wr w.heap.size (some ⟨w.heap.size, 13, none⟩) 4 (bs.drop 13) (own_drop hB 13 (by rw [HL.out]; omega)).rd (byt_drop hb 13) (by rw [List.length_drop, HL.out]; omega))
        rw [List.length_drop, HL.out] at LW
        have E : Hid (knm (fun j => bs.getD j 0) 4 = lw (bs.drop 13) 0 % 67108864) := by show _ = _; rw [lw_l4]; rfl
        rw [E.out] at R S S0 S1 Sn
        generalize lw (bs.drop 13) 0 = lv at *
        obtain ⟨b0, b1⟩ := LB
        have m1 := mask26 (lv) (by omega) (by omega)
        have LC : Hid (Calls Tryz.prog 103 #[.slice (some ⟨w.heap.size, 13, none⟩) 4 4] wr fun e w' => e = .returned (.int .u32 lv) ∧ ∃ m, w' = wr.drewN m) := LW
        clear hU hB hB1 hB2 hN hb E LW
        go_wp2_with fail
        refine LC.out.mono ?_
        rintro e w' ⟨rfl, m, rfl⟩
        have n3 : Below wr.heap.size wr (wr.drewN m) := below_drewN (Below.refl _ _) m
        have S := S _ n3
        have S0 := S0 _ n3
        have S1 := S1 _ n3
        have Sn := Sn _ n3
        have hcz : (wr.drewN m).cell? ⟨w.heap.size + 1 + 1, 4, none⟩ = _ := hcz
        have hfz : (wr.drewN m).frozen? ⟨w.heap.size + 1 + 1, 4, none⟩ = _ := hfz
        clear LC n3
        generalize wr.drewN m = wm at *
        go_wp2
        go_roundw
        case rel => exact ⟨4 + 1, _, by omega, by go_num, R.out, S0, S1, S, Sn⟩
        case measure => simp [intOf]
    · obtain rfl : k = 5 := by omega
      have hy := hU.all
      subst hy
      obtain ⟨f, hf⟩ : ∃ f, f = knm (fun j => bs.getD j 0) := ⟨_, rfl⟩
      have hF : Hid (knm (fun j => bs.getD j 0) = f) := hf.symm
      rw [← hf] at hB2
      obtain ⟨⟨q0, q1, q2, q3, q4⟩, _⟩ := hB2.f5
      obtain ⟨⟨p0, p1, p2, p3, p4⟩, ⟨g0, g1, g2, g3, g4⟩⟩ := hB1.f5
      clear hU hB hB1 hB2 hf hb
      go_wp2
      exact bodyPost_ret (v := ag5 f) (by simp [ag5, results, Tryz.results117, go_sem, p0, p1, p2, p3, p4]) rfl ⟨by rw [hF.out], below_set5 hN (by omega) _ _ _ _ _⟩
end Go.Proofs.YtkpomobhjkikeaaGreatDoor
