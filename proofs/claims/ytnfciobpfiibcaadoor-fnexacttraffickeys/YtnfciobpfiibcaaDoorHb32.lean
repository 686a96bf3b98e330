
/-
  The program's words behind a block, 32 bits (written by gens/hb.py).
-/
import Derived.Test.YtnfciobpfiibcaaDoorHn32
import Derived.Test.YtnfciobpfiibcaaDoorHsB
namespace Go.Proofs.YtnfciobpfiibcaaDoor
set_option maxRecDepth 100000
open Go Go.RowKit

set_option maxHeartbeats 8000000 in
theorem behind_32 (w : World) (s : S8) (hs : Ok32 s) (b : Nat → Int) (hb : ∀ i, i < 16 → Wd32 (b i)) (hT : HasT w 1 kL) :
    Calls Tryd.prog 85 #[ag8 .u32 s, agw .u32 b] w fun e w' => e = .returned (ag8 .u32 (blk32 s b)) ∧ Below w.heap.size w w' := by
  have n0 : Below w.heap.size w (w.alloc (.cells #[.int .u32 s.a, .int .u32 s.b, .int .u32 s.c, .int .u32 s.d, .int .u32 s.e, .int .u32 s.f, .int .u32 s.g, .int .u32 s.h] 52)) := (Below.refl _ _).alloc (Nat.le_refl _) _
  have B0 := blk_ag8 w .u32 52 s
  have z0 : (w.alloc (.cells #[.int .u32 s.a, .int .u32 s.b, .int .u32 s.c, .int .u32 s.d, .int .u32 s.e, .int .u32 s.f, .int .u32 s.g, .int .u32 s.h] 52)).heap.size = w.heap.size + 1 := by simp
  simp only [ag8, agw]
  go_enter Tryd.func85, Tryd.ntmps85
  go_wp2_with fail
  generalize w.alloc (.cells #[.int .u32 s.a, .int .u32 s.b, .int .u32 s.c, .int .u32 s.d, .int .u32 s.e, .int .u32 s.f, .int .u32 s.g, .int .u32 s.h] 52) = wa at *
  have n1 : Below wa.heap.size wa (wa.alloc (.cells #[.int .u32 (b 0), .int .u32 (b 1), .int .u32 (b 2), .int .u32 (b 3), .int .u32 (b 4), .int .u32 (b 5), .int .u32 (b 6), .int .u32 (b 7), .int .u32 (b 8), .int .u32 (b 9), .int .u32 (b 10), .int .u32 (b 11), .int .u32 (b 12), .int .u32 (b 13), .int .u32 (b 14), .int .u32 (b 15)] 73)) := (Below.refl _ _).alloc (Nat.le_refl _) _
  have B1 := blk_agw wa .u32 73 b
  have z1 : (wa.alloc (.cells #[.int .u32 (b 0), .int .u32 (b 1), .int .u32 (b 2), .int .u32 (b 3), .int .u32 (b 4), .int .u32 (b 5), .int .u32 (b 6), .int .u32 (b 7), .int .u32 (b 8), .int .u32 (b 9), .int .u32 (b 10), .int .u32 (b 11), .int .u32 (b 12), .int .u32 (b 13), .int .u32 (b 14), .int .u32 (b 15)] 73)).heap.size = wa.heap.size + 1 := by simp
  generalize wa.alloc (.cells #[.int .u32 (b 0), .int .u32 (b 1), .int .u32 (b 2), .int .u32 (b 3), .int .u32 (b 4), .int .u32 (b 5), .int .u32 (b 6), .int .u32 (b 7), .int .u32 (b 8), .int .u32 (b 9), .int .u32 (b 10), .int .u32 (b 11), .int .u32 (b 12), .int .u32 (b 13), .int .u32 (b 14), .int .u32 (b 15)] 73) = wb at *
  have B0 := B0.up n1
  have N1 := nxt n0 n1
  rw [z0] at B1 z1
  clear n0 n1 z0
  have n2 : Below wb.heap.size wb (wb.alloc (.cells #[.int .u32 0, .int .u32 0, .int .u32 0, .int .u32 0, .int .u32 0, .int .u32 0, .int .u32 0, .int .u32 0] 52)) := (Below.refl _ _).alloc (Nat.le_refl _) _
  have B2 := blk_ag8 wb .u32 52 ⟨0, 0, 0, 0, 0, 0, 0, 0⟩
  have z2 : (wb.alloc (.cells #[.int .u32 0, .int .u32 0, .int .u32 0, .int .u32 0, .int .u32 0, .int .u32 0, .int .u32 0, .int .u32 0] 52)).heap.size = wb.heap.size + 1 := by simp
  simp only [] at B2
  generalize wb.alloc (.cells #[.int .u32 0, .int .u32 0, .int .u32 0, .int .u32 0, .int .u32 0, .int .u32 0, .int .u32 0, .int .u32 0] 52) = wc at *
  have B0 := B0.up n2
  have B1 := B1.up n2
  have N2 := nxt N1 n2
  rw [z1] at B2 z2
  clear n2 N1 z1
  have hT2 := hT.up N2
  obtain ⟨⟨c0, c1, c2, c3, c4, c5, c6, c7⟩, -⟩ := B0.f8
  go_quiet (fail)
  go_wp2_with fail
  refine (stepsOf_32 _).mono ?_
  rintro r wd ⟨rfl, rfl⟩
  have N2 := N2.trans (below_drewN (Below.refl _ _) nq)
  have B0 : Blk (wc.drewN nq) w.heap.size .u32 s.l := B0
  have B1 : Blk (wc.drewN nq) (w.heap.size + 1) .u32 (lsw b) := B1
  have B2 : Blk (wc.drewN nq) (w.heap.size + 1 + 1) .u32 (S8.l ⟨0, 0, 0, 0, 0, 0, 0, 0⟩) := B2
  have hT2 : HasT (wc.drewN nq) 1 kL := hT2
  have z2 : (wc.drewN nq).heap.size = w.heap.size + 1 + 1 + 1 := z2
  generalize wc.drewN nq = wd at *
  clear c0 c1 c2 c3 c4 c5 c6 c7
  have gl : 1 < w.heap.size := block_lt_of_cell (hT 0 (by decide))
  clear hT
  have R0 := Roll.first32 (b := b) (lsw_len b) (lsw_get b)
  go_wp2_with fail
  go_loopw [5, 6, 7, 8, 9, 10, 11, 12, 33] (fun va vb vc vd ve vf vg vh i wr => ∃ (n : Nat) (r : S8) (ys : List Int), n ≤ 64 ∧ i = .int .i64 n ∧ va = .int .u32 r.a ∧ vb = .int .u32 r.b ∧ vc = .int .u32 r.c ∧ vd = .int .u32 r.d ∧ ve = .int .u32 r.e ∧ vf = .int .u32 r.f ∧ vg = .int .u32 r.g ∧ vh = .int .u32 r.h ∧ Hid (r = rnds32 K32 (wS32 b) n s) ∧ Roll32 b ys (max n 16) ∧ Blk wr (w.heap.size + 1) .u32 ys ∧ Blk wr w.heap.size .u32 s.l ∧ Blk wr (w.heap.size + 1 + 1) .u32 (S8.l ⟨0, 0, 0, 0, 0, 0, 0, 0⟩) ∧ HasT wr 1 kL ∧ Below w.heap.size w wr) (fun _ _ _ _ _ _ _ _ i _ => 64 - (intOf i).toNat)
  case atStart => exact ⟨0, s, lsw b, Nat.zero_le _, rfl, rfl, rfl, rfl, rfl, rfl, rfl, rfl, rfl, rfl, R0, B1, B0, B2, hT2, N2⟩
  case round =>
    obtain ⟨n, r, ys, hn, rfl, rfl, rfl, rfl, rfl, rfl, rfl, rfl, rfl, hr, hR, hB1, hB0, hB2, hT, hN⟩ := hrel
    clear B0 B1 B2 hT2 N2 R0 z2
    by_cases hlt : n < 64
    · have ok : Ok32 r := by rw [hr.out]; exact rnds_ok32 hs n
      obtain ⟨oa, ob, oc, od, oe, of, og, oh⟩ := ok
      have hr' : Hid (stp32 (K32 n) (wS32 b n) r = rnds32 K32 (wS32 b) (n + 1) s) := by show _ = _; rw [hr.out]; rfl
      have G1 := fun w => hide (greatMix1_32 w r.e oe)
      have G0 := fun w => hide (greatMix0_32 w r.a oa)
      have CH := fun w => hide (choice_32 w r.e r.f r.g oe of og)
      have MJ := fun w => hide (majority_32 w r.a r.b r.c oa ob oc)
      have kl := kL_lt ⟨n, by omega⟩
      have UB : ∀ w, Hid (Calls Tryd.prog 82 #[.int .u64 (kL.getD n 0)] w fun e w' => e = .returned (.int .u32 (K32 n)) ∧ w' = w) := fun w => upperBits_32 w (kL.getD n 0) kl.1 kl.2
      have wd := wS_wd32 hb n
      have kd := K_wd32 n hlt
      clear hr kl
      by_cases h16 : 16 ≤ n
      · have hR' := Roll.step32 (i := n) (by rw [Nat.max_eq_left h16] at hR; exact hR) h16
        have y2 := hR.2 (n - 2) (by omega) (by omega)
        have y15 := hR.2 (n - 15) (by omega) (by omega)
        have EX := extend_32 wr (w.heap.size + 1) n (n % 16) ((n - 2) % 16) ((n - 7) % 16) ((n - 15) % 16) (ys.getD (n % 16) 0) (ys.getD ((n - 2) % 16) 0) (ys.getD ((n - 7) % 16) 0) (ys.getD ((n - 15) % 16) 0)
          (by rw [IntKind.wrap_i64]; omega) (by rw [IntKind.wrap_i64]; omega) (by rw [IntKind.wrap_i64]; omega) (by have := tm16 n 0 (by omega); simpa using this) (tm16 n 2 (by omega)) (tm16 n 7 (by omega)) (tm16 n 15 (by omega)) (by omega) (by omega) (by omega) (by omega) (by rw [y2]; exact wS_wd32 hb _) (by rw [y15]; exact wS_wd32 hb _)
          (fun W h => (hB1.up h).cell (by rw [hR.1]; omega)) (fun W h => (hB1.up h).cell (by rw [hR.1]; omega)) (fun W h => (hB1.up h).cell (by rw [hR.1]; omega)) (fun W h => (hB1.up h).cell (by rw [hR.1]; omega)) (fun W h => (hB1.up h).free _)
        generalize extv32 (ys.getD (n % 16) 0) (ys.getD ((n - 2) % 16) 0) (ys.getD ((n - 7) % 16) 0) (ys.getD ((n - 15) % 16) 0) = ev at *
        have EXH := hide EX
        have h16' : decide ((16 : Int) ≤ (n : Int)) = true := by simp; omega
        clear EX y2 y15 hb
        go_wp2_with fail
        refine EXH.out.mono ?_
        rintro x wx ⟨rfl, w1, nb, rfl⟩
        have hl := hB1.lt
        have B1 := (hB1.up nb).store (n % 16) ev
        have B0 := (hB0.up nb).of_block (w' := w1.setCell ⟨w.heap.size + 1, n % 16, none⟩ (.int .u32 ev)) (heap_setCell_other _ ⟨w.heap.size + 1, n % 16, none⟩ _ _ (by show w.heap.size ≠ w.heap.size + 1; omega))
        have B2 := (hB2.up nb).of_block (w' := w1.setCell ⟨w.heap.size + 1, n % 16, none⟩ (.int .u32 ev)) (heap_setCell_other _ ⟨w.heap.size + 1, n % 16, none⟩ _ _ (by show w.heap.size + 1 + 1 ≠ w.heap.size + 1; omega))
        have N : Below w.heap.size w (w1.setCell ⟨w.heap.size + 1, n % 16, none⟩ (.int .u32 ev)) := (nxt hN nb).setCell (by show w.heap.size ≤ w.heap.size + 1; omega) _
        have T1 := (hT.up nb).of_block (w' := w1.setCell ⟨w.heap.size + 1, n % 16, none⟩ (.int .u32 ev)) (heap_setCell_other _ ⟨w.heap.size + 1, n % 16, none⟩ _ _ (by show 1 ≠ w.heap.size + 1; omega))
        generalize w1.setCell ⟨w.heap.size + 1, n % 16, none⟩ (.int .u32 ev) = wt at *
        have RR : Roll32 b (ys.set (n % 16) ev) (max (n + 1) 16) := by rw [Nat.max_eq_left (by omega)]; exact hR'
        generalize ys.set (n % 16) ev = ys' at *
        clear EXH hR hR' hB1 hB0 hB2 hT hN nb h16'
        have cb := B1.cell (i := n % 16) (by rw [RR.1]; omega)
        rw [RR.2 n (by omega) (by omega)] at cb
        have ck := T1 n (by show n < 80; omega)
        have p1 : (n : Int) % 16 = ((n % 16 : Nat) : Int) := by omega
        have p2 : ((n % 16 : Nat) : Int) < 16 := by omega
        have p3 : (n : Int) < 80 := by omega
        generalize n % 16 = p at cb p1 p2
        clear h16
        go_wp2_with fail
        go_quiet ((first | (go_at_call 100; exact Calls.quiet_of (G1 _).out) | (go_at_call 101; exact Calls.quiet_of_same (CH _).out) | (go_at_call 82; exact Calls.quiet_of_same (UB _).out)))
        obtain ⟨t, ht⟩ : ∃ t, t = tS32 (K32 n) (wS32 b n) r := ⟨_, rfl⟩
        go_wp2_with fail
        have tv : ((r.h + gg132 r.e + ch32 r.e r.f r.g + K32 n) % 4294967296 + wS32 b n) % 4294967296 = t := by rw [ht]; unfold tS32; omega
        rw [tv]
        have HT := hide ht
        clear tv ht cb ck p1 p2 p3 G1 CH UB kd wd
        refine (G0 _).out.mono ?_
        rintro x wx ⟨rfl, m1, rfl⟩
        go_wp2_with fail
        refine (MJ _).out.mono ?_
        rintro x wx ⟨rfl, rfl⟩
        go_wp2
        go_roundw
        case rel => exact ⟨n + 1, stp32 (K32 n) (wS32 b n) r, ys', by omega, by go_num, by congr 1; show _ = (tS32 (K32 n) (wS32 b n) r + uS32 r) % 4294967296; rw [← HT.out]; unfold uS32; omega, rfl, rfl, rfl, by congr 1; show _ = (r.d + tS32 (K32 n) (wS32 b n) r) % 4294967296; rw [← HT.out], rfl, rfl, rfl, hr', RR, B1, B0, B2, T1, below_drewN N _⟩
        case measure => simp [intOf]; omega
      · have RR : Roll32 b ys (max (n + 1) 16) := by rw [Nat.max_eq_right (by omega)]; rw [Nat.max_eq_right (by omega)] at hR; exact hR
        have h16' : decide ((16 : Int) ≤ (n : Int)) = false := by simp; omega
        have B1 := hB1
        have B0 := hB0
        have B2 := hB2
        have T1 := hT
        have N := hN
        clear hR hB1 hB0 hB2 hT hN hb
        generalize ys = ys' at *
        generalize wr = wt at *
        have cb := B1.cell (i := n % 16) (by rw [RR.1]; omega)
        rw [RR.2 n (by omega) (by omega)] at cb
        have ck := T1 n (by show n < 80; omega)
        have p1 : (n : Int) % 16 = ((n % 16 : Nat) : Int) := by omega
        have p2 : ((n % 16 : Nat) : Int) < 16 := by omega
        have p3 : (n : Int) < 80 := by omega
        generalize n % 16 = p at cb p1 p2
        clear h16
        go_wp2_with fail
        go_quiet ((first | (go_at_call 100; exact Calls.quiet_of (G1 _).out) | (go_at_call 101; exact Calls.quiet_of_same (CH _).out) | (go_at_call 82; exact Calls.quiet_of_same (UB _).out)))
        obtain ⟨t, ht⟩ : ∃ t, t = tS32 (K32 n) (wS32 b n) r := ⟨_, rfl⟩
        go_wp2_with fail
        have tv : ((r.h + gg132 r.e + ch32 r.e r.f r.g + K32 n) % 4294967296 + wS32 b n) % 4294967296 = t := by rw [ht]; unfold tS32; omega
        rw [tv]
        have HT := hide ht
        clear tv ht cb ck p1 p2 p3 G1 CH UB kd wd
        refine (G0 _).out.mono ?_
        rintro x wx ⟨rfl, m1, rfl⟩
        go_wp2_with fail
        refine (MJ _).out.mono ?_
        rintro x wx ⟨rfl, rfl⟩
        go_wp2
        go_roundw
        case rel => exact ⟨n + 1, stp32 (K32 n) (wS32 b n) r, ys', by omega, by go_num, by congr 1; show _ = (tS32 (K32 n) (wS32 b n) r + uS32 r) % 4294967296; rw [← HT.out]; unfold uS32; omega, rfl, rfl, rfl, by congr 1; show _ = (r.d + tS32 (K32 n) (wS32 b n) r) % 4294967296; rw [← HT.out], rfl, rfl, rfl, hr', RR, B1, B0, B2, T1, below_drewN N _⟩
        case measure => simp [intOf]; omega
    · obtain rfl : n = 64 := by omega
      have K : Hid (blk32 s b = add32 s r) := by show _ = _; rw [hr.out]; rfl
      obtain ⟨⟨c0, c1, c2, c3, c4, c5, c6, c7⟩, -⟩ := hB0.f8
      obtain ⟨⟨d0, d1, d2, d3, d4, d5, d6, d7⟩, ⟨f0, f1, f2, f3, f4, f5, f6, f7⟩⟩ := hB2.f8
      clear hr hR hB1 hB0 hB2 hT
      go_wp2
      refine bodyPost_ret (v := ag8 .u32 (add32 s r)) (by simp [ag8, add32, results,  Tryd.results85, go_sem, d0, d1, d2, d3, d4, d5, d6, d7]) rfl ⟨by rw [K.out]; rfl, ?_⟩
      exact below_set8 hN (by omega) _ _ _ _ _ _ _ _
end Go.Proofs.YtnfciobpfiibcaaDoor
