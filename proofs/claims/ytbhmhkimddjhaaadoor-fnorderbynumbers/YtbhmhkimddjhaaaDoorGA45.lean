import Derived.Test.YtbhmhkimddjhaaaDoorGA44
/-
  The program's mulAdd: a product of two scalars and a third one, in eight words.
-/
namespace Go.Proofs.YtbhmhkimddjhaaaDoor
set_option maxRecDepth 100000
open Go.RowKit

set_option maxHeartbeats 8000000 in
theorem mulAdd_any (w : World) (s t u : Nat → Int) (hs : W4 s) (ht : W4 t) (hu : W4 u) :
    Calls Tryd.prog 59 #[ag4 s, ag4 t, ag4 u] w fun r w' => r = .returned (ag8 (ma s t u 4)) ∧ Below w.heap.size w w' := by
  obtain ⟨hov, hw8, _⟩ := ma_all hs ht hu
  have n0 : Below w.heap.size w (w.alloc (.cells #[.int .u64 (s 0), .int .u64 (s 1), .int .u64 (s 2), .int .u64 (s 3)] 51)) := (Below.refl _ _).alloc (Nat.le_refl _) _
  have B0 := blk_box4 w .u64 51 (s 0) (s 1) (s 2) (s 3)
  have s0 : (w.alloc (.cells #[.int .u64 (s 0), .int .u64 (s 1), .int .u64 (s 2), .int .u64 (s 3)] 51)).heap.size = w.heap.size + 1 := by simp
  simp only [ag4]
  go_enter Tryd.func59, Tryd.ntmps59
  go_upto_region 1 with fail
  generalize w.alloc (.cells #[.int .u64 (s 0), .int .u64 (s 1), .int .u64 (s 2), .int .u64 (s 3)] 51) = wa at *
  have B1 := blk_box4 wa .u64 51 (t 0) (t 1) (t 2) (t 3)
  have n1 : Below wa.heap.size wa (wa.alloc (.cells #[.int .u64 (t 0), .int .u64 (t 1), .int .u64 (t 2), .int .u64 (t 3)] 51)) := (Below.refl _ _).alloc (Nat.le_refl _) _
  have s1 : (wa.alloc (.cells #[.int .u64 (t 0), .int .u64 (t 1), .int .u64 (t 2), .int .u64 (t 3)] 51)).heap.size = w.heap.size + 1 + 1 := by simp [s0]
  generalize wa.alloc (.cells #[.int .u64 (t 0), .int .u64 (t 1), .int .u64 (t 2), .int .u64 (t 3)] 51) = wb at *
  have B2 := blk_box4 wb .u64 51 (u 0) (u 1) (u 2) (u 3)
  have n2 : Below wb.heap.size wb (wb.alloc (.cells #[.int .u64 (u 0), .int .u64 (u 1), .int .u64 (u 2), .int .u64 (u 3)] 51)) := (Below.refl _ _).alloc (Nat.le_refl _) _
  have s2 : (wb.alloc (.cells #[.int .u64 (u 0), .int .u64 (u 1), .int .u64 (u 2), .int .u64 (u 3)] 51)).heap.size = w.heap.size + 1 + 1 + 1 := by simp [s1]
  generalize wb.alloc (.cells #[.int .u64 (u 0), .int .u64 (u 1), .int .u64 (u 2), .int .u64 (u 3)] 51) = wc at *
  have B3 := blk_box8 wc .u64 56 0 0 0 0 0 0 0 0
  have n3 : Below wc.heap.size wc (wc.alloc (.cells #[.int .u64 0, .int .u64 0, .int .u64 0, .int .u64 0, .int .u64 0, .int .u64 0, .int .u64 0, .int .u64 0] 56)) := (Below.refl _ _).alloc (Nat.le_refl _) _
  have s3 : (wc.alloc (.cells #[.int .u64 0, .int .u64 0, .int .u64 0, .int .u64 0, .int .u64 0, .int .u64 0, .int .u64 0, .int .u64 0] 56)).heap.size = w.heap.size + 1 + 1 + 1 + 1 := by simp [s2]
  generalize wc.alloc (.cells #[.int .u64 0, .int .u64 0, .int .u64 0, .int .u64 0, .int .u64 0, .int .u64 0, .int .u64 0, .int .u64 0] 56) = wd at *
  rw [s0] at B1
  rw [s1] at B2
  rw [s2] at B3
  obtain ⟨⟨p0, p1, p2, p3⟩, _⟩ := (B2.up n3).f4
  have B4 := blk_box8 wd .u64 56 (u 0) (u 1) (u 2) (u 3) 0 0 0 0
  have n4 : Below wd.heap.size wd (wd.alloc (.cells #[.int .u64 (u 0), .int .u64 (u 1), .int .u64 (u 2), .int .u64 (u 3), .int .u64 0, .int .u64 0, .int .u64 0, .int .u64 0] 56)) := (Below.refl _ _).alloc (Nat.le_refl _) _
  rw [s3] at B4
  obtain ⟨⟨v0, v1, v2, v3⟩, _⟩ := ((((B0.up n1).up n2).up n3).up n4).f4
  have E1 := ((B1.up n2).up n3).up n4
  have E3 := B3.up n4
  have N := nxt (nxt (nxt (nxt n0 n1) n2) n3) n4
  go_wp2
  generalize wd.alloc (.cells #[.int .u64 (u 0), .int .u64 (u 1), .int .u64 (u 2), .int .u64 (u 3), .int .u64 0, .int .u64 0, .int .u64 0, .int .u64 0] 56) = we at *
  have E4 : Blk we (w.heap.size + 1 + 1 + 1 + 1) .u64 (c8 (ma s t u 0)) := B4
  clear B0 B1 B2 B3 B4 n0 n1 n2 n3 n4 s0 s1 s2 s3 p0 p1 p2 p3 v0 v1 v2 v3
  go_loopw [20] (fun i wr => ∃ k : Nat, k ≤ 4 ∧ i = .int .i64 k ∧ Blk wr (w.heap.size + 1) .u64 [t 0, t 1, t 2, t 3] ∧ Blk wr (w.heap.size + 1 + 1 + 1) .u64 [0, 0, 0, 0, 0, 0, 0, 0] ∧ Blk wr (w.heap.size + 1 + 1 + 1 + 1) .u64 (c8 (ma s t u k)) ∧ Below w.heap.size w wr) (fun i _ => 4 - (intOf i).toNat)
  case atStart => exact ⟨0, by omega, rfl, E1, E3, E4, N⟩
  case round =>
    clear E1 E3 E4 N
    obtain ⟨k, hk, rfl, hT, hR, hF, hN⟩ := hrel
    by_cases hlt : k < 4
    · have IX := idx4 s k hlt
      have e1 : adT k (s k) t (ma s t u k) = ma s t u (k + 1) := rfl
      have AT := fun W => addTimes_any W (ma s t u k) t k (s k) (by omega) (hs k hlt) ht (hw8 k hk) (hov k hlt)
      rw [e1] at AT
      have k2 : (k : Int) < 4 := by omega
      obtain ⟨f, hf⟩ : ∃ f, f = ma s t u (k + 1) := ⟨_, rfl⟩
      have HF : Hid (f = ma s t u (k + 1)) := hf
      rw [← hf] at AT
      clear hf e1
      generalize ma s t u k = F at *
      generalize s k = sv at *
      obtain ⟨⟨t0, t1, t2, t3⟩, _⟩ := hT.f4
      obtain ⟨⟨y0, y1, y2, y3, y4, y5, y6, y7⟩, _⟩ := hF.f8
      simp only [ag8, ag4] at AT
      go_wp2_with fail
      refine (AT _).mono ?_
      rintro r wm ⟨rfl, nm⟩
      have hFm := hF.up nm
      obtain ⟨⟨z0, z1, z2, z3, z4, z5, z6, z7⟩, ⟨g0, g1, g2, g3, g4, g5, g6, g7⟩⟩ := hFm.f8
      have S0 := set8_keep (q := w.heap.size + 1 + 1 + 1 + 1) (u := f) (hT.up nm) (by omega)
      have S1 := set8_keep (q := w.heap.size + 1 + 1 + 1 + 1) (u := f) (hR.up nm) (by omega)
      have S2 := set8_same f hFm
      have S3 : Below w.heap.size w (set8 wm (w.heap.size + 1 + 1 + 1 + 1) f) := below_set8 (nxt hN nm) (by omega) _ _ _ _ _ _ _ _
      have HS2 : Hid (Blk (set8 wm (w.heap.size + 1 + 1 + 1 + 1) f) (w.heap.size + 1 + 1 + 1 + 1) .u64 (c8 (ma s t u (k + 1)))) := by rw [← HF.out]; exact S2
      clear AT hT hR hF hN hFm nm S2 t0 t1 t2 t3 y0 y1 y2 y3 y4 y5 y6 y7 hov hw8
      go_wp2
      go_roundw
      case rel => exact ⟨k + 1, by omega, by go_num, S0, S1, HS2.out, S3⟩
      case measure => simp [intOf]; omega
    · obtain rfl : k = 4 := by omega
      obtain ⟨f, hf⟩ : ∃ f, f = ma s t u 4 := ⟨_, rfl⟩
      have HF : Hid (f = ma s t u 4) := hf
      rw [← hf] at hF
      obtain ⟨⟨p0, p1, p2, p3, p4, p5, p6, p7⟩, _⟩ := hF.f8
      obtain ⟨⟨r0, r1, r2, r3, r4, r5, r6, r7⟩, ⟨g0, g1, g2, g3, g4, g5, g6, g7⟩⟩ := hR.f8
      clear hf hov hw8
      go_wp2
      refine bodyPost_ret (v := ag8 f) (by simp [ag8, results, Tryd.results59, go_sem, r0, r1, r2, r3, r4, r5, r6, r7]) rfl ⟨by rw [HF.out], ?_⟩
      exact below_set8 hN (by omega) _ _ _ _ _ _ _ _
end Go.Proofs.YtbhmhkimddjhaaaDoor
