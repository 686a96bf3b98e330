import Derived.Test.YtkglcainhkbgbaaGreatDoorSG24
namespace Go.Proofs.YtkglcainhkbgbaaGreatDoor
set_option maxRecDepth 100000
open Go.RowKit
def addU (e f : Nat → Int) (j : Nat) : Int := if j < 5 then e j + f j else 0
theorem add_ok {e f : Nat → Int} (he : Lm e) (hf : Lm f) : (∀ j, 0 ≤ addU e f j ∧ addU e f j < 9223372036854775808) ∧ sv (stl (addU e f)) 5 = (sv e 5 + sv f 5) % PP ∧ Lm (stl (addU e f)) := by
  have b : ∀ j, 0 ≤ addU e f j ∧ addU e f j < 9223372036854775808 := fun j => by
    unfold addU
    split
    · have := he j (by omega); have := hf j (by omega); omega
    · omega
  obtain ⟨h1, h2⟩ := stl_ok b
  refine ⟨b, ?_, h1⟩
  rw [h2]
  congr 1
  simp [sv, addU]
  omega
theorem Blk.at5 {w : World} {g : Nat} {u : Nat → Int} (h : Blk w g .u64 [u 0, u 1, u 2, u 3, u 4]) {k : Nat} (hk : k < 5) : w.cell? ⟨g, k, none⟩ = some (.int .u64 (u k)) := by
  rw [h.cell hk, (Upd.zero u u).2.2 k (by omega) hk]
theorem Blk.keep {w : World} {g g' k : Nat} {kk : IntKind} {ys : List Int} {v : Value} (h : Blk w g kk ys) (hne : g ≠ g') : Blk (w.setCell ⟨g', k, none⟩ v) g kk ys :=
  h.of_block (heap_setCell_other w ⟨g', k, none⟩ g v hne)
set_option maxHeartbeats 4000000 in
set_option maxRecDepth 100000 in
theorem add_any (w : World) (e f : Nat → Int) (he : Lm e) (hf : Lm f) :
    Calls Tryz.prog 103 #[ag5 e, ag5 f] w fun r w' => r = .returned (ag5 (stl (addU e f))) ∧ Below w.heap.size w w' := by
  have B0 := blk_box w .u64 80 (e 0) (e 1) (e 2) (e 3) (e 4)
  have n0 : Below w.heap.size w (w.alloc (.cells #[.int .u64 (e 0), .int .u64 (e 1), .int .u64 (e 2), .int .u64 (e 3), .int .u64 (e 4)] 80)) := (Below.refl _ _).alloc (Nat.le_refl _) _
  have s0 : (w.alloc (.cells #[.int .u64 (e 0), .int .u64 (e 1), .int .u64 (e 2), .int .u64 (e 3), .int .u64 (e 4)] 80)).heap.size = w.heap.size + 1 := by simp
  simp only [ag5]
  go_enter Tryz.func103, Tryz.ntmps103
  go_wp2
  generalize w.alloc (.cells #[.int .u64 (e 0), .int .u64 (e 1), .int .u64 (e 2), .int .u64 (e 3), .int .u64 (e 4)] 80) = wa at *
  have B1 := blk_box wa .u64 80 (f 0) (f 1) (f 2) (f 3) (f 4)
  have n1 : Below wa.heap.size wa (wa.alloc (.cells #[.int .u64 (f 0), .int .u64 (f 1), .int .u64 (f 2), .int .u64 (f 3), .int .u64 (f 4)] 80)) := (Below.refl _ _).alloc (Nat.le_refl _) _
  have s1 : (wa.alloc (.cells #[.int .u64 (f 0), .int .u64 (f 1), .int .u64 (f 2), .int .u64 (f 3), .int .u64 (f 4)] 80)).heap.size = w.heap.size + 1 + 1 := by simp [s0]
  generalize wa.alloc (.cells #[.int .u64 (f 0), .int .u64 (f 1), .int .u64 (f 2), .int .u64 (f 3), .int .u64 (f 4)] 80) = wb at *
  have B2 := blk_box wb .u64 80 0 0 0 0 0
  have n2 : Below wb.heap.size wb (wb.alloc (.cells #[.int .u64 0, .int .u64 0, .int .u64 0, .int .u64 0, .int .u64 0] 80)) := (Below.refl _ _).alloc (Nat.le_refl _) _
  have s2 : (wb.alloc (.cells #[.int .u64 0, .int .u64 0, .int .u64 0, .int .u64 0, .int .u64 0] 80)).heap.size = w.heap.size + 1 + 1 + 1 := by simp [s1]
  generalize wb.alloc (.cells #[.int .u64 0, .int .u64 0, .int .u64 0, .int .u64 0, .int .u64 0] 80) = wc at *
  have B3 := blk_box wc .u64 179 0 0 0 0 0
  have n3 : Below wc.heap.size wc (wc.alloc (.cells #[.int .u64 0, .int .u64 0, .int .u64 0, .int .u64 0, .int .u64 0] 179)) := (Below.refl _ _).alloc (Nat.le_refl _) _
  generalize wc.alloc (.cells #[.int .u64 0, .int .u64 0, .int .u64 0, .int .u64 0, .int .u64 0] 179) = wd at *
  have E0 := ((B0.up n1).up n2).up n3
  have E1 := (B1.up n2).up n3
  have E2 := B2.up n3
  have N := nxt (nxt (nxt n0 n1) n2) n3
  rw [s0] at E1
  rw [s1] at E2
  rw [s2] at B3
  clear B0 B1 B2 n0 n1 n2 n3 s0 s1 s2
  go_loopw [7] (fun i wr => ∃ (k : Nat) (ys : List Int), k ≤ 5 ∧ i = .int .i64 k ∧ Upd (addU e f) (fun _ => 0) ys k ∧ Blk wr w.heap.size .u64 [e 0, e 1, e 2, e 3, e 4] ∧ Blk wr (w.heap.size + 1) .u64 [f 0, f 1, f 2, f 3, f 4] ∧ Blk wr (w.heap.size + 1 + 1) .u64 [0, 0, 0, 0, 0] ∧ Blk wr (w.heap.size + 1 + 1 + 1) .u64 ys ∧ Below w.heap.size w wr) (fun i _ => 5 - (intOf i).toNat)
  case atStart => exact ⟨0, _, by omega, rfl, Upd.zero _ (fun _ => 0), E0, E1, E2, B3, N⟩
  case round =>
    clear E0 E1 E2 B3 N
    obtain ⟨k, ys, hk, rfl, hU, hE, hF, hR, hB, hN⟩ := hrel
    by_cases hlt : k < 5
    · have R := hU.step hlt
      have ce := hE.at5 hlt
      have cf := hF.at5 hlt
      have hcy := hB.cell (i := k) (by rw [hU.1]; exact hlt)
      have hfy := hB.free k
      have eb := he k hlt
      have fb := hf k hlt
      have k2 : (k : Int) < 5 := by omega
      have E : addU e f k = e k + f k := by unfold addU; rw [if_pos hlt]
      have S := hB.store k (e k + f k)
      have SE := hide (hE.keep (g' := w.heap.size + 1 + 1 + 1) (k := k) (v := .int .u64 (e k + f k)) (by omega))
      have SF := hide (hF.keep (g' := w.heap.size + 1 + 1 + 1) (k := k) (v := .int .u64 (e k + f k)) (by omega))
      have SR := hR.keep (g' := w.heap.size + 1 + 1 + 1) (k := k) (v := .int .u64 (e k + f k)) (by omega)
      have Sn : Below w.heap.size w (wr.setCell ⟨w.heap.size + 1 + 1 + 1, k, none⟩ (.int .u64 (e k + f k))) := hN.setCell (by show w.heap.size ≤ w.heap.size + 1 + 1 + 1; omega) _
      rw [E] at R
      clear hU hE hF hR hB hN he hf E
      generalize e k = x at *
      generalize f k = y at *
      go_wp2
      go_region
      go_wp2
      go_roundw
      case rel => exact ⟨k + 1, _, by omega, by go_num, R, SE.out.drew, SF.out.drew, SR.drew, S.drew, Sn.drew⟩
      case measure => simp [intOf]; omega
    · obtain rfl : k = 5 := by omega
      have hy := hU.all
      subst hy
      have A := add_ok he hf
      obtain ⟨⟨q0, q1, q2, q3, q4⟩, _⟩ := hB.f5
      go_wp2_with fail
      refine (settle_any wr (addU e f) A.1).mono ?_
      rintro r w1 ⟨rfl, n1⟩
      obtain ⟨⟨p0, p1, p2, p3, p4⟩, ⟨g0, g1, g2, g3, g4⟩⟩ := (hR.up n1).f5
      have N1 := nxt hN n1
      obtain ⟨t, ht⟩ : ∃ t, t = stl (addU e f) := ⟨_, rfl⟩
      have hT : Hid (t = stl (addU e f)) := ht
      rw [← ht]
      clear hU hE hF hR hB hN A n1 q0 q1 q2 q3 q4 ht
      simp only [ag5]
      go_wp2
      exact bodyPost_ret (v := ag5 t) (by simp [ag5, results, Tryz.results103, go_sem, p0, p1, p2, p3, p4]) rfl ⟨by rw [hT.out]; rfl, below_set5 N1 (by omega) _ _ _ _ _⟩
end Go.Proofs.YtkglcainhkbgbaaGreatDoor
