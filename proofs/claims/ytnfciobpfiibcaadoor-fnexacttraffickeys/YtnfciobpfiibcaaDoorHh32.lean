
/-
  The program's hash on its way, words of 32 bits (written by gens/hh.py).
-/
import Derived.Test.YtnfciobpfiibcaaDoorHsH
import Derived.Test.YtnfciobpfiibcaaDoorHf32
namespace Go.Proofs.YtnfciobpfiibcaaDoor
set_option maxRecDepth 100000
open Go Go.RowKit

theorem infoH_32 : (Tryd.prog.info? 55).map (·.size) = some 137 := by kernel_rfl
theorem fld0_32 : (Tryd.prog.info? 55).isSome = true := by kernel_rfl
set_option maxHeartbeats 4000000 in
theorem restSize_32 (w : World) (L : Int) (C : S8) (R : List Int) (hl : R.length = 128) (h0 : 0 ≤ L) :
    Calls Tryd.prog 84 #[.agg (hcl .u32 L C R).toArray] w fun e w' => e = .returned (.int .i64 (L % 64)) ∧ Below w.heap.size w w' := by
  have n0 : Below w.heap.size w (w.alloc (.cells (hcl .u32 L C R).toArray 55)) := (Below.refl _ _).alloc (Nat.le_refl _) _
  have H0 := HB.alloc .u32 w 55 L C hl
  generalize hv : hcl .u32 L C R = vs at *
  go_enter Tryd.func84, Tryd.ntmps84
  go_wp2_with fail
  generalize w.alloc (.cells vs.toArray 55) = wa at *
  have c0 := H0.c0
  go_quiet ((go_at_call 83; exact Calls.quiet_of_same (blockSize_32 _)))
  go_wp2
  go_ret
  exact ⟨rfl, below_drewN n0 _⟩

theorem undH_32 : (Tryd.prog.underlying 55).map (·.isRow) = some true := by kernel_rfl
abbrev zH32 : Obj := .cells (List.toArray (.int .i64 0 :: .int .u32 0 :: .int .u32 0 :: .int .u32 0 :: .int .u32 0 :: .int .u32 0 :: .int .u32 0 :: .int .u32 0 :: .int .u32 0 :: .int .u8 0 :: .int .u8 0 :: .int .u8 0 :: .int .u8 0 :: .int .u8 0 :: .int .u8 0 :: .int .u8 0 :: .int .u8 0 :: .int .u8 0 :: .int .u8 0 :: .int .u8 0 :: .int .u8 0 :: .int .u8 0 :: .int .u8 0 :: .int .u8 0 :: .int .u8 0 :: .int .u8 0 :: .int .u8 0 :: .int .u8 0 :: .int .u8 0 :: .int .u8 0 :: .int .u8 0 :: .int .u8 0 :: .int .u8 0 :: .int .u8 0 :: .int .u8 0 :: .int .u8 0 :: .int .u8 0 :: .int .u8 0 :: .int .u8 0 :: .int .u8 0 :: .int .u8 0 :: .int .u8 0 :: .int .u8 0 :: .int .u8 0 :: .int .u8 0 :: .int .u8 0 :: .int .u8 0 :: .int .u8 0 :: .int .u8 0 :: .int .u8 0 :: .int .u8 0 :: .int .u8 0 :: .int .u8 0 :: .int .u8 0 :: .int .u8 0 :: .int .u8 0 :: .int .u8 0 :: .int .u8 0 :: .int .u8 0 :: .int .u8 0 :: .int .u8 0 :: .int .u8 0 :: .int .u8 0 :: .int .u8 0 :: .int .u8 0 :: .int .u8 0 :: .int .u8 0 :: .int .u8 0 :: .int .u8 0 :: .int .u8 0 :: .int .u8 0 :: .int .u8 0 :: .int .u8 0 :: .int .u8 0 :: .int .u8 0 :: .int .u8 0 :: .int .u8 0 :: .int .u8 0 :: .int .u8 0 :: .int .u8 0 :: .int .u8 0 :: .int .u8 0 :: .int .u8 0 :: .int .u8 0 :: .int .u8 0 :: .int .u8 0 :: .int .u8 0 :: .int .u8 0 :: .int .u8 0 :: .int .u8 0 :: .int .u8 0 :: .int .u8 0 :: .int .u8 0 :: .int .u8 0 :: .int .u8 0 :: .int .u8 0 :: .int .u8 0 :: .int .u8 0 :: .int .u8 0 :: .int .u8 0 :: .int .u8 0 :: .int .u8 0 :: .int .u8 0 :: .int .u8 0 :: .int .u8 0 :: .int .u8 0 :: .int .u8 0 :: .int .u8 0 :: .int .u8 0 :: .int .u8 0 :: .int .u8 0 :: .int .u8 0 :: .int .u8 0 :: .int .u8 0 :: .int .u8 0 :: .int .u8 0 :: .int .u8 0 :: .int .u8 0 :: .int .u8 0 :: .int .u8 0 :: .int .u8 0 :: .int .u8 0 :: .int .u8 0 :: .int .u8 0 :: .int .u8 0 :: .int .u8 0 :: .int .u8 0 :: .int .u8 0 :: .int .u8 0 :: .int .u8 0 :: .int .u8 0 :: .int .u8 0 :: .int .u8 0 :: .int .u8 0 :: .int .u8 0 :: .int .u8 0 :: .int .u8 0 :: [])) 55
set_option maxRecDepth 20000 in
theorem zeroH_32 : (.int .i64 0 :: .int .u32 0 :: .int .u32 0 :: .int .u32 0 :: .int .u32 0 :: .int .u32 0 :: .int .u32 0 :: .int .u32 0 :: .int .u32 0 :: .int .u8 0 :: .int .u8 0 :: .int .u8 0 :: .int .u8 0 :: .int .u8 0 :: .int .u8 0 :: .int .u8 0 :: .int .u8 0 :: .int .u8 0 :: .int .u8 0 :: .int .u8 0 :: .int .u8 0 :: .int .u8 0 :: .int .u8 0 :: .int .u8 0 :: .int .u8 0 :: .int .u8 0 :: .int .u8 0 :: .int .u8 0 :: .int .u8 0 :: .int .u8 0 :: .int .u8 0 :: .int .u8 0 :: .int .u8 0 :: .int .u8 0 :: .int .u8 0 :: .int .u8 0 :: .int .u8 0 :: .int .u8 0 :: .int .u8 0 :: .int .u8 0 :: .int .u8 0 :: .int .u8 0 :: .int .u8 0 :: .int .u8 0 :: .int .u8 0 :: .int .u8 0 :: .int .u8 0 :: .int .u8 0 :: .int .u8 0 :: .int .u8 0 :: .int .u8 0 :: .int .u8 0 :: .int .u8 0 :: .int .u8 0 :: .int .u8 0 :: .int .u8 0 :: .int .u8 0 :: .int .u8 0 :: .int .u8 0 :: .int .u8 0 :: .int .u8 0 :: .int .u8 0 :: .int .u8 0 :: .int .u8 0 :: .int .u8 0 :: .int .u8 0 :: .int .u8 0 :: .int .u8 0 :: .int .u8 0 :: .int .u8 0 :: .int .u8 0 :: .int .u8 0 :: .int .u8 0 :: .int .u8 0 :: .int .u8 0 :: .int .u8 0 :: .int .u8 0 :: .int .u8 0 :: .int .u8 0 :: .int .u8 0 :: .int .u8 0 :: .int .u8 0 :: .int .u8 0 :: .int .u8 0 :: .int .u8 0 :: .int .u8 0 :: .int .u8 0 :: .int .u8 0 :: .int .u8 0 :: .int .u8 0 :: .int .u8 0 :: .int .u8 0 :: .int .u8 0 :: .int .u8 0 :: .int .u8 0 :: .int .u8 0 :: .int .u8 0 :: .int .u8 0 :: .int .u8 0 :: .int .u8 0 :: .int .u8 0 :: .int .u8 0 :: .int .u8 0 :: .int .u8 0 :: .int .u8 0 :: .int .u8 0 :: .int .u8 0 :: .int .u8 0 :: .int .u8 0 :: .int .u8 0 :: .int .u8 0 :: .int .u8 0 :: .int .u8 0 :: .int .u8 0 :: .int .u8 0 :: .int .u8 0 :: .int .u8 0 :: .int .u8 0 :: .int .u8 0 :: .int .u8 0 :: .int .u8 0 :: .int .u8 0 :: .int .u8 0 :: .int .u8 0 :: .int .u8 0 :: .int .u8 0 :: .int .u8 0 :: .int .u8 0 :: .int .u8 0 :: .int .u8 0 :: .int .u8 0 :: .int .u8 0 :: .int .u8 0 :: .int .u8 0 :: .int .u8 0 :: .int .u8 0 :: .int .u8 0 :: []) = hcl .u32 0 ⟨0, 0, 0, 0, 0, 0, 0, 0⟩ (List.replicate 128 0) := by rw [zero137]; kernel_rfl
theorem HB.zero32 (w : World) : HB .u32 (w.alloc zH32) w.heap.size 0 ⟨0, 0, 0, 0, 0, 0, 0, 0⟩ (List.replicate 128 0) := by
  unfold zH32
  rw [zeroH_32]
  exact HB.alloc _ _ _ _ _ (by simp)
theorem idx8_32 (n : Nat) (hn : n < 8) (W : World) : (Instr.index 68 (.agg #[.int .u64 7640891576956012808, .int .u64 13503953896175478587, .int .u64 4354685564936845355, .int .u64 11912009170470909681, .int .u64 5840696475078001361, .int .u64 11170449401992604703, .int .u64 2270897969802886507, .int .u64 6620516959819538809]) (.int .i64 (n : Int))).run Tryd.prog W = .ok (.int .u64 (stLh.getD n 0)) W := by
  obtain rfl | rfl | rfl | rfl | rfl | rfl | rfl | rfl : n = 0 ∨ n = 1 ∨ n = 2 ∨ n = 3 ∨ n = 4 ∨ n = 5 ∨ n = 6 ∨ n = 7 := by omega
  all_goals kernel_rfl
theorem start_is32 : ∀ n : Fin 8, start32.l.getD n.val 0 = stLh.getD n.val 0 / 4294967296 := by decide +kernel
set_option maxRecDepth 20000 in
set_option maxHeartbeats 8000000 in
theorem newHashing_32 (w : World) (hT : HasT w 0 stLh) :
    Calls Tryd.prog 68 #[] w fun e w' => e = .returned (.agg (hcl .u32 0 start32 (List.replicate 128 0)).toArray) ∧ Below w.heap.size w w' := by
  go_enter Tryd.func68, Tryd.ntmps68
  go_upto_region 1 with fail
  change Code.wp _ _ _ _ (w.alloc zH32)
  have n0 : Below w.heap.size w (w.alloc zH32) := (Below.refl _ _).alloc (Nat.le_refl _) _
  have H0 := HB.zero32 w
  have z0 : (w.alloc zH32).heap.size = w.heap.size + 1 := by simp
  generalize w.alloc zH32 = wa at *
  go_upto_region 2 with fail
  change Code.wp _ _ _ _ (wa.alloc zH32)
  have n1 : Below wa.heap.size wa (wa.alloc zH32) := (Below.refl _ _).alloc (Nat.le_refl _) _
  have H1 := HB.zero32 wa
  have z1 : (wa.alloc zH32).heap.size = wa.heap.size + 1 := by simp
  generalize wa.alloc zH32 = wb at *
  rw [z0] at H1 z1
  have H0 := H0.up n1
  have N := nxt n0 n1
  have hT2 := hT.up N
  have c0 : wb.cell? ⟨0, 0, none⟩ = some (.int .u64 7640891576956012808) := hT2 0 (by decide)
  have c1 : wb.cell? ⟨0, 1, none⟩ = some (.int .u64 13503953896175478587) := hT2 1 (by decide)
  have c2 : wb.cell? ⟨0, 2, none⟩ = some (.int .u64 4354685564936845355) := hT2 2 (by decide)
  have c3 : wb.cell? ⟨0, 3, none⟩ = some (.int .u64 11912009170470909681) := hT2 3 (by decide)
  have c4 : wb.cell? ⟨0, 4, none⟩ = some (.int .u64 5840696475078001361) := hT2 4 (by decide)
  have c5 : wb.cell? ⟨0, 5, none⟩ = some (.int .u64 11170449401992604703) := hT2 5 (by decide)
  have c6 : wb.cell? ⟨0, 6, none⟩ = some (.int .u64 2270897969802886507) := hT2 6 (by decide)
  have c7 : wb.cell? ⟨0, 7, none⟩ = some (.int .u64 6620516959819538809) := hT2 7 (by decide)
  clear n0 n1 hT hT2
  go_wp2_with fail
  have Z1 : Seg wb (w.heap.size + 1) 1 .u32 (List.replicate 8 0) := H1.ch
  go_loopw [5] (fun i wr => ∃ (n : Nat) (ys : List Int), n ≤ 8 ∧ i = .int .i64 n ∧ ys.length = 8 ∧ (∀ j, j < n → ys.getD j 0 = start32.l.getD j 0) ∧ Seg wr (w.heap.size + 1) 1 .u32 ys ∧ SegX (w.heap.size + 1) 1 8 wb wr) (fun i _ => 8 - (intOf i).toNat)
  case atStart => exact ⟨0, _, Nat.zero_le _, rfl, by simp, fun j h => absurd h (by omega), Z1, SegX.refl _ _ _ _⟩
  case round =>
    obtain ⟨n, ys, hn, rfl, hy, hv, hS, hX⟩ := hrel
    clear c0 c1 c2 c3 c4 c5 c6 c7
    by_cases hlt : n < 8
    · have sl := stL_lt ⟨n, hlt⟩
      have si := start_is32 ⟨n, hlt⟩
      have UB : ∀ w, Hid (Calls Tryd.prog 82 #[.int .u64 (stLh.getD n 0)] w fun e w' => e = .returned (.int .u32 (start32.l.getD n 0)) ∧ w' = w) := fun w => by
        show Calls _ _ _ _ _
        rw [si]
        exact upperBits_32 w (stLh.getD n 0) sl.1 sl.2
      have S' := hS.store n (by omega) (start32.l.getD n 0)
      have X' := hX.trans (SegX.set wr (w.heap.size + 1) 1 8 n hlt (.int .u32 (start32.l.getD n 0)))
      have V' : ∀ j, j < n + 1 → (ys.set n (start32.l.getD n 0)).getD j 0 = start32.l.getD j 0 := by
        intro j hj
        by_cases e : n = j
        · subst e
          rw [getD_set_self _ _ _ (by omega)]
        · rw [getD_set_ne _ _ _ _ e]
          exact hv j (by omega)
      have L' : (ys.set n (start32.l.getD n 0)).length = 8 := by rw [List.length_set]; exact hy
      obtain ⟨h1, h2⟩ := hS n (by omega)
      have IX := fun W => idx8_32 n hlt W
      have n8 : (n : Int) < 8 := by omega
      generalize start32.l.getD n 0 = sv at UB S' X' L' V' ⊢
      generalize stLh.getD n 0 = su at UB IX
      have VH := hide V'
      clear hS hX hv sl si hy V'
      generalize ys.getD n 0 = y0 at h1
      go_wp2_with fail
      refine (UB _).out.mono ?_
      rintro x wx ⟨rfl, rfl⟩
      go_wp2
      go_roundw
      case rel => exact ⟨n + 1, _, by omega, by go_num, L', VH.out, S', X'⟩
      case measure => simp [intOf]; omega
    · obtain rfl : n = 8 := by omega
      obtain rfl : ys = start32.l := eq_of_getD (by rw [hy]; rfl) (fun i hi => hv i (by omega))
      have H1' := H1.of_seg hX hS
      have H0' := H0.of_block (hX.only.block w.heap.size (by omega))
      have N' : Below w.heap.size w wr := N.trans (hX.only.below (by omega))
      clear H1 H0 N hX hS hv hy
      have L1 := hcl_len .u32 0 start32 (R := List.replicate 128 0) (by simp)
      have O1 := hcl_one .u32 0 start32 (List.replicate 128 0)
      have RG := H1'.range
      have TH := H0'.there
      have VH : Hid (∀ v, v = hcl .u32 0 start32 (List.replicate 128 0) → v.length = 137 ∧ (wr.setCells w.heap.size 0 v).rangeAt w.heap.size 0 v) := by
        rintro v rfl
        exact ⟨L1, World.rangeAt_setCells_same wr w.heap.size 0 _ (by rw [L1]; exact TH)⟩
      have N2 : ∀ v, Below w.heap.size w (wr.setCells w.heap.size 0 v) := fun v => N'.trans ((only_setCells wr w.heap.size v 0).below (Nat.le_refl _))
      generalize hvs : hcl .u32 0 start32 (List.replicate 128 0) = vs at *
      obtain ⟨d, hd, hrow⟩ : ∃ d, Tryd.prog.underlying 55 = some d ∧ d.isRow = true := by
        have h := undH_32
        cases hq : Tryd.prog.underlying 55 with
        | none => rw [hq] at h; simp at h
        | some d => rw [hq] at h; exact ⟨d, rfl, by simpa using h⟩
      go_wp2_with (first
        | (refine wpList_load_mid rfl 55 (.tmp 1) rfl (w.heap.size + 1) 0 rfl vs d RG hd hrow (by rw [L1]; exact infoH_32) ?_)
        | (refine wpList_store_mid rfl 55 (.tmp 0) (.tmp 15) rfl w.heap.size 0 vs.toArray rfl rfl ?hth ?hin ?hon ?_))
      case hth => show wr.there w.heap.size 0 vs.length; rw [L1]; exact TH
      case hin => show _ = some vs.length; rw [L1]; exact infoH_32
      case hon => exact O1
      obtain ⟨-, RR⟩ := VH.out vs rfl
      exact bodyPost_ret (v := .agg vs.toArray) (results_cell_m Tryd.results68 _ _ w.heap.size vs d rfl RR hd hrow (by rw [L1]; exact infoH_32)) rfl ⟨by rw [hvs], N2 vs⟩
end Go.Proofs.YtnfciobpfiibcaaDoor
