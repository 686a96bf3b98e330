import Derived.Test.YtmfajpplagbfcaaGreatDoorHB27
import Derived.Test.YtmfajpplagbfcaaGreatDoorHB13
namespace Go.Proofs.YtmfajpplagbfcaaGreatDoor
set_option maxRecDepth 100000
open Go Go.RowKit
theorem infoH_32 : (Tryz.prog.info? 76).map (·.size) = some 137 := by kernel_rfl
set_option maxHeartbeats 4000000 in
theorem restSize_32 (w : World) (L : Int) (C : S8) (R : List Int) (hl : R.length = 128) (h0 : 0 ≤ L) :
    Calls Tryz.prog 76 #[.agg (hcl .u32 L C R).toArray] w fun e w' => e = .returned (.int .i64 (L % 64)) ∧ Below w.heap.size w w' := by
  have n0 : Below w.heap.size w (w.alloc (.cells (hcl .u32 L C R).toArray 76)) := (Below.refl _ _).alloc (Nat.le_refl _) _
  have H0 := HB.alloc .u32 w 76 L C hl
  generalize hv : hcl .u32 L C R = vs at *
  go_enter Tryz.func76, Tryz.ntmps76
  go_wp2_with fail
  generalize w.alloc (.cells vs.toArray 76) = wa at *
  have c0 := H0.c0
  go_quiet ((go_at_call 75; exact Calls.quiet_of_same (blockSize_32 _)))
  go_wp2
  go_ret
  exact ⟨rfl, below_drewN n0 _⟩
theorem undH_32 : (Tryz.prog.underlying 76).map (·.isRow) = some true := by kernel_rfl
abbrev zH32 : Obj := .cells (List.toArray (.int .i64 0 :: .int .u32 0 :: .int .u32 0 :: .int .u32 0 :: .int .u32 0 :: .int .u32 0 :: .int .u32 0 :: .int .u32 0 :: .int .u32 0 :: .int .u8 0 :: .int .u8 0 :: .int .u8 0 :: .int .u8 0 :: .int .u8 0 :: .int .u8 0 :: .int .u8 0 :: .int .u8 0 :: .int .u8 0 :: .int .u8 0 :: .int .u8 0 :: .int .u8 0 :: .int .u8 0 :: .int .u8 0 :: .int .u8 0 :: .int .u8 0 :: .int .u8 0 :: .int .u8 0 :: .int .u8 0 :: .int .u8 0 :: .int .u8 0 :: .int .u8 0 :: .int .u8 0 :: .int .u8 0 :: .int .u8 0 :: .int .u8 0 :: .int .u8 0 :: .int .u8 0 :: .int .u8 0 :: .int .u8 0 :: .int .u8 0 :: .int .u8 0 :: .int .u8 0 :: .int .u8 0 :: .int .u8 0 :: .int .u8 0 :: .int .u8 0 :: .int .u8 0 :: .int .u8 0 :: .int .u8 0 :: .int .u8 0 :: .int .u8 0 :: .int .u8 0 :: .int .u8 0 :: .int .u8 0 :: .int .u8 0 :: .int .u8 0 :: .int .u8 0 :: .int .u8 0 :: .int .u8 0 :: .int .u8 0 :: .int .u8 0 :: .int .u8 0 :: .int .u8 0 :: .int .u8 0 :: .int .u8 0 :: .int .u8 0 :: .int .u8 0 :: .int .u8 0 :: .int .u8 0 :: .int .u8 0 :: .int .u8 0 :: .int .u8 0 :: .int .u8 0 :: .int .u8 0 :: .int .u8 0 :: .int .u8 0 :: .int .u8 0 :: .int .u8 0 :: .int .u8 0 :: .int .u8 0 :: .int .u8 0 :: .int .u8 0 :: .int .u8 0 :: .int .u8 0 :: .int .u8 0 :: .int .u8 0 :: .int .u8 0 :: .int .u8 0 :: .int .u8 0 :: .int .u8 0 :: .int .u8 0 :: .int .u8 0 :: .int .u8 0 :: .int .u8 0 :: .int .u8 0 :: .int .u8 0 :: .int .u8 0 :: .int .u8 0 :: .int .u8 0 :: .int .u8 0 :: .int .u8 0 :: .int .u8 0 :: .int .u8 0 :: .int .u8 0 :: .int .u8 0 :: .int .u8 0 :: .int .u8 0 :: .int .u8 0 :: .int .u8 0 :: .int .u8 0 :: .int .u8 0 :: .int .u8 0 :: .int .u8 0 :: .int .u8 0 :: .int .u8 0 :: .int .u8 0 :: .int .u8 0 :: .int .u8 0 :: .int .u8 0 :: .int .u8 0 :: .int .u8 0 :: .int .u8 0 :: .int .u8 0 :: .int .u8 0 :: .int .u8 0 :: .int .u8 0 :: .int .u8 0 :: .int .u8 0 :: .int .u8 0 :: .int .u8 0 :: .int .u8 0 :: .int .u8 0 :: .int .u8 0 :: .int .u8 0 :: .int .u8 0 :: .int .u8 0 :: .int .u8 0 :: [])) 76
set_option maxRecDepth 20000 in
theorem zeroH_32 : (.int .i64 0 :: .int .u32 0 :: .int .u32 0 :: .int .u32 0 :: .int .u32 0 :: .int .u32 0 :: .int .u32 0 :: .int .u32 0 :: .int .u32 0 :: .int .u8 0 :: .int .u8 0 :: .int .u8 0 :: .int .u8 0 :: .int .u8 0 :: .int .u8 0 :: .int .u8 0 :: .int .u8 0 :: .int .u8 0 :: .int .u8 0 :: .int .u8 0 :: .int .u8 0 :: .int .u8 0 :: .int .u8 0 :: .int .u8 0 :: .int .u8 0 :: .int .u8 0 :: .int .u8 0 :: .int .u8 0 :: .int .u8 0 :: .int .u8 0 :: .int .u8 0 :: .int .u8 0 :: .int .u8 0 :: .int .u8 0 :: .int .u8 0 :: .int .u8 0 :: .int .u8 0 :: .int .u8 0 :: .int .u8 0 :: .int .u8 0 :: .int .u8 0 :: .int .u8 0 :: .int .u8 0 :: .int .u8 0 :: .int .u8 0 :: .int .u8 0 :: .int .u8 0 :: .int .u8 0 :: .int .u8 0 :: .int .u8 0 :: .int .u8 0 :: .int .u8 0 :: .int .u8 0 :: .int .u8 0 :: .int .u8 0 :: .int .u8 0 :: .int .u8 0 :: .int .u8 0 :: .int .u8 0 :: .int .u8 0 :: .int .u8 0 :: .int .u8 0 :: .int .u8 0 :: .int .u8 0 :: .int .u8 0 :: .int .u8 0 :: .int .u8 0 :: .int .u8 0 :: .int .u8 0 :: .int .u8 0 :: .int .u8 0 :: .int .u8 0 :: .int .u8 0 :: .int .u8 0 :: .int .u8 0 :: .int .u8 0 :: .int .u8 0 :: .int .u8 0 :: .int .u8 0 :: .int .u8 0 :: .int .u8 0 :: .int .u8 0 :: .int .u8 0 :: .int .u8 0 :: .int .u8 0 :: .int .u8 0 :: .int .u8 0 :: .int .u8 0 :: .int .u8 0 :: .int .u8 0 :: .int .u8 0 :: .int .u8 0 :: .int .u8 0 :: .int .u8 0 :: .int .u8 0 :: .int .u8 0 :: .int .u8 0 :: .int .u8 0 :: .int .u8 0 :: .int .u8 0 :: .int .u8 0 :: .int .u8 0 :: .int .u8 0 :: .int .u8 0 :: .int .u8 0 :: .int .u8 0 :: .int .u8 0 :: .int .u8 0 :: .int .u8 0 :: .int .u8 0 :: .int .u8 0 :: .int .u8 0 :: .int .u8 0 :: .int .u8 0 :: .int .u8 0 :: .int .u8 0 :: .int .u8 0 :: .int .u8 0 :: .int .u8 0 :: .int .u8 0 :: .int .u8 0 :: .int .u8 0 :: .int .u8 0 :: .int .u8 0 :: .int .u8 0 :: .int .u8 0 :: .int .u8 0 :: .int .u8 0 :: .int .u8 0 :: .int .u8 0 :: .int .u8 0 :: .int .u8 0 :: .int .u8 0 :: .int .u8 0 :: .int .u8 0 :: .int .u8 0 :: .int .u8 0 :: []) = hcl .u32 0 ⟨0, 0, 0, 0, 0, 0, 0, 0⟩ (List.replicate 128 0) := by rw [zero137]; kernel_rfl
theorem HB.zero32 (w : World) : HB .u32 (w.alloc zH32) w.heap.size 0 ⟨0, 0, 0, 0, 0, 0, 0, 0⟩ (List.replicate 128 0) := by
  unfold zH32
  rw [zeroH_32]
  exact HB.alloc _ _ _ _ _ (by simp)
theorem idx8_32 (n : Nat) (hn : n < 8) (W : World) : (Instr.index 118 (.agg #[.int .u64 7640891576956012808, .int .u64 13503953896175478587, .int .u64 4354685564936845355, .int .u64 11912009170470909681, .int .u64 5840696475078001361, .int .u64 11170449401992604703, .int .u64 2270897969802886507, .int .u64 6620516959819538809]) (.int .i64 (n : Int))).run Tryz.prog W = .ok (.int .u64 (stLh.getD n 0)) W := by
  obtain rfl | rfl | rfl | rfl | rfl | rfl | rfl | rfl : n = 0 ∨ n = 1 ∨ n = 2 ∨ n = 3 ∨ n = 4 ∨ n = 5 ∨ n = 6 ∨ n = 7 := by omega
  all_goals kernel_rfl
theorem start_is32 : ∀ n : Fin 8, start32.l.getD n.val 0 = stLh.getD n.val 0 / 4294967296 := by decide +kernel
set_option maxRecDepth 20000 in
set_option maxHeartbeats 8000000 in
theorem newHashing_32 (w : World) (hT : HasT w 0 stLh) :
    Calls Tryz.prog 46 #[] w fun e w' => e = .returned (.agg (hcl .u32 0 start32 (List.replicate 128 0)).toArray) ∧ Below w.heap.size w w' := by
  go_enter Tryz.func46, Tryz.ntmps46
  go_upto_region 1 with fail
  change Code.wp _ _ _ _ (w.alloc zH32)
  have n0 : Below w.heap.size w (w.alloc zH32) := (Below.refl _ _).alloc (Nat.le_refl _) _
  have H0 := HB.zero32 w
  have z0 : (w.alloc zH32).heap.size = w.heap.size + 1 := by simp
  generalize w.alloc zH32 = wa at *
  go_upto_region 2 with fail
  change Code.wp _ _ _ _ (wa.alloc zH32)
  have n1 : Below wa.heap.size wa (wa.alloc zH32) := (Below.refl _ _).alloc (Nat.le_refl _) _
  have H1 := HB.zero32 wa
  have z1 : (wa.alloc zH32).heap.size = wa.heap.size + 1 := by simp
  generalize wa.alloc zH32 = wb at *
  rw [z0] at H1 z1
  have H0 := H0.up n1
  have N := nxt n0 n1
  have hT2 := hT.up N
  have c0 : wb.cell? ⟨0, 0, none⟩ = some (.int .u64 7640891576956012808) := hT2 0 (by decide)
  have c1 : wb.cell? ⟨0, 1, none⟩ = some (.int .u64 13503953896175478587) := hT2 1 (by decide)
  have c2 : wb.cell? ⟨0, 2, none⟩ = some (.int .u64 4354685564936845355) := hT2 2 (by decide)
  have c3 : wb.cell? ⟨0, 3, none⟩ = some (.int .u64 11912009170470909681) := hT2 3 (by decide)
  have c4 : wb.cell? ⟨0, 4, none⟩ = some (.int .u64 5840696475078001361) := hT2 4 (by decide)
  have c5 : wb.cell? ⟨0, 5, none⟩ = some (.int .u64 11170449401992604703) := hT2 5 (by decide)
  have c6 : wb.cell? ⟨0, 6, none⟩ = some (.int .u64 2270897969802886507) := hT2 6 (by decide)
  have c7 : wb.cell? ⟨0, 7, none⟩ = some (.int .u64 6620516959819538809) := hT2 7 (by decide)
  clear n0 n1 hT hT2
  go_wp2_with fail
  have Z1 : Seg wb (w.heap.size + 1) 1 .u32 (List.replicate 8 0) := H1.ch
  go_loopw [5] (fun i wr => ∃ (n : Nat) (ys : List Int), n ≤ 8 ∧ i = .int .i64 n ∧ ys.length = 8 ∧ (∀ j, j < n → ys.getD j 0 = start32.l.getD j 0) ∧ Seg wr (w.heap.size + 1) 1 .u32 ys ∧ SegX (w.heap.size + 1) 1 8 wb wr) (fun i _ => 8 - (intOf i).toNat)
  case atStart => exact ⟨0, _, Nat.zero_le _, rfl, by simp, fun j h => absurd h (by omega), Z1, SegX.refl _ _ _ _⟩
  case round =>
    obtain ⟨n, ys, hn, rfl, hy, hv, hS, hX⟩ := hrel
    clear c0 c1 c2 c3 c4 c5 c6 c7
    by_cases hlt : n < 8
    · have sl := stL_lt ⟨n, hlt⟩
      have si := start_is32 ⟨n, hlt⟩
      have UB : ∀ w, Hid (Calls Tryz.prog 74 #[.int .u64 (stLh.getD n 0)] w fun e w' => e = .returned (.int .u32 (start32.l.getD n 0)) ∧ w' = w) := fun w => by
        show Calls _ _ _ _ _
        rw [si]
        exact upperBits_32 w (stLh.getD n 0) sl.1 sl.2
      have S' := hS.store n (by omega) (start32.l.getD n 0)
      have X' := hX.trans (SegX.set wr (w.heap.size + 1) 1 8 n hlt (.int .u32 (start32.l.getD n 0)))
      have V' : ∀ j, j < n + 1 → (ys.set n (start32.l.getD n 0)).getD j 0 = start32.l.getD j 0 := by
        intro j hj
        by_cases e : n = j
        · subst e
          rw [getD_set_self _ _ _ (by omega)]
        · rw [getD_set_ne _ _ _ _ e]
          exact hv j (by omega)
      have L' : (ys.set n (start32.l.getD n 0)).length = 8 := by rw [List.length_set]; exact hy
      obtain ⟨h1, h2⟩ := hS n (by omega)
      have IX := fun W => idx8_32 n hlt W
      have n8 : (n : Int) < 8 := by omega
      generalize start32.l.getD n 0 = sv at UB S' X' L' V' ⊢
      generalize stLh.getD n 0 = su at UB IX
      have VH := hide V'
      clear hS hX hv sl si hy V'
      generalize ys.getD n 0 = y0 at h1
      go_wp2_with fail
      refine (UB _).out.mono ?_
      rintro x wx ⟨rfl, rfl⟩
      go_wp2
      go_roundw
      case rel => exact ⟨n + 1, _, by omega, by go_num, L', VH.out, S', X'⟩
      case measure => simp [intOf]; omega
    · obtain rfl : n = 8 := by omega
      obtain rfl : ys = start32.l := eq_of_getD (by rw [hy]; rfl) (fun i hi => hv i (by omega))
      have H1' := H1.of_seg hX hS
      have H0' := H0.of_block (hX.only.block w.heap.size (by omega))
      have N' : Below w.heap.size w wr := N.trans (hX.only.below (by omega))
      clear H1 H0 N hX hS hv hy
      have L1 := hcl_len .u32 0 start32 (R := List.replicate 128 0) (by simp)
      have O1 := hcl_one .u32 0 start32 (List.replicate 128 0)
      have RG := H1'.range
      have TH := H0'.there
      have VH : Hid (∀ v, v = hcl .u32 0 start32 (List.replicate 128 0) → v.length = 137 ∧ (wr.setCells w.heap.size 0 v).rangeAt w.heap.size 0 v) := by
        rintro v rfl
        exact ⟨L1, World.rangeAt_setCells_same wr w.heap.size 0 _ (by rw [L1]; exact TH)⟩
      have N2 : ∀ v, Below w.heap.size w (wr.setCells w.heap.size 0 v) := fun v => N'.trans ((only_setCells wr w.heap.size v 0).below (Nat.le_refl _))
      generalize hvs : hcl .u32 0 start32 (List.replicate 128 0) = vs at *
      obtain ⟨d, hd, hrow⟩ : ∃ d, Tryz.prog.underlying 76 = some d ∧ d.isRow = true := by
        have h := undH_32
        cases hq : Tryz.prog.underlying 76 with
        | none => rw [hq] at h; simp at h
        | some d => rw [hq] at h; exact ⟨d, rfl, by simpa using h⟩
      go_wp2_with (first
        | (refine wpList_load_mid rfl 76 (.tmp 1) rfl (w.heap.size + 1) 0 rfl vs d RG hd hrow (by rw [L1]; exact infoH_32) ?_)
        | (refine wpList_store_mid rfl 76 (.tmp 0) (.tmp 15) rfl w.heap.size 0 vs.toArray rfl rfl ?hth ?hin ?hon ?_))
      case hth => show wr.there w.heap.size 0 vs.length; rw [L1]; exact TH
      case hin => show _ = some vs.length; rw [L1]; exact infoH_32
      case hon => exact O1
      obtain ⟨-, RR⟩ := VH.out vs rfl
      exact bodyPost_ret (v := .agg vs.toArray) (results_cell_m Tryz.results46 _ _ w.heap.size vs d rfl RR hd hrow (by rw [L1]; exact infoH_32)) rfl ⟨by rw [hvs], N2 vs⟩
end Go.Proofs.YtmfajpplagbfcaaGreatDoor
namespace Go.Proofs.YtmfajpplagbfcaaGreatDoor
set_option maxRecDepth 100000
open Go Go.RowKit
set_option maxHeartbeats 8000000 in
theorem take_32 (w : World) (q L : Nat) (C : S8) (R : List Int) (hH : HB .u32 w q (L : Int) C R) (hC : Ok32 C) (hR : Byt R) (g : Nat) (a : Option Addr) (c : Nat) (xs : List Int) (hr : Rd w g a .u8 xs) (hx : Byt xs) (hc : xs.length ≤ c)
    (hg : 0 < xs.length → g ≠ q) (hL : L + xs.length ≤ 1152921504606846976) (hT : HasT w 1 kL) (hq : 1 ≠ q) :
    Calls Tryz.prog 47 #[.pointer (some ⟨q, 0, none⟩), .slice a xs.length c] w fun e w' => e = .returned (.tuple #[]) ∧ ∃ R', HB .u32 w' q ((L + xs.length : Nat) : Int) (whole32 C (R.take (L % 64) ++ xs)) R' ∧ Byt R' ∧ R'.take ((L + xs.length) % 64) = left32 (R.take (L % 64) ++ xs) ∧ Bth q w w' := by
  obtain ⟨Lt, hLt⟩ : ∃ n, n = L + xs.length := ⟨_, rfl⟩
  obtain ⟨Wt, hWt⟩ : ∃ s, s = whole32 C (R.take (L % 64) ++ xs) := ⟨_, rfl⟩
  obtain ⟨Lf, hLf⟩ : ∃ l, l = left32 (R.take (L % 64) ++ xs) := ⟨_, rfl⟩
  rw [← hLt, ← hWt, ← hLf]
  rw [← hLt] at hL
  have HLt := hide hLt.symm
  have HWt := hide hWt.symm
  have HLf := hide hLf.symm
  clear hLt hWt hLf
  go_enter Tryz.func47, Tryz.ntmps47
  go_wp2_with fail
  go_quiet ((go_at_call 75; exact Calls.quiet_of_same (blockSize_32 _)))
  go_wp2_with fail
  have B0 : Bth q w (w.drewN nq) := ⟨rfl, rfl, rfl, Nat.le_refl _, fun _ _ _ => rfl⟩
  have H0 : HB .u32 (w.drewN nq) q (L : Int) C R := hH.of_block rfl
  have T0 : HasT (w.drewN nq) 1 kL := hT
  have R0 : Rd (w.drewN nq) g a .u8 xs := hr
  generalize w.drewN nq = w0 at *
  go_loopw [1] (fun v wr => ∃ (L1 c1 : Nat) (C1 : S8) (R1 xs1 : List Int) (a1 : Option Addr), v = .slice a1 xs1.length c1 ∧ HB .u32 wr q (L1 : Int) C1 R1 ∧ Ok32 C1 ∧ Byt R1 ∧ Rd wr g a1 .u8 xs1 ∧ Byt xs1 ∧ xs1.length ≤ c1 ∧ xs1.length ≤ xs.length ∧ Hid (L1 + xs1.length = Lt) ∧ Hid (whole32 C1 (R1.take (L1 % 64) ++ xs1) = Wt) ∧ Hid (left32 (R1.take (L1 % 64) ++ xs1) = Lf) ∧ HasT wr 1 kL ∧ Bth q w wr) (fun v _ => vlen v)
  case atStart => exact ⟨L, c, C, R, xs, a, rfl, H0, hC, hR, R0, hx, hc, Nat.le_refl _, HLt, HWt, HLf, T0, B0⟩
  case round =>
    obtain ⟨L1, c1, C1, R1, xs1, a1, rfl, hH1, hC1, hR1, hr1, hx1, hc1, hle, hL1, hW1, hF1, hT1, hB1⟩ := hrel
    clear H0 R0 T0 B0 hH hC hR hr hx hT HLt HWt HLf
    by_cases hlt : 0 < xs1.length
    · have hgq := hg (by omega)
      obtain ⟨o1, rfl, hcc⟩ := id hr1 hlt
      obtain ⟨r, er⟩ : ∃ r, r = L1 % 64 := ⟨_, rfl⟩
      have rl : r < 64 := by omega
      have rz : (L1 : Int) % 64 = (r : Int) := by omega
      have rl2 : (r : Int) ≤ 64 := by omega
      have ER := hide er
      clear er
      obtain ⟨n1, hn1⟩ : ∃ n, xs1.length = n := ⟨_, rfl⟩
      have l1 : (0 : Int) < (n1 : Int) := by omega
      have RG := hH1.range
      have RS := restSize_32 wr (L1 : Int) C1 R1 hH1.len (by omega)
      rw [rz] at RS
      have RSH := hide RS
      have LH := hide (hcl_len .u32 (L1 : Int) C1 hH1.len)
      have RN := hide hH1.len
      clear RS
      obtain ⟨d, hd, hrow⟩ : ∃ d, Tryz.prog.underlying 76 = some d ∧ d.isRow = true := by
        have h := undH_32
        cases hq : Tryz.prog.underlying 76 with
        | none => rw [hq] at h; simp at h
        | some d => rw [hq] at h; exact ⟨d, rfl, by simpa using h⟩
      generalize hcl .u32 (L1 : Int) C1 R1 = vs at *
      rw [hn1]
      have HN := hide hn1
      clear hn1
      go_wp2_with (refine wpList_load_mid rfl 76 (.tmp 16) rfl q 0 rfl vs d RG hd hrow (by rw [LH.out]; exact infoH_32) ?_)
      refine RSH.out.mono ?_
      rintro x w2 ⟨rfl, n2⟩
      clear RSH
      go_wp2_with fail
      obtain ⟨t, ht⟩ : ∃ t, t = min (64 - r) n1 := ⟨_, rfl⟩
      obtain ⟨tk, htk⟩ : ∃ l, l = xs1.take t := ⟨_, rfl⟩
      have tl : tk.length = t := by rw [htk, List.length_take, HN.out]; omega
      have H2 := hH1.up n2
      have hrun := run_copy_cells (P := Tryz.prog) w2 22 22 3 5 q (9 + r) (64 - r) (128 - r) ⟨g, o1, none⟩ n1 c1 (tk.map (Value.int .u8)) und22h s5 (by rw [List.length_map, tl, ht]; exact Nat.min_comm _ _)
        (fun j v hj => by
          have hjl : j < tk.length := by have := (List.getElem?_eq_some_iff.1 hj).1; simpa using this
          have e : tk.getD j 0 = xs1.getD j 0 := by rw [htk, List.getD_eq_getElem?_getD, List.getD_eq_getElem?_getD, List.getElem?_take, if_pos (by omega)]
          have hc' := (hr1.up n2) hlt
          obtain ⟨o', e', hcc'⟩ := hc'
          simp only [Option.some.injEq, Addr.mk.injEq, true_and, and_true] at e'
          subst e'
          rw [Addr.add_mid, hcc' j (by rw [HN.out]; omega), ← e]
          simpa [hjl] using hj)
        (fun j hj => by
          rw [List.length_map, tl] at hj
          have := H2.rs (r + j) (by rw [H2.len]; omega)
          rw [show 9 + (r + j) = 9 + r + j by omega] at this
          rw [this.1]; rfl)
        (fun j hj => by
          rw [List.length_map, tl] at hj
          have := H2.rs (r + j) (by rw [H2.len]; omega)
          rw [show 9 + (r + j) = 9 + r + j by omega] at this
          exact this.2)
        (fun v hv => by obtain ⟨x, _, rfl⟩ := List.mem_map.1 hv; rfl)
      rw [List.length_map, tl] at hrun
      have H3 := H2.setR r tk (by omega)
      have Q3 := only_setCells w2 q (tk.map (Value.int .u8)) (9 + r)
      have B3 : Bth q w (w2.setCells q (9 + r) (tk.map (Value.int .u8))) := (hB1.trans (Bth.of_below n2)).trans (Bth.of_only Q3)
      have T3 : HasT (w2.setCells q (9 + r) (tk.map (Value.int .u8))) 1 kL := (hT1.up n2).of_block (Q3.block _ hq)
      have r3 : Rd (w2.setCells q (9 + r) (tk.map (Value.int .u8))) g (some ⟨g, o1, none⟩) .u8 xs1 := (hr1.up n2).of_block (Q3.block _ hgq)
      have c3 := H3.c0
      have f3 := H3.f0
      have H4 := H3.setL ((L1 : Int) + (t : Int))
      have Q4 := Only.setCell (w2.setCells q (9 + r) (tk.map (Value.int .u8))) q 0 (.int .i64 ((L1 : Int) + (t : Int)))
      have B4 := B3.trans (Bth.of_only Q4)
      have T4 := T3.of_block (Q4.block _ hq)
      have r4 := r3.of_block (Q4.block _ hgq)
      have t0 : 0 < t := by omega
      have tn : t ≤ n1 := by omega
      have tr : r + t ≤ 64 := by omega
      have tn' : (t : Int) ≤ (n1 : Int) := by omega
      have nc' : (n1 : Int) ≤ (c1 : Int) := by have := HN.out; omega
      have nb' : (L1 : Int) + (n1 : Int) ≤ 1152921504606846976 := by have := hL1.out; have := HN.out; omega
      have TT : Hid (t = min (64 - r) n1) := ht
      have TK := hide htk
      have TL := hide tl
      clear ht htk tl hH1 RG LH H2 H3 B3 T3 r3 Q3 Q4 hB1 hT1 hr1 hcc n2
      rw [hrun]
      clear hrun
      generalize w2.setCells q (9 + r) (tk.map (Value.int .u8)) = w3 at *
      have ly := lay_byt (r := r) hR1 (show Byt tk by rw [TK.out]; exact byt_takeh hx1 t)
      have mk : Hid ((lay R1 r tk).take (r + t) = R1.take r ++ tk) := by show _ = _; rw [← TL.out]; exact take_more (by rw [RN.out]; omega)
      have RG := H4.range
      have L4 := H4.len
      have RS := restSize_32 (w3.setCell ⟨q, 0, none⟩ (.int .i64 ((L1 : Int) + (t : Int)))) ((L1 : Int) + (t : Int)) C1 (lay R1 r tk) L4 (by omega)
      have LH := hide (hcl_len .u32 ((L1 : Int) + (t : Int)) C1 L4)
      generalize hcl .u32 ((L1 : Int) + (t : Int)) C1 (lay R1 r tk) = vs4 at *
      have RSH := hide RS
      have L4H := hide L4
      clear RS L4
      by_cases hct : c1 = t
      · have hct2 := hct.symm
        subst hct2
        go_wp2_with (refine wpList_load_mid rfl 76 (.tmp 34) rfl q 0 rfl vs4 d RG hd hrow (by rw [LH.out]; exact infoH_32) ?_)
        generalize w3.setCell ⟨q, 0, none⟩ (.int .i64 ((L1 : Int) + (t : Int))) = w4 at *
        refine RSH.out.mono ?_
        rintro x w5 ⟨rfl, n5⟩
        have H5 := H4.up n5
        have B5 := B4.trans (Bth.of_below n5)
        have T5 := T4.up n5
        have r5 : Rd w5 g (some ⟨g, o1, none⟩) .u8 (xs1.drop t) := by rw [List.drop_eq_nil_of_le (by have := HN.out; omega)]; exact Rd.nil _ _ _ _
        have dl : Hid ((xs1.drop t).length = n1 - t) := by show _ = _; rw [List.length_drop, HN.out]
        clear RSH RG LH H4 B4 T4 r4 n5 c3 f3
        by_cases hf : r + t = 64
        · have z5 : ((L1 : Int) + (t : Int)) % 64 = 0 := by have := ER.out; omega
          have bl : ((lay R1 r tk).take 64).length = 64 := by rw [List.length_take, L4H.out]; omega
          have bb : Byt ((lay R1 r tk).take 64) := byt_takeh ly _
          have be : (lay R1 r tk).take 64 = R1.take r ++ tk := by rw [← hf]; exact mk.out
          have rb : ∀ W, Below w5.heap.size w5 W → Rd W q (some ⟨q, 9, none⟩) .u8 ((lay R1 r tk).take 64) := fun W n _ => ⟨9, rfl, fun i hi => by
            have h := ((H5.up n).rs i (by rw [L4H.out]; omega)).1
            rw [List.getD_eq_getElem?_getD, List.getElem?_take, if_pos (by omega), ← List.getD_eq_getElem?_getD]
            exact h⟩
          obtain ⟨C2, hC2⟩ : ∃ s, s = blk32 C1 (wd 4 ((lay R1 r tk).take 64)) := ⟨_, rfl⟩
          have oC2 : Ok32 C2 := by rw [hC2]; exact blk_ok32 _ _
          have HC2 := hide hC2
          go_wp2_with fail
          refine region_put 10 9 7 47 45 _ (fun i => [Fact.eq (.pointer (some ⟨q, 0, none⟩)), Fact.eq (.pointer (some ⟨q, 0, none⟩)), Fact.eq (.pointer (some ⟨q, 0, none⟩)), Fact.eq (.pointer (some ⟨q, 1, none⟩)), Fact.eq (ag8 .u32 C1), Fact.eq (.slice (some ⟨q, 9, none⟩) 64 128), Fact.eq (agw .u32 (wd 4 ((lay R1 r tk).take 64))), Fact.eq (ag8 .u32 C2), Fact.eq (.pointer (some ⟨q, 0, none⟩)), Fact.eq (.pointer (some ⟨q, 1, none⟩))].getD i Fact.no) q 1 73 (C2.l.map (Value.int .u32)) (by kernel_rfl) (by kernel_rfl) rfl rfl rfl (by kernel_rfl) rfl (by kernel_rfl) rfl ?_ (by rw [List.length_map]; kernel_rfl) (one_ints _ _) ?_ ?_
          · intro W n j hj
            rw [List.length_map] at hj
            have h := (H5.up n).ch j hj
            exact ⟨by rw [h.1]; rfl, h.2⟩
          · skip
            intro i hi
            obtain rfl | rfl | rfl | rfl | rfl | rfl | rfl | rfl | rfl | rfl : i = 0 ∨ i = 1 ∨ i = 2 ∨ i = 3 ∨ i = 4 ∨ i = 5 ∨ i = 6 ∨ i = 7 ∨ i = 8 ∨ i = 9 := by omega
            · refine step_pure rfl fun a w hb hw hf => ?_
              have e0 : a.tmps[0]?.getD undef = .pointer (some ⟨q, 0, none⟩) := gdv (hb.2.2 0 (by kernel_rfl))
              exact ⟨.pointer (some ⟨q, 0, none⟩), by simp [go_sem, e0], rfl⟩
            · refine step_pure rfl fun a w hb hw hf => ?_
              have e0 : a.tmps[0]?.getD undef = .pointer (some ⟨q, 0, none⟩) := gdv (hb.2.2 0 (by kernel_rfl))
              exact ⟨.pointer (some ⟨q, 0, none⟩), by simp [go_sem, e0], rfl⟩
            · refine step_pure rfl fun a w hb hw hf => ?_
              have e39 : a.tmps[39]?.getD undef = .pointer (some ⟨q, 0, none⟩) := gdv (hf 1 39 (by kernel_rfl))
              exact ⟨.pointer (some ⟨q, 0, none⟩), by simp [go_sem, e39], rfl⟩
            · refine step_pure rfl fun a w hb hw hf => ?_
              have e40 : a.tmps[40]?.getD undef = .pointer (some ⟨q, 0, none⟩) := gdv (hf 2 40 (by kernel_rfl))
              exact ⟨.pointer (some ⟨q, 1, none⟩), by simp [go_sem, e40], rfl⟩
            · refine step_load rfl 73 (.tmp 41) rfl (.array 8 71) 8 (by kernel_rfl) rfl (by kernel_rfl) fun a w hb hw hf => ⟨q, 1, C1.l.map (Value.int .u32), hf 3 41 (by kernel_rfl), (H5.up hw).ch.range, by rw [List.length_map]; rfl, rfl⟩
            · refine step_pure rfl fun a w hb hw hf => ?_
              have e4 : a.tmps[4]?.getD undef = .slice (some ⟨q, 9, none⟩) 64 128 := gdv (hb.2.2 4 (by kernel_rfl))
              exact ⟨.slice (some ⟨q, 9, none⟩) 64 128, by simp [go_sem, e4], rfl⟩
            · refine step_callv rfl 78 _ _ rfl (by kernel_rfl) fun a w hb hw hf => ?_
              have e43 : a.tmps.getD 43 undef = .slice (some ⟨q, 9, none⟩) 64 128 := hf 5 43 (by kernel_rfl)
              show Calls Tryz.prog 78 #[a.tmps.getD 43 undef] w _
              rw [e43]
              exact (readBlock_32 w q (some ⟨q, 9, none⟩) 128 _ (rb w hw) bb bl).mono (by rintro r w' ⟨rfl, n⟩; exact ⟨_, rfl, n, rfl⟩)
            · refine step_callv rfl 77 _ _ rfl (by kernel_rfl) fun a w hb hw hf => ?_
              have e42 : a.tmps.getD 42 undef = ag8 .u32 C1 := hf 4 42 (by kernel_rfl)
              have e44 : a.tmps.getD 44 undef = agw .u32 (wd 4 ((lay R1 r tk).take 64)) := hf 6 44 (by kernel_rfl)
              show Calls Tryz.prog 77 #[a.tmps.getD 42 undef, a.tmps.getD 44 undef] w _
              rw [e42, e44]
              rw [HC2.out]; exact (behind_32 w C1 hC1 _ (fun i _ => wd_32 bb i) (T5.up hw)).mono (by rintro r w' ⟨rfl, n⟩; exact ⟨_, rfl, n, rfl⟩)
            · refine step_pure rfl fun a w hb hw hf => ?_
              have e38 : a.tmps[38]?.getD undef = .pointer (some ⟨q, 0, none⟩) := gdv (hf 0 38 (by kernel_rfl))
              exact ⟨.pointer (some ⟨q, 0, none⟩), by simp [go_sem, e38], rfl⟩
            · refine step_pure rfl fun a w hb hw hf => ?_
              have e46 : a.tmps[46]?.getD undef = .pointer (some ⟨q, 0, none⟩) := gdv (hf 8 46 (by kernel_rfl))
              exact ⟨.pointer (some ⟨q, 1, none⟩), by simp [go_sem, e46], rfl⟩
          intro vs6 W n6
          have H6 := (H5.up n6).setC C2
          have Q6 := only_setCells W q (C2.l.map (Value.int .u32)) 1
          have B6 := (B5.trans (Bth.of_below n6)).trans (Bth.of_only Q6)
          have T6 := (T5.up n6).of_block (Q6.block _ hq)
          have r6 := (r5.up n6).of_block (Q6.block _ hgq)
          simp only [puts, Act.put, List.setIfInBounds_toArray, List.set_cons_succ, List.set_cons_zero]
          generalize W.setCells q 1 (C2.l.map (Value.int .u32)) = w6 at *
          have lf : (L1 + t) % 64 = 0 := by have := ER.out; omega
          have whx : xs1 = tk ++ xs1.drop t := by rw [TK.out]; exact (List.take_append_drop t xs1).symm
          have KW : Hid (whole32 C2 ((lay R1 r tk).take ((L1 + t) % 64) ++ xs1.drop t) = Wt) := by
            show _ = _
            rw [lf, List.take_zero, List.nil_append, ← hW1.out, ← ER.out]
            conv => rhs; rw [whx, ← List.append_assoc, ← be, whole_app32 _ _ _ bl, ← HC2.out]
          have KF : Hid (left32 ((lay R1 r tk).take ((L1 + t) % 64) ++ xs1.drop t) = Lf) := by
            show _ = _
            rw [lf, List.take_zero, List.nil_append, ← hF1.out, ← ER.out]
            conv => rhs; rw [whx, ← List.append_assoc, ← be, left_app32 _ _ bl]
          clear mk bl bb be rb lf whx
          go_wp2
          go_roundw
          case rel => exact ⟨L1 + t, 0, C2, lay R1 r tk, xs1.drop t, _, by rw [dl.out], by rw [Int.natCast_add]; exact H6, oC2, ly, r6, byt_drop hx1 t, by rw [dl.out]; have := HN.out; omega, by rw [dl.out]; have := HN.out; omega, by show _ = _; rw [dl.out]; have := hL1.out; have := HN.out; omega, KW, KF, T6, B6⟩
          case measure => simp only [vlen_slice]; omega
        · have z5 : (((L1 : Int) + (t : Int)) % 64 == 0) = false := by have := ER.out; simp; omega
          obtain rfl : t = n1 := by have := TT.out; omega
          have lf : (L1 + t) % 64 = r + t := by have := ER.out; omega
          have dn : xs1.drop t = [] := List.drop_eq_nil_of_le (by rw [HN.out]; exact Nat.le_refl _)
          have tx : tk = xs1 := by rw [TK.out]; exact List.take_of_length_le (by rw [HN.out]; exact Nat.le_refl _)
          have KW : Hid (whole32 C1 ((lay R1 r tk).take ((L1 + t) % 64) ++ xs1.drop t) = Wt) := by
            show _ = _
            rw [lf, mk.out, dn, List.append_nil, tx, ER.out]
            exact hW1.out
          have KF : Hid (left32 ((lay R1 r tk).take ((L1 + t) % 64) ++ xs1.drop t) = Lf) := by
            show _ = _
            rw [lf, mk.out, dn, List.append_nil, tx, ER.out]
            exact hF1.out
          clear mk lf dn tx
          go_wp2
          go_roundw
          case rel => exact ⟨L1 + t, 0, C1, lay R1 r tk, xs1.drop t, _, by rw [dl.out, Nat.sub_self], by rw [Int.natCast_add]; exact H5, hC1, ly, r5, byt_drop hx1 t, by rw [dl.out]; have := HN.out; omega, by rw [dl.out]; have := HN.out; omega, by show _ = _; rw [dl.out]; have := hL1.out; have := HN.out; omega, KW, KF, T5, B5⟩
          case measure => simp only [vlen_slice]; omega
      · have hct' : ¬ ((c1 : Int) = (t : Int)) := by omega
        go_wp2_with (refine wpList_load_mid rfl 76 (.tmp 34) rfl q 0 rfl vs4 d RG hd hrow (by rw [LH.out]; exact infoH_32) ?_)
        generalize w3.setCell ⟨q, 0, none⟩ (.int .i64 ((L1 : Int) + (t : Int))) = w4 at *
        refine RSH.out.mono ?_
        rintro x w5 ⟨rfl, n5⟩
        have H5 := H4.up n5
        have B5 := B4.trans (Bth.of_below n5)
        have T5 := T4.up n5
        have r5 : Rd w5 g (some ⟨g, o1 + t, none⟩) .u8 (xs1.drop t) := rd_drop (t := t) (r4.up n5)
        have dl : Hid ((xs1.drop t).length = n1 - t) := by show _ = _; rw [List.length_drop, HN.out]
        clear RSH RG LH H4 B4 T4 r4 n5 c3 f3
        by_cases hf : r + t = 64
        · have z5 : ((L1 : Int) + (t : Int)) % 64 = 0 := by have := ER.out; omega
          have bl : ((lay R1 r tk).take 64).length = 64 := by rw [List.length_take, L4H.out]; omega
          have bb : Byt ((lay R1 r tk).take 64) := byt_takeh ly _
          have be : (lay R1 r tk).take 64 = R1.take r ++ tk := by rw [← hf]; exact mk.out
          have rb : ∀ W, Below w5.heap.size w5 W → Rd W q (some ⟨q, 9, none⟩) .u8 ((lay R1 r tk).take 64) := fun W n _ => ⟨9, rfl, fun i hi => by
            have h := ((H5.up n).rs i (by rw [L4H.out]; omega)).1
            rw [List.getD_eq_getElem?_getD, List.getElem?_take, if_pos (by omega), ← List.getD_eq_getElem?_getD]
            exact h⟩
          obtain ⟨C2, hC2⟩ : ∃ s, s = blk32 C1 (wd 4 ((lay R1 r tk).take 64)) := ⟨_, rfl⟩
          have oC2 : Ok32 C2 := by rw [hC2]; exact blk_ok32 _ _
          have HC2 := hide hC2
          go_wp2_with fail
          refine region_put 10 9 7 47 45 _ (fun i => [Fact.eq (.pointer (some ⟨q, 0, none⟩)), Fact.eq (.pointer (some ⟨q, 0, none⟩)), Fact.eq (.pointer (some ⟨q, 0, none⟩)), Fact.eq (.pointer (some ⟨q, 1, none⟩)), Fact.eq (ag8 .u32 C1), Fact.eq (.slice (some ⟨q, 9, none⟩) 64 128), Fact.eq (agw .u32 (wd 4 ((lay R1 r tk).take 64))), Fact.eq (ag8 .u32 C2), Fact.eq (.pointer (some ⟨q, 0, none⟩)), Fact.eq (.pointer (some ⟨q, 1, none⟩))].getD i Fact.no) q 1 73 (C2.l.map (Value.int .u32)) (by kernel_rfl) (by kernel_rfl) rfl rfl rfl (by kernel_rfl) rfl (by kernel_rfl) rfl ?_ (by rw [List.length_map]; kernel_rfl) (one_ints _ _) ?_ ?_
          · intro W n j hj
            rw [List.length_map] at hj
            have h := (H5.up n).ch j hj
            exact ⟨by rw [h.1]; rfl, h.2⟩
          · skip
            intro i hi
            obtain rfl | rfl | rfl | rfl | rfl | rfl | rfl | rfl | rfl | rfl : i = 0 ∨ i = 1 ∨ i = 2 ∨ i = 3 ∨ i = 4 ∨ i = 5 ∨ i = 6 ∨ i = 7 ∨ i = 8 ∨ i = 9 := by omega
            · refine step_pure rfl fun a w hb hw hf => ?_
              have e0 : a.tmps[0]?.getD undef = .pointer (some ⟨q, 0, none⟩) := gdv (hb.2.2 0 (by kernel_rfl))
              exact ⟨.pointer (some ⟨q, 0, none⟩), by simp [go_sem, e0], rfl⟩
            · refine step_pure rfl fun a w hb hw hf => ?_
              have e0 : a.tmps[0]?.getD undef = .pointer (some ⟨q, 0, none⟩) := gdv (hb.2.2 0 (by kernel_rfl))
              exact ⟨.pointer (some ⟨q, 0, none⟩), by simp [go_sem, e0], rfl⟩
            · refine step_pure rfl fun a w hb hw hf => ?_
              have e39 : a.tmps[39]?.getD undef = .pointer (some ⟨q, 0, none⟩) := gdv (hf 1 39 (by kernel_rfl))
              exact ⟨.pointer (some ⟨q, 0, none⟩), by simp [go_sem, e39], rfl⟩
            · refine step_pure rfl fun a w hb hw hf => ?_
              have e40 : a.tmps[40]?.getD undef = .pointer (some ⟨q, 0, none⟩) := gdv (hf 2 40 (by kernel_rfl))
              exact ⟨.pointer (some ⟨q, 1, none⟩), by simp [go_sem, e40], rfl⟩
            · refine step_load rfl 73 (.tmp 41) rfl (.array 8 71) 8 (by kernel_rfl) rfl (by kernel_rfl) fun a w hb hw hf => ⟨q, 1, C1.l.map (Value.int .u32), hf 3 41 (by kernel_rfl), (H5.up hw).ch.range, by rw [List.length_map]; rfl, rfl⟩
            · refine step_pure rfl fun a w hb hw hf => ?_
              have e4 : a.tmps[4]?.getD undef = .slice (some ⟨q, 9, none⟩) 64 128 := gdv (hb.2.2 4 (by kernel_rfl))
              exact ⟨.slice (some ⟨q, 9, none⟩) 64 128, by simp [go_sem, e4], rfl⟩
            · refine step_callv rfl 78 _ _ rfl (by kernel_rfl) fun a w hb hw hf => ?_
              have e43 : a.tmps.getD 43 undef = .slice (some ⟨q, 9, none⟩) 64 128 := hf 5 43 (by kernel_rfl)
              show Calls Tryz.prog 78 #[a.tmps.getD 43 undef] w _
              rw [e43]
              exact (readBlock_32 w q (some ⟨q, 9, none⟩) 128 _ (rb w hw) bb bl).mono (by rintro r w' ⟨rfl, n⟩; exact ⟨_, rfl, n, rfl⟩)
            · refine step_callv rfl 77 _ _ rfl (by kernel_rfl) fun a w hb hw hf => ?_
              have e42 : a.tmps.getD 42 undef = ag8 .u32 C1 := hf 4 42 (by kernel_rfl)
              have e44 : a.tmps.getD 44 undef = agw .u32 (wd 4 ((lay R1 r tk).take 64)) := hf 6 44 (by kernel_rfl)
              show Calls Tryz.prog 77 #[a.tmps.getD 42 undef, a.tmps.getD 44 undef] w _
              rw [e42, e44]
              rw [HC2.out]; exact (behind_32 w C1 hC1 _ (fun i _ => wd_32 bb i) (T5.up hw)).mono (by rintro r w' ⟨rfl, n⟩; exact ⟨_, rfl, n, rfl⟩)
            · refine step_pure rfl fun a w hb hw hf => ?_
              have e38 : a.tmps[38]?.getD undef = .pointer (some ⟨q, 0, none⟩) := gdv (hf 0 38 (by kernel_rfl))
              exact ⟨.pointer (some ⟨q, 0, none⟩), by simp [go_sem, e38], rfl⟩
            · refine step_pure rfl fun a w hb hw hf => ?_
              have e46 : a.tmps[46]?.getD undef = .pointer (some ⟨q, 0, none⟩) := gdv (hf 8 46 (by kernel_rfl))
              exact ⟨.pointer (some ⟨q, 1, none⟩), by simp [go_sem, e46], rfl⟩
          intro vs6 W n6
          have H6 := (H5.up n6).setC C2
          have Q6 := only_setCells W q (C2.l.map (Value.int .u32)) 1
          have B6 := (B5.trans (Bth.of_below n6)).trans (Bth.of_only Q6)
          have T6 := (T5.up n6).of_block (Q6.block _ hq)
          have r6 := (r5.up n6).of_block (Q6.block _ hgq)
          simp only [puts, Act.put, List.setIfInBounds_toArray, List.set_cons_succ, List.set_cons_zero]
          generalize W.setCells q 1 (C2.l.map (Value.int .u32)) = w6 at *
          have lf : (L1 + t) % 64 = 0 := by have := ER.out; omega
          have whx : xs1 = tk ++ xs1.drop t := by rw [TK.out]; exact (List.take_append_drop t xs1).symm
          have KW : Hid (whole32 C2 ((lay R1 r tk).take ((L1 + t) % 64) ++ xs1.drop t) = Wt) := by
            show _ = _
            rw [lf, List.take_zero, List.nil_append, ← hW1.out, ← ER.out]
            conv => rhs; rw [whx, ← List.append_assoc, ← be, whole_app32 _ _ _ bl, ← HC2.out]
          have KF : Hid (left32 ((lay R1 r tk).take ((L1 + t) % 64) ++ xs1.drop t) = Lf) := by
            show _ = _
            rw [lf, List.take_zero, List.nil_append, ← hF1.out, ← ER.out]
            conv => rhs; rw [whx, ← List.append_assoc, ← be, left_app32 _ _ bl]
          clear mk bl bb be rb lf whx
          go_wp2
          go_roundw
          case rel => exact ⟨L1 + t, c1 - t, C2, lay R1 r tk, xs1.drop t, _, by rw [dl.out], by rw [Int.natCast_add]; exact H6, oC2, ly, r6, byt_drop hx1 t, by rw [dl.out]; have := HN.out; omega, by rw [dl.out]; have := HN.out; omega, by show _ = _; rw [dl.out]; have := hL1.out; have := HN.out; omega, KW, KF, T6, B6⟩
          case measure => simp only [vlen_slice]; omega
        · have z5 : (((L1 : Int) + (t : Int)) % 64 == 0) = false := by have := ER.out; simp; omega
          obtain rfl : t = n1 := by have := TT.out; omega
          have lf : (L1 + t) % 64 = r + t := by have := ER.out; omega
          have dn : xs1.drop t = [] := List.drop_eq_nil_of_le (by rw [HN.out]; exact Nat.le_refl _)
          have tx : tk = xs1 := by rw [TK.out]; exact List.take_of_length_le (by rw [HN.out]; exact Nat.le_refl _)
          have KW : Hid (whole32 C1 ((lay R1 r tk).take ((L1 + t) % 64) ++ xs1.drop t) = Wt) := by
            show _ = _
            rw [lf, mk.out, dn, List.append_nil, tx, ER.out]
            exact hW1.out
          have KF : Hid (left32 ((lay R1 r tk).take ((L1 + t) % 64) ++ xs1.drop t) = Lf) := by
            show _ = _
            rw [lf, mk.out, dn, List.append_nil, tx, ER.out]
            exact hF1.out
          clear mk lf dn tx
          go_wp2
          go_roundw
          case rel => exact ⟨L1 + t, c1 - t, C1, lay R1 r tk, xs1.drop t, _, by rw [dl.out, Nat.sub_self], by rw [Int.natCast_add]; exact H5, hC1, ly, r5, byt_drop hx1 t, by rw [dl.out]; have := HN.out; omega, by rw [dl.out]; have := HN.out; omega, by show _ = _; rw [dl.out]; have := hL1.out; have := HN.out; omega, KW, KF, T5, B5⟩
          case measure => simp only [vlen_slice]; omega
    · obtain rfl : xs1 = [] := List.eq_nil_of_length_eq_zero (by omega)
      have e1 : L1 = Lt := by have := hL1.out; simpa using this
      have sh : (R1.take (L1 % 64)).length < 64 := by rw [List.length_take]; omega
      have e2 : C1 = Wt := by have := hW1.out; rw [List.append_nil, whole_short32 _ sh] at this; exact this
      have e3 : R1.take (L1 % 64) = Lf := by have := hF1.out; rw [List.append_nil, left_short32 sh] at this; exact this
      have E := hide (And.intro e1 (And.intro e2 e3))
      clear e1 e2 e3 sh hL1 hW1 hF1
      go_wp2
      obtain ⟨e1, e2, e3⟩ := E.out
      subst e1 e2
      exact bodyPost_end (v := .tuple #[]) (by simp [results, Tryz.results47, go_sem]) rfl ⟨rfl, R1, hH1, hR1, e3, hB1⟩
end Go.Proofs.YtmfajpplagbfcaaGreatDoor
