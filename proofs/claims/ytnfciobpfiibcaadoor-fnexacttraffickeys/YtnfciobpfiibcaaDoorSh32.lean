
/-
  The model's hash of 32 bits (written by gens/sh.py).
-/
import Derived.Test.YtnfciobpfiibcaaDoorSb32
namespace Go.Proofs.YtnfciobpfiibcaaDoor
set_option maxRecDepth 100000
open Go Go.RowKit

theorem l1Copy_row (w : World) (g : Nat) (a : Option Addr) (c : Nat) (xs : List Int) (hr : Rd w g a .u8 xs) (hc : a = none → c = 0) (hn : xs.length ≤ 1099511627776) :
    Calls Tryd.prog 59 #[.slice a xs.length c] w fun e w' => ∃ v, e = .returned v ∧ RowB w' w.heap.size v xs ∧ Below w.heap.size w w' := by
  obtain ⟨i0, hi, hz0, hz1, hz2⟩ := info_parts Tryd.info5
  have n0 : Below w.heap.size w (w.alloc (.cells #[] 5)) := (Below.refl _ _).alloc (Nat.le_refl _) _
  obtain ⟨v', w2, hap, o2, n2⟩ := append_any (P := Tryd.prog) (w.alloc (.cells #[] 5)) 22 i0 Tryd.underlying22 hi hz0 hz1 hz2 w.heap.size w.heap.size _ _ (RowB.lit0 w) g a c xs (hr.up n0) hc (by simpa using hn) (Nat.le_refl _) n0.size
  rw [List.nil_append] at o2
  go_enter Tryd.func59, Tryd.ntmps59
  go_wp2_with (at_builtin; refine Lib.wpList_append_run _ rfl _ _ 22 22 rfl _ _ rfl rfl _ _ hap ?_)
  go_ret
  exact ⟨v', rfl, o2, n0.trans n2⟩
theorem l6Start_32 (w : World) : Calls Tryd.prog 66 #[] w fun e w' => e = .returned (ag8 .u32 start32) ∧ Below w.heap.size w w' := by
  have n0 : Below w.heap.size w (w.alloc (.cells #[.int .u32 0, .int .u32 0, .int .u32 0, .int .u32 0, .int .u32 0, .int .u32 0, .int .u32 0, .int .u32 0] 48)) := (Below.refl _ _).alloc (Nat.le_refl _) _
  have B0 := blk_ag8 w .u32 48 ⟨0, 0, 0, 0, 0, 0, 0, 0⟩
  simp only [] at B0
  go_enter Tryd.func66, Tryd.ntmps66
  go_upto_region 1 with fail
  generalize w.alloc (.cells #[.int .u32 0, .int .u32 0, .int .u32 0, .int .u32 0, .int .u32 0, .int .u32 0, .int .u32 0, .int .u32 0] 48) = wa at *
  have S0 := B0.setRow32 (zs := start32.l)
  have O0 := only_setRow32 wa w.heap.size (start32.l.map (Value.int .u32)).toArray
  obtain ⟨t0, H0⟩ := B0
  obtain ⟨t1, H1⟩ := S0
  go_wp2_with (refine wpList_store_row rfl 48 (.tmp 0) (.tmp 1) rfl w.heap.size (start32.l.map (Value.int .u32)).toArray rfl rfl t0 ((S8.l ⟨0, 0, 0, 0, 0, 0, 0, 0⟩).map (Value.int .u32)).toArray H0 i8_32 rfl (one_ints _ _) ?_)
  exact bodyPost_ret (v := .agg (start32.l.map (Value.int .u32)).toArray) (results_cell_row Tryd.results66 _ _ w.heap.size t1 _ (0, 0) (.array 8 47) rfl H1 u8_32 rfl i8_32) rfl ⟨rfl, n0.trans (O0.below (Nat.le_refl _))⟩

theorem rd_part {w : World} {g o : Nat} {xs : List Int} (h : Rd w g (some ⟨g, o, none⟩) .u8 xs) (t n : Nat) : Rd w g (some ⟨g, o + t, none⟩) .u8 ((xs.drop t).take n) := by
  intro h0
  rw [List.length_take, List.length_drop] at h0
  obtain ⟨o', e, hc⟩ := h (by omega)
  simp only [Option.some.injEq, Addr.mk.injEq, true_and, and_true] at e
  subst e
  refine ⟨o + t, rfl, fun i hi => ?_⟩
  rw [List.length_take, List.length_drop] at hi
  have := hc (t + i) (by omega)
  rw [List.getD_eq_getElem?_getD, List.getElem?_take, if_pos (by omega), List.getElem?_drop, ← List.getD_eq_getElem?_getD, Nat.add_assoc]
  exact this
theorem byt_part {xs : List Int} (h : Byt xs) (t n : Nat) : Byt ((xs.drop t).take n) := fun j => by
  rw [List.getD_eq_getElem?_getD, List.getElem?_take]
  split
  · rw [← List.getD_eq_getElem?_getD]
    exact byt_drop h t j
  · simp
set_option maxHeartbeats 4000000 in
theorem l6Whole_32 (w : World) (s : S8) (hs : Ok32 s) (g : Nat) (a : Option Addr) (c : Nat) (xs : List Int) (hr : Rd w g a .u8 xs) (hb : Byt xs) (hl : xs.length ≤ 2199023255552) (hc : xs.length ≤ c) :
    Calls Tryd.prog 65 #[ag8 .u32 s, .slice a xs.length c] w fun e w' => e = .returned (ag8 .u32 (whole32 s xs)) ∧ Below w.heap.size w w' := by
  have n0 : Below w.heap.size w (w.alloc (.cells #[.int .u32 s.a, .int .u32 s.b, .int .u32 s.c, .int .u32 s.d, .int .u32 s.e, .int .u32 s.f, .int .u32 s.g, .int .u32 s.h] 48)) := (Below.refl _ _).alloc (Nat.le_refl _) _
  have B0 := blk_ag8 w .u32 48 s
  have z0 : (w.alloc (.cells #[.int .u32 s.a, .int .u32 s.b, .int .u32 s.c, .int .u32 s.d, .int .u32 s.e, .int .u32 s.f, .int .u32 s.g, .int .u32 s.h] 48)).heap.size = w.heap.size + 1 := by simp
  obtain ⟨Wt, hWt⟩ : ∃ t, t = whole32 s xs := ⟨_, rfl⟩
  rw [← hWt]
  have HWt := hide hWt.symm
  clear hWt
  simp only [ag8]
  go_enter Tryd.func65, Tryd.ntmps65
  go_upto_region 1 with fail
  generalize w.alloc (.cells #[.int .u32 s.a, .int .u32 s.b, .int .u32 s.c, .int .u32 s.d, .int .u32 s.e, .int .u32 s.f, .int .u32 s.g, .int .u32 s.h] 48) = wa at *
  have n1 : Below wa.heap.size wa (wa.alloc (.cells #[.int .u32 0, .int .u32 0, .int .u32 0, .int .u32 0, .int .u32 0, .int .u32 0, .int .u32 0, .int .u32 0] 48)) := (Below.refl _ _).alloc (Nat.le_refl _) _
  have B1 := blk_ag8 wa .u32 48 ⟨0, 0, 0, 0, 0, 0, 0, 0⟩
  simp only [] at B1
  generalize wa.alloc (.cells #[.int .u32 0, .int .u32 0, .int .u32 0, .int .u32 0, .int .u32 0, .int .u32 0, .int .u32 0, .int .u32 0] 48) = wb at *
  have B0 := B0.up n1
  have N1 := nxt n0 n1
  have r1 := hr.up N1
  have gl : 0 < xs.length → g < w.heap.size := fun h => hr.lt h
  rw [z0] at B1
  clear n0 n1 z0
  go_wp2_with fail
  go_loopw [5] (fun i wr => ∃ (n : Nat) (C1 : S8), n ≤ xs.length ∧ i = .int .i64 n ∧ Ok32 C1 ∧ Hid (whole32 C1 (xs.drop n) = Wt) ∧ Blk wr w.heap.size .u32 C1.l ∧ Blk wr (w.heap.size + 1) .u32 (S8.l ⟨0, 0, 0, 0, 0, 0, 0, 0⟩) ∧ Rd wr g a .u8 xs ∧ Below w.heap.size w wr) (fun i _ => xs.length - (intOf i).toNat)
  case atStart => exact ⟨0, s, Nat.zero_le _, rfl, hs, HWt, B0, B1, r1, N1⟩
  case round =>
    obtain ⟨n, C1, hn, rfl, hC, hW, hB0, hB1, hX, hN⟩ := hrel
    clear B0 B1 r1 N1 HWt
    by_cases hlt : n + 64 ≤ xs.length
    · obtain ⟨o2, rfl, -⟩ := hX (by omega)
      have gl := gl (by omega)
      have bl : ((xs.drop n).take 64).length = 64 := by rw [List.length_take, List.length_drop]; omega
      have hW' : Hid (whole32 (blk32 C1 (wd 4 ((xs.drop n).take 64))) (xs.drop (n + 64)) = Wt) := by
        show _ = _
        rw [← hW.out]
        conv => rhs; rw [whole_eq32, if_neg (by rw [List.length_drop]; omega)]
        rw [blk_congr32 C1 (wd_take32 (xs.drop n)), List.drop_drop]
      obtain ⟨C2, hC2⟩ : ∃ t, t = blk32 C1 (wd 4 ((xs.drop n).take 64)) := ⟨_, rfl⟩
      have oC2 : Ok32 C2 := by rw [hC2]; exact blk_ok32 _ _
      have BK := fun W h => hide (l6Block_32 W C1 hC g (some ⟨g, o2 + n, none⟩) (c - n) ((xs.drop n).take 64) h (byt_part hb n 64) bl)
      rw [← hC2] at BK hW'
      have rp := fun W (h : Below wr.heap.size wr W) => rd_part (hX.up h) n 64
      generalize (xs.drop n).take 64 = bs at *
      obtain ⟨m, hm⟩ : ∃ m, m = xs.length := ⟨_, rfl⟩
      rw [← hm] at hlt hn hl hc ⊢
      have HM := hide hm
      have k1 : (n : Int) + 64 ≤ (m : Int) := by omega
      have k2 : (m : Int) ≤ (c : Int) := by omega
      have k3 : (n : Int) + 64 ≤ (c : Int) := by omega
      have k4 : IntKind.i64.wrap ((n : Int) + 64) = (n : Int) + 64 := by rw [IntKind.wrap_i64]; omega
      have k5 : ((n : Int) + 64).toNat = n + 64 := by omega
      have k6 : ¬ c = n := by omega
      have k7 : ¬ ((n : Int) + 64 < 0) := by omega
      clear hC2 hm bl hW
      go_upto_region 4 with fail
      refine region_putA 7 6 2 19 _ (fun i => [Fact.eq (ag8 .u32 C1), Fact.eq (.slice (some ⟨g, o2, none⟩) m c), Fact.eq (.int .i64 (n : Int)), Fact.eq (.int .i64 (n : Int)), Fact.eq (.int .i64 ((n : Int) + 64)), Fact.eq (.slice (some ⟨g, o2 + n, none⟩) 64 (c - n)), Fact.eq (ag8 .u32 C2)].getD i Fact.no) w.heap.size 0 48 (C2.l.map (Value.int .u32)) (by kernel_rfl) (by kernel_rfl) rfl rfl rfl (by kernel_rfl) rfl (by kernel_rfl) rfl ?_ i8_32 (one_ints _ _) ?_ ?_
      · intro W n j hj
        rw [List.length_map] at hj
        have h := (hB0.up n).cell (i := j) hj
        rw [Nat.zero_add]
        exact ⟨by rw [h]; rfl, (hB0.up n).free j⟩
      · skip
        intro i hi
        obtain rfl | rfl | rfl | rfl | rfl | rfl | rfl : i = 0 ∨ i = 1 ∨ i = 2 ∨ i = 3 ∨ i = 4 ∨ i = 5 ∨ i = 6 := by omega
        · refine step_load rfl 48 (.tmp 2) rfl (.array 8 47) 8 u8_32 rfl i8_32 fun a w hb hw hf => ⟨_, 0, C1.l.map (Value.int .u32), hb.2.2 2 (by kernel_rfl), Seg.range (Seg.blk (hB0.up hw)), by rw [List.length_map]; rfl, rfl⟩
        · refine step_pure rfl fun a w hb hw hf => ?_
          have e1 : a.tmps[1]?.getD undef = .slice (some ⟨g, o2, none⟩) m c := gdv (hb.2.2 1 (by kernel_rfl))
          exact ⟨.slice (some ⟨g, o2, none⟩) m c, by simp [go_sem, e1], rfl⟩
        · refine step_pure rfl fun a w hb hw hf => ?_
          have e5 : a.tmps[5]?.getD undef = .int .i64 (n : Int) := gdv (hb.2.2 5 (by kernel_rfl))
          exact ⟨.int .i64 (n : Int), by simp [go_sem, e5], rfl⟩
        · refine step_pure rfl fun a w hb hw hf => ?_
          have e5 : a.tmps[5]?.getD undef = .int .i64 (n : Int) := gdv (hb.2.2 5 (by kernel_rfl))
          exact ⟨.int .i64 (n : Int), by simp [go_sem, e5], rfl⟩
        · refine step_pure rfl fun a w hb hw hf => ?_
          have e16 : a.tmps[16]?.getD undef = .int .i64 (n : Int) := gdv (hf 3 16 (by kernel_rfl))
          exact ⟨.int .i64 ((n : Int) + 64), by simp [go_sem, e16, k4], rfl⟩
        · refine step_pure rfl fun a w hb hw hf => ?_
          have e14 : a.tmps[14]?.getD undef = .slice (some ⟨g, o2, none⟩) m c := gdv (hf 1 14 (by kernel_rfl))
          have e15 : a.tmps[15]?.getD undef = .int .i64 (n : Int) := gdv (hf 2 15 (by kernel_rfl))
          have e17 : a.tmps[17]?.getD undef = .int .i64 ((n : Int) + 64) := gdv (hf 4 17 (by kernel_rfl))
          exact ⟨.slice (some ⟨g, o2 + n, none⟩) 64 (c - n), by simp [go_sem, e14, e15, e17, k3, k5, k6, k7], rfl⟩
        · refine step_callv rfl 80 _ _ rfl (by kernel_rfl) fun a w hb hw hf => ?_
          have e13 : a.tmps.getD 13 undef = ag8 .u32 C1 := hf 0 13 (by kernel_rfl)
          have e18 : a.tmps.getD 18 undef = .slice (some ⟨g, o2 + n, none⟩) 64 (c - n) := hf 5 18 (by kernel_rfl)
          show Calls Tryd.prog 80 #[a.tmps.getD 13 undef, a.tmps.getD 18 undef] w _
          rw [e13, e18]
          exact (BK w (rp w hw)).out.mono (by rintro r w' ⟨rfl, n⟩; exact ⟨_, rfl, n, rfl⟩)
      intro vs6 W n6
      have SB : Blk (W.setCells w.heap.size 0 (C2.l.map (Value.int .u32))) w.heap.size .u32 C2.l := blk_set8 (hB0.up n6) C2
      have OB : Only w.heap.size W (W.setCells w.heap.size 0 (C2.l.map (Value.int .u32))) := only_set8 W w.heap.size .u32 C2
      have B12 := (hB1.up n6).of_block (OB.block _ (by omega))
      have X2 := (hX.up n6).of_block (OB.block _ (by omega))
      have N2 := (nxt hN n6).trans (OB.below (B := w.heap.size) (Nat.le_refl _))
      generalize W.setCells w.heap.size 0 (C2.l.map (Value.int .u32)) = w7 at *
      clear hB0 hB1 hX hN OB n6 rp BK
      simp only [puts, Act.put, List.setIfInBounds_toArray, List.set_cons_succ, List.set_cons_zero]
      go_wp2
      go_roundw
      case rel => exact ⟨n + 64, C2, by omega, by go_num, oC2, hW', SB, B12, X2, N2⟩
      case measure => have := HM.out; simp [intOf]; omega
    · have k1 : decide ((n : Int) + 64 ≤ (xs.length : Int)) = false := by simp; omega
      have e : C1 = Wt := by have := hW.out; rw [whole_short32 _ (by rw [List.length_drop]; omega)] at this; exact this
      subst e
      obtain ⟨t4, H4⟩ := hB0
      obtain ⟨t1, H1⟩ := id hB1
      have SR := setRow_heap wr (w.heap.size + 1) _ (C1.l.map (Value.int .u32)).toArray _ _ H1
      have SN := hN.trans ((only_setRow32 wr (w.heap.size + 1) (C1.l.map (Value.int .u32)).toArray).below (B := w.heap.size) (by omega))
      have P8 := one_ints .u32 C1.l
      go_wp2_with (first
        | (refine wpList_load_row rfl 48 (.tmp 2) rfl w.heap.size rfl t4 (C1.l.map (Value.int .u32)).toArray (0, 0) (.array 8 47) H4 u8_32 rfl i8_32 ?_)
        | (refine wpList_store_row rfl 48 (.tmp 4) (.tmp 20) rfl (w.heap.size + 1) (C1.l.map (Value.int .u32)).toArray rfl rfl t1 ((S8.l ⟨0, 0, 0, 0, 0, 0, 0, 0⟩).map (Value.int .u32)).toArray H1 i8_32 rfl P8 ?_))
      exact bodyPost_ret (v := .agg (C1.l.map (Value.int .u32)).toArray) (results_cell_row Tryd.results65 _ _ (w.heap.size + 1) t1 _ (0, 0) (.array 8 47) rfl SR u8_32 rfl i8_32) rfl ⟨rfl, SN⟩

/-- The first n words as bytes. -/
def tellP (s : S8) : Nat → List Int
  | 0 => []
  | n + 1 => tellP s n ++ bigL (s.l.getD n 0) 4
theorem tellP_len (s : S8) : ∀ n, (tellP s n).length = 4 * n
  | 0 => rfl
  | n + 1 => by rw [tellP, List.length_append, tellP_len s n, bigL_len]; omega
theorem tellP_all (s : S8) : tellP s 8 = tell32 s := by
  show ((((((([] ++ _) ++ _) ++ _) ++ _) ++ _) ++ _) ++ _) ++ _ = _
  unfold tell32
  simp only [List.nil_append, List.append_assoc]
  rfl
set_option maxHeartbeats 4000000 in
theorem l6Tell_32 (w : World) (s : S8) (hs : Ok32 s) :
    Calls Tryd.prog 64 #[ag8 .u32 s] w fun e w' => NewRow w.heap.size w' e .u8 (tell32 s) ∧ Below w.heap.size w w' := by
  obtain ⟨i0, hi, hz0, hz1, hz2⟩ := info_parts Tryd.info5
  have n0 : Below w.heap.size w (w.alloc (.cells #[.int .u32 s.a, .int .u32 s.b, .int .u32 s.c, .int .u32 s.d, .int .u32 s.e, .int .u32 s.f, .int .u32 s.g, .int .u32 s.h] 48)) := (Below.refl _ _).alloc (Nat.le_refl _) _
  have B0 := blk_ag8 w .u32 48 s
  have z0 : (w.alloc (.cells #[.int .u32 s.a, .int .u32 s.b, .int .u32 s.c, .int .u32 s.d, .int .u32 s.e, .int .u32 s.f, .int .u32 s.g, .int .u32 s.h] 48)).heap.size = w.heap.size + 1 := by simp
  have SW : ∀ p, p < 8 → Wd32 (s.l.getD p 0) := by
    obtain ⟨h1, h2, h3, h4, h5, h6, h7, h8⟩ := hs
    intro p hp
    obtain rfl | rfl | rfl | rfl | rfl | rfl | rfl | rfl : p = 0 ∨ p = 1 ∨ p = 2 ∨ p = 3 ∨ p = 4 ∨ p = 5 ∨ p = 6 ∨ p = 7 := by omega
    all_goals assumption
  simp only [ag8]
  go_enter Tryd.func64, Tryd.ntmps64
  go_upto_region 1 with fail
  generalize w.alloc (.cells #[.int .u32 s.a, .int .u32 s.b, .int .u32 s.c, .int .u32 s.d, .int .u32 s.e, .int .u32 s.f, .int .u32 s.g, .int .u32 s.h] 48) = wa at *
  have n1 : Below wa.heap.size wa (wa.alloc (.cells #[] 5)) := (Below.refl _ _).alloc (Nat.le_refl _) _
  have L0 := RowB.lit0 wa
  rw [z0] at L0
  have B0 := B0.up n1
  have N1 := nxt n0 n1
  have z1 : w.heap.size + 1 ≤ (wa.alloc (.cells #[] 5)).heap.size := by rw [← z0]; exact n1.size
  clear n0 n1
  go_wp2_with fail
  generalize wa.alloc (.cells #[] 5) = wb at *
  go_loopw [3, 4] (fun v i wr => ∃ (n : Nat), n ≤ 8 ∧ i = .int .i64 n ∧ RowB wr (w.heap.size + 1) v (tellP s n) ∧ Blk wr w.heap.size .u32 s.l ∧ w.heap.size + 1 ≤ wr.heap.size ∧ Below w.heap.size w wr) (fun _ i _ => 8 - (intOf i).toNat)
  case atStart => exact ⟨0, Nat.zero_le _, rfl, L0, B0, z1, N1⟩
  case round =>
    obtain ⟨n, hn, rfl, hV, hB, hz, hN⟩ := hrel
    clear L0 B0 N1 z0 z1
    by_cases hlt : n < 8
    · have cs := hB.cell (i := n) (by rw [S8.l_len]; exact hlt)
      have sw := SW n hlt
      have LL := hide (tellP_len s n)
      have TS : Hid (tellP s (n + 1) = tellP s n ++ bigL (s.l.getD n 0) 4) := rfl
      have n8 : (n : Int) < 8 := by omega
      have BL := hide (bigL_len (s.l.getD n 0) 4)
      obtain ⟨v0, v1⟩ := sw
      have BG := hide (l1Big_any wr (s.l.getD n 0) 4 v0 (by omega) (by decide))
      generalize bigL (s.l.getD n 0) 4 = bs at *
      generalize s.l.getD n 0 = sv at *
      go_wp2_with fail
      refine BG.out.mono ?_
      rintro r w1 ⟨rfl, B1, n1⟩
      have N1 := nxt hN n1
      have o1 := hV.up n1
      have zz := Nat.le_trans hz n1.size
      have hap := append_any (P := Tryd.prog) w1 22 i0 Tryd.underlying22 hi hz0 hz1 hz2 (w.heap.size + 1) (w.heap.size + 1) _ _ o1 _ _ 4 bs B1.own0.rd (by simp) (by rw [LL.out, BL.out]; omega) (Nat.le_refl _) zz
      rw [BL.out] at hap
      obtain ⟨v', w2, hap, o2, n2⟩ := hap
      have B2 := (hB.up n1).of_block (n2.block w.heap.size (by omega))
      have N2 : Below w.heap.size w w2 := N1.trans ⟨n2.os, n2.tape, n2.output, n2.size, fun k hk => n2.block k (by omega)⟩
      have z2 := Nat.le_trans zz n2.size
      rw [← TS.out] at o2
      clear BG hV o1 B1 n1 n2 N1 hB hN cs zz hz
      go_wp2_with (at_builtin; refine Lib.wpList_append_run _ rfl _ _ 22 22 rfl _ _ rfl rfl _ _ hap ?_)
      clear hap
      go_roundw
      case rel => exact ⟨n + 1, by omega, by go_num, o2, B2, z2, N2⟩
      case measure => simp [intOf]; omega
    · obtain rfl : n = 8 := by omega
      rw [tellP_all] at hV
      obtain ⟨a3, c3, g3, rfl, o3, p3, q3, r3⟩ := hV.own
      have TL := hide (tell_len32 s)
      rw [TL.out]
      go_wp2
      go_ret
      exact ⟨⟨a3, c3, g3, by rw [TL.out]; rfl, o3, p3, q3, by omega⟩, hN⟩

set_option maxHeartbeats 4000000 in
theorem specHash_32 (w : World) (g : Nat) (a : Option Addr) (c : Nat) (xs : List Int) (hr : Rd w g a .u8 xs) (hb : Byt xs) (hc : a = none → c = 0) (hn : xs.length ≤ 549755813888) :
    Calls Tryd.prog 50 #[.slice a xs.length c] w fun e w' => NewRow w.heap.size w' e .u8 (tell32 (whole32 start32 (xs ++ padL (xs.length : Int) 64 8))) ∧ Below w.heap.size w w' := by
  obtain ⟨i0, hi, hz0, hz1, hz2⟩ := info_parts Tryd.info5
  have PA : padA (xs.length : Int) 64 8 = padL (xs.length : Int) 64 8 := by unfold padA; rw [if_pos (by omega)]
  have PD := fun w => HashPad_any w (xs.length : Int) (by omega) (by omega)
  rw [PA] at PD
  have PB := padL_byt (xs.length : Int) 64 8
  have PL : (padL (xs.length : Int) 64 8).length ≤ 512 := by rw [padL_len]; have := padZ_lt (xs.length : Int) (B := 64) (t := 8) (by decide); omega
  generalize padL (xs.length : Int) 64 8 = pl at *
  have bA := byt_apd hb PB
  have lA : (xs ++ pl).length ≤ 2199023255552 := by rw [List.length_append]; omega
  have oW := whole_ok32 start_ok32 (xs ++ pl)
  obtain ⟨zs, hzs⟩ : ∃ z, z = xs ++ pl := ⟨_, rfl⟩
  obtain ⟨Wz, hWz⟩ : ∃ t, t = whole32 start32 zs := ⟨_, rfl⟩
  rw [← hzs] at bA lA oW ⊢
  have WH := fun w g a c h q => l6Whole_32 w start32 start_ok32 g a c zs h bA lA q
  rw [← hWz] at oW WH ⊢
  have HZ := hide hzs
  have WHH := fun w g a c h q => hide (WH w g a c h q)
  have CP := fun w h => hide (l1Copy_row w g a c xs h hc (by omega))
  have PDH := fun w => hide (PD w)
  clear hWz hzs WH PA PD
  have ST := fun w => hide (l6Start_32 w)
  generalize start32 = st at *
  go_enter Tryd.func50, Tryd.ntmps50
  go_wp2_with fail
  refine (ST w).out.mono ?_
  rintro r w1 ⟨rfl, n1⟩
  go_wp2_with fail
  refine (CP w1 (hr.up n1)).out.mono ?_
  rintro r w2 ⟨v2, rfl, o2, n2⟩
  have N2 := nxt n1 n2
  go_wp2_with fail
  refine (PDH w2).out.mono ?_
  rintro r w3 ⟨⟨a3, c3, g3, rfl, o3, p3, q3, r3⟩, n3⟩
  have N3 := nxt N2 n3
  have o2' := o2.up n3
  obtain ⟨v4, w4, hap, o4, n4⟩ := append_any (P := Tryd.prog) w3 22 i0 Tryd.underlying22 hi hz0 hz1 hz2 w1.heap.size w.heap.size _ _ o2' g3 a3 c3 pl o3.rd p3 (by omega) n1.size (Nat.le_trans n2.size n3.size)
  have N4 := N3.trans n4
  rw [← HZ.out] at o4
  obtain ⟨a5, c5, g5, rfl, o5, p5, q5, r5⟩ := o4.own
  clear o2 o2' o4 n2 n3 n4 N2 N3
  go_wp2_with (at_builtin; refine Lib.wpList_append_run _ rfl _ _ 22 22 rfl _ _ rfl rfl _ _ hap ?_)
  clear hap
  refine (WHH w4 g5 a5 c5 o5.rd q5).out.mono ?_
  rintro r w6 ⟨rfl, n6⟩
  have N6 := nxt N4 n6
  go_wp2_with fail
  refine (l6Tell_32 w6 Wz oW).mono ?_
  rintro r w7 ⟨⟨a7, c7, g7, rfl, o7, p7, q7, r7⟩, n7⟩
  have z6 := N6.size
  go_wp2
  go_ret
  exact ⟨⟨a7, c7, g7, rfl, o7, p7, q7, by omega⟩, nxt N6 n7⟩
end Go.Proofs.YtnfciobpfiibcaaDoor
