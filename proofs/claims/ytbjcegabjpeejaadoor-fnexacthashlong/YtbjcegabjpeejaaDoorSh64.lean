
/-
  The model's hash of 64 bits (written by gens/si.py).
-/
import Derived.Test.YtbjcegabjpeejaaDoorSb64
namespace Go.Proofs.YtbjcegabjpeejaaDoor
set_option maxRecDepth 100000
open Go Go.RowKit

theorem l1Copy_row (w : World) (g : Nat) (a : Option Addr) (c : Nat) (xs : List Int) (hr : Rd w g a .u8 xs) (hc : a = none → c = 0) (hn : xs.length ≤ 1099511627776) :
    Calls Tryd.prog 39 #[.slice a xs.length c] w fun e w' => ∃ v, e = .returned v ∧ RowB w' w.heap.size v xs ∧ Below w.heap.size w w' := by
  obtain ⟨i0, hi, hz0, hz1, hz2⟩ := info_parts Tryd.info5
  have n0 : Below w.heap.size w (w.alloc (.cells #[] 5)) := (Below.refl _ _).alloc (Nat.le_refl _) _
  obtain ⟨v', w2, hap, o2, n2⟩ := append_any (P := Tryd.prog) (w.alloc (.cells #[] 5)) 22 i0 Tryd.underlying22 hi hz0 hz1 hz2 w.heap.size w.heap.size _ _ (RowB.lit0 w) g a c xs (hr.up n0) hc (by simpa using hn) (Nat.le_refl _) n0.size
  rw [List.nil_append] at o2
  go_enter Tryd.func39, Tryd.ntmps39
  go_wp2_with (at_builtin; refine Lib.wpList_append_run _ rfl _ _ 22 22 rfl _ _ rfl rfl _ _ hap ?_)
  go_ret
  exact ⟨v', rfl, o2, n0.trans n2⟩
theorem l6Start_64 (w : World) : Calls Tryd.prog 41 #[] w fun e w' => e = .returned (ag8 .u64 start64) ∧ Below w.heap.size w w' := by
  have n0 : Below w.heap.size w (w.alloc (.cells #[.int .u64 0, .int .u64 0, .int .u64 0, .int .u64 0, .int .u64 0, .int .u64 0, .int .u64 0, .int .u64 0] 52)) := (Below.refl _ _).alloc (Nat.le_refl _) _
  have B0 := blk_ag8 w .u64 52 ⟨0, 0, 0, 0, 0, 0, 0, 0⟩
  simp only [] at B0
  go_enter Tryd.func41, Tryd.ntmps41
  go_upto_region 1 with fail
  generalize w.alloc (.cells #[.int .u64 0, .int .u64 0, .int .u64 0, .int .u64 0, .int .u64 0, .int .u64 0, .int .u64 0, .int .u64 0] 52) = wa at *
  have S0 := B0.setRow64 (zs := start64.l)
  have O0 := only_setRow64 wa w.heap.size (start64.l.map (Value.int .u64)).toArray
  obtain ⟨t0, H0⟩ := B0
  obtain ⟨t1, H1⟩ := S0
  go_wp2_with (refine wpList_store_row rfl 52 (.tmp 0) (.tmp 1) rfl w.heap.size (start64.l.map (Value.int .u64)).toArray rfl rfl t0 ((S8.l ⟨0, 0, 0, 0, 0, 0, 0, 0⟩).map (Value.int .u64)).toArray H0 i8_64 rfl (one_ints _ _) ?_)
  exact bodyPost_ret (v := .agg (start64.l.map (Value.int .u64)).toArray) (results_cell_row Tryd.results41 _ _ w.heap.size t1 _ (0, 0) (.array 8 51) rfl H1 u8_64 rfl i8_64) rfl ⟨rfl, n0.trans (O0.below (Nat.le_refl _))⟩

theorem rd_part {w : World} {g o : Nat} {xs : List Int} (h : Rd w g (some ⟨g, o, none⟩) .u8 xs) (t n : Nat) : Rd w g (some ⟨g, o + t, none⟩) .u8 ((xs.drop t).take n) := by
  intro h0
  rw [List.length_take, List.length_drop] at h0
  obtain ⟨o', e, hc⟩ := h (by omega)
  simp only [Option.some.injEq, Addr.mk.injEq, true_and, and_true] at e
  subst e
  refine ⟨o + t, rfl, fun i hi => ?_⟩
  rw [List.length_take, List.length_drop] at hi
  have := hc (t + i) (by omega)
  rw [List.getD_eq_getElem?_getD, List.getElem?_take, if_pos (by omega), List.getElem?_drop, ← List.getD_eq_getElem?_getD, Nat.add_assoc]
  exact this
theorem byt_part {xs : List Int} (h : Byt xs) (t n : Nat) : Byt ((xs.drop t).take n) := fun j => by
  rw [List.getD_eq_getElem?_getD, List.getElem?_take]
  split
  · rw [← List.getD_eq_getElem?_getD]
    exact byt_drop h t j
  · simp

/-- The first n words as bytes. -/
def tellQ (s : S8) : Nat → List Int
  | 0 => []
  | n + 1 => tellQ s n ++ bigL (s.l.getD n 0) 8
theorem tellQ_len (s : S8) : ∀ n, (tellQ s n).length = 8 * n
  | 0 => rfl
  | n + 1 => by rw [tellQ, List.length_append, tellQ_len s n, bigL_len]; omega
theorem tellQ_all (s : S8) : tellQ s 8 = tell64 s := by
  show ((((((([] ++ _) ++ _) ++ _) ++ _) ++ _) ++ _) ++ _) ++ _ = _
  unfold tell64
  simp only [List.nil_append, List.append_assoc]
  rfl
theorem take_snoc {l : List Int} {m : Nat} (h : m < l.length) : l.take (m + 1) = l.take m ++ [l.getD m 0] := by
  rw [List.take_add_one, List.getD_eq_getElem?_getD, List.getElem?_eq_getElem h]
  rfl
set_option maxHeartbeats 8000000 in
theorem specHash_64 (w : World) (g : Nat) (a : Option Addr) (c : Nat) (xs : List Int) (hr : Rd w g a .u8 xs) (hb : Byt xs) (hc : a = none → c = 0) (hn : xs.length ≤ 549755813888) :
    Calls Tryd.prog 15 #[.slice a xs.length c] w fun e w' => NewRow w.heap.size w' e .u8 (tell64 (whole64 start64 (xs ++ padL (xs.length : Int) 128 16))) ∧ Below w.heap.size w w' := by
  obtain ⟨i0, hi, hz0, hz1, hz2'⟩ := info_parts Tryd.info5
  have PA : padA (xs.length : Int) 128 16 = padL (xs.length : Int) 128 16 := by unfold padA; rw [if_pos (by omega)]
  have PD := fun w => LongPad_any w (xs.length : Int) (by omega) (by omega)
  rw [PA] at PD
  have PB := padL_byt (xs.length : Int) 128 16
  have PL : (padL (xs.length : Int) 128 16).length ≤ 512 := by rw [padL_len]; have := padZ_lt (xs.length : Int) (B := 128) (t := 16) (by decide); omega
  generalize padL (xs.length : Int) 128 16 = pl at *
  have bA := byt_apd hb PB
  have lA : (xs ++ pl).length ≤ 2199023255552 := by rw [List.length_append]; omega
  obtain ⟨zs, hzs⟩ : ∃ z, z = xs ++ pl := ⟨_, rfl⟩
  obtain ⟨Wt, hWt⟩ : ∃ t, t = whole64 start64 zs := ⟨_, rfl⟩
  rw [← hzs] at bA lA ⊢
  have oW : Ok64 Wt := by rw [hWt]; exact whole_ok64 start_ok64 zs
  rw [← hWt]
  have HZ := hide hzs
  have HW : Hid (whole64 start64 (zs.drop 0) = Wt) := by show _ = _; rw [List.drop_zero, hWt]
  have CP := fun w h => hide (l1Copy_row w g a c xs h hc (by omega))
  have PDH := fun w => hide (PD w)
  have ST := fun w => hide (l6Start_64 w)
  clear hWt hzs PA PD
  go_enter Tryd.func15, Tryd.ntmps15
  go_wp2_with fail
  refine (CP w hr).out.mono ?_
  rintro r w2 ⟨v2, rfl, o2, n2⟩
  go_wp2_with fail
  refine (PDH w2).out.mono ?_
  rintro r w3 ⟨⟨a3, c3, g3, rfl, o3, p3, q3, r3⟩, n3⟩
  have N3 := nxt n2 n3
  have o2' := o2.up n3
  obtain ⟨v4, w4, hap, o4, n4⟩ := append_any (P := Tryd.prog) w3 22 i0 Tryd.underlying22 hi hz0 hz1 hz2' w.heap.size w.heap.size _ _ o2' g3 a3 c3 pl o3.rd p3 (by omega) (Nat.le_refl _) N3.size
  have N4 := N3.trans n4
  rw [← HZ.out] at o4
  obtain ⟨a5, c5, g5, rfl, o5, p5, q5, r5⟩ := o4.own
  clear o2 o2' o4 n2 n3 n4 N3 CP PDH HZ
  go_wp2_with (at_builtin; refine Lib.wpList_append_run _ rfl _ _ 22 22 rfl _ _ rfl rfl _ _ hap ?_)
  clear hap
  refine (ST w4).out.mono ?_
  rintro r w6 ⟨rfl, n6⟩
  have N6 := nxt N4 n6
  have o6 := o5.up n6
  obtain ⟨q4, hq4⟩ : ∃ q, q = w6.heap.size := ⟨_, rfl⟩
  have gl : 0 < zs.length → g5 < q4 := fun h => by rw [hq4]; exact o6.rd.lt h
  have na : Below w6.heap.size w6 (w6.alloc (.cells #[.int .u64 0, .int .u64 0, .int .u64 0, .int .u64 0, .int .u64 0, .int .u64 0, .int .u64 0, .int .u64 0] 52)) := (Below.refl _ _).alloc (Nat.le_refl _) _
  have BZ := blk_ag8 w6 .u64 52 ⟨0, 0, 0, 0, 0, 0, 0, 0⟩
  simp only [] at BZ
  have OS := only_setRow64 (w6.alloc (.cells #[.int .u64 0, .int .u64 0, .int .u64 0, .int .u64 0, .int .u64 0, .int .u64 0, .int .u64 0, .int .u64 0] 52)) w6.heap.size (start64.l.map (Value.int .u64)).toArray
  have SB := BZ.setRow64 (zs := start64.l)
  have z6 := N6.size
  have N7 : Below w.heap.size w ((w6.alloc (.cells #[.int .u64 0, .int .u64 0, .int .u64 0, .int .u64 0, .int .u64 0, .int .u64 0, .int .u64 0, .int .u64 0] 52)).setRow w6.heap.size (start64.l.map (Value.int .u64)).toArray) := (nxt N6 na).trans (OS.below z6)
  have X7 : Rd ((w6.alloc (.cells #[.int .u64 0, .int .u64 0, .int .u64 0, .int .u64 0, .int .u64 0, .int .u64 0, .int .u64 0, .int .u64 0] 52)).setRow w6.heap.size (start64.l.map (Value.int .u64)).toArray) g5 a5 .u8 zs := by
    by_cases h : 0 < zs.length
    · exact ((o6.rd).up na).of_block (OS.block _ (by have := gl h; omega))
    · exact fun h1 => absurd h1 h
  obtain ⟨t4, H4⟩ := id BZ
  go_wp2_with (refine wpList_store_row rfl 52 (.tmp 4) (.tmp 15) rfl w6.heap.size (start64.l.map (Value.int .u64)).toArray rfl rfl t4 ((S8.l ⟨0, 0, 0, 0, 0, 0, 0, 0⟩).map (Value.int .u64)).toArray H4 i8_64 rfl (one_ints _ _) ?_)
  generalize (w6.alloc (.cells #[.int .u64 0, .int .u64 0, .int .u64 0, .int .u64 0, .int .u64 0, .int .u64 0, .int .u64 0, .int .u64 0] 52)).setRow w6.heap.size (start64.l.map (Value.int .u64)).toArray = w7 at *
  rw [← hq4] at SB ⊢
  have qw : w.heap.size ≤ q4 := by omega
  clear na BZ OS H4 o6 n6 N6 N4 o5 z6 hq4 ST
  go_loopw [5] (fun i wr => ∃ (n : Nat) (C1 : S8), n ≤ zs.length ∧ i = .int .i64 n ∧ Ok64 C1 ∧ Hid (whole64 C1 (zs.drop n) = Wt) ∧ Blk wr q4 .u64 C1.l ∧ Rd wr g5 a5 .u8 zs ∧ Below w.heap.size w wr) (fun i _ => zs.length - (intOf i).toNat)
  case atStart => exact ⟨0, start64, Nat.zero_le _, rfl, start_ok64, HW, SB, X7, N7⟩
  case round =>
    obtain ⟨n, C1, hn1, rfl, hC, hW, hB0, hX, hN⟩ := hrel
    clear SB X7 N7 HW
    by_cases hlt : n + 128 ≤ zs.length
    · obtain ⟨o2, rfl, -⟩ := hX (by omega)
      have gl := gl (by omega)
      have bl : ((zs.drop n).take 128).length = 128 := by rw [List.length_take, List.length_drop]; omega
      have hW' : Hid (whole64 (blk64 C1 (wd 8 ((zs.drop n).take 128))) (zs.drop (n + 128)) = Wt) := by
        show _ = _
        rw [← hW.out]
        conv => rhs; rw [whole_eq64, if_neg (by rw [List.length_drop]; omega)]
        rw [blk_congr64 C1 (wd_take64 (zs.drop n)), List.drop_drop]
      obtain ⟨C2, hC2⟩ : ∃ t, t = blk64 C1 (wd 8 ((zs.drop n).take 128)) := ⟨_, rfl⟩
      have oC2 : Ok64 C2 := by rw [hC2]; exact blk_ok64 _ _
      have BK := fun W h => hide (l6Block_64 W C1 hC g5 (some ⟨g5, o2 + n, none⟩) (c5 - n) ((zs.drop n).take 128) h (byt_part bA n 128) bl)
      rw [← hC2] at BK hW'
      have rp := fun W (h : Below wr.heap.size wr W) => rd_part (hX.up h) n 128
      generalize (zs.drop n).take 128 = bs at *
      obtain ⟨m, hm⟩ : ∃ m, m = zs.length := ⟨_, rfl⟩
      rw [← hm] at hlt hn1 lA q5 ⊢
      have HM := hide hm
      have k3 : (n : Int) + 128 ≤ (c5 : Int) := by omega
      have k1 : (n : Int) + 128 ≤ (m : Int) := by omega
      have k4 : IntKind.i64.wrap ((n : Int) + 128) = (n : Int) + 128 := by rw [IntKind.wrap_i64]; omega
      have k5 : ((n : Int) + 128).toNat = n + 128 := by omega
      have k6 : ¬ c5 = n := by omega
      have k7 : ¬ ((n : Int) + 128 < 0) := by omega
      clear hC2 hm bl hW
      go_upto_region 6 with fail
      refine region_putA 7 6 4 29 _ (fun i => [Fact.eq (ag8 .u64 C1), Fact.eq (.slice (some ⟨g5, o2, none⟩) m c5), Fact.eq (.int .i64 (n : Int)), Fact.eq (.int .i64 (n : Int)), Fact.eq (.int .i64 ((n : Int) + 128)), Fact.eq (.slice (some ⟨g5, o2 + n, none⟩) 128 (c5 - n)), Fact.eq (ag8 .u64 C2)].getD i Fact.no) q4 0 52 (C2.l.map (Value.int .u64)) (by kernel_rfl) (by kernel_rfl) rfl rfl rfl (by kernel_rfl) rfl (by kernel_rfl) rfl ?_ i8_64 (one_ints _ _) ?_ ?_
      · intro W n j hj
        rw [List.length_map] at hj
        have h := (hB0.up n).cell (i := j) hj
        rw [Nat.zero_add]
        exact ⟨by rw [h]; rfl, (hB0.up n).free j⟩
      · skip
        intro i hi
        obtain rfl | rfl | rfl | rfl | rfl | rfl | rfl : i = 0 ∨ i = 1 ∨ i = 2 ∨ i = 3 ∨ i = 4 ∨ i = 5 ∨ i = 6 := by omega
        · refine step_load rfl 52 (.tmp 4) rfl (.array 8 51) 8 u8_64 rfl i8_64 fun a w hb hw hf => ⟨_, 0, C1.l.map (Value.int .u64), hb.2.2 4 (by kernel_rfl), Seg.range (Seg.blk (hB0.up hw)), by rw [List.length_map]; rfl, rfl⟩
        · refine step_pure rfl fun a w hb hw hf => ?_
          have e3 : a.tmps[3]?.getD undef = .slice (some ⟨g5, o2, none⟩) m c5 := gdv (hb.2.2 3 (by kernel_rfl))
          exact ⟨.slice (some ⟨g5, o2, none⟩) m c5, by simp [go_sem, e3], rfl⟩
        · refine step_pure rfl fun a w hb hw hf => ?_
          have e5 : a.tmps[5]?.getD undef = .int .i64 (n : Int) := gdv (hb.2.2 5 (by kernel_rfl))
          exact ⟨.int .i64 (n : Int), by simp [go_sem, e5], rfl⟩
        · refine step_pure rfl fun a w hb hw hf => ?_
          have e5 : a.tmps[5]?.getD undef = .int .i64 (n : Int) := gdv (hb.2.2 5 (by kernel_rfl))
          exact ⟨.int .i64 (n : Int), by simp [go_sem, e5], rfl⟩
        · refine step_pure rfl fun a w hb hw hf => ?_
          have e26 : a.tmps[26]?.getD undef = .int .i64 (n : Int) := gdv (hf 3 26 (by kernel_rfl))
          exact ⟨.int .i64 ((n : Int) + 128), by simp [go_sem, e26, k4], rfl⟩
        · refine step_pure rfl fun a w hb hw hf => ?_
          have e24 : a.tmps[24]?.getD undef = .slice (some ⟨g5, o2, none⟩) m c5 := gdv (hf 1 24 (by kernel_rfl))
          have e25 : a.tmps[25]?.getD undef = .int .i64 (n : Int) := gdv (hf 2 25 (by kernel_rfl))
          have e27 : a.tmps[27]?.getD undef = .int .i64 ((n : Int) + 128) := gdv (hf 4 27 (by kernel_rfl))
          exact ⟨.slice (some ⟨g5, o2 + n, none⟩) 128 (c5 - n), by simp [go_sem, e24, e25, e27, k3, k5, k6, k7], rfl⟩
        · refine step_callv rfl 42 _ _ rfl (by kernel_rfl) fun a w hb hw hf => ?_
          have e23 : a.tmps.getD 23 undef = ag8 .u64 C1 := hf 0 23 (by kernel_rfl)
          have e28 : a.tmps.getD 28 undef = .slice (some ⟨g5, o2 + n, none⟩) 128 (c5 - n) := hf 5 28 (by kernel_rfl)
          show Calls Tryd.prog 42 #[a.tmps.getD 23 undef, a.tmps.getD 28 undef] w _
          rw [e23, e28]
          exact (BK w (rp w hw)).out.mono (by rintro r w' ⟨rfl, n⟩; exact ⟨_, rfl, n, rfl⟩)
      intro vs6 W n6
      have SB : Blk (W.setCells q4 0 (C2.l.map (Value.int .u64))) q4 .u64 C2.l := blk_set8 (hB0.up n6) C2
      have OB : Only q4 W (W.setCells q4 0 (C2.l.map (Value.int .u64))) := only_set8 W q4 .u64 C2
      have X2 := (hX.up n6).of_block (OB.block _ (by omega))
      have N2 := (nxt hN n6).trans (OB.below (B := w.heap.size) qw)
      generalize W.setCells q4 0 (C2.l.map (Value.int .u64)) = w8 at *
      clear hB0 hX hN OB n6 rp BK
      simp only [puts, Act.put, List.setIfInBounds_toArray, List.set_cons_succ, List.set_cons_zero]
      go_wp2
      go_roundw
      case rel => exact ⟨n + 128, C2, by omega, by go_num, oC2, hW', SB, X2, N2⟩
      case measure => have := HM.out; simp [intOf]; omega
    · have k1 : decide ((n : Int) + 128 ≤ (zs.length : Int)) = false := by simp; omega
      have e : C1 = Wt := by have := hW.out; rw [whole_short64 _ (by rw [List.length_drop]; omega)] at this; exact this
      subst e
      have lB := hB0.lt
      have n1 : Below wr.heap.size wr (wr.alloc (.cells #[] 5)) := (Below.refl _ _).alloc (Nat.le_refl _) _
      have L0 := (RowB.lit0 wr).base (base' := q4 + 1) (by omega)
      have B0 := hB0.up n1
      have N1 := nxt hN n1
      have z1 : q4 + 1 ≤ (wr.alloc (.cells #[] 5)).heap.size := by simp; omega
      have SW : ∀ p, p < 8 → Wd64 (C1.l.getD p 0) := by
        obtain ⟨h1, h2, h3, h4, h5, h6, h7, h8⟩ := oW
        intro p hp
        obtain rfl | rfl | rfl | rfl | rfl | rfl | rfl | rfl : p = 0 ∨ p = 1 ∨ p = 2 ∨ p = 3 ∨ p = 4 ∨ p = 5 ∨ p = 6 ∨ p = 7 := by omega
        all_goals assumption
      clear hB0 hX hN n1 hW hC
      go_wp2_with fail
      generalize wr.alloc (.cells #[] 5) = wb at *
      go_loopw [6, 7] (fun v i wr => ∃ (n : Nat), n ≤ 8 ∧ i = .int .i64 n ∧ RowB wr (q4 + 1) v (tellQ C1 n) ∧ Blk wr q4 .u64 C1.l ∧ q4 + 1 ≤ wr.heap.size ∧ Below w.heap.size w wr) (fun _ i _ => 8 - (intOf i).toNat)
      case atStart => exact ⟨0, Nat.zero_le _, rfl, L0, B0, z1, N1⟩
      case round =>
        obtain ⟨n, hn2, rfl, hV, hB, hz, hN⟩ := hrel
        clear L0 B0 N1 z1
        by_cases hlt8 : n < 8
        · have sw := SW n hlt8
          have n8 : (n : Int) < 8 := by omega
          have TS : Hid (tellQ C1 (n + 1) = tellQ C1 n ++ bigL (C1.l.getD n 0) 8) := rfl
          have LQ := hide (tellQ_len C1 n)
          go_wp2_with fail
          go_loopw [6, 8] (fun v i wr => ∃ (m : Nat), m ≤ 8 ∧ i = .int .i64 m ∧ RowB wr (q4 + 1) v (tellQ C1 n ++ (bigL (C1.l.getD n 0) 8).take m) ∧ Blk wr q4 .u64 C1.l ∧ q4 + 1 ≤ wr.heap.size ∧ Below w.heap.size w wr) (fun _ i _ => 8 - (intOf i).toNat)
          case atStart => exact ⟨0, Nat.zero_le _, rfl, by rw [List.take_zero, List.append_nil]; exact hV, hB, hz, hN⟩
          case round =>
            obtain ⟨m, hm, rfl, hV2, hB2, hz2, hN2⟩ := hrel
            clear hV hB hz hN
            by_cases hl8 : m < 8
            · have cs := hB2.cell (i := n) (by rw [S8.l_len]; exact hlt8)
              have tk := take_snoc (l := bigL (C1.l.getD n 0) 8) (m := m) (by rw [bigL_len]; exact hl8)
              have bg : (bigL (C1.l.getD n 0) 8).getD m 0 = C1.l.getD n 0 / 2 ^ (56 - 8 * m) % 256 := by rw [bigL_get _ _ _ hl8, p256_two, show 8 * (8 - 1 - m) = 56 - 8 * m by omega]
              have bw : 0 ≤ C1.l.getD n 0 / 2 ^ (56 - 8 * m) % 256 ∧ C1.l.getD n 0 / 2 ^ (56 - 8 * m) % 256 < 256 := by omega
              have d1 : (56 : Int) - 8 * (m : Int) = ((56 - 8 * m : Nat) : Int) := by omega
              have d2 : 56 - 8 * m ≤ 56 := by omega
              have d3 : (m : Int) < 8 := by omega
              have tL : ((bigL (C1.l.getD n 0) 8).take m).length ≤ 8 := by rw [List.length_take]; omega
              obtain ⟨v0, v1⟩ := sw
              rw [bg] at tk
              obtain ⟨ll, hll⟩ : ∃ l, l = tellQ C1 n ++ (bigL (C1.l.getD n 0) 8).take m := ⟨_, rfl⟩
              have lll : ll.length ≤ 72 := by rw [hll, List.length_append, LQ.out]; omega
              have HL2 : Hid (tellQ C1 n ++ (bigL (C1.l.getD n 0) 8).take (m + 1) = ll ++ [C1.l.getD n 0 / 2 ^ (56 - 8 * m) % 256]) := by show _ = _; rw [tk, hll, List.append_assoc]
              rw [← hll] at hV2
              clear hll bg tk tL
              generalize 56 - 8 * m = sh at *
              generalize C1.l.getD n 0 = sv at *
              generalize hbt : sv / 2 ^ sh % 256 = bt at *
              have na : Below wr.heap.size wr (wr.alloc (.cells #[.int .u8 bt] 5)) := (Below.refl _ _).alloc (Nat.le_refl _) _
              have za := Nat.le_trans hz2 na.size
              have o1 := hV2.up na
              have B1 := blk_lit1 wr .u8 5 bt
              obtain ⟨v', w2, hap, o2, n2⟩ := append_any (P := Tryd.prog) (wr.alloc (.cells #[.int .u8 bt] 5)) 22 i0 Tryd.underlying22 hi hz0 hz1 hz2' (q4 + 1) (q4 + 1) _ _ o1 _ _ 1 [bt] B1.own0.rd (by simp) (by simp; omega) (Nat.le_refl _) za
              have B2 := (hB2.up na).of_block (n2.block q4 (by omega))
              have N2 : Below w.heap.size w w2 := (nxt hN2 na).trans ⟨n2.os, n2.tape, n2.output, n2.size, fun k hk => n2.block k (by omega)⟩
              have z2 := Nat.le_trans za n2.size
              rw [← HL2.out] at o2
              clear hV2 o1 B1 n2 hB2 hN2 na za hz2
              go_wp2_with (at_builtin; refine Lib.wpList_append_run _ rfl _ _ 22 22 rfl _ _ rfl rfl _ _ hap ?_)
              clear hap
              go_roundw
              case rel => exact ⟨m + 1, by omega, by go_num, o2, B2, z2, N2⟩
              case measure => simp [intOf]; omega
            · obtain rfl : m = 8 := by omega
              rw [List.take_of_length_le (by rw [bigL_len]; exact Nat.le_refl _), ← TS.out] at hV2
              go_wp2
              go_roundw
              case rel => exact ⟨n + 1, by omega, by go_num, hV2, hB2, hz2, hN2⟩
              case measure => simp [intOf]; omega
        · obtain rfl : n = 8 := by omega
          rw [tellQ_all] at hV
          obtain ⟨a9, c9, g9, rfl, o9, p9, q9, r9⟩ := hV.own
          have TL := hide (tell_len64 C1)
          rw [TL.out]
          go_wp2
          go_ret
          exact ⟨⟨a9, c9, g9, by rw [TL.out]; rfl, o9, p9, q9, by omega⟩, hN⟩
end Go.Proofs.YtbjcegabjpeejaaDoor
