import Derived.Test.YtkpomobhjkikeaaGreatDoorSS48
import Derived.Test.YtkpomobhjkikeaaGreatDoorSS41
import Derived.Test.YtkpomobhjkikeaaGreatDoorSS47
import Derived.Test.YtkpomobhjkikeaaGreatDoorSS49
import Derived.Test.YtkpomobhjkikeaaGreatDoorSS50
import Derived.Test.YtkpomobhjkikeaaGreatDoorSS26
import Derived.BigQuiet
import Derived.Test.YtkpomobhjkikeaaGreatDoorSS46
import Derived.Test.YtkpomobhjkikeaaGreatDoorSS32
import Derived.Test.YtkpomobhjkikeaaGreatDoorSS43
import Derived.Test.YtkpomobhjkikeaaGreatDoorSS42
import Derived.Deep.RegionHeld3
namespace Go.Proofs.YtkpomobhjkikeaaGreatDoor
set_option maxRecDepth 100000
open Go.RowKit
theorem canon_pos {ys : List Int} {v : Int} (h : Canon ys v) : 0 < ys.length ↔ 0 < v := by
  constructor
  · intro h0
    have := h.ge h0
    have hp := p256_pos (ys.length - 1)
    omega
  · intro hv
    by_cases e : ys.length = 0
    · have : ys = [] := List.eq_nil_of_length_eq_zero e
      subst this
      have := h.2.1
      rw [bval_nil] at this
      omega
    · omega
theorem But.up {g : Nat} {a b c : World} (h : But g a b) (n : Below b.heap.size b c) : But g a c := h.trans (But.ofBelow n)
theorem dig_bytes {xs : List Int} (h : Byt xs) (n : Nat) : Byt (fill (dig xs) n) := by
  intro i
  by_cases hi : i < n
  · rw [fill_get _ _ _ hi]; have := dig_byt h i; omega
  · rw [List.getD_eq_getElem?_getD, List.getElem?_eq_none (by rw [fill_len]; omega)]; simp
theorem byt_fill {f : Nat → Int} (h : ∀ i, 0 ≤ f i ∧ f i < 256) (n : Nat) : Byt (fill f n) := by
  intro i
  by_cases hi : i < n
  · rw [fill_get _ _ _ hi]; exact h i
  · rw [List.getD_eq_getElem?_getD, List.getElem?_eq_none (by rw [fill_len]; omega)]; simp
def SrcTo (w : World) (s : Nat) (a : Option Addr) (n c : Nat) (m : Int) : Prop := ∃ t, 0 ≤ t ∧ t ≤ m ∧ Src w s a n c t
set_option maxHeartbeats 4000000 in
theorem l2DrawT_any (w : World) (s g : Nat) (a : Option Addr) (c : Nat) (xs : List Int) (t : Int) (t0 : 0 ≤ t) (t1 : t ≤ 10000) (hs : Src w s a xs.length c t) (hr : Rd w g a .u8 xs) (hne : 0 < xs.length → g ≠ s) (hb : Byt xs) (hl : xs.length ≤ 1048576) :
    Calls Tryz.prog 31 #[.pointer (some ⟨s, 0, none⟩)] w fun e w' => ∃ ys, Byt ys ∧ ys.length ≤ 64 ∧ NewRow w.heap.size w' e .u8 ys ∧ But s w w' ∧ SrcTo w' s a xs.length c (t + 200) := by
  obtain ⟨i0, hi, hz0, hz1, hz2⟩ := info_parts Tryz.info5
  have sl := hs.lt
  have NX := l1Next_any6 w s g a c xs t 10 hs hr hne hb hl (by omega) (by omega) (by decide) (by decide)
  go_enter Tryz.func31, Tryz.ntmps31
  go_wp2_with fail
  refine NX.mono ?_
  rintro e w1 ⟨r, rfl, ⟨r0, r1⟩, S1, O1⟩
  have N1 : But s w w1 := But.ofOnly O1
  have hr1 := hr.but N1 hne
  have z1 := hide O1.size
  clear NX
  rcases (show r = 0 ∨ r = 1 ∨ r = 2 ∨ r = 3 ∨ r = 4 ∨ 5 ≤ r by omega) with rfl | rfl | rfl | rfl | rfl | h5
  · go_wp2_with fail
    refine (l1Next_any6 w1 s g a c xs (t + 1) 40 S1 hr1 hne hb hl (by omega) (by omega) (by decide) (by decide)).mono ?_
    rintro e w2 ⟨v, rfl, ⟨v0, v1⟩, S2, O2⟩
    go_wp2_with fail
    refine (l1Int_any6 w2 v v0 (by omega)).mono ?_
    rintro e w3 ⟨i1, il, ib, ⟨ai, ci, gi, rfl, oi, pi, qi, ri⟩, n3⟩
    go_wp2_with fail
    refine (l1Little_any w3 gi ai ci i1 32 oi.rd ib (by omega) (by omega)).mono ?_
    rintro e w4 ⟨rfl, B4, n4⟩
    have N4 := ((N1.only O2).up n3).up n4
    have z := ((N1.only O2).up n3).size
    go_wp2
    go_ret
    exact ⟨_, dig_bytes ib 32, by rw [fill_len]; omega, ⟨_, 32, w3.heap.size, by rw [fill_len]; rfl, B4.own0, by simp, by rw [fill_len]; omega, z⟩, N4, ⟨_, by omega, by omega, (S2.up n3).up n4⟩⟩
  · go_wp2_with fail
    refine (l2Prime_any w1).mono ?_
    rintro e w2 ⟨rfl, B2, n2⟩
    have nB : Below w2.heap.size w2 (w2.alloc (.cells #[.int .u8 20] 5)) := (Below.refl _ _).alloc (Nat.le_refl _) _
    have BB : Blk (w2.alloc (.cells #[.int .u8 20] 5)) w2.heap.size .u8 [20] := ⟨5, by rw [heap_alloc_last]; rfl⟩
    have hb20 : Byt [20] := fun i => by
      match i with
      | 0 => decide
      | i + 1 => simp
    go_wp2_with fail
    generalize w2.alloc (.cells #[.int .u8 20] 5) = wB at *
    refine (l1Add_any wB _ _ _ _ 32 1 pbytes [20] (B2.up nB).own0.rd BB.own0.rd pbytes_byt hb20 (by decide) (by decide)).mono ?_
    rintro e w3 ⟨y3, C3, ⟨a3, c3, g3, rfl, o3, p3, q3, r3⟩, n3⟩
    rw [pbytes_val] at C3
    have N3 := ((N1.up n2).up nB).up n3
    have hz3 : w.heap.size ≤ w2.heap.size := (N1.up n2).size
    have S3 := ((S1.up n2).up nB).up n3
    have hg3 : w.heap.size ≤ g3 := by have := nB.size; omega
    clear B2 BB
    go_wp2_with fail
    refine (l1Next_any6 w3 s g a c xs (t + 1) 40 S3 (hr.but N3 hne) hne hb hl (by omega) (by omega) (by decide) (by decide)).mono ?_
    rintro e w4 ⟨v, rfl, ⟨v0, v1⟩, S4, O4⟩
    have o3a := o3.only O4 (fun _ => by omega)
    have N4 := N3.only O4
    go_wp2_with fail
    refine (l1Int_any6 w4 v v0 (by omega)).mono ?_
    rintro e w5 ⟨i1, il, ib, ⟨ai, ci, gi, rfl, oi, pi, qi, ri⟩, n5⟩
    have o3b := o3a.up n5
    have N5 := N4.up n5
    go_wp2_with fail
    have V : Hid (bval i1 ≤ bval y3) := by
      show _ ≤ _
      have h1 : bval i1 < 256 := by
        have := bval_lt ib
        have hp : (256 : Int) ^ i1.length ≤ 256 ^ 1 := p256_le il
        have : (256 : Int) ^ 1 = 256 := by decide
        omega
      rw [C3.2.1]
      have : bval [20] = 20 := rfl
      have : (0 : Int) ≤ PP - 256 := by decide
      omega
    have L3 : y3.length ≤ 64 := C3.len (by decide)
    have LI : i1.length ≤ y3.length := by
      have := (canon_pos C3).2 (by decide)
      omega
    refine (l1Sub_any w5 g3 gi a3 ai c3 ci y3 i1 o3b.rd oi.rd C3.1 ib (by omega) LI V.out).mono ?_
    rintro e w6 ⟨y6, C6, ⟨a6, c6, g6, rfl, o6, p6, q6, r6⟩, n6⟩
    have L6 : y6.length ≤ 64 := C6.len (Int.lt_of_le_of_lt (show bval y3 - bval i1 ≤ bval y3 by have := bval_nonneg ib; omega) (Int.lt_of_lt_of_le (bval_lt C3.1) (p256_le L3)))
    go_wp2_with fail
    refine (l1Little_any w6 g6 a6 c6 y6 32 o6.rd C6.1 (by omega) (by omega)).mono ?_
    rintro e w7 ⟨rfl, B7, n7⟩
    have N7 := (N5.up n6).up n7
    have z := (N5.up n6).size
    go_wp2
    go_ret
    exact ⟨_, dig_bytes C6.1 32, by rw [fill_len]; omega, ⟨_, 32, w6.heap.size, by rw [fill_len]; rfl, B7.own0, by simp, by rw [fill_len]; omega, z⟩, N7, ⟨_, by omega, by omega, ((S4.up n5).up n6).up n7⟩⟩
  · go_wp2_with fail
    refine (l2Prime_any w1).mono ?_
    rintro e w2 ⟨rfl, B2, n2⟩
    go_wp2_with fail
    refine (l1Shift1_any w2 _ _ 32 pbytes B2.own0.rd pbytes_byt (by simp) (by decide) (by decide)).mono ?_
    rintro e wS ⟨yS, CS, ⟨aS, cS, gS, rfl, oS, pS, qS, rS⟩, nS⟩
    rw [pbytes_val] at CS
    have lS : yS.length ≤ 64 := CS.len (by decide)
    have nB : Below wS.heap.size wS (wS.alloc (.cells #[.int .u8 20] 5)) := (Below.refl _ _).alloc (Nat.le_refl _) _
    have BB : Blk (wS.alloc (.cells #[.int .u8 20] 5)) wS.heap.size .u8 [20] := ⟨5, by rw [heap_alloc_last]; rfl⟩
    have hb20 : Byt [20] := fun i => by
      match i with
      | 0 => decide
      | i + 1 => simp
    go_wp2_with fail
    generalize wS.alloc (.cells #[.int .u8 20] 5) = wB at *
    refine (l1Add_any wB gS _ aS _ cS 1 yS [20] (oS.up nB).rd BB.own0.rd CS.1 hb20 (by omega) (by decide)).mono ?_
    rintro e w3 ⟨y3, C3, ⟨a3, c3, g3, rfl, o3, p3, q3, r3⟩, n3⟩
    rw [CS.2.1] at C3
    have N3 := (((N1.up n2).up nS).up nB).up n3
    have hz3 : w.heap.size ≤ wS.heap.size := ((N1.up n2).up nS).size
    have S3 := (((S1.up n2).up nS).up nB).up n3
    have hg3 : w.heap.size ≤ g3 := by have := nB.size; omega
    clear B2 BB
    go_wp2_with fail
    refine (l1Next_any6 w3 s g a c xs (t + 1) 40 S3 (hr.but N3 hne) hne hb hl (by omega) (by omega) (by decide) (by decide)).mono ?_
    rintro e w4 ⟨v, rfl, ⟨v0, v1⟩, S4, O4⟩
    have o3a := o3.only O4 (fun _ => by omega)
    have N4 := N3.only O4
    go_wp2_with fail
    refine (l1Int_any6 w4 v v0 (by omega)).mono ?_
    rintro e w5 ⟨i1, il, ib, ⟨ai, ci, gi, rfl, oi, pi, qi, ri⟩, n5⟩
    have o3b := o3a.up n5
    have N5 := N4.up n5
    go_wp2_with fail
    have V : Hid (bval i1 ≤ bval y3) := by
      show _ ≤ _
      have h1 : bval i1 < 256 := by
        have := bval_lt ib
        have hp : (256 : Int) ^ i1.length ≤ 256 ^ 1 := p256_le il
        have : (256 : Int) ^ 1 = 256 := by decide
        omega
      rw [C3.2.1]
      have : bval [20] = 20 := rfl
      have : (0 : Int) ≤ PP - 256 := by decide
      omega
    have L3 : y3.length ≤ 64 := C3.len (by decide)
    have LI : i1.length ≤ y3.length := by
      have := (canon_pos C3).2 (by decide)
      omega
    refine (l1Sub_any w5 g3 gi a3 ai c3 ci y3 i1 o3b.rd oi.rd C3.1 ib (by omega) LI V.out).mono ?_
    rintro e w6 ⟨y6, C6, ⟨a6, c6, g6, rfl, o6, p6, q6, r6⟩, n6⟩
    have L6 : y6.length ≤ 64 := C6.len (Int.lt_of_le_of_lt (show bval y3 - bval i1 ≤ bval y3 by have := bval_nonneg ib; omega) (Int.lt_of_lt_of_le (bval_lt C3.1) (p256_le L3)))
    go_wp2_with fail
    refine (l1Little_any w6 g6 a6 c6 y6 32 o6.rd C6.1 (by omega) (by omega)).mono ?_
    rintro e w7 ⟨rfl, B7, n7⟩
    have N7 := (N5.up n6).up n7
    have z := (N5.up n6).size
    go_wp2
    go_ret
    exact ⟨_, dig_bytes C6.1 32, by rw [fill_len]; omega, ⟨_, 32, w6.heap.size, by rw [fill_len]; rfl, B7.own0, by simp, by rw [fill_len]; omega, z⟩, N7, ⟨_, by omega, by omega, ((S4.up n5).up n6).up n7⟩⟩
  · go_wp2_with (at_make; refine wpList_make_full _ rfl _ _ 22 rfl w1.heap.size 5 i0 (.int .u8 0) 1 Tryz.underlying22 hi hz0 hz1 .i64 .i64 _ _ 32 rfl rfl rfl rfl (by rw [hz2]; omega) (by unfold maxLen; omega) (Nat.le_refl _) ?_; intro w2 hown hgrow)
    have hB := Blk.of_made hown
    have nM : Below w1.heap.size w1 w2 := (Below.refl _ _).grown hgrow (Nat.le_refl _) (by simp)
    have S2 := S1.up nM
    have N2 := N1.up nM
    have z2 : w1.heap.size < w2.heap.size := hB.lt
    clear hown hgrow
    go_loopw [5] (fun i wr => ∃ (k : Nat) (ys : List Int), k ≤ 32 ∧ i = .int .i64 k ∧ FillTo (fun _ => 255) ys 32 k ∧ Blk wr w1.heap.size .u8 ys ∧ Src wr s a xs.length c (t + 1) ∧ But s w wr) (fun i _ => 32 - (intOf i).toNat)
    case atStart => exact ⟨0, _, by omega, rfl, ⟨by simp, fun j hj => absurd hj (by omega)⟩, hB, S2, N2⟩
    case round =>
      clear hB nM S2 N2
      obtain ⟨k, ys, hk, rfl, hF, hB, hS, hN⟩ := hrel
      have z1' := z1.out
      have sne : s ≠ w1.heap.size := by omega
      clear z1'
      by_cases hlt : k < 32
      · have hst := hF.step hlt
        have hcy := hB.cell (i := k) (by rw [hF.1]; exact hlt)
        have hfy := hB.free k
        have k2 : (k : Int) < 32 := by omega
        have St := hB.store k 255
        have Ss := hS.of_block (w' := wr.setCell ⟨w1.heap.size, k, none⟩ (.int .u8 255)) (heap_setCell_other wr ⟨w1.heap.size, k, none⟩ s _ sne)
        have Sn : But s w (wr.setCell ⟨w1.heap.size, k, none⟩ (.int .u8 255)) := hN.setCell (by have := z1.out; omega)
        clear hB hN hF hS
        go_wp2
        go_roundw
        case rel => exact ⟨k + 1, _, by omega, by go_num, hst, St, Ss, Sn⟩
        case measure => simp [intOf]; omega
      · obtain rfl : k = 32 := by omega
        have hy := hF.all
        subst hy
        go_wp2_with fail
        refine (l1Next_any6 wr s g a c xs (t + 1) 256 hS (hr.but hN hne) hne hb hl (by omega) (by omega) (by decide) (by decide)).mono ?_
        rintro e w4 ⟨v, rfl, ⟨v0, v1⟩, S4, O4⟩
        have B4 := hB.of_block (O4.block w1.heap.size (by omega))
        have c0 : w4.cell? ⟨w1.heap.size, 0, none⟩ = some (.int .u8 255) := B4.cell (i := 0) (by rw [fill_len]; omega)
        have f0 := B4.free 0
        have B5 := B4.store 0 v
        have S5 := S4.of_block (w' := w4.setCell ⟨w1.heap.size, 0, none⟩ (.int .u8 v)) (heap_setCell_other w4 ⟨w1.heap.size, 0, none⟩ s _ sne)
        have N5 : But s w (w4.setCell ⟨w1.heap.size, 0, none⟩ (.int .u8 v)) := (hN.only O4).setCell (by have := z1.out; omega)
        have hv : v % 256 = v := by omega
        have zz : w.heap.size ≤ w1.heap.size := by have := z1.out; omega
        have ZZ := hide zz
        clear zz
        clear hB B4
        go_wp2
        go_ret
        refine ⟨_, byt_set (byt_fill (fun _ => ⟨by decide, by decide⟩) 32) 0 v v0 (by omega), by simp [fill_len], ⟨_, 32, w1.heap.size, ?_, B5.own0, by simp, by simp [fill_len], ZZ.out⟩, N5, ⟨_, by omega, by omega, S5⟩⟩
        simp [fill_len]
  · go_wp2_with (first | (at_make; refine wpList_make_full _ rfl _ _ 22 rfl w1.heap.size 5 i0 (.int .u8 0) 1 Tryz.underlying22 hi hz0 hz1 .i64 .i64 _ _ 32 rfl rfl rfl rfl (by rw [hz2]; omega) (by unfold maxLen; omega) (Nat.le_refl _) ?_; intro w2 hown hgrow) | fail)
    have hB := Blk.of_made hown
    have nM : Below w1.heap.size w1 w2 := (Below.refl _ _).grown hgrow (Nat.le_refl _) (by simp)
    have S2 := S1.up nM
    have N2 := N1.up nM
    clear hown hgrow
    refine (l1Next_any6 w2 s g a c xs (t + 1) 32 S2 (hr.but N2 hne) hne hb hl (by omega) (by omega) (by decide) (by decide)).mono ?_
    rintro e w3 ⟨i, rfl, ⟨j0, j1⟩, S3, O3⟩
    have sne : s ≠ w1.heap.size := by have := z1.out; omega
    have B3 := hB.of_block (O3.block w1.heap.size (by omega))
    have N3 := N2.only O3
    obtain ⟨j, rfl⟩ := Int.eq_ofNat_of_zero_le j0
    go_wp2_with fail
    refine (l1Next_any6 w3 s g a c xs (t + 1 + 1) 256 S3 (hr.but N3 hne) hne hb hl (by omega) (by omega) (by decide) (by decide)).mono ?_
    rintro e w4 ⟨v, rfl, ⟨v0, v1⟩, S4, O4⟩
    have B4 := B3.of_block (O4.block w1.heap.size (by omega))
    have c0 := B4.cell (i := j) (by simp; omega)
    have f0 := B4.free j
    have B5 := B4.store j v
    have S5 := S4.of_block (w' := w4.setCell ⟨w1.heap.size, j, none⟩ (.int .u8 v)) (heap_setCell_other w4 ⟨w1.heap.size, j, none⟩ s _ sne)
    have N5 : But s w (w4.setCell ⟨w1.heap.size, j, none⟩ (.int .u8 v)) := (N3.only O4).setCell (by have := z1.out; omega)
    have hv : v % 256 = v := by omega
    have zz : w.heap.size ≤ w1.heap.size := by have := z1.out; omega
    have ZZ := hide zz
    clear zz hB B3 B4
    go_wp2
    go_ret
    refine ⟨_, byt_set (byt_zeros 32) j v v0 (by omega), by simp, ⟨_, 32, w1.heap.size, ?_, B5.own0, by simp, by simp, ZZ.out⟩, N5, ⟨_, by omega, by omega, S5⟩⟩
    simp
  · have q0 : (r == 0) = false := by simp; omega
    have q1 : (r == 1) = false := by simp; omega
    have q2 : (r == 2) = false := by simp; omega
    have q3 : (r == 3) = false := by simp; omega
    have q4 : (r == 4) = false := by simp; omega
    clear r0 r1 h5
    go_wp2_with fail
    refine (l1DrawBytes_any6 w1 s g a c xs (t + 1) 32 S1 hr1 hne hb hl (by omega) (by omega)).mono ?_
    rintro e w2 ⟨y2, l2, b2, ⟨a2, c2, g2, rfl, o2, p2, q2', r2⟩, S2, T2⟩
    have N2 := N1.trans T2
    have z2 := T2.size
    go_wp2_with fail
    refine (l1Chance_any6 w2 s g a c xs (t + 1 + ((32 : Nat) : Int)) 25 S2 (hr.but N2 hne) hne hb hl (by omega) (by omega) (by decide) (by decide)).mono ?_
    rintro e w3 ⟨bb, rfl, S3, O3⟩
    have N3 := N2.only O3
    have z1' := z1.out
    have o3 := o2.only O3 (fun _ => by omega)
    have zz : w.heap.size ≤ g2 := by omega
    have ZZ := hide zz
    have L2 := hide l2
    clear zz z1' l2
    cases bb
    · go_wp2
      go_ret
      exact ⟨y2, b2, by have := L2.out; omega, ⟨_, _, g2, by rw [L2.out]; rfl, o3, p2, q2', ZZ.out⟩, N3, ⟨_, by omega, by omega, S3⟩⟩
    · go_wp2_with fail
      refine (l1Next_any6 w3 s g a c xs (t + 1 + ((32 : Nat) : Int) + 1) 2 S3 (hr.but N3 hne) hne hb hl (by omega) (by omega) (by decide) (by decide)).mono ?_
      rintro e w4 ⟨v, rfl, ⟨v0, v1⟩, S4, O4⟩
      have N4 := N3.only O4
      obtain ⟨j, rfl⟩ := Int.eq_ofNat_of_zero_le v0
      have hj : (31 : Int) + 2 * (j : Int) = ((31 + 2 * j : Nat) : Int) := by omega
      have DB := l1DrawBytes_any6 w4 s g a c xs (t + 1 + ((32 : Nat) : Int) + 1 + 1) (31 + 2 * j) S4 (hr.but N4 hne) hne hb hl (by omega) (by omega)
      rw [← hj] at DB
      have DH := hide DB
      clear DB hj
      go_wp2_with fail
      refine DH.out.mono ?_
      rintro e w5 ⟨y5, l5, b5, ⟨a5, c5, g5, rfl, o5, p5, q5, r5⟩, S5, T5⟩
      have N5 := N4.trans T5
      have z4 := N4.size
      have L5 : y5.length ≤ 64 := by omega
      have zz : w.heap.size ≤ g5 := by omega
      have ZZ := hide zz
      clear zz l5 DH
      go_wp2
      go_ret
      exact ⟨y5, b5, L5, ⟨_, _, g5, rfl, o5, p5, q5, ZZ.out⟩, N5, ⟨_, by omega, by omega, S5⟩⟩
end Go.Proofs.YtkpomobhjkikeaaGreatDoor
namespace Go.Proofs.YtkpomobhjkikeaaGreatDoor
set_option maxRecDepth 100000
open Go.RowKit
end Go.Proofs.YtkpomobhjkikeaaGreatDoor
namespace Go.Proofs.YtkpomobhjkikeaaGreatDoor
set_option maxRecDepth 100000
open Go.RowKit
theorem qtxt : Txt ⟨#[50, 55, 55, 52, 50, 51, 49, 55, 55, 55, 55, 51, 55, 50, 51, 53, 51, 53, 51, 53, 56, 53, 49, 57, 51, 55, 55, 57, 48, 56, 56, 51, 54, 52, 56, 52, 57, 51]⟩ qdec := by
  refine ⟨by decide, fun k hk => ?_⟩
  have : ∀ k : Fin 38, ∃ b : UInt8, (⟨#[50, 55, 55, 52, 50, 51, 49, 55, 55, 55, 55, 51, 55, 50, 51, 53, 51, 53, 51, 53, 56, 53, 49, 57, 51, 55, 55, 57, 48, 56, 56, 51, 54, 52, 56, 52, 57, 51]⟩ : ByteArray)[k.1]? = some b ∧ (b.toNat : Int) = qdec.getD k.1 0 + 48 := by
    intro k
    refine ⟨UInt8.ofNat (qdec.getD k.1 0 + 48).toNat, ?_, ?_⟩
    · revert k; decide
    · revert k; decide
  exact this ⟨k, hk⟩
set_option maxHeartbeats 1000000 in
theorem l3Order_any (w : World) :
    Calls Tryz.prog 71 #[] w fun e w' => ∃ ys, Canon ys QQ ∧ NewRow w.heap.size w' e .u8 ys ∧ Below w.heap.size w w' := by
  have n0 : Below w.heap.size w (w.alloc (.cells #[.int .u8 1] 5)) := (Below.refl _ _).alloc (Nat.le_refl _) _
  have B0 := one_a w 1
  have D := fun W => l1Decimal_any W _ qtxt
  have b1 : Byt [1] := byt_one (by omega) (by omega)
  have e1 : Hid (bval [1] = 1) := by show _ = _; decide
  go_enter Tryz.func71, Tryz.ntmps71
  go_wp2_with fail
  generalize w.alloc (.cells #[.int .u8 1] 5) = wa at *
  refine (l1Shift252_any wa _ _ 1 [1] B0.own0.rd b1 (by simp) (by simp)).mono ?_
  rintro e w1 ⟨xs, C1, ⟨a1, c1, g1, rfl, o1, p1, q1, r1⟩, n1⟩
  have N1 := nxt n0 n1
  go_wp2_with fail
  refine (D w1).mono ?_
  rintro e w2 ⟨us, C2, ⟨a2, c2, g2, rfl, o2, p2, q2, r2⟩, n2⟩
  have N2 := nxt N1 n2
  rw [e1.out, Int.one_mul] at C1
  have L1 : xs.length ≤ 64 := C1.len (by decide)
  have L2 : us.length ≤ 64 := C2.len (by decide)
  go_wp2_with fail
  refine (l1Add_any w2 g1 g2 a1 a2 c1 c2 xs us (o1.up n2).rd o2.rd C1.1 C2.1 (by omega) (by omega)).mono ?_
  rintro e w3 ⟨ys, C3, ⟨a3, c3, g3, rfl, o3, p3, q3, r3⟩, n3⟩
  have N3 := nxt N2 n3
  have z := N2.size
  rw [C1.2.1, C2.2.1] at C3
  have C4 : Canon ys QQ := C3
  clear C1 C2 C3
  go_wp2
  go_ret
  exact ⟨ys, C4, ⟨a3, c3, g3, rfl, o3, p3, q3, by omega⟩, N3⟩
theorem canon_q {ys : List Int} (C : Canon ys QQ) : ys.length ≤ 32 := C.len (by decide)
end Go.Proofs.YtkpomobhjkikeaaGreatDoor
namespace Go.Proofs.YtkpomobhjkikeaaGreatDoor
set_option maxRecDepth 100000
open Go.RowKit
theorem little_byt {xs : List Int} (h : Byt xs) (n : Nat) : Byt (fill (dig xs) n) := dig_bytes h n
set_option maxHeartbeats 4000000 in
theorem l3Draw_any (w : World) (s g : Nat) (a : Option Addr) (c : Nat) (xs : List Int) (t : Int) (t0 : 0 ≤ t) (t1 : t ≤ 9000) (hs : Src w s a xs.length c t) (hr : Rd w g a .u8 xs) (hne : 0 < xs.length → g ≠ s) (hb : Byt xs) (hl : xs.length ≤ 1048576) :
    Calls Tryz.prog 55 #[.pointer (some ⟨s, 0, none⟩)] w fun e w' => ∃ ys, Byt ys ∧ ys.length ≤ 64 ∧ NewRow w.heap.size w' e .u8 ys ∧ But s w w' ∧ SrcTo w' s a xs.length c (t + 300) := by
  have sl := hs.lt
  have NX := l1Next_any6 w s g a c xs t 6 hs hr hne hb hl (by omega) (by omega) (by decide) (by decide)
  go_enter Tryz.func55, Tryz.ntmps55
  go_wp2_with fail
  refine NX.mono ?_
  rintro e w1 ⟨r, rfl, ⟨r0, r1⟩, S1, O1⟩
  have N1 : But s w w1 := But.ofOnly O1
  have hr1 := hr.but N1 hne
  have z1 := hide O1.size
  clear NX
  by_cases h2 : r < 2
  · have q1 : decide (r < 2) = true := by simp; omega
    clear h2 r0 r1
    go_wp2_with fail
    refine (l3Order_any w1).mono ?_
    rintro e w2 ⟨qs, Cq, ⟨a2, c2, g2, rfl, o2, p2, q2, r2⟩, n2⟩
    have N2 := N1.up n2
    have S2 := S1.up n2
    have hz2 : w.heap.size ≤ g2 := by have := z1.out; omega
    go_wp2_with fail
    refine (l1Next_any6 w2 s g a c xs (t + 1) 15 S2 (hr.but N2 hne) hne hb hl (by omega) (by omega) (by decide) (by decide)).mono ?_
    rintro e w3 ⟨v, rfl, ⟨v0, v1⟩, S3, O3⟩
    have N3 := N2.only O3
    have o3 := o2.only O3 (fun _ => by omega)
    have hw : IntKind.i64.wrap (1 + v) = 1 + v := by rw [IntKind.wrap_i64]; omega
    have hw8 : (1 + v) % 256 = 1 + v := by omega
    have hw9 : IntKind.u8.wrap (1 + v) = 1 + v := by rw [IntKind.wrap_u8]; omega
    have bv := byt_one (d := 1 + v) (by omega) (by omega)
    have nB : Below w3.heap.size w3 (w3.alloc (.cells #[.int .u8 (1 + v)] 5)) := (Below.refl _ _).alloc (Nat.le_refl _) _
    have BB := one_a w3 (1 + v)
    have Lq := canon_q Cq
    have ev : bval [1 + v] = 1 + v := by simp [bval]
    go_wp2_with fail
    generalize w3.alloc (.cells #[.int .u8 (1 + v)] 5) = wB at *
    refine (l1Mul_any wB g2 _ a2 _ c2 1 qs [1 + v] (o3.up nB).rd BB.own0.rd Cq.1 bv (by omega) (by simp)).mono ?_
    rintro e w4 ⟨ms, C4, ⟨a4, c4, g4, rfl, o4, p4, q4, r4⟩, n4⟩
    have N4 := (N3.up nB).up n4
    have S4 := (S3.up nB).up n4
    rw [Cq.2.1, ev] at C4
    have V4 : QQ ≤ bval ms := by
      rw [C4.2.1]
      have : QQ * 1 ≤ QQ * (1 + v) := Int.mul_le_mul_of_nonneg_left (by omega) (by decide)
      omega
    have L4 : ms.length ≤ 64 := C4.len (by
      have : QQ * (1 + v) ≤ QQ * 15 := Int.mul_le_mul_of_nonneg_left (by omega) (by decide)
      exact Int.lt_of_le_of_lt this (by decide))
    have M4 := C4.1
    have hg4 : w.heap.size ≤ g4 := by have := (N3.up nB).size; omega
    clear C4 BB hw hw8 hw9 ev bv o3 o2 Cq N1 N2 N3 S1 S2 S3 nB n4 n2 O3
    have nC : Below w4.heap.size w4 (w4.alloc (.cells #[.int .u8 3] 5)) := (Below.refl _ _).alloc (Nat.le_refl _) _
    have BC := one_a w4 3
    have b3 := byt_one (d := 3) (by omega) (by omega)
    have e3 : bval [3] = 3 := by decide
    go_wp2_with fail
    generalize w4.alloc (.cells #[.int .u8 3] 5) = wC at *
    refine (l1Add_any wC g4 _ a4 _ c4 1 ms [3] (o4.up nC).rd BC.own0.rd M4 b3 (by omega) (by decide)).mono ?_
    rintro e w5 ⟨ys5, C5, ⟨a5, c5, g5, rfl, o5, p5, q5, r5⟩, n5⟩
    have N5 := (N4.up nC).up n5
    have S5 := (S4.up nC).up n5
    have hg5 : w.heap.size ≤ g5 := by have := (N4.up nC).size; omega
    have V5 : QQ ≤ bval ys5 := by rw [C5.2.1, e3]; omega
    have L5 : ys5.length ≤ 65 := C5.len (n := 65) (by
      have b4 := Int.lt_of_lt_of_le (bval_lt M4) (p256_le (show ms.length ≤ 64 from L4))
      have e64 : (256 : Int) ^ 65 = 256 ^ 64 * 256 := by rw [← Int.pow_succ]
      have e1 : (3 : Int) ≤ 256 ^ 64 := by decide
      rw [e3, e64]
      omega)
    have M5 := C5.1
    clear C5 BC b3 e3 o4 N4 S4 nC n5 V4 L4
    go_wp2_with fail
    refine (l1Next_any6 w5 s g a c xs (t + 1 + 1) 7 S5 (hr.but N5 hne) hne hb hl (by omega) (by omega) (by decide) (by decide)).mono ?_
    rintro e w6 ⟨v6, rfl, ⟨v60, v61⟩, S6, O6⟩
    have N6 := N5.only O6
    have o6 := o5.only O6 (fun _ => by omega)
    go_wp2_with fail
    refine (l1Int_any6 w6 v6 v60 (by omega)).mono ?_
    rintro e w7 ⟨i1, il, ib, ⟨ai, ci, gi, rfl, oi, pi, qi, ri⟩, n7⟩
    have o7 := o6.up n7
    have N7 := N6.up n7
    have S7 := S6.up n7
    have V : Hid (bval i1 ≤ bval ys5) := by
      show _ ≤ _
      have h1 : bval i1 < 256 := by
        have := bval_lt ib
        have hp : (256 : Int) ^ i1.length ≤ 256 ^ 1 := p256_le il
        have : (256 : Int) ^ 1 = 256 := by decide
        omega
      have : (256 : Int) ≤ QQ := by decide
      omega
    have LI : i1.length ≤ ys5.length := by
      by_cases e : ys5.length = 0
      · have : ys5 = [] := List.eq_nil_of_length_eq_zero e
        subst this
        rw [bval_nil] at V5
        exact absurd V5 (by decide)
      · omega
    clear o5 o6 N5 N6 S5 S6 n7 O6 V5
    go_wp2_with fail
    refine (l1Sub_any w7 g5 gi a5 ai c5 ci ys5 i1 o7.rd oi.rd M5 ib (by omega) LI V.out).mono ?_
    rintro e w8 ⟨y8, C8, ⟨a8, c8', g8, rfl, o8, p8, q8, r8⟩, n8⟩
    have L8 : y8.length ≤ 65 := C8.len (Int.lt_of_le_of_lt (show bval ys5 - bval i1 ≤ bval ys5 by have := bval_nonneg ib; omega) (Int.lt_of_lt_of_le (bval_lt M5) (p256_le L5)))
    go_wp2_with fail
    refine (l1Little_any w8 g8 a8 c8' y8 32 o8.rd C8.1 (by omega) (by omega)).mono ?_
    rintro e w9 ⟨rfl, B9, n9⟩
    have N9 := (N7.up n8).up n9
    have S9 := (S7.up n8).up n9
    have z := (N7.up n8).size
    clear LI V
    go_wp2
    go_ret
    exact ⟨_, little_byt C8.1 32, by rw [fill_len]; omega, ⟨_, 32, w8.heap.size, by rw [fill_len]; rfl, B9.own0, by simp, by rw [fill_len]; omega, z⟩, N9, ⟨_, by omega, by omega, S9⟩⟩
  · have q1 : decide (r < 2) = false := by simp; omega
    by_cases h3 : r = 2
    · subst h3
      clear h2 r0 r1
      have L2 := l2DrawT_any w1 s g a c xs (t + 1) (by omega) (by omega) S1 hr1 hne hb hl
      go_wp2_with fail
      refine L2.mono ?_
      rintro e w2 ⟨ys, yb, yl, ⟨a2, c2, g2, rfl, o2, p2, q2, r2⟩, N2, ⟨t2, t20, t21, S2⟩⟩
      have N3 := N1.trans N2
      have z := z1.out
      have ZZ : Hid (w.heap.size ≤ g2) := by show _ ≤ _; omega
      clear L2 z
      go_wp2
      go_ret
      exact ⟨ys, yb, yl, ⟨_, _, g2, rfl, o2, p2, q2, ZZ.out⟩, N3, ⟨t2, t20, by omega, S2⟩⟩
    · have q2 : (r == 2) = false := by simp; omega
      clear h2 h3 r0 r1
      go_wp2_with fail
      refine (l1DrawBytes_any6 w1 s g a c xs (t + 1) 32 S1 hr1 hne hb hl (by omega) (by omega)).mono ?_
      rintro e w2 ⟨ys, yl, yb, ⟨a2, c2, g2, rfl, o2, p2, q2', r2⟩, S2, N2⟩
      have N3 := N1.trans N2
      have z := z1.out
      have ZZ : Hid (w.heap.size ≤ g2) := by show _ ≤ _; omega
      have L := hide yl
      clear yl z
      go_wp2
      go_ret
      exact ⟨ys, yb, by have := L.out; omega, ⟨_, _, g2, by first | rfl | (rw [L.out]; rfl), o2, p2, q2', ZZ.out⟩, N3, ⟨_, by omega, by omega, S2⟩⟩
end Go.Proofs.YtkpomobhjkikeaaGreatDoor
namespace Go.Proofs.YtkpomobhjkikeaaGreatDoor
set_option maxRecDepth 100000
open Go Go.RowKit
set_option maxHeartbeats 2000000 in
theorem l1Int1_any (w : World) (v : Int) (v0 : 1 ≤ v) (v1 : v ≤ 255) :
    Calls Tryz.prog 49 #[.int .i64 v] w fun e w' => ∃ ys, ys = [v] ∧ NewRow w.heap.size w' e .u8 ys ∧ Below w.heap.size w w' := by
  obtain ⟨i0, hi, hz0, hz1, hz2⟩ := info_parts Tryz.info5
  have hown0 : (w.alloc (.cells #[] 5)).ownsRow w.heap.size 5 1 (.slice (some ⟨w.heap.size, 0, none⟩) 0 0) 0 [] := World.ownsRow_lit w #[] 0 (Nat.le_refl _) (by unfold maxLen; omega) (by simp)
  have hal : Below w.heap.size w (w.alloc (.cells #[] 5)) := (Below.refl _ _).alloc (Nat.le_refl _) _
  go_enter Tryz.func49, Tryz.ntmps49
  go_wp2
  go_loopw [0, 3] (fun q vv wr => ∃ (k : Nat) (t : Int) (ys : List Int), q = .int .i64 t ∧ 0 ≤ t ∧ t ≤ 255 ∧ k ≤ 1 ∧ (0 < t → k = 0) ∧ Hid ((0 < t → t = v) ∧ (t = 0 → ys = [v])) ∧ Hid (ys.length = k) ∧ Byt ys ∧ wr.ownsRow w.heap.size 5 1 vv k (ys.map (Value.int .u8)) ∧ Below w.heap.size w wr) (fun q _ _ => (intOf q).toNat)
  case atStart => exact ⟨0, v, [], rfl, by omega, v1, by omega, fun _ => rfl, ⟨fun _ => rfl, fun h => absurd h (by omega)⟩, rfl, byt_nil, hown0, hal⟩
  case round =>
    obtain ⟨k, t, ys, rfl, ht0, ht1, hk1, hk0, hvl, hyl, hyb, hown, hN⟩ := hrel
    have hob := hown.lt
    by_cases hlt : 0 < t
    · have hk := hk0 hlt
      subst hk
      have m1 : t % 256 = t := by omega
      have m2 : t / 256 = 0 := by omega
      clear hk0 hk1
      go_wp2_with (at_builtin; refine wpList_append_own _ rfl _ _ 22 rfl w.heap.size 5 i0 (.int .u8 0) 1 1 Tryz.underlying22 hi hz0 hz1 hz2 rfl (by decide) _ 0 (ys.map (Value.int .u8)) rfl (hown.alloc _) ⟨wr.heap.size, 0, none⟩ 1 1 [.int .u8 t] rfl rfl ?c1 ?c2 ?c3 ?c4 ?c5 ?_)
      case c1 =>
        intro j u hj
        match j, hj with
        | 0, hj => simp at hj; subst hj; simp [Addr.add]
      case c2 => intro u hu; simp at hu; subst hu; rfl
      case c3 => unfold maxLen; omega
      case c4 => omega
      case c5 => simp; have := hN.size; omega
      · intro v' w2 hown2 hgrow _
        have nA : Below w.heap.size w (wr.alloc (.cells #[.int .u8 t] 5)) := hN.alloc hN.size _
        have N2 : Below w.heap.size w w2 := nA.grown hgrow (by simp; have := hN.size; omega) (fun i hi => (hob i hi).1)
        have hown3 : w2.ownsRow w.heap.size 5 1 v' 1 ((ys ++ [t]).map (Value.int .u8)) := by simpa using hown2
        have hl3 : Hid ((ys ++ [t]).length = 1) := by show _ = _; have := hyl.out; simp; exact List.eq_nil_of_length_eq_zero this
        have hb3 := byt_snoc hyb t ht0 (by omega)
        have hv3 : Hid (ys ++ [t] = [v]) := by
          show _ = _
          rw [List.eq_nil_of_length_eq_zero hyl.out, hvl.out.1 hlt]
          rfl
        clear hown hown2 hgrow nA hob
        go_wp2
        go_roundw
        case rel => exact ⟨1, t / 256, ys ++ [t], rfl, by omega, by omega, by omega, fun h => absurd h (by omega), ⟨fun h => absurd h (by omega), fun _ => hv3.out⟩, hl3, hb3, hown3, N2⟩
        case measure => simp [intOf]; omega
    · obtain rfl : t = 0 := by omega
      have hown' := hown
      rw [← hyl.out] at hown'
      obtain ⟨a', c', g', hv, o1, o2, o3, o4⟩ := Own.of_ownsRow hown'
      subst hv
      have L : ys.length ≤ 1 := by rw [hyl.out]; exact hk1
      have T := l1Turn_any6 wr g' a' c' ys o1.rd hyb (by omega)
      have HT := hide T
      clear hown hown' hk0 T
      go_wp2_with fail
      refine (unhide HT).mono ?_
      rintro e w3 ⟨zs, zt, zb, ⟨a3, c3, g3, rfl, o31, o32, o33, o34⟩, n3⟩
      have zl := zt.1
      have ZV : Hid (zs = [v]) := by
        show _ = _
        have e := hvl.out.2 (by first | exact True.intro | rfl)
        have g := zt.2 0 (by rw [e]; simp)
        rw [e] at zl g
        match zs, zl, g with
        | [z], _, g => simpa using g
      clear zt
      have N3 := nxt hN n3
      have sz := hN.size
      have ZL : zs.length ≤ 1 := by omega
      clear zl
      go_wp2
      go_ret
      exact ⟨zs, ZV.out, ⟨_, _, g3, rfl, o31, o32, o33, by omega⟩, N3⟩
set_option maxHeartbeats 2000000 in
theorem drawFieldMul_any (w : World) (g : Nat) (a : Option Addr) (c : Nat) (code : List Int) (hr : Rd w g a .u8 code) (hb : Byt code) (hl : code.length ≤ 1048576) :
    Calls Tryz.prog 17 #[.slice a code.length c] w fun e w' => ∃ (a1 a2 : Option Addr) (c1 c2 g1 g2 : Nat) (xs ys : List Int), e = .returned (.tuple #[.slice a1 xs.length c1, .slice a2 ys.length c2]) ∧ Own w' g1 a1 .u8 xs ∧ Own w' g2 a2 .u8 ys ∧ Byt xs ∧ Byt ys ∧ Below w.heap.size w w' := by
  have hne : 0 < code.length → g ≠ w.heap.size := fun h => by have := hr.lt h; omega
  go_enter Tryz.func17, Tryz.ntmps17
  go_wp2_with fail
  refine (l1Source_any w a code.length c hl).mono ?_
  rintro e w1 ⟨rfl, S1, n1⟩
  have sl := S1.lt
  go_wp2_with fail
  refine (l2DrawT_any w1 w.heap.size g a c code 0 (by omega) (by omega) S1 (hr.up n1) hne hb hl).mono ?_
  rintro e w2 ⟨xs, xb, xl, ⟨a1, c1, g1, rfl, o1, p1, q1, r1⟩, N2, ⟨t2, t20, t21, S2⟩⟩
  have m2 := N2.size
  have n12 : Below w.heap.size w1 w2 := N2.below (Nat.le_refl _) (by omega)
  have K2 := n1.trans n12
  go_wp2_with fail
  refine (l2DrawT_any w2 w.heap.size g a c code t2 t20 (by omega) S2 (hr.up K2) hne hb hl).mono ?_
  rintro e w3 ⟨ys, yb, yl, ⟨a2, c2, g2, rfl, o2, p2, q2, r2⟩, N3, ⟨t3, t30, t31, S3⟩⟩
  have n23 : Below w.heap.size w2 w3 := N3.below (Nat.le_refl _) (by omega)
  have K3 := K2.trans n23
  have o1a := o1.but N3 (fun _ => by omega)
  clear N2 N3 S1 S2 S3 n1 n12 n23 K2 o1
  go_wp2
  go_ret2
  exact ⟨a1, a2, c1, c2, g1, g2, xs, ys, rfl, o1a, o2, xb, yb, K3⟩
set_option maxHeartbeats 2000000 in
theorem l4DrawKey_any (w : World) (s g : Nat) (a : Option Addr) (c : Nat) (xs : List Int) (t : Int) (t0 : 0 ≤ t) (t1 : t ≤ 5000) (hs : Src w s a xs.length c t) (hr : Rd w g a .u8 xs) (hne : 0 < xs.length → g ≠ s) (hb : Byt xs) (hl : xs.length ≤ 1048576) :
    Calls Tryz.prog 32 #[.pointer (some ⟨s, 0, none⟩)] w fun e w' => ∃ ys, Byt ys ∧ ys.length ≤ 64 ∧ NewRow w.heap.size w' e .u8 ys ∧ But s w w' ∧ SrcTo w' s a xs.length c (t + 400) := by
  have sl := hs.lt
  go_enter Tryz.func32, Tryz.ntmps32
  go_wp2_with fail
  refine (l1Chance_any6 w s g a c xs t 30 hs hr hne hb hl (by omega) (by omega) (by decide) (by decide)).mono ?_
  rintro e w1 ⟨b, rfl, S1, O1⟩
  have N1 : But s w w1 := But.ofOnly O1
  have z1 := hide O1.size
  cases b with
  | true =>
    go_wp2_with fail
    refine (l1Next_any6 w1 s g a c xs (t + 1) 2 S1 (hr.but N1 hne) hne hb hl (by omega) (by omega) (by decide) (by decide)).mono ?_
    rintro e w2 ⟨v, rfl, ⟨v0, v1⟩, S2, O2⟩
    have N2 := N1.only O2
    have z2 := hide O2.size
    obtain ⟨m, hm⟩ : ∃ m : Nat, (m : Int) = 31 + 2 * v := ⟨(31 + 2 * v).toNat, by omega⟩
    have e1 : IntKind.i64.wrap (2 * v) = 2 * v := by rw [IntKind.wrap_i64]; omega
    have e2 : IntKind.i64.wrap (31 + 2 * v) = 31 + 2 * v := by rw [IntKind.wrap_i64]; omega
    have DB := l1DrawBytes_any6 w2 s g a c xs (t + 1 + 1) m S2 (hr.but N2 hne) hne hb hl (by omega) (by omega)
    rw [hm] at DB
    have HM := hide hm
    clear hm
    go_wp2_with fail
    refine DB.mono ?_
    rintro e w3 ⟨ys, yl, yb, ⟨a3, c3, g3, rfl, o3, p3, q3, r3⟩, S3, N3⟩
    have N4 := N2.trans N3
    have YL := hide yl
    have zz := hide (show w.heap.size ≤ g3 by have := z1.out; have := z2.out; omega)
    clear DB yl
    go_wp2
    go_ret
    exact ⟨ys, yb, by have := YL.out; have := HM.out; omega, ⟨a3, c3, g3, rfl, o3, p3, q3, zz.out⟩, N4, ⟨_, by omega, by omega, S3⟩⟩
  | false =>
    go_wp2_with fail
    refine (l3Draw_any w1 s g a c xs (t + 1) (by omega) (by omega) S1 (hr.but N1 hne) hne hb hl).mono ?_
    rintro e w2 ⟨ys, yb, yl, ⟨a3, c3, g3, rfl, o3, p3, q3, r3⟩, N3, ⟨t3, t30, t31, S3⟩⟩
    have N4 := N1.trans N3
    have YL := hide yl
    have zz := hide (show w.heap.size ≤ g3 by have := z1.out; omega)
    clear yl
    go_wp2
    go_ret
    exact ⟨ys, yb, YL.out, ⟨a3, c3, g3, rfl, o3, p3, q3, zz.out⟩, N4, ⟨t3, t30, by omega, S3⟩⟩
end Go.Proofs.YtkpomobhjkikeaaGreatDoor
namespace Go.Proofs.YtkpomobhjkikeaaGreatDoor
set_option maxRecDepth 100000
open Go Go.RowKit
def Drawn (w : World) (s : Nat) (a : Option Addr) (n c : Nat) (m : Int) (v : Value) (wc : World) : Prop :=
  ∃ (ys : List Int) (b : Option Addr) (d h : Nat), v = .slice b ys.length d ∧ Byt ys ∧ ys.length ≤ 64 ∧ Own wc h b .u8 ys ∧ (b = none → d = 0) ∧ ys.length ≤ d ∧ w.heap.size ≤ h ∧ But s w wc ∧ SrcTo wc s a n c m
theorem or128 : ∀ n : Fin 256, 0 ≤ bits BinOp.or IntKind.u8 (n.val : Int) 128 ∧ bits BinOp.or IntKind.u8 (n.val : Int) 128 < 256 := by decide +kernel
theorem or_bd {y : Int} (h : 0 ≤ y ∧ y < 256) : 0 ≤ bits BinOp.or IntKind.u8 y 128 ∧ bits BinOp.or IntKind.u8 y 128 < 256 := by
  have := or128 ⟨y.toNat, by omega⟩
  simp only [Int.toNat_of_nonneg h.1] at this
  exact this
theorem byt_set5 {ys : List Int} (h : Byt ys) (i : Nat) {v : Int} (hv : 0 ≤ v ∧ v < 256) : Byt (ys.set i v) := fun j => by
  rw [List.getD_eq_getElem?_getD, List.getElem?_set]
  split
  · split
    · exact hv
    · simp
  · rw [← List.getD_eq_getElem?_getD]; exact h j
theorem Drawn.only {w W W' : World} {s : Nat} {a : Option Addr} {n c : Nat} {m m' : Int} {v : Value} (h : Drawn w s a n c m v W) (o : Only s W W') (S : SrcTo W' s a n c m') (hs : s < w.heap.size := by omega) : Drawn w s a n c m' v W' := by
  obtain ⟨ys, b, d, g, rfl, yb, yl, oy, p, q, z, N, _⟩ := h
  exact ⟨ys, b, d, g, rfl, yb, yl, oy.only o (fun _ => by omega), p, q, z, N.only o, S⟩
theorem Drawn.le {w W : World} {s : Nat} {a : Option Addr} {n c : Nat} {m m' : Int} {v : Value} (h : Drawn w s a n c m v W) (hm : m ≤ m') : Drawn w s a n c m' v W := by
  obtain ⟨ys, b, d, g, e, yb, yl, oy, p, q, z, N, t, t0, t1, S⟩ := h
  exact ⟨ys, b, d, g, e, yb, yl, oy, p, q, z, N, t, t0, by omega, S⟩
theorem toLad_len (xs ys : List Int) : (toLad xs ys).length ≤ 64 := by
  unfold toLad
  split
  · rw [fill_len]; omega
  · simp
theorem toLad_byt (xs ys : List Int) : Byt (toLad xs ys) := by
  unfold toLad
  split
  · exact bytes_5 _ _
  · exact byt_nil
theorem drawn_little {w W W' : World} {s : Nat} {a : Option Addr} {n c : Nat} {m : Int} {xs : List Int} (hb : Byt xs) (B : Blk W' W.heap.size .u8 (fill (dig xs) 32)) (z : w.heap.size ≤ W.heap.size) (N : But s w W') (S : SrcTo W' s a n c m) :
    Drawn w s a n c m (.slice (some ⟨W.heap.size, 0, none⟩) 32 32) W' :=
  ⟨fill (dig xs) 32, _, 32, W.heap.size, by rw [fill_len], dig_bytes hb 32, by rw [fill_len]; omega, B.own0, by simp, by rw [fill_len]; omega, z, N, S⟩
set_option maxHeartbeats 4000000 in
theorem l4DrawU_any (w : World) (s g : Nat) (a : Option Addr) (c : Nat) (xs : List Int) (t : Int) (t0 : 0 ≤ t) (t1 : t ≤ 5000) (hs : Src w s a xs.length c t) (hr : Rd w g a .u8 xs) (hne : 0 < xs.length → g ≠ s) (hb : Byt xs) (hl : xs.length ≤ 1048576) :
    Calls Tryz.prog 33 #[.pointer (some ⟨s, 0, none⟩)] w fun e w' => ∃ ys, Byt ys ∧ ys.length ≤ 64 ∧ NewRow w.heap.size w' e .u8 ys ∧ But s w w' ∧ SrcTo w' s a xs.length c (t + 400) := by
  have sl := hs.lt
  go_enter Tryz.func33, Tryz.ntmps33
  go_wp2_with fail
  refine (l1Next_any6 w s g a c xs t 8 hs hr hne hb hl (by omega) (by omega) (by decide) (by decide)).mono ?_
  rintro e w1 ⟨r, rfl, ⟨r0, r1⟩, S1, O1⟩
  have N1 : But s w w1 := But.ofOnly O1
  have z1 := hide O1.size
  clear hs O1
  by_cases h0 : r = 0
  · subst h0
    clear r0 r1
    go_wp2_with fail
    refine (l2DrawT_any w1 s g a c xs (t + 1) (by omega) (by omega) S1 (hr.but N1 hne) hne hb hl).mono ?_
    rintro e w2 ⟨ys, yb, yl, ⟨a3, c3, g3, rfl, o3, p3, q3, r3⟩, N3, ⟨t3, t30, t31, S3⟩⟩
    have N4 := N1.trans N3
    have YL := hide yl
    have zz := hide (show w.heap.size ≤ g3 by have := z1.out; omega)
    clear yl
    go_wp2
    go_ret
    exact ⟨ys, yb, YL.out, ⟨a3, c3, g3, rfl, o3, p3, q3, zz.out⟩, N4, ⟨t3, t30, by omega, S3⟩⟩
  · have q0 : (r == 0) = false := by simp [h0]
    by_cases h1 : r = 1
    · subst h1
      clear r0 r1 h0 q0
      go_wp2_with fail
      refine (l1Next_any6 w1 s g a c xs (t + 1) 3 S1 (hr.but N1 hne) hne hb hl (by omega) (by omega) (by decide) (by decide)).mono ?_
      rintro e w2 ⟨v, rfl, ⟨v0, v1⟩, S2, O2⟩
      have N2 := N1.only O2
      have z2 := hide O2.size
      go_wp2_with fail
      refine (l1Int_any6 w2 v v0 (by omega)).mono ?_
      rintro e w3 ⟨us, ul, ub, ⟨a3, c3, g3, rfl, o3, p3, q3, r3⟩, n3⟩
      have N3 := N2.up n3
      have S3 := S2.up n3
      go_wp2_with fail
      refine (l1Little_any w3 g3 a3 c3 us 32 o3.rd ub (by omega) (by omega)).mono ?_
      rintro e w4 ⟨rfl, B4, n4⟩
      have N4 := N3.up n4
      have S4 := S3.up n4
      have D4 : Drawn w s a xs.length c (t + 10) (.slice (some ⟨w3.heap.size, 0, none⟩) 32 32) w4 := drawn_little ub B4 (by have := N3.size; omega) N4 ⟨_, by omega, by omega, S4⟩
      clear B4 n4 S3 N3 o3 p3 q3 r3 n3 S2 N2 O2 z2 v0 v1 S1 N1 z1
      go_wp2_with fail
      refine (l1Chance_any6 w4 s g a c xs (t + 1 + 1) 2 S4 (hr.but N4 hne) hne hb hl (by omega) (by omega) (by decide) (by decide)).mono ?_
      rintro e w5 ⟨b, rfl, S5, O5⟩
      have N5 := N4.only O5
      have D5 : Drawn w s a xs.length c (t + 10) (.slice (some ⟨w3.heap.size, 0, none⟩) 32 32) w5 := D4.only O5 ⟨_, by omega, by omega, S5⟩
      clear D4 O5 S4 N4
      go_upto_if 19 with fail
      go_cut [4] (fun v wc => Drawn w s a xs.length c (t + 20) v wc)
      case first =>
        cases b with
        | true =>
          go_wp2_with fail
          refine (l2Prime_any w5).mono ?_
          rintro e w6 ⟨rfl, B6, n6⟩
          have N6 := N5.up n6
          have S6 := S5.up n6
          have k6 := N5.size
          go_wp2_with fail
          refine (l1Next_any6 w6 s g a c xs (t + 1 + 1 + 1) 2 S6 (hr.but N6 hne) hne hb hl (by omega) (by omega) (by decide) (by decide)).mono ?_
          rintro e w7 ⟨v, rfl, ⟨v0, v1⟩, S7, O7⟩
          have N7 := N6.only O7
          have B7 := B6.own0.only O7 (fun _ => by omega)
          have e1 : IntKind.i64.wrap (v + 1) = v + 1 := by rw [IntKind.wrap_i64]; omega
          go_wp2_with fail
          refine (l1Int1_any w7 (v + 1) (by omega) (by omega)).mono ?_
          rintro e w8 ⟨vs, rfl, ⟨a8, c8, g8, rfl, o8, p8, q8, r8⟩, n8⟩
          have N8 := N7.up n8
          have S8 := S7.up n8
          have B8 := B7.up n8
          have n9 : Below w8.heap.size w8 (w8.alloc (.cells #[.int .u8 1] 5)) := (Below.refl _ _).alloc (Nat.le_refl _) _
          have B9 := one_a w8 1
          have bv := byt_one (d := v + 1) (by omega) (by omega)
          have ev : bval [v + 1] = v + 1 := by simp [bval]
          have e1' : bval [1] = 1 := by decide
          go_wp2_with fail
          generalize w8.alloc (.cells #[.int .u8 1] 5) = w9 at *
          refine (l1Sub_any w9 g8 _ a8 _ c8 1 [v + 1] [1] (o8.up n9).rd B9.own0.rd bv (byt_one (by omega) (by omega)) (by simp) (by simp) (by rw [ev, e1']; omega)).mono ?_
          rintro e wA ⟨ms, CA, ⟨aA, cA, gA, rfl, oA, pA, qA, rA⟩, nA⟩
          have NA := (N8.up n9).up nA
          have SA := (S8.up n9).up nA
          have BA := (B8.up n9).up nA
          rw [ev, e1'] at CA
          have LA : ms.length ≤ 1 := CA.len (n := 1) (by simp; omega)
          go_wp2_with fail
          refine (l1Add_any wA _ gA _ aA 32 cA pbytes ms BA.rd oA.rd pbytes_byt CA.1 (by decide) (by omega)).mono ?_
          rintro e wB ⟨hs', CB, ⟨aB, cB, gB, rfl, oB, pB, qB, rB⟩, nB⟩
          have NB' := NA.up nB
          have SB := SA.up nB
          have LB : hs'.length ≤ 64 := CB.len (n := 64) (by
            rw [pbytes_val, CA.2.1]
            have : PP + (v + 1 - 1) ≤ PP + 255 := by omega
            exact Int.lt_of_le_of_lt this (by decide))
          go_wp2_with fail
          refine (l1Little_any wB gB aB cB hs' 32 oB.rd CB.1 (by omega) (by omega)).mono ?_
          rintro e wC ⟨rfl, BC, nC⟩
          have DC : Drawn w s a xs.length c (t + 20) (.slice (some ⟨wB.heap.size, 0, none⟩) 32 32) wC := drawn_little CB.1 BC (by have := NB'.size; omega) (NB'.up nC) ⟨_, by omega, by omega, SB.up nC⟩
          clear D5
          go_wp2_with fail
          go_meet
          exact DC
        | false =>
          go_wp2_with fail
          go_meet
          exact D5.le (by omega)
      case rest =>
        clear D5 S5 N5
        obtain ⟨ys, b1, d1, h1, rfl, yb, yl, oy, py, qy, ry, N5, ⟨t5, t50, t51, S5⟩⟩ := hcut
        go_wp2_with fail
        refine (l1Chance_any6 wc s g a c xs t5 3 S5 (hr.but N5 hne) hne hb hl (by omega) (by omega) (by decide) (by decide)).mono ?_
        rintro e w6 ⟨b, rfl, S6, O6⟩
        have D6 : Drawn w s a xs.length c (t + 30) (.slice b1 ys.length d1) w6 := (show Drawn w s a xs.length c (t + 20) _ wc from ⟨ys, b1, d1, h1, rfl, yb, yl, oy, py, qy, ry, N5, ⟨t5, t50, t51, S5⟩⟩).only O6 ⟨_, by omega, by omega, S6⟩
        have N6 := N5.only O6
        clear oy py qy ry S5 N5 O6 yb yl
        go_upto_if 30 with fail
        go_cut [4] (fun v wc => Drawn w s a xs.length c (t + 40) v wc)
        case first =>
          cases b with
          | true =>
            go_wp2_with fail
            refine (l2Prime_any w6).mono ?_
            rintro e w7 ⟨rfl, B7, n7⟩
            have N7 := N6.up n7
            have S7 := S6.up n7
            have n9 : Below w7.heap.size w7 (w7.alloc (.cells #[.int .u8 1] 5)) := (Below.refl _ _).alloc (Nat.le_refl _) _
            have B9 := one_a w7 1
            have e1' : bval [1] = 1 := by decide
            go_wp2_with fail
            generalize w7.alloc (.cells #[.int .u8 1] 5) = w9 at *
            refine (l1Sub_any w9 _ _ _ _ 32 1 pbytes [1] (B7.up n9).own0.rd B9.own0.rd pbytes_byt (byt_one (by omega) (by omega)) (by decide) (by decide) (by rw [pbytes_val, e1']; decide)).mono ?_
            rintro e wA ⟨ms, CA, ⟨aA, cA, gA, rfl, oA, pA, qA, rA⟩, nA⟩
            have NA := (N7.up n9).up nA
            have SA := (S7.up n9).up nA
            rw [pbytes_val, e1'] at CA
            have LA : ms.length ≤ 64 := CA.len (n := 64) (by decide)
            go_wp2_with fail
            refine (l1Little_any wA gA aA cA ms 32 oA.rd CA.1 (by omega) (by omega)).mono ?_
            rintro e wC ⟨rfl, BC, nC⟩
            have DC : Drawn w s a xs.length c (t + 40) (.slice (some ⟨wA.heap.size, 0, none⟩) 32 32) wC := drawn_little CA.1 BC (by have := NA.size; omega) (NA.up nC) ⟨_, by omega, by omega, SA.up nC⟩
            clear D6
            go_wp2_with fail
            go_meet
            exact DC
          | false =>
            go_wp2_with fail
            go_meet
            exact D6.le (by omega)
        case rest =>
          clear D6 S6 N6 t50 t51
          obtain ⟨ys, b1, d1, h1, rfl, yb, yl, oy, py, qy, ry, N5, ⟨t5, t50, t51, S5⟩⟩ := hcut
          go_wp2_with fail
          refine (l1Chance_any6 wc s g a c xs t5 3 S5 (hr.but N5 hne) hne hb hl (by omega) (by omega) (by decide) (by decide)).mono ?_
          rintro e w6 ⟨b, rfl, S6, O6⟩
          have D6 : Drawn w s a xs.length c (t + 50) (.slice b1 ys.length d1) w6 := (show Drawn w s a xs.length c (t + 40) _ wc from ⟨ys, b1, d1, h1, rfl, yb, yl, oy, py, qy, ry, N5, ⟨t5, t50, t51, S5⟩⟩).only O6 ⟨_, by omega, by omega, S6⟩
          have N6 := N5.only O6
          clear oy py qy ry S5 N5 O6 yb yl
          go_upto_if 36 with fail
          go_cut [4] (fun v wc => Drawn w s a xs.length c (t + 60) v wc)
          case first =>
            cases b with
            | true =>
              go_wp2_with fail
              refine (l1Next_any6 w6 s g a c xs (t5 + 1) 8 S6 (hr.but N6 hne) hne hb hl (by omega) (by omega) (by decide) (by decide)).mono ?_
              rintro e w7 ⟨v, rfl, ⟨v0, v1⟩, S7, O7⟩
              have N7 := N6.only O7
              go_wp2_with fail
              refine (l5Small_any w7 v v0 (by omega)).mono ?_
              rintro e w8 ⟨px, py, ⟨a8, a9, c8, c9, g8, g9, rfl, o8, o9, r8, r9⟩, ⟨bx, -⟩, ⟨bY, -⟩, n8⟩
              have N8 := N7.up n8
              have S8 := S7.up n8
              go_wp2_with fail
              refine (pointToLadder_any w8 g8 g9 a8 a9 c8 c9 px py o8.rd o9.rd bx bY).mono ?_
              rintro e wC ⟨⟨aC, cC, gC, rfl, oC, pC, qC, rC⟩, nC⟩
              have DC : Drawn w s a xs.length c (t + 60) (.slice aC (toLad px py).length cC) wC := ⟨_, aC, cC, gC, rfl, toLad_byt px py, toLad_len px py, oC, pC, qC, by have := N8.size; omega, N8.up nC, ⟨_, by omega, by omega, S8.up nC⟩⟩
              clear D6 oC o8 o9
              generalize toLad px py = zs at *
              go_wp2_with fail
              go_meet
              exact DC
            | false =>
              go_wp2_with fail
              go_meet
              exact D6.le (by omega)
          case rest =>
            clear D6 S6 N6
            obtain ⟨zs, b2, d2, h2, rfl, zb, zl, oz, pz, qz, rz, N9, ⟨t9, t90, t91, S9⟩⟩ := hcut
            have ZL := hide zl
            clear zl
            go_wp2
            go_ret
            exact ⟨zs, zb, ZL.out, ⟨b2, d2, h2, rfl, oz, pz, qz, rz⟩, N9, ⟨t9, t90, by omega, S9⟩⟩
    · have q1 : (r == 1) = false := by simp [h1]
      have DB := l1DrawBytes_any6 w1 s g a c xs (t + 1) 32 S1 (hr.but N1 hne) hne hb hl (by omega) (by omega)
      go_wp2_with fail
      refine DB.mono ?_
      rintro e w2 ⟨ys, yl, yb, ⟨a3, c3, g3, rfl, o3, p3, q3, r3⟩, S3, N3⟩
      have N4 := N1.trans N3
      have zz := hide (show w.heap.size ≤ g3 by have := z1.out; omega)
      have zs := hide (show s < w1.heap.size by have := z1.out; omega)
      clear DB
      by_cases h2 : r = 2
      · subst h2
        have y31 : 31 < ys.length := by omega
        obtain ⟨off, rfl, hc⟩ := o3 (by omega)
        have c31 := (hc 31 y31).1
        have f31 := (hc 31 y31).2
        have yb31 := yb 31
        have OB := or_bd yb31
        have OS := o3.store 31 y31 (bits BinOp.or IntKind.u8 (ys.getD 31 0) 128)
        have SS := hide (byt_set5 yb 31 OB)
        have LS := hide (show (ys.set 31 (bits BinOp.or IntKind.u8 (ys.getD 31 0) 128)).length = ys.length from List.length_set)
        have ww : IntKind.u8.wrap (bits BinOp.or IntKind.u8 (ys.getD 31 0) 128) = bits BinOp.or IntKind.u8 (ys.getD 31 0) 128 := by rw [IntKind.wrap_u8]; omega
        have i31 : (31 : Int) < (ys.length : Int) := by omega
        have YL := hide yl
        have NS : But s w (w2.setCell ⟨g3, off + 31, none⟩ (.int .u8 (bits BinOp.or IntKind.u8 (ys.getD 31 0) 128))) := N4.setCell zz.out
        have SN := S3.of_block (w' := w2.setCell ⟨g3, off + 31, none⟩ (.int .u8 (bits BinOp.or IntKind.u8 (ys.getD 31 0) 128))) (heap_setCell_other w2 ⟨g3, off + 31, none⟩ s _ (by show s ≠ g3; have := zs.out; omega))
        clear hc yl o3 y31 q0 q1 h0 h1 r0 r1 S3 N3 N4
        generalize ys.set 31 (bits BinOp.or IntKind.u8 (ys.getD 31 0) 128) = ys' at *
        generalize ys.getD 31 0 = y at *
        go_wp2
        go_ret
        exact ⟨ys', SS.out, by have := LS.out; have := YL.out; omega, ⟨_, c3, g3, by rw [LS.out]; rfl, OS, by simp, by have := LS.out; omega, zz.out⟩, NS, ⟨_, by omega, by omega, SN⟩⟩
      · have q2 : (r == 2) = false := by simp [h2]
        have YL := hide yl
        clear yl
        go_wp2
        go_ret
        exact ⟨ys, yb, by have := YL.out; omega, ⟨a3, c3, g3, rfl, o3, p3, q3, zz.out⟩, N4, ⟨_, by omega, by omega, S3⟩⟩
set_option maxHeartbeats 2000000 in
theorem drawLadder_any (w : World) (g : Nat) (a : Option Addr) (c : Nat) (code : List Int) (hr : Rd w g a .u8 code) (hb : Byt code) (hl : code.length ≤ 1048576) :
    Calls Tryz.prog 18 #[.slice a code.length c] w fun e w' => ∃ (a1 a2 : Option Addr) (c1 c2 g1 g2 : Nat) (xs ys : List Int), e = .returned (.tuple #[.slice a1 xs.length c1, .slice a2 ys.length c2]) ∧ Own w' g1 a1 .u8 xs ∧ Own w' g2 a2 .u8 ys ∧ Byt xs ∧ Byt ys ∧ Below w.heap.size w w' := by
  have hne : 0 < code.length → g ≠ w.heap.size := fun h => by have := hr.lt h; omega
  go_enter Tryz.func18, Tryz.ntmps18
  go_wp2_with fail
  refine (l1Source_any w a code.length c hl).mono ?_
  rintro e w1 ⟨rfl, S1, n1⟩
  have sl := S1.lt
  go_wp2_with fail
  refine (l4DrawKey_any w1 w.heap.size g a c code 0 (by omega) (by omega) S1 (hr.up n1) hne hb hl).mono ?_
  rintro e w2 ⟨xs, xb, xl, ⟨a1, c1, g1, rfl, o1, p1, q1, r1⟩, N2, ⟨t2, t20, t21, S2⟩⟩
  have m2 := N2.size
  have n12 : Below w.heap.size w1 w2 := N2.below (Nat.le_refl _) (by omega)
  have K2 := n1.trans n12
  go_wp2_with fail
  refine (l4DrawU_any w2 w.heap.size g a c code t2 t20 (by omega) S2 (hr.up K2) hne hb hl).mono ?_
  rintro e w3 ⟨ys, yb, yl, ⟨a2, c2, g2, rfl, o2, p2, q2, r2⟩, N3, ⟨t3, t30, t31, S3⟩⟩
  have n23 : Below w.heap.size w2 w3 := N3.below (Nat.le_refl _) (by omega)
  have K3 := K2.trans n23
  have o1a := o1.but N3 (fun _ => by omega)
  clear N2 N3 S1 S2 S3 n1 n12 n23 K2 o1
  go_wp2
  go_ret2
  exact ⟨a1, a2, c1, c2, g1, g2, xs, ys, rfl, o1a, o2, xb, yb, K3⟩
end Go.Proofs.YtkpomobhjkikeaaGreatDoor
namespace Go.Proofs.YtkpomobhjkikeaaGreatDoor
set_option maxRecDepth 100000
open Go Go.RowKit
theorem lw32M_any (w : World) (g : Nat) (a : Option Addr) (c : Nat) (xs : List Int) (ha : Rd w g a .u8 xs) :
    Calls Tryz.prog 19 #[.slice a xs.length c] w fun e w' => e = .returned (.slice (some ⟨w.heap.size, 0, none⟩) (to32 xs).length 32) ∧ Blk w' w.heap.size .u8 (to32 xs) ∧ Below w.heap.size w w' := by
  rw [to32_len]
  exact lw32_any6 w g a c xs ha
theorem cell_new (w : World) (cs : Array Value) (t : TypeId) (i : Nat) (v : Value) (h : cs[i]? = some v) : (w.alloc (.cells cs t)).cell? ⟨w.heap.size, i, none⟩ = some v := by
  have e : (w.alloc (.cells cs t)).heap[w.heap.size]? = some (.cells cs t) := heap_alloc_last _ _
  unfold World.cell?
  simp only
  rw [e]
  exact h
theorem Own.al {W : World} {g : Nat} {a : Option Addr} {k : IntKind} {xs : List Int} (h : Own W g a k xs) (o : Obj) : Own (W.alloc o) g a k xs := h.up ((Below.refl _ _).alloc (Nat.le_refl _) _)
def Six (w : World) (e : Ending) (w' : World) : Prop := ∃ (q g1 g2 g3 : Nat) (X Y Z : List Int), e = .returned (.slice (some ⟨q, 0, none⟩) 6 6) ∧ w'.cell? ⟨q, 0, none⟩ = some (.slice (some ⟨g1, 0, none⟩) X.length 32) ∧ w'.cell? ⟨q, 1, none⟩ = some (.slice (some ⟨g2, 0, none⟩) Y.length 32) ∧ w'.cell? ⟨q, 2, none⟩ = some (.slice (some ⟨g3, 0, none⟩) Z.length 32) ∧
  Own w' g1 (some ⟨g1, 0, none⟩) .u8 X ∧ Own w' g2 (some ⟨g2, 0, none⟩) .u8 Y ∧ Own w' g3 (some ⟨g3, 0, none⟩) .u8 Z ∧ Hid ((Byt X ∧ X.length = 32) ∧ (Byt Y ∧ Y.length = 32) ∧ (Byt Z ∧ Z.length = 32)) ∧ Below w.heap.size w w'
set_option maxHeartbeats 4000000 in
theorem lwSix_any (w : World) (g g' : Nat) (a b : Option Addr) (ca cb : Nat) (code more : List Int) (hc : Rd w g a .u8 code) (hm : Rd w g' b .u8 more) (bc : Byt code) (bm : Byt more) (lc : code.length ≤ 1048576) (lm : more.length ≤ 1048576) :
    Calls Tryz.prog 6 #[.slice a code.length ca, .slice b more.length cb] w fun e w' => Six w e w' := by
  go_enter Tryz.func6, Tryz.ntmps6
  go_wp2_with fail
  refine (drawFieldMul_any w g a ca code hc bc lc).mono ?_
  rintro e w1 ⟨a1, a2, c1, c2, g1, g2, x1, x2, rfl, o1, o2, b1, b2, n1⟩
  go_wp2_with fail
  refine (drawFieldMul_any w1 g' b cb more (hm.up n1) bm lm).mono ?_
  rintro e w2 ⟨a3, a4, c3, c4, g3, g4, x3, x4, rfl, o3, o4, b3, b4, n2⟩
  have N2 := nxt n1 n2
  go_wp2_with fail
  refine (drawLadder_any w2 g a ca code (hc.up N2) bc lc).mono ?_
  rintro e w3 ⟨a5, a6, c5, c6, g5, g6, x5, x6, rfl, o5, o6, b5, b6, n3⟩
  have N3 := nxt N2 n3
  replace o1 := (o1.up n2).up n3
  replace o2 := (o2.up n2).up n3
  replace o3 := o3.up n3
  replace o4 := o4.up n3
  clear n1 n2 n3 N2
  go_wp2_with fail
  refine (lw32M_any w3 g1 a1 c1 x1 o1.rd).mono ?_
  rintro e w4 ⟨rfl, B4, n4⟩
  go_wp2_with fail
  refine (lw32M_any w4 g2 a2 c2 x2 (o2.up n4).rd).mono ?_
  rintro e w5 ⟨rfl, B5, n5⟩
  go_wp2_with fail
  refine (lw32M_any w5 g3 a3 c3 x3 ((o3.up n4).up n5).rd).mono ?_
  rintro e w6 ⟨rfl, B6, n6⟩
  have M6 := nxt (nxt n4 n5) n6
  have P4 := (B4.up n5).up n6
  have P5 := B5.up n6
  have N6 := nxt N3 M6
  replace o4 := o4.up M6
  replace o5 := o5.up M6
  replace o6 := o6.up M6
  have HB := hide (show (Byt (to32 x1) ∧ (to32 x1).length = 32) ∧ (Byt (to32 x2) ∧ (to32 x2).length = 32) ∧ (Byt (to32 x3) ∧ (to32 x3).length = 32) from ⟨⟨to32_byt b1, to32_len _⟩, ⟨to32_byt b2, to32_len _⟩, to32_byt b3, to32_len _⟩)
  generalize to32 x1 = X at *
  generalize to32 x2 = Y at *
  generalize to32 x3 = Z at *
  clear o1 o2 o3 b1 b2 b3 B4 B5 n4 n5 n6 M6 N3
  obtain ⟨q1, h1⟩ : ∃ q, q = w3.heap.size := ⟨_, rfl⟩
  obtain ⟨q2, h2⟩ : ∃ q, q = w4.heap.size := ⟨_, rfl⟩
  obtain ⟨q3, h3⟩ : ∃ q, q = w5.heap.size := ⟨_, rfl⟩
  rw [← h1] at P4 ⊢
  rw [← h2] at P5 ⊢
  rw [← h3] at B6 ⊢
  clear h1 h2 h3
  go_wp2_with fail
  refine (lw32M_any w6 g4 a4 c4 x4 o4.rd).mono ?_
  rintro e w7 ⟨rfl, -, n7⟩
  go_wp2_with fail
  refine (lw32M_any w7 g5 a5 c5 x5 (o5.up n7).rd).mono ?_
  rintro e w8 ⟨rfl, -, n8⟩
  go_wp2_with fail
  refine (lw32M_any w8 g6 a6 c6 x6 ((o6.up n7).up n8).rd).mono ?_
  rintro e w9 ⟨rfl, -, n9⟩
  have M9 := nxt (nxt n7 n8) n9
  have O4 := (P4.up M9).own0
  have O5 := (P5.up M9).own0
  have O6 := (B6.up M9).own0
  have N9 := nxt N6 M9
  clear P4 P5 B6 N6 M9 n7 n8 n9 o4 o5 o6
  go_wp2
  go_ret
  exact ⟨w9.heap.size, q1, q2, q3, X, Y, Z, rfl, cell_new _ _ _ 0 _ rfl, cell_new _ _ _ 1 _ rfl, cell_new _ _ _ 2 _ rfl, O4.al _, O5.al _, O6.al _, HB, N9.alloc N9.size _⟩
end Go.Proofs.YtkpomobhjkikeaaGreatDoor
namespace Go.Proofs.YtkpomobhjkikeaaGreatDoor
set_option maxRecDepth 100000
open Go Go.RowKit Go.Shelf
attribute [local go_sem] Oper.semAt_some
abbrev PcN2k (N : Nat) := { k : Nat // 2048 * k < N }
def pcL2k (N k : Nat) : Nat := min 2048 (N - 2048 * k)
def pcE2k (g o N : Nat) (x : PcN2k N) : Array Value := #[.slice (some ⟨g, o + 2048 * x.1, none⟩) (pcL2k N x.1) (pcL2k N x.1)]
set_option maxRecDepth 100000 in
set_option maxHeartbeats 2000000 in
theorem chunk1_in2k (n : Nat) (hn : 1 ≤ n) (l Bs Bn g o N c : Nat) (a : Option Addr) (ha : 0 < N → a = some ⟨g, o, none⟩) (hc : N ≤ c) (hN : N ≤ 4194304) (J Jx : List (PcN2k N) → World → Prop)
    (hY : ∀ pre x W, J pre W → pre.length < (N + 2047) / 2048 → YieldAt Fence.wide (n - 1) Tryz.prog l (pcE2k g o N x) W fun e W' =>
      (e = .returned (.bool true) ∧ J (pre ++ [x]) W' ∧ KpB Bs Bn W W') ∨ (e = .returned (.bool false) ∧ Jx (pre ++ [x]) W'))
    (W : World) (hBs : W.cell? ⟨Bs, 0, none⟩ = some (.slice a N c)) (hBn : W.cell? ⟨Bn, 0, none⟩ = some (.int .i64 2048)) (h0 : J [] W) (hA : AbidesFrom W.heap.size J) :
    CallsIn Fence.wide n Tryz.prog 34 #[.func (.yield l) #[] #[], .pointer (some ⟨Bs, 0, none⟩), .pointer (some ⟨Bn, 0, none⟩)] W fun e W' => (∃ v, e = .returned v) ∧
      ((∃ ys, (ys.map (·.1) = List.range ((N + 2047) / 2048)) ∧ J ys W') ∨ (∃ pre, True ∧ Jx pre W')) := by
  refine callsIn_of_wp Tryz.func34 rfl trivial ?_ rfl
  simp only [Tryz.ntmps34, List.size_toArray, List.length_cons, List.length_nil, Nat.reduceAdd, Nat.reduceSub, Array.replicate_succ, Array.replicate_zero, List.push_toArray, List.append_toArray, List.nil_append, List.cons_append]
  gi_wp2
  gi_loopw [4, 5] (fun i _ wr => ∃ (k : Nat) (pre : List (PcN2k N)), pre.map (·.1) = List.range k ∧ i = .int .i64 ((2048 * k : Nat) : Int) ∧ 2048 * k < N + 2048 ∧ J pre wr ∧ KpB Bs Bn W wr) (fun i _ _ => N + 2048 - (intOf i).toNat)
  case atStart => exact ⟨0, [], rfl, rfl, by omega, h0, ⟨rfl, rfl⟩⟩
  case round =>
    obtain ⟨k, pre, hp, rfl, hk, hJ, hK⟩ := hrel
    have b1 := (World.cell?_of_block (a := ⟨Bs, 0, none⟩) hK.1).trans hBs
    have b2 := (World.cell?_of_block (a := ⟨Bn, 0, none⟩) hK.2).trans hBn
    have pl : pre.length = k := by have := congrArg List.length hp; simpa using this
    by_cases hlt : 2048 * k < N
    · obtain rfl := ha (by omega)
      have ik : ((2048 * k : Nat) : Int) < (N : Int) := by omega
      have hcI : (N : Int) ≤ (c : Int) := by omega
      have em : (if ((N - 2048 * k : Nat) : Int) < 2048 then ((N - 2048 * k : Nat) : Int) else 2048) = ((pcL2k N k : Nat) : Int) := by unfold pcL2k; split <;> omega
      have e0 : 0 < pcL2k N k := by unfold pcL2k; omega
      have e1 : 2048 * k + pcL2k N k ≤ N := by unfold pcL2k; omega
      have EM := hide em
      clear em
      gi_wp2
      refine wpIn_wide.2 ?_
      go_quiet (fail)
      rw [EM.out]
      clear EM
      have g1 : wr.grownBy (wr.drewN nq) none := ⟨rfl, rfl, rfl, Nat.le_refl _, fun _ _ _ => rfl⟩
      have hJ1 := hA pre wr _ none hJ g1 (by simp)
      have hK1 : KpB Bs Bn W (wr.drewN nq) := hK
      have c1 : (wr.drewN nq).cell? ⟨Bs, 0, none⟩ = some (.slice (some ⟨g, o, none⟩) N c) := b1
      have c2 : (wr.drewN nq).cell? ⟨Bn, 0, none⟩ = some (.int .i64 2048) := b2
      obtain ⟨fn, tmps, assign, body, hy, hR⟩ := hY pre ⟨k, hlt⟩ (wr.drewN nq) hJ1 (by omega)
      unfold pcE2k at hy
      dsimp only at hy
      generalize wr.drewN nq = w1 at *
      clear g1 hJ hK b1 b2 hJ1
      generalize pcL2k N k = e at *
      have ee : 2048 * k + e - 2048 * k = e := by omega
      have ec : 2048 * k + e ≤ c := by omega
      have e2 : ¬ (2048 * k + e = 2048 * k) := by omega
      gi_wp2
      refine hR.mono ?_
      rintro x W3 (⟨rfl, hJ3, hk3⟩ | ⟨rfl, hJx3⟩)
      · have K3 := hK1.t hk3
        have b1 := (World.cell?_of_block (a := ⟨Bs, 0, none⟩) K3.1).trans hBs
        have b2 := (World.cell?_of_block (a := ⟨Bn, 0, none⟩) K3.2).trans hBn
        gi_wp2
        go_roundw
        case rel => exact ⟨k + 1, pre ++ [⟨k, hlt⟩], by rw [List.map_append, hp, List.range_succ]; rfl, by go_num, by omega, hJ3, K3⟩
        case measure => simp [intOf]; omega
      · gi_wp2
        refine bodyPost_ret (results_none rfl _ _ _) rfl ?_
        exact ⟨⟨_, rfl⟩, .inr ⟨_, trivial, hJx3⟩⟩
    · have ik : ¬ ((2048 * k : Nat) : Int) < (N : Int) := by omega
      have kk : k = (N + 2047) / 2048 := by omega
      have KK := hide kk
      clear kk
      gi_wp2
      go_end0
      exact ⟨⟨_, rfl⟩, .inl ⟨pre, hp.trans (by rw [KK.out]), hJ⟩⟩
theorem chunk_any2k (w : World) (a : Option Addr) (N c : Nat) :
    Calls Tryz.prog 20 #[.slice a N c, .int .i64 2048] w fun e w' => e = .returned (.func (.func 34) #[] #[.pointer (some ⟨w.heap.size, 0, none⟩), .pointer (some ⟨w.heap.size + 1, 0, none⟩)]) ∧ w' = (w.alloc (.cells #[.slice a N c] 22)).alloc (.cells #[.int .i64 2048] 3) := by
  go_enter Tryz.func20, Tryz.ntmps20
  go_wp2
  go_ret
  exact ⟨by simp, rfl⟩
theorem chunk_stops2k (n : Nat) (hn : 1 ≤ n) (Bs Bn g o N c : Nat) (a : Option Addr) (ha : 0 < N → a = some ⟨g, o, none⟩) (hc : N ≤ c) (hN : N ≤ 4194304) (w : World) (h1 : Bs < w.heap.size) (h2 : Bn < w.heap.size) (hBs : w.cell? ⟨Bs, 0, none⟩ = some (.slice a N c)) (hBn : w.cell? ⟨Bn, 0, none⟩ = some (.int .i64 2048)) :
    SeqStopsK Fence.wide n Tryz.prog 34 #[.pointer (some ⟨Bs, 0, none⟩), .pointer (some ⟨Bn, 0, none⟩)] (pcE2k g o N) (KpB Bs Bn) (fun ys => ys.map (·.1) = List.range ((N + 2047) / 2048)) (fun _ => True) ((N + 2047) / 2048) w := fun l J Jx W hW hJ _ hY h0 =>
  chunk1_in2k n hn l Bs Bn g o N c a ha hc hN J Jx hY W ((hW.cell (p := ⟨Bs, 0, none⟩) h1).trans hBs) ((hW.cell (p := ⟨Bn, 0, none⟩) h2).trans hBn) h0 hJ
end Go.Proofs.YtkpomobhjkikeaaGreatDoor
namespace Go.Proofs.YtkpomobhjkikeaaGreatDoor
set_option maxRecDepth 100000
open Go Go.RowKit Go.Shelf
theorem BRowP.appQ {w : World} {B : Nat} {v : Value} {its : List (List Int)} {bs : List Plc} (h : BRowP w B v its bs) (x : List Int) (q : Plc) (p0 : Nat) (hp0 : RwC w p0 [.slice q.a x.length q.c] 33) (hB : B ≤ w.heap.size) (hq : Lie w x q) (M : Nat) (hBM : B ≤ M) (hM1 : ∀ i, i < its.length → 0 < (its.getD i []).length → (bs.getD i plc0).q < M) (hM2 : ∀ k, v.ownBlock = some k → k < M) (hqM : M ≤ q.q) (hl : its.length ≤ 1048576) :
    ∃ v' w', (Builtin.append_ #[29, 29] 29 #[v, .slice (some ⟨p0, 0, none⟩) 1 1]).run Tryz.prog w = .ok v' w' ∧ BRowP w' B v' (its ++ [x]) (bs ++ [q]) ∧ (∀ k, k < w.heap.size → v.ownBlock ≠ some k → w'.heap[k]? = w.heap[k]?) ∧ Below B w w' ∧ (∀ p, p < w.heap.size → v.ownBlock ≠ some p → v'.ownBlock ≠ some p) := by
  obtain ⟨i, hi, hz, hs, hby⟩ := info_parts bInfo
  have na : Below w.heap.size w w := Below.refl _ _
  have h0 : w.ownsRow B 33 1 v its.length (blCs its bs) := h.o
  have hcell : ∀ j u, [blC x q][j]? = some u → w.cell? ((⟨p0, 0, none⟩ : Addr).add j) = some u := by
    intro j u hj
    rw [Addr.add_mid, Nat.zero_add, hp0.cell j]
    exact hj
  obtain ⟨v', w', h1, h2, h3, h4, h5⟩ := run_append_own_at (P := Tryz.prog) w B 29 29 33 i (.agg #[.slice none 0 0]) 1 24 bUnd hi hz hs hby rfl (by decide) v its.length (blCs its bs) h0 ⟨p0, 0, none⟩ 1 1 ([blC x q]) (by simp [blC]) hcell (fun u hu => by
    simp only [blC, List.mem_cons, List.not_mem_nil, or_false] at hu
    subst hu; rfl) (by unfold maxLen; omega) (by omega) (Nat.le_trans hB na.size)
  have keep : ∀ k, k < w.heap.size → v.ownBlock ≠ some k → w'.heap[k]? = w.heap[k]? := fun k hk hne => (h3.block k (by omega) (fun e => hne e.symm)).trans (na.block k hk)
  have ob := h.o.lt
  have A1 : ∀ j, j < its.length → (bs ++ [q]).getD j plc0 = bs.getD j plc0 := fun j hj => by
    have : j < bs.length := by rw [h.l]; exact hj
    simp [List.getD, List.getElem?_append_left this]
  have A2 : ∀ j, j < its.length → (its ++ [x]).getD j [] = its.getD j [] := fun j hj => by simp [List.getD, List.getElem?_append_left hj]
  have A3 : (bs ++ [q]).getD its.length plc0 = q := by rw [← h.l]; simp
  have A4 : (its ++ [x]).getD its.length [] = x := by simp
  have hqr : v.ownBlock ≠ some q.q := fun e => by have := hM2 _ e; omega
  have LT : ∀ p, p < w.heap.size → v.ownBlock ≠ some p → v'.ownBlock ≠ some p := fun p hp hn => by
    rcases h5 with h5 | h5
    · rw [h5]; exact hn
    · rw [h5]
      intro e
      have e := Option.some.inj e
      omega
  refine ⟨v', w', h1, ⟨?_, by simp [h.l], fun j hj => ?_, fun j hj h0' => ?_, fun j k hj hk hne hj0 hk0 => ?_⟩, keep, (Below.refl B w).grown h3 (by omega) (fun k hk => (ob k hk).1), LT⟩
  · show w'.ownsRow B 33 1 v' (its ++ [x]).length (blCs (its ++ [x]) (bs ++ [q]))
    rw [blCs_snoc its bs x q h.l, List.length_append]
    exact h2
  · by_cases hj' : j < its.length
    · rw [A1 j hj', A2 j hj']
      exact (h.b j hj').of fun h0' => keep _ (h.lt hj' h0') (h.h j hj' h0').2
    · have ej : j = its.length := by simp at hj; omega
      subst ej
      rw [A3, A4]
      exact hq.of fun h0' => keep _ (hq.o.rd.lt h0') hqr
  · by_cases hj' : j < its.length
    · rw [A2 j hj'] at h0'
      rw [A1 j hj']
      exact ⟨(h.h j hj' h0').1, LT _ (h.lt hj' h0') (h.h j hj' h0').2⟩
    · have ej : j = its.length := by simp at hj; omega
      subst ej
      rw [A4] at h0'
      rw [A3]
      exact ⟨by omega, LT _ (hq.o.rd.lt h0') hqr⟩
  · by_cases hj' : j < its.length
    · rw [A2 j hj'] at hj0
      rw [A1 j hj']
      by_cases hk' : k < its.length
      · rw [A2 k hk'] at hk0
        rw [A1 k hk']
        exact h.d j k hj' hk' hne hj0 hk0
      · have ek : k = its.length := by simp at hk; omega
        subst ek
        rw [A3]
        have := hM1 j hj' hj0
        omega
    · have ej : j = its.length := by simp at hj; omega
      subst ej
      have hk' : k < its.length := by simp at hk; omega
      rw [A2 k hk'] at hk0
      rw [A1 k hk', A3]
      have := hM1 k hk' hk0
      omega
theorem BRowP.ofK {W W' : World} {row : Option Nat} {B : Nat} {v : Value} {its : List (List Int)} {bs : List Plc} (h : BRowP W B v its bs) (hg : W.grownBy W' row) (hr : ∀ r, row = some r → ∃ o : Obj, W.heap[r]? = some o ∧ o.isCells = false) : BRowP W' B v its bs := by
  refine ⟨⟨h.o.1, ?_⟩, h.l, fun i hi => ?_, h.h, h.d⟩
  · rcases h.o.2 with h' | ⟨g, cap, cur, rfl, hbg, hc, hnc, hcm, hcs, ht⟩
    · exact .inl h'
    · exact .inr ⟨g, cap, cur, rfl, hbg, (grownBy_keeps_cells hg hr hc rfl).trans hc, hnc, hcm, hcs, ht⟩
  · refine (h.b i hi).of fun h0 => ?_
    obtain ⟨o, e, hc⟩ := (h.b i hi).o.rd h0
    obtain ⟨ob, ho, hcell⟩ := cells_of_cell (hc 0 h0)
    exact grownBy_keeps_cells hg hr ho hcell
theorem BRowP.cellsAt {W : World} {B : Nat} {v : Value} {its : List (List Int)} {bs : List Plc} (h : BRowP W B v its bs) {k : Nat} {o : Obj} (hk : W.heap[k]? = some o) (ho : o.isCells = false) : v.ownBlock ≠ some k := by
  rcases h.o.2 with ⟨h', -⟩ | ⟨g, cap, cur, rfl, hbg, hc, -⟩
  · rw [h']
    simp [Value.ownBlock]
  · intro e
    have : g = k := by simpa [Value.ownBlock] using e
    subst this
    rw [hc] at hk
    obtain rfl := Option.some.inj hk
    simp [Obj.isCells] at ho
section
variable {P : Program} {ops : Array Oper} {Q : Exit → Act → World → Prop} {n l : Nat} {a0 : Act}
theorem region_appP_in {id : Nat} {w : World} (k jR jS pR pS dA : Nat) (t : TypeId) (o o2 : Oper) (F : Nat → Fact) (GS : Fact) (vr : Value) (q1 : Nat) (R : Value → World → Prop) (hm : P.follows .mixedOrders = true) (hq : ¬ LetsOut Q) (hnd : noDefer ops.toList = true) (hT : textTail .any true ops a0.tmps.size k = true) (hk : ops.toList.drop k = [o, o2]) (ho : ops[k]? = some o)
    (hop : o.op = .call { callee := .builtin .append, args := #[.tmp pR, .tmp pS], argTypes := #[t, t] }) (hty : o.type = t) (hd : o.dst = some dA) (sA : dA < a0.tmps.size)
    (hst : ∀ a W v', Based ops a0 a → a.tmps.getD dA undef = v' → R v' W → Q .normal a (W.setCell ⟨q1, 0, none⟩ v') → o2.wp P a W (fun a'' w3 => Q .normal a'' w3) Q)
    (wR : decide (jR < k) = true ∧ writes ops jR pR = true) (FR : F jR = Fact.eq vr) (wS : decide (jS < k) = true ∧ writes ops jS pS = true) (FS : F jS = GS) (steps : ∀ i, i < k → StepOk P .any ops Q F a0 w i)
    (hA : ∀ W vS, Below w.heap.size w W → GS.p vS W → ∃ v' w', (Builtin.append_ #[t, t] t #[vr, vS]).run P W = .ok v' w' ∧ R v' w')
    (fin : ∀ (vs : Nat → Value) (W : World) (v' : Value), R v' W → Q .normal (puts vs a0 ops.toList) (W.setCell ⟨q1, 0, none⟩ v')) : (Code.region id ops true).wpIn (Fence.wide.inRound l) n P Q a0 w := by
  have T := textT_of hT
  have fin' : HeadDone P ops Q F a0 w k [] := fun a W hb hw hf _ => by
    rw [hk]
    show o.wp P a W (fun a' w' => o2.wp P a' w' (fun a3 w3 => Q .normal a3 w3) Q) Q
    obtain ⟨or, hor, hdr⟩ := writes_is wR.2
    obtain ⟨os, hos, hds⟩ := writes_is wS.2
    have e1 := hf jR or pR (of_decide_eq_true wR.1) hor hdr
    rw [FR] at e1
    have e2 := hf jS os pS (of_decide_eq_true wS.1) hos hds
    rw [FS] at e2
    obtain ⟨v', w', hr, hR⟩ := hA W _ hw e2
    have e1' : a.tmps.getD pR undef = vr := e1
    refine Lib.wp_append_run W (.tmp pR) (.tmp pS) t t hop vr (a.tmps.getD pS undef) e1' rfl v' w' (by rw [hty]; exact hr) ?_
    have hb1 := Based.put hb ho v'
    have x2 : (a.put o.dst v').tmps.getD dA undef = v' := by
      rw [hd]
      exact put_at (by rw [hb.2.1]; exact sA)
    refine hst _ w' v' hb1 x2 hR ?_
    obtain ⟨vs, hvs⟩ : ∃ vs : Nat → Value, ∀ d, (a.put o.dst v').tmps.getD d undef = vs d := ⟨_, fun _ => rfl⟩
    rw [puts_tail hT rfl hb1 vs hvs]
    exact fin vs w' v' hR
  have z : ∀ j, (Array.replicate ops.size false).getD j false = false := fun j => by
    rw [Array.getD_eq_getD_getElem?, Array.getElem?_replicate]
    split <;> rfl
  have S0 : ∀ w', SepL [] (Array.replicate ops.size false) a0 w' := fun w' => ⟨fun p hp g => by simp at hp, fun p hp => by simp at hp⟩
  refine wpIn_region_any hm (any_in hq (fun i o ho c e => ?_) _ _ _ _ ?_)
  · have := List.all_eq_true.1 hnd o (by rw [← Array.getElem?_toList] at ho; exact List.mem_of_getElem? ho)
    rw [e] at this
    simp at this
  refine any_tail (w0 := w) T (Nat.le_refl _) steps [] (by simp) (by simp) fin' ops.size _ a0 _ ?_ ⟨⟨rfl, rfl, fun _ _ => rfl⟩, (Below.refl _ _).drew, ?_, ?_, by simp⟩ (S0 _) (fun j _ => z j) (by omega)
  · have : ∀ m, left (Array.replicate ops.size false) m ≤ m := by
      intro m
      induction m with
      | zero => exact Nat.le_refl _
      | succ m ih => unfold left; split <;> omega
    exact this _
  · intro i o d ho hl _
    rw [z] at hl
    simp at hl
  · intro i o ho hl
    rw [z] at hl
    simp at hl
end
def PRb (b : Nat) (D : List Int) : Fact := ⟨fun v w => RowB w b v D, fun n h => h.up n⟩
def PBl (b : Nat) (D : List Int) : Fact := ⟨fun v w => ∃ a c, v = .agg #[.slice a D.length c] ∧ RowB w b (.slice a D.length c) D, fun n h => by
  obtain ⟨a, c, e, r⟩ := h
  exact ⟨a, c, e, r.up n⟩⟩
def PBr (b : Nat) (D : List Int) : Fact := ⟨fun v w => ∃ p a c, v = .slice (some ⟨p, 0, none⟩) 1 1 ∧ RwC w p [.slice a D.length c] 33 ∧ RowB w b (.slice a D.length c) D, fun n h => by
  obtain ⟨p, a, c, e, r, q⟩ := h
  exact ⟨p, a, c, e, r.up n, q.up n⟩⟩
structure PiI (w : World) (q Z : Nat) (xs : List Int) (pre : List (PcN2k xs.length)) (W : World) : Prop where
  told : ∃ v bs its, RwC W q [v] 29 ∧ BRowP W Z v its bs ∧ its.length = pre.length ∧ (pre.map (·.1) = List.range pre.length → its = pces xs pre.length)
  siz : Z ≤ W.heap.size
  bel : Below w.heap.size w W
theorem piI_own {w : World} {q Z B : Nat} {xs : List Int} (hB : w.heap.size ≤ B) : OwnFrom B (PiI w q Z xs) := by
  intro s W W' row h hg hr
  have hr' : ∀ r, row = some r → ∃ o : Obj, W.heap[r]? = some o ∧ o.isCells = false := fun r e => (hr r e).2
  obtain ⟨v, bs, its, t1, t2, t3⟩ := h.told
  refine ⟨⟨v, bs, its, (grownBy_keeps_cells hg hr' t1 rfl).trans t1, t2.ofK hg hr', t3⟩, Nat.le_trans h.siz hg.size, ?_⟩
  exact h.bel.grown hg h.bel.size (fun k e => Nat.le_trans hB (hr k e).1)
theorem PiI.next {w W W9 : World} {q Z : Nat} {xs : List Int} {pre : List (PcN2k xs.length)} {v : Value} {bs : List Plc} {its : List (List Int)} {vS : Value} (x : PcN2k xs.length) (t1 : RwC W q [v] 29) (t2 : BRowP W Z v its bs) (t3 : its.length = pre.length) (t4 : pre.map (·.1) = List.range pre.length → its = pces xs pre.length) (sz : Z ≤ W.heap.size) (be : Below w.heap.size w W) (hq : w.heap.size ≤ q) (hqZ : q + 2 < Z) (hl : its.length ≤ 1000) (b9 : Below W.heap.size W W9) (hG : (PBr W.heap.size (pce xs x.1)).p vS W9) :
    ∃ v' w4, (Builtin.append_ #[29, 29] 29 #[v, vS]).run Tryz.prog W9 = .ok v' w4 ∧ (∃ ra p rc, v' = .slice ra p rc) ∧ w4.cell? ⟨q, 0, none⟩ = some v ∧ w4.frozen? ⟨q, 0, none⟩ = false ∧
      (KeepsFrom Z W (w4.setCell ⟨q, 0, none⟩ v') ∧ KpB (q + 1) (q + 2) W (w4.setCell ⟨q, 0, none⟩ v') ∧ PiI w q Z xs (pre ++ [x]) (w4.setCell ⟨q, 0, none⟩ v')) := by
  obtain ⟨p0, ad, cd, rfl, hp, hR⟩ := hG
  obtain ⟨a, c, gd, ev', O1, O2, O3, O4⟩ := hR.own
  simp only [Value.slice.injEq, true_and] at ev'
  obtain ⟨rfl, rfl⟩ := ev'
  have z9 := b9.size
  have R9 := t2.of (w' := W9) (fun i hi _ => b9.block i hi)
  obtain ⟨v', w4, r1, r2, r3, r4, -⟩ := R9.appQ (pce xs x.1) ⟨ad, cd, gd⟩ p0 hp (by omega) ⟨O1, O2, O3⟩ W.heap.size (by omega) (fun i hi h0 => t2.lt hi h0) (fun i hi => (t2.o.lt i hi).2) O4 (by omega)
  have q9 : RwC w4 q [v] 29 := (r4.block q (by omega)).trans ((b9.block q (by omega)).trans t1)
  have O5 := Only.setCell w4 q 0 v'
  have s4 := r4.size
  obtain ⟨ra, rc, ev, -⟩ := r2.slice
  refine ⟨v', w4, r1, ⟨ra, _, rc, ev⟩, q9.c0, q9.free 0, ⟨by have := O5.size; omega, fun k o hk ho hc => ?_⟩, ⟨?_, ?_⟩, ⟨v', _, _, q9.set 0 v', r2.of (fun i hi hB => O5.block i (by omega)), by simp [t3], fun h => ?_⟩, by have := O5.size; omega, (nxt be b9).trans ((r4.mono (show w.heap.size ≤ Z by omega)).trans (O5.below hq))⟩
  · have lk := (Array.getElem?_eq_some_iff.1 ho).1
    exact (O5.block k (by omega)).trans ((r3 k (by omega) (t2.cellsAt ho hc)).trans ((b9.block k lk).trans ho))
  · exact (O5.block _ (by omega)).trans ((r4.block _ (by omega)).trans (b9.block _ (by omega)))
  · exact (O5.block _ (by omega)).trans ((r4.block _ (by omega)).trans (b9.block _ (by omega)))
  · have lx : (pre ++ [x]).length = pre.length + 1 := by simp
    rw [lx, List.map_append, List.range_succ] at h
    obtain ⟨h1', h2'⟩ := List.append_inj' h rfl
    have h3' : x.1 = pre.length := by simpa using h2'
    rw [lx, t4 h1', pces_snoc, h3']
end Go.Proofs.YtkpomobhjkikeaaGreatDoor
namespace Go.Proofs.YtkpomobhjkikeaaGreatDoor
set_option maxRecDepth 100000
open Go Go.RowKit Go.Shelf
attribute [local go_sem] Oper.semAt_some
def offP : Option Addr → Nat
  | none => 0
  | some a => a.off
theorem offP_of {w : World} {g : Nat} {a : Option Addr} {k : IntKind} {xs : List Int} (h : Rd w g a k xs) (h0 : 0 < xs.length) : a = some ⟨g, offP a, none⟩ := by
  obtain ⟨o, rfl, _⟩ := h h0
  rfl
set_option maxRecDepth 100000 in
set_option maxHeartbeats 8000000 in
theorem implPieces_any (w : World) (g : Nat) (a : Option Addr) (c : Nat) (xs : List Int) (hr : Rd w g a .u8 xs) (hc : xs.length ≤ c) (hn : xs.length ≤ 1048576) :
    Calls Tryz.prog 7 #[.slice a xs.length c] w fun e w' => NewBP w.heap.size w' e xs ∧ Below w.heap.size w w' := by
  have DN := hide hn
  have DC := hide hc
  have n0 : Below w.heap.size w (w.alloc (.cells #[.slice none 0 0] 29)) := (Below.refl _ _).alloc (Nat.le_refl _) _
  have T0 := RwC.new w [.slice none 0 0] 29
  have s0 : (w.alloc (.cells #[.slice none 0 0] 29)).heap.size = w.heap.size + 1 := by simp
  clear hn hc
  refine (callsIn_wide (n := 5)).1 (callsIn_of_wp_marks Tryz.func7 rfl trivial ?_ rfl)
  refine wpIn_wide.2 ?_
  simp only [Tryz.ntmps7, List.size_toArray, List.length_cons, List.length_nil, Nat.reduceAdd, Nat.reduceSub, Array.replicate_succ, Array.replicate_zero, List.push_toArray, List.append_toArray, List.nil_append, List.cons_append]
  go_upto_region 2 with fail
  generalize w.alloc (.cells #[.slice none 0 0] 29) = wd at *
  go_wp2_with fail
  refine (chunk_any2k wd a xs.length c).mono ?_
  rintro e w6 ⟨rfl, rfl⟩
  have n5 : Below wd.heap.size wd (wd.alloc (.cells #[.slice a xs.length c] 22)) := (Below.refl _ _).alloc (Nat.le_refl _) _
  have C5 : (wd.alloc (.cells #[.slice a xs.length c] 22)).cell? ⟨wd.heap.size, 0, none⟩ = some (.slice a xs.length c) := by simp [World.cell?_alloc_at]
  have z5 : (wd.alloc (.cells #[.slice a xs.length c] 22)).heap.size = wd.heap.size + 1 := by simp
  generalize wd.alloc (.cells #[.slice a xs.length c] 22) = w5 at *
  have n6 : Below w5.heap.size w5 (w5.alloc (.cells #[.int .i64 2048] 3)) := (Below.refl _ _).alloc (Nat.le_refl _) _
  have C6 : (w5.alloc (.cells #[.int .i64 2048] 3)).cell? ⟨w5.heap.size, 0, none⟩ = some (.int .i64 2048) := by simp [World.cell?_alloc_at]
  have z6 : (w5.alloc (.cells #[.int .i64 2048] 3)).heap.size = w5.heap.size + 1 := by simp
  generalize w5.alloc (.cells #[.int .i64 2048] 3) = w6 at *
  rw [s0] at C5 z5 ⊢
  rw [z5] at C6 z6
  have N6 : Below w.heap.size w w6 := nxt (nxt n0 n5) n6
  have I0 : PiI w w.heap.size (w.heap.size + 3) xs [] w6 := ⟨⟨_, [], [], (T0.up n5).up n6, ⟨⟨rfl, .inl ⟨rfl, rfl⟩⟩, rfl, fun i h => absurd h (by simp), fun i h => absurd h (by simp), fun i j h => absurd h (by simp)⟩, rfl, fun _ => rfl⟩, by omega, N6⟩
  have D5 : w6.cell? ⟨w.heap.size + 1, 0, none⟩ = some (.slice a xs.length c) := (World.cell?_of_block (a := ⟨w.heap.size + 1, 0, none⟩) (n6.block (w.heap.size + 1) (by omega))).trans C5
  have S6 : Hid (w6.heap.size = w.heap.size + 3) := by show _ = _; omega
  clear n5 n6 C5 s0 z5 z6 N6 T0 n0
  go_wp2
  refine (wpIn_wide (n := 5)).1 (wpIn_rangeFunc_ownG (n := 5) rfl (by omega) (gf := 34) (lb := #[.pointer (some ⟨w.heap.size + 1, 0, none⟩), .pointer (some ⟨w.heap.size + 1 + 1, 0, none⟩)]) rfl trivial (enters_of Tryz.func34 (by kernel_rfl) rfl)
    (chunk_stops2k 4 (by omega) (w.heap.size + 1) (w.heap.size + 1 + 1) g (offP a) xs.length c a (fun h => offP_of hr h) DC.out (by have := DN.out; omega) w6 (by have := S6.out; omega) (by have := S6.out; omega) D5 C6) KpB.t (KpB.b (by have := S6.out; omega) (by have := S6.out; omega)) (Below.refl _ _) (fun _ => rfl)
    (PiI w w.heap.size (w.heap.size + 3) xs) (fun _ _ _ => False) (piI_own (by have := S6.out; omega)) (fun _ _ _ _ _ h _ _ => h) I0
    (fun x => { tmps := #[.slice a xs.length c, undef, .slice none 0 0, .pointer (some ⟨w.heap.size, 0, none⟩), .slice (some ⟨g, offP a + 2048 * x.1, none⟩) (pcL2k xs.length x.1) (pcL2k xs.length x.1), .slice a xs.length c, Value.func (Fn.func 34) #[] #[Value.pointer (some ⟨w.heap.size + 1, 0, none⟩), Value.pointer (some ⟨w.heap.size + 1 + 1, 0, none⟩)], .slice (some ⟨g, offP a + 2048 * x.1, none⟩) (pcL2k xs.length x.1) (pcL2k xs.length x.1), undef, undef, undef, undef, undef, undef, undef], defers := [] }) ?assign ?body ?done ?stop)
  case assign =>
    intro l x W K hK
    unfold pcE2k
    gi_wp2
    exact hK
  case body =>
    rintro l pre x W hI hlen
    obtain ⟨v, bs, its, t1, t2, t3, t4⟩ := hI.told
    have sz := hI.siz
    have be := hI.bel
    have xl := x.2
    have ea := offP_of hr (show 0 < xs.length by omega)
    obtain ⟨pe, hpe⟩ : ∃ e, e = pcL2k xs.length x.1 := ⟨_, rfl⟩
    have PL : Hid ((pce xs x.1).length = pe) := by show _ = _; rw [pce_len, hpe]; rfl
    have PR : Hid (Rd w g (some ⟨g, offP a + 2048 * x.1, none⟩) .u8 (pce xs x.1)) := by
      rw [ea] at hr
      exact rd_pce hr x.1
    have NX := hide fun W9 vS b9 hG => PiI.next (w := w) (W9 := W9) (vS := vS) x t1 t2 t3 t4 sz be (Nat.le_refl _) (by omega) (by have := DN.out; omega) b9 hG
    have yq := t1.c0
    have lq := t1.lt
    obtain ⟨ra, rc, ev, -⟩ := t2.slice
    obtain ⟨p1, hp1⟩ : ∃ p1, p1 = its.length := ⟨_, rfl⟩
    rw [← hp1] at ev
    subst ev
    have pb : pe ≤ 2048 := by rw [hpe]; unfold pcL2k; omega
    rw [← hpe]
    clear hpe hI t1 t2 t3 t4 hp1 ea
    gi_wp2_with fail
    refine region_appP_in 5 0 4 8 12 13 29 _ _ (fun i => [Fact.eq (.slice ra p1 rc), Fact.eq (.slice (some ⟨g, offP a + 2048 * x.1, none⟩) pe pe), PRb W.heap.size (pce xs x.1), PBl W.heap.size (pce xs x.1), PBr W.heap.size (pce xs x.1)].getD i Fact.no) (PBr W.heap.size (pce xs x.1)) (.slice ra p1 rc) w.heap.size (fun v' w4 => (∃ ra p rc, v' = .slice ra p rc) ∧ w4.cell? ⟨w.heap.size, 0, none⟩ = some (.slice ra p1 rc) ∧ w4.frozen? ⟨w.heap.size, 0, none⟩ = false ∧ (KeepsFrom (w.heap.size + 3) W (w4.setCell ⟨w.heap.size, 0, none⟩ v') ∧ KpB (w.heap.size + 1) (w.heap.size + 2) W (w4.setCell ⟨w.heap.size, 0, none⟩ v') ∧ PiI w w.heap.size (w.heap.size + 3) xs (pre ++ [x]) (w4.setCell ⟨w.heap.size, 0, none⟩ v'))) (by kernel_rfl) (by rintro ⟨_, _, h⟩; exact h) (by kernel_rfl) (by kernel_rfl) rfl rfl rfl rfl rfl (by simp) ?_ ⟨by kernel_rfl, by kernel_rfl⟩ rfl ⟨by kernel_rfl, by kernel_rfl⟩ rfl ?_ NX.out ?_
    · rintro A W4 v' hb e1 ⟨⟨ra2, p2, rc2, rfl⟩, c1, f1, -⟩ hQ
      have e0 : A.tmps[3]?.getD undef = .pointer (some ⟨w.heap.size, 0, none⟩) := gdv (hb.2.2 3 (by kernel_rfl))
      have e1 : A.tmps[13]?.getD undef = .slice ra2 p2 rc2 := gdv e1
      unfold Oper.wp
      simp [go_sem, e0, e1, c1, f1]
      exact hQ
    · intro i hi
      obtain rfl | rfl | rfl | rfl | rfl : i = 0 ∨ i = 1 ∨ i = 2 ∨ i = 3 ∨ i = 4 := by omega
      · refine step_pure rfl fun A ww hb hw hf => ?_
        have e0 : A.tmps[3]?.getD undef = .pointer (some ⟨w.heap.size, 0, none⟩) := gdv (hb.2.2 3 (by kernel_rfl))
        have hc : ww.cell? ⟨w.heap.size, 0, none⟩ = some (.slice ra p1 rc) := (World.cell?_of_block (a := ⟨w.heap.size, 0, none⟩) (hw.block w.heap.size lq)).trans yq
        exact ⟨.slice ra p1 rc, by simp [go_sem, e0, hc], rfl⟩
      · refine step_pure rfl fun A ww hb hw hf => ?_
        have e0 : A.tmps[4]?.getD undef = .slice (some ⟨g, offP a + 2048 * x.1, none⟩) pe pe := gdv (hb.2.2 4 (by kernel_rfl))
        exact ⟨.slice (some ⟨g, offP a + 2048 * x.1, none⟩) pe pe, by simp [go_sem, e0], rfl⟩
      · refine step_callv rfl 21 _ _ rfl (by kernel_rfl) fun A ww hb hw hf => ?_
        have e6 : A.tmps.getD 9 undef = .slice (some ⟨g, offP a + 2048 * x.1, none⟩) pe pe := hf 1 9 (by kernel_rfl)
        show Calls Tryz.prog 21 #[A.tmps.getD 9 undef] ww _
        rw [e6]
        have CL := cloneR_any ww g (some ⟨g, offP a + 2048 * x.1, none⟩) pe (pce xs x.1) (PR.out.up (nxt be hw)) (by simp) (by rw [PL.out]; omega)
        rw [PL.out] at CL
        refine CL.mono ?_
        rintro r w' ⟨y, rfl, R, l⟩
        exact ⟨y, rfl, l, R.base hw.size⟩
      · refine step_pure rfl fun A ww hb hw hf => ?_
        have r8 : RowB ww W.heap.size (A.tmps.getD 10 undef) (pce xs x.1) := hf 2 10 (by kernel_rfl)
        obtain ⟨ad, cd, gd, ev, -⟩ := r8.own
        rw [ev] at r8
        have e1 : A.tmps[10]?.getD undef = .slice ad (pce xs x.1).length cd := gdv ev
        refine ⟨.agg #[.slice ad (pce xs x.1).length cd], ?_, ad, cd, rfl, r8⟩
        simp [go_sem, e1]
      · refine step_grow rfl fun A ww hb hw hf => ?_
        obtain ⟨ad, cd, ev, r8⟩ : ∃ ad cd, A.tmps.getD 11 undef = .agg #[.slice ad (pce xs x.1).length cd] ∧ RowB ww W.heap.size (.slice ad (pce xs x.1).length cd) (pce xs x.1) := hf 3 11 (by kernel_rfl)
        have e1 : A.tmps[11]?.getD undef = .agg #[.slice ad (pce xs x.1).length cd] := gdv ev
        have na : Below ww.heap.size ww (ww.alloc (.cells #[.slice ad (pce xs x.1).length cd] 33)) := (Below.refl _ _).alloc (Nat.le_refl _) _
        refine ⟨.slice (some ⟨ww.heap.size, 0, none⟩) 1 1, ww.alloc (.cells #[.slice ad (pce xs x.1).length cd] 33), ?_, na, ww.heap.size, ad, cd, rfl, RwC.new ww _ _, r8.up na⟩
        simp [go_sem, e1]
    · rintro vs W4 v' ⟨-, -, -, FIN⟩
      simp only [puts, Act.put, List.setIfInBounds_toArray, List.set_cons_succ, List.set_cons_zero]
      generalize W4.setCell ⟨w.heap.size, 0, none⟩ v' = W5 at *
      gi_wp2
      rw [S6.out]
      exact FIN
  case done =>
    rintro D xx W hD hS hI hK
    have yl : xx.length = (xs.length + 2047) / 2048 := by have := congrArg List.length hS; simpa using this
    obtain ⟨v, bs, its, t1, t2, t3, t4⟩ := hI.told
    rw [← yl] at hS
    have ez := t4 hS
    rw [yl] at ez
    subst ez
    have hdd : w.heap.size + 2 < D := by have := S6.out; omega
    have R9 : BRowP (W.putObj D (.deferred none)) (w.heap.size + 3) v (pces xs (pcN xs)) bs := t2.ofK (grownBy_putObj' W D _) (fun r e => by cases e; exact ⟨_, hK, rfl⟩)
    have N9 : Below w.heap.size w (W.putObj D (.deferred none)) := hI.bel.trans (belowK_b (w := w) (Nat.le_refl _) W D _ _ (by omega) hK rfl rfl)
    have c0 := t1.c0
    obtain ⟨ra, rc, ev, -⟩ := t2.slice
    obtain ⟨p1, hp1⟩ : ∃ p1, p1 = (pces xs ((xs.length + 2047) / 2048)).length := ⟨_, rfl⟩
    rw [← hp1] at ev
    subst ev
    have RB := hide (R9.base (C := w.heap.size) (by omega))
    clear t1 t2 t3 t4 hI yl hS R9 hp1
    go_wp2
    refine ⟨by simp, .inl ⟨_, _, rfl, run_takeDeferred hK, ?_⟩⟩
    exact ⟨_, results_tmp rfl _ _ _, ⟨.slice ra p1 rc, bs, by rfl, RB.out⟩, N9⟩
  case stop =>
    rintro D c pre W hD hs h hK
    exact h.elim
end Go.Proofs.YtkpomobhjkikeaaGreatDoor
namespace Go.Proofs.YtkpomobhjkikeaaGreatDoor
set_option maxRecDepth 100000
open Go Go.RowKit
theorem ss_appX {P : Program} {ops : Array Oper} {o : Oper} {a : Act} {w : World} {K : Act → World → Prop} {Q : Exit → Act → World → Prop} {E : Prop} (hg : o.guard = none) (s x : Operand) (t tn : TypeId)
    (ho : o.op = .call { callee := .builtin .append, args := #[s, x], argTypes := #[t, tn] }) (vs vx : Value) (hs : a.eval s = vs) (hx : a.eval x = vx) (R : Value → World → Prop)
    (H : ∃ v' w', (Builtin.append_ #[t, tn] o.type #[vs, vx]).run P w = .ok v' w' ∧ R v' w') (hK : ∀ v' w', R v' w' → K (a.put o.dst v') w') :
    if Region.wanted o (yielded ops a.tmps) = true then Oper.wp P o a w K Q else E := by
  have hw : Region.wanted o (yielded ops a.tmps) = true := by simp [Region.wanted, hg]
  rw [if_pos hw]
  obtain ⟨v', w', hr, hR⟩ := H
  exact Lib.wp_append_run w s x t tn ho vs vx hs hx v' w' hr (hK v' w' hR)
theorem byt_takeS {xs : List Int} (h : Byt xs) (n : Nat) : Byt (xs.take n) := fun i => by
  by_cases hi : i < n
  · have : (xs.take n).getD i 0 = xs.getD i 0 := by simp [List.getD, hi]
    rw [this]
    exact h i
  · have : (xs.take n).getD i 0 = 0 := by simp [List.getD, List.getElem?_take, hi]
    rw [this]
    exact ⟨by decide, by decide⟩
theorem rd_takeS {w : World} {g : Nat} {a : Option Addr} {k : IntKind} {xs : List Int} (h : Rd w g a k xs) (n : Nat) : Rd w g a k (xs.take n) := fun h0 => by
  rw [List.length_take] at h0
  obtain ⟨o, e, hc⟩ := h (by omega)
  refine ⟨o, e, fun i hi => ?_⟩
  rw [List.length_take] at hi
  rw [hc i (by omega), List.getD_eq_getElem?_getD, List.getD_eq_getElem?_getD, List.getElem?_take, if_pos (by omega)]
theorem ssR_cong (K V xs : List Int) {p q : Nat → Int} : ∀ n, (∀ i, i < n → p i = q i) → ssR K V xs p n = ssR K V xs q n
  | 0, _ => rfl
  | n + 1, h => by rw [ssR_succ, ssR_succ, ssR_cong K V xs n fun i hi => h i (by omega), h n (by omega)]
theorem pt_chain (w : World) (B : Nat) (wB : World) (g : Nat) (a : Option Addr) (c : Nat) (X1 : List Int) (hr : Rd w g a .u8 X1) (bX1 : Byt X1) (l1 : X1.length ≤ 1048576) (g1 g2 : Nat) (X V : List Int) (hK : KD w (some ⟨g1, 0, none⟩) 32 X (some ⟨g2, 0, none⟩) 32 V) (lx lv : Nat) (hX : X.length = lx) (hV : V.length = lv) (h32 : lx = 32) (h12 : lv = 12)
    (k n : Nat) (xs : List Int) (hb : Byt xs) (hn : n = pcN xs) (h10 : n ≤ 10) (hk : k < n) (pd : Nat → Int) (S : SsP X V xs pd k) (pa : Option Addr) (pc : Nat) (hp : DR w (.slice pa (pce xs k).length pc) (pce xs k)) (v : Value) (R : RowB w B v (flR (ssR X V xs pd k))) (hB : B ≤ w.heap.size) (N : Below B wB w) (hL : HasR8 w) :
    Calls Tryz.prog 5 #[.slice a X1.length c, .int .i64 (k : Int), .int .i64 257] w fun e w50 => ∃ z : Int, e = .returned (.int .i64 z) ∧ Hid (Below B wB w50) ∧
    Calls Tryz.prog 9 #[.agg #[.slice (some ⟨g1, 0, none⟩) lx 32, .slice (some ⟨g2, 0, none⟩) lv 32], .int .i64 (k : Int), .int .i64 23, .slice pa (pce xs k).length pc, .int .i64 z] w50 fun e w51 => ∃ va vn vc, e = .returned (.slice va vn vc) ∧ Hid (Below B wB w51) ∧
    ∃ v' w6, (Builtin.append_ #[22, 22] 22 #[v, .slice va vn vc]).run Tryz.prog w51 = .ok v' w6 ∧ (∃ a n c, v' = .slice a n c) ∧ Hid (∃ pd', SsP X V xs pd' (k + 1) ∧ RowB w6 B v' (flR (ssR X V xs pd' (k + 1)))) ∧ Hid (Below B wB w6) := by
  obtain ⟨i0, hi, hz0, hz1, hz2⟩ := info_parts Tryz.info5
  subst hX hV
  refine (lwAt_any w g a c X1 (k : Int) 257 hr bX1 l1 (by omega) (by omega) (by decide) (by decide)).mono ?_
  rintro e w0 ⟨z, rfl, hz, m, rfl⟩
  have n0 : Below w.heap.size w (w.drewN m) := below_drewN (Below.refl _ _) m
  have N0 := N.trans (n0.mono hB)
  refine ⟨(z : Int), rfl, N0, ?_⟩
  have e1 : ∀ i, i < k → pd i = (fun i => if i = k then (z : Int) else pd i) i := fun i hi => by
    show _ = if i = k then _ else _
    rw [if_neg (by omega)]
  obtain ⟨pq, hpq⟩ : ∃ pq : Nat → Int, pq = fun i => if i = k then (z : Int) else pd i := ⟨_, rfl⟩
  rw [← hpq] at e1
  have ek : pq k = (z : Int) := by rw [hpq]; simp
  have S1 : SsP X V xs pq (k + 1) := by
    refine ⟨fun i hi => ?_, hb⟩
    by_cases e : i = k
    · subst e
      exact (ss_ok (pd := pq) (n := i + 1) h32 h12 hb (by omega) (by omega) (fun j hj => by
        by_cases e : j = i
        · subst e; rw [ek]; omega
        · rw [← e1 j (by omega)]
          exact ⟨(S.ok j (by omega)).2.2.1, (S.ok j (by omega)).2.2.2⟩)).ok i (by omega)
    · rw [← e1 i (by omega)]
      exact S.ok i (by omega)
  have E1 := S1.step (k := k) (by omega)
  rw [ek, ← ssR_cong X V xs k e1] at E1
  have L1 := S1.len (k := k + 1) (by omega)
  refine (ptC _ (some ⟨g1, 0, none⟩) 32 X (some ⟨g2, 0, none⟩) 32 V (hK.up n0) (k : Int) 23 _ (pce xs k) (hp.up n0) (byt_pce hb k) (z : Int) (hL.up n0)).mono ?_
  rintro e w1 ⟨v1, rfl, ⟨a1, c1, q1, rfl, r1, z1, l1'⟩, n1⟩
  have N1 := N0.trans (n1.mono (Nat.le_trans hB n0.size))
  refine ⟨a1, _, c1, rfl, N1, ?_⟩
  have LE : (flR (ssR X V xs pd k) ++ prA X V (k : Int) 23 (pce xs k) (z : Int)).length ≤ 30000 := by rw [← E1]; omega
  obtain ⟨v', w6, hap, R6, m6⟩ := append_any (P := Tryz.prog) w1 22 i0 Tryz.underlying22 hi hz0 hz1 hz2 B B v _ ((R.up n0).up n1) q1 a1 c1 _ r1 z1 (by rw [List.length_append] at LE; omega) (Nat.le_refl _) (Nat.le_trans (Nat.le_trans hB n0.size) n1.size)
  rw [← E1] at R6
  obtain ⟨a6, c6, g6, e6, -⟩ := R6.rd
  exact ⟨v', w6, hap, ⟨_, _, _, e6⟩, ⟨pq, S1, R6⟩, N1.trans m6⟩
end Go.Proofs.YtkpomobhjkikeaaGreatDoor
