import Derived.Test.YtbhmhkimddjhaaaDoorGG20
import Derived.Test.YtbhmhkimddjhaaaDoorGG17
import Derived.Test.YtbhmhkimddjhaaaDoorGG12
/-
  The bytes that are drawn for an element, from a source that was asked before.
-/
namespace Go.Proofs.YtbhmhkimddjhaaaDoor
set_option maxRecDepth 100000
open Go.RowKit

theorem canon_pos {ys : List Int} {v : Int} (h : Canon ys v) : 0 < ys.length ↔ 0 < v := by
  constructor
  · intro h0
    have := h.ge h0
    have hp := p256_pos (ys.length - 1)
    omega
  · intro hv
    by_cases e : ys.length = 0
    · have : ys = [] := List.eq_nil_of_length_eq_zero e
      subst this
      have := h.2.1
      rw [bval_nil] at this
      omega
    · omega
theorem But.up {g : Nat} {a b c : World} (h : But g a b) (n : Below b.heap.size b c) : But g a c := h.trans (But.ofBelow n)
theorem dig_bytes {xs : List Int} (h : Byt xs) (n : Nat) : Byt (fill (dig xs) n) := by
  intro i
  by_cases hi : i < n
  · rw [fill_get _ _ _ hi]; have := dig_byt h i; omega
  · rw [List.getD_eq_getElem?_getD, List.getElem?_eq_none (by rw [fill_len]; omega)]; simp

theorem byt_fill {f : Nat → Int} (h : ∀ i, 0 ≤ f i ∧ f i < 256) (n : Nat) : Byt (fill f n) := by
  intro i
  by_cases hi : i < n
  · rw [fill_get _ _ _ hi]; exact h i
  · rw [List.getD_eq_getElem?_getD, List.getElem?_eq_none (by rw [fill_len]; omega)]; simp

/-- A source that was asked at most m times. -/
def SrcTo (w : World) (s : Nat) (a : Option Addr) (n c : Nat) (m : Int) : Prop := ∃ t, 0 ≤ t ∧ t ≤ m ∧ Src w s a n c t

set_option maxHeartbeats 4000000 in
theorem l2DrawT_any (w : World) (s g : Nat) (a : Option Addr) (c : Nat) (xs : List Int) (t : Int) (t0 : 0 ≤ t) (t1 : t ≤ 10000) (hs : Src w s a xs.length c t) (hr : Rd w g a .u8 xs) (hne : 0 < xs.length → g ≠ s) (hb : Byt xs) (hl : xs.length ≤ 1048576) :
    Calls Tryd.prog 77 #[.pointer (some ⟨s, 0, none⟩)] w fun e w' => ∃ ys, Byt ys ∧ ys.length ≤ 64 ∧ NewRow w.heap.size w' e .u8 ys ∧ But s w w' ∧ SrcTo w' s a xs.length c (t + 200) := by
  obtain ⟨i0, hi, hz0, hz1, hz2⟩ := info_parts Tryd.info5
  have sl := hs.lt
  have NX := l1Next_any w s g a c xs t 10 hs hr hne hb hl (by omega) (by omega) (by decide) (by decide)
  go_enter Tryd.func77, Tryd.ntmps77
  go_wp2_with fail
  refine NX.mono ?_
  rintro e w1 ⟨r, rfl, ⟨r0, r1⟩, S1, O1⟩
  have N1 : But s w w1 := But.ofOnly O1
  have hr1 := hr.but N1 hne
  have z1 := hide O1.size
  clear NX
  rcases (show r = 0 ∨ r = 1 ∨ r = 2 ∨ r = 3 ∨ r = 4 ∨ 5 ≤ r by omega) with rfl | rfl | rfl | rfl | rfl | h5
  · go_wp2_with fail
    refine (l1Next_any w1 s g a c xs (t + 1) 40 S1 hr1 hne hb hl (by omega) (by omega) (by decide) (by decide)).mono ?_
    rintro e w2 ⟨v, rfl, ⟨v0, v1⟩, S2, O2⟩
    go_wp2_with fail
    refine (l1Int_any w2 v v0 (by omega)).mono ?_
    rintro e w3 ⟨i1, il, ib, ⟨ai, ci, gi, rfl, oi, pi, qi, ri⟩, n3⟩
    go_wp2_with fail
    refine (l1Little_any w3 gi ai ci i1 32 oi.rd ib (by omega) (by omega)).mono ?_
    rintro e w4 ⟨rfl, B4, n4⟩
    have N4 := ((N1.only O2).up n3).up n4
    have z := ((N1.only O2).up n3).size
    go_wp2
    go_ret
    exact ⟨_, dig_bytes ib 32, by rw [fill_len]; omega, ⟨_, 32, w3.heap.size, by rw [fill_len]; rfl, B4.own0, by simp, by rw [fill_len]; omega, z⟩, N4, ⟨_, by omega, by omega, (S2.up n3).up n4⟩⟩
  · go_wp2_with fail
    refine (l2Prime_any w1).mono ?_
    rintro e w2 ⟨rfl, B2, n2⟩
    have nB : Below w2.heap.size w2 (w2.alloc (.cells #[.int .u8 20] 5)) := (Below.refl _ _).alloc (Nat.le_refl _) _
    have BB : Blk (w2.alloc (.cells #[.int .u8 20] 5)) w2.heap.size .u8 [20] := ⟨5, by rw [heap_alloc_last]; rfl⟩
    have hb20 : Byt [20] := fun i => by
      match i with
      | 0 => decide
      | i + 1 => simp
    go_wp2_with fail
    generalize w2.alloc (.cells #[.int .u8 20] 5) = wB at *
    refine (l1Add_any wB _ _ _ _ 32 1 pbytes [20] (B2.up nB).own0.rd BB.own0.rd pbytes_byt hb20 (by decide) (by decide)).mono ?_
    rintro e w3 ⟨y3, C3, ⟨a3, c3, g3, rfl, o3, p3, q3, r3⟩, n3⟩
    rw [pbytes_val] at C3
    have N3 := ((N1.up n2).up nB).up n3
    have hz3 : w.heap.size ≤ w2.heap.size := (N1.up n2).size
    have S3 := ((S1.up n2).up nB).up n3
    have hg3 : w.heap.size ≤ g3 := by have := nB.size; omega
    clear B2 BB
    go_wp2_with fail
    refine (l1Next_any w3 s g a c xs (t + 1) 40 S3 (hr.but N3 hne) hne hb hl (by omega) (by omega) (by decide) (by decide)).mono ?_
    rintro e w4 ⟨v, rfl, ⟨v0, v1⟩, S4, O4⟩
    have o3a := o3.only O4 (fun _ => by omega)
    have N4 := N3.only O4
    go_wp2_with fail
    refine (l1Int_any w4 v v0 (by omega)).mono ?_
    rintro e w5 ⟨i1, il, ib, ⟨ai, ci, gi, rfl, oi, pi, qi, ri⟩, n5⟩
    have o3b := o3a.up n5
    have N5 := N4.up n5
    go_wp2_with fail
    have V : Hid (bval i1 ≤ bval y3) := by
      show _ ≤ _
      have h1 : bval i1 < 256 := by
        have := bval_lt ib
        have hp : (256 : Int) ^ i1.length ≤ 256 ^ 1 := p256_le il
        have : (256 : Int) ^ 1 = 256 := by decide
        omega
      rw [C3.2.1]
      have : bval [20] = 20 := rfl
      have : (0 : Int) ≤ PP - 256 := by decide
      omega
    have L3 : y3.length ≤ 64 := C3.len (by decide)
    have LI : i1.length ≤ y3.length := by
      have := (canon_pos C3).2 (by decide)
      omega
    refine (l1Sub_any w5 g3 gi a3 ai c3 ci y3 i1 o3b.rd oi.rd C3.1 ib (by omega) LI V.out).mono ?_
    rintro e w6 ⟨y6, C6, ⟨a6, c6, g6, rfl, o6, p6, q6, r6⟩, n6⟩
    have L6 : y6.length ≤ 64 := C6.len (Int.lt_of_le_of_lt (show bval y3 - bval i1 ≤ bval y3 by have := bval_nonneg ib; omega) (Int.lt_of_lt_of_le (bval_lt C3.1) (p256_le L3)))
    go_wp2_with fail
    refine (l1Little_any w6 g6 a6 c6 y6 32 o6.rd C6.1 (by omega) (by omega)).mono ?_
    rintro e w7 ⟨rfl, B7, n7⟩
    have N7 := (N5.up n6).up n7
    have z := (N5.up n6).size
    go_wp2
    go_ret
    exact ⟨_, dig_bytes C6.1 32, by rw [fill_len]; omega, ⟨_, 32, w6.heap.size, by rw [fill_len]; rfl, B7.own0, by simp, by rw [fill_len]; omega, z⟩, N7, ⟨_, by omega, by omega, ((S4.up n5).up n6).up n7⟩⟩
  · go_wp2_with fail
    refine (l2Prime_any w1).mono ?_
    rintro e w2 ⟨rfl, B2, n2⟩
    go_wp2_with fail
    refine (l1Shift1_any w2 _ _ 32 pbytes B2.own0.rd pbytes_byt (by simp) (by decide) (by decide)).mono ?_
    rintro e wS ⟨yS, CS, ⟨aS, cS, gS, rfl, oS, pS, qS, rS⟩, nS⟩
    rw [pbytes_val] at CS
    have lS : yS.length ≤ 64 := CS.len (by decide)
    have nB : Below wS.heap.size wS (wS.alloc (.cells #[.int .u8 20] 5)) := (Below.refl _ _).alloc (Nat.le_refl _) _
    have BB : Blk (wS.alloc (.cells #[.int .u8 20] 5)) wS.heap.size .u8 [20] := ⟨5, by rw [heap_alloc_last]; rfl⟩
    have hb20 : Byt [20] := fun i => by
      match i with
      | 0 => decide
      | i + 1 => simp
    go_wp2_with fail
    generalize wS.alloc (.cells #[.int .u8 20] 5) = wB at *
    refine (l1Add_any wB gS _ aS _ cS 1 yS [20] (oS.up nB).rd BB.own0.rd CS.1 hb20 (by omega) (by decide)).mono ?_
    rintro e w3 ⟨y3, C3, ⟨a3, c3, g3, rfl, o3, p3, q3, r3⟩, n3⟩
    rw [CS.2.1] at C3
    have N3 := (((N1.up n2).up nS).up nB).up n3
    have hz3 : w.heap.size ≤ wS.heap.size := ((N1.up n2).up nS).size
    have S3 := (((S1.up n2).up nS).up nB).up n3
    have hg3 : w.heap.size ≤ g3 := by have := nB.size; omega
    clear B2 BB
    go_wp2_with fail
    refine (l1Next_any w3 s g a c xs (t + 1) 40 S3 (hr.but N3 hne) hne hb hl (by omega) (by omega) (by decide) (by decide)).mono ?_
    rintro e w4 ⟨v, rfl, ⟨v0, v1⟩, S4, O4⟩
    have o3a := o3.only O4 (fun _ => by omega)
    have N4 := N3.only O4
    go_wp2_with fail
    refine (l1Int_any w4 v v0 (by omega)).mono ?_
    rintro e w5 ⟨i1, il, ib, ⟨ai, ci, gi, rfl, oi, pi, qi, ri⟩, n5⟩
    have o3b := o3a.up n5
    have N5 := N4.up n5
    go_wp2_with fail
    have V : Hid (bval i1 ≤ bval y3) := by
      show _ ≤ _
      have h1 : bval i1 < 256 := by
        have := bval_lt ib
        have hp : (256 : Int) ^ i1.length ≤ 256 ^ 1 := p256_le il
        have : (256 : Int) ^ 1 = 256 := by decide
        omega
      rw [C3.2.1]
      have : bval [20] = 20 := rfl
      have : (0 : Int) ≤ PP - 256 := by decide
      omega
    have L3 : y3.length ≤ 64 := C3.len (by decide)
    have LI : i1.length ≤ y3.length := by
      have := (canon_pos C3).2 (by decide)
      omega
    refine (l1Sub_any w5 g3 gi a3 ai c3 ci y3 i1 o3b.rd oi.rd C3.1 ib (by omega) LI V.out).mono ?_
    rintro e w6 ⟨y6, C6, ⟨a6, c6, g6, rfl, o6, p6, q6, r6⟩, n6⟩
    have L6 : y6.length ≤ 64 := C6.len (Int.lt_of_le_of_lt (show bval y3 - bval i1 ≤ bval y3 by have := bval_nonneg ib; omega) (Int.lt_of_lt_of_le (bval_lt C3.1) (p256_le L3)))
    go_wp2_with fail
    refine (l1Little_any w6 g6 a6 c6 y6 32 o6.rd C6.1 (by omega) (by omega)).mono ?_
    rintro e w7 ⟨rfl, B7, n7⟩
    have N7 := (N5.up n6).up n7
    have z := (N5.up n6).size
    go_wp2
    go_ret
    exact ⟨_, dig_bytes C6.1 32, by rw [fill_len]; omega, ⟨_, 32, w6.heap.size, by rw [fill_len]; rfl, B7.own0, by simp, by rw [fill_len]; omega, z⟩, N7, ⟨_, by omega, by omega, ((S4.up n5).up n6).up n7⟩⟩
  · go_wp2_with (at_make; refine wpList_make_full _ rfl _ _ 22 rfl w1.heap.size 5 i0 (.int .u8 0) 1 Tryd.underlying22 hi hz0 hz1 .i64 .i64 _ _ 32 rfl rfl rfl rfl (by rw [hz2]; omega) (by unfold maxLen; omega) (Nat.le_refl _) ?_; intro w2 hown hgrow)
    have hB := Blk.of_made hown
    have nM : Below w1.heap.size w1 w2 := (Below.refl _ _).grown hgrow (Nat.le_refl _) (by simp)
    have S2 := S1.up nM
    have N2 := N1.up nM
    have z2 : w1.heap.size < w2.heap.size := hB.lt
    clear hown hgrow
    go_loopw [5] (fun i wr => ∃ (k : Nat) (ys : List Int), k ≤ 32 ∧ i = .int .i64 k ∧ FillTo (fun _ => 255) ys 32 k ∧ Blk wr w1.heap.size .u8 ys ∧ Src wr s a xs.length c (t + 1) ∧ But s w wr) (fun i _ => 32 - (intOf i).toNat)
    case atStart => exact ⟨0, _, by omega, rfl, ⟨by simp, fun j hj => absurd hj (by omega)⟩, hB, S2, N2⟩
    case round =>
      clear hB nM S2 N2
      obtain ⟨k, ys, hk, rfl, hF, hB, hS, hN⟩ := hrel
      have z1' := z1.out
      have sne : s ≠ w1.heap.size := by omega
      clear z1'
      by_cases hlt : k < 32
      · have hst := hF.step hlt
        have hcy := hB.cell (i := k) (by rw [hF.1]; exact hlt)
        have hfy := hB.free k
        have k2 : (k : Int) < 32 := by omega
        have St := hB.store k 255
        have Ss := hS.of_block (w' := wr.setCell ⟨w1.heap.size, k, none⟩ (.int .u8 255)) (heap_setCell_other wr ⟨w1.heap.size, k, none⟩ s _ sne)
        have Sn : But s w (wr.setCell ⟨w1.heap.size, k, none⟩ (.int .u8 255)) := hN.setCell (by have := z1.out; omega)
        clear hB hN hF hS
        go_wp2
        go_roundw
        case rel => exact ⟨k + 1, _, by omega, by go_num, hst, St, Ss, Sn⟩
        case measure => simp [intOf]; omega
      · obtain rfl : k = 32 := by omega
        have hy := hF.all
        subst hy
        go_wp2_with fail
        refine (l1Next_any wr s g a c xs (t + 1) 256 hS (hr.but hN hne) hne hb hl (by omega) (by omega) (by decide) (by decide)).mono ?_
        rintro e w4 ⟨v, rfl, ⟨v0, v1⟩, S4, O4⟩
        have B4 := hB.of_block (O4.block w1.heap.size (by omega))
        have c0 : w4.cell? ⟨w1.heap.size, 0, none⟩ = some (.int .u8 255) := B4.cell (i := 0) (by rw [fill_len]; omega)
        have f0 := B4.free 0
        have B5 := B4.store 0 v
        have S5 := S4.of_block (w' := w4.setCell ⟨w1.heap.size, 0, none⟩ (.int .u8 v)) (heap_setCell_other w4 ⟨w1.heap.size, 0, none⟩ s _ sne)
        have N5 : But s w (w4.setCell ⟨w1.heap.size, 0, none⟩ (.int .u8 v)) := (hN.only O4).setCell (by have := z1.out; omega)
        have hv : v % 256 = v := by omega
        have zz : w.heap.size ≤ w1.heap.size := by have := z1.out; omega
        have ZZ := hide zz
        clear zz
        clear hB B4
        go_wp2
        go_ret
        refine ⟨_, byt_set (byt_fill (fun _ => ⟨by decide, by decide⟩) 32) 0 v v0 (by omega), by simp [fill_len], ⟨_, 32, w1.heap.size, ?_, B5.own0, by simp, by simp [fill_len], ZZ.out⟩, N5, ⟨_, by omega, by omega, S5⟩⟩
        simp [fill_len]
  · go_wp2_with (first | (at_make; refine wpList_make_full _ rfl _ _ 22 rfl w1.heap.size 5 i0 (.int .u8 0) 1 Tryd.underlying22 hi hz0 hz1 .i64 .i64 _ _ 32 rfl rfl rfl rfl (by rw [hz2]; omega) (by unfold maxLen; omega) (Nat.le_refl _) ?_; intro w2 hown hgrow) | fail)
    have hB := Blk.of_made hown
    have nM : Below w1.heap.size w1 w2 := (Below.refl _ _).grown hgrow (Nat.le_refl _) (by simp)
    have S2 := S1.up nM
    have N2 := N1.up nM
    clear hown hgrow
    refine (l1Next_any w2 s g a c xs (t + 1) 32 S2 (hr.but N2 hne) hne hb hl (by omega) (by omega) (by decide) (by decide)).mono ?_
    rintro e w3 ⟨i, rfl, ⟨j0, j1⟩, S3, O3⟩
    have sne : s ≠ w1.heap.size := by have := z1.out; omega
    have B3 := hB.of_block (O3.block w1.heap.size (by omega))
    have N3 := N2.only O3
    obtain ⟨j, rfl⟩ := Int.eq_ofNat_of_zero_le j0
    go_wp2_with fail
    refine (l1Next_any w3 s g a c xs (t + 1 + 1) 256 S3 (hr.but N3 hne) hne hb hl (by omega) (by omega) (by decide) (by decide)).mono ?_
    rintro e w4 ⟨v, rfl, ⟨v0, v1⟩, S4, O4⟩
    have B4 := B3.of_block (O4.block w1.heap.size (by omega))
    have c0 := B4.cell (i := j) (by simp; omega)
    have f0 := B4.free j
    have B5 := B4.store j v
    have S5 := S4.of_block (w' := w4.setCell ⟨w1.heap.size, j, none⟩ (.int .u8 v)) (heap_setCell_other w4 ⟨w1.heap.size, j, none⟩ s _ sne)
    have N5 : But s w (w4.setCell ⟨w1.heap.size, j, none⟩ (.int .u8 v)) := (N3.only O4).setCell (by have := z1.out; omega)
    have hv : v % 256 = v := by omega
    have zz : w.heap.size ≤ w1.heap.size := by have := z1.out; omega
    have ZZ := hide zz
    clear zz hB B3 B4
    go_wp2
    go_ret
    refine ⟨_, byt_set (byt_zeros 32) j v v0 (by omega), by simp, ⟨_, 32, w1.heap.size, ?_, B5.own0, by simp, by simp, ZZ.out⟩, N5, ⟨_, by omega, by omega, S5⟩⟩
    simp
  · have q0 : (r == 0) = false := by simp; omega
    have q1 : (r == 1) = false := by simp; omega
    have q2 : (r == 2) = false := by simp; omega
    have q3 : (r == 3) = false := by simp; omega
    have q4 : (r == 4) = false := by simp; omega
    clear r0 r1 h5
    go_wp2_with fail
    refine (l1DrawBytes_any w1 s g a c xs (t + 1) 32 S1 hr1 hne hb hl (by omega) (by omega)).mono ?_
    rintro e w2 ⟨y2, l2, b2, ⟨a2, c2, g2, rfl, o2, p2, q2', r2⟩, S2, T2⟩
    have N2 := N1.trans T2
    have z2 := T2.size
    go_wp2_with fail
    refine (l1Chance_any w2 s g a c xs (t + 1 + ((32 : Nat) : Int)) 25 S2 (hr.but N2 hne) hne hb hl (by omega) (by omega) (by decide) (by decide)).mono ?_
    rintro e w3 ⟨bb, rfl, S3, O3⟩
    have N3 := N2.only O3
    have z1' := z1.out
    have o3 := o2.only O3 (fun _ => by omega)
    have zz : w.heap.size ≤ g2 := by omega
    have ZZ := hide zz
    have L2 := hide l2
    clear zz z1' l2
    cases bb
    · go_wp2
      go_ret
      exact ⟨y2, b2, by have := L2.out; omega, ⟨_, _, g2, by rw [L2.out]; rfl, o3, p2, q2', ZZ.out⟩, N3, ⟨_, by omega, by omega, S3⟩⟩
    · go_wp2_with fail
      refine (l1Next_any w3 s g a c xs (t + 1 + ((32 : Nat) : Int) + 1) 2 S3 (hr.but N3 hne) hne hb hl (by omega) (by omega) (by decide) (by decide)).mono ?_
      rintro e w4 ⟨v, rfl, ⟨v0, v1⟩, S4, O4⟩
      have N4 := N3.only O4
      obtain ⟨j, rfl⟩ := Int.eq_ofNat_of_zero_le v0
      have hj : (31 : Int) + 2 * (j : Int) = ((31 + 2 * j : Nat) : Int) := by omega
      have DB := l1DrawBytes_any w4 s g a c xs (t + 1 + ((32 : Nat) : Int) + 1 + 1) (31 + 2 * j) S4 (hr.but N4 hne) hne hb hl (by omega) (by omega)
      rw [← hj] at DB
      have DH := hide DB
      clear DB hj
      go_wp2_with fail
      refine DH.out.mono ?_
      rintro e w5 ⟨y5, l5, b5, ⟨a5, c5, g5, rfl, o5, p5, q5, r5⟩, S5, T5⟩
      have N5 := N4.trans T5
      have z4 := N4.size
      have L5 : y5.length ≤ 64 := by omega
      have zz : w.heap.size ≤ g5 := by omega
      have ZZ := hide zz
      clear zz l5 DH
      go_wp2
      go_ret
      exact ⟨y5, b5, L5, ⟨_, _, g5, rfl, o5, p5, q5, ZZ.out⟩, N5, ⟨_, by omega, by omega, S5⟩⟩

end Go.Proofs.YtbhmhkimddjhaaaDoor
/-
  What the three operations share: the model's l2Two, bounds of bytes, the elements' operations with their values.
-/
namespace Go.Proofs.YtbhmhkimddjhaaaDoor
set_option maxRecDepth 100000
open Go.RowKit

theorem bval_lt32 {ys : List Int} (h : Byt ys) (hl : ys.length ≤ 32) : bval ys < 115792089237316195423570985008687907853269984665640564039457584007913129639936 := by
  have h1 := (lo_bd h 32).2
  rw [lo_all ys 32 hl] at h1
  have h2 : (256 : Int) ^ 32 = 115792089237316195423570985008687907853269984665640564039457584007913129639936 := by decide
  omega
theorem add_lt64 {x y : Int} (hx : x < 115792089237316195423570985008687907853269984665640564039457584007913129639936) (hy : y < 115792089237316195423570985008687907853269984665640564039457584007913129639936) : x + y < 256 ^ 64 := by
  have h2 : (115792089237316195423570985008687907853269984665640564039457584007913129639936 : Int) + 115792089237316195423570985008687907853269984665640564039457584007913129639936 < 256 ^ 64 := by decide
  omega
theorem mul_lt64 {x y : Int} (hx : x < 115792089237316195423570985008687907853269984665640564039457584007913129639936) (hy : y < 115792089237316195423570985008687907853269984665640564039457584007913129639936) (x0 : 0 ≤ x) (y0 : 0 ≤ y) : x * y < 256 ^ 64 := by
  have h1 : x * y ≤ 115792089237316195423570985008687907853269984665640564039457584007913129639935 * 115792089237316195423570985008687907853269984665640564039457584007913129639935 := Int.mul_le_mul (by omega) (by omega) y0 (by decide)
  have h2 : (115792089237316195423570985008687907853269984665640564039457584007913129639935 : Int) * 115792089237316195423570985008687907853269984665640564039457584007913129639935 < 256 ^ 64 := by decide
  omega

set_option maxHeartbeats 1000000 in
theorem l2Two_any (w : World) (a b : Option Addr) (ca cb n m : Nat) :
    Calls Tryd.prog 81 #[.slice a n ca, .slice b m cb] w fun e w' => e = .returned (.bool (decide (n = 32 ∧ m = 32))) ∧ w' = w := by
  by_cases h : n = 32
  · subst h
    by_cases h2 : m = 32
    · subst h2
      go_enter Tryd.func81, Tryd.ntmps81
      go_wp2
      go_ret
      exact ⟨rfl, rfl⟩
    · have t : ((m : Int) == 32) = false := by simp; omega
      rw [show decide ((32 : Nat) = 32 ∧ m = 32) = false by simp [h2]]
      clear h2
      go_enter Tryd.func81, Tryd.ntmps81
      go_wp2
      go_ret
      exact ⟨rfl, rfl⟩
  · have t : ((n : Int) == 32) = false := by simp; omega
    have R : Hid (decide (n = 32 ∧ m = 32) = false) := by show _ = _; simp [h]
    clear h
    go_enter Tryd.func81, Tryd.ntmps81
    go_wp2
    go_ret
    exact ⟨by rw [R.out]; rfl, rfl⟩

theorem addE_any (w : World) (e f : Nat → Int) (he : Lm e) (hf : Lm f) :
    Calls Tryd.prog 83 #[ag5 e, ag5 f] w fun r w' => ∃ t, r = .returned (ag5 t) ∧ Lm t ∧ sv t 5 = (sv e 5 + sv f 5) % PP ∧ Below w.heap.size w w' := by
  refine (add_any w e f he hf).mono ?_
  rintro r w' ⟨rfl, n⟩
  obtain ⟨_, h2, h3⟩ := add_ok he hf
  exact ⟨_, rfl, h3, h2, n⟩
end Go.Proofs.YtbhmhkimddjhaaaDoor
