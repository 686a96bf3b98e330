import Derived.Test.YtbhmhkimddjhaaaDoorGS22
import Derived.Test.YtbhmhkimddjhaaaDoorGS23
import Derived.Test.YtbhmhkimddjhaaaDoorGS24
import Derived.Test.YtbhmhkimddjhaaaDoorGS31
/-
  The law of the squares.
-/
namespace Go.Proofs.YtbhmhkimddjhaaaDoor
set_option maxRecDepth 100000
open Go.RowKit

/-- What the law's calls answer for thirty-two bytes. -/
structure Sq (ys sq rt : List Int) : Prop where
  sl : sq.length = 32
  sb : Byt sq
  good : frB sq = true
  root : frL sq = rt
  rl : rt.length = 32
  rb : Byt rt
  can : canN rt = true
  even : rt.getD 0 0 % 2 = 0
  back : fmul rt rt = sq
  zero : num ys % PP = 0 → rt = List.replicate 32 0
  one : ¬ num ys % PP = 0 → frB (fadd ys ys) = !frB ys
theorem fmul_fill {xs : List Int} {A : Int} (hl : xs.length = 32) (h : num xs % PP = A) : fmul xs xs = fill (byt (A * A % PP)) 32 := by
  unfold fmul
  rw [if_pos ⟨hl, hl⟩, Int.mul_emod, h]
theorem sq_of {ys : List Int} (hl : ys.length = 32) : Sq ys (fmul ys ys) (fill (byt (fin2 (r1I (num ys % PP * (num ys % PP) % PP)))) 32) := by
  have x0 := Int.emod_nonneg (num ys) (show PP ≠ 0 by decide)
  have x1 := Int.emod_lt_of_pos (num ys) (show (0 : Int) < PP by decide)
  rw [fmul_fill hl rfl]
  have fe : fadd ys ys = fill (byt ((num ys % PP + num ys % PP) % PP)) 32 := by
    unfold fadd
    rw [if_pos ⟨hl, hl⟩, Int.add_emod]
  have bg : frB ys = decide (r1I (num ys % PP) * r1I (num ys % PP) % PP = num ys % PP) := by unfold frB; rw [decide_eq_true hl]; rfl
  obtain ⟨A, hA⟩ : ∃ A, A = num ys % PP := ⟨_, rfl⟩
  rw [← hA] at x0 x1 fe bg ⊢
  have q0 := Int.emod_nonneg (A * A) (show PP ≠ 0 by decide)
  have q1 := Int.emod_lt_of_pos (A * A) (show (0 : Int) < PP by decide)
  have has := sq_has x0 x1
  have z : A = 0 → A * A % PP = 0 := fun h => by rw [h]; rfl
  generalize A * A % PP = Q at *
  have nq : num (fill (byt Q) 32) = Q := num_fill q0 q1
  have nq' : num (fill (byt Q) 32) % PP = Q := by rw [nq]; exact Int.emod_eq_of_lt q0 q1
  have lq : (fill (byt Q) 32).length = 32 := fill_len _ _
  have bd := r1I_bd Q
  have fb := fin2_bd bd.1 bd.2
  have fs := fin2_sq (r1I Q)
  have good : frB (fill (byt Q) 32) = true := by
    unfold frB
    rw [nq', decide_eq_true lq, decide_eq_true has]
    rfl
  have lr : (fill (byt (fin2 (r1I Q))) 32).length = 32 := fill_len _ _
  have nr : num (fill (byt (fin2 (r1I Q))) 32) = fin2 (r1I Q) := num_fill fb.1 fb.2.1
  refine ⟨lq, byt_bytes _ _, good, ?_, lr, byt_bytes _ _, ?_, ?_, ?_, ?_, ?_⟩
  · rw [frL, if_pos good, nq']
  · unfold canN
    rw [nr, decide_eq_true lr, decide_eq_true fb.2.1]
    rfl
  · rw [fill_get _ _ _ (by omega)]
    have := fb.2.2
    unfold byt
    rw [Int.pow_zero, Int.ediv_one]
    omega
  · rw [fmul_fill (A := fin2 (r1I Q)) lr (by rw [nr]; exact Int.emod_eq_of_lt fb.1 fb.2.1), fs, has]
  · intro h
    rw [← hA] at h
    rw [z h, fin2_zero, fill_zero]
  · intro h
    rw [← hA] at h
    have j := just_one (A := A) (by omega) x1
    have d0 := Int.emod_nonneg (A + A) (show PP ≠ 0 by decide)
    have d1 := Int.emod_lt_of_pos (A + A) (show (0 : Int) < PP by decide)
    rw [fe, bg]
    generalize (A + A) % PP = D at *
    have nd : num (fill (byt D) 32) % PP = D := by rw [num_fill d0 d1]; exact Int.emod_eq_of_lt d0 d1
    have ld : (fill (byt D) 32).length = 32 := fill_len _ _
    unfold frB
    rw [nd, decide_eq_true ld, Bool.true_and]
    by_cases c : r1I A * r1I A % PP = A
    · rw [decide_eq_true c, decide_eq_false (j.1 c)]; rfl
    · rw [decide_eq_false c]
      by_cases d : r1I D * r1I D % PP = D
      · rw [decide_eq_true d]; rfl
      · exact absurd (j.2 d) c

theorem fldR (w : World) (b : Bool) (v : Value) : (Instr.field 41 (.agg #[.bool b, v]) 0).run Tryd.prog w = .ok (.bool b) w := by kernel_rfl
theorem fadd_byt (xs ys : List Int) : Byt (fadd xs ys) := by
  unfold fadd
  split
  · exact byt_bytes _ _
  · intro i; simp

set_option maxHeartbeats 4000000 in
theorem fieldSquares_law (w : World) (g : Nat) (a : Option Addr) (ca : Nat) (xs : List Int) (ha : Rd w g a .u8 xs) (hx : Byt xs) (hR : HasR w) :
    Calls Tryd.prog 9 #[.slice a xs.length ca] w fun e w' => e = .returned (.bool true) ∧ Below w.heap.size w w' := by
  obtain ⟨i0, hi, hz0, hz1, hz2⟩ := info_parts Tryd.info5
  by_cases h1 : xs.length ≤ 1048576
  · have t1 : decide ((1048576 : Int) < (xs.length : Int)) = false := by simp; omega
    go_enter Tryd.func9, Tryd.ntmps9
    go_wp2_with fail
    refine (drawFieldInvert_any w g a ca xs ha hx h1).mono ?_
    rintro e w1 ⟨y0, yb, ⟨a1, c1, g1, rfl, o1, p1, q1, r1⟩, n1⟩
    go_wp2_with fail
    refine (lw32L_any w1 g1 a1 c1 y0 o1.rd).mono ?_
    rintro e w2 ⟨rfl, B2, n2⟩
    obtain ⟨ys, hys⟩ : ∃ ys, ys = to32 y0 := ⟨_, rfl⟩
    have yl : ys.length = 32 := by rw [hys]; exact to32_len y0
    have hy : Byt ys := by rw [hys]; exact to32_byt yb
    rw [← hys] at B2 ⊢
    have N2 := nxt n1 n2
    clear hys o1 p1 q1 r1 n1 n2 yb
    have SQ := hide (sq_of yl)
    have yl' : ys.length ≤ 1048576 := by omega
    have HY := hide hy
    have HL := hide yl
    clear yl hy
    go_wp2_with fail
    refine (lwCopy_any w2 _ _ 32 ys B2.own0.rd (by simp) yl').mono ?_
    rintro e w3 ⟨⟨a3, c3, g3, rfl, o3, p3, q3, r3⟩, n3⟩
    have N3 := nxt N2 n3
    have B3 := B2.up n3
    go_wp2_with fail
    refine (lwCopy_any w3 _ _ 32 ys B3.own0.rd (by simp) yl').mono ?_
    rintro e w4 ⟨⟨a4, c4, g4, rfl, o4, p4, q4, r4⟩, n4⟩
    have N4 := nxt N3 n4
    go_wp2_with fail
    refine (implFieldMul_any w4 g3 g4 a3 a4 c3 c4 ys ys (o3.up n4).rd o4.rd HY.out HY.out).mono ?_
    rintro e w5 ⟨⟨a5, c5, g5, rfl, o5, p5, q5, r5⟩, n5⟩
    have N5 := nxt N4 n5
    have B5 := (B3.up n4).up n5
    clear o3 p3 q3 r3 n3 o4 p4 q4 r4 n4 n5 B2 B3 N2 N3 N4
    obtain ⟨sq, hsq⟩ : ∃ sq, sq = fmul ys ys := ⟨_, rfl⟩
    obtain ⟨rt, hrt⟩ : ∃ rt, rt = fill (byt (fin2 (r1I (num ys % PP * (num ys % PP) % PP)))) 32 := ⟨_, rfl⟩
    have SP := fun W g g' b b' cb cb' h h' => specFieldMul_any W g g' b b' cb cb' ys ys h h' HY.out HY.out
    rw [← hsq, ← hrt] at SQ
    simp only [← hsq] at SP
    rw [← hsq] at o5 q5 ⊢
    clear hsq hrt
    have sl' : sq.length ≤ 1048576 := by have := SQ.out.sl; omega
    go_wp2_with fail
    refine (lwCopy_any w5 _ _ c5 sq o5.rd p5 sl').mono ?_
    rintro e w6 ⟨⟨a6, c6, g6, rfl, o6, p6, q6, r6⟩, n6⟩
    have N6 := nxt N5 n6
    go_wp2_with fail
    have RO := implFieldRoot_any w6 g6 a6 c6 sq o6.rd SQ.out.sb (hR.up N6)
    rw [SQ.out.good, SQ.out.root] at RO
    refine RO.mono ?_
    rintro e w7 ⟨⟨a7, c7, g7, rfl, o7, p7, q7, r7⟩, n7⟩
    have N7 := nxt N6 n7
    have B7 := (B5.up n6).up n7
    clear o5 p5 q5 r5 o6 p6 q6 r6 n6 n7 B5 N5 N6 RO
    have T8 := Two.new w7 (.bool true) (.slice a7 rt.length c7) 41
    have n8 : Below w7.heap.size w7 (w7.alloc (.cells #[.bool true, .slice a7 rt.length c7] 41)) := (Below.refl _ _).alloc (Nat.le_refl _) _
    go_upto_region 6 with fail
    generalize w7.alloc (.cells #[.bool true, .slice a7 rt.length c7] 41) = w8 at *
    have N8 := nxt N7 n8
    have B8 := B7.up n8
    have o8 := o7.up n8
    have rl0 : (0 : Int) < (rt.length : Int) := by have := SQ.out.rl; omega
    obtain ⟨off, rfl, hc8⟩ := o8 (by omega)
    have hcell := (hc8 0 (by omega)).1
    rw [Nat.add_zero] at hcell
    have yb0 := SQ.out.rb 0
    have ye := SQ.out.even
    have CA := fun W h => implFieldCanonical_any W g7 (some ⟨g7, off, none⟩) c7 rt h SQ.out.rb
    rw [SQ.out.can] at CA
    have MU := fun W h h' => implFieldMul_any W g7 g7 (some ⟨g7, off, none⟩) (some ⟨g7, off, none⟩) c7 c7 rt rt h h' SQ.out.rb SQ.out.rb
    rw [SQ.out.back] at MU
    have e2 : (rt.getD 0 0).tmod 2 = 0 := by rw [Int.tmod_eq_emod_of_nonneg yb0.1]; exact ye
    have HX := hide yb0
    clear B7 o7 n8 N7
    obtain ⟨c80, c81, _, _⟩ := T8
    go_wp2_with fail
    refine (CA w8 o8.rd).mono ?_
    rintro e w9 ⟨rfl, n9⟩
    have N9 := nxt N8 n9
    have hcell9 : w9.cell? ⟨g7, off, none⟩ = some (.int .u8 (rt.getD 0 0)) := by rw [World.cell?_of_block (n9.block g7 (block_lt_of_cell hcell))]; exact hcell
    have o9 := o8.up n9
    have B9 := B8.up n9
    have c90 : w9.cell? ⟨w7.heap.size, 1, none⟩ = some (.slice (some ⟨g7, off, none⟩) rt.length c7) := by rw [World.cell?_of_block (n9.block w7.heap.size (block_lt_of_cell c81))]; exact c81
    clear CA n9 N8 B8 o8 hc8 hcell c80
    generalize rt.getD 0 0 = y at *
    go_wp2_with fail
    refine (MU w9 o9.rd o9.rd).mono ?_
    rintro e wA ⟨⟨aA, cA, gA, rfl, oA, pA, qA, rA⟩, nA⟩
    have NA := nxt N9 nA
    have BA := B9.up nA
    have oAr := o9.up nA
    go_wp2_with fail
    refine (SP wA _ _ _ _ _ _ BA.own0.rd BA.own0.rd).mono ?_
    rintro e wB ⟨⟨aB, cB, gB, rfl, oB, pB, qB, rB⟩, nB⟩
    have NB := nxt NA nB
    have BB := BA.up nB
    have oBr := oAr.up nB
    have cB1 : wB.cell? ⟨w7.heap.size, 1, none⟩ = some (.slice (some ⟨g7, off, none⟩) rt.length c7) := by rw [World.cell?_of_block (nB.block w7.heap.size (by have h1 := nA.size; have h2 : w7.heap.size < w9.heap.size := block_lt_of_cell c90; omega)), World.cell?_of_block (nA.block w7.heap.size (block_lt_of_cell c90))]; exact c90
    have SM := lwSame_same wB gA gB aA aB cA cB sq (oA.up nB).rd oB.rd
    have HS := hide SM
    clear SM MU SP oA oB nA nB NA BA oAr B9 o9 N9
    go_wp2_with fail
    refine (unhide HS).mono ?_
    rintro e wC ⟨rfl, rfl⟩
    clear HS
    have cC : wC.cell? ⟨w7.heap.size, 1, none⟩ = some (.slice (some ⟨g7, off, none⟩) rt.length c7) := cB1
    go_wp2_with (first | (at_make; refine wpList_make_full _ rfl _ _ 22 rfl wC.heap.size 5 i0 (.int .u8 0) 1 Tryd.underlying22 hi hz0 hz1 .i64 .i64 _ _ 32 rfl rfl rfl rfl (by rw [hz2]; omega) (by unfold maxLen; omega) (Nat.le_refl _) ?_; intro wD hown hgrow) | fail)
    have ZD := Blk.of_made hown
    have nD : Below wC.heap.size wC wD := (Below.refl _ _).grown hgrow (Nat.le_refl _) (by simp)
    have ND := nxt NB nD
    have BD := BB.up nD
    have oD := oBr.up nD
    have cD : wD.cell? ⟨w7.heap.size, 1, none⟩ = some (.slice (some ⟨g7, off, none⟩) rt.length c7) := by rw [World.cell?_of_block (nD.block w7.heap.size (block_lt_of_cell cC))]; exact cC
    clear hown hgrow NB BB oBr cC cB1
    have RE := specFieldReduce_any wD w1.heap.size (some ⟨w1.heap.size, 0, none⟩) 32 ys BD.own0.rd HY.out
    have re : fred ys = fill (byt (num ys % PP)) 32 := by simp [fred, HL.out]
    rw [re] at RE
    clear re
    refine RE.mono ?_
    rintro e wE ⟨⟨aE, cE, gE, rfl, oE, pE, qE, rE⟩, nE⟩
    have NE := nxt ND nE
    have BE := BD.up nE
    have oEr := oD.up nE
    have ZE := ZD.up nE
    have cEE : wE.cell? ⟨w7.heap.size, 1, none⟩ = some (.slice (some ⟨g7, off, none⟩) rt.length c7) := by rw [World.cell?_of_block (nE.block w7.heap.size (block_lt_of_cell cD))]; exact cD
    clear RE nD nE ND BD oD ZD cD
    by_cases hzr : num ys % PP = 0
    · have rz := SQ.out.zero hzr
      rw [hzr, fill_zero] at oE qE ⊢
      have SM := lwSame_same wE gE wC.heap.size aE (some ⟨wC.heap.size, 0, none⟩) cE 32 (List.replicate 32 0) oE.rd ZE.own0.rd
      have HS := hide SM
      clear SM hzr
      go_wp2_with fail
      refine (unhide HS).mono ?_
      rintro e wE' ⟨rfl, rfl⟩
      have SM : Calls Tryd.prog 30 #[.slice (some ⟨g7, off, none⟩) rt.length c7, .slice (some ⟨wC.heap.size, 0, none⟩) 32 32] wE' fun e w' => e = .returned (.bool true) ∧ w' = wE' := by
        have H := lwSame_same wE' g7 wC.heap.size (some ⟨g7, off, none⟩) (some ⟨wC.heap.size, 0, none⟩) c7 32 (List.replicate 32 0) (by rw [← rz]; exact oEr.rd) ZE.own0.rd
        rw [rz]
        exact H
      have HS := hide SM
      clear SM oE rz
      go_wp2_with fail
      refine (unhide HS).mono ?_
      rintro e wF ⟨rfl, rfl⟩
      go_wp2
      go_ret
      exact ⟨rfl, NE⟩
    · have h0 := Int.emod_nonneg (num ys) (show PP ≠ 0 by decide)
      have hx1 := Int.emod_lt_of_pos (num ys) (show (0 : Int) < PP by decide)
      have hx0 : 0 < num ys % PP := by omega
      have one := SQ.out.one hzr
      have SD := lwSame_diff wE gE wC.heap.size aE (some ⟨wC.heap.size, 0, none⟩) cE 32 _ (List.replicate 32 0) oE.rd ZE.own0.rd (byt_bytes _ _) (byt_zeros 32) (fill_ne hx0 hx1)
      have HS := hide SD
      have RB := fun W g b cb h k => implFieldRoot_any W g b cb (fadd ys ys) h (fadd_byt ys ys) k
      rw [one] at RB
      have RA := fun W g b cb h k => implFieldRoot_any W g b cb ys h HY.out k
      generalize frB ys = good at *
      have HA := hide RA
      have HB := hide RB
      clear SD hx0 hx1 hzr h0 one RA RB
      go_wp2_with fail
      refine (unhide HS).mono ?_
      rintro e wF ⟨rfl, rfl⟩
      clear HS oE qE oEr ZE cEE
      go_wp2_with fail
      refine (lwCopy_any wF _ _ 32 ys BE.own0.rd (by simp) yl').mono ?_
      rintro e wG ⟨⟨aG, cG, gG, rfl, oG, pG, qG, rG⟩, nG⟩
      have NG := nxt NE nG
      have BG := BE.up nG
      clear NE BE nG
      go_wp2_with fail
      refine (HA.out wG gG aG cG oG.rd (hR.up NG)).mono ?_
      rintro e wH ⟨⟨aH, cH, gH, rfl, oH, pH, qH, rH⟩, nH⟩
      have NH := nxt NG nH
      have BH := BG.up nH
      clear NG BG nH oG
      have hfd := fldR
      go_wp2_with fail
      refine (lwCopy_any wH _ _ 32 ys BH.own0.rd (by simp) yl').mono ?_
      rintro e wI ⟨⟨aI, cI, gI, rfl, oI, pI, qI, rI⟩, nI⟩
      have NI := nxt NH nI
      have BI := BH.up nI
      clear NH BH nI
      go_wp2_with fail
      refine (lwCopy_any wI _ _ 32 ys BI.own0.rd (by simp) yl').mono ?_
      rintro e wJ ⟨⟨aJ, cJ, gJ, rfl, oJ, pJ, qJ, rJ⟩, nJ⟩
      have NJ := nxt NI nJ
      have oK := oI.up nJ
      clear NI BI nJ oI
      go_wp2_with fail
      refine (implFieldAdd_any wJ gI gJ aI aJ cI cJ ys ys oK.rd oJ.rd HY.out HY.out).mono ?_
      rintro e wL ⟨⟨aL, cL, gL, rfl, oL, pL, qL, rL⟩, nL⟩
      have NL := nxt NJ nL
      clear NJ nL oJ oK
      go_wp2_with fail
      refine (HB.out wL gL aL cL oL.rd (hR.up NL)).mono ?_
      rintro e wM ⟨⟨aM, cM, gM, rfl, oM, pM, qM, rM⟩, nM⟩
      have NM := nxt NL nM
      clear NL nM oL
      cases good
      · go_wp2
        go_ret
        exact ⟨rfl, NM⟩
      · go_wp2
        go_ret
        exact ⟨rfl, NM⟩
  · have t1 : decide ((1048576 : Int) < (xs.length : Int)) = true := by simp; omega
    go_enter Tryd.func9, Tryd.ntmps9
    go_wp2
    go_ret
    exact ⟨rfl, Below.refl _ _⟩
end Go.Proofs.YtbhmhkimddjhaaaDoor
