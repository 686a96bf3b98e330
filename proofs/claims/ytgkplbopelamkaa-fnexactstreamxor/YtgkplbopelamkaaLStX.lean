
/-
  The law of StreamXor (written by gens/lexs.py).
-/
import Derived.Test.YtgkplbopelamkaaSpE
import Derived.Test.YtgkplbopelamkaaCcH
import Derived.Test.YtgkplbopelamkaaHelp
namespace Go.Proofs.Ytgkplbopelamkaa
open Go Go.RowKit

set_option maxHeartbeats 4000000 in
theorem stx_law (w : World) (g0 : Nat) (a0 : Option Addr) (c0 : Nat) (X0 : List Int) (hX0 : Rd w g0 a0 .u8 X0) (bX0 : Byt X0) (n1 : Int) (_bn1 : (Lit.int .i64 n1).wf = true) (g2 : Nat) (a2 : Option Addr) (c2 : Nat) (X2 : List Int) (hX2 : Rd w g2 a2 .u8 X2) (bX2 : Byt X2) (g3 : Nat) (a3 : Option Addr) (c3 : Nat) (X3 : List Int) (hX3 : Rd w g3 a3 .u8 X3) (_bX3 : Byt X3) :
    Calls Try.prog 4 #[.slice a0 X0.length c0, .int .i64 n1, .slice a2 X2.length c2, .slice a3 X3.length c3] w fun e w' => e = .returned (.bool true) ∧ Below w.heap.size w w' := by
  by_cases q0 : X0.length ≤ 1048576
  · have u0 : decide ((1048576 : Int) < (X0.length : Int)) = false := by simp; omega
    by_cases q2 : X2.length ≤ 1048576
    · have u2 : decide ((1048576 : Int) < (X2.length : Int)) = false := by simp; omega
      by_cases q3 : X3.length ≤ 1048576
      · have u3 : decide ((1048576 : Int) < (X3.length : Int)) = false := by simp; omega
        have SP := fun W g a c h (_ : a = none → c = 0) (k : X0.length ≤ c) g' a' c' h' (_ : a' = none → c' = 0) (k' : X2.length ≤ c') g2 a2 c2 h2 (_ : a2 = none → c2 = 0) (_ : X3.length ≤ c2) => specXor_any W g a c X0 h bX0 k n1 g' a' c' X2 h' bX2 k' g2 a2 c2 X3 h2 (by omega)
        have IM := fun W g a c h (_ : a = none → c = 0) (k : X0.length ≤ c) g' a' c' h' (_ : a' = none → c' = 0) (k' : X2.length ≤ c') g2 a2 c2 h2 (_ : a2 = none → c2 = 0) (_ : X3.length ≤ c2) (_ : Below w.heap.size w W) => implXor_any W g a c X0 h bX0 k n1 g' a' c' X2 h' bX2 k' g2 a2 c2 X3 h2 (by omega)
        have hy : (sxA X0 n1 X2 X3).length ≤ 1048576 := sxA_len X0 n1 X2 X3 q3
        obtain ⟨ys, hys⟩ : ∃ ys, ys = sxA X0 n1 X2 X3 := ⟨_, rfl⟩
        simp only [← hys] at SP IM hy
        clear hys
        go_enter Try.func4, Try.ntmps4
        have N : Below w.heap.size w w := Below.refl _ _
        go_wp2_with fail
        refine (toByteS_any w g0 a0 c0 X0 (hX0.up N) q0).mono ?_
        rintro e w1 ⟨rfl, A0, m1⟩
        have zm1 := m1.size
        have lA0 := A0.lt
        replace N := nxt N m1
        clear m1
        go_wp2_with fail
        refine (toByteS_any w1 g2 a2 c2 X2 (hX2.up N) q2).mono ?_
        rintro e w2 ⟨rfl, A2, m2⟩
        have zm2 := m2.size
        have lA2 := A2.lt
        replace A0 := A0.up m2
        replace N := nxt N m2
        clear m2
        go_wp2_with fail
        refine (toByteS_any w2 g3 a3 c3 X3 (hX3.up N) q3).mono ?_
        rintro e w3 ⟨rfl, A3, m3⟩
        have zm3 := m3.size
        have lA3 := A3.lt
        replace A0 := A0.up m3
        replace A2 := A2.up m3
        replace N := nxt N m3
        clear m3
        go_wp2_with fail
        refine (SP w3 _ _ _ A0.own0.rd (by simp) (Nat.le_refl _) _ _ _ A2.own0.rd (by simp) (Nat.le_refl _) _ _ _ A3.own0.rd (by simp) (Nat.le_refl _)).mono ?_
        rintro e w4 ⟨⟨aoS, coS, goS, rfl, oS, poS, koS, roS⟩, m4⟩
        have zm4 := m4.size
        have loS := oS.rd.lt
        clear poS koS
        replace A0 := A0.up m4
        replace A2 := A2.up m4
        replace A3 := A3.up m4
        replace N := nxt N m4
        clear m4
        clear A0 A2 A3
        go_wp2_with fail
        refine (toByteS_any w4 g0 a0 c0 X0 (hX0.up N) q0).mono ?_
        rintro e w5 ⟨rfl, B0, m5⟩
        have zm5 := m5.size
        have lB0 := B0.lt
        replace oS := oS.up m5
        replace N := nxt N m5
        clear m5
        go_wp2_with fail
        refine (toByteS_any w5 g2 a2 c2 X2 (hX2.up N) q2).mono ?_
        rintro e w6 ⟨rfl, B2, m6⟩
        have zm6 := m6.size
        have lB2 := B2.lt
        replace oS := oS.up m6
        replace B0 := B0.up m6
        replace N := nxt N m6
        clear m6
        go_wp2_with fail
        refine (toByteS_any w6 g3 a3 c3 X3 (hX3.up N) q3).mono ?_
        rintro e w7 ⟨rfl, B3, m7⟩
        have zm7 := m7.size
        have lB3 := B3.lt
        replace oS := oS.up m7
        replace B0 := B0.up m7
        replace B2 := B2.up m7
        replace N := nxt N m7
        clear m7
        go_wp2_with fail
        refine (IM w7 _ _ _ B0.own0.rd (by simp) (Nat.le_refl _) _ _ _ B2.own0.rd (by simp) (Nat.le_refl _) _ _ _ B3.own0.rd (by simp) (Nat.le_refl _) N).mono ?_
        rintro e w8 ⟨⟨aoI, coI, goI, rfl, oI, poI, koI, roI⟩, m8⟩
        have zm8 := m8.size
        have loI := oI.rd.lt
        clear poI koI
        replace oS := oS.up m8
        replace B0 := B0.up m8
        replace B2 := B2.up m8
        replace B3 := B3.up m8
        replace N := nxt N m8
        clear m8
        go_wp2_with fail
        refine (eqByteS_same w8 _ _ _ _ _ _ ys oI.rd oS.rd hy).mono ?_
        rintro e w9 ⟨rfl, m9⟩
        have zm9 := m9.size
        replace oS := oS.up m9
        replace B0 := B0.up m9
        replace B2 := B2.up m9
        replace B3 := B3.up m9
        replace oI := oI.up m9
        replace N := nxt N m9
        clear m9
        go_wp2_with fail
        refine (toByteS_any w9 g0 a0 c0 X0 (hX0.up N) q0).mono ?_
        rintro e w10 ⟨rfl, E0, m10⟩
        have zm10 := m10.size
        have lE0 := E0.lt
        replace oS := oS.up m10
        replace B0 := B0.up m10
        replace B2 := B2.up m10
        replace B3 := B3.up m10
        replace oI := oI.up m10
        replace N := nxt N m10
        clear m10
        go_wp2_with fail
        refine (eqByteS_same w10 _ _ _ _ _ _ X0 B0.own0.rd E0.own0.rd q0).mono ?_
        rintro e w11 ⟨rfl, m11⟩
        have zm11 := m11.size
        replace oS := oS.up m11
        replace B0 := B0.up m11
        replace B2 := B2.up m11
        replace B3 := B3.up m11
        replace oI := oI.up m11
        replace E0 := E0.up m11
        replace N := nxt N m11
        clear m11
        clear E0
        go_wp2_with fail
        refine (toByteS_any w11 g2 a2 c2 X2 (hX2.up N) q2).mono ?_
        rintro e w12 ⟨rfl, E2, m12⟩
        have zm12 := m12.size
        have lE2 := E2.lt
        replace oS := oS.up m12
        replace B0 := B0.up m12
        replace B2 := B2.up m12
        replace B3 := B3.up m12
        replace oI := oI.up m12
        replace N := nxt N m12
        clear m12
        go_wp2_with fail
        refine (eqByteS_same w12 _ _ _ _ _ _ X2 B2.own0.rd E2.own0.rd q2).mono ?_
        rintro e w13 ⟨rfl, m13⟩
        have zm13 := m13.size
        replace oS := oS.up m13
        replace B0 := B0.up m13
        replace B2 := B2.up m13
        replace B3 := B3.up m13
        replace oI := oI.up m13
        replace E2 := E2.up m13
        replace N := nxt N m13
        clear m13
        clear E2
        go_wp2_with fail
        refine (toByteS_any w13 g3 a3 c3 X3 (hX3.up N) q3).mono ?_
        rintro e w14 ⟨rfl, E3, m14⟩
        have zm14 := m14.size
        have lE3 := E3.lt
        replace oS := oS.up m14
        replace B0 := B0.up m14
        replace B2 := B2.up m14
        replace B3 := B3.up m14
        replace oI := oI.up m14
        replace N := nxt N m14
        clear m14
        go_wp2_with fail
        refine (eqByteS_same w14 _ _ _ _ _ _ X3 B3.own0.rd E3.own0.rd q3).mono ?_
        rintro e w15 ⟨rfl, m15⟩
        have zm15 := m15.size
        replace oS := oS.up m15
        replace B0 := B0.up m15
        replace B2 := B2.up m15
        replace B3 := B3.up m15
        replace oI := oI.up m15
        replace E3 := E3.up m15
        replace N := nxt N m15
        clear m15
        clear E3
        go_wp2_with fail
        refine (markByteS_any w15 _ _ _ X0 (1) B0.own0 q0 (by omega) (by omega)).mono ?_
        rintro e w16 ⟨rfl, _, O0⟩
        replace oS := oS.only O0 (fun h => by have := loS h; omega)
        replace B2 := B2.of_block (O0.block _ (by omega))
        replace B3 := B3.of_block (O0.block _ (by omega))
        replace oI := oI.only O0 (fun h => by have := loI h; omega)
        replace N := N.trans (O0.below (B := w.heap.size) (by omega))
        have y0 := O0.size
        have zm16 : w15.heap.size ≤ w16.heap.size := Nat.le_of_eq y0.symm
        clear y0 O0 B0
        go_wp2_with fail
        refine (markByteS_any w16 _ _ _ X2 (1 + (X0.length : Int)) B2.own0 q2 (by omega) (by omega)).mono ?_
        rintro e w17 ⟨rfl, _, O2⟩
        replace oS := oS.only O2 (fun h => by have := loS h; omega)
        replace B3 := B3.of_block (O2.block _ (by omega))
        replace oI := oI.only O2 (fun h => by have := loI h; omega)
        replace N := N.trans (O2.below (B := w.heap.size) (by omega))
        have y2 := O2.size
        have zm17 : w16.heap.size ≤ w17.heap.size := Nat.le_of_eq y2.symm
        clear y2 O2 B2
        go_wp2_with fail
        refine (markByteS_any w17 _ _ _ X3 (1 + (X0.length : Int) + (X2.length : Int)) B3.own0 q3 (by omega) (by omega)).mono ?_
        rintro e w18 ⟨rfl, _, O3⟩
        replace oS := oS.only O3 (fun h => by have := loS h; omega)
        replace oI := oI.only O3 (fun h => by have := loI h; omega)
        replace N := N.trans (O3.below (B := w.heap.size) (by omega))
        have y3 := O3.size
        have zm18 : w17.heap.size ≤ w18.heap.size := Nat.le_of_eq y3.symm
        clear y3 O3 B3
        have v1 : decide (1 + (X0.length : Int) + (X2.length : Int) + (X3.length : Int) < 0) = false := by simp; omega
        go_wp2_with fail
        refine (eqByteS_same w18 _ _ _ _ _ _ ys oI.rd oS.rd hy).mono ?_
        rintro e w19 ⟨rfl, m19⟩
        have zm19 := m19.size
        replace oS := oS.up m19
        replace oI := oI.up m19
        replace N := nxt N m19
        clear m19
        go_wp2_with fail
        refine (markByteS_any w19 _ _ _ ys 1 oI hy (by decide) (by decide)).mono ?_
        rintro e w20 ⟨rfl, oA, OA⟩
        replace N := N.trans (OA.below (B := w.heap.size) (by omega))
        replace oS := oS.only OA (fun h => by have := loS h; omega)
        have v2 : decide ((1 : Int) + (ys.length : Int) < 0) = false := by simp; omega
        clear oI OA
        go_wp2_with fail
        refine (heldByteS_any w20 _ _ _ ys.length 1 oA.rd hy (by decide) (by decide)).mono ?_
        rintro e w21 ⟨rfl, rfl⟩
        clear loI lB0 lB2 lB3
        go_wp2_with fail
        refine (toByteS_any w21 g0 a0 c0 X0 (hX0.up N) q0).mono ?_
        rintro e w22 ⟨rfl, D0, m22⟩
        have zm22 := m22.size
        have lD0 := D0.lt
        replace oS := oS.up m22
        replace oA := oA.up m22
        replace N := nxt N m22
        clear m22
        go_wp2_with fail
        refine (toByteS_any w22 g2 a2 c2 X2 (hX2.up N) q2).mono ?_
        rintro e w23 ⟨rfl, D2, m23⟩
        have zm23 := m23.size
        have lD2 := D2.lt
        replace oS := oS.up m23
        replace oA := oA.up m23
        replace D0 := D0.up m23
        replace N := nxt N m23
        clear m23
        go_wp2_with fail
        refine (toByteS_any w23 g3 a3 c3 X3 (hX3.up N) q3).mono ?_
        rintro e w24 ⟨rfl, D3, m24⟩
        have zm24 := m24.size
        have lD3 := D3.lt
        replace oS := oS.up m24
        replace oA := oA.up m24
        replace D0 := D0.up m24
        replace D2 := D2.up m24
        replace N := nxt N m24
        clear m24
        go_wp2_with fail
        refine (IM w24 _ _ _ D0.own0.rd (by simp) (Nat.le_refl _) _ _ _ D2.own0.rd (by simp) (Nat.le_refl _) _ _ _ D3.own0.rd (by simp) (Nat.le_refl _) N).mono ?_
        rintro e w25 ⟨⟨aoJ, coJ, goJ, rfl, oJ, poJ, koJ, roJ⟩, m25⟩
        have zm25 := m25.size
        have loJ := oJ.rd.lt
        clear poJ koJ
        replace oS := oS.up m25
        replace oA := oA.up m25
        replace D0 := D0.up m25
        replace D2 := D2.up m25
        replace D3 := D3.up m25
        replace N := nxt N m25
        clear m25
        go_wp2_with fail
        refine (eqByteS_same w25 _ _ _ _ _ _ ys oJ.rd oS.rd hy).mono ?_
        rintro e w26 ⟨rfl, m26⟩
        have zm26 := m26.size
        replace oS := oS.up m26
        replace oA := oA.up m26
        replace D0 := D0.up m26
        replace D2 := D2.up m26
        replace D3 := D3.up m26
        replace oJ := oJ.up m26
        replace N := nxt N m26
        clear m26
        go_wp2_with fail
        refine (heldByteS_any w26 _ _ _ ys.length 1 oA.rd hy (by decide) (by decide)).mono ?_
        rintro e w27 ⟨rfl, rfl⟩
        go_wp2
        go_ret
        exact ⟨rfl, N⟩
      · have u3 : decide ((1048576 : Int) < (X3.length : Int)) = true := by simp; omega
        go_enter Try.func4, Try.ntmps4
        go_wp2
        go_ret
        exact ⟨rfl, Below.refl _ _⟩
    · have u2 : decide ((1048576 : Int) < (X2.length : Int)) = true := by simp; omega
      go_enter Try.func4, Try.ntmps4
      go_wp2
      go_ret
      exact ⟨rfl, Below.refl _ _⟩
  · have u0 : decide ((1048576 : Int) < (X0.length : Int)) = true := by simp; omega
    go_enter Try.func4, Try.ntmps4
    go_wp2
    go_ret
    exact ⟨rfl, Below.refl _ _⟩
end Go.Proofs.Ytgkplbopelamkaa
