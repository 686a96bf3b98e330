
/-
  The law of OneTime (written by gens/lexs.py).
-/
import Derived.Test.YthfbchkonklmkaaPoU
import Derived.Test.YthfbchkonklmkaaHelp
namespace Go.Proofs.Ythfbchkonklmkaa
open Go Go.RowKit

set_option maxHeartbeats 4000000 in
theorem one_law (w : World) (g0 : Nat) (a0 : Option Addr) (c0 : Nat) (X0 : List Int) (hX0 : Rd w g0 a0 .u8 X0) (bX0 : Byt X0) (g1 : Nat) (a1 : Option Addr) (c1 : Nat) (X1 : List Int) (hX1 : Rd w g1 a1 .u8 X1) (bX1 : Byt X1) :
    Calls Try.prog 3 #[.slice a0 X0.length c0, .slice a1 X1.length c1] w fun e w' => e = .returned (.bool true) ∧ Below w.heap.size w w' := by
  by_cases q0 : X0.length ≤ 1048576
  · have u0 : decide ((1048576 : Int) < (X0.length : Int)) = false := by simp; omega
    by_cases q1 : X1.length ≤ 1048576
    · have u1 : decide ((1048576 : Int) < (X1.length : Int)) = false := by simp; omega
      have SP := fun W g a c h (_ : a = none → c = 0) (k : X0.length ≤ c) g' a' c' h' (_ : a' = none → c' = 0) (_ : X1.length ≤ c') => specOneTime_any W g a c X0 h bX0 k g' a' c' X1 h' bX1 (by omega)
      have IM := fun W g a c h (_ : a = none → c = 0) (_ : X0.length ≤ c) g' a' c' h' (_ : a' = none → c' = 0) (k' : X1.length ≤ c') (_ : Below w.heap.size w W) => implOneTime_any W g a c X0 h bX0 g' a' c' X1 h' bX1 k' (by omega)
      have hy : (otA X0 X1).length ≤ 1048576 := by unfold otA; split <;> simp [otB_len]
      obtain ⟨ys, hys⟩ : ∃ ys, ys = otA X0 X1 := ⟨_, rfl⟩
      simp only [← hys] at SP IM hy
      clear hys
      go_enter Try.func3, Try.ntmps3
      have N : Below w.heap.size w w := Below.refl _ _
      go_wp2_with fail
      refine (toByteS_any w g0 a0 c0 X0 (hX0.up N) q0).mono ?_
      rintro e w1 ⟨rfl, A0, m1⟩
      have zm1 := m1.size
      have lA0 := A0.lt
      replace N := nxt N m1
      clear m1
      go_wp2_with fail
      refine (toByteS_any w1 g1 a1 c1 X1 (hX1.up N) q1).mono ?_
      rintro e w2 ⟨rfl, A1, m2⟩
      have zm2 := m2.size
      have lA1 := A1.lt
      replace A0 := A0.up m2
      replace N := nxt N m2
      clear m2
      go_wp2_with fail
      refine (SP w2 _ _ _ A0.own0.rd (by simp) (Nat.le_refl _) _ _ _ A1.own0.rd (by simp) (Nat.le_refl _)).mono ?_
      rintro e w3 ⟨⟨aoS, coS, goS, rfl, oS, poS, koS, roS⟩, m3⟩
      have zm3 := m3.size
      have loS := oS.rd.lt
      clear poS koS
      replace A0 := A0.up m3
      replace A1 := A1.up m3
      replace N := nxt N m3
      clear m3
      clear A0 A1
      go_wp2_with fail
      refine (toByteS_any w3 g0 a0 c0 X0 (hX0.up N) q0).mono ?_
      rintro e w4 ⟨rfl, B0, m4⟩
      have zm4 := m4.size
      have lB0 := B0.lt
      replace oS := oS.up m4
      replace N := nxt N m4
      clear m4
      go_wp2_with fail
      refine (toByteS_any w4 g1 a1 c1 X1 (hX1.up N) q1).mono ?_
      rintro e w5 ⟨rfl, B1, m5⟩
      have zm5 := m5.size
      have lB1 := B1.lt
      replace oS := oS.up m5
      replace B0 := B0.up m5
      replace N := nxt N m5
      clear m5
      go_wp2_with fail
      refine (IM w5 _ _ _ B0.own0.rd (by simp) (Nat.le_refl _) _ _ _ B1.own0.rd (by simp) (Nat.le_refl _) N).mono ?_
      rintro e w6 ⟨⟨aoI, coI, goI, rfl, oI, poI, koI, roI⟩, m6⟩
      have zm6 := m6.size
      have loI := oI.rd.lt
      clear poI koI
      replace oS := oS.up m6
      replace B0 := B0.up m6
      replace B1 := B1.up m6
      replace N := nxt N m6
      clear m6
      go_wp2_with fail
      refine (eqByteS_same w6 _ _ _ _ _ _ ys oI.rd oS.rd hy).mono ?_
      rintro e w7 ⟨rfl, m7⟩
      have zm7 := m7.size
      replace oS := oS.up m7
      replace B0 := B0.up m7
      replace B1 := B1.up m7
      replace oI := oI.up m7
      replace N := nxt N m7
      clear m7
      go_wp2_with fail
      refine (toByteS_any w7 g0 a0 c0 X0 (hX0.up N) q0).mono ?_
      rintro e w8 ⟨rfl, E0, m8⟩
      have zm8 := m8.size
      have lE0 := E0.lt
      replace oS := oS.up m8
      replace B0 := B0.up m8
      replace B1 := B1.up m8
      replace oI := oI.up m8
      replace N := nxt N m8
      clear m8
      go_wp2_with fail
      refine (eqByteS_same w8 _ _ _ _ _ _ X0 B0.own0.rd E0.own0.rd q0).mono ?_
      rintro e w9 ⟨rfl, m9⟩
      have zm9 := m9.size
      replace oS := oS.up m9
      replace B0 := B0.up m9
      replace B1 := B1.up m9
      replace oI := oI.up m9
      replace E0 := E0.up m9
      replace N := nxt N m9
      clear m9
      clear E0
      go_wp2_with fail
      refine (toByteS_any w9 g1 a1 c1 X1 (hX1.up N) q1).mono ?_
      rintro e w10 ⟨rfl, E1, m10⟩
      have zm10 := m10.size
      have lE1 := E1.lt
      replace oS := oS.up m10
      replace B0 := B0.up m10
      replace B1 := B1.up m10
      replace oI := oI.up m10
      replace N := nxt N m10
      clear m10
      go_wp2_with fail
      refine (eqByteS_same w10 _ _ _ _ _ _ X1 B1.own0.rd E1.own0.rd q1).mono ?_
      rintro e w11 ⟨rfl, m11⟩
      have zm11 := m11.size
      replace oS := oS.up m11
      replace B0 := B0.up m11
      replace B1 := B1.up m11
      replace oI := oI.up m11
      replace E1 := E1.up m11
      replace N := nxt N m11
      clear m11
      clear E1
      go_wp2_with fail
      refine (markByteS_any w11 _ _ _ X0 (1) B0.own0 q0 (by omega) (by omega)).mono ?_
      rintro e w12 ⟨rfl, _, O0⟩
      replace oS := oS.only O0 (fun h => by have := loS h; omega)
      replace B1 := B1.of_block (O0.block _ (by omega))
      replace oI := oI.only O0 (fun h => by have := loI h; omega)
      replace N := N.trans (O0.below (B := w.heap.size) (by omega))
      have y0 := O0.size
      have zm12 : w11.heap.size ≤ w12.heap.size := Nat.le_of_eq y0.symm
      clear y0 O0 B0
      go_wp2_with fail
      refine (markByteS_any w12 _ _ _ X1 (1 + (X0.length : Int)) B1.own0 q1 (by omega) (by omega)).mono ?_
      rintro e w13 ⟨rfl, _, O1⟩
      replace oS := oS.only O1 (fun h => by have := loS h; omega)
      replace oI := oI.only O1 (fun h => by have := loI h; omega)
      replace N := N.trans (O1.below (B := w.heap.size) (by omega))
      have y1 := O1.size
      have zm13 : w12.heap.size ≤ w13.heap.size := Nat.le_of_eq y1.symm
      clear y1 O1 B1
      have v1 : decide (1 + (X0.length : Int) + (X1.length : Int) < 0) = false := by simp; omega
      go_wp2_with fail
      refine (eqByteS_same w13 _ _ _ _ _ _ ys oI.rd oS.rd hy).mono ?_
      rintro e w14 ⟨rfl, m14⟩
      have zm14 := m14.size
      replace oS := oS.up m14
      replace oI := oI.up m14
      replace N := nxt N m14
      clear m14
      go_wp2_with fail
      refine (markByteS_any w14 _ _ _ ys 1 oI hy (by decide) (by decide)).mono ?_
      rintro e w15 ⟨rfl, oA, OA⟩
      replace N := N.trans (OA.below (B := w.heap.size) (by omega))
      replace oS := oS.only OA (fun h => by have := loS h; omega)
      have v2 : decide ((1 : Int) + (ys.length : Int) < 0) = false := by simp; omega
      clear oI OA
      go_wp2_with fail
      refine (heldByteS_any w15 _ _ _ ys.length 1 oA.rd hy (by decide) (by decide)).mono ?_
      rintro e w16 ⟨rfl, rfl⟩
      clear loI lB0 lB1
      go_wp2_with fail
      refine (toByteS_any w16 g0 a0 c0 X0 (hX0.up N) q0).mono ?_
      rintro e w17 ⟨rfl, D0, m17⟩
      have zm17 := m17.size
      have lD0 := D0.lt
      replace oS := oS.up m17
      replace oA := oA.up m17
      replace N := nxt N m17
      clear m17
      go_wp2_with fail
      refine (toByteS_any w17 g1 a1 c1 X1 (hX1.up N) q1).mono ?_
      rintro e w18 ⟨rfl, D1, m18⟩
      have zm18 := m18.size
      have lD1 := D1.lt
      replace oS := oS.up m18
      replace oA := oA.up m18
      replace D0 := D0.up m18
      replace N := nxt N m18
      clear m18
      go_wp2_with fail
      refine (IM w18 _ _ _ D0.own0.rd (by simp) (Nat.le_refl _) _ _ _ D1.own0.rd (by simp) (Nat.le_refl _) N).mono ?_
      rintro e w19 ⟨⟨aoJ, coJ, goJ, rfl, oJ, poJ, koJ, roJ⟩, m19⟩
      have zm19 := m19.size
      have loJ := oJ.rd.lt
      clear poJ koJ
      replace oS := oS.up m19
      replace oA := oA.up m19
      replace D0 := D0.up m19
      replace D1 := D1.up m19
      replace N := nxt N m19
      clear m19
      go_wp2_with fail
      refine (eqByteS_same w19 _ _ _ _ _ _ ys oJ.rd oS.rd hy).mono ?_
      rintro e w20 ⟨rfl, m20⟩
      have zm20 := m20.size
      replace oS := oS.up m20
      replace oA := oA.up m20
      replace D0 := D0.up m20
      replace D1 := D1.up m20
      replace oJ := oJ.up m20
      replace N := nxt N m20
      clear m20
      go_wp2_with fail
      refine (heldByteS_any w20 _ _ _ ys.length 1 oA.rd hy (by decide) (by decide)).mono ?_
      rintro e w21 ⟨rfl, rfl⟩
      go_wp2
      go_ret
      exact ⟨rfl, N⟩
    · have u1 : decide ((1048576 : Int) < (X1.length : Int)) = true := by simp; omega
      go_enter Try.func3, Try.ntmps3
      go_wp2
      go_ret
      exact ⟨rfl, Below.refl _ _⟩
  · have u0 : decide ((1048576 : Int) < (X0.length : Int)) = true := by simp; omega
    go_enter Try.func3, Try.ntmps3
    go_wp2
    go_ret
    exact ⟨rfl, Below.refl _ _⟩
end Go.Proofs.Ythfbchkonklmkaa
