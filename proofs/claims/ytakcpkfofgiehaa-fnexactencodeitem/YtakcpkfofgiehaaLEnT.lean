
/-
  The law of EncodeItem (written by gens/lexs.py).
-/
import Derived.Test.YtakcpkfofgiehaaIcS
import Derived.Test.YtakcpkfofgiehaaHelp
namespace Go.Proofs.Ytakcpkfofgiehaa
open Go Go.RowKit

set_option maxHeartbeats 4000000 in
theorem encItem_law (w : World) (n0 : Int) (_bn0 : (Lit.int .i64 n0).wf = true) (g1 : Nat) (a1 : Option Addr) (c1 : Nat) (X1 : List Int) (hX1 : Rd w g1 a1 .u8 X1) (_bX1 : Byt X1) :
    Calls Try.prog 3 #[.int .i64 n0, .slice a1 X1.length c1] w fun e w' => e = .returned (.bool true) ∧ Below w.heap.size w w' := by
  by_cases q1 : X1.length ≤ 1048576
  · have u1 : decide ((1048576 : Int) < (X1.length : Int)) = false := by simp; omega
    have SP := fun W g a c h (p : a = none → c = 0) (_ : X1.length ≤ c) => specEncodeItem_any W n0 g a c X1 h p
    have IM := fun W g a c h (p : a = none → c = 0) (_ : X1.length ≤ c) (_ : Below w.heap.size w W) => implEncodeItem_any W n0 g a c X1 h p
    have hy : (itL n0 X1).length ≤ 1048576 := by have := itL_short n0 X1; omega
    obtain ⟨ys, hys⟩ : ∃ ys, ys = itL n0 X1 := ⟨_, rfl⟩
    simp only [← hys] at SP IM hy
    clear hys
    go_enter Try.func3, Try.ntmps3
    have N : Below w.heap.size w w := Below.refl _ _
    go_wp2_with fail
    refine (toByteS_any w g1 a1 c1 X1 (hX1.up N) q1).mono ?_
    rintro e w1 ⟨rfl, A1, m1⟩
    have zm1 := m1.size
    have lA1 := A1.lt
    replace N := nxt N m1
    clear m1
    go_wp2_with fail
    refine (SP w1 _ _ _ A1.own0.rd (by simp) (Nat.le_refl _)).mono ?_
    rintro e w2 ⟨⟨aoS, coS, goS, rfl, oS, poS, koS, roS⟩, m2⟩
    have zm2 := m2.size
    have loS := oS.rd.lt
    clear poS koS
    replace A1 := A1.up m2
    replace N := nxt N m2
    clear m2
    clear A1
    go_wp2_with fail
    refine (toByteS_any w2 g1 a1 c1 X1 (hX1.up N) q1).mono ?_
    rintro e w3 ⟨rfl, B1, m3⟩
    have zm3 := m3.size
    have lB1 := B1.lt
    replace oS := oS.up m3
    replace N := nxt N m3
    clear m3
    go_wp2_with fail
    refine (IM w3 _ _ _ B1.own0.rd (by simp) (Nat.le_refl _) N).mono ?_
    rintro e w4 ⟨⟨aoI, coI, goI, rfl, oI, poI, koI, roI⟩, m4⟩
    have zm4 := m4.size
    have loI := oI.rd.lt
    clear poI koI
    replace oS := oS.up m4
    replace B1 := B1.up m4
    replace N := nxt N m4
    clear m4
    go_wp2_with fail
    refine (eqByteS_same w4 _ _ _ _ _ _ ys oI.rd oS.rd hy).mono ?_
    rintro e w5 ⟨rfl, m5⟩
    have zm5 := m5.size
    replace oS := oS.up m5
    replace B1 := B1.up m5
    replace oI := oI.up m5
    replace N := nxt N m5
    clear m5
    go_wp2_with fail
    refine (toByteS_any w5 g1 a1 c1 X1 (hX1.up N) q1).mono ?_
    rintro e w6 ⟨rfl, E1, m6⟩
    have zm6 := m6.size
    have lE1 := E1.lt
    replace oS := oS.up m6
    replace B1 := B1.up m6
    replace oI := oI.up m6
    replace N := nxt N m6
    clear m6
    go_wp2_with fail
    refine (eqByteS_same w6 _ _ _ _ _ _ X1 B1.own0.rd E1.own0.rd q1).mono ?_
    rintro e w7 ⟨rfl, m7⟩
    have zm7 := m7.size
    replace oS := oS.up m7
    replace B1 := B1.up m7
    replace oI := oI.up m7
    replace E1 := E1.up m7
    replace N := nxt N m7
    clear m7
    clear E1
    go_wp2_with fail
    refine (markByteS_any w7 _ _ _ X1 (1) B1.own0 q1 (by omega) (by omega)).mono ?_
    rintro e w8 ⟨rfl, _, O1⟩
    replace oS := oS.only O1 (fun h => by have := loS h; omega)
    replace oI := oI.only O1 (fun h => by have := loI h; omega)
    replace N := N.trans (O1.below (B := w.heap.size) (by omega))
    have y1 := O1.size
    have zm8 : w7.heap.size ≤ w8.heap.size := Nat.le_of_eq y1.symm
    clear y1 O1 B1
    have v1 : decide (1 + (X1.length : Int) < 0) = false := by simp; omega
    go_wp2_with fail
    refine (eqByteS_same w8 _ _ _ _ _ _ ys oI.rd oS.rd hy).mono ?_
    rintro e w9 ⟨rfl, m9⟩
    have zm9 := m9.size
    replace oS := oS.up m9
    replace oI := oI.up m9
    replace N := nxt N m9
    clear m9
    go_wp2_with fail
    refine (markByteS_any w9 _ _ _ ys 1 oI hy (by decide) (by decide)).mono ?_
    rintro e w10 ⟨rfl, oA, OA⟩
    replace N := N.trans (OA.below (B := w.heap.size) (by omega))
    replace oS := oS.only OA (fun h => by have := loS h; omega)
    have v2 : decide ((1 : Int) + (ys.length : Int) < 0) = false := by simp; omega
    clear oI OA
    go_wp2_with fail
    refine (heldByteS_any w10 _ _ _ ys.length 1 oA.rd hy (by decide) (by decide)).mono ?_
    rintro e w11 ⟨rfl, rfl⟩
    clear loI lB1
    go_wp2_with fail
    refine (toByteS_any w11 g1 a1 c1 X1 (hX1.up N) q1).mono ?_
    rintro e w12 ⟨rfl, D1, m12⟩
    have zm12 := m12.size
    have lD1 := D1.lt
    replace oS := oS.up m12
    replace oA := oA.up m12
    replace N := nxt N m12
    clear m12
    go_wp2_with fail
    refine (IM w12 _ _ _ D1.own0.rd (by simp) (Nat.le_refl _) N).mono ?_
    rintro e w13 ⟨⟨aoJ, coJ, goJ, rfl, oJ, poJ, koJ, roJ⟩, m13⟩
    have zm13 := m13.size
    have loJ := oJ.rd.lt
    clear poJ koJ
    replace oS := oS.up m13
    replace oA := oA.up m13
    replace D1 := D1.up m13
    replace N := nxt N m13
    clear m13
    go_wp2_with fail
    refine (eqByteS_same w13 _ _ _ _ _ _ ys oJ.rd oS.rd hy).mono ?_
    rintro e w14 ⟨rfl, m14⟩
    have zm14 := m14.size
    replace oS := oS.up m14
    replace oA := oA.up m14
    replace D1 := D1.up m14
    replace oJ := oJ.up m14
    replace N := nxt N m14
    clear m14
    go_wp2_with fail
    refine (heldByteS_any w14 _ _ _ ys.length 1 oA.rd hy (by decide) (by decide)).mono ?_
    rintro e w15 ⟨rfl, rfl⟩
    go_wp2
    go_ret
    exact ⟨rfl, N⟩
  · have u1 : decide ((1048576 : Int) < (X1.length : Int)) = true := by simp; omega
    go_enter Try.func3, Try.ntmps3
    go_wp2
    go_ret
    exact ⟨rfl, Below.refl _ _⟩
end Go.Proofs.Ytakcpkfofgiehaa
