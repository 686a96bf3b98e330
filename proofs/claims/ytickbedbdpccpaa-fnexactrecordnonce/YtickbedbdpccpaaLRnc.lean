
/-
  The law of RecordNonce (written by gens/lexs.py).
-/
import Derived.Test.YtickbedbdpccpaaRnS
import Derived.Test.YtickbedbdpccpaaHelp
namespace Go.Proofs.Ytickbedbdpccpaa
open Go Go.RowKit

set_option maxHeartbeats 4000000 in
theorem rnc_law (w : World) (g0 : Nat) (a0 : Option Addr) (c0 : Nat) (X0 : List Int) (hX0 : Rd w g0 a0 .u8 X0) (_bX0 : Byt X0) (n1 : Int) (_bn1 : (Lit.int .i64 n1).wf = true) :
    Calls Try.prog 3 #[.slice a0 X0.length c0, .int .i64 n1] w fun e w' => e = .returned (.bool true) ∧ Below w.heap.size w w' := by
  by_cases q0 : X0.length ≤ 1048576
  · have u0 : decide ((1048576 : Int) < (X0.length : Int)) = false := by simp; omega
    have SP : ∀ W g a c, Rd W g a .u8 X0 → (a = none → c = 0) → X0.length ≤ c → Calls Try.prog 6 #[.slice a X0.length c, .int .i64 n1] W fun e w' => NewRow W.heap.size w' e .u8 (rnA X0 n1) ∧ Below W.heap.size W w' := fun W g a c h p _ => (specNonce_any W g a c X0 h p n1).mono (by rintro e w' ⟨v, rfl, R, n⟩; obtain ⟨x1, x2, x3, rfl, x4⟩ := R.own; exact ⟨⟨x1, x2, x3, rfl, x4⟩, n⟩)
    have IM : ∀ W g a c, Rd W g a .u8 X0 → (a = none → c = 0) → X0.length ≤ c → Below w.heap.size w W → Calls Try.prog 8 #[.slice a X0.length c, .int .i64 n1] W fun e w' => NewRow W.heap.size w' e .u8 (rnA X0 n1) ∧ Below W.heap.size W w' := fun W g a c h p _ _ => (implNonce_any W g a c X0 h p n1).mono (by rintro e w' ⟨v, rfl, R, n⟩; obtain ⟨x1, x2, x3, rfl, x4⟩ := R.own; exact ⟨⟨x1, x2, x3, rfl, x4⟩, n⟩)
    have hy : (rnA X0 n1).length ≤ 1048576 := Nat.le_trans (rnA_len X0 n1) (by decide)
    obtain ⟨ys, hys⟩ : ∃ ys, ys = rnA X0 n1 := ⟨_, rfl⟩
    simp only [← hys] at SP IM hy
    clear hys
    go_enter Try.func3, Try.ntmps3
    have N : Below w.heap.size w w := Below.refl _ _
    go_wp2_with fail
    refine (toByteS_any w g0 a0 c0 X0 (hX0.up N) q0).mono ?_
    rintro e w1 ⟨rfl, A0, m1⟩
    have zm1 := m1.size
    have lA0 := A0.lt
    replace N := nxt N m1
    clear m1
    go_wp2_with fail
    refine (SP w1 _ _ _ A0.own0.rd (by simp) (Nat.le_refl _)).mono ?_
    rintro e w2 ⟨⟨aoS, coS, goS, rfl, oS, poS, koS, roS⟩, m2⟩
    have zm2 := m2.size
    have loS := oS.rd.lt
    clear poS koS
    replace A0 := A0.up m2
    replace N := nxt N m2
    clear m2
    clear A0
    go_wp2_with fail
    refine (toByteS_any w2 g0 a0 c0 X0 (hX0.up N) q0).mono ?_
    rintro e w3 ⟨rfl, B0, m3⟩
    have zm3 := m3.size
    have lB0 := B0.lt
    replace oS := oS.up m3
    replace N := nxt N m3
    clear m3
    go_wp2_with fail
    refine (IM w3 _ _ _ B0.own0.rd (by simp) (Nat.le_refl _) N).mono ?_
    rintro e w4 ⟨⟨aoI, coI, goI, rfl, oI, poI, koI, roI⟩, m4⟩
    have zm4 := m4.size
    have loI := oI.rd.lt
    clear poI koI
    replace oS := oS.up m4
    replace B0 := B0.up m4
    replace N := nxt N m4
    clear m4
    go_wp2_with fail
    refine (eqByteS_same w4 _ _ _ _ _ _ ys oI.rd oS.rd hy).mono ?_
    rintro e w5 ⟨rfl, m5⟩
    have zm5 := m5.size
    replace oS := oS.up m5
    replace B0 := B0.up m5
    replace oI := oI.up m5
    replace N := nxt N m5
    clear m5
    go_wp2_with fail
    refine (toByteS_any w5 g0 a0 c0 X0 (hX0.up N) q0).mono ?_
    rintro e w6 ⟨rfl, E0, m6⟩
    have zm6 := m6.size
    have lE0 := E0.lt
    replace oS := oS.up m6
    replace B0 := B0.up m6
    replace oI := oI.up m6
    replace N := nxt N m6
    clear m6
    go_wp2_with fail
    refine (eqByteS_same w6 _ _ _ _ _ _ X0 B0.own0.rd E0.own0.rd q0).mono ?_
    rintro e w7 ⟨rfl, m7⟩
    have zm7 := m7.size
    replace oS := oS.up m7
    replace B0 := B0.up m7
    replace oI := oI.up m7
    replace E0 := E0.up m7
    replace N := nxt N m7
    clear m7
    clear E0
    go_wp2_with fail
    refine (markByteS_any w7 _ _ _ X0 (1) B0.own0 q0 (by omega) (by omega)).mono ?_
    rintro e w8 ⟨rfl, _, O0⟩
    replace oS := oS.only O0 (fun h => by have := loS h; omega)
    replace oI := oI.only O0 (fun h => by have := loI h; omega)
    replace N := N.trans (O0.below (B := w.heap.size) (by omega))
    have y0 := O0.size
    have zm8 : w7.heap.size ≤ w8.heap.size := Nat.le_of_eq y0.symm
    clear y0 O0 B0
    have v1 : decide (1 + (X0.length : Int) < 0) = false := by simp; omega
    go_wp2_with fail
    refine (eqByteS_same w8 _ _ _ _ _ _ ys oI.rd oS.rd hy).mono ?_
    rintro e w9 ⟨rfl, m9⟩
    have zm9 := m9.size
    replace oS := oS.up m9
    replace oI := oI.up m9
    replace N := nxt N m9
    clear m9
    go_wp2_with fail
    refine (markByteS_any w9 _ _ _ ys 1 oI hy (by decide) (by decide)).mono ?_
    rintro e w10 ⟨rfl, oA, OA⟩
    replace N := N.trans (OA.below (B := w.heap.size) (by omega))
    replace oS := oS.only OA (fun h => by have := loS h; omega)
    have v2 : decide ((1 : Int) + (ys.length : Int) < 0) = false := by simp; omega
    clear oI OA
    go_wp2_with fail
    refine (heldByteS_any w10 _ _ _ ys.length 1 oA.rd hy (by decide) (by decide)).mono ?_
    rintro e w11 ⟨rfl, rfl⟩
    clear loI lB0
    go_wp2_with fail
    refine (toByteS_any w11 g0 a0 c0 X0 (hX0.up N) q0).mono ?_
    rintro e w12 ⟨rfl, D0, m12⟩
    have zm12 := m12.size
    have lD0 := D0.lt
    replace oS := oS.up m12
    replace oA := oA.up m12
    replace N := nxt N m12
    clear m12
    go_wp2_with fail
    refine (IM w12 _ _ _ D0.own0.rd (by simp) (Nat.le_refl _) N).mono ?_
    rintro e w13 ⟨⟨aoJ, coJ, goJ, rfl, oJ, poJ, koJ, roJ⟩, m13⟩
    have zm13 := m13.size
    have loJ := oJ.rd.lt
    clear poJ koJ
    replace oS := oS.up m13
    replace oA := oA.up m13
    replace D0 := D0.up m13
    replace N := nxt N m13
    clear m13
    go_wp2_with fail
    refine (eqByteS_same w13 _ _ _ _ _ _ ys oJ.rd oS.rd hy).mono ?_
    rintro e w14 ⟨rfl, m14⟩
    have zm14 := m14.size
    replace oS := oS.up m14
    replace oA := oA.up m14
    replace D0 := D0.up m14
    replace oJ := oJ.up m14
    replace N := nxt N m14
    clear m14
    go_wp2_with fail
    refine (heldByteS_any w14 _ _ _ ys.length 1 oA.rd hy (by decide) (by decide)).mono ?_
    rintro e w15 ⟨rfl, rfl⟩
    go_wp2
    go_ret
    exact ⟨rfl, N⟩
  · have u0 : decide ((1048576 : Int) < (X0.length : Int)) = true := by simp; omega
    go_enter Try.func3, Try.ntmps3
    go_wp2
    go_ret
    exact ⟨rfl, Below.refl _ _⟩
end Go.Proofs.Ytickbedbdpccpaa
