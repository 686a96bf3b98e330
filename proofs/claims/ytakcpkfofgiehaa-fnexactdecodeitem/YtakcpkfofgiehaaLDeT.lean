
/-
  The law of DecodeItem (written by gens/lexr.py).
-/
import Derived.Test.YtakcpkfofgiehaaDiS
import Derived.Test.YtakcpkfofgiehaaCuN
import Derived.Test.YtakcpkfofgiehaaResI
namespace Go.Proofs.Ytakcpkfofgiehaa
open Go Go.RowKit

set_option maxRecDepth 100000 in
set_option maxHeartbeats 8000000 in
theorem decItem_law (w : World) (g0 : Nat) (a0 : Option Addr) (c0 : Nat) (X0 : List Int) (hX0 : Rd w g0 a0 .u8 X0) (bX0 : Byt X0) (n1 : Int) (_bn1 : (Lit.int .i64 n1).wf = true) :
    Calls Try.prog 6 #[.slice a0 X0.length c0, .int .i64 n1] w fun e w' => e = .returned (.bool true) ∧ Below w.heap.size w w' := by
  by_cases q0 : X0.length ≤ 1048576
  · have u0 : decide ((1048576 : Int) < (X0.length : Int)) = false := by simp; omega
    have SP := fun W g a c h (_ : a = none → c = 0) (k : X0.length ≤ c) => specDecodeItem_any W g a c X0 n1 h bX0 k q0
    have IM := fun W g a c h (p : a = none → c = 0) (k : X0.length ≤ c) (_ : Below w.heap.size w W) => implDecodeItem_any W g a c X0 n1 h bX0 p k q0
    have hy : (dbT X0 (itZ X0 n1)).length ≤ 1048576 := Nat.le_trans (dbT_len X0 _) q0
    obtain ⟨tb, htb⟩ : ∃ b, b = diT (itZ X0 n1) := ⟨_, rfl⟩
    obtain ⟨tg, htg⟩ : ∃ b, b = dtT (itZ X0 n1) := ⟨_, rfl⟩
    obtain ⟨tn, htn⟩ : ∃ b, b = dnT (itZ X0 n1) := ⟨_, rfl⟩
    obtain ⟨ys, hys⟩ : ∃ ys, ys = dbT X0 (itZ X0 n1) := ⟨_, rfl⟩
    simp only [← hys, ← htb, ← htg, ← htn] at SP IM hy
    clear hys htb htg htn
    go_enter Try.func6, Try.ntmps6
    have N : Below w.heap.size w w := Below.refl _ _
    go_wp2_with fail
    refine (toByteS_any w g0 a0 c0 X0 (hX0.up N) q0).mono ?_
    rintro e w1 ⟨rfl, A0, m1⟩
    have zm1 := m1.size
    have lA0 := A0.lt
    replace N := nxt N m1
    clear m1
    go_wp2_with fail
    refine (SP w1 _ _ _ A0.own0.rd (by simp) (Nat.le_refl _)).mono ?_
    rintro e w2 ⟨NR, m2⟩
    have zm2 := m2.size
    obtain ⟨aoS, coS, goS, rfl, oS, boS, loS, koS⟩ := NR.at (B' := w.heap.size) (by omega) (by omega)
    clear NR
    replace A0 := A0.up m2
    replace N := nxt N m2
    clear m2
    have TS := Fo.new w2 (.bool tb) (.int .i64 tg) (.slice aoS ys.length coS) (.int .i64 tn) 36
    have m3 : Below w2.heap.size w2 (w2.alloc (.cells #[.bool tb, .int .i64 tg, .slice aoS ys.length coS, .int .i64 tn] 36)) := (Below.refl _ _).alloc (Nat.le_refl _) _
    have zm3 := m3.size
    have lTS := TS.lt
    go_wp2_with fail
    generalize w2.alloc (.cells #[.bool tb, .int .i64 tg, .slice aoS ys.length coS, .int .i64 tn] 36) = w3 at *
    replace A0 := A0.up m3
    replace oS := oS.up m3
    replace N := nxt N m3
    clear m3
    clear A0
    refine (toByteS_any w3 g0 a0 c0 X0 (hX0.up N) q0).mono ?_
    rintro e w4 ⟨rfl, B0, m4⟩
    have zm4 := m4.size
    have lB0 := B0.lt
    replace oS := oS.up m4
    replace TS := TS.up m4
    replace N := nxt N m4
    clear m4
    go_wp2_with fail
    refine (IM w4 _ _ _ B0.own0.rd (by simp) (Nat.le_refl _) N).mono ?_
    rintro e w5 ⟨NR, m5⟩
    have zm5 := m5.size
    obtain ⟨aoI, coI, goI, rfl, oI, boI, loI, koI⟩ := NR.at (B' := w3.heap.size) (by omega) (by omega)
    clear NR
    replace oS := oS.up m5
    replace TS := TS.up m5
    replace B0 := B0.up m5
    replace N := nxt N m5
    clear m5
    have TI := Fo.new w5 (.bool tb) (.int .i64 tg) (.slice aoI ys.length coI) (.int .i64 tn) 36
    have m6 : Below w5.heap.size w5 (w5.alloc (.cells #[.bool tb, .int .i64 tg, .slice aoI ys.length coI, .int .i64 tn] 36)) := (Below.refl _ _).alloc (Nat.le_refl _) _
    have zm6 := m6.size
    have lTI := TI.lt
    replace oS := oS.up m6
    replace TS := TS.up m6
    replace B0 := B0.up m6
    replace oI := oI.up m6
    replace N := nxt N m6
    have TSc0 := TS.c0
    have TSc1 := TS.c1
    have TSc2 := TS.c2
    have TSc3 := TS.c3
    have TIc0 := TI.c0
    have TIc1 := TI.c1
    have TIc2 := TI.c2
    have TIc3 := TI.c3
    go_wp2_with fail
    generalize w5.alloc (.cells #[.bool tb, .int .i64 tg, .slice aoI ys.length coI, .int .i64 tn] 36) = w6 at *
    clear TSc0 TSc1 TSc2 TSc3 TIc0 TIc1 TIc2 TIc3
    clear m6
    refine (eqItemResult_same w6 tb tg tn _ _ _ _ _ _ ys oI.rd oS.rd hy).mono ?_
    rintro e w7 ⟨rfl, m7⟩
    have zm7 := m7.size
    replace oS := oS.up m7
    replace TS := TS.up m7
    replace B0 := B0.up m7
    replace oI := oI.up m7
    replace TI := TI.up m7
    replace N := nxt N m7
    clear m7
    go_wp2_with fail
    refine (toByteS_any w7 g0 a0 c0 X0 (hX0.up N) q0).mono ?_
    rintro e w8 ⟨rfl, E0, m8⟩
    have zm8 := m8.size
    have lE0 := E0.lt
    replace oS := oS.up m8
    replace TS := TS.up m8
    replace B0 := B0.up m8
    replace oI := oI.up m8
    replace TI := TI.up m8
    replace N := nxt N m8
    clear m8
    go_wp2_with fail
    refine (eqByteS_same w8 _ _ _ _ _ _ X0 B0.own0.rd E0.own0.rd q0).mono ?_
    rintro e w9 ⟨rfl, m9⟩
    have zm9 := m9.size
    replace oS := oS.up m9
    replace TS := TS.up m9
    replace B0 := B0.up m9
    replace oI := oI.up m9
    replace TI := TI.up m9
    replace E0 := E0.up m9
    replace N := nxt N m9
    clear m9
    clear E0
    go_wp2_with fail
    refine (markByteS_any w9 _ _ _ X0 (1) B0.own0 q0 (by omega) (by omega)).mono ?_
    rintro e w10 ⟨rfl, _, O0⟩
    replace oS := oS.only O0 (fun h => by have := koS h; omega)
    replace TS := TS.only O0 (by omega)
    replace oI := oI.only O0 (fun h => by have := koI h; omega)
    replace TI := TI.only O0 (by omega)
    replace N := N.trans (O0.below (B := w.heap.size) (by omega))
    have y0 := O0.size
    have zm10 : w9.heap.size ≤ w10.heap.size := Nat.le_of_eq y0.symm
    clear y0 O0 B0
    have v1 : decide (1 + (X0.length : Int) < 0) = false := by simp; omega
    have TSc0 := TS.c0
    have TSc1 := TS.c1
    have TSc2 := TS.c2
    have TSc3 := TS.c3
    have TIc0 := TI.c0
    have TIc1 := TI.c1
    have TIc2 := TI.c2
    have TIc3 := TI.c3
    go_wp2_with fail
    clear TSc0 TSc1 TSc2 TSc3 TIc0 TIc1 TIc2 TIc3
    refine (eqItemResult_same w10 tb tg tn _ _ _ _ _ _ ys oI.rd oS.rd hy).mono ?_
    rintro e w11 ⟨rfl, m11⟩
    have zm11 := m11.size
    replace oS := oS.up m11
    replace TS := TS.up m11
    replace oI := oI.up m11
    replace TI := TI.up m11
    replace N := nxt N m11
    clear m11
    have TSc0 := TS.c0
    have TSc1 := TS.c1
    have TSc2 := TS.c2
    have TSc3 := TS.c3
    have TIc0 := TI.c0
    have TIc1 := TI.c1
    have TIc2 := TI.c2
    have TIc3 := TI.c3
    go_wp2_with fail
    clear TSc0 TSc1 TSc2 TSc3 TIc0 TIc1 TIc2 TIc3
    refine (markItemResult_any w11 tb tg tn _ _ _ ys 1 oI hy (by decide) (by decide)).mono ?_
    rintro e w12 ⟨rfl, oA, wA, nA, OA⟩
    have zA := nA.size
    have yA := OA.size
    replace N := (nxt N nA).trans (OA.below (B := w.heap.size) (by omega))
    replace oS := (oS.up nA).only OA (fun h => by have := koS h; omega)
    replace TS := (TS.up nA).only OA (by omega)
    replace TI := (TI.up nA).only OA (by omega)
    have v2 : decide ((1 : Int) + (ys.length : Int) < 0) = false := by simp; omega
    clear oI OA nA
    have TSc0 := TS.c0
    have TSc1 := TS.c1
    have TSc2 := TS.c2
    have TSc3 := TS.c3
    have TIc0 := TI.c0
    have TIc1 := TI.c1
    have TIc2 := TI.c2
    have TIc3 := TI.c3
    go_wp2_with fail
    clear TSc0 TSc1 TSc2 TSc3 TIc0 TIc1 TIc2 TIc3
    refine (heldItemResult_any w12 tb tg tn _ _ _ ys.length 1 oA.rd hy (by decide) (by decide)).mono ?_
    rintro e w13 ⟨rfl, m13⟩
    have zm13 := m13.size
    replace oS := oS.up m13
    replace TS := TS.up m13
    replace TI := TI.up m13
    replace oA := oA.up m13
    replace N := nxt N m13
    clear m13
    go_wp2_with fail
    refine (toByteS_any w13 g0 a0 c0 X0 (hX0.up N) q0).mono ?_
    rintro e w14 ⟨rfl, D0, m14⟩
    have zm14 := m14.size
    have lD0 := D0.lt
    replace oS := oS.up m14
    replace TS := TS.up m14
    replace TI := TI.up m14
    replace oA := oA.up m14
    replace N := nxt N m14
    clear m14
    go_wp2_with fail
    refine (IM w14 _ _ _ D0.own0.rd (by simp) (Nat.le_refl _) N).mono ?_
    rintro e w15 ⟨NR, m15⟩
    have zm15 := m15.size
    obtain ⟨aoJ, coJ, goJ, rfl, oJ, boJ, loJ, koJ⟩ := NR.at (B' := w13.heap.size) (by omega) (by omega)
    clear NR
    replace oS := oS.up m15
    replace TS := TS.up m15
    replace TI := TI.up m15
    replace oA := oA.up m15
    replace D0 := D0.up m15
    replace N := nxt N m15
    clear m15
    have TJ := Fo.new w15 (.bool tb) (.int .i64 tg) (.slice aoJ ys.length coJ) (.int .i64 tn) 36
    have m16 : Below w15.heap.size w15 (w15.alloc (.cells #[.bool tb, .int .i64 tg, .slice aoJ ys.length coJ, .int .i64 tn] 36)) := (Below.refl _ _).alloc (Nat.le_refl _) _
    have zm16 := m16.size
    have lTJ := TJ.lt
    replace oS := oS.up m16
    replace TS := TS.up m16
    replace TI := TI.up m16
    replace oA := oA.up m16
    replace D0 := D0.up m16
    replace oJ := oJ.up m16
    replace N := nxt N m16
    have TSc0 := TS.c0
    have TSc1 := TS.c1
    have TSc2 := TS.c2
    have TSc3 := TS.c3
    have TIc0 := TI.c0
    have TIc1 := TI.c1
    have TIc2 := TI.c2
    have TIc3 := TI.c3
    have TJc0 := TJ.c0
    have TJc1 := TJ.c1
    have TJc2 := TJ.c2
    have TJc3 := TJ.c3
    go_wp2_with fail
    generalize w15.alloc (.cells #[.bool tb, .int .i64 tg, .slice aoJ ys.length coJ, .int .i64 tn] 36) = w16 at *
    clear TSc0 TSc1 TSc2 TSc3 TIc0 TIc1 TIc2 TIc3 TJc0 TJc1 TJc2 TJc3
    clear m16
    refine (eqItemResult_same w16 tb tg tn _ _ _ _ _ _ ys oJ.rd oS.rd hy).mono ?_
    rintro e w17 ⟨rfl, m17⟩
    have zm17 := m17.size
    replace oS := oS.up m17
    replace TS := TS.up m17
    replace TI := TI.up m17
    replace oA := oA.up m17
    replace D0 := D0.up m17
    replace oJ := oJ.up m17
    replace TJ := TJ.up m17
    replace N := nxt N m17
    clear m17
    have TSc0 := TS.c0
    have TSc1 := TS.c1
    have TSc2 := TS.c2
    have TSc3 := TS.c3
    have TIc0 := TI.c0
    have TIc1 := TI.c1
    have TIc2 := TI.c2
    have TIc3 := TI.c3
    have TJc0 := TJ.c0
    have TJc1 := TJ.c1
    have TJc2 := TJ.c2
    have TJc3 := TJ.c3
    go_wp2_with fail
    clear TSc0 TSc1 TSc2 TSc3 TIc0 TIc1 TIc2 TIc3 TJc0 TJc1 TJc2 TJc3
    refine (heldItemResult_any w17 tb tg tn _ _ _ ys.length 1 oA.rd hy (by decide) (by decide)).mono ?_
    rintro e w18 ⟨rfl, m18⟩
    have zm18 := m18.size
    replace oS := oS.up m18
    replace TS := TS.up m18
    replace TI := TI.up m18
    replace oA := oA.up m18
    replace D0 := D0.up m18
    replace oJ := oJ.up m18
    replace TJ := TJ.up m18
    replace N := nxt N m18
    clear m18
    go_wp2
    go_ret
    exact ⟨rfl, N⟩
  · have u0 : decide ((1048576 : Int) < (X0.length : Int)) = true := by simp; omega
    go_enter Try.func6, Try.ntmps6
    go_wp2
    go_ret
    exact ⟨rfl, Below.refl _ _⟩
end Go.Proofs.Ytakcpkfofgiehaa
