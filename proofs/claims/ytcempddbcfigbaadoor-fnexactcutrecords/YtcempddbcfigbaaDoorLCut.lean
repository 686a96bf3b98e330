
/-
  The law of CutRecords (written by gens/lcut.py).
-/
import Derived.Test.YtcempddbcfigbaaDoorCrL
namespace Go.Proofs.YtcempddbcfigbaaDoor
set_option maxRecDepth 100000
open Go Go.RowKit

/-- The three errors that cutting reads, no two of them the same. -/
def HasR3 (W : World) : Prop := ∃ a0 a1 a2, Sen W 0 a0 ∧ Sen W 1 a1 ∧ Sen W 2 a2 ∧ a0 ≠ a1 ∧ a0 ≠ a2 ∧ a1 ≠ a2
theorem laid_cut {W : World} (h : laidMetH Tryd.prog Rows.fnExactCutRecordsRow.laid W) : HasR3 W := by
  obtain ⟨x0, y0, h0, k0, e0⟩ := sen_pair h (by kernel_rfl) (n0 := "loop.example/g00004/impl.errNotWhole") (n1 := "loop.example/g00004/impl.errNoKind") (.cons_cons _ (.cons_cons _ (.cons _ (.slnil)))) (g0 := 0) (g1 := 1) (by kernel_rfl) (by kernel_rfl) (by kernel_rfl) (by kernel_rfl)
  obtain ⟨x1, y1, h1, k1, e1⟩ := sen_pair h (by kernel_rfl) (n0 := "loop.example/g00004/impl.errNotWhole") (n1 := "loop.example/g00004/impl.errWrongSize") (.cons_cons _ (.cons _ (.cons_cons _ (.slnil)))) (g0 := 0) (g1 := 2) (by kernel_rfl) (by kernel_rfl) (by kernel_rfl) (by kernel_rfl)
  obtain rfl := Sen.same h0 h1
  obtain ⟨x2, y2, h2, k2, e2⟩ := sen_pair h (by kernel_rfl) (n0 := "loop.example/g00004/impl.errNoKind") (n1 := "loop.example/g00004/impl.errWrongSize") (.cons _ (.cons_cons _ (.cons_cons _ (.slnil)))) (g0 := 1) (g1 := 2) (by kernel_rfl) (by kernel_rfl) (by kernel_rfl) (by kernel_rfl)
  obtain rfl := Sen.same k0 h2
  obtain rfl := Sen.same k1 k2
  exact ⟨_, _, _, h0, k0, k1, e0, e1, e2⟩

set_option maxRecDepth 100000 in
set_option maxHeartbeats 8000000 in
theorem cut_law (w : World) (g0 : Nat) (a0 : Option Addr) (c0 : Nat) (X0 : List Int) (hX0 : Rd w g0 a0 .u8 X0) (bX0 : Byt X0) (hL : HasR3 w) :
    Calls Tryd.prog 4 #[.slice a0 X0.length c0] w fun e w' => e = .returned (.bool true) ∧ Below w.heap.size w w' := by
  by_cases q0 : X0.length ≤ 1048576
  · have u0 : decide ((1048576 : Int) < (X0.length : Int)) = false := by simp; omega
    obtain ⟨s0, s1, s2, hs0, hs1, hs2, d01, d02, d12⟩ := hL
    have SP := fun W g off c h (k : X0.length ≤ c) => specCut_any W g off c X0 h bX0 k q0
    have IM := fun W (m : Below w.heap.size w W) g a c h (p : a = none → c = 0) (k : X0.length ≤ c) => implCut_any W g a c X0 h bX0 p k q0 s0 s1 s2 (hs0.up m) (hs1.up m) (hs2.up m) d01 d02 d12
    obtain ⟨hl, hy, hq⟩ := cut_bd X0 bX0 q0
    have Z0 := (psI_bd (n := 1) (by decide) hy _ (Nat.le_refl _)).1
    have NA : ∀ {B : Nat} {w : World} {e : Ending}, NewC B w e X0 → _ := fun h => h.at
    obtain ⟨its, hi⟩ : ∃ its, its = cutR X0 := ⟨_, rfl⟩
    obtain ⟨Y, hY⟩ : ∃ Y, Y = cutL X0 := ⟨_, rfl⟩
    obtain ⟨tb, htb⟩ : ∃ b, b = cutC X0 := ⟨_, rfl⟩
    simp only [← hi, ← hY, ← htb] at NA hl hy hq Z0
    clear hi hY htb hs0 hs1 hs2 d01 d02 d12
    have HL := hide hl
    have HY := hide hy
    have HQ := hide hq
    have v2 : decide (psI its 1 its.length + (Y.length : Int) < 0) = false := by simp; omega
    clear hl hy Z0 hq
    go_enter Tryd.func4, Tryd.ntmps4
    have N : Below w.heap.size w w := Below.refl _ _
    go_wp2_with fail
    refine (toByteS_any w g0 a0 c0 X0 (hX0.up N) q0).mono ?_
    rintro e w1 ⟨rfl, A0, m1⟩
    have lA0 := A0.lt
    have zm1 := m1.size
    replace N := nxt N m1
    clear m1
    go_wp2_with fail
    refine (SP w1 _ _ _ A0.own0.rd (Nat.le_refl _)).mono ?_
    rintro e w2 ⟨NR, m2⟩
    obtain ⟨aS, cS, bS, xS, yS, gS, rfl, RS, OS, GS⟩ := NA NR
    clear NR
    have hS : 0 < Y.length → w1.heap.size ≤ gS ∧ gS < w2.heap.size := fun h => ⟨(GS h).1, (GS h).2.1⟩
    replace GS := hide GS
    have zm2 := m2.size
    replace A0 := A0.up m2
    replace N := nxt N m2
    clear m2
    clear A0
    have TS := RwC.new w2 [.int .i64 tb, .slice aS its.length cS, .slice xS Y.length yS] 36
    have m3 : Below w2.heap.size w2 (w2.alloc (.cells #[.int .i64 tb, .slice aS its.length cS, .slice xS Y.length yS] 36)) := (Below.refl _ _).alloc (Nat.le_refl _) _
    have lS : w2.heap.size < (w2.alloc (.cells #[.int .i64 tb, .slice aS its.length cS, .slice xS Y.length yS] 36)).heap.size := RwC.lt TS
    have zm3 := m3.size
    replace RS := RS.up m3 (by omega)
    replace OS := OS.up m3
    replace N := nxt N m3
    go_wp2_with fail
    generalize w2.alloc (.cells #[.int .i64 tb, .slice aS its.length cS, .slice xS Y.length yS] 36) = w3 at *
    clear m3
    refine (toByteS_any w3 g0 a0 c0 X0 (hX0.up N) q0).mono ?_
    rintro e w4 ⟨rfl, B0, m4⟩
    have lB0 := B0.lt
    have zm4 := m4.size
    replace RS := RS.up m4 (by omega)
    replace OS := OS.up m4
    replace TS := TS.up m4
    replace N := nxt N m4
    clear m4
    go_wp2_with fail
    refine (IM w4 N _ _ _ B0.own0.rd (by simp) (Nat.le_refl _)).mono ?_
    rintro e w5 ⟨NR, m5⟩
    obtain ⟨aI, cI, bI, xI, yI, gI, rfl, RI, OI, GI⟩ := NA NR
    clear NR
    have hI : 0 < Y.length → w4.heap.size ≤ gI ∧ gI < w5.heap.size := fun h => ⟨(GI h).1, (GI h).2.1⟩
    replace GI := hide GI
    have zm5 := m5.size
    replace RS := RS.up m5 (by omega)
    replace OS := OS.up m5
    replace TS := TS.up m5
    replace B0 := B0.up m5
    replace N := nxt N m5
    clear m5
    have TI := RwC.new w5 [.int .i64 tb, .slice aI its.length cI, .slice xI Y.length yI] 36
    have m6 : Below w5.heap.size w5 (w5.alloc (.cells #[.int .i64 tb, .slice aI its.length cI, .slice xI Y.length yI] 36)) := (Below.refl _ _).alloc (Nat.le_refl _) _
    have lI : w5.heap.size < (w5.alloc (.cells #[.int .i64 tb, .slice aI its.length cI, .slice xI Y.length yI] 36)).heap.size := RwC.lt TI
    have zm6 := m6.size
    replace RS := RS.up m6 (by omega)
    replace OS := OS.up m6
    replace TS := TS.up m6
    replace B0 := B0.up m6
    replace RI := RI.up m6 (by omega)
    replace OI := OI.up m6
    replace N := nxt N m6
    have TSc0 := TS.c0
    have TSc1 := TS.c1
    have TSc2 := TS.c2
    have TIc0 := TI.c0
    have TIc1 := TI.c1
    have TIc2 := TI.c2
    go_wp2_with fail
    generalize w5.alloc (.cells #[.int .i64 tb, .slice aI its.length cI, .slice xI Y.length yI] 36) = w6 at *
    clear m6
    clear TSc0 TSc1 TSc2 TIc0 TIc1 TIc2
    refine (eqRecordList_same w6 tb _ _ _ _ its _ _ RI.r RS.r HL.out HY.out _ _ _ _ yI yS Y OI.rd OS.rd HQ.out).mono ?_
    rintro e w7 ⟨rfl, m7⟩
    have zm7 := m7.size
    replace RS := RS.up m7 (by omega)
    replace OS := OS.up m7
    replace TS := TS.up m7
    replace B0 := B0.up m7
    replace RI := RI.up m7 (by omega)
    replace OI := OI.up m7
    replace TI := TI.up m7
    replace N := nxt N m7
    clear m7
    go_wp2_with fail
    refine (toByteS_any w7 g0 a0 c0 X0 (hX0.up N) q0).mono ?_
    rintro e w8 ⟨rfl, E0, m8⟩
    have lE0 := E0.lt
    have zm8 := m8.size
    replace RS := RS.up m8 (by omega)
    replace OS := OS.up m8
    replace TS := TS.up m8
    replace B0 := B0.up m8
    replace RI := RI.up m8 (by omega)
    replace OI := OI.up m8
    replace TI := TI.up m8
    replace N := nxt N m8
    clear m8
    go_wp2_with fail
    refine (eqByteS_same w8 _ _ _ _ _ _ X0 B0.own0.rd E0.own0.rd q0).mono ?_
    rintro e w9 ⟨rfl, m9⟩
    have zm9 := m9.size
    replace RS := RS.up m9 (by omega)
    replace OS := OS.up m9
    replace TS := TS.up m9
    replace B0 := B0.up m9
    replace RI := RI.up m9 (by omega)
    replace OI := OI.up m9
    replace TI := TI.up m9
    replace E0 := E0.up m9
    replace N := nxt N m9
    clear m9 E0
    go_wp2_with fail
    refine (markByteS_any w9 _ _ _ X0 (1) B0.own0 q0 (by omega) (by omega)).mono ?_
    rintro e w10 ⟨rfl, -, O0⟩
    replace RS := RS.keep (fun k _ hk => O0.block k (by omega))
    replace RI := RI.keep (fun k hk _ => O0.block k (by omega))
    replace OS := OS.only O0 (fun h => by have := hS h; omega)
    replace OI := OI.only O0 (fun h => by have := hI h; omega)
    replace TS := TS.onl O0 (by omega)
    replace TI := TI.onl O0 (by omega)
    replace N := N.trans (O0.below (B := w.heap.size) (by omega))
    have z10 : w9.heap.size ≤ w10.heap.size := Nat.le_of_eq O0.size.symm
    clear O0 B0
    have v1 : decide (1 + (X0.length : Int) < 0) = false := by simp; omega
    have TSc0 := TS.c0
    have TSc1 := TS.c1
    have TSc2 := TS.c2
    have TIc0 := TI.c0
    have TIc1 := TI.c1
    have TIc2 := TI.c2
    go_wp2_with fail
    clear TSc0 TSc1 TSc2 TIc0 TIc1 TIc2
    refine (eqRecordList_same w10 tb _ _ _ _ its _ _ RI.r RS.r HL.out HY.out _ _ _ _ yI yS Y OI.rd OS.rd HQ.out).mono ?_
    rintro e w11 ⟨rfl, m11⟩
    have zm11 := m11.size
    replace RS := RS.up m11 (by omega)
    replace OS := OS.up m11
    replace TS := TS.up m11
    replace RI := RI.up m11 (by omega)
    replace OI := OI.up m11
    replace TI := TI.up m11
    replace N := nxt N m11
    clear m11
    have TSc0 := TS.c0
    have TSc1 := TS.c1
    have TSc2 := TS.c2
    have TIc0 := TI.c0
    have TIc1 := TI.c1
    have TIc2 := TI.c2
    go_wp2_with fail
    clear TSc0 TSc1 TSc2 TIc0 TIc1 TIc2
    refine (markRecordList_any w11 tb _ _ _ _ its bI RI xI yI gI Y OI GI.out (by omega) HL.out HY.out HQ.out).mono ?_
    rintro e w12 ⟨rfl, MK, OK, wA, nA, OA⟩
    have zA := nA.size
    have yA := OA.size
    have HSH : Hid (0 < its.length → ∃ g, aI = some ⟨g, 0, none⟩) := by obtain ⟨x, y, eS, SH⟩ := RI.r.shape; injection eS with e1 e2 e3; rw [e1]; exact SH
    replace RS := (RS.up nA (by omega)).keep (fun k _ hk => OA.block k (Or.inl (by omega)))
    replace OS := own_any (OS.up nA) (fun h => OA.block _ (Or.inl (by have := hS h; omega)))
    replace TS : RwC w12 _ _ _ := (OA.block _ (Or.inl (by omega))).trans (TS.up nA)
    replace TI : RwC w12 _ _ _ := (OA.block _ (Or.inr (by omega))).trans (TI.up nA)
    replace N := (nxt N nA).trans (OA.below (by omega))
    have z12 : w11.heap.size ≤ w12.heap.size := by omega
    clear OA nA RI zA yA OI GI hI
    have TSc0 := TS.c0
    have TSc1 := TS.c1
    have TSc2 := TS.c2
    have TIc0 := TI.c0
    have TIc1 := TI.c1
    have TIc2 := TI.c2
    go_wp2_with fail
    clear TSc0 TSc1 TSc2 TIc0 TIc1 TIc2
    refine (heldRecordList_any w12 tb _ _ its bI _ _ gI Y.length HSH.out MK OK HL.out HY.out HQ.out).mono ?_
    rintro e w13 ⟨rfl, m13⟩
    have zm13 := m13.size
    replace RS := RS.up m13 (by omega)
    replace OS := OS.up m13
    replace TS := TS.up m13
    replace TI := TI.up m13
    replace MK := MK.up m13
    replace OK := OK.up m13
    replace N := nxt N m13
    clear m13
    go_wp2_with fail
    refine (toByteS_any w13 g0 a0 c0 X0 (hX0.up N) q0).mono ?_
    rintro e w14 ⟨rfl, D0, m14⟩
    have lD0 := D0.lt
    have zm14 := m14.size
    replace RS := RS.up m14 (by omega)
    replace OS := OS.up m14
    replace TS := TS.up m14
    replace TI := TI.up m14
    replace MK := MK.up m14
    replace OK := OK.up m14
    replace N := nxt N m14
    clear m14
    go_wp2_with fail
    refine (IM w14 N _ _ _ D0.own0.rd (by simp) (Nat.le_refl _)).mono ?_
    rintro e w15 ⟨NR, m15⟩
    obtain ⟨aJ, cJ, bJ, xJ, yJ, gJ, rfl, RJ, OJ, GJ⟩ := NA NR
    clear NR
    have hJ : 0 < Y.length → w14.heap.size ≤ gJ ∧ gJ < w15.heap.size := fun h => ⟨(GJ h).1, (GJ h).2.1⟩
    replace GJ := hide GJ
    have zm15 := m15.size
    replace RS := RS.up m15 (by omega)
    replace OS := OS.up m15
    replace TS := TS.up m15
    replace TI := TI.up m15
    replace MK := MK.up m15
    replace OK := OK.up m15
    replace D0 := D0.up m15
    replace N := nxt N m15
    clear m15
    have TJ := RwC.new w15 [.int .i64 tb, .slice aJ its.length cJ, .slice xJ Y.length yJ] 36
    have m16 : Below w15.heap.size w15 (w15.alloc (.cells #[.int .i64 tb, .slice aJ its.length cJ, .slice xJ Y.length yJ] 36)) := (Below.refl _ _).alloc (Nat.le_refl _) _
    have lJ : w15.heap.size < (w15.alloc (.cells #[.int .i64 tb, .slice aJ its.length cJ, .slice xJ Y.length yJ] 36)).heap.size := RwC.lt TJ
    have zm16 := m16.size
    replace RS := RS.up m16 (by omega)
    replace OS := OS.up m16
    replace TS := TS.up m16
    replace TI := TI.up m16
    replace MK := MK.up m16
    replace OK := OK.up m16
    replace D0 := D0.up m16
    replace RJ := RJ.up m16 (by omega)
    replace OJ := OJ.up m16
    replace N := nxt N m16
    have TSc0 := TS.c0
    have TSc1 := TS.c1
    have TSc2 := TS.c2
    have TIc0 := TI.c0
    have TIc1 := TI.c1
    have TIc2 := TI.c2
    have TJc0 := TJ.c0
    have TJc1 := TJ.c1
    have TJc2 := TJ.c2
    go_wp2_with fail
    generalize w15.alloc (.cells #[.int .i64 tb, .slice aJ its.length cJ, .slice xJ Y.length yJ] 36) = w16 at *
    clear m16
    clear TSc0 TSc1 TSc2 TIc0 TIc1 TIc2 TJc0 TJc1 TJc2
    refine (eqRecordList_same w16 tb _ _ _ _ its _ _ RJ.r RS.r HL.out HY.out _ _ _ _ yJ yS Y OJ.rd OS.rd HQ.out).mono ?_
    rintro e w17 ⟨rfl, m17⟩
    have zm17 := m17.size
    replace RS := RS.up m17 (by omega)
    replace OS := OS.up m17
    replace TS := TS.up m17
    replace TI := TI.up m17
    replace MK := MK.up m17
    replace OK := OK.up m17
    replace D0 := D0.up m17
    replace RJ := RJ.up m17 (by omega)
    replace OJ := OJ.up m17
    replace TJ := TJ.up m17
    replace N := nxt N m17
    clear m17
    have TSc0 := TS.c0
    have TSc1 := TS.c1
    have TSc2 := TS.c2
    have TIc0 := TI.c0
    have TIc1 := TI.c1
    have TIc2 := TI.c2
    have TJc0 := TJ.c0
    have TJc1 := TJ.c1
    have TJc2 := TJ.c2
    go_wp2_with fail
    clear TSc0 TSc1 TSc2 TIc0 TIc1 TIc2 TJc0 TJc1 TJc2
    refine (heldRecordList_any w17 tb _ _ its bI _ _ gI Y.length HSH.out MK OK HL.out HY.out HQ.out).mono ?_
    rintro e w18 ⟨rfl, m18⟩
    have zm18 := m18.size
    replace RS := RS.up m18 (by omega)
    replace OS := OS.up m18
    replace TS := TS.up m18
    replace TI := TI.up m18
    replace MK := MK.up m18
    replace OK := OK.up m18
    replace D0 := D0.up m18
    replace RJ := RJ.up m18 (by omega)
    replace OJ := OJ.up m18
    replace TJ := TJ.up m18
    replace N := nxt N m18
    clear m18
    go_wp2
    go_ret
    exact ⟨rfl, N⟩
  · have u0 : decide ((1048576 : Int) < (X0.length : Int)) = true := by simp; omega
    go_enter Tryd.func4, Tryd.ntmps4
    go_wp2
    go_ret
    exact ⟨rfl, Below.refl _ _⟩
end Go.Proofs.YtcempddbcfigbaaDoor
