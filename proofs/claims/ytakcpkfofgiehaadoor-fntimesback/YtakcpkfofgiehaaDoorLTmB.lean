
/-
  The law FnTimesBack.
-/
import Derived.Test.YtakcpkfofgiehaaDoorDrY
import Derived.Test.YtakcpkfofgiehaaDoorTbN
import Derived.Test.YtakcpkfofgiehaaDoorCuG
import Derived.Test.YtakcpkfofgiehaaDoorLaidM
import Derived.Test.YtakcpkfofgiehaaDoorRgQ
import Derived.Deep.DeepCutAuto
namespace Go.Proofs.YtakcpkfofgiehaaDoor
set_option maxRecDepth 100000
open Go Go.RowKit

theorem ft0 (b : Bool) (x : Int) (w : World) : (Instr.field 28 (.agg #[.bool b, .int .i64 x]) 0).run Tryd.prog w = .ok (.bool b) w := by kernel_rfl
theorem ft1 (b : Bool) (x : Int) (w : World) : (Instr.field 28 (.agg #[.bool b, .int .i64 x]) 1).run Tryd.prog w = .ok (.int .i64 x) w := by kernel_rfl
theorem tmB_gt {b : List Int} (h : tmB b = true) : GT b := @of_decide_eq_true _ (gtD b) h
theorem tm_enc {b : List Int} (h : tmB b = true) : EtIs (tmV b) b := by
  have e : tmV b = TV b := by unfold tmV; rw [if_pos h]
  rw [e]
  exact gt_enc (tmB_gt h)
theorem et_tm {t : Int} {L : List Int} (hL : EtIs t L) (ht : 0 ≤ t ∧ t ≤ 253402300799) : tmB L = true ∧ tmV L = t := by
  obtain ⟨_, g, v⟩ := et_back hL ht
  have e : tmV L = TV L := by unfold tmV; rw [if_pos (tmB_yes g)]
  exact ⟨tmB_yes g, e.trans v⟩
theorem HasQ.upQ {w w' : World} (h : HasQ w) (n : Below w.heap.size w w') : HasQ w' := ⟨h.1.up n, h.2.up n⟩

set_option maxRecDepth 20000 in
set_option maxHeartbeats 2000000 in
theorem timesBack_law (w : World) (g0 : Nat) (a0 : Option Addr) (c0 : Nat) (X0 : List Int) (hX0 : Rd w g0 a0 .u8 X0) (bX0 : Byt X0) (g1 : Nat) (a1 : Option Addr) (c1 : Nat) (X1 : List Int) (hX1 : Rd w g1 a1 .u8 X1) (bX1 : Byt X1) (hL : HasQ w) :
    Calls Tryd.prog 5 #[.slice a0 X0.length c0, .slice a1 X1.length c1] w fun e w' => e = .returned (.bool true) ∧ Below w.heap.size w w' := by
  by_cases q0 : X0.length ≤ 1048576
  · have u0 : decide ((1048576 : Int) < (X0.length : Int)) = false := by simp; omega
    by_cases q1 : X1.length ≤ 1048576
    · have u1 : decide ((1048576 : Int) < (X1.length : Int)) = false := by simp; omega
      go_enter Tryd.func5, Tryd.ntmps5
      go_wp2_with fail
      refine (drawEncTime_any w g0 a0 c0 X0 hX0 bX0 q0).mono ?_
      rintro e w1 ⟨t, rfl, ht, N1⟩
      go_wp2_with fail
      refine (drawEncTime_any w1 g1 a1 c1 X1 (hX1.up N1) bX1 q1).mono ?_
      rintro e w2 ⟨u, rfl, hu, n2⟩
      have N2 := nxt N1 n2
      clear N1 n2
      go_upto_region 5 with fail
      go_cut [36] (fun v wc => v = .bool (decide (¬ ((0 ≤ t ∧ t ≤ 253402300799) ∧ 0 ≤ u ∧ u ≤ 253402300799))) ∧ wc = w2)
      case first =>
        by_cases k1 : t < 0
        · have d1 : decide (t < 0) = true := decide_eq_true k1
          go_wp2
          go_meet
          exact ⟨congrArg Value.bool (decide_eq_true (by omega)).symm, rfl⟩
        have d1 : decide (t < 0) = false := decide_eq_false k1
        by_cases k2 : 253402300799 < t
        · have d2 : decide (253402300799 < t) = true := decide_eq_true k2
          go_wp2
          go_meet
          exact ⟨congrArg Value.bool (decide_eq_true (by omega)).symm, rfl⟩
        have d2 : decide (253402300799 < t) = false := decide_eq_false k2
        by_cases k3 : u < 0
        · have d3 : decide (u < 0) = true := decide_eq_true k3
          go_wp2
          go_meet
          exact ⟨congrArg Value.bool (decide_eq_true (by omega)).symm, rfl⟩
        have d3 : decide (u < 0) = false := decide_eq_false k3
        by_cases k4 : 253402300799 < u
        · have d4 : decide (253402300799 < u) = true := decide_eq_true k4
          go_wp2
          go_meet
          exact ⟨congrArg Value.bool (decide_eq_true (by omega)).symm, rfl⟩
        have d4 : decide (253402300799 < u) = false := decide_eq_false k4
        go_wp2
        go_meet
        exact ⟨congrArg Value.bool (decide_eq_false (by omega)).symm, rfl⟩
      case rest =>
        obtain ⟨rfl, h⟩ := hcut
        subst h
        go_upto_if 36 with fail
        go_cut [5, 6] (fun v y wx => (∃ t u : Int, v = .int .i64 t ∧ y = .int .i64 u ∧ (0 ≤ t ∧ t ≤ 253402300799) ∧ 0 ≤ u ∧ u ≤ 253402300799) ∧ wx = wc)
        case first =>
          by_cases kk : (0 ≤ t ∧ t ≤ 253402300799) ∧ 0 ≤ u ∧ u ≤ 253402300799
          · rw [decide_eq_false (not_not_intro kk)]
            go_wp2
            go_meet
            exact ⟨⟨t, u, rfl, rfl, kk⟩, rfl⟩
          · rw [decide_eq_true kk]
            go_wp2
            go_meet
            exact ⟨⟨_, _, rfl, rfl, by omega⟩, rfl⟩
        case rest =>
          clear ht hu t u
          obtain ⟨⟨t, u, rfl, rfl, ht, hu⟩, h⟩ := hcut
          subst h
          obtain ⟨L, EL⟩ := etIs_some t
          obtain ⟨M, EM⟩ := etIs_some u
          have IL := fun W (m : Below w.heap.size w W) => hide (implEncodeTime_any W t L EL (hL.1.up m) (hL.2.up m))
          have IM := fun W (m : Below w.heap.size w W) => hide (implEncodeTime_any W u M EM (hL.1.up m) (hL.2.up m))
          have LB := EL.byt
          have MB := EM.byt
          have LL := EL.len15 ht
          have ML := EM.len15 hu
          have DL := fun W g a c h (m : Below w.heap.size w W) => hide (implDecodeTime_any W g a c L h LB (by omega) (hL.1.up m))
          have DM := fun W g a c h (m : Below w.heap.size w W) => hide (implDecodeTime_any W g a c M h MB (by omega) (hL.1.up m))
          obtain ⟨x1, x2⟩ := et_tm EL ht
          obtain ⟨x3, x4⟩ := et_tm EM hu
          rw [x1, x2] at DL
          rw [x3, x4] at DM
          have ORD : Hid (Op.bytesLess (str L).toList (str M).toList = decide (t < u)) := by show _ = _; rw [bl_str L M LB MB]; exact et_order EL EM ht hu
          have SAM : Hid (decide (L = M) = decide (t = u)) := et_same EL EM ht hu
          clear x1 x2 x3 x4 EL EM
          have HLL := hide LL
          have HML := hide ML
          clear LL ML
          have h1f := ft1 true t
          have h2f := ft1 true u
          have h3f := ft0 true u
          go_wp2_with fail
          refine (IL _ N2).out.mono ?_
          rintro e w3 ⟨⟨a3, c3, g3, rfl, o3, p3, q3, r3⟩, n3⟩
          have N3 := nxt N2 n3
          go_wp2_with fail
          refine (IM w3 N3).out.mono ?_
          rintro e w4 ⟨⟨a4, c4, g4, rfl, o4, p4, q4, r4⟩, n4⟩
          have N4 := nxt N3 n4
          have o3 := o3.up n4
          have e15 : ((L.length : Int) == 15) = true := by rw [HLL.out]; rfl
          have e15b : ((L.length : Int) != 15) = false := by rw [HLL.out]; rfl
          have e15' : decide ((L.length : Int) = 15) = true := by rw [HLL.out]; rfl
          clear IL IM n3 n4 N2 N3
          go_wp2_with fail
          refine (lwCopy_any w4 g3 a3 c3 L o3.rd p3 (by rw [HLL.out]; omega)).mono ?_
          rintro e w5 ⟨⟨a5, c5, g5, rfl, o5, p5, q5, r5⟩, n5⟩
          have N5 := nxt N4 n5
          have o3 := o3.up n5
          have o4 := o4.up n5
          go_wp2_with fail
          refine (DL w5 g5 a5 c5 o5.rd N5).out.mono ?_
          rintro e w6 ⟨rfl, n6⟩
          have N6 := nxt N5 n6
          have o3 := o3.up n6
          have o4 := o4.up n6
          clear n5 n6 N4 N5 o5 p5 q5 r5
          go_wp2_with fail
          refine (lwCopy_any w6 g4 a4 c4 M o4.rd p4 (by rw [HML.out]; omega)).mono ?_
          rintro e w7 ⟨⟨a7, c7, g7, rfl, o7, p7, q7, r7⟩, n7⟩
          have N7 := nxt N6 n7
          have o3 := o3.up n7
          have o4 := o4.up n7
          go_wp2_with fail
          refine (DM w7 g7 a7 c7 o7.rd N7).out.mono ?_
          rintro e w8 ⟨rfl, n8⟩
          have N8 := nxt N7 n8
          have o3 := o3.up n8
          have o4 := o4.up n8
          clear n7 n8 N6 N7 o7 p7 q7 r7
          go_wp2_with fail
          refine (lwCopy_any w8 g4 a4 c4 M o4.rd p4 (by rw [HML.out]; omega)).mono ?_
          rintro e w9 ⟨⟨a9, c9, g9, rfl, o9, p9, q9, r9⟩, n9⟩
          have N9 := nxt N8 n9
          have o3 := o3.up n9
          have o4 := o4.up n9
          go_wp2_with fail
          refine (DM w9 g9 a9 c9 o9.rd N9).out.mono ?_
          rintro e W ⟨rfl, nA⟩
          have NW := nxt N9 nA
          have o3 := o3.up nA
          have o4 := o4.up nA
          clear n9 nA N8 N9 o9 p9 q9 r9 DL DM
          have V1 := conv_run W g3 a3 c3 L o3.rd
          have V2 := conv_run W g4 a4 c4 M o4.rd
          have SS : Hid (t = u → Calls Tryd.prog 17 #[.slice a3 L.length c3, .slice a4 M.length c4] W fun e w' => e = .returned (.bool true) ∧ w' = W) := fun h => by
            have e : L = M := of_decide_eq_true (by rw [SAM.out]; exact decide_eq_true h)
            subst e
            exact lwSame_same W g3 g4 a3 a4 c3 c4 L o3.rd o4.rd
          have SD : Hid (t ≠ u → Calls Tryd.prog 17 #[.slice a3 L.length c3, .slice a4 M.length c4] W fun e w' => e = .returned (.bool false) ∧ w' = W) := fun h => by
            have e : L ≠ M := of_decide_eq_false (by rw [SAM.out]; exact decide_eq_false h)
            exact lwSame_diff W g3 g4 a3 a4 c3 c4 L M o3.rd o4.rd LB MB e
          clear o3 o4 SAM
          generalize str L = s1 at *
          generalize str M = s2 at *
          go_upto_region 12 with fail
          clear h1f h2f h3f e15 e15' e15b
          go_cut [84] (fun v wz => v = .bool false ∧ wz = W)
          case first =>
            by_cases k1 : t < u
            · have d1 : decide (t < u) = true := decide_eq_true k1
              have d2 : decide (t = u) = false := decide_eq_false (by omega)
              have d3 : (t == u) = false := beq_eq_false_iff_ne.2 (by omega)
              have o1 : Op.bytesLess s1.toList s2.toList = true := by rw [ORD.out]; exact d1
              have s3 := hide (SD.out (by omega))
              clear SS SD ORD
              go_wp2_with fail
              refine s3.out.mono ?_
              rintro e w' ⟨rfl, rfl⟩
              go_wp2
              go_meet
              exact ⟨rfl, rfl⟩
            · by_cases k2 : t = u
              · have d1 : decide (t < u) = false := decide_eq_false k1
                have d2 : decide (t = u) = true := decide_eq_true k2
                have d3 : (t == u) = true := beq_iff_eq.2 k2
                have o1 : Op.bytesLess s1.toList s2.toList = false := by rw [ORD.out]; exact d1
                have s3 := hide (SS.out k2)
                clear SS SD ORD
                subst k2
                go_wp2_with fail
                refine s3.out.mono ?_
                rintro e w' ⟨rfl, rfl⟩
                go_wp2
                go_meet
                exact ⟨rfl, rfl⟩
              · have d1 : decide (t < u) = false := decide_eq_false k1
                have d2 : decide (t = u) = false := decide_eq_false k2
                have d3 : (t == u) = false := beq_eq_false_iff_ne.2 k2
                have o1 : Op.bytesLess s1.toList s2.toList = false := by rw [ORD.out]; exact d1
                have s3 := hide (SD.out k2)
                clear SS SD ORD
                go_wp2_with fail
                refine s3.out.mono ?_
                rintro e w' ⟨rfl, rfl⟩
                go_wp2
                go_meet
                exact ⟨rfl, rfl⟩
          case rest =>
            obtain ⟨rfl, h⟩ := hcut
            subst h
            clear SS SD ORD V1 V2 HLL HML LB MB
            go_wp2_with fail
            refine (drawDecTime_any _ g1 a1 c1 X1 (hX1.up NW) bX1 q1).mono ?_
            rintro e y1 ⟨zs, zb, zl, ⟨a8, c8, g8, rfl, o8, p8, q8, r8⟩, m1⟩
            have M1 := nxt NW m1
            have DZ := fun W g a c h (m : Below w.heap.size w W) => hide (implDecodeTime_any W g a c zs h zb (by omega) (hL.1.up m))
            have SZ := fun W g a c h k => hide (specDecodeTime_any W g a c zs h zb k)
            have TE : Hid (tmB zs = true → EtIs (tmV zs) zs) := fun h => tm_enc h
            generalize tmB zs = tb at *
            generalize tmV zs = tv at *
            go_wp2_with fail
            refine (lwCopy_any y1 g8 a8 c8 zs o8.rd p8 (by omega)).mono ?_
            rintro e y2 ⟨⟨a9, c9, g9, rfl, o9, p9, q9, r9⟩, m2⟩
            have M2 := nxt M1 m2
            have o8 := o8.up m2
            go_wp2_with fail
            refine (DZ y2 g9 a9 c9 o9.rd M2).out.mono ?_
            rintro e y3 ⟨rfl, m3⟩
            have M3 := nxt M2 m3
            have o8 := o8.up m3
            have TI := Tl.new y3 (.bool tb) (.int .i64 tv) 28
            have m4 : Below y3.heap.size y3 (y3.alloc (.cells #[.bool tb, .int .i64 tv] 28)) := (Below.refl _ _).alloc (Nat.le_refl _) _
            have M4 := nxt M3 m4
            have o8 := o8.up m4
            clear DZ o9 m1 m2 m3 M1 M2 M3 NW
            go_upto_region 16 with fail
            generalize y3.alloc (.cells #[.bool tb, .int .i64 tv] 28) = y4 at *
            clear m4
            refine region_end 6 (fun i => [Fact.eq (.pointer (some ⟨y3.heap.size, 0, none⟩)), Fact.eq (.bool tb), Fact.eq (.slice a8 zs.length c8), Fact.eq (.agg #[.bool tb, .int .i64 tv]), Fact.eq (.bool tb), Fact.eq (.bool false)].getD i Fact.no) (by kernel_rfl) (by kernel_rfl) rfl ?_ ?_
            · intro i hi
              obtain rfl | rfl | rfl | rfl | rfl | rfl : i = 0 ∨ i = 1 ∨ i = 2 ∨ i = 3 ∨ i = 4 ∨ i = 5 := by omega
              · refine step_pure rfl fun A ww hb hw hf => ?_
                have e9 : A.tmps[10]?.getD undef = .pointer (some ⟨y3.heap.size, 0, none⟩) := gdv (hb.2.2 10 (by kernel_rfl))
                exact ⟨.pointer (some ⟨y3.heap.size, 0, none⟩), by simp [go_sem, e9], rfl⟩
              · refine step_pure rfl fun A ww hb hw hf => ?_
                have e62 : A.tmps[90]?.getD undef = .pointer (some ⟨y3.heap.size, 0, none⟩) := gdv (hf 0 90 (by kernel_rfl))
                have hc := (TI.up hw).c0
                exact ⟨.bool tb, by simp [go_sem, e62, hc], rfl⟩
              · refine step_pure rfl fun A ww hb hw hf => ?_
                have e8 : A.tmps[9]?.getD undef = .slice a8 zs.length c8 := gdv (hb.2.2 9 (by kernel_rfl))
                exact ⟨.slice a8 zs.length c8, by simp [go_sem, e8], rfl⟩
              · refine step_callv rfl 11 _ _ rfl (by kernel_rfl) fun A ww hb hw hf => ?_
                have e64 : A.tmps.getD 92 undef = .slice a8 zs.length c8 := hf 2 92 (by kernel_rfl)
                show Calls Tryd.prog 11 #[A.tmps.getD 92 undef] ww _
                rw [e64]
                exact (SZ ww g8 a8 c8 (o8.rd.up hw) q8).out.mono (by rintro r w' ⟨rfl, n'⟩; exact ⟨_, rfl, n', rfl⟩)
              · refine step_pure rfl fun A ww hb hw hf => ?_
                have e65 : A.tmps[93]?.getD undef = .agg #[.bool tb, .int .i64 tv] := gdv (hf 3 93 (by kernel_rfl))
                have h1 := ft0 tb tv ww
                exact ⟨.bool tb, by simp [go_sem, e65, h1], rfl⟩
              · refine step_pure rfl fun A ww hb hw hf => ?_
                have e63 : A.tmps[91]?.getD undef = .bool tb := gdv (hf 1 91 (by kernel_rfl))
                have e66 : A.tmps[94]?.getD undef = .bool tb := gdv (hf 4 94 (by kernel_rfl))
                exact ⟨.bool false, by cases tb <;> simp [go_sem, e63, e66], rfl⟩
            intro A y5 hb' hw hF
            have e2 := hF 5 95 (by kernel_rfl)
            obtain ⟨vs, hvs⟩ : ∃ vs : Nat → Value, ∀ d, A.tmps.getD d undef = vs d := ⟨_, fun _ => rfl⟩
            rw [hvs] at e2
            rw [puts_of (md := .any) (k := 6) (by kernel_rfl) rfl hb' vs hvs]
            clear hb' hF hvs
            have e3 : vs 95 = .bool false := e2
            clear e2
            simp only [puts, e3, Act.put, List.setIfInBounds_toArray, List.set_cons_succ, List.set_cons_zero]
            clear e3
            have M5 := nxt M4 hw
            have TI := TI.up hw
            have o8 := o8.up hw
            have j0 := TI.c0
            have j1 := TI.c1
            clear SZ
            cases tb with
            | false =>
              go_wp2
              go_ret
              exact ⟨rfl, M5⟩
            | true =>
              have IE := fun W (m : Below w.heap.size w W) => hide (implEncodeTime_any W tv zs (TE.out rfl) (hL.1.up m) (hL.2.up m))
              go_wp2_with fail
              refine (IE y5 M5).out.mono ?_
              rintro e y6 ⟨⟨a9, c9, g9, rfl, o9, p9, q9, r9⟩, m6⟩
              have M6 := nxt M5 m6
              go_wp2_with fail
              refine (lwSame_same y6 g9 g8 a9 a8 c9 c8 zs o9.rd (o8.up m6).rd).mono ?_
              rintro e y7 ⟨rfl, h7⟩
              have h7 := h7.symm
              subst h7
              go_wp2
              go_ret
              exact ⟨rfl, M6⟩
    · have u1 : decide ((1048576 : Int) < (X1.length : Int)) = true := by simp; omega
      go_enter Tryd.func5, Tryd.ntmps5
      go_wp2
      go_ret
      exact ⟨rfl, Below.refl _ _⟩
  · have u0 : decide ((1048576 : Int) < (X0.length : Int)) = true := by simp; omega
    go_enter Tryd.func5, Tryd.ntmps5
    go_wp2
    go_ret
    exact ⟨rfl, Below.refl _ _⟩
end Go.Proofs.YtakcpkfofgiehaaDoor
