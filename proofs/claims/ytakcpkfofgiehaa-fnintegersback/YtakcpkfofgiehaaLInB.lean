
/-
  The law FnIntegersBack.
-/
import Derived.Test.YtakcpkfofgiehaaDrC
import Derived.Test.YtakcpkfofgiehaaCuD
import Derived.Test.YtakcpkfofgiehaaIdS
import Derived.Test.YtakcpkfofgiehaaRgQ
import Derived.Deep.DeepCutAuto
namespace Go.Proofs.Ytakcpkfofgiehaa
open Go Go.RowKit

theorem diV_bd {b : List Int} (hb : Byt b) : -9223372036854775808 ≤ diV b ∧ diV b < 9223372036854775808 := by
  unfold diV
  split
  · rename_i h
    unfold diB at h
    simp only [Bool.and_eq_true, decide_eq_true_eq] at h
    have f := sv_fits hb h.1
    have f8 := fits_mono h.1 h.2.1 f
    unfold fits at f8
    simp only [decide_eq_true_eq] at f8
    exact ⟨by simpa using f8.1, by simpa using f8.2⟩
  · exact ⟨by decide, by decide⟩
/-- One byte less does not tell the number. -/
theorem tail_other (v : Int) (hs : 1 < isz v) : diV ((eiL v).drop 1) ≠ v := by
  have hz := isz_bd v
  have e : (eiL v).drop 1 = sgB (isz v - 1) v := by
    have := sgB_drop (isz v - 1) (isz v) v (by omega)
    rw [show isz v - (isz v - 1) = 1 by omega] at this
    exact this
  have hf : fits (isz v - 1) v = false := by
    rcases isz_min v with h | h
    · omega
    · exact h
  rw [e]
  unfold diV
  split
  · intro h
    have := sv_sgB_iff (n := isz v - 1) (v := v) (by omega)
    rw [decide_eq_true h, hf] at this
    cases this
  · intro h
    have f1 : fits (isz v - 1) v = true := by
      rw [← h]
      unfold fits
      have := pow8_pos (8 * (isz v - 1) - 1)
      simp only [decide_eq_true_eq]
      rw [h]
      omega
    rw [f1] at hf
    cases hf

theorem fd0 (b : Bool) (x : Int) (w : World) : (Instr.field 31 (.agg #[.bool b, .int .i64 x]) 0).run Try.prog w = .ok (.bool b) w := by kernel_rfl
theorem fd1 (b : Bool) (x : Int) (w : World) : (Instr.field 31 (.agg #[.bool b, .int .i64 x]) 1).run Try.prog w = .ok (.int .i64 x) w := by kernel_rfl

set_option maxRecDepth 20000 in
set_option maxHeartbeats 4000000 in
theorem intBack_law (w : World) (g0 : Nat) (a0 : Option Addr) (c0 : Nat) (X0 : List Int) (hX0 : Rd w g0 a0 .u8 X0) (bX0 : Byt X0) (g1 : Nat) (a1 : Option Addr) (c1 : Nat) (X1 : List Int) (hX1 : Rd w g1 a1 .u8 X1) (bX1 : Byt X1) :
    Calls Try.prog 7 #[.slice a0 X0.length c0, .slice a1 X1.length c1] w fun e w' => e = .returned (.bool true) ∧ Below w.heap.size w w' := by
  by_cases q0 : X0.length ≤ 1048576
  · have u0 : decide ((1048576 : Int) < (X0.length : Int)) = false := by simp; omega
    by_cases q1 : X1.length ≤ 1048576
    · have u1 : decide ((1048576 : Int) < (X1.length : Int)) = false := by simp; omega
      go_enter Try.func7, Try.ntmps7
      go_wp2_with fail
      refine (drawEncInt_any w g0 a0 c0 X0 hX0 bX0 q0).mono ?_
      rintro e w1 ⟨v, rfl, hv, N1⟩
      go_wp2_with fail
      refine (implEncodeInteger_any w1 v hv.1 hv.2).mono ?_
      rintro e w2 ⟨⟨a2, c2, g2, rfl, o2, p2, q2, r2⟩, n2⟩
      have N2 := nxt N1 n2
      have EB := eiL_byt v
      have EL := eiL_len v
      have hz := isz_bd v
      obtain ⟨D1, D2⟩ := di_ei v hv.1 hv.2
      have TO := fun h => hide (tail_other v h)
      have DI := fun W g a c h => hide (implDecodeInteger_any W g a c (eiL v) h EB)
      rw [D1, D2] at DI
      have TB : Byt ((eiL v).drop 1) := byt_drop EB 1
      rw [← EL] at TO hz
      generalize eiL v = ys at *
      clear D1 D2
      have HEL := hide EL
      clear EL
      go_wp2_with fail
      refine (lwCopy_any w2 g2 a2 c2 ys o2.rd p2 (by omega)).mono ?_
      rintro e w3 ⟨⟨a3, c3, g3, rfl, o3, p3, q3, r3⟩, n3⟩
      have N3 := nxt N2 n3
      have o2' := o2.up n3
      go_wp2_with fail
      refine (DI w3 g3 a3 c3 o3.rd).out.mono ?_
      rintro e w4 ⟨rfl, n4⟩
      have N4 := nxt N3 n4
      have o4 := o2'.up n4
      have n5 : Below w4.heap.size w4 (w4.alloc (.cells #[.bool true, .int .i64 v] 31)) := (Below.refl _ _).alloc (Nat.le_refl _) _
      have N5 := nxt N4 n5
      have o5 := o4.up n5
      clear o2 o2' o3 o4 n2 n3 n4 DI N1 N2 N3
      have t1 : decide ((ys.length : Int) < 1) = false := by simp; omega
      have t8 : decide ((8 : Int) < (ys.length : Int)) = false := by simp; omega
      by_cases hs : 1 < ys.length
      · have t2 : decide ((1 : Int) < (ys.length : Int)) = true := by simp; omega
        have NE := TO hs
        obtain ⟨off, rfl, RD1⟩ := o5.rd.dropA 1 hs
        have c21 : ¬ (c2 = 1) := by omega
        have l21 : (1 : Int) ≤ (ys.length : Int) := by omega
        have l22 : (1 : Int) ≤ (c2 : Int) := by omega
        have DT := hide (implDecodeInteger_any _ g2 (some ⟨g2, off + 1, none⟩) (c2 - 1) (ys.drop 1) RD1 TB)
        rw [List.length_drop] at DT
        generalize diV (ys.drop 1) = d1 at *
        generalize diB (ys.drop 1) = d0 at *
        have t3 : decide (d1 = v) = false := decide_eq_false NE.out
        have t4 : (d1 == v) = false := by have := NE.out; simpa using this
        have hfd := fd1 d0 d1
        clear TO NE TB o5
        go_wp2_with fail
        generalize w4.alloc (.cells #[.bool true, .int .i64 v] 31) = w5 at *
        refine DT.out.mono ?_
        rintro e W ⟨rfl, n6⟩
        have NW := nxt N5 n6
        clear DT RD1 n5 n6 N4
        go_wp2_with fail
        refine (drawDecInt_any W g1 a1 c1 X1 (hX1.up NW) bX1 q1).mono ?_
        rintro e y1 ⟨zs, zb, zl, ⟨a8, c8, g8, rfl, o8, p8, q8, r8⟩, m1⟩
        have M1 := nxt NW m1
        have DZ := fun W g a c h => hide (implDecodeInteger_any W g a c zs h zb)
        have SZ := fun W g a c h => hide (specDecodeInteger_any W g a c zs h zb)
        have VB := diV_bd zb
        have BK := fun h => hide (ei_di zb h)
        have IE := fun W => hide (implEncodeInteger_any W (diV zs) VB.1 VB.2)
        generalize diB zs = tb at *
        generalize diV zs = tv at *
        go_wp2_with fail
        refine (lwCopy_any y1 g8 a8 c8 zs o8.rd p8 (by omega)).mono ?_
        rintro e y2 ⟨⟨a9, c9, g9, rfl, o9, p9, q9, r9⟩, m2⟩
        have M2 := nxt M1 m2
        have o8 := o8.up m2
        go_wp2_with fail
        refine (DZ y2 g9 a9 c9 o9.rd).out.mono ?_
        rintro e y3 ⟨rfl, m3⟩
        have M3 := nxt M2 m3
        have o8 := o8.up m3
        have TI := Tl.new y3 (.bool tb) (.int .i64 tv) 31
        have m4 : Below y3.heap.size y3 (y3.alloc (.cells #[.bool tb, .int .i64 tv] 31)) := (Below.refl _ _).alloc (Nat.le_refl _) _
        have M4 := nxt M3 m4
        have o8 := o8.up m4
        clear DZ o9 m1 m2 m3 M1 M2 M3
        go_upto_region 10 with fail
        generalize y3.alloc (.cells #[.bool tb, .int .i64 tv] 31) = y4 at *
        clear m4
        refine region_end 6 (fun i => [Fact.eq (.pointer (some ⟨y3.heap.size, 0, none⟩)), Fact.eq (.bool tb), Fact.eq (.slice a8 zs.length c8), Fact.eq (.agg #[.bool tb, .int .i64 tv]), Fact.eq (.bool tb), Fact.eq (.bool false)].getD i Fact.no) (by kernel_rfl) (by kernel_rfl) rfl ?_ ?_
        · intro i hi
          obtain rfl | rfl | rfl | rfl | rfl | rfl : i = 0 ∨ i = 1 ∨ i = 2 ∨ i = 3 ∨ i = 4 ∨ i = 5 := by omega
          · refine step_pure rfl fun A ww hb hw hf => ?_
            have e9 : A.tmps[9]?.getD undef = .pointer (some ⟨y3.heap.size, 0, none⟩) := gdv (hb.2.2 9 (by kernel_rfl))
            exact ⟨.pointer (some ⟨y3.heap.size, 0, none⟩), by simp [go_sem, e9], rfl⟩
          · refine step_pure rfl fun A ww hb hw hf => ?_
            have e62 : A.tmps[62]?.getD undef = .pointer (some ⟨y3.heap.size, 0, none⟩) := gdv (hf 0 62 (by kernel_rfl))
            have hc := (TI.up hw).c0
            exact ⟨.bool tb, by simp [go_sem, e62, hc], rfl⟩
          · refine step_pure rfl fun A ww hb hw hf => ?_
            have e8 : A.tmps[8]?.getD undef = .slice a8 zs.length c8 := gdv (hb.2.2 8 (by kernel_rfl))
            exact ⟨.slice a8 zs.length c8, by simp [go_sem, e8], rfl⟩
          · refine step_callv rfl 18 _ _ rfl (by kernel_rfl) fun A ww hb hw hf => ?_
            have e64 : A.tmps.getD 64 undef = .slice a8 zs.length c8 := hf 2 64 (by kernel_rfl)
            show Calls Try.prog 18 #[A.tmps.getD 64 undef] ww _
            rw [e64]
            exact (SZ ww g8 a8 c8 (o8.rd.up hw)).out.mono (by rintro r w' ⟨rfl, n'⟩; exact ⟨_, rfl, n', rfl⟩)
          · refine step_pure rfl fun A ww hb hw hf => ?_
            have e65 : A.tmps[65]?.getD undef = .agg #[.bool tb, .int .i64 tv] := gdv (hf 3 65 (by kernel_rfl))
            have h1 := fd0 tb tv ww
            exact ⟨.bool tb, by simp [go_sem, e65, h1], rfl⟩
          · refine step_pure rfl fun A ww hb hw hf => ?_
            have e63 : A.tmps[63]?.getD undef = .bool tb := gdv (hf 1 63 (by kernel_rfl))
            have e66 : A.tmps[66]?.getD undef = .bool tb := gdv (hf 4 66 (by kernel_rfl))
            exact ⟨.bool false, by cases tb <;> simp [go_sem, e63, e66], rfl⟩
        intro A y5 hb' hw hF
        have e2 := hF 5 67 (by kernel_rfl)
        obtain ⟨vs, hvs⟩ : ∃ vs : Nat → Value, ∀ d, A.tmps.getD d undef = vs d := ⟨_, fun _ => rfl⟩
        rw [hvs] at e2
        rw [puts_of (md := .any) (k := 6) (by kernel_rfl) rfl hb' vs hvs]
        clear hb' hF hvs
        have e3 : vs 67 = .bool false := e2
        clear e2
        simp only [puts, e3, Act.put, List.setIfInBounds_toArray, List.set_cons_succ, List.set_cons_zero]
        clear e3
        have M5 := nxt M4 hw
        have TI := TI.up hw
        have o8 := o8.up hw
        have j0 := TI.c0
        have j1 := TI.c1
        clear SZ
        cases tb with
        | false =>
          go_wp2
          go_ret
          exact ⟨rfl, M5⟩
        | true =>
          have BKt := BK rfl
          go_wp2_with fail
          refine (IE y5).out.mono ?_
          rintro e y6 ⟨⟨a9, c9, g9, rfl, o9, p9, q9, r9⟩, m6⟩
          have M6 := nxt M5 m6
          rw [BKt.out] at o9 ⊢
          go_wp2_with fail
          refine (lwSame_same y6 g9 g8 a9 a8 c9 c8 zs o9.rd (o8.up m6).rd).mono ?_
          rintro e y7 ⟨rfl, h7⟩
          have h7 := h7.symm
          subst h7
          go_wp2
          go_ret
          exact ⟨rfl, M6⟩
      · have t2 : decide ((1 : Int) < (ys.length : Int)) = false := by simp; omega
        clear TO TB o5
        go_wp2_with fail
        generalize w4.alloc (.cells #[.bool true, .int .i64 v] 31) = W at *
        have NW := N5
        clear n5 N4
        refine (drawDecInt_any W g1 a1 c1 X1 (hX1.up NW) bX1 q1).mono ?_
        rintro e y1 ⟨zs, zb, zl, ⟨a8, c8, g8, rfl, o8, p8, q8, r8⟩, m1⟩
        have M1 := nxt NW m1
        have DZ := fun W g a c h => hide (implDecodeInteger_any W g a c zs h zb)
        have SZ := fun W g a c h => hide (specDecodeInteger_any W g a c zs h zb)
        have VB := diV_bd zb
        have BK := fun h => hide (ei_di zb h)
        have IE := fun W => hide (implEncodeInteger_any W (diV zs) VB.1 VB.2)
        generalize diB zs = tb at *
        generalize diV zs = tv at *
        go_wp2_with fail
        refine (lwCopy_any y1 g8 a8 c8 zs o8.rd p8 (by omega)).mono ?_
        rintro e y2 ⟨⟨a9, c9, g9, rfl, o9, p9, q9, r9⟩, m2⟩
        have M2 := nxt M1 m2
        have o8 := o8.up m2
        go_wp2_with fail
        refine (DZ y2 g9 a9 c9 o9.rd).out.mono ?_
        rintro e y3 ⟨rfl, m3⟩
        have M3 := nxt M2 m3
        have o8 := o8.up m3
        have TI := Tl.new y3 (.bool tb) (.int .i64 tv) 31
        have m4 : Below y3.heap.size y3 (y3.alloc (.cells #[.bool tb, .int .i64 tv] 31)) := (Below.refl _ _).alloc (Nat.le_refl _) _
        have M4 := nxt M3 m4
        have o8 := o8.up m4
        clear DZ o9 m1 m2 m3 M1 M2 M3
        go_upto_region 10 with fail
        generalize y3.alloc (.cells #[.bool tb, .int .i64 tv] 31) = y4 at *
        clear m4
        refine region_end 6 (fun i => [Fact.eq (.pointer (some ⟨y3.heap.size, 0, none⟩)), Fact.eq (.bool tb), Fact.eq (.slice a8 zs.length c8), Fact.eq (.agg #[.bool tb, .int .i64 tv]), Fact.eq (.bool tb), Fact.eq (.bool false)].getD i Fact.no) (by kernel_rfl) (by kernel_rfl) rfl ?_ ?_
        · intro i hi
          obtain rfl | rfl | rfl | rfl | rfl | rfl : i = 0 ∨ i = 1 ∨ i = 2 ∨ i = 3 ∨ i = 4 ∨ i = 5 := by omega
          · refine step_pure rfl fun A ww hb hw hf => ?_
            have e9 : A.tmps[9]?.getD undef = .pointer (some ⟨y3.heap.size, 0, none⟩) := gdv (hb.2.2 9 (by kernel_rfl))
            exact ⟨.pointer (some ⟨y3.heap.size, 0, none⟩), by simp [go_sem, e9], rfl⟩
          · refine step_pure rfl fun A ww hb hw hf => ?_
            have e62 : A.tmps[62]?.getD undef = .pointer (some ⟨y3.heap.size, 0, none⟩) := gdv (hf 0 62 (by kernel_rfl))
            have hc := (TI.up hw).c0
            exact ⟨.bool tb, by simp [go_sem, e62, hc], rfl⟩
          · refine step_pure rfl fun A ww hb hw hf => ?_
            have e8 : A.tmps[8]?.getD undef = .slice a8 zs.length c8 := gdv (hb.2.2 8 (by kernel_rfl))
            exact ⟨.slice a8 zs.length c8, by simp [go_sem, e8], rfl⟩
          · refine step_callv rfl 18 _ _ rfl (by kernel_rfl) fun A ww hb hw hf => ?_
            have e64 : A.tmps.getD 64 undef = .slice a8 zs.length c8 := hf 2 64 (by kernel_rfl)
            show Calls Try.prog 18 #[A.tmps.getD 64 undef] ww _
            rw [e64]
            exact (SZ ww g8 a8 c8 (o8.rd.up hw)).out.mono (by rintro r w' ⟨rfl, n'⟩; exact ⟨_, rfl, n', rfl⟩)
          · refine step_pure rfl fun A ww hb hw hf => ?_
            have e65 : A.tmps[65]?.getD undef = .agg #[.bool tb, .int .i64 tv] := gdv (hf 3 65 (by kernel_rfl))
            have h1 := fd0 tb tv ww
            exact ⟨.bool tb, by simp [go_sem, e65, h1], rfl⟩
          · refine step_pure rfl fun A ww hb hw hf => ?_
            have e63 : A.tmps[63]?.getD undef = .bool tb := gdv (hf 1 63 (by kernel_rfl))
            have e66 : A.tmps[66]?.getD undef = .bool tb := gdv (hf 4 66 (by kernel_rfl))
            exact ⟨.bool false, by cases tb <;> simp [go_sem, e63, e66], rfl⟩
        intro A y5 hb' hw hF
        have e2 := hF 5 67 (by kernel_rfl)
        obtain ⟨vs, hvs⟩ : ∃ vs : Nat → Value, ∀ d, A.tmps.getD d undef = vs d := ⟨_, fun _ => rfl⟩
        rw [hvs] at e2
        rw [puts_of (md := .any) (k := 6) (by kernel_rfl) rfl hb' vs hvs]
        clear hb' hF hvs
        have e3 : vs 67 = .bool false := e2
        clear e2
        simp only [puts, e3, Act.put, List.setIfInBounds_toArray, List.set_cons_succ, List.set_cons_zero]
        clear e3
        have M5 := nxt M4 hw
        have TI := TI.up hw
        have o8 := o8.up hw
        have j0 := TI.c0
        have j1 := TI.c1
        clear SZ
        cases tb with
        | false =>
          go_wp2
          go_ret
          exact ⟨rfl, M5⟩
        | true =>
          have BKt := BK rfl
          go_wp2_with fail
          refine (IE y5).out.mono ?_
          rintro e y6 ⟨⟨a9, c9, g9, rfl, o9, p9, q9, r9⟩, m6⟩
          have M6 := nxt M5 m6
          rw [BKt.out] at o9 ⊢
          go_wp2_with fail
          refine (lwSame_same y6 g9 g8 a9 a8 c9 c8 zs o9.rd (o8.up m6).rd).mono ?_
          rintro e y7 ⟨rfl, h7⟩
          have h7 := h7.symm
          subst h7
          go_wp2
          go_ret
          exact ⟨rfl, M6⟩
    · have u1 : decide ((1048576 : Int) < (X1.length : Int)) = true := by simp; omega
      go_enter Try.func7, Try.ntmps7
      go_wp2
      go_ret
      exact ⟨rfl, Below.refl _ _⟩
  · have u0 : decide ((1048576 : Int) < (X0.length : Int)) = true := by simp; omega
    go_enter Try.func7, Try.ntmps7
    go_wp2
    go_ret
    exact ⟨rfl, Below.refl _ _⟩
end Go.Proofs.Ytakcpkfofgiehaa
