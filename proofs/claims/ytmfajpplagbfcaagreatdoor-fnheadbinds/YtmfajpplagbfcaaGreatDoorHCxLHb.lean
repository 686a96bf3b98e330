import Derived.Test.YtmfajpplagbfcaaGreatDoorHC15
import Derived.Test.YtmfajpplagbfcaaGreatDoorHC18
import Derived.Test.YtmfajpplagbfcaaGreatDoorHC26
import Derived.Test.YtmfajpplagbfcaaGreatDoorHC5
import Derived.Test.YtmfajpplagbfcaaGreatDoorHC25
namespace Go.Proofs.YtmfajpplagbfcaaGreatDoor
set_option maxRecDepth 100000
open Go Go.RowKit
theorem laid_hb {W : World} (h : laidMetH Tryz.prog Rows.fnHeadBindsRow.laid W) : HasH W := ⟨start_of (reads_ofH h (by kernel_rfl) (.head _)), steps_of (reads_ofH h (by kernel_rfl) (.tail _ (.head _)))⟩
theorem step_append_exG {P : Program} {ops : Array Oper} {o : Oper} {a : Act} {w : World} {K : Act → World → Prop} {Q : Exit → Act → World → Prop} {E : Prop} (hw : Region.wanted o (yielded ops a.tmps) = true) (s x : Operand) (t tn : TypeId)
    (ho : o.op = .call { callee := .builtin .append, args := #[s, x], argTypes := #[t, tn] }) (vs vx : Value) (hs : a.eval s = vs) (hx : a.eval x = vx) (R : Value → World → Prop)
    (H : ∃ v' w', (Builtin.append_ #[t, tn] o.type #[vs, vx]).run P w = .ok v' w' ∧ R v' w') (hK : ∀ v' w', R v' w' → K (a.put o.dst v') w') :
    if Region.wanted o (yielded ops a.tmps) = true then Oper.wp P o a w K Q else E := by
  rw [if_pos hw]
  obtain ⟨v', w', hr, hR⟩ := H
  exact Lib.wp_append_run w s x t tn ho vs vx hs hx v' w' hr (hK v' w' hR)
theorem bm32 (xs : List Int) : (bmA [] xs).length = 32 := by
  have h : (eaA []).length = 32 := by
    unfold eaA
    have e : (knL []).length = 32 := by decide
    rw [if_pos e, macL_len]
  unfold bmA
  rw [if_pos h, macL_len]
theorem hasM5 (w : World) : HasM w mq0 { msg0 with k := 5 } := ⟨rd0 _ _ _ _, rd0 _ _ _ _, rdT0 _ _ _, rd0 _ _ _ _, rd0 _ _ _ _, rdL0 _ _ _ _, rd0 _ _ _ _, Nat.zero_le _⟩
theorem isM5 : IsM { msg0 with k := 5 } := ⟨byt_nil, byt_nil, byt_nil, byt_nil, byt_nil, fun i hi => absurd hi (by simp [msg0]), by simp [msg0], by simp [msg0], by simp [msg0], by simp [msg0], by simp [msg0], by simp [msg0], by simp [msg0], fun i hi => absurd hi (by simp [msg0]), by simp [msg0], fun l hl => absurd hl (by simp [msg0])⟩
theorem hasZ5 : HasZ mq0 { msg0 with k := 5 } := ⟨fun _ => rfl, fun _ => rfl, fun _ => rfl, fun _ => rfl, fun _ => rfl, fun i hi => absurd hi (by simp [msg0])⟩
theorem HasH.upB {w w' : World} (h : HasH w) (n : Below w.heap.size w w') : HasH w' := ⟨h.1.up n, h.2.up n⟩
set_option maxRecDepth 100000 in
set_option maxHeartbeats 16000000 in
theorem headBinds_law (w : World) (g0 : Nat) (a0 : Option Addr) (c0 : Nat) (X0 : List Int) (hX0 : Rd w g0 a0 .u8 X0) (bX0 : Byt X0) (g1 : Nat) (a1 : Option Addr) (c1 : Nat) (X1 : List Int) (hX1 : Rd w g1 a1 .u8 X1) (bX1 : Byt X1) (k1 : a1 = none → c1 = 0) (hL : HasH w) :
    Calls Tryz.prog 3 #[.slice a0 X0.length c0, .slice a1 X1.length c1] w fun e w' => e = .returned (.bool true) ∧ Below w.heap.size w w' := by
  by_cases q0 : X0.length ≤ 1048576
  · have u0 : decide ((1048576 : Int) < (X0.length : Int)) = false := by simp; omega
    by_cases q1 : X1.length ≤ 1048576
    · have u1 : decide ((1048576 : Int) < (X1.length : Int)) = false := by simp; omega
      obtain ⟨dR, hdR, hrowR⟩ := rowM
      obtain ⟨i0, hi, hz0, hz1, hz2⟩ := info_parts Tryz.info5
      have DH := hide (drawHead_any w g0 a0 c0 X0 hX0 bX0 (by omega))
      have hMO := hide hX1
      have HLH := hide hL
      clear hX0 hX1 hL
      go_enter Tryz.func3, Tryz.ntmps3
      go_wp2_with fail
      refine DH.out.mono ?_
      rintro e w1 ⟨p, m, rfl, HM0, IM0, HZ0, N1⟩
      have n2 : Below w1.heap.size w1 (w1.alloc (.cells #[.int .i64 m.k, .int .i64 m.v, .slice p.a2 m.r.length p.c2, .slice p.a3 m.s.length p.c3, .string ⟨⟨m.ho⟩⟩, .slice p.a5 m.pr.length p.c5, .slice p.a6 m.ti.length p.c6, .int .i64 m.ag, .int .i64 m.ea, .slice p.a9 m.bi.length p.c9, .bool m.rs, .slice p.a11 m.ce.length p.c11, .slice p.a12 m.pf.length p.c12] 26)) := (Below.refl _ _).alloc (Nat.le_refl _) _
      have T2 : RwC (w1.alloc (.cells #[.int .i64 m.k, .int .i64 m.v, .slice p.a2 m.r.length p.c2, .slice p.a3 m.s.length p.c3, .string ⟨⟨m.ho⟩⟩, .slice p.a5 m.pr.length p.c5, .slice p.a6 m.ti.length p.c6, .int .i64 m.ag, .int .i64 m.ea, .slice p.a9 m.bi.length p.c9, .bool m.rs, .slice p.a11 m.ce.length p.c11, .slice p.a12 m.pf.length p.c12] 26)) w1.heap.size [.int .i64 m.k, .int .i64 m.v, .slice p.a2 m.r.length p.c2, .slice p.a3 m.s.length p.c3, .string ⟨⟨m.ho⟩⟩, .slice p.a5 m.pr.length p.c5, .slice p.a6 m.ti.length p.c6, .int .i64 m.ag, .int .i64 m.ea, .slice p.a9 m.bi.length p.c9, .bool m.rs, .slice p.a11 m.ce.length p.c11, .slice p.a12 m.pf.length p.c12] 26 := RwC.new _ _ _
      have z2 : w1.heap.size < (w1.alloc (.cells #[.int .i64 m.k, .int .i64 m.v, .slice p.a2 m.r.length p.c2, .slice p.a3 m.s.length p.c3, .string ⟨⟨m.ho⟩⟩, .slice p.a5 m.pr.length p.c5, .slice p.a6 m.ti.length p.c6, .int .i64 m.ag, .int .i64 m.ea, .slice p.a9 m.bi.length p.c9, .bool m.rs, .slice p.a11 m.ce.length p.c11, .slice p.a12 m.pf.length p.c12] 26)).heap.size := by simp
      have IM := hide IM0
      have HZ := hide HZ0
      have HM := hide (HM0.up n2)
      have NN := hide (nxt N1 n2)
      have z1 := N1.size
      clear DH HM0 IM0 HZ0 N1 n2
      unfold mgV
      go_upto_region 4 with fail
      generalize w1.alloc (.cells #[.int .i64 m.k, .int .i64 m.v, .slice p.a2 m.r.length p.c2, .slice p.a3 m.s.length p.c3, .string ⟨⟨m.ho⟩⟩, .slice p.a5 m.pr.length p.c5, .slice p.a6 m.ti.length p.c6, .int .i64 m.ag, .int .i64 m.ea, .slice p.a9 m.bi.length p.c9, .bool m.rs, .slice p.a11 m.ce.length p.c11, .slice p.a12 m.pf.length p.c12] 26) = w2 at *
      have IH := hide (implHH_any w2 p m HM.out IM.out HZ.out)
      have RG := T2.rangeG
      have TT := hide T2
      have hhl := hh_le m
      obtain ⟨H, hH⟩ : ∃ H, H = hhF m := ⟨_, rfl⟩
      rw [← hH] at IH hhl
      have HH := hide hH
      clear T2 hH
      go_wp2_with (first | (refine wpList_load_mid rfl 26 (.tmp 5) rfl (w1.heap.size) 0 rfl [.int .i64 m.k, .int .i64 m.v, .slice p.a2 m.r.length p.c2, .slice p.a3 m.s.length p.c3, .string ⟨⟨m.ho⟩⟩, .slice p.a5 m.pr.length p.c5, .slice p.a6 m.ti.length p.c6, .int .i64 m.ag, .int .i64 m.ea, .slice p.a9 m.bi.length p.c9, .bool m.rs, .slice p.a11 m.ce.length p.c11, .slice p.a12 m.pf.length p.c12] dR RG hdR hrowR iM ?_) | fail)
      refine IH.out.mono ?_
      rintro e w3 ⟨⟨a6, c6, g6, rfl, o6, z6, k6, b6⟩, n3⟩
      have z3 := n3.size
      have SP := hide (specHH_any w3 p m (HM.out.up n3) IM.out HZ.out)
      rw [← HH.out] at SP
      replace TT := hide (TT.out.up n3)
      replace HM := hide (HM.out.up n3)
      replace NN := hide (nxt NN.out n3)
      have RG3 := TT.out.rangeG
      have O6 := hide o6
      clear IH RG n3 o6 b6
      go_wp2_with (first | (refine wpList_load_mid rfl 26 (.tmp 5) rfl (w1.heap.size) 0 rfl [.int .i64 m.k, .int .i64 m.v, .slice p.a2 m.r.length p.c2, .slice p.a3 m.s.length p.c3, .string ⟨⟨m.ho⟩⟩, .slice p.a5 m.pr.length p.c5, .slice p.a6 m.ti.length p.c6, .int .i64 m.ag, .int .i64 m.ea, .slice p.a9 m.bi.length p.c9, .bool m.rs, .slice p.a11 m.ce.length p.c11, .slice p.a12 m.pf.length p.c12] dR RG3 hdR hrowR iM ?_) | fail)
      refine SP.out.mono ?_
      rintro e w4 ⟨⟨a7, c7, g7, rfl, _⟩, n4⟩
      have z4 := n4.size
      replace TT := hide (TT.out.up n4)
      replace HM := hide (HM.out.up n4)
      replace NN := hide (nxt NN.out n4)
      replace O6 := hide (O6.out.up n4)
      clear SP RG3 n4
      by_cases h0 : H = []
      · subst h0
        have EN := hide (implEnc_any w4 mq0 { msg0 with k := 5 } (hasM5 w4) isM5 hasZ5)
        have e5 : ((encF { msg0 with k := 5 }).length : Int) = 4 := by rw [enc_end]; rfl
        simp only [List.length_nil]
        clear HH O6
        go_wp2_with fail
        refine EN.out.mono ?_
        rintro e w5 ⟨⟨x, rfl, R5⟩, n5⟩
        obtain ⟨ax, cx, gx, rfl, _⟩ := R5.own
        replace NN := hide (nxt NN.out n5)
        rw [enc_end]
        clear n5 R5 EN TT HM
        go_wp2
        go_ret
        exact ⟨rfl, NN.out⟩
      have HB : Hid (Hb m) := hb_of (by rw [← HH.out]; exact h0)
      have hne : ((H.length : Int) == 0) = false := by
        have : H.length ≠ 0 := fun e => h0 (List.length_eq_zero_iff.1 e)
        simp; omega
      have RG4 := TT.out.rangeG
      have M5 := hide (show Below w4.heap.size w4 (w4.alloc (.cells #[.int .i64 m.k, .int .i64 m.v, .slice p.a2 m.r.length p.c2, .slice p.a3 m.s.length p.c3, .string ⟨⟨m.ho⟩⟩, .slice p.a5 m.pr.length p.c5, .slice p.a6 m.ti.length p.c6, .int .i64 m.ag, .int .i64 m.ea, .slice p.a9 m.bi.length p.c9, .bool m.rs, .slice p.a11 m.ce.length p.c11, .slice p.a12 m.pf.length p.c12] 26)) from (Below.refl _ _).alloc (Nat.le_refl _) _)
      have n5 : Below w4.heap.size w4 (w4.alloc (.cells #[.int .i64 m.k, .int .i64 m.v, .slice p.a2 m.r.length p.c2, .slice p.a3 m.s.length p.c3, .string ⟨⟨m.ho⟩⟩, .slice p.a5 m.pr.length p.c5, .slice p.a6 m.ti.length p.c6, .int .i64 m.ag, .int .i64 m.ea, .slice p.a9 m.bi.length p.c9, .bool m.rs, .slice p.a11 m.ce.length p.c11, .slice p.a12 m.pf.length p.c12] 26)) := (Below.refl _ _).alloc (Nat.le_refl _) _
      have T7 := hide (show RwC (w4.alloc (.cells #[.int .i64 m.k, .int .i64 m.v, .slice p.a2 m.r.length p.c2, .slice p.a3 m.s.length p.c3, .string ⟨⟨m.ho⟩⟩, .slice p.a5 m.pr.length p.c5, .slice p.a6 m.ti.length p.c6, .int .i64 m.ag, .int .i64 m.ea, .slice p.a9 m.bi.length p.c9, .bool m.rs, .slice p.a11 m.ce.length p.c11, .slice p.a12 m.pf.length p.c12] 26)) w4.heap.size [.int .i64 m.k, .int .i64 m.v, .slice p.a2 m.r.length p.c2, .slice p.a3 m.s.length p.c3, .string ⟨⟨m.ho⟩⟩, .slice p.a5 m.pr.length p.c5, .slice p.a6 m.ti.length p.c6, .int .i64 m.ag, .int .i64 m.ea, .slice p.a9 m.bi.length p.c9, .bool m.rs, .slice p.a11 m.ce.length p.c11, .slice p.a12 m.pf.length p.c12] 26 from RwC.new _ _ _)
      have z5 : w4.heap.size < (w4.alloc (.cells #[.int .i64 m.k, .int .i64 m.v, .slice p.a2 m.r.length p.c2, .slice p.a3 m.s.length p.c3, .string ⟨⟨m.ho⟩⟩, .slice p.a5 m.pr.length p.c5, .slice p.a6 m.ti.length p.c6, .int .i64 m.ag, .int .i64 m.ea, .slice p.a9 m.bi.length p.c9, .bool m.rs, .slice p.a11 m.ce.length p.c11, .slice p.a12 m.pf.length p.c12] 26)).heap.size := by simp
      clear n5
      go_upto_region 8 with (first | (refine wpList_load_mid rfl 26 (.tmp 5) rfl (w1.heap.size) 0 rfl [.int .i64 m.k, .int .i64 m.v, .slice p.a2 m.r.length p.c2, .slice p.a3 m.s.length p.c3, .string ⟨⟨m.ho⟩⟩, .slice p.a5 m.pr.length p.c5, .slice p.a6 m.ti.length p.c6, .int .i64 m.ag, .int .i64 m.ea, .slice p.a9 m.bi.length p.c9, .bool m.rs, .slice p.a11 m.ce.length p.c11, .slice p.a12 m.pf.length p.c12] dR RG4 hdR hrowR iM ?_) | fail)
      generalize w4.alloc (.cells #[.int .i64 m.k, .int .i64 m.v, .slice p.a2 m.r.length p.c2, .slice p.a3 m.s.length p.c3, .string ⟨⟨m.ho⟩⟩, .slice p.a5 m.pr.length p.c5, .slice p.a6 m.ti.length p.c6, .int .i64 m.ag, .int .i64 m.ea, .slice p.a9 m.bi.length p.c9, .bool m.rs, .slice p.a11 m.ce.length p.c11, .slice p.a12 m.pf.length p.c12] 26) = w5 at *
      clear RG4 hne
      go_wp2_with fail
      refine (lw32_any w5 g1 a1 c1 X1 (hMO.out.up (nxt NN.out M5.out))).mono ?_
      rintro e w6 ⟨rfl, B6, n6⟩
      have z6' := n6.size
      obtain ⟨b9, hb9⟩ : ∃ b9, b9 = to32 X1 := ⟨_, rfl⟩
      rw [← hb9] at B6
      have l9 : b9.length = 32 := by rw [hb9]; exact to32_len X1
      have y9 := hide (show Byt b9 by rw [hb9]; exact to32_byt bX1)
      replace T7 := hide (T7.out.up n6)
      have lt6 := B6.lt
      have tc : w6.cell? ⟨w4.heap.size, 9, none⟩ = some (.slice p.a9 m.bi.length p.c9) := T7.out.cell 9
      have tf := T7.out.free 9
      have OS := Only.setCell w6 w4.heap.size 9 (.slice (some ⟨w5.heap.size, 0, none⟩) 32 32)
      have T9 := hide (show RwC (w6.setCell ⟨w4.heap.size, 9, none⟩ (.slice (some ⟨w5.heap.size, 0, none⟩) 32 32)) w4.heap.size [.int .i64 m.k, .int .i64 m.v, .slice p.a2 m.r.length p.c2, .slice p.a3 m.s.length p.c3, .string ⟨⟨m.ho⟩⟩, .slice p.a5 m.pr.length p.c5, .slice p.a6 m.ti.length p.c6, .int .i64 m.ag, .int .i64 m.ea, .slice (some ⟨w5.heap.size, 0, none⟩) 32 32, .bool m.rs, .slice p.a11 m.ce.length p.c11, .slice p.a12 m.pf.length p.c12] 26 from T7.out.set 9 _)
      have M7 := hide (show Below w4.heap.size w4 (w6.setCell ⟨w4.heap.size, 9, none⟩ (.slice (some ⟨w5.heap.size, 0, none⟩) 32 32)) from (nxt M5.out n6).trans (OS.below (Nat.le_refl _)))
      have B9 := hide (B6.own0.rd.of_block (OS.block w5.heap.size (by omega)))
      have z9 := OS.size
      clear n6 OS B6 T7 hb9 M5
      go_upto_region 9 with fail
      generalize w6.setCell ⟨w4.heap.size, 9, none⟩ (.slice (some ⟨w5.heap.size, 0, none⟩) 32 32) = w7 at *
      clear tc tf
      obtain ⟨p9, hp9⟩ : ∃ p9 : MQ, p9 = { p with a9 := some ⟨w5.heap.size, 0, none⟩, c9 := 32, g9 := w5.heap.size } := ⟨_, rfl⟩
      have E9 : Hid (mgV p9 (mSB m m.s b9) = #[.int .i64 m.k, .int .i64 m.v, .slice p.a2 m.r.length p.c2, .slice p.a3 m.s.length p.c3, .string ⟨⟨m.ho⟩⟩, .slice p.a5 m.pr.length p.c5, .slice p.a6 m.ti.length p.c6, .int .i64 m.ag, .int .i64 m.ea, .slice (some ⟨w5.heap.size, 0, none⟩) 32 32, .bool m.rs, .slice p.a11 m.ce.length p.c11, .slice p.a12 m.pf.length p.c12]) := by
        show _ = _
        subst hp9
        show (#[.int .i64 m.k, .int .i64 m.v, .slice p.a2 m.r.length p.c2, .slice p.a3 m.s.length p.c3, .string ⟨⟨m.ho⟩⟩, .slice p.a5 m.pr.length p.c5, .slice p.a6 m.ti.length p.c6, .int .i64 m.ag, .int .i64 m.ea, .slice (some ⟨w5.heap.size, 0, none⟩) b9.length 32, .bool m.rs, .slice p.a11 m.ce.length p.c11, .slice p.a12 m.pf.length p.c12] : Array Value) = _
        rw [l9]
      have hm7 := HM.out.up M7.out
      have HM9 : Hid (HasM w7 p9 (mSB m m.s b9)) := by
        show HasM _ _ _
        subst hp9
        exact ⟨hm7.r, hm7.s, hm7.pr, hm7.ti, B9.out, hm7.ce, hm7.pf, hm7.prC⟩
      have im := IM.out
      have IM9 : Hid (IsM (mSB m m.s b9)) := ⟨im.rB, im.sB, im.tiB, y9.out, im.pfB, im.ceB, im.rL, im.sL, im.prL, im.tiL, by show b9.length ≤ _; omega, im.ceL, im.pfL, im.ceZ, im.hoL, im.prZ⟩
      have hz := HZ.out
      have HZ9 : Hid (HasZ p9 (mSB m m.s b9)) := by
        show HasZ _ _
        subst hp9
        exact ⟨hz.z2, hz.z3, hz.z6, (fun h => by cases h), hz.z12, hz.zc⟩
      have HH9 : Hid (hhF (mSB m m.s b9) = H) := by
        show _ = _
        rw [hh_hb HB.out (hb_rs HB.out).2 l9, ← hh_self HB.out, HH.out]
      have EE9 : Hid (encF (mSB m m.s b9) = H ++ b9) := by
        show _ = _
        rw [enc_hb HB.out (hb_rs HB.out).2 l9, ← hh_self HB.out, HH.out]
      have L9 : Hid ((H ++ b9).length = H.length + 32) := by show _ = _; rw [List.length_append, l9]
      clear hm7 im hz hp9
      have O7 := hide (O6.out.up M7.out)
      have N1 : Hid (Calls Tryz.prog 5 #[.agg #[.int .i64 m.k, .int .i64 m.v, .slice p.a2 m.r.length p.c2, .slice p.a3 m.s.length p.c3, .string ⟨⟨m.ho⟩⟩, .slice p.a5 m.pr.length p.c5, .slice p.a6 m.ti.length p.c6, .int .i64 m.ag, .int .i64 m.ea, .slice (some ⟨w5.heap.size, 0, none⟩) 32 32, .bool m.rs, .slice p.a11 m.ce.length p.c11, .slice p.a12 m.pf.length p.c12]] w7.drew fun e x1 => ∃ ah ch, e = .returned (.slice ah H.length ch) ∧ (x1.cell? ⟨w4.heap.size, 0, none⟩ = some (.int .i64 m.k) ∧ x1.cell? ⟨w4.heap.size, 1, none⟩ = some (.int .i64 m.v) ∧ x1.cell? ⟨w4.heap.size, 2, none⟩ = some (.slice p.a2 m.r.length p.c2) ∧ x1.cell? ⟨w4.heap.size, 3, none⟩ = some (.slice p.a3 m.s.length p.c3) ∧ x1.cell? ⟨w4.heap.size, 4, none⟩ = some (.string ⟨⟨m.ho⟩⟩) ∧ x1.cell? ⟨w4.heap.size, 5, none⟩ = some (.slice p.a5 m.pr.length p.c5) ∧ x1.cell? ⟨w4.heap.size, 6, none⟩ = some (.slice p.a6 m.ti.length p.c6) ∧ x1.cell? ⟨w4.heap.size, 7, none⟩ = some (.int .i64 m.ag) ∧ x1.cell? ⟨w4.heap.size, 8, none⟩ = some (.int .i64 m.ea) ∧ x1.cell? ⟨w4.heap.size, 9, none⟩ = some (.slice (some ⟨w5.heap.size, 0, none⟩) 32 32) ∧ x1.cell? ⟨w4.heap.size, 10, none⟩ = some (.bool m.rs) ∧ x1.cell? ⟨w4.heap.size, 11, none⟩ = some (.slice p.a11 m.ce.length p.c11) ∧ x1.cell? ⟨w4.heap.size, 12, none⟩ = some (.slice p.a12 m.pf.length p.c12)) ∧ Hid (Calls Tryz.prog 9 #[.slice ah H.length ch, .slice a6 H.length c6] x1 fun e x2 => e = .returned (.bool true) ∧ (x2.cell? ⟨w4.heap.size, 0, none⟩ = some (.int .i64 m.k) ∧ x2.cell? ⟨w4.heap.size, 1, none⟩ = some (.int .i64 m.v) ∧ x2.cell? ⟨w4.heap.size, 2, none⟩ = some (.slice p.a2 m.r.length p.c2) ∧ x2.cell? ⟨w4.heap.size, 3, none⟩ = some (.slice p.a3 m.s.length p.c3) ∧ x2.cell? ⟨w4.heap.size, 4, none⟩ = some (.string ⟨⟨m.ho⟩⟩) ∧ x2.cell? ⟨w4.heap.size, 5, none⟩ = some (.slice p.a5 m.pr.length p.c5) ∧ x2.cell? ⟨w4.heap.size, 6, none⟩ = some (.slice p.a6 m.ti.length p.c6) ∧ x2.cell? ⟨w4.heap.size, 7, none⟩ = some (.int .i64 m.ag) ∧ x2.cell? ⟨w4.heap.size, 8, none⟩ = some (.int .i64 m.ea) ∧ x2.cell? ⟨w4.heap.size, 9, none⟩ = some (.slice (some ⟨w5.heap.size, 0, none⟩) 32 32) ∧ x2.cell? ⟨w4.heap.size, 10, none⟩ = some (.bool m.rs) ∧ x2.cell? ⟨w4.heap.size, 11, none⟩ = some (.slice p.a11 m.ce.length p.c11) ∧ x2.cell? ⟨w4.heap.size, 12, none⟩ = some (.slice p.a12 m.pf.length p.c12)) ∧ Hid (Calls Tryz.prog 7 #[.agg #[.int .i64 m.k, .int .i64 m.v, .slice p.a2 m.r.length p.c2, .slice p.a3 m.s.length p.c3, .string ⟨⟨m.ho⟩⟩, .slice p.a5 m.pr.length p.c5, .slice p.a6 m.ti.length p.c6, .int .i64 m.ag, .int .i64 m.ea, .slice (some ⟨w5.heap.size, 0, none⟩) 32 32, .bool m.rs, .slice p.a11 m.ce.length p.c11, .slice p.a12 m.pf.length p.c12]] x2 fun e x3 => ∃ ae ce, e = .returned (.slice ae (H.length + 32) ce) ∧ x3.cell? ⟨w4.heap.size, 9, none⟩ = some (.slice (some ⟨w5.heap.size, 0, none⟩) 32 32) ∧ Hid (Calls Tryz.prog 10 #[.slice a6 H.length c6] x3 fun e x4 => ∃ vc, e = .returned vc ∧ x4.cell? ⟨w4.heap.size, 9, none⟩ = some (.slice (some ⟨w5.heap.size, 0, none⟩) 32 32) ∧ ∃ v' x5, (Builtin.append_ #[22, 22] 22 #[vc, .slice (some ⟨w5.heap.size, 0, none⟩) 32 32]).run Tryz.prog x4 = .ok v' x5 ∧ (∃ av cv, v' = .slice av (H.length + 32) cv ∧ Hid (Calls Tryz.prog 9 #[.slice ae (H.length + 32) ce, .slice av (H.length + 32) cv] x5 fun e x6 => e = .returned (.bool true) ∧ Hid (Below w7.heap.size w7 x6))))))) := by
        have nd : Below w7.heap.size w7 w7.drew := (Below.refl _ _).drew
        have cellsAt : ∀ W, Below w7.heap.size w7 W → (W.cell? ⟨w4.heap.size, 0, none⟩ = some (.int .i64 m.k) ∧ W.cell? ⟨w4.heap.size, 1, none⟩ = some (.int .i64 m.v) ∧ W.cell? ⟨w4.heap.size, 2, none⟩ = some (.slice p.a2 m.r.length p.c2) ∧ W.cell? ⟨w4.heap.size, 3, none⟩ = some (.slice p.a3 m.s.length p.c3) ∧ W.cell? ⟨w4.heap.size, 4, none⟩ = some (.string ⟨⟨m.ho⟩⟩) ∧ W.cell? ⟨w4.heap.size, 5, none⟩ = some (.slice p.a5 m.pr.length p.c5) ∧ W.cell? ⟨w4.heap.size, 6, none⟩ = some (.slice p.a6 m.ti.length p.c6) ∧ W.cell? ⟨w4.heap.size, 7, none⟩ = some (.int .i64 m.ag) ∧ W.cell? ⟨w4.heap.size, 8, none⟩ = some (.int .i64 m.ea) ∧ W.cell? ⟨w4.heap.size, 9, none⟩ = some (.slice (some ⟨w5.heap.size, 0, none⟩) 32 32) ∧ W.cell? ⟨w4.heap.size, 10, none⟩ = some (.bool m.rs) ∧ W.cell? ⟨w4.heap.size, 11, none⟩ = some (.slice p.a11 m.ce.length p.c11) ∧ W.cell? ⟨w4.heap.size, 12, none⟩ = some (.slice p.a12 m.pf.length p.c12)) := fun W n => by
          have t := T9.out.up n
          exact ⟨t.cell 0, t.cell 1, t.cell 2, t.cell 3, t.cell 4, t.cell 5, t.cell 6, t.cell 7, t.cell 8, t.cell 9, t.cell 10, t.cell 11, t.cell 12⟩
        have C1 := implHH_any w7.drew p9 _ (HM9.out.up nd) IM9.out HZ9.out
        rw [E9.out, HH9.out] at C1
        refine C1.mono ?_
        rintro e x1 ⟨⟨ah, ch, gh, rfl, oh, _⟩, n1⟩
        have M1 := nxt nd n1
        refine ⟨ah, ch, rfl, cellsAt x1 M1, ?_⟩
        refine (lwSame_same x1 gh g6 ah a6 ch c6 H oh.rd (O7.out.up M1).rd).mono ?_
        rintro e x2 ⟨rfl, rfl⟩
        refine ⟨rfl, cellsAt x2 M1, ?_⟩
        have C3 := implEnc_any x2 p9 _ (HM9.out.up M1) IM9.out HZ9.out
        rw [E9.out, EE9.out] at C3
        refine C3.mono ?_
        rintro e x3 ⟨⟨xe, rfl, Re⟩, n3⟩
        obtain ⟨ae, ce, ge, rfl, oe, _⟩ := Re.own
        have M3 := nxt M1 n3
        refine ⟨ae, ce, by rw [L9.out], (T9.out.up M3).cell 9, ?_⟩
        refine (lwCopyO_any x3 g6 a6 c6 H (O7.out.up M3).rd z6 (by omega)).mono ?_
        rintro e x4 ⟨vc, rfl, Rc, n4⟩
        have M4 := nxt M3 n4
        obtain ⟨v', x5, h1, R5, nB⟩ := append_any (P := Tryz.prog) x4 22 i0 Tryz.underlying22 hi hz0 hz1 hz2 x3.heap.size x3.heap.size vc H Rc w5.heap.size (some ⟨w5.heap.size, 0, none⟩) 32 b9 (B9.out.up M4) (fun h => by cases h) (by omega) (Nat.le_refl _) n4.size
        rw [l9] at h1
        obtain ⟨av, cv, gv, rfl, ov, _⟩ := R5.own
        have n45 := n4.trans nB
        refine ⟨vc, rfl, (T9.out.up M4).cell 9, _, x5, h1, av, cv, by rw [L9.out], ?_⟩
        have C6 := lwSame_same x5 ge gv ae av ce cv (H ++ b9) (oe.up n45).rd ov.rd
        rw [L9.out] at C6
        refine C6.mono ?_
        rintro e x6 ⟨rfl, rfl⟩
        exact ⟨rfl, M3.trans (n45.mono M3.size)⟩
      have d0 : w7.cell? ⟨w4.heap.size, 0, none⟩ = some (.int .i64 m.k) := T9.out.cell 0
      have d1 : w7.cell? ⟨w4.heap.size, 1, none⟩ = some (.int .i64 m.v) := T9.out.cell 1
      have d2 : w7.cell? ⟨w4.heap.size, 2, none⟩ = some (.slice p.a2 m.r.length p.c2) := T9.out.cell 2
      have d3 : w7.cell? ⟨w4.heap.size, 3, none⟩ = some (.slice p.a3 m.s.length p.c3) := T9.out.cell 3
      have d4 : w7.cell? ⟨w4.heap.size, 4, none⟩ = some (.string ⟨⟨m.ho⟩⟩) := T9.out.cell 4
      have d5 : w7.cell? ⟨w4.heap.size, 5, none⟩ = some (.slice p.a5 m.pr.length p.c5) := T9.out.cell 5
      have d6 : w7.cell? ⟨w4.heap.size, 6, none⟩ = some (.slice p.a6 m.ti.length p.c6) := T9.out.cell 6
      have d7 : w7.cell? ⟨w4.heap.size, 7, none⟩ = some (.int .i64 m.ag) := T9.out.cell 7
      have d8 : w7.cell? ⟨w4.heap.size, 8, none⟩ = some (.int .i64 m.ea) := T9.out.cell 8
      have d9 : w7.cell? ⟨w4.heap.size, 9, none⟩ = some (.slice (some ⟨w5.heap.size, 0, none⟩) 32 32) := T9.out.cell 9
      have d10 : w7.cell? ⟨w4.heap.size, 10, none⟩ = some (.bool m.rs) := T9.out.cell 10
      have d11 : w7.cell? ⟨w4.heap.size, 11, none⟩ = some (.slice p.a11 m.ce.length p.c11) := T9.out.cell 11
      have d12 : w7.cell? ⟨w4.heap.size, 12, none⟩ = some (.slice p.a12 m.pf.length p.c12) := T9.out.cell 12
      clear E9 HM9 IM9 HZ9 HH9 EE9 L9 O7
      go_cut [52] from 37 to 52 (fun v wc => v = .bool false ∧ Hid (Below w7.heap.size w7 wc))
      case first =>
        clear l9
        go_region_law (first
          | (go_simp; go_at_call 5; refine N1.out.mono ?_; rintro e x1 ⟨ah, ch, rfl, ⟨ma0, ma1, ma2, ma3, ma4, ma5, ma6, ma7, ma8, ma9, ma10, ma11, ma12⟩, N2⟩)
          | (go_simp; go_at_call 9; refine N2.out.mono ?_; rintro e x2 ⟨rfl, ⟨mb0, mb1, mb2, mb3, mb4, mb5, mb6, mb7, mb8, mb9, mb10, mb11, mb12⟩, N3⟩)
          | (go_simp; go_at_call 7; refine N3.out.mono ?_; rintro e x3 ⟨ae, ce, rfl, m3, N4⟩)
          | (go_simp; go_at_call 10; refine N4.out.mono ?_; rintro e x4 ⟨vc, rfl, m4, AP⟩)
          | (refine step_append_exG (wanted_some (g := 5) (d := 42) (v := false) rfl (by kernel_rfl) rfl) (.tmp 46) (.tmp 48) 22 22 rfl vc (.slice (some ⟨w5.heap.size, 0, none⟩) 32 32) rfl rfl _ AP ?_; rintro v5 x5 ⟨av, cv, rfl, N6⟩)
          | (go_simp; go_at_call 9; refine N6.out.mono ?_; rintro e x6 ⟨rfl, BB⟩)
          | fail)
        all_goals
          go_wp2_with fail
          go_meet
          exact ⟨rfl, BB⟩
      case rest =>
        obtain ⟨rfl, BH⟩ := hcut
        clear N1 d0 d1 d2 d3 d4 d5 d6 d7 d8 d9 d10 d11 d12
        have M8 := hide (M7.out.trans (BH.out.mono M7.out.size))
        have hs32 := (hb_rs HB.out).2
        obtain ⟨off, ha3, hc3⟩ := (HM.out.up M8.out).s (by omega)
        have c3 : wc.cell? ⟨w1.heap.size, 3, none⟩ = some (.slice (some ⟨p.g3, off, none⟩) 32 p.c3) := by
          have h : wc.cell? ⟨w1.heap.size, 3, none⟩ = some (.slice p.a3 m.s.length p.c3) := (TT.out.up M8.out).cell 3
          rw [ha3, hs32] at h
          exact h
        have x3 : wc.cell? ⟨p.g3, off, none⟩ = some (.int .u8 (m.s.getD 0 0)) := hc3 0 (by omega)
        have s0b := IM.out.sB 0
        obtain ⟨s0, hs0⟩ : ∃ s0, s0 = m.s.getD 0 0 := ⟨_, rfl⟩
        rw [← hs0] at x3 s0b
        obtain ⟨y, hy⟩ : ∃ y, y = (s0 + 1) % 256 := ⟨_, rfl⟩
        have wy : IntKind.u8.wrap (s0 + 1) = y := by rw [hy, IntKind.wrap_u8]
        have yb : 0 ≤ y ∧ y < 256 ∧ y ≠ s0 := by omega
        have HS0 := hide hs0
        clear hs0 hy hc3
        have n8 : Below wc.heap.size wc (wc.alloc (.cells #[.int .u8 y] 5)) := (Below.refl _ _).alloc (Nat.le_refl _) _
        have R8 : RowB (wc.alloc (.cells #[.int .u8 y] 5)) wc.heap.size (.slice (some ⟨wc.heap.size, 0, none⟩) 1 1) [y] := World.ownsRow_lit wc #[.int .u8 y] 1 (Nat.le_refl _) (by unfold maxLen; omega) (by simp)
        obtain ⟨v', w9, h1, R9, n9⟩ := append_any (P := Tryz.prog) (wc.alloc (.cells #[.int .u8 y] 5)) 22 i0 Tryz.underlying22 hi hz0 hz1 hz2 wc.heap.size wc.heap.size _ [y] R8 g1 a1 c1 X1 ((hMO.out.up (NN.out.trans (M8.out.mono NN.out.size))).up n8) k1 (by simp; omega) (Nat.le_refl _) n8.size
        obtain ⟨av, cv, gv, rfl, ov, _⟩ := R9.own
        have N79 := hide (BH.out.trans ((n8.trans n9).mono BH.out.size))
        have LW := hide (lw32_any w9 gv av cv ([y] ++ X1) ov.rd)
        obtain ⟨lv, hlv⟩ : ∃ lv, lv = ([y] ++ X1).length := ⟨_, rfl⟩
        rw [← hlv] at h1 LW
        obtain ⟨s3, hs3⟩ : ∃ s3, s3 = to32 ([y] ++ X1) := ⟨_, rfl⟩
        rw [← hs3] at LW
        have l3 : s3.length = 32 := by rw [hs3]; exact to32_len _
        have y3 := hide (show Byt s3 by rw [hs3]; exact to32_byt (hb_apd (hb_one yb.1 yb.2.1) bX1))
        have e3 : s3.getD 0 0 = y := by rw [hs3]; rfl
        have NE := hide (show s3 ≠ m.s from fun e => by rw [e, ← HS0.out] at e3; omega)
        clear R8 R9 ov n8 n9 hs3 hlv e3
        go_wp2_with (first | (at_builtin; refine Lib.wpList_append_run _ rfl _ _ 22 22 rfl _ _ rfl rfl _ _ h1 ?_) | fail)
        refine LW.out.mono ?_
        rintro e w10 ⟨rfl, B10, n10⟩
        have z10 := n10.size
        have lt10 := B10.lt
        have N710 := nxt N79.out n10
        have T10 := T9.out.up N710
        have z79 := N79.out.size
        have b10 := B9.out.up N710
        have tc : w10.cell? ⟨w4.heap.size, 3, none⟩ = some (.slice p.a3 m.s.length p.c3) := T10.cell 3
        have tf := T10.free 3
        have OS := Only.setCell w10 w4.heap.size 3 (.slice (some ⟨w9.heap.size, 0, none⟩) 32 32)
        have T11 := hide (show RwC (w10.setCell ⟨w4.heap.size, 3, none⟩ (.slice (some ⟨w9.heap.size, 0, none⟩) 32 32)) w4.heap.size [.int .i64 m.k, .int .i64 m.v, .slice p.a2 m.r.length p.c2, .slice (some ⟨w9.heap.size, 0, none⟩) 32 32, .string ⟨⟨m.ho⟩⟩, .slice p.a5 m.pr.length p.c5, .slice p.a6 m.ti.length p.c6, .int .i64 m.ag, .int .i64 m.ea, .slice (some ⟨w5.heap.size, 0, none⟩) 32 32, .bool m.rs, .slice p.a11 m.ce.length p.c11, .slice p.a12 m.pf.length p.c12] 26 from T10.set 3 _)
        have M11 := hide (show Below w4.heap.size w4 (w10.setCell ⟨w4.heap.size, 3, none⟩ (.slice (some ⟨w9.heap.size, 0, none⟩) 32 32)) from (M7.out.trans (N710.mono M7.out.size)).trans (OS.below (Nat.le_refl _)))
        have B11 := hide (b10.of_block (OS.block w5.heap.size (by omega)))
        have D11 := hide (B10.own0.rd.of_block (OS.block w9.heap.size (by omega)))
        clear LW h1 c3 x3 wy T10 OS n10 N710 N79 B10 b10 BH M8 T9 B9 ha3
        go_upto_region 12 with fail
        generalize w10.setCell ⟨w4.heap.size, 3, none⟩ (.slice (some ⟨w9.heap.size, 0, none⟩) 32 32) = w11 at *
        clear tc tf
        obtain ⟨p3, hp3⟩ : ∃ p3 : MQ, p3 = { p with a3 := some ⟨w9.heap.size, 0, none⟩, c3 := 32, g3 := w9.heap.size, a9 := some ⟨w5.heap.size, 0, none⟩, c9 := 32, g9 := w5.heap.size } := ⟨_, rfl⟩
        have E3 : Hid (mgV p3 (mSB m s3 b9) = #[.int .i64 m.k, .int .i64 m.v, .slice p.a2 m.r.length p.c2, .slice (some ⟨w9.heap.size, 0, none⟩) 32 32, .string ⟨⟨m.ho⟩⟩, .slice p.a5 m.pr.length p.c5, .slice p.a6 m.ti.length p.c6, .int .i64 m.ag, .int .i64 m.ea, .slice (some ⟨w5.heap.size, 0, none⟩) 32 32, .bool m.rs, .slice p.a11 m.ce.length p.c11, .slice p.a12 m.pf.length p.c12]) := by
          show _ = _
          subst hp3
          show (#[.int .i64 m.k, .int .i64 m.v, .slice p.a2 m.r.length p.c2, .slice (some ⟨w9.heap.size, 0, none⟩) s3.length 32, .string ⟨⟨m.ho⟩⟩, .slice p.a5 m.pr.length p.c5, .slice p.a6 m.ti.length p.c6, .int .i64 m.ag, .int .i64 m.ea, .slice (some ⟨w5.heap.size, 0, none⟩) b9.length 32, .bool m.rs, .slice p.a11 m.ce.length p.c11, .slice p.a12 m.pf.length p.c12] : Array Value) = _
          rw [l9, l3]
        have hm := HM.out.up M11.out
        have HM3 : HasM w11 p3 (mSB m s3 b9) := by
          subst hp3
          exact ⟨hm.r, D11.out, hm.pr, hm.ti, B11.out, hm.ce, hm.pf, hm.prC⟩
        have im := IM.out
        have IM3 : IsM (mSB m s3 b9) := ⟨im.rB, y3.out, im.tiB, y9.out, im.pfB, im.ceB, im.rL, by show s3.length ≤ _; omega, im.prL, im.tiL, by show b9.length ≤ _; omega, im.ceL, im.pfL, im.ceZ, im.hoL, im.prZ⟩
        have hz := HZ.out
        have HZ3 : HasZ p3 (mSB m s3 b9) := by
          subst hp3
          exact ⟨hz.z2, (fun h => by cases h), hz.z6, (fun h => by cases h), hz.z12, hz.zc⟩
        have IH3 := hide (implHH_any w11 p3 _ HM3 IM3 HZ3)
        have hh3 := hh_hb (m := m) (s := s3) (b := b9) HB.out l3 l9
        rw [E3.out, hh3] at IH3
        have BH3 := hide (hd_byt HB.out IM.out y3.out)
        have BHH : Hid (Byt H) := by
          show Byt H
          rw [HH.out, hh_self HB.out]
          exact hd_byt HB.out IM.out IM.out.sB
        have NEH : Hid (hdL m s3 ≠ H) := by
          show hdL m s3 ≠ H
          rw [HH.out, hh_self HB.out]
          exact hd_ne (by omega) NE.out
        obtain ⟨H3, hH3⟩ : ∃ H3, H3 = hdL m s3 := ⟨_, rfl⟩
        rw [← hH3] at IH3 BH3 NEH
        have RG11 := T11.out.rangeG
        clear E3 hm HM3 im IM3 hz HZ3 hh3 hH3 hp3 y3 NE l3
        go_wp2_with (first | (refine wpList_load_mid rfl 26 (.tmp 7) rfl (w4.heap.size) 0 rfl [.int .i64 m.k, .int .i64 m.v, .slice p.a2 m.r.length p.c2, .slice (some ⟨w9.heap.size, 0, none⟩) 32 32, .string ⟨⟨m.ho⟩⟩, .slice p.a5 m.pr.length p.c5, .slice p.a6 m.ti.length p.c6, .int .i64 m.ag, .int .i64 m.ea, .slice (some ⟨w5.heap.size, 0, none⟩) 32 32, .bool m.rs, .slice p.a11 m.ce.length p.c11, .slice p.a12 m.pf.length p.c12] dR RG11 hdR hrowR iM ?_) | fail)
        refine IH3.out.mono ?_
        rintro e w12 ⟨⟨ah, ch, gh, rfl, oh, _⟩, n12⟩
        have M12 := M11.out.trans (n12.mono M11.out.size)
        have o12 := O6.out.up M12
        have LS := hide (lwSame_diff w12 gh g6 ah a6 ch c6 H3 H oh.rd o12.rd BH3.out BHH.out NEH.out)
        have NF := hide (NN.out.trans (M12.mono NN.out.size))
        have BM := hide (implBinderMac_any w12 (HLH.out.upB NF.out) (a := none) (c := 0) (ks := []) ⟨⟨0, rd0 _ _ _ _⟩, byt_nil, fun _ => rfl, Nat.le_refl _, by simp⟩ (a' := a6) (c' := c6) (xs := H) ⟨⟨g6, o12.rd⟩, BHH.out, z6, k6, by omega⟩)
        clear IH3 RG11 o12 oh n12 M12
        go_wp2_with fail
        refine LS.out.mono ?_
        rintro e w12' ⟨rfl, rfl⟩
        go_wp2_with fail
        refine BM.out.mono ?_
        rintro e w13 ⟨⟨ab, cb, gb, rfl, _⟩, n13⟩
        rw [bm32]
        have NG := hide (nxt NF.out n13)
        clear n13 BM LS NF
        go_wp2
        go_ret
        exact ⟨rfl, NG.out⟩
    · have u1 : decide ((1048576 : Int) < (X1.length : Int)) = true := by simp; omega
      go_enter Tryz.func3, Tryz.ntmps3
      go_wp2
      go_ret
      exact ⟨rfl, Below.refl _ _⟩
  · have u0 : decide ((1048576 : Int) < (X0.length : Int)) = true := by simp; omega
    go_enter Tryz.func3, Tryz.ntmps3
    go_wp2
    go_ret
    exact ⟨rfl, Below.refl _ _⟩
end Go.Proofs.YtmfajpplagbfcaaGreatDoor
