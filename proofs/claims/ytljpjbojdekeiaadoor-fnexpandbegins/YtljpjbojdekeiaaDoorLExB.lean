
/-
  The law FnExpandBegins.
-/
import Derived.Test.YtljpjbojdekeiaaDoorXcF
import Derived.Test.YtljpjbojdekeiaaDoorDrE
import Derived.Test.YtljpjbojdekeiaaDoorLaidH
namespace Go.Proofs.YtljpjbojdekeiaaDoor
set_option maxRecDepth 100000
open Go Go.RowKit

theorem laid_exb {W : World} (h : laidMetH Tryd.prog Rows.fnExpandBeginsRow.laid W) : HasH W := ⟨start_of (reads_ofH h (by kernel_rfl) (.head _)), steps_of (reads_ofH h (by kernel_rfl) (.tail _ (.head _)))⟩
set_option maxRecDepth 20000 in
set_option maxHeartbeats 8000000 in
theorem exb_law (w : World) (g0 : Nat) (a0 : Option Addr) (c0 : Nat) (X0 : List Int) (hX0 : Rd w g0 a0 .u8 X0) (bX0 : Byt X0) (g1 : Nat) (a1 : Option Addr) (c1 : Nat) (X1 : List Int) (hX1 : Rd w g1 a1 .u8 X1) (bX1 : Byt X1) (hL : HasH w) :
    Calls Tryd.prog 5 #[.slice a0 X0.length c0, .slice a1 X1.length c1] w fun e w' => e = .returned (.bool true) ∧ Below w.heap.size w w' := by
  by_cases q0 : X0.length ≤ 1048576
  · have u0 : decide ((1048576 : Int) < (X0.length : Int)) = false := by simp; omega
    by_cases q1 : X1.length ≤ 1048576
    · have u1 : decide ((1048576 : Int) < (X1.length : Int)) = false := by simp; omega
      go_enter Tryd.func5, Tryd.ntmps5
      go_wp2_with fail
      refine (drawExpand_any w g0 a0 c0 X0 hX0 bX0 q0).mono ?_
      rintro e w1 ⟨ks, ds, m, a2, a3, c2, c3, g2, g3, rfl, m0, m1, kl, dl, kb, db, ok, od, pk, pd, qk, qd, n1⟩
      have IM := fun W g a c h p g' a' c' h' p' n (b : Below w.heap.size w W) => implExpand_any W g a c ks h kb p (by omega) g' a' c' ds h' db p' (by omega) n (hL.1.up b) (hL.2.up b)
      have E32 : Hid ((expA ks ds 32).length = 32) := by show _ = _; rw [show (32 : Int) = ((32 : Nat) : Int) from rfl, expA_of ks ds (by omega), expL_len]
      by_cases hin : 0 ≤ m ∧ m ≤ 8160
      · have s0 : decide (m < 0) = false := by simp; omega
        have s1 : decide (8160 < m) = false := by simp; omega
        obtain ⟨M, rfl⟩ := Int.eq_ofNat_of_zero_le hin.1
        have hM : M ≤ 8160 := by omega
        have LM : Hid ((expA ks ds (M : Int)).length = M) := by show _ = _; rw [expA_of ks ds hM, expL_len]
        have AT : Calls Tryd.prog 22 #[.slice a1 X1.length c1, .int .i64 0, .int .i64 ((M : Int) + 1)] w1 fun e w' => ∃ r : Nat, e = .returned (.int .i64 (r : Int)) ∧ r ≤ M ∧ ∃ m, w' = w1.drewN m := by
          by_cases z : M = 0
          · subst z
            refine (lwAt_small w1 a1 c1 X1.length 0 _ (by omega)).mono ?_
            rintro e w' ⟨rfl, rfl⟩
            exact ⟨0, rfl, Nat.le_refl _, 0, rfl⟩
          · refine (lwAt_any w1 g1 a1 c1 X1 0 ((M : Int) + 1) (hX1.up n1) bX1 q1 (by omega) (by omega) (by omega) (by omega)).mono ?_
            rintro e w' ⟨r, rfl, hr, m, rfl⟩
            exact ⟨r, rfl, by omega, m, rfl⟩
        have ATH := hide AT
        clear AT
        go_wp2_with fail
        refine ATH.out.mono ?_
        rintro e w2 ⟨R, rfl, hR, mm, rfl⟩
        have nb : Below w1.heap.size w1 (w1.drewN mm) := below_drewN (Below.refl _ _) mm
        replace ok := ok.up nb
        replace od := od.up nb
        have N2 := nxt n1 nb
        generalize w1.drewN mm = w2 at *
        clear ATH nb n1
        have LR : Hid ((expA ks ds (R : Int)).length = R) := by show _ = _; rw [expA_of ks ds (by omega), expL_len]
        have PR : Hid (expA ks ds (R : Int) = (expA ks ds (M : Int)).take R) := by show _ = _; rw [expA_of ks ds (by omega), expA_of ks ds hM]; exact expL_pre ks ds hR
        have I1 := hide (fun W g a c h p g' a' c' h' p' b => IM W g a c h p g' a' c' h' p' (M : Int) b)
        have I2 := hide (fun W g a c h p g' a' c' h' p' b => IM W g a c h p g' a' c' h' p' (R : Int) b)
        have I3 := hide (fun W g a c h p g' a' c' h' p' b => IM W g a c h p g' a' c' h' p' 32 b)
        clear IM
        generalize expA ks ds (M : Int) = LL at *
        generalize expA ks ds (R : Int) = SS at *
        generalize expA ks ds 32 = TT at *
        go_wp2_with fail
        refine (lwCopy_any w2 g2 a2 c2 ks ok.rd pk (by omega)).mono ?_
        rintro e w3 ⟨⟨a4, c4, g4, rfl, o4, p4, q4, r4⟩, n3⟩
        go_wp2_with fail
        refine (lwCopy_any w3 g3 a3 c3 ds (od.up n3).rd pd (by omega)).mono ?_
        rintro e w4 ⟨⟨a5, c5, g5, rfl, o5, p5, q5, r5⟩, n4⟩
        have N4 := nxt (nxt N2 n3) n4
        go_wp2_with fail
        refine (I1.out w4 g4 a4 c4 (o4.up n4).rd q4 g5 a5 c5 o5.rd q5 N4).mono ?_
        rintro e w5 ⟨⟨a6, c6, g6, rfl, o6, p6, q6, r6⟩, n5⟩
        have N5 := nxt N4 n5
        have ok5 := ((ok.up n3).up n4).up n5
        have od5 := ((od.up n3).up n4).up n5
        clear n3 n4 n5 o4 o5 ok od I1
        go_wp2_with fail
        refine (lwCopy_any w5 g2 a2 c2 ks ok5.rd pk (by omega)).mono ?_
        rintro e w6 ⟨⟨a7, c7, g7, rfl, o7, p7, q7, r7⟩, n6⟩
        go_wp2_with fail
        refine (lwCopy_any w6 g3 a3 c3 ds (od5.up n6).rd pd (by omega)).mono ?_
        rintro e w7 ⟨⟨a8, c8, g8, rfl, o8, p8, q8, r8⟩, n7⟩
        have N7 := nxt (nxt N5 n6) n7
        go_wp2_with fail
        refine (I2.out w7 g7 a7 c7 (o7.up n7).rd q7 g8 a8 c8 o8.rd q8 N7).mono ?_
        rintro e w8 ⟨⟨a9, c9, g9, rfl, o9, p9, q9, r9⟩, n8⟩
        have N8 := nxt N7 n8
        have ok8 := ((ok5.up n6).up n7).up n8
        have od8 := ((od5.up n6).up n7).up n8
        have oL := ((o6.up n6).up n7).up n8
        clear n6 n7 n8 o7 o8 o6 ok5 od5 I2
        have oS := oL.take R
        rw [← PR.out] at oS
        have k1 : ((LL.length : Int) == (M : Int)) = true := by rw [LM.out]; simp
        have k2 : ((SS.length : Int) == (R : Int)) = true := by rw [LR.out]; simp
        have rc : (R : Int) ≤ (c6 : Int) := by have := LM.out; omega
        have SAME := lwSame_same w8 g9 g6 a9 a6 c9 c6 SS o9.rd oS.rd
        rw [LR.out] at SAME
        have SH := hide SAME
        have lr2 := LR.out
        have lm2 := LM.out
        rw [lr2, lm2]
        clear k1 k2 SAME
        have k1 : ((M : Int) == (M : Int)) = true := by simp
        have k2 : ((R : Int) == (R : Int)) = true := by simp
        clear lr2 lm2
        go_wp2_with fail
        refine SH.out.mono ?_
        rintro e w8' ⟨rfl, rfl⟩
        go_wp2_with fail
        refine (I3.out w8' g2 a2 c2 ok8.rd qk g3 a3 c3 od8.rd qd N8).mono ?_
        rintro e w9 ⟨⟨aA, cA, gA, rfl, oA, pA, qA, rA⟩, n9⟩
        rw [E32.out]
        go_wp2
        go_ret
        exact ⟨rfl, nxt N8 n9⟩
      · have EM : Hid (expA ks ds m = []) := by show _ = _; unfold expA; rw [if_neg hin]
        have I1 := IM w1 g2 a2 c2 ok.rd qk g3 a3 c3 od.rd qd m n1
        rw [EM.out] at I1
        have IH := hide I1
        have E0 : Hid ((expA [] [] 32).length = 32) := by show _ = _; rw [show (32 : Int) = ((32 : Nat) : Int) from rfl, expA_of [] [] (by omega), expL_len]
        have I2 := hide (fun W (b : Below w.heap.size w W) => implExpand_any W 0 none 0 [] (Rd.nil _ _ _ _) byt_nil (by simp) (by simp) 0 none 0 [] (Rd.nil _ _ _ _) byt_nil (by simp) (by simp) 32 (hL.1.up b) (hL.2.up b))
        clear I1 IM
        generalize expA [] [] 32 = TT at *
        have TAIL : decide (m < 0) = true ∨ (decide (m < 0) = false ∧ decide (8160 < m) = true) := by
          by_cases z : m < 0
          · exact .inl (by simpa using z)
          · exact .inr ⟨by simpa using z, by simp; omega⟩
        rcases TAIL with s0 | ⟨s0, s1⟩
        · go_wp2_with fail
          refine IH.out.mono ?_
          rintro e w2 ⟨⟨a5, c5, g5, rfl, o5, p5, q5, r5⟩, n2⟩
          go_wp2_with fail
          refine (I2.out w2 (nxt n1 n2)).mono ?_
          rintro e w3 ⟨⟨a6, c6, g6, rfl, o6, p6, q6, r6⟩, n3⟩
          rw [E0.out]
          go_wp2
          go_ret
          exact ⟨rfl, nxt (nxt n1 n2) n3⟩
        · go_wp2_with fail
          refine IH.out.mono ?_
          rintro e w2 ⟨⟨a5, c5, g5, rfl, o5, p5, q5, r5⟩, n2⟩
          go_wp2_with fail
          refine (I2.out w2 (nxt n1 n2)).mono ?_
          rintro e w3 ⟨⟨a6, c6, g6, rfl, o6, p6, q6, r6⟩, n3⟩
          rw [E0.out]
          go_wp2
          go_ret
          exact ⟨rfl, nxt (nxt n1 n2) n3⟩
    · have u1 : decide ((1048576 : Int) < (X1.length : Int)) = true := by simp; omega
      go_enter Tryd.func5, Tryd.ntmps5
      go_wp2
      go_ret
      exact ⟨rfl, Below.refl _ _⟩
  · have u0 : decide ((1048576 : Int) < (X0.length : Int)) = true := by simp; omega
    go_enter Tryd.func5, Tryd.ntmps5
    go_wp2
    go_ret
    exact ⟨rfl, Below.refl _ _⟩
end Go.Proofs.YtljpjbojdekeiaaDoor
