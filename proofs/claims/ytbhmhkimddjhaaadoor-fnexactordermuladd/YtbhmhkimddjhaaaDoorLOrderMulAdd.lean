/-
  The law of OrderMulAdd.
-/
import Derived.Test.YtbhmhkimddjhaaaDoorOMul
namespace Go.Proofs.YtbhmhkimddjhaaaDoor
set_option maxRecDepth 100000
open Go.RowKit

set_option maxHeartbeats 4000000 in
theorem orderMulAdd_law (w : World) (g : Nat) (a : Option Addr) (ca : Nat) (xs : List Int) (ha : Rd w g a .u8 xs) (hx : Byt xs) (g' : Nat) (b : Option Addr) (cb : Nat) (us : List Int) (hb : Rd w g' b .u8 us) (hu : Byt us) (g'' : Nat) (c : Option Addr) (cc : Nat) (vs : List Int) (hc : Rd w g'' c .u8 vs) (hv : Byt vs) (hO : HasO w) :
    Calls Tryd.prog 6 #[.slice a xs.length ca, .slice b us.length cb, .slice c vs.length cc] w fun e w' => e = .returned (.bool true) ∧ Below w.heap.size w w' := by
  by_cases h1 : xs.length ≤ 1048576
  · have t1 : decide ((1048576 : Int) < (xs.length : Int)) = false := by simp; omega
    by_cases h2 : us.length ≤ 1048576
    · have t2 : decide ((1048576 : Int) < (us.length : Int)) = false := by simp; omega
      by_cases h3 : vs.length ≤ 1048576
      · have t3 : decide ((1048576 : Int) < (vs.length : Int)) = false := by simp; omega
        have hy : (omul xs us vs).length ≤ 1048576 := by have := omul_len xs us vs; omega
        obtain ⟨ys, hys⟩ : ∃ ys, ys = omul xs us vs := ⟨_, rfl⟩
        have SP := fun w g g' g'' a b c ca cb cc h h' h'' => specOrderMulAdd_any w g g' g'' a b c ca cb cc xs us vs h h' h'' hx hu hv
        have IM := fun w g g' g'' a b c ca cb cc h h' h'' o => implOrderMulAdd_any w g g' g'' a b c ca cb cc xs us vs h h' h'' hx hu hv o
        simp only [← hys] at SP IM hy
        clear hys
        go_enter Tryd.func6, Tryd.ntmps6
        go_wp2_with fail
        refine (toByteS_any w g a ca xs ha h1).mono ?_
        rintro e w1 ⟨rfl, B1, n1⟩
        go_wp2_with fail
        refine (toByteS_any w1 g' b cb us (hb.up n1) h2).mono ?_
        rintro e w1' ⟨rfl, B1', n1'⟩
        have N1 := nxt n1 n1'
        go_wp2_with fail
        refine (toByteS_any w1' g'' c cc vs (hc.up N1) h3).mono ?_
        rintro e w1'' ⟨rfl, B1'', n1''⟩
        have N1' := nxt N1 n1''
        go_wp2_with fail
        refine (SP w1'' _ _ _ _ _ _ _ _ _ ((B1.up n1').up n1'').own0.rd (B1'.up n1'').own0.rd B1''.own0.rd).mono ?_
        rintro e w2 ⟨⟨a2, c2, g2, rfl, o2, p2, q2, r2⟩, n2⟩
        have N2 := nxt N1' n2
        have l2 := o2.rd.lt
        clear B1 B1' B1'' N1 N1' n1 n1' n1'' n2
        go_wp2_with fail
        refine (toByteS_any w2 g a ca xs (ha.up N2) h1).mono ?_
        rintro e w3 ⟨rfl, B3, n3⟩
        have N3 := nxt N2 n3
        go_wp2_with fail
        refine (toByteS_any w3 g' b cb us (hb.up N3) h2).mono ?_
        rintro e w3' ⟨rfl, B3', n3'⟩
        have N3' := nxt N3 n3'
        go_wp2_with fail
        refine (toByteS_any w3' g'' c cc vs (hc.up N3') h3).mono ?_
        rintro e w3'' ⟨rfl, B3'', n3''⟩
        have N3'' := nxt N3' n3''
        have l3 := B3.lt
        have l3' := B3'.lt
        have l3'' := B3''.lt
        have z3 := n3.size
        have z3' := n3'.size
        have z2 := N2.size
        have B3a := (B3.up n3').up n3''
        have B3b := B3'.up n3''
        have o2a := ((o2.up n3).up n3').up n3''
        clear B3 B3' o2 n3 n3' n3'' N3 N3'
        go_wp2_with fail
        refine (IM w3'' _ _ _ _ _ _ _ _ _ B3a.own0.rd B3b.own0.rd B3''.own0.rd (hO.up N3'')).mono ?_
        rintro e w4 ⟨⟨a4, c4, g4, rfl, o4, p4, q4, r4⟩, n4⟩
        have N4 := nxt N3'' n4
        have o2b := o2a.up n4
        have B4 := B3a.up n4
        have B4' := B3b.up n4
        have B4'' := B3''.up n4
        clear B3a B3b B3'' o2a N3'' n4
        go_wp2_with fail
        refine (eqByteS_same w4 _ _ _ _ _ _ ys o4.rd o2b.rd hy).mono ?_
        rintro e w5 ⟨rfl, n5⟩
        have N5 := nxt N4 n5
        have o2c := o2b.up n5
        have o4a := o4.up n5
        have B5 := B4.up n5
        have B5' := B4'.up n5
        have B5'' := B4''.up n5
        clear B4 B4' B4'' o2b o4 N4 n5
        go_wp2_with fail
        refine (toByteS_any w5 g a ca xs (ha.up N5) h1).mono ?_
        rintro e wq0 ⟨rfl, Q0, nq0⟩
        go_wp2_with fail
        refine (eqByteS_same wq0 _ _ _ _ _ _ xs (B5.up nq0).own0.rd Q0.own0.rd h1).mono ?_
        rintro e wr0 ⟨rfl, nr0⟩
        have M0 := nxt (nxt N5 nq0) nr0
        have o2q0 := (o2c.up nq0).up nr0
        have o4q0 := (o4a.up nq0).up nr0
        have X0 := (B5.up nq0).up nr0
        have Y0 := (B5'.up nq0).up nr0
        have Z0 := (B5''.up nq0).up nr0
        clear B5 B5' B5'' o2c o4a Q0 N5 nq0 nr0
        go_wp2_with fail
        refine (toByteS_any wr0 g' b cb us (hb.up M0) h2).mono ?_
        rintro e wq1 ⟨rfl, Q1, nq1⟩
        go_wp2_with fail
        refine (eqByteS_same wq1 _ _ _ _ _ _ us (Y0.up nq1).own0.rd Q1.own0.rd h2).mono ?_
        rintro e wr1 ⟨rfl, nr1⟩
        have M1 := nxt (nxt M0 nq1) nr1
        have o2q1 := (o2q0.up nq1).up nr1
        have o4q1 := (o4q0.up nq1).up nr1
        have X1 := (X0.up nq1).up nr1
        have Y1 := (Y0.up nq1).up nr1
        have Z1 := (Z0.up nq1).up nr1
        clear X0 Y0 Z0 o2q0 o4q0 Q1 M0 nq1 nr1
        go_wp2_with fail
        refine (toByteS_any wr1 g'' c cc vs (hc.up M1) h3).mono ?_
        rintro e wq2 ⟨rfl, Q2, nq2⟩
        go_wp2_with fail
        refine (eqByteS_same wq2 _ _ _ _ _ _ vs (Z1.up nq2).own0.rd Q2.own0.rd h3).mono ?_
        rintro e wr2 ⟨rfl, nr2⟩
        have M2 := nxt (nxt M1 nq2) nr2
        have o2q2 := (o2q1.up nq2).up nr2
        have o4q2 := (o4q1.up nq2).up nr2
        have X2 := (X1.up nq2).up nr2
        have Y2 := (Y1.up nq2).up nr2
        have Z2 := (Z1.up nq2).up nr2
        clear X1 Y1 Z1 o2q1 o4q1 Q2 M1 nq2 nr2
        go_wp2_with fail
        refine (markByteS_any wr2 _ _ _ xs 1 X2.own0 h1 (by decide) (by decide)).mono ?_
        rintro e wA ⟨rfl, _, OA⟩
        have NA := M2.trans (OA.below (B := w.heap.size) (by omega))
        have o2f := o2q2.only OA (fun h => by have := l2 h; omega)
        have o4d := o4q2.only OA (fun h => by omega)
        have BA' := Y2.own0.only OA (fun h => by omega)
        have BA'' := Z2.own0.only OA (fun h => by omega)
        clear X2 Y2 Z2 o2q2 o4q2 M2 OA
        go_wp2_with fail
        refine (markByteS_any wA _ _ _ us (1 + (xs.length : Int)) BA' h2 (by omega) (by omega)).mono ?_
        rintro e wB ⟨rfl, _, OB⟩
        have NB := NA.trans (OB.below (B := w.heap.size) (by omega))
        have o2g := o2f.only OB (fun h => by have := l2 h; omega)
        have o4e := o4d.only OB (fun h => by omega)
        have BB'' := BA''.only OB (fun h => by omega)
        clear BA' BA'' o2f o4d NA OB
        go_wp2_with fail
        refine (markByteS_any wB _ _ _ vs (1 + (xs.length : Int) + (us.length : Int)) BB'' h3 (by omega) (by omega)).mono ?_
        rintro e wX ⟨rfl, _, OX⟩
        have NX := NB.trans (OX.below (B := w.heap.size) (by omega))
        have o2y := o2g.only OX (fun h => by have := l2 h; omega)
        have o4y := o4e.only OX (fun h => by omega)
        have t4 : decide ((1 : Int) + (xs.length : Int) + (us.length : Int) + (vs.length : Int) < 0) = false := by simp; omega
        clear BB'' o2g o4e NB OX
        go_wp2_with fail
        refine (eqByteS_same wX _ _ _ _ _ _ ys o4y.rd o2y.rd hy).mono ?_
        rintro e wC ⟨rfl, nC⟩
        have NC := nxt NX nC
        have o2h := o2y.up nC
        have o4f := o4y.up nC
        clear o2y o4y NX nC
        go_wp2_with fail
        refine (markByteS_any wC _ _ _ ys 1 o4f hy (by decide) (by decide)).mono ?_
        rintro e wD ⟨rfl, oD, OD⟩
        have ND := NC.trans (OD.below (B := w.heap.size) (by omega))
        have o2i := o2h.only OD (fun h => by have := l2 h; omega)
        have t5 : decide ((1 : Int) + (ys.length : Int) < 0) = false := by simp; omega
        clear o2h o4f NC OD
        go_wp2_with fail
        refine (heldByteS_any wD _ _ _ ys.length 1 oD.rd hy (by decide) (by decide)).mono ?_
        rintro e wD' ⟨rfl, rfl⟩
        go_wp2_with fail
        refine (toByteS_any wD' g a ca xs (ha.up ND) h1).mono ?_
        rintro e wE ⟨rfl, BE, nE⟩
        have NE := nxt ND nE
        go_wp2_with fail
        refine (toByteS_any wE g' b cb us (hb.up NE) h2).mono ?_
        rintro e wF ⟨rfl, BF, nF⟩
        have NF := nxt NE nF
        go_wp2_with fail
        refine (toByteS_any wF g'' c cc vs (hc.up NF) h3).mono ?_
        rintro e wK ⟨rfl, BK, nK⟩
        have NK := nxt NF nK
        go_wp2_with fail
        refine (IM wK _ _ _ _ _ _ _ _ _ ((BE.up nF).up nK).own0.rd (BF.up nK).own0.rd BK.own0.rd (hO.up NK)).mono ?_
        rintro e wG ⟨⟨aG, cG, gG, rfl, oG, pG, qG, rG⟩, nG⟩
        have o2j := (((o2i.up nE).up nF).up nK).up nG
        have oDg := (((oD.up nE).up nF).up nK).up nG
        go_wp2_with fail
        refine (eqByteS_same wG _ _ _ _ _ _ ys oG.rd o2j.rd hy).mono ?_
        rintro e wH ⟨rfl, nH⟩
        go_wp2_with fail
        refine (heldByteS_any wH _ _ _ ys.length 1 (oDg.up nH).rd hy (by decide) (by decide)).mono ?_
        rintro e wH' ⟨rfl, rfl⟩
        go_wp2
        go_ret
        exact ⟨rfl, nxt (nxt NK nG) nH⟩
      · have t3 : decide ((1048576 : Int) < (vs.length : Int)) = true := by simp; omega
        go_enter Tryd.func6, Tryd.ntmps6
        go_wp2
        go_ret
        exact ⟨rfl, Below.refl _ _⟩
    · have t2 : decide ((1048576 : Int) < (us.length : Int)) = true := by simp; omega
      go_enter Tryd.func6, Tryd.ntmps6
      go_wp2
      go_ret
      exact ⟨rfl, Below.refl _ _⟩
  · have t1 : decide ((1048576 : Int) < (xs.length : Int)) = true := by simp; omega
    go_enter Tryd.func6, Tryd.ntmps6
    go_wp2
    go_ret
    exact ⟨rfl, Below.refl _ _⟩
end Go.Proofs.YtbhmhkimddjhaaaDoor
