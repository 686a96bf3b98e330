/-
  The law of FieldSub.
-/
import Derived.Test.YtgecfmagpliepaaDoorFSub
namespace Go.Proofs.YtgecfmagpliepaaDoor
set_option maxRecDepth 100000
open Go.RowKit

set_option maxHeartbeats 4000000 in
theorem fieldSub_law (w : World) (g : Nat) (a : Option Addr) (ca : Nat) (xs : List Int) (ha : Rd w g a .u8 xs) (hx : Byt xs) (g' : Nat) (b : Option Addr) (cb : Nat) (us : List Int) (hb : Rd w g' b .u8 us) (hu : Byt us) (hT : HasTw w 0) :
    Calls Tryd.prog 3 #[.slice a xs.length ca, .slice b us.length cb] w fun e w' => e = .returned (.bool true) ∧ Below w.heap.size w w' := by
  by_cases h1 : xs.length ≤ 1048576
  · have t1 : decide ((1048576 : Int) < (xs.length : Int)) = false := by simp; omega
    by_cases h2 : us.length ≤ 1048576
    · have t2 : decide ((1048576 : Int) < (us.length : Int)) = false := by simp; omega
      have hy : (fsub xs us).length ≤ 1048576 := by have := fsub_len xs us; omega
      obtain ⟨ys, hys⟩ : ∃ ys, ys = fsub xs us := ⟨_, rfl⟩
      have SP := fun w g g' a b ca cb h h' => specFieldSub_any w g g' a b ca cb xs us h h' hx hu
      have IM := fun w g g' a b ca cb h h' t => implFieldSub_any w g g' a b ca cb xs us h h' hx hu t
      simp only [← hys] at SP IM hy
      clear hys
      go_enter Tryd.func3, Tryd.ntmps3
      go_wp2_with fail
      refine (toByteS_any w g a ca xs ha h1).mono ?_
      rintro e w1 ⟨rfl, B1, n1⟩
      go_wp2_with fail
      refine (toByteS_any w1 g' b cb us (hb.up n1) h2).mono ?_
      rintro e w1' ⟨rfl, B1', n1'⟩
      have N1 := nxt n1 n1'
      go_wp2_with fail
      refine (SP w1' _ _ _ _ _ _ (B1.up n1').own0.rd B1'.own0.rd).mono ?_
      rintro e w2 ⟨⟨a2, c2, g2, rfl, o2, p2, q2, r2⟩, n2⟩
      have N2 := nxt N1 n2
      have l2 := o2.rd.lt
      clear B1 B1' N1 n1 n1' n2
      go_wp2_with fail
      refine (toByteS_any w2 g a ca xs (ha.up N2) h1).mono ?_
      rintro e w3 ⟨rfl, B3, n3⟩
      have N3 := nxt N2 n3
      go_wp2_with fail
      refine (toByteS_any w3 g' b cb us (hb.up N3) h2).mono ?_
      rintro e w3' ⟨rfl, B3', n3'⟩
      have N3' := nxt N3 n3'
      have l3 := B3.lt
      have l3' := B3'.lt
      have z3 := n3.size
      have B3a := B3.up n3'
      have o2a := (o2.up n3).up n3'
      clear B3 o2 n3 n3' N3
      go_wp2_with fail
      refine (IM w3' _ _ _ _ _ _ B3a.own0.rd B3'.own0.rd (hT.up N3')).mono ?_
      rintro e w4 ⟨⟨a4, c4, g4, rfl, o4, p4, q4, r4⟩, n4⟩
      have N4 := nxt N3' n4
      have o2b := o2a.up n4
      have B4 := B3a.up n4
      have B4' := B3'.up n4
      clear B3a B3' o2a N3' n4
      go_wp2_with fail
      refine (eqByteS_same w4 _ _ _ _ _ _ ys o4.rd o2b.rd hy).mono ?_
      rintro e w5 ⟨rfl, n5⟩
      have N5 := nxt N4 n5
      have o2c := o2b.up n5
      have o4a := o4.up n5
      have B5 := B4.up n5
      have B5' := B4'.up n5
      clear B4 B4' o2b o4 N4 n5
      go_wp2_with fail
      refine (toByteS_any w5 g a ca xs (ha.up N5) h1).mono ?_
      rintro e w6 ⟨rfl, B6, n6⟩
      go_wp2_with fail
      refine (eqByteS_same w6 _ _ _ _ _ _ xs (B5.up n6).own0.rd B6.own0.rd h1).mono ?_
      rintro e w7 ⟨rfl, n7⟩
      have N7 := nxt (nxt N5 n6) n7
      have o2d := (o2c.up n6).up n7
      have o4b := (o4a.up n6).up n7
      have B7 := (B5.up n6).up n7
      have B7' := (B5'.up n6).up n7
      clear B5 B5' B6 o2c o4a N5 n6 n7
      go_wp2_with fail
      refine (toByteS_any w7 g' b cb us (hb.up N7) h2).mono ?_
      rintro e w8 ⟨rfl, B8, n8⟩
      go_wp2_with fail
      refine (eqByteS_same w8 _ _ _ _ _ _ us (B7'.up n8).own0.rd B8.own0.rd h2).mono ?_
      rintro e w9 ⟨rfl, n9⟩
      have N9 := nxt (nxt N7 n8) n9
      have o2e := (o2d.up n8).up n9
      have o4c := (o4b.up n8).up n9
      have B9 := (B7.up n8).up n9
      have B9' := (B7'.up n8).up n9
      clear B7 B7' B8 o2d o4b N7 n8 n9
      go_wp2_with fail
      refine (markByteS_any w9 _ _ _ xs 1 B9.own0 h1 (by decide) (by decide)).mono ?_
      rintro e wA ⟨rfl, _, OA⟩
      have NA := N9.trans (OA.below (B := w.heap.size) N2.size)
      have o2f := o2e.only OA (fun h => by have := l2 h; omega)
      have o4d := o4c.only OA (fun h => by omega)
      have BA' := B9'.own0.only OA (fun h => by omega)
      clear B9 B9' o2e o4c N9 OA
      go_wp2_with fail
      refine (markByteS_any wA _ _ _ us (1 + (xs.length : Int)) BA' h2 (by omega) (by omega)).mono ?_
      rintro e wB ⟨rfl, _, OB⟩
      have NB := NA.trans (OB.below (B := w.heap.size) (by have := N2.size; omega))
      have o2g := o2f.only OB (fun h => by have := l2 h; omega)
      have o4e := o4d.only OB (fun h => by omega)
      have t3 : decide ((1 : Int) + (xs.length : Int) + (us.length : Int) < 0) = false := by simp; omega
      clear BA' o2f o4d NA OB
      go_wp2_with fail
      refine (eqByteS_same wB _ _ _ _ _ _ ys o4e.rd o2g.rd hy).mono ?_
      rintro e wC ⟨rfl, nC⟩
      have NC := nxt NB nC
      have o2h := o2g.up nC
      have o4f := o4e.up nC
      clear o2g o4e NB nC
      go_wp2_with fail
      refine (markByteS_any wC _ _ _ ys 1 o4f hy (by decide) (by decide)).mono ?_
      rintro e wD ⟨rfl, oD, OD⟩
      have ND := NC.trans (OD.below (B := w.heap.size) (by have := N2.size; omega))
      have o2i := o2h.only OD (fun h => by have := l2 h; omega)
      have t4 : decide ((1 : Int) + (ys.length : Int) < 0) = false := by simp; omega
      clear o2h o4f NC OD
      go_wp2_with fail
      refine (heldByteS_any wD _ _ _ ys.length 1 oD.rd hy (by decide) (by decide)).mono ?_
      rintro e wD' ⟨rfl, rfl⟩
      go_wp2_with fail
      refine (toByteS_any wD' g a ca xs (ha.up ND) h1).mono ?_
      rintro e wE ⟨rfl, BE, nE⟩
      have NE := nxt ND nE
      go_wp2_with fail
      refine (toByteS_any wE g' b cb us (hb.up NE) h2).mono ?_
      rintro e wF ⟨rfl, BF, nF⟩
      go_wp2_with fail
      refine (IM wF _ _ _ _ _ _ (BE.up nF).own0.rd BF.own0.rd (hT.up (nxt NE nF))).mono ?_
      rintro e wG ⟨⟨aG, cG, gG, rfl, oG, pG, qG, rG⟩, nG⟩
      have o2j := ((o2i.up nE).up nF).up nG
      have oDg := ((oD.up nE).up nF).up nG
      go_wp2_with fail
      refine (eqByteS_same wG _ _ _ _ _ _ ys oG.rd o2j.rd hy).mono ?_
      rintro e wH ⟨rfl, nH⟩
      go_wp2_with fail
      refine (heldByteS_any wH _ _ _ ys.length 1 (oDg.up nH).rd hy (by decide) (by decide)).mono ?_
      rintro e wH' ⟨rfl, rfl⟩
      go_wp2
      go_ret
      exact ⟨rfl, nxt (nxt (nxt NE nF) nG) nH⟩
    · have t2 : decide ((1048576 : Int) < (us.length : Int)) = true := by simp; omega
      go_enter Tryd.func3, Tryd.ntmps3
      go_wp2
      go_ret
      exact ⟨rfl, Below.refl _ _⟩
  · have t1 : decide ((1048576 : Int) < (xs.length : Int)) = true := by simp; omega
    go_enter Tryd.func3, Tryd.ntmps3
    go_wp2
    go_ret
    exact ⟨rfl, Below.refl _ _⟩
end Go.Proofs.YtgecfmagpliepaaDoor
