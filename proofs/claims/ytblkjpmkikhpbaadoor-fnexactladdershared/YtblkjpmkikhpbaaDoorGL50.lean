import Derived.Test.YtblkjpmkikhpbaaDoorGL49
import Derived.Test.YtblkjpmkikhpbaaDoorGL47

/-
  The law of LadderShared.
-/
namespace Go.Proofs.YtblkjpmkikhpbaaDoor
set_option maxRecDepth 100000
open Go.RowKit

set_option maxHeartbeats 4000000 in
theorem shared_law (w : World) (g : Nat) (a : Option Addr) (ca : Nat) (xs : List Int) (ha : Rd w g a .u8 xs) (hx : Byt xs) (g' : Nat) (b : Option Addr) (cb : Nat) (us : List Int) (hb : Rd w g' b .u8 us) (hu : Byt us) (hL : HasL w) :
    Calls Tryd.prog 5 #[.slice a xs.length ca, .slice b us.length cb] w fun e w' => e = .returned (.bool true) ∧ Below w.heap.size w w' := by
  by_cases h1 : xs.length ≤ 1048576
  · have t1 : decide ((1048576 : Int) < (xs.length : Int)) = false := by simp; omega
    by_cases h2 : us.length ≤ 1048576
    · have t2 : decide ((1048576 : Int) < (us.length : Int)) = false := by simp; omega
      have hy : (shL xs us).length ≤ 1048576 := by
        unfold shL
        split
        · have := ladA_len xs us
          omega
        · simp
      have SP := fun w g g' a b c c' h h' p p' => specShared_any w g g' a b c c' xs us h h' hx hu p p'
      have IM := fun W n g g' a b c c' h h' => implShared_any W g g' a b c c' xs us h h' hx hu (hL.up n)
      obtain ⟨t, ht⟩ : ∃ t, t = shB xs us := ⟨_, rfl⟩
      obtain ⟨ys, hys⟩ : ∃ ys, ys = shL xs us := ⟨_, rfl⟩
      simp only [← hys, ← ht] at SP IM hy
      clear hys ht
      go_enter Tryd.func5, Tryd.ntmps5
      go_wp2_with fail
      refine (toByteS_any w g a ca xs ha h1).mono ?_
      rintro e w1 ⟨rfl, B1, n1⟩
      go_wp2_with fail
      refine (toByteS_any w1 g' b cb us (hb.up n1) h2).mono ?_
      rintro e w2 ⟨rfl, B2, n2⟩
      have N2 := nxt n1 n2
      have l2 := B2.lt
      go_wp2_with fail
      refine (SP w2 _ _ _ _ _ _ (B1.up n2).own0.rd B2.own0.rd (by simp) (by simp)).mono ?_
      rintro e w3 ⟨NR, n3⟩
      obtain ⟨a3, c3, g3, rfl, o3, p3, q3, r3⟩ := NR.at (B' := w1.heap.size) (by omega) (by have := n3.size; omega)
      have N3 := nxt N2 n3
      have T5 := Two.new w3 (.bool t) (.slice a3 ys.length c3) 29
      have n4 : Below w3.heap.size w3 (w3.alloc (.cells #[.bool t, .slice a3 ys.length c3] 29)) := (Below.refl _ _).alloc (Nat.le_refl _) _
      have z4 : (w3.alloc (.cells #[.bool t, .slice a3 ys.length c3] 29)).heap.size = w3.heap.size + 1 := by simp
      clear B1 B2 n1 n2 n3 NR
      go_wp2_with fail
      generalize w3.alloc (.cells #[.bool t, .slice a3 ys.length c3] 29) = w4 at *
      have N4 := nxt N3 n4
      have o4 := o3.up n4
      have Z4 := hide z4
      clear z4 o3 n4
      refine (toByteS_any w4 g a ca xs (ha.up N4) h1).mono ?_
      rintro e w5 ⟨rfl, B5, n5⟩
      have N5 := nxt N4 n5
      go_wp2_with fail
      refine (toByteS_any w5 g' b cb us (hb.up N5) h2).mono ?_
      rintro e w6 ⟨rfl, B6, n6⟩
      have N6 := nxt N5 n6
      have l6 := B6.lt
      have B5' := B5.up n6
      go_wp2_with fail
      refine (IM w6 N6 _ _ _ _ _ _ B5'.own0.rd B6.own0.rd).mono ?_
      rintro e w7 ⟨NR, n7⟩
      obtain ⟨a7, c7, g7, rfl, o7, p7, q7, r7⟩ := NR.at (B' := w5.heap.size) (by have := n6.size; omega) (by have := n7.size; omega)
      have N7 := nxt N6 n7
      have T8 := Two.new w7 (.bool t) (.slice a7 ys.length c7) 29
      have n8 : Below w7.heap.size w7 (w7.alloc (.cells #[.bool t, .slice a7 ys.length c7] 29)) := (Below.refl _ _).alloc (Nat.le_refl _) _
      have s5 := n5.size
      have s6 := n6.size
      have s7 := n7.size
      have l5 := B5.lt
      have n47 := nxt (nxt n5 n6) n7
      have o7a := o4.up n47
      have T5a := T5.up n47
      have B7x := B5'.up n7
      have B7y := B6.up n7
      clear o4 T5 B5 B5' B6 n5 n6 n7 n47 N4 N5 N6 NR
      have T5b := T5a.up n8
      have c50 := T5b.c0
      have c51 := T5b.c1
      have c50' := T5a.c0
      have c51' := T5a.c1
      have l37 : w3.heap.size < w7.heap.size := T5a.lt
      go_wp2_with fail
      generalize w7.alloc (.cells #[.bool t, .slice a7 ys.length c7] 29) = w8 at *
      have N8 := nxt N7 n8
      have o3b := o7a.up n8
      have o7b := o7.up n8
      have Bx := B7x.up n8
      have By := B7y.up n8
      have lp8 := T8.lt
      clear T5a o7a o7 B7x B7y n8 N7 c50 c51 c50' c51'
      refine (eqSharedResult_same w8 t _ _ _ _ _ _ ys o7b.rd o3b.rd hy).mono ?_
      rintro e w9 ⟨rfl, n9⟩
      have N9 := nxt N8 n9
      go_wp2_with fail
      refine (toByteS_any w9 g a ca xs (ha.up N9) h1).mono ?_
      rintro e wA ⟨rfl, BA, nA⟩
      have n8A := nxt n9 nA
      go_wp2_with fail
      refine (eqByteS_same wA _ _ _ _ _ _ xs (Bx.up n8A).own0.rd BA.own0.rd h1).mono ?_
      rintro e wB ⟨rfl, nB⟩
      have n8B := nxt n8A nB
      have NB := nxt N8 n8B
      clear BA n9 nA nB n8A N9
      go_wp2_with fail
      refine (toByteS_any wB g' b cb us (hb.up NB) h2).mono ?_
      rintro e wC ⟨rfl, BC, nC⟩
      have n8C := nxt n8B nC
      go_wp2_with fail
      refine (eqByteS_same wC _ _ _ _ _ _ us (By.up n8C).own0.rd BC.own0.rd h2).mono ?_
      rintro e wD ⟨rfl, nD⟩
      have n8D := nxt n8C nD
      have ND := nxt N8 n8D
      have T5d := T5b.up n8D
      have T8d := T8.up n8D
      have o3d := o3b.up n8D
      have o7d := o7b.up n8D
      have Bxd := Bx.up n8D
      have Byd := By.up n8D
      clear BC nC nD n8B n8C n8D NB N8 T5b T8 o3b o7b Bx By
      have sN := N3.size
      go_wp2_with fail
      have z4 := Z4.out
      refine (markByteS_any wD _ _ _ xs 1 Bxd.own0 h1 (by decide) (by decide)).mono ?_
      rintro e wE ⟨rfl, _, OE⟩
      have NE := ND.trans (OE.below (B := w.heap.size) (by omega))
      have ByE := Byd.of_block (OE.block _ (by omega))
      have T5e := T5d.only OE (by omega)
      have T8e := T8d.only OE (by omega)
      have o3e := o3d.only OE (fun _ => by omega)
      have o7e := o7d.only OE (fun h => by have := r7 h; omega)
      clear Bxd Byd T5d T8d o3d o7d ND OE z4
      go_wp2_with fail
      refine (markByteS_any wE _ _ _ us _ ByE.own0 h2 (by omega) (by omega)).mono ?_
      rintro e wF ⟨rfl, _, OF⟩
      have z4 := Z4.out
      have NF := NE.trans (OF.below (B := w.heap.size) (by omega))
      have T5f := T5e.only OF (by omega)
      have T8f := T8e.only OF (by omega)
      have o3f := o3e.only OF (fun _ => by omega)
      have o7f := o7e.only OF (fun h => by have := r7 h; omega)
      have t3 : decide ((1 : Int) + (xs.length : Int) + (us.length : Int) < 0) = false := by simp; omega
      have c50 := T5f.c0
      have c51 := T5f.c1
      have c80 := T8f.c0
      have c81 := T8f.c1
      clear ByE T5e T8e o3e o7e NE OF z4
      go_wp2_with fail
      refine (eqSharedResult_same wF t _ _ _ _ _ _ ys o7f.rd o3f.rd hy).mono ?_
      rintro e wG ⟨rfl, nG⟩
      have NG := nxt NF nG
      have T5g := T5f.up nG
      have T8g := T8f.up nG
      have o3g := o3f.up nG
      have o7g := o7f.up nG
      clear c50 c51 c80 c81 T5f T8f o3f o7f NF nG
      have c80 := T8g.c0
      have c81 := T8g.c1
      go_wp2_with fail
      refine (markSharedResult_any wG t g7 _ _ ys 1 o7g hy (by decide) (by decide)).mono ?_
      rintro e wH ⟨rfl, oH, OH⟩
      have z4 := Z4.out
      have sG := NG.size
      have NH := NG.trans (OH.below (B := w.heap.size) (by omega) (by omega))
      have T5h := T5g.but OH (by omega)
      have T8h := T8g.but OH (by omega)
      have o3h := o3g.but OH (fun _ => by omega)
      clear c80 c81 T5g T8g o3g o7g NG OH z4 sG
      have c80 := T8h.c0
      have c81 := T8h.c1
      have t4 : decide ((1 : Int) + (ys.length : Int) < 0) = false := by simp; omega
      go_wp2_with fail
      refine (heldSharedResult_any wH t g7 _ _ ys.length 1 oH.rd hy (by decide) (by decide)).mono ?_
      rintro e wI ⟨rfl, nI⟩
      have NI := nxt NH nI
      clear c80 c81
      go_wp2_with fail
      refine (toByteS_any wI g a ca xs (ha.up NI) h1).mono ?_
      rintro e wJ ⟨rfl, BJ, nJ⟩
      have NJ := nxt NI nJ
      go_wp2_with fail
      refine (toByteS_any wJ g' b cb us (hb.up NJ) h2).mono ?_
      rintro e wK ⟨rfl, BK, nK⟩
      have NK := nxt NJ nK
      go_wp2_with fail
      refine (IM wK NK _ _ _ _ _ _ (BJ.up nK).own0.rd BK.own0.rd).mono ?_
      rintro e wL ⟨⟨aL, cL, gL, rfl, oL, _, _, _⟩, nL⟩
      have NL := nxt NK nL
      have nHL := nxt (nxt (nxt nI nJ) nK) nL
      have T5l := T5h.up nHL
      have T8l := T8h.up nHL
      have o3l := o3h.up nHL
      have oHl := oH.up nHL
      clear BJ BK T5h T8h o3h oH nI nJ nK nL nHL NI NJ NK NH
      have nM : Below wL.heap.size wL (wL.alloc (.cells #[.bool t, .slice aL ys.length cL] 29)) := (Below.refl _ _).alloc (Nat.le_refl _) _
      have T5m := T5l.up nM
      have c50 := T5m.c0
      have c51 := T5m.c1
      have c50' := T5l.c0
      have c51' := T5l.c1
      have l3L : w3.heap.size < wL.heap.size := T5l.lt
      go_wp2_with fail
      have NM := nxt NL nM
      have T8m := T8l.up nM
      have o3m := o3l.up nM
      have oLm := oL.up nM
      have oHm := oHl.up nM
      generalize wL.alloc (.cells #[.bool t, .slice aL ys.length cL] 29) = wM at *
      clear T5l T8l o3l oL oHl nM NL c50 c51 c50' c51'
      refine (eqSharedResult_same wM t _ _ _ _ _ _ ys oLm.rd o3m.rd hy).mono ?_
      rintro e wN ⟨rfl, nN⟩
      have T8n := T8m.up nN
      have c80 := T8n.c0
      have c81 := T8n.c1
      go_wp2_with fail
      refine (heldSharedResult_any wN t g7 _ _ ys.length 1 (oHm.up nN).rd hy (by decide) (by decide)).mono ?_
      rintro e wO ⟨rfl, nO⟩
      go_wp2
      go_ret
      exact ⟨rfl, nxt (nxt NM nN) nO⟩
    · have t2 : decide ((1048576 : Int) < (us.length : Int)) = true := by simp; omega
      go_enter Tryd.func5, Tryd.ntmps5
      go_wp2
      go_ret
      exact ⟨rfl, Below.refl _ _⟩
  · have t1 : decide ((1048576 : Int) < (xs.length : Int)) = true := by simp; omega
    go_enter Tryd.func5, Tryd.ntmps5
    go_wp2
    go_ret
    exact ⟨rfl, Below.refl _ _⟩
end Go.Proofs.YtblkjpmkikhpbaaDoor
