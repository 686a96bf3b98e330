/-
  The law of NumPower.
-/
import Derived.Test.YthdjopkmlcdoeaaResH
import Derived.Test.YthdjopkmlcdoeaaPowJ
import Derived.Test.YthdjopkmlcdoeaaPowS
namespace Go.Proofs.Ythdjopkmlcdoeaa
open Go.RowKit

/-- A row that is not read may be said to lie anywhere. -/
theorem NewRes.at {B B' : Nat} {w : World} {e : Ending} {b : Bool} {ys : List Int} (h : NewRes B w e b ys) (h1 : B' ≤ B) (h2 : B' < w.heap.size) :
    ∃ (a : Option Addr) (c g : Nat), e = .returned (.agg #[.bool b, .slice a ys.length c]) ∧ Own w g a .u8 ys ∧ B' ≤ g ∧ g < w.heap.size ∧ (0 < ys.length → B ≤ g) := by
  obtain ⟨a, c, g, he, o, _, _, hg⟩ := h
  by_cases h0 : 0 < ys.length
  · exact ⟨a, c, g, he, o, by omega, o.rd.lt h0, fun _ => hg⟩
  · obtain rfl : ys = [] := List.eq_nil_of_length_eq_zero (by omega)
    exact ⟨a, c, B', he, Own.nil _ _ _ _, Nat.le_refl _, h2, fun h => absurd h (by simp)⟩

set_option maxHeartbeats 4000000 in
theorem numPower_law (w : World) (g : Nat) (a : Option Addr) (ca : Nat) (xs : List Int) (ha : Rd w g a .u8 xs) (hx : Byt xs) (g' : Nat) (b : Option Addr) (cb : Nat) (us : List Int) (hb : Rd w g' b .u8 us) (hu : Byt us) (g'' : Nat) (d : Option Addr) (cd : Nat) (ms : List Int) (hd : Rd w g'' d .u8 ms) (hm : Byt ms) :
    Calls Try.prog 10 #[.slice a xs.length ca, .slice b us.length cb, .slice d ms.length cd] w fun e w' => e = .returned (.bool true) ∧ Below w.heap.size w w' := by
  by_cases h1 : xs.length ≤ 1048576
  · have t1 : decide ((1048576 : Int) < (xs.length : Int)) = false := by simp; omega
    by_cases h2 : us.length ≤ 1048576
    · have t2 : decide ((1048576 : Int) < (us.length : Int)) = false := by simp; omega
      by_cases h3 : ms.length ≤ 1048576
      · have t3 : decide ((1048576 : Int) < (ms.length : Int)) = false := by simp; omega
        go_enter Try.func10, Try.ntmps10
        go_wp2_with fail
        refine (toByteS_any w g a ca xs ha h1).mono ?_
        rintro e w1 ⟨rfl, B1, n1⟩
        go_wp2_with fail
        refine (toByteS_any w1 g' b cb us (hb.up n1) h2).mono ?_
        rintro e w2 ⟨rfl, B2, n2⟩
        have N2 := nxt n1 n2
        go_wp2_with fail
        refine (toByteS_any w2 g'' d cd ms (hd.up N2) h3).mono ?_
        rintro e w2' ⟨rfl, B2', n2'⟩
        have N2' := nxt N2 n2'
        have l2 := B2'.lt
        have l2z := n2.size
        go_wp2_with fail
        refine (specNumPower_any w2' _ _ _ _ _ _ _ _ _ xs us ms ((B1.up n2).up n2').own0.rd (B2.up n2').own0.rd B2'.own0.rd hx hu hm (fun h => by cases h) (Nat.le_refl _) (fun h => by cases h) (Nat.le_refl _)).mono ?_
        rintro e w3 ⟨t, ys, Y, NR, n3⟩
        obtain ⟨a3, c3, g3, rfl, o3, p3, q3, r3⟩ := NR.at (B' := w1.heap.size) (by have := B2'.lt; have := n2'.size; omega) (by have := n3.size; omega)
        have N3 := nxt N2' n3
        have hy : ys.length ≤ 1048576 := by have := Y.len; omega
        have T5 := Two.new w3 (.bool t) (.slice a3 ys.length c3) 31
        have n4 : Below w3.heap.size w3 (w3.alloc (.cells #[.bool t, .slice a3 ys.length c3] 31)) := (Below.refl _ _).alloc (Nat.le_refl _) _
        have z4 : (w3.alloc (.cells #[.bool t, .slice a3 ys.length c3] 31)).heap.size = w3.heap.size + 1 := by simp
        clear B1 B2 B2' n1 n2 n2' n3 NR l2
        go_wp2_with fail
        generalize w3.alloc (.cells #[.bool t, .slice a3 ys.length c3] 31) = w4 at *
        have N4 := nxt N3 n4
        have o4 := o3.up n4
        have Z4 := hide z4
        clear z4 o3 n4
        refine (toByteS_any w4 g a ca xs (ha.up N4) h1).mono ?_
        rintro e w5 ⟨rfl, B5, n5⟩
        have N5 := nxt N4 n5
        go_wp2_with fail
        refine (toByteS_any w5 g' b cb us (hb.up N5) h2).mono ?_
        rintro e w6 ⟨rfl, B6, n6⟩
        have N6 := nxt N5 n6
        have l6 := B6.lt
        go_wp2_with fail
        refine (toByteS_any w6 g'' d cd ms (hd.up N6) h3).mono ?_
        rintro e w6' ⟨rfl, B6', n6'⟩
        have N6' := nxt N6 n6'
        have l6' := B6'.lt
        have B5' := (B5.up n6).up n6'
        have B6a := B6.up n6'
        go_wp2_with fail
        refine (implNumPower_any w6' _ _ _ _ _ _ _ _ _ xs us ms B5'.own0.rd B6a.own0.rd B6'.own0.rd hx hu hm).mono ?_
        rintro e w7 ⟨t', ys', Y', NR, n7⟩
        obtain ⟨rfl, rfl⟩ := Y'.uniq Y
        obtain ⟨a7, c7, g7, rfl, o7, p7, q7, r7⟩ := NR.at (B' := w6.heap.size) (by have := n6'.size; omega) (by have := n7.size; omega)
        have N7 := nxt N6' n7
        have T8 := Two.new w7 (.bool t') (.slice a7 ys'.length c7) 31
        have n8 : Below w7.heap.size w7 (w7.alloc (.cells #[.bool t', .slice a7 ys'.length c7] 31)) := (Below.refl _ _).alloc (Nat.le_refl _) _
        have s5 := n5.size
        have s6 := n6.size
        have s6' := n6'.size
        have s7 := n7.size
        have l5 := B5.lt
        have n47 := nxt (nxt (nxt n5 n6) n6') n7
        have o7a := o4.up n47
        have T5a := T5.up n47
        have B7x := B5'.up n7
        have B7y := B6a.up n7
        have B7m := B6'.up n7
        clear o4 T5 B5 B5' B6 B6a B6' n5 n6 n6' n7 n47 N4 N5 N6 N6' NR
        have T5b := T5a.up n8
        have c50 := T5b.c0
        have c51 := T5b.c1
        have c50' := T5a.c0
        have c51' := T5a.c1
        have l37 : w3.heap.size < w7.heap.size := T5a.lt
        go_wp2_with fail
        generalize w7.alloc (.cells #[.bool t', .slice a7 ys'.length c7] 31) = w8 at *
        have N8 := nxt N7 n8
        have o3b := o7a.up n8
        have o7b := o7.up n8
        have Bx := B7x.up n8
        have By := B7y.up n8
        have Bm := B7m.up n8
        have lp8 := T8.lt
        clear T5a o7a o7 B7x B7y B7m n8 N7 c50 c51 c50' c51'
        refine (eqNumResult_same w8 t' _ _ _ _ _ _ ys' o7b.rd o3b.rd hy).mono ?_
        rintro e w9 ⟨rfl, n9⟩
        have N9 := nxt N8 n9
        go_wp2_with fail
        refine (toByteS_any w9 g a ca xs (ha.up N9) h1).mono ?_
        rintro e wA ⟨rfl, BA, nA⟩
        have n8A := nxt n9 nA
        go_wp2_with fail
        refine (eqByteS_same wA _ _ _ _ _ _ xs (Bx.up n8A).own0.rd BA.own0.rd h1).mono ?_
        rintro e wB ⟨rfl, nB⟩
        have n8B := nxt n8A nB
        have NB := nxt N8 n8B
        clear BA n9 nA nB n8A N9
        go_wp2_with fail
        refine (toByteS_any wB g' b cb us (hb.up NB) h2).mono ?_
        rintro e wC ⟨rfl, BC, nC⟩
        have n8C := nxt n8B nC
        go_wp2_with fail
        refine (eqByteS_same wC _ _ _ _ _ _ us (By.up n8C).own0.rd BC.own0.rd h2).mono ?_
        rintro e wD0 ⟨rfl, nD0⟩
        have n8D0 := nxt n8C nD0
        have ND0 := nxt N8 n8D0
        go_wp2_with fail
        refine (toByteS_any wD0 g'' d cd ms (hd.up ND0) h3).mono ?_
        rintro e wD1 ⟨rfl, BD1, nD1⟩
        have n8D1 := nxt n8D0 nD1
        go_wp2_with fail
        refine (eqByteS_same wD1 _ _ _ _ _ _ ms (Bm.up n8D1).own0.rd BD1.own0.rd h3).mono ?_
        rintro e wD ⟨rfl, nD⟩
        have n8D := nxt n8D1 nD
        have ND := nxt N8 n8D
        have T5d := T5b.up n8D
        have T8d := T8.up n8D
        have o3d := o3b.up n8D
        have o7d := o7b.up n8D
        have Bxd := Bx.up n8D
        have Byd := By.up n8D
        have Bmd := Bm.up n8D
        clear BC BD1 nC nD nD0 nD1 n8B n8C n8D n8D0 n8D1 NB ND0 N8 T5b T8 o3b o7b Bx By Bm
        have sN := N3.size
        go_wp2_with fail
        have z4 := Z4.out
        refine (markByteS_any wD _ _ _ xs 1 Bxd.own0 h1 (by decide) (by decide)).mono ?_
        rintro e wE ⟨rfl, _, OE⟩
        have NE := ND.trans (OE.below (B := w.heap.size) (by omega))
        have ByE := Byd.of_block (OE.block _ (by omega))
        have BmE := Bmd.of_block (OE.block _ (by omega))
        have T5e := T5d.only OE (by omega)
        have T8e := T8d.only OE (by omega)
        have o3e := o3d.only OE (fun _ => by omega)
        have o7e := o7d.only OE (fun h => by have := r7 h; omega)
        clear Bxd Byd Bmd T5d T8d o3d o7d ND OE z4
        go_wp2_with fail
        refine (markByteS_any wE _ _ _ us _ ByE.own0 h2 (by omega) (by omega)).mono ?_
        rintro e wF0 ⟨rfl, _, OF⟩
        have z4 := Z4.out
        have NF0 := NE.trans (OF.below (B := w.heap.size) (by omega))
        have BmF := BmE.of_block (OF.block _ (by omega))
        have T5f0 := T5e.only OF (by omega)
        have T8f0 := T8e.only OF (by omega)
        have o3f0 := o3e.only OF (fun _ => by omega)
        have o7f0 := o7e.only OF (fun h => by have := r7 h; omega)
        clear ByE BmE T5e T8e o3e o7e NE OF z4
        go_wp2_with fail
        refine (markByteS_any wF0 _ _ _ ms _ BmF.own0 h3 (by omega) (by omega)).mono ?_
        rintro e wF ⟨rfl, _, OG⟩
        have z4 := Z4.out
        have NF := NF0.trans (OG.below (B := w.heap.size) (by omega))
        have T5f := T5f0.only OG (by omega)
        have T8f := T8f0.only OG (by omega)
        have o3f := o3f0.only OG (fun _ => by omega)
        have o7f := o7f0.only OG (fun h => by have := r7 h; omega)
        have t4' : decide ((1 : Int) + (xs.length : Int) + (us.length : Int) + (ms.length : Int) < 0) = false := by simp; omega
        have c50 := T5f.c0
        have c51 := T5f.c1
        have c80 := T8f.c0
        have c81 := T8f.c1
        clear BmF T5f0 T8f0 o3f0 o7f0 NF0 OG z4
        go_wp2_with fail
        refine (eqNumResult_same wF t' _ _ _ _ _ _ ys' o7f.rd o3f.rd hy).mono ?_
        rintro e wG ⟨rfl, nG⟩
        have NG := nxt NF nG
        have T5g := T5f.up nG
        have T8g := T8f.up nG
        have o3g := o3f.up nG
        have o7g := o7f.up nG
        clear c50 c51 c80 c81 T5f T8f o3f o7f NF nG
        have c80 := T8g.c0
        have c81 := T8g.c1
        go_wp2_with fail
        refine (markNumResult_any wG t' g7 _ _ ys' 1 o7g hy (by decide) (by decide)).mono ?_
        rintro e wH ⟨rfl, oH, OH⟩
        have z4 := Z4.out
        have sG := NG.size
        have NH := NG.trans (OH.below (B := w.heap.size) (by omega) (by omega))
        have T5h := T5g.but OH (by omega)
        have T8h := T8g.but OH (by omega)
        have o3h := o3g.but OH (fun _ => by omega)
        clear c80 c81 T5g T8g o3g o7g NG OH z4 sG
        have c80 := T8h.c0
        have c81 := T8h.c1
        have t4 : decide ((1 : Int) + (ys'.length : Int) < 0) = false := by simp; omega
        go_wp2_with fail
        refine (heldNumResult_any wH t' g7 _ _ ys'.length 1 oH.rd hy (by decide) (by decide)).mono ?_
        rintro e wI ⟨rfl, nI⟩
        have NI := nxt NH nI
        clear c80 c81
        go_wp2_with fail
        refine (toByteS_any wI g a ca xs (ha.up NI) h1).mono ?_
        rintro e wJ ⟨rfl, BJ, nJ⟩
        have NJ := nxt NI nJ
        go_wp2_with fail
        refine (toByteS_any wJ g' b cb us (hb.up NJ) h2).mono ?_
        rintro e wK ⟨rfl, BK, nK⟩
        have NK := nxt NJ nK
        go_wp2_with fail
        refine (toByteS_any wK g'' d cd ms (hd.up NK) h3).mono ?_
        rintro e wK' ⟨rfl, BK', nK'⟩
        have NK' := nxt NK nK'
        go_wp2_with fail
        refine (implNumPower_any wK' _ _ _ _ _ _ _ _ _ xs us ms ((BJ.up nK).up nK').own0.rd (BK.up nK').own0.rd BK'.own0.rd hx hu hm).mono ?_
        rintro e wL ⟨tL, yL, YL, ⟨aL, cL, gL, rfl, oL, _, _, _⟩, nL⟩
        obtain ⟨rfl, rfl⟩ := YL.uniq Y
        have NL := nxt NK' nL
        have nHL := nxt (nxt (nxt (nxt nI nJ) nK) nK') nL
        have T5l := T5h.up nHL
        have T8l := T8h.up nHL
        have o3l := o3h.up nHL
        have oHl := oH.up nHL
        clear BJ BK BK' T5h T8h o3h oH nI nJ nK nK' nL nHL NI NJ NK NK' NH
        have nM : Below wL.heap.size wL (wL.alloc (.cells #[.bool tL, .slice aL yL.length cL] 31)) := (Below.refl _ _).alloc (Nat.le_refl _) _
        have T5m := T5l.up nM
        have c50 := T5m.c0
        have c51 := T5m.c1
        have c50' := T5l.c0
        have c51' := T5l.c1
        have l3L : w3.heap.size < wL.heap.size := T5l.lt
        go_wp2_with fail
        have NM := nxt NL nM
        have T8m := T8l.up nM
        have o3m := o3l.up nM
        have oLm := oL.up nM
        have oHm := oHl.up nM
        generalize wL.alloc (.cells #[.bool tL, .slice aL yL.length cL] 31) = wM at *
        clear T5l T8l o3l oL oHl nM NL c50 c51 c50' c51'
        refine (eqNumResult_same wM tL _ _ _ _ _ _ yL oLm.rd o3m.rd hy).mono ?_
        rintro e wN ⟨rfl, nN⟩
        have T8n := T8m.up nN
        have c80 := T8n.c0
        have c81 := T8n.c1
        go_wp2_with fail
        refine (heldNumResult_any wN tL g7 _ _ yL.length 1 (oHm.up nN).rd hy (by decide) (by decide)).mono ?_
        rintro e wO ⟨rfl, nO⟩
        go_wp2
        go_ret
        exact ⟨rfl, nxt (nxt NM nN) nO⟩
      · have t3 : decide ((1048576 : Int) < (ms.length : Int)) = true := by simp; omega
        go_enter Try.func10, Try.ntmps10
        go_wp2
        go_ret
        exact ⟨rfl, Below.refl _ _⟩
    · have t2 : decide ((1048576 : Int) < (us.length : Int)) = true := by simp; omega
      go_enter Try.func10, Try.ntmps10
      go_wp2
      go_ret
      exact ⟨rfl, Below.refl _ _⟩
  · have t1 : decide ((1048576 : Int) < (xs.length : Int)) = true := by simp; omega
    go_enter Try.func10, Try.ntmps10
    go_wp2
    go_ret
    exact ⟨rfl, Below.refl _ _⟩
end Go.Proofs.Ythdjopkmlcdoeaa
