import Derived.Test.YthapcapiiknjdaaDoorGB37
import Derived.Test.YthapcapiiknjdaaDoorGB38
import Derived.Test.YthapcapiiknjdaaDoorGB39

/-
  The law FnPointBytes (written by gens/lbyt.py).
-/
namespace Go.Proofs.YthapcapiiknjdaaDoor
set_option maxRecDepth 100000
open Go Go.RowKit

set_option maxHeartbeats 16000000 in
theorem pbytes_law (w : World) (g0 : Nat) (a0 : Option Addr) (c0 : Nat) (X0 : List Int) (hX0 : Rd w g0 a0 .u8 X0) (bX0 : Byt X0) (g1 : Nat) (a1 : Option Addr) (c1 : Nat) (X1 : List Int) (hX1 : Rd w g1 a1 .u8 X1) (bX1 : Byt X1) (hL : HasD w) :
    Calls Tryd.prog 13 #[.slice a0 X0.length c0, .slice a1 X1.length c1] w fun e w' => e = .returned (.bool true) ∧ Below w.heap.size w w' := by
  by_cases h0 : X0.length ≤ 1048576
  · have t0 : decide ((1048576 : Int) < (X0.length : Int)) = false := by simp; omega
    by_cases h1 : X1.length ≤ 1048576
    · have t1 : decide ((1048576 : Int) < (X1.length : Int)) = false := by simp; omega
      obtain ⟨p, hp, ep⟩ := lpP_is (xs := X0)
      have LP0 := lwPoint_any w g0 a0 c0 X0 hX0 bX0 (by omega)
      rw [ep] at LP0
      have E0 := hide ep
      have LH0 := hide LP0
      clear LP0 ep
      have EE := fun (p : Int × Int) (hp : Pv p) W g g' a a' c c' h h' (n : Below w.heap.size w W) => implEncode_any W g g' a a' c c' (lx p) (ly p) h h' (lx_byt p) (ly_byt p) dGo (hL.1.1.up n) (hL.1.2.1.up n)
      have DD := fun (bs : List Int) (bb : Byt bs) W g a c h (n : Below w.heap.size w W) => implDecode_any W g a c bs h bb dGo (hL.1.1.up n) (hL.1.2.1.up n) (hL.1.2.2.1.up n) (hL.1.2.2.2.up n) (hL.2.up n)
      have VV := fun (p : Int × Int) (hp : Pv p) W g g' a a' c c' h h' (n : Below w.heap.size w W) => implValid_any W g g' a a' c c' (lx p) (ly p) h h' (lx_byt p) (ly_byt p) dGo (hL.1.1.up n) (hL.1.2.1.up n)
      have de := dec_en hp
      have bE := en_byt hp
      have E1 := hide (EE p hp)
      have D1 := hide (DD (en p) bE)
      simp only [enA_eq (lx_byt p) (ly_byt p), es_en hp] at E1
      simp only [idB_eq bE, idX_eq bE, idY_eq bE, de.1, de.2.1, de.2.2] at D1
      generalize en p = ee at *
      clear de
      have DH := hide DD
      have EH := hide EE
      have VH := hide VV
      clear DD EE VV
      simp only [] at LH0
      go_enter Tryd.func13, Tryd.ntmps13
      go_wp2_with fail
      refine LH0.out.mono ?_
      rintro r w1 ⟨⟨x1, y1, d1, e1, gx1, gy1, rfl, ox1, oy1, -, -⟩, n1⟩
      have T1 := Two.new w1 (.slice x1 (lx p).length d1) (.slice y1 (ly p).length e1) 24
      have m1 : Below w1.heap.size w1 (w1.alloc (.cells #[.slice x1 (lx p).length d1, .slice y1 (ly p).length e1] 24)) := (Below.refl _ _).alloc (Nat.le_refl _) _
      have N1 := nxt n1 m1
      have rx1 := ox1.rd.up m1
      have ry1 := oy1.rd.up m1
      go_upto_region 4 with fail
      generalize w1.alloc (.cells #[.slice x1 (lx p).length d1, .slice y1 (ly p).length e1] 24) = W1 at *
      have q0 := T1.c0
      have q1 := T1.c1
      clear m1 n1 ox1 oy1
      go_wp2_with fail
      clear q0 q1
      refine (E1.out W1 gx1 gy1 x1 y1 d1 e1 rx1 ry1 N1).mono ?_
      rintro r w2 ⟨⟨a2, c2, g2, rfl, o2, p2, q2, b2⟩, n2⟩
      go_wp2_with fail
      refine (D1.out w2 g2 a2 c2 o2.rd (nxt N1 n2)).mono ?_
      rintro r w3 ⟨⟨x3, d3, gx3, y3, e3, gy3, rfl, ox3, oy3, -, -, -⟩, n3⟩
      have T3 := Tri.new w3 (.bool true) (.slice x3 (lx p).length d3) (.slice y3 (ly p).length e3) 44
      have m3 : Below w3.heap.size w3 (w3.alloc (.cells #[.bool true, .slice x3 (lx p).length d3, .slice y3 (ly p).length e3] 44)) := (Below.refl _ _).alloc (Nat.le_refl _) _
      have N2 := nxt (nxt N1 n2) n3
      have N3 := nxt N2 m3
      have ZB := hide N2.size
      have rx3 := ox3.rd.up m3
      have ry3 := oy3.rd.up m3
      clear T1 rx1 ry1 n2 n3 N1 o2 p2 q2 b2 ox3 oy3 N2 E1 D1 LH0
      go_upto_region 5 with fail
      generalize w3.alloc (.cells #[.bool true, .slice x3 (lx p).length d3, .slice y3 (ly p).length e3] 44) = W3 at *
      clear m3
      refine region_guard (fun i => [Fact.eq (.pointer (some ⟨w3.heap.size, 0, none⟩)), Fact.eq (.bool true), Fact.eq (.bool (!true)), Fact.eq (.bool (!true)), Fact.eq (.pointer (some ⟨w3.heap.size, 1, none⟩)), RPb p, Fact.eq (.slice a0 X0.length c0), RPb p, Fact.eq (.bool true), Fact.eq (.bool (!true)), Fact.eq (.bool (!true))].getD i Fact.no) (by kernel_rfl) (by kernel_rfl) ?_ ?_ ?_
      · intro i hi
        have hiN : i < 11 := hi
        obtain rfl | rfl | rfl | rfl | rfl | rfl | rfl | rfl | rfl | rfl | rfl : i = 0 ∨ i = 1 ∨ i = 2 ∨ i = 3 ∨ i = 4 ∨ i = 5 ∨ i = 6 ∨ i = 7 ∨ i = 8 ∨ i = 9 ∨ i = 10 := by omega
        · exact step_fld rfl 44 6 0 rfl (by kernel_rfl) _ _ rfl (fldA0 _) rfl
        · exact step_ldb rfl 21 0 rfl (by kernel_rfl) rfl T3.c0 rfl
        · exact step_notb rfl 22 1 rfl (by kernel_rfl) rfl rfl
        · exact step_move rfl 23 2 (by exact Or.inl rfl) (by kernel_rfl) rfl
        · exact step_fld rfl 44 6 1 rfl (by kernel_rfl) _ _ rfl (fldA1 _) rfl
        · exact step_bload rfl 25 4 rfl (by kernel_rfl) _ rfl T3 rx3 ry3 rfl
        · exact step_mv rfl 0 rfl (by kernel_rfl) rfl rfl
        · exact step_blw rfl 27 6 (hX0.up N3) bX0 (by omega) E0.out rfl (by kernel_rfl) rfl rfl
        · exact step_bsame rfl 26 28 5 7 rfl (by kernel_rfl) (by kernel_rfl) rfl rfl rfl
        · exact step_notb rfl 29 8 rfl (by kernel_rfl) rfl rfl
        · exact step_pick rfl 24 30 3 9 rfl (by kernel_rfl) (by kernel_rfl) rfl rfl rfl
      · intro i o ho A W hf
        have hiN : i < 11 := (Array.getElem?_eq_some_iff.1 ho).1
        obtain rfl | rfl | rfl | rfl | rfl | rfl | rfl | rfl | rfl | rfl | rfl : i = 0 ∨ i = 1 ∨ i = 2 ∨ i = 3 ∨ i = 4 ∨ i = 5 ∨ i = 6 ∨ i = 7 ∨ i = 8 ∨ i = 9 ∨ i = 10 := by omega
        · cases ho; exact wanted_none rfl
        · cases ho; exact wanted_none rfl
        · cases ho; exact wanted_none rfl
        · cases ho; exact wanted_none rfl
        · cases ho; exact wanted_some rfl (by kernel_rfl) (hf 3 24 (by kernel_rfl))
        · cases ho; exact wanted_some rfl (by kernel_rfl) (hf 3 24 (by kernel_rfl))
        · cases ho; exact wanted_some rfl (by kernel_rfl) (hf 3 24 (by kernel_rfl))
        · cases ho; exact wanted_some rfl (by kernel_rfl) (hf 3 24 (by kernel_rfl))
        · cases ho; exact wanted_some rfl (by kernel_rfl) (hf 3 24 (by kernel_rfl))
        · cases ho; exact wanted_some rfl (by kernel_rfl) (hf 3 24 (by kernel_rfl))
        · cases ho; exact wanted_none rfl
      intro A W4 hb' hw hF
      have e2 := hF 10 31 (by kernel_rfl)
      obtain ⟨vs, hvs⟩ : ∃ vs : Nat → Value, ∀ d, A.tmps.getD d undef = vs d := ⟨_, fun _ => rfl⟩
      rw [hvs] at e2
      rw [puts_guard (md := .any) (by kernel_rfl) rfl hb' vs hvs]
      clear hb' hF hvs
      have e3 : vs 31 = .bool false := e2
      clear e2
      simp only [puts, e3, Act.put, List.setIfInBounds_toArray, List.set_cons_succ, List.set_cons_zero]
      clear e3
      have N4 := nxt N3 hw
      replace T3 := T3.up hw
      clear hw N3 rx3 ry3
      have lB := T3.lt
      go_wp2_with fail
      refine (drawDec_any W4 g1 a1 c1 X1 (hX1.up N4) bX1 h1).mono ?_
      rintro r w5 ⟨bs, bb, bl, ⟨a5, c5, g5, rfl, o5, p5, q5, b5⟩, n5⟩
      have N5 := nxt N4 n5
      have z5 := n5.size
      replace T3 := T3.up n5
      have BL := hide bl
      have L5 := hide (show w3.heap.size < g5 by omega)
      have L5' := hide (show w3.heap.size < w5.heap.size by omega)
      clear n5 N4 bl b5 z5 lB
      have LC := hide (lwCopy_any w5 g5 a5 c5 bs o5.rd p5 (by have := BL.out; omega))
      go_wp2_with fail
      refine LC.out.mono ?_
      rintro r w6 ⟨⟨a6, c6, g6, rfl, o6, p6, q6, b6⟩, n6⟩
      have N6 := nxt N5 n6
      have D2 := hide (DH.out bs bb w6 g6 a6 c6 o6.rd N6)
      simp only [idB_eq bb, idX_eq bb, idY_eq bb] at D2
      obtain ⟨gd, hgd⟩ : ∃ b, b = dcB bs := ⟨_, rfl⟩
      obtain ⟨rx, hrx⟩ : ∃ l, l = dcX bs := ⟨_, rfl⟩
      obtain ⟨ry, hry⟩ : ∃ l, l = dcY bs := ⟨_, rfl⟩
      simp only [← hgd, ← hrx, ← hry] at D2
      have HG := hide hgd
      have HX := hide hrx
      have HY := hide hry
      clear hgd hrx hry LC
      go_wp2_with fail
      refine D2.out.mono ?_
      rintro r w7 ⟨⟨x7, d7, gx7, y7, e7, gy7, rfl, ox7, oy7, lx7, ly7, -⟩, n7⟩
      have N7 := nxt N6 n7
      have z6 := n6.size
      replace T3 := T3.up n6
      replace o5 := o5.up n6
      replace T3 := T3.up n7
      replace o5 := o5.up n7
      have TS := T3.put (.bool gd) (.slice x7 rx.length d7) (.slice y7 ry.length e7)
      have O := ((Only.setCell w7 w3.heap.size 0 (.bool gd)).trans (Only.setCell _ w3.heap.size 1 (.slice x7 rx.length d7))).trans (Only.setCell _ w3.heap.size 2 (.slice y7 ry.length e7))
      have NS := ((N7.setCell (p := ⟨w3.heap.size, 0, none⟩) ZB.out (.bool gd)).setCell (p := ⟨w3.heap.size, 1, none⟩) ZB.out (.slice x7 rx.length d7)).setCell (p := ⟨w3.heap.size, 2, none⟩) ZB.out (.slice y7 ry.length e7)
      have r5 := (o5.only O (fun _ => by have := L5.out; omega)).rd
      have rx7 := (ox7.only O (fun _ => by have := L5'.out; omega)).rd
      have ry7 := (oy7.only O (fun _ => by have := L5'.out; omega)).rd
      have f0 := T3.f0
      have f1 := T3.f1
      have f2 := T3.f2
      have q0 := T3.c0
      have q1 := T3.c1
      have q2 := T3.c2
      clear o5 ox7 oy7 O N7 N6 N5 n6 n7 o6 p6 q6 b6 lx7 ly7 z6 D2 L5 L5' q5
      go_upto_region 9 with fail
      generalize ((w7.setCell ⟨w3.heap.size, 0, none⟩ (.bool gd)).setCell ⟨w3.heap.size, 1, none⟩ (.slice x7 rx.length d7)).setCell ⟨w3.heap.size, 2, none⟩ (.slice y7 ry.length e7) = W7 at *
      clear T3 f0 f1 f2 q0 q1 q2
      refine region_end 6 (fun i => [Fact.eq (.pointer (some ⟨w3.heap.size, 0, none⟩)), Fact.eq (.bool gd), Fact.eq (.slice a5 bs.length c5), PGd gd, Fact.eq (.bool gd), Fact.eq (.bool false)].getD i Fact.no) (by kernel_rfl) (by kernel_rfl) rfl ?_ ?_
      · intro i hi
        have hiN : i < 6 := hi
        obtain rfl | rfl | rfl | rfl | rfl | rfl : i = 0 ∨ i = 1 ∨ i = 2 ∨ i = 3 ∨ i = 4 ∨ i = 5 := by omega
        · exact step_fld rfl 44 6 0 rfl (by kernel_rfl) _ _ rfl (fldA0 _) rfl
        · exact step_ldb rfl 37 0 rfl (by kernel_rfl) rfl TS.c0 rfl
        · exact step_mv rfl 7 rfl (by kernel_rfl) rfl rfl
        · exact step_bdec rfl 39 2 r5 bb p5 HG.out rfl (by kernel_rfl) rfl rfl
        · exact step_bfld rfl 40 3 rfl (by kernel_rfl) rfl rfl
        · exact step_bne rfl 38 41 1 4 rfl (by kernel_rfl) (by kernel_rfl) rfl rfl rfl
      intro A W8 hb' hw hF
      have e2 := hF 5 42 (by kernel_rfl)
      obtain ⟨vs, hvs⟩ : ∃ vs : Nat → Value, ∀ d, A.tmps.getD d undef = vs d := ⟨_, fun _ => rfl⟩
      rw [hvs] at e2
      rw [puts_of (md := .any) (k := 6) (by kernel_rfl) rfl hb' vs hvs]
      clear hb' hF hvs
      have e3 : vs 42 = .bool false := e2
      clear e2
      simp only [puts, e3, Act.put, List.setIfInBounds_toArray, List.set_cons_succ, List.set_cons_zero]
      clear e3
      have N8 := nxt NS hw
      replace TS := TS.up hw
      replace r5 := r5.up hw
      replace rx7 := rx7.up hw
      replace ry7 := ry7.up hw
      clear hw NS
      have k0 := TS.c0
      cases gd with
      | false =>
        go_wp2
        go_ret
        exact ⟨rfl, N8⟩
      | true =>
        obtain ⟨q, hq, eX, eY, eE⟩ := en_dec bb HG.out.symm
        obtain rfl := HX.out.trans eX
        obtain rfl := HY.out.trans eY
        have V2 := hide (VH.out q hq W8 gx7 gy7 x7 y7 d7 e7 rx7 ry7 N8)
        simp only [rp_valid, lv_valid hq] at V2
        have k1 := TS.c1
        have k2 := TS.c2
        clear eX eY HX HY HG DH VH
        go_wp2_with fail
        refine V2.out.mono ?_
        rintro r w9 ⟨rfl, n9⟩
        have N9 := nxt N8 n9
        have T9 := TS.up n9
        have r9 := r5.up n9
        have E2 := hide (EH.out q hq w9 gx7 gy7 x7 y7 d7 e7 (rx7.up n9) (ry7.up n9) N9)
        simp only [enA_eq (lx_byt q) (ly_byt q), es_en hq, eE] at E2
        clear k0 k1 k2 TS r5 rx7 ry7 V2 EH
        have k0 := T9.c0
        have k1 := T9.c1
        have k2 := T9.c2
        go_wp2_with fail
        refine E2.out.mono ?_
        rintro r wA ⟨⟨aA, cA, gA, rfl, oA, pA, qA, bA⟩, nA⟩
        have NA := nxt N9 nA
        have LS := hide (lwSame_same wA gA g5 aA a5 cA c5 bs oA.rd (r9.up nA))
        clear E2 oA nA n9 N9 k0 k1 k2
        go_wp2_with fail
        refine LS.out.mono ?_
        rintro r wB ⟨rfl, rfl⟩
        go_wp2
        go_ret
        exact ⟨rfl, NA⟩
    · have t1 : decide ((1048576 : Int) < (X1.length : Int)) = true := by simp; omega
      go_enter Tryd.func13, Tryd.ntmps13
      go_wp2
      go_ret
      exact ⟨rfl, Below.refl _ _⟩
  · have t0 : decide ((1048576 : Int) < (X0.length : Int)) = true := by simp; omega
    go_enter Tryd.func13, Tryd.ntmps13
    go_wp2
    go_ret
    exact ⟨rfl, Below.refl _ _⟩
theorem laid_pbytes {W : World} (h : laidMetH Tryd.prog Rows.fnPointBytesRow.laid W) : HasD W :=
  ⟨hasA_of h (by kernel_rfl) (.head _) (.tail _ (.head _)) (.tail _ (.tail _ (.tail _ (.tail _ (.head _))))) (.tail _ (.tail _ (.tail _ (.tail _ (.tail _ (.head _)))))), hasR_ofp h (by kernel_rfl) (.head _) (.tail _ (.tail _ (.head _))) (.tail _ (.tail _ (.tail _ (.head _)))) (.tail _ (.tail _ (.tail _ (.tail _ (.head _)))))⟩
end Go.Proofs.YthapcapiiknjdaaDoor
