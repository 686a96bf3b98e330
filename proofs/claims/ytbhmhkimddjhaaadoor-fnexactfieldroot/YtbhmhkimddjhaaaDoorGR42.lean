import Derived.Test.YtbhmhkimddjhaaaDoorGR15
import Derived.Test.YtbhmhkimddjhaaaDoorGR41
import Derived.Test.YtbhmhkimddjhaaaDoorRows
import Derived.Test.YtbhmhkimddjhaaaDoorGR39
import Derived.Lib.LaidTab
import Derived.Lib.LaidU8
import Derived.LaidMore
/-
  The law of FieldRoot.
-/
namespace Go.Proofs.YtbhmhkimddjhaaaDoor
set_option maxRecDepth 100000
open Go.RowKit

set_option maxHeartbeats 4000000 in
theorem fieldRoot_law (w : World) (g : Nat) (a : Option Addr) (ca : Nat) (xs : List Int) (ha : Rd w g a .u8 xs) (hx : Byt xs) (hR : HasR w) :
    Calls Tryd.prog 8 #[.slice a xs.length ca] w fun e w' => e = .returned (.bool true) ∧ Below w.heap.size w w' := by
  by_cases h1 : xs.length ≤ 1048576
  · have t1 : decide ((1048576 : Int) < (xs.length : Int)) = false := by simp; omega
    have hy : (frL xs).length ≤ 1048576 := by have := frL_len xs; omega
    have SP := fun w g a c h => specFieldRoot_any w g a c xs h hx
    have IM := fun w g a c h s => implFieldRoot_any w g a c xs h hx s
    obtain ⟨t, ht⟩ : ∃ t, t = frB xs := ⟨_, rfl⟩
    obtain ⟨ys, hys⟩ : ∃ ys, ys = frL xs := ⟨_, rfl⟩
    simp only [← hys, ← ht] at SP IM hy
    clear hys ht
    go_enter Tryd.func8, Tryd.ntmps8
    go_wp2_with fail
    refine (toByteS_any w g a ca xs ha h1).mono ?_
    rintro e w1 ⟨rfl, B1, n1⟩
    have l1 := B1.lt
    go_wp2_with fail
    refine (SP w1 _ _ _ B1.own0.rd).mono ?_
    rintro e w3 ⟨NR, n3⟩
    obtain ⟨a3, c3, g3, rfl, o3, p3, q3, r3⟩ := NR.at (B' := w.heap.size) (by omega) (by have := n3.size; omega)
    have N3 := nxt n1 n3
    have T5 := Two.new w3 (.bool t) (.slice a3 ys.length c3) 41
    have n4 : Below w3.heap.size w3 (w3.alloc (.cells #[.bool t, .slice a3 ys.length c3] 41)) := (Below.refl _ _).alloc (Nat.le_refl _) _
    have z4 : (w3.alloc (.cells #[.bool t, .slice a3 ys.length c3] 41)).heap.size = w3.heap.size + 1 := by simp
    clear B1 n1 n3 NR
    go_wp2_with fail
    generalize w3.alloc (.cells #[.bool t, .slice a3 ys.length c3] 41) = w4 at *
    have N4 := nxt N3 n4
    have o4 := o3.up n4
    have Z4 := hide z4
    clear z4 o3 n4
    refine (toByteS_any w4 g a ca xs (ha.up N4) h1).mono ?_
    rintro e w5 ⟨rfl, B5, n5⟩
    have N5 := nxt N4 n5
    have l5 := B5.lt
    go_wp2_with fail
    refine (IM w5 _ _ _ B5.own0.rd (hR.up N5)).mono ?_
    rintro e w7 ⟨NR, n7⟩
    obtain ⟨a7, c7, g7, rfl, o7, p7, q7, r7⟩ := NR.at (B' := w4.heap.size) (by have := n5.size; omega) (by have := n7.size; have := n5.size; omega)
    have N7 := nxt N5 n7
    have T8 := Two.new w7 (.bool t) (.slice a7 ys.length c7) 41
    have n8 : Below w7.heap.size w7 (w7.alloc (.cells #[.bool t, .slice a7 ys.length c7] 41)) := (Below.refl _ _).alloc (Nat.le_refl _) _
    have s5 := n5.size
    have s7 := n7.size
    have n47 := nxt n5 n7
    have o7a := o4.up n47
    have T5a := T5.up n47
    have B7x := B5.up n7
    clear o4 T5 B5 n5 n7 n47 N4 N5 NR
    have T5b := T5a.up n8
    have c50 := T5b.c0
    have c51 := T5b.c1
    have c50' := T5a.c0
    have c51' := T5a.c1
    have l37 : w3.heap.size < w7.heap.size := T5a.lt
    go_wp2_with fail
    generalize w7.alloc (.cells #[.bool t, .slice a7 ys.length c7] 41) = w8 at *
    have N8 := nxt N7 n8
    have o3b := o7a.up n8
    have o7b := o7.up n8
    have Bx := B7x.up n8
    have lp8 := T8.lt
    clear T5a o7a o7 B7x n8 N7 c50 c51 c50' c51'
    refine (eqRootResult_same w8 t _ _ _ _ _ _ ys o7b.rd o3b.rd hy).mono ?_
    rintro e w9 ⟨rfl, n9⟩
    have N9 := nxt N8 n9
    go_wp2_with fail
    refine (toByteS_any w9 g a ca xs (ha.up N9) h1).mono ?_
    rintro e wA ⟨rfl, BA, nA⟩
    have n8A := nxt n9 nA
    go_wp2_with fail
    refine (eqByteS_same wA _ _ _ _ _ _ xs (Bx.up n8A).own0.rd BA.own0.rd h1).mono ?_
    rintro e wB ⟨rfl, nB⟩
    have n8B := nxt n8A nB
    have ND := nxt N8 n8B
    have T5d := T5b.up n8B
    have T8d := T8.up n8B
    have o3d := o3b.up n8B
    have o7d := o7b.up n8B
    have Bxd := Bx.up n8B
    clear BA n9 nA nB n8A N9 n8B N8 T5b T8 o3b o7b Bx
    have sN := N3.size
    go_wp2_with fail
    have z4 := Z4.out
    refine (markByteS_any wB _ _ _ xs 1 Bxd.own0 h1 (by decide) (by decide)).mono ?_
    rintro e wF ⟨rfl, _, OF⟩
    have NF := ND.trans (OF.below (B := w.heap.size) (by omega))
    have T5f := T5d.only OF (by omega)
    have T8f := T8d.only OF (by omega)
    have o3f := o3d.only OF (fun _ => by omega)
    have o7f := o7d.only OF (fun h => by have := r7 h; omega)
    have t3 : decide ((1 : Int) + (xs.length : Int) < 0) = false := by simp; omega
    have c50 := T5f.c0
    have c51 := T5f.c1
    have c80 := T8f.c0
    have c81 := T8f.c1
    clear Bxd T5d T8d o3d o7d ND OF z4
    go_wp2_with fail
    refine (eqRootResult_same wF t _ _ _ _ _ _ ys o7f.rd o3f.rd hy).mono ?_
    rintro e wG ⟨rfl, nG⟩
    have NG := nxt NF nG
    have T5g := T5f.up nG
    have T8g := T8f.up nG
    have o3g := o3f.up nG
    have o7g := o7f.up nG
    clear c50 c51 c80 c81 T5f T8f o3f o7f NF nG
    have c80 := T8g.c0
    have c81 := T8g.c1
    go_wp2_with fail
    refine (markRootResult_any wG t g7 _ _ ys 1 o7g hy (by decide) (by decide)).mono ?_
    rintro e wH ⟨rfl, oH, OH⟩
    have z4 := Z4.out
    have sG := NG.size
    have NH := NG.trans (OH.below (B := w.heap.size) (by omega) (by omega))
    have T5h := T5g.but OH (by omega)
    have T8h := T8g.but OH (by omega)
    have o3h := o3g.but OH (fun _ => by omega)
    clear c80 c81 T5g T8g o3g o7g NG OH z4 sG
    have c80 := T8h.c0
    have c81 := T8h.c1
    have t4 : decide ((1 : Int) + (ys.length : Int) < 0) = false := by simp; omega
    go_wp2_with fail
    refine (heldRootResult_any wH t g7 _ _ ys.length 1 oH.rd hy (by decide) (by decide)).mono ?_
    rintro e wI ⟨rfl, nI⟩
    have NI := nxt NH nI
    clear c80 c81
    go_wp2_with fail
    refine (toByteS_any wI g a ca xs (ha.up NI) h1).mono ?_
    rintro e wJ ⟨rfl, BJ, nJ⟩
    have NJ := nxt NI nJ
    go_wp2_with fail
    refine (IM wJ _ _ _ BJ.own0.rd (hR.up NJ)).mono ?_
    rintro e wL ⟨⟨aL, cL, gL, rfl, oL, _, _, _⟩, nL⟩
    have NL := nxt NJ nL
    have nHL := nxt (nxt nI nJ) nL
    have T5l := T5h.up nHL
    have T8l := T8h.up nHL
    have o3l := o3h.up nHL
    have oHl := oH.up nHL
    clear BJ T5h T8h o3h oH nI nJ nL nHL NI NJ NH
    have nM : Below wL.heap.size wL (wL.alloc (.cells #[.bool t, .slice aL ys.length cL] 41)) := (Below.refl _ _).alloc (Nat.le_refl _) _
    have T5m := T5l.up nM
    have c50 := T5m.c0
    have c51 := T5m.c1
    have c50' := T5l.c0
    have c51' := T5l.c1
    have l3L : w3.heap.size < wL.heap.size := T5l.lt
    go_wp2_with fail
    have NM := nxt NL nM
    have T8m := T8l.up nM
    have o3m := o3l.up nM
    have oLm := oL.up nM
    have oHm := oHl.up nM
    generalize wL.alloc (.cells #[.bool t, .slice aL ys.length cL] 41) = wM at *
    clear T5l T8l o3l oL oHl nM NL c50 c51 c50' c51'
    refine (eqRootResult_same wM t _ _ _ _ _ _ ys oLm.rd o3m.rd hy).mono ?_
    rintro e wN ⟨rfl, nN⟩
    have T8n := T8m.up nN
    have c80 := T8n.c0
    have c81 := T8n.c1
    go_wp2_with fail
    refine (heldRootResult_any wN t g7 _ _ ys.length 1 (oHm.up nN).rd hy (by decide) (by decide)).mono ?_
    rintro e wO ⟨rfl, nO⟩
    go_wp2
    go_ret
    exact ⟨rfl, nxt (nxt NM nN) nO⟩
  · have t1 : decide ((1048576 : Int) < (xs.length : Int)) = true := by simp; omega
    go_enter Tryd.func8, Tryd.ntmps8
    go_wp2
    go_ret
    exact ⟨rfl, Below.refl _ _⟩
end Go.Proofs.YtbhmhkimddjhaaaDoor
/-
  What the listed variables of the root give the walks: their cells.
-/
namespace Go.Proofs.YtbhmhkimddjhaaaDoor
set_option maxRecDepth 100000
open Go.RowKit

theorem gTw : Tryd.prog.globalNamed "loop.example/g00004/impl.twiceP" = some 5 := by kernel_rfl
theorem tTw : (Tryd.prog.globals[5]?).map (·.type) = some 109 := by kernel_rfl
theorem uTw : Tryd.prog.underlying 109 = some (.array 5 49) := by kernel_rfl
theorem cTw : Tryd.prog.cellsOf 109 = 5 := by kernel_rfl
theorem cU64 : Tryd.prog.cellsOf 49 = 1 := by kernel_rfl
theorem tw_of_reads {W : World} (h : Lib.VarReads Tryd.prog W "loop.example/g00004/impl.twiceP" Rows.laid_loop_example_g00004_impl_twiceP) : HasTw W 5 := by
  obtain ⟨g, t, cs, fuel, p, hg, ht, hv, hd⟩ := h
  obtain rfl := Option.some.inj (gTw.symm.trans hg)
  obtain rfl := Option.some.inj (tTw.symm.trans ht)
  have hcs := Lib.cells_of_tab (zs := [4503599627370458, 4503599627370494, 4503599627370494, 4503599627370494, 4503599627370494]) uTw Tryd.underlying49 cU64 cTw hd
  intro k hk
  rw [World.var?_cell hg hv k]
  obtain ⟨l⟩ := cs
  simp only at hcs
  subst hcs
  obtain rfl | rfl | rfl | rfl | rfl : k = 0 ∨ k = 1 ∨ k = 2 ∨ k = 3 ∨ k = 4 := by omega
  all_goals rfl
theorem gRm : Tryd.prog.globalNamed "loop.example/g00004/impl.rootOfMinusOne" = some 4 := by kernel_rfl
theorem tRm : (Tryd.prog.globals[4]?).map (·.type) = some 76 := by kernel_rfl
theorem uEl : Tryd.prog.underlying 76 = some (.array 5 49) := by kernel_rfl
theorem cEl : Tryd.prog.cellsOf 76 = 5 := by kernel_rfl
theorem rm_of_reads {W : World} (h : Lib.VarReads Tryd.prog W "loop.example/g00004/impl.rootOfMinusOne" Rows.laid_loop_example_g00004_impl_rootOfMinusOne) : Has5 W 4 iL := by
  obtain ⟨g, t, cs, fuel, p, hg, ht, hv, hd⟩ := h
  obtain rfl := Option.some.inj (gRm.symm.trans hg)
  obtain rfl := Option.some.inj (tRm.symm.trans ht)
  have hcs := Lib.cells_of_tab (zs := [1718705420411056, 234908883556509, 2233514472574048, 2117202627021982, 765476049583133]) uEl Tryd.underlying49 cU64 cEl hd
  intro k hk
  rw [World.var?_cell hg hv k]
  obtain ⟨l⟩ := cs
  simp only at hcs
  subst hcs
  obtain rfl | rfl | rfl | rfl | rfl : k = 0 ∨ k = 1 ∨ k = 2 ∨ k = 3 ∨ k = 4 := by omega
  all_goals rfl
theorem gSt : Tryd.prog.globalNamed "loop.example/g00004/impl.chainSteps" = some 6 := by kernel_rfl
theorem tSt : (Tryd.prog.globals[6]?).map (·.type) = some 130 := by kernel_rfl
theorem gRo : Tryd.prog.globalNamed "loop.example/g00004/impl.rootStep" = some 3 := by kernel_rfl
theorem tRo : (Tryd.prog.globals[3]?).map (·.type) = some 113 := by kernel_rfl
theorem uSt : Tryd.prog.underlying 130 = some (.array 11 113) := by kernel_rfl
theorem cStep : Tryd.prog.cellsOf 113 = 3 := by kernel_rfl
theorem cInt : Tryd.prog.cellsOf 3 = 1 := by kernel_rfl
theorem step_cells {W : World} {base : Nat} {sp : Nat → Bool} {held : Bool} {fuel : Nat} {cs : List Value} {x y z : Int} {p : List MemPlace}
    (h : DataW.trod (fun _ => ()) Tryd.prog W base sp held fuel 113 cs = some (.agg [.lit (.int .i64 x), .lit (.int .i64 y), .lit (.int .i64 z)], p)) : cs = [.int .i64 x, .int .i64 y, .int .i64 z] := by
  have := Lib.ints_of_struct (k := .i64) (zs := [x, y, z]) Tryd.underlying113 (fun i f hf => by
    match i, hf with
    | 0, hf => cases hf; exact ⟨Tryd.underlying3, rfl, cInt⟩
    | 1, hf => cases hf; exact ⟨Tryd.underlying3, rfl, cInt⟩
    | 2, hf => cases hf; exact ⟨Tryd.underlying3, rfl, cInt⟩
    | i + 3, hf => simp at hf) (by rw [cStep]; rfl) h
  simpa using this
theorem three_of_reads {W : World} {n : String} {g : Nat} {x y z : Int} (hn : Tryd.prog.globalNamed n = some g) (ht : (Tryd.prog.globals[g]?).map (·.type) = some 113)
    (h : Lib.VarReads Tryd.prog W n (.agg [.lit (.int .i64 x), .lit (.int .i64 y), .lit (.int .i64 z)])) : Has3 W g x y z := by
  obtain ⟨g', t, cs, fuel, p, hg, ht', hv, hd⟩ := h
  obtain rfl := Option.some.inj (hn.symm.trans hg)
  obtain rfl := Option.some.inj (ht.symm.trans ht')
  have hcs := step_cells hd
  obtain ⟨l⟩ := cs
  simp only at hcs
  subst hcs
  exact ⟨by rw [World.var?_cell hg hv 0]; rfl, by rw [World.var?_cell hg hv 1]; rfl, by rw [World.var?_cell hg hv 2]; rfl⟩
theorem st_of_reads {W : World} (h : Lib.VarReads Tryd.prog W "loop.example/g00004/impl.chainSteps" Rows.laid_loop_example_g00004_impl_chainSteps) : HasSt W 6 := by
  obtain ⟨g, t, cs, fuel, p, hg, ht, hv, hd⟩ := h
  obtain rfl := Option.some.inj (gSt.symm.trans hg)
  obtain rfl := Option.some.inj (tSt.symm.trans ht)
  have key : ∀ j, j < 11 → (cs.toList.drop (j * 3)).take 3 = [.int .i64 (stL.getD (3 * j) 0), .int .i64 (stL.getD (3 * j + 1) 0), .int .i64 (stL.getD (3 * j + 2) 0)] := by
    intro j hj
    obtain ⟨f', d, q, h1, h2⟩ := Lib.array_elem uSt hd j hj
    rw [cStep] at h2
    obtain rfl | rfl | rfl | rfl | rfl | rfl | rfl | rfl | rfl | rfl | rfl : j = 0 ∨ j = 1 ∨ j = 2 ∨ j = 3 ∨ j = 4 ∨ j = 5 ∨ j = 6 ∨ j = 7 ∨ j = 8 ∨ j = 9 ∨ j = 10 := by omega
    all_goals
      cases h1
      exact step_cells h2
  intro i hi
  rw [World.var?_cell hg hv i]
  have k := key (i / 3) (by omega)
  have e : cs[i]? = ((cs.toList.drop (i / 3 * 3)).take 3)[i % 3]? := by
    rw [List.getElem?_take, if_pos (by omega), List.getElem?_drop, show i / 3 * 3 + i % 3 = i by omega]
    simp
  rw [e, k]
  rcases (show i % 3 = 0 ∨ i % 3 = 1 ∨ i % 3 = 2 by omega) with r | r | r
  all_goals
    rw [r]
    simp only [List.getElem?_cons_zero, List.getElem?_cons_succ]
    congr 3
    omega
/-- A listed variable reads as it is listed (the list bears plain data alone). -/
theorem reads_of {l : List (String × DataW Unit)} {W : World} (h : laidMetH Tryd.prog l W) (hp : (l.all fun x => x.2.handleName?.isNone) = true) {n : String} {d : DataW Unit} (hm : (n, d) ∈ l) : Lib.VarReads Tryd.prog W n d := by
  rw [MakeChecks.laidMetH_plain _ _ _ hp] at h
  exact Lib.laidMet.reads h hm
theorem hasR_of {l : List (String × DataW Unit)} {W : World} (h : laidMetH Tryd.prog l W) (hp : (l.all fun x => x.2.handleName?.isNone) = true)
    (h1 : ("loop.example/g00004/impl.chainSteps", Rows.laid_loop_example_g00004_impl_chainSteps) ∈ l) (h2 : ("loop.example/g00004/impl.rootStep", Rows.laid_loop_example_g00004_impl_rootStep) ∈ l)
    (h3 : ("loop.example/g00004/impl.rootOfMinusOne", Rows.laid_loop_example_g00004_impl_rootOfMinusOne) ∈ l) (h4 : ("loop.example/g00004/impl.twiceP", Rows.laid_loop_example_g00004_impl_twiceP) ∈ l) : HasR W :=
  ⟨st_of_reads (reads_of h hp h1), three_of_reads gRo tRo (reads_of h hp h2), rm_of_reads (reads_of h hp h3), tw_of_reads (reads_of h hp h4)⟩
theorem laid_root {W : World} (h : laidMetH Tryd.prog Rows.fnExactFieldRootRow.laid W) : HasR W :=
  hasR_of h (by kernel_rfl) (.head _) (.tail _ (.head _)) (.tail _ (.tail _ (.head _))) (.tail _ (.tail _ (.tail _ (.head _))))
end Go.Proofs.YtbhmhkimddjhaaaDoor
/-
  The law of FieldRoot, with what the variables give.
-/
