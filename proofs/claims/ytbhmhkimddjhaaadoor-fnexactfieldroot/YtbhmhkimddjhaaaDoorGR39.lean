import Derived.Test.YtbhmhkimddjhaaaDoorRows
import Derived.Test.YtbhmhkimddjhaaaDoorGR36
import Derived.Lib.LaidTab
import Derived.Lib.LaidU8
import Derived.LaidMore
import Derived.Test.YtbhmhkimddjhaaaDoorGR38
/-
  What the listed variables of the root give the walks: their cells.
-/
namespace Go.Proofs.YtbhmhkimddjhaaaDoor
set_option maxRecDepth 100000
open Go.RowKit

theorem gTw : Tryd.prog.globalNamed "loop.example/g00004/impl.twiceP" = some 5 := by kernel_rfl
theorem tTw : (Tryd.prog.globals[5]?).map (·.type) = some 109 := by kernel_rfl
theorem uTw : Tryd.prog.underlying 109 = some (.array 5 49) := by kernel_rfl
theorem cTw : Tryd.prog.cellsOf 109 = 5 := by kernel_rfl
theorem cU64 : Tryd.prog.cellsOf 49 = 1 := by kernel_rfl
theorem tw_of_reads {W : World} (h : Lib.VarReads Tryd.prog W "loop.example/g00004/impl.twiceP" Rows.laid_loop_example_g00004_impl_twiceP) : HasTw W 5 := by
  obtain ⟨g, t, cs, fuel, p, hg, ht, hv, hd⟩ := h
  obtain rfl := Option.some.inj (gTw.symm.trans hg)
  obtain rfl := Option.some.inj (tTw.symm.trans ht)
  have hcs := Lib.cells_of_tab (zs := [4503599627370458, 4503599627370494, 4503599627370494, 4503599627370494, 4503599627370494]) uTw Tryd.underlying49 cU64 cTw hd
  intro k hk
  rw [World.var?_cell hg hv k]
  obtain ⟨l⟩ := cs
  simp only at hcs
  subst hcs
  obtain rfl | rfl | rfl | rfl | rfl : k = 0 ∨ k = 1 ∨ k = 2 ∨ k = 3 ∨ k = 4 := by omega
  all_goals rfl
theorem gRm : Tryd.prog.globalNamed "loop.example/g00004/impl.rootOfMinusOne" = some 4 := by kernel_rfl
theorem tRm : (Tryd.prog.globals[4]?).map (·.type) = some 76 := by kernel_rfl
theorem uEl : Tryd.prog.underlying 76 = some (.array 5 49) := by kernel_rfl
theorem cEl : Tryd.prog.cellsOf 76 = 5 := by kernel_rfl
theorem rm_of_reads {W : World} (h : Lib.VarReads Tryd.prog W "loop.example/g00004/impl.rootOfMinusOne" Rows.laid_loop_example_g00004_impl_rootOfMinusOne) : Has5 W 4 iL := by
  obtain ⟨g, t, cs, fuel, p, hg, ht, hv, hd⟩ := h
  obtain rfl := Option.some.inj (gRm.symm.trans hg)
  obtain rfl := Option.some.inj (tRm.symm.trans ht)
  have hcs := Lib.cells_of_tab (zs := [1718705420411056, 234908883556509, 2233514472574048, 2117202627021982, 765476049583133]) uEl Tryd.underlying49 cU64 cEl hd
  intro k hk
  rw [World.var?_cell hg hv k]
  obtain ⟨l⟩ := cs
  simp only at hcs
  subst hcs
  obtain rfl | rfl | rfl | rfl | rfl : k = 0 ∨ k = 1 ∨ k = 2 ∨ k = 3 ∨ k = 4 := by omega
  all_goals rfl
theorem gSt : Tryd.prog.globalNamed "loop.example/g00004/impl.chainSteps" = some 6 := by kernel_rfl
theorem tSt : (Tryd.prog.globals[6]?).map (·.type) = some 130 := by kernel_rfl
theorem gRo : Tryd.prog.globalNamed "loop.example/g00004/impl.rootStep" = some 3 := by kernel_rfl
theorem tRo : (Tryd.prog.globals[3]?).map (·.type) = some 113 := by kernel_rfl
theorem uSt : Tryd.prog.underlying 130 = some (.array 11 113) := by kernel_rfl
theorem cStep : Tryd.prog.cellsOf 113 = 3 := by kernel_rfl
theorem cInt : Tryd.prog.cellsOf 3 = 1 := by kernel_rfl
theorem step_cells {W : World} {base : Nat} {sp : Nat → Bool} {held : Bool} {fuel : Nat} {cs : List Value} {x y z : Int} {p : List MemPlace}
    (h : DataW.trod (fun _ => ()) Tryd.prog W base sp held fuel 113 cs = some (.agg [.lit (.int .i64 x), .lit (.int .i64 y), .lit (.int .i64 z)], p)) : cs = [.int .i64 x, .int .i64 y, .int .i64 z] := by
  have := Lib.ints_of_struct (k := .i64) (zs := [x, y, z]) Tryd.underlying113 (fun i f hf => by
    match i, hf with
    | 0, hf => cases hf; exact ⟨Tryd.underlying3, rfl, cInt⟩
    | 1, hf => cases hf; exact ⟨Tryd.underlying3, rfl, cInt⟩
    | 2, hf => cases hf; exact ⟨Tryd.underlying3, rfl, cInt⟩
    | i + 3, hf => simp at hf) (by rw [cStep]; rfl) h
  simpa using this
theorem three_of_reads {W : World} {n : String} {g : Nat} {x y z : Int} (hn : Tryd.prog.globalNamed n = some g) (ht : (Tryd.prog.globals[g]?).map (·.type) = some 113)
    (h : Lib.VarReads Tryd.prog W n (.agg [.lit (.int .i64 x), .lit (.int .i64 y), .lit (.int .i64 z)])) : Has3 W g x y z := by
  obtain ⟨g', t, cs, fuel, p, hg, ht', hv, hd⟩ := h
  obtain rfl := Option.some.inj (hn.symm.trans hg)
  obtain rfl := Option.some.inj (ht.symm.trans ht')
  have hcs := step_cells hd
  obtain ⟨l⟩ := cs
  simp only at hcs
  subst hcs
  exact ⟨by rw [World.var?_cell hg hv 0]; rfl, by rw [World.var?_cell hg hv 1]; rfl, by rw [World.var?_cell hg hv 2]; rfl⟩
theorem st_of_reads {W : World} (h : Lib.VarReads Tryd.prog W "loop.example/g00004/impl.chainSteps" Rows.laid_loop_example_g00004_impl_chainSteps) : HasSt W 6 := by
  obtain ⟨g, t, cs, fuel, p, hg, ht, hv, hd⟩ := h
  obtain rfl := Option.some.inj (gSt.symm.trans hg)
  obtain rfl := Option.some.inj (tSt.symm.trans ht)
  have key : ∀ j, j < 11 → (cs.toList.drop (j * 3)).take 3 = [.int .i64 (stL.getD (3 * j) 0), .int .i64 (stL.getD (3 * j + 1) 0), .int .i64 (stL.getD (3 * j + 2) 0)] := by
    intro j hj
    obtain ⟨f', d, q, h1, h2⟩ := Lib.array_elem uSt hd j hj
    rw [cStep] at h2
    obtain rfl | rfl | rfl | rfl | rfl | rfl | rfl | rfl | rfl | rfl | rfl : j = 0 ∨ j = 1 ∨ j = 2 ∨ j = 3 ∨ j = 4 ∨ j = 5 ∨ j = 6 ∨ j = 7 ∨ j = 8 ∨ j = 9 ∨ j = 10 := by omega
    all_goals
      cases h1
      exact step_cells h2
  intro i hi
  rw [World.var?_cell hg hv i]
  have k := key (i / 3) (by omega)
  have e : cs[i]? = ((cs.toList.drop (i / 3 * 3)).take 3)[i % 3]? := by
    rw [List.getElem?_take, if_pos (by omega), List.getElem?_drop, show i / 3 * 3 + i % 3 = i by omega]
    simp
  rw [e, k]
  rcases (show i % 3 = 0 ∨ i % 3 = 1 ∨ i % 3 = 2 by omega) with r | r | r
  all_goals
    rw [r]
    simp only [List.getElem?_cons_zero, List.getElem?_cons_succ]
    congr 3
    omega
/-- A listed variable reads as it is listed (the list bears plain data alone). -/
theorem reads_of {l : List (String × DataW Unit)} {W : World} (h : laidMetH Tryd.prog l W) (hp : (l.all fun x => x.2.handleName?.isNone) = true) {n : String} {d : DataW Unit} (hm : (n, d) ∈ l) : Lib.VarReads Tryd.prog W n d := by
  rw [MakeChecks.laidMetH_plain _ _ _ hp] at h
  exact Lib.laidMet.reads h hm
theorem hasR_of {l : List (String × DataW Unit)} {W : World} (h : laidMetH Tryd.prog l W) (hp : (l.all fun x => x.2.handleName?.isNone) = true)
    (h1 : ("loop.example/g00004/impl.chainSteps", Rows.laid_loop_example_g00004_impl_chainSteps) ∈ l) (h2 : ("loop.example/g00004/impl.rootStep", Rows.laid_loop_example_g00004_impl_rootStep) ∈ l)
    (h3 : ("loop.example/g00004/impl.rootOfMinusOne", Rows.laid_loop_example_g00004_impl_rootOfMinusOne) ∈ l) (h4 : ("loop.example/g00004/impl.twiceP", Rows.laid_loop_example_g00004_impl_twiceP) ∈ l) : HasR W :=
  ⟨st_of_reads (reads_of h hp h1), three_of_reads gRo tRo (reads_of h hp h2), rm_of_reads (reads_of h hp h3), tw_of_reads (reads_of h hp h4)⟩
theorem laid_root {W : World} (h : laidMetH Tryd.prog Rows.fnExactFieldRootRow.laid W) : HasR W :=
  hasR_of h (by kernel_rfl) (.head _) (.tail _ (.head _)) (.tail _ (.tail _ (.head _))) (.tail _ (.tail _ (.tail _ (.head _))))
end Go.Proofs.YtbhmhkimddjhaaaDoor
/-
  The law of FieldRoot, with what the variables give.
-/
