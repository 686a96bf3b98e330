/-
  What the listed words of the order give the walks: their cells.
-/
import Derived.Test.YtbhmhkimddjhaaaDoorRows
import Derived.Test.YtbhmhkimddjhaaaDoorSca
import Derived.Lib.LaidTab
import Derived.Lib.LaidU8
import Derived.LaidMore
namespace Go.Proofs.YtbhmhkimddjhaaaDoor
set_option maxRecDepth 100000
open Go.RowKit

theorem gOg : Tryd.prog.globalNamed "loop.example/g00004/impl.orderOfGroup" = some 0 := by kernel_rfl
theorem tOg : (Tryd.prog.globals[0]?).map (·.type) = some 51 := by kernel_rfl
theorem gOs : Tryd.prog.globalNamed "loop.example/g00004/impl.orderSixteenfold" = some 2 := by kernel_rfl
theorem tOs : (Tryd.prog.globals[2]?).map (·.type) = some 51 := by kernel_rfl
theorem gOf : Tryd.prog.globalNamed "loop.example/g00004/impl.orderFolds" = some 1 := by kernel_rfl
theorem tOf : (Tryd.prog.globals[1]?).map (·.type) = some 91 := by kernel_rfl
theorem uSc : Tryd.prog.underlying 51 = some (.array 4 49) := by kernel_rfl
theorem uOf : Tryd.prog.underlying 91 = some (.array 4 51) := by kernel_rfl
theorem cSc : Tryd.prog.cellsOf 51 = 4 := by kernel_rfl
theorem cW : Tryd.prog.cellsOf 49 = 1 := by kernel_rfl
theorem four_of_reads {W : World} {n : String} {g : Nat} {x y z u : Int} (hn : Tryd.prog.globalNamed n = some g) (ht : (Tryd.prog.globals[g]?).map (·.type) = some 51)
    (h : Lib.VarReads Tryd.prog W n (.agg [.lit (.int .u64 x), .lit (.int .u64 y), .lit (.int .u64 z), .lit (.int .u64 u)])) (f : Nat → Int) (hf : f 0 = x ∧ f 1 = y ∧ f 2 = z ∧ f 3 = u) : HasW W g f 4 := by
  obtain ⟨g', t, cs, fuel, p, hg, ht', hv, hd⟩ := h
  obtain rfl := Option.some.inj (hn.symm.trans hg)
  obtain rfl := Option.some.inj (ht.symm.trans ht')
  have hcs := Lib.cells_of_tab (zs := [x, y, z, u]) uSc Tryd.underlying49 cW cSc hd
  obtain ⟨rfl, rfl, rfl, rfl⟩ := hf
  intro k hk
  rw [World.var?_cell hg hv k]
  obtain ⟨l⟩ := cs
  simp only at hcs
  subst hcs
  obtain rfl | rfl | rfl | rfl : k = 0 ∨ k = 1 ∨ k = 2 ∨ k = 3 := by omega
  all_goals rfl
theorem folds_of_reads {W : World} (h : Lib.VarReads Tryd.prog W "loop.example/g00004/impl.orderFolds" Rows.laid_loop_example_g00004_impl_orderFolds) : HasW W 1 (fun k => fw (k / 4) (k % 4)) 16 := by
  obtain ⟨g, t, cs, fuel, p, hg, ht, hv, hd⟩ := h
  obtain rfl := Option.some.inj (gOf.symm.trans hg)
  obtain rfl := Option.some.inj (tOf.symm.trans ht)
  have key : ∀ j, j < 4 → (cs.toList.drop (j * 4)).take 4 = [.int .u64 (fw j 0), .int .u64 (fw j 1), .int .u64 (fw j 2), .int .u64 (fw j 3)] := by
    intro j hj
    obtain ⟨f', d, q, h1, h2⟩ := Lib.array_elem uOf hd j hj
    rw [cSc] at h2
    obtain rfl | rfl | rfl | rfl : j = 0 ∨ j = 1 ∨ j = 2 ∨ j = 3 := by omega
    all_goals
      cases h1
      exact Lib.cells_of_tab (zs := [_, _, _, _]) uSc Tryd.underlying49 cW cSc h2
  intro i hi
  rw [World.var?_cell hg hv i]
  have k := key (i / 4) (by omega)
  have e : cs[i]? = ((cs.toList.drop (i / 4 * 4)).take 4)[i % 4]? := by
    rw [List.getElem?_take, if_pos (by omega), List.getElem?_drop, show i / 4 * 4 + i % 4 = i by omega]
    simp
  rw [e, k]
  show _ = some (Value.int .u64 (fw (i / 4) (i % 4)))
  rcases (show i % 4 = 0 ∨ i % 4 = 1 ∨ i % 4 = 2 ∨ i % 4 = 3 by omega) with r | r | r | r
  all_goals
    rw [r]
    rfl
/-- A listed variable reads as it is listed (the list bears plain data alone). -/
theorem reads_ofq {l : List (String × DataW Unit)} {W : World} (h : laidMetH Tryd.prog l W) (hp : (l.all fun x => x.2.handleName?.isNone) = true) {n : String} {d : DataW Unit} (hm : (n, d) ∈ l) : Lib.VarReads Tryd.prog W n d := by
  rw [MakeChecks.laidMetH_plain _ _ _ hp] at h
  exact Lib.laidMet.reads h hm
theorem q_of_reads {W : World} (h : Lib.VarReads Tryd.prog W "loop.example/g00004/impl.orderOfGroup" Rows.laid_loop_example_g00004_impl_orderOfGroup) : HasW W 0 qw 4 := four_of_reads gOg tOg h qw ⟨rfl, rfl, rfl, rfl⟩
theorem s_of_reads {W : World} (h : Lib.VarReads Tryd.prog W "loop.example/g00004/impl.orderSixteenfold" Rows.laid_loop_example_g00004_impl_orderSixteenfold) : HasW W 2 q16 4 := four_of_reads gOs tOs h q16 ⟨rfl, rfl, rfl, rfl⟩
theorem laid_obytes {W : World} (h : laidMetH Tryd.prog Rows.fnExactOrderBytesRow.laid W) : HasW W 0 qw 4 := q_of_reads (reads_ofq h (by kernel_rfl) (.head _))
theorem laid_ovalid {W : World} (h : laidMetH Tryd.prog Rows.fnExactOrderValidRow.laid W) : HasW W 0 qw 4 := q_of_reads (reads_ofq h (by kernel_rfl) (.head _))
/-- All three of them. -/
def HasO (W : World) : Prop := HasW W 0 qw 4 ∧ HasW W 2 q16 4 ∧ HasW W 1 (fun k => fw (k / 4) (k % 4)) 16
theorem HasO.up {W W' : World} (h : HasO W) (n : Below W.heap.size W W') : HasO W' := ⟨h.1.up n, h.2.1.up n, h.2.2.up n⟩
theorem laid_ored {W : World} (h : laidMetH Tryd.prog Rows.fnExactOrderReduceRow.laid W) : HasO W := ⟨q_of_reads (reads_ofq h (by kernel_rfl) (.head _)), s_of_reads (reads_ofq h (by kernel_rfl) (.tail _ (.head _))), folds_of_reads (reads_ofq h (by kernel_rfl) (.tail _ (.tail _ (.head _))))⟩
theorem laid_omul {W : World} (h : laidMetH Tryd.prog Rows.fnExactOrderMulAddRow.laid W) : HasO W := ⟨q_of_reads (reads_ofq h (by kernel_rfl) (.head _)), s_of_reads (reads_ofq h (by kernel_rfl) (.tail _ (.head _))), folds_of_reads (reads_ofq h (by kernel_rfl) (.tail _ (.tail _ (.head _))))⟩
theorem laid_onum {W : World} (h : laidMetH Tryd.prog Rows.fnOrderByNumbersRow.laid W) : HasO W := ⟨q_of_reads (reads_ofq h (by kernel_rfl) (.head _)), s_of_reads (reads_ofq h (by kernel_rfl) (.tail _ (.head _))), folds_of_reads (reads_ofq h (by kernel_rfl) (.tail _ (.tail _ (.head _))))⟩
end Go.Proofs.YtbhmhkimddjhaaaDoor
