
/-
  What the listed tables give the walks of times.
-/
import Derived.Test.YtakcpkfofgiehaaDoorRows
import Derived.Test.YtakcpkfofgiehaaDoorTmA
import Derived.Test.YtakcpkfofgiehaaDoorTmC
import Derived.Lib.LaidTab
import Derived.Lib.LaidU8
import Derived.LaidMore
namespace Go.Proofs.YtakcpkfofgiehaaDoor
set_option maxRecDepth 100000
open Go Go.RowKit

theorem gMl : Tryd.prog.globalNamed "loop.example/g00004/impl.monthLengths" = some 0 := by kernel_rfl
theorem tMl : (Tryd.prog.globals[0]?).map (·.type) = some 58 := by kernel_rfl
theorem uMl : Tryd.prog.underlying 58 = some (.array 12 2) := by kernel_rfl
theorem cMl : Tryd.prog.cellsOf 58 = 12 := by kernel_rfl
theorem cI64 : Tryd.prog.cellsOf 2 = 1 := by kernel_rfl
theorem uI64 : Tryd.prog.underlying 2 = some (.int .i64) := by kernel_rfl
theorem month_of {W : World} (h : Lib.VarReads Tryd.prog W "loop.example/g00004/impl.monthLengths" Rows.laid_loop_example_g00004_impl_monthLengths) : HasM W := by
  obtain ⟨g, t, cs, fuel, p, hg, ht, hv, hd⟩ := h
  obtain rfl := Option.some.inj (gMl.symm.trans hg)
  obtain rfl := Option.some.inj (tMl.symm.trans ht)
  have hcs := Lib.cells_of_tab (zs := mlL) uMl uI64 cI64 cMl hd
  intro k hk
  rw [World.var?_cell hg hv k]
  obtain ⟨l⟩ := cs
  simp only at hcs
  subst hcs
  obtain rfl | rfl | rfl | rfl | rfl | rfl | rfl | rfl | rfl | rfl | rfl | rfl : k = 0 ∨ k = 1 ∨ k = 2 ∨ k = 3 ∨ k = 4 ∨ k = 5 ∨ k = 6 ∨ k = 7 ∨ k = 8 ∨ k = 9 ∨ k = 10 ∨ k = 11 := by omega
  all_goals rfl
theorem gPw : Tryd.prog.globalNamed "internal/strconv.uint64pow10" = some 1 := by kernel_rfl
theorem tPw : (Tryd.prog.globals[1]?).map (·.type) = some 69 := by kernel_rfl
theorem uPw : Tryd.prog.underlying 69 = some (.array 20 59) := by kernel_rfl
theorem cPw : Tryd.prog.cellsOf 69 = 20 := by kernel_rfl
theorem cQ64 : Tryd.prog.cellsOf 59 = 1 := by kernel_rfl
theorem uQ64 : Tryd.prog.underlying 59 = some (.int .u64) := by kernel_rfl
theorem pow_tab : (Rows.laid_internal_strconv_uint64pow10 : DataW Unit) = .agg (Lib.pow10Tab.map fun x => .lit (.int .u64 x)) := by kernel_rfl
theorem pow_of {W : World} (h : Lib.VarReads Tryd.prog W "internal/strconv.uint64pow10" Rows.laid_internal_strconv_uint64pow10) : HasP W := by
  rw [pow_tab] at h
  obtain ⟨g, t, cs, fuel, p, hg, ht, hv, hd⟩ := h
  obtain rfl := Option.some.inj (gPw.symm.trans hg)
  obtain rfl := Option.some.inj (tPw.symm.trans ht)
  have hcs := Lib.cells_of_tab (zs := Lib.pow10Tab) uPw uQ64 cQ64 cPw hd
  show W.var? Tryd.prog "internal/strconv.uint64pow10" = some (Lib.pow10Tab.map fun z => Value.int .u64 z).toArray
  rw [hv]
  obtain ⟨l⟩ := cs
  simp only at hcs
  subst hcs
  rfl
theorem reads_ofM {l : List (String × DataW Unit)} {W : World} (h : laidMetH Tryd.prog l W) (hp : (l.all fun x => x.2.handleName?.isNone) = true) {n : String} {d : DataW Unit} (hm : (n, d) ∈ l) : Lib.VarReads Tryd.prog W n d := by
  rw [MakeChecks.laidMetH_plain _ _ _ hp] at h
  exact Lib.laidMet.reads h hm
def HasQ (W : World) : Prop := HasM W ∧ HasP W
theorem laid_encTime {W : World} (h : laidMetH Tryd.prog Rows.fnExactEncodeTimeRow.laid W) : HasQ W := ⟨month_of (reads_ofM h (by kernel_rfl) (.tail _ (.tail _ (.tail _ (.head _))))), pow_of (reads_ofM h (by kernel_rfl) (.tail _ (.tail _ (.head _))))⟩
theorem laid_decTime {W : World} (h : laidMetH Tryd.prog Rows.fnExactDecodeTimeRow.laid W) : HasM W := month_of (reads_ofM h (by kernel_rfl) (.head _))
theorem laid_timesBack {W : World} (h : laidMetH Tryd.prog Rows.fnTimesBackRow.laid W) : HasQ W := ⟨month_of (reads_ofM h (by kernel_rfl) (.tail _ (.tail _ (.tail _ (.head _))))), pow_of (reads_ofM h (by kernel_rfl) (.tail _ (.tail _ (.head _))))⟩
end Go.Proofs.YtakcpkfofgiehaaDoor
