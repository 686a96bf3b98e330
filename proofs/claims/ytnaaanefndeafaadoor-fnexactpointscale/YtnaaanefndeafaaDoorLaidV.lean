
/-
  What the listed package-level variables give the walks: their cells.
-/
import Derived.Test.YtnaaanefndeafaaDoorRows
import Derived.Test.YtnaaanefndeafaaDoorSub
import Derived.Lib.LaidTab
import Derived.Lib.LaidU8
import Derived.LaidMore
namespace Go.Proofs.YtnaaanefndeafaaDoor
set_option maxRecDepth 100000
open Go.RowKit

theorem gTw : Tryd.prog.globalNamed "loop.example/g00004/impl.twiceP" = some 2 := by kernel_rfl
theorem tTw : (Tryd.prog.globals[2]?).map (·.type) = some 118 := by kernel_rfl
theorem uTw : Tryd.prog.underlying 118 = some (.array 5 47) := by kernel_rfl
theorem cTw : Tryd.prog.cellsOf 118 = 5 := by kernel_rfl
theorem cU64 : Tryd.prog.cellsOf 47 = 1 := by kernel_rfl
theorem tw_of_reads {W : World} (h : Lib.VarReads Tryd.prog W "loop.example/g00004/impl.twiceP" Rows.laid_loop_example_g00004_impl_twiceP) : HasTw W 2 := by
  obtain ⟨g, t, cs, fuel, p, hg, ht, hv, hd⟩ := h
  obtain rfl := Option.some.inj (gTw.symm.trans hg)
  obtain rfl := Option.some.inj (tTw.symm.trans ht)
  have hcs := Lib.cells_of_tab (zs := [4503599627370458, 4503599627370494, 4503599627370494, 4503599627370494, 4503599627370494]) uTw Tryd.underlying47 cU64 cTw hd
  intro k hk
  rw [World.var?_cell hg hv k]
  obtain ⟨l⟩ := cs
  simp only at hcs
  subst hcs
  obtain rfl | rfl | rfl | rfl | rfl : k = 0 ∨ k = 1 ∨ k = 2 ∨ k = 3 ∨ k = 4 := by omega
  all_goals rfl
/-- A listed variable reads as it is listed (the list bears plain data alone). -/
theorem reads_of {l : List (String × DataW Unit)} {W : World} (h : laidMetH Tryd.prog l W) (hp : (l.all fun x => x.2.handleName?.isNone) = true) {n : String} {d : DataW Unit} (hm : (n, d) ∈ l) : Lib.VarReads Tryd.prog W n d := by
  rw [MakeChecks.laidMetH_plain _ _ _ hp] at h
  exact Lib.laidMet.reads h hm
end Go.Proofs.YtnaaanefndeafaaDoor
