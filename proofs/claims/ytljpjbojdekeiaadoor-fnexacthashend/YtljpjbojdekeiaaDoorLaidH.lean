
/-
  What the listed words give the walks of the hashes (written by gens/lhash.py).
-/
import Derived.Test.YtljpjbojdekeiaaDoorRows
import Derived.Test.YtljpjbojdekeiaaDoorHsT
import Derived.Lib.LaidTab
import Derived.Lib.LaidU8
import Derived.LaidMore
namespace Go.Proofs.YtljpjbojdekeiaaDoor
set_option maxRecDepth 100000
open Go.RowKit

theorem gSt : Tryd.prog.globalNamed "loop.example/g00004/impl.startWords" = some 0 := by kernel_rfl
theorem tSt : (Tryd.prog.globals[0]?).map (·.type) = some 92 := by kernel_rfl
theorem gSp : Tryd.prog.globalNamed "loop.example/g00004/impl.stepWords" = some 1 := by kernel_rfl
theorem tSp : (Tryd.prog.globals[1]?).map (·.type) = some 108 := by kernel_rfl
theorem uSt : Tryd.prog.underlying 92 = some (.array 8 58) := by kernel_rfl
theorem uSp : Tryd.prog.underlying 108 = some (.array 80 58) := by kernel_rfl
theorem cSt : Tryd.prog.cellsOf 92 = 8 := by kernel_rfl
theorem cSp : Tryd.prog.cellsOf 108 = 80 := by kernel_rfl
theorem cUw : Tryd.prog.cellsOf 58 = 1 := by kernel_rfl
theorem uUw : Tryd.prog.underlying 58 = some (.int .u64) := by kernel_rfl
theorem hasT_of {W : World} {n : String} {g : Nat} {ty : TypeId} {N : Nat} {l : List Int} (hn : Tryd.prog.globalNamed n = some g) (ht : (Tryd.prog.globals[g]?).map (·.type) = some ty) (hu : Tryd.prog.underlying ty = some (.array N 58)) (hc : Tryd.prog.cellsOf ty = N)
    (h : Lib.VarReads Tryd.prog W n (.agg (l.map fun x => .lit (.int .u64 x)))) : HasT W g l := by
  obtain ⟨g', t, cs, fuel, p, hg, ht', hv, hd⟩ := h
  obtain rfl := Option.some.inj (hn.symm.trans hg)
  obtain rfl := Option.some.inj (ht.symm.trans ht')
  have hcs := Lib.cells_of_tab (zs := l) hu uUw cUw hc hd
  intro k hk
  rw [World.var?_cell hg hv k]
  obtain ⟨m⟩ := cs
  simp only at hcs
  subst hcs
  simp [hk]
theorem reads_ofH {l : List (String × DataW Unit)} {W : World} (h : laidMetH Tryd.prog l W) (hp : (l.all fun x => x.2.handleName?.isNone) = true) {n : String} {d : DataW Unit} (hm : (n, d) ∈ l) : Lib.VarReads Tryd.prog W n d := by
  rw [MakeChecks.laidMetH_plain _ _ _ hp] at h
  exact Lib.laidMet.reads h hm
theorem start_of {W : World} (h : Lib.VarReads Tryd.prog W "loop.example/g00004/impl.startWords" Rows.laid_loop_example_g00004_impl_startWords) : HasT W 0 stL := hasT_of gSt tSt uSt cSt h
theorem steps_of {W : World} (h : Lib.VarReads Tryd.prog W "loop.example/g00004/impl.stepWords" Rows.laid_loop_example_g00004_impl_stepWords) : HasT W 1 kL := hasT_of gSp tSp uSp cSp h
def HasH (W : World) : Prop := HasT W 0 stL ∧ HasT W 1 kL
theorem HasH.up {w w' : World} (h : HasH w) (n : Below w.heap.size w w') : HasH w' := ⟨h.1.up n, h.2.up n⟩
end Go.Proofs.YtljpjbojdekeiaaDoor
