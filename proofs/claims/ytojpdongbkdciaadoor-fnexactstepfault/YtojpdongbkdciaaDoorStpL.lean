
/-
  What the listed table of the steps' limits gives.
-/
import Derived.Test.YtojpdongbkdciaaDoorRows
import Derived.Test.YtojpdongbkdciaaDoorStpF
import Derived.Lib.LaidTab
import Derived.Lib.LaidU8
import Derived.LaidMore
import Derived.OpenShut
namespace Go.Proofs.YtojpdongbkdciaaDoor
set_option maxRecDepth 100000
open Go Go.RowKit

theorem gSl : Tryd.prog.globalNamed "loop.example/g00004/impl.stepLimits" = some 0 := by kernel_rfl
theorem tSl : (Tryd.prog.globals[0]?).map (·.type) = some 37 := by kernel_rfl
theorem uSl : Tryd.prog.underlying 37 = some (.array 11 36) := by kernel_rfl
theorem cSl : Tryd.prog.cellsOf 37 = 44 := by kernel_rfl
theorem cLm : Tryd.prog.cellsOf 36 = 4 := by kernel_rfl
theorem exLm : ∃ fs : Array Field, Tryd.prog.underlying 36 = some (.struct fs) ∧ fs.size = 4 ∧ ∀ i, i < 4 → ∃ f, fs[i]? = some f ∧ Tryd.prog.underlying f.type = some (.int .i64) ∧ f.offset = i ∧ Tryd.prog.cellsOf f.type = 1 := by
  refine ⟨((Tryd.prog.underlying 36).bind fun | .struct fs => some fs | _ => none).getD #[], by kernel_rfl, by kernel_rfl, ?_⟩
  intro i hi
  obtain rfl | rfl | rfl | rfl : i = 0 ∨ i = 1 ∨ i = 2 ∨ i = 3 := by omega
  all_goals exact ⟨_, rfl, by kernel_rfl, by kernel_rfl, by kernel_rfl⟩
theorem step_of {W : World} (h : Lib.VarReads Tryd.prog W "loop.example/g00004/impl.stepLimits" Rows.laid_loop_example_g00004_impl_stepLimits) : HasSt W := by
  obtain ⟨fsLm, uLm, sLm, fLm⟩ := exLm
  obtain ⟨g, t, cs, fuel, p, hg, ht, hv, hd⟩ := h
  obtain rfl := Option.some.inj (gSl.symm.trans hg)
  obtain rfl := Option.some.inj (tSl.symm.trans ht)
  obtain ⟨xs, m, rfl, hx, hl, hxl, hall⟩ := DataW.trod_array uSl hd
  rw [cLm] at hall
  intro k hk
  rw [World.var?_cell hg hv k]
  obtain ⟨l⟩ := cs
  obtain ⟨i, j, rfl, hj, hi⟩ : ∃ i j, k = i * 4 + j ∧ j < 4 ∧ i < 11 := ⟨k / 4, k % 4, by omega, by omega, by omega⟩
  have h1 := hall i hi
  obtain ⟨b, hb⟩ : ∃ b, xs[i]? = some b := ⟨xs[i]'(by omega), List.getElem?_eq_getElem (by omega)⟩
  rw [hb] at h1
  have hx1 := congrArg Prod.fst hx
  have hb1 : b.1 = .agg ([stA i 0, stA i 1, stA i 2, stA i 3].map fun z => .lit (.int .i64 z)) := by
    have e := hx1
    simp only [Rows.laid_loop_example_g00004_impl_stepLimits, DataW.agg.injEq] at e
    have e2 := congrArg (·[i]?) e
    simp only [List.getElem?_map, hb, Option.map_some] at e2
    obtain rfl | rfl | rfl | rfl | rfl | rfl | rfl | rfl | rfl | rfl | rfl : i = 0 ∨ i = 1 ∨ i = 2 ∨ i = 3 ∨ i = 4 ∨ i = 5 ∨ i = 6 ∨ i = 7 ∨ i = 8 ∨ i = 9 ∨ i = 10 := by omega
    all_goals (simp at e2; rw [← e2]; simp [stA, stT])
  have hcs := Lib.ints_of_struct (p := b.2) (zs := [stA i 0, stA i 1, stA i 2, stA i 3]) uLm (fun q f hq => by
    have hq4 : q < 4 := by
      have := (Array.getElem?_eq_some_iff.1 hq).1
      rw [sLm] at this
      exact this
    obtain ⟨f', hf', a, b, c⟩ := fLm q hq4
    obtain rfl := Option.some.inj (hq.symm.trans hf')
    exact ⟨a, b, c⟩) (by rw [cLm, sLm]) (by rw [← hb1]; exact h1)
  have h3 : l[i * 4 + j]? = ([stA i 0, stA i 1, stA i 2, stA i 3].map fun z => Value.int .i64 z)[j]? := by
    rw [← hcs]
    simp [hj]
  have h4 : (⟨l⟩ : Array Value)[i * 4 + j]? = l[i * 4 + j]? := by simp
  refine (show _ = _ from h4).trans ?_
  rw [h3]
  obtain rfl | rfl | rfl | rfl : j = 0 ∨ j = 1 ∨ j = 2 ∨ j = 3 := by omega
  all_goals rfl
theorem laid_step {W : World} (h : laidMetH Tryd.prog Rows.fnExactStepFaultRow.laid W) : HasSt W := by
  rw [MakeChecks.laidMetH_plain _ _ _ (by kernel_rfl)] at h
  exact step_of (Lib.laidMet.reads h (.head _))
end Go.Proofs.YtojpdongbkdciaaDoor
