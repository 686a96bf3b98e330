
/-
  What the listed steps of the chain give the walks: their cells.
-/
import Derived.Test.YtnaaanefndeafaaDoorLaidV
import Derived.Test.YtnaaanefndeafaaDoorInvE
namespace Go.Proofs.YtnaaanefndeafaaDoor
set_option maxRecDepth 100000
open Go.RowKit

theorem gSt : Tryd.prog.globalNamed "loop.example/g00004/impl.chainSteps" = some 6 := by kernel_rfl
theorem tSt : (Tryd.prog.globals[6]?).map (·.type) = some 142 := by kernel_rfl
theorem gIn : Tryd.prog.globalNamed "loop.example/g00004/impl.inverseStep" = some 3 := by kernel_rfl
theorem tIn : (Tryd.prog.globals[3]?).map (·.type) = some 136 := by kernel_rfl
theorem gRo : Tryd.prog.globalNamed "loop.example/g00004/impl.rootStep" = some 4 := by kernel_rfl
theorem tRo : (Tryd.prog.globals[4]?).map (·.type) = some 136 := by kernel_rfl
theorem cStep : Tryd.prog.cellsOf 136 = 3 := by kernel_rfl
theorem cInt : Tryd.prog.cellsOf 3 = 1 := by kernel_rfl
theorem step_cells {W : World} {base : Nat} {sp : Nat → Bool} {held : Bool} {fuel : Nat} {cs : List Value} {x y z : Int} {p : List MemPlace}
    (h : DataW.trod (fun _ => ()) Tryd.prog W base sp held fuel 136 cs = some (.agg [.lit (.int .i64 x), .lit (.int .i64 y), .lit (.int .i64 z)], p)) : cs = [.int .i64 x, .int .i64 y, .int .i64 z] := by
  have := Lib.ints_of_struct (k := .i64) (zs := [x, y, z]) Tryd.underlying136 (fun i f hf => by
    match i, hf with
    | 0, hf => cases hf; exact ⟨Tryd.underlying3, rfl, cInt⟩
    | 1, hf => cases hf; exact ⟨Tryd.underlying3, rfl, cInt⟩
    | 2, hf => cases hf; exact ⟨Tryd.underlying3, rfl, cInt⟩
    | i + 3, hf => simp at hf) (by rw [cStep]; rfl) h
  simpa using this
theorem three_of_reads {W : World} {n : String} {g : Nat} {x y z : Int} (hn : Tryd.prog.globalNamed n = some g) (ht : (Tryd.prog.globals[g]?).map (·.type) = some 136)
    (h : Lib.VarReads Tryd.prog W n (.agg [.lit (.int .i64 x), .lit (.int .i64 y), .lit (.int .i64 z)])) : Has3 W g x y z := by
  obtain ⟨g', t, cs, fuel, p, hg, ht', hv, hd⟩ := h
  obtain rfl := Option.some.inj (hn.symm.trans hg)
  obtain rfl := Option.some.inj (ht.symm.trans ht')
  have hcs := step_cells hd
  obtain ⟨l⟩ := cs
  simp only at hcs
  subst hcs
  exact ⟨by rw [World.var?_cell hg hv 0]; rfl, by rw [World.var?_cell hg hv 1]; rfl, by rw [World.var?_cell hg hv 2]; rfl⟩
theorem st_of_reads {W : World} (h : Lib.VarReads Tryd.prog W "loop.example/g00004/impl.chainSteps" Rows.laid_loop_example_g00004_impl_chainSteps) : HasSt W 6 := by
  obtain ⟨g, t, cs, fuel, p, hg, ht, hv, hd⟩ := h
  obtain rfl := Option.some.inj (gSt.symm.trans hg)
  obtain rfl := Option.some.inj (tSt.symm.trans ht)
  have key : ∀ j, j < 11 → (cs.toList.drop (j * 3)).take 3 = [.int .i64 (stL.getD (3 * j) 0), .int .i64 (stL.getD (3 * j + 1) 0), .int .i64 (stL.getD (3 * j + 2) 0)] := by
    intro j hj
    obtain ⟨f', d, q, h1, h2⟩ := Lib.array_elem u86 hd j hj
    rw [cStep] at h2
    obtain rfl | rfl | rfl | rfl | rfl | rfl | rfl | rfl | rfl | rfl | rfl : j = 0 ∨ j = 1 ∨ j = 2 ∨ j = 3 ∨ j = 4 ∨ j = 5 ∨ j = 6 ∨ j = 7 ∨ j = 8 ∨ j = 9 ∨ j = 10 := by omega
    all_goals
      cases h1
      exact step_cells h2
  intro i hi
  rw [World.var?_cell hg hv i]
  have k := key (i / 3) (by omega)
  have e : cs[i]? = ((cs.toList.drop (i / 3 * 3)).take 3)[i % 3]? := by
    rw [List.getElem?_take, if_pos (by omega), List.getElem?_drop, show i / 3 * 3 + i % 3 = i by omega]
    simp
  rw [e, k]
  rcases (show i % 3 = 0 ∨ i % 3 = 1 ∨ i % 3 = 2 by omega) with r | r | r
  all_goals
    rw [r]
    simp only [List.getElem?_cons_zero, List.getElem?_cons_succ]
    congr 3
    omega
end Go.Proofs.YtnaaanefndeafaaDoor
