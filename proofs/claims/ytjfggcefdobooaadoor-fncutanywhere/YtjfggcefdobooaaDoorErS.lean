
/-
  Errors at package level (errors.New): what a row's listed ones give a walk.
-/
import Derived.Test.YtjfggcefdobooaaDoorBase
import Derived.Test.YtjfggcefdobooaaDoorRows
import Derived.Stop.LaidTwo
import Derived.LaidMore
namespace Go.Proofs.YtjfggcefdobooaaDoor
set_option maxRecDepth 100000
open Go Go.RowKit

/-- An error as errors.New makes it. -/
def erV (a : Addr) : Value := .iface 80 (.pointer (some a))
/-- The variable g holds the error at a. -/
structure Sen (W : World) (g : Nat) (a : Addr) : Prop where
  c : W.cell? ⟨g, 0, none⟩ = some (erV a)
  b : ∃ cs t, W.heap[a.block]? = some (.cells cs t (0, 0))
theorem Sen.up {w w' : World} {g : Nat} {a : Addr} (h : Sen w g a) (n : Below w.heap.size w w') : Sen w' g a := by
  refine ⟨(World.cell?_of_block (a := ⟨g, 0, none⟩) (n.block g (block_lt_of_cell h.c))).trans h.c, ?_⟩
  obtain ⟨cs, t, hb⟩ := h.b
  exact ⟨cs, t, (n.block a.block (Array.getElem?_eq_some_iff.1 hb).1).trans hb⟩
theorem laidVars_sub {P : Program} {W : World} {l l' : List (String × DataW Unit)} (hs : l'.Sublist l) : ∀ ps, DataW.LaidVars P W l ps → ∃ ps', DataW.LaidVars P W l' ps' ∧ ps'.Sublist ps := by
  induction hs with
  | slnil => exact fun ps h => ⟨ps, h, List.Sublist.refl _⟩
  | cons x _ ih =>
    rintro ps ⟨g, t, cs, fuel, p, q, _, _, _, _, hq, rfl⟩
    obtain ⟨q', h1, h2⟩ := ih q hq
    exact ⟨q', h1, h2.trans (List.sublist_append_right _ _)⟩
  | cons_cons x _ ih =>
    rintro ps ⟨g, t, cs, fuel, p, q, a1, a2, a3, a4, hq, rfl⟩
    obtain ⟨q', h1, h2⟩ := ih q hq
    exact ⟨_, ⟨g, t, cs, fuel, p, q', a1, a2, a3, a4, h1, rfl⟩, (List.Sublist.refl _).append h2⟩
theorem laidMet_sub {P : Program} {W : World} {l l' : List (String × DataW Unit)} (h : laidMet P l W) (hs : l'.Sublist l) : laidMet P l' W := by
  obtain ⟨ps, hv, hnd, hrows⟩ := h
  obtain ⟨ps', h1, h2⟩ := laidVars_sub hs ps hv
  exact ⟨ps', h1, hnd.sublist h2, fun b off hm => hrows b off (h2.subset hm)⟩
def erD (text : List UInt8) : DataW Unit := .iface "*errors.errorString" (.ptr (.agg [.lit (.string text)]))
theorem erStar : "*" ++ "errors.errorString" = "*errors.errorString" := by decide
theorem erRow (u : TypeId) (h : Tryd.prog.typeName? 3 u = some "*errors.errorString") : u = 80 :=
  typeName_ptr_named (nm := "errors.errorString") (by rw [erStar]; kernel_rfl) (by kernel_rfl) (by decide) u (by rw [erStar]; exact h)
theorem erCs : Tryd.prog.cellsOf 106 = 1 := by kernel_rfl
theorem erCt : Tryd.prog.cellsOf 9 = 1 := by kernel_rfl
theorem sen_of_var {W : World} {n : String} {g : Nat} {a : Addr} (hg : Tryd.prog.globalNamed n = some g) (hv : W.var? Tryd.prog n = some #[.iface 80 (.pointer (some a))]) (hb : ∃ cs t, W.heap[a.block]? = some (.cells cs t (0, 0))) : Sen W g a :=
  ⟨by have := World.var?_cell hg hv 0; simpa [erV] using this, hb⟩
theorem sen_pair {W : World} {l : List (String × DataW Unit)} (h : laidMetH Tryd.prog l W) (hp : (l.all fun x => x.2.handleName?.isNone) = true) {n0 n1 : String} {x0 x1 : List UInt8} {g0 g1 : Nat} (hs : [(n0, erD x0), (n1, erD x1)].Sublist l)
    (hg0 : Tryd.prog.globalNamed n0 = some g0) (ht0 : (Tryd.prog.globals[g0]?).map (·.type) = some 45) (hg1 : Tryd.prog.globalNamed n1 = some g1) (ht1 : (Tryd.prog.globals[g1]?).map (·.type) = some 45) :
    ∃ a0 a1, Sen W g0 a0 ∧ Sen W g1 a1 ∧ a0 ≠ a1 := by
  rw [MakeChecks.laidMetH_plain _ _ _ hp] at h
  obtain ⟨a0, a1, s0, s1, c0, c1, t0, t1, hv0, hv1, -, -, -, -, -, -, hne, hb0, hb1⟩ := laid_sentinels2 (laidMet_sub h hs) hg0 ht0 hg1 ht1 Tryd.underlying45 erRow Tryd.underlying80 Tryd.underlying106 rfl rfl Tryd.underlying9 erCs erCt
  exact ⟨a0, a1, sen_of_var hg0 hv0 ⟨_, _, hb0⟩, sen_of_var hg1 hv1 ⟨_, _, hb1⟩, hne⟩
theorem Sen.same {W : World} {g : Nat} {a a' : Addr} (h : Sen W g a) (h' : Sen W g a') : a = a' := by
  have := h.c.symm.trans h'.c
  simpa [erV] using this
/-- An error is not nil. -/
theorem er_neq (a : Addr) (W : World) : (binOp BinOp.neq 45 (.iface 80 (.pointer (some a))) .nilIface).run Tryd.prog W = .ok (.bool true) W := by kernel_rfl
theorem er_eq (a : Addr) (W : World) : (binOp BinOp.eql 45 (.iface 80 (.pointer (some a))) .nilIface).run Tryd.prog W = .ok (.bool false) W := by kernel_rfl
theorem nil_neq (W : World) : (binOp BinOp.neq 45 .nilIface .nilIface).run Tryd.prog W = .ok (.bool false) W := by kernel_rfl
theorem nil_eq (W : World) : (binOp BinOp.eql 45 .nilIface .nilIface).run Tryd.prog W = .ok (.bool true) W := by kernel_rfl
end Go.Proofs.YtjfggcefdobooaaDoor
