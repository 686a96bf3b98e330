import Derived.Test.YtkpomobhjkikeaaGreatDoorSS28
import Derived.Deep.MidRow
namespace Go.Proofs.YtkpomobhjkikeaaGreatDoor
set_option maxRecDepth 100000
open Go Go.RowKit
def Fact.eq (v0 : Value) : Fact := ⟨fun v _ => v = v0, fun _ h => h⟩
def Fact.no : Fact := ⟨fun _ _ => True, fun _ h => h⟩
section
variable {P : Program} {ops : Array Oper} {Q : Exit → Act → World → Prop} {md : Region.Mode} {F : Nat → Fact} {a0 : Act} {w0 : World}
def Facts (md : Region.Mode) (ops : Array Oper) (F : Nat → Fact) (i : Nat) (a : Act) (w : World) : Prop := ∀ j d, waits md ops i j d = true → (F j).p (a.tmps.getD d undef) w
theorem step_pure {i : Nat} {o : Oper} (hi : ops[i]? = some o)
    (G : ∀ a w, Based ops a0 a → Below w0.heap.size w0 w → Facts md ops F i a w → ∃ v, (execOp a.eval o).run P w = .ok (.value v) w ∧ (F i).p v w) : StepOk P md ops Q F a0 w0 i := by
  intro o' ho' a w hb hw hf K hK
  obtain rfl := Option.some.inj (hi.symm.trans ho')
  obtain ⟨v, hr, hv⟩ := G a w hb hw hf
  unfold Oper.wp
  rw [hr]
  exact hK v w (Below.refl _ _) hv
theorem step_grow {i : Nat} {o : Oper} (hi : ops[i]? = some o)
    (G : ∀ a w, Based ops a0 a → Below w0.heap.size w0 w → Facts md ops F i a w → ∃ v w', (execOp a.eval o).run P w = .ok (.value v) w' ∧ Below w.heap.size w w' ∧ (F i).p v w') : StepOk P md ops Q F a0 w0 i := by
  intro o' ho' a w hb hw hf K hK
  obtain rfl := Option.some.inj (hi.symm.trans ho')
  obtain ⟨v, w', hr, hn, hv⟩ := G a w hb hw hf
  unfold Oper.wp
  rw [hr]
  exact hK v w' hn hv
theorem step_load {i : Nat} {o : Oper} (hi : ops[i]? = some o) (ty : TypeId) (x : Operand) (hop : o.op = .load ty x) (d : TypeDesc) (n : Nat) (hu : P.underlying ty = some d) (hd : d.isRow = true) (hs : (P.info? ty).map (·.size) = some n)
    (G : ∀ a w, Based ops a0 a → Below w0.heap.size w0 w → Facts md ops F i a w → ∃ b off cs, a.eval x = .pointer (some ⟨b, off, none⟩) ∧ w.rangeAt b off cs ∧ cs.length = n ∧ (F i).p (.agg cs.toArray) w) : StepOk P md ops Q F a0 w0 i := by
  intro o' ho' a w hb hw hf K hK
  obtain rfl := Option.some.inj (hi.symm.trans ho')
  obtain ⟨b, off, cs, hx, hc, hl, hv⟩ := G a w hb hw hf
  exact wp_load_mid ty x hop b off hx cs d hc hu hd (by rw [hl]; exact hs) (hK _ _ (Below.refl _ _) hv)
def enters (P : Program) (n : FuncId) : Bool :=
  match P.funcs[n]? with
  | some fn => !(fn.name == "runtime.NumGoroutine") && fn.body.isSome
  | none => false
theorem run_enter {n : FuncId} (h : enters P n = true) (args : Array Value) (w : World) : (callFunc n args).run P w = .ok (.enter n args) w := by
  unfold enters at h
  cases hq : P.funcs[n]? with
  | none => rw [hq] at h; simp at h
  | some fn =>
    rw [hq] at h
    simp only [Bool.and_eq_true, Bool.not_eq_true'] at h
    have h2 : fn.body ≠ none := fun e => by rw [e] at h; simp at h
    have h1 : ¬ fn.name = "runtime.NumGoroutine" := by simpa using h.1
    simp [callFunc, hq, h1, h2]
theorem based_at {a : Act} (hb : Based ops a0 a) (p : Nat) (hp : apart ops p = true) : a.eval (.tmp p) = a0.tmps.getD p undef := hb.2.2 p hp
end
end Go.Proofs.YtkpomobhjkikeaaGreatDoor
