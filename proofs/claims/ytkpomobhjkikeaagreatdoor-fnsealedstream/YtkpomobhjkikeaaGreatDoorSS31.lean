import Derived.Test.YtkpomobhjkikeaaGreatDoorSS30
import Derived.Deep.MidRow
namespace Go.Proofs.YtkpomobhjkikeaaGreatDoor
set_option maxRecDepth 100000
open Go Go.RowKit
theorem gdv {a : Act} {p : Nat} {v : Value} (h : a.tmps.getD p undef = v) : a.tmps[p]?.getD undef = v := by rw [← h]; simp
section
variable {P : Program} {ops : Array Oper} {Q : Exit → Act → World → Prop} {md : Region.Mode} {F : Nat → Fact} {a0 : Act} {w0 : World}
theorem step_callv {i : Nat} {o : Oper} (hi : ops[i]? = some o) (n : FuncId) (args : Array Operand) (ts : Array TypeId) (hop : o.op = .call { callee := .value (.func n), args := args, argTypes := ts }) (he : enters P n = true)
    (G : ∀ a w, Based ops a0 a → Below w0.heap.size w0 w → Facts md ops F i a w → Calls P n (args.toList.map a.eval).toArray w fun e w' => ∃ v, e = .returned v ∧ Below w.heap.size w w' ∧ (F i).p v w') : StepOk P md ops Q F a0 w0 i := by
  intro o' ho' a w hb hw hf K hK
  obtain rfl := Option.some.inj (hi.symm.trans ho')
  have hr : (execOp a.eval o).run P w = .ok (.enter n (args.map a.eval)) w := by
    have h0 : (Deferred.ofValue (Value.func (Fn.func n) #[] #[]) (args.map a.eval)).run P w = .ok { target := .fn (.func n) #[], args := args.map a.eval } w := by simp [Deferred.ofValue]
    simp [execOp, hop, resolve, invoke, Act.eval, h0, run_enter he]
  have e : args.map a.eval = (args.toList.map a.eval).toArray := by cases args; simp
  unfold Oper.wp
  rw [hr, e, Oper.upon_enter]
  refine (G a w hb hw hf).mono ?_
  rintro e w' ⟨v, rfl, hn, hv⟩
  exact hK v w' hn hv
end
end Go.Proofs.YtkpomobhjkikeaaGreatDoor
