
/-
  A region whose last operation is a call that may write what was there before.
-/
import Derived.Test.YtnfciobpfiibcaaDoorRgV
namespace Go.Proofs.YtnfciobpfiibcaaDoor
set_option maxRecDepth 100000
open Go Go.RowKit

section
variable {P : Program} {ops : Array Oper} {Q : Exit → Act → World → Prop} {a0 : Act}
theorem region_call {id : Nat} {w : World} {draw : Bool} (k : Nat) (o : Oper) (F : Nat → Fact) (hm : P.follows .mixedOrders = true) (hT : textOk .any ops a0.tmps.size k = true) (hk : ops[k]? = some o) (dd : Nat) (hdd : o.dst = some dd) (steps : ∀ i, i < k → StepOk P .any ops Q F a0 w i)
    (n : FuncId) (args : Array Operand) (ts : Array TypeId) (hop : o.op = .call { callee := .value (.func n), args := args, argTypes := ts }) (he : enters P n = true)
    (fin : ∀ a w', Based ops a0 a → Below w.heap.size w w' → (∀ i o d, i < k → ops[i]? = some o → o.dst = some d → (F i).p (a.tmps.getD d undef) w') →
      Calls P n (args.toList.map a.eval).toArray w' fun e w'' => ∃ v, e = .returned v ∧ Q .normal (a.put (some dd) v) w'') : (Code.region id ops draw).wp P Q a0 w := by
  refine region_facts k F hm hT steps fun a w' hb hw hf => ?_
  rw [hk]
  show o.wp P a w' (fun a' w'' => Q .normal a' w'') Q
  have hr : (execOp a.eval o).run P w' = .ok (.enter n (args.map a.eval)) w' := by
    have h0 : (Deferred.ofValue (Value.func (Fn.func n) #[] #[]) (args.map a.eval)).run P w' = .ok { target := .fn (.func n) #[], args := args.map a.eval } w' := by simp [Deferred.ofValue]
    simp [execOp, hop, resolve, invoke, Act.eval, h0, run_enter he]
  have e : args.map a.eval = (args.toList.map a.eval).toArray := by cases args; simp
  unfold Oper.wp
  rw [hr, e, Oper.upon_enter]
  refine (fin a w' hb hw hf).mono ?_
  rintro e w'' ⟨v, rfl, hv⟩
  rw [← hdd] at hv
  exact hv
theorem region_run {id : Nat} {w : World} {draw : Bool} (k : Nat) (o : Oper) (F : Nat → Fact) (hm : P.follows .mixedOrders = true) (hT : textOk .any ops a0.tmps.size k = true) (hk : ops[k]? = some o) (dd : Nat) (hdd : o.dst = some dd) (steps : ∀ i, i < k → StepOk P .any ops Q F a0 w i)
    (fin : ∀ a w', Based ops a0 a → Below w.heap.size w w' → (∀ i o d, i < k → ops[i]? = some o → o.dst = some d → (F i).p (a.tmps.getD d undef) w') →
      ∃ v w'', (execOp a.eval o).run P w' = .ok (.value v) w'' ∧ Q .normal (a.put (some dd) v) w'') : (Code.region id ops draw).wp P Q a0 w := by
  refine region_facts k F hm hT steps fun a w' hb hw hf => ?_
  rw [hk]
  show o.wp P a w' (fun a' w'' => Q .normal a' w'') Q
  obtain ⟨v, w'', hr, hq⟩ := fin a w' hb hw hf
  unfold Oper.wp
  rw [hr]
  rw [← hdd] at hq
  exact hq
/-- The last operation is a copy. -/
theorem region_copy {id : Nat} {w : World} {draw : Bool} (k : Nat) (o : Oper) (F : Nat → Fact) (hm : P.follows .mixedOrders = true) (hT : textOk .any ops a0.tmps.size k = true) (hk : ops[k]? = some o) (dd : Nat) (hdd : o.dst = some dd) (steps : ∀ i, i < k → StepOk P .any ops Q F a0 w i)
    (s x : Operand) (t tn ty : TypeId) (hop : o.op = .call { callee := .builtin .copy, args := #[s, x], argTypes := #[t, tn] }) (hty : o.type = ty)
    (fin : ∀ a w', Based ops a0 a → Below w.heap.size w w' → (∀ i o d, i < k → ops[i]? = some o → o.dst = some d → (F i).p (a.tmps.getD d undef) w') →
      ∃ v w'', (Builtin.copy_ #[t, tn] ty #[a.eval s, a.eval x]).run P w' = .ok v w'' ∧ Q .normal (a.put (some dd) v) w'') : (Code.region id ops draw).wp P Q a0 w := by
  refine region_run k o F hm hT hk dd hdd steps fun a w' hb hw hf => ?_
  obtain ⟨v, w'', hr, hq⟩ := fin a w' hb hw hf
  refine ⟨v, w'', ?_, hq⟩
  unfold execOp
  simp only [hop, hty, resolve, invoke, builtin, Sem.run_bind, Sem.run_pure, Result.andThen_ok, List.map_toArray, List.map_cons, List.map_nil, hr]
end
end Go.Proofs.YtnfciobpfiibcaaDoor
