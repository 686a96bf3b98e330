import Derived.Test.YtmfajpplagbfcaaGreatDoorHBxRegF
import Derived.Deep.MidRow
import Derived.Test.YtmfajpplagbfcaaGreatDoorHB12
import Derived.Deep.Cut
import Derived.Test.YtmfajpplagbfcaaGreatDoorHB4
import Derived.Test.YtmfajpplagbfcaaGreatDoorHB3
import Derived.Test.YtmfajpplagbfcaaGreatDoorHB1
import Derived.Lib.AppendStr
import Derived.Test.YtmfajpplagbfcaaGreatDoorHB7
namespace Go.Proofs.YtmfajpplagbfcaaGreatDoor
set_option maxRecDepth 100000
open Go Go.RowKit
def Fact.eq (v0 : Value) : Fact := ⟨fun v _ => v = v0, fun _ h => h⟩
def Fact.no : Fact := ⟨fun _ _ => True, fun _ h => h⟩
section
variable {P : Program} {ops : Array Oper} {Q : Exit → Act → World → Prop} {md : Region.Mode} {F : Nat → Fact} {a0 : Act} {w0 : World}
def Facts (md : Region.Mode) (ops : Array Oper) (F : Nat → Fact) (i : Nat) (a : Act) (w : World) : Prop := ∀ j d, waits md ops i j d = true → (F j).p (a.tmps.getD d undef) w
theorem step_pure {i : Nat} {o : Oper} (hi : ops[i]? = some o)
    (G : ∀ a w, Based ops a0 a → Below w0.heap.size w0 w → Facts md ops F i a w → ∃ v, (execOp a.eval o).run P w = .ok (.value v) w ∧ (F i).p v w) : StepOk P md ops Q F a0 w0 i := by
  intro o' ho' a w hb hw hf K hK
  obtain rfl := Option.some.inj (hi.symm.trans ho')
  obtain ⟨v, hr, hv⟩ := G a w hb hw hf
  unfold Oper.wp
  rw [hr]
  exact hK v w (Below.refl _ _) hv
theorem step_grow {i : Nat} {o : Oper} (hi : ops[i]? = some o)
    (G : ∀ a w, Based ops a0 a → Below w0.heap.size w0 w → Facts md ops F i a w → ∃ v w', (execOp a.eval o).run P w = .ok (.value v) w' ∧ Below w.heap.size w w' ∧ (F i).p v w') : StepOk P md ops Q F a0 w0 i := by
  intro o' ho' a w hb hw hf K hK
  obtain rfl := Option.some.inj (hi.symm.trans ho')
  obtain ⟨v, w', hr, hn, hv⟩ := G a w hb hw hf
  unfold Oper.wp
  rw [hr]
  exact hK v w' hn hv
theorem step_load {i : Nat} {o : Oper} (hi : ops[i]? = some o) (ty : TypeId) (x : Operand) (hop : o.op = .load ty x) (d : TypeDesc) (n : Nat) (hu : P.underlying ty = some d) (hd : d.isRow = true) (hs : (P.info? ty).map (·.size) = some n)
    (G : ∀ a w, Based ops a0 a → Below w0.heap.size w0 w → Facts md ops F i a w → ∃ b off cs, a.eval x = .pointer (some ⟨b, off, none⟩) ∧ w.rangeAt b off cs ∧ cs.length = n ∧ (F i).p (.agg cs.toArray) w) : StepOk P md ops Q F a0 w0 i := by
  intro o' ho' a w hb hw hf K hK
  obtain rfl := Option.some.inj (hi.symm.trans ho')
  obtain ⟨b, off, cs, hx, hc, hl, hv⟩ := G a w hb hw hf
  exact wp_load_mid ty x hop b off hx cs d hc hu hd (by rw [hl]; exact hs) (hK _ _ (Below.refl _ _) hv)
def enters (P : Program) (n : FuncId) : Bool :=
  match P.funcs[n]? with
  | some fn => !(fn.name == "runtime.NumGoroutine") && fn.body.isSome
  | none => false
theorem run_enter {n : FuncId} (h : enters P n = true) (args : Array Value) (w : World) : (callFunc n args).run P w = .ok (.enter n args) w := by
  unfold enters at h
  cases hq : P.funcs[n]? with
  | none => rw [hq] at h; simp at h
  | some fn =>
    rw [hq] at h
    simp only [Bool.and_eq_true, Bool.not_eq_true'] at h
    have h2 : fn.body ≠ none := fun e => by rw [e] at h; simp at h
    have h1 : ¬ fn.name = "runtime.NumGoroutine" := by simpa using h.1
    simp [callFunc, hq, h1, h2]
theorem based_at {a : Act} (hb : Based ops a0 a) (p : Nat) (hp : apart ops p = true) : a.eval (.tmp p) = a0.tmps.getD p undef := hb.2.2 p hp
end
end Go.Proofs.YtmfajpplagbfcaaGreatDoor
namespace Go.Proofs.YtmfajpplagbfcaaGreatDoor
set_option maxRecDepth 100000
open Go Go.RowKit
theorem gdv {a : Act} {p : Nat} {v : Value} (h : a.tmps.getD p undef = v) : a.tmps[p]?.getD undef = v := by rw [← h]; simp
section
variable {P : Program} {ops : Array Oper} {Q : Exit → Act → World → Prop} {md : Region.Mode} {F : Nat → Fact} {a0 : Act} {w0 : World}
theorem step_callv {i : Nat} {o : Oper} (hi : ops[i]? = some o) (n : FuncId) (args : Array Operand) (ts : Array TypeId) (hop : o.op = .call { callee := .value (.func n), args := args, argTypes := ts }) (he : enters P n = true)
    (G : ∀ a w, Based ops a0 a → Below w0.heap.size w0 w → Facts md ops F i a w → Calls P n (args.toList.map a.eval).toArray w fun e w' => ∃ v, e = .returned v ∧ Below w.heap.size w w' ∧ (F i).p v w') : StepOk P md ops Q F a0 w0 i := by
  intro o' ho' a w hb hw hf K hK
  obtain rfl := Option.some.inj (hi.symm.trans ho')
  have hr : (execOp a.eval o).run P w = .ok (.enter n (args.map a.eval)) w := by
    have h0 : (Deferred.ofValue (Value.func (Fn.func n) #[] #[]) (args.map a.eval)).run P w = .ok { target := .fn (.func n) #[], args := args.map a.eval } w := by simp [Deferred.ofValue]
    simp [execOp, hop, resolve, invoke, Act.eval, h0, run_enter he]
  have e : args.map a.eval = (args.toList.map a.eval).toArray := by cases args; simp
  unfold Oper.wp
  rw [hr, e, Oper.upon_enter]
  refine (G a w hb hw hf).mono ?_
  rintro e w' ⟨v, rfl, hn, hv⟩
  exact hK v w' hn hv
theorem region_put {id : Nat} {draw : Bool} {w : World} (k jD jV pD pV : Nat) (o : Oper) (F : Nat → Fact) (q off : Nat) (ty : TypeId) (cells : List Value) (hm : P.follows .mixedOrders = true) (hT : textOk .any ops a0.tmps.size k = true) (hk : ops[k]? = some o) (hd : o.dst = none)
    (hop : o.op = .store ty (.tmp pD) (.tmp pV)) (wD : writes ops jD pD = true) (FD : F jD = Fact.eq (.pointer (some ⟨q, off, none⟩))) (wV : writes ops jV pV = true) (FV : F jV = Fact.eq (.agg cells.toArray))
    (hth : ∀ W, Below w.heap.size w W → W.there q off cells.length) (hi : (P.info? ty).map (·.size) = some cells.length) (h1 : cells.toArray.all (·.oneCell') = true) (steps : ∀ i, i < k → StepOk P .any ops Q F a0 w i)
    (fin : ∀ (vs : Nat → Value) (W : World), Below w.heap.size w W → Q .normal (puts vs a0 ops.toList) (W.setCells q off cells)) : (Code.region id ops draw).wp P Q a0 w := by
  refine region_store k o F hm hT hk hd steps fun a W hb hw hF => ?_
  have e1 := hF jD pD wD
  have e2 := hF jV pV wV
  rw [FD] at e1
  rw [FV] at e2
  refine wp_store_mid ty (.tmp pD) (.tmp pV) hop q off cells.toArray e1 e2 (by rw [List.size_toArray]; exact hth W hw) (by rw [List.size_toArray]; exact hi) h1 ?_
  obtain ⟨vs, hvs⟩ : ∃ vs : Nat → Value, ∀ d, a.tmps.getD d undef = vs d := ⟨_, fun _ => rfl⟩
  rw [hd]
  show Q .normal a _
  rw [puts_of hT rfl hb vs hvs]
  exact fin vs W hw
end
end Go.Proofs.YtmfajpplagbfcaaGreatDoor
namespace Go.Proofs.YtmfajpplagbfcaaGreatDoor
set_option maxRecDepth 100000
open Go Go.RowKit
theorem region_putK {P : Program} {ops : Array Oper} {Q : Exit → Act → World → Prop} {a0 : Act} {id : Nat} {draw : Bool} {w : World} (k jV pD pV : Nat) (o : Oper) (F : Nat → Fact) (q : Nat) (ty : TypeId) (cells : List Value) (hm : P.follows .mixedOrders = true) (hT : textOk .any ops a0.tmps.size k = true) (hk : ops[k]? = some o) (hd : o.dst = none)
    (hop : o.op = .store ty (.tmp pD) (.tmp pV)) (hp : apart ops pD = true) (h0 : a0.tmps.getD pD undef = .pointer (some ⟨q, 0, none⟩)) (wV : writes ops jV pV = true) (FV : F jV = Fact.eq (.agg cells.toArray)) (hth : ∀ W, Below w.heap.size w W → W.there q 0 cells.length) (hi : (P.info? ty).map (·.size) = some cells.length) (h1 : cells.toArray.all (·.oneCell') = true) (steps : ∀ i, i < k → StepOk P .any ops Q F a0 w i)
    (fin : ∀ (vs : Nat → Value) (W : World), Below w.heap.size w W → Q .normal (puts vs a0 ops.toList) (W.setCells q 0 cells)) : (Code.region id ops draw).wp P Q a0 w := by
  refine region_store k o F hm hT hk hd steps fun a W hb hw hF => ?_
  have e2 := hF jV pV wV
  rw [FV] at e2
  refine wp_store_mid ty (.tmp pD) (.tmp pV) hop q 0 cells.toArray ((based_at hb pD hp).trans h0) e2 (by rw [List.size_toArray]; exact hth W hw) (by rw [List.size_toArray]; exact hi) h1 ?_
  obtain ⟨vs, hvs⟩ : ∃ vs : Nat → Value, ∀ d, a.tmps.getD d undef = vs d := ⟨_, fun _ => rfl⟩
  rw [hd]
  show Q .normal a _
  rw [puts_of hT rfl hb vs hvs]
  exact fin vs W hw
theorem RwC.there {w : World} {q : Nat} {cs : List Value} {t : TypeId} (h : RwC w q cs t) : w.there q 0 cs.length := fun j hj => by
  rw [Nat.zero_add, h.cell j, h.free j]
  exact ⟨by simp [hj], rfl⟩
theorem only_setM (w : World) (q : Nat) : ∀ (vs : List Value) (o : Nat), Only q w (w.setCells q o vs)
  | [], _ => Only.refl _ _
  | v :: vs, o => (Only.setCell w q o v).trans (only_setM _ q vs (o + 1))
section
variable (w : World) (q : Nat) (t : TypeId) (v ag ea : Int) (a2 a3 a5 a6 a9 : Option Addr) (n2 n3 n5 n6 n9 c2 c3 c5 c6 c9 : Nat) (ho : ByteArray)
theorem bu13 : (Instr.build 26 #[(0, Value.int .i64 1), (1, Value.int .i64 v), (2, Value.slice a2 n2 c2), (3, Value.slice a3 n3 c3), (4, Value.string ho), (5, Value.slice a5 n5 c5), (6, Value.slice a6 n6 c6), (7, Value.int .i64 ag), (8, Value.int .i64 ea), (9, Value.slice a9 n9 c9)]).run Tryz.prog w = .ok (.agg #[Value.int .i64 1, Value.int .i64 v, Value.slice a2 n2 c2, Value.slice a3 n3 c3, Value.string ho, Value.slice a5 n5 c5, Value.slice a6 n6 c6, Value.int .i64 ag, Value.int .i64 ea, Value.slice a9 n9 c9, Value.bool false, Value.slice none 0 0, Value.slice none 0 0]) w := by kernel_rfl
theorem ex_bu {a : Act} {o : Oper} (hop : o.op = .build 26 #[(0, Operand.const (Value.int .i64 1)), (1, Operand.tmp 20), (2, Operand.tmp 25), (3, Operand.tmp 30), (4, Operand.tmp 34), (5, Operand.tmp 38), (6, Operand.tmp 42), (7, Operand.tmp 46), (8, Operand.tmp 50), (9, Operand.tmp 54)]) (x20 : a.eval (.tmp 20) = Value.int .i64 v) (x25 : a.eval (.tmp 25) = Value.slice a2 n2 c2) (x30 : a.eval (.tmp 30) = Value.slice a3 n3 c3) (x34 : a.eval (.tmp 34) = Value.string ho) (x38 : a.eval (.tmp 38) = Value.slice a5 n5 c5) (x42 : a.eval (.tmp 42) = Value.slice a6 n6 c6) (x46 : a.eval (.tmp 46) = Value.int .i64 ag) (x50 : a.eval (.tmp 50) = Value.int .i64 ea) (x54 : a.eval (.tmp 54) = Value.slice a9 n9 c9) : (execOp a.eval o).run Tryz.prog w = .ok (.value (.agg #[Value.int .i64 1, Value.int .i64 v, Value.slice a2 n2 c2, Value.slice a3 n3 c3, Value.string ho, Value.slice a5 n5 c5, Value.slice a6 n6 c6, Value.int .i64 ag, Value.int .i64 ea, Value.slice a9 n9 c9, Value.bool false, Value.slice none 0 0, Value.slice none 0 0])) w := by
  have xc : a.eval (.const (.int .i64 1)) = Value.int .i64 1 := rfl
  have gg : (#[(0, Operand.const (Value.int .i64 1)), (1, Operand.tmp 20), (2, Operand.tmp 25), (3, Operand.tmp 30), (4, Operand.tmp 34), (5, Operand.tmp 38), (6, Operand.tmp 42), (7, Operand.tmp 46), (8, Operand.tmp 50), (9, Operand.tmp 54)].map fun (n, x) => (n, a.eval x)) = #[(0, Value.int .i64 1), (1, Value.int .i64 v), (2, Value.slice a2 n2 c2), (3, Value.slice a3 n3 c3), (4, Value.string ho), (5, Value.slice a5 n5 c5), (6, Value.slice a6 n6 c6), (7, Value.int .i64 ag), (8, Value.int .i64 ea), (9, Value.slice a9 n9 c9)] := by simp [x20, x25, x30, x34, x38, x42, x46, x50, x54, xc]
  simp only [execOp, hop, gg]
  rw [Sem.run_bind, bu13]
  rfl
theorem one13 : ([Value.int .i64 1, Value.int .i64 v, Value.slice a2 n2 c2, Value.slice a3 n3 c3, Value.string ho, Value.slice a5 n5 c5, Value.slice a6 n6 c6, Value.int .i64 ag, Value.int .i64 ea, Value.slice a9 n9 c9, Value.bool false, Value.slice none 0 0, Value.slice none 0 0] : List Value).toArray.all (·.oneCell') = true := all_oneCell_toArray fun v hv => by
  simp only [List.mem_cons, List.not_mem_nil, or_false] at hv
  rcases hv with rfl | rfl | rfl | rfl | rfl | rfl | rfl | rfl | rfl | rfl | rfl | rfl | rfl
  all_goals rfl
set_option maxRecDepth 20000 in
set_option maxHeartbeats 4000000 in
theorem plainHello_any (h : RwC w q [Value.int .i64 v, Value.slice a2 n2 c2, Value.slice a3 n3 c3, Value.string ho, Value.slice a5 n5 c5, Value.slice a6 n6 c6, Value.int .i64 ag, Value.int .i64 ea, Value.slice a9 n9 c9] t) :
    Calls Tryz.prog 40 #[.iface 85 (.pointer (some ⟨q, 0, none⟩))] w fun e w' => e = .returned (.agg #[Value.int .i64 1, Value.int .i64 v, Value.slice a2 n2 c2, Value.slice a3 n3 c3, Value.string ho, Value.slice a5 n5 c5, Value.slice a6 n6 c6, Value.int .i64 ag, Value.int .i64 ea, Value.slice a9 n9 c9, Value.bool false, Value.slice none 0 0, Value.slice none 0 0]) ∧ Below w.heap.size w w' := by
  have lt := h.lt
  have A_hello : ∀ (x : Value) (W : World), (Instr.typeAssert (.iface 85 x) 38 85 true).run Tryz.prog W = .ok (.tuple #[x, .bool true]) W := fun _ _ => by kernel_rfl
  have RN := RwC.new w (#[Value.int .i64 0, Value.int .i64 0, Value.slice none 0 0, Value.slice none 0 0, Value.string ⟨#[]⟩, Value.slice none 0 0, Value.slice none 0 0, Value.int .i64 0, Value.int .i64 0, Value.slice none 0 0, Value.bool false, Value.slice none 0 0, Value.slice none 0 0] : Array Value).toList 26
  have n0 : Below w.heap.size w (w.alloc (.cells #[Value.int .i64 0, Value.int .i64 0, Value.slice none 0 0, Value.slice none 0 0, Value.string ⟨#[]⟩, Value.slice none 0 0, Value.slice none 0 0, Value.int .i64 0, Value.int .i64 0, Value.slice none 0 0, Value.bool false, Value.slice none 0 0, Value.slice none 0 0] 26)) := (Below.refl _ _).alloc (Nat.le_refl _) _
  obtain ⟨d13, hd13, hrow13⟩ := rowM
  replace h := h.up n0
  have RN : RwC (w.alloc (.cells #[Value.int .i64 0, Value.int .i64 0, Value.slice none 0 0, Value.slice none 0 0, Value.string ⟨#[]⟩, Value.slice none 0 0, Value.slice none 0 0, Value.int .i64 0, Value.int .i64 0, Value.slice none 0 0, Value.bool false, Value.slice none 0 0, Value.slice none 0 0] 26)) w.heap.size (#[Value.int .i64 0, Value.int .i64 0, Value.slice none 0 0, Value.slice none 0 0, Value.string ⟨#[]⟩, Value.slice none 0 0, Value.slice none 0 0, Value.int .i64 0, Value.int .i64 0, Value.slice none 0 0, Value.bool false, Value.slice none 0 0, Value.slice none 0 0] : Array Value).toList 26 := RN
  go_enter Tryz.func40, Tryz.ntmps40
  go_upto_region 4 with fail
  generalize w.alloc (.cells #[Value.int .i64 0, Value.int .i64 0, Value.slice none 0 0, Value.slice none 0 0, Value.string ⟨#[]⟩, Value.slice none 0 0, Value.slice none 0 0, Value.int .i64 0, Value.int .i64 0, Value.slice none 0 0, Value.bool false, Value.slice none 0 0, Value.slice none 0 0] 26) = wb at *
  refine region_putK 40 39 2 55 _ (fun i => [Fact.eq (.pointer (some ⟨q, 0, none⟩)), Fact.eq (.pointer (some ⟨q, 0, none⟩)), Fact.eq (.pointer (some ⟨q, 0, none⟩)), Fact.eq (.pointer (some ⟨q, 0, none⟩)), Fact.eq (Value.int .i64 v), Fact.eq (.pointer (some ⟨q, 0, none⟩)), Fact.eq (.pointer (some ⟨q, 0, none⟩)), Fact.eq (.pointer (some ⟨q, 0, none⟩)), Fact.eq (.pointer (some ⟨q, 1, none⟩)), Fact.eq (Value.slice a2 n2 c2), Fact.eq (.pointer (some ⟨q, 0, none⟩)), Fact.eq (.pointer (some ⟨q, 0, none⟩)), Fact.eq (.pointer (some ⟨q, 0, none⟩)), Fact.eq (.pointer (some ⟨q, 2, none⟩)), Fact.eq (Value.slice a3 n3 c3), Fact.eq (.pointer (some ⟨q, 0, none⟩)), Fact.eq (.pointer (some ⟨q, 0, none⟩)), Fact.eq (.pointer (some ⟨q, 3, none⟩)), Fact.eq (Value.string ho), Fact.eq (.pointer (some ⟨q, 0, none⟩)), Fact.eq (.pointer (some ⟨q, 0, none⟩)), Fact.eq (.pointer (some ⟨q, 4, none⟩)), Fact.eq (Value.slice a5 n5 c5), Fact.eq (.pointer (some ⟨q, 0, none⟩)), Fact.eq (.pointer (some ⟨q, 0, none⟩)), Fact.eq (.pointer (some ⟨q, 5, none⟩)), Fact.eq (Value.slice a6 n6 c6), Fact.eq (.pointer (some ⟨q, 0, none⟩)), Fact.eq (.pointer (some ⟨q, 0, none⟩)), Fact.eq (.pointer (some ⟨q, 6, none⟩)), Fact.eq (Value.int .i64 ag), Fact.eq (.pointer (some ⟨q, 0, none⟩)), Fact.eq (.pointer (some ⟨q, 0, none⟩)), Fact.eq (.pointer (some ⟨q, 7, none⟩)), Fact.eq (Value.int .i64 ea), Fact.eq (.pointer (some ⟨q, 0, none⟩)), Fact.eq (.pointer (some ⟨q, 0, none⟩)), Fact.eq (.pointer (some ⟨q, 8, none⟩)), Fact.eq (Value.slice a9 n9 c9), Fact.eq (.agg #[Value.int .i64 1, Value.int .i64 v, Value.slice a2 n2 c2, Value.slice a3 n3 c3, Value.string ho, Value.slice a5 n5 c5, Value.slice a6 n6 c6, Value.int .i64 ag, Value.int .i64 ea, Value.slice a9 n9 c9, Value.bool false, Value.slice none 0 0, Value.slice none 0 0])].getD i Fact.no) w.heap.size 26 [Value.int .i64 1, Value.int .i64 v, Value.slice a2 n2 c2, Value.slice a3 n3 c3, Value.string ho, Value.slice a5 n5 c5, Value.slice a6 n6 c6, Value.int .i64 ag, Value.int .i64 ea, Value.slice a9 n9 c9, Value.bool false, Value.slice none 0 0, Value.slice none 0 0] (by kernel_rfl) (by kernel_rfl) rfl rfl rfl (by kernel_rfl) rfl (by kernel_rfl) rfl (fun W n => (RN.up n).there) iM (one13 _ _ _ _ _ _ _ _ _ _ _ _ _ _ _ _ _ _ _) ?_ ?_
  · intro i hi
    obtain rfl | rfl | rfl | rfl | rfl | rfl | rfl | rfl | rfl | rfl | rfl | rfl | rfl | rfl | rfl | rfl | rfl | rfl | rfl | rfl | rfl | rfl | rfl | rfl | rfl | rfl | rfl | rfl | rfl | rfl | rfl | rfl | rfl | rfl | rfl | rfl | rfl | rfl | rfl | rfl : i = 0 ∨ i = 1 ∨ i = 2 ∨ i = 3 ∨ i = 4 ∨ i = 5 ∨ i = 6 ∨ i = 7 ∨ i = 8 ∨ i = 9 ∨ i = 10 ∨ i = 11 ∨ i = 12 ∨ i = 13 ∨ i = 14 ∨ i = 15 ∨ i = 16 ∨ i = 17 ∨ i = 18 ∨ i = 19 ∨ i = 20 ∨ i = 21 ∨ i = 22 ∨ i = 23 ∨ i = 24 ∨ i = 25 ∨ i = 26 ∨ i = 27 ∨ i = 28 ∨ i = 29 ∨ i = 30 ∨ i = 31 ∨ i = 32 ∨ i = 33 ∨ i = 34 ∨ i = 35 ∨ i = 36 ∨ i = 37 ∨ i = 38 ∨ i = 39 := by omega
    · refine step_pure rfl fun A ww hb hw hf => ?_
      have e3 : A.tmps[3]?.getD undef = .pointer (some ⟨q, 0, none⟩) := gdv (hb.2.2 3 (by kernel_rfl))
      exact ⟨.pointer (some ⟨q, 0, none⟩), by simp [go_sem, e3], rfl⟩
    · refine step_pure rfl fun A ww hb hw hf => ?_
      have e16 : A.tmps[16]?.getD undef = .pointer (some ⟨q, 0, none⟩) := gdv (hf 0 16 (by kernel_rfl))
      exact ⟨.pointer (some ⟨q, 0, none⟩), by simp [go_sem, e16], rfl⟩
    · refine step_pure rfl fun A ww hb hw hf => ?_
      have e17 : A.tmps[17]?.getD undef = .pointer (some ⟨q, 0, none⟩) := gdv (hf 1 17 (by kernel_rfl))
      exact ⟨.pointer (some ⟨q, 0, none⟩), by simp [go_sem, e17], rfl⟩
    · refine step_pure rfl fun A ww hb hw hf => ?_
      have e18 : A.tmps[18]?.getD undef = .pointer (some ⟨q, 0, none⟩) := gdv (hf 2 18 (by kernel_rfl))
      exact ⟨.pointer (some ⟨q, 0, none⟩), by simp [go_sem, e18], rfl⟩
    · refine step_pure rfl fun A ww hb hw hf => ?_
      have e19 : A.tmps[19]?.getD undef = .pointer (some ⟨q, 0, none⟩) := gdv (hf 3 19 (by kernel_rfl))
      have hc : ww.cell? ⟨q, 0, none⟩ = some (Value.int .i64 v) := (h.up hw).cell 0
      exact ⟨Value.int .i64 v, by simp [go_sem, e19, hc], rfl⟩
    · refine step_pure rfl fun A ww hb hw hf => ?_
      have e3 : A.tmps[3]?.getD undef = .pointer (some ⟨q, 0, none⟩) := gdv (hb.2.2 3 (by kernel_rfl))
      exact ⟨.pointer (some ⟨q, 0, none⟩), by simp [go_sem, e3], rfl⟩
    · refine step_pure rfl fun A ww hb hw hf => ?_
      have e21 : A.tmps[21]?.getD undef = .pointer (some ⟨q, 0, none⟩) := gdv (hf 5 21 (by kernel_rfl))
      exact ⟨.pointer (some ⟨q, 0, none⟩), by simp [go_sem, e21], rfl⟩
    · refine step_pure rfl fun A ww hb hw hf => ?_
      have e22 : A.tmps[22]?.getD undef = .pointer (some ⟨q, 0, none⟩) := gdv (hf 6 22 (by kernel_rfl))
      exact ⟨.pointer (some ⟨q, 0, none⟩), by simp [go_sem, e22], rfl⟩
    · refine step_pure rfl fun A ww hb hw hf => ?_
      have e23 : A.tmps[23]?.getD undef = .pointer (some ⟨q, 0, none⟩) := gdv (hf 7 23 (by kernel_rfl))
      exact ⟨.pointer (some ⟨q, 1, none⟩), by simp [go_sem, e23], rfl⟩
    · refine step_pure rfl fun A ww hb hw hf => ?_
      have e24 : A.tmps[24]?.getD undef = .pointer (some ⟨q, 1, none⟩) := gdv (hf 8 24 (by kernel_rfl))
      have hc : ww.cell? ⟨q, 1, none⟩ = some (Value.slice a2 n2 c2) := (h.up hw).cell 1
      exact ⟨Value.slice a2 n2 c2, by simp [go_sem, e24, hc], rfl⟩
    · refine step_pure rfl fun A ww hb hw hf => ?_
      have e3 : A.tmps[3]?.getD undef = .pointer (some ⟨q, 0, none⟩) := gdv (hb.2.2 3 (by kernel_rfl))
      exact ⟨.pointer (some ⟨q, 0, none⟩), by simp [go_sem, e3], rfl⟩
    · refine step_pure rfl fun A ww hb hw hf => ?_
      have e26 : A.tmps[26]?.getD undef = .pointer (some ⟨q, 0, none⟩) := gdv (hf 10 26 (by kernel_rfl))
      exact ⟨.pointer (some ⟨q, 0, none⟩), by simp [go_sem, e26], rfl⟩
    · refine step_pure rfl fun A ww hb hw hf => ?_
      have e27 : A.tmps[27]?.getD undef = .pointer (some ⟨q, 0, none⟩) := gdv (hf 11 27 (by kernel_rfl))
      exact ⟨.pointer (some ⟨q, 0, none⟩), by simp [go_sem, e27], rfl⟩
    · refine step_pure rfl fun A ww hb hw hf => ?_
      have e28 : A.tmps[28]?.getD undef = .pointer (some ⟨q, 0, none⟩) := gdv (hf 12 28 (by kernel_rfl))
      exact ⟨.pointer (some ⟨q, 2, none⟩), by simp [go_sem, e28], rfl⟩
    · refine step_pure rfl fun A ww hb hw hf => ?_
      have e29 : A.tmps[29]?.getD undef = .pointer (some ⟨q, 2, none⟩) := gdv (hf 13 29 (by kernel_rfl))
      have hc : ww.cell? ⟨q, 2, none⟩ = some (Value.slice a3 n3 c3) := (h.up hw).cell 2
      exact ⟨Value.slice a3 n3 c3, by simp [go_sem, e29, hc], rfl⟩
    · refine step_pure rfl fun A ww hb hw hf => ?_
      have e3 : A.tmps[3]?.getD undef = .pointer (some ⟨q, 0, none⟩) := gdv (hb.2.2 3 (by kernel_rfl))
      exact ⟨.pointer (some ⟨q, 0, none⟩), by simp [go_sem, e3], rfl⟩
    · refine step_pure rfl fun A ww hb hw hf => ?_
      have e31 : A.tmps[31]?.getD undef = .pointer (some ⟨q, 0, none⟩) := gdv (hf 15 31 (by kernel_rfl))
      exact ⟨.pointer (some ⟨q, 0, none⟩), by simp [go_sem, e31], rfl⟩
    · refine step_pure rfl fun A ww hb hw hf => ?_
      have e32 : A.tmps[32]?.getD undef = .pointer (some ⟨q, 0, none⟩) := gdv (hf 16 32 (by kernel_rfl))
      exact ⟨.pointer (some ⟨q, 3, none⟩), by simp [go_sem, e32], rfl⟩
    · refine step_pure rfl fun A ww hb hw hf => ?_
      have e33 : A.tmps[33]?.getD undef = .pointer (some ⟨q, 3, none⟩) := gdv (hf 17 33 (by kernel_rfl))
      have hc : ww.cell? ⟨q, 3, none⟩ = some (Value.string ho) := (h.up hw).cell 3
      exact ⟨Value.string ho, by simp [go_sem, e33, hc], rfl⟩
    · refine step_pure rfl fun A ww hb hw hf => ?_
      have e3 : A.tmps[3]?.getD undef = .pointer (some ⟨q, 0, none⟩) := gdv (hb.2.2 3 (by kernel_rfl))
      exact ⟨.pointer (some ⟨q, 0, none⟩), by simp [go_sem, e3], rfl⟩
    · refine step_pure rfl fun A ww hb hw hf => ?_
      have e35 : A.tmps[35]?.getD undef = .pointer (some ⟨q, 0, none⟩) := gdv (hf 19 35 (by kernel_rfl))
      exact ⟨.pointer (some ⟨q, 0, none⟩), by simp [go_sem, e35], rfl⟩
    · refine step_pure rfl fun A ww hb hw hf => ?_
      have e36 : A.tmps[36]?.getD undef = .pointer (some ⟨q, 0, none⟩) := gdv (hf 20 36 (by kernel_rfl))
      exact ⟨.pointer (some ⟨q, 4, none⟩), by simp [go_sem, e36], rfl⟩
    · refine step_pure rfl fun A ww hb hw hf => ?_
      have e37 : A.tmps[37]?.getD undef = .pointer (some ⟨q, 4, none⟩) := gdv (hf 21 37 (by kernel_rfl))
      have hc : ww.cell? ⟨q, 4, none⟩ = some (Value.slice a5 n5 c5) := (h.up hw).cell 4
      exact ⟨Value.slice a5 n5 c5, by simp [go_sem, e37, hc], rfl⟩
    · refine step_pure rfl fun A ww hb hw hf => ?_
      have e3 : A.tmps[3]?.getD undef = .pointer (some ⟨q, 0, none⟩) := gdv (hb.2.2 3 (by kernel_rfl))
      exact ⟨.pointer (some ⟨q, 0, none⟩), by simp [go_sem, e3], rfl⟩
    · refine step_pure rfl fun A ww hb hw hf => ?_
      have e39 : A.tmps[39]?.getD undef = .pointer (some ⟨q, 0, none⟩) := gdv (hf 23 39 (by kernel_rfl))
      exact ⟨.pointer (some ⟨q, 0, none⟩), by simp [go_sem, e39], rfl⟩
    · refine step_pure rfl fun A ww hb hw hf => ?_
      have e40 : A.tmps[40]?.getD undef = .pointer (some ⟨q, 0, none⟩) := gdv (hf 24 40 (by kernel_rfl))
      exact ⟨.pointer (some ⟨q, 5, none⟩), by simp [go_sem, e40], rfl⟩
    · refine step_pure rfl fun A ww hb hw hf => ?_
      have e41 : A.tmps[41]?.getD undef = .pointer (some ⟨q, 5, none⟩) := gdv (hf 25 41 (by kernel_rfl))
      have hc : ww.cell? ⟨q, 5, none⟩ = some (Value.slice a6 n6 c6) := (h.up hw).cell 5
      exact ⟨Value.slice a6 n6 c6, by simp [go_sem, e41, hc], rfl⟩
    · refine step_pure rfl fun A ww hb hw hf => ?_
      have e3 : A.tmps[3]?.getD undef = .pointer (some ⟨q, 0, none⟩) := gdv (hb.2.2 3 (by kernel_rfl))
      exact ⟨.pointer (some ⟨q, 0, none⟩), by simp [go_sem, e3], rfl⟩
    · refine step_pure rfl fun A ww hb hw hf => ?_
      have e43 : A.tmps[43]?.getD undef = .pointer (some ⟨q, 0, none⟩) := gdv (hf 27 43 (by kernel_rfl))
      exact ⟨.pointer (some ⟨q, 0, none⟩), by simp [go_sem, e43], rfl⟩
    · refine step_pure rfl fun A ww hb hw hf => ?_
      have e44 : A.tmps[44]?.getD undef = .pointer (some ⟨q, 0, none⟩) := gdv (hf 28 44 (by kernel_rfl))
      exact ⟨.pointer (some ⟨q, 6, none⟩), by simp [go_sem, e44], rfl⟩
    · refine step_pure rfl fun A ww hb hw hf => ?_
      have e45 : A.tmps[45]?.getD undef = .pointer (some ⟨q, 6, none⟩) := gdv (hf 29 45 (by kernel_rfl))
      have hc : ww.cell? ⟨q, 6, none⟩ = some (Value.int .i64 ag) := (h.up hw).cell 6
      exact ⟨Value.int .i64 ag, by simp [go_sem, e45, hc], rfl⟩
    · refine step_pure rfl fun A ww hb hw hf => ?_
      have e3 : A.tmps[3]?.getD undef = .pointer (some ⟨q, 0, none⟩) := gdv (hb.2.2 3 (by kernel_rfl))
      exact ⟨.pointer (some ⟨q, 0, none⟩), by simp [go_sem, e3], rfl⟩
    · refine step_pure rfl fun A ww hb hw hf => ?_
      have e47 : A.tmps[47]?.getD undef = .pointer (some ⟨q, 0, none⟩) := gdv (hf 31 47 (by kernel_rfl))
      exact ⟨.pointer (some ⟨q, 0, none⟩), by simp [go_sem, e47], rfl⟩
    · refine step_pure rfl fun A ww hb hw hf => ?_
      have e48 : A.tmps[48]?.getD undef = .pointer (some ⟨q, 0, none⟩) := gdv (hf 32 48 (by kernel_rfl))
      exact ⟨.pointer (some ⟨q, 7, none⟩), by simp [go_sem, e48], rfl⟩
    · refine step_pure rfl fun A ww hb hw hf => ?_
      have e49 : A.tmps[49]?.getD undef = .pointer (some ⟨q, 7, none⟩) := gdv (hf 33 49 (by kernel_rfl))
      have hc : ww.cell? ⟨q, 7, none⟩ = some (Value.int .i64 ea) := (h.up hw).cell 7
      exact ⟨Value.int .i64 ea, by simp [go_sem, e49, hc], rfl⟩
    · refine step_pure rfl fun A ww hb hw hf => ?_
      have e3 : A.tmps[3]?.getD undef = .pointer (some ⟨q, 0, none⟩) := gdv (hb.2.2 3 (by kernel_rfl))
      exact ⟨.pointer (some ⟨q, 0, none⟩), by simp [go_sem, e3], rfl⟩
    · refine step_pure rfl fun A ww hb hw hf => ?_
      have e51 : A.tmps[51]?.getD undef = .pointer (some ⟨q, 0, none⟩) := gdv (hf 35 51 (by kernel_rfl))
      exact ⟨.pointer (some ⟨q, 0, none⟩), by simp [go_sem, e51], rfl⟩
    · refine step_pure rfl fun A ww hb hw hf => ?_
      have e52 : A.tmps[52]?.getD undef = .pointer (some ⟨q, 0, none⟩) := gdv (hf 36 52 (by kernel_rfl))
      exact ⟨.pointer (some ⟨q, 8, none⟩), by simp [go_sem, e52], rfl⟩
    · refine step_pure rfl fun A ww hb hw hf => ?_
      have e53 : A.tmps[53]?.getD undef = .pointer (some ⟨q, 8, none⟩) := gdv (hf 37 53 (by kernel_rfl))
      have hc : ww.cell? ⟨q, 8, none⟩ = some (Value.slice a9 n9 c9) := (h.up hw).cell 8
      exact ⟨Value.slice a9 n9 c9, by simp [go_sem, e53, hc], rfl⟩
    · refine step_pure rfl fun A ww hb hw hf => ?_
      have x20 : A.eval (.tmp 20) = Value.int .i64 v := hf 4 20 (by kernel_rfl)
      have x25 : A.eval (.tmp 25) = Value.slice a2 n2 c2 := hf 9 25 (by kernel_rfl)
      have x30 : A.eval (.tmp 30) = Value.slice a3 n3 c3 := hf 14 30 (by kernel_rfl)
      have x34 : A.eval (.tmp 34) = Value.string ho := hf 18 34 (by kernel_rfl)
      have x38 : A.eval (.tmp 38) = Value.slice a5 n5 c5 := hf 22 38 (by kernel_rfl)
      have x42 : A.eval (.tmp 42) = Value.slice a6 n6 c6 := hf 26 42 (by kernel_rfl)
      have x46 : A.eval (.tmp 46) = Value.int .i64 ag := hf 30 46 (by kernel_rfl)
      have x50 : A.eval (.tmp 50) = Value.int .i64 ea := hf 34 50 (by kernel_rfl)
      have x54 : A.eval (.tmp 54) = Value.slice a9 n9 c9 := hf 38 54 (by kernel_rfl)
      exact ⟨.agg #[Value.int .i64 1, Value.int .i64 v, Value.slice a2 n2 c2, Value.slice a3 n3 c3, Value.string ho, Value.slice a5 n5 c5, Value.slice a6 n6 c6, Value.int .i64 ag, Value.int .i64 ea, Value.slice a9 n9 c9, Value.bool false, Value.slice none 0 0, Value.slice none 0 0], ex_bu ww v ag ea a2 a3 a5 a6 a9 n2 n3 n5 n6 n9 c2 c3 c5 c6 c9 ho rfl x20 x25 x30 x34 x38 x42 x46 x50 x54, rfl⟩
  intro vs W hw
  have th := (RN.up hw).there
  have RR := World.rangeAt_setCells_same W w.heap.size 0 [Value.int .i64 1, Value.int .i64 v, Value.slice a2 n2 c2, Value.slice a3 n3 c3, Value.string ho, Value.slice a5 n5 c5, Value.slice a6 n6 c6, Value.int .i64 ag, Value.int .i64 ea, Value.slice a9 n9 c9, Value.bool false, Value.slice none 0 0, Value.slice none 0 0] th
  have OQ := only_setM W w.heap.size [Value.int .i64 1, Value.int .i64 v, Value.slice a2 n2 c2, Value.slice a3 n3 c3, Value.string ho, Value.slice a5 n5 c5, Value.slice a6 n6 c6, Value.int .i64 ag, Value.int .i64 ea, Value.slice a9 n9 c9, Value.bool false, Value.slice none 0 0, Value.slice none 0 0] 0
  have N2 : Below w.heap.size w (W.setCells w.heap.size 0 [Value.int .i64 1, Value.int .i64 v, Value.slice a2 n2 c2, Value.slice a3 n3 c3, Value.string ho, Value.slice a5 n5 c5, Value.slice a6 n6 c6, Value.int .i64 ag, Value.int .i64 ea, Value.slice a9 n9 c9, Value.bool false, Value.slice none 0 0, Value.slice none 0 0]) := (nxt n0 hw).trans (OQ.below (Nat.le_refl _))
  generalize W.setCells w.heap.size 0 [Value.int .i64 1, Value.int .i64 v, Value.slice a2 n2 c2, Value.slice a3 n3 c3, Value.string ho, Value.slice a5 n5 c5, Value.slice a6 n6 c6, Value.int .i64 ag, Value.int .i64 ea, Value.slice a9 n9 c9, Value.bool false, Value.slice none 0 0, Value.slice none 0 0] = W2 at *
  simp only [puts, Act.put, List.setIfInBounds_toArray, List.set_cons_succ, List.set_cons_zero]
  clear OQ th RN h
  go_wp2
  exact bodyPost_ret (v := .agg #[Value.int .i64 1, Value.int .i64 v, Value.slice a2 n2 c2, Value.slice a3 n3 c3, Value.string ho, Value.slice a5 n5 c5, Value.slice a6 n6 c6, Value.int .i64 ag, Value.int .i64 ea, Value.slice a9 n9 c9, Value.bool false, Value.slice none 0 0, Value.slice none 0 0]) (results_cellM Tryz.results40 _ _ w.heap.size [Value.int .i64 1, Value.int .i64 v, Value.slice a2 n2 c2, Value.slice a3 n3 c3, Value.string ho, Value.slice a5 n5 c5, Value.slice a6 n6 c6, Value.int .i64 ag, Value.int .i64 ea, Value.slice a9 n9 c9, Value.bool false, Value.slice none 0 0, Value.slice none 0 0] d13 rfl RR hd13 hrow13 iM) rfl ⟨rfl, N2⟩
end
def helloM (m : Msg) : Msg := { msg0 with k := 1, v := m.v, r := m.r, s := m.s, ho := m.ho, pr := m.pr, ti := m.ti, ag := m.ag, ea := m.ea, bi := m.bi }
def helloQ (p : MQ) : MQ := { mq0 with a2 := p.a2, c2 := p.c2, g2 := p.g2, a3 := p.a3, c3 := p.c3, g3 := p.g3, a5 := p.a5, c5 := p.c5, g5 := p.g5, a6 := p.a6, c6 := p.c6, g6 := p.g6, a9 := p.a9, c9 := p.c9, g9 := p.g9 }
theorem helloM_is {m : Msg} (i : IsM m) : IsM (helloM m) := ⟨i.rB, i.sB, i.tiB, i.biB, byt0, none0 rfl, i.rL, i.sL, i.prL, i.tiL, i.biL, Nat.zero_le _, Nat.zero_le _, none0 rfl, i.hoL, i.prZ⟩
theorem helloM_has {w : World} {p : MQ} {m : Msg} (h : HasM w p m) : HasM w (helloQ p) (helloM m) := ⟨h.r, h.s, h.pr, h.ti, h.bi, rdL0 _ _ _ _, rd0 _ _ _ _, h.prC⟩
theorem typedHello_any (w : World) (p : MQ) (m : Msg) (h : HasM w p m) (i : IsM m) (hk : m.k = 1) :
    Calls Tryz.prog 19 #[.agg (mgV p m)] w (TyP w (sameM (helloM m) m) 85 89 [.int .i64 m.v, .slice p.a2 m.r.length p.c2, .slice p.a3 m.s.length p.c3, .string ⟨⟨m.ho⟩⟩, .slice p.a5 m.pr.length p.c5, .slice p.a6 m.ti.length p.c6, .int .i64 m.ag, .int .i64 m.ea, .slice p.a9 m.bi.length p.c9] (heF m.v m.r.length m.s.length m.ho m.pr m.ti.length m.bi.length m.ag m.ea)) := by
  obtain ⟨k, v, r, s, ho, pr, ti, ag, ea, bi, rs, ce, pf⟩ := m
  simp only at hk
  subst hk
  exact typedHello_walk w v ag ea p.a2 p.a3 p.a5 p.a6 p.a9 p.a11 p.a12 r.length s.length pr.length ti.length bi.length ce.length pf.length p.c2 p.c3 p.c5 p.c6 p.c9 p.c11 p.c12 ⟨⟨ho⟩⟩ rs (mgV (helloQ p) (helloM ⟨1, v, r, s, ho, pr, ti, ag, ea, bi, rs, ce, pf⟩)) (sameM (helloM ⟨1, v, r, s, ho, pr, ti, ag, ea, bi, rs, ce, pf⟩) ⟨1, v, r, s, ho, pr, ti, ag, ea, bi, rs, ce, pf⟩) _
    (fun W q R => helloTake_any W q _ _ _ _ _ _ _ _ _ _ _ _ _ _ _ _ _ _ _ _ _ _ _ _ _ _ _ _ _ _ _ _ _ _ _ _ _ R)
    (fun W q R => plainHello_any W q _ _ _ _ _ _ _ _ _ _ _ _ _ _ _ _ _ _ _ _ R)
    (fun W n => isSame_any W (helloQ p) p _ _ (helloM_has (h.up n)) (h.up n) (helloM_is i) i)
    (fun W q n R => (helloFault_any W q _ _ _ _ _ _ _ _ _ _ _ _ _ _ _ p.g5 _ _ _ _ i.rL i.sL i.tiL i.biL i.hoL (h.pr.up n) h.prC i.prL i.prZ (R.cell 0) (R.cell 1) (R.cell 2) (R.cell 3) (R.cell 4) (R.cell 5) (R.cell 6) (R.cell 7) (R.cell 8)).mono (by rintro e w' ⟨rfl, rfl⟩; exact ⟨rfl, Below.refl _ _⟩))
end Go.Proofs.YtmfajpplagbfcaaGreatDoor
namespace Go.Proofs.YtmfajpplagbfcaaGreatDoor
set_option maxRecDepth 100000
open Go Go.RowKit
def txL (l : List UInt8) : List Int := l.map fun b => (b.toNat : Int)
theorem txL_len (l : List UInt8) : (txL l).length = l.length := by simp [txL]
theorem appendT_any {P : Program} (w : World) (ty : TypeId) (i : TypeInfo) (ht : P.underlying 22 = some (.slice 5)) (hu : P.underlying 9 = some .string) (hi : P.info? 5 = some i) (hz : i.zero = some (.int .u8 0)) (hsize : i.size = 1) (hby : i.bytes = 1)
    (base B : Nat) (v : Value) (xs : List Int) (hown : RowB w base v xs) (l : List UInt8) (hl : xs.length + l.length ≤ 1099511627776) (hB : B ≤ base) (hbase : base ≤ w.heap.size) :
    ∃ v' w', (Builtin.append_ #[22, 9] ty #[v, .string ⟨⟨l⟩⟩]).run P w = .ok v' w' ∧ RowB w' base v' (xs ++ txL l) ∧ Below B w w' := by
  have hs : (ByteArray.mk ⟨l⟩).size = l.length := rfl
  obtain ⟨v', w', h1, h2, h3, _⟩ := Lib.run_append_own_string (P := P) w base 22 9 ty 5 i ht hu hi hz hsize hby v xs.length (xs.map (Value.int .u8)) hown ⟨⟨l⟩⟩ (by rw [hs]; unfold maxLen; omega) (by rw [hs]; omega) hbase
  refine ⟨v', w', h1, ?_, (Below.refl B w).grown h3 (by omega) (fun k hk => by have := (World.ownsRow.lt hown k hk).1; omega)⟩
  show w'.ownsRow base 5 1 v' (xs ++ txL l).length ((xs ++ txL l).map (Value.int .u8))
  rw [List.length_append, List.map_append, txL_len]
  have e : (txL l).map (Value.int .u8) = Lib.strCells ⟨⟨l⟩⟩ := by simp [txL, Lib.strCells]
  rw [e]
  exact h2
end Go.Proofs.YtmfajpplagbfcaaGreatDoor
namespace Go.Proofs.YtmfajpplagbfcaaGreatDoor
set_option maxRecDepth 100000
open Go Go.RowKit
theorem RowB.nil (w : World) (base : Nat) : RowB w base (.slice none 0 0) [] := ⟨rfl, .inl ⟨rfl, rfl⟩⟩
end Go.Proofs.YtmfajpplagbfcaaGreatDoor
namespace Go.Proofs.YtmfajpplagbfcaaGreatDoor
set_option maxRecDepth 100000
open Go Go.RowKit
def shL (l : List UInt8) : List Int := bigL (l.length : Int) 1 ++ txL l
theorem shL_len (l : List UInt8) : (shL l).length = l.length + 1 := by simp [shL, bigL_len, txL_len]; omega
set_option maxRecDepth 100000 in
set_option maxHeartbeats 1000000 in
theorem appendShort_any (w : World) (base : Nat) (v : Value) (xs : List Int) (R0 : RowB w base v xs) (hb : base ≤ w.heap.size) (l : List UInt8) (hl : xs.length ≤ 1073741824) (hz : l.length ≤ 1048576) :
    Calls Tryz.prog 131 #[v, .string ⟨⟨l⟩⟩] w fun e w' => ∃ v', e = .returned v' ∧ RowB w' base v' (xs ++ shL l) ∧ Below base w w' := by
  obtain ⟨i0, hi, hz0, hz1, hz2⟩ := info_parts Tryz.info5
  have C1 := hide (appendNum_any w base v xs R0 hb (l.length : Int) 1 (by omega) hl)
  have sz := tx_size l
  go_enter Tryz.func131, Tryz.ntmps131
  go_wp2_with fail
  refine C1.out.mono ?_
  rintro r w1 ⟨v1, rfl, R1, n1⟩
  have s1 := n1.size
  obtain ⟨v2, w2, hap, R2, n2⟩ := appendT_any (P := Tryz.prog) w1 22 i0 Tryz.underlying22 Tryz.underlying9 hi hz0 hz1 hz2 base base _ _ R1 l (by rw [List.length_append, bigL_len]; omega) (Nat.le_refl _) (by omega)
  rw [List.append_assoc] at R2
  have N2 := n1.trans n2
  clear R1 n1 n2 C1 R0
  go_wp2_with (at_builtin; refine Lib.wpList_append_run _ rfl _ _ 22 9 rfl _ _ rfl rfl _ _ hap ?_)
  go_ret
  exact ⟨_, rfl, R2, N2⟩
end Go.Proofs.YtmfajpplagbfcaaGreatDoor
