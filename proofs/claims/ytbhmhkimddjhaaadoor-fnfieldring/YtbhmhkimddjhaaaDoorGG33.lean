import Derived.Test.YtbhmhkimddjhaaaDoorGG2
import Derived.Test.YtbhmhkimddjhaaaDoorGG21
import Derived.Test.YtbhmhkimddjhaaaDoorGG32
import Derived.Deep.MidRow
/-
  Steps of a region by facts: loads, calls, addresses, field elements of sixteen limbs.
-/
namespace Go.Proofs.YtbhmhkimddjhaaaDoor
set_option maxRecDepth 100000
open Go Go.RowKit

section
variable {P : Program} {ops : Array Oper} {Q : Exit → Act → World → Prop} {md : Region.Mode} {F : Nat → Fact} {a0 : Act} {w0 : World}

/-- It is this value. -/
def Fact.eq (v0 : Value) : Fact := ⟨fun v _ => v = v0, fun _ h => h⟩
/-- Nothing is told. -/
def Fact.no : Fact := ⟨fun _ _ => True, fun _ h => h⟩
/-- A list of bytes of which p holds. -/
def RW (p : List Int → Prop) : Fact := ⟨fun v w => ∃ (xs : List Int) (a : Option Addr) (c g : Nat), v = .slice a xs.length c ∧ Own w g a .u8 xs ∧ p xs, fun n h => by
  obtain ⟨xs, a, c, g, e, o, q⟩ := h
  exact ⟨xs, a, c, g, e, o.up n, q⟩⟩
/-- Sixteen limbs of A modulo P. -/
def EL (A : Int) : Fact := ⟨fun v _ => ∃ t, v = ag16 t ∧ L16 t ∧ s16 t 16 % PP = A % PP, fun _ h => h⟩
/-- The same in memory. -/
def Elt (W : World) (q o : Nat) (A : Int) : Prop := ∃ t, W.rangeAt q o (a16 t).toList ∧ q < W.heap.size ∧ L16 t ∧ s16 t 16 % PP = A % PP
theorem Elt.up {W W' : World} {q o : Nat} {A : Int} (h : Elt W q o A) (n : Below W.heap.size W W') : Elt W' q o A := by
  obtain ⟨t, r, l, h⟩ := h
  exact ⟨t, fun j v hv => (World.cell?_of_block (a := ⟨q, o + j, none⟩) (n.block q l)).trans (r j v hv), Nat.lt_of_lt_of_le l n.size, h⟩
theorem Elt.ofR {W : World} {q : Nat} {t : Nat → Int} {A : Int} (h : R16 W q t) (L : L16 t) (V : s16 t 16 % PP = A % PP) : Elt W q 0 A := ⟨t, h.1, h.lt, L, V⟩

def Facts (md : Region.Mode) (ops : Array Oper) (F : Nat → Fact) (i : Nat) (a : Act) (w : World) : Prop := ∀ j d, waits md ops i j d = true → (F j).p (a.tmps.getD d undef) w

theorem step_pure {i : Nat} {o : Oper} (hi : ops[i]? = some o)
    (G : ∀ a w, Based ops a0 a → Below w0.heap.size w0 w → Facts md ops F i a w → ∃ v, (execOp a.eval o).run P w = .ok (.value v) w ∧ (F i).p v w) : StepOk P md ops Q F a0 w0 i := by
  intro o' ho' a w hb hw hf K hK
  obtain rfl := Option.some.inj (hi.symm.trans ho')
  obtain ⟨v, hr, hv⟩ := G a w hb hw hf
  unfold Oper.wp
  rw [hr]
  exact hK v w (Below.refl _ _) hv
/-- Something is made. -/
theorem step_grow {i : Nat} {o : Oper} (hi : ops[i]? = some o)
    (G : ∀ a w, Based ops a0 a → Below w0.heap.size w0 w → Facts md ops F i a w → ∃ v w', (execOp a.eval o).run P w = .ok (.value v) w' ∧ Below w.heap.size w w' ∧ (F i).p v w') : StepOk P md ops Q F a0 w0 i := by
  intro o' ho' a w hb hw hf K hK
  obtain rfl := Option.some.inj (hi.symm.trans ho')
  obtain ⟨v, w', hr, hn, hv⟩ := G a w hb hw hf
  unfold Oper.wp
  rw [hr]
  exact hK v w' hn hv
theorem step_load {i : Nat} {o : Oper} (hi : ops[i]? = some o) (ty : TypeId) (x : Operand) (hop : o.op = .load ty x) (d : TypeDesc) (n : Nat) (hu : P.underlying ty = some d) (hd : d.isRow = true) (hs : (P.info? ty).map (·.size) = some n)
    (G : ∀ a w, Based ops a0 a → Below w0.heap.size w0 w → Facts md ops F i a w → ∃ b off cs, a.eval x = .pointer (some ⟨b, off, none⟩) ∧ w.rangeAt b off cs ∧ cs.length = n ∧ (F i).p (.agg cs.toArray) w) : StepOk P md ops Q F a0 w0 i := by
  intro o' ho' a w hb hw hf K hK
  obtain rfl := Option.some.inj (hi.symm.trans ho')
  obtain ⟨b, off, cs, hx, hc, hl, hv⟩ := G a w hb hw hf
  exact wp_load_mid ty x hop b off hx cs d hc hu hd (by rw [hl]; exact hs) (hK _ _ (Below.refl _ _) hv)
/-- A function of the program with a body. -/
def enters (P : Program) (n : FuncId) : Bool :=
  match P.funcs[n]? with
  | some fn => !(fn.name == "runtime.NumGoroutine") && fn.body.isSome
  | none => false
theorem run_enter {n : FuncId} (h : enters P n = true) (args : Array Value) (w : World) : (callFunc n args).run P w = .ok (.enter n args) w := by
  unfold enters at h
  cases hq : P.funcs[n]? with
  | none => rw [hq] at h; simp at h
  | some fn =>
    rw [hq] at h
    simp only [Bool.and_eq_true, Bool.not_eq_true'] at h
    have h2 : fn.body ≠ none := fun e => by rw [e] at h; simp at h
    have h1 : ¬ fn.name = "runtime.NumGoroutine" := by simpa using h.1
    simp [callFunc, hq, h1, h2]
theorem step_call {i : Nat} {o : Oper} (hi : ops[i]? = some o) (n : FuncId) (args : Array Operand) (ts : Array TypeId) (hop : o.op = .call { callee := .value (.func n), args := args, argTypes := ts }) (he : enters P n = true)
    (G : ∀ a w, Based ops a0 a → Below w0.heap.size w0 w → Facts md ops F i a w → Calls P n (args.toList.map a.eval).toArray w fun e w' => ∃ v, e = .returned v ∧ Below w.heap.size w w' ∧ (F i).p v w') : StepOk P md ops Q F a0 w0 i := by
  intro o' ho' a w hb hw hf K hK
  obtain rfl := Option.some.inj (hi.symm.trans ho')
  have hr : (execOp a.eval o).run P w = .ok (.enter n (args.map a.eval)) w := by
    have h0 : (Deferred.ofValue (Value.func (Fn.func n) #[] #[]) (args.map a.eval)).run P w = .ok { target := .fn (.func n) #[], args := args.map a.eval } w := by simp [Deferred.ofValue]
    simp [execOp, hop, resolve, invoke, Act.eval, h0, run_enter he]
  have e : args.map a.eval = (args.toList.map a.eval).toArray := by cases args; simp
  unfold Oper.wp
  rw [hr, e, Oper.upon_enter]
  refine (G a w hb hw hf).mono ?_
  rintro e w' ⟨v, rfl, hn, hv⟩
  exact hK v w' hn hv
/-- The slot of an operand that no operation writes. -/
theorem based_at {a : Act} (hb : Based ops a0 a) (p : Nat) (hp : apart ops p = true) : a.eval (.tmp p) = a0.tmps.getD p undef := hb.2.2 p hp

/-- A row of sixteen limbs is read: at a known place. -/
theorem step_el {i : Nat} {o : Oper} (hi : ops[i]? = some o) (ty : TypeId) (p : Nat) (hop : o.op = .load ty (.tmp p)) (hu : P.underlying ty = some (.array 16 2)) (hs : (P.info? ty).map (·.size) = some 16)
    (hp : apart ops p = true) (q off : Nat) (h0 : a0.tmps.getD p undef = .pointer (some ⟨q, off, none⟩)) (A : Int) (hE : Elt w0 q off A) (hF : F i = EL A) : StepOk P md ops Q F a0 w0 i := by
  refine step_load hi ty _ hop _ 16 hu rfl hs fun a w hb hw _ => ?_
  obtain ⟨t, r, _, L, V⟩ := hE.up hw
  exact ⟨q, off, _, (based_at hb p hp).trans h0, r, by simp [ls16], by rw [hF]; exact ⟨t, rfl, L, V⟩⟩
/-- The same, the address made in the region. -/
theorem step_elf {i : Nat} {o : Oper} (hi : ops[i]? = some o) (ty : TypeId) (p j : Nat) (hop : o.op = .load ty (.tmp p)) (hu : P.underlying ty = some (.array 16 2)) (hs : (P.info? ty).map (·.size) = some 16)
    (hj : waits md ops i j p = true) (q off : Nat) (hFj : F j = Fact.eq (.pointer (some ⟨q, off, none⟩))) (A : Int) (hE : Elt w0 q off A) (hF : F i = EL A) : StepOk P md ops Q F a0 w0 i := by
  refine step_load hi ty _ hop _ 16 hu rfl hs fun a w _ hw hf => ?_
  obtain ⟨t, r, _, L, V⟩ := hE.up hw
  have e := hf j p hj
  rw [hFj] at e
  exact ⟨q, off, _, e, r, by simp [ls16], by rw [hF]; exact ⟨t, rfl, L, V⟩⟩
/-- A field's address. -/
theorem step_fld {i : Nat} {o : Oper} (hi : ops[i]? = some o) (ty : TypeId) (p f : Nat) (hop : o.op = .fieldAddr ty (.tmp p) f) (hp : apart ops p = true) (q off : Nat) (h0 : a0.tmps.getD p undef = .pointer (some ⟨q, 0, none⟩))
    (hr : ∀ w, (Instr.fieldAt ty (.pointer (some ⟨q, 0, none⟩)) f).run P w = .ok (.pointer (some ⟨q, off, none⟩)) w) (hF : F i = Fact.eq (.pointer (some ⟨q, off, none⟩))) : StepOk P md ops Q F a0 w0 i := by
  refine step_pure hi fun a w hb _ _ => ⟨_, ?_, by rw [hF]; exact rfl⟩
  have e := (based_at hb p hp).trans h0
  simp [execOp, hop, e, hr]
/-- Two elements are put together. -/
theorem step_two {i : Nat} {o : Oper} (hi : ops[i]? = some o) (n : FuncId) (p q : Nat) (ts : Array TypeId) (hop : o.op = .call { callee := .value (.func n), args := #[.tmp p, .tmp q], argTypes := ts }) (he : enters P n = true)
    (f : Int → Int → Int) (law : ∀ (w : World) (a b : Nat → Int), L16 a → L16 b → Calls P n #[ag16 a, ag16 b] w fun r w' => ∃ t, r = .returned (ag16 t) ∧ L16 t ∧ s16 t 16 % PP = f (s16 a 16) (s16 b 16) % PP ∧ Below w.heap.size w w')
    (hf : ∀ a b A B : Int, a % PP = A % PP → b % PP = B % PP → f a b % PP = f A B % PP)
    (j k : Nat) (A B : Int) (hj : waits md ops i j p = true) (hk : waits md ops i k q = true) (hFj : F j = EL A) (hFk : F k = EL B) (hFi : F i = EL (f A B)) : StepOk P md ops Q F a0 w0 i := by
  refine step_call hi n _ ts hop he fun a w _ _ hF => ?_
  have ea := hF j p hj
  have eb := hF k q hk
  rw [hFj] at ea
  rw [hFk] at eb
  obtain ⟨t, e1, L1, V1⟩ := ea
  obtain ⟨u, e2, L2, V2⟩ := eb
  show Calls P n #[a.tmps.getD p undef, a.tmps.getD q undef] w _
  rw [e1, e2]
  refine (law w t u L1 L2).mono ?_
  rintro r w' ⟨s, rfl, L, V, hn⟩
  exact ⟨_, rfl, hn, by rw [hFi]; exact ⟨s, rfl, L, by rw [V]; exact hf _ _ _ _ V1 V2⟩⟩
/-- One element is turned into another. -/
theorem step_one {i : Nat} {o : Oper} (hi : ops[i]? = some o) (n : FuncId) (p : Nat) (ts : Array TypeId) (hop : o.op = .call { callee := .value (.func n), args := #[.tmp p], argTypes := ts }) (he : enters P n = true)
    (f : Int → Int) (law : ∀ (w : World) (a : Nat → Int), L16 a → Calls P n #[ag16 a] w fun r w' => ∃ t, r = .returned (ag16 t) ∧ L16 t ∧ s16 t 16 % PP = f (s16 a 16) % PP ∧ Below w.heap.size w w')
    (hf : ∀ a A : Int, a % PP = A % PP → f a % PP = f A % PP)
    (j : Nat) (A : Int) (hj : waits md ops i j p = true) (hFj : F j = EL A) (hFi : F i = EL (f A)) : StepOk P md ops Q F a0 w0 i := by
  refine step_call hi n _ ts hop he fun a w _ _ hF => ?_
  have ea := hF j p hj
  rw [hFj] at ea
  obtain ⟨t, e1, L1, V1⟩ := ea
  show Calls P n #[a.tmps.getD p undef] w _
  rw [e1]
  refine (law w t L1).mono ?_
  rintro r w' ⟨s, rfl, L, V, hn⟩
  exact ⟨_, rfl, hn, by rw [hFi]; exact ⟨s, rfl, L, by rw [V]; exact hf _ _ V1⟩⟩
end

abbrev zObj : Obj := .cells #[.int .i64 0, .int .i64 0, .int .i64 0, .int .i64 0, .int .i64 0, .int .i64 0, .int .i64 0, .int .i64 0, .int .i64 0, .int .i64 0, .int .i64 0, .int .i64 0, .int .i64 0, .int .i64 0, .int .i64 0, .int .i64 0] 70
theorem blk_zObj (W : World) : Blk (W.alloc zObj) W.heap.size .i64 (ls16 (fun _ => 0)) := by
  have h := blk16 W 70 (fun _ => 0)
  exact h
theorem mod_mul {a b A B : Int} (h : a % PP = A % PP) (k : b % PP = B % PP) : a * b % PP = A * B % PP := by rw [Int.mul_emod, h, k, ← Int.mul_emod]
theorem mod_add {a b A B : Int} (h : a % PP = A % PP) (k : b % PP = B % PP) : (a + b) % PP = (A + B) % PP := by rw [Int.add_emod, h, k, ← Int.add_emod]
theorem mod_sub {a b A B : Int} (h : a % PP = A % PP) (k : b % PP = B % PP) : (a - b) % PP = (A - B) % PP := by rw [Int.sub_emod, h, k, ← Int.sub_emod]
theorem en_mul : enters Tryd.prog 108 = true := by kernel_rfl
theorem en_add : enters Tryd.prog 142 = true := by kernel_rfl
theorem en_sub : enters Tryd.prog 110 = true := by kernel_rfl
theorem en_small : enters Tryd.prog 109 = true := by kernel_rfl

section
variable {ops : Array Oper} {Q : Exit → Act → World → Prop} {md : Region.Mode} {F : Nat → Fact} {a0 : Act} {w0 : World} {i : Nat} {o : Oper} {ts : Array TypeId}
theorem step_mul (hi : ops[i]? = some o) (p q j k : Nat) (A B : Int) (hop : o.op = .call { callee := .value (.func 108), args := #[.tmp p, .tmp q], argTypes := ts })
    (hj : waits md ops i j p = true) (hk : waits md ops i k q = true) (hFj : F j = EL A) (hFk : F k = EL B) (hFi : F i = EL (A * B)) : StepOk Tryd.prog md ops Q F a0 w0 i :=
  step_two hi _ p q ts hop en_mul (fun a b => a * b) (fun w a b ha hb => l2Mul_any w a b ha hb) (fun _ _ _ _ h k => mod_mul h k) j k A B hj hk hFj hFk hFi
theorem step_add (hi : ops[i]? = some o) (p q j k : Nat) (A B : Int) (hop : o.op = .call { callee := .value (.func 142), args := #[.tmp p, .tmp q], argTypes := ts })
    (hj : waits md ops i j p = true) (hk : waits md ops i k q = true) (hFj : F j = EL A) (hFk : F k = EL B) (hFi : F i = EL (A + B)) : StepOk Tryd.prog md ops Q F a0 w0 i :=
  step_two hi _ p q ts hop en_add (fun a b => a + b) (fun w a b ha hb => l2Add_any w a b ha hb) (fun _ _ _ _ h k => mod_add h k) j k A B hj hk hFj hFk hFi
theorem step_sub (hi : ops[i]? = some o) (p q j k : Nat) (A B : Int) (hop : o.op = .call { callee := .value (.func 110), args := #[.tmp p, .tmp q], argTypes := ts })
    (hj : waits md ops i j p = true) (hk : waits md ops i k q = true) (hFj : F j = EL A) (hFk : F k = EL B) (hFi : F i = EL (A - B)) : StepOk Tryd.prog md ops Q F a0 w0 i :=
  step_two hi _ p q ts hop en_sub (fun a b => a - b) (fun w a b ha hb => l2Sub_any w a b ha hb) (fun _ _ _ _ h k => mod_sub h k) j k A B hj hk hFj hFk hFi
theorem step_small (hi : ops[i]? = some o) (n : Int) (hn : 0 ≤ n ∧ n < 1048576) (hop : o.op = .call { callee := .value (.func 109), args := #[.const (.int .i64 n)], argTypes := ts })
    (hFi : F i = EL n) : StepOk Tryd.prog md ops Q F a0 w0 i := by
  refine step_call hi _ _ ts hop en_small fun a w _ _ _ => ?_
  refine (l2SmallB_any w n hn).mono ?_
  rintro r w' ⟨s, rfl, L, V, hb⟩
  exact ⟨_, rfl, hb, by rw [hFi]; exact ⟨s, rfl, L, V⟩⟩
end
end Go.Proofs.YtbhmhkimddjhaaaDoor
