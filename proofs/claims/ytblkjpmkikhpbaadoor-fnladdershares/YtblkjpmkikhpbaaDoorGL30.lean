import Derived.Test.YtblkjpmkikhpbaaDoorGL17
import Derived.Test.YtblkjpmkikhpbaaDoorGL21
import Derived.Test.YtblkjpmkikhpbaaDoorGL29
import Derived.Deep.MidRow
import Derived.Test.YtblkjpmkikhpbaaDoorGL23

/-
  Steps of a region by facts: loads, calls, addresses, field elements of sixteen limbs.
-/
namespace Go.Proofs.YtblkjpmkikhpbaaDoor
set_option maxRecDepth 100000
open Go Go.RowKit

section
variable {P : Program} {ops : Array Oper} {Q : Exit → Act → World → Prop} {md : Region.Mode} {F : Nat → Fact} {a0 : Act} {w0 : World}

/-- It is this value. -/
def Fact.eq (v0 : Value) : Fact := ⟨fun v _ => v = v0, fun _ h => h⟩
/-- Nothing is told. -/
def Fact.no : Fact := ⟨fun _ _ => True, fun _ h => h⟩
/-- A list of bytes of which p holds. -/
def RW (p : List Int → Prop) : Fact := ⟨fun v w => ∃ (xs : List Int) (a : Option Addr) (c g : Nat), v = .slice a xs.length c ∧ Own w g a .u8 xs ∧ p xs, fun n h => by
  obtain ⟨xs, a, c, g, e, o, q⟩ := h
  exact ⟨xs, a, c, g, e, o.up n, q⟩⟩
/-- Sixteen limbs of A modulo P. -/
def EL (A : Int) : Fact := ⟨fun v _ => ∃ t, v = ag16 t ∧ L16 t ∧ s16 t 16 % PP = A % PP, fun _ h => h⟩
/-- The same in memory. -/
def Elt (W : World) (q o : Nat) (A : Int) : Prop := ∃ t, W.rangeAt q o (a16 t).toList ∧ q < W.heap.size ∧ L16 t ∧ s16 t 16 % PP = A % PP
theorem Elt.up {W W' : World} {q o : Nat} {A : Int} (h : Elt W q o A) (n : Below W.heap.size W W') : Elt W' q o A := by
  obtain ⟨t, r, l, h⟩ := h
  exact ⟨t, fun j v hv => (World.cell?_of_block (a := ⟨q, o + j, none⟩) (n.block q l)).trans (r j v hv), Nat.lt_of_lt_of_le l n.size, h⟩
theorem Elt.ofR {W : World} {q : Nat} {t : Nat → Int} {A : Int} (h : R16 W q t) (L : L16 t) (V : s16 t 16 % PP = A % PP) : Elt W q 0 A := ⟨t, h.1, h.lt, L, V⟩

def Facts (md : Region.Mode) (ops : Array Oper) (F : Nat → Fact) (i : Nat) (a : Act) (w : World) : Prop := ∀ j d, waits md ops i j d = true → (F j).p (a.tmps.getD d undef) w

theorem step_pure {i : Nat} {o : Oper} (hi : ops[i]? = some o)
    (G : ∀ a w, Based ops a0 a → Below w0.heap.size w0 w → Facts md ops F i a w → ∃ v, (execOp a.eval o).run P w = .ok (.value v) w ∧ (F i).p v w) : StepOk P md ops Q F a0 w0 i := by
  intro o' ho' a w hb hw hf K hK
  obtain rfl := Option.some.inj (hi.symm.trans ho')
  obtain ⟨v, hr, hv⟩ := G a w hb hw hf
  unfold Oper.wp
  rw [hr]
  exact hK v w (Below.refl _ _) hv
/-- Something is made. -/
theorem step_grow {i : Nat} {o : Oper} (hi : ops[i]? = some o)
    (G : ∀ a w, Based ops a0 a → Below w0.heap.size w0 w → Facts md ops F i a w → ∃ v w', (execOp a.eval o).run P w = .ok (.value v) w' ∧ Below w.heap.size w w' ∧ (F i).p v w') : StepOk P md ops Q F a0 w0 i := by
  intro o' ho' a w hb hw hf K hK
  obtain rfl := Option.some.inj (hi.symm.trans ho')
  obtain ⟨v, w', hr, hn, hv⟩ := G a w hb hw hf
  unfold Oper.wp
  rw [hr]
  exact hK v w' hn hv
theorem step_load {i : Nat} {o : Oper} (hi : ops[i]? = some o) (ty : TypeId) (x : Operand) (hop : o.op = .load ty x) (d : TypeDesc) (n : Nat) (hu : P.underlying ty = some d) (hd : d.isRow = true) (hs : (P.info? ty).map (·.size) = some n)
    (G : ∀ a w, Based ops a0 a → Below w0.heap.size w0 w → Facts md ops F i a w → ∃ b off cs, a.eval x = .pointer (some ⟨b, off, none⟩) ∧ w.rangeAt b off cs ∧ cs.length = n ∧ (F i).p (.agg cs.toArray) w) : StepOk P md ops Q F a0 w0 i := by
  intro o' ho' a w hb hw hf K hK
  obtain rfl := Option.some.inj (hi.symm.trans ho')
  obtain ⟨b, off, cs, hx, hc, hl, hv⟩ := G a w hb hw hf
  exact wp_load_mid ty x hop b off hx cs d hc hu hd (by rw [hl]; exact hs) (hK _ _ (Below.refl _ _) hv)
/-- A function of the program with a body. -/
def enters (P : Program) (n : FuncId) : Bool :=
  match P.funcs[n]? with
  | some fn => !(fn.name == "runtime.NumGoroutine") && fn.body.isSome
  | none => false
theorem run_enter {n : FuncId} (h : enters P n = true) (args : Array Value) (w : World) : (callFunc n args).run P w = .ok (.enter n args) w := by
  unfold enters at h
  cases hq : P.funcs[n]? with
  | none => rw [hq] at h; simp at h
  | some fn =>
    rw [hq] at h
    simp only [Bool.and_eq_true, Bool.not_eq_true'] at h
    have h2 : fn.body ≠ none := fun e => by rw [e] at h; simp at h
    have h1 : ¬ fn.name = "runtime.NumGoroutine" := by simpa using h.1
    simp [callFunc, hq, h1, h2]
theorem step_call {i : Nat} {o : Oper} (hi : ops[i]? = some o) (n : FuncId) (args : Array Operand) (ts : Array TypeId) (hop : o.op = .call { callee := .value (.func n), args := args, argTypes := ts }) (he : enters P n = true)
    (G : ∀ a w, Based ops a0 a → Below w0.heap.size w0 w → Facts md ops F i a w → Calls P n (args.toList.map a.eval).toArray w fun e w' => ∃ v, e = .returned v ∧ Below w.heap.size w w' ∧ (F i).p v w') : StepOk P md ops Q F a0 w0 i := by
  intro o' ho' a w hb hw hf K hK
  obtain rfl := Option.some.inj (hi.symm.trans ho')
  have hr : (execOp a.eval o).run P w = .ok (.enter n (args.map a.eval)) w := by
    have h0 : (Deferred.ofValue (Value.func (Fn.func n) #[] #[]) (args.map a.eval)).run P w = .ok { target := .fn (.func n) #[], args := args.map a.eval } w := by simp [Deferred.ofValue]
    simp [execOp, hop, resolve, invoke, Act.eval, h0, run_enter he]
  have e : args.map a.eval = (args.toList.map a.eval).toArray := by cases args; simp
  unfold Oper.wp
  rw [hr, e, Oper.upon_enter]
  refine (G a w hb hw hf).mono ?_
  rintro e w' ⟨v, rfl, hn, hv⟩
  exact hK v w' hn hv
/-- The slot of an operand that no operation writes. -/
theorem based_at {a : Act} (hb : Based ops a0 a) (p : Nat) (hp : apart ops p = true) : a.eval (.tmp p) = a0.tmps.getD p undef := hb.2.2 p hp

/-- A row of sixteen limbs is read: at a known place. -/
theorem step_el {i : Nat} {o : Oper} (hi : ops[i]? = some o) (ty : TypeId) (p : Nat) (hop : o.op = .load ty (.tmp p)) (hu : P.underlying ty = some (.array 16 2)) (hs : (P.info? ty).map (·.size) = some 16)
    (hp : apart ops p = true) (q off : Nat) (h0 : a0.tmps.getD p undef = .pointer (some ⟨q, off, none⟩)) (A : Int) (hE : Elt w0 q off A) (hF : F i = EL A) : StepOk P md ops Q F a0 w0 i := by
  refine step_load hi ty _ hop _ 16 hu rfl hs fun a w hb hw _ => ?_
  obtain ⟨t, r, _, L, V⟩ := hE.up hw
  exact ⟨q, off, _, (based_at hb p hp).trans h0, r, by simp [ls16], by rw [hF]; exact ⟨t, rfl, L, V⟩⟩
/-- The same, the address made in the region. -/
theorem step_elf {i : Nat} {o : Oper} (hi : ops[i]? = some o) (ty : TypeId) (p j : Nat) (hop : o.op = .load ty (.tmp p)) (hu : P.underlying ty = some (.array 16 2)) (hs : (P.info? ty).map (·.size) = some 16)
    (hj : waits md ops i j p = true) (q off : Nat) (hFj : F j = Fact.eq (.pointer (some ⟨q, off, none⟩))) (A : Int) (hE : Elt w0 q off A) (hF : F i = EL A) : StepOk P md ops Q F a0 w0 i := by
  refine step_load hi ty _ hop _ 16 hu rfl hs fun a w _ hw hf => ?_
  obtain ⟨t, r, _, L, V⟩ := hE.up hw
  have e := hf j p hj
  rw [hFj] at e
  exact ⟨q, off, _, e, r, by simp [ls16], by rw [hF]; exact ⟨t, rfl, L, V⟩⟩
/-- A field's address. -/
theorem step_fld {i : Nat} {o : Oper} (hi : ops[i]? = some o) (ty : TypeId) (p f : Nat) (hop : o.op = .fieldAddr ty (.tmp p) f) (hp : apart ops p = true) (q off : Nat) (h0 : a0.tmps.getD p undef = .pointer (some ⟨q, 0, none⟩))
    (hr : ∀ w, (Instr.fieldAt ty (.pointer (some ⟨q, 0, none⟩)) f).run P w = .ok (.pointer (some ⟨q, off, none⟩)) w) (hF : F i = Fact.eq (.pointer (some ⟨q, off, none⟩))) : StepOk P md ops Q F a0 w0 i := by
  refine step_pure hi fun a w hb _ _ => ⟨_, ?_, by rw [hF]; exact rfl⟩
  have e := (based_at hb p hp).trans h0
  simp [execOp, hop, e, hr]
/-- Two elements are put together. -/
theorem step_two {i : Nat} {o : Oper} (hi : ops[i]? = some o) (n : FuncId) (p q : Nat) (ts : Array TypeId) (hop : o.op = .call { callee := .value (.func n), args := #[.tmp p, .tmp q], argTypes := ts }) (he : enters P n = true)
    (f : Int → Int → Int) (law : ∀ (w : World) (a b : Nat → Int), L16 a → L16 b → Calls P n #[ag16 a, ag16 b] w fun r w' => ∃ t, r = .returned (ag16 t) ∧ L16 t ∧ s16 t 16 % PP = f (s16 a 16) (s16 b 16) % PP ∧ Below w.heap.size w w')
    (hf : ∀ a b A B : Int, a % PP = A % PP → b % PP = B % PP → f a b % PP = f A B % PP)
    (j k : Nat) (A B : Int) (hj : waits md ops i j p = true) (hk : waits md ops i k q = true) (hFj : F j = EL A) (hFk : F k = EL B) (hFi : F i = EL (f A B)) : StepOk P md ops Q F a0 w0 i := by
  refine step_call hi n _ ts hop he fun a w _ _ hF => ?_
  have ea := hF j p hj
  have eb := hF k q hk
  rw [hFj] at ea
  rw [hFk] at eb
  obtain ⟨t, e1, L1, V1⟩ := ea
  obtain ⟨u, e2, L2, V2⟩ := eb
  show Calls P n #[a.tmps.getD p undef, a.tmps.getD q undef] w _
  rw [e1, e2]
  refine (law w t u L1 L2).mono ?_
  rintro r w' ⟨s, rfl, L, V, hn⟩
  exact ⟨_, rfl, hn, by rw [hFi]; exact ⟨s, rfl, L, by rw [V]; exact hf _ _ _ _ V1 V2⟩⟩
/-- One element is turned into another. -/
theorem step_one {i : Nat} {o : Oper} (hi : ops[i]? = some o) (n : FuncId) (p : Nat) (ts : Array TypeId) (hop : o.op = .call { callee := .value (.func n), args := #[.tmp p], argTypes := ts }) (he : enters P n = true)
    (f : Int → Int) (law : ∀ (w : World) (a : Nat → Int), L16 a → Calls P n #[ag16 a] w fun r w' => ∃ t, r = .returned (ag16 t) ∧ L16 t ∧ s16 t 16 % PP = f (s16 a 16) % PP ∧ Below w.heap.size w w')
    (hf : ∀ a A : Int, a % PP = A % PP → f a % PP = f A % PP)
    (j : Nat) (A : Int) (hj : waits md ops i j p = true) (hFj : F j = EL A) (hFi : F i = EL (f A)) : StepOk P md ops Q F a0 w0 i := by
  refine step_call hi n _ ts hop he fun a w _ _ hF => ?_
  have ea := hF j p hj
  rw [hFj] at ea
  obtain ⟨t, e1, L1, V1⟩ := ea
  show Calls P n #[a.tmps.getD p undef] w _
  rw [e1]
  refine (law w t L1).mono ?_
  rintro r w' ⟨s, rfl, L, V, hn⟩
  exact ⟨_, rfl, hn, by rw [hFi]; exact ⟨s, rfl, L, by rw [V]; exact hf _ _ V1⟩⟩
end

abbrev zObj : Obj := .cells #[.int .i64 0, .int .i64 0, .int .i64 0, .int .i64 0, .int .i64 0, .int .i64 0, .int .i64 0, .int .i64 0, .int .i64 0, .int .i64 0, .int .i64 0, .int .i64 0, .int .i64 0, .int .i64 0, .int .i64 0, .int .i64 0] 36
theorem blk_zObj (W : World) : Blk (W.alloc zObj) W.heap.size .i64 (ls16 (fun _ => 0)) := by
  have h := blk16 W 36 (fun _ => 0)
  exact h
theorem mod_mul {a b A B : Int} (h : a % PP = A % PP) (k : b % PP = B % PP) : a * b % PP = A * B % PP := by rw [Int.mul_emod, h, k, ← Int.mul_emod]
theorem mod_add {a b A B : Int} (h : a % PP = A % PP) (k : b % PP = B % PP) : (a + b) % PP = (A + B) % PP := by rw [Int.add_emod, h, k, ← Int.add_emod]
theorem mod_sub {a b A B : Int} (h : a % PP = A % PP) (k : b % PP = B % PP) : (a - b) % PP = (A - B) % PP := by rw [Int.sub_emod, h, k, ← Int.sub_emod]
theorem en_mul : enters Tryd.prog 33 = true := by kernel_rfl
theorem en_add : enters Tryd.prog 50 = true := by kernel_rfl
theorem en_sub : enters Tryd.prog 49 = true := by kernel_rfl
theorem en_small : enters Tryd.prog 29 = true := by kernel_rfl

section
variable {ops : Array Oper} {Q : Exit → Act → World → Prop} {md : Region.Mode} {F : Nat → Fact} {a0 : Act} {w0 : World} {i : Nat} {o : Oper} {ts : Array TypeId}
theorem step_mul (hi : ops[i]? = some o) (p q j k : Nat) (A B : Int) (hop : o.op = .call { callee := .value (.func 33), args := #[.tmp p, .tmp q], argTypes := ts })
    (hj : waits md ops i j p = true) (hk : waits md ops i k q = true) (hFj : F j = EL A) (hFk : F k = EL B) (hFi : F i = EL (A * B)) : StepOk Tryd.prog md ops Q F a0 w0 i :=
  step_two hi _ p q ts hop en_mul (fun a b => a * b) (fun w a b ha hb => l2Mul_any w a b ha hb) (fun _ _ _ _ h k => mod_mul h k) j k A B hj hk hFj hFk hFi
theorem step_add (hi : ops[i]? = some o) (p q j k : Nat) (A B : Int) (hop : o.op = .call { callee := .value (.func 50), args := #[.tmp p, .tmp q], argTypes := ts })
    (hj : waits md ops i j p = true) (hk : waits md ops i k q = true) (hFj : F j = EL A) (hFk : F k = EL B) (hFi : F i = EL (A + B)) : StepOk Tryd.prog md ops Q F a0 w0 i :=
  step_two hi _ p q ts hop en_add (fun a b => a + b) (fun w a b ha hb => l2Add_any w a b ha hb) (fun _ _ _ _ h k => mod_add h k) j k A B hj hk hFj hFk hFi
theorem step_sub (hi : ops[i]? = some o) (p q j k : Nat) (A B : Int) (hop : o.op = .call { callee := .value (.func 49), args := #[.tmp p, .tmp q], argTypes := ts })
    (hj : waits md ops i j p = true) (hk : waits md ops i k q = true) (hFj : F j = EL A) (hFk : F k = EL B) (hFi : F i = EL (A - B)) : StepOk Tryd.prog md ops Q F a0 w0 i :=
  step_two hi _ p q ts hop en_sub (fun a b => a - b) (fun w a b ha hb => l2Sub_any w a b ha hb) (fun _ _ _ _ h k => mod_sub h k) j k A B hj hk hFj hFk hFi
theorem step_small (hi : ops[i]? = some o) (n : Int) (hn : 0 ≤ n ∧ n < 1048576) (hop : o.op = .call { callee := .value (.func 29), args := #[.const (.int .i64 n)], argTypes := ts })
    (hFi : F i = EL n) : StepOk Tryd.prog md ops Q F a0 w0 i := by
  refine step_call hi _ _ ts hop en_small fun a w _ _ _ => ?_
  refine (l2SmallB_any w n hn).mono ?_
  rintro r w' ⟨s, rfl, L, V, hb⟩
  exact ⟨_, rfl, hb, by rw [hFi]; exact ⟨s, rfl, L, V⟩⟩
end
end Go.Proofs.YtblkjpmkikhpbaaDoor

/-
  The model's l2Inv.
-/
namespace Go.Proofs.YtblkjpmkikhpbaaDoor
set_option maxRecDepth 100000
open Go Go.RowKit

/-- P - 2. -/
def eIv : Nat := 57896044618658097711785492504343953926634992332820282019728792003956564819947
theorem en_prime : enters Tryd.prog 52 = true := by kernel_rfl
theorem en_l1Sub : enters Tryd.prog 53 = true := by kernel_rfl
theorem en_power : enters Tryd.prog 54 = true := by kernel_rfl

theorem pbytes_cn : Canon pbytes 57896044618658097711785492504343953926634992332820282019728792003956564819949 := ⟨pbytes_byt, pbytes_val, fun _ => by decide⟩
theorem canon_ge1 {xs : List Int} {v : Int} (h : Canon xs v) (hv : 0 < v) : 1 ≤ xs.length := by
  rcases Nat.eq_zero_or_pos xs.length with e | e
  · rw [List.length_eq_zero_iff] at e
    subst e
    have := h.2.1
    simp [bval] at this
    omega
  · omega
theorem canon_nat {ys : List Int} {n : Nat} (h : Canon ys (n : Int)) : (bval ys).toNat = n := by rw [h.2.1]; rfl
theorem pow_mod {x y : Int} (h : x % PP = y % PP) : ∀ e : Nat, x ^ e % PP = y ^ e % PP
  | 0 => by simp
  | e + 1 => by rw [Int.pow_succ, Int.pow_succ]; exact mod_mul (pow_mod h e) h
/-- The sixteen limbs that a function has left in its result's block. -/
theorem results_cell_mid {P : Program} {fn : Func} {p : Tmp} {ty : TypeId} (h : fn.results = #[.cell p ty]) (tmps : Array Value) (w : World) (g : Nat) (cs : List Value) (d : TypeDesc)
    (hp : tmps.getD p undef = .pointer (some ⟨g, 0, none⟩)) (hc : w.rangeAt g 0 cs) (hu : P.underlying ty = some d) (hd : d.isRow = true) (hi : (P.info? ty).map (·.size) = some cs.length) :
    (results fn tmps).run P w = .ok (.agg cs.toArray) w := by
  have hp' : tmps[p]?.getD undef = .pointer (some ⟨g, 0, none⟩) := by simpa using hp
  simp [results, h, hp', asAddr, run_loadVar_mid w g 0 ty cs d hc hu hd hi]

def fIv (A : Int) : Nat → Fact := fun i => [EL A, RW (fun xs => Canon xs 57896044618658097711785492504343953926634992332820282019728792003956564819949), RW (fun xs => xs = [2]), RW (fun xs => Canon xs (eIv : Int)), EL (A ^ eIv)].getD i Fact.no

set_option maxHeartbeats 1000000 in
theorem l2Inv_any (w : World) (f : Nat → Int) (hf : L16 f) :
    Calls Tryd.prog 34 #[ag16 f] w fun r w' => ∃ t, r = .returned (ag16 t) ∧ L16 t ∧ s16 t 16 % PP = s16 f 16 ^ eIv % PP ∧ Below w.heap.size w w' := by
  show Calls Tryd.prog 34 #[.agg (a16 f)] w fun r w' => ∃ t, r = .returned (.agg (a16 t)) ∧ L16 t ∧ s16 t 16 % PP = s16 f 16 ^ eIv % PP ∧ Below w.heap.size w w'
  have B0 : Blk (w.alloc (.cells (a16 f) 36)) w.heap.size .i64 (ls16 f) := blk16 w 36 f
  have n0 : Below w.heap.size w (w.alloc (.cells (a16 f) 36)) := (Below.refl _ _).alloc (Nat.le_refl _) _
  have s0 : (w.alloc (.cells (a16 f) 36)).heap.size = w.heap.size + 1 := by simp
  obtain ⟨A, hA⟩ : ∃ A, A = a16 f := ⟨_, rfl⟩
  rw [← hA] at B0 n0 s0 ⊢
  clear hA
  go_enter Tryd.func34, Tryd.ntmps34
  go_upto_region 1 with fail
  generalize w.alloc (.cells A 36) = wa at *
  have B1 := blk_zObj wa
  have n1 : Below wa.heap.size wa (wa.alloc zObj) := (Below.refl _ _).alloc (Nat.le_refl _) _
  rw [s0] at B1
  generalize wa.alloc zObj = wr at *
  have RA : R16 wr w.heap.size f := R16.ofBlk (B0.up n1)
  have RB := R16.ofBlk B1
  have N := nxt n0 n1
  clear B0 B1 n0 n1 s0
  refine region_store 5 _ (fIv (s16 f 16)) (by kernel_rfl) (by kernel_rfl) rfl rfl ?_ ?_
  · intro i hi
    obtain rfl | rfl | rfl | rfl | rfl : i = 0 ∨ i = 1 ∨ i = 2 ∨ i = 3 ∨ i = 4 := by omega
    · exact step_el rfl 36 1 rfl Go.Proofs.YtblkjpmkikhpbaaDoor.u50 i50 (by kernel_rfl) w.heap.size 0 rfl (s16 f 16) (Elt.ofR RA hf rfl) rfl
    · refine step_call rfl _ _ _ rfl en_prime fun a W _ _ _ => (l2Prime_any W).mono ?_
      rintro r W' ⟨rfl, B, n⟩
      exact ⟨_, rfl, n, pbytes, _, _, _, rfl, B.own0, pbytes_cn⟩
    · refine step_grow rfl fun a W _ _ _ => ⟨.slice (some ⟨W.heap.size, 0, none⟩) 1 1, W.alloc (.cells #[.int .u8 2] 5), ?_, (Below.refl _ _).alloc (Nat.le_refl _) _, [2], _, _, W.heap.size, rfl, Blk.own0 ⟨5, by rw [heap_alloc_last]; rfl⟩, rfl⟩
      go_simp
    · refine step_call rfl _ _ _ rfl en_l1Sub fun a W _ _ hF => ?_
      obtain ⟨xs, b, c, g, e1, o1, C⟩ := hF 1 4 (by kernel_rfl)
      obtain ⟨ys, b', c', g', e2, o2, rfl⟩ := hF 2 5 (by kernel_rfl)
      show Calls Tryd.prog 53 #[a.tmps.getD 4 undef, a.tmps.getD 5 undef] W _
      rw [e1, e2]
      have L : xs.length ≤ 64 := C.len (by decide)
      have P1 : 1 ≤ xs.length := canon_ge1 C (by decide)
      have E2 : bval [2] = 2 := by decide
      refine (l1Sub_any W g g' b b' c c' xs [2] o1.rd o2.rd C.1 (byt_one (by omega) (by omega)) (by omega) (by simpa using P1) (by rw [C.2.1, E2]; decide)).mono ?_
      rintro r W' ⟨zs, D, ⟨a', c', g', rfl, o', _, _, _⟩, n'⟩
      rw [C.2.1, E2] at D
      exact ⟨_, rfl, n', zs, _, _, _, rfl, o', D⟩
    · refine step_call rfl _ _ _ rfl en_power fun a W _ _ hF => ?_
      obtain ⟨t, e1, L1, V1⟩ := hF 0 3 (by kernel_rfl)
      obtain ⟨ys, b', c', g', e2, o2, C⟩ := hF 3 6 (by kernel_rfl)
      show Calls Tryd.prog 54 #[a.tmps.getD 3 undef, a.tmps.getD 6 undef] W _
      rw [e1, e2]
      have L : ys.length ≤ 4096 := by
        have := C.len (n := 64) (by decide)
        omega
      refine (l2Power_any W t g' b' c' ys L1 o2.rd C.1 L).mono ?_
      rintro r W' ⟨u, rfl, LT, VT, n'⟩
      refine ⟨_, rfl, n', u, rfl, LT, ?_⟩
      rw [VT, canon_nat C]
      exact pow_mod V1 _
  · intro a W hb hw hF
    obtain ⟨t, e1, L1, V1⟩ := hF 4 7 (by kernel_rfl)
    have RB' := RB.up hw
    refine wp_store_mid 36 (.tmp 2) (.tmp 7) rfl (w.heap.size + 1) 0 (a16 t) (based_at hb 2 (by kernel_rfl)) e1 (by rw [a16_size]; exact RB'.2) (by rw [a16_size]; exact i50) (a16_one t) ?_
    obtain ⟨vs, hvs⟩ : ∃ vs : Nat → Value, ∀ d, a.tmps.getD d undef = vs d := ⟨_, fun _ => rfl⟩
    have RS := R16.set t RB'.2
    have NS : Below w.heap.size w (W.setCells (w.heap.size + 1) 0 (a16 t).toList) := below_setCells (by omega) _ _ _ (nxt N hw)
    generalize W.setCells (w.heap.size + 1) 0 (a16 t).toList = W' at *
    rw [puts_of (md := .any) (k := 5) (by kernel_rfl) rfl hb vs hvs]
    clear hb hF hvs e1 RB' hw
    simp only [puts]
    go_wp2
    exact bodyPost_ret (v := .agg (a16 t)) (results_cell_mid Tryd.results34 _ _ (w.heap.size + 1) (a16 t).toList (.array 16 2) rfl RS.1 Go.Proofs.YtblkjpmkikhpbaaDoor.u50 rfl (by rw [show (a16 t).toList.length = 16 by simp [ls16]]; exact i50)) rfl ⟨t, rfl, L1, V1, NS⟩
end Go.Proofs.YtblkjpmkikhpbaaDoor
