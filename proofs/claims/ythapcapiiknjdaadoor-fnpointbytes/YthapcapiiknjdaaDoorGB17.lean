import Derived.Test.YthapcapiiknjdaaDoorGB15
import Derived.Test.YthapcapiiknjdaaDoorGB16
import Derived.Test.YthapcapiiknjdaaDoorGB12
import Derived.Test.YthapcapiiknjdaaDoorGB11
import Derived.Test.YthapcapiiknjdaaDoorGB9
import Derived.Deep.MidRow

/-
  Rows of sixteen limbs that are read and written whole; the model's shift by 253.
-/
namespace Go.Proofs.YthapcapiiknjdaaDoor
set_option maxRecDepth 100000
open Go.RowKit

set_option maxHeartbeats 1000000 in
theorem l1Shift253_any (w : World) (g : Nat) (ad : Addr) (c : Nat) (xs : List Int) (ha : Rd w g (some ad) .u8 xs) (hb : Byt xs) (hl : xs.length ≤ 64) (h0 : 0 < xs.length) :
    Calls Tryd.prog 124 #[.slice (some ad) xs.length c, .int .i64 253] w fun e w' => ∃ ys, Canon ys (bval xs * 14474011154664524427946373126085988481658748083205070504932198000989141204992) ∧ NewRow w.heap.size w' e .u8 ys ∧ Below w.heap.size w w' := by
  obtain ⟨i0, hi, hz0, hz1, hz2⟩ := info_parts Tryd.info5
  go_enter Tryd.func124, Tryd.ntmps124
  go_wp2_with fail
  refine (l1Copy_own w g ad c xs ha (by omega) h0).mono ?_
  rintro e w1 ⟨v, rfl, hv, o1, n1⟩
  obtain ⟨v', w2, hap, o2, hgr, hv'⟩ := append_zeros_own (P := Tryd.prog) w1 22 3 22 5 i0 .i64 .i64 Tryd.underlying22 Tryd.underlying3 hi hz0 hz1 hz2 w.heap.size v xs.length _ o1 hv 31 (by omega) (by omega) n1.size
  have n2 : Below w.heap.size w w2 := n1.grown hgr (n1.size) (fun i hi => (o1.lt i hi).1)
  have o2' : w2.ownsRow w.heap.size 5 1 v' (xs ++ List.replicate 31 0).length ((xs ++ List.replicate 31 0).map (Value.int .u8)) := by simpa using o2
  obtain ⟨a3, c3, g3, rfl, o3, p3, q3, r3⟩ := Own.of_ownsRow o2'
  have V := hide (bval_zeros xs 31)
  have Z := byt_addz hb 31
  have L : (xs ++ List.replicate 31 (0 : Int)).length ≤ 128 := by simp; omega
  generalize xs ++ List.replicate 31 (0 : Int) = zs at *
  clear o1 o2 o2' hgr hv hv'
  go_wp2_with (at_builtin; refine Lib.wpList_append_run _ rfl _ _ 22 3 rfl _ _ rfl rfl _ _ hap ?_)
  have n3 : Below w2.heap.size w2 (w2.alloc (.cells #[.int .u8 32] 5)) := (Below.refl _ _).alloc (Nat.le_refl _) _
  have B2 : Blk (w2.alloc (.cells #[.int .u8 32] 5)) w2.heap.size .u8 [32] := ⟨5, by rw [heap_alloc_last]; rfl⟩
  generalize w2.alloc (.cells #[.int .u8 32] 5) = w4 at *
  have hb2 : Byt [32] := fun i => by
    match i with
    | 0 => decide
    | i + 1 => simp
  refine (l1Mul_any w4 g3 _ _ _ c3 1 zs [32] (o3.up n3).rd B2.own0.rd Z hb2 (by omega) (by decide)).mono ?_
  rintro e w5 ⟨ys, C, ⟨a5, c5, g5, rfl, o5, p5, q5, r5⟩, n5⟩
  have N5 := nxt (nxt n2 n3) n5
  have z := (nxt n2 n3).size
  have C' : Canon ys (bval xs * 14474011154664524427946373126085988481658748083205070504932198000989141204992) := by
    rw [V.out] at C
    have e1 : bval [32] = 32 := by decide
    have e2 : (256 : Int) ^ 31 * 32 = 14474011154664524427946373126085988481658748083205070504932198000989141204992 := by decide
    rw [e1, Int.mul_assoc, e2] at C
    exact C
  clear hap C
  go_wp2
  go_ret
  exact ⟨ys, C', ⟨a5, c5, g5, rfl, o5, p5, q5, by omega⟩, N5⟩


/-- Sixteen limbs in a block, that may be written. -/
def R16 (W : World) (q : Nat) (t : Nat → Int) : Prop := W.rangeAt q 0 (a16 t).toList ∧ W.there q 0 16
theorem R16.lt {W : World} {q : Nat} {t : Nat → Int} (h : R16 W q t) : q < W.heap.size := by
  have h0 := (h.2 0 (by omega)).1
  rw [Option.isSome_iff_exists] at h0
  obtain ⟨v, hv⟩ := h0
  exact block_lt_of_cell hv
theorem R16.of_block {W W' : World} {q : Nat} {t : Nat → Int} (h : R16 W q t) (hb : W'.heap[q]? = W.heap[q]?) : R16 W' q t :=
  ⟨fun j v hv => (World.cell?_of_block (a := ⟨q, 0 + j, none⟩) hb).trans (h.1 j v hv), fun j hj => ⟨by rw [World.cell?_of_block (a := ⟨q, 0 + j, none⟩) hb]; exact (h.2 j hj).1, by rw [World.frozen?_of_block (a := ⟨q, 0 + j, none⟩) hb]; exact (h.2 j hj).2⟩⟩
theorem R16.up {W W' : World} {q : Nat} {t : Nat → Int} (h : R16 W q t) (n : Below W.heap.size W W') : R16 W' q t := h.of_block (n.block q h.lt)
theorem there16 {W : World} {q : Nat} {f : Nat → Int} (h : Blk W q .i64 (ls16 f)) : W.there q 0 16 := fun j hj =>
  ⟨by rw [Nat.zero_add, h.cell (by rw [ls16_len]; exact hj)]; rfl, h.free _⟩
theorem R16.ofBlk {W : World} {q : Nat} {f : Nat → Int} (h : Blk W q .i64 (ls16 f)) : R16 W q f := ⟨rng16 h, there16 h⟩
theorem below_setCells {B : Nat} {w : World} {b : Nat} (hb : B ≤ b) : ∀ (vs : List Value) (o : Nat) (w' : World), Below B w w' → Below B w (w'.setCells b o vs)
  | [], _, _, h => h
  | v :: vs, o, w', h => by
    rw [World.setCells]
    exact below_setCells hb vs (o + 1) _ (h.setCell hb v)
theorem setCells_other {b g : Nat} (hne : g ≠ b) : ∀ (vs : List Value) (o : Nat) (w : World), (w.setCells b o vs).heap[g]? = w.heap[g]?
  | [], _, _ => rfl
  | v :: vs, o, w => by
    rw [World.setCells, setCells_other hne vs (o + 1)]
    exact heap_setCell_other w ⟨b, o, none⟩ g v hne
theorem R16.set {W : World} {q : Nat} (t : Nat → Int) (h : W.there q 0 16) : R16 (W.setCells q 0 (a16 t).toList) q t :=
  ⟨World.rangeAt_setCells_same W q 0 _ (by have : (a16 t).toList.length = 16 := by simp [ls16]
                                           rw [this]; exact h), World.there_setCells h _ _ _⟩
theorem R16.keep {W : World} {q g : Nat} {t : Nat → Int} (h : R16 W g t) (vs : List Value) (hne : g ≠ q) : R16 (W.setCells q 0 vs) g t := h.of_block (setCells_other hne vs 0 W)
/-- (P - 1) / 4. -/
def eI : Nat := 14474011154664524427946373126085988481658748083205070504932198000989141204987
theorem pow_cast (e n i : Nat) (h : 2 ^ e % n = i) : (2 : Int) ^ e % (n : Int) = (i : Int) := by
  rw [← h, Int.natCast_emod, Int.natCast_pow]
  rfl
theorem eI_pm : pm 57896044618658097711785492504343953926634992332820282019728792003956564819949 256 2 eI = 19681161376707505956807079304988542015446066515923890162744021073123829784752 := by decide +kernel
theorem eI_lt : eI < 2 ^ 256 := by decide +kernel
theorem two_pow_i : (2 : Int) ^ eI % PP = iM :=
  pow_cast eI 57896044618658097711785492504343953926634992332820282019728792003956564819949 _ ((pm_eq _ 256 2 eI eI_lt).symm.trans eI_pm)
end Go.Proofs.YthapcapiiknjdaaDoor

/-
  Steps of a region by facts: loads, calls, addresses, field elements of sixteen limbs.
-/
namespace Go.Proofs.YthapcapiiknjdaaDoor
set_option maxRecDepth 100000
open Go Go.RowKit

section
variable {P : Program} {ops : Array Oper} {Q : Exit → Act → World → Prop} {md : Region.Mode} {F : Nat → Fact} {a0 : Act} {w0 : World}

/-- It is this value. -/
def Fact.eq (v0 : Value) : Fact := ⟨fun v _ => v = v0, fun _ h => h⟩
/-- Nothing is told. -/
def Fact.no : Fact := ⟨fun _ _ => True, fun _ h => h⟩
/-- A list of bytes of which p holds. -/
def RW (p : List Int → Prop) : Fact := ⟨fun v w => ∃ (xs : List Int) (a : Option Addr) (c g : Nat), v = .slice a xs.length c ∧ Own w g a .u8 xs ∧ p xs, fun n h => by
  obtain ⟨xs, a, c, g, e, o, q⟩ := h
  exact ⟨xs, a, c, g, e, o.up n, q⟩⟩
/-- Sixteen limbs of A modulo P. -/
def EL (A : Int) : Fact := ⟨fun v _ => ∃ t, v = ag16 t ∧ L16 t ∧ s16 t 16 % PP = A % PP, fun _ h => h⟩
/-- The same in memory. -/
def Elt (W : World) (q o : Nat) (A : Int) : Prop := ∃ t, W.rangeAt q o (a16 t).toList ∧ q < W.heap.size ∧ L16 t ∧ s16 t 16 % PP = A % PP
theorem Elt.up {W W' : World} {q o : Nat} {A : Int} (h : Elt W q o A) (n : Below W.heap.size W W') : Elt W' q o A := by
  obtain ⟨t, r, l, h⟩ := h
  exact ⟨t, fun j v hv => (World.cell?_of_block (a := ⟨q, o + j, none⟩) (n.block q l)).trans (r j v hv), Nat.lt_of_lt_of_le l n.size, h⟩
theorem Elt.ofR {W : World} {q : Nat} {t : Nat → Int} {A : Int} (h : R16 W q t) (L : L16 t) (V : s16 t 16 % PP = A % PP) : Elt W q 0 A := ⟨t, h.1, h.lt, L, V⟩

def Facts (md : Region.Mode) (ops : Array Oper) (F : Nat → Fact) (i : Nat) (a : Act) (w : World) : Prop := ∀ j d, waits md ops i j d = true → (F j).p (a.tmps.getD d undef) w

theorem step_pure {i : Nat} {o : Oper} (hi : ops[i]? = some o)
    (G : ∀ a w, Based ops a0 a → Below w0.heap.size w0 w → Facts md ops F i a w → ∃ v, (execOp a.eval o).run P w = .ok (.value v) w ∧ (F i).p v w) : StepOk P md ops Q F a0 w0 i := by
  intro o' ho' a w hb hw hf K hK
  obtain rfl := Option.some.inj (hi.symm.trans ho')
  obtain ⟨v, hr, hv⟩ := G a w hb hw hf
  unfold Oper.wp
  rw [hr]
  exact hK v w (Below.refl _ _) hv
/-- Something is made. -/
theorem step_grow {i : Nat} {o : Oper} (hi : ops[i]? = some o)
    (G : ∀ a w, Based ops a0 a → Below w0.heap.size w0 w → Facts md ops F i a w → ∃ v w', (execOp a.eval o).run P w = .ok (.value v) w' ∧ Below w.heap.size w w' ∧ (F i).p v w') : StepOk P md ops Q F a0 w0 i := by
  intro o' ho' a w hb hw hf K hK
  obtain rfl := Option.some.inj (hi.symm.trans ho')
  obtain ⟨v, w', hr, hn, hv⟩ := G a w hb hw hf
  unfold Oper.wp
  rw [hr]
  exact hK v w' hn hv
theorem step_load {i : Nat} {o : Oper} (hi : ops[i]? = some o) (ty : TypeId) (x : Operand) (hop : o.op = .load ty x) (d : TypeDesc) (n : Nat) (hu : P.underlying ty = some d) (hd : d.isRow = true) (hs : (P.info? ty).map (·.size) = some n)
    (G : ∀ a w, Based ops a0 a → Below w0.heap.size w0 w → Facts md ops F i a w → ∃ b off cs, a.eval x = .pointer (some ⟨b, off, none⟩) ∧ w.rangeAt b off cs ∧ cs.length = n ∧ (F i).p (.agg cs.toArray) w) : StepOk P md ops Q F a0 w0 i := by
  intro o' ho' a w hb hw hf K hK
  obtain rfl := Option.some.inj (hi.symm.trans ho')
  obtain ⟨b, off, cs, hx, hc, hl, hv⟩ := G a w hb hw hf
  exact wp_load_mid ty x hop b off hx cs d hc hu hd (by rw [hl]; exact hs) (hK _ _ (Below.refl _ _) hv)
/-- A function of the program with a body. -/
def enters (P : Program) (n : FuncId) : Bool :=
  match P.funcs[n]? with
  | some fn => !(fn.name == "runtime.NumGoroutine") && fn.body.isSome
  | none => false
theorem run_enter {n : FuncId} (h : enters P n = true) (args : Array Value) (w : World) : (callFunc n args).run P w = .ok (.enter n args) w := by
  unfold enters at h
  cases hq : P.funcs[n]? with
  | none => rw [hq] at h; simp at h
  | some fn =>
    rw [hq] at h
    simp only [Bool.and_eq_true, Bool.not_eq_true'] at h
    have h2 : fn.body ≠ none := fun e => by rw [e] at h; simp at h
    have h1 : ¬ fn.name = "runtime.NumGoroutine" := by simpa using h.1
    simp [callFunc, hq, h1, h2]
theorem step_call {i : Nat} {o : Oper} (hi : ops[i]? = some o) (n : FuncId) (args : Array Operand) (ts : Array TypeId) (hop : o.op = .call { callee := .value (.func n), args := args, argTypes := ts }) (he : enters P n = true)
    (G : ∀ a w, Based ops a0 a → Below w0.heap.size w0 w → Facts md ops F i a w → Calls P n (args.toList.map a.eval).toArray w fun e w' => ∃ v, e = .returned v ∧ Below w.heap.size w w' ∧ (F i).p v w') : StepOk P md ops Q F a0 w0 i := by
  intro o' ho' a w hb hw hf K hK
  obtain rfl := Option.some.inj (hi.symm.trans ho')
  have hr : (execOp a.eval o).run P w = .ok (.enter n (args.map a.eval)) w := by
    have h0 : (Deferred.ofValue (Value.func (Fn.func n) #[] #[]) (args.map a.eval)).run P w = .ok { target := .fn (.func n) #[], args := args.map a.eval } w := by simp [Deferred.ofValue]
    simp [execOp, hop, resolve, invoke, Act.eval, h0, run_enter he]
  have e : args.map a.eval = (args.toList.map a.eval).toArray := by cases args; simp
  unfold Oper.wp
  rw [hr, e, Oper.upon_enter]
  refine (G a w hb hw hf).mono ?_
  rintro e w' ⟨v, rfl, hn, hv⟩
  exact hK v w' hn hv
/-- The slot of an operand that no operation writes. -/
theorem based_at {a : Act} (hb : Based ops a0 a) (p : Nat) (hp : apart ops p = true) : a.eval (.tmp p) = a0.tmps.getD p undef := hb.2.2 p hp

/-- A row of sixteen limbs is read: at a known place. -/
theorem step_el {i : Nat} {o : Oper} (hi : ops[i]? = some o) (ty : TypeId) (p : Nat) (hop : o.op = .load ty (.tmp p)) (hu : P.underlying ty = some (.array 16 2)) (hs : (P.info? ty).map (·.size) = some 16)
    (hp : apart ops p = true) (q off : Nat) (h0 : a0.tmps.getD p undef = .pointer (some ⟨q, off, none⟩)) (A : Int) (hE : Elt w0 q off A) (hF : F i = EL A) : StepOk P md ops Q F a0 w0 i := by
  refine step_load hi ty _ hop _ 16 hu rfl hs fun a w hb hw _ => ?_
  obtain ⟨t, r, _, L, V⟩ := hE.up hw
  exact ⟨q, off, _, (based_at hb p hp).trans h0, r, by simp [ls16], by rw [hF]; exact ⟨t, rfl, L, V⟩⟩
/-- The same, the address made in the region. -/
theorem step_elf {i : Nat} {o : Oper} (hi : ops[i]? = some o) (ty : TypeId) (p j : Nat) (hop : o.op = .load ty (.tmp p)) (hu : P.underlying ty = some (.array 16 2)) (hs : (P.info? ty).map (·.size) = some 16)
    (hj : waits md ops i j p = true) (q off : Nat) (hFj : F j = Fact.eq (.pointer (some ⟨q, off, none⟩))) (A : Int) (hE : Elt w0 q off A) (hF : F i = EL A) : StepOk P md ops Q F a0 w0 i := by
  refine step_load hi ty _ hop _ 16 hu rfl hs fun a w _ hw hf => ?_
  obtain ⟨t, r, _, L, V⟩ := hE.up hw
  have e := hf j p hj
  rw [hFj] at e
  exact ⟨q, off, _, e, r, by simp [ls16], by rw [hF]; exact ⟨t, rfl, L, V⟩⟩
/-- A field's address. -/
theorem step_fld {i : Nat} {o : Oper} (hi : ops[i]? = some o) (ty : TypeId) (p f : Nat) (hop : o.op = .fieldAddr ty (.tmp p) f) (hp : apart ops p = true) (q off : Nat) (h0 : a0.tmps.getD p undef = .pointer (some ⟨q, 0, none⟩))
    (hr : ∀ w, (Instr.fieldAt ty (.pointer (some ⟨q, 0, none⟩)) f).run P w = .ok (.pointer (some ⟨q, off, none⟩)) w) (hF : F i = Fact.eq (.pointer (some ⟨q, off, none⟩))) : StepOk P md ops Q F a0 w0 i := by
  refine step_pure hi fun a w hb _ _ => ⟨_, ?_, by rw [hF]; exact rfl⟩
  have e := (based_at hb p hp).trans h0
  simp [execOp, hop, e, hr]
/-- Two elements are put together. -/
theorem step_two {i : Nat} {o : Oper} (hi : ops[i]? = some o) (n : FuncId) (p q : Nat) (ts : Array TypeId) (hop : o.op = .call { callee := .value (.func n), args := #[.tmp p, .tmp q], argTypes := ts }) (he : enters P n = true)
    (f : Int → Int → Int) (law : ∀ (w : World) (a b : Nat → Int), L16 a → L16 b → Calls P n #[ag16 a, ag16 b] w fun r w' => ∃ t, r = .returned (ag16 t) ∧ L16 t ∧ s16 t 16 % PP = f (s16 a 16) (s16 b 16) % PP ∧ Below w.heap.size w w')
    (hf : ∀ a b A B : Int, a % PP = A % PP → b % PP = B % PP → f a b % PP = f A B % PP)
    (j k : Nat) (A B : Int) (hj : waits md ops i j p = true) (hk : waits md ops i k q = true) (hFj : F j = EL A) (hFk : F k = EL B) (hFi : F i = EL (f A B)) : StepOk P md ops Q F a0 w0 i := by
  refine step_call hi n _ ts hop he fun a w _ _ hF => ?_
  have ea := hF j p hj
  have eb := hF k q hk
  rw [hFj] at ea
  rw [hFk] at eb
  obtain ⟨t, e1, L1, V1⟩ := ea
  obtain ⟨u, e2, L2, V2⟩ := eb
  show Calls P n #[a.tmps.getD p undef, a.tmps.getD q undef] w _
  rw [e1, e2]
  refine (law w t u L1 L2).mono ?_
  rintro r w' ⟨s, rfl, L, V, hn⟩
  exact ⟨_, rfl, hn, by rw [hFi]; exact ⟨s, rfl, L, by rw [V]; exact hf _ _ _ _ V1 V2⟩⟩
/-- One element is turned into another. -/
theorem step_one {i : Nat} {o : Oper} (hi : ops[i]? = some o) (n : FuncId) (p : Nat) (ts : Array TypeId) (hop : o.op = .call { callee := .value (.func n), args := #[.tmp p], argTypes := ts }) (he : enters P n = true)
    (f : Int → Int) (law : ∀ (w : World) (a : Nat → Int), L16 a → Calls P n #[ag16 a] w fun r w' => ∃ t, r = .returned (ag16 t) ∧ L16 t ∧ s16 t 16 % PP = f (s16 a 16) % PP ∧ Below w.heap.size w w')
    (hf : ∀ a A : Int, a % PP = A % PP → f a % PP = f A % PP)
    (j : Nat) (A : Int) (hj : waits md ops i j p = true) (hFj : F j = EL A) (hFi : F i = EL (f A)) : StepOk P md ops Q F a0 w0 i := by
  refine step_call hi n _ ts hop he fun a w _ _ hF => ?_
  have ea := hF j p hj
  rw [hFj] at ea
  obtain ⟨t, e1, L1, V1⟩ := ea
  show Calls P n #[a.tmps.getD p undef] w _
  rw [e1]
  refine (law w t L1).mono ?_
  rintro r w' ⟨s, rfl, L, V, hn⟩
  exact ⟨_, rfl, hn, by rw [hFi]; exact ⟨s, rfl, L, by rw [V]; exact hf _ _ V1⟩⟩
end

abbrev zObj : Obj := .cells #[.int .i64 0, .int .i64 0, .int .i64 0, .int .i64 0, .int .i64 0, .int .i64 0, .int .i64 0, .int .i64 0, .int .i64 0, .int .i64 0, .int .i64 0, .int .i64 0, .int .i64 0, .int .i64 0, .int .i64 0, .int .i64 0] 52
theorem blk_zObj (W : World) : Blk (W.alloc zObj) W.heap.size .i64 (ls16 (fun _ => 0)) := by
  have h := blk16 W 52 (fun _ => 0)
  exact h
theorem mod_mul {a b A B : Int} (h : a % PP = A % PP) (k : b % PP = B % PP) : a * b % PP = A * B % PP := by rw [Int.mul_emod, h, k, ← Int.mul_emod]
theorem mod_add {a b A B : Int} (h : a % PP = A % PP) (k : b % PP = B % PP) : (a + b) % PP = (A + B) % PP := by rw [Int.add_emod, h, k, ← Int.add_emod]
theorem mod_sub {a b A B : Int} (h : a % PP = A % PP) (k : b % PP = B % PP) : (a - b) % PP = (A - B) % PP := by rw [Int.sub_emod, h, k, ← Int.sub_emod]
theorem en_mul : enters Tryd.prog 55 = true := by kernel_rfl
theorem en_add : enters Tryd.prog 58 = true := by kernel_rfl
theorem en_sub : enters Tryd.prog 57 = true := by kernel_rfl
theorem en_small : enters Tryd.prog 50 = true := by kernel_rfl

section
variable {ops : Array Oper} {Q : Exit → Act → World → Prop} {md : Region.Mode} {F : Nat → Fact} {a0 : Act} {w0 : World} {i : Nat} {o : Oper} {ts : Array TypeId}
theorem step_mul (hi : ops[i]? = some o) (p q j k : Nat) (A B : Int) (hop : o.op = .call { callee := .value (.func 55), args := #[.tmp p, .tmp q], argTypes := ts })
    (hj : waits md ops i j p = true) (hk : waits md ops i k q = true) (hFj : F j = EL A) (hFk : F k = EL B) (hFi : F i = EL (A * B)) : StepOk Tryd.prog md ops Q F a0 w0 i :=
  step_two hi _ p q ts hop en_mul (fun a b => a * b) (fun w a b ha hb => l2Mul_any w a b ha hb) (fun _ _ _ _ h k => mod_mul h k) j k A B hj hk hFj hFk hFi
theorem step_add (hi : ops[i]? = some o) (p q j k : Nat) (A B : Int) (hop : o.op = .call { callee := .value (.func 58), args := #[.tmp p, .tmp q], argTypes := ts })
    (hj : waits md ops i j p = true) (hk : waits md ops i k q = true) (hFj : F j = EL A) (hFk : F k = EL B) (hFi : F i = EL (A + B)) : StepOk Tryd.prog md ops Q F a0 w0 i :=
  step_two hi _ p q ts hop en_add (fun a b => a + b) (fun w a b ha hb => l2Add_any w a b ha hb) (fun _ _ _ _ h k => mod_add h k) j k A B hj hk hFj hFk hFi
theorem step_sub (hi : ops[i]? = some o) (p q j k : Nat) (A B : Int) (hop : o.op = .call { callee := .value (.func 57), args := #[.tmp p, .tmp q], argTypes := ts })
    (hj : waits md ops i j p = true) (hk : waits md ops i k q = true) (hFj : F j = EL A) (hFk : F k = EL B) (hFi : F i = EL (A - B)) : StepOk Tryd.prog md ops Q F a0 w0 i :=
  step_two hi _ p q ts hop en_sub (fun a b => a - b) (fun w a b ha hb => l2Sub_any w a b ha hb) (fun _ _ _ _ h k => mod_sub h k) j k A B hj hk hFj hFk hFi
theorem step_small (hi : ops[i]? = some o) (n : Int) (hn : 0 ≤ n ∧ n < 1048576) (hop : o.op = .call { callee := .value (.func 50), args := #[.const (.int .i64 n)], argTypes := ts })
    (hFi : F i = EL n) : StepOk Tryd.prog md ops Q F a0 w0 i := by
  refine step_call hi _ _ ts hop en_small fun a w _ _ _ => ?_
  refine (l2SmallB_any w n hn).mono ?_
  rintro r w' ⟨s, rfl, L, V, hb⟩
  exact ⟨_, rfl, hb, by rw [hFi]; exact ⟨s, rfl, L, V⟩⟩
end
end Go.Proofs.YthapcapiiknjdaaDoor

/-
  The model's l2Inv.
-/
namespace Go.Proofs.YthapcapiiknjdaaDoor
set_option maxRecDepth 100000
open Go Go.RowKit

/-- P - 2. -/
def eIv : Nat := 57896044618658097711785492504343953926634992332820282019728792003956564819947
theorem en_prime : enters Tryd.prog 89 = true := by kernel_rfl
theorem en_l1Sub : enters Tryd.prog 87 = true := by kernel_rfl
theorem en_power : enters Tryd.prog 101 = true := by kernel_rfl

theorem pbytes_cn : Canon pbytes 57896044618658097711785492504343953926634992332820282019728792003956564819949 := ⟨pbytes_byt, pbytes_val, fun _ => by decide⟩
theorem canon_ge1 {xs : List Int} {v : Int} (h : Canon xs v) (hv : 0 < v) : 1 ≤ xs.length := by
  rcases Nat.eq_zero_or_pos xs.length with e | e
  · rw [List.length_eq_zero_iff] at e
    subst e
    have := h.2.1
    simp [bval] at this
    omega
  · omega
theorem canon_nat {ys : List Int} {n : Nat} (h : Canon ys (n : Int)) : (bval ys).toNat = n := by rw [h.2.1]; rfl
theorem pow_mod {x y : Int} (h : x % PP = y % PP) : ∀ e : Nat, x ^ e % PP = y ^ e % PP
  | 0 => by simp
  | e + 1 => by rw [Int.pow_succ, Int.pow_succ]; exact mod_mul (pow_mod h e) h
/-- The sixteen limbs that a function has left in its result's block. -/
theorem results_cell_mid {P : Program} {fn : Func} {p : Tmp} {ty : TypeId} (h : fn.results = #[.cell p ty]) (tmps : Array Value) (w : World) (g : Nat) (cs : List Value) (d : TypeDesc)
    (hp : tmps.getD p undef = .pointer (some ⟨g, 0, none⟩)) (hc : w.rangeAt g 0 cs) (hu : P.underlying ty = some d) (hd : d.isRow = true) (hi : (P.info? ty).map (·.size) = some cs.length) :
    (results fn tmps).run P w = .ok (.agg cs.toArray) w := by
  have hp' : tmps[p]?.getD undef = .pointer (some ⟨g, 0, none⟩) := by simpa using hp
  simp [results, h, hp', asAddr, run_loadVar_mid w g 0 ty cs d hc hu hd hi]

def fIv (A : Int) : Nat → Fact := fun i => [EL A, RW (fun xs => Canon xs 57896044618658097711785492504343953926634992332820282019728792003956564819949), RW (fun xs => xs = [2]), RW (fun xs => Canon xs (eIv : Int)), EL (A ^ eIv)].getD i Fact.no

set_option maxHeartbeats 1000000 in
theorem l2Inv_any (w : World) (f : Nat → Int) (hf : L16 f) :
    Calls Tryd.prog 62 #[ag16 f] w fun r w' => ∃ t, r = .returned (ag16 t) ∧ L16 t ∧ s16 t 16 % PP = s16 f 16 ^ eIv % PP ∧ Below w.heap.size w w' := by
  show Calls Tryd.prog 62 #[.agg (a16 f)] w fun r w' => ∃ t, r = .returned (.agg (a16 t)) ∧ L16 t ∧ s16 t 16 % PP = s16 f 16 ^ eIv % PP ∧ Below w.heap.size w w'
  have B0 : Blk (w.alloc (.cells (a16 f) 52)) w.heap.size .i64 (ls16 f) := blk16 w 52 f
  have n0 : Below w.heap.size w (w.alloc (.cells (a16 f) 52)) := (Below.refl _ _).alloc (Nat.le_refl _) _
  have s0 : (w.alloc (.cells (a16 f) 52)).heap.size = w.heap.size + 1 := by simp
  obtain ⟨A, hA⟩ : ∃ A, A = a16 f := ⟨_, rfl⟩
  rw [← hA] at B0 n0 s0 ⊢
  clear hA
  go_enter Tryd.func62, Tryd.ntmps62
  go_upto_region 1 with fail
  generalize w.alloc (.cells A 52) = wa at *
  have B1 := blk_zObj wa
  have n1 : Below wa.heap.size wa (wa.alloc zObj) := (Below.refl _ _).alloc (Nat.le_refl _) _
  rw [s0] at B1
  generalize wa.alloc zObj = wr at *
  have RA : R16 wr w.heap.size f := R16.ofBlk (B0.up n1)
  have RB := R16.ofBlk B1
  have N := nxt n0 n1
  clear B0 B1 n0 n1 s0
  refine region_store 5 _ (fIv (s16 f 16)) (by kernel_rfl) (by kernel_rfl) rfl rfl ?_ ?_
  · intro i hi
    obtain rfl | rfl | rfl | rfl | rfl : i = 0 ∨ i = 1 ∨ i = 2 ∨ i = 3 ∨ i = 4 := by omega
    · exact step_el rfl 52 1 rfl Go.Proofs.YthapcapiiknjdaaDoor.u50 i50 (by kernel_rfl) w.heap.size 0 rfl (s16 f 16) (Elt.ofR RA hf rfl) rfl
    · refine step_call rfl _ _ _ rfl en_prime fun a W _ _ _ => (l2Prime_any W).mono ?_
      rintro r W' ⟨rfl, B, n⟩
      exact ⟨_, rfl, n, pbytes, _, _, _, rfl, B.own0, pbytes_cn⟩
    · refine step_grow rfl fun a W _ _ _ => ⟨.slice (some ⟨W.heap.size, 0, none⟩) 1 1, W.alloc (.cells #[.int .u8 2] 5), ?_, (Below.refl _ _).alloc (Nat.le_refl _) _, [2], _, _, W.heap.size, rfl, Blk.own0 ⟨5, by rw [heap_alloc_last]; rfl⟩, rfl⟩
      go_simp
    · refine step_call rfl _ _ _ rfl en_l1Sub fun a W _ _ hF => ?_
      obtain ⟨xs, b, c, g, e1, o1, C⟩ := hF 1 4 (by kernel_rfl)
      obtain ⟨ys, b', c', g', e2, o2, rfl⟩ := hF 2 5 (by kernel_rfl)
      show Calls Tryd.prog 87 #[a.tmps.getD 4 undef, a.tmps.getD 5 undef] W _
      rw [e1, e2]
      have L : xs.length ≤ 64 := C.len (by decide)
      have P1 : 1 ≤ xs.length := canon_ge1 C (by decide)
      have E2 : bval [2] = 2 := by decide
      refine (l1Sub_any W g g' b b' c c' xs [2] o1.rd o2.rd C.1 (byt_one (by omega) (by omega)) (by omega) (by simpa using P1) (by rw [C.2.1, E2]; decide)).mono ?_
      rintro r W' ⟨zs, D, ⟨a', c', g', rfl, o', _, _, _⟩, n'⟩
      rw [C.2.1, E2] at D
      exact ⟨_, rfl, n', zs, _, _, _, rfl, o', D⟩
    · refine step_call rfl _ _ _ rfl en_power fun a W _ _ hF => ?_
      obtain ⟨t, e1, L1, V1⟩ := hF 0 3 (by kernel_rfl)
      obtain ⟨ys, b', c', g', e2, o2, C⟩ := hF 3 6 (by kernel_rfl)
      show Calls Tryd.prog 101 #[a.tmps.getD 3 undef, a.tmps.getD 6 undef] W _
      rw [e1, e2]
      have L : ys.length ≤ 4096 := by
        have := C.len (n := 64) (by decide)
        omega
      refine (l2Power_any W t g' b' c' ys L1 o2.rd C.1 L).mono ?_
      rintro r W' ⟨u, rfl, LT, VT, n'⟩
      refine ⟨_, rfl, n', u, rfl, LT, ?_⟩
      rw [VT, canon_nat C]
      exact pow_mod V1 _
  · intro a W hb hw hF
    obtain ⟨t, e1, L1, V1⟩ := hF 4 7 (by kernel_rfl)
    have RB' := RB.up hw
    refine wp_store_mid 52 (.tmp 2) (.tmp 7) rfl (w.heap.size + 1) 0 (a16 t) (based_at hb 2 (by kernel_rfl)) e1 (by rw [a16_size]; exact RB'.2) (by rw [a16_size]; exact i50) (a16_one t) ?_
    obtain ⟨vs, hvs⟩ : ∃ vs : Nat → Value, ∀ d, a.tmps.getD d undef = vs d := ⟨_, fun _ => rfl⟩
    have RS := R16.set t RB'.2
    have NS : Below w.heap.size w (W.setCells (w.heap.size + 1) 0 (a16 t).toList) := below_setCells (by omega) _ _ _ (nxt N hw)
    generalize W.setCells (w.heap.size + 1) 0 (a16 t).toList = W' at *
    rw [puts_of (md := .any) (k := 5) (by kernel_rfl) rfl hb vs hvs]
    clear hb hF hvs e1 RB' hw
    simp only [puts]
    go_wp2
    exact bodyPost_ret (v := .agg (a16 t)) (results_cell_mid Tryd.results62 _ _ (w.heap.size + 1) (a16 t).toList (.array 16 2) rfl RS.1 Go.Proofs.YthapcapiiknjdaaDoor.u50 rfl (by rw [show (a16 t).toList.length = 16 by simp [ls16]]; exact i50)) rfl ⟨t, rfl, L1, V1, NS⟩
end Go.Proofs.YthapcapiiknjdaaDoor
