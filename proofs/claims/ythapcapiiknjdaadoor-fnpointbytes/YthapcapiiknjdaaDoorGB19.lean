import Derived.Test.YthapcapiiknjdaaDoorGB10
import Derived.Test.YthapcapiiknjdaaDoorGB18
import Derived.Test.YthapcapiiknjdaaDoorGB8
import Derived.Test.YthapcapiiknjdaaDoorGB6
import Derived.Test.YthapcapiiknjdaaDoorGB1
import Derived.Deep.RegionHeld3
import Derived.Laws.Bits64
import Derived.Laws.Bits64b

/-
  The program's elements in regions by facts: five limbs as a value and in memory, pairs of elements, the calls on them.
-/
namespace Go.Proofs.YthapcapiiknjdaaDoor
set_option maxRecDepth 100000
open Go Go.RowKit

def cl5 (e : Nat → Int) : List Value := [.int .u64 (e 0), .int .u64 (e 1), .int .u64 (e 2), .int .u64 (e 3), .int .u64 (e 4)]
def cl10 (e f : Nat → Int) : List Value := [.int .u64 (e 0), .int .u64 (e 1), .int .u64 (e 2), .int .u64 (e 3), .int .u64 (e 4), .int .u64 (f 0), .int .u64 (f 1), .int .u64 (f 2), .int .u64 (f 3), .int .u64 (f 4)]
def ag10 (e f : Nat → Int) : Value := .agg (cl10 e f).toArray
/-- Five limbs of A modulo P. -/
def Is5 (e : Nat → Int) (A : Int) : Prop := Lm e ∧ sv e 5 = A % PP
def EM (A : Int) : Fact := ⟨fun v _ => ∃ e, v = ag5 e ∧ Is5 e A, fun _ h => h⟩
/-- Two of them. -/
def E2 (A B : Int) : Fact := ⟨fun v _ => ∃ e f, v = ag10 e f ∧ Is5 e A ∧ Is5 f B, fun _ h => h⟩
def Em5 (W : World) (q o : Nat) (A : Int) : Prop := ∃ e, W.rangeAt q o (cl5 e) ∧ q < W.heap.size ∧ Is5 e A
def Rat (W : World) (q : Nat) (A B : Int) : Prop := ∃ e f, W.rangeAt q 0 (cl10 e f) ∧ W.there q 0 10 ∧ Is5 e A ∧ Is5 f B
theorem Em5.up {W W' : World} {q o : Nat} {A : Int} (h : Em5 W q o A) (n : Below W.heap.size W W') : Em5 W' q o A := by
  obtain ⟨t, r, l, h⟩ := h
  exact ⟨t, fun j v hv => (World.cell?_of_block (a := ⟨q, o + j, none⟩) (n.block q l)).trans (r j v hv), Nat.lt_of_lt_of_le l n.size, h⟩
theorem Em5.but {W W' : World} {g o q : Nat} {A : Int} (h : Em5 W g o A) (k : ButQ q W W') (hne : g ≠ q) : Em5 W' g o A := by
  obtain ⟨t, r, l, h⟩ := h
  exact ⟨t, fun j v hv => (World.cell?_of_block (a := ⟨g, o + j, none⟩) (k.1 g hne l)).trans (r j v hv), Nat.lt_of_lt_of_le l k.2, h⟩
theorem Em5.lt {W : World} {q o : Nat} {A : Int} (h : Em5 W q o A) : q < W.heap.size := by
  obtain ⟨_, _, l, _⟩ := h
  exact l
theorem Rat.lt {W : World} {q : Nat} {A B : Int} (h : Rat W q A B) : q < W.heap.size := by
  obtain ⟨_, _, _, t, _⟩ := h
  exact there_lt (by omega) t
theorem Rat.up {W W' : World} {q : Nat} {A B : Int} (h : Rat W q A B) (n : Below W.heap.size W W') : Rat W' q A B := by
  have l := h.lt
  obtain ⟨e, f, r, t, h⟩ := h
  exact ⟨e, f, fun j v hv => (World.cell?_of_block (a := ⟨q, 0 + j, none⟩) (n.block q l)).trans (r j v hv), there_up (by omega) t n, h⟩
theorem Rat.but {W W' : World} {g q : Nat} {A B : Int} (h : Rat W g A B) (k : ButQ q W W') (hne : g ≠ q) : Rat W' g A B := by
  have l := h.lt
  obtain ⟨e, f, r, t, h⟩ := h
  exact ⟨e, f, fun j v hv => (World.cell?_of_block (a := ⟨g, 0 + j, none⟩) (k.1 g hne l)).trans (r j v hv), there_but (by omega) t k hne, h⟩
theorem Rat.x {W : World} {q : Nat} {A B : Int} (h : Rat W q A B) : Em5 W q 0 A := by
  have l := h.lt
  obtain ⟨e, f, r, t, h⟩ := h
  refine ⟨e, fun j v hv => r j v ?_, l, h.1⟩
  have hj : j < 5 := (List.getElem?_eq_some_iff.1 hv).1
  obtain rfl | rfl | rfl | rfl | rfl : j = 0 ∨ j = 1 ∨ j = 2 ∨ j = 3 ∨ j = 4 := by omega
  all_goals exact hv
theorem Rat.y {W : World} {q : Nat} {A B : Int} (h : Rat W q A B) : Em5 W q 5 B := by
  have l := h.lt
  obtain ⟨e, f, r, t, h⟩ := h
  refine ⟨f, fun j v hv => ?_, l, h.2⟩
  have hj : j < 5 := (List.getElem?_eq_some_iff.1 hv).1
  have q := r (5 + j) v (by
    obtain rfl | rfl | rfl | rfl | rfl : j = 0 ∨ j = 1 ∨ j = 2 ∨ j = 3 ∨ j = 4 := by omega
    all_goals exact hv)
  simpa using q
theorem cl5_one (e : Nat → Int) : (cl5 e).toArray.all (·.oneCell') = true := by simp [cl5, Value.oneCell']
theorem u5 : Tryd.prog.underlying 56 = some (.array 5 54) := Tryd.underlying56
theorem i5 : (Tryd.prog.info? 56).map (·.size) = some 5 := by kernel_rfl
/-- A small number as an element. -/
def sm5 (n : Int) (j : Nat) : Int := if j = 0 then n else 0
theorem sm5_ok {n : Int} (h0 : 0 ≤ n) (h1 : n < 1000000) : Is5 (sm5 n) n := by
  refine ⟨fun j _ => ?_, ?_⟩
  · unfold sm5
    split <;> omega
  · simp only [sv, sm5]
    rw [Int.emod_eq_of_lt h0 (Int.lt_trans h1 (by decide))]
    simp
theorem bu5 (n : Int) (w : World) : (Instr.build 56 #[(0, .int .u64 n)]).run Tryd.prog w = .ok (ag5 (sm5 n)) w := by kernel_rfl

section
variable {P : Program} {ops : Array Oper} {Q : Exit → Act → World → Prop} {md : Region.Mode} {F : Nat → Fact} {a0 : Act} {w0 : World} {i : Nat} {o : Oper} {ts : Array TypeId}
theorem step_mv (hi : ops[i]? = some o) (p : Nat) (hop : o.op = .move (.tmp p)) (hp : apart ops p = true) {v : Value} (h0 : a0.tmps.getD p undef = v) (hF : F i = Fact.eq v) : StepOk P md ops Q F a0 w0 i := by
  refine step_pure hi fun b w hb hw _ => ⟨v, ?_, by rw [hF]; exact rfl⟩
  have e := (based_at hb p hp).trans h0
  simp [execOp, hop, e]
end
section
variable {ops : Array Oper} {Q : Exit → Act → World → Prop} {md : Region.Mode} {F : Nat → Fact} {a0 : Act} {w0 : World} {i : Nat} {o : Oper} {ts : Array TypeId}
theorem step_e5 (hi : ops[i]? = some o) (p : Nat) (hop : o.op = .load 56 (.tmp p)) (hp : apart ops p = true) (q off : Nat) (h0 : a0.tmps.getD p undef = .pointer (some ⟨q, off, none⟩)) (A : Int) (hE : Em5 w0 q off A) (hF : F i = EM A) : StepOk Tryd.prog md ops Q F a0 w0 i := by
  refine step_load hi _ _ hop _ 5 u5 rfl i5 fun a w hb hw _ => ?_
  obtain ⟨t, r, _, h⟩ := hE.up hw
  exact ⟨q, off, _, (based_at hb p hp).trans h0, r, rfl, by rw [hF]; exact ⟨t, rfl, h⟩⟩
theorem step_e5f (hi : ops[i]? = some o) (p j : Nat) (hop : o.op = .load 56 (.tmp p)) (hj : waits md ops i j p = true) (q off : Nat) (hFj : F j = Fact.eq (.pointer (some ⟨q, off, none⟩))) (A : Int) (hE : Em5 w0 q off A) (hF : F i = EM A) : StepOk Tryd.prog md ops Q F a0 w0 i := by
  refine step_load hi _ _ hop _ 5 u5 rfl i5 fun a w _ hw hf => ?_
  obtain ⟨t, r, _, h⟩ := hE.up hw
  have e := hf j p hj
  rw [hFj] at e
  exact ⟨q, off, _, e, r, rfl, by rw [hF]; exact ⟨t, rfl, h⟩⟩
theorem step_b5 (hi : ops[i]? = some o) (n : Int) (h0 : 0 ≤ n ∧ n < 1000000) (hop : o.op = .build 56 #[(0, .const (.int .u64 n))]) (hF : F i = EM n) : StepOk Tryd.prog md ops Q F a0 w0 i := by
  refine step_pure hi fun a w _ _ _ => ⟨ag5 (sm5 n), ?_, by rw [hF]; exact ⟨_, rfl, sm5_ok h0.1 h0.2⟩⟩
  simp only [execOp, hop]
  have g : (#[(0, Operand.const (.int .u64 n))].map fun (n, x) => (n, a.eval x)) = #[(0, .int .u64 n)] := by simp [Act.eval]
  rw [g, Sem.run_bind, bu5]
  rfl
theorem step_two5 (hi : ops[i]? = some o) (n : FuncId) (p q : Nat) (hop : o.op = .call { callee := .value (.func n), args := #[.tmp p, .tmp q], argTypes := ts }) (he : enters Tryd.prog n = true)
    (f : Int → Int → Int) (law : ∀ (w : World) (a b : Nat → Int), Below w0.heap.size w0 w → Lm a → Lm b → Calls Tryd.prog n #[ag5 a, ag5 b] w fun r w' => ∃ t, r = .returned (ag5 t) ∧ Lm t ∧ sv t 5 = f (sv a 5) (sv b 5) % PP ∧ Below w.heap.size w w')
    (hf : ∀ a b A B : Int, a % PP = A % PP → b % PP = B % PP → f a b % PP = f A B % PP)
    (j k : Nat) (A B : Int) (hj : waits md ops i j p = true) (hk : waits md ops i k q = true) (hFj : F j = EM A) (hFk : F k = EM B) (hFi : F i = EM (f A B)) : StepOk Tryd.prog md ops Q F a0 w0 i := by
  refine step_call hi n _ ts hop he fun a w _ hw hF => ?_
  have ea := hF j p hj
  have eb := hF k q hk
  rw [hFj] at ea
  rw [hFk] at eb
  obtain ⟨t, e1, L1, V1⟩ := ea
  obtain ⟨u, e2, L2, V2⟩ := eb
  show Calls Tryd.prog n #[a.tmps.getD p undef, a.tmps.getD q undef] w _
  rw [e1, e2]
  refine (law w t u hw L1 L2).mono ?_
  rintro r w' ⟨s, rfl, L, V, hn⟩
  rw [hFi]
  refine ⟨_, rfl, hn, s, rfl, L, ?_⟩
  rw [V]
  exact hf _ _ _ _ (by rw [V1, Int.emod_emod_of_dvd _ (Int.dvd_refl _)]) (by rw [V2, Int.emod_emod_of_dvd _ (Int.dvd_refl _)])
theorem step_one5 (hi : ops[i]? = some o) (n : FuncId) (p : Nat) (hop : o.op = .call { callee := .value (.func n), args := #[.tmp p], argTypes := ts }) (he : enters Tryd.prog n = true)
    (f : Int → Int) (law : ∀ (w : World) (a : Nat → Int), Below w0.heap.size w0 w → Elm a → Calls Tryd.prog n #[ag5 a] w fun r w' => ∃ t, r = .returned (ag5 t) ∧ Lm t ∧ sv t 5 = f (sv a 5) % PP ∧ Below w.heap.size w w')
    (hf : ∀ a A : Int, a % PP = A % PP → f a % PP = f A % PP)
    (j : Nat) (A : Int) (hj : waits md ops i j p = true) (hFj : F j = EM A) (hFi : F i = EM (f A)) : StepOk Tryd.prog md ops Q F a0 w0 i := by
  refine step_call hi n _ ts hop he fun a w _ hw hF => ?_
  have ea := hF j p hj
  rw [hFj] at ea
  obtain ⟨t, e1, L1, V1⟩ := ea
  show Calls Tryd.prog n #[a.tmps.getD p undef] w _
  rw [e1]
  refine (law w t hw (Elm.of L1 V1)).mono ?_
  rintro r w' ⟨s, rfl, L, V, hn⟩
  rw [hFi]
  refine ⟨_, rfl, hn, s, rfl, L, ?_⟩
  rw [V]
  exact hf _ _ (by rw [V1, Int.emod_emod_of_dvd _ (Int.dvd_refl _)])
theorem en5_add : enters Tryd.prog 105 = true := by kernel_rfl
theorem en5_sub : enters Tryd.prog 107 = true := by kernel_rfl
theorem en5_mul : enters Tryd.prog 106 = true := by kernel_rfl
theorem en5_sq : enters Tryd.prog 118 = true := by kernel_rfl
theorem en5_inv : enters Tryd.prog 108 = true := by kernel_rfl
theorem step_add5 (hi : ops[i]? = some o) (p q j k : Nat) (A B : Int) (hop : o.op = .call { callee := .value (.func 105), args := #[.tmp p, .tmp q], argTypes := ts })
    (hj : waits md ops i j p = true) (hk : waits md ops i k q = true) (hFj : F j = EM A) (hFk : F k = EM B) (hFi : F i = EM (A + B)) : StepOk Tryd.prog md ops Q F a0 w0 i :=
  step_two5 hi _ p q hop en5_add (fun a b => a + b) (fun w a b _ ha hb => (add_any w a b ha hb).mono (by
    rintro r w' ⟨rfl, n⟩
    obtain ⟨_, h2, h3⟩ := add_ok ha hb
    exact ⟨_, rfl, h3, h2, n⟩)) (fun _ _ _ _ h k => mod_add h k) j k A B hj hk hFj hFk hFi
theorem step_sub5 (hT : HasTw w0 3) (hi : ops[i]? = some o) (p q j k : Nat) (A B : Int) (hop : o.op = .call { callee := .value (.func 107), args := #[.tmp p, .tmp q], argTypes := ts })
    (hj : waits md ops i j p = true) (hk : waits md ops i k q = true) (hFj : F j = EM A) (hFk : F k = EM B) (hFi : F i = EM (A - B)) : StepOk Tryd.prog md ops Q F a0 w0 i :=
  step_two5 hi _ p q hop en5_sub (fun a b => a - b) (fun w a b hw ha hb => subE_any w a b ha hb (hT.up hw)) (fun _ _ _ _ h k => mod_sub h k) j k A B hj hk hFj hFk hFi
theorem step_mul5 (hi : ops[i]? = some o) (p q j k : Nat) (A B : Int) (hop : o.op = .call { callee := .value (.func 106), args := #[.tmp p, .tmp q], argTypes := ts })
    (hj : waits md ops i j p = true) (hk : waits md ops i k q = true) (hFj : F j = EM A) (hFk : F k = EM B) (hFi : F i = EM (A * B)) : StepOk Tryd.prog md ops Q F a0 w0 i :=
  step_two5 hi _ p q hop en5_mul (fun a b => a * b) (fun w a b _ ha hb => mulE_any w a b ha hb) (fun _ _ _ _ h k => mod_mul h k) j k A B hj hk hFj hFk hFi
theorem step_sq5 (hi : ops[i]? = some o) (p j : Nat) (A : Int) (hop : o.op = .call { callee := .value (.func 118), args := #[.tmp p], argTypes := ts })
    (hj : waits md ops i j p = true) (hFj : F j = EM A) (hFi : F i = EM (A * A)) : StepOk Tryd.prog md ops Q F a0 w0 i :=
  step_one5 hi _ p hop en5_sq (fun a => a * a) (fun w a _ ha => square_any w a ha.1) (fun _ _ h => mod_mul h h) j A hj hFj hFi
theorem step_inv5 (hS : HasSt w0 7) (hI : Has3 w0 4 12 5 4) (hi : ops[i]? = some o) (p j : Nat) (A : Int) (hop : o.op = .call { callee := .value (.func 108), args := #[.tmp p], argTypes := ts })
    (hj : waits md ops i j p = true) (hFj : F j = EM A) (hFi : F i = EM (A ^ eInv)) : StepOk Tryd.prog md ops Q F a0 w0 i :=
  step_one5 hi _ p hop en5_inv (fun a => a ^ eInv) (fun w a hw ha => invert_any w a ha (hS.up hw) (hI.up hw)) (fun _ _ h => pow_mod h _) j A hj hFj hFi
abbrev zObj5 : Obj := .cells #[.int .u64 0, .int .u64 0, .int .u64 0, .int .u64 0, .int .u64 0] 56
theorem fresh_grow (hi : ops[i]? = some o) (ob : Obj)
    (G : ∀ (a : Act) (w : World), Below w0.heap.size w0 w → (execOp a.eval o).run Tryd.prog w = .ok (.value (.pointer (some ⟨w.heap.size, 0, none⟩))) (w.alloc ob) ∧ (F i).p (.pointer (some ⟨w.heap.size, 0, none⟩)) (w.alloc ob)) : FreshOk Tryd.prog md ops Q F a0 w0 i := by
  intro o' ho' a w hb hw hf K hK
  obtain rfl := Option.some.inj (hi.symm.trans ho')
  obtain ⟨hr, hv⟩ := G a w hw
  unfold Oper.wp
  rw [hr]
  exact hK _ _ ((Below.refl _ _).alloc (Nat.le_refl _) _) hv rfl (by simp)
theorem fresh_new5 (hi : ops[i]? = some o) (hop : o.op = .alloc 56) (hF : F i = NB w0 5) : FreshOk Tryd.prog md ops Q F a0 w0 i := by
  refine fresh_grow hi zObj5 fun a w hw => ⟨?_, ?_⟩
  · simp only [execOp, hop]
    kernel_rfl
  · rw [hF]
    exact ⟨by omega, _, rfl, there_new w _ _, hw.size⟩
theorem step_new5 (hi : ops[i]? = some o) (hop : o.op = .alloc 56) (hF : F i = NB w0 5) : StepOk Tryd.prog md ops Q F a0 w0 i := (fresh_new5 hi hop hF).step
end
theorem set_em {W : World} {q : Nat} {t : Nat → Int} {A : Int} (th : W.there q 0 5) (h : Is5 t A) : Em5 (W.setCells q 0 (cl5 t)) q 0 A :=
  ⟨t, World.rangeAt_setCells_same W q 0 _ th, by rw [heap_size_setCells]; exact there_lt (by omega) th, h⟩
section
variable {ops : Array Oper} {Q : Exit → Act → World → Prop} {a0 : Act} {w : World} {id : Nat} {draw : Bool}
/-- A region that lays an element into a block that was there. -/
theorem region_put5 (k jV pD pV : Nat) (o : Oper) (F : Nat → Fact) (A : Int) (q : Nat) (hT : textOk .any ops a0.tmps.size k = true) (hk : ops[k]? = some o) (hd : o.dst = none) (hop : o.op = .store 56 (.tmp pD) (.tmp pV))
    (hp : apart ops pD = true) (h0 : a0.tmps.getD pD undef = .pointer (some ⟨q, 0, none⟩)) (ht : w.there q 0 5) (wV : writes ops jV pV = true) (FV : F jV = EM A) (steps : ∀ i, i < k → StepOk Tryd.prog .any ops Q F a0 w i)
    (fin : ∀ (vs : Nat → Value) (W W' : World), Below w.heap.size w W → ButQ q w W' → Em5 W' q 0 A → (∀ (w1 : World) (B : Nat), Below B w1 W → B ≤ q → Below B w1 W') → Q .normal (puts vs a0 ops.toList) W') :
    (Code.region id ops draw).wp Tryd.prog Q a0 w := by
  refine region_store k o F (by kernel_rfl) hT hk hd steps fun a W hb hw hF => ?_
  have h2 := hF jV pV wV
  rw [FV] at h2
  obtain ⟨t, ev, V⟩ := h2
  have th := there_up (by omega) ht hw
  refine wp_store_mid 56 (.tmp pD) (.tmp pV) hop q 0 (cl5 t).toArray ((based_at hb pD hp).trans h0) ev th i5 (cl5_one t) ?_
  obtain ⟨vs, hvs⟩ : ∃ vs : Nat → Value, ∀ d, a.tmps.getD d undef = vs d := ⟨_, fun _ => rfl⟩
  rw [hd]
  show Q .normal a _
  rw [puts_of hT rfl hb vs hvs]
  exact fin vs W _ hw (but_set hw _) (set_em th V) (fun w1 B n hB => below_setCells hB _ _ _ n)
end
end Go.Proofs.YthapcapiiknjdaaDoor

/-
  The ladder's step as numbers: a pair u : v doubled, and the sum of two pairs whose difference is x.
-/
namespace Go.Proofs.YthapcapiiknjdaaDoor
set_option maxRecDepth 100000
open Go.RowKit

def dW (u v : Int) : Int := (u + v) * (u + v) - (u - v) * (u - v)
def dU (u v : Int) : Int := (u + v) * (u + v) * ((u - v) * (u - v))
def dV (u v : Int) : Int := dW u v * ((u + v) * (u + v) + dW u v * 121665)
def sY (u v u' v' : Int) : Int := (u' - v') * (u + v)
def sZ (u v u' v' : Int) : Int := (u' + v') * (u - v)
def sU (u v u' v' : Int) : Int := (sY u v u' v' + sZ u v u' v') * (sY u v u' v' + sZ u v u' v')
def sV (x u v u' v' : Int) : Int := x * ((sY u v u' v' - sZ u v u' v') * (sY u v u' v' - sZ u v u' v'))
end Go.Proofs.YthapcapiiknjdaaDoor

/-
  The program's climb: one pair is doubled, the other becomes the sum.
-/
namespace Go.Proofs.YthapcapiiknjdaaDoor
set_option maxRecDepth 100000
open Go Go.RowKit

/-- All blocks but two are as they were. -/
def But2 (q1 q2 : Nat) (W W' : World) : Prop := (∀ g, g ≠ q1 → g ≠ q2 → g < W.heap.size → W'.heap[g]? = W.heap[g]?) ∧ W.heap.size ≤ W'.heap.size ∧ ∀ (w1 : World) (B : Nat), Below B w1 W → B ≤ q1 → B ≤ q2 → B ≤ W.heap.size → Below B w1 W'
theorem em5_new (W : World) (t : TypeId) {a : Nat → Int} {A : Int} (ha : Is5 a A) : Em5 (W.alloc (.cells #[.int .u64 (a 0), .int .u64 (a 1), .int .u64 (a 2), .int .u64 (a 3), .int .u64 (a 4)] t)) W.heap.size 0 A := by
  have e : (W.alloc (.cells #[.int .u64 (a 0), .int .u64 (a 1), .int .u64 (a 2), .int .u64 (a 3), .int .u64 (a 4)] t)).heap[W.heap.size]? = some (.cells #[.int .u64 (a 0), .int .u64 (a 1), .int .u64 (a 2), .int .u64 (a 3), .int .u64 (a 4)] t) := heap_alloc_last _ _
  refine ⟨a, fun j v hv => ?_, by simp, ha⟩
  unfold World.cell?
  simp only
  rw [e]
  have hj : j < 5 := (List.getElem?_eq_some_iff.1 hv).1
  obtain rfl | rfl | rfl | rfl | rfl : j = 0 ∨ j = 1 ∨ j = 2 ∨ j = 3 ∨ j = 4 := by omega
  all_goals simpa [cl5] using hv

end Go.Proofs.YthapcapiiknjdaaDoor

/-
  The program's exchange of two elements by a mask, and of two pairs.
-/
namespace Go.Proofs.YthapcapiiknjdaaDoor
set_option maxRecDepth 100000
open Go Go.RowKit

/-- Block q holds ten words that may be written. -/
def Tens (W : World) (q : Nat) (f : Nat → Int) : Prop := ∀ j, j < 10 → W.cell? ⟨q, j, none⟩ = some (.int .u64 (f j)) ∧ W.frozen? ⟨q, j, none⟩ = false
/-- Words o .. o + k - 1 are g's if b, the others f's. -/
def mixT (b : Bool) (o k : Nat) (f g : Nat → Int) (j : Nat) : Int := if b = true ∧ o ≤ j ∧ j < o + k then g j else f j
theorem Tens.lt {W : World} {q : Nat} {f : Nat → Int} (h : Tens W q f) : q < W.heap.size := block_lt_of_cell (h 0 (by omega)).1
theorem Tens.of_block {W W' : World} {q : Nat} {f : Nat → Int} (h : Tens W q f) (hb : W'.heap[q]? = W.heap[q]?) : Tens W' q f := fun j hj => ⟨(World.cell?_of_block (a := ⟨q, j, none⟩) hb).trans (h j hj).1, (World.frozen?_of_block (a := ⟨q, j, none⟩) hb).trans (h j hj).2⟩
theorem Tens.store {W : World} {q : Nat} {b : Bool} {o k : Nat} {f g : Nat → Int} (h : Tens W q (mixT b o k f g)) (z : Int) (hz : z = if b = true then g (o + k) else f (o + k)) : Tens (W.setCell ⟨q, o + k, none⟩ (.int .u64 z)) q (mixT b o (k + 1) f g) := by
  intro j hj
  refine ⟨?_, by rw [World.frozen?_setCell]; exact (h j hj).2⟩
  by_cases e : j = o + k
  · subst e
    rw [World.cell?_setCell_same _ _ _ (h (o + k) hj).1, hz]
    unfold mixT
    by_cases hb : b = true
    · rw [if_pos hb, if_pos ⟨hb, by omega, by omega⟩]
    · rw [if_neg hb, if_neg (fun h => hb h.1)]
  · have hne : (⟨q, o + k, none⟩ : Addr) ≠ ⟨q, j, none⟩ := fun h => e (by simp only [Addr.mk.injEq, true_and, and_true] at h; omega)
    rw [World.cell?_setCell_other (h := hne), (h j hj).1]
    unfold mixT
    congr 2
    by_cases c : b = true ∧ o ≤ j ∧ j < o + k
    · rw [if_pos c, if_pos ⟨c.1, c.2.1, by omega⟩]
    · rw [if_neg c, if_neg (fun h => c ⟨h.1, h.2.1, by omega⟩)]
/-- The mask. -/
def mask (b : Bool) : Int := if b = true then 18446744073709551615 else 0

theorem Tens.congr {W : World} {q : Nat} {f g : Nat → Int} (h : Tens W q f) (e : ∀ j, j < 10 → f j = g j) : Tens W q g := fun j hj => ⟨by rw [← e j hj]; exact (h j hj).1, (h j hj).2⟩
theorem But2.trans {q1 q2 : Nat} {a b c : World} (h : But2 q1 q2 a b) (k : But2 q1 q2 b c) : But2 q1 q2 a c :=
  ⟨fun g h1 h2 h3 => (k.1 g h1 h2 (Nat.lt_of_lt_of_le h3 h.2.1)).trans (h.1 g h1 h2 h3), Nat.le_trans h.2.1 k.2.1, fun w1 B hb k1 k2 k3 => k.2.2 w1 B (h.2.2 w1 B hb k1 k2 k3) k1 k2 (Nat.le_trans k3 h.2.1)⟩
theorem But2.drewN {q1 q2 : Nat} {a b : World} (h : But2 q1 q2 a b) (n : Nat) : But2 q1 q2 a (b.drewN n) := ⟨h.1, h.2.1, fun w1 B hb k1 k2 k3 => below_drewN (h.2.2 w1 B hb k1 k2 k3) n⟩

/-- One of two numbers. -/
def pick (b : Bool) (x y : Int) : Int := if b = true then x else y
end Go.Proofs.YthapcapiiknjdaaDoor

/-
  The program's ladder: its bits, its rounds, its end.
-/
namespace Go.Proofs.YthapcapiiknjdaaDoor
set_option maxRecDepth 100000
open Go Go.RowKit

/-- The two pairs of a ladder. -/
structure Two4 where
  a : Int
  b : Int
  c : Int
  d : Int
/-- One round; bit: which of the two is doubled. -/
def lrnd (x : Int) (bit : Bool) (s : Two4) : Two4 :=
  ⟨pick bit (sU s.a s.b s.c s.d) (dU s.a s.b), pick bit (sV x s.a s.b s.c s.d) (dV s.a s.b), pick bit (dU s.c s.d) (sU s.a s.b s.c s.d), pick bit (dV s.c s.d) (sV x s.a s.b s.c s.d)⟩
/-- The pairs behind n rounds. -/
def lrnds (x : Int) (bit : Nat → Bool) : Nat → Two4
  | 0 => ⟨1, 0, x, 1⟩
  | n + 1 => lrnd x (bit n) (lrnds x bit n)


end Go.Proofs.YthapcapiiknjdaaDoor
