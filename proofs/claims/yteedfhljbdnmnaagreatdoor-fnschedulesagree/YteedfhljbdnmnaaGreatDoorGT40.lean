import Derived.Test.YteedfhljbdnmnaaGreatDoorGT8
import Derived.Test.YteedfhljbdnmnaaGreatDoorGT39
import Derived.Test.YteedfhljbdnmnaaGreatDoorGT1
import Derived.Deep.RegionHeld3
import Derived.Laws.Bits64
import Derived.Laws.Bits64b
import Derived.Deep.DeepCutAuto
import Derived.Test.YteedfhljbdnmnaaGreatDoorGT23
import Derived.Test.YteedfhljbdnmnaaGreatDoorGT38
import Derived.Test.YteedfhljbdnmnaaGreatDoorGT24
import Derived.Laws.BitsAllLaws
namespace Go.Proofs.YteedfhljbdnmnaaGreatDoor
set_option maxRecDepth 100000
open Go Go.RowKit
def cl5 (e : Nat → Int) : List Value := [.int .u64 (e 0), .int .u64 (e 1), .int .u64 (e 2), .int .u64 (e 3), .int .u64 (e 4)]
def cl10 (e f : Nat → Int) : List Value := [.int .u64 (e 0), .int .u64 (e 1), .int .u64 (e 2), .int .u64 (e 3), .int .u64 (e 4), .int .u64 (f 0), .int .u64 (f 1), .int .u64 (f 2), .int .u64 (f 3), .int .u64 (f 4)]
def ag10 (e f : Nat → Int) : Value := .agg (cl10 e f).toArray
def Is5 (e : Nat → Int) (A : Int) : Prop := Lm e ∧ sv e 5 = A % PP
def EM (A : Int) : Fact := ⟨fun v _ => ∃ e, v = ag5 e ∧ Is5 e A, fun _ h => h⟩
def E2 (A B : Int) : Fact := ⟨fun v _ => ∃ e f, v = ag10 e f ∧ Is5 e A ∧ Is5 f B, fun _ h => h⟩
def Em5 (W : World) (q o : Nat) (A : Int) : Prop := ∃ e, W.rangeAt q o (cl5 e) ∧ q < W.heap.size ∧ Is5 e A
def Rat (W : World) (q : Nat) (A B : Int) : Prop := ∃ e f, W.rangeAt q 0 (cl10 e f) ∧ W.there q 0 10 ∧ Is5 e A ∧ Is5 f B
theorem Em5.up {W W' : World} {q o : Nat} {A : Int} (h : Em5 W q o A) (n : Below W.heap.size W W') : Em5 W' q o A := by
  obtain ⟨t, r, l, h⟩ := h
  exact ⟨t, fun j v hv => (World.cell?_of_block (a := ⟨q, o + j, none⟩) (n.block q l)).trans (r j v hv), Nat.lt_of_lt_of_le l n.size, h⟩
theorem Em5.but {W W' : World} {g o q : Nat} {A : Int} (h : Em5 W g o A) (k : ButQ q W W') (hne : g ≠ q) : Em5 W' g o A := by
  obtain ⟨t, r, l, h⟩ := h
  exact ⟨t, fun j v hv => (World.cell?_of_block (a := ⟨g, o + j, none⟩) (k.1 g hne l)).trans (r j v hv), Nat.lt_of_lt_of_le l k.2, h⟩
theorem Em5.lt {W : World} {q o : Nat} {A : Int} (h : Em5 W q o A) : q < W.heap.size := by
  obtain ⟨_, _, l, _⟩ := h
  exact l
theorem Rat.lt {W : World} {q : Nat} {A B : Int} (h : Rat W q A B) : q < W.heap.size := by
  obtain ⟨_, _, _, t, _⟩ := h
  exact there_lt (by omega) t
theorem Rat.up {W W' : World} {q : Nat} {A B : Int} (h : Rat W q A B) (n : Below W.heap.size W W') : Rat W' q A B := by
  have l := h.lt
  obtain ⟨e, f, r, t, h⟩ := h
  exact ⟨e, f, fun j v hv => (World.cell?_of_block (a := ⟨q, 0 + j, none⟩) (n.block q l)).trans (r j v hv), there_up (by omega) t n, h⟩
theorem Rat.but {W W' : World} {g q : Nat} {A B : Int} (h : Rat W g A B) (k : ButQ q W W') (hne : g ≠ q) : Rat W' g A B := by
  have l := h.lt
  obtain ⟨e, f, r, t, h⟩ := h
  exact ⟨e, f, fun j v hv => (World.cell?_of_block (a := ⟨g, 0 + j, none⟩) (k.1 g hne l)).trans (r j v hv), there_but (by omega) t k hne, h⟩
theorem Rat.x {W : World} {q : Nat} {A B : Int} (h : Rat W q A B) : Em5 W q 0 A := by
  have l := h.lt
  obtain ⟨e, f, r, t, h⟩ := h
  refine ⟨e, fun j v hv => r j v ?_, l, h.1⟩
  have hj : j < 5 := (List.getElem?_eq_some_iff.1 hv).1
  obtain rfl | rfl | rfl | rfl | rfl : j = 0 ∨ j = 1 ∨ j = 2 ∨ j = 3 ∨ j = 4 := by omega
  all_goals exact hv
theorem Rat.y {W : World} {q : Nat} {A B : Int} (h : Rat W q A B) : Em5 W q 5 B := by
  have l := h.lt
  obtain ⟨e, f, r, t, h⟩ := h
  refine ⟨f, fun j v hv => ?_, l, h.2⟩
  have hj : j < 5 := (List.getElem?_eq_some_iff.1 hv).1
  have q := r (5 + j) v (by
    obtain rfl | rfl | rfl | rfl | rfl : j = 0 ∨ j = 1 ∨ j = 2 ∨ j = 3 ∨ j = 4 := by omega
    all_goals exact hv)
  simpa using q
theorem cl5_one (e : Nat → Int) : (cl5 e).toArray.all (·.oneCell') = true := by simp [cl5, Value.oneCell']
theorem cl10_one (e f : Nat → Int) : (cl10 e f).toArray.all (·.oneCell') = true := by simp [cl10, Value.oneCell']
theorem u5 : Tryz.prog.underlying 42 = some (.array 5 40) := Tryz.underlying42
theorem i5 : (Tryz.prog.info? 42).map (·.size) = some 5 := by kernel_rfl
theorem i10 : (Tryz.prog.info? 72).map (·.size) = some 10 := by kernel_rfl
theorem bu10 (e f : Nat → Int) (w : World) : (Instr.build 72 #[(0, ag5 e), (1, ag5 f)]).run Tryz.prog w = .ok (ag10 e f) w := by kernel_rfl
def sm5 (n : Int) (j : Nat) : Int := if j = 0 then n else 0
theorem sm5_ok {n : Int} (h0 : 0 ≤ n) (h1 : n < 1000000) : Is5 (sm5 n) n := by
  refine ⟨fun j _ => ?_, ?_⟩
  · unfold sm5
    split <;> omega
  · simp only [sv, sm5]
    rw [Int.emod_eq_of_lt h0 (Int.lt_trans h1 (by decide))]
    simp
theorem bu5 (n : Int) (w : World) : (Instr.build 42 #[(0, .int .u64 n)]).run Tryz.prog w = .ok (ag5 (sm5 n)) w := by kernel_rfl
theorem fx10 (q : Nat) (w : World) : (Instr.fieldAt 72 (.pointer (some ⟨q, 0, none⟩)) 0).run Tryz.prog w = .ok (.pointer (some ⟨q, 0, none⟩)) w := by kernel_rfl
theorem fy10 (q : Nat) (w : World) : (Instr.fieldAt 72 (.pointer (some ⟨q, 0, none⟩)) 1).run Tryz.prog w = .ok (.pointer (some ⟨q, 5, none⟩)) w := by kernel_rfl
section
variable {P : Program} {ops : Array Oper} {Q : Exit → Act → World → Prop} {md : Region.Mode} {F : Nat → Fact} {a0 : Act} {w0 : World} {i : Nat} {o : Oper} {ts : Array TypeId}
theorem step_mv (hi : ops[i]? = some o) (p : Nat) (hop : o.op = .move (.tmp p)) (hp : apart ops p = true) {v : Value} (h0 : a0.tmps.getD p undef = v) (hF : F i = Fact.eq v) : StepOk P md ops Q F a0 w0 i := by
  refine step_pure hi fun b w hb hw _ => ⟨v, ?_, by rw [hF]; exact rfl⟩
  have e := (based_at hb p hp).trans h0
  simp [execOp, hop, e]
theorem step_nil (hi : ops[i]? = some o) (p j : Nat) (hop : o.op = .nilCheck (.tmp p)) (hj : waits md ops i j p = true) {q off : Nat} (hFj : F j = Fact.eq (.pointer (some ⟨q, off, none⟩))) (hF : F i = Fact.eq (.pointer (some ⟨q, off, none⟩))) : StepOk P md ops Q F a0 w0 i := by
  refine step_pure hi fun a w hb hw hf => ⟨.pointer (some ⟨q, off, none⟩), ?_, by rw [hF]; exact rfl⟩
  have e := hf j p hj
  rw [hFj] at e
  have e' : a.eval (.tmp p) = .pointer (some ⟨q, off, none⟩) := e
  simp [execOp, hop, e']
theorem step_fldf (hi : ops[i]? = some o) (ty : TypeId) (p f j : Nat) (hop : o.op = .fieldAddr ty (.tmp p) f) (hj : waits md ops i j p = true) (q off : Nat) (hFj : F j = Fact.eq (.pointer (some ⟨q, 0, none⟩)))
    (hr : ∀ w, (Instr.fieldAt ty (.pointer (some ⟨q, 0, none⟩)) f).run P w = .ok (.pointer (some ⟨q, off, none⟩)) w) (hF : F i = Fact.eq (.pointer (some ⟨q, off, none⟩))) : StepOk P md ops Q F a0 w0 i := by
  refine step_pure hi fun a w hb _ hf => ⟨_, ?_, by rw [hF]; exact rfl⟩
  have e := hf j p hj
  rw [hFj] at e
  have e' : a.eval (.tmp p) = .pointer (some ⟨q, 0, none⟩) := e
  simp [execOp, hop, e', hr]
end
section
variable {ops : Array Oper} {Q : Exit → Act → World → Prop} {md : Region.Mode} {F : Nat → Fact} {a0 : Act} {w0 : World} {i : Nat} {o : Oper} {ts : Array TypeId}
theorem step_e5 (hi : ops[i]? = some o) (p : Nat) (hop : o.op = .load 42 (.tmp p)) (hp : apart ops p = true) (q off : Nat) (h0 : a0.tmps.getD p undef = .pointer (some ⟨q, off, none⟩)) (A : Int) (hE : Em5 w0 q off A) (hF : F i = EM A) : StepOk Tryz.prog md ops Q F a0 w0 i := by
  refine step_load hi _ _ hop _ 5 u5 rfl i5 fun a w hb hw _ => ?_
  obtain ⟨t, r, _, h⟩ := hE.up hw
  exact ⟨q, off, _, (based_at hb p hp).trans h0, r, rfl, by rw [hF]; exact ⟨t, rfl, h⟩⟩
theorem step_e5f (hi : ops[i]? = some o) (p j : Nat) (hop : o.op = .load 42 (.tmp p)) (hj : waits md ops i j p = true) (q off : Nat) (hFj : F j = Fact.eq (.pointer (some ⟨q, off, none⟩))) (A : Int) (hE : Em5 w0 q off A) (hF : F i = EM A) : StepOk Tryz.prog md ops Q F a0 w0 i := by
  refine step_load hi _ _ hop _ 5 u5 rfl i5 fun a w _ hw hf => ?_
  obtain ⟨t, r, _, h⟩ := hE.up hw
  have e := hf j p hj
  rw [hFj] at e
  exact ⟨q, off, _, e, r, rfl, by rw [hF]; exact ⟨t, rfl, h⟩⟩
theorem step_b5 (hi : ops[i]? = some o) (n : Int) (h0 : 0 ≤ n ∧ n < 1000000) (hop : o.op = .build 42 #[(0, .const (.int .u64 n))]) (hF : F i = EM n) : StepOk Tryz.prog md ops Q F a0 w0 i := by
  refine step_pure hi fun a w _ _ _ => ⟨ag5 (sm5 n), ?_, by rw [hF]; exact ⟨_, rfl, sm5_ok h0.1 h0.2⟩⟩
  simp only [execOp, hop]
  have g : (#[(0, Operand.const (.int .u64 n))].map fun (n, x) => (n, a.eval x)) = #[(0, .int .u64 n)] := by simp [Act.eval]
  rw [g, Sem.run_bind, bu5]
  rfl
theorem step_b10 (hi : ops[i]? = some o) (p q j k : Nat) (A B : Int) (hop : o.op = .build 72 #[(0, .tmp p), (1, .tmp q)])
    (hj : waits md ops i j p = true) (hk : waits md ops i k q = true) (hFj : F j = EM A) (hFk : F k = EM B) (hFi : F i = E2 A B) : StepOk Tryz.prog md ops Q F a0 w0 i := by
  refine step_pure hi fun a w _ _ hf => ?_
  have h1 := hf j p hj
  have h2 := hf k q hk
  rw [hFj] at h1
  rw [hFk] at h2
  obtain ⟨x, e1, X⟩ := h1
  obtain ⟨y, e2, Y⟩ := h2
  refine ⟨ag10 x y, ?_, by rw [hFi]; exact ⟨x, y, rfl, X, Y⟩⟩
  have g1 : a.eval (.tmp p) = ag5 x := e1
  have g2 : a.eval (.tmp q) = ag5 y := e2
  have g : (#[(0, Operand.tmp p), (1, Operand.tmp q)].map fun (n, x) => (n, a.eval x)) = #[(0, ag5 x), (1, ag5 y)] := by simp [g1, g2]
  simp only [execOp, hop, g]
  rw [Sem.run_bind, bu10]
  rfl
theorem step_two5 (hi : ops[i]? = some o) (n : FuncId) (p q : Nat) (hop : o.op = .call { callee := .value (.func n), args := #[.tmp p, .tmp q], argTypes := ts }) (he : enters Tryz.prog n = true)
    (f : Int → Int → Int) (law : ∀ (w : World) (a b : Nat → Int), Below w0.heap.size w0 w → Lm a → Lm b → Calls Tryz.prog n #[ag5 a, ag5 b] w fun r w' => ∃ t, r = .returned (ag5 t) ∧ Lm t ∧ sv t 5 = f (sv a 5) (sv b 5) % PP ∧ Below w.heap.size w w')
    (hf : ∀ a b A B : Int, a % PP = A % PP → b % PP = B % PP → f a b % PP = f A B % PP)
    (j k : Nat) (A B : Int) (hj : waits md ops i j p = true) (hk : waits md ops i k q = true) (hFj : F j = EM A) (hFk : F k = EM B) (hFi : F i = EM (f A B)) : StepOk Tryz.prog md ops Q F a0 w0 i := by
  refine step_call hi n _ ts hop he fun a w _ hw hF => ?_
  have ea := hF j p hj
  have eb := hF k q hk
  rw [hFj] at ea
  rw [hFk] at eb
  obtain ⟨t, e1, L1, V1⟩ := ea
  obtain ⟨u, e2, L2, V2⟩ := eb
  show Calls Tryz.prog n #[a.tmps.getD p undef, a.tmps.getD q undef] w _
  rw [e1, e2]
  refine (law w t u hw L1 L2).mono ?_
  rintro r w' ⟨s, rfl, L, V, hn⟩
  rw [hFi]
  refine ⟨_, rfl, hn, s, rfl, L, ?_⟩
  rw [V]
  exact hf _ _ _ _ (by rw [V1, Int.emod_emod_of_dvd _ (Int.dvd_refl _)]) (by rw [V2, Int.emod_emod_of_dvd _ (Int.dvd_refl _)])
theorem step_one5 (hi : ops[i]? = some o) (n : FuncId) (p : Nat) (hop : o.op = .call { callee := .value (.func n), args := #[.tmp p], argTypes := ts }) (he : enters Tryz.prog n = true)
    (f : Int → Int) (law : ∀ (w : World) (a : Nat → Int), Below w0.heap.size w0 w → Elm a → Calls Tryz.prog n #[ag5 a] w fun r w' => ∃ t, r = .returned (ag5 t) ∧ Lm t ∧ sv t 5 = f (sv a 5) % PP ∧ Below w.heap.size w w')
    (hf : ∀ a A : Int, a % PP = A % PP → f a % PP = f A % PP)
    (j : Nat) (A : Int) (hj : waits md ops i j p = true) (hFj : F j = EM A) (hFi : F i = EM (f A)) : StepOk Tryz.prog md ops Q F a0 w0 i := by
  refine step_call hi n _ ts hop he fun a w _ hw hF => ?_
  have ea := hF j p hj
  rw [hFj] at ea
  obtain ⟨t, e1, L1, V1⟩ := ea
  show Calls Tryz.prog n #[a.tmps.getD p undef] w _
  rw [e1]
  refine (law w t hw (Elm.of L1 V1)).mono ?_
  rintro r w' ⟨s, rfl, L, V, hn⟩
  rw [hFi]
  refine ⟨_, rfl, hn, s, rfl, L, ?_⟩
  rw [V]
  exact hf _ _ (by rw [V1, Int.emod_emod_of_dvd _ (Int.dvd_refl _)])
theorem en5_add : enters Tryz.prog 90 = true := by kernel_rfl
theorem en5_sub : enters Tryz.prog 91 = true := by kernel_rfl
theorem en5_mul : enters Tryz.prog 54 = true := by kernel_rfl
theorem en5_sq : enters Tryz.prog 92 = true := by kernel_rfl
theorem en5_inv : enters Tryz.prog 55 = true := by kernel_rfl
theorem step_add5 (hi : ops[i]? = some o) (p q j k : Nat) (A B : Int) (hop : o.op = .call { callee := .value (.func 90), args := #[.tmp p, .tmp q], argTypes := ts })
    (hj : waits md ops i j p = true) (hk : waits md ops i k q = true) (hFj : F j = EM A) (hFk : F k = EM B) (hFi : F i = EM (A + B)) : StepOk Tryz.prog md ops Q F a0 w0 i :=
  step_two5 hi _ p q hop en5_add (fun a b => a + b) (fun w a b _ ha hb => (add_any w a b ha hb).mono (by
    rintro r w' ⟨rfl, n⟩
    obtain ⟨_, h2, h3⟩ := add_ok ha hb
    exact ⟨_, rfl, h3, h2, n⟩)) (fun _ _ _ _ h k => mod_add h k) j k A B hj hk hFj hFk hFi
theorem step_sub5 (hT : HasTw w0 3) (hi : ops[i]? = some o) (p q j k : Nat) (A B : Int) (hop : o.op = .call { callee := .value (.func 91), args := #[.tmp p, .tmp q], argTypes := ts })
    (hj : waits md ops i j p = true) (hk : waits md ops i k q = true) (hFj : F j = EM A) (hFk : F k = EM B) (hFi : F i = EM (A - B)) : StepOk Tryz.prog md ops Q F a0 w0 i :=
  step_two5 hi _ p q hop en5_sub (fun a b => a - b) (fun w a b hw ha hb => subE_any w a b ha hb (hT.up hw)) (fun _ _ _ _ h k => mod_sub h k) j k A B hj hk hFj hFk hFi
theorem step_mul5 (hi : ops[i]? = some o) (p q j k : Nat) (A B : Int) (hop : o.op = .call { callee := .value (.func 54), args := #[.tmp p, .tmp q], argTypes := ts })
    (hj : waits md ops i j p = true) (hk : waits md ops i k q = true) (hFj : F j = EM A) (hFk : F k = EM B) (hFi : F i = EM (A * B)) : StepOk Tryz.prog md ops Q F a0 w0 i :=
  step_two5 hi _ p q hop en5_mul (fun a b => a * b) (fun w a b _ ha hb => mulE_any w a b ha hb) (fun _ _ _ _ h k => mod_mul h k) j k A B hj hk hFj hFk hFi
theorem step_sq5 (hi : ops[i]? = some o) (p j : Nat) (A : Int) (hop : o.op = .call { callee := .value (.func 92), args := #[.tmp p], argTypes := ts })
    (hj : waits md ops i j p = true) (hFj : F j = EM A) (hFi : F i = EM (A * A)) : StepOk Tryz.prog md ops Q F a0 w0 i :=
  step_one5 hi _ p hop en5_sq (fun a => a * a) (fun w a _ ha => square_any w a ha.1) (fun _ _ h => mod_mul h h) j A hj hFj hFi
theorem step_inv5 (hS : HasSt w0 4) (hI : Has3 w0 1 12 5 4) (hi : ops[i]? = some o) (p j : Nat) (A : Int) (hop : o.op = .call { callee := .value (.func 55), args := #[.tmp p], argTypes := ts })
    (hj : waits md ops i j p = true) (hFj : F j = EM A) (hFi : F i = EM (A ^ eInv)) : StepOk Tryz.prog md ops Q F a0 w0 i :=
  step_one5 hi _ p hop en5_inv (fun a => a ^ eInv) (fun w a hw ha => invert_any w a ha (hS.up hw) (hI.up hw)) (fun _ _ h => pow_mod h _) j A hj hFj hFi
abbrev zObj5 : Obj := .cells #[.int .u64 0, .int .u64 0, .int .u64 0, .int .u64 0, .int .u64 0] 42
theorem fresh_grow (hi : ops[i]? = some o) (ob : Obj)
    (G : ∀ (a : Act) (w : World), Below w0.heap.size w0 w → (execOp a.eval o).run Tryz.prog w = .ok (.value (.pointer (some ⟨w.heap.size, 0, none⟩))) (w.alloc ob) ∧ (F i).p (.pointer (some ⟨w.heap.size, 0, none⟩)) (w.alloc ob)) : FreshOk Tryz.prog md ops Q F a0 w0 i := by
  intro o' ho' a w hb hw hf K hK
  obtain rfl := Option.some.inj (hi.symm.trans ho')
  obtain ⟨hr, hv⟩ := G a w hw
  unfold Oper.wp
  rw [hr]
  exact hK _ _ ((Below.refl _ _).alloc (Nat.le_refl _) _) hv rfl (by simp)
theorem fresh_new5 (hi : ops[i]? = some o) (hop : o.op = .alloc 42) (hF : F i = NB w0 5) : FreshOk Tryz.prog md ops Q F a0 w0 i := by
  refine fresh_grow hi zObj5 fun a w hw => ⟨?_, ?_⟩
  · simp only [execOp, hop]
    kernel_rfl
  · rw [hF]
    exact ⟨by omega, _, rfl, there_new w _ _, hw.size⟩
theorem step_new5 (hi : ops[i]? = some o) (hop : o.op = .alloc 42) (hF : F i = NB w0 5) : StepOk Tryz.prog md ops Q F a0 w0 i := (fresh_new5 hi hop hF).step
end
theorem set_em {W : World} {q : Nat} {t : Nat → Int} {A : Int} (th : W.there q 0 5) (h : Is5 t A) : Em5 (W.setCells q 0 (cl5 t)) q 0 A :=
  ⟨t, World.rangeAt_setCells_same W q 0 _ th, by rw [heap_size_setCells]; exact there_lt (by omega) th, h⟩
theorem set_rat {W : World} {q : Nat} {e f : Nat → Int} {A B : Int} (th : W.there q 0 10) (h : Is5 e A) (h' : Is5 f B) : Rat (W.setCells q 0 (cl10 e f)) q A B :=
  ⟨e, f, World.rangeAt_setCells_same W q 0 _ th, World.there_setCells th _ _ _, h, h'⟩
section
variable {ops : Array Oper} {Q : Exit → Act → World → Prop} {a0 : Act} {w : World} {id : Nat} {draw : Bool}
theorem region_new5 (k jA jV pA pV : Nat) (o : Oper) (F : Nat → Fact) (A : Int) (hT : textOk .any ops a0.tmps.size k = true) (hk : ops[k]? = some o) (hd : o.dst = none) (hop : o.op = .store 42 (.tmp pA) (.tmp pV))
    (wA : writes ops jA pA = true) (wV : writes ops jV pV = true) (FA : F jA = NB w 5) (FV : F jV = EM A) (steps : ∀ i, i < k → StepOk Tryz.prog .any ops Q F a0 w i)
    (fin : ∀ (vs : Nat → Value) (q : Nat) (W : World), vs pA = .pointer (some ⟨q, 0, none⟩) → w.heap.size ≤ q → Below w.heap.size w W → Em5 W q 0 A → Q .normal (puts vs a0 ops.toList) W) :
    (Code.region id ops draw).wp Tryz.prog Q a0 w := by
  refine region_store k o F (by kernel_rfl) hT hk hd steps fun a W hb hw hF => ?_
  have h1 := hF jA pA wA
  have h2 := hF jV pV wV
  rw [FA] at h1
  rw [FV] at h2
  obtain ⟨_, q, eq, th, hq⟩ := h1
  obtain ⟨t, ev, V⟩ := h2
  refine wp_store_mid 42 (.tmp pA) (.tmp pV) hop q 0 (cl5 t).toArray eq ev th i5 (cl5_one t) ?_
  obtain ⟨vs, hvs⟩ : ∃ vs : Nat → Value, ∀ d, a.tmps.getD d undef = vs d := ⟨_, fun _ => rfl⟩
  rw [hd]
  show Q .normal a _
  rw [puts_of hT rfl hb vs hvs]
  exact fin vs q _ ((hvs pA).symm.trans eq) hq (below_setCells hq _ _ _ hw) (set_em th V)
theorem region_new55 (k jA jV pA pV jB jU pB pU : Nat) (o1 o2 : Oper) (F : Nat → Fact) (A B : Int) (hT : textTwo .any ops a0.tmps.size k = true) (hk1 : ops[k]? = some o1) (hk2 : ops[k + 1]? = some o2) (hd1 : o1.dst = none) (hd2 : o2.dst = none)
    (hop1 : o1.op = .store 42 (.tmp pA) (.tmp pV)) (hop2 : o2.op = .store 42 (.tmp pB) (.tmp pU))
    (wA : writes ops jA pA = true) (wV : writes ops jV pV = true) (wB : writes ops jB pB = true) (wU : writes ops jU pU = true) (FA : F jA = NB w 5) (FV : F jV = EM A) (FB : F jB = NB w 5) (FU : F jU = EM B)
    (qA : jA < k) (qB : jB < k) (hne : jA ≠ jB) (fA : FreshOk Tryz.prog .any ops Q F a0 w jA) (fB : FreshOk Tryz.prog .any ops Q F a0 w jB) (steps : ∀ i, i < k → StepOk Tryz.prog .any ops Q F a0 w i)
    (fin : ∀ (vs : Nat → Value) (q q' : Nat) (W : World), vs pA = .pointer (some ⟨q, 0, none⟩) → vs pB = .pointer (some ⟨q', 0, none⟩) → w.heap.size ≤ q → w.heap.size ≤ q' → q ≠ q' → Below w.heap.size w W → Em5 W q 0 A → Em5 W q' 0 B → Q .normal (puts vs a0 ops.toList) W) :
    (Code.region id ops true).wp Tryz.prog Q a0 w := by
  refine region_two k o1 o2 F (by kernel_rfl) hT hk1 hk2 steps jA jB pA pB qA qB hne wA wB fA fB fun a W hb hw hF hn => ?_
  have h1 := hF jA pA wA
  have h2 := hF jV pV wV
  have h3 := hF jB pB wB
  have h4 := hF jU pU wU
  rw [FA] at h1
  rw [FV] at h2
  rw [FB] at h3
  rw [FU] at h4
  obtain ⟨_, q, eq, th, hq⟩ := h1
  obtain ⟨t, ev, V⟩ := h2
  obtain ⟨_, q', eq', th', hq'⟩ := h3
  obtain ⟨u, eu, U⟩ := h4
  rw [eq, eq'] at hn
  have hqq : q ≠ q' := fun e => hn (by rw [e])
  refine wp_store_mid 42 (.tmp pA) (.tmp pV) hop1 q 0 (cl5 t).toArray eq ev th i5 (cl5_one t) ?_
  rw [hd1]
  show o2.wp _ a _ _ _
  have b1 : ButQ q W (W.setCells q 0 (cl5 t)) := but_set (Below.refl _ _) _
  have n1 := below_setCells hq (cl5 t) 0 _ hw
  refine wp_store_mid 42 (.tmp pB) (.tmp pU) hop2 q' 0 (cl5 u).toArray eq' eu (there_but (n := 5) (by decide) th' b1 (Ne.symm hqq)) i5 (cl5_one u) ?_
  obtain ⟨vs, hvs⟩ : ∃ vs : Nat → Value, ∀ d, a.tmps.getD d undef = vs d := ⟨_, fun _ => rfl⟩
  rw [hd2]
  show Q .normal a _
  rw [puts_two hT rfl hb vs hvs]
  exact fin vs q q' _ ((hvs pA).symm.trans eq) ((hvs pB).symm.trans eq') hq hq' hqq (below_setCells hq' _ _ _ n1) ((set_em th V).but (but_set (q := q') (Below.refl _ _) _) hqq) (set_em (there_but (by decide) th' b1 (Ne.symm hqq)) U)
theorem region_putR (k jD jV pD pV : Nat) (o : Oper) (F : Nat → Fact) (A B : Int) (q : Nat) (hT : textOk .any ops a0.tmps.size k = true) (hk : ops[k]? = some o) (hd : o.dst = none) (hop : o.op = .store 72 (.tmp pD) (.tmp pV))
    (wD : writes ops jD pD = true) (FD : F jD = Fact.eq (.pointer (some ⟨q, 0, none⟩))) (ht : w.there q 0 10) (wV : writes ops jV pV = true) (FV : F jV = E2 A B) (steps : ∀ i, i < k → StepOk Tryz.prog .any ops Q F a0 w i)
    (fin : ∀ (vs : Nat → Value) (W W' : World), Below w.heap.size w W → ButQ q w W' → Rat W' q A B → (∀ (w1 : World) (B : Nat), Below B w1 W → B ≤ q → Below B w1 W') → ButQ q W W' → Q .normal (puts vs a0 ops.toList) W') :
    (Code.region id ops draw).wp Tryz.prog Q a0 w := by
  refine region_store k o F (by kernel_rfl) hT hk hd steps fun a W hb hw hF => ?_
  have h1 := hF jD pD wD
  have h2 := hF jV pV wV
  rw [FD] at h1
  rw [FV] at h2
  obtain ⟨x, y, ev, hx, hy⟩ := h2
  have th := there_up (by omega) ht hw
  refine wp_store_mid 72 (.tmp pD) (.tmp pV) hop q 0 (cl10 x y).toArray h1 ev th i10 (cl10_one x y) ?_
  obtain ⟨vs, hvs⟩ : ∃ vs : Nat → Value, ∀ d, a.tmps.getD d undef = vs d := ⟨_, fun _ => rfl⟩
  rw [hd]
  show Q .normal a _
  rw [puts_of hT rfl hb vs hvs]
  exact fin vs W _ hw (but_set hw _) (set_rat th hx hy) (fun w1 B n hB => below_setCells hB _ _ _ n) (but_set (Below.refl _ _) _)
theorem region_put5 (k jV pD pV : Nat) (o : Oper) (F : Nat → Fact) (A : Int) (q : Nat) (hT : textOk .any ops a0.tmps.size k = true) (hk : ops[k]? = some o) (hd : o.dst = none) (hop : o.op = .store 42 (.tmp pD) (.tmp pV))
    (hp : apart ops pD = true) (h0 : a0.tmps.getD pD undef = .pointer (some ⟨q, 0, none⟩)) (ht : w.there q 0 5) (wV : writes ops jV pV = true) (FV : F jV = EM A) (steps : ∀ i, i < k → StepOk Tryz.prog .any ops Q F a0 w i)
    (fin : ∀ (vs : Nat → Value) (W W' : World), Below w.heap.size w W → ButQ q w W' → Em5 W' q 0 A → (∀ (w1 : World) (B : Nat), Below B w1 W → B ≤ q → Below B w1 W') → Q .normal (puts vs a0 ops.toList) W') :
    (Code.region id ops draw).wp Tryz.prog Q a0 w := by
  refine region_store k o F (by kernel_rfl) hT hk hd steps fun a W hb hw hF => ?_
  have h2 := hF jV pV wV
  rw [FV] at h2
  obtain ⟨t, ev, V⟩ := h2
  have th := there_up (by omega) ht hw
  refine wp_store_mid 42 (.tmp pD) (.tmp pV) hop q 0 (cl5 t).toArray ((based_at hb pD hp).trans h0) ev th i5 (cl5_one t) ?_
  obtain ⟨vs, hvs⟩ : ∃ vs : Nat → Value, ∀ d, a.tmps.getD d undef = vs d := ⟨_, fun _ => rfl⟩
  rw [hd]
  show Q .normal a _
  rw [puts_of hT rfl hb vs hvs]
  exact fin vs W _ hw (but_set hw _) (set_em th V) (fun w1 B n hB => below_setCells hB _ _ _ n)
end
end Go.Proofs.YteedfhljbdnmnaaGreatDoor
namespace Go.Proofs.YteedfhljbdnmnaaGreatDoor
set_option maxRecDepth 100000
open Go.RowKit
def dW (u v : Int) : Int := (u + v) * (u + v) - (u - v) * (u - v)
def dU (u v : Int) : Int := (u + v) * (u + v) * ((u - v) * (u - v))
def dV (u v : Int) : Int := dW u v * ((u + v) * (u + v) + dW u v * 121665)
def sY (u v u' v' : Int) : Int := (u' - v') * (u + v)
def sZ (u v u' v' : Int) : Int := (u' + v') * (u - v)
def sU (u v u' v' : Int) : Int := (sY u v u' v' + sZ u v u' v') * (sY u v u' v' + sZ u v u' v')
def sV (x u v u' v' : Int) : Int := x * ((sY u v u' v' - sZ u v u' v') * (sY u v u' v' - sZ u v u' v'))
theorem sU_flip (u v u' v' : Int) : sU u' v' u v = sU u v u' v' := by
  unfold sU sY sZ
  grind
theorem sV_flip (x u v u' v' : Int) : sV x u' v' u v = sV x u v u' v' := by
  unfold sV sY sZ
  grind
end Go.Proofs.YteedfhljbdnmnaaGreatDoor
namespace Go.Proofs.YteedfhljbdnmnaaGreatDoor
set_option maxRecDepth 100000
open Go Go.RowKit
def But2 (q1 q2 : Nat) (W W' : World) : Prop := (∀ g, g ≠ q1 → g ≠ q2 → g < W.heap.size → W'.heap[g]? = W.heap[g]?) ∧ W.heap.size ≤ W'.heap.size ∧ ∀ (w1 : World) (B : Nat), Below B w1 W → B ≤ q1 → B ≤ q2 → B ≤ W.heap.size → Below B w1 W'
theorem em5_new (W : World) (t : TypeId) {a : Nat → Int} {A : Int} (ha : Is5 a A) : Em5 (W.alloc (.cells #[.int .u64 (a 0), .int .u64 (a 1), .int .u64 (a 2), .int .u64 (a 3), .int .u64 (a 4)] t)) W.heap.size 0 A := by
  have e : (W.alloc (.cells #[.int .u64 (a 0), .int .u64 (a 1), .int .u64 (a 2), .int .u64 (a 3), .int .u64 (a 4)] t)).heap[W.heap.size]? = some (.cells #[.int .u64 (a 0), .int .u64 (a 1), .int .u64 (a 2), .int .u64 (a 3), .int .u64 (a 4)] t) := heap_alloc_last _ _
  refine ⟨a, fun j v hv => ?_, by simp, ha⟩
  unfold World.cell?
  simp only
  rw [e]
  have hj : j < 5 := (List.getElem?_eq_some_iff.1 hv).1
  obtain rfl | rfl | rfl | rfl | rfl : j = 0 ∨ j = 1 ∨ j = 2 ∨ j = 3 ∨ j = 4 := by omega
  all_goals simpa [cl5] using hv
set_option maxHeartbeats 4000000 in
theorem climb_any (w : World) (q1 q2 : Nat) (A B C D X : Int) (x : Nat → Int) (hne : q1 ≠ q2) (hx : Is5 x X) (h1 : Rat w q1 A B) (h2 : Rat w q2 C D) (hT : HasTw w 3) :
    Calls Tryz.prog 53 #[.pointer (some ⟨q1, 0, none⟩), .pointer (some ⟨q2, 0, none⟩), ag5 x] w fun r w' => r = .returned (.tuple #[]) ∧ Rat w' q1 (dU A B) (dV A B) ∧ Rat w' q2 (sU A B C D) (sV X A B C D) ∧ But2 q1 q2 w w' := by
  have EX := em5_new w 42 hx
  have m1 : Below w.heap.size w (w.alloc (.cells #[.int .u64 (x 0), .int .u64 (x 1), .int .u64 (x 2), .int .u64 (x 3), .int .u64 (x 4)] 42)) := (Below.refl _ _).alloc (Nat.le_refl _) _
  have L1 := h1.lt
  have L2 := h2.lt
  have R1 := h1.up m1
  have R2 := h2.up m1
  have TT := hT.up m1
  have lx : w.heap.size < (w.alloc (.cells #[.int .u64 (x 0), .int .u64 (x 1), .int .u64 (x 2), .int .u64 (x 3), .int .u64 (x 4)] 42)).heap.size := by simp
  simp only [ag5]
  go_enter Tryz.func53, Tryz.ntmps53
  go_upto_region 1 with fail
  generalize w.alloc (.cells #[.int .u64 (x 0), .int .u64 (x 1), .int .u64 (x 2), .int .u64 (x 3), .int .u64 (x 4)] 42) = wa at *
  have N := m1
  clear m1 h1 h2 hT hx
  refine region_new55 20 18 8 6 21 19 17 7 30 _ _ (fun i => [Fact.eq (.pointer (some ⟨q1, 0, none⟩)), Fact.eq (.pointer (some ⟨q1, 0, none⟩)), Fact.eq (.pointer (some ⟨q1, 0, none⟩)), EM (A), Fact.eq (.pointer (some ⟨q1, 0, none⟩)), Fact.eq (.pointer (some ⟨q1, 0, none⟩)), Fact.eq (.pointer (some ⟨q1, 5, none⟩)), EM (B), EM ((A) + (B)), Fact.eq (.pointer (some ⟨q1, 0, none⟩)), Fact.eq (.pointer (some ⟨q1, 0, none⟩)), Fact.eq (.pointer (some ⟨q1, 0, none⟩)), EM (A), Fact.eq (.pointer (some ⟨q1, 0, none⟩)), Fact.eq (.pointer (some ⟨q1, 0, none⟩)), Fact.eq (.pointer (some ⟨q1, 5, none⟩)), EM (B), EM ((A) - (B)), NB wa 5, NB wa 5].getD i Fact.no) ((A) + (B)) ((A) - (B)) (by kernel_rfl) rfl rfl rfl rfl rfl rfl (by kernel_rfl) (by kernel_rfl) (by kernel_rfl) (by kernel_rfl) rfl rfl rfl rfl (by omega) (by omega) (by omega) (fresh_new5 rfl rfl rfl) (fresh_new5 rfl rfl rfl) ?_ ?_
  · intro i hi
    obtain rfl | rfl | rfl | rfl | rfl | rfl | rfl | rfl | rfl | rfl | rfl | rfl | rfl | rfl | rfl | rfl | rfl | rfl | rfl | rfl : i = 0 ∨ i = 1 ∨ i = 2 ∨ i = 3 ∨ i = 4 ∨ i = 5 ∨ i = 6 ∨ i = 7 ∨ i = 8 ∨ i = 9 ∨ i = 10 ∨ i = 11 ∨ i = 12 ∨ i = 13 ∨ i = 14 ∨ i = 15 ∨ i = 16 ∨ i = 17 ∨ i = 18 ∨ i = 19 := by omega
    · exact step_mv rfl 0 rfl (by kernel_rfl) rfl rfl
    · exact step_nil rfl 13 0 rfl (by kernel_rfl) rfl rfl
    · exact step_fldf rfl 72 14 0 1 rfl (by kernel_rfl) _ _ rfl (fx10 _) rfl
    · exact step_e5f rfl 15 2 rfl (by kernel_rfl) _ _ rfl _ R1.x rfl
    · exact step_mv rfl 0 rfl (by kernel_rfl) rfl rfl
    · exact step_nil rfl 17 4 rfl (by kernel_rfl) rfl rfl
    · exact step_fldf rfl 72 18 1 5 rfl (by kernel_rfl) _ _ rfl (fy10 _) rfl
    · exact step_e5f rfl 19 6 rfl (by kernel_rfl) _ _ rfl _ R1.y rfl
    · exact step_add5 rfl 16 20 3 7 _ _ rfl (by kernel_rfl) (by kernel_rfl) rfl rfl rfl
    · exact step_mv rfl 0 rfl (by kernel_rfl) rfl rfl
    · exact step_nil rfl 22 9 rfl (by kernel_rfl) rfl rfl
    · exact step_fldf rfl 72 23 0 10 rfl (by kernel_rfl) _ _ rfl (fx10 _) rfl
    · exact step_e5f rfl 24 11 rfl (by kernel_rfl) _ _ rfl _ R1.x rfl
    · exact step_mv rfl 0 rfl (by kernel_rfl) rfl rfl
    · exact step_nil rfl 26 13 rfl (by kernel_rfl) rfl rfl
    · exact step_fldf rfl 72 27 1 14 rfl (by kernel_rfl) _ _ rfl (fy10 _) rfl
    · exact step_e5f rfl 28 15 rfl (by kernel_rfl) _ _ rfl _ R1.y rfl
    · exact step_sub5 TT rfl 25 29 12 16 _ _ rfl (by kernel_rfl) (by kernel_rfl) rfl rfl rfl
    · exact step_new5 rfl rfl rfl
    · exact step_new5 rfl rfl rfl
  intro vs1 q6 q7 W1 v6 v7 l6 l7 n67 n E6 E7
  replace EX := EX.up n
  replace R1 := R1.up n
  replace R2 := R2.up n
  replace TT := TT.up n
  replace N := nxt N n
  have z6 := E6.lt
  have z7 := E7.lt
  clear n n67
  simp only [puts, v6, v7, Act.put, List.setIfInBounds_toArray, List.set_cons_succ, List.set_cons_zero]
  clear v6 v7
  go_upto_region 2 with fail
  refine region_new55 6 4 1 8 32 5 3 9 34 _ _ (fun i => [EM ((A) + (B)), EM (((A) + (B)) * ((A) + (B))), EM ((A) - (B)), EM (((A) - (B)) * ((A) - (B))), NB W1 5, NB W1 5].getD i Fact.no) (((A) + (B)) * ((A) + (B))) (((A) - (B)) * ((A) - (B))) (by kernel_rfl) rfl rfl rfl rfl rfl rfl (by kernel_rfl) (by kernel_rfl) (by kernel_rfl) (by kernel_rfl) rfl rfl rfl rfl (by omega) (by omega) (by omega) (fresh_new5 rfl rfl rfl) (fresh_new5 rfl rfl rfl) ?_ ?_
  · intro i hi
    obtain rfl | rfl | rfl | rfl | rfl | rfl : i = 0 ∨ i = 1 ∨ i = 2 ∨ i = 3 ∨ i = 4 ∨ i = 5 := by omega
    · exact step_e5 rfl 6 rfl (by kernel_rfl) _ _ rfl _ E6 rfl
    · exact step_sq5 rfl 31 0 _ rfl (by kernel_rfl) rfl rfl
    · exact step_e5 rfl 7 rfl (by kernel_rfl) _ _ rfl _ E7 rfl
    · exact step_sq5 rfl 33 2 _ rfl (by kernel_rfl) rfl rfl
    · exact step_new5 rfl rfl rfl
    · exact step_new5 rfl rfl rfl
  intro vs2 q8 q9 W2 v8 v9 l8 l9 n89 n E8 E9
  replace EX := EX.up n
  replace R1 := R1.up n
  replace R2 := R2.up n
  replace TT := TT.up n
  replace E6 := E6.up n
  replace E7 := E7.up n
  replace N := nxt N n
  have z8 := E8.lt
  have z9 := E9.lt
  clear n n89
  simp only [puts, v8, v9, Act.put, List.setIfInBounds_toArray, List.set_cons_succ, List.set_cons_zero]
  clear v8 v9
  go_upto_region 3 with fail
  refine region_new5 4 3 2 10 37 _ (fun i => [EM (((A) + (B)) * ((A) + (B))), EM (((A) - (B)) * ((A) - (B))), EM ((((A) + (B)) * ((A) + (B))) - (((A) - (B)) * ((A) - (B)))), NB W2 5].getD i Fact.no) ((((A) + (B)) * ((A) + (B))) - (((A) - (B)) * ((A) - (B)))) (by kernel_rfl) rfl rfl rfl (by kernel_rfl) (by kernel_rfl) rfl rfl ?_ ?_
  · intro i hi
    obtain rfl | rfl | rfl | rfl : i = 0 ∨ i = 1 ∨ i = 2 ∨ i = 3 := by omega
    · exact step_e5 rfl 8 rfl (by kernel_rfl) _ _ rfl _ E8 rfl
    · exact step_e5 rfl 9 rfl (by kernel_rfl) _ _ rfl _ E9 rfl
    · exact step_sub5 TT rfl 35 36 0 1 _ _ rfl (by kernel_rfl) (by kernel_rfl) rfl rfl rfl
    · exact step_new5 rfl rfl rfl
  intro vs3 q10 W3' v10 l10 n E10
  replace EX := EX.up n
  replace R1 := R1.up n
  replace R2 := R2.up n
  replace TT := TT.up n
  replace E6 := E6.up n
  replace E7 := E7.up n
  replace E8 := E8.up n
  replace E9 := E9.up n
  replace N := nxt N n
  have z10 := E10.lt
  clear n
  simp only [puts, v10, Act.put, List.setIfInBounds_toArray, List.set_cons_succ, List.set_cons_zero]
  clear v10
  go_upto_region 4 with fail
  refine region_new5 12 11 10 11 48 _ (fun i => [Fact.eq (.pointer (some ⟨q2, 0, none⟩)), Fact.eq (.pointer (some ⟨q2, 0, none⟩)), Fact.eq (.pointer (some ⟨q2, 0, none⟩)), EM (C), Fact.eq (.pointer (some ⟨q2, 0, none⟩)), Fact.eq (.pointer (some ⟨q2, 0, none⟩)), Fact.eq (.pointer (some ⟨q2, 5, none⟩)), EM (D), EM ((C) - (D)), EM ((A) + (B)), EM (((C) - (D)) * ((A) + (B))), NB W3' 5].getD i Fact.no) (((C) - (D)) * ((A) + (B))) (by kernel_rfl) rfl rfl rfl (by kernel_rfl) (by kernel_rfl) rfl rfl ?_ ?_
  · intro i hi
    obtain rfl | rfl | rfl | rfl | rfl | rfl | rfl | rfl | rfl | rfl | rfl | rfl : i = 0 ∨ i = 1 ∨ i = 2 ∨ i = 3 ∨ i = 4 ∨ i = 5 ∨ i = 6 ∨ i = 7 ∨ i = 8 ∨ i = 9 ∨ i = 10 ∨ i = 11 := by omega
    · exact step_mv rfl 1 rfl (by kernel_rfl) rfl rfl
    · exact step_nil rfl 38 0 rfl (by kernel_rfl) rfl rfl
    · exact step_fldf rfl 72 39 0 1 rfl (by kernel_rfl) _ _ rfl (fx10 _) rfl
    · exact step_e5f rfl 40 2 rfl (by kernel_rfl) _ _ rfl _ R2.x rfl
    · exact step_mv rfl 1 rfl (by kernel_rfl) rfl rfl
    · exact step_nil rfl 42 4 rfl (by kernel_rfl) rfl rfl
    · exact step_fldf rfl 72 43 1 5 rfl (by kernel_rfl) _ _ rfl (fy10 _) rfl
    · exact step_e5f rfl 44 6 rfl (by kernel_rfl) _ _ rfl _ R2.y rfl
    · exact step_sub5 TT rfl 41 45 3 7 _ _ rfl (by kernel_rfl) (by kernel_rfl) rfl rfl rfl
    · exact step_e5 rfl 6 rfl (by kernel_rfl) _ _ rfl _ E6 rfl
    · exact step_mul5 rfl 46 47 8 9 _ _ rfl (by kernel_rfl) (by kernel_rfl) rfl rfl rfl
    · exact step_new5 rfl rfl rfl
  intro vs4 q11 W4' v11 l11 n E11
  replace EX := EX.up n
  replace R1 := R1.up n
  replace R2 := R2.up n
  replace TT := TT.up n
  replace E6 := E6.up n
  replace E7 := E7.up n
  replace E8 := E8.up n
  replace E9 := E9.up n
  replace E10 := E10.up n
  replace N := nxt N n
  have z11 := E11.lt
  clear n
  simp only [puts, v11, Act.put, List.setIfInBounds_toArray, List.set_cons_succ, List.set_cons_zero]
  clear v11
  go_upto_region 5 with fail
  refine region_new5 12 11 10 12 59 _ (fun i => [Fact.eq (.pointer (some ⟨q2, 0, none⟩)), Fact.eq (.pointer (some ⟨q2, 0, none⟩)), Fact.eq (.pointer (some ⟨q2, 0, none⟩)), EM (C), Fact.eq (.pointer (some ⟨q2, 0, none⟩)), Fact.eq (.pointer (some ⟨q2, 0, none⟩)), Fact.eq (.pointer (some ⟨q2, 5, none⟩)), EM (D), EM ((C) + (D)), EM ((A) - (B)), EM (((C) + (D)) * ((A) - (B))), NB W4' 5].getD i Fact.no) (((C) + (D)) * ((A) - (B))) (by kernel_rfl) rfl rfl rfl (by kernel_rfl) (by kernel_rfl) rfl rfl ?_ ?_
  · intro i hi
    obtain rfl | rfl | rfl | rfl | rfl | rfl | rfl | rfl | rfl | rfl | rfl | rfl : i = 0 ∨ i = 1 ∨ i = 2 ∨ i = 3 ∨ i = 4 ∨ i = 5 ∨ i = 6 ∨ i = 7 ∨ i = 8 ∨ i = 9 ∨ i = 10 ∨ i = 11 := by omega
    · exact step_mv rfl 1 rfl (by kernel_rfl) rfl rfl
    · exact step_nil rfl 49 0 rfl (by kernel_rfl) rfl rfl
    · exact step_fldf rfl 72 50 0 1 rfl (by kernel_rfl) _ _ rfl (fx10 _) rfl
    · exact step_e5f rfl 51 2 rfl (by kernel_rfl) _ _ rfl _ R2.x rfl
    · exact step_mv rfl 1 rfl (by kernel_rfl) rfl rfl
    · exact step_nil rfl 53 4 rfl (by kernel_rfl) rfl rfl
    · exact step_fldf rfl 72 54 1 5 rfl (by kernel_rfl) _ _ rfl (fy10 _) rfl
    · exact step_e5f rfl 55 6 rfl (by kernel_rfl) _ _ rfl _ R2.y rfl
    · exact step_add5 rfl 52 56 3 7 _ _ rfl (by kernel_rfl) (by kernel_rfl) rfl rfl rfl
    · exact step_e5 rfl 7 rfl (by kernel_rfl) _ _ rfl _ E7 rfl
    · exact step_mul5 rfl 57 58 8 9 _ _ rfl (by kernel_rfl) (by kernel_rfl) rfl rfl rfl
    · exact step_new5 rfl rfl rfl
  intro vs5 q12 W5 v12 l12 n E12
  replace EX := EX.up n
  replace R1 := R1.up n
  replace R2 := R2.up n
  replace TT := TT.up n
  replace E8 := E8.up n
  replace E9 := E9.up n
  replace E10 := E10.up n
  replace E11 := E11.up n
  replace N := nxt N n
  clear n E6 E7
  simp only [puts, v12, Act.put, List.setIfInBounds_toArray, List.set_cons_succ, List.set_cons_zero]
  clear v12
  go_upto_region 6 with fail
  obtain ⟨_, _, _, th2, _⟩ := id R2
  refine region_putR 13 12 11 72 71 _ (fun i => [Fact.eq (.pointer (some ⟨q2, 0, none⟩)), EM (((C) - (D)) * ((A) + (B))), EM (((C) + (D)) * ((A) - (B))), EM ((((C) - (D)) * ((A) + (B))) + (((C) + (D)) * ((A) - (B)))), EM (((((C) - (D)) * ((A) + (B))) + (((C) + (D)) * ((A) - (B)))) * ((((C) - (D)) * ((A) + (B))) + (((C) + (D)) * ((A) - (B))))), EM (X), EM (((C) - (D)) * ((A) + (B))), EM (((C) + (D)) * ((A) - (B))), EM ((((C) - (D)) * ((A) + (B))) - (((C) + (D)) * ((A) - (B)))), EM (((((C) - (D)) * ((A) + (B))) - (((C) + (D)) * ((A) - (B)))) * ((((C) - (D)) * ((A) + (B))) - (((C) + (D)) * ((A) - (B))))), EM ((X) * (((((C) - (D)) * ((A) + (B))) - (((C) + (D)) * ((A) - (B)))) * ((((C) - (D)) * ((A) + (B))) - (((C) + (D)) * ((A) - (B)))))), E2 (((((C) - (D)) * ((A) + (B))) + (((C) + (D)) * ((A) - (B)))) * ((((C) - (D)) * ((A) + (B))) + (((C) + (D)) * ((A) - (B))))) ((X) * (((((C) - (D)) * ((A) + (B))) - (((C) + (D)) * ((A) - (B)))) * ((((C) - (D)) * ((A) + (B))) - (((C) + (D)) * ((A) - (B)))))), Fact.eq (.pointer (some ⟨q2, 0, none⟩))].getD i Fact.no) (((((C) - (D)) * ((A) + (B))) + (((C) + (D)) * ((A) - (B)))) * ((((C) - (D)) * ((A) + (B))) + (((C) + (D)) * ((A) - (B))))) ((X) * (((((C) - (D)) * ((A) + (B))) - (((C) + (D)) * ((A) - (B)))) * ((((C) - (D)) * ((A) + (B))) - (((C) + (D)) * ((A) - (B)))))) _ (by kernel_rfl) rfl rfl rfl (by kernel_rfl) rfl th2 (by kernel_rfl) rfl ?_ ?_
  · intro i hi
    obtain rfl | rfl | rfl | rfl | rfl | rfl | rfl | rfl | rfl | rfl | rfl | rfl | rfl : i = 0 ∨ i = 1 ∨ i = 2 ∨ i = 3 ∨ i = 4 ∨ i = 5 ∨ i = 6 ∨ i = 7 ∨ i = 8 ∨ i = 9 ∨ i = 10 ∨ i = 11 ∨ i = 12 := by omega
    · exact step_mv rfl 1 rfl (by kernel_rfl) rfl rfl
    · exact step_e5 rfl 11 rfl (by kernel_rfl) _ _ rfl _ E11 rfl
    · exact step_e5 rfl 12 rfl (by kernel_rfl) _ _ rfl _ E12 rfl
    · exact step_add5 rfl 61 62 1 2 _ _ rfl (by kernel_rfl) (by kernel_rfl) rfl rfl rfl
    · exact step_sq5 rfl 63 3 _ rfl (by kernel_rfl) rfl rfl
    · exact step_e5 rfl 5 rfl (by kernel_rfl) _ _ rfl _ EX rfl
    · exact step_e5 rfl 11 rfl (by kernel_rfl) _ _ rfl _ E11 rfl
    · exact step_e5 rfl 12 rfl (by kernel_rfl) _ _ rfl _ E12 rfl
    · exact step_sub5 TT rfl 66 67 6 7 _ _ rfl (by kernel_rfl) (by kernel_rfl) rfl rfl rfl
    · exact step_sq5 rfl 68 8 _ rfl (by kernel_rfl) rfl rfl
    · exact step_mul5 rfl 65 69 5 9 _ _ rfl (by kernel_rfl) (by kernel_rfl) rfl rfl rfl
    · exact step_b10 rfl 64 70 4 10 _ _ rfl (by kernel_rfl) (by kernel_rfl) rfl rfl rfl
    · exact step_nil rfl 60 0 rfl (by kernel_rfl) rfl rfl
  intro vs6 Wa W6 n b P2 nb b'
  have N1 := nxt N n
  replace R1 := R1.but b hne
  replace E8 := E8.but b (by omega)
  replace E9 := E9.but b (by omega)
  replace E10 := E10.but b (by omega)
  clear R2 E11 E12 EX TT th2 b
  simp only [puts, Act.put, List.setIfInBounds_toArray, List.set_cons_succ, List.set_cons_zero]
  go_upto_region 7 with fail
  obtain ⟨_, _, _, th1, _⟩ := id R1
  refine region_putR 13 12 11 85 84 _ (fun i => [Fact.eq (.pointer (some ⟨q1, 0, none⟩)), EM (((A) + (B)) * ((A) + (B))), EM (((A) - (B)) * ((A) - (B))), EM ((((A) + (B)) * ((A) + (B))) * (((A) - (B)) * ((A) - (B)))), EM ((((A) + (B)) * ((A) + (B))) - (((A) - (B)) * ((A) - (B)))), EM (((A) + (B)) * ((A) + (B))), EM ((((A) + (B)) * ((A) + (B))) - (((A) - (B)) * ((A) - (B)))), EM (121665), EM (((((A) + (B)) * ((A) + (B))) - (((A) - (B)) * ((A) - (B)))) * (121665)), EM ((((A) + (B)) * ((A) + (B))) + (((((A) + (B)) * ((A) + (B))) - (((A) - (B)) * ((A) - (B)))) * (121665))), EM (((((A) + (B)) * ((A) + (B))) - (((A) - (B)) * ((A) - (B)))) * ((((A) + (B)) * ((A) + (B))) + (((((A) + (B)) * ((A) + (B))) - (((A) - (B)) * ((A) - (B)))) * (121665)))), E2 ((((A) + (B)) * ((A) + (B))) * (((A) - (B)) * ((A) - (B)))) (((((A) + (B)) * ((A) + (B))) - (((A) - (B)) * ((A) - (B)))) * ((((A) + (B)) * ((A) + (B))) + (((((A) + (B)) * ((A) + (B))) - (((A) - (B)) * ((A) - (B)))) * (121665)))), Fact.eq (.pointer (some ⟨q1, 0, none⟩))].getD i Fact.no) ((((A) + (B)) * ((A) + (B))) * (((A) - (B)) * ((A) - (B)))) (((((A) + (B)) * ((A) + (B))) - (((A) - (B)) * ((A) - (B)))) * ((((A) + (B)) * ((A) + (B))) + (((((A) + (B)) * ((A) + (B))) - (((A) - (B)) * ((A) - (B)))) * (121665)))) _ (by kernel_rfl) rfl rfl rfl (by kernel_rfl) rfl th1 (by kernel_rfl) rfl ?_ ?_
  · intro i hi
    obtain rfl | rfl | rfl | rfl | rfl | rfl | rfl | rfl | rfl | rfl | rfl | rfl | rfl : i = 0 ∨ i = 1 ∨ i = 2 ∨ i = 3 ∨ i = 4 ∨ i = 5 ∨ i = 6 ∨ i = 7 ∨ i = 8 ∨ i = 9 ∨ i = 10 ∨ i = 11 ∨ i = 12 := by omega
    · exact step_mv rfl 0 rfl (by kernel_rfl) rfl rfl
    · exact step_e5 rfl 8 rfl (by kernel_rfl) _ _ rfl _ E8 rfl
    · exact step_e5 rfl 9 rfl (by kernel_rfl) _ _ rfl _ E9 rfl
    · exact step_mul5 rfl 74 75 1 2 _ _ rfl (by kernel_rfl) (by kernel_rfl) rfl rfl rfl
    · exact step_e5 rfl 10 rfl (by kernel_rfl) _ _ rfl _ E10 rfl
    · exact step_e5 rfl 8 rfl (by kernel_rfl) _ _ rfl _ E8 rfl
    · exact step_e5 rfl 10 rfl (by kernel_rfl) _ _ rfl _ E10 rfl
    · exact step_b5 rfl 121665 (by omega) rfl rfl
    · exact step_mul5 rfl 79 80 6 7 _ _ rfl (by kernel_rfl) (by kernel_rfl) rfl rfl rfl
    · exact step_add5 rfl 78 81 5 8 _ _ rfl (by kernel_rfl) (by kernel_rfl) rfl rfl rfl
    · exact step_mul5 rfl 77 82 4 9 _ _ rfl (by kernel_rfl) (by kernel_rfl) rfl rfl rfl
    · exact step_b10 rfl 76 83 3 10 _ _ rfl (by kernel_rfl) (by kernel_rfl) rfl rfl rfl
    · exact step_nil rfl 73 0 rfl (by kernel_rfl) rfl rfl
  intro vs7 Wb W7 n' c P1 nc c'
  replace P2 := P2.but c (Ne.symm hne)
  clear R1 E8 E9 E10 th1
  simp only [puts, Act.put, List.setIfInBounds_toArray, List.set_cons_succ, List.set_cons_zero]
  have BT : But2 q1 q2 w W7 := by
    refine ⟨fun g g1 g2 hg => ?_, ?_, fun w1 B' hb k1 k2 k3 => ?_⟩
    · have e1 := c.1 g g1 (by have := b'.2; have := N1.size; omega)
      have e2 := b'.1 g g2 (by have := N1.size; omega)
      exact e1.trans (e2.trans (N1.block g hg))
    · have := c.2
      have := b'.2
      have := N1.size
      omega
    · have f1 : Below B' w1 Wa := hb.trans (N1.mono k3)
      have f2 := nb w1 B' f1 k2
      have f3 : Below B' w1 Wb := f2.trans (n'.mono (by have := b'.2; have := N1.size; omega))
      exact nc w1 B' f3 k1
  clear N N1 n n' b' c c' nb nc
  go_wp2
  go_end0
  exact ⟨rfl, P1, P2, BT⟩
end Go.Proofs.YteedfhljbdnmnaaGreatDoor
namespace Go.Proofs.YteedfhljbdnmnaaGreatDoor
set_option maxRecDepth 100000
open Go Go.RowKit
def Tens (W : World) (q : Nat) (f : Nat → Int) : Prop := ∀ j, j < 10 → W.cell? ⟨q, j, none⟩ = some (.int .u64 (f j)) ∧ W.frozen? ⟨q, j, none⟩ = false
def mixT (b : Bool) (o k : Nat) (f g : Nat → Int) (j : Nat) : Int := if b = true ∧ o ≤ j ∧ j < o + k then g j else f j
theorem mixT_zero (b : Bool) (o : Nat) (f g : Nat → Int) : mixT b o 0 f g = f := by
  funext j
  unfold mixT
  rw [if_neg (by omega)]
theorem mixT_at (b : Bool) (o k : Nat) (f g : Nat → Int) : mixT b o k f g (o + k) = f (o + k) := by
  unfold mixT
  rw [if_neg (by omega)]
theorem Tens.lt {W : World} {q : Nat} {f : Nat → Int} (h : Tens W q f) : q < W.heap.size := block_lt_of_cell (h 0 (by omega)).1
theorem Tens.of_block {W W' : World} {q : Nat} {f : Nat → Int} (h : Tens W q f) (hb : W'.heap[q]? = W.heap[q]?) : Tens W' q f := fun j hj => ⟨(World.cell?_of_block (a := ⟨q, j, none⟩) hb).trans (h j hj).1, (World.frozen?_of_block (a := ⟨q, j, none⟩) hb).trans (h j hj).2⟩
theorem Tens.store {W : World} {q : Nat} {b : Bool} {o k : Nat} {f g : Nat → Int} (h : Tens W q (mixT b o k f g)) (z : Int) (hz : z = if b = true then g (o + k) else f (o + k)) : Tens (W.setCell ⟨q, o + k, none⟩ (.int .u64 z)) q (mixT b o (k + 1) f g) := by
  intro j hj
  refine ⟨?_, by rw [World.frozen?_setCell]; exact (h j hj).2⟩
  by_cases e : j = o + k
  · subst e
    rw [World.cell?_setCell_same _ _ _ (h (o + k) hj).1, hz]
    unfold mixT
    by_cases hb : b = true
    · rw [if_pos hb, if_pos ⟨hb, by omega, by omega⟩]
    · rw [if_neg hb, if_neg (fun h => hb h.1)]
  · have hne : (⟨q, o + k, none⟩ : Addr) ≠ ⟨q, j, none⟩ := fun h => e (by simp only [Addr.mk.injEq, true_and, and_true] at h; omega)
    rw [World.cell?_setCell_other (h := hne), (h j hj).1]
    unfold mixT
    congr 2
    by_cases c : b = true ∧ o ≤ j ∧ j < o + k
    · rw [if_pos c, if_pos ⟨c.1, c.2.1, by omega⟩]
    · rw [if_neg c, if_neg (fun h => c ⟨h.1, h.2.1, by omega⟩)]
def mask (b : Bool) : Int := if b = true then 18446744073709551615 else 0
def chg (b : Bool) (x y : Int) : Int := bits BinOp.and IntKind.u64 (bits BinOp.xor IntKind.u64 x y) (mask b)
theorem chg_ok (b : Bool) (x y : Int) (hx : 0 ≤ x ∧ x < 18446744073709551616) (hy : 0 ≤ y ∧ y < 18446744073709551616) :
    bits BinOp.xor IntKind.u64 x (chg b x y) = (if b = true then y else x) ∧ bits BinOp.xor IntKind.u64 y (chg b x y) = (if b = true then x else y) := by
  obtain ⟨m, rfl⟩ := Int.eq_ofNat_of_zero_le hx.1
  obtain ⟨n, rfl⟩ := Int.eq_ofNat_of_zero_le hy.1
  have hm : m < 18446744073709551616 := by omega
  have hn : n < 18446744073709551616 := by omega
  have hX : m ^^^ n < 18446744073709551616 := Nat.xor_lt_two_pow (n := 64) hm hn
  cases b
  · have e : chg false (m : Int) (n : Int) = ((0 : Nat) : Int) := by
      unfold chg mask
      rw [bits_xor_u64_nat m n hm hn, if_neg (by simp), show (0 : Int) = ((0 : Nat) : Int) from rfl, bits_and_u64_nat _ 0 hX (by omega), Nat.and_zero]
    rw [e, bits_xor_u64_nat m 0 hm (by omega), bits_xor_u64_nat n 0 hn (by omega), Nat.xor_zero, Nat.xor_zero]
    simp
  · have e : chg true (m : Int) (n : Int) = ((m ^^^ n : Nat) : Int) := by
      unfold chg mask
      rw [bits_xor_u64_nat m n hm hn, if_pos rfl, show (18446744073709551615 : Int) = ((18446744073709551615 : Nat) : Int) from rfl, bits_and_u64_nat _ _ hX (by omega)]
      congr 1
      rw [show (18446744073709551615 : Nat) = 2 ^ 64 - 1 from rfl, Nat.and_two_pow_sub_one_eq_mod, Nat.mod_eq_of_lt hX]
    rw [e, bits_xor_u64_nat m _ hm hX, bits_xor_u64_nat n _ hn hX]
    have e1 : m ^^^ (m ^^^ n) = n := by rw [← Nat.xor_assoc, Nat.xor_self, Nat.zero_xor]
    have e2 : n ^^^ (m ^^^ n) = m := by rw [Nat.xor_comm m n, ← Nat.xor_assoc, Nat.xor_self, Nat.zero_xor]
    rw [e1, e2]
    simp
set_option maxHeartbeats 4000000 in
theorem exchange5_any (w : World) (q1 q2 o : Nat) (b : Bool) (f g : Nat → Int) (ho : o = 0 ∨ o = 5) (hne : q1 ≠ q2) (h1 : Tens w q1 f) (h2 : Tens w q2 g) (hf : ∀ j, j < 10 → 0 ≤ f j ∧ f j < 18446744073709551616) (hg : ∀ j, j < 10 → 0 ≤ g j ∧ g j < 18446744073709551616) :
    Calls Tryz.prog 89 #[.pointer (some ⟨q1, o, none⟩), .pointer (some ⟨q2, o, none⟩), .int .u64 (mask b)] w fun r w' => r = .returned (.tuple #[]) ∧ Tens w' q1 (mixT b o 5 f g) ∧ Tens w' q2 (mixT b o 5 g f) ∧ But2 q1 q2 w w' ∧ w'.heap.size = w.heap.size := by
  go_enter Tryz.func89, Tryz.ntmps89
  go_wp2
  go_loopw [8] (fun i wr => ∃ k : Nat, k ≤ 5 ∧ i = .int .i64 k ∧ Tens wr q1 (mixT b o k f g) ∧ Tens wr q2 (mixT b o k g f) ∧ But2 q1 q2 w wr ∧ wr.heap.size = w.heap.size) (fun i _ => 5 - (intOf i).toNat)
  case atStart => exact ⟨0, by omega, rfl, by rw [mixT_zero]; exact h1, by rw [mixT_zero]; exact h2, ⟨fun _ _ _ _ => rfl, Nat.le_refl _, fun _ _ h _ _ _ => h⟩, rfl⟩
  case round =>
    clear h1 h2
    obtain ⟨k, hk, rfl, H1, H2, HB, HS⟩ := hrel
    by_cases hlt : k < 5
    · have k5 : (k : Int) < 5 := by omega
      have c1 := (H1 (o + k) (by omega)).1
      have c2 := (H2 (o + k) (by omega)).1
      have f1 := (H1 (o + k) (by omega)).2
      have f2 := (H2 (o + k) (by omega)).2
      rw [mixT_at] at c1 c2
      have X := chg_ok b (f (o + k)) (g (o + k)) (hf _ (by omega)) (hg _ (by omega))
      obtain ⟨z1, hz1⟩ : ∃ z, z = if b = true then g (o + k) else f (o + k) := ⟨_, rfl⟩
      obtain ⟨z2, hz2⟩ : ∃ z, z = if b = true then f (o + k) else g (o + k) := ⟨_, rfl⟩
      rw [← hz1, ← hz2] at X
      unfold chg at X
      obtain ⟨X1, X2⟩ := X
      have c2' : (wr.setCell ⟨q1, o + k, none⟩ (.int .u64 z1)).cell? ⟨q2, o + k, none⟩ = some (.int .u64 (g (o + k))) := (World.cell?_setCell_far wr ⟨q1, o + k, none⟩ ⟨q2, o + k, none⟩ _ hne).trans c2
      have PK : Hid (∀ n, Tens (((wr.drewN n).setCell ⟨q1, o + k, none⟩ (.int .u64 z1)).setCell ⟨q2, o + k, none⟩ (.int .u64 z2)).drew q1 (mixT b o (k + 1) f g) ∧ Tens (((wr.drewN n).setCell ⟨q1, o + k, none⟩ (.int .u64 z1)).setCell ⟨q2, o + k, none⟩ (.int .u64 z2)).drew q2 (mixT b o (k + 1) g f)
          ∧ But2 q1 q2 w (((wr.drewN n).setCell ⟨q1, o + k, none⟩ (.int .u64 z1)).setCell ⟨q2, o + k, none⟩ (.int .u64 z2)).drew ∧ (((wr.drewN n).setCell ⟨q1, o + k, none⟩ (.int .u64 z1)).setCell ⟨q2, o + k, none⟩ (.int .u64 z2)).drew.heap.size = w.heap.size) := by
        intro n
        have G1 : Tens (wr.drewN n) q1 (mixT b o k f g) := H1
        have G2 : Tens (wr.drewN n) q2 (mixT b o k g f) := H2
        have S1 := G1.store z1 hz1
        have S2 := (G2.of_block (W' := (wr.drewN n).setCell ⟨q1, o + k, none⟩ (.int .u64 z1)) (heap_setCell_other _ ⟨q1, o + k, none⟩ q2 _ (Ne.symm hne))).store z2 hz2
        replace S1 := S1.of_block (W' := ((wr.drewN n).setCell ⟨q1, o + k, none⟩ (.int .u64 z1)).setCell ⟨q2, o + k, none⟩ (.int .u64 z2)) (heap_setCell_other _ ⟨q2, o + k, none⟩ q1 _ hne)
        refine ⟨S1, S2, ⟨fun t t1 t2 ht => ?_, ?_, fun w1 B hb k1 k2 k3 => ?_⟩, ?_⟩
        · have e1 := heap_setCell_other ((wr.drewN n).setCell ⟨q1, o + k, none⟩ (.int .u64 z1)) ⟨q2, o + k, none⟩ t (.int .u64 z2) t2
          have e2 := heap_setCell_other (wr.drewN n) ⟨q1, o + k, none⟩ t (.int .u64 z1) t1
          exact e1.trans (e2.trans (HB.1 t t1 t2 ht))
        · have e1 : (((wr.drewN n).setCell ⟨q1, o + k, none⟩ (.int .u64 z1)).setCell ⟨q2, o + k, none⟩ (.int .u64 z2)).drew.heap.size = wr.heap.size := by
            show (((wr.drewN n).setCell ⟨q1, o + k, none⟩ (.int .u64 z1)).setCell ⟨q2, o + k, none⟩ (.int .u64 z2)).heap.size = wr.heap.size
            simp [World.setCell, World.drewN]
          rw [e1]
          exact HB.2.1
        · exact (((below_drewN (HB.2.2 w1 B hb k1 k2 k3) n).setCell k1 _).setCell k2 _).drew
        · show (((wr.drewN n).setCell ⟨q1, o + k, none⟩ (.int .u64 z1)).setCell ⟨q2, o + k, none⟩ (.int .u64 z2)).heap.size = w.heap.size
          rw [← HS]
          simp [World.setCell, World.drewN]
      clear H1 H2 HB HS hf hg hz1 hz2
      generalize f (o + k) = x at *
      generalize g (o + k) = y at *
      generalize mask b = m at *
      go_wp2
      go_quiet (fail)
      go_wp2
      go_region
      go_wp2
      go_region
      go_wp2
      obtain ⟨p1, p2, p3, p4⟩ := PK.out (nq + 1)
      exact ⟨⟨k + 1, by omega, by go_num, p1, p2, p3, p4⟩, by simp [intOf]; omega⟩
    · obtain rfl : k = 5 := by omega
      go_wp2
      go_end0
      exact ⟨rfl, H1, H2, HB, HS⟩
theorem Rat.tens {W : World} {q : Nat} {A B : Int} (h : Rat W q A B) : ∃ f : Nat → Int, Tens W q f ∧ (∀ j, j < 10 → 0 ≤ f j ∧ f j < 18446744073709551616) ∧ Is5 f A ∧ Is5 (fun j => f (5 + j)) B := by
  obtain ⟨e, f, r, t, ⟨he, hA⟩, hf, hB⟩ := h
  refine ⟨fun j => if j < 5 then e j else f (j - 5), fun j hj => ⟨?_, ?_⟩, fun j hj => ?_, ⟨fun j hj => ?_, ?_⟩, ⟨fun j hj => ?_, ?_⟩⟩
  · have q := r j (.int .u64 (if j < 5 then e j else f (j - 5))) (by
      obtain rfl | rfl | rfl | rfl | rfl | rfl | rfl | rfl | rfl | rfl : j = 0 ∨ j = 1 ∨ j = 2 ∨ j = 3 ∨ j = 4 ∨ j = 5 ∨ j = 6 ∨ j = 7 ∨ j = 8 ∨ j = 9 := by omega
      all_goals rfl)
    simpa using q
  · have q := (t j hj).2
    simpa using q
  · show 0 ≤ (if j < 5 then e j else f (j - 5)) ∧ (if j < 5 then e j else f (j - 5)) < 18446744073709551616
    by_cases c : j < 5
    · rw [if_pos c]
      have := he j c
      omega
    · rw [if_neg c]
      have := hf (j - 5) (by omega)
      omega
  · show 0 ≤ (if j < 5 then e j else f (j - 5)) ∧ (if j < 5 then e j else f (j - 5)) < 2251799813685248
    rw [if_pos hj]
    exact he j hj
  · rw [← hA]
    rfl
  · show 0 ≤ (if 5 + j < 5 then e (5 + j) else f (5 + j - 5)) ∧ (if 5 + j < 5 then e (5 + j) else f (5 + j - 5)) < 2251799813685248
    rw [if_neg (by omega), show 5 + j - 5 = j by omega]
    exact hf j hj
  · rw [← hB]
    rfl
theorem Tens.rat {W : World} {q : Nat} {f : Nat → Int} {A B : Int} (h : Tens W q f) (hA : Is5 f A) (hB : Is5 (fun j => f (5 + j)) B) : Rat W q A B := by
  refine ⟨f, fun j => f (5 + j), fun j v hv => ?_, fun j hj => ⟨?_, ?_⟩, hA, hB⟩
  · have hj : j < 10 := (List.getElem?_eq_some_iff.1 hv).1
    have q := (h j hj).1
    rw [Nat.zero_add]
    rw [q, ← hv]
    obtain rfl | rfl | rfl | rfl | rfl | rfl | rfl | rfl | rfl | rfl : j = 0 ∨ j = 1 ∨ j = 2 ∨ j = 3 ∨ j = 4 ∨ j = 5 ∨ j = 6 ∨ j = 7 ∨ j = 8 ∨ j = 9 := by omega
    all_goals rfl
  · rw [Nat.zero_add, (h j hj).1]
    rfl
  · rw [Nat.zero_add]
    exact (h j hj).2
theorem mix_all (b : Bool) (f g : Nat → Int) : ∀ j, j < 10 → mixT b 5 5 (mixT b 0 5 f g) (mixT b 0 5 g f) j = if b = true then g j else f j := by
  intro j hj
  unfold mixT
  cases b
  · simp
  · by_cases c : j < 5
    · rw [if_neg (by omega), if_pos ⟨rfl, by omega, by omega⟩, if_pos rfl]
    · rw [if_pos ⟨rfl, by omega, by omega⟩, if_neg (by omega), if_pos rfl]
theorem Tens.congr {W : World} {q : Nat} {f g : Nat → Int} (h : Tens W q f) (e : ∀ j, j < 10 → f j = g j) : Tens W q g := fun j hj => ⟨by rw [← e j hj]; exact (h j hj).1, (h j hj).2⟩
theorem mixT_bd (b : Bool) (o k : Nat) {f g : Nat → Int} (hf : ∀ j, j < 10 → 0 ≤ f j ∧ f j < 18446744073709551616) (hg : ∀ j, j < 10 → 0 ≤ g j ∧ g j < 18446744073709551616) : ∀ j, j < 10 → 0 ≤ mixT b o k f g j ∧ mixT b o k f g j < 18446744073709551616 := by
  intro j hj
  unfold mixT
  split
  · exact hg j hj
  · exact hf j hj
theorem But2.trans {q1 q2 : Nat} {a b c : World} (h : But2 q1 q2 a b) (k : But2 q1 q2 b c) : But2 q1 q2 a c :=
  ⟨fun g h1 h2 h3 => (k.1 g h1 h2 (Nat.lt_of_lt_of_le h3 h.2.1)).trans (h.1 g h1 h2 h3), Nat.le_trans h.2.1 k.2.1, fun w1 B hb k1 k2 k3 => k.2.2 w1 B (h.2.2 w1 B hb k1 k2 k3) k1 k2 (Nat.le_trans k3 h.2.1)⟩
theorem But2.drewN {q1 q2 : Nat} {a b : World} (h : But2 q1 q2 a b) (n : Nat) : But2 q1 q2 a (b.drewN n) := ⟨h.1, h.2.1, fun w1 B hb k1 k2 k3 => below_drewN (h.2.2 w1 B hb k1 k2 k3) n⟩
def pick (b : Bool) (x y : Int) : Int := if b = true then x else y
set_option maxHeartbeats 4000000 in
theorem exchange_any (w : World) (q1 q2 : Nat) (b : Bool) (A B C D : Int) (hne : q1 ≠ q2) (h1 : Rat w q1 A B) (h2 : Rat w q2 C D) :
    Calls Tryz.prog 52 #[.pointer (some ⟨q1, 0, none⟩), .pointer (some ⟨q2, 0, none⟩), .int .u64 (pick b 1 0)] w fun r w' => r = .returned (.tuple #[]) ∧
      Rat w' q1 (pick b C A) (pick b D B) ∧ Rat w' q2 (pick b A C) (pick b B D) ∧ But2 q1 q2 w w' := by
  obtain ⟨f, T1, bf, fA, fB⟩ := h1.tens
  obtain ⟨g, T2, bg, gC, gD⟩ := h2.tens
  clear h1 h2
  have M : IntKind.u64.wrap (-(pick b 1 0)) = mask b := by cases b <;> decide
  generalize pick b 1 0 = bi at *
  go_enter Tryz.func52, Tryz.ntmps52
  go_wp2
  have EX := exchange5_any w.drew q1 q2 0 b f g (Or.inl rfl) hne T1 T2 bf bg
  go_region_with (refine EX.mono ?_; rintro r w1 ⟨rfl, S1, S2, SB, SZ⟩)
  clear EX
  have e1 := mixT_bd b 0 5 bf bg
  have e2 := mixT_bd b 0 5 bg bf
  have EX := exchange5_any w1.drew q1 q2 5 b _ _ (Or.inr rfl) hne S1 S2 e1 e2
  clear e1 e2
  go_wp2
  go_region_with (refine EX.mono ?_; rintro r w2 ⟨rfl, S3, S4, SB2, SZ2⟩)
  clear EX
  have BB : But2 q1 q2 w w2 := ⟨fun g g1 g2 g3 => (SB2.1 g g1 g2 (by show g < w1.heap.size; rw [SZ]; exact g3)).trans (SB.1 g g1 g2 g3), by rw [SZ2]; show w.heap.size ≤ w1.heap.size; rw [SZ]; exact Nat.le_refl _,
    fun w0 B' hb k1 k2 k3 => SB2.2.2 w0 B' (SB.2.2 w0 B' hb.drew k1 k2 k3).drew k1 k2 (by show B' ≤ w1.heap.size; rw [SZ]; exact k3)⟩
  have T3 := S3.congr (mix_all b f g)
  have T4 := S4.congr (mix_all b g f)
  have PK : Hid (Rat w2 q1 (pick b C A) (pick b D B) ∧ Rat w2 q2 (pick b A C) (pick b B D) ∧ But2 q1 q2 w w2) := by
    cases b
    · exact ⟨T3.rat fA fB, T4.rat gC gD, BB⟩
    · exact ⟨T3.rat gC gD, T4.rat fA fB, BB⟩
  clear T1 T2 T3 T4 S1 S2 S3 S4 SB SB2 SZ SZ2 BB fA fB gC gD bf bg
  go_wp2
  go_end0
  exact ⟨rfl, PK.out⟩
end Go.Proofs.YteedfhljbdnmnaaGreatDoor
namespace Go.Proofs.YteedfhljbdnmnaaGreatDoor
set_option maxRecDepth 100000
open Go Go.RowKit
structure Two4 where
  a : Int
  b : Int
  c : Int
  d : Int
def lrnd (x : Int) (bit : Bool) (s : Two4) : Two4 :=
  ⟨pick bit (sU s.a s.b s.c s.d) (dU s.a s.b), pick bit (sV x s.a s.b s.c s.d) (dV s.a s.b), pick bit (dU s.c s.d) (sU s.a s.b s.c s.d), pick bit (dV s.c s.d) (sV x s.a s.b s.c s.d)⟩
def lrnds (x : Int) (bit : Nat → Bool) : Nat → Two4
  | 0 => ⟨1, 0, x, 1⟩
  | n + 1 => lrnd x (bit n) (lrnds x bit n)
def wbit (W : Nat → Int) (n : Nat) : Bool := decide (W (n / 64) / 2 ^ (n % 64) % 2 = 1)
theorem and1_64 (x : Int) (h0 : 0 ≤ x) (h1 : x < 18446744073709551616) : bits BinOp.and IntKind.u64 x 1 = x % 2 := bits_mask .u64 64 (by decide) wraps_u64 1 (by decide) x h0 h1
set_option maxHeartbeats 4000000 in
theorem bit_any (w : World) (W : Nat → Int) (hW : W4 W) (n : Nat) (hn : n < 256) :
    Calls Tryz.prog 51 #[ag4 W, .int .i64 n] w fun r w' => r = .returned (.int .u64 (pick (wbit W n) 1 0)) ∧ Below w.heap.size w w' := by
  have B0 := blk_box4 w .u64 44 (W 0) (W 1) (W 2) (W 3)
  have n0 : Below w.heap.size w (w.alloc (.cells #[.int .u64 (W 0), .int .u64 (W 1), .int .u64 (W 2), .int .u64 (W 3)] 44)) := (Below.refl _ _).alloc (Nat.le_refl _) _
  obtain ⟨j, hj⟩ : ∃ j : Nat, n / 64 = j := ⟨_, rfl⟩
  obtain ⟨m, hm⟩ : ∃ m : Nat, n % 64 = m := ⟨_, rfl⟩
  have j4 : j < 4 := by omega
  have m64 : m < 64 := by omega
  have p1 : (n : Int) / 64 = (j : Int) := by omega
  have p2 : (n : Int) % 64 = (m : Int) := by omega
  have cj := B0.cell (i := j) (by simpa using j4)
  have gj : [W 0, W 1, W 2, W 3].getD j 0 = W j := by
    obtain rfl | rfl | rfl | rfl : j = 0 ∨ j = 1 ∨ j = 2 ∨ j = 3 := by omega
    all_goals rfl
  rw [gj] at cj
  have wb := hW j j4
  have pm : (0 : Int) < 2 ^ m := Int.pow_pos (by decide)
  have v0 : 0 ≤ W j / 2 ^ m := Int.ediv_nonneg wb.1 (Int.le_of_lt pm)
  have v1 : W j / 2 ^ m < 18446744073709551616 := Int.lt_of_le_of_lt (Int.ediv_le_self _ wb.1) wb.2
  have e1 := and1_64 _ v0 v1
  have E : Hid (pick (wbit W n) 1 0 = W j / 2 ^ m % 2) := by
    show _ = _
    unfold wbit pick
    rw [hj, hm]
    rcases (show W j / 2 ^ m % 2 = 0 ∨ W j / 2 ^ m % 2 = 1 by omega) with h | h
    · rw [h]; rfl
    · rw [h]; rfl
  clear hj hm gj
  simp only [ag4]
  go_enter Tryz.func51, Tryz.ntmps51
  go_wp2_with fail
  generalize w.alloc (.cells #[.int .u64 (W 0), .int .u64 (W 1), .int .u64 (W 2), .int .u64 (W 3)] 44) = wa at *
  clear B0 hW
  generalize W j = z at *
  go_wp2
  go_ret
  exact ⟨by rw [E.out]; rfl, n0⟩
end Go.Proofs.YteedfhljbdnmnaaGreatDoor
namespace Go.Proofs.YteedfhljbdnmnaaGreatDoor
set_option maxRecDepth 100000
open Go Go.RowKit
theorem But2.em {q1 q2 g o : Nat} {W W' : World} {A : Int} (h : But2 q1 q2 W W') (e : Em5 W g o A) (h1 : g ≠ q1) (h2 : g ≠ q2) : Em5 W' g o A := by
  obtain ⟨t, r, l, k⟩ := e
  exact ⟨t, fun j v hv => (World.cell?_of_block (a := ⟨g, o + j, none⟩) (h.1 g h1 h2 l)).trans (r j v hv), Nat.lt_of_lt_of_le l h.2.1, k⟩
theorem But2.blk {q1 q2 g : Nat} {W W' : World} {k : IntKind} {ys : List Int} (h : But2 q1 q2 W W') (e : Blk W g k ys) (h1 : g ≠ q1) (h2 : g ≠ q2) : Blk W' g k ys := e.of_block (h.1 g h1 h2 e.lt)
theorem But2.there {q1 q2 g n : Nat} {W W' : World} (h : But2 q1 q2 W W') (hn : 0 < n) (e : W.there g 0 n) (h1 : g ≠ q1) (h2 : g ≠ q2) : W'.there g 0 n := by
  have hb := h.1 g h1 h2 (there_lt hn e)
  exact fun j hj => ⟨by rw [World.cell?_of_block (a := ⟨g, 0 + j, none⟩) hb]; exact (e j hj).1, by rw [World.frozen?_of_block (a := ⟨g, 0 + j, none⟩) hb]; exact (e j hj).2⟩
theorem rat_new (W : World) (t : TypeId) {a b : Nat → Int} {A B : Int} (ha : Is5 a A) (hb : Is5 b B) : Rat (W.alloc (.cells #[.int .u64 (a 0), .int .u64 (a 1), .int .u64 (a 2), .int .u64 (a 3), .int .u64 (a 4), .int .u64 (b 0), .int .u64 (b 1), .int .u64 (b 2), .int .u64 (b 3), .int .u64 (b 4)] t)) W.heap.size A B := by
  refine ⟨a, b, fun j v hv => ?_, there_new W (cl10 a b) t, ha, hb⟩
  have e : (W.alloc (.cells (cl10 a b).toArray t)).heap[W.heap.size]? = some (.cells (cl10 a b).toArray t) := heap_alloc_last _ _
  show (W.alloc (.cells (cl10 a b).toArray t)).cell? ⟨W.heap.size, 0 + j, none⟩ = some v
  unfold World.cell?
  simp only
  rw [e]
  simpa using hv
def TwoNew (wr : World) (X : Int) (v5 v6 : Value) (wc : World) : Prop := ∃ q1 q2, v5 = .pointer (some ⟨q1, 0, none⟩) ∧ v6 = .pointer (some ⟨q2, 0, none⟩) ∧ wr.heap.size ≤ q1 ∧ wr.heap.size ≤ q2 ∧ q1 ≠ q2 ∧ Rat wc q1 1 0 ∧ Rat wc q2 X 1 ∧ Below wr.heap.size wr wc
abbrev objOne : Obj := .cells #[.int .u64 1, .int .u64 0, .int .u64 0, .int .u64 0, .int .u64 0, .int .u64 0, .int .u64 0, .int .u64 0, .int .u64 0, .int .u64 0] 72
abbrev objX (e : Nat → Int) : Obj := .cells #[.int .u64 (e 0), .int .u64 (e 1), .int .u64 (e 2), .int .u64 (e 3), .int .u64 (e 4), .int .u64 1, .int .u64 0, .int .u64 0, .int .u64 0, .int .u64 0] 72
theorem rat_one (W : World) : Rat (W.alloc objOne) W.heap.size 1 0 := rat_new W 72 (a := sm5 1) (b := sm5 0) (sm5_ok (by omega) (by omega)) (sm5_ok (by omega) (by omega))
theorem rat_x (W : World) {e : Nat → Int} {X : Int} (he : Is5 e X) : Rat (W.alloc (objX e)) W.heap.size X 1 := rat_new W 72 (a := e) (b := sm5 1) he (sm5_ok (by omega) (by omega))
theorem two_new1 (wr : World) {e : Nat → Int} {X : Int} (he : Is5 e X) : TwoNew wr X (.pointer (some ⟨wr.heap.size, 0, none⟩)) (.pointer (some ⟨wr.heap.size + 1, 0, none⟩)) ((wr.alloc objOne).alloc (objX e)).drew := by
  have s : (wr.alloc objOne).heap.size = wr.heap.size + 1 := by simp
  have m1 : Below wr.heap.size wr (wr.alloc objOne) := (Below.refl _ _).alloc (Nat.le_refl _) _
  have m2 : Below (wr.alloc objOne).heap.size (wr.alloc objOne) ((wr.alloc objOne).alloc (objX e)) := (Below.refl _ _).alloc (Nat.le_refl _) _
  have r1 := (rat_one wr).up m2
  have r2 := rat_x (wr.alloc objOne) he
  rw [s] at r2
  exact ⟨_, _, rfl, rfl, Nat.le_refl _, by omega, by omega, r1.up (Below.refl _ _).drew, r2.up (Below.refl _ _).drew, (nxt m1 m2).drew⟩
theorem two_new2 (wr : World) {e : Nat → Int} {X : Int} (he : Is5 e X) : TwoNew wr X (.pointer (some ⟨wr.heap.size + 1, 0, none⟩)) (.pointer (some ⟨wr.heap.size, 0, none⟩)) ((wr.alloc (objX e)).alloc objOne).drew := by
  have s : (wr.alloc (objX e)).heap.size = wr.heap.size + 1 := by simp
  have m1 : Below wr.heap.size wr (wr.alloc (objX e)) := (Below.refl _ _).alloc (Nat.le_refl _) _
  have m2 : Below (wr.alloc (objX e)).heap.size (wr.alloc (objX e)) ((wr.alloc (objX e)).alloc objOne) := (Below.refl _ _).alloc (Nat.le_refl _) _
  have r1 := (rat_x wr he).up m2
  have r2 := rat_one (wr.alloc (objX e))
  rw [s] at r2
  exact ⟨_, _, rfl, rfl, by omega, Nat.le_refl _, by omega, r2.up (Below.refl _ _).drew, r1.up (Below.refl _ _).drew, (nxt m1 m2).drew⟩
def ladE (x : Int) (bit : Nat → Bool) (n : Nat) : Int := (lrnds x bit n).a * (lrnds x bit n).b ^ eInv
set_option maxHeartbeats 4000000 in
theorem ladder_any (w : World) (W : Nat → Int) (hW : W4 W) (x : Nat → Int) (X : Int) (hx : Is5 x X) (hT : HasTw w 3) (hS : HasSt w 4) (hI : Has3 w 1 12 5 4) :
    Calls Tryz.prog 26 #[ag4 W, ag5 x] w fun r w' => ∃ t, r = .returned (ag5 t) ∧ Is5 t (ladE X (fun i => wbit W (254 - i)) 255) ∧ Below w.heap.size w w' := by
  have B0 := blk_box4 w .u64 44 (W 0) (W 1) (W 2) (W 3)
  have m1 : Below w.heap.size w (w.alloc (.cells #[.int .u64 (W 0), .int .u64 (W 1), .int .u64 (W 2), .int .u64 (W 3)] 44)) := (Below.refl _ _).alloc (Nat.le_refl _) _
  have s1 : (w.alloc (.cells #[.int .u64 (W 0), .int .u64 (W 1), .int .u64 (W 2), .int .u64 (W 3)] 44)).heap.size = w.heap.size + 1 := by simp
  have BI := hide (fun w n hn => bit_any w W hW n hn)
  simp only [ag5, ag4] at BI ⊢
  go_enter Tryz.func26, Tryz.ntmps26
  go_upto_region 1 with fail
  generalize w.alloc (.cells #[.int .u64 (W 0), .int .u64 (W 1), .int .u64 (W 2), .int .u64 (W 3)] 44) = wa at *
  have EX := em5_new wa 42 hx
  have m2 : Below wa.heap.size wa (wa.alloc (.cells #[.int .u64 (x 0), .int .u64 (x 1), .int .u64 (x 2), .int .u64 (x 3), .int .u64 (x 4)] 42)) := (Below.refl _ _).alloc (Nat.le_refl _) _
  have s2 : (wa.alloc (.cells #[.int .u64 (x 0), .int .u64 (x 1), .int .u64 (x 2), .int .u64 (x 3), .int .u64 (x 4)] 42)).heap.size = w.heap.size + 1 + 1 := by simp [s1]
  rw [s1] at EX
  generalize wa.alloc (.cells #[.int .u64 (x 0), .int .u64 (x 1), .int .u64 (x 2), .int .u64 (x 3), .int .u64 (x 4)] 42) = wb at *
  have TR : (wb.alloc (.cells #[.int .u64 0, .int .u64 0, .int .u64 0, .int .u64 0, .int .u64 0] 42)).there wb.heap.size 0 5 := there_new wb _ _
  have m3 : Below wb.heap.size wb (wb.alloc (.cells #[.int .u64 0, .int .u64 0, .int .u64 0, .int .u64 0, .int .u64 0] 42)) := (Below.refl _ _).alloc (Nat.le_refl _) _
  rw [s2] at TR
  have SC := (B0.up m2).up m3
  replace EX := EX.up m3
  have N := nxt (nxt m1 m2) m3
  obtain ⟨wr, hwr⟩ : ∃ W, W = wb.alloc (.cells #[.int .u64 0, .int .u64 0, .int .u64 0, .int .u64 0, .int .u64 0] 42) := ⟨_, rfl⟩
  rw [← hwr] at TR EX N SC
  change Code.wp _ _ _ _ (wb.alloc (.cells #[.int .u64 0, .int .u64 0, .int .u64 0, .int .u64 0, .int .u64 0] 42))
  rw [← hwr]
  have lr : w.heap.size + 1 + 1 < wr.heap.size := there_lt (by omega) TR
  clear hwr m1 m2 m3 s1 s2 B0 hx
  obtain ⟨e, re, le, he⟩ := id EX
  have CY : Hid (∀ W, Below wr.heap.size wr W → W.cell? ⟨w.heap.size + 1, 0, none⟩ = some (.int .u64 (e 0)) ∧ W.cell? ⟨w.heap.size + 1, 1, none⟩ = some (.int .u64 (e 1)) ∧ W.cell? ⟨w.heap.size + 1, 2, none⟩ = some (.int .u64 (e 2)) ∧ W.cell? ⟨w.heap.size + 1, 3, none⟩ = some (.int .u64 (e 3)) ∧ W.cell? ⟨w.heap.size + 1, 4, none⟩ = some (.int .u64 (e 4))) := by
    intro W n
    have r := fun j v hv => (n.cell (p := ⟨w.heap.size + 1, 0 + j, none⟩) le).trans (re j v hv)
    refine ⟨?_, ?_, ?_, ?_, ?_⟩
    · simpa using r 0 _ rfl
    · simpa using r 1 _ rfl
    · simpa using r 2 _ rfl
    · simpa using r 3 _ rfl
    · simpa using r 4 _ rfl
  clear re
  go_cut [5, 6] from 9 to 13 (fun v5 v6 wc => TwoNew wr X v5 v6 wc)
  case first =>
    go_region_held3 (fun W => W.cell? ⟨w.heap.size + 1, 0, none⟩ = some (.int .u64 (e 0)) ∧ W.cell? ⟨w.heap.size + 1, 1, none⟩ = some (.int .u64 (e 1)) ∧ W.cell? ⟨w.heap.size + 1, 2, none⟩ = some (.int .u64 (e 2)) ∧ W.cell? ⟨w.heap.size + 1, 3, none⟩ = some (.int .u64 (e 3)) ∧ W.cell? ⟨w.heap.size + 1, 4, none⟩ = some (.int .u64 (e 4)))
      (first | exact (unhide CY) _ (Below.refl _ _).drew | exact (unhide CY) _ ((Below.refl _ _).alloc (Nat.le_refl _) _).drew | exact (unhide CY) _ (((Below.refl _ _).alloc (Nat.le_refl _) _).alloc (by simp) _).drew)
      (fail)
    all_goals
      go_wp2_with fail
      go_meet
      first
        | exact two_new1 wr he
        | exact two_new2 wr he
  case rest =>
  obtain ⟨q1, q2, rfl, rfl, l5, l6, hne, RA, RB, n⟩ := hcut
  clear CY le he
  replace EX := EX.up n
  replace SC := SC.up n
  replace TR := there_up (by omega) TR n
  replace N := nxt N n
  have g1 : w.heap.size + 1 + 1 < q1 := by omega
  have g2 : w.heap.size + 1 + 1 < q2 := by omega
  clear n l5 l6 lr
  go_wp2
  go_loopw [14] (fun i wr => ∃ k : Nat, k ≤ 255 ∧ i = .int .i64 k ∧ Rat wr q1 (lrnds X (fun i => wbit W (254 - i)) k).a (lrnds X (fun i => wbit W (254 - i)) k).b ∧ Rat wr q2 (lrnds X (fun i => wbit W (254 - i)) k).c (lrnds X (fun i => wbit W (254 - i)) k).d ∧ Em5 wr (w.heap.size + 1) 0 X ∧ Blk wr w.heap.size .u64 [W 0, W 1, W 2, W 3] ∧ wr.there (w.heap.size + 1 + 1) 0 5 ∧ Below w.heap.size w wr) (fun i _ => 255 - (intOf i).toNat)
  case atStart => exact ⟨0, by omega, rfl, RA, RB, EX, SC, TR, N⟩
  case round =>
    clear RA RB EX SC TR N
    obtain ⟨k, hk, rfl, RA, RB, EX, SC, TR, N⟩ := hrel
    by_cases hlt : k < 255
    · have k5 : (k : Int) < 255 := by omega
      have k6 : (254 : Int) - (k : Int) = ((254 - k : Nat) : Int) := by omega
      have ST := hide (show lrnds X (fun i => wbit W (254 - i)) (k + 1) = lrnd X (wbit W (254 - k)) (lrnds X (fun i => wbit W (254 - i)) k) from rfl)
      obtain ⟨s, hs⟩ : ∃ s, s = lrnds X (fun i => wbit W (254 - i)) k := ⟨_, rfl⟩
      rw [← hs] at RA RB ST
      clear hs
      obtain ⟨⟨c0, c1, c2, c3⟩, _⟩ := SC.f4
      have BI' := BI.out wr (254 - k) (by omega)
      obtain ⟨nk, hnk⟩ : ∃ nk, nk = 254 - k := ⟨_, rfl⟩
      rw [← hnk] at k6 BI' ST
      have BT := hide BI'
      clear hnk BI' BI
      obtain ⟨bt, hbt⟩ : ∃ b, b = wbit W nk := ⟨_, rfl⟩
      rw [← hbt] at BT ST
      clear hbt
      go_wp2_with fail
      refine BT.out.mono ?_
      rintro r W2 ⟨rfl, n⟩
      clear BT c0 c1 c2 c3
      replace RA := RA.up n
      replace RB := RB.up n
      replace EX := EX.up n
      replace SC := SC.up n
      replace TR := there_up (by omega) TR n
      replace N := nxt N n
      clear n
      go_wp2_with fail
      refine (exchange_any W2 q1 q2 bt _ _ _ _ hne RA RB).mono ?_
      rintro r W3 ⟨rfl, RA', RB', b⟩
      clear RA RB
      replace EX := b.em EX (by omega) (by omega)
      replace SC := b.blk SC (by omega) (by omega)
      replace TR := b.there (by omega) TR (by omega) (by omega)
      replace N := b.2.2 _ _ N (by omega) (by omega) N.size
      clear b
      obtain ⟨e, re, le, he⟩ := id EX
      have c0 := re 0 _ rfl
      have c1 := re 1 _ rfl
      have c2 := re 2 _ rfl
      have c3 := re 3 _ rfl
      have c4 := re 4 _ rfl
      simp only [Nat.zero_add] at c0 c1 c2 c3 c4
      have CL := hide (climb_any W3 q1 q2 _ _ _ _ X e hne he RA' RB' (hT.up N))
      simp only [ag5] at CL
      clear re le he RA' RB'
      go_wp2_with fail
      refine CL.out.mono ?_
      rintro r W4 ⟨rfl, RA, RB, b⟩
      clear CL c0 c1 c2 c3 c4
      replace EX := b.em EX (by omega) (by omega)
      replace SC := b.blk SC (by omega) (by omega)
      replace TR := b.there (by omega) TR (by omega) (by omega)
      replace N := b.2.2 _ _ N (by omega) (by omega) N.size
      clear b
      go_wp2_with fail
      refine (exchange_any W4 q1 q2 bt _ _ _ _ hne RA RB).mono ?_
      rintro r W5 ⟨rfl, RA', RB', b⟩
      clear RA RB
      replace EX := b.em EX (by omega) (by omega)
      replace SC := b.blk SC (by omega) (by omega)
      replace TR := b.there (by omega) TR (by omega) (by omega)
      replace N := b.2.2 _ _ N (by omega) (by omega) N.size
      clear b
      have PK : Hid (Rat W5 q1 (lrnd X bt s).a (lrnd X bt s).b ∧ Rat W5 q2 (lrnd X bt s).c (lrnd X bt s).d) := by
        cases bt
        · exact ⟨RA', RB'⟩
        · refine ⟨?_, RB'⟩
          have r1 : Rat W5 q1 (sU s.c s.d s.a s.b) (sV X s.c s.d s.a s.b) := RA'
          rw [sU_flip, sV_flip] at r1
          exact r1
      clear RA' RB'
      go_wp2
      go_roundw
      case rel => exact ⟨k + 1, by omega, by go_num, by rw [ST.out]; exact PK.out.1, by rw [ST.out]; exact PK.out.2, EX, SC, TR, N⟩
      case measure => simp [intOf]; omega
    · obtain rfl : k = 255 := by omega
      have EE := hide (show ladE X (fun i => wbit W (254 - i)) 255 = (lrnds X (fun i => wbit W (254 - i)) 255).a * (lrnds X (fun i => wbit W (254 - i)) 255).b ^ eInv from rfl)
      obtain ⟨s, hs⟩ : ∃ s, s = lrnds X (fun i => wbit W (254 - i)) 255 := ⟨_, rfl⟩
      rw [← hs] at RA RB EE
      clear hs
      have SS := hS.up N
      have II := hI.up N
      go_upto_region 10 with fail
      refine region_put5 6 5 4 33 _ (fun i => [Fact.eq (.pointer (some ⟨q1, 0, none⟩)), EM (s.a), Fact.eq (.pointer (some ⟨q1, 5, none⟩)), EM (s.b), EM ((s.b) ^ eInv), EM ((s.a) * ((s.b) ^ eInv))].getD i Fact.no) ((s.a) * ((s.b) ^ eInv)) _ (by kernel_rfl) rfl rfl rfl (by kernel_rfl) rfl TR (by kernel_rfl) rfl ?_ ?_
      · intro i hi
        obtain rfl | rfl | rfl | rfl | rfl | rfl : i = 0 ∨ i = 1 ∨ i = 2 ∨ i = 3 ∨ i = 4 ∨ i = 5 := by omega
        · exact step_fld rfl 72 5 0 rfl (by kernel_rfl) _ _ rfl (fx10 _) rfl
        · exact step_e5f rfl 28 0 rfl (by kernel_rfl) _ _ rfl _ RA.x rfl
        · exact step_fld rfl 72 5 1 rfl (by kernel_rfl) _ _ rfl (fy10 _) rfl
        · exact step_e5f rfl 30 2 rfl (by kernel_rfl) _ _ rfl _ RA.y rfl
        · exact step_inv5 SS II rfl 31 3 _ rfl (by kernel_rfl) rfl rfl
        · exact step_mul5 rfl 29 32 1 4 _ _ rfl (by kernel_rfl) (by kernel_rfl) rfl rfl rfl
      intro vs10 Wb w10 n b E4 nb
      have NS := nb w w.heap.size (nxt N n) (by omega)
      clear n b nb RA RB EX SC TR N SS II
      simp only [puts, Act.put, List.setIfInBounds_toArray, List.set_cons_succ, List.set_cons_zero]
      obtain ⟨t, rg, _, ht⟩ := E4
      go_wp2
      exact bodyPost_ret (v := ag5 t) (results_cell_mid Tryz.results26 _ _ (w.heap.size + 1 + 1) (cl5 t) _ rfl rg u5 rfl i5) rfl ⟨t, rfl, by rw [EE.out]; exact ht, NS⟩
end Go.Proofs.YteedfhljbdnmnaaGreatDoor
namespace Go.Proofs.YteedfhljbdnmnaaGreatDoor
set_option maxRecDepth 100000
open Go.RowKit
def HasW (w : World) (g : Nat) (f : Nat → Int) (n : Nat) : Prop := ∀ k, k < n → w.cell? ⟨g, k, none⟩ = some (.int .u64 (f k))
theorem HasW.of_block {w w' : World} {g n : Nat} {f : Nat → Int} (h : HasW w g f n) (hb : w'.heap[g]? = w.heap[g]?) : HasW w' g f n := fun k hk => (World.cell?_of_block (a := ⟨g, k, none⟩) hb).trans (h k hk)
theorem HasW.lt {w : World} {g n : Nat} {f : Nat → Int} (h : HasW w g f n) (hn : 0 < n) : g < w.heap.size := block_lt_of_cell (h 0 hn)
theorem HasW.up {w w' : World} {g n : Nat} {f : Nat → Int} (h : HasW w g f n) (b : Below w.heap.size w w') : HasW w' g f n := by
  by_cases hn : 0 < n
  · exact h.of_block (b.block g (h.lt hn))
  · exact fun k hk => absurd hk (by omega)
theorem HasW.f4 {w : World} {g : Nat} {f : Nat → Int} (h : HasW w g f 4) : w.cell? ⟨g, 0, none⟩ = some (.int .u64 (f 0)) ∧ w.cell? ⟨g, 1, none⟩ = some (.int .u64 (f 1)) ∧ w.cell? ⟨g, 2, none⟩ = some (.int .u64 (f 2)) ∧ w.cell? ⟨g, 3, none⟩ = some (.int .u64 (f 3)) :=
  ⟨h 0 (by omega), h 1 (by omega), h 2 (by omega), h 3 (by omega)⟩
end Go.Proofs.YteedfhljbdnmnaaGreatDoor
namespace Go.Proofs.YteedfhljbdnmnaaGreatDoor
set_option maxRecDepth 100000
open Go Go.RowKit
theorem and_not7 (x : Int) (h0 : 0 ≤ x) (h1 : x < 18446744073709551616) : bits BinOp.andNot IntKind.u64 x 7 = x - x % 8 := by
  obtain ⟨n, rfl⟩ := Int.eq_ofNat_of_zero_le h0
  have hn : n < 18446744073709551616 := by omega
  have h := u64_andNot_nat n 7 hn (by omega)
  have e : n &&& (18446744073709551615 - 7) = n / 8 * 8 := by
    apply Nat.eq_of_testBit_eq
    intro i
    rw [Nat.testBit_and, show (18446744073709551615 - 7 : Nat) = (2 ^ 61 - 1) * 2 ^ 3 from rfl, show n / 8 * 8 = n / 2 ^ 3 * 2 ^ 3 from rfl, Nat.testBit_mul_two_pow, Nat.testBit_mul_two_pow, Nat.testBit_two_pow_sub_one, Nat.testBit_div_two_pow]
    by_cases c : 3 ≤ i
    · rw [show i - 3 + 3 = i by omega]
      by_cases d : i < 64
      · simp [c, show i - 3 < 61 by omega]
      · have : n.testBit i = false := Nat.testBit_lt_two_pow (Nat.lt_of_lt_of_le hn (Nat.pow_le_pow_right (n := 2) (by decide) (show 64 ≤ i by omega)))
        simp [this]
    · simp [c]
  rw [e] at h
  rw [show (7 : Int) = ((7 : Nat) : Int) from rfl, h]
  omega
theorem and_not63 (x : Int) (h0 : 0 ≤ x) (h1 : x < 18446744073709551616) : bits BinOp.andNot IntKind.u64 x 9223372036854775808 = x % 9223372036854775808 := by
  obtain ⟨n, rfl⟩ := Int.eq_ofNat_of_zero_le h0
  have h := u64_andNot_nat n 9223372036854775808 (by omega) (by omega)
  rw [show (18446744073709551615 - 9223372036854775808 : Nat) = 2 ^ 63 - 1 from rfl, Nat.and_two_pow_sub_one_eq_mod] at h
  rw [show (9223372036854775808 : Int) = ((9223372036854775808 : Nat) : Int) from rfl, h]
  omega
theorem or62 (x : Int) (h0 : 0 ≤ x) (h1 : x < 9223372036854775808) : bits BinOp.or IntKind.u64 x 4611686018427387904 = x % 4611686018427387904 + 4611686018427387904 := by
  obtain ⟨n, rfl⟩ := Int.eq_ofNat_of_zero_le h0
  have h := bits_or_u64_nat n 4611686018427387904 (by omega) (by omega)
  have hr : n % 4611686018427387904 < 2 ^ 62 := by omega
  have o1 : 1 <<< 62 + n % 4611686018427387904 = 1 <<< 62 ||| n % 4611686018427387904 := Nat.shiftLeft_add_eq_or_of_lt hr 1
  have e : n ||| 4611686018427387904 = 4611686018427387904 + n % 4611686018427387904 := by
    rcases (show n = n % 4611686018427387904 ∨ n = 4611686018427387904 + n % 4611686018427387904 by omega) with c | c
    · rw [← c] at o1 ⊢
      rw [Nat.or_comm]
      exact o1.symm
    · have o2 : n = 4611686018427387904 ||| n % 4611686018427387904 := c.trans o1
      rw [o2, Nat.or_comm, ← Nat.or_assoc, Nat.or_self, ← o2]
      exact c
  rw [e] at h
  rw [show (4611686018427387904 : Int) = ((4611686018427387904 : Nat) : Int) from rfl, h]
  omega
def clw (W : Nat → Int) (j : Nat) : Int := if j = 0 then W 0 - W 0 % 8 else if j = 3 then W 3 % 4611686018427387904 + 4611686018427387904 else W j
theorem clw_ok {W : Nat → Int} (h : W4 W) : W4 (clw W) := by
  intro j hj
  have := h 0 (by omega)
  have := h 3 (by omega)
  have := h j hj
  unfold clw
  split
  · omega
  · split <;> omega
set_option maxHeartbeats 2000000 in
theorem readScalar_any (w : World) (g : Nat) (a : Option Addr) (cap : Nat) (xs : List Int) (hr : Rd w g a .u8 xs) (hb : Byt xs) (hl : xs.length = 32) :
    Calls Tryz.prog 24 #[.slice a 32 cap] w fun e w' => e = .returned (ag4 (wv (fun j => xs.getD j 0) 32)) ∧ Below w.heap.size w w' := by
  have hal : Below w.heap.size w (w.alloc (.cells #[.int .u64 0, .int .u64 0, .int .u64 0, .int .u64 0] 44)) := (Below.refl _ _).alloc (Nat.le_refl _) _
  have T0 := blk_box4 w .u64 44 0 0 0 0
  have sz0 : (w.alloc (.cells #[.int .u64 0, .int .u64 0, .int .u64 0, .int .u64 0] 44)).heap.size = w.heap.size + 1 := by simp
  have RW' := hide (fun w' n => readWords_any w' g a cap xs (hr.up n) hb hl)
  clear hl
  go_enter Tryz.func24, Tryz.ntmps24
  go_wp2_with fail
  generalize w.alloc (.cells #[.int .u64 0, .int .u64 0, .int .u64 0, .int .u64 0] 44) = wa at *
  refine (RW'.out wa hal).mono ?_
  rintro r w1 ⟨rfl, n1⟩
  obtain ⟨u, hu⟩ : ∃ u, u = wv (fun j => xs.getD j 0) 32 := ⟨_, rfl⟩
  have hU := hide hu
  rw [← hu]
  clear hu
  obtain ⟨⟨p0, p1, p2, p3⟩, ⟨g0, g1, g2, g3⟩⟩ := (T0.up n1).f4
  have N := nxt hal n1
  clear RW' T0 hal n1 hr hb
  simp only [ag4]
  go_wp2
  refine bodyPost_ret (v := ag4 u) (by simp [ag4, results, Tryz.results24, go_sem, p0, p1, p2, p3]) rfl ⟨by rw [hU.out], ?_⟩
  exact below_set4 N (by omega) _ _ _ _
set_option maxHeartbeats 4000000 in
theorem clamp_any (w : World) (W : Nat → Int) (hW : W4 W) :
    Calls Tryz.prog 25 #[ag4 W] w fun r w' => r = .returned (ag4 (clw W)) ∧ Below w.heap.size w w' := by
  have b0 := hW 0 (by omega)
  have b1 := hW 1 (by omega)
  have b2 := hW 2 (by omega)
  have b3 := hW 3 (by omega)
  have e1 := and_not7 (W 0) b0.1 b0.2
  have e2 := and_not63 (W 3) b3.1 b3.2
  have e3 := or62 (W 3 % 9223372036854775808) (by omega) (by omega)
  simp only [ag4]
  go_enter Tryz.func25, Tryz.ntmps25
  go_wp2
  exact bodyPost_ret (v := ag4 (clw W)) (by simp [ag4, clw, results, Tryz.results25, go_sem]) rfl ⟨rfl, ((Below.refl _ _).alloc (Nat.le_refl _) _).alloc (by simp) _⟩
def low7 (xs : List Int) : List Int := xs.set 31 (xs.getD 31 0 % 128)
theorem and127 : ∀ n : Fin 256, bits BinOp.and IntKind.u8 (n.val : Int) 127 = (n.val : Int) % 128 := by decide +kernel
theorem and127' (x : Int) (h : 0 ≤ x ∧ x < 256) : bits BinOp.and IntKind.u8 x 127 = x % 128 := by
  obtain ⟨n, rfl⟩ := Int.eq_ofNat_of_zero_le h.1
  exact and127 ⟨n, by omega⟩
theorem low7_byt {xs : List Int} (h : Byt xs) : Byt (low7 xs) := by
  intro j
  unfold low7
  by_cases e : 31 = j
  · subst e
    by_cases c : 31 < xs.length
    · rw [getD_set_self _ _ _ c]
      have := h 31
      show 0 ≤ xs.getD 31 0 % 128 ∧ xs.getD 31 0 % 128 < 256
      omega
    · rw [List.set_eq_of_length_le (by omega)]
      exact h 31
  · rw [getD_set_ne _ _ _ _ e]
    exact h j
theorem low7_len (xs : List Int) : (low7 xs).length = xs.length := by unfold low7; simp
set_option maxHeartbeats 4000000 in
theorem readCoordinate_any (w : World) (g : Nat) (a : Option Addr) (cap : Nat) (xs : List Int) (hr : Rd w g a .u8 xs) (hb : Byt xs) (hl : xs.length = 32) :
    Calls Tryz.prog 27 #[.slice a 32 cap] w fun e w' => e = .returned (ag5 (elt (low7 xs))) ∧ Below w.heap.size w w' := by
  have hsz : (Tryz.prog.info? 5).map (·.size) = some 1 := by kernel_rfl
  have z0 := blk_box w .u64 42 0 0 0 0 0
  have n0 : Below w.heap.size w (w.alloc (.cells #[.int .u64 0, .int .u64 0, .int .u64 0, .int .u64 0, .int .u64 0] 42)) := (Below.refl _ _).alloc (Nat.le_refl _) _
  have s0 : (w.alloc (.cells #[.int .u64 0, .int .u64 0, .int .u64 0, .int .u64 0, .int .u64 0] 42)).heap.size = w.heap.size + 1 := by simp
  have LH := hide hl
  clear hl
  go_enter Tryz.func27, Tryz.ntmps27
  go_wp2
  generalize w.alloc (.cells #[.int .u64 0, .int .u64 0, .int .u64 0, .int .u64 0, .int .u64 0] 42) = wa at *
  have Bz : Blk (wa.alloc (.cells #[.int .u8 0, .int .u8 0, .int .u8 0, .int .u8 0, .int .u8 0, .int .u8 0, .int .u8 0, .int .u8 0, .int .u8 0, .int .u8 0, .int .u8 0, .int .u8 0, .int .u8 0, .int .u8 0, .int .u8 0, .int .u8 0, .int .u8 0, .int .u8 0, .int .u8 0, .int .u8 0, .int .u8 0, .int .u8 0, .int .u8 0, .int .u8 0, .int .u8 0, .int .u8 0, .int .u8 0, .int .u8 0, .int .u8 0, .int .u8 0, .int .u8 0, .int .u8 0] 78)) wa.heap.size .u8 (List.replicate 32 0) := ⟨78, by rw [heap_alloc_last]; rfl⟩
  have n1 : Below wa.heap.size wa (wa.alloc (.cells #[.int .u8 0, .int .u8 0, .int .u8 0, .int .u8 0, .int .u8 0, .int .u8 0, .int .u8 0, .int .u8 0, .int .u8 0, .int .u8 0, .int .u8 0, .int .u8 0, .int .u8 0, .int .u8 0, .int .u8 0, .int .u8 0, .int .u8 0, .int .u8 0, .int .u8 0, .int .u8 0, .int .u8 0, .int .u8 0, .int .u8 0, .int .u8 0, .int .u8 0, .int .u8 0, .int .u8 0, .int .u8 0, .int .u8 0, .int .u8 0, .int .u8 0, .int .u8 0] 78)) := (Below.refl _ _).alloc (Nat.le_refl _) _
  generalize wa.alloc (.cells #[.int .u8 0, .int .u8 0, .int .u8 0, .int .u8 0, .int .u8 0, .int .u8 0, .int .u8 0, .int .u8 0, .int .u8 0, .int .u8 0, .int .u8 0, .int .u8 0, .int .u8 0, .int .u8 0, .int .u8 0, .int .u8 0, .int .u8 0, .int .u8 0, .int .u8 0, .int .u8 0, .int .u8 0, .int .u8 0, .int .u8 0, .int .u8 0, .int .u8 0, .int .u8 0, .int .u8 0, .int .u8 0, .int .u8 0, .int .u8 0, .int .u8 0, .int .u8 0] 78) = wb at *
  rw [s0] at Bz
  have N1 := nxt n0 n1
  obtain ⟨w2, hrun, B2, O2⟩ := copy_blk (P := Tryz.prog) wb 22 3 5 Tryz.underlying22 hsz Bz g a xs (hr.up N1) (by rw [LH.out]; simp) 32 cap
  rw [List.length_replicate, LH.out] at hrun
  rw [List.drop_eq_nil_of_le (by rw [LH.out]; simp), List.append_nil] at B2
  have Z2 := (z0.up n1).of_block (O2.block w.heap.size (by omega))
  have N2 : Below w.heap.size w w2 := N1.trans (O2.below (by omega))
  rw [hrun]
  have c31 := B2.cell (i := 31) (by rw [LH.out]; decide)
  have f31 := B2.free 31
  have x31 := hb 31
  have S := B2.store 31 (xs.getD 31 0 % 128)
  have Z3 := Z2.of_block (w' := w2.setCell ⟨w.heap.size + 1, 31, none⟩ (.int .u8 (xs.getD 31 0 % 128))) (heap_setCell_other _ ⟨w.heap.size + 1, 31, none⟩ w.heap.size _ (by show w.heap.size ≠ w.heap.size + 1; omega))
  have N3 : Below w.heap.size w (w2.setCell ⟨w.heap.size + 1, 31, none⟩ (.int .u8 (xs.getD 31 0 % 128))) := N2.setCell (by show w.heap.size ≤ w.heap.size + 1; omega) _
  have e31 := and127' _ x31
  have SL : Hid (Blk (w2.setCell ⟨w.heap.size + 1, 31, none⟩ (.int .u8 (xs.getD 31 0 % 128))) (w.heap.size + 1) .u8 (low7 xs)) := S
  have LL := hide ((low7_len xs).trans LH.out)
  have LB := hide (low7_byt hb)
  clear hr hb z0 n0 s0 LH Bz n1 N1 hrun B2 O2 Z2 N2 S
  obtain ⟨ys, hys⟩ : ∃ ys, ys = low7 xs := ⟨_, rfl⟩
  rw [← hys] at SL LL LB
  have HY := hide hys
  clear hys
  generalize xs.getD 31 0 = x at *
  go_wp2_with fail
  generalize w2.setCell ⟨w.heap.size + 1, 31, none⟩ (.int .u8 (x % 128)) = w3 at *
  refine (readElement_any w3 (w.heap.size + 1) _ 32 ys SL.out.own0.rd LB.out LL.out).mono ?_
  rintro r w4 ⟨rfl, n4⟩
  obtain ⟨⟨p0, p1, p2, p3, p4⟩, ⟨g0, g1, g2, g3, g4⟩⟩ := (Z3.up n4).f5
  have N4 := nxt N3 n4
  obtain ⟨t, ht⟩ : ∃ t, t = elt ys := ⟨_, rfl⟩
  have hT := hide ht
  rw [show stl (rl (wv (fun j => ys.getD j 0) 32)) = t from ht.symm]
  clear ht Z3 N3 n4 SL LL LB c31 f31 e31 x31
  simp only [ag5]
  go_wp2
  exact bodyPost_ret (v := ag5 t) (by simp [ag5, results, Tryz.results27, go_sem, p0, p1, p2, p3, p4]) rfl ⟨by rw [hT.out, HY.out], below_set5 N4 (by omega) _ _ _ _ _⟩
end Go.Proofs.YteedfhljbdnmnaaGreatDoor
namespace Go.Proofs.YteedfhljbdnmnaaGreatDoor
set_option maxRecDepth 100000
set_option maxRecDepth 10000 in
set_option maxHeartbeats 4000000 in
theorem ed_assoc_x (x1 y1 x2 y2 x3 y3 a d : Int) :
    ((x1*y2 + y1*x2)*y3*(1 - d*x1*x2*y1*y2) + (y1*y2 - a*x1*x2)*x3*(1 + d*x1*x2*y1*y2)) * ((1 + d*x2*x3*y2*y3)*(1 - d*x2*x3*y2*y3) + d*(x2*y3 + y2*x3)*(y2*y3 - a*x2*x3)*x1*y1)
    - (x1*(y2*y3 - a*x2*x3)*(1 + d*x2*x3*y2*y3) + y1*(x2*y3 + y2*x3)*(1 - d*x2*x3*y2*y3)) * ((1 + d*x1*x2*y1*y2)*(1 - d*x1*x2*y1*y2) + d*(x1*y2 + y1*x2)*(y1*y2 - a*x1*x2)*x3*y3)
    = (x1*x2^4*y2^3*x3^2*y3*a*d^2 - x1*x2^4*y2*x3^2*y3*a^2*d - x1*x2^3*y2^4*x3*y3^2*d^2 - x1*x2^3*y2^2*x3^3*a^2*d + x1*x2^3*y2^2*x3*a*d + x1*x2^2*y2^3*y3^3*d - x1*x2^2*y2^3*y3*d + x1*x2*y2^4*x3*y3^2*d + y1*x2^4*y2^3*x3*y3^2*d^2 - y1*x2^4*y2*x3*y3^2*a*d + y1*x2^3*y2^4*x3^2*y3*d^2 + y1*x2^3*y2^2*y3^3*d - y1*x2^3*y2^2*y3*d + y1*x2^2*y2^3*x3^3*a*d - y1*x2^2*y2^3*x3*d - y1*x2*y2^4*x3^2*y3*d)*(a*x1^2 + y1^2 - 1 - d*x1^2*y1^2) + (x1^3*x2^2*y2*x3^2*y3*a^2*d - x1^3*x2*y2^2*x3*y3^2*a*d - x1^2*y1*x2^2*y2*x3^3*a^2*d + x1^2*y1*x2^2*y2*x3*a*d - x1^2*y1*x2*y2^2*y3^3*d + x1^2*y1*x2*y2^2*y3*d - x1*y1^2*x2^2*y2*y3^3*d + x1*y1^2*x2^2*y2*y3*d + x1*y1^2*x2*y2^2*x3^3*a*d - x1*y1^2*x2*y2^2*x3*d - x1*x2^2*y2*x3^2*y3*a*d + x1*x2*y2^2*x3*y3^2*d + y1^3*x2^2*y2*x3*y3^2*d + y1^3*x2*y2^2*x3^2*y3*d - y1*x2^2*y2*x3*y3^2*d - y1*x2*y2^2*x3^2*y3*d)*(a*x2^2 + y2^2 - 1 - d*x2^2*y2^2) + (x1^3*x2^3*y2^2*x3*a^2*d - x1^3*x2^2*y2^3*y3*a*d - x1^2*y1*x2^4*y2^3*x3*a*d^2 + x1^2*y1*x2^4*y2*x3*a^2*d - x1^2*y1*x2^3*y2^4*y3*d^2 + x1^2*y1*x2*y2^4*y3*d - x1*y1^2*x2^4*y2^3*y3*d^2 + x1*y1^2*x2^4*y2*y3*a*d + x1*y1^2*x2^3*y2^4*x3*d^2 - x1*y1^2*x2*y2^4*x3*d - x1*x2^3*y2^2*x3*a*d + x1*x2^2*y2^3*y3*d - y1^3*x2^3*y2^2*y3*d - y1^3*x2^2*y2^3*x3*d + y1*x2^3*y2^2*y3*d + y1*x2^2*y2^3*x3*d)*(a*x3^2 + y3^2 - 1 - d*x3^2*y3^2) := by grind
set_option maxRecDepth 10000 in
set_option maxHeartbeats 4000000 in
theorem ed_assoc_y (x1 y1 x2 y2 x3 y3 a d : Int) :
    ((y1*y2 - a*x1*x2)*y3*(1 + d*x1*x2*y1*y2) - a*(x1*y2 + y1*x2)*x3*(1 - d*x1*x2*y1*y2)) * ((1 + d*x2*x3*y2*y3)*(1 - d*x2*x3*y2*y3) - d*(x2*y3 + y2*x3)*(y2*y3 - a*x2*x3)*x1*y1)
    - (y1*(y2*y3 - a*x2*x3)*(1 + d*x2*x3*y2*y3) - a*x1*(x2*y3 + y2*x3)*(1 - d*x2*x3*y2*y3)) * ((1 + d*x1*x2*y1*y2)*(1 - d*x1*x2*y1*y2) - d*(x1*y2 + y1*x2)*(y1*y2 - a*x1*x2)*x3*y3)
    = (-x1*x2^4*y2^3*x3*y3^2*a*d^2 + x1*x2^4*y2*x3*y3^2*a^2*d - x1*x2^3*y2^4*x3^2*y3*a*d^2 - x1*x2^3*y2^2*y3^3*a*d + x1*x2^3*y2^2*y3*a*d - x1*x2^2*y2^3*x3^3*a^2*d + x1*x2^2*y2^3*x3*a*d + x1*x2*y2^4*x3^2*y3*a*d + y1*x2^4*y2^3*x3^2*y3*a*d^2 - y1*x2^4*y2*x3^2*y3*a^2*d - y1*x2^3*y2^4*x3*y3^2*d^2 - y1*x2^3*y2^2*x3^3*a^2*d + y1*x2^3*y2^2*x3*a*d + y1*x2^2*y2^3*y3^3*d - y1*x2^2*y2^3*y3*d + y1*x2*y2^4*x3*y3^2*d)*(a*x1^2 + y1^2 - 1 - d*x1^2*y1^2) + (-x1^3*x2^2*y2*x3*y3^2*a^2*d - x1^3*x2*y2^2*x3^2*y3*a^2*d - x1^2*y1*x2^2*y2*y3^3*a*d + x1^2*y1*x2^2*y2*y3*a*d + x1^2*y1*x2*y2^2*x3^3*a^2*d - x1^2*y1*x2*y2^2*x3*a*d + x1*y1^2*x2^2*y2*x3^3*a^2*d - x1*y1^2*x2^2*y2*x3*a*d + x1*y1^2*x2*y2^2*y3^3*d - x1*y1^2*x2*y2^2*y3*d + x1*x2^2*y2*x3*y3^2*a*d + x1*x2*y2^2*x3^2*y3*a*d + y1^3*x2^2*y2*x3^2*y3*a*d - y1^3*x2*y2^2*x3*y3^2*d - y1*x2^2*y2*x3^2*y3*a*d + y1*x2*y2^2*x3*y3^2*d)*(a*x2^2 + y2^2 - 1 - d*x2^2*y2^2) + (x1^3*x2^3*y2^2*y3*a^2*d + x1^3*x2^2*y2^3*x3*a^2*d - x1^2*y1*x2^4*y2^3*y3*a*d^2 + x1^2*y1*x2^4*y2*y3*a^2*d + x1^2*y1*x2^3*y2^4*x3*a*d^2 - x1^2*y1*x2*y2^4*x3*a*d + x1*y1^2*x2^4*y2^3*x3*a*d^2 - x1*y1^2*x2^4*y2*x3*a^2*d + x1*y1^2*x2^3*y2^4*y3*d^2 - x1*y1^2*x2*y2^4*y3*d - x1*x2^3*y2^2*y3*a*d - x1*x2^2*y2^3*x3*a*d + y1^3*x2^3*y2^2*x3*a*d - y1^3*x2^2*y2^3*y3*d - y1*x2^3*y2^2*x3*a*d + y1*x2^2*y2^3*y3*d)*(a*x3^2 + y3^2 - 1 - d*x3^2*y3^2) := by grind
set_option maxRecDepth 10000 in
set_option maxHeartbeats 4000000 in
theorem ed_close (x1 y1 x2 y2 a d : Int) :
    a*(x1*y2 + y1*x2)^2*(1 - d*x1*x2*y1*y2)^2 + (y1*y2 - a*x1*x2)^2*(1 + d*x1*x2*y1*y2)^2 - (1 + d*x1*x2*y1*y2)^2*(1 - d*x1*x2*y1*y2)^2 - d*(x1*y2 + y1*x2)^2*(y1*y2 - a*x1*x2)^2
    = (x1^2*y1^2*x2^4*y2^4*d^3 + x1^2*x2^4*y2^4*a*d^2 - x1^2*x2^4*y2^2*a^2*d - x1^2*x2^2*y2^4*a*d + y1^2*x2^4*y2^4*d^2 - y1^2*x2^4*y2^2*a*d - y1^2*x2^2*y2^4*d + 2*x2^4*y2^4*a*d - x2^4*y2^4*d^2 - 2*x2^4*y2^2*a^2 + x2^4*a^2 - 2*x2^2*y2^4*a + 4*x2^2*y2^2*a - 2*x2^2*y2^2*d + y2^4)*(a*x1^2 + y1^2 - 1 - d*x1^2*y1^2) + (x1^4*x2^2*y2^2*a^2*d + 2*x1^2*x2^2*y2^2*a^2 - 2*x1^2*x2^2*y2^2*a*d - x1^2*x2^2*a^2 - x1^2*y2^2*a + y1^4*x2^2*y2^2*d + 2*y1^2*x2^2*y2^2*a - 2*y1^2*x2^2*y2^2*d - y1^2*x2^2*a - y1^2*y2^2 - 2*x2^2*y2^2*a + x2^2*y2^2*d + x2^2*a + y2^2 + 1)*(a*x2^2 + y2^2 - 1 - d*x2^2*y2^2) := by grind
set_option maxHeartbeats 4000000 in
theorem ed_diff (x1 y1 x2 y2 a d : Int) :
    ((1 - d*x1*x2*y1*y2) + (y1*y2 - a*x1*x2))*((1 + d*x1*x2*y1*y2) + (y1*y2 + a*x1*x2))*(y1 - y2)^2 - ((1 - d*x1*x2*y1*y2) - (y1*y2 - a*x1*x2))*((1 + d*x1*x2*y1*y2) - (y1*y2 + a*x1*x2))*(y1 + y2)^2
    = (-4*y1*x2^2*y2^3*d + 4*y1*x2^2*y2*a)*(a*x1^2 + y1^2 - 1 - d*x1^2*y1^2) + (-4*y1^3*y2 + 4*y1*y2)*(a*x2^2 + y2^2 - 1 - d*x2^2*y2^2) := by grind
end Go.Proofs.YteedfhljbdnmnaaGreatDoor
