
/-
  Regions that put a line together: the steps (written by gens/fqv.py).
-/
import Derived.Test.YtpbniihhpfbamaaDoorFqT
import Derived.Test.YtpbniihhpfbamaaDoorFqU
import Derived.Test.YtpbniihhpfbamaaDoorRgV
import Derived.Test.YtpbniihhpfbamaaDoorKmE
import Derived.Test.YtpbniihhpfbamaaDoorStC
namespace Go.Proofs.YtpbniihhpfbamaaDoor
set_option maxRecDepth 100000
open Go Go.RowKit

theorem all_z {p : Nat → Prop} : ∀ i, i < 0 → p i := fun i h => absurd h (Nat.not_lt_zero i)
theorem all_s {p : Nat → Prop} {n : Nat} (hn : p n) (h : ∀ i, i < n → p i) : ∀ i, i < n + 1 → p i := fun i hi => by
  rcases Nat.lt_succ_iff_lt_or_eq.1 hi with h1 | rfl
  · exact h i h1
  · exact hn
/-- A row of texts, made in the region. -/
def FBt (n : Nat) (ls : List (List UInt8)) : Fact := ⟨fun v w => ∃ q, v = .slice (some ⟨q, 0, none⟩) n n ∧ BlkT w q ls, fun n h => by
  obtain ⟨q, e, h⟩ := h
  exact ⟨q, e, h.up n⟩⟩
/-- A row of bytes that may be read. -/
def FRd (xs : List Int) : Fact := ⟨fun v w => ∃ a c g, v = .slice a xs.length c ∧ Rd w g a .u8 xs, fun n h => by
  obtain ⟨a, c, g, e, h⟩ := h
  exact ⟨a, c, g, e, h.up n⟩⟩
set_option maxRecDepth 100000 in
theorem bsT1 (w : World) (l0 : List UInt8) : (Instr.buildSlice 48 1 #[(0, tx l0)]).run Tryd.prog w = .ok (.slice (some ⟨w.heap.size, 0, none⟩) 1 1) (w.alloc (.cells #[tx l0] 9)) := by kernel_rfl
set_option maxRecDepth 100000 in
theorem bsT2 (w : World) (l0 l1 : List UInt8) : (Instr.buildSlice 48 2 #[(0, tx l0), (1, tx l1)]).run Tryd.prog w = .ok (.slice (some ⟨w.heap.size, 0, none⟩) 2 2) (w.alloc (.cells #[tx l0, tx l1] 9)) := by kernel_rfl
set_option maxRecDepth 100000 in
theorem bsT3 (w : World) (l0 l1 l2 : List UInt8) : (Instr.buildSlice 48 3 #[(0, tx l0), (1, tx l1), (2, tx l2)]).run Tryd.prog w = .ok (.slice (some ⟨w.heap.size, 0, none⟩) 3 3) (w.alloc (.cells #[tx l0, tx l1, tx l2] 9)) := by kernel_rfl
set_option maxRecDepth 100000 in
theorem bsT4 (w : World) (l0 l1 l2 l3 : List UInt8) : (Instr.buildSlice 48 4 #[(0, tx l0), (1, tx l1), (2, tx l2), (3, tx l3)]).run Tryd.prog w = .ok (.slice (some ⟨w.heap.size, 0, none⟩) 4 4) (w.alloc (.cells #[tx l0, tx l1, tx l2, tx l3] 9)) := by kernel_rfl
set_option maxRecDepth 100000 in
theorem bsT9 (w : World) (l0 l1 l2 l3 l4 l5 l6 l7 l8 : List UInt8) : (Instr.buildSlice 48 9 #[(0, tx l0), (1, tx l1), (2, tx l2), (3, tx l3), (4, tx l4), (5, tx l5), (6, tx l6), (7, tx l7), (8, tx l8)]).run Tryd.prog w = .ok (.slice (some ⟨w.heap.size, 0, none⟩) 9 9) (w.alloc (.cells #[tx l0, tx l1, tx l2, tx l3, tx l4, tx l5, tx l6, tx l7, tx l8] 9)) := by kernel_rfl
set_option maxRecDepth 100000 in
theorem bsT12 (w : World) (l0 l1 l2 l3 l4 l5 l6 l7 l8 l9 l10 l11 : List UInt8) : (Instr.buildSlice 48 12 #[(0, tx l0), (1, tx l1), (2, tx l2), (3, tx l3), (4, tx l4), (5, tx l5), (6, tx l6), (7, tx l7), (8, tx l8), (9, tx l9), (10, tx l10), (11, tx l11)]).run Tryd.prog w = .ok (.slice (some ⟨w.heap.size, 0, none⟩) 12 12) (w.alloc (.cells #[tx l0, tx l1, tx l2, tx l3, tx l4, tx l5, tx l6, tx l7, tx l8, tx l9, tx l10, tx l11] 9)) := by kernel_rfl
theorem en_impl_EncodeHex : enters Tryd.prog 61 = true := by kernel_rfl
theorem en_impl_numberWord : enters Tryd.prog 24 = true := by kernel_rfl
theorem en_impl_flagWord : enters Tryd.prog 75 = true := by kernel_rfl
theorem en_impl_textWord : enters Tryd.prog 63 = true := by kernel_rfl
theorem en_impl_lineOf : enters Tryd.prog 23 = true := by kernel_rfl
theorem en_spec_EncodeHex : enters Tryd.prog 15 = true := by kernel_rfl
theorem en_spec_l20Number : enters Tryd.prog 13 = true := by kernel_rfl
theorem en_spec_l20Flag : enters Tryd.prog 32 = true := by kernel_rfl
theorem en_spec_l20Line : enters Tryd.prog 12 = true := by kernel_rfl
section
variable {ops : Array Oper} {Q : Exit → Act → World → Prop} {md : Region.Mode} {F : Nat → Fact} {a0 : Act} {w0 : World} {i : Nat} {o : Oper} {ts : Array TypeId}
theorem sp_mv {P : Program} (hi : ops[i]? = some o) (p : Nat) (hop : o.op = .move (.tmp p)) (hp : apart ops p = true) {v : Value} (h0 : a0.tmps.getD p undef = v) (hF : F i = Fact.eq v) : StepOk P md ops Q F a0 w0 i := by
  refine step_pure hi fun b w hb hw _ => ⟨v, ?_, by rw [hF]; exact rfl⟩
  have e := (based_at hb p hp).trans h0
  simp [execOp, hop, e]
/-- A field's address; where the record lies was known ahead. -/
theorem sp_fa {P : Program} (hi : ops[i]? = some o) (ty : TypeId) (p f : Nat) (hop : o.op = .fieldAddr ty (.tmp p) f) (hp : apart ops p = true) (q off : Nat) (h0 : a0.tmps.getD p undef = .pointer (some ⟨q, 0, none⟩))
    (hr : ∀ w, (Instr.fieldAt ty (.pointer (some ⟨q, 0, none⟩)) f).run P w = .ok (.pointer (some ⟨q, off, none⟩)) w) (hF : F i = Fact.eq (.pointer (some ⟨q, off, none⟩))) : StepOk P md ops Q F a0 w0 i := by
  refine step_pure hi fun a w hb _ hf => ⟨_, ?_, by rw [hF]; exact rfl⟩
  have e := (based_at hb p hp).trans h0
  simp [execOp, hop, e, hr]
theorem sp_li (hi : ops[i]? = some o) (p j : Nat) (hop : o.op = .load 2 (.tmp p)) (hj : waits md ops i j p = true) {q off : Nat} {cs : List Value} {t : TypeId} {v : Value} (T : RwC w0 q cs t) (hx : cs[off]? = some v) (hFj : F j = Fact.eq (.pointer (some ⟨q, off, none⟩))) (hF : F i = Fact.eq v) : StepOk Tryd.prog md ops Q F a0 w0 i := by
  refine step_pure hi fun a w _ hw hf => ⟨v, ?_, by rw [hF]; exact rfl⟩
  have e := hf j p hj
  rw [hFj] at e
  have e' : a.eval (.tmp p) = .pointer (some ⟨q, off, none⟩) := e
  have c' : w.cell? ⟨q, off, none⟩ = some v := ((T.up hw).cell off).trans hx
  simp only [execOp, hop, e']
  go_simp
theorem sp_lb (hi : ops[i]? = some o) (p j : Nat) (hop : o.op = .load 4 (.tmp p)) (hj : waits md ops i j p = true) {q off : Nat} {cs : List Value} {t : TypeId} {v : Value} (T : RwC w0 q cs t) (hx : cs[off]? = some v) (hFj : F j = Fact.eq (.pointer (some ⟨q, off, none⟩))) (hF : F i = Fact.eq v) : StepOk Tryd.prog md ops Q F a0 w0 i := by
  refine step_pure hi fun a w _ hw hf => ⟨v, ?_, by rw [hF]; exact rfl⟩
  have e := hf j p hj
  rw [hFj] at e
  have e' : a.eval (.tmp p) = .pointer (some ⟨q, off, none⟩) := e
  have c' : w.cell? ⟨q, off, none⟩ = some v := ((T.up hw).cell off).trans hx
  simp only [execOp, hop, e']
  go_simp
theorem sp_lt (hi : ops[i]? = some o) (p j : Nat) (hop : o.op = .load 9 (.tmp p)) (hj : waits md ops i j p = true) {q off : Nat} {cs : List Value} {t : TypeId} {v : Value} (T : RwC w0 q cs t) (hx : cs[off]? = some v) (hFj : F j = Fact.eq (.pointer (some ⟨q, off, none⟩))) (hF : F i = Fact.eq v) : StepOk Tryd.prog md ops Q F a0 w0 i := by
  refine step_pure hi fun a w _ hw hf => ⟨v, ?_, by rw [hF]; exact rfl⟩
  have e := hf j p hj
  rw [hFj] at e
  have e' : a.eval (.tmp p) = .pointer (some ⟨q, off, none⟩) := e
  have c' : w.cell? ⟨q, off, none⟩ = some v := ((T.up hw).cell off).trans hx
  simp only [execOp, hop, e']
  go_simp
theorem sp_ls (hi : ops[i]? = some o) (p j : Nat) (hop : o.op = .load 23 (.tmp p)) (hj : waits md ops i j p = true) {q off : Nat} {cs : List Value} {t : TypeId} {v : Value} (T : RwC w0 q cs t) (hx : cs[off]? = some v) (hFj : F j = Fact.eq (.pointer (some ⟨q, off, none⟩))) (hF : F i = Fact.eq v) : StepOk Tryd.prog md ops Q F a0 w0 i := by
  refine step_pure hi fun a w _ hw hf => ⟨v, ?_, by rw [hF]; exact rfl⟩
  have e := hf j p hj
  rw [hFj] at e
  have e' : a.eval (.tmp p) = .pointer (some ⟨q, off, none⟩) := e
  have c' : w.cell? ⟨q, off, none⟩ = some v := ((T.up hw).cell off).trans hx
  simp only [execOp, hop, e']
  go_simp
/-- A call on known values; its answer is known. -/
theorem sp_call (hi : ops[i]? = some o) (n : FuncId) (args : Array Operand) (vs : List Value) (v : Value) (hop : o.op = .call { callee := .value (.func n), args := args, argTypes := ts }) (he : enters Tryd.prog n = true)
    (hv : ∀ a w, Based ops a0 a → Facts md ops F i a w → args.toList.map a.eval = vs) (C : ∀ W, Below w0.heap.size w0 W → Calls Tryd.prog n vs.toArray W fun e w' => e = .returned v ∧ Below W.heap.size W w') (hF : F i = Fact.eq v) : StepOk Tryd.prog md ops Q F a0 w0 i := by
  refine step_callv hi n args ts hop he fun a w hb hw hf => ?_
  rw [hv a w hb hf]
  refine (C w hw).mono ?_
  rintro e w' ⟨rfl, hn⟩
  exact ⟨v, rfl, hn, by rw [hF]; exact rfl⟩
/-- One argument, made in the region. -/
theorem sp_call1 (hi : ops[i]? = some o) (n : FuncId) (p j : Nat) (x v : Value) (hop : o.op = .call { callee := .value (.func n), args := #[.tmp p], argTypes := ts }) (he : enters Tryd.prog n = true) (hj : waits md ops i j p = true) (hFj : F j = Fact.eq x)
    (C : ∀ W, Below w0.heap.size w0 W → Calls Tryd.prog n #[x] W fun e w' => e = .returned v ∧ Below W.heap.size W w') (hF : F i = Fact.eq v) : StepOk Tryd.prog md ops Q F a0 w0 i :=
  sp_call hi n _ [x] v hop he (fun a w hb hf => by
    have e := hf j p hj
    rw [hFj] at e
    exact congrArg (fun z => [z]) (show a.eval (.tmp p) = x from e)) C hF
/-- A row of texts. -/
theorem sp_bs (hi : ops[i]? = some o) (n : Nat) (parts : Array (Nat × Operand)) (vs : List (Nat × Value)) (ls : List (List UInt8)) (hop : o.op = .buildSlice 48 n parts)
    (hv : ∀ a w, Based ops a0 a → Facts md ops F i a w → (parts.toList.map fun (k, x) => (k, a.eval x)) = vs) (hr : ∀ w : World, (Instr.buildSlice 48 n vs.toArray).run Tryd.prog w = .ok (.slice (some ⟨w.heap.size, 0, none⟩) n n) (w.alloc (.cells (ls.map tx).toArray 9))) (hF : F i = FBt n ls) : StepOk Tryd.prog md ops Q F a0 w0 i := by
  refine step_grow hi fun a w hb _ hf => ?_
  have gg : (parts.map fun (k, x) => (k, a.eval x)) = vs.toArray := by
    rw [← hv a w hb hf]
    cases parts
    simp
  refine ⟨_, _, ?_, (Below.refl _ _).alloc (Nat.le_refl _) _, by rw [hF]; exact ⟨_, rfl, heap_alloc_new w _⟩⟩
  simp only [execOp, hop, gg]
  rw [Sem.run_bind, hr]
  rfl
/-- The line of a row. -/
theorem sp_line (hi : ops[i]? = some o) (n k p j : Nat) (ls : List (List UInt8)) (T : List UInt8) (hop : o.op = .call { callee := .value (.func n), args := #[.tmp p], argTypes := ts }) (he : enters Tryd.prog n = true) (hj : waits md ops i j p = true) (hFj : F j = FBt k ls)
    (C : ∀ W q, BlkT W q ls → Calls Tryd.prog n #[.slice (some ⟨q, 0, none⟩) k k] W fun e w' => e = .returned (tx T) ∧ Below W.heap.size W w') (hF : F i = Fact.eq (tx T)) : StepOk Tryd.prog md ops Q F a0 w0 i := by
  refine step_callv hi n _ ts hop he fun a w hb hw hf => ?_
  have e := hf j p hj
  rw [hFj] at e
  obtain ⟨q, e, hq⟩ := e
  show Calls Tryd.prog n #[a.tmps.getD p undef] w _
  rw [show a.tmps.getD p undef = _ from e]
  refine (C w q hq).mono ?_
  rintro e w' ⟨rfl, hn⟩
  exact ⟨_, rfl, hn, by rw [hF]; exact rfl⟩
/-- A text's bytes. -/
theorem sp_conv (hi : ops[i]? = some o) (p j : Nat) (s : ByteArray) (hs : s.size ≤ 1048576) (hop : o.op = .convert 9 23 (.tmp p)) (hj : waits md ops i j p = true) (hFj : F j = Fact.eq (.string s)) (hF : F i = FRd (byL s)) : StepOk Tryd.prog md ops Q F a0 w0 i := by
  refine step_grow hi fun a w hb _ hf => ?_
  have e := hf j p hj
  rw [hFj] at e
  have e' : a.eval (.tmp p) = .string s := e
  obtain ⟨v, w1, hc, hR, n1⟩ := convS w s.data.toList hs
  obtain ⟨x, c, g, rfl, R⟩ := hR.rd
  refine ⟨_, w1, ?_, n1, by rw [hF]; exact ⟨x, c, g, rfl, R⟩⟩
  simp only [execOp, hop, e']
  rw [mk_toL s, Sem.run_bind, hc]
  rfl
/-- The digits of bytes that were made in the region. -/
theorem sp_hexc (hi : ops[i]? = some o) (p j : Nat) (s : ByteArray) (hs : s.size ≤ 1048576) (hop : o.op = .call { callee := .value (.func 15), args := #[.tmp p], argTypes := ts }) (hj : waits md ops i j p = true) (hFj : F j = FRd (byL s)) (hF : F i = Fact.eq (tx (heT (byL s)))) : StepOk Tryd.prog md ops Q F a0 w0 i := by
  refine step_callv hi _ _ ts hop en_spec_EncodeHex fun a w hb hw hf => ?_
  have e := hf j p hj
  rw [hFj] at e
  obtain ⟨x, c, g, e, R⟩ := e
  show Calls Tryd.prog 15 #[a.tmps.getD p undef] w _
  rw [show a.tmps.getD p undef = _ from e]
  refine (specEncodeHex_any w g x c (byL s) R (byL_byt s) (by rw [byL_len]; exact hs)).mono ?_
  rintro e w' ⟨rfl, hn⟩
  exact ⟨_, rfl, hn, by rw [hF]; exact rfl⟩
end
end Go.Proofs.YtpbniihhpfbamaaDoor
