import Derived.Test.YtpbniihhpfbamaaDoorFW8
import Derived.Test.YtpbniihhpfbamaaDoorFW5
import Derived.Test.YtpbniihhpfbamaaDoorFW3

/-
  Regions that put a line together: the steps (written by gens/fqv.py).
-/
namespace Go.Proofs.YtpbniihhpfbamaaDoor
set_option maxRecDepth 100000
open Go Go.RowKit

theorem all_z {p : Nat → Prop} : ∀ i, i < 0 → p i := fun i h => absurd h (Nat.not_lt_zero i)
theorem all_s {p : Nat → Prop} {n : Nat} (hn : p n) (h : ∀ i, i < n → p i) : ∀ i, i < n + 1 → p i := fun i hi => by
  rcases Nat.lt_succ_iff_lt_or_eq.1 hi with h1 | rfl
  · exact h i h1
  · exact hn
/-- A row of texts, made in the region. -/
def FBt (n : Nat) (ls : List (List UInt8)) : Fact := ⟨fun v w => ∃ q, v = .slice (some ⟨q, 0, none⟩) n n ∧ BlkT w q ls, fun n h => by
  obtain ⟨q, e, h⟩ := h
  exact ⟨q, e, h.up n⟩⟩
/-- A row of bytes that may be read. -/
def FRd (xs : List Int) : Fact := ⟨fun v w => ∃ a c g, v = .slice a xs.length c ∧ Rd w g a .u8 xs, fun n h => by
  obtain ⟨a, c, g, e, h⟩ := h
  exact ⟨a, c, g, e, h.up n⟩⟩
set_option maxRecDepth 100000 in
theorem bsT1 (w : World) (l0 : List UInt8) : (Instr.buildSlice 48 1 #[(0, tx l0)]).run Tryd.prog w = .ok (.slice (some ⟨w.heap.size, 0, none⟩) 1 1) (w.alloc (.cells #[tx l0] 9)) := by kernel_rfl
set_option maxRecDepth 100000 in
theorem bsT2 (w : World) (l0 l1 : List UInt8) : (Instr.buildSlice 48 2 #[(0, tx l0), (1, tx l1)]).run Tryd.prog w = .ok (.slice (some ⟨w.heap.size, 0, none⟩) 2 2) (w.alloc (.cells #[tx l0, tx l1] 9)) := by kernel_rfl
set_option maxRecDepth 100000 in
theorem bsT3 (w : World) (l0 l1 l2 : List UInt8) : (Instr.buildSlice 48 3 #[(0, tx l0), (1, tx l1), (2, tx l2)]).run Tryd.prog w = .ok (.slice (some ⟨w.heap.size, 0, none⟩) 3 3) (w.alloc (.cells #[tx l0, tx l1, tx l2] 9)) := by kernel_rfl
set_option maxRecDepth 100000 in
theorem bsT4 (w : World) (l0 l1 l2 l3 : List UInt8) : (Instr.buildSlice 48 4 #[(0, tx l0), (1, tx l1), (2, tx l2), (3, tx l3)]).run Tryd.prog w = .ok (.slice (some ⟨w.heap.size, 0, none⟩) 4 4) (w.alloc (.cells #[tx l0, tx l1, tx l2, tx l3] 9)) := by kernel_rfl
set_option maxRecDepth 100000 in
theorem bsT9 (w : World) (l0 l1 l2 l3 l4 l5 l6 l7 l8 : List UInt8) : (Instr.buildSlice 48 9 #[(0, tx l0), (1, tx l1), (2, tx l2), (3, tx l3), (4, tx l4), (5, tx l5), (6, tx l6), (7, tx l7), (8, tx l8)]).run Tryd.prog w = .ok (.slice (some ⟨w.heap.size, 0, none⟩) 9 9) (w.alloc (.cells #[tx l0, tx l1, tx l2, tx l3, tx l4, tx l5, tx l6, tx l7, tx l8] 9)) := by kernel_rfl
set_option maxRecDepth 100000 in
theorem bsT12 (w : World) (l0 l1 l2 l3 l4 l5 l6 l7 l8 l9 l10 l11 : List UInt8) : (Instr.buildSlice 48 12 #[(0, tx l0), (1, tx l1), (2, tx l2), (3, tx l3), (4, tx l4), (5, tx l5), (6, tx l6), (7, tx l7), (8, tx l8), (9, tx l9), (10, tx l10), (11, tx l11)]).run Tryd.prog w = .ok (.slice (some ⟨w.heap.size, 0, none⟩) 12 12) (w.alloc (.cells #[tx l0, tx l1, tx l2, tx l3, tx l4, tx l5, tx l6, tx l7, tx l8, tx l9, tx l10, tx l11] 9)) := by kernel_rfl
theorem en_impl_EncodeHex : enters Tryd.prog 61 = true := by kernel_rfl
theorem en_impl_numberWord : enters Tryd.prog 24 = true := by kernel_rfl
theorem en_impl_flagWord : enters Tryd.prog 75 = true := by kernel_rfl
theorem en_impl_textWord : enters Tryd.prog 63 = true := by kernel_rfl
theorem en_impl_lineOf : enters Tryd.prog 23 = true := by kernel_rfl
theorem en_spec_EncodeHex : enters Tryd.prog 15 = true := by kernel_rfl
theorem en_spec_l20Number : enters Tryd.prog 13 = true := by kernel_rfl
theorem en_spec_l20Flag : enters Tryd.prog 32 = true := by kernel_rfl
theorem en_spec_l20Line : enters Tryd.prog 12 = true := by kernel_rfl
section
variable {ops : Array Oper} {Q : Exit → Act → World → Prop} {md : Region.Mode} {F : Nat → Fact} {a0 : Act} {w0 : World} {i : Nat} {o : Oper} {ts : Array TypeId}
theorem sp_mv {P : Program} (hi : ops[i]? = some o) (p : Nat) (hop : o.op = .move (.tmp p)) (hp : apart ops p = true) {v : Value} (h0 : a0.tmps.getD p undef = v) (hF : F i = Fact.eq v) : StepOk P md ops Q F a0 w0 i := by
  refine step_pure hi fun b w hb hw _ => ⟨v, ?_, by rw [hF]; exact rfl⟩
  have e := (based_at hb p hp).trans h0
  simp [execOp, hop, e]
/-- A field's address; where the record lies was known ahead. -/
theorem sp_fa {P : Program} (hi : ops[i]? = some o) (ty : TypeId) (p f : Nat) (hop : o.op = .fieldAddr ty (.tmp p) f) (hp : apart ops p = true) (q off : Nat) (h0 : a0.tmps.getD p undef = .pointer (some ⟨q, 0, none⟩))
    (hr : ∀ w, (Instr.fieldAt ty (.pointer (some ⟨q, 0, none⟩)) f).run P w = .ok (.pointer (some ⟨q, off, none⟩)) w) (hF : F i = Fact.eq (.pointer (some ⟨q, off, none⟩))) : StepOk P md ops Q F a0 w0 i := by
  refine step_pure hi fun a w hb _ hf => ⟨_, ?_, by rw [hF]; exact rfl⟩
  have e := (based_at hb p hp).trans h0
  simp [execOp, hop, e, hr]
theorem sp_li (hi : ops[i]? = some o) (p j : Nat) (hop : o.op = .load 2 (.tmp p)) (hj : waits md ops i j p = true) {q off : Nat} {cs : List Value} {t : TypeId} {v : Value} (T : RwC w0 q cs t) (hx : cs[off]? = some v) (hFj : F j = Fact.eq (.pointer (some ⟨q, off, none⟩))) (hF : F i = Fact.eq v) : StepOk Tryd.prog md ops Q F a0 w0 i := by
  refine step_pure hi fun a w _ hw hf => ⟨v, ?_, by rw [hF]; exact rfl⟩
  have e := hf j p hj
  rw [hFj] at e
  have e' : a.eval (.tmp p) = .pointer (some ⟨q, off, none⟩) := e
  have c' : w.cell? ⟨q, off, none⟩ = some v := ((T.up hw).cell off).trans hx
  simp only [execOp, hop, e']
  go_simp
theorem sp_lb (hi : ops[i]? = some o) (p j : Nat) (hop : o.op = .load 4 (.tmp p)) (hj : waits md ops i j p = true) {q off : Nat} {cs : List Value} {t : TypeId} {v : Value} (T : RwC w0 q cs t) (hx : cs[off]? = some v) (hFj : F j = Fact.eq (.pointer (some ⟨q, off, none⟩))) (hF : F i = Fact.eq v) : StepOk Tryd.prog md ops Q F a0 w0 i := by
  refine step_pure hi fun a w _ hw hf => ⟨v, ?_, by rw [hF]; exact rfl⟩
  have e := hf j p hj
  rw [hFj] at e
  have e' : a.eval (.tmp p) = .pointer (some ⟨q, off, none⟩) := e
  have c' : w.cell? ⟨q, off, none⟩ = some v := ((T.up hw).cell off).trans hx
  simp only [execOp, hop, e']
  go_simp
theorem sp_lt (hi : ops[i]? = some o) (p j : Nat) (hop : o.op = .load 9 (.tmp p)) (hj : waits md ops i j p = true) {q off : Nat} {cs : List Value} {t : TypeId} {v : Value} (T : RwC w0 q cs t) (hx : cs[off]? = some v) (hFj : F j = Fact.eq (.pointer (some ⟨q, off, none⟩))) (hF : F i = Fact.eq v) : StepOk Tryd.prog md ops Q F a0 w0 i := by
  refine step_pure hi fun a w _ hw hf => ⟨v, ?_, by rw [hF]; exact rfl⟩
  have e := hf j p hj
  rw [hFj] at e
  have e' : a.eval (.tmp p) = .pointer (some ⟨q, off, none⟩) := e
  have c' : w.cell? ⟨q, off, none⟩ = some v := ((T.up hw).cell off).trans hx
  simp only [execOp, hop, e']
  go_simp
theorem sp_ls (hi : ops[i]? = some o) (p j : Nat) (hop : o.op = .load 23 (.tmp p)) (hj : waits md ops i j p = true) {q off : Nat} {cs : List Value} {t : TypeId} {v : Value} (T : RwC w0 q cs t) (hx : cs[off]? = some v) (hFj : F j = Fact.eq (.pointer (some ⟨q, off, none⟩))) (hF : F i = Fact.eq v) : StepOk Tryd.prog md ops Q F a0 w0 i := by
  refine step_pure hi fun a w _ hw hf => ⟨v, ?_, by rw [hF]; exact rfl⟩
  have e := hf j p hj
  rw [hFj] at e
  have e' : a.eval (.tmp p) = .pointer (some ⟨q, off, none⟩) := e
  have c' : w.cell? ⟨q, off, none⟩ = some v := ((T.up hw).cell off).trans hx
  simp only [execOp, hop, e']
  go_simp
/-- A call on known values; its answer is known. -/
theorem sp_call (hi : ops[i]? = some o) (n : FuncId) (args : Array Operand) (vs : List Value) (v : Value) (hop : o.op = .call { callee := .value (.func n), args := args, argTypes := ts }) (he : enters Tryd.prog n = true)
    (hv : ∀ a w, Based ops a0 a → Facts md ops F i a w → args.toList.map a.eval = vs) (C : ∀ W, Below w0.heap.size w0 W → Calls Tryd.prog n vs.toArray W fun e w' => e = .returned v ∧ Below W.heap.size W w') (hF : F i = Fact.eq v) : StepOk Tryd.prog md ops Q F a0 w0 i := by
  refine step_callv hi n args ts hop he fun a w hb hw hf => ?_
  rw [hv a w hb hf]
  refine (C w hw).mono ?_
  rintro e w' ⟨rfl, hn⟩
  exact ⟨v, rfl, hn, by rw [hF]; exact rfl⟩
/-- One argument, made in the region. -/
theorem sp_call1 (hi : ops[i]? = some o) (n : FuncId) (p j : Nat) (x v : Value) (hop : o.op = .call { callee := .value (.func n), args := #[.tmp p], argTypes := ts }) (he : enters Tryd.prog n = true) (hj : waits md ops i j p = true) (hFj : F j = Fact.eq x)
    (C : ∀ W, Below w0.heap.size w0 W → Calls Tryd.prog n #[x] W fun e w' => e = .returned v ∧ Below W.heap.size W w') (hF : F i = Fact.eq v) : StepOk Tryd.prog md ops Q F a0 w0 i :=
  sp_call hi n _ [x] v hop he (fun a w hb hf => by
    have e := hf j p hj
    rw [hFj] at e
    exact congrArg (fun z => [z]) (show a.eval (.tmp p) = x from e)) C hF
/-- A row of texts. -/
theorem sp_bs (hi : ops[i]? = some o) (n : Nat) (parts : Array (Nat × Operand)) (vs : List (Nat × Value)) (ls : List (List UInt8)) (hop : o.op = .buildSlice 48 n parts)
    (hv : ∀ a w, Based ops a0 a → Facts md ops F i a w → (parts.toList.map fun (k, x) => (k, a.eval x)) = vs) (hr : ∀ w : World, (Instr.buildSlice 48 n vs.toArray).run Tryd.prog w = .ok (.slice (some ⟨w.heap.size, 0, none⟩) n n) (w.alloc (.cells (ls.map tx).toArray 9))) (hF : F i = FBt n ls) : StepOk Tryd.prog md ops Q F a0 w0 i := by
  refine step_grow hi fun a w hb _ hf => ?_
  have gg : (parts.map fun (k, x) => (k, a.eval x)) = vs.toArray := by
    rw [← hv a w hb hf]
    cases parts
    simp
  refine ⟨_, _, ?_, (Below.refl _ _).alloc (Nat.le_refl _) _, by rw [hF]; exact ⟨_, rfl, heap_alloc_new w _⟩⟩
  simp only [execOp, hop, gg]
  rw [Sem.run_bind, hr]
  rfl
/-- The line of a row. -/
theorem sp_line (hi : ops[i]? = some o) (n k p j : Nat) (ls : List (List UInt8)) (T : List UInt8) (hop : o.op = .call { callee := .value (.func n), args := #[.tmp p], argTypes := ts }) (he : enters Tryd.prog n = true) (hj : waits md ops i j p = true) (hFj : F j = FBt k ls)
    (C : ∀ W q, BlkT W q ls → Calls Tryd.prog n #[.slice (some ⟨q, 0, none⟩) k k] W fun e w' => e = .returned (tx T) ∧ Below W.heap.size W w') (hF : F i = Fact.eq (tx T)) : StepOk Tryd.prog md ops Q F a0 w0 i := by
  refine step_callv hi n _ ts hop he fun a w hb hw hf => ?_
  have e := hf j p hj
  rw [hFj] at e
  obtain ⟨q, e, hq⟩ := e
  show Calls Tryd.prog n #[a.tmps.getD p undef] w _
  rw [show a.tmps.getD p undef = _ from e]
  refine (C w q hq).mono ?_
  rintro e w' ⟨rfl, hn⟩
  exact ⟨_, rfl, hn, by rw [hF]; exact rfl⟩
/-- A text's bytes. -/
theorem sp_conv (hi : ops[i]? = some o) (p j : Nat) (s : ByteArray) (hs : s.size ≤ 1048576) (hop : o.op = .convert 9 23 (.tmp p)) (hj : waits md ops i j p = true) (hFj : F j = Fact.eq (.string s)) (hF : F i = FRd (byL s)) : StepOk Tryd.prog md ops Q F a0 w0 i := by
  refine step_grow hi fun a w hb _ hf => ?_
  have e := hf j p hj
  rw [hFj] at e
  have e' : a.eval (.tmp p) = .string s := e
  obtain ⟨v, w1, hc, hR, n1⟩ := convS w s.data.toList hs
  obtain ⟨x, c, g, rfl, R⟩ := hR.rd
  refine ⟨_, w1, ?_, n1, by rw [hF]; exact ⟨x, c, g, rfl, R⟩⟩
  simp only [execOp, hop, e']
  rw [mk_toL s, Sem.run_bind, hc]
  rfl
/-- The digits of bytes that were made in the region. -/
theorem sp_hexc (hi : ops[i]? = some o) (p j : Nat) (s : ByteArray) (hs : s.size ≤ 1048576) (hop : o.op = .call { callee := .value (.func 15), args := #[.tmp p], argTypes := ts }) (hj : waits md ops i j p = true) (hFj : F j = FRd (byL s)) (hF : F i = Fact.eq (tx (heT (byL s)))) : StepOk Tryd.prog md ops Q F a0 w0 i := by
  refine step_callv hi _ _ ts hop en_spec_EncodeHex fun a w hb hw hf => ?_
  have e := hf j p hj
  rw [hFj] at e
  obtain ⟨x, c, g, e, R⟩ := e
  show Calls Tryd.prog 15 #[a.tmps.getD p undef] w _
  rw [show a.tmps.getD p undef = _ from e]
  refine (specEncodeHex_any w g x c (byL s) R (byL_byt s) (by rw [byL_len]; exact hs)).mono ?_
  rintro e w' ⟨rfl, hn⟩
  exact ⟨_, rfl, hn, by rw [hF]; exact rfl⟩
end
end Go.Proofs.YtpbniihhpfbamaaDoor

/-
  The model's words of a line, and its line.
-/
namespace Go.Proofs.YtpbniihhpfbamaaDoor
set_option maxRecDepth 100000
open Go Go.RowKit

theorem min_it : itL (-9223372036854775808) = [45, 57, 50, 50, 51, 51, 55, 50, 48, 51, 54, 56, 53, 52, 55, 55, 53, 56, 48, 56] := by
  rw [itL, show (-9223372036854775808 : Int) = -((9223372036854775808 : Nat) : Int) from rfl, Lib.itoa_neg _ (by decide), Lib.decDigits_eq, Lib.nDigits_unique 18 9223372036854775808 (by decide) (by decide)]
  decide +kernel
theorem l20Number_any (w : World) (n : Int) (i : I64 n) : Calls Tryd.prog 13 #[.int .i64 n] w fun e w' => e = .returned (tx (itL n)) ∧ Below w.heap.size w w' := by
  by_cases h0 : 0 ≤ n
  · obtain ⟨N, rfl⟩ : ∃ N : Nat, n = (N : Int) := ⟨n.toNat, by omega⟩
    rw [itL, Lib.itoa_nonneg]
    exact l20NumberN w N (by have := i.2; omega)
  by_cases hm : n = -9223372036854775808
  · subst hm
    rw [min_it]
    clear h0 i
    go_enter Tryd.func13, Tryd.ntmps13
    go_wp2
    go_ret
    exact ⟨rfl, Below.refl _ _⟩
  · obtain ⟨N, rfl⟩ : ∃ N : Nat, n = -(N : Int) := ⟨(-n).toNat, by omega⟩
    have i1 := i.1
    have t1 : (-(N : Int) == -9223372036854775808) = false := beq_eq_false_iff_ne.2 hm
    have t2 : decide (-(N : Int) < 0) = true := decide_eq_true (by omega)
    have t2' : decide ((0 : Int) < (N : Int)) = true := decide_eq_true (by omega)
    have t3 : (0 : Int) < (N : Int) := by omega
    have ng : IntKind.i64.wrap (N : Int) = (N : Int) := by rw [IntKind.wrap_i64]; omega
    have CN := hide (l20NumberN w N (by omega))
    have e1 : itL (-(N : Int)) = [45] ++ Lib.decDigits N := by rw [itL, Lib.itoa_neg _ (by omega)]; rfl
    have dl : (Lib.decDigits N).length ≤ 20 := by rw [Lib.decDigits_length]; exact Lib.nDigits_le20 N (by omega)
    have AD : ∀ W : World, (Op.stringOp .add (ByteArray.mk ⟨[45]⟩) (ByteArray.mk ⟨Lib.decDigits N⟩)).run Tryd.prog W = .ok (.string ⟨⟨[45] ++ Lib.decDigits N⟩⟩) W := fun W => tx_add W _ _ (by simp; omega)
    rw [e1]
    generalize [45] ++ Lib.decDigits N = T at *
    generalize Lib.decDigits N = D at *
    clear e1 dl i
    go_enter Tryd.func13, Tryd.ntmps13
    go_wp2_with fail
    refine CN.out.mono ?_
    rintro e w1 ⟨rfl, n1⟩
    have NN := hide n1
    clear n1 CN
    unfold tx
    go_wp2
    go_ret
    exact ⟨rfl, NN.out⟩
theorem l20Flag_any (w : World) (b : Bool) : Calls Tryd.prog 32 #[.bool b] w fun e w' => e = .returned (tx (flT b)) ∧ Below w.heap.size w w' := by
  cases b with
  | true =>
    go_enter Tryd.func32, Tryd.ntmps32
    go_wp2
    go_ret
    exact ⟨rfl, Below.refl _ _⟩
  | false =>
    go_enter Tryd.func32, Tryd.ntmps32
    go_wp2
    go_ret
    exact ⟨rfl, Below.refl _ _⟩
theorem lnL_one (x : List UInt8) : lnL [x] = x := Lib.join_one x [32]
theorem lnL_snoc {ls : List (List UInt8)} {k : Nat} (hk : k + 1 < ls.length) : lnL (ls.take (k + 2)) = (lnL (ls.take (k + 1)) ++ [32]) ++ ls.getD (k + 1) [] := by
  cases ls with
  | nil => simp at hk
  | cons x r =>
    have hr : k < r.length := by simpa using hk
    have e : r[k]? = some (r.getD k []) := by rw [List.getD_eq_getElem?_getD, List.getElem?_eq_getElem hr]; rfl
    show Lib.join ((x :: r).take (k + 2)) [32] = (Lib.join ((x :: r).take (k + 1)) [32] ++ [32]) ++ r.getD k []
    rw [List.take_succ_cons, List.take_succ_cons, Lib.join_cons, Lib.join_cons, Lib.joinTail_take_succ [32] r k _ e, List.append_assoc, List.append_assoc, List.append_assoc]
theorem lnL_snoc' {ls : List (List UInt8)} {k : Nat} (h0 : 0 < k) (hk : k < ls.length) : lnL (ls.take (k + 1)) = (lnL (ls.take k) ++ [32]) ++ ls.getD k [] := by
  obtain ⟨j, rfl⟩ : ∃ j, k = j + 1 := ⟨k - 1, by omega⟩
  exact lnL_snoc hk
theorem lnL_take_le (ls : List (List UInt8)) (k : Nat) : (lnL (ls.take k)).length ≤ (lnL ls).length := by
  cases k with
  | zero => simp [lnL, Lib.join_nil]
  | succ k =>
    cases ls with
    | nil => simp
    | cons x r =>
      show (Lib.join ((x :: r).take (k + 1)) [32]).length ≤ (Lib.join (x :: r) [32]).length
      rw [List.take_succ_cons, Lib.join_cons, Lib.join_cons, List.length_append, List.length_append]
      have := Lib.joinTail_take_le [32] r k
      omega
/-- Where the model's loop over words stands. -/
def LnR (ls : List (List UInt8)) (k : Nat) (out : List UInt8) : Prop := out = lnL (ls.take k)
set_option maxHeartbeats 1000000 in
theorem l20Line_any (w : World) (q n : Nat) (ls : List (List UInt8)) (hB : BlkT w q ls) (hn : ls.length = n) (h1 : n ≤ 1000) (hl : (lnL ls).length ≤ 140737488355328) :
    Calls Tryd.prog 12 #[.slice (some ⟨q, 0, none⟩) n n] w fun e w' => e = .returned (tx (lnL ls ++ [10])) ∧ Below w.heap.size w w' := by
  have ST : Hid (LnR ls 0 []) := rfl
  have HL := hide hl
  have HN := hide hn
  have HB := hide hB
  clear hl hn hB
  go_enter Tryd.func12, Tryd.ntmps12
  go_wp2
  go_loopw [3, 4] (fun s i wr => ∃ (k : Nat) (out : List UInt8), s = .string ⟨⟨out⟩⟩ ∧ i = .int .i64 k ∧ k ≤ n ∧ Hid (LnR ls k out) ∧ wr = w) (fun _ i _ => n - (intOf i).toNat)
  case atStart => exact ⟨0, [], rfl, rfl, Nat.zero_le _, ST, rfl⟩
  case round =>
    clear ST
    obtain ⟨k, out, rfl, rfl, hk, D, rfl⟩ := hrel
    have ol : out.length ≤ 140737488355328 := by
      have := lnL_take_le ls k
      rw [← show out = _ from D.out] at this
      have := HL.out
      omega
    by_cases hkn : k < n
    · have x1 : decide ((k : Int) < (n : Int)) = true := decide_eq_true (by omega)
      have hc : wr.cell? ⟨q, k, none⟩ = some (.string ⟨⟨ls.getD k []⟩⟩) := HB.out.cell (by have := HN.out; omega)
      have wl : (ls.getD k []).length ≤ 140737488355328 := by
        have e := lnL_take_le ls (k + 1)
        have := HL.out
        have hn := HN.out
        cases k with
        | zero =>
          cases ls with
          | nil => simp at hn; omega
          | cons x r =>
            rw [List.take_succ_cons, List.take_zero, lnL_one] at e
            show x.length ≤ _
            omega
        | succ j =>
          rw [lnL_snoc (by omega), List.length_append] at e
          omega
      by_cases h0 : k = 0
      · subst h0
        have e0 : out = [] := D.out
        subst e0
        have D2 : Hid (LnR ls 1 ([] ++ ls.getD 0 [])) := by
          show _ = _
          have hn := HN.out
          cases ls with
          | nil => simp at hn; omega
          | cons x r =>
            rw [List.take_succ_cons, List.take_zero, lnL_one]
            rfl
        have AD : ∀ W : World, (Op.stringOp .add (ByteArray.mk ⟨[]⟩) (ByteArray.mk ⟨ls.getD 0 []⟩)).run Tryd.prog W = .ok (.string ⟨⟨[] ++ ls.getD 0 []⟩⟩) W := fun W => tx_add W _ _ (by rw [List.length_nil]; omega)
        clear D
        generalize [] ++ ls.getD 0 [] = o2 at *
        generalize ls.getD 0 [] = x at *
        go_wp2
        go_roundw
        case rel => exact ⟨1, o2, rfl, rfl, by omega, D2, by trivial⟩
        case measure => simp [intOf]; omega
      · have x2 : decide ((0 : Int) < (k : Int)) = true := decide_eq_true (by omega)
        have x2' : (0 : Int) < (k : Int) := by omega
        have D2 : Hid (LnR ls (k + 1) ((out ++ [32]) ++ ls.getD k [])) := by
          show _ = _
          rw [lnL_snoc' (by omega) (by have := HN.out; omega), show out = _ from D.out]
        have A1 : ∀ W : World, (Op.stringOp .add (ByteArray.mk ⟨out⟩) (ByteArray.mk ⟨[32]⟩)).run Tryd.prog W = .ok (.string ⟨⟨out ++ [32]⟩⟩) W := fun W => tx_add W _ _ (by rw [List.length_singleton]; omega)
        have A2 : ∀ W : World, (Op.stringOp .add (ByteArray.mk ⟨out ++ [32]⟩) (ByteArray.mk ⟨ls.getD k []⟩)).run Tryd.prog W = .ok (.string ⟨⟨(out ++ [32]) ++ ls.getD k []⟩⟩) W := fun W => tx_add W _ _ (by rw [List.length_append, List.length_singleton]; omega)
        clear D ol wl
        generalize (out ++ [32]) ++ ls.getD k [] = o2 at *
        generalize out ++ [32] = o1 at *
        generalize ls.getD k [] = x at *
        go_wp2
        go_roundw
        case rel => exact ⟨k + 1, o2, rfl, by simp, by omega, D2, by trivial⟩
        case measure => simp [intOf]; omega
    · have x1 : decide ((k : Int) < (n : Int)) = false := decide_eq_false (by omega)
      have E : Hid (out = lnL ls) := by
        show _ = _
        rw [show out = _ from D.out, List.take_of_length_le (by have := HN.out; omega)]
      have AD : ∀ W : World, (Op.stringOp .add (ByteArray.mk ⟨out⟩) (ByteArray.mk ⟨[10]⟩)).run Tryd.prog W = .ok (.string ⟨⟨out ++ [10]⟩⟩) W := fun W => tx_add W _ _ (by simp; omega)
      have E2 : Hid (out ++ [10] = lnL ls ++ [10]) := congrArg (· ++ [10]) E.out
      clear D E
      generalize out ++ [10] = o2 at *
      go_wp2
      go_ret
      exact ⟨by rw [← E2.out]; rfl, Below.refl _ _⟩
end Go.Proofs.YtpbniihhpfbamaaDoor
