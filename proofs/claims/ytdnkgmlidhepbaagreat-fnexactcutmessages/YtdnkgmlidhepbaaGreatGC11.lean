import Derived.Test.YtdnkgmlidhepbaaGreatGCxRegF
import Derived.Deep.MidRow
import Derived.Test.YtdnkgmlidhepbaaGreatGC10
import Derived.Test.YtdnkgmlidhepbaaGreatGC4
import Derived.Deep.Cut
namespace Go.Proofs.YtdnkgmlidhepbaaGreat
open Go Go.RowKit
def Fact.eq (v0 : Value) : Fact := ⟨fun v _ => v = v0, fun _ h => h⟩
def Fact.no : Fact := ⟨fun _ _ => True, fun _ h => h⟩
section
variable {P : Program} {ops : Array Oper} {Q : Exit → Act → World → Prop} {md : Region.Mode} {F : Nat → Fact} {a0 : Act} {w0 : World}
def Facts (md : Region.Mode) (ops : Array Oper) (F : Nat → Fact) (i : Nat) (a : Act) (w : World) : Prop := ∀ j d, waits md ops i j d = true → (F j).p (a.tmps.getD d undef) w
theorem step_pure {i : Nat} {o : Oper} (hi : ops[i]? = some o)
    (G : ∀ a w, Based ops a0 a → Below w0.heap.size w0 w → Facts md ops F i a w → ∃ v, (execOp a.eval o).run P w = .ok (.value v) w ∧ (F i).p v w) : StepOk P md ops Q F a0 w0 i := by
  intro o' ho' a w hb hw hf K hK
  obtain rfl := Option.some.inj (hi.symm.trans ho')
  obtain ⟨v, hr, hv⟩ := G a w hb hw hf
  unfold Oper.wp
  rw [hr]
  exact hK v w (Below.refl _ _) hv
theorem step_grow {i : Nat} {o : Oper} (hi : ops[i]? = some o)
    (G : ∀ a w, Based ops a0 a → Below w0.heap.size w0 w → Facts md ops F i a w → ∃ v w', (execOp a.eval o).run P w = .ok (.value v) w' ∧ Below w.heap.size w w' ∧ (F i).p v w') : StepOk P md ops Q F a0 w0 i := by
  intro o' ho' a w hb hw hf K hK
  obtain rfl := Option.some.inj (hi.symm.trans ho')
  obtain ⟨v, w', hr, hn, hv⟩ := G a w hb hw hf
  unfold Oper.wp
  rw [hr]
  exact hK v w' hn hv
theorem step_load {i : Nat} {o : Oper} (hi : ops[i]? = some o) (ty : TypeId) (x : Operand) (hop : o.op = .load ty x) (d : TypeDesc) (n : Nat) (hu : P.underlying ty = some d) (hd : d.isRow = true) (hs : (P.info? ty).map (·.size) = some n)
    (G : ∀ a w, Based ops a0 a → Below w0.heap.size w0 w → Facts md ops F i a w → ∃ b off cs, a.eval x = .pointer (some ⟨b, off, none⟩) ∧ w.rangeAt b off cs ∧ cs.length = n ∧ (F i).p (.agg cs.toArray) w) : StepOk P md ops Q F a0 w0 i := by
  intro o' ho' a w hb hw hf K hK
  obtain rfl := Option.some.inj (hi.symm.trans ho')
  obtain ⟨b, off, cs, hx, hc, hl, hv⟩ := G a w hb hw hf
  exact wp_load_mid ty x hop b off hx cs d hc hu hd (by rw [hl]; exact hs) (hK _ _ (Below.refl _ _) hv)
def enters (P : Program) (n : FuncId) : Bool :=
  match P.funcs[n]? with
  | some fn => !(fn.name == "runtime.NumGoroutine") && fn.body.isSome
  | none => false
theorem run_enter {n : FuncId} (h : enters P n = true) (args : Array Value) (w : World) : (callFunc n args).run P w = .ok (.enter n args) w := by
  unfold enters at h
  cases hq : P.funcs[n]? with
  | none => rw [hq] at h; simp at h
  | some fn =>
    rw [hq] at h
    simp only [Bool.and_eq_true, Bool.not_eq_true'] at h
    have h2 : fn.body ≠ none := fun e => by rw [e] at h; simp at h
    have h1 : ¬ fn.name = "runtime.NumGoroutine" := by simpa using h.1
    simp [callFunc, hq, h1, h2]
theorem based_at {a : Act} (hb : Based ops a0 a) (p : Nat) (hp : apart ops p = true) : a.eval (.tmp p) = a0.tmps.getD p undef := hb.2.2 p hp
end
end Go.Proofs.YtdnkgmlidhepbaaGreat
namespace Go.Proofs.YtdnkgmlidhepbaaGreat
open Go Go.RowKit
theorem gdv {a : Act} {p : Nat} {v : Value} (h : a.tmps.getD p undef = v) : a.tmps[p]?.getD undef = v := by rw [← h]; simp
section
variable {P : Program} {ops : Array Oper} {Q : Exit → Act → World → Prop} {md : Region.Mode} {F : Nat → Fact} {a0 : Act} {w0 : World}
theorem step_callv {i : Nat} {o : Oper} (hi : ops[i]? = some o) (n : FuncId) (args : Array Operand) (ts : Array TypeId) (hop : o.op = .call { callee := .value (.func n), args := args, argTypes := ts }) (he : enters P n = true)
    (G : ∀ a w, Based ops a0 a → Below w0.heap.size w0 w → Facts md ops F i a w → Calls P n (args.toList.map a.eval).toArray w fun e w' => ∃ v, e = .returned v ∧ Below w.heap.size w w' ∧ (F i).p v w') : StepOk P md ops Q F a0 w0 i := by
  intro o' ho' a w hb hw hf K hK
  obtain rfl := Option.some.inj (hi.symm.trans ho')
  have hr : (execOp a.eval o).run P w = .ok (.enter n (args.map a.eval)) w := by
    have h0 : (Deferred.ofValue (Value.func (Fn.func n) #[] #[]) (args.map a.eval)).run P w = .ok { target := .fn (.func n) #[], args := args.map a.eval } w := by simp [Deferred.ofValue]
    simp [execOp, hop, resolve, invoke, Act.eval, h0, run_enter he]
  have e : args.map a.eval = (args.toList.map a.eval).toArray := by cases args; simp
  unfold Oper.wp
  rw [hr, e, Oper.upon_enter]
  refine (G a w hb hw hf).mono ?_
  rintro e w' ⟨v, rfl, hn, hv⟩
  exact hK v w' hn hv
end
end Go.Proofs.YtdnkgmlidhepbaaGreat
namespace Go.Proofs.YtdnkgmlidhepbaaGreat
open Go Go.RowKit
def RBf (b : Nat) (xs : List Int) : Fact := ⟨fun v w => RowB w b v xs, fun n h => h.up n⟩
def B3f (xs : List Int) (l1 l2 : Lst) : Fact :=
  ⟨fun v w => ∃ (b g : Nat) (a : Option Addr) (c : Nat), v = .slice (some ⟨b, 0, none⟩) 3 3 ∧ Lsts w b [⟨g, a, c, xs⟩, l1, l2] ∧ Rd w g a .u8 xs ∧ (a = none → c = 0), fun n h => by
    obtain ⟨b, g, a, c, e, l, r, z⟩ := h
    exact ⟨b, g, a, c, e, l.up n, r.up n, z⟩⟩
theorem bs3_run (w : World) (a1 a2 a3 : Option Addr) (n1 n2 n3 c1 c2 c3 : Nat) : (Instr.buildSlice 148 3 #[(0, .slice a1 n1 c1), (1, .slice a2 n2 c2), (2, .slice a3 n3 c3)]).run Tryz.prog w = .ok (.slice (some ⟨w.heap.size, 0, none⟩) 3 3) (w.alloc (.cells #[.slice a1 n1 c1, .slice a2 n2 c2, .slice a3 n3 c3] 22)) := by
  kernel_rfl
theorem lsts_three (w : World) (t : TypeId) (a b c : Lst) : Lsts (w.alloc (.cells #[.slice a.a a.xs.length a.c, .slice b.a b.xs.length b.c, .slice c.a c.xs.length c.c] t)) w.heap.size [a, b, c] := by
  intro j x hj
  match j, hj with
  | 0, hj => simp at hj; subst hj; simp [World.cell?_alloc_at]
  | 1, hj => simp at hj; subst hj; simp [World.cell?_alloc_at]
  | 2, hj => simp at hj; subst hj; simp [World.cell?_alloc_at]
theorem step_bs3 {ops : Array Oper} {Q : Exit → Act → World → Prop} {md : Region.Mode} {F : Nat → Fact} {a0 : Act} {w0 : World} {i : Nat} {o : Oper} {B : Nat} {xs : List Int} {l1 l2 : Lst} (hi : ops[i]? = some o) (p q s j k m : Nat) (hop : o.op = .buildSlice 148 3 #[(0, .tmp p), (1, .tmp q), (2, .tmp s)])
    (hj : waits md ops i j p = true) (hk : waits md ops i k q = true) (hm : waits md ops i m s = true) (hFj : F j = RBf B xs) (hFk : F k = Fact.eq (.slice l1.a l1.xs.length l1.c)) (hFm : F m = Fact.eq (.slice l2.a l2.xs.length l2.c)) (hFi : F i = B3f xs l1 l2) : StepOk Tryz.prog md ops Q F a0 w0 i := by
  refine step_grow hi fun a w _ _ hf => ?_
  have h1 := hf j p hj
  have h2 := hf k q hk
  have h3 := hf m s hm
  rw [hFj] at h1
  rw [hFk] at h2
  rw [hFm] at h3
  obtain ⟨a1, c1, g1, e1, r1, z1, _, _⟩ := RowB.rd h1
  have x1 : a.eval (.tmp p) = .slice a1 xs.length c1 := e1
  have x2 : a.eval (.tmp q) = .slice l1.a l1.xs.length l1.c := h2
  have x3 : a.eval (.tmp s) = .slice l2.a l2.xs.length l2.c := h3
  have gg : (#[(0, Operand.tmp p), (1, Operand.tmp q), (2, Operand.tmp s)].map fun (n, x) => (n, a.eval x)) = #[(0, Value.slice a1 xs.length c1), (1, .slice l1.a l1.xs.length l1.c), (2, .slice l2.a l2.xs.length l2.c)] := by simp [x1, x2, x3]
  have n9 : Below w.heap.size w (w.alloc (.cells #[.slice a1 xs.length c1, .slice l1.a l1.xs.length l1.c, .slice l2.a l2.xs.length l2.c] 22)) := (Below.refl _ _).alloc (Nat.le_refl _) _
  refine ⟨.slice (some ⟨w.heap.size, 0, none⟩) 3 3, _, ?_, n9, ?_⟩
  · simp only [execOp, hop, gg]
    rw [Sem.run_bind, bs3_run]
    rfl
  · rw [hFi]
    exact ⟨w.heap.size, g1, a1, c1, rfl, lsts_three w 22 ⟨g1, a1, c1, xs⟩ l1 l2, r1.up n9, z1⟩
theorem cat3 (a b c : Lst) : cat [a, b, c] = a.xs ++ (b.xs ++ c.xs) := by simp [cat]
def fpL (v : Int) (r s : List Int) : List Int := bigL v 1 ++ (r ++ s)
theorem fpL_len (v : Int) (r s : List Int) : (fpL v r s).length = r.length + s.length + 1 := by simp [fpL, bigL_len]; omega
set_option maxHeartbeats 4000000 in
theorem firstBody_any (w : World) (q : Nat) (v : Int) (l1 l2 : Lst) (h0 : w.cell? ⟨q, 0, none⟩ = some (.int .i64 v)) (h1 : w.cell? ⟨q, 1, none⟩ = some (.slice l1.a l1.xs.length l1.c)) (h2 : w.cell? ⟨q, 2, none⟩ = some (.slice l2.a l2.xs.length l2.c))
    (r1 : Rd w l1.g l1.a .u8 l1.xs) (r2 : Rd w l2.g l2.a .u8 l2.xs) (z1 : l1.a = none → l1.c = 0) (z2 : l2.a = none → l2.c = 0) (m1 : l1.xs.length ≤ 1048576) (m2 : l2.xs.length ≤ 1048576) :
    Calls Tryz.prog 92 #[.pointer (some ⟨q, 0, none⟩)] w fun e w' => (∃ x, e = .returned x ∧ RowB w' w.heap.size x (fpL v l1.xs l2.xs)) ∧ Below w.heap.size w w' := by
  have ql := block_lt_of_cell h0
  have cu : ∀ {W : World}, Below w.heap.size w W → ∀ i, W.cell? ⟨q, i, none⟩ = w.cell? ⟨q, i, none⟩ := fun n i => World.cell?_of_block (a := ⟨q, i, none⟩) (n.block q ql)
  go_enter Tryz.func92, Tryz.ntmps92
  go_upto_region 1 with fail
  refine region_end 16 (fun i => [Fact.eq (.pointer (some ⟨q, 0, none⟩)), Fact.eq (.pointer (some ⟨q, 0, none⟩)), Fact.eq (.pointer (some ⟨q, 0, none⟩)), Fact.eq (.int .i64 v), RBf w.heap.size (bigL v 1), Fact.eq (.pointer (some ⟨q, 0, none⟩)), Fact.eq (.pointer (some ⟨q, 0, none⟩)), Fact.eq (.pointer (some ⟨q, 1, none⟩)), Fact.eq (.slice l1.a l1.xs.length l1.c), Fact.eq (.pointer (some ⟨q, 0, none⟩)), Fact.eq (.pointer (some ⟨q, 0, none⟩)), Fact.eq (.pointer (some ⟨q, 2, none⟩)), Fact.eq (.slice l2.a l2.xs.length l2.c), B3f (bigL v 1) l1 l2, RBf w.heap.size (fpL v l1.xs l2.xs), RBf w.heap.size (fpL v l1.xs l2.xs)].getD i Fact.no) (by kernel_rfl) (by kernel_rfl) rfl ?_ ?_
  · intro i hi
    obtain rfl | rfl | rfl | rfl | rfl | rfl | rfl | rfl | rfl | rfl | rfl | rfl | rfl | rfl | rfl | rfl : i = 0 ∨ i = 1 ∨ i = 2 ∨ i = 3 ∨ i = 4 ∨ i = 5 ∨ i = 6 ∨ i = 7 ∨ i = 8 ∨ i = 9 ∨ i = 10 ∨ i = 11 ∨ i = 12 ∨ i = 13 ∨ i = 14 ∨ i = 15 := by omega
    · refine step_pure rfl fun A ww hb hw hf => ?_
      have e0 : A.tmps[0]?.getD undef = .pointer (some ⟨q, 0, none⟩) := gdv (hb.2.2 0 (by kernel_rfl))
      exact ⟨.pointer (some ⟨q, 0, none⟩), by simp [go_sem, e0], rfl⟩
    · refine step_pure rfl fun A ww hb hw hf => ?_
      have e0 : A.tmps[3]?.getD undef = .pointer (some ⟨q, 0, none⟩) := gdv (hf 0 3 (by kernel_rfl))
      exact ⟨.pointer (some ⟨q, 0, none⟩), by simp [go_sem, e0], rfl⟩
    · refine step_pure rfl fun A ww hb hw hf => ?_
      have e0 : A.tmps[4]?.getD undef = .pointer (some ⟨q, 0, none⟩) := gdv (hf 1 4 (by kernel_rfl))
      exact ⟨.pointer (some ⟨q, 0, none⟩), by simp [go_sem, e0], rfl⟩
    · refine step_pure rfl fun A ww hb hw hf => ?_
      have e0 : A.tmps[5]?.getD undef = .pointer (some ⟨q, 0, none⟩) := gdv (hf 2 5 (by kernel_rfl))
      have hc : ww.cell? ⟨q, 0, none⟩ = some (.int .i64 v) := (cu hw 0).trans h0
      exact ⟨.int .i64 v, by simp [go_sem, e0, hc], rfl⟩
    · refine step_callv rfl 95 _ _ rfl (by kernel_rfl) fun A ww hb hw hf => ?_
      have e6 : A.tmps.getD 6 undef = .int .i64 v := hf 3 6 (by kernel_rfl)
      show Calls Tryz.prog 95 #[.slice none 0 0, A.tmps.getD 6 undef, .int .i64 1] ww _
      rw [e6]
      refine (appendNumber_any ww ww.heap.size (.slice none 0 0) [] (RowB.nil ww _) (Nat.le_refl _) v 1 (by decide) (by simp)).mono ?_
      rintro r w' ⟨x, rfl, R, n⟩
      exact ⟨x, rfl, n, R.base hw.size⟩
    · refine step_pure rfl fun A ww hb hw hf => ?_
      have e0 : A.tmps[0]?.getD undef = .pointer (some ⟨q, 0, none⟩) := gdv (hb.2.2 0 (by kernel_rfl))
      exact ⟨.pointer (some ⟨q, 0, none⟩), by simp [go_sem, e0], rfl⟩
    · refine step_pure rfl fun A ww hb hw hf => ?_
      have e0 : A.tmps[8]?.getD undef = .pointer (some ⟨q, 0, none⟩) := gdv (hf 5 8 (by kernel_rfl))
      exact ⟨.pointer (some ⟨q, 0, none⟩), by simp [go_sem, e0], rfl⟩
    · refine step_pure rfl fun A ww hb hw hf => ?_
      have e0 : A.tmps[9]?.getD undef = .pointer (some ⟨q, 0, none⟩) := gdv (hf 6 9 (by kernel_rfl))
      exact ⟨.pointer (some ⟨q, 1, none⟩), by simp [go_sem, e0], rfl⟩
    · refine step_pure rfl fun A ww hb hw hf => ?_
      have e0 : A.tmps[10]?.getD undef = .pointer (some ⟨q, 1, none⟩) := gdv (hf 7 10 (by kernel_rfl))
      have hc : ww.cell? ⟨q, 1, none⟩ = some (.slice l1.a l1.xs.length l1.c) := (cu hw 1).trans h1
      exact ⟨.slice l1.a l1.xs.length l1.c, by simp [go_sem, e0, hc], rfl⟩
    · refine step_pure rfl fun A ww hb hw hf => ?_
      have e0 : A.tmps[0]?.getD undef = .pointer (some ⟨q, 0, none⟩) := gdv (hb.2.2 0 (by kernel_rfl))
      exact ⟨.pointer (some ⟨q, 0, none⟩), by simp [go_sem, e0], rfl⟩
    · refine step_pure rfl fun A ww hb hw hf => ?_
      have e0 : A.tmps[12]?.getD undef = .pointer (some ⟨q, 0, none⟩) := gdv (hf 9 12 (by kernel_rfl))
      exact ⟨.pointer (some ⟨q, 0, none⟩), by simp [go_sem, e0], rfl⟩
    · refine step_pure rfl fun A ww hb hw hf => ?_
      have e0 : A.tmps[13]?.getD undef = .pointer (some ⟨q, 0, none⟩) := gdv (hf 10 13 (by kernel_rfl))
      exact ⟨.pointer (some ⟨q, 2, none⟩), by simp [go_sem, e0], rfl⟩
    · refine step_pure rfl fun A ww hb hw hf => ?_
      have e0 : A.tmps[14]?.getD undef = .pointer (some ⟨q, 2, none⟩) := gdv (hf 11 14 (by kernel_rfl))
      have hc : ww.cell? ⟨q, 2, none⟩ = some (.slice l2.a l2.xs.length l2.c) := (cu hw 2).trans h2
      exact ⟨.slice l2.a l2.xs.length l2.c, by simp [go_sem, e0, hc], rfl⟩
    · exact step_bs3 rfl 7 11 15 4 8 12 rfl (by kernel_rfl) (by kernel_rfl) (by kernel_rfl) rfl rfl rfl rfl
    · refine step_callv rfl 107 _ _ rfl (by kernel_rfl) fun A ww hb hw hf => ?_
      obtain ⟨b, g, a, c, e16, L, R, Z⟩ := hf 13 16 (by kernel_rfl)
      show Calls Tryz.prog 107 #[A.tmps.getD 16 undef] ww _
      rw [e16]
      have lb := bigL_len v 1
      have CC := concatB_any ww b 3 3 [⟨g, a, c, bigL v 1⟩, l1, l2] rfl (by omega) L (by
        intro x hx
        simp only [List.mem_cons, List.not_mem_nil, or_false] at hx
        rcases hx with rfl | rfl | rfl
        · exact ⟨R, Z⟩
        · exact ⟨r1.up hw, z1⟩
        · exact ⟨r2.up hw, z2⟩) (by rw [cat3]; simp only [List.length_append]; omega) (by rw [cat3]; simp only [List.length_append]; omega)
      rw [cat3] at CC
      exact CC.mono (by rintro r w' ⟨⟨x, rfl, R'⟩, n⟩; exact ⟨x, rfl, n, R'.base hw.size⟩)
    · refine step_pure rfl fun A ww hb hw hf => ?_
      have e17 := hf 14 17 (by kernel_rfl)
      exact ⟨A.tmps.getD 17 undef, by simp [go_sem], e17⟩
  intro A W hb hw hF
  have e2 := hF 15 2 (by kernel_rfl)
  obtain ⟨vs, hvs⟩ : ∃ vs : Nat → Value, ∀ d, A.tmps.getD d undef = vs d := ⟨_, fun _ => rfl⟩
  rw [hvs] at e2
  rw [puts_of (md := .any) (k := 16) (by kernel_rfl) rfl hb vs hvs]
  clear hb hF hvs h0 h1 h2 r1 r2 z1 z2 cu
  simp only [puts, Act.put, List.setIfInBounds_toArray, List.set_cons_succ, List.set_cons_zero]
  generalize vs 2 = v2 at *
  go_wp2
  go_ret
  exact ⟨⟨_, rfl, e2⟩, hw⟩
end Go.Proofs.YtdnkgmlidhepbaaGreat
