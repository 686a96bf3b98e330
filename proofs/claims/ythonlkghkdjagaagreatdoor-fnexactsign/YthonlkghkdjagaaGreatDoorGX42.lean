import Derived.Test.YthonlkghkdjagaaGreatDoorGX39
import Derived.Test.YthonlkghkdjagaaGreatDoorGX41
import Derived.Deep.RegionHeld3
import Derived.Test.YthonlkghkdjagaaGreatDoorGX3
import Derived.Test.YthonlkghkdjagaaGreatDoorGX38
import Derived.Deep.DeepCutAuto
namespace Go.Proofs.YthonlkghkdjagaaGreatDoor
set_option maxRecDepth 100000
open Go Go.RowKit
def clN : List (Nat → Int) → List Value
  | [] => []
  | e :: es => cl5 e ++ clN es
def agN (es : List (Nat → Int)) : Value := .agg (clN es).toArray
def IsN : List (Nat → Int) → List Int → Prop
  | [], [] => True
  | e :: es, A :: As => Is5 e A ∧ IsN es As
  | _, _ => False
def EN (As : List Int) : Fact := ⟨fun v _ => ∃ es, v = agN es ∧ IsN es As, fun _ h => h⟩
def RowN (W : World) (q o : Nat) (As : List Int) : Prop := ∃ es, W.rangeAt q o (clN es) ∧ q < W.heap.size ∧ IsN es As
theorem clN_len : ∀ {es : List (Nat → Int)} {As : List Int}, IsN es As → (clN es).length = 5 * As.length
  | [], [], _ => rfl
  | e :: es, A :: As, h => by
    have := clN_len h.2
    simp only [clN, List.length_append, List.length_cons, this]
    simp [cl5]
    omega
  | [], _ :: _, h => h.elim
  | _ :: _, [], h => h.elim
theorem clN_one : ∀ (es : List (Nat → Int)), (clN es).toArray.all (·.oneCell') = true := by
  intro es
  refine all_oneCell_toArray fun v hv => ?_
  induction es with
  | nil => cases hv
  | cons e es ih =>
    rcases List.mem_append.1 hv with h | h
    · exact Array.all_eq_true_iff_forall_mem.1 (cl5_one e) v (by simpa using h)
    · exact ih h
theorem RowN.up {W W' : World} {q o : Nat} {As : List Int} (h : RowN W q o As) (n : Below W.heap.size W W') : RowN W' q o As := by
  obtain ⟨t, r, l, h⟩ := h
  exact ⟨t, fun j v hv => (World.cell?_of_block (a := ⟨q, o + j, none⟩) (n.block q l)).trans (r j v hv), Nat.lt_of_lt_of_le l n.size, h⟩
theorem RowN.but {W W' : World} {g o q : Nat} {As : List Int} (h : RowN W g o As) (k : ButQ q W W') (hne : g ≠ q) : RowN W' g o As := by
  obtain ⟨t, r, l, h⟩ := h
  exact ⟨t, fun j v hv => (World.cell?_of_block (a := ⟨g, o + j, none⟩) (k.1 g hne l)).trans (r j v hv), Nat.lt_of_lt_of_le l k.2, h⟩
theorem RowN.lt {W : World} {q o : Nat} {As : List Int} (h : RowN W q o As) : q < W.heap.size := by
  obtain ⟨_, _, l, _⟩ := h
  exact l
theorem RowN.at0 {W : World} {q o : Nat} {A : Int} {As : List Int} (h : RowN W q o (A :: As)) : Em5 W q o A := by
  obtain ⟨es, r, l, h⟩ := h
  cases es with
  | nil => exact h.elim
  | cons e es =>
    refine ⟨e, fun j v hv => r j v ?_, l, h.1⟩
    show (cl5 e ++ clN es)[j]? = some v
    rw [List.getElem?_append_left (List.getElem?_eq_some_iff.1 hv).1]
    exact hv
theorem RowN.tail {W : World} {q o : Nat} {A : Int} {As : List Int} (h : RowN W q o (A :: As)) : RowN W q (o + 5) As := by
  obtain ⟨es, r, l, h⟩ := h
  cases es with
  | nil => exact h.elim
  | cons e es =>
    refine ⟨es, fun j v hv => ?_, l, h.2⟩
    have q := r (5 + j) v (by
      show (cl5 e ++ clN es)[5 + j]? = some v
      rw [List.getElem?_append_right (by show 5 ≤ _; omega)]
      show (clN es)[5 + j - 5]? = some v
      rw [show 5 + j - 5 = j by omega]
      exact hv)
    rw [show o + 5 + j = o + (5 + j) by omega]
    exact q
theorem RowN.init {W : World} {q o : Nat} {A B C : Int} {As : List Int} (h : RowN W q o (A :: B :: C :: As)) : RowN W q o [A, B, C] := by
  obtain ⟨es, r, l, h⟩ := h
  match es, h with
  | e :: f :: g :: es, h =>
    refine ⟨[e, f, g], fun j v hv => r j v ?_, l, h.1, h.2.1, h.2.2.1, trivial⟩
    have hj : j < 15 := (List.getElem?_eq_some_iff.1 hv).1
    show (cl5 e ++ (cl5 f ++ (cl5 g ++ clN es)))[j]? = some v
    have e1 : cl5 e ++ (cl5 f ++ (cl5 g ++ clN es)) = clN [e, f, g] ++ clN es := by simp [clN]
    rw [e1, List.getElem?_append_left (by show j < 15; exact hj)]
    exact hv
  | [], h => exact h.elim
  | [_], h => exact h.2.elim
  | [_, _], h => exact h.2.2.elim
theorem rowN_new (W : World) (t : TypeId) {es : List (Nat → Int)} {As : List Int} (h : IsN es As) : RowN (W.alloc (.cells (clN es).toArray t)) W.heap.size 0 As := by
  have e : (W.alloc (.cells (clN es).toArray t)).heap[W.heap.size]? = some (.cells (clN es).toArray t) := heap_alloc_last _ _
  refine ⟨es, fun j v hv => ?_, by simp, h⟩
  unfold World.cell?
  simp only
  rw [e]
  simpa using hv
theorem set_rowN {W : World} {q : Nat} {es : List (Nat → Int)} {As : List Int} (th : W.there q 0 (5 * As.length)) (ha : 0 < As.length) (h : IsN es As) : RowN (W.setCells q 0 (clN es)) q 0 As :=
  ⟨es, World.rangeAt_setCells_same W q 0 _ (by rw [clN_len h]; exact th), by rw [heap_size_setCells]; exact there_lt (by omega) th, h⟩
theorem IsN.cg : ∀ {es : List (Nat → Int)} {As Bs : List Int}, IsN es As → As.map (· % PP) = Bs.map (· % PP) → IsN es Bs
  | [], [], [], _, _ => trivial
  | e :: es, A :: As, B :: Bs, h, k => by
    simp only [List.map_cons, List.cons.injEq] at k
    exact ⟨⟨h.1.1, h.1.2.trans k.1⟩, IsN.cg h.2 k.2⟩
  | [], [], _ :: _, _, k => by simp at k
  | _ :: _, _ :: _, [], _, k => by simp at k
  | [], _ :: _, _, h, _ => h.elim
  | _ :: _, [], _, h, _ => h.elim
theorem isN3 {es : List (Nat → Int)} {A B C : Int} (h : IsN es [A, B, C]) : ∃ x y z, es = [x, y, z] ∧ Is5 x A ∧ Is5 y B ∧ Is5 z C := by
  match es, h with
  | [x, y, z], h => exact ⟨x, y, z, rfl, h.1, h.2.1, h.2.2.1⟩
  | [], h => exact h.elim
  | [_], h => exact h.2.elim
  | [_, _], h => exact h.2.2.elim
  | _ :: _ :: _ :: _ :: _, h => exact h.2.2.2.elim
theorem isN2 {es : List (Nat → Int)} {A B : Int} (h : IsN es [A, B]) : ∃ x y, es = [x, y] ∧ Is5 x A ∧ Is5 y B := by
  match es, h with
  | [x, y], h => exact ⟨x, y, rfl, h.1, h.2.1⟩
  | [], h => exact h.elim
  | [_], h => exact h.2.elim
  | _ :: _ :: _ :: _, h => exact h.2.2.elim
theorem isN4 {es : List (Nat → Int)} {A B C D : Int} (h : IsN es [A, B, C, D]) : ∃ x y z t, es = [x, y, z, t] ∧ Is5 x A ∧ Is5 y B ∧ Is5 z C ∧ Is5 t D := by
  match es, h with
  | [x, y, z, t], h => exact ⟨x, y, z, t, rfl, h.1, h.2.1, h.2.2.1, h.2.2.2.1⟩
  | [], h => exact h.elim
  | [_], h => exact h.2.elim
  | [_, _], h => exact h.2.2.elim
  | [_, _, _], h => exact h.2.2.2.elim
  | _ :: _ :: _ :: _ :: _ :: _, h => exact h.2.2.2.2.elim
theorem buA (e f : Nat → Int) (w : World) : (Instr.build 103 #[(0, ag5 e), (1, ag5 f)]).run Tryz.prog w = .ok (agN [e, f]) w := by kernel_rfl
theorem buRN (e f : Nat → Int) (w : World) : (Instr.build 215 #[(0, ag5 e), (1, ag5 f)]).run Tryz.prog w = .ok (agN [e, f]) w := by kernel_rfl
theorem buPr (e f g : Nat → Int) (w : World) : (Instr.build 188 #[(0, ag5 e), (1, ag5 f), (2, ag5 g)]).run Tryz.prog w = .ok (agN [e, f, g]) w := by kernel_rfl
theorem buXt (e f g t : Nat → Int) (w : World) : (Instr.build 190 #[(0, agN [e, f, g]), (1, ag5 t)]).run Tryz.prog w = .ok (agN [e, f, g, t]) w := by kernel_rfl
theorem fxA (q : Nat) (w : World) : (Instr.fieldAt 103 (.pointer (some ⟨q, 0, none⟩)) 0).run Tryz.prog w = .ok (.pointer (some ⟨q, 0, none⟩)) w := by kernel_rfl
theorem fyA (q : Nat) (w : World) : (Instr.fieldAt 103 (.pointer (some ⟨q, 0, none⟩)) 1).run Tryz.prog w = .ok (.pointer (some ⟨q, 5, none⟩)) w := by kernel_rfl
theorem fxJ (q : Nat) (w : World) : (Instr.fieldAt 188 (.pointer (some ⟨q, 0, none⟩)) 0).run Tryz.prog w = .ok (.pointer (some ⟨q, 0, none⟩)) w := by kernel_rfl
theorem fyJ (q : Nat) (w : World) : (Instr.fieldAt 188 (.pointer (some ⟨q, 0, none⟩)) 1).run Tryz.prog w = .ok (.pointer (some ⟨q, 5, none⟩)) w := by kernel_rfl
theorem fzJ (q : Nat) (w : World) : (Instr.fieldAt 188 (.pointer (some ⟨q, 0, none⟩)) 2).run Tryz.prog w = .ok (.pointer (some ⟨q, 10, none⟩)) w := by kernel_rfl
theorem fpX (q : Nat) (w : World) : (Instr.fieldAt 190 (.pointer (some ⟨q, 0, none⟩)) 0).run Tryz.prog w = .ok (.pointer (some ⟨q, 0, none⟩)) w := by kernel_rfl
theorem ftX (q : Nat) (w : World) : (Instr.fieldAt 190 (.pointer (some ⟨q, 0, none⟩)) 1).run Tryz.prog w = .ok (.pointer (some ⟨q, 15, none⟩)) w := by kernel_rfl
theorem iA : (Tryz.prog.info? 103).map (·.size) = some 10 := by kernel_rfl
theorem iJ : (Tryz.prog.info? 188).map (·.size) = some 15 := by kernel_rfl
theorem iX : (Tryz.prog.info? 190).map (·.size) = some 20 := by kernel_rfl
theorem uA : ∃ fs, Tryz.prog.underlying 103 = some (.struct fs) := ⟨_, Tryz.underlying103⟩
theorem uJ : ∃ fs, Tryz.prog.underlying 188 = some (.struct fs) := ⟨_, Tryz.underlying188⟩
theorem uX : ∃ fs, Tryz.prog.underlying 190 = some (.struct fs) := ⟨_, Tryz.underlying190⟩
section
variable {ops : Array Oper} {Q : Exit → Act → World → Prop} {md : Region.Mode} {F : Nat → Fact} {a0 : Act} {w0 : World} {i : Nat} {o : Oper} {ts : Array TypeId}
theorem step_en (ty : TypeId) (d : TypeDesc) (n : Nat) (hu : Tryz.prog.underlying ty = some d) (hd : d.isRow = true) (hs : (Tryz.prog.info? ty).map (·.size) = some n) (hi : ops[i]? = some o) (p : Nat) (hop : o.op = .load ty (.tmp p)) (hp : apart ops p = true) (q off : Nat) (h0 : a0.tmps.getD p undef = .pointer (some ⟨q, off, none⟩)) (As : List Int) (hn : 5 * As.length = n) (hE : RowN w0 q off As) (hF : F i = EN As) : StepOk Tryz.prog md ops Q F a0 w0 i := by
  refine step_load hi _ _ hop d n hu hd hs fun a w hb hw _ => ?_
  obtain ⟨t, r, _, h⟩ := hE.up hw
  exact ⟨q, off, _, (based_at hb p hp).trans h0, r, (clN_len h).trans hn, by rw [hF]; exact ⟨t, rfl, h⟩⟩
theorem step_enf (ty : TypeId) (d : TypeDesc) (n : Nat) (hu : Tryz.prog.underlying ty = some d) (hd : d.isRow = true) (hs : (Tryz.prog.info? ty).map (·.size) = some n) (hi : ops[i]? = some o) (p j : Nat) (hop : o.op = .load ty (.tmp p)) (hj : waits md ops i j p = true) (q off : Nat) (hFj : F j = Fact.eq (.pointer (some ⟨q, off, none⟩))) (As : List Int) (hn : 5 * As.length = n) (hE : RowN w0 q off As) (hF : F i = EN As) : StepOk Tryz.prog md ops Q F a0 w0 i := by
  refine step_load hi _ _ hop d n hu hd hs fun a w _ hw hf => ?_
  obtain ⟨t, r, _, h⟩ := hE.up hw
  have e := hf j p hj
  rw [hFj] at e
  exact ⟨q, off, _, e, r, (clN_len h).trans hn, by rw [hF]; exact ⟨t, rfl, h⟩⟩
theorem step_bA (hi : ops[i]? = some o) (p q j k : Nat) (A B : Int) (hop : o.op = .build 103 #[(0, .tmp p), (1, .tmp q)])
    (hj : waits md ops i j p = true) (hk : waits md ops i k q = true) (hFj : F j = EM A) (hFk : F k = EM B) (hFi : F i = EN [A, B]) : StepOk Tryz.prog md ops Q F a0 w0 i := by
  refine step_pure hi fun a w _ _ hf => ?_
  have h1 := hf j p hj
  have h2 := hf k q hk
  rw [hFj] at h1
  rw [hFk] at h2
  obtain ⟨x, e1, X⟩ := h1
  obtain ⟨y, e2, Y⟩ := h2
  refine ⟨agN [x, y], ?_, by rw [hFi]; exact ⟨[x, y], rfl, X, Y, trivial⟩⟩
  have g1 : a.eval (.tmp p) = ag5 x := e1
  have g2 : a.eval (.tmp q) = ag5 y := e2
  have g : (#[(0, Operand.tmp p), (1, Operand.tmp q)].map fun (n, x) => (n, a.eval x)) = #[(0, ag5 x), (1, ag5 y)] := by simp [g1, g2]
  simp only [execOp, hop, g]
  rw [Sem.run_bind, buA]
  rfl
theorem step_bR (hi : ops[i]? = some o) (p q j k : Nat) (A B : Int) (hop : o.op = .build 215 #[(0, .tmp p), (1, .tmp q)])
    (hj : waits md ops i j p = true) (hk : waits md ops i k q = true) (hFj : F j = EM A) (hFk : F k = EM B) (hFi : F i = EN [A, B]) : StepOk Tryz.prog md ops Q F a0 w0 i := by
  refine step_pure hi fun a w _ _ hf => ?_
  have h1 := hf j p hj
  have h2 := hf k q hk
  rw [hFj] at h1
  rw [hFk] at h2
  obtain ⟨x, e1, X⟩ := h1
  obtain ⟨y, e2, Y⟩ := h2
  refine ⟨agN [x, y], ?_, by rw [hFi]; exact ⟨[x, y], rfl, X, Y, trivial⟩⟩
  have g1 : a.eval (.tmp p) = ag5 x := e1
  have g2 : a.eval (.tmp q) = ag5 y := e2
  have g : (#[(0, Operand.tmp p), (1, Operand.tmp q)].map fun (n, x) => (n, a.eval x)) = #[(0, ag5 x), (1, ag5 y)] := by simp [g1, g2]
  simp only [execOp, hop, g]
  rw [Sem.run_bind, buRN]
  rfl
theorem step_bP (hi : ops[i]? = some o) (p q r j k l : Nat) (A B C : Int) (hop : o.op = .build 188 #[(0, .tmp p), (1, .tmp q), (2, .tmp r)])
    (hj : waits md ops i j p = true) (hk : waits md ops i k q = true) (hl : waits md ops i l r = true) (hFj : F j = EM A) (hFk : F k = EM B) (hFl : F l = EM C) (hFi : F i = EN [A, B, C]) : StepOk Tryz.prog md ops Q F a0 w0 i := by
  refine step_pure hi fun a w _ _ hf => ?_
  have h1 := hf j p hj
  have h2 := hf k q hk
  have h3 := hf l r hl
  rw [hFj] at h1
  rw [hFk] at h2
  rw [hFl] at h3
  obtain ⟨x, e1, X⟩ := h1
  obtain ⟨y, e2, Y⟩ := h2
  obtain ⟨z, e3, Z⟩ := h3
  refine ⟨agN [x, y, z], ?_, by rw [hFi]; exact ⟨[x, y, z], rfl, X, Y, Z, trivial⟩⟩
  have g1 : a.eval (.tmp p) = ag5 x := e1
  have g2 : a.eval (.tmp q) = ag5 y := e2
  have g3 : a.eval (.tmp r) = ag5 z := e3
  have g : (#[(0, Operand.tmp p), (1, Operand.tmp q), (2, Operand.tmp r)].map fun (n, x) => (n, a.eval x)) = #[(0, ag5 x), (1, ag5 y), (2, ag5 z)] := by simp [g1, g2, g3]
  simp only [execOp, hop, g]
  rw [Sem.run_bind, buPr]
  rfl
theorem step_bX (hi : ops[i]? = some o) (p q j k : Nat) (A B C T : Int) (hop : o.op = .build 190 #[(0, .tmp p), (1, .tmp q)])
    (hj : waits md ops i j p = true) (hk : waits md ops i k q = true) (hFj : F j = EN [A, B, C]) (hFk : F k = EM T) (hFi : F i = EN [A, B, C, T]) : StepOk Tryz.prog md ops Q F a0 w0 i := by
  refine step_pure hi fun a w _ _ hf => ?_
  have h1 := hf j p hj
  have h2 := hf k q hk
  rw [hFj] at h1
  rw [hFk] at h2
  obtain ⟨xs, e1, X⟩ := h1
  obtain ⟨t, e2, Y⟩ := h2
  obtain ⟨x, y, z, rfl, hx, hy, hz⟩ := isN3 X
  refine ⟨agN [x, y, z, t], ?_, by rw [hFi]; exact ⟨[x, y, z, t], rfl, hx, hy, hz, Y, trivial⟩⟩
  have g1 : a.eval (.tmp p) = agN [x, y, z] := e1
  have g2 : a.eval (.tmp q) = ag5 t := e2
  have g : (#[(0, Operand.tmp p), (1, Operand.tmp q)].map fun (n, x) => (n, a.eval x)) = #[(0, agN [x, y, z]), (1, ag5 t)] := by simp [g1, g2]
  simp only [execOp, hop, g]
  rw [Sem.run_bind, buXt]
  rfl
theorem step_oneN (hi : ops[i]? = some o) (n : FuncId) (p : Nat) (hop : o.op = .call { callee := .value (.func n), args := #[.tmp p], argTypes := ts }) (he : enters Tryz.prog n = true)
    (j : Nat) (As Bs : List Int) (law : ∀ (w : World) (es : List (Nat → Int)), Below w0.heap.size w0 w → IsN es As → Calls Tryz.prog n #[agN es] w fun r w' => ∃ t, r = .returned (agN t) ∧ IsN t Bs ∧ Below w.heap.size w w')
    (hj : waits md ops i j p = true) (hFj : F j = EN As) (hFi : F i = EN Bs) : StepOk Tryz.prog md ops Q F a0 w0 i := by
  refine step_call hi n _ ts hop he fun a w _ hw hF => ?_
  have ea := hF j p hj
  rw [hFj] at ea
  obtain ⟨t, e1, L1⟩ := ea
  show Calls Tryz.prog n #[a.tmps.getD p undef] w _
  rw [e1]
  refine (law w t hw L1).mono ?_
  rintro r w' ⟨s, rfl, L, hn⟩
  rw [hFi]
  exact ⟨_, rfl, hn, s, rfl, L⟩
theorem step_twoN (hi : ops[i]? = some o) (n : FuncId) (p q : Nat) (hop : o.op = .call { callee := .value (.func n), args := #[.tmp p, .tmp q], argTypes := ts }) (he : enters Tryz.prog n = true)
    (j k : Nat) (As Bs Cs : List Int) (law : ∀ (w : World) (es fs : List (Nat → Int)), Below w0.heap.size w0 w → IsN es As → IsN fs Bs → Calls Tryz.prog n #[agN es, agN fs] w fun r w' => ∃ t, r = .returned (agN t) ∧ IsN t Cs ∧ Below w.heap.size w w')
    (hj : waits md ops i j p = true) (hk : waits md ops i k q = true) (hFj : F j = EN As) (hFk : F k = EN Bs) (hFi : F i = EN Cs) : StepOk Tryz.prog md ops Q F a0 w0 i := by
  refine step_call hi n _ ts hop he fun a w _ hw hF => ?_
  have ea := hF j p hj
  have eb := hF k q hk
  rw [hFj] at ea
  rw [hFk] at eb
  obtain ⟨t, e1, L1⟩ := ea
  obtain ⟨u, e2, L2⟩ := eb
  show Calls Tryz.prog n #[a.tmps.getD p undef, a.tmps.getD q undef] w _
  rw [e1, e2]
  refine (law w t u hw L1 L2).mono ?_
  rintro r w' ⟨s, rfl, L, hn⟩
  rw [hFi]
  exact ⟨_, rfl, hn, s, rfl, L⟩
end
section
variable {ops : Array Oper} {Q : Exit → Act → World → Prop} {a0 : Act} {w : World} {id : Nat} {draw : Bool}
theorem region_putN (ty : TypeId) (k jV pD pV : Nat) (o : Oper) (F : Nat → Fact) (As : List Int) (q : Nat) (hT : textOk .any ops a0.tmps.size k = true) (hk : ops[k]? = some o) (hd : o.dst = none) (hop : o.op = .store ty (.tmp pD) (.tmp pV)) (hs : (Tryz.prog.info? ty).map (·.size) = some (5 * As.length)) (ha : 0 < As.length)
    (hp : apart ops pD = true) (h0 : a0.tmps.getD pD undef = .pointer (some ⟨q, 0, none⟩)) (ht : w.there q 0 (5 * As.length)) (wV : writes ops jV pV = true) (FV : F jV = EN As) (steps : ∀ i, i < k → StepOk Tryz.prog .any ops Q F a0 w i)
    (fin : ∀ (vs : Nat → Value) (W W' : World), Below w.heap.size w W → ButQ q w W' → RowN W' q 0 As → (∀ (w1 : World) (B : Nat), Below B w1 W → B ≤ q → Below B w1 W') → W'.there q 0 (5 * As.length) → Q .normal (puts vs a0 ops.toList) W') :
    (Code.region id ops draw).wp Tryz.prog Q a0 w := by
  refine region_store k o F (by kernel_rfl) hT hk hd steps fun a W hb hw hF => ?_
  have h2 := hF jV pV wV
  rw [FV] at h2
  obtain ⟨es, ev, V⟩ := h2
  have th := there_up (by omega) ht hw
  refine wp_store_mid ty (.tmp pD) (.tmp pV) hop q 0 (clN es).toArray ((based_at hb pD hp).trans h0) ev (by show W.there q 0 (clN es).length; rw [clN_len V]; exact th) (by show _ = some (clN es).length; rw [clN_len V]; exact hs) (clN_one es) ?_
  obtain ⟨vs, hvs⟩ : ∃ vs : Nat → Value, ∀ d, a.tmps.getD d undef = vs d := ⟨_, fun _ => rfl⟩
  rw [hd]
  show Q .normal a _
  rw [puts_of hT rfl hb vs hvs]
  exact fin vs W _ hw (but_set hw _) (set_rowN th ha V) (fun w1 B n hB => below_setCells hB _ _ _ n) (World.there_setCells th _ _ _)
end
end Go.Proofs.YthonlkghkdjagaaGreatDoor
namespace Go.Proofs.YthonlkghkdjagaaGreatDoor
set_option maxRecDepth 100000
open Go Go.RowKit
def mlP (n : Nat) (p : Int × Int) : Int × Int := emul (-1) d0 einv n p
def Ext (es : List (Nat → Int)) (q : Int × Int) : Prop := ∃ X Y Z T, IsN es [X, Y, Z, T] ∧ Ex X Y Z T q
theorem IsN.len : ∀ {es : List (Nat → Int)} {As : List Int}, IsN es As → es.length = As.length
  | [], [], _ => rfl
  | _ :: _, _ :: _, h => by simp [IsN.len h.2]
  | [], _ :: _, h => h.elim
  | _ :: _, [], h => h.elim
theorem Ext.len {es : List (Nat → Int)} {q : Int × Int} (h : Ext es q) : es.length = 4 := by
  obtain ⟨X, Y, Z, T, h, _⟩ := h
  exact h.len
theorem Ext.cg {es : List (Nat → Int)} {q q' : Int × Int} (h : Ext es q) (e : Pe PP q q') : Ext es q' := by
  obtain ⟨X, Y, Z, T, h, k⟩ := h
  exact ⟨X, Y, Z, T, h, k.cg e⟩
theorem mlP_on {p : Int × Int} (hp : OnP PP (-1) d0 p) (n : Nat) : OnP PP (-1) d0 (mlP n p) := emul_on crv1 hp n
theorem mlP_add {p : Int × Int} (hp : OnP PP (-1) d0 p) (m n : Nat) : Pe PP (eadd (-1) d0 einv (mlP m p) (mlP n p)) (mlP (m + n) p) := (emul_add crv1 hp m n).symm
theorem mlP_one {p : Int × Int} (hp : OnP PP (-1) d0 p) : Pe PP (mlP 1 p) p := by
  have z : OnP PP (-1) d0 (0, 1) := emul_on crv1 hp 0
  show Pe PP (eadd (-1) d0 einv (0, 1) p) p
  exact (eadd_comm crv1 z hp).trans (eadd_zero crv1 hp)
theorem clN_app : ∀ (a b : List (Nat → Int)), clN (a ++ b) = clN a ++ clN b
  | [], _ => rfl
  | e :: a, b => by
    show cl5 e ++ clN (a ++ b) = (cl5 e ++ clN a) ++ clN b
    rw [clN_app a b, List.append_assoc]
theorem clN_size : ∀ (a : List (Nat → Int)), (clN a).length = 5 * a.length
  | [] => rfl
  | e :: a => by
    show (cl5 e ++ clN a).length = _
    rw [List.length_append, clN_size a]
    simp [cl5]
    omega
def prt (es : List (Nat → Int)) (i : Nat) : List (Nat → Int) := (es.drop (4 * i)).take 4
def putP (es fs : List (Nat → Int)) (i : Nat) : List (Nat → Int) := es.take (4 * i) ++ (fs ++ es.drop (4 * i + 4))
theorem prt_split {es : List (Nat → Int)} {i : Nat} : es = es.take (4 * i) ++ (prt es i ++ es.drop (4 * i + 4)) := by
  unfold prt
  rw [← List.drop_drop, List.take_append_drop, List.take_append_drop]
theorem prt_len {es : List (Nat → Int)} (h : es.length = 64) {i : Nat} (hi : i < 16) : (prt es i).length = 4 := by
  unfold prt
  rw [List.length_take, List.length_drop]
  omega
theorem putP_len {es fs : List (Nat → Int)} (h : es.length = 64) (hf : fs.length = 4) {i : Nat} (hi : i < 16) : (putP es fs i).length = 64 := by
  unfold putP
  rw [List.length_append, List.length_append, List.length_take, List.length_drop]
  omega
theorem prt_put {es fs : List (Nat → Int)} (h : es.length = 64) (hf : fs.length = 4) {i : Nat} (hi : i < 16) : prt (putP es fs i) i = fs := by
  unfold prt putP
  have e : (es.take (4 * i)).length = 4 * i := by rw [List.length_take]; omega
  rw [List.drop_append_of_le_length (by omega), List.drop_eq_nil_of_le (by omega), List.nil_append, List.take_append_of_le_length (by omega), List.take_of_length_le (by omega)]
theorem prt_put_ne {es fs : List (Nat → Int)} (h : es.length = 64) {i j : Nat} (hi : i < 16) (hj : j < i) : prt (putP es fs i) j = prt es j := by
  unfold prt putP
  have e : (es.take (4 * i)).length = 4 * i := by rw [List.length_take]; omega
  rw [List.drop_append_of_le_length (by omega), List.take_append_of_le_length (by rw [List.length_drop]; omega), List.drop_take, List.take_take, Nat.min_eq_left (by omega)]
def MulL (es : List (Nat → Int)) (k : Nat) (p : Int × Int) : Prop := es.length = 64 ∧ ∀ i, i < k → Ext (prt es i) (mlP i p)
theorem MulL.put {es fs : List (Nat → Int)} {k : Nat} {p : Int × Int} (h : MulL es k p) (hk : k < 16) (hf : Ext fs (mlP k p)) : MulL (putP es fs k) (k + 1) p := by
  refine ⟨putP_len h.1 hf.len hk, fun i hi => ?_⟩
  by_cases e : i = k
  · subst e
    rw [prt_put h.1 hf.len hk]
    exact hf
  · rw [prt_put_ne h.1 hk (by omega)]
    exact h.2 i (by omega)
theorem range_of_app {W : World} {q o : Nat} {a b : List Value} (h : W.rangeAt q o (a ++ b)) : W.rangeAt q o a ∧ W.rangeAt q (o + a.length) b := by
  refine ⟨fun j v hv => h j v ?_, fun j v hv => ?_⟩
  · rw [List.getElem?_append_left (List.getElem?_eq_some_iff.1 hv).1]
    exact hv
  · have := h (a.length + j) v (by rw [List.getElem?_append_right (by omega), Nat.add_sub_cancel_left]; exact hv)
    rwa [← Nat.add_assoc] at this
theorem range_app {W : World} {q o : Nat} {a b : List Value} (h : W.rangeAt q o a) (k : W.rangeAt q (o + a.length) b) : W.rangeAt q o (a ++ b) := by
  intro j v hv
  by_cases c : j < a.length
  · rw [List.getElem?_append_left c] at hv
    exact h j v hv
  · rw [List.getElem?_append_right (by omega)] at hv
    have := k _ v hv
    rwa [show o + a.length + (j - a.length) = o + j by omega] at this
theorem row_part {W : World} {q : Nat} {es : List (Nat → Int)} (h : W.rangeAt q 0 (clN es)) (hl : es.length = 64) {i : Nat} (hi : i < 16) : W.rangeAt q (20 * i) (clN (prt es i)) := by
  have e := prt_split (es := es) (i := i)
  rw [e, clN_app, clN_app] at h
  have h1 := (range_of_app h).2
  have h2 := (range_of_app h1).1
  rw [clN_size, List.length_take, Nat.min_eq_left (by omega)] at h2
  rwa [show 0 + 5 * (4 * i) = 20 * i by omega] at h2
theorem row_put {W : World} {q : Nat} {es fs : List (Nat → Int)} (th : W.there q 0 320) (h : W.rangeAt q 0 (clN es)) (hl : es.length = 64) (hf : fs.length = 4) {i : Nat} (hi : i < 16) : (W.setCells q (20 * i) (clN fs)).rangeAt q 0 (clN (putP es fs i)) := by
  have e := prt_split (es := es) (i := i)
  rw [e, clN_app, clN_app] at h
  have h1 := (range_of_app h).2
  have h0 := (range_of_app h).1
  have h2 := (range_of_app h1).2
  have lt : (clN (es.take (4 * i))).length = 20 * i := by rw [clN_size, List.length_take, Nat.min_eq_left (by omega)]; omega
  have lp : (clN (prt es i)).length = 20 := by rw [clN_size, prt_len hl hi]
  have lf : (clN fs).length = 20 := by rw [clN_size, hf]
  unfold putP
  rw [clN_app, clN_app]
  refine range_app ?_ (range_app ?_ ?_)
  · exact World.rangeAt_setCells_apart h0 q (20 * i) (clN fs) (.inr (.inl (by omega)))
  · rw [lt, Nat.zero_add]
    refine World.rangeAt_setCells_same W q (20 * i) _ fun j hj => ?_
    have := th (20 * i + j) (by omega)
    rwa [Nat.zero_add] at this
  · rw [lt] at h2 ⊢
    rw [lp] at h2
    rw [lf]
    exact World.rangeAt_setCells_apart h2 q (20 * i) (clN fs) (.inr (.inr (by omega)))
def zl5 : Nat → Int := fun _ => 0
theorem dgt_words {W : Nat → Int} (hW : W4 W) {v : Nat} (hv : wval W = (v : Int)) {pl : Nat} (h : pl < 64) : W (pl / 16) / 2 ^ (4 * (pl % 16)) % 16 = ((v / 16 ^ pl % 16 : Nat) : Int) := by
  have key : ∃ (m t : Nat), W (pl / 16) = (m : Int) ∧ v / 2 ^ (64 * (pl / 16)) = m + 2 ^ 64 * t := by
    obtain ⟨n0, h0⟩ := Int.eq_ofNat_of_zero_le (hW 0 (by omega)).1
    obtain ⟨n1, h1⟩ := Int.eq_ofNat_of_zero_le (hW 1 (by omega)).1
    obtain ⟨n2, h2⟩ := Int.eq_ofNat_of_zero_le (hW 2 (by omega)).1
    obtain ⟨n3, h3⟩ := Int.eq_ofNat_of_zero_le (hW 3 (by omega)).1
    have b0 := (hW 0 (by omega)).2
    have b1 := (hW 1 (by omega)).2
    have b2 := (hW 2 (by omega)).2
    have b3 := (hW 3 (by omega)).2
    unfold wval at hv
    rw [h0, h1, h2, h3] at hv
    rw [h0] at b0
    rw [h1] at b1
    rw [h2] at b2
    rw [h3] at b3
    obtain e | e | e | e : pl / 16 = 0 ∨ pl / 16 = 1 ∨ pl / 16 = 2 ∨ pl / 16 = 3 := by omega
    · exact ⟨n0, n1 + n2 * 18446744073709551616 + n3 * 340282366920938463463374607431768211456, by rw [e]; exact h0, by rw [e]; simp only [Nat.mul_zero, Nat.pow_zero, Nat.div_one, Nat.reducePow]; omega⟩
    · exact ⟨n1, n2 + n3 * 18446744073709551616, by rw [e]; exact h1, by rw [e]; simp only [Nat.mul_one, Nat.reducePow]; omega⟩
    · exact ⟨n2, n3, by rw [e]; exact h2, by rw [e]; simp only [Nat.reduceMul, Nat.reducePow]; omega⟩
    · exact ⟨n3, 0, by rw [e]; exact h3, by rw [e]; simp only [Nat.reduceMul, Nat.reducePow]; omega⟩
  obtain ⟨m, t, e1, e2⟩ := key
  have e3 : (16 : Nat) ^ pl = 2 ^ (64 * (pl / 16)) * 2 ^ (4 * (pl % 16)) := by
    rw [show (16 : Nat) = 2 ^ 4 from rfl, ← Nat.pow_mul, ← Nat.pow_add]
    congr 1
    omega
  rw [e1, e3, ← Nat.div_div_eq_div_mul, e2]
  have r16 : pl % 16 < 16 := by omega
  generalize pl % 16 = r at *
  have e4 : (2 : Nat) ^ 64 * t = 2 ^ (4 * r) * (16 * (2 ^ (60 - 4 * r) * t)) := by
    have e5 : (2 : Nat) ^ 64 = 2 ^ (4 * r) * (16 * 2 ^ (60 - 4 * r)) := by
      rw [show (16 : Nat) = 2 ^ 4 from rfl, ← Nat.pow_add, ← Nat.pow_add]
      congr 1
      omega
    rw [e5]
    simp only [Nat.mul_assoc]
  rw [e4, Nat.add_mul_div_left _ _ (Nat.two_pow_pos _), Nat.add_mul_mod_self_left]
  rw [Int.natCast_emod, Int.natCast_ediv, Int.natCast_pow]
  rfl
theorem mrg_ok (b : Bool) (x y : Int) (hx : 0 ≤ x ∧ x < 18446744073709551616) (hy : 0 ≤ y ∧ y < 18446744073709551616) (h0 : b = true → x = 0) :
    bits BinOp.or IntKind.u64 x (bits BinOp.and IntKind.u64 y (mask b)) = if b = true then y else x := by
  obtain ⟨m, rfl⟩ := Int.eq_ofNat_of_zero_le hx.1
  obtain ⟨n, rfl⟩ := Int.eq_ofNat_of_zero_le hy.1
  have hm : m < 18446744073709551616 := by omega
  have hn : n < 18446744073709551616 := by omega
  cases b
  · have e : bits BinOp.and IntKind.u64 (n : Int) (mask false) = ((0 : Nat) : Int) := by
      unfold mask
      rw [if_neg (by simp), show (0 : Int) = ((0 : Nat) : Int) from rfl, bits_and_u64_nat _ 0 hn (by omega), Nat.and_zero]
    rw [e, bits_or_u64_nat m 0 hm (by omega), Nat.or_zero]
    simp
  · have e : bits BinOp.and IntKind.u64 (n : Int) (mask true) = ((n : Nat) : Int) := by
      unfold mask
      rw [if_pos rfl, show (18446744073709551615 : Int) = ((18446744073709551615 : Nat) : Int) from rfl, bits_and_u64_nat _ _ hn (by omega)]
      congr 1
      rw [show (18446744073709551615 : Nat) = 2 ^ 64 - 1 from rfl, Nat.and_two_pow_sub_one_eq_mod, Nat.mod_eq_of_lt hn]
    have z : m = 0 := by have := h0 rfl; omega
    subst z
    rw [e, bits_or_u64_nat 0 n (by omega) hn, Nat.zero_or]
    simp
theorem xor_zero {i d : Nat} (h : i ^^^ d = 0) : i = d := by
  have : i ^^^ d ^^^ d = 0 ^^^ d := by rw [h]
  rwa [Nat.xor_assoc, Nat.xor_self, Nat.xor_zero, Nat.zero_xor] at this
theorem msk_ok (i d : Nat) (hi : i < 16) (hd : d < 16) : ∃ x : Nat, bits BinOp.xor IntKind.u64 (i : Int) (d : Int) = (x : Int) ∧ x < 16 ∧ (x = 0 ↔ i = d) := by
  refine ⟨i ^^^ d, bits_xor_u64_nat i d (by omega) (by omega), Nat.xor_lt_two_pow (n := 4) hi hd, ⟨xor_zero, fun h => ?_⟩⟩
  subst h
  exact Nat.xor_self i
end Go.Proofs.YthonlkghkdjagaaGreatDoor
namespace Go.Proofs.YthonlkghkdjagaaGreatDoor
set_option maxRecDepth 100000
open Go Go.RowKit
structure Mg (w wr : World) (q o : Nat) (y : Nat → Int) : Prop where
  at5 : ∀ j, j < 5 → wr.cell? ⟨q, o + j, none⟩ = some (.int .u64 (y j))
  off : ∀ j, j < o ∨ o + 5 ≤ j → wr.cell? ⟨q, j, none⟩ = w.cell? ⟨q, j, none⟩
  fr : ∀ j, wr.frozen? ⟨q, j, none⟩ = w.frozen? ⟨q, j, none⟩
  only : Only q w wr
theorem Mg.refl {w : World} {q o : Nat} {y : Nat → Int} (h : ∀ j, j < 5 → w.cell? ⟨q, o + j, none⟩ = some (.int .u64 (y j))) : Mg w w q o y := ⟨h, fun _ _ => rfl, fun _ => rfl, Only.refl _ _⟩
theorem Mg.store {w wr : World} {q o : Nat} {y : Nat → Int} (h : Mg w wr q o y) (k : Nat) (hk : k < 5) (z : Int) (n : Nat) : Mg w ((wr.drewN n).setCell ⟨q, o + k, none⟩ (.int .u64 z)) q o (fun j => if j = k then z else y j) := by
  have h' : ∀ a, (wr.drewN n).cell? a = wr.cell? a := fun _ => rfl
  refine ⟨fun j hj => ?_, fun j hj => ?_, fun j => ?_, h.only.trans ((Only.drewN wr q n).trans (Only.setCell _ _ _ _))⟩
  · by_cases e : j = k
    · subst e
      rw [World.cell?_setCell_same _ _ _ ((h' _).trans (h.at5 j hj)), if_pos rfl]
    · have hne : (⟨q, o + k, none⟩ : Addr) ≠ ⟨q, o + j, none⟩ := fun h => e (by simp only [Addr.mk.injEq, true_and, and_true] at h; omega)
      rw [World.cell?_setCell_other (h := hne), h', if_neg e]
      exact h.at5 j hj
  · have hne : (⟨q, o + k, none⟩ : Addr) ≠ ⟨q, j, none⟩ := fun h => (by simp only [Addr.mk.injEq, true_and, and_true] at h; omega)
    rw [World.cell?_setCell_other (h := hne), h']
    exact h.off j hj
  · rw [World.frozen?_setCell]
    exact h.fr j
theorem Mg.cg {w wr : World} {q o : Nat} {y z : Nat → Int} (h : Mg w wr q o y) (e : ∀ j, j < 5 → y j = z j) : Mg w wr q o z := ⟨fun j hj => by rw [← e j hj]; exact h.at5 j hj, h.off, h.fr, h.only⟩
def mgd (b : Bool) (x e : Nat → Int) (j : Nat) : Int := if b = true then e j else x j
def mgk (b : Bool) (k : Nat) (x e : Nat → Int) (j : Nat) : Int := if j < k then mgd b x e j else x j
set_option maxHeartbeats 4000000 in
theorem merge_any (w : World) (q o : Nat) (b : Bool) (x e : Nat → Int) (hx : ∀ j, j < 5 → w.cell? ⟨q, o + j, none⟩ = some (.int .u64 (x j))) (hf : ∀ j, w.frozen? ⟨q, j, none⟩ = false) (bx : ∀ j, j < 5 → 0 ≤ x j ∧ x j < 18446744073709551616) (be : ∀ j, j < 5 → 0 ≤ e j ∧ e j < 18446744073709551616) (h0 : b = true → ∀ j, j < 5 → x j = 0) :
    Calls Tryz.prog 170 #[.pointer (some ⟨q, o, none⟩), ag5 e, .int .u64 (mask b)] w fun r w' => r = .returned (.tuple #[]) ∧ ∃ w1, Below w.heap.size w w1 ∧ Mg w1 w' q o (mgd b x e) := by
  have lq : q < w.heap.size := block_lt_of_cell (hx 0 (by omega))
  have n0 : Below w.heap.size w (w.alloc (.cells (cl5 e).toArray 101)) := (Below.refl _ _).alloc (Nat.le_refl _) _
  have M0 : Mg (w.alloc (.cells (cl5 e).toArray 101)) (w.alloc (.cells (cl5 e).toArray 101)) q o x := Mg.refl fun j hj => (World.cell?_of_block (a := ⟨q, o + j, none⟩) (n0.block q lq)).trans (hx j hj)
  have F0 : ∀ j, (w.alloc (.cells (cl5 e).toArray 101)).frozen? ⟨q, j, none⟩ = false := fun j => (World.frozen?_of_block (a := ⟨q, j, none⟩) (n0.block q lq)).trans (hf j)
  have E0 : ∀ j, j < 5 → (w.alloc (.cells (cl5 e).toArray 101)).cell? ⟨w.heap.size, j, none⟩ = some (.int .u64 (e j)) := by
    have e1 : (w.alloc (.cells (cl5 e).toArray 101)).heap[w.heap.size]? = some (.cells (cl5 e).toArray 101) := heap_alloc_last _ _
    intro j hj
    unfold World.cell?
    simp only
    rw [e1]
    obtain rfl | rfl | rfl | rfl | rfl : j = 0 ∨ j = 1 ∨ j = 2 ∨ j = 3 ∨ j = 4 := by omega
    all_goals rfl
  show Calls Tryz.prog 170 #[.pointer (some ⟨q, o, none⟩), .agg (cl5 e).toArray, .int .u64 (mask b)] w _
  generalize hw1 : w.alloc (.cells (cl5 e).toArray 101) = w1 at *
  have hw1' := hide hw1
  obtain ⟨V, hV⟩ : ∃ V, V = (cl5 e).toArray := ⟨_, rfl⟩
  rw [← hV] at hw1 ⊢
  clear hV
  go_enter Tryz.func170, Tryz.ntmps170
  go_upto_region 1 with fail
  clear hw1 hx hf
  go_wp2
  go_loopw [7] (fun i wr => ∃ k : Nat, k ≤ 5 ∧ i = .int .i64 k ∧ Mg w1 wr q o (mgk b k x e)) (fun i _ => 5 - (intOf i).toNat)
  case atStart => exact ⟨0, by omega, rfl, M0.cg fun j _ => by simp [mgk]⟩
  case round =>
    obtain ⟨k, hk, rfl, M⟩ := hrel
    by_cases hlt : k < 5
    · have k5 : (k : Int) < 5 := by omega
      have c1 := M.at5 k hlt
      unfold mgk at c1
      rw [if_neg (by omega)] at c1
      have f1 := (M.fr (o + k)).trans (F0 (o + k))
      have c2 := (World.cell?_of_block (a := ⟨w.heap.size, k, none⟩) (M.only.block w.heap.size (by omega))).trans (E0 k hlt)
      have X := mrg_ok b (x k) (e k) (bx k hlt) (be k hlt) (fun h => h0 h k hlt)
      obtain ⟨z, hz⟩ : ∃ z, z = if b = true then e k else x k := ⟨_, rfl⟩
      rw [← hz] at X
      have PK : Hid (∀ n, Mg w1 ((wr.drewN n).setCell ⟨q, o + k, none⟩ (.int .u64 z)) q o (mgk b (k + 1) x e)) := by
        intro n
        refine (M.store k hlt z n).cg fun j hj => ?_
        unfold mgk mgd
        by_cases c : j = k
        · subst c
          have c3 : j < j + 1 := by omega
          rw [if_pos rfl, if_pos c3]
          exact hz
        · rw [if_neg c]
          by_cases c2 : j < k
          · have c3 : j < k + 1 := by omega
            rw [if_pos c2, if_pos c3]
          · have c3 : ¬ j < k + 1 := by omega
            rw [if_neg c2, if_neg c3]
      clear M hz bx be h0 F0 E0 M0
      generalize x k = xk at *
      generalize e k = ek at *
      generalize mask b = m at *
      go_wp2
      go_region
      go_wp2
      exact ⟨⟨k + 1, by omega, by go_num, PK.out _⟩, by simp [intOf]; omega⟩
    · obtain rfl : k = 5 := by omega
      go_wp2
      go_end0
      refine ⟨rfl, w1, n0, M.cg fun j hj => ?_⟩
      unfold mgk
      rw [if_pos hj]
theorem and15_64 (x : Int) (h0 : 0 ≤ x) (h1 : x < 18446744073709551616) : bits BinOp.and IntKind.u64 x 15 = x % 16 := bits_mask .u64 64 (by decide) wraps_u64 4 (by decide) x h0 h1
set_option maxHeartbeats 4000000 in
theorem digit_any (w : World) (W : Nat → Int) (hW : W4 W) (n : Nat) (hn : n < 64) :
    Calls Tryz.prog 146 #[ag4 W, .int .i64 n] w fun r w' => r = .returned (.int .u64 (W (n / 16) / 2 ^ (4 * (n % 16)) % 16)) ∧ Below w.heap.size w w' := by
  have B0 := blk_box4 w .u64 44 (W 0) (W 1) (W 2) (W 3)
  have n0 : Below w.heap.size w (w.alloc (.cells #[.int .u64 (W 0), .int .u64 (W 1), .int .u64 (W 2), .int .u64 (W 3)] 44)) := (Below.refl _ _).alloc (Nat.le_refl _) _
  obtain ⟨j, hj⟩ : ∃ j : Nat, n / 16 = j := ⟨_, rfl⟩
  obtain ⟨m, hm⟩ : ∃ m : Nat, n % 16 = m := ⟨_, rfl⟩
  have j4 : j < 4 := by omega
  have m16 : m < 16 := by omega
  have p1 : (n : Int) / 16 = (j : Int) := by omega
  have p2 : (n : Int) % 16 = (m : Int) := by omega
  obtain ⟨s, hs⟩ : ∃ s : Nat, 4 * m = s := ⟨_, rfl⟩
  have p3 : 4 * (m : Int) = (s : Int) := by omega
  have s64 : s < 64 := by omega
  rw [hj, hm, hs]
  have cj := B0.cell (i := j) (by simpa using j4)
  have gj : [W 0, W 1, W 2, W 3].getD j 0 = W j := by
    obtain rfl | rfl | rfl | rfl : j = 0 ∨ j = 1 ∨ j = 2 ∨ j = 3 := by omega
    all_goals rfl
  rw [gj] at cj
  have wb := hW j j4
  have pm : (0 : Int) < 2 ^ s := Int.pow_pos (by decide)
  have v0 : 0 ≤ W j / 2 ^ s := Int.ediv_nonneg wb.1 (Int.le_of_lt pm)
  have v1 : W j / 2 ^ s < 18446744073709551616 := Int.lt_of_le_of_lt (Int.ediv_le_self _ wb.1) wb.2
  have e1 := and15_64 _ v0 v1
  clear hj hm gj hs
  simp only [ag4]
  go_enter Tryz.func146, Tryz.ntmps146
  go_wp2_with fail
  generalize w.alloc (.cells #[.int .u64 (W 0), .int .u64 (W 1), .int .u64 (W 2), .int .u64 (W 3)] 44) = wa at *
  clear B0 hW
  generalize W j = z at *
  go_wp2
  go_ret
  exact ⟨rfl, n0⟩
end Go.Proofs.YthonlkghkdjagaaGreatDoor
namespace Go.Proofs.YthonlkghkdjagaaGreatDoor
set_option maxRecDepth 100000
open Go Go.RowKit
section
variable {P : Program} {ops : Array Oper} {Q : Exit → Act → World → Prop} {md : Region.Mode} {F : Nat → Fact} {a0 : Act} {w0 : World}
def tailWp (P : Program) (Q : Exit → Act → World → Prop) : List Oper → Act → World → Prop
  | [], a, w => Q .normal a w
  | o :: os, a, w => o.wp P a w (fun a' w' => tailWp P Q os a' w') Q
def textTail (md : Region.Mode) (draw : Bool) (ops : Array Oper) (n k : Nat) : Bool :=
  (ops.all fun o => o.guard.isNone && (match o.dst with | some d => decide (d < n) | none => true))
  && ((List.range ops.size).all fun i => match ops[i]? with
    | some o => o.after.all (fun e => !Region.binds md e || decide (e.on < i)) && (List.range i).all fun j => match ops[j]? with
      | some x => x.dst.isNone || o.dst != x.dst
      | none => true
    | none => true)
  && decide (k ≤ ops.size)
  && (!draw || k == ops.size || (List.range k).all fun j => (List.range (k + 1)).any fun m => decide (j < m) && match ops[m]? with
    | some o => o.after.any (fun e => Region.binds md e && e.on == j)
    | none => false)
  && (!draw || (List.range ops.size).all fun i => decide (i ≤ k) || match ops[i]? with
    | some o => o.after.any (fun e => Region.binds md e && e.on + 1 == i)
    | none => false)
structure TextT (md : Region.Mode) (draw : Bool) (ops : Array Oper) (n k : Nat) : Prop where
  g : ∀ (i : Nat) o, ops[i]? = some o → o.guard = none
  d : ∀ (i : Nat) o d, ops[i]? = some o → o.dst = some d → d < n
  a : ∀ (i : Nat) o, ops[i]? = some o → ∀ e ∈ o.after, Region.binds md e = true → e.on < i
  x : ∀ (i j : Nat) o o' d, ops[i]? = some o → ops[j]? = some o' → i ≠ j → o.dst = some d → o'.dst ≠ some d
  k1 : k ≤ ops.size
  c : draw = true → k < ops.size → ∀ j, j < k → ∃ (m : Nat) (o : Oper), j < m ∧ m ≤ k ∧ ops[m]? = some o ∧ ∃ e ∈ o.after, Region.binds md e = true ∧ e.on = j
  l : draw = true → ∀ i o, k < i → ops[i]? = some o → ∃ e ∈ o.after, Region.binds md e = true ∧ e.on + 1 = i
theorem textT_of {n k : Nat} {draw : Bool} (h : textTail md draw ops n k = true) : TextT md draw ops n k := by
  unfold textTail at h
  simp only [Bool.and_eq_true, decide_eq_true_eq] at h
  obtain ⟨⟨⟨⟨h1, h2⟩, h3⟩, h4⟩, h5⟩ := h
  rw [Array.all_eq_true_iff_forall_mem] at h1
  rw [List.all_eq_true] at h2
  have H : ∀ (i j : Nat) o o' d, j < i → ops[i]? = some o → ops[j]? = some o' → o.dst = some d → o'.dst ≠ some d := by
    intro i j o o' d hij hi hj hd hd'
    have q := h2 i (List.mem_range.2 (Array.getElem?_eq_some_iff.1 hi).1)
    simp only [hi, Bool.and_eq_true] at q
    have r := List.all_eq_true.1 q.2 j (List.mem_range.2 hij)
    simp only [hj, hd, hd'] at r
    simp at r
  refine ⟨?_, ?_, ?_, ?_, h3, ?_, ?_⟩
  · intro i o ho
    have q := h1 o (Array.mem_of_getElem? ho)
    simp only [Bool.and_eq_true] at q
    exact Option.isNone_iff_eq_none.1 q.1
  · intro i o d ho hd
    have q := h1 o (Array.mem_of_getElem? ho)
    simp only [Bool.and_eq_true, hd, decide_eq_true_eq] at q
    exact q.2
  · intro i o ho e he hb
    have q := h2 i (List.mem_range.2 (Array.getElem?_eq_some_iff.1 ho).1)
    simp only [ho, Bool.and_eq_true] at q
    have r := (Array.all_eq_true_iff_forall_mem.1 q.1) e he
    rw [hb] at r
    simpa using r
  · intro i j o o' d hi hj hij hd hd'
    rcases Nat.lt_or_gt_of_ne hij with h | h
    · exact H j i o' o d h hj hi hd' hd
    · exact H i j o o' d h hi hj hd hd'
  · intro hdr hk j hj
    rw [hdr] at h4
    have h4' : ((List.range k).all fun j => (List.range (k + 1)).any fun m => decide (j < m) && match ops[m]? with
      | some o => o.after.any (fun e => Region.binds md e && e.on == j)
      | none => false) = true := by
      simp only [Bool.not_true, Bool.false_or, Bool.or_eq_true] at h4
      rcases h4 with e | e
      · have : k = ops.size := by simpa using e
        omega
      · exact e
    have q := List.all_eq_true.1 h4' j (List.mem_range.2 hj)
    obtain ⟨m, hm, r⟩ := List.any_eq_true.1 q
    simp only [Bool.and_eq_true, decide_eq_true_eq] at r
    cases ho : ops[m]? with
    | none => rw [ho] at r; simp at r
    | some o =>
      rw [ho] at r
      obtain ⟨e, he, hb⟩ := Array.any_eq_true'.1 r.2
      simp only [Bool.and_eq_true, beq_iff_eq] at hb
      exact ⟨m, o, r.1, by have := List.mem_range.1 hm; omega, ho, e, he, hb.1, hb.2⟩
  · intro hdr i o hki ho
    rw [hdr] at h5
    simp only [Bool.not_true, Bool.false_or] at h5
    rw [List.all_eq_true] at h5
    have q := h5 i (List.mem_range.2 (Array.getElem?_eq_some_iff.1 ho).1)
    rw [ho] at q
    simp only [Bool.or_eq_true] at q
    rcases q with e | e
    · have : i ≤ k := by simpa using e
      omega
    · obtain ⟨e, he, hb⟩ := Array.any_eq_true'.1 e
      simp only [Bool.and_eq_true, beq_iff_eq] at hb
      exact ⟨e, he, hb.1, hb.2⟩
theorem Held.nextT {n k : Nat} {draw : Bool} (T : TextT md draw ops n k) (hn : n ≤ a0.tmps.size) {listed : Array Bool} {a : Act} {w : World} (H : Held md ops F a0 w0 listed a w) {i : Nat} {o : Oper} (ho : ops[i]? = some o) (hr : i ∈ Region.ready md ops listed)
    {v : Value} {w' : World} (hw : Below w.heap.size w w') (hf : (F i).p v w') : Held md ops F a0 w0 (listed.setIfInBounds i true) (a.put o.dst v) w' := by
  have hi : i < ops.size := (Array.getElem?_eq_some_iff.1 ho).1
  have hz : a.tmps.size = a0.tmps.size := H.b.2.1
  refine ⟨⟨by rw [put_defers]; exact H.b.1, by rw [put_size]; exact hz, fun d hd => ?_⟩, nxt H.n hw, ?_, ?_, by simp [H.s]⟩
  · rw [put_off]
    · exact H.b.2.2 d hd
    · have q := Array.all_eq_true_iff_forall_mem.1 hd o (Array.mem_of_getElem? ho)
      simpa using q
  · intro j oj d hoj hj hd
    by_cases e : i = j
    · subst e
      obtain rfl := Option.some.inj (ho.symm.trans hoj)
      rw [hd, put_at (Nat.lt_of_lt_of_le (T.d i o d ho hd) (hz ▸ hn))]
      exact hf
    · rw [getD_off e] at hj
      rw [put_off (T.x j i oj o d hoj ho (Ne.symm e) hd)]
      exact (F j).up hw (H.f j oj d hoj hj hd)
  · intro j oj hoj hj e he hb
    obtain ⟨_, o', ho', q⟩ := mem_ready.1 hr
    by_cases c : i = e.on
    · rw [← c]
      exact getD_same (by rw [H.s]; exact hi) _
    · rw [getD_off c]
      by_cases e' : i = j
      · subst e'
        obtain rfl := Option.some.inj (ho'.symm.trans hoj)
        exact q e he hb
      · rw [getD_off e'] at hj
        exact H.c j oj hoj hj e he hb
theorem tail_any {n k : Nat} (T : TextT md true ops n k) : ∀ (m t fuel : Nat) (listed : Array Bool) (a : Act) (w : World), t + m = ops.size → k ≤ t → listed.size = ops.size → (∀ j, j < t → listed.getD j false = true) → (∀ j, t ≤ j → listed.getD j false = false) → m ≤ fuel →
    tailWp P Q (ops.toList.drop t) a w → wpAny P md ops Q fuel listed a w := by
  intro m
  induction m with
  | zero =>
    intro t fuel listed a w ht hk hs h1 h2 hf hq
    obtain rfl : t = ops.size := by omega
    have e : ops.toList.drop ops.size = [] := by simp
    rw [e] at hq
    refine wpAny_done ?_ hq fuel
    cases hr : Region.ready md ops listed with
    | nil => rfl
    | cons i tl =>
      exfalso
      have hi : i ∈ Region.ready md ops listed := by rw [hr]; simp
      obtain ⟨h0, o, ho, _⟩ := mem_ready.1 hi
      have hlt := (Array.getElem?_eq_some_iff.1 ho).1
      rw [dflt (by rw [hs]; exact hlt), h1 i hlt] at h0
      simp at h0
  | succ m ih =>
    intro t fuel listed a w ht hk hs h1 h2 hf hq
    have hlt : t < ops.size := by omega
    obtain ⟨o, ho⟩ : ∃ o, ops[t]? = some o := ⟨ops[t], by simp [hlt]⟩
    have e : ops.toList.drop t = o :: ops.toList.drop (t + 1) := by
      rw [List.drop_eq_getElem_cons (by simpa using hlt)]
      congr 1
      have := (Array.getElem?_eq_some_iff.1 ho).2
      simpa using this
    rw [e] at hq
    obtain ⟨f2, rfl⟩ : ∃ f2, fuel = f2 + 1 := ⟨fuel - 1, by omega⟩
    refine ⟨fun hr => ?_, fun i hi => ?_⟩
    · exfalso
      have hr' : t ∈ Region.ready md ops listed := mem_ready.2 ⟨by rw [dflt (by rw [hs]; exact hlt)]; exact h2 t (Nat.le_refl _), o, ho, fun e he hb => h1 e.on (T.a t o ho e he hb)⟩
      rw [hr] at hr'
      simp at hr'
    · obtain ⟨h0, oi, hoi, hall⟩ := mem_ready.1 hi
      have hil := (Array.getElem?_eq_some_iff.1 hoi).1
      rw [dflt (by rw [hs]; exact hil)] at h0
      have hti : i = t := by
        rcases Nat.lt_trichotomy i t with c | c | c
        · rw [h1 i c] at h0; simp at h0
        · exact c
        · exfalso
          obtain ⟨e, he, hb, hq'⟩ := T.l rfl i oi (by omega) hoi
          have := hall e he hb
          rw [h2 e.on (by omega)] at this
          simp at this
      subst hti
      obtain rfl := Option.some.inj (ho.symm.trans hoi)
      have hwant : Region.wanted o (yielded ops a.tmps) = true := by simp [Region.wanted, T.g i o ho]
      refine wpOp_step ho fun K' hK => ?_
      rw [if_pos hwant]
      refine Oper.wp_mono (fun a' w' h => hK _ _ (ih (i + 1) f2 (listed.setIfInBounds i true) a' w' (by omega) (by omega) (by simp [hs]) (fun j hj => ?_) (fun j hj => ?_) (by omega) h)) hq
      · by_cases c : i = j
        · subst c
          exact getD_same (by rw [hs]; exact hlt) _
        · rw [getD_off c]
          exact h1 j (by omega)
      · rw [getD_off (by omega)]
        exact h2 j (by omega)
def blkOf : Value → Option Nat
  | .pointer (some a) => some a.block
  | .slice (some a) _ _ => some a.block
  | _ => none
def FreshG (P : Program) (md : Region.Mode) (ops : Array Oper) (Q : Exit → Act → World → Prop) (F : Nat → Fact) (a0 : Act) (w0 : World) (i : Nat) : Prop :=
  ∀ o, ops[i]? = some o → ∀ a w, Based ops a0 a → Below w0.heap.size w0 w → (∀ j d, waits md ops i j d = true → (F j).p (a.tmps.getD d undef) w) →
    ∀ K : Act → World → Prop, (∀ v w', Below w.heap.size w w' → (F i).p v w' → (∃ b, blkOf v = some b ∧ w.heap.size ≤ b ∧ b < w'.heap.size) → K (a.put o.dst v) w') → o.wp P a w K Q
theorem FreshOk.g {i : Nat} (h : FreshOk P md ops Q F a0 w0 i) : FreshG P md ops Q F a0 w0 i :=
  fun o ho a w hb hw hf K hK => h o ho a w hb hw hf K (fun v w' hn hv e hz => hK v w' hn hv ⟨w.heap.size, by rw [e]; rfl, Nat.le_refl _, hz⟩)
theorem FreshG.step {i : Nat} (h : FreshG P md ops Q F a0 w0 i) : StepOk P md ops Q F a0 w0 i :=
  fun o ho a w hb hw hf K hK => h o ho a w hb hw hf K (fun v w' hn hv _ => hK v w' hn hv)
structure SepL (fr : List (Nat × Nat)) (listed : Array Bool) (a : Act) (w : World) : Prop where
  l : ∀ p ∈ fr, listed.getD p.1 false = true → ∃ q, blkOf (a.tmps.getD p.2 undef) = some q ∧ q < w.heap.size
  n : ∀ p ∈ fr, ∀ p' ∈ fr, p ≠ p' → listed.getD p.1 false = true → listed.getD p'.1 false = true → blkOf (a.tmps.getD p.2 undef) ≠ blkOf (a.tmps.getD p'.2 undef)
theorem SepL.other {fr : List (Nat × Nat)} {listed : Array Bool} {a : Act} {w w' : World} (h : SepL fr listed a w) {i : Nat} {dst : Option Tmp} {v : Value} (h1 : ∀ p ∈ fr, i ≠ p.1) (e1 : ∀ p ∈ fr, dst ≠ some p.2) (hw : w.heap.size ≤ w'.heap.size) : SepL fr (listed.setIfInBounds i true) (a.put dst v) w' := by
  refine ⟨fun p hp g => ?_, fun p hp p' hp' hne g g' => ?_⟩
  · rw [getD_off (h1 p hp)] at g
    obtain ⟨q, hq, hl⟩ := h.l p hp g
    exact ⟨q, by rw [put_off (e1 p hp)]; exact hq, by omega⟩
  · rw [getD_off (h1 p hp)] at g
    rw [getD_off (h1 p' hp')] at g'
    rw [put_off (e1 p hp), put_off (e1 p' hp')]
    exact h.n p hp p' hp' hne g g'
theorem SepL.this {fr : List (Nat × Nat)} {listed : Array Bool} {a : Act} {w w' : World} (h : SepL fr listed a w) {v : Value} {i d : Nat} (hi : ∀ p ∈ fr, p ≠ (i, d) → i ≠ p.1 ∧ d ≠ p.2) (hs : d < a.tmps.size) (hv : ∃ b, blkOf v = some b ∧ w.heap.size ≤ b ∧ b < w'.heap.size) :
    SepL fr (listed.setIfInBounds i true) (a.put (some d) v) w' := by
  obtain ⟨b, hb, hb1, hb2⟩ := hv
  have old : ∀ p ∈ fr, p ≠ (i, d) → (listed.setIfInBounds i true).getD p.1 false = true → ∃ q, blkOf ((a.put (some d) v).tmps.getD p.2 undef) = some q ∧ q < w.heap.size := by
    intro p hp c g
    obtain ⟨c1, c2⟩ := hi p hp c
    rw [getD_off c1] at g
    obtain ⟨q, hq, hl⟩ := h.l p hp g
    exact ⟨q, by rw [put_off (by simpa using c2)]; exact hq, hl⟩
  have new : blkOf ((a.put (some d) v).tmps.getD d undef) = some b := by rw [put_at hs, hb]
  have ne : ∀ q, q < w.heap.size → (some q : Option Nat) ≠ some b := by
    intro q hq x
    simp only [Option.some.injEq] at x
    omega
  refine ⟨fun p hp g => ?_, fun p hp p' hp' hne g g' => ?_⟩
  · by_cases c : p = (i, d)
    · subst c
      exact ⟨b, new, hb2⟩
    · obtain ⟨q, hq, hl⟩ := old p hp c g
      exact ⟨q, hq, by omega⟩
  · by_cases c : p = (i, d)
    · subst c
      obtain ⟨q, hq, hl⟩ := old p' hp' (Ne.symm hne) g'
      show blkOf ((a.put (some d) v).tmps.getD d undef) ≠ _
      rw [new, hq]
      exact (ne q hl).symm
    · obtain ⟨q, hq, hl⟩ := old p hp c g
      by_cases c' : p' = (i, d)
      · subst c'
        show _ ≠ blkOf ((a.put (some d) v).tmps.getD d undef)
        rw [new, hq]
        exact ne q hl
      · obtain ⟨c1, c2⟩ := hi p hp c
        obtain ⟨c1', c2'⟩ := hi p' hp' c'
        rw [getD_off c1] at g
        rw [getD_off c1'] at g'
        rw [put_off (by simpa using c2), put_off (by simpa using c2')]
        exact h.n p hp p' hp' hne g g'
abbrev HeadDone (P : Program) (ops : Array Oper) (Q : Exit → Act → World → Prop) (F : Nat → Fact) (a0 : Act) (w0 : World) (k : Nat) (fr : List (Nat × Nat)) : Prop :=
  ∀ a w, Based ops a0 a → Below w0.heap.size w0 w → (∀ i o d, i < k → ops[i]? = some o → o.dst = some d → (F i).p (a.tmps.getD d undef) w) → (∀ p ∈ fr, ∀ p' ∈ fr, p ≠ p' → blkOf (a.tmps.getD p.2 undef) ≠ blkOf (a.tmps.getD p'.2 undef)) → tailWp P Q (ops.toList.drop k) a w
theorem any_tail {n k : Nat} (T : TextT md true ops n k) (hn : n ≤ a0.tmps.size) (steps : ∀ i, i < k → StepOk P md ops Q F a0 w0 i) (fr : List (Nat × Nat)) (hfr : ∀ p ∈ fr, p.1 < k ∧ writes ops p.1 p.2 = true ∧ FreshG P md ops Q F a0 w0 p.1) (hnd : ∀ p ∈ fr, ∀ p' ∈ fr, p ≠ p' → p.1 ≠ p'.1)
    (fin : HeadDone P ops Q F a0 w0 k fr) :
    ∀ (fuel : Nat) (listed : Array Bool) (a : Act) (w : World), left listed ops.size ≤ fuel → Held md ops F a0 w0 listed a w → SepL fr listed a w → (∀ j, k ≤ j → listed.getD j false = false) → ops.size - k ≤ fuel → wpAny P md ops Q fuel listed a w := by
  intro fuel
  induction fuel with
  | zero =>
    intro listed a w hl H S hk hf
    have hks : k = ops.size := by have := T.k1; omega
    have hall : ∀ i, i < ops.size → listed.getD i false = true := fun i hi => by
      rw [← dflt (by rw [H.s]; exact hi)]
      exact left_zero (n := ops.size) (by omega) i hi
    exact tail_any T 0 ops.size 0 listed a w (by omega) (by omega) H.s (fun j hj => hall j hj) (fun j hj => hk j (by omega)) (Nat.le_refl _) (hks ▸ fin a w H.b H.n (fun i o d hi ho hd => H.f i o d ho (hall i (by omega)) hd) (fun p hp p' hp' hne => S.n p hp p' hp' hne (hall p.1 (by have := (hfr p hp).1; omega)) (hall p'.1 (by have := (hfr p' hp').1; omega))))
  | succ fuel ih =>
    intro listed a w hl H S hk hf
    by_cases hall : ∀ j, j < k → listed.getD j false = true
    · exact tail_any T (ops.size - k) k (fuel + 1) listed a w (by have := T.k1; omega) (Nat.le_refl _) H.s hall hk hf (fin a w H.b H.n (fun i o d hi ho hd => H.f i o d ho (hall i hi) hd) (fun p hp p' hp' hne => S.n p hp p' hp' hne (hall p.1 (hfr p hp).1) (hall p'.1 (hfr p' hp').1)))
    · refine ⟨fun hr => ?_, fun i hi => ?_⟩
      · exfalso
        refine hall fun j hj => ?_
        have : ∀ m i, i < m → i < k → listed.getD i false = true := by
          intro m
          induction m with
          | zero => intro i hi; omega
          | succ m ihm =>
            intro i hi hik
            rcases Nat.lt_or_ge i m with h1 | h1
            · exact ihm i h1 hik
            · obtain rfl : i = m := by omega
              cases hc : listed.getD i false
              · exfalso
                have hks : i < ops.size := by have := T.k1; omega
                obtain ⟨o, ho⟩ : ∃ o, ops[i]? = some o := ⟨ops[i], by simp [hks]⟩
                have hr' : i ∈ Region.ready md ops listed := mem_ready.2 ⟨by rw [dflt (by rw [H.s]; omega)]; exact hc, o, ho, fun e he hb => ihm e.on (T.a i o ho e he hb) (by have := T.a i o ho e he hb; omega)⟩
                rw [hr] at hr'
                simp at hr'
              · rfl
        exact this (j + 1) j (by omega) hj
      · obtain ⟨h0, o, ho, hready⟩ := mem_ready.1 hi
        have hlt := (Array.getElem?_eq_some_iff.1 ho).1
        have hik : i < k := by
          rcases Nat.lt_or_ge i k with h1 | h1
          · exact h1
          · exfalso
            rcases Nat.lt_or_ge k i with h2 | h2
            · obtain ⟨e, he, hb, hq⟩ := T.l rfl i o h2 ho
              have := hready e he hb
              rw [hk e.on (by omega)] at this
              simp at this
            · obtain rfl : i = k := by omega
              refine hall fun j hj => ?_
              have ah : ∀ m j, i - j ≤ m → j < i → listed.getD j false = true := by
                intro m
                induction m with
                | zero => intro j hm hj; omega
                | succ m ihm =>
                  intro j hm hj
                  obtain ⟨p, oo, hjp, hpk, hoo, e, he, hb, rfl⟩ := T.c rfl hlt j hj
                  rcases Nat.lt_or_ge p i with h1 | h1
                  · exact H.c p oo hoo (ihm p (by omega) h1) e he hb
                  · obtain rfl : p = i := by omega
                    obtain rfl := Option.some.inj (ho.symm.trans hoo)
                    exact hready e he hb
              exact ah (i - j) j (Nat.le_refl _) hj
        have hwant : Region.wanted o (yielded ops a.tmps) = true := by simp [Region.wanted, T.g i o ho]
        refine wpOp_step ho fun K' hK => ?_
        rw [if_pos hwant]
        have hll := left_set (by rw [H.s]; exact hlt) h0 ops.size hlt
        have hfacts : ∀ j d, waits md ops i j d = true → (F j).p (a.tmps.getD d undef) w := by
          intro j d hjd
          unfold waits at hjd
          rw [ho] at hjd
          cases hoj : ops[j]? with
          | none => rw [hoj] at hjd; simp at hjd
          | some oj =>
            rw [hoj] at hjd
            simp only [Bool.and_eq_true, beq_iff_eq] at hjd
            obtain ⟨e, he, hb⟩ := Array.any_eq_true'.1 hjd.1
            simp only [Bool.and_eq_true, beq_iff_eq] at hb
            exact H.f j oj d hoj (by rw [← hb.2]; exact hready e he hb.1) hjd.2
        have htail : ops.size - k ≤ fuel := by
          -- k and all behind it are still to come, and i besides
          have lk : ∀ m, m ≤ ops.size → k ≤ m → (m - k) + left listed k ≤ left listed m := by
            intro m
            induction m with
            | zero => intro _ hk0; have : k = 0 := by omega
                      subst this; simp
            | succ m ihm =>
              intro hm hkm
              rcases Nat.lt_or_ge m k with c | c
              · have : k = m + 1 := by omega
                subst this
                omega
              · have q := ihm (by omega) c
                rw [left, if_pos (by rw [dflt (by rw [H.s]; omega)]; exact hk m c)]
                omega
          have l1 : 1 ≤ left listed k := by
            have := left_set (by rw [H.s]; exact hlt) h0 k hik
            omega
          have := lk ops.size (Nat.le_refl _) T.k1
          omega
        have go : ∀ v w', Below w.heap.size w w' → (F i).p v w' → SepL fr (listed.setIfInBounds i true) (a.put o.dst v) w' → K' (a.put o.dst v) w' := by
          intro v w' hw hf' hS
          refine hK _ _ (ih _ _ _ (by omega) (H.nextT T hn ho hi hw hf') hS (fun j hj => ?_) htail)
          rw [getD_off (by omega)]
          exact hk j hj
        by_cases c : ∃ p ∈ fr, i = p.1
        · obtain ⟨p, hp, rfl⟩ := c
          obtain ⟨_, hw', f⟩ := hfr p hp
          obtain ⟨op, hop, hdp⟩ := writes_is hw'
          obtain rfl := Option.some.inj (hop.symm.trans ho)
          refine f op ho a w H.b H.n hfacts K' fun v w' hw hf' hv => go v w' hw hf' ?_
          rw [hdp]
          refine S.this (i := p.1) (d := p.2) (fun p' hp' hne => ?_) (by rw [H.b.2.1]; exact Nat.lt_of_lt_of_le (T.d p.1 op p.2 hop hdp) hn) hv
          have n1 := hnd p hp p' hp' (Ne.symm hne)
          obtain ⟨o', ho', hd'⟩ := writes_is (hfr p' hp').2.1
          exact ⟨n1, fun e => T.x p.1 p'.1 op o' p.2 hop ho' n1 hdp (by rw [e]; exact hd')⟩
        · refine steps i hik o ho a w H.b H.n hfacts K' fun v w' hw hf' => go v w' hw hf' ?_
          refine S.other (fun p hp e => c ⟨p, hp, e⟩) (fun p hp e => ?_) hw.size
          obtain ⟨o', ho', hd'⟩ := writes_is (hfr p hp).2.1
          exact T.x i p.1 o o' p.2 ho ho' (fun x => c ⟨p, hp, x⟩) e hd'
theorem tail_line {n k : Nat} {draw : Bool} (T : TextT md draw ops n k) : ∀ (m t : Nat) (a : Act) (w : World), t + m = ops.size → k ≤ t → tailWp P Q (ops.toList.drop t) a w → wpOps P ops Q (List.range' t m) a w := by
  intro m
  induction m with
  | zero =>
    intro t a w ht hk hq
    obtain rfl : t = ops.size := by omega
    have e : ops.toList.drop ops.size = [] := by simp
    rw [e] at hq
    exact hq
  | succ m ih =>
    intro t a w ht hk hq
    have hlt : t < ops.size := by omega
    obtain ⟨o, ho⟩ : ∃ o, ops[t]? = some o := ⟨ops[t], by simp [hlt]⟩
    have e : ops.toList.drop t = o :: ops.toList.drop (t + 1) := by
      rw [List.drop_eq_getElem_cons (by simpa using hlt)]
      congr 1
      have := (Array.getElem?_eq_some_iff.1 ho).2
      simpa using this
    rw [e] at hq
    have hwant : Region.wanted o (yielded ops a.tmps) = true := by simp [Region.wanted, T.g t o ho]
    rw [List.range'_succ, wpOps_cons]
    refine wpOp_step ho fun K' hK => ?_
    rw [if_pos hwant]
    exact Oper.wp_mono (fun a' w' h => hK _ _ (ih (t + 1) a' w' (by omega) (by omega) h)) hq
theorem line_tail {n k : Nat} {draw : Bool} (T : TextT md draw ops n k) (hn : n ≤ a0.tmps.size) (steps : ∀ i, i < k → StepOk P md ops Q F a0 w0 i) (fr : List (Nat × Nat)) (hfr : ∀ p ∈ fr, p.1 < k ∧ writes ops p.1 p.2 = true ∧ FreshG P md ops Q F a0 w0 p.1) (hnd : ∀ p ∈ fr, ∀ p' ∈ fr, p ≠ p' → p.1 ≠ p'.1)
    (fin : HeadDone P ops Q F a0 w0 k fr) :
    ∀ (m i : Nat) (listed : Array Bool) (a : Act) (w : World), i + m = ops.size → i ≤ k → Based ops a0 a → Below w0.heap.size w0 w → (∀ j o d, j < i → ops[j]? = some o → o.dst = some d → (F j).p (a.tmps.getD d undef) w) → listed.size = ops.size → (∀ j, j < i → listed.getD j false = true) → SepL fr listed a w →
      wpOps P ops Q (List.range' i m) a w := by
  intro m
  induction m with
  | zero =>
    intro i listed a w him hik hb hw hf hs hl S
    obtain rfl : i = k := by have := T.k1; omega
    exact tail_line T 0 i a w (by omega) (Nat.le_refl _) (fin a w hb hw hf (fun p hp p' hp' hne => S.n p hp p' hp' hne (hl p.1 (hfr p hp).1) (hl p'.1 (hfr p' hp').1)))
  | succ m ih =>
    intro i listed a w him hik hb hw hf hs hl S
    have hlt : i < ops.size := by omega
    obtain ⟨o, ho⟩ : ∃ o, ops[i]? = some o := ⟨ops[i], by simp [hlt]⟩
    rcases Nat.lt_or_ge i k with h1 | h1
    · have hwant : Region.wanted o (yielded ops a.tmps) = true := by simp [Region.wanted, T.g i o ho]
      rw [List.range'_succ, wpOps_cons]
      refine wpOp_step ho fun K' hK => ?_
      rw [if_pos hwant]
      have hfacts : ∀ j d, waits md ops i j d = true → (F j).p (a.tmps.getD d undef) w := by
        intro j d hjd
        unfold waits at hjd
        rw [ho] at hjd
        cases hoj : ops[j]? with
        | none => rw [hoj] at hjd; simp at hjd
        | some oj =>
          rw [hoj] at hjd
          simp only [Bool.and_eq_true, beq_iff_eq] at hjd
          obtain ⟨e, he, hb⟩ := Array.any_eq_true'.1 hjd.1
          simp only [Bool.and_eq_true, beq_iff_eq] at hb
          exact hf j oj d (by rw [← hb.2]; exact T.a i o ho e he hb.1) hoj hjd.2
      have go : ∀ v w', Below w.heap.size w w' → (F i).p v w' → SepL fr (listed.setIfInBounds i true) (a.put o.dst v) w' → K' (a.put o.dst v) w' := by
        intro v w' hw' hfv hS
        refine hK _ _ (ih (i + 1) (listed.setIfInBounds i true) _ _ (by omega) (by omega) ⟨by rw [put_defers]; exact hb.1, by rw [put_size]; exact hb.2.1, fun d hd => ?_⟩ (nxt hw hw') ?_ (by simp [hs]) (fun j hj => ?_) hS)
        · rw [put_off]
          · exact hb.2.2 d hd
          · have q := Array.all_eq_true_iff_forall_mem.1 hd o (Array.mem_of_getElem? ho)
            simpa using q
        · intro j oj d hj hoj hd
          by_cases e : i = j
          · subst e
            obtain rfl := Option.some.inj (ho.symm.trans hoj)
            rw [hd, put_at (Nat.lt_of_lt_of_le (T.d i o d ho hd) (hb.2.1 ▸ hn))]
            exact hfv
          · rw [put_off (T.x j i oj o d hoj ho (Ne.symm e) hd)]
            exact (F j).up hw' (hf j oj d (by omega) hoj hd)
        · by_cases c : i = j
          · subst c
            exact getD_same (by rw [hs]; exact hlt) _
          · rw [getD_off c]
            exact hl j (by omega)
      by_cases c : ∃ p ∈ fr, i = p.1
      · obtain ⟨p, hp, rfl⟩ := c
        obtain ⟨_, hw', f⟩ := hfr p hp
        obtain ⟨op, hop, hdp⟩ := writes_is hw'
        obtain rfl := Option.some.inj (hop.symm.trans ho)
        refine f op ho a w hb hw hfacts K' fun v w' hw' hf' hv => go v w' hw' hf' ?_
        rw [hdp]
        refine S.this (i := p.1) (d := p.2) (fun p' hp' hne => ?_) (by rw [hb.2.1]; exact Nat.lt_of_lt_of_le (T.d p.1 op p.2 hop hdp) hn) hv
        have n1 := hnd p hp p' hp' (Ne.symm hne)
        obtain ⟨o', ho', hd'⟩ := writes_is (hfr p' hp').2.1
        exact ⟨n1, fun e => T.x p.1 p'.1 op o' p.2 hop ho' n1 hdp (by rw [e]; exact hd')⟩
      · refine steps i h1 o ho a w hb hw hfacts K' fun v w' hw' hf' => go v w' hw' hf' ?_
        refine S.other (fun p hp e => c ⟨p, hp, e⟩) (fun p hp e => ?_) hw'.size
        obtain ⟨o', ho', hd'⟩ := writes_is (hfr p hp).2.1
        exact T.x i p.1 o o' p.2 ho ho' (fun x => c ⟨p, hp, x⟩) e hd'
    · obtain rfl : i = k := by omega
      exact tail_line T (m + 1) i a w him (Nat.le_refl _) (fin a w hb hw hf (fun p hp p' hp' hne => S.n p hp p' hp' hne (hl p.1 (hfr p hp).1) (hl p'.1 (hfr p' hp').1)))
theorem region_tail {id : Nat} {w : World} {draw : Bool} (k : Nat) (F : Nat → Fact) (hm : P.follows .mixedOrders = true) (hT : textTail .any draw ops a0.tmps.size k = true) (steps : ∀ i, i < k → StepOk P .any ops Q F a0 w i)
    (fr : List (Nat × Nat)) (hfr : ∀ p ∈ fr, p.1 < k ∧ writes ops p.1 p.2 = true ∧ FreshG P .any ops Q F a0 w p.1) (hnd : ∀ p ∈ fr, ∀ p' ∈ fr, p ≠ p' → p.1 ≠ p'.1)
    (fin : ∀ a w', Based ops a0 a → Below w.heap.size w w' → (∀ i d, decide (i < k) = true → writes ops i d = true → (F i).p (a.tmps.getD d undef) w') → (∀ p ∈ fr, ∀ p' ∈ fr, p ≠ p' → blkOf (a.tmps.getD p.2 undef) ≠ blkOf (a.tmps.getD p'.2 undef)) → tailWp P Q (ops.toList.drop k) a w') : (Code.region id ops draw).wp P Q a0 w := by
  have T := textT_of hT
  have fin' : HeadDone P ops Q F a0 w k fr := fun a w' hb hw hf hne => fin a w' hb hw (fun i d hi hd => by
    obtain ⟨o, ho, hd'⟩ := writes_is hd
    exact hf i o d (of_decide_eq_true hi) ho hd') hne
  have z : ∀ j, (Array.replicate ops.size false).getD j false = false := fun j => by
    rw [Array.getD_eq_getD_getElem?, Array.getElem?_replicate]
    split <;> rfl
  have S0 : ∀ w', SepL fr (Array.replicate ops.size false) a0 w' := fun w' => ⟨fun p hp g => by rw [z] at g; simp at g, fun p hp p' hp' hne g g' => by rw [z] at g; simp at g⟩
  cases draw with
  | false =>
    refine wp_region ?_
    have h := line_tail (w0 := w) T (Nat.le_refl _) steps fr hfr hnd fin' ops.size 0 (Array.replicate ops.size false) a0 w (by omega) (by omega) ⟨rfl, rfl, fun _ _ => rfl⟩ (Below.refl _ _) (fun j o d hj => by omega) (by simp) (fun j hj => by omega) (S0 w)
    rw [List.range_eq_range']
    exact h
  | true =>
    refine wp_region_any hm ?_
    refine any_tail (w0 := w) T (Nat.le_refl _) steps fr hfr hnd fin' ops.size _ a0 _ ?_ ⟨⟨rfl, rfl, fun _ _ => rfl⟩, (Below.refl _ _).drew, ?_, ?_, by simp⟩ (S0 _) (fun j _ => z j) (by omega)
    · have : ∀ m, left (Array.replicate ops.size false) m ≤ m := by
        intro m
        induction m with
        | zero => exact Nat.le_refl _
        | succ m ih => unfold left; split <;> omega
      exact this _
    · intro i o d ho hl _
      rw [z] at hl
      simp at hl
    · intro i o ho hl
      rw [z] at hl
      simp at hl
theorem puts_tail {n k : Nat} {draw : Bool} (hT : textTail md draw ops n k = true) (hn : n = a0.tmps.size) {a : Act} (hb : Based ops a0 a) (vs : Nat → Value) (hv : ∀ d, a.tmps.getD d undef = vs d) : a = puts vs a0 ops.toList := by
  have T := textT_of hT
  have hin : ∀ o ∈ ops.toList, ∀ e, o.dst = some e → e < a0.tmps.size := fun o ho e he => by
    obtain ⟨i, hi⟩ := List.getElem?_of_mem ho
    have := T.d i o e (by simpa using hi) he
    rw [hn] at this
    exact this
  obtain ⟨s1, s2⟩ := puts_size vs ops.toList a0
  obtain ⟨ta, da⟩ := a
  obtain ⟨h1, h2, h3⟩ := hb
  have e1 : ta = (puts vs a0 ops.toList).tmps := by
    apply Array.ext
    · rw [s1]; exact h2
    · intro i hi hi'
      have g := puts_get vs i ops.toList a0 hin
      have l : ta[i] = ta.getD i undef := by simp [Array.getD_eq_getD_getElem?, hi]
      have r : (puts vs a0 ops.toList).tmps[i] = (puts vs a0 ops.toList).tmps.getD i undef := by simp only [Array.getD_eq_getD_getElem?, Array.getElem?_eq_getElem hi', Option.getD_some]
      rw [l, r, g]
      by_cases c : ops.toList.any (fun o => o.dst == some i) = true
      · rw [if_pos c]; exact hv i
      · rw [if_neg c]
        refine h3 i ?_
        unfold apart
        rw [Array.all_eq_true_iff_forall_mem]
        intro o ho
        have hne : ¬ (o.dst == some i) = true := fun x => c (List.any_eq_true.2 ⟨o, by simpa using ho, x⟩)
        simpa using hne
  have e2 : da = (puts vs a0 ops.toList).defers := h1.trans s2.symm
  subst e1
  subst e2
  rfl
theorem Based.put {a : Act} (hb : Based ops a0 a) {o : Oper} {i : Nat} (ho : ops[i]? = some o) (v : Value) : Based ops a0 (a.put o.dst v) := by
  refine ⟨by rw [put_defers]; exact hb.1, by rw [put_size]; exact hb.2.1, fun d hd => ?_⟩
  rw [put_off]
  · exact hb.2.2 d hd
  · have q := Array.all_eq_true_iff_forall_mem.1 hd o (Array.mem_of_getElem? ho)
    simpa using q
end
end Go.Proofs.YthonlkghkdjagaaGreatDoor
namespace Go.Proofs.YthonlkghkdjagaaGreatDoor
set_option maxRecDepth 100000
open Go.RowKit
end Go.Proofs.YthonlkghkdjagaaGreatDoor
namespace Go.Proofs.YthonlkghkdjagaaGreatDoor
set_option maxRecDepth 100000
open Go.RowKit
def Has5 (w : World) (g : Nat) (f : Nat → Int) : Prop := ∀ k, k < 5 → w.cell? ⟨g, k, none⟩ = some (.int .u64 (f k))
theorem Has5.lt {w : World} {g : Nat} {f : Nat → Int} (h : Has5 w g f) : g < w.heap.size := block_lt_of_cell (h 0 (by omega))
theorem Has5.up {w w' : World} {g : Nat} {f : Nat → Int} (h : Has5 w g f) (n : Below w.heap.size w w') : Has5 w' g f := fun k hk => (World.cell?_of_block (a := ⟨g, k, none⟩) (n.block g h.lt)).trans (h k hk)
def iL : Nat → Int
  | 0 => 1718705420411056
  | 1 => 234908883556509
  | 2 => 2233514472574048
  | 3 => 2117202627021982
  | 4 => 765476049583133
  | _ => 0
def HasR (w : World) : Prop := HasSt w 13 ∧ Has3 w 11 12 2 2 ∧ Has5 w 12 iL ∧ HasTw w 9
theorem HasR.up {w w' : World} (h : HasR w) (n : Below w.heap.size w w') : HasR w' := ⟨h.1.up n, h.2.1.up n, h.2.2.1.up n, h.2.2.2.up n⟩
theorem and1u (x : Int) (h0 : 0 ≤ x) (h1 : x < 18446744073709551616) : bits BinOp.and IntKind.u64 x 1 = x % 2 := by
  obtain ⟨m, rfl⟩ := Int.eq_ofNat_of_zero_le h0
  have h := bits_and_u64_nat m 1 (by omega) (by omega)
  have e : m &&& 1 = m % 2 := Nat.and_two_pow_sub_one_eq_mod m 1
  rw [e] at h
  simpa using h
theorem even_lm {e : Nat → Int} : (sv e 5) % 2 = e 0 % 2 := by
  simp only [sv]
  omega
set_option maxHeartbeats 2000000 in
theorem isEven_any (w : World) (e : Nat → Int) (he : Lm e) :
    Calls Tryz.prog 149 #[ag5 e] w fun r w' => r = .returned (.bool (decide (sv e 5 % 2 = 0))) ∧ Below w.heap.size w w' := by
  have h0 := he 0 (by omega)
  have a1 := and1u (e 0) h0.1 (by omega)
  have K : Hid ((e 0 % 2 == 0) = decide (sv e 5 % 2 = 0)) := by
    show _ = _
    rw [even_lm]
    by_cases h : e 0 % 2 = 0 <;> simp [h]
  have hal : Below w.heap.size w (w.alloc (.cells #[.int .u64 (e 0), .int .u64 (e 1), .int .u64 (e 2), .int .u64 (e 3), .int .u64 (e 4)] 101)) := (Below.refl _ _).alloc (Nat.le_refl _) _
  simp only [ag5]
  go_enter Tryz.func149, Tryz.ntmps149
  go_wp2
  go_ret
  exact ⟨by rw [← K.out]; rfl, hal⟩
end Go.Proofs.YthonlkghkdjagaaGreatDoor
namespace Go.Proofs.YthonlkghkdjagaaGreatDoor
set_option maxRecDepth 100000
open Go Go.RowKit
def TB (As : List Int) (b : Bool) : Fact := ⟨fun v _ => ∃ es, v = .tuple #[agN es, .bool b] ∧ IsN es As, fun _ h => h⟩
section
variable {ops : Array Oper} {Q : Exit → Act → World → Prop} {md : Region.Mode} {F : Nat → Fact} {a0 : Act} {w0 : World} {i : Nat} {o : Oper} {ts : Array TypeId}
theorem step_gl5 (hi : ops[i]? = some o) (g : Nat) (hop : o.op = .load 101 (.global g)) (A : Int) (hE : Em5 w0 g 0 A) (hF : F i = EM A) : StepOk Tryz.prog md ops Q F a0 w0 i := by
  refine step_load hi _ _ hop _ 5 u5 rfl i5 fun a w hb hw _ => ?_
  obtain ⟨t, r, _, h⟩ := hE.up hw
  exact ⟨g, 0, _, rfl, r, rfl, by rw [hF]; exact ⟨t, rfl, h⟩⟩
theorem step_glA (hi : ops[i]? = some o) (g : Nat) (hop : o.op = .load 103 (.global g)) (A B : Int) (hE : RowN w0 g 0 [A, B]) (hF : F i = EN [A, B]) : StepOk Tryz.prog md ops Q F a0 w0 i := by
  obtain ⟨fs, hu⟩ := uA
  refine step_load hi _ _ hop _ 10 hu rfl iA fun a w hb hw _ => ?_
  obtain ⟨t, r, _, h⟩ := hE.up hw
  exact ⟨g, 0, _, rfl, r, clN_len h, by rw [hF]; exact ⟨t, rfl, h⟩⟩
theorem step_lA (hi : ops[i]? = some o) (p : Nat) (hop : o.op = .load 103 (.tmp p)) (hp : apart ops p = true) (q : Nat) (h0 : a0.tmps.getD p undef = .pointer (some ⟨q, 0, none⟩)) (A B : Int) (hE : RowN w0 q 0 [A, B]) (hF : F i = EN [A, B]) : StepOk Tryz.prog md ops Q F a0 w0 i := by
  obtain ⟨fs, hu⟩ := uA
  exact step_en _ _ 10 hu rfl iA hi p hop hp q 0 h0 _ rfl hE hF
theorem step_lJf (hi : ops[i]? = some o) (p j : Nat) (hop : o.op = .load 188 (.tmp p)) (hj : waits md ops i j p = true) (q : Nat) (hFj : F j = Fact.eq (.pointer (some ⟨q, 0, none⟩))) (A B C : Int) (hE : RowN w0 q 0 [A, B, C]) (hF : F i = EN [A, B, C]) : StepOk Tryz.prog md ops Q F a0 w0 i := by
  obtain ⟨fs, hu⟩ := uJ
  exact step_enf _ _ 15 hu rfl iJ hi p j hop hj q 0 hFj _ rfl hE hF
theorem fresh_newN (ty : TypeId) (n : Nat) (cs : List Value) (hz : ∀ (a : Act) (w : World), (execOp a.eval o).run Tryz.prog w = .ok (.value (.pointer (some ⟨w.heap.size, 0, none⟩))) (w.alloc (.cells cs.toArray ty))) (hn : cs.length = n) (h0 : 0 < n) (hi : ops[i]? = some o) (hF : F i = NB w0 n) : FreshOk Tryz.prog md ops Q F a0 w0 i := by
  refine fresh_grow hi (.cells cs.toArray ty) fun a w hw => ⟨hz a w, ?_⟩
  rw [hF]
  exact ⟨h0, _, rfl, by rw [← hn]; exact there_new w cs ty, hw.size⟩
theorem fresh_newA (hi : ops[i]? = some o) (hop : o.op = .alloc 103) (hF : F i = NB w0 10) : FreshOk Tryz.prog md ops Q F a0 w0 i :=
  fresh_newN 103 10 (clN [sm5 0, sm5 0]) (fun a w => by
    simp only [execOp, hop]
    kernel_rfl) rfl (by omega) hi hF
theorem fresh_newX (hi : ops[i]? = some o) (hop : o.op = .alloc 190) (hF : F i = NB w0 20) : FreshOk Tryz.prog md ops Q F a0 w0 i :=
  fresh_newN 190 20 (clN [sm5 0, sm5 0, sm5 0, sm5 0]) (fun a w => by
    simp only [execOp, hop]
    kernel_rfl) rfl (by omega) hi hF
theorem step_newA (hi : ops[i]? = some o) (hop : o.op = .alloc 103) (hF : F i = NB w0 10) : StepOk Tryz.prog md ops Q F a0 w0 i := (fresh_newA hi hop hF).step
theorem step_newX (hi : ops[i]? = some o) (hop : o.op = .alloc 190) (hF : F i = NB w0 20) : StepOk Tryz.prog md ops Q F a0 w0 i := (fresh_newX hi hop hF).step
end
section
variable {ops : Array Oper} {Q : Exit → Act → World → Prop} {a0 : Act} {w : World} {id : Nat} {draw : Bool}
theorem region_new2 (k jA jV pA pV jB jU pB pU : Nat) (o1 o2 : Oper) (F : Nat → Fact) (A B : Int) (hT : textTail .any draw ops a0.tmps.size k = true) (hdrop : ops.toList.drop k = [o1, o2]) (hd1 : o1.dst = none) (hd2 : o2.dst = none)
    (hop1 : o1.op = .store 101 (.tmp pA) (.tmp pV)) (hop2 : o2.op = .store 101 (.tmp pB) (.tmp pU))
    (qA : decide (jA < k) = true) (qV : decide (jV < k) = true) (qB : decide (jB < k) = true) (qU : decide (jU < k) = true) (wA : writes ops jA pA = true) (wV : writes ops jV pV = true) (wB : writes ops jB pB = true) (wU : writes ops jU pU = true) (FA : F jA = NB w 5) (FV : F jV = EM A) (FB : F jB = NB w 5) (FU : F jU = EM B)
    (hne : jA ≠ jB) (fA : FreshOk Tryz.prog .any ops Q F a0 w jA) (fB : FreshOk Tryz.prog .any ops Q F a0 w jB) (steps : ∀ i, i < k → StepOk Tryz.prog .any ops Q F a0 w i)
    (fin : ∀ (vs : Nat → Value) (q q' : Nat) (W : World), vs pA = .pointer (some ⟨q, 0, none⟩) → vs pB = .pointer (some ⟨q', 0, none⟩) → w.heap.size ≤ q → w.heap.size ≤ q' → q ≠ q' → Below w.heap.size w W → Em5 W q 0 A → Em5 W q' 0 B → Q .normal (puts vs a0 ops.toList) W) :
    (Code.region id ops draw).wp Tryz.prog Q a0 w := by
  refine region_tail k F (by kernel_rfl) hT steps [(jA, pA), (jB, pB)] (fun p hp => ?_) (fun p hp p' hp' hn => ?_) fun a W hb hw hF hS => ?_
  · simp only [List.mem_cons, List.not_mem_nil, or_false] at hp
    rcases hp with rfl | rfl
    · exact ⟨of_decide_eq_true qA, wA, fA.g⟩
    · exact ⟨of_decide_eq_true qB, wB, fB.g⟩
  · simp only [List.mem_cons, List.not_mem_nil, or_false] at hp hp'
    rcases hp with rfl | rfl <;> rcases hp' with rfl | rfl
    · exact absurd rfl hn
    · exact hne
    · exact hne.symm
    · exact absurd rfl hn
  have h1 := hF jA pA qA wA
  have h2 := hF jV pV qV wV
  have h3 := hF jB pB qB wB
  have h4 := hF jU pU qU wU
  rw [FA] at h1
  rw [FV] at h2
  rw [FB] at h3
  rw [FU] at h4
  obtain ⟨_, q, eq, th, hq⟩ := h1
  obtain ⟨t, ev, V⟩ := h2
  obtain ⟨_, q', eq', th', hq'⟩ := h3
  obtain ⟨u, eu, U⟩ := h4
  have hn := hS (jA, pA) (by simp) (jB, pB) (by simp) (fun e => hne (Prod.mk.inj e).1)
  simp only at hn
  rw [eq, eq'] at hn
  have hqq : q ≠ q' := fun e => hn (by rw [e])
  rw [hdrop]
  show o1.wp _ a W (fun a' w' => o2.wp _ a' w' (fun a'' w'' => Q .normal a'' w'') Q) Q
  refine wp_store_mid 101 (.tmp pA) (.tmp pV) hop1 q 0 (cl5 t).toArray eq ev th i5 (cl5_one t) ?_
  rw [hd1]
  show o2.wp _ a _ _ _
  have b1 : ButQ q W (W.setCells q 0 (cl5 t)) := but_set (Below.refl _ _) _
  have n1 := below_setCells hq (cl5 t) 0 _ hw
  refine wp_store_mid 101 (.tmp pB) (.tmp pU) hop2 q' 0 (cl5 u).toArray eq' eu (there_but (n := 5) (by decide) th' b1 (Ne.symm hqq)) i5 (cl5_one u) ?_
  obtain ⟨vs, hvs⟩ : ∃ vs : Nat → Value, ∀ d, a.tmps.getD d undef = vs d := ⟨_, fun _ => rfl⟩
  rw [hd2]
  show Q .normal a _
  rw [puts_tail hT rfl hb vs hvs]
  exact fin vs q q' _ ((hvs pA).symm.trans eq) ((hvs pB).symm.trans eq') hq hq' hqq (below_setCells hq' _ _ _ n1) ((set_em th V).but (but_set (q := q') (Below.refl _ _) _) hqq) (set_em (there_but (by decide) th' b1 (Ne.symm hqq)) U)
theorem region_new3 (k jA jV pA pV jB jU pB pU jC jX pC pX : Nat) (o1 o2 o3 : Oper) (F : Nat → Fact) (A B C : Int) (hT : textTail .any draw ops a0.tmps.size k = true) (hdrop : ops.toList.drop k = [o1, o2, o3]) (hd1 : o1.dst = none) (hd2 : o2.dst = none) (hd3 : o3.dst = none)
    (hop1 : o1.op = .store 101 (.tmp pA) (.tmp pV)) (hop2 : o2.op = .store 101 (.tmp pB) (.tmp pU)) (hop3 : o3.op = .store 101 (.tmp pC) (.tmp pX))
    (qA : decide (jA < k) = true) (qV : decide (jV < k) = true) (qB : decide (jB < k) = true) (qU : decide (jU < k) = true) (qC : decide (jC < k) = true) (qX : decide (jX < k) = true) (wA : writes ops jA pA = true) (wV : writes ops jV pV = true) (wB : writes ops jB pB = true) (wU : writes ops jU pU = true) (wC : writes ops jC pC = true) (wX : writes ops jX pX = true)
    (FA : F jA = NB w 5) (FV : F jV = EM A) (FB : F jB = NB w 5) (FU : F jU = EM B) (FC : F jC = NB w 5) (FX : F jX = EM C)
    (hAB : jA ≠ jB) (hAC : jA ≠ jC) (hBC : jB ≠ jC) (fA : FreshOk Tryz.prog .any ops Q F a0 w jA) (fB : FreshOk Tryz.prog .any ops Q F a0 w jB) (fC : FreshOk Tryz.prog .any ops Q F a0 w jC) (steps : ∀ i, i < k → StepOk Tryz.prog .any ops Q F a0 w i)
    (fin : ∀ (vs : Nat → Value) (q q' q'' : Nat) (W : World), vs pA = .pointer (some ⟨q, 0, none⟩) → vs pB = .pointer (some ⟨q', 0, none⟩) → vs pC = .pointer (some ⟨q'', 0, none⟩) → w.heap.size ≤ q → w.heap.size ≤ q' → w.heap.size ≤ q'' → Below w.heap.size w W → Em5 W q 0 A → Em5 W q' 0 B → Em5 W q'' 0 C → Q .normal (puts vs a0 ops.toList) W) :
    (Code.region id ops draw).wp Tryz.prog Q a0 w := by
  refine region_tail k F (by kernel_rfl) hT steps [(jA, pA), (jB, pB), (jC, pC)] (fun p hp => ?_) (fun p hp p' hp' hn => ?_) fun a W hb hw hF hS => ?_
  · simp only [List.mem_cons, List.not_mem_nil, or_false] at hp
    rcases hp with rfl | rfl | rfl
    · exact ⟨of_decide_eq_true qA, wA, fA.g⟩
    · exact ⟨of_decide_eq_true qB, wB, fB.g⟩
    · exact ⟨of_decide_eq_true qC, wC, fC.g⟩
  · simp only [List.mem_cons, List.not_mem_nil, or_false] at hp hp'
    rcases hp with rfl | rfl | rfl <;> rcases hp' with rfl | rfl | rfl
    · exact absurd rfl hn
    · exact hAB
    · exact hAC
    · exact hAB.symm
    · exact absurd rfl hn
    · exact hBC
    · exact hAC.symm
    · exact hBC.symm
    · exact absurd rfl hn
  have h1 := hF jA pA qA wA
  have h2 := hF jV pV qV wV
  have h3 := hF jB pB qB wB
  have h4 := hF jU pU qU wU
  have h5 := hF jC pC qC wC
  have h6 := hF jX pX qX wX
  rw [FA] at h1
  rw [FV] at h2
  rw [FB] at h3
  rw [FU] at h4
  rw [FC] at h5
  rw [FX] at h6
  obtain ⟨_, q, eq, th, hq⟩ := h1
  obtain ⟨t, ev, V⟩ := h2
  obtain ⟨_, q', eq', th', hq'⟩ := h3
  obtain ⟨u, eu, U⟩ := h4
  obtain ⟨_, q'', eq'', th'', hq''⟩ := h5
  obtain ⟨x, ex, X⟩ := h6
  have n1 := hS (jA, pA) (by simp) (jB, pB) (by simp) (fun e => hAB (Prod.mk.inj e).1)
  have n2 := hS (jA, pA) (by simp) (jC, pC) (by simp) (fun e => hAC (Prod.mk.inj e).1)
  have n3 := hS (jB, pB) (by simp) (jC, pC) (by simp) (fun e => hBC (Prod.mk.inj e).1)
  simp only at n1 n2 n3
  rw [eq, eq'] at n1
  rw [eq, eq''] at n2
  rw [eq', eq''] at n3
  have m1 : q ≠ q' := fun e => n1 (by rw [e])
  have m2 : q ≠ q'' := fun e => n2 (by rw [e])
  have m3 : q' ≠ q'' := fun e => n3 (by rw [e])
  rw [hdrop]
  show o1.wp _ a W (fun a' w' => o2.wp _ a' w' (fun a'' w'' => o3.wp _ a'' w'' (fun a3 w3 => Q .normal a3 w3) Q) Q) Q
  refine wp_store_mid 101 (.tmp pA) (.tmp pV) hop1 q 0 (cl5 t).toArray eq ev th i5 (cl5_one t) ?_
  rw [hd1]
  show o2.wp _ a _ _ _
  have b1 : ButQ q W (W.setCells q 0 (cl5 t)) := but_set (Below.refl _ _) _
  have k1 := below_setCells hq (cl5 t) 0 _ hw
  have tB := there_but (n := 5) (by decide) th' b1 (Ne.symm m1)
  have tC := there_but (n := 5) (by decide) th'' b1 (Ne.symm m2)
  have e1 := set_em th V
  show o2.wp _ a (W.setCells q 0 (cl5 t)) _ _
  generalize W.setCells q 0 (cl5 t) = W1 at *
  refine wp_store_mid 101 (.tmp pB) (.tmp pU) hop2 q' 0 (cl5 u).toArray eq' eu tB i5 (cl5_one u) ?_
  rw [hd2]
  show o3.wp _ a (W1.setCells q' 0 (cl5 u)) _ _
  have b2 : ButQ q' W1 (W1.setCells q' 0 (cl5 u)) := but_set (Below.refl _ _) _
  have k2 := below_setCells hq' (cl5 u) 0 _ k1
  have tC' := there_but (n := 5) (by decide) tC b2 (Ne.symm m3)
  have e1' := e1.but b2 m1
  have e2 := set_em tB U
  generalize W1.setCells q' 0 (cl5 u) = W2 at *
  refine wp_store_mid 101 (.tmp pC) (.tmp pX) hop3 q'' 0 (cl5 x).toArray eq'' ex tC' i5 (cl5_one x) ?_
  obtain ⟨vs, hvs⟩ : ∃ vs : Nat → Value, ∀ d, a.tmps.getD d undef = vs d := ⟨_, fun _ => rfl⟩
  rw [hd3]
  show Q .normal a (W2.setCells q'' 0 (cl5 x))
  rw [puts_tail hT rfl hb vs hvs]
  have b3 : ButQ q'' W2 (W2.setCells q'' 0 (cl5 x)) := but_set (Below.refl _ _) _
  exact fin vs q q' q'' _ ((hvs pA).symm.trans eq) ((hvs pB).symm.trans eq') ((hvs pC).symm.trans eq'') hq hq' hq'' (below_setCells hq'' _ _ _ k2) (e1'.but b3 m2) (e2.but b3 m3) (set_em tC' X)
end
end Go.Proofs.YthonlkghkdjagaaGreatDoor
