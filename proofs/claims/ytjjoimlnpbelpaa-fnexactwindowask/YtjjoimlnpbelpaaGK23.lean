import Derived.Test.YtjjoimlnpbelpaaGK20
import Derived.Test.YtjjoimlnpbelpaaGK22

/-
  Windows that are asked: the program (written by gens/wan.py).
-/
namespace Go.Proofs.Ytjjoimlnpbelpaa
open Go Go.RowKit Go.Maps

set_option maxRecDepth 100000 in
theorem isTime_any (w : World) (n : Int) : Calls Try.prog 23 #[.int .i64 n] w fun e w' => e = .returned (.bool (tmO n)) ∧ w' = w := by
  by_cases h : 0 ≤ n
  · have u : decide (0 ≤ n) = true := decide_eq_true h
    unfold tmO
    rw [u]
    go_enter Try.func23, Try.ntmps23
    go_wp2
    go_ret
    exact ⟨by simp, rfl⟩
  · have u : decide (0 ≤ n) = false := decide_eq_false h
    unfold tmO
    rw [u]
    go_enter Try.func23, Try.ntmps23
    go_wp2
    go_ret
    exact ⟨by simp, rfl⟩
section
variable {P : Program} {ops : Array Oper} {Q : Exit → Act → World → Prop} {a0 : Act}
set_option maxRecDepth 100000 in
theorem region_callB {id : Nat} {w : World} {draw : Bool} (k : Nat) (o o2 : Oper) (F : Nat → Fact) (hm : P.follows .mixedOrders = true) (hT : textTail .any draw ops a0.tmps.size k = true) (hk : ops.toList.drop k = [o, o2]) (ho : ops[k]? = some o) (ho2 : ops[k + 1]? = some o2) (dd d2 : Nat) (hdd : o.dst = some dd) (hd2 : o2.dst = some d2) (hop2 : o2.op = .assign (.tmp dd)) (s1 : dd < a0.tmps.size) (s2 : d2 < a0.tmps.size)
    (steps : ∀ i, i < k → StepOk P .any ops Q F a0 w i)
    (n : FuncId) (args : Array Operand) (ts : Array TypeId) (hop : o.op = .call { callee := .value (.func n), args := args, argTypes := ts }) (he : enters P n = true)
    (fin : ∀ a w', Based ops a0 a → Below w.heap.size w w' → (∀ i d, decide (i < k) = true → writes ops i d = true → (F i).p (a.tmps.getD d undef) w') →
      Calls P n (args.toList.map a.eval).toArray w' fun e w'' => ∃ v, e = .returned v ∧ ∀ vs : Nat → Value, vs d2 = v → Q .normal (puts vs a0 ops.toList) w'') : (Code.region id ops draw).wp P Q a0 w := by
  refine region_tail k F hm hT steps [] (by simp) (by simp) fun a w' hb hw hf _ => ?_
  rw [hk]
  show o.wp P a w' (fun a' w'' => o2.wp P a' w'' (fun a'' w3 => Q .normal a'' w3) Q) Q
  have hr : (execOp a.eval o).run P w' = .ok (.enter n (args.map a.eval)) w' := by
    have h0 : (Deferred.ofValue (Value.func (Fn.func n) #[] #[]) (args.map a.eval)).run P w' = .ok { target := .fn (.func n) #[], args := args.map a.eval } w' := by simp [Deferred.ofValue]
    simp [execOp, hop, resolve, invoke, Act.eval, h0, run_enter he]
  have e : args.map a.eval = (args.toList.map a.eval).toArray := by cases args; simp
  unfold Oper.wp
  rw [hr, e, Oper.upon_enter]
  refine (fin a w' hb hw hf).mono ?_
  rintro e w'' ⟨v, rfl, hv⟩
  have hb1 := Based.put hb ho v
  have ea : (a.put o.dst v).eval (.tmp dd) = v := by
    rw [hdd]
    exact put_at (by rw [hb.2.1]; exact s1)
  have hr2 : (execOp (a.put o.dst v).eval o2).run P w'' = .ok (.value v) w'' := by
    simp [execOp, hop2, ea]
  have hb2 := Based.put hb1 ho2 v
  have e3 : ((a.put o.dst v).put o2.dst v).tmps.getD d2 undef = v := by
    rw [hd2]
    exact put_at (by rw [hb1.2.1]; exact s2)
  show o2.upon P (a.put o.dst v) (fun a'' w3 => Q .normal a'' w3) Q ((execOp (a.put o.dst v).eval o2).run P w'')
  rw [hr2, Oper.upon_value]
  show Q .normal ((a.put o.dst v).put o2.dst v) w''
  obtain ⟨vs, hvs⟩ : ∃ vs : Nat → Value, ∀ d, ((a.put o.dst v).put o2.dst v).tmps.getD d undef = vs d := ⟨_, fun _ => rfl⟩
  rw [puts_tail hT rfl hb2 vs hvs]
  exact hv vs (by rw [← hvs, e3])
end
set_option maxRecDepth 100000 in
theorem iWa : (Try.prog.info? 31).map (·.size) = some 3 := by kernel_rfl
set_option maxRecDepth 100000 in
theorem rowWa : ∃ d, Try.prog.underlying 31 = some d ∧ d.isRow = true := ⟨_, Try.underlying31, rfl⟩
set_option maxRecDepth 100000 in
/-- What is answered. -/
def AwP (w : World) (wd : Int) (ms : List Mrk) (X : List Int) (now : Int) (e : Ending) (w' : World) : Prop := (∃ v bs, e = .returned (.agg #[.int .i64 (askC wd ms X now), .int .i64 (askW wd ms X now), v]) ∧ IRow w' w.heap.size v (askM wd ms X now) bs) ∧ Below w.heap.size w w'
set_option maxRecDepth 100000 in
theorem awP_bad {w w' : World} {wd : Int} {ms : List Mrk} {X : List Int} {now : Int} (h : ¬ AskOk wd ms X now) (n : Below w.heap.size w w') : AwP w wd ms X now (.returned (.agg #[.int .i64 3, .int .i64 0, .slice none 0 0])) w' := by
  refine ⟨⟨.slice none 0 0, [], ?_, ?_⟩, n⟩
  · unfold askC askW
    rw [if_neg h, if_neg h]
  · unfold askM
    rw [if_neg h]
    exact IRow.nil _ _
set_option maxRecDepth 100000 in
theorem RwC.gr {w w' : World} {q b : Nat} {cs : List Value} {t : TypeId} (h : RwC w q cs t) (n : w.grownBy w' (some b)) (hq : q ≠ b) : RwC w' q cs t := (n.block q h.lt (fun e => hq (by cases e; rfl))).trans h
set_option maxRecDepth 100000 in
theorem Rd.gr {w w' : World} {g b : Nat} {a : Option Addr} {k : IntKind} {xs : List Int} (h : Rd w g a k xs) (h0 : 0 < xs.length) (n : w.grownBy w' (some b)) (hq : g ≠ b) : Rd w' g a k xs := h.of_block (n.block g (h.lt h0) (fun e => hq (by cases e; rfl)))
set_option maxRecDepth 100000 in
/-- A row of marks that was answered. -/
def MkF (B : Nat) (its : List (Int × List Int)) : Fact := ⟨fun v w => ∃ bs, IRow w B v its bs, fun n h => by
  obtain ⟨bs, R⟩ := h
  exact ⟨bs, R.of fun k hk _ => n.block k hk⟩⟩
set_option maxRecDepth 100000 in
/-- A window, or an answer, with such a row at its end. -/
def MkG (B : Nat) (its : List (Int × List Int)) (pre : List Value) : Fact := ⟨fun v w => ∃ x bs, v = .agg (pre ++ [x]).toArray ∧ IRow w B x its bs, fun n h => by
  obtain ⟨x, bs, e, R⟩ := h
  exact ⟨x, bs, e, R.of fun k hk _ => n.block k hk⟩⟩
set_option maxRecDepth 100000 in
theorem markFits (x : List Int) (h : x.length = 32) : (x.map (Value.int .u8)).length = 32 := by rw [List.length_map]; exact h
set_option maxRecDepth 100000 in
set_option maxHeartbeats 8000000 in
theorem implAsk_any (w : World) (wd : Int) (g : Nat) (a : Option Addr) (c : Nat) (ms : List Mrk) (ps : List Plm) (hr : RdK w g a ms ps) (hb : ∀ i, i < ms.length → Byt (ms.getD i mrk0).id) (g1 : Nat) (a1 : Option Addr) (c1 : Nat) (X : List Int) (hX : Rd w g1 a1 .u8 X) (bX : Byt X) (now : Int) :
    Calls Try.prog 8 #[.agg #[.int .i64 wd, .slice a ms.length c], .slice a1 X.length c1, .int .i64 now] w fun e w' => AwP w wd ms X now e w' := by
  obtain ⟨d3, hd3, hrow3⟩ := rowWa
  have n0 : Below w.heap.size w ((w.alloc (.cells #[.int .i64 wd, .slice a ms.length c] 29)).alloc (.cells #[.int .i64 0, .int .i64 0, .slice none 0 0] 31)) := ((Below.refl _ _).alloc (Nat.le_refl _) _).alloc (by simp) _
  have z1 : (w.alloc (.cells #[.int .i64 wd, .slice a ms.length c] 29)).heap.size = w.heap.size + 1 := by simp
  have T0 : RwC ((w.alloc (.cells #[.int .i64 wd, .slice a ms.length c] 29)).alloc (.cells #[.int .i64 0, .int .i64 0, .slice none 0 0] 31)) w.heap.size [.int .i64 wd, .slice a ms.length c] 29 := (RwC.new w _ _).push _
  have U0 : RwC ((w.alloc (.cells #[.int .i64 wd, .slice a ms.length c] 29)).alloc (.cells #[.int .i64 0, .int .i64 0, .slice none 0 0] 31)) (w.heap.size + 1) [.int .i64 0, .int .i64 0, .slice none 0 0] 31 := by
    have h := RwC.new (w.alloc (.cells #[.int .i64 wd, .slice a ms.length c] 29)) [.int .i64 0, .int .i64 0, .slice none 0 0] 31
    rwa [z1] at h
  have BO := hide (bookP_any ((w.alloc (.cells #[.int .i64 wd, .slice a ms.length c] 29)).alloc (.cells #[.int .i64 0, .int .i64 0, .slice none 0 0] 31)) wd g a c ms ps (hr.up n0) hb)
  have BAD := hide (fun w' h n => awP_bad (w := w) (w' := w') (wd := wd) (ms := ms) (X := X) (now := now) h n)
  have HX := hide hX
  have HB := hide hb
  have AE := hide (And.intro (askE_asc wd ms X now) (And.intro (askE_pos wd ms X now) (askE_len wd ms X now)))
  have IT := fun W => hide (isTime_any W now)
  have FW := hide (fun h => wfV_zero (wd := wd) (ms := ms) h)
  have BK := hide (fun h => bkP_bk (ms := ms) h hb ms.length (Nat.le_refl _))
  have N0 := hide n0
  have TT := hide T0
  have UU := hide U0
  clear n0 T0 U0 hX hr hb
  go_enter Try.func8, Try.ntmps8
  go_upto_region 1 with fail
  try rw [z1]
  clear z1
  generalize (w.alloc (.cells #[.int .i64 wd, .slice a ms.length c] 29)).alloc (.cells #[.int .i64 0, .int .i64 0, .slice none 0 0] 31) = W0 at *
  have t0 := TT.out.c0
  have t1 := TT.out.c1
  go_wp2_with fail
  refine BO.out.mono ?_
  rintro e w1 ⟨⟨v, rfl, hv⟩, n1⟩
  have HV := hide hv
  have N1 := hide (nxt N0.out n1)
  have hs0 := UU.out.lt
  have T1 := TT.out.up n1
  have U1 := UU.out.up n1
  have NN1 := hide n1
  clear BO hv n1 TT UU t0 t1
  obtain ⟨fl, hfl⟩ : ∃ fl, fl = wfV wd ms := ⟨_, rfl⟩
  have HFL := hide hfl
  rw [← hfl]
  clear hfl
  have RS : Hid (World.rangeAt (((w1.setCell ⟨w.heap.size + 1, 0, none⟩ (.int .i64 3)).setCell ⟨w.heap.size + 1, 1, none⟩ (.int .i64 0)).setCell ⟨w.heap.size + 1, 2, none⟩ (.slice none 0 0)) (w.heap.size + 1) 0 [.int .i64 3, .int .i64 0, .slice none 0 0]) := (((U1.set 0 _).set 1 _).set 2 _).rangeG
  have NS : Hid (Below w.heap.size w (((w1.setCell ⟨w.heap.size + 1, 0, none⟩ (.int .i64 3)).setCell ⟨w.heap.size + 1, 1, none⟩ (.int .i64 0)).setCell ⟨w.heap.size + 1, 2, none⟩ (.slice none 0 0))) := N1.out.trans ((((Only.setCell _ _ _ _).trans (Only.setCell _ _ _ _)).trans (Only.setCell _ _ _ _)).below (by omega))
  have v0 := U1.c0
  have v1 := U1.c1
  have v2 := U1.c2
  have f0 := U1.free 0
  have f1 := U1.free 1
  have f2 := U1.free 2
  by_cases hf : fl = 0
  rotate_left
  · have bad : Hid (¬ AskOk wd ms X now) := fun h => hf (by rw [HFL.out]; exact h.1)
    have tf : (fl != 0) = true := by simp [hf]
    have RES := hide (BAD.out _ bad.out NS.out)
    clear HV BK FW AE HX HB HFL BAD NS N1 NN1 IT hf
    go_wp2
    exact bodyPost_ret (v := .agg #[.int .i64 3, .int .i64 0, .slice none 0 0]) (results_cellG Try.results8 _ _ (w.heap.size + 1) _ d3 rfl RS.out hd3 hrow3 iWa) rfl RES.out
  have tf : (fl != 0) = false := by simp [hf]
  by_cases hx : X.length = 32
  rotate_left
  · have bad : Hid (¬ AskOk wd ms X now) := fun h => hx h.2.1
    have tx : ((X.length : Int) != 32) = true := by simp; omega
    have RES := hide (BAD.out _ bad.out NS.out)
    clear HV BK FW AE HX HB HFL BAD NS N1 NN1 IT hf
    go_wp2
    exact bodyPost_ret (v := .agg #[.int .i64 3, .int .i64 0, .slice none 0 0]) (results_cellG Try.results8 _ _ (w.heap.size + 1) _ d3 rfl RS.out hd3 hrow3 iWa) rfl RES.out
  have tx : ((X.length : Int) != 32) = false := by simp; omega
  have HXL := hide hx
  have XB : Hid (Byt X) := bX
  cases htm : tmO now with
  | false =>
    have bad : Hid (¬ AskOk wd ms X now) := fun h => by have := h.2.2; rw [htm] at this; cases this
    have RES := hide (BAD.out _ bad.out NS.out)
    have IT1 := IT w1
    rw [htm] at IT1
    clear HV BK FW AE HX HB HFL BAD NS N1 NN1 IT hf hx
    go_wp2_with fail
    refine IT1.out.mono ?_
    rintro e w2 ⟨rfl, rfl⟩
    go_wp2
    exact bodyPost_ret (v := .agg #[.int .i64 3, .int .i64 0, .slice none 0 0]) (results_cellG Try.results8 _ _ (w.heap.size + 1) _ d3 rfl RS.out hd3 hrow3 iWa) rfl RES.out
  | true =>
    have ok : Hid (AskOk wd ms X now) := ⟨by rw [← HFL.out]; exact hf, hx, htm⟩
    obtain ⟨b, rfl, hbw, own⟩ := HV.out (by rw [← HFL.out]; exact hf)
    obtain ⟨w1', w2', w3', w4'⟩ := FW.out (by rw [← HFL.out]; exact hf)
    have IT1 := IT w1
    rw [htm] at IT1
    have FO := hide (forget_any w1 b ms.length (bkP ms ms.length) (entsTo ms ms.length) now own (BK.out w3'))
    have B1 : 0 ≤ wd ∧ wd ≤ 86400 := by unfold wdO at w1'; simpa using w1'
    have B2 : 0 ≤ now ∧ now ≤ 253402300799 := by unfold tmO at htm; simpa using htm
    have ML := hide w2'
    have hbl := own.lt
    rw [hx]
    clear HV BK FW HB HFL BAD NS RS IT hf hx own w1' w2' w3' w4' v0 v1 v2 f0 f1 f2 htm bX
    go_wp2_with fail
    refine IT1.out.mono ?_
    rintro e w2 ⟨rfl, rfl⟩
    go_wp2_with fail
    refine FO.out.mono ?_
    rintro e w3 ⟨rfl, ⟨D3, o3, k3⟩, gr3⟩
    have hbW : w.heap.size + 1 < b := by omega
    have hb0 : w.heap.size ≠ b := by omega
    have hb1 : w.heap.size + 1 ≠ b := by omega
    have N3 : Hid (Below w.heap.size w w3) := N1.out.grown gr3 N1.out.size (fun j hj => by cases hj; omega)
    have T3 := T1.gr gr3 hb0
    have U3 := U1.gr gr3 hb1
    have q0 := T3.c0
    have q1 := T3.c1
    have hs3 : w.heap.size + 1 < w3.heap.size := U3.lt
    have l3 : b < w3.heap.size := o3.lt
    have B4 := RwC.new w3 [.int .i64 (ms.length : Int), .int .i64 (now + 2 * wd)] 55
    have n4 : Below w3.heap.size w3 (w3.alloc (.cells #[.int .i64 (ms.length : Int), .int .i64 (now + 2 * wd)] 55)) := (Below.refl _ _).alloc (Nat.le_refl _) _
    have TT4 := hide (T3.up n4)
    have UU4 := hide (U3.up n4)
    have O4 := hide (ownP o3 n4)
    have N4 := hide (nxt N3.out n4)
    have X4 := hide (HX.out.up (nxt N3.out n4))
    have BB4 := hide B4
    have K3 := hide k3
    have EX : Hid (tkE (List.filter (fun e => decide (now ≤ e.un)) (entsTo ms ms.length)) X (ms.length : Int) (now + 2 * wd) = askE wd ms X now) := rfl
    have CX : Hid (tkC (List.filter (fun e => decide (now ≤ e.un)) (entsTo ms ms.length)) X = askC wd ms X now) := by
      show _ = _
      unfold askC
      rw [if_pos ok.out]
      rfl
    have WX : Hid (wd = askW wd ms X now) := by
      show _ = _
      unfold askW
      rw [if_pos ok.out]
    have MX : Hid (mkOf (askE wd ms X now) = askM wd ms X now) := by
      show _ = _
      unfold askM
      rw [if_pos ok.out]
    clear HX N3 n4 B4
    clear gr3 o3 k3 T3 U3 T1 U1 FO IT1 N1 NN1 hbw hbl hs0
    go_upto_region 6 with fail
    clear q0 q1
    generalize hw4 : w3.alloc (.cells #[.int .i64 (ms.length : Int), .int .i64 (now + 2 * wd)] 55) = w4 at *
    clear hw4
    have hs4 : w.heap.size + 1 < w4.heap.size := UU4.out.lt
    generalize List.filter (fun e => decide (now ≤ e.un)) (entsTo ms ms.length) = E3 at *
    generalize w3.heap.size = pq at *
    have HP : 0 < X.length := by rw [HXL.out]; decide
    obtain ⟨o, rfl, hx⟩ := X4.out HP
    have RG : Hid (World.rangeAt w4 g1 o (X.map (Value.int .u8))) := fun j v hj => by
      have hj' : j < X.length := by
        have := (List.getElem?_eq_some_iff.1 hj).1
        simpa using this
      rw [hx j hj']
      rw [List.getElem?_map, List.getElem?_eq_getElem hj'] at hj
      rw [← hj, List.getD_eq_getElem?_getD, List.getElem?_eq_getElem hj']
      rfl
    clear hx X4 HP
    refine region_callB 5 _ _ (fun i => [Fact.eq (.map (some b)), Fact.eq (.slice (some ⟨g1, o, none⟩) 32 c1), Fact.eq (.pointer (some ⟨g1, o, none⟩)), Fact.eq (idV X), Fact.eq (pmV (ms.length : Int) (now + 2 * wd))].getD i Fact.no) (by kernel_rfl) (by kernel_rfl) rfl rfl rfl 46 10 rfl rfl rfl (by show (46 : Nat) < 54; decide) (by show (10 : Nat) < 54; decide) ?_ 25 _ _ rfl (by kernel_rfl) ?_
    · intro i hi
      obtain rfl | rfl | rfl | rfl | rfl : i = 0 ∨ i = 1 ∨ i = 2 ∨ i = 3 ∨ i = 4 := by omega
      · refine step_pure rfl fun A ww hb hw hf => ?_
        have e0 : A.tmps[7]?.getD undef = .map (some b) := gdv (hb.2.2 7 (by kernel_rfl))
        exact ⟨.map (some b), by simp [go_sem, e0], rfl⟩
      · refine step_pure rfl fun A ww hb hw hf => ?_
        have e0 : A.tmps[1]?.getD undef = .slice (some ⟨g1, o, none⟩) 32 c1 := gdv (hb.2.2 1 (by kernel_rfl))
        exact ⟨.slice (some ⟨g1, o, none⟩) 32 c1, by simp [go_sem, e0], rfl⟩
      · refine step_pure rfl fun A ww hb hw hf => ?_
        have e1 : A.tmps[42]?.getD undef = .slice (some ⟨g1, o, none⟩) 32 c1 := gdv (hf 1 42 (by kernel_rfl))
        have ra := run_arrayAt (P := Try.prog) (w := ww) 58 5 32 (some ⟨g1, o, none⟩) 32 c1 uId (by decide)
        exact ⟨.pointer (some ⟨g1, o, none⟩), by simp [go_sem, e1, ra], rfl⟩
      · exact step_load rfl 58 (.tmp 43) rfl _ 32 uId rfl (by kernel_rfl) fun A ww hb hw hf => ⟨g1, o, X.map (Value.int .u8), hf 2 43 (by kernel_rfl), rangeK RG.out hw, by rw [List.length_map, HXL.out], rfl⟩
      · exact step_load rfl 55 (.tmp 9) rfl _ 2 Try.underlying55 rfl (by kernel_rfl) fun A ww hb hw hf => ⟨pq, 0, [.int .i64 (ms.length : Int), .int .i64 (now + 2 * wd)], hb.2.2 9 (by kernel_rfl), rangeK BB4.out.rangeG hw, rfl, rfl⟩
    intro A W hb hw hF
    have e41 : A.tmps.getD 41 undef = .map (some b) := hF 0 41 (by kernel_rfl) (by kernel_rfl)
    have e44 : A.tmps.getD 44 undef = idV X := hF 3 44 (by kernel_rfl) (by kernel_rfl)
    have e45 : A.tmps.getD 45 undef = pmV (ms.length : Int) (now + 2 * wd) := hF 4 45 (by kernel_rfl) (by kernel_rfl)
    show Calls Try.prog 25 #[A.tmps.getD 41 undef, A.tmps.getD 44 undef, A.tmps.getD 45 undef] W _
    rw [e41, e44, e45]
    refine (take_any W b ms.length D3 E3 X HXL.out XB.out (ms.length : Int) (now + 2 * wd) (ownP O4.out hw) K3.out (by have := ML.out; omega)).mono ?_
    rintro r w7 ⟨rfl, ⟨D7, o7, k7⟩, gr7⟩
    refine ⟨_, rfl, fun vs e2 => ?_⟩
    have N7 : Hid (Below w.heap.size w w7) := (nxt N4.out hw).grown gr7 (nxt N4.out hw).size (fun j hj => by cases hj; omega)
    have T7 := (TT4.out.up hw).gr gr7 hb0
    have U7 := (UU4.out.up hw).gr gr7 hb1
    rw [EX.out] at k7
    rw [CX.out] at e2
    have MK := fun ww (n : Below w7.heap.size w7 ww) => marks_any ww b (ms.length + 1) D7 _ k7 (ownP o7 n) (by have := AE.out.2.2; have := ML.out; omega) AE.out.2.1 AE.out.1
    have MK' := hide MK
    clear hb hF e41 e44 e45 hw gr7 RG o7 k7 MK BB4 O4 N4 K3 TT4 UU4 EX CX
    simp only [puts, e2, Act.put, List.setIfInBounds_toArray, List.set_cons_succ, List.set_cons_zero]
    clear e2
    go_upto_region 7 with fail
    obtain ⟨cd, hcd⟩ : ∃ cd, cd = askC wd ms X now := ⟨_, rfl⟩
    have CD := hide hcd
    rw [← hcd]
    clear hcd
    generalize hmk : mkOf (askE wd ms X now) = its at *
    clear hmk
    have hs7 : w.heap.size + 1 < w7.heap.size := U7.lt
    refine region_putT 7 6 6 53 _ (fun i => [Fact.eq (.int .i64 cd), Fact.eq (.pointer (some ⟨w.heap.size, 0, none⟩)), Fact.eq (.int .i64 wd), Fact.eq (.map (some b)), MkF w7.heap.size its, MkG w7.heap.size its [.int .i64 wd], MkG w7.heap.size its [.int .i64 cd, .int .i64 wd]].getD i Fact.no) 31 [.int .i64 0, .int .i64 0, .slice none 0 0] (w.heap.size + 1) (MkG w7.heap.size its [.int .i64 cd, .int .i64 wd]) (by kernel_rfl) (by kernel_rfl) rfl rfl rfl iWa (fun a hb => hb.2.2 6 (by kernel_rfl)) U7 (by kernel_rfl) rfl ?_ ?_ ?_
    · rintro v W ⟨x, bs, rfl, R⟩
      obtain ⟨ax, cx, rfl, -⟩ := R.slice
      exact ⟨[.int .i64 cd, .int .i64 wd, .slice ax its.length cx], rfl, rfl, by simp [Value.oneCell']⟩
    · intro i hi
      obtain rfl | rfl | rfl | rfl | rfl | rfl | rfl : i = 0 ∨ i = 1 ∨ i = 2 ∨ i = 3 ∨ i = 4 ∨ i = 5 ∨ i = 6 := by omega
      · refine step_pure rfl fun A ww hb hw hf => ?_
        have e0 : A.tmps[10]?.getD undef = .int .i64 cd := gdv (hb.2.2 10 (by kernel_rfl))
        exact ⟨.int .i64 cd, by simp [go_sem, e0], rfl⟩
      · refine step_pure rfl fun A ww hb hw hf => ?_
        have e0 : A.tmps[3]?.getD undef = .pointer (some ⟨w.heap.size, 0, none⟩) := gdv (hb.2.2 3 (by kernel_rfl))
        exact ⟨.pointer (some ⟨w.heap.size, 0, none⟩), by simp [go_sem, e0], rfl⟩
      · refine step_pure rfl fun A ww hb hw hf => ?_
        have e0 : A.tmps[48]?.getD undef = .pointer (some ⟨w.heap.size, 0, none⟩) := gdv (hf 1 48 (by kernel_rfl))
        have hc := (T7.up hw).c0
        exact ⟨_, by simp [go_sem, e0, hc], rfl⟩
      · refine step_pure rfl fun A ww hb hw hf => ?_
        have e0 : A.tmps[7]?.getD undef = .map (some b) := gdv (hb.2.2 7 (by kernel_rfl))
        exact ⟨.map (some b), by simp [go_sem, e0], rfl⟩
      · refine step_callv rfl 26 _ _ rfl (by kernel_rfl) fun A ww hb hw hf => ?_
        have e6 : A.tmps.getD 50 undef = .map (some b) := hf 3 50 (by kernel_rfl)
        show Calls Try.prog 26 #[A.tmps.getD 50 undef] ww _
        rw [e6]
        refine (MK'.out ww hw).mono ?_
        rintro r w' ⟨⟨v, bs, rfl, R⟩, n⟩
        exact ⟨v, rfl, n, bs, R.base hw.size⟩
      · refine step_pure rfl fun A ww hb hw hf => ?_
        have e0 : A.tmps[49]?.getD undef = .int .i64 wd := gdv (hf 2 49 (by kernel_rfl))
        obtain ⟨bs, R⟩ := hf 4 51 (by kernel_rfl)
        obtain ⟨ax, cx, e1, -⟩ := R.slice
        have e1' : A.tmps[51]?.getD undef = .slice ax its.length cx := gdv e1
        rw [e1] at R
        exact ⟨.agg #[.int .i64 wd, .slice ax its.length cx], by simp [go_sem, e0, e1'], _, bs, rfl, R⟩
      · refine step_pure rfl fun A ww hb hw hf => ?_
        have e0 : A.tmps[47]?.getD undef = .int .i64 cd := gdv (hf 0 47 (by kernel_rfl))
        obtain ⟨x, bs, e1, R⟩ := hf 5 52 (by kernel_rfl)
        obtain ⟨ax, cx, rfl, -⟩ := R.slice
        have e1' : A.tmps[52]?.getD undef = .agg #[.int .i64 wd, .slice ax its.length cx] := gdv e1
        exact ⟨.agg #[.int .i64 cd, .int .i64 wd, .slice ax its.length cx], by simp [go_sem, e0, e1'], _, bs, rfl, R⟩
    intro vs W W9 cs hw rq hG OQ rc
    obtain ⟨x, bs, ec, R⟩ := hG
    obtain ⟨ax, cx, rfl, -⟩ := R.slice
    have ec' : cs = [.int .i64 cd, .int .i64 wd, .slice ax its.length cx] := by
      simp only [Value.agg.injEq] at ec
      have := congrArg Array.toList ec
      simpa using this
    subst ec'
    have R9 : IRow W9 w.heap.size (.slice ax its.length cx) its bs := (R.of fun k hk hB => OQ.block k (by omega)).base (by omega)
    have N9 : Below w.heap.size w W9 := (nxt N7.out hw).trans (OQ.below (B := w.heap.size) (by omega))
    have RR := rc.rangeG
    have RES : Hid (AwP w wd ms X now (.returned (.agg #[.int .i64 cd, .int .i64 wd, .slice ax its.length cx])) W9) := by
      refine ⟨⟨.slice ax its.length cx, bs, ?_, ?_⟩, N9⟩
      · rw [CD.out, ← WX.out]
      · rw [← MX.out]
        exact R9
    simp only [puts, Act.put, List.setIfInBounds_toArray, List.set_cons_succ, List.set_cons_zero]
    clear OQ rq rc ec R R9 N9 hw MX WX CD N7 MK' T7 U7
    go_wp2
    exact bodyPost_ret (v := .agg #[.int .i64 cd, .int .i64 wd, .slice ax its.length cx]) (results_cellG Try.results8 _ _ (w.heap.size + 1) _ d3 rfl RR hd3 hrow3 iWa) rfl RES.out
end Go.Proofs.Ytjjoimlnpbelpaa
