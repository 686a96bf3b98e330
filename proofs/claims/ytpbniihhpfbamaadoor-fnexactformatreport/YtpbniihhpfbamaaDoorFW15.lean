import Derived.Test.YtpbniihhpfbamaaDoorFW10
import Derived.Test.YtpbniihhpfbamaaDoorFW14

/-
  A connection's lines, what is left (written by gens/fqz.py).
-/
namespace Go.Proofs.YtpbniihhpfbamaaDoor
set_option maxRecDepth 100000
open Go Go.RowKit

section
variable {ops : Array Oper} {Q : Exit → Act → World → Prop} {md : Region.Mode} {F : Nat → Fact} {a0 : Act} {w0 : World} {i : Nat} {o : Oper} {ts : Array TypeId}
/-- A part of a record. -/
theorem sp_lrow (ty : TypeId) (n : Nat) (hu : ∃ d, Tryd.prog.underlying ty = some d ∧ d.isRow = true) (hs : (Tryd.prog.info? ty).map (·.size) = some n) (hi : ops[i]? = some o) (p j : Nat) (hop : o.op = .load ty (.tmp p)) (hj : waits md ops i j p = true) {q off : Nat} (l : List Value) (T : w0.rangeAt q off l) (hl : l.length = n) (hFj : F j = Fact.eq (.pointer (some ⟨q, off, none⟩))) (hF : F i = Fact.eq (.agg l.toArray)) : StepOk Tryd.prog md ops Q F a0 w0 i := by
  obtain ⟨d, hu, hr⟩ := hu
  refine step_load hi _ _ hop _ n hu hr hs fun a w _ hw hf => ?_
  have e := hf j p hj
  rw [hFj] at e
  exact ⟨q, off, l, e, rangeQ T hw, hl, by rw [hF]; exact rfl⟩
theorem sp_lrow0 (ty : TypeId) (n : Nat) (hu : ∃ d, Tryd.prog.underlying ty = some d ∧ d.isRow = true) (hs : (Tryd.prog.info? ty).map (·.size) = some n) (hi : ops[i]? = some o) (p : Nat) (hop : o.op = .load ty (.tmp p)) (hp : apart ops p = true) (q : Nat) (h0 : a0.tmps.getD p undef = .pointer (some ⟨q, 0, none⟩)) (l : List Value) (T : w0.rangeAt q 0 l) (hl : l.length = n) (hF : F i = Fact.eq (.agg l.toArray)) : StepOk Tryd.prog md ops Q F a0 w0 i := by
  obtain ⟨d, hu, hr⟩ := hu
  refine step_load hi _ _ hop _ n hu hr hs fun a w hb hw _ => ?_
  exact ⟨q, 0, l, (based_at hb p hp).trans h0, rangeQ T hw, hl, by rw [hF]; exact rfl⟩
theorem sp_asF {P : Program} (hi : ops[i]? = some o) (p j : Nat) (G : Fact) (hop : o.op = .assign (.tmp p)) (hj : waits md ops i j p = true) (hFj : F j = G) (hF : F i = G) : StepOk P md ops Q F a0 w0 i := by
  refine step_pure hi fun a w _ hw hf => ⟨a.eval (.tmp p), ?_, ?_⟩
  · simp [execOp, hop]
  · have e := hf j p hj
    rw [hFj] at e
    rw [hF]
    exact e
theorem en_vals : enters Tryd.prog 39 = true := by kernel_rfl
theorem sp_vals (hi : ops[i]? = some o) (k p j : Nat) (ls : List (List UInt8)) (hk : ls.length = k) (h1 : k ≤ 1000) (hop : o.op = .call { callee := .value (.func 39), args := #[.tmp p], argTypes := ts }) (hj : waits md ops i j p = true) (hFj : F j = FBt k ls) (B : Nat) (hF : F i = FSq B ls) : StepOk Tryd.prog md ops Q F a0 w0 i := by
  refine step_callv hi _ _ ts hop en_vals fun a w hb hw hf => ?_
  have e := hf j p hj
  rw [hFj] at e
  obtain ⟨q, e, hq⟩ := e
  subst hk
  show Calls Tryd.prog _ #[a.tmps.getD p undef] w _
  rw [show a.tmps.getD p undef = _ from e]
  refine (values_any w q (some ⟨q, 0, none⟩) _ B ls hq.rd (fun _ => hq.lt) (fun _ => blkT_ne hq) (by omega)).mono ?_
  rintro e w' ⟨⟨v, rfl, S⟩, hn⟩
  exact ⟨v, rfl, hn, by rw [hF]; exact S⟩
end
theorem en_endLine : enters Tryd.prog 60 = true := by kernel_rfl
theorem en_savedLine : enters Tryd.prog 62 = true := by kernel_rfl
/-- What a line of an end wants of its report. -/
structure LnE (d : ED) : Prop where
  k : OkE d
  i : IrE d
  bx : Byt d.ex
  bt : Byt d.tr
  br : Byt d.re
  hp : d.pr.size ≤ 1048576
structure LnC (d : CD) : Prop where
  cl : LnE d.cl
  sv : LnE d.sv
  ts : d.ts.length ≤ 1048576
  tc : d.tc.length ≤ 1048576
  bs : Byt d.ts
  bc : Byt d.tc
set_option maxRecDepth 100000 in
set_option maxHeartbeats 16000000 in
theorem channelLines_any (w : World) (B : Nat) (hW : HasW w) (n : Nat) (hn : I64 (n : Int)) (p : CA) (d : CD) (h : HasC 0 w p d) (hL : LnC d) :
    Calls Tryd.prog 42 #[.int .i64 (n : Int), .agg (crV p d)] w fun e w' => (∃ v, e = .returned v ∧ SqX B (chT n d) v w') ∧ Below w.heap.size w w' := by
  have n1 : Below w.heap.size w (w.alloc (.cells (crV p d) 53)) := (Below.refl _ _).alloc (Nat.le_refl _) _
  have T1 : Hid (RwC (w.alloc (.cells (crV p d) 53)) w.heap.size (crL p d) 53) := RwC.new w (crL p d) 53
  have RA := hide (T1.out.part 2 (erL p.cl d.cl) rfl)
  have RB := hide (T1.out.part 26 (erL p.sv d.sv) rfl)
  have HW := hide (hW.up n1)
  have HC := hide (h.up n1)
  have HL1 : Hid ((lnL [[99, 111, 110, 110, 101, 99, 116, 105, 111, 110], (itL (n : Int))]).length ≤ 140737488355328) := Nat.le_trans (one_len (by decide) hn) (by decide)
  have HL2 : Hid ((lnL [[119, 97, 121], (heT d.ts), (heT d.tc)]).length ≤ 140737488355328) := Nat.le_trans (waT_len hL.ts hL.tc) (by decide)
  have N1 := hide n1
  clear n1 hW h
  go_enter Tryd.func42, Tryd.ntmps42
  go_upto_region 1 with fail
  refine region_end 21 (fun i => [Fact.eq (.int .i64 (n : Int)), Fact.eq (tx (itL (n : Int))), FBt 2 [[99, 111, 110, 110, 101, 99, 116, 105, 111, 110], (itL (n : Int))], Fact.eq (tx (lnL [[99, 111, 110, 110, 101, 99, 116, 105, 111, 110], itL (n : Int)])), Fact.eq (.pointer (some ⟨w.heap.size, 2, none⟩)), Fact.eq (.agg (erV p.cl d.cl)), Fact.eq (tx (enT clW d.cl)), Fact.eq (.pointer (some ⟨w.heap.size, 26, none⟩)), Fact.eq (.agg (erV p.sv d.sv)), Fact.eq (tx (enT svW d.sv)), Fact.eq (.pointer (some ⟨w.heap.size, 50, none⟩)), Fact.eq (.slice p.a50 d.ts.length p.c50), Fact.eq (tx (heT d.ts)), Fact.eq (.pointer (some ⟨w.heap.size, 51, none⟩)), Fact.eq (.slice p.a51 d.tc.length p.c51), Fact.eq (tx (heT d.tc)), FBt 3 [[119, 97, 121], (heT d.ts), (heT d.tc)], Fact.eq (tx (lnL [[119, 97, 121], (heT d.ts), (heT d.tc)])), FBt 4 [(lnL [[99, 111, 110, 110, 101, 99, 116, 105, 111, 110], itL (n : Int)]), (enT clW d.cl), (enT svW d.sv), (lnL [[119, 97, 121], (heT d.ts), (heT d.tc)])], FSq B [(lnL [[99, 111, 110, 110, 101, 99, 116, 105, 111, 110], itL (n : Int)]), (enT clW d.cl), (enT svW d.sv), (lnL [[119, 97, 121], (heT d.ts), (heT d.tc)])], FSq B [(lnL [[99, 111, 110, 110, 101, 99, 116, 105, 111, 110], itL (n : Int)]), (enT clW d.cl), (enT svW d.sv), (lnL [[119, 97, 121], (heT d.ts), (heT d.tc)])]].getD i Fact.no) (by kernel_rfl) (by kernel_rfl) rfl ?_ ?_
  · refine all_s (sp_asF rfl 24 19 (FSq B [(lnL [[99, 111, 110, 110, 101, 99, 116, 105, 111, 110], itL (n : Int)]), (enT clW d.cl), (enT svW d.sv), (lnL [[119, 97, 121], (heT d.ts), (heT d.tc)])]) rfl (by kernel_rfl) rfl rfl) ?_
    refine all_s (sp_vals rfl 4 23 18 [(lnL [[99, 111, 110, 110, 101, 99, 116, 105, 111, 110], itL (n : Int)]), (enT clW d.cl), (enT svW d.sv), (lnL [[119, 97, 121], (heT d.ts), (heT d.tc)])] rfl (by decide) rfl (by kernel_rfl) rfl B rfl) ?_
    refine all_s (sp_bs rfl 4 _ [(0, tx (lnL [[99, 111, 110, 110, 101, 99, 116, 105, 111, 110], itL (n : Int)])), (1, tx (enT clW d.cl)), (2, tx (enT svW d.sv)), (3, tx (lnL [[119, 97, 121], (heT d.ts), (heT d.tc)]))] [(lnL [[99, 111, 110, 110, 101, 99, 116, 105, 111, 110], itL (n : Int)]), (enT clW d.cl), (enT svW d.sv), (lnL [[119, 97, 121], (heT d.ts), (heT d.tc)])] rfl (fun a w' hb hf => by
        have e8 : a.tmps.getD 8 undef = tx (lnL [[99, 111, 110, 110, 101, 99, 116, 105, 111, 110], itL (n : Int)]) := hf 3 8 (by kernel_rfl)
        have e11 : a.tmps.getD 11 undef = tx (enT clW d.cl) := hf 6 11 (by kernel_rfl)
        have e14 : a.tmps.getD 14 undef = tx (enT svW d.sv) := hf 9 14 (by kernel_rfl)
        have e22 : a.tmps.getD 22 undef = tx (lnL [[119, 97, 121], (heT d.ts), (heT d.tc)]) := hf 17 22 (by kernel_rfl)
        show [(0, a.tmps.getD 8 undef), (1, a.tmps.getD 11 undef), (2, a.tmps.getD 14 undef), (3, a.tmps.getD 22 undef)] = _
        rw [e8, e11, e14, e22]) (fun W => bsT4 W (lnL [[99, 111, 110, 110, 101, 99, 116, 105, 111, 110], itL (n : Int)]) (enT clW d.cl) (enT svW d.sv) (lnL [[119, 97, 121], (heT d.ts), (heT d.tc)])) rfl) ?_
    refine all_s (sp_line rfl _ 3 21 16 [[119, 97, 121], (heT d.ts), (heT d.tc)] _ rfl en_impl_lineOf (by kernel_rfl) rfl (fun W q hB => lineOf_any W q _ 3 rfl (by decide) hB HL2.out (by simp)) rfl) ?_
    refine all_s (sp_bs rfl 3 _ [(0, tx [119, 97, 121]), (1, tx (heT d.ts)), (2, tx (heT d.tc))] [[119, 97, 121], (heT d.ts), (heT d.tc)] rfl (fun a w' hb hf => by
        have e17 : a.tmps.getD 17 undef = tx (heT d.ts) := hf 12 17 (by kernel_rfl)
        have e20 : a.tmps.getD 20 undef = tx (heT d.tc) := hf 15 20 (by kernel_rfl)
        show [(0, Value.string ⟨#[119, 97, 121]⟩), (1, a.tmps.getD 17 undef), (2, a.tmps.getD 20 undef)] = _
        rw [e17, e20]
        rfl) (fun W => bsT3 W [119, 97, 121] (heT d.ts) (heT d.tc)) rfl) ?_
    refine all_s (sp_call1 rfl _ 19 14 (.slice p.a51 d.tc.length p.c51) (tx (heT d.tc)) rfl en_impl_EncodeHex (by kernel_rfl) rfl (fun W N => implEncodeHex_any W _ _ _ _ (HC.out.tc.up N) hL.bc hL.tc) rfl) ?_
    refine all_s (sp_ls rfl 18 13 rfl (by kernel_rfl) T1.out rfl rfl rfl) ?_
    refine all_s (sp_fa rfl _ 3 5 rfl (by kernel_rfl) w.heap.size 51 rfl (fun W => by kernel_rfl) rfl) ?_
    refine all_s (sp_call1 rfl _ 16 11 (.slice p.a50 d.ts.length p.c50) (tx (heT d.ts)) rfl en_impl_EncodeHex (by kernel_rfl) rfl (fun W N => implEncodeHex_any W _ _ _ _ (HC.out.ts.up N) hL.bs hL.ts) rfl) ?_
    refine all_s (sp_ls rfl 15 10 rfl (by kernel_rfl) T1.out rfl rfl rfl) ?_
    refine all_s (sp_fa rfl _ 3 4 rfl (by kernel_rfl) w.heap.size 50 rfl (fun W => by kernel_rfl) rfl) ?_
    refine all_s (sp_call rfl _ _ [tx svW, .agg (erV p.sv d.sv)] (tx (enT svW d.sv)) rfl en_endLine (fun a w' hb hf => by
        have e13 : a.tmps.getD 13 undef = .agg (erV p.sv d.sv) := hf 8 13 (by kernel_rfl)
        show [Value.string ⟨#[115, 101, 114, 118, 101, 114]⟩, a.tmps.getD 13 undef] = _
        rw [e13]
        rfl) (fun W N => endLine_any W (HW.out.up N) svW p.sv d.sv (HC.out.sv.up N) hL.sv.k hL.sv.i hL.sv.bx hL.sv.bt hL.sv.br hL.sv.hp (by decide)) rfl) ?_
    refine all_s (sp_lrow _ 24 rowEr iEr rfl 12 7 rfl (by kernel_rfl) (erL p.sv d.sv) RB.out rfl rfl rfl) ?_
    refine all_s (sp_fa rfl _ 3 3 rfl (by kernel_rfl) w.heap.size 26 rfl (fun W => by kernel_rfl) rfl) ?_
    refine all_s (sp_call rfl _ _ [tx clW, .agg (erV p.cl d.cl)] (tx (enT clW d.cl)) rfl en_endLine (fun a w' hb hf => by
        have e10 : a.tmps.getD 10 undef = .agg (erV p.cl d.cl) := hf 5 10 (by kernel_rfl)
        show [Value.string ⟨#[99, 108, 105, 101, 110, 116]⟩, a.tmps.getD 10 undef] = _
        rw [e10]
        rfl) (fun W N => endLine_any W (HW.out.up N) clW p.cl d.cl (HC.out.cl.up N) hL.cl.k hL.cl.i hL.cl.bx hL.cl.bt hL.cl.br hL.cl.hp (by decide)) rfl) ?_
    refine all_s (sp_lrow _ 24 rowEr iEr rfl 9 4 rfl (by kernel_rfl) (erL p.cl d.cl) RA.out rfl rfl rfl) ?_
    refine all_s (sp_fa rfl _ 3 2 rfl (by kernel_rfl) w.heap.size 2 rfl (fun W => by kernel_rfl) rfl) ?_
    refine all_s (sp_line rfl _ 2 7 2 [[99, 111, 110, 110, 101, 99, 116, 105, 111, 110], (itL (n : Int))] _ rfl en_impl_lineOf (by kernel_rfl) rfl (fun W q hB => lineOf_any W q _ 2 rfl (by decide) hB HL1.out (by simp)) rfl) ?_
    refine all_s (sp_bs rfl 2 _ [(0, tx [99, 111, 110, 110, 101, 99, 116, 105, 111, 110]), (1, tx (itL (n : Int)))] [[99, 111, 110, 110, 101, 99, 116, 105, 111, 110], (itL (n : Int))] rfl (fun a w' hb hf => by
        have e6 : a.tmps.getD 6 undef = tx (itL (n : Int)) := hf 1 6 (by kernel_rfl)
        show [(0, Value.string ⟨#[99, 111, 110, 110, 101, 99, 116, 105, 111, 110]⟩), (1, a.tmps.getD 6 undef)] = _
        rw [e6]
        rfl) (fun W => bsT2 W [99, 111, 110, 110, 101, 99, 116, 105, 111, 110] (itL (n : Int))) rfl) ?_
    refine all_s (sp_call1 rfl _ 5 0 (.int .i64 (n : Int)) (tx (itL (n : Int))) rfl en_impl_numberWord (by kernel_rfl) rfl (fun W N => numberWord_any W (HW.out.up N) _ hn) rfl) ?_
    refine all_s (sp_mv rfl 0 rfl (by kernel_rfl) rfl rfl) ?_
    exact all_z
  intro A W hb hw hF
  have e2 : SqX B (chT n d) (A.tmps.getD 4 undef) W := hF 20 4 (by kernel_rfl)
  obtain ⟨vs, hvs⟩ : ∃ vs : Nat → Value, ∀ d, A.tmps.getD d undef = vs d := ⟨_, fun _ => rfl⟩
  rw [hvs] at e2
  rw [puts_of (md := .any) (k := 21) (by kernel_rfl) rfl hb vs hvs]
  clear hb hF hvs
  have S := hide e2
  simp only [puts, Act.put, List.setIfInBounds_toArray, List.set_cons_succ, List.set_cons_zero]
  clear e2
  have NN := hide (nxt N1.out hw)
  clear hw N1 HL1 HL2 T1 RA RB HW HC
  go_wp2
  go_ret
  exact ⟨⟨_, rfl, S.out⟩, NN.out⟩
set_option maxRecDepth 100000 in
set_option maxHeartbeats 16000000 in
theorem leftLine_any (w : World) (hW : HasW w) (a1 : Option Addr) (c1 g1 : Nat) (tk : List Int) (a2 : Option Addr) (c2 g2 : Nat) (pk : List Int) (a3 : Option Addr) (c3 g3 : Nat) (rn : List Int) (gt li ea : Int) (ho sp : ByteArray) (r1 : Rd w g1 a1 .u8 tk) (r2 : Rd w g2 a2 .u8 pk) (r3 : Rd w g3 a3 .u8 rn) (b1 : Byt tk) (b2 : Byt pk) (b3 : Byt rn) (h1 : tk.length ≤ 1048576) (h2 : pk.length ≤ 1048576) (h3 : rn.length ≤ 1048576) (h4 : I64 gt) (h5 : I64 li) (h6 : I64 ea) (h7 : ho.size ≤ 1048576) (h8 : sp.size ≤ 1048576) :
    Calls Tryd.prog 43 #[.agg (saV a1 tk c1 a2 pk c2 a3 rn c3 gt li ho sp ea)] w fun e w' => e = .returned (tx (lfT tk pk rn gt li ea ho sp)) ∧ Below w.heap.size w w' := by
  have n1 : Below w.heap.size w (w.alloc (.cells (saV a1 tk c1 a2 pk c2 a3 rn c3 gt li ho sp ea) 34)) := (Below.refl _ _).alloc (Nat.le_refl _) _
  have T1 : Hid (RwC (w.alloc (.cells (saV a1 tk c1 a2 pk c2 a3 rn c3 gt li ho sp ea) 34)) w.heap.size (saV a1 tk c1 a2 pk c2 a3 rn c3 gt li ho sp ea).toList 34) := RwC.new w (saV a1 tk c1 a2 pk c2 a3 rn c3 gt li ho sp ea).toList 34
  have c0 : (w.alloc (.cells (saV a1 tk c1 a2 pk c2 a3 rn c3 gt li ho sp ea) 34)).cell? ⟨w.heap.size, 0, none⟩ = some (.slice a1 tk.length c1) := T1.out.cell 0
  have HW := hide (hW.up n1)
  have HT := hide (r1.up n1)
  have HP := hide (r2.up n1)
  have HR := hide (r3.up n1)
  have N1 := hide n1
  have ho2 : Hid ((heT (byL ho)).length ≤ 2200000) := by
    show _ ≤ _
    have := heT_len (byL ho)
    rw [byL_len] at this
    omega
  clear n1 hW r1 r2 r3
  by_cases h0 : tk.length = 0
  · have t0 : ((tk.length : Int) == 0) = true := by simp [h0]
    have E : Hid (lfT tk pk rn gt li ea ho sp = lnL [[115, 97, 118, 101, 100], [45]]) := if_pos h0
    have B0 := bsT2 (w.alloc (.cells (saV a1 tk c1 a2 pk c2 a3 rn c3 gt li ho sp ea) 34)) [115, 97, 118, 101, 100] [45]
    have n2 : Below (w.alloc (.cells (saV a1 tk c1 a2 pk c2 a3 rn c3 gt li ho sp ea) 34)).heap.size (w.alloc (.cells (saV a1 tk c1 a2 pk c2 a3 rn c3 gt li ho sp ea) 34)) ((w.alloc (.cells (saV a1 tk c1 a2 pk c2 a3 rn c3 gt li ho sp ea) 34)).alloc (.cells #[tx [115, 97, 118, 101, 100], tx [45]] 9)) := (Below.refl _ _).alloc (Nat.le_refl _) _
    have LN : Hid (Calls Tryd.prog 23 #[.slice (some ⟨(w.alloc (.cells (saV a1 tk c1 a2 pk c2 a3 rn c3 gt li ho sp ea) 34)).heap.size, 0, none⟩) 2 2] ((w.alloc (.cells (saV a1 tk c1 a2 pk c2 a3 rn c3 gt li ho sp ea) 34)).alloc (.cells #[tx [115, 97, 118, 101, 100], tx [45]] 9)) _) := lineOf_any _ _ [[115, 97, 118, 101, 100], [45]] 2 rfl (by decide) (heap_alloc_new _ _) (by simp [lnL_cons]) (by simp)
    have N2 := hide (nxt N1.out n2)
    clear n2 N1 T1 HW HT HP HR
    clear h0
    go_enter Tryd.func43, Tryd.ntmps43
    go_upto_region 1 with fail
    generalize (w.alloc (.cells (saV a1 tk c1 a2 pk c2 a3 rn c3 gt li ho sp ea) 34)) = w1 at *
    unfold tx at *
    go_wp2_with fail
    refine LN.out.mono ?_
    rintro e w3 ⟨rfl, n3⟩
    have N3 := hide (nxt N2.out n3)
    clear n3 N2 LN
    go_wp2
    go_ret
    exact ⟨by rw [E.out]; rfl, N3.out⟩
  · have t0 : ((tk.length : Int) == 0) = false := by simp [h0]
    have E : Hid (lfT tk pk rn gt li ea ho sp = svT tk pk rn gt li ea (heT (byL ho)) sp) := if_neg h0
    clear h0
    go_enter Tryd.func43, Tryd.ntmps43
    go_upto_region 3 with fail
    refine region_end 6 (fun i => [Fact.eq (.agg (saV a1 tk c1 a2 pk c2 a3 rn c3 gt li ho sp ea)), Fact.eq (.pointer (some ⟨w.heap.size, 5, none⟩)), Fact.eq (.string ho), Fact.eq (tx (heT (byL ho))), Fact.eq (tx (svT tk pk rn gt li ea (heT (byL ho)) sp)), Fact.eq (tx (svT tk pk rn gt li ea (heT (byL ho)) sp))].getD i Fact.no) (by kernel_rfl) (by kernel_rfl) rfl ?_ ?_
    · refine all_s (sp_as rfl 13 4 rfl (by kernel_rfl) rfl rfl) ?_
      refine all_s (sp_call rfl _ _ [.agg (saV a1 tk c1 a2 pk c2 a3 rn c3 gt li ho sp ea), tx (heT (byL ho))] (tx (svT tk pk rn gt li ea (heT (byL ho)) sp)) rfl en_savedLine (fun a w' hb hf => by
          have e9 : a.tmps.getD 9 undef = .agg (saV a1 tk c1 a2 pk c2 a3 rn c3 gt li ho sp ea) := hf 0 9 (by kernel_rfl)
          have e12 : a.tmps.getD 12 undef = tx (heT (byL ho)) := hf 3 12 (by kernel_rfl)
          show [a.tmps.getD 9 undef, a.tmps.getD 12 undef] = _
          rw [e9, e12]) (fun W N => savedLine_any W (HW.out.up N) a1 c1 g1 tk a2 c2 g2 pk a3 c3 g3 rn gt li ea ho sp (heT (byL ho)) (HT.out.up N) (HP.out.up N) (HR.out.up N) b1 b2 b3 h1 h2 h3 h4 h5 h6 ho2.out h8) rfl) ?_
      refine all_s (sp_call1 rfl _ 11 2 (.string ho) (tx (heT (byL ho))) rfl en_impl_textWord (by kernel_rfl) rfl (fun W N => textWord_any W _ h7) rfl) ?_
      refine all_s (sp_lt rfl 10 1 rfl (by kernel_rfl) T1.out rfl rfl rfl) ?_
      refine all_s (sp_fa rfl _ 1 5 rfl (by kernel_rfl) w.heap.size 5 rfl (fun W => by kernel_rfl) rfl) ?_
      refine all_s (sp_lrow0 _ 8 rowSv iSv rfl 1 rfl (by kernel_rfl) w.heap.size rfl (saV a1 tk c1 a2 pk c2 a3 rn c3 gt li ho sp ea).toList T1.out.rangeG rfl rfl) ?_
      exact all_z
    intro A W hb hw hF
    have e2 : A.tmps.getD 2 undef = tx (svT tk pk rn gt li ea (heT (byL ho)) sp) := hF 5 2 (by kernel_rfl)
    obtain ⟨vs, hvs⟩ : ∃ vs : Nat → Value, ∀ d, A.tmps.getD d undef = vs d := ⟨_, fun _ => rfl⟩
    rw [hvs] at e2
    rw [puts_of (md := .any) (k := 6) (by kernel_rfl) rfl hb vs hvs]
    clear hb hF hvs
    simp only [puts, e2, Act.put, List.setIfInBounds_toArray, List.set_cons_succ, List.set_cons_zero]
    clear e2
    have NN := hide (nxt N1.out hw)
    clear hw N1 T1 HW HT HP HR c0 ho2 t0
    go_wp2
    go_ret
    exact ⟨by rw [E.out]; rfl, NN.out⟩
end Go.Proofs.YtpbniihhpfbamaaDoor

/-
  The lines of a window's marks, one after the other.
-/
namespace Go.Proofs.YtpbniihhpfbamaaDoor
set_option maxRecDepth 100000
open Go Go.RowKit Go.Shelf
attribute [local go_sem] Oper.semAt_some

/-- What the line of a mark wants of it. -/
def LnM (ms : List Mrk) : Prop := ∀ i, i < ms.length → (ms.getD i mrk0).id.length ≤ 1048576 ∧ Byt (ms.getD i mrk0).id ∧ I64 (ms.getD i mrk0).un
set_option maxRecDepth 100000 in
set_option maxHeartbeats 2000000 in
theorem each_seq (w : World) (b1 b2 g : Nat) (a : Option Addr) (c B n0 : Nat) (ms : List Mrk) (ps : List Plm) (hb1 : RwC w b1 [.slice a ms.length c] 35) (hb2 : RwC w b2 [.func (.func 45) #[] #[]] 99) (l1 : b1 < n0) (l2 : b2 < n0) (hn0 : n0 ≤ w.heap.size)
    (hB : B ≤ n0) (hr : ∀ W, Below B w W → RdK W g a ms ps ∧ HasW W) (hm : LnM ms) (hN : ms.length ≤ 1048576) :
    SeqX Tryd.prog 64 #[.pointer (some ⟨b1, 0, none⟩), .pointer (some ⟨b2, 0, none⟩)] B n0 (ms.map mkT) w := by
  intro n l S J W hW hA hY h0
  have BL : ∀ W', ChS S W W' → Below n0 W W' := fun W' h => h.below (fun b hb => (hA.lie [] W h0 b hb).1) (Nat.le_trans hn0 hW.size)
  have k1 : W.heap[b1]? = w.heap[b1]? := hW.block b1 l1 (.inr fun cs fz e => by
    rw [show w.heap[b1]? = _ from hb1] at e
    simp at e)
  have k2 : W.heap[b2]? = w.heap[b2]? := hW.block b2 l2 (.inr fun cs fz e => by
    rw [show w.heap[b2]? = _ from hb2] at e
    simp at e)
  have hx1 : ∀ W', Below n0 W W' → W'.cell? ⟨b1, 0, none⟩ = some (.slice a ms.length c) := fun W' h => (World.cell?_of_block (a := ⟨b1, 0, none⟩) ((h.block b1 l1).trans k1)).trans (hb1.cell 0)
  have hx2 : ∀ W', Below n0 W W' → W'.cell? ⟨b2, 0, none⟩ = some (.func (.func 45) #[] #[]) := fun W' h => (World.cell?_of_block (a := ⟨b2, 0, none⟩) ((h.block b2 l2).trans k2)).trans (hb2.cell 0)
  have hrW : ∀ W', Below n0 W W' → RdK W' g a ms ps ∧ HasW W' := fun W' h => hr W' ((hW.low hB).trans (h.mono hB))
  clear k1 k2
  have hbW := hx1 W (Below.refl _ _)
  clear hr hb1 hb2
  refine callsIn_of_wp Tryd.func64 rfl trivial ?_ rfl
  simp only [Tryd.ntmps64, List.size_toArray, List.length_cons, List.length_nil, Nat.reduceAdd, Nat.reduceSub, Array.replicate_succ, Array.replicate_zero, List.push_toArray, List.append_toArray, List.nil_append, List.cons_append]
  gi_wp2
  gi_loopw [8] (fun i wr => ∃ k : Nat, k ≤ ms.length ∧ i = .int .i64 (k : Int) ∧ Hid (J ((ms.map mkT).take k) wr ∧ ChS S W wr)) (fun i _ => ms.length - (intOf i).toNat)
  case atStart => exact ⟨0, Nat.zero_le _, rfl, by rw [List.take_zero]; exact h0, ChS.refl _ _⟩
  case round =>
    clear hbW
    obtain ⟨k, hk, rfl, HJ⟩ := hrel
    by_cases hlt : k < ms.length
    · have k0 : (k : Int) < (ms.length : Int) := by omega
      have k0' : decide ((k : Int) < (ms.length : Int)) = true := decide_eq_true k0
      have k1 : IntKind.i64.wrap ((k : Int) + 1) = ((k + 1 : Nat) : Int) := by rw [IntKind.wrap_i64]; omega
      obtain ⟨off, rfl, hc⟩ := (hrW wr (BL wr HJ.out.2)).1.r (by omega)
      have c1 := (hc k hlt).1
      have c2 := (hc k hlt).2
      have TK : Hid ((ms.map mkT).take (k + 1) = (ms.map mkT).take k ++ [mkT (ms.getD k mrk0)]) := by
        show _ = _
        rw [List.take_add_one, List.getElem?_map, List.getElem?_eq_getElem hlt, List.getD_eq_getElem?_getD, List.getElem?_eq_getElem hlt]
        rfl
      have ML : Hid (∀ W', Below n0 W W' → Calls Tryd.prog 45 #[.agg #[.slice (ps.getD k plm0).a (ms.getD k mrk0).id.length (ps.getD k plm0).c, .int .i64 (ms.getD k mrk0).un]] W' fun e w' => e = .returned (tx (mkT (ms.getD k mrk0))) ∧ Below W'.heap.size W' w') :=
        fun W' h => markLine_any W' (hrW W' h).2 _ _ _ (ms.getD k mrk0) ((hrW W' h).1.b k hlt) (hm k hlt).2.1 (hm k hlt).1 (hm k hlt).2.2
      clear hc
      generalize (ps.getD k plm0).a = pa at *
      generalize (ps.getD k plm0).c = pc at *
      generalize (ms.getD k mrk0).id.length = x at *
      generalize (ms.getD k mrk0).un = un at *
      generalize mkT (ms.getD k mrk0) = T at *
      have nA : Below wr.heap.size wr (wr.alloc (.cells #[.slice pa x pc, .int .i64 un] 79)) := (Below.refl _ _).alloc (Nat.le_refl _) _
      have hle : n0 ≤ wr.heap.size := Nat.le_trans hn0 (Nat.le_trans hW.size HJ.out.2.size)
      have bA : Below n0 W (wr.alloc (.cells #[.slice pa x pc, .int .i64 un] 79)) := (BL wr HJ.out.2).trans (nA.mono hle)
      have x2 := hx2 _ bA
      have RA := RwC.new wr [.slice pa x pc, .int .i64 un] 79
      have q0 : (wr.alloc (.cells #[.slice pa x pc, .int .i64 un] 79)).cell? ⟨wr.heap.size, 0, none⟩ = some (.slice pa x pc) := RA.cell 0
      have q1 : (wr.alloc (.cells #[.slice pa x pc, .int .i64 un] 79)).cell? ⟨wr.heap.size, 1, none⟩ = some (.int .i64 un) := RA.cell 1
      have CM := hide (ML.out _ bA)
      have JA : Hid (J ((ms.map mkT).take k) (wr.alloc (.cells #[.slice pa x pc, .int .i64 un] 79)) ∧ ChS S W (wr.alloc (.cells #[.slice pa x pc, .int .i64 un] 79))) := ⟨(hA.grow HJ.out.1 nA).1, HJ.out.2.trans (hA.grow HJ.out.1 nA).2⟩
      clear nA bA hle RA ML HJ
      gi_wp2_with fail
      refine ⟨trivial, fun h => (by cases h), (callsIn_wide.2 CM.out).mono ?_⟩
      rintro e w4 ⟨rfl, n4⟩
      have J4 : Hid (J ((ms.map mkT).take k) w4 ∧ ChS S W w4) := ⟨(hA.grow JA.out.1 n4).1, JA.out.2.trans (hA.grow JA.out.1 n4).2⟩
      clear JA CM n4 x2 q0 q1 c1 c2
      obtain ⟨fn, tmps, assign, body, hy, hR⟩ := hY ((ms.map mkT).take k) T w4 J4.out.1 (by rw [← TK.out]; exact List.take_prefix _ _) J4.out.2
      rw [← TK.out] at hR
      unfold txv at hy
      unfold tx
      clear TK
      gi_wp2
      refine ⟨fun h => (by cases h), (round_any hR).mono ?_⟩
      rintro e W3 ⟨rfl, hJ3, hb3⟩
      have HJ3 : Hid (J ((ms.map mkT).take (k + 1)) W3 ∧ ChS S W W3) := ⟨hJ3, J4.out.2.trans hb3⟩
      clear J4 hJ3 hb3
      gi_wp2
      go_roundw
      case rel => exact ⟨k + 1, by omega, by first | rfl | go_num, HJ3⟩
      case measure => simp [intOf]; omega
    · obtain rfl : k = ms.length := by omega
      have k0 : ¬ (ms.length : Int) < (ms.length : Int) := by omega
      have hbr := hx1 wr (BL wr HJ.out.2)
      gi_wp2
      go_end0
      have := HJ.out
      rw [List.take_of_length_le (by simp)] at this
      exact ⟨⟨_, rfl⟩, this⟩
end Go.Proofs.YtpbniihhpfbamaaDoor

/-
  Iterators one behind the other.
-/
namespace Go.Proofs.YtpbniihhpfbamaaDoor
set_option maxRecDepth 100000
open Go Go.RowKit Go.Shelf
attribute [local go_sem] Oper.semAt_some

theorem ChS.putNew {S : World → Nat → Prop} {W0 W : World} (h : ChS S W0 W) {D : Nat} (hD : W0.heap.size ≤ D) {o : Obj} (s : ∀ b, S (W.putObj D o) b → S W b) : ChS S W0 (W.putObj D o) :=
  have b : Below D W (W.putObj D o) := below_put (Nat.le_refl _)
  ⟨b.os.trans h.os, b.tape.trans h.tape, b.output.trans h.output, Nat.le_trans h.size b.size, fun k hk hs => (World.putObj_heap_other (by omega)).trans (h.keep k hk hs), fun k hk => h.own k (s k hk)⟩
/-- The mark of a loop that is behind. -/
def mkD (D : Nat) : Deferred := { target := .collected D, args := #[] }
/-- The marks of the loops that are behind. -/
structure MkL (S : World → Nat → Prop) (Ds : List Nat) (lo : Nat) (W : World) : Prop where
  pw : Ds.Pairwise (fun x y => y < x)
  at_ : ∀ D, D ∈ Ds → lo ≤ D ∧ W.heap[D]? = some (.deferred (some [])) ∧ ¬ S W D
theorem MkL.nil (S : World → Nat → Prop) (lo : Nat) (W : World) : MkL S [] lo W := ⟨List.Pairwise.nil, fun _ h => (by cases h)⟩
theorem MkL.lt {S : World → Nat → Prop} {Ds : List Nat} {lo : Nat} {W : World} (h : MkL S Ds lo W) {D : Nat} (hD : D ∈ Ds) : D < W.heap.size := (Array.getElem?_eq_some_iff.1 (h.at_ D hD).2.1).1
theorem MkL.next {S : World → Nat → Prop} {Ds : List Nat} {lo : Nat} {W W' : World} (h : MkL S Ds lo W) (c : ChS S W W') (hlo : lo ≤ W.heap.size) (hK : W'.heap[W.heap.size]? = some (.deferred (some []))) (hs : ¬ S W' W.heap.size) : MkL S (W.heap.size :: Ds) lo W' := by
  refine ⟨List.Pairwise.cons (fun D hD => h.lt hD) h.pw, fun D hD => ?_⟩
  rcases List.mem_cons.1 hD with rfl | hD
  · exact ⟨hlo, hK, hs⟩
  · obtain ⟨h1, h2, h3⟩ := h.at_ D hD
    exact ⟨h1, (c.keep D (h.lt hD) h3).trans h2, fun hv => (c.own D hv).elim h3 (fun hl => by have := h.lt hD; omega)⟩
theorem leaves_marks {P : Program} {n n0 : Nat} {fn : Func} {tmps : Array Value} {R : Ending → World → Prop} {S : World → Nat → Prop} {J : List (List UInt8) → World → Prop} (hA : Abd S n0 J) {W0 : World} {lo : Nat} (hlo : W0.heap.size ≤ lo) {pre : List (List UInt8)}
    (fin : ∀ W, J pre W → ChS S W0 W → LeavesIn Fence.wide n P fn tmps R [] .returning W) : ∀ (Ds : List Nat) (W : World), J pre W → ChS S W0 W → MkL S Ds lo W → LeavesInM Fence.wide n P fn tmps R (Ds.map mkD) .returning W
  | [], W, hJ, hC, _ => fin W hJ hC
  | D :: Ds, W, hJ, hC, hM => by
    obtain ⟨h1, h2, h3⟩ := hM.at_ D (List.mem_cons_self ..)
    obtain ⟨j, s⟩ := hA.put hJ h3 (.deferred none)
    refine ⟨by simp, .inl ⟨D, _, rfl, run_takeDeferred h2, leaves_marks hA hlo fin Ds _ j (hC.putNew (by omega) s) ⟨(List.pairwise_cons.1 hM.pw).2, fun D' hD' => ?_⟩⟩⟩
    obtain ⟨k1, k2, k3⟩ := hM.at_ D' (List.mem_cons_of_mem _ hD')
    have := (List.pairwise_cons.1 hM.pw).1 D' hD'
    exact ⟨k1, (World.putObj_heap_other (by omega)).trans k2, fun h => k3 (s _ h)⟩
set_option maxRecDepth 100000 in
set_option maxHeartbeats 4000000 in
theorem joined_seq (w : World) (b g : Nat) (a : Option Addr) (c : Nat) (vs : List Value) (pss : List (List (List UInt8))) (hlen : vs.length = pss.length) (hb : w.cell? ⟨b, 0, none⟩ = some (.slice a vs.length c)) (hbn : b < w.heap.size)
    (hc : 0 < vs.length → ∃ off, a = some ⟨g, off, none⟩ ∧ ∀ i, i < vs.length → w.cell? ⟨g, off + i, none⟩ = some (vs.getD i undef)) (hs : ∀ i, i < vs.length → SqV (pss.getD i []) (vs.getD i undef) w) (hN : vs.length ≤ 1000000000) :
    SeqS Tryd.prog 65 #[.pointer (some ⟨b, 0, none⟩)] w.heap.size pss.flatten w := by
  intro n l S J W hW hA hY h0
  have BL : ∀ W', ChS S W W' → Below w.heap.size W W' := fun W' h => h.below (fun b hb => (hA.lie [] W h0 b hb).1) hW.size
  have hbW : ∀ W', Below w.heap.size w W' → W'.cell? ⟨b, 0, none⟩ = some (.slice a vs.length c) := fun W' h => (h.cell (p := ⟨b, 0, none⟩) hbn).trans hb
  have nB : Below W.heap.size W (W.alloc (.cells #[.func (.yield l) #[] #[]] 112)) := (Below.refl _ _).alloc (Nat.le_refl _) _
  have hbB := hbW _ (hW.trans (nB.mono hW.size))
  have BX : (W.alloc (.cells #[.func (.yield l) #[] #[]] 112)).cell? ⟨W.heap.size, 0, none⟩ = some (.func (.yield l) #[] #[]) := (RwC.new W [.func (.yield l) #[] #[]] 112).cell 0
  have zB : (W.alloc (.cells #[.func (.yield l) #[] #[]] 112)).heap.size = W.heap.size + 1 := World.size_alloc _ _
  have JB := hA.grow h0 nB
  have nS : ¬ S (W.alloc (.cells #[.func (.yield l) #[] #[]] 112)) W.heap.size := fun h => by
    have h1 := (hA.stay [] W _ h0 nB.size (fun b hb => nB.block b (hA.lie [] W h0 b hb).2)).2 _ h
    exact absurd (hA.lie [] W h0 _ h1).2 (Nat.lt_irrefl _)
  have lW : w.heap.size ≤ W.heap.size := hW.size
  have HLn := hide hlen
  clear hlen
  have BW := hW.trans (nB.mono hW.size)
  have CB := JB.2
  have J0 := JB.1
  refine callsIn_of_wp_marks Tryd.func65 rfl trivial ?_ rfl
  simp only [Tryd.ntmps65, List.size_toArray, List.length_cons, List.length_nil, Nat.reduceAdd, Nat.reduceSub, Array.replicate_succ, Array.replicate_zero, List.push_toArray, List.append_toArray, List.nil_append, List.cons_append]
  gi_wp2
  clear hbB JB nB
  generalize W.alloc (.cells #[.func (.yield l) #[] #[]] 112) = Wb at *
  have lb : ∀ b, S Wb b → w.heap.size ≤ b := fun b hb => (hA.lie [] Wb J0 b hb).1
  refine wpIn_loop (fun a' wr => ∃ (k : Nat) (Ds : List Nat) (u4 u5 u9 u10 u11 u12 u13 u14 u15 u16 u17 u18 : Value), a' = { tmps := #[.func (.yield l) #[] #[], .pointer (some ⟨b, 0, none⟩), .pointer (some ⟨W.heap.size, 0, none⟩), undef, u4, u5, .slice a vs.length c, .int .i64 vs.length, .int .i64 k, u9, u10, u11, u12, u13, u14, u15, u16, u17, u18], defers := Ds.map mkD } ∧ k ≤ vs.length ∧ Hid (J (pss.take k).flatten wr ∧ ChS S Wb wr) ∧ Hid (MkL S Ds Wb.heap.size wr)) (fun a' _ => vs.length - (intOf (a'.tmps.getD 8 undef)).toNat) ?_ ?_
  · exact ⟨0, [], undef, undef, undef, undef, undef, undef, undef, undef, undef, undef, undef, undef, rfl, Nat.zero_le _, ⟨J0, ChS.refl _ _⟩, MkL.nil _ _ _⟩
  · rintro _ wr ⟨k, Ds, u4, u5, u9, u10, u11, u12, u13, u14, u15, u16, u17, u18, rfl, hk, HJ, HM⟩
    by_cases hlt : k < vs.length
    · have k0 : (k : Int) < (vs.length : Int) := by omega
      have k0' : decide ((k : Int) < (vs.length : Int)) = true := decide_eq_true k0
      have k1 : IntKind.i64.wrap ((k : Int) + 1) = ((k + 1 : Nat) : Int) := by rw [IntKind.wrap_i64]; omega
      have Bw : Below w.heap.size w wr := BW.trans (HJ.out.2.below lb (by omega))
      obtain ⟨off, rfl, hcc⟩ := hc (by omega)
      have cv : wr.cell? ⟨g, off + k, none⟩ = some (vs.getD k undef) := (Bw.cell (p := ⟨g, off + k, none⟩) (block_lt_of_cell (hcc k hlt))).trans (hcc k hlt)
      obtain ⟨gf, lb', n0, ev, hn0, en, SQ⟩ := hs k hlt
      rw [ev] at cv
      have TK : Hid ((pss.take (k + 1)).flatten = (pss.take k).flatten ++ pss.getD k []) := by
        show _ = _
        rw [List.take_add_one, List.flatten_append, List.getD_eq_getElem?_getD, List.getElem?_eq_getElem (by have := HLn.out; omega)]
        simp
      have PX : Hid (pss.getD k [] <:+: pss.flatten ∧ (pss.take k).flatten ++ pss.getD k [] <+: pss.flatten) := by
        show _ ∧ _
        have h1 : (pss.take k).flatten ++ pss.getD k [] <+: pss.flatten := by
          rw [← TK.out]
          exact ⟨(pss.drop (k + 1)).flatten, by rw [← List.flatten_append, List.take_append_drop]⟩
        exact ⟨List.IsInfix.trans ⟨(pss.take k).flatten, [], by simp⟩ h1.isInfix, h1⟩
      have hAk : Abd S n0 (fun pre X => J ((pss.take k).flatten ++ pre) X) := ⟨fun pre X h b hb => ⟨Nat.le_trans hn0 (hA.lie _ X h b hb).1, (hA.lie _ X h b hb).2⟩, fun pre X Y h => hA.stay _ X Y h⟩
      have nxB : Wb.heap.size ≤ wr.heap.size := HJ.out.2.size
      have bxw : wr.cell? ⟨W.heap.size, 0, none⟩ = some (.func (.yield l) #[] #[]) := (World.cell?_of_block (a := ⟨W.heap.size, 0, none⟩) (HJ.out.2.keep W.heap.size (by omega) nS)).trans BX
      have nSr : ¬ S wr W.heap.size := fun h => (HJ.out.2.own _ h).elim nS (fun hl => by omega)
      clear hcc hc
      gi_wp2
      refine wpIn_rangeS (gf := gf) (lb := lb') rfl (fun args w => run_enter en args w) SQ (Bw.mono hn0) (Nat.le_trans hn0 Bw.size) rfl S (fun pre X => J ((pss.take k).flatten ++ pre) X) hAk (by rw [List.append_nil]; exact HJ.out.1)
        (fun x => { tmps := #[.func (.yield l) #[] #[], .pointer (some ⟨b, 0, none⟩), .pointer (some ⟨W.heap.size, 0, none⟩), undef, .func (.func gf) #[] lb', txv x, .slice (some ⟨g, off, none⟩) vs.length c, .int .i64 vs.length, .int .i64 k, .bool true, .pointer (some ⟨g, off + k, none⟩), .func (.func gf) #[] lb', .func (.func gf) #[] lb', txv x, u14, u15, u16, u17, u18], defers := [] }) ?_ ?_ ?_
      · intro l' x X K hK
        unfold txv
        gi_wp2
        exact hK
      · intro l' pre x X hI hpre hC
        have cx : X.cell? ⟨W.heap.size, 0, none⟩ = some (.func (.yield l) #[] #[]) := (World.cell?_of_block (a := ⟨W.heap.size, 0, none⟩) (hC.keep W.heap.size (by omega) nSr)).trans bxw
        obtain ⟨fn, tmps, assign, body, hy, hR⟩ := hY ((pss.take k).flatten ++ pre) x X hI (by
          rw [List.append_assoc]
          exact List.IsPrefix.trans ((List.prefix_append_right_inj _).2 hpre) PX.out.2) (CB.trans (HJ.out.2.trans hC))
        unfold txv at hy ⊢
        gi_wp2
        refine ⟨fun h => (by cases h), RoundIn.mono (show RoundIn (Fence.wide.inRound l') (n - 1 - 1) _ l _ _ _ _ X _ from round_any hR) ?_⟩
        rintro e X3 ⟨rfl, hJ3, hc3⟩
        have HJ3 : Hid (J ((pss.take k).flatten ++ (pre ++ [x])) X3 ∧ ChS S X X3) := ⟨by rw [← List.append_assoc]; exact hJ3, hc3⟩
        clear hJ3 hc3
        gi_wp2
        exact HJ3.out
      · intro X hIx hCx hsz hK hns
        have HM2 : Hid (MkL S (wr.heap.size :: Ds) Wb.heap.size X) := HM.out.next hCx nxB hK hns
        have HJ2 : Hid (J (pss.take (k + 1)).flatten X ∧ ChS S Wb X) := by
          refine ⟨?_, HJ.out.2.trans hCx⟩
          rw [TK.out]
          exact hIx
        gi_wp2
        refine ⟨⟨k + 1, wr.heap.size :: Ds, _, _, _, _, _, _, _, _, _, _, _, _, rfl, by omega, HJ2, HM2⟩, ?_⟩
        simp [intOf]
        omega
    · obtain rfl : k = vs.length := by omega
      have k0 : ¬ (vs.length : Int) < (vs.length : Int) := by omega
      have E : (pss.take vs.length).flatten = pss.flatten := by rw [List.take_of_length_le (by have := HLn.out; omega)]
      rw [E] at HJ
      gi_wp2
      exact leaves_marks hA (W0 := W) (lo := Wb.heap.size) (by omega) (fun X hJ hC => ⟨_, results_none Tryd.results65 _ _ _, ⟨_, rfl⟩, hJ, hC⟩) Ds wr HJ.out.1 (CB.trans HJ.out.2) HM.out
end Go.Proofs.YtpbniihhpfbamaaDoor
