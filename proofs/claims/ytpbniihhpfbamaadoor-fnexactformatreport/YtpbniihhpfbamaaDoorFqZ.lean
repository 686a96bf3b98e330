
/-
  A connection's lines, what is left (written by gens/fqz.py).
-/
import Derived.Test.YtpbniihhpfbamaaDoorFqY
import Derived.Test.YtpbniihhpfbamaaDoorKmN
namespace Go.Proofs.YtpbniihhpfbamaaDoor
set_option maxRecDepth 100000
open Go Go.RowKit

section
variable {ops : Array Oper} {Q : Exit → Act → World → Prop} {md : Region.Mode} {F : Nat → Fact} {a0 : Act} {w0 : World} {i : Nat} {o : Oper} {ts : Array TypeId}
/-- A part of a record. -/
theorem sp_lrow (ty : TypeId) (n : Nat) (hu : ∃ d, Tryd.prog.underlying ty = some d ∧ d.isRow = true) (hs : (Tryd.prog.info? ty).map (·.size) = some n) (hi : ops[i]? = some o) (p j : Nat) (hop : o.op = .load ty (.tmp p)) (hj : waits md ops i j p = true) {q off : Nat} (l : List Value) (T : w0.rangeAt q off l) (hl : l.length = n) (hFj : F j = Fact.eq (.pointer (some ⟨q, off, none⟩))) (hF : F i = Fact.eq (.agg l.toArray)) : StepOk Tryd.prog md ops Q F a0 w0 i := by
  obtain ⟨d, hu, hr⟩ := hu
  refine step_load hi _ _ hop _ n hu hr hs fun a w _ hw hf => ?_
  have e := hf j p hj
  rw [hFj] at e
  exact ⟨q, off, l, e, rangeQ T hw, hl, by rw [hF]; exact rfl⟩
theorem sp_lrow0 (ty : TypeId) (n : Nat) (hu : ∃ d, Tryd.prog.underlying ty = some d ∧ d.isRow = true) (hs : (Tryd.prog.info? ty).map (·.size) = some n) (hi : ops[i]? = some o) (p : Nat) (hop : o.op = .load ty (.tmp p)) (hp : apart ops p = true) (q : Nat) (h0 : a0.tmps.getD p undef = .pointer (some ⟨q, 0, none⟩)) (l : List Value) (T : w0.rangeAt q 0 l) (hl : l.length = n) (hF : F i = Fact.eq (.agg l.toArray)) : StepOk Tryd.prog md ops Q F a0 w0 i := by
  obtain ⟨d, hu, hr⟩ := hu
  refine step_load hi _ _ hop _ n hu hr hs fun a w hb hw _ => ?_
  exact ⟨q, 0, l, (based_at hb p hp).trans h0, rangeQ T hw, hl, by rw [hF]; exact rfl⟩
theorem sp_asF {P : Program} (hi : ops[i]? = some o) (p j : Nat) (G : Fact) (hop : o.op = .assign (.tmp p)) (hj : waits md ops i j p = true) (hFj : F j = G) (hF : F i = G) : StepOk P md ops Q F a0 w0 i := by
  refine step_pure hi fun a w _ hw hf => ⟨a.eval (.tmp p), ?_, ?_⟩
  · simp [execOp, hop]
  · have e := hf j p hj
    rw [hFj] at e
    rw [hF]
    exact e
theorem en_vals : enters Tryd.prog 39 = true := by kernel_rfl
theorem sp_vals (hi : ops[i]? = some o) (k p j : Nat) (ls : List (List UInt8)) (hk : ls.length = k) (h1 : k ≤ 1000) (hop : o.op = .call { callee := .value (.func 39), args := #[.tmp p], argTypes := ts }) (hj : waits md ops i j p = true) (hFj : F j = FBt k ls) (B : Nat) (hF : F i = FSq B ls) : StepOk Tryd.prog md ops Q F a0 w0 i := by
  refine step_callv hi _ _ ts hop en_vals fun a w hb hw hf => ?_
  have e := hf j p hj
  rw [hFj] at e
  obtain ⟨q, e, hq⟩ := e
  subst hk
  show Calls Tryd.prog _ #[a.tmps.getD p undef] w _
  rw [show a.tmps.getD p undef = _ from e]
  refine (values_any w q (some ⟨q, 0, none⟩) _ B ls hq.rd (fun _ => hq.lt) (fun _ => blkT_ne hq) (by omega)).mono ?_
  rintro e w' ⟨⟨v, rfl, S⟩, hn⟩
  exact ⟨v, rfl, hn, by rw [hF]; exact S⟩
end
theorem en_endLine : enters Tryd.prog 60 = true := by kernel_rfl
theorem en_savedLine : enters Tryd.prog 62 = true := by kernel_rfl
/-- What a line of an end wants of its report. -/
structure LnE (d : ED) : Prop where
  k : OkE d
  i : IrE d
  bx : Byt d.ex
  bt : Byt d.tr
  br : Byt d.re
  hp : d.pr.size ≤ 1048576
structure LnC (d : CD) : Prop where
  cl : LnE d.cl
  sv : LnE d.sv
  ts : d.ts.length ≤ 1048576
  tc : d.tc.length ≤ 1048576
  bs : Byt d.ts
  bc : Byt d.tc
set_option maxRecDepth 100000 in
set_option maxHeartbeats 16000000 in
theorem channelLines_any (w : World) (B : Nat) (hW : HasW w) (n : Nat) (hn : I64 (n : Int)) (p : CA) (d : CD) (h : HasC 0 w p d) (hL : LnC d) :
    Calls Tryd.prog 42 #[.int .i64 (n : Int), .agg (crV p d)] w fun e w' => (∃ v, e = .returned v ∧ SqX B (chT n d) v w') ∧ Below w.heap.size w w' := by
  have n1 : Below w.heap.size w (w.alloc (.cells (crV p d) 53)) := (Below.refl _ _).alloc (Nat.le_refl _) _
  have T1 : Hid (RwC (w.alloc (.cells (crV p d) 53)) w.heap.size (crL p d) 53) := RwC.new w (crL p d) 53
  have RA := hide (T1.out.part 2 (erL p.cl d.cl) rfl)
  have RB := hide (T1.out.part 26 (erL p.sv d.sv) rfl)
  have HW := hide (hW.up n1)
  have HC := hide (h.up n1)
  have HL1 : Hid ((lnL [[99, 111, 110, 110, 101, 99, 116, 105, 111, 110], (itL (n : Int))]).length ≤ 140737488355328) := Nat.le_trans (one_len (by decide) hn) (by decide)
  have HL2 : Hid ((lnL [[119, 97, 121], (heT d.ts), (heT d.tc)]).length ≤ 140737488355328) := Nat.le_trans (waT_len hL.ts hL.tc) (by decide)
  have N1 := hide n1
  clear n1 hW h
  go_enter Tryd.func42, Tryd.ntmps42
  go_upto_region 1 with fail
  refine region_end 21 (fun i => [Fact.eq (.int .i64 (n : Int)), Fact.eq (tx (itL (n : Int))), FBt 2 [[99, 111, 110, 110, 101, 99, 116, 105, 111, 110], (itL (n : Int))], Fact.eq (tx (lnL [[99, 111, 110, 110, 101, 99, 116, 105, 111, 110], itL (n : Int)])), Fact.eq (.pointer (some ⟨w.heap.size, 2, none⟩)), Fact.eq (.agg (erV p.cl d.cl)), Fact.eq (tx (enT clW d.cl)), Fact.eq (.pointer (some ⟨w.heap.size, 26, none⟩)), Fact.eq (.agg (erV p.sv d.sv)), Fact.eq (tx (enT svW d.sv)), Fact.eq (.pointer (some ⟨w.heap.size, 50, none⟩)), Fact.eq (.slice p.a50 d.ts.length p.c50), Fact.eq (tx (heT d.ts)), Fact.eq (.pointer (some ⟨w.heap.size, 51, none⟩)), Fact.eq (.slice p.a51 d.tc.length p.c51), Fact.eq (tx (heT d.tc)), FBt 3 [[119, 97, 121], (heT d.ts), (heT d.tc)], Fact.eq (tx (lnL [[119, 97, 121], (heT d.ts), (heT d.tc)])), FBt 4 [(lnL [[99, 111, 110, 110, 101, 99, 116, 105, 111, 110], itL (n : Int)]), (enT clW d.cl), (enT svW d.sv), (lnL [[119, 97, 121], (heT d.ts), (heT d.tc)])], FSq B [(lnL [[99, 111, 110, 110, 101, 99, 116, 105, 111, 110], itL (n : Int)]), (enT clW d.cl), (enT svW d.sv), (lnL [[119, 97, 121], (heT d.ts), (heT d.tc)])], FSq B [(lnL [[99, 111, 110, 110, 101, 99, 116, 105, 111, 110], itL (n : Int)]), (enT clW d.cl), (enT svW d.sv), (lnL [[119, 97, 121], (heT d.ts), (heT d.tc)])]].getD i Fact.no) (by kernel_rfl) (by kernel_rfl) rfl ?_ ?_
  · refine all_s (sp_asF rfl 24 19 (FSq B [(lnL [[99, 111, 110, 110, 101, 99, 116, 105, 111, 110], itL (n : Int)]), (enT clW d.cl), (enT svW d.sv), (lnL [[119, 97, 121], (heT d.ts), (heT d.tc)])]) rfl (by kernel_rfl) rfl rfl) ?_
    refine all_s (sp_vals rfl 4 23 18 [(lnL [[99, 111, 110, 110, 101, 99, 116, 105, 111, 110], itL (n : Int)]), (enT clW d.cl), (enT svW d.sv), (lnL [[119, 97, 121], (heT d.ts), (heT d.tc)])] rfl (by decide) rfl (by kernel_rfl) rfl B rfl) ?_
    refine all_s (sp_bs rfl 4 _ [(0, tx (lnL [[99, 111, 110, 110, 101, 99, 116, 105, 111, 110], itL (n : Int)])), (1, tx (enT clW d.cl)), (2, tx (enT svW d.sv)), (3, tx (lnL [[119, 97, 121], (heT d.ts), (heT d.tc)]))] [(lnL [[99, 111, 110, 110, 101, 99, 116, 105, 111, 110], itL (n : Int)]), (enT clW d.cl), (enT svW d.sv), (lnL [[119, 97, 121], (heT d.ts), (heT d.tc)])] rfl (fun a w' hb hf => by
        have e8 : a.tmps.getD 8 undef = tx (lnL [[99, 111, 110, 110, 101, 99, 116, 105, 111, 110], itL (n : Int)]) := hf 3 8 (by kernel_rfl)
        have e11 : a.tmps.getD 11 undef = tx (enT clW d.cl) := hf 6 11 (by kernel_rfl)
        have e14 : a.tmps.getD 14 undef = tx (enT svW d.sv) := hf 9 14 (by kernel_rfl)
        have e22 : a.tmps.getD 22 undef = tx (lnL [[119, 97, 121], (heT d.ts), (heT d.tc)]) := hf 17 22 (by kernel_rfl)
        show [(0, a.tmps.getD 8 undef), (1, a.tmps.getD 11 undef), (2, a.tmps.getD 14 undef), (3, a.tmps.getD 22 undef)] = _
        rw [e8, e11, e14, e22]) (fun W => bsT4 W (lnL [[99, 111, 110, 110, 101, 99, 116, 105, 111, 110], itL (n : Int)]) (enT clW d.cl) (enT svW d.sv) (lnL [[119, 97, 121], (heT d.ts), (heT d.tc)])) rfl) ?_
    refine all_s (sp_line rfl _ 3 21 16 [[119, 97, 121], (heT d.ts), (heT d.tc)] _ rfl en_impl_lineOf (by kernel_rfl) rfl (fun W q hB => lineOf_any W q _ 3 rfl (by decide) hB HL2.out (by simp)) rfl) ?_
    refine all_s (sp_bs rfl 3 _ [(0, tx [119, 97, 121]), (1, tx (heT d.ts)), (2, tx (heT d.tc))] [[119, 97, 121], (heT d.ts), (heT d.tc)] rfl (fun a w' hb hf => by
        have e17 : a.tmps.getD 17 undef = tx (heT d.ts) := hf 12 17 (by kernel_rfl)
        have e20 : a.tmps.getD 20 undef = tx (heT d.tc) := hf 15 20 (by kernel_rfl)
        show [(0, Value.string ⟨#[119, 97, 121]⟩), (1, a.tmps.getD 17 undef), (2, a.tmps.getD 20 undef)] = _
        rw [e17, e20]
        rfl) (fun W => bsT3 W [119, 97, 121] (heT d.ts) (heT d.tc)) rfl) ?_
    refine all_s (sp_call1 rfl _ 19 14 (.slice p.a51 d.tc.length p.c51) (tx (heT d.tc)) rfl en_impl_EncodeHex (by kernel_rfl) rfl (fun W N => implEncodeHex_any W _ _ _ _ (HC.out.tc.up N) hL.bc hL.tc) rfl) ?_
    refine all_s (sp_ls rfl 18 13 rfl (by kernel_rfl) T1.out rfl rfl rfl) ?_
    refine all_s (sp_fa rfl _ 3 5 rfl (by kernel_rfl) w.heap.size 51 rfl (fun W => by kernel_rfl) rfl) ?_
    refine all_s (sp_call1 rfl _ 16 11 (.slice p.a50 d.ts.length p.c50) (tx (heT d.ts)) rfl en_impl_EncodeHex (by kernel_rfl) rfl (fun W N => implEncodeHex_any W _ _ _ _ (HC.out.ts.up N) hL.bs hL.ts) rfl) ?_
    refine all_s (sp_ls rfl 15 10 rfl (by kernel_rfl) T1.out rfl rfl rfl) ?_
    refine all_s (sp_fa rfl _ 3 4 rfl (by kernel_rfl) w.heap.size 50 rfl (fun W => by kernel_rfl) rfl) ?_
    refine all_s (sp_call rfl _ _ [tx svW, .agg (erV p.sv d.sv)] (tx (enT svW d.sv)) rfl en_endLine (fun a w' hb hf => by
        have e13 : a.tmps.getD 13 undef = .agg (erV p.sv d.sv) := hf 8 13 (by kernel_rfl)
        show [Value.string ⟨#[115, 101, 114, 118, 101, 114]⟩, a.tmps.getD 13 undef] = _
        rw [e13]
        rfl) (fun W N => endLine_any W (HW.out.up N) svW p.sv d.sv (HC.out.sv.up N) hL.sv.k hL.sv.i hL.sv.bx hL.sv.bt hL.sv.br hL.sv.hp (by decide)) rfl) ?_
    refine all_s (sp_lrow _ 24 rowEr iEr rfl 12 7 rfl (by kernel_rfl) (erL p.sv d.sv) RB.out rfl rfl rfl) ?_
    refine all_s (sp_fa rfl _ 3 3 rfl (by kernel_rfl) w.heap.size 26 rfl (fun W => by kernel_rfl) rfl) ?_
    refine all_s (sp_call rfl _ _ [tx clW, .agg (erV p.cl d.cl)] (tx (enT clW d.cl)) rfl en_endLine (fun a w' hb hf => by
        have e10 : a.tmps.getD 10 undef = .agg (erV p.cl d.cl) := hf 5 10 (by kernel_rfl)
        show [Value.string ⟨#[99, 108, 105, 101, 110, 116]⟩, a.tmps.getD 10 undef] = _
        rw [e10]
        rfl) (fun W N => endLine_any W (HW.out.up N) clW p.cl d.cl (HC.out.cl.up N) hL.cl.k hL.cl.i hL.cl.bx hL.cl.bt hL.cl.br hL.cl.hp (by decide)) rfl) ?_
    refine all_s (sp_lrow _ 24 rowEr iEr rfl 9 4 rfl (by kernel_rfl) (erL p.cl d.cl) RA.out rfl rfl rfl) ?_
    refine all_s (sp_fa rfl _ 3 2 rfl (by kernel_rfl) w.heap.size 2 rfl (fun W => by kernel_rfl) rfl) ?_
    refine all_s (sp_line rfl _ 2 7 2 [[99, 111, 110, 110, 101, 99, 116, 105, 111, 110], (itL (n : Int))] _ rfl en_impl_lineOf (by kernel_rfl) rfl (fun W q hB => lineOf_any W q _ 2 rfl (by decide) hB HL1.out (by simp)) rfl) ?_
    refine all_s (sp_bs rfl 2 _ [(0, tx [99, 111, 110, 110, 101, 99, 116, 105, 111, 110]), (1, tx (itL (n : Int)))] [[99, 111, 110, 110, 101, 99, 116, 105, 111, 110], (itL (n : Int))] rfl (fun a w' hb hf => by
        have e6 : a.tmps.getD 6 undef = tx (itL (n : Int)) := hf 1 6 (by kernel_rfl)
        show [(0, Value.string ⟨#[99, 111, 110, 110, 101, 99, 116, 105, 111, 110]⟩), (1, a.tmps.getD 6 undef)] = _
        rw [e6]
        rfl) (fun W => bsT2 W [99, 111, 110, 110, 101, 99, 116, 105, 111, 110] (itL (n : Int))) rfl) ?_
    refine all_s (sp_call1 rfl _ 5 0 (.int .i64 (n : Int)) (tx (itL (n : Int))) rfl en_impl_numberWord (by kernel_rfl) rfl (fun W N => numberWord_any W (HW.out.up N) _ hn) rfl) ?_
    refine all_s (sp_mv rfl 0 rfl (by kernel_rfl) rfl rfl) ?_
    exact all_z
  intro A W hb hw hF
  have e2 : SqX B (chT n d) (A.tmps.getD 4 undef) W := hF 20 4 (by kernel_rfl)
  obtain ⟨vs, hvs⟩ : ∃ vs : Nat → Value, ∀ d, A.tmps.getD d undef = vs d := ⟨_, fun _ => rfl⟩
  rw [hvs] at e2
  rw [puts_of (md := .any) (k := 21) (by kernel_rfl) rfl hb vs hvs]
  clear hb hF hvs
  have S := hide e2
  simp only [puts, Act.put, List.setIfInBounds_toArray, List.set_cons_succ, List.set_cons_zero]
  clear e2
  have NN := hide (nxt N1.out hw)
  clear hw N1 HL1 HL2 T1 RA RB HW HC
  go_wp2
  go_ret
  exact ⟨⟨_, rfl, S.out⟩, NN.out⟩
set_option maxRecDepth 100000 in
set_option maxHeartbeats 16000000 in
theorem leftLine_any (w : World) (hW : HasW w) (a1 : Option Addr) (c1 g1 : Nat) (tk : List Int) (a2 : Option Addr) (c2 g2 : Nat) (pk : List Int) (a3 : Option Addr) (c3 g3 : Nat) (rn : List Int) (gt li ea : Int) (ho sp : ByteArray) (r1 : Rd w g1 a1 .u8 tk) (r2 : Rd w g2 a2 .u8 pk) (r3 : Rd w g3 a3 .u8 rn) (b1 : Byt tk) (b2 : Byt pk) (b3 : Byt rn) (h1 : tk.length ≤ 1048576) (h2 : pk.length ≤ 1048576) (h3 : rn.length ≤ 1048576) (h4 : I64 gt) (h5 : I64 li) (h6 : I64 ea) (h7 : ho.size ≤ 1048576) (h8 : sp.size ≤ 1048576) :
    Calls Tryd.prog 43 #[.agg (saV a1 tk c1 a2 pk c2 a3 rn c3 gt li ho sp ea)] w fun e w' => e = .returned (tx (lfT tk pk rn gt li ea ho sp)) ∧ Below w.heap.size w w' := by
  have n1 : Below w.heap.size w (w.alloc (.cells (saV a1 tk c1 a2 pk c2 a3 rn c3 gt li ho sp ea) 34)) := (Below.refl _ _).alloc (Nat.le_refl _) _
  have T1 : Hid (RwC (w.alloc (.cells (saV a1 tk c1 a2 pk c2 a3 rn c3 gt li ho sp ea) 34)) w.heap.size (saV a1 tk c1 a2 pk c2 a3 rn c3 gt li ho sp ea).toList 34) := RwC.new w (saV a1 tk c1 a2 pk c2 a3 rn c3 gt li ho sp ea).toList 34
  have c0 : (w.alloc (.cells (saV a1 tk c1 a2 pk c2 a3 rn c3 gt li ho sp ea) 34)).cell? ⟨w.heap.size, 0, none⟩ = some (.slice a1 tk.length c1) := T1.out.cell 0
  have HW := hide (hW.up n1)
  have HT := hide (r1.up n1)
  have HP := hide (r2.up n1)
  have HR := hide (r3.up n1)
  have N1 := hide n1
  have ho2 : Hid ((heT (byL ho)).length ≤ 2200000) := by
    show _ ≤ _
    have := heT_len (byL ho)
    rw [byL_len] at this
    omega
  clear n1 hW r1 r2 r3
  by_cases h0 : tk.length = 0
  · have t0 : ((tk.length : Int) == 0) = true := by simp [h0]
    have E : Hid (lfT tk pk rn gt li ea ho sp = lnL [[115, 97, 118, 101, 100], [45]]) := if_pos h0
    have B0 := bsT2 (w.alloc (.cells (saV a1 tk c1 a2 pk c2 a3 rn c3 gt li ho sp ea) 34)) [115, 97, 118, 101, 100] [45]
    have n2 : Below (w.alloc (.cells (saV a1 tk c1 a2 pk c2 a3 rn c3 gt li ho sp ea) 34)).heap.size (w.alloc (.cells (saV a1 tk c1 a2 pk c2 a3 rn c3 gt li ho sp ea) 34)) ((w.alloc (.cells (saV a1 tk c1 a2 pk c2 a3 rn c3 gt li ho sp ea) 34)).alloc (.cells #[tx [115, 97, 118, 101, 100], tx [45]] 9)) := (Below.refl _ _).alloc (Nat.le_refl _) _
    have LN : Hid (Calls Tryd.prog 23 #[.slice (some ⟨(w.alloc (.cells (saV a1 tk c1 a2 pk c2 a3 rn c3 gt li ho sp ea) 34)).heap.size, 0, none⟩) 2 2] ((w.alloc (.cells (saV a1 tk c1 a2 pk c2 a3 rn c3 gt li ho sp ea) 34)).alloc (.cells #[tx [115, 97, 118, 101, 100], tx [45]] 9)) _) := lineOf_any _ _ [[115, 97, 118, 101, 100], [45]] 2 rfl (by decide) (heap_alloc_new _ _) (by simp [lnL_cons]) (by simp)
    have N2 := hide (nxt N1.out n2)
    clear n2 N1 T1 HW HT HP HR
    clear h0
    go_enter Tryd.func43, Tryd.ntmps43
    go_upto_region 1 with fail
    generalize (w.alloc (.cells (saV a1 tk c1 a2 pk c2 a3 rn c3 gt li ho sp ea) 34)) = w1 at *
    unfold tx at *
    go_wp2_with fail
    refine LN.out.mono ?_
    rintro e w3 ⟨rfl, n3⟩
    have N3 := hide (nxt N2.out n3)
    clear n3 N2 LN
    go_wp2
    go_ret
    exact ⟨by rw [E.out]; rfl, N3.out⟩
  · have t0 : ((tk.length : Int) == 0) = false := by simp [h0]
    have E : Hid (lfT tk pk rn gt li ea ho sp = svT tk pk rn gt li ea (heT (byL ho)) sp) := if_neg h0
    clear h0
    go_enter Tryd.func43, Tryd.ntmps43
    go_upto_region 3 with fail
    refine region_end 6 (fun i => [Fact.eq (.agg (saV a1 tk c1 a2 pk c2 a3 rn c3 gt li ho sp ea)), Fact.eq (.pointer (some ⟨w.heap.size, 5, none⟩)), Fact.eq (.string ho), Fact.eq (tx (heT (byL ho))), Fact.eq (tx (svT tk pk rn gt li ea (heT (byL ho)) sp)), Fact.eq (tx (svT tk pk rn gt li ea (heT (byL ho)) sp))].getD i Fact.no) (by kernel_rfl) (by kernel_rfl) rfl ?_ ?_
    · refine all_s (sp_as rfl 13 4 rfl (by kernel_rfl) rfl rfl) ?_
      refine all_s (sp_call rfl _ _ [.agg (saV a1 tk c1 a2 pk c2 a3 rn c3 gt li ho sp ea), tx (heT (byL ho))] (tx (svT tk pk rn gt li ea (heT (byL ho)) sp)) rfl en_savedLine (fun a w' hb hf => by
          have e9 : a.tmps.getD 9 undef = .agg (saV a1 tk c1 a2 pk c2 a3 rn c3 gt li ho sp ea) := hf 0 9 (by kernel_rfl)
          have e12 : a.tmps.getD 12 undef = tx (heT (byL ho)) := hf 3 12 (by kernel_rfl)
          show [a.tmps.getD 9 undef, a.tmps.getD 12 undef] = _
          rw [e9, e12]) (fun W N => savedLine_any W (HW.out.up N) a1 c1 g1 tk a2 c2 g2 pk a3 c3 g3 rn gt li ea ho sp (heT (byL ho)) (HT.out.up N) (HP.out.up N) (HR.out.up N) b1 b2 b3 h1 h2 h3 h4 h5 h6 ho2.out h8) rfl) ?_
      refine all_s (sp_call1 rfl _ 11 2 (.string ho) (tx (heT (byL ho))) rfl en_impl_textWord (by kernel_rfl) rfl (fun W N => textWord_any W _ h7) rfl) ?_
      refine all_s (sp_lt rfl 10 1 rfl (by kernel_rfl) T1.out rfl rfl rfl) ?_
      refine all_s (sp_fa rfl _ 1 5 rfl (by kernel_rfl) w.heap.size 5 rfl (fun W => by kernel_rfl) rfl) ?_
      refine all_s (sp_lrow0 _ 8 rowSv iSv rfl 1 rfl (by kernel_rfl) w.heap.size rfl (saV a1 tk c1 a2 pk c2 a3 rn c3 gt li ho sp ea).toList T1.out.rangeG rfl rfl) ?_
      exact all_z
    intro A W hb hw hF
    have e2 : A.tmps.getD 2 undef = tx (svT tk pk rn gt li ea (heT (byL ho)) sp) := hF 5 2 (by kernel_rfl)
    obtain ⟨vs, hvs⟩ : ∃ vs : Nat → Value, ∀ d, A.tmps.getD d undef = vs d := ⟨_, fun _ => rfl⟩
    rw [hvs] at e2
    rw [puts_of (md := .any) (k := 6) (by kernel_rfl) rfl hb vs hvs]
    clear hb hF hvs
    simp only [puts, e2, Act.put, List.setIfInBounds_toArray, List.set_cons_succ, List.set_cons_zero]
    clear e2
    have NN := hide (nxt N1.out hw)
    clear hw N1 T1 HW HT HP HR c0 ho2 t0
    go_wp2
    go_ret
    exact ⟨by rw [E.out]; rfl, NN.out⟩
end Go.Proofs.YtpbniihhpfbamaaDoor
