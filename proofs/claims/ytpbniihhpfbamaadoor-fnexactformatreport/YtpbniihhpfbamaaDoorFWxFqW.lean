import Derived.Test.YtpbniihhpfbamaaDoorFW9

/-
  The lines of a report: the program's and the model's (written by gens/fqw.py).
-/
namespace Go.Proofs.YtpbniihhpfbamaaDoor
set_option maxRecDepth 100000
open Go Go.RowKit

theorem sp_as {P : Program} {ops : Array Oper} {Q : Exit → Act → World → Prop} {md : Region.Mode} {F : Nat → Fact} {a0 : Act} {w0 : World} {i : Nat} {o : Oper} (hi : ops[i]? = some o) (p j : Nat) {v : Value} (hop : o.op = .assign (.tmp p)) (hj : waits md ops i j p = true) (hFj : F j = Fact.eq v) (hF : F i = Fact.eq v) : StepOk P md ops Q F a0 w0 i := by
  refine step_pure hi fun a w _ hw hf => ⟨v, ?_, by rw [hF]; exact rfl⟩
  have e := hf j p hj
  rw [hFj] at e
  have e' : a.eval (.tmp p) = v := e
  simp [execOp, hop, e']
/-- The cells of an end's report, of what is saved. -/
def erV (p : EA) (d : ED) : Array Value := (erL p d).toArray
def saV (a1 : Option Addr) (tk : List Int) (c1 : Nat) (a2 : Option Addr) (pk : List Int) (c2 : Nat) (a3 : Option Addr) (rn : List Int) (c3 : Nat) (gt li : Int) (ho sp : ByteArray) (ea : Int) : Array Value := #[.slice a1 tk.length c1, .slice a2 pk.length c2, .slice a3 rn.length c3, .int .i64 gt, .int .i64 li, .string ho, .string sp, .int .i64 ea]
set_option maxRecDepth 100000 in
set_option maxHeartbeats 16000000 in
theorem markLine_any (w : World) (hW : HasW w) (g : Nat) (a : Option Addr) (c : Nat) (m : Mrk) (r : Rd w g a .u8 m.id) (bi : Byt m.id) (hl : m.id.length ≤ 1048576) (hi : I64 m.un) :
    Calls Tryd.prog 45 #[.agg #[.slice a m.id.length c, .int .i64 m.un]] w fun e w' => e = .returned (tx (mkT m)) ∧ Below w.heap.size w w' := by
  have n1 : Below w.heap.size w (w.alloc (.cells #[.slice a m.id.length c, .int .i64 m.un] 79)) := (Below.refl _ _).alloc (Nat.le_refl _) _
  have T1 : Hid (RwC (w.alloc (.cells #[.slice a m.id.length c, .int .i64 m.un] 79)) w.heap.size ([.slice a m.id.length c, .int .i64 m.un]) 79) := RwC.new w ([.slice a m.id.length c, .int .i64 m.un]) 79
  have HW := hide (hW.up n1)
  have HI := hide (r.up n1)
  have HL : Hid ((lnL [[109, 97, 114, 107], heT m.id, itL m.un]).length ≤ 140737488355328) := Nat.le_trans (mkT_len hl hi) (by decide)
  have N1 := hide n1
  clear n1 hW r
  go_enter Tryd.func45, Tryd.ntmps45
  go_upto_region 1 with fail
  refine region_end 9 (fun i => [Fact.eq (.pointer (some ⟨w.heap.size, 0, none⟩)), Fact.eq (.slice a m.id.length c), Fact.eq (tx (heT m.id)), Fact.eq (.pointer (some ⟨w.heap.size, 1, none⟩)), Fact.eq (.int .i64 m.un), Fact.eq (tx (itL m.un)), FBt 3 [[109, 97, 114, 107], (heT m.id), (itL m.un)], Fact.eq (tx (lnL [[109, 97, 114, 107], (heT m.id), (itL m.un)])), Fact.eq (tx (lnL [[109, 97, 114, 107], (heT m.id), (itL m.un)]))].getD i Fact.no) (by kernel_rfl) (by kernel_rfl) rfl ?_ ?_
  · refine all_s (sp_as rfl 10 7 rfl (by kernel_rfl) rfl rfl) ?_
    refine all_s (sp_line rfl _ 3 9 6 [[109, 97, 114, 107], (heT m.id), (itL m.un)] _ rfl en_impl_lineOf (by kernel_rfl) rfl (fun W q hB => lineOf_any W q [[109, 97, 114, 107], (heT m.id), (itL m.un)] 3 rfl (by decide) hB HL.out (by simp)) rfl) ?_
    refine all_s (sp_bs rfl 3 _ [(0, tx [109, 97, 114, 107]), (1, tx (heT m.id)), (2, tx (itL m.un))] [[109, 97, 114, 107], (heT m.id), (itL m.un)] rfl (fun a w' hb hf => by
        have e5 : a.tmps.getD 5 undef = tx (heT m.id) := hf 2 5 (by kernel_rfl)
        have e8 : a.tmps.getD 8 undef = tx (itL m.un) := hf 5 8 (by kernel_rfl)
        show [(0, Value.string ⟨#[109, 97, 114, 107]⟩), (1, a.tmps.getD 5 undef), (2, a.tmps.getD 8 undef)] = _
        rw [e5, e8]
        rfl) (fun W => bsT3 W [109, 97, 114, 107] (heT m.id) (itL m.un)) rfl) ?_
    refine all_s (sp_call1 rfl _ 7 4 (.int .i64 m.un) (tx (itL m.un)) rfl en_impl_numberWord (by kernel_rfl) rfl (fun W N => numberWord_any W (HW.out.up N) _ hi) rfl) ?_
    refine all_s (sp_li rfl 6 3 rfl (by kernel_rfl) T1.out rfl rfl rfl) ?_
    refine all_s (sp_fa rfl _ 1 1 rfl (by kernel_rfl) w.heap.size 1 rfl (fun W => by kernel_rfl) rfl) ?_
    refine all_s (sp_call1 rfl _ 4 1 (.slice a m.id.length c) (tx (heT m.id)) rfl en_impl_EncodeHex (by kernel_rfl) rfl (fun W N => implEncodeHex_any W _ _ _ _ (HI.out.up N) bi hl) rfl) ?_
    refine all_s (sp_ls rfl 3 0 rfl (by kernel_rfl) T1.out rfl rfl rfl) ?_
    refine all_s (sp_fa rfl _ 1 0 rfl (by kernel_rfl) w.heap.size 0 rfl (fun W => by kernel_rfl) rfl) ?_
    exact all_z
  intro A W hb hw hF
  have e2 : A.tmps.getD 2 undef = tx (lnL [[109, 97, 114, 107], (heT m.id), (itL m.un)]) := hF 8 2 (by kernel_rfl)
  obtain ⟨vs, hvs⟩ : ∃ vs : Nat → Value, ∀ d, A.tmps.getD d undef = vs d := ⟨_, fun _ => rfl⟩
  rw [hvs] at e2
  rw [puts_of (md := .any) (k := 9) (by kernel_rfl) rfl hb vs hvs]
  clear hb hF hvs
  simp only [puts, e2, Act.put, List.setIfInBounds_toArray, List.set_cons_succ, List.set_cons_zero]
  clear e2
  have NN := hide (nxt N1.out hw)
  clear hw N1 HL T1
  go_wp2
  go_ret
  exact ⟨rfl, NN.out⟩
set_option maxRecDepth 100000 in
set_option maxHeartbeats 16000000 in
theorem endLine_any (w : World) (hW : HasW w) (wo : List UInt8) (p : EA) (d : ED) (h : HasE 0 w p d) (k : OkE d) (i : IrE d) (bx : Byt d.ex) (bt : Byt d.tr) (br : Byt d.re) (hp : d.pr.size ≤ 1048576) (hw : wo.length ≤ 10) :
    Calls Tryd.prog 60 #[tx wo, .agg (erV p d)] w fun e w' => e = .returned (tx (enT wo d)) ∧ Below w.heap.size w w' := by
  have n1 : Below w.heap.size w (w.alloc (.cells (erV p d) 51)) := (Below.refl _ _).alloc (Nat.le_refl _) _
  have T1 : Hid (RwC (w.alloc (.cells (erV p d) 51)) w.heap.size (erL p d) 51) := RwC.new w (erL p d) 51
  have HW := hide (hW.up n1)
  have HE := hide (h.up n1)
  have HL : Hid ((lnL [wo, itL d.ph, itL d.al, itL d.pa, itL d.no, flT d.rs, flT d.et, itL d.er, heT (byL d.pr), heT d.ex, heT d.tr, heT d.re]).length ≤ 140737488355328) := Nat.le_trans (enT_len k i hp hw) (by decide)
  have N1 := hide n1
  clear n1 hW h
  go_enter Tryd.func60, Tryd.ntmps60
  go_upto_region 1 with fail
  refine region_end 37 (fun i => [Fact.eq (tx wo), Fact.eq (.pointer (some ⟨w.heap.size, 5, none⟩)), Fact.eq (.int .i64 d.ph), Fact.eq (tx (itL d.ph)), Fact.eq (.pointer (some ⟨w.heap.size, 6, none⟩)), Fact.eq (.int .i64 d.al), Fact.eq (tx (itL d.al)), Fact.eq (.pointer (some ⟨w.heap.size, 7, none⟩)), Fact.eq (.int .i64 d.pa), Fact.eq (tx (itL d.pa)), Fact.eq (.pointer (some ⟨w.heap.size, 8, none⟩)), Fact.eq (.int .i64 d.no), Fact.eq (tx (itL d.no)), Fact.eq (.pointer (some ⟨w.heap.size, 9, none⟩)), Fact.eq (.bool d.rs), Fact.eq (tx (flT d.rs)), Fact.eq (.pointer (some ⟨w.heap.size, 10, none⟩)), Fact.eq (.bool d.et), Fact.eq (tx (flT d.et)), Fact.eq (.pointer (some ⟨w.heap.size, 4, none⟩)), Fact.eq (.int .i64 d.er), Fact.eq (tx (itL d.er)), Fact.eq (.pointer (some ⟨w.heap.size, 11, none⟩)), Fact.eq (.string d.pr), Fact.eq (tx (heT (byL d.pr))), Fact.eq (.pointer (some ⟨w.heap.size, 12, none⟩)), Fact.eq (.slice p.a12 d.ex.length p.c12), Fact.eq (tx (heT d.ex)), Fact.eq (.pointer (some ⟨w.heap.size, 13, none⟩)), Fact.eq (.slice p.a13 d.tr.length p.c13), Fact.eq (tx (heT d.tr)), Fact.eq (.pointer (some ⟨w.heap.size, 3, none⟩)), Fact.eq (.slice p.a3 d.re.length p.c3), Fact.eq (tx (heT d.re)), FBt 12 [wo, (itL d.ph), (itL d.al), (itL d.pa), (itL d.no), (flT d.rs), (flT d.et), (itL d.er), (heT (byL d.pr)), (heT d.ex), (heT d.tr), (heT d.re)], Fact.eq (tx (lnL [wo, (itL d.ph), (itL d.al), (itL d.pa), (itL d.no), (flT d.rs), (flT d.et), (itL d.er), (heT (byL d.pr)), (heT d.ex), (heT d.tr), (heT d.re)])), Fact.eq (tx (lnL [wo, (itL d.ph), (itL d.al), (itL d.pa), (itL d.no), (flT d.rs), (flT d.et), (itL d.er), (heT (byL d.pr)), (heT d.ex), (heT d.tr), (heT d.re)]))].getD i Fact.no) (by kernel_rfl) (by kernel_rfl) rfl ?_ ?_
  · refine all_s (sp_as rfl 40 35 rfl (by kernel_rfl) rfl rfl) ?_
    refine all_s (sp_line rfl _ 12 39 34 [wo, (itL d.ph), (itL d.al), (itL d.pa), (itL d.no), (flT d.rs), (flT d.et), (itL d.er), (heT (byL d.pr)), (heT d.ex), (heT d.tr), (heT d.re)] _ rfl en_impl_lineOf (by kernel_rfl) rfl (fun W q hB => lineOf_any W q [wo, (itL d.ph), (itL d.al), (itL d.pa), (itL d.no), (flT d.rs), (flT d.et), (itL d.er), (heT (byL d.pr)), (heT d.ex), (heT d.tr), (heT d.re)] 12 rfl (by decide) hB HL.out (by simp)) rfl) ?_
    refine all_s (sp_bs rfl 12 _ [(0, tx wo), (1, tx (itL d.ph)), (2, tx (itL d.al)), (3, tx (itL d.pa)), (4, tx (itL d.no)), (5, tx (flT d.rs)), (6, tx (flT d.et)), (7, tx (itL d.er)), (8, tx (heT (byL d.pr))), (9, tx (heT d.ex)), (10, tx (heT d.tr)), (11, tx (heT d.re))] [wo, (itL d.ph), (itL d.al), (itL d.pa), (itL d.no), (flT d.rs), (flT d.et), (itL d.er), (heT (byL d.pr)), (heT d.ex), (heT d.tr), (heT d.re)] rfl (fun a w' hb hf => by
        have e5 : a.tmps.getD 5 undef = tx wo := hf 0 5 (by kernel_rfl)
        have e8 : a.tmps.getD 8 undef = tx (itL d.ph) := hf 3 8 (by kernel_rfl)
        have e11 : a.tmps.getD 11 undef = tx (itL d.al) := hf 6 11 (by kernel_rfl)
        have e14 : a.tmps.getD 14 undef = tx (itL d.pa) := hf 9 14 (by kernel_rfl)
        have e17 : a.tmps.getD 17 undef = tx (itL d.no) := hf 12 17 (by kernel_rfl)
        have e20 : a.tmps.getD 20 undef = tx (flT d.rs) := hf 15 20 (by kernel_rfl)
        have e23 : a.tmps.getD 23 undef = tx (flT d.et) := hf 18 23 (by kernel_rfl)
        have e26 : a.tmps.getD 26 undef = tx (itL d.er) := hf 21 26 (by kernel_rfl)
        have e29 : a.tmps.getD 29 undef = tx (heT (byL d.pr)) := hf 24 29 (by kernel_rfl)
        have e32 : a.tmps.getD 32 undef = tx (heT d.ex) := hf 27 32 (by kernel_rfl)
        have e35 : a.tmps.getD 35 undef = tx (heT d.tr) := hf 30 35 (by kernel_rfl)
        have e38 : a.tmps.getD 38 undef = tx (heT d.re) := hf 33 38 (by kernel_rfl)
        show [(0, a.tmps.getD 5 undef), (1, a.tmps.getD 8 undef), (2, a.tmps.getD 11 undef), (3, a.tmps.getD 14 undef), (4, a.tmps.getD 17 undef), (5, a.tmps.getD 20 undef), (6, a.tmps.getD 23 undef), (7, a.tmps.getD 26 undef), (8, a.tmps.getD 29 undef), (9, a.tmps.getD 32 undef), (10, a.tmps.getD 35 undef), (11, a.tmps.getD 38 undef)] = _
        rw [e5, e8, e11, e14, e17, e20, e23, e26, e29, e32, e35, e38]) (fun W => bsT12 W wo (itL d.ph) (itL d.al) (itL d.pa) (itL d.no) (flT d.rs) (flT d.et) (itL d.er) (heT (byL d.pr)) (heT d.ex) (heT d.tr) (heT d.re)) rfl) ?_
    refine all_s (sp_call1 rfl _ 37 32 (.slice p.a3 d.re.length p.c3) (tx (heT d.re)) rfl en_impl_EncodeHex (by kernel_rfl) rfl (fun W N => implEncodeHex_any W _ _ _ _ (HE.out.re.up N) br k.re) rfl) ?_
    refine all_s (sp_ls rfl 36 31 rfl (by kernel_rfl) T1.out rfl rfl rfl) ?_
    refine all_s (sp_fa rfl _ 3 3 rfl (by kernel_rfl) w.heap.size 3 rfl (fun W => by kernel_rfl) rfl) ?_
    refine all_s (sp_call1 rfl _ 34 29 (.slice p.a13 d.tr.length p.c13) (tx (heT d.tr)) rfl en_impl_EncodeHex (by kernel_rfl) rfl (fun W N => implEncodeHex_any W _ _ _ _ (HE.out.tr.up N) bt k.tr) rfl) ?_
    refine all_s (sp_ls rfl 33 28 rfl (by kernel_rfl) T1.out rfl rfl rfl) ?_
    refine all_s (sp_fa rfl _ 3 13 rfl (by kernel_rfl) w.heap.size 13 rfl (fun W => by kernel_rfl) rfl) ?_
    refine all_s (sp_call1 rfl _ 31 26 (.slice p.a12 d.ex.length p.c12) (tx (heT d.ex)) rfl en_impl_EncodeHex (by kernel_rfl) rfl (fun W N => implEncodeHex_any W _ _ _ _ (HE.out.ex.up N) bx k.ex) rfl) ?_
    refine all_s (sp_ls rfl 30 25 rfl (by kernel_rfl) T1.out rfl rfl rfl) ?_
    refine all_s (sp_fa rfl _ 3 12 rfl (by kernel_rfl) w.heap.size 12 rfl (fun W => by kernel_rfl) rfl) ?_
    refine all_s (sp_call1 rfl _ 28 23 (.string d.pr) (tx (heT (byL d.pr))) rfl en_impl_textWord (by kernel_rfl) rfl (fun W N => textWord_any W _ hp) rfl) ?_
    refine all_s (sp_lt rfl 27 22 rfl (by kernel_rfl) T1.out rfl rfl rfl) ?_
    refine all_s (sp_fa rfl _ 3 11 rfl (by kernel_rfl) w.heap.size 11 rfl (fun W => by kernel_rfl) rfl) ?_
    refine all_s (sp_call1 rfl _ 25 20 (.int .i64 d.er) (tx (itL d.er)) rfl en_impl_numberWord (by kernel_rfl) rfl (fun W N => numberWord_any W (HW.out.up N) _ i.er) rfl) ?_
    refine all_s (sp_li rfl 24 19 rfl (by kernel_rfl) T1.out rfl rfl rfl) ?_
    refine all_s (sp_fa rfl _ 3 4 rfl (by kernel_rfl) w.heap.size 4 rfl (fun W => by kernel_rfl) rfl) ?_
    refine all_s (sp_call1 rfl _ 22 17 (.bool d.et) (tx (flT d.et)) rfl en_impl_flagWord (by kernel_rfl) rfl (fun W N => flagWord_any W (HW.out.up N) _) rfl) ?_
    refine all_s (sp_lb rfl 21 16 rfl (by kernel_rfl) T1.out rfl rfl rfl) ?_
    refine all_s (sp_fa rfl _ 3 10 rfl (by kernel_rfl) w.heap.size 10 rfl (fun W => by kernel_rfl) rfl) ?_
    refine all_s (sp_call1 rfl _ 19 14 (.bool d.rs) (tx (flT d.rs)) rfl en_impl_flagWord (by kernel_rfl) rfl (fun W N => flagWord_any W (HW.out.up N) _) rfl) ?_
    refine all_s (sp_lb rfl 18 13 rfl (by kernel_rfl) T1.out rfl rfl rfl) ?_
    refine all_s (sp_fa rfl _ 3 9 rfl (by kernel_rfl) w.heap.size 9 rfl (fun W => by kernel_rfl) rfl) ?_
    refine all_s (sp_call1 rfl _ 16 11 (.int .i64 d.no) (tx (itL d.no)) rfl en_impl_numberWord (by kernel_rfl) rfl (fun W N => numberWord_any W (HW.out.up N) _ i.no) rfl) ?_
    refine all_s (sp_li rfl 15 10 rfl (by kernel_rfl) T1.out rfl rfl rfl) ?_
    refine all_s (sp_fa rfl _ 3 8 rfl (by kernel_rfl) w.heap.size 8 rfl (fun W => by kernel_rfl) rfl) ?_
    refine all_s (sp_call1 rfl _ 13 8 (.int .i64 d.pa) (tx (itL d.pa)) rfl en_impl_numberWord (by kernel_rfl) rfl (fun W N => numberWord_any W (HW.out.up N) _ i.pa) rfl) ?_
    refine all_s (sp_li rfl 12 7 rfl (by kernel_rfl) T1.out rfl rfl rfl) ?_
    refine all_s (sp_fa rfl _ 3 7 rfl (by kernel_rfl) w.heap.size 7 rfl (fun W => by kernel_rfl) rfl) ?_
    refine all_s (sp_call1 rfl _ 10 5 (.int .i64 d.al) (tx (itL d.al)) rfl en_impl_numberWord (by kernel_rfl) rfl (fun W N => numberWord_any W (HW.out.up N) _ i.al) rfl) ?_
    refine all_s (sp_li rfl 9 4 rfl (by kernel_rfl) T1.out rfl rfl rfl) ?_
    refine all_s (sp_fa rfl _ 3 6 rfl (by kernel_rfl) w.heap.size 6 rfl (fun W => by kernel_rfl) rfl) ?_
    refine all_s (sp_call1 rfl _ 7 2 (.int .i64 d.ph) (tx (itL d.ph)) rfl en_impl_numberWord (by kernel_rfl) rfl (fun W N => numberWord_any W (HW.out.up N) _ i.ph) rfl) ?_
    refine all_s (sp_li rfl 6 1 rfl (by kernel_rfl) T1.out rfl rfl rfl) ?_
    refine all_s (sp_fa rfl _ 3 5 rfl (by kernel_rfl) w.heap.size 5 rfl (fun W => by kernel_rfl) rfl) ?_
    refine all_s (sp_mv rfl 0 rfl (by kernel_rfl) rfl rfl) ?_
    exact all_z
  intro A W hb hw hF
  have e2 : A.tmps.getD 4 undef = tx (lnL [wo, (itL d.ph), (itL d.al), (itL d.pa), (itL d.no), (flT d.rs), (flT d.et), (itL d.er), (heT (byL d.pr)), (heT d.ex), (heT d.tr), (heT d.re)]) := hF 36 4 (by kernel_rfl)
  obtain ⟨vs, hvs⟩ : ∃ vs : Nat → Value, ∀ d, A.tmps.getD d undef = vs d := ⟨_, fun _ => rfl⟩
  rw [hvs] at e2
  rw [puts_of (md := .any) (k := 37) (by kernel_rfl) rfl hb vs hvs]
  clear hb hF hvs
  simp only [puts, e2, Act.put, List.setIfInBounds_toArray, List.set_cons_succ, List.set_cons_zero]
  clear e2
  have NN := hide (nxt N1.out hw)
  clear hw N1 HL T1
  go_wp2
  go_ret
  exact ⟨rfl, NN.out⟩
set_option maxRecDepth 100000 in
set_option maxHeartbeats 16000000 in
theorem l20Report_any (w : World) (wo : List UInt8) (p : EA) (d : ED) (h : HasE 0 w p d) (k : OkE d) (i : IrE d) (bx : Byt d.ex) (bt : Byt d.tr) (br : Byt d.re) (hp : d.pr.size ≤ 1048576) (hw : wo.length ≤ 10) :
    Calls Tryd.prog 14 #[tx wo, .agg (erV p d)] w fun e w' => e = .returned (tx (enT wo d ++ [10])) ∧ Below w.heap.size w w' := by
  have n1 : Below w.heap.size w (w.alloc (.cells (erV p d) 51)) := (Below.refl _ _).alloc (Nat.le_refl _) _
  have T1 : Hid (RwC (w.alloc (.cells (erV p d) 51)) w.heap.size (erL p d) 51) := RwC.new w (erL p d) 51
  have HE := hide (h.up n1)
  have HL : Hid ((lnL [wo, itL d.ph, itL d.al, itL d.pa, itL d.no, flT d.rs, flT d.et, itL d.er, heT (byL d.pr), heT d.ex, heT d.tr, heT d.re]).length ≤ 140737488355328) := Nat.le_trans (enT_len k i hp hw) (by decide)
  have N1 := hide n1
  clear n1 h
  go_enter Tryd.func14, Tryd.ntmps14
  go_upto_region 1 with fail
  refine region_end 38 (fun i => [Fact.eq (tx wo), Fact.eq (.pointer (some ⟨w.heap.size, 5, none⟩)), Fact.eq (.int .i64 d.ph), Fact.eq (tx (itL d.ph)), Fact.eq (.pointer (some ⟨w.heap.size, 6, none⟩)), Fact.eq (.int .i64 d.al), Fact.eq (tx (itL d.al)), Fact.eq (.pointer (some ⟨w.heap.size, 7, none⟩)), Fact.eq (.int .i64 d.pa), Fact.eq (tx (itL d.pa)), Fact.eq (.pointer (some ⟨w.heap.size, 8, none⟩)), Fact.eq (.int .i64 d.no), Fact.eq (tx (itL d.no)), Fact.eq (.pointer (some ⟨w.heap.size, 9, none⟩)), Fact.eq (.bool d.rs), Fact.eq (tx (flT d.rs)), Fact.eq (.pointer (some ⟨w.heap.size, 10, none⟩)), Fact.eq (.bool d.et), Fact.eq (tx (flT d.et)), Fact.eq (.pointer (some ⟨w.heap.size, 4, none⟩)), Fact.eq (.int .i64 d.er), Fact.eq (tx (itL d.er)), Fact.eq (.pointer (some ⟨w.heap.size, 11, none⟩)), Fact.eq (.string d.pr), FRd (byL d.pr), Fact.eq (tx (heT (byL d.pr))), Fact.eq (.pointer (some ⟨w.heap.size, 12, none⟩)), Fact.eq (.slice p.a12 d.ex.length p.c12), Fact.eq (tx (heT d.ex)), Fact.eq (.pointer (some ⟨w.heap.size, 13, none⟩)), Fact.eq (.slice p.a13 d.tr.length p.c13), Fact.eq (tx (heT d.tr)), Fact.eq (.pointer (some ⟨w.heap.size, 3, none⟩)), Fact.eq (.slice p.a3 d.re.length p.c3), Fact.eq (tx (heT d.re)), FBt 12 [wo, (itL d.ph), (itL d.al), (itL d.pa), (itL d.no), (flT d.rs), (flT d.et), (itL d.er), (heT (byL d.pr)), (heT d.ex), (heT d.tr), (heT d.re)], Fact.eq (tx (lnL [wo, (itL d.ph), (itL d.al), (itL d.pa), (itL d.no), (flT d.rs), (flT d.et), (itL d.er), (heT (byL d.pr)), (heT d.ex), (heT d.tr), (heT d.re)] ++ [10])), Fact.eq (tx (lnL [wo, (itL d.ph), (itL d.al), (itL d.pa), (itL d.no), (flT d.rs), (flT d.et), (itL d.er), (heT (byL d.pr)), (heT d.ex), (heT d.tr), (heT d.re)] ++ [10]))].getD i Fact.no) (by kernel_rfl) (by kernel_rfl) rfl ?_ ?_
  · refine all_s (sp_as rfl 41 36 rfl (by kernel_rfl) rfl rfl) ?_
    refine all_s (sp_line rfl _ 12 40 35 [wo, (itL d.ph), (itL d.al), (itL d.pa), (itL d.no), (flT d.rs), (flT d.et), (itL d.er), (heT (byL d.pr)), (heT d.ex), (heT d.tr), (heT d.re)] _ rfl en_spec_l20Line (by kernel_rfl) rfl (fun W q hB => l20Line_any W q 12 [wo, (itL d.ph), (itL d.al), (itL d.pa), (itL d.no), (flT d.rs), (flT d.et), (itL d.er), (heT (byL d.pr)), (heT d.ex), (heT d.tr), (heT d.re)] hB rfl (by decide) HL.out) rfl) ?_
    refine all_s (sp_bs rfl 12 _ [(0, tx wo), (1, tx (itL d.ph)), (2, tx (itL d.al)), (3, tx (itL d.pa)), (4, tx (itL d.no)), (5, tx (flT d.rs)), (6, tx (flT d.et)), (7, tx (itL d.er)), (8, tx (heT (byL d.pr))), (9, tx (heT d.ex)), (10, tx (heT d.tr)), (11, tx (heT d.re))] [wo, (itL d.ph), (itL d.al), (itL d.pa), (itL d.no), (flT d.rs), (flT d.et), (itL d.er), (heT (byL d.pr)), (heT d.ex), (heT d.tr), (heT d.re)] rfl (fun a w' hb hf => by
        have e5 : a.tmps.getD 5 undef = tx wo := hf 0 5 (by kernel_rfl)
        have e8 : a.tmps.getD 8 undef = tx (itL d.ph) := hf 3 8 (by kernel_rfl)
        have e11 : a.tmps.getD 11 undef = tx (itL d.al) := hf 6 11 (by kernel_rfl)
        have e14 : a.tmps.getD 14 undef = tx (itL d.pa) := hf 9 14 (by kernel_rfl)
        have e17 : a.tmps.getD 17 undef = tx (itL d.no) := hf 12 17 (by kernel_rfl)
        have e20 : a.tmps.getD 20 undef = tx (flT d.rs) := hf 15 20 (by kernel_rfl)
        have e23 : a.tmps.getD 23 undef = tx (flT d.et) := hf 18 23 (by kernel_rfl)
        have e26 : a.tmps.getD 26 undef = tx (itL d.er) := hf 21 26 (by kernel_rfl)
        have e30 : a.tmps.getD 30 undef = tx (heT (byL d.pr)) := hf 25 30 (by kernel_rfl)
        have e33 : a.tmps.getD 33 undef = tx (heT d.ex) := hf 28 33 (by kernel_rfl)
        have e36 : a.tmps.getD 36 undef = tx (heT d.tr) := hf 31 36 (by kernel_rfl)
        have e39 : a.tmps.getD 39 undef = tx (heT d.re) := hf 34 39 (by kernel_rfl)
        show [(0, a.tmps.getD 5 undef), (1, a.tmps.getD 8 undef), (2, a.tmps.getD 11 undef), (3, a.tmps.getD 14 undef), (4, a.tmps.getD 17 undef), (5, a.tmps.getD 20 undef), (6, a.tmps.getD 23 undef), (7, a.tmps.getD 26 undef), (8, a.tmps.getD 30 undef), (9, a.tmps.getD 33 undef), (10, a.tmps.getD 36 undef), (11, a.tmps.getD 39 undef)] = _
        rw [e5, e8, e11, e14, e17, e20, e23, e26, e30, e33, e36, e39]) (fun W => bsT12 W wo (itL d.ph) (itL d.al) (itL d.pa) (itL d.no) (flT d.rs) (flT d.et) (itL d.er) (heT (byL d.pr)) (heT d.ex) (heT d.tr) (heT d.re)) rfl) ?_
    refine all_s (sp_call1 rfl _ 38 33 (.slice p.a3 d.re.length p.c3) (tx (heT d.re)) rfl en_spec_EncodeHex (by kernel_rfl) rfl (fun W N => specEncodeHex_any W _ _ _ _ (HE.out.re.up N) br k.re) rfl) ?_
    refine all_s (sp_ls rfl 37 32 rfl (by kernel_rfl) T1.out rfl rfl rfl) ?_
    refine all_s (sp_fa rfl _ 3 3 rfl (by kernel_rfl) w.heap.size 3 rfl (fun W => by kernel_rfl) rfl) ?_
    refine all_s (sp_call1 rfl _ 35 30 (.slice p.a13 d.tr.length p.c13) (tx (heT d.tr)) rfl en_spec_EncodeHex (by kernel_rfl) rfl (fun W N => specEncodeHex_any W _ _ _ _ (HE.out.tr.up N) bt k.tr) rfl) ?_
    refine all_s (sp_ls rfl 34 29 rfl (by kernel_rfl) T1.out rfl rfl rfl) ?_
    refine all_s (sp_fa rfl _ 3 13 rfl (by kernel_rfl) w.heap.size 13 rfl (fun W => by kernel_rfl) rfl) ?_
    refine all_s (sp_call1 rfl _ 32 27 (.slice p.a12 d.ex.length p.c12) (tx (heT d.ex)) rfl en_spec_EncodeHex (by kernel_rfl) rfl (fun W N => specEncodeHex_any W _ _ _ _ (HE.out.ex.up N) bx k.ex) rfl) ?_
    refine all_s (sp_ls rfl 31 26 rfl (by kernel_rfl) T1.out rfl rfl rfl) ?_
    refine all_s (sp_fa rfl _ 3 12 rfl (by kernel_rfl) w.heap.size 12 rfl (fun W => by kernel_rfl) rfl) ?_
    refine all_s (sp_hexc rfl 29 24 d.pr hp rfl (by kernel_rfl) rfl rfl) ?_
    refine all_s (sp_conv rfl 28 23 d.pr hp rfl (by kernel_rfl) rfl rfl) ?_
    refine all_s (sp_lt rfl 27 22 rfl (by kernel_rfl) T1.out rfl rfl rfl) ?_
    refine all_s (sp_fa rfl _ 3 11 rfl (by kernel_rfl) w.heap.size 11 rfl (fun W => by kernel_rfl) rfl) ?_
    refine all_s (sp_call1 rfl _ 25 20 (.int .i64 d.er) (tx (itL d.er)) rfl en_spec_l20Number (by kernel_rfl) rfl (fun W N => l20Number_any W _ i.er) rfl) ?_
    refine all_s (sp_li rfl 24 19 rfl (by kernel_rfl) T1.out rfl rfl rfl) ?_
    refine all_s (sp_fa rfl _ 3 4 rfl (by kernel_rfl) w.heap.size 4 rfl (fun W => by kernel_rfl) rfl) ?_
    refine all_s (sp_call1 rfl _ 22 17 (.bool d.et) (tx (flT d.et)) rfl en_spec_l20Flag (by kernel_rfl) rfl (fun W N => l20Flag_any W _) rfl) ?_
    refine all_s (sp_lb rfl 21 16 rfl (by kernel_rfl) T1.out rfl rfl rfl) ?_
    refine all_s (sp_fa rfl _ 3 10 rfl (by kernel_rfl) w.heap.size 10 rfl (fun W => by kernel_rfl) rfl) ?_
    refine all_s (sp_call1 rfl _ 19 14 (.bool d.rs) (tx (flT d.rs)) rfl en_spec_l20Flag (by kernel_rfl) rfl (fun W N => l20Flag_any W _) rfl) ?_
    refine all_s (sp_lb rfl 18 13 rfl (by kernel_rfl) T1.out rfl rfl rfl) ?_
    refine all_s (sp_fa rfl _ 3 9 rfl (by kernel_rfl) w.heap.size 9 rfl (fun W => by kernel_rfl) rfl) ?_
    refine all_s (sp_call1 rfl _ 16 11 (.int .i64 d.no) (tx (itL d.no)) rfl en_spec_l20Number (by kernel_rfl) rfl (fun W N => l20Number_any W _ i.no) rfl) ?_
    refine all_s (sp_li rfl 15 10 rfl (by kernel_rfl) T1.out rfl rfl rfl) ?_
    refine all_s (sp_fa rfl _ 3 8 rfl (by kernel_rfl) w.heap.size 8 rfl (fun W => by kernel_rfl) rfl) ?_
    refine all_s (sp_call1 rfl _ 13 8 (.int .i64 d.pa) (tx (itL d.pa)) rfl en_spec_l20Number (by kernel_rfl) rfl (fun W N => l20Number_any W _ i.pa) rfl) ?_
    refine all_s (sp_li rfl 12 7 rfl (by kernel_rfl) T1.out rfl rfl rfl) ?_
    refine all_s (sp_fa rfl _ 3 7 rfl (by kernel_rfl) w.heap.size 7 rfl (fun W => by kernel_rfl) rfl) ?_
    refine all_s (sp_call1 rfl _ 10 5 (.int .i64 d.al) (tx (itL d.al)) rfl en_spec_l20Number (by kernel_rfl) rfl (fun W N => l20Number_any W _ i.al) rfl) ?_
    refine all_s (sp_li rfl 9 4 rfl (by kernel_rfl) T1.out rfl rfl rfl) ?_
    refine all_s (sp_fa rfl _ 3 6 rfl (by kernel_rfl) w.heap.size 6 rfl (fun W => by kernel_rfl) rfl) ?_
    refine all_s (sp_call1 rfl _ 7 2 (.int .i64 d.ph) (tx (itL d.ph)) rfl en_spec_l20Number (by kernel_rfl) rfl (fun W N => l20Number_any W _ i.ph) rfl) ?_
    refine all_s (sp_li rfl 6 1 rfl (by kernel_rfl) T1.out rfl rfl rfl) ?_
    refine all_s (sp_fa rfl _ 3 5 rfl (by kernel_rfl) w.heap.size 5 rfl (fun W => by kernel_rfl) rfl) ?_
    refine all_s (sp_mv rfl 0 rfl (by kernel_rfl) rfl rfl) ?_
    exact all_z
  intro A W hb hw hF
  have e2 : A.tmps.getD 4 undef = tx (lnL [wo, (itL d.ph), (itL d.al), (itL d.pa), (itL d.no), (flT d.rs), (flT d.et), (itL d.er), (heT (byL d.pr)), (heT d.ex), (heT d.tr), (heT d.re)] ++ [10]) := hF 37 4 (by kernel_rfl)
  obtain ⟨vs, hvs⟩ : ∃ vs : Nat → Value, ∀ d, A.tmps.getD d undef = vs d := ⟨_, fun _ => rfl⟩
  rw [hvs] at e2
  rw [puts_of (md := .any) (k := 38) (by kernel_rfl) rfl hb vs hvs]
  clear hb hF hvs
  simp only [puts, e2, Act.put, List.setIfInBounds_toArray, List.set_cons_succ, List.set_cons_zero]
  clear e2
  have NN := hide (nxt N1.out hw)
  clear hw N1 HL T1
  go_wp2
  go_ret
  exact ⟨rfl, NN.out⟩
set_option maxRecDepth 100000 in
set_option maxHeartbeats 16000000 in
theorem savedLine_any (w : World) (hW : HasW w) (a1 : Option Addr) (c1 g1 : Nat) (tk : List Int) (a2 : Option Addr) (c2 g2 : Nat) (pk : List Int) (a3 : Option Addr) (c3 g3 : Nat) (rn : List Int) (gt li ea : Int) (hs sp : ByteArray) (ho : List UInt8) (r1 : Rd w g1 a1 .u8 tk) (r2 : Rd w g2 a2 .u8 pk) (r3 : Rd w g3 a3 .u8 rn) (b1 : Byt tk) (b2 : Byt pk) (b3 : Byt rn) (h1 : tk.length ≤ 1048576) (h2 : pk.length ≤ 1048576) (h3 : rn.length ≤ 1048576) (h4 : I64 gt) (h5 : I64 li) (h6 : I64 ea) (h7 : ho.length ≤ 2200000) (h8 : sp.size ≤ 1048576) :
    Calls Tryd.prog 62 #[.agg (saV a1 tk c1 a2 pk c2 a3 rn c3 gt li hs sp ea), tx ho] w fun e w' => e = .returned (tx (svT tk pk rn gt li ea ho sp)) ∧ Below w.heap.size w w' := by
  have n1 : Below w.heap.size w (w.alloc (.cells (saV a1 tk c1 a2 pk c2 a3 rn c3 gt li hs sp ea) 34)) := (Below.refl _ _).alloc (Nat.le_refl _) _
  have T1 : Hid (RwC (w.alloc (.cells (saV a1 tk c1 a2 pk c2 a3 rn c3 gt li hs sp ea) 34)) w.heap.size ((saV a1 tk c1 a2 pk c2 a3 rn c3 gt li hs sp ea).toList) 34) := RwC.new w ((saV a1 tk c1 a2 pk c2 a3 rn c3 gt li hs sp ea).toList) 34
  have HW := hide (hW.up n1)
  have HT := hide (r1.up n1)
  have HP := hide (r2.up n1)
  have HR := hide (r3.up n1)
  have HL : Hid ((lnL [[115, 97, 118, 101, 100], heT tk, heT pk, heT rn, itL gt, itL li, itL ea, ho, heT (byL sp)]).length ≤ 140737488355328) := Nat.le_trans (svT_len h1 h2 h3 h4 h5 h6 h7 h8) (by decide)
  have N1 := hide n1
  clear n1 hW r1 r2 r3
  go_enter Tryd.func62, Tryd.ntmps62
  go_upto_region 1 with fail
  refine region_end 25 (fun i => [Fact.eq (.pointer (some ⟨w.heap.size, 0, none⟩)), Fact.eq (.slice a1 tk.length c1), Fact.eq (tx (heT tk)), Fact.eq (.pointer (some ⟨w.heap.size, 1, none⟩)), Fact.eq (.slice a2 pk.length c2), Fact.eq (tx (heT pk)), Fact.eq (.pointer (some ⟨w.heap.size, 2, none⟩)), Fact.eq (.slice a3 rn.length c3), Fact.eq (tx (heT rn)), Fact.eq (.pointer (some ⟨w.heap.size, 3, none⟩)), Fact.eq (.int .i64 gt), Fact.eq (tx (itL gt)), Fact.eq (.pointer (some ⟨w.heap.size, 4, none⟩)), Fact.eq (.int .i64 li), Fact.eq (tx (itL li)), Fact.eq (.pointer (some ⟨w.heap.size, 7, none⟩)), Fact.eq (.int .i64 ea), Fact.eq (tx (itL ea)), Fact.eq (tx ho), Fact.eq (.pointer (some ⟨w.heap.size, 6, none⟩)), Fact.eq (.string sp), Fact.eq (tx (heT (byL sp))), FBt 9 [[115, 97, 118, 101, 100], (heT tk), (heT pk), (heT rn), (itL gt), (itL li), (itL ea), ho, (heT (byL sp))], Fact.eq (tx (lnL [[115, 97, 118, 101, 100], (heT tk), (heT pk), (heT rn), (itL gt), (itL li), (itL ea), ho, (heT (byL sp))])), Fact.eq (tx (lnL [[115, 97, 118, 101, 100], (heT tk), (heT pk), (heT rn), (itL gt), (itL li), (itL ea), ho, (heT (byL sp))]))].getD i Fact.no) (by kernel_rfl) (by kernel_rfl) rfl ?_ ?_
  · refine all_s (sp_as rfl 28 23 rfl (by kernel_rfl) rfl rfl) ?_
    refine all_s (sp_line rfl _ 9 27 22 [[115, 97, 118, 101, 100], (heT tk), (heT pk), (heT rn), (itL gt), (itL li), (itL ea), ho, (heT (byL sp))] _ rfl en_impl_lineOf (by kernel_rfl) rfl (fun W q hB => lineOf_any W q [[115, 97, 118, 101, 100], (heT tk), (heT pk), (heT rn), (itL gt), (itL li), (itL ea), ho, (heT (byL sp))] 9 rfl (by decide) hB HL.out (by simp)) rfl) ?_
    refine all_s (sp_bs rfl 9 _ [(0, tx [115, 97, 118, 101, 100]), (1, tx (heT tk)), (2, tx (heT pk)), (3, tx (heT rn)), (4, tx (itL gt)), (5, tx (itL li)), (6, tx (itL ea)), (7, tx ho), (8, tx (heT (byL sp)))] [[115, 97, 118, 101, 100], (heT tk), (heT pk), (heT rn), (itL gt), (itL li), (itL ea), ho, (heT (byL sp))] rfl (fun a w' hb hf => by
        have e7 : a.tmps.getD 7 undef = tx (heT tk) := hf 2 7 (by kernel_rfl)
        have e10 : a.tmps.getD 10 undef = tx (heT pk) := hf 5 10 (by kernel_rfl)
        have e13 : a.tmps.getD 13 undef = tx (heT rn) := hf 8 13 (by kernel_rfl)
        have e16 : a.tmps.getD 16 undef = tx (itL gt) := hf 11 16 (by kernel_rfl)
        have e19 : a.tmps.getD 19 undef = tx (itL li) := hf 14 19 (by kernel_rfl)
        have e22 : a.tmps.getD 22 undef = tx (itL ea) := hf 17 22 (by kernel_rfl)
        have e23 : a.tmps.getD 23 undef = tx ho := hf 18 23 (by kernel_rfl)
        have e26 : a.tmps.getD 26 undef = tx (heT (byL sp)) := hf 21 26 (by kernel_rfl)
        show [(0, Value.string ⟨#[115, 97, 118, 101, 100]⟩), (1, a.tmps.getD 7 undef), (2, a.tmps.getD 10 undef), (3, a.tmps.getD 13 undef), (4, a.tmps.getD 16 undef), (5, a.tmps.getD 19 undef), (6, a.tmps.getD 22 undef), (7, a.tmps.getD 23 undef), (8, a.tmps.getD 26 undef)] = _
        rw [e7, e10, e13, e16, e19, e22, e23, e26]
        rfl) (fun W => bsT9 W [115, 97, 118, 101, 100] (heT tk) (heT pk) (heT rn) (itL gt) (itL li) (itL ea) ho (heT (byL sp))) rfl) ?_
    refine all_s (sp_call1 rfl _ 25 20 (.string sp) (tx (heT (byL sp))) rfl en_impl_textWord (by kernel_rfl) rfl (fun W N => textWord_any W _ h8) rfl) ?_
    refine all_s (sp_lt rfl 24 19 rfl (by kernel_rfl) T1.out rfl rfl rfl) ?_
    refine all_s (sp_fa rfl _ 2 6 rfl (by kernel_rfl) w.heap.size 6 rfl (fun W => by kernel_rfl) rfl) ?_
    refine all_s (sp_mv rfl 1 rfl (by kernel_rfl) rfl rfl) ?_
    refine all_s (sp_call1 rfl _ 21 16 (.int .i64 ea) (tx (itL ea)) rfl en_impl_numberWord (by kernel_rfl) rfl (fun W N => numberWord_any W (HW.out.up N) _ h6) rfl) ?_
    refine all_s (sp_li rfl 20 15 rfl (by kernel_rfl) T1.out rfl rfl rfl) ?_
    refine all_s (sp_fa rfl _ 2 7 rfl (by kernel_rfl) w.heap.size 7 rfl (fun W => by kernel_rfl) rfl) ?_
    refine all_s (sp_call1 rfl _ 18 13 (.int .i64 li) (tx (itL li)) rfl en_impl_numberWord (by kernel_rfl) rfl (fun W N => numberWord_any W (HW.out.up N) _ h5) rfl) ?_
    refine all_s (sp_li rfl 17 12 rfl (by kernel_rfl) T1.out rfl rfl rfl) ?_
    refine all_s (sp_fa rfl _ 2 4 rfl (by kernel_rfl) w.heap.size 4 rfl (fun W => by kernel_rfl) rfl) ?_
    refine all_s (sp_call1 rfl _ 15 10 (.int .i64 gt) (tx (itL gt)) rfl en_impl_numberWord (by kernel_rfl) rfl (fun W N => numberWord_any W (HW.out.up N) _ h4) rfl) ?_
    refine all_s (sp_li rfl 14 9 rfl (by kernel_rfl) T1.out rfl rfl rfl) ?_
    refine all_s (sp_fa rfl _ 2 3 rfl (by kernel_rfl) w.heap.size 3 rfl (fun W => by kernel_rfl) rfl) ?_
    refine all_s (sp_call1 rfl _ 12 7 (.slice a3 rn.length c3) (tx (heT rn)) rfl en_impl_EncodeHex (by kernel_rfl) rfl (fun W N => implEncodeHex_any W _ _ _ _ (HR.out.up N) b3 h3) rfl) ?_
    refine all_s (sp_ls rfl 11 6 rfl (by kernel_rfl) T1.out rfl rfl rfl) ?_
    refine all_s (sp_fa rfl _ 2 2 rfl (by kernel_rfl) w.heap.size 2 rfl (fun W => by kernel_rfl) rfl) ?_
    refine all_s (sp_call1 rfl _ 9 4 (.slice a2 pk.length c2) (tx (heT pk)) rfl en_impl_EncodeHex (by kernel_rfl) rfl (fun W N => implEncodeHex_any W _ _ _ _ (HP.out.up N) b2 h2) rfl) ?_
    refine all_s (sp_ls rfl 8 3 rfl (by kernel_rfl) T1.out rfl rfl rfl) ?_
    refine all_s (sp_fa rfl _ 2 1 rfl (by kernel_rfl) w.heap.size 1 rfl (fun W => by kernel_rfl) rfl) ?_
    refine all_s (sp_call1 rfl _ 6 1 (.slice a1 tk.length c1) (tx (heT tk)) rfl en_impl_EncodeHex (by kernel_rfl) rfl (fun W N => implEncodeHex_any W _ _ _ _ (HT.out.up N) b1 h1) rfl) ?_
    refine all_s (sp_ls rfl 5 0 rfl (by kernel_rfl) T1.out rfl rfl rfl) ?_
    refine all_s (sp_fa rfl _ 2 0 rfl (by kernel_rfl) w.heap.size 0 rfl (fun W => by kernel_rfl) rfl) ?_
    exact all_z
  intro A W hb hw hF
  have e2 : A.tmps.getD 4 undef = tx (lnL [[115, 97, 118, 101, 100], (heT tk), (heT pk), (heT rn), (itL gt), (itL li), (itL ea), ho, (heT (byL sp))]) := hF 24 4 (by kernel_rfl)
  obtain ⟨vs, hvs⟩ : ∃ vs : Nat → Value, ∀ d, A.tmps.getD d undef = vs d := ⟨_, fun _ => rfl⟩
  rw [hvs] at e2
  rw [puts_of (md := .any) (k := 25) (by kernel_rfl) rfl hb vs hvs]
  clear hb hF hvs
  simp only [puts, e2, Act.put, List.setIfInBounds_toArray, List.set_cons_succ, List.set_cons_zero]
  clear e2
  have NN := hide (nxt N1.out hw)
  clear hw N1 HL T1
  go_wp2
  go_ret
  exact ⟨rfl, NN.out⟩
set_option maxRecDepth 100000 in
set_option maxHeartbeats 16000000 in
theorem l20Saved_any (w : World) (a1 : Option Addr) (c1 g1 : Nat) (tk : List Int) (a2 : Option Addr) (c2 g2 : Nat) (pk : List Int) (a3 : Option Addr) (c3 g3 : Nat) (rn : List Int) (gt li ea : Int) (hs sp : ByteArray) (ho : List UInt8) (r1 : Rd w g1 a1 .u8 tk) (r2 : Rd w g2 a2 .u8 pk) (r3 : Rd w g3 a3 .u8 rn) (b1 : Byt tk) (b2 : Byt pk) (b3 : Byt rn) (h1 : tk.length ≤ 1048576) (h2 : pk.length ≤ 1048576) (h3 : rn.length ≤ 1048576) (h4 : I64 gt) (h5 : I64 li) (h6 : I64 ea) (h7 : ho.length ≤ 2200000) (h8 : sp.size ≤ 1048576) :
    Calls Tryd.prog 16 #[.agg (saV a1 tk c1 a2 pk c2 a3 rn c3 gt li hs sp ea), tx ho] w fun e w' => e = .returned (tx (svT tk pk rn gt li ea ho sp ++ [10])) ∧ Below w.heap.size w w' := by
  have n1 : Below w.heap.size w (w.alloc (.cells (saV a1 tk c1 a2 pk c2 a3 rn c3 gt li hs sp ea) 34)) := (Below.refl _ _).alloc (Nat.le_refl _) _
  have T1 : Hid (RwC (w.alloc (.cells (saV a1 tk c1 a2 pk c2 a3 rn c3 gt li hs sp ea) 34)) w.heap.size ((saV a1 tk c1 a2 pk c2 a3 rn c3 gt li hs sp ea).toList) 34) := RwC.new w ((saV a1 tk c1 a2 pk c2 a3 rn c3 gt li hs sp ea).toList) 34
  have HT := hide (r1.up n1)
  have HP := hide (r2.up n1)
  have HR := hide (r3.up n1)
  have HL : Hid ((lnL [[115, 97, 118, 101, 100], heT tk, heT pk, heT rn, itL gt, itL li, itL ea, ho, heT (byL sp)]).length ≤ 140737488355328) := Nat.le_trans (svT_len h1 h2 h3 h4 h5 h6 h7 h8) (by decide)
  have N1 := hide n1
  clear n1 r1 r2 r3
  go_enter Tryd.func16, Tryd.ntmps16
  go_upto_region 1 with fail
  refine region_end 26 (fun i => [Fact.eq (.pointer (some ⟨w.heap.size, 0, none⟩)), Fact.eq (.slice a1 tk.length c1), Fact.eq (tx (heT tk)), Fact.eq (.pointer (some ⟨w.heap.size, 1, none⟩)), Fact.eq (.slice a2 pk.length c2), Fact.eq (tx (heT pk)), Fact.eq (.pointer (some ⟨w.heap.size, 2, none⟩)), Fact.eq (.slice a3 rn.length c3), Fact.eq (tx (heT rn)), Fact.eq (.pointer (some ⟨w.heap.size, 3, none⟩)), Fact.eq (.int .i64 gt), Fact.eq (tx (itL gt)), Fact.eq (.pointer (some ⟨w.heap.size, 4, none⟩)), Fact.eq (.int .i64 li), Fact.eq (tx (itL li)), Fact.eq (.pointer (some ⟨w.heap.size, 7, none⟩)), Fact.eq (.int .i64 ea), Fact.eq (tx (itL ea)), Fact.eq (tx ho), Fact.eq (.pointer (some ⟨w.heap.size, 6, none⟩)), Fact.eq (.string sp), FRd (byL sp), Fact.eq (tx (heT (byL sp))), FBt 9 [[115, 97, 118, 101, 100], (heT tk), (heT pk), (heT rn), (itL gt), (itL li), (itL ea), ho, (heT (byL sp))], Fact.eq (tx (lnL [[115, 97, 118, 101, 100], (heT tk), (heT pk), (heT rn), (itL gt), (itL li), (itL ea), ho, (heT (byL sp))] ++ [10])), Fact.eq (tx (lnL [[115, 97, 118, 101, 100], (heT tk), (heT pk), (heT rn), (itL gt), (itL li), (itL ea), ho, (heT (byL sp))] ++ [10]))].getD i Fact.no) (by kernel_rfl) (by kernel_rfl) rfl ?_ ?_
  · refine all_s (sp_as rfl 29 24 rfl (by kernel_rfl) rfl rfl) ?_
    refine all_s (sp_line rfl _ 9 28 23 [[115, 97, 118, 101, 100], (heT tk), (heT pk), (heT rn), (itL gt), (itL li), (itL ea), ho, (heT (byL sp))] _ rfl en_spec_l20Line (by kernel_rfl) rfl (fun W q hB => l20Line_any W q 9 [[115, 97, 118, 101, 100], (heT tk), (heT pk), (heT rn), (itL gt), (itL li), (itL ea), ho, (heT (byL sp))] hB rfl (by decide) HL.out) rfl) ?_
    refine all_s (sp_bs rfl 9 _ [(0, tx [115, 97, 118, 101, 100]), (1, tx (heT tk)), (2, tx (heT pk)), (3, tx (heT rn)), (4, tx (itL gt)), (5, tx (itL li)), (6, tx (itL ea)), (7, tx ho), (8, tx (heT (byL sp)))] [[115, 97, 118, 101, 100], (heT tk), (heT pk), (heT rn), (itL gt), (itL li), (itL ea), ho, (heT (byL sp))] rfl (fun a w' hb hf => by
        have e7 : a.tmps.getD 7 undef = tx (heT tk) := hf 2 7 (by kernel_rfl)
        have e10 : a.tmps.getD 10 undef = tx (heT pk) := hf 5 10 (by kernel_rfl)
        have e13 : a.tmps.getD 13 undef = tx (heT rn) := hf 8 13 (by kernel_rfl)
        have e16 : a.tmps.getD 16 undef = tx (itL gt) := hf 11 16 (by kernel_rfl)
        have e19 : a.tmps.getD 19 undef = tx (itL li) := hf 14 19 (by kernel_rfl)
        have e22 : a.tmps.getD 22 undef = tx (itL ea) := hf 17 22 (by kernel_rfl)
        have e23 : a.tmps.getD 23 undef = tx ho := hf 18 23 (by kernel_rfl)
        have e27 : a.tmps.getD 27 undef = tx (heT (byL sp)) := hf 22 27 (by kernel_rfl)
        show [(0, Value.string ⟨#[115, 97, 118, 101, 100]⟩), (1, a.tmps.getD 7 undef), (2, a.tmps.getD 10 undef), (3, a.tmps.getD 13 undef), (4, a.tmps.getD 16 undef), (5, a.tmps.getD 19 undef), (6, a.tmps.getD 22 undef), (7, a.tmps.getD 23 undef), (8, a.tmps.getD 27 undef)] = _
        rw [e7, e10, e13, e16, e19, e22, e23, e27]
        rfl) (fun W => bsT9 W [115, 97, 118, 101, 100] (heT tk) (heT pk) (heT rn) (itL gt) (itL li) (itL ea) ho (heT (byL sp))) rfl) ?_
    refine all_s (sp_hexc rfl 26 21 sp h8 rfl (by kernel_rfl) rfl rfl) ?_
    refine all_s (sp_conv rfl 25 20 sp h8 rfl (by kernel_rfl) rfl rfl) ?_
    refine all_s (sp_lt rfl 24 19 rfl (by kernel_rfl) T1.out rfl rfl rfl) ?_
    refine all_s (sp_fa rfl _ 2 6 rfl (by kernel_rfl) w.heap.size 6 rfl (fun W => by kernel_rfl) rfl) ?_
    refine all_s (sp_mv rfl 1 rfl (by kernel_rfl) rfl rfl) ?_
    refine all_s (sp_call1 rfl _ 21 16 (.int .i64 ea) (tx (itL ea)) rfl en_spec_l20Number (by kernel_rfl) rfl (fun W N => l20Number_any W _ h6) rfl) ?_
    refine all_s (sp_li rfl 20 15 rfl (by kernel_rfl) T1.out rfl rfl rfl) ?_
    refine all_s (sp_fa rfl _ 2 7 rfl (by kernel_rfl) w.heap.size 7 rfl (fun W => by kernel_rfl) rfl) ?_
    refine all_s (sp_call1 rfl _ 18 13 (.int .i64 li) (tx (itL li)) rfl en_spec_l20Number (by kernel_rfl) rfl (fun W N => l20Number_any W _ h5) rfl) ?_
    refine all_s (sp_li rfl 17 12 rfl (by kernel_rfl) T1.out rfl rfl rfl) ?_
    refine all_s (sp_fa rfl _ 2 4 rfl (by kernel_rfl) w.heap.size 4 rfl (fun W => by kernel_rfl) rfl) ?_
    refine all_s (sp_call1 rfl _ 15 10 (.int .i64 gt) (tx (itL gt)) rfl en_spec_l20Number (by kernel_rfl) rfl (fun W N => l20Number_any W _ h4) rfl) ?_
    refine all_s (sp_li rfl 14 9 rfl (by kernel_rfl) T1.out rfl rfl rfl) ?_
    refine all_s (sp_fa rfl _ 2 3 rfl (by kernel_rfl) w.heap.size 3 rfl (fun W => by kernel_rfl) rfl) ?_
    refine all_s (sp_call1 rfl _ 12 7 (.slice a3 rn.length c3) (tx (heT rn)) rfl en_spec_EncodeHex (by kernel_rfl) rfl (fun W N => specEncodeHex_any W _ _ _ _ (HR.out.up N) b3 h3) rfl) ?_
    refine all_s (sp_ls rfl 11 6 rfl (by kernel_rfl) T1.out rfl rfl rfl) ?_
    refine all_s (sp_fa rfl _ 2 2 rfl (by kernel_rfl) w.heap.size 2 rfl (fun W => by kernel_rfl) rfl) ?_
    refine all_s (sp_call1 rfl _ 9 4 (.slice a2 pk.length c2) (tx (heT pk)) rfl en_spec_EncodeHex (by kernel_rfl) rfl (fun W N => specEncodeHex_any W _ _ _ _ (HP.out.up N) b2 h2) rfl) ?_
    refine all_s (sp_ls rfl 8 3 rfl (by kernel_rfl) T1.out rfl rfl rfl) ?_
    refine all_s (sp_fa rfl _ 2 1 rfl (by kernel_rfl) w.heap.size 1 rfl (fun W => by kernel_rfl) rfl) ?_
    refine all_s (sp_call1 rfl _ 6 1 (.slice a1 tk.length c1) (tx (heT tk)) rfl en_spec_EncodeHex (by kernel_rfl) rfl (fun W N => specEncodeHex_any W _ _ _ _ (HT.out.up N) b1 h1) rfl) ?_
    refine all_s (sp_ls rfl 5 0 rfl (by kernel_rfl) T1.out rfl rfl rfl) ?_
    refine all_s (sp_fa rfl _ 2 0 rfl (by kernel_rfl) w.heap.size 0 rfl (fun W => by kernel_rfl) rfl) ?_
    exact all_z
  intro A W hb hw hF
  have e2 : A.tmps.getD 4 undef = tx (lnL [[115, 97, 118, 101, 100], (heT tk), (heT pk), (heT rn), (itL gt), (itL li), (itL ea), ho, (heT (byL sp))] ++ [10]) := hF 25 4 (by kernel_rfl)
  obtain ⟨vs, hvs⟩ : ∃ vs : Nat → Value, ∀ d, A.tmps.getD d undef = vs d := ⟨_, fun _ => rfl⟩
  rw [hvs] at e2
  rw [puts_of (md := .any) (k := 26) (by kernel_rfl) rfl hb vs hvs]
  clear hb hF hvs
  simp only [puts, e2, Act.put, List.setIfInBounds_toArray, List.set_cons_succ, List.set_cons_zero]
  clear e2
  have NN := hide (nxt N1.out hw)
  clear hw N1 HL T1
  go_wp2
  go_ret
  exact ⟨rfl, NN.out⟩
end Go.Proofs.YtpbniihhpfbamaaDoor
