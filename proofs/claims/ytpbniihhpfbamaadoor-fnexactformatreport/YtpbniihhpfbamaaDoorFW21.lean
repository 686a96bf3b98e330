import Derived.Test.YtpbniihhpfbamaaDoorFWxFqL
import Derived.Test.YtpbniihhpfbamaaDoorFW20
import Derived.Test.YtpbniihhpfbamaaDoorRows
import Derived.Lib.LaidTab
import Derived.Lib.LaidU8
import Derived.LaidMore

/-
  A world's report that came in, opened (written by gens/fqo.py).
-/
namespace Go.Proofs.YtpbniihhpfbamaaDoor
set_option maxRecDepth 100000
open Go Go.RowKit Go.ChangeShapes Go.WideShapes

/-- What is known of an end's report that came in, beside its lengths. -/
structure XtE (d : ED) : Prop where
  i : IrE d
  bx : Byt d.ex
  bt : Byt d.tr
  br : Byt d.re
structure XtC (d : CD) : Prop where
  cl : XtE d.cl
  sv : XtE d.sv
  bs : Byt d.ts
  bc : Byt d.tc
structure XtR (d : WD) : Prop where
  fa : I64 d.fa
  cz : ∀ i, i < d.cs.length → XtC (d.cs.getD i cd0)
  b1 : Byt d.tk
  b2 : Byt d.pk
  b3 : Byt d.rn
  gt : I64 d.gt
  li : I64 d.li
  ea : I64 d.ea
  wd : I64 d.wd
  ms : ∀ i, i < d.ms.length → Byt (d.ms.getD i mrk0).id ∧ I64 (d.ms.getD i mrk0).un
theorem okR_of {d : WD} (h : wrT d ≤ 1048576) : OkR d := by
  unfold wrT at h
  have h1 := sumC_0 d.cs
  refine ⟨by omega, fun i hi => okC_of ?_, by omega, by omega, by omega, by omega, fun i hi => ?_⟩
  · have h2 := sumC_get hi
    unfold cdT at h2
    omega
  · have := sumK_get hi
    omega
theorem prE_of {d : ED} (h : erT d ≤ 1048576) : d.pr.size ≤ 1048576 := by
  unfold erT at h
  omega
theorem lnE_of {d : ED} (k : OkE d) (x : XtE d) (h : erT d ≤ 1048576) : LnE d := ⟨k, x.i, x.bx, x.bt, x.br, prE_of h⟩
theorem lnWd_of {d : WD} (h : wrT d ≤ 1048576) (x : XtR d) : LnWd d := by
  have K := okR_of h
  unfold wrT at h
  have h1 := sumC_0 d.cs
  refine ⟨x.fa, K.cs, fun i hi => ?_, K.tk, K.pk, K.rn, x.b1, x.b2, x.b3, x.gt, x.li, x.ea, x.wd, by omega, by omega, K.ms, fun i hi => ⟨K.mz i hi, (x.ms i hi).1, (x.ms i hi).2⟩⟩
  have h2 := sumC_get hi
  have h3 := K.cz i hi
  have h4 := x.cz i hi
  have e1 := erT_0 (d.cs.getD i cd0).cl
  have e2 := erT_0 (d.cs.getD i cd0).sv
  unfold cdT at h2
  exact ⟨lnE_of h3.cl h4.cl (by omega), lnE_of h3.sv h4.sv (by omega), h3.ts, h3.tc, h4.bs, h4.bc⟩
section
variable {H : Type} {enc : TypeId × Value → H} {w : World} {base : Nat} {held : Bool}
theorem oIx {n : Nat} {cs : List Value} {y : DataW H × List MemPlace} (h : DataW.trod enc Tryd.prog w base (fun _ => true) held n 2 cs = some y) : ∃ k, cs = [.int .i64 k] ∧ I64 k := by
  obtain ⟨k, e, _, wf⟩ := DataW.trod_int Tryd.underlying2 h
  exact ⟨k, e, by simpa [Lit.wf, IntKind.min, IntKind.max, IntKind.signed, IntKind.bits, I64] using wf⟩
set_option maxRecDepth 100000 in
theorem oKx {n : Nat} {cs : List Value} {y : DataW H × List MemPlace} (h : DataW.trod enc Tryd.prog w base (fun _ => true) held n 26 cs = some y) : ∃ a c g ms ps, cs = [.slice a (List.length ms) c] ∧ RdK w g a ms ps ∧ ms.length ≤ 9223372036854775807 ∧ (∀ i, i < ms.length → (ms.getD i mrk0).id.length < 9223372036854775808) ∧ ∀ i, i < ms.length → Byt (ms.getD i mrk0).id ∧ I64 (ms.getD i mrk0).un := by
  rcases DataW.trod_slice Tryd.underlying26 h with ⟨rfl, _⟩ | ⟨x, l, c, elems, rest, m, _, rfl, _, _, hl, hm, hlen, hel, _, _⟩
  · exact ⟨none, 0, 0, [], [], rfl, ⟨fun h => absurd h (by simp), fun i hi => absurd hi (by simp)⟩, by simp, fun i hi => absurd hi (by simp), fun i hi => absurd hi (by simp)⟩
  · have hc2 : Tryd.prog.cellsOf 107 = 2 := by kernel_rfl
    have hm' : c ≤ 9223372036854775807 := hm
    have HH : ∀ i, i < l → ∃ G : Mrk × Plm, (w.cell? ((x.add (i * 2)).add 0) = some (.slice G.2.a G.1.id.length G.2.c) ∧ w.cell? ((x.add (i * 2)).add 1) = some (.int .i64 G.1.un)) ∧ Rd w G.2.q G.2.a .u8 G.1.id ∧ G.1.id.length < 9223372036854775808 ∧ Byt G.1.id ∧ I64 G.1.un := fun i hi => by
      have hb := hel i hi
      rw [hc2, List.getElem?_eq_getElem (by omega), Option.bind_eq_some_iff] at hb
      obtain ⟨cs', hcs', hy⟩ := hb
      obtain ⟨_, _, _, _, hcl, _, _⟩ := DataW.trod_struct Tryd.underlying107 hy
      rw [hc2] at hcl
      obtain ⟨_, _, h0⟩ := trod_fld (T := 23) Tryd.underlying107 hy 0 0 1 rfl rfl rfl (by kernel_rfl)
      obtain ⟨_, _, h1⟩ := trod_fld (T := 2) Tryd.underlying107 hy 1 1 1 rfl rfl rfl (by kernel_rfl)
      obtain ⟨a, c, g, xs, e0, r, bx, lx⟩ := oS h0
      obtain ⟨k, e1, ik⟩ := oIx h1
      have e : cs' = [.slice a xs.length c, .int .i64 k] := by
        rw [← List.drop_zero (l := cs'), glue 0 1 1 e0 rfl, glue 1 1 2 e1 rfl, List.drop_eq_nil_of_le (by omega)]
        rfl
      rw [e] at hcs'
      obtain ⟨q0, q1⟩ := cells2 hcs'
      exact ⟨(⟨xs, k⟩, ⟨a, c, g⟩), ⟨q0, q1⟩, r, lx, bx, ik⟩
    obtain ⟨Gs, hGl, hG⟩ := pickK (mrk0, plm0) l HH
    have e1 : ∀ i, i < l → (Gs.map (·.1)).getD i mrk0 = (Gs.getD i (mrk0, plm0)).1 := fun i hi => by
      rw [List.getD_eq_getElem?_getD, List.getElem?_map, List.getElem?_eq_getElem (by omega), List.getD_eq_getElem?_getD, List.getElem?_eq_getElem (by omega)]
      rfl
    have e2 : ∀ i, i < l → (Gs.map (·.2)).getD i plm0 = (Gs.getD i (mrk0, plm0)).2 := fun i hi => by
      rw [List.getD_eq_getElem?_getD, List.getElem?_map, List.getElem?_eq_getElem (by omega), List.getD_eq_getElem?_getD, List.getElem?_eq_getElem (by omega)]
      rfl
    have el : (Gs.map (·.1)).length = l := by simp [hGl]
    refine ⟨some x, c, x.block, Gs.map (·.1), Gs.map (·.2), by rw [el], ⟨fun h0 => ?_, fun i hi => ?_⟩, by rw [el]; omega, fun i hi => ?_, fun i hi => ?_⟩
    · rw [el] at h0
      obtain ⟨b, off, spot⟩ := x
      have h1 := (hG 0 h0).1.1
      have hs : spot = none := by simpa [Addr.add] using World.cell?_spot h1
      subst hs
      refine ⟨off, rfl, fun i hi => ?_⟩
      rw [el] at hi
      have h2 := (hG i hi).1
      have e : ∀ k, (⟨b, off, none⟩ : Addr).add k = ⟨b, off + k, none⟩ := fun k => by
        unfold Addr.add
        split <;> simp_all
      have e' : (⟨b, off + i * 2, none⟩ : Addr).add 1 = ⟨b, off + i * 2 + 1, none⟩ := by
        unfold Addr.add
        split <;> simp_all
      have e'' : (⟨b, off + i * 2, none⟩ : Addr).add 0 = ⟨b, off + i * 2, none⟩ := by
        unfold Addr.add
        split <;> simp_all
      rw [e, e', e''] at h2
      rw [e1 i hi, e2 i hi]
      exact h2
    · rw [el] at hi
      rw [e1 i hi, e2 i hi]
      exact (hG i hi).2.1
    · rw [el] at hi
      rw [e1 i hi]
      exact (hG i hi).2.2.1
    · rw [el] at hi
      rw [e1 i hi]
      exact (hG i hi).2.2.2
set_option maxRecDepth 100000 in
set_option maxHeartbeats 8000000 in
theorem open_endX {n : Nat} {cs : List Value} {y : DataW H × List MemPlace} (h : DataW.trod enc Tryd.prog w base (fun _ => true) held n 72 cs = some y) : ∃ (p : EA) (d : ED), cs = erL p d ∧ HasE 0 w p d ∧ BgE d ∧ XtE d := by
  obtain ⟨_, _, _, _, hl, _, _⟩ := DataW.trod_struct Tryd.underlying72 h
  rw [show Tryd.prog.cellsOf 72 = 24 by kernel_rfl] at hl
  obtain ⟨_, _, h_fa⟩ := trod_fld (T := 2) Tryd.underlying72 h 0 0 1 rfl rfl rfl (by kernel_rfl)
  obtain ⟨fa, e_fa, i_fa⟩ := oIx h_fa
  obtain ⟨_, _, h_an⟩ := trod_fld (T := 49) Tryd.underlying72 h 1 1 1 rfl rfl rfl (by kernel_rfl)
  obtain ⟨a_an, c_an, g_an, an, e_an, r_an, z_an⟩ := oR h_an
  obtain ⟨_, _, h_se⟩ := trod_fld (T := 23) Tryd.underlying72 h 2 2 1 rfl rfl rfl (by kernel_rfl)
  obtain ⟨a_se, c_se, g_se, se, e_se, r_se, y_se, z_se⟩ := oS h_se
  obtain ⟨_, _, h_re⟩ := trod_fld (T := 23) Tryd.underlying72 h 3 3 1 rfl rfl rfl (by kernel_rfl)
  obtain ⟨a_re, c_re, g_re, re, e_re, r_re, y_re, z_re⟩ := oS h_re
  obtain ⟨_, _, h_er⟩ := trod_fld (T := 2) Tryd.underlying72 h 4 4 1 rfl rfl rfl (by kernel_rfl)
  obtain ⟨er, e_er, i_er⟩ := oIx h_er
  obtain ⟨_, _, h_ph⟩ := trod_fld (T := 2) Tryd.underlying72 h 5 5 1 rfl rfl rfl (by kernel_rfl)
  obtain ⟨ph, e_ph, i_ph⟩ := oIx h_ph
  obtain ⟨_, _, h_al⟩ := trod_fld (T := 2) Tryd.underlying72 h 6 6 1 rfl rfl rfl (by kernel_rfl)
  obtain ⟨al, e_al, i_al⟩ := oIx h_al
  obtain ⟨_, _, h_pa⟩ := trod_fld (T := 2) Tryd.underlying72 h 7 7 1 rfl rfl rfl (by kernel_rfl)
  obtain ⟨pa, e_pa, i_pa⟩ := oIx h_pa
  obtain ⟨_, _, h_no⟩ := trod_fld (T := 2) Tryd.underlying72 h 8 8 1 rfl rfl rfl (by kernel_rfl)
  obtain ⟨no, e_no, i_no⟩ := oIx h_no
  obtain ⟨_, _, h_rs⟩ := trod_fld (T := 4) Tryd.underlying72 h 9 9 1 rfl rfl rfl (by kernel_rfl)
  obtain ⟨rs, e_rs⟩ := oB h_rs
  obtain ⟨_, _, h_et⟩ := trod_fld (T := 4) Tryd.underlying72 h 10 10 1 rfl rfl rfl (by kernel_rfl)
  obtain ⟨et, e_et⟩ := oB h_et
  obtain ⟨_, _, h_pr⟩ := trod_fld (T := 9) Tryd.underlying72 h 11 11 1 rfl rfl rfl (by kernel_rfl)
  obtain ⟨pr, e_pr, z_pr⟩ := oT h_pr
  obtain ⟨_, _, h_ex⟩ := trod_fld (T := 23) Tryd.underlying72 h 12 12 1 rfl rfl rfl (by kernel_rfl)
  obtain ⟨a_ex, c_ex, g_ex, ex, e_ex, r_ex, y_ex, z_ex⟩ := oS h_ex
  obtain ⟨_, _, h_tr⟩ := trod_fld (T := 23) Tryd.underlying72 h 13 13 1 rfl rfl rfl (by kernel_rfl)
  obtain ⟨a_tr, c_tr, g_tr, tr, e_tr, r_tr, y_tr, z_tr⟩ := oS h_tr
  obtain ⟨_, _, hsv⟩ := trod_fld (T := 25) Tryd.underlying72 h 14 14 8 rfl rfl rfl (by kernel_rfl)
  obtain ⟨_, _, _, _, ls, _, _⟩ := DataW.trod_struct Tryd.underlying25 hsv
  rw [show Tryd.prog.cellsOf 25 = 8 by kernel_rfl] at ls
  obtain ⟨_, _, h_tk⟩ := trod_fld (T := 23) Tryd.underlying25 hsv 0 0 1 rfl rfl rfl (by kernel_rfl)
  obtain ⟨a_tk, c_tk, g_tk, tk, e_tk, r_tk, y_tk, z_tk⟩ := oS h_tk
  obtain ⟨_, _, h_pk⟩ := trod_fld (T := 23) Tryd.underlying25 hsv 1 1 1 rfl rfl rfl (by kernel_rfl)
  obtain ⟨a_pk, c_pk, g_pk, pk, e_pk, r_pk, y_pk, z_pk⟩ := oS h_pk
  obtain ⟨_, _, h_rn⟩ := trod_fld (T := 23) Tryd.underlying25 hsv 2 2 1 rfl rfl rfl (by kernel_rfl)
  obtain ⟨a_rn, c_rn, g_rn, rn, e_rn, r_rn, y_rn, z_rn⟩ := oS h_rn
  obtain ⟨_, _, h_gt⟩ := trod_fld (T := 2) Tryd.underlying25 hsv 3 3 1 rfl rfl rfl (by kernel_rfl)
  obtain ⟨gt, e_gt, i_gt⟩ := oIx h_gt
  obtain ⟨_, _, h_li⟩ := trod_fld (T := 2) Tryd.underlying25 hsv 4 4 1 rfl rfl rfl (by kernel_rfl)
  obtain ⟨li, e_li, i_li⟩ := oIx h_li
  obtain ⟨_, _, h_ho⟩ := trod_fld (T := 9) Tryd.underlying25 hsv 5 5 1 rfl rfl rfl (by kernel_rfl)
  obtain ⟨ho, e_ho, z_ho⟩ := oT h_ho
  obtain ⟨_, _, h_sp⟩ := trod_fld (T := 9) Tryd.underlying25 hsv 6 6 1 rfl rfl rfl (by kernel_rfl)
  obtain ⟨sp, e_sp, z_sp⟩ := oT h_sp
  obtain ⟨_, _, h_ea⟩ := trod_fld (T := 2) Tryd.underlying25 hsv 7 7 1 rfl rfl rfl (by kernel_rfl)
  obtain ⟨ea, e_ea, i_ea⟩ := oIx h_ea
  obtain ⟨_, _, hwd⟩ := trod_fld (T := 28) Tryd.underlying72 h 15 22 2 rfl rfl rfl (by kernel_rfl)
  obtain ⟨_, _, _, _, lw, _, _⟩ := DataW.trod_struct Tryd.underlying28 hwd
  rw [show Tryd.prog.cellsOf 28 = 2 by kernel_rfl] at lw
  obtain ⟨_, _, h_wd⟩ := trod_fld (T := 2) Tryd.underlying28 hwd 0 0 1 rfl rfl rfl (by kernel_rfl)
  obtain ⟨wd, e_wd, i_wd⟩ := oIx h_wd
  obtain ⟨_, _, h_ms⟩ := trod_fld (T := 26) Tryd.underlying28 hwd 1 1 1 rfl rfl rfl (by kernel_rfl)
  obtain ⟨a_ms, c_ms, g_ms, ms, p_ms, e_ms, r_ms, z_ms, y_ms, x_ms⟩ := oKx h_ms
  have s1 : (cs.drop 14).take 8 = [.slice a_tk tk.length c_tk, .slice a_pk pk.length c_pk, .slice a_rn rn.length c_rn, .int .i64 gt, .int .i64 li, .string ho, .string sp, .int .i64 ea] := by
    generalize (cs.drop 14).take 8 = u at *
    rw [← List.drop_zero (l := u), glue 0 1 1 e_tk rfl, glue 1 1 2 e_pk rfl, glue 2 1 3 e_rn rfl, glue 3 1 4 e_gt rfl, glue 4 1 5 e_li rfl, glue 5 1 6 e_ho rfl, glue 6 1 7 e_sp rfl, glue 7 1 8 e_ea rfl, List.drop_eq_nil_of_le (by omega)]
    rfl
  have s2 : (cs.drop 22).take 2 = [.int .i64 wd, .slice a_ms ms.length c_ms] := by
    generalize (cs.drop 22).take 2 = u at *
    rw [← List.drop_zero (l := u), glue 0 1 1 e_wd rfl, glue 1 1 2 e_ms rfl, List.drop_eq_nil_of_le (by omega)]
    rfl
  refine ⟨⟨a_an, c_an, g_an, a_se, c_se, g_se, a_re, c_re, g_re, a_ex, c_ex, g_ex, a_tr, c_tr, g_tr, a_tk, c_tk, g_tk, a_pk, c_pk, g_pk, a_rn, c_rn, g_rn, a_ms, c_ms, g_ms, p_ms⟩, ⟨fa, an, se, re, er, ph, al, pa, no, rs, et, pr, ex, tr, tk, pk, rn, gt, li, ho, sp, ea, wd, ms⟩, ?_, ⟨r_an, Nat.zero_le _, r_se, Nat.zero_le _, r_re, Nat.zero_le _, r_ex, Nat.zero_le _, r_tr, Nat.zero_le _, r_tk, Nat.zero_le _, r_pk, Nat.zero_le _, r_rn, Nat.zero_le _, r_ms, Nat.zero_le _, fun _ _ => Nat.zero_le _⟩, ⟨z_an, z_se, z_re, z_ex, z_tr, z_tk, z_pk, z_rn, z_pr, z_ho, z_sp, z_ms, y_ms⟩, ⟨⟨i_ph, i_al, i_pa, i_no, i_er⟩, y_ex, y_tr, y_re⟩⟩
  rw [← List.drop_zero (l := cs), glue 0 1 1 e_fa rfl, glue 1 1 2 e_an rfl, glue 2 1 3 e_se rfl, glue 3 1 4 e_re rfl, glue 4 1 5 e_er rfl, glue 5 1 6 e_ph rfl, glue 6 1 7 e_al rfl, glue 7 1 8 e_pa rfl, glue 8 1 9 e_no rfl, glue 9 1 10 e_rs rfl, glue 10 1 11 e_et rfl, glue 11 1 12 e_pr rfl, glue 12 1 13 e_ex rfl, glue 13 1 14 e_tr rfl, glue 14 8 22 s1 rfl, glue 22 2 24 s2 rfl, List.drop_eq_nil_of_le (by omega)]
  rfl
set_option maxRecDepth 100000 in
set_option maxHeartbeats 8000000 in
theorem open_chanX {n : Nat} {cs : List Value} {y : DataW H × List MemPlace} (h : DataW.trod enc Tryd.prog w base (fun _ => true) held n 74 cs = some y) : ∃ (p : CA) (d : CD), cs = crL p d ∧ HasC 0 w p d ∧ BgC d ∧ XtC d := by
  obtain ⟨_, _, _, _, hl, _, _⟩ := DataW.trod_struct Tryd.underlying74 h
  rw [show Tryd.prog.cellsOf 74 = 52 by kernel_rfl] at hl
  obtain ⟨_, _, h_0⟩ := trod_fld (T := 2) Tryd.underlying74 h 0 0 1 rfl rfl rfl (by kernel_rfl)
  obtain ⟨fa, e_fa, i_fa⟩ := oIx h_0
  obtain ⟨_, _, h_1⟩ := trod_fld (T := 49) Tryd.underlying74 h 1 1 1 rfl rfl rfl (by kernel_rfl)
  obtain ⟨a_an, c_an, g_an, an, e_an, r_an, z_an⟩ := oR h_1
  obtain ⟨_, _, h_2⟩ := trod_fld (T := 72) Tryd.underlying74 h 2 2 24 rfl rfl rfl (by kernel_rfl)
  obtain ⟨p2, d2, e2, H2, B2, T2⟩ := open_endX h_2
  obtain ⟨_, _, h_3⟩ := trod_fld (T := 72) Tryd.underlying74 h 3 26 24 rfl rfl rfl (by kernel_rfl)
  obtain ⟨p3, d3, e3, H3, B3, T3⟩ := open_endX h_3
  obtain ⟨_, _, h_4⟩ := trod_fld (T := 23) Tryd.underlying74 h 4 50 1 rfl rfl rfl (by kernel_rfl)
  obtain ⟨a_ts, c_ts, g_ts, ts, e_ts, r_ts, y_ts, z_ts⟩ := oS h_4
  obtain ⟨_, _, h_5⟩ := trod_fld (T := 23) Tryd.underlying74 h 5 51 1 rfl rfl rfl (by kernel_rfl)
  obtain ⟨a_tc, c_tc, g_tc, tc, e_tc, r_tc, y_tc, z_tc⟩ := oS h_5
  refine ⟨⟨a_an, c_an, g_an, p2, p3, a_ts, c_ts, g_ts, a_tc, c_tc, g_tc⟩, ⟨fa, an, d2, d3, ts, tc⟩, ?_, ⟨r_an, Nat.zero_le _, H2, H3, r_ts, Nat.zero_le _, r_tc, Nat.zero_le _⟩, ⟨z_an, B2, B3, z_ts, z_tc⟩, T2, T3, y_ts, y_tc⟩
  rw [← List.drop_zero (l := cs), glue 0 1 1 e_fa rfl, glue 1 1 2 e_an rfl, glue 2 24 26 e2 rfl, glue 26 24 50 e3 rfl, glue 50 1 51 e_ts rfl, glue 51 1 52 e_tc rfl, List.drop_eq_nil_of_le (by omega)]
  rfl
def ca0 : CA := ⟨none, 0, 0, ⟨none, 0, 0, none, 0, 0, none, 0, 0, none, 0, 0, none, 0, 0, none, 0, 0, none, 0, 0, none, 0, 0, none, 0, 0, []⟩, ⟨none, 0, 0, none, 0, 0, none, 0, 0, none, 0, 0, none, 0, 0, none, 0, 0, none, 0, 0, none, 0, 0, none, 0, 0, []⟩, none, 0, 0, none, 0, 0⟩
set_option maxRecDepth 100000 in
theorem oCx {n : Nat} {cs : List Value} {y : DataW H × List MemPlace} (h : DataW.trod enc Tryd.prog w base (fun _ => true) held n 22 cs = some y) : ∃ a c g ms P, cs = [.slice a (List.length ms) c] ∧ RdC w g a ms P ∧ ms.length ≤ 9223372036854775807 ∧ (∀ i, i < ms.length → BgC (ms.getD i cd0)) ∧ ∀ i, i < ms.length → XtC (ms.getD i cd0) := by
  rcases DataW.trod_slice Tryd.underlying22 h with ⟨rfl, _⟩ | ⟨x, l, c, elems, rest, m, _, rfl, _, _, hl, hm, hlen, hel, _, _⟩
  · exact ⟨none, 0, 0, [], fun _ => ca0, rfl, ⟨fun h => absurd h (by simp), fun i hi => absurd hi (by simp)⟩, by simp, fun i hi => absurd hi (by simp), fun i hi => absurd hi (by simp)⟩
  · have hc2 : Tryd.prog.cellsOf 74 = 52 := by kernel_rfl
    have hm' : c ≤ 9223372036854775807 := hm
    have HH : ∀ i, i < l → ∃ G : CD × CA, w.cells? base (x.add (i * 52)) 52 = some (crL G.2 G.1) ∧ HasC 0 w G.2 G.1 ∧ BgC G.1 ∧ XtC G.1 := fun i hi => by
      have hb := hel i hi
      rw [hc2, List.getElem?_eq_getElem (by omega), Option.bind_eq_some_iff] at hb
      obtain ⟨cs', hcs', hy⟩ := hb
      obtain ⟨p, d, e, h1, h2, h3⟩ := open_chanX hy
      subst e
      exact ⟨(d, p), hcs', h1, h2, h3⟩
    obtain ⟨Gs, hGl, hG⟩ := pickK (cd0, ca0) l HH
    have e1 : ∀ i, i < l → (Gs.map (·.1)).getD i cd0 = (Gs.getD i (cd0, ca0)).1 := fun i hi => by
      rw [List.getD_eq_getElem?_getD, List.getElem?_map, List.getElem?_eq_getElem (by omega), List.getD_eq_getElem?_getD, List.getElem?_eq_getElem (by omega)]
      rfl
    have el : (Gs.map (·.1)).length = l := by simp [hGl]
    refine ⟨some x, c, x.block, Gs.map (·.1), fun i => (Gs.getD i (cd0, ca0)).2, by rw [el], ⟨fun h0 => ?_, fun i hi => ?_⟩, by rw [el]; omega, fun i hi => ?_, fun i hi => ?_⟩
    · rw [el] at h0
      obtain ⟨b, off, spot⟩ := x
      obtain ⟨_, _, h1⟩ := World.cells?_some (hG 0 h0).1
      have h1' := h1 0 (by omega)
      have h1'' : w.cell? ((Addr.add ⟨b, off, spot⟩ (0 * 52)).add 0) = some (crL (Gs.getD 0 (cd0, ca0)).2 (Gs.getD 0 (cd0, ca0)).1)[0] := h1'
      have hs : spot = none := by simpa [Addr.add] using World.cell?_spot h1''
      subst hs
      refine ⟨off, rfl, fun i hi => ?_⟩
      rw [el] at hi
      obtain ⟨_, _, h2⟩ := World.cells?_some (hG i hi).1
      rw [e1 i hi]
      intro j v hv
      have hj : j < 52 := by
        have h3 : j < (crL (Gs.getD i (cd0, ca0)).2 (Gs.getD i (cd0, ca0)).1).length := (List.getElem?_eq_some_iff.1 hv).1
        exact h3
      have h4 := h2 j hj
      rw [Addr.add_mid, Addr.add_mid] at h4
      rw [h4]
      exact hv
    · rw [el] at hi
      rw [e1 i hi]
      exact (hG i hi).2.1
    · rw [el] at hi
      rw [e1 i hi]
      exact (hG i hi).2.2.1
    · rw [el] at hi
      rw [e1 i hi]
      exact (hG i hi).2.2.2
set_option maxRecDepth 100000 in
set_option maxHeartbeats 8000000 in
theorem open_world {n : Nat} {cs : List Value} {y : DataW H × List MemPlace} (h : DataW.trod enc Tryd.prog w base (fun _ => true) held n 30 cs = some y) : ∃ (p : WA) (d : WD), cs = wrL p d ∧ HasR w p d ∧ BgR d ∧ XtR d := by
  obtain ⟨_, _, _, _, hl, _, _⟩ := DataW.trod_struct Tryd.underlying30 h
  rw [show Tryd.prog.cellsOf 30 = 12 by kernel_rfl] at hl
  obtain ⟨_, _, h_fa⟩ := trod_fld (T := 2) Tryd.underlying30 h 0 0 1 rfl rfl rfl (by kernel_rfl)
  obtain ⟨fa, e_fa, i_fa⟩ := oIx h_fa
  obtain ⟨_, _, h_cs⟩ := trod_fld (T := 22) Tryd.underlying30 h 1 1 1 rfl rfl rfl (by kernel_rfl)
  obtain ⟨a_cs, c_cs, g_cs, cz, P_cs, e_cs, r_cs, z_cs, y_cs, x_cs⟩ := oCx h_cs
  obtain ⟨_, _, hsv⟩ := trod_fld (T := 25) Tryd.underlying30 h 2 2 8 rfl rfl rfl (by kernel_rfl)
  obtain ⟨_, _, _, _, ls, _, _⟩ := DataW.trod_struct Tryd.underlying25 hsv
  rw [show Tryd.prog.cellsOf 25 = 8 by kernel_rfl] at ls
  obtain ⟨_, _, h_tk⟩ := trod_fld (T := 23) Tryd.underlying25 hsv 0 0 1 rfl rfl rfl (by kernel_rfl)
  obtain ⟨a_tk, c_tk, g_tk, tk, e_tk, r_tk, y_tk, z_tk⟩ := oS h_tk
  obtain ⟨_, _, h_pk⟩ := trod_fld (T := 23) Tryd.underlying25 hsv 1 1 1 rfl rfl rfl (by kernel_rfl)
  obtain ⟨a_pk, c_pk, g_pk, pk, e_pk, r_pk, y_pk, z_pk⟩ := oS h_pk
  obtain ⟨_, _, h_rn⟩ := trod_fld (T := 23) Tryd.underlying25 hsv 2 2 1 rfl rfl rfl (by kernel_rfl)
  obtain ⟨a_rn, c_rn, g_rn, rn, e_rn, r_rn, y_rn, z_rn⟩ := oS h_rn
  obtain ⟨_, _, h_gt⟩ := trod_fld (T := 2) Tryd.underlying25 hsv 3 3 1 rfl rfl rfl (by kernel_rfl)
  obtain ⟨gt, e_gt, i_gt⟩ := oIx h_gt
  obtain ⟨_, _, h_li⟩ := trod_fld (T := 2) Tryd.underlying25 hsv 4 4 1 rfl rfl rfl (by kernel_rfl)
  obtain ⟨li, e_li, i_li⟩ := oIx h_li
  obtain ⟨_, _, h_ho⟩ := trod_fld (T := 9) Tryd.underlying25 hsv 5 5 1 rfl rfl rfl (by kernel_rfl)
  obtain ⟨ho, e_ho, z_ho⟩ := oT h_ho
  obtain ⟨_, _, h_sp⟩ := trod_fld (T := 9) Tryd.underlying25 hsv 6 6 1 rfl rfl rfl (by kernel_rfl)
  obtain ⟨sp, e_sp, z_sp⟩ := oT h_sp
  obtain ⟨_, _, h_ea⟩ := trod_fld (T := 2) Tryd.underlying25 hsv 7 7 1 rfl rfl rfl (by kernel_rfl)
  obtain ⟨ea, e_ea, i_ea⟩ := oIx h_ea
  obtain ⟨_, _, hwd⟩ := trod_fld (T := 28) Tryd.underlying30 h 3 10 2 rfl rfl rfl (by kernel_rfl)
  obtain ⟨_, _, _, _, lw, _, _⟩ := DataW.trod_struct Tryd.underlying28 hwd
  rw [show Tryd.prog.cellsOf 28 = 2 by kernel_rfl] at lw
  obtain ⟨_, _, h_wd⟩ := trod_fld (T := 2) Tryd.underlying28 hwd 0 0 1 rfl rfl rfl (by kernel_rfl)
  obtain ⟨wd, e_wd, i_wd⟩ := oIx h_wd
  obtain ⟨_, _, h_ms⟩ := trod_fld (T := 26) Tryd.underlying28 hwd 1 1 1 rfl rfl rfl (by kernel_rfl)
  obtain ⟨a_ms, c_ms, g_ms, ms, p_ms, e_ms, r_ms, z_ms, y_ms, x_ms⟩ := oKx h_ms
  have s1 : (cs.drop 2).take 8 = [.slice a_tk tk.length c_tk, .slice a_pk pk.length c_pk, .slice a_rn rn.length c_rn, .int .i64 gt, .int .i64 li, .string ho, .string sp, .int .i64 ea] := by
    generalize (cs.drop 2).take 8 = u at *
    rw [← List.drop_zero (l := u), glue 0 1 1 e_tk rfl, glue 1 1 2 e_pk rfl, glue 2 1 3 e_rn rfl, glue 3 1 4 e_gt rfl, glue 4 1 5 e_li rfl, glue 5 1 6 e_ho rfl, glue 6 1 7 e_sp rfl, glue 7 1 8 e_ea rfl, List.drop_eq_nil_of_le (by omega)]
    rfl
  have s2 : (cs.drop 10).take 2 = [.int .i64 wd, .slice a_ms ms.length c_ms] := by
    generalize (cs.drop 10).take 2 = u at *
    rw [← List.drop_zero (l := u), glue 0 1 1 e_wd rfl, glue 1 1 2 e_ms rfl, List.drop_eq_nil_of_le (by omega)]
    rfl
  refine ⟨⟨a_cs, c_cs, g_cs, a_tk, c_tk, g_tk, a_pk, c_pk, g_pk, a_rn, c_rn, g_rn, a_ms, c_ms, g_ms, P_cs, p_ms⟩, ⟨fa, cz, tk, pk, rn, gt, li, ho, sp, ea, wd, ms⟩, ?_, ⟨r_cs, r_tk, r_pk, r_rn, r_ms⟩, ⟨z_cs, y_cs, z_tk, z_pk, z_rn, z_ho, z_sp, z_ms, y_ms⟩, ⟨i_fa, x_cs, y_tk, y_pk, y_rn, i_gt, i_li, i_ea, i_wd, x_ms⟩⟩
  rw [← List.drop_zero (l := cs), glue 0 1 1 e_fa rfl, glue 1 1 2 e_cs rfl, glue 2 8 10 s1 rfl, glue 10 2 12 s2 rfl, List.drop_eq_nil_of_le (by omega)]
  rfl
theorem open_wreport {r : Reach} {b0 : Nat} {v : Value} {d : DataW H} {p : List MemPlace} (hv : Value.okWide Tryd.prog w r b0 30 v) (h : DataW.Trod enc Tryd.prog w base (fun _ => true) held 30 v d p) :
    ∃ (q : WA) (e : WD), v = .agg (wrV q e) ∧ HasR w q e ∧ BgR e ∧ XtR e := by
  obtain ⟨cs, rfl, _⟩ := okWide_struct Tryd.underlying30 hv
  obtain ⟨fuel, hf⟩ := h
  obtain ⟨q, e, hc, H, B, T⟩ := open_world hf
  refine ⟨q, e, ?_, H, B, T⟩
  have : cs = wrV q e := Array.ext' hc
  rw [this]
end
end Go.Proofs.YtpbniihhpfbamaaDoor

/-
  The law of FormatReport (written by gens/fqcore.py).
-/
namespace Go.Proofs.YtpbniihhpfbamaaDoor
set_option maxRecDepth 100000
open Go Go.RowKit

theorem szW (w : World) (p : WA) (d : WD) (h : HasR w p d) (g : BgR d) :
    Calls Tryd.prog 4 #[.agg (wrV p d), .int .i64 1048576] w fun e w' => (∃ r, e = .returned (.int .i64 r) ∧ (0 ≤ r → wrT d ≤ 1048576)) ∧ Below w.heap.size w w' := by
  refine (show Calls _ _ _ _ _ from szWorldReport_r w p d h g 1048576 (by decide) (by decide)).mono ?_
  rintro e w' ⟨⟨r, rfl, hr⟩, n⟩
  refine ⟨⟨r, rfl, fun h0 => ?_⟩, n⟩
  rcases hr with ⟨_, rfl⟩ | ⟨h1, _⟩
  · omega
  · exact h1
theorem toW (w : World) (p : WA) (d : WD) (h : HasR w p d) (k : OkR d) :
    Calls Tryd.prog 6 #[.agg (wrV p d)] w fun e w' => (∃ q, e = .returned (.agg (wrV q d)) ∧ HasR w' q d) ∧ Below w.heap.size w w' := by
  refine (show Calls _ _ _ _ _ from toWorldReport_any w p d h k).mono ?_
  rintro e w' ⟨q, rfl, hq, n⟩
  exact ⟨⟨q, rfl, hq⟩, n⟩
theorem eqW (w : World) (p q : WA) (d : WD) (h : HasR w p d) (h' : HasR w q d) (k : OkR d) :
    Calls Tryd.prog 8 #[.agg (wrV p d), .agg (wrV q d)] w fun e w' => e = .returned (.bool true) ∧ Below w.heap.size w w' := eqWorldReport_same w p q d h h' k
/-- A report that may be read. -/
def FWr (m : WD) : Fact := ⟨fun v w => ∃ q, v = .agg (wrV q m) ∧ HasR w q m, fun n h => by
  obtain ⟨q, e, h⟩ := h
  exact ⟨q, e, h.up n⟩⟩
section
variable {ops : Array Oper} {Q : Exit → Act → World → Prop} {md : Region.Mode} {F : Nat → Fact} {a0 : Act} {w0 : World} {i : Nat} {o : Oper} {ts : Array TypeId}
theorem step_lW (ty : TypeId) (hu : ∃ d, Tryd.prog.underlying ty = some d ∧ d.isRow = true) (hs : (Tryd.prog.info? ty).map (·.size) = some 12) (hi : ops[i]? = some o) (p : Nat) (hop : o.op = .load ty (.tmp p)) (hp : apart ops p = true) (b : Nat) (h0 : a0.tmps.getD p undef = .pointer (some ⟨b, 0, none⟩)) {q : WA} {m : WD} (T : w0.rangeAt b 0 (wrV q m).toList) (hF : F i = Fact.eq (.agg (wrV q m))) : StepOk Tryd.prog md ops Q F a0 w0 i := by
  obtain ⟨d, hu, hr⟩ := hu
  refine step_load hi _ _ hop _ 12 hu hr hs fun a w hb hw _ => ?_
  exact ⟨b, 0, (wrV q m).toList, (based_at hb p hp).trans h0, rangeQ T hw, rfl, by rw [hF]; exact rfl⟩
theorem step_toW (hi : ops[i]? = some o) (p j : Nat) {q : WA} {m : WD} (hop : o.op = .call { callee := .value (.func 6), args := #[.tmp p], argTypes := ts })
    (hj : waits md ops i j p = true) (hC : HasR w0 q m) (im : OkR m) (hFj : F j = Fact.eq (.agg (wrV q m))) (hFi : F i = FWr m) : StepOk Tryd.prog md ops Q F a0 w0 i := by
  refine step_callv hi _ _ ts hop (by kernel_rfl) fun A w _ hw hF => ?_
  have ea := hF j p hj
  rw [hFj] at ea
  show Calls Tryd.prog 6 #[A.tmps.getD p undef] w _
  rw [show A.tmps.getD p undef = _ from ea]
  refine (toW w q m (hC.up hw) im).mono ?_
  rintro r w' ⟨⟨z, rfl, hz⟩, hn⟩
  rw [hFi]
  exact ⟨_, rfl, hn, z, rfl, hz⟩
theorem step_eqW (hi : ops[i]? = some o) (p q j k : Nat) {z : WA} {m : WD} (hop : o.op = .call { callee := .value (.func 8), args := #[.tmp p, .tmp q], argTypes := ts })
    (hj : waits md ops i j p = true) (hk : waits md ops i k q = true) (hC : HasR w0 z m) (im : OkR m) (hFj : F j = Fact.eq (.agg (wrV z m))) (hFk : F k = FWr m) (hFi : F i = Fact.eq (.bool true)) : StepOk Tryd.prog md ops Q F a0 w0 i := by
  refine step_callv hi _ _ ts hop (by kernel_rfl) fun A w _ hw hF => ?_
  have ea := hF j p hj
  rw [hFj] at ea
  have eb := hF k q hk
  rw [hFk] at eb
  obtain ⟨y, eb, hy⟩ := eb
  show Calls Tryd.prog 8 #[A.tmps.getD p undef, A.tmps.getD q undef] w _
  rw [show A.tmps.getD p undef = _ from ea, show A.tmps.getD q undef = _ from eb]
  refine (eqW w z y m (hC.up hw) hy im).mono ?_
  rintro r w' ⟨rfl, hn⟩
  rw [hFi]
  exact ⟨_, rfl, hn, rfl⟩
theorem step_notW {P : Program} (hi : ops[i]? = some o) (p j : Nat) {b : Bool} {t : TypeId} (hop : o.op = .unOp .not t (.tmp p)) (hj : waits md ops i j p = true) (hFj : F j = Fact.eq (.bool b)) (hFi : F i = Fact.eq (.bool (!b))) : StepOk P md ops Q F a0 w0 i := by
  refine step_pure hi fun a w _ _ hf => ⟨.bool (!b), ?_, by rw [hFi]; exact rfl⟩
  have e := hf j p hj
  rw [hFj] at e
  have e' : a.eval (.tmp p) = .bool b := e
  simp only [execOp, hop, e']
  rfl
end
set_option maxRecDepth 100000 in
set_option maxHeartbeats 8000000 in
theorem fmt_core (w : World) (p : WA) (m : WD) (hC : HasR w p m) (bg : BgR m) (x : XtR m) (hW : HasW w) :
    Calls Tryd.prog 3 #[.agg (wrV p m)] w fun e w' => e = .returned (.bool true) ∧ Below w.heap.size w w' := by
  have n1 : Below w.heap.size w (w.alloc (.cells (wrV p m) 30)) := (Below.refl _ _).alloc (Nat.le_refl _) _
  have T0 : RwC (w.alloc (.cells (wrV p m) 30)) w.heap.size (wrV p m).toList 30 := RwC.new w (wrV p m).toList 30
  have SZ := hide (szW (w.alloc (.cells (wrV p m) 30)) p m (hC.up n1) bg)
  have HC := hide (fun W (h : Below w.heap.size w W) => hC.up h)
  have HW := hide (fun W (h : Below w.heap.size w W) => hW.up h)
  have XX := hide x
  have N1 := hide n1
  have TT := hide T0
  clear n1 T0 hC bg hW x
  go_enter Tryd.func3, Tryd.ntmps3
  obtain ⟨dL, hdL, hrL⟩ := rowLWr
  obtain ⟨dC, hdC, hrC⟩ := rowWr
  go_upto_region 2 with fail
  generalize w.alloc (.cells (wrV p m) 30) = W1 at *
  have RG := TT.out.rangeG
  clear TT
  go_wp2_with (first | (refine wpList_load_mid rfl 30 (.tmp 1) rfl w.heap.size 0 rfl (wrV p m).toList dL RG hdL hrL iLWr ?_) | fail)
  refine SZ.out.mono ?_
  rintro e w2 ⟨⟨y, rfl, hx⟩, n2⟩
  have N2 := hide (nxt N1.out n2)
  have RG2 := rangeQ RG n2
  clear n2 RG SZ N1
  by_cases hl : y < 0
  · have t1 : decide (y < 0) = true := decide_eq_true hl
    clear hl hx HC RG2 HW XX
    go_wp2
    go_ret
    exact ⟨rfl, N2.out⟩
  have t1 : decide (y < 0) = false := decide_eq_false hl
  have LW := hide (lnWd_of (hx (by omega)) XX.out)
  have im := hide (okR_of (hx (by omega)))
  clear hl hx
  have TO := hide (fun W (h : Below w.heap.size w W) => toW W p m (HC.out W h) im.out)
  have SP : Hid (∀ W q, HasR W q m → Calls Tryd.prog 5 #[.agg (wrV q m)] W fun e w' => e = .returned (.string ⟨⟨rpT m⟩⟩) ∧ Below W.heap.size W w') := fun W q h => specFormat_all W q m h LW.out
  have IM : Hid (∀ W q, Below w.heap.size w W → HasR W q m → Calls Tryd.prog 7 #[.agg (wrV q m)] W fun e w' => e = .returned (.string ⟨⟨rpT m⟩⟩) ∧ Below W.heap.size W w') := fun W q n h => implFormat_any W (HW.out W n) q m h LW.out
  generalize (⟨⟨rpT m⟩⟩ : ByteArray) = z at *
  have zz : decide (z.data.toList = z.data.toList) = true := by simp
  go_wp2_with (first | (refine wpList_load_mid rfl 30 (.tmp 1) rfl w.heap.size 0 rfl (wrV p m).toList dL RG2 hdL hrL iLWr ?_) | fail)
  refine (TO.out w2 N2.out).mono ?_
  rintro e w3 ⟨⟨q, rfl, nc⟩, n3⟩
  have N3 := hide (nxt N2.out n3)
  have RG3 := rangeQ RG2 n3
  clear n3 RG2 N2
  go_wp2_with fail
  refine (SP.out w3 q nc).mono ?_
  rintro e w4 ⟨rfl, n4⟩
  have N4 := hide (nxt N3.out n4)
  have RG4 := rangeQ RG3 n4
  clear n4 RG3 N3 nc
  go_wp2_with (first | (refine wpList_load_mid rfl 30 (.tmp 1) rfl w.heap.size 0 rfl (wrV p m).toList dL RG4 hdL hrL iLWr ?_) | fail)
  refine (TO.out w4 N4.out).mono ?_
  rintro e w5 ⟨⟨q', rfl, nc⟩, n5⟩
  have N5 := hide (nxt N4.out n5)
  have RG5 := rangeQ RG4 n5
  clear n5 RG4 N4
  have a5 : Below w5.heap.size w5 (w5.alloc (.cells #[.int .i64 0, .slice none 0 0, .slice none 0 0, .slice none 0 0, .slice none 0 0, .int .i64 0, .int .i64 0, .string ⟨#[]⟩, .string ⟨#[]⟩, .int .i64 0, .int .i64 0, .slice none 0 0] 39)) := (Below.refl _ _).alloc (Nat.le_refl _) _
  have TH0 : RwC (w5.alloc (.cells #[.int .i64 0, .slice none 0 0, .slice none 0 0, .slice none 0 0, .slice none 0 0, .int .i64 0, .int .i64 0, .string ⟨#[]⟩, .string ⟨#[]⟩, .int .i64 0, .int .i64 0, .slice none 0 0] 39)) w5.heap.size (#[.int .i64 0, .slice none 0 0, .slice none 0 0, .slice none 0 0, .slice none 0 0, .int .i64 0, .int .i64 0, .string ⟨#[]⟩, .string ⟨#[]⟩, .int .i64 0, .int .i64 0, .slice none 0 0] : Array Value).toList 39 := RwC.new w5 (#[.int .i64 0, .slice none 0 0, .slice none 0 0, .slice none 0 0, .slice none 0 0, .int .i64 0, .int .i64 0, .string ⟨#[]⟩, .string ⟨#[]⟩, .int .i64 0, .int .i64 0, .slice none 0 0] : Array Value).toList 39
  have TH : (w5.alloc (.cells #[.int .i64 0, .slice none 0 0, .slice none 0 0, .slice none 0 0, .slice none 0 0, .int .i64 0, .int .i64 0, .string ⟨#[]⟩, .string ⟨#[]⟩, .int .i64 0, .int .i64 0, .slice none 0 0] 39)).there w5.heap.size 0 (wrV q' m).size := TH0.thereG
  have RX := World.rangeAt_setCells_same (w5.alloc (.cells #[.int .i64 0, .slice none 0 0, .slice none 0 0, .slice none 0 0, .slice none 0 0, .int .i64 0, .int .i64 0, .string ⟨#[]⟩, .string ⟨#[]⟩, .int .i64 0, .int .i64 0, .slice none 0 0] 39)) w5.heap.size 0 (wrV q' m).toList TH
  have OX := only_setG (w5.alloc (.cells #[.int .i64 0, .slice none 0 0, .slice none 0 0, .slice none 0 0, .slice none 0 0, .int .i64 0, .int .i64 0, .string ⟨#[]⟩, .string ⟨#[]⟩, .int .i64 0, .int .i64 0, .slice none 0 0] 39)) w5.heap.size (wrV q' m).toList 0
  have b5 : Below w5.heap.size w5 ((w5.alloc (.cells #[.int .i64 0, .slice none 0 0, .slice none 0 0, .slice none 0 0, .slice none 0 0, .int .i64 0, .int .i64 0, .string ⟨#[]⟩, .string ⟨#[]⟩, .int .i64 0, .int .i64 0, .slice none 0 0] 39)).setCells w5.heap.size 0 (wrV q' m).toList) := a5.trans (OX.below (Nat.le_refl _))
  have N6 := hide (nxt N5.out b5)
  have RG6 := rangeQ RG5 b5
  have HQ := hide (nc.up b5)
  clear a5 OX b5 RG5 N5 nc TH0
  have ON := oneWr q' m
  go_upto_region 7 with (first | (refine wpList_store_mid rfl 39 (.tmp 5) (.tmp 16) rfl w5.heap.size 0 (wrV q' m) rfl rfl TH iWr ON ?_) | fail)
  generalize (w5.alloc (.cells #[.int .i64 0, .slice none 0 0, .slice none 0 0, .slice none 0 0, .slice none 0 0, .int .i64 0, .int .i64 0, .string ⟨#[]⟩, .string ⟨#[]⟩, .int .i64 0, .int .i64 0, .slice none 0 0] 39)).setCells w5.heap.size 0 (wrV q' m).toList = w6 at *
  clear TH ON
  generalize w5.heap.size = b5 at *
  clear w5
  go_wp2_with (first | (refine wpList_load_mid rfl 39 (.tmp 5) rfl b5 0 rfl (wrV q' m).toList dC RX hdC hrC iWr ?_) | fail)
  refine (IM.out w6 q' N6.out HQ.out).mono ?_
  rintro e w7 ⟨rfl, n7⟩
  have N7 := hide (nxt N6.out n7)
  have RG7 := hide (rangeQ RG6 n7)
  have RX7 := hide (rangeQ RX n7)
  have HQ7 := hide (HQ.out.up n7)
  clear n7 RG6 RX HQ N6
  go_upto_region 10 with fail
  refine region_end 5 (fun i => [Fact.eq (.agg (wrV q' m)), Fact.eq (.agg (wrV p m)), FWr m, Fact.eq (.bool true), Fact.eq (.bool (!true))].getD i Fact.no) (by kernel_rfl) (by kernel_rfl) rfl ?_ ?_
  · intro i hi
    obtain rfl | rfl | rfl | rfl | rfl : i = 0 ∨ i = 1 ∨ i = 2 ∨ i = 3 ∨ i = 4 := by omega
    · exact step_lW _ rowWr iWr rfl 5 rfl (by kernel_rfl) b5 rfl RX7.out rfl
    · exact step_lW _ rowLWr iLWr rfl 1 rfl (by kernel_rfl) w.heap.size rfl RG7.out rfl
    · exact step_toW rfl 23 1 rfl (by kernel_rfl) (HC.out w7 N7.out) im.out rfl rfl
    · exact step_eqW rfl 22 24 0 2 rfl (by kernel_rfl) (by kernel_rfl) HQ7.out im.out rfl rfl rfl
    · exact step_notW rfl 25 3 rfl (by kernel_rfl) rfl rfl
  intro A W hb hw hF
  have e2 := hF 4 26 (by kernel_rfl)
  obtain ⟨vs, hvs⟩ : ∃ vs : Nat → Value, ∀ d, A.tmps.getD d undef = vs d := ⟨_, fun _ => rfl⟩
  rw [hvs] at e2
  rw [puts_of (md := .any) (k := 5) (by kernel_rfl) rfl hb vs hvs]
  clear hb hF hvs
  have e3 : vs 26 = .bool false := e2
  clear e2
  simp only [puts, e3, Act.put, List.setIfInBounds_toArray, List.set_cons_succ, List.set_cons_zero]
  clear e3
  have N8 := hide (nxt N7.out hw)
  clear hw N7 RG7 RX7 HQ7
  go_wp2
  go_ret
  exact ⟨rfl, N8.out⟩
end Go.Proofs.YtpbniihhpfbamaaDoor

/-
  FormatReport: what the listed table of powers gives, and the law.
-/
namespace Go.Proofs.YtpbniihhpfbamaaDoor
set_option maxRecDepth 100000
open Go Go.RowKit

theorem gPw : Tryd.prog.globalNamed "internal/strconv.uint64pow10" = some 0 := by kernel_rfl
theorem tPw : (Tryd.prog.globals[0]?).map (·.type) = some 130 := by kernel_rfl
theorem uPw : Tryd.prog.underlying 130 = some (.array 20 122) := by kernel_rfl
theorem cPw : Tryd.prog.cellsOf 130 = 20 := by kernel_rfl
theorem cQ64 : Tryd.prog.cellsOf 122 = 1 := by kernel_rfl
theorem uQ64 : Tryd.prog.underlying 122 = some (.int .u64) := by kernel_rfl
theorem pow_tab : (Rows.laid_internal_strconv_uint64pow10 : DataW Unit) = .agg (Lib.pow10Tab.map fun x => .lit (.int .u64 x)) := by kernel_rfl
theorem pow_ofF {W : World} (h : Lib.VarReads Tryd.prog W "internal/strconv.uint64pow10" Rows.laid_internal_strconv_uint64pow10) : HasW W := by
  rw [pow_tab] at h
  obtain ⟨g, t, cs, fuel, p, hg, ht, hv, hd⟩ := h
  obtain rfl := Option.some.inj (gPw.symm.trans hg)
  obtain rfl := Option.some.inj (tPw.symm.trans ht)
  have hcs := Lib.cells_of_tab (zs := Lib.pow10Tab) uPw uQ64 cQ64 cPw hd
  show W.var? Tryd.prog "internal/strconv.uint64pow10" = some (Lib.pow10Tab.map fun z => Value.int .u64 z).toArray
  rw [hv]
  obtain ⟨l⟩ := cs
  simp only at hcs
  subst hcs
  rfl
theorem laid_fmt {W : World} (h : laidMetH Tryd.prog Rows.fnExactFormatReportRow.laid W) : HasW W := by
  rw [MakeChecks.laidMetH_plain _ _ _ (by kernel_rfl)] at h
  exact pow_ofF (Lib.laidMet.reads h (.tail _ (.tail _ (.head _))))
theorem fmt_law (w : World) (p : WA) (m : WD) (hC : HasR w p m) (bg : BgR m) (x : XtR m) (hW : HasW w) :
    Calls Tryd.prog 3 #[.agg (wrV p m)] w fun e w' => e = .returned (.bool true) ∧ Below w.heap.size w w' := fmt_core w p m hC bg x hW
end Go.Proofs.YtpbniihhpfbamaaDoor
