import Derived.Test.YtpbniihhpfbamaaDoorFWxFqRn
import Derived.Test.YtpbniihhpfbamaaDoorFW2
import Derived.Test.YtpbniihhpfbamaaDoorFW14
import Derived.OpenShut
import Derived.ShutString
import Derived.SliceStrings

/-
  The model's text of any world's report.
-/
namespace Go.Proofs.YtpbniihhpfbamaaDoor
set_option maxRecDepth 100000
open Go Go.RowKit

set_option maxRecDepth 100000 in
set_option maxHeartbeats 8000000 in
theorem specFormat_all (w : World) (p : WA) (d : WD) (h : HasR w p d) (L : LnWd d) :
    Calls Tryd.prog 5 #[.agg (wrV p d)] w fun e w' => e = .returned (tx (rpT d)) ∧ Below w.heap.size w w' := by
  by_cases h0 : d.fa = 0
  · have E : rpT d = ltT (rpL d) := if_pos h0
    rw [E]
    exact specFormat_any w p d h L h0
  · have n1 : Below w.heap.size w (w.alloc (.cells (wrV p d) 39)) := (Below.refl _ _).alloc (Nat.le_refl _) _
    have T1 : RwC (w.alloc (.cells (wrV p d) 39)) w.heap.size (wrL p d) 39 := RwC.new w (wrL p d) 39
    have c0 : (w.alloc (.cells (wrV p d) 39)).cell? ⟨w.heap.size, 0, none⟩ = some (.int .i64 d.fa) := T1.cell 0
    have t0 : (d.fa != 0) = true := by simp [h0]
    have E : Hid (rpT d = faT d.fa ++ [10]) := if_neg h0
    have N1 := hide n1
    clear n1 T1 h h0
    go_enter Tryd.func5, Tryd.ntmps5
    go_upto_region 2 with fail
    generalize w.alloc (.cells (wrV p d) 39) = w1 at *
    have NW := hide (l20Number_any w1 d.fa L.fa)
    go_wp2_with fail
    refine NW.out.mono ?_
    rintro e w2 ⟨rfl, n2⟩
    have m3 : Below w2.heap.size w2 (w2.alloc (.cells #[tx [102, 97, 117, 108, 116], tx (itL d.fa)] 9)) := (Below.refl _ _).alloc (Nat.le_refl _) _
    have LI : Hid (Calls Tryd.prog 12 #[.slice (some ⟨w2.heap.size, 0, none⟩) 2 2] (w2.alloc (.cells #[tx [102, 97, 117, 108, 116], tx (itL d.fa)] 9)) _) := l20Line_any _ w2.heap.size 2 [[102, 97, 117, 108, 116], itL d.fa] (heap_alloc_new w2 _) rfl (by decide) (Nat.le_trans (one_len (by decide) L.fa) (by decide))
    have N3 := hide (nxt (nxt N1.out n2) m3)
    clear n2 m3 NW N1 c0
    unfold tx at *
    go_wp2_with fail
    refine LI.out.mono ?_
    rintro e w4 ⟨rfl, n4⟩
    have N4 := hide (nxt N3.out n4)
    clear n4 LI N3
    go_wp2
    go_ret
    exact ⟨by rw [E.out]; rfl, N4.out⟩
end Go.Proofs.YtpbniihhpfbamaaDoor

/-
  What a list of bytes in a statement's frame gives, with its length's bound.
-/
namespace Go.Proofs.YtpbniihhpfbamaaDoor
set_option maxRecDepth 100000
open Go Go.RowKit

theorem rd_of_row3 {w : World} {a : Option Addr} {len cap : Nat} {zs : List Int}
    (h : (a = none ∧ len = 0 ∧ cap = 0 ∧ zs = []) ∨ ∃ x, a = some x ∧ len ≤ cap ∧ cap ≤ maxLen ∧ zs.length = cap ∧ (∀ i, i < zs.length → w.cell? (x.add i) = some (.int .u8 (zs.getD i 0))) ∧ ∀ n ∈ zs, (Lit.int .u8 n).wf = true) :
    ∃ (g : Nat) (xs : List Int), xs.length = len ∧ Rd w g a .u8 xs ∧ Byt xs ∧ xs.length < 9223372036854775808 := by
  obtain ⟨g, xs, hl, r, b⟩ := rd_of_row h
  refine ⟨g, xs, hl, r, b, ?_⟩
  rcases h with ⟨_, h, _⟩ | ⟨_, _, h1, h2, _⟩
  · omega
  · have : maxLen = 9223372036854775807 := rfl
    omega
end Go.Proofs.YtpbniihhpfbamaaDoor

/-
  A channel's report that came in, opened (written by gens/kmo.py).
-/
namespace Go.Proofs.YtpbniihhpfbamaaDoor
set_option maxRecDepth 100000
open Go Go.RowKit Go.ChangeShapes Go.WideShapes

section
variable {H : Type} {enc : TypeId × Value → H} {w : World} {base : Nat} {held : Bool}
theorem trod_fld {t T : TypeId} {fs : Array Field} {f : Field} {n : Nat} {cs : List Value} {y : DataW H × List MemPlace} (ht : Tryd.prog.underlying t = some (.struct fs)) (h : DataW.trod enc Tryd.prog w base (fun _ => true) held n t cs = some y) (i o k : Nat) (hf : fs[i]? = some f) (ho : f.offset = o) (hT : f.type = T) (hk : Tryd.prog.cellsOf T = k) :
    ∃ m z, DataW.trod enc Tryd.prog w base (fun _ => true) held m T ((cs.drop o).take k) = some z := by
  obtain ⟨xs, m, _, _, _, hlen, hf'⟩ := DataW.trod_struct ht h
  have hi : i < xs.length := by
    rw [hlen]
    exact (Array.getElem?_eq_some_iff.1 hf).1
  have e := hf' i f hf
  rw [ho, hT, hk, List.getElem?_eq_getElem hi] at e
  exact ⟨m, _, e⟩
theorem glue {cs s : List Value} (o k o' : Nat) (h : (cs.drop o).take k = s) (ho : o' = o + k) : cs.drop o = s ++ cs.drop o' := by
  subst ho
  rw [← h, ← List.drop_drop, List.take_append_drop]
theorem oI {n : Nat} {cs : List Value} {y : DataW H × List MemPlace} (h : DataW.trod enc Tryd.prog w base (fun _ => true) held n 2 cs = some y) : ∃ k, cs = [.int .i64 k] := by
  obtain ⟨k, e, _⟩ := DataW.trod_int Tryd.underlying2 h
  exact ⟨k, e⟩
theorem oB {n : Nat} {cs : List Value} {y : DataW H × List MemPlace} (h : DataW.trod enc Tryd.prog w base (fun _ => true) held n 4 cs = some y) : ∃ k, cs = [.bool k] := by
  obtain ⟨k, e, _⟩ := DataW.trod_bool Tryd.underlying4 h
  exact ⟨k, e⟩
theorem oT {n : Nat} {cs : List Value} {y : DataW H × List MemPlace} (h : DataW.trod enc Tryd.prog w base (fun _ => true) held n 9 cs = some y) : ∃ k, cs = [.string k] ∧ k.size < 9223372036854775808 := by
  obtain ⟨k, e, _, l⟩ := DataW.trod_string Tryd.underlying9 h
  have : maxLen = 9223372036854775807 := rfl
  exact ⟨k, e, by omega⟩
theorem oS {n : Nat} {cs : List Value} {y : DataW H × List MemPlace} (h : DataW.trod enc Tryd.prog w base (fun _ => true) held n 23 cs = some y) : ∃ a c g xs, cs = [.slice a (List.length xs) c] ∧ Rd w g a .u8 xs ∧ Byt xs ∧ xs.length < 9223372036854775808 := by
  rcases open_ints Tryd.underlying23 Tryd.underlying5 (by kernel_rfl) h with ⟨rfl, _⟩ | ⟨x, l, c, zs, rfl, _, hl, hm, hz, _, hcell, hwz⟩
  · exact ⟨none, 0, 0, [], rfl, fun h => absurd h (by simp), (by intro x; simp), by simp⟩
  · obtain ⟨g, xs, rfl, r, b, l⟩ := rd_of_row3 (a := some x) (len := l) (cap := c) (zs := zs) (.inr ⟨x, rfl, hl, hm, by simpa using hz, hcell, hwz⟩)
    exact ⟨_, c, g, xs, rfl, r, b, l⟩
theorem oR {n : Nat} {cs : List Value} {y : DataW H × List MemPlace} (h : DataW.trod enc Tryd.prog w base (fun _ => true) held n 49 cs = some y) : ∃ a c g xs, cs = [.slice a (List.length xs) c] ∧ Rd w g a .i64 xs ∧ xs.length < 9223372036854775808 := by
  rcases open_ints Tryd.underlying49 Tryd.underlying2 (by kernel_rfl) h with ⟨rfl, _⟩ | ⟨x, l, c, zs, rfl, _, hl, hm, hz, _, hcell, hwz⟩
  · exact ⟨none, 0, 0, [], rfl, fun h => absurd h (by simp), by simp⟩
  · have hz' : zs.length = c := by simpa using hz
    have hm' : c ≤ 9223372036854775807 := hm
    refine ⟨some x, c, x.block, zs.take l, by rw [List.length_take, show min l zs.length = l by omega], fun h0 => ?_, by rw [List.length_take]; omega⟩
    rw [List.length_take] at h0
    obtain ⟨b, off, spot⟩ := x
    have h1 := hcell 0 (by omega)
    have hs : spot = none := by simpa [Addr.add] using World.cell?_spot h1
    subst hs
    refine ⟨off, rfl, fun i hi => ?_⟩
    rw [List.length_take] at hi
    have h2 := hcell i (by omega)
    have e : (⟨b, off, none⟩ : Addr).add i = ⟨b, off + i, none⟩ := by
      unfold Addr.add
      split <;> simp_all
    rw [e] at h2
    rw [show (zs.take l).getD i 0 = zs.getD i 0 by rw [List.getD_eq_getElem?_getD, List.getElem?_take, if_pos (by omega), ← List.getD_eq_getElem?_getD]]
    exact h2
theorem pickK {α : Type} (d : α) {P : Nat → α → Prop} : ∀ n, (∀ j, j < n → ∃ G, P j G) → ∃ Gs : List α, Gs.length = n ∧ ∀ j, j < n → P j (Gs.getD j d)
  | 0, _ => ⟨[], rfl, fun j hj => absurd hj (by omega)⟩
  | n + 1, h => by
    obtain ⟨Gs, hl, hG⟩ := pickK d (P := P) n (fun j hj => h j (by omega))
    obtain ⟨G, hn⟩ := h n (by omega)
    refine ⟨Gs ++ [G], by simp [hl], fun j hj => ?_⟩
    by_cases e : j < n
    · have : (Gs ++ [G]).getD j d = Gs.getD j d := by
        rw [List.getD_eq_getElem?_getD, List.getElem?_append_left (by omega), ← List.getD_eq_getElem?_getD]
      rw [this]
      exact hG j e
    · obtain rfl : j = n := by omega
      have : (Gs ++ [G]).getD j d = G := by
        rw [List.getD_eq_getElem?_getD, List.getElem?_append_right (by omega), hl]
        simp
      rw [this]
      exact hn
theorem cells2 {a : Addr} {u v : Value} (h : w.cells? base a 2 = some [u, v]) : w.cell? (a.add 0) = some u ∧ w.cell? (a.add 1) = some v := by
  obtain ⟨_, _, hc⟩ := World.cells?_some h
  exact ⟨hc 0 (by omega), hc 1 (by omega)⟩
set_option maxRecDepth 100000 in
theorem oK {n : Nat} {cs : List Value} {y : DataW H × List MemPlace} (h : DataW.trod enc Tryd.prog w base (fun _ => true) held n 26 cs = some y) : ∃ a c g ms ps, cs = [.slice a (List.length ms) c] ∧ RdK w g a ms ps ∧ ms.length ≤ 9223372036854775807 ∧ ∀ i, i < ms.length → (ms.getD i mrk0).id.length < 9223372036854775808 := by
  rcases DataW.trod_slice Tryd.underlying26 h with ⟨rfl, _⟩ | ⟨x, l, c, elems, rest, m, _, rfl, _, _, hl, hm, hlen, hel, _, _⟩
  · exact ⟨none, 0, 0, [], [], rfl, ⟨fun h => absurd h (by simp), fun i hi => absurd hi (by simp)⟩, by simp, fun i hi => absurd hi (by simp)⟩
  · have hc2 : Tryd.prog.cellsOf 107 = 2 := by kernel_rfl
    have hm' : c ≤ 9223372036854775807 := hm
    have HH : ∀ i, i < l → ∃ G : Mrk × Plm, (w.cell? ((x.add (i * 2)).add 0) = some (.slice G.2.a G.1.id.length G.2.c) ∧ w.cell? ((x.add (i * 2)).add 1) = some (.int .i64 G.1.un)) ∧ Rd w G.2.q G.2.a .u8 G.1.id ∧ G.1.id.length < 9223372036854775808 := fun i hi => by
      have hb := hel i hi
      rw [hc2, List.getElem?_eq_getElem (by omega), Option.bind_eq_some_iff] at hb
      obtain ⟨cs', hcs', hy⟩ := hb
      obtain ⟨_, _, _, _, hcl, _, _⟩ := DataW.trod_struct Tryd.underlying107 hy
      rw [hc2] at hcl
      obtain ⟨_, _, h0⟩ := trod_fld (T := 23) Tryd.underlying107 hy 0 0 1 rfl rfl rfl (by kernel_rfl)
      obtain ⟨_, _, h1⟩ := trod_fld (T := 2) Tryd.underlying107 hy 1 1 1 rfl rfl rfl (by kernel_rfl)
      obtain ⟨a, c, g, xs, e0, r, _, lx⟩ := oS h0
      obtain ⟨k, e1⟩ := oI h1
      have e : cs' = [.slice a xs.length c, .int .i64 k] := by
        rw [← List.drop_zero (l := cs'), glue 0 1 1 e0 rfl, glue 1 1 2 e1 rfl, List.drop_eq_nil_of_le (by omega)]
        rfl
      rw [e] at hcs'
      obtain ⟨q0, q1⟩ := cells2 hcs'
      exact ⟨(⟨xs, k⟩, ⟨a, c, g⟩), ⟨q0, q1⟩, r, lx⟩
    obtain ⟨Gs, hGl, hG⟩ := pickK (mrk0, plm0) l HH
    have e1 : ∀ i, i < l → (Gs.map (·.1)).getD i mrk0 = (Gs.getD i (mrk0, plm0)).1 := fun i hi => by
      rw [List.getD_eq_getElem?_getD, List.getElem?_map, List.getElem?_eq_getElem (by omega), List.getD_eq_getElem?_getD, List.getElem?_eq_getElem (by omega)]
      rfl
    have e2 : ∀ i, i < l → (Gs.map (·.2)).getD i plm0 = (Gs.getD i (mrk0, plm0)).2 := fun i hi => by
      rw [List.getD_eq_getElem?_getD, List.getElem?_map, List.getElem?_eq_getElem (by omega), List.getD_eq_getElem?_getD, List.getElem?_eq_getElem (by omega)]
      rfl
    have el : (Gs.map (·.1)).length = l := by simp [hGl]
    refine ⟨some x, c, x.block, Gs.map (·.1), Gs.map (·.2), by rw [el], ⟨fun h0 => ?_, fun i hi => ?_⟩, by rw [el]; omega, fun i hi => ?_⟩
    · rw [el] at h0
      obtain ⟨b, off, spot⟩ := x
      have h1 := (hG 0 h0).1.1
      have hs : spot = none := by simpa [Addr.add] using World.cell?_spot h1
      subst hs
      refine ⟨off, rfl, fun i hi => ?_⟩
      rw [el] at hi
      have h2 := (hG i hi).1
      have e : ∀ k, (⟨b, off, none⟩ : Addr).add k = ⟨b, off + k, none⟩ := fun k => by
        unfold Addr.add
        split <;> simp_all
      have e' : (⟨b, off + i * 2, none⟩ : Addr).add 1 = ⟨b, off + i * 2 + 1, none⟩ := by
        unfold Addr.add
        split <;> simp_all
      have e'' : (⟨b, off + i * 2, none⟩ : Addr).add 0 = ⟨b, off + i * 2, none⟩ := by
        unfold Addr.add
        split <;> simp_all
      rw [e, e', e''] at h2
      rw [e1 i hi, e2 i hi]
      exact h2
    · rw [el] at hi
      rw [e1 i hi, e2 i hi]
      exact (hG i hi).2.1
    · rw [el] at hi
      rw [e1 i hi]
      exact (hG i hi).2.2
set_option maxRecDepth 100000 in
set_option maxHeartbeats 8000000 in
theorem open_end {n : Nat} {cs : List Value} {y : DataW H × List MemPlace} (h : DataW.trod enc Tryd.prog w base (fun _ => true) held n 72 cs = some y) : ∃ (p : EA) (d : ED), cs = erL p d ∧ HasE 0 w p d ∧ BgE d ∧ BtE d := by
  obtain ⟨_, _, _, _, hl, _, _⟩ := DataW.trod_struct Tryd.underlying72 h
  rw [show Tryd.prog.cellsOf 72 = 24 by kernel_rfl] at hl
  obtain ⟨_, _, h_fa⟩ := trod_fld (T := 2) Tryd.underlying72 h 0 0 1 rfl rfl rfl (by kernel_rfl)
  obtain ⟨fa, e_fa⟩ := oI h_fa
  obtain ⟨_, _, h_an⟩ := trod_fld (T := 49) Tryd.underlying72 h 1 1 1 rfl rfl rfl (by kernel_rfl)
  obtain ⟨a_an, c_an, g_an, an, e_an, r_an, z_an⟩ := oR h_an
  obtain ⟨_, _, h_se⟩ := trod_fld (T := 23) Tryd.underlying72 h 2 2 1 rfl rfl rfl (by kernel_rfl)
  obtain ⟨a_se, c_se, g_se, se, e_se, r_se, y_se, z_se⟩ := oS h_se
  obtain ⟨_, _, h_re⟩ := trod_fld (T := 23) Tryd.underlying72 h 3 3 1 rfl rfl rfl (by kernel_rfl)
  obtain ⟨a_re, c_re, g_re, re, e_re, r_re, y_re, z_re⟩ := oS h_re
  obtain ⟨_, _, h_er⟩ := trod_fld (T := 2) Tryd.underlying72 h 4 4 1 rfl rfl rfl (by kernel_rfl)
  obtain ⟨er, e_er⟩ := oI h_er
  obtain ⟨_, _, h_ph⟩ := trod_fld (T := 2) Tryd.underlying72 h 5 5 1 rfl rfl rfl (by kernel_rfl)
  obtain ⟨ph, e_ph⟩ := oI h_ph
  obtain ⟨_, _, h_al⟩ := trod_fld (T := 2) Tryd.underlying72 h 6 6 1 rfl rfl rfl (by kernel_rfl)
  obtain ⟨al, e_al⟩ := oI h_al
  obtain ⟨_, _, h_pa⟩ := trod_fld (T := 2) Tryd.underlying72 h 7 7 1 rfl rfl rfl (by kernel_rfl)
  obtain ⟨pa, e_pa⟩ := oI h_pa
  obtain ⟨_, _, h_no⟩ := trod_fld (T := 2) Tryd.underlying72 h 8 8 1 rfl rfl rfl (by kernel_rfl)
  obtain ⟨no, e_no⟩ := oI h_no
  obtain ⟨_, _, h_rs⟩ := trod_fld (T := 4) Tryd.underlying72 h 9 9 1 rfl rfl rfl (by kernel_rfl)
  obtain ⟨rs, e_rs⟩ := oB h_rs
  obtain ⟨_, _, h_et⟩ := trod_fld (T := 4) Tryd.underlying72 h 10 10 1 rfl rfl rfl (by kernel_rfl)
  obtain ⟨et, e_et⟩ := oB h_et
  obtain ⟨_, _, h_pr⟩ := trod_fld (T := 9) Tryd.underlying72 h 11 11 1 rfl rfl rfl (by kernel_rfl)
  obtain ⟨pr, e_pr, z_pr⟩ := oT h_pr
  obtain ⟨_, _, h_ex⟩ := trod_fld (T := 23) Tryd.underlying72 h 12 12 1 rfl rfl rfl (by kernel_rfl)
  obtain ⟨a_ex, c_ex, g_ex, ex, e_ex, r_ex, y_ex, z_ex⟩ := oS h_ex
  obtain ⟨_, _, h_tr⟩ := trod_fld (T := 23) Tryd.underlying72 h 13 13 1 rfl rfl rfl (by kernel_rfl)
  obtain ⟨a_tr, c_tr, g_tr, tr, e_tr, r_tr, y_tr, z_tr⟩ := oS h_tr
  obtain ⟨_, _, hsv⟩ := trod_fld (T := 25) Tryd.underlying72 h 14 14 8 rfl rfl rfl (by kernel_rfl)
  obtain ⟨_, _, _, _, ls, _, _⟩ := DataW.trod_struct Tryd.underlying25 hsv
  rw [show Tryd.prog.cellsOf 25 = 8 by kernel_rfl] at ls
  obtain ⟨_, _, h_tk⟩ := trod_fld (T := 23) Tryd.underlying25 hsv 0 0 1 rfl rfl rfl (by kernel_rfl)
  obtain ⟨a_tk, c_tk, g_tk, tk, e_tk, r_tk, y_tk, z_tk⟩ := oS h_tk
  obtain ⟨_, _, h_pk⟩ := trod_fld (T := 23) Tryd.underlying25 hsv 1 1 1 rfl rfl rfl (by kernel_rfl)
  obtain ⟨a_pk, c_pk, g_pk, pk, e_pk, r_pk, y_pk, z_pk⟩ := oS h_pk
  obtain ⟨_, _, h_rn⟩ := trod_fld (T := 23) Tryd.underlying25 hsv 2 2 1 rfl rfl rfl (by kernel_rfl)
  obtain ⟨a_rn, c_rn, g_rn, rn, e_rn, r_rn, y_rn, z_rn⟩ := oS h_rn
  obtain ⟨_, _, h_gt⟩ := trod_fld (T := 2) Tryd.underlying25 hsv 3 3 1 rfl rfl rfl (by kernel_rfl)
  obtain ⟨gt, e_gt⟩ := oI h_gt
  obtain ⟨_, _, h_li⟩ := trod_fld (T := 2) Tryd.underlying25 hsv 4 4 1 rfl rfl rfl (by kernel_rfl)
  obtain ⟨li, e_li⟩ := oI h_li
  obtain ⟨_, _, h_ho⟩ := trod_fld (T := 9) Tryd.underlying25 hsv 5 5 1 rfl rfl rfl (by kernel_rfl)
  obtain ⟨ho, e_ho, z_ho⟩ := oT h_ho
  obtain ⟨_, _, h_sp⟩ := trod_fld (T := 9) Tryd.underlying25 hsv 6 6 1 rfl rfl rfl (by kernel_rfl)
  obtain ⟨sp, e_sp, z_sp⟩ := oT h_sp
  obtain ⟨_, _, h_ea⟩ := trod_fld (T := 2) Tryd.underlying25 hsv 7 7 1 rfl rfl rfl (by kernel_rfl)
  obtain ⟨ea, e_ea⟩ := oI h_ea
  obtain ⟨_, _, hwd⟩ := trod_fld (T := 28) Tryd.underlying72 h 15 22 2 rfl rfl rfl (by kernel_rfl)
  obtain ⟨_, _, _, _, lw, _, _⟩ := DataW.trod_struct Tryd.underlying28 hwd
  rw [show Tryd.prog.cellsOf 28 = 2 by kernel_rfl] at lw
  obtain ⟨_, _, h_wd⟩ := trod_fld (T := 2) Tryd.underlying28 hwd 0 0 1 rfl rfl rfl (by kernel_rfl)
  obtain ⟨wd, e_wd⟩ := oI h_wd
  obtain ⟨_, _, h_ms⟩ := trod_fld (T := 26) Tryd.underlying28 hwd 1 1 1 rfl rfl rfl (by kernel_rfl)
  obtain ⟨a_ms, c_ms, g_ms, ms, p_ms, e_ms, r_ms, z_ms, y_ms⟩ := oK h_ms
  have s1 : (cs.drop 14).take 8 = [.slice a_tk tk.length c_tk, .slice a_pk pk.length c_pk, .slice a_rn rn.length c_rn, .int .i64 gt, .int .i64 li, .string ho, .string sp, .int .i64 ea] := by
    generalize (cs.drop 14).take 8 = u at *
    rw [← List.drop_zero (l := u), glue 0 1 1 e_tk rfl, glue 1 1 2 e_pk rfl, glue 2 1 3 e_rn rfl, glue 3 1 4 e_gt rfl, glue 4 1 5 e_li rfl, glue 5 1 6 e_ho rfl, glue 6 1 7 e_sp rfl, glue 7 1 8 e_ea rfl, List.drop_eq_nil_of_le (by omega)]
    rfl
  have s2 : (cs.drop 22).take 2 = [.int .i64 wd, .slice a_ms ms.length c_ms] := by
    generalize (cs.drop 22).take 2 = u at *
    rw [← List.drop_zero (l := u), glue 0 1 1 e_wd rfl, glue 1 1 2 e_ms rfl, List.drop_eq_nil_of_le (by omega)]
    rfl
  refine ⟨⟨a_an, c_an, g_an, a_se, c_se, g_se, a_re, c_re, g_re, a_ex, c_ex, g_ex, a_tr, c_tr, g_tr, a_tk, c_tk, g_tk, a_pk, c_pk, g_pk, a_rn, c_rn, g_rn, a_ms, c_ms, g_ms, p_ms⟩, ⟨fa, an, se, re, er, ph, al, pa, no, rs, et, pr, ex, tr, tk, pk, rn, gt, li, ho, sp, ea, wd, ms⟩, ?_, ⟨r_an, Nat.zero_le _, r_se, Nat.zero_le _, r_re, Nat.zero_le _, r_ex, Nat.zero_le _, r_tr, Nat.zero_le _, r_tk, Nat.zero_le _, r_pk, Nat.zero_le _, r_rn, Nat.zero_le _, r_ms, Nat.zero_le _, fun _ _ => Nat.zero_le _⟩, ⟨z_an, z_se, z_re, z_ex, z_tr, z_tk, z_pk, z_rn, z_pr, z_ho, z_sp, z_ms, y_ms⟩, ⟨y_tr, y_ex⟩⟩
  rw [← List.drop_zero (l := cs), glue 0 1 1 e_fa rfl, glue 1 1 2 e_an rfl, glue 2 1 3 e_se rfl, glue 3 1 4 e_re rfl, glue 4 1 5 e_er rfl, glue 5 1 6 e_ph rfl, glue 6 1 7 e_al rfl, glue 7 1 8 e_pa rfl, glue 8 1 9 e_no rfl, glue 9 1 10 e_rs rfl, glue 10 1 11 e_et rfl, glue 11 1 12 e_pr rfl, glue 12 1 13 e_ex rfl, glue 13 1 14 e_tr rfl, glue 14 8 22 s1 rfl, glue 22 2 24 s2 rfl, List.drop_eq_nil_of_le (by omega)]
  rfl
set_option maxRecDepth 100000 in
set_option maxHeartbeats 8000000 in
theorem open_chan {n : Nat} {cs : List Value} {y : DataW H × List MemPlace} (h : DataW.trod enc Tryd.prog w base (fun _ => true) held n 74 cs = some y) : ∃ (p : CA) (d : CD), cs = crL p d ∧ HasC 0 w p d ∧ BgC d ∧ BtE d.cl ∧ BtE d.sv := by
  obtain ⟨_, _, _, _, hl, _, _⟩ := DataW.trod_struct Tryd.underlying74 h
  rw [show Tryd.prog.cellsOf 74 = 52 by kernel_rfl] at hl
  obtain ⟨_, _, h_0⟩ := trod_fld (T := 2) Tryd.underlying74 h 0 0 1 rfl rfl rfl (by kernel_rfl)
  obtain ⟨fa, e_fa⟩ := oI h_0
  obtain ⟨_, _, h_1⟩ := trod_fld (T := 49) Tryd.underlying74 h 1 1 1 rfl rfl rfl (by kernel_rfl)
  obtain ⟨a_an, c_an, g_an, an, e_an, r_an, z_an⟩ := oR h_1
  obtain ⟨_, _, h_2⟩ := trod_fld (T := 72) Tryd.underlying74 h 2 2 24 rfl rfl rfl (by kernel_rfl)
  obtain ⟨p2, d2, e2, H2, B2, T2⟩ := open_end h_2
  obtain ⟨_, _, h_3⟩ := trod_fld (T := 72) Tryd.underlying74 h 3 26 24 rfl rfl rfl (by kernel_rfl)
  obtain ⟨p3, d3, e3, H3, B3, T3⟩ := open_end h_3
  obtain ⟨_, _, h_4⟩ := trod_fld (T := 23) Tryd.underlying74 h 4 50 1 rfl rfl rfl (by kernel_rfl)
  obtain ⟨a_ts, c_ts, g_ts, ts, e_ts, r_ts, y_ts, z_ts⟩ := oS h_4
  obtain ⟨_, _, h_5⟩ := trod_fld (T := 23) Tryd.underlying74 h 5 51 1 rfl rfl rfl (by kernel_rfl)
  obtain ⟨a_tc, c_tc, g_tc, tc, e_tc, r_tc, y_tc, z_tc⟩ := oS h_5
  refine ⟨⟨a_an, c_an, g_an, p2, p3, a_ts, c_ts, g_ts, a_tc, c_tc, g_tc⟩, ⟨fa, an, d2, d3, ts, tc⟩, ?_, ⟨r_an, Nat.zero_le _, H2, H3, r_ts, Nat.zero_le _, r_tc, Nat.zero_le _⟩, ⟨z_an, B2, B3, z_ts, z_tc⟩, T2, T3⟩
  rw [← List.drop_zero (l := cs), glue 0 1 1 e_fa rfl, glue 1 1 2 e_an rfl, glue 2 24 26 e2 rfl, glue 26 24 50 e3 rfl, glue 50 1 51 e_ts rfl, glue 51 1 52 e_tc rfl, List.drop_eq_nil_of_le (by omega)]
  rfl
theorem open_report {r : Reach} {b0 : Nat} {v : Value} {d : DataW H} {p : List MemPlace} (hv : Value.okWide Tryd.prog w r b0 74 v) (h : DataW.Trod enc Tryd.prog w base (fun _ => true) held 74 v d p) :
    ∃ (q : CA) (e : CD), v = .agg (crV q e) ∧ HasC 0 w q e ∧ BgC e ∧ BtE e.cl ∧ BtE e.sv := by
  obtain ⟨cs, rfl, _⟩ := okWide_struct Tryd.underlying74 hv
  obtain ⟨fuel, hf⟩ := h
  obtain ⟨q, e, hc, H, B, T, T'⟩ := open_chan hf
  refine ⟨q, e, ?_, H, B, T, T'⟩
  have : cs = crV q e := Array.ext' hc
  rw [this]
end
end Go.Proofs.YtpbniihhpfbamaaDoor
