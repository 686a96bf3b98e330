import Derived.Test.YtjjoimlnpbelpaaGK2
import Derived.Test.YtjjoimlnpbelpaaGK26
import Derived.OpenShut
import Derived.ShutString
import Derived.SliceStrings
import Derived.Test.YtjjoimlnpbelpaaGKxWaW

/-
  What a list of bytes in a statement's frame gives, with its length's bound.
-/
namespace Go.Proofs.Ytjjoimlnpbelpaa
open Go Go.RowKit

theorem rd_of_row3 {w : World} {a : Option Addr} {len cap : Nat} {zs : List Int}
    (h : (a = none ∧ len = 0 ∧ cap = 0 ∧ zs = []) ∨ ∃ x, a = some x ∧ len ≤ cap ∧ cap ≤ maxLen ∧ zs.length = cap ∧ (∀ i, i < zs.length → w.cell? (x.add i) = some (.int .u8 (zs.getD i 0))) ∧ ∀ n ∈ zs, (Lit.int .u8 n).wf = true) :
    ∃ (g : Nat) (xs : List Int), xs.length = len ∧ Rd w g a .u8 xs ∧ Byt xs ∧ xs.length < 9223372036854775808 := by
  obtain ⟨g, xs, hl, r, b⟩ := rd_of_row h
  refine ⟨g, xs, hl, r, b, ?_⟩
  rcases h with ⟨_, h, _⟩ | ⟨_, _, h1, h2, _⟩
  · omega
  · have : maxLen = 9223372036854775807 := rfl
    omega
end Go.Proofs.Ytjjoimlnpbelpaa

/-
  A window that came in, opened (written by gens/kwe.py out of KmO).
-/
namespace Go.Proofs.Ytjjoimlnpbelpaa
open Go Go.RowKit Go.ChangeShapes Go.WideShapes

section
variable {H : Type} {enc : TypeId × Value → H} {w : World} {base : Nat} {held : Bool}
set_option maxRecDepth 100000 in
theorem trod_fld {t T : TypeId} {fs : Array Field} {f : Field} {n : Nat} {cs : List Value} {y : DataW H × List MemPlace} (ht : Try.prog.underlying t = some (.struct fs)) (h : DataW.trod enc Try.prog w base (fun _ => true) held n t cs = some y) (i o k : Nat) (hf : fs[i]? = some f) (ho : f.offset = o) (hT : f.type = T) (hk : Try.prog.cellsOf T = k) :
    ∃ m z, DataW.trod enc Try.prog w base (fun _ => true) held m T ((cs.drop o).take k) = some z := by
  obtain ⟨xs, m, _, _, _, hlen, hf'⟩ := DataW.trod_struct ht h
  have hi : i < xs.length := by
    rw [hlen]
    exact (Array.getElem?_eq_some_iff.1 hf).1
  have e := hf' i f hf
  rw [ho, hT, hk, List.getElem?_eq_getElem hi] at e
  exact ⟨m, _, e⟩
set_option maxRecDepth 100000 in
theorem glue {cs s : List Value} (o k o' : Nat) (h : (cs.drop o).take k = s) (ho : o' = o + k) : cs.drop o = s ++ cs.drop o' := by
  subst ho
  rw [← h, ← List.drop_drop, List.take_append_drop]
set_option maxRecDepth 100000 in
theorem oI {n : Nat} {cs : List Value} {y : DataW H × List MemPlace} (h : DataW.trod enc Try.prog w base (fun _ => true) held n 2 cs = some y) : ∃ k, cs = [.int .i64 k] := by
  obtain ⟨k, e, _⟩ := DataW.trod_int Try.underlying2 h
  exact ⟨k, e⟩
set_option maxRecDepth 100000 in
theorem oB {n : Nat} {cs : List Value} {y : DataW H × List MemPlace} (h : DataW.trod enc Try.prog w base (fun _ => true) held n 4 cs = some y) : ∃ k, cs = [.bool k] := by
  obtain ⟨k, e, _⟩ := DataW.trod_bool Try.underlying4 h
  exact ⟨k, e⟩
set_option maxRecDepth 100000 in
theorem oT {n : Nat} {cs : List Value} {y : DataW H × List MemPlace} (h : DataW.trod enc Try.prog w base (fun _ => true) held n 9 cs = some y) : ∃ k, cs = [.string k] ∧ k.size < 9223372036854775808 := by
  obtain ⟨k, e, _, l⟩ := DataW.trod_string Try.underlying9 h
  have : maxLen = 9223372036854775807 := rfl
  exact ⟨k, e, by omega⟩
set_option maxRecDepth 100000 in
theorem oS {n : Nat} {cs : List Value} {y : DataW H × List MemPlace} (h : DataW.trod enc Try.prog w base (fun _ => true) held n 25 cs = some y) : ∃ a c g xs, cs = [.slice a (List.length xs) c] ∧ Rd w g a .u8 xs ∧ Byt xs ∧ xs.length < 9223372036854775808 := by
  rcases open_ints Try.underlying25 Try.underlying5 (by kernel_rfl) h with ⟨rfl, _⟩ | ⟨x, l, c, zs, rfl, _, hl, hm, hz, _, hcell, hwz⟩
  · exact ⟨none, 0, 0, [], rfl, fun h => absurd h (by simp), (by intro x; simp), by simp⟩
  · obtain ⟨g, xs, rfl, r, b, l⟩ := rd_of_row3 (a := some x) (len := l) (cap := c) (zs := zs) (.inr ⟨x, rfl, hl, hm, by simpa using hz, hcell, hwz⟩)
    exact ⟨_, c, g, xs, rfl, r, b, l⟩
set_option maxRecDepth 100000 in
theorem pickK {α : Type} (d : α) {P : Nat → α → Prop} : ∀ n, (∀ j, j < n → ∃ G, P j G) → ∃ Gs : List α, Gs.length = n ∧ ∀ j, j < n → P j (Gs.getD j d)
  | 0, _ => ⟨[], rfl, fun j hj => absurd hj (by omega)⟩
  | n + 1, h => by
    obtain ⟨Gs, hl, hG⟩ := pickK d (P := P) n (fun j hj => h j (by omega))
    obtain ⟨G, hn⟩ := h n (by omega)
    refine ⟨Gs ++ [G], by simp [hl], fun j hj => ?_⟩
    by_cases e : j < n
    · have : (Gs ++ [G]).getD j d = Gs.getD j d := by
        rw [List.getD_eq_getElem?_getD, List.getElem?_append_left (by omega), ← List.getD_eq_getElem?_getD]
      rw [this]
      exact hG j e
    · obtain rfl : j = n := by omega
      have : (Gs ++ [G]).getD j d = G := by
        rw [List.getD_eq_getElem?_getD, List.getElem?_append_right (by omega), hl]
        simp
      rw [this]
      exact hn
set_option maxRecDepth 100000 in
theorem cells2 {a : Addr} {u v : Value} (h : w.cells? base a 2 = some [u, v]) : w.cell? (a.add 0) = some u ∧ w.cell? (a.add 1) = some v := by
  obtain ⟨_, _, hc⟩ := World.cells?_some h
  exact ⟨hc 0 (by omega), hc 1 (by omega)⟩
set_option maxRecDepth 100000 in
theorem oK {n : Nat} {cs : List Value} {y : DataW H × List MemPlace} (h : DataW.trod enc Try.prog w base (fun _ => true) held n 22 cs = some y) : ∃ a c g ms ps, cs = [.slice a (List.length ms) c] ∧ RdK w g a ms ps ∧ ms.length ≤ 9223372036854775807 ∧ (∀ i, i < ms.length → (ms.getD i mrk0).id.length < 9223372036854775808) ∧ ∀ i, i < ms.length → Byt (ms.getD i mrk0).id := by
  rcases DataW.trod_slice Try.underlying22 h with ⟨rfl, _⟩ | ⟨x, l, c, elems, rest, m, _, rfl, _, _, hl, hm, hlen, hel, _, _⟩
  · exact ⟨none, 0, 0, [], [], rfl, ⟨fun h => absurd h (by simp), fun i hi => absurd hi (by simp)⟩, by simp, fun i hi => absurd hi (by simp), fun i hi => absurd hi (by simp)⟩
  · have hc2 : Try.prog.cellsOf 63 = 2 := by kernel_rfl
    have hm' : c ≤ 9223372036854775807 := hm
    have HH : ∀ i, i < l → ∃ G : Mrk × Plm, (w.cell? ((x.add (i * 2)).add 0) = some (.slice G.2.a G.1.id.length G.2.c) ∧ w.cell? ((x.add (i * 2)).add 1) = some (.int .i64 G.1.un)) ∧ Rd w G.2.q G.2.a .u8 G.1.id ∧ G.1.id.length < 9223372036854775808 ∧ Byt G.1.id := fun i hi => by
      have hb := hel i hi
      rw [hc2, List.getElem?_eq_getElem (by omega), Option.bind_eq_some_iff] at hb
      obtain ⟨cs', hcs', hy⟩ := hb
      obtain ⟨_, _, _, _, hcl, _, _⟩ := DataW.trod_struct Try.underlying63 hy
      rw [hc2] at hcl
      obtain ⟨_, _, h0⟩ := trod_fld (T := 25) Try.underlying63 hy 0 0 1 rfl rfl rfl (by kernel_rfl)
      obtain ⟨_, _, h1⟩ := trod_fld (T := 2) Try.underlying63 hy 1 1 1 rfl rfl rfl (by kernel_rfl)
      obtain ⟨a, c, g, xs, e0, r, bx, lx⟩ := oS h0
      obtain ⟨k, e1⟩ := oI h1
      have e : cs' = [.slice a xs.length c, .int .i64 k] := by
        rw [← List.drop_zero (l := cs'), glue 0 1 1 e0 rfl, glue 1 1 2 e1 rfl, List.drop_eq_nil_of_le (by omega)]
        rfl
      rw [e] at hcs'
      obtain ⟨q0, q1⟩ := cells2 hcs'
      exact ⟨(⟨xs, k⟩, ⟨a, c, g⟩), ⟨q0, q1⟩, r, lx, bx⟩
    obtain ⟨Gs, hGl, hG⟩ := pickK (mrk0, plm0) l HH
    have e1 : ∀ i, i < l → (Gs.map (·.1)).getD i mrk0 = (Gs.getD i (mrk0, plm0)).1 := fun i hi => by
      rw [List.getD_eq_getElem?_getD, List.getElem?_map, List.getElem?_eq_getElem (by omega), List.getD_eq_getElem?_getD, List.getElem?_eq_getElem (by omega)]
      rfl
    have e2 : ∀ i, i < l → (Gs.map (·.2)).getD i plm0 = (Gs.getD i (mrk0, plm0)).2 := fun i hi => by
      rw [List.getD_eq_getElem?_getD, List.getElem?_map, List.getElem?_eq_getElem (by omega), List.getD_eq_getElem?_getD, List.getElem?_eq_getElem (by omega)]
      rfl
    have el : (Gs.map (·.1)).length = l := by simp [hGl]
    refine ⟨some x, c, x.block, Gs.map (·.1), Gs.map (·.2), by rw [el], ⟨fun h0 => ?_, fun i hi => ?_⟩, by rw [el]; omega, fun i hi => ?_, fun i hi => ?_⟩
    · rw [el] at h0
      obtain ⟨b, off, spot⟩ := x
      have h1 := (hG 0 h0).1.1
      have hs : spot = none := by simpa [Addr.add] using World.cell?_spot h1
      subst hs
      refine ⟨off, rfl, fun i hi => ?_⟩
      rw [el] at hi
      have h2 := (hG i hi).1
      have e : ∀ k, (⟨b, off, none⟩ : Addr).add k = ⟨b, off + k, none⟩ := fun k => by
        unfold Addr.add
        split <;> simp_all
      have e' : (⟨b, off + i * 2, none⟩ : Addr).add 1 = ⟨b, off + i * 2 + 1, none⟩ := by
        unfold Addr.add
        split <;> simp_all
      have e'' : (⟨b, off + i * 2, none⟩ : Addr).add 0 = ⟨b, off + i * 2, none⟩ := by
        unfold Addr.add
        split <;> simp_all
      rw [e, e', e''] at h2
      rw [e1 i hi, e2 i hi]
      exact h2
    · rw [el] at hi
      rw [e1 i hi, e2 i hi]
      exact (hG i hi).2.1
    · rw [el] at hi
      rw [e1 i hi]
      exact (hG i hi).2.2.1
    · rw [el] at hi
      rw [e1 i hi]
      exact (hG i hi).2.2.2
set_option maxRecDepth 100000 in
theorem open_win0 {n : Nat} {cs : List Value} {y : DataW H × List MemPlace} (hf : DataW.trod enc Try.prog w base (fun _ => true) held n 24 cs = some y) : ∃ (q : WA) (e : WD), cs = (winV q e).toList ∧ HasW w q e ∧ BgW e := by
  obtain ⟨_, _, _, _, hl, _, _⟩ := DataW.trod_struct Try.underlying24 hf
  rw [show Try.prog.cellsOf 24 = 2 by kernel_rfl] at hl
  obtain ⟨_, _, h0⟩ := trod_fld (T := 2) Try.underlying24 hf 0 0 1 rfl rfl rfl (by kernel_rfl)
  obtain ⟨_, _, h1⟩ := trod_fld (T := 22) Try.underlying24 hf 1 1 1 rfl rfl rfl (by kernel_rfl)
  obtain ⟨wd, e0⟩ := oI h0
  obtain ⟨a, c, g, ms, ps, e1, r, lm, lz, bz⟩ := oK h1
  refine ⟨⟨a, c, g, ps⟩, ⟨wd, ms⟩, ?_, ⟨r⟩, ⟨lm, lz, bz⟩⟩
  rw [← List.drop_zero (l := cs), glue 0 1 1 e0 rfl, glue 1 1 2 e1 rfl, List.drop_eq_nil_of_le (by omega)]
  rfl
set_option maxRecDepth 100000 in
theorem open_win {r : Reach} {b0 : Nat} {v : Value} {d : DataW H} {p : List MemPlace} (hv : Value.okWide Try.prog w r b0 24 v) (h : DataW.Trod enc Try.prog w base (fun _ => true) held 24 v d p) :
    ∃ (q : WA) (e : WD), v = .agg (winV q e) ∧ HasW w q e ∧ BgW e := by
  obtain ⟨cs, rfl, _⟩ := okWide_struct Try.underlying24 hv
  obtain ⟨fuel, hf⟩ := h
  obtain ⟨q, e, hc, H, B⟩ := open_win0 hf
  refine ⟨q, e, ?_, H, B⟩
  have : cs = winV q e := Array.ext' hc
  rw [this]
end
end Go.Proofs.Ytjjoimlnpbelpaa

/-
  The law FnExactWindowAsk, as the claim's frame wants it.
-/
namespace Go.Proofs.Ytjjoimlnpbelpaa
open Go Go.RowKit

theorem rd_of_rowN {w : World} {a : Option Addr} {len cap : Nat} {zs : List Int}
    (h : (a = none ∧ len = 0 ∧ cap = 0 ∧ zs = []) ∨ ∃ x, a = some x ∧ len ≤ cap ∧ cap ≤ maxLen ∧ zs.length = cap ∧ (∀ i, i < zs.length → w.cell? (x.add i) = some (.int .u8 (zs.getD i 0))) ∧ ∀ n ∈ zs, (Lit.int .u8 n).wf = true) :
    ∃ (g : Nat) (xs : List Int), xs.length = len ∧ Rd w g a .u8 xs ∧ Byt xs ∧ xs.length < 9223372036854775808 := rd_of_row3 h
theorem ask_law (w : World) (q : WA) (d : WD) (H : HasW w q d) (B : BgW d) (g : Nat) (a : Option Addr) (cap : Nat) (x : List Int) (r : Rd w g a .u8 x) (y : Byt x) (l : x.length < 9223372036854775808) (n : Int) (_ : (Lit.int .i64 n).wf = true) :
    Calls Try.prog 3 #[.agg (winV q d), .slice a x.length cap, .int .i64 n] w fun e w' => e = .returned (.bool true) ∧ Below w.heap.size w w' :=
  ask_core w d.wd q.g q.a q.c d.ms q.pl H.r B.ms B.mz B.by' g a cap x r y l n
end Go.Proofs.Ytjjoimlnpbelpaa
