import Derived.Test.YtpbniihhpfbamaaDoorFW1
import Derived.Test.YtpbniihhpfbamaaDoorFW10
import Derived.Test.YtpbniihhpfbamaaDoorFW8
import Derived.Maps.AppendAt
import Derived.Test.YtpbniihhpfbamaaDoorFWxFqL
import Derived.Deep.RegionHeld3

/-
  A builder of texts that is written to from within a loop over an iterator (the numbers are seat 20r's own).
-/
namespace Go.Proofs.YtpbniihhpfbamaaDoor
set_option maxRecDepth 100000
open Go Go.RowKit

/-- The blocks that a builder owns. -/
def BdS (b : Nat) (X : World) (k : Nat) : Prop := k = b ∨ ∃ v, X.cell? ⟨b, 1, none⟩ = some v ∧ v.ownBlock = some k
/-- A text's bytes appended. -/
theorem app_str (w : World) (B : Nat) (v : Value) (l s : List UInt8) (hown : w.ownsRow B 5 1 v l.length (Lib.byteCells l)) (hB : B ≤ w.heap.size) (hl : l.length + s.length ≤ 140737488355328) :
    ∃ v' w', (Builtin.append_ #[23, 9] 23 #[v, .string ⟨⟨s⟩⟩]).run Tryd.prog w = .ok v' w' ∧ w'.ownsRow B 5 1 v' (l ++ s).length (Lib.byteCells (l ++ s)) ∧ w.grownBy w' v.ownBlock ∧ (∀ k, v'.ownBlock = some k → v.ownBlock = some k ∨ w.heap.size ≤ k) := by
  obtain ⟨i0, hi, hz0, hz1, hz2⟩ := info_parts Tryd.info5
  have sz : (⟨⟨s⟩⟩ : ByteArray).size = s.length := rfl
  have sc : Lib.strCells ⟨⟨s⟩⟩ = Lib.byteCells s := rfl
  obtain ⟨v', w', hr, h2, h3, -⟩ := Lib.run_append_own_string (P := Tryd.prog) w B 23 9 23 5 i0 Tryd.underlying23 Tryd.underlying9 hi hz0 hz1 hz2 v l.length (Lib.byteCells l) hown ⟨⟨s⟩⟩ (by rw [sz]; unfold maxLen; omega) (by rw [sz]; omega) hB
  refine ⟨v', w', hr, ?_, h3, fun k hk => ?_⟩
  · rw [sz, sc] at h2
    rw [List.length_append]
    have e : Lib.byteCells (l ++ s) = Lib.byteCells l ++ Lib.byteCells s := by simp [Lib.byteCells]
    rw [e]
    exact h2
  · rcases hown.2 with ⟨rfl, hn⟩ | ⟨g, cap, cur, rfl, hbg, hg, hnc, hcm, hcs, htake⟩
    · have l0 : l = [] := List.eq_nil_of_length_eq_zero hn
      subst l0
      obtain ⟨v2, w2, hr2, h22, -, -⟩ := Lib.run_append_own_string (P := Tryd.prog) w w.heap.size 23 9 23 5 i0 Tryd.underlying23 Tryd.underlying9 hi hz0 hz1 hz2 (.slice none 0 0) 0 [] (World.ownsRow_nil w _ 5 1) ⟨⟨s⟩⟩ (by rw [sz]; unfold maxLen; omega) (by rw [sz]; omega) (Nat.le_refl _)
      obtain ⟨rfl, rfl⟩ : v' = v2 ∧ w' = w2 := by
        have := hr.symm.trans hr2
        injection this with a b
        exact ⟨a, b⟩
      exact .inr (h22.lt k hk).1
    · by_cases hroom : l.length + s.length ≤ cap
      · have hr2 := Lib.run_append_room_string (P := Tryd.prog) w 23 9 23 5 i0 Tryd.underlying23 Tryd.underlying9 hi hz1 g l.length cap cur hg ⟨⟨s⟩⟩ (by rw [sz]; exact hroom) (by rw [sz]; omega)
        have := hr.symm.trans hr2
        injection this with a b
        subst a
        exact .inl hk
      · have holds : ∀ j u, (Lib.byteCells l)[j]? = some u → w.cell? ((⟨g, 0, none⟩ : Addr).add j) = some u := hown.cells (g := g) rfl
        have hr2 := Lib.run_append_grow_string (P := Tryd.prog) w 23 9 23 5 i0 (.int .u8 0) Tryd.underlying23 Tryd.underlying9 hi hz0 ⟨g, 0, none⟩ l.length cap (Lib.byteCells l) (by rw [hz1]; simp [Lib.byteCells]) holds ⟨⟨s⟩⟩ (by rw [sz]; omega) (by rw [sz]; omega) (by rw [hz2, sz]; exact growslice_fits (by omega) (by omega))
        have := hr.symm.trans hr2
        injection this with a b
        subst a
        have e : w.heap.size = k := Option.some.inj hk
        exact .inr (Nat.le_of_eq e)
/-- Behind copyCheck. -/
structure CkB (B b : Nat) (v : Value) (n : Nat) (cs : List Value) (w w1 : World) : Prop where
  lo : B ≤ b
  hp : w1.heap[b]? = some (.cells #[.pointer (some ⟨b, 0, none⟩), v] 85 (0, 0))
  own : w1.ownsRow B 5 1 v n cs
  ne : v.ownBlock ≠ some b
  old : w.cell? ⟨b, 1, none⟩ = some v
  os : w1.os = w.os
  tape : w1.tape = w.tape
  output : w1.output = w.output
  size : w1.heap.size = w.heap.size
  oth : ∀ k, k ≠ b → w1.heap[k]? = w.heap[k]?
theorem copyChk (w : World) (B b : Nat) (bs : List Value) (h : Lib.IsBuilder 85 5 B b bs w) :
    Calls Tryd.prog 56 #[.pointer (some ⟨b, 0, none⟩)] w fun e w1 => e = .returned (.tuple #[]) ∧ ∃ v, CkB B b v bs.length bs w w1 := by
  rcases h with h | h
  · refine (Any.Builder_copyCheck_fresh (P := Tryd.prog) (ρ := Tryd.lays156_ren) { Tryd.lays156 with } Tryd.Builder_Extra_156.toX72 b w h.cell0 h.shape h.frozen0).mono ?_
    rintro e w' ⟨rfl, rfl⟩
    have h2 := h
    obtain ⟨hB, v, hb, hown, hne⟩ := h
    obtain ⟨_, v2, hb2, hown2, hne2⟩ := h2.used (.pointer (some ⟨b, 0, none⟩))
    have o : ∀ k, k ≠ b → (w.setCell ⟨b, 0, none⟩ (.pointer (some ⟨b, 0, none⟩))).heap[k]? = w.heap[k]? := fun k hk => by
      show (w.heap.modify b _)[k]? = _
      rw [Array.getElem?_modify, if_neg (fun e => hk e.symm)]
    have e2 : (w.setCell ⟨b, 0, none⟩ (.pointer (some ⟨b, 0, none⟩))).heap[b]? = some (.cells #[.pointer (some ⟨b, 0, none⟩), v] 85 (0, 0)) := by
      simp [World.setCell, Array.getElem?_modify, hb]
    have ev : v2 = v := by
      have := hb2.symm.trans e2
      simp at this
      exact this
    subst ev
    exact ⟨rfl, v2, hB, e2, hown2, hne, by rw [Lib.cell_of_heap hb]; rfl, rfl, rfl, rfl, by simp [World.setCell], o⟩
  · refine (Any.Builder_copyCheck_used (P := Tryd.prog) (ρ := Tryd.lays156_ren) { Tryd.lays156 with } Tryd.Builder_Extra_156.toX72 b w h.cell0).mono ?_
    rintro e w' ⟨rfl, rfl⟩
    obtain ⟨hB, v, hb, hown, hne⟩ := h
    exact ⟨rfl, v, hB, hb, hown, hne, by rw [Lib.cell_of_heap hb]; rfl, rfl, rfl, rfl, rfl, fun _ _ => rfl⟩
/-- Behind the store. -/
theorem CkB.done {B b n : Nat} {v v' : Value} {cs : List Value} {w w1 w2 : World} {l : List UInt8} (C : CkB B b v n cs w w1) (hown' : w2.ownsRow B 5 1 v' l.length (Lib.byteCells l)) (hg : w1.grownBy w2 v.ownBlock) (hk : ∀ k, v'.ownBlock = some k → v.ownBlock = some k ∨ w1.heap.size ≤ k) :
    Lib.IsBuilder 85 5 B b (Lib.byteCells l) (w2.setCell ⟨b, 1, none⟩ v') ∧ ChS (BdS b) w (w2.setCell ⟨b, 1, none⟩ v') := by
  have hlt : b < w1.heap.size := (Array.getElem?_eq_some_iff.1 C.hp).1
  have hb2 : w2.heap[b]? = some (.cells #[.pointer (some ⟨b, 0, none⟩), v] 85 (0, 0)) := by
    rw [hg.block b hlt (fun e => C.ne e.symm)]
    exact C.hp
  have hlen : (Lib.byteCells l).length = l.length := by simp [Lib.byteCells]
  have P := Lib.BuilderAt.put (T := 85) (e := 5) C.lo hb2 (bs' := Lib.byteCells l) (by rw [hlen]; exact hown') (by decide)
  have o : ∀ k, k ≠ b → (w2.setCell ⟨b, 1, none⟩ v').heap[k]? = w2.heap[k]? := fun k hk => by
    show (w2.heap.modify b _)[k]? = _
    rw [Array.getElem?_modify, if_neg (fun e => hk e.symm)]
  have c1 : (w2.setCell ⟨b, 1, none⟩ v').cell? ⟨b, 1, none⟩ = some v' := by
    have e2 : (w2.setCell ⟨b, 1, none⟩ v').heap[b]? = some (.cells #[.pointer (some ⟨b, 0, none⟩), v'] 85 (0, 0)) := by simp [World.setCell, Array.getElem?_modify, hb2]
    rw [Lib.cell_of_heap e2]; rfl
  refine ⟨.inr P, hg.os.trans C.os, hg.tape.trans C.tape, hg.output.trans C.output, ?_, fun k hk hs => ?_, fun k hk => ?_⟩
  · have := hg.size
    have := C.size
    simp [World.setCell]
    omega
  · have h1 : k ≠ b := fun e => hs (.inl e)
    rw [o k h1, hg.block k (by have := C.size; omega) (fun e => hs (.inr ⟨v, C.old, e.symm⟩)), C.oth k h1]
  · rcases hk with rfl | ⟨v2, hv2, ho⟩
    · exact .inl (.inl rfl)
    · rw [c1] at hv2
      obtain rfl := Option.some.inj hv2
      rcases hk' : hk k ho with h | h
      · exact .inl (.inr ⟨v, C.old, h⟩)
      · exact .inr (by have := C.size; omega)
set_option maxRecDepth 100000 in
theorem writeString_any (w : World) (B b : Nat) (l s : List UInt8) (h : Lib.IsBuilder 85 5 B b (Lib.byteCells l) w) (hB : B ≤ w.heap.size) (hl : l.length + s.length ≤ 140737488355328) :
    Calls Tryd.prog 36 #[.pointer (some ⟨b, 0, none⟩), tx s] w fun e w' => (∃ v, e = .returned v) ∧ Lib.IsBuilder 85 5 B b (Lib.byteCells (l ++ s)) w' ∧ ChS (BdS b) w w' := by
  have CC := hide (copyChk w B b _ h)
  clear h
  go_enter Tryd.func36, Tryd.ntmps36
  go_wp2_with (go_at_call 56; refine CC.out.mono ?_)
  rintro e w1 ⟨rfl, v, C⟩
  have hlt : b < w1.heap.size := (Array.getElem?_eq_some_iff.1 C.hp).1
  have ol : w1.ownsRow B 5 1 v l.length (Lib.byteCells l) := by
    have := C.own
    rwa [show (Lib.byteCells l).length = l.length by simp [Lib.byteCells]] at this
  obtain ⟨v', w2, hap, ho2, hg2, hk2⟩ := app_str w1 B v l s ol (by have := C.size; omega) hl
  have c0 : w1.cell? ⟨b, 0, none⟩ = some (.pointer (some ⟨b, 0, none⟩)) := by rw [Lib.cell_of_heap C.hp]; rfl
  have c1 : w1.cell? ⟨b, 1, none⟩ = some v := by rw [Lib.cell_of_heap C.hp]; rfl
  have hb2 : w2.heap[b]? = some (.cells #[.pointer (some ⟨b, 0, none⟩), v] 85 (0, 0)) := by
    rw [hg2.block b hlt (fun e => C.ne e.symm)]
    exact C.hp
  have d1 : w2.cell? ⟨b, 1, none⟩ = some v := by rw [Lib.cell_of_heap hb2]; rfl
  have f1 : w2.frozen? ⟨b, 1, none⟩ = false := Lib.frozen_of_heap hb2 1
  have FIN := hide (C.done (l := l ++ s) ho2 hg2 hk2)
  obtain ⟨ao, n', cap, ev⟩ : ∃ ao n' cap, v' = .slice ao n' cap := by
    rcases ho2.2 with ⟨hv, _⟩ | ⟨g, cap, cur, hv, _⟩
    · exact ⟨_, _, _, hv⟩
    · exact ⟨_, _, _, hv⟩
  subst ev
  clear C ol ho2 hg2 hk2 hb2 CC
  have ts : (⟨⟨s⟩⟩ : ByteArray).size = s.length := rfl
  unfold tx
  go_wp2_with (at_builtin; refine Lib.wpList_append_run _ rfl _ _ 23 9 rfl _ _ rfl rfl _ _ hap ?_)
  go_ret2
  exact ⟨⟨_, rfl⟩, FIN.out⟩
end Go.Proofs.YtpbniihhpfbamaaDoor

/-
  A byte into a builder; the text of an iterator's lines (the numbers are seat 20r's own).
-/
namespace Go.Proofs.YtpbniihhpfbamaaDoor
set_option maxRecDepth 100000
open Go Go.RowKit Go.Shelf

set_option maxRecDepth 100000 in
theorem writeLf_any (w : World) (B b : Nat) (l : List UInt8) (h : Lib.IsBuilder 85 5 B b (Lib.byteCells l) w) (hB : B ≤ w.heap.size) (hl : l.length + 1 ≤ 140737488355328) :
    Calls Tryd.prog 37 #[.pointer (some ⟨b, 0, none⟩), .int .u8 10] w fun e w' => (∃ v, e = .returned v) ∧ Lib.IsBuilder 85 5 B b (Lib.byteCells (l ++ [10])) w' ∧ ChS (BdS b) w w' := by
  obtain ⟨i0, hi, hz0, hz1, hz2⟩ := info_parts Tryd.info5
  have CC := hide (copyChk w B b _ h)
  clear h
  go_enter Tryd.func37, Tryd.ntmps37
  go_wp2_with (go_at_call 56; refine CC.out.mono ?_)
  rintro e w1 ⟨rfl, v, C⟩
  have hlt : b < w1.heap.size := (Array.getElem?_eq_some_iff.1 C.hp).1
  have ol : w1.ownsRow B 5 1 v l.length (Lib.byteCells l) := by
    have := C.own
    rwa [show (Lib.byteCells l).length = l.length by simp [Lib.byteCells]] at this
  have nz : ∀ k, k < w1.heap.size → (w1.alloc (.cells #[.int .u8 10] 5)).heap[k]? = w1.heap[k]? := fun k hk => Lib.alloc_old w1 _ k hk
  obtain ⟨v', w2, hap, ho2, hg2, -, hk2⟩ := run_append_own_at (P := Tryd.prog) (w1.alloc (.cells #[.int .u8 10] 5)) B 23 23 5 i0 (.int .u8 0) 1 1 Tryd.underlying23 hi hz0 hz1 hz2 rfl (by decide) v l.length (Lib.byteCells l) (ol.alloc _) ⟨w1.heap.size, 0, none⟩ 1 1 [.int .u8 10] rfl (fun j u hj => by
    match j, hj with
    | 0, hj => simp at hj; subst hj; simp [Addr.add]) (fun u hu => by simp at hu; subst hu; rfl) (by unfold maxLen; omega) (by omega) (by have := C.size; simp; omega)
  have e1 : Lib.byteCells l ++ [Value.int .u8 10] = Lib.byteCells (l ++ [10]) := by simp [Lib.byteCells]
  rw [e1, show l.length + 1 = (l ++ [10]).length by simp] at ho2
  have hg3 : w1.grownBy w2 v.ownBlock := ⟨hg2.os, hg2.tape, hg2.output, Nat.le_trans (by simp) hg2.size, fun k hk hne => (hg2.block k (by simp; omega) hne).trans (nz k hk)⟩
  have hk3 : ∀ k, v'.ownBlock = some k → v.ownBlock = some k ∨ w1.heap.size ≤ k := fun k hk => by
    rcases hk2 with h | h
    · exact .inl (h ▸ hk)
    · rw [h] at hk
      have := Option.some.inj hk
      simp at this
      exact .inr (by omega)
  have c0 : w1.cell? ⟨b, 0, none⟩ = some (.pointer (some ⟨b, 0, none⟩)) := by rw [Lib.cell_of_heap C.hp]; rfl
  have c1 : w1.cell? ⟨b, 1, none⟩ = some v := by rw [Lib.cell_of_heap C.hp]; rfl
  have hb2 : w2.heap[b]? = some (.cells #[.pointer (some ⟨b, 0, none⟩), v] 85 (0, 0)) := by
    rw [hg3.block b hlt (fun e => C.ne e.symm)]
    exact C.hp
  have d1 : w2.cell? ⟨b, 1, none⟩ = some v := by rw [Lib.cell_of_heap hb2]; rfl
  have f1 : w2.frozen? ⟨b, 1, none⟩ = false := Lib.frozen_of_heap hb2 1
  have FIN := hide (C.done (l := l ++ [10]) ho2 hg3 hk3)
  obtain ⟨ao, n', cap, ev⟩ : ∃ ao n' cap, v' = .slice ao n' cap := by
    rcases ho2.2 with ⟨hv, _⟩ | ⟨g, cap, cur, hv, _⟩
    · exact ⟨_, _, _, hv⟩
    · exact ⟨_, _, _, hv⟩
  subst ev
  clear C ol ho2 hg2 hk2 hg3 hk3 hb2 CC nz
  go_wp2_with (at_builtin; refine Lib.wpList_append_run _ rfl _ _ 23 23 rfl _ _ rfl rfl _ _ hap ?_)
  go_ret
  exact ⟨⟨_, rfl⟩, FIN.out⟩
/-- A builder's bytes last while others change nothing of its own. -/
theorem bd_abd (B b n0 : Nat) (hn : n0 ≤ B) : Abd (BdS b) n0 (fun pre X => B ≤ X.heap.size ∧ Lib.IsBuilder 85 5 B b (Lib.byteCells (ltT pre)) X) := by
  have lie : ∀ (cs : List Value) (X : World), Lib.IsBuilder 85 5 B b cs X → ∀ k, BdS b X k → B ≤ k ∧ k < X.heap.size := by
    intro cs X h k hk
    have : ∃ p v, B ≤ b ∧ X.heap[b]? = some (.cells #[p, v] 85 (0, 0)) ∧ X.ownsRow B 5 1 v cs.length cs := by
      rcases h with ⟨h1, v, h2, h3, _⟩ | ⟨h1, v, h2, h3, _⟩
      · exact ⟨_, v, h1, h2, h3⟩
      · exact ⟨_, v, h1, h2, h3⟩
    obtain ⟨p, v, h1, h2, h3⟩ := this
    rcases hk with rfl | ⟨v2, hv, ho⟩
    · exact ⟨h1, (Array.getElem?_eq_some_iff.1 h2).1⟩
    · have c1 : X.cell? ⟨b, 1, none⟩ = some v := by rw [Lib.cell_of_heap h2]; rfl
      rw [c1] at hv
      obtain rfl := Option.some.inj hv
      exact h3.lt k ho
  refine ⟨fun pre X h k hk => ⟨Nat.le_trans hn (lie _ X h.2 k hk).1, (lie _ X h.2 k hk).2⟩, fun pre X Y h hs hk => ?_⟩
  have hY : Y.heap[b]? = X.heap[b]? := hk b (.inl rfl)
  have one : ∀ p, Lib.BuilderAt 85 5 B b p (Lib.byteCells (ltT pre)) X → Lib.BuilderAt 85 5 B b p (Lib.byteCells (ltT pre)) Y := by
    rintro p ⟨h1, v, h2, h3, h4⟩
    have c1 : X.cell? ⟨b, 1, none⟩ = some v := by rw [Lib.cell_of_heap h2]; rfl
    refine ⟨h1, v, hY.trans h2, ⟨h3.1, ?_⟩, h4⟩
    rcases h3.2 with h | ⟨g, cap, cur, rfl, hbg, hg, r⟩
    · exact .inl h
    · exact .inr ⟨g, cap, cur, rfl, hbg, (hk g (.inr ⟨_, c1, rfl⟩)).trans hg, r⟩
  refine ⟨⟨Nat.le_trans h.1 hs, h.2.imp (one _) (one _)⟩, fun k hkY => ?_⟩
  rcases hkY with rfl | ⟨v, hv, ho⟩
  · exact .inl rfl
  · have : X.cell? ⟨b, 1, none⟩ = Y.cell? ⟨b, 1, none⟩ := (World.cell?_of_block (a := ⟨b, 1, none⟩) hY).symm
    exact .inr ⟨v, this.trans hv, ho⟩
end Go.Proofs.YtpbniihhpfbamaaDoor

/-
  The text of an iterator's lines (the numbers are seat 20r's own).
-/
namespace Go.Proofs.YtpbniihhpfbamaaDoor
set_option maxRecDepth 100000
open Go Go.RowKit Go.Shelf
attribute [local go_sem] Oper.semAt_some

theorem ltT_pre {pre ls : List (List UInt8)} {x : List UInt8} (h : (pre ++ [x]) <+: ls) : (ltT pre).length + x.length + 1 ≤ (ltT ls).length := by
  obtain ⟨t, rfl⟩ := h
  rw [ltT_app, ltT_app, ltT_one]
  simp
  omega
set_option maxRecDepth 100000 in
set_option maxHeartbeats 4000000 in
theorem textOf_any (w : World) (v : Value) (ls : List (List UInt8)) (hS : SqV ls v w) (hl : (ltT ls).length ≤ 140737488355328) :
    Calls Tryd.prog 21 #[v] w fun e w' => e = .returned (tx (ltT ls)) ∧ Below w.heap.size w w' := by
  obtain ⟨gf, lb, n0, rfl, hn0, en, SQ⟩ := hS
  have n1 : Below w.heap.size w (w.alloc (.cells #[.pointer none, .slice none 0 0] 85)) := (Below.refl _ _).alloc (Nat.le_refl _) _
  have B0 : Lib.IsBuilder 85 5 w.heap.size w.heap.size (Lib.byteCells (ltT [])) (w.alloc (.cells #[.pointer none, .slice none 0 0] 85)) :=
    .inl ⟨Nat.le_refl _, .slice none 0 0, heap_alloc_new w _, World.ownsRow_nil _ _ 5 1, by simp [Value.ownBlock]⟩
  have z1 : (w.alloc (.cells #[.pointer none, .slice none 0 0] 85)).heap.size = w.heap.size + 1 := World.size_alloc _ _
  have AB := bd_abd w.heap.size w.heap.size n0 hn0
  refine (callsIn_wide (n := 5)).1 (callsIn_of_wp_marks Tryd.func21 rfl trivial ?_ rfl)
  simp only [Tryd.ntmps21, List.size_toArray, List.length_cons, List.length_nil, Nat.reduceAdd, Nat.reduceSub, Array.replicate_succ, Array.replicate_zero, List.push_toArray, List.append_toArray, List.nil_append, List.cons_append]
  gi_wp2
  generalize w.alloc (.cells #[.pointer none, .slice none 0 0] 85) = w1 at *
  refine wpIn_rangeS (gf := gf) (lb := lb) rfl (fun args w => run_enter en args w) SQ (n1.mono hn0) (Nat.le_trans hn0 n1.size) rfl (BdS w.heap.size) (fun pre X => w.heap.size ≤ X.heap.size ∧ Lib.IsBuilder 85 5 w.heap.size w.heap.size (Lib.byteCells (ltT pre)) X) AB ⟨n1.size, B0⟩
    (fun x => { tmps := #[.func (.func gf) #[] lb, undef, .string ⟨#[]⟩, .pointer (some ⟨w.heap.size, 0, none⟩), txv x, .func (.func gf) #[] lb, txv x, undef, undef, undef, undef], defers := [] }) ?_ ?_ ?_
  · intro l' x X K hK
    unfold txv
    gi_wp2
    exact hK
  · rintro l' pre x X ⟨hs, hI⟩ hpre hC
    have pl := ltT_pre hpre
    have WS := hide (writeString_any X w.heap.size w.heap.size (ltT pre) x hI hs (by omega))
    clear hI
    unfold txv
    unfold tx at WS
    gi_wp2_with (gi_at_call 36)
    refine ⟨trivial, (CallsIn.inRound l' (callsIn_wide.2 WS.out)).mono ?_⟩
    rintro e X2 ⟨⟨v, rfl⟩, hI2, hC2⟩
    have WB := hide (writeLf_any X2 w.heap.size w.heap.size (ltT pre ++ x) hI2 (Nat.le_trans hs hC2.size) (by rw [List.length_append]; omega))
    have HC2 := hide hC2
    clear hI2 hC2 WS
    gi_wp2_with (gi_at_call 37)
    refine ⟨trivial, (CallsIn.inRound l' (callsIn_wide.2 WB.out)).mono ?_⟩
    rintro e X3 ⟨⟨v, rfl⟩, hI3, hC3⟩
    have FIN : Hid ((w.heap.size ≤ X3.heap.size ∧ Lib.IsBuilder 85 5 w.heap.size w.heap.size (Lib.byteCells (ltT (pre ++ [x]))) X3) ∧ ChS (BdS w.heap.size) X X3) := by
      rw [ltT_app, ltT_one, ← List.append_assoc]
      exact ⟨⟨Nat.le_trans hs (HC2.out.trans hC3).size, hI3⟩, HC2.out.trans hC3⟩
    clear hI3 hC3 WB HC2
    gi_wp2
    exact FIN.out
  · rintro X ⟨hs, hI⟩ hC hsz hK hns
    have BS := hide (Tryd.Builder_String_any_k w.heap.size w.heap.size (ltT ls) X (Lib.IsBuilderF.of hI) hs)
    have NX := hide (n1.trans (hC.below (fun b hb => (AB.lie _ w1 ⟨n1.size, B0⟩ b hb).2 |> fun _ => (bd_abd w.heap.size w.heap.size w.heap.size (Nat.le_refl _)).lie _ w1 ⟨n1.size, B0⟩ b hb |>.1) n1.size))
    have lt := (Array.getElem?_eq_some_iff.1 hK).1
    have hs1 := n1.size
    clear hI B0 AB hC hns
    gi_wp2_with (gi_at_call 38)
    refine ⟨trivial, (callsIn_wide.2 BS.out).mono ?_⟩
    rintro e X2 ⟨rfl, -, n2, ok⟩
    have hK2 : X2.heap[w1.heap.size]? = some (.deferred (some [])) := ok _ _ hK (fun e => by have := Option.some.inj e; omega) (fun c fz e => by cases e)
    rw [z1] at hK2
    have N2 := hide (NX.out.trans n2)
    clear BS n2 ok NX
    gi_wp2
    refine ⟨by simp, .inl ⟨_, _, rfl, run_takeDeferred hK2, ?_⟩⟩
    exact ⟨_, results_tmp rfl _ _ _, rfl, N2.out.trans (below_put (by omega))⟩
end Go.Proofs.YtpbniihhpfbamaaDoor

/-
  The program's text of a world's report.
-/
namespace Go.Proofs.YtpbniihhpfbamaaDoor
set_option maxRecDepth 100000
open Go Go.RowKit

theorem cnT_len {n : Nat} (h : n < 9223372036854775808) : (cnT n).length ≤ 100 := one_len (by decide) (by unfold I64; omega)
theorem ch_len {n : Nat} {c : CD} (hn : n < 9223372036854775808) (L : LnC c) : (ltT (chT n c)).length ≤ 22400000 := by
  have h1 := cnT_len hn
  have h2 := enT_len (wo := clW) L.cl.k L.cl.i L.cl.hp (by decide)
  have h3 := enT_len (wo := svW) L.sv.k L.sv.i L.sv.hp (by decide)
  have h4 := waT_len L.ts L.tc
  have e : (ltT (chT n c)).length = (cnT n).length + 1 + ((enT clW c.cl).length + 1) + ((enT svW c.sv).length + 1) + ((waT c.ts c.tc).length + 1) := by
    simp [ltT, chT]
    omega
  rw [e]
  omega
theorem cs_len {d : WD} (L : LnWd d) : ∀ k, k ≤ d.cs.length → (ltT (csT d.cs cd0 k)).length ≤ k * 22400000
  | 0, _ => by simp [csT, ltT]
  | k + 1, hk => by
    have h1 := cs_len L k (by omega)
    have h2 := ch_len (n := k) (by have := L.cs; omega) (L.cz k (by omega))
    rw [csT_succ, ltT_app, List.length_append]
    omega
theorem ms_len : ∀ (ms : List Mrk), (∀ m ∈ ms, m.id.length ≤ 1048576 ∧ I64 m.un) → (ltT (ms.map mkT)).length ≤ ms.length * 2200001
  | [], _ => by simp [ltT]
  | m :: ms, h => by
    have h1 := ms_len ms (fun x hx => h x (List.mem_cons_of_mem _ hx))
    have h2 := mkT_len (h m (List.mem_cons_self ..)).1 (h m (List.mem_cons_self ..)).2
    have e : (ltT ((m :: ms).map mkT)).length = (mkT m).length + 1 + (ltT (ms.map mkT)).length := by simp [ltT]; omega
    rw [e, List.length_cons]
    omega
theorem lnM_mem {ms : List Mrk} (h : LnM ms) : ∀ m ∈ ms, m.id.length ≤ 1048576 ∧ I64 m.un := fun m hm => by
  obtain ⟨i, hi, rfl⟩ := List.mem_iff_getElem.1 hm
  have := h i hi
  rw [List.getD_eq_getElem?_getD, List.getElem?_eq_getElem hi] at this
  exact ⟨this.1, this.2.2⟩
theorem lf_len {d : WD} (L : LnWd d) : (lfT d.tk d.pk d.rn d.gt d.li d.ea d.ho d.sp).length ≤ 15000000 := by
  unfold lfT
  split
  · simp [lnL_cons]
  · have h := heT_len (byL d.ho)
    rw [byL_len] at h
    have := L.ho
    exact svT_len L.tk L.pk L.rn L.gt L.li L.ea (by omega) L.sp
theorem rp_len {d : WD} (L : LnWd d) : (ltT (rpL d)).length ≤ 30000000000000 := by
  have h1 := cs_len L d.cs.length (Nat.le_refl _)
  have h2 := lf_len L
  have h3 : (wdT d.wd).length ≤ 100 := one_len (by decide) L.wd
  have h4 := ms_len d.ms (lnM_mem L.ms)
  have h5 := L.cs
  have h6 := L.mn
  unfold rpL
  rw [ltT_app, ltT_app, ltT_app, ltT_one, ltT_one]
  simp only [List.length_append, List.length_cons, List.length_nil]
  omega
/-- The text of a report. -/
def rpT (d : WD) : List UInt8 := if d.fa = 0 then ltT (rpL d) else faT d.fa ++ [10]
set_option maxRecDepth 100000 in
set_option maxHeartbeats 4000000 in
theorem implFormat_any (w : World) (hW : HasW w) (p : WA) (d : WD) (h : HasR w p d) (L : LnWd d) :
    Calls Tryd.prog 7 #[.agg (wrV p d)] w fun e w' => e = .returned (tx (rpT d)) ∧ Below w.heap.size w w' := by
  have n1 : Below w.heap.size w (w.alloc (.cells (wrV p d) 39)) := (Below.refl _ _).alloc (Nat.le_refl _) _
  have T1 : RwC (w.alloc (.cells (wrV p d) 39)) w.heap.size (wrL p d) 39 := RwC.new w (wrL p d) 39
  have c0 : (w.alloc (.cells (wrV p d) 39)).cell? ⟨w.heap.size, 0, none⟩ = some (.int .i64 d.fa) := T1.cell 0
  have RG : (w.alloc (.cells (wrV p d) 39)).rangeAt w.heap.size 0 (wrV p d).toList := T1.rangeG
  have HW := hide (hW.up n1)
  have N1 := hide n1
  have RL := hide (reportLines_any _ (hW.up n1) p d (h.up n1) L)
  obtain ⟨dW, hdW, hrW⟩ := rowWr
  have LN : (wrV p d).toList.length = 12 := rfl
  clear n1 T1 h hW
  by_cases h0 : d.fa = 0
  · have t0 : (d.fa != 0) = false := by simp [h0]
    have E : Hid (rpT d = ltT (rpL d)) := if_pos h0
    clear h0
    go_enter Tryd.func7, Tryd.ntmps7
    go_upto_region 1 with fail
    generalize w.alloc (.cells (wrV p d) 39) = w1 at *
    generalize wrV p d = xa at *
    go_wp2_with (first | (refine wpList_load_mid rfl 39 (.tmp 1) rfl w.heap.size 0 rfl xa.toList dW RG hdW hrW (iWr.trans (congrArg some LN.symm)) ?_) | fail)
    refine RL.out.mono ?_
    rintro e w2 ⟨⟨f, rfl, F⟩, n2⟩
    have TO := hide (textOf_any w2 f _ F (Nat.le_trans (rp_len L) (by decide)))
    have N2 := hide (nxt N1.out n2)
    clear F n2 RL N1 c0 RG
    go_wp2_with fail
    refine TO.out.mono ?_
    rintro e w3 ⟨rfl, n3⟩
    have N3 := hide (nxt N2.out n3)
    clear n3 TO N2
    unfold tx
    go_wp2
    go_ret
    exact ⟨by rw [E.out]; rfl, N3.out⟩
  · have t0 : (d.fa != 0) = true := by simp [h0]
    have E : Hid (rpT d = faT d.fa ++ [10]) := if_neg h0
    clear h0 RL RG
    go_enter Tryd.func7, Tryd.ntmps7
    go_upto_region 1 with fail
    generalize w.alloc (.cells (wrV p d) 39) = w1 at *
    have NW := hide (numberWord_any w1 HW.out d.fa L.fa)
    go_wp2_with fail
    refine NW.out.mono ?_
    rintro e w2 ⟨rfl, n2⟩
    have m3 : Below w2.heap.size w2 (w2.alloc (.cells #[tx [102, 97, 117, 108, 116], tx (itL d.fa)] 9)) := (Below.refl _ _).alloc (Nat.le_refl _) _
    have LO : Hid (Calls Tryd.prog 23 #[.slice (some ⟨w2.heap.size, 0, none⟩) 2 2] (w2.alloc (.cells #[tx [102, 97, 117, 108, 116], tx (itL d.fa)] 9)) _) := lineOf_any _ w2.heap.size [[102, 97, 117, 108, 116], itL d.fa] 2 rfl (by decide) (heap_alloc_new w2 _) (Nat.le_trans (one_len (by decide) L.fa) (by decide)) (by simp)
    have N3 := hide (nxt (nxt N1.out n2) m3)
    have FL : Hid ((faT d.fa).length ≤ 100) := one_len (by decide) L.fa
    clear n2 m3 NW N1 c0
    unfold tx at *
    go_wp2_with fail
    refine LO.out.mono ?_
    rintro e w4 ⟨rfl, n4⟩
    have SI := hide (single_any w4 0 (faT d.fa))
    have N4 := hide (nxt N3.out n4)
    clear n4 LO N3
    unfold tx at SI
    go_wp2_with fail
    refine SI.out.mono ?_
    rintro e w5 ⟨⟨f, rfl, F⟩, n5⟩
    have TO := hide (textOf_any w5 f _ F.toV (by rw [ltT_one, List.length_append]; have := FL.out; simp; omega))
    have N5 := hide (nxt N4.out n5)
    clear F n5 SI N4 FL
    go_wp2_with fail
    refine TO.out.mono ?_
    rintro e w6 ⟨rfl, n6⟩
    have N6 := hide (nxt N5.out n6)
    clear n6 TO N5
    rw [ltT_one]
    unfold tx
    go_wp2
    go_ret
    exact ⟨by rw [E.out]; rfl, N6.out⟩
end Go.Proofs.YtpbniihhpfbamaaDoor

/-
  The model's lines of marks.
-/
namespace Go.Proofs.YtpbniihhpfbamaaDoor
set_option maxRecDepth 100000
open Go Go.RowKit

/-- A text under way, as bytes in memory of its own. -/
def OwB (B : Nat) (v : Value) (l : List UInt8) (w : World) : Prop := w.ownsRow B 5 1 v l.length (Lib.byteCells l)
theorem OwB.up {B : Nat} {v : Value} {l : List UInt8} {w w' : World} (h : OwB B v l w) (n : Below w.heap.size w w') : OwB B v l w' := by
  refine ⟨h.1, ?_⟩
  rcases h.2 with h' | ⟨g, cap, cur, e, hb, hg, r⟩
  · exact .inl h'
  · exact .inr ⟨g, cap, cur, e, hb, (n.block g (Array.getElem?_eq_some_iff.1 hg).1).trans hg, r⟩
theorem OwB.slice {B : Nat} {v : Value} {l : List UInt8} {w : World} (h : OwB B v l w) : ∃ a c, v = .slice a l.length c := by
  rcases h.2 with ⟨h1, h2⟩ | ⟨g, cap, cur, e, _⟩
  · exact ⟨none, 0, by rw [h2]; exact h1⟩
  · exact ⟨_, cap, e⟩
theorem OwB.start (w : World) : OwB w.heap.size (.slice (some ⟨w.heap.size, 0, none⟩) 0 0) [] (w.alloc (.cells #[] 5)) :=
  World.ownsRow_made w #[] 0 (Nat.le_refl _) (by unfold maxLen; omega) rfl
theorem str_text (l : List UInt8) : str (l.map fun b => (b.toNat : Int)) = ⟨⟨l⟩⟩ := by
  have h := str_data (l.map fun b => (b.toNat : Int)) ByteArray.empty
  have e : (str (l.map fun b => (b.toNat : Int))).data = ⟨l⟩ := by
    unfold str
    rw [h, List.map_map]
    have hid : ((fun n : Int => UInt8.ofNat n.toNat) ∘ fun b : UInt8 => (b.toNat : Int)) = id := by
      funext b
      simp
    rw [hid, List.map_id]
    apply Array.ext'
    simp
  cases hs : str (l.map fun b => (b.toNat : Int)) with
  | mk x =>
    rw [hs] at e
    exact congrArg ByteArray.mk e
theorem OwB.conv {B : Nat} {v : Value} {l : List UInt8} {w : World} (h : OwB B v l w) : (convert 23 9 v).run Tryd.prog w = .ok (.string ⟨⟨l⟩⟩) w := by
  obtain ⟨a, c, rfl⟩ := h.slice
  have hl : (l.map fun b => (b.toNat : Int)).length = l.length := by simp
  have R : ∃ g, Rd w g a .u8 (l.map fun b => (b.toNat : Int)) := by
    rcases h.2 with ⟨h1, h2⟩ | ⟨g, cap, cur, e, hb, hg, _, _, _, ht⟩
    · exact ⟨0, fun h0 => by rw [hl] at h0; omega⟩
    · injection e with e1 e2 e3
      subst e1
      refine ⟨g, fun _ => ⟨0, rfl, fun i hi => ?_⟩⟩
      rw [hl] at hi
      have := World.ownsRow.cells (g := g) h rfl i (.int .u8 ((l.getD i 0).toNat : Int)) (by simp [Lib.byteCells, List.getD_eq_getElem?_getD, List.getElem?_eq_getElem hi])
      have ea : (⟨g, 0, none⟩ : Addr).add i = ⟨g, i, none⟩ := by unfold Addr.add; split <;> simp_all
      rw [ea] at this
      rw [Nat.zero_add, this, List.getD_eq_getElem?_getD, List.getD_eq_getElem?_getD, List.getElem?_map, List.getElem?_eq_getElem hi]
      rfl
  obtain ⟨g, R⟩ := R
  have := conv_run w g a c _ R
  rw [hl, str_text] at this
  exact this
/-- A round of the model's loop over marks: the calls, one in the other, and the append. -/
theorem mk_chain (w : World) (B : Nat) (w1 : World) (g : Nat) (a : Option Addr) (c : Nat) (m : Mrk) (r : Rd w g a .u8 m.id) (bi : Byt m.id) (hl : m.id.length ≤ 1048576) (hi : I64 m.un) (v : Value) (l : List UInt8) (hO : OwB B v l w) (hB : B ≤ w1.heap.size) (N : Below w1.heap.size w1 w) (hl2 : l.length ≤ 100000000000000) :
    Calls Tryd.prog 15 #[.slice a m.id.length c] w fun e w50 => ∃ T1, e = .returned (.string ⟨⟨T1⟩⟩) ∧ Hid (Below w1.heap.size w1 w50) ∧
    Calls Tryd.prog 13 #[.int .i64 m.un] w50 fun e w51 => ∃ T2, e = .returned (.string ⟨⟨T2⟩⟩) ∧ Hid (Below w1.heap.size w1 w51) ∧
    Calls Tryd.prog 12 #[.slice (some ⟨w51.heap.size, 0, none⟩) 3 3] (w51.alloc (.cells #[.string ⟨#[109, 97, 114, 107]⟩, .string ⟨⟨T1⟩⟩, .string ⟨⟨T2⟩⟩] 9)) fun e w52 => ∃ T3, e = .returned (.string ⟨⟨T3⟩⟩) ∧ Hid (Below w1.heap.size w1 w52) ∧
    ∃ v' w6, (Builtin.append_ #[23, 9] 23 #[v, .string ⟨⟨T3⟩⟩]).run Tryd.prog w52 = .ok v' w6 ∧ (∃ a n c, v' = .slice a n c) ∧ Hid (OwB B v' (l ++ (mkT m ++ [10])) w6) ∧ Hid (Below B w1 w6) := by
  refine (specEncodeHex_any w g a c m.id r bi hl).mono ?_
  rintro e x0 ⟨rfl, m0⟩
  have B0 := N.trans (m0.mono N.size)
  refine ⟨heT m.id, rfl, B0, ?_⟩
  refine (l20Number_any x0 m.un hi).mono ?_
  rintro e x1 ⟨rfl, m1⟩
  have B1 := B0.trans (m1.mono B0.size)
  refine ⟨_, rfl, B1, ?_⟩
  have m2 : Below x1.heap.size x1 (x1.alloc (.cells #[.string ⟨#[109, 97, 114, 107]⟩, .string ⟨⟨heT m.id⟩⟩, .string ⟨⟨itL m.un⟩⟩] 9)) := (Below.refl _ _).alloc (Nat.le_refl _) _
  have B2 := B1.trans (m2.mono B1.size)
  refine (l20Line_any _ x1.heap.size 3 [[109, 97, 114, 107], heT m.id, itL m.un] (heap_alloc_new x1 _) rfl (by decide) (Nat.le_trans (mkT_len hl hi) (by decide))).mono ?_
  rintro e x3 ⟨rfl, m3⟩
  have B3 := B2.trans (m3.mono B2.size)
  have ml := mkT_len hl hi
  obtain ⟨v', w6, hap, ho, hg, -⟩ := app_str x3 B v l (mkT m ++ [10]) ((((hO.up m0).up m1).up m2).up m3) (Nat.le_trans hB B3.size) (by rw [List.length_append]; simp; omega)
  refine ⟨_, rfl, B3, v', w6, hap, ?_, ho, ?_⟩
  · obtain ⟨a, c, e⟩ := OwB.slice (B := B) (l := l ++ (mkT m ++ [10])) ho
    exact ⟨a, _, c, e⟩
  · refine (B3.mono hB).trans ((Below.refl B x3).grown hg (Nat.le_trans hB B3.size) fun k hk => ?_)
    have := (((((hO.up m0).up m1).up m2).up m3) : x3.ownsRow B 5 1 v l.length (Lib.byteCells l)).lt k hk
    exact this.1
set_option maxRecDepth 100000 in
set_option maxHeartbeats 8000000 in
theorem l20Marks_any (w : World) (wd : Int) (g : Nat) (a : Option Addr) (c : Nat) (ms : List Mrk) (ps : List Plm) (hr : RdK w g a ms ps) (hm : LnM ms) (hN : ms.length ≤ 1048576) :
    Calls Tryd.prog 17 #[.agg #[.int .i64 wd, .slice a ms.length c]] w fun e w' => e = .returned (tx (ltT (ms.map mkT))) ∧ Below w.heap.size w w' := by
  have n1 : Below w.heap.size w (w.alloc (.cells #[.int .i64 wd, .slice a ms.length c] 37)) := (Below.refl _ _).alloc (Nat.le_refl _) _
  have T1 : RwC (w.alloc (.cells #[.int .i64 wd, .slice a ms.length c] 37)) w.heap.size [.int .i64 wd, .slice a ms.length c] 37 := RwC.new w _ _
  have n2 : Below (w.alloc (.cells #[.int .i64 wd, .slice a ms.length c] 37)).heap.size (w.alloc (.cells #[.int .i64 wd, .slice a ms.length c] 37)) ((w.alloc (.cells #[.int .i64 wd, .slice a ms.length c] 37)).alloc (.cells #[] 5)) := (Below.refl _ _).alloc (Nat.le_refl _) _
  have O2 := OwB.start (w.alloc (.cells #[.int .i64 wd, .slice a ms.length c] 37))
  have N2 := hide (nxt n1 n2)
  have TT := hide (T1.up n2)
  have HO := hide O2
  have sB := hide n2.size
  have zB : Hid (w.heap.size < (w.alloc (.cells #[.int .i64 wd, .slice a ms.length c] 37)).heap.size) := by
    show w.heap.size < _
    rw [World.size_alloc]
    exact Nat.lt_succ_self _
  have c1 : ((w.alloc (.cells #[.int .i64 wd, .slice a ms.length c] 37)).alloc (.cells #[] 5)).cell? ⟨w.heap.size, 1, none⟩ = some (.slice a ms.length c) := TT.out.cell 1
  clear n1 n2 T1 O2
  go_enter Tryd.func17, Tryd.ntmps17
  go_upto_region 3 with fail
  generalize (w.alloc (.cells #[.int .i64 wd, .slice a ms.length c] 37)).alloc (.cells #[] 5) = w1 at *
  generalize hBB : (w.alloc (.cells #[.int .i64 wd, .slice a ms.length c] 37)).heap.size = B at *
  have eB : Hid (w.heap.size + 1 = B) := by show _ = _; rw [← hBB, World.size_alloc]
  clear hBB c1
  have CW : Hid (∀ W, Below B w1 W → RwC W w.heap.size [.int .i64 wd, .slice a ms.length c] 37) := fun W n => (n.block w.heap.size zB.out).trans TT.out
  have CR : Hid (∀ W, Below B w1 W → RdK W g a ms ps) := fun W n => hr.up (N2.out.trans (n.mono (Nat.le_of_lt zB.out)))
  clear hr
  go_loopw [3, 4] (fun v i wr => ∃ (k : Nat) (va : Option Addr) (vn vc : Nat), k ≤ ms.length ∧ i = .int .i64 k ∧ v = .slice va vn vc ∧ Hid (OwB B v (ltT ((ms.map mkT).take k)) wr) ∧ Hid (Below B w1 wr)) (fun _ i _ => ms.length - (intOf i).toNat)
  case atStart => exact ⟨0, _, _, _, Nat.zero_le _, rfl, rfl, by rw [eB.out]; exact HO.out, Below.refl _ _⟩
  case round =>
    obtain ⟨k, va, vn, vc, hk, rfl, rfl, OW, NB⟩ := hrel
    have cw := (CW.out wr NB.out).cell 1
    by_cases hlt : k < ms.length
    · have t0 : (k : Int) < (ms.length : Int) := by omega
      have t1 : decide ((k : Int) < (ms.length : Int)) = true := decide_eq_true t0
      have k1 : IntKind.i64.wrap ((k : Int) + 1) = ((k + 1 : Nat) : Int) := by rw [IntKind.wrap_i64]; omega
      obtain ⟨off, rfl, hc⟩ := (CR.out wr NB.out).r (by omega)
      have hc1 := fun W n => (CR.out W n).r (by omega)
      have nd : Below wr.heap.size wr wr.drew := (Below.refl _ _).drew
      have lo : B ≤ wr.heap.size := Nat.le_trans sB.out NB.out.size
      have TK : Hid (ltT ((ms.map mkT).take (k + 1)) = ltT ((ms.map mkT).take k) ++ (mkT (ms.getD k mrk0) ++ [10])) := by
        show _ = _
        rw [List.take_add_one, List.getElem?_map, List.getElem?_eq_getElem hlt, List.getD_eq_getElem?_getD, List.getElem?_eq_getElem hlt, ltT_app]
        show _ ++ ltT [_] = _
        rw [ltT_one]
        rfl
      have LL : (ltT ((ms.map mkT).take k)).length ≤ 100000000000000 := by
        have h := ms_len (ms.take k) (fun m hm' => lnM_mem hm m (List.mem_of_mem_take hm'))
        rw [List.map_take] at h
        rw [List.length_take] at h
        omega
      have CH := hide (mk_chain wr.drew B wr (ps.getD k plm0).q (ps.getD k plm0).a (ps.getD k plm0).c (ms.getD k mrk0) (((CR.out wr NB.out).up nd).b k hlt) (hm k hlt).2.1 (hm k hlt).1 (hm k hlt).2.2 (.slice va vn vc) _ (OW.out.up nd) lo nd LL)
      have CY : Hid (∀ W, Below B wr W → W.cell? ⟨w.heap.size, 1, none⟩ = some (.slice (some ⟨g, off, none⟩) ms.length c) ∧ W.cell? ⟨g, off + k * 2, none⟩ = some (.slice (ps.getD k plm0).a (ms.getD k mrk0).id.length (ps.getD k plm0).c) ∧ W.cell? ⟨g, off + k * 2 + 1, none⟩ = some (.int .i64 (ms.getD k mrk0).un)) := fun W n => by
        obtain ⟨o2, e2, h2⟩ := hc1 W (NB.out.trans n)
        cases e2
        exact ⟨(CW.out W (NB.out.trans n)).cell 1, (h2 k hlt).1, (h2 k hlt).2⟩
      have bA : Hid (∀ (W : World) (o : Obj), Below wr.heap.size wr W → Below wr.heap.size wr (W.alloc o)) := fun W o n => n.alloc n.size o
      have n0 : Hid (Below wr.heap.size wr wr) := Below.refl _ _
      have nW := hide nd
      have LO := hide lo
      have NX : Hid (∀ w6, Below B wr w6 → Below B w1 w6) := fun w6 n => NB.out.trans n
      clear hc hc1 nd lo LL OW NB
      rw [← TK.out] at CH
      generalize (ps.getD k plm0).a = pa at *
      generalize (ps.getD k plm0).c = pc at *
      generalize (ms.getD k mrk0).id.length = x at *
      generalize (ms.getD k mrk0).un = un at *
      clear TK
      go_upto_region 5 with fail
      go_region_held3 (fun W => W.cell? ⟨w.heap.size, 1, none⟩ = some (.slice (some ⟨g, off, none⟩) ms.length c) ∧ W.cell? ⟨g, off + k * 2, none⟩ = some (.slice pa x pc) ∧ W.cell? ⟨g, off + k * 2 + 1, none⟩ = some (.int .i64 un))
        (first | exact CY.out _ (n0.out.mono LO.out) | exact CY.out _ (nW.out.mono LO.out) | exact CY.out _ (m1.out.mono LO.out) | exact CY.out _ (m2.out.mono LO.out) | exact CY.out _ ((bA.out _ _ m2.out).mono LO.out) | exact CY.out _ (m3.out.mono LO.out) | exact CY.out _ FN.out)
        (first
          | (go_at_call 15; with_reducible refine CH.out.mono ?_; rintro e w50 ⟨X1, rfl, m1, N2'⟩)
          | (go_at_call 13; with_reducible refine N2'.mono ?_; rintro e w51 ⟨X2, rfl, m2, N3⟩)
          | (go_at_call 12; with_reducible refine N3.mono ?_; rintro e w52 ⟨X3, rfl, m3, AP⟩)
          | (refine sp_appX rfl (.tmp 13) (.tmp 29) 23 9 rfl (.slice va vn vc) (.string ⟨⟨X3⟩⟩) rfl rfl _ AP ?_; rintro v3 w6 ⟨⟨xa, xn, xc, rfl⟩, OE, FN⟩)
          | fail)
      all_goals
        have N6 := hide (NX.out _ FN.out)
        clear CH AP CY bA n0 nW m1 m2 m3 FN NX
        go_wp2
        go_roundw
        case rel => exact ⟨k + 1, _, _, _, by omega, by first | rfl | go_num, rfl, OE, N6⟩
        case measure => simp [intOf]; omega
    · obtain rfl : k = ms.length := by omega
      have E : Hid (OwB B (.slice va vn vc) (ltT (ms.map mkT)) wr) := by
        have := OW.out
        rwa [List.take_of_length_le (by simp)] at this
      have CV := E.out.conv
      have NN := hide (N2.out.trans (NB.out.mono (Nat.le_of_lt zB.out)))
      clear OW E CW CR NB
      go_wp2
      go_ret
      exact ⟨rfl, NN.out⟩
end Go.Proofs.YtpbniihhpfbamaaDoor
