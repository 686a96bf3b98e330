
/-
  A builder of texts that is written to from within a loop over an iterator (the numbers are seat 20r's own).
-/
import Derived.Test.YtpbniihhpfbamaaDoorFqS
import Derived.Test.YtpbniihhpfbamaaDoorFqF
import Derived.Test.YtpbniihhpfbamaaDoorFqN
import Derived.Maps.AppendAt
namespace Go.Proofs.YtpbniihhpfbamaaDoor
set_option maxRecDepth 100000
open Go Go.RowKit

/-- The blocks that a builder owns. -/
def BdS (b : Nat) (X : World) (k : Nat) : Prop := k = b ∨ ∃ v, X.cell? ⟨b, 1, none⟩ = some v ∧ v.ownBlock = some k
/-- A text's bytes appended. -/
theorem app_str (w : World) (B : Nat) (v : Value) (l s : List UInt8) (hown : w.ownsRow B 5 1 v l.length (Lib.byteCells l)) (hB : B ≤ w.heap.size) (hl : l.length + s.length ≤ 140737488355328) :
    ∃ v' w', (Builtin.append_ #[23, 9] 23 #[v, .string ⟨⟨s⟩⟩]).run Tryd.prog w = .ok v' w' ∧ w'.ownsRow B 5 1 v' (l ++ s).length (Lib.byteCells (l ++ s)) ∧ w.grownBy w' v.ownBlock ∧ (∀ k, v'.ownBlock = some k → v.ownBlock = some k ∨ w.heap.size ≤ k) := by
  obtain ⟨i0, hi, hz0, hz1, hz2⟩ := info_parts Tryd.info5
  have sz : (⟨⟨s⟩⟩ : ByteArray).size = s.length := rfl
  have sc : Lib.strCells ⟨⟨s⟩⟩ = Lib.byteCells s := rfl
  obtain ⟨v', w', hr, h2, h3, -⟩ := Lib.run_append_own_string (P := Tryd.prog) w B 23 9 23 5 i0 Tryd.underlying23 Tryd.underlying9 hi hz0 hz1 hz2 v l.length (Lib.byteCells l) hown ⟨⟨s⟩⟩ (by rw [sz]; unfold maxLen; omega) (by rw [sz]; omega) hB
  refine ⟨v', w', hr, ?_, h3, fun k hk => ?_⟩
  · rw [sz, sc] at h2
    rw [List.length_append]
    have e : Lib.byteCells (l ++ s) = Lib.byteCells l ++ Lib.byteCells s := by simp [Lib.byteCells]
    rw [e]
    exact h2
  · rcases hown.2 with ⟨rfl, hn⟩ | ⟨g, cap, cur, rfl, hbg, hg, hnc, hcm, hcs, htake⟩
    · have l0 : l = [] := List.eq_nil_of_length_eq_zero hn
      subst l0
      obtain ⟨v2, w2, hr2, h22, -, -⟩ := Lib.run_append_own_string (P := Tryd.prog) w w.heap.size 23 9 23 5 i0 Tryd.underlying23 Tryd.underlying9 hi hz0 hz1 hz2 (.slice none 0 0) 0 [] (World.ownsRow_nil w _ 5 1) ⟨⟨s⟩⟩ (by rw [sz]; unfold maxLen; omega) (by rw [sz]; omega) (Nat.le_refl _)
      obtain ⟨rfl, rfl⟩ : v' = v2 ∧ w' = w2 := by
        have := hr.symm.trans hr2
        injection this with a b
        exact ⟨a, b⟩
      exact .inr (h22.lt k hk).1
    · by_cases hroom : l.length + s.length ≤ cap
      · have hr2 := Lib.run_append_room_string (P := Tryd.prog) w 23 9 23 5 i0 Tryd.underlying23 Tryd.underlying9 hi hz1 g l.length cap cur hg ⟨⟨s⟩⟩ (by rw [sz]; exact hroom) (by rw [sz]; omega)
        have := hr.symm.trans hr2
        injection this with a b
        subst a
        exact .inl hk
      · have holds : ∀ j u, (Lib.byteCells l)[j]? = some u → w.cell? ((⟨g, 0, none⟩ : Addr).add j) = some u := hown.cells (g := g) rfl
        have hr2 := Lib.run_append_grow_string (P := Tryd.prog) w 23 9 23 5 i0 (.int .u8 0) Tryd.underlying23 Tryd.underlying9 hi hz0 ⟨g, 0, none⟩ l.length cap (Lib.byteCells l) (by rw [hz1]; simp [Lib.byteCells]) holds ⟨⟨s⟩⟩ (by rw [sz]; omega) (by rw [sz]; omega) (by rw [hz2, sz]; exact growslice_fits (by omega) (by omega))
        have := hr.symm.trans hr2
        injection this with a b
        subst a
        have e : w.heap.size = k := Option.some.inj hk
        exact .inr (Nat.le_of_eq e)
/-- Behind copyCheck. -/
structure CkB (B b : Nat) (v : Value) (n : Nat) (cs : List Value) (w w1 : World) : Prop where
  lo : B ≤ b
  hp : w1.heap[b]? = some (.cells #[.pointer (some ⟨b, 0, none⟩), v] 85 (0, 0))
  own : w1.ownsRow B 5 1 v n cs
  ne : v.ownBlock ≠ some b
  old : w.cell? ⟨b, 1, none⟩ = some v
  os : w1.os = w.os
  tape : w1.tape = w.tape
  output : w1.output = w.output
  size : w1.heap.size = w.heap.size
  oth : ∀ k, k ≠ b → w1.heap[k]? = w.heap[k]?
theorem copyChk (w : World) (B b : Nat) (bs : List Value) (h : Lib.IsBuilder 85 5 B b bs w) :
    Calls Tryd.prog 56 #[.pointer (some ⟨b, 0, none⟩)] w fun e w1 => e = .returned (.tuple #[]) ∧ ∃ v, CkB B b v bs.length bs w w1 := by
  rcases h with h | h
  · refine (Any.Builder_copyCheck_fresh (P := Tryd.prog) (ρ := Tryd.lays156_ren) { Tryd.lays156 with } Tryd.Builder_Extra_156.toX72 b w h.cell0 h.shape h.frozen0).mono ?_
    rintro e w' ⟨rfl, rfl⟩
    have h2 := h
    obtain ⟨hB, v, hb, hown, hne⟩ := h
    obtain ⟨_, v2, hb2, hown2, hne2⟩ := h2.used (.pointer (some ⟨b, 0, none⟩))
    have o : ∀ k, k ≠ b → (w.setCell ⟨b, 0, none⟩ (.pointer (some ⟨b, 0, none⟩))).heap[k]? = w.heap[k]? := fun k hk => by
      show (w.heap.modify b _)[k]? = _
      rw [Array.getElem?_modify, if_neg (fun e => hk e.symm)]
    have e2 : (w.setCell ⟨b, 0, none⟩ (.pointer (some ⟨b, 0, none⟩))).heap[b]? = some (.cells #[.pointer (some ⟨b, 0, none⟩), v] 85 (0, 0)) := by
      simp [World.setCell, Array.getElem?_modify, hb]
    have ev : v2 = v := by
      have := hb2.symm.trans e2
      simp at this
      exact this
    subst ev
    exact ⟨rfl, v2, hB, e2, hown2, hne, by rw [Lib.cell_of_heap hb]; rfl, rfl, rfl, rfl, by simp [World.setCell], o⟩
  · refine (Any.Builder_copyCheck_used (P := Tryd.prog) (ρ := Tryd.lays156_ren) { Tryd.lays156 with } Tryd.Builder_Extra_156.toX72 b w h.cell0).mono ?_
    rintro e w' ⟨rfl, rfl⟩
    obtain ⟨hB, v, hb, hown, hne⟩ := h
    exact ⟨rfl, v, hB, hb, hown, hne, by rw [Lib.cell_of_heap hb]; rfl, rfl, rfl, rfl, rfl, fun _ _ => rfl⟩
/-- Behind the store. -/
theorem CkB.done {B b n : Nat} {v v' : Value} {cs : List Value} {w w1 w2 : World} {l : List UInt8} (C : CkB B b v n cs w w1) (hown' : w2.ownsRow B 5 1 v' l.length (Lib.byteCells l)) (hg : w1.grownBy w2 v.ownBlock) (hk : ∀ k, v'.ownBlock = some k → v.ownBlock = some k ∨ w1.heap.size ≤ k) :
    Lib.IsBuilder 85 5 B b (Lib.byteCells l) (w2.setCell ⟨b, 1, none⟩ v') ∧ ChS (BdS b) w (w2.setCell ⟨b, 1, none⟩ v') := by
  have hlt : b < w1.heap.size := (Array.getElem?_eq_some_iff.1 C.hp).1
  have hb2 : w2.heap[b]? = some (.cells #[.pointer (some ⟨b, 0, none⟩), v] 85 (0, 0)) := by
    rw [hg.block b hlt (fun e => C.ne e.symm)]
    exact C.hp
  have hlen : (Lib.byteCells l).length = l.length := by simp [Lib.byteCells]
  have P := Lib.BuilderAt.put (T := 85) (e := 5) C.lo hb2 (bs' := Lib.byteCells l) (by rw [hlen]; exact hown') (by decide)
  have o : ∀ k, k ≠ b → (w2.setCell ⟨b, 1, none⟩ v').heap[k]? = w2.heap[k]? := fun k hk => by
    show (w2.heap.modify b _)[k]? = _
    rw [Array.getElem?_modify, if_neg (fun e => hk e.symm)]
  have c1 : (w2.setCell ⟨b, 1, none⟩ v').cell? ⟨b, 1, none⟩ = some v' := by
    have e2 : (w2.setCell ⟨b, 1, none⟩ v').heap[b]? = some (.cells #[.pointer (some ⟨b, 0, none⟩), v'] 85 (0, 0)) := by simp [World.setCell, Array.getElem?_modify, hb2]
    rw [Lib.cell_of_heap e2]; rfl
  refine ⟨.inr P, hg.os.trans C.os, hg.tape.trans C.tape, hg.output.trans C.output, ?_, fun k hk hs => ?_, fun k hk => ?_⟩
  · have := hg.size
    have := C.size
    simp [World.setCell]
    omega
  · have h1 : k ≠ b := fun e => hs (.inl e)
    rw [o k h1, hg.block k (by have := C.size; omega) (fun e => hs (.inr ⟨v, C.old, e.symm⟩)), C.oth k h1]
  · rcases hk with rfl | ⟨v2, hv2, ho⟩
    · exact .inl (.inl rfl)
    · rw [c1] at hv2
      obtain rfl := Option.some.inj hv2
      rcases hk' : hk k ho with h | h
      · exact .inl (.inr ⟨v, C.old, h⟩)
      · exact .inr (by have := C.size; omega)
set_option maxRecDepth 100000 in
theorem writeString_any (w : World) (B b : Nat) (l s : List UInt8) (h : Lib.IsBuilder 85 5 B b (Lib.byteCells l) w) (hB : B ≤ w.heap.size) (hl : l.length + s.length ≤ 140737488355328) :
    Calls Tryd.prog 36 #[.pointer (some ⟨b, 0, none⟩), tx s] w fun e w' => (∃ v, e = .returned v) ∧ Lib.IsBuilder 85 5 B b (Lib.byteCells (l ++ s)) w' ∧ ChS (BdS b) w w' := by
  have CC := hide (copyChk w B b _ h)
  clear h
  go_enter Tryd.func36, Tryd.ntmps36
  go_wp2_with (go_at_call 56; refine CC.out.mono ?_)
  rintro e w1 ⟨rfl, v, C⟩
  have hlt : b < w1.heap.size := (Array.getElem?_eq_some_iff.1 C.hp).1
  have ol : w1.ownsRow B 5 1 v l.length (Lib.byteCells l) := by
    have := C.own
    rwa [show (Lib.byteCells l).length = l.length by simp [Lib.byteCells]] at this
  obtain ⟨v', w2, hap, ho2, hg2, hk2⟩ := app_str w1 B v l s ol (by have := C.size; omega) hl
  have c0 : w1.cell? ⟨b, 0, none⟩ = some (.pointer (some ⟨b, 0, none⟩)) := by rw [Lib.cell_of_heap C.hp]; rfl
  have c1 : w1.cell? ⟨b, 1, none⟩ = some v := by rw [Lib.cell_of_heap C.hp]; rfl
  have hb2 : w2.heap[b]? = some (.cells #[.pointer (some ⟨b, 0, none⟩), v] 85 (0, 0)) := by
    rw [hg2.block b hlt (fun e => C.ne e.symm)]
    exact C.hp
  have d1 : w2.cell? ⟨b, 1, none⟩ = some v := by rw [Lib.cell_of_heap hb2]; rfl
  have f1 : w2.frozen? ⟨b, 1, none⟩ = false := Lib.frozen_of_heap hb2 1
  have FIN := hide (C.done (l := l ++ s) ho2 hg2 hk2)
  obtain ⟨ao, n', cap, ev⟩ : ∃ ao n' cap, v' = .slice ao n' cap := by
    rcases ho2.2 with ⟨hv, _⟩ | ⟨g, cap, cur, hv, _⟩
    · exact ⟨_, _, _, hv⟩
    · exact ⟨_, _, _, hv⟩
  subst ev
  clear C ol ho2 hg2 hk2 hb2 CC
  have ts : (⟨⟨s⟩⟩ : ByteArray).size = s.length := rfl
  unfold tx
  go_wp2_with (at_builtin; refine Lib.wpList_append_run _ rfl _ _ 23 9 rfl _ _ rfl rfl _ _ hap ?_)
  go_ret2
  exact ⟨⟨_, rfl⟩, FIN.out⟩
end Go.Proofs.YtpbniihhpfbamaaDoor
