import Derived.Test.YtmfajpplagbfcaaGreatDoorHBxRegF
namespace Go.Proofs.YtmfajpplagbfcaaGreatDoor
set_option maxRecDepth 100000
open Go Go.RowKit
section
variable {P : Program} {ops : Array Oper} {Q : Exit → Act → World → Prop} {md : Region.Mode} {F : Nat → Fact} {a0 : Act} {w0 : World}
def FreshOk (P : Program) (md : Region.Mode) (ops : Array Oper) (Q : Exit → Act → World → Prop) (F : Nat → Fact) (a0 : Act) (w0 : World) (i : Nat) : Prop :=
  ∀ o, ops[i]? = some o → ∀ a w, Based ops a0 a → Below w0.heap.size w0 w → (∀ j d, waits md ops i j d = true → (F j).p (a.tmps.getD d undef) w) →
    ∀ K : Act → World → Prop, (∀ v w', Below w.heap.size w w' → (F i).p v w' → v = .pointer (some ⟨w.heap.size, 0, none⟩) → w.heap.size < w'.heap.size → K (a.put o.dst v) w') → o.wp P a w K Q
theorem FreshOk.step {i : Nat} (h : FreshOk P md ops Q F a0 w0 i) : StepOk P md ops Q F a0 w0 i :=
  fun o ho a w hb hw hf K hK => h o ho a w hb hw hf K (fun v w' hn hv _ _ => hK v w' hn hv)
structure Sep (i1 i2 d1 d2 : Nat) (listed : Array Bool) (a : Act) (w : World) : Prop where
  l : listed.getD i1 false = true → ∃ q, a.tmps.getD d1 undef = .pointer (some ⟨q, 0, none⟩) ∧ q < w.heap.size
  r : listed.getD i2 false = true → ∃ q, a.tmps.getD d2 undef = .pointer (some ⟨q, 0, none⟩) ∧ q < w.heap.size
  n : listed.getD i1 false = true → listed.getD i2 false = true → a.tmps.getD d1 undef ≠ a.tmps.getD d2 undef
theorem Sep.other {i1 i2 d1 d2 : Nat} {listed : Array Bool} {a : Act} {w w' : World} (h : Sep i1 i2 d1 d2 listed a w) {i : Nat} {dst : Option Tmp} {v : Value} (h1 : i ≠ i1) (h2 : i ≠ i2) (e1 : dst ≠ some d1) (e2 : dst ≠ some d2) (hw : w.heap.size ≤ w'.heap.size) : Sep i1 i2 d1 d2 (listed.setIfInBounds i true) (a.put dst v) w' := by
  refine ⟨fun g => ?_, fun g => ?_, fun g g' => ?_⟩
  · rw [getD_off h1] at g
    obtain ⟨q, hq, hl⟩ := h.l g
    exact ⟨q, by rw [put_off e1]; exact hq, by omega⟩
  · rw [getD_off h2] at g
    obtain ⟨q, hq, hl⟩ := h.r g
    exact ⟨q, by rw [put_off e2]; exact hq, by omega⟩
  · rw [getD_off h1] at g
    rw [getD_off h2] at g'
    rw [put_off e1, put_off e2]
    exact h.n g g'
theorem Sep.this {i1 i2 d1 d2 : Nat} {listed : Array Bool} {a : Act} {w w' : World} (h : Sep i1 i2 d1 d2 listed a w) {v : Value} (hne : i1 ≠ i2) (hd : d1 ≠ d2) (hs : d1 < a.tmps.size) (hv : v = .pointer (some ⟨w.heap.size, 0, none⟩)) (hw : w.heap.size < w'.heap.size) :
    Sep i1 i2 d1 d2 (listed.setIfInBounds i1 true) (a.put (some d1) v) w' := by
  have e2 : (some d1 : Option Tmp) ≠ some d2 := by simpa using hd
  refine ⟨fun _ => ⟨w.heap.size, by rw [put_at hs, hv], hw⟩, fun g => ?_, fun _ g' => ?_⟩
  · rw [getD_off hne] at g
    obtain ⟨q, hq, hl⟩ := h.r g
    exact ⟨q, by rw [put_off e2]; exact hq, by omega⟩
  · rw [getD_off hne] at g'
    obtain ⟨q, hq, hl⟩ := h.r g'
    rw [put_at hs, put_off e2, hq, hv]
    intro x
    simp only [Value.pointer.injEq, Option.some.injEq, Addr.mk.injEq, and_true] at x
    omega
theorem writes_is {i d : Nat} (h : writes ops i d = true) : ∃ o, ops[i]? = some o ∧ o.dst = some d := by
  unfold writes at h
  cases ho : ops[i]? with
  | none => rw [ho] at h; simp at h
  | some o =>
    rw [ho] at h
    exact ⟨o, rfl, by simpa using h⟩
end
end Go.Proofs.YtmfajpplagbfcaaGreatDoor
