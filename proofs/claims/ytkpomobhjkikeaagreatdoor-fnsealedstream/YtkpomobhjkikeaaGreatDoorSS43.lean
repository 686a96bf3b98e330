import Derived.Test.YtkpomobhjkikeaaGreatDoorSS28
import Derived.Test.YtkpomobhjkikeaaGreatDoorSS31
import Derived.Test.YtkpomobhjkikeaaGreatDoorSS42
import Derived.Deep.Cut
import Derived.Test.YtkpomobhjkikeaaGreatDoorSS4
import Derived.Test.YtkpomobhjkikeaaGreatDoorSS2
namespace Go.Proofs.YtkpomobhjkikeaaGreatDoor
set_option maxRecDepth 100000
open Go Go.RowKit
section
variable {P : Program} {ops : Array Oper} {Q : Exit → Act → World → Prop} {md : Region.Mode} {F : Nat → Fact} {a0 : Act} {w0 : World}
def FreshOk (P : Program) (md : Region.Mode) (ops : Array Oper) (Q : Exit → Act → World → Prop) (F : Nat → Fact) (a0 : Act) (w0 : World) (i : Nat) : Prop :=
  ∀ o, ops[i]? = some o → ∀ a w, Based ops a0 a → Below w0.heap.size w0 w → (∀ j d, waits md ops i j d = true → (F j).p (a.tmps.getD d undef) w) →
    ∀ K : Act → World → Prop, (∀ v w', Below w.heap.size w w' → (F i).p v w' → v = .pointer (some ⟨w.heap.size, 0, none⟩) → w.heap.size < w'.heap.size → K (a.put o.dst v) w') → o.wp P a w K Q
theorem FreshOk.step {i : Nat} (h : FreshOk P md ops Q F a0 w0 i) : StepOk P md ops Q F a0 w0 i :=
  fun o ho a w hb hw hf K hK => h o ho a w hb hw hf K (fun v w' hn hv _ _ => hK v w' hn hv)
structure Sep (i1 i2 d1 d2 : Nat) (listed : Array Bool) (a : Act) (w : World) : Prop where
  l : listed.getD i1 false = true → ∃ q, a.tmps.getD d1 undef = .pointer (some ⟨q, 0, none⟩) ∧ q < w.heap.size
  r : listed.getD i2 false = true → ∃ q, a.tmps.getD d2 undef = .pointer (some ⟨q, 0, none⟩) ∧ q < w.heap.size
  n : listed.getD i1 false = true → listed.getD i2 false = true → a.tmps.getD d1 undef ≠ a.tmps.getD d2 undef
theorem Sep.other {i1 i2 d1 d2 : Nat} {listed : Array Bool} {a : Act} {w w' : World} (h : Sep i1 i2 d1 d2 listed a w) {i : Nat} {dst : Option Tmp} {v : Value} (h1 : i ≠ i1) (h2 : i ≠ i2) (e1 : dst ≠ some d1) (e2 : dst ≠ some d2) (hw : w.heap.size ≤ w'.heap.size) : Sep i1 i2 d1 d2 (listed.setIfInBounds i true) (a.put dst v) w' := by
  refine ⟨fun g => ?_, fun g => ?_, fun g g' => ?_⟩
  · rw [getD_off h1] at g
    obtain ⟨q, hq, hl⟩ := h.l g
    exact ⟨q, by rw [put_off e1]; exact hq, by omega⟩
  · rw [getD_off h2] at g
    obtain ⟨q, hq, hl⟩ := h.r g
    exact ⟨q, by rw [put_off e2]; exact hq, by omega⟩
  · rw [getD_off h1] at g
    rw [getD_off h2] at g'
    rw [put_off e1, put_off e2]
    exact h.n g g'
theorem Sep.this {i1 i2 d1 d2 : Nat} {listed : Array Bool} {a : Act} {w w' : World} (h : Sep i1 i2 d1 d2 listed a w) {v : Value} (hne : i1 ≠ i2) (hd : d1 ≠ d2) (hs : d1 < a.tmps.size) (hv : v = .pointer (some ⟨w.heap.size, 0, none⟩)) (hw : w.heap.size < w'.heap.size) :
    Sep i1 i2 d1 d2 (listed.setIfInBounds i1 true) (a.put (some d1) v) w' := by
  have e2 : (some d1 : Option Tmp) ≠ some d2 := by simpa using hd
  refine ⟨fun _ => ⟨w.heap.size, by rw [put_at hs, hv], hw⟩, fun g => ?_, fun _ g' => ?_⟩
  · rw [getD_off hne] at g
    obtain ⟨q, hq, hl⟩ := h.r g
    exact ⟨q, by rw [put_off e2]; exact hq, by omega⟩
  · rw [getD_off hne] at g'
    obtain ⟨q, hq, hl⟩ := h.r g'
    rw [put_at hs, put_off e2, hq, hv]
    intro x
    simp only [Value.pointer.injEq, Option.some.injEq, Addr.mk.injEq, and_true] at x
    omega
theorem writes_is {i d : Nat} (h : writes ops i d = true) : ∃ o, ops[i]? = some o ∧ o.dst = some d := by
  unfold writes at h
  cases ho : ops[i]? with
  | none => rw [ho] at h; simp at h
  | some o =>
    rw [ho] at h
    exact ⟨o, rfl, by simpa using h⟩
end
end Go.Proofs.YtkpomobhjkikeaaGreatDoor
namespace Go.Proofs.YtkpomobhjkikeaaGreatDoor
set_option maxRecDepth 100000
open Go Go.RowKit
section
variable {P : Program} {ops : Array Oper} {Q : Exit → Act → World → Prop} {md : Region.Mode} {F : Nat → Fact} {a0 : Act} {w0 : World}
def tailWp (P : Program) (Q : Exit → Act → World → Prop) : List Oper → Act → World → Prop
  | [], a, w => Q .normal a w
  | o :: os, a, w => o.wp P a w (fun a' w' => tailWp P Q os a' w') Q
def textTail (md : Region.Mode) (draw : Bool) (ops : Array Oper) (n k : Nat) : Bool :=
  (ops.all fun o => o.guard.isNone && (match o.dst with | some d => decide (d < n) | none => true))
  && ((List.range ops.size).all fun i => match ops[i]? with
    | some o => o.after.all (fun e => !Region.binds md e || decide (e.on < i)) && (List.range i).all fun j => match ops[j]? with
      | some x => x.dst.isNone || o.dst != x.dst
      | none => true
    | none => true)
  && decide (k ≤ ops.size)
  && (!draw || k == ops.size || (List.range k).all fun j => (List.range (k + 1)).any fun m => decide (j < m) && match ops[m]? with
    | some o => o.after.any (fun e => Region.binds md e && e.on == j)
    | none => false)
  && (!draw || (List.range ops.size).all fun i => decide (i ≤ k) || match ops[i]? with
    | some o => o.after.any (fun e => Region.binds md e && e.on + 1 == i)
    | none => false)
structure TextT (md : Region.Mode) (draw : Bool) (ops : Array Oper) (n k : Nat) : Prop where
  g : ∀ (i : Nat) o, ops[i]? = some o → o.guard = none
  d : ∀ (i : Nat) o d, ops[i]? = some o → o.dst = some d → d < n
  a : ∀ (i : Nat) o, ops[i]? = some o → ∀ e ∈ o.after, Region.binds md e = true → e.on < i
  x : ∀ (i j : Nat) o o' d, ops[i]? = some o → ops[j]? = some o' → i ≠ j → o.dst = some d → o'.dst ≠ some d
  k1 : k ≤ ops.size
  c : draw = true → k < ops.size → ∀ j, j < k → ∃ (m : Nat) (o : Oper), j < m ∧ m ≤ k ∧ ops[m]? = some o ∧ ∃ e ∈ o.after, Region.binds md e = true ∧ e.on = j
  l : draw = true → ∀ i o, k < i → ops[i]? = some o → ∃ e ∈ o.after, Region.binds md e = true ∧ e.on + 1 = i
theorem textT_of {n k : Nat} {draw : Bool} (h : textTail md draw ops n k = true) : TextT md draw ops n k := by
  unfold textTail at h
  simp only [Bool.and_eq_true, decide_eq_true_eq] at h
  obtain ⟨⟨⟨⟨h1, h2⟩, h3⟩, h4⟩, h5⟩ := h
  rw [Array.all_eq_true_iff_forall_mem] at h1
  rw [List.all_eq_true] at h2
  have H : ∀ (i j : Nat) o o' d, j < i → ops[i]? = some o → ops[j]? = some o' → o.dst = some d → o'.dst ≠ some d := by
    intro i j o o' d hij hi hj hd hd'
    have q := h2 i (List.mem_range.2 (Array.getElem?_eq_some_iff.1 hi).1)
    simp only [hi, Bool.and_eq_true] at q
    have r := List.all_eq_true.1 q.2 j (List.mem_range.2 hij)
    simp only [hj, hd, hd'] at r
    simp at r
  refine ⟨?_, ?_, ?_, ?_, h3, ?_, ?_⟩
  · intro i o ho
    have q := h1 o (Array.mem_of_getElem? ho)
    simp only [Bool.and_eq_true] at q
    exact Option.isNone_iff_eq_none.1 q.1
  · intro i o d ho hd
    have q := h1 o (Array.mem_of_getElem? ho)
    simp only [Bool.and_eq_true, hd, decide_eq_true_eq] at q
    exact q.2
  · intro i o ho e he hb
    have q := h2 i (List.mem_range.2 (Array.getElem?_eq_some_iff.1 ho).1)
    simp only [ho, Bool.and_eq_true] at q
    have r := (Array.all_eq_true_iff_forall_mem.1 q.1) e he
    rw [hb] at r
    simpa using r
  · intro i j o o' d hi hj hij hd hd'
    rcases Nat.lt_or_gt_of_ne hij with h | h
    · exact H j i o' o d h hj hi hd' hd
    · exact H i j o o' d h hi hj hd hd'
  · intro hdr hk j hj
    rw [hdr] at h4
    have h4' : ((List.range k).all fun j => (List.range (k + 1)).any fun m => decide (j < m) && match ops[m]? with
      | some o => o.after.any (fun e => Region.binds md e && e.on == j)
      | none => false) = true := by
      simp only [Bool.not_true, Bool.false_or, Bool.or_eq_true] at h4
      rcases h4 with e | e
      · have : k = ops.size := by simpa using e
        omega
      · exact e
    have q := List.all_eq_true.1 h4' j (List.mem_range.2 hj)
    obtain ⟨m, hm, r⟩ := List.any_eq_true.1 q
    simp only [Bool.and_eq_true, decide_eq_true_eq] at r
    cases ho : ops[m]? with
    | none => rw [ho] at r; simp at r
    | some o =>
      rw [ho] at r
      obtain ⟨e, he, hb⟩ := Array.any_eq_true'.1 r.2
      simp only [Bool.and_eq_true, beq_iff_eq] at hb
      exact ⟨m, o, r.1, by have := List.mem_range.1 hm; omega, ho, e, he, hb.1, hb.2⟩
  · intro hdr i o hki ho
    rw [hdr] at h5
    simp only [Bool.not_true, Bool.false_or] at h5
    rw [List.all_eq_true] at h5
    have q := h5 i (List.mem_range.2 (Array.getElem?_eq_some_iff.1 ho).1)
    rw [ho] at q
    simp only [Bool.or_eq_true] at q
    rcases q with e | e
    · have : i ≤ k := by simpa using e
      omega
    · obtain ⟨e, he, hb⟩ := Array.any_eq_true'.1 e
      simp only [Bool.and_eq_true, beq_iff_eq] at hb
      exact ⟨e, he, hb.1, hb.2⟩
theorem Held.nextT {n k : Nat} {draw : Bool} (T : TextT md draw ops n k) (hn : n ≤ a0.tmps.size) {listed : Array Bool} {a : Act} {w : World} (H : Held md ops F a0 w0 listed a w) {i : Nat} {o : Oper} (ho : ops[i]? = some o) (hr : i ∈ Region.ready md ops listed)
    {v : Value} {w' : World} (hw : Below w.heap.size w w') (hf : (F i).p v w') : Held md ops F a0 w0 (listed.setIfInBounds i true) (a.put o.dst v) w' := by
  have hi : i < ops.size := (Array.getElem?_eq_some_iff.1 ho).1
  have hz : a.tmps.size = a0.tmps.size := H.b.2.1
  refine ⟨⟨by rw [put_defers]; exact H.b.1, by rw [put_size]; exact hz, fun d hd => ?_⟩, nxt H.n hw, ?_, ?_, by simp [H.s]⟩
  · rw [put_off]
    · exact H.b.2.2 d hd
    · have q := Array.all_eq_true_iff_forall_mem.1 hd o (Array.mem_of_getElem? ho)
      simpa using q
  · intro j oj d hoj hj hd
    by_cases e : i = j
    · subst e
      obtain rfl := Option.some.inj (ho.symm.trans hoj)
      rw [hd, put_at (Nat.lt_of_lt_of_le (T.d i o d ho hd) (hz ▸ hn))]
      exact hf
    · rw [getD_off e] at hj
      rw [put_off (T.x j i oj o d hoj ho (Ne.symm e) hd)]
      exact (F j).up hw (H.f j oj d hoj hj hd)
  · intro j oj hoj hj e he hb
    obtain ⟨_, o', ho', q⟩ := mem_ready.1 hr
    by_cases c : i = e.on
    · rw [← c]
      exact getD_same (by rw [H.s]; exact hi) _
    · rw [getD_off c]
      by_cases e' : i = j
      · subst e'
        obtain rfl := Option.some.inj (ho'.symm.trans hoj)
        exact q e he hb
      · rw [getD_off e'] at hj
        exact H.c j oj hoj hj e he hb
theorem tail_any {n k : Nat} (T : TextT md true ops n k) : ∀ (m t fuel : Nat) (listed : Array Bool) (a : Act) (w : World), t + m = ops.size → k ≤ t → listed.size = ops.size → (∀ j, j < t → listed.getD j false = true) → (∀ j, t ≤ j → listed.getD j false = false) → m ≤ fuel →
    tailWp P Q (ops.toList.drop t) a w → wpAny P md ops Q fuel listed a w := by
  intro m
  induction m with
  | zero =>
    intro t fuel listed a w ht hk hs h1 h2 hf hq
    obtain rfl : t = ops.size := by omega
    have e : ops.toList.drop ops.size = [] := by simp
    rw [e] at hq
    refine wpAny_done ?_ hq fuel
    cases hr : Region.ready md ops listed with
    | nil => rfl
    | cons i tl =>
      exfalso
      have hi : i ∈ Region.ready md ops listed := by rw [hr]; simp
      obtain ⟨h0, o, ho, _⟩ := mem_ready.1 hi
      have hlt := (Array.getElem?_eq_some_iff.1 ho).1
      rw [dflt (by rw [hs]; exact hlt), h1 i hlt] at h0
      simp at h0
  | succ m ih =>
    intro t fuel listed a w ht hk hs h1 h2 hf hq
    have hlt : t < ops.size := by omega
    obtain ⟨o, ho⟩ : ∃ o, ops[t]? = some o := ⟨ops[t], by simp [hlt]⟩
    have e : ops.toList.drop t = o :: ops.toList.drop (t + 1) := by
      rw [List.drop_eq_getElem_cons (by simpa using hlt)]
      congr 1
      have := (Array.getElem?_eq_some_iff.1 ho).2
      simpa using this
    rw [e] at hq
    obtain ⟨f2, rfl⟩ : ∃ f2, fuel = f2 + 1 := ⟨fuel - 1, by omega⟩
    refine ⟨fun hr => ?_, fun i hi => ?_⟩
    · exfalso
      have hr' : t ∈ Region.ready md ops listed := mem_ready.2 ⟨by rw [dflt (by rw [hs]; exact hlt)]; exact h2 t (Nat.le_refl _), o, ho, fun e he hb => h1 e.on (T.a t o ho e he hb)⟩
      rw [hr] at hr'
      simp at hr'
    · obtain ⟨h0, oi, hoi, hall⟩ := mem_ready.1 hi
      have hil := (Array.getElem?_eq_some_iff.1 hoi).1
      rw [dflt (by rw [hs]; exact hil)] at h0
      have hti : i = t := by
        rcases Nat.lt_trichotomy i t with c | c | c
        · rw [h1 i c] at h0; simp at h0
        · exact c
        · exfalso
          obtain ⟨e, he, hb, hq'⟩ := T.l rfl i oi (by omega) hoi
          have := hall e he hb
          rw [h2 e.on (by omega)] at this
          simp at this
      subst hti
      obtain rfl := Option.some.inj (ho.symm.trans hoi)
      have hwant : Region.wanted o (yielded ops a.tmps) = true := by simp [Region.wanted, T.g i o ho]
      refine wpOp_step ho fun K' hK => ?_
      rw [if_pos hwant]
      refine Oper.wp_mono (fun a' w' h => hK _ _ (ih (i + 1) f2 (listed.setIfInBounds i true) a' w' (by omega) (by omega) (by simp [hs]) (fun j hj => ?_) (fun j hj => ?_) (by omega) h)) hq
      · by_cases c : i = j
        · subst c
          exact getD_same (by rw [hs]; exact hlt) _
        · rw [getD_off c]
          exact h1 j (by omega)
      · rw [getD_off (by omega)]
        exact h2 j (by omega)
def blkOf : Value → Option Nat
  | .pointer (some a) => some a.block
  | .slice (some a) _ _ => some a.block
  | _ => none
def FreshG (P : Program) (md : Region.Mode) (ops : Array Oper) (Q : Exit → Act → World → Prop) (F : Nat → Fact) (a0 : Act) (w0 : World) (i : Nat) : Prop :=
  ∀ o, ops[i]? = some o → ∀ a w, Based ops a0 a → Below w0.heap.size w0 w → (∀ j d, waits md ops i j d = true → (F j).p (a.tmps.getD d undef) w) →
    ∀ K : Act → World → Prop, (∀ v w', Below w.heap.size w w' → (F i).p v w' → (∃ b, blkOf v = some b ∧ w.heap.size ≤ b ∧ b < w'.heap.size) → K (a.put o.dst v) w') → o.wp P a w K Q
theorem FreshOk.g {i : Nat} (h : FreshOk P md ops Q F a0 w0 i) : FreshG P md ops Q F a0 w0 i :=
  fun o ho a w hb hw hf K hK => h o ho a w hb hw hf K (fun v w' hn hv e hz => hK v w' hn hv ⟨w.heap.size, by rw [e]; rfl, Nat.le_refl _, hz⟩)
theorem FreshG.step {i : Nat} (h : FreshG P md ops Q F a0 w0 i) : StepOk P md ops Q F a0 w0 i :=
  fun o ho a w hb hw hf K hK => h o ho a w hb hw hf K (fun v w' hn hv _ => hK v w' hn hv)
structure SepL (fr : List (Nat × Nat)) (listed : Array Bool) (a : Act) (w : World) : Prop where
  l : ∀ p ∈ fr, listed.getD p.1 false = true → ∃ q, blkOf (a.tmps.getD p.2 undef) = some q ∧ q < w.heap.size
  n : ∀ p ∈ fr, ∀ p' ∈ fr, p ≠ p' → listed.getD p.1 false = true → listed.getD p'.1 false = true → blkOf (a.tmps.getD p.2 undef) ≠ blkOf (a.tmps.getD p'.2 undef)
theorem SepL.other {fr : List (Nat × Nat)} {listed : Array Bool} {a : Act} {w w' : World} (h : SepL fr listed a w) {i : Nat} {dst : Option Tmp} {v : Value} (h1 : ∀ p ∈ fr, i ≠ p.1) (e1 : ∀ p ∈ fr, dst ≠ some p.2) (hw : w.heap.size ≤ w'.heap.size) : SepL fr (listed.setIfInBounds i true) (a.put dst v) w' := by
  refine ⟨fun p hp g => ?_, fun p hp p' hp' hne g g' => ?_⟩
  · rw [getD_off (h1 p hp)] at g
    obtain ⟨q, hq, hl⟩ := h.l p hp g
    exact ⟨q, by rw [put_off (e1 p hp)]; exact hq, by omega⟩
  · rw [getD_off (h1 p hp)] at g
    rw [getD_off (h1 p' hp')] at g'
    rw [put_off (e1 p hp), put_off (e1 p' hp')]
    exact h.n p hp p' hp' hne g g'
theorem SepL.this {fr : List (Nat × Nat)} {listed : Array Bool} {a : Act} {w w' : World} (h : SepL fr listed a w) {v : Value} {i d : Nat} (hi : ∀ p ∈ fr, p ≠ (i, d) → i ≠ p.1 ∧ d ≠ p.2) (hs : d < a.tmps.size) (hv : ∃ b, blkOf v = some b ∧ w.heap.size ≤ b ∧ b < w'.heap.size) :
    SepL fr (listed.setIfInBounds i true) (a.put (some d) v) w' := by
  obtain ⟨b, hb, hb1, hb2⟩ := hv
  have old : ∀ p ∈ fr, p ≠ (i, d) → (listed.setIfInBounds i true).getD p.1 false = true → ∃ q, blkOf ((a.put (some d) v).tmps.getD p.2 undef) = some q ∧ q < w.heap.size := by
    intro p hp c g
    obtain ⟨c1, c2⟩ := hi p hp c
    rw [getD_off c1] at g
    obtain ⟨q, hq, hl⟩ := h.l p hp g
    exact ⟨q, by rw [put_off (by simpa using c2)]; exact hq, hl⟩
  have new : blkOf ((a.put (some d) v).tmps.getD d undef) = some b := by rw [put_at hs, hb]
  have ne : ∀ q, q < w.heap.size → (some q : Option Nat) ≠ some b := by
    intro q hq x
    simp only [Option.some.injEq] at x
    omega
  refine ⟨fun p hp g => ?_, fun p hp p' hp' hne g g' => ?_⟩
  · by_cases c : p = (i, d)
    · subst c
      exact ⟨b, new, hb2⟩
    · obtain ⟨q, hq, hl⟩ := old p hp c g
      exact ⟨q, hq, by omega⟩
  · by_cases c : p = (i, d)
    · subst c
      obtain ⟨q, hq, hl⟩ := old p' hp' (Ne.symm hne) g'
      show blkOf ((a.put (some d) v).tmps.getD d undef) ≠ _
      rw [new, hq]
      exact (ne q hl).symm
    · obtain ⟨q, hq, hl⟩ := old p hp c g
      by_cases c' : p' = (i, d)
      · subst c'
        show _ ≠ blkOf ((a.put (some d) v).tmps.getD d undef)
        rw [new, hq]
        exact ne q hl
      · obtain ⟨c1, c2⟩ := hi p hp c
        obtain ⟨c1', c2'⟩ := hi p' hp' c'
        rw [getD_off c1] at g
        rw [getD_off c1'] at g'
        rw [put_off (by simpa using c2), put_off (by simpa using c2')]
        exact h.n p hp p' hp' hne g g'
abbrev HeadDone (P : Program) (ops : Array Oper) (Q : Exit → Act → World → Prop) (F : Nat → Fact) (a0 : Act) (w0 : World) (k : Nat) (fr : List (Nat × Nat)) : Prop :=
  ∀ a w, Based ops a0 a → Below w0.heap.size w0 w → (∀ i o d, i < k → ops[i]? = some o → o.dst = some d → (F i).p (a.tmps.getD d undef) w) → (∀ p ∈ fr, ∀ p' ∈ fr, p ≠ p' → blkOf (a.tmps.getD p.2 undef) ≠ blkOf (a.tmps.getD p'.2 undef)) → tailWp P Q (ops.toList.drop k) a w
theorem any_tail {n k : Nat} (T : TextT md true ops n k) (hn : n ≤ a0.tmps.size) (steps : ∀ i, i < k → StepOk P md ops Q F a0 w0 i) (fr : List (Nat × Nat)) (hfr : ∀ p ∈ fr, p.1 < k ∧ writes ops p.1 p.2 = true ∧ FreshG P md ops Q F a0 w0 p.1) (hnd : ∀ p ∈ fr, ∀ p' ∈ fr, p ≠ p' → p.1 ≠ p'.1)
    (fin : HeadDone P ops Q F a0 w0 k fr) :
    ∀ (fuel : Nat) (listed : Array Bool) (a : Act) (w : World), left listed ops.size ≤ fuel → Held md ops F a0 w0 listed a w → SepL fr listed a w → (∀ j, k ≤ j → listed.getD j false = false) → ops.size - k ≤ fuel → wpAny P md ops Q fuel listed a w := by
  intro fuel
  induction fuel with
  | zero =>
    intro listed a w hl H S hk hf
    have hks : k = ops.size := by have := T.k1; omega
    have hall : ∀ i, i < ops.size → listed.getD i false = true := fun i hi => by
      rw [← dflt (by rw [H.s]; exact hi)]
      exact left_zero (n := ops.size) (by omega) i hi
    exact tail_any T 0 ops.size 0 listed a w (by omega) (by omega) H.s (fun j hj => hall j hj) (fun j hj => hk j (by omega)) (Nat.le_refl _) (hks ▸ fin a w H.b H.n (fun i o d hi ho hd => H.f i o d ho (hall i (by omega)) hd) (fun p hp p' hp' hne => S.n p hp p' hp' hne (hall p.1 (by have := (hfr p hp).1; omega)) (hall p'.1 (by have := (hfr p' hp').1; omega))))
  | succ fuel ih =>
    intro listed a w hl H S hk hf
    by_cases hall : ∀ j, j < k → listed.getD j false = true
    · exact tail_any T (ops.size - k) k (fuel + 1) listed a w (by have := T.k1; omega) (Nat.le_refl _) H.s hall hk hf (fin a w H.b H.n (fun i o d hi ho hd => H.f i o d ho (hall i hi) hd) (fun p hp p' hp' hne => S.n p hp p' hp' hne (hall p.1 (hfr p hp).1) (hall p'.1 (hfr p' hp').1)))
    · refine ⟨fun hr => ?_, fun i hi => ?_⟩
      · exfalso
        refine hall fun j hj => ?_
        have : ∀ m i, i < m → i < k → listed.getD i false = true := by
          intro m
          induction m with
          | zero => intro i hi; omega
          | succ m ihm =>
            intro i hi hik
            rcases Nat.lt_or_ge i m with h1 | h1
            · exact ihm i h1 hik
            · obtain rfl : i = m := by omega
              cases hc : listed.getD i false
              · exfalso
                have hks : i < ops.size := by have := T.k1; omega
                obtain ⟨o, ho⟩ : ∃ o, ops[i]? = some o := ⟨ops[i], by simp [hks]⟩
                have hr' : i ∈ Region.ready md ops listed := mem_ready.2 ⟨by rw [dflt (by rw [H.s]; omega)]; exact hc, o, ho, fun e he hb => ihm e.on (T.a i o ho e he hb) (by have := T.a i o ho e he hb; omega)⟩
                rw [hr] at hr'
                simp at hr'
              · rfl
        exact this (j + 1) j (by omega) hj
      · obtain ⟨h0, o, ho, hready⟩ := mem_ready.1 hi
        have hlt := (Array.getElem?_eq_some_iff.1 ho).1
        have hik : i < k := by
          rcases Nat.lt_or_ge i k with h1 | h1
          · exact h1
          · exfalso
            rcases Nat.lt_or_ge k i with h2 | h2
            · obtain ⟨e, he, hb, hq⟩ := T.l rfl i o h2 ho
              have := hready e he hb
              rw [hk e.on (by omega)] at this
              simp at this
            · obtain rfl : i = k := by omega
              refine hall fun j hj => ?_
              have ah : ∀ m j, i - j ≤ m → j < i → listed.getD j false = true := by
                intro m
                induction m with
                | zero => intro j hm hj; omega
                | succ m ihm =>
                  intro j hm hj
                  obtain ⟨p, oo, hjp, hpk, hoo, e, he, hb, rfl⟩ := T.c rfl hlt j hj
                  rcases Nat.lt_or_ge p i with h1 | h1
                  · exact H.c p oo hoo (ihm p (by omega) h1) e he hb
                  · obtain rfl : p = i := by omega
                    obtain rfl := Option.some.inj (ho.symm.trans hoo)
                    exact hready e he hb
              exact ah (i - j) j (Nat.le_refl _) hj
        have hwant : Region.wanted o (yielded ops a.tmps) = true := by simp [Region.wanted, T.g i o ho]
        refine wpOp_step ho fun K' hK => ?_
        rw [if_pos hwant]
        have hll := left_set (by rw [H.s]; exact hlt) h0 ops.size hlt
        have hfacts : ∀ j d, waits md ops i j d = true → (F j).p (a.tmps.getD d undef) w := by
          intro j d hjd
          unfold waits at hjd
          rw [ho] at hjd
          cases hoj : ops[j]? with
          | none => rw [hoj] at hjd; simp at hjd
          | some oj =>
            rw [hoj] at hjd
            simp only [Bool.and_eq_true, beq_iff_eq] at hjd
            obtain ⟨e, he, hb⟩ := Array.any_eq_true'.1 hjd.1
            simp only [Bool.and_eq_true, beq_iff_eq] at hb
            exact H.f j oj d hoj (by rw [← hb.2]; exact hready e he hb.1) hjd.2
        have htail : ops.size - k ≤ fuel := by
          -- k and all behind it are still to come, and i besides
          have lk : ∀ m, m ≤ ops.size → k ≤ m → (m - k) + left listed k ≤ left listed m := by
            intro m
            induction m with
            | zero => intro _ hk0; have : k = 0 := by omega
                      subst this; simp
            | succ m ihm =>
              intro hm hkm
              rcases Nat.lt_or_ge m k with c | c
              · have : k = m + 1 := by omega
                subst this
                omega
              · have q := ihm (by omega) c
                rw [left, if_pos (by rw [dflt (by rw [H.s]; omega)]; exact hk m c)]
                omega
          have l1 : 1 ≤ left listed k := by
            have := left_set (by rw [H.s]; exact hlt) h0 k hik
            omega
          have := lk ops.size (Nat.le_refl _) T.k1
          omega
        have go : ∀ v w', Below w.heap.size w w' → (F i).p v w' → SepL fr (listed.setIfInBounds i true) (a.put o.dst v) w' → K' (a.put o.dst v) w' := by
          intro v w' hw hf' hS
          refine hK _ _ (ih _ _ _ (by omega) (H.nextT T hn ho hi hw hf') hS (fun j hj => ?_) htail)
          rw [getD_off (by omega)]
          exact hk j hj
        by_cases c : ∃ p ∈ fr, i = p.1
        · obtain ⟨p, hp, rfl⟩ := c
          obtain ⟨_, hw', f⟩ := hfr p hp
          obtain ⟨op, hop, hdp⟩ := writes_is hw'
          obtain rfl := Option.some.inj (hop.symm.trans ho)
          refine f op ho a w H.b H.n hfacts K' fun v w' hw hf' hv => go v w' hw hf' ?_
          rw [hdp]
          refine S.this (i := p.1) (d := p.2) (fun p' hp' hne => ?_) (by rw [H.b.2.1]; exact Nat.lt_of_lt_of_le (T.d p.1 op p.2 hop hdp) hn) hv
          have n1 := hnd p hp p' hp' (Ne.symm hne)
          obtain ⟨o', ho', hd'⟩ := writes_is (hfr p' hp').2.1
          exact ⟨n1, fun e => T.x p.1 p'.1 op o' p.2 hop ho' n1 hdp (by rw [e]; exact hd')⟩
        · refine steps i hik o ho a w H.b H.n hfacts K' fun v w' hw hf' => go v w' hw hf' ?_
          refine S.other (fun p hp e => c ⟨p, hp, e⟩) (fun p hp e => ?_) hw.size
          obtain ⟨o', ho', hd'⟩ := writes_is (hfr p hp).2.1
          exact T.x i p.1 o o' p.2 ho ho' (fun x => c ⟨p, hp, x⟩) e hd'
theorem tail_line {n k : Nat} {draw : Bool} (T : TextT md draw ops n k) : ∀ (m t : Nat) (a : Act) (w : World), t + m = ops.size → k ≤ t → tailWp P Q (ops.toList.drop t) a w → wpOps P ops Q (List.range' t m) a w := by
  intro m
  induction m with
  | zero =>
    intro t a w ht hk hq
    obtain rfl : t = ops.size := by omega
    have e : ops.toList.drop ops.size = [] := by simp
    rw [e] at hq
    exact hq
  | succ m ih =>
    intro t a w ht hk hq
    have hlt : t < ops.size := by omega
    obtain ⟨o, ho⟩ : ∃ o, ops[t]? = some o := ⟨ops[t], by simp [hlt]⟩
    have e : ops.toList.drop t = o :: ops.toList.drop (t + 1) := by
      rw [List.drop_eq_getElem_cons (by simpa using hlt)]
      congr 1
      have := (Array.getElem?_eq_some_iff.1 ho).2
      simpa using this
    rw [e] at hq
    have hwant : Region.wanted o (yielded ops a.tmps) = true := by simp [Region.wanted, T.g t o ho]
    rw [List.range'_succ, wpOps_cons]
    refine wpOp_step ho fun K' hK => ?_
    rw [if_pos hwant]
    exact Oper.wp_mono (fun a' w' h => hK _ _ (ih (t + 1) a' w' (by omega) (by omega) h)) hq
theorem line_tail {n k : Nat} {draw : Bool} (T : TextT md draw ops n k) (hn : n ≤ a0.tmps.size) (steps : ∀ i, i < k → StepOk P md ops Q F a0 w0 i) (fr : List (Nat × Nat)) (hfr : ∀ p ∈ fr, p.1 < k ∧ writes ops p.1 p.2 = true ∧ FreshG P md ops Q F a0 w0 p.1) (hnd : ∀ p ∈ fr, ∀ p' ∈ fr, p ≠ p' → p.1 ≠ p'.1)
    (fin : HeadDone P ops Q F a0 w0 k fr) :
    ∀ (m i : Nat) (listed : Array Bool) (a : Act) (w : World), i + m = ops.size → i ≤ k → Based ops a0 a → Below w0.heap.size w0 w → (∀ j o d, j < i → ops[j]? = some o → o.dst = some d → (F j).p (a.tmps.getD d undef) w) → listed.size = ops.size → (∀ j, j < i → listed.getD j false = true) → SepL fr listed a w →
      wpOps P ops Q (List.range' i m) a w := by
  intro m
  induction m with
  | zero =>
    intro i listed a w him hik hb hw hf hs hl S
    obtain rfl : i = k := by have := T.k1; omega
    exact tail_line T 0 i a w (by omega) (Nat.le_refl _) (fin a w hb hw hf (fun p hp p' hp' hne => S.n p hp p' hp' hne (hl p.1 (hfr p hp).1) (hl p'.1 (hfr p' hp').1)))
  | succ m ih =>
    intro i listed a w him hik hb hw hf hs hl S
    have hlt : i < ops.size := by omega
    obtain ⟨o, ho⟩ : ∃ o, ops[i]? = some o := ⟨ops[i], by simp [hlt]⟩
    rcases Nat.lt_or_ge i k with h1 | h1
    · have hwant : Region.wanted o (yielded ops a.tmps) = true := by simp [Region.wanted, T.g i o ho]
      rw [List.range'_succ, wpOps_cons]
      refine wpOp_step ho fun K' hK => ?_
      rw [if_pos hwant]
      have hfacts : ∀ j d, waits md ops i j d = true → (F j).p (a.tmps.getD d undef) w := by
        intro j d hjd
        unfold waits at hjd
        rw [ho] at hjd
        cases hoj : ops[j]? with
        | none => rw [hoj] at hjd; simp at hjd
        | some oj =>
          rw [hoj] at hjd
          simp only [Bool.and_eq_true, beq_iff_eq] at hjd
          obtain ⟨e, he, hb⟩ := Array.any_eq_true'.1 hjd.1
          simp only [Bool.and_eq_true, beq_iff_eq] at hb
          exact hf j oj d (by rw [← hb.2]; exact T.a i o ho e he hb.1) hoj hjd.2
      have go : ∀ v w', Below w.heap.size w w' → (F i).p v w' → SepL fr (listed.setIfInBounds i true) (a.put o.dst v) w' → K' (a.put o.dst v) w' := by
        intro v w' hw' hfv hS
        refine hK _ _ (ih (i + 1) (listed.setIfInBounds i true) _ _ (by omega) (by omega) ⟨by rw [put_defers]; exact hb.1, by rw [put_size]; exact hb.2.1, fun d hd => ?_⟩ (nxt hw hw') ?_ (by simp [hs]) (fun j hj => ?_) hS)
        · rw [put_off]
          · exact hb.2.2 d hd
          · have q := Array.all_eq_true_iff_forall_mem.1 hd o (Array.mem_of_getElem? ho)
            simpa using q
        · intro j oj d hj hoj hd
          by_cases e : i = j
          · subst e
            obtain rfl := Option.some.inj (ho.symm.trans hoj)
            rw [hd, put_at (Nat.lt_of_lt_of_le (T.d i o d ho hd) (hb.2.1 ▸ hn))]
            exact hfv
          · rw [put_off (T.x j i oj o d hoj ho (Ne.symm e) hd)]
            exact (F j).up hw' (hf j oj d (by omega) hoj hd)
        · by_cases c : i = j
          · subst c
            exact getD_same (by rw [hs]; exact hlt) _
          · rw [getD_off c]
            exact hl j (by omega)
      by_cases c : ∃ p ∈ fr, i = p.1
      · obtain ⟨p, hp, rfl⟩ := c
        obtain ⟨_, hw', f⟩ := hfr p hp
        obtain ⟨op, hop, hdp⟩ := writes_is hw'
        obtain rfl := Option.some.inj (hop.symm.trans ho)
        refine f op ho a w hb hw hfacts K' fun v w' hw' hf' hv => go v w' hw' hf' ?_
        rw [hdp]
        refine S.this (i := p.1) (d := p.2) (fun p' hp' hne => ?_) (by rw [hb.2.1]; exact Nat.lt_of_lt_of_le (T.d p.1 op p.2 hop hdp) hn) hv
        have n1 := hnd p hp p' hp' (Ne.symm hne)
        obtain ⟨o', ho', hd'⟩ := writes_is (hfr p' hp').2.1
        exact ⟨n1, fun e => T.x p.1 p'.1 op o' p.2 hop ho' n1 hdp (by rw [e]; exact hd')⟩
      · refine steps i h1 o ho a w hb hw hfacts K' fun v w' hw' hf' => go v w' hw' hf' ?_
        refine S.other (fun p hp e => c ⟨p, hp, e⟩) (fun p hp e => ?_) hw'.size
        obtain ⟨o', ho', hd'⟩ := writes_is (hfr p hp).2.1
        exact T.x i p.1 o o' p.2 ho ho' (fun x => c ⟨p, hp, x⟩) e hd'
    · obtain rfl : i = k := by omega
      exact tail_line T (m + 1) i a w him (Nat.le_refl _) (fin a w hb hw hf (fun p hp p' hp' hne => S.n p hp p' hp' hne (hl p.1 (hfr p hp).1) (hl p'.1 (hfr p' hp').1)))
theorem region_tail {id : Nat} {w : World} {draw : Bool} (k : Nat) (F : Nat → Fact) (hm : P.follows .mixedOrders = true) (hT : textTail .any draw ops a0.tmps.size k = true) (steps : ∀ i, i < k → StepOk P .any ops Q F a0 w i)
    (fr : List (Nat × Nat)) (hfr : ∀ p ∈ fr, p.1 < k ∧ writes ops p.1 p.2 = true ∧ FreshG P .any ops Q F a0 w p.1) (hnd : ∀ p ∈ fr, ∀ p' ∈ fr, p ≠ p' → p.1 ≠ p'.1)
    (fin : ∀ a w', Based ops a0 a → Below w.heap.size w w' → (∀ i d, decide (i < k) = true → writes ops i d = true → (F i).p (a.tmps.getD d undef) w') → (∀ p ∈ fr, ∀ p' ∈ fr, p ≠ p' → blkOf (a.tmps.getD p.2 undef) ≠ blkOf (a.tmps.getD p'.2 undef)) → tailWp P Q (ops.toList.drop k) a w') : (Code.region id ops draw).wp P Q a0 w := by
  have T := textT_of hT
  have fin' : HeadDone P ops Q F a0 w k fr := fun a w' hb hw hf hne => fin a w' hb hw (fun i d hi hd => by
    obtain ⟨o, ho, hd'⟩ := writes_is hd
    exact hf i o d (of_decide_eq_true hi) ho hd') hne
  have z : ∀ j, (Array.replicate ops.size false).getD j false = false := fun j => by
    rw [Array.getD_eq_getD_getElem?, Array.getElem?_replicate]
    split <;> rfl
  have S0 : ∀ w', SepL fr (Array.replicate ops.size false) a0 w' := fun w' => ⟨fun p hp g => by rw [z] at g; simp at g, fun p hp p' hp' hne g g' => by rw [z] at g; simp at g⟩
  cases draw with
  | false =>
    refine wp_region ?_
    have h := line_tail (w0 := w) T (Nat.le_refl _) steps fr hfr hnd fin' ops.size 0 (Array.replicate ops.size false) a0 w (by omega) (by omega) ⟨rfl, rfl, fun _ _ => rfl⟩ (Below.refl _ _) (fun j o d hj => by omega) (by simp) (fun j hj => by omega) (S0 w)
    rw [List.range_eq_range']
    exact h
  | true =>
    refine wp_region_any hm ?_
    refine any_tail (w0 := w) T (Nat.le_refl _) steps fr hfr hnd fin' ops.size _ a0 _ ?_ ⟨⟨rfl, rfl, fun _ _ => rfl⟩, (Below.refl _ _).drew, ?_, ?_, by simp⟩ (S0 _) (fun j _ => z j) (by omega)
    · have : ∀ m, left (Array.replicate ops.size false) m ≤ m := by
        intro m
        induction m with
        | zero => exact Nat.le_refl _
        | succ m ih => unfold left; split <;> omega
      exact this _
    · intro i o d ho hl _
      rw [z] at hl
      simp at hl
    · intro i o ho hl
      rw [z] at hl
      simp at hl
theorem puts_tail {n k : Nat} {draw : Bool} (hT : textTail md draw ops n k = true) (hn : n = a0.tmps.size) {a : Act} (hb : Based ops a0 a) (vs : Nat → Value) (hv : ∀ d, a.tmps.getD d undef = vs d) : a = puts vs a0 ops.toList := by
  have T := textT_of hT
  have hin : ∀ o ∈ ops.toList, ∀ e, o.dst = some e → e < a0.tmps.size := fun o ho e he => by
    obtain ⟨i, hi⟩ := List.getElem?_of_mem ho
    have := T.d i o e (by simpa using hi) he
    rw [hn] at this
    exact this
  obtain ⟨s1, s2⟩ := puts_size vs ops.toList a0
  obtain ⟨ta, da⟩ := a
  obtain ⟨h1, h2, h3⟩ := hb
  have e1 : ta = (puts vs a0 ops.toList).tmps := by
    apply Array.ext
    · rw [s1]; exact h2
    · intro i hi hi'
      have g := puts_get vs i ops.toList a0 hin
      have l : ta[i] = ta.getD i undef := by simp [Array.getD_eq_getD_getElem?, hi]
      have r : (puts vs a0 ops.toList).tmps[i] = (puts vs a0 ops.toList).tmps.getD i undef := by simp only [Array.getD_eq_getD_getElem?, Array.getElem?_eq_getElem hi', Option.getD_some]
      rw [l, r, g]
      by_cases c : ops.toList.any (fun o => o.dst == some i) = true
      · rw [if_pos c]; exact hv i
      · rw [if_neg c]
        refine h3 i ?_
        unfold apart
        rw [Array.all_eq_true_iff_forall_mem]
        intro o ho
        have hne : ¬ (o.dst == some i) = true := fun x => c (List.any_eq_true.2 ⟨o, by simpa using ho, x⟩)
        simpa using hne
  have e2 : da = (puts vs a0 ops.toList).defers := h1.trans s2.symm
  subst e1
  subst e2
  rfl
theorem Based.put {a : Act} (hb : Based ops a0 a) {o : Oper} {i : Nat} (ho : ops[i]? = some o) (v : Value) : Based ops a0 (a.put o.dst v) := by
  refine ⟨by rw [put_defers]; exact hb.1, by rw [put_size]; exact hb.2.1, fun d hd => ?_⟩
  rw [put_off]
  · exact hb.2.2 d hd
  · have q := Array.all_eq_true_iff_forall_mem.1 hd o (Array.mem_of_getElem? ho)
    simpa using q
end
end Go.Proofs.YtkpomobhjkikeaaGreatDoor
namespace Go.Proofs.YtkpomobhjkikeaaGreatDoor
set_option maxRecDepth 100000
open Go Go.RowKit
def NBt (b : Nat) (t : TypeId) (zs : List Value) : Fact := ⟨fun v w => ∃ q, v = .pointer (some ⟨q, 0, none⟩) ∧ b ≤ q ∧ RwC w q zs t, fun n h => by
  obtain ⟨q, e, l, r⟩ := h
  exact ⟨q, e, l, r.up n⟩⟩
theorem RowB.onlyT {w w' : World} {base q : Nat} {v : Value} {xs : List Int} {zs : List Value} {t : TypeId} (h : RowB w base v xs) (O : Only q w w') (hq : RwC w q zs t) (ht : t ≠ 5) : RowB w' base v xs := by
  refine ⟨h.1, ?_⟩
  rcases h.2 with h' | ⟨g, cap, cur, rfl, hbg, hg, hnc, hcm, hcs, hT⟩
  · exact .inl h'
  · refine .inr ⟨g, cap, cur, rfl, hbg, ?_, hnc, hcm, hcs, hT⟩
    rw [O.block g ?_]
    · exact hg
    · rintro rfl
      unfold RwC at hq
      rw [hg] at hq
      simp only [Option.some.injEq, Obj.cells.injEq] at hq
      exact ht hq.2.1.symm
def putAt : List Value → Nat → List Value → List Value
  | zs, _, [] => zs
  | zs, o, v :: vs => putAt (zs.set o v) (o + 1) vs
theorem putAt_get : ∀ (vs zs : List Value) (o i : Nat), o + vs.length ≤ zs.length → (putAt zs o vs)[i]? = if o ≤ i ∧ i < o + vs.length then vs[i - o]? else zs[i]?
  | [], zs, o, i, _ => by
    rw [if_neg (by simp only [List.length_nil]; omega)]
    rfl
  | v :: vs, zs, o, i, h => by
    simp only [List.length_cons] at h ⊢
    rw [putAt, putAt_get vs (zs.set o v) (o + 1) i (by rw [List.length_set]; omega)]
    by_cases e : o = i
    · subst e
      rw [if_neg (by omega), if_pos (by omega), List.getElem?_set_self (by omega), Nat.sub_self]
      rfl
    · by_cases h2 : o + 1 ≤ i ∧ i < o + 1 + vs.length
      · rw [if_pos h2, if_pos (by omega), show i - o = (i - (o + 1)) + 1 by omega]
        rfl
      · rw [if_neg h2, if_neg (by omega), List.getElem?_set_ne e]
theorem putAt_all {zs cs : List Value} (h : cs.length = zs.length) : putAt zs 0 cs = cs := by
  apply List.ext_getElem?
  intro i
  rw [putAt_get cs zs 0 i (by omega)]
  by_cases hi : i < cs.length
  · rw [if_pos (by omega)]
    rfl
  · rw [if_neg (by omega), List.getElem?_eq_none (by omega), List.getElem?_eq_none (by omega)]
theorem RwC.puts {t : TypeId} {q : Nat} : ∀ (vs zs : List Value) (w : World) (o : Nat), RwC w q zs t → RwC (w.setCells q o vs) q (putAt zs o vs) t
  | [], _, _, _, h => h
  | v :: vs, zs, w, o, h => RwC.puts vs (zs.set o v) (w.setCell ⟨q, o, none⟩ v) (o + 1) (h.set o v)
theorem RwC.put {w : World} {q : Nat} {zs cs : List Value} {t : TypeId} (h : RwC w q zs t) (hl : cs.length = zs.length) : RwC (w.setCells q 0 cs) q cs t := by
  have := RwC.puts cs zs w 0 h
  rwa [putAt_all hl] at this
section
variable {P : Program} {ops : Array Oper} {Q : Exit → Act → World → Prop}
theorem region_newT {a0 : Act} {id : Nat} {draw : Bool} {w : World} (k jA jV pA pV : Nat) (o : Oper) (F : Nat → Fact) (t : TypeId) (zs : List Value) (G : Fact) (hm : P.follows .mixedOrders = true) (hT : textOk .any ops a0.tmps.size k = true) (hk : ops[k]? = some o) (hd : o.dst = none)
    (hop : o.op = .store t (.tmp pA) (.tmp pV)) (hi : (P.info? t).map (·.size) = some zs.length) (wA : writes ops jA pA = true) (FA : F jA = NBt w.heap.size t zs) (wV : writes ops jV pV = true) (FV : F jV = G)
    (hG : ∀ v W, G.p v W → ∃ cs : List Value, v = .agg cs.toArray ∧ cs.length = zs.length ∧ cs.toArray.all (·.oneCell') = true) (steps : ∀ i, i < k → StepOk P .any ops Q F a0 w i)
    (fin : ∀ (vs : Nat → Value) (W W' : World) (q : Nat) (cs : List Value), vs pA = .pointer (some ⟨q, 0, none⟩) → w.heap.size ≤ q → Below w.heap.size w W → RwC W q zs t → G.p (.agg cs.toArray) W → Only q W W' → RwC W' q cs t → Below w.heap.size w W' → Q .normal (puts vs a0 ops.toList) W') : (Code.region id ops draw).wp P Q a0 w := by
  refine region_store k o F hm hT hk hd steps fun a W hb hw hF => ?_
  have e1 := hF jA pA wA
  have e2 := hF jV pV wV
  rw [FA] at e1
  rw [FV] at e2
  obtain ⟨q, e1, hB, hq⟩ := e1
  obtain ⟨cs, ev, hl, h1⟩ := hG _ _ e2
  have TH : W.there q 0 cs.length := by rw [hl]; exact hq.thereG
  refine wp_store_mid _ (.tmp pA) (.tmp pV) hop q 0 cs.toArray e1 ev (by simpa using TH) (by rw [hi]; simp [hl]) h1 ?_
  obtain ⟨vs, hvs⟩ : ∃ vs : Nat → Value, ∀ d, a.tmps.getD d undef = vs d := ⟨_, fun _ => rfl⟩
  rw [hd]
  show Q .normal a _
  rw [puts_of hT rfl hb vs hvs]
  have OQ := only_setG W q cs 0
  have e2' : G.p (.agg cs.toArray) W := by rw [← ev]; exact e2
  exact fin vs W _ q cs ((hvs pA).symm.trans e1) hB hw hq e2' OQ (RwC.put hq hl) (hw.trans (OQ.below hB))
theorem region_putT {a0 : Act} {id : Nat} {draw : Bool} {w : World} (k jV pA pV : Nat) (o : Oper) (F : Nat → Fact) (t : TypeId) (zs : List Value) (q : Nat) (G : Fact) (hm : P.follows .mixedOrders = true) (hT : textOk .any ops a0.tmps.size k = true) (hk : ops[k]? = some o) (hd : o.dst = none)
    (hop : o.op = .store t (.tmp pA) (.tmp pV)) (hi : (P.info? t).map (·.size) = some zs.length) (hA : ∀ a, Based ops a0 a → a.tmps.getD pA undef = .pointer (some ⟨q, 0, none⟩)) (hq : RwC w q zs t) (wV : writes ops jV pV = true) (FV : F jV = G)
    (hG : ∀ v W, G.p v W → ∃ cs : List Value, v = .agg cs.toArray ∧ cs.length = zs.length ∧ cs.toArray.all (·.oneCell') = true) (steps : ∀ i, i < k → StepOk P .any ops Q F a0 w i)
    (fin : ∀ (vs : Nat → Value) (W W' : World) (cs : List Value), Below w.heap.size w W → RwC W q zs t → G.p (.agg cs.toArray) W → Only q W W' → RwC W' q cs t → Q .normal (puts vs a0 ops.toList) W') : (Code.region id ops draw).wp P Q a0 w := by
  refine region_store k o F hm hT hk hd steps fun a W hb hw hF => ?_
  have e1 := hA a hb
  have e2 := hF jV pV wV
  rw [FV] at e2
  obtain ⟨cs, ev, hl, h1⟩ := hG _ _ e2
  have hq' := hq.up hw
  have TH : W.there q 0 cs.length := by rw [hl]; exact hq'.thereG
  refine wp_store_mid _ (.tmp pA) (.tmp pV) hop q 0 cs.toArray e1 ev (by simpa using TH) (by rw [hi]; simp [hl]) h1 ?_
  obtain ⟨vs, hvs⟩ : ∃ vs : Nat → Value, ∀ d, a.tmps.getD d undef = vs d := ⟨_, fun _ => rfl⟩
  rw [hd]
  show Q .normal a _
  rw [puts_of hT rfl hb vs hvs]
  have OQ := only_setG W q cs 0
  have e2' : G.p (.agg cs.toArray) W := by rw [← ev]; exact e2
  exact fin vs W _ cs hw hq' e2' OQ (RwC.put hq' hl)
end
end Go.Proofs.YtkpomobhjkikeaaGreatDoor
namespace Go.Proofs.YtkpomobhjkikeaaGreatDoor
set_option maxRecDepth 100000
open Go Go.RowKit
section
variable {P : Program} {ops : Array Oper} {Q : Exit → Act → World → Prop}
theorem region_putA {a0 : Act} {id : Nat} {draw : Bool} {w : World} (k jV pA pV d2 : Nat) (cv : Value) (o o2 : Oper) (F : Nat → Fact) (t : TypeId) (zs : List Value) (q : Nat) (G : Fact) (hm : P.follows .mixedOrders = true) (hT : textTail .any draw ops a0.tmps.size k = true) (hk : ops.toList.drop k = [o, o2]) (ho2 : ops[k + 1]? = some o2) (hd : o.dst = none) (hd2 : o2.dst = some d2) (hop2 : o2.op = .assign (.const cv)) (s2 : d2 < a0.tmps.size)
    (hop : o.op = .store t (.tmp pA) (.tmp pV)) (hi : (P.info? t).map (·.size) = some zs.length) (hA : ∀ a, Based ops a0 a → a.tmps.getD pA undef = .pointer (some ⟨q, 0, none⟩)) (hq : RwC w q zs t) (wV : decide (jV < k) = true ∧ writes ops jV pV = true) (FV : F jV = G)
    (hG : ∀ v W, G.p v W → ∃ cs : List Value, v = .agg cs.toArray ∧ cs.length = zs.length ∧ cs.toArray.all (·.oneCell') = true) (steps : ∀ i, i < k → StepOk P .any ops Q F a0 w i)
    (fin : ∀ (vs : Nat → Value) (W W' : World) (cs : List Value), vs d2 = cv → Below w.heap.size w W → RwC W q zs t → G.p (.agg cs.toArray) W → Only q W W' → RwC W' q cs t → Q .normal (puts vs a0 ops.toList) W') : (Code.region id ops draw).wp P Q a0 w := by
  refine region_tail k F hm hT steps [] (by simp) (by simp) fun a W hb hw hf _ => ?_
  rw [hk]
  show o.wp P a W (fun a' w'' => o2.wp P a' w'' (fun a'' w3 => Q .normal a'' w3) Q) Q
  have e1 := hA a hb
  have e2 := hf jV pV wV.1 wV.2
  rw [FV] at e2
  obtain ⟨cs, ev, hl, h1⟩ := hG _ _ e2
  have hq' := hq.up hw
  have TH : W.there q 0 cs.length := by rw [hl]; exact hq'.thereG
  refine wp_store_mid _ (.tmp pA) (.tmp pV) hop q 0 cs.toArray e1 ev (by simpa using TH) (by rw [hi]; simp [hl]) h1 ?_
  rw [hd]
  show o2.wp P a _ (fun a'' w3 => Q .normal a'' w3) Q
  have hr2 : (execOp a.eval o2).run P (W.setCells q 0 cs) = .ok (.value cv) (W.setCells q 0 cs) := by simp [execOp, hop2, Act.eval]
  have hb2 := Based.put hb ho2 cv
  unfold Oper.wp
  rw [hr2, Oper.upon_value]
  show Q .normal (a.put o2.dst cv) _
  have e3 : (a.put o2.dst cv).tmps.getD d2 undef = cv := by
    rw [hd2]
    exact put_at (by rw [hb.2.1]; exact s2)
  obtain ⟨vs, hvs⟩ : ∃ vs : Nat → Value, ∀ d, (a.put o2.dst cv).tmps.getD d undef = vs d := ⟨_, fun _ => rfl⟩
  rw [puts_tail hT rfl hb2 vs hvs]
  have OQ := only_setG W q cs 0
  have e2' : G.p (.agg cs.toArray) W := by rw [← ev]; exact e2
  exact fin vs W _ cs (by rw [← hvs, e3]) hw hq' e2' OQ (RwC.put hq' hl)
end
end Go.Proofs.YtkpomobhjkikeaaGreatDoor
namespace Go.Proofs.YtkpomobhjkikeaaGreatDoor
set_option maxRecDepth 100000
open Go Go.RowKit
def rcK (xs : List Int) : Int := beN xs 0 1
def rcN (xs : List Int) : Nat := (beN xs 1 2).toNat
def rcB (xs : List Int) : List Int := (xs.drop 3).take (rcN xs)
def rcE (a0 a1 a2 : Addr) (xs : List Int) : Option Addr := if xs.length = 0 then some a0 else if isK (rcK xs) = true then (if xs.length < 3 then some a0 else if 1 ≤ beN xs 1 2 ∧ beN xs 1 2 ≤ 2321 then (if (xs.length : Int) - 3 < beN xs 1 2 then some a0 else none) else some a2) else some a1
theorem iRcd : (Tryz.prog.info? 42).map (·.size) = some 2 := by kernel_rfl
theorem rowRcd : ∃ d, Tryz.prog.underlying 42 = some d ∧ d.isRow = true := ⟨_, Tryz.underlying42, rfl⟩
theorem oneRcd (k : Int) (a : Option Addr) (n c : Nat) : ([.int .i64 k, .slice a n c] : List Value).toArray.all (·.oneCell') = true := all_oneCell_toArray fun v hv => by
  simp only [List.mem_cons, List.not_mem_nil, or_false] at hv
  rcases hv with rfl | rfl
  all_goals rfl
def CRb (b : Nat) (D : List Int) : Fact := ⟨fun v w => RowB w b v D, fun n h => h.up n⟩
def CKd (b : Nat) (k : Int) (D : List Int) : Fact := ⟨fun v w => ∃ a c, v = .agg #[.int .i64 k, .slice a D.length c] ∧ RowB w b (.slice a D.length c) D, fun n h => by
  obtain ⟨a, c, e, r⟩ := h
  exact ⟨a, c, e, r.up n⟩⟩
set_option maxHeartbeats 8000000 in
theorem firstRecord_any (w : World) (g : Nat) (a : Option Addr) (c : Nat) (xs : List Int) (hr : Rd w g a .u8 xs) (hb : Byt xs) (hc : xs.length ≤ c) (hn : xs.length ≤ 1048576) (a0 a1 a2 : Addr) (h0 : Sen w 0 a0) (h1 : Sen w 1 a1) (h2 : Sen w 5 a2) :
    Calls Tryz.prog 26 #[.slice a xs.length c] w fun e w' => Below w.heap.size w w' ∧
      ((rcE a0 a1 a2 xs = none ∧ ∃ ad cd, e = .returned (.tuple #[.agg #[.int .i64 (rcK xs), .slice ad (rcB xs).length cd], .nilIface]) ∧ RowB w' w.heap.size (.slice ad (rcB xs).length cd) (rcB xs)) ∨ (∃ x, rcE a0 a1 a2 xs = some x ∧ e = .returned (.tuple #[.agg #[.int .i64 0, .slice none 0 0], erV x]))) := by
  obtain ⟨d1, hd1, hrow1⟩ := rowRcd
  have n0 : Below w.heap.size w (w.alloc (.cells #[.int .i64 0, .slice none 0 0] 42)) := (Below.refl _ _).alloc (Nat.le_refl _) _
  have Z0 : RwC (w.alloc (.cells #[.int .i64 0, .slice none 0 0] 42)) w.heap.size [.int .i64 0, .slice none 0 0] 42 := RwC.new w _ _
  have RH := hide fun W (m : Below w.heap.size w W) => readHead_any W g a c xs (hr.up m) hb hn a0 a1 (h0.up m) (h1.up m)
  have FA := hide fun W (m : Below w.heap.size w W) => fault_any W (beN xs 0 1) (beN xs 1 2) a1 a2 (h1.up m) (h2.up m)
  have eR : Hid (rcE a0 a1 a2 xs = if xs.length = 0 then some a0 else if isK (beN xs 0 1) = true then (if xs.length < 3 then some a0 else if 1 ≤ beN xs 1 2 ∧ beN xs 1 2 ≤ 2321 then (if (xs.length : Int) - 3 < beN xs 1 2 then some a0 else none) else some a2) else some a1) := rfl
  have eH : Hid (rhE a0 a1 xs = if xs.length = 0 then some a0 else if isK (beN xs 0 1) = true then (if xs.length < 3 then some a0 else none) else some a1) := rfl
  have eK : Hid (rcK xs = beN xs 0 1) := rfl
  go_enter Tryz.func26, Tryz.ntmps26
  go_wp2_with fail
  generalize w.alloc (.cells #[.int .i64 0, .slice none 0 0] 42) = wa at *
  have lZ := Z0.lt
  refine (RH.out wa n0).mono ?_
  rintro e w1 ⟨m1, hcase⟩
  have z1 := m1.size
  have N1 := nxt n0 m1
  have Z1 := Z0.up m1
  clear RH Z0 m1 n0
  rcases hcase with ⟨hh, rfl⟩ | ⟨x, hh, rfl⟩
  · rw [eH.out] at hh
    have g1 : xs.length ≠ 0 := fun h => by rw [if_pos h] at hh; cases hh
    rw [if_neg g1] at hh
    have g2 : isK (beN xs 0 1) = true := Classical.byContradiction fun h => by rw [if_neg h] at hh; cases hh
    rw [if_pos g2] at hh
    have g3 : ¬ xs.length < 3 := fun h => by rw [if_pos h] at hh; cases hh
    clear hh eH
    have n2 : Below w1.heap.size w1 (w1.alloc (.cells #[.int .i64 (beN xs 0 1), .int .i64 (beN xs 1 2)] 61)) := (Below.refl _ _).alloc (Nat.le_refl _) _
    have H2 : RwC (w1.alloc (.cells #[.int .i64 (beN xs 0 1), .int .i64 (beN xs 1 2)] 61)) w1.heap.size [.int .i64 (beN xs 0 1), .int .i64 (beN xs 1 2)] 61 := RwC.new w1 _ _
    have N2 := nxt N1 n2
    have Z2 := Z1.up n2
    have hnn := nil_neq
    clear N1 Z1 n2
    obtain ⟨v, hv⟩ : ∃ v, v = hfV a1 a2 (beN xs 0 1) (beN xs 1 2) := ⟨_, rfl⟩
    rw [← hv] at FA
    go_wp2_with fail
    generalize w1.alloc (.cells #[.int .i64 (beN xs 0 1), .int .i64 (beN xs 1 2)] 61) = w2 at *
    refine (FA.out w2 N2).mono ?_
    rintro e w3 ⟨rfl, m3⟩
    have N3 := nxt N2 m3
    have Z3 := Z2.up m3
    have H3 := H2.up m3
    have lH := H2.lt
    clear FA N2 Z2 H2
    by_cases hs : 1 ≤ beN xs 1 2 ∧ beN xs 1 2 ≤ 2321
    · have ev : v = .nilIface := by rw [hv, hfV, if_pos g2, if_pos hs]
      subst ev
      clear hv
      have NB := beN_rng hb 1 2
      obtain ⟨n, hnn2⟩ := Int.eq_ofNat_of_zero_le NB.1
      have rN : Hid (rcN xs = n) := by show (beN xs 1 2).toNat = n; rw [hnn2]; simp
      obtain ⟨off, ha, hcell⟩ := hr (by omega)
      subst ha
      rw [hnn2] at H3 hs eR
      have y0 := H3.c0
      have y1 := H3.c1
      have nb : (n : Int) ≤ 2321 := hs.2
      have l3 : (3 : Int) ≤ (xs.length : Int) := by omega
      have c3 : (3 : Int) ≤ (c : Int) := by omega
      by_cases hw : (xs.length : Int) - 3 < (n : Int)
      · have e1 : Hid (rcE a0 a1 a2 xs = some a0) := by show _ = _; rw [eR.out, if_neg g1, if_pos g2, if_neg g3, if_pos hs, if_pos hw]
        have cl : ((xs.length - 3 : Nat) : Int) = (xs.length : Int) - 3 := by omega
        have w1' : decide (((xs.length - 3 : Nat) : Int) < (n : Int)) = true := by simp; omega
        have w2' : decide ((xs.length : Int) - 3 < (n : Int)) = true := by simpa using hw
        clear eR hs hnn2 NB
        have ZF : RwC ((w3.setCell ⟨w.heap.size, 0, none⟩ (.int .i64 0)).setCell ⟨w.heap.size, 1, none⟩ (.slice none 0 0)) w.heap.size [.int .i64 0, .slice none 0 0] 42 := (Z3.set 0 _).set 1 _
        have OF : Only w.heap.size w3 ((w3.setCell ⟨w.heap.size, 0, none⟩ (.int .i64 0)).setCell ⟨w.heap.size, 1, none⟩ (.slice none 0 0)) := (Only.setCell _ w.heap.size 0 _).trans (Only.setCell _ w.heap.size 1 _)
        have RR := ZF.rangeG
        have NF := N3.trans (OF.below (B := w.heap.size) (Nat.le_refl _))
        have x0 := Z3.c0
        have x1 := Z3.c1
        have f0 := Z3.free 0
        have f1 := Z3.free 1
        have cg := (h0.up N3).c
        unfold erV at cg
        have kg : ((w3.setCell ⟨w.heap.size, 0, none⟩ (.int .i64 0)).setCell ⟨w.heap.size, 1, none⟩ (.slice none 0 0)).cell? ⟨0, 0, none⟩ = some (.iface 189 (.pointer (some a0))) := (World.cell?_of_block (a := ⟨0, 0, none⟩) (OF.block 0 (by have : 0 < w.heap.size := block_lt_of_cell h0.c; omega))).trans cg
        clear OF ZF hcell hr
        go_upto_region 8 with fail
        obtain ⟨ad, had⟩ : ∃ ad, ad = (if c = 3 then (some ⟨g, off, none⟩ : Option Addr) else some ⟨g, off + 3, none⟩) := ⟨_, rfl⟩
        rw [← had]
        clear had
        go_wp2
        go_region
        all_goals
          go_wp2
          exact bodyPost_ret (v := .tuple #[.agg #[.int .i64 0, .slice none 0 0], erV a0]) (results_twoC Tryz.results26 _ _ w.heap.size [.int .i64 0, .slice none 0 0] d1 (erV a0) rfl rfl RR hd1 hrow1 iRcd) rfl ⟨NF.drew, .inr ⟨a0, e1.out, rfl⟩⟩
      · have e1 : Hid (rcE a0 a1 a2 xs = none) := by show _ = _; rw [eR.out, if_neg g1, if_pos g2, if_neg g3, if_pos hs, if_neg hw]
        have w1' : decide (((xs.length - 3 : Nat) : Int) < (n : Int)) = false := by simp; omega
        have w2' : decide ((xs.length : Int) - 3 < (n : Int)) = false := by simpa using hw
        have w3' : decide (xs.length - 3 < n) = false := by simp; omega
        have bl : Hid ((rcB xs).length = n) := by show _ = _; unfold rcB; rw [List.length_take, List.length_drop, rN.out]; omega
        have bd : Hid (rcB xs = (xs.drop 3).take n) := by show _ = _; unfold rcB; rw [rN.out]
        have hkd := eK.out
        go_upto_region 8 with fail
        obtain ⟨ad, had⟩ : ∃ ad : Option Addr, ad = some ⟨g, off + 3, none⟩ := ⟨_, rfl⟩
        rw [← had]
        have RD : Rd w3 g ad .u8 (rcB xs) := fun _ => ⟨off + 3, had, fun i hi => by
          rw [bl.out] at hi
          have hr3 := hr.up N3
          obtain ⟨off', ho, hc'⟩ := hr3 (by omega)
          simp only [Option.some.injEq, Addr.mk.injEq, true_and, and_true] at ho
          subst ho
          rw [Nat.add_assoc, hc' (3 + i) (by omega), bd.out, List.getD_eq_getElem?_getD, List.getD_eq_getElem?_getD, List.getElem?_take, if_pos hi, List.getElem?_drop]⟩
        have nc : (n : Int) ≤ ((c - 3 : Nat) : Int) := by omega
        have adn : ad = none → c - 3 = 0 := fun h => by rw [had] at h; cases h
        clear hcell hr hs hnn2 NB eR had hw g1 g2 g3 eK
        have nd : Below w3.heap.size w3 w3.drew := (Below.refl _ _).drew
        have lw3 : w.heap.size < w3.heap.size := Z3.lt
        go_upto_region 10 with fail
        have g0 := block_lt_of_cell y0
        have g1 := block_lt_of_cell y1
        refine region_putA 8 7 2 38 3 .nilIface _ _ (fun i => [Fact.eq (.pointer (some ⟨w1.heap.size, 0, none⟩)), Fact.eq (.int .i64 (beN xs 0 1)), Fact.eq (.slice ad (xs.length - 3) (c - 3)), Fact.eq (.pointer (some ⟨w1.heap.size, 1, none⟩)), Fact.eq (.int .i64 (n : Int)), Fact.eq (.slice ad n (c - 3)), CRb w3.heap.size (rcB xs), CKd w3.heap.size (beN xs 0 1) (rcB xs)].getD i Fact.no) 42 [.int .i64 0, .slice none 0 0] w.heap.size (CKd w3.heap.size (beN xs 0 1) (rcB xs)) (by kernel_rfl) (by kernel_rfl) rfl rfl rfl rfl rfl (by simp) rfl iRcd ?_ Z3 ⟨by kernel_rfl, by kernel_rfl⟩ rfl ?_ ?_ ?_
        · intro A hb
          exact hb.2.2 2 (by kernel_rfl)
        · rintro v W ⟨ad, cd, rfl, -⟩
          exact ⟨[.int .i64 (beN xs 0 1), .slice ad (rcB xs).length cd], rfl, rfl, oneRcd _ _ _ _⟩
        · intro i hi
          obtain rfl | rfl | rfl | rfl | rfl | rfl | rfl | rfl : i = 0 ∨ i = 1 ∨ i = 2 ∨ i = 3 ∨ i = 4 ∨ i = 5 ∨ i = 6 ∨ i = 7 := by omega
          · refine step_pure rfl fun A ww hb hw hf => ?_
            have e0 : A.tmps[4]?.getD undef = .pointer (some ⟨w1.heap.size, 0, none⟩) := gdv (hb.2.2 4 (by kernel_rfl))
            exact ⟨.pointer (some ⟨w1.heap.size, 0, none⟩), by simp [go_sem, e0], rfl⟩
          · refine step_pure rfl fun A ww hb hw hf => ?_
            have e0 : A.tmps[31]?.getD undef = .pointer (some ⟨w1.heap.size, 0, none⟩) := gdv (hf 0 31 (by kernel_rfl))
            have hc : ww.cell? ⟨w1.heap.size, 0, none⟩ = some (.int .i64 (beN xs 0 1)) := (World.cell?_of_block (a := ⟨w1.heap.size, 0, none⟩) (hw.block w1.heap.size g0)).trans y0
            exact ⟨.int .i64 (beN xs 0 1), by simp [go_sem, e0, hc], rfl⟩
          · refine step_pure rfl fun A ww hb hw hf => ?_
            have e0 : A.tmps[6]?.getD undef = .slice ad (xs.length - 3) (c - 3) := gdv (hb.2.2 6 (by kernel_rfl))
            exact ⟨_, by simp [go_sem, e0], rfl⟩
          · refine step_pure rfl fun A ww hb hw hf => ?_
            have e0 : A.tmps[4]?.getD undef = .pointer (some ⟨w1.heap.size, 0, none⟩) := gdv (hb.2.2 4 (by kernel_rfl))
            exact ⟨.pointer (some ⟨w1.heap.size, 1, none⟩), by simp [go_sem, e0], rfl⟩
          · refine step_pure rfl fun A ww hb hw hf => ?_
            have e0 : A.tmps[34]?.getD undef = .pointer (some ⟨w1.heap.size, 1, none⟩) := gdv (hf 3 34 (by kernel_rfl))
            have hc : ww.cell? ⟨w1.heap.size, 1, none⟩ = some (.int .i64 (n : Int)) := (World.cell?_of_block (a := ⟨w1.heap.size, 1, none⟩) (hw.block w1.heap.size g1)).trans y1
            exact ⟨.int .i64 (n : Int), by simp [go_sem, e0, hc], rfl⟩
          · refine step_pure rfl fun A ww hb hw hf => ?_
            have e0 : A.tmps[33]?.getD undef = .slice ad (xs.length - 3) (c - 3) := gdv (hf 2 33 (by kernel_rfl))
            have e1 : A.tmps[35]?.getD undef = .int .i64 (n : Int) := gdv (hf 4 35 (by kernel_rfl))
            exact ⟨.slice ad n (c - 3), by simp [go_sem, e0, e1]; omega, rfl⟩
          · refine step_callv rfl 21 _ _ rfl (by kernel_rfl) fun A ww hb hw hf => ?_
            have e6 : A.tmps.getD 36 undef = .slice ad n (c - 3) := hf 5 36 (by kernel_rfl)
            show Calls Tryz.prog 21 #[A.tmps.getD 36 undef] ww _
            rw [e6]
            have hw0 := hw
            have CL := cloneR_any ww g ad (c - 3) (rcB xs) (RD.up hw0) adn (by rw [bl.out]; omega)
            rw [bl.out] at CL
            refine CL.mono ?_
            rintro r w' ⟨x, rfl, R, l⟩
            exact ⟨x, rfl, l, R.base hw0.size⟩
          · refine step_pure rfl fun A ww hb hw hf => ?_
            have e0 : A.tmps[32]?.getD undef = .int .i64 (beN xs 0 1) := gdv (hf 1 32 (by kernel_rfl))
            have r8 : RowB ww w3.heap.size (A.tmps.getD 37 undef) (rcB xs) := hf 6 37 (by kernel_rfl)
            obtain ⟨ad, cd, gd, ev, -⟩ := r8.own
            rw [ev] at r8
            have e1 : A.tmps[37]?.getD undef = .slice ad (rcB xs).length cd := gdv ev
            refine ⟨.agg #[.int .i64 (beN xs 0 1), .slice ad (rcB xs).length cd], ?_, ad, cd, rfl, r8⟩
            simp [go_sem, e0, e1]
        · intro vs W W5 cs v3 hW rq hG OQ rc
          obtain ⟨ad, cd, ec, rd⟩ := hG
          simp only [Value.agg.injEq, Array.mk.injEq] at ec
          subst ec
          have R9 := rd.only OQ (by omega)
          have RR := rc.rangeG
          have NF := (nxt N3 hW).trans (OQ.below (B := w.heap.size) (Nat.le_refl _))
          clear OQ
          simp only [puts, v3, Act.put, List.setIfInBounds_toArray, List.set_cons_succ, List.set_cons_zero]
          go_wp2
          exact bodyPost_ret (v := .tuple #[.agg #[.int .i64 (beN xs 0 1), .slice ad (rcB xs).length cd], .nilIface]) (results_twoC Tryz.results26 _ _ w.heap.size [.int .i64 (beN xs 0 1), .slice ad (rcB xs).length cd] d1 .nilIface rfl rfl RR hd1 hrow1 iRcd) rfl ⟨NF, .inl ⟨e1.out, ad, cd, rfl, R9.base (by omega)⟩⟩
    · have ev : v = .iface 189 (.pointer (some a2)) := by rw [hv, hfV, if_pos g2, if_neg hs]; rfl
      have e1 : Hid (rcE a0 a1 a2 xs = some a2) := by show _ = _; rw [eR.out, if_neg g1, if_pos g2, if_neg g3, if_neg hs]
      subst ev
      clear hv hs eR hr
      have ZF : RwC ((w3.setCell ⟨w.heap.size, 0, none⟩ (.int .i64 0)).setCell ⟨w.heap.size, 1, none⟩ (.slice none 0 0)) w.heap.size [.int .i64 0, .slice none 0 0] 42 := (Z3.set 0 _).set 1 _
      have OF : Only w.heap.size w3 ((w3.setCell ⟨w.heap.size, 0, none⟩ (.int .i64 0)).setCell ⟨w.heap.size, 1, none⟩ (.slice none 0 0)) := (Only.setCell _ w.heap.size 0 _).trans (Only.setCell _ w.heap.size 1 _)
      have RR := ZF.rangeG
      have NF := N3.trans (OF.below (B := w.heap.size) (Nat.le_refl _))
      have x0 := Z3.c0
      have x1 := Z3.c1
      have f0 := Z3.free 0
      have f1 := Z3.free 1
      have he := er_neq a2
      clear OF ZF
      go_wp2
      exact bodyPost_ret (v := .tuple #[.agg #[.int .i64 0, .slice none 0 0], erV a2]) (results_twoC Tryz.results26 _ _ w.heap.size [.int .i64 0, .slice none 0 0] d1 (erV a2) rfl rfl RR hd1 hrow1 iRcd) rfl ⟨NF, .inr ⟨a2, e1.out, rfl⟩⟩
  · have e1 : Hid (rcE a0 a1 a2 xs = some x) := by
      show _ = _
      rw [← hh, eR.out, eH.out]
      by_cases g1 : xs.length = 0
      · rw [if_pos g1, if_pos g1]
      · rw [if_neg g1, if_neg g1]
        by_cases g2 : isK (beN xs 0 1) = true
        · rw [if_pos g2, if_pos g2]
          by_cases g3 : xs.length < 3
          · rw [if_pos g3, if_pos g3]
          · rw [eH.out, if_neg g1, if_pos g2, if_neg g3] at hh
            cases hh
        · rw [if_neg g2, if_neg g2]
    have n2 : Below w1.heap.size w1 (w1.alloc (.cells #[.int .i64 0, .int .i64 0] 61)) := (Below.refl _ _).alloc (Nat.le_refl _) _
    have N2 := nxt N1 n2
    have Z2 := Z1.up n2
    have he := er_neq x
    clear N1 Z1 n2 FA eR eH hh hr
    unfold erV
    go_upto_region 3 with fail
    generalize w1.alloc (.cells #[.int .i64 0, .int .i64 0] 61) = w2 at *
    have ZF : RwC ((w2.setCell ⟨w.heap.size, 0, none⟩ (.int .i64 0)).setCell ⟨w.heap.size, 1, none⟩ (.slice none 0 0)) w.heap.size [.int .i64 0, .slice none 0 0] 42 := (Z2.set 0 _).set 1 _
    have OF : Only w.heap.size w2 ((w2.setCell ⟨w.heap.size, 0, none⟩ (.int .i64 0)).setCell ⟨w.heap.size, 1, none⟩ (.slice none 0 0)) := (Only.setCell _ w.heap.size 0 _).trans (Only.setCell _ w.heap.size 1 _)
    have RR := ZF.rangeG
    have NF := N2.trans (OF.below (B := w.heap.size) (Nat.le_refl _))
    have x0 := Z2.c0
    have x1 := Z2.c1
    have f0 := Z2.free 0
    have f1 := Z2.free 1
    clear OF ZF
    go_wp2
    exact bodyPost_ret (v := .tuple #[.agg #[.int .i64 0, .slice none 0 0], erV x]) (results_twoC Tryz.results26 _ _ w.heap.size [.int .i64 0, .slice none 0 0] d1 (erV x) rfl rfl RR hd1 hrow1 iRcd) rfl ⟨NF, .inr ⟨x, e1.out, rfl⟩⟩
end Go.Proofs.YtkpomobhjkikeaaGreatDoor
namespace Go.Proofs.YtkpomobhjkikeaaGreatDoor
set_option maxRecDepth 100000
open Go Go.RowKit
def rcT (ys : List Int) : Nat := if ys.length = 0 then 1 else if isK (rcK ys) = true then (if ys.length < 3 then 1 else if 1 ≤ beN ys 1 2 ∧ beN ys 1 2 ≤ 2321 then (if (ys.length : Int) - 3 < beN ys 1 2 then 1 else 0) else 3) else 2
def rcX (a0 a1 a2 : Addr) : Nat → Option Addr
  | 0 => none
  | 1 => some a0
  | 2 => some a1
  | _ => some a2
theorem rcE_T (a0 a1 a2 : Addr) (ys : List Int) : rcE a0 a1 a2 ys = rcX a0 a1 a2 (rcT ys) := by
  unfold rcE rcT
  repeat' split
  all_goals rfl
theorem rcT_len {ys : List Int} (hb : Byt ys) (h : rcT ys = 0) : 1 ≤ rcN ys ∧ 3 + rcN ys ≤ ys.length ∧ rcN ys ≤ 2321 ∧ (rcB ys).length = rcN ys := by
  unfold rcT at h
  have N := beN_rng hb 1 2
  have e : (rcN ys : Int) = beN ys 1 2 := by unfold rcN; omega
  split at h
  · cases h
  · split at h
    · split at h
      · cases h
      · split at h
        · split at h
          · cases h
          · have L : 3 + rcN ys ≤ ys.length := by omega
            refine ⟨by omega, L, by omega, ?_⟩
            unfold rcB
            rw [List.length_take, List.length_drop]
            omega
        · cases h
    · cases h
def cutF (xs : List Int) : Nat → Nat → List (Int × List Int) × Nat
  | 0, k => ([], k)
  | f + 1, k => if rcT (xs.drop k) = 0 then ((rcK (xs.drop k), rcB (xs.drop k)) :: (cutF xs f (k + (3 + rcN (xs.drop k)))).1, (cutF xs f (k + (3 + rcN (xs.drop k)))).2) else ([], k)
def cutR (xs : List Int) : List (Int × List Int) := (cutF xs (xs.length + 1) 0).1
def cutK (xs : List Int) : Nat := (cutF xs (xs.length + 1) 0).2
def cutC (xs : List Int) : Int := ((rcT (xs.drop (cutK xs)) : Nat) : Int) - 1
def cutL (xs : List Int) : List Int := if rcT (xs.drop (cutK xs)) = 1 then xs.drop (cutK xs) else []
structure Ahc (xs : List Int) (its : List (Int × List Int)) (k : Nat) : Prop where
  e : cutF xs (xs.length + 1) 0 = (its ++ (cutF xs (xs.length + 1 - its.length) k).1, (cutF xs (xs.length + 1 - its.length) k).2)
  l : its.length * 4 ≤ k
  k : k ≤ xs.length
  b : ∀ i, i < its.length → (its.getD i (0, [])).2.length ≤ 2321
theorem Ahc.zero (xs : List Int) : Ahc xs [] 0 := ⟨by simp, by simp, Nat.zero_le _, fun i h => absurd h (by simp)⟩
theorem Ahc.step {xs : List Int} {its : List (Int × List Int)} {k : Nat} (hb : Byt xs) (h : Ahc xs its k) (ht : rcT (xs.drop k) = 0) : Ahc xs (its ++ [(rcK (xs.drop k), rcB (xs.drop k))]) (k + (3 + rcN (xs.drop k))) := by
  have L := rcT_len (byt_drop hb k) ht
  have hl := h.l
  have hk := h.k
  have ld : (xs.drop k).length = xs.length - k := List.length_drop
  obtain ⟨f, hf⟩ : ∃ f, xs.length + 1 - its.length = f + 1 := ⟨xs.length - its.length, by omega⟩
  refine ⟨?_, by simp; omega, by omega, fun i hi => ?_⟩
  · rw [h.e, hf, show xs.length + 1 - (its ++ [(rcK (xs.drop k), rcB (xs.drop k))]).length = f by simp; omega]
    show (its ++ (if rcT (xs.drop k) = 0 then _ else _ : List (Int × List Int) × Nat).1, (if rcT (xs.drop k) = 0 then _ else _ : List (Int × List Int) × Nat).2) = _
    rw [if_pos ht]
    simp
  · by_cases h' : i < its.length
    · have : (its ++ [(rcK (xs.drop k), rcB (xs.drop k))]).getD i (0, []) = its.getD i (0, []) := by simp [List.getD, List.getElem?_append_left h']
      rw [this]
      exact h.b i h'
    · have : i = its.length := by simp at hi; omega
      subst this
      have : (its ++ [(rcK (xs.drop k), rcB (xs.drop k))]).getD its.length (0, []) = (rcK (xs.drop k), rcB (xs.drop k)) := by simp
      rw [this]
      show (rcB (xs.drop k)).length ≤ 2321
      omega
theorem Ahc.done {xs : List Int} {its : List (Int × List Int)} {k : Nat} (h : Ahc xs its k) (ht : rcT (xs.drop k) ≠ 0) : cutR xs = its ∧ cutK xs = k := by
  have hl := h.l
  have hk := h.k
  obtain ⟨f, hf⟩ : ∃ f, xs.length + 1 - its.length = f + 1 := ⟨xs.length - its.length, by omega⟩
  have e : cutF xs (f + 1) k = ([], k) := by
    show (if rcT (xs.drop k) = 0 then _ else _) = _
    rw [if_neg ht]
  unfold cutR cutK
  rw [h.e, hf, e]
  simp
end Go.Proofs.YtkpomobhjkikeaaGreatDoor
namespace Go.Proofs.YtkpomobhjkikeaaGreatDoor
set_option maxRecDepth 100000
open Go Go.RowKit
def gdR (r : Int × List Int) : Prop := isK r.1 = true ∧ 1 ≤ r.2.length ∧ r.2.length ≤ 2321 ∧ Byt r.2
def flR : List (Int × List Int) → List Int
  | [] => []
  | r :: rs => enA r.1 r.2 ++ flR rs
theorem flR_append : ∀ (a b : List (Int × List Int)), flR (a ++ b) = flR a ++ flR b
  | [], _ => rfl
  | r :: a, b => by
    show enA r.1 r.2 ++ flR (a ++ b) = (enA r.1 r.2 ++ flR a) ++ flR b
    rw [flR_append a b, List.append_assoc]
theorem isK_rng {k : Int} (h : isK k = true) : k = 21 ∨ k = 22 ∨ k = 23 := by
  unfold isK at h
  simp at h
  omega
theorem enA_is {r : Int × List Int} (h : gdR r) : enA r.1 r.2 = [r.1, (r.2.length : Int) / 256, (r.2.length : Int) % 256] ++ r.2 := by
  obtain ⟨h1, h2, h3, -⟩ := h
  unfold enA
  rw [if_pos ⟨h1, h2, h3⟩]
  have := isK_rng h1
  have e1 : bigL r.1 1 = [r.1] := by simp [bigL, List.range_succ]; omega
  have e2 : bigL (r.2.length : Int) 2 = [(r.2.length : Int) / 256, (r.2.length : Int) % 256] := by simp [bigL, List.range_succ]; omega
  rw [hdL, e1, e2]
  rfl
theorem enA_ln {r : Int × List Int} (h : gdR r) : (enA r.1 r.2).length = 3 + r.2.length := by rw [enA_is h]; simp; omega
theorem rcT_whole {r : Int × List Int} (h : gdR r) (u : List Int) : rcT (enA r.1 r.2 ++ u) = 0 ∧ rcK (enA r.1 r.2 ++ u) = r.1 ∧ rcN (enA r.1 r.2 ++ u) = r.2.length ∧ rcB (enA r.1 r.2 ++ u) = r.2 := by
  have L : (enA r.1 r.2 ++ u).length = 3 + r.2.length + u.length := by rw [List.length_append, enA_ln h]
  have e0 : rcK (enA r.1 r.2 ++ u) = r.1 := by
    unfold rcK beN beN
    rw [enA_is h]
    simp
  have e1 : beN (enA r.1 r.2 ++ u) 1 2 = (r.2.length : Int) := by
    unfold beN beN beN
    rw [enA_is h]
    simp
    omega
  have e2 : rcN (enA r.1 r.2 ++ u) = r.2.length := by unfold rcN; rw [e1]; simp
  have := h.2.1
  have := h.2.2.1
  refine ⟨?_, e0, e2, ?_⟩
  · unfold rcT
    rw [if_neg (by omega), e0, if_pos h.1, if_neg (by omega), e1, if_pos (by omega), if_neg (by omega)]
  · unfold rcB
    rw [e2, enA_is h]
    simp
theorem cut_flR {xs : List Int} (hb : Byt xs) (rs : List (Int × List Int)) (t : List Int) (hx : xs = flR rs ++ t) (hg : ∀ r ∈ rs, gdR r) (ht : rcT t = 1) : cutR xs = rs ∧ cutC xs = 0 ∧ cutL xs = t := by
  have key : ∀ (b a : List (Int × List Int)), a ++ b = rs → Ahc xs a (flR a).length → cutR xs = rs ∧ cutK xs = (flR rs).length := by
    intro b
    induction b with
    | nil =>
      intro a ha A
      rw [List.append_nil] at ha
      subst ha
      have : xs.drop (flR a).length = t := by rw [hx]; simp
      exact A.done (by rw [this, ht]; decide)
    | cons r b ih =>
      intro a ha A
      have hd : xs.drop (flR a).length = enA r.1 r.2 ++ (flR b ++ t) := by
        rw [hx, ← ha, flR_append, List.append_assoc, List.drop_left]
        show (enA r.1 r.2 ++ flR b) ++ t = _
        rw [List.append_assoc]
      have gr : gdR r := hg r (by rw [← ha]; simp)
      have W := rcT_whole gr (flR b ++ t)
      have A' := A.step hb (by rw [hd]; exact W.1)
      rw [hd, W.2.1, W.2.2.1, W.2.2.2] at A'
      have ea : flR (a ++ [r]) = flR a ++ enA r.1 r.2 := by rw [flR_append]; simp [flR]
      refine ih (a ++ [r]) (by rw [← ha]; simp) ?_
      rw [ea, List.length_append, enA_ln gr]
      exact A'
  obtain ⟨k1, k2⟩ := key rs [] rfl (Ahc.zero xs)
  have hd : xs.drop (cutK xs) = t := by rw [k2, hx, List.drop_left]
  refine ⟨k1, ?_, ?_⟩
  · unfold cutC
    rw [hd, ht]
    rfl
  · unfold cutL
    rw [hd, if_pos ht]
theorem rcT_nil : rcT [] = 1 := by unfold rcT; simp
end Go.Proofs.YtkpomobhjkikeaaGreatDoor
namespace Go.Proofs.YtkpomobhjkikeaaGreatDoor
set_option maxRecDepth 100000
open Go Go.RowKit
def ifV (a1 a6 a7 : Addr) (k : Int) (n : Nat) : Value := if isK k = true then (if 2048 < n then erV a6 else if n = 0 ∧ k ≠ 23 then erV a7 else .nilIface) else erV a1
set_option maxHeartbeats 1000000 in
theorem partFault_any (w : World) (k : Int) (a : Option Addr) (n c : Nat) (a1 a6 a7 : Addr) (h1 : Sen w 1 a1) (h6 : Sen w 2 a6) (h7 : Sen w 3 a7) :
    Calls Tryz.prog 22 #[.agg #[.int .i64 k, .slice a n c]] w fun e w' => e = .returned (ifV a1 a6 a7 k n) ∧ Below w.heap.size w w' := by
  have n0 : Below w.heap.size w (w.alloc (.cells #[.int .i64 k, .slice a n c] 55)) := (Below.refl _ _).alloc (Nat.le_refl _) _
  have c1 := (h1.up n0).c
  have c6 := (h6.up n0).c
  have c7 := (h7.up n0).c
  have KD := fun W => hide (isKind_any W k)
  obtain ⟨v, hv⟩ : ∃ v, v = ifV a1 a6 a7 k n := ⟨_, rfl⟩
  rw [← hv]
  unfold erV at c1 c6 c7
  by_cases hk : isK k = true
  · rw [hk] at KD
    by_cases hm : 2048 < n
    · have e : Hid (v = .iface 189 (.pointer (some a6))) := by show _ = _; rw [hv, ifV, if_pos hk, if_pos hm]; rfl
      have q1 : decide ((2048 : Int) < (n : Int)) = true := by simp; omega
      clear hv h1 h6 h7 hk
      go_enter Tryz.func22, Tryz.ntmps22
      go_wp2_with fail
      refine (KD _).out.mono ?_
      rintro e w' ⟨rfl, rfl⟩
      go_wp2
      go_ret
      exact ⟨by rw [e.out]; rfl, n0⟩
    · have q1 : decide ((2048 : Int) < (n : Int)) = false := by simp; omega
      by_cases h0 : n = 0
      · subst h0
        by_cases h23 : k = 23
        · subst h23
          have e : Hid (v = .nilIface) := by show _ = _; rw [hv, ifV, if_pos hk, if_neg hm, if_neg (by simp)]
          clear hv h1 h6 h7 hk hm
          go_enter Tryz.func22, Tryz.ntmps22
          go_wp2_with fail
          refine (KD _).out.mono ?_
          rintro e w' ⟨rfl, rfl⟩
          go_wp2
          go_ret
          exact ⟨by rw [e.out]; rfl, n0⟩
        · have e : Hid (v = .iface 189 (.pointer (some a7))) := by show _ = _; rw [hv, ifV, if_pos hk, if_neg hm, if_pos ⟨rfl, h23⟩]; rfl
          have q3 : (k != 23) = true := by simp [h23]
          have q4 : decide (k = 23) = false := by simp [h23]
          clear hv h1 h6 h7 hk hm
          go_enter Tryz.func22, Tryz.ntmps22
          go_wp2_with fail
          refine (KD _).out.mono ?_
          rintro e w' ⟨rfl, rfl⟩
          go_wp2
          go_ret
          exact ⟨by rw [e.out]; rfl, n0⟩
      · have e : Hid (v = .nilIface) := by show _ = _; rw [hv, ifV, if_pos hk, if_neg hm, if_neg (fun q => h0 q.1)]
        have q3 : decide ((n : Int) = 0) = false := by simp; omega
        have q4 : ((n : Int) == 0) = false := by simp; omega
        clear hv h1 h6 h7 hk hm h0
        go_enter Tryz.func22, Tryz.ntmps22
        go_wp2_with fail
        refine (KD _).out.mono ?_
        rintro e w' ⟨rfl, rfl⟩
        go_wp2
        go_ret
        exact ⟨by rw [e.out]; rfl, n0⟩
  · have e : Hid (v = .iface 189 (.pointer (some a1))) := by show _ = _; rw [hv, ifV, if_neg hk]; rfl
    have hk' : isK k = false := by simpa using hk
    rw [hk'] at KD
    clear hv h1 h6 h7 hk hk'
    go_enter Tryz.func22, Tryz.ntmps22
    go_wp2_with fail
    refine (KD _).out.mono ?_
    rintro e w' ⟨rfl, rfl⟩
    go_wp2
    go_ret
    exact ⟨by rw [e.out]; rfl, n0⟩
def Rbg (b : Nat) (xs : List Int) : Fact := ⟨fun v w => RowB w b v xs, fun n h => h.up n⟩
def B3g (l0 : Lst) (xs ys : List Int) : Fact :=
  ⟨fun v w => ∃ (b g : Nat) (a : Option Addr) (c g' : Nat) (a' : Option Addr) (c' : Nat), v = .slice (some ⟨b, 0, none⟩) 3 3 ∧ Lsts w b [l0, ⟨g, a, c, xs⟩, ⟨g', a', c', ys⟩] ∧ (Rd w g a .u8 xs ∧ (a = none → c = 0)) ∧ (Rd w g' a' .u8 ys ∧ (a' = none → c' = 0)), fun n h => by
    obtain ⟨b, g, a, c, g', a', c', e, l, r, z⟩ := h
    exact ⟨b, g, a, c, g', a', c', e, l.up n, ⟨r.1.up n, r.2⟩, ⟨z.1.up n, z.2⟩⟩⟩
theorem bs3_runN (w : World) (a1 a2 a3 : Option Addr) (n1 n2 n3 c1 c2 c3 : Nat) : (Instr.buildSlice 25 3 #[(0, .slice a1 n1 c1), (1, .slice a2 n2 c2), (2, .slice a3 n3 c3)]).run Tryz.prog w = .ok (.slice (some ⟨w.heap.size, 0, none⟩) 3 3) (w.alloc (.cells #[.slice a1 n1 c1, .slice a2 n2 c2, .slice a3 n3 c3] 22)) := by
  kernel_rfl
theorem lsts_threeN (w : World) (t : TypeId) (a b c : Lst) : Lsts (w.alloc (.cells #[.slice a.a a.xs.length a.c, .slice b.a b.xs.length b.c, .slice c.a c.xs.length c.c] t)) w.heap.size [a, b, c] := by
  intro j x hj
  match j, hj with
  | 0, hj => simp at hj; subst hj; simp [World.cell?_alloc_at]
  | 1, hj => simp at hj; subst hj; simp [World.cell?_alloc_at]
  | 2, hj => simp at hj; subst hj; simp [World.cell?_alloc_at]
theorem step_bs3N {ops : Array Oper} {Q : Exit → Act → World → Prop} {md : Region.Mode} {F : Nat → Fact} {a0 : Act} {w0 : World} {i : Nat} {o : Oper} {B B' : Nat} {xs ys : List Int} {l0 : Lst} (hi : ops[i]? = some o) (p q s j k m : Nat) (hop : o.op = .buildSlice 25 3 #[(0, .tmp p), (1, .tmp q), (2, .tmp s)])
    (hj : waits md ops i j p = true) (hk : waits md ops i k q = true) (hm : waits md ops i m s = true) (hFj : F j = Fact.eq (.slice l0.a l0.xs.length l0.c)) (hFk : F k = Rbg B xs) (hFm : F m = Rbg B' ys) (hFi : F i = B3g l0 xs ys) : StepOk Tryz.prog md ops Q F a0 w0 i := by
  refine step_grow hi fun a w _ _ hf => ?_
  have h1 := hf j p hj
  have h2 := hf k q hk
  have h3 := hf m s hm
  rw [hFj] at h1
  rw [hFk] at h2
  rw [hFm] at h3
  obtain ⟨a2, c2, g2, e2, r2, z2, _, _⟩ := RowB.rd h2
  obtain ⟨a3, c3, g3, e3, r3, z3, _, _⟩ := RowB.rd h3
  have x1 : a.eval (.tmp p) = .slice l0.a l0.xs.length l0.c := h1
  have x2 : a.eval (.tmp q) = .slice a2 xs.length c2 := e2
  have x3 : a.eval (.tmp s) = .slice a3 ys.length c3 := e3
  have gg : (#[(0, Operand.tmp p), (1, Operand.tmp q), (2, Operand.tmp s)].map fun (n, x) => (n, a.eval x)) = #[(0, Value.slice l0.a l0.xs.length l0.c), (1, .slice a2 xs.length c2), (2, .slice a3 ys.length c3)] := by simp [x1, x2, x3]
  have n9 : Below w.heap.size w (w.alloc (.cells #[.slice l0.a l0.xs.length l0.c, .slice a2 xs.length c2, .slice a3 ys.length c3] 22)) := (Below.refl _ _).alloc (Nat.le_refl _) _
  refine ⟨.slice (some ⟨w.heap.size, 0, none⟩) 3 3, _, ?_, n9, ?_⟩
  · simp only [execOp, hop, gg]
    rw [Sem.run_bind, bs3_runN]
    rfl
  · rw [hFi]
    exact ⟨w.heap.size, g2, a2, c2, g3, a3, c3, rfl, lsts_threeN w 22 l0 ⟨g2, a2, c2, xs⟩ ⟨g3, a3, c3, ys⟩, ⟨r2.up n9, z2⟩, ⟨r3.up n9, z3⟩⟩
theorem step_makeN {ops : Array Oper} {Q : Exit → Act → World → Prop} {md : Region.Mode} {F : Nat → Fact} {a0 : Act} {w0 : World} {i : Nat} {o : Oper} {n : Nat} (hn : n ≤ 1048576) (hi : ops[i]? = some o) (p j : Nat) (hop : o.op = .makeSlice 22 (.tmp p) (.tmp p)) (hj : waits md ops i j p = true) (hFj : F j = Fact.eq (.int .i64 (n : Int))) (hF : F i = Rbg w0.heap.size (List.replicate n 0)) : StepOk Tryz.prog md ops Q F a0 w0 i := by
  obtain ⟨i0, h1, hz0, hz1, hz2⟩ := info_parts Tryz.info5
  refine step_grow hi fun a w _ hw hf => ?_
  have h2 := hf j p hj
  rw [hFj] at h2
  have x1 : a.eval (.tmp p) = .int .i64 (n : Int) := h2
  obtain ⟨w', hrun, hown, hgrow⟩ := run_make_full (P := Tryz.prog) w w.heap.size 22 5 i0 (.int .u8 0) 1 Tryz.underlying22 h1 hz0 hz1 .i64 .i64 n (by rw [hz2]; omega) (by unfold maxLen; omega) (Nat.le_refl _)
  have hN0 : Below w.heap.size w w' := (Below.refl _ _).grown hgrow (Nat.le_refl _) (by simp)
  refine ⟨.slice (some ⟨w.heap.size, 0, none⟩) n n, w', by simp [execOp, hop, hrun, x1], hN0, ?_⟩
  rw [hF]
  have R : RowB w' w.heap.size (.slice (some ⟨w.heap.size, 0, none⟩) n n) (List.replicate n 0) := by
    unfold RowB
    rw [List.length_replicate]
    have e : (madeCells (Value.int .u8 0).cells (n * 1)).toList = List.map (Value.int .u8) (List.replicate n 0) := by simp [madeCells, Value.cells, Nat.mod_one, List.map_const']
    rw [← e]
    exact hown
  exact R.base hw.size
def inL (k : Int) (xs : List Int) (pad : Nat) : List Int := xs ++ (bigL k 1 ++ List.replicate pad 0)
theorem inL_len (k : Int) (xs : List Int) (pad : Nat) : (inL k xs pad).length = xs.length + 1 + pad := by simp [inL, bigL_len]; omega
theorem cat3N (a b c : Lst) : cat [a, b, c] = a.xs ++ (b.xs ++ c.xs) := by simp [cat]
set_option maxHeartbeats 4000000 in
theorem padded_any (w : World) (k : Int) (l0 : Lst) (r0 : Rd w l0.g l0.a .u8 l0.xs) (z0 : l0.a = none → l0.c = 0) (m0 : l0.xs.length ≤ 1048576) (pad : Nat) (hp : pad ≤ 1048576) :
    Calls Tryz.prog 23 #[.agg #[.int .i64 k, .slice l0.a l0.xs.length l0.c], .int .i64 (pad : Int)] w fun e w' => ∃ v, e = .returned v ∧ RowB w' w.heap.size v (inL k l0.xs pad) ∧ Below w.heap.size w w' := by
  have N : Below w.heap.size w (w.alloc (.cells #[.int .i64 k, .slice l0.a l0.xs.length l0.c] 55)) := (Below.refl _ _).alloc (Nat.le_refl _) _
  have k0 : (w.alloc (.cells #[.int .i64 k, .slice l0.a l0.xs.length l0.c] 55)).cell? ⟨w.heap.size, 0, none⟩ = some (.int .i64 k) := by simp [World.cell?_alloc_at]
  have k1 : (w.alloc (.cells #[.int .i64 k, .slice l0.a l0.xs.length l0.c] 55)).cell? ⟨w.heap.size, 1, none⟩ = some (.slice l0.a l0.xs.length l0.c) := by simp [World.cell?_alloc_at]
  have r0 := r0.up N
  go_enter Tryz.func23, Tryz.ntmps23
  go_upto_region 1 with fail
  generalize w.alloc (.cells #[.int .i64 k, .slice l0.a l0.xs.length l0.c] 55) = wb at *
  have ql := block_lt_of_cell k0
  have cu : ∀ {W : World}, Below wb.heap.size wb W → ∀ i, W.cell? ⟨w.heap.size, i, none⟩ = wb.cell? ⟨w.heap.size, i, none⟩ := fun n i => World.cell?_of_block (a := ⟨w.heap.size, i, none⟩) (n.block w.heap.size ql)
  refine region_end 10 (fun i => [Fact.eq (.pointer (some ⟨w.heap.size, 1, none⟩)), Fact.eq (.slice l0.a l0.xs.length l0.c), Fact.eq (.pointer (some ⟨w.heap.size, 0, none⟩)), Fact.eq (.int .i64 k), Rbg wb.heap.size (bigL k 1), Fact.eq (.int .i64 (pad : Int)), Rbg wb.heap.size (List.replicate pad 0), B3g l0 (bigL k 1) (List.replicate pad 0), Rbg wb.heap.size (inL k l0.xs pad), Rbg wb.heap.size (inL k l0.xs pad)].getD i Fact.no) (by kernel_rfl) (by kernel_rfl) rfl ?_ ?_
  · intro i hi
    obtain rfl | rfl | rfl | rfl | rfl | rfl | rfl | rfl | rfl | rfl : i = 0 ∨ i = 1 ∨ i = 2 ∨ i = 3 ∨ i = 4 ∨ i = 5 ∨ i = 6 ∨ i = 7 ∨ i = 8 ∨ i = 9 := by omega
    · refine step_pure rfl fun A ww hb hw hf => ?_
      have e0 : A.tmps[2]?.getD undef = .pointer (some ⟨w.heap.size, 0, none⟩) := gdv (hb.2.2 2 (by kernel_rfl))
      exact ⟨.pointer (some ⟨w.heap.size, 1, none⟩), by simp [go_sem, e0], rfl⟩
    · refine step_pure rfl fun A ww hb hw hf => ?_
      have e0 : A.tmps[5]?.getD undef = .pointer (some ⟨w.heap.size, 1, none⟩) := gdv (hf 0 5 (by kernel_rfl))
      have hc : ww.cell? ⟨w.heap.size, 1, none⟩ = some (.slice l0.a l0.xs.length l0.c) := (cu hw 1).trans k1
      exact ⟨.slice l0.a l0.xs.length l0.c, by simp [go_sem, e0, hc], rfl⟩
    · refine step_pure rfl fun A ww hb hw hf => ?_
      have e0 : A.tmps[2]?.getD undef = .pointer (some ⟨w.heap.size, 0, none⟩) := gdv (hb.2.2 2 (by kernel_rfl))
      exact ⟨.pointer (some ⟨w.heap.size, 0, none⟩), by simp [go_sem, e0], rfl⟩
    · refine step_pure rfl fun A ww hb hw hf => ?_
      have e0 : A.tmps[7]?.getD undef = .pointer (some ⟨w.heap.size, 0, none⟩) := gdv (hf 2 7 (by kernel_rfl))
      have hc : ww.cell? ⟨w.heap.size, 0, none⟩ = some (.int .i64 k) := (cu hw 0).trans k0
      exact ⟨.int .i64 k, by simp [go_sem, e0, hc], rfl⟩
    · refine step_callv rfl 37 _ _ rfl (by kernel_rfl) fun A ww hb hw hf => ?_
      have e6 : A.tmps.getD 8 undef = .int .i64 k := hf 3 8 (by kernel_rfl)
      show Calls Tryz.prog 37 #[.slice none 0 0, A.tmps.getD 8 undef, .int .i64 1] ww _
      rw [e6]
      refine (appendNum_any ww ww.heap.size (.slice none 0 0) [] (RowB.nilN ww _) (Nat.le_refl _) k 1 (by decide) (by simp)).mono ?_
      rintro r w' ⟨x, rfl, R, n⟩
      exact ⟨x, rfl, n, R.base hw.size⟩
    · refine step_pure rfl fun A ww hb hw hf => ?_
      have e0 : A.tmps[1]?.getD undef = .int .i64 (pad : Int) := gdv (hb.2.2 1 (by kernel_rfl))
      exact ⟨.int .i64 (pad : Int), by simp [go_sem, e0], rfl⟩
    · exact step_makeN hp rfl 10 5 rfl (by kernel_rfl) rfl rfl
    · exact step_bs3N rfl 6 9 11 1 4 6 rfl (by kernel_rfl) (by kernel_rfl) (by kernel_rfl) rfl rfl rfl rfl
    · refine step_callv rfl 36 _ _ rfl (by kernel_rfl) fun A ww hb hw hf => ?_
      obtain ⟨b, g, a, c, g', a', c', e16, L, R, Z⟩ := hf 7 12 (by kernel_rfl)
      show Calls Tryz.prog 36 #[A.tmps.getD 12 undef] ww _
      rw [e16]
      have lb := bigL_len k 1
      have CC := concatB_any ww b 3 3 [l0, ⟨g, a, c, bigL k 1⟩, ⟨g', a', c', List.replicate pad 0⟩] rfl (by omega) L (by
        intro x hx
        simp only [List.mem_cons, List.not_mem_nil, or_false] at hx
        rcases hx with rfl | rfl | rfl
        · exact ⟨r0.up hw, z0⟩
        · exact R
        · exact Z) (by rw [cat3N]; simp only [List.length_append]; omega) (by rw [cat3N]; simp only [List.length_append, List.length_replicate]; omega)
      rw [cat3N] at CC
      exact CC.mono (by rintro r w' ⟨⟨x, rfl, R'⟩, n⟩; exact ⟨x, rfl, n, R'.base hw.size⟩)
    · refine step_pure rfl fun A ww hb hw hf => ?_
      have e17 := hf 8 13 (by kernel_rfl)
      exact ⟨A.tmps.getD 13 undef, by simp [go_sem], e17⟩
  intro A W hb hw hF
  have e2 := hF 9 4 (by kernel_rfl)
  obtain ⟨vs, hvs⟩ : ∃ vs : Nat → Value, ∀ d, A.tmps.getD d undef = vs d := ⟨_, fun _ => rfl⟩
  rw [hvs] at e2
  rw [puts_of (md := .any) (k := 10) (by kernel_rfl) rfl hb vs hvs]
  clear hb hF hvs k0 k1 r0 z0 cu
  simp only [puts, Act.put, List.setIfInBounds_toArray, List.set_cons_succ, List.set_cons_zero]
  generalize vs 4 = v2 at *
  go_wp2
  go_ret
  exact ⟨_, rfl, RowB.base (show RowB W wb.heap.size v2 _ from e2) N.size, nxt N hw⟩
end Go.Proofs.YtkpomobhjkikeaaGreatDoor
namespace Go.Proofs.YtkpomobhjkikeaaGreatDoor
set_option maxRecDepth 100000
open Go Go.RowKit
theorem RowB.parts {w : World} {base : Nat} {v : Value} {xs : List Int} (h : RowB w base v xs) (h0 : 0 < xs.length) :
    ∃ (g cap : Nat), v = .slice (some ⟨g, 0, none⟩) xs.length cap ∧ base ≤ g ∧ xs.length ≤ cap ∧ (∀ i, i < xs.length → w.cell? ⟨g, i, none⟩ = some (.int .u8 (xs.getD i 0))) ∧ (∀ i, w.frozen? ⟨g, i, none⟩ = false) ∧
      (∀ i z, i < xs.length → RowB (w.setCell ⟨g, i, none⟩ (.int .u8 z)) base v (xs.set i z)) ∧ (∀ n, n ≤ xs.length → RowB w base (.slice (some ⟨g, 0, none⟩) n cap) (xs.take n)) := by
  obtain ⟨hl, ⟨_, h2⟩ | ⟨g, cap, cur, rfl, hb, hg, hn, hm, hs, ht⟩⟩ := h
  · omega
  · have hs' : cur.size = cap := by omega
    rw [Nat.mul_one] at ht
    have hcell : ∀ i, i < xs.length → cur[i]? = some (.int .u8 (xs.getD i 0)) := fun i hi => by
      have := congrArg (fun l => l[i]?) ht
      simp only [List.getElem?_take, if_pos hi, List.getElem?_map, Array.getElem?_toList] at this
      rw [this, List.getElem?_eq_getElem hi, List.getD_eq_getElem?_getD, List.getElem?_eq_getElem hi]
      rfl
    refine ⟨g, cap, rfl, hb, hn, fun i hi => ?_, fun i => ?_, fun i z hi => ⟨by simp, .inr ⟨g, cap, cur.setIfInBounds i (.int .u8 z), by simp, hb, ?_, by simpa using hn, hm, by simpa using hs, ?_⟩⟩, fun n hn' => ⟨by simp, .inr ⟨g, cap, cur, by rw [List.length_take, Nat.min_eq_left hn'], hb, hg, by rw [List.length_take]; omega, hm, hs, ?_⟩⟩⟩
    · simp [World.cell?, hg, hcell i hi]
    · simp [World.frozen?, hg]
    · show (w.heap.modify g _)[g]? = _
      rw [Array.getElem?_modify, if_pos rfl, hg]
      rfl
    · rw [Nat.mul_one, List.length_set, Array.toList_setIfInBounds, List.take_set, ht, List.map_set]
    · rw [Nat.mul_one, List.length_take, Nat.min_eq_left hn', List.map_take, ← ht, List.take_take, Nat.min_eq_left hn']
end Go.Proofs.YtkpomobhjkikeaaGreatDoor
