import Derived.RegionTactic
import Derived.Test.YtfckjoheiabfoaaBase
import Derived.Deep.MidRow
import Derived.Test.YtfckjoheiabfoaaMgV
import Derived.Test.YtfckjoheiabfoaaMgU0
import Derived.Deep.Cut
import Derived.Test.YtfckjoheiabfoaaMgT
import Derived.Test.YtfckjoheiabfoaaMgA
import Derived.Deep.QuietTactic
import Derived.BigQuiet
import Derived.Test.YtfckjoheiabfoaaMgR
import Derived.Test.YtfckjoheiabfoaaMgI
import Derived.Test.YtfckjoheiabfoaaHelp

/-
  A region that draws its order, by a fact for each of its operations: each operation is looked at once, in whatever world that has grown out of the first, with the facts of those that it waits for. No program in sight.
-/
namespace Go.Proofs.Ytfckjoheiabfoaa
open Go Go.RowKit

/-- What is told of an operation's value; it lasts while the memory only grows. -/
structure Fact where
  p : Value → World → Prop
  up : ∀ {v : Value} {w w' : World}, Below w.heap.size w w' → p v w → p v w'

section
variable {P : Program} {ops : Array Oper} {Q : Exit → Act → World → Prop} {md : Region.Mode} {F : Nat → Fact} {a0 : Act} {w0 : World}

/-- No operation writes slot d. -/
def apart (ops : Array Oper) (d : Nat) : Bool := ops.all fun o => o.dst != some d
/-- All slots that no operation writes are as they were. -/
def Based (ops : Array Oper) (a0 a : Act) : Prop := a.defers = a0.defers ∧ a.tmps.size = a0.tmps.size ∧ ∀ d, apart ops d = true → a.tmps.getD d undef = a0.tmps.getD d undef
/-- Number i waits for number j, which writes slot d. -/
def waits (md : Region.Mode) (ops : Array Oper) (i j d : Nat) : Bool :=
  match ops[i]?, ops[j]? with
  | some o, some oj => o.after.any (fun e => Region.binds md e && e.on == j) && oj.dst == some d
  | _, _ => false
/-- What the law asks of the region's text; n: how many slots; k: the number of the one that is looked at last, or behind the end. -/
def textOk (md : Region.Mode) (ops : Array Oper) (n k : Nat) : Bool :=
  (ops.all fun o => o.guard.isNone && (match o.dst with | some d => decide (d < n) | none => true))
  && ((List.range ops.size).all fun i => match ops[i]? with
    | some o => o.after.all (fun e => !Region.binds md e || decide (e.on < i)) && (List.range i).all fun j => match ops[j]? with
      | some x => x.dst.isNone || o.dst != x.dst
      | none => true
    | none => true)
  && decide (k ≤ ops.size ∧ ops.size ≤ k + 1)
  && (k == ops.size || (List.range k).all fun j => (List.range (k + 1)).any fun m => decide (j < m) && match ops[m]? with
    | some o => o.after.any (fun e => Region.binds md e && e.on == j)
    | none => false)

/-- What holds while the region is under way. -/
structure Held (md : Region.Mode) (ops : Array Oper) (F : Nat → Fact) (a0 : Act) (w0 : World) (listed : Array Bool) (a : Act) (w : World) : Prop where
  b : Based ops a0 a
  n : Below w0.heap.size w0 w
  f : ∀ i o d, ops[i]? = some o → listed.getD i false = true → o.dst = some d → (F i).p (a.tmps.getD d undef) w
  c : ∀ i o, ops[i]? = some o → listed.getD i false = true → ∀ e ∈ o.after, Region.binds md e = true → listed.getD e.on false = true
  s : listed.size = ops.size

/-- One operation, with the facts of those that it waits for. -/
def StepOk (P : Program) (md : Region.Mode) (ops : Array Oper) (Q : Exit → Act → World → Prop) (F : Nat → Fact) (a0 : Act) (w0 : World) (i : Nat) : Prop :=
  ∀ o, ops[i]? = some o → ∀ a w, Based ops a0 a → Below w0.heap.size w0 w → (∀ j d, waits md ops i j d = true → (F j).p (a.tmps.getD d undef) w) →
    ∀ K : Act → World → Prop, (∀ v w', Below w.heap.size w w' → (F i).p v w' → K (a.put o.dst v) w') → o.wp P a w K Q

/-- How many have not come up. -/
def left (listed : Array Bool) : Nat → Nat
  | 0 => 0
  | n + 1 => left listed n + if listed.getD n true = false then 1 else 0
theorem left_zero {listed : Array Bool} : ∀ {n : Nat}, left listed n = 0 → ∀ i, i < n → listed.getD i true = true
  | 0, _, i, hi => by omega
  | n + 1, h, i, hi => by
    unfold left at h
    rcases Nat.lt_or_ge i n with h1 | h1
    · exact left_zero (by omega) i h1
    · obtain rfl : i = n := by omega
      cases hc : listed.getD i true
      · rw [hc] at h; simp at h
      · rfl
theorem getD_same {listed : Array Bool} {i : Nat} (h : i < listed.size) (d : Bool) : (listed.setIfInBounds i true).getD i d = true := by
  simp [Array.getD_eq_getD_getElem?, h]
theorem getD_off {listed : Array Bool} {i j : Nat} (h : i ≠ j) (d : Bool) : (listed.setIfInBounds i true).getD j d = listed.getD j d := by
  simp [Array.getD_eq_getD_getElem?, h]
theorem left_le {listed : Array Bool} {i : Nat} (hi : i < listed.size) : ∀ n, left (listed.setIfInBounds i true) n ≤ left listed n
  | 0 => Nat.le_refl _
  | n + 1 => by
    unfold left
    have h := left_le hi n
    by_cases e : i = n
    · subst e
      rw [getD_same hi]
      simp
      omega
    · rw [getD_off e]
      omega
theorem left_set {listed : Array Bool} {i : Nat} (hs : i < listed.size) (h : listed.getD i true = false) : ∀ n, i < n → left (listed.setIfInBounds i true) n + 1 ≤ left listed n
  | 0, hi => by omega
  | n + 1, hi => by
    unfold left
    by_cases e : i = n
    · subst e
      rw [getD_same hs, h]
      have := left_le hs i
      simp
      omega
    · rw [getD_off e]
      have := left_set hs h n (by omega)
      omega
theorem dflt {listed : Array Bool} {i : Nat} (h : i < listed.size) : listed.getD i true = listed.getD i false := by
  simp [Array.getD_eq_getD_getElem?, h]

theorem put_at {a : Act} {d : Nat} {v : Value} (h : d < a.tmps.size) : (a.put (some d) v).tmps.getD d undef = v := by
  simp [Act.put, Array.getD_eq_getD_getElem?, h]
theorem put_off {a : Act} {dst : Option Tmp} {d : Nat} {v : Value} (h : dst ≠ some d) : (a.put dst v).tmps.getD d undef = a.tmps.getD d undef := by
  cases dst with
  | none => rfl
  | some e =>
    have : e ≠ d := fun x => h (by rw [x])
    simp [Act.put, Array.getD_eq_getD_getElem?, this]
theorem put_size (a : Act) (dst : Option Tmp) (v : Value) : (a.put dst v).tmps.size = a.tmps.size := by
  cases dst <;> simp [Act.put]
theorem put_defers (a : Act) (dst : Option Tmp) (v : Value) : (a.put dst v).defers = a.defers := by
  cases dst <;> rfl

/-- What the look at the text gives. -/
structure Text (md : Region.Mode) (ops : Array Oper) (n k : Nat) : Prop where
  g : ∀ (i : Nat) o, ops[i]? = some o → o.guard = none
  d : ∀ (i : Nat) o d, ops[i]? = some o → o.dst = some d → d < n
  a : ∀ (i : Nat) o, ops[i]? = some o → ∀ e ∈ o.after, Region.binds md e = true → e.on < i
  x : ∀ (i j : Nat) o o' d, ops[i]? = some o → ops[j]? = some o' → i ≠ j → o.dst = some d → o'.dst ≠ some d
  k1 : k ≤ ops.size
  k2 : ops.size ≤ k + 1
  c : k < ops.size → ∀ j, j < k → ∃ (m : Nat) (o : Oper), j < m ∧ m ≤ k ∧ ops[m]? = some o ∧ ∃ e ∈ o.after, Region.binds md e = true ∧ e.on = j
theorem text_of {n k : Nat} (h : textOk md ops n k = true) : Text md ops n k := by
  unfold textOk at h
  simp only [Bool.and_eq_true, decide_eq_true_eq] at h
  obtain ⟨⟨⟨h1, h2⟩, h3⟩, h4⟩ := h
  rw [Array.all_eq_true_iff_forall_mem] at h1
  rw [List.all_eq_true] at h2
  have H : ∀ (i j : Nat) o o' d, j < i → ops[i]? = some o → ops[j]? = some o' → o.dst = some d → o'.dst ≠ some d := by
    intro i j o o' d hij hi hj hd hd'
    have q := h2 i (List.mem_range.2 (Array.getElem?_eq_some_iff.1 hi).1)
    simp only [hi, Bool.and_eq_true] at q
    have r := List.all_eq_true.1 q.2 j (List.mem_range.2 hij)
    simp only [hj, hd, hd'] at r
    simp at r
  refine ⟨?_, ?_, ?_, ?_, h3.1, h3.2, ?_⟩
  · intro i o ho
    have q := h1 o (Array.mem_of_getElem? ho)
    simp only [Bool.and_eq_true] at q
    exact Option.isNone_iff_eq_none.1 q.1
  · intro i o d ho hd
    have q := h1 o (Array.mem_of_getElem? ho)
    simp only [Bool.and_eq_true, hd, decide_eq_true_eq] at q
    exact q.2
  · intro i o ho e he hb
    have q := h2 i (List.mem_range.2 (Array.getElem?_eq_some_iff.1 ho).1)
    simp only [ho, Bool.and_eq_true] at q
    have r := (Array.all_eq_true_iff_forall_mem.1 q.1) e he
    rw [hb] at r
    simpa using r
  · intro i j o o' d hi hj hij hd hd'
    rcases Nat.lt_or_gt_of_ne hij with h | h
    · exact H j i o' o d h hj hi hd' hd
    · exact H i j o o' d h hi hj hd hd'
  · intro hk j hj
    have h4' : ((List.range k).all fun j => (List.range (k + 1)).any fun m => decide (j < m) && match ops[m]? with
        | some o => o.after.any (fun e => Region.binds md e && e.on == j)
        | none => false) = true := by
      rcases Bool.or_eq_true _ _ ▸ h4 with q | q
      · simp at q; omega
      · exact q
    have q := List.all_eq_true.1 h4' j (List.mem_range.2 hj)
    obtain ⟨m, hm, r⟩ := List.any_eq_true.1 q
    simp only [Bool.and_eq_true, decide_eq_true_eq] at r
    cases ho : ops[m]? with
    | none => rw [ho] at r; simp at r
    | some o =>
      rw [ho] at r
      obtain ⟨e, he, hb⟩ := Array.any_eq_true'.1 r.2
      simp only [Bool.and_eq_true, beq_iff_eq] at hb
      exact ⟨m, o, r.1, by have := List.mem_range.1 hm; omega, ho, e, he, hb.1, hb.2⟩

theorem all_listed {n k : Nat} (T : Text md ops n k) {listed : Array Bool} (hs : listed.size = ops.size) (h : Region.ready md ops listed = []) : ∀ m i, i < m → i < ops.size → listed.getD i false = true
  | 0, i, hi, _ => by omega
  | m + 1, i, hi, hl => by
    rcases Nat.lt_or_ge i m with h1 | h1
    · exact all_listed T hs h m i h1 hl
    · obtain rfl : i = m := by omega
      cases hc : listed.getD i false
      · exfalso
        obtain ⟨o, ho⟩ : ∃ o, ops[i]? = some o := ⟨ops[i], by simp [hl]⟩
        have hr : i ∈ Region.ready md ops listed := mem_ready.2 ⟨by rw [dflt (by omega)]; exact hc, o, ho, fun e he hb => all_listed T hs h i e.on (T.a i o ho e he hb) (by have := T.a i o ho e he hb; omega)⟩
        rw [h] at hr
        simp at hr
      · rfl
/-- Behind the one that is looked at last stand all others. -/
theorem all_ahead {n k : Nat} (T : Text md ops n k) (hk : k < ops.size) {listed : Array Bool} {a : Act} {w : World} (H : Held md ops F a0 w0 listed a w)
    (hr : k ∈ Region.ready md ops listed) : ∀ m j, k - j ≤ m → j < k → listed.getD j false = true
  | 0, j, hm, hj => by omega
  | m + 1, j, hm, hj => by
    obtain ⟨p, o, hjp, hpk, ho, e, he, hb, rfl⟩ := T.c hk j hj
    rcases Nat.lt_or_ge p k with h1 | h1
    · exact H.c p o ho (all_ahead T hk H hr m p (by omega) h1) e he hb
    · obtain rfl : p = k := by omega
      obtain ⟨_, o', ho', q⟩ := mem_ready.1 hr
      obtain rfl := Option.some.inj (ho.symm.trans ho')
      exact q e he hb

theorem Held.next {n k : Nat} (T : Text md ops n k) (hn : n ≤ a0.tmps.size) {listed : Array Bool} {a : Act} {w : World} (H : Held md ops F a0 w0 listed a w) {i : Nat} {o : Oper} (ho : ops[i]? = some o) (hr : i ∈ Region.ready md ops listed)
    {v : Value} {w' : World} (hw : Below w.heap.size w w') (hf : (F i).p v w') : Held md ops F a0 w0 (listed.setIfInBounds i true) (a.put o.dst v) w' := by
  have hi : i < ops.size := (Array.getElem?_eq_some_iff.1 ho).1
  have hz : a.tmps.size = a0.tmps.size := H.b.2.1
  refine ⟨⟨by rw [put_defers]; exact H.b.1, by rw [put_size]; exact hz, fun d hd => ?_⟩, nxt H.n hw, ?_, ?_, by simp [H.s]⟩
  · rw [put_off]
    · exact H.b.2.2 d hd
    · have q := Array.all_eq_true_iff_forall_mem.1 hd o (Array.mem_of_getElem? ho)
      simpa using q
  · intro j oj d hoj hj hd
    by_cases e : i = j
    · subst e
      obtain rfl := Option.some.inj (ho.symm.trans hoj)
      rw [hd, put_at (Nat.lt_of_lt_of_le (T.d i o d ho hd) (hz ▸ hn))]
      exact hf
    · rw [getD_off e] at hj
      rw [put_off (T.x j i oj o d hoj ho (Ne.symm e) hd)]
      exact (F j).up hw (H.f j oj d hoj hj hd)
  · intro j oj hoj hj e he hb
    obtain ⟨_, o', ho', q⟩ := mem_ready.1 hr
    by_cases c : i = e.on
    · rw [← c]
      exact getD_same (by rw [H.s]; exact hi) _
    · rw [getD_off c]
      by_cases e' : i = j
      · subst e'
        obtain rfl := Option.some.inj (ho'.symm.trans hoj)
        exact q e he hb
      · rw [getD_off e'] at hj
        exact H.c j oj hoj hj e he hb

theorem any_facts {n k : Nat} (T : Text md ops n k) (hn : n ≤ a0.tmps.size) (steps : ∀ i, i < k → StepOk P md ops Q F a0 w0 i)
    (fin : ∀ a w, Based ops a0 a → Below w0.heap.size w0 w → (∀ i o d, i < k → ops[i]? = some o → o.dst = some d → (F i).p (a.tmps.getD d undef) w) →
      match ops[k]? with
      | none => Q .normal a w
      | some o => o.wp P a w (fun a' w' => Q .normal a' w') Q) :
    ∀ (fuel : Nat) (listed : Array Bool) (a : Act) (w : World), left listed ops.size ≤ fuel → Held md ops F a0 w0 listed a w → listed.getD k false = false → wpAny P md ops Q fuel listed a w := by
  intro fuel
  induction fuel with
  | zero =>
    intro listed a w hl H hk
    have hall : ∀ i, i < ops.size → listed.getD i false = true := fun i hi => by
      rw [← dflt (by rw [H.s]; exact hi)]
      exact left_zero (n := ops.size) (by omega) i hi
    have hke : ops[k]? = none := by
      rcases Nat.lt_or_ge k ops.size with h | h
      · rw [hall k h] at hk; simp at hk
      · simp [h]
    have q := fin a w H.b H.n (fun i o d _ ho hd => H.f i o d ho (hall i (Array.getElem?_eq_some_iff.1 ho).1) hd)
    rw [hke] at q
    refine ⟨?_, q⟩
    cases hr : Region.ready md ops listed with
    | nil => rfl
    | cons i t =>
      have hi : i ∈ Region.ready md ops listed := by rw [hr]; simp
      obtain ⟨h0, o, ho, _⟩ := mem_ready.1 hi
      have hlt := (Array.getElem?_eq_some_iff.1 ho).1
      rw [dflt (by rw [H.s]; exact hlt), hall i hlt] at h0
      simp at h0
  | succ fuel ih =>
    intro listed a w hl H hk
    refine ⟨fun hr => ?_, fun i hi => ?_⟩
    · have hall : ∀ i, i < ops.size → listed.getD i false = true := fun i hi => all_listed T H.s hr (i + 1) i (by omega) hi
      have hke : ops[k]? = none := by
        rcases Nat.lt_or_ge k ops.size with h | h
        · rw [hall k h] at hk; simp at hk
        · simp [h]
      have q := fin a w H.b H.n (fun i o d _ ho hd => H.f i o d ho (hall i (Array.getElem?_eq_some_iff.1 ho).1) hd)
      rw [hke] at q
      exact q
    · obtain ⟨h0, o, ho, hall⟩ := mem_ready.1 hi
      have hlt := (Array.getElem?_eq_some_iff.1 ho).1
      have hwant : Region.wanted o (yielded ops a.tmps) = true := by simp [Region.wanted, T.g i o ho]
      refine wpOp_step ho fun K' hK => ?_
      rw [if_pos hwant]
      have hll := left_set (by rw [H.s]; exact hlt) h0 ops.size hlt
      rcases Nat.lt_or_ge i k with h1 | h1
      · refine steps i h1 o ho a w H.b H.n ?_ K' ?_
        · intro j d hjd
          unfold waits at hjd
          rw [ho] at hjd
          cases hoj : ops[j]? with
          | none => rw [hoj] at hjd; simp at hjd
          | some oj =>
            rw [hoj] at hjd
            simp only [Bool.and_eq_true, beq_iff_eq] at hjd
            obtain ⟨e, he, hb⟩ := Array.any_eq_true'.1 hjd.1
            simp only [Bool.and_eq_true, beq_iff_eq] at hb
            exact H.f j oj d hoj (by rw [← hb.2]; exact hall e he hb.1) hjd.2
        · intro v w' hw hf
          refine hK _ _ (ih _ _ _ (by omega) (H.next T hn ho hi hw hf) ?_)
          rw [getD_off (by omega)]
          exact hk
      · obtain rfl : i = k := by have := T.k2; omega
        have hahead := all_ahead T hlt H hi
        have q := fin a w H.b H.n (fun j oj d hj hoj hd => H.f j oj d hoj (hahead (i - j) j (Nat.le_refl _) hj) hd)
        rw [ho] at q
        refine Oper.wp_mono (fun a' w' h => hK _ _ (wpAny_done ?_ h fuel)) q
        cases hr : Region.ready md ops (listed.setIfInBounds i true) with
        | nil => rfl
        | cons j t =>
          exfalso
          have hj : j ∈ Region.ready md ops (listed.setIfInBounds i true) := by rw [hr]; simp
          obtain ⟨g0, oj, hoj, _⟩ := mem_ready.1 hj
          have hjl := (Array.getElem?_eq_some_iff.1 hoj).1
          by_cases e : i = j
          · subst e
            rw [getD_same (by rw [H.s]; exact hlt)] at g0
            simp at g0
          · rw [getD_off e, dflt (by rw [H.s]; exact hjl), hahead (i - j) j (Nat.le_refl _) (by have := T.k2; omega)] at g0
            simp at g0

/-- The same for a region that goes in its text's order. -/
theorem line_facts {n k : Nat} (T : Text md ops n k) (hn : n ≤ a0.tmps.size) (steps : ∀ i, i < k → StepOk P md ops Q F a0 w0 i)
    (fin : ∀ a w, Based ops a0 a → Below w0.heap.size w0 w → (∀ i o d, i < k → ops[i]? = some o → o.dst = some d → (F i).p (a.tmps.getD d undef) w) →
      match ops[k]? with
      | none => Q .normal a w
      | some o => o.wp P a w (fun a' w' => Q .normal a' w') Q) :
    ∀ (m i : Nat) (a : Act) (w : World), i + m = ops.size → i ≤ k → Based ops a0 a → Below w0.heap.size w0 w → (∀ j o d, j < i → ops[j]? = some o → o.dst = some d → (F j).p (a.tmps.getD d undef) w) →
      wpOps P ops Q (List.range' i m) a w := by
  intro m
  induction m with
  | zero =>
    intro i a w him hik hb hw hf
    obtain rfl : i = k := by have := T.k1; omega
    have q := fin a w hb hw hf
    rw [show ops[i]? = none by simp; omega] at q
    exact q
  | succ m ih =>
    intro i a w him hik hb hw hf
    have hlt : i < ops.size := by omega
    obtain ⟨o, ho⟩ : ∃ o, ops[i]? = some o := ⟨ops[i], by simp [hlt]⟩
    have hwant : Region.wanted o (yielded ops a.tmps) = true := by simp [Region.wanted, T.g i o ho]
    rw [List.range'_succ, wpOps_cons]
    refine wpOp_step ho fun K' hK => ?_
    rw [if_pos hwant]
    rcases Nat.lt_or_ge i k with h1 | h1
    · refine steps i h1 o ho a w hb hw ?_ K' ?_
      · intro j d hjd
        unfold waits at hjd
        rw [ho] at hjd
        cases hoj : ops[j]? with
        | none => rw [hoj] at hjd; simp at hjd
        | some oj =>
          rw [hoj] at hjd
          simp only [Bool.and_eq_true, beq_iff_eq] at hjd
          obtain ⟨e, he, hb⟩ := Array.any_eq_true'.1 hjd.1
          simp only [Bool.and_eq_true, beq_iff_eq] at hb
          exact hf j oj d (by rw [← hb.2]; exact T.a i o ho e he hb.1) hoj hjd.2
      · intro v w' hw' hfv
        refine hK _ _ (ih (i + 1) _ _ (by omega) (by omega) ⟨by rw [put_defers]; exact hb.1, by rw [put_size]; exact hb.2.1, fun d hd => ?_⟩ (nxt hw hw') ?_)
        · rw [put_off]
          · exact hb.2.2 d hd
          · have q := Array.all_eq_true_iff_forall_mem.1 hd o (Array.mem_of_getElem? ho)
            simpa using q
        · intro j oj d hj hoj hd
          by_cases e : i = j
          · subst e
            obtain rfl := Option.some.inj (ho.symm.trans hoj)
            rw [hd, put_at (Nat.lt_of_lt_of_le (T.d i o d ho hd) (by rw [hb.2.1]; exact hn))]
            exact hfv
          · rw [put_off (T.x j i oj o d hoj ho (Ne.symm e) hd)]
            exact (F j).up hw' (hf j oj d (by omega) hoj hd)
    · obtain rfl : i = k := by omega
      have q := fin a w hb hw hf
      rw [ho] at q
      refine Oper.wp_mono (fun a' w' h => hK _ _ ?_) q
      obtain rfl : m = 0 := by have := T.k2; omega
      exact h
/-- The law, whatever the region's kind. -/
theorem region_facts {id : Nat} {w : World} {draw : Bool} (k : Nat) (F : Nat → Fact) (hm : P.follows .mixedOrders = true) (hT : textOk .any ops a0.tmps.size k = true) (steps : ∀ i, i < k → StepOk P .any ops Q F a0 w i)
    (fin : ∀ a w', Based ops a0 a → Below w.heap.size w w' → (∀ i o d, i < k → ops[i]? = some o → o.dst = some d → (F i).p (a.tmps.getD d undef) w') →
      match ops[k]? with
      | none => Q .normal a w'
      | some o => o.wp P a w' (fun a' w'' => Q .normal a' w'') Q) : (Code.region id ops draw).wp P Q a0 w := by
  have T := text_of hT
  cases draw with
  | false =>
    refine wp_region ?_
    have h := line_facts (w0 := w) T (Nat.le_refl _) steps fin ops.size 0 a0 w (by omega) (by omega) ⟨rfl, rfl, fun _ _ => rfl⟩ (Below.refl _ _) (fun j o d hj => by omega)
    rw [List.range_eq_range']
    exact h
  | true =>
    refine wp_region_any hm ?_
    refine any_facts (w0 := w) T (Nat.le_refl _) steps fin ops.size _ a0 _ ?_ ⟨⟨rfl, rfl, fun _ _ => rfl⟩, (Below.refl _ _).drew, ?_, ?_, by simp⟩ ?_
    · have : ∀ m, left (Array.replicate ops.size false) m ≤ m := by
        intro m
        induction m with
        | zero => exact Nat.le_refl _
        | succ m ih => unfold left; split <;> omega
      exact this _
    · intro i o d ho hl _
      rw [Array.getD_eq_getD_getElem?, Array.getElem?_replicate] at hl
      split at hl <;> simp at hl
    · intro i o ho hl
      rw [Array.getD_eq_getD_getElem?, Array.getElem?_replicate] at hl
      split at hl <;> simp at hl
    · rw [Array.getD_eq_getD_getElem?, Array.getElem?_replicate]
      split <;> rfl
/-- Number i writes slot d. -/
def writes (ops : Array Oper) (i d : Nat) : Bool :=
  match ops[i]? with
  | some o => o.dst == some d
  | none => false
/-- What all of them have left. -/
def Full (ops : Array Oper) (F : Nat → Fact) (a : Act) (w : World) : Prop := ∀ i d, writes ops i d = true → (F i).p (a.tmps.getD d undef) w
/-- A region that ends with a store. -/
theorem region_store {id : Nat} {w : World} {draw : Bool} (k : Nat) (o : Oper) (F : Nat → Fact) (hm : P.follows .mixedOrders = true) (hT : textOk .any ops a0.tmps.size k = true) (hk : ops[k]? = some o) (hd : o.dst = none) (steps : ∀ i, i < k → StepOk P .any ops Q F a0 w i)
    (fin : ∀ a w', Based ops a0 a → Below w.heap.size w w' → Full ops F a w' → o.wp P a w' (fun a' w'' => Q .normal a' w'') Q) : (Code.region id ops draw).wp P Q a0 w := by
  refine region_facts k F hm hT steps fun a w' hb hw hf => ?_
  rw [hk]
  refine fin a w' hb hw fun i d hi => ?_
  unfold writes at hi
  cases ho : ops[i]? with
  | none => rw [ho] at hi; simp at hi
  | some oi =>
    rw [ho] at hi
    have hi' : oi.dst = some d := by simpa using hi
    have T := text_of hT
    refine hf i oi d ?_ ho hi'
    have h1 := (Array.getElem?_eq_some_iff.1 ho).1
    have h2 := T.k2
    rcases Nat.lt_or_ge i k with h | h
    · exact h
    · obtain rfl : i = k := by omega
      obtain rfl := Option.some.inj (hk.symm.trans ho)
      rw [hd] at hi'
      simp at hi'
/-- A region without one. -/
theorem region_end {id : Nat} {w : World} {draw : Bool} (k : Nat) (F : Nat → Fact) (hm : P.follows .mixedOrders = true) (hT : textOk .any ops a0.tmps.size k = true) (hk : ops[k]? = none) (steps : ∀ i, i < k → StepOk P .any ops Q F a0 w i)
    (fin : ∀ a w', Based ops a0 a → Below w.heap.size w w' → Full ops F a w' → Q .normal a w') : (Code.region id ops draw).wp P Q a0 w := by
  refine region_facts k F hm hT steps fun a w' hb hw hf => ?_
  rw [hk]
  refine fin a w' hb hw fun i d hi => ?_
  unfold writes at hi
  cases ho : ops[i]? with
  | none => rw [ho] at hi; simp at hi
  | some oi =>
    rw [ho] at hi
    have h1 := (Array.getElem?_eq_some_iff.1 ho).1
    have h2 : ops.size ≤ k := by simpa using hk
    exact hf i oi d (by omega) ho (by simpa using hi)

/-- The frame behind the region, written out. -/
def puts (vs : Nat → Value) (a0 : Act) : List Oper → Act
  | [] => a0
  | o :: rest => match o.dst with
    | some d => puts vs (a0.put (some d) (vs d)) rest
    | none => puts vs a0 rest
theorem puts_size (vs : Nat → Value) : ∀ (l : List Oper) (a : Act), (puts vs a l).tmps.size = a.tmps.size ∧ (puts vs a l).defers = a.defers
  | [], _ => ⟨rfl, rfl⟩
  | o :: rest, a => by
    unfold puts
    cases o.dst with
    | none => exact puts_size vs rest a
    | some d =>
      have := puts_size vs rest (a.put (some d) (vs d))
      exact ⟨this.1.trans (put_size _ _ _), this.2.trans (put_defers _ _ _)⟩
theorem puts_get (vs : Nat → Value) (d : Nat) : ∀ (l : List Oper) (a : Act), (∀ o ∈ l, ∀ e, o.dst = some e → e < a.tmps.size) → (puts vs a l).tmps.getD d undef = if l.any (fun o => o.dst == some d) then vs d else a.tmps.getD d undef
  | [], _, _ => by simp [puts]
  | o :: rest, a, h => by
    unfold puts
    cases ho : o.dst with
    | none =>
      rw [puts_get vs d rest a (fun o' h' => h o' (List.mem_cons_of_mem _ h'))]
      simp [ho]
    | some e =>
      have he := h o (List.mem_cons_self) e ho
      simp only
      rw [puts_get vs d rest _ (fun o' h' => by rw [put_size]; exact h o' (List.mem_cons_of_mem _ h'))]
      by_cases c : e = d
      · subst c
        rw [put_at he]
        simp [ho]
      · rw [put_off (by simpa using c)]
        simp [ho, c]
theorem puts_of {n k : Nat} (hT : textOk md ops n k = true) (hn : n = a0.tmps.size) {a : Act} (hb : Based ops a0 a) (vs : Nat → Value) (hv : ∀ d, a.tmps.getD d undef = vs d) : a = puts vs a0 ops.toList := by
  have T := text_of hT
  have hin : ∀ o ∈ ops.toList, ∀ e, o.dst = some e → e < a0.tmps.size := fun o ho e he => by
    obtain ⟨i, hi⟩ := List.getElem?_of_mem ho
    have := T.d i o e (by simpa using hi) he
    rw [hn] at this
    exact this
  obtain ⟨s1, s2⟩ := puts_size vs ops.toList a0
  obtain ⟨ta, da⟩ := a
  obtain ⟨h1, h2, h3⟩ := hb
  have e1 : ta = (puts vs a0 ops.toList).tmps := by
    apply Array.ext
    · rw [s1]; exact h2
    · intro i hi hi'
      have g := puts_get vs i ops.toList a0 hin
      have l : ta[i] = ta.getD i undef := by simp [Array.getD_eq_getD_getElem?, hi]
      have r : (puts vs a0 ops.toList).tmps[i] = (puts vs a0 ops.toList).tmps.getD i undef := by simp only [Array.getD_eq_getD_getElem?, Array.getElem?_eq_getElem hi', Option.getD_some]
      rw [l, r, g]
      by_cases c : ops.toList.any (fun o => o.dst == some i) = true
      · rw [if_pos c]; exact hv i
      · rw [if_neg c]
        refine h3 i ?_
        unfold apart
        rw [Array.all_eq_true_iff_forall_mem]
        intro o ho
        have hne : ¬ (o.dst == some i) = true := fun x => c (List.any_eq_true.2 ⟨o, by simpa using ho, x⟩)
        simpa using hne
  have e2 : da = (puts vs a0 ops.toList).defers := h1.trans s2.symm
  subst e1
  subst e2
  rfl
end
end Go.Proofs.Ytfckjoheiabfoaa

/-
  Regions by facts: values that are known, steps that are plain, loads.
-/
namespace Go.Proofs.Ytfckjoheiabfoaa
open Go Go.RowKit

def Fact.eq (v0 : Value) : Fact := ⟨fun v _ => v = v0, fun _ h => h⟩
def Fact.no : Fact := ⟨fun _ _ => True, fun _ h => h⟩

section
variable {P : Program} {ops : Array Oper} {Q : Exit → Act → World → Prop} {md : Region.Mode} {F : Nat → Fact} {a0 : Act} {w0 : World}
def Facts (md : Region.Mode) (ops : Array Oper) (F : Nat → Fact) (i : Nat) (a : Act) (w : World) : Prop := ∀ j d, waits md ops i j d = true → (F j).p (a.tmps.getD d undef) w
theorem step_pure {i : Nat} {o : Oper} (hi : ops[i]? = some o)
    (G : ∀ a w, Based ops a0 a → Below w0.heap.size w0 w → Facts md ops F i a w → ∃ v, (execOp a.eval o).run P w = .ok (.value v) w ∧ (F i).p v w) : StepOk P md ops Q F a0 w0 i := by
  intro o' ho' a w hb hw hf K hK
  obtain rfl := Option.some.inj (hi.symm.trans ho')
  obtain ⟨v, hr, hv⟩ := G a w hb hw hf
  unfold Oper.wp
  rw [hr]
  exact hK v w (Below.refl _ _) hv
/-- Something is made. -/
theorem step_grow {i : Nat} {o : Oper} (hi : ops[i]? = some o)
    (G : ∀ a w, Based ops a0 a → Below w0.heap.size w0 w → Facts md ops F i a w → ∃ v w', (execOp a.eval o).run P w = .ok (.value v) w' ∧ Below w.heap.size w w' ∧ (F i).p v w') : StepOk P md ops Q F a0 w0 i := by
  intro o' ho' a w hb hw hf K hK
  obtain rfl := Option.some.inj (hi.symm.trans ho')
  obtain ⟨v, w', hr, hn, hv⟩ := G a w hb hw hf
  unfold Oper.wp
  rw [hr]
  exact hK v w' hn hv
theorem step_load {i : Nat} {o : Oper} (hi : ops[i]? = some o) (ty : TypeId) (x : Operand) (hop : o.op = .load ty x) (d : TypeDesc) (n : Nat) (hu : P.underlying ty = some d) (hd : d.isRow = true) (hs : (P.info? ty).map (·.size) = some n)
    (G : ∀ a w, Based ops a0 a → Below w0.heap.size w0 w → Facts md ops F i a w → ∃ b off cs, a.eval x = .pointer (some ⟨b, off, none⟩) ∧ w.rangeAt b off cs ∧ cs.length = n ∧ (F i).p (.agg cs.toArray) w) : StepOk P md ops Q F a0 w0 i := by
  intro o' ho' a w hb hw hf K hK
  obtain rfl := Option.some.inj (hi.symm.trans ho')
  obtain ⟨b, off, cs, hx, hc, hl, hv⟩ := G a w hb hw hf
  exact wp_load_mid ty x hop b off hx cs d hc hu hd (by rw [hl]; exact hs) (hK _ _ (Below.refl _ _) hv)
/-- A function of the program with a body. -/
def enters (P : Program) (n : FuncId) : Bool :=
  match P.funcs[n]? with
  | some fn => !(fn.name == "runtime.NumGoroutine") && fn.body.isSome
  | none => false
theorem run_enter {n : FuncId} (h : enters P n = true) (args : Array Value) (w : World) : (callFunc n args).run P w = .ok (.enter n args) w := by
  unfold enters at h
  cases hq : P.funcs[n]? with
  | none => rw [hq] at h; simp at h
  | some fn =>
    rw [hq] at h
    simp only [Bool.and_eq_true, Bool.not_eq_true'] at h
    have h2 : fn.body ≠ none := fun e => by rw [e] at h; simp at h
    have h1 : ¬ fn.name = "runtime.NumGoroutine" := by simpa using h.1
    simp [callFunc, hq, h1, h2]
theorem based_at {a : Act} (hb : Based ops a0 a) (p : Nat) (hp : apart ops p = true) : a.eval (.tmp p) = a0.tmps.getD p undef := hb.2.2 p hp
end
end Go.Proofs.Ytfckjoheiabfoaa

/-
  Regions by facts: values that are known, calls that only read. (The steps are written by regv.py.)
-/
namespace Go.Proofs.Ytfckjoheiabfoaa
open Go Go.RowKit

theorem gdv {a : Act} {p : Nat} {v : Value} (h : a.tmps.getD p undef = v) : a.tmps[p]?.getD undef = v := by rw [← h]; simp

section
variable {P : Program} {ops : Array Oper} {Q : Exit → Act → World → Prop} {md : Region.Mode} {F : Nat → Fact} {a0 : Act} {w0 : World}
theorem step_callv {i : Nat} {o : Oper} (hi : ops[i]? = some o) (n : FuncId) (args : Array Operand) (ts : Array TypeId) (hop : o.op = .call { callee := .value (.func n), args := args, argTypes := ts }) (he : enters P n = true)
    (G : ∀ a w, Based ops a0 a → Below w0.heap.size w0 w → Facts md ops F i a w → Calls P n (args.toList.map a.eval).toArray w fun e w' => ∃ v, e = .returned v ∧ Below w.heap.size w w' ∧ (F i).p v w') : StepOk P md ops Q F a0 w0 i := by
  intro o' ho' a w hb hw hf K hK
  obtain rfl := Option.some.inj (hi.symm.trans ho')
  have hr : (execOp a.eval o).run P w = .ok (.enter n (args.map a.eval)) w := by
    have h0 : (Deferred.ofValue (Value.func (Fn.func n) #[] #[]) (args.map a.eval)).run P w = .ok { target := .fn (.func n) #[], args := args.map a.eval } w := by simp [Deferred.ofValue]
    simp [execOp, hop, resolve, invoke, Act.eval, h0, run_enter he]
  have e : args.map a.eval = (args.toList.map a.eval).toArray := by cases args; simp
  unfold Oper.wp
  rw [hr, e, Oper.upon_enter]
  refine (G a w hb hw hf).mono ?_
  rintro e w' ⟨v, rfl, hn, hv⟩
  exact hK v w' hn hv
/-- A region that ends with the storing of a row of known cells, at a place that is known. -/
theorem region_put {id : Nat} {draw : Bool} {w : World} (k jD jV pD pV : Nat) (o : Oper) (F : Nat → Fact) (q off : Nat) (ty : TypeId) (cells : List Value) (hm : P.follows .mixedOrders = true) (hT : textOk .any ops a0.tmps.size k = true) (hk : ops[k]? = some o) (hd : o.dst = none)
    (hop : o.op = .store ty (.tmp pD) (.tmp pV)) (wD : writes ops jD pD = true) (FD : F jD = Fact.eq (.pointer (some ⟨q, off, none⟩))) (wV : writes ops jV pV = true) (FV : F jV = Fact.eq (.agg cells.toArray))
    (hth : ∀ W, Below w.heap.size w W → W.there q off cells.length) (hi : (P.info? ty).map (·.size) = some cells.length) (h1 : cells.toArray.all (·.oneCell') = true) (steps : ∀ i, i < k → StepOk P .any ops Q F a0 w i)
    (fin : ∀ (vs : Nat → Value) (W : World), Below w.heap.size w W → Q .normal (puts vs a0 ops.toList) (W.setCells q off cells)) : (Code.region id ops draw).wp P Q a0 w := by
  refine region_store k o F hm hT hk hd steps fun a W hb hw hF => ?_
  have e1 := hF jD pD wD
  have e2 := hF jV pV wV
  rw [FD] at e1
  rw [FV] at e2
  refine wp_store_mid ty (.tmp pD) (.tmp pV) hop q off cells.toArray e1 e2 (by rw [List.size_toArray]; exact hth W hw) (by rw [List.size_toArray]; exact hi) h1 ?_
  obtain ⟨vs, hvs⟩ : ∃ vs : Nat → Value, ∀ d, a.tmps.getD d undef = vs d := ⟨_, fun _ => rfl⟩
  rw [hd]
  show Q .normal a _
  rw [puts_of hT rfl hb vs hvs]
  exact fin vs W hw
end
end Go.Proofs.Ytfckjoheiabfoaa

/-
  Messages: Hello written out again; typedOf of Hello (written by gens/mgl.py).
-/
namespace Go.Proofs.Ytfckjoheiabfoaa
open Go Go.RowKit

/-- A region that ends with the storing of a row of known cells, at a place that was there. -/
theorem region_putK {P : Program} {ops : Array Oper} {Q : Exit → Act → World → Prop} {a0 : Act} {id : Nat} {draw : Bool} {w : World} (k jV pD pV : Nat) (o : Oper) (F : Nat → Fact) (q : Nat) (ty : TypeId) (cells : List Value) (hm : P.follows .mixedOrders = true) (hT : textOk .any ops a0.tmps.size k = true) (hk : ops[k]? = some o) (hd : o.dst = none)
    (hop : o.op = .store ty (.tmp pD) (.tmp pV)) (hp : apart ops pD = true) (h0 : a0.tmps.getD pD undef = .pointer (some ⟨q, 0, none⟩)) (wV : writes ops jV pV = true) (FV : F jV = Fact.eq (.agg cells.toArray)) (hth : ∀ W, Below w.heap.size w W → W.there q 0 cells.length) (hi : (P.info? ty).map (·.size) = some cells.length) (h1 : cells.toArray.all (·.oneCell') = true) (steps : ∀ i, i < k → StepOk P .any ops Q F a0 w i)
    (fin : ∀ (vs : Nat → Value) (W : World), Below w.heap.size w W → Q .normal (puts vs a0 ops.toList) (W.setCells q 0 cells)) : (Code.region id ops draw).wp P Q a0 w := by
  refine region_store k o F hm hT hk hd steps fun a W hb hw hF => ?_
  have e2 := hF jV pV wV
  rw [FV] at e2
  refine wp_store_mid ty (.tmp pD) (.tmp pV) hop q 0 cells.toArray ((based_at hb pD hp).trans h0) e2 (by rw [List.size_toArray]; exact hth W hw) (by rw [List.size_toArray]; exact hi) h1 ?_
  obtain ⟨vs, hvs⟩ : ∃ vs : Nat → Value, ∀ d, a.tmps.getD d undef = vs d := ⟨_, fun _ => rfl⟩
  rw [hd]
  show Q .normal a _
  rw [puts_of hT rfl hb vs hvs]
  exact fin vs W hw
theorem RwC.there {w : World} {q : Nat} {cs : List Value} {t : TypeId} (h : RwC w q cs t) : w.there q 0 cs.length := fun j hj => by
  rw [Nat.zero_add, h.cell j, h.free j]
  exact ⟨by simp [hj], rfl⟩
theorem only_setM (w : World) (q : Nat) : ∀ (vs : List Value) (o : Nat), Only q w (w.setCells q o vs)
  | [], _ => Only.refl _ _
  | v :: vs, o => (Only.setCell w q o v).trans (only_setM _ q vs (o + 1))
section
variable (w : World) (q : Nat) (t : TypeId) (v ag ea : Int) (a2 a3 a5 a6 a9 : Option Addr) (n2 n3 n5 n6 n9 c2 c3 c5 c6 c9 : Nat) (ho : ByteArray)
theorem bu13 : (Instr.build 31 #[(0, Value.int .i64 1), (1, Value.int .i64 v), (2, Value.slice a2 n2 c2), (3, Value.slice a3 n3 c3), (4, Value.string ho), (5, Value.slice a5 n5 c5), (6, Value.slice a6 n6 c6), (7, Value.int .i64 ag), (8, Value.int .i64 ea), (9, Value.slice a9 n9 c9)]).run Try.prog w = .ok (.agg #[Value.int .i64 1, Value.int .i64 v, Value.slice a2 n2 c2, Value.slice a3 n3 c3, Value.string ho, Value.slice a5 n5 c5, Value.slice a6 n6 c6, Value.int .i64 ag, Value.int .i64 ea, Value.slice a9 n9 c9, Value.bool false, Value.slice none 0 0, Value.slice none 0 0]) w := by kernel_rfl
theorem ex_bu {a : Act} {o : Oper} (hop : o.op = .build 31 #[(0, Operand.const (Value.int .i64 1)), (1, Operand.tmp 20), (2, Operand.tmp 25), (3, Operand.tmp 30), (4, Operand.tmp 34), (5, Operand.tmp 38), (6, Operand.tmp 42), (7, Operand.tmp 46), (8, Operand.tmp 50), (9, Operand.tmp 54)]) (x20 : a.eval (.tmp 20) = Value.int .i64 v) (x25 : a.eval (.tmp 25) = Value.slice a2 n2 c2) (x30 : a.eval (.tmp 30) = Value.slice a3 n3 c3) (x34 : a.eval (.tmp 34) = Value.string ho) (x38 : a.eval (.tmp 38) = Value.slice a5 n5 c5) (x42 : a.eval (.tmp 42) = Value.slice a6 n6 c6) (x46 : a.eval (.tmp 46) = Value.int .i64 ag) (x50 : a.eval (.tmp 50) = Value.int .i64 ea) (x54 : a.eval (.tmp 54) = Value.slice a9 n9 c9) : (execOp a.eval o).run Try.prog w = .ok (.value (.agg #[Value.int .i64 1, Value.int .i64 v, Value.slice a2 n2 c2, Value.slice a3 n3 c3, Value.string ho, Value.slice a5 n5 c5, Value.slice a6 n6 c6, Value.int .i64 ag, Value.int .i64 ea, Value.slice a9 n9 c9, Value.bool false, Value.slice none 0 0, Value.slice none 0 0])) w := by
  have xc : a.eval (.const (.int .i64 1)) = Value.int .i64 1 := rfl
  have gg : (#[(0, Operand.const (Value.int .i64 1)), (1, Operand.tmp 20), (2, Operand.tmp 25), (3, Operand.tmp 30), (4, Operand.tmp 34), (5, Operand.tmp 38), (6, Operand.tmp 42), (7, Operand.tmp 46), (8, Operand.tmp 50), (9, Operand.tmp 54)].map fun (n, x) => (n, a.eval x)) = #[(0, Value.int .i64 1), (1, Value.int .i64 v), (2, Value.slice a2 n2 c2), (3, Value.slice a3 n3 c3), (4, Value.string ho), (5, Value.slice a5 n5 c5), (6, Value.slice a6 n6 c6), (7, Value.int .i64 ag), (8, Value.int .i64 ea), (9, Value.slice a9 n9 c9)] := by simp [x20, x25, x30, x34, x38, x42, x46, x50, x54, xc]
  simp only [execOp, hop, gg]
  rw [Sem.run_bind, bu13]
  rfl
theorem one13 : ([Value.int .i64 1, Value.int .i64 v, Value.slice a2 n2 c2, Value.slice a3 n3 c3, Value.string ho, Value.slice a5 n5 c5, Value.slice a6 n6 c6, Value.int .i64 ag, Value.int .i64 ea, Value.slice a9 n9 c9, Value.bool false, Value.slice none 0 0, Value.slice none 0 0] : List Value).toArray.all (·.oneCell') = true := all_oneCell_toArray fun v hv => by
  simp only [List.mem_cons, List.not_mem_nil, or_false] at hv
  rcases hv with rfl | rfl | rfl | rfl | rfl | rfl | rfl | rfl | rfl | rfl | rfl | rfl | rfl
  all_goals rfl
set_option maxRecDepth 20000 in
set_option maxHeartbeats 4000000 in
theorem plainHello_any (h : RwC w q [Value.int .i64 v, Value.slice a2 n2 c2, Value.slice a3 n3 c3, Value.string ho, Value.slice a5 n5 c5, Value.slice a6 n6 c6, Value.int .i64 ag, Value.int .i64 ea, Value.slice a9 n9 c9] t) :
    Calls Try.prog 30 #[.iface 68 (.pointer (some ⟨q, 0, none⟩))] w fun e w' => e = .returned (.agg #[Value.int .i64 1, Value.int .i64 v, Value.slice a2 n2 c2, Value.slice a3 n3 c3, Value.string ho, Value.slice a5 n5 c5, Value.slice a6 n6 c6, Value.int .i64 ag, Value.int .i64 ea, Value.slice a9 n9 c9, Value.bool false, Value.slice none 0 0, Value.slice none 0 0]) ∧ Below w.heap.size w w' := by
  have lt := h.lt
  have A_hello : ∀ (x : Value) (W : World), (Instr.typeAssert (.iface 68 x) 48 68 true).run Try.prog W = .ok (.tuple #[x, .bool true]) W := fun _ _ => by kernel_rfl
  have RN := RwC.new w (#[Value.int .i64 0, Value.int .i64 0, Value.slice none 0 0, Value.slice none 0 0, Value.string ⟨#[]⟩, Value.slice none 0 0, Value.slice none 0 0, Value.int .i64 0, Value.int .i64 0, Value.slice none 0 0, Value.bool false, Value.slice none 0 0, Value.slice none 0 0] : Array Value).toList 31
  have n0 : Below w.heap.size w (w.alloc (.cells #[Value.int .i64 0, Value.int .i64 0, Value.slice none 0 0, Value.slice none 0 0, Value.string ⟨#[]⟩, Value.slice none 0 0, Value.slice none 0 0, Value.int .i64 0, Value.int .i64 0, Value.slice none 0 0, Value.bool false, Value.slice none 0 0, Value.slice none 0 0] 31)) := (Below.refl _ _).alloc (Nat.le_refl _) _
  obtain ⟨d13, hd13, hrow13⟩ := rowM
  replace h := h.up n0
  have RN : RwC (w.alloc (.cells #[Value.int .i64 0, Value.int .i64 0, Value.slice none 0 0, Value.slice none 0 0, Value.string ⟨#[]⟩, Value.slice none 0 0, Value.slice none 0 0, Value.int .i64 0, Value.int .i64 0, Value.slice none 0 0, Value.bool false, Value.slice none 0 0, Value.slice none 0 0] 31)) w.heap.size (#[Value.int .i64 0, Value.int .i64 0, Value.slice none 0 0, Value.slice none 0 0, Value.string ⟨#[]⟩, Value.slice none 0 0, Value.slice none 0 0, Value.int .i64 0, Value.int .i64 0, Value.slice none 0 0, Value.bool false, Value.slice none 0 0, Value.slice none 0 0] : Array Value).toList 31 := RN
  go_enter Try.func30, Try.ntmps30
  go_upto_region 4 with fail
  generalize w.alloc (.cells #[Value.int .i64 0, Value.int .i64 0, Value.slice none 0 0, Value.slice none 0 0, Value.string ⟨#[]⟩, Value.slice none 0 0, Value.slice none 0 0, Value.int .i64 0, Value.int .i64 0, Value.slice none 0 0, Value.bool false, Value.slice none 0 0, Value.slice none 0 0] 31) = wb at *
  refine region_putK 40 39 2 55 _ (fun i => [Fact.eq (.pointer (some ⟨q, 0, none⟩)), Fact.eq (.pointer (some ⟨q, 0, none⟩)), Fact.eq (.pointer (some ⟨q, 0, none⟩)), Fact.eq (.pointer (some ⟨q, 0, none⟩)), Fact.eq (Value.int .i64 v), Fact.eq (.pointer (some ⟨q, 0, none⟩)), Fact.eq (.pointer (some ⟨q, 0, none⟩)), Fact.eq (.pointer (some ⟨q, 0, none⟩)), Fact.eq (.pointer (some ⟨q, 1, none⟩)), Fact.eq (Value.slice a2 n2 c2), Fact.eq (.pointer (some ⟨q, 0, none⟩)), Fact.eq (.pointer (some ⟨q, 0, none⟩)), Fact.eq (.pointer (some ⟨q, 0, none⟩)), Fact.eq (.pointer (some ⟨q, 2, none⟩)), Fact.eq (Value.slice a3 n3 c3), Fact.eq (.pointer (some ⟨q, 0, none⟩)), Fact.eq (.pointer (some ⟨q, 0, none⟩)), Fact.eq (.pointer (some ⟨q, 3, none⟩)), Fact.eq (Value.string ho), Fact.eq (.pointer (some ⟨q, 0, none⟩)), Fact.eq (.pointer (some ⟨q, 0, none⟩)), Fact.eq (.pointer (some ⟨q, 4, none⟩)), Fact.eq (Value.slice a5 n5 c5), Fact.eq (.pointer (some ⟨q, 0, none⟩)), Fact.eq (.pointer (some ⟨q, 0, none⟩)), Fact.eq (.pointer (some ⟨q, 5, none⟩)), Fact.eq (Value.slice a6 n6 c6), Fact.eq (.pointer (some ⟨q, 0, none⟩)), Fact.eq (.pointer (some ⟨q, 0, none⟩)), Fact.eq (.pointer (some ⟨q, 6, none⟩)), Fact.eq (Value.int .i64 ag), Fact.eq (.pointer (some ⟨q, 0, none⟩)), Fact.eq (.pointer (some ⟨q, 0, none⟩)), Fact.eq (.pointer (some ⟨q, 7, none⟩)), Fact.eq (Value.int .i64 ea), Fact.eq (.pointer (some ⟨q, 0, none⟩)), Fact.eq (.pointer (some ⟨q, 0, none⟩)), Fact.eq (.pointer (some ⟨q, 8, none⟩)), Fact.eq (Value.slice a9 n9 c9), Fact.eq (.agg #[Value.int .i64 1, Value.int .i64 v, Value.slice a2 n2 c2, Value.slice a3 n3 c3, Value.string ho, Value.slice a5 n5 c5, Value.slice a6 n6 c6, Value.int .i64 ag, Value.int .i64 ea, Value.slice a9 n9 c9, Value.bool false, Value.slice none 0 0, Value.slice none 0 0])].getD i Fact.no) w.heap.size 31 [Value.int .i64 1, Value.int .i64 v, Value.slice a2 n2 c2, Value.slice a3 n3 c3, Value.string ho, Value.slice a5 n5 c5, Value.slice a6 n6 c6, Value.int .i64 ag, Value.int .i64 ea, Value.slice a9 n9 c9, Value.bool false, Value.slice none 0 0, Value.slice none 0 0] (by kernel_rfl) (by kernel_rfl) rfl rfl rfl (by kernel_rfl) rfl (by kernel_rfl) rfl (fun W n => (RN.up n).there) iM (one13 _ _ _ _ _ _ _ _ _ _ _ _ _ _ _ _ _ _ _) ?_ ?_
  · intro i hi
    obtain rfl | rfl | rfl | rfl | rfl | rfl | rfl | rfl | rfl | rfl | rfl | rfl | rfl | rfl | rfl | rfl | rfl | rfl | rfl | rfl | rfl | rfl | rfl | rfl | rfl | rfl | rfl | rfl | rfl | rfl | rfl | rfl | rfl | rfl | rfl | rfl | rfl | rfl | rfl | rfl : i = 0 ∨ i = 1 ∨ i = 2 ∨ i = 3 ∨ i = 4 ∨ i = 5 ∨ i = 6 ∨ i = 7 ∨ i = 8 ∨ i = 9 ∨ i = 10 ∨ i = 11 ∨ i = 12 ∨ i = 13 ∨ i = 14 ∨ i = 15 ∨ i = 16 ∨ i = 17 ∨ i = 18 ∨ i = 19 ∨ i = 20 ∨ i = 21 ∨ i = 22 ∨ i = 23 ∨ i = 24 ∨ i = 25 ∨ i = 26 ∨ i = 27 ∨ i = 28 ∨ i = 29 ∨ i = 30 ∨ i = 31 ∨ i = 32 ∨ i = 33 ∨ i = 34 ∨ i = 35 ∨ i = 36 ∨ i = 37 ∨ i = 38 ∨ i = 39 := by omega
    · refine step_pure rfl fun A ww hb hw hf => ?_
      have e3 : A.tmps[3]?.getD undef = .pointer (some ⟨q, 0, none⟩) := gdv (hb.2.2 3 (by kernel_rfl))
      exact ⟨.pointer (some ⟨q, 0, none⟩), by simp [go_sem, e3], rfl⟩
    · refine step_pure rfl fun A ww hb hw hf => ?_
      have e16 : A.tmps[16]?.getD undef = .pointer (some ⟨q, 0, none⟩) := gdv (hf 0 16 (by kernel_rfl))
      exact ⟨.pointer (some ⟨q, 0, none⟩), by simp [go_sem, e16], rfl⟩
    · refine step_pure rfl fun A ww hb hw hf => ?_
      have e17 : A.tmps[17]?.getD undef = .pointer (some ⟨q, 0, none⟩) := gdv (hf 1 17 (by kernel_rfl))
      exact ⟨.pointer (some ⟨q, 0, none⟩), by simp [go_sem, e17], rfl⟩
    · refine step_pure rfl fun A ww hb hw hf => ?_
      have e18 : A.tmps[18]?.getD undef = .pointer (some ⟨q, 0, none⟩) := gdv (hf 2 18 (by kernel_rfl))
      exact ⟨.pointer (some ⟨q, 0, none⟩), by simp [go_sem, e18], rfl⟩
    · refine step_pure rfl fun A ww hb hw hf => ?_
      have e19 : A.tmps[19]?.getD undef = .pointer (some ⟨q, 0, none⟩) := gdv (hf 3 19 (by kernel_rfl))
      have hc : ww.cell? ⟨q, 0, none⟩ = some (Value.int .i64 v) := (h.up hw).cell 0
      exact ⟨Value.int .i64 v, by simp [go_sem, e19, hc], rfl⟩
    · refine step_pure rfl fun A ww hb hw hf => ?_
      have e3 : A.tmps[3]?.getD undef = .pointer (some ⟨q, 0, none⟩) := gdv (hb.2.2 3 (by kernel_rfl))
      exact ⟨.pointer (some ⟨q, 0, none⟩), by simp [go_sem, e3], rfl⟩
    · refine step_pure rfl fun A ww hb hw hf => ?_
      have e21 : A.tmps[21]?.getD undef = .pointer (some ⟨q, 0, none⟩) := gdv (hf 5 21 (by kernel_rfl))
      exact ⟨.pointer (some ⟨q, 0, none⟩), by simp [go_sem, e21], rfl⟩
    · refine step_pure rfl fun A ww hb hw hf => ?_
      have e22 : A.tmps[22]?.getD undef = .pointer (some ⟨q, 0, none⟩) := gdv (hf 6 22 (by kernel_rfl))
      exact ⟨.pointer (some ⟨q, 0, none⟩), by simp [go_sem, e22], rfl⟩
    · refine step_pure rfl fun A ww hb hw hf => ?_
      have e23 : A.tmps[23]?.getD undef = .pointer (some ⟨q, 0, none⟩) := gdv (hf 7 23 (by kernel_rfl))
      exact ⟨.pointer (some ⟨q, 1, none⟩), by simp [go_sem, e23], rfl⟩
    · refine step_pure rfl fun A ww hb hw hf => ?_
      have e24 : A.tmps[24]?.getD undef = .pointer (some ⟨q, 1, none⟩) := gdv (hf 8 24 (by kernel_rfl))
      have hc : ww.cell? ⟨q, 1, none⟩ = some (Value.slice a2 n2 c2) := (h.up hw).cell 1
      exact ⟨Value.slice a2 n2 c2, by simp [go_sem, e24, hc], rfl⟩
    · refine step_pure rfl fun A ww hb hw hf => ?_
      have e3 : A.tmps[3]?.getD undef = .pointer (some ⟨q, 0, none⟩) := gdv (hb.2.2 3 (by kernel_rfl))
      exact ⟨.pointer (some ⟨q, 0, none⟩), by simp [go_sem, e3], rfl⟩
    · refine step_pure rfl fun A ww hb hw hf => ?_
      have e26 : A.tmps[26]?.getD undef = .pointer (some ⟨q, 0, none⟩) := gdv (hf 10 26 (by kernel_rfl))
      exact ⟨.pointer (some ⟨q, 0, none⟩), by simp [go_sem, e26], rfl⟩
    · refine step_pure rfl fun A ww hb hw hf => ?_
      have e27 : A.tmps[27]?.getD undef = .pointer (some ⟨q, 0, none⟩) := gdv (hf 11 27 (by kernel_rfl))
      exact ⟨.pointer (some ⟨q, 0, none⟩), by simp [go_sem, e27], rfl⟩
    · refine step_pure rfl fun A ww hb hw hf => ?_
      have e28 : A.tmps[28]?.getD undef = .pointer (some ⟨q, 0, none⟩) := gdv (hf 12 28 (by kernel_rfl))
      exact ⟨.pointer (some ⟨q, 2, none⟩), by simp [go_sem, e28], rfl⟩
    · refine step_pure rfl fun A ww hb hw hf => ?_
      have e29 : A.tmps[29]?.getD undef = .pointer (some ⟨q, 2, none⟩) := gdv (hf 13 29 (by kernel_rfl))
      have hc : ww.cell? ⟨q, 2, none⟩ = some (Value.slice a3 n3 c3) := (h.up hw).cell 2
      exact ⟨Value.slice a3 n3 c3, by simp [go_sem, e29, hc], rfl⟩
    · refine step_pure rfl fun A ww hb hw hf => ?_
      have e3 : A.tmps[3]?.getD undef = .pointer (some ⟨q, 0, none⟩) := gdv (hb.2.2 3 (by kernel_rfl))
      exact ⟨.pointer (some ⟨q, 0, none⟩), by simp [go_sem, e3], rfl⟩
    · refine step_pure rfl fun A ww hb hw hf => ?_
      have e31 : A.tmps[31]?.getD undef = .pointer (some ⟨q, 0, none⟩) := gdv (hf 15 31 (by kernel_rfl))
      exact ⟨.pointer (some ⟨q, 0, none⟩), by simp [go_sem, e31], rfl⟩
    · refine step_pure rfl fun A ww hb hw hf => ?_
      have e32 : A.tmps[32]?.getD undef = .pointer (some ⟨q, 0, none⟩) := gdv (hf 16 32 (by kernel_rfl))
      exact ⟨.pointer (some ⟨q, 3, none⟩), by simp [go_sem, e32], rfl⟩
    · refine step_pure rfl fun A ww hb hw hf => ?_
      have e33 : A.tmps[33]?.getD undef = .pointer (some ⟨q, 3, none⟩) := gdv (hf 17 33 (by kernel_rfl))
      have hc : ww.cell? ⟨q, 3, none⟩ = some (Value.string ho) := (h.up hw).cell 3
      exact ⟨Value.string ho, by simp [go_sem, e33, hc], rfl⟩
    · refine step_pure rfl fun A ww hb hw hf => ?_
      have e3 : A.tmps[3]?.getD undef = .pointer (some ⟨q, 0, none⟩) := gdv (hb.2.2 3 (by kernel_rfl))
      exact ⟨.pointer (some ⟨q, 0, none⟩), by simp [go_sem, e3], rfl⟩
    · refine step_pure rfl fun A ww hb hw hf => ?_
      have e35 : A.tmps[35]?.getD undef = .pointer (some ⟨q, 0, none⟩) := gdv (hf 19 35 (by kernel_rfl))
      exact ⟨.pointer (some ⟨q, 0, none⟩), by simp [go_sem, e35], rfl⟩
    · refine step_pure rfl fun A ww hb hw hf => ?_
      have e36 : A.tmps[36]?.getD undef = .pointer (some ⟨q, 0, none⟩) := gdv (hf 20 36 (by kernel_rfl))
      exact ⟨.pointer (some ⟨q, 4, none⟩), by simp [go_sem, e36], rfl⟩
    · refine step_pure rfl fun A ww hb hw hf => ?_
      have e37 : A.tmps[37]?.getD undef = .pointer (some ⟨q, 4, none⟩) := gdv (hf 21 37 (by kernel_rfl))
      have hc : ww.cell? ⟨q, 4, none⟩ = some (Value.slice a5 n5 c5) := (h.up hw).cell 4
      exact ⟨Value.slice a5 n5 c5, by simp [go_sem, e37, hc], rfl⟩
    · refine step_pure rfl fun A ww hb hw hf => ?_
      have e3 : A.tmps[3]?.getD undef = .pointer (some ⟨q, 0, none⟩) := gdv (hb.2.2 3 (by kernel_rfl))
      exact ⟨.pointer (some ⟨q, 0, none⟩), by simp [go_sem, e3], rfl⟩
    · refine step_pure rfl fun A ww hb hw hf => ?_
      have e39 : A.tmps[39]?.getD undef = .pointer (some ⟨q, 0, none⟩) := gdv (hf 23 39 (by kernel_rfl))
      exact ⟨.pointer (some ⟨q, 0, none⟩), by simp [go_sem, e39], rfl⟩
    · refine step_pure rfl fun A ww hb hw hf => ?_
      have e40 : A.tmps[40]?.getD undef = .pointer (some ⟨q, 0, none⟩) := gdv (hf 24 40 (by kernel_rfl))
      exact ⟨.pointer (some ⟨q, 5, none⟩), by simp [go_sem, e40], rfl⟩
    · refine step_pure rfl fun A ww hb hw hf => ?_
      have e41 : A.tmps[41]?.getD undef = .pointer (some ⟨q, 5, none⟩) := gdv (hf 25 41 (by kernel_rfl))
      have hc : ww.cell? ⟨q, 5, none⟩ = some (Value.slice a6 n6 c6) := (h.up hw).cell 5
      exact ⟨Value.slice a6 n6 c6, by simp [go_sem, e41, hc], rfl⟩
    · refine step_pure rfl fun A ww hb hw hf => ?_
      have e3 : A.tmps[3]?.getD undef = .pointer (some ⟨q, 0, none⟩) := gdv (hb.2.2 3 (by kernel_rfl))
      exact ⟨.pointer (some ⟨q, 0, none⟩), by simp [go_sem, e3], rfl⟩
    · refine step_pure rfl fun A ww hb hw hf => ?_
      have e43 : A.tmps[43]?.getD undef = .pointer (some ⟨q, 0, none⟩) := gdv (hf 27 43 (by kernel_rfl))
      exact ⟨.pointer (some ⟨q, 0, none⟩), by simp [go_sem, e43], rfl⟩
    · refine step_pure rfl fun A ww hb hw hf => ?_
      have e44 : A.tmps[44]?.getD undef = .pointer (some ⟨q, 0, none⟩) := gdv (hf 28 44 (by kernel_rfl))
      exact ⟨.pointer (some ⟨q, 6, none⟩), by simp [go_sem, e44], rfl⟩
    · refine step_pure rfl fun A ww hb hw hf => ?_
      have e45 : A.tmps[45]?.getD undef = .pointer (some ⟨q, 6, none⟩) := gdv (hf 29 45 (by kernel_rfl))
      have hc : ww.cell? ⟨q, 6, none⟩ = some (Value.int .i64 ag) := (h.up hw).cell 6
      exact ⟨Value.int .i64 ag, by simp [go_sem, e45, hc], rfl⟩
    · refine step_pure rfl fun A ww hb hw hf => ?_
      have e3 : A.tmps[3]?.getD undef = .pointer (some ⟨q, 0, none⟩) := gdv (hb.2.2 3 (by kernel_rfl))
      exact ⟨.pointer (some ⟨q, 0, none⟩), by simp [go_sem, e3], rfl⟩
    · refine step_pure rfl fun A ww hb hw hf => ?_
      have e47 : A.tmps[47]?.getD undef = .pointer (some ⟨q, 0, none⟩) := gdv (hf 31 47 (by kernel_rfl))
      exact ⟨.pointer (some ⟨q, 0, none⟩), by simp [go_sem, e47], rfl⟩
    · refine step_pure rfl fun A ww hb hw hf => ?_
      have e48 : A.tmps[48]?.getD undef = .pointer (some ⟨q, 0, none⟩) := gdv (hf 32 48 (by kernel_rfl))
      exact ⟨.pointer (some ⟨q, 7, none⟩), by simp [go_sem, e48], rfl⟩
    · refine step_pure rfl fun A ww hb hw hf => ?_
      have e49 : A.tmps[49]?.getD undef = .pointer (some ⟨q, 7, none⟩) := gdv (hf 33 49 (by kernel_rfl))
      have hc : ww.cell? ⟨q, 7, none⟩ = some (Value.int .i64 ea) := (h.up hw).cell 7
      exact ⟨Value.int .i64 ea, by simp [go_sem, e49, hc], rfl⟩
    · refine step_pure rfl fun A ww hb hw hf => ?_
      have e3 : A.tmps[3]?.getD undef = .pointer (some ⟨q, 0, none⟩) := gdv (hb.2.2 3 (by kernel_rfl))
      exact ⟨.pointer (some ⟨q, 0, none⟩), by simp [go_sem, e3], rfl⟩
    · refine step_pure rfl fun A ww hb hw hf => ?_
      have e51 : A.tmps[51]?.getD undef = .pointer (some ⟨q, 0, none⟩) := gdv (hf 35 51 (by kernel_rfl))
      exact ⟨.pointer (some ⟨q, 0, none⟩), by simp [go_sem, e51], rfl⟩
    · refine step_pure rfl fun A ww hb hw hf => ?_
      have e52 : A.tmps[52]?.getD undef = .pointer (some ⟨q, 0, none⟩) := gdv (hf 36 52 (by kernel_rfl))
      exact ⟨.pointer (some ⟨q, 8, none⟩), by simp [go_sem, e52], rfl⟩
    · refine step_pure rfl fun A ww hb hw hf => ?_
      have e53 : A.tmps[53]?.getD undef = .pointer (some ⟨q, 8, none⟩) := gdv (hf 37 53 (by kernel_rfl))
      have hc : ww.cell? ⟨q, 8, none⟩ = some (Value.slice a9 n9 c9) := (h.up hw).cell 8
      exact ⟨Value.slice a9 n9 c9, by simp [go_sem, e53, hc], rfl⟩
    · refine step_pure rfl fun A ww hb hw hf => ?_
      have x20 : A.eval (.tmp 20) = Value.int .i64 v := hf 4 20 (by kernel_rfl)
      have x25 : A.eval (.tmp 25) = Value.slice a2 n2 c2 := hf 9 25 (by kernel_rfl)
      have x30 : A.eval (.tmp 30) = Value.slice a3 n3 c3 := hf 14 30 (by kernel_rfl)
      have x34 : A.eval (.tmp 34) = Value.string ho := hf 18 34 (by kernel_rfl)
      have x38 : A.eval (.tmp 38) = Value.slice a5 n5 c5 := hf 22 38 (by kernel_rfl)
      have x42 : A.eval (.tmp 42) = Value.slice a6 n6 c6 := hf 26 42 (by kernel_rfl)
      have x46 : A.eval (.tmp 46) = Value.int .i64 ag := hf 30 46 (by kernel_rfl)
      have x50 : A.eval (.tmp 50) = Value.int .i64 ea := hf 34 50 (by kernel_rfl)
      have x54 : A.eval (.tmp 54) = Value.slice a9 n9 c9 := hf 38 54 (by kernel_rfl)
      exact ⟨.agg #[Value.int .i64 1, Value.int .i64 v, Value.slice a2 n2 c2, Value.slice a3 n3 c3, Value.string ho, Value.slice a5 n5 c5, Value.slice a6 n6 c6, Value.int .i64 ag, Value.int .i64 ea, Value.slice a9 n9 c9, Value.bool false, Value.slice none 0 0, Value.slice none 0 0], ex_bu ww v ag ea a2 a3 a5 a6 a9 n2 n3 n5 n6 n9 c2 c3 c5 c6 c9 ho rfl x20 x25 x30 x34 x38 x42 x46 x50 x54, rfl⟩

  intro vs W hw
  have th := (RN.up hw).there
  have RR := World.rangeAt_setCells_same W w.heap.size 0 [Value.int .i64 1, Value.int .i64 v, Value.slice a2 n2 c2, Value.slice a3 n3 c3, Value.string ho, Value.slice a5 n5 c5, Value.slice a6 n6 c6, Value.int .i64 ag, Value.int .i64 ea, Value.slice a9 n9 c9, Value.bool false, Value.slice none 0 0, Value.slice none 0 0] th
  have OQ := only_setM W w.heap.size [Value.int .i64 1, Value.int .i64 v, Value.slice a2 n2 c2, Value.slice a3 n3 c3, Value.string ho, Value.slice a5 n5 c5, Value.slice a6 n6 c6, Value.int .i64 ag, Value.int .i64 ea, Value.slice a9 n9 c9, Value.bool false, Value.slice none 0 0, Value.slice none 0 0] 0
  have N2 : Below w.heap.size w (W.setCells w.heap.size 0 [Value.int .i64 1, Value.int .i64 v, Value.slice a2 n2 c2, Value.slice a3 n3 c3, Value.string ho, Value.slice a5 n5 c5, Value.slice a6 n6 c6, Value.int .i64 ag, Value.int .i64 ea, Value.slice a9 n9 c9, Value.bool false, Value.slice none 0 0, Value.slice none 0 0]) := (nxt n0 hw).trans (OQ.below (Nat.le_refl _))
  generalize W.setCells w.heap.size 0 [Value.int .i64 1, Value.int .i64 v, Value.slice a2 n2 c2, Value.slice a3 n3 c3, Value.string ho, Value.slice a5 n5 c5, Value.slice a6 n6 c6, Value.int .i64 ag, Value.int .i64 ea, Value.slice a9 n9 c9, Value.bool false, Value.slice none 0 0, Value.slice none 0 0] = W2 at *
  simp only [puts, Act.put, List.setIfInBounds_toArray, List.set_cons_succ, List.set_cons_zero]
  clear OQ th RN h
  go_wp2
  exact bodyPost_ret (v := .agg #[Value.int .i64 1, Value.int .i64 v, Value.slice a2 n2 c2, Value.slice a3 n3 c3, Value.string ho, Value.slice a5 n5 c5, Value.slice a6 n6 c6, Value.int .i64 ag, Value.int .i64 ea, Value.slice a9 n9 c9, Value.bool false, Value.slice none 0 0, Value.slice none 0 0]) (results_cellM Try.results30 _ _ w.heap.size [Value.int .i64 1, Value.int .i64 v, Value.slice a2 n2 c2, Value.slice a3 n3 c3, Value.string ho, Value.slice a5 n5 c5, Value.slice a6 n6 c6, Value.int .i64 ag, Value.int .i64 ea, Value.slice a9 n9 c9, Value.bool false, Value.slice none 0 0, Value.slice none 0 0] d13 rfl RR hd13 hrow13 iM) rfl ⟨rfl, N2⟩
end
/-- What Hello takes over. -/
def helloM (m : Msg) : Msg := { msg0 with k := 1, v := m.v, r := m.r, s := m.s, ho := m.ho, pr := m.pr, ti := m.ti, ag := m.ag, ea := m.ea, bi := m.bi }
def helloQ (p : MQ) : MQ := { mq0 with a2 := p.a2, c2 := p.c2, g2 := p.g2, a3 := p.a3, c3 := p.c3, g3 := p.g3, a5 := p.a5, c5 := p.c5, g5 := p.g5, a6 := p.a6, c6 := p.c6, g6 := p.g6, a9 := p.a9, c9 := p.c9, g9 := p.g9 }
theorem helloM_is {m : Msg} (i : IsM m) : IsM (helloM m) := ⟨i.rB, i.sB, i.tiB, i.biB, byt0, none0 rfl, i.rL, i.sL, i.prL, i.tiL, i.biL, Nat.zero_le _, Nat.zero_le _, none0 rfl, i.hoL, i.prZ⟩
theorem helloM_has {w : World} {p : MQ} {m : Msg} (h : HasM w p m) : HasM w (helloQ p) (helloM m) := ⟨h.r, h.s, h.pr, h.ti, h.bi, rdL0 _ _ _ _, rd0 _ _ _ _, h.prC⟩
theorem typedHello_any (w : World) (p : MQ) (m : Msg) (h : HasM w p m) (i : IsM m) (hk : m.k = 1) :
    Calls Try.prog 20 #[.agg (mgV p m)] w (TyP w (sameM (helloM m) m) 68 72 [.int .i64 m.v, .slice p.a2 m.r.length p.c2, .slice p.a3 m.s.length p.c3, .string ⟨⟨m.ho⟩⟩, .slice p.a5 m.pr.length p.c5, .slice p.a6 m.ti.length p.c6, .int .i64 m.ag, .int .i64 m.ea, .slice p.a9 m.bi.length p.c9] (heF m.v m.r.length m.s.length m.ho m.pr m.ti.length m.bi.length m.ag m.ea)) := by
  obtain ⟨k, v, r, s, ho, pr, ti, ag, ea, bi, rs, ce, pf⟩ := m
  simp only at hk
  subst hk
  exact typedHello_walk w v ag ea p.a2 p.a3 p.a5 p.a6 p.a9 p.a11 p.a12 r.length s.length pr.length ti.length bi.length ce.length pf.length p.c2 p.c3 p.c5 p.c6 p.c9 p.c11 p.c12 ⟨⟨ho⟩⟩ rs (mgV (helloQ p) (helloM ⟨1, v, r, s, ho, pr, ti, ag, ea, bi, rs, ce, pf⟩)) (sameM (helloM ⟨1, v, r, s, ho, pr, ti, ag, ea, bi, rs, ce, pf⟩) ⟨1, v, r, s, ho, pr, ti, ag, ea, bi, rs, ce, pf⟩) _
    (fun W q R => helloTake_any W q _ _ _ _ _ _ _ _ _ _ _ _ _ _ _ _ _ _ _ _ _ _ _ _ _ _ _ _ _ _ _ _ _ _ _ _ _ R)
    (fun W q R => plainHello_any W q _ _ _ _ _ _ _ _ _ _ _ _ _ _ _ _ _ _ _ _ R)
    (fun W n => isSame_any W (helloQ p) p _ _ (helloM_has (h.up n)) (h.up n) (helloM_is i) i)
    (fun W q n R => (helloFault_any W q _ _ _ _ _ _ _ _ _ _ _ _ _ _ _ p.g5 _ _ _ _ i.rL i.sL i.tiL i.biL i.hoL (h.pr.up n) h.prC i.prL i.prZ (R.cell 0) (R.cell 1) (R.cell 2) (R.cell 3) (R.cell 4) (R.cell 5) (R.cell 6) (R.cell 7) (R.cell 8)).mono (by rintro e w' ⟨rfl, rfl⟩; exact ⟨rfl, Below.refl _ _⟩))
end Go.Proofs.Ytfckjoheiabfoaa

/-
  The program's MessageFault (written by gens/mgw.py).
-/
namespace Go.Proofs.Ytfckjoheiabfoaa
open Go Go.RowKit

/-- What is wrong with a message of a known kind. -/
def kfF (m : Msg) : Option (Msg × Int) := if m.k = 1 then some (helloM m, heF m.v m.r.length m.s.length m.ho m.pr m.ti.length m.bi.length m.ag m.ea) else if m.k = 2 then some (answerM m, fpF m.v m.r.length m.s.length) else if m.k = 4 then some (ticketM m, tiF m.ag m.ea m.r.length m.ti.length) else if m.k = 5 then some (endM m, 0) else if m.k = 8 then some (extrasM m, exF m.pr m.ea) else if m.k = 11 then some (certsM m, ceF m.ce) else if m.k = 15 then some (proofM m, pfF 64 m.pf.length) else if m.k = 20 then some (finishedM m, pfF 32 m.pf.length) else if m.k = 24 then some (updateM m, upF m.ea) else none
def mfF (m : Msg) : Int :=
  match kfF m with
  | none => 1
  | some (m', f) => if sameM m' m = true then f else 2
set_option maxHeartbeats 1000000 in
theorem mf_core (w : World) (vs : Array Value) (x0 x1 x2 x3 x4 x5 x6 x7 x8 x9 x10 x11 x12 : Value) (hv : vs = #[x0, x1, x2, x3, x4, x5, x6, x7, x8, x9, x10, x11, x12]) (f : Int)
    (C : ∀ W, Below w.heap.size w W → Calls Try.prog 20 #[.agg vs] W fun e w' => (∃ v, e = .returned (.tuple #[v, .int .i64 f])) ∧ Below W.heap.size W w') :
    Calls Try.prog 7 #[.agg vs] w fun e w' => e = .returned (.int .i64 f) ∧ Below w.heap.size w w' := by
  subst hv
  have n0 : Below w.heap.size w (w.alloc (.cells #[x0, x1, x2, x3, x4, x5, x6, x7, x8, x9, x10, x11, x12] 31)) := (Below.refl _ _).alloc (Nat.le_refl _) _
  have CC := hide (C _ n0)
  have N0 := hide n0
  have RG := RwC.range (RwC.new w [x0, x1, x2, x3, x4, x5, x6, x7, x8, x9, x10, x11, x12] 31)
  obtain ⟨d13, hd13, hrow13⟩ := rowM
  clear C n0
  go_enter Try.func7, Try.ntmps7
  go_wp2_with fail
  refine CC.out.mono ?_
  rintro e w1 ⟨⟨v, rfl⟩, n1⟩
  go_wp2
  go_ret
  exact ⟨rfl, nxt N0.out n1⟩
theorem mf_of {w : World} {s : Bool} {T S : TypeId} {fs : List Value} {f : Int} {e : Ending} {w' : World} (h : TyP w s T S fs f e w') : (∃ v, e = .returned (.tuple #[v, .int .i64 (if s = true then f else 2)])) ∧ Below w.heap.size w w' := by
  obtain ⟨h | h, n⟩ := h
  · obtain ⟨rfl, rfl⟩ := h
    exact ⟨⟨_, rfl⟩, n⟩
  · obtain ⟨rfl, q, rfl, _, _⟩ := h
    exact ⟨⟨_, rfl⟩, n⟩
theorem implMF_any (w : World) (p : MQ) (m : Msg) (h : HasM w p m) (i : IsM m) :
    Calls Try.prog 7 #[.agg (mgV p m)] w fun e w' => e = .returned (.int .i64 (mfF m)) ∧ Below w.heap.size w w' := by
  refine mf_core w (mgV p m) _ _ _ _ _ _ _ _ _ _ _ _ _ rfl (mfF m) fun W n => ?_
  unfold mfF kfF
  by_cases h1 : m.k = 1
  · rw [if_pos h1]
    exact (typedHello_any W p m (h.up n) i h1).mono fun e w' => mf_of
  by_cases h2 : m.k = 2
  · rw [if_neg h1, if_pos h2]
    exact (typedAnswer_any W p m (h.up n) i h2).mono fun e w' => mf_of
  by_cases h4 : m.k = 4
  · rw [if_neg h1, if_neg h2, if_pos h4]
    exact (typedTicket_any W p m (h.up n) i h4).mono fun e w' => mf_of
  by_cases h5 : m.k = 5
  · rw [if_neg h1, if_neg h2, if_neg h4, if_pos h5]
    exact (typedEnd_any W p m (h.up n) i h5).mono fun e w' => mf_of
  by_cases h8 : m.k = 8
  · rw [if_neg h1, if_neg h2, if_neg h4, if_neg h5, if_pos h8]
    exact (typedExtras_any W p m (h.up n) i h8).mono fun e w' => mf_of
  by_cases h11 : m.k = 11
  · rw [if_neg h1, if_neg h2, if_neg h4, if_neg h5, if_neg h8, if_pos h11]
    exact (typedCerts_any W p m (h.up n) i h11).mono fun e w' => mf_of
  by_cases h15 : m.k = 15
  · rw [if_neg h1, if_neg h2, if_neg h4, if_neg h5, if_neg h8, if_neg h11, if_pos h15]
    exact (typedProof_any W p m (h.up n) i h15).mono fun e w' => mf_of
  by_cases h20 : m.k = 20
  · rw [if_neg h1, if_neg h2, if_neg h4, if_neg h5, if_neg h8, if_neg h11, if_neg h15, if_pos h20]
    exact (typedFinished_any W p m (h.up n) i h20).mono fun e w' => mf_of
  by_cases h24 : m.k = 24
  · rw [if_neg h1, if_neg h2, if_neg h4, if_neg h5, if_neg h8, if_neg h11, if_neg h15, if_neg h20, if_pos h24]
    exact (typedUpdate_any W p m (h.up n) i h24).mono fun e w' => mf_of
  rw [if_neg h1, if_neg h2, if_neg h4, if_neg h5, if_neg h8, if_neg h11, if_neg h15, if_neg h20, if_neg h24]
  refine (typedNone_any W m.k m.v m.ag m.ea p.a2 p.a3 p.a5 p.a6 p.a9 p.a11 p.a12 m.r.length m.s.length m.pr.length m.ti.length m.bi.length m.ce.length m.pf.length p.c2 p.c3 p.c5 p.c6 p.c9 p.c11 p.c12 ⟨⟨m.ho⟩⟩ m.rs ?_).mono ?_
  · unfold regV
    rw [if_neg h1, if_neg h2, if_neg h4, if_neg h5, if_neg h8, if_neg h11, if_neg h15, if_neg h20, if_neg h24]
  · rintro e w' ⟨rfl, n'⟩
    exact ⟨⟨_, rfl⟩, n'⟩
end Go.Proofs.Ytfckjoheiabfoaa

/-
  What the model asks of a message, as truths (written by gens/mha.py).
-/
namespace Go.Proofs.Ytfckjoheiabfoaa
open Go Go.RowKit

def ex6 (vb rb he an tk : Bool) : Bool := (vb && !he && !an) || (rb && !he && !an && !tk)
def ex8 (sb hb pb he an ex : Bool) : Bool := (sb && !he && !an) || (hb && !he) || (pb && !he && !ex)
def ex10 (tb gb bb he tk : Bool) : Bool := (tb && !he && !tk) || (gb && !he && !tk) || (bb && !he)
def ex12 (eb he tk ex nu : Bool) : Bool := eb && !he && !tk && !ex && nu
def ex14 (rs an cb nc fb np nf : Bool) : Bool := (rs && !an) || (cb && nc) || (fb && np && nf)
def si2 (v0 v1 : Bool) : Bool := v0 || v1
def si4 (he an tk r2 : Bool) : Bool := (he || an || tk) && r2
def si6 (he an s2 : Bool) : Bool := (he || an) && s2
def si8 (pf p6 ff p3 : Bool) : Bool := (pf && p6) || (ff && p3)
def siR (he tb b3 b0 g0 e0 : Bool) : Bool := if (he && tb) = true then b3 else if he = true then b0 && g0 && e0 else true
end Go.Proofs.Ytfckjoheiabfoaa

/-
  The model's l13Known and l13Protocols.
-/
namespace Go.Proofs.Ytfckjoheiabfoaa
open Go Go.RowKit

/-- The kinds. -/
def kinds : List Int := [1, 2, 4, 5, 8, 11, 15, 20, 24]
set_option maxHeartbeats 1000000 in
theorem l12Has_any (w : World) (g : Nat) (a : Option Addr) (c : Nat) (ls : List Int) (x : Int) (hr : Rd w g a .i64 ls) (hn : ls.length ≤ 1048576) :
    Calls Try.prog 25 #[.slice a ls.length c, .int .i64 x] w fun e w' => e = .returned (.bool (decide (x ∈ ls))) ∧ w' = w := by
  go_enter Try.func25, Try.ntmps25
  go_wp2
  go_loopw [5] (fun i wr => ∃ (k : Nat), k ≤ ls.length ∧ i = .int .i64 k ∧ wr = w ∧ ∀ j, j < k → ls.getD j 0 ≠ x) (fun i _ => ls.length - (intOf i).toNat)
  case atStart => exact ⟨0, Nat.zero_le _, rfl, rfl, fun j hj => absurd hj (by omega)⟩
  case round =>
    obtain ⟨k, hk, rfl, rfl, hne⟩ := hrel
    by_cases hlt : k < ls.length
    · obtain ⟨off, rfl, hc⟩ := hr (by omega)
      have t0 : (k : Int) < (ls.length : Int) := by omega
      have c1 := hc k hlt
      have HNE := hide hne
      clear hne hc hr
      generalize hx : ls.getD k 0 = y at *
      have HX := hide hx
      clear hx
      by_cases hq : y = x
      · subst hq
        have MEM : Hid (decide (y ∈ ls) = true) := by
          show _ = _
          refine decide_eq_true ?_
          rw [← HX.out, List.getD_eq_getElem?_getD, List.getElem?_eq_getElem hlt]
          exact List.getElem_mem hlt
        clear HNE
        go_wp2
        go_ret
        exact ⟨by rw [MEM.out]; rfl, rfl⟩
      · have e1 : (y == x) = false := by simpa using hq
        have NXT : Hid (∀ j, j < k + 1 → ls.getD j 0 ≠ x) := fun j hj => by
          by_cases h : j = k
          · subst h
            rw [HX.out]
            exact hq
          · exact HNE.out j (by omega)
        clear HNE hq
        go_wp2
        go_roundw
        case rel => exact ⟨k + 1, by omega, by go_num, trivial, NXT.out⟩
        case measure => simp [intOf]; omega
    · obtain rfl : k = ls.length := by omega
      have NM : Hid (decide (x ∈ ls) = false) := by
        show _ = _
        refine decide_eq_false fun h => ?_
        obtain ⟨i, hi, e⟩ := List.getElem_of_mem h
        refine hne i hi ?_
        rw [List.getD_eq_getElem?_getD, List.getElem?_eq_getElem hi]
        exact e
      clear hne hr
      go_wp2
      go_ret
      exact ⟨by rw [NM.out]; rfl, rfl⟩
set_option maxHeartbeats 1000000 in
theorem l13Known_any (w : World) (k : Int) :
    Calls Try.prog 12 #[.int .i64 k] w fun e w' => e = .returned (.bool (decide (k ∈ kinds))) ∧ Below w.heap.size w w' := by
  have n0 : Hid (Below w.heap.size w (w.alloc (.cells #[.int .i64 1, .int .i64 2, .int .i64 4, .int .i64 5, .int .i64 8, .int .i64 11, .int .i64 15, .int .i64 20, .int .i64 24] 2))) := (Below.refl _ _).alloc (Nat.le_refl _) _
  have R : Rd (w.alloc (.cells #[.int .i64 1, .int .i64 2, .int .i64 4, .int .i64 5, .int .i64 8, .int .i64 11, .int .i64 15, .int .i64 20, .int .i64 24] 2)) w.heap.size (some ⟨w.heap.size, 0, none⟩) .i64 kinds := fun _ => ⟨0, rfl, fun i hi => by
    have h : (w.alloc (.cells #[.int .i64 1, .int .i64 2, .int .i64 4, .int .i64 5, .int .i64 8, .int .i64 11, .int .i64 15, .int .i64 20, .int .i64 24] 2)).heap[w.heap.size]? = some (.cells #[.int .i64 1, .int .i64 2, .int .i64 4, .int .i64 5, .int .i64 8, .int .i64 11, .int .i64 15, .int .i64 20, .int .i64 24] 2 (0, 0)) := by show (w.heap.push _)[w.heap.size]? = _; simp
    rw [Nat.zero_add, cell_of_row _ _ _ _ _ _ h]
    have hi' : i < 9 := hi
    obtain rfl | rfl | rfl | rfl | rfl | rfl | rfl | rfl | rfl : i = 0 ∨ i = 1 ∨ i = 2 ∨ i = 3 ∨ i = 4 ∨ i = 5 ∨ i = 6 ∨ i = 7 ∨ i = 8 := by omega
    all_goals rfl⟩
  have H : Hid (Calls Try.prog 25 #[.slice (some ⟨w.heap.size, 0, none⟩) 9 9, .int .i64 k] (w.alloc (.cells #[.int .i64 1, .int .i64 2, .int .i64 4, .int .i64 5, .int .i64 8, .int .i64 11, .int .i64 15, .int .i64 20, .int .i64 24] 2)) fun e w' => e = .returned (.bool (decide (k ∈ kinds))) ∧ w' = w.alloc (.cells #[.int .i64 1, .int .i64 2, .int .i64 4, .int .i64 5, .int .i64 8, .int .i64 11, .int .i64 15, .int .i64 20, .int .i64 24] 2)) := l12Has_any _ _ _ 9 kinds k R (by decide)
  clear R
  generalize decide (k ∈ kinds) = z at *
  go_enter Try.func12, Try.ntmps12
  go_wp2_with fail
  refine H.out.mono ?_
  rintro e w1 ⟨rfl, h1⟩
  subst h1
  go_wp2
  go_ret
  exact ⟨rfl, n0.out⟩
theorem mem_take_of {ls : List (List UInt8)} {k j : Nat} (hj : j < k) (hk : k < ls.length) (h : ls.getD j [] = ls.getD k []) : prA ls k = false := by
  unfold prA
  have m : ls.getD k [] ∈ ls.take k := by
    rw [← h, List.getD_eq_getElem?_getD, List.getElem?_eq_getElem (by omega)]
    have : (ls.take k)[j]'(by rw [List.length_take]; omega) = ls[j] := List.getElem_take
    rw [Option.getD_some, ← this]
    exact List.getElem_mem _
  rw [decide_eq_true m]
  simp
theorem prA_of {ls : List (List UInt8)} {k : Nat} (hk : k < ls.length) (h0 : 0 < (ls.getD k []).length) (h1 : (ls.getD k []).length ≤ 32) (h : ∀ j, j < k → ls.getD j [] ≠ ls.getD k []) : prA ls k = true := by
  unfold prA
  have m : ¬ ls.getD k [] ∈ ls.take k := fun hm => by
    obtain ⟨i, hi, e⟩ := List.getElem_of_mem hm
    rw [List.length_take] at hi
    refine h i (by omega) ?_
    rw [← e, List.getElem_take, List.getD_eq_getElem?_getD, List.getElem?_eq_getElem (by omega)]
    rfl
  rw [decide_eq_true h0, decide_eq_true h1, decide_eq_false m]
  rfl
set_option maxHeartbeats 2000000 in
theorem l13Protocols_any (w : World) (g : Nat) (a : Option Addr) (c : Nat) (ls : List (List UInt8)) (n : Nat) (hr : RdT w g a ls) (hn : ls.length ≤ 1048576) (n1 : n ≤ 100) (hz : ∀ l ∈ ls, l.length ≤ 1048576) :
    Calls Try.prog 16 #[.slice a ls.length c, .int .i64 (n : Int)] w fun e w' => e = .returned (.bool (prB ls n)) ∧ Below w.heap.size w w' := by
  by_cases hl : ls.length ≤ n
  · have d0 : decide ((n : Int) < (ls.length : Int)) = false := by simp; omega
    have d0' : decide (n < ls.length) = false := by simp; omega
    go_enter Try.func16, Try.ntmps16
    go_wp2
    go_loopw [5, 6] (fun i _ wr => ∃ (k : Nat), k ≤ ls.length ∧ i = .int .i64 k ∧ Below w.heap.size w wr ∧ ∀ j, j < k → prA ls j = true) (fun i _ _ => ls.length - (intOf i).toNat)
    case atStart => exact ⟨0, Nat.zero_le _, rfl, Below.refl _ _, fun j hj => absurd hj (by omega)⟩
    case round =>
      obtain ⟨k, hk, rfl, nb, hall⟩ := hrel
      by_cases hlt : k < ls.length
      · have hr1 := hr.up nb
        obtain ⟨off, rfl, hcl⟩ := hr1 (by omega)
        have t0 : (k : Int) < (ls.length : Int) := by omega
        have c1 := hcl k hlt
        have HALL := hide hall
        have HN := hide nb
        have HCL := hide hcl
        clear hall nb hcl hr1
        have HZ : (ls.getD k []).length ≤ 1048576 := by
          refine hz _ ?_
          rw [List.getD_eq_getElem?_getD, List.getElem?_eq_getElem hlt]
          exact List.getElem_mem hlt
        have PN := hide (fun h => prB_no (n := n) hlt h)
        have PT := hide (fun j hj h => mem_take_of (j := j) hj hlt h)
        have PO := hide (fun h0 h1 h => prA_of hlt h0 h1 h)
        have P0 := hide (show (ls.getD k []).length = 0 → prA ls k = false from fun h => by unfold prA; rw [h]; rfl)
        have P1 := hide (show 32 < (ls.getD k []).length → prA ls k = false from fun h => by unfold prA; rw [decide_eq_false (show ¬ (ls.getD k []).length ≤ 32 by omega)]; simp)
        generalize hx : ls.getD k [] = x at *
        have HX := hide hx
        clear hx
        simp only [tx] at c1
        by_cases x0 : x.length = 0
        · have d1 : decide ((x.length : Int) < 1) = true := by simp; omega
          have NO := hide (PN.out (P0.out x0))
          clear PN PT PO P0 P1 HALL x0
          go_wp2
          go_ret
          exact ⟨by rw [NO.out]; rfl, HN.out⟩
        · have d1 : decide ((x.length : Int) < 1) = false := by simp; omega
          by_cases x1 : 32 < x.length
          · have d2 : decide ((32 : Int) < (x.length : Int)) = true := by simp; omega
            have NO := hide (PN.out (P1.out x1))
            clear PN PT PO P0 P1 HALL x0 x1
            go_wp2
            go_ret
            exact ⟨by rw [NO.out]; rfl, HN.out⟩
          · have d2 : decide ((32 : Int) < (x.length : Int)) = false := by simp; omega
            have PO' := hide (PO.out (by omega) (by omega))
            clear P0 P1 PO x0 x1
            go_wp2
            go_loopw [6] (fun j wz => ∃ (m : Nat), m ≤ k ∧ j = .int .i64 m ∧ Below w.heap.size w wz ∧ ∀ i, i < m → ls.getD i [] ≠ x) (fun j _ => k - (intOf j).toNat)
            case atStart => exact ⟨0, Nat.zero_le _, rfl, HN.out, fun j hj => absurd hj (by omega)⟩
            case round =>
              obtain ⟨m, hm, rfl, nz, hne⟩ := hrel
              by_cases hmt : m < k
              · have t1 : (m : Int) < (k : Int) := by omega
                have hr2 := hr.up nz
                obtain ⟨off', ha, hcl2⟩ := hr2 (by omega)
                simp only [Option.some.injEq, Addr.mk.injEq, and_true, true_and] at ha
                obtain rfl := ha
                have c2 := hcl2 k hlt
                have c3 := hcl2 m (by omega)
                rw [HX.out] at c2
                have tm : (m : Int) < (ls.length : Int) := by omega
                have NZ := hide nz
                have HNE := hide hne
                clear nz hne hcl2 hr2 c1 HCL
                generalize hy : ls.getD m [] = y at *
                have HY := hide hy
                clear hy
                simp only [tx] at c2 c3
                by_cases hq : x = y
                · subst hq
                  have e1 : (x == x) = true := by simp
                  have NO := hide (PN.out (PT.out m hmt HY.out))
                  clear PN PT PO' HALL HNE
                  go_wp2
                  go_quiet (fail)
                  go_wp2
                  go_ret
                  exact ⟨by rw [NO.out]; rfl, NZ.out.trans ((Only.drewN _ w.heap.size _).below (Nat.le_refl _))⟩
                · have e1 : (x == y) = false := by simpa using hq
                  have e2 : (y == x) = false := by simpa using (fun h => hq h.symm)
                  have NXT : Hid (∀ i, i < m + 1 → ls.getD i [] ≠ x) := fun i hi => by
                    by_cases h : i = m
                    · subst h
                      rw [HY.out]
                      exact fun h => hq h.symm
                    · exact HNE.out i (by omega)
                  clear HNE PN PT PO' HALL hq
                  go_wp2
                  go_quiet (fail)
                  go_wp2
                  go_roundw
                  case rel => exact ⟨m + 1, by omega, by go_num, NZ.out.trans ((Only.drewN _ w.heap.size _).below (Nat.le_refl _)), NXT.out⟩
                  case measure => simp [intOf]; omega
              · obtain rfl : m = k := by omega
                have NXT : Hid (∀ j, j < m + 1 → prA ls j = true) := fun j hj => by
                  by_cases h : j = m
                  · subst h
                    exact PO'.out hne
                  · exact HALL.out j (by omega)
                have NZ := hide nz
                clear nz hne PN PT PO' HALL
                go_wp2
                go_roundw
                case rel => exact ⟨m + 1, by omega, by go_num, NZ.out, NXT.out⟩
                case measure => simp [intOf]; omega
      · obtain rfl : k = ls.length := by omega
        have YES := hide (prB_yes hl hall)
        have HN := hide nb
        clear hall hr nb
        go_wp2
        go_ret
        exact ⟨by rw [YES.out]; rfl, HN.out⟩
  · have d0 : decide ((n : Int) < (ls.length : Int)) = true := by simp; omega
    have NO : Hid (prB ls n = false) := by show _ = _; unfold prB; rw [decide_eq_false hl, Bool.false_and]
    clear hr
    go_enter Try.func16, Try.ntmps16
    go_wp2
    go_ret
    exact ⟨by rw [NO.out]; rfl, Below.refl _ _⟩
end Go.Proofs.Ytfckjoheiabfoaa

/-
  The laws' helpers on rows of lists (Blobs): copied, held against each other, counted.
-/
namespace Go.Proofs.Ytfckjoheiabfoaa
open Go Go.RowKit

theorem iB : (Try.prog.info? 43).map (·.size) = some 1 := by kernel_rfl
theorem rowB : ∃ d, Try.prog.underlying 43 = some d ∧ d.isRow = true := ⟨_, Try.underlying43, rfl⟩
/-- Where a copy of a struct stands: its source, the place of its answer, and the copy so far. -/
structure TMs (w W : World) (tL tM : TypeId) (src zer cs : List Value) : Prop where
  S : RwC W w.heap.size src tL
  U : RwC W (w.heap.size + 1) zer tM
  T : RwC W (w.heap.size + 1 + 1) cs tM
  N : Below w.heap.size w W
theorem TMs.new (w : World) (tL tM : TypeId) (src zer : List Value) : TMs w (((w.alloc (.cells src.toArray tL)).alloc (.cells zer.toArray tM)).alloc (.cells zer.toArray tM)) tL tM src zer zer := by
  have z1 : (w.alloc (.cells src.toArray tL)).heap.size = w.heap.size + 1 := by simp
  have n1 : Below w.heap.size w (w.alloc (.cells src.toArray tL)) := (Below.refl _ _).alloc (Nat.le_refl _) _
  have s1 := RwC.new w src tL
  generalize w.alloc (.cells src.toArray tL) = a at *
  have z2 : (a.alloc (.cells zer.toArray tM)).heap.size = a.heap.size + 1 := by simp
  have n2 : Below a.heap.size a (a.alloc (.cells zer.toArray tM)) := (Below.refl _ _).alloc (Nat.le_refl _) _
  have s2 := RwC.new a zer tM
  generalize a.alloc (.cells zer.toArray tM) = b at *
  have n3 : Below b.heap.size b (b.alloc (.cells zer.toArray tM)) := (Below.refl _ _).alloc (Nat.le_refl _) _
  have s3 := RwC.new b zer tM
  rw [z2, z1] at s3
  rw [z1] at s2
  exact ⟨(s1.up n2).up n3, s2.up n3, s3, nxt (nxt n1 n2) n3⟩
theorem TMs.up {w W W' : World} {tL tM : TypeId} {src zer cs : List Value} (h : TMs w W tL tM src zer cs) (m : Below W.heap.size W W') : TMs w W' tL tM src zer cs := ⟨h.S.up m, h.U.up m, h.T.up m, nxt h.N m⟩
theorem RwC.onl {w w' : World} {q r : Nat} {cs : List Value} {t : TypeId} (h : RwC w q cs t) (O : Only r w w') (hne : q ≠ r) : RwC w' q cs t := (O.block q hne).trans h
theorem TMs.set {w W : World} {tL tM : TypeId} {src zer cs : List Value} (h : TMs w W tL tM src zer cs) (i : Nat) (v : Value) : TMs w (W.setCell ⟨w.heap.size + 1 + 1, i, none⟩ v) tL tM src zer (cs.set i v) := by
  have O := Only.setCell W (w.heap.size + 1 + 1) i v
  exact ⟨h.S.onl O (by omega), h.U.onl O (by omega), h.T.set i v, h.N.trans (O.below (by omega))⟩
theorem only_setG (w : World) (q : Nat) : ∀ (vs : List Value) (o : Nat), Only q w (w.setCells q o vs)
  | [], _ => Only.refl _ _
  | v :: vs, o => (Only.setCell w q o v).trans (only_setG _ q vs (o + 1))
theorem RwC.thereG {w : World} {q : Nat} {cs : List Value} {t : TypeId} (h : RwC w q cs t) : w.there q 0 cs.length := fun j hj => by
  rw [Nat.zero_add, h.cell j, h.free j]
  exact ⟨by simp [hj], rfl⟩
theorem results_cellG {P : Program} {fn : Func} {p : Tmp} {ty : TypeId} (h : fn.results = #[.cell p ty]) (tmps : Array Value) (w : World) (g : Nat) (cs : List Value) (d : TypeDesc)
    (hp : tmps.getD p undef = .pointer (some ⟨g, 0, none⟩)) (hc : w.rangeAt g 0 cs) (hu : P.underlying ty = some d) (hd : d.isRow = true) (hi : (P.info? ty).map (·.size) = some cs.length) :
    (results fn tmps).run P w = .ok (.agg cs.toArray) w := by
  have hp' : tmps[p]?.getD undef = .pointer (some ⟨g, 0, none⟩) := by simpa using hp
  simp [results, h, hp', asAddr, run_loadVar_mid w g 0 ty cs d hc hu hd hi]
theorem RwC.rangeG {w : World} {q : Nat} {cs : List Value} {t : TypeId} (h : RwC w q cs t) : w.rangeAt q 0 cs := fun j v hj => by
  rw [Nat.zero_add]
  exact (h.cell j).trans hj
set_option maxHeartbeats 2000000 in
theorem toBlob_any (w : World) (g : Nat) (a : Option Addr) (c : Nat) (xs : List Int) (hr : Rd w g a .u8 xs) (hn : xs.length ≤ 1048576) :
    Calls Try.prog 27 #[.agg #[.slice a xs.length c]] w fun e w' => (∃ G, e = .returned (.agg #[.slice (some ⟨G, 0, none⟩) xs.length xs.length]) ∧ w.heap.size ≤ G ∧ Blk w' G .u8 xs) ∧ Below w.heap.size w w' := by
  have T0 := TMs.new w 55 43 [.slice a xs.length c] [.slice none 0 0]
  obtain ⟨d1, hd1, hrow1⟩ := rowB
  go_enter Try.func27, Try.ntmps27
  go_upto_region 2 with fail
  have T0 : TMs w (((w.alloc (.cells #[.slice a xs.length c] 55)).alloc (.cells #[.slice none 0 0] 43)).alloc (.cells #[.slice none 0 0] 43)) 55 43 [.slice a xs.length c] [.slice none 0 0] [.slice none 0 0] := T0
  generalize ((w.alloc (.cells #[.slice a xs.length c] 55)).alloc (.cells #[.slice none 0 0] 43)).alloc (.cells #[.slice none 0 0] 43) = W0 at *
  have qS : W0.cell? ⟨w.heap.size, 0, none⟩ = some (.slice a xs.length c) := T0.S.cell 0
  have TB := hide (toByteS_any W0 g a c xs (hr.up T0.N) hn)
  go_wp2_with fail
  refine TB.out.mono ?_
  rintro e V ⟨rfl, B, m⟩
  have lt := T0.T.lt
  have T1 := T0.up m
  clear TB qS T0 m
  obtain ⟨G, hG⟩ : ∃ G, W0.heap.size = G := ⟨_, rfl⟩
  rw [hG] at B lt ⊢
  clear hG
  have qT : V.cell? ⟨w.heap.size + 1 + 1, 0, none⟩ = some (.slice none 0 0) := T1.T.cell 0
  have qF := T1.T.free 0
  go_upto_region 3 with fail
  have T2 : TMs w (V.setCell ⟨w.heap.size + 1 + 1, 0, none⟩ (.slice (some ⟨G, 0, none⟩) xs.length xs.length)) 55 43 [.slice a xs.length c] [.slice none 0 0] [.slice (some ⟨G, 0, none⟩) xs.length xs.length] := T1.set 0 _
  have B2 : Blk (V.setCell ⟨w.heap.size + 1 + 1, 0, none⟩ (.slice (some ⟨G, 0, none⟩) xs.length xs.length)) G .u8 xs := B.of_block ((Only.setCell V (w.heap.size + 1 + 1) 0 _).block G (by omega))
  clear T1 B qT qF
  generalize V.setCell ⟨w.heap.size + 1 + 1, 0, none⟩ (.slice (some ⟨G, 0, none⟩) xs.length xs.length) = W1 at *
  have RG := T2.T.rangeG
  have TH := T2.U.thereG
  have RR := World.rangeAt_setCells_same W1 (w.heap.size + 1) 0 [.slice (some ⟨G, 0, none⟩) xs.length xs.length] TH
  have OQ := only_setG W1 (w.heap.size + 1) [.slice (some ⟨G, 0, none⟩) xs.length xs.length] 0
  have N8 : Hid (Below w.heap.size w (W1.setCells (w.heap.size + 1) 0 [.slice (some ⟨G, 0, none⟩) xs.length xs.length])) := T2.N.trans (OQ.below (by omega))
  have B3 := hide (B2.of_block (OQ.block G (by omega)))
  have ON : ([.slice (some ⟨G, 0, none⟩) xs.length xs.length] : List Value).toArray.all (·.oneCell') = true := all_oneCell_toArray fun v hv => by
    simp only [List.mem_cons, List.not_mem_nil, or_false] at hv
    subst hv
    rfl
  clear OQ T2 B2
  go_wp2_with (first
    | (refine wpList_load_mid rfl 43 (.tmp 3) rfl (w.heap.size + 1 + 1) 0 rfl [.slice (some ⟨G, 0, none⟩) xs.length xs.length] d1 RG hd1 hrow1 iB ?_)
    | (refine wpList_store_mid rfl 43 (.tmp 2) (.tmp 8) rfl (w.heap.size + 1) 0 #[.slice (some ⟨G, 0, none⟩) xs.length xs.length] rfl rfl ?hth ?hin ?hon ?_))
  case hth => exact TH
  case hin => exact iB
  case hon => exact ON
  exact bodyPost_ret (v := .agg #[.slice (some ⟨G, 0, none⟩) xs.length xs.length]) (results_cellG Try.results27 _ _ (w.heap.size + 1) _ d1 rfl RR hd1 hrow1 iB) rfl ⟨⟨G, rfl, by omega, B3.out⟩, N8.out⟩
end Go.Proofs.Ytfckjoheiabfoaa

/-
  The laws' helpers on rows of lists (Blobs), in loops.
-/
namespace Go.Proofs.Ytfckjoheiabfoaa
open Go Go.RowKit

theorem infoBl : (Try.prog.info? 43).map (fun i => (i.zero, i.size, i.bytes)) = some (some (.agg #[.slice none 0 0]), 1, 24) := by kernel_rfl
theorem RwC.of_made {w : World} {base g n : Nat} {t : TypeId} (h : w.ownsRow base t 1 (.slice (some ⟨g, 0, none⟩) n n) n (madeCells (Value.agg #[.slice none 0 0]).cells (n * 1)).toList) : RwC w g (List.replicate n (.slice none 0 0)) t := by
  rcases h.2 with ⟨h', _⟩ | ⟨g', cap', cur, h', _, hg, _, _, hcs, htake⟩
  · simp at h'
  · simp only [Value.slice.injEq, Option.some.injEq, Addr.mk.injEq, and_true, true_and] at h'
    obtain ⟨rfl, rfl⟩ := h'
    show _ = _
    rw [hg]
    have : cur = (List.replicate n (Value.slice none 0 0)).toArray := by
      apply Array.ext'
      rw [List.take_of_length_le (by rw [Array.length_toList, hcs]; exact Nat.le_refl _)] at htake
      rw [htake]
      apply List.ext_getElem
      · simp [madeCells]
      · intro i h1 h2
        simp [madeCells, Value.cells, Nat.mod_one]
    rw [this]
theorem pick_list {P : Nat → Nat → Prop} : ∀ n, (∀ j, j < n → ∃ G, P j G) → ∃ Gs : List Nat, ∀ j, j < n → P j (Gs.getD j 0)
  | 0, _ => ⟨[], fun j hj => absurd hj (by omega)⟩
  | n + 1, h => by
    obtain ⟨Gs, hG⟩ := pick_list (P := P) n (fun j hj => h j (by omega))
    obtain ⟨G, hn⟩ := h n (by omega)
    refine ⟨(List.range n).map (fun j => Gs.getD j 0) ++ [G], fun j hj => ?_⟩
    by_cases e : j < n
    · have : ((List.range n).map (fun j => Gs.getD j 0) ++ [G]).getD j 0 = Gs.getD j 0 := by
        rw [List.getD_eq_getElem?_getD, List.getElem?_append_left (by simpa using e)]
        simp [e]
      rw [this]
      exact hG j e
    · obtain rfl : j = n := by omega
      have : ((List.range j).map (fun i => Gs.getD i 0) ++ [G]).getD j 0 = G := by
        rw [List.getD_eq_getElem?_getD, List.getElem?_append_right (by simp)]
        simp
      rw [this]
      exact hn
/-- A new row of lists, the first k of them laid. -/
def RowK (B : Nat) (wr : World) (g : Nat) (ce : List (List Int)) (k : Nat) (vs : List Value) : Prop := vs.length = ce.length ∧ RwC wr g vs 43 ∧ ∀ j, j < k → ∃ G, vs[j]? = some (.slice (some ⟨G, 0, none⟩) (ce.getD j []).length (ce.getD j []).length) ∧ Blk wr G .u8 (ce.getD j []) ∧ B < G
theorem RowK.step {B g k : Nat} {wr w1 : World} {ce : List (List Int)} {vs : List Value} (h : RowK B wr g ce k vs) (hk : k < ce.length) (hg : g ≤ B) (n : Below wr.heap.size wr w1) {G : Nat} (hG : B < G) (b : Blk w1 G .u8 (ce.getD k [])) :
    RowK B (w1.setCell ⟨g, k, none⟩ (.slice (some ⟨G, 0, none⟩) (ce.getD k []).length (ce.getD k []).length)) g ce (k + 1) (vs.set k (.slice (some ⟨G, 0, none⟩) (ce.getD k []).length (ce.getD k []).length)) := by
  obtain ⟨h1, h2, h3⟩ := h
  have O := Only.setCell w1 g k (.slice (some ⟨G, 0, none⟩) (ce.getD k []).length (ce.getD k []).length)
  refine ⟨by simpa using h1, (h2.up n).set k _, fun j hj => ?_⟩
  by_cases e : j = k
  · subst e
    exact ⟨G, by simp [h1, hk], b.of_block (O.block G (by omega)), hG⟩
  · obtain ⟨G', e1, b1, l1⟩ := h3 j (by omega)
    exact ⟨G', by rw [List.getElem?_set_ne (by omega)]; exact e1, (b1.up n).of_block (O.block G' (by omega)), l1⟩
theorem RowK.rd {B g : Nat} {wr : World} {ce : List (List Int)} {vs : List Value} (h : RowK B wr g ce ce.length vs) : ∃ ps, RdL wr g (some ⟨g, 0, none⟩) ce ps ∧ ∀ i, i < ce.length → B < (ps.getD i plb0).q := by
  obtain ⟨h1, h2, h3⟩ := h
  obtain ⟨Gs, hG⟩ := pick_list ce.length h3
  have e : ∀ i, i < ce.length → ((List.range ce.length).map fun j => (⟨some ⟨Gs.getD j 0, 0, none⟩, (ce.getD j []).length, Gs.getD j 0⟩ : Plb)).getD i plb0 = ⟨some ⟨Gs.getD i 0, 0, none⟩, (ce.getD i []).length, Gs.getD i 0⟩ := fun i hi => by
    rw [List.getD_eq_getElem?_getD]
    simp [hi]
  refine ⟨(List.range ce.length).map fun j => ⟨some ⟨Gs.getD j 0, 0, none⟩, (ce.getD j []).length, Gs.getD j 0⟩, ⟨fun _ => ⟨0, rfl, fun i hi => ?_⟩, fun i hi => ?_⟩, fun i hi => ?_⟩
  · rw [Nat.zero_add, h2.cell i, e i hi]
    exact (hG i hi).1
  · rw [e i hi]
    exact (hG i hi).2.1.own0.rd
  · rw [e i hi]
    exact (hG i hi).2.2
set_option maxHeartbeats 2000000 in
theorem toBlobS_any (w : World) (g : Nat) (a : Option Addr) (c : Nat) (ce : List (List Int)) (ps : List Plb) (hr : RdL w g a ce ps) (hn : ce.length ≤ 1048576) (hz : ∀ i, i < ce.length → (ce.getD i []).length ≤ 1048576) :
    Calls Try.prog 19 #[.slice a ce.length c] w fun e w' => (e = .returned (.slice (some ⟨w.heap.size, 0, none⟩) ce.length ce.length) ∧ ∃ ps', RdL w' w.heap.size (some ⟨w.heap.size, 0, none⟩) ce ps' ∧ ∀ i, i < ce.length → w.heap.size < (ps'.getD i plb0).q) ∧ Below w.heap.size w w' := by
  obtain ⟨i0, hi, hz0, hz1, hz2⟩ : ∃ i0, Try.prog.info? 43 = some i0 ∧ i0.zero = some (.agg #[.slice none 0 0]) ∧ i0.size = 1 ∧ i0.bytes = 24 := by
    have h := infoBl
    cases hq : Try.prog.info? 43 with
    | none => rw [hq] at h; simp at h
    | some i0 =>
      rw [hq] at h
      simp only [Option.map_some, Option.some.injEq, Prod.mk.injEq] at h
      exact ⟨i0, rfl, h.1, h.2.1, h.2.2⟩
  go_enter Try.func19, Try.ntmps19
  go_wp2_with (at_make; refine wpList_make_full _ rfl _ _ 29 rfl w.heap.size 43 i0 (.agg #[.slice none 0 0]) 1 Try.underlying29 hi hz0 hz1 .i64 .i64 _ _ ce.length rfl rfl rfl rfl (by rw [hz2]; omega) (by unfold maxLen; omega) (Nat.le_refl _) ?_; intro w1 hown hgrow)
  have hB0 := RwC.of_made hown
  have hN0 : Below w.heap.size w w1 := (Below.refl _ _).grown hgrow (Nat.le_refl _) (by simp)
  clear hown hgrow
  go_loopw [4] (fun i wr => ∃ (k : Nat) (vs : List Value), k ≤ ce.length ∧ i = .int .i64 k ∧ RowK w.heap.size wr w.heap.size ce k vs ∧ Below w.heap.size w wr) (fun i _ => ce.length - (intOf i).toNat)
  case atStart => exact ⟨0, _, Nat.zero_le _, rfl, ⟨by simp, hB0, fun j hj => absurd hj (by omega)⟩, hN0⟩
  case round =>
    obtain ⟨k, vs, hk, rfl, hR, hN⟩ := hrel
    clear hB0 hN0
    by_cases hlt : k < ce.length
    · obtain ⟨off, rfl, hc⟩ := (hr.up hN).r (by omega)
      have t0 : (k : Int) < (ce.length : Int) := by omega
      have c1 := hc k hlt
      have TB := hide (toBlob_any wr _ _ (ps.getD k plb0).c _ ((hr.up hN).b k hlt) (hz k hlt))
      have HS := hide (fun (w1 : World) (n : Below wr.heap.size wr w1) G hG b => RowK.step (w1 := w1) (G := G) hR hlt (Nat.le_refl _) n hG b)
      have hR2 := hide hR.2.1
      have hlen := hide hR.1
      have hlg := hR.2.1.lt
      have HN := hide hN
      clear hc hR hN
      generalize (ps.getD k plb0).a = pa at *
      generalize (ps.getD k plb0).c = pc at *
      generalize ce.getD k [] = x at *
      go_wp2_with fail
      refine TB.out.mono ?_
      rintro e w2 ⟨⟨G, rfl, hG, B⟩, n2⟩
      have T2 := hR2.out.up n2
      have q1 := T2.cell k
      have kl : k < vs.length := by rw [hlen.out]; exact hlt
      obtain ⟨y, hy⟩ : ∃ y, vs[k]? = some y := ⟨_, List.getElem?_eq_getElem kl⟩
      rw [hy] at q1
      have q2 := T2.free k
      have ST := hide (HS.out w2 n2 G (by omega) B)
      have N2 := hide (nxt HN.out n2)
      clear TB HS hR2 hlen T2 B n2 HN kl hG hy
      go_wp2
      go_roundw
      case rel => exact ⟨k + 1, _, by omega, by go_num, ST.out, N2.out.setCell (Nat.le_refl _) _⟩
      case measure => simp [intOf]; omega
    · obtain rfl : k = ce.length := by omega
      have RD := hide hR.rd
      have HN := hide hN
      clear hR hN hr
      go_wp2
      go_ret
      obtain ⟨ps', h1, h2⟩ := RD.out
      exact ⟨⟨rfl, ps', h1, h2⟩, HN.out⟩
set_option maxHeartbeats 1000000 in
theorem eqBlob_same (w : World) (g g' : Nat) (a b : Option Addr) (ca cb : Nat) (xs : List Int) (ha : Rd w g a .u8 xs) (hb : Rd w g' b .u8 xs) (hn : xs.length ≤ 1048576) :
    Calls Try.prog 31 #[.agg #[.slice a xs.length ca], .agg #[.slice b xs.length cb]] w fun e w' => e = .returned (.bool true) ∧ Below w.heap.size w w' := by
  have n1 : Below w.heap.size w (w.alloc (.cells #[.slice a xs.length ca] 43)) := (Below.refl _ _).alloc (Nat.le_refl _) _
  have n2 : Below w.heap.size w ((w.alloc (.cells #[.slice a xs.length ca] 43)).alloc (.cells #[.slice b xs.length cb] 43)) := n1.alloc n1.size _
  have BE := hide (eqByteS_same _ g g' a b ca cb xs (ha.up n2) (hb.up n2) hn)
  have N2 := hide n2
  clear ha hb n1 n2
  generalize xs.length = m at *
  go_enter Try.func31, Try.ntmps31
  go_wp2_with fail
  refine BE.out.mono ?_
  rintro e w1 ⟨rfl, n3⟩
  go_wp2
  go_ret
  exact ⟨rfl, nxt N2.out n3⟩
end Go.Proofs.Ytfckjoheiabfoaa

/-
  The laws' helpers on rows of lists: held against each other, counted.
-/
namespace Go.Proofs.Ytfckjoheiabfoaa
open Go Go.RowKit

theorem range_one {w : World} {g o : Nat} {v : Value} (h : w.cell? ⟨g, o, none⟩ = some v) : w.rangeAt g o [v] := fun j u hj => by
  match j, hj with
  | 0, hj =>
    rw [Nat.add_zero]
    simp only [List.getElem?_cons_zero, Option.some.injEq] at hj
    rw [← hj]
    exact h
  | j + 1, hj => simp at hj
set_option maxHeartbeats 2000000 in
theorem eqBlobS_same (w : World) (g g' : Nat) (a b : Option Addr) (ca cb : Nat) (ce : List (List Int)) (ps qs : List Plb) (ha : RdL w g a ce ps) (hb : RdL w g' b ce qs) (hn : ce.length ≤ 1048576) (hz : ∀ i, i < ce.length → (ce.getD i []).length ≤ 1048576) :
    Calls Try.prog 23 #[.slice a ce.length ca, .slice b ce.length cb] w fun e w' => e = .returned (.bool true) ∧ Below w.heap.size w w' := by
  obtain ⟨d1, hd1, hrow1⟩ := rowB
  have e0 : ((ce.length : Int) != (ce.length : Int)) = false := by simp
  go_enter Try.func23, Try.ntmps23
  go_wp2
  go_loopw [5] (fun i wr => ∃ (k : Nat), k ≤ ce.length ∧ i = .int .i64 k ∧ Below w.heap.size w wr) (fun i _ => ce.length - (intOf i).toNat)
  case atStart => exact ⟨0, Nat.zero_le _, rfl, Below.refl _ _⟩
  case round =>
    obtain ⟨k, hk, rfl, nb⟩ := hrel
    by_cases hlt : k < ce.length
    · obtain ⟨off, rfl, hc⟩ := (ha.up nb).r (by omega)
      obtain ⟨off', rfl, hc'⟩ := (hb.up nb).r (by omega)
      have t0 : (k : Int) < (ce.length : Int) := by omega
      have t1 : decide ((k : Int) < (ce.length : Int)) = true := decide_eq_true t0
      have c1 := hc k hlt
      have c2 := hc' k hlt
      have EB := hide (fun (W : World) (n : Below wr.heap.size wr W) => eqBlob_same W _ _ _ _ (ps.getD k plb0).c (qs.getD k plb0).c _ (((ha.up nb).b k hlt).up n) (((hb.up nb).b k hlt).up n) (hz k hlt))
      have NB := hide nb
      clear hc hc' nb
      generalize (ps.getD k plb0).a = pa at *
      generalize (ps.getD k plb0).c = pc at *
      generalize (qs.getD k plb0).a = qa at *
      generalize (qs.getD k plb0).c = qc at *
      generalize (ce.getD k []).length = m at *
      go_upto_region 6 with fail
      refine region_end 10 (fun i => [Fact.eq (.slice (some ⟨g, off, none⟩) ce.length ca), Fact.eq (.int .i64 (k : Int)), Fact.eq (.pointer (some ⟨g, off + k, none⟩)), Fact.eq (.agg #[.slice pa m pc]), Fact.eq (.slice (some ⟨g', off', none⟩) ce.length cb), Fact.eq (.int .i64 (k : Int)), Fact.eq (.pointer (some ⟨g', off' + k, none⟩)), Fact.eq (.agg #[.slice qa m qc]), Fact.eq (.bool true), Fact.eq (.bool false)].getD i Fact.no) (by kernel_rfl) (by kernel_rfl) rfl ?_ ?_
      · intro i hi
        obtain rfl | rfl | rfl | rfl | rfl | rfl | rfl | rfl | rfl | rfl : i = 0 ∨ i = 1 ∨ i = 2 ∨ i = 3 ∨ i = 4 ∨ i = 5 ∨ i = 6 ∨ i = 7 ∨ i = 8 ∨ i = 9 := by omega
        · refine step_pure rfl fun A ww hb hw hf => ?_
          have e1 : A.tmps[0]?.getD undef = .slice (some ⟨g, off, none⟩) ce.length ca := gdv (hb.2.2 0 (by kernel_rfl))
          exact ⟨.slice (some ⟨g, off, none⟩) ce.length ca, by simp [go_sem, e1], rfl⟩
        · refine step_pure rfl fun A ww hb hw hf => ?_
          have e1 : A.tmps[5]?.getD undef = .int .i64 (k : Int) := gdv (hb.2.2 5 (by kernel_rfl))
          exact ⟨.int .i64 (k : Int), by simp [go_sem, e1], rfl⟩
        · refine step_pure rfl fun A ww hb hw hf => ?_
          have e1 : A.tmps[17]?.getD undef = .slice (some ⟨g, off, none⟩) ce.length ca := gdv (hf 0 17 (by kernel_rfl))
          have e2 : A.tmps[18]?.getD undef = .int .i64 (k : Int) := gdv (hf 1 18 (by kernel_rfl))
          exact ⟨.pointer (some ⟨g, off + k, none⟩), by simp [go_sem, e1, e2, hlt], rfl⟩
        · refine step_load rfl 43 (.tmp 19) rfl d1 1 hd1 hrow1 iB fun A ww hb hw hf => ⟨_, _, [.slice pa m pc], hf 2 19 (by kernel_rfl), range_one ((hw.cell (block_lt_of_cell c1)).trans c1), rfl, rfl⟩
        · refine step_pure rfl fun A ww hb hw hf => ?_
          have e1 : A.tmps[1]?.getD undef = .slice (some ⟨g', off', none⟩) ce.length cb := gdv (hb.2.2 1 (by kernel_rfl))
          exact ⟨.slice (some ⟨g', off', none⟩) ce.length cb, by simp [go_sem, e1], rfl⟩
        · refine step_pure rfl fun A ww hb hw hf => ?_
          have e1 : A.tmps[5]?.getD undef = .int .i64 (k : Int) := gdv (hb.2.2 5 (by kernel_rfl))
          exact ⟨.int .i64 (k : Int), by simp [go_sem, e1], rfl⟩
        · refine step_pure rfl fun A ww hb hw hf => ?_
          have e1 : A.tmps[21]?.getD undef = .slice (some ⟨g', off', none⟩) ce.length cb := gdv (hf 4 21 (by kernel_rfl))
          have e2 : A.tmps[22]?.getD undef = .int .i64 (k : Int) := gdv (hf 5 22 (by kernel_rfl))
          exact ⟨.pointer (some ⟨g', off' + k, none⟩), by simp [go_sem, e1, e2, hlt], rfl⟩
        · refine step_load rfl 43 (.tmp 23) rfl d1 1 hd1 hrow1 iB fun A ww hb hw hf => ⟨_, _, [.slice qa m qc], hf 6 23 (by kernel_rfl), range_one ((hw.cell (block_lt_of_cell c2)).trans c2), rfl, rfl⟩
        · refine step_callv rfl 31 _ _ rfl (by kernel_rfl) fun A ww hb hw hf => ?_
          have e1 : A.tmps.getD 20 undef = .agg #[.slice pa m pc] := hf 3 20 (by kernel_rfl)
          have e2 : A.tmps.getD 24 undef = .agg #[.slice qa m qc] := hf 7 24 (by kernel_rfl)
          show Calls Try.prog 31 #[A.tmps.getD 20 undef, A.tmps.getD 24 undef] ww _
          rw [e1, e2]
          exact (EB.out ww hw).mono (by rintro r w' ⟨rfl, n⟩; exact ⟨_, rfl, n, rfl⟩)
        · refine step_pure rfl fun A ww hb hw hf => ?_
          have e1 : A.tmps[25]?.getD undef = .bool true := gdv (hf 8 25 (by kernel_rfl))
          exact ⟨.bool false, by simp [go_sem, e1], rfl⟩
      intro A W hb' hw hF
      have e2 := hF 9 26 (by kernel_rfl)
      obtain ⟨vs, hvs⟩ : ∃ vs : Nat → Value, ∀ d, A.tmps.getD d undef = vs d := ⟨_, fun _ => rfl⟩
      rw [hvs] at e2
      rw [puts_of (md := .any) (k := 10) (by kernel_rfl) rfl hb' vs hvs]
      have e3 : vs 26 = .bool false := e2
      have NW := hide (nxt NB.out hw)
      clear hb' hF hvs e2 c1 c2 EB hw NB
      simp only [puts, e3, Act.put, List.setIfInBounds_toArray, List.set_cons_succ, List.set_cons_zero]
      clear e3
      go_wp2
      go_roundw
      case rel => exact ⟨k + 1, by omega, by go_num, NW.out⟩
      case measure => simp [intOf]; omega
    · obtain rfl : k = ce.length := by omega
      have NB := hide nb
      clear nb ha hb
      go_wp2
      go_ret
      exact ⟨rfl, NB.out⟩
/-- What is left of a number behind a count, or -1. -/
def Lft (L : Int) (n : Int) (r : Int) : Prop := (L < n ∧ r = -1) ∨ (n ≤ L ∧ r = L - n)
set_option maxHeartbeats 1000000 in
theorem szByteS_r (w : World) (a : Option Addr) (c n : Nat) (L : Int) (hn : n ≤ 9223372036854775807) (h0 : 0 ≤ L) (h1 : L ≤ 1048576) :
    Calls Try.prog 9 #[.slice a n c, .int .i64 L] w fun e w' => (∃ r, e = .returned (.int .i64 r) ∧ Lft L n r) ∧ w' = w := by
  have s1 : IntKind.i64.wrap (L - (n : Int)) = L - (n : Int) := by rw [IntKind.wrap_i64]; omega
  by_cases h : L < (n : Int)
  · have t1 : decide (L - (n : Int) < 0) = true := decide_eq_true (by omega)
    have H := hide h
    clear h
    go_enter Try.func9, Try.ntmps9
    go_wp2
    go_ret
    exact ⟨⟨_, rfl, .inl ⟨H.out, rfl⟩⟩, rfl⟩
  · have t1 : decide (L - (n : Int) < 0) = false := decide_eq_false (by omega)
    have H := hide h
    clear h
    go_enter Try.func9, Try.ntmps9
    go_wp2
    go_ret
    exact ⟨⟨_, rfl, .inr ⟨by have := H.out; omega, rfl⟩⟩, rfl⟩
set_option maxHeartbeats 1000000 in
theorem szBlob_r (w : World) (a : Option Addr) (c n : Nat) (L : Int) (hn : n ≤ 9223372036854775807) (h0 : 0 ≤ L) (h1 : L ≤ 1048576) :
    Calls Try.prog 24 #[.agg #[.slice a n c], .int .i64 L] w fun e w' => (∃ r, e = .returned (.int .i64 r) ∧ Lft L n r) ∧ Below w.heap.size w w' := by
  have n1 : Hid (Below w.heap.size w (w.alloc (.cells #[.slice a n c] 55))) := (Below.refl _ _).alloc (Nat.le_refl _) _
  have SZ := hide (szByteS_r (w.alloc (.cells #[.slice a n c] 55)) a c n L hn h0 h1)
  go_enter Try.func24, Try.ntmps24
  go_wp2_with fail
  refine SZ.out.mono ?_
  rintro e w1 ⟨⟨r, rfl, hr⟩, hw⟩
  subst hw
  rcases hr with ⟨h2, rfl⟩ | ⟨h2, rfl⟩
  · have H := hide h2
    clear h2
    go_wp2
    go_ret
    exact ⟨⟨_, rfl, .inl ⟨H.out, rfl⟩⟩, n1.out⟩
  · have t1 : decide (L - (n : Int) < 0) = false := decide_eq_false (by omega)
    have H := hide h2
    clear h2
    go_wp2
    go_ret
    exact ⟨⟨_, rfl, .inr ⟨H.out, rfl⟩⟩, n1.out⟩
def sumB (ce : List (List Int)) : Nat := ce.foldr (fun l s => l.length + s) 0
theorem sumB_app (x y : List (List Int)) : sumB (x ++ y) = sumB x + sumB y := by
  induction x with
  | nil => simp [sumB]
  | cons a x ih => show a.length + sumB (x ++ y) = a.length + sumB x + sumB y; rw [ih]; omega
theorem sumB_take {ls : List (List Int)} {k : Nat} (h : k < ls.length) : sumB (ls.take (k + 1)) = sumB (ls.take k) + (ls.getD k []).length := by
  rw [List.take_succ_eq_append_getElem h, sumB_app, List.getD_eq_getElem?_getD, List.getElem?_eq_getElem h]
  simp [sumB]
theorem sumB_le {ls : List (List Int)} (k : Nat) : sumB (ls.take k) ≤ sumB ls := by
  have := sumB_app (ls.take k) (ls.drop k)
  rw [List.take_append_drop] at this
  omega
theorem sumB_get {ls : List (List Int)} {k : Nat} (h : k < ls.length) : (ls.getD k []).length ≤ sumB ls := by
  have := sumB_take h
  have := sumB_le (ls := ls) (k + 1)
  omega
set_option maxHeartbeats 2000000 in
theorem szBlobS_r (w : World) (g : Nat) (a : Option Addr) (c : Nat) (ce : List (List Int)) (ps : List Plb) (L : Int) (hr : RdL w g a ce ps) (hn : ce.length ≤ 9223372036854775807) (hz : ∀ i, i < ce.length → (ce.getD i []).length ≤ 9223372036854775807) (h0 : 0 ≤ L) (h1 : L ≤ 1048576) :
    Calls Try.prog 11 #[.slice a ce.length c, .int .i64 L] w fun e w' => (∃ r, e = .returned (.int .i64 r) ∧ Lft L ((ce.length : Int) + (sumB ce : Int)) r) ∧ Below w.heap.size w w' := by
  have s1 : IntKind.i64.wrap (L - (ce.length : Int)) = L - (ce.length : Int) := by rw [IntKind.wrap_i64]; omega
  by_cases hl : L < (ce.length : Int)
  · have t1 : decide (L - (ce.length : Int) < 0) = true := decide_eq_true (by omega)
    have H := hide hl
    clear hl hr
    go_enter Try.func11, Try.ntmps11
    go_wp2
    go_ret
    exact ⟨⟨_, rfl, .inl ⟨by have := H.out; omega, rfl⟩⟩, Below.refl _ _⟩
  · have t1 : decide (L - (ce.length : Int) < 0) = false := decide_eq_false (by omega)
    go_enter Try.func11, Try.ntmps11
    go_wp2
    go_loopw [1, 5] (fun l i wr => ∃ (k : Nat), k ≤ ce.length ∧ i = .int .i64 k ∧ l = .int .i64 (L - (ce.length : Int) - (sumB (ce.take k) : Int)) ∧ 0 ≤ L - (ce.length : Int) - (sumB (ce.take k) : Int) ∧ Below w.heap.size w wr) (fun _ i _ => ce.length - (intOf i).toNat)
    case atStart => exact ⟨0, Nat.zero_le _, rfl, by rw [List.take_zero]; simp [sumB], by rw [List.take_zero]; simp [sumB]; omega, Below.refl _ _⟩
    case round =>
      obtain ⟨k, hk, rfl, rfl, hpos, nb⟩ := hrel
      by_cases hlt : k < ce.length
      · obtain ⟨off, rfl, hc⟩ := (hr.up nb).r (by omega)
        have t0 : (k : Int) < (ce.length : Int) := by omega
        have c1 := hc k hlt
        have ST := hide (sumB_take hlt)
        have SL := hide (sumB_le (ls := ce) (k + 1))
        have SZ := hide (szBlob_r wr (ps.getD k plb0).a (ps.getD k plb0).c (ce.getD k []).length (L - (ce.length : Int) - (sumB (ce.take k) : Int)) (hz k hlt) hpos (by omega))
        have NB := hide nb
        clear hc nb
        generalize (ps.getD k plb0).a = pa at *
        generalize (ps.getD k plb0).c = pc at *
        generalize (ce.getD k []).length = m at *
        obtain ⟨q, hq⟩ : ∃ q : Int, q = L - (ce.length : Int) - (sumB (ce.take k) : Int) := ⟨_, rfl⟩
        rw [← hq] at SZ hpos ⊢
        have HQ := hide hq
        clear hq
        go_wp2_with fail
        refine SZ.out.mono ?_
        rintro e w1 ⟨⟨r, rfl, hr1⟩, n1⟩
        have N1 := hide (nxt NB.out n1)
        clear SZ NB n1
        rcases hr1 with ⟨h2, rfl⟩ | ⟨h2, rfl⟩
        · have FA : Hid (L < (ce.length : Int) + (sumB ce : Int)) := by
            have := ST.out; have := SL.out; have := HQ.out
            show L < _
            omega
          clear h2 ST SL HQ
          go_wp2
          go_ret
          exact ⟨⟨_, rfl, .inl ⟨FA.out, rfl⟩⟩, N1.out⟩
        · have t3 : decide (q - (m : Int) < 0) = false := decide_eq_false (by omega)
          have EQ : Hid (q - (m : Int) = L - (ce.length : Int) - (sumB (ce.take (k + 1)) : Int)) := by
            have := ST.out; have := HQ.out
            show _ = _
            omega
          have GE : Hid (0 ≤ q - (m : Int)) := by show (0 : Int) ≤ _; omega
          clear h2 ST SL HQ hpos
          go_wp2
          go_roundw
          case rel => exact ⟨k + 1, by omega, by go_num, by rw [EQ.out], by rw [← EQ.out]; exact GE.out, N1.out⟩
          case measure => simp [intOf]; omega
      · obtain rfl : k = ce.length := by omega
        rw [List.take_length] at hpos ⊢
        have NB := hide nb
        have HP := hide hpos
        clear nb hr hpos
        go_wp2
        go_ret
        exact ⟨⟨_, rfl, .inr ⟨by have := HP.out; omega, by omega⟩⟩, NB.out⟩
end Go.Proofs.Ytfckjoheiabfoaa

/-
  The laws' helpers on messages: copied, held against each other, counted (written by gens/mhj.py).
-/
namespace Go.Proofs.Ytfckjoheiabfoaa
open Go Go.RowKit

theorem Rd.onl {w w' : World} {g q : Nat} {a : Option Addr} {xs : List Int} (h : Rd w g a .u8 xs) (O : Only q w w') (hne : g ≠ q) : Rd w' g a .u8 xs := fun h0 => by
  obtain ⟨off, e, hc⟩ := h h0
  exact ⟨off, e, fun i hi => (World.cell?_of_block (a := ⟨g, off + i, none⟩) (O.block g hne)).trans (hc i hi)⟩
/-- Lists that lie behind block b. -/
def FB (b : Nat) (W : World) (g : Nat) (xs : List Int) : Prop := Blk W g .u8 xs ∧ b < g
def FT (b : Nat) (W : World) (g : Nat) (ls : List (List UInt8)) : Prop := BlkT W g ls ∧ b < g
def FL (b : Nat) (W : World) (g : Nat) (ce : List (List Int)) (ps : List Plb) : Prop := RdL W g (some ⟨g, 0, none⟩) ce ps ∧ b < g ∧ ∀ i, i < ce.length → b < (ps.getD i plb0).q
theorem FB.up {b : Nat} {W W' : World} {g : Nat} {xs : List Int} (h : FB b W g xs) (n : Below W.heap.size W W') : FB b W' g xs := ⟨h.1.up n, h.2⟩
theorem FT.up {b : Nat} {W W' : World} {g : Nat} {xs : List (List UInt8)} (h : FT b W g xs) (n : Below W.heap.size W W') : FT b W' g xs := ⟨h.1.up n, h.2⟩
theorem FL.up {b : Nat} {W W' : World} {g : Nat} {xs : List (List Int)} {ps : List Plb} (h : FL b W g xs ps) (n : Below W.heap.size W W') : FL b W' g xs ps := ⟨h.1.up n, h.2⟩
theorem FB.onl {b q : Nat} {W W' : World} {g : Nat} {xs : List Int} (h : FB b W g xs) (O : Only q W W') (hq : q ≤ b) : FB b W' g xs := ⟨h.1.of_block (O.block g (by have := h.2; omega)), h.2⟩
theorem FT.onl {b q : Nat} {W W' : World} {g : Nat} {xs : List (List UInt8)} (h : FT b W g xs) (O : Only q W W') (hq : q ≤ b) : FT b W' g xs := ⟨(O.block g (by have := h.2; omega)).trans h.1, h.2⟩
theorem FL.onl {b q : Nat} {W W' : World} {g : Nat} {xs : List (List Int)} {ps : List Plb} (h : FL b W g xs ps) (O : Only q W W') (hq : q ≤ b) : FL b W' g xs ps := by
  obtain ⟨h1, h2, h3⟩ := h
  refine ⟨⟨fun h0 => ?_, fun i hi => (h1.b i hi).onl O (by have := h3 i hi; omega)⟩, h2, h3⟩
  obtain ⟨off, e, hc⟩ := h1.r h0
  exact ⟨off, e, fun i hi => (World.cell?_of_block (a := ⟨g, off + i, none⟩) (O.block g (by omega))).trans (hc i hi)⟩
set_option maxHeartbeats 8000000 in
theorem toMessage_any (w : World) (p : MQ) (m : Msg) (h : HasM w p m) (i : IsM m) :
    Calls Try.prog 6 #[.agg (mgV p m)] w fun e w' => (∃ q, e = .returned (.agg (mgV q m)) ∧ HasM w' q m) ∧ Below w.heap.size w w' := by
  obtain ⟨k, v, r, s, ho, pr, ti, ag, ea, bi, rs, ce, pf⟩ := m
  obtain ⟨a2, c2, g2, a3, c3, g3, a5, c5, g5, a6, c6, g6, a9, c9, g9, a11, c11, g11, a12, c12, g12, ps⟩ := p
  obtain ⟨hr, hs, hpr, hti, hbi, hce, hpf, hprC⟩ := h
  obtain ⟨rB, sB, tiB, biB, pfB, ceB, rL, sL, prL, tiL, biL, ceL, pfL, ceZ, hoL, prZ⟩ := i
  simp only at hr hs hpr hti hbi hce hpf hprC rB sB tiB biB pfB ceB rL sL prL tiL biL ceL pfL ceZ hoL prZ
  clear rB sB tiB biB pfB ceB hoL prZ hprC
  have Hr := hide hr
  have Hs := hide hs
  have Hpr := hide hpr
  have Hti := hide hti
  have Hbi := hide hbi
  have Hce := hide hce
  have Hpf := hide hpf
  have CZ := hide ceZ
  clear hr hs hpr hti hbi hce hpf ceZ
  have T0 := TMs.new w 26 31 [.int .i64 k, .int .i64 v, .slice a2 r.length c2, .slice a3 s.length c3, .string ⟨⟨ho⟩⟩, .slice a5 pr.length c5, .slice a6 ti.length c6, .int .i64 ag, .int .i64 ea, .slice a9 bi.length c9, .bool rs, .slice a11 ce.length c11, .slice a12 pf.length c12] [.int .i64 0, .int .i64 0, .slice none 0 0, .slice none 0 0, .string ⟨#[]⟩, .slice none 0 0, .slice none 0 0, .int .i64 0, .int .i64 0, .slice none 0 0, .bool false, .slice none 0 0, .slice none 0 0]
  obtain ⟨d13, hd13, hrow13⟩ := rowM
  simp only [mgV]
  go_enter Try.func6, Try.ntmps6
  go_upto_region 2 with fail
  have T0 : TMs w (((w.alloc (.cells #[.int .i64 k, .int .i64 v, .slice a2 r.length c2, .slice a3 s.length c3, .string ⟨⟨ho⟩⟩, .slice a5 pr.length c5, .slice a6 ti.length c6, .int .i64 ag, .int .i64 ea, .slice a9 bi.length c9, .bool rs, .slice a11 ce.length c11, .slice a12 pf.length c12] 26)).alloc (.cells #[.int .i64 0, .int .i64 0, .slice none 0 0, .slice none 0 0, .string ⟨#[]⟩, .slice none 0 0, .slice none 0 0, .int .i64 0, .int .i64 0, .slice none 0 0, .bool false, .slice none 0 0, .slice none 0 0] 31)).alloc (.cells #[.int .i64 0, .int .i64 0, .slice none 0 0, .slice none 0 0, .string ⟨#[]⟩, .slice none 0 0, .slice none 0 0, .int .i64 0, .int .i64 0, .slice none 0 0, .bool false, .slice none 0 0, .slice none 0 0] 31)) 26 31 [.int .i64 k, .int .i64 v, .slice a2 r.length c2, .slice a3 s.length c3, .string ⟨⟨ho⟩⟩, .slice a5 pr.length c5, .slice a6 ti.length c6, .int .i64 ag, .int .i64 ea, .slice a9 bi.length c9, .bool rs, .slice a11 ce.length c11, .slice a12 pf.length c12] [.int .i64 0, .int .i64 0, .slice none 0 0, .slice none 0 0, .string ⟨#[]⟩, .slice none 0 0, .slice none 0 0, .int .i64 0, .int .i64 0, .slice none 0 0, .bool false, .slice none 0 0, .slice none 0 0] [.int .i64 0, .int .i64 0, .slice none 0 0, .slice none 0 0, .string ⟨#[]⟩, .slice none 0 0, .slice none 0 0, .int .i64 0, .int .i64 0, .slice none 0 0, .bool false, .slice none 0 0, .slice none 0 0] := T0
  generalize ((w.alloc (.cells #[.int .i64 k, .int .i64 v, .slice a2 r.length c2, .slice a3 s.length c3, .string ⟨⟨ho⟩⟩, .slice a5 pr.length c5, .slice a6 ti.length c6, .int .i64 ag, .int .i64 ea, .slice a9 bi.length c9, .bool rs, .slice a11 ce.length c11, .slice a12 pf.length c12] 26)).alloc (.cells #[.int .i64 0, .int .i64 0, .slice none 0 0, .slice none 0 0, .string ⟨#[]⟩, .slice none 0 0, .slice none 0 0, .int .i64 0, .int .i64 0, .slice none 0 0, .bool false, .slice none 0 0, .slice none 0 0] 31)).alloc (.cells #[.int .i64 0, .int .i64 0, .slice none 0 0, .slice none 0 0, .string ⟨#[]⟩, .slice none 0 0, .slice none 0 0, .int .i64 0, .int .i64 0, .slice none 0 0, .bool false, .slice none 0 0, .slice none 0 0] 31) = W0 at *
  have TH := hide T0
  clear T0
  have qS : W0.cell? ⟨w.heap.size, 0, none⟩ = some (.int .i64 k) := TH.out.S.cell 0
  have qT : W0.cell? ⟨w.heap.size + 1 + 1, 0, none⟩ = some (.int .i64 0) := TH.out.T.cell 0
  have qF := TH.out.T.free 0
  go_upto_region 3 with fail
  have TN : Hid (TMs w (W0.setCell ⟨w.heap.size + 1 + 1, 0, none⟩ (.int .i64 k)) 26 31 [.int .i64 k, .int .i64 v, .slice a2 r.length c2, .slice a3 s.length c3, .string ⟨⟨ho⟩⟩, .slice a5 pr.length c5, .slice a6 ti.length c6, .int .i64 ag, .int .i64 ea, .slice a9 bi.length c9, .bool rs, .slice a11 ce.length c11, .slice a12 pf.length c12] [.int .i64 0, .int .i64 0, .slice none 0 0, .slice none 0 0, .string ⟨#[]⟩, .slice none 0 0, .slice none 0 0, .int .i64 0, .int .i64 0, .slice none 0 0, .bool false, .slice none 0 0, .slice none 0 0] [.int .i64 k, .int .i64 0, .slice none 0 0, .slice none 0 0, .string ⟨#[]⟩, .slice none 0 0, .slice none 0 0, .int .i64 0, .int .i64 0, .slice none 0 0, .bool false, .slice none 0 0, .slice none 0 0]) := TH.out.set 0 _
  clear qS qT qF TH 
  generalize W0.setCell ⟨w.heap.size + 1 + 1, 0, none⟩ (.int .i64 k) = W1 at *
  have TH := TN
  clear TN
  have qS : W1.cell? ⟨w.heap.size, 1, none⟩ = some (.int .i64 v) := TH.out.S.cell 1
  have qT : W1.cell? ⟨w.heap.size + 1 + 1, 1, none⟩ = some (.int .i64 0) := TH.out.T.cell 1
  have qF := TH.out.T.free 1
  go_upto_region 4 with fail
  have TN : Hid (TMs w (W1.setCell ⟨w.heap.size + 1 + 1, 1, none⟩ (.int .i64 v)) 26 31 [.int .i64 k, .int .i64 v, .slice a2 r.length c2, .slice a3 s.length c3, .string ⟨⟨ho⟩⟩, .slice a5 pr.length c5, .slice a6 ti.length c6, .int .i64 ag, .int .i64 ea, .slice a9 bi.length c9, .bool rs, .slice a11 ce.length c11, .slice a12 pf.length c12] [.int .i64 0, .int .i64 0, .slice none 0 0, .slice none 0 0, .string ⟨#[]⟩, .slice none 0 0, .slice none 0 0, .int .i64 0, .int .i64 0, .slice none 0 0, .bool false, .slice none 0 0, .slice none 0 0] [.int .i64 k, .int .i64 v, .slice none 0 0, .slice none 0 0, .string ⟨#[]⟩, .slice none 0 0, .slice none 0 0, .int .i64 0, .int .i64 0, .slice none 0 0, .bool false, .slice none 0 0, .slice none 0 0]) := TH.out.set 1 _
  clear qS qT qF TH 
  generalize W1.setCell ⟨w.heap.size + 1 + 1, 1, none⟩ (.int .i64 v) = W2 at *
  have TH := TN
  clear TN
  have qS : W2.cell? ⟨w.heap.size, 2, none⟩ = some (.slice a2 r.length c2) := TH.out.S.cell 2
  have TB := hide (toByteS_any W2 g2 a2 c2 r (Hr.out.up TH.out.N) rL)
  go_wp2_with fail
  refine TB.out.mono ?_
  rintro e V2 ⟨rfl, B, m⟩
  have lt := TH.out.T.lt
  have TM := hide (TH.out.up m)
  clear TB qS TH m 
  obtain ⟨G2, hG2⟩ : ∃ G, W2.heap.size = G := ⟨_, rfl⟩
  rw [hG2] at B lt ⊢
  clear hG2
  have A2 : Hid (FB (w.heap.size + 1 + 1) V2 G2 r) := ⟨B, lt⟩
  clear B lt
  have qT : V2.cell? ⟨w.heap.size + 1 + 1, 2, none⟩ = some (.slice none 0 0) := TM.out.T.cell 2
  have qF := TM.out.T.free 2
  go_upto_region 5 with fail
  have TN : Hid (TMs w (V2.setCell ⟨w.heap.size + 1 + 1, 2, none⟩ (.slice (some ⟨G2, 0, none⟩) r.length r.length)) 26 31 [.int .i64 k, .int .i64 v, .slice a2 r.length c2, .slice a3 s.length c3, .string ⟨⟨ho⟩⟩, .slice a5 pr.length c5, .slice a6 ti.length c6, .int .i64 ag, .int .i64 ea, .slice a9 bi.length c9, .bool rs, .slice a11 ce.length c11, .slice a12 pf.length c12] [.int .i64 0, .int .i64 0, .slice none 0 0, .slice none 0 0, .string ⟨#[]⟩, .slice none 0 0, .slice none 0 0, .int .i64 0, .int .i64 0, .slice none 0 0, .bool false, .slice none 0 0, .slice none 0 0] [.int .i64 k, .int .i64 v, .slice (some ⟨G2, 0, none⟩) r.length r.length, .slice none 0 0, .string ⟨#[]⟩, .slice none 0 0, .slice none 0 0, .int .i64 0, .int .i64 0, .slice none 0 0, .bool false, .slice none 0 0, .slice none 0 0]) := TM.out.set 2 _
  have C2 := hide (A2.out.onl (Only.setCell V2 (w.heap.size + 1 + 1) 2 (.slice (some ⟨G2, 0, none⟩) r.length r.length)) (Nat.le_refl _))
  clear qT qF TM A2 
  generalize V2.setCell ⟨w.heap.size + 1 + 1, 2, none⟩ (.slice (some ⟨G2, 0, none⟩) r.length r.length) = W3 at *
  have TH := TN
  clear TN
  have qS : W3.cell? ⟨w.heap.size, 3, none⟩ = some (.slice a3 s.length c3) := TH.out.S.cell 3
  have TB := hide (toByteS_any W3 g3 a3 c3 s (Hs.out.up TH.out.N) sL)
  go_wp2_with fail
  refine TB.out.mono ?_
  rintro e V3 ⟨rfl, B, m⟩
  have lt := TH.out.T.lt
  have TM := hide (TH.out.up m)
  have C2n := hide (C2.out.up m)
  clear TB qS TH m C2
  obtain ⟨G3, hG3⟩ : ∃ G, W3.heap.size = G := ⟨_, rfl⟩
  rw [hG3] at B lt ⊢
  clear hG3
  have A3 : Hid (FB (w.heap.size + 1 + 1) V3 G3 s) := ⟨B, lt⟩
  clear B lt
  have qT : V3.cell? ⟨w.heap.size + 1 + 1, 3, none⟩ = some (.slice none 0 0) := TM.out.T.cell 3
  have qF := TM.out.T.free 3
  go_upto_region 6 with fail
  have TN : Hid (TMs w (V3.setCell ⟨w.heap.size + 1 + 1, 3, none⟩ (.slice (some ⟨G3, 0, none⟩) s.length s.length)) 26 31 [.int .i64 k, .int .i64 v, .slice a2 r.length c2, .slice a3 s.length c3, .string ⟨⟨ho⟩⟩, .slice a5 pr.length c5, .slice a6 ti.length c6, .int .i64 ag, .int .i64 ea, .slice a9 bi.length c9, .bool rs, .slice a11 ce.length c11, .slice a12 pf.length c12] [.int .i64 0, .int .i64 0, .slice none 0 0, .slice none 0 0, .string ⟨#[]⟩, .slice none 0 0, .slice none 0 0, .int .i64 0, .int .i64 0, .slice none 0 0, .bool false, .slice none 0 0, .slice none 0 0] [.int .i64 k, .int .i64 v, .slice (some ⟨G2, 0, none⟩) r.length r.length, .slice (some ⟨G3, 0, none⟩) s.length s.length, .string ⟨#[]⟩, .slice none 0 0, .slice none 0 0, .int .i64 0, .int .i64 0, .slice none 0 0, .bool false, .slice none 0 0, .slice none 0 0]) := TM.out.set 3 _
  have C3 := hide (A3.out.onl (Only.setCell V3 (w.heap.size + 1 + 1) 3 (.slice (some ⟨G3, 0, none⟩) s.length s.length)) (Nat.le_refl _))
  have C2o := hide (C2n.out.onl (Only.setCell V3 (w.heap.size + 1 + 1) 3 (.slice (some ⟨G3, 0, none⟩) s.length s.length)) (Nat.le_refl _))
  clear qT qF TM A3 C2n
  generalize V3.setCell ⟨w.heap.size + 1 + 1, 3, none⟩ (.slice (some ⟨G3, 0, none⟩) s.length s.length) = W4 at *
  have TH := TN
  clear TN
  have C2 := C2o
  clear C2o
  have qS : W4.cell? ⟨w.heap.size, 4, none⟩ = some (.string ⟨⟨ho⟩⟩) := TH.out.S.cell 4
  have qT : W4.cell? ⟨w.heap.size + 1 + 1, 4, none⟩ = some (.string ⟨#[]⟩) := TH.out.T.cell 4
  have qF := TH.out.T.free 4
  go_upto_region 7 with fail
  have TN : Hid (TMs w (W4.setCell ⟨w.heap.size + 1 + 1, 4, none⟩ (.string ⟨⟨ho⟩⟩)) 26 31 [.int .i64 k, .int .i64 v, .slice a2 r.length c2, .slice a3 s.length c3, .string ⟨⟨ho⟩⟩, .slice a5 pr.length c5, .slice a6 ti.length c6, .int .i64 ag, .int .i64 ea, .slice a9 bi.length c9, .bool rs, .slice a11 ce.length c11, .slice a12 pf.length c12] [.int .i64 0, .int .i64 0, .slice none 0 0, .slice none 0 0, .string ⟨#[]⟩, .slice none 0 0, .slice none 0 0, .int .i64 0, .int .i64 0, .slice none 0 0, .bool false, .slice none 0 0, .slice none 0 0] [.int .i64 k, .int .i64 v, .slice (some ⟨G2, 0, none⟩) r.length r.length, .slice (some ⟨G3, 0, none⟩) s.length s.length, .string ⟨⟨ho⟩⟩, .slice none 0 0, .slice none 0 0, .int .i64 0, .int .i64 0, .slice none 0 0, .bool false, .slice none 0 0, .slice none 0 0]) := TH.out.set 4 _
  have C2n := hide (C2.out.onl (Only.setCell W4 (w.heap.size + 1 + 1) 4 (.string ⟨⟨ho⟩⟩)) (Nat.le_refl _))
  have C3n := hide (C3.out.onl (Only.setCell W4 (w.heap.size + 1 + 1) 4 (.string ⟨⟨ho⟩⟩)) (Nat.le_refl _))
  clear qS qT qF TH C2 C3
  generalize W4.setCell ⟨w.heap.size + 1 + 1, 4, none⟩ (.string ⟨⟨ho⟩⟩) = W5 at *
  have TH := TN
  clear TN
  have C2 := C2n
  clear C2n
  have C3 := C3n
  clear C3n
  have qS : W5.cell? ⟨w.heap.size, 5, none⟩ = some (.slice a5 pr.length c5) := TH.out.S.cell 5
  have TB := hide (toStringS_any W5 g5 a5 c5 pr (Hpr.out.up TH.out.N) prL)
  go_wp2_with fail
  refine TB.out.mono ?_
  rintro e V5 ⟨rfl, B, m⟩
  have lt := TH.out.T.lt
  have TM := hide (TH.out.up m)
  have C2n := hide (C2.out.up m)
  have C3n := hide (C3.out.up m)
  clear TB qS TH m C2 C3
  obtain ⟨G5, hG5⟩ : ∃ G, W5.heap.size = G := ⟨_, rfl⟩
  rw [hG5] at B lt ⊢
  clear hG5
  have A5 : Hid (FT (w.heap.size + 1 + 1) V5 G5 pr) := ⟨B, lt⟩
  clear B lt
  have qT : V5.cell? ⟨w.heap.size + 1 + 1, 5, none⟩ = some (.slice none 0 0) := TM.out.T.cell 5
  have qF := TM.out.T.free 5
  go_upto_region 8 with fail
  have TN : Hid (TMs w (V5.setCell ⟨w.heap.size + 1 + 1, 5, none⟩ (.slice (some ⟨G5, 0, none⟩) pr.length pr.length)) 26 31 [.int .i64 k, .int .i64 v, .slice a2 r.length c2, .slice a3 s.length c3, .string ⟨⟨ho⟩⟩, .slice a5 pr.length c5, .slice a6 ti.length c6, .int .i64 ag, .int .i64 ea, .slice a9 bi.length c9, .bool rs, .slice a11 ce.length c11, .slice a12 pf.length c12] [.int .i64 0, .int .i64 0, .slice none 0 0, .slice none 0 0, .string ⟨#[]⟩, .slice none 0 0, .slice none 0 0, .int .i64 0, .int .i64 0, .slice none 0 0, .bool false, .slice none 0 0, .slice none 0 0] [.int .i64 k, .int .i64 v, .slice (some ⟨G2, 0, none⟩) r.length r.length, .slice (some ⟨G3, 0, none⟩) s.length s.length, .string ⟨⟨ho⟩⟩, .slice (some ⟨G5, 0, none⟩) pr.length pr.length, .slice none 0 0, .int .i64 0, .int .i64 0, .slice none 0 0, .bool false, .slice none 0 0, .slice none 0 0]) := TM.out.set 5 _
  have C5 := hide (A5.out.onl (Only.setCell V5 (w.heap.size + 1 + 1) 5 (.slice (some ⟨G5, 0, none⟩) pr.length pr.length)) (Nat.le_refl _))
  have C2o := hide (C2n.out.onl (Only.setCell V5 (w.heap.size + 1 + 1) 5 (.slice (some ⟨G5, 0, none⟩) pr.length pr.length)) (Nat.le_refl _))
  have C3o := hide (C3n.out.onl (Only.setCell V5 (w.heap.size + 1 + 1) 5 (.slice (some ⟨G5, 0, none⟩) pr.length pr.length)) (Nat.le_refl _))
  clear qT qF TM A5 C2n C3n
  generalize V5.setCell ⟨w.heap.size + 1 + 1, 5, none⟩ (.slice (some ⟨G5, 0, none⟩) pr.length pr.length) = W6 at *
  have TH := TN
  clear TN
  have C2 := C2o
  clear C2o
  have C3 := C3o
  clear C3o
  have qS : W6.cell? ⟨w.heap.size, 6, none⟩ = some (.slice a6 ti.length c6) := TH.out.S.cell 6
  have TB := hide (toByteS_any W6 g6 a6 c6 ti (Hti.out.up TH.out.N) tiL)
  go_wp2_with fail
  refine TB.out.mono ?_
  rintro e V6 ⟨rfl, B, m⟩
  have lt := TH.out.T.lt
  have TM := hide (TH.out.up m)
  have C2n := hide (C2.out.up m)
  have C3n := hide (C3.out.up m)
  have C5n := hide (C5.out.up m)
  clear TB qS TH m C2 C3 C5
  obtain ⟨G6, hG6⟩ : ∃ G, W6.heap.size = G := ⟨_, rfl⟩
  rw [hG6] at B lt ⊢
  clear hG6
  have A6 : Hid (FB (w.heap.size + 1 + 1) V6 G6 ti) := ⟨B, lt⟩
  clear B lt
  have qT : V6.cell? ⟨w.heap.size + 1 + 1, 6, none⟩ = some (.slice none 0 0) := TM.out.T.cell 6
  have qF := TM.out.T.free 6
  go_upto_region 9 with fail
  have TN : Hid (TMs w (V6.setCell ⟨w.heap.size + 1 + 1, 6, none⟩ (.slice (some ⟨G6, 0, none⟩) ti.length ti.length)) 26 31 [.int .i64 k, .int .i64 v, .slice a2 r.length c2, .slice a3 s.length c3, .string ⟨⟨ho⟩⟩, .slice a5 pr.length c5, .slice a6 ti.length c6, .int .i64 ag, .int .i64 ea, .slice a9 bi.length c9, .bool rs, .slice a11 ce.length c11, .slice a12 pf.length c12] [.int .i64 0, .int .i64 0, .slice none 0 0, .slice none 0 0, .string ⟨#[]⟩, .slice none 0 0, .slice none 0 0, .int .i64 0, .int .i64 0, .slice none 0 0, .bool false, .slice none 0 0, .slice none 0 0] [.int .i64 k, .int .i64 v, .slice (some ⟨G2, 0, none⟩) r.length r.length, .slice (some ⟨G3, 0, none⟩) s.length s.length, .string ⟨⟨ho⟩⟩, .slice (some ⟨G5, 0, none⟩) pr.length pr.length, .slice (some ⟨G6, 0, none⟩) ti.length ti.length, .int .i64 0, .int .i64 0, .slice none 0 0, .bool false, .slice none 0 0, .slice none 0 0]) := TM.out.set 6 _
  have C6 := hide (A6.out.onl (Only.setCell V6 (w.heap.size + 1 + 1) 6 (.slice (some ⟨G6, 0, none⟩) ti.length ti.length)) (Nat.le_refl _))
  have C2o := hide (C2n.out.onl (Only.setCell V6 (w.heap.size + 1 + 1) 6 (.slice (some ⟨G6, 0, none⟩) ti.length ti.length)) (Nat.le_refl _))
  have C3o := hide (C3n.out.onl (Only.setCell V6 (w.heap.size + 1 + 1) 6 (.slice (some ⟨G6, 0, none⟩) ti.length ti.length)) (Nat.le_refl _))
  have C5o := hide (C5n.out.onl (Only.setCell V6 (w.heap.size + 1 + 1) 6 (.slice (some ⟨G6, 0, none⟩) ti.length ti.length)) (Nat.le_refl _))
  clear qT qF TM A6 C2n C3n C5n
  generalize V6.setCell ⟨w.heap.size + 1 + 1, 6, none⟩ (.slice (some ⟨G6, 0, none⟩) ti.length ti.length) = W7 at *
  have TH := TN
  clear TN
  have C2 := C2o
  clear C2o
  have C3 := C3o
  clear C3o
  have C5 := C5o
  clear C5o
  have qS : W7.cell? ⟨w.heap.size, 7, none⟩ = some (.int .i64 ag) := TH.out.S.cell 7
  have qT : W7.cell? ⟨w.heap.size + 1 + 1, 7, none⟩ = some (.int .i64 0) := TH.out.T.cell 7
  have qF := TH.out.T.free 7
  go_upto_region 10 with fail
  have TN : Hid (TMs w (W7.setCell ⟨w.heap.size + 1 + 1, 7, none⟩ (.int .i64 ag)) 26 31 [.int .i64 k, .int .i64 v, .slice a2 r.length c2, .slice a3 s.length c3, .string ⟨⟨ho⟩⟩, .slice a5 pr.length c5, .slice a6 ti.length c6, .int .i64 ag, .int .i64 ea, .slice a9 bi.length c9, .bool rs, .slice a11 ce.length c11, .slice a12 pf.length c12] [.int .i64 0, .int .i64 0, .slice none 0 0, .slice none 0 0, .string ⟨#[]⟩, .slice none 0 0, .slice none 0 0, .int .i64 0, .int .i64 0, .slice none 0 0, .bool false, .slice none 0 0, .slice none 0 0] [.int .i64 k, .int .i64 v, .slice (some ⟨G2, 0, none⟩) r.length r.length, .slice (some ⟨G3, 0, none⟩) s.length s.length, .string ⟨⟨ho⟩⟩, .slice (some ⟨G5, 0, none⟩) pr.length pr.length, .slice (some ⟨G6, 0, none⟩) ti.length ti.length, .int .i64 ag, .int .i64 0, .slice none 0 0, .bool false, .slice none 0 0, .slice none 0 0]) := TH.out.set 7 _
  have C2n := hide (C2.out.onl (Only.setCell W7 (w.heap.size + 1 + 1) 7 (.int .i64 ag)) (Nat.le_refl _))
  have C3n := hide (C3.out.onl (Only.setCell W7 (w.heap.size + 1 + 1) 7 (.int .i64 ag)) (Nat.le_refl _))
  have C5n := hide (C5.out.onl (Only.setCell W7 (w.heap.size + 1 + 1) 7 (.int .i64 ag)) (Nat.le_refl _))
  have C6n := hide (C6.out.onl (Only.setCell W7 (w.heap.size + 1 + 1) 7 (.int .i64 ag)) (Nat.le_refl _))
  clear qS qT qF TH C2 C3 C5 C6
  generalize W7.setCell ⟨w.heap.size + 1 + 1, 7, none⟩ (.int .i64 ag) = W8 at *
  have TH := TN
  clear TN
  have C2 := C2n
  clear C2n
  have C3 := C3n
  clear C3n
  have C5 := C5n
  clear C5n
  have C6 := C6n
  clear C6n
  have qS : W8.cell? ⟨w.heap.size, 8, none⟩ = some (.int .i64 ea) := TH.out.S.cell 8
  have qT : W8.cell? ⟨w.heap.size + 1 + 1, 8, none⟩ = some (.int .i64 0) := TH.out.T.cell 8
  have qF := TH.out.T.free 8
  go_upto_region 11 with fail
  have TN : Hid (TMs w (W8.setCell ⟨w.heap.size + 1 + 1, 8, none⟩ (.int .i64 ea)) 26 31 [.int .i64 k, .int .i64 v, .slice a2 r.length c2, .slice a3 s.length c3, .string ⟨⟨ho⟩⟩, .slice a5 pr.length c5, .slice a6 ti.length c6, .int .i64 ag, .int .i64 ea, .slice a9 bi.length c9, .bool rs, .slice a11 ce.length c11, .slice a12 pf.length c12] [.int .i64 0, .int .i64 0, .slice none 0 0, .slice none 0 0, .string ⟨#[]⟩, .slice none 0 0, .slice none 0 0, .int .i64 0, .int .i64 0, .slice none 0 0, .bool false, .slice none 0 0, .slice none 0 0] [.int .i64 k, .int .i64 v, .slice (some ⟨G2, 0, none⟩) r.length r.length, .slice (some ⟨G3, 0, none⟩) s.length s.length, .string ⟨⟨ho⟩⟩, .slice (some ⟨G5, 0, none⟩) pr.length pr.length, .slice (some ⟨G6, 0, none⟩) ti.length ti.length, .int .i64 ag, .int .i64 ea, .slice none 0 0, .bool false, .slice none 0 0, .slice none 0 0]) := TH.out.set 8 _
  have C2n := hide (C2.out.onl (Only.setCell W8 (w.heap.size + 1 + 1) 8 (.int .i64 ea)) (Nat.le_refl _))
  have C3n := hide (C3.out.onl (Only.setCell W8 (w.heap.size + 1 + 1) 8 (.int .i64 ea)) (Nat.le_refl _))
  have C5n := hide (C5.out.onl (Only.setCell W8 (w.heap.size + 1 + 1) 8 (.int .i64 ea)) (Nat.le_refl _))
  have C6n := hide (C6.out.onl (Only.setCell W8 (w.heap.size + 1 + 1) 8 (.int .i64 ea)) (Nat.le_refl _))
  clear qS qT qF TH C2 C3 C5 C6
  generalize W8.setCell ⟨w.heap.size + 1 + 1, 8, none⟩ (.int .i64 ea) = W9 at *
  have TH := TN
  clear TN
  have C2 := C2n
  clear C2n
  have C3 := C3n
  clear C3n
  have C5 := C5n
  clear C5n
  have C6 := C6n
  clear C6n
  have qS : W9.cell? ⟨w.heap.size, 9, none⟩ = some (.slice a9 bi.length c9) := TH.out.S.cell 9
  have TB := hide (toByteS_any W9 g9 a9 c9 bi (Hbi.out.up TH.out.N) biL)
  go_wp2_with fail
  refine TB.out.mono ?_
  rintro e V9 ⟨rfl, B, m⟩
  have lt := TH.out.T.lt
  have TM := hide (TH.out.up m)
  have C2n := hide (C2.out.up m)
  have C3n := hide (C3.out.up m)
  have C5n := hide (C5.out.up m)
  have C6n := hide (C6.out.up m)
  clear TB qS TH m C2 C3 C5 C6
  obtain ⟨G9, hG9⟩ : ∃ G, W9.heap.size = G := ⟨_, rfl⟩
  rw [hG9] at B lt ⊢
  clear hG9
  have A9 : Hid (FB (w.heap.size + 1 + 1) V9 G9 bi) := ⟨B, lt⟩
  clear B lt
  have qT : V9.cell? ⟨w.heap.size + 1 + 1, 9, none⟩ = some (.slice none 0 0) := TM.out.T.cell 9
  have qF := TM.out.T.free 9
  go_upto_region 12 with fail
  have TN : Hid (TMs w (V9.setCell ⟨w.heap.size + 1 + 1, 9, none⟩ (.slice (some ⟨G9, 0, none⟩) bi.length bi.length)) 26 31 [.int .i64 k, .int .i64 v, .slice a2 r.length c2, .slice a3 s.length c3, .string ⟨⟨ho⟩⟩, .slice a5 pr.length c5, .slice a6 ti.length c6, .int .i64 ag, .int .i64 ea, .slice a9 bi.length c9, .bool rs, .slice a11 ce.length c11, .slice a12 pf.length c12] [.int .i64 0, .int .i64 0, .slice none 0 0, .slice none 0 0, .string ⟨#[]⟩, .slice none 0 0, .slice none 0 0, .int .i64 0, .int .i64 0, .slice none 0 0, .bool false, .slice none 0 0, .slice none 0 0] [.int .i64 k, .int .i64 v, .slice (some ⟨G2, 0, none⟩) r.length r.length, .slice (some ⟨G3, 0, none⟩) s.length s.length, .string ⟨⟨ho⟩⟩, .slice (some ⟨G5, 0, none⟩) pr.length pr.length, .slice (some ⟨G6, 0, none⟩) ti.length ti.length, .int .i64 ag, .int .i64 ea, .slice (some ⟨G9, 0, none⟩) bi.length bi.length, .bool false, .slice none 0 0, .slice none 0 0]) := TM.out.set 9 _
  have C9 := hide (A9.out.onl (Only.setCell V9 (w.heap.size + 1 + 1) 9 (.slice (some ⟨G9, 0, none⟩) bi.length bi.length)) (Nat.le_refl _))
  have C2o := hide (C2n.out.onl (Only.setCell V9 (w.heap.size + 1 + 1) 9 (.slice (some ⟨G9, 0, none⟩) bi.length bi.length)) (Nat.le_refl _))
  have C3o := hide (C3n.out.onl (Only.setCell V9 (w.heap.size + 1 + 1) 9 (.slice (some ⟨G9, 0, none⟩) bi.length bi.length)) (Nat.le_refl _))
  have C5o := hide (C5n.out.onl (Only.setCell V9 (w.heap.size + 1 + 1) 9 (.slice (some ⟨G9, 0, none⟩) bi.length bi.length)) (Nat.le_refl _))
  have C6o := hide (C6n.out.onl (Only.setCell V9 (w.heap.size + 1 + 1) 9 (.slice (some ⟨G9, 0, none⟩) bi.length bi.length)) (Nat.le_refl _))
  clear qT qF TM A9 C2n C3n C5n C6n
  generalize V9.setCell ⟨w.heap.size + 1 + 1, 9, none⟩ (.slice (some ⟨G9, 0, none⟩) bi.length bi.length) = W10 at *
  have TH := TN
  clear TN
  have C2 := C2o
  clear C2o
  have C3 := C3o
  clear C3o
  have C5 := C5o
  clear C5o
  have C6 := C6o
  clear C6o
  have qS : W10.cell? ⟨w.heap.size, 10, none⟩ = some (.bool rs) := TH.out.S.cell 10
  have qT : W10.cell? ⟨w.heap.size + 1 + 1, 10, none⟩ = some (.bool false) := TH.out.T.cell 10
  have qF := TH.out.T.free 10
  go_upto_region 13 with fail
  have TN : Hid (TMs w (W10.setCell ⟨w.heap.size + 1 + 1, 10, none⟩ (.bool rs)) 26 31 [.int .i64 k, .int .i64 v, .slice a2 r.length c2, .slice a3 s.length c3, .string ⟨⟨ho⟩⟩, .slice a5 pr.length c5, .slice a6 ti.length c6, .int .i64 ag, .int .i64 ea, .slice a9 bi.length c9, .bool rs, .slice a11 ce.length c11, .slice a12 pf.length c12] [.int .i64 0, .int .i64 0, .slice none 0 0, .slice none 0 0, .string ⟨#[]⟩, .slice none 0 0, .slice none 0 0, .int .i64 0, .int .i64 0, .slice none 0 0, .bool false, .slice none 0 0, .slice none 0 0] [.int .i64 k, .int .i64 v, .slice (some ⟨G2, 0, none⟩) r.length r.length, .slice (some ⟨G3, 0, none⟩) s.length s.length, .string ⟨⟨ho⟩⟩, .slice (some ⟨G5, 0, none⟩) pr.length pr.length, .slice (some ⟨G6, 0, none⟩) ti.length ti.length, .int .i64 ag, .int .i64 ea, .slice (some ⟨G9, 0, none⟩) bi.length bi.length, .bool rs, .slice none 0 0, .slice none 0 0]) := TH.out.set 10 _
  have C2n := hide (C2.out.onl (Only.setCell W10 (w.heap.size + 1 + 1) 10 (.bool rs)) (Nat.le_refl _))
  have C3n := hide (C3.out.onl (Only.setCell W10 (w.heap.size + 1 + 1) 10 (.bool rs)) (Nat.le_refl _))
  have C5n := hide (C5.out.onl (Only.setCell W10 (w.heap.size + 1 + 1) 10 (.bool rs)) (Nat.le_refl _))
  have C6n := hide (C6.out.onl (Only.setCell W10 (w.heap.size + 1 + 1) 10 (.bool rs)) (Nat.le_refl _))
  have C9n := hide (C9.out.onl (Only.setCell W10 (w.heap.size + 1 + 1) 10 (.bool rs)) (Nat.le_refl _))
  clear qS qT qF TH C2 C3 C5 C6 C9
  generalize W10.setCell ⟨w.heap.size + 1 + 1, 10, none⟩ (.bool rs) = W11 at *
  have TH := TN
  clear TN
  have C2 := C2n
  clear C2n
  have C3 := C3n
  clear C3n
  have C5 := C5n
  clear C5n
  have C6 := C6n
  clear C6n
  have C9 := C9n
  clear C9n
  have qS : W11.cell? ⟨w.heap.size, 11, none⟩ = some (.slice a11 ce.length c11) := TH.out.S.cell 11
  have TB := hide (toBlobS_any W11 g11 a11 c11 ce ps (Hce.out.up TH.out.N) ceL CZ.out)
  go_wp2_with fail
  refine TB.out.mono ?_
  rintro e V11 ⟨⟨rfl, pn, B, BQ⟩, m⟩
  have lt := TH.out.T.lt
  have TM := hide (TH.out.up m)
  have C2n := hide (C2.out.up m)
  have C3n := hide (C3.out.up m)
  have C5n := hide (C5.out.up m)
  have C6n := hide (C6.out.up m)
  have C9n := hide (C9.out.up m)
  clear TB qS TH m C2 C3 C5 C6 C9
  obtain ⟨G11, hG11⟩ : ∃ G, W11.heap.size = G := ⟨_, rfl⟩
  rw [hG11] at B lt BQ ⊢
  clear hG11
  have A11 : Hid (FL (w.heap.size + 1 + 1) V11 G11 ce pn) := ⟨B, lt, fun i hi => by have := BQ i hi; omega⟩
  clear BQ
  clear B lt
  have qT : V11.cell? ⟨w.heap.size + 1 + 1, 11, none⟩ = some (.slice none 0 0) := TM.out.T.cell 11
  have qF := TM.out.T.free 11
  go_upto_region 14 with fail
  have TN : Hid (TMs w (V11.setCell ⟨w.heap.size + 1 + 1, 11, none⟩ (.slice (some ⟨G11, 0, none⟩) ce.length ce.length)) 26 31 [.int .i64 k, .int .i64 v, .slice a2 r.length c2, .slice a3 s.length c3, .string ⟨⟨ho⟩⟩, .slice a5 pr.length c5, .slice a6 ti.length c6, .int .i64 ag, .int .i64 ea, .slice a9 bi.length c9, .bool rs, .slice a11 ce.length c11, .slice a12 pf.length c12] [.int .i64 0, .int .i64 0, .slice none 0 0, .slice none 0 0, .string ⟨#[]⟩, .slice none 0 0, .slice none 0 0, .int .i64 0, .int .i64 0, .slice none 0 0, .bool false, .slice none 0 0, .slice none 0 0] [.int .i64 k, .int .i64 v, .slice (some ⟨G2, 0, none⟩) r.length r.length, .slice (some ⟨G3, 0, none⟩) s.length s.length, .string ⟨⟨ho⟩⟩, .slice (some ⟨G5, 0, none⟩) pr.length pr.length, .slice (some ⟨G6, 0, none⟩) ti.length ti.length, .int .i64 ag, .int .i64 ea, .slice (some ⟨G9, 0, none⟩) bi.length bi.length, .bool rs, .slice (some ⟨G11, 0, none⟩) ce.length ce.length, .slice none 0 0]) := TM.out.set 11 _
  have C11 := hide (A11.out.onl (Only.setCell V11 (w.heap.size + 1 + 1) 11 (.slice (some ⟨G11, 0, none⟩) ce.length ce.length)) (Nat.le_refl _))
  have C2o := hide (C2n.out.onl (Only.setCell V11 (w.heap.size + 1 + 1) 11 (.slice (some ⟨G11, 0, none⟩) ce.length ce.length)) (Nat.le_refl _))
  have C3o := hide (C3n.out.onl (Only.setCell V11 (w.heap.size + 1 + 1) 11 (.slice (some ⟨G11, 0, none⟩) ce.length ce.length)) (Nat.le_refl _))
  have C5o := hide (C5n.out.onl (Only.setCell V11 (w.heap.size + 1 + 1) 11 (.slice (some ⟨G11, 0, none⟩) ce.length ce.length)) (Nat.le_refl _))
  have C6o := hide (C6n.out.onl (Only.setCell V11 (w.heap.size + 1 + 1) 11 (.slice (some ⟨G11, 0, none⟩) ce.length ce.length)) (Nat.le_refl _))
  have C9o := hide (C9n.out.onl (Only.setCell V11 (w.heap.size + 1 + 1) 11 (.slice (some ⟨G11, 0, none⟩) ce.length ce.length)) (Nat.le_refl _))
  clear qT qF TM A11 C2n C3n C5n C6n C9n
  generalize V11.setCell ⟨w.heap.size + 1 + 1, 11, none⟩ (.slice (some ⟨G11, 0, none⟩) ce.length ce.length) = W12 at *
  have TH := TN
  clear TN
  have C2 := C2o
  clear C2o
  have C3 := C3o
  clear C3o
  have C5 := C5o
  clear C5o
  have C6 := C6o
  clear C6o
  have C9 := C9o
  clear C9o
  have qS : W12.cell? ⟨w.heap.size, 12, none⟩ = some (.slice a12 pf.length c12) := TH.out.S.cell 12
  have TB := hide (toByteS_any W12 g12 a12 c12 pf (Hpf.out.up TH.out.N) pfL)
  go_wp2_with fail
  refine TB.out.mono ?_
  rintro e V12 ⟨rfl, B, m⟩
  have lt := TH.out.T.lt
  have TM := hide (TH.out.up m)
  have C2n := hide (C2.out.up m)
  have C3n := hide (C3.out.up m)
  have C5n := hide (C5.out.up m)
  have C6n := hide (C6.out.up m)
  have C9n := hide (C9.out.up m)
  have C11n := hide (C11.out.up m)
  clear TB qS TH m C2 C3 C5 C6 C9 C11
  obtain ⟨G12, hG12⟩ : ∃ G, W12.heap.size = G := ⟨_, rfl⟩
  rw [hG12] at B lt ⊢
  clear hG12
  have A12 : Hid (FB (w.heap.size + 1 + 1) V12 G12 pf) := ⟨B, lt⟩
  clear B lt
  have qT : V12.cell? ⟨w.heap.size + 1 + 1, 12, none⟩ = some (.slice none 0 0) := TM.out.T.cell 12
  have qF := TM.out.T.free 12
  go_upto_region 15 with fail
  have TN : Hid (TMs w (V12.setCell ⟨w.heap.size + 1 + 1, 12, none⟩ (.slice (some ⟨G12, 0, none⟩) pf.length pf.length)) 26 31 [.int .i64 k, .int .i64 v, .slice a2 r.length c2, .slice a3 s.length c3, .string ⟨⟨ho⟩⟩, .slice a5 pr.length c5, .slice a6 ti.length c6, .int .i64 ag, .int .i64 ea, .slice a9 bi.length c9, .bool rs, .slice a11 ce.length c11, .slice a12 pf.length c12] [.int .i64 0, .int .i64 0, .slice none 0 0, .slice none 0 0, .string ⟨#[]⟩, .slice none 0 0, .slice none 0 0, .int .i64 0, .int .i64 0, .slice none 0 0, .bool false, .slice none 0 0, .slice none 0 0] [.int .i64 k, .int .i64 v, .slice (some ⟨G2, 0, none⟩) r.length r.length, .slice (some ⟨G3, 0, none⟩) s.length s.length, .string ⟨⟨ho⟩⟩, .slice (some ⟨G5, 0, none⟩) pr.length pr.length, .slice (some ⟨G6, 0, none⟩) ti.length ti.length, .int .i64 ag, .int .i64 ea, .slice (some ⟨G9, 0, none⟩) bi.length bi.length, .bool rs, .slice (some ⟨G11, 0, none⟩) ce.length ce.length, .slice (some ⟨G12, 0, none⟩) pf.length pf.length]) := TM.out.set 12 _
  have C12 := hide (A12.out.onl (Only.setCell V12 (w.heap.size + 1 + 1) 12 (.slice (some ⟨G12, 0, none⟩) pf.length pf.length)) (Nat.le_refl _))
  have C2o := hide (C2n.out.onl (Only.setCell V12 (w.heap.size + 1 + 1) 12 (.slice (some ⟨G12, 0, none⟩) pf.length pf.length)) (Nat.le_refl _))
  have C3o := hide (C3n.out.onl (Only.setCell V12 (w.heap.size + 1 + 1) 12 (.slice (some ⟨G12, 0, none⟩) pf.length pf.length)) (Nat.le_refl _))
  have C5o := hide (C5n.out.onl (Only.setCell V12 (w.heap.size + 1 + 1) 12 (.slice (some ⟨G12, 0, none⟩) pf.length pf.length)) (Nat.le_refl _))
  have C6o := hide (C6n.out.onl (Only.setCell V12 (w.heap.size + 1 + 1) 12 (.slice (some ⟨G12, 0, none⟩) pf.length pf.length)) (Nat.le_refl _))
  have C9o := hide (C9n.out.onl (Only.setCell V12 (w.heap.size + 1 + 1) 12 (.slice (some ⟨G12, 0, none⟩) pf.length pf.length)) (Nat.le_refl _))
  have C11o := hide (C11n.out.onl (Only.setCell V12 (w.heap.size + 1 + 1) 12 (.slice (some ⟨G12, 0, none⟩) pf.length pf.length)) (Nat.le_refl _))
  clear qT qF TM A12 C2n C3n C5n C6n C9n C11n
  generalize V12.setCell ⟨w.heap.size + 1 + 1, 12, none⟩ (.slice (some ⟨G12, 0, none⟩) pf.length pf.length) = W13 at *
  have TH := TN
  clear TN
  have C2 := C2o
  clear C2o
  have C3 := C3o
  clear C3o
  have C5 := C5o
  clear C5o
  have C6 := C6o
  clear C6o
  have C9 := C9o
  clear C9o
  have C11 := C11o
  clear C11o
  have RG := TH.out.T.rangeG
  have THR := TH.out.U.thereG
  have RR := World.rangeAt_setCells_same W13 (w.heap.size + 1) 0 [.int .i64 k, .int .i64 v, .slice (some ⟨G2, 0, none⟩) r.length r.length, .slice (some ⟨G3, 0, none⟩) s.length s.length, .string ⟨⟨ho⟩⟩, .slice (some ⟨G5, 0, none⟩) pr.length pr.length, .slice (some ⟨G6, 0, none⟩) ti.length ti.length, .int .i64 ag, .int .i64 ea, .slice (some ⟨G9, 0, none⟩) bi.length bi.length, .bool rs, .slice (some ⟨G11, 0, none⟩) ce.length ce.length, .slice (some ⟨G12, 0, none⟩) pf.length pf.length] THR
  have OQ := only_setG W13 (w.heap.size + 1) [.int .i64 k, .int .i64 v, .slice (some ⟨G2, 0, none⟩) r.length r.length, .slice (some ⟨G3, 0, none⟩) s.length s.length, .string ⟨⟨ho⟩⟩, .slice (some ⟨G5, 0, none⟩) pr.length pr.length, .slice (some ⟨G6, 0, none⟩) ti.length ti.length, .int .i64 ag, .int .i64 ea, .slice (some ⟨G9, 0, none⟩) bi.length bi.length, .bool rs, .slice (some ⟨G11, 0, none⟩) ce.length ce.length, .slice (some ⟨G12, 0, none⟩) pf.length pf.length] 0
  have N8 : Hid (Below w.heap.size w (W13.setCells (w.heap.size + 1) 0 [.int .i64 k, .int .i64 v, .slice (some ⟨G2, 0, none⟩) r.length r.length, .slice (some ⟨G3, 0, none⟩) s.length s.length, .string ⟨⟨ho⟩⟩, .slice (some ⟨G5, 0, none⟩) pr.length pr.length, .slice (some ⟨G6, 0, none⟩) ti.length ti.length, .int .i64 ag, .int .i64 ea, .slice (some ⟨G9, 0, none⟩) bi.length bi.length, .bool rs, .slice (some ⟨G11, 0, none⟩) ce.length ce.length, .slice (some ⟨G12, 0, none⟩) pf.length pf.length])) := TH.out.N.trans (OQ.below (by omega))
  have C2f := hide (C2.out.onl OQ (by omega))
  have C3f := hide (C3.out.onl OQ (by omega))
  have C5f := hide (C5.out.onl OQ (by omega))
  have C6f := hide (C6.out.onl OQ (by omega))
  have C9f := hide (C9.out.onl OQ (by omega))
  have C11f := hide (C11.out.onl OQ (by omega))
  have C12f := hide (C12.out.onl OQ (by omega))
  clear OQ TH C2 C3 C5 C6 C9 C11 C12
  have ON : ([.int .i64 k, .int .i64 v, .slice (some ⟨G2, 0, none⟩) r.length r.length, .slice (some ⟨G3, 0, none⟩) s.length s.length, .string ⟨⟨ho⟩⟩, .slice (some ⟨G5, 0, none⟩) pr.length pr.length, .slice (some ⟨G6, 0, none⟩) ti.length ti.length, .int .i64 ag, .int .i64 ea, .slice (some ⟨G9, 0, none⟩) bi.length bi.length, .bool rs, .slice (some ⟨G11, 0, none⟩) ce.length ce.length, .slice (some ⟨G12, 0, none⟩) pf.length pf.length] : List Value).toArray.all (·.oneCell') = true := all_oneCell_toArray fun v hv => by
    simp only [List.mem_cons, List.not_mem_nil, or_false] at hv
    rcases hv with rfl | rfl | rfl | rfl | rfl | rfl | rfl | rfl | rfl | rfl | rfl | rfl | rfl
    all_goals rfl
  go_wp2_with (first
    | (refine wpList_load_mid rfl 31 (.tmp 3) rfl (w.heap.size + 1 + 1) 0 rfl [.int .i64 k, .int .i64 v, .slice (some ⟨G2, 0, none⟩) r.length r.length, .slice (some ⟨G3, 0, none⟩) s.length s.length, .string ⟨⟨ho⟩⟩, .slice (some ⟨G5, 0, none⟩) pr.length pr.length, .slice (some ⟨G6, 0, none⟩) ti.length ti.length, .int .i64 ag, .int .i64 ea, .slice (some ⟨G9, 0, none⟩) bi.length bi.length, .bool rs, .slice (some ⟨G11, 0, none⟩) ce.length ce.length, .slice (some ⟨G12, 0, none⟩) pf.length pf.length] d13 RG hd13 hrow13 iM ?_)
    | (refine wpList_store_mid rfl 31 (.tmp 2) (.tmp 50) rfl (w.heap.size + 1) 0 #[.int .i64 k, .int .i64 v, .slice (some ⟨G2, 0, none⟩) r.length r.length, .slice (some ⟨G3, 0, none⟩) s.length s.length, .string ⟨⟨ho⟩⟩, .slice (some ⟨G5, 0, none⟩) pr.length pr.length, .slice (some ⟨G6, 0, none⟩) ti.length ti.length, .int .i64 ag, .int .i64 ea, .slice (some ⟨G9, 0, none⟩) bi.length bi.length, .bool rs, .slice (some ⟨G11, 0, none⟩) ce.length ce.length, .slice (some ⟨G12, 0, none⟩) pf.length pf.length] rfl rfl ?hth ?hin ?hon ?_))
  case hth => exact THR
  case hin => exact iM
  case hon => exact ON
  exact bodyPost_ret (v := .agg #[.int .i64 k, .int .i64 v, .slice (some ⟨G2, 0, none⟩) r.length r.length, .slice (some ⟨G3, 0, none⟩) s.length s.length, .string ⟨⟨ho⟩⟩, .slice (some ⟨G5, 0, none⟩) pr.length pr.length, .slice (some ⟨G6, 0, none⟩) ti.length ti.length, .int .i64 ag, .int .i64 ea, .slice (some ⟨G9, 0, none⟩) bi.length bi.length, .bool rs, .slice (some ⟨G11, 0, none⟩) ce.length ce.length, .slice (some ⟨G12, 0, none⟩) pf.length pf.length]) (results_cellG Try.results6 _ _ (w.heap.size + 1) _ d13 rfl RR hd13 hrow13 iM) rfl ⟨⟨⟨some ⟨G2, 0, none⟩, r.length, G2, some ⟨G3, 0, none⟩, s.length, G3, some ⟨G5, 0, none⟩, pr.length, G5, some ⟨G6, 0, none⟩, ti.length, G6, some ⟨G9, 0, none⟩, bi.length, G9, some ⟨G11, 0, none⟩, ce.length, G11, some ⟨G12, 0, none⟩, pf.length, G12, pn⟩, rfl, ⟨C2f.out.1.own0.rd, C3f.out.1.own0.rd, C5f.out.1.rd, C6f.out.1.own0.rd, C9f.out.1.own0.rd, C11f.out.1, C12f.out.1.own0.rd, Nat.le_refl _⟩⟩, N8.out⟩
set_option maxHeartbeats 8000000 in
theorem eqMessage_same (w : World) (p q : MQ) (m : Msg) (hp : HasM w p m) (hq : HasM w q m) (i : IsM m) :
    Calls Try.prog 8 #[.agg (mgV p m), .agg (mgV q m)] w fun e w' => e = .returned (.bool true) ∧ Below w.heap.size w w' := by
  obtain ⟨k, v, r, s, ho, pr, ti, ag, ea, bi, rs, ce, pf⟩ := m
  obtain ⟨a2, c2, g2, a3, c3, g3, a5, c5, g5, a6, c6, g6, a9, c9, g9, a11, c11, g11, a12, c12, g12, ps⟩ := p
  obtain ⟨e2, d2, f2, e3, d3, f3, e5, d5, f5, e6, d6, f6, e9, d9, f9, e11, d11, f11, e12, d12, f12, qs⟩ := q
  obtain ⟨rB, sB, tiB, biB, pfB, ceB, rL, sL, prL, tiL, biL, ceL, pfL, ceZ, hoL, prZ⟩ := i
  simp only at rL sL prL tiL biL ceL pfL ceZ
  clear rB sB tiB biB pfB ceB hoL prZ
  have CZ := hide ceZ
  clear ceZ
  have TA0 := RwC.new w [.int .i64 k, .int .i64 v, .slice a2 r.length c2, .slice a3 s.length c3, .string ⟨⟨ho⟩⟩, .slice a5 pr.length c5, .slice a6 ti.length c6, .int .i64 ag, .int .i64 ea, .slice a9 bi.length c9, .bool rs, .slice a11 ce.length c11, .slice a12 pf.length c12] 31
  have n1 : Below w.heap.size w (w.alloc (.cells #[.int .i64 k, .int .i64 v, .slice a2 r.length c2, .slice a3 s.length c3, .string ⟨⟨ho⟩⟩, .slice a5 pr.length c5, .slice a6 ti.length c6, .int .i64 ag, .int .i64 ea, .slice a9 bi.length c9, .bool rs, .slice a11 ce.length c11, .slice a12 pf.length c12] 31)) := (Below.refl _ _).alloc (Nat.le_refl _) _
  have z1 : (w.alloc (.cells #[.int .i64 k, .int .i64 v, .slice a2 r.length c2, .slice a3 s.length c3, .string ⟨⟨ho⟩⟩, .slice a5 pr.length c5, .slice a6 ti.length c6, .int .i64 ag, .int .i64 ea, .slice a9 bi.length c9, .bool rs, .slice a11 ce.length c11, .slice a12 pf.length c12] 31)).heap.size = w.heap.size + 1 := by simp
  have TB0 := RwC.new (w.alloc (.cells #[.int .i64 k, .int .i64 v, .slice a2 r.length c2, .slice a3 s.length c3, .string ⟨⟨ho⟩⟩, .slice a5 pr.length c5, .slice a6 ti.length c6, .int .i64 ag, .int .i64 ea, .slice a9 bi.length c9, .bool rs, .slice a11 ce.length c11, .slice a12 pf.length c12] 31)) [.int .i64 k, .int .i64 v, .slice e2 r.length d2, .slice e3 s.length d3, .string ⟨⟨ho⟩⟩, .slice e5 pr.length d5, .slice e6 ti.length d6, .int .i64 ag, .int .i64 ea, .slice e9 bi.length d9, .bool rs, .slice e11 ce.length d11, .slice e12 pf.length d12] 31
  have n2 : Below (w.alloc (.cells #[.int .i64 k, .int .i64 v, .slice a2 r.length c2, .slice a3 s.length c3, .string ⟨⟨ho⟩⟩, .slice a5 pr.length c5, .slice a6 ti.length c6, .int .i64 ag, .int .i64 ea, .slice a9 bi.length c9, .bool rs, .slice a11 ce.length c11, .slice a12 pf.length c12] 31)).heap.size (w.alloc (.cells #[.int .i64 k, .int .i64 v, .slice a2 r.length c2, .slice a3 s.length c3, .string ⟨⟨ho⟩⟩, .slice a5 pr.length c5, .slice a6 ti.length c6, .int .i64 ag, .int .i64 ea, .slice a9 bi.length c9, .bool rs, .slice a11 ce.length c11, .slice a12 pf.length c12] 31)) ((w.alloc (.cells #[.int .i64 k, .int .i64 v, .slice a2 r.length c2, .slice a3 s.length c3, .string ⟨⟨ho⟩⟩, .slice a5 pr.length c5, .slice a6 ti.length c6, .int .i64 ag, .int .i64 ea, .slice a9 bi.length c9, .bool rs, .slice a11 ce.length c11, .slice a12 pf.length c12] 31)).alloc (.cells #[.int .i64 k, .int .i64 v, .slice e2 r.length d2, .slice e3 s.length d3, .string ⟨⟨ho⟩⟩, .slice e5 pr.length d5, .slice e6 ti.length d6, .int .i64 ag, .int .i64 ea, .slice e9 bi.length d9, .bool rs, .slice e11 ce.length d11, .slice e12 pf.length d12] 31)) := (Below.refl _ _).alloc (Nat.le_refl _) _
  rw [z1] at TB0
  have TA : Hid (RwC ((w.alloc (.cells #[.int .i64 k, .int .i64 v, .slice a2 r.length c2, .slice a3 s.length c3, .string ⟨⟨ho⟩⟩, .slice a5 pr.length c5, .slice a6 ti.length c6, .int .i64 ag, .int .i64 ea, .slice a9 bi.length c9, .bool rs, .slice a11 ce.length c11, .slice a12 pf.length c12] 31)).alloc (.cells #[.int .i64 k, .int .i64 v, .slice e2 r.length d2, .slice e3 s.length d3, .string ⟨⟨ho⟩⟩, .slice e5 pr.length d5, .slice e6 ti.length d6, .int .i64 ag, .int .i64 ea, .slice e9 bi.length d9, .bool rs, .slice e11 ce.length d11, .slice e12 pf.length d12] 31)) w.heap.size [.int .i64 k, .int .i64 v, .slice a2 r.length c2, .slice a3 s.length c3, .string ⟨⟨ho⟩⟩, .slice a5 pr.length c5, .slice a6 ti.length c6, .int .i64 ag, .int .i64 ea, .slice a9 bi.length c9, .bool rs, .slice a11 ce.length c11, .slice a12 pf.length c12] 31) := RwC.up TA0 n2
  have TB : Hid (RwC ((w.alloc (.cells #[.int .i64 k, .int .i64 v, .slice a2 r.length c2, .slice a3 s.length c3, .string ⟨⟨ho⟩⟩, .slice a5 pr.length c5, .slice a6 ti.length c6, .int .i64 ag, .int .i64 ea, .slice a9 bi.length c9, .bool rs, .slice a11 ce.length c11, .slice a12 pf.length c12] 31)).alloc (.cells #[.int .i64 k, .int .i64 v, .slice e2 r.length d2, .slice e3 s.length d3, .string ⟨⟨ho⟩⟩, .slice e5 pr.length d5, .slice e6 ti.length d6, .int .i64 ag, .int .i64 ea, .slice e9 bi.length d9, .bool rs, .slice e11 ce.length d11, .slice e12 pf.length d12] 31)) (w.heap.size + 1) [.int .i64 k, .int .i64 v, .slice e2 r.length d2, .slice e3 s.length d3, .string ⟨⟨ho⟩⟩, .slice e5 pr.length d5, .slice e6 ti.length d6, .int .i64 ag, .int .i64 ea, .slice e9 bi.length d9, .bool rs, .slice e11 ce.length d11, .slice e12 pf.length d12] 31) := TB0
  have N := hide (nxt n1 n2)
  have HP := hide (hp.up N.out)
  have HQ := hide (hq.up N.out)
  clear TA0 n1 z1 TB0 n2 hp hq
  simp only [mgV]
  have ek : (k != k) = false := by simp
  have ev : (v != v) = false := by simp
  have eg : (ag != ag) = false := by simp
  have ee : (ea != ea) = false := by simp
  have eh : (ho == ho) = true := by simp
  go_enter Try.func8, Try.ntmps8
  go_upto_region 1 with fail
  generalize ((w.alloc (.cells #[.int .i64 k, .int .i64 v, .slice a2 r.length c2, .slice a3 s.length c3, .string ⟨⟨ho⟩⟩, .slice a5 pr.length c5, .slice a6 ti.length c6, .int .i64 ag, .int .i64 ea, .slice a9 bi.length c9, .bool rs, .slice a11 ce.length c11, .slice a12 pf.length c12] 31)).alloc (.cells #[.int .i64 k, .int .i64 v, .slice e2 r.length d2, .slice e3 s.length d3, .string ⟨⟨ho⟩⟩, .slice e5 pr.length d5, .slice e6 ti.length d6, .int .i64 ag, .int .i64 ea, .slice e9 bi.length d9, .bool rs, .slice e11 ce.length d11, .slice e12 pf.length d12] 31)) = W0 at *
  have ka0 : W0.cell? ⟨w.heap.size, 0, none⟩ = some (.int .i64 k) := TA.out.cell 0
  have kb0 : W0.cell? ⟨w.heap.size + 1, 0, none⟩ = some (.int .i64 k) := TB.out.cell 0
  have ka1 : W0.cell? ⟨w.heap.size, 1, none⟩ = some (.int .i64 v) := TA.out.cell 1
  have kb1 : W0.cell? ⟨w.heap.size + 1, 1, none⟩ = some (.int .i64 v) := TB.out.cell 1
  have ka2 : W0.cell? ⟨w.heap.size, 2, none⟩ = some (.slice a2 r.length c2) := TA.out.cell 2
  have kb2 : W0.cell? ⟨w.heap.size + 1, 2, none⟩ = some (.slice e2 r.length d2) := TB.out.cell 2
  have EQ := hide (eqByteS_same W0 g2 f2 a2 e2 c2 d2 r HP.out.r HQ.out.r rL)
  go_wp2_with fail
  refine EQ.out.mono ?_
  rintro e W1 ⟨rfl, m⟩
  have TAn := hide (TA.out.up m)
  have TBn := hide (TB.out.up m)
  have Nn := hide (nxt N.out m)
  have HPn := hide (HP.out.up m)
  have HQn := hide (HQ.out.up m)
  clear EQ m TA TB N HP HQ ka0 kb0 ka1 kb1 ka2 kb2
  have TA := TAn
  have TB := TBn
  have N := Nn
  have HP := HPn
  have HQ := HQn
  clear TAn TBn Nn HPn HQn
  have ka3 : W1.cell? ⟨w.heap.size, 3, none⟩ = some (.slice a3 s.length c3) := TA.out.cell 3
  have kb3 : W1.cell? ⟨w.heap.size + 1, 3, none⟩ = some (.slice e3 s.length d3) := TB.out.cell 3
  have EQ := hide (eqByteS_same W1 g3 f3 a3 e3 c3 d3 s HP.out.s HQ.out.s sL)
  go_wp2_with fail
  refine EQ.out.mono ?_
  rintro e W2 ⟨rfl, m⟩
  have TAn := hide (TA.out.up m)
  have TBn := hide (TB.out.up m)
  have Nn := hide (nxt N.out m)
  have HPn := hide (HP.out.up m)
  have HQn := hide (HQ.out.up m)
  clear EQ m TA TB N HP HQ ka3 kb3
  have TA := TAn
  have TB := TBn
  have N := Nn
  have HP := HPn
  have HQ := HQn
  clear TAn TBn Nn HPn HQn
  have ka4 : W2.cell? ⟨w.heap.size, 4, none⟩ = some (.string ⟨⟨ho⟩⟩) := TA.out.cell 4
  have kb4 : W2.cell? ⟨w.heap.size + 1, 4, none⟩ = some (.string ⟨⟨ho⟩⟩) := TB.out.cell 4
  have ka5 : W2.cell? ⟨w.heap.size, 5, none⟩ = some (.slice a5 pr.length c5) := TA.out.cell 5
  have kb5 : W2.cell? ⟨w.heap.size + 1, 5, none⟩ = some (.slice e5 pr.length d5) := TB.out.cell 5
  have EQ := hide (eqStringS_same W2 g5 f5 a5 e5 c5 d5 pr HP.out.pr HQ.out.pr prL)
  go_wp2_with fail
  refine EQ.out.mono ?_
  rintro e W3 ⟨rfl, m⟩
  have TAn := hide (TA.out.up m)
  have TBn := hide (TB.out.up m)
  have Nn := hide (nxt N.out m)
  have HPn := hide (HP.out.up m)
  have HQn := hide (HQ.out.up m)
  clear EQ m TA TB N HP HQ ka4 kb4 ka5 kb5
  have TA := TAn
  have TB := TBn
  have N := Nn
  have HP := HPn
  have HQ := HQn
  clear TAn TBn Nn HPn HQn
  have ka6 : W3.cell? ⟨w.heap.size, 6, none⟩ = some (.slice a6 ti.length c6) := TA.out.cell 6
  have kb6 : W3.cell? ⟨w.heap.size + 1, 6, none⟩ = some (.slice e6 ti.length d6) := TB.out.cell 6
  have EQ := hide (eqByteS_same W3 g6 f6 a6 e6 c6 d6 ti HP.out.ti HQ.out.ti tiL)
  go_wp2_with fail
  refine EQ.out.mono ?_
  rintro e W4 ⟨rfl, m⟩
  have TAn := hide (TA.out.up m)
  have TBn := hide (TB.out.up m)
  have Nn := hide (nxt N.out m)
  have HPn := hide (HP.out.up m)
  have HQn := hide (HQ.out.up m)
  clear EQ m TA TB N HP HQ ka6 kb6
  have TA := TAn
  have TB := TBn
  have N := Nn
  have HP := HPn
  have HQ := HQn
  clear TAn TBn Nn HPn HQn
  have ka7 : W4.cell? ⟨w.heap.size, 7, none⟩ = some (.int .i64 ag) := TA.out.cell 7
  have kb7 : W4.cell? ⟨w.heap.size + 1, 7, none⟩ = some (.int .i64 ag) := TB.out.cell 7
  have ka8 : W4.cell? ⟨w.heap.size, 8, none⟩ = some (.int .i64 ea) := TA.out.cell 8
  have kb8 : W4.cell? ⟨w.heap.size + 1, 8, none⟩ = some (.int .i64 ea) := TB.out.cell 8
  have ka9 : W4.cell? ⟨w.heap.size, 9, none⟩ = some (.slice a9 bi.length c9) := TA.out.cell 9
  have kb9 : W4.cell? ⟨w.heap.size + 1, 9, none⟩ = some (.slice e9 bi.length d9) := TB.out.cell 9
  have EQ := hide (eqByteS_same W4 g9 f9 a9 e9 c9 d9 bi HP.out.bi HQ.out.bi biL)
  go_wp2_with fail
  refine EQ.out.mono ?_
  rintro e W5 ⟨rfl, m⟩
  have TAn := hide (TA.out.up m)
  have TBn := hide (TB.out.up m)
  have Nn := hide (nxt N.out m)
  have HPn := hide (HP.out.up m)
  have HQn := hide (HQ.out.up m)
  clear EQ m TA TB N HP HQ ka7 kb7 ka8 kb8 ka9 kb9
  have TA := TAn
  have TB := TBn
  have N := Nn
  have HP := HPn
  have HQ := HQn
  clear TAn TBn Nn HPn HQn
  have ka10 : W5.cell? ⟨w.heap.size, 10, none⟩ = some (.bool rs) := TA.out.cell 10
  have kb10 : W5.cell? ⟨w.heap.size + 1, 10, none⟩ = some (.bool rs) := TB.out.cell 10
  have ka11 : W5.cell? ⟨w.heap.size, 11, none⟩ = some (.slice a11 ce.length c11) := TA.out.cell 11
  have kb11 : W5.cell? ⟨w.heap.size + 1, 11, none⟩ = some (.slice e11 ce.length d11) := TB.out.cell 11
  cases rs
  all_goals
    have EQ := hide (eqBlobS_same W5 g11 f11 a11 e11 c11 d11 ce ps qs HP.out.ce HQ.out.ce ceL CZ.out)
    go_wp2_with fail
    refine EQ.out.mono ?_
    rintro e W6 ⟨rfl, m⟩
    have TAn := hide (TA.out.up m)
    have TBn := hide (TB.out.up m)
    have Nn := hide (nxt N.out m)
    have HPn := hide (HP.out.up m)
    have HQn := hide (HQ.out.up m)
    clear EQ m TA TB N HP HQ ka10 kb10 ka11 kb11
    have TA := TAn
    have TB := TBn
    have N := Nn
    have HP := HPn
    have HQ := HQn
    clear TAn TBn Nn HPn HQn
    have ka12 : W6.cell? ⟨w.heap.size, 12, none⟩ = some (.slice a12 pf.length c12) := TA.out.cell 12
    have kb12 : W6.cell? ⟨w.heap.size + 1, 12, none⟩ = some (.slice e12 pf.length d12) := TB.out.cell 12
    have EQ := hide (eqByteS_same W6 g12 f12 a12 e12 c12 d12 pf HP.out.pf HQ.out.pf pfL)
    go_wp2_with fail
    refine EQ.out.mono ?_
    rintro e W7 ⟨rfl, m⟩
    have TAn := hide (TA.out.up m)
    have TBn := hide (TB.out.up m)
    have Nn := hide (nxt N.out m)
    have HPn := hide (HP.out.up m)
    have HQn := hide (HQ.out.up m)
    clear EQ m TA TB N HP HQ ka12 kb12
    have TA := TAn
    have TB := TBn
    have N := Nn
    have HP := HPn
    have HQ := HQn
    clear TAn TBn Nn HPn HQn
    go_wp2
    go_ret
    exact ⟨rfl, N.out⟩
set_option maxHeartbeats 8000000 in
theorem szMessage_r (w : World) (p : MQ) (m : Msg) (h : HasM w p m) (l2 : m.r.length ≤ 9223372036854775807) (l3 : m.s.length ≤ 9223372036854775807) (l4 : m.ho.length ≤ 9223372036854775807) (l5 : m.pr.length ≤ 9223372036854775807) (lz : ∀ l ∈ m.pr, l.length ≤ 9223372036854775807) (l6 : m.ti.length ≤ 9223372036854775807) (l9 : m.bi.length ≤ 9223372036854775807) (l11 : m.ce.length ≤ 9223372036854775807) (lc : ∀ i, i < m.ce.length → (m.ce.getD i []).length ≤ 9223372036854775807) (l12 : m.pf.length ≤ 9223372036854775807) :
    Calls Try.prog 4 #[.agg (mgV p m), .int .i64 1048576] w fun e w' => (∃ x, e = .returned (.int .i64 x) ∧ (0 ≤ x → m.r.length + m.s.length + m.ho.length + (m.pr.length + sumT m.pr) + m.ti.length + m.bi.length + (m.ce.length + sumB m.ce) + m.pf.length ≤ 1048576) ∧ (x < 0 → x = -1)) ∧ Below w.heap.size w w' := by
  obtain ⟨k, v, r, s, ho, pr, ti, ag, ea, bi, rs, ce, pf⟩ := m
  obtain ⟨a2, c2, g2, a3, c3, g3, a5, c5, g5, a6, c6, g6, a9, c9, g9, a11, c11, g11, a12, c12, g12, ps⟩ := p
  have TA : Hid (RwC (w.alloc (.cells #[.int .i64 k, .int .i64 v, .slice a2 r.length c2, .slice a3 s.length c3, .string ⟨⟨ho⟩⟩, .slice a5 pr.length c5, .slice a6 ti.length c6, .int .i64 ag, .int .i64 ea, .slice a9 bi.length c9, .bool rs, .slice a11 ce.length c11, .slice a12 pf.length c12] 26)) w.heap.size [.int .i64 k, .int .i64 v, .slice a2 r.length c2, .slice a3 s.length c3, .string ⟨⟨ho⟩⟩, .slice a5 pr.length c5, .slice a6 ti.length c6, .int .i64 ag, .int .i64 ea, .slice a9 bi.length c9, .bool rs, .slice a11 ce.length c11, .slice a12 pf.length c12] 26) := RwC.new w [.int .i64 k, .int .i64 v, .slice a2 r.length c2, .slice a3 s.length c3, .string ⟨⟨ho⟩⟩, .slice a5 pr.length c5, .slice a6 ti.length c6, .int .i64 ag, .int .i64 ea, .slice a9 bi.length c9, .bool rs, .slice a11 ce.length c11, .slice a12 pf.length c12] 26
  have N : Hid (Below w.heap.size w (w.alloc (.cells #[.int .i64 k, .int .i64 v, .slice a2 r.length c2, .slice a3 s.length c3, .string ⟨⟨ho⟩⟩, .slice a5 pr.length c5, .slice a6 ti.length c6, .int .i64 ag, .int .i64 ea, .slice a9 bi.length c9, .bool rs, .slice a11 ce.length c11, .slice a12 pf.length c12] 26))) := (Below.refl _ _).alloc (Nat.le_refl _) _
  have HP := hide (h.up N.out)
  have LZ := hide lz
  have LC := hide lc
  simp only at l2 l3 l4 l5 l6 l9 l11 l12 LZ LC
  clear h lz lc
  simp only [mgV]
  have sx := tx_size ho
  go_enter Try.func4, Try.ntmps4
  go_upto_region 1 with fail
  generalize (w.alloc (.cells #[.int .i64 k, .int .i64 v, .slice a2 r.length c2, .slice a3 s.length c3, .string ⟨⟨ho⟩⟩, .slice a5 pr.length c5, .slice a6 ti.length c6, .int .i64 ag, .int .i64 ea, .slice a9 bi.length c9, .bool rs, .slice a11 ce.length c11, .slice a12 pf.length c12] 26)) = W0 at *
  have ka : W0.cell? ⟨w.heap.size, 2, none⟩ = some (.slice a2 r.length c2) := TA.out.cell 2
  have SZ := hide (szByteS_r W0 a2 c2 r.length 1048576 l2 (by decide) (by decide))
  go_wp2_with fail
  refine SZ.out.mono ?_
  rintro e V ⟨⟨y, rfl, hy⟩, hw⟩
  have hw := hw.symm
  subst hw
  clear SZ ka
  rcases hy with ⟨hy, rfl⟩ | ⟨hy, hz⟩
  · skip
    go_wp2
    go_ret
    exact ⟨⟨-1, rfl, fun h => absurd h (by decide), fun _ => rfl⟩, N.out⟩
  obtain ⟨x1, e1⟩ : ∃ x, x = y := ⟨_, rfl⟩
  subst e1
  have p1 : 0 ≤ x1 := by omega
  have b1 : x1 ≤ 1048576 := by omega
  have t1 : decide (x1 < 0) = false := decide_eq_false (by omega)
  have Z1 := hide hz
  clear hz hy
  have ka : W0.cell? ⟨w.heap.size, 3, none⟩ = some (.slice a3 s.length c3) := TA.out.cell 3
  have SZ := hide (szByteS_r W0 a3 c3 s.length x1 l3 p1 b1)
  go_wp2_with fail
  refine SZ.out.mono ?_
  rintro e V ⟨⟨y, rfl, hy⟩, hw⟩
  have hw := hw.symm
  subst hw
  clear SZ ka
  rcases hy with ⟨hy, rfl⟩ | ⟨hy, hz⟩
  · skip
    go_wp2
    go_ret
    exact ⟨⟨-1, rfl, fun h => absurd h (by decide), fun _ => rfl⟩, N.out⟩
  obtain ⟨x2, e2⟩ : ∃ x, x = y := ⟨_, rfl⟩
  subst e2
  have p2 : 0 ≤ x2 := by omega
  have b2 : x2 ≤ 1048576 := by omega
  have t2 : decide (x2 < 0) = false := decide_eq_false (by omega)
  have Z2 := hide hz
  clear hz hy
  have ka : W0.cell? ⟨w.heap.size, 4, none⟩ = some (.string ⟨⟨ho⟩⟩) := TA.out.cell 4
  have s1 : IntKind.i64.wrap (x2 - (ho.length : Int)) = x2 - (ho.length : Int) := by rw [IntKind.wrap_i64]; omega
  by_cases hh : x2 < (ho.length : Int)
  · have t1 : decide (x2 - (ho.length : Int) < 0) = true := decide_eq_true (by omega)
    go_wp2
    go_ret
    exact ⟨⟨-1, rfl, fun h => absurd h (by decide), fun _ => rfl⟩, N.out⟩
  have t1 : decide (x2 - (ho.length : Int) < 0) = false := decide_eq_false (by omega)
  obtain ⟨x3, e3⟩ : ∃ x, x = x2 - (ho.length : Int) := ⟨_, rfl⟩
  rw [← e3] at s1 t1
  have p3 : 0 ≤ x3 := by omega
  have b3 : x3 ≤ 1048576 := by omega
  have Z3 := hide e3
  go_upto_region 10 with fail
  clear s1 t1 ka
  try rw [← Z3.out]
  clear e3 hh
  have ka : W0.cell? ⟨w.heap.size, 5, none⟩ = some (.slice a5 pr.length c5) := TA.out.cell 5
  have SZ := hide (szStringS_any W0 g5 a5 c5 pr x3 HP.out.pr l5 LZ.out p3 b3)
  go_wp2_with fail
  refine SZ.out.mono ?_
  rintro e V ⟨rfl, hw⟩
  have hw := hw.symm
  subst hw
  obtain ⟨y, hY⟩ : ∃ y, y = leftT x3 pr := ⟨_, rfl⟩
  rw [← hY]
  have hy : Lft x3 ((pr.length : Int) + (sumT pr : Int)) y := by
    rw [hY]
    unfold leftT
    by_cases hx : x3 < (pr.length : Int) + (sumT pr : Int)
    · rw [if_pos hx]; exact .inl ⟨hx, rfl⟩
    · rw [if_neg hx]; exact .inr ⟨by omega, by omega⟩
  clear hY
  clear SZ ka
  rcases hy with ⟨hy, rfl⟩ | ⟨hy, hz⟩
  · skip
    go_wp2
    go_ret
    exact ⟨⟨-1, rfl, fun h => absurd h (by decide), fun _ => rfl⟩, N.out⟩
  obtain ⟨x4, e4⟩ : ∃ x, x = y := ⟨_, rfl⟩
  subst e4
  have p4 : 0 ≤ x4 := by omega
  have b4 : x4 ≤ 1048576 := by omega
  have t4 : decide (x4 < 0) = false := decide_eq_false (by omega)
  have Z4 := hide hz
  clear hz hy
  have ka : W0.cell? ⟨w.heap.size, 6, none⟩ = some (.slice a6 ti.length c6) := TA.out.cell 6
  have SZ := hide (szByteS_r W0 a6 c6 ti.length x4 l6 p4 b4)
  go_wp2_with fail
  refine SZ.out.mono ?_
  rintro e V ⟨⟨y, rfl, hy⟩, hw⟩
  have hw := hw.symm
  subst hw
  clear SZ ka
  rcases hy with ⟨hy, rfl⟩ | ⟨hy, hz⟩
  · skip
    go_wp2
    go_ret
    exact ⟨⟨-1, rfl, fun h => absurd h (by decide), fun _ => rfl⟩, N.out⟩
  obtain ⟨x5, e5⟩ : ∃ x, x = y := ⟨_, rfl⟩
  subst e5
  have p5 : 0 ≤ x5 := by omega
  have b5 : x5 ≤ 1048576 := by omega
  have t5 : decide (x5 < 0) = false := decide_eq_false (by omega)
  have Z5 := hide hz
  clear hz hy
  have ka : W0.cell? ⟨w.heap.size, 9, none⟩ = some (.slice a9 bi.length c9) := TA.out.cell 9
  have SZ := hide (szByteS_r W0 a9 c9 bi.length x5 l9 p5 b5)
  go_wp2_with fail
  refine SZ.out.mono ?_
  rintro e V ⟨⟨y, rfl, hy⟩, hw⟩
  have hw := hw.symm
  subst hw
  clear SZ ka
  rcases hy with ⟨hy, rfl⟩ | ⟨hy, hz⟩
  · skip
    go_wp2
    go_ret
    exact ⟨⟨-1, rfl, fun h => absurd h (by decide), fun _ => rfl⟩, N.out⟩
  obtain ⟨x6, e6⟩ : ∃ x, x = y := ⟨_, rfl⟩
  subst e6
  have p6 : 0 ≤ x6 := by omega
  have b6 : x6 ≤ 1048576 := by omega
  have t6 : decide (x6 < 0) = false := decide_eq_false (by omega)
  have Z6 := hide hz
  clear hz hy
  have ka : W0.cell? ⟨w.heap.size, 11, none⟩ = some (.slice a11 ce.length c11) := TA.out.cell 11
  have SZ := hide (szBlobS_r W0 g11 a11 c11 ce ps x6 HP.out.ce l11 LC.out p6 b6)
  go_wp2_with fail
  refine SZ.out.mono ?_
  rintro e W1 ⟨⟨y, rfl, hy⟩, m⟩
  have TAn := hide (TA.out.up m)
  have Nn := hide (nxt N.out m)
  have HPn := hide (HP.out.up m)
  clear TA N HP m
  have TA := TAn
  have N := Nn
  have HP := HPn
  clear TAn Nn HPn
  clear SZ ka
  rcases hy with ⟨hy, rfl⟩ | ⟨hy, hz⟩
  · skip
    go_wp2
    go_ret
    exact ⟨⟨-1, rfl, fun h => absurd h (by decide), fun _ => rfl⟩, N.out⟩
  obtain ⟨x7, e7⟩ : ∃ x, x = y := ⟨_, rfl⟩
  subst e7
  have p7 : 0 ≤ x7 := by omega
  have b7 : x7 ≤ 1048576 := by omega
  have t7 : decide (x7 < 0) = false := decide_eq_false (by omega)
  have Z7 := hide hz
  clear hz hy
  have ka : W1.cell? ⟨w.heap.size, 12, none⟩ = some (.slice a12 pf.length c12) := TA.out.cell 12
  have SZ := hide (szByteS_r W1 a12 c12 pf.length x7 l12 p7 b7)
  go_wp2_with fail
  refine SZ.out.mono ?_
  rintro e V ⟨⟨y, rfl, hy⟩, hw⟩
  have hw := hw.symm
  subst hw
  clear SZ ka
  rcases hy with ⟨hy, rfl⟩ | ⟨hy, hz⟩
  · skip
    go_wp2
    go_ret
    exact ⟨⟨-1, rfl, fun h => absurd h (by decide), fun _ => rfl⟩, N.out⟩
  have t1 : decide (y < 0) = false := decide_eq_false (by omega)
  have Z8 := hide hz
  have Y8 := hide hy
  clear hz hy
  go_wp2
  go_ret
  have := Z1.out
  have := Z2.out
  have := Z3.out
  have := Z4.out
  have := Z5.out
  have := Z6.out
  have := Z7.out
  have := Z8.out
  have := Y8.out
  exact ⟨⟨y, rfl, fun _ => by omega, fun h => absurd h (by omega)⟩, N.out⟩
end Go.Proofs.Ytfckjoheiabfoaa
