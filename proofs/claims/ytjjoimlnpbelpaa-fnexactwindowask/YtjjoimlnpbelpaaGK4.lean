import Derived.RegionTactic
import Derived.Test.YtjjoimlnpbelpaaGK1

/-
  A region that draws its order, by a fact for each of its operations: each operation is looked at once, in whatever world that has grown out of the first, with the facts of those that it waits for. No program in sight.
-/
namespace Go.Proofs.Ytjjoimlnpbelpaa
open Go Go.RowKit

/-- What is told of an operation's value; it lasts while the memory only grows. -/
structure Fact where
  p : Value → World → Prop
  up : ∀ {v : Value} {w w' : World}, Below w.heap.size w w' → p v w → p v w'

section
variable {P : Program} {ops : Array Oper} {Q : Exit → Act → World → Prop} {md : Region.Mode} {F : Nat → Fact} {a0 : Act} {w0 : World}

/-- No operation writes slot d. -/
def apart (ops : Array Oper) (d : Nat) : Bool := ops.all fun o => o.dst != some d
/-- All slots that no operation writes are as they were. -/
def Based (ops : Array Oper) (a0 a : Act) : Prop := a.defers = a0.defers ∧ a.tmps.size = a0.tmps.size ∧ ∀ d, apart ops d = true → a.tmps.getD d undef = a0.tmps.getD d undef
/-- Number i waits for number j, which writes slot d. -/
def waits (md : Region.Mode) (ops : Array Oper) (i j d : Nat) : Bool :=
  match ops[i]?, ops[j]? with
  | some o, some oj => o.after.any (fun e => Region.binds md e && e.on == j) && oj.dst == some d
  | _, _ => false
/-- What the law asks of the region's text; n: how many slots; k: the number of the one that is looked at last, or behind the end. -/
def textOk (md : Region.Mode) (ops : Array Oper) (n k : Nat) : Bool :=
  (ops.all fun o => o.guard.isNone && (match o.dst with | some d => decide (d < n) | none => true))
  && ((List.range ops.size).all fun i => match ops[i]? with
    | some o => o.after.all (fun e => !Region.binds md e || decide (e.on < i)) && (List.range i).all fun j => match ops[j]? with
      | some x => x.dst.isNone || o.dst != x.dst
      | none => true
    | none => true)
  && decide (k ≤ ops.size ∧ ops.size ≤ k + 1)
  && (k == ops.size || (List.range k).all fun j => (List.range (k + 1)).any fun m => decide (j < m) && match ops[m]? with
    | some o => o.after.any (fun e => Region.binds md e && e.on == j)
    | none => false)

/-- What holds while the region is under way. -/
structure Held (md : Region.Mode) (ops : Array Oper) (F : Nat → Fact) (a0 : Act) (w0 : World) (listed : Array Bool) (a : Act) (w : World) : Prop where
  b : Based ops a0 a
  n : Below w0.heap.size w0 w
  f : ∀ i o d, ops[i]? = some o → listed.getD i false = true → o.dst = some d → (F i).p (a.tmps.getD d undef) w
  c : ∀ i o, ops[i]? = some o → listed.getD i false = true → ∀ e ∈ o.after, Region.binds md e = true → listed.getD e.on false = true
  s : listed.size = ops.size

/-- One operation, with the facts of those that it waits for. -/
def StepOk (P : Program) (md : Region.Mode) (ops : Array Oper) (Q : Exit → Act → World → Prop) (F : Nat → Fact) (a0 : Act) (w0 : World) (i : Nat) : Prop :=
  ∀ o, ops[i]? = some o → ∀ a w, Based ops a0 a → Below w0.heap.size w0 w → (∀ j d, waits md ops i j d = true → (F j).p (a.tmps.getD d undef) w) →
    ∀ K : Act → World → Prop, (∀ v w', Below w.heap.size w w' → (F i).p v w' → K (a.put o.dst v) w') → o.wp P a w K Q

/-- How many have not come up. -/
def left (listed : Array Bool) : Nat → Nat
  | 0 => 0
  | n + 1 => left listed n + if listed.getD n true = false then 1 else 0
theorem left_zero {listed : Array Bool} : ∀ {n : Nat}, left listed n = 0 → ∀ i, i < n → listed.getD i true = true
  | 0, _, i, hi => by omega
  | n + 1, h, i, hi => by
    unfold left at h
    rcases Nat.lt_or_ge i n with h1 | h1
    · exact left_zero (by omega) i h1
    · obtain rfl : i = n := by omega
      cases hc : listed.getD i true
      · rw [hc] at h; simp at h
      · rfl
theorem getD_same {listed : Array Bool} {i : Nat} (h : i < listed.size) (d : Bool) : (listed.setIfInBounds i true).getD i d = true := by
  simp [Array.getD_eq_getD_getElem?, h]
theorem getD_off {listed : Array Bool} {i j : Nat} (h : i ≠ j) (d : Bool) : (listed.setIfInBounds i true).getD j d = listed.getD j d := by
  simp [Array.getD_eq_getD_getElem?, h]
theorem left_le {listed : Array Bool} {i : Nat} (hi : i < listed.size) : ∀ n, left (listed.setIfInBounds i true) n ≤ left listed n
  | 0 => Nat.le_refl _
  | n + 1 => by
    unfold left
    have h := left_le hi n
    by_cases e : i = n
    · subst e
      rw [getD_same hi]
      simp
      omega
    · rw [getD_off e]
      omega
theorem left_set {listed : Array Bool} {i : Nat} (hs : i < listed.size) (h : listed.getD i true = false) : ∀ n, i < n → left (listed.setIfInBounds i true) n + 1 ≤ left listed n
  | 0, hi => by omega
  | n + 1, hi => by
    unfold left
    by_cases e : i = n
    · subst e
      rw [getD_same hs, h]
      have := left_le hs i
      simp
      omega
    · rw [getD_off e]
      have := left_set hs h n (by omega)
      omega
theorem dflt {listed : Array Bool} {i : Nat} (h : i < listed.size) : listed.getD i true = listed.getD i false := by
  simp [Array.getD_eq_getD_getElem?, h]

theorem put_at {a : Act} {d : Nat} {v : Value} (h : d < a.tmps.size) : (a.put (some d) v).tmps.getD d undef = v := by
  simp [Act.put, Array.getD_eq_getD_getElem?, h]
theorem put_off {a : Act} {dst : Option Tmp} {d : Nat} {v : Value} (h : dst ≠ some d) : (a.put dst v).tmps.getD d undef = a.tmps.getD d undef := by
  cases dst with
  | none => rfl
  | some e =>
    have : e ≠ d := fun x => h (by rw [x])
    simp [Act.put, Array.getD_eq_getD_getElem?, this]
theorem put_size (a : Act) (dst : Option Tmp) (v : Value) : (a.put dst v).tmps.size = a.tmps.size := by
  cases dst <;> simp [Act.put]
theorem put_defers (a : Act) (dst : Option Tmp) (v : Value) : (a.put dst v).defers = a.defers := by
  cases dst <;> rfl

/-- What the look at the text gives. -/
structure Text (md : Region.Mode) (ops : Array Oper) (n k : Nat) : Prop where
  g : ∀ (i : Nat) o, ops[i]? = some o → o.guard = none
  d : ∀ (i : Nat) o d, ops[i]? = some o → o.dst = some d → d < n
  a : ∀ (i : Nat) o, ops[i]? = some o → ∀ e ∈ o.after, Region.binds md e = true → e.on < i
  x : ∀ (i j : Nat) o o' d, ops[i]? = some o → ops[j]? = some o' → i ≠ j → o.dst = some d → o'.dst ≠ some d
  k1 : k ≤ ops.size
  k2 : ops.size ≤ k + 1
  c : k < ops.size → ∀ j, j < k → ∃ (m : Nat) (o : Oper), j < m ∧ m ≤ k ∧ ops[m]? = some o ∧ ∃ e ∈ o.after, Region.binds md e = true ∧ e.on = j
theorem text_of {n k : Nat} (h : textOk md ops n k = true) : Text md ops n k := by
  unfold textOk at h
  simp only [Bool.and_eq_true, decide_eq_true_eq] at h
  obtain ⟨⟨⟨h1, h2⟩, h3⟩, h4⟩ := h
  rw [Array.all_eq_true_iff_forall_mem] at h1
  rw [List.all_eq_true] at h2
  have H : ∀ (i j : Nat) o o' d, j < i → ops[i]? = some o → ops[j]? = some o' → o.dst = some d → o'.dst ≠ some d := by
    intro i j o o' d hij hi hj hd hd'
    have q := h2 i (List.mem_range.2 (Array.getElem?_eq_some_iff.1 hi).1)
    simp only [hi, Bool.and_eq_true] at q
    have r := List.all_eq_true.1 q.2 j (List.mem_range.2 hij)
    simp only [hj, hd, hd'] at r
    simp at r
  refine ⟨?_, ?_, ?_, ?_, h3.1, h3.2, ?_⟩
  · intro i o ho
    have q := h1 o (Array.mem_of_getElem? ho)
    simp only [Bool.and_eq_true] at q
    exact Option.isNone_iff_eq_none.1 q.1
  · intro i o d ho hd
    have q := h1 o (Array.mem_of_getElem? ho)
    simp only [Bool.and_eq_true, hd, decide_eq_true_eq] at q
    exact q.2
  · intro i o ho e he hb
    have q := h2 i (List.mem_range.2 (Array.getElem?_eq_some_iff.1 ho).1)
    simp only [ho, Bool.and_eq_true] at q
    have r := (Array.all_eq_true_iff_forall_mem.1 q.1) e he
    rw [hb] at r
    simpa using r
  · intro i j o o' d hi hj hij hd hd'
    rcases Nat.lt_or_gt_of_ne hij with h | h
    · exact H j i o' o d h hj hi hd' hd
    · exact H i j o o' d h hi hj hd hd'
  · intro hk j hj
    have h4' : ((List.range k).all fun j => (List.range (k + 1)).any fun m => decide (j < m) && match ops[m]? with
        | some o => o.after.any (fun e => Region.binds md e && e.on == j)
        | none => false) = true := by
      rcases Bool.or_eq_true _ _ ▸ h4 with q | q
      · simp at q; omega
      · exact q
    have q := List.all_eq_true.1 h4' j (List.mem_range.2 hj)
    obtain ⟨m, hm, r⟩ := List.any_eq_true.1 q
    simp only [Bool.and_eq_true, decide_eq_true_eq] at r
    cases ho : ops[m]? with
    | none => rw [ho] at r; simp at r
    | some o =>
      rw [ho] at r
      obtain ⟨e, he, hb⟩ := Array.any_eq_true'.1 r.2
      simp only [Bool.and_eq_true, beq_iff_eq] at hb
      exact ⟨m, o, r.1, by have := List.mem_range.1 hm; omega, ho, e, he, hb.1, hb.2⟩

theorem all_listed {n k : Nat} (T : Text md ops n k) {listed : Array Bool} (hs : listed.size = ops.size) (h : Region.ready md ops listed = []) : ∀ m i, i < m → i < ops.size → listed.getD i false = true
  | 0, i, hi, _ => by omega
  | m + 1, i, hi, hl => by
    rcases Nat.lt_or_ge i m with h1 | h1
    · exact all_listed T hs h m i h1 hl
    · obtain rfl : i = m := by omega
      cases hc : listed.getD i false
      · exfalso
        obtain ⟨o, ho⟩ : ∃ o, ops[i]? = some o := ⟨ops[i], by simp [hl]⟩
        have hr : i ∈ Region.ready md ops listed := mem_ready.2 ⟨by rw [dflt (by omega)]; exact hc, o, ho, fun e he hb => all_listed T hs h i e.on (T.a i o ho e he hb) (by have := T.a i o ho e he hb; omega)⟩
        rw [h] at hr
        simp at hr
      · rfl
/-- Behind the one that is looked at last stand all others. -/
theorem all_ahead {n k : Nat} (T : Text md ops n k) (hk : k < ops.size) {listed : Array Bool} {a : Act} {w : World} (H : Held md ops F a0 w0 listed a w)
    (hr : k ∈ Region.ready md ops listed) : ∀ m j, k - j ≤ m → j < k → listed.getD j false = true
  | 0, j, hm, hj => by omega
  | m + 1, j, hm, hj => by
    obtain ⟨p, o, hjp, hpk, ho, e, he, hb, rfl⟩ := T.c hk j hj
    rcases Nat.lt_or_ge p k with h1 | h1
    · exact H.c p o ho (all_ahead T hk H hr m p (by omega) h1) e he hb
    · obtain rfl : p = k := by omega
      obtain ⟨_, o', ho', q⟩ := mem_ready.1 hr
      obtain rfl := Option.some.inj (ho.symm.trans ho')
      exact q e he hb

theorem Held.next {n k : Nat} (T : Text md ops n k) (hn : n ≤ a0.tmps.size) {listed : Array Bool} {a : Act} {w : World} (H : Held md ops F a0 w0 listed a w) {i : Nat} {o : Oper} (ho : ops[i]? = some o) (hr : i ∈ Region.ready md ops listed)
    {v : Value} {w' : World} (hw : Below w.heap.size w w') (hf : (F i).p v w') : Held md ops F a0 w0 (listed.setIfInBounds i true) (a.put o.dst v) w' := by
  have hi : i < ops.size := (Array.getElem?_eq_some_iff.1 ho).1
  have hz : a.tmps.size = a0.tmps.size := H.b.2.1
  refine ⟨⟨by rw [put_defers]; exact H.b.1, by rw [put_size]; exact hz, fun d hd => ?_⟩, nxt H.n hw, ?_, ?_, by simp [H.s]⟩
  · rw [put_off]
    · exact H.b.2.2 d hd
    · have q := Array.all_eq_true_iff_forall_mem.1 hd o (Array.mem_of_getElem? ho)
      simpa using q
  · intro j oj d hoj hj hd
    by_cases e : i = j
    · subst e
      obtain rfl := Option.some.inj (ho.symm.trans hoj)
      rw [hd, put_at (Nat.lt_of_lt_of_le (T.d i o d ho hd) (hz ▸ hn))]
      exact hf
    · rw [getD_off e] at hj
      rw [put_off (T.x j i oj o d hoj ho (Ne.symm e) hd)]
      exact (F j).up hw (H.f j oj d hoj hj hd)
  · intro j oj hoj hj e he hb
    obtain ⟨_, o', ho', q⟩ := mem_ready.1 hr
    by_cases c : i = e.on
    · rw [← c]
      exact getD_same (by rw [H.s]; exact hi) _
    · rw [getD_off c]
      by_cases e' : i = j
      · subst e'
        obtain rfl := Option.some.inj (ho'.symm.trans hoj)
        exact q e he hb
      · rw [getD_off e'] at hj
        exact H.c j oj hoj hj e he hb

theorem any_facts {n k : Nat} (T : Text md ops n k) (hn : n ≤ a0.tmps.size) (steps : ∀ i, i < k → StepOk P md ops Q F a0 w0 i)
    (fin : ∀ a w, Based ops a0 a → Below w0.heap.size w0 w → (∀ i o d, i < k → ops[i]? = some o → o.dst = some d → (F i).p (a.tmps.getD d undef) w) →
      match ops[k]? with
      | none => Q .normal a w
      | some o => o.wp P a w (fun a' w' => Q .normal a' w') Q) :
    ∀ (fuel : Nat) (listed : Array Bool) (a : Act) (w : World), left listed ops.size ≤ fuel → Held md ops F a0 w0 listed a w → listed.getD k false = false → wpAny P md ops Q fuel listed a w := by
  intro fuel
  induction fuel with
  | zero =>
    intro listed a w hl H hk
    have hall : ∀ i, i < ops.size → listed.getD i false = true := fun i hi => by
      rw [← dflt (by rw [H.s]; exact hi)]
      exact left_zero (n := ops.size) (by omega) i hi
    have hke : ops[k]? = none := by
      rcases Nat.lt_or_ge k ops.size with h | h
      · rw [hall k h] at hk; simp at hk
      · simp [h]
    have q := fin a w H.b H.n (fun i o d _ ho hd => H.f i o d ho (hall i (Array.getElem?_eq_some_iff.1 ho).1) hd)
    rw [hke] at q
    refine ⟨?_, q⟩
    cases hr : Region.ready md ops listed with
    | nil => rfl
    | cons i t =>
      have hi : i ∈ Region.ready md ops listed := by rw [hr]; simp
      obtain ⟨h0, o, ho, _⟩ := mem_ready.1 hi
      have hlt := (Array.getElem?_eq_some_iff.1 ho).1
      rw [dflt (by rw [H.s]; exact hlt), hall i hlt] at h0
      simp at h0
  | succ fuel ih =>
    intro listed a w hl H hk
    refine ⟨fun hr => ?_, fun i hi => ?_⟩
    · have hall : ∀ i, i < ops.size → listed.getD i false = true := fun i hi => all_listed T H.s hr (i + 1) i (by omega) hi
      have hke : ops[k]? = none := by
        rcases Nat.lt_or_ge k ops.size with h | h
        · rw [hall k h] at hk; simp at hk
        · simp [h]
      have q := fin a w H.b H.n (fun i o d _ ho hd => H.f i o d ho (hall i (Array.getElem?_eq_some_iff.1 ho).1) hd)
      rw [hke] at q
      exact q
    · obtain ⟨h0, o, ho, hall⟩ := mem_ready.1 hi
      have hlt := (Array.getElem?_eq_some_iff.1 ho).1
      have hwant : Region.wanted o (yielded ops a.tmps) = true := by simp [Region.wanted, T.g i o ho]
      refine wpOp_step ho fun K' hK => ?_
      rw [if_pos hwant]
      have hll := left_set (by rw [H.s]; exact hlt) h0 ops.size hlt
      rcases Nat.lt_or_ge i k with h1 | h1
      · refine steps i h1 o ho a w H.b H.n ?_ K' ?_
        · intro j d hjd
          unfold waits at hjd
          rw [ho] at hjd
          cases hoj : ops[j]? with
          | none => rw [hoj] at hjd; simp at hjd
          | some oj =>
            rw [hoj] at hjd
            simp only [Bool.and_eq_true, beq_iff_eq] at hjd
            obtain ⟨e, he, hb⟩ := Array.any_eq_true'.1 hjd.1
            simp only [Bool.and_eq_true, beq_iff_eq] at hb
            exact H.f j oj d hoj (by rw [← hb.2]; exact hall e he hb.1) hjd.2
        · intro v w' hw hf
          refine hK _ _ (ih _ _ _ (by omega) (H.next T hn ho hi hw hf) ?_)
          rw [getD_off (by omega)]
          exact hk
      · obtain rfl : i = k := by have := T.k2; omega
        have hahead := all_ahead T hlt H hi
        have q := fin a w H.b H.n (fun j oj d hj hoj hd => H.f j oj d hoj (hahead (i - j) j (Nat.le_refl _) hj) hd)
        rw [ho] at q
        refine Oper.wp_mono (fun a' w' h => hK _ _ (wpAny_done ?_ h fuel)) q
        cases hr : Region.ready md ops (listed.setIfInBounds i true) with
        | nil => rfl
        | cons j t =>
          exfalso
          have hj : j ∈ Region.ready md ops (listed.setIfInBounds i true) := by rw [hr]; simp
          obtain ⟨g0, oj, hoj, _⟩ := mem_ready.1 hj
          have hjl := (Array.getElem?_eq_some_iff.1 hoj).1
          by_cases e : i = j
          · subst e
            rw [getD_same (by rw [H.s]; exact hlt)] at g0
            simp at g0
          · rw [getD_off e, dflt (by rw [H.s]; exact hjl), hahead (i - j) j (Nat.le_refl _) (by have := T.k2; omega)] at g0
            simp at g0

/-- The same for a region that goes in its text's order. -/
theorem line_facts {n k : Nat} (T : Text md ops n k) (hn : n ≤ a0.tmps.size) (steps : ∀ i, i < k → StepOk P md ops Q F a0 w0 i)
    (fin : ∀ a w, Based ops a0 a → Below w0.heap.size w0 w → (∀ i o d, i < k → ops[i]? = some o → o.dst = some d → (F i).p (a.tmps.getD d undef) w) →
      match ops[k]? with
      | none => Q .normal a w
      | some o => o.wp P a w (fun a' w' => Q .normal a' w') Q) :
    ∀ (m i : Nat) (a : Act) (w : World), i + m = ops.size → i ≤ k → Based ops a0 a → Below w0.heap.size w0 w → (∀ j o d, j < i → ops[j]? = some o → o.dst = some d → (F j).p (a.tmps.getD d undef) w) →
      wpOps P ops Q (List.range' i m) a w := by
  intro m
  induction m with
  | zero =>
    intro i a w him hik hb hw hf
    obtain rfl : i = k := by have := T.k1; omega
    have q := fin a w hb hw hf
    rw [show ops[i]? = none by simp; omega] at q
    exact q
  | succ m ih =>
    intro i a w him hik hb hw hf
    have hlt : i < ops.size := by omega
    obtain ⟨o, ho⟩ : ∃ o, ops[i]? = some o := ⟨ops[i], by simp [hlt]⟩
    have hwant : Region.wanted o (yielded ops a.tmps) = true := by simp [Region.wanted, T.g i o ho]
    rw [List.range'_succ, wpOps_cons]
    refine wpOp_step ho fun K' hK => ?_
    rw [if_pos hwant]
    rcases Nat.lt_or_ge i k with h1 | h1
    · refine steps i h1 o ho a w hb hw ?_ K' ?_
      · intro j d hjd
        unfold waits at hjd
        rw [ho] at hjd
        cases hoj : ops[j]? with
        | none => rw [hoj] at hjd; simp at hjd
        | some oj =>
          rw [hoj] at hjd
          simp only [Bool.and_eq_true, beq_iff_eq] at hjd
          obtain ⟨e, he, hb⟩ := Array.any_eq_true'.1 hjd.1
          simp only [Bool.and_eq_true, beq_iff_eq] at hb
          exact hf j oj d (by rw [← hb.2]; exact T.a i o ho e he hb.1) hoj hjd.2
      · intro v w' hw' hfv
        refine hK _ _ (ih (i + 1) _ _ (by omega) (by omega) ⟨by rw [put_defers]; exact hb.1, by rw [put_size]; exact hb.2.1, fun d hd => ?_⟩ (nxt hw hw') ?_)
        · rw [put_off]
          · exact hb.2.2 d hd
          · have q := Array.all_eq_true_iff_forall_mem.1 hd o (Array.mem_of_getElem? ho)
            simpa using q
        · intro j oj d hj hoj hd
          by_cases e : i = j
          · subst e
            obtain rfl := Option.some.inj (ho.symm.trans hoj)
            rw [hd, put_at (Nat.lt_of_lt_of_le (T.d i o d ho hd) (by rw [hb.2.1]; exact hn))]
            exact hfv
          · rw [put_off (T.x j i oj o d hoj ho (Ne.symm e) hd)]
            exact (F j).up hw' (hf j oj d (by omega) hoj hd)
    · obtain rfl : i = k := by omega
      have q := fin a w hb hw hf
      rw [ho] at q
      refine Oper.wp_mono (fun a' w' h => hK _ _ ?_) q
      obtain rfl : m = 0 := by have := T.k2; omega
      exact h
/-- The law, whatever the region's kind. -/
theorem region_facts {id : Nat} {w : World} {draw : Bool} (k : Nat) (F : Nat → Fact) (hm : P.follows .mixedOrders = true) (hT : textOk .any ops a0.tmps.size k = true) (steps : ∀ i, i < k → StepOk P .any ops Q F a0 w i)
    (fin : ∀ a w', Based ops a0 a → Below w.heap.size w w' → (∀ i o d, i < k → ops[i]? = some o → o.dst = some d → (F i).p (a.tmps.getD d undef) w') →
      match ops[k]? with
      | none => Q .normal a w'
      | some o => o.wp P a w' (fun a' w'' => Q .normal a' w'') Q) : (Code.region id ops draw).wp P Q a0 w := by
  have T := text_of hT
  cases draw with
  | false =>
    refine wp_region ?_
    have h := line_facts (w0 := w) T (Nat.le_refl _) steps fin ops.size 0 a0 w (by omega) (by omega) ⟨rfl, rfl, fun _ _ => rfl⟩ (Below.refl _ _) (fun j o d hj => by omega)
    rw [List.range_eq_range']
    exact h
  | true =>
    refine wp_region_any hm ?_
    refine any_facts (w0 := w) T (Nat.le_refl _) steps fin ops.size _ a0 _ ?_ ⟨⟨rfl, rfl, fun _ _ => rfl⟩, (Below.refl _ _).drew, ?_, ?_, by simp⟩ ?_
    · have : ∀ m, left (Array.replicate ops.size false) m ≤ m := by
        intro m
        induction m with
        | zero => exact Nat.le_refl _
        | succ m ih => unfold left; split <;> omega
      exact this _
    · intro i o d ho hl _
      rw [Array.getD_eq_getD_getElem?, Array.getElem?_replicate] at hl
      split at hl <;> simp at hl
    · intro i o ho hl
      rw [Array.getD_eq_getD_getElem?, Array.getElem?_replicate] at hl
      split at hl <;> simp at hl
    · rw [Array.getD_eq_getD_getElem?, Array.getElem?_replicate]
      split <;> rfl
/-- Number i writes slot d. -/
def writes (ops : Array Oper) (i d : Nat) : Bool :=
  match ops[i]? with
  | some o => o.dst == some d
  | none => false
/-- What all of them have left. -/
def Full (ops : Array Oper) (F : Nat → Fact) (a : Act) (w : World) : Prop := ∀ i d, writes ops i d = true → (F i).p (a.tmps.getD d undef) w
/-- A region that ends with a store. -/
theorem region_store {id : Nat} {w : World} {draw : Bool} (k : Nat) (o : Oper) (F : Nat → Fact) (hm : P.follows .mixedOrders = true) (hT : textOk .any ops a0.tmps.size k = true) (hk : ops[k]? = some o) (hd : o.dst = none) (steps : ∀ i, i < k → StepOk P .any ops Q F a0 w i)
    (fin : ∀ a w', Based ops a0 a → Below w.heap.size w w' → Full ops F a w' → o.wp P a w' (fun a' w'' => Q .normal a' w'') Q) : (Code.region id ops draw).wp P Q a0 w := by
  refine region_facts k F hm hT steps fun a w' hb hw hf => ?_
  rw [hk]
  refine fin a w' hb hw fun i d hi => ?_
  unfold writes at hi
  cases ho : ops[i]? with
  | none => rw [ho] at hi; simp at hi
  | some oi =>
    rw [ho] at hi
    have hi' : oi.dst = some d := by simpa using hi
    have T := text_of hT
    refine hf i oi d ?_ ho hi'
    have h1 := (Array.getElem?_eq_some_iff.1 ho).1
    have h2 := T.k2
    rcases Nat.lt_or_ge i k with h | h
    · exact h
    · obtain rfl : i = k := by omega
      obtain rfl := Option.some.inj (hk.symm.trans ho)
      rw [hd] at hi'
      simp at hi'
/-- A region without one. -/
theorem region_end {id : Nat} {w : World} {draw : Bool} (k : Nat) (F : Nat → Fact) (hm : P.follows .mixedOrders = true) (hT : textOk .any ops a0.tmps.size k = true) (hk : ops[k]? = none) (steps : ∀ i, i < k → StepOk P .any ops Q F a0 w i)
    (fin : ∀ a w', Based ops a0 a → Below w.heap.size w w' → Full ops F a w' → Q .normal a w') : (Code.region id ops draw).wp P Q a0 w := by
  refine region_facts k F hm hT steps fun a w' hb hw hf => ?_
  rw [hk]
  refine fin a w' hb hw fun i d hi => ?_
  unfold writes at hi
  cases ho : ops[i]? with
  | none => rw [ho] at hi; simp at hi
  | some oi =>
    rw [ho] at hi
    have h1 := (Array.getElem?_eq_some_iff.1 ho).1
    have h2 : ops.size ≤ k := by simpa using hk
    exact hf i oi d (by omega) ho (by simpa using hi)

/-- The frame behind the region, written out. -/
def puts (vs : Nat → Value) (a0 : Act) : List Oper → Act
  | [] => a0
  | o :: rest => match o.dst with
    | some d => puts vs (a0.put (some d) (vs d)) rest
    | none => puts vs a0 rest
theorem puts_size (vs : Nat → Value) : ∀ (l : List Oper) (a : Act), (puts vs a l).tmps.size = a.tmps.size ∧ (puts vs a l).defers = a.defers
  | [], _ => ⟨rfl, rfl⟩
  | o :: rest, a => by
    unfold puts
    cases o.dst with
    | none => exact puts_size vs rest a
    | some d =>
      have := puts_size vs rest (a.put (some d) (vs d))
      exact ⟨this.1.trans (put_size _ _ _), this.2.trans (put_defers _ _ _)⟩
theorem puts_get (vs : Nat → Value) (d : Nat) : ∀ (l : List Oper) (a : Act), (∀ o ∈ l, ∀ e, o.dst = some e → e < a.tmps.size) → (puts vs a l).tmps.getD d undef = if l.any (fun o => o.dst == some d) then vs d else a.tmps.getD d undef
  | [], _, _ => by simp [puts]
  | o :: rest, a, h => by
    unfold puts
    cases ho : o.dst with
    | none =>
      rw [puts_get vs d rest a (fun o' h' => h o' (List.mem_cons_of_mem _ h'))]
      simp [ho]
    | some e =>
      have he := h o (List.mem_cons_self) e ho
      simp only
      rw [puts_get vs d rest _ (fun o' h' => by rw [put_size]; exact h o' (List.mem_cons_of_mem _ h'))]
      by_cases c : e = d
      · subst c
        rw [put_at he]
        simp [ho]
      · rw [put_off (by simpa using c)]
        simp [ho, c]
theorem puts_of {n k : Nat} (hT : textOk md ops n k = true) (hn : n = a0.tmps.size) {a : Act} (hb : Based ops a0 a) (vs : Nat → Value) (hv : ∀ d, a.tmps.getD d undef = vs d) : a = puts vs a0 ops.toList := by
  have T := text_of hT
  have hin : ∀ o ∈ ops.toList, ∀ e, o.dst = some e → e < a0.tmps.size := fun o ho e he => by
    obtain ⟨i, hi⟩ := List.getElem?_of_mem ho
    have := T.d i o e (by simpa using hi) he
    rw [hn] at this
    exact this
  obtain ⟨s1, s2⟩ := puts_size vs ops.toList a0
  obtain ⟨ta, da⟩ := a
  obtain ⟨h1, h2, h3⟩ := hb
  have e1 : ta = (puts vs a0 ops.toList).tmps := by
    apply Array.ext
    · rw [s1]; exact h2
    · intro i hi hi'
      have g := puts_get vs i ops.toList a0 hin
      have l : ta[i] = ta.getD i undef := by simp [Array.getD_eq_getD_getElem?, hi]
      have r : (puts vs a0 ops.toList).tmps[i] = (puts vs a0 ops.toList).tmps.getD i undef := by simp only [Array.getD_eq_getD_getElem?, Array.getElem?_eq_getElem hi', Option.getD_some]
      rw [l, r, g]
      by_cases c : ops.toList.any (fun o => o.dst == some i) = true
      · rw [if_pos c]; exact hv i
      · rw [if_neg c]
        refine h3 i ?_
        unfold apart
        rw [Array.all_eq_true_iff_forall_mem]
        intro o ho
        have hne : ¬ (o.dst == some i) = true := fun x => c (List.any_eq_true.2 ⟨o, by simpa using ho, x⟩)
        simpa using hne
  have e2 : da = (puts vs a0 ops.toList).defers := h1.trans s2.symm
  subst e1
  subst e2
  rfl
end
end Go.Proofs.Ytjjoimlnpbelpaa
