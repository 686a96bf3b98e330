import Derived.Test.YtjjoimlnpbelpaaGK21

/-
  The law by facts for a region that ends with a row of operations, each behind the one ahead of it. No program in sight.
-/
namespace Go.Proofs.Ytjjoimlnpbelpaa
open Go Go.RowKit

section
variable {P : Program} {ops : Array Oper} {Q : Exit → Act → World → Prop} {md : Region.Mode} {F : Nat → Fact} {a0 : Act} {w0 : World}

/-- The tail, one behind the other. -/
def tailWp (P : Program) (Q : Exit → Act → World → Prop) : List Oper → Act → World → Prop
  | [], a, w => Q .normal a w
  | o :: os, a, w => o.wp P a w (fun a' w' => tailWp P Q os a' w') Q
/-- What this law asks of the region's text: number k waits for all ahead of it, each behind k for the one ahead of it. -/
def textTail (md : Region.Mode) (draw : Bool) (ops : Array Oper) (n k : Nat) : Bool :=
  (ops.all fun o => o.guard.isNone && (match o.dst with | some d => decide (d < n) | none => true))
  && ((List.range ops.size).all fun i => match ops[i]? with
    | some o => o.after.all (fun e => !Region.binds md e || decide (e.on < i)) && (List.range i).all fun j => match ops[j]? with
      | some x => x.dst.isNone || o.dst != x.dst
      | none => true
    | none => true)
  && decide (k ≤ ops.size)
  && (!draw || k == ops.size || (List.range k).all fun j => (List.range (k + 1)).any fun m => decide (j < m) && match ops[m]? with
    | some o => o.after.any (fun e => Region.binds md e && e.on == j)
    | none => false)
  && (!draw || (List.range ops.size).all fun i => decide (i ≤ k) || match ops[i]? with
    | some o => o.after.any (fun e => Region.binds md e && e.on + 1 == i)
    | none => false)
structure TextT (md : Region.Mode) (draw : Bool) (ops : Array Oper) (n k : Nat) : Prop where
  g : ∀ (i : Nat) o, ops[i]? = some o → o.guard = none
  d : ∀ (i : Nat) o d, ops[i]? = some o → o.dst = some d → d < n
  a : ∀ (i : Nat) o, ops[i]? = some o → ∀ e ∈ o.after, Region.binds md e = true → e.on < i
  x : ∀ (i j : Nat) o o' d, ops[i]? = some o → ops[j]? = some o' → i ≠ j → o.dst = some d → o'.dst ≠ some d
  k1 : k ≤ ops.size
  c : draw = true → k < ops.size → ∀ j, j < k → ∃ (m : Nat) (o : Oper), j < m ∧ m ≤ k ∧ ops[m]? = some o ∧ ∃ e ∈ o.after, Region.binds md e = true ∧ e.on = j
  l : draw = true → ∀ i o, k < i → ops[i]? = some o → ∃ e ∈ o.after, Region.binds md e = true ∧ e.on + 1 = i
theorem textT_of {n k : Nat} {draw : Bool} (h : textTail md draw ops n k = true) : TextT md draw ops n k := by
  unfold textTail at h
  simp only [Bool.and_eq_true, decide_eq_true_eq] at h
  obtain ⟨⟨⟨⟨h1, h2⟩, h3⟩, h4⟩, h5⟩ := h
  rw [Array.all_eq_true_iff_forall_mem] at h1
  rw [List.all_eq_true] at h2
  have H : ∀ (i j : Nat) o o' d, j < i → ops[i]? = some o → ops[j]? = some o' → o.dst = some d → o'.dst ≠ some d := by
    intro i j o o' d hij hi hj hd hd'
    have q := h2 i (List.mem_range.2 (Array.getElem?_eq_some_iff.1 hi).1)
    simp only [hi, Bool.and_eq_true] at q
    have r := List.all_eq_true.1 q.2 j (List.mem_range.2 hij)
    simp only [hj, hd, hd'] at r
    simp at r
  refine ⟨?_, ?_, ?_, ?_, h3, ?_, ?_⟩
  · intro i o ho
    have q := h1 o (Array.mem_of_getElem? ho)
    simp only [Bool.and_eq_true] at q
    exact Option.isNone_iff_eq_none.1 q.1
  · intro i o d ho hd
    have q := h1 o (Array.mem_of_getElem? ho)
    simp only [Bool.and_eq_true, hd, decide_eq_true_eq] at q
    exact q.2
  · intro i o ho e he hb
    have q := h2 i (List.mem_range.2 (Array.getElem?_eq_some_iff.1 ho).1)
    simp only [ho, Bool.and_eq_true] at q
    have r := (Array.all_eq_true_iff_forall_mem.1 q.1) e he
    rw [hb] at r
    simpa using r
  · intro i j o o' d hi hj hij hd hd'
    rcases Nat.lt_or_gt_of_ne hij with h | h
    · exact H j i o' o d h hj hi hd' hd
    · exact H i j o o' d h hi hj hd hd'
  · intro hdr hk j hj
    rw [hdr] at h4
    have h4' : ((List.range k).all fun j => (List.range (k + 1)).any fun m => decide (j < m) && match ops[m]? with
      | some o => o.after.any (fun e => Region.binds md e && e.on == j)
      | none => false) = true := by
      simp only [Bool.not_true, Bool.false_or, Bool.or_eq_true] at h4
      rcases h4 with e | e
      · have : k = ops.size := by simpa using e
        omega
      · exact e
    have q := List.all_eq_true.1 h4' j (List.mem_range.2 hj)
    obtain ⟨m, hm, r⟩ := List.any_eq_true.1 q
    simp only [Bool.and_eq_true, decide_eq_true_eq] at r
    cases ho : ops[m]? with
    | none => rw [ho] at r; simp at r
    | some o =>
      rw [ho] at r
      obtain ⟨e, he, hb⟩ := Array.any_eq_true'.1 r.2
      simp only [Bool.and_eq_true, beq_iff_eq] at hb
      exact ⟨m, o, r.1, by have := List.mem_range.1 hm; omega, ho, e, he, hb.1, hb.2⟩
  · intro hdr i o hki ho
    rw [hdr] at h5
    simp only [Bool.not_true, Bool.false_or] at h5
    rw [List.all_eq_true] at h5
    have q := h5 i (List.mem_range.2 (Array.getElem?_eq_some_iff.1 ho).1)
    rw [ho] at q
    simp only [Bool.or_eq_true] at q
    rcases q with e | e
    · have : i ≤ k := by simpa using e
      omega
    · obtain ⟨e, he, hb⟩ := Array.any_eq_true'.1 e
      simp only [Bool.and_eq_true, beq_iff_eq] at hb
      exact ⟨e, he, hb.1, hb.2⟩
theorem Held.nextT {n k : Nat} {draw : Bool} (T : TextT md draw ops n k) (hn : n ≤ a0.tmps.size) {listed : Array Bool} {a : Act} {w : World} (H : Held md ops F a0 w0 listed a w) {i : Nat} {o : Oper} (ho : ops[i]? = some o) (hr : i ∈ Region.ready md ops listed)
    {v : Value} {w' : World} (hw : Below w.heap.size w w') (hf : (F i).p v w') : Held md ops F a0 w0 (listed.setIfInBounds i true) (a.put o.dst v) w' := by
  have hi : i < ops.size := (Array.getElem?_eq_some_iff.1 ho).1
  have hz : a.tmps.size = a0.tmps.size := H.b.2.1
  refine ⟨⟨by rw [put_defers]; exact H.b.1, by rw [put_size]; exact hz, fun d hd => ?_⟩, nxt H.n hw, ?_, ?_, by simp [H.s]⟩
  · rw [put_off]
    · exact H.b.2.2 d hd
    · have q := Array.all_eq_true_iff_forall_mem.1 hd o (Array.mem_of_getElem? ho)
      simpa using q
  · intro j oj d hoj hj hd
    by_cases e : i = j
    · subst e
      obtain rfl := Option.some.inj (ho.symm.trans hoj)
      rw [hd, put_at (Nat.lt_of_lt_of_le (T.d i o d ho hd) (hz ▸ hn))]
      exact hf
    · rw [getD_off e] at hj
      rw [put_off (T.x j i oj o d hoj ho (Ne.symm e) hd)]
      exact (F j).up hw (H.f j oj d hoj hj hd)
  · intro j oj hoj hj e he hb
    obtain ⟨_, o', ho', q⟩ := mem_ready.1 hr
    by_cases c : i = e.on
    · rw [← c]
      exact getD_same (by rw [H.s]; exact hi) _
    · rw [getD_off c]
      by_cases e' : i = j
      · subst e'
        obtain rfl := Option.some.inj (ho'.symm.trans hoj)
        exact q e he hb
      · rw [getD_off e'] at hj
        exact H.c j oj hoj hj e he hb

/-- The tail alone is left. -/
theorem tail_any {n k : Nat} (T : TextT md true ops n k) : ∀ (m t fuel : Nat) (listed : Array Bool) (a : Act) (w : World), t + m = ops.size → k ≤ t → listed.size = ops.size → (∀ j, j < t → listed.getD j false = true) → (∀ j, t ≤ j → listed.getD j false = false) → m ≤ fuel →
    tailWp P Q (ops.toList.drop t) a w → wpAny P md ops Q fuel listed a w := by
  intro m
  induction m with
  | zero =>
    intro t fuel listed a w ht hk hs h1 h2 hf hq
    obtain rfl : t = ops.size := by omega
    have e : ops.toList.drop ops.size = [] := by simp
    rw [e] at hq
    refine wpAny_done ?_ hq fuel
    cases hr : Region.ready md ops listed with
    | nil => rfl
    | cons i tl =>
      exfalso
      have hi : i ∈ Region.ready md ops listed := by rw [hr]; simp
      obtain ⟨h0, o, ho, _⟩ := mem_ready.1 hi
      have hlt := (Array.getElem?_eq_some_iff.1 ho).1
      rw [dflt (by rw [hs]; exact hlt), h1 i hlt] at h0
      simp at h0
  | succ m ih =>
    intro t fuel listed a w ht hk hs h1 h2 hf hq
    have hlt : t < ops.size := by omega
    obtain ⟨o, ho⟩ : ∃ o, ops[t]? = some o := ⟨ops[t], by simp [hlt]⟩
    have e : ops.toList.drop t = o :: ops.toList.drop (t + 1) := by
      rw [List.drop_eq_getElem_cons (by simpa using hlt)]
      congr 1
      have := (Array.getElem?_eq_some_iff.1 ho).2
      simpa using this
    rw [e] at hq
    obtain ⟨f2, rfl⟩ : ∃ f2, fuel = f2 + 1 := ⟨fuel - 1, by omega⟩
    refine ⟨fun hr => ?_, fun i hi => ?_⟩
    · exfalso
      have hr' : t ∈ Region.ready md ops listed := mem_ready.2 ⟨by rw [dflt (by rw [hs]; exact hlt)]; exact h2 t (Nat.le_refl _), o, ho, fun e he hb => h1 e.on (T.a t o ho e he hb)⟩
      rw [hr] at hr'
      simp at hr'
    · obtain ⟨h0, oi, hoi, hall⟩ := mem_ready.1 hi
      have hil := (Array.getElem?_eq_some_iff.1 hoi).1
      rw [dflt (by rw [hs]; exact hil)] at h0
      have hti : i = t := by
        rcases Nat.lt_trichotomy i t with c | c | c
        · rw [h1 i c] at h0; simp at h0
        · exact c
        · exfalso
          obtain ⟨e, he, hb, hq'⟩ := T.l rfl i oi (by omega) hoi
          have := hall e he hb
          rw [h2 e.on (by omega)] at this
          simp at this
      subst hti
      obtain rfl := Option.some.inj (ho.symm.trans hoi)
      have hwant : Region.wanted o (yielded ops a.tmps) = true := by simp [Region.wanted, T.g i o ho]
      refine wpOp_step ho fun K' hK => ?_
      rw [if_pos hwant]
      refine Oper.wp_mono (fun a' w' h => hK _ _ (ih (i + 1) f2 (listed.setIfInBounds i true) a' w' (by omega) (by omega) (by simp [hs]) (fun j hj => ?_) (fun j hj => ?_) (by omega) h)) hq
      · by_cases c : i = j
        · subst c
          exact getD_same (by rw [hs]; exact hlt) _
        · rw [getD_off c]
          exact h1 j (by omega)
      · rw [getD_off (by omega)]
        exact h2 j (by omega)

/-- The block that a value leads to. -/
def blkOf : Value → Option Nat
  | .pointer (some a) => some a.block
  | .slice (some a) _ _ => some a.block
  | _ => none
/-- One operation whose answer leads to a block of its own making. -/
def FreshG (P : Program) (md : Region.Mode) (ops : Array Oper) (Q : Exit → Act → World → Prop) (F : Nat → Fact) (a0 : Act) (w0 : World) (i : Nat) : Prop :=
  ∀ o, ops[i]? = some o → ∀ a w, Based ops a0 a → Below w0.heap.size w0 w → (∀ j d, waits md ops i j d = true → (F j).p (a.tmps.getD d undef) w) →
    ∀ K : Act → World → Prop, (∀ v w', Below w.heap.size w w' → (F i).p v w' → (∃ b, blkOf v = some b ∧ w.heap.size ≤ b ∧ b < w'.heap.size) → K (a.put o.dst v) w') → o.wp P a w K Q
theorem FreshOk.g {i : Nat} (h : FreshOk P md ops Q F a0 w0 i) : FreshG P md ops Q F a0 w0 i :=
  fun o ho a w hb hw hf K hK => h o ho a w hb hw hf K (fun v w' hn hv e hz => hK v w' hn hv ⟨w.heap.size, by rw [e]; rfl, Nat.le_refl _, hz⟩)
theorem FreshG.step {i : Nat} (h : FreshG P md ops Q F a0 w0 i) : StepOk P md ops Q F a0 w0 i :=
  fun o ho a w hb hw hf K hK => h o ho a w hb hw hf K (fun v w' hn hv _ => hK v w' hn hv)
/-- Those that make a block are apart from one another. -/
structure SepL (fr : List (Nat × Nat)) (listed : Array Bool) (a : Act) (w : World) : Prop where
  l : ∀ p ∈ fr, listed.getD p.1 false = true → ∃ q, blkOf (a.tmps.getD p.2 undef) = some q ∧ q < w.heap.size
  n : ∀ p ∈ fr, ∀ p' ∈ fr, p ≠ p' → listed.getD p.1 false = true → listed.getD p'.1 false = true → blkOf (a.tmps.getD p.2 undef) ≠ blkOf (a.tmps.getD p'.2 undef)
theorem SepL.other {fr : List (Nat × Nat)} {listed : Array Bool} {a : Act} {w w' : World} (h : SepL fr listed a w) {i : Nat} {dst : Option Tmp} {v : Value} (h1 : ∀ p ∈ fr, i ≠ p.1) (e1 : ∀ p ∈ fr, dst ≠ some p.2) (hw : w.heap.size ≤ w'.heap.size) : SepL fr (listed.setIfInBounds i true) (a.put dst v) w' := by
  refine ⟨fun p hp g => ?_, fun p hp p' hp' hne g g' => ?_⟩
  · rw [getD_off (h1 p hp)] at g
    obtain ⟨q, hq, hl⟩ := h.l p hp g
    exact ⟨q, by rw [put_off (e1 p hp)]; exact hq, by omega⟩
  · rw [getD_off (h1 p hp)] at g
    rw [getD_off (h1 p' hp')] at g'
    rw [put_off (e1 p hp), put_off (e1 p' hp')]
    exact h.n p hp p' hp' hne g g'
theorem SepL.this {fr : List (Nat × Nat)} {listed : Array Bool} {a : Act} {w w' : World} (h : SepL fr listed a w) {v : Value} {i d : Nat} (hi : ∀ p ∈ fr, p ≠ (i, d) → i ≠ p.1 ∧ d ≠ p.2) (hs : d < a.tmps.size) (hv : ∃ b, blkOf v = some b ∧ w.heap.size ≤ b ∧ b < w'.heap.size) :
    SepL fr (listed.setIfInBounds i true) (a.put (some d) v) w' := by
  obtain ⟨b, hb, hb1, hb2⟩ := hv
  have old : ∀ p ∈ fr, p ≠ (i, d) → (listed.setIfInBounds i true).getD p.1 false = true → ∃ q, blkOf ((a.put (some d) v).tmps.getD p.2 undef) = some q ∧ q < w.heap.size := by
    intro p hp c g
    obtain ⟨c1, c2⟩ := hi p hp c
    rw [getD_off c1] at g
    obtain ⟨q, hq, hl⟩ := h.l p hp g
    exact ⟨q, by rw [put_off (by simpa using c2)]; exact hq, hl⟩
  have new : blkOf ((a.put (some d) v).tmps.getD d undef) = some b := by rw [put_at hs, hb]
  have ne : ∀ q, q < w.heap.size → (some q : Option Nat) ≠ some b := by
    intro q hq x
    simp only [Option.some.injEq] at x
    omega
  refine ⟨fun p hp g => ?_, fun p hp p' hp' hne g g' => ?_⟩
  · by_cases c : p = (i, d)
    · subst c
      exact ⟨b, new, hb2⟩
    · obtain ⟨q, hq, hl⟩ := old p hp c g
      exact ⟨q, hq, by omega⟩
  · by_cases c : p = (i, d)
    · subst c
      obtain ⟨q, hq, hl⟩ := old p' hp' (Ne.symm hne) g'
      show blkOf ((a.put (some d) v).tmps.getD d undef) ≠ _
      rw [new, hq]
      exact (ne q hl).symm
    · obtain ⟨q, hq, hl⟩ := old p hp c g
      by_cases c' : p' = (i, d)
      · subst c'
        show _ ≠ blkOf ((a.put (some d) v).tmps.getD d undef)
        rw [new, hq]
        exact ne q hl
      · obtain ⟨c1, c2⟩ := hi p hp c
        obtain ⟨c1', c2'⟩ := hi p' hp' c'
        rw [getD_off c1] at g
        rw [getD_off c1'] at g'
        rw [put_off (by simpa using c2), put_off (by simpa using c2')]
        exact h.n p hp p' hp' hne g g'

/-- What is told behind the head. -/
abbrev HeadDone (P : Program) (ops : Array Oper) (Q : Exit → Act → World → Prop) (F : Nat → Fact) (a0 : Act) (w0 : World) (k : Nat) (fr : List (Nat × Nat)) : Prop :=
  ∀ a w, Based ops a0 a → Below w0.heap.size w0 w → (∀ i o d, i < k → ops[i]? = some o → o.dst = some d → (F i).p (a.tmps.getD d undef) w) → (∀ p ∈ fr, ∀ p' ∈ fr, p ≠ p' → blkOf (a.tmps.getD p.2 undef) ≠ blkOf (a.tmps.getD p'.2 undef)) → tailWp P Q (ops.toList.drop k) a w

theorem any_tail {n k : Nat} (T : TextT md true ops n k) (hn : n ≤ a0.tmps.size) (steps : ∀ i, i < k → StepOk P md ops Q F a0 w0 i) (fr : List (Nat × Nat)) (hfr : ∀ p ∈ fr, p.1 < k ∧ writes ops p.1 p.2 = true ∧ FreshG P md ops Q F a0 w0 p.1) (hnd : ∀ p ∈ fr, ∀ p' ∈ fr, p ≠ p' → p.1 ≠ p'.1)
    (fin : HeadDone P ops Q F a0 w0 k fr) :
    ∀ (fuel : Nat) (listed : Array Bool) (a : Act) (w : World), left listed ops.size ≤ fuel → Held md ops F a0 w0 listed a w → SepL fr listed a w → (∀ j, k ≤ j → listed.getD j false = false) → ops.size - k ≤ fuel → wpAny P md ops Q fuel listed a w := by
  intro fuel
  induction fuel with
  | zero =>
    intro listed a w hl H S hk hf
    have hks : k = ops.size := by have := T.k1; omega
    have hall : ∀ i, i < ops.size → listed.getD i false = true := fun i hi => by
      rw [← dflt (by rw [H.s]; exact hi)]
      exact left_zero (n := ops.size) (by omega) i hi
    exact tail_any T 0 ops.size 0 listed a w (by omega) (by omega) H.s (fun j hj => hall j hj) (fun j hj => hk j (by omega)) (Nat.le_refl _) (hks ▸ fin a w H.b H.n (fun i o d hi ho hd => H.f i o d ho (hall i (by omega)) hd) (fun p hp p' hp' hne => S.n p hp p' hp' hne (hall p.1 (by have := (hfr p hp).1; omega)) (hall p'.1 (by have := (hfr p' hp').1; omega))))
  | succ fuel ih =>
    intro listed a w hl H S hk hf
    by_cases hall : ∀ j, j < k → listed.getD j false = true
    · exact tail_any T (ops.size - k) k (fuel + 1) listed a w (by have := T.k1; omega) (Nat.le_refl _) H.s hall hk hf (fin a w H.b H.n (fun i o d hi ho hd => H.f i o d ho (hall i hi) hd) (fun p hp p' hp' hne => S.n p hp p' hp' hne (hall p.1 (hfr p hp).1) (hall p'.1 (hfr p' hp').1)))
    · refine ⟨fun hr => ?_, fun i hi => ?_⟩
      · exfalso
        refine hall fun j hj => ?_
        have : ∀ m i, i < m → i < k → listed.getD i false = true := by
          intro m
          induction m with
          | zero => intro i hi; omega
          | succ m ihm =>
            intro i hi hik
            rcases Nat.lt_or_ge i m with h1 | h1
            · exact ihm i h1 hik
            · obtain rfl : i = m := by omega
              cases hc : listed.getD i false
              · exfalso
                have hks : i < ops.size := by have := T.k1; omega
                obtain ⟨o, ho⟩ : ∃ o, ops[i]? = some o := ⟨ops[i], by simp [hks]⟩
                have hr' : i ∈ Region.ready md ops listed := mem_ready.2 ⟨by rw [dflt (by rw [H.s]; omega)]; exact hc, o, ho, fun e he hb => ihm e.on (T.a i o ho e he hb) (by have := T.a i o ho e he hb; omega)⟩
                rw [hr] at hr'
                simp at hr'
              · rfl
        exact this (j + 1) j (by omega) hj
      · obtain ⟨h0, o, ho, hready⟩ := mem_ready.1 hi
        have hlt := (Array.getElem?_eq_some_iff.1 ho).1
        have hik : i < k := by
          rcases Nat.lt_or_ge i k with h1 | h1
          · exact h1
          · exfalso
            rcases Nat.lt_or_ge k i with h2 | h2
            · obtain ⟨e, he, hb, hq⟩ := T.l rfl i o h2 ho
              have := hready e he hb
              rw [hk e.on (by omega)] at this
              simp at this
            · obtain rfl : i = k := by omega
              refine hall fun j hj => ?_
              have ah : ∀ m j, i - j ≤ m → j < i → listed.getD j false = true := by
                intro m
                induction m with
                | zero => intro j hm hj; omega
                | succ m ihm =>
                  intro j hm hj
                  obtain ⟨p, oo, hjp, hpk, hoo, e, he, hb, rfl⟩ := T.c rfl hlt j hj
                  rcases Nat.lt_or_ge p i with h1 | h1
                  · exact H.c p oo hoo (ihm p (by omega) h1) e he hb
                  · obtain rfl : p = i := by omega
                    obtain rfl := Option.some.inj (ho.symm.trans hoo)
                    exact hready e he hb
              exact ah (i - j) j (Nat.le_refl _) hj
        have hwant : Region.wanted o (yielded ops a.tmps) = true := by simp [Region.wanted, T.g i o ho]
        refine wpOp_step ho fun K' hK => ?_
        rw [if_pos hwant]
        have hll := left_set (by rw [H.s]; exact hlt) h0 ops.size hlt
        have hfacts : ∀ j d, waits md ops i j d = true → (F j).p (a.tmps.getD d undef) w := by
          intro j d hjd
          unfold waits at hjd
          rw [ho] at hjd
          cases hoj : ops[j]? with
          | none => rw [hoj] at hjd; simp at hjd
          | some oj =>
            rw [hoj] at hjd
            simp only [Bool.and_eq_true, beq_iff_eq] at hjd
            obtain ⟨e, he, hb⟩ := Array.any_eq_true'.1 hjd.1
            simp only [Bool.and_eq_true, beq_iff_eq] at hb
            exact H.f j oj d hoj (by rw [← hb.2]; exact hready e he hb.1) hjd.2
        have htail : ops.size - k ≤ fuel := by
          -- k and all behind it are still to come, and i besides
          have lk : ∀ m, m ≤ ops.size → k ≤ m → (m - k) + left listed k ≤ left listed m := by
            intro m
            induction m with
            | zero => intro _ hk0; have : k = 0 := by omega
                      subst this; simp
            | succ m ihm =>
              intro hm hkm
              rcases Nat.lt_or_ge m k with c | c
              · have : k = m + 1 := by omega
                subst this
                omega
              · have q := ihm (by omega) c
                rw [left, if_pos (by rw [dflt (by rw [H.s]; omega)]; exact hk m c)]
                omega
          have l1 : 1 ≤ left listed k := by
            have := left_set (by rw [H.s]; exact hlt) h0 k hik
            omega
          have := lk ops.size (Nat.le_refl _) T.k1
          omega
        have go : ∀ v w', Below w.heap.size w w' → (F i).p v w' → SepL fr (listed.setIfInBounds i true) (a.put o.dst v) w' → K' (a.put o.dst v) w' := by
          intro v w' hw hf' hS
          refine hK _ _ (ih _ _ _ (by omega) (H.nextT T hn ho hi hw hf') hS (fun j hj => ?_) htail)
          rw [getD_off (by omega)]
          exact hk j hj
        by_cases c : ∃ p ∈ fr, i = p.1
        · obtain ⟨p, hp, rfl⟩ := c
          obtain ⟨_, hw', f⟩ := hfr p hp
          obtain ⟨op, hop, hdp⟩ := writes_is hw'
          obtain rfl := Option.some.inj (hop.symm.trans ho)
          refine f op ho a w H.b H.n hfacts K' fun v w' hw hf' hv => go v w' hw hf' ?_
          rw [hdp]
          refine S.this (i := p.1) (d := p.2) (fun p' hp' hne => ?_) (by rw [H.b.2.1]; exact Nat.lt_of_lt_of_le (T.d p.1 op p.2 hop hdp) hn) hv
          have n1 := hnd p hp p' hp' (Ne.symm hne)
          obtain ⟨o', ho', hd'⟩ := writes_is (hfr p' hp').2.1
          exact ⟨n1, fun e => T.x p.1 p'.1 op o' p.2 hop ho' n1 hdp (by rw [e]; exact hd')⟩
        · refine steps i hik o ho a w H.b H.n hfacts K' fun v w' hw hf' => go v w' hw hf' ?_
          refine S.other (fun p hp e => c ⟨p, hp, e⟩) (fun p hp e => ?_) hw.size
          obtain ⟨o', ho', hd'⟩ := writes_is (hfr p hp).2.1
          exact T.x i p.1 o o' p.2 ho ho' (fun x => c ⟨p, hp, x⟩) e hd'

theorem tail_line {n k : Nat} {draw : Bool} (T : TextT md draw ops n k) : ∀ (m t : Nat) (a : Act) (w : World), t + m = ops.size → k ≤ t → tailWp P Q (ops.toList.drop t) a w → wpOps P ops Q (List.range' t m) a w := by
  intro m
  induction m with
  | zero =>
    intro t a w ht hk hq
    obtain rfl : t = ops.size := by omega
    have e : ops.toList.drop ops.size = [] := by simp
    rw [e] at hq
    exact hq
  | succ m ih =>
    intro t a w ht hk hq
    have hlt : t < ops.size := by omega
    obtain ⟨o, ho⟩ : ∃ o, ops[t]? = some o := ⟨ops[t], by simp [hlt]⟩
    have e : ops.toList.drop t = o :: ops.toList.drop (t + 1) := by
      rw [List.drop_eq_getElem_cons (by simpa using hlt)]
      congr 1
      have := (Array.getElem?_eq_some_iff.1 ho).2
      simpa using this
    rw [e] at hq
    have hwant : Region.wanted o (yielded ops a.tmps) = true := by simp [Region.wanted, T.g t o ho]
    rw [List.range'_succ, wpOps_cons]
    refine wpOp_step ho fun K' hK => ?_
    rw [if_pos hwant]
    exact Oper.wp_mono (fun a' w' h => hK _ _ (ih (t + 1) a' w' (by omega) (by omega) h)) hq
theorem line_tail {n k : Nat} {draw : Bool} (T : TextT md draw ops n k) (hn : n ≤ a0.tmps.size) (steps : ∀ i, i < k → StepOk P md ops Q F a0 w0 i) (fr : List (Nat × Nat)) (hfr : ∀ p ∈ fr, p.1 < k ∧ writes ops p.1 p.2 = true ∧ FreshG P md ops Q F a0 w0 p.1) (hnd : ∀ p ∈ fr, ∀ p' ∈ fr, p ≠ p' → p.1 ≠ p'.1)
    (fin : HeadDone P ops Q F a0 w0 k fr) :
    ∀ (m i : Nat) (listed : Array Bool) (a : Act) (w : World), i + m = ops.size → i ≤ k → Based ops a0 a → Below w0.heap.size w0 w → (∀ j o d, j < i → ops[j]? = some o → o.dst = some d → (F j).p (a.tmps.getD d undef) w) → listed.size = ops.size → (∀ j, j < i → listed.getD j false = true) → SepL fr listed a w →
      wpOps P ops Q (List.range' i m) a w := by
  intro m
  induction m with
  | zero =>
    intro i listed a w him hik hb hw hf hs hl S
    obtain rfl : i = k := by have := T.k1; omega
    exact tail_line T 0 i a w (by omega) (Nat.le_refl _) (fin a w hb hw hf (fun p hp p' hp' hne => S.n p hp p' hp' hne (hl p.1 (hfr p hp).1) (hl p'.1 (hfr p' hp').1)))
  | succ m ih =>
    intro i listed a w him hik hb hw hf hs hl S
    have hlt : i < ops.size := by omega
    obtain ⟨o, ho⟩ : ∃ o, ops[i]? = some o := ⟨ops[i], by simp [hlt]⟩
    rcases Nat.lt_or_ge i k with h1 | h1
    · have hwant : Region.wanted o (yielded ops a.tmps) = true := by simp [Region.wanted, T.g i o ho]
      rw [List.range'_succ, wpOps_cons]
      refine wpOp_step ho fun K' hK => ?_
      rw [if_pos hwant]
      have hfacts : ∀ j d, waits md ops i j d = true → (F j).p (a.tmps.getD d undef) w := by
        intro j d hjd
        unfold waits at hjd
        rw [ho] at hjd
        cases hoj : ops[j]? with
        | none => rw [hoj] at hjd; simp at hjd
        | some oj =>
          rw [hoj] at hjd
          simp only [Bool.and_eq_true, beq_iff_eq] at hjd
          obtain ⟨e, he, hb⟩ := Array.any_eq_true'.1 hjd.1
          simp only [Bool.and_eq_true, beq_iff_eq] at hb
          exact hf j oj d (by rw [← hb.2]; exact T.a i o ho e he hb.1) hoj hjd.2
      have go : ∀ v w', Below w.heap.size w w' → (F i).p v w' → SepL fr (listed.setIfInBounds i true) (a.put o.dst v) w' → K' (a.put o.dst v) w' := by
        intro v w' hw' hfv hS
        refine hK _ _ (ih (i + 1) (listed.setIfInBounds i true) _ _ (by omega) (by omega) ⟨by rw [put_defers]; exact hb.1, by rw [put_size]; exact hb.2.1, fun d hd => ?_⟩ (nxt hw hw') ?_ (by simp [hs]) (fun j hj => ?_) hS)
        · rw [put_off]
          · exact hb.2.2 d hd
          · have q := Array.all_eq_true_iff_forall_mem.1 hd o (Array.mem_of_getElem? ho)
            simpa using q
        · intro j oj d hj hoj hd
          by_cases e : i = j
          · subst e
            obtain rfl := Option.some.inj (ho.symm.trans hoj)
            rw [hd, put_at (Nat.lt_of_lt_of_le (T.d i o d ho hd) (hb.2.1 ▸ hn))]
            exact hfv
          · rw [put_off (T.x j i oj o d hoj ho (Ne.symm e) hd)]
            exact (F j).up hw' (hf j oj d (by omega) hoj hd)
        · by_cases c : i = j
          · subst c
            exact getD_same (by rw [hs]; exact hlt) _
          · rw [getD_off c]
            exact hl j (by omega)
      by_cases c : ∃ p ∈ fr, i = p.1
      · obtain ⟨p, hp, rfl⟩ := c
        obtain ⟨_, hw', f⟩ := hfr p hp
        obtain ⟨op, hop, hdp⟩ := writes_is hw'
        obtain rfl := Option.some.inj (hop.symm.trans ho)
        refine f op ho a w hb hw hfacts K' fun v w' hw' hf' hv => go v w' hw' hf' ?_
        rw [hdp]
        refine S.this (i := p.1) (d := p.2) (fun p' hp' hne => ?_) (by rw [hb.2.1]; exact Nat.lt_of_lt_of_le (T.d p.1 op p.2 hop hdp) hn) hv
        have n1 := hnd p hp p' hp' (Ne.symm hne)
        obtain ⟨o', ho', hd'⟩ := writes_is (hfr p' hp').2.1
        exact ⟨n1, fun e => T.x p.1 p'.1 op o' p.2 hop ho' n1 hdp (by rw [e]; exact hd')⟩
      · refine steps i h1 o ho a w hb hw hfacts K' fun v w' hw' hf' => go v w' hw' hf' ?_
        refine S.other (fun p hp e => c ⟨p, hp, e⟩) (fun p hp e => ?_) hw'.size
        obtain ⟨o', ho', hd'⟩ := writes_is (hfr p hp).2.1
        exact T.x i p.1 o o' p.2 ho ho' (fun x => c ⟨p, hp, x⟩) e hd'
    · obtain rfl : i = k := by omega
      exact tail_line T (m + 1) i a w him (Nat.le_refl _) (fin a w hb hw hf (fun p hp p' hp' hne => S.n p hp p' hp' hne (hl p.1 (hfr p hp).1) (hl p'.1 (hfr p' hp').1)))

/-- A region of any kind that ends with a row of operations. -/
theorem region_tail {id : Nat} {w : World} {draw : Bool} (k : Nat) (F : Nat → Fact) (hm : P.follows .mixedOrders = true) (hT : textTail .any draw ops a0.tmps.size k = true) (steps : ∀ i, i < k → StepOk P .any ops Q F a0 w i)
    (fr : List (Nat × Nat)) (hfr : ∀ p ∈ fr, p.1 < k ∧ writes ops p.1 p.2 = true ∧ FreshG P .any ops Q F a0 w p.1) (hnd : ∀ p ∈ fr, ∀ p' ∈ fr, p ≠ p' → p.1 ≠ p'.1)
    (fin : ∀ a w', Based ops a0 a → Below w.heap.size w w' → (∀ i d, decide (i < k) = true → writes ops i d = true → (F i).p (a.tmps.getD d undef) w') → (∀ p ∈ fr, ∀ p' ∈ fr, p ≠ p' → blkOf (a.tmps.getD p.2 undef) ≠ blkOf (a.tmps.getD p'.2 undef)) → tailWp P Q (ops.toList.drop k) a w') : (Code.region id ops draw).wp P Q a0 w := by
  have T := textT_of hT
  have fin' : HeadDone P ops Q F a0 w k fr := fun a w' hb hw hf hne => fin a w' hb hw (fun i d hi hd => by
    obtain ⟨o, ho, hd'⟩ := writes_is hd
    exact hf i o d (of_decide_eq_true hi) ho hd') hne
  have z : ∀ j, (Array.replicate ops.size false).getD j false = false := fun j => by
    rw [Array.getD_eq_getD_getElem?, Array.getElem?_replicate]
    split <;> rfl
  have S0 : ∀ w', SepL fr (Array.replicate ops.size false) a0 w' := fun w' => ⟨fun p hp g => by rw [z] at g; simp at g, fun p hp p' hp' hne g g' => by rw [z] at g; simp at g⟩
  cases draw with
  | false =>
    refine wp_region ?_
    have h := line_tail (w0 := w) T (Nat.le_refl _) steps fr hfr hnd fin' ops.size 0 (Array.replicate ops.size false) a0 w (by omega) (by omega) ⟨rfl, rfl, fun _ _ => rfl⟩ (Below.refl _ _) (fun j o d hj => by omega) (by simp) (fun j hj => by omega) (S0 w)
    rw [List.range_eq_range']
    exact h
  | true =>
    refine wp_region_any hm ?_
    refine any_tail (w0 := w) T (Nat.le_refl _) steps fr hfr hnd fin' ops.size _ a0 _ ?_ ⟨⟨rfl, rfl, fun _ _ => rfl⟩, (Below.refl _ _).drew, ?_, ?_, by simp⟩ (S0 _) (fun j _ => z j) (by omega)
    · have : ∀ m, left (Array.replicate ops.size false) m ≤ m := by
        intro m
        induction m with
        | zero => exact Nat.le_refl _
        | succ m ih => unfold left; split <;> omega
      exact this _
    · intro i o d ho hl _
      rw [z] at hl
      simp at hl
    · intro i o ho hl
      rw [z] at hl
      simp at hl
theorem puts_tail {n k : Nat} {draw : Bool} (hT : textTail md draw ops n k = true) (hn : n = a0.tmps.size) {a : Act} (hb : Based ops a0 a) (vs : Nat → Value) (hv : ∀ d, a.tmps.getD d undef = vs d) : a = puts vs a0 ops.toList := by
  have T := textT_of hT
  have hin : ∀ o ∈ ops.toList, ∀ e, o.dst = some e → e < a0.tmps.size := fun o ho e he => by
    obtain ⟨i, hi⟩ := List.getElem?_of_mem ho
    have := T.d i o e (by simpa using hi) he
    rw [hn] at this
    exact this
  obtain ⟨s1, s2⟩ := puts_size vs ops.toList a0
  obtain ⟨ta, da⟩ := a
  obtain ⟨h1, h2, h3⟩ := hb
  have e1 : ta = (puts vs a0 ops.toList).tmps := by
    apply Array.ext
    · rw [s1]; exact h2
    · intro i hi hi'
      have g := puts_get vs i ops.toList a0 hin
      have l : ta[i] = ta.getD i undef := by simp [Array.getD_eq_getD_getElem?, hi]
      have r : (puts vs a0 ops.toList).tmps[i] = (puts vs a0 ops.toList).tmps.getD i undef := by simp only [Array.getD_eq_getD_getElem?, Array.getElem?_eq_getElem hi', Option.getD_some]
      rw [l, r, g]
      by_cases c : ops.toList.any (fun o => o.dst == some i) = true
      · rw [if_pos c]; exact hv i
      · rw [if_neg c]
        refine h3 i ?_
        unfold apart
        rw [Array.all_eq_true_iff_forall_mem]
        intro o ho
        have hne : ¬ (o.dst == some i) = true := fun x => c (List.any_eq_true.2 ⟨o, by simpa using ho, x⟩)
        simpa using hne
  have e2 : da = (puts vs a0 ops.toList).defers := h1.trans s2.symm
  subst e1
  subst e2
  rfl
theorem Based.put {a : Act} (hb : Based ops a0 a) {o : Oper} {i : Nat} (ho : ops[i]? = some o) (v : Value) : Based ops a0 (a.put o.dst v) := by
  refine ⟨by rw [put_defers]; exact hb.1, by rw [put_size]; exact hb.2.1, fun d hd => ?_⟩
  rw [put_off]
  · exact hb.2.2 d hd
  · have q := Array.all_eq_true_iff_forall_mem.1 hd o (Array.mem_of_getElem? ho)
    simpa using q
end
end Go.Proofs.Ytjjoimlnpbelpaa
