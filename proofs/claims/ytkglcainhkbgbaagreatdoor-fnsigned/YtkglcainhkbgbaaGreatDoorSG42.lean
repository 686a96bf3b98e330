import Derived.Test.YtkglcainhkbgbaaGreatDoorSG3
import Derived.Test.YtkglcainhkbgbaaGreatDoorSG39
import Derived.Test.YtkglcainhkbgbaaGreatDoorSG38
import Derived.Deep.DeepCutAuto
import Derived.Test.YtkglcainhkbgbaaGreatDoorSG41
namespace Go.Proofs.YtkglcainhkbgbaaGreatDoor
set_option maxRecDepth 100000
open Go Go.RowKit
section
variable {P : Program} {ops : Array Oper} {Q : Exit → Act → World → Prop} {md : Region.Mode} {F : Nat → Fact} {a0 : Act} {w0 : World}
def tailWp (P : Program) (Q : Exit → Act → World → Prop) : List Oper → Act → World → Prop
  | [], a, w => Q .normal a w
  | o :: os, a, w => o.wp P a w (fun a' w' => tailWp P Q os a' w') Q
def textTail (md : Region.Mode) (draw : Bool) (ops : Array Oper) (n k : Nat) : Bool :=
  (ops.all fun o => o.guard.isNone && (match o.dst with | some d => decide (d < n) | none => true))
  && ((List.range ops.size).all fun i => match ops[i]? with
    | some o => o.after.all (fun e => !Region.binds md e || decide (e.on < i)) && (List.range i).all fun j => match ops[j]? with
      | some x => x.dst.isNone || o.dst != x.dst
      | none => true
    | none => true)
  && decide (k ≤ ops.size)
  && (!draw || k == ops.size || (List.range k).all fun j => (List.range (k + 1)).any fun m => decide (j < m) && match ops[m]? with
    | some o => o.after.any (fun e => Region.binds md e && e.on == j)
    | none => false)
  && (!draw || (List.range ops.size).all fun i => decide (i ≤ k) || match ops[i]? with
    | some o => o.after.any (fun e => Region.binds md e && e.on + 1 == i)
    | none => false)
structure TextT (md : Region.Mode) (draw : Bool) (ops : Array Oper) (n k : Nat) : Prop where
  g : ∀ (i : Nat) o, ops[i]? = some o → o.guard = none
  d : ∀ (i : Nat) o d, ops[i]? = some o → o.dst = some d → d < n
  a : ∀ (i : Nat) o, ops[i]? = some o → ∀ e ∈ o.after, Region.binds md e = true → e.on < i
  x : ∀ (i j : Nat) o o' d, ops[i]? = some o → ops[j]? = some o' → i ≠ j → o.dst = some d → o'.dst ≠ some d
  k1 : k ≤ ops.size
  c : draw = true → k < ops.size → ∀ j, j < k → ∃ (m : Nat) (o : Oper), j < m ∧ m ≤ k ∧ ops[m]? = some o ∧ ∃ e ∈ o.after, Region.binds md e = true ∧ e.on = j
  l : draw = true → ∀ i o, k < i → ops[i]? = some o → ∃ e ∈ o.after, Region.binds md e = true ∧ e.on + 1 = i
theorem textT_of {n k : Nat} {draw : Bool} (h : textTail md draw ops n k = true) : TextT md draw ops n k := by
  unfold textTail at h
  simp only [Bool.and_eq_true, decide_eq_true_eq] at h
  obtain ⟨⟨⟨⟨h1, h2⟩, h3⟩, h4⟩, h5⟩ := h
  rw [Array.all_eq_true_iff_forall_mem] at h1
  rw [List.all_eq_true] at h2
  have H : ∀ (i j : Nat) o o' d, j < i → ops[i]? = some o → ops[j]? = some o' → o.dst = some d → o'.dst ≠ some d := by
    intro i j o o' d hij hi hj hd hd'
    have q := h2 i (List.mem_range.2 (Array.getElem?_eq_some_iff.1 hi).1)
    simp only [hi, Bool.and_eq_true] at q
    have r := List.all_eq_true.1 q.2 j (List.mem_range.2 hij)
    simp only [hj, hd, hd'] at r
    simp at r
  refine ⟨?_, ?_, ?_, ?_, h3, ?_, ?_⟩
  · intro i o ho
    have q := h1 o (Array.mem_of_getElem? ho)
    simp only [Bool.and_eq_true] at q
    exact Option.isNone_iff_eq_none.1 q.1
  · intro i o d ho hd
    have q := h1 o (Array.mem_of_getElem? ho)
    simp only [Bool.and_eq_true, hd, decide_eq_true_eq] at q
    exact q.2
  · intro i o ho e he hb
    have q := h2 i (List.mem_range.2 (Array.getElem?_eq_some_iff.1 ho).1)
    simp only [ho, Bool.and_eq_true] at q
    have r := (Array.all_eq_true_iff_forall_mem.1 q.1) e he
    rw [hb] at r
    simpa using r
  · intro i j o o' d hi hj hij hd hd'
    rcases Nat.lt_or_gt_of_ne hij with h | h
    · exact H j i o' o d h hj hi hd' hd
    · exact H i j o o' d h hi hj hd hd'
  · intro hdr hk j hj
    rw [hdr] at h4
    have h4' : ((List.range k).all fun j => (List.range (k + 1)).any fun m => decide (j < m) && match ops[m]? with
      | some o => o.after.any (fun e => Region.binds md e && e.on == j)
      | none => false) = true := by
      simp only [Bool.not_true, Bool.false_or, Bool.or_eq_true] at h4
      rcases h4 with e | e
      · have : k = ops.size := by simpa using e
        omega
      · exact e
    have q := List.all_eq_true.1 h4' j (List.mem_range.2 hj)
    obtain ⟨m, hm, r⟩ := List.any_eq_true.1 q
    simp only [Bool.and_eq_true, decide_eq_true_eq] at r
    cases ho : ops[m]? with
    | none => rw [ho] at r; simp at r
    | some o =>
      rw [ho] at r
      obtain ⟨e, he, hb⟩ := Array.any_eq_true'.1 r.2
      simp only [Bool.and_eq_true, beq_iff_eq] at hb
      exact ⟨m, o, r.1, by have := List.mem_range.1 hm; omega, ho, e, he, hb.1, hb.2⟩
  · intro hdr i o hki ho
    rw [hdr] at h5
    simp only [Bool.not_true, Bool.false_or] at h5
    rw [List.all_eq_true] at h5
    have q := h5 i (List.mem_range.2 (Array.getElem?_eq_some_iff.1 ho).1)
    rw [ho] at q
    simp only [Bool.or_eq_true] at q
    rcases q with e | e
    · have : i ≤ k := by simpa using e
      omega
    · obtain ⟨e, he, hb⟩ := Array.any_eq_true'.1 e
      simp only [Bool.and_eq_true, beq_iff_eq] at hb
      exact ⟨e, he, hb.1, hb.2⟩
theorem Held.nextT {n k : Nat} {draw : Bool} (T : TextT md draw ops n k) (hn : n ≤ a0.tmps.size) {listed : Array Bool} {a : Act} {w : World} (H : Held md ops F a0 w0 listed a w) {i : Nat} {o : Oper} (ho : ops[i]? = some o) (hr : i ∈ Region.ready md ops listed)
    {v : Value} {w' : World} (hw : Below w.heap.size w w') (hf : (F i).p v w') : Held md ops F a0 w0 (listed.setIfInBounds i true) (a.put o.dst v) w' := by
  have hi : i < ops.size := (Array.getElem?_eq_some_iff.1 ho).1
  have hz : a.tmps.size = a0.tmps.size := H.b.2.1
  refine ⟨⟨by rw [put_defers]; exact H.b.1, by rw [put_size]; exact hz, fun d hd => ?_⟩, nxt H.n hw, ?_, ?_, by simp [H.s]⟩
  · rw [put_off]
    · exact H.b.2.2 d hd
    · have q := Array.all_eq_true_iff_forall_mem.1 hd o (Array.mem_of_getElem? ho)
      simpa using q
  · intro j oj d hoj hj hd
    by_cases e : i = j
    · subst e
      obtain rfl := Option.some.inj (ho.symm.trans hoj)
      rw [hd, put_at (Nat.lt_of_lt_of_le (T.d i o d ho hd) (hz ▸ hn))]
      exact hf
    · rw [getD_off e] at hj
      rw [put_off (T.x j i oj o d hoj ho (Ne.symm e) hd)]
      exact (F j).up hw (H.f j oj d hoj hj hd)
  · intro j oj hoj hj e he hb
    obtain ⟨_, o', ho', q⟩ := mem_ready.1 hr
    by_cases c : i = e.on
    · rw [← c]
      exact getD_same (by rw [H.s]; exact hi) _
    · rw [getD_off c]
      by_cases e' : i = j
      · subst e'
        obtain rfl := Option.some.inj (ho'.symm.trans hoj)
        exact q e he hb
      · rw [getD_off e'] at hj
        exact H.c j oj hoj hj e he hb
theorem tail_any {n k : Nat} (T : TextT md true ops n k) : ∀ (m t fuel : Nat) (listed : Array Bool) (a : Act) (w : World), t + m = ops.size → k ≤ t → listed.size = ops.size → (∀ j, j < t → listed.getD j false = true) → (∀ j, t ≤ j → listed.getD j false = false) → m ≤ fuel →
    tailWp P Q (ops.toList.drop t) a w → wpAny P md ops Q fuel listed a w := by
  intro m
  induction m with
  | zero =>
    intro t fuel listed a w ht hk hs h1 h2 hf hq
    obtain rfl : t = ops.size := by omega
    have e : ops.toList.drop ops.size = [] := by simp
    rw [e] at hq
    refine wpAny_done ?_ hq fuel
    cases hr : Region.ready md ops listed with
    | nil => rfl
    | cons i tl =>
      exfalso
      have hi : i ∈ Region.ready md ops listed := by rw [hr]; simp
      obtain ⟨h0, o, ho, _⟩ := mem_ready.1 hi
      have hlt := (Array.getElem?_eq_some_iff.1 ho).1
      rw [dflt (by rw [hs]; exact hlt), h1 i hlt] at h0
      simp at h0
  | succ m ih =>
    intro t fuel listed a w ht hk hs h1 h2 hf hq
    have hlt : t < ops.size := by omega
    obtain ⟨o, ho⟩ : ∃ o, ops[t]? = some o := ⟨ops[t], by simp [hlt]⟩
    have e : ops.toList.drop t = o :: ops.toList.drop (t + 1) := by
      rw [List.drop_eq_getElem_cons (by simpa using hlt)]
      congr 1
      have := (Array.getElem?_eq_some_iff.1 ho).2
      simpa using this
    rw [e] at hq
    obtain ⟨f2, rfl⟩ : ∃ f2, fuel = f2 + 1 := ⟨fuel - 1, by omega⟩
    refine ⟨fun hr => ?_, fun i hi => ?_⟩
    · exfalso
      have hr' : t ∈ Region.ready md ops listed := mem_ready.2 ⟨by rw [dflt (by rw [hs]; exact hlt)]; exact h2 t (Nat.le_refl _), o, ho, fun e he hb => h1 e.on (T.a t o ho e he hb)⟩
      rw [hr] at hr'
      simp at hr'
    · obtain ⟨h0, oi, hoi, hall⟩ := mem_ready.1 hi
      have hil := (Array.getElem?_eq_some_iff.1 hoi).1
      rw [dflt (by rw [hs]; exact hil)] at h0
      have hti : i = t := by
        rcases Nat.lt_trichotomy i t with c | c | c
        · rw [h1 i c] at h0; simp at h0
        · exact c
        · exfalso
          obtain ⟨e, he, hb, hq'⟩ := T.l rfl i oi (by omega) hoi
          have := hall e he hb
          rw [h2 e.on (by omega)] at this
          simp at this
      subst hti
      obtain rfl := Option.some.inj (ho.symm.trans hoi)
      have hwant : Region.wanted o (yielded ops a.tmps) = true := by simp [Region.wanted, T.g i o ho]
      refine wpOp_step ho fun K' hK => ?_
      rw [if_pos hwant]
      refine Oper.wp_mono (fun a' w' h => hK _ _ (ih (i + 1) f2 (listed.setIfInBounds i true) a' w' (by omega) (by omega) (by simp [hs]) (fun j hj => ?_) (fun j hj => ?_) (by omega) h)) hq
      · by_cases c : i = j
        · subst c
          exact getD_same (by rw [hs]; exact hlt) _
        · rw [getD_off c]
          exact h1 j (by omega)
      · rw [getD_off (by omega)]
        exact h2 j (by omega)
def blkOf : Value → Option Nat
  | .pointer (some a) => some a.block
  | .slice (some a) _ _ => some a.block
  | _ => none
def FreshG (P : Program) (md : Region.Mode) (ops : Array Oper) (Q : Exit → Act → World → Prop) (F : Nat → Fact) (a0 : Act) (w0 : World) (i : Nat) : Prop :=
  ∀ o, ops[i]? = some o → ∀ a w, Based ops a0 a → Below w0.heap.size w0 w → (∀ j d, waits md ops i j d = true → (F j).p (a.tmps.getD d undef) w) →
    ∀ K : Act → World → Prop, (∀ v w', Below w.heap.size w w' → (F i).p v w' → (∃ b, blkOf v = some b ∧ w.heap.size ≤ b ∧ b < w'.heap.size) → K (a.put o.dst v) w') → o.wp P a w K Q
theorem FreshOk.g {i : Nat} (h : FreshOk P md ops Q F a0 w0 i) : FreshG P md ops Q F a0 w0 i :=
  fun o ho a w hb hw hf K hK => h o ho a w hb hw hf K (fun v w' hn hv e hz => hK v w' hn hv ⟨w.heap.size, by rw [e]; rfl, Nat.le_refl _, hz⟩)
theorem FreshG.step {i : Nat} (h : FreshG P md ops Q F a0 w0 i) : StepOk P md ops Q F a0 w0 i :=
  fun o ho a w hb hw hf K hK => h o ho a w hb hw hf K (fun v w' hn hv _ => hK v w' hn hv)
structure SepL (fr : List (Nat × Nat)) (listed : Array Bool) (a : Act) (w : World) : Prop where
  l : ∀ p ∈ fr, listed.getD p.1 false = true → ∃ q, blkOf (a.tmps.getD p.2 undef) = some q ∧ q < w.heap.size
  n : ∀ p ∈ fr, ∀ p' ∈ fr, p ≠ p' → listed.getD p.1 false = true → listed.getD p'.1 false = true → blkOf (a.tmps.getD p.2 undef) ≠ blkOf (a.tmps.getD p'.2 undef)
theorem SepL.other {fr : List (Nat × Nat)} {listed : Array Bool} {a : Act} {w w' : World} (h : SepL fr listed a w) {i : Nat} {dst : Option Tmp} {v : Value} (h1 : ∀ p ∈ fr, i ≠ p.1) (e1 : ∀ p ∈ fr, dst ≠ some p.2) (hw : w.heap.size ≤ w'.heap.size) : SepL fr (listed.setIfInBounds i true) (a.put dst v) w' := by
  refine ⟨fun p hp g => ?_, fun p hp p' hp' hne g g' => ?_⟩
  · rw [getD_off (h1 p hp)] at g
    obtain ⟨q, hq, hl⟩ := h.l p hp g
    exact ⟨q, by rw [put_off (e1 p hp)]; exact hq, by omega⟩
  · rw [getD_off (h1 p hp)] at g
    rw [getD_off (h1 p' hp')] at g'
    rw [put_off (e1 p hp), put_off (e1 p' hp')]
    exact h.n p hp p' hp' hne g g'
theorem SepL.this {fr : List (Nat × Nat)} {listed : Array Bool} {a : Act} {w w' : World} (h : SepL fr listed a w) {v : Value} {i d : Nat} (hi : ∀ p ∈ fr, p ≠ (i, d) → i ≠ p.1 ∧ d ≠ p.2) (hs : d < a.tmps.size) (hv : ∃ b, blkOf v = some b ∧ w.heap.size ≤ b ∧ b < w'.heap.size) :
    SepL fr (listed.setIfInBounds i true) (a.put (some d) v) w' := by
  obtain ⟨b, hb, hb1, hb2⟩ := hv
  have old : ∀ p ∈ fr, p ≠ (i, d) → (listed.setIfInBounds i true).getD p.1 false = true → ∃ q, blkOf ((a.put (some d) v).tmps.getD p.2 undef) = some q ∧ q < w.heap.size := by
    intro p hp c g
    obtain ⟨c1, c2⟩ := hi p hp c
    rw [getD_off c1] at g
    obtain ⟨q, hq, hl⟩ := h.l p hp g
    exact ⟨q, by rw [put_off (by simpa using c2)]; exact hq, hl⟩
  have new : blkOf ((a.put (some d) v).tmps.getD d undef) = some b := by rw [put_at hs, hb]
  have ne : ∀ q, q < w.heap.size → (some q : Option Nat) ≠ some b := by
    intro q hq x
    simp only [Option.some.injEq] at x
    omega
  refine ⟨fun p hp g => ?_, fun p hp p' hp' hne g g' => ?_⟩
  · by_cases c : p = (i, d)
    · subst c
      exact ⟨b, new, hb2⟩
    · obtain ⟨q, hq, hl⟩ := old p hp c g
      exact ⟨q, hq, by omega⟩
  · by_cases c : p = (i, d)
    · subst c
      obtain ⟨q, hq, hl⟩ := old p' hp' (Ne.symm hne) g'
      show blkOf ((a.put (some d) v).tmps.getD d undef) ≠ _
      rw [new, hq]
      exact (ne q hl).symm
    · obtain ⟨q, hq, hl⟩ := old p hp c g
      by_cases c' : p' = (i, d)
      · subst c'
        show _ ≠ blkOf ((a.put (some d) v).tmps.getD d undef)
        rw [new, hq]
        exact ne q hl
      · obtain ⟨c1, c2⟩ := hi p hp c
        obtain ⟨c1', c2'⟩ := hi p' hp' c'
        rw [getD_off c1] at g
        rw [getD_off c1'] at g'
        rw [put_off (by simpa using c2), put_off (by simpa using c2')]
        exact h.n p hp p' hp' hne g g'
abbrev HeadDone (P : Program) (ops : Array Oper) (Q : Exit → Act → World → Prop) (F : Nat → Fact) (a0 : Act) (w0 : World) (k : Nat) (fr : List (Nat × Nat)) : Prop :=
  ∀ a w, Based ops a0 a → Below w0.heap.size w0 w → (∀ i o d, i < k → ops[i]? = some o → o.dst = some d → (F i).p (a.tmps.getD d undef) w) → (∀ p ∈ fr, ∀ p' ∈ fr, p ≠ p' → blkOf (a.tmps.getD p.2 undef) ≠ blkOf (a.tmps.getD p'.2 undef)) → tailWp P Q (ops.toList.drop k) a w
theorem any_tail {n k : Nat} (T : TextT md true ops n k) (hn : n ≤ a0.tmps.size) (steps : ∀ i, i < k → StepOk P md ops Q F a0 w0 i) (fr : List (Nat × Nat)) (hfr : ∀ p ∈ fr, p.1 < k ∧ writes ops p.1 p.2 = true ∧ FreshG P md ops Q F a0 w0 p.1) (hnd : ∀ p ∈ fr, ∀ p' ∈ fr, p ≠ p' → p.1 ≠ p'.1)
    (fin : HeadDone P ops Q F a0 w0 k fr) :
    ∀ (fuel : Nat) (listed : Array Bool) (a : Act) (w : World), left listed ops.size ≤ fuel → Held md ops F a0 w0 listed a w → SepL fr listed a w → (∀ j, k ≤ j → listed.getD j false = false) → ops.size - k ≤ fuel → wpAny P md ops Q fuel listed a w := by
  intro fuel
  induction fuel with
  | zero =>
    intro listed a w hl H S hk hf
    have hks : k = ops.size := by have := T.k1; omega
    have hall : ∀ i, i < ops.size → listed.getD i false = true := fun i hi => by
      rw [← dflt (by rw [H.s]; exact hi)]
      exact left_zero (n := ops.size) (by omega) i hi
    exact tail_any T 0 ops.size 0 listed a w (by omega) (by omega) H.s (fun j hj => hall j hj) (fun j hj => hk j (by omega)) (Nat.le_refl _) (hks ▸ fin a w H.b H.n (fun i o d hi ho hd => H.f i o d ho (hall i (by omega)) hd) (fun p hp p' hp' hne => S.n p hp p' hp' hne (hall p.1 (by have := (hfr p hp).1; omega)) (hall p'.1 (by have := (hfr p' hp').1; omega))))
  | succ fuel ih =>
    intro listed a w hl H S hk hf
    by_cases hall : ∀ j, j < k → listed.getD j false = true
    · exact tail_any T (ops.size - k) k (fuel + 1) listed a w (by have := T.k1; omega) (Nat.le_refl _) H.s hall hk hf (fin a w H.b H.n (fun i o d hi ho hd => H.f i o d ho (hall i hi) hd) (fun p hp p' hp' hne => S.n p hp p' hp' hne (hall p.1 (hfr p hp).1) (hall p'.1 (hfr p' hp').1)))
    · refine ⟨fun hr => ?_, fun i hi => ?_⟩
      · exfalso
        refine hall fun j hj => ?_
        have : ∀ m i, i < m → i < k → listed.getD i false = true := by
          intro m
          induction m with
          | zero => intro i hi; omega
          | succ m ihm =>
            intro i hi hik
            rcases Nat.lt_or_ge i m with h1 | h1
            · exact ihm i h1 hik
            · obtain rfl : i = m := by omega
              cases hc : listed.getD i false
              · exfalso
                have hks : i < ops.size := by have := T.k1; omega
                obtain ⟨o, ho⟩ : ∃ o, ops[i]? = some o := ⟨ops[i], by simp [hks]⟩
                have hr' : i ∈ Region.ready md ops listed := mem_ready.2 ⟨by rw [dflt (by rw [H.s]; omega)]; exact hc, o, ho, fun e he hb => ihm e.on (T.a i o ho e he hb) (by have := T.a i o ho e he hb; omega)⟩
                rw [hr] at hr'
                simp at hr'
              · rfl
        exact this (j + 1) j (by omega) hj
      · obtain ⟨h0, o, ho, hready⟩ := mem_ready.1 hi
        have hlt := (Array.getElem?_eq_some_iff.1 ho).1
        have hik : i < k := by
          rcases Nat.lt_or_ge i k with h1 | h1
          · exact h1
          · exfalso
            rcases Nat.lt_or_ge k i with h2 | h2
            · obtain ⟨e, he, hb, hq⟩ := T.l rfl i o h2 ho
              have := hready e he hb
              rw [hk e.on (by omega)] at this
              simp at this
            · obtain rfl : i = k := by omega
              refine hall fun j hj => ?_
              have ah : ∀ m j, i - j ≤ m → j < i → listed.getD j false = true := by
                intro m
                induction m with
                | zero => intro j hm hj; omega
                | succ m ihm =>
                  intro j hm hj
                  obtain ⟨p, oo, hjp, hpk, hoo, e, he, hb, rfl⟩ := T.c rfl hlt j hj
                  rcases Nat.lt_or_ge p i with h1 | h1
                  · exact H.c p oo hoo (ihm p (by omega) h1) e he hb
                  · obtain rfl : p = i := by omega
                    obtain rfl := Option.some.inj (ho.symm.trans hoo)
                    exact hready e he hb
              exact ah (i - j) j (Nat.le_refl _) hj
        have hwant : Region.wanted o (yielded ops a.tmps) = true := by simp [Region.wanted, T.g i o ho]
        refine wpOp_step ho fun K' hK => ?_
        rw [if_pos hwant]
        have hll := left_set (by rw [H.s]; exact hlt) h0 ops.size hlt
        have hfacts : ∀ j d, waits md ops i j d = true → (F j).p (a.tmps.getD d undef) w := by
          intro j d hjd
          unfold waits at hjd
          rw [ho] at hjd
          cases hoj : ops[j]? with
          | none => rw [hoj] at hjd; simp at hjd
          | some oj =>
            rw [hoj] at hjd
            simp only [Bool.and_eq_true, beq_iff_eq] at hjd
            obtain ⟨e, he, hb⟩ := Array.any_eq_true'.1 hjd.1
            simp only [Bool.and_eq_true, beq_iff_eq] at hb
            exact H.f j oj d hoj (by rw [← hb.2]; exact hready e he hb.1) hjd.2
        have htail : ops.size - k ≤ fuel := by
          -- k and all behind it are still to come, and i besides
          have lk : ∀ m, m ≤ ops.size → k ≤ m → (m - k) + left listed k ≤ left listed m := by
            intro m
            induction m with
            | zero => intro _ hk0; have : k = 0 := by omega
                      subst this; simp
            | succ m ihm =>
              intro hm hkm
              rcases Nat.lt_or_ge m k with c | c
              · have : k = m + 1 := by omega
                subst this
                omega
              · have q := ihm (by omega) c
                rw [left, if_pos (by rw [dflt (by rw [H.s]; omega)]; exact hk m c)]
                omega
          have l1 : 1 ≤ left listed k := by
            have := left_set (by rw [H.s]; exact hlt) h0 k hik
            omega
          have := lk ops.size (Nat.le_refl _) T.k1
          omega
        have go : ∀ v w', Below w.heap.size w w' → (F i).p v w' → SepL fr (listed.setIfInBounds i true) (a.put o.dst v) w' → K' (a.put o.dst v) w' := by
          intro v w' hw hf' hS
          refine hK _ _ (ih _ _ _ (by omega) (H.nextT T hn ho hi hw hf') hS (fun j hj => ?_) htail)
          rw [getD_off (by omega)]
          exact hk j hj
        by_cases c : ∃ p ∈ fr, i = p.1
        · obtain ⟨p, hp, rfl⟩ := c
          obtain ⟨_, hw', f⟩ := hfr p hp
          obtain ⟨op, hop, hdp⟩ := writes_is hw'
          obtain rfl := Option.some.inj (hop.symm.trans ho)
          refine f op ho a w H.b H.n hfacts K' fun v w' hw hf' hv => go v w' hw hf' ?_
          rw [hdp]
          refine S.this (i := p.1) (d := p.2) (fun p' hp' hne => ?_) (by rw [H.b.2.1]; exact Nat.lt_of_lt_of_le (T.d p.1 op p.2 hop hdp) hn) hv
          have n1 := hnd p hp p' hp' (Ne.symm hne)
          obtain ⟨o', ho', hd'⟩ := writes_is (hfr p' hp').2.1
          exact ⟨n1, fun e => T.x p.1 p'.1 op o' p.2 hop ho' n1 hdp (by rw [e]; exact hd')⟩
        · refine steps i hik o ho a w H.b H.n hfacts K' fun v w' hw hf' => go v w' hw hf' ?_
          refine S.other (fun p hp e => c ⟨p, hp, e⟩) (fun p hp e => ?_) hw.size
          obtain ⟨o', ho', hd'⟩ := writes_is (hfr p hp).2.1
          exact T.x i p.1 o o' p.2 ho ho' (fun x => c ⟨p, hp, x⟩) e hd'
theorem tail_line {n k : Nat} {draw : Bool} (T : TextT md draw ops n k) : ∀ (m t : Nat) (a : Act) (w : World), t + m = ops.size → k ≤ t → tailWp P Q (ops.toList.drop t) a w → wpOps P ops Q (List.range' t m) a w := by
  intro m
  induction m with
  | zero =>
    intro t a w ht hk hq
    obtain rfl : t = ops.size := by omega
    have e : ops.toList.drop ops.size = [] := by simp
    rw [e] at hq
    exact hq
  | succ m ih =>
    intro t a w ht hk hq
    have hlt : t < ops.size := by omega
    obtain ⟨o, ho⟩ : ∃ o, ops[t]? = some o := ⟨ops[t], by simp [hlt]⟩
    have e : ops.toList.drop t = o :: ops.toList.drop (t + 1) := by
      rw [List.drop_eq_getElem_cons (by simpa using hlt)]
      congr 1
      have := (Array.getElem?_eq_some_iff.1 ho).2
      simpa using this
    rw [e] at hq
    have hwant : Region.wanted o (yielded ops a.tmps) = true := by simp [Region.wanted, T.g t o ho]
    rw [List.range'_succ, wpOps_cons]
    refine wpOp_step ho fun K' hK => ?_
    rw [if_pos hwant]
    exact Oper.wp_mono (fun a' w' h => hK _ _ (ih (t + 1) a' w' (by omega) (by omega) h)) hq
theorem line_tail {n k : Nat} {draw : Bool} (T : TextT md draw ops n k) (hn : n ≤ a0.tmps.size) (steps : ∀ i, i < k → StepOk P md ops Q F a0 w0 i) (fr : List (Nat × Nat)) (hfr : ∀ p ∈ fr, p.1 < k ∧ writes ops p.1 p.2 = true ∧ FreshG P md ops Q F a0 w0 p.1) (hnd : ∀ p ∈ fr, ∀ p' ∈ fr, p ≠ p' → p.1 ≠ p'.1)
    (fin : HeadDone P ops Q F a0 w0 k fr) :
    ∀ (m i : Nat) (listed : Array Bool) (a : Act) (w : World), i + m = ops.size → i ≤ k → Based ops a0 a → Below w0.heap.size w0 w → (∀ j o d, j < i → ops[j]? = some o → o.dst = some d → (F j).p (a.tmps.getD d undef) w) → listed.size = ops.size → (∀ j, j < i → listed.getD j false = true) → SepL fr listed a w →
      wpOps P ops Q (List.range' i m) a w := by
  intro m
  induction m with
  | zero =>
    intro i listed a w him hik hb hw hf hs hl S
    obtain rfl : i = k := by have := T.k1; omega
    exact tail_line T 0 i a w (by omega) (Nat.le_refl _) (fin a w hb hw hf (fun p hp p' hp' hne => S.n p hp p' hp' hne (hl p.1 (hfr p hp).1) (hl p'.1 (hfr p' hp').1)))
  | succ m ih =>
    intro i listed a w him hik hb hw hf hs hl S
    have hlt : i < ops.size := by omega
    obtain ⟨o, ho⟩ : ∃ o, ops[i]? = some o := ⟨ops[i], by simp [hlt]⟩
    rcases Nat.lt_or_ge i k with h1 | h1
    · have hwant : Region.wanted o (yielded ops a.tmps) = true := by simp [Region.wanted, T.g i o ho]
      rw [List.range'_succ, wpOps_cons]
      refine wpOp_step ho fun K' hK => ?_
      rw [if_pos hwant]
      have hfacts : ∀ j d, waits md ops i j d = true → (F j).p (a.tmps.getD d undef) w := by
        intro j d hjd
        unfold waits at hjd
        rw [ho] at hjd
        cases hoj : ops[j]? with
        | none => rw [hoj] at hjd; simp at hjd
        | some oj =>
          rw [hoj] at hjd
          simp only [Bool.and_eq_true, beq_iff_eq] at hjd
          obtain ⟨e, he, hb⟩ := Array.any_eq_true'.1 hjd.1
          simp only [Bool.and_eq_true, beq_iff_eq] at hb
          exact hf j oj d (by rw [← hb.2]; exact T.a i o ho e he hb.1) hoj hjd.2
      have go : ∀ v w', Below w.heap.size w w' → (F i).p v w' → SepL fr (listed.setIfInBounds i true) (a.put o.dst v) w' → K' (a.put o.dst v) w' := by
        intro v w' hw' hfv hS
        refine hK _ _ (ih (i + 1) (listed.setIfInBounds i true) _ _ (by omega) (by omega) ⟨by rw [put_defers]; exact hb.1, by rw [put_size]; exact hb.2.1, fun d hd => ?_⟩ (nxt hw hw') ?_ (by simp [hs]) (fun j hj => ?_) hS)
        · rw [put_off]
          · exact hb.2.2 d hd
          · have q := Array.all_eq_true_iff_forall_mem.1 hd o (Array.mem_of_getElem? ho)
            simpa using q
        · intro j oj d hj hoj hd
          by_cases e : i = j
          · subst e
            obtain rfl := Option.some.inj (ho.symm.trans hoj)
            rw [hd, put_at (Nat.lt_of_lt_of_le (T.d i o d ho hd) (hb.2.1 ▸ hn))]
            exact hfv
          · rw [put_off (T.x j i oj o d hoj ho (Ne.symm e) hd)]
            exact (F j).up hw' (hf j oj d (by omega) hoj hd)
        · by_cases c : i = j
          · subst c
            exact getD_same (by rw [hs]; exact hlt) _
          · rw [getD_off c]
            exact hl j (by omega)
      by_cases c : ∃ p ∈ fr, i = p.1
      · obtain ⟨p, hp, rfl⟩ := c
        obtain ⟨_, hw', f⟩ := hfr p hp
        obtain ⟨op, hop, hdp⟩ := writes_is hw'
        obtain rfl := Option.some.inj (hop.symm.trans ho)
        refine f op ho a w hb hw hfacts K' fun v w' hw' hf' hv => go v w' hw' hf' ?_
        rw [hdp]
        refine S.this (i := p.1) (d := p.2) (fun p' hp' hne => ?_) (by rw [hb.2.1]; exact Nat.lt_of_lt_of_le (T.d p.1 op p.2 hop hdp) hn) hv
        have n1 := hnd p hp p' hp' (Ne.symm hne)
        obtain ⟨o', ho', hd'⟩ := writes_is (hfr p' hp').2.1
        exact ⟨n1, fun e => T.x p.1 p'.1 op o' p.2 hop ho' n1 hdp (by rw [e]; exact hd')⟩
      · refine steps i h1 o ho a w hb hw hfacts K' fun v w' hw' hf' => go v w' hw' hf' ?_
        refine S.other (fun p hp e => c ⟨p, hp, e⟩) (fun p hp e => ?_) hw'.size
        obtain ⟨o', ho', hd'⟩ := writes_is (hfr p hp).2.1
        exact T.x i p.1 o o' p.2 ho ho' (fun x => c ⟨p, hp, x⟩) e hd'
    · obtain rfl : i = k := by omega
      exact tail_line T (m + 1) i a w him (Nat.le_refl _) (fin a w hb hw hf (fun p hp p' hp' hne => S.n p hp p' hp' hne (hl p.1 (hfr p hp).1) (hl p'.1 (hfr p' hp').1)))
theorem region_tail {id : Nat} {w : World} {draw : Bool} (k : Nat) (F : Nat → Fact) (hm : P.follows .mixedOrders = true) (hT : textTail .any draw ops a0.tmps.size k = true) (steps : ∀ i, i < k → StepOk P .any ops Q F a0 w i)
    (fr : List (Nat × Nat)) (hfr : ∀ p ∈ fr, p.1 < k ∧ writes ops p.1 p.2 = true ∧ FreshG P .any ops Q F a0 w p.1) (hnd : ∀ p ∈ fr, ∀ p' ∈ fr, p ≠ p' → p.1 ≠ p'.1)
    (fin : ∀ a w', Based ops a0 a → Below w.heap.size w w' → (∀ i d, decide (i < k) = true → writes ops i d = true → (F i).p (a.tmps.getD d undef) w') → (∀ p ∈ fr, ∀ p' ∈ fr, p ≠ p' → blkOf (a.tmps.getD p.2 undef) ≠ blkOf (a.tmps.getD p'.2 undef)) → tailWp P Q (ops.toList.drop k) a w') : (Code.region id ops draw).wp P Q a0 w := by
  have T := textT_of hT
  have fin' : HeadDone P ops Q F a0 w k fr := fun a w' hb hw hf hne => fin a w' hb hw (fun i d hi hd => by
    obtain ⟨o, ho, hd'⟩ := writes_is hd
    exact hf i o d (of_decide_eq_true hi) ho hd') hne
  have z : ∀ j, (Array.replicate ops.size false).getD j false = false := fun j => by
    rw [Array.getD_eq_getD_getElem?, Array.getElem?_replicate]
    split <;> rfl
  have S0 : ∀ w', SepL fr (Array.replicate ops.size false) a0 w' := fun w' => ⟨fun p hp g => by rw [z] at g; simp at g, fun p hp p' hp' hne g g' => by rw [z] at g; simp at g⟩
  cases draw with
  | false =>
    refine wp_region ?_
    have h := line_tail (w0 := w) T (Nat.le_refl _) steps fr hfr hnd fin' ops.size 0 (Array.replicate ops.size false) a0 w (by omega) (by omega) ⟨rfl, rfl, fun _ _ => rfl⟩ (Below.refl _ _) (fun j o d hj => by omega) (by simp) (fun j hj => by omega) (S0 w)
    rw [List.range_eq_range']
    exact h
  | true =>
    refine wp_region_any hm ?_
    refine any_tail (w0 := w) T (Nat.le_refl _) steps fr hfr hnd fin' ops.size _ a0 _ ?_ ⟨⟨rfl, rfl, fun _ _ => rfl⟩, (Below.refl _ _).drew, ?_, ?_, by simp⟩ (S0 _) (fun j _ => z j) (by omega)
    · have : ∀ m, left (Array.replicate ops.size false) m ≤ m := by
        intro m
        induction m with
        | zero => exact Nat.le_refl _
        | succ m ih => unfold left; split <;> omega
      exact this _
    · intro i o d ho hl _
      rw [z] at hl
      simp at hl
    · intro i o ho hl
      rw [z] at hl
      simp at hl
theorem puts_tail {n k : Nat} {draw : Bool} (hT : textTail md draw ops n k = true) (hn : n = a0.tmps.size) {a : Act} (hb : Based ops a0 a) (vs : Nat → Value) (hv : ∀ d, a.tmps.getD d undef = vs d) : a = puts vs a0 ops.toList := by
  have T := textT_of hT
  have hin : ∀ o ∈ ops.toList, ∀ e, o.dst = some e → e < a0.tmps.size := fun o ho e he => by
    obtain ⟨i, hi⟩ := List.getElem?_of_mem ho
    have := T.d i o e (by simpa using hi) he
    rw [hn] at this
    exact this
  obtain ⟨s1, s2⟩ := puts_size vs ops.toList a0
  obtain ⟨ta, da⟩ := a
  obtain ⟨h1, h2, h3⟩ := hb
  have e1 : ta = (puts vs a0 ops.toList).tmps := by
    apply Array.ext
    · rw [s1]; exact h2
    · intro i hi hi'
      have g := puts_get vs i ops.toList a0 hin
      have l : ta[i] = ta.getD i undef := by simp [Array.getD_eq_getD_getElem?, hi]
      have r : (puts vs a0 ops.toList).tmps[i] = (puts vs a0 ops.toList).tmps.getD i undef := by simp only [Array.getD_eq_getD_getElem?, Array.getElem?_eq_getElem hi', Option.getD_some]
      rw [l, r, g]
      by_cases c : ops.toList.any (fun o => o.dst == some i) = true
      · rw [if_pos c]; exact hv i
      · rw [if_neg c]
        refine h3 i ?_
        unfold apart
        rw [Array.all_eq_true_iff_forall_mem]
        intro o ho
        have hne : ¬ (o.dst == some i) = true := fun x => c (List.any_eq_true.2 ⟨o, by simpa using ho, x⟩)
        simpa using hne
  have e2 : da = (puts vs a0 ops.toList).defers := h1.trans s2.symm
  subst e1
  subst e2
  rfl
theorem Based.put {a : Act} (hb : Based ops a0 a) {o : Oper} {i : Nat} (ho : ops[i]? = some o) (v : Value) : Based ops a0 (a.put o.dst v) := by
  refine ⟨by rw [put_defers]; exact hb.1, by rw [put_size]; exact hb.2.1, fun d hd => ?_⟩
  rw [put_off]
  · exact hb.2.2 d hd
  · have q := Array.all_eq_true_iff_forall_mem.1 hd o (Array.mem_of_getElem? ho)
    simpa using q
end
end Go.Proofs.YtkglcainhkbgbaaGreatDoor
namespace Go.Proofs.YtkglcainhkbgbaaGreatDoor
set_option maxRecDepth 100000
open Go.RowKit
set_option maxHeartbeats 4000000 in
theorem eqElem (a0 a1 a2 a3 a4 b0 b1 b2 b3 b4 : Int) (w : World) :
    (Op.equalIn 10000 80 (.agg #[.int .u64 a0, .int .u64 a1, .int .u64 a2, .int .u64 a3, .int .u64 a4]) (.agg #[.int .u64 b0, .int .u64 b1, .int .u64 b2, .int .u64 b3, .int .u64 b4])).run Tryz.prog w = .ok (a0 == b0 && a1 == b1 && a2 == b2 && a3 == b3 && a4 == b4) w := by
  have u3 := Tryz.underlying39
  have a3' := Tryz.isAgg39
  have z3 := Tryz.sizeOf39
  rw [show (10000 : Nat) = 9999 + 1 from rfl, Op.equalIn]
  simp only [Sem.run_bind, run_underlying Tryz.underlying80, Result.andThen_ok]
  simp only [Std.Legacy.Range.forIn_eq_forIn_range', Std.Legacy.Range.size, Nat.sub_zero, Nat.add_sub_cancel, Nat.div_one, List.range'_succ, List.range'_zero, List.forIn_cons, List.forIn_nil]
  go_simp
  by_cases h0 : a0 = b0 <;> by_cases h1 : a1 = b1 <;> by_cases h2 : a2 = b2 <;> by_cases h3 : a3 = b3 <;> by_cases h4 : a4 = b4 <;> simp [h0, h1, h2, h3, h4]
theorem eq_Lm {U V : Nat → Int} (hU : Lm U) (hV : Lm V) : (U 0 == V 0 && U 1 == V 1 && U 2 == V 2 && U 3 == V 3 && U 4 == V 4) = decide (sv U 5 = sv V 5) := by
  by_cases h : sv U 5 = sv V 5
  · have e := hU.uniq hV h
    rw [e 0 (by omega), e 1 (by omega), e 2 (by omega), e 3 (by omega), e 4 (by omega)]
    simp [h]
  · rw [decide_eq_false h]
    cases hq : (U 0 == V 0 && U 1 == V 1 && U 2 == V 2 && U 3 == V 3 && U 4 == V 4)
    · rfl
    · exfalso
      simp only [Bool.and_eq_true, beq_iff_eq] at hq
      exact h (by simp only [sv]; rw [hq.1.1.1.1, hq.1.1.1.2, hq.1.1.2, hq.1.2, hq.2])
end Go.Proofs.YtkglcainhkbgbaaGreatDoor
namespace Go.Proofs.YtkglcainhkbgbaaGreatDoor
set_option maxRecDepth 100000
open Go.RowKit
def Has5 (w : World) (g : Nat) (f : Nat → Int) : Prop := ∀ k, k < 5 → w.cell? ⟨g, k, none⟩ = some (.int .u64 (f k))
theorem Has5.lt {w : World} {g : Nat} {f : Nat → Int} (h : Has5 w g f) : g < w.heap.size := block_lt_of_cell (h 0 (by omega))
theorem Has5.up {w w' : World} {g : Nat} {f : Nat → Int} (h : Has5 w g f) (n : Below w.heap.size w w') : Has5 w' g f := fun k hk => (World.cell?_of_block (a := ⟨g, k, none⟩) (n.block g h.lt)).trans (h k hk)
def iL : Nat → Int
  | 0 => 1718705420411056
  | 1 => 234908883556509
  | 2 => 2233514472574048
  | 3 => 2117202627021982
  | 4 => 765476049583133
  | _ => 0
theorem iL_lm : Lm iL := by unfold Lm; decide
theorem iL_val : sv iL 5 = iM := by decide +kernel
def HasR (w : World) : Prop := HasSt w 13 ∧ Has3 w 11 12 2 2 ∧ Has5 w 12 iL ∧ HasTw w 9
theorem HasR.up {w w' : World} (h : HasR w) (n : Below w.heap.size w w') : HasR w' := ⟨h.1.up n, h.2.1.up n, h.2.2.1.up n, h.2.2.2.up n⟩
theorem eRt_ok : exL.getD 12 0 * 2 ^ 2 + exL.getD 2 0 = eRt := by decide +kernel
def z5e (_ : Nat) : Int := 0
theorem z5e_lm : Lm z5e := fun j _ => by unfold z5e; omega
theorem z5e_val : sv z5e 5 = 0 := by simp [sv, z5e]
set_option maxHeartbeats 4000000 in
theorem negate_any (w : World) (e : Nat → Int) (he : Lm e) (hT : HasTw w 9) :
    Calls Tryz.prog 109 #[ag5 e] w fun r w' => ∃ t, r = .returned (ag5 t) ∧ Lm t ∧ sv t 5 = (0 - sv e 5) % PP ∧ Below w.heap.size w w' := by
  have n0 : Below w.heap.size w (w.alloc (.cells #[.int .u64 (e 0), .int .u64 (e 1), .int .u64 (e 2), .int .u64 (e 3), .int .u64 (e 4)] 80)) := (Below.refl _ _).alloc (Nat.le_refl _) _
  have n1 : Below w.heap.size w ((w.alloc (.cells #[.int .u64 (e 0), .int .u64 (e 1), .int .u64 (e 2), .int .u64 (e 3), .int .u64 (e 4)] 80)).alloc (.cells #[.int .u64 0, .int .u64 0, .int .u64 0, .int .u64 0, .int .u64 0] 80)) := n0.alloc (by simp) _
  have B1 : Blk ((w.alloc (.cells #[.int .u64 (e 0), .int .u64 (e 1), .int .u64 (e 2), .int .u64 (e 3), .int .u64 (e 4)] 80)).alloc (.cells #[.int .u64 0, .int .u64 0, .int .u64 0, .int .u64 0, .int .u64 0] 80)) (w.heap.size + 1) .u64 [0, 0, 0, 0, 0] := by
    have := blk_box (w.alloc (.cells #[.int .u64 (e 0), .int .u64 (e 1), .int .u64 (e 2), .int .u64 (e 3), .int .u64 (e 4)] 80)) .u64 80 0 0 0 0 0
    simpa using this
  have SU := fun W (h : Below w.heap.size w W) => subE_any W z5e e z5e_lm he (hT.up h)
  rw [z5e_val] at SU
  simp only [ag5, z5e] at SU ⊢
  clear hT
  go_enter Tryz.func109, Tryz.ntmps109
  go_wp2_with fail
  refine (SU _ n1).mono ?_
  rintro r w2 ⟨t, rfl, L, V, n2⟩
  have N2 := nxt n1 n2
  obtain ⟨⟨p0, p1, p2, p3, p4⟩, ⟨g0, g1, g2, g3, g4⟩⟩ := (B1.up n2).f5
  have V' := hide V
  clear SU n0 n1 n2 B1 V
  go_wp2
  exact bodyPost_ret (v := ag5 t) (by simp [ag5, results, Tryz.results109, go_sem, p0, p1, p2, p3, p4]) rfl ⟨t, rfl, L, V'.out, below_set5 N2 (by omega) _ _ _ _ _⟩
theorem and1u (x : Int) (h0 : 0 ≤ x) (h1 : x < 18446744073709551616) : bits BinOp.and IntKind.u64 x 1 = x % 2 := by
  obtain ⟨m, rfl⟩ := Int.eq_ofNat_of_zero_le h0
  have h := bits_and_u64_nat m 1 (by omega) (by omega)
  have e : m &&& 1 = m % 2 := Nat.and_two_pow_sub_one_eq_mod m 1
  rw [e] at h
  simpa using h
theorem even_lm {e : Nat → Int} : (sv e 5) % 2 = e 0 % 2 := by
  simp only [sv]
  omega
set_option maxHeartbeats 2000000 in
theorem isEven_any (w : World) (e : Nat → Int) (he : Lm e) :
    Calls Tryz.prog 86 #[ag5 e] w fun r w' => r = .returned (.bool (decide (sv e 5 % 2 = 0))) ∧ Below w.heap.size w w' := by
  have h0 := he 0 (by omega)
  have a1 := and1u (e 0) h0.1 (by omega)
  have K : Hid ((e 0 % 2 == 0) = decide (sv e 5 % 2 = 0)) := by
    show _ = _
    rw [even_lm]
    by_cases h : e 0 % 2 = 0 <;> simp [h]
  have hal : Below w.heap.size w (w.alloc (.cells #[.int .u64 (e 0), .int .u64 (e 1), .int .u64 (e 2), .int .u64 (e 3), .int .u64 (e 4)] 80)) := (Below.refl _ _).alloc (Nat.le_refl _) _
  simp only [ag5]
  go_enter Tryz.func86, Tryz.ntmps86
  go_wp2
  go_ret
  exact ⟨by rw [← K.out]; rfl, hal⟩
end Go.Proofs.YtkglcainhkbgbaaGreatDoor
namespace Go.Proofs.YtkglcainhkbgbaaGreatDoor
set_option maxRecDepth 100000
open Go Go.RowKit
def TB (As : List Int) (b : Bool) : Fact := ⟨fun v _ => ∃ es, v = .tuple #[agN es, .bool b] ∧ IsN es As, fun _ h => h⟩
section
variable {ops : Array Oper} {Q : Exit → Act → World → Prop} {md : Region.Mode} {F : Nat → Fact} {a0 : Act} {w0 : World} {i : Nat} {o : Oper} {ts : Array TypeId}
theorem step_gl5 (hi : ops[i]? = some o) (g : Nat) (hop : o.op = .load 80 (.global g)) (A : Int) (hE : Em5 w0 g 0 A) (hF : F i = EM A) : StepOk Tryz.prog md ops Q F a0 w0 i := by
  refine step_load hi _ _ hop _ 5 u5 rfl i5 fun a w hb hw _ => ?_
  obtain ⟨t, r, _, h⟩ := hE.up hw
  exact ⟨g, 0, _, rfl, r, rfl, by rw [hF]; exact ⟨t, rfl, h⟩⟩
theorem step_glA (hi : ops[i]? = some o) (g : Nat) (hop : o.op = .load 82 (.global g)) (A B : Int) (hE : RowN w0 g 0 [A, B]) (hF : F i = EN [A, B]) : StepOk Tryz.prog md ops Q F a0 w0 i := by
  obtain ⟨fs, hu⟩ := uA
  refine step_load hi _ _ hop _ 10 hu rfl iA fun a w hb hw _ => ?_
  obtain ⟨t, r, _, h⟩ := hE.up hw
  exact ⟨g, 0, _, rfl, r, clN_len h, by rw [hF]; exact ⟨t, rfl, h⟩⟩
theorem step_lA (hi : ops[i]? = some o) (p : Nat) (hop : o.op = .load 82 (.tmp p)) (hp : apart ops p = true) (q : Nat) (h0 : a0.tmps.getD p undef = .pointer (some ⟨q, 0, none⟩)) (A B : Int) (hE : RowN w0 q 0 [A, B]) (hF : F i = EN [A, B]) : StepOk Tryz.prog md ops Q F a0 w0 i := by
  obtain ⟨fs, hu⟩ := uA
  exact step_en _ _ 10 hu rfl iA hi p hop hp q 0 h0 _ rfl hE hF
theorem step_lJf (hi : ops[i]? = some o) (p j : Nat) (hop : o.op = .load 144 (.tmp p)) (hj : waits md ops i j p = true) (q : Nat) (hFj : F j = Fact.eq (.pointer (some ⟨q, 0, none⟩))) (A B C : Int) (hE : RowN w0 q 0 [A, B, C]) (hF : F i = EN [A, B, C]) : StepOk Tryz.prog md ops Q F a0 w0 i := by
  obtain ⟨fs, hu⟩ := uJ
  exact step_enf _ _ 15 hu rfl iJ hi p j hop hj q 0 hFj _ rfl hE hF
theorem step_ngl (hT : HasTw w0 9) (hi : ops[i]? = some o) (p j : Nat) (A : Int) (hop : o.op = .call { callee := .value (.func 109), args := #[.tmp p], argTypes := ts })
    (hj : waits md ops i j p = true) (hFj : F j = EM A) (hFi : F i = EM (0 - A)) : StepOk Tryz.prog md ops Q F a0 w0 i :=
  step_one5 hi _ p hop (by kernel_rfl) (fun a => 0 - a) (fun w a hw ha => negate_any w a ha.1 (hT.up hw)) (fun _ _ h => mod_sub rfl h) j A hj hFj hFi
theorem step_tx0 {P : Program} (hi : ops[i]? = some o) (p j : Nat) (As : List Int) (b : Bool) (hop : o.op = .extract (.tmp p) 0) (hj : waits md ops i j p = true) (hFj : F j = TB As b) (hFi : F i = EN As) : StepOk P md ops Q F a0 w0 i := by
  refine step_pure hi fun a w _ _ hf => ?_
  have e := hf j p hj
  rw [hFj] at e
  obtain ⟨t, e, L⟩ := e
  have e' : a.eval (.tmp p) = .tuple #[agN t, .bool b] := e
  refine ⟨agN t, ?_, by rw [hFi]; exact ⟨t, rfl, L⟩⟩
  simp only [execOp, hop, e']
  rfl
theorem step_tx1 {P : Program} (hi : ops[i]? = some o) (p j : Nat) (As : List Int) (b : Bool) (hop : o.op = .extract (.tmp p) 1) (hj : waits md ops i j p = true) (hFj : F j = TB As b) (hFi : F i = Fact.eq (.bool b)) : StepOk P md ops Q F a0 w0 i := by
  refine step_pure hi fun a w _ _ hf => ⟨.bool b, ?_, by rw [hFi]; exact rfl⟩
  have e := hf j p hj
  rw [hFj] at e
  obtain ⟨t, e, L⟩ := e
  have e' : a.eval (.tmp p) = .tuple #[agN t, .bool b] := e
  simp only [execOp, hop, e']
  rfl
theorem fresh_newN (ty : TypeId) (n : Nat) (cs : List Value) (hz : ∀ (a : Act) (w : World), (execOp a.eval o).run Tryz.prog w = .ok (.value (.pointer (some ⟨w.heap.size, 0, none⟩))) (w.alloc (.cells cs.toArray ty))) (hn : cs.length = n) (h0 : 0 < n) (hi : ops[i]? = some o) (hF : F i = NB w0 n) : FreshOk Tryz.prog md ops Q F a0 w0 i := by
  refine fresh_grow hi (.cells cs.toArray ty) fun a w hw => ⟨hz a w, ?_⟩
  rw [hF]
  exact ⟨h0, _, rfl, by rw [← hn]; exact there_new w cs ty, hw.size⟩
theorem fresh_newA (hi : ops[i]? = some o) (hop : o.op = .alloc 82) (hF : F i = NB w0 10) : FreshOk Tryz.prog md ops Q F a0 w0 i :=
  fresh_newN 82 10 (clN [sm5 0, sm5 0]) (fun a w => by
    simp only [execOp, hop]
    kernel_rfl) rfl (by omega) hi hF
theorem fresh_newX (hi : ops[i]? = some o) (hop : o.op = .alloc 146) (hF : F i = NB w0 20) : FreshOk Tryz.prog md ops Q F a0 w0 i :=
  fresh_newN 146 20 (clN [sm5 0, sm5 0, sm5 0, sm5 0]) (fun a w => by
    simp only [execOp, hop]
    kernel_rfl) rfl (by omega) hi hF
theorem step_b0A (hi : ops[i]? = some o) (hop : o.op = .build 82 #[]) (hF : F i = EN [0, 0]) : StepOk Tryz.prog md ops Q F a0 w0 i := by
  refine step_pure hi fun a w _ _ _ => ⟨agN [sm5 0, sm5 0], ?_, by rw [hF]; exact ⟨_, rfl, sm5_ok (by omega) (by omega), sm5_ok (by omega) (by omega), trivial⟩⟩
  simp only [execOp, hop]
  kernel_rfl
theorem step_newA (hi : ops[i]? = some o) (hop : o.op = .alloc 82) (hF : F i = NB w0 10) : StepOk Tryz.prog md ops Q F a0 w0 i := (fresh_newA hi hop hF).step
theorem step_newX (hi : ops[i]? = some o) (hop : o.op = .alloc 146) (hF : F i = NB w0 20) : StepOk Tryz.prog md ops Q F a0 w0 i := (fresh_newX hi hop hF).step
end
section
variable {ops : Array Oper} {Q : Exit → Act → World → Prop} {a0 : Act} {w : World} {id : Nat} {draw : Bool}
theorem wp_assign {P : Program} {o : Oper} {a : Act} {W : World} {K : Act → World → Prop} (p : Nat) {v : Value} (hop : o.op = .assign (.tmp p)) (e : a.tmps.getD p undef = v) (hK : K (a.put o.dst v) W) : o.wp P a W K Q := by
  have e' : a.eval (.tmp p) = v := e
  have hr : (execOp a.eval o).run P W = .ok (.value v) W := by simp [execOp, hop, e']
  unfold Oper.wp
  rw [hr]
  exact hK
theorem region_putN_asg (ty : TypeId) (k jV pD pV jB pB dB : Nat) (o1 o2 : Oper) (F : Nat → Fact) (As : List Int) (b : Value) (q : Nat) (hT : textTail .any draw ops a0.tmps.size k = true) (hdrop : ops.toList.drop k = [o1, o2]) (hk2 : ops[k + 1]? = some o2) (hd1 : o1.dst = none) (hd2 : o2.dst = some dB)
    (hop1 : o1.op = .store ty (.tmp pD) (.tmp pV)) (hop2 : o2.op = .assign (.tmp pB)) (hs : (Tryz.prog.info? ty).map (·.size) = some (5 * As.length)) (ha : 0 < As.length)
    (hp : apart ops pD = true) (h0 : a0.tmps.getD pD undef = .pointer (some ⟨q, 0, none⟩)) (ht : w.there q 0 (5 * As.length)) (qV : decide (jV < k) = true) (qB : decide (jB < k) = true) (wV : writes ops jV pV = true) (wB : writes ops jB pB = true) (FV : F jV = EN As) (FB : F jB = Fact.eq b) (hz : decide (dB < a0.tmps.size) = true) (steps : ∀ i, i < k → StepOk Tryz.prog .any ops Q F a0 w i)
    (fin : ∀ (vs : Nat → Value) (W W' : World), vs dB = b → Below w.heap.size w W → ButQ q w W' → RowN W' q 0 As → (∀ (w1 : World) (B : Nat), Below B w1 W → B ≤ q → Below B w1 W') → Q .normal (puts vs a0 ops.toList) W') :
    (Code.region id ops draw).wp Tryz.prog Q a0 w := by
  refine region_tail k F (by kernel_rfl) hT steps [] (fun p hp => by cases hp) (fun p hp => by cases hp) fun a W hb hw hF _ => ?_
  have h2 := hF jV pV qV wV
  have h3 := hF jB pB qB wB
  rw [FV] at h2
  rw [FB] at h3
  obtain ⟨es, ev, V⟩ := h2
  have th := there_up (by omega) ht hw
  rw [hdrop]
  show o1.wp _ a W (fun a' w' => o2.wp _ a' w' (fun a'' w'' => Q .normal a'' w'') Q) Q
  refine wp_store_mid ty (.tmp pD) (.tmp pV) hop1 q 0 (clN es).toArray ((based_at hb pD hp).trans h0) ev (by show W.there q 0 (clN es).length; rw [clN_len V]; exact th) (by show _ = some (clN es).length; rw [clN_len V]; exact hs) (clN_one es) ?_
  rw [hd1]
  show o2.wp _ a _ _ _
  refine wp_assign pB hop2 h3 ?_
  rw [hd2]
  have hb2 : Based ops a0 (a.put (some dB) b) := by rw [← hd2]; exact hb.put hk2 b
  obtain ⟨vs, hvs⟩ : ∃ vs : Nat → Value, ∀ d, (a.put (some dB) b).tmps.getD d undef = vs d := ⟨_, fun _ => rfl⟩
  rw [puts_tail hT rfl hb2 vs hvs]
  refine fin vs W _ ?_ hw (but_set hw _) (set_rowN th ha V) (fun w1 B n hB => below_setCells hB _ _ _ n)
  rw [← hvs, put_at (by rw [hb.2.1]; exact of_decide_eq_true hz)]
theorem wp_assignc {P : Program} {o : Oper} {a : Act} {W : World} {K : Act → World → Prop} {v : Value} (hop : o.op = .assign (.const v)) (hK : K (a.put o.dst v) W) : o.wp P a W K Q := by
  have hr : (execOp a.eval o).run P W = .ok (.value v) W := by simp [execOp, hop, Act.eval]
  unfold Oper.wp
  rw [hr]
  exact hK
theorem region_putN_asgc (ty : TypeId) (k jV pD pV dB : Nat) (o1 o2 : Oper) (F : Nat → Fact) (As : List Int) (b : Value) (q : Nat) (hT : textTail .any draw ops a0.tmps.size k = true) (hdrop : ops.toList.drop k = [o1, o2]) (hk2 : ops[k + 1]? = some o2) (hd1 : o1.dst = none) (hd2 : o2.dst = some dB)
    (hop1 : o1.op = .store ty (.tmp pD) (.tmp pV)) (hop2 : o2.op = .assign (.const b)) (hs : (Tryz.prog.info? ty).map (·.size) = some (5 * As.length)) (ha : 0 < As.length)
    (hp : apart ops pD = true) (h0 : a0.tmps.getD pD undef = .pointer (some ⟨q, 0, none⟩)) (ht : w.there q 0 (5 * As.length)) (qV : decide (jV < k) = true) (wV : writes ops jV pV = true) (FV : F jV = EN As) (hz : decide (dB < a0.tmps.size) = true) (steps : ∀ i, i < k → StepOk Tryz.prog .any ops Q F a0 w i)
    (fin : ∀ (vs : Nat → Value) (W W' : World), vs dB = b → Below w.heap.size w W → ButQ q w W' → RowN W' q 0 As → (∀ (w1 : World) (B : Nat), Below B w1 W → B ≤ q → Below B w1 W') → Q .normal (puts vs a0 ops.toList) W') :
    (Code.region id ops draw).wp Tryz.prog Q a0 w := by
  refine region_tail k F (by kernel_rfl) hT steps [] (fun p hp => by cases hp) (fun p hp => by cases hp) fun a W hb hw hF _ => ?_
  have h2 := hF jV pV qV wV
  rw [FV] at h2
  obtain ⟨es, ev, V⟩ := h2
  have th := there_up (by omega) ht hw
  rw [hdrop]
  show o1.wp _ a W (fun a' w' => o2.wp _ a' w' (fun a'' w'' => Q .normal a'' w'') Q) Q
  refine wp_store_mid ty (.tmp pD) (.tmp pV) hop1 q 0 (clN es).toArray ((based_at hb pD hp).trans h0) ev (by show W.there q 0 (clN es).length; rw [clN_len V]; exact th) (by show _ = some (clN es).length; rw [clN_len V]; exact hs) (clN_one es) ?_
  rw [hd1]
  show o2.wp _ a _ _ _
  refine wp_assignc hop2 ?_
  rw [hd2]
  have hb2 : Based ops a0 (a.put (some dB) b) := by rw [← hd2]; exact hb.put hk2 b
  obtain ⟨vs, hvs⟩ : ∃ vs : Nat → Value, ∀ d, (a.put (some dB) b).tmps.getD d undef = vs d := ⟨_, fun _ => rfl⟩
  rw [puts_tail hT rfl hb2 vs hvs]
  refine fin vs W _ ?_ hw (but_set hw _) (set_rowN th ha V) (fun w1 B n hB => below_setCells hB _ _ _ n)
  rw [← hvs, put_at (by rw [hb.2.1]; exact of_decide_eq_true hz)]
theorem region_new2 (k jA jV pA pV jB jU pB pU : Nat) (o1 o2 : Oper) (F : Nat → Fact) (A B : Int) (hT : textTail .any draw ops a0.tmps.size k = true) (hdrop : ops.toList.drop k = [o1, o2]) (hd1 : o1.dst = none) (hd2 : o2.dst = none)
    (hop1 : o1.op = .store 80 (.tmp pA) (.tmp pV)) (hop2 : o2.op = .store 80 (.tmp pB) (.tmp pU))
    (qA : decide (jA < k) = true) (qV : decide (jV < k) = true) (qB : decide (jB < k) = true) (qU : decide (jU < k) = true) (wA : writes ops jA pA = true) (wV : writes ops jV pV = true) (wB : writes ops jB pB = true) (wU : writes ops jU pU = true) (FA : F jA = NB w 5) (FV : F jV = EM A) (FB : F jB = NB w 5) (FU : F jU = EM B)
    (hne : jA ≠ jB) (fA : FreshOk Tryz.prog .any ops Q F a0 w jA) (fB : FreshOk Tryz.prog .any ops Q F a0 w jB) (steps : ∀ i, i < k → StepOk Tryz.prog .any ops Q F a0 w i)
    (fin : ∀ (vs : Nat → Value) (q q' : Nat) (W : World), vs pA = .pointer (some ⟨q, 0, none⟩) → vs pB = .pointer (some ⟨q', 0, none⟩) → w.heap.size ≤ q → w.heap.size ≤ q' → q ≠ q' → Below w.heap.size w W → Em5 W q 0 A → Em5 W q' 0 B → Q .normal (puts vs a0 ops.toList) W) :
    (Code.region id ops draw).wp Tryz.prog Q a0 w := by
  refine region_tail k F (by kernel_rfl) hT steps [(jA, pA), (jB, pB)] (fun p hp => ?_) (fun p hp p' hp' hn => ?_) fun a W hb hw hF hS => ?_
  · simp only [List.mem_cons, List.not_mem_nil, or_false] at hp
    rcases hp with rfl | rfl
    · exact ⟨of_decide_eq_true qA, wA, fA.g⟩
    · exact ⟨of_decide_eq_true qB, wB, fB.g⟩
  · simp only [List.mem_cons, List.not_mem_nil, or_false] at hp hp'
    rcases hp with rfl | rfl <;> rcases hp' with rfl | rfl
    · exact absurd rfl hn
    · exact hne
    · exact hne.symm
    · exact absurd rfl hn
  have h1 := hF jA pA qA wA
  have h2 := hF jV pV qV wV
  have h3 := hF jB pB qB wB
  have h4 := hF jU pU qU wU
  rw [FA] at h1
  rw [FV] at h2
  rw [FB] at h3
  rw [FU] at h4
  obtain ⟨_, q, eq, th, hq⟩ := h1
  obtain ⟨t, ev, V⟩ := h2
  obtain ⟨_, q', eq', th', hq'⟩ := h3
  obtain ⟨u, eu, U⟩ := h4
  have hn := hS (jA, pA) (by simp) (jB, pB) (by simp) (fun e => hne (Prod.mk.inj e).1)
  simp only at hn
  rw [eq, eq'] at hn
  have hqq : q ≠ q' := fun e => hn (by rw [e])
  rw [hdrop]
  show o1.wp _ a W (fun a' w' => o2.wp _ a' w' (fun a'' w'' => Q .normal a'' w'') Q) Q
  refine wp_store_mid 80 (.tmp pA) (.tmp pV) hop1 q 0 (cl5 t).toArray eq ev th i5 (cl5_one t) ?_
  rw [hd1]
  show o2.wp _ a _ _ _
  have b1 : ButQ q W (W.setCells q 0 (cl5 t)) := but_set (Below.refl _ _) _
  have n1 := below_setCells hq (cl5 t) 0 _ hw
  refine wp_store_mid 80 (.tmp pB) (.tmp pU) hop2 q' 0 (cl5 u).toArray eq' eu (there_but (n := 5) (by decide) th' b1 (Ne.symm hqq)) i5 (cl5_one u) ?_
  obtain ⟨vs, hvs⟩ : ∃ vs : Nat → Value, ∀ d, a.tmps.getD d undef = vs d := ⟨_, fun _ => rfl⟩
  rw [hd2]
  show Q .normal a _
  rw [puts_tail hT rfl hb vs hvs]
  exact fin vs q q' _ ((hvs pA).symm.trans eq) ((hvs pB).symm.trans eq') hq hq' hqq (below_setCells hq' _ _ _ n1) ((set_em th V).but (but_set (q := q') (Below.refl _ _) _) hqq) (set_em (there_but (by decide) th' b1 (Ne.symm hqq)) U)
theorem region_new3 (k jA jV pA pV jB jU pB pU jC jX pC pX : Nat) (o1 o2 o3 : Oper) (F : Nat → Fact) (A B C : Int) (hT : textTail .any draw ops a0.tmps.size k = true) (hdrop : ops.toList.drop k = [o1, o2, o3]) (hd1 : o1.dst = none) (hd2 : o2.dst = none) (hd3 : o3.dst = none)
    (hop1 : o1.op = .store 80 (.tmp pA) (.tmp pV)) (hop2 : o2.op = .store 80 (.tmp pB) (.tmp pU)) (hop3 : o3.op = .store 80 (.tmp pC) (.tmp pX))
    (qA : decide (jA < k) = true) (qV : decide (jV < k) = true) (qB : decide (jB < k) = true) (qU : decide (jU < k) = true) (qC : decide (jC < k) = true) (qX : decide (jX < k) = true) (wA : writes ops jA pA = true) (wV : writes ops jV pV = true) (wB : writes ops jB pB = true) (wU : writes ops jU pU = true) (wC : writes ops jC pC = true) (wX : writes ops jX pX = true)
    (FA : F jA = NB w 5) (FV : F jV = EM A) (FB : F jB = NB w 5) (FU : F jU = EM B) (FC : F jC = NB w 5) (FX : F jX = EM C)
    (hAB : jA ≠ jB) (hAC : jA ≠ jC) (hBC : jB ≠ jC) (fA : FreshOk Tryz.prog .any ops Q F a0 w jA) (fB : FreshOk Tryz.prog .any ops Q F a0 w jB) (fC : FreshOk Tryz.prog .any ops Q F a0 w jC) (steps : ∀ i, i < k → StepOk Tryz.prog .any ops Q F a0 w i)
    (fin : ∀ (vs : Nat → Value) (q q' q'' : Nat) (W : World), vs pA = .pointer (some ⟨q, 0, none⟩) → vs pB = .pointer (some ⟨q', 0, none⟩) → vs pC = .pointer (some ⟨q'', 0, none⟩) → w.heap.size ≤ q → w.heap.size ≤ q' → w.heap.size ≤ q'' → Below w.heap.size w W → Em5 W q 0 A → Em5 W q' 0 B → Em5 W q'' 0 C → Q .normal (puts vs a0 ops.toList) W) :
    (Code.region id ops draw).wp Tryz.prog Q a0 w := by
  refine region_tail k F (by kernel_rfl) hT steps [(jA, pA), (jB, pB), (jC, pC)] (fun p hp => ?_) (fun p hp p' hp' hn => ?_) fun a W hb hw hF hS => ?_
  · simp only [List.mem_cons, List.not_mem_nil, or_false] at hp
    rcases hp with rfl | rfl | rfl
    · exact ⟨of_decide_eq_true qA, wA, fA.g⟩
    · exact ⟨of_decide_eq_true qB, wB, fB.g⟩
    · exact ⟨of_decide_eq_true qC, wC, fC.g⟩
  · simp only [List.mem_cons, List.not_mem_nil, or_false] at hp hp'
    rcases hp with rfl | rfl | rfl <;> rcases hp' with rfl | rfl | rfl
    · exact absurd rfl hn
    · exact hAB
    · exact hAC
    · exact hAB.symm
    · exact absurd rfl hn
    · exact hBC
    · exact hAC.symm
    · exact hBC.symm
    · exact absurd rfl hn
  have h1 := hF jA pA qA wA
  have h2 := hF jV pV qV wV
  have h3 := hF jB pB qB wB
  have h4 := hF jU pU qU wU
  have h5 := hF jC pC qC wC
  have h6 := hF jX pX qX wX
  rw [FA] at h1
  rw [FV] at h2
  rw [FB] at h3
  rw [FU] at h4
  rw [FC] at h5
  rw [FX] at h6
  obtain ⟨_, q, eq, th, hq⟩ := h1
  obtain ⟨t, ev, V⟩ := h2
  obtain ⟨_, q', eq', th', hq'⟩ := h3
  obtain ⟨u, eu, U⟩ := h4
  obtain ⟨_, q'', eq'', th'', hq''⟩ := h5
  obtain ⟨x, ex, X⟩ := h6
  have n1 := hS (jA, pA) (by simp) (jB, pB) (by simp) (fun e => hAB (Prod.mk.inj e).1)
  have n2 := hS (jA, pA) (by simp) (jC, pC) (by simp) (fun e => hAC (Prod.mk.inj e).1)
  have n3 := hS (jB, pB) (by simp) (jC, pC) (by simp) (fun e => hBC (Prod.mk.inj e).1)
  simp only at n1 n2 n3
  rw [eq, eq'] at n1
  rw [eq, eq''] at n2
  rw [eq', eq''] at n3
  have m1 : q ≠ q' := fun e => n1 (by rw [e])
  have m2 : q ≠ q'' := fun e => n2 (by rw [e])
  have m3 : q' ≠ q'' := fun e => n3 (by rw [e])
  rw [hdrop]
  show o1.wp _ a W (fun a' w' => o2.wp _ a' w' (fun a'' w'' => o3.wp _ a'' w'' (fun a3 w3 => Q .normal a3 w3) Q) Q) Q
  refine wp_store_mid 80 (.tmp pA) (.tmp pV) hop1 q 0 (cl5 t).toArray eq ev th i5 (cl5_one t) ?_
  rw [hd1]
  show o2.wp _ a _ _ _
  have b1 : ButQ q W (W.setCells q 0 (cl5 t)) := but_set (Below.refl _ _) _
  have k1 := below_setCells hq (cl5 t) 0 _ hw
  have tB := there_but (n := 5) (by decide) th' b1 (Ne.symm m1)
  have tC := there_but (n := 5) (by decide) th'' b1 (Ne.symm m2)
  have e1 := set_em th V
  show o2.wp _ a (W.setCells q 0 (cl5 t)) _ _
  generalize W.setCells q 0 (cl5 t) = W1 at *
  refine wp_store_mid 80 (.tmp pB) (.tmp pU) hop2 q' 0 (cl5 u).toArray eq' eu tB i5 (cl5_one u) ?_
  rw [hd2]
  show o3.wp _ a (W1.setCells q' 0 (cl5 u)) _ _
  have b2 : ButQ q' W1 (W1.setCells q' 0 (cl5 u)) := but_set (Below.refl _ _) _
  have k2 := below_setCells hq' (cl5 u) 0 _ k1
  have tC' := there_but (n := 5) (by decide) tC b2 (Ne.symm m3)
  have e1' := e1.but b2 m1
  have e2 := set_em tB U
  generalize W1.setCells q' 0 (cl5 u) = W2 at *
  refine wp_store_mid 80 (.tmp pC) (.tmp pX) hop3 q'' 0 (cl5 x).toArray eq'' ex tC' i5 (cl5_one x) ?_
  obtain ⟨vs, hvs⟩ : ∃ vs : Nat → Value, ∀ d, a.tmps.getD d undef = vs d := ⟨_, fun _ => rfl⟩
  rw [hd3]
  show Q .normal a (W2.setCells q'' 0 (cl5 x))
  rw [puts_tail hT rfl hb vs hvs]
  have b3 : ButQ q'' W2 (W2.setCells q'' 0 (cl5 x)) := but_set (Below.refl _ _) _
  exact fin vs q q' q'' _ ((hvs pA).symm.trans eq) ((hvs pB).symm.trans eq') ((hvs pC).symm.trans eq'') hq hq' hq'' (below_setCells hq'' _ _ _ k2) (e1'.but b3 m2) (e2.but b3 m3) (set_em tC' X)
end
end Go.Proofs.YtkglcainhkbgbaaGreatDoor
namespace Go.Proofs.YtkglcainhkbgbaaGreatDoor
set_option maxRecDepth 100000
open Go Go.RowKit
abbrev zX : Obj := .cells #[.int .u64 0, .int .u64 0, .int .u64 0, .int .u64 0, .int .u64 0, .int .u64 0, .int .u64 0, .int .u64 0, .int .u64 0, .int .u64 0, .int .u64 0, .int .u64 0, .int .u64 0, .int .u64 0, .int .u64 0, .int .u64 0, .int .u64 0, .int .u64 0, .int .u64 0, .int .u64 0] 146
abbrev zA : Obj := .cells #[.int .u64 0, .int .u64 0, .int .u64 0, .int .u64 0, .int .u64 0, .int .u64 0, .int .u64 0, .int .u64 0, .int .u64 0, .int .u64 0] 82
set_option maxHeartbeats 4000000 in
theorem fromRatios_any (w : World) (es fs : List (Nat → Int)) (A B C E : Int) (hes : IsN es [A, B]) (hfs : IsN fs [C, E]) :
    Calls Tryz.prog 104 #[agN es, agN fs] w fun r w' => ∃ ts, r = .returned (agN ts) ∧ IsN ts [A * E, C * B, B * E, A * C] ∧ Below w.heap.size w w' := by
  show Calls Tryz.prog 104 #[.agg (clN es).toArray, .agg (clN fs).toArray] w _
  have H0 := rowN_new w 171 hes
  have m0 : Below w.heap.size w (w.alloc (.cells (clN es).toArray 171)) := (Below.refl _ _).alloc (Nat.le_refl _) _
  have s0 : (w.alloc (.cells (clN es).toArray 171)).heap.size = w.heap.size + 1 := by simp
  have H1 := fun W => rowN_new W 171 hfs
  obtain ⟨V0, hV0⟩ : ∃ V, V = (clN es).toArray := ⟨_, rfl⟩
  obtain ⟨V1, hV1⟩ : ∃ V, V = (clN fs).toArray := ⟨_, rfl⟩
  rw [← hV0] at H0 m0 s0 ⊢
  simp only [← hV1] at H1 ⊢
  clear hV0 hV1 hes hfs
  go_enter Tryz.func104, Tryz.ntmps104
  go_upto_region 1 with fail
  generalize w.alloc (.cells V0 171) = wa0 at *
  have H1' := H1 wa0
  have m1 : Below wa0.heap.size wa0 (wa0.alloc (.cells V1 171)) := (Below.refl _ _).alloc (Nat.le_refl _) _
  have s1 : (wa0.alloc (.cells V1 171)).heap.size = wa0.heap.size + 1 := by simp
  rw [s0] at H1' s1
  generalize wa0.alloc (.cells V1 171) = wa1 at *
  have TR : (wa1.alloc zX).there wa1.heap.size 0 20 := there_new wa1 _ _
  have mz : Below wa1.heap.size wa1 (wa1.alloc zX) := (Below.refl _ _).alloc (Nat.le_refl _) _
  rw [s1] at TR
  have P0 := (H0.up m1).up mz
  have P1 := H1'.up mz
  have N := nxt (nxt m0 m1) mz
  clear H0 H1 H1' m0 s0 m1 s1 mz
  obtain ⟨wr, hwr⟩ : ∃ W, W = wa1.alloc zX := ⟨_, rfl⟩
  rw [← hwr] at TR N P0 P1
  change Code.wp _ _ _ _ (wa1.alloc zX)
  rw [← hwr]
  clear hwr
  refine region_putN 146 22 21 4 26 _ (fun i => [Fact.eq (.pointer (some ⟨w.heap.size, 0, none⟩)), EM (A), Fact.eq (.pointer (some ⟨w.heap.size + 1, 5, none⟩)), EM (E), EM ((A) * (E)), Fact.eq (.pointer (some ⟨w.heap.size + 1, 0, none⟩)), EM (C), Fact.eq (.pointer (some ⟨w.heap.size, 5, none⟩)), EM (B), EM ((C) * (B)), Fact.eq (.pointer (some ⟨w.heap.size, 5, none⟩)), EM (B), Fact.eq (.pointer (some ⟨w.heap.size + 1, 5, none⟩)), EM (E), EM ((B) * (E)), EN [(A) * (E), (C) * (B), (B) * (E)], Fact.eq (.pointer (some ⟨w.heap.size, 0, none⟩)), EM (A), Fact.eq (.pointer (some ⟨w.heap.size + 1, 0, none⟩)), EM (C), EM ((A) * (C)), EN [(A) * (E), (C) * (B), (B) * (E), (A) * (C)]].getD i Fact.no) [(A) * (E), (C) * (B), (B) * (E), (A) * (C)] _ (by kernel_rfl) rfl rfl rfl iX (Nat.zero_lt_succ _) (by kernel_rfl) rfl TR (by kernel_rfl) rfl ?_ ?_
  · intro i hi
    obtain rfl | rfl | rfl | rfl | rfl | rfl | rfl | rfl | rfl | rfl | rfl | rfl | rfl | rfl | rfl | rfl | rfl | rfl | rfl | rfl | rfl | rfl : i = 0 ∨ i = 1 ∨ i = 2 ∨ i = 3 ∨ i = 4 ∨ i = 5 ∨ i = 6 ∨ i = 7 ∨ i = 8 ∨ i = 9 ∨ i = 10 ∨ i = 11 ∨ i = 12 ∨ i = 13 ∨ i = 14 ∨ i = 15 ∨ i = 16 ∨ i = 17 ∨ i = 18 ∨ i = 19 ∨ i = 20 ∨ i = 21 := by omega
    · exact step_fld rfl 171 2 0 rfl (by kernel_rfl) _ _ rfl (fx10 _) rfl
    · exact step_e5f rfl 5 0 rfl (by kernel_rfl) _ _ rfl _ P0.at0 rfl
    · exact step_fld rfl 171 3 1 rfl (by kernel_rfl) _ _ rfl (fy10 _) rfl
    · exact step_e5f rfl 7 2 rfl (by kernel_rfl) _ _ rfl _ P1.tail.at0 rfl
    · exact step_mul5 rfl 6 8 1 3 _ _ rfl (by kernel_rfl) (by kernel_rfl) rfl rfl rfl
    · exact step_fld rfl 171 3 0 rfl (by kernel_rfl) _ _ rfl (fx10 _) rfl
    · exact step_e5f rfl 10 5 rfl (by kernel_rfl) _ _ rfl _ P1.at0 rfl
    · exact step_fld rfl 171 2 1 rfl (by kernel_rfl) _ _ rfl (fy10 _) rfl
    · exact step_e5f rfl 12 7 rfl (by kernel_rfl) _ _ rfl _ P0.tail.at0 rfl
    · exact step_mul5 rfl 11 13 6 8 _ _ rfl (by kernel_rfl) (by kernel_rfl) rfl rfl rfl
    · exact step_fld rfl 171 2 1 rfl (by kernel_rfl) _ _ rfl (fy10 _) rfl
    · exact step_e5f rfl 15 10 rfl (by kernel_rfl) _ _ rfl _ P0.tail.at0 rfl
    · exact step_fld rfl 171 3 1 rfl (by kernel_rfl) _ _ rfl (fy10 _) rfl
    · exact step_e5f rfl 17 12 rfl (by kernel_rfl) _ _ rfl _ P1.tail.at0 rfl
    · exact step_mul5 rfl 16 18 11 13 _ _ rfl (by kernel_rfl) (by kernel_rfl) rfl rfl rfl
    · exact step_bP rfl 9 14 19 4 9 14 _ _ _ rfl (by kernel_rfl) (by kernel_rfl) (by kernel_rfl) rfl rfl rfl rfl
    · exact step_fld rfl 171 2 0 rfl (by kernel_rfl) _ _ rfl (fx10 _) rfl
    · exact step_e5f rfl 21 16 rfl (by kernel_rfl) _ _ rfl _ P0.at0 rfl
    · exact step_fld rfl 171 3 0 rfl (by kernel_rfl) _ _ rfl (fx10 _) rfl
    · exact step_e5f rfl 23 18 rfl (by kernel_rfl) _ _ rfl _ P1.at0 rfl
    · exact step_mul5 rfl 22 24 17 19 _ _ rfl (by kernel_rfl) (by kernel_rfl) rfl rfl rfl
    · exact step_bX rfl 20 25 15 20 _ _ _ _ rfl (by kernel_rfl) (by kernel_rfl) rfl rfl rfl
  intro vsL Wa Wb na bq RL nb TL
  have NS := nb w w.heap.size (nxt N na) (by omega)
  simp only [puts, Act.put, List.setIfInBounds_toArray, List.set_cons_succ, List.set_cons_zero]
  clear bq nb na N TR TL P0 P1
  go_wp2
  obtain ⟨ts, rg, _, ht⟩ := RL
  have lz := clN_len ht
  obtain ⟨fs, hfs⟩ := uX
  exact bodyPost_ret (v := agN ts) (results_cell_mid Tryz.results104 _ _ (w.heap.size + 1 + 1) (clN ts) _ rfl rg hfs rfl (by rw [lz]; exact iX)) rfl ⟨ts, rfl, ht, NS⟩
section
variable {ops : Array Oper} {Q : Exit → Act → World → Prop} {md : Region.Mode} {F : Nat → Fact} {a0 : Act} {w0 : World} {i : Nat} {o : Oper} {ts : Array TypeId}
theorem step_fr (hi : ops[i]? = some o) (p q j k : Nat) (A B C E : Int) (hop : o.op = .call { callee := .value (.func 104), args := #[.tmp p, .tmp q], argTypes := ts })
    (hj : waits md ops i j p = true) (hk : waits md ops i k q = true) (hFj : F j = EN [A, B]) (hFk : F k = EN [C, E]) (hFi : F i = EN [A * E, C * B, B * E, A * C]) : StepOk Tryz.prog md ops Q F a0 w0 i :=
  step_twoN hi _ p q hop (by kernel_rfl) j k _ _ _ (fun w es fs _ he hf => fromRatios_any w es fs A B C E he hf) hj hk hFj hFk hFi
end
def xaR (X Y X' Y' : Int) : Int := (Y + X) * (Y' + X') - (Y - X) * (Y' - X')
def yaR (X Y X' Y' : Int) : Int := (Y + X) * (Y' + X') + (Y - X) * (Y' - X')
def xbR (Z T Z' T' D : Int) : Int := (Z * Z' + Z * Z') + (T * T' * D + T * T' * D)
def ybR (Z T Z' T' D : Int) : Int := (Z * Z' + Z * Z') - (T * T' * D + T * T' * D)
set_option maxHeartbeats 4000000 in
theorem extAdd_any (w : World) (D : Int) (es fs : List (Nat → Int)) (T T' X X' Y Y' Z Z' : Int) (hes : IsN es [X, Y, Z, T]) (hfs : IsN fs [X', Y', Z', T']) (TT : HasTw w 9) (CC : Em5 w 8 0 D) :
    Calls Tryz.prog 79 #[agN es, agN fs] w fun r w' => ∃ ts, r = .returned (agN ts) ∧ IsN ts [xaR X Y X' Y' * ybR Z T Z' T' D, yaR X Y X' Y' * xbR Z T Z' T' D, xbR Z T Z' T' D * ybR Z T Z' T' D, xaR X Y X' Y' * yaR X Y X' Y'] ∧ Below w.heap.size w w' := by
  show Calls Tryz.prog 79 #[.agg (clN es).toArray, .agg (clN fs).toArray] w _
  have H0 := rowN_new w 146 hes
  have m0 : Below w.heap.size w (w.alloc (.cells (clN es).toArray 146)) := (Below.refl _ _).alloc (Nat.le_refl _) _
  have s0 : (w.alloc (.cells (clN es).toArray 146)).heap.size = w.heap.size + 1 := by simp
  have H1 := fun W => rowN_new W 146 hfs
  obtain ⟨V0, hV0⟩ : ∃ V, V = (clN es).toArray := ⟨_, rfl⟩
  obtain ⟨V1, hV1⟩ : ∃ V, V = (clN fs).toArray := ⟨_, rfl⟩
  rw [← hV0] at H0 m0 s0 ⊢
  simp only [← hV1] at H1 ⊢
  clear hV0 hV1 hes hfs
  go_enter Tryz.func79, Tryz.ntmps79
  go_upto_region 1 with fail
  generalize w.alloc (.cells V0 146) = wa0 at *
  have H1' := H1 wa0
  have m1 : Below wa0.heap.size wa0 (wa0.alloc (.cells V1 146)) := (Below.refl _ _).alloc (Nat.le_refl _) _
  have s1 : (wa0.alloc (.cells V1 146)).heap.size = wa0.heap.size + 1 := by simp
  rw [s0] at H1' s1
  generalize wa0.alloc (.cells V1 146) = wa1 at *
  have TR : (wa1.alloc zX).there wa1.heap.size 0 20 := there_new wa1 _ _
  have mz : Below wa1.heap.size wa1 (wa1.alloc zX) := (Below.refl _ _).alloc (Nat.le_refl _) _
  rw [s1] at TR
  have P0 := (H0.up m1).up mz
  have P1 := H1'.up mz
  have N := nxt (nxt m0 m1) mz
  clear H0 H1 H1' m0 s0 m1 s1 mz
  obtain ⟨wr, hwr⟩ : ∃ W, W = wa1.alloc zX := ⟨_, rfl⟩
  rw [← hwr] at TR N P0 P1
  change Code.wp _ _ _ _ (wa1.alloc zX)
  rw [← hwr]
  clear hwr
  replace TT := TT.up N
  replace CC := CC.up N
  refine region_new5 16 15 14 5 25 _ (fun i => [Fact.eq (.pointer (some ⟨w.heap.size, 0, none⟩)), Fact.eq (.pointer (some ⟨w.heap.size, 5, none⟩)), EM (Y), Fact.eq (.pointer (some ⟨w.heap.size, 0, none⟩)), Fact.eq (.pointer (some ⟨w.heap.size, 0, none⟩)), EM (X), EM ((Y) - (X)), Fact.eq (.pointer (some ⟨w.heap.size + 1, 0, none⟩)), Fact.eq (.pointer (some ⟨w.heap.size + 1, 5, none⟩)), EM (Y'), Fact.eq (.pointer (some ⟨w.heap.size + 1, 0, none⟩)), Fact.eq (.pointer (some ⟨w.heap.size + 1, 0, none⟩)), EM (X'), EM ((Y') - (X')), EM (((Y) - (X)) * ((Y') - (X'))), NB wr 5].getD i Fact.no) (((Y) - (X)) * ((Y') - (X'))) (by kernel_rfl) rfl rfl rfl (by kernel_rfl) (by kernel_rfl) rfl rfl ?_ ?_
  · intro i hi
    obtain rfl | rfl | rfl | rfl | rfl | rfl | rfl | rfl | rfl | rfl | rfl | rfl | rfl | rfl | rfl | rfl : i = 0 ∨ i = 1 ∨ i = 2 ∨ i = 3 ∨ i = 4 ∨ i = 5 ∨ i = 6 ∨ i = 7 ∨ i = 8 ∨ i = 9 ∨ i = 10 ∨ i = 11 ∨ i = 12 ∨ i = 13 ∨ i = 14 ∨ i = 15 := by omega
    · exact step_fld rfl 146 2 0 rfl (by kernel_rfl) _ _ rfl (fpX _) rfl
    · exact step_fldf rfl 144 11 1 0 rfl (by kernel_rfl) _ _ rfl (fyJ _) rfl
    · exact step_e5f rfl 12 1 rfl (by kernel_rfl) _ _ rfl _ P0.tail.at0 rfl
    · exact step_fld rfl 146 2 0 rfl (by kernel_rfl) _ _ rfl (fpX _) rfl
    · exact step_fldf rfl 144 14 0 3 rfl (by kernel_rfl) _ _ rfl (fxJ _) rfl
    · exact step_e5f rfl 15 4 rfl (by kernel_rfl) _ _ rfl _ P0.at0 rfl
    · exact step_sub5 TT rfl 13 16 2 5 _ _ rfl (by kernel_rfl) (by kernel_rfl) rfl rfl rfl
    · exact step_fld rfl 146 3 0 rfl (by kernel_rfl) _ _ rfl (fpX _) rfl
    · exact step_fldf rfl 144 18 1 7 rfl (by kernel_rfl) _ _ rfl (fyJ _) rfl
    · exact step_e5f rfl 19 8 rfl (by kernel_rfl) _ _ rfl _ P1.tail.at0 rfl
    · exact step_fld rfl 146 3 0 rfl (by kernel_rfl) _ _ rfl (fpX _) rfl
    · exact step_fldf rfl 144 21 0 10 rfl (by kernel_rfl) _ _ rfl (fxJ _) rfl
    · exact step_e5f rfl 22 11 rfl (by kernel_rfl) _ _ rfl _ P1.at0 rfl
    · exact step_sub5 TT rfl 20 23 9 12 _ _ rfl (by kernel_rfl) (by kernel_rfl) rfl rfl rfl
    · exact step_mul5 rfl 17 24 6 13 _ _ rfl (by kernel_rfl) (by kernel_rfl) rfl rfl rfl
    · exact step_new5 rfl rfl rfl
  intro vs1 q5 W1 v5 l5 n E5
  replace P0 := P0.up n
  replace P1 := P1.up n
  replace TT := TT.up n
  replace CC := CC.up n
  replace TR := there_up (by omega) TR n
  replace N := nxt N n
  clear n
  obtain ⟨x5, g5⟩ : ∃ e : Int, e = ((Y) - (X)) * ((Y') - (X')) := ⟨_, rfl⟩
  rw [← g5] at E5
  simp only [puts, v5, Act.put, List.setIfInBounds_toArray, List.set_cons_succ, List.set_cons_zero]
  clear v5
  go_upto_region 2 with fail
  refine region_new5 16 15 14 6 40 _ (fun i => [Fact.eq (.pointer (some ⟨w.heap.size, 0, none⟩)), Fact.eq (.pointer (some ⟨w.heap.size, 5, none⟩)), EM (Y), Fact.eq (.pointer (some ⟨w.heap.size, 0, none⟩)), Fact.eq (.pointer (some ⟨w.heap.size, 0, none⟩)), EM (X), EM ((Y) + (X)), Fact.eq (.pointer (some ⟨w.heap.size + 1, 0, none⟩)), Fact.eq (.pointer (some ⟨w.heap.size + 1, 5, none⟩)), EM (Y'), Fact.eq (.pointer (some ⟨w.heap.size + 1, 0, none⟩)), Fact.eq (.pointer (some ⟨w.heap.size + 1, 0, none⟩)), EM (X'), EM ((Y') + (X')), EM (((Y) + (X)) * ((Y') + (X'))), NB W1 5].getD i Fact.no) (((Y) + (X)) * ((Y') + (X'))) (by kernel_rfl) rfl rfl rfl (by kernel_rfl) (by kernel_rfl) rfl rfl ?_ ?_
  · intro i hi
    obtain rfl | rfl | rfl | rfl | rfl | rfl | rfl | rfl | rfl | rfl | rfl | rfl | rfl | rfl | rfl | rfl : i = 0 ∨ i = 1 ∨ i = 2 ∨ i = 3 ∨ i = 4 ∨ i = 5 ∨ i = 6 ∨ i = 7 ∨ i = 8 ∨ i = 9 ∨ i = 10 ∨ i = 11 ∨ i = 12 ∨ i = 13 ∨ i = 14 ∨ i = 15 := by omega
    · exact step_fld rfl 146 2 0 rfl (by kernel_rfl) _ _ rfl (fpX _) rfl
    · exact step_fldf rfl 144 26 1 0 rfl (by kernel_rfl) _ _ rfl (fyJ _) rfl
    · exact step_e5f rfl 27 1 rfl (by kernel_rfl) _ _ rfl _ P0.tail.at0 rfl
    · exact step_fld rfl 146 2 0 rfl (by kernel_rfl) _ _ rfl (fpX _) rfl
    · exact step_fldf rfl 144 29 0 3 rfl (by kernel_rfl) _ _ rfl (fxJ _) rfl
    · exact step_e5f rfl 30 4 rfl (by kernel_rfl) _ _ rfl _ P0.at0 rfl
    · exact step_add5 rfl 28 31 2 5 _ _ rfl (by kernel_rfl) (by kernel_rfl) rfl rfl rfl
    · exact step_fld rfl 146 3 0 rfl (by kernel_rfl) _ _ rfl (fpX _) rfl
    · exact step_fldf rfl 144 33 1 7 rfl (by kernel_rfl) _ _ rfl (fyJ _) rfl
    · exact step_e5f rfl 34 8 rfl (by kernel_rfl) _ _ rfl _ P1.tail.at0 rfl
    · exact step_fld rfl 146 3 0 rfl (by kernel_rfl) _ _ rfl (fpX _) rfl
    · exact step_fldf rfl 144 36 0 10 rfl (by kernel_rfl) _ _ rfl (fxJ _) rfl
    · exact step_e5f rfl 37 11 rfl (by kernel_rfl) _ _ rfl _ P1.at0 rfl
    · exact step_add5 rfl 35 38 9 12 _ _ rfl (by kernel_rfl) (by kernel_rfl) rfl rfl rfl
    · exact step_mul5 rfl 32 39 6 13 _ _ rfl (by kernel_rfl) (by kernel_rfl) rfl rfl rfl
    · exact step_new5 rfl rfl rfl
  intro vs2 q6 W2 v6 l6 n E6
  replace P0 := P0.up n
  replace P1 := P1.up n
  replace TT := TT.up n
  replace CC := CC.up n
  replace E5 := E5.up n
  replace TR := there_up (by omega) TR n
  replace N := nxt N n
  clear n
  obtain ⟨x6, g6⟩ : ∃ e : Int, e = ((Y) + (X)) * ((Y') + (X')) := ⟨_, rfl⟩
  rw [← g6] at E6
  simp only [puts, v6, Act.put, List.setIfInBounds_toArray, List.set_cons_succ, List.set_cons_zero]
  clear v6
  go_upto_region 3 with fail
  refine region_new2 16 14 6 7 47 15 13 8 54 _ _ (fun i => [Fact.eq (.pointer (some ⟨w.heap.size, 15, none⟩)), EM (T), Fact.eq (.pointer (some ⟨w.heap.size + 1, 15, none⟩)), EM (T'), EM ((T) * (T')), EM (D), EM (((T) * (T')) * (D)), Fact.eq (.pointer (some ⟨w.heap.size, 0, none⟩)), Fact.eq (.pointer (some ⟨w.heap.size, 10, none⟩)), EM (Z), Fact.eq (.pointer (some ⟨w.heap.size + 1, 0, none⟩)), Fact.eq (.pointer (some ⟨w.heap.size + 1, 10, none⟩)), EM (Z'), EM ((Z) * (Z')), NB W2 5, NB W2 5].getD i Fact.no) (((T) * (T')) * (D)) ((Z) * (Z')) (by kernel_rfl) rfl rfl rfl rfl rfl rfl rfl rfl rfl (by kernel_rfl) (by kernel_rfl) (by kernel_rfl) (by kernel_rfl) rfl rfl rfl rfl (by decide) (fresh_new5 rfl rfl rfl) (fresh_new5 rfl rfl rfl) ?_ ?_
  · intro i hi
    obtain rfl | rfl | rfl | rfl | rfl | rfl | rfl | rfl | rfl | rfl | rfl | rfl | rfl | rfl | rfl | rfl : i = 0 ∨ i = 1 ∨ i = 2 ∨ i = 3 ∨ i = 4 ∨ i = 5 ∨ i = 6 ∨ i = 7 ∨ i = 8 ∨ i = 9 ∨ i = 10 ∨ i = 11 ∨ i = 12 ∨ i = 13 ∨ i = 14 ∨ i = 15 := by omega
    · exact step_fld rfl 146 2 1 rfl (by kernel_rfl) _ _ rfl (ftX _) rfl
    · exact step_e5f rfl 41 0 rfl (by kernel_rfl) _ _ rfl _ P0.tail.tail.tail.at0 rfl
    · exact step_fld rfl 146 3 1 rfl (by kernel_rfl) _ _ rfl (ftX _) rfl
    · exact step_e5f rfl 43 2 rfl (by kernel_rfl) _ _ rfl _ P1.tail.tail.tail.at0 rfl
    · exact step_mul5 rfl 42 44 1 3 _ _ rfl (by kernel_rfl) (by kernel_rfl) rfl rfl rfl
    · exact step_gl5 rfl 8 rfl _ CC rfl
    · exact step_mul5 rfl 45 46 4 5 _ _ rfl (by kernel_rfl) (by kernel_rfl) rfl rfl rfl
    · exact step_fld rfl 146 2 0 rfl (by kernel_rfl) _ _ rfl (fpX _) rfl
    · exact step_fldf rfl 144 48 2 7 rfl (by kernel_rfl) _ _ rfl (fzJ _) rfl
    · exact step_e5f rfl 49 8 rfl (by kernel_rfl) _ _ rfl _ P0.tail.tail.at0 rfl
    · exact step_fld rfl 146 3 0 rfl (by kernel_rfl) _ _ rfl (fpX _) rfl
    · exact step_fldf rfl 144 51 2 10 rfl (by kernel_rfl) _ _ rfl (fzJ _) rfl
    · exact step_e5f rfl 52 11 rfl (by kernel_rfl) _ _ rfl _ P1.tail.tail.at0 rfl
    · exact step_mul5 rfl 50 53 9 12 _ _ rfl (by kernel_rfl) (by kernel_rfl) rfl rfl rfl
    · exact step_new5 rfl rfl rfl
    · exact step_new5 rfl rfl rfl
  intro vs3 q7 q8 W3 v7 v8 l7 l8 n55 n E7 E8
  clear n55
  replace P0 := P0.up n
  replace P1 := P1.up n
  replace TT := TT.up n
  replace CC := CC.up n
  replace E5 := E5.up n
  replace E6 := E6.up n
  replace TR := there_up (by omega) TR n
  replace N := nxt N n
  clear n
  obtain ⟨x7, g7⟩ : ∃ e : Int, e = ((T) * (T')) * (D) := ⟨_, rfl⟩
  rw [← g7] at E7
  obtain ⟨x8, g8⟩ : ∃ e : Int, e = (Z) * (Z') := ⟨_, rfl⟩
  rw [← g8] at E8
  simp only [puts, v7, v8, Act.put, List.setIfInBounds_toArray, List.set_cons_succ, List.set_cons_zero]
  clear v7 v8
  go_upto_region 4 with fail
  refine region_new2 8 6 2 9 57 7 5 10 60 _ _ (fun i => [EM (x7), EM (x7), EM ((x7) + (x7)), EM (x8), EM (x8), EM ((x8) + (x8)), NB W3 5, NB W3 5].getD i Fact.no) ((x7) + (x7)) ((x8) + (x8)) (by kernel_rfl) rfl rfl rfl rfl rfl rfl rfl rfl rfl (by kernel_rfl) (by kernel_rfl) (by kernel_rfl) (by kernel_rfl) rfl rfl rfl rfl (by decide) (fresh_new5 rfl rfl rfl) (fresh_new5 rfl rfl rfl) ?_ ?_
  · intro i hi
    obtain rfl | rfl | rfl | rfl | rfl | rfl | rfl | rfl : i = 0 ∨ i = 1 ∨ i = 2 ∨ i = 3 ∨ i = 4 ∨ i = 5 ∨ i = 6 ∨ i = 7 := by omega
    · exact step_e5 rfl 7 rfl (by kernel_rfl) _ _ rfl _ E7 rfl
    · exact step_e5 rfl 7 rfl (by kernel_rfl) _ _ rfl _ E7 rfl
    · exact step_add5 rfl 55 56 0 1 _ _ rfl (by kernel_rfl) (by kernel_rfl) rfl rfl rfl
    · exact step_e5 rfl 8 rfl (by kernel_rfl) _ _ rfl _ E8 rfl
    · exact step_e5 rfl 8 rfl (by kernel_rfl) _ _ rfl _ E8 rfl
    · exact step_add5 rfl 58 59 3 4 _ _ rfl (by kernel_rfl) (by kernel_rfl) rfl rfl rfl
    · exact step_new5 rfl rfl rfl
    · exact step_new5 rfl rfl rfl
  intro vs4 q9 q10 W4 v9 v10 l9 l10 n55 n E9 E10
  clear n55
  replace P0 := P0.up n
  replace P1 := P1.up n
  replace TT := TT.up n
  replace CC := CC.up n
  replace E5 := E5.up n
  replace E6 := E6.up n
  replace E7 := E7.up n
  replace E8 := E8.up n
  replace TR := there_up (by omega) TR n
  replace N := nxt N n
  clear n
  obtain ⟨x9, g9⟩ : ∃ e : Int, e = (x7) + (x7) := ⟨_, rfl⟩
  rw [← g9] at E9
  obtain ⟨x10, g10⟩ : ∃ e : Int, e = (x8) + (x8) := ⟨_, rfl⟩
  rw [← g10] at E10
  simp only [puts, v9, v10, Act.put, List.setIfInBounds_toArray, List.set_cons_succ, List.set_cons_zero]
  clear v9 v10
  go_upto_region 5 with fail
  refine region_putN 146 15 14 4 75 _ (fun i => [EM (x6), EM (x5), EM ((x6) - (x5)), EM (x10), EM (x9), EM ((x10) + (x9)), EN [(x6) - (x5), (x10) + (x9)], EM (x6), EM (x5), EM ((x6) + (x5)), EM (x10), EM (x9), EM ((x10) - (x9)), EN [(x6) + (x5), (x10) - (x9)], EN [((x6) - (x5)) * ((x10) - (x9)), ((x6) + (x5)) * ((x10) + (x9)), ((x10) + (x9)) * ((x10) - (x9)), ((x6) - (x5)) * ((x6) + (x5))]].getD i Fact.no) [((x6) - (x5)) * ((x10) - (x9)), ((x6) + (x5)) * ((x10) + (x9)), ((x10) + (x9)) * ((x10) - (x9)), ((x6) - (x5)) * ((x6) + (x5))] _ (by kernel_rfl) rfl rfl rfl iX (Nat.zero_lt_succ _) (by kernel_rfl) rfl TR (by kernel_rfl) rfl ?_ ?_
  · intro i hi
    obtain rfl | rfl | rfl | rfl | rfl | rfl | rfl | rfl | rfl | rfl | rfl | rfl | rfl | rfl | rfl : i = 0 ∨ i = 1 ∨ i = 2 ∨ i = 3 ∨ i = 4 ∨ i = 5 ∨ i = 6 ∨ i = 7 ∨ i = 8 ∨ i = 9 ∨ i = 10 ∨ i = 11 ∨ i = 12 ∨ i = 13 ∨ i = 14 := by omega
    · exact step_e5 rfl 6 rfl (by kernel_rfl) _ _ rfl _ E6 rfl
    · exact step_e5 rfl 5 rfl (by kernel_rfl) _ _ rfl _ E5 rfl
    · exact step_sub5 TT rfl 61 62 0 1 _ _ rfl (by kernel_rfl) (by kernel_rfl) rfl rfl rfl
    · exact step_e5 rfl 10 rfl (by kernel_rfl) _ _ rfl _ E10 rfl
    · exact step_e5 rfl 9 rfl (by kernel_rfl) _ _ rfl _ E9 rfl
    · exact step_add5 rfl 64 65 3 4 _ _ rfl (by kernel_rfl) (by kernel_rfl) rfl rfl rfl
    · exact step_bR rfl 63 66 2 5 _ _ rfl (by kernel_rfl) (by kernel_rfl) rfl rfl rfl
    · exact step_e5 rfl 6 rfl (by kernel_rfl) _ _ rfl _ E6 rfl
    · exact step_e5 rfl 5 rfl (by kernel_rfl) _ _ rfl _ E5 rfl
    · exact step_add5 rfl 68 69 7 8 _ _ rfl (by kernel_rfl) (by kernel_rfl) rfl rfl rfl
    · exact step_e5 rfl 10 rfl (by kernel_rfl) _ _ rfl _ E10 rfl
    · exact step_e5 rfl 9 rfl (by kernel_rfl) _ _ rfl _ E9 rfl
    · exact step_sub5 TT rfl 71 72 10 11 _ _ rfl (by kernel_rfl) (by kernel_rfl) rfl rfl rfl
    · exact step_bR rfl 70 73 9 12 _ _ rfl (by kernel_rfl) (by kernel_rfl) rfl rfl rfl
    · exact step_fr rfl 67 74 6 13 _ _ _ _ rfl (by kernel_rfl) (by kernel_rfl) rfl rfl rfl
  intro vsL Wa Wb na bq RL nb TL
  have NS := nb w w.heap.size (nxt N na) (by omega)
  simp only [puts, Act.put, List.setIfInBounds_toArray, List.set_cons_succ, List.set_cons_zero]
  clear bq nb na N TR TL P0 P1 TT CC E5 E6 E7 E8 E9 E10
  go_wp2
  subst g5 g6 g7 g8 g9 g10
  obtain ⟨ts, rg, _, ht⟩ := RL
  have lz := clN_len ht
  obtain ⟨fs, hfs⟩ := uX
  exact bodyPost_ret (v := agN ts) (results_cell_mid Tryz.results79 _ _ (w.heap.size + 1 + 1) (clN ts) _ rfl rg hfs rfl (by rw [lz]; exact iX)) rfl ⟨ts, rfl, ht, NS⟩
set_option maxHeartbeats 4000000 in
theorem double_any (w : World) (es fs : List (Nat → Int)) (T' X X' Y Y' Z Z' : Int) (hes : IsN es [X, Y, Z]) (hfs : IsN fs [X', Y', Z', T']) (TT : HasTw w 9) :
    Calls Tryz.prog 78 #[agN es, agN fs] w fun r w' => ∃ ts, r = .returned (agN ts) ∧ IsN ts [((X + Y) * (X + Y) - (Y * Y + X * X)) * ((Z * Z + Z * Z) - (Y * Y - X * X)), (Y * Y + X * X) * (Y * Y - X * X), (Y * Y - X * X) * ((Z * Z + Z * Z) - (Y * Y - X * X)), ((X + Y) * (X + Y) - (Y * Y + X * X)) * (Y * Y + X * X)] ∧ Below w.heap.size w w' := by
  show Calls Tryz.prog 78 #[.agg (clN es).toArray, .agg (clN fs).toArray] w _
  have H0 := rowN_new w 144 hes
  have m0 : Below w.heap.size w (w.alloc (.cells (clN es).toArray 144)) := (Below.refl _ _).alloc (Nat.le_refl _) _
  have s0 : (w.alloc (.cells (clN es).toArray 144)).heap.size = w.heap.size + 1 := by simp
  have H1 := fun W => rowN_new W 146 hfs
  obtain ⟨V0, hV0⟩ : ∃ V, V = (clN es).toArray := ⟨_, rfl⟩
  obtain ⟨V1, hV1⟩ : ∃ V, V = (clN fs).toArray := ⟨_, rfl⟩
  rw [← hV0] at H0 m0 s0 ⊢
  simp only [← hV1] at H1 ⊢
  clear hV0 hV1 hes hfs
  go_enter Tryz.func78, Tryz.ntmps78
  go_upto_region 1 with fail
  generalize w.alloc (.cells V0 144) = wa0 at *
  have H1' := H1 wa0
  have m1 : Below wa0.heap.size wa0 (wa0.alloc (.cells V1 146)) := (Below.refl _ _).alloc (Nat.le_refl _) _
  have s1 : (wa0.alloc (.cells V1 146)).heap.size = wa0.heap.size + 1 := by simp
  rw [s0] at H1' s1
  generalize wa0.alloc (.cells V1 146) = wa1 at *
  have TR : (wa1.alloc zX).there wa1.heap.size 0 20 := there_new wa1 _ _
  have mz : Below wa1.heap.size wa1 (wa1.alloc zX) := (Below.refl _ _).alloc (Nat.le_refl _) _
  rw [s1] at TR
  have P0 := (H0.up m1).up mz
  have P1 := H1'.up mz
  have N := nxt (nxt m0 m1) mz
  clear H0 H1 H1' m0 s0 m1 s1 mz
  obtain ⟨wr, hwr⟩ : ∃ W, W = wa1.alloc zX := ⟨_, rfl⟩
  rw [← hwr] at TR N P0 P1
  change Code.wp _ _ _ _ (wa1.alloc zX)
  rw [← hwr]
  clear hwr
  replace TT := TT.up N
  refine region_new3 12 9 2 5 12 10 5 6 15 11 8 7 18 _ _ _ (fun i => [Fact.eq (.pointer (some ⟨w.heap.size, 0, none⟩)), EM (X), EM ((X) * (X)), Fact.eq (.pointer (some ⟨w.heap.size, 5, none⟩)), EM (Y), EM ((Y) * (Y)), Fact.eq (.pointer (some ⟨w.heap.size, 10, none⟩)), EM (Z), EM ((Z) * (Z)), NB wr 5, NB wr 5, NB wr 5].getD i Fact.no) ((X) * (X)) ((Y) * (Y)) ((Z) * (Z)) (by kernel_rfl) rfl rfl rfl rfl rfl rfl rfl rfl rfl rfl rfl rfl rfl (by kernel_rfl) (by kernel_rfl) (by kernel_rfl) (by kernel_rfl) (by kernel_rfl) (by kernel_rfl) rfl rfl rfl rfl rfl rfl (by decide) (by decide) (by decide) (fresh_new5 rfl rfl rfl) (fresh_new5 rfl rfl rfl) (fresh_new5 rfl rfl rfl) ?_ ?_
  · intro i hi
    obtain rfl | rfl | rfl | rfl | rfl | rfl | rfl | rfl | rfl | rfl | rfl | rfl : i = 0 ∨ i = 1 ∨ i = 2 ∨ i = 3 ∨ i = 4 ∨ i = 5 ∨ i = 6 ∨ i = 7 ∨ i = 8 ∨ i = 9 ∨ i = 10 ∨ i = 11 := by omega
    · exact step_fld rfl 144 2 0 rfl (by kernel_rfl) _ _ rfl (fxJ _) rfl
    · exact step_e5f rfl 10 0 rfl (by kernel_rfl) _ _ rfl _ P0.at0 rfl
    · exact step_sq5 rfl 11 1 _ rfl (by kernel_rfl) rfl rfl
    · exact step_fld rfl 144 2 1 rfl (by kernel_rfl) _ _ rfl (fyJ _) rfl
    · exact step_e5f rfl 13 3 rfl (by kernel_rfl) _ _ rfl _ P0.tail.at0 rfl
    · exact step_sq5 rfl 14 4 _ rfl (by kernel_rfl) rfl rfl
    · exact step_fld rfl 144 2 2 rfl (by kernel_rfl) _ _ rfl (fzJ _) rfl
    · exact step_e5f rfl 16 6 rfl (by kernel_rfl) _ _ rfl _ P0.tail.tail.at0 rfl
    · exact step_sq5 rfl 17 7 _ rfl (by kernel_rfl) rfl rfl
    · exact step_new5 rfl rfl rfl
    · exact step_new5 rfl rfl rfl
    · exact step_new5 rfl rfl rfl
  intro vs1 q5 q6 q7 W1 v5 v6 v7 l5 l6 l7 n E5 E6 E7
  replace P0 := P0.up n
  replace P1 := P1.up n
  replace TT := TT.up n
  replace TR := there_up (by omega) TR n
  replace N := nxt N n
  clear n
  obtain ⟨x5, g5⟩ : ∃ e : Int, e = (X) * (X) := ⟨_, rfl⟩
  rw [← g5] at E5
  obtain ⟨x6, g6⟩ : ∃ e : Int, e = (Y) * (Y) := ⟨_, rfl⟩
  rw [← g6] at E6
  obtain ⟨x7, g7⟩ : ∃ e : Int, e = (Z) * (Z) := ⟨_, rfl⟩
  rw [← g7] at E7
  simp only [puts, v5, v6, v7, Act.put, List.setIfInBounds_toArray, List.set_cons_succ, List.set_cons_zero]
  clear v5 v6 v7
  go_upto_region 2 with fail
  refine region_new2 8 6 2 8 21 7 5 9 24 _ _ (fun i => [EM (x6), EM (x5), EM ((x6) - (x5)), EM (x6), EM (x5), EM ((x6) + (x5)), NB W1 5, NB W1 5].getD i Fact.no) ((x6) - (x5)) ((x6) + (x5)) (by kernel_rfl) rfl rfl rfl rfl rfl rfl rfl rfl rfl (by kernel_rfl) (by kernel_rfl) (by kernel_rfl) (by kernel_rfl) rfl rfl rfl rfl (by decide) (fresh_new5 rfl rfl rfl) (fresh_new5 rfl rfl rfl) ?_ ?_
  · intro i hi
    obtain rfl | rfl | rfl | rfl | rfl | rfl | rfl | rfl : i = 0 ∨ i = 1 ∨ i = 2 ∨ i = 3 ∨ i = 4 ∨ i = 5 ∨ i = 6 ∨ i = 7 := by omega
    · exact step_e5 rfl 6 rfl (by kernel_rfl) _ _ rfl _ E6 rfl
    · exact step_e5 rfl 5 rfl (by kernel_rfl) _ _ rfl _ E5 rfl
    · exact step_sub5 TT rfl 19 20 0 1 _ _ rfl (by kernel_rfl) (by kernel_rfl) rfl rfl rfl
    · exact step_e5 rfl 6 rfl (by kernel_rfl) _ _ rfl _ E6 rfl
    · exact step_e5 rfl 5 rfl (by kernel_rfl) _ _ rfl _ E5 rfl
    · exact step_add5 rfl 22 23 3 4 _ _ rfl (by kernel_rfl) (by kernel_rfl) rfl rfl rfl
    · exact step_new5 rfl rfl rfl
    · exact step_new5 rfl rfl rfl
  intro vs2 q8 q9 W2 v8 v9 l8 l9 n55 n E8 E9
  clear n55
  replace P0 := P0.up n
  replace P1 := P1.up n
  replace TT := TT.up n
  replace E5 := E5.up n
  replace E6 := E6.up n
  replace E7 := E7.up n
  replace TR := there_up (by omega) TR n
  replace N := nxt N n
  clear n
  obtain ⟨x8, g8⟩ : ∃ e : Int, e = (x6) - (x5) := ⟨_, rfl⟩
  rw [← g8] at E8
  obtain ⟨x9, g9⟩ : ∃ e : Int, e = (x6) + (x5) := ⟨_, rfl⟩
  rw [← g9] at E9
  simp only [puts, v8, v9, Act.put, List.setIfInBounds_toArray, List.set_cons_succ, List.set_cons_zero]
  clear v8 v9
  go_upto_region 3 with fail
  refine region_putN 146 18 17 4 42 _ (fun i => [Fact.eq (.pointer (some ⟨w.heap.size, 0, none⟩)), EM (X), Fact.eq (.pointer (some ⟨w.heap.size, 5, none⟩)), EM (Y), EM ((X) + (Y)), EM (((X) + (Y)) * ((X) + (Y))), EM (x9), EM ((((X) + (Y)) * ((X) + (Y))) - (x9)), EM (x8), EN [(((X) + (Y)) * ((X) + (Y))) - (x9), x8], EM (x9), EM (x7), EM (x7), EM ((x7) + (x7)), EM (x8), EM (((x7) + (x7)) - (x8)), EN [x9, ((x7) + (x7)) - (x8)], EN [((((X) + (Y)) * ((X) + (Y))) - (x9)) * (((x7) + (x7)) - (x8)), (x9) * (x8), (x8) * (((x7) + (x7)) - (x8)), ((((X) + (Y)) * ((X) + (Y))) - (x9)) * (x9)]].getD i Fact.no) [((((X) + (Y)) * ((X) + (Y))) - (x9)) * (((x7) + (x7)) - (x8)), (x9) * (x8), (x8) * (((x7) + (x7)) - (x8)), ((((X) + (Y)) * ((X) + (Y))) - (x9)) * (x9)] _ (by kernel_rfl) rfl rfl rfl iX (Nat.zero_lt_succ _) (by kernel_rfl) rfl TR (by kernel_rfl) rfl ?_ ?_
  · intro i hi
    obtain rfl | rfl | rfl | rfl | rfl | rfl | rfl | rfl | rfl | rfl | rfl | rfl | rfl | rfl | rfl | rfl | rfl | rfl : i = 0 ∨ i = 1 ∨ i = 2 ∨ i = 3 ∨ i = 4 ∨ i = 5 ∨ i = 6 ∨ i = 7 ∨ i = 8 ∨ i = 9 ∨ i = 10 ∨ i = 11 ∨ i = 12 ∨ i = 13 ∨ i = 14 ∨ i = 15 ∨ i = 16 ∨ i = 17 := by omega
    · exact step_fld rfl 144 2 0 rfl (by kernel_rfl) _ _ rfl (fxJ _) rfl
    · exact step_e5f rfl 25 0 rfl (by kernel_rfl) _ _ rfl _ P0.at0 rfl
    · exact step_fld rfl 144 2 1 rfl (by kernel_rfl) _ _ rfl (fyJ _) rfl
    · exact step_e5f rfl 27 2 rfl (by kernel_rfl) _ _ rfl _ P0.tail.at0 rfl
    · exact step_add5 rfl 26 28 1 3 _ _ rfl (by kernel_rfl) (by kernel_rfl) rfl rfl rfl
    · exact step_sq5 rfl 29 4 _ rfl (by kernel_rfl) rfl rfl
    · exact step_e5 rfl 9 rfl (by kernel_rfl) _ _ rfl _ E9 rfl
    · exact step_sub5 TT rfl 30 31 5 6 _ _ rfl (by kernel_rfl) (by kernel_rfl) rfl rfl rfl
    · exact step_e5 rfl 8 rfl (by kernel_rfl) _ _ rfl _ E8 rfl
    · exact step_bR rfl 32 33 7 8 _ _ rfl (by kernel_rfl) (by kernel_rfl) rfl rfl rfl
    · exact step_e5 rfl 9 rfl (by kernel_rfl) _ _ rfl _ E9 rfl
    · exact step_e5 rfl 7 rfl (by kernel_rfl) _ _ rfl _ E7 rfl
    · exact step_e5 rfl 7 rfl (by kernel_rfl) _ _ rfl _ E7 rfl
    · exact step_add5 rfl 36 37 11 12 _ _ rfl (by kernel_rfl) (by kernel_rfl) rfl rfl rfl
    · exact step_e5 rfl 8 rfl (by kernel_rfl) _ _ rfl _ E8 rfl
    · exact step_sub5 TT rfl 38 39 13 14 _ _ rfl (by kernel_rfl) (by kernel_rfl) rfl rfl rfl
    · exact step_bR rfl 35 40 10 15 _ _ rfl (by kernel_rfl) (by kernel_rfl) rfl rfl rfl
    · exact step_fr rfl 34 41 9 16 _ _ _ _ rfl (by kernel_rfl) (by kernel_rfl) rfl rfl rfl
  intro vsL Wa Wb na bq RL nb TL
  have NS := nb w w.heap.size (nxt N na) (by omega)
  simp only [puts, Act.put, List.setIfInBounds_toArray, List.set_cons_succ, List.set_cons_zero]
  clear bq nb na N TR TL P0 P1 TT E5 E6 E7 E8 E9
  go_wp2
  subst g5 g6 g7 g8 g9
  obtain ⟨ts, rg, _, ht⟩ := RL
  have lz := clN_len ht
  obtain ⟨fs, hfs⟩ := uX
  exact bodyPost_ret (v := agN ts) (results_cell_mid Tryz.results78 _ _ (w.heap.size + 1 + 1) (clN ts) _ rfl rg hfs rfl (by rw [lz]; exact iX)) rfl ⟨ts, rfl, ht, NS⟩
set_option maxHeartbeats 4000000 in
theorem toAffine_any (w : World) (es : List (Nat → Int)) (X Y Z : Int) (hes : IsN es [X, Y, Z]) (SS : HasSt w 13) (II : Has3 w 10 12 5 4) :
    Calls Tryz.prog 84 #[agN es] w fun r w' => ∃ ts, r = .returned (agN ts) ∧ IsN ts [X * Z ^ eInv, Y * Z ^ eInv] ∧ Below w.heap.size w w' := by
  show Calls Tryz.prog 84 #[.agg (clN es).toArray] w _
  have H0 := rowN_new w 144 hes
  have m0 : Below w.heap.size w (w.alloc (.cells (clN es).toArray 144)) := (Below.refl _ _).alloc (Nat.le_refl _) _
  have s0 : (w.alloc (.cells (clN es).toArray 144)).heap.size = w.heap.size + 1 := by simp
  obtain ⟨V0, hV0⟩ : ∃ V, V = (clN es).toArray := ⟨_, rfl⟩
  rw [← hV0] at H0 m0 s0 ⊢
  clear hV0 hes
  go_enter Tryz.func84, Tryz.ntmps84
  go_upto_region 1 with fail
  generalize w.alloc (.cells V0 144) = wa0 at *
  have TR : (wa0.alloc zA).there wa0.heap.size 0 10 := there_new wa0 _ _
  have mz : Below wa0.heap.size wa0 (wa0.alloc zA) := (Below.refl _ _).alloc (Nat.le_refl _) _
  rw [s0] at TR
  have P0 := H0.up mz
  have N := nxt m0 mz
  clear H0 m0 s0 mz
  obtain ⟨wr, hwr⟩ : ∃ W, W = wa0.alloc zA := ⟨_, rfl⟩
  rw [← hwr] at TR N P0
  change Code.wp _ _ _ _ (wa0.alloc zA)
  rw [← hwr]
  clear hwr
  replace SS := SS.up N
  replace II := II.up N
  refine region_new5 4 3 2 3 6 _ (fun i => [Fact.eq (.pointer (some ⟨w.heap.size, 10, none⟩)), EM (Z), EM ((Z) ^ eInv), NB wr 5].getD i Fact.no) ((Z) ^ eInv) (by kernel_rfl) rfl rfl rfl (by kernel_rfl) (by kernel_rfl) rfl rfl ?_ ?_
  · intro i hi
    obtain rfl | rfl | rfl | rfl : i = 0 ∨ i = 1 ∨ i = 2 ∨ i = 3 := by omega
    · exact step_fld rfl 144 1 2 rfl (by kernel_rfl) _ _ rfl (fzJ _) rfl
    · exact step_e5f rfl 4 0 rfl (by kernel_rfl) _ _ rfl _ P0.tail.tail.at0 rfl
    · exact step_inv5 SS II rfl 5 1 _ rfl (by kernel_rfl) rfl rfl
    · exact step_new5 rfl rfl rfl
  intro vs1 q3 W1 v3 l3 n E3
  replace P0 := P0.up n
  replace SS := SS.up n
  replace II := II.up n
  replace TR := there_up (by omega) TR n
  replace N := nxt N n
  clear n
  obtain ⟨x3, g3⟩ : ∃ e : Int, e = (Z) ^ eInv := ⟨_, rfl⟩
  rw [← g3] at E3
  simp only [puts, v3, Act.put, List.setIfInBounds_toArray, List.set_cons_succ, List.set_cons_zero]
  clear v3
  go_upto_region 2 with fail
  refine region_putN 82 9 8 2 15 _ (fun i => [Fact.eq (.pointer (some ⟨w.heap.size, 0, none⟩)), EM (X), EM (x3), EM ((X) * (x3)), Fact.eq (.pointer (some ⟨w.heap.size, 5, none⟩)), EM (Y), EM (x3), EM ((Y) * (x3)), EN [(X) * (x3), (Y) * (x3)]].getD i Fact.no) [(X) * (x3), (Y) * (x3)] _ (by kernel_rfl) rfl rfl rfl iA (Nat.zero_lt_succ _) (by kernel_rfl) rfl TR (by kernel_rfl) rfl ?_ ?_
  · intro i hi
    obtain rfl | rfl | rfl | rfl | rfl | rfl | rfl | rfl | rfl : i = 0 ∨ i = 1 ∨ i = 2 ∨ i = 3 ∨ i = 4 ∨ i = 5 ∨ i = 6 ∨ i = 7 ∨ i = 8 := by omega
    · exact step_fld rfl 144 1 0 rfl (by kernel_rfl) _ _ rfl (fxJ _) rfl
    · exact step_e5f rfl 7 0 rfl (by kernel_rfl) _ _ rfl _ P0.at0 rfl
    · exact step_e5 rfl 3 rfl (by kernel_rfl) _ _ rfl _ E3 rfl
    · exact step_mul5 rfl 8 9 1 2 _ _ rfl (by kernel_rfl) (by kernel_rfl) rfl rfl rfl
    · exact step_fld rfl 144 1 1 rfl (by kernel_rfl) _ _ rfl (fyJ _) rfl
    · exact step_e5f rfl 11 4 rfl (by kernel_rfl) _ _ rfl _ P0.tail.at0 rfl
    · exact step_e5 rfl 3 rfl (by kernel_rfl) _ _ rfl _ E3 rfl
    · exact step_mul5 rfl 12 13 5 6 _ _ rfl (by kernel_rfl) (by kernel_rfl) rfl rfl rfl
    · exact step_bA rfl 10 14 3 7 _ _ rfl (by kernel_rfl) (by kernel_rfl) rfl rfl rfl
  intro vsL Wa Wb na bq RL nb TL
  have NS := nb w w.heap.size (nxt N na) (by omega)
  simp only [puts, Act.put, List.setIfInBounds_toArray, List.set_cons_succ, List.set_cons_zero]
  clear bq nb na N TR TL P0 SS II E3
  go_wp2
  subst g3
  obtain ⟨ts, rg, _, ht⟩ := RL
  have lz := clN_len ht
  obtain ⟨fs, hfs⟩ := uA
  exact bodyPost_ret (v := agN ts) (results_cell_mid Tryz.results84 _ _ (w.heap.size + 1) (clN ts) _ rfl rg hfs rfl (by rw [lz]; exact iA)) rfl ⟨ts, rfl, ht, NS⟩
set_option maxHeartbeats 4000000 in
theorem toExt_any (w : World) (es : List (Nat → Int)) (X Y : Int) (hes : IsN es [X, Y]) :
    Calls Tryz.prog 81 #[agN es] w fun r w' => ∃ ts, r = .returned (agN ts) ∧ IsN ts [X, Y, 1, X * Y] ∧ Below w.heap.size w w' := by
  show Calls Tryz.prog 81 #[.agg (clN es).toArray] w _
  have H0 := rowN_new w 82 hes
  have m0 : Below w.heap.size w (w.alloc (.cells (clN es).toArray 82)) := (Below.refl _ _).alloc (Nat.le_refl _) _
  have s0 : (w.alloc (.cells (clN es).toArray 82)).heap.size = w.heap.size + 1 := by simp
  obtain ⟨V0, hV0⟩ : ∃ V, V = (clN es).toArray := ⟨_, rfl⟩
  rw [← hV0] at H0 m0 s0 ⊢
  clear hV0 hes
  go_enter Tryz.func81, Tryz.ntmps81
  go_upto_region 1 with fail
  generalize w.alloc (.cells V0 82) = wa0 at *
  have TR : (wa0.alloc zX).there wa0.heap.size 0 20 := there_new wa0 _ _
  have mz : Below wa0.heap.size wa0 (wa0.alloc zX) := (Below.refl _ _).alloc (Nat.le_refl _) _
  rw [s0] at TR
  have P0 := H0.up mz
  have N := nxt m0 mz
  clear H0 m0 s0 mz
  obtain ⟨wr, hwr⟩ : ∃ W, W = wa0.alloc zX := ⟨_, rfl⟩
  rw [← hwr] at TR N P0
  change Code.wp _ _ _ _ (wa0.alloc zX)
  rw [← hwr]
  clear hwr
  refine region_putN 146 12 11 2 14 _ (fun i => [Fact.eq (.pointer (some ⟨w.heap.size, 0, none⟩)), EM (X), Fact.eq (.pointer (some ⟨w.heap.size, 5, none⟩)), EM (Y), EM (1), EN [X, Y, 1], Fact.eq (.pointer (some ⟨w.heap.size, 0, none⟩)), EM (X), Fact.eq (.pointer (some ⟨w.heap.size, 5, none⟩)), EM (Y), EM ((X) * (Y)), EN [X, Y, 1, (X) * (Y)]].getD i Fact.no) [X, Y, 1, (X) * (Y)] _ (by kernel_rfl) rfl rfl rfl iX (Nat.zero_lt_succ _) (by kernel_rfl) rfl TR (by kernel_rfl) rfl ?_ ?_
  · intro i hi
    obtain rfl | rfl | rfl | rfl | rfl | rfl | rfl | rfl | rfl | rfl | rfl | rfl : i = 0 ∨ i = 1 ∨ i = 2 ∨ i = 3 ∨ i = 4 ∨ i = 5 ∨ i = 6 ∨ i = 7 ∨ i = 8 ∨ i = 9 ∨ i = 10 ∨ i = 11 := by omega
    · exact step_fld rfl 82 1 0 rfl (by kernel_rfl) _ _ rfl (fxA _) rfl
    · exact step_e5f rfl 3 0 rfl (by kernel_rfl) _ _ rfl _ P0.at0 rfl
    · exact step_fld rfl 82 1 1 rfl (by kernel_rfl) _ _ rfl (fyA _) rfl
    · exact step_e5f rfl 5 2 rfl (by kernel_rfl) _ _ rfl _ P0.tail.at0 rfl
    · exact step_b5 rfl 1 (by omega) rfl rfl
    · exact step_bP rfl 4 6 7 1 3 4 _ _ _ rfl (by kernel_rfl) (by kernel_rfl) (by kernel_rfl) rfl rfl rfl rfl
    · exact step_fld rfl 82 1 0 rfl (by kernel_rfl) _ _ rfl (fxA _) rfl
    · exact step_e5f rfl 9 6 rfl (by kernel_rfl) _ _ rfl _ P0.at0 rfl
    · exact step_fld rfl 82 1 1 rfl (by kernel_rfl) _ _ rfl (fyA _) rfl
    · exact step_e5f rfl 11 8 rfl (by kernel_rfl) _ _ rfl _ P0.tail.at0 rfl
    · exact step_mul5 rfl 10 12 7 9 _ _ rfl (by kernel_rfl) (by kernel_rfl) rfl rfl rfl
    · exact step_bX rfl 8 13 5 10 _ _ _ _ rfl (by kernel_rfl) (by kernel_rfl) rfl rfl rfl
  intro vsL Wa Wb na bq RL nb TL
  have NS := nb w w.heap.size (nxt N na) (by omega)
  simp only [puts, Act.put, List.setIfInBounds_toArray, List.set_cons_succ, List.set_cons_zero]
  clear bq nb na N TR TL P0
  go_wp2
  obtain ⟨ts, rg, _, ht⟩ := RL
  have lz := clN_len ht
  obtain ⟨fs, hfs⟩ := uX
  exact bodyPost_ret (v := agN ts) (results_cell_mid Tryz.results81 _ _ (w.heap.size + 1) (clN ts) _ rfl rg hfs rfl (by rw [lz]; exact iX)) rfl ⟨ts, rfl, ht, NS⟩
end Go.Proofs.YtkglcainhkbgbaaGreatDoor
