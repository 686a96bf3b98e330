import Derived.Test.YtccnhdicibjbaaaGreatGB50
import Derived.Test.YtccnhdicibjbaaaGreatGB31
import Derived.Test.YtccnhdicibjbaaaGreatGB47
import Derived.Deep.Cut
import Derived.Test.YtccnhdicibjbaaaGreatGB2
import Derived.Test.YtccnhdicibjbaaaGreatGB3
import Derived.Test.YtccnhdicibjbaaaGreatGB48
import Derived.Test.YtccnhdicibjbaaaGreatGB49
import Derived.Lib.Bytealg
namespace Go.Proofs.YtccnhdicibjbaaaGreat.Mk
open Go Go.RowKit
section
variable {P : Program} {ops : Array Oper} {Q : Exit → Act → World → Prop} {md : Region.Mode} {F : Nat → Fact} {a0 : Act} {w0 : World}
theorem writes_is {i d : Nat} (h : writes ops i d = true) : ∃ o, ops[i]? = some o ∧ o.dst = some d := by
  unfold writes at h
  cases ho : ops[i]? with
  | none => rw [ho] at h; simp at h
  | some o =>
    rw [ho] at h
    exact ⟨o, rfl, by simpa using h⟩
def tailWp (P : Program) (Q : Exit → Act → World → Prop) : List Oper → Act → World → Prop
  | [], a, w => Q .normal a w
  | o :: os, a, w => o.wp P a w (fun a' w' => tailWp P Q os a' w') Q
def textTail (md : Region.Mode) (draw : Bool) (ops : Array Oper) (n k : Nat) : Bool :=
  (ops.all fun o => o.guard.isNone && (match o.dst with | some d => decide (d < n) | none => true))
  && ((List.range ops.size).all fun i => match ops[i]? with
    | some o => o.after.all (fun e => !Region.binds md e || decide (e.on < i)) && (List.range i).all fun j => match ops[j]? with
      | some x => x.dst.isNone || o.dst != x.dst
      | none => true
    | none => true)
  && decide (k ≤ ops.size)
  && (!draw || k == ops.size || (List.range k).all fun j => (List.range (k + 1)).any fun m => decide (j < m) && match ops[m]? with
    | some o => o.after.any (fun e => Region.binds md e && e.on == j)
    | none => false)
  && (!draw || (List.range ops.size).all fun i => decide (i ≤ k) || match ops[i]? with
    | some o => o.after.any (fun e => Region.binds md e && e.on + 1 == i)
    | none => false)
structure TextT (md : Region.Mode) (draw : Bool) (ops : Array Oper) (n k : Nat) : Prop where
  g : ∀ (i : Nat) o, ops[i]? = some o → o.guard = none
  d : ∀ (i : Nat) o d, ops[i]? = some o → o.dst = some d → d < n
  a : ∀ (i : Nat) o, ops[i]? = some o → ∀ e ∈ o.after, Region.binds md e = true → e.on < i
  x : ∀ (i j : Nat) o o' d, ops[i]? = some o → ops[j]? = some o' → i ≠ j → o.dst = some d → o'.dst ≠ some d
  k1 : k ≤ ops.size
  c : draw = true → k < ops.size → ∀ j, j < k → ∃ (m : Nat) (o : Oper), j < m ∧ m ≤ k ∧ ops[m]? = some o ∧ ∃ e ∈ o.after, Region.binds md e = true ∧ e.on = j
  l : draw = true → ∀ i o, k < i → ops[i]? = some o → ∃ e ∈ o.after, Region.binds md e = true ∧ e.on + 1 = i
theorem textT_of {n k : Nat} {draw : Bool} (h : textTail md draw ops n k = true) : TextT md draw ops n k := by
  unfold textTail at h
  simp only [Bool.and_eq_true, decide_eq_true_eq] at h
  obtain ⟨⟨⟨⟨h1, h2⟩, h3⟩, h4⟩, h5⟩ := h
  rw [Array.all_eq_true_iff_forall_mem] at h1
  rw [List.all_eq_true] at h2
  have H : ∀ (i j : Nat) o o' d, j < i → ops[i]? = some o → ops[j]? = some o' → o.dst = some d → o'.dst ≠ some d := by
    intro i j o o' d hij hi hj hd hd'
    have q := h2 i (List.mem_range.2 (Array.getElem?_eq_some_iff.1 hi).1)
    simp only [hi, Bool.and_eq_true] at q
    have r := List.all_eq_true.1 q.2 j (List.mem_range.2 hij)
    simp only [hj, hd, hd'] at r
    simp at r
  refine ⟨?_, ?_, ?_, ?_, h3, ?_, ?_⟩
  · intro i o ho
    have q := h1 o (Array.mem_of_getElem? ho)
    simp only [Bool.and_eq_true] at q
    exact Option.isNone_iff_eq_none.1 q.1
  · intro i o d ho hd
    have q := h1 o (Array.mem_of_getElem? ho)
    simp only [Bool.and_eq_true, hd, decide_eq_true_eq] at q
    exact q.2
  · intro i o ho e he hb
    have q := h2 i (List.mem_range.2 (Array.getElem?_eq_some_iff.1 ho).1)
    simp only [ho, Bool.and_eq_true] at q
    have r := (Array.all_eq_true_iff_forall_mem.1 q.1) e he
    rw [hb] at r
    simpa using r
  · intro i j o o' d hi hj hij hd hd'
    rcases Nat.lt_or_gt_of_ne hij with h | h
    · exact H j i o' o d h hj hi hd' hd
    · exact H i j o o' d h hi hj hd hd'
  · intro hdr hk j hj
    rw [hdr] at h4
    have h4' : ((List.range k).all fun j => (List.range (k + 1)).any fun m => decide (j < m) && match ops[m]? with
      | some o => o.after.any (fun e => Region.binds md e && e.on == j)
      | none => false) = true := by
      simp only [Bool.not_true, Bool.false_or, Bool.or_eq_true] at h4
      rcases h4 with e | e
      · have : k = ops.size := by simpa using e
        omega
      · exact e
    have q := List.all_eq_true.1 h4' j (List.mem_range.2 hj)
    obtain ⟨m, hm, r⟩ := List.any_eq_true.1 q
    simp only [Bool.and_eq_true, decide_eq_true_eq] at r
    cases ho : ops[m]? with
    | none => rw [ho] at r; simp at r
    | some o =>
      rw [ho] at r
      obtain ⟨e, he, hb⟩ := Array.any_eq_true'.1 r.2
      simp only [Bool.and_eq_true, beq_iff_eq] at hb
      exact ⟨m, o, r.1, by have := List.mem_range.1 hm; omega, ho, e, he, hb.1, hb.2⟩
  · intro hdr i o hki ho
    rw [hdr] at h5
    simp only [Bool.not_true, Bool.false_or] at h5
    rw [List.all_eq_true] at h5
    have q := h5 i (List.mem_range.2 (Array.getElem?_eq_some_iff.1 ho).1)
    rw [ho] at q
    simp only [Bool.or_eq_true] at q
    rcases q with e | e
    · have : i ≤ k := by simpa using e
      omega
    · obtain ⟨e, he, hb⟩ := Array.any_eq_true'.1 e
      simp only [Bool.and_eq_true, beq_iff_eq] at hb
      exact ⟨e, he, hb.1, hb.2⟩
theorem Held.nextT {n k : Nat} {draw : Bool} (T : TextT md draw ops n k) (hn : n ≤ a0.tmps.size) {listed : Array Bool} {a : Act} {w : World} (H : Held md ops F a0 w0 listed a w) {i : Nat} {o : Oper} (ho : ops[i]? = some o) (hr : i ∈ Region.ready md ops listed)
    {v : Value} {w' : World} (hw : Gm w0.heap.size w w') (hf : (F i).p v w') : Held md ops F a0 w0 (listed.setIfInBounds i true) (a.put o.dst v) w' := by
  have hi : i < ops.size := (Array.getElem?_eq_some_iff.1 ho).1
  have hz : a.tmps.size = a0.tmps.size := H.b.2.1
  refine ⟨⟨by rw [put_defers]; exact H.b.1, by rw [put_size]; exact hz, fun d hd => ?_⟩, Gm.trans H.n hw, ?_, ?_, by simp [H.s]⟩
  · rw [put_off]
    · exact H.b.2.2 d hd
    · have q := Array.all_eq_true_iff_forall_mem.1 hd o (Array.mem_of_getElem? ho)
      simpa using q
  · intro j oj d hoj hj hd
    by_cases e : i = j
    · subst e
      obtain rfl := Option.some.inj (ho.symm.trans hoj)
      rw [hd, put_at (Nat.lt_of_lt_of_le (T.d i o d ho hd) (hz ▸ hn))]
      exact hf
    · rw [getD_off e] at hj
      rw [put_off (T.x j i oj o d hoj ho (Ne.symm e) hd)]
      exact (F j).up hw (H.f j oj d hoj hj hd)
  · intro j oj hoj hj e he hb
    obtain ⟨_, o', ho', q⟩ := mem_ready.1 hr
    by_cases c : i = e.on
    · rw [← c]
      exact getD_same (by rw [H.s]; exact hi) _
    · rw [getD_off c]
      by_cases e' : i = j
      · subst e'
        obtain rfl := Option.some.inj (ho'.symm.trans hoj)
        exact q e he hb
      · rw [getD_off e'] at hj
        exact H.c j oj hoj hj e he hb
theorem tail_any {n k : Nat} (T : TextT md true ops n k) : ∀ (m t fuel : Nat) (listed : Array Bool) (a : Act) (w : World), t + m = ops.size → k ≤ t → listed.size = ops.size → (∀ j, j < t → listed.getD j false = true) → (∀ j, t ≤ j → listed.getD j false = false) → m ≤ fuel →
    tailWp P Q (ops.toList.drop t) a w → wpAny P md ops Q fuel listed a w := by
  intro m
  induction m with
  | zero =>
    intro t fuel listed a w ht hk hs h1 h2 hf hq
    obtain rfl : t = ops.size := by omega
    have e : ops.toList.drop ops.size = [] := by simp
    rw [e] at hq
    refine wpAny_done ?_ hq fuel
    cases hr : Region.ready md ops listed with
    | nil => rfl
    | cons i tl =>
      exfalso
      have hi : i ∈ Region.ready md ops listed := by rw [hr]; simp
      obtain ⟨h0, o, ho, _⟩ := mem_ready.1 hi
      have hlt := (Array.getElem?_eq_some_iff.1 ho).1
      rw [dflt (by rw [hs]; exact hlt), h1 i hlt] at h0
      simp at h0
  | succ m ih =>
    intro t fuel listed a w ht hk hs h1 h2 hf hq
    have hlt : t < ops.size := by omega
    obtain ⟨o, ho⟩ : ∃ o, ops[t]? = some o := ⟨ops[t], by simp [hlt]⟩
    have e : ops.toList.drop t = o :: ops.toList.drop (t + 1) := by
      rw [List.drop_eq_getElem_cons (by simpa using hlt)]
      congr 1
      have := (Array.getElem?_eq_some_iff.1 ho).2
      simpa using this
    rw [e] at hq
    obtain ⟨f2, rfl⟩ : ∃ f2, fuel = f2 + 1 := ⟨fuel - 1, by omega⟩
    refine ⟨fun hr => ?_, fun i hi => ?_⟩
    · exfalso
      have hr' : t ∈ Region.ready md ops listed := mem_ready.2 ⟨by rw [dflt (by rw [hs]; exact hlt)]; exact h2 t (Nat.le_refl _), o, ho, fun e he hb => h1 e.on (T.a t o ho e he hb)⟩
      rw [hr] at hr'
      simp at hr'
    · obtain ⟨h0, oi, hoi, hall⟩ := mem_ready.1 hi
      have hil := (Array.getElem?_eq_some_iff.1 hoi).1
      rw [dflt (by rw [hs]; exact hil)] at h0
      have hti : i = t := by
        rcases Nat.lt_trichotomy i t with c | c | c
        · rw [h1 i c] at h0; simp at h0
        · exact c
        · exfalso
          obtain ⟨e, he, hb, hq'⟩ := T.l rfl i oi (by omega) hoi
          have := hall e he hb
          rw [h2 e.on (by omega)] at this
          simp at this
      subst hti
      obtain rfl := Option.some.inj (ho.symm.trans hoi)
      have hwant : Region.wanted o (yielded ops a.tmps) = true := by simp [Region.wanted, T.g i o ho]
      refine wpOp_step ho fun K' hK => ?_
      rw [if_pos hwant]
      refine Oper.wp_mono (fun a' w' h => hK _ _ (ih (i + 1) f2 (listed.setIfInBounds i true) a' w' (by omega) (by omega) (by simp [hs]) (fun j hj => ?_) (fun j hj => ?_) (by omega) h)) hq
      · by_cases c : i = j
        · subst c
          exact getD_same (by rw [hs]; exact hlt) _
        · rw [getD_off c]
          exact h1 j (by omega)
      · rw [getD_off (by omega)]
        exact h2 j (by omega)
def blkOf : Value → Option Nat
  | .pointer (some a) => some a.block
  | .slice (some a) _ _ => some a.block
  | _ => none
def FreshG (P : Program) (md : Region.Mode) (ops : Array Oper) (Q : Exit → Act → World → Prop) (F : Nat → Fact) (a0 : Act) (w0 : World) (i : Nat) : Prop :=
  ∀ o, ops[i]? = some o → ∀ a w, Based ops a0 a → Gm w0.heap.size w0 w → (∀ j d, waits md ops i j d = true → (F j).p (a.tmps.getD d undef) w) →
    ∀ K : Act → World → Prop, (∀ v w', Gm w0.heap.size w w' → (F i).p v w' → (∃ b, blkOf v = some b ∧ w.heap.size ≤ b ∧ b < w'.heap.size) → K (a.put o.dst v) w') → o.wp P a w K Q
theorem FreshG.step {i : Nat} (h : FreshG P md ops Q F a0 w0 i) : StepOk P md ops Q F a0 w0 i :=
  fun o ho a w hb hw hf K hK => h o ho a w hb hw hf K (fun v w' hn hv _ => hK v w' hn hv)
structure SepL (fr : List (Nat × Nat)) (listed : Array Bool) (a : Act) (w : World) : Prop where
  l : ∀ p ∈ fr, listed.getD p.1 false = true → ∃ q, blkOf (a.tmps.getD p.2 undef) = some q ∧ q < w.heap.size
  n : ∀ p ∈ fr, ∀ p' ∈ fr, p ≠ p' → listed.getD p.1 false = true → listed.getD p'.1 false = true → blkOf (a.tmps.getD p.2 undef) ≠ blkOf (a.tmps.getD p'.2 undef)
theorem SepL.other {fr : List (Nat × Nat)} {listed : Array Bool} {a : Act} {w w' : World} (h : SepL fr listed a w) {i : Nat} {dst : Option Tmp} {v : Value} (h1 : ∀ p ∈ fr, i ≠ p.1) (e1 : ∀ p ∈ fr, dst ≠ some p.2) (hw : w.heap.size ≤ w'.heap.size) : SepL fr (listed.setIfInBounds i true) (a.put dst v) w' := by
  refine ⟨fun p hp g => ?_, fun p hp p' hp' hne g g' => ?_⟩
  · rw [getD_off (h1 p hp)] at g
    obtain ⟨q, hq, hl⟩ := h.l p hp g
    exact ⟨q, by rw [put_off (e1 p hp)]; exact hq, by omega⟩
  · rw [getD_off (h1 p hp)] at g
    rw [getD_off (h1 p' hp')] at g'
    rw [put_off (e1 p hp), put_off (e1 p' hp')]
    exact h.n p hp p' hp' hne g g'
theorem SepL.this {fr : List (Nat × Nat)} {listed : Array Bool} {a : Act} {w w' : World} (h : SepL fr listed a w) {v : Value} {i d : Nat} (hi : ∀ p ∈ fr, p ≠ (i, d) → i ≠ p.1 ∧ d ≠ p.2) (hs : d < a.tmps.size) (hv : ∃ b, blkOf v = some b ∧ w.heap.size ≤ b ∧ b < w'.heap.size) :
    SepL fr (listed.setIfInBounds i true) (a.put (some d) v) w' := by
  obtain ⟨b, hb, hb1, hb2⟩ := hv
  have old : ∀ p ∈ fr, p ≠ (i, d) → (listed.setIfInBounds i true).getD p.1 false = true → ∃ q, blkOf ((a.put (some d) v).tmps.getD p.2 undef) = some q ∧ q < w.heap.size := by
    intro p hp c g
    obtain ⟨c1, c2⟩ := hi p hp c
    rw [getD_off c1] at g
    obtain ⟨q, hq, hl⟩ := h.l p hp g
    exact ⟨q, by rw [put_off (by simpa using c2)]; exact hq, hl⟩
  have new : blkOf ((a.put (some d) v).tmps.getD d undef) = some b := by rw [put_at hs, hb]
  have ne : ∀ q, q < w.heap.size → (some q : Option Nat) ≠ some b := by
    intro q hq x
    simp only [Option.some.injEq] at x
    omega
  refine ⟨fun p hp g => ?_, fun p hp p' hp' hne g g' => ?_⟩
  · by_cases c : p = (i, d)
    · subst c
      exact ⟨b, new, hb2⟩
    · obtain ⟨q, hq, hl⟩ := old p hp c g
      exact ⟨q, hq, by omega⟩
  · by_cases c : p = (i, d)
    · subst c
      obtain ⟨q, hq, hl⟩ := old p' hp' (Ne.symm hne) g'
      show blkOf ((a.put (some d) v).tmps.getD d undef) ≠ _
      rw [new, hq]
      exact (ne q hl).symm
    · obtain ⟨q, hq, hl⟩ := old p hp c g
      by_cases c' : p' = (i, d)
      · subst c'
        show _ ≠ blkOf ((a.put (some d) v).tmps.getD d undef)
        rw [new, hq]
        exact ne q hl
      · obtain ⟨c1, c2⟩ := hi p hp c
        obtain ⟨c1', c2'⟩ := hi p' hp' c'
        rw [getD_off c1] at g
        rw [getD_off c1'] at g'
        rw [put_off (by simpa using c2), put_off (by simpa using c2')]
        exact h.n p hp p' hp' hne g g'
abbrev HeadDone (P : Program) (ops : Array Oper) (Q : Exit → Act → World → Prop) (F : Nat → Fact) (a0 : Act) (w0 : World) (k : Nat) (fr : List (Nat × Nat)) : Prop :=
  ∀ a w, Based ops a0 a → Gm w0.heap.size w0 w → (∀ i o d, i < k → ops[i]? = some o → o.dst = some d → (F i).p (a.tmps.getD d undef) w) → (∀ p ∈ fr, ∀ p' ∈ fr, p ≠ p' → blkOf (a.tmps.getD p.2 undef) ≠ blkOf (a.tmps.getD p'.2 undef)) → tailWp P Q (ops.toList.drop k) a w
theorem any_tail {n k : Nat} (T : TextT md true ops n k) (hn : n ≤ a0.tmps.size) (steps : ∀ i, i < k → StepOk P md ops Q F a0 w0 i) (fr : List (Nat × Nat)) (hfr : ∀ p ∈ fr, p.1 < k ∧ writes ops p.1 p.2 = true ∧ FreshG P md ops Q F a0 w0 p.1) (hnd : ∀ p ∈ fr, ∀ p' ∈ fr, p ≠ p' → p.1 ≠ p'.1)
    (fin : HeadDone P ops Q F a0 w0 k fr) :
    ∀ (fuel : Nat) (listed : Array Bool) (a : Act) (w : World), left listed ops.size ≤ fuel → Held md ops F a0 w0 listed a w → SepL fr listed a w → (∀ j, k ≤ j → listed.getD j false = false) → ops.size - k ≤ fuel → wpAny P md ops Q fuel listed a w := by
  intro fuel
  induction fuel with
  | zero =>
    intro listed a w hl H S hk hf
    have hks : k = ops.size := by have := T.k1; omega
    have hall : ∀ i, i < ops.size → listed.getD i false = true := fun i hi => by
      rw [← dflt (by rw [H.s]; exact hi)]
      exact left_zero (n := ops.size) (by omega) i hi
    exact tail_any T 0 ops.size 0 listed a w (by omega) (by omega) H.s (fun j hj => hall j hj) (fun j hj => hk j (by omega)) (Nat.le_refl _) (hks ▸ fin a w H.b H.n (fun i o d hi ho hd => H.f i o d ho (hall i (by omega)) hd) (fun p hp p' hp' hne => S.n p hp p' hp' hne (hall p.1 (by have := (hfr p hp).1; omega)) (hall p'.1 (by have := (hfr p' hp').1; omega))))
  | succ fuel ih =>
    intro listed a w hl H S hk hf
    by_cases hall : ∀ j, j < k → listed.getD j false = true
    · exact tail_any T (ops.size - k) k (fuel + 1) listed a w (by have := T.k1; omega) (Nat.le_refl _) H.s hall hk hf (fin a w H.b H.n (fun i o d hi ho hd => H.f i o d ho (hall i hi) hd) (fun p hp p' hp' hne => S.n p hp p' hp' hne (hall p.1 (hfr p hp).1) (hall p'.1 (hfr p' hp').1)))
    · refine ⟨fun hr => ?_, fun i hi => ?_⟩
      · exfalso
        refine hall fun j hj => ?_
        have : ∀ m i, i < m → i < k → listed.getD i false = true := by
          intro m
          induction m with
          | zero => intro i hi; omega
          | succ m ihm =>
            intro i hi hik
            rcases Nat.lt_or_ge i m with h1 | h1
            · exact ihm i h1 hik
            · obtain rfl : i = m := by omega
              cases hc : listed.getD i false
              · exfalso
                have hks : i < ops.size := by have := T.k1; omega
                obtain ⟨o, ho⟩ : ∃ o, ops[i]? = some o := ⟨ops[i], by simp [hks]⟩
                have hr' : i ∈ Region.ready md ops listed := mem_ready.2 ⟨by rw [dflt (by rw [H.s]; omega)]; exact hc, o, ho, fun e he hb => ihm e.on (T.a i o ho e he hb) (by have := T.a i o ho e he hb; omega)⟩
                rw [hr] at hr'
                simp at hr'
              · rfl
        exact this (j + 1) j (by omega) hj
      · obtain ⟨h0, o, ho, hready⟩ := mem_ready.1 hi
        have hlt := (Array.getElem?_eq_some_iff.1 ho).1
        have hik : i < k := by
          rcases Nat.lt_or_ge i k with h1 | h1
          · exact h1
          · exfalso
            rcases Nat.lt_or_ge k i with h2 | h2
            · obtain ⟨e, he, hb, hq⟩ := T.l rfl i o h2 ho
              have := hready e he hb
              rw [hk e.on (by omega)] at this
              simp at this
            · obtain rfl : i = k := by omega
              refine hall fun j hj => ?_
              have ah : ∀ m j, i - j ≤ m → j < i → listed.getD j false = true := by
                intro m
                induction m with
                | zero => intro j hm hj; omega
                | succ m ihm =>
                  intro j hm hj
                  obtain ⟨p, oo, hjp, hpk, hoo, e, he, hb, rfl⟩ := T.c rfl hlt j hj
                  rcases Nat.lt_or_ge p i with h1 | h1
                  · exact H.c p oo hoo (ihm p (by omega) h1) e he hb
                  · obtain rfl : p = i := by omega
                    obtain rfl := Option.some.inj (ho.symm.trans hoo)
                    exact hready e he hb
              exact ah (i - j) j (Nat.le_refl _) hj
        have hwant : Region.wanted o (yielded ops a.tmps) = true := by simp [Region.wanted, T.g i o ho]
        refine wpOp_step ho fun K' hK => ?_
        rw [if_pos hwant]
        have hll := left_set (by rw [H.s]; exact hlt) h0 ops.size hlt
        have hfacts : ∀ j d, waits md ops i j d = true → (F j).p (a.tmps.getD d undef) w := by
          intro j d hjd
          unfold waits at hjd
          rw [ho] at hjd
          cases hoj : ops[j]? with
          | none => rw [hoj] at hjd; simp at hjd
          | some oj =>
            rw [hoj] at hjd
            simp only [Bool.and_eq_true, beq_iff_eq] at hjd
            obtain ⟨e, he, hb⟩ := Array.any_eq_true'.1 hjd.1
            simp only [Bool.and_eq_true, beq_iff_eq] at hb
            exact H.f j oj d hoj (by rw [← hb.2]; exact hready e he hb.1) hjd.2
        have htail : ops.size - k ≤ fuel := by
          -- k and all behind it are still to come, and i besides
          have lk : ∀ m, m ≤ ops.size → k ≤ m → (m - k) + left listed k ≤ left listed m := by
            intro m
            induction m with
            | zero => intro _ hk0; have : k = 0 := by omega
                      subst this; simp
            | succ m ihm =>
              intro hm hkm
              rcases Nat.lt_or_ge m k with c | c
              · have : k = m + 1 := by omega
                subst this
                omega
              · have q := ihm (by omega) c
                rw [left, if_pos (by rw [dflt (by rw [H.s]; omega)]; exact hk m c)]
                omega
          have l1 : 1 ≤ left listed k := by
            have := left_set (by rw [H.s]; exact hlt) h0 k hik
            omega
          have := lk ops.size (Nat.le_refl _) T.k1
          omega
        have go : ∀ v w', Gm w0.heap.size w w' → (F i).p v w' → SepL fr (listed.setIfInBounds i true) (a.put o.dst v) w' → K' (a.put o.dst v) w' := by
          intro v w' hw hf' hS
          refine hK _ _ (ih _ _ _ (by omega) (H.nextT T hn ho hi hw hf') hS (fun j hj => ?_) htail)
          rw [getD_off (by omega)]
          exact hk j hj
        by_cases c : ∃ p ∈ fr, i = p.1
        · obtain ⟨p, hp, rfl⟩ := c
          obtain ⟨_, hw', f⟩ := hfr p hp
          obtain ⟨op, hop, hdp⟩ := writes_is hw'
          obtain rfl := Option.some.inj (hop.symm.trans ho)
          refine f op ho a w H.b H.n hfacts K' fun v w' hw hf' hv => go v w' hw hf' ?_
          rw [hdp]
          refine S.this (i := p.1) (d := p.2) (fun p' hp' hne => ?_) (by rw [H.b.2.1]; exact Nat.lt_of_lt_of_le (T.d p.1 op p.2 hop hdp) hn) hv
          have n1 := hnd p hp p' hp' (Ne.symm hne)
          obtain ⟨o', ho', hd'⟩ := writes_is (hfr p' hp').2.1
          exact ⟨n1, fun e => T.x p.1 p'.1 op o' p.2 hop ho' n1 hdp (by rw [e]; exact hd')⟩
        · refine steps i hik o ho a w H.b H.n hfacts K' fun v w' hw hf' => go v w' hw hf' ?_
          refine S.other (fun p hp e => c ⟨p, hp, e⟩) (fun p hp e => ?_) hw.size
          obtain ⟨o', ho', hd'⟩ := writes_is (hfr p hp).2.1
          exact T.x i p.1 o o' p.2 ho ho' (fun x => c ⟨p, hp, x⟩) e hd'
theorem tail_line {n k : Nat} {draw : Bool} (T : TextT md draw ops n k) : ∀ (m t : Nat) (a : Act) (w : World), t + m = ops.size → k ≤ t → tailWp P Q (ops.toList.drop t) a w → wpOps P ops Q (List.range' t m) a w := by
  intro m
  induction m with
  | zero =>
    intro t a w ht hk hq
    obtain rfl : t = ops.size := by omega
    have e : ops.toList.drop ops.size = [] := by simp
    rw [e] at hq
    exact hq
  | succ m ih =>
    intro t a w ht hk hq
    have hlt : t < ops.size := by omega
    obtain ⟨o, ho⟩ : ∃ o, ops[t]? = some o := ⟨ops[t], by simp [hlt]⟩
    have e : ops.toList.drop t = o :: ops.toList.drop (t + 1) := by
      rw [List.drop_eq_getElem_cons (by simpa using hlt)]
      congr 1
      have := (Array.getElem?_eq_some_iff.1 ho).2
      simpa using this
    rw [e] at hq
    have hwant : Region.wanted o (yielded ops a.tmps) = true := by simp [Region.wanted, T.g t o ho]
    rw [List.range'_succ, wpOps_cons]
    refine wpOp_step ho fun K' hK => ?_
    rw [if_pos hwant]
    exact Oper.wp_mono (fun a' w' h => hK _ _ (ih (t + 1) a' w' (by omega) (by omega) h)) hq
theorem line_tail {n k : Nat} {draw : Bool} (T : TextT md draw ops n k) (hn : n ≤ a0.tmps.size) (steps : ∀ i, i < k → StepOk P md ops Q F a0 w0 i) (fr : List (Nat × Nat)) (hfr : ∀ p ∈ fr, p.1 < k ∧ writes ops p.1 p.2 = true ∧ FreshG P md ops Q F a0 w0 p.1) (hnd : ∀ p ∈ fr, ∀ p' ∈ fr, p ≠ p' → p.1 ≠ p'.1)
    (fin : HeadDone P ops Q F a0 w0 k fr) :
    ∀ (m i : Nat) (listed : Array Bool) (a : Act) (w : World), i + m = ops.size → i ≤ k → Based ops a0 a → Gm w0.heap.size w0 w → (∀ j o d, j < i → ops[j]? = some o → o.dst = some d → (F j).p (a.tmps.getD d undef) w) → listed.size = ops.size → (∀ j, j < i → listed.getD j false = true) → SepL fr listed a w →
      wpOps P ops Q (List.range' i m) a w := by
  intro m
  induction m with
  | zero =>
    intro i listed a w him hik hb hw hf hs hl S
    obtain rfl : i = k := by have := T.k1; omega
    exact tail_line T 0 i a w (by omega) (Nat.le_refl _) (fin a w hb hw hf (fun p hp p' hp' hne => S.n p hp p' hp' hne (hl p.1 (hfr p hp).1) (hl p'.1 (hfr p' hp').1)))
  | succ m ih =>
    intro i listed a w him hik hb hw hf hs hl S
    have hlt : i < ops.size := by omega
    obtain ⟨o, ho⟩ : ∃ o, ops[i]? = some o := ⟨ops[i], by simp [hlt]⟩
    rcases Nat.lt_or_ge i k with h1 | h1
    · have hwant : Region.wanted o (yielded ops a.tmps) = true := by simp [Region.wanted, T.g i o ho]
      rw [List.range'_succ, wpOps_cons]
      refine wpOp_step ho fun K' hK => ?_
      rw [if_pos hwant]
      have hfacts : ∀ j d, waits md ops i j d = true → (F j).p (a.tmps.getD d undef) w := by
        intro j d hjd
        unfold waits at hjd
        rw [ho] at hjd
        cases hoj : ops[j]? with
        | none => rw [hoj] at hjd; simp at hjd
        | some oj =>
          rw [hoj] at hjd
          simp only [Bool.and_eq_true, beq_iff_eq] at hjd
          obtain ⟨e, he, hb⟩ := Array.any_eq_true'.1 hjd.1
          simp only [Bool.and_eq_true, beq_iff_eq] at hb
          exact hf j oj d (by rw [← hb.2]; exact T.a i o ho e he hb.1) hoj hjd.2
      have go : ∀ v w', Gm w0.heap.size w w' → (F i).p v w' → SepL fr (listed.setIfInBounds i true) (a.put o.dst v) w' → K' (a.put o.dst v) w' := by
        intro v w' hw' hfv hS
        refine hK _ _ (ih (i + 1) (listed.setIfInBounds i true) _ _ (by omega) (by omega) ⟨by rw [put_defers]; exact hb.1, by rw [put_size]; exact hb.2.1, fun d hd => ?_⟩ (Gm.trans hw hw') ?_ (by simp [hs]) (fun j hj => ?_) hS)
        · rw [put_off]
          · exact hb.2.2 d hd
          · have q := Array.all_eq_true_iff_forall_mem.1 hd o (Array.mem_of_getElem? ho)
            simpa using q
        · intro j oj d hj hoj hd
          by_cases e : i = j
          · subst e
            obtain rfl := Option.some.inj (ho.symm.trans hoj)
            rw [hd, put_at (Nat.lt_of_lt_of_le (T.d i o d ho hd) (hb.2.1 ▸ hn))]
            exact hfv
          · rw [put_off (T.x j i oj o d hoj ho (Ne.symm e) hd)]
            exact (F j).up hw' (hf j oj d (by omega) hoj hd)
        · by_cases c : i = j
          · subst c
            exact getD_same (by rw [hs]; exact hlt) _
          · rw [getD_off c]
            exact hl j (by omega)
      by_cases c : ∃ p ∈ fr, i = p.1
      · obtain ⟨p, hp, rfl⟩ := c
        obtain ⟨_, hw', f⟩ := hfr p hp
        obtain ⟨op, hop, hdp⟩ := writes_is hw'
        obtain rfl := Option.some.inj (hop.symm.trans ho)
        refine f op ho a w hb hw hfacts K' fun v w' hw' hf' hv => go v w' hw' hf' ?_
        rw [hdp]
        refine S.this (i := p.1) (d := p.2) (fun p' hp' hne => ?_) (by rw [hb.2.1]; exact Nat.lt_of_lt_of_le (T.d p.1 op p.2 hop hdp) hn) hv
        have n1 := hnd p hp p' hp' (Ne.symm hne)
        obtain ⟨o', ho', hd'⟩ := writes_is (hfr p' hp').2.1
        exact ⟨n1, fun e => T.x p.1 p'.1 op o' p.2 hop ho' n1 hdp (by rw [e]; exact hd')⟩
      · refine steps i h1 o ho a w hb hw hfacts K' fun v w' hw' hf' => go v w' hw' hf' ?_
        refine S.other (fun p hp e => c ⟨p, hp, e⟩) (fun p hp e => ?_) hw'.size
        obtain ⟨o', ho', hd'⟩ := writes_is (hfr p hp).2.1
        exact T.x i p.1 o o' p.2 ho ho' (fun x => c ⟨p, hp, x⟩) e hd'
    · obtain rfl : i = k := by omega
      exact tail_line T (m + 1) i a w him (Nat.le_refl _) (fin a w hb hw hf (fun p hp p' hp' hne => S.n p hp p' hp' hne (hl p.1 (hfr p hp).1) (hl p'.1 (hfr p' hp').1)))
theorem region_tail {id : Nat} {w : World} {draw : Bool} (k : Nat) (F : Nat → Fact) (hm : P.follows .mixedOrders = true) (hT : textTail .any draw ops a0.tmps.size k = true) (steps : ∀ i, i < k → StepOk P .any ops Q F a0 w i)
    (fr : List (Nat × Nat)) (hfr : ∀ p ∈ fr, p.1 < k ∧ writes ops p.1 p.2 = true ∧ FreshG P .any ops Q F a0 w p.1) (hnd : ∀ p ∈ fr, ∀ p' ∈ fr, p ≠ p' → p.1 ≠ p'.1)
    (fin : ∀ a w', Based ops a0 a → Gm w.heap.size w w' → (∀ i d, decide (i < k) = true → writes ops i d = true → (F i).p (a.tmps.getD d undef) w') → (∀ p ∈ fr, ∀ p' ∈ fr, p ≠ p' → blkOf (a.tmps.getD p.2 undef) ≠ blkOf (a.tmps.getD p'.2 undef)) → tailWp P Q (ops.toList.drop k) a w') : (Code.region id ops draw).wp P Q a0 w := by
  have T := textT_of hT
  have fin' : HeadDone P ops Q F a0 w k fr := fun a w' hb hw hf hne => fin a w' hb hw (fun i d hi hd => by
    obtain ⟨o, ho, hd'⟩ := writes_is hd
    exact hf i o d (of_decide_eq_true hi) ho hd') hne
  have z : ∀ j, (Array.replicate ops.size false).getD j false = false := fun j => by
    rw [Array.getD_eq_getD_getElem?, Array.getElem?_replicate]
    split <;> rfl
  have S0 : ∀ w', SepL fr (Array.replicate ops.size false) a0 w' := fun w' => ⟨fun p hp g => by rw [z] at g; simp at g, fun p hp p' hp' hne g g' => by rw [z] at g; simp at g⟩
  cases draw with
  | false =>
    refine wp_region ?_
    have h := line_tail (w0 := w) T (Nat.le_refl _) steps fr hfr hnd fin' ops.size 0 (Array.replicate ops.size false) a0 w (by omega) (by omega) ⟨rfl, rfl, fun _ _ => rfl⟩ (Gm.refl _ _) (fun j o d hj => by omega) (by simp) (fun j hj => by omega) (S0 w)
    rw [List.range_eq_range']
    exact h
  | true =>
    refine wp_region_any hm ?_
    refine any_tail (w0 := w) T (Nat.le_refl _) steps fr hfr hnd fin' ops.size _ a0 _ ?_ ⟨⟨rfl, rfl, fun _ _ => rfl⟩, (Gm.refl _ _).drew, ?_, ?_, by simp⟩ (S0 _) (fun j _ => z j) (by omega)
    · have : ∀ m, left (Array.replicate ops.size false) m ≤ m := by
        intro m
        induction m with
        | zero => exact Nat.le_refl _
        | succ m ih => unfold left; split <;> omega
      exact this _
    · intro i o d ho hl _
      rw [z] at hl
      simp at hl
    · intro i o ho hl
      rw [z] at hl
      simp at hl
theorem puts_tail {n k : Nat} {draw : Bool} (hT : textTail md draw ops n k = true) (hn : n = a0.tmps.size) {a : Act} (hb : Based ops a0 a) (vs : Nat → Value) (hv : ∀ d, a.tmps.getD d undef = vs d) : a = puts vs a0 ops.toList := by
  have T := textT_of hT
  have hin : ∀ o ∈ ops.toList, ∀ e, o.dst = some e → e < a0.tmps.size := fun o ho e he => by
    obtain ⟨i, hi⟩ := List.getElem?_of_mem ho
    have := T.d i o e (by simpa using hi) he
    rw [hn] at this
    exact this
  obtain ⟨s1, s2⟩ := puts_size vs ops.toList a0
  obtain ⟨ta, da⟩ := a
  obtain ⟨h1, h2, h3⟩ := hb
  have e1 : ta = (puts vs a0 ops.toList).tmps := by
    apply Array.ext
    · rw [s1]; exact h2
    · intro i hi hi'
      have g := puts_get vs i ops.toList a0 hin
      have l : ta[i] = ta.getD i undef := by simp [Array.getD_eq_getD_getElem?, hi]
      have r : (puts vs a0 ops.toList).tmps[i] = (puts vs a0 ops.toList).tmps.getD i undef := by simp only [Array.getD_eq_getD_getElem?, Array.getElem?_eq_getElem hi', Option.getD_some]
      rw [l, r, g]
      by_cases c : ops.toList.any (fun o => o.dst == some i) = true
      · rw [if_pos c]; exact hv i
      · rw [if_neg c]
        refine h3 i ?_
        unfold apart
        rw [Array.all_eq_true_iff_forall_mem]
        intro o ho
        have hne : ¬ (o.dst == some i) = true := fun x => c (List.any_eq_true.2 ⟨o, by simpa using ho, x⟩)
        simpa using hne
  have e2 : da = (puts vs a0 ops.toList).defers := h1.trans s2.symm
  subst e1
  subst e2
  rfl
theorem Based.put {a : Act} (hb : Based ops a0 a) {o : Oper} {i : Nat} (ho : ops[i]? = some o) (v : Value) : Based ops a0 (a.put o.dst v) := by
  refine ⟨by rw [put_defers]; exact hb.1, by rw [put_size]; exact hb.2.1, fun d hd => ?_⟩
  rw [put_off]
  · exact hb.2.2 d hd
  · have q := Array.all_eq_true_iff_forall_mem.1 hd o (Array.mem_of_getElem? ho)
    simpa using q
end
end Go.Proofs.YtccnhdicibjbaaaGreat.Mk
namespace Go.Proofs.YtccnhdicibjbaaaGreat
open Go Go.RowKit
def NBt (b : Nat) (t : TypeId) (zs : List Value) : Fact := ⟨fun v w => ∃ q, v = .pointer (some ⟨q, 0, none⟩) ∧ b ≤ q ∧ RwC w q zs t, fun n h => by
  obtain ⟨q, e, l, r⟩ := h
  exact ⟨q, e, l, r.up n⟩⟩
def putAt : List Value → Nat → List Value → List Value
  | zs, _, [] => zs
  | zs, o, v :: vs => putAt (zs.set o v) (o + 1) vs
theorem putAt_get : ∀ (vs zs : List Value) (o i : Nat), o + vs.length ≤ zs.length → (putAt zs o vs)[i]? = if o ≤ i ∧ i < o + vs.length then vs[i - o]? else zs[i]?
  | [], zs, o, i, _ => by
    rw [if_neg (by simp only [List.length_nil]; omega)]
    rfl
  | v :: vs, zs, o, i, h => by
    simp only [List.length_cons] at h ⊢
    rw [putAt, putAt_get vs (zs.set o v) (o + 1) i (by rw [List.length_set]; omega)]
    by_cases e : o = i
    · subst e
      rw [if_neg (by omega), if_pos (by omega), List.getElem?_set_self (by omega), Nat.sub_self]
      rfl
    · by_cases h2 : o + 1 ≤ i ∧ i < o + 1 + vs.length
      · rw [if_pos h2, if_pos (by omega), show i - o = (i - (o + 1)) + 1 by omega]
        rfl
      · rw [if_neg h2, if_neg (by omega), List.getElem?_set_ne e]
theorem putAt_all {zs cs : List Value} (h : cs.length = zs.length) : putAt zs 0 cs = cs := by
  apply List.ext_getElem?
  intro i
  rw [putAt_get cs zs 0 i (by omega)]
  by_cases hi : i < cs.length
  · rw [if_pos (by omega)]
    rfl
  · rw [if_neg (by omega), List.getElem?_eq_none (by omega), List.getElem?_eq_none (by omega)]
theorem RwC.puts {t : TypeId} {q : Nat} : ∀ (vs zs : List Value) (w : World) (o : Nat), RwC w q zs t → RwC (w.setCells q o vs) q (putAt zs o vs) t
  | [], _, _, _, h => h
  | v :: vs, zs, w, o, h => RwC.puts vs (zs.set o v) (w.setCell ⟨q, o, none⟩ v) (o + 1) (h.set o v)
theorem RwC.put {w : World} {q : Nat} {zs cs : List Value} {t : TypeId} (h : RwC w q zs t) (hl : cs.length = zs.length) : RwC (w.setCells q 0 cs) q cs t := by
  have := RwC.puts cs zs w 0 h
  rwa [putAt_all hl] at this
section
variable {P : Program} {ops : Array Oper} {Q : Exit → Act → World → Prop}
end
end Go.Proofs.YtccnhdicibjbaaaGreat
namespace Go.Proofs.YtccnhdicibjbaaaGreat.Mk
open Go Go.RowKit
def RoF (b : Nat) (xs : List Int) (hx : LN < xs.length) : Fact := ⟨fun v w => RowB w b v xs, fun n h => by
  refine ⟨h.1, ?_⟩
  rcases h.2 with h' | ⟨g, cap, cur, rfl, hbg, hg, hnc, hcm, hcs, hT⟩
  · exact .inl h'
  · refine .inr ⟨g, cap, cur, rfl, hbg, ?_, hnc, hcm, hcs, hT⟩
    have hl : g < _ := (Array.getElem?_eq_some_iff.1 hg).1
    rcases n.block g hl with e | ⟨_, cs, t, m, m', hs, e1, _⟩
    · exact e.trans hg
    · rw [hg] at e1
      injection e1 with e1
      injection e1 with e1 _ _
      rw [← e1] at hs
      omega⟩
def DrF (xs : List Int) : Fact := ⟨fun v w => ∃ (a : Option Addr) (c g : Nat), v = .slice a xs.length c ∧ Rd w g a .u8 xs ∧ (a = none → c = 0) ∧ xs.length ≤ c, fun n h => by
  obtain ⟨a, c, g, e, r, z, l⟩ := h
  exact ⟨a, c, g, e, rd_gm r n, z, l⟩⟩
theorem DrF.of_row {b : Nat} {xs : List Int} {v : Value} {w : World} (h : RowB w b v xs) : (DrF xs).p v w := by
  obtain ⟨a, c, g, e, r, z, l, -⟩ := h.rd
  exact ⟨a, c, g, e, r, z, l⟩
def LitF (b : Nat) (ys : List Int) : Fact := ⟨fun v w => ∃ g m, v = .slice (some ⟨g, 0, none⟩) ys.length ys.length ∧ b ≤ g ∧ w.heap[g]? = some (.cells (ys.map (Value.int .u8)).toArray 5 m), fun n h => by
  obtain ⟨g, m, e, hb, hg⟩ := h
  have hl : g < _ := (Array.getElem?_eq_some_iff.1 hg).1
  rcases n.block g hl with f | ⟨_, cs, t, m1, m2, hs, f1, f2⟩
  · exact ⟨g, m, e, hb, f.trans hg⟩
  · rw [hg] at f1
    injection f1 with f1
    injection f1 with g1 g2 _
    rw [← g1, ← g2] at f2
    exact ⟨g, m2, e, hb, f2⟩⟩
theorem rd_lit {w : World} {g : Nat} {ys : List Int} {m : Nat × Nat} (h : w.heap[g]? = some (.cells (ys.map (Value.int .u8)).toArray 5 m)) : Rd w g (some ⟨g, 0, none⟩) .u8 ys := fun _ => ⟨0, rfl, fun i hi => by
  rw [Nat.zero_add]
  simp only [World.cell?, h]
  simp [hi]⟩
theorem conv_mark {P : Program} (t : TypeId) (ht : P.underlying t = some (.slice 5)) (he : P.underlying 5 = some (.int .u8)) {w : World} {g n c : Nat} {cs : Array Value} {e : TypeId} {m : Nat × Nat} (h : w.heap[g]? = some (.cells cs e m)) :
    (convert t t (.slice (some ⟨g, 0, none⟩) n c)).run P w = .ok (.slice (some ⟨g, 0, none⟩) n c) (w.freeze ⟨g, cs.size, none⟩ 1) := by
  have hsh : w.shape? g = some (e, cs.size) := by
    unfold World.shape?
    rw [h]
  simp [convert, run_underlying ht, run_underlying he, markStringish, hsh]
theorem freeze_at {w : World} {g k : Nat} {cs : Array Value} {e : TypeId} {m : Nat × Nat} (h : w.heap[g]? = some (.cells cs e m)) : ∃ m', (w.freeze ⟨g, k, none⟩ 1).heap[g]? = some (.cells cs e m') := by
  unfold World.freeze
  rw [if_neg (by decide)]
  obtain ⟨lo, hi⟩ := m
  refine ⟨if (lo == hi) = true then (k, k + 1) else (min lo k, max hi (k + 1)), ?_⟩
  show (w.heap.modify g _)[g]? = _
  rw [Array.getElem?_modify, if_pos rfl, h]
  rfl
theorem freeze_off {w : World} {g k b : Nat} (hb : b ≠ g) : (w.freeze ⟨g, k, none⟩ 1).heap[b]? = w.heap[b]? := by
  unfold World.freeze
  rw [if_neg (by decide)]
  show (w.heap.modify g _)[b]? = _
  rw [Array.getElem?_modify, if_neg (Ne.symm hb)]
theorem freeze_gm {w : World} {B g k : Nat} {cs : Array Value} {e : TypeId} {m : Nat × Nat} (h : w.heap[g]? = some (.cells cs e m)) (hs : cs.size = LN) (hB : B ≤ g) : Gm B w (w.freeze ⟨g, k, none⟩ 1) := by
  obtain ⟨m', h'⟩ := freeze_at (k := k) h
  have hz : (w.freeze ⟨g, k, none⟩ 1).heap.size = w.heap.size := by
    unfold World.freeze
    rw [if_neg (by decide)]
    show (w.heap.modify g _).size = _
    simp
  refine ⟨?_, ?_, ?_, Nat.le_of_eq hz.symm, fun b _ => ?_⟩
  · unfold World.freeze; rw [if_neg (by decide)]
  · unfold World.freeze; rw [if_neg (by decide)]
  · unfold World.freeze; rw [if_neg (by decide)]
  · by_cases hb : b = g
    · subst hb
      exact .inr ⟨hB, cs, e, m, m', hs, h, h'⟩
    · exact .inl (freeze_off hb)
section
variable {P : Program} {ops : Array Oper} {Q : Exit → Act → World → Prop} {md : Region.Mode} {F : Nat → Fact} {a0 : Act} {w0 : World}
theorem step_lit {i : Nat} {o : Oper} (hi : ops[i]? = some o) (ys : List Int) (hr : ∀ (a : Act) (w : World), (execOp a.eval o).run P w = .ok (.value (.slice (some ⟨w.heap.size, 0, none⟩) ys.length ys.length)) (w.alloc (.cells (ys.map (Value.int .u8)).toArray 5))) (hF : F i = LitF w0.heap.size ys) : StepOk P md ops Q F a0 w0 i := by
  refine step_grow hi fun a w _ hw _ => ⟨_, _, hr a w, Gm.of_below ((Below.refl _ _).alloc (Nat.le_refl _) _), ?_⟩
  rw [hF]
  exact ⟨w.heap.size, (0, 0), rfl, hw.size, heap_alloc_new w _⟩
theorem step_mark {i : Nat} {o : Oper} (hi : ops[i]? = some o) (t : TypeId) (ht : P.underlying t = some (.slice 5)) (he : P.underlying 5 = some (.int .u8)) (ys : List Int) (hy : ys.length = LN) (j p : Nat) (hop : o.op = .convert t t (.tmp p)) (hj : F j = LitF w0.heap.size ys) (hp : waits md ops i j p = true) (hF : F i = DrF ys) : StepOk P md ops Q F a0 w0 i := by
  refine step_grow hi fun a w _ hw hf => ?_
  have f := hf j p hp
  rw [hj] at f
  obtain ⟨g, m, e, hb, hg⟩ := f
  have cv := conv_mark (P := P) t ht he (n := ys.length) (c := ys.length) hg
  have hs : (ys.map (Value.int .u8)).toArray.size = LN := by simp [hy]
  have GM := freeze_gm (B := w0.heap.size) (k := (ys.map (Value.int .u8)).toArray.size) hg hs hb
  obtain ⟨m', h'⟩ := freeze_at (k := (ys.map (Value.int .u8)).toArray.size) hg
  refine ⟨.slice (some ⟨g, 0, none⟩) ys.length ys.length, _, ?_, GM, ?_⟩
  · have e' : a.eval (.tmp p) = .slice (some ⟨g, 0, none⟩) ys.length ys.length := e
    simp only [execOp, hop, e', Sem.run_bind, cv, Result.andThen_ok]
    rfl
  · rw [hF]
    exact ⟨_, _, g, rfl, rd_lit h', (fun h => nomatch h), Nat.le_refl _⟩
end
section
variable {P : Program} {ops : Array Oper} {Q : Exit → Act → World → Prop} {a0 : Act}
theorem region_appA {id : Nat} {draw : Bool} {w : World} (k jR jS pR pS dA d2 : Nat) (t : TypeId) (o o2 : Oper) (F : Nat → Fact) (GR GS : Fact) (R : Value → World → Prop) (hm : P.follows .mixedOrders = true) (hT : textTail .any draw ops a0.tmps.size k = true) (hk : ops.toList.drop k = [o, o2]) (ho : ops[k]? = some o) (ho2 : ops[k + 1]? = some o2)
    (hop : o.op = .call { callee := .builtin .append, args := #[.tmp pR, .tmp pS], argTypes := #[t, t] }) (hty : o.type = t) (hd : o.dst = some dA) (hd2 : o2.dst = some d2) (hop2 : o2.op = .assign (.tmp dA)) (sA : dA < a0.tmps.size) (s2 : d2 < a0.tmps.size)
    (wR : decide (jR < k) = true ∧ writes ops jR pR = true) (FR : F jR = GR) (wS : decide (jS < k) = true ∧ writes ops jS pS = true) (FS : F jS = GS) (steps : ∀ i, i < k → StepOk P .any ops Q F a0 w i)
    (hA : ∀ W vR vS, Gm w.heap.size w W → GR.p vR W → GS.p vS W → ∃ v' w', (Builtin.append_ #[t, t] t #[vR, vS]).run P W = .ok v' w' ∧ R v' w')
    (fin : ∀ (vs : Nat → Value) (W : World) (v' : Value), vs d2 = v' → R v' W → Q .normal (puts vs a0 ops.toList) W) : (Code.region id ops draw).wp P Q a0 w := by
  refine region_tail k F hm hT steps [] (by simp) (by simp) fun a W hb hw hf _ => ?_
  rw [hk]
  show o.wp P a W (fun a' w'' => o2.wp P a' w'' (fun a'' w3 => Q .normal a'' w3) Q) Q
  have e1 := hf jR pR wR.1 wR.2
  rw [FR] at e1
  have e2 := hf jS pS wS.1 wS.2
  rw [FS] at e2
  obtain ⟨v', w', hr, hR⟩ := hA W _ _ hw e1 e2
  refine Lib.wp_append_run W (.tmp pR) (.tmp pS) t t hop _ _ rfl rfl v' w' (by rw [hty]; exact hr) ?_
  have hb1 := Based.put hb ho v'
  have ea : (a.put o.dst v').eval (.tmp dA) = v' := by
    rw [hd]
    exact put_at (by rw [hb.2.1]; exact sA)
  have hr2 : (execOp (a.put o.dst v').eval o2).run P w' = .ok (.value v') w' := by
    simp [execOp, hop2, ea]
  have hb2 := Based.put hb1 ho2 v'
  have e3 : ((a.put o.dst v').put o2.dst v').tmps.getD d2 undef = v' := by
    rw [hd2]
    exact put_at (by rw [hb1.2.1]; exact s2)
  show o2.upon P (a.put o.dst v') (fun a'' w3 => Q .normal a'' w3) Q ((execOp (a.put o.dst v').eval o2).run P w')
  rw [hr2, Oper.upon_value]
  show Q .normal ((a.put o.dst v').put o2.dst v') w'
  obtain ⟨vs, hvs⟩ : ∃ vs : Nat → Value, ∀ d, ((a.put o.dst v').put o2.dst v').tmps.getD d undef = vs d := ⟨_, fun _ => rfl⟩
  rw [puts_tail hT rfl hb2 vs hvs]
  exact fin vs w' v' (by rw [← hvs, e3]) hR
def NBt (b : Nat) (t : TypeId) (zs : List Value) (hz : zs.length ≠ LN) : Fact := ⟨fun v w => ∃ q, v = .pointer (some ⟨q, 0, none⟩) ∧ b ≤ q ∧ RwC w q zs t, fun n h => by
  obtain ⟨q, e, l, r⟩ := h
  refine ⟨q, e, l, ?_⟩
  rcases n.block q r.lt with f | ⟨_, cs, t', m1, m2, hs, f1, f2⟩
  · exact f.trans r
  · have r' : _ = _ := r
    rw [r'] at f1
    injection f1 with f1
    injection f1 with g1 _ _
    rw [← g1] at hs
    exact absurd (by simpa using hs) hz⟩
theorem region_newM {id : Nat} {draw : Bool} {w : World} (k jA jV pA pV : Nat) (o : Oper) (F : Nat → Fact) (t : TypeId) (zs : List Value) (hz : zs.length ≠ LN) (G : Fact) (hm : P.follows .mixedOrders = true) (hT : textOk .any ops a0.tmps.size k = true) (hk : ops[k]? = some o) (hd : o.dst = none)
    (hop : o.op = .store t (.tmp pA) (.tmp pV)) (hi : (P.info? t).map (·.size) = some zs.length) (wA : writes ops jA pA = true) (FA : F jA = NBt w.heap.size t zs hz) (wV : writes ops jV pV = true) (FV : F jV = G)
    (hG : ∀ v W, G.p v W → ∃ cs : List Value, v = .agg cs.toArray ∧ cs.length = zs.length ∧ cs.toArray.all (·.oneCell') = true) (steps : ∀ i, i < k → StepOk P .any ops Q F a0 w i)
    (fin : ∀ (vs : Nat → Value) (W W' : World) (q : Nat) (cs : List Value), vs pA = .pointer (some ⟨q, 0, none⟩) → w.heap.size ≤ q → Below w.heap.size w W → RwC W q zs t → G.p (.agg cs.toArray) W → Only q W W' → RwC W' q cs t → Below w.heap.size w W' → Q .normal (puts vs a0 ops.toList) W') : (Code.region id ops draw).wp P Q a0 w := by
  refine region_store k o F hm hT hk hd steps fun a W hb hw hF => ?_
  have e1 := hF jA pA wA
  have e2 := hF jV pV wV
  rw [FA] at e1
  rw [FV] at e2
  obtain ⟨q, e1, hB, hq⟩ := e1
  obtain ⟨cs, ev, hl, h1⟩ := hG _ _ e2
  have TH : W.there q 0 cs.length := by rw [hl]; exact hq.thereG
  refine wp_store_mid _ (.tmp pA) (.tmp pV) hop q 0 cs.toArray e1 ev (by simpa using TH) (by rw [hi]; simp [hl]) h1 ?_
  obtain ⟨vs, hvs⟩ : ∃ vs : Nat → Value, ∀ d, a.tmps.getD d undef = vs d := ⟨_, fun _ => rfl⟩
  rw [hd]
  show Q .normal a _
  rw [puts_of hT rfl hb vs hvs]
  have OQ := only_setG W q cs 0
  have e2' : G.p (.agg cs.toArray) W := by rw [← ev]; exact e2
  exact fin vs W _ q cs ((hvs pA).symm.trans e1) hB hw.below0 hq e2' OQ (RwC.put hq hl) (hw.below0.trans (OQ.below hB))
end
end Go.Proofs.YtccnhdicibjbaaaGreat.Mk
namespace Go.Proofs.YtccnhdicibjbaaaGreat
open Go Go.RowKit
def otN (T : List Int) : List Int := T.take 12
def otS (T : List Int) : List Int := T.drop 12
def tkG (key T : List Int) : Bool := decide (12 ≤ T.length) && opB key (otN T) tkM (otS T)
def otP (key T : List Int) : List Int := if tkG key T = true then opL key (otN T) tkM (otS T) else []
theorem dsB_nil : dsB [] = false := by
  cases e : dsB []
  · rfl
  · have := dsB_len e
    simp at this
theorem byt_takeT {xs : List Int} (h : Byt xs) (n : Nat) : Byt (xs.take n) := fun i => by
  rw [List.getD_eq_getElem?_getD, List.getElem?_take]
  split
  · have := h i; rwa [List.getD_eq_getElem?_getD] at this
  · exact ⟨by simp, by simp⟩
theorem byt_dropT {xs : List Int} (h : Byt xs) (n : Nat) : Byt (xs.drop n) := fun i => by
  rw [List.getD_eq_getElem?_getD, List.getElem?_drop, ← List.getD_eq_getElem?_getD]
  exact h _
theorem opL_bytT {key non ex sd : List Int} (hb : Byt sd) : Byt (opL key non ex sd) := by
  unfold opL
  split
  · exact xt_byt key non (byt_takeT hb _)
  · exact fun i => by simp
theorem iOrT : (Tryz.prog.info? 38).map (·.size) = some 2 := by kernel_rfl
theorem oneOrT (b : Bool) (a : Option Addr) (n c : Nat) : ([.bool b, .slice a n c] : List Value).toArray.all (·.oneCell') = true := all_oneCell_toArray fun v hv => by
  simp only [List.mem_cons, List.not_mem_nil, or_false] at hv
  rcases hv with rfl | rfl
  all_goals rfl
def OpF (t : Bool) (L : List Int) : Mk.Fact := ⟨fun v w => ∃ (a : Option Addr) (c g : Nat), v = .agg #[.bool t, .slice a L.length c] ∧ Rd w g a .u8 L ∧ (a = none → c = 0) ∧ L.length ≤ c, fun n h => by
  obtain ⟨a, c, g, e, r, z, l⟩ := h
  exact ⟨a, c, g, e, Mk.rd_gm r n, z, l⟩⟩
theorem rd_neT {w : World} {g q : Nat} {a : Option Addr} {xs : List Int} {b : Bool} {t : TypeId} (h : Rd w g a .u8 xs) (hq : RwC w q [.bool b, .slice none 0 0] t) : 0 < xs.length → g ≠ q := fun h0 e => by
  subst e
  obtain ⟨off, ha, hc⟩ := h h0
  have h1 := hc 0 h0
  rw [Nat.add_zero, hq.cell off] at h1
  match off, h1 with
  | 0, h1 => simp at h1
  | 1, h1 => simp at h1
  | n + 2, h1 => simp at h1
def NewRE (B : Nat) (w' : World) (e : Ending) (gd : Bool) (xs ys : List Int) (md li : Int) (ho pr : ByteArray) (ea : Int) : Prop :=
  (∃ (a : Option Addr) (c g : Nat) (a' : Option Addr) (c' g' : Nat), e = .returned (.agg #[.bool gd, .slice a xs.length c, .slice a' ys.length c', .int .i64 md, .int .i64 li, .string ho, .string pr, .int .i64 ea]) ∧ Own w' g a .u8 xs ∧ Own w' g' a' .u8 ys ∧ g ≠ g' ∧ B ≤ g ∧ g < w'.heap.size ∧ B ≤ g' ∧ g' < w'.heap.size)
  ∨ (xs = [] ∧ ys = [] ∧ e = .returned (.agg #[.bool gd, .slice none 0 0, .slice none 0 0, .int .i64 md, .int .i64 li, .string ho, .string pr, .int .i64 ea]))
def NewDE (B : Nat) (w' : World) (e : Ending) (b : List Int) : Prop := NewRE B w' e (dsB b) (rX b) (rY b) (rM b) (rL b) ⟨⟨rH b⟩⟩ ⟨⟨rP b⟩⟩ (rE b)
theorem NewDE.zero (B : Nat) (w' : World) : NewDE B w' (.returned (.agg #[.bool false, .slice none 0 0, .slice none 0 0, .int .i64 0, .int .i64 0, .string ⟨#[]⟩, .string ⟨#[]⟩, .int .i64 0])) [] := by
  have h : ¬ dsB [] = true := by rw [dsB_nil]; decide
  unfold NewDE rX rY rM rL rH rP rE
  rw [if_neg h, if_neg h, if_neg h, if_neg h, if_neg h, if_neg h, if_neg h, dsB_nil]
  exact .inr ⟨rfl, rfl, rfl⟩
set_option maxRecDepth 100000 in
set_option maxHeartbeats 8000000 in
theorem implOt_any (w : World) (g : Nat) (a : Option Addr) (c : Nat) (key : List Int) (hr : Rd w g a .u8 key) (hb : Byt key) (hc : key.length ≤ c) (g' : Nat) (a' : Option Addr) (c' : Nat) (T : List Int) (hr' : Rd w g' a' .u8 T) (hb' : Byt T) (hc' : T.length ≤ c') (hl : T.length ≤ 1048576) :
    Calls Tryz.prog 8 #[.slice a key.length c, .slice a' T.length c'] w fun e w' => NewDE w.heap.size w' e (otP key T) ∧ Below w.heap.size w w' := by
  obtain ⟨dR, hdR, hrowR⟩ := rowSr
  have z1 : (w.alloc (.cells #[.bool false, .slice none 0 0, .slice none 0 0, .int .i64 0, .int .i64 0, .string ⟨#[]⟩, .string ⟨#[]⟩, .int .i64 0] 30)).heap.size = w.heap.size + 1 := by simp
  have n1 : Below w.heap.size w (w.alloc (.cells #[.bool false, .slice none 0 0, .slice none 0 0, .int .i64 0, .int .i64 0, .string ⟨#[]⟩, .string ⟨#[]⟩, .int .i64 0] 30)) := (Below.refl _ _).alloc (Nat.le_refl _) _
  have Q0 : RwC (w.alloc (.cells #[.bool false, .slice none 0 0, .slice none 0 0, .int .i64 0, .int .i64 0, .string ⟨#[]⟩, .string ⟨#[]⟩, .int .i64 0] 30)) w.heap.size [.bool false, .slice none 0 0, .slice none 0 0, .int .i64 0, .int .i64 0, .string ⟨#[]⟩, .string ⟨#[]⟩, .int .i64 0] 30 := RwC.new w _ _
  have N := n1
  by_cases h12 : 12 ≤ T.length
  · have i12 : decide ((T.length : Int) < 12) = false := decide_eq_false (by omega)
    obtain ⟨o, rfl, hcT⟩ := hr' (by omega)
    have hr' : Rd w g' (some ⟨g', o, none⟩) .u8 T := fun _ => ⟨o, rfl, hcT⟩
    have hN : Rd w g' (some ⟨g', o, none⟩) .u8 (otN T) := hr'.take 12
    obtain ⟨x6, hS⟩ : ∃ x6, (if c' = 12 then (some ⟨g', o, none⟩ : Option Addr) else some ⟨g', o + 12, none⟩) = x6 ∧ Rd w g' x6 .u8 (otS T) := by
      refine ⟨_, rfl, ?_⟩
      by_cases q : T.length = 12
      · have : otS T = [] := List.drop_eq_nil_of_le (by omega)
        rw [this]
        exact Rd.nil _ _ _ _
      · obtain ⟨o', e, hd⟩ := hr'.drop 12 (by omega)
        injection e with e
        injection e with _ e _
        subst e
        rw [if_neg (by omega)]
        exact hd
    have lN : (otN T).length = 12 := by unfold otN; rw [List.length_take]; omega
    have lS : (otS T).length = T.length - 12 := by unfold otS; rw [List.length_drop]
    have OP := hide (fun W (m : Below w.heap.size w W) ge ae ce he en => implOpen_any W g a c key (hr.up m) hb hc g' (some ⟨g', o, none⟩) c' (otN T) (hN.up m) (byt_takeT hb' 12) (by omega) ge ae ce tkM he tkM_byt en g' x6 (c' - 12) (otS T) (hS.2.up m) (byt_dropT hb' 12) (by omega) (by rw [lS]; show 6 + _ ≤ _; omega))
    rw [lN, lS] at OP
    have OB : Hid (Byt (opL key (otN T) tkM (otS T))) := opL_bytT (byt_dropT hb' 12)
    have OL := hide (opL_len key (otN T) tkM (otS T))
    rw [lS] at OL
    have EQ : Hid (otP key T = if opB key (otN T) tkM (otS T) = true then opL key (otN T) tkM (otS T) else []) := by
      show _ = _
      unfold otP tkG
      rw [decide_eq_true h12, Bool.true_and]
    have H12 := hide h12
    have HX := hS.1
    clear hS hN hcT hr lN lS
    generalize opB key (otN T) tkM (otS T) = t at *
    generalize opL key (otN T) tkM (otS T) = L at *
    go_enter Tryz.func8, Tryz.ntmps8
    go_upto_region 3 with fail
    generalize w.alloc (.cells #[.bool false, .slice none 0 0, .slice none 0 0, .int .i64 0, .int .i64 0, .string ⟨#[]⟩, .string ⟨#[]⟩, .int .i64 0] 30) = wa at *
    refine Mk.region_newM 9 8 7 5 17 _ (fun i => [Mk.Fact.eq (.slice a key.length c), Mk.Fact.eq (.slice (some ⟨g', o, none⟩) T.length c'), Mk.Fact.eq (.slice (some ⟨g', o, none⟩) 12 c'), Mk.LitF wa.heap.size tkM, Mk.DrF tkM, Mk.Fact.eq (.slice (some ⟨g', o, none⟩) T.length c'), Mk.Fact.eq (.slice x6 (T.length - 12) (c' - 12)), OpF t L, Mk.NBt wa.heap.size 38 [.bool false, .slice none 0 0] (by decide)].getD i Mk.Fact.no) 38 [.bool false, .slice none 0 0] (by decide) (OpF t L) (by kernel_rfl) (by kernel_rfl) rfl rfl rfl iOrT (by kernel_rfl) rfl (by kernel_rfl) rfl ?_ ?_ ?_
    · rintro v W ⟨a, c, g, rfl, -⟩
      exact ⟨[.bool t, .slice a L.length c], rfl, rfl, oneOrT _ _ _ _⟩
    · intro i hi
      obtain rfl | rfl | rfl | rfl | rfl | rfl | rfl | rfl | rfl : i = 0 ∨ i = 1 ∨ i = 2 ∨ i = 3 ∨ i = 4 ∨ i = 5 ∨ i = 6 ∨ i = 7 ∨ i = 8 := by omega
      · refine Mk.step_pure rfl fun A ww hb hw hf => ?_
        have e0 : A.tmps[0]?.getD undef = .slice a key.length c := gdv (hb.2.2 0 (by kernel_rfl))
        exact ⟨_, by simp [go_sem, e0], rfl⟩
      · refine Mk.step_pure rfl fun A ww hb hw hf => ?_
        have e0 : A.tmps[1]?.getD undef = .slice (some ⟨g', o, none⟩) T.length c' := gdv (hb.2.2 1 (by kernel_rfl))
        exact ⟨_, by simp [go_sem, e0], rfl⟩
      · refine Mk.step_pure rfl fun A ww hb hw hf => ?_
        have e0 : A.tmps[11]?.getD undef = .slice (some ⟨g', o, none⟩) T.length c' := gdv (hf 1 11 (by kernel_rfl))
        have k1 : (12 : Int) ≤ (c' : Int) := by have := H12.out; omega
        exact ⟨.slice (some ⟨g', o, none⟩) 12 c', by simp [go_sem, e0, k1], rfl⟩
      · refine Mk.step_lit rfl tkM (fun A ww => ?_) rfl
        simp only [execOp]
        kernel_rfl
      · exact Mk.step_mark rfl 22 Tryz.underlying22 Tryz.underlying5 tkM rfl 3 13 rfl rfl (by kernel_rfl) rfl
      · refine Mk.step_pure rfl fun A ww hb hw hf => ?_
        have e0 : A.tmps[1]?.getD undef = .slice (some ⟨g', o, none⟩) T.length c' := gdv (hb.2.2 1 (by kernel_rfl))
        exact ⟨_, by simp [go_sem, e0], rfl⟩
      · refine Mk.step_pure rfl fun A ww hb hw hf => ?_
        have e0 : A.tmps[15]?.getD undef = .slice (some ⟨g', o, none⟩) T.length c' := gdv (hf 5 15 (by kernel_rfl))
        have k1 : (12 : Int) ≤ (T.length : Int) := by have := H12.out; omega
        refine ⟨.slice x6 (T.length - 12) (c' - 12), ?_, rfl⟩
        rw [← HX]
        by_cases q12 : c' = 12
        · rw [if_pos q12]
          have q13 : T.length = 12 := by have := H12.out; omega
          simp [go_sem, e0, q12, q13]
        · rw [if_neg q12]
          simp [go_sem, e0, k1, q12]
      · refine Mk.step_callv rfl 14 _ _ rfl (by kernel_rfl) fun A ww hb hw hf => ?_
        have e0 : A.tmps.getD 10 undef = .slice a key.length c := hf 0 10 (by kernel_rfl)
        have e1 : A.tmps.getD 12 undef = .slice (some ⟨g', o, none⟩) 12 c' := hf 2 12 (by kernel_rfl)
        obtain ⟨x1, x2, x3, e2, x5, x7, x8⟩ : (Mk.DrF tkM).p (A.tmps.getD 14 undef) ww := hf 4 14 (by kernel_rfl)
        have e3 : A.tmps.getD 16 undef = .slice x6 (T.length - 12) (c' - 12) := hf 6 16 (by kernel_rfl)
        show Calls Tryz.prog 14 #[A.tmps.getD 10 undef, A.tmps.getD 12 undef, A.tmps.getD 14 undef, A.tmps.getD 16 undef] ww _
        rw [e0, e1, e2, e3]
        refine (OP.out ww (nxt n1 hw.below0) x3 x1 x2 x5 x7).mono ?_
        rintro r w' ⟨⟨y1, y2, y3, rfl, y4, y5, y6, y7⟩, n⟩
        exact ⟨_, rfl, Mk.Gm.of_below n, y1, y2, y3, rfl, y4.rd, y5, y6⟩
      · refine Mk.step_grow rfl fun A ww _ hw _ => ⟨.pointer (some ⟨ww.heap.size, 0, none⟩), ww.alloc (.cells #[.bool false, .slice none 0 0] 38), ?_, Mk.Gm.of_below ((Below.refl _ _).alloc (Nat.le_refl _) _), ww.heap.size, rfl, hw.size, RwC.new ww _ _⟩
        simp only [execOp]
        kernel_rfl
    · intro vs W W5 q cs vq hq hw rq hG OQ rc hW
      obtain ⟨a5, c5, g5, ec, o1, o2, o3⟩ := hG
      simp only [Value.agg.injEq, Array.mk.injEq] at ec
      subst ec
      have O5 : Rd W5 g5 a5 .u8 L := o1.of_block' (fun h => OQ.block g5 (rd_neT o1 rq h))
      have N5 := nxt n1 hW
      have ql := rc.lt
      have Q5 := Q0.up hW
      simp only [Mk.puts, vq, Act.put, List.setIfInBounds_toArray, List.set_cons_succ, List.set_cons_zero]
      have qc0 : W5.cell? ⟨q, 0, none⟩ = some (.bool t) := rc.cell 0
      have qc1 : W5.cell? ⟨q, 1, none⟩ = some (.slice a5 L.length c5) := rc.cell 1
      generalize vs 10 = y10 at *
      generalize vs 11 = y11 at *
      generalize vs 12 = y12 at *
      generalize vs 13 = y13 at *
      generalize vs 14 = y14 at *
      generalize vs 15 = y15 at *
      generalize vs 16 = y16 at *
      generalize vs 17 = y17 at *
      clear OQ rq hw OP vq rc o1 hW Q0 N
      have N := N5
      have Q0 := Q5
      clear Q5 N5
      cases t with
      | true =>
        have DG : Hid (otP key T = L) := EQ.out
        have DC := hide (implDcS_any W5 g5 a5 c5 L O5 OB.out o2 o3 (by have := OL.out; omega))
        go_wp2_with fail
        refine DC.out.mono ?_
        rintro e y1 ⟨D, m1⟩
        obtain ⟨ax, cx, gx, ay, cy, gy, rfl, o6, o7, o8, o9, o10, o11, o12⟩ := D
        replace N := nxt N m1
        replace Q0 := Q0.up m1
        have zm := m1.size
        clear m1 DC
        have lq0 := Q0.lt
        have qz0 : y1.cell? ⟨w.heap.size, 0, none⟩ = some (.bool false) := Q0.cell 0
        have qf0 := Q0.free 0
        have qz1 : y1.cell? ⟨w.heap.size, 1, none⟩ = some (.slice none 0 0) := Q0.cell 1
        have qf1 := Q0.free 1
        have qz2 : y1.cell? ⟨w.heap.size, 2, none⟩ = some (.slice none 0 0) := Q0.cell 2
        have qf2 := Q0.free 2
        have qz3 : y1.cell? ⟨w.heap.size, 3, none⟩ = some (.int .i64 0) := Q0.cell 3
        have qf3 := Q0.free 3
        have qz4 : y1.cell? ⟨w.heap.size, 4, none⟩ = some (.int .i64 0) := Q0.cell 4
        have qf4 := Q0.free 4
        have qz5 : y1.cell? ⟨w.heap.size, 5, none⟩ = some (.string ⟨#[]⟩) := Q0.cell 5
        have qf5 := Q0.free 5
        have qz6 : y1.cell? ⟨w.heap.size, 6, none⟩ = some (.string ⟨#[]⟩) := Q0.cell 6
        have qf6 := Q0.free 6
        have qz7 : y1.cell? ⟨w.heap.size, 7, none⟩ = some (.int .i64 0) := Q0.cell 7
        have qf7 := Q0.free 7
        have RF : RwC ((((((((y1.setCell ⟨w.heap.size, 0, none⟩ (.bool (dsB L))).setCell ⟨w.heap.size, 1, none⟩ (.slice ax (rX L).length cx)).setCell ⟨w.heap.size, 2, none⟩ (.slice ay (rY L).length cy)).setCell ⟨w.heap.size, 3, none⟩ (.int .i64 (rM L))).setCell ⟨w.heap.size, 4, none⟩ (.int .i64 (rL L))).setCell ⟨w.heap.size, 5, none⟩ (.string ⟨⟨rH L⟩⟩)).setCell ⟨w.heap.size, 6, none⟩ (.string ⟨⟨rP L⟩⟩)).setCell ⟨w.heap.size, 7, none⟩ (.int .i64 (rE L))) w.heap.size [.bool (dsB L), .slice ax (rX L).length cx, .slice ay (rY L).length cy, .int .i64 (rM L), .int .i64 (rL L), .string ⟨⟨rH L⟩⟩, .string ⟨⟨rP L⟩⟩, .int .i64 (rE L)] 30 := ((((((((Q0.set 0 (.bool (dsB L))).set 1 (.slice ax (rX L).length cx)).set 2 (.slice ay (rY L).length cy)).set 3 (.int .i64 (rM L))).set 4 (.int .i64 (rL L))).set 5 (.string ⟨⟨rH L⟩⟩)).set 6 (.string ⟨⟨rP L⟩⟩)).set 7 (.int .i64 (rE L)))
        have OF : Only w.heap.size y1 ((((((((y1.setCell ⟨w.heap.size, 0, none⟩ (.bool (dsB L))).setCell ⟨w.heap.size, 1, none⟩ (.slice ax (rX L).length cx)).setCell ⟨w.heap.size, 2, none⟩ (.slice ay (rY L).length cy)).setCell ⟨w.heap.size, 3, none⟩ (.int .i64 (rM L))).setCell ⟨w.heap.size, 4, none⟩ (.int .i64 (rL L))).setCell ⟨w.heap.size, 5, none⟩ (.string ⟨⟨rH L⟩⟩)).setCell ⟨w.heap.size, 6, none⟩ (.string ⟨⟨rP L⟩⟩)).setCell ⟨w.heap.size, 7, none⟩ (.int .i64 (rE L))) := ((((((((Only.refl w.heap.size y1).trans (Only.setCell _ w.heap.size 0 _)).trans (Only.setCell _ w.heap.size 1 _)).trans (Only.setCell _ w.heap.size 2 _)).trans (Only.setCell _ w.heap.size 3 _)).trans (Only.setCell _ w.heap.size 4 _)).trans (Only.setCell _ w.heap.size 5 _)).trans (Only.setCell _ w.heap.size 6 _)).trans (Only.setCell _ w.heap.size 7 _)
        have RR := RF.rangeG
        have NF := hide (N.trans (OF.below (B := w.heap.size) (Nat.le_refl _)))
        have p6 := hide (o6.of_block (OF.block gx (by omega)))
        have p7 := hide (o7.of_block (OF.block gy (by omega)))
        have zf : y1.heap.size ≤ ((((((((y1.setCell ⟨w.heap.size, 0, none⟩ (.bool (dsB L))).setCell ⟨w.heap.size, 1, none⟩ (.slice ax (rX L).length cx)).setCell ⟨w.heap.size, 2, none⟩ (.slice ay (rY L).length cy)).setCell ⟨w.heap.size, 3, none⟩ (.int .i64 (rM L))).setCell ⟨w.heap.size, 4, none⟩ (.int .i64 (rL L))).setCell ⟨w.heap.size, 5, none⟩ (.string ⟨⟨rH L⟩⟩)).setCell ⟨w.heap.size, 6, none⟩ (.string ⟨⟨rP L⟩⟩)).setCell ⟨w.heap.size, 7, none⟩ (.int .i64 (rE L))).heap.size := Nat.le_of_eq OF.size.symm
        clear RF OF o6 o7
        go_wp2
        exact bodyPost_ret (v := .agg #[.bool (dsB L), .slice ax (rX L).length cx, .slice ay (rY L).length cy, .int .i64 (rM L), .int .i64 (rL L), .string ⟨⟨rH L⟩⟩, .string ⟨⟨rP L⟩⟩, .int .i64 (rE L)]) (results_cellG Tryz.results8 _ _ w.heap.size _ dR rfl RR hdR hrowR iSr) rfl ⟨by rw [DG.out]; exact .inl ⟨ax, cx, gx, ay, cy, gy, rfl, p6.out, p7.out, o8, by omega, by omega, by omega, by omega⟩, NF.out⟩
      | false =>
        have DG : Hid (otP key T = []) := EQ.out
        have wl : w.heap.size + 1 ≤ wa.heap.size := by omega
        have qc0 : W5.cell? ⟨w.heap.size, 0, none⟩ = some (.bool false) := Q0.cell 0
        have qf0 := Q0.free 0
        have qc1 : W5.cell? ⟨w.heap.size, 1, none⟩ = some (.slice none 0 0) := Q0.cell 1
        have qf1 := Q0.free 1
        have qc2 : W5.cell? ⟨w.heap.size, 2, none⟩ = some (.slice none 0 0) := Q0.cell 2
        have qf2 := Q0.free 2
        have qc3 : W5.cell? ⟨w.heap.size, 3, none⟩ = some (.int .i64 0) := Q0.cell 3
        have qf3 := Q0.free 3
        have qc4 : W5.cell? ⟨w.heap.size, 4, none⟩ = some (.int .i64 0) := Q0.cell 4
        have qf4 := Q0.free 4
        have qc5 : W5.cell? ⟨w.heap.size, 5, none⟩ = some (.string ⟨#[]⟩) := Q0.cell 5
        have qf5 := Q0.free 5
        have qc6 : W5.cell? ⟨w.heap.size, 6, none⟩ = some (.string ⟨#[]⟩) := Q0.cell 6
        have qf6 := Q0.free 6
        have qc7 : W5.cell? ⟨w.heap.size, 7, none⟩ = some (.int .i64 0) := Q0.cell 7
        have qf7 := Q0.free 7
        have RF : RwC ((((((((W5.setCell ⟨w.heap.size, 0, none⟩ (.bool false)).setCell ⟨w.heap.size, 1, none⟩ (.slice none 0 0)).setCell ⟨w.heap.size, 2, none⟩ (.slice none 0 0)).setCell ⟨w.heap.size, 3, none⟩ (.int .i64 0)).setCell ⟨w.heap.size, 4, none⟩ (.int .i64 0)).setCell ⟨w.heap.size, 5, none⟩ (.string ⟨#[]⟩)).setCell ⟨w.heap.size, 6, none⟩ (.string ⟨#[]⟩)).setCell ⟨w.heap.size, 7, none⟩ (.int .i64 0)) w.heap.size [.bool false, .slice none 0 0, .slice none 0 0, .int .i64 0, .int .i64 0, .string ⟨#[]⟩, .string ⟨#[]⟩, .int .i64 0] 30 := ((((((((Q0.set 0 (.bool false)).set 1 (.slice none 0 0)).set 2 (.slice none 0 0)).set 3 (.int .i64 0)).set 4 (.int .i64 0)).set 5 (.string ⟨#[]⟩)).set 6 (.string ⟨#[]⟩)).set 7 (.int .i64 0))
        have OF : Only w.heap.size W5 ((((((((W5.setCell ⟨w.heap.size, 0, none⟩ (.bool false)).setCell ⟨w.heap.size, 1, none⟩ (.slice none 0 0)).setCell ⟨w.heap.size, 2, none⟩ (.slice none 0 0)).setCell ⟨w.heap.size, 3, none⟩ (.int .i64 0)).setCell ⟨w.heap.size, 4, none⟩ (.int .i64 0)).setCell ⟨w.heap.size, 5, none⟩ (.string ⟨#[]⟩)).setCell ⟨w.heap.size, 6, none⟩ (.string ⟨#[]⟩)).setCell ⟨w.heap.size, 7, none⟩ (.int .i64 0)) := ((((((((Only.refl w.heap.size W5).trans (Only.setCell _ w.heap.size 0 _)).trans (Only.setCell _ w.heap.size 1 _)).trans (Only.setCell _ w.heap.size 2 _)).trans (Only.setCell _ w.heap.size 3 _)).trans (Only.setCell _ w.heap.size 4 _)).trans (Only.setCell _ w.heap.size 5 _)).trans (Only.setCell _ w.heap.size 6 _)).trans (Only.setCell _ w.heap.size 7 _)
        have RR := RF.rangeG
        have NF := N.trans (OF.below (B := w.heap.size) (Nat.le_refl _))
        clear RF OF
        go_wp2
        exact bodyPost_ret (v := .agg #[.bool false, .slice none 0 0, .slice none 0 0, .int .i64 0, .int .i64 0, .string ⟨#[]⟩, .string ⟨#[]⟩, .int .i64 0]) (results_cellG Tryz.results8 _ _ w.heap.size _ dR rfl RR hdR hrowR iSr) rfl ⟨by rw [DG.out]; exact NewDE.zero _ _, NF⟩
  · have i12 : decide ((T.length : Int) < 12) = true := decide_eq_true (by omega)
    have DG : Hid (otP key T = []) := by
      show _ = _
      unfold otP tkG
      rw [decide_eq_false h12, Bool.false_and, if_neg (by decide)]
    go_enter Tryz.func8, Tryz.ntmps8
    go_upto_region 1 with fail
    generalize w.alloc (.cells #[.bool false, .slice none 0 0, .slice none 0 0, .int .i64 0, .int .i64 0, .string ⟨#[]⟩, .string ⟨#[]⟩, .int .i64 0] 30) = wa at *
    have qc0 : wa.cell? ⟨w.heap.size, 0, none⟩ = some (.bool false) := Q0.cell 0
    have qf0 := Q0.free 0
    have qc1 : wa.cell? ⟨w.heap.size, 1, none⟩ = some (.slice none 0 0) := Q0.cell 1
    have qf1 := Q0.free 1
    have qc2 : wa.cell? ⟨w.heap.size, 2, none⟩ = some (.slice none 0 0) := Q0.cell 2
    have qf2 := Q0.free 2
    have qc3 : wa.cell? ⟨w.heap.size, 3, none⟩ = some (.int .i64 0) := Q0.cell 3
    have qf3 := Q0.free 3
    have qc4 : wa.cell? ⟨w.heap.size, 4, none⟩ = some (.int .i64 0) := Q0.cell 4
    have qf4 := Q0.free 4
    have qc5 : wa.cell? ⟨w.heap.size, 5, none⟩ = some (.string ⟨#[]⟩) := Q0.cell 5
    have qf5 := Q0.free 5
    have qc6 : wa.cell? ⟨w.heap.size, 6, none⟩ = some (.string ⟨#[]⟩) := Q0.cell 6
    have qf6 := Q0.free 6
    have qc7 : wa.cell? ⟨w.heap.size, 7, none⟩ = some (.int .i64 0) := Q0.cell 7
    have qf7 := Q0.free 7
    have RF : RwC ((((((((wa.setCell ⟨w.heap.size, 0, none⟩ (.bool false)).setCell ⟨w.heap.size, 1, none⟩ (.slice none 0 0)).setCell ⟨w.heap.size, 2, none⟩ (.slice none 0 0)).setCell ⟨w.heap.size, 3, none⟩ (.int .i64 0)).setCell ⟨w.heap.size, 4, none⟩ (.int .i64 0)).setCell ⟨w.heap.size, 5, none⟩ (.string ⟨#[]⟩)).setCell ⟨w.heap.size, 6, none⟩ (.string ⟨#[]⟩)).setCell ⟨w.heap.size, 7, none⟩ (.int .i64 0)) w.heap.size [.bool false, .slice none 0 0, .slice none 0 0, .int .i64 0, .int .i64 0, .string ⟨#[]⟩, .string ⟨#[]⟩, .int .i64 0] 30 := ((((((((Q0.set 0 (.bool false)).set 1 (.slice none 0 0)).set 2 (.slice none 0 0)).set 3 (.int .i64 0)).set 4 (.int .i64 0)).set 5 (.string ⟨#[]⟩)).set 6 (.string ⟨#[]⟩)).set 7 (.int .i64 0))
    have OF : Only w.heap.size wa ((((((((wa.setCell ⟨w.heap.size, 0, none⟩ (.bool false)).setCell ⟨w.heap.size, 1, none⟩ (.slice none 0 0)).setCell ⟨w.heap.size, 2, none⟩ (.slice none 0 0)).setCell ⟨w.heap.size, 3, none⟩ (.int .i64 0)).setCell ⟨w.heap.size, 4, none⟩ (.int .i64 0)).setCell ⟨w.heap.size, 5, none⟩ (.string ⟨#[]⟩)).setCell ⟨w.heap.size, 6, none⟩ (.string ⟨#[]⟩)).setCell ⟨w.heap.size, 7, none⟩ (.int .i64 0)) := ((((((((Only.refl w.heap.size wa).trans (Only.setCell _ w.heap.size 0 _)).trans (Only.setCell _ w.heap.size 1 _)).trans (Only.setCell _ w.heap.size 2 _)).trans (Only.setCell _ w.heap.size 3 _)).trans (Only.setCell _ w.heap.size 4 _)).trans (Only.setCell _ w.heap.size 5 _)).trans (Only.setCell _ w.heap.size 6 _)).trans (Only.setCell _ w.heap.size 7 _)
    have RR := RF.rangeG
    have NF := N.trans (OF.below (B := w.heap.size) (Nat.le_refl _))
    clear RF OF
    go_wp2
    exact bodyPost_ret (v := .agg #[.bool false, .slice none 0 0, .slice none 0 0, .int .i64 0, .int .i64 0, .string ⟨#[]⟩, .string ⟨#[]⟩, .int .i64 0]) (results_cellG Tryz.results8 _ _ w.heap.size _ dR rfl RR hdR hrowR iSr) rfl ⟨by rw [DG.out]; exact NewDE.zero _ _, NF⟩
set_option maxRecDepth 100000 in
set_option maxHeartbeats 8000000 in
theorem specOt_any (w : World) (g : Nat) (a : Option Addr) (c : Nat) (key : List Int) (hr : Rd w g a .u8 key) (hb : Byt key) (hc : key.length ≤ c) (g' : Nat) (a' : Option Addr) (c' : Nat) (T : List Int) (hr' : Rd w g' a' .u8 T) (hb' : Byt T) (hc' : T.length ≤ c') (hl : T.length ≤ 1048576) :
    Calls Tryz.prog 12 #[.slice a key.length c, .slice a' T.length c'] w fun e w' => NewDE w.heap.size w' e (otP key T) ∧ Below w.heap.size w w' := by
  obtain ⟨dR, hdR, hrowR⟩ := rowSr
  have z1 : (w.alloc (.cells #[.bool false, .slice none 0 0, .slice none 0 0, .int .i64 0, .int .i64 0, .string ⟨#[]⟩, .string ⟨#[]⟩, .int .i64 0] 30)).heap.size = w.heap.size + 1 := by simp
  have n1 : Below w.heap.size w (w.alloc (.cells #[.bool false, .slice none 0 0, .slice none 0 0, .int .i64 0, .int .i64 0, .string ⟨#[]⟩, .string ⟨#[]⟩, .int .i64 0] 30)) := (Below.refl _ _).alloc (Nat.le_refl _) _
  have Q0 : RwC (w.alloc (.cells #[.bool false, .slice none 0 0, .slice none 0 0, .int .i64 0, .int .i64 0, .string ⟨#[]⟩, .string ⟨#[]⟩, .int .i64 0] 30)) w.heap.size [.bool false, .slice none 0 0, .slice none 0 0, .int .i64 0, .int .i64 0, .string ⟨#[]⟩, .string ⟨#[]⟩, .int .i64 0] 30 := RwC.new w _ _
  have N := n1
  by_cases h12 : 12 ≤ T.length
  · have i12 : decide ((T.length : Int) < 12) = false := decide_eq_false (by omega)
    obtain ⟨o, rfl, hcT⟩ := hr' (by omega)
    have hr' : Rd w g' (some ⟨g', o, none⟩) .u8 T := fun _ => ⟨o, rfl, hcT⟩
    have hN : Rd w g' (some ⟨g', o, none⟩) .u8 (otN T) := hr'.take 12
    obtain ⟨x6, hS⟩ : ∃ x6, (if c' = 12 then (some ⟨g', o, none⟩ : Option Addr) else some ⟨g', o + 12, none⟩) = x6 ∧ Rd w g' x6 .u8 (otS T) := by
      refine ⟨_, rfl, ?_⟩
      by_cases q : T.length = 12
      · have : otS T = [] := List.drop_eq_nil_of_le (by omega)
        rw [this]
        exact Rd.nil _ _ _ _
      · obtain ⟨o', e, hd⟩ := hr'.drop 12 (by omega)
        injection e with e
        injection e with _ e _
        subst e
        rw [if_neg (by omega)]
        exact hd
    have lN : (otN T).length = 12 := by unfold otN; rw [List.length_take]; omega
    have lS : (otS T).length = T.length - 12 := by unfold otS; rw [List.length_drop]
    have OP := hide (fun W (m : Below w.heap.size w W) ge ae ce he en => specOpen_any W g a c key (hr.up m) hb hc g' (some ⟨g', o, none⟩) c' (otN T) (hN.up m) (byt_takeT hb' 12) (by omega) ge ae ce tkM he tkM_byt en g' x6 (c' - 12) (otS T) (hS.2.up m) (byt_dropT hb' 12) (by omega) (by rw [lS]; show 6 + _ ≤ _; omega))
    rw [lN, lS] at OP
    have OB : Hid (Byt (opL key (otN T) tkM (otS T))) := opL_bytT (byt_dropT hb' 12)
    have OL := hide (opL_len key (otN T) tkM (otS T))
    rw [lS] at OL
    have EQ : Hid (otP key T = if opB key (otN T) tkM (otS T) = true then opL key (otN T) tkM (otS T) else []) := by
      show _ = _
      unfold otP tkG
      rw [decide_eq_true h12, Bool.true_and]
    have H12 := hide h12
    have HX := hS.1
    clear hS hN hcT hr lN lS
    generalize opB key (otN T) tkM (otS T) = t at *
    generalize opL key (otN T) tkM (otS T) = L at *
    go_enter Tryz.func12, Tryz.ntmps12
    go_upto_region 3 with fail
    generalize w.alloc (.cells #[.bool false, .slice none 0 0, .slice none 0 0, .int .i64 0, .int .i64 0, .string ⟨#[]⟩, .string ⟨#[]⟩, .int .i64 0] 30) = wa at *
    refine Mk.region_newM 9 8 7 5 17 _ (fun i => [Mk.Fact.eq (.slice a key.length c), Mk.Fact.eq (.slice (some ⟨g', o, none⟩) T.length c'), Mk.Fact.eq (.slice (some ⟨g', o, none⟩) 12 c'), Mk.LitF wa.heap.size tkM, Mk.DrF tkM, Mk.Fact.eq (.slice (some ⟨g', o, none⟩) T.length c'), Mk.Fact.eq (.slice x6 (T.length - 12) (c' - 12)), OpF t L, Mk.NBt wa.heap.size 38 [.bool false, .slice none 0 0] (by decide)].getD i Mk.Fact.no) 38 [.bool false, .slice none 0 0] (by decide) (OpF t L) (by kernel_rfl) (by kernel_rfl) rfl rfl rfl iOrT (by kernel_rfl) rfl (by kernel_rfl) rfl ?_ ?_ ?_
    · rintro v W ⟨a, c, g, rfl, -⟩
      exact ⟨[.bool t, .slice a L.length c], rfl, rfl, oneOrT _ _ _ _⟩
    · intro i hi
      obtain rfl | rfl | rfl | rfl | rfl | rfl | rfl | rfl | rfl : i = 0 ∨ i = 1 ∨ i = 2 ∨ i = 3 ∨ i = 4 ∨ i = 5 ∨ i = 6 ∨ i = 7 ∨ i = 8 := by omega
      · refine Mk.step_pure rfl fun A ww hb hw hf => ?_
        have e0 : A.tmps[0]?.getD undef = .slice a key.length c := gdv (hb.2.2 0 (by kernel_rfl))
        exact ⟨_, by simp [go_sem, e0], rfl⟩
      · refine Mk.step_pure rfl fun A ww hb hw hf => ?_
        have e0 : A.tmps[1]?.getD undef = .slice (some ⟨g', o, none⟩) T.length c' := gdv (hb.2.2 1 (by kernel_rfl))
        exact ⟨_, by simp [go_sem, e0], rfl⟩
      · refine Mk.step_pure rfl fun A ww hb hw hf => ?_
        have e0 : A.tmps[11]?.getD undef = .slice (some ⟨g', o, none⟩) T.length c' := gdv (hf 1 11 (by kernel_rfl))
        have k1 : (12 : Int) ≤ (c' : Int) := by have := H12.out; omega
        exact ⟨.slice (some ⟨g', o, none⟩) 12 c', by simp [go_sem, e0, k1], rfl⟩
      · refine Mk.step_lit rfl tkM (fun A ww => ?_) rfl
        simp only [execOp]
        kernel_rfl
      · exact Mk.step_mark rfl 22 Tryz.underlying22 Tryz.underlying5 tkM rfl 3 13 rfl rfl (by kernel_rfl) rfl
      · refine Mk.step_pure rfl fun A ww hb hw hf => ?_
        have e0 : A.tmps[1]?.getD undef = .slice (some ⟨g', o, none⟩) T.length c' := gdv (hb.2.2 1 (by kernel_rfl))
        exact ⟨_, by simp [go_sem, e0], rfl⟩
      · refine Mk.step_pure rfl fun A ww hb hw hf => ?_
        have e0 : A.tmps[15]?.getD undef = .slice (some ⟨g', o, none⟩) T.length c' := gdv (hf 5 15 (by kernel_rfl))
        have k1 : (12 : Int) ≤ (T.length : Int) := by have := H12.out; omega
        refine ⟨.slice x6 (T.length - 12) (c' - 12), ?_, rfl⟩
        rw [← HX]
        by_cases q12 : c' = 12
        · rw [if_pos q12]
          have q13 : T.length = 12 := by have := H12.out; omega
          simp [go_sem, e0, q12, q13]
        · rw [if_neg q12]
          simp [go_sem, e0, k1, q12]
      · refine Mk.step_callv rfl 33 _ _ rfl (by kernel_rfl) fun A ww hb hw hf => ?_
        have e0 : A.tmps.getD 10 undef = .slice a key.length c := hf 0 10 (by kernel_rfl)
        have e1 : A.tmps.getD 12 undef = .slice (some ⟨g', o, none⟩) 12 c' := hf 2 12 (by kernel_rfl)
        obtain ⟨x1, x2, x3, e2, x5, x7, x8⟩ : (Mk.DrF tkM).p (A.tmps.getD 14 undef) ww := hf 4 14 (by kernel_rfl)
        have e3 : A.tmps.getD 16 undef = .slice x6 (T.length - 12) (c' - 12) := hf 6 16 (by kernel_rfl)
        show Calls Tryz.prog 33 #[A.tmps.getD 10 undef, A.tmps.getD 12 undef, A.tmps.getD 14 undef, A.tmps.getD 16 undef] ww _
        rw [e0, e1, e2, e3]
        refine (OP.out ww (nxt n1 hw.below0) x3 x1 x2 x5 x7).mono ?_
        rintro r w' ⟨⟨y1, y2, y3, rfl, y4, y5, y6, y7⟩, n⟩
        exact ⟨_, rfl, Mk.Gm.of_below n, y1, y2, y3, rfl, y4.rd, y5, y6⟩
      · refine Mk.step_grow rfl fun A ww _ hw _ => ⟨.pointer (some ⟨ww.heap.size, 0, none⟩), ww.alloc (.cells #[.bool false, .slice none 0 0] 38), ?_, Mk.Gm.of_below ((Below.refl _ _).alloc (Nat.le_refl _) _), ww.heap.size, rfl, hw.size, RwC.new ww _ _⟩
        simp only [execOp]
        kernel_rfl
    · intro vs W W5 q cs vq hq hw rq hG OQ rc hW
      obtain ⟨a5, c5, g5, ec, o1, o2, o3⟩ := hG
      simp only [Value.agg.injEq, Array.mk.injEq] at ec
      subst ec
      have O5 : Rd W5 g5 a5 .u8 L := o1.of_block' (fun h => OQ.block g5 (rd_neT o1 rq h))
      have N5 := nxt n1 hW
      have ql := rc.lt
      have Q5 := Q0.up hW
      simp only [Mk.puts, vq, Act.put, List.setIfInBounds_toArray, List.set_cons_succ, List.set_cons_zero]
      have qc0 : W5.cell? ⟨q, 0, none⟩ = some (.bool t) := rc.cell 0
      have qc1 : W5.cell? ⟨q, 1, none⟩ = some (.slice a5 L.length c5) := rc.cell 1
      generalize vs 10 = y10 at *
      generalize vs 11 = y11 at *
      generalize vs 12 = y12 at *
      generalize vs 13 = y13 at *
      generalize vs 14 = y14 at *
      generalize vs 15 = y15 at *
      generalize vs 16 = y16 at *
      generalize vs 17 = y17 at *
      clear OQ rq hw OP vq rc o1 hW Q0 N
      have N := N5
      have Q0 := Q5
      clear Q5 N5
      cases t with
      | true =>
        have DG : Hid (otP key T = L) := EQ.out
        have DC := hide (specDcS_any W5 g5 a5 c5 L O5 OB.out (by have := OL.out; omega))
        go_wp2_with fail
        refine DC.out.mono ?_
        rintro e y1 ⟨D, m1⟩
        obtain ⟨ax, cx, gx, ay, cy, gy, rfl, o6, o7, o8, o9, o10, o11, o12⟩ := D
        replace N := nxt N m1
        replace Q0 := Q0.up m1
        have zm := m1.size
        clear m1 DC
        have lq0 := Q0.lt
        have qz0 : y1.cell? ⟨w.heap.size, 0, none⟩ = some (.bool false) := Q0.cell 0
        have qf0 := Q0.free 0
        have qz1 : y1.cell? ⟨w.heap.size, 1, none⟩ = some (.slice none 0 0) := Q0.cell 1
        have qf1 := Q0.free 1
        have qz2 : y1.cell? ⟨w.heap.size, 2, none⟩ = some (.slice none 0 0) := Q0.cell 2
        have qf2 := Q0.free 2
        have qz3 : y1.cell? ⟨w.heap.size, 3, none⟩ = some (.int .i64 0) := Q0.cell 3
        have qf3 := Q0.free 3
        have qz4 : y1.cell? ⟨w.heap.size, 4, none⟩ = some (.int .i64 0) := Q0.cell 4
        have qf4 := Q0.free 4
        have qz5 : y1.cell? ⟨w.heap.size, 5, none⟩ = some (.string ⟨#[]⟩) := Q0.cell 5
        have qf5 := Q0.free 5
        have qz6 : y1.cell? ⟨w.heap.size, 6, none⟩ = some (.string ⟨#[]⟩) := Q0.cell 6
        have qf6 := Q0.free 6
        have qz7 : y1.cell? ⟨w.heap.size, 7, none⟩ = some (.int .i64 0) := Q0.cell 7
        have qf7 := Q0.free 7
        have RF : RwC ((((((((y1.setCell ⟨w.heap.size, 0, none⟩ (.bool (dsB L))).setCell ⟨w.heap.size, 1, none⟩ (.slice ax (rX L).length cx)).setCell ⟨w.heap.size, 2, none⟩ (.slice ay (rY L).length cy)).setCell ⟨w.heap.size, 3, none⟩ (.int .i64 (rM L))).setCell ⟨w.heap.size, 4, none⟩ (.int .i64 (rL L))).setCell ⟨w.heap.size, 5, none⟩ (.string ⟨⟨rH L⟩⟩)).setCell ⟨w.heap.size, 6, none⟩ (.string ⟨⟨rP L⟩⟩)).setCell ⟨w.heap.size, 7, none⟩ (.int .i64 (rE L))) w.heap.size [.bool (dsB L), .slice ax (rX L).length cx, .slice ay (rY L).length cy, .int .i64 (rM L), .int .i64 (rL L), .string ⟨⟨rH L⟩⟩, .string ⟨⟨rP L⟩⟩, .int .i64 (rE L)] 30 := ((((((((Q0.set 0 (.bool (dsB L))).set 1 (.slice ax (rX L).length cx)).set 2 (.slice ay (rY L).length cy)).set 3 (.int .i64 (rM L))).set 4 (.int .i64 (rL L))).set 5 (.string ⟨⟨rH L⟩⟩)).set 6 (.string ⟨⟨rP L⟩⟩)).set 7 (.int .i64 (rE L)))
        have OF : Only w.heap.size y1 ((((((((y1.setCell ⟨w.heap.size, 0, none⟩ (.bool (dsB L))).setCell ⟨w.heap.size, 1, none⟩ (.slice ax (rX L).length cx)).setCell ⟨w.heap.size, 2, none⟩ (.slice ay (rY L).length cy)).setCell ⟨w.heap.size, 3, none⟩ (.int .i64 (rM L))).setCell ⟨w.heap.size, 4, none⟩ (.int .i64 (rL L))).setCell ⟨w.heap.size, 5, none⟩ (.string ⟨⟨rH L⟩⟩)).setCell ⟨w.heap.size, 6, none⟩ (.string ⟨⟨rP L⟩⟩)).setCell ⟨w.heap.size, 7, none⟩ (.int .i64 (rE L))) := ((((((((Only.refl w.heap.size y1).trans (Only.setCell _ w.heap.size 0 _)).trans (Only.setCell _ w.heap.size 1 _)).trans (Only.setCell _ w.heap.size 2 _)).trans (Only.setCell _ w.heap.size 3 _)).trans (Only.setCell _ w.heap.size 4 _)).trans (Only.setCell _ w.heap.size 5 _)).trans (Only.setCell _ w.heap.size 6 _)).trans (Only.setCell _ w.heap.size 7 _)
        have RR := RF.rangeG
        have NF := hide (N.trans (OF.below (B := w.heap.size) (Nat.le_refl _)))
        have p6 := hide (o6.of_block (OF.block gx (by omega)))
        have p7 := hide (o7.of_block (OF.block gy (by omega)))
        have zf : y1.heap.size ≤ ((((((((y1.setCell ⟨w.heap.size, 0, none⟩ (.bool (dsB L))).setCell ⟨w.heap.size, 1, none⟩ (.slice ax (rX L).length cx)).setCell ⟨w.heap.size, 2, none⟩ (.slice ay (rY L).length cy)).setCell ⟨w.heap.size, 3, none⟩ (.int .i64 (rM L))).setCell ⟨w.heap.size, 4, none⟩ (.int .i64 (rL L))).setCell ⟨w.heap.size, 5, none⟩ (.string ⟨⟨rH L⟩⟩)).setCell ⟨w.heap.size, 6, none⟩ (.string ⟨⟨rP L⟩⟩)).setCell ⟨w.heap.size, 7, none⟩ (.int .i64 (rE L))).heap.size := Nat.le_of_eq OF.size.symm
        clear RF OF o6 o7
        go_wp2
        exact bodyPost_ret (v := .agg #[.bool (dsB L), .slice ax (rX L).length cx, .slice ay (rY L).length cy, .int .i64 (rM L), .int .i64 (rL L), .string ⟨⟨rH L⟩⟩, .string ⟨⟨rP L⟩⟩, .int .i64 (rE L)]) (results_cellG Tryz.results12 _ _ w.heap.size _ dR rfl RR hdR hrowR iSr) rfl ⟨by rw [DG.out]; exact .inl ⟨ax, cx, gx, ay, cy, gy, rfl, p6.out, p7.out, o8, by omega, by omega, by omega, by omega⟩, NF.out⟩
      | false =>
        have DG : Hid (otP key T = []) := EQ.out
        have wl : w.heap.size + 1 ≤ wa.heap.size := by omega
        have qc0 : W5.cell? ⟨w.heap.size, 0, none⟩ = some (.bool false) := Q0.cell 0
        have qf0 := Q0.free 0
        have qc1 : W5.cell? ⟨w.heap.size, 1, none⟩ = some (.slice none 0 0) := Q0.cell 1
        have qf1 := Q0.free 1
        have qc2 : W5.cell? ⟨w.heap.size, 2, none⟩ = some (.slice none 0 0) := Q0.cell 2
        have qf2 := Q0.free 2
        have qc3 : W5.cell? ⟨w.heap.size, 3, none⟩ = some (.int .i64 0) := Q0.cell 3
        have qf3 := Q0.free 3
        have qc4 : W5.cell? ⟨w.heap.size, 4, none⟩ = some (.int .i64 0) := Q0.cell 4
        have qf4 := Q0.free 4
        have qc5 : W5.cell? ⟨w.heap.size, 5, none⟩ = some (.string ⟨#[]⟩) := Q0.cell 5
        have qf5 := Q0.free 5
        have qc6 : W5.cell? ⟨w.heap.size, 6, none⟩ = some (.string ⟨#[]⟩) := Q0.cell 6
        have qf6 := Q0.free 6
        have qc7 : W5.cell? ⟨w.heap.size, 7, none⟩ = some (.int .i64 0) := Q0.cell 7
        have qf7 := Q0.free 7
        have RF : RwC ((((((((W5.setCell ⟨w.heap.size, 0, none⟩ (.bool false)).setCell ⟨w.heap.size, 1, none⟩ (.slice none 0 0)).setCell ⟨w.heap.size, 2, none⟩ (.slice none 0 0)).setCell ⟨w.heap.size, 3, none⟩ (.int .i64 0)).setCell ⟨w.heap.size, 4, none⟩ (.int .i64 0)).setCell ⟨w.heap.size, 5, none⟩ (.string ⟨#[]⟩)).setCell ⟨w.heap.size, 6, none⟩ (.string ⟨#[]⟩)).setCell ⟨w.heap.size, 7, none⟩ (.int .i64 0)) w.heap.size [.bool false, .slice none 0 0, .slice none 0 0, .int .i64 0, .int .i64 0, .string ⟨#[]⟩, .string ⟨#[]⟩, .int .i64 0] 30 := ((((((((Q0.set 0 (.bool false)).set 1 (.slice none 0 0)).set 2 (.slice none 0 0)).set 3 (.int .i64 0)).set 4 (.int .i64 0)).set 5 (.string ⟨#[]⟩)).set 6 (.string ⟨#[]⟩)).set 7 (.int .i64 0))
        have OF : Only w.heap.size W5 ((((((((W5.setCell ⟨w.heap.size, 0, none⟩ (.bool false)).setCell ⟨w.heap.size, 1, none⟩ (.slice none 0 0)).setCell ⟨w.heap.size, 2, none⟩ (.slice none 0 0)).setCell ⟨w.heap.size, 3, none⟩ (.int .i64 0)).setCell ⟨w.heap.size, 4, none⟩ (.int .i64 0)).setCell ⟨w.heap.size, 5, none⟩ (.string ⟨#[]⟩)).setCell ⟨w.heap.size, 6, none⟩ (.string ⟨#[]⟩)).setCell ⟨w.heap.size, 7, none⟩ (.int .i64 0)) := ((((((((Only.refl w.heap.size W5).trans (Only.setCell _ w.heap.size 0 _)).trans (Only.setCell _ w.heap.size 1 _)).trans (Only.setCell _ w.heap.size 2 _)).trans (Only.setCell _ w.heap.size 3 _)).trans (Only.setCell _ w.heap.size 4 _)).trans (Only.setCell _ w.heap.size 5 _)).trans (Only.setCell _ w.heap.size 6 _)).trans (Only.setCell _ w.heap.size 7 _)
        have RR := RF.rangeG
        have NF := N.trans (OF.below (B := w.heap.size) (Nat.le_refl _))
        clear RF OF
        go_wp2
        exact bodyPost_ret (v := .agg #[.bool false, .slice none 0 0, .slice none 0 0, .int .i64 0, .int .i64 0, .string ⟨#[]⟩, .string ⟨#[]⟩, .int .i64 0]) (results_cellG Tryz.results12 _ _ w.heap.size _ dR rfl RR hdR hrowR iSr) rfl ⟨by rw [DG.out]; exact NewDE.zero _ _, NF⟩
  · have i12 : decide ((T.length : Int) < 12) = true := decide_eq_true (by omega)
    have DG : Hid (otP key T = []) := by
      show _ = _
      unfold otP tkG
      rw [decide_eq_false h12, Bool.false_and, if_neg (by decide)]
    go_enter Tryz.func12, Tryz.ntmps12
    go_upto_region 1 with fail
    generalize w.alloc (.cells #[.bool false, .slice none 0 0, .slice none 0 0, .int .i64 0, .int .i64 0, .string ⟨#[]⟩, .string ⟨#[]⟩, .int .i64 0] 30) = wa at *
    have qc0 : wa.cell? ⟨w.heap.size, 0, none⟩ = some (.bool false) := Q0.cell 0
    have qf0 := Q0.free 0
    have qc1 : wa.cell? ⟨w.heap.size, 1, none⟩ = some (.slice none 0 0) := Q0.cell 1
    have qf1 := Q0.free 1
    have qc2 : wa.cell? ⟨w.heap.size, 2, none⟩ = some (.slice none 0 0) := Q0.cell 2
    have qf2 := Q0.free 2
    have qc3 : wa.cell? ⟨w.heap.size, 3, none⟩ = some (.int .i64 0) := Q0.cell 3
    have qf3 := Q0.free 3
    have qc4 : wa.cell? ⟨w.heap.size, 4, none⟩ = some (.int .i64 0) := Q0.cell 4
    have qf4 := Q0.free 4
    have qc5 : wa.cell? ⟨w.heap.size, 5, none⟩ = some (.string ⟨#[]⟩) := Q0.cell 5
    have qf5 := Q0.free 5
    have qc6 : wa.cell? ⟨w.heap.size, 6, none⟩ = some (.string ⟨#[]⟩) := Q0.cell 6
    have qf6 := Q0.free 6
    have qc7 : wa.cell? ⟨w.heap.size, 7, none⟩ = some (.int .i64 0) := Q0.cell 7
    have qf7 := Q0.free 7
    have RF : RwC ((((((((wa.setCell ⟨w.heap.size, 0, none⟩ (.bool false)).setCell ⟨w.heap.size, 1, none⟩ (.slice none 0 0)).setCell ⟨w.heap.size, 2, none⟩ (.slice none 0 0)).setCell ⟨w.heap.size, 3, none⟩ (.int .i64 0)).setCell ⟨w.heap.size, 4, none⟩ (.int .i64 0)).setCell ⟨w.heap.size, 5, none⟩ (.string ⟨#[]⟩)).setCell ⟨w.heap.size, 6, none⟩ (.string ⟨#[]⟩)).setCell ⟨w.heap.size, 7, none⟩ (.int .i64 0)) w.heap.size [.bool false, .slice none 0 0, .slice none 0 0, .int .i64 0, .int .i64 0, .string ⟨#[]⟩, .string ⟨#[]⟩, .int .i64 0] 30 := ((((((((Q0.set 0 (.bool false)).set 1 (.slice none 0 0)).set 2 (.slice none 0 0)).set 3 (.int .i64 0)).set 4 (.int .i64 0)).set 5 (.string ⟨#[]⟩)).set 6 (.string ⟨#[]⟩)).set 7 (.int .i64 0))
    have OF : Only w.heap.size wa ((((((((wa.setCell ⟨w.heap.size, 0, none⟩ (.bool false)).setCell ⟨w.heap.size, 1, none⟩ (.slice none 0 0)).setCell ⟨w.heap.size, 2, none⟩ (.slice none 0 0)).setCell ⟨w.heap.size, 3, none⟩ (.int .i64 0)).setCell ⟨w.heap.size, 4, none⟩ (.int .i64 0)).setCell ⟨w.heap.size, 5, none⟩ (.string ⟨#[]⟩)).setCell ⟨w.heap.size, 6, none⟩ (.string ⟨#[]⟩)).setCell ⟨w.heap.size, 7, none⟩ (.int .i64 0)) := ((((((((Only.refl w.heap.size wa).trans (Only.setCell _ w.heap.size 0 _)).trans (Only.setCell _ w.heap.size 1 _)).trans (Only.setCell _ w.heap.size 2 _)).trans (Only.setCell _ w.heap.size 3 _)).trans (Only.setCell _ w.heap.size 4 _)).trans (Only.setCell _ w.heap.size 5 _)).trans (Only.setCell _ w.heap.size 6 _)).trans (Only.setCell _ w.heap.size 7 _)
    have RR := RF.rangeG
    have NF := N.trans (OF.below (B := w.heap.size) (Nat.le_refl _))
    clear RF OF
    go_wp2
    exact bodyPost_ret (v := .agg #[.bool false, .slice none 0 0, .slice none 0 0, .int .i64 0, .int .i64 0, .string ⟨#[]⟩, .string ⟨#[]⟩, .int .i64 0]) (results_cellG Tryz.results12 _ _ w.heap.size _ dR rfl RR hdR hrowR iSr) rfl ⟨by rw [DG.out]; exact NewDE.zero _ _, NF⟩
end Go.Proofs.YtccnhdicibjbaaaGreat
namespace Go.Proofs.YtccnhdicibjbaaaGreat
open Go Go.RowKit
theorem bigL_at (n : Int) (t i : Nat) (h : i < t) : (bigL n t).getD i 0 = n / 256 ^ (t - 1 - i) % 256 := by
  simp [bigL, h]
theorem beN_bigL (p q : List Int) (n : Int) (t : Nat) (n0 : 0 ≤ n) (n1 : n < 256 ^ t) : ∀ k, k ≤ t → beN (p ++ (bigL n t ++ q)) p.length k = n / 256 ^ (t - k)
  | 0, _ => by
    show (0 : Int) = _
    rw [Nat.sub_zero, Int.ediv_eq_zero_of_lt n0 n1]
  | k + 1, h => by
    have ih := beN_bigL p q n t n0 n1 k (by omega)
    have e : (p ++ (bigL n t ++ q)).getD (p.length + k) 0 = n / 256 ^ (t - 1 - k) % 256 := by
      rw [List.getD_eq_getElem?_getD, List.getElem?_append_right (by omega), List.getElem?_append_left (by rw [bigL_len]; omega), show p.length + k - p.length = k by omega, ← List.getD_eq_getElem?_getD, bigL_at _ _ _ (by omega)]
    show beN (p ++ (bigL n t ++ q)) p.length k * 256 + (p ++ (bigL n t ++ q)).getD (p.length + k) 0 = _
    rw [ih, e, show t - k = (t - 1 - k) + 1 by omega, show t - (k + 1) = t - 1 - k by omega, Int.pow_succ, ← Int.ediv_ediv_of_nonneg (Int.pow_nonneg (by decide))]
    generalize n / 256 ^ (t - 1 - k) = m
    omega
theorem tkB_mid (p x q : List Int) (n : Nat) (hx : x.length = n) : tkB (p ++ (x ++ q)) p.length n = x := by
  rw [← tkB_take _ _ _ (by simp only [List.length_append]; omega), List.drop_left, ← hx, List.take_left]
theorem txB_txL (l : List UInt8) : txB (txL l) = l := by
  unfold txB txL
  rw [List.map_map]
  have : ∀ x ∈ l, ((fun n : Int => UInt8.ofNat n.toNat) ∘ fun b : UInt8 => (b.toNat : Int)) x = x := fun x _ => by simp
  exact (List.map_congr_left this).trans (List.map_id _)
theorem ds_es {X Y : List Int} {md li : Int} {ho pr : List UInt8} {ea : Int} (h : sfV X.length Y.length md li ho pr.length ea = 0) :
    dX (esL X Y md li ho pr ea) = X ∧ dY (esL X Y md li ho pr ea) = Y ∧ dM (esL X Y md li ho pr ea) = md ∧ dL (esL X Y md li ho pr ea) = li ∧ dE (esL X Y md li ho pr ea) = ea ∧ dH (esL X Y md li ho pr ea) = ho ∧ dP (esL X Y md li ho pr ea) = pr ∧ dsB (esL X Y md li ho pr ea) = true := by
  have S := sf0 h
  obtain ⟨lX, lY, ⟨m0, m1⟩, ⟨l0, l1⟩, ⟨h0, h1⟩, p1, ⟨e0, e1⟩⟩ := S
  have hb : esL X Y md li ho pr ea = X ++ (Y ++ (bigL md 8 ++ (bigL li 4 ++ (bigL ea 4 ++ (bigL (ho.length : Int) 1 ++ (txL ho ++ (bigL (pr.length : Int) 1 ++ (txL pr ++ [])))))))) := by
    unfold esL shL
    simp only [List.append_assoc, List.append_nil]
  generalize hB : esL X Y md li ho pr ea = b at *
  have q : ∀ (u v : List Int), u ++ v = b → u.length ≤ b.length := fun u v e => by rw [← e, List.length_append]; omega
  have E1 : dX b = X := by
    have := tkB_mid [] X (Y ++ (bigL md 8 ++ (bigL li 4 ++ (bigL ea 4 ++ (bigL (ho.length : Int) 1 ++ (txL ho ++ (bigL (pr.length : Int) 1 ++ (txL pr ++ [])))))))) 32 lX
    rw [List.nil_append, ← hb] at this
    exact this
  have E2 : dY b = Y := by
    have := tkB_mid X Y (bigL md 8 ++ (bigL li 4 ++ (bigL ea 4 ++ (bigL (ho.length : Int) 1 ++ (txL ho ++ (bigL (pr.length : Int) 1 ++ (txL pr ++ []))))))) 32 lY
    rw [← hb, lX] at this
    exact this
  have E3 : beN b 64 8 = md := by
    have := beN_bigL (X ++ Y) (bigL li 4 ++ (bigL ea 4 ++ (bigL (ho.length : Int) 1 ++ (txL ho ++ (bigL (pr.length : Int) 1 ++ (txL pr ++ [])))))) md 8 m0 (by simp; omega) 8 (Nat.le_refl _)
    rw [List.append_assoc, ← hb, List.length_append, lX, lY] at this
    simpa using this
  have E4 : beN b 72 4 = li := by
    have := beN_bigL (X ++ (Y ++ bigL md 8)) (bigL ea 4 ++ (bigL (ho.length : Int) 1 ++ (txL ho ++ (bigL (pr.length : Int) 1 ++ (txL pr ++ []))))) li 4 (by omega) (by simp; omega) 4 (Nat.le_refl _)
    rw [List.append_assoc, List.append_assoc, ← hb, List.length_append, List.length_append, bigL_len, lX, lY] at this
    simpa using this
  have E5 : beN b 76 4 = ea := by
    have := beN_bigL (X ++ (Y ++ (bigL md 8 ++ bigL li 4))) (bigL (ho.length : Int) 1 ++ (txL ho ++ (bigL (pr.length : Int) 1 ++ (txL pr ++ [])))) ea 4 e0 (by simp; omega) 4 (Nat.le_refl _)
    rw [List.append_assoc, List.append_assoc, List.append_assoc, ← hb, List.length_append, List.length_append, List.length_append, bigL_len, bigL_len, lX, lY] at this
    simpa using this
  have E6 : dn1 b = ho.length := by
    have := beN_bigL (X ++ (Y ++ (bigL md 8 ++ (bigL li 4 ++ bigL ea 4)))) (txL ho ++ (bigL (pr.length : Int) 1 ++ (txL pr ++ []))) (ho.length : Int) 1 (by omega) (by simp; omega) 1 (Nat.le_refl _)
    simp only [List.append_assoc] at this
    simp only [List.append_nil] at hb
    rw [List.append_nil, ← hb] at this
    simp only [List.length_append, bigL_len, lX, lY] at this
    unfold dn1
    simp at this
    rw [this]
    simp
  have E7 : dH b = ho := by
    unfold dH
    rw [E6]
    have := tkB_mid (X ++ (Y ++ (bigL md 8 ++ (bigL li 4 ++ (bigL ea 4 ++ bigL (ho.length : Int) 1))))) (txL ho) (bigL (pr.length : Int) 1 ++ (txL pr ++ [])) ho.length (txL_len ho)
    simp only [List.append_assoc] at this
    rw [← hb] at this
    simp only [List.length_append, bigL_len, lX, lY] at this
    rw [this, txB_txL]
  have E8 : dn2 b = pr.length := by
    have := beN_bigL (X ++ (Y ++ (bigL md 8 ++ (bigL li 4 ++ (bigL ea 4 ++ (bigL (ho.length : Int) 1 ++ txL ho)))))) (txL pr ++ []) (pr.length : Int) 1 (by omega) (by simp; omega) 1 (Nat.le_refl _)
    simp only [List.append_assoc] at this
    rw [← hb] at this
    simp only [List.length_append, bigL_len, lX, lY, txL_len] at this
    unfold dn2
    rw [E6, show 81 + ho.length = 32 + (32 + (8 + (4 + (4 + (1 + ho.length))))) by omega, this]
    simp
  have E9 : dP b = pr := by
    unfold dP
    rw [E6, E8]
    have := tkB_mid (X ++ (Y ++ (bigL md 8 ++ (bigL li 4 ++ (bigL ea 4 ++ (bigL (ho.length : Int) 1 ++ (txL ho ++ bigL (pr.length : Int) 1))))))) (txL pr) [] pr.length (txL_len pr)
    simp only [List.append_assoc] at this
    rw [← hb] at this
    simp only [List.length_append, bigL_len, lX, lY, txL_len] at this
    rw [show 82 + ho.length = 32 + (32 + (8 + (4 + (4 + (1 + (ho.length + 1)))))) by omega, this, txB_txL]
  have F3 : dM b = md := by unfold dM nmV; rw [E3]; unfold wrap64; omega
  have F4 : dL b = li := by unfold dL nmV; rw [E4]; unfold wrap64; omega
  have F5 : dE b = ea := by unfold dE nmV; rw [E5]; unfold wrap64; omega
  refine ⟨E1, E2, F3, F4, F5, E7, E9, ?_⟩
  unfold dsB
  rw [E1, E2, F3, F4, F5, E7, E9, h]
  have : esA X Y md li ho pr ea = b := by unfold esA; rw [if_pos h, hB]
  simp [this]
end Go.Proofs.YtccnhdicibjbaaaGreat
namespace Go.Proofs.YtccnhdicibjbaaaGreat
open Go.RowKit
set_option maxHeartbeats 2000000 in
theorem l8DrawKey_any (w : World) (s g : Nat) (a : Option Addr) (c : Nat) (xs : List Int) (t : Int) (hs : Src w s a xs.length c t) (hr : Rd w g a .u8 xs) (hne : 0 < xs.length → g ≠ s) (hb : Byt xs) (hl : xs.length ≤ 1048576)
    (t0 : 0 ≤ t) (t1 : t ≤ 100000) :
    Calls Tryz.prog 17 #[.pointer (some ⟨s, 0, none⟩)] w fun e w' => ∃ (ys : List Int) (t' : Int), ys.length ≤ 40 ∧ Byt ys ∧ NewRow w.heap.size w' e .u8 ys ∧ t ≤ t' ∧ t' ≤ t + 300 ∧ Src w' s a xs.length c t' ∧ But s w w' := by
  have NX := fun W t n h1 h2 => l1Next_any W s g a c xs t n h1 h2 hne hb hl
  have CH := fun W t n h1 h2 => l1Chance_any W s g a c xs t n h1 h2 hne hb hl
  have DB := fun W t n h1 h2 => l1DrawBytes_any W s g a c xs t n h1 h2 hne hb hl
  go_enter Tryz.func17, Tryz.ntmps17
  go_wp2_with fail
  refine (CH w t 25 hs hr t0 (by omega) (by decide) (by decide)).mono ?_
  rintro e w1 ⟨b, rfl, S1, O1⟩
  have r1 := hr.but (But.ofOnly O1) hne
  have B1 : But s w w1 := But.ofOnly O1
  have z1 := hide O1.size
  cases b with
  | true =>
    go_wp2_with fail
    refine (NX w1 (t + 1) 2 S1 r1 (by omega) (by omega) (by decide) (by decide)).mono ?_
    rintro e w2 ⟨r, rfl, ⟨h0, h1⟩, S2, O2⟩
    obtain ⟨n, hn⟩ := Int.eq_ofNat_of_zero_le (show 0 ≤ 31 + 2 * r by omega)
    have r2 := r1.but (But.ofOnly O2) hne
    have n9 : n < 36 := by omega
    have D := hide (DB w2 (t + 1 + 1) n S2 r2 (by omega) (by omega))
    rw [← hn] at D
    have z2 := hide O2.size
    have HN := hide hn
    clear hn
    go_wp2_with fail
    refine D.out.mono ?_
    rintro e w3 ⟨ys, hy, by', ⟨a3, c3, g3, rfl, o3, p3, q3, r3⟩, S3, B3⟩
    have HY := hide hy
    clear hy D
    go_wp2
    go_ret
    exact ⟨ys, t + 1 + 1 + (n : Int), by rw [HY.out]; omega, by', ⟨a3, c3, g3, rfl, o3, p3, q3, by have := z1.out; have := z2.out; omega⟩, by omega, by omega, by have := HN.out; rw [← this]; exact S3, (B1.only O2).trans B3⟩
  | false =>
    go_wp2_with fail
    refine (DB w1 (t + 1) 32 S1 r1 (by omega) (by omega)).mono ?_
    rintro e w4 ⟨ys, hy, by', ⟨a3, c3, g3, rfl, o3, p3, q3, r3⟩, S4, B4⟩
    have HY := hide hy
    clear hy
    go_wp2
    go_ret
    exact ⟨ys, t + 1 + 32, by rw [HY.out]; omega, by', ⟨a3, c3, g3, rfl, o3, p3, q3, by have := z1.out; omega⟩, by omega, by omega, S4, B1.trans B4⟩
set_option maxHeartbeats 2000000 in
theorem l8DrawNonce_any (w : World) (s g : Nat) (a : Option Addr) (c : Nat) (xs : List Int) (t : Int) (hs : Src w s a xs.length c t) (hr : Rd w g a .u8 xs) (hne : 0 < xs.length → g ≠ s) (hb : Byt xs) (hl : xs.length ≤ 1048576)
    (t0 : 0 ≤ t) (t1 : t ≤ 100000) :
    Calls Tryz.prog 18 #[.pointer (some ⟨s, 0, none⟩)] w fun e w' => ∃ (ys : List Int) (t' : Int), ys.length ≤ 40 ∧ Byt ys ∧ NewRow w.heap.size w' e .u8 ys ∧ t ≤ t' ∧ t' ≤ t + 300 ∧ Src w' s a xs.length c t' ∧ But s w w' := by
  have NX := fun W t n h1 h2 => l1Next_any W s g a c xs t n h1 h2 hne hb hl
  have CH := fun W t n h1 h2 => l1Chance_any W s g a c xs t n h1 h2 hne hb hl
  have DB := fun W t n h1 h2 => l1DrawBytes_any W s g a c xs t n h1 h2 hne hb hl
  go_enter Tryz.func18, Tryz.ntmps18
  go_wp2_with fail
  refine (CH w t 25 hs hr t0 (by omega) (by decide) (by decide)).mono ?_
  rintro e w1 ⟨b, rfl, S1, O1⟩
  have r1 := hr.but (But.ofOnly O1) hne
  have B1 : But s w w1 := But.ofOnly O1
  have z1 := hide O1.size
  cases b with
  | true =>
    go_wp2_with fail
    refine (NX w1 (t + 1) 2 S1 r1 (by omega) (by omega) (by decide) (by decide)).mono ?_
    rintro e w2 ⟨r, rfl, ⟨h0, h1⟩, S2, O2⟩
    obtain ⟨n, hn⟩ := Int.eq_ofNat_of_zero_le (show 0 ≤ 11 + 2 * r by omega)
    have r2 := r1.but (But.ofOnly O2) hne
    have n9 : n < 36 := by omega
    have D := hide (DB w2 (t + 1 + 1) n S2 r2 (by omega) (by omega))
    rw [← hn] at D
    have z2 := hide O2.size
    have HN := hide hn
    clear hn
    go_wp2_with fail
    refine D.out.mono ?_
    rintro e w3 ⟨ys, hy, by', ⟨a3, c3, g3, rfl, o3, p3, q3, r3⟩, S3, B3⟩
    have HY := hide hy
    clear hy D
    go_wp2
    go_ret
    exact ⟨ys, t + 1 + 1 + (n : Int), by rw [HY.out]; omega, by', ⟨a3, c3, g3, rfl, o3, p3, q3, by have := z1.out; have := z2.out; omega⟩, by omega, by omega, by have := HN.out; rw [← this]; exact S3, (B1.only O2).trans B3⟩
  | false =>
    go_wp2_with fail
    refine (DB w1 (t + 1) 12 S1 r1 (by omega) (by omega)).mono ?_
    rintro e w4 ⟨ys, hy, by', ⟨a3, c3, g3, rfl, o3, p3, q3, r3⟩, S4, B4⟩
    have HY := hide hy
    clear hy
    go_wp2
    go_ret
    exact ⟨ys, t + 1 + 12, by rw [HY.out]; omega, by', ⟨a3, c3, g3, rfl, o3, p3, q3, by have := z1.out; omega⟩, by omega, by omega, S4, B1.trans B4⟩
end Go.Proofs.YtccnhdicibjbaaaGreat
namespace Go.Proofs.YtccnhdicibjbaaaGreat
open Go.RowKit
set_option maxHeartbeats 2000000 in
theorem l1DrawBytesR_any (w : World) (s g : Nat) (a : Option Addr) (c : Nat) (xs : List Int) (t : Int) (n : Nat) (hs : Src w s a xs.length c t) (hr : Rd w g a .u8 xs) (hne : 0 < xs.length → g ≠ s) (hb : Byt xs) (hl : xs.length ≤ 1048576)
    (t0 : 0 ≤ t) (t1 : t + (n : Int) ≤ 1048576) :
    Calls Tryz.prog 25 #[.pointer (some ⟨s, 0, none⟩), .int .i64 n] w fun e w' => ∃ ys, ys.length = n ∧ Byt ys ∧ (∃ v, e = .returned v ∧ RowB w' w.heap.size v ys) ∧ Src w' s a xs.length c (t + (n : Int)) ∧ But s w w' := by
  obtain ⟨i0, hi, hz0, hz1, hz2⟩ := info_parts Tryz.info5
  have hown0 : (w.alloc (.cells #[] 5)).ownsRow w.heap.size 5 1 (.slice (some ⟨w.heap.size, 0, none⟩) 0 0) 0 [] := World.ownsRow_lit w #[] 0 (Nat.le_refl _) (by unfold maxLen; omega) (by simp)
  have hal : Below w.heap.size w (w.alloc (.cells #[] 5)) := (Below.refl _ _).alloc (Nat.le_refl _) _
  have hsl := hs.lt
  go_enter Tryz.func25, Tryz.ntmps25
  go_wp2
  go_loopw [5, 6] (fun v i wr => ∃ (k : Nat) (ys : List Int), k ≤ n ∧ i = .int .i64 k ∧ Hid (ys.length = k) ∧ Byt ys ∧ wr.ownsRow w.heap.size 5 1 v k (ys.map (Value.int .u8)) ∧ Src wr s a xs.length c (t + (k : Int)) ∧ But s w wr) (fun _ i _ => n - (intOf i).toNat)
  case atStart => exact ⟨0, [], Nat.zero_le _, rfl, rfl, byt_nil, hown0, by simpa using hs.up hal, But.ofBelow hal⟩
  case round =>
    obtain ⟨k, ys, hk, rfl, hyl, hyb, hown, hS, hN⟩ := hrel
    have hr' := hr.but hN hne
    by_cases hlt : k < n
    · have hob := hown.lt
      go_wp2_with fail
      refine (l1Next_any wr s g a c xs (t + (k : Int)) 256 hS hr' hne hb hl (by omega) (by omega) (by decide) (by decide)).mono ?_
      rintro e w1 ⟨r, rfl, ⟨r0, r1⟩, S1, O1⟩
      have N1 := hN.only O1
      have hown1 := hown.kept O1.grown (by
        cases hv : Value.ownBlock _ with
        | none => exact .inl rfl
        | some q => exact .inr (fun e => by have := (hob q hv).1; simp at e; omega))
      have m1 : r % 256 = r := by omega
      have sz := N1.size
      clear hown hS hN O1 hr'
      go_wp2_with (at_builtin; refine wpList_append_own _ rfl _ _ 22 rfl w.heap.size 5 i0 (.int .u8 0) 1 1 Tryz.underlying22 hi hz0 hz1 hz2 rfl (by decide) _ k (ys.map (Value.int .u8)) rfl (hown1.alloc _) ⟨w1.heap.size, 0, none⟩ 1 1 [.int .u8 r] rfl rfl ?c1 ?c2 ?c3 ?c4 ?c5 ?_)
      case c1 =>
        intro j u hj
        match j, hj with
        | 0, hj => simp at hj; subst hj; simp [Addr.add]
      case c2 => intro u hu; simp at hu; subst hu; rfl
      case c3 => unfold maxLen; omega
      case c4 => omega
      case c5 => simp; omega
      · intro v' w2 hown2 hgrow _
        have nA : But s w (w1.alloc (.cells #[.int .u8 r] 5)) := N1.trans (But.ofBelow ((Below.refl _ _).alloc (Nat.le_refl _) _))
        have N2 := nA.grown hgrow (fun i hi => (hob i hi).1)
        have S2 : Src w2 s a xs.length c (t + ((k + 1 : Nat) : Int)) := by
          have := (S1.up ((Below.refl _ _).alloc (Nat.le_refl _) (.cells #[.int .u8 r] 5))).of_block (hgrow.block s (by simp; omega) (fun e => by have := (hob s e.symm).1; omega))
          rw [show t + ((k + 1 : Nat) : Int) = t + (k : Int) + 1 by omega]
          exact this
        have hown3 : w2.ownsRow w.heap.size 5 1 v' (k + 1) ((ys ++ [r]).map (Value.int .u8)) := by simpa using hown2
        have hl3 : Hid ((ys ++ [r]).length = k + 1) := by show _ = _; have := hyl.out; simp; omega
        have hb3 := byt_snoc hyb r r0 r1
        clear hown1 hown2 hgrow N1 S1 nA hob
        go_wp2
        go_roundw
        case rel => exact ⟨k + 1, ys ++ [r], by omega, by go_num, hl3, hb3, hown3, S2, N2⟩
        case measure => simp [intOf]; omega
    · obtain rfl : k = n := by omega
      have hown' := hown
      rw [← hyl.out] at hown'
      have RB : RowB _ w.heap.size _ ys := hown'
      clear hown hown'
      go_wp2
      go_ret
      exact ⟨ys, hyl.out, hyb, ⟨_, rfl, RB⟩, hS, hN⟩
end Go.Proofs.YtccnhdicibjbaaaGreat
namespace Go.Proofs.YtccnhdicibjbaaaGreat
open Go Go.RowKit
theorem RowB.but {w w' : World} {base q : Nat} {v : Value} {xs : List Int} (h : RowB w base v xs) (ho : But q w w') (hq : ∀ k, v.ownBlock = some k → k ≠ q) : RowB w' base v xs := by
  refine ⟨h.1, ?_⟩
  rcases h.2 with h' | ⟨g, cap, cur, rfl, hbg, hg, hnc, hcm, hcs, ht⟩
  · exact .inl h'
  · exact .inr ⟨g, cap, cur, rfl, hbg, by rw [ho.block g (Array.getElem?_eq_some_iff.1 hg).1 (hq g rfl)]; exact hg, hnc, hcm, hcs, ht⟩
end Go.Proofs.YtccnhdicibjbaaaGreat
namespace Go.Proofs.YtccnhdicibjbaaaGreat
open Go.RowKit
theorem copy_min {P : Program} (w : World) (ty rt e : TypeId) (hu : P.underlying ty = some (.slice e)) (hsz : (P.info? e).map (·.size) = some 1) {g : Nat} {k : IntKind} {zs : List Int} (hB : Blk w g k zs)
    (gs : Nat) (sp : Option Addr) (ys : List Int) (hr : Rd w gs sp k ys) (dc sc : Nat) :
    ∃ w2, (Builtin.copy_ #[ty, ty] rt #[.slice (some ⟨g, 0, none⟩) zs.length dc, .slice sp ys.length sc]).run P w = .ok (goInt (ys.take zs.length).length) w2 ∧ Blk w2 g k (ys.take zs.length ++ zs.drop (ys.take zs.length).length) ∧ Only g w w2 := by
  by_cases h0 : 0 < ys.length
  · obtain ⟨off, rfl, hc⟩ := hr h0
    obtain ⟨t, hB⟩ := hB
    have hrun := run_copy_row (P := P) w ty ty rt e g 0 zs.length dc ⟨gs, off, none⟩ ys.length sc _ t ((ys.take zs.length).map (Value.int k)) hu hsz hB (by simp [Nat.min_comm])
      (fun j v hj => by
        have hjl : j < (ys.take zs.length).length := by
          have := (List.getElem?_eq_some_iff.1 hj).1
          simpa using this
        have hj1 : j < ys.length := by simp at hjl; omega
        have hj2 : j < zs.length := by simp at hjl; omega
        rw [add_mid, hc j hj1]
        simpa [hj1, hj2, List.getElem?_take] using hj) (by simp; omega) (oneCells _ _)
    rw [List.length_map] at hrun
    refine ⟨_, hrun, ⟨t, ?_⟩, ⟨rfl, rfl, rfl, by simp, fun i hi => setRow_other w g i _ hi⟩⟩
    rw [setRow_heap w g _ _ t _ hB]
    simp
  · obtain rfl : ys = [] := List.eq_nil_of_length_eq_zero (by omega)
    exact ⟨w, by simpa using run_copy_none (P := P) w ty ty rt e _ _ _ _ _ _ hu hsz (by simp), by simpa using hB, Only.refl _ _⟩
def to32 (xs : List Int) : List Int := xs.take 32 ++ (List.replicate 32 0).drop (xs.take 32).length
theorem to32_len (xs : List Int) : (to32 xs).length = 32 := by
  unfold to32
  rw [List.length_append, List.length_drop, List.length_replicate, List.length_take]
  omega
theorem to32_byt {xs : List Int} (h : Byt xs) : Byt (to32 xs) := by
  intro i
  unfold to32
  by_cases hi : i < (xs.take 32).length
  · have h1 := h i
    have h2 : i < 32 := by simp at hi; omega
    have e : (xs.take 32 ++ (List.replicate 32 (0 : Int)).drop (xs.take 32).length).getD i 0 = xs.getD i 0 := by
      rw [List.getD_eq_getElem?_getD, List.getElem?_append, if_pos hi, List.getElem?_take, if_pos h2, List.getD_eq_getElem?_getD]
    rw [e]; exact h1
  · rw [List.getD_eq_getElem?_getD, List.getElem?_append, if_neg hi, List.getElem?_drop, List.getElem?_replicate]
    split <;> simp
set_option maxRecDepth 100000 in
set_option maxHeartbeats 1000000 in
theorem lw32_any (w : World) (g : Nat) (a : Option Addr) (c : Nat) (xs : List Int) (ha : Rd w g a .u8 xs) :
    Calls Tryz.prog 5 #[.slice a xs.length c] w fun e w' => e = .returned (.slice (some ⟨w.heap.size, 0, none⟩) 32 32) ∧ Blk w' w.heap.size .u8 (to32 xs) ∧ Below w.heap.size w w' := by
  obtain ⟨i0, hi, hz0, hz1, hz2⟩ := info_parts Tryz.info5
  have hsz : (Tryz.prog.info? 5).map (·.size) = some 1 := by rw [hi]; simp [hz1]
  go_enter Tryz.func5, Tryz.ntmps5
  go_wp2_with (at_make; refine wpList_make_full _ rfl _ _ 22 rfl w.heap.size 5 i0 (.int .u8 0) 1 Tryz.underlying22 hi hz0 hz1 .i64 .i64 _ _ 32 rfl rfl rfl rfl (by rw [hz2]; omega) (by unfold maxLen; omega) (Nat.le_refl _) ?_; intro w1 hown hgrow)
  have hB := Blk.of_made hown
  have hN : Below w.heap.size w w1 := (Below.refl _ _).grown hgrow (Nat.le_refl _) (by simp)
  obtain ⟨w2, hrun, hB2, hO⟩ := copy_min (P := Tryz.prog) w1 22 3 5 Tryz.underlying22 hsz hB g a xs (ha.up hN) 32 c
  rw [List.length_replicate] at hrun
  have hN2 := hN.trans (hO.below (Nat.le_refl _))
  rw [hrun]
  clear hown hgrow hB hN hO hrun
  go_wp2
  go_ret
  exact ⟨rfl, hB2, hN2⟩
end Go.Proofs.YtccnhdicibjbaaaGreat
namespace Go.Proofs.YtccnhdicibjbaaaGreat
open Go Go.RowKit
theorem opT_seA {key non ex plain : List Int} (h : fitK key non = true) : opT (seA key non ex plain) = xt key non plain ∧ opS (seA key non ex plain) = ssB (nsW key non) ex (xt key non plain) ∧ (seA key non ex plain).length = plain.length + 16 := by
  have e : seA key non ex plain = xt key non plain ++ ssB (nsW key non) ex (xt key non plain) := by unfold seA; rw [if_pos h]
  have l : (seA key non ex plain).length = plain.length + 16 := by rw [e, List.length_append, xt_len, ssB_len]
  have d : (seA key non ex plain).length - 16 = (xt key non plain).length := by rw [l, xt_len]; omega
  refine ⟨?_, ?_, l⟩
  · unfold opT
    rw [d, e, List.take_left]
  · unfold opS
    rw [d, e, List.drop_left]
theorem open_seal {key non ex plain : List Int} (h : fitK key non = true) (hb : Byt plain) : opB key non ex (seA key non ex plain) = true ∧ opL key non ex (seA key non ex plain) = plain := by
  obtain ⟨h1, h2, h3⟩ := opT_seA (ex := ex) (plain := plain) h
  have B : opB key non ex (seA key non ex plain) = true := by
    unfold opB
    rw [h, h1, h2, h3, decide_eq_true (show 16 ≤ plain.length + 16 by omega)]
    simp
  refine ⟨B, ?_⟩
  unfold opL
  rw [if_pos B, h1, xt_xt key non hb]
theorem open_short {key non ex M : List Int} (h : M.length < 16) : opB key non ex M = false := by
  unfold opB
  rw [decide_eq_false (show ¬ 16 ≤ M.length by omega)]
  simp
theorem open_back {key non ex sd : List Int} (hb : Byt sd) (h : opB key non ex sd = true) : seA key non ex (opL key non ex sd) = sd := by
  have e : opL key non ex sd = xt key non (opT sd) := by unfold opL; rw [if_pos h]
  have k := h
  unfold opB at k
  simp only [Bool.and_eq_true, decide_eq_true_eq] at k
  have b := seal_back (ex := ex) k.1 hb
  rw [decide_eq_true k.2.2] at b
  rw [e]
  exact of_decide_eq_true b
def DR (w : World) (v : Value) (xs : List Int) : Prop := ∃ (a : Option Addr) (c g : Nat), v = .slice a xs.length c ∧ Rd w g a .u8 xs ∧ (a = none → c = 0) ∧ xs.length ≤ c
theorem DR.up {w w' : World} {v : Value} {xs : List Int} (h : DR w v xs) (n : Below w.heap.size w w') : DR w' v xs := by
  obtain ⟨a, c, g, e, r, p, q⟩ := h
  exact ⟨a, c, g, e, r.up n, p, q⟩
theorem DR.of {w : World} {B : Nat} {e : Ending} {xs : List Int} (h : NewRow B w e .u8 xs) : ∃ v, e = .returned v ∧ DR w v xs := by
  obtain ⟨a, c, g, e, o, p, q, _⟩ := h
  exact ⟨_, e, a, c, g, rfl, o.rd, p, q⟩
theorem copyC (w : World) (v : Value) (xs : List Int) (h : DR w v xs) (hn : xs.length ≤ 1048576) : Calls Tryz.prog 7 #[v] w fun e w' => ∃ v', e = .returned v' ∧ DR w' v' xs ∧ Below w.heap.size w w' := by
  obtain ⟨a, c, g, rfl, r, p, q⟩ := h
  exact (lwCopy_any w g a c xs r p hn).mono (by rintro e w' ⟨h, n⟩; obtain ⟨v', e', d⟩ := DR.of h; exact ⟨v', e', d, n⟩)
theorem openC (w : World) (v1 v2 v3 v4 : Value) (ks ns es ds : List Int) (h1 : DR w v1 ks) (h2 : DR w v2 ns) (h3 : DR w v3 es) (h4 : DR w v4 ds) (b1 : Byt ks) (b2 : Byt ns) (b3 : Byt es) (b4 : Byt ds) (hs : es.length + ds.length ≤ 4000000) :
    Calls Tryz.prog 14 #[v1, v2, v3, v4] w fun e w' => ∃ v', e = .returned (.agg #[.bool (opB ks ns es ds), v']) ∧ DR w' v' (opL ks ns es ds) ∧ Below w.heap.size w w' := by
  obtain ⟨a1, c1, g1, rfl, r1, p1, q1⟩ := h1
  obtain ⟨a2, c2, g2, rfl, r2, p2, q2⟩ := h2
  obtain ⟨a3, c3, g3, rfl, r3, p3, q3⟩ := h3
  obtain ⟨a4, c4, g4, rfl, r4, p4, q4⟩ := h4
  exact (implOpen_any w g1 a1 c1 ks r1 b1 q1 g2 a2 c2 ns r2 b2 q2 g3 a3 c3 es r3 b3 p3 g4 a4 c4 ds r4 b4 q4 hs).mono (by rintro e w' ⟨⟨a, c, g, rfl, o, p, q, _⟩, n⟩; exact ⟨_, rfl, ⟨a, c, g, rfl, o.rd, p, q⟩, n⟩)
theorem sameC (w : World) (v1 v2 : Value) (xs : List Int) (h1 : DR w v1 xs) (h2 : DR w v2 xs) : Calls Tryz.prog 13 #[v1, v2] w fun e w' => e = .returned (.bool true) ∧ w' = w := by
  obtain ⟨a1, c1, g1, rfl, r1, p1, q1⟩ := h1
  obtain ⟨a2, c2, g2, rfl, r2, p2, q2⟩ := h2
  exact lwSame_same w g1 g2 a1 a2 c1 c2 xs r1 r2
end Go.Proofs.YtccnhdicibjbaaaGreat
namespace Go.Proofs.YtccnhdicibjbaaaGreat
open Go Go.RowKit
theorem otP_seal {key non E : List Int} (hk : key.length = 32) (hn : non.length = 12) (hE : 0 < E.length) (hb : Byt E) : otP key (slA key non E) = E := by
  have e : slA key non E = non ++ seA key non tkM E := by unfold slA; rw [if_pos ⟨hE, hk, hn⟩]
  have h1 : otN (slA key non E) = non := by unfold otN; rw [e, ← hn, List.take_left]
  have h2 : otS (slA key non E) = seA key non tkM E := by unfold otS; rw [e, ← hn, List.drop_left]
  have hf : fitK key non = true := by unfold fitK; simp [hk, hn]
  have h3 := open_seal (ex := tkM) hf hb
  have hG : tkG key (slA key non E) = true := by
    unfold tkG
    rw [h1, h2, h3.1, decide_eq_true (by rw [e, List.length_append]; omega)]
    rfl
  unfold otP
  rw [if_pos hG, h1, h2, h3.2]
theorem otP_nil (key : List Int) : otP key [] = [] := by
  unfold otP tkG
  rw [if_neg (by simp)]
theorem ticket_back {key non X Y : List Int} {md li : Int} {ho pr : List UInt8} {ea : Int} (hk : key.length = 32) (hn : non.length = 12) (hX : Byt X) (hY : Byt Y) :
    dsB (otP key (slA key non (esA X Y md li ho pr ea))) = decide (sfV X.length Y.length md li ho pr.length ea = 0) ∧ (sfV X.length Y.length md li ho pr.length ea = 0 → otP key (slA key non (esA X Y md li ho pr ea)) = esL X Y md li ho pr ea) := by
  by_cases h : sfV X.length Y.length md li ho pr.length ea = 0
  · have e : esA X Y md li ho pr ea = esL X Y md li ho pr ea := by unfold esA; rw [if_pos h]
    have p : otP key (slA key non (esA X Y md li ho pr ea)) = esL X Y md li ho pr ea := by
      rw [otP_seal hk hn ((esA_pos X Y md li ho pr ea).2 h) (byt_esA hX hY md li ho pr ea), e]
    refine ⟨?_, fun _ => p⟩
    rw [p, (ds_es h).2.2.2.2.2.2.2, decide_eq_true h]
  · have e : esA X Y md li ho pr ea = [] := by unfold esA; rw [if_neg h]
    have s : slA key non [] = [] := by unfold slA; rw [if_neg (by simp)]
    refine ⟨?_, fun q => absurd q h⟩
    rw [e, s, otP_nil, dsB_nil, decide_eq_false h]
theorem ticket_sealed {key T : List Int} (hb : Byt T) (h : dsB (otP key T) = true) :
    12 ≤ T.length ∧ key.length = 32 ∧ opB key (otN T) tkM (otS T) = true ∧ otP key T = opL key (otN T) tkM (otS T) ∧ slA key (otN T) (otP key T) = T ∧ esA (dX (otP key T)) (dY (otP key T)) (dM (otP key T)) (dL (otP key T)) (dH (otP key T)) (dP (otP key T)) (dE (otP key T)) = otP key T := by
  have hl := dsB_len h
  have hG : tkG key T = true := by
    cases g : tkG key T
    · have : otP key T = [] := by unfold otP; rw [g]; simp
      rw [this] at hl
      simp at hl
    · rfl
  have hG' := hG
  unfold tkG at hG'
  simp only [Bool.and_eq_true, decide_eq_true_eq] at hG'
  obtain ⟨h12, hO⟩ := hG'
  have e : otP key T = opL key (otN T) tkM (otS T) := by unfold otP; rw [if_pos hG]
  have hf : fitK key (otN T) = true := by
    have k := hO
    unfold opB at k
    simp only [Bool.and_eq_true] at k
    exact k.1
  have hk : key.length = 32 := by
    unfold fitK at hf
    simp only [Bool.and_eq_true, decide_eq_true_eq] at hf
    exact hf.1
  have ln : (otN T).length = 12 := by unfold otN; rw [List.length_take]; omega
  have ob : seA key (otN T) tkM (opL key (otN T) tkM (otS T)) = otS T := open_back (byt_dropT hb 12) hO
  refine ⟨h12, hk, hO, e, ?_, ?_⟩
  · unfold slA
    rw [if_pos ⟨by omega, hk, ln⟩, e, ob]
    exact List.take_append_drop 12 T
  · unfold dsB at h
    simp only [Bool.and_eq_true, decide_eq_true_eq] at h
    exact h.2
end Go.Proofs.YtccnhdicibjbaaaGreat
namespace Go.Proofs.YtccnhdicibjbaaaGreat
open Go Go.RowKit
set_option maxRecDepth 100000 in
set_option maxHeartbeats 1600000 in
theorem specSl_any (w : World) (g : Nat) (a : Option Addr) (c : Nat) (key : List Int) (hr : Rd w g a .u8 key) (hb : Byt key) (hc : key.length ≤ c) (g' : Nat) (a' : Option Addr) (c' : Nat) (non : List Int) (hr' : Rd w g' a' .u8 non) (hb' : Byt non) (hz' : a' = none → c' = 0) (hc' : non.length ≤ c')
    (md li : Int) (ho pr : List UInt8) (ea : Int) (gx : Nat) (ax : Option Addr) (cx : Nat) (X : List Int) (hx : Rd w gx ax .u8 X) (bx : Byt X) (zx : ax = none → cx = 0) (gy : Nat) (ay : Option Addr) (cy : Nat) (Y : List Int) (hy : Rd w gy ay .u8 Y) (bY : Byt Y) (zy : ay = none → cy = 0) (hh : ho.length ≤ 1048576) (hp : pr.length ≤ 1048576) :
    Calls Tryz.prog 26 #[.slice a key.length c, .slice a' non.length c', .agg #[.slice ax X.length cx, .slice ay Y.length cy, .int .i64 md, .int .i64 li, .string ⟨⟨ho⟩⟩, .string ⟨⟨pr⟩⟩, .int .i64 ea]] w fun e w' => ∃ v, e = .returned v ∧ RowB w' w.heap.size v (slA key non (esA X Y md li ho pr ea)) ∧ Below w.heap.size w w' := by
  obtain ⟨i0, hi0, hz0, hz1, hz2⟩ := info_parts Tryz.info5
  have n1 : Below w.heap.size w (w.alloc (.cells #[.slice ax X.length cx, .slice ay Y.length cy, .int .i64 md, .int .i64 li, .string ⟨⟨ho⟩⟩, .string ⟨⟨pr⟩⟩, .int .i64 ea] 24)) := (Below.refl _ _).alloc (Nat.le_refl _) _
  have P0 : RwC (w.alloc (.cells #[.slice ax X.length cx, .slice ay Y.length cy, .int .i64 md, .int .i64 li, .string ⟨⟨ho⟩⟩, .string ⟨⟨pr⟩⟩, .int .i64 ea] 24)) w.heap.size [.slice ax X.length cx, .slice ay Y.length cy, .int .i64 md, .int .i64 li, .string ⟨⟨ho⟩⟩, .string ⟨⟨pr⟩⟩, .int .i64 ea] 24 := RwC.new w _ _
  have SF := hide (specState_any (w.alloc (.cells #[.slice ax X.length cx, .slice ay Y.length cy, .int .i64 md, .int .i64 li, .string ⟨⟨ho⟩⟩, .string ⟨⟨pr⟩⟩, .int .i64 ea] 24)) md li ho pr ea ax X.length cx ay Y.length cy hh hp)
  have EN := hide (fun W (n : Below w.heap.size w W) => specEnS_any W md li ho pr ea gx ax cx X (hx.up n) zx gy ay cy Y (hy.up n) zy hh hp)
  have BE : Hid (Byt (esA X Y md li ho pr ea)) := byt_esA bx bY _ _ _ _ _
  have EL := hide (esA_len X Y md li ho pr ea)
  have EP := hide (esA_pos X Y md li ho pr ea)
  generalize esA X Y md li ho pr ea = E at *
  clear hx hy bx bY zx zy hh hp
  have e1 : Hid (slA key non E = if 0 < E.length ∧ key.length = 32 ∧ non.length = 12 then non ++ seA key non tkM E else []) := rfl
  by_cases h0 : sfV X.length Y.length md li ho pr.length ea = 0
  · rw [h0] at SF
    have H0 := hide (EP.out.2 h0)
    clear EP h0
    by_cases h1 : key.length = 32
    · have i1 : (key.length : Int) = 32 := by omega
      by_cases h2 : non.length = 12
      · have i2 : (non.length : Int) = 12 := by omega
        have e2 : Hid (slA key non E = non ++ seA key non tkM E) := by show _ = _; rw [e1.out, if_pos ⟨H0.out, h1, h2⟩]
        rw [e2.out]
        clear e1 e2
        have H1 : Hid (key.length = 32 ∧ non.length = 12) := ⟨h1, h2⟩
        have H12 : Mk.LN < non.length := by rw [h2]; decide
        have SE := hide (fun W (n : Below w.heap.size w W) ge ae ce he en g2 a2 c2 h2 => specSeal_any W g a c key (hr.up n) hb hc g' a' c' non (hr'.up n) hb' hc' ge ae ce tkM he tkM_byt en g2 a2 c2 E h2 BE.out (by have := EL.out; show 6 + _ ≤ _; omega))
        have SL := hide (seA_len key non tkM E)
        generalize seA key non tkM E = T at *
        have SLT : Hid (Mk.LN < non.length) := H12
        clear h1 h2
        go_enter Tryz.func26, Tryz.ntmps26
        go_wp2_with fail
        generalize w.alloc (.cells #[.slice ax X.length cx, .slice ay Y.length cy, .int .i64 md, .int .i64 li, .string ⟨⟨ho⟩⟩, .string ⟨⟨pr⟩⟩, .int .i64 ea] 24) = wa at *
        refine SF.out.mono ?_
        rintro e w1 ⟨rfl, m1⟩
        have N := nxt n1 m1
        replace P0 := P0.up m1
        clear SF n1 m1
        go_upto_region 3 with fail
        clear i1 i2
        refine Mk.region_appA 9 1 8 22 29 30 6 22 _ _ (fun i => [Mk.Fact.eq (.slice a' non.length c'), Mk.RoF w1.heap.size non H12, Mk.Fact.eq (.slice a key.length c), Mk.Fact.eq (.slice a' non.length c'), Mk.LitF w1.heap.size tkM, Mk.DrF tkM, Mk.Fact.eq (.agg #[.slice ax X.length cx, .slice ay Y.length cy, .int .i64 md, .int .i64 li, .string ⟨⟨ho⟩⟩, .string ⟨⟨pr⟩⟩, .int .i64 ea]), Mk.DrF E, Mk.DrF T].getD i Mk.Fact.no) (Mk.RoF w1.heap.size non H12) (Mk.DrF T) (fun v W => RowB W w1.heap.size v (non ++ T) ∧ Below w1.heap.size w1 W) (by kernel_rfl) (by kernel_rfl) rfl rfl rfl rfl rfl rfl rfl rfl (of_decide_eq_true (by kernel_rfl)) (of_decide_eq_true (by kernel_rfl)) ⟨rfl, by kernel_rfl⟩ rfl ⟨rfl, by kernel_rfl⟩ rfl ?_ ?_ ?_
        · intro i hi
          obtain rfl | rfl | rfl | rfl | rfl | rfl | rfl | rfl | rfl : i = 0 ∨ i = 1 ∨ i = 2 ∨ i = 3 ∨ i = 4 ∨ i = 5 ∨ i = 6 ∨ i = 7 ∨ i = 8 := by omega
          · refine Mk.step_pure rfl fun A ww hb hw hf => ?_
            have e0 : A.tmps[1]?.getD undef = .slice a' non.length c' := gdv (hb.2.2 1 (by kernel_rfl))
            exact ⟨_, by simp [go_sem, e0], rfl⟩
          · refine Mk.step_callv rfl 30 _ _ rfl (by kernel_rfl) fun A ww hb hw hf => ?_
            have e0 : A.tmps.getD 21 undef = .slice a' non.length c' := hf 0 21 (by kernel_rfl)
            show Calls Tryz.prog 30 #[A.tmps.getD 21 undef] ww _
            rw [e0]
            refine (l1CopyN_any ww g' a' c' non ((hr'.up N).up hw.below0) hz' (by have := H1.out; omega)).mono ?_
            rintro r w' ⟨x, rfl, R, n⟩
            exact ⟨x, rfl, Mk.Gm.of_below n, R.base hw.size⟩
          · refine Mk.step_pure rfl fun A ww hb hw hf => ?_
            have e0 : A.tmps[0]?.getD undef = .slice a key.length c := gdv (hb.2.2 0 (by kernel_rfl))
            exact ⟨_, by simp [go_sem, e0], rfl⟩
          · refine Mk.step_pure rfl fun A ww hb hw hf => ?_
            have e0 : A.tmps[1]?.getD undef = .slice a' non.length c' := gdv (hb.2.2 1 (by kernel_rfl))
            exact ⟨_, by simp [go_sem, e0], rfl⟩
          · refine Mk.step_lit rfl tkM (fun A ww => ?_) rfl
            simp only [execOp]
            kernel_rfl
          · exact Mk.step_mark rfl 22 Tryz.underlying22 Tryz.underlying5 tkM rfl 4 25 rfl rfl (by kernel_rfl) rfl
          · refine Mk.step_pure rfl fun A ww hb hw hf => ?_
            have e0 : A.tmps[5]?.getD undef = .pointer (some ⟨w.heap.size, 0, none⟩) := gdv (hb.2.2 5 (by kernel_rfl))
            have hc0 : ww.cell? ⟨w.heap.size, 0, none⟩ = some (.slice ax X.length cx) := (P0.up hw.below0).cell 0
            have hc1 : ww.cell? ⟨w.heap.size, 1, none⟩ = some (.slice ay Y.length cy) := (P0.up hw.below0).cell 1
            have hc2 : ww.cell? ⟨w.heap.size, 2, none⟩ = some (.int .i64 md) := (P0.up hw.below0).cell 2
            have hc3 : ww.cell? ⟨w.heap.size, 3, none⟩ = some (.int .i64 li) := (P0.up hw.below0).cell 3
            have hc4 : ww.cell? ⟨w.heap.size, 4, none⟩ = some (.string ⟨⟨ho⟩⟩) := (P0.up hw.below0).cell 4
            have hc5 : ww.cell? ⟨w.heap.size, 5, none⟩ = some (.string ⟨⟨pr⟩⟩) := (P0.up hw.below0).cell 5
            have hc6 : ww.cell? ⟨w.heap.size, 6, none⟩ = some (.int .i64 ea) := (P0.up hw.below0).cell 6
            exact ⟨.agg #[.slice ax X.length cx, .slice ay Y.length cy, .int .i64 md, .int .i64 li, .string ⟨⟨ho⟩⟩, .string ⟨⟨pr⟩⟩, .int .i64 ea], by simp [go_sem, e0, hc0, hc1, hc2, hc3, hc4, hc5, hc6], rfl⟩
          · refine Mk.step_callv rfl 32 _ _ rfl (by kernel_rfl) fun A ww hb hw hf => ?_
            have e0 : A.tmps.getD 27 undef = .agg #[.slice ax X.length cx, .slice ay Y.length cy, .int .i64 md, .int .i64 li, .string ⟨⟨ho⟩⟩, .string ⟨⟨pr⟩⟩, .int .i64 ea] := hf 6 27 (by kernel_rfl)
            show Calls Tryz.prog 32 #[A.tmps.getD 27 undef] ww _
            rw [e0]
            refine (EN.out ww (nxt N hw.below0)).mono ?_
            rintro r w' ⟨x, rfl, R, n⟩
            exact ⟨x, rfl, Mk.Gm.of_below n, Mk.DrF.of_row R⟩
          · refine Mk.step_callv rfl 31 _ _ rfl (by kernel_rfl) fun A ww hb hw hf => ?_
            have e0 : A.tmps.getD 23 undef = .slice a key.length c := hf 2 23 (by kernel_rfl)
            have e1 : A.tmps.getD 24 undef = .slice a' non.length c' := hf 3 24 (by kernel_rfl)
            obtain ⟨x1, x2, x3, e2, x5, x6, x7⟩ : (Mk.DrF tkM).p (A.tmps.getD 26 undef) ww := hf 5 26 (by kernel_rfl)
            obtain ⟨y1, y2, y3, e3, y5, y6, y7⟩ : (Mk.DrF E).p (A.tmps.getD 28 undef) ww := hf 7 28 (by kernel_rfl)
            show Calls Tryz.prog 31 #[A.tmps.getD 23 undef, A.tmps.getD 24 undef, A.tmps.getD 26 undef, A.tmps.getD 28 undef] ww _
            rw [e0, e1, e2, e3]
            refine (SE.out ww (nxt N hw.below0) x3 x1 x2 x5 x6 y3 y1 y2 y5).mono ?_
            rintro r w' ⟨⟨x, rfl, R⟩, n⟩
            exact ⟨x, rfl, Mk.Gm.of_below n, Mk.DrF.of_row R⟩
        · rintro W vR vS hw RR ⟨s1, s2, s3, rfl, s5, s6, s7⟩
          obtain ⟨v', w', h1, h2, h3⟩ := append_any (P := Tryz.prog) W 22 i0 Tryz.underlying22 hi0 hz0 hz1 hz2 w1.heap.size w1.heap.size vR non RR s3 s1 s2 T s5 s6 (by have := SL.out; have := H1.out; have := EL.out; omega) (Nat.le_refl _) hw.size
          exact ⟨v', w', h1, h2, hw.below0.trans h3⟩
        · intro vs W v' hv hR
          obtain ⟨R6, N6⟩ := hR
          simp only [Mk.puts, hv, Act.put, List.setIfInBounds_toArray, List.set_cons_succ, List.set_cons_zero]
          have zz := N.size
          have NF := nxt N N6
          clear EN SE hr hr' P0 hv
          generalize hv21 : vs 21 = y21 at *
          generalize vs 22 = y22 at *
          generalize vs 23 = y23 at *
          generalize vs 24 = y24 at *
          generalize vs 25 = y25 at *
          generalize vs 26 = y26 at *
          generalize vs 27 = y27 at *
          generalize vs 28 = y28 at *
          generalize vs 29 = y29 at *
          generalize vs 30 = y30 at *
          go_wp2
          go_ret
          exact ⟨_, rfl, R6.base zz, NF⟩
      · have i2 : ¬ (non.length : Int) = 12 := by omega
        have e2 : Hid (slA key non E = []) := by show _ = _; rw [e1.out, if_neg (fun q => h2 q.2.2)]
        rw [e2.out]
        clear e1 e2
        go_enter Tryz.func26, Tryz.ntmps26
        go_wp2_with fail
        generalize w.alloc (.cells #[.slice ax X.length cx, .slice ay Y.length cy, .int .i64 md, .int .i64 li, .string ⟨⟨ho⟩⟩, .string ⟨⟨pr⟩⟩, .int .i64 ea] 24) = wa at *
        refine SF.out.mono ?_
        rintro e w1 ⟨rfl, m1⟩
        have N := nxt n1 m1
        go_wp2
        go_ret
        exact ⟨_, rfl, (RowB.lit0 w1).base N.size, N.trans (((Below.refl _ _).alloc (Nat.le_refl _) _).mono N.size)⟩
    · have i1 : ¬ (key.length : Int) = 32 := by omega
      have e2 : Hid (slA key non E = []) := by show _ = _; rw [e1.out, if_neg (fun q => h1 q.2.1)]
      rw [e2.out]
      clear e1 e2
      go_enter Tryz.func26, Tryz.ntmps26
      go_wp2_with fail
      generalize w.alloc (.cells #[.slice ax X.length cx, .slice ay Y.length cy, .int .i64 md, .int .i64 li, .string ⟨⟨ho⟩⟩, .string ⟨⟨pr⟩⟩, .int .i64 ea] 24) = wa at *
      refine SF.out.mono ?_
      rintro e w1 ⟨rfl, m1⟩
      have N := nxt n1 m1
      go_wp2
      go_ret
      exact ⟨_, rfl, (RowB.lit0 w1).base N.size, N.trans (((Below.refl _ _).alloc (Nat.le_refl _) _).mono N.size)⟩
  · have e2 : Hid (slA key non E = []) := by show _ = _; rw [e1.out, if_neg (fun q => h0 (EP.out.1 q.1))]
    generalize sfV X.length Y.length md li ho pr.length ea = R at *
    rw [e2.out]
    clear e1 e2
    go_enter Tryz.func26, Tryz.ntmps26
    go_wp2_with fail
    generalize w.alloc (.cells #[.slice ax X.length cx, .slice ay Y.length cy, .int .i64 md, .int .i64 li, .string ⟨⟨ho⟩⟩, .string ⟨⟨pr⟩⟩, .int .i64 ea] 24) = wa at *
    refine SF.out.mono ?_
    rintro e w1 ⟨rfl, m1⟩
    have N := nxt n1 m1
    go_wp2
    go_ret
    exact ⟨_, rfl, (RowB.lit0 w1).base N.size, N.trans (((Below.refl _ _).alloc (Nat.le_refl _) _).mono N.size)⟩
end Go.Proofs.YtccnhdicibjbaaaGreat
namespace Go.Proofs.YtccnhdicibjbaaaGreat
open Go Go.RowKit
end Go.Proofs.YtccnhdicibjbaaaGreat
