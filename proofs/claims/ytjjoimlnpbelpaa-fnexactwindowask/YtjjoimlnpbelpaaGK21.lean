import Derived.Test.YtjjoimlnpbelpaaGK4

/-
  The law by facts for a region that ends with two stores, one behind the other. No program in sight.
-/
namespace Go.Proofs.Ytjjoimlnpbelpaa
open Go Go.RowKit

section
variable {P : Program} {ops : Array Oper} {Q : Exit → Act → World → Prop} {md : Region.Mode} {F : Nat → Fact} {a0 : Act} {w0 : World}

/-- What this law asks of the region's text: number k waits for all others ahead of it, number k + 1, the last, for k; both write no slot. -/
def textTwo (md : Region.Mode) (ops : Array Oper) (n k : Nat) : Bool :=
  (ops.all fun o => o.guard.isNone && (match o.dst with | some d => decide (d < n) | none => true))
  && ((List.range ops.size).all fun i => match ops[i]? with
    | some o => o.after.all (fun e => !Region.binds md e || decide (e.on < i)) && (List.range i).all fun j => match ops[j]? with
      | some x => x.dst.isNone || o.dst != x.dst
      | none => true
    | none => true)
  && decide (ops.size = k + 2)
  && ((List.range k).all fun j => (List.range (k + 1)).any fun m => decide (j < m) && match ops[m]? with
    | some o => o.after.any (fun e => Region.binds md e && e.on == j)
    | none => false)
  && (match ops[k + 1]? with | some o => o.after.any (fun e => Region.binds md e && e.on == k) && o.dst.isNone | none => false)
  && (match ops[k]? with | some o => o.dst.isNone | none => false)

structure Text2 (md : Region.Mode) (ops : Array Oper) (n k : Nat) : Prop where
  g : ∀ (i : Nat) o, ops[i]? = some o → o.guard = none
  d : ∀ (i : Nat) o d, ops[i]? = some o → o.dst = some d → d < n
  a : ∀ (i : Nat) o, ops[i]? = some o → ∀ e ∈ o.after, Region.binds md e = true → e.on < i
  x : ∀ (i j : Nat) o o' d, ops[i]? = some o → ops[j]? = some o' → i ≠ j → o.dst = some d → o'.dst ≠ some d
  k2 : ops.size = k + 2
  c : ∀ j, j < k → ∃ (m : Nat) (o : Oper), j < m ∧ m ≤ k ∧ ops[m]? = some o ∧ ∃ e ∈ o.after, Region.binds md e = true ∧ e.on = j
  l : ∀ o, ops[k + 1]? = some o → ∃ e ∈ o.after, Region.binds md e = true ∧ e.on = k
  n1 : ∀ o, ops[k]? = some o → o.dst = none
  n2 : ∀ o, ops[k + 1]? = some o → o.dst = none
theorem text2_of {n k : Nat} (h : textTwo md ops n k = true) : Text2 md ops n k := by
  unfold textTwo at h
  simp only [Bool.and_eq_true, decide_eq_true_eq] at h
  obtain ⟨⟨⟨⟨⟨h1, h2⟩, h3⟩, h4⟩, h5⟩, h6⟩ := h
  rw [Array.all_eq_true_iff_forall_mem] at h1
  rw [List.all_eq_true] at h2
  have H : ∀ (i j : Nat) o o' d, j < i → ops[i]? = some o → ops[j]? = some o' → o.dst = some d → o'.dst ≠ some d := by
    intro i j o o' d hij hi hj hd hd'
    have q := h2 i (List.mem_range.2 (Array.getElem?_eq_some_iff.1 hi).1)
    simp only [hi, Bool.and_eq_true] at q
    have r := List.all_eq_true.1 q.2 j (List.mem_range.2 hij)
    simp only [hj, hd, hd'] at r
    simp at r
  refine ⟨?_, ?_, ?_, ?_, h3, ?_, ?_, ?_, ?_⟩
  · intro i o ho
    have q := h1 o (Array.mem_of_getElem? ho)
    simp only [Bool.and_eq_true] at q
    exact Option.isNone_iff_eq_none.1 q.1
  · intro i o d ho hd
    have q := h1 o (Array.mem_of_getElem? ho)
    simp only [Bool.and_eq_true, hd, decide_eq_true_eq] at q
    exact q.2
  · intro i o ho e he hb
    have q := h2 i (List.mem_range.2 (Array.getElem?_eq_some_iff.1 ho).1)
    simp only [ho, Bool.and_eq_true] at q
    have r := (Array.all_eq_true_iff_forall_mem.1 q.1) e he
    rw [hb] at r
    simpa using r
  · intro i j o o' d hi hj hij hd hd'
    rcases Nat.lt_or_gt_of_ne hij with h | h
    · exact H j i o' o d h hj hi hd' hd
    · exact H i j o o' d h hi hj hd hd'
  · intro j hj
    have q := List.all_eq_true.1 h4 j (List.mem_range.2 hj)
    obtain ⟨m, hm, r⟩ := List.any_eq_true.1 q
    simp only [Bool.and_eq_true, decide_eq_true_eq] at r
    cases ho : ops[m]? with
    | none => rw [ho] at r; simp at r
    | some o =>
      rw [ho] at r
      obtain ⟨e, he, hb⟩ := Array.any_eq_true'.1 r.2
      simp only [Bool.and_eq_true, beq_iff_eq] at hb
      exact ⟨m, o, r.1, by have := List.mem_range.1 hm; omega, ho, e, he, hb.1, hb.2⟩
  · intro o ho
    rw [ho] at h5
    simp only [Bool.and_eq_true] at h5
    obtain ⟨e, he, hb⟩ := Array.any_eq_true'.1 h5.1
    simp only [Bool.and_eq_true, beq_iff_eq] at hb
    exact ⟨e, he, hb.1, hb.2⟩
  · intro o ho
    rw [ho] at h6
    exact Option.isNone_iff_eq_none.1 h6
  · intro o ho
    rw [ho] at h5
    simp only [Bool.and_eq_true] at h5
    exact Option.isNone_iff_eq_none.1 h5.2

theorem all_ahead2 {n k : Nat} (T : Text2 md ops n k) {listed : Array Bool} {a : Act} {w : World} (H : Held md ops F a0 w0 listed a w)
    (hr : k ∈ Region.ready md ops listed) : ∀ m j, k - j ≤ m → j < k → listed.getD j false = true
  | 0, j, hm, hj => by omega
  | m + 1, j, hm, hj => by
    obtain ⟨p, o, hjp, hpk, ho, e, he, hb, rfl⟩ := T.c j hj
    rcases Nat.lt_or_ge p k with h1 | h1
    · exact H.c p o ho (all_ahead2 T H hr m p (by omega) h1) e he hb
    · obtain rfl : p = k := by omega
      obtain ⟨_, o', ho', q⟩ := mem_ready.1 hr
      obtain rfl := Option.some.inj (ho.symm.trans ho')
      exact q e he hb
theorem Held.next2 {n k : Nat} (T : Text2 md ops n k) (hn : n ≤ a0.tmps.size) {listed : Array Bool} {a : Act} {w : World} (H : Held md ops F a0 w0 listed a w) {i : Nat} {o : Oper} (ho : ops[i]? = some o) (hr : i ∈ Region.ready md ops listed)
    {v : Value} {w' : World} (hw : Below w.heap.size w w') (hf : (F i).p v w') : Held md ops F a0 w0 (listed.setIfInBounds i true) (a.put o.dst v) w' := by
  have hi : i < ops.size := (Array.getElem?_eq_some_iff.1 ho).1
  have hz : a.tmps.size = a0.tmps.size := H.b.2.1
  refine ⟨⟨by rw [put_defers]; exact H.b.1, by rw [put_size]; exact hz, fun d hd => ?_⟩, nxt H.n hw, ?_, ?_, by simp [H.s]⟩
  · rw [put_off]
    · exact H.b.2.2 d hd
    · have q := Array.all_eq_true_iff_forall_mem.1 hd o (Array.mem_of_getElem? ho)
      simpa using q
  · intro j oj d hoj hj hd
    by_cases e : i = j
    · subst e
      obtain rfl := Option.some.inj (ho.symm.trans hoj)
      rw [hd, put_at (Nat.lt_of_lt_of_le (T.d i o d ho hd) (hz ▸ hn))]
      exact hf
    · rw [getD_off e] at hj
      rw [put_off (T.x j i oj o d hoj ho (Ne.symm e) hd)]
      exact (F j).up hw (H.f j oj d hoj hj hd)
  · intro j oj hoj hj e he hb
    obtain ⟨_, o', ho', q⟩ := mem_ready.1 hr
    by_cases c : i = e.on
    · rw [← c]
      exact getD_same (by rw [H.s]; exact hi) _
    · rw [getD_off c]
      by_cases e' : i = j
      · subst e'
        obtain rfl := Option.some.inj (ho'.symm.trans hoj)
        exact q e he hb
      · rw [getD_off e'] at hj
        exact H.c j oj hoj hj e he hb

/-- One operation that makes a block and hands back its place. -/
def FreshOk (P : Program) (md : Region.Mode) (ops : Array Oper) (Q : Exit → Act → World → Prop) (F : Nat → Fact) (a0 : Act) (w0 : World) (i : Nat) : Prop :=
  ∀ o, ops[i]? = some o → ∀ a w, Based ops a0 a → Below w0.heap.size w0 w → (∀ j d, waits md ops i j d = true → (F j).p (a.tmps.getD d undef) w) →
    ∀ K : Act → World → Prop, (∀ v w', Below w.heap.size w w' → (F i).p v w' → v = .pointer (some ⟨w.heap.size, 0, none⟩) → w.heap.size < w'.heap.size → K (a.put o.dst v) w') → o.wp P a w K Q
theorem FreshOk.step {i : Nat} (h : FreshOk P md ops Q F a0 w0 i) : StepOk P md ops Q F a0 w0 i :=
  fun o ho a w hb hw hf K hK => h o ho a w hb hw hf K (fun v w' hn hv _ _ => hK v w' hn hv)
/-- Two that make a block are apart. -/
structure Sep (i1 i2 d1 d2 : Nat) (listed : Array Bool) (a : Act) (w : World) : Prop where
  l : listed.getD i1 false = true → ∃ q, a.tmps.getD d1 undef = .pointer (some ⟨q, 0, none⟩) ∧ q < w.heap.size
  r : listed.getD i2 false = true → ∃ q, a.tmps.getD d2 undef = .pointer (some ⟨q, 0, none⟩) ∧ q < w.heap.size
  n : listed.getD i1 false = true → listed.getD i2 false = true → a.tmps.getD d1 undef ≠ a.tmps.getD d2 undef
theorem Sep.flip {i1 i2 d1 d2 : Nat} {listed : Array Bool} {a : Act} {w : World} (h : Sep i1 i2 d1 d2 listed a w) : Sep i2 i1 d2 d1 listed a w := ⟨h.r, h.l, fun x y => (h.n y x).symm⟩
theorem Sep.other {i1 i2 d1 d2 : Nat} {listed : Array Bool} {a : Act} {w w' : World} (h : Sep i1 i2 d1 d2 listed a w) {i : Nat} {dst : Option Tmp} {v : Value} (h1 : i ≠ i1) (h2 : i ≠ i2) (e1 : dst ≠ some d1) (e2 : dst ≠ some d2) (hw : w.heap.size ≤ w'.heap.size) : Sep i1 i2 d1 d2 (listed.setIfInBounds i true) (a.put dst v) w' := by
  refine ⟨fun g => ?_, fun g => ?_, fun g g' => ?_⟩
  · rw [getD_off h1] at g
    obtain ⟨q, hq, hl⟩ := h.l g
    exact ⟨q, by rw [put_off e1]; exact hq, by omega⟩
  · rw [getD_off h2] at g
    obtain ⟨q, hq, hl⟩ := h.r g
    exact ⟨q, by rw [put_off e2]; exact hq, by omega⟩
  · rw [getD_off h1] at g
    rw [getD_off h2] at g'
    rw [put_off e1, put_off e2]
    exact h.n g g'
theorem Sep.this {i1 i2 d1 d2 : Nat} {listed : Array Bool} {a : Act} {w w' : World} (h : Sep i1 i2 d1 d2 listed a w) {v : Value} (hne : i1 ≠ i2) (hd : d1 ≠ d2) (hs : d1 < a.tmps.size) (hv : v = .pointer (some ⟨w.heap.size, 0, none⟩)) (hw : w.heap.size < w'.heap.size) :
    Sep i1 i2 d1 d2 (listed.setIfInBounds i1 true) (a.put (some d1) v) w' := by
  have e2 : (some d1 : Option Tmp) ≠ some d2 := by simpa using hd
  refine ⟨fun _ => ⟨w.heap.size, by rw [put_at hs, hv], hw⟩, fun g => ?_, fun _ g' => ?_⟩
  · rw [getD_off hne] at g
    obtain ⟨q, hq, hl⟩ := h.r g
    exact ⟨q, by rw [put_off e2]; exact hq, by omega⟩
  · rw [getD_off hne] at g'
    obtain ⟨q, hq, hl⟩ := h.r g'
    rw [put_at hs, put_off e2, hq, hv]
    intro x
    simp only [Value.pointer.injEq, Option.some.injEq, Addr.mk.injEq, and_true] at x
    omega

theorem writes_is {i d : Nat} (h : writes ops i d = true) : ∃ o, ops[i]? = some o ∧ o.dst = some d := by
  unfold writes at h
  cases ho : ops[i]? with
  | none => rw [ho] at h; simp at h
  | some o =>
    rw [ho] at h
    exact ⟨o, rfl, by simpa using h⟩
theorem any_two {n k : Nat} (T : Text2 md ops n k) (hn : n ≤ a0.tmps.size) (steps : ∀ i, i < k → StepOk P md ops Q F a0 w0 i) (o1 o2 : Oper) (hk1 : ops[k]? = some o1) (hk2 : ops[k + 1]? = some o2)
    (i1 i2 d1 d2 : Nat) (q1 : i1 < k) (q2 : i2 < k) (q3 : i1 ≠ i2) (w1 : writes ops i1 d1 = true) (w2 : writes ops i2 d2 = true) (f1 : FreshOk P md ops Q F a0 w0 i1) (f2' : FreshOk P md ops Q F a0 w0 i2)
    (fin : ∀ a w, Based ops a0 a → Below w0.heap.size w0 w → (∀ i o d, i < k → ops[i]? = some o → o.dst = some d → (F i).p (a.tmps.getD d undef) w) → a.tmps.getD d1 undef ≠ a.tmps.getD d2 undef →
      o1.wp P a w (fun a' w' => o2.wp P a' w' (fun a'' w'' => Q .normal a'' w'') Q) Q) :
    ∀ (fuel : Nat) (listed : Array Bool) (a : Act) (w : World), left listed ops.size ≤ fuel → Held md ops F a0 w0 listed a w → Sep i1 i2 d1 d2 listed a w → listed.getD k false = false → listed.getD (k + 1) false = false → wpAny P md ops Q fuel listed a w := by
  obtain ⟨p1, hp1, e1⟩ := writes_is w1
  obtain ⟨p2, hp2, e2⟩ := writes_is w2
  have hd : d1 ≠ d2 := fun e => T.x i1 i2 p1 p2 d1 hp1 hp2 q3 e1 (by rw [e]; exact e2)
  have hks : k < ops.size := by have := T.k2; omega
  have hks' : k + 1 < ops.size := by have := T.k2; omega
  intro fuel
  induction fuel with
  | zero =>
    intro listed a w hl H S hk hk'
    have := left_zero (listed := listed) (n := ops.size) (by omega) k hks
    rw [dflt (by rw [H.s]; exact hks), hk] at this
    simp at this
  | succ fuel ih =>
    intro listed a w hl H S hk hk'
    refine ⟨fun hr => ?_, fun i hi => ?_⟩
    · exfalso
      have hall : ∀ m i, i < m → i ≤ k → listed.getD i false = true := by
        intro m
        induction m with
        | zero => intro i hi; omega
        | succ m ihm =>
          intro i hi hik
          rcases Nat.lt_or_ge i m with h1 | h1
          · exact ihm i h1 hik
          · obtain rfl : i = m := by omega
            cases hc : listed.getD i false
            · exfalso
              obtain ⟨o, ho⟩ : ∃ o, ops[i]? = some o := ⟨ops[i], by simp [show i < ops.size by omega]⟩
              have hr' : i ∈ Region.ready md ops listed := mem_ready.2 ⟨by rw [dflt (by rw [H.s]; omega)]; exact hc, o, ho, fun e he hb => ihm e.on (T.a i o ho e he hb) (by have := T.a i o ho e he hb; omega)⟩
              rw [hr] at hr'
              simp at hr'
            · rfl
      rw [hall (k + 1) k (by omega) (Nat.le_refl _)] at hk
      simp at hk
    · obtain ⟨h0, o, ho, hall⟩ := mem_ready.1 hi
      have hlt := (Array.getElem?_eq_some_iff.1 ho).1
      have hwant : Region.wanted o (yielded ops a.tmps) = true := by simp [Region.wanted, T.g i o ho]
      refine wpOp_step ho fun K' hK => ?_
      rw [if_pos hwant]
      have hll := left_set (by rw [H.s]; exact hlt) h0 ops.size hlt
      rcases Nat.lt_or_ge i k with h1 | h1
      · have hfacts : ∀ j d, waits md ops i j d = true → (F j).p (a.tmps.getD d undef) w := by
          intro j d hjd
          unfold waits at hjd
          rw [ho] at hjd
          cases hoj : ops[j]? with
          | none => rw [hoj] at hjd; simp at hjd
          | some oj =>
            rw [hoj] at hjd
            simp only [Bool.and_eq_true, beq_iff_eq] at hjd
            obtain ⟨e, he, hb⟩ := Array.any_eq_true'.1 hjd.1
            simp only [Bool.and_eq_true, beq_iff_eq] at hb
            exact H.f j oj d hoj (by rw [← hb.2]; exact hall e he hb.1) hjd.2
        have go : ∀ v w', Below w.heap.size w w' → (F i).p v w' → Sep i1 i2 d1 d2 (listed.setIfInBounds i true) (a.put o.dst v) w' → K' (a.put o.dst v) w' := by
          intro v w' hw hf hS
          refine hK _ _ (ih _ _ _ (by omega) (H.next2 T hn ho hi hw hf) hS ?_ ?_)
          · rw [getD_off (by omega)]
            exact hk
          · rw [getD_off (by omega)]
            exact hk'
        by_cases c1 : i = i1
        · subst c1
          obtain rfl := Option.some.inj (hp1.symm.trans ho)
          refine f1 p1 ho a w H.b H.n hfacts K' fun v w' hw hf hv hz => go v w' hw hf ?_
          rw [e1]
          exact S.this q3 hd (by rw [H.b.2.1]; exact Nat.lt_of_lt_of_le (T.d i p1 d1 hp1 e1) hn) hv hz
        · by_cases c2 : i = i2
          · subst c2
            obtain rfl := Option.some.inj (hp2.symm.trans ho)
            refine f2' p2 ho a w H.b H.n hfacts K' fun v w' hw hf hv hz => go v w' hw hf ?_
            rw [e2]
            exact (S.flip.this (Ne.symm q3) (Ne.symm hd) (by rw [H.b.2.1]; exact Nat.lt_of_lt_of_le (T.d i p2 d2 hp2 e2) hn) hv hz).flip
          · refine steps i h1 o ho a w H.b H.n hfacts K' fun v w' hw hf => go v w' hw hf ?_
            refine S.other c1 c2 ?_ ?_ hw.size
            · exact T.x i1 i p1 o d1 hp1 ho (Ne.symm c1) e1
            · exact T.x i2 i p2 o d2 hp2 ho (Ne.symm c2) e2
      · rcases Nat.lt_or_ge k i with h2 | h2
        · exfalso
          obtain rfl : i = k + 1 := by have := T.k2; omega
          obtain ⟨e, he, hb, hq⟩ := T.l o ho
          have := hall e he hb
          rw [hq, hk] at this
          simp at this
        · obtain rfl : i = k := by omega
          obtain rfl := Option.some.inj (hk1.symm.trans ho)
          have hahead := all_ahead2 T H hi
          have q := fin a w H.b H.n (fun j oj d hj hoj hd => H.f j oj d hoj (hahead (i - j) j (Nat.le_refl _) hj) hd) (S.n (hahead (i - i1) i1 (Nat.le_refl _) q1) (hahead (i - i2) i2 (Nat.le_refl _) q2))
          refine Oper.wp_mono (fun a' w' h => hK _ _ ?_) q
          -- the second one alone is left
          have g1 : (listed.setIfInBounds i true).getD (i + 1) true = false := by
            rw [getD_off (by omega), dflt (by rw [H.s]; exact hks')]
            exact hk'
          have hall2 : ∀ j, j ≠ i + 1 → j < ops.size → (listed.setIfInBounds i true).getD j true = true := by
            intro j hj hjs
            by_cases e : i = j
            · subst e
              exact getD_same (by rw [H.s]; exact hlt) _
            · rw [getD_off e, dflt (by rw [H.s]; exact hjs)]
              exact hahead (i - j) j (Nat.le_refl _) (by have := T.k2; omega)
          have hs2 : (listed.setIfInBounds i true).size = ops.size := by simp [H.s]
          have l1 : 0 < left (listed.setIfInBounds i true) ops.size := by
            rcases Nat.eq_zero_or_pos (left (listed.setIfInBounds i true) ops.size) with z | z
            · have := left_zero (n := ops.size) z (i + 1) hks'
              rw [g1] at this
              simp at this
            · exact z
          obtain ⟨f2, rfl⟩ : ∃ f2, fuel = f2 + 1 := ⟨fuel - 1, by omega⟩
          generalize listed.setIfInBounds i true = l2 at *
          refine ⟨fun hr => ?_, fun j hj => ?_⟩
          · exfalso
            have hr' : i + 1 ∈ Region.ready md ops l2 := mem_ready.2 ⟨g1, o2, hk2, fun e he hb => by
              have := T.a (i + 1) o2 hk2 e he hb
              rw [← dflt (by rw [hs2]; omega)]
              exact hall2 e.on (by omega) (by omega)⟩
            rw [hr] at hr'
            simp at hr'
          · obtain ⟨g0, oj, hoj, _⟩ := mem_ready.1 hj
            have hjl := (Array.getElem?_eq_some_iff.1 hoj).1
            by_cases e : j = i + 1
            · subst e
              obtain rfl := Option.some.inj (hk2.symm.trans hoj)
              have hwant2 : Region.wanted o2 (yielded ops a'.tmps) = true := by simp [Region.wanted, T.g (i + 1) o2 hk2]
              refine wpOp_step hk2 fun K2 hK2 => ?_
              rw [if_pos hwant2]
              refine Oper.wp_mono (fun a2 w2 h2' => hK2 _ _ (wpAny_done ?_ h2' f2)) h
              cases hr : Region.ready md ops (l2.setIfInBounds (i + 1) true) with
              | nil => rfl
              | cons m t =>
                exfalso
                have hm : m ∈ Region.ready md ops (l2.setIfInBounds (i + 1) true) := by rw [hr]; simp
                obtain ⟨q0, om, hom, _⟩ := mem_ready.1 hm
                have hml := (Array.getElem?_eq_some_iff.1 hom).1
                by_cases e : i + 1 = m
                · subst e
                  rw [getD_same (by rw [hs2]; exact hks')] at q0
                  simp at q0
                · rw [getD_off e, hall2 m (by omega) hml] at q0
                  simp at q0
            · exfalso
              rw [hall2 j e hjl] at g0
              simp at g0

/-- A region that draws its order and ends with two stores. -/
theorem region_two {id : Nat} {w : World} (k : Nat) (o1 o2 : Oper) (F : Nat → Fact) (hm : P.follows .mixedOrders = true) (hT : textTwo .any ops a0.tmps.size k = true) (hk1 : ops[k]? = some o1) (hk2 : ops[k + 1]? = some o2) (steps : ∀ i, i < k → StepOk P .any ops Q F a0 w i)
    (i1 i2 d1 d2 : Nat) (q1 : i1 < k) (q2 : i2 < k) (q3 : i1 ≠ i2) (w1 : writes ops i1 d1 = true) (w2 : writes ops i2 d2 = true) (f1 : FreshOk P .any ops Q F a0 w i1) (f2 : FreshOk P .any ops Q F a0 w i2)
    (fin : ∀ a w', Based ops a0 a → Below w.heap.size w w' → Full ops F a w' → a.tmps.getD d1 undef ≠ a.tmps.getD d2 undef → o1.wp P a w' (fun a' w'' => o2.wp P a' w'' (fun a'' w3 => Q .normal a'' w3) Q) Q) : (Code.region id ops true).wp P Q a0 w := by
  have T := text2_of hT
  refine wp_region_any hm ?_
  refine any_two (w0 := w) T (Nat.le_refl _) steps o1 o2 hk1 hk2 i1 i2 d1 d2 q1 q2 q3 w1 w2 f1 f2 (fun a w' hb hw hf hne => fin a w' hb hw (fun i d hi => ?_) hne) ops.size _ a0 _ ?_ ⟨⟨rfl, rfl, fun _ _ => rfl⟩, (Below.refl _ _).drew, ?_, ?_, by simp⟩ ⟨fun h => ?_, fun h => ?_, fun h => ?_⟩ ?_ ?_
  · unfold writes at hi
    cases ho : ops[i]? with
    | none => rw [ho] at hi; simp at hi
    | some oi =>
      rw [ho] at hi
      have hi' : oi.dst = some d := by simpa using hi
      refine hf i oi d ?_ ho hi'
      have h1 := (Array.getElem?_eq_some_iff.1 ho).1
      have h2 := T.k2
      rcases Nat.lt_or_ge i k with h | h
      · exact h
      · exfalso
        by_cases e : i = k
        · subst e
          rw [T.n1 oi ho] at hi'
          simp at hi'
        · obtain rfl : i = k + 1 := by omega
          rw [T.n2 oi ho] at hi'
          simp at hi'
  · have : ∀ m, left (Array.replicate ops.size false) m ≤ m := by
      intro m
      induction m with
      | zero => exact Nat.le_refl _
      | succ m ih => unfold left; split <;> omega
    exact this _
  · intro i o d ho hl _
    rw [Array.getD_eq_getD_getElem?, Array.getElem?_replicate] at hl
    split at hl <;> simp at hl
  · intro i o ho hl
    rw [Array.getD_eq_getD_getElem?, Array.getElem?_replicate] at hl
    split at hl <;> simp at hl
  · rw [Array.getD_eq_getD_getElem?, Array.getElem?_replicate] at h
    split at h <;> simp at h
  · rw [Array.getD_eq_getD_getElem?, Array.getElem?_replicate] at h
    split at h <;> simp at h
  · rw [Array.getD_eq_getD_getElem?, Array.getElem?_replicate] at h
    split at h <;> simp at h
  · rw [Array.getD_eq_getD_getElem?, Array.getElem?_replicate]
    split <;> rfl
  · rw [Array.getD_eq_getD_getElem?, Array.getElem?_replicate]
    split <;> rfl
theorem puts_two {n k : Nat} (hT : textTwo md ops n k = true) (hn : n = a0.tmps.size) {a : Act} (hb : Based ops a0 a) (vs : Nat → Value) (hv : ∀ d, a.tmps.getD d undef = vs d) : a = puts vs a0 ops.toList := by
  have T := text2_of hT
  have hin : ∀ o ∈ ops.toList, ∀ e, o.dst = some e → e < a0.tmps.size := fun o ho e he => by
    obtain ⟨i, hi⟩ := List.getElem?_of_mem ho
    have := T.d i o e (by simpa using hi) he
    rw [hn] at this
    exact this
  obtain ⟨s1, s2⟩ := puts_size vs ops.toList a0
  obtain ⟨ta, da⟩ := a
  obtain ⟨h1, h2, h3⟩ := hb
  have e1 : ta = (puts vs a0 ops.toList).tmps := by
    apply Array.ext
    · rw [s1]; exact h2
    · intro i hi hi'
      have g := puts_get vs i ops.toList a0 hin
      have l : ta[i] = ta.getD i undef := by simp [Array.getD_eq_getD_getElem?, hi]
      have r : (puts vs a0 ops.toList).tmps[i] = (puts vs a0 ops.toList).tmps.getD i undef := by simp only [Array.getD_eq_getD_getElem?, Array.getElem?_eq_getElem hi', Option.getD_some]
      rw [l, r, g]
      by_cases c : ops.toList.any (fun o => o.dst == some i) = true
      · rw [if_pos c]; exact hv i
      · rw [if_neg c]
        refine h3 i ?_
        unfold apart
        rw [Array.all_eq_true_iff_forall_mem]
        intro o ho
        have hne : ¬ (o.dst == some i) = true := fun x => c (List.any_eq_true.2 ⟨o, by simpa using ho, x⟩)
        simpa using hne
  have e2 : da = (puts vs a0 ops.toList).defers := h1.trans s2.symm
  subst e1
  subst e2
  rfl
end
end Go.Proofs.Ytjjoimlnpbelpaa
