import Derived.Test.YthapcapiiknjdaaDoorGP9
import Derived.Test.YthapcapiiknjdaaDoorGP4
import Derived.Test.YthapcapiiknjdaaDoorGP1
import Derived.Test.YthapcapiiknjdaaDoorGP6
import Derived.Laws.BitsLemmas
import Derived.Laws.Rows
import Derived.Laws.Tables
import Derived.Deep.MidRow
import Derived.Deep.DeepCutAuto

/-
  The law by facts for a region that ends with two stores, one behind the other. No program in sight.
-/
namespace Go.Proofs.YthapcapiiknjdaaDoor
set_option maxRecDepth 100000
open Go Go.RowKit

section
variable {P : Program} {ops : Array Oper} {Q : Exit → Act → World → Prop} {md : Region.Mode} {F : Nat → Fact} {a0 : Act} {w0 : World}

/-- What this law asks of the region's text: number k waits for all others ahead of it, number k + 1, the last, for k; both write no slot. -/
def textTwo (md : Region.Mode) (ops : Array Oper) (n k : Nat) : Bool :=
  (ops.all fun o => o.guard.isNone && (match o.dst with | some d => decide (d < n) | none => true))
  && ((List.range ops.size).all fun i => match ops[i]? with
    | some o => o.after.all (fun e => !Region.binds md e || decide (e.on < i)) && (List.range i).all fun j => match ops[j]? with
      | some x => x.dst.isNone || o.dst != x.dst
      | none => true
    | none => true)
  && decide (ops.size = k + 2)
  && ((List.range k).all fun j => (List.range (k + 1)).any fun m => decide (j < m) && match ops[m]? with
    | some o => o.after.any (fun e => Region.binds md e && e.on == j)
    | none => false)
  && (match ops[k + 1]? with | some o => o.after.any (fun e => Region.binds md e && e.on == k) && o.dst.isNone | none => false)
  && (match ops[k]? with | some o => o.dst.isNone | none => false)

structure Text2 (md : Region.Mode) (ops : Array Oper) (n k : Nat) : Prop where
  g : ∀ (i : Nat) o, ops[i]? = some o → o.guard = none
  d : ∀ (i : Nat) o d, ops[i]? = some o → o.dst = some d → d < n
  a : ∀ (i : Nat) o, ops[i]? = some o → ∀ e ∈ o.after, Region.binds md e = true → e.on < i
  x : ∀ (i j : Nat) o o' d, ops[i]? = some o → ops[j]? = some o' → i ≠ j → o.dst = some d → o'.dst ≠ some d
  k2 : ops.size = k + 2
  c : ∀ j, j < k → ∃ (m : Nat) (o : Oper), j < m ∧ m ≤ k ∧ ops[m]? = some o ∧ ∃ e ∈ o.after, Region.binds md e = true ∧ e.on = j
  l : ∀ o, ops[k + 1]? = some o → ∃ e ∈ o.after, Region.binds md e = true ∧ e.on = k
  n1 : ∀ o, ops[k]? = some o → o.dst = none
  n2 : ∀ o, ops[k + 1]? = some o → o.dst = none
theorem text2_of {n k : Nat} (h : textTwo md ops n k = true) : Text2 md ops n k := by
  unfold textTwo at h
  simp only [Bool.and_eq_true, decide_eq_true_eq] at h
  obtain ⟨⟨⟨⟨⟨h1, h2⟩, h3⟩, h4⟩, h5⟩, h6⟩ := h
  rw [Array.all_eq_true_iff_forall_mem] at h1
  rw [List.all_eq_true] at h2
  have H : ∀ (i j : Nat) o o' d, j < i → ops[i]? = some o → ops[j]? = some o' → o.dst = some d → o'.dst ≠ some d := by
    intro i j o o' d hij hi hj hd hd'
    have q := h2 i (List.mem_range.2 (Array.getElem?_eq_some_iff.1 hi).1)
    simp only [hi, Bool.and_eq_true] at q
    have r := List.all_eq_true.1 q.2 j (List.mem_range.2 hij)
    simp only [hj, hd, hd'] at r
    simp at r
  refine ⟨?_, ?_, ?_, ?_, h3, ?_, ?_, ?_, ?_⟩
  · intro i o ho
    have q := h1 o (Array.mem_of_getElem? ho)
    simp only [Bool.and_eq_true] at q
    exact Option.isNone_iff_eq_none.1 q.1
  · intro i o d ho hd
    have q := h1 o (Array.mem_of_getElem? ho)
    simp only [Bool.and_eq_true, hd, decide_eq_true_eq] at q
    exact q.2
  · intro i o ho e he hb
    have q := h2 i (List.mem_range.2 (Array.getElem?_eq_some_iff.1 ho).1)
    simp only [ho, Bool.and_eq_true] at q
    have r := (Array.all_eq_true_iff_forall_mem.1 q.1) e he
    rw [hb] at r
    simpa using r
  · intro i j o o' d hi hj hij hd hd'
    rcases Nat.lt_or_gt_of_ne hij with h | h
    · exact H j i o' o d h hj hi hd' hd
    · exact H i j o o' d h hi hj hd hd'
  · intro j hj
    have q := List.all_eq_true.1 h4 j (List.mem_range.2 hj)
    obtain ⟨m, hm, r⟩ := List.any_eq_true.1 q
    simp only [Bool.and_eq_true, decide_eq_true_eq] at r
    cases ho : ops[m]? with
    | none => rw [ho] at r; simp at r
    | some o =>
      rw [ho] at r
      obtain ⟨e, he, hb⟩ := Array.any_eq_true'.1 r.2
      simp only [Bool.and_eq_true, beq_iff_eq] at hb
      exact ⟨m, o, r.1, by have := List.mem_range.1 hm; omega, ho, e, he, hb.1, hb.2⟩
  · intro o ho
    rw [ho] at h5
    simp only [Bool.and_eq_true] at h5
    obtain ⟨e, he, hb⟩ := Array.any_eq_true'.1 h5.1
    simp only [Bool.and_eq_true, beq_iff_eq] at hb
    exact ⟨e, he, hb.1, hb.2⟩
  · intro o ho
    rw [ho] at h6
    exact Option.isNone_iff_eq_none.1 h6
  · intro o ho
    rw [ho] at h5
    simp only [Bool.and_eq_true] at h5
    exact Option.isNone_iff_eq_none.1 h5.2

theorem all_ahead2 {n k : Nat} (T : Text2 md ops n k) {listed : Array Bool} {a : Act} {w : World} (H : Held md ops F a0 w0 listed a w)
    (hr : k ∈ Region.ready md ops listed) : ∀ m j, k - j ≤ m → j < k → listed.getD j false = true
  | 0, j, hm, hj => by omega
  | m + 1, j, hm, hj => by
    obtain ⟨p, o, hjp, hpk, ho, e, he, hb, rfl⟩ := T.c j hj
    rcases Nat.lt_or_ge p k with h1 | h1
    · exact H.c p o ho (all_ahead2 T H hr m p (by omega) h1) e he hb
    · obtain rfl : p = k := by omega
      obtain ⟨_, o', ho', q⟩ := mem_ready.1 hr
      obtain rfl := Option.some.inj (ho.symm.trans ho')
      exact q e he hb
theorem Held.next2 {n k : Nat} (T : Text2 md ops n k) (hn : n ≤ a0.tmps.size) {listed : Array Bool} {a : Act} {w : World} (H : Held md ops F a0 w0 listed a w) {i : Nat} {o : Oper} (ho : ops[i]? = some o) (hr : i ∈ Region.ready md ops listed)
    {v : Value} {w' : World} (hw : Below w.heap.size w w') (hf : (F i).p v w') : Held md ops F a0 w0 (listed.setIfInBounds i true) (a.put o.dst v) w' := by
  have hi : i < ops.size := (Array.getElem?_eq_some_iff.1 ho).1
  have hz : a.tmps.size = a0.tmps.size := H.b.2.1
  refine ⟨⟨by rw [put_defers]; exact H.b.1, by rw [put_size]; exact hz, fun d hd => ?_⟩, nxt H.n hw, ?_, ?_, by simp [H.s]⟩
  · rw [put_off]
    · exact H.b.2.2 d hd
    · have q := Array.all_eq_true_iff_forall_mem.1 hd o (Array.mem_of_getElem? ho)
      simpa using q
  · intro j oj d hoj hj hd
    by_cases e : i = j
    · subst e
      obtain rfl := Option.some.inj (ho.symm.trans hoj)
      rw [hd, put_at (Nat.lt_of_lt_of_le (T.d i o d ho hd) (hz ▸ hn))]
      exact hf
    · rw [getD_off e] at hj
      rw [put_off (T.x j i oj o d hoj ho (Ne.symm e) hd)]
      exact (F j).up hw (H.f j oj d hoj hj hd)
  · intro j oj hoj hj e he hb
    obtain ⟨_, o', ho', q⟩ := mem_ready.1 hr
    by_cases c : i = e.on
    · rw [← c]
      exact getD_same (by rw [H.s]; exact hi) _
    · rw [getD_off c]
      by_cases e' : i = j
      · subst e'
        obtain rfl := Option.some.inj (ho'.symm.trans hoj)
        exact q e he hb
      · rw [getD_off e'] at hj
        exact H.c j oj hoj hj e he hb

/-- One operation that makes a block and hands back its place. -/
def FreshOk (P : Program) (md : Region.Mode) (ops : Array Oper) (Q : Exit → Act → World → Prop) (F : Nat → Fact) (a0 : Act) (w0 : World) (i : Nat) : Prop :=
  ∀ o, ops[i]? = some o → ∀ a w, Based ops a0 a → Below w0.heap.size w0 w → (∀ j d, waits md ops i j d = true → (F j).p (a.tmps.getD d undef) w) →
    ∀ K : Act → World → Prop, (∀ v w', Below w.heap.size w w' → (F i).p v w' → v = .pointer (some ⟨w.heap.size, 0, none⟩) → w.heap.size < w'.heap.size → K (a.put o.dst v) w') → o.wp P a w K Q
theorem FreshOk.step {i : Nat} (h : FreshOk P md ops Q F a0 w0 i) : StepOk P md ops Q F a0 w0 i :=
  fun o ho a w hb hw hf K hK => h o ho a w hb hw hf K (fun v w' hn hv _ _ => hK v w' hn hv)
/-- Two that make a block are apart. -/
structure Sep (i1 i2 d1 d2 : Nat) (listed : Array Bool) (a : Act) (w : World) : Prop where
  l : listed.getD i1 false = true → ∃ q, a.tmps.getD d1 undef = .pointer (some ⟨q, 0, none⟩) ∧ q < w.heap.size
  r : listed.getD i2 false = true → ∃ q, a.tmps.getD d2 undef = .pointer (some ⟨q, 0, none⟩) ∧ q < w.heap.size
  n : listed.getD i1 false = true → listed.getD i2 false = true → a.tmps.getD d1 undef ≠ a.tmps.getD d2 undef
theorem Sep.flip {i1 i2 d1 d2 : Nat} {listed : Array Bool} {a : Act} {w : World} (h : Sep i1 i2 d1 d2 listed a w) : Sep i2 i1 d2 d1 listed a w := ⟨h.r, h.l, fun x y => (h.n y x).symm⟩
theorem Sep.other {i1 i2 d1 d2 : Nat} {listed : Array Bool} {a : Act} {w w' : World} (h : Sep i1 i2 d1 d2 listed a w) {i : Nat} {dst : Option Tmp} {v : Value} (h1 : i ≠ i1) (h2 : i ≠ i2) (e1 : dst ≠ some d1) (e2 : dst ≠ some d2) (hw : w.heap.size ≤ w'.heap.size) : Sep i1 i2 d1 d2 (listed.setIfInBounds i true) (a.put dst v) w' := by
  refine ⟨fun g => ?_, fun g => ?_, fun g g' => ?_⟩
  · rw [getD_off h1] at g
    obtain ⟨q, hq, hl⟩ := h.l g
    exact ⟨q, by rw [put_off e1]; exact hq, by omega⟩
  · rw [getD_off h2] at g
    obtain ⟨q, hq, hl⟩ := h.r g
    exact ⟨q, by rw [put_off e2]; exact hq, by omega⟩
  · rw [getD_off h1] at g
    rw [getD_off h2] at g'
    rw [put_off e1, put_off e2]
    exact h.n g g'
theorem Sep.this {i1 i2 d1 d2 : Nat} {listed : Array Bool} {a : Act} {w w' : World} (h : Sep i1 i2 d1 d2 listed a w) {v : Value} (hne : i1 ≠ i2) (hd : d1 ≠ d2) (hs : d1 < a.tmps.size) (hv : v = .pointer (some ⟨w.heap.size, 0, none⟩)) (hw : w.heap.size < w'.heap.size) :
    Sep i1 i2 d1 d2 (listed.setIfInBounds i1 true) (a.put (some d1) v) w' := by
  have e2 : (some d1 : Option Tmp) ≠ some d2 := by simpa using hd
  refine ⟨fun _ => ⟨w.heap.size, by rw [put_at hs, hv], hw⟩, fun g => ?_, fun _ g' => ?_⟩
  · rw [getD_off hne] at g
    obtain ⟨q, hq, hl⟩ := h.r g
    exact ⟨q, by rw [put_off e2]; exact hq, by omega⟩
  · rw [getD_off hne] at g'
    obtain ⟨q, hq, hl⟩ := h.r g'
    rw [put_at hs, put_off e2, hq, hv]
    intro x
    simp only [Value.pointer.injEq, Option.some.injEq, Addr.mk.injEq, and_true] at x
    omega

theorem writes_is {i d : Nat} (h : writes ops i d = true) : ∃ o, ops[i]? = some o ∧ o.dst = some d := by
  unfold writes at h
  cases ho : ops[i]? with
  | none => rw [ho] at h; simp at h
  | some o =>
    rw [ho] at h
    exact ⟨o, rfl, by simpa using h⟩
theorem any_two {n k : Nat} (T : Text2 md ops n k) (hn : n ≤ a0.tmps.size) (steps : ∀ i, i < k → StepOk P md ops Q F a0 w0 i) (o1 o2 : Oper) (hk1 : ops[k]? = some o1) (hk2 : ops[k + 1]? = some o2)
    (i1 i2 d1 d2 : Nat) (q1 : i1 < k) (q2 : i2 < k) (q3 : i1 ≠ i2) (w1 : writes ops i1 d1 = true) (w2 : writes ops i2 d2 = true) (f1 : FreshOk P md ops Q F a0 w0 i1) (f2' : FreshOk P md ops Q F a0 w0 i2)
    (fin : ∀ a w, Based ops a0 a → Below w0.heap.size w0 w → (∀ i o d, i < k → ops[i]? = some o → o.dst = some d → (F i).p (a.tmps.getD d undef) w) → a.tmps.getD d1 undef ≠ a.tmps.getD d2 undef →
      o1.wp P a w (fun a' w' => o2.wp P a' w' (fun a'' w'' => Q .normal a'' w'') Q) Q) :
    ∀ (fuel : Nat) (listed : Array Bool) (a : Act) (w : World), left listed ops.size ≤ fuel → Held md ops F a0 w0 listed a w → Sep i1 i2 d1 d2 listed a w → listed.getD k false = false → listed.getD (k + 1) false = false → wpAny P md ops Q fuel listed a w := by
  obtain ⟨p1, hp1, e1⟩ := writes_is w1
  obtain ⟨p2, hp2, e2⟩ := writes_is w2
  have hd : d1 ≠ d2 := fun e => T.x i1 i2 p1 p2 d1 hp1 hp2 q3 e1 (by rw [e]; exact e2)
  have hks : k < ops.size := by have := T.k2; omega
  have hks' : k + 1 < ops.size := by have := T.k2; omega
  intro fuel
  induction fuel with
  | zero =>
    intro listed a w hl H S hk hk'
    have := left_zero (listed := listed) (n := ops.size) (by omega) k hks
    rw [dflt (by rw [H.s]; exact hks), hk] at this
    simp at this
  | succ fuel ih =>
    intro listed a w hl H S hk hk'
    refine ⟨fun hr => ?_, fun i hi => ?_⟩
    · exfalso
      have hall : ∀ m i, i < m → i ≤ k → listed.getD i false = true := by
        intro m
        induction m with
        | zero => intro i hi; omega
        | succ m ihm =>
          intro i hi hik
          rcases Nat.lt_or_ge i m with h1 | h1
          · exact ihm i h1 hik
          · obtain rfl : i = m := by omega
            cases hc : listed.getD i false
            · exfalso
              obtain ⟨o, ho⟩ : ∃ o, ops[i]? = some o := ⟨ops[i], by simp [show i < ops.size by omega]⟩
              have hr' : i ∈ Region.ready md ops listed := mem_ready.2 ⟨by rw [dflt (by rw [H.s]; omega)]; exact hc, o, ho, fun e he hb => ihm e.on (T.a i o ho e he hb) (by have := T.a i o ho e he hb; omega)⟩
              rw [hr] at hr'
              simp at hr'
            · rfl
      rw [hall (k + 1) k (by omega) (Nat.le_refl _)] at hk
      simp at hk
    · obtain ⟨h0, o, ho, hall⟩ := mem_ready.1 hi
      have hlt := (Array.getElem?_eq_some_iff.1 ho).1
      have hwant : Region.wanted o (yielded ops a.tmps) = true := by simp [Region.wanted, T.g i o ho]
      refine wpOp_step ho fun K' hK => ?_
      rw [if_pos hwant]
      have hll := left_set (by rw [H.s]; exact hlt) h0 ops.size hlt
      rcases Nat.lt_or_ge i k with h1 | h1
      · have hfacts : ∀ j d, waits md ops i j d = true → (F j).p (a.tmps.getD d undef) w := by
          intro j d hjd
          unfold waits at hjd
          rw [ho] at hjd
          cases hoj : ops[j]? with
          | none => rw [hoj] at hjd; simp at hjd
          | some oj =>
            rw [hoj] at hjd
            simp only [Bool.and_eq_true, beq_iff_eq] at hjd
            obtain ⟨e, he, hb⟩ := Array.any_eq_true'.1 hjd.1
            simp only [Bool.and_eq_true, beq_iff_eq] at hb
            exact H.f j oj d hoj (by rw [← hb.2]; exact hall e he hb.1) hjd.2
        have go : ∀ v w', Below w.heap.size w w' → (F i).p v w' → Sep i1 i2 d1 d2 (listed.setIfInBounds i true) (a.put o.dst v) w' → K' (a.put o.dst v) w' := by
          intro v w' hw hf hS
          refine hK _ _ (ih _ _ _ (by omega) (H.next2 T hn ho hi hw hf) hS ?_ ?_)
          · rw [getD_off (by omega)]
            exact hk
          · rw [getD_off (by omega)]
            exact hk'
        by_cases c1 : i = i1
        · subst c1
          obtain rfl := Option.some.inj (hp1.symm.trans ho)
          refine f1 p1 ho a w H.b H.n hfacts K' fun v w' hw hf hv hz => go v w' hw hf ?_
          rw [e1]
          exact S.this q3 hd (by rw [H.b.2.1]; exact Nat.lt_of_lt_of_le (T.d i p1 d1 hp1 e1) hn) hv hz
        · by_cases c2 : i = i2
          · subst c2
            obtain rfl := Option.some.inj (hp2.symm.trans ho)
            refine f2' p2 ho a w H.b H.n hfacts K' fun v w' hw hf hv hz => go v w' hw hf ?_
            rw [e2]
            exact (S.flip.this (Ne.symm q3) (Ne.symm hd) (by rw [H.b.2.1]; exact Nat.lt_of_lt_of_le (T.d i p2 d2 hp2 e2) hn) hv hz).flip
          · refine steps i h1 o ho a w H.b H.n hfacts K' fun v w' hw hf => go v w' hw hf ?_
            refine S.other c1 c2 ?_ ?_ hw.size
            · exact T.x i1 i p1 o d1 hp1 ho (Ne.symm c1) e1
            · exact T.x i2 i p2 o d2 hp2 ho (Ne.symm c2) e2
      · rcases Nat.lt_or_ge k i with h2 | h2
        · exfalso
          obtain rfl : i = k + 1 := by have := T.k2; omega
          obtain ⟨e, he, hb, hq⟩ := T.l o ho
          have := hall e he hb
          rw [hq, hk] at this
          simp at this
        · obtain rfl : i = k := by omega
          obtain rfl := Option.some.inj (hk1.symm.trans ho)
          have hahead := all_ahead2 T H hi
          have q := fin a w H.b H.n (fun j oj d hj hoj hd => H.f j oj d hoj (hahead (i - j) j (Nat.le_refl _) hj) hd) (S.n (hahead (i - i1) i1 (Nat.le_refl _) q1) (hahead (i - i2) i2 (Nat.le_refl _) q2))
          refine Oper.wp_mono (fun a' w' h => hK _ _ ?_) q
          -- the second one alone is left
          have g1 : (listed.setIfInBounds i true).getD (i + 1) true = false := by
            rw [getD_off (by omega), dflt (by rw [H.s]; exact hks')]
            exact hk'
          have hall2 : ∀ j, j ≠ i + 1 → j < ops.size → (listed.setIfInBounds i true).getD j true = true := by
            intro j hj hjs
            by_cases e : i = j
            · subst e
              exact getD_same (by rw [H.s]; exact hlt) _
            · rw [getD_off e, dflt (by rw [H.s]; exact hjs)]
              exact hahead (i - j) j (Nat.le_refl _) (by have := T.k2; omega)
          have hs2 : (listed.setIfInBounds i true).size = ops.size := by simp [H.s]
          have l1 : 0 < left (listed.setIfInBounds i true) ops.size := by
            rcases Nat.eq_zero_or_pos (left (listed.setIfInBounds i true) ops.size) with z | z
            · have := left_zero (n := ops.size) z (i + 1) hks'
              rw [g1] at this
              simp at this
            · exact z
          obtain ⟨f2, rfl⟩ : ∃ f2, fuel = f2 + 1 := ⟨fuel - 1, by omega⟩
          generalize listed.setIfInBounds i true = l2 at *
          refine ⟨fun hr => ?_, fun j hj => ?_⟩
          · exfalso
            have hr' : i + 1 ∈ Region.ready md ops l2 := mem_ready.2 ⟨g1, o2, hk2, fun e he hb => by
              have := T.a (i + 1) o2 hk2 e he hb
              rw [← dflt (by rw [hs2]; omega)]
              exact hall2 e.on (by omega) (by omega)⟩
            rw [hr] at hr'
            simp at hr'
          · obtain ⟨g0, oj, hoj, _⟩ := mem_ready.1 hj
            have hjl := (Array.getElem?_eq_some_iff.1 hoj).1
            by_cases e : j = i + 1
            · subst e
              obtain rfl := Option.some.inj (hk2.symm.trans hoj)
              have hwant2 : Region.wanted o2 (yielded ops a'.tmps) = true := by simp [Region.wanted, T.g (i + 1) o2 hk2]
              refine wpOp_step hk2 fun K2 hK2 => ?_
              rw [if_pos hwant2]
              refine Oper.wp_mono (fun a2 w2 h2' => hK2 _ _ (wpAny_done ?_ h2' f2)) h
              cases hr : Region.ready md ops (l2.setIfInBounds (i + 1) true) with
              | nil => rfl
              | cons m t =>
                exfalso
                have hm : m ∈ Region.ready md ops (l2.setIfInBounds (i + 1) true) := by rw [hr]; simp
                obtain ⟨q0, om, hom, _⟩ := mem_ready.1 hm
                have hml := (Array.getElem?_eq_some_iff.1 hom).1
                by_cases e : i + 1 = m
                · subst e
                  rw [getD_same (by rw [hs2]; exact hks')] at q0
                  simp at q0
                · rw [getD_off e, hall2 m (by omega) hml] at q0
                  simp at q0
            · exfalso
              rw [hall2 j e hjl] at g0
              simp at g0

/-- A region that draws its order and ends with two stores. -/
theorem region_two {id : Nat} {w : World} (k : Nat) (o1 o2 : Oper) (F : Nat → Fact) (hm : P.follows .mixedOrders = true) (hT : textTwo .any ops a0.tmps.size k = true) (hk1 : ops[k]? = some o1) (hk2 : ops[k + 1]? = some o2) (steps : ∀ i, i < k → StepOk P .any ops Q F a0 w i)
    (i1 i2 d1 d2 : Nat) (q1 : i1 < k) (q2 : i2 < k) (q3 : i1 ≠ i2) (w1 : writes ops i1 d1 = true) (w2 : writes ops i2 d2 = true) (f1 : FreshOk P .any ops Q F a0 w i1) (f2 : FreshOk P .any ops Q F a0 w i2)
    (fin : ∀ a w', Based ops a0 a → Below w.heap.size w w' → Full ops F a w' → a.tmps.getD d1 undef ≠ a.tmps.getD d2 undef → o1.wp P a w' (fun a' w'' => o2.wp P a' w'' (fun a'' w3 => Q .normal a'' w3) Q) Q) : (Code.region id ops true).wp P Q a0 w := by
  have T := text2_of hT
  refine wp_region_any hm ?_
  refine any_two (w0 := w) T (Nat.le_refl _) steps o1 o2 hk1 hk2 i1 i2 d1 d2 q1 q2 q3 w1 w2 f1 f2 (fun a w' hb hw hf hne => fin a w' hb hw (fun i d hi => ?_) hne) ops.size _ a0 _ ?_ ⟨⟨rfl, rfl, fun _ _ => rfl⟩, (Below.refl _ _).drew, ?_, ?_, by simp⟩ ⟨fun h => ?_, fun h => ?_, fun h => ?_⟩ ?_ ?_
  · unfold writes at hi
    cases ho : ops[i]? with
    | none => rw [ho] at hi; simp at hi
    | some oi =>
      rw [ho] at hi
      have hi' : oi.dst = some d := by simpa using hi
      refine hf i oi d ?_ ho hi'
      have h1 := (Array.getElem?_eq_some_iff.1 ho).1
      have h2 := T.k2
      rcases Nat.lt_or_ge i k with h | h
      · exact h
      · exfalso
        by_cases e : i = k
        · subst e
          rw [T.n1 oi ho] at hi'
          simp at hi'
        · obtain rfl : i = k + 1 := by omega
          rw [T.n2 oi ho] at hi'
          simp at hi'
  · have : ∀ m, left (Array.replicate ops.size false) m ≤ m := by
      intro m
      induction m with
      | zero => exact Nat.le_refl _
      | succ m ih => unfold left; split <;> omega
    exact this _
  · intro i o d ho hl _
    rw [Array.getD_eq_getD_getElem?, Array.getElem?_replicate] at hl
    split at hl <;> simp at hl
  · intro i o ho hl
    rw [Array.getD_eq_getD_getElem?, Array.getElem?_replicate] at hl
    split at hl <;> simp at hl
  · rw [Array.getD_eq_getD_getElem?, Array.getElem?_replicate] at h
    split at h <;> simp at h
  · rw [Array.getD_eq_getD_getElem?, Array.getElem?_replicate] at h
    split at h <;> simp at h
  · rw [Array.getD_eq_getD_getElem?, Array.getElem?_replicate] at h
    split at h <;> simp at h
  · rw [Array.getD_eq_getD_getElem?, Array.getElem?_replicate]
    split <;> rfl
  · rw [Array.getD_eq_getD_getElem?, Array.getElem?_replicate]
    split <;> rfl
theorem puts_two {n k : Nat} (hT : textTwo md ops n k = true) (hn : n = a0.tmps.size) {a : Act} (hb : Based ops a0 a) (vs : Nat → Value) (hv : ∀ d, a.tmps.getD d undef = vs d) : a = puts vs a0 ops.toList := by
  have T := text2_of hT
  have hin : ∀ o ∈ ops.toList, ∀ e, o.dst = some e → e < a0.tmps.size := fun o ho e he => by
    obtain ⟨i, hi⟩ := List.getElem?_of_mem ho
    have := T.d i o e (by simpa using hi) he
    rw [hn] at this
    exact this
  obtain ⟨s1, s2⟩ := puts_size vs ops.toList a0
  obtain ⟨ta, da⟩ := a
  obtain ⟨h1, h2, h3⟩ := hb
  have e1 : ta = (puts vs a0 ops.toList).tmps := by
    apply Array.ext
    · rw [s1]; exact h2
    · intro i hi hi'
      have g := puts_get vs i ops.toList a0 hin
      have l : ta[i] = ta.getD i undef := by simp [Array.getD_eq_getD_getElem?, hi]
      have r : (puts vs a0 ops.toList).tmps[i] = (puts vs a0 ops.toList).tmps.getD i undef := by simp only [Array.getD_eq_getD_getElem?, Array.getElem?_eq_getElem hi', Option.getD_some]
      rw [l, r, g]
      by_cases c : ops.toList.any (fun o => o.dst == some i) = true
      · rw [if_pos c]; exact hv i
      · rw [if_neg c]
        refine h3 i ?_
        unfold apart
        rw [Array.all_eq_true_iff_forall_mem]
        intro o ho
        have hne : ¬ (o.dst == some i) = true := fun x => c (List.any_eq_true.2 ⟨o, by simpa using ho, x⟩)
        simpa using hne
  have e2 : da = (puts vs a0 ops.toList).defers := h1.trans s2.symm
  subst e1
  subst e2
  rfl
end
end Go.Proofs.YthapcapiiknjdaaDoor

/-
  The model's sixteen limbs of 16 bits, signed, and what its carrying makes of them: numbers alone.
-/
namespace Go.Proofs.YthapcapiiknjdaaDoor
set_option maxRecDepth 100000

/-- What is carried into place k. -/
def c16 (f : Nat → Int) : Nat → Int
  | 0 => 0
  | k + 1 => (c16 f k + f k) / 65536
/-- What is left at place k. -/
def l16 (f : Nat → Int) (k : Nat) : Int := (c16 f k + f k) % 65536
/-- The number of the first k limbs. -/
def s16 (f : Nat → Int) : Nat → Int
  | 0 => 0
  | k + 1 => s16 f k + f k * 65536 ^ k
theorem c16_sum (f : Nat → Int) : ∀ k, s16 (l16 f) k + c16 f k * 65536 ^ k = s16 f k
  | 0 => by simp [s16, c16]
  | k + 1 => by
    have ih := c16_sum f k
    have h : c16 f k + f k = l16 f k + 65536 * c16 f (k + 1) := by
      rw [l16, c16]; omega
    have h2 : (c16 f k + f k) * 65536 ^ k = (l16 f k + 65536 * c16 f (k + 1)) * 65536 ^ k := by rw [h]
    rw [Int.add_mul, Int.add_mul] at h2
    rw [s16, s16, Int.pow_succ]
    have h3 : c16 f (k + 1) * (65536 ^ k * 65536) = 65536 * c16 f (k + 1) * 65536 ^ k := by
      rw [Int.mul_comm (65536 ^ k) 65536, ← Int.mul_assoc, Int.mul_comm (c16 f (k + 1))]
    rw [h3]
    omega
theorem l16_bd (f : Nat → Int) (k : Nat) : 0 ≤ l16 f k ∧ l16 f k < 65536 := by
  unfold l16; omega
theorem c16_bd {f : Nat → Int} {M : Int} (hM : 1 ≤ M) (hf : ∀ j, -(65535 * M) ≤ f j ∧ f j ≤ 65535 * M) : ∀ k, -M ≤ c16 f k ∧ c16 f k ≤ M
  | 0 => by simp [c16]; omega
  | k + 1 => by
    have ih := c16_bd hM hf k
    have := hf k
    rw [c16]
    omega
/-- Sixteen limbs in their bounds. -/
def L16 (f : Nat → Int) : Prop := ∀ j, j < 16 → 0 ≤ f j ∧ f j < 65536
/-- 2^256 -/
abbrev W256 : Int := 115792089237316195423570985008687907853269984665640564039457584007913129639936
theorem L16.bd {f : Nat → Int} (h : L16 f) : 0 ≤ s16 f 16 ∧ s16 f 16 < W256 := by
  have h0 := h 0 (by omega); have h1 := h 1 (by omega); have h2 := h 2 (by omega); have h3 := h 3 (by omega)
  have h4 := h 4 (by omega); have h5 := h 5 (by omega); have h6 := h 6 (by omega); have h7 := h 7 (by omega)
  have h8 := h 8 (by omega); have h9 := h 9 (by omega); have ha := h 10 (by omega); have hb := h 11 (by omega)
  have hc := h 12 (by omega); have hd := h 13 (by omega); have he := h 14 (by omega); have hf := h 15 (by omega)
  simp only [s16]
  show _ ∧ _ < 115792089237316195423570985008687907853269984665640564039457584007913129639936
  omega
/-- One round of carrying. -/
def r16 (f : Nat → Int) (j : Nat) : Int := if j = 0 then l16 f 0 + 38 * c16 f 16 else l16 f j
theorem r16_val (f : Nat → Int) : s16 (r16 f) 16 = s16 (l16 f) 16 + 38 * c16 f 16 := by
  simp [s16, r16]; omega
theorem r16_sum (f : Nat → Int) : ∃ c, c = c16 f 16 ∧ s16 (r16 f) 16 = s16 f 16 - 115792089237316195423570985008687907853269984665640564039457584007913129639936 * c + 38 * c ∧ 0 ≤ s16 f 16 - 115792089237316195423570985008687907853269984665640564039457584007913129639936 * c ∧ s16 f 16 - 115792089237316195423570985008687907853269984665640564039457584007913129639936 * c < 115792089237316195423570985008687907853269984665640564039457584007913129639936 := by
  have h1 := c16_sum f 16
  have h2 := L16.bd (f := l16 f) (fun j _ => l16_bd f j)
  have h3 := r16_val f
  have e : (65536 : Int) ^ 16 = 115792089237316195423570985008687907853269984665640564039457584007913129639936 := by decide
  rw [e] at h1
  refine ⟨_, rfl, ?_⟩
  generalize s16 (l16 f) 16 = A at *
  generalize c16 f 16 = c at *
  generalize s16 (r16 f) 16 = B at *
  generalize s16 f 16 = U at *
  have h2' : 0 ≤ A ∧ A < 115792089237316195423570985008687907853269984665640564039457584007913129639936 := h2
  omega
/-- Three rounds. -/
def cry (f : Nat → Int) : Nat → Int := r16 (r16 (r16 f))
theorem r16_bd {f : Nat → Int} {M : Int} (hM : 1 ≤ M) (hf : ∀ j, -(65535 * M) ≤ f j ∧ f j ≤ 65535 * M) : ∀ j, -(38 * M) ≤ r16 f j ∧ r16 f j ≤ 65535 + 38 * M := by
  intro j
  have h1 := c16_bd hM hf 16
  have h2 := l16_bd f j
  have h3 := l16_bd f 0
  unfold r16
  split <;> omega
theorem cry_ok {f : Nat → Int} (hf : ∀ j, -1152921504606846976 ≤ f j ∧ f j ≤ 1152921504606846976) : L16 (cry f) ∧ s16 (cry f) 16 % PP = s16 f 16 % PP := by
  have b1 := r16_bd (f := f) (M := 17592454500000) (by omega) (fun j => by have := hf j; omega)
  obtain ⟨c1, _, v1, lo1, hi1⟩ := r16_sum f
  obtain ⟨c2, _, v2, lo2, hi2⟩ := r16_sum (r16 f)
  obtain ⟨c3, hc3, v3, lo3, hi3⟩ := r16_sum (r16 (r16 f))
  have hc1 : -17592454500000 ≤ c1 ∧ c1 ≤ 17592454500000 := by
    have := c16_bd (f := f) (M := 17592454500000) (by omega) (fun j => by have := hf j; omega) 16
    omega
  have e3 : c3 = 0 := by
    generalize s16 (r16 f) 16 = S1 at *
    generalize s16 (r16 (r16 f)) 16 = S2 at *
    generalize s16 f 16 = U at *
    have h2 : c2 = 0 ∨ c2 = 1 ∨ c2 = -1 := by omega
    omega
  refine ⟨?_, ?_⟩
  · intro j _
    have h0 := l16_bd (r16 (r16 f)) j
    unfold cry
    show 0 ≤ r16 (r16 (r16 f)) j ∧ r16 (r16 (r16 f)) j < 65536
    rw [r16, ← hc3, e3]
    split
    · rename_i e; subst e; omega
    · exact h0
  · show s16 (r16 (r16 (r16 f))) 16 % 57896044618658097711785492504343953926634992332820282019728792003956564819949 = s16 f 16 % 57896044618658097711785492504343953926634992332820282019728792003956564819949
    omega
end Go.Proofs.YthapcapiiknjdaaDoor

/-
  The model's l2Carry.
-/
namespace Go.Proofs.YthapcapiiknjdaaDoor
set_option maxRecDepth 100000
open Go.RowKit

theorem and65535 (n : Int) : bits .and .i64 n 65535 = n % 65536 := by
  have h127 : (BitVec.ofInt 64 65535).toNat = 2 ^ 16 - 1 := by decide
  have key : (BitVec.ofInt 64 n &&& BitVec.ofInt 64 65535).toNat = (n % ((2 ^ 64 : Nat) : Int)).toNat % 2 ^ 16 := by
    rw [BitVec.toNat_and, BitVec.toNat_ofInt, h127, Nat.and_two_pow_sub_one_eq_mod]
  show IntKind.i64.wrap ((BitVec.ofInt 64 n &&& BitVec.ofInt 64 65535).toNat : Nat) = n % 65536
  rw [key, IntKind.wrap_i64]
  omega
/-- Sixteen limbs, as a list. -/
def ls16 (f : Nat → Int) : List Int := (List.range 16).map f
theorem ls16_len (f : Nat → Int) : (ls16 f).length = 16 := by simp [ls16]
theorem ls16_get (f : Nat → Int) {j : Nat} (h : j < 16) : (ls16 f).getD j 0 = f j := by simp [ls16, h]
/-- Sixteen limbs as the value of an array. -/
def ag16 (f : Nat → Int) : Value := .agg ((ls16 f).map (Value.int .i64)).toArray
theorem blk16 (w : World) (t : TypeId) (f : Nat → Int) : Blk (w.alloc (.cells ((ls16 f).map (Value.int .i64)).toArray t)) w.heap.size .i64 (ls16 f) := ⟨t, by rw [heap_alloc_last]⟩

/-- The first k of sixteen are p's, the others q's. -/
def Up16 (p q : Nat → Int) (ys : List Int) (k : Nat) : Prop := ys.length = 16 ∧ (∀ j, j < k → ys.getD j 0 = p j) ∧ ∀ j, k ≤ j → j < 16 → ys.getD j 0 = q j
theorem Up16.step {p q : Nat → Int} {ys : List Int} {k : Nat} (h : Up16 p q ys k) (hk : k < 16) : Up16 p q (ys.set k (p k)) (k + 1) := by
  refine ⟨by simpa using h.1, fun j hj => ?_, fun j hj hj5 => ?_⟩
  · by_cases e : k = j
    · subst e
      rw [getD_set_self _ _ _ (by rw [h.1]; exact hk)]
    · rw [getD_set_ne _ _ _ _ e]
      exact h.2.1 j (by omega)
  · rw [getD_set_ne _ _ _ _ (by omega)]
    exact h.2.2 j (by omega) hj5
theorem Up16.all {p q : Nat → Int} {ys : List Int} (h : Up16 p q ys 16) : ys = ls16 p :=
  eq_of_getD (by rw [h.1, ls16_len]) (fun i hi => by rw [h.1] at hi; rw [h.2.1 i hi, ls16_get p hi])
theorem Up16.zero (p q : Nat → Int) : Up16 p q (ls16 q) 0 := ⟨ls16_len q, fun j hj => absurd hj (by omega), fun j _ hj => ls16_get q hj⟩
theorem ls16_set (p : Nat → Int) (v : Int) : (ls16 p).set 0 v = ls16 (fun j => if j = 0 then v else p j) := by
  refine eq_of_getD (by simp [ls16]) (fun i hi => ?_)
  have hi' : i < 16 := by simpa [ls16] using hi
  rw [ls16_get _ hi']
  by_cases e : i = 0
  · subst e
    rw [getD_set_self _ _ _ (by rw [ls16_len]; omega)]; rfl
  · rw [getD_set_ne _ _ _ _ (by omega), ls16_get _ hi', if_neg e]
/-- Rounds of carrying. -/
def it16 (f : Nat → Int) : Nat → Nat → Int
  | 0 => f
  | k + 1 => r16 (it16 f k)
def In60 (f : Nat → Int) : Prop := ∀ j, -1152921504606846976 ≤ f j ∧ f j ≤ 1152921504606846976
theorem it16_in {f : Nat → Int} (hf : In60 f) : ∀ k, In60 (it16 f k)
  | 0 => hf
  | k + 1 => fun j => by
    have := r16_bd (f := it16 f k) (M := 17592454500000) (by omega) (fun j => by have := it16_in hf k j; omega) j
    show _ ≤ r16 (it16 f k) j ∧ r16 (it16 f k) j ≤ _
    omega
abbrev a16 (f : Nat → Int) : Array Value := ((ls16 f).map (Value.int .i64)).toArray
theorem a16_size (f : Nat → Int) : (a16 f).size = 16 := by simp [a16, ls16]
theorem a16_one (f : Nat → Int) : (a16 f).all (·.oneCell') = true := all_oneCell_toArray (oneCells _ _)
theorem z16 : (#[.int .i64 0, .int .i64 0, .int .i64 0, .int .i64 0, .int .i64 0, .int .i64 0, .int .i64 0, .int .i64 0, .int .i64 0, .int .i64 0, .int .i64 0, .int .i64 0, .int .i64 0, .int .i64 0, .int .i64 0, .int .i64 0] : Array Value) = a16 (fun _ => 0) := rfl
theorem u50 : Tryd.prog.underlying 52 = some (.array 16 2) := by kernel_rfl
theorem i50 : (Tryd.prog.info? 52).map (·.size) = some 16 := by kernel_rfl

set_option maxHeartbeats 2000000 in
theorem l2Carry_any (w : World) (f : Nat → Int) (hf : In60 f) :
    Calls Tryd.prog 91 #[ag16 f] w fun r w' => r = .returned (ag16 (cry f)) ∧ Below w.heap.size w w' := by
  show Calls Tryd.prog 91 #[.agg (a16 f)] w fun r w' => r = .returned (.agg (a16 (it16 f 3))) ∧ Below w.heap.size w w'
  have B0 := blk16 w 52 f
  have n0 : Below w.heap.size w (w.alloc (.cells (a16 f) 52)) := (Below.refl _ _).alloc (Nat.le_refl _) _
  have s0 : (w.alloc (.cells (a16 f) 52)).heap.size = w.heap.size + 1 := by simp
  obtain ⟨A, hA⟩ : ∃ A, A = a16 f := ⟨_, rfl⟩
  change Blk (w.alloc (.cells (a16 f) 52)) _ _ _ at B0
  rw [← hA] at B0 n0 s0 ⊢
  clear hA
  go_enter Tryd.func91, Tryd.ntmps91
  go_wp2
  generalize w.alloc (.cells A 52) = wa at *
  rw [z16]
  have B1 := blk16 wa 52 (fun _ => 0)
  have n1 : Below wa.heap.size wa (wa.alloc (.cells (a16 (fun _ => 0)) 52)) := (Below.refl _ _).alloc (Nat.le_refl _) _
  rw [s0] at B1
  change Blk (wa.alloc (.cells (a16 (fun _ => 0)) 52)) _ _ _ at B1
  generalize wa.alloc (.cells (a16 (fun _ => 0)) 52) = wb at *
  have E0 := B0.up n1
  have N1 := nxt n0 n1
  clear B0 n0 n1 s0
  go_loopw [3] (fun i wr => ∃ (k : Nat), k ≤ 3 ∧ i = .int .i64 k ∧ Blk wr w.heap.size .i64 (ls16 (it16 f k)) ∧ Blk wr (w.heap.size + 1) .i64 (ls16 (fun _ => 0)) ∧ Below w.heap.size w wr) (fun i _ => 3 - (intOf i).toNat)
  case atStart => exact ⟨0, by omega, rfl, E0, B1, N1⟩
  case round =>
    clear E0 B1 N1
    obtain ⟨k, hk, rfl, hB, hR, hN⟩ := hrel
    by_cases hlt : k < 3
    · have k2 : decide ((k : Int) < 3) = true := by simp; omega
      have hin := it16_in hf k
      obtain ⟨q, hq⟩ : ∃ q, q = it16 f k := ⟨_, rfl⟩
      have hq' : Hid (it16 f (k + 1) = r16 q) := by show _ = _; rw [hq]; rfl
      rw [← hq] at hB hin
      clear hq
      have cb := fun j => c16_bd (f := q) (M := 17592454500000) (by omega) (fun j => by have := hin j; omega) j
      go_wp2
      go_loopw [4, 5] (fun c i wq => ∃ (j : Nat) (ys : List Int), j ≤ 16 ∧ i = .int .i64 j ∧ c = .int .i64 (c16 q j) ∧ Up16 (l16 q) q ys j ∧ Blk wq w.heap.size .i64 ys ∧ Blk wq (w.heap.size + 1) .i64 (ls16 (fun _ => 0)) ∧ Below w.heap.size w wq) (fun _ i _ => 16 - (intOf i).toNat)
      case atStart => exact ⟨0, _, by omega, rfl, rfl, Up16.zero _ q, hB, hR, hN⟩
      case round =>
        clear hB hR hN
        obtain ⟨j, ys, hj, rfl, rfl, hU, hB, hR, hN⟩ := hrel
        by_cases hjt : j < 16
        · have R := hU.step hjt
          have hcy := hB.cell (i := j) (by rw [hU.1]; exact hjt)
          rw [hU.2.2 j (Nat.le_refl _) hjt] at hcy
          have hfy := hB.free j
          have j2 : (j : Int) < 16 := by omega
          have cj := cb j
          have qj := hin j
          have S := hB.store j (l16 q j)
          have S1 := hR.keep (g' := w.heap.size) (k := j) (v := .int .i64 (l16 q j)) (by omega)
          have Sn : Below w.heap.size w (wr.setCell ⟨w.heap.size, j, none⟩ (.int .i64 (l16 q j))) := hN.setCell (Nat.le_refl _) _
          have E1 : l16 q j = (q j + c16 q j) % 65536 := by unfold l16; rw [Int.add_comm]
          have F : Hid (c16 q (j + 1) = (q j + c16 q j) / 65536) := by show _ = _; rw [c16, Int.add_comm]
          rw [E1] at R S S1 Sn
          have m1 := and65535 (q j + c16 q j)
          clear hU hB hR hN cb hin E1 hf
          generalize q j = z at *
          generalize c16 q j = c at *
          go_wp2
          go_roundw
          case rel => exact ⟨j + 1, _, by omega, by go_num, by rw [F.out], R, S, S1, Sn⟩
          case measure => simp [intOf]; omega
        · obtain rfl : j = 16 := by omega
          have hy := hU.all
          subst hy
          have c0 : wr.cell? ⟨w.heap.size, 0, none⟩ = some (.int .i64 (l16 q 0)) := by rw [hB.cell (i := 0) (by rw [ls16_len]; omega), ls16_get _ (by omega)]
          have f0 := hB.free 0
          have l0 := l16_bd q 0
          have c5 := cb 16
          have S := hB.store 0 (l16 q 0 + 38 * c16 q 16)
          have S1 := hR.keep (g' := w.heap.size) (k := 0) (v := .int .i64 (l16 q 0 + 38 * c16 q 16)) (by omega)
          have Sn : Below w.heap.size w (wr.setCell ⟨w.heap.size, 0, none⟩ (.int .i64 (l16 q 0 + 38 * c16 q 16))) := hN.setCell (Nat.le_refl _) _
          rw [ls16_set] at S
          have S' : Blk (wr.setCell ⟨w.heap.size, 0, none⟩ (.int .i64 (l16 q 0 + 38 * c16 q 16))) w.heap.size .i64 (ls16 (r16 q)) := S
          clear hU hB hR hN cb hin S hf
          generalize l16 q 0 = l at *
          generalize c16 q 16 = c at *
          go_wp2
          go_roundw
          case rel => exact ⟨k + 1, by omega, by go_num, by rw [hq'.out]; exact S', S1, Sn⟩
          case measure => simp [intOf]; omega
    · obtain rfl : k = 3 := by omega
      obtain ⟨t, hB⟩ := hB
      obtain ⟨t2, hR⟩ := hR
      have hne : w.heap.size + 1 ≠ w.heap.size := by omega
      have SR : ((wr.setRow (w.heap.size + 1) (a16 (it16 f 3))).heap[w.heap.size + 1]?) = some (.cells (a16 (it16 f 3)) t2 (0, 0)) := setRow_heap _ _ _ _ _ _ hR
      have SN : Below w.heap.size w (wr.setRow (w.heap.size + 1) (a16 (it16 f 3))) := hN.trans ⟨rfl, rfl, rfl, by simp, fun i hi => setRow_other wr _ i _ (by omega)⟩
      go_upto_region 12 with fail
      go_wp2_with (first | (refine wpList_load_row rfl 52 (.tmp 1) rfl w.heap.size rfl t (a16 (it16 f 3)) (0, 0) (.array 16 2) hB u50 rfl (by rw [a16_size]; exact i50) ?_) | (refine wpList_store_row rfl 52 (.tmp 2) (.tmp 32) rfl (w.heap.size + 1) (a16 (it16 f 3)) rfl rfl t2 (a16 (fun _ => 0)) hR (by rw [a16_size]; exact i50) (by rw [a16_size, a16_size]) (a16_one _) ?_))
      exact bodyPost_ret (v := .agg (a16 (it16 f 3))) (results_cell_row Tryd.results91 _ _ (w.heap.size + 1) t2 (a16 (it16 f 3)) (0, 0) (.array 16 2) rfl SR u50 rfl (by rw [a16_size]; exact i50)) rfl ⟨rfl, SN⟩
end Go.Proofs.YthapcapiiknjdaaDoor
