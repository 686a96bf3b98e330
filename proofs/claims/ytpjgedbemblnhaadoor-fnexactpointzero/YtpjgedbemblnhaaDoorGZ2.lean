import Derived.Test.YtpjgedbemblnhaaDoorGZ1
import Derived.Test.YtpjgedbemblnhaaDoorRows
import Derived.WalkSpells
import Derived.Deep.QuietTactic
import Derived.BigQuiet

/-
  The law by facts for a region that ends with two stores, one behind the other. No program in sight.
-/
namespace Go.Proofs.YtpjgedbemblnhaaDoor
set_option maxRecDepth 100000
open Go Go.RowKit

section
variable {P : Program} {ops : Array Oper} {Q : Exit → Act → World → Prop} {md : Region.Mode} {F : Nat → Fact} {a0 : Act} {w0 : World}

/-- What this law asks of the region's text: number k waits for all others ahead of it, number k + 1, the last, for k; both write no slot. -/
def textTwo (md : Region.Mode) (ops : Array Oper) (n k : Nat) : Bool :=
  (ops.all fun o => o.guard.isNone && (match o.dst with | some d => decide (d < n) | none => true))
  && ((List.range ops.size).all fun i => match ops[i]? with
    | some o => o.after.all (fun e => !Region.binds md e || decide (e.on < i)) && (List.range i).all fun j => match ops[j]? with
      | some x => x.dst.isNone || o.dst != x.dst
      | none => true
    | none => true)
  && decide (ops.size = k + 2)
  && ((List.range k).all fun j => (List.range (k + 1)).any fun m => decide (j < m) && match ops[m]? with
    | some o => o.after.any (fun e => Region.binds md e && e.on == j)
    | none => false)
  && (match ops[k + 1]? with | some o => o.after.any (fun e => Region.binds md e && e.on == k) && o.dst.isNone | none => false)
  && (match ops[k]? with | some o => o.dst.isNone | none => false)

structure Text2 (md : Region.Mode) (ops : Array Oper) (n k : Nat) : Prop where
  g : ∀ (i : Nat) o, ops[i]? = some o → o.guard = none
  d : ∀ (i : Nat) o d, ops[i]? = some o → o.dst = some d → d < n
  a : ∀ (i : Nat) o, ops[i]? = some o → ∀ e ∈ o.after, Region.binds md e = true → e.on < i
  x : ∀ (i j : Nat) o o' d, ops[i]? = some o → ops[j]? = some o' → i ≠ j → o.dst = some d → o'.dst ≠ some d
  k2 : ops.size = k + 2
  c : ∀ j, j < k → ∃ (m : Nat) (o : Oper), j < m ∧ m ≤ k ∧ ops[m]? = some o ∧ ∃ e ∈ o.after, Region.binds md e = true ∧ e.on = j
  l : ∀ o, ops[k + 1]? = some o → ∃ e ∈ o.after, Region.binds md e = true ∧ e.on = k
  n1 : ∀ o, ops[k]? = some o → o.dst = none
  n2 : ∀ o, ops[k + 1]? = some o → o.dst = none
theorem text2_of {n k : Nat} (h : textTwo md ops n k = true) : Text2 md ops n k := by
  unfold textTwo at h
  simp only [Bool.and_eq_true, decide_eq_true_eq] at h
  obtain ⟨⟨⟨⟨⟨h1, h2⟩, h3⟩, h4⟩, h5⟩, h6⟩ := h
  rw [Array.all_eq_true_iff_forall_mem] at h1
  rw [List.all_eq_true] at h2
  have H : ∀ (i j : Nat) o o' d, j < i → ops[i]? = some o → ops[j]? = some o' → o.dst = some d → o'.dst ≠ some d := by
    intro i j o o' d hij hi hj hd hd'
    have q := h2 i (List.mem_range.2 (Array.getElem?_eq_some_iff.1 hi).1)
    simp only [hi, Bool.and_eq_true] at q
    have r := List.all_eq_true.1 q.2 j (List.mem_range.2 hij)
    simp only [hj, hd, hd'] at r
    simp at r
  refine ⟨?_, ?_, ?_, ?_, h3, ?_, ?_, ?_, ?_⟩
  · intro i o ho
    have q := h1 o (Array.mem_of_getElem? ho)
    simp only [Bool.and_eq_true] at q
    exact Option.isNone_iff_eq_none.1 q.1
  · intro i o d ho hd
    have q := h1 o (Array.mem_of_getElem? ho)
    simp only [Bool.and_eq_true, hd, decide_eq_true_eq] at q
    exact q.2
  · intro i o ho e he hb
    have q := h2 i (List.mem_range.2 (Array.getElem?_eq_some_iff.1 ho).1)
    simp only [ho, Bool.and_eq_true] at q
    have r := (Array.all_eq_true_iff_forall_mem.1 q.1) e he
    rw [hb] at r
    simpa using r
  · intro i j o o' d hi hj hij hd hd'
    rcases Nat.lt_or_gt_of_ne hij with h | h
    · exact H j i o' o d h hj hi hd' hd
    · exact H i j o o' d h hi hj hd hd'
  · intro j hj
    have q := List.all_eq_true.1 h4 j (List.mem_range.2 hj)
    obtain ⟨m, hm, r⟩ := List.any_eq_true.1 q
    simp only [Bool.and_eq_true, decide_eq_true_eq] at r
    cases ho : ops[m]? with
    | none => rw [ho] at r; simp at r
    | some o =>
      rw [ho] at r
      obtain ⟨e, he, hb⟩ := Array.any_eq_true'.1 r.2
      simp only [Bool.and_eq_true, beq_iff_eq] at hb
      exact ⟨m, o, r.1, by have := List.mem_range.1 hm; omega, ho, e, he, hb.1, hb.2⟩
  · intro o ho
    rw [ho] at h5
    simp only [Bool.and_eq_true] at h5
    obtain ⟨e, he, hb⟩ := Array.any_eq_true'.1 h5.1
    simp only [Bool.and_eq_true, beq_iff_eq] at hb
    exact ⟨e, he, hb.1, hb.2⟩
  · intro o ho
    rw [ho] at h6
    exact Option.isNone_iff_eq_none.1 h6
  · intro o ho
    rw [ho] at h5
    simp only [Bool.and_eq_true] at h5
    exact Option.isNone_iff_eq_none.1 h5.2

theorem all_ahead2 {n k : Nat} (T : Text2 md ops n k) {listed : Array Bool} {a : Act} {w : World} (H : Held md ops F a0 w0 listed a w)
    (hr : k ∈ Region.ready md ops listed) : ∀ m j, k - j ≤ m → j < k → listed.getD j false = true
  | 0, j, hm, hj => by omega
  | m + 1, j, hm, hj => by
    obtain ⟨p, o, hjp, hpk, ho, e, he, hb, rfl⟩ := T.c j hj
    rcases Nat.lt_or_ge p k with h1 | h1
    · exact H.c p o ho (all_ahead2 T H hr m p (by omega) h1) e he hb
    · obtain rfl : p = k := by omega
      obtain ⟨_, o', ho', q⟩ := mem_ready.1 hr
      obtain rfl := Option.some.inj (ho.symm.trans ho')
      exact q e he hb
theorem Held.next2 {n k : Nat} (T : Text2 md ops n k) (hn : n ≤ a0.tmps.size) {listed : Array Bool} {a : Act} {w : World} (H : Held md ops F a0 w0 listed a w) {i : Nat} {o : Oper} (ho : ops[i]? = some o) (hr : i ∈ Region.ready md ops listed)
    {v : Value} {w' : World} (hw : Below w.heap.size w w') (hf : (F i).p v w') : Held md ops F a0 w0 (listed.setIfInBounds i true) (a.put o.dst v) w' := by
  have hi : i < ops.size := (Array.getElem?_eq_some_iff.1 ho).1
  have hz : a.tmps.size = a0.tmps.size := H.b.2.1
  refine ⟨⟨by rw [put_defers]; exact H.b.1, by rw [put_size]; exact hz, fun d hd => ?_⟩, nxt H.n hw, ?_, ?_, by simp [H.s]⟩
  · rw [put_off]
    · exact H.b.2.2 d hd
    · have q := Array.all_eq_true_iff_forall_mem.1 hd o (Array.mem_of_getElem? ho)
      simpa using q
  · intro j oj d hoj hj hd
    by_cases e : i = j
    · subst e
      obtain rfl := Option.some.inj (ho.symm.trans hoj)
      rw [hd, put_at (Nat.lt_of_lt_of_le (T.d i o d ho hd) (hz ▸ hn))]
      exact hf
    · rw [getD_off e] at hj
      rw [put_off (T.x j i oj o d hoj ho (Ne.symm e) hd)]
      exact (F j).up hw (H.f j oj d hoj hj hd)
  · intro j oj hoj hj e he hb
    obtain ⟨_, o', ho', q⟩ := mem_ready.1 hr
    by_cases c : i = e.on
    · rw [← c]
      exact getD_same (by rw [H.s]; exact hi) _
    · rw [getD_off c]
      by_cases e' : i = j
      · subst e'
        obtain rfl := Option.some.inj (ho'.symm.trans hoj)
        exact q e he hb
      · rw [getD_off e'] at hj
        exact H.c j oj hoj hj e he hb

/-- One operation that makes a block and hands back its place. -/
def FreshOk (P : Program) (md : Region.Mode) (ops : Array Oper) (Q : Exit → Act → World → Prop) (F : Nat → Fact) (a0 : Act) (w0 : World) (i : Nat) : Prop :=
  ∀ o, ops[i]? = some o → ∀ a w, Based ops a0 a → Below w0.heap.size w0 w → (∀ j d, waits md ops i j d = true → (F j).p (a.tmps.getD d undef) w) →
    ∀ K : Act → World → Prop, (∀ v w', Below w.heap.size w w' → (F i).p v w' → v = .pointer (some ⟨w.heap.size, 0, none⟩) → w.heap.size < w'.heap.size → K (a.put o.dst v) w') → o.wp P a w K Q
theorem FreshOk.step {i : Nat} (h : FreshOk P md ops Q F a0 w0 i) : StepOk P md ops Q F a0 w0 i :=
  fun o ho a w hb hw hf K hK => h o ho a w hb hw hf K (fun v w' hn hv _ _ => hK v w' hn hv)
/-- Two that make a block are apart. -/
structure Sep (i1 i2 d1 d2 : Nat) (listed : Array Bool) (a : Act) (w : World) : Prop where
  l : listed.getD i1 false = true → ∃ q, a.tmps.getD d1 undef = .pointer (some ⟨q, 0, none⟩) ∧ q < w.heap.size
  r : listed.getD i2 false = true → ∃ q, a.tmps.getD d2 undef = .pointer (some ⟨q, 0, none⟩) ∧ q < w.heap.size
  n : listed.getD i1 false = true → listed.getD i2 false = true → a.tmps.getD d1 undef ≠ a.tmps.getD d2 undef
theorem Sep.flip {i1 i2 d1 d2 : Nat} {listed : Array Bool} {a : Act} {w : World} (h : Sep i1 i2 d1 d2 listed a w) : Sep i2 i1 d2 d1 listed a w := ⟨h.r, h.l, fun x y => (h.n y x).symm⟩
theorem Sep.other {i1 i2 d1 d2 : Nat} {listed : Array Bool} {a : Act} {w w' : World} (h : Sep i1 i2 d1 d2 listed a w) {i : Nat} {dst : Option Tmp} {v : Value} (h1 : i ≠ i1) (h2 : i ≠ i2) (e1 : dst ≠ some d1) (e2 : dst ≠ some d2) (hw : w.heap.size ≤ w'.heap.size) : Sep i1 i2 d1 d2 (listed.setIfInBounds i true) (a.put dst v) w' := by
  refine ⟨fun g => ?_, fun g => ?_, fun g g' => ?_⟩
  · rw [getD_off h1] at g
    obtain ⟨q, hq, hl⟩ := h.l g
    exact ⟨q, by rw [put_off e1]; exact hq, by omega⟩
  · rw [getD_off h2] at g
    obtain ⟨q, hq, hl⟩ := h.r g
    exact ⟨q, by rw [put_off e2]; exact hq, by omega⟩
  · rw [getD_off h1] at g
    rw [getD_off h2] at g'
    rw [put_off e1, put_off e2]
    exact h.n g g'
theorem Sep.this {i1 i2 d1 d2 : Nat} {listed : Array Bool} {a : Act} {w w' : World} (h : Sep i1 i2 d1 d2 listed a w) {v : Value} (hne : i1 ≠ i2) (hd : d1 ≠ d2) (hs : d1 < a.tmps.size) (hv : v = .pointer (some ⟨w.heap.size, 0, none⟩)) (hw : w.heap.size < w'.heap.size) :
    Sep i1 i2 d1 d2 (listed.setIfInBounds i1 true) (a.put (some d1) v) w' := by
  have e2 : (some d1 : Option Tmp) ≠ some d2 := by simpa using hd
  refine ⟨fun _ => ⟨w.heap.size, by rw [put_at hs, hv], hw⟩, fun g => ?_, fun _ g' => ?_⟩
  · rw [getD_off hne] at g
    obtain ⟨q, hq, hl⟩ := h.r g
    exact ⟨q, by rw [put_off e2]; exact hq, by omega⟩
  · rw [getD_off hne] at g'
    obtain ⟨q, hq, hl⟩ := h.r g'
    rw [put_at hs, put_off e2, hq, hv]
    intro x
    simp only [Value.pointer.injEq, Option.some.injEq, Addr.mk.injEq, and_true] at x
    omega

theorem writes_is {i d : Nat} (h : writes ops i d = true) : ∃ o, ops[i]? = some o ∧ o.dst = some d := by
  unfold writes at h
  cases ho : ops[i]? with
  | none => rw [ho] at h; simp at h
  | some o =>
    rw [ho] at h
    exact ⟨o, rfl, by simpa using h⟩
theorem any_two {n k : Nat} (T : Text2 md ops n k) (hn : n ≤ a0.tmps.size) (steps : ∀ i, i < k → StepOk P md ops Q F a0 w0 i) (o1 o2 : Oper) (hk1 : ops[k]? = some o1) (hk2 : ops[k + 1]? = some o2)
    (i1 i2 d1 d2 : Nat) (q1 : i1 < k) (q2 : i2 < k) (q3 : i1 ≠ i2) (w1 : writes ops i1 d1 = true) (w2 : writes ops i2 d2 = true) (f1 : FreshOk P md ops Q F a0 w0 i1) (f2' : FreshOk P md ops Q F a0 w0 i2)
    (fin : ∀ a w, Based ops a0 a → Below w0.heap.size w0 w → (∀ i o d, i < k → ops[i]? = some o → o.dst = some d → (F i).p (a.tmps.getD d undef) w) → a.tmps.getD d1 undef ≠ a.tmps.getD d2 undef →
      o1.wp P a w (fun a' w' => o2.wp P a' w' (fun a'' w'' => Q .normal a'' w'') Q) Q) :
    ∀ (fuel : Nat) (listed : Array Bool) (a : Act) (w : World), left listed ops.size ≤ fuel → Held md ops F a0 w0 listed a w → Sep i1 i2 d1 d2 listed a w → listed.getD k false = false → listed.getD (k + 1) false = false → wpAny P md ops Q fuel listed a w := by
  obtain ⟨p1, hp1, e1⟩ := writes_is w1
  obtain ⟨p2, hp2, e2⟩ := writes_is w2
  have hd : d1 ≠ d2 := fun e => T.x i1 i2 p1 p2 d1 hp1 hp2 q3 e1 (by rw [e]; exact e2)
  have hks : k < ops.size := by have := T.k2; omega
  have hks' : k + 1 < ops.size := by have := T.k2; omega
  intro fuel
  induction fuel with
  | zero =>
    intro listed a w hl H S hk hk'
    have := left_zero (listed := listed) (n := ops.size) (by omega) k hks
    rw [dflt (by rw [H.s]; exact hks), hk] at this
    simp at this
  | succ fuel ih =>
    intro listed a w hl H S hk hk'
    refine ⟨fun hr => ?_, fun i hi => ?_⟩
    · exfalso
      have hall : ∀ m i, i < m → i ≤ k → listed.getD i false = true := by
        intro m
        induction m with
        | zero => intro i hi; omega
        | succ m ihm =>
          intro i hi hik
          rcases Nat.lt_or_ge i m with h1 | h1
          · exact ihm i h1 hik
          · obtain rfl : i = m := by omega
            cases hc : listed.getD i false
            · exfalso
              obtain ⟨o, ho⟩ : ∃ o, ops[i]? = some o := ⟨ops[i], by simp [show i < ops.size by omega]⟩
              have hr' : i ∈ Region.ready md ops listed := mem_ready.2 ⟨by rw [dflt (by rw [H.s]; omega)]; exact hc, o, ho, fun e he hb => ihm e.on (T.a i o ho e he hb) (by have := T.a i o ho e he hb; omega)⟩
              rw [hr] at hr'
              simp at hr'
            · rfl
      rw [hall (k + 1) k (by omega) (Nat.le_refl _)] at hk
      simp at hk
    · obtain ⟨h0, o, ho, hall⟩ := mem_ready.1 hi
      have hlt := (Array.getElem?_eq_some_iff.1 ho).1
      have hwant : Region.wanted o (yielded ops a.tmps) = true := by simp [Region.wanted, T.g i o ho]
      refine wpOp_step ho fun K' hK => ?_
      rw [if_pos hwant]
      have hll := left_set (by rw [H.s]; exact hlt) h0 ops.size hlt
      rcases Nat.lt_or_ge i k with h1 | h1
      · have hfacts : ∀ j d, waits md ops i j d = true → (F j).p (a.tmps.getD d undef) w := by
          intro j d hjd
          unfold waits at hjd
          rw [ho] at hjd
          cases hoj : ops[j]? with
          | none => rw [hoj] at hjd; simp at hjd
          | some oj =>
            rw [hoj] at hjd
            simp only [Bool.and_eq_true, beq_iff_eq] at hjd
            obtain ⟨e, he, hb⟩ := Array.any_eq_true'.1 hjd.1
            simp only [Bool.and_eq_true, beq_iff_eq] at hb
            exact H.f j oj d hoj (by rw [← hb.2]; exact hall e he hb.1) hjd.2
        have go : ∀ v w', Below w.heap.size w w' → (F i).p v w' → Sep i1 i2 d1 d2 (listed.setIfInBounds i true) (a.put o.dst v) w' → K' (a.put o.dst v) w' := by
          intro v w' hw hf hS
          refine hK _ _ (ih _ _ _ (by omega) (H.next2 T hn ho hi hw hf) hS ?_ ?_)
          · rw [getD_off (by omega)]
            exact hk
          · rw [getD_off (by omega)]
            exact hk'
        by_cases c1 : i = i1
        · subst c1
          obtain rfl := Option.some.inj (hp1.symm.trans ho)
          refine f1 p1 ho a w H.b H.n hfacts K' fun v w' hw hf hv hz => go v w' hw hf ?_
          rw [e1]
          exact S.this q3 hd (by rw [H.b.2.1]; exact Nat.lt_of_lt_of_le (T.d i p1 d1 hp1 e1) hn) hv hz
        · by_cases c2 : i = i2
          · subst c2
            obtain rfl := Option.some.inj (hp2.symm.trans ho)
            refine f2' p2 ho a w H.b H.n hfacts K' fun v w' hw hf hv hz => go v w' hw hf ?_
            rw [e2]
            exact (S.flip.this (Ne.symm q3) (Ne.symm hd) (by rw [H.b.2.1]; exact Nat.lt_of_lt_of_le (T.d i p2 d2 hp2 e2) hn) hv hz).flip
          · refine steps i h1 o ho a w H.b H.n hfacts K' fun v w' hw hf => go v w' hw hf ?_
            refine S.other c1 c2 ?_ ?_ hw.size
            · exact T.x i1 i p1 o d1 hp1 ho (Ne.symm c1) e1
            · exact T.x i2 i p2 o d2 hp2 ho (Ne.symm c2) e2
      · rcases Nat.lt_or_ge k i with h2 | h2
        · exfalso
          obtain rfl : i = k + 1 := by have := T.k2; omega
          obtain ⟨e, he, hb, hq⟩ := T.l o ho
          have := hall e he hb
          rw [hq, hk] at this
          simp at this
        · obtain rfl : i = k := by omega
          obtain rfl := Option.some.inj (hk1.symm.trans ho)
          have hahead := all_ahead2 T H hi
          have q := fin a w H.b H.n (fun j oj d hj hoj hd => H.f j oj d hoj (hahead (i - j) j (Nat.le_refl _) hj) hd) (S.n (hahead (i - i1) i1 (Nat.le_refl _) q1) (hahead (i - i2) i2 (Nat.le_refl _) q2))
          refine Oper.wp_mono (fun a' w' h => hK _ _ ?_) q
          -- the second one alone is left
          have g1 : (listed.setIfInBounds i true).getD (i + 1) true = false := by
            rw [getD_off (by omega), dflt (by rw [H.s]; exact hks')]
            exact hk'
          have hall2 : ∀ j, j ≠ i + 1 → j < ops.size → (listed.setIfInBounds i true).getD j true = true := by
            intro j hj hjs
            by_cases e : i = j
            · subst e
              exact getD_same (by rw [H.s]; exact hlt) _
            · rw [getD_off e, dflt (by rw [H.s]; exact hjs)]
              exact hahead (i - j) j (Nat.le_refl _) (by have := T.k2; omega)
          have hs2 : (listed.setIfInBounds i true).size = ops.size := by simp [H.s]
          have l1 : 0 < left (listed.setIfInBounds i true) ops.size := by
            rcases Nat.eq_zero_or_pos (left (listed.setIfInBounds i true) ops.size) with z | z
            · have := left_zero (n := ops.size) z (i + 1) hks'
              rw [g1] at this
              simp at this
            · exact z
          obtain ⟨f2, rfl⟩ : ∃ f2, fuel = f2 + 1 := ⟨fuel - 1, by omega⟩
          generalize listed.setIfInBounds i true = l2 at *
          refine ⟨fun hr => ?_, fun j hj => ?_⟩
          · exfalso
            have hr' : i + 1 ∈ Region.ready md ops l2 := mem_ready.2 ⟨g1, o2, hk2, fun e he hb => by
              have := T.a (i + 1) o2 hk2 e he hb
              rw [← dflt (by rw [hs2]; omega)]
              exact hall2 e.on (by omega) (by omega)⟩
            rw [hr] at hr'
            simp at hr'
          · obtain ⟨g0, oj, hoj, _⟩ := mem_ready.1 hj
            have hjl := (Array.getElem?_eq_some_iff.1 hoj).1
            by_cases e : j = i + 1
            · subst e
              obtain rfl := Option.some.inj (hk2.symm.trans hoj)
              have hwant2 : Region.wanted o2 (yielded ops a'.tmps) = true := by simp [Region.wanted, T.g (i + 1) o2 hk2]
              refine wpOp_step hk2 fun K2 hK2 => ?_
              rw [if_pos hwant2]
              refine Oper.wp_mono (fun a2 w2 h2' => hK2 _ _ (wpAny_done ?_ h2' f2)) h
              cases hr : Region.ready md ops (l2.setIfInBounds (i + 1) true) with
              | nil => rfl
              | cons m t =>
                exfalso
                have hm : m ∈ Region.ready md ops (l2.setIfInBounds (i + 1) true) := by rw [hr]; simp
                obtain ⟨q0, om, hom, _⟩ := mem_ready.1 hm
                have hml := (Array.getElem?_eq_some_iff.1 hom).1
                by_cases e : i + 1 = m
                · subst e
                  rw [getD_same (by rw [hs2]; exact hks')] at q0
                  simp at q0
                · rw [getD_off e, hall2 m (by omega) hml] at q0
                  simp at q0
            · exfalso
              rw [hall2 j e hjl] at g0
              simp at g0

/-- A region that draws its order and ends with two stores. -/
theorem region_two {id : Nat} {w : World} (k : Nat) (o1 o2 : Oper) (F : Nat → Fact) (hm : P.follows .mixedOrders = true) (hT : textTwo .any ops a0.tmps.size k = true) (hk1 : ops[k]? = some o1) (hk2 : ops[k + 1]? = some o2) (steps : ∀ i, i < k → StepOk P .any ops Q F a0 w i)
    (i1 i2 d1 d2 : Nat) (q1 : i1 < k) (q2 : i2 < k) (q3 : i1 ≠ i2) (w1 : writes ops i1 d1 = true) (w2 : writes ops i2 d2 = true) (f1 : FreshOk P .any ops Q F a0 w i1) (f2 : FreshOk P .any ops Q F a0 w i2)
    (fin : ∀ a w', Based ops a0 a → Below w.heap.size w w' → Full ops F a w' → a.tmps.getD d1 undef ≠ a.tmps.getD d2 undef → o1.wp P a w' (fun a' w'' => o2.wp P a' w'' (fun a'' w3 => Q .normal a'' w3) Q) Q) : (Code.region id ops true).wp P Q a0 w := by
  have T := text2_of hT
  refine wp_region_any hm ?_
  refine any_two (w0 := w) T (Nat.le_refl _) steps o1 o2 hk1 hk2 i1 i2 d1 d2 q1 q2 q3 w1 w2 f1 f2 (fun a w' hb hw hf hne => fin a w' hb hw (fun i d hi => ?_) hne) ops.size _ a0 _ ?_ ⟨⟨rfl, rfl, fun _ _ => rfl⟩, (Below.refl _ _).drew, ?_, ?_, by simp⟩ ⟨fun h => ?_, fun h => ?_, fun h => ?_⟩ ?_ ?_
  · unfold writes at hi
    cases ho : ops[i]? with
    | none => rw [ho] at hi; simp at hi
    | some oi =>
      rw [ho] at hi
      have hi' : oi.dst = some d := by simpa using hi
      refine hf i oi d ?_ ho hi'
      have h1 := (Array.getElem?_eq_some_iff.1 ho).1
      have h2 := T.k2
      rcases Nat.lt_or_ge i k with h | h
      · exact h
      · exfalso
        by_cases e : i = k
        · subst e
          rw [T.n1 oi ho] at hi'
          simp at hi'
        · obtain rfl : i = k + 1 := by omega
          rw [T.n2 oi ho] at hi'
          simp at hi'
  · have : ∀ m, left (Array.replicate ops.size false) m ≤ m := by
      intro m
      induction m with
      | zero => exact Nat.le_refl _
      | succ m ih => unfold left; split <;> omega
    exact this _
  · intro i o d ho hl _
    rw [Array.getD_eq_getD_getElem?, Array.getElem?_replicate] at hl
    split at hl <;> simp at hl
  · intro i o ho hl
    rw [Array.getD_eq_getD_getElem?, Array.getElem?_replicate] at hl
    split at hl <;> simp at hl
  · rw [Array.getD_eq_getD_getElem?, Array.getElem?_replicate] at h
    split at h <;> simp at h
  · rw [Array.getD_eq_getD_getElem?, Array.getElem?_replicate] at h
    split at h <;> simp at h
  · rw [Array.getD_eq_getD_getElem?, Array.getElem?_replicate] at h
    split at h <;> simp at h
  · rw [Array.getD_eq_getD_getElem?, Array.getElem?_replicate]
    split <;> rfl
  · rw [Array.getD_eq_getD_getElem?, Array.getElem?_replicate]
    split <;> rfl
theorem puts_two {n k : Nat} (hT : textTwo md ops n k = true) (hn : n = a0.tmps.size) {a : Act} (hb : Based ops a0 a) (vs : Nat → Value) (hv : ∀ d, a.tmps.getD d undef = vs d) : a = puts vs a0 ops.toList := by
  have T := text2_of hT
  have hin : ∀ o ∈ ops.toList, ∀ e, o.dst = some e → e < a0.tmps.size := fun o ho e he => by
    obtain ⟨i, hi⟩ := List.getElem?_of_mem ho
    have := T.d i o e (by simpa using hi) he
    rw [hn] at this
    exact this
  obtain ⟨s1, s2⟩ := puts_size vs ops.toList a0
  obtain ⟨ta, da⟩ := a
  obtain ⟨h1, h2, h3⟩ := hb
  have e1 : ta = (puts vs a0 ops.toList).tmps := by
    apply Array.ext
    · rw [s1]; exact h2
    · intro i hi hi'
      have g := puts_get vs i ops.toList a0 hin
      have l : ta[i] = ta.getD i undef := by simp [Array.getD_eq_getD_getElem?, hi]
      have r : (puts vs a0 ops.toList).tmps[i] = (puts vs a0 ops.toList).tmps.getD i undef := by simp only [Array.getD_eq_getD_getElem?, Array.getElem?_eq_getElem hi', Option.getD_some]
      rw [l, r, g]
      by_cases c : ops.toList.any (fun o => o.dst == some i) = true
      · rw [if_pos c]; exact hv i
      · rw [if_neg c]
        refine h3 i ?_
        unfold apart
        rw [Array.all_eq_true_iff_forall_mem]
        intro o ho
        have hne : ¬ (o.dst == some i) = true := fun x => c (List.any_eq_true.2 ⟨o, by simpa using ho, x⟩)
        simpa using hne
  have e2 : da = (puts vs a0 ops.toList).defers := h1.trans s2.symm
  subst e1
  subst e2
  rfl
end
end Go.Proofs.YtpjgedbemblnhaaDoor

/-
  The contracts of the laws' own helpers on bytes.
-/
namespace Go.Proofs.YtpjgedbemblnhaaDoor
set_option maxRecDepth 100000
open Go.RowKit

theorem Tryd.info5 : (Tryd.prog.info? 5).map (fun i => (i.zero, i.size, i.bytes)) = some (some (.int .u8 0), 1, 1) := by kernel_rfl

/-- The first k places of ys are those of xs. -/
def CopyTo (xs ys : List Int) (k : Nat) : Prop := ys.length = xs.length ∧ ∀ j, j < k → ys.getD j 0 = xs.getD j 0
theorem CopyTo.zero (xs : List Int) : CopyTo xs (List.replicate xs.length 0) 0 := ⟨by simp, fun j h => absurd h (by omega)⟩
theorem CopyTo.step {xs ys : List Int} {k : Nat} (h : CopyTo xs ys k) (hk : k < xs.length) : CopyTo xs (ys.set k (xs.getD k 0)) (k + 1) := by
  refine ⟨by simpa using h.1, fun j hj => ?_⟩
  by_cases e : k = j
  · subst e
    rw [getD_set_self _ _ _ (by rw [h.1]; exact hk)]
  · rw [getD_set_ne _ _ _ _ e]
    exact h.2 j (by omega)
theorem CopyTo.all {xs ys : List Int} (h : CopyTo xs ys xs.length) : ys = xs := eq_of_getD h.1 (fun i hi => h.2 i (by rw [← h.1]; exact hi))

set_option maxHeartbeats 400000 in
theorem eqByteS_same (w : World) (g g' : Nat) (a b : Option Addr) (ca cb : Nat) (xs : List Int) (ha : Rd w g a .u8 xs) (hb : Rd w g' b .u8 xs) (hn : xs.length ≤ 1048576) :
    Calls Tryd.prog 12 #[.slice a xs.length ca, .slice b xs.length cb] w fun e w' => e = .returned (.bool true) ∧ Below w.heap.size w w' := by
  go_enter Tryd.func12, Tryd.ntmps12
  go_wp2
  go_loopw [5] (fun i wr => ∃ (k n : Nat), k ≤ xs.length ∧ i = .int .i64 k ∧ wr = w.drewN n) (fun i _ => xs.length - (intOf i).toNat)
  case atStart => exact ⟨0, 0, Nat.zero_le _, rfl, rfl⟩
  case round =>
    obtain ⟨k, n, hk, rfl, rfl⟩ := hrel
    by_cases hlt : k < xs.length
    · obtain ⟨off, rfl, hc⟩ := ha (by omega)
      obtain ⟨off', rfl, hc'⟩ := hb (by omega)
      have h1 := hc k hlt
      have h2 := hc' k hlt
      have hlt' : (k : Int) < (xs.length : Int) := by omega
      generalize xs.getD k 0 = x at *
      clear hc hc'
      go_wp2
      go_quiet (fail)
      go_wp2
      go_roundw
      case rel => exact ⟨k + 1, _, by omega, by go_num, rfl⟩
      case measure => simp [intOf]; omega
    · obtain rfl : k = xs.length := by omega
      go_wp2
      go_ret
      exact ⟨rfl, below_drewN (Below.refl _ _) _⟩

/-- What is marked: k, k + 1, .. as bytes. -/
def marks (k : Int) (n : Nat) : List Int := (List.range n).map fun i : Nat => (k + (i : Int)) % 256
theorem marks_len (k : Int) (n : Nat) : (marks k n).length = n := by simp [marks]
theorem marks_get (k : Int) (n i : Nat) (h : i < n) : (marks k n).getD i 0 = (k + (i : Int)) % 256 := by simp [marks, h]

/-- The first j places of ys are marked. -/
def MarkTo (k : Int) (ys : List Int) (n j : Nat) : Prop := ys.length = n ∧ ∀ i, i < j → ys.getD i 0 = (k + (i : Int)) % 256
theorem MarkTo.step {k : Int} {ys : List Int} {n j : Nat} (h : MarkTo k ys n j) (hj : j < n) : MarkTo k (ys.set j ((k + (j : Int)) % 256)) n (j + 1) := by
  refine ⟨by simpa using h.1, fun i hi => ?_⟩
  by_cases e : j = i
  · subst e
    rw [getD_set_self _ _ _ (by rw [h.1]; exact hj)]
  · rw [getD_set_ne _ _ _ _ e]
    exact h.2 i (by omega)
theorem MarkTo.all {k : Int} {ys : List Int} {n : Nat} (h : MarkTo k ys n n) : ys = marks k n :=
  eq_of_getD (by rw [h.1, marks_len]) (fun i hi => by rw [h.1] at hi; rw [h.2 i hi, marks_get k n i hi])

set_option maxHeartbeats 400000 in
theorem markByteS_any (w : World) (g : Nat) (a : Option Addr) (ca : Nat) (xs : List Int) (k : Int) (ha : Own w g a .u8 xs) (hn : xs.length ≤ 1048576) (k0 : 0 ≤ k) (k1 : k ≤ 1099511627776) :
    Calls Tryd.prog 13 #[.slice a xs.length ca, .int .i64 k] w fun e w' => e = .returned (.int .i64 (k + (xs.length : Int))) ∧ Own w' g a .u8 (marks k xs.length) ∧ Only g w w' := by
  go_enter Tryd.func13, Tryd.ntmps13
  go_wp2
  go_loopw [1, 5] (fun q i wr => ∃ (j : Nat) (ys : List Int), j ≤ xs.length ∧ i = .int .i64 j ∧ q = .int .i64 (k + (j : Int)) ∧ MarkTo k ys xs.length j ∧ Own wr g a .u8 ys ∧ Only g w wr) (fun _ i _ => xs.length - (intOf i).toNat)
  case atStart => exact ⟨0, xs, Nat.zero_le _, rfl, by go_num, ⟨rfl, fun i h => absurd h (by omega)⟩, ha, Only.refl _ _⟩
  case round =>
    obtain ⟨j, ys, hj, rfl, rfl, hm, hB, hN⟩ := hrel
    by_cases hlt : j < xs.length
    · have hl : j < ys.length := by rw [hm.1]; exact hlt
      obtain ⟨off, rfl, hc⟩ := hB (by omega)
      have R := hm.step hlt
      obtain ⟨h1, h2⟩ := hc j hl
      have hB' := hB.store j hl ((k + (j : Int)) % 256)
      have hN' := hN.trans (Only.setCell wr g (off + j) (.int .u8 ((k + (j : Int)) % 256)))
      clear hB hN hc hm ha
      go_wp2
      go_roundw
      case rel => exact ⟨j + 1, _, by omega, by go_num, by go_num, R, hB', hN'⟩
      case measure => simp [intOf]; omega
    · obtain rfl : j = xs.length := by omega
      go_wp2
      go_ret
      refine ⟨rfl, ?_, hN⟩
      rw [← hm.all]
      exact hB

set_option maxHeartbeats 400000 in
theorem heldByteS_any (w : World) (g : Nat) (a : Option Addr) (ca n : Nat) (k : Int) (ha : Rd w g a .u8 (marks k n)) (hn : n ≤ 1048576) (k0 : 0 ≤ k) (k1 : k ≤ 1099511627776) :
    Calls Tryd.prog 14 #[.slice a n ca, .int .i64 k] w fun e w' => e = .returned (.int .i64 (k + (n : Int))) ∧ w' = w := by
  go_enter Tryd.func14, Tryd.ntmps14
  go_wp2
  go_loop [1, 5] (fun q i => ∃ (j : Nat), j ≤ n ∧ i = .int .i64 j ∧ q = .int .i64 (k + (j : Int))) (fun _ i => n - (intOf i).toNat)
  case atStart => exact ⟨0, Nat.zero_le _, rfl, by go_num⟩
  case round =>
    obtain ⟨j, hj, rfl, rfl⟩ := hrel
    by_cases hlt : j < n
    · obtain ⟨off, rfl, hc⟩ := ha (by rw [marks_len]; omega)
      have h1 := hc j (by rw [marks_len]; exact hlt)
      rw [marks_get k n j hlt] at h1
      clear hc
      go_wp2
      go_round
      case rel => exact ⟨j + 1, by omega, by go_num, by go_num⟩
      case measure => simp [intOf]; omega
    · obtain rfl : j = n := by omega
      go_wp2
      go_ret
      exact ⟨rfl, rfl⟩
end Go.Proofs.YtpjgedbemblnhaaDoor

/-
  Numbers as lists of bytes (the highest first) and as lists of limbs (the lowest first): plain arithmetic.
-/
namespace Go.Proofs.YtpjgedbemblnhaaDoor
set_option maxRecDepth 100000

def bval (xs : List Int) : Int := xs.foldl (fun v x => v * 256 + x) 0
def dig (xs : List Int) (i : Nat) : Int := if i < xs.length then xs.getD (xs.length - 1 - i) 0 else 0
def hi (xs : List Int) (i : Nat) : Int := bval (xs.take (xs.length - i))
def lo (xs : List Int) : Nat → Int
  | 0 => 0
  | i + 1 => lo xs i + dig xs i * 256 ^ i
def sg (x y : Int) : Int := if x < y then -1 else if y < x then 1 else 0

theorem bval_snoc (xs : List Int) (x : Int) : bval (xs ++ [x]) = bval xs * 256 + x := by simp [bval]
theorem bval_nil : bval [] = 0 := rfl
theorem hi_zero (xs : List Int) : hi xs 0 = bval xs := by simp [hi]
theorem hi_past (xs : List Int) (i : Nat) (h : xs.length ≤ i) : hi xs i = 0 := by
  unfold hi
  rw [show xs.length - i = 0 by omega]
  rfl
theorem hi_step (xs : List Int) (i : Nat) : hi xs i = hi xs (i + 1) * 256 + dig xs i := by
  by_cases h : i < xs.length
  · unfold hi dig
    rw [if_pos h, show xs.length - i = (xs.length - (i + 1)) + 1 by omega, List.take_succ_eq_append_getElem (by omega), bval_snoc]
    simp [show xs.length - 1 - i = xs.length - (i + 1) by omega, show xs.length - (i + 1) < xs.length by omega]
  · rw [hi_past xs i (by omega), hi_past xs (i + 1) (by omega)]
    simp [dig, h]
theorem dig_byt {xs : List Int} (hb : Byt xs) (i : Nat) : 0 ≤ dig xs i ∧ dig xs i ≤ 255 := by
  unfold dig
  split
  · have := hb (xs.length - 1 - i); omega
  · omega
theorem hi_lt {a b : List Int} (ha : Byt a) (hb : Byt b) : ∀ i, hi a i < hi b i → bval a < bval b
  | 0, h => by rwa [hi_zero, hi_zero] at h
  | i + 1, h => by
    refine hi_lt ha hb i ?_
    rw [hi_step a i, hi_step b i]
    have := dig_byt ha i
    have := dig_byt hb i
    omega
theorem bval_lo (xs : List Int) : ∀ i, bval xs = hi xs i * 256 ^ i + lo xs i
  | 0 => by rw [hi_zero]; simp [lo]
  | i + 1 => by
    rw [bval_lo xs i, hi_step xs i, lo, Int.pow_succ, Int.add_mul, Int.mul_assoc, Int.mul_comm 256]
    omega
theorem lo_all (xs : List Int) (i : Nat) (h : xs.length ≤ i) : lo xs i = bval xs := by
  rw [bval_lo xs i, hi_past xs i h]; omega
theorem p256_pos (i : Nat) : (0 : Int) < 256 ^ i := Int.pow_pos (by decide)
theorem lo_bd {xs : List Int} (hb : Byt xs) : ∀ i, 0 ≤ lo xs i ∧ lo xs i < 256 ^ i
  | 0 => by simp [lo]
  | i + 1 => by
    have h := lo_bd hb i
    have hd := dig_byt hb i
    have hp := p256_pos i
    rw [lo, Int.pow_succ]
    have h1 : 0 ≤ dig xs i * 256 ^ i := Int.mul_nonneg hd.1 (by omega)
    have h2 : dig xs i * 256 ^ i ≤ 255 * 256 ^ i := Int.mul_le_mul_of_nonneg_right hd.2 (by omega)
    omega
theorem bval_nonneg {xs : List Int} (hb : Byt xs) : 0 ≤ bval xs := by
  rw [← lo_all xs xs.length (Nat.le_refl _)]; exact (lo_bd hb _).1

/-! ### limbs -/
def lval : List Int → Int
  | [] => 0
  | z :: r => z + 4294967296 * lval r
def Lmb (zs : List Int) : Prop := ∀ i, 0 ≤ zs.getD i 0 ∧ zs.getD i 0 < 4294967296
def lhi (zs : List Int) (i : Nat) : Int := lval (zs.drop i)

theorem lhi_zero (zs : List Int) : lhi zs 0 = lval zs := rfl
theorem lhi_past (zs : List Int) (i : Nat) (h : zs.length ≤ i) : lhi zs i = 0 := by
  unfold lhi; rw [List.drop_of_length_le h]; rfl
theorem lhi_step (zs : List Int) (i : Nat) : lhi zs i = zs.getD i 0 + 4294967296 * lhi zs (i + 1) := by
  by_cases h : i < zs.length
  · unfold lhi
    rw [List.drop_eq_getElem_cons h, lval]
    simp [h]
  · rw [lhi_past zs i (by omega), lhi_past zs (i + 1) (by omega)]
    simp [show zs.length ≤ i by omega]
theorem lhi_lt {a b : List Int} (ha : Lmb a) (hb : Lmb b) : ∀ i, lhi a i < lhi b i → lval a < lval b
  | 0, h => h
  | i + 1, h => by
    refine lhi_lt ha hb i ?_
    rw [lhi_step a i, lhi_step b i]
    have := ha i
    have := hb i
    omega
theorem lmb_tail {z : Int} {r : List Int} (h : Lmb (z :: r)) : (0 ≤ z ∧ z < 4294967296) ∧ Lmb r :=
  ⟨by simpa using h 0, fun i => by simpa using h (i + 1)⟩
theorem p32_pos (i : Nat) : (0 : Int) < 4294967296 ^ i := Int.pow_pos (by decide)
theorem lval_bd : ∀ {zs : List Int}, Lmb zs → 0 ≤ lval zs ∧ lval zs < 4294967296 ^ zs.length
  | [], _ => by simp [lval]
  | z :: r, h => by
    obtain ⟨hz, hr⟩ := lmb_tail h
    have := lval_bd hr
    rw [lval, List.length_cons, Int.pow_succ]
    omega
theorem lval_set (v : Int) : ∀ (zs : List Int) (q : Nat), q < zs.length → lval (zs.set q v) = lval zs + (v - zs.getD q 0) * 4294967296 ^ q
  | z :: r, 0, _ => by simp [lval]; omega
  | z :: r, q + 1, h => by
    have := lval_set v r q (by simpa using h)
    simp only [List.set_cons_succ, lval, this, List.getD_cons_succ, Int.pow_succ]
    rw [Int.mul_add, ← Int.mul_assoc (v - r.getD q 0), Int.mul_comm 4294967296 ((v - r.getD q 0) * 4294967296 ^ q)]
    omega
theorem limb_le : ∀ {zs : List Int} (_ : Lmb zs) (q : Nat), zs.getD q 0 * 4294967296 ^ q ≤ lval zs
  | [], _, q => by simp [lval]
  | z :: r, h, 0 => by
    obtain ⟨hz, hr⟩ := lmb_tail h
    have := lval_bd hr
    simp [lval]; omega
  | z :: r, h, q + 1 => by
    obtain ⟨hz, hr⟩ := lmb_tail h
    have := limb_le hr q
    rw [List.getD_cons_succ, Int.pow_succ, lval, ← Int.mul_assoc]
    omega
theorem lmb_set {zs : List Int} (h : Lmb zs) (q : Nat) (v : Int) (h0 : 0 ≤ v) (h1 : v < 4294967296) : Lmb (zs.set q v) := by
  intro i
  by_cases e : q = i
  · subst e
    by_cases hq : q < zs.length
    · rw [getD_set_self _ _ _ hq]; exact ⟨h0, h1⟩
    · have := h q
      rwa [List.set_eq_of_length_le (by omega)]
  · rw [getD_set_ne _ _ _ _ e]; exact h i
theorem lmb_zeros (n : Nat) : Lmb (List.replicate n 0) := by
  intro i
  by_cases h : i < n <;> simp [h]
theorem lval_zeros : ∀ n, lval (List.replicate n 0) = 0
  | 0 => rfl
  | n + 1 => by rw [List.replicate_succ, lval, lval_zeros n]; rfl
theorem lmb_take {zs : List Int} (h : Lmb zs) (s : Nat) : Lmb (zs.take s) := by
  intro i
  by_cases e : i < s
  · have := h i
    simpa [List.getElem?_take, e] using this
  · simp [List.getElem?_take, e]
theorem lval_take : ∀ (zs : List Int) (s : Nat), (∀ j, s ≤ j → zs.getD j 0 = 0) → lval (zs.take s) = lval zs
  | [], s, _ => by simp
  | z :: r, 0, h => by
    have h0 := h 0 (by omega)
    have := lval_take r 0 (fun j _ => by simpa using h (j + 1) (by omega))
    simp at h0 this
    simp [lval, h0, ← this]
  | z :: r, s + 1, h => by
    have := lval_take r s (fun j hj => by simpa using h (j + 1) (by omega))
    simp [lval, this]
/-- No limb 0 at the end. -/
def Top (zs : List Int) : Prop := 0 < zs.length → zs.getD (zs.length - 1) 0 ≠ 0
theorem lval_ge {zs : List Int} (h : Lmb zs) (ht : Top zs) (h0 : 0 < zs.length) : 4294967296 ^ (zs.length - 1) ≤ lval zs := by
  have h1 := limb_le h (zs.length - 1)
  have h2 := ht h0
  have h3 := h (zs.length - 1)
  have hp := p32_pos (zs.length - 1)
  have : 1 * 4294967296 ^ (zs.length - 1) ≤ zs.getD (zs.length - 1) 0 * (4294967296 : Int) ^ (zs.length - 1) := Int.mul_le_mul_of_nonneg_right (by omega) (by omega)
  omega
theorem p32_mono {i j : Nat} (h : i ≤ j) : (4294967296 : Int) ^ i ≤ 4294967296 ^ j := by
  obtain ⟨d, rfl⟩ := Nat.le.dest h
  induction d with
  | zero => exact Int.le_refl _
  | succ d ih =>
    have := ih (by omega)
    have hp := p32_pos (i + d)
    rw [← Nat.add_assoc, Int.pow_succ]; omega
theorem lval_lt_of_len {a b : List Int} (ha : Lmb a) (hb : Lmb b) (ht : Top b) (h : a.length < b.length) : lval a < lval b := by
  have h1 := (lval_bd ha).2
  have h2 := lval_ge hb ht (by omega)
  have h3 := p32_mono (show a.length ≤ b.length - 1 by omega)
  omega

/-! ### the one form of a number -/
/-- No byte 0 ahead. -/
def Canon (ys : List Int) (v : Int) : Prop := Byt ys ∧ bval ys = v ∧ (0 < ys.length → ys.getD 0 0 ≠ 0)
theorem hi_same {a b : List Int} (ha : Byt a) (hb : Byt b) (h : bval a = bval b) : ∀ i, hi a i = hi b i
  | 0 => by rw [hi_zero, hi_zero, h]
  | i + 1 => by
    have h0 := hi_same ha hb h i
    rw [hi_step a i, hi_step b i] at h0
    have := dig_byt ha i
    have := dig_byt hb i
    omega
theorem dig_same {a b : List Int} (ha : Byt a) (hb : Byt b) (h : bval a = bval b) (i : Nat) : dig a i = dig b i := by
  have h0 := hi_same ha hb h i
  have h1 := hi_same ha hb h (i + 1)
  rw [hi_step a i, hi_step b i, h1] at h0
  omega
theorem dig_top (a : List Int) (h : 0 < a.length) : dig a (a.length - 1) = a.getD 0 0 := by
  unfold dig
  rw [if_pos (by omega), show a.length - 1 - (a.length - 1) = 0 by omega]
theorem canon_len {a b : List Int} {v : Int} (ha : Canon a v) (hb : Canon b v) : ¬ a.length < b.length := by
  intro h
  have h1 := dig_same ha.1 hb.1 (ha.2.1.trans hb.2.1.symm) (b.length - 1)
  rw [dig_top b (by omega)] at h1
  have h2 : dig a (b.length - 1) = 0 := by unfold dig; rw [if_neg (by omega)]
  exact hb.2.2 (by omega) (by omega)
theorem Canon.uniq {a b : List Int} {v : Int} (ha : Canon a v) (hb : Canon b v) : a = b := by
  have hl : a.length = b.length := by
    have h1 := canon_len ha hb
    have h2 := canon_len hb ha
    omega
  refine eq_of_getD hl (fun i hi => ?_)
  have h1 := dig_same ha.1 hb.1 (ha.2.1.trans hb.2.1.symm) (a.length - 1 - i)
  unfold dig at h1
  rw [if_pos (by omega), if_pos (by omega), show a.length - 1 - (a.length - 1 - i) = i by omega, show b.length - 1 - (a.length - 1 - i) = i by omega] at h1
  exact h1
theorem bval_cons0 (xs : List Int) : bval (0 :: xs) = bval xs := rfl
theorem bval_drop : ∀ (xs : List Int) (k : Nat), (∀ j, j < k → xs.getD j 0 = 0) → bval (xs.drop k) = bval xs
  | xs, 0, _ => by simp
  | [], k + 1, _ => by simp
  | x :: r, k + 1, h => by
    have h0 := h 0 (by omega)
    simp at h0
    subst h0
    rw [List.drop_succ_cons, bval_cons0]
    exact bval_drop r k (fun j hj => by simpa using h (j + 1) (by omega))
theorem byt_drop {xs : List Int} (h : Byt xs) (k : Nat) : Byt (xs.drop k) := fun i => by
  have := h (k + i)
  simpa [List.getElem?_drop] using this
theorem byt_nil : Byt [] := fun i => by simp
/-- The first k bytes are 0. -/
def ZeroTo (xs : List Int) (k : Nat) : Prop := ∀ j, j < k → xs.getD j 0 = 0
theorem ZeroTo.step {xs : List Int} {k : Nat} (h : ZeroTo xs k) (h0 : xs.getD k 0 = 0) : ZeroTo xs (k + 1) := fun j hj => by
  by_cases e : j = k
  · rw [e]; exact h0
  · exact h j (by omega)
theorem ZeroTo.canon {xs : List Int} {k : Nat} (h : ZeroTo xs k) (hb : Byt xs) (hk : k < xs.length → xs.getD k 0 ≠ 0) : Canon (xs.drop k) (bval xs) := by
  refine ⟨byt_drop hb k, bval_drop xs k h, fun h0 => ?_⟩
  have := hk (by rw [List.length_drop] at h0; omega)
  simpa [List.getElem?_drop] using this

theorem p256_4 (r : Nat) : ∀ q : Nat, (256 : Int) ^ (4 * q + r) = 4294967296 ^ q * 256 ^ r
  | 0 => by simp
  | q + 1 => by
    have := p256_4 r q
    rw [show 4 * (q + 1) + r = (4 * q + r) + 1 + 1 + 1 + 1 by omega, Int.pow_succ, Int.pow_succ, Int.pow_succ, Int.pow_succ, this, Int.pow_succ, Int.mul_right_comm (4294967296 ^ q) 4294967296 (256 ^ r)]
    omega

theorem sg_lt {x y : Int} (h : x < y) : sg x y = -1 := by simp [sg, h]
theorem sg_gt {x y : Int} (h : y < x) : sg x y = 1 := by simp [sg, h]; omega
theorem sg_eq {x y : Int} (h : x = y) : sg x y = 0 := by simp [sg, h]
end Go.Proofs.YtpjgedbemblnhaaDoor

/-
  2^255 - 19 is prime, and what follows for powers: numbers alone.
-/
namespace Go.Proofs.YtpjgedbemblnhaaDoor
set_option maxRecDepth 100000

/-- A prime. -/
def Prm (p : Nat) : Prop := 2 ≤ p ∧ ∀ d, d ∣ p → d = 1 ∨ d = p

theorem Prm.cop {p : Nat} (h : Prm p) (a : Nat) (ha : ¬ p ∣ a) : Nat.gcd p a = 1 := by
  rcases h.2 (Nat.gcd p a) (Nat.gcd_dvd_left p a) with e | e
  · exact e
  · exact absurd (e ▸ Nat.gcd_dvd_right p a) ha
theorem Prm.mul {p : Nat} (h : Prm p) {a b : Nat} (hd : p ∣ a * b) : p ∣ a ∨ p ∣ b := by
  by_cases ha : p ∣ a
  · exact Or.inl ha
  · exact Or.inr (Nat.Coprime.dvd_of_dvd_mul_left (h.cop a ha) hd)

/-! ### the binomial theorem, as far as it is wanted -/
def chs : Nat → Nat → Nat
  | _, 0 => 1
  | 0, _ + 1 => 0
  | n + 1, k + 1 => chs n k + chs n (k + 1)
theorem chs_zero (n : Nat) : chs n 0 = 1 := by cases n <;> rfl
theorem chs_past : ∀ n k, n < k → chs n k = 0
  | 0, 0, h => absurd h (by omega)
  | 0, k + 1, _ => rfl
  | n + 1, 0, h => absurd h (by omega)
  | n + 1, k + 1, h => by rw [chs, chs_past n k (by omega), chs_past n (k + 1) (by omega)]
theorem chs_self : ∀ n, chs n n = 1
  | 0 => rfl
  | n + 1 => by rw [chs, chs_self n, chs_past n (n + 1) (by omega)]
theorem chs_absorb : ∀ n k, (k + 1) * chs (n + 1) (k + 1) = (n + 1) * chs n k
  | 0, 0 => rfl
  | 0, k + 1 => by
    have e : chs (0 + 1) (k + 1 + 1) = chs 0 (k + 1) + chs 0 (k + 1 + 1) := rfl
    rw [e, chs_past 0 (k + 1) (by omega), chs_past 0 (k + 1 + 1) (by omega)]; rfl
  | n + 1, 0 => by
    have h := chs_absorb n 0
    have e : chs (n + 1 + 1) (0 + 1) = chs (n + 1) 0 + chs (n + 1) (0 + 1) := rfl
    rw [chs_zero] at h e
    rw [e, chs_zero]; omega
  | n + 1, k + 1 => by
    have h1 := chs_absorb n k
    have h2 := chs_absorb n (k + 1)
    have e1 : chs (n + 1 + 1) (k + 1 + 1) = chs (n + 1) (k + 1) + chs (n + 1) (k + 1 + 1) := by rw [chs]
    have e2 : chs (n + 1) (k + 1) = chs n k + chs n (k + 1) := by rw [chs]
    rw [e1, Nat.mul_add, h2, show k + 1 + 1 = (k + 1) + 1 by rfl, Nat.add_mul (k + 1) 1, h1, Nat.one_mul, e2, Nat.mul_add, Nat.add_mul (n + 1) 1, Nat.one_mul]
    rw [Nat.add_mul (n + 1) 1, Nat.one_mul]
    omega
def sm (f : Nat → Nat) : Nat → Nat
  | 0 => 0
  | n + 1 => sm f n + f n
theorem sm_mul (f : Nat → Nat) (c : Nat) : ∀ n, sm (fun k => c * f k) n = c * sm f n
  | 0 => rfl
  | n + 1 => by rw [sm, sm, sm_mul f c n, Nat.mul_add]
theorem sm_add (f g : Nat → Nat) : ∀ n, sm (fun k => f k + g k) n = sm f n + sm g n
  | 0 => rfl
  | n + 1 => by simp only [sm]; rw [sm_add f g n]; omega
theorem sm_head (f : Nat → Nat) : ∀ n, sm f (n + 1) = f 0 + sm (fun k => f (k + 1)) n
  | 0 => by simp [sm]
  | n + 1 => by rw [sm, sm_head f n]; simp only [sm]; omega
theorem sm_congr {f g : Nat → Nat} : ∀ n, (∀ k, k < n → f k = g k) → sm f n = sm g n
  | 0, _ => rfl
  | n + 1, h => by rw [sm, sm, sm_congr n (fun k hk => h k (by omega)), h n (by omega)]
theorem sm_dvd {f : Nat → Nat} (p : Nat) : ∀ n, (∀ k, k < n → p ∣ f k) → p ∣ sm f n
  | 0, _ => Nat.dvd_zero p
  | n + 1, h => by rw [sm]; exact Nat.dvd_add (sm_dvd p n (fun k hk => h k (by omega))) (h n (by omega))
theorem binom (a : Nat) : ∀ n, (a + 1) ^ n = sm (fun k => chs n k * a ^ k) (n + 1)
  | 0 => by simp [sm, chs]
  | n + 1 => by
    have e1 : sm (fun k => chs n k * a ^ k) (n + 1) = 1 + sm (fun k => chs n (k + 1) * a ^ (k + 1)) n := by
      rw [sm_head]; simp [chs_zero]
    have e2 : sm (fun k => chs n (k + 1) * a ^ (k + 1)) (n + 1) = sm (fun k => chs n (k + 1) * a ^ (k + 1)) n := by
      rw [sm, chs_past n (n + 1) (by omega)]; omega
    rw [sm_head, Nat.pow_succ, binom a n, Nat.mul_add, Nat.mul_one, Nat.mul_comm, ← sm_mul]
    have e3 : sm (fun k => chs (n + 1) (k + 1) * a ^ (k + 1)) (n + 1) = sm (fun k => a * (chs n k * a ^ k) + chs n (k + 1) * a ^ (k + 1)) (n + 1) :=
      sm_congr _ (fun k _ => by rw [chs, Nat.add_mul]; congr 1; rw [Nat.pow_succ, ← Nat.mul_assoc, Nat.mul_comm])
    rw [e3, sm_add, e2, e1, chs_zero, Nat.pow_zero]
    omega

theorem Prm.chs {p : Nat} (h : Prm p) {k : Nat} (h0 : 0 < k) (h1 : k < p) : p ∣ chs p k := by
  obtain ⟨q, rfl⟩ : ∃ q, p = q + 1 := ⟨p - 1, by omega⟩
  obtain ⟨j, rfl⟩ : ∃ j, k = j + 1 := ⟨k - 1, by omega⟩
  have hd : q + 1 ∣ (j + 1) * Go.Proofs.YtpjgedbemblnhaaDoor.chs (q + 1) (j + 1) := by rw [chs_absorb]; exact Nat.dvd_mul_right _ _
  rcases h.mul hd with e | e
  · exact absurd (Nat.le_of_dvd (by omega) e) (by omega)
  · exact e

theorem Prm.little {p : Nat} (h : Prm p) : ∀ a, a ^ p % p = a % p
  | 0 => by
    have := h.1
    rw [Nat.zero_pow (by omega)]
  | a + 1 => by
    have ih := h.little a
    have hp := h.1
    obtain ⟨q, rfl⟩ : ∃ q, p = q + 1 := ⟨p - 1, by omega⟩
    rw [binom, sm, sm_head]
    simp only [chs_self, chs_zero, Nat.pow_zero, Nat.mul_one, Nat.one_mul]
    have hd : q + 1 ∣ sm (fun k => Go.Proofs.YtpjgedbemblnhaaDoor.chs (q + 1) (k + 1) * a ^ (k + 1)) q :=
      sm_dvd _ _ (fun k hk => Nat.dvd_trans (h.chs (by omega) (by omega)) (Nat.dvd_mul_right _ _))
    obtain ⟨c, hc⟩ := hd
    rw [hc, Nat.add_mod, ih, Nat.add_mul_mod_self_left]
    rw [← Nat.add_mod, Nat.add_comm]
theorem Prm.fermat {p : Nat} (h : Prm p) {a : Nat} (ha : ¬ p ∣ a) : a ^ (p - 1) % p = 1 := by
  have hp := h.1
  have h1 := h.little a
  obtain ⟨q, rfl⟩ : ∃ q, p = q + 1 := ⟨p - 1, by omega⟩
  rw [Nat.add_sub_cancel]
  have hpos : 0 < a := Nat.pos_of_ne_zero (fun e => ha (e ▸ Nat.dvd_zero _))
  have h2 : q + 1 ∣ a ^ (q + 1) - a := Nat.dvd_of_mod_eq_zero (Nat.sub_mod_eq_zero_of_mod_eq h1)
  rw [show a ^ (q + 1) - a = a * (a ^ q - 1) by rw [Nat.mul_sub, Nat.mul_one, Nat.pow_succ, Nat.mul_comm]] at h2
  rcases h.mul h2 with e | e
  · exact absurd e ha
  · obtain ⟨c, hc⟩ := e
    have h3 : 0 < a ^ q := Nat.pow_pos hpos
    rw [show a ^ q = 1 + (q + 1) * c by omega, Nat.add_mul_mod_self_left, Nat.mod_eq_of_lt (by omega)]

/-! ### a certificate: Pocklington's -/
theorem pow_gcd {m x : Nat} : ∀ a b, x ^ a % m = 1 % m → x ^ b % m = 1 % m → x ^ (Nat.gcd a b) % m = 1 % m := by
  intro a b
  induction a, b using Nat.gcd.induction with
  | H0 b => intro _ h; rw [Nat.gcd_zero_left]; exact h
  | H1 a b ha ih =>
    intro h1 h2
    rw [Nat.gcd_rec]
    refine ih ?_ h1
    rw [← Nat.div_add_mod b a, Nat.pow_add, Nat.pow_mul, Nat.mul_mod, Nat.pow_mod, h1, ← Nat.pow_mod, Nat.one_pow, ← Nat.mul_mod, Nat.one_mul] at h2
    exact h2

theorem prime_factor : ∀ n : Nat, 2 ≤ n → ∃ p, Prm p ∧ p ∣ n := by
  intro n
  induction n using Nat.strongRecOn with
  | _ n ih =>
    intro hn
    by_cases h : ∃ d, d ∣ n ∧ d ≠ 1 ∧ d ≠ n
    · obtain ⟨d, hd, h1, h2⟩ := h
      have hle := Nat.le_of_dvd (by omega) hd
      have h0 : d ≠ 0 := fun e => by subst e; have := Nat.eq_zero_of_zero_dvd hd; omega
      obtain ⟨p, hp, hpd⟩ := ih d (by omega) (by omega)
      exact ⟨p, hp, Nat.dvd_trans hpd hd⟩
    · refine ⟨n, ⟨hn, fun d hd => ?_⟩, Nat.dvd_refl n⟩
      by_cases h1 : d = 1
      · exact Or.inl h1
      · by_cases h2 : d = n
        · exact Or.inr h2
        · exact absurd ⟨d, hd, h1, h2⟩ h
/-- No prime whose square is not above n divides n: n is prime. -/
theorem prime_of_small {n : Nat} (hn : 2 ≤ n) (h : ∀ p, Prm p → p ∣ n → n < p * p) : Prm n := by
  refine ⟨hn, fun d hd => ?_⟩
  by_cases h1 : d = 1
  · exact Or.inl h1
  by_cases h2 : d = n
  · exact Or.inr h2
  exfalso
  obtain ⟨c, rfl⟩ := hd
  have hd0 : d ≠ 0 := fun e => by subst e; omega
  have hc0 : c ≠ 0 := fun e => by subst e; omega
  have hc1 : c ≠ 1 := fun e => by subst e; omega
  by_cases hle : d ≤ c
  · obtain ⟨p, hp, hpd⟩ := prime_factor d (by omega)
    have := h p hp (Nat.dvd_trans hpd (Nat.dvd_mul_right _ _))
    have hpl := Nat.le_of_dvd (by omega) hpd
    have := Nat.mul_le_mul hpl (Nat.le_trans hpl hle)
    omega
  · obtain ⟨p, hp, hpd⟩ := prime_factor c (by omega)
    have := h p hp (Nat.dvd_trans hpd (Nat.dvd_mul_left _ _))
    have hpl := Nat.le_of_dvd (by omega) hpd
    have := Nat.mul_le_mul (show p ≤ d by omega) hpl
    omega

/-- One prime q of n - 1: every prime of n is 1 modulo q. -/
theorem pock {n q g h : Nat} (hn : 2 ≤ n) (hq : Prm q) (hd : q ∣ n - 1) (h1 : g ^ (n - 1) % n = 1) (hh : g ^ ((n - 1) / q) % n = h) (hg : Nat.gcd (h + n - 1) n = 1) (p : Nat) (hp : Prm p) (hpn : p ∣ n) : q ∣ p - 1 := by
  have hp2 := hp.1
  have m1 : ∀ x y : Nat, x % n = y % n → x % p = y % p := fun x y e => by
    rw [← Nat.mod_mod_of_dvd x hpn, e, Nat.mod_mod_of_dvd y hpn]
  have ga : ¬ p ∣ g := fun e => by
    have := m1 (g ^ (n - 1)) 1 (by rw [h1, Nat.mod_eq_of_lt (by omega)])
    have h0 : g ^ (n - 1) % p = 0 := Nat.mod_eq_zero_of_dvd (Nat.dvd_trans e (by rw [show n - 1 = (n - 2) + 1 by omega, Nat.pow_succ]; exact Nat.dvd_mul_left _ _))
    rw [h0, Nat.mod_eq_of_lt (by omega)] at this
    omega
  have hf := hp.fermat ga
  by_cases hqp : q ∣ p - 1
  · exact hqp
  exfalso
  have hc : Nat.gcd q (p - 1) = 1 := hq.cop _ hqp
  obtain ⟨k, hk⟩ := hd
  have hq0 : 0 < q := by have := hq.1; omega
  rw [hk, Nat.mul_div_cancel_left k hq0] at hh
  have e1 : (g ^ k) ^ q % p = 1 % p := by
    rw [← Nat.pow_mul, Nat.mul_comm, ← hk]
    exact m1 _ _ (by rw [h1, Nat.mod_eq_of_lt (by omega)])
  have e2 : (g ^ k) ^ (p - 1) % p = 1 % p := by
    rw [← Nat.pow_mul, Nat.mul_comm, Nat.pow_mul, Nat.pow_mod, hf, Nat.one_pow]
  have e3 := pow_gcd _ _ e1 e2
  rw [hc, Nat.pow_one] at e3
  have e4 : h % p = 1 % p := by rw [← hh, Nat.mod_mod_of_dvd _ hpn]; exact e3
  have e5 : p ∣ h + n - 1 := by
    apply Nat.dvd_of_mod_eq_zero
    apply Nat.sub_mod_eq_zero_of_mod_eq
    obtain ⟨c, rfl⟩ := hpn
    rw [Nat.add_mul_mod_self_left, e4]
  have := Nat.dvd_gcd e5 hpn
  rw [hg] at this
  have := Nat.le_of_dvd (by omega) this
  omega
theorem prime_by_one {n q g h : Nat} (hn : 2 ≤ n) (hq : Prm q) (hd : q ∣ n - 1) (h1 : g ^ (n - 1) % n = 1) (hh : g ^ ((n - 1) / q) % n = h) (hg : Nat.gcd (h + n - 1) n = 1) (hbig : n < (q + 1) * (q + 1)) : Prm n :=
  prime_of_small hn fun p hp hpn => by
    have h0 := Nat.le_of_dvd (by have := hp.1; omega) (pock hn hq hd h1 hh hg p hp hpn)
    have := Nat.mul_le_mul (show q + 1 ≤ p by have := hp.1; omega) (show q + 1 ≤ p by have := hp.1; omega)
    omega
theorem prime_by_two {n q r g h i : Nat} (hn : 2 ≤ n) (hq : Prm q) (hr : Prm r) (hqr : Nat.gcd q r = 1) (hd : q ∣ n - 1) (hd' : r ∣ n - 1) (h1 : g ^ (n - 1) % n = 1) (hh : g ^ ((n - 1) / q) % n = h) (hi : g ^ ((n - 1) / r) % n = i)
    (hg : Nat.gcd (h + n - 1) n = 1) (hg' : Nat.gcd (i + n - 1) n = 1) (hbig : n < (q * r + 1) * (q * r + 1)) : Prm n :=
  prime_of_small hn fun p hp hpn => by
    have d1 := pock hn hq hd h1 hh hg p hp hpn
    have d2 := pock hn hr hd' h1 hi hg' p hp hpn
    have h0 := Nat.le_of_dvd (by have := hp.1; omega) (Nat.Coprime.mul_dvd_of_dvd_of_dvd hqr d1 d2)
    have := Nat.mul_le_mul (show q * r + 1 ≤ p by have := hp.1; omega) (show q * r + 1 ≤ p by have := hp.1; omega)
    omega

/-! ### powers by squaring, for the kernel -/
def pm (n : Nat) : Nat → Nat → Nat → Nat
  | 0, _, _ => 1 % n
  | f + 1, b, e => if e % 2 = 1 then pm n f (b * b % n) (e / 2) * b % n else pm n f (b * b % n) (e / 2)
theorem pm_eq (n : Nat) : ∀ f b e, e < 2 ^ f → pm n f b e = b ^ e % n
  | 0, b, e, h => by
    obtain rfl : e = 0 := by simpa using h
    rfl
  | f + 1, b, e, h => by
    have hs := pm_eq n f (b * b % n) (e / 2) (by rw [Nat.pow_succ] at h; omega)
    have e1 : (b * b % n) ^ (e / 2) % n = b ^ (2 * (e / 2)) % n := by
      rw [← Nat.pow_mod, Nat.pow_mul, Nat.pow_two]
    rw [pm, hs, e1]
    by_cases h2 : e % 2 = 1
    · rw [if_pos h2]
      have e2 : b ^ e = b ^ (2 * (e / 2)) * b := by rw [← Nat.pow_succ]; congr 1; omega
      rw [e2, Nat.mod_mul_mod]
    · rw [if_neg h2]
      congr 2; omega

/-- Trial division. -/
def trial (n : Nat) : Nat → Bool
  | 0 => true
  | k + 1 => n % (k + 2) != 0 && trial n k
theorem trial_ok (n : Nat) : ∀ k, trial n k = true → ∀ d, 2 ≤ d → d < k + 2 → ¬ d ∣ n
  | 0, _, d, h1, h2 => absurd h2 (by omega)
  | k + 1, h, d, h1, h2 => by
    simp only [trial, Bool.and_eq_true, bne_iff_ne, ne_eq] at h
    by_cases e : d = k + 2
    · subst e
      exact fun hd => h.1 (Nat.mod_eq_zero_of_dvd hd)
    · exact trial_ok n k h.2 d h1 (by omega)
theorem prime_by_trial {n k : Nat} (hn : 2 ≤ n) (hk : n < (k + 2) * (k + 2)) (ht : trial n k = true) : Prm n :=
  prime_of_small hn fun p hp hpn => by
    have h1 := hp.1
    by_cases h : p < k + 2
    · exact absurd hpn (trial_ok n k ht p h1 h)
    · have := Nat.mul_le_mul (show k + 2 ≤ p by omega) (show k + 2 ≤ p by omega)
      omega
theorem prm_97 : Prm 97 := prime_by_trial (k := 8) (by decide) (by decide) (by decide)
theorem prm_103 : Prm 103 := prime_by_trial (k := 9) (by decide) (by decide) (by decide)
theorem prm_127 : Prm 127 := prime_by_trial (k := 10) (by decide) (by decide) (by decide)
theorem prm_419 : Prm 419 := prime_by_trial (k := 19) (by decide) (by decide) (by decide)
theorem prm_991 : Prm 991 := prime_by_trial (k := 30) (by decide) (by decide) (by decide)
theorem prm_1723 : Prm 1723 := prime_by_trial (k := 40) (by decide) (by decide) (by decide)
theorem prm_4153 : Prm 4153 := prime_by_trial (k := 63) (by decide) (by decide) (by decide)
theorem cert_one {n q f h : Nat} (hn : 2 ≤ n) (hf : n - 1 < 2 ^ f) (hq : Prm q) (hd : q ∣ n - 1) (h1 : pm n f 2 (n - 1) = 1) (hh : pm n f 2 ((n - 1) / q) = h) (hg : Nat.gcd (h + n - 1) n = 1) (hbig : n < (q + 1) * (q + 1)) : Prm n :=
  prime_by_one hn hq hd (by rw [← pm_eq n f 2 _ hf]; exact h1) (by rw [← pm_eq n f 2 _ (Nat.lt_of_le_of_lt (Nat.div_le_self _ _) hf)]; exact hh) hg hbig
theorem cert_two {n q r f h i : Nat} (hn : 2 ≤ n) (hf : n - 1 < 2 ^ f) (hq : Prm q) (hr : Prm r) (hqr : Nat.gcd q r = 1) (hd : q ∣ n - 1) (hd' : r ∣ n - 1) (h1 : pm n f 2 (n - 1) = 1) (hh : pm n f 2 ((n - 1) / q) = h) (hi : pm n f 2 ((n - 1) / r) = i)
    (hg : Nat.gcd (h + n - 1) n = 1) (hg' : Nat.gcd (i + n - 1) n = 1) (hbig : n < (q * r + 1) * (q * r + 1)) : Prm n :=
  prime_by_two hn hq hr hqr hd hd' (by rw [← pm_eq n f 2 _ hf]; exact h1) (by rw [← pm_eq n f 2 _ (Nat.lt_of_le_of_lt (Nat.div_le_self _ _) hf)]; exact hh)
    (by rw [← pm_eq n f 2 _ (Nat.lt_of_le_of_lt (Nat.div_le_self _ _) hf)]; exact hi) hg hg' hbig
theorem prm_430751 : Prm 430751 := cert_one (f := 19) (h := 293176) (by decide +kernel) (by decide +kernel) prm_1723 (by decide +kernel) (by decide +kernel) (by decide +kernel) (by decide +kernel) (by decide +kernel)
theorem prm_569003 : Prm 569003 := cert_two (f := 20) (h := 236160) (i := 439588) (by decide +kernel) (by decide +kernel) prm_419 prm_97 (by decide +kernel) (by decide +kernel) (by decide +kernel) (by decide +kernel) (by decide +kernel) (by decide +kernel) (by decide +kernel) (by decide +kernel) (by decide +kernel)
theorem prm_8574133 : Prm 8574133 := cert_two (f := 24) (h := 3435729) (i := 4321357) (by decide +kernel) (by decide +kernel) prm_991 prm_103 (by decide +kernel) (by decide +kernel) (by decide +kernel) (by decide +kernel) (by decide +kernel) (by decide +kernel) (by decide +kernel) (by decide +kernel) (by decide +kernel)
theorem prm_2773320623 : Prm 2773320623 := cert_one (f := 32) (h := 2039232613) (by decide +kernel) (by decide +kernel) prm_569003 (by decide +kernel) (by decide +kernel) (by decide +kernel) (by decide +kernel) (by decide +kernel)
theorem prm_72106336199 : Prm 72106336199 := cert_one (f := 37) (h := 67108864) (by decide +kernel) (by decide +kernel) prm_2773320623 (by decide +kernel) (by decide +kernel) (by decide +kernel) (by decide +kernel) (by decide +kernel)
theorem prm_191951956938n16 : Prm 1919519569386763 := cert_two (f := 51) (h := 1059928654987441) (i := 576774792492622) (by decide +kernel) (by decide +kernel) prm_8574133 prm_127 (by decide +kernel) (by decide +kernel) (by decide +kernel) (by decide +kernel) (by decide +kernel) (by decide +kernel) (by decide +kernel) (by decide +kernel) (by decide +kernel)
theorem prm_317577555688n17 : Prm 31757755568855353 := cert_two (f := 55) (h := 15280470251845350) (i := 28256283979054930) (by decide +kernel) (by decide +kernel) prm_430751 prm_4153 (by decide +kernel) (by decide +kernel) (by decide +kernel) (by decide +kernel) (by decide +kernel) (by decide +kernel) (by decide +kernel) (by decide +kernel) (by decide +kernel)
theorem prm_754457024797n35 : Prm 75445702479781427272750846543864801 := cert_two (f := 116) (h := 56747016255153332959347766392083459) (i := 71619851993489548214160924360205394) (by decide +kernel) (by decide +kernel) prm_191951956938n16 prm_72106336199 (by decide +kernel) (by decide +kernel) (by decide +kernel) (by decide +kernel) (by decide +kernel) (by decide +kernel) (by decide +kernel) (by decide +kernel) (by decide +kernel)
theorem prm_740582127325n71 : Prm 74058212732561358302231226437062788676166966415465897661863160754340907 := cert_two (f := 236) (h := 69490809710348678725736597923071784769591275419387514694139338586948360) (i := 50366660687963342066214195241331738400016478712605795091965648721912165) (by decide +kernel) (by decide +kernel) prm_754457024797n35 prm_317577555688n17 (by decide +kernel) (by decide +kernel) (by decide +kernel) (by decide +kernel) (by decide +kernel) (by decide +kernel) (by decide +kernel) (by decide +kernel) (by decide +kernel)
theorem prm_578960446186n77 : Prm 57896044618658097711785492504343953926634992332820282019728792003956564819949 := cert_one (f := 255) (h := 427094198651976259540344842774561673889945192655078505504941250475370961481) (by decide +kernel) (by decide +kernel) prm_740582127325n71 (by decide +kernel) (by decide +kernel) (by decide +kernel) (by decide +kernel) (by decide +kernel)
/-- The prime of the field. -/
abbrev P25519 : Nat := 57896044618658097711785492504343953926634992332820282019728792003956564819949
theorem prm_P : Prm P25519 := prm_578960446186n77
end Go.Proofs.YtpjgedbemblnhaaDoor
