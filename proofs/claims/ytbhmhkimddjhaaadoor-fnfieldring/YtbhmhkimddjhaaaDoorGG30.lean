import Derived.OrdersHeld
import Derived.Deep.RegionHeld
/-
  A load may be taken first though the region writes its cells in the end: what the load reads is asked for only as long as an operation that waits for it has not come up. No program in sight.
-/
namespace Go.Proofs.YtbhmhkimddjhaaaDoor
set_option maxRecDepth 100000
open Go

section
variable {P : Program} {ops : Array Oper} {Q : Exit → Act → World → Prop} {md : Region.Mode} {S : World → Prop} {k : Nat}

/-- Whatever order is picked from here on, and S holds behind every operation that is carried out ahead of number k. -/
def anyK (P : Program) (md : Region.Mode) (ops : Array Oper) (Q : Exit → Act → World → Prop) (S : World → Prop) (k : Nat) : Nat → Array Bool → Act → World → Prop
  | 0, listed, a, w => Region.ready md ops listed = [] ∧ Q .normal a w
  | fuel + 1, listed, a, w =>
    (Region.ready md ops listed = [] → Q .normal a w) ∧
    ∀ i ∈ Region.ready md ops listed, wpOp P ops Q i (fun a' w' => ((listed.setIfInBounds i true).getD k true = false → S w') ∧ anyK P md ops Q S k fuel (listed.setIfInBounds i true) a' w') a w

theorem any_of_K : ∀ (fuel : Nat) (listed : Array Bool) (a : Act) (w : World), anyK P md ops Q S k fuel listed a w → wpAny P md ops Q fuel listed a w
  | 0, _, _, _, h => h
  | fuel + 1, _, _, _, h => ⟨h.1, fun i hi => wpOp_mono (fun a' w' h' => any_of_K fuel _ a' w' h'.2) (h.2 i hi)⟩

/-- Of two that may come up neither waits for the other. -/
theorem no_wait {i j : Nat} {listed : Array Bool} {oj : Oper} (hoj : ops[j]? = some oj) (hi : i ∈ Region.ready md ops listed) (hj : j ∈ Region.ready md ops listed) : ∀ e ∈ oj.after, Region.binds md e = true → e.on ≠ i := by
  rintro e he hb rfl
  obtain ⟨_, o, ho, hall⟩ := mem_ready.1 hj
  obtain rfl := Option.some.inj (ho.symm.trans hoj)
  have a := hall e he hb
  have b := (mem_ready.1 hi).1
  cases hg : listed[e.on]? with
  | none => simp [Array.getD_eq_getD_getElem?, hg] at a
  | some x =>
    simp [Array.getD_eq_getD_getElem?, hg] at a b
    simp [a] at b
/-- What is free stays free when more has come up. -/
theorem free_on {i : Nat} {listed : Array Bool} (j : Nat) (h : Region.free md ops listed i = true) : Region.free md ops (listed.setIfInBounds j true) i = true := by
  unfold Region.free at *
  cases hi : ops[i]? with
  | none => simp [hi] at h
  | some oi =>
    simp only [hi, List.all_eq_true] at h ⊢
    intro m hm
    have hm' := h m hm
    by_cases e : j = m
    · subst e
      simp
    · rw [getD_set_ne true e]
      exact hm'
/-- Take number i first: it yields v in every world that meets S; number k waits for it and has not come up. -/
theorem anyK_take {i : Nat} {oi ok : Oper} {v : Value} (hi : ops[i]? = some oi) (hk : ops[k]? = some ok) (hke : ok.after.any (fun e => Region.binds md e && e.on == i) = true) (hik : i ≠ k) (hs : Region.noSelect ops = true)
    (hQ : ∀ c a w, Q (.panic c) (a.put oi.dst v) w → Q (.panic c) a w) : ∀ {fuel : Nat} {listed : Array Bool} {a : Act} {w : World}, listed.getD k true = false → Region.free md ops listed i = true → (Region.ready md ops listed).contains i = true → YieldsIf P ops S oi v a → S w →
      anyK P md ops Q S k fuel (listed.setIfInBounds i true) (a.put oi.dst v) w → anyK P md ops Q S k (fuel + 1) listed a w
  | fuel, listed, a, w, hl, hf, hr, hy, hS, H => by
    have hr' : i ∈ Region.ready md ops listed := by simpa using hr
    refine ⟨fun h0 => absurd (h0 ▸ hr') (by simp), fun j hj => ?_⟩
    rcases Nat.decEq j i with hji | rfl
    · have hrj := ready_mono hj hji
      match fuel, H with
      | 0, H => exact absurd (H.1 ▸ hrj) (by simp)
      | fuel + 1, H =>
        obtain ⟨hjl, oj, hoj, _⟩ := mem_ready.1 hj
        have hw := no_wait hoj hr' hj
        have hjk : j ≠ k := by
          rintro rfl
          obtain rfl := Option.some.inj (hk.symm.trans hoj)
          rw [Array.any_eq_true'] at hke
          obtain ⟨e, he, hb⟩ := hke
          simp only [Bool.and_eq_true, beq_iff_eq] at hb
          exact hw e he hb.1 hb.2
        have step := wpOp_putIf hoj (Region.free_spec hi hf j oj hoj hji hjl hw) (fun cs b => Region.noSelect_spec hs i oi cs b hi) (fun cs b => Region.noSelect_spec hs j oj cs b hoj) hQ hy (H.2 j hrj)
        refine wpOp_mono (fun a' w' ⟨y, s, rest⟩ => ?_) step
        have hS' : S w' := s (by rw [getD_set_ne true hjk, getD_set_ne true hik]; exact hl)
        refine ⟨fun _ => hS', anyK_take hi hk hke hik hs hQ (by rw [getD_set_ne true hjk]; exact hl) (free_on j hf) (by simpa using ready_mono hr' (Ne.symm hji)) y hS' ?_⟩
        rw [Array.setIfInBounds_comm _ _ hji]
        exact rest
    · exact hy.wpOp hi hS ⟨fun _ => hS, H⟩
/-- The beginning. -/
theorem region_K {id : Nat} {a : Act} {w : World} (hm : P.follows .mixedOrders = true)
    (h : anyK P .any ops Q S k ops.size (Array.replicate ops.size false) a w.drew) : (Code.region id ops true).wp P Q a w :=
  wp_region_any hm (any_of_K _ _ _ _ h)
/-- The end. -/
theorem anyK_done {listed : Array Bool} {a : Act} {w : World} (hr : Region.ready md ops listed = []) (h : Q .normal a w) : ∀ fuel, anyK P md ops Q S k fuel listed a w
  | 0 => ⟨hr, h⟩
  | _ + 1 => ⟨fun _ => h, by rw [hr]; simp⟩

/-- Behind the last operation that asks for S the walk is a plain one: all that S asks is in what the prover carries. -/
def AllK (P : Program) (md : Region.Mode) (ops : Array Oper) (Q : Exit → Act → World → Prop) (S : World → Prop) (k fuel : Nat) (listed : Array Bool) (a : Act) (w : World) (rs : List Nat) : Prop :=
  ∀ i ∈ rs, wpOp P ops Q i (fun a' w' => ((listed.setIfInBounds i true).getD k true = false → S w') ∧ anyK P md ops Q S k fuel (listed.setIfInBounds i true) a' w') a w
theorem AllK.nil {fuel : Nat} {listed : Array Bool} {a : Act} {w : World} : AllK P md ops Q S k fuel listed a w [] := fun _ h => by cases h
theorem AllK.cons {fuel : Nat} {listed : Array Bool} {a : Act} {w : World} {i : Nat} {o : Oper} {rs : List Nat} (ho : ops[i]? = some o)
    (h : ∀ K' : Act → World → Prop, Shut (∀ a w, ((listed.setIfInBounds i true).getD k true = false → S w) → anyK P md ops Q S k fuel (listed.setIfInBounds i true) a w → K' a w) → if Region.wanted o (yielded ops a.tmps) = true then Oper.wp P o a w K' Q else K' (a.put o.dst undef) w)
    (hs : AllK P md ops Q S k fuel listed a w rs) : AllK P md ops Q S k fuel listed a w (i :: rs) := fun j hj => by
  rcases List.mem_cons.1 hj with rfl | hj
  · exact wpOp_step ho (fun K' hK => h K' (fun a w hS hW => hK a w ⟨hS, hW⟩))
  · exact hs j hj
theorem anyK_ready {rs : List Nat} {fuel : Nat} {listed : Array Bool} {a : Act} {w : World} (hr : Region.ready md ops listed = rs) (hne : rs ≠ [])
    (h : AllK P md ops Q S k fuel listed a w rs) : anyK P md ops Q S k (fuel + 1) listed a w :=
  ⟨fun h0 => absurd (hr.symm.trans h0) hne, fun i hi => h i (by rw [← hr]; exact hi)⟩
end
end Go.Proofs.YtbhmhkimddjhaaaDoor
