import Derived.Test.YtjjoimlnpbelpaaGK12
import Derived.Maps.RangeWalk

/-
  Windows that are asked: the book of marks as a list of entries. No Go in it but how an entry reads.
-/
namespace Go.Proofs.Ytjjoimlnpbelpaa
open Go Go.RowKit Go.Maps

structure Ent where
  id : List Int
  pl : Int
  un : Int
set_option maxRecDepth 100000 in
def EntOk (e : Ent) : Prop := e.id.length = 32 ∧ Byt e.id
set_option maxRecDepth 100000 in
def pmD (p u : Int) : DataW Unit := .agg [.lit (.int .i64 p), .lit (.int .i64 u)]
set_option maxRecDepth 100000 in
def pmV (p u : Int) : Value := .agg #[.int .i64 p, .int .i64 u]
set_option maxRecDepth 100000 in
def pmR : Value → Option (DataW Unit × List MemPlace)
  | .agg ⟨[.int .i64 p, .int .i64 u]⟩ => some (pmD p u, [])
  | _ => none
set_option maxRecDepth 100000 in
theorem pmR_mk (p u : Int) : pmR (pmV p u) = some (pmD p u, []) := rfl
set_option maxRecDepth 100000 in
theorem pmR_inv {v : Value} {y : DataW Unit × List MemPlace} (h : pmR v = some y) : ∃ p u, v = pmV p u ∧ y = (pmD p u, []) := by
  unfold pmR at h
  split at h
  · exact ⟨_, _, rfl, (Option.some.inj h).symm⟩
  · cases h
set_option maxRecDepth 100000 in
theorem pmD_inj {p u p' u' : Int} (h : pmD p u = pmD p' u') : p = p' ∧ u = u' := by
  unfold pmD at h
  injection h with h
  injection h with h1 h2
  injection h2 with h2 _
  injection h1 with h1
  injection h2 with h2
  injection h1 with _ h1
  injection h2 with _ h2
  exact ⟨h1, h2⟩
/-- The map reads as these entries. -/
structure Bk (D : DataW Unit) (E : List Ent) : Prop where
  ok : ∀ e ∈ E, EntOk e
  ap : E.Pairwise (fun x y => x.id ≠ y.id)
  ks : ∀ kl, Maps.has D kl = true → ∃ e ∈ E, kl = keyL e.id
  hs : ∀ e ∈ E, Maps.has D (keyL e.id) = true
  at' : ∀ e ∈ E, ∀ z, D.atKey (keyL e.id) z = pmD e.pl e.un
set_option maxRecDepth 100000 in
theorem entKey {e : Ent} (h : EntOk e) : keyOf Try.prog 58 (idV e.id) = some (keyL e.id) := keyL_some h.1 h.2
set_option maxRecDepth 100000 in
theorem entLit {e : Ent} (h : EntOk e) : WideAt.IsKeyLit (keyL e.id) := keyL_key h.1 h.2
set_option maxRecDepth 100000 in
theorem entInj {e f : Ent} (h : EntOk e) (k : EntOk f) (he : keyL e.id = keyL f.id) : e.id = f.id := keyL_inj h.1 h.2 k.1 k.2 he
set_option maxRecDepth 100000 in
theorem Bk.keys {D : DataW Unit} {E : List Ent} (h : Bk D E) : (E.map fun e => keyL e.id).Nodup := by
  refine List.pairwise_map.2 ?_
  refine h.ap.imp_of_mem fun {x y} hx hy ne e => ne (entInj (h.ok x hx) (h.ok y hy) e)
set_option maxRecDepth 100000 in
theorem Bk.size {D : DataW Unit} {E : List Ent} (h : Bk D E) {w : World} {b n : Nat} {R : Value → Option (DataW Unit × List MemPlace)} (o : w.ownsMap Try.prog 58 R b n D) : Maps.size D = E.length := by
  obtain ⟨es, rfl, ap, key⟩ := o.entries lawK
  have hA : (es.map (·.1)).Nodup := List.pairwise_map.2 ap
  have e := ((List.perm_ext_iff_of_nodup hA h.keys).2 fun x => ?_).length_eq
  · rw [size_eq]
    simpa using e
  · constructor
    · intro hx
      obtain ⟨p, hp, rfl⟩ := List.mem_map.1 hx
      obtain ⟨e, he, ek⟩ := h.ks p.1 (by rw [has_eq, List.any_eq_true]; exact ⟨p, hp, WideAt.sameKey_self (key p hp)⟩)
      rw [ek]
      exact List.mem_map.2 ⟨e, he, rfl⟩
    · intro hx
      obtain ⟨e, he, rfl⟩ := List.mem_map.1 hx
      have := h.hs e he
      rw [has_eq, List.any_eq_true] at this
      obtain ⟨p, hp, hs⟩ := this
      exact List.mem_map.2 ⟨p, hp, WideAt.sameKey_eq hs⟩
set_option maxRecDepth 100000 in
/-- Keys that are held against each other. -/
theorem same_iff {e f : Ent} (h : EntOk e) (k : EntOk f) : (keyL e.id).sameKey (keyL f.id) = true ↔ e.id = f.id := by
  constructor
  · intro s
    exact entInj h k (WideAt.sameKey_eq s)
  · intro q
    rw [q]
    exact WideAt.sameKey_self (entLit k)
/-- While entries are looked through: those that stay, or are still to come. -/
structure Fg (E : List Ent) (now : Int) (left : Lit → Bool) (D : DataW Unit) : Prop where
  lf : ∀ kl, left kl = true → ∃ e ∈ E, kl = keyL e.id
  ks : ∀ kl, Maps.has D kl = true → ∃ e ∈ E, kl = keyL e.id
  hs : ∀ e ∈ E, Maps.has D (keyL e.id) = true ↔ (left (keyL e.id) = true ∨ now ≤ e.un)
  at' : ∀ e ∈ E, Maps.has D (keyL e.id) = true → ∀ z, D.atKey (keyL e.id) z = pmD e.pl e.un
set_option maxRecDepth 100000 in
theorem Bk.fg {D : DataW Unit} {E : List Ent} (h : Bk D E) (now : Int) : Fg E now (Maps.has D) D := ⟨h.ks, h.ks, fun e he => ⟨fun x => .inl x, fun _ => h.hs e he⟩, fun e he _ => h.at' e he⟩
set_option maxRecDepth 100000 in
/-- An entry that has come stays. -/
theorem Fg.stay {E : List Ent} {now : Int} {left : Lit → Bool} {D : DataW Unit} (h : Fg E now left D) (ok : ∀ e ∈ E, EntOk e) (ap : E.Pairwise (fun x y => x.id ≠ y.id)) {e : Ent} (he : e ∈ E) (hn : now ≤ e.un) : Fg E now (fun z => left z && !z.sameKey (keyL e.id)) D := by
  refine ⟨fun kl hl => h.lf kl (by simp at hl; exact hl.1), h.ks, fun f hf => ?_, h.at'⟩
  rw [h.hs f hf]
  constructor
  · rintro (x | x)
    · by_cases q : f.id = e.id
      · refine .inr ?_
        have : f = e := by
          rcases List.pairwise_iff_getElem.1 ap with _
          obtain ⟨i, hi, ei⟩ := List.getElem_of_mem hf
          obtain ⟨j, hj, ej⟩ := List.getElem_of_mem he
          rcases Nat.lt_trichotomy i j with l | l | l
          · exact absurd (by rw [ei, ej]; exact q) (List.pairwise_iff_getElem.1 ap i j hi hj l)
          · subst l; rw [← ei, ej]
          · exact absurd (by rw [ei, ej]; exact q.symm) (List.pairwise_iff_getElem.1 ap j i hj hi l)
        rw [this]
        exact hn
      · refine .inl ?_
        have : (keyL f.id).sameKey (keyL e.id) = false := by
          cases hs : (keyL f.id).sameKey (keyL e.id) with
          | false => rfl
          | true => exact absurd ((same_iff (ok f hf) (ok e he)).1 hs) q
        simp [x, this]
    · exact .inr x
  · rintro (x | x)
    · simp at x
      exact .inl x.1
    · exact .inr x
set_option maxRecDepth 100000 in
/-- An entry that has come is struck. -/
theorem Fg.strike {E : List Ent} {now : Int} {left : Lit → Bool} {D : DataW Unit} (h : Fg E now left D) (ok : ∀ e ∈ E, EntOk e) {e : Ent} (he : e ∈ E) (hn : e.un < now) (ap : E.Pairwise (fun x y => x.id ≠ y.id)) : Fg E now (fun z => left z && !z.sameKey (keyL e.id)) (D.del (keyL e.id)) := by
  have un : ∀ f ∈ E, f.id = e.id → f = e := fun f hf q => by
    obtain ⟨i, hi, ei⟩ := List.getElem_of_mem hf
    obtain ⟨j, hj, ej⟩ := List.getElem_of_mem he
    rcases Nat.lt_trichotomy i j with l | l | l
    · exact absurd (by rw [ei, ej]; exact q) (List.pairwise_iff_getElem.1 ap i j hi hj l)
    · subst l; rw [← ei, ej]
    · exact absurd (by rw [ei, ej]; exact q.symm) (List.pairwise_iff_getElem.1 ap j i hj hi l)
  have ne : ∀ f ∈ E, f.id ≠ e.id → keyL f.id ≠ keyL e.id := fun f hf q x => q (entInj (ok f hf) (ok e he) x)
  refine ⟨fun kl hl => h.lf kl (by simp at hl; exact hl.1), fun kl hk => ?_, fun f hf => ?_, fun f hf hk z => ?_⟩
  · by_cases q : kl = keyL e.id
    · exact ⟨e, he, q⟩
    · rw [has_del_other q] at hk
      exact h.ks kl hk
  · by_cases q : f.id = e.id
    · obtain rfl := un f hf q
      rw [has_del_same]
      constructor
      · intro x
        cases x
      · rintro (x | x)
        · simp [WideAt.sameKey_self (entLit (ok f hf))] at x
        · omega
    · rw [has_del_other (ne f hf q), h.hs f hf]
      have sk : (keyL f.id).sameKey (keyL e.id) = false := by
        cases hs : (keyL f.id).sameKey (keyL e.id) with
        | false => rfl
        | true => exact absurd ((same_iff (ok f hf) (ok e he)).1 hs) q
      simp [sk]
  · by_cases q : f.id = e.id
    · obtain rfl := un f hf q
      rw [has_del_same] at hk
      cases hk
    · rw [has_del_other (ne f hf q)] at hk
      rw [atKey_del_other (ne f hf q)]
      exact h.at' f hf hk z
set_option maxRecDepth 100000 in
/-- What is left when all have come. -/
theorem Fg.all {E : List Ent} {now : Int} {left : Lit → Bool} {D : DataW Unit} (h : Fg E now left D) (ok : ∀ e ∈ E, EntOk e) (ap : E.Pairwise (fun x y => x.id ≠ y.id)) (hl : ∀ kl, left kl = false) : Bk D (E.filter fun e => decide (now ≤ e.un)) := by
  refine ⟨fun e he => ok e (List.mem_filter.1 he).1, ap.filter _, fun kl hk => ?_, fun e he => ?_, fun e he z => ?_⟩
  · obtain ⟨e, he, rfl⟩ := h.ks kl hk
    rcases (h.hs e he).1 hk with x | x
    · rw [hl] at x
      cases x
    · exact ⟨e, List.mem_filter.2 ⟨he, by simpa using x⟩, rfl⟩
  · have := List.mem_filter.1 he
    exact (h.hs e this.1).2 (.inr (by simpa using this.2))
  · have := List.mem_filter.1 he
    exact h.at' e this.1 ((h.hs e this.1).2 (.inr (by simpa using this.2))) z
set_option maxRecDepth 100000 in
/-- One entry more. -/
theorem Bk.put {D : DataW Unit} {E : List Ent} (h : Bk D E) (m : IsMap D) {e : Ent} (he : EntOk e) (hn : Maps.has D (keyL e.id) = false) : Bk (D.put (keyL e.id) (pmD e.pl e.un)) (E ++ [e]) := by
  have ne : ∀ f ∈ E, keyL f.id ≠ keyL e.id := fun f hf q => by
    have := h.hs f hf
    rw [q, hn] at this
    cases this
  refine ⟨fun f hf => ?_, ?_, fun kl hk => ?_, fun f hf => ?_, fun f hf z => ?_⟩
  · rcases List.mem_append.1 hf with q | q
    · exact h.ok f q
    · simp at q
      subst q
      exact he
  · rw [List.pairwise_append]
    exact ⟨h.ap, List.pairwise_singleton _ _, fun x hx y hy q => by
      simp at hy
      subst hy
      exact ne x hx (by rw [q])⟩
  · by_cases q : kl = keyL e.id
    · exact ⟨e, by simp, q⟩
    · rw [has_put_other q] at hk
      obtain ⟨f, hf, rfl⟩ := h.ks kl hk
      exact ⟨f, by simp [hf], rfl⟩
  · rcases List.mem_append.1 hf with q | q
    · rw [has_put_other (ne f q)]
      exact h.hs f q
    · simp at q
      subst q
      exact has_put_same m (entLit he) _
  · rcases List.mem_append.1 hf with q | q
    · rw [atKey_put_other (ne f q)]
      exact h.at' f q z
    · simp at q
      subst q
      exact atKey_put_same m (entLit he) _ z
set_option maxRecDepth 100000 in
/-- Whether an id is in the book. -/
theorem Bk.has_iff {D : DataW Unit} {E : List Ent} (h : Bk D E) {x : List Int} (hx : x.length = 32) (bx : Byt x) : Maps.has D (keyL x) = true ↔ ∃ e ∈ E, e.id = x := by
  constructor
  · intro k
    obtain ⟨e, he, q⟩ := h.ks _ k
    exact ⟨e, he, (keyL_inj hx bx (h.ok e he).1 (h.ok e he).2 q).symm⟩
  · rintro ⟨e, he, rfl⟩
    exact h.hs e he
end Go.Proofs.Ytjjoimlnpbelpaa
