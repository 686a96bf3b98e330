import Derived.Test.YtingekgcjnkljaaGW8
import Derived.Maps.RangeWalk

/-
  Windows that are asked: the book of marks as a list of entries. No Go in it but how an entry reads.
-/
namespace Go.Proofs.Ytingekgcjnkljaa
open Go Go.RowKit Go.Maps

structure Ent where
  id : List Int
  pl : Int
  un : Int
set_option maxRecDepth 100000 in
def EntOk (e : Ent) : Prop := e.id.length = 32 ∧ Byt e.id
set_option maxRecDepth 100000 in
def pmD (p u : Int) : DataW Unit := .agg [.lit (.int .i64 p), .lit (.int .i64 u)]
set_option maxRecDepth 100000 in
def pmV (p u : Int) : Value := .agg #[.int .i64 p, .int .i64 u]
set_option maxRecDepth 100000 in
def pmR : Value → Option (DataW Unit × List MemPlace)
  | .agg ⟨[.int .i64 p, .int .i64 u]⟩ => some (pmD p u, [])
  | _ => none
set_option maxRecDepth 100000 in
theorem pmR_mk (p u : Int) : pmR (pmV p u) = some (pmD p u, []) := rfl
set_option maxRecDepth 100000 in
theorem pmR_inv {v : Value} {y : DataW Unit × List MemPlace} (h : pmR v = some y) : ∃ p u, v = pmV p u ∧ y = (pmD p u, []) := by
  unfold pmR at h
  split at h
  · exact ⟨_, _, rfl, (Option.some.inj h).symm⟩
  · cases h
set_option maxRecDepth 100000 in
theorem pmD_inj {p u p' u' : Int} (h : pmD p u = pmD p' u') : p = p' ∧ u = u' := by
  unfold pmD at h
  injection h with h
  injection h with h1 h2
  injection h2 with h2 _
  injection h1 with h1
  injection h2 with h2
  injection h1 with _ h1
  injection h2 with _ h2
  exact ⟨h1, h2⟩
/-- The map reads as these entries. -/
structure Bk (D : DataW Unit) (E : List Ent) : Prop where
  ok : ∀ e ∈ E, EntOk e
  ap : E.Pairwise (fun x y => x.id ≠ y.id)
  ks : ∀ kl, Maps.has D kl = true → ∃ e ∈ E, kl = keyL e.id
  hs : ∀ e ∈ E, Maps.has D (keyL e.id) = true
  at' : ∀ e ∈ E, ∀ z, D.atKey (keyL e.id) z = pmD e.pl e.un
set_option maxRecDepth 100000 in
theorem entKey {e : Ent} (h : EntOk e) : keyOf Try.prog 56 (idV e.id) = some (keyL e.id) := keyL_some h.1 h.2
set_option maxRecDepth 100000 in
theorem entLit {e : Ent} (h : EntOk e) : WideAt.IsKeyLit (keyL e.id) := keyL_key h.1 h.2
set_option maxRecDepth 100000 in
theorem entInj {e f : Ent} (h : EntOk e) (k : EntOk f) (he : keyL e.id = keyL f.id) : e.id = f.id := keyL_inj h.1 h.2 k.1 k.2 he
set_option maxRecDepth 100000 in
theorem Bk.keys {D : DataW Unit} {E : List Ent} (h : Bk D E) : (E.map fun e => keyL e.id).Nodup := by
  refine List.pairwise_map.2 ?_
  refine h.ap.imp_of_mem fun {x y} hx hy ne e => ne (entInj (h.ok x hx) (h.ok y hy) e)
set_option maxRecDepth 100000 in
theorem Bk.size {D : DataW Unit} {E : List Ent} (h : Bk D E) {w : World} {b n : Nat} {R : Value → Option (DataW Unit × List MemPlace)} (o : w.ownsMap Try.prog 56 R b n D) : Maps.size D = E.length := by
  obtain ⟨es, rfl, ap, key⟩ := o.entries lawK
  have hA : (es.map (·.1)).Nodup := List.pairwise_map.2 ap
  have e := ((List.perm_ext_iff_of_nodup hA h.keys).2 fun x => ?_).length_eq
  · rw [size_eq]
    simpa using e
  · constructor
    · intro hx
      obtain ⟨p, hp, rfl⟩ := List.mem_map.1 hx
      obtain ⟨e, he, ek⟩ := h.ks p.1 (by rw [has_eq, List.any_eq_true]; exact ⟨p, hp, WideAt.sameKey_self (key p hp)⟩)
      rw [ek]
      exact List.mem_map.2 ⟨e, he, rfl⟩
    · intro hx
      obtain ⟨e, he, rfl⟩ := List.mem_map.1 hx
      have := h.hs e he
      rw [has_eq, List.any_eq_true] at this
      obtain ⟨p, hp, hs⟩ := this
      exact List.mem_map.2 ⟨p, hp, WideAt.sameKey_eq hs⟩
set_option maxRecDepth 100000 in
/-- Keys that are held against each other. -/
theorem same_iff {e f : Ent} (h : EntOk e) (k : EntOk f) : (keyL e.id).sameKey (keyL f.id) = true ↔ e.id = f.id := by
  constructor
  · intro s
    exact entInj h k (WideAt.sameKey_eq s)
  · intro q
    rw [q]
    exact WideAt.sameKey_self (entLit k)
/-- While entries are looked through: those that stay, or are still to come. -/
structure Fg (E : List Ent) (now : Int) (left : Lit → Bool) (D : DataW Unit) : Prop where
  lf : ∀ kl, left kl = true → ∃ e ∈ E, kl = keyL e.id
  ks : ∀ kl, Maps.has D kl = true → ∃ e ∈ E, kl = keyL e.id
  hs : ∀ e ∈ E, Maps.has D (keyL e.id) = true ↔ (left (keyL e.id) = true ∨ now ≤ e.un)
  at' : ∀ e ∈ E, Maps.has D (keyL e.id) = true → ∀ z, D.atKey (keyL e.id) z = pmD e.pl e.un
set_option maxRecDepth 100000 in
theorem Bk.fg {D : DataW Unit} {E : List Ent} (h : Bk D E) (now : Int) : Fg E now (Maps.has D) D := ⟨h.ks, h.ks, fun e he => ⟨fun x => .inl x, fun _ => h.hs e he⟩, fun e he _ => h.at' e he⟩
set_option maxRecDepth 100000 in
/-- An entry that has come stays. -/
theorem Fg.stay {E : List Ent} {now : Int} {left : Lit → Bool} {D : DataW Unit} (h : Fg E now left D) (ok : ∀ e ∈ E, EntOk e) (ap : E.Pairwise (fun x y => x.id ≠ y.id)) {e : Ent} (he : e ∈ E) (hn : now ≤ e.un) : Fg E now (fun z => left z && !z.sameKey (keyL e.id)) D := by
  refine ⟨fun kl hl => h.lf kl (by simp at hl; exact hl.1), h.ks, fun f hf => ?_, h.at'⟩
  rw [h.hs f hf]
  constructor
  · rintro (x | x)
    · by_cases q : f.id = e.id
      · refine .inr ?_
        have : f = e := by
          rcases List.pairwise_iff_getElem.1 ap with _
          obtain ⟨i, hi, ei⟩ := List.getElem_of_mem hf
          obtain ⟨j, hj, ej⟩ := List.getElem_of_mem he
          rcases Nat.lt_trichotomy i j with l | l | l
          · exact absurd (by rw [ei, ej]; exact q) (List.pairwise_iff_getElem.1 ap i j hi hj l)
          · subst l; rw [← ei, ej]
          · exact absurd (by rw [ei, ej]; exact q.symm) (List.pairwise_iff_getElem.1 ap j i hj hi l)
        rw [this]
        exact hn
      · refine .inl ?_
        have : (keyL f.id).sameKey (keyL e.id) = false := by
          cases hs : (keyL f.id).sameKey (keyL e.id) with
          | false => rfl
          | true => exact absurd ((same_iff (ok f hf) (ok e he)).1 hs) q
        simp [x, this]
    · exact .inr x
  · rintro (x | x)
    · simp at x
      exact .inl x.1
    · exact .inr x
set_option maxRecDepth 100000 in
/-- An entry that has come is struck. -/
theorem Fg.strike {E : List Ent} {now : Int} {left : Lit → Bool} {D : DataW Unit} (h : Fg E now left D) (ok : ∀ e ∈ E, EntOk e) {e : Ent} (he : e ∈ E) (hn : e.un < now) (ap : E.Pairwise (fun x y => x.id ≠ y.id)) : Fg E now (fun z => left z && !z.sameKey (keyL e.id)) (D.del (keyL e.id)) := by
  have un : ∀ f ∈ E, f.id = e.id → f = e := fun f hf q => by
    obtain ⟨i, hi, ei⟩ := List.getElem_of_mem hf
    obtain ⟨j, hj, ej⟩ := List.getElem_of_mem he
    rcases Nat.lt_trichotomy i j with l | l | l
    · exact absurd (by rw [ei, ej]; exact q) (List.pairwise_iff_getElem.1 ap i j hi hj l)
    · subst l; rw [← ei, ej]
    · exact absurd (by rw [ei, ej]; exact q.symm) (List.pairwise_iff_getElem.1 ap j i hj hi l)
  have ne : ∀ f ∈ E, f.id ≠ e.id → keyL f.id ≠ keyL e.id := fun f hf q x => q (entInj (ok f hf) (ok e he) x)
  refine ⟨fun kl hl => h.lf kl (by simp at hl; exact hl.1), fun kl hk => ?_, fun f hf => ?_, fun f hf hk z => ?_⟩
  · by_cases q : kl = keyL e.id
    · exact ⟨e, he, q⟩
    · rw [has_del_other q] at hk
      exact h.ks kl hk
  · by_cases q : f.id = e.id
    · obtain rfl := un f hf q
      rw [has_del_same]
      constructor
      · intro x
        cases x
      · rintro (x | x)
        · simp [WideAt.sameKey_self (entLit (ok f hf))] at x
        · omega
    · rw [has_del_other (ne f hf q), h.hs f hf]
      have sk : (keyL f.id).sameKey (keyL e.id) = false := by
        cases hs : (keyL f.id).sameKey (keyL e.id) with
        | false => rfl
        | true => exact absurd ((same_iff (ok f hf) (ok e he)).1 hs) q
      simp [sk]
  · by_cases q : f.id = e.id
    · obtain rfl := un f hf q
      rw [has_del_same] at hk
      cases hk
    · rw [has_del_other (ne f hf q)] at hk
      rw [atKey_del_other (ne f hf q)]
      exact h.at' f hf hk z
set_option maxRecDepth 100000 in
/-- What is left when all have come. -/
theorem Fg.all {E : List Ent} {now : Int} {left : Lit → Bool} {D : DataW Unit} (h : Fg E now left D) (ok : ∀ e ∈ E, EntOk e) (ap : E.Pairwise (fun x y => x.id ≠ y.id)) (hl : ∀ kl, left kl = false) : Bk D (E.filter fun e => decide (now ≤ e.un)) := by
  refine ⟨fun e he => ok e (List.mem_filter.1 he).1, ap.filter _, fun kl hk => ?_, fun e he => ?_, fun e he z => ?_⟩
  · obtain ⟨e, he, rfl⟩ := h.ks kl hk
    rcases (h.hs e he).1 hk with x | x
    · rw [hl] at x
      cases x
    · exact ⟨e, List.mem_filter.2 ⟨he, by simpa using x⟩, rfl⟩
  · have := List.mem_filter.1 he
    exact (h.hs e this.1).2 (.inr (by simpa using this.2))
  · have := List.mem_filter.1 he
    exact h.at' e this.1 ((h.hs e this.1).2 (.inr (by simpa using this.2))) z
set_option maxRecDepth 100000 in
/-- One entry more. -/
theorem Bk.put {D : DataW Unit} {E : List Ent} (h : Bk D E) (m : IsMap D) {e : Ent} (he : EntOk e) (hn : Maps.has D (keyL e.id) = false) : Bk (D.put (keyL e.id) (pmD e.pl e.un)) (E ++ [e]) := by
  have ne : ∀ f ∈ E, keyL f.id ≠ keyL e.id := fun f hf q => by
    have := h.hs f hf
    rw [q, hn] at this
    cases this
  refine ⟨fun f hf => ?_, ?_, fun kl hk => ?_, fun f hf => ?_, fun f hf z => ?_⟩
  · rcases List.mem_append.1 hf with q | q
    · exact h.ok f q
    · simp at q
      subst q
      exact he
  · rw [List.pairwise_append]
    exact ⟨h.ap, List.pairwise_singleton _ _, fun x hx y hy q => by
      simp at hy
      subst hy
      exact ne x hx (by rw [q])⟩
  · by_cases q : kl = keyL e.id
    · exact ⟨e, by simp, q⟩
    · rw [has_put_other q] at hk
      obtain ⟨f, hf, rfl⟩ := h.ks kl hk
      exact ⟨f, by simp [hf], rfl⟩
  · rcases List.mem_append.1 hf with q | q
    · rw [has_put_other (ne f q)]
      exact h.hs f q
    · simp at q
      subst q
      exact has_put_same m (entLit he) _
  · rcases List.mem_append.1 hf with q | q
    · rw [atKey_put_other (ne f q)]
      exact h.at' f q z
    · simp at q
      subst q
      exact atKey_put_same m (entLit he) _ z
set_option maxRecDepth 100000 in
/-- Whether an id is in the book. -/
theorem Bk.has_iff {D : DataW Unit} {E : List Ent} (h : Bk D E) {x : List Int} (hx : x.length = 32) (bx : Byt x) : Maps.has D (keyL x) = true ↔ ∃ e ∈ E, e.id = x := by
  constructor
  · intro k
    obtain ⟨e, he, q⟩ := h.ks _ k
    exact ⟨e, he, (keyL_inj hx bx (h.ok e he).1 (h.ok e he).2 q).symm⟩
  · rintro ⟨e, he, rfl⟩
    exact h.hs e he
end Go.Proofs.Ytingekgcjnkljaa

/-
  Windows that are asked: the program's book, with what it holds (written by gens/wab.py out of KwD).
-/
namespace Go.Proofs.Ytingekgcjnkljaa
open Go Go.RowKit Go.Maps

set_option maxRecDepth 100000 in
def bkP (ms : List Mrk) : Nat → DataW Unit
  | 0 => .map []
  | k + 1 => (bkP ms k).put (keyL (ms.getD k mrk0).id) (pmD (k : Int) (ms.getD k mrk0).un)
set_option maxRecDepth 100000 in
theorem bkP_step {ms : List Mrk} {k : Nat} (_ : k < ms.length) : bkP ms (k + 1) = (bkP ms k).put (keyL (ms.getD k mrk0).id) (pmD (k : Int) (ms.getD k mrk0).un) := rfl
set_option maxRecDepth 100000 in
theorem bkP_same {ms : List Mrk} (h32 : ∀ i, i < ms.length → (ms.getD i mrk0).id.length = 32) (hb : ∀ i, i < ms.length → Byt (ms.getD i mrk0).id) : ∀ k, k ≤ ms.length → Tidy (bkP ms k) ∧ Tidy (bkD ms k) ∧ (∀ kl, Maps.has (bkP ms k) kl = Maps.has (bkD ms k) kl) ∧ Maps.size (bkP ms k) = Maps.size (bkD ms k)
  | 0, _ => ⟨tidy_empty, tidy_empty, fun _ => rfl, rfl⟩
  | k + 1, hk => by
    obtain ⟨t1, t2, hh, hs⟩ := bkP_same h32 hb k (by omega)
    have hl := keyL_key (h32 k (by omega)) (hb k (by omega))
    rw [bkP_step (by omega), bkD_step (by omega)]
    refine ⟨t1.put hl _, t2.put hl _, fun kl => ?_, ?_⟩
    · by_cases e : kl = keyL (ms.getD k mrk0).id
      · rw [e, has_put_same t1.isMap hl, has_put_same t2.isMap hl]
      · rw [has_put_other e, has_put_other e, hh]
    · rw [size_put t1, size_put t2, hh, hs]
set_option maxRecDepth 100000 in
theorem bkP_size {ms : List Mrk} (h32 : ∀ i, i < ms.length → (ms.getD i mrk0).id.length = 32) (hb : ∀ i, i < ms.length → Byt (ms.getD i mrk0).id) : (IdOk ms → Maps.size (bkP ms ms.length) = ms.length) ∧ (¬ IdOk ms → Maps.size (bkP ms ms.length) < ms.length) := by
  rw [(bkP_same h32 hb ms.length (Nat.le_refl _)).2.2.2]
  exact bk_size h32 hb
set_option maxRecDepth 100000 in
/-- The entries of a window's first marks. -/
def entsTo (ms : List Mrk) (k : Nat) : List Ent := (List.range k).map fun (i : Nat) => ⟨(ms.getD i mrk0).id, (i : Int), (ms.getD i mrk0).un⟩
set_option maxRecDepth 100000 in
theorem bkP_bk {ms : List Mrk} (ok : IdOk ms) (hb : ∀ i, i < ms.length → Byt (ms.getD i mrk0).id) : ∀ k, k ≤ ms.length → Bk (bkP ms k) (entsTo ms k)
  | 0, _ => ⟨fun _ h => absurd h (by simp [entsTo]), by simp [entsTo], fun kl h => by simp [bkP, has_eq] at h, fun _ h => absurd h (by simp [entsTo]), fun _ h => absurd h (by simp [entsTo])⟩
  | k + 1, hk => by
    have h := bkP_bk ok hb k (by omega)
    have t := (bkP_same (fun i hi => (ok i hi).1) hb k (by omega)).1
    have e : entsTo ms (k + 1) = entsTo ms k ++ [⟨(ms.getD k mrk0).id, (k : Int), (ms.getD k mrk0).un⟩] := by
      unfold entsTo
      rw [List.range_succ, List.map_append]
      rfl
    rw [e, bkP_step (by omega)]
    refine h.put (e := ⟨(ms.getD k mrk0).id, (k : Int), (ms.getD k mrk0).un⟩) t.isMap ⟨(ok k (by omega)).1, hb k (by omega)⟩ ?_
    cases hs : Maps.has (bkP ms k) (keyL (ms.getD k mrk0).id) with
    | false => rfl
    | true =>
      obtain ⟨f, hf, q⟩ := (h.has_iff (ok k (by omega)).1 (hb k (by omega))).1 hs
      unfold entsTo at hf
      obtain ⟨j, hj, rfl⟩ := List.mem_map.1 hf
      exact absurd q.symm ((ok k (by omega)).2 j (by simpa using hj))
set_option maxRecDepth 100000 in
theorem ownP {w w' : World} {b n : Nat} {D : DataW Unit} (h : w.ownsMap Try.prog 56 pmR b n D) (m : Below w.heap.size w w') : w'.ownsMap Try.prog 56 pmR b n D := by
  obtain ⟨es, clock, hb, h⟩ := h
  exact ⟨es, clock, (m.block b (Array.getElem?_eq_some_iff.1 hb).1).trans hb, h⟩
set_option maxRecDepth 100000 in
set_option maxHeartbeats 8000000 in
theorem bookP_any (w : World) (wd : Int) (g : Nat) (a : Option Addr) (c : Nat) (ms : List Mrk) (ps : List Plm) (hr : RdK w g a ms ps) (hb : ∀ i, i < ms.length → Byt (ms.getD i mrk0).id) :
    Calls Try.prog 22 #[.agg #[.int .i64 wd, .slice a ms.length c]] w fun e w' => (∃ v, e = .returned (.tuple #[v, .int .i64 (wfV wd ms)]) ∧ (wfV wd ms = 0 → ∃ b, v = .map (some b) ∧ w.heap.size ≤ b ∧ w'.ownsMap Try.prog 56 pmR b ms.length (bkP ms ms.length))) ∧ Below w.heap.size w w' := by
  have n1 : Below w.heap.size w (w.alloc (.cells #[.int .i64 wd, .slice a ms.length c] 25)) := (Below.refl _ _).alloc (Nat.le_refl _) _
  have IW := hide (fun W => isWidth_any W wd)
  have P0 : RwC (w.alloc (.cells #[.int .i64 wd, .slice a ms.length c] 25)) w.heap.size [.int .i64 wd, .slice a ms.length c] 25 := RwC.new w _ _
  have c0 : (w.alloc (.cells #[.int .i64 wd, .slice a ms.length c] 25)).cell? ⟨w.heap.size, 0, none⟩ = some (.int .i64 wd) := P0.cell 0
  have c1 : (w.alloc (.cells #[.int .i64 wd, .slice a ms.length c] 25)).cell? ⟨w.heap.size, 1, none⟩ = some (.slice a ms.length c) := P0.cell 1
  have hr1 := hr.up n1
  have V1 := hide (fun h => wfV1 (wd := wd) (ms := ms) h)
  have V2 := hide (fun h l => wfV2 (wd := wd) (ms := ms) h l)
  have V3 := hide (fun h l i => wfV3 (wd := wd) (ms := ms) h l i)
  have V4 := hide (fun h l i u => wfV4 (wd := wd) (ms := ms) h l i u)
  have V0 := hide (fun h l i u => wfV0 (wd := wd) (ms := ms) h l i u)
  generalize wfV wd ms = R at *
  have N1 := hide n1
  have HB := hide hb
  have HR := hide hr1
  have PB := hide P0
  have hmm := @run_makeMap Try.prog
  clear P0 hr n1 hb hr1
  generalize hwo : wdO wd = wo at *
  go_enter Try.func22, Try.ntmps22
  go_wp2_with fail
  generalize w.alloc (.cells #[.int .i64 wd, .slice a ms.length c] 25) = wa at *
  refine (IW.out _).mono ?_
  rintro e w1 ⟨rfl, hw⟩
  have hw := hw.symm
  subst hw
  clear IW
  cases wo with
  | false =>
    have hv := hide (V1.out rfl)
    clear V1 V2 V3 V4 V0 hwo
    go_wp2
    go_ret2
    exact ⟨⟨.map none, by rw [hv.out]; rfl, fun h => absurd (hv.out.symm.trans h) (by decide)⟩, N1.out⟩
  | true =>
  by_cases h1 : 64 < ms.length
  · have hv := hide (V2.out (by decide) h1)
    have t1 : (64 : Int) < (ms.length : Int) := by omega
    clear V1 V2 V3 V4 V0 hwo
    go_wp2
    go_ret2
    exact ⟨⟨.map none, by rw [hv.out]; rfl, fun h => absurd (hv.out.symm.trans h) (by decide)⟩, N1.out⟩
  have t1 : ¬ (64 : Int) < (ms.length : Int) := by omega
  have W3 := hide (fun i => V3.out (by decide) h1 i)
  have W4 := hide (fun i u => V4.out (by decide) h1 i u)
  have W0 := hide (fun i u => V0.out (by decide) h1 i u)
  clear V1 V2 V3 V4 V0 hwo
  have MM := World.ownsMap_made wa Try.prog 56 pmR
  have NM : Below wa.heap.size wa (wa.alloc (.map #[] 0)) := (Below.refl _ _).alloc (Nat.le_refl _) _
  have c1' : (wa.alloc (.map #[] 0)).cell? ⟨w.heap.size, 1, none⟩ = some (.slice a ms.length c) := (NM.cell (block_lt_of_cell c1)).trans c1
  go_wp2
  go_loopw [19, 5, 6] (fun i _ _ wr => ∃ (k : Nat), k ≤ ms.length ∧ i = .int .i64 k ∧ wr.ownsMap Try.prog 56 pmR wa.heap.size k (bkP ms k) ∧ Below wa.heap.size wa wr ∧ ∀ i, i < k → (ms.getD i mrk0).id.length = 32) (fun i _ _ _ => ms.length - (intOf i).toNat)
  case atStart => exact ⟨0, Nat.zero_le _, rfl, MM, NM, fun i hi => absurd hi (by omega)⟩
  case round =>
    obtain ⟨k, hk, rfl, hown, hN, hall⟩ := hrel
    clear MM NM c1'
    by_cases hlt : k < ms.length
    · have hrk := (HR.out.up hN)
      obtain ⟨off, rfl, hc⟩ := hrk.r (by omega)
      have t0 : (k : Int) < (ms.length : Int) := by omega
      have d1 := (hc k hlt).1
      have d2 := (hc k hlt).2
      have hgl := block_lt_of_cell d1
      have rk := hrk.b k hlt
      have bk := HB.out k hlt
      have BS := hide (bkP_step hlt)
      have H3 : Hid ((ms.getD k mrk0).id.length ≠ 32 → R = 3) := fun h => W3.out fun hI => h (hI k hlt).1
      have HALL : Hid ((ms.getD k mrk0).id.length = 32 → ∀ i, i < k + 1 → (ms.getD i mrk0).id.length = 32) := fun h i hi => by
        by_cases e : i = k
        · subst e
          exact h
        · exact hall i (by omega)
      clear hc hall hrk
      generalize (ms.getD k mrk0).id = x at *
      generalize (ms.getD k mrk0).un = un at *
      generalize (ps.getD k plm0).a = pa at *
      generalize (ps.getD k plm0).c = pc at *
      generalize (ps.getD k plm0).q = pq at *
      have HN := hide hN
      have HO := hide hown
      have RK := hide rk
      have BK := hide bk
      clear hN hown rk bk
      by_cases h32 : x.length = 32
      rotate_left
      · have hv := hide (H3.out h32)
        have t2 : ((x.length : Int) == 32) = false := beq_eq_false_iff_ne.2 (by omega)
        have NB : Hid (Below w.heap.size w (wr.alloc (.cells #[.slice pa x.length pc, .int .i64 un] 36))) := by
          have := N1.out.size
          have := HN.out.size
          exact (N1.out.trans (HN.out.mono N1.out.size)).alloc (by omega) _
        generalize x.length = m at *
        clear H3 HALL W3 W4 W0 BS
        go_wp2
        go_ret2
        exact ⟨⟨.map none, by rw [hv.out]; rfl, fun h => absurd (hv.out.symm.trans h) (by decide)⟩, NB.out⟩
      have t2 : ((x.length : Int) == 32) = true := by rw [h32]; rfl
      have HL := hide h32
      rw [h32] at d1 t2
      clear h32 H3
      have PM : RwC (wr.alloc (.cells #[.slice pa 32 pc, .int .i64 un] 36)) wr.heap.size [.slice pa 32 pc, .int .i64 un] 36 := RwC.new wr _ _
      have nm : Below wr.heap.size wr (wr.alloc (.cells #[.slice pa 32 pc, .int .i64 un] 36)) := (Below.refl _ _).alloc (Nat.le_refl _) _
      have q0 : (wr.alloc (.cells #[.slice pa 32 pc, .int .i64 un] 36)).cell? ⟨wr.heap.size, 0, none⟩ = some (.slice pa 32 pc) := PM.cell 0
      have q1 : (wr.alloc (.cells #[.slice pa 32 pc, .int .i64 un] 36)).cell? ⟨wr.heap.size, 1, none⟩ = some (.int .i64 un) := PM.cell 1
      obtain ⟨o, rfl, hx⟩ := RK.out.up nm (by rw [HL.out]; decide)
      have RG : World.rangeAt (wr.alloc (.cells #[.slice (some ⟨pq, o, none⟩) 32 pc, .int .i64 un] 36)) pq o (x.map (Value.int .u8)) := fun j v hj => by
        have hj' : j < x.length := by
          have := (List.getElem?_eq_some_iff.1 hj).1
          simpa using this
        rw [hx j hj']
        rw [List.getElem?_map, List.getElem?_eq_getElem hj'] at hj
        rw [← hj, List.getD_eq_getElem?_getD, List.getElem?_eq_getElem hj']
        rfl
      have HG := hide RG
      have OM := hide (HO.out.alloc (.cells #[.slice (some ⟨pq, o, none⟩) 32 pc, .int .i64 un] 36))
      have NM := hide (nxt HN.out nm)
      clear hx RG PM nm HO HN RK
      go_upto_region 11 with fail
      generalize wr.alloc (.cells #[.slice (some ⟨pq, o, none⟩) 32 pc, .int .i64 un] 36) = wm at *
      generalize wr.heap.size = q at *
      refine region_store 9 _ (fun i => [Fact.eq (.map (some wa.heap.size)), Fact.eq (.pointer (some ⟨q, 0, none⟩)), Fact.eq (.slice (some ⟨pq, o, none⟩) 32 pc), Fact.eq (.pointer (some ⟨pq, o, none⟩)), Fact.eq (idV x), Fact.eq (.int .i64 (k : Int)), Fact.eq (.pointer (some ⟨q, 1, none⟩)), Fact.eq (.int .i64 un), Fact.eq (.agg #[.int .i64 (k : Int), .int .i64 un])].getD i Fact.no) (by kernel_rfl) (by kernel_rfl) rfl rfl ?_ ?_
      · intro i hi
        obtain rfl | rfl | rfl | rfl | rfl | rfl | rfl | rfl | rfl : i = 0 ∨ i = 1 ∨ i = 2 ∨ i = 3 ∨ i = 4 ∨ i = 5 ∨ i = 6 ∨ i = 7 ∨ i = 8 := by omega
        · refine step_pure rfl fun A ww hb hw hf => ?_
          have e1 : A.tmps[4]?.getD undef = .map (some wa.heap.size) := gdv (hb.2.2 4 (by kernel_rfl))
          exact ⟨.map (some wa.heap.size), by simp [go_sem, e1], rfl⟩
        · refine step_pure rfl fun A ww hb hw hf => ?_
          have e1 : A.tmps[6]?.getD undef = .pointer (some ⟨q, 0, none⟩) := gdv (hb.2.2 6 (by kernel_rfl))
          exact ⟨.pointer (some ⟨q, 0, none⟩), by simp [go_sem, e1], rfl⟩
        · refine step_pure rfl fun A ww hb hw hf => ?_
          have e1 : A.tmps[29]?.getD undef = .pointer (some ⟨q, 0, none⟩) := gdv (hf 1 29 (by kernel_rfl))
          have qq := (hw.cell (block_lt_of_cell q0)).trans q0
          exact ⟨.slice (some ⟨pq, o, none⟩) 32 pc, by simp [go_sem, e1, qq], rfl⟩
        · refine step_pure rfl fun A ww hb hw hf => ?_
          have e1 : A.tmps[30]?.getD undef = .slice (some ⟨pq, o, none⟩) 32 pc := gdv (hf 2 30 (by kernel_rfl))
          have ra := run_arrayAt (P := Try.prog) (w := ww) 56 5 32 (some ⟨pq, o, none⟩) 32 pc uId (by decide)
          exact ⟨.pointer (some ⟨pq, o, none⟩), by simp [go_sem, e1, ra], rfl⟩
        · refine step_load rfl 56 (.tmp 31) rfl _ 32 uId rfl (by kernel_rfl) fun A ww hb hw hf => ⟨pq, o, x.map (Value.int .u8), hf 3 31 (by kernel_rfl), rangeK HG.out hw, by rw [List.length_map, HL.out], rfl⟩
        · refine step_pure rfl fun A ww hb hw hf => ?_
          have e1 : A.tmps[5]?.getD undef = .int .i64 (k : Int) := gdv (hb.2.2 5 (by kernel_rfl))
          exact ⟨.int .i64 (k : Int), by simp [go_sem, e1], rfl⟩
        · refine step_pure rfl fun A ww hb hw hf => ?_
          have e1 : A.tmps[6]?.getD undef = .pointer (some ⟨q, 0, none⟩) := gdv (hb.2.2 6 (by kernel_rfl))
          exact ⟨.pointer (some ⟨q, 1, none⟩), by simp [go_sem, e1], rfl⟩
        · refine step_pure rfl fun A ww hb hw hf => ?_
          have e1 : A.tmps[34]?.getD undef = .pointer (some ⟨q, 1, none⟩) := gdv (hf 6 34 (by kernel_rfl))
          have qq := (hw.cell (block_lt_of_cell q1)).trans q1
          exact ⟨.int .i64 un, by simp [go_sem, e1, qq], rfl⟩
        · refine step_pure rfl fun A ww hb hw hf => ?_
          have e1 : A.tmps[33]?.getD undef = .int .i64 (k : Int) := gdv (hf 5 33 (by kernel_rfl))
          have e2 : A.tmps[35]?.getD undef = .int .i64 un := gdv (hf 7 35 (by kernel_rfl))
          exact ⟨.agg #[.int .i64 (k : Int), .int .i64 un], by simp [go_sem, e1, e2], rfl⟩
      intro A W hb' hw hF
      have e28 := hF 0 28 (by kernel_rfl)
      have e32 := hF 4 32 (by kernel_rfl)
      have e36 := hF 8 36 (by kernel_rfl)
      have OW : W.ownsMap Try.prog 56 pmR wa.heap.size k (bkP ms k) := ownP OM.out hw
      obtain ⟨w', hrun, ho', hg⟩ := OW.update lawK Try.underlying47 (by unfold maxLen; omega) (keyL_some HL.out BK.out) (val := .agg #[.int .i64 (k : Int), .int .i64 un]) (d := pmD (k : Int) un) (ps := []) rfl
      have em : A.eval (.tmp 28) = .map (some wa.heap.size) := e28
      have ex : A.eval (.tmp 32) = idV x := e32
      have ev : A.eval (.tmp 36) = .agg #[.int .i64 (k : Int), .int .i64 un] := e36
      have NW : Hid (Below wa.heap.size wa w') := by
        have n := nxt NM.out hw
        exact n.grown hg n.size (fun j hj => by cases hj; exact Nat.le_refl _)
      have OF : Hid (w'.ownsMap Try.prog 56 pmR wa.heap.size (k + 1) (bkP ms (k + 1))) := by show World.ownsMap _ _ _ _ _ _ _; rw [BS.out]; exact ho'
      have AL := hide (HALL.out HL.out)
      obtain ⟨vs, hvs⟩ : ∃ vs : Nat → Value, ∀ d, A.tmps.getD d undef = vs d := ⟨_, fun _ => rfl⟩
      have ep := puts_of (md := .any) (k := 9) (by kernel_rfl) rfl hb' vs hvs
      unfold Oper.wp
      simp [execOp, em, ex, ev, hrun, Result.andThen]
      unfold Oper.upon
      rw [ep]
      clear ep hb' hF e28 e32 e36 em ex ev hvs OW hrun ho' hg hw BS HALL
      simp only [puts, Act.put, List.setIfInBounds_toArray, List.set_cons_succ, List.set_cons_zero]
      go_wp2
      go_roundw
      case rel => exact ⟨k + 1, by omega, by go_num, OF.out, NW.out, AL.out⟩
      case measure => simp [intOf]; omega
    · obtain rfl : k = ms.length := by omega
      have BZ := hide (bkP_size hall HB.out)
      have cc : wr.cell? ⟨w.heap.size, 1, none⟩ = some (.slice a ms.length c) := (hN.cell (block_lt_of_cell c1)).trans c1
      have UC := hide (untilContains_any wr g a c ms ps (HR.out.up hN) (by omega))
      have NN := hide (N1.out.trans (hN.mono N1.out.size))
      have HO := hide hown
      clear hall hN
      by_cases ok : IdOk ms
      rotate_left
      · have hv := hide (W3.out ok)
        have lt := BZ.out.2 ok
        have t3 : ((Maps.size (bkP ms ms.length) : Nat) : Int) < (ms.length : Int) := by omega
        have OW := HO.out
        clear W3 W4 W0 BZ ok lt
        generalize bkP ms ms.length = D at *
        go_wp2_with (first | (at_len; refine wpList_len_own (H := Unit) _ rfl (.tmp 38) 47 rfl 56 53 Try.underlying47 pmR wa.heap.size ms.length D rfl OW ?_) | fail)
        go_ret2
        exact ⟨⟨.map none, by rw [hv.out]; rfl, fun h => absurd (hv.out.symm.trans h) (by decide)⟩, NN.out⟩
      · have es := BZ.out.1 ok
        have OW := HO.out
        have X4 := hide (fun u => W4.out ok u)
        have X0 := hide (fun u => W0.out ok u)
        clear W3 W4 W0 BZ ok
        generalize hD : bkP ms ms.length = D at *
        have HD := hide hD
        clear hD
        generalize utA ms = u at *
        go_wp2_with (first | (at_len; refine wpList_len_own (H := Unit) _ rfl (.tmp 38) 47 rfl 56 53 Try.underlying47 pmR wa.heap.size ms.length D rfl OW ?_; rw [es]) | fail)
        refine UC.out.mono ?_
        rintro e w2 ⟨rfl, n2⟩
        have N2 := hide (nxt NN.out n2)
        have HO2 := hide (ownP HO.out n2)
        clear UC n2 NN HO OW es
        cases u with
        | true =>
          have hv := hide (X4.out rfl)
          clear X4 X0
          go_wp2
          go_ret2
          exact ⟨⟨.map none, by rw [hv.out]; rfl, fun h => absurd (hv.out.symm.trans h) (by decide)⟩, N2.out⟩
        | false =>
          have hv := hide (X0.out rfl)
          clear X4 X0
          go_wp2
          go_ret2
          exact ⟨⟨.map (some wa.heap.size), by rw [hv.out]; rfl, fun _ => ⟨wa.heap.size, rfl, N1.out.size, by rw [HD.out]; exact HO2.out⟩⟩, N2.out⟩
end Go.Proofs.Ytingekgcjnkljaa
