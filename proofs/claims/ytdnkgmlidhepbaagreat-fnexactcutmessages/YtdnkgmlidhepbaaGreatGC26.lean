import Derived.Test.YtdnkgmlidhepbaaGreatGCxMhA
import Derived.Test.YtdnkgmlidhepbaaGreatGCxMhB
import Derived.Test.YtdnkgmlidhepbaaGreatGCxMhE
import Derived.Test.YtdnkgmlidhepbaaGreatGC25
import Derived.Test.YtdnkgmlidhepbaaGreatGCxRg3
namespace Go.Proofs.YtdnkgmlidhepbaaGreat
open Go Go.RowKit
theorem specMF_any (w : World) (p : MQ) (m : Msg) (h : HasM w p m) (i : IsM m) :
    Calls Tryz.prog 20 #[.agg (mgV p m)] w fun e w' => e = .returned (.int .i64 (mfF m)) ∧ Below w.heap.size w w' := by
  rw [mf_eq]
  obtain ⟨k, v, r, s, ho, pr, ti, ag, ea, bi, rs, ce, pf⟩ := m
  exact specMF_walk w k v ag ea p.a2 p.a3 p.a5 p.a6 p.a9 p.a11 p.a12 r.length s.length pr.length ti.length bi.length pf.length p.c2 p.c3 p.c5 p.c6 p.c9 p.c11 p.c12 ho rs ce p.g11 p.ps _ _ _ _ _ _
    (fun W => l13Known_any W k)
    (fun W => l13Extra_any W k v ag ea p.a2 p.a3 p.a5 p.a6 p.a9 p.a11 p.a12 r.length s.length pr.length ti.length bi.length ce.length pf.length p.c2 p.c3 p.c5 p.c6 p.c9 p.c11 p.c12 ho rs)
    (fun W => l13Sizes_any W k v ag ea p.a2 p.a3 p.a5 p.a6 p.a9 p.a11 p.a12 r.length s.length pr.length ti.length bi.length ce.length pf.length p.c2 p.c3 p.c5 p.c6 p.c9 p.c11 p.c12 ho rs)
    (fun W => specNameFault_any W ho (Nat.le_trans i.hoL (by decide)))
    (fun W n => l13Protocols_any W p.g5 p.a5 p.c5 pr 8 (h.pr.up n) i.prL (by decide) i.prZ)
    (fun W n => l13Protocols_any W p.g5 p.a5 p.c5 pr 1 (h.pr.up n) i.prL (by decide) i.prZ)
    h.ce i.ceZ i.tiL i.ceL
end Go.Proofs.YtdnkgmlidhepbaaGreat
namespace Go.Proofs.YtdnkgmlidhepbaaGreat
open Go Go.RowKit
theorem specEnc_any (w : World) (p : MQ) (m : Msg) (h : HasM w p m) (i : IsM m) (z : HasZ p m) :
    Calls Tryz.prog 22 #[.agg (mgV p m)] w (BodP w (encF m)) :=
  specEnc_walk w p m h i z fun W hW => specMF_any W p m hW i
end Go.Proofs.YtdnkgmlidhepbaaGreat
namespace Go.Proofs.YtdnkgmlidhepbaaGreat
open Go Go.RowKit
section
variable {P : Program} {ops : Array Oper} {Q : Exit → Act → World → Prop} {md : Region.Mode} {F : Nat → Fact} {a0 : Act} {w0 : World}
def textEnd (md : Region.Mode) (ops : Array Oper) (n : Nat) : Bool :=
  (ops.all fun o => match o.dst with | some d => decide (d < n) | none => true)
  && ((List.range ops.size).all fun i => match ops[i]? with
    | some o => o.after.all (fun e => !Region.binds md e || decide (e.on < i)) && (List.range i).all fun j => match ops[j]? with
      | some x => x.dst.isNone || o.dst != x.dst
      | none => true
    | none => true)
structure TextE (md : Region.Mode) (ops : Array Oper) (n : Nat) : Prop where
  d : ∀ (i : Nat) o d, ops[i]? = some o → o.dst = some d → d < n
  a : ∀ (i : Nat) o, ops[i]? = some o → ∀ e ∈ o.after, Region.binds md e = true → e.on < i
  x : ∀ (i j : Nat) o o' d, ops[i]? = some o → ops[j]? = some o' → i ≠ j → o.dst = some d → o'.dst ≠ some d
theorem textE_of {n : Nat} (h : textEnd md ops n = true) : TextE md ops n := by
  unfold textEnd at h
  simp only [Bool.and_eq_true] at h
  obtain ⟨h1, h2⟩ := h
  rw [Array.all_eq_true_iff_forall_mem] at h1
  rw [List.all_eq_true] at h2
  have H : ∀ (i j : Nat) o o' d, j < i → ops[i]? = some o → ops[j]? = some o' → o.dst = some d → o'.dst ≠ some d := by
    intro i j o o' d hij hi hj hd hd'
    have q := h2 i (List.mem_range.2 (Array.getElem?_eq_some_iff.1 hi).1)
    simp only [hi, Bool.and_eq_true] at q
    have r := List.all_eq_true.1 q.2 j (List.mem_range.2 hij)
    simp only [hj, hd, hd'] at r
    simp at r
  refine ⟨?_, ?_, ?_⟩
  · intro i o d ho hd
    have q := h1 o (Array.mem_of_getElem? ho)
    simpa [hd] using q
  · intro i o ho e he hb
    have q := h2 i (List.mem_range.2 (Array.getElem?_eq_some_iff.1 ho).1)
    simp only [ho, Bool.and_eq_true] at q
    have r := (Array.all_eq_true_iff_forall_mem.1 q.1) e he
    rw [hb] at r
    simpa using r
  · intro i j o o' d hi hj hij hd hd'
    rcases Nat.lt_or_gt_of_ne hij with h | h
    · exact H j i o' o d h hj hi hd' hd
    · exact H i j o o' d h hi hj hd hd'
theorem Held.nextE {n : Nat} (T : TextE md ops n) (hn : n ≤ a0.tmps.size) {listed : Array Bool} {a : Act} {w : World} (H : Held md ops F a0 w0 listed a w) {i : Nat} {o : Oper} (ho : ops[i]? = some o) (hr : i ∈ Region.ready md ops listed)
    {v : Value} {w' : World} (hw : Below w.heap.size w w') (hf : (F i).p v w') : Held md ops F a0 w0 (listed.setIfInBounds i true) (a.put o.dst v) w' := by
  have hi : i < ops.size := (Array.getElem?_eq_some_iff.1 ho).1
  have hz : a.tmps.size = a0.tmps.size := H.b.2.1
  refine ⟨⟨by rw [put_defers]; exact H.b.1, by rw [put_size]; exact hz, fun d hd => ?_⟩, nxt H.n hw, ?_, ?_, by simp [H.s]⟩
  · rw [put_off]
    · exact H.b.2.2 d hd
    · have q := Array.all_eq_true_iff_forall_mem.1 hd o (Array.mem_of_getElem? ho)
      simpa using q
  · intro j oj d hoj hj hd
    by_cases e : i = j
    · subst e
      obtain rfl := Option.some.inj (ho.symm.trans hoj)
      rw [hd, put_at (Nat.lt_of_lt_of_le (T.d i o d ho hd) (hz ▸ hn))]
      exact hf
    · rw [getD_off e] at hj
      rw [put_off (T.x j i oj o d hoj ho (Ne.symm e) hd)]
      exact (F j).up hw (H.f j oj d hoj hj hd)
  · intro j oj hoj hj e he hb
    obtain ⟨_, o', ho', q⟩ := mem_ready.1 hr
    by_cases c : i = e.on
    · rw [← c]
      exact getD_same (by rw [H.s]; exact hi) _
    · rw [getD_off c]
      by_cases e' : i = j
      · subst e'
        obtain rfl := Option.some.inj (ho'.symm.trans hoj)
        exact q e he hb
      · rw [getD_off e'] at hj
        exact H.c j oj hoj hj e he hb
theorem wanted_none {o : Oper} {a : Act} (h : o.guard = none) : Region.wanted o (yielded ops a.tmps) = true := by simp [Region.wanted, h]
theorem wanted_some {o : Oper} {a : Act} {g d : Nat} {v : Bool} (h : o.guard = some (g, v)) (hd : writes ops g d = true) (e : a.tmps.getD d undef = .bool v) : Region.wanted o (yielded ops a.tmps) = true := by
  obtain ⟨og, ho, hd'⟩ := writes_is hd
  have e1 : a.tmps[d]? = some (.bool v) := by
    rw [Array.getD_eq_getD_getElem?] at e
    cases hq : a.tmps[d]? with
    | none => rw [hq] at e; simp [undef] at e
    | some x => rw [hq] at e; simpa using e
  simp [Region.wanted, h, yielded, ho, hd', e1]
theorem puts_guard {n : Nat} (hT : textEnd md ops n = true) (hn : n = a0.tmps.size) {a : Act} (hb : Based ops a0 a) (vs : Nat → Value) (hv : ∀ d, a.tmps.getD d undef = vs d) : a = puts vs a0 ops.toList := by
  have T := textE_of hT
  have hin : ∀ o ∈ ops.toList, ∀ e, o.dst = some e → e < a0.tmps.size := fun o ho e he => by
    obtain ⟨i, hi⟩ := List.getElem?_of_mem ho
    have := T.d i o e (by simpa using hi) he
    rw [hn] at this
    exact this
  obtain ⟨s1, s2⟩ := puts_size vs ops.toList a0
  obtain ⟨ta, da⟩ := a
  obtain ⟨h1, h2, h3⟩ := hb
  have e1 : ta = (puts vs a0 ops.toList).tmps := by
    apply Array.ext
    · rw [s1]; exact h2
    · intro i hi hi'
      have g := puts_get vs i ops.toList a0 hin
      have l : ta[i] = ta.getD i undef := by simp [Array.getD_eq_getD_getElem?, hi]
      have r : (puts vs a0 ops.toList).tmps[i] = (puts vs a0 ops.toList).tmps.getD i undef := by simp only [Array.getD_eq_getD_getElem?, Array.getElem?_eq_getElem hi', Option.getD_some]
      rw [l, r, g]
      by_cases c : ops.toList.any (fun o => o.dst == some i) = true
      · rw [if_pos c]; exact hv i
      · rw [if_neg c]
        refine h3 i ?_
        unfold apart
        rw [Array.all_eq_true_iff_forall_mem]
        intro o ho
        have hne : ¬ (o.dst == some i) = true := fun x => c (List.any_eq_true.2 ⟨o, by simpa using ho, x⟩)
        simpa using hne
  have e2 : da = (puts vs a0 ops.toList).defers := h1.trans s2.symm
  subst e1
  subst e2
  rfl
end
end Go.Proofs.YtdnkgmlidhepbaaGreat
namespace Go.Proofs.YtdnkgmlidhepbaaGreat
open Go Go.RowKit
section
variable {P : Program} {ops : Array Oper} {Q : Exit → Act → World → Prop} {md : Region.Mode} {F : Nat → Fact} {a0 : Act} {w0 : World}
theorem any_endW {n : Nat} {wn : Nat → Bool} (T : TextE md ops n) (hn : n ≤ a0.tmps.size) (steps : ∀ i, i < ops.size → wn i = true → StepOk P md ops Q F a0 w0 i)
    (hg : ∀ i o, ops[i]? = some o → ∀ (a : Act) (w : World), (∀ j d, waits md ops i j d = true → (F j).p (a.tmps.getD d undef) w) → (wn i = true ∧ Region.wanted o (yielded ops a.tmps) = true) ∨ (Region.wanted o (yielded ops a.tmps) = false ∧ (F i).p undef w))
    (fin : ∀ a w, Based ops a0 a → Below w0.heap.size w0 w → (∀ i o d, ops[i]? = some o → o.dst = some d → (F i).p (a.tmps.getD d undef) w) → Q .normal a w) :
    ∀ (fuel : Nat) (listed : Array Bool) (a : Act) (w : World), left listed ops.size ≤ fuel → Held md ops F a0 w0 listed a w → wpAny P md ops Q fuel listed a w := by
  have done : ∀ (fuel : Nat) (listed : Array Bool) (a : Act) (w : World), Held md ops F a0 w0 listed a w → (∀ i, i < ops.size → listed.getD i false = true) → wpAny P md ops Q fuel listed a w := by
    intro fuel listed a w H hall
    refine wpAny_done ?_ (fin a w H.b H.n (fun i o d ho hd => H.f i o d ho (hall i (Array.getElem?_eq_some_iff.1 ho).1) hd)) fuel
    cases hr : Region.ready md ops listed with
    | nil => rfl
    | cons i t =>
      exfalso
      have hi : i ∈ Region.ready md ops listed := by rw [hr]; simp
      obtain ⟨h0, o, ho, _⟩ := mem_ready.1 hi
      have hlt := (Array.getElem?_eq_some_iff.1 ho).1
      rw [dflt (by rw [H.s]; exact hlt), hall i hlt] at h0
      simp at h0
  intro fuel
  induction fuel with
  | zero =>
    intro listed a w hl H
    exact done 0 listed a w H fun i hi => by
      rw [← dflt (by rw [H.s]; exact hi)]
      exact left_zero (n := ops.size) (by omega) i hi
  | succ fuel ih =>
    intro listed a w hl H
    by_cases hall : ∀ i, i < ops.size → listed.getD i false = true
    · exact done _ listed a w H hall
    · refine ⟨fun hr => ?_, fun i hi => ?_⟩
      · exfalso
        refine hall fun j hj => ?_
        have : ∀ m i, i < m → i < ops.size → listed.getD i false = true := by
          intro m
          induction m with
          | zero => intro i hi; omega
          | succ m ihm =>
            intro i hi hik
            rcases Nat.lt_or_ge i m with h1 | h1
            · exact ihm i h1 hik
            · obtain rfl : i = m := by omega
              cases hc : listed.getD i false
              · exfalso
                obtain ⟨o, ho⟩ : ∃ o, ops[i]? = some o := ⟨ops[i], by simp [hik]⟩
                have hr' : i ∈ Region.ready md ops listed := mem_ready.2 ⟨by rw [dflt (by rw [H.s]; omega)]; exact hc, o, ho, fun e he hb => ihm e.on (T.a i o ho e he hb) (by have := T.a i o ho e he hb; omega)⟩
                rw [hr] at hr'
                simp at hr'
              · rfl
        exact this (j + 1) j (by omega) hj
      · obtain ⟨h0, o, ho, hready⟩ := mem_ready.1 hi
        have hlt := (Array.getElem?_eq_some_iff.1 ho).1
        have hfacts : ∀ j d, waits md ops i j d = true → (F j).p (a.tmps.getD d undef) w := by
          intro j d hjd
          unfold waits at hjd
          rw [ho] at hjd
          cases hoj : ops[j]? with
          | none => rw [hoj] at hjd; simp at hjd
          | some oj =>
            rw [hoj] at hjd
            simp only [Bool.and_eq_true, beq_iff_eq] at hjd
            obtain ⟨e, he, hb⟩ := Array.any_eq_true'.1 hjd.1
            simp only [Bool.and_eq_true, beq_iff_eq] at hb
            exact H.f j oj d hoj (by rw [← hb.2]; exact hready e he hb.1) hjd.2
        have hll := left_set (by rw [H.s]; exact hlt) h0 ops.size hlt
        refine wpOp_step ho fun K' hK => ?_
        rcases hg i o ho a w hfacts with ⟨hwn, hwant⟩ | ⟨hwant, hu⟩
        · rw [if_pos hwant]
          refine steps i hlt hwn o ho a w H.b H.n hfacts K' fun v w' hw hf => ?_
          exact hK _ _ (ih _ _ _ (by omega) (H.nextE T hn ho hi hw hf))
        · rw [if_neg (by rw [hwant]; decide)]
          exact hK _ _ (ih _ _ _ (by omega) (H.nextE T hn ho hi (Below.refl _ _) hu))
theorem region_guardW {id : Nat} {w : World} (wn : Nat → Bool) (F : Nat → Fact) (hm : P.follows .mixedOrders = true) (hT : textEnd .any ops a0.tmps.size = true) (steps : ∀ i, i < ops.size → wn i = true → StepOk P .any ops Q F a0 w i)
    (hg : ∀ i o, ops[i]? = some o → ∀ (a : Act) (w : World), (∀ j d, waits .any ops i j d = true → (F j).p (a.tmps.getD d undef) w) → (wn i = true ∧ Region.wanted o (yielded ops a.tmps) = true) ∨ (Region.wanted o (yielded ops a.tmps) = false ∧ (F i).p undef w))
    (fin : ∀ a W, Based ops a0 a → Below w.heap.size w W → (∀ i d, writes ops i d = true → (F i).p (a.tmps.getD d undef) W) → Q .normal a W) : (Code.region id ops true).wp P Q a0 w := by
  have T := textE_of hT
  have z : ∀ j, (Array.replicate ops.size false).getD j false = false := fun j => by
    rw [Array.getD_eq_getD_getElem?, Array.getElem?_replicate]
    split <;> rfl
  refine wp_region_any hm ?_
  refine any_endW (wn := wn) (w0 := w) T (Nat.le_refl _) steps hg (fun a W hb hw hf => fin a W hb hw (fun i d hd => ?_)) ops.size _ a0 _ ?_ ⟨⟨rfl, rfl, fun _ _ => rfl⟩, (Below.refl _ _).drew, ?_, ?_, by simp⟩
  · obtain ⟨o, ho, hd'⟩ := writes_is hd
    exact hf i o d ho hd'
  · have : ∀ m, left (Array.replicate ops.size false) m ≤ m := by
      intro m
      induction m with
      | zero => exact Nat.le_refl _
      | succ m ih => unfold left; split <;> omega
    exact this _
  · intro i o d ho hl _
    rw [z] at hl
    simp at hl
  · intro i o ho hl
    rw [z] at hl
    simp at hl
theorem wanted_off {o : Oper} {a : Act} {g d : Nat} {v b : Bool} (h : o.guard = some (g, v)) (hd : writes ops g d = true) (e : a.tmps.getD d undef = .bool b) (hne : b ≠ v) : Region.wanted o (yielded ops a.tmps) = false := by
  obtain ⟨og, ho, hd'⟩ := writes_is hd
  have e1 : a.tmps[d]? = some (.bool b) := by
    rw [Array.getD_eq_getD_getElem?] at e
    cases hq : a.tmps[d]? with
    | none => rw [hq] at e; simp [undef] at e
    | some x => rw [hq] at e; simpa using e
  cases b <;> cases v <;> simp_all [Region.wanted, yielded]
end
end Go.Proofs.YtdnkgmlidhepbaaGreat
