
/-
  The law by facts for a region that draws its order, with guarded operations of which it is known which are wanted. No program in sight.
-/
import Derived.Test.YtdgbioekofmekaaRg5
namespace Go.Proofs.Ytdgbioekofmekaa
open Go Go.RowKit

section
variable {P : Program} {ops : Array Oper} {Q : Exit → Act → World → Prop} {md : Region.Mode} {F : Nat → Fact} {a0 : Act} {w0 : World}

theorem any_endW {n : Nat} {wn : Nat → Bool} (T : TextE md ops n) (hn : n ≤ a0.tmps.size) (steps : ∀ i, i < ops.size → wn i = true → StepOk P md ops Q F a0 w0 i)
    (hg : ∀ i o, ops[i]? = some o → ∀ (a : Act) (w : World), (∀ j d, waits md ops i j d = true → (F j).p (a.tmps.getD d undef) w) → (wn i = true ∧ Region.wanted o (yielded ops a.tmps) = true) ∨ (Region.wanted o (yielded ops a.tmps) = false ∧ (F i).p undef w))
    (fin : ∀ a w, Based ops a0 a → Below w0.heap.size w0 w → (∀ i o d, ops[i]? = some o → o.dst = some d → (F i).p (a.tmps.getD d undef) w) → Q .normal a w) :
    ∀ (fuel : Nat) (listed : Array Bool) (a : Act) (w : World), left listed ops.size ≤ fuel → Held md ops F a0 w0 listed a w → wpAny P md ops Q fuel listed a w := by
  have done : ∀ (fuel : Nat) (listed : Array Bool) (a : Act) (w : World), Held md ops F a0 w0 listed a w → (∀ i, i < ops.size → listed.getD i false = true) → wpAny P md ops Q fuel listed a w := by
    intro fuel listed a w H hall
    refine wpAny_done ?_ (fin a w H.b H.n (fun i o d ho hd => H.f i o d ho (hall i (Array.getElem?_eq_some_iff.1 ho).1) hd)) fuel
    cases hr : Region.ready md ops listed with
    | nil => rfl
    | cons i t =>
      exfalso
      have hi : i ∈ Region.ready md ops listed := by rw [hr]; simp
      obtain ⟨h0, o, ho, _⟩ := mem_ready.1 hi
      have hlt := (Array.getElem?_eq_some_iff.1 ho).1
      rw [dflt (by rw [H.s]; exact hlt), hall i hlt] at h0
      simp at h0
  intro fuel
  induction fuel with
  | zero =>
    intro listed a w hl H
    exact done 0 listed a w H fun i hi => by
      rw [← dflt (by rw [H.s]; exact hi)]
      exact left_zero (n := ops.size) (by omega) i hi
  | succ fuel ih =>
    intro listed a w hl H
    by_cases hall : ∀ i, i < ops.size → listed.getD i false = true
    · exact done _ listed a w H hall
    · refine ⟨fun hr => ?_, fun i hi => ?_⟩
      · exfalso
        refine hall fun j hj => ?_
        have : ∀ m i, i < m → i < ops.size → listed.getD i false = true := by
          intro m
          induction m with
          | zero => intro i hi; omega
          | succ m ihm =>
            intro i hi hik
            rcases Nat.lt_or_ge i m with h1 | h1
            · exact ihm i h1 hik
            · obtain rfl : i = m := by omega
              cases hc : listed.getD i false
              · exfalso
                obtain ⟨o, ho⟩ : ∃ o, ops[i]? = some o := ⟨ops[i], by simp [hik]⟩
                have hr' : i ∈ Region.ready md ops listed := mem_ready.2 ⟨by rw [dflt (by rw [H.s]; omega)]; exact hc, o, ho, fun e he hb => ihm e.on (T.a i o ho e he hb) (by have := T.a i o ho e he hb; omega)⟩
                rw [hr] at hr'
                simp at hr'
              · rfl
        exact this (j + 1) j (by omega) hj
      · obtain ⟨h0, o, ho, hready⟩ := mem_ready.1 hi
        have hlt := (Array.getElem?_eq_some_iff.1 ho).1
        have hfacts : ∀ j d, waits md ops i j d = true → (F j).p (a.tmps.getD d undef) w := by
          intro j d hjd
          unfold waits at hjd
          rw [ho] at hjd
          cases hoj : ops[j]? with
          | none => rw [hoj] at hjd; simp at hjd
          | some oj =>
            rw [hoj] at hjd
            simp only [Bool.and_eq_true, beq_iff_eq] at hjd
            obtain ⟨e, he, hb⟩ := Array.any_eq_true'.1 hjd.1
            simp only [Bool.and_eq_true, beq_iff_eq] at hb
            exact H.f j oj d hoj (by rw [← hb.2]; exact hready e he hb.1) hjd.2
        have hll := left_set (by rw [H.s]; exact hlt) h0 ops.size hlt
        refine wpOp_step ho fun K' hK => ?_
        rcases hg i o ho a w hfacts with ⟨hwn, hwant⟩ | ⟨hwant, hu⟩
        · rw [if_pos hwant]
          refine steps i hlt hwn o ho a w H.b H.n hfacts K' fun v w' hw hf => ?_
          exact hK _ _ (ih _ _ _ (by omega) (H.nextE T hn ho hi hw hf))
        · rw [if_neg (by rw [hwant]; decide)]
          exact hK _ _ (ih _ _ _ (by omega) (H.nextE T hn ho hi (Below.refl _ _) hu))
/-- The same for the region. -/
theorem region_guardW {id : Nat} {w : World} (wn : Nat → Bool) (F : Nat → Fact) (hm : P.follows .mixedOrders = true) (hT : textEnd .any ops a0.tmps.size = true) (steps : ∀ i, i < ops.size → wn i = true → StepOk P .any ops Q F a0 w i)
    (hg : ∀ i o, ops[i]? = some o → ∀ (a : Act) (w : World), (∀ j d, waits .any ops i j d = true → (F j).p (a.tmps.getD d undef) w) → (wn i = true ∧ Region.wanted o (yielded ops a.tmps) = true) ∨ (Region.wanted o (yielded ops a.tmps) = false ∧ (F i).p undef w))
    (fin : ∀ a W, Based ops a0 a → Below w.heap.size w W → (∀ i d, writes ops i d = true → (F i).p (a.tmps.getD d undef) W) → Q .normal a W) : (Code.region id ops true).wp P Q a0 w := by
  have T := textE_of hT
  have z : ∀ j, (Array.replicate ops.size false).getD j false = false := fun j => by
    rw [Array.getD_eq_getD_getElem?, Array.getElem?_replicate]
    split <;> rfl
  refine wp_region_any hm ?_
  refine any_endW (wn := wn) (w0 := w) T (Nat.le_refl _) steps hg (fun a W hb hw hf => fin a W hb hw (fun i d hd => ?_)) ops.size _ a0 _ ?_ ⟨⟨rfl, rfl, fun _ _ => rfl⟩, (Below.refl _ _).drew, ?_, ?_, by simp⟩
  · obtain ⟨o, ho, hd'⟩ := writes_is hd
    exact hf i o d ho hd'
  · have : ∀ m, left (Array.replicate ops.size false) m ≤ m := by
      intro m
      induction m with
      | zero => exact Nat.le_refl _
      | succ m ih => unfold left; split <;> omega
    exact this _
  · intro i o d ho hl _
    rw [z] at hl
    simp at hl
  · intro i o ho hl
    rw [z] at hl
    simp at hl
theorem wanted_off {o : Oper} {a : Act} {g d : Nat} {v b : Bool} (h : o.guard = some (g, v)) (hd : writes ops g d = true) (e : a.tmps.getD d undef = .bool b) (hne : b ≠ v) : Region.wanted o (yielded ops a.tmps) = false := by
  obtain ⟨og, ho, hd'⟩ := writes_is hd
  have e1 : a.tmps[d]? = some (.bool b) := by
    rw [Array.getD_eq_getD_getElem?] at e
    cases hq : a.tmps[d]? with
    | none => rw [hq] at e; simp [undef] at e
    | some x => rw [hq] at e; simpa using e
  cases b <;> cases v <;> simp_all [Region.wanted, yielded]
end
end Go.Proofs.Ytdgbioekofmekaa
