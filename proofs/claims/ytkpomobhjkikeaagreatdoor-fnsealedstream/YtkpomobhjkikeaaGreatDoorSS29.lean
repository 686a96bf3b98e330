import Derived.Test.YtkpomobhjkikeaaGreatDoorSS25
import Derived.Test.YtkpomobhjkikeaaGreatDoorSS28
import Derived.OrdersIn
namespace Go.Proofs.YtkpomobhjkikeaaGreatDoor
set_option maxRecDepth 100000
open Go Go.RowKit
section
variable {P : Program} {ops : Array Oper} {Q : Exit → Act → World → Prop} {n l : Nat} {md : Region.Mode} {a0 : Act}
theorem any_in (hq : ¬ LetsOut Q) (hd : ∀ (i : Nat) o, ops[i]? = some o → ∀ c, o.op ≠ .defer c) : ∀ (fuel : Nat) (listed : Array Bool) (a : Act) (w : World), wpAny P md ops Q fuel listed a w → wpAnyIn (Fence.wide.inRound l) n P md ops Q fuel listed a w
  | 0, _, _, _, h => h
  | fuel + 1, listed, a, w, h => by
    refine ⟨h.1, fun i hi => ?_⟩
    have k := h.2 i hi
    unfold wpOp at k
    unfold wpOpIn
    split
    · rename_i ho
      simp only [ho] at k
      exact any_in hq hd fuel _ _ _ k
    · rename_i o ho
      simp only [ho] at k
      split
      · rename_i hw
        simp only [hw, if_true] at k
        rcases k with k | k
        · exact op_in (hd i o ho) (Oper.wp_mono (fun a' w' h' => any_in hq hd fuel _ a' w' h') k)
        · exact absurd k.2 hq
      · rename_i hw
        simp only [hw] at k
        exact ⟨fun _ _ => trivial, any_in hq hd fuel _ _ _ k⟩
theorem any_of_facts {w : World} (k : Nat) (F : Nat → Fact) (hT : textOk .any ops a0.tmps.size k = true) (steps : ∀ i, i < k → StepOk P .any ops Q F a0 w i)
    (fin : ∀ a w', Based ops a0 a → Below w.heap.size w w' → (∀ i o d, i < k → ops[i]? = some o → o.dst = some d → (F i).p (a.tmps.getD d undef) w') →
      match ops[k]? with
      | none => Q .normal a w'
      | some o => o.wp P a w' (fun a' w'' => Q .normal a' w'') Q) : wpAny P .any ops Q ops.size (Array.replicate ops.size false) a0 { w with drawn := w.drawn + 1 } := by
  have T := text_of hT
  refine any_facts (w0 := w) T (Nat.le_refl _) steps fin ops.size _ a0 _ ?_ ⟨⟨rfl, rfl, fun _ _ => rfl⟩, (Below.refl _ _).drew, ?_, ?_, by simp⟩ ?_
  · have : ∀ m, left (Array.replicate ops.size false) m ≤ m := by
      intro m
      induction m with
      | zero => exact Nat.le_refl _
      | succ m ih => unfold left; split <;> omega
    exact this _
  · intro i o d ho hl _
    rw [Array.getD_eq_getD_getElem?, Array.getElem?_replicate] at hl
    split at hl <;> simp at hl
  · intro i o ho hl
    rw [Array.getD_eq_getD_getElem?, Array.getElem?_replicate] at hl
    split at hl <;> simp at hl
  · rw [Array.getD_eq_getD_getElem?, Array.getElem?_replicate]
    split <;> rfl
theorem region_store_in {id : Nat} {w : World} (k : Nat) (o : Oper) (F : Nat → Fact) (hm : P.follows .mixedOrders = true) (hq : ¬ LetsOut Q) (hnd : noDefer ops.toList = true) (hT : textOk .any ops a0.tmps.size k = true) (hk : ops[k]? = some o) (hd : o.dst = none) (steps : ∀ i, i < k → StepOk P .any ops Q F a0 w i)
    (fin : ∀ a w', Based ops a0 a → Below w.heap.size w w' → Full ops F a w' → o.wp P a w' (fun a' w'' => Q .normal a' w'') Q) : (Code.region id ops true).wpIn (Fence.wide.inRound l) n P Q a0 w := by
  refine wpIn_region_any hm (any_in hq (fun i o ho c e => ?_) _ _ _ _ (any_of_facts k F hT steps fun a w' hb hw hf => ?_))
  · have := List.all_eq_true.1 hnd o (by rw [← Array.getElem?_toList] at ho; exact List.mem_of_getElem? ho)
    rw [e] at this
    simp at this
  rw [hk]
  refine fin a w' hb hw fun i d hi => ?_
  unfold writes at hi
  cases ho : ops[i]? with
  | none => rw [ho] at hi; simp at hi
  | some oi =>
    rw [ho] at hi
    have hi' : oi.dst = some d := by simpa using hi
    have T := text_of hT
    refine hf i oi d ?_ ho hi'
    have h1 := (Array.getElem?_eq_some_iff.1 ho).1
    have h2 := T.k2
    rcases Nat.lt_or_ge i k with h | h
    · exact h
    · obtain rfl : i = k := by omega
      obtain rfl := Option.some.inj (hk.symm.trans ho)
      rw [hd] at hi'
      simp at hi'
end
end Go.Proofs.YtkpomobhjkikeaaGreatDoor
