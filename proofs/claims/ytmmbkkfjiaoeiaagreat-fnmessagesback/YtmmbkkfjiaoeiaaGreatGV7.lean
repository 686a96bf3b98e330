import Derived.RegionTactic
import Derived.Test.YtmmbkkfjiaoeiaaGreatGV1
import Derived.Deep.MidRow
import Derived.Test.YtmmbkkfjiaoeiaaGreatGV6
import Derived.Test.YtmmbkkfjiaoeiaaGreatGVxMgU0
import Derived.Deep.Cut
import Derived.Test.YtmmbkkfjiaoeiaaGreatGV2
import Derived.Lib.AppendStr
import Derived.Test.YtmmbkkfjiaoeiaaGreatGV3
import Derived.Lib.AppendZeros
namespace Go.Proofs.YtmmbkkfjiaoeiaaGreat
open Go Go.RowKit
structure Fact where
 p:Value→World→Prop
 up:∀ {v:Value} {w w':World},Below w.heap.size w w'→p v w→p v w'
section
variable {P : Program} {ops : Array Oper} {Q : Exit → Act → World → Prop} {md : Region.Mode} {F : Nat → Fact} {a0 : Act} {w0 : World}
def apart (ops:Array Oper) (d:Nat):Bool:=ops.all fun o=>o.dst != some d
def Based (ops:Array Oper) (a0 a:Act):Prop:=a.defers=a0.defers∧a.tmps.size=a0.tmps.size∧∀ d,apart ops d=true→a.tmps.getD d undef=a0.tmps.getD d undef
def waits (md:Region.Mode) (ops:Array Oper) (i j d:Nat):Bool :=
 match ops[i]?,ops[j]? with
 | some o,some oj=>o.after.any (fun e=>Region.binds md e && e.on == j) && oj.dst == some d
 | _,_=>false
def textOk (md : Region.Mode) (ops : Array Oper) (n k : Nat) : Bool :=
  (ops.all fun o=>o.guard.isNone && (match o.dst with | some d=>decide (d < n) | none=>true))
  && ((List.range ops.size).all fun i=>match ops[i]? with
    | some o => o.after.all (fun e => !Region.binds md e || decide (e.on < i)) && (List.range i).all fun j => match ops[j]? with
      | some x=>x.dst.isNone || o.dst != x.dst
      | none=>true
    | none=>true)
  && decide (k≤ops.size∧ops.size≤k+1)
  && (k == ops.size || (List.range k).all fun j=>(List.range (k+1)).any fun m=>decide (j < m) && match ops[m]? with
    | some o=>o.after.any (fun e=>Region.binds md e && e.on == j)
    | none=>false)
structure Held (md:Region.Mode) (ops:Array Oper) (F:Nat→Fact) (a0:Act) (w0:World) (listed:Array Bool) (a:Act) (w:World):Prop where
 b:Based ops a0 a
 n:Below w0.heap.size w0 w
 f:∀ i o d,ops[i]?=some o→listed.getD i false=true→o.dst=some d→(F i).p (a.tmps.getD d undef) w
 c:∀ i o,ops[i]?=some o→listed.getD i false=true→∀ e ∈ o.after,Region.binds md e=true→listed.getD e.on false=true
 s:listed.size=ops.size
def StepOk (P : Program) (md : Region.Mode) (ops : Array Oper) (Q : Exit → Act → World → Prop) (F : Nat → Fact) (a0 : Act) (w0 : World) (i : Nat) : Prop :=
 ∀ o, ops[i]? = some o → ∀ a w, Based ops a0 a → Below w0.heap.size w0 w → (∀ j d, waits md ops i j d = true → (F j).p (a.tmps.getD d undef) w) →
  ∀ K:Act→World→Prop,(∀ v w',Below w.heap.size w w'→(F i).p v w'→K (a.put o.dst v) w')→o.wp P a w K Q
def left (listed:Array Bool):Nat→Nat
 | 0=>0
 | n+1=>left listed n+if listed.getD n true=false then 1 else 0
theorem left_zero {listed:Array Bool}:∀ {n:Nat},left listed n=0→∀ i,i < n→listed.getD i true=true
  | 0,_,i,hi=>by omega
  | n + 1, h, i, hi => by
    unfold left at h
    rcases Nat.lt_or_ge i n with h1 | h1
    · exact left_zero (by omega) i h1
    · obtain rfl : i = n := by omega
      cases hc:listed.getD i true
      · rw [hc] at h;simp at h
      · rfl
theorem getD_same {listed:Array Bool} {i:Nat} (h:i < listed.size) (d:Bool):(listed.setIfInBounds i true).getD i d=true:=by
 simp [Array.getD_eq_getD_getElem?,h]
theorem getD_off {listed:Array Bool} {i j:Nat} (h:i≠j) (d:Bool):(listed.setIfInBounds i true).getD j d=listed.getD j d:=by
 simp [Array.getD_eq_getD_getElem?,h]
theorem left_le {listed:Array Bool} {i:Nat} (hi:i < listed.size):∀ n,left (listed.setIfInBounds i true) n≤left listed n
  | 0=>Nat.le_refl _
  | n + 1 => by
    unfold left
    have h:=left_le hi n
    by_cases e:i=n
    · subst e
      rw [getD_same hi]
      simp
      omega
    · rw [getD_off e]
      omega
theorem left_set {listed:Array Bool} {i:Nat} (hs:i < listed.size) (h:listed.getD i true=false):∀ n,i < n→left (listed.setIfInBounds i true) n+1≤left listed n
  | 0,hi=>by omega
  | n + 1, hi => by
    unfold left
    by_cases e:i=n
    · subst e
      rw [getD_same hs,h]
      have:=left_le hs i
      simp
      omega
    · rw [getD_off e]
      have:=left_set hs h n (by omega)
      omega
theorem dflt {listed:Array Bool} {i:Nat} (h:i < listed.size):listed.getD i true=listed.getD i false:=by
 simp [Array.getD_eq_getD_getElem?,h]
theorem put_at {a:Act} {d:Nat} {v:Value} (h:d < a.tmps.size):(a.put (some d) v).tmps.getD d undef=v:=by
 simp [Act.put,Array.getD_eq_getD_getElem?,h]
theorem put_off {a:Act} {dst:Option Tmp} {d:Nat} {v:Value} (h:dst≠some d):(a.put dst v).tmps.getD d undef=a.tmps.getD d undef:=by
  cases dst with
  | none=>rfl
  | some e =>
    have:e≠d:=fun x=>h (by rw [x])
    simp [Act.put,Array.getD_eq_getD_getElem?,this]
theorem put_size (a:Act) (dst:Option Tmp) (v:Value):(a.put dst v).tmps.size=a.tmps.size:=by
 cases dst <;> simp [Act.put]
theorem put_defers (a:Act) (dst:Option Tmp) (v:Value):(a.put dst v).defers=a.defers:=by
 cases dst <;> rfl
structure Text (md:Region.Mode) (ops:Array Oper) (n k:Nat):Prop where
 g:∀ (i:Nat) o,ops[i]?=some o→o.guard=none
 d:∀ (i:Nat) o d,ops[i]?=some o→o.dst=some d→d < n
 a:∀ (i:Nat) o,ops[i]?=some o→∀ e ∈ o.after,Region.binds md e=true→e.on < i
 x:∀ (i j:Nat) o o' d,ops[i]?=some o→ops[j]?=some o'→i≠j→o.dst=some d→o'.dst≠some d
 k1:k≤ops.size
 k2:ops.size≤k+1
 c:k < ops.size→∀ j,j < k→∃ (m:Nat) (o:Oper),j < m∧m≤k∧ops[m]?=some o∧∃ e ∈ o.after,Region.binds md e=true∧e.on=j
theorem text_of {n k : Nat} (h : textOk md ops n k = true) : Text md ops n k := by
  unfold textOk at h
  simp only [Bool.and_eq_true,decide_eq_true_eq] at h
  obtain ⟨⟨⟨h1,h2⟩,h3⟩,h4⟩:=h
  rw [Array.all_eq_true_iff_forall_mem] at h1
  rw [List.all_eq_true] at h2
  have H:∀ (i j:Nat) o o' d,j < i→ops[i]?=some o→ops[j]?=some o'→o.dst=some d→o'.dst≠some d:=by
    intro i j o o' d hij hi hj hd hd'
    have q:=h2 i (List.mem_range.2 (Array.getElem?_eq_some_iff.1 hi).1)
    simp only [hi,Bool.and_eq_true] at q
    have r:=List.all_eq_true.1 q.2 j (List.mem_range.2 hij)
    simp only [hj,hd,hd'] at r
    simp at r
  refine ⟨?_,?_,?_,?_,h3.1,h3.2,?_⟩
  · intro i o ho
    have q:=h1 o (Array.mem_of_getElem? ho)
    simp only [Bool.and_eq_true] at q
    exact Option.isNone_iff_eq_none.1 q.1
  · intro i o d ho hd
    have q:=h1 o (Array.mem_of_getElem? ho)
    simp only [Bool.and_eq_true,hd,decide_eq_true_eq] at q
    exact q.2
  · intro i o ho e he hb
    have q:=h2 i (List.mem_range.2 (Array.getElem?_eq_some_iff.1 ho).1)
    simp only [ho,Bool.and_eq_true] at q
    have r:=(Array.all_eq_true_iff_forall_mem.1 q.1) e he
    rw [hb] at r
    simpa using r
  · intro i j o o' d hi hj hij hd hd'
    rcases Nat.lt_or_gt_of_ne hij with h | h
    · exact H j i o' o d h hj hi hd' hd
    · exact H i j o o' d h hi hj hd hd'
  · intro hk j hj
    have h4':((List.range k).all fun j=>(List.range (k+1)).any fun m=>decide (j < m) && match ops[m]? with
        | some o=>o.after.any (fun e=>Region.binds md e && e.on == j)
        | none=>false)=true:=by
      rcases Bool.or_eq_true _ _ ▸ h4 with q | q
      · simp at q;omega
      · exact q
    have q:=List.all_eq_true.1 h4' j (List.mem_range.2 hj)
    obtain ⟨m,hm,r⟩:=List.any_eq_true.1 q
    simp only [Bool.and_eq_true,decide_eq_true_eq] at r
    cases ho:ops[m]? with
    | none=>rw [ho] at r;simp at r
    | some o =>
      rw [ho] at r
      obtain ⟨e,he,hb⟩:=Array.any_eq_true'.1 r.2
      simp only [Bool.and_eq_true,beq_iff_eq] at hb
      exact ⟨m,o,r.1,by have:=List.mem_range.1 hm;omega,ho,e,he,hb.1,hb.2⟩
theorem all_listed {n k : Nat} (T : Text md ops n k) {listed : Array Bool} (hs : listed.size = ops.size) (h : Region.ready md ops listed = []) : ∀ m i, i < m → i < ops.size → listed.getD i false = true
  | 0,i,hi,_=>by omega
  | m + 1, i, hi, hl => by
    rcases Nat.lt_or_ge i m with h1 | h1
    · exact all_listed T hs h m i h1 hl
    · obtain rfl : i = m := by omega
      cases hc:listed.getD i false
      · exfalso
        obtain ⟨o,ho⟩:∃ o,ops[i]?=some o:=⟨ops[i],by simp [hl]⟩
        have hr:i ∈ Region.ready md ops listed:=mem_ready.2 ⟨by rw [dflt (by omega)];exact hc,o,ho,fun e he hb=>all_listed T hs h i e.on (T.a i o ho e he hb) (by have:=T.a i o ho e he hb;omega)⟩
        rw [h] at hr
        simp at hr
      · rfl
theorem all_ahead {n k:Nat} (T:Text md ops n k) (hk:k < ops.size) {listed:Array Bool} {a:Act} {w:World} (H:Held md ops F a0 w0 listed a w)
    (hr:k ∈ Region.ready md ops listed):∀ m j,k - j≤m→j < k→listed.getD j false=true
  | 0,j,hm,hj=>by omega
  | m + 1, j, hm, hj => by
    obtain ⟨p,o,hjp,hpk,ho,e,he,hb,rfl⟩:=T.c hk j hj
    rcases Nat.lt_or_ge p k with h1 | h1
    · exact H.c p o ho (all_ahead T hk H hr m p (by omega) h1) e he hb
    · obtain rfl : p = k := by omega
      obtain ⟨_,o',ho',q⟩:=mem_ready.1 hr
      obtain rfl:=Option.some.inj (ho.symm.trans ho')
      exact q e he hb
theorem Held.next {n k : Nat} (T : Text md ops n k) (hn : n ≤ a0.tmps.size) {listed : Array Bool} {a : Act} {w : World} (H : Held md ops F a0 w0 listed a w) {i : Nat} {o : Oper} (ho : ops[i]? = some o) (hr : i ∈ Region.ready md ops listed)
  {v:Value} {w':World} (hw:Below w.heap.size w w') (hf:(F i).p v w'):Held md ops F a0 w0 (listed.setIfInBounds i true) (a.put o.dst v) w':=by
 have hi:i < ops.size:=(Array.getElem?_eq_some_iff.1 ho).1
 have hz:a.tmps.size=a0.tmps.size:=H.b.2.1
 refine ⟨⟨by rw [put_defers];exact H.b.1,by rw [put_size];exact hz,fun d hd=>?_⟩,nxt H.n hw,?_,?_,by simp [H.s]⟩
 ·rw [put_off]
  ·exact H.b.2.2 d hd
  ·have q := Array.all_eq_true_iff_forall_mem.1 hd o (Array.mem_of_getElem? ho)
   simpa using q
 ·intro j oj d hoj hj hd
  by_cases e:i=j
  ·subst e
   obtain rfl:=Option.some.inj (ho.symm.trans hoj)
   rw [hd,put_at (Nat.lt_of_lt_of_le (T.d i o d ho hd) (hz ▸ hn))]
   exact hf
  ·rw [getD_off e] at hj
   rw [put_off (T.x j i oj o d hoj ho (Ne.symm e) hd)]
   exact (F j).up hw (H.f j oj d hoj hj hd)
 ·intro j oj hoj hj e he hb
  obtain ⟨_,o',ho',q⟩:=mem_ready.1 hr
  by_cases c:i=e.on
  ·rw [← c]
   exact getD_same (by rw [H.s];exact hi) _
  ·rw [getD_off c]
   by_cases e':i=j
   ·subst e'
    obtain rfl:=Option.some.inj (ho'.symm.trans hoj)
    exact q e he hb
   ·rw [getD_off e'] at hj
    exact H.c j oj hoj hj e he hb
theorem any_facts {n k : Nat} (T : Text md ops n k) (hn : n ≤ a0.tmps.size) (steps : ∀ i, i < k → StepOk P md ops Q F a0 w0 i)
    (fin:∀ a w,Based ops a0 a→Below w0.heap.size w0 w→(∀ i o d,i < k→ops[i]?=some o→o.dst=some d→(F i).p (a.tmps.getD d undef) w) →
      match ops[k]? with
      | none=>Q .normal a w
      | some o=>o.wp P a w (fun a' w'=>Q .normal a' w') Q) :
    ∀ (fuel:Nat) (listed:Array Bool) (a:Act) (w:World),left listed ops.size≤fuel→Held md ops F a0 w0 listed a w→listed.getD k false=false→wpAny P md ops Q fuel listed a w:=by
  intro fuel
  induction fuel with
  | zero =>
    intro listed a w hl H hk
    have hall:∀ i,i < ops.size→listed.getD i false=true:=fun i hi=>by
      rw [← dflt (by rw [H.s];exact hi)]
      exact left_zero (n:=ops.size) (by omega) i hi
    have hke:ops[k]?=none:=by
      rcases Nat.lt_or_ge k ops.size with h | h
      · rw [hall k h] at hk;simp at hk
      · simp [h]
    have q:=fin a w H.b H.n (fun i o d _ ho hd=>H.f i o d ho (hall i (Array.getElem?_eq_some_iff.1 ho).1) hd)
    rw [hke] at q
    refine ⟨?_,q⟩
    cases hr:Region.ready md ops listed with
    | nil=>rfl
    | cons i t =>
      have hi:i ∈ Region.ready md ops listed:=by rw [hr];simp
      obtain ⟨h0,o,ho,_⟩:=mem_ready.1 hi
      have hlt:=(Array.getElem?_eq_some_iff.1 ho).1
      rw [dflt (by rw [H.s];exact hlt),hall i hlt] at h0
      simp at h0
  | succ fuel ih =>
    intro listed a w hl H hk
    refine ⟨fun hr=>?_,fun i hi=>?_⟩
    · have hall : ∀ i, i < ops.size → listed.getD i false = true := fun i hi => all_listed T H.s hr (i + 1) i (by omega) hi
      have hke:ops[k]?=none:=by
        rcases Nat.lt_or_ge k ops.size with h | h
        · rw [hall k h] at hk;simp at hk
        · simp [h]
      have q:=fin a w H.b H.n (fun i o d _ ho hd=>H.f i o d ho (hall i (Array.getElem?_eq_some_iff.1 ho).1) hd)
      rw [hke] at q
      exact q
    · obtain ⟨h0, o, ho, hall⟩ := mem_ready.1 hi
      have hlt:=(Array.getElem?_eq_some_iff.1 ho).1
      have hwant:Region.wanted o (yielded ops a.tmps)=true:=by simp [Region.wanted,T.g i o ho]
      refine wpOp_step ho fun K' hK=>?_
      rw [if_pos hwant]
      have hll:=left_set (by rw [H.s];exact hlt) h0 ops.size hlt
      rcases Nat.lt_or_ge i k with h1 | h1
      · refine steps i h1 o ho a w H.b H.n ?_ K' ?_
        · intro j d hjd
          unfold waits at hjd
          rw [ho] at hjd
          cases hoj:ops[j]? with
          | none=>rw [hoj] at hjd;simp at hjd
          | some oj =>
            rw [hoj] at hjd
            simp only [Bool.and_eq_true,beq_iff_eq] at hjd
            obtain ⟨e,he,hb⟩:=Array.any_eq_true'.1 hjd.1
            simp only [Bool.and_eq_true,beq_iff_eq] at hb
            exact H.f j oj d hoj (by rw [← hb.2];exact hall e he hb.1) hjd.2
        · intro v w' hw hf
          refine hK _ _ (ih _ _ _ (by omega) (H.next T hn ho hi hw hf) ?_)
          rw [getD_off (by omega)]
          exact hk
      · obtain rfl : i = k := by have := T.k2; omega
        have hahead:=all_ahead T hlt H hi
        have q:=fin a w H.b H.n (fun j oj d hj hoj hd=>H.f j oj d hoj (hahead (i - j) j (Nat.le_refl _) hj) hd)
        rw [ho] at q
        refine Oper.wp_mono (fun a' w' h=>hK _ _ (wpAny_done ?_ h fuel)) q
        cases hr:Region.ready md ops (listed.setIfInBounds i true) with
        | nil=>rfl
        | cons j t =>
          exfalso
          have hj:j ∈ Region.ready md ops (listed.setIfInBounds i true):=by rw [hr];simp
          obtain ⟨g0,oj,hoj,_⟩:=mem_ready.1 hj
          have hjl:=(Array.getElem?_eq_some_iff.1 hoj).1
          by_cases e:i=j
          · subst e
            rw [getD_same (by rw [H.s];exact hlt)] at g0
            simp at g0
          · rw [getD_off e, dflt (by rw [H.s]; exact hjl), hahead (i - j) j (Nat.le_refl _) (by have := T.k2; omega)] at g0
            simp at g0
theorem line_facts {n k : Nat} (T : Text md ops n k) (hn : n ≤ a0.tmps.size) (steps : ∀ i, i < k → StepOk P md ops Q F a0 w0 i)
    (fin:∀ a w,Based ops a0 a→Below w0.heap.size w0 w→(∀ i o d,i < k→ops[i]?=some o→o.dst=some d→(F i).p (a.tmps.getD d undef) w) →
      match ops[k]? with
      | none=>Q .normal a w
      | some o=>o.wp P a w (fun a' w'=>Q .normal a' w') Q) :
    ∀ (m i : Nat) (a : Act) (w : World), i + m = ops.size → i ≤ k → Based ops a0 a → Below w0.heap.size w0 w → (∀ j o d, j < i → ops[j]? = some o → o.dst = some d → (F j).p (a.tmps.getD d undef) w) →
      wpOps P ops Q (List.range' i m) a w:=by
  intro m
  induction m with
  | zero =>
    intro i a w him hik hb hw hf
    obtain rfl:i=k:=by have:=T.k1;omega
    have q:=fin a w hb hw hf
    rw [show ops[i]?=none by simp;omega] at q
    exact q
  | succ m ih =>
    intro i a w him hik hb hw hf
    have hlt:i < ops.size:=by omega
    obtain ⟨o,ho⟩:∃ o,ops[i]?=some o:=⟨ops[i],by simp [hlt]⟩
    have hwant:Region.wanted o (yielded ops a.tmps)=true:=by simp [Region.wanted,T.g i o ho]
    rw [List.range'_succ,wpOps_cons]
    refine wpOp_step ho fun K' hK=>?_
    rw [if_pos hwant]
    rcases Nat.lt_or_ge i k with h1 | h1
    · refine steps i h1 o ho a w hb hw ?_ K' ?_
      · intro j d hjd
        unfold waits at hjd
        rw [ho] at hjd
        cases hoj:ops[j]? with
        | none=>rw [hoj] at hjd;simp at hjd
        | some oj =>
          rw [hoj] at hjd
          simp only [Bool.and_eq_true,beq_iff_eq] at hjd
          obtain ⟨e,he,hb⟩:=Array.any_eq_true'.1 hjd.1
          simp only [Bool.and_eq_true,beq_iff_eq] at hb
          exact hf j oj d (by rw [← hb.2];exact T.a i o ho e he hb.1) hoj hjd.2
      · intro v w' hw' hfv
        refine hK _ _ (ih (i+1) _ _ (by omega) (by omega) ⟨by rw [put_defers];exact hb.1,by rw [put_size];exact hb.2.1,fun d hd=>?_⟩ (nxt hw hw') ?_)
        · rw [put_off]
          · exact hb.2.2 d hd
          · have q := Array.all_eq_true_iff_forall_mem.1 hd o (Array.mem_of_getElem? ho)
            simpa using q
        · intro j oj d hj hoj hd
          by_cases e:i=j
          · subst e
            obtain rfl:=Option.some.inj (ho.symm.trans hoj)
            rw [hd,put_at (Nat.lt_of_lt_of_le (T.d i o d ho hd) (by rw [hb.2.1];exact hn))]
            exact hfv
          · rw [put_off (T.x j i oj o d hoj ho (Ne.symm e) hd)]
            exact (F j).up hw' (hf j oj d (by omega) hoj hd)
    · obtain rfl : i = k := by omega
      have q:=fin a w hb hw hf
      rw [ho] at q
      refine Oper.wp_mono (fun a' w' h=>hK _ _ ?_) q
      obtain rfl:m=0:=by have:=T.k2;omega
      exact h
theorem region_facts {id : Nat} {w : World} {draw : Bool} (k : Nat) (F : Nat → Fact) (hm : P.follows .mixedOrders = true) (hT : textOk .any ops a0.tmps.size k = true) (steps : ∀ i, i < k → StepOk P .any ops Q F a0 w i)
    (fin:∀ a w',Based ops a0 a→Below w.heap.size w w'→(∀ i o d,i < k→ops[i]?=some o→o.dst=some d→(F i).p (a.tmps.getD d undef) w') →
      match ops[k]? with
      | none=>Q .normal a w'
      | some o=>o.wp P a w' (fun a' w''=>Q .normal a' w'') Q):(Code.region id ops draw).wp P Q a0 w:=by
  have T:=text_of hT
  cases draw with
  | false =>
    refine wp_region ?_
    have h:=line_facts (w0:=w) T (Nat.le_refl _) steps fin ops.size 0 a0 w (by omega) (by omega) ⟨rfl,rfl,fun _ _=>rfl⟩ (Below.refl _ _) (fun j o d hj=>by omega)
    rw [List.range_eq_range']
    exact h
  | true =>
    refine wp_region_any hm ?_
    refine any_facts (w0:=w) T (Nat.le_refl _) steps fin ops.size _ a0 _ ?_ ⟨⟨rfl,rfl,fun _ _=>rfl⟩,(Below.refl _ _).drew,?_,?_,by simp⟩ ?_
    · have : ∀ m, left (Array.replicate ops.size false) m ≤ m := by
        intro m
        induction m with
        | zero=>exact Nat.le_refl _
        | succ m ih=>unfold left;split <;> omega
      exact this _
    · intro i o d ho hl _
      rw [Array.getD_eq_getD_getElem?,Array.getElem?_replicate] at hl
      split at hl <;> simp at hl
    · intro i o ho hl
      rw [Array.getD_eq_getD_getElem?,Array.getElem?_replicate] at hl
      split at hl <;> simp at hl
    · rw [Array.getD_eq_getD_getElem?, Array.getElem?_replicate]
      split <;> rfl
def writes (ops:Array Oper) (i d:Nat):Bool :=
 match ops[i]? with
 | some o=>o.dst == some d
 | none=>false
def Full (ops:Array Oper) (F:Nat→Fact) (a:Act) (w:World):Prop:=∀ i d,writes ops i d=true→(F i).p (a.tmps.getD d undef) w
theorem region_store {id:Nat} {w:World} {draw:Bool} (k:Nat) (o:Oper) (F:Nat→Fact) (hm:P.follows .mixedOrders=true) (hT:textOk .any ops a0.tmps.size k=true) (hk:ops[k]?=some o) (hd:o.dst=none) (steps:∀ i,i < k→StepOk P .any ops Q F a0 w i)
    (fin:∀ a w',Based ops a0 a→Below w.heap.size w w'→Full ops F a w'→o.wp P a w' (fun a' w''=>Q .normal a' w'') Q):(Code.region id ops draw).wp P Q a0 w:=by
  refine region_facts k F hm hT steps fun a w' hb hw hf=>?_
  rw [hk]
  refine fin a w' hb hw fun i d hi=>?_
  unfold writes at hi
  cases ho:ops[i]? with
  | none=>rw [ho] at hi;simp at hi
  | some oi =>
    rw [ho] at hi
    have hi':oi.dst=some d:=by simpa using hi
    have T:=text_of hT
    refine hf i oi d ?_ ho hi'
    have h1:=(Array.getElem?_eq_some_iff.1 ho).1
    have h2:=T.k2
    rcases Nat.lt_or_ge i k with h | h
    · exact h
    · obtain rfl : i = k := by omega
      obtain rfl:=Option.some.inj (hk.symm.trans ho)
      rw [hd] at hi'
      simp at hi'
theorem region_end {id:Nat} {w:World} {draw:Bool} (k:Nat) (F:Nat→Fact) (hm:P.follows .mixedOrders=true) (hT:textOk .any ops a0.tmps.size k=true) (hk:ops[k]?=none) (steps:∀ i,i < k→StepOk P .any ops Q F a0 w i)
    (fin:∀ a w',Based ops a0 a→Below w.heap.size w w'→Full ops F a w'→Q .normal a w'):(Code.region id ops draw).wp P Q a0 w:=by
  refine region_facts k F hm hT steps fun a w' hb hw hf=>?_
  rw [hk]
  refine fin a w' hb hw fun i d hi=>?_
  unfold writes at hi
  cases ho:ops[i]? with
  | none=>rw [ho] at hi;simp at hi
  | some oi =>
    rw [ho] at hi
    have h1:=(Array.getElem?_eq_some_iff.1 ho).1
    have h2:ops.size≤k:=by simpa using hk
    exact hf i oi d (by omega) ho (by simpa using hi)
def puts (vs : Nat → Value) (a0 : Act) : List Oper → Act
  | []=>a0
  | o :: rest => match o.dst with
    | some d=>puts vs (a0.put (some d) (vs d)) rest
    | none=>puts vs a0 rest
theorem puts_size (vs:Nat→Value):∀ (l:List Oper) (a:Act),(puts vs a l).tmps.size=a.tmps.size∧(puts vs a l).defers=a.defers
  | [],_=>⟨rfl,rfl⟩
  | o :: rest, a => by
    unfold puts
    cases o.dst with
    | none=>exact puts_size vs rest a
    | some d =>
      have:=puts_size vs rest (a.put (some d) (vs d))
      exact ⟨this.1.trans (put_size _ _ _),this.2.trans (put_defers _ _ _)⟩
theorem puts_get (vs : Nat → Value) (d : Nat) : ∀ (l : List Oper) (a : Act), (∀ o ∈ l, ∀ e, o.dst = some e → e < a.tmps.size) → (puts vs a l).tmps.getD d undef = if l.any (fun o => o.dst == some d) then vs d else a.tmps.getD d undef
  | [],_,_=>by simp [puts]
  | o :: rest, a, h => by
    unfold puts
    cases ho:o.dst with
    | none =>
      rw [puts_get vs d rest a (fun o' h'=>h o' (List.mem_cons_of_mem _ h'))]
      simp [ho]
    | some e =>
      have he:=h o (List.mem_cons_self) e ho
      simp only
      rw [puts_get vs d rest _ (fun o' h'=>by rw [put_size];exact h o' (List.mem_cons_of_mem _ h'))]
      by_cases c:e=d
      · subst c
        rw [put_at he]
        simp [ho]
      · rw [put_off (by simpa using c)]
        simp [ho,c]
theorem puts_of {n k : Nat} (hT : textOk md ops n k = true) (hn : n = a0.tmps.size) {a : Act} (hb : Based ops a0 a) (vs : Nat → Value) (hv : ∀ d, a.tmps.getD d undef = vs d) : a = puts vs a0 ops.toList := by
 have T:=text_of hT
 have hin:∀ o ∈ ops.toList,∀ e,o.dst=some e→e < a0.tmps.size:=fun o ho e he=>by
  obtain ⟨i,hi⟩:=List.getElem?_of_mem ho
  have:=T.d i o e (by simpa using hi) he
  rw [hn] at this
  exact this
 obtain ⟨s1,s2⟩:=puts_size vs ops.toList a0
 obtain ⟨ta,da⟩:=a
 obtain ⟨h1,h2,h3⟩:=hb
 have e1:ta=(puts vs a0 ops.toList).tmps:=by
  apply Array.ext
  ·rw [s1];exact h2
  ·intro i hi hi'
   have g:=puts_get vs i ops.toList a0 hin
   have l:ta[i]=ta.getD i undef:=by simp [Array.getD_eq_getD_getElem?,hi]
   have r:(puts vs a0 ops.toList).tmps[i]=(puts vs a0 ops.toList).tmps.getD i undef:=by simp only [Array.getD_eq_getD_getElem?,Array.getElem?_eq_getElem hi',Option.getD_some]
   rw [l,r,g]
   by_cases c:ops.toList.any (fun o=>o.dst == some i)=true
   ·rw [if_pos c];exact hv i
   ·rw [if_neg c]
    refine h3 i ?_
    unfold apart
    rw [Array.all_eq_true_iff_forall_mem]
    intro o ho
    have hne:¬ (o.dst == some i)=true:=fun x=>c (List.any_eq_true.2 ⟨o,by simpa using ho,x⟩)
    simpa using hne
 have e2:da=(puts vs a0 ops.toList).defers:=h1.trans s2.symm
 subst e1
 subst e2
 rfl
end
end Go.Proofs.YtmmbkkfjiaoeiaaGreat
namespace Go.Proofs.YtmmbkkfjiaoeiaaGreat
open Go Go.RowKit
def Fact.eq (v0:Value):Fact:=⟨fun v _=>v=v0,fun _ h=>h⟩
def Fact.no:Fact:=⟨fun _ _=>True,fun _ h=>h⟩
section
variable {P : Program} {ops : Array Oper} {Q : Exit → Act → World → Prop} {md : Region.Mode} {F : Nat → Fact} {a0 : Act} {w0 : World}
def Facts (md:Region.Mode) (ops:Array Oper) (F:Nat→Fact) (i:Nat) (a:Act) (w:World):Prop:=∀ j d,waits md ops i j d=true→(F j).p (a.tmps.getD d undef) w
theorem step_pure {i:Nat} {o:Oper} (hi:ops[i]?=some o)
  (G:∀ a w,Based ops a0 a→Below w0.heap.size w0 w→Facts md ops F i a w→∃ v,(execOp a.eval o).run P w = .ok (.value v) w∧(F i).p v w):StepOk P md ops Q F a0 w0 i:=by
 intro o' ho' a w hb hw hf K hK
 obtain rfl:=Option.some.inj (hi.symm.trans ho')
 obtain ⟨v,hr,hv⟩:=G a w hb hw hf
 unfold Oper.wp
 rw [hr]
 exact hK v w (Below.refl _ _) hv
theorem step_grow {i:Nat} {o:Oper} (hi:ops[i]?=some o)
  (G:∀ a w,Based ops a0 a→Below w0.heap.size w0 w→Facts md ops F i a w→∃ v w',(execOp a.eval o).run P w = .ok (.value v) w'∧Below w.heap.size w w'∧(F i).p v w'):StepOk P md ops Q F a0 w0 i:=by
 intro o' ho' a w hb hw hf K hK
 obtain rfl:=Option.some.inj (hi.symm.trans ho')
 obtain ⟨v,w',hr,hn,hv⟩:=G a w hb hw hf
 unfold Oper.wp
 rw [hr]
 exact hK v w' hn hv
theorem step_load {i:Nat} {o:Oper} (hi:ops[i]?=some o) (ty:TypeId) (x:Operand) (hop:o.op = .load ty x) (d:TypeDesc) (n:Nat) (hu:P.underlying ty=some d) (hd:d.isRow=true) (hs:(P.info? ty).map (·.size)=some n)
  (G:∀ a w,Based ops a0 a→Below w0.heap.size w0 w→Facts md ops F i a w→∃ b off cs,a.eval x = .pointer (some ⟨b,off,none⟩)∧w.rangeAt b off cs∧cs.length=n∧(F i).p (.agg cs.toArray) w):StepOk P md ops Q F a0 w0 i:=by
 intro o' ho' a w hb hw hf K hK
 obtain rfl:=Option.some.inj (hi.symm.trans ho')
 obtain ⟨b,off,cs,hx,hc,hl,hv⟩:=G a w hb hw hf
 exact wp_load_mid ty x hop b off hx cs d hc hu hd (by rw [hl];exact hs) (hK _ _ (Below.refl _ _) hv)
def enters (P:Program) (n:FuncId):Bool :=
 match P.funcs[n]? with
 | some fn => !(fn.name == "runtime.NumGoroutine") && fn.body.isSome
 | none=>false
theorem run_enter {n:FuncId} (h:enters P n=true) (args:Array Value) (w:World):(callFunc n args).run P w = .ok (.enter n args) w:=by
  unfold enters at h
  cases hq:P.funcs[n]? with
  | none=>rw [hq] at h;simp at h
  | some fn =>
    rw [hq] at h
    simp only [Bool.and_eq_true,Bool.not_eq_true'] at h
    have h2:fn.body≠none:=fun e=>by rw [e] at h;simp at h
    have h1 : ¬ fn.name = "runtime.NumGoroutine" := by simpa using h.1
    simp [callFunc,hq,h1,h2]
theorem based_at {a:Act} (hb:Based ops a0 a) (p:Nat) (hp:apart ops p=true):a.eval (.tmp p)=a0.tmps.getD p undef:=hb.2.2 p hp
end
end Go.Proofs.YtmmbkkfjiaoeiaaGreat
namespace Go.Proofs.YtmmbkkfjiaoeiaaGreat
open Go Go.RowKit
theorem gdv {a:Act} {p:Nat} {v:Value} (h:a.tmps.getD p undef=v):a.tmps[p]?.getD undef=v:=by rw [← h];simp
section
variable {P : Program} {ops : Array Oper} {Q : Exit → Act → World → Prop} {md : Region.Mode} {F : Nat → Fact} {a0 : Act} {w0 : World}
theorem step_callv {i:Nat} {o:Oper} (hi:ops[i]?=some o) (n:FuncId) (args:Array Operand) (ts:Array TypeId) (hop:o.op = .call { callee := .value (.func n),args:=args,argTypes:=ts }) (he:enters P n=true)
  (G:∀ a w,Based ops a0 a→Below w0.heap.size w0 w→Facts md ops F i a w→Calls P n (args.toList.map a.eval).toArray w fun e w'=>∃ v,e = .returned v∧Below w.heap.size w w'∧(F i).p v w'):StepOk P md ops Q F a0 w0 i:=by
 intro o' ho' a w hb hw hf K hK
 obtain rfl:=Option.some.inj (hi.symm.trans ho')
 have hr:(execOp a.eval o).run P w = .ok (.enter n (args.map a.eval)) w:=by
  have h0:(Deferred.ofValue (Value.func (Fn.func n) #[] #[]) (args.map a.eval)).run P w = .ok { target := .fn (.func n) #[],args:=args.map a.eval } w:=by simp [Deferred.ofValue]
  simp [execOp,hop,resolve,invoke,Act.eval,h0,run_enter he]
 have e:args.map a.eval=(args.toList.map a.eval).toArray:=by cases args;simp
 unfold Oper.wp
 rw [hr,e,Oper.upon_enter]
 refine (G a w hb hw hf).mono ?_
 rintro e w' ⟨v,rfl,hn,hv⟩
 exact hK v w' hn hv
end
end Go.Proofs.YtmmbkkfjiaoeiaaGreat
namespace Go.Proofs.YtmmbkkfjiaoeiaaGreat
open Go Go.RowKit
theorem region_putK {P:Program} {ops:Array Oper} {Q:Exit→Act→World→Prop} {a0:Act} {id:Nat} {draw:Bool} {w:World} (k jV pD pV:Nat) (o:Oper) (F:Nat→Fact) (q:Nat) (ty:TypeId) (cells:List Value) (hm:P.follows .mixedOrders=true) (hT:textOk .any ops a0.tmps.size k=true) (hk:ops[k]?=some o) (hd:o.dst=none)
  (hop:o.op = .store ty (.tmp pD) (.tmp pV)) (hp:apart ops pD=true) (h0:a0.tmps.getD pD undef = .pointer (some ⟨q,0,none⟩)) (wV:writes ops jV pV=true) (FV:F jV=Fact.eq (.agg cells.toArray)) (hth:∀ W,Below w.heap.size w W→W.there q 0 cells.length) (hi:(P.info? ty).map (·.size)=some cells.length) (h1:cells.toArray.all (·.oneCell')=true) (steps:∀ i,i < k→StepOk P .any ops Q F a0 w i)
  (fin:∀ (vs:Nat→Value) (W:World),Below w.heap.size w W→Q .normal (puts vs a0 ops.toList) (W.setCells q 0 cells)):(Code.region id ops draw).wp P Q a0 w:=by
 refine region_store k o F hm hT hk hd steps fun a W hb hw hF=>?_
 have e2:=hF jV pV wV
 rw [FV] at e2
 refine wp_store_mid ty (.tmp pD) (.tmp pV) hop q 0 cells.toArray ((based_at hb pD hp).trans h0) e2 (by rw [List.size_toArray];exact hth W hw) (by rw [List.size_toArray];exact hi) h1 ?_
 obtain ⟨vs,hvs⟩:∃ vs:Nat→Value,∀ d,a.tmps.getD d undef=vs d:=⟨_,fun _=>rfl⟩
 rw [hd]
 show Q .normal a _
 rw [puts_of hT rfl hb vs hvs]
 exact fin vs W hw
theorem RwC.there {w:World} {q:Nat} {cs:List Value} {t:TypeId} (h:RwC w q cs t):w.there q 0 cs.length:=fun j hj=>by
 rw [Nat.zero_add,h.cell j,h.free j]
 exact ⟨by simp [hj],rfl⟩
theorem only_setM (w:World) (q:Nat):∀ (vs:List Value) (o:Nat),Only q w (w.setCells q o vs)
 | [],_=>Only.refl _ _
 | v :: vs,o=>(Only.setCell w q o v).trans (only_setM _ q vs (o+1))
section
variable (w : World) (q : Nat) (t : TypeId) (v ag ea : Int) (a2 a3 a5 a6 a9 : Option Addr) (n2 n3 n5 n6 n9 c2 c3 c5 c6 c9 : Nat) (ho : ByteArray)
theorem bu13:(Instr.build 26 #[(0,.int .i64 1),(1,.int .i64 v),(2,.slice a2 n2 c2),(3,.slice a3 n3 c3),(4,.string ho),(5,.slice a5 n5 c5),(6,.slice a6 n6 c6),(7,.int .i64 ag),(8,.int .i64 ea),(9,.slice a9 n9 c9)]).run Tryz.prog w = .ok (.agg #[.int .i64 1,.int .i64 v,.slice a2 n2 c2,.slice a3 n3 c3,.string ho,.slice a5 n5 c5,.slice a6 n6 c6,.int .i64 ag,.int .i64 ea,.slice a9 n9 c9,.bool false,.slice none 0 0,.slice none 0 0]) w:=by kernel_rfl
theorem ex_bu {a:Act} {o:Oper} (hop:o.op = .build 26 #[(0,Operand.const (Value.int .i64 1)),(1,Operand.tmp 20),(2,Operand.tmp 25),(3,Operand.tmp 30),(4,Operand.tmp 34),(5,Operand.tmp 38),(6,Operand.tmp 42),(7,Operand.tmp 46),(8,Operand.tmp 50),(9,Operand.tmp 54)]) (x20:a.eval (.tmp 20)=Value.int .i64 v) (x25:a.eval (.tmp 25)=Value.slice a2 n2 c2) (x30:a.eval (.tmp 30)=Value.slice a3 n3 c3) (x34:a.eval (.tmp 34)=Value.string ho) (x38:a.eval (.tmp 38)=Value.slice a5 n5 c5) (x42:a.eval (.tmp 42)=Value.slice a6 n6 c6) (x46:a.eval (.tmp 46)=Value.int .i64 ag) (x50:a.eval (.tmp 50)=Value.int .i64 ea) (x54:a.eval (.tmp 54)=Value.slice a9 n9 c9):(execOp a.eval o).run Tryz.prog w = .ok (.value (.agg #[.int .i64 1,.int .i64 v,.slice a2 n2 c2,.slice a3 n3 c3,.string ho,.slice a5 n5 c5,.slice a6 n6 c6,.int .i64 ag,.int .i64 ea,.slice a9 n9 c9,.bool false,.slice none 0 0,.slice none 0 0])) w:=by
 have xc:a.eval (.const (.int .i64 1))=Value.int .i64 1:=rfl
 have gg:(#[(0,Operand.const (Value.int .i64 1)),(1,Operand.tmp 20),(2,Operand.tmp 25),(3,Operand.tmp 30),(4,Operand.tmp 34),(5,Operand.tmp 38),(6,Operand.tmp 42),(7,Operand.tmp 46),(8,Operand.tmp 50),(9,Operand.tmp 54)].map fun (n,x)=>(n,a.eval x)) = #[(0,.int .i64 1),(1,.int .i64 v),(2,.slice a2 n2 c2),(3,.slice a3 n3 c3),(4,.string ho),(5,.slice a5 n5 c5),(6,.slice a6 n6 c6),(7,.int .i64 ag),(8,.int .i64 ea),(9,.slice a9 n9 c9)]:=by simp [x20,x25,x30,x34,x38,x42,x46,x50,x54,xc]
 simp only [execOp,hop,gg]
 rw [Sem.run_bind,bu13]
 rfl
theorem one13:([.int .i64 1,.int .i64 v,.slice a2 n2 c2,.slice a3 n3 c3,.string ho,.slice a5 n5 c5,.slice a6 n6 c6,.int .i64 ag,.int .i64 ea,.slice a9 n9 c9,.bool false,.slice none 0 0,.slice none 0 0]:List Value).toArray.all (·.oneCell')=true:=all_oneCell_toArray fun v hv=>by
 simp only [List.mem_cons,List.not_mem_nil,or_false] at hv
 rcases hv with rfl | rfl | rfl | rfl | rfl | rfl | rfl | rfl | rfl | rfl | rfl | rfl | rfl
 all_goals rfl
set_option maxRecDepth 20000 in
set_option maxHeartbeats 4000000 in
theorem plainHello_any (h:RwC w q [.int .i64 v,.slice a2 n2 c2,.slice a3 n3 c3,.string ho,.slice a5 n5 c5,.slice a6 n6 c6,.int .i64 ag,.int .i64 ea,.slice a9 n9 c9] t) :
  Calls Tryz.prog 36 #[.iface 72 (.pointer (some ⟨q,0,none⟩))] w fun e w'=>e = .returned (.agg #[.int .i64 1,.int .i64 v,.slice a2 n2 c2,.slice a3 n3 c3,.string ho,.slice a5 n5 c5,.slice a6 n6 c6,.int .i64 ag,.int .i64 ea,.slice a9 n9 c9,.bool false,.slice none 0 0,.slice none 0 0])∧Below w.heap.size w w':=by
 have lt:=h.lt
 have A_hello:∀ (x:Value) (W:World),(Instr.typeAssert (.iface 72 x) 42 72 true).run Tryz.prog W = .ok (.tuple #[x,.bool true]) W:=fun _ _=>by kernel_rfl
 have RN:=RwC.new w (#[.int .i64 0,.int .i64 0,.slice none 0 0,.slice none 0 0,.string ⟨#[]⟩,.slice none 0 0,.slice none 0 0,.int .i64 0,.int .i64 0,.slice none 0 0,.bool false,.slice none 0 0,.slice none 0 0]:Array Value).toList 26
 have n0:Below w.heap.size w (w.alloc (.cells #[.int .i64 0,.int .i64 0,.slice none 0 0,.slice none 0 0,.string ⟨#[]⟩,.slice none 0 0,.slice none 0 0,.int .i64 0,.int .i64 0,.slice none 0 0,.bool false,.slice none 0 0,.slice none 0 0] 26)):=(Below.refl _ _).alloc (Nat.le_refl _) _
 obtain ⟨d13,hd13,hrow13⟩:=rowM
 replace h:=h.up n0
 have RN:RwC (w.alloc (.cells #[.int .i64 0,.int .i64 0,.slice none 0 0,.slice none 0 0,.string ⟨#[]⟩,.slice none 0 0,.slice none 0 0,.int .i64 0,.int .i64 0,.slice none 0 0,.bool false,.slice none 0 0,.slice none 0 0] 26)) w.heap.size (#[.int .i64 0,.int .i64 0,.slice none 0 0,.slice none 0 0,.string ⟨#[]⟩,.slice none 0 0,.slice none 0 0,.int .i64 0,.int .i64 0,.slice none 0 0,.bool false,.slice none 0 0,.slice none 0 0]:Array Value).toList 26:=RN
 go_enter Tryz.func36,Tryz.ntmps36
 go_upto_region 4 with fail
 generalize w.alloc (.cells #[.int .i64 0,.int .i64 0,.slice none 0 0,.slice none 0 0,.string ⟨#[]⟩,.slice none 0 0,.slice none 0 0,.int .i64 0,.int .i64 0,.slice none 0 0,.bool false,.slice none 0 0,.slice none 0 0] 26)=wb at *
 refine region_putK 40 39 2 55 _ (fun i=>[Fact.eq (.pointer (some ⟨q,0,none⟩)),Fact.eq (.pointer (some ⟨q,0,none⟩)),Fact.eq (.pointer (some ⟨q,0,none⟩)),Fact.eq (.pointer (some ⟨q,0,none⟩)),Fact.eq (Value.int .i64 v),Fact.eq (.pointer (some ⟨q,0,none⟩)),Fact.eq (.pointer (some ⟨q,0,none⟩)),Fact.eq (.pointer (some ⟨q,0,none⟩)),Fact.eq (.pointer (some ⟨q,1,none⟩)),Fact.eq (Value.slice a2 n2 c2),Fact.eq (.pointer (some ⟨q,0,none⟩)),Fact.eq (.pointer (some ⟨q,0,none⟩)),Fact.eq (.pointer (some ⟨q,0,none⟩)),Fact.eq (.pointer (some ⟨q,2,none⟩)),Fact.eq (Value.slice a3 n3 c3),Fact.eq (.pointer (some ⟨q,0,none⟩)),Fact.eq (.pointer (some ⟨q,0,none⟩)),Fact.eq (.pointer (some ⟨q,3,none⟩)),Fact.eq (Value.string ho),Fact.eq (.pointer (some ⟨q,0,none⟩)),Fact.eq (.pointer (some ⟨q,0,none⟩)),Fact.eq (.pointer (some ⟨q,4,none⟩)),Fact.eq (Value.slice a5 n5 c5),Fact.eq (.pointer (some ⟨q,0,none⟩)),Fact.eq (.pointer (some ⟨q,0,none⟩)),Fact.eq (.pointer (some ⟨q,5,none⟩)),Fact.eq (Value.slice a6 n6 c6),Fact.eq (.pointer (some ⟨q,0,none⟩)),Fact.eq (.pointer (some ⟨q,0,none⟩)),Fact.eq (.pointer (some ⟨q,6,none⟩)),Fact.eq (Value.int .i64 ag),Fact.eq (.pointer (some ⟨q,0,none⟩)),Fact.eq (.pointer (some ⟨q,0,none⟩)),Fact.eq (.pointer (some ⟨q,7,none⟩)),Fact.eq (Value.int .i64 ea),Fact.eq (.pointer (some ⟨q,0,none⟩)),Fact.eq (.pointer (some ⟨q,0,none⟩)),Fact.eq (.pointer (some ⟨q,8,none⟩)),Fact.eq (Value.slice a9 n9 c9),Fact.eq (.agg #[.int .i64 1,.int .i64 v,.slice a2 n2 c2,.slice a3 n3 c3,.string ho,.slice a5 n5 c5,.slice a6 n6 c6,.int .i64 ag,.int .i64 ea,.slice a9 n9 c9,.bool false,.slice none 0 0,.slice none 0 0])].getD i Fact.no) w.heap.size 26 [.int .i64 1,.int .i64 v,.slice a2 n2 c2,.slice a3 n3 c3,.string ho,.slice a5 n5 c5,.slice a6 n6 c6,.int .i64 ag,.int .i64 ea,.slice a9 n9 c9,.bool false,.slice none 0 0,.slice none 0 0] (by kernel_rfl) (by kernel_rfl) rfl rfl rfl (by kernel_rfl) rfl (by kernel_rfl) rfl (fun W n=>(RN.up n).there) iM (one13 _ _ _ _ _ _ _ _ _ _ _ _ _ _ _ _ _ _ _) ?_ ?_
 ·intro i hi
  obtain rfl | rfl | rfl | rfl | rfl | rfl | rfl | rfl | rfl | rfl | rfl | rfl | rfl | rfl | rfl | rfl | rfl | rfl | rfl | rfl | rfl | rfl | rfl | rfl | rfl | rfl | rfl | rfl | rfl | rfl | rfl | rfl | rfl | rfl | rfl | rfl | rfl | rfl | rfl | rfl:i=0∨i=1∨i=2∨i=3∨i=4∨i=5∨i=6∨i=7∨i=8∨i=9∨i=10∨i=11∨i=12∨i=13∨i=14∨i=15∨i=16∨i=17∨i=18∨i=19∨i=20∨i=21∨i=22∨i=23∨i=24∨i=25∨i=26∨i=27∨i=28∨i=29∨i=30∨i=31∨i=32∨i=33∨i=34∨i=35∨i=36∨i=37∨i=38∨i=39:=by omega
  ·refine step_pure rfl fun A ww hb hw hf => ?_
   have e3:A.tmps[3]?.getD undef = .pointer (some ⟨q,0,none⟩):=gdv (hb.2.2 3 (by kernel_rfl))
   exact ⟨.pointer (some ⟨q,0,none⟩),by simp [go_sem,e3],rfl⟩
  ·refine step_pure rfl fun A ww hb hw hf => ?_
   have e16:A.tmps[16]?.getD undef = .pointer (some ⟨q,0,none⟩):=gdv (hf 0 16 (by kernel_rfl))
   exact ⟨.pointer (some ⟨q,0,none⟩),by simp [go_sem,e16],rfl⟩
  ·refine step_pure rfl fun A ww hb hw hf => ?_
   have e17:A.tmps[17]?.getD undef = .pointer (some ⟨q,0,none⟩):=gdv (hf 1 17 (by kernel_rfl))
   exact ⟨.pointer (some ⟨q,0,none⟩),by simp [go_sem,e17],rfl⟩
  ·refine step_pure rfl fun A ww hb hw hf => ?_
   have e18:A.tmps[18]?.getD undef = .pointer (some ⟨q,0,none⟩):=gdv (hf 2 18 (by kernel_rfl))
   exact ⟨.pointer (some ⟨q,0,none⟩),by simp [go_sem,e18],rfl⟩
  ·refine step_pure rfl fun A ww hb hw hf => ?_
   have e19:A.tmps[19]?.getD undef = .pointer (some ⟨q,0,none⟩):=gdv (hf 3 19 (by kernel_rfl))
   have hc:ww.cell? ⟨q,0,none⟩=some (Value.int .i64 v):=(h.up hw).cell 0
   exact ⟨Value.int .i64 v,by simp [go_sem,e19,hc],rfl⟩
  ·refine step_pure rfl fun A ww hb hw hf => ?_
   have e3:A.tmps[3]?.getD undef = .pointer (some ⟨q,0,none⟩):=gdv (hb.2.2 3 (by kernel_rfl))
   exact ⟨.pointer (some ⟨q,0,none⟩),by simp [go_sem,e3],rfl⟩
  ·refine step_pure rfl fun A ww hb hw hf => ?_
   have e21:A.tmps[21]?.getD undef = .pointer (some ⟨q,0,none⟩):=gdv (hf 5 21 (by kernel_rfl))
   exact ⟨.pointer (some ⟨q,0,none⟩),by simp [go_sem,e21],rfl⟩
  ·refine step_pure rfl fun A ww hb hw hf => ?_
   have e22:A.tmps[22]?.getD undef = .pointer (some ⟨q,0,none⟩):=gdv (hf 6 22 (by kernel_rfl))
   exact ⟨.pointer (some ⟨q,0,none⟩),by simp [go_sem,e22],rfl⟩
  ·refine step_pure rfl fun A ww hb hw hf => ?_
   have e23:A.tmps[23]?.getD undef = .pointer (some ⟨q,0,none⟩):=gdv (hf 7 23 (by kernel_rfl))
   exact ⟨.pointer (some ⟨q,1,none⟩),by simp [go_sem,e23],rfl⟩
  ·refine step_pure rfl fun A ww hb hw hf => ?_
   have e24:A.tmps[24]?.getD undef = .pointer (some ⟨q,1,none⟩):=gdv (hf 8 24 (by kernel_rfl))
   have hc:ww.cell? ⟨q,1,none⟩=some (Value.slice a2 n2 c2):=(h.up hw).cell 1
   exact ⟨Value.slice a2 n2 c2,by simp [go_sem,e24,hc],rfl⟩
  ·refine step_pure rfl fun A ww hb hw hf => ?_
   have e3:A.tmps[3]?.getD undef = .pointer (some ⟨q,0,none⟩):=gdv (hb.2.2 3 (by kernel_rfl))
   exact ⟨.pointer (some ⟨q,0,none⟩),by simp [go_sem,e3],rfl⟩
  ·refine step_pure rfl fun A ww hb hw hf => ?_
   have e26:A.tmps[26]?.getD undef = .pointer (some ⟨q,0,none⟩):=gdv (hf 10 26 (by kernel_rfl))
   exact ⟨.pointer (some ⟨q,0,none⟩),by simp [go_sem,e26],rfl⟩
  ·refine step_pure rfl fun A ww hb hw hf => ?_
   have e27:A.tmps[27]?.getD undef = .pointer (some ⟨q,0,none⟩):=gdv (hf 11 27 (by kernel_rfl))
   exact ⟨.pointer (some ⟨q,0,none⟩),by simp [go_sem,e27],rfl⟩
  ·refine step_pure rfl fun A ww hb hw hf => ?_
   have e28:A.tmps[28]?.getD undef = .pointer (some ⟨q,0,none⟩):=gdv (hf 12 28 (by kernel_rfl))
   exact ⟨.pointer (some ⟨q,2,none⟩),by simp [go_sem,e28],rfl⟩
  ·refine step_pure rfl fun A ww hb hw hf => ?_
   have e29:A.tmps[29]?.getD undef = .pointer (some ⟨q,2,none⟩):=gdv (hf 13 29 (by kernel_rfl))
   have hc:ww.cell? ⟨q,2,none⟩=some (Value.slice a3 n3 c3):=(h.up hw).cell 2
   exact ⟨Value.slice a3 n3 c3,by simp [go_sem,e29,hc],rfl⟩
  ·refine step_pure rfl fun A ww hb hw hf => ?_
   have e3:A.tmps[3]?.getD undef = .pointer (some ⟨q,0,none⟩):=gdv (hb.2.2 3 (by kernel_rfl))
   exact ⟨.pointer (some ⟨q,0,none⟩),by simp [go_sem,e3],rfl⟩
  ·refine step_pure rfl fun A ww hb hw hf => ?_
   have e31:A.tmps[31]?.getD undef = .pointer (some ⟨q,0,none⟩):=gdv (hf 15 31 (by kernel_rfl))
   exact ⟨.pointer (some ⟨q,0,none⟩),by simp [go_sem,e31],rfl⟩
  ·refine step_pure rfl fun A ww hb hw hf => ?_
   have e32:A.tmps[32]?.getD undef = .pointer (some ⟨q,0,none⟩):=gdv (hf 16 32 (by kernel_rfl))
   exact ⟨.pointer (some ⟨q,3,none⟩),by simp [go_sem,e32],rfl⟩
  ·refine step_pure rfl fun A ww hb hw hf => ?_
   have e33:A.tmps[33]?.getD undef = .pointer (some ⟨q,3,none⟩):=gdv (hf 17 33 (by kernel_rfl))
   have hc:ww.cell? ⟨q,3,none⟩=some (Value.string ho):=(h.up hw).cell 3
   exact ⟨Value.string ho,by simp [go_sem,e33,hc],rfl⟩
  ·refine step_pure rfl fun A ww hb hw hf => ?_
   have e3:A.tmps[3]?.getD undef = .pointer (some ⟨q,0,none⟩):=gdv (hb.2.2 3 (by kernel_rfl))
   exact ⟨.pointer (some ⟨q,0,none⟩),by simp [go_sem,e3],rfl⟩
  ·refine step_pure rfl fun A ww hb hw hf => ?_
   have e35:A.tmps[35]?.getD undef = .pointer (some ⟨q,0,none⟩):=gdv (hf 19 35 (by kernel_rfl))
   exact ⟨.pointer (some ⟨q,0,none⟩),by simp [go_sem,e35],rfl⟩
  ·refine step_pure rfl fun A ww hb hw hf => ?_
   have e36:A.tmps[36]?.getD undef = .pointer (some ⟨q,0,none⟩):=gdv (hf 20 36 (by kernel_rfl))
   exact ⟨.pointer (some ⟨q,4,none⟩),by simp [go_sem,e36],rfl⟩
  ·refine step_pure rfl fun A ww hb hw hf => ?_
   have e37:A.tmps[37]?.getD undef = .pointer (some ⟨q,4,none⟩):=gdv (hf 21 37 (by kernel_rfl))
   have hc:ww.cell? ⟨q,4,none⟩=some (Value.slice a5 n5 c5):=(h.up hw).cell 4
   exact ⟨Value.slice a5 n5 c5,by simp [go_sem,e37,hc],rfl⟩
  ·refine step_pure rfl fun A ww hb hw hf => ?_
   have e3:A.tmps[3]?.getD undef = .pointer (some ⟨q,0,none⟩):=gdv (hb.2.2 3 (by kernel_rfl))
   exact ⟨.pointer (some ⟨q,0,none⟩),by simp [go_sem,e3],rfl⟩
  ·refine step_pure rfl fun A ww hb hw hf => ?_
   have e39:A.tmps[39]?.getD undef = .pointer (some ⟨q,0,none⟩):=gdv (hf 23 39 (by kernel_rfl))
   exact ⟨.pointer (some ⟨q,0,none⟩),by simp [go_sem,e39],rfl⟩
  ·refine step_pure rfl fun A ww hb hw hf => ?_
   have e40:A.tmps[40]?.getD undef = .pointer (some ⟨q,0,none⟩):=gdv (hf 24 40 (by kernel_rfl))
   exact ⟨.pointer (some ⟨q,5,none⟩),by simp [go_sem,e40],rfl⟩
  ·refine step_pure rfl fun A ww hb hw hf => ?_
   have e41:A.tmps[41]?.getD undef = .pointer (some ⟨q,5,none⟩):=gdv (hf 25 41 (by kernel_rfl))
   have hc:ww.cell? ⟨q,5,none⟩=some (Value.slice a6 n6 c6):=(h.up hw).cell 5
   exact ⟨Value.slice a6 n6 c6,by simp [go_sem,e41,hc],rfl⟩
  ·refine step_pure rfl fun A ww hb hw hf => ?_
   have e3:A.tmps[3]?.getD undef = .pointer (some ⟨q,0,none⟩):=gdv (hb.2.2 3 (by kernel_rfl))
   exact ⟨.pointer (some ⟨q,0,none⟩),by simp [go_sem,e3],rfl⟩
  ·refine step_pure rfl fun A ww hb hw hf => ?_
   have e43:A.tmps[43]?.getD undef = .pointer (some ⟨q,0,none⟩):=gdv (hf 27 43 (by kernel_rfl))
   exact ⟨.pointer (some ⟨q,0,none⟩),by simp [go_sem,e43],rfl⟩
  ·refine step_pure rfl fun A ww hb hw hf => ?_
   have e44:A.tmps[44]?.getD undef = .pointer (some ⟨q,0,none⟩):=gdv (hf 28 44 (by kernel_rfl))
   exact ⟨.pointer (some ⟨q,6,none⟩),by simp [go_sem,e44],rfl⟩
  ·refine step_pure rfl fun A ww hb hw hf => ?_
   have e45:A.tmps[45]?.getD undef = .pointer (some ⟨q,6,none⟩):=gdv (hf 29 45 (by kernel_rfl))
   have hc:ww.cell? ⟨q,6,none⟩=some (Value.int .i64 ag):=(h.up hw).cell 6
   exact ⟨Value.int .i64 ag,by simp [go_sem,e45,hc],rfl⟩
  ·refine step_pure rfl fun A ww hb hw hf => ?_
   have e3:A.tmps[3]?.getD undef = .pointer (some ⟨q,0,none⟩):=gdv (hb.2.2 3 (by kernel_rfl))
   exact ⟨.pointer (some ⟨q,0,none⟩),by simp [go_sem,e3],rfl⟩
  ·refine step_pure rfl fun A ww hb hw hf => ?_
   have e47:A.tmps[47]?.getD undef = .pointer (some ⟨q,0,none⟩):=gdv (hf 31 47 (by kernel_rfl))
   exact ⟨.pointer (some ⟨q,0,none⟩),by simp [go_sem,e47],rfl⟩
  ·refine step_pure rfl fun A ww hb hw hf => ?_
   have e48:A.tmps[48]?.getD undef = .pointer (some ⟨q,0,none⟩):=gdv (hf 32 48 (by kernel_rfl))
   exact ⟨.pointer (some ⟨q,7,none⟩),by simp [go_sem,e48],rfl⟩
  ·refine step_pure rfl fun A ww hb hw hf => ?_
   have e49:A.tmps[49]?.getD undef = .pointer (some ⟨q,7,none⟩):=gdv (hf 33 49 (by kernel_rfl))
   have hc:ww.cell? ⟨q,7,none⟩=some (Value.int .i64 ea):=(h.up hw).cell 7
   exact ⟨Value.int .i64 ea,by simp [go_sem,e49,hc],rfl⟩
  ·refine step_pure rfl fun A ww hb hw hf => ?_
   have e3:A.tmps[3]?.getD undef = .pointer (some ⟨q,0,none⟩):=gdv (hb.2.2 3 (by kernel_rfl))
   exact ⟨.pointer (some ⟨q,0,none⟩),by simp [go_sem,e3],rfl⟩
  ·refine step_pure rfl fun A ww hb hw hf => ?_
   have e51:A.tmps[51]?.getD undef = .pointer (some ⟨q,0,none⟩):=gdv (hf 35 51 (by kernel_rfl))
   exact ⟨.pointer (some ⟨q,0,none⟩),by simp [go_sem,e51],rfl⟩
  ·refine step_pure rfl fun A ww hb hw hf => ?_
   have e52:A.tmps[52]?.getD undef = .pointer (some ⟨q,0,none⟩):=gdv (hf 36 52 (by kernel_rfl))
   exact ⟨.pointer (some ⟨q,8,none⟩),by simp [go_sem,e52],rfl⟩
  ·refine step_pure rfl fun A ww hb hw hf => ?_
   have e53:A.tmps[53]?.getD undef = .pointer (some ⟨q,8,none⟩):=gdv (hf 37 53 (by kernel_rfl))
   have hc:ww.cell? ⟨q,8,none⟩=some (Value.slice a9 n9 c9):=(h.up hw).cell 8
   exact ⟨Value.slice a9 n9 c9,by simp [go_sem,e53,hc],rfl⟩
  ·refine step_pure rfl fun A ww hb hw hf => ?_
   have x20:A.eval (.tmp 20)=Value.int .i64 v:=hf 4 20 (by kernel_rfl)
   have x25:A.eval (.tmp 25)=Value.slice a2 n2 c2:=hf 9 25 (by kernel_rfl)
   have x30:A.eval (.tmp 30)=Value.slice a3 n3 c3:=hf 14 30 (by kernel_rfl)
   have x34:A.eval (.tmp 34)=Value.string ho:=hf 18 34 (by kernel_rfl)
   have x38:A.eval (.tmp 38)=Value.slice a5 n5 c5:=hf 22 38 (by kernel_rfl)
   have x42:A.eval (.tmp 42)=Value.slice a6 n6 c6:=hf 26 42 (by kernel_rfl)
   have x46:A.eval (.tmp 46)=Value.int .i64 ag:=hf 30 46 (by kernel_rfl)
   have x50:A.eval (.tmp 50)=Value.int .i64 ea:=hf 34 50 (by kernel_rfl)
   have x54:A.eval (.tmp 54)=Value.slice a9 n9 c9:=hf 38 54 (by kernel_rfl)
   exact ⟨.agg #[.int .i64 1,.int .i64 v,.slice a2 n2 c2,.slice a3 n3 c3,.string ho,.slice a5 n5 c5,.slice a6 n6 c6,.int .i64 ag,.int .i64 ea,.slice a9 n9 c9,.bool false,.slice none 0 0,.slice none 0 0],ex_bu ww v ag ea a2 a3 a5 a6 a9 n2 n3 n5 n6 n9 c2 c3 c5 c6 c9 ho rfl x20 x25 x30 x34 x38 x42 x46 x50 x54,rfl⟩
 intro vs W hw
 have th:=(RN.up hw).there
 have RR:=World.rangeAt_setCells_same W w.heap.size 0 [.int .i64 1,.int .i64 v,.slice a2 n2 c2,.slice a3 n3 c3,.string ho,.slice a5 n5 c5,.slice a6 n6 c6,.int .i64 ag,.int .i64 ea,.slice a9 n9 c9,.bool false,.slice none 0 0,.slice none 0 0] th
 have OQ:=only_setM W w.heap.size [.int .i64 1,.int .i64 v,.slice a2 n2 c2,.slice a3 n3 c3,.string ho,.slice a5 n5 c5,.slice a6 n6 c6,.int .i64 ag,.int .i64 ea,.slice a9 n9 c9,.bool false,.slice none 0 0,.slice none 0 0] 0
 have N2:Below w.heap.size w (W.setCells w.heap.size 0 [.int .i64 1,.int .i64 v,.slice a2 n2 c2,.slice a3 n3 c3,.string ho,.slice a5 n5 c5,.slice a6 n6 c6,.int .i64 ag,.int .i64 ea,.slice a9 n9 c9,.bool false,.slice none 0 0,.slice none 0 0]):=(nxt n0 hw).trans (OQ.below (Nat.le_refl _))
 generalize W.setCells w.heap.size 0 [.int .i64 1,.int .i64 v,.slice a2 n2 c2,.slice a3 n3 c3,.string ho,.slice a5 n5 c5,.slice a6 n6 c6,.int .i64 ag,.int .i64 ea,.slice a9 n9 c9,.bool false,.slice none 0 0,.slice none 0 0]=W2 at *
 simp only [puts,Act.put,List.setIfInBounds_toArray,List.set_cons_succ,List.set_cons_zero]
 clear OQ th RN h
 go_wp2
 exact bodyPost_ret (v := .agg #[.int .i64 1,.int .i64 v,.slice a2 n2 c2,.slice a3 n3 c3,.string ho,.slice a5 n5 c5,.slice a6 n6 c6,.int .i64 ag,.int .i64 ea,.slice a9 n9 c9,.bool false,.slice none 0 0,.slice none 0 0]) (results_cellM Tryz.results36 _ _ w.heap.size [.int .i64 1,.int .i64 v,.slice a2 n2 c2,.slice a3 n3 c3,.string ho,.slice a5 n5 c5,.slice a6 n6 c6,.int .i64 ag,.int .i64 ea,.slice a9 n9 c9,.bool false,.slice none 0 0,.slice none 0 0] d13 rfl RR hd13 hrow13 iM) rfl ⟨rfl,N2⟩
end
def helloM (m:Msg):Msg:={ msg0 with k:=1,v:=m.v,r:=m.r,s:=m.s,ho:=m.ho,pr:=m.pr,ti:=m.ti,ag:=m.ag,ea:=m.ea,bi:=m.bi }
def helloQ (p:MQ):MQ:={ mq0 with a2:=p.a2,c2:=p.c2,g2:=p.g2,a3:=p.a3,c3:=p.c3,g3:=p.g3,a5:=p.a5,c5:=p.c5,g5:=p.g5,a6:=p.a6,c6:=p.c6,g6:=p.g6,a9:=p.a9,c9:=p.c9,g9:=p.g9 }
theorem helloM_is {m:Msg} (i:IsM m):IsM (helloM m):=⟨i.rB,i.sB,i.tiB,i.biB,byt0,none0 rfl,i.rL,i.sL,i.prL,i.tiL,i.biL,Nat.zero_le _,Nat.zero_le _,none0 rfl,i.hoL,i.prZ⟩
theorem helloM_has {w:World} {p:MQ} {m:Msg} (h:HasM w p m):HasM w (helloQ p) (helloM m):=⟨h.r,h.s,h.pr,h.ti,h.bi,rdL0 _ _ _ _,rd0 _ _ _ _,h.prC⟩
theorem typedHello_any (w:World) (p:MQ) (m:Msg) (h:HasM w p m) (i:IsM m) (hk:m.k=1) :
  Calls Tryz.prog 16 #[.agg (mgV p m)] w (TyP w (sameM (helloM m) m) 72 76 [.int .i64 m.v,.slice p.a2 m.r.length p.c2,.slice p.a3 m.s.length p.c3,.string ⟨⟨m.ho⟩⟩,.slice p.a5 m.pr.length p.c5,.slice p.a6 m.ti.length p.c6,.int .i64 m.ag,.int .i64 m.ea,.slice p.a9 m.bi.length p.c9] (heF m.v m.r.length m.s.length m.ho m.pr m.ti.length m.bi.length m.ag m.ea)):=by
 obtain ⟨k,v,r,s,ho,pr,ti,ag,ea,bi,rs,ce,pf⟩:=m
 simp only at hk
 subst hk
 exact typedHello_walk w v ag ea p.a2 p.a3 p.a5 p.a6 p.a9 p.a11 p.a12 r.length s.length pr.length ti.length bi.length ce.length pf.length p.c2 p.c3 p.c5 p.c6 p.c9 p.c11 p.c12 ⟨⟨ho⟩⟩ rs (mgV (helloQ p) (helloM ⟨1,v,r,s,ho,pr,ti,ag,ea,bi,rs,ce,pf⟩)) (sameM (helloM ⟨1,v,r,s,ho,pr,ti,ag,ea,bi,rs,ce,pf⟩) ⟨1,v,r,s,ho,pr,ti,ag,ea,bi,rs,ce,pf⟩) _
  (fun W q R=>helloTake_any W q _ _ _ _ _ _ _ _ _ _ _ _ _ _ _ _ _ _ _ _ _ _ _ _ _ _ _ _ _ _ _ _ _ _ _ _ _ R)
  (fun W q R=>plainHello_any W q _ _ _ _ _ _ _ _ _ _ _ _ _ _ _ _ _ _ _ _ R)
  (fun W n=>isSame_any W (helloQ p) p _ _ (helloM_has (h.up n)) (h.up n) (helloM_is i) i)
  (fun W q n R=>(helloFault_any W q _ _ _ _ _ _ _ _ _ _ _ _ _ _ _ p.g5 _ _ _ _ i.rL i.sL i.tiL i.biL i.hoL (h.pr.up n) h.prC i.prL i.prZ (R.cell 0) (R.cell 1) (R.cell 2) (R.cell 3) (R.cell 4) (R.cell 5) (R.cell 6) (R.cell 7) (R.cell 8)).mono (by rintro e w' ⟨rfl,rfl⟩;exact ⟨rfl,Below.refl _ _⟩))
end Go.Proofs.YtmmbkkfjiaoeiaaGreat
namespace Go.Proofs.YtmmbkkfjiaoeiaaGreat
open Go Go.RowKit
def txL (l:List UInt8):List Int:=l.map fun b=>(b.toNat:Int)
theorem txL_len (l:List UInt8):(txL l).length=l.length:=by simp [txL]
theorem appendT_any {P:Program} (w:World) (ty:TypeId) (i:TypeInfo) (ht:P.underlying 22=some (.slice 5)) (hu:P.underlying 9=some .string) (hi:P.info? 5=some i) (hz:i.zero=some (.int .u8 0)) (hsize:i.size=1) (hby:i.bytes=1)
  (base B:Nat) (v:Value) (xs:List Int) (hown:RowB w base v xs) (l:List UInt8) (hl:xs.length+l.length≤1099511627776) (hB:B≤base) (hbase:base≤w.heap.size) :
  ∃ v' w',(Builtin.append_ #[22,9] ty #[v,.string ⟨⟨l⟩⟩]).run P w = .ok v' w'∧RowB w' base v' (xs ++ txL l)∧Below B w w':=by
 have hs:(ByteArray.mk ⟨l⟩).size=l.length:=rfl
 obtain ⟨v',w',h1,h2,h3,_⟩:=Lib.run_append_own_string (P:=P) w base 22 9 ty 5 i ht hu hi hz hsize hby v xs.length (xs.map (Value.int .u8)) hown ⟨⟨l⟩⟩ (by rw [hs];unfold maxLen;omega) (by rw [hs];omega) hbase
 refine ⟨v',w',h1,?_,(Below.refl B w).grown h3 (by omega) (fun k hk=>by have:=(World.ownsRow.lt hown k hk).1;omega)⟩
 show w'.ownsRow base 5 1 v' (xs ++ txL l).length ((xs ++ txL l).map (Value.int .u8))
 rw [List.length_append,List.map_append,txL_len]
 have e:(txL l).map (Value.int .u8)=Lib.strCells ⟨⟨l⟩⟩:=by simp [txL,Lib.strCells]
 rw [e]
 exact h2
end Go.Proofs.YtmmbkkfjiaoeiaaGreat
namespace Go.Proofs.YtmmbkkfjiaoeiaaGreat
open Go Go.RowKit
theorem RowB.nil (w:World) (base:Nat):RowB w base (.slice none 0 0) []:=⟨rfl,.inl ⟨rfl,rfl⟩⟩
end Go.Proofs.YtmmbkkfjiaoeiaaGreat
namespace Go.Proofs.YtmmbkkfjiaoeiaaGreat
open Go Go.RowKit
def shL (l:List UInt8):List Int:=bigL (l.length:Int) 1 ++ txL l
theorem shL_len (l:List UInt8):(shL l).length=l.length+1:=by simp [shL,bigL_len,txL_len];omega
set_option maxRecDepth 100000 in
set_option maxHeartbeats 1000000 in
theorem appendShort_any (w:World) (base:Nat) (v:Value) (xs:List Int) (R0:RowB w base v xs) (hb:base≤w.heap.size) (l:List UInt8) (hl:xs.length≤1073741824) (hz:l.length≤1048576) :
  Calls Tryz.prog 91 #[v,.string ⟨⟨l⟩⟩] w fun e w'=>∃ v',e = .returned v'∧RowB w' base v' (xs ++ shL l)∧Below base w w':=by
 obtain ⟨i0,hi,hz0,hz1,hz2⟩:=info_parts Tryz.info5
 have C1:=hide (appendNum_any w base v xs R0 hb (l.length:Int) 1 (by omega) hl)
 have sz:=tx_size l
 go_enter Tryz.func91,Tryz.ntmps91
 go_wp2_with fail
 refine C1.out.mono ?_
 rintro r w1 ⟨v1,rfl,R1,n1⟩
 have s1:=n1.size
 obtain ⟨v2,w2,hap,R2,n2⟩:=appendT_any (P:=Tryz.prog) w1 22 i0 Tryz.underlying22 Tryz.underlying9 hi hz0 hz1 hz2 base base _ _ R1 l (by rw [List.length_append,bigL_len];omega) (Nat.le_refl _) (by omega)
 rw [List.append_assoc] at R2
 have N2:=n1.trans n2
 clear R1 n1 n2 C1 R0
 go_wp2_with (at_builtin;refine Lib.wpList_append_run _ rfl _ _ 22 9 rfl _ _ rfl rfl _ _ hap ?_)
 go_ret
 exact ⟨_,rfl,R2,N2⟩
end Go.Proofs.YtmmbkkfjiaoeiaaGreat
namespace Go.Proofs.YtmmbkkfjiaoeiaaGreat
open Go Go.RowKit
theorem bigL_take (n:Int) (t k:Nat) (h:k < t):(bigL n t).take (k+1)=(bigL n t).take k ++ [n / 256 ^ (t - 1 - k) % 256]:=by
 rw [List.take_add_one]
 simp [bigL,h]
set_option maxHeartbeats 2000000 in
theorem appendNumber_any (w : World) (base : Nat) (v : Value) (xs : List Int) (R0 : RowB w base v xs) (hb : base ≤ w.heap.size) (n : Int) (t : Nat) (ht : t ≤ 4) (hl : xs.length ≤ 1073741824) :
  Calls Tryz.prog 17 #[v,.int .i64 n,.int .i64 (t:Int)] w fun e w'=>∃ v',e = .returned v'∧RowB w' base v' (xs ++ bigL n t)∧Below base w w':=by
 obtain ⟨i0,hi,hz0,hz1,hz2⟩:=info_parts Tryz.info5
 go_enter Tryz.func17,Tryz.ntmps17
 go_wp2
 go_loopw [0,7,9] (fun l _ i wr=>∃ k:Nat,k≤t∧i = .int .i64 k∧RowB wr base l (xs ++ (bigL n t).take k)∧Below base w wr) (fun _ _ i _=>t - (intOf i).toNat)
 case atStart=>exact ⟨0,Nat.zero_le _,rfl,by simpa using R0,Below.refl _ _⟩
 case round =>
  obtain ⟨k,hk,rfl,R,hN⟩:=hrel
  by_cases hlt:k < t
  ·have hs := hN.size
   have bt:=bigL_take n t k hlt
   obtain ⟨x,hx⟩:∃ x,x=n / 256 ^ (t - 1 - k) % 256:=⟨_,rfl⟩
   rw [← hx] at bt
   have BT:=hide bt
   clear bt
   have n2:Below wr.heap.size wr (wr.alloc (.cells #[.int .u8 x] 5)):=(Below.refl _ _).alloc (Nat.le_refl _) _
   obtain ⟨v3,w3,hap3,R3,n3⟩:=append_any (P:=Tryz.prog) (wr.alloc (.cells #[.int .u8 x] 5)) 22 i0 Tryz.underlying22 hi hz0 hz1 hz2 base base _ _ (R.up n2) _ _ 1 [x] (blk_lit1 wr .u8 5 x).own0.rd (by simp) (by simp;omega) (Nat.le_refl _) (by simp;omega)
   rw [List.append_assoc,← BT.out] at R3
   have N3:=(hN.trans (n2.mono (by omega))).trans n3
   clear R n2 n3 hN BT
   have k1:(k:Int) < (t:Int):=by omega
   obtain ⟨d,hd⟩:∃ d,d=t - 1 - k:=⟨_,rfl⟩
   rw [← hd] at hx
   rcases (by omega:d=0∨d=1∨d=2∨d=3) with rfl | rfl | rfl | rfl
   ·have he : (t : Int) - 1 - (k : Int) = 0 := by omega
    clear hd
    simp at hx
    replace hx:=hx.symm
    go_wp2_with (at_builtin;refine Lib.wpList_append_run _ rfl _ _ 22 22 rfl _ _ rfl rfl _ _ hap3 ?_)
    clear hap3
    go_roundw
    case rel=>exact ⟨k+1,by omega,by go_num,R3,N3⟩
    case measure=>simp [intOf];omega
   ·have he : (t : Int) - 1 - (k : Int) = 1 := by omega
    clear hd
    simp at hx
    replace hx:=hx.symm
    go_wp2_with (at_builtin;refine Lib.wpList_append_run _ rfl _ _ 22 22 rfl _ _ rfl rfl _ _ hap3 ?_)
    clear hap3
    go_roundw
    case rel=>exact ⟨k+1,by omega,by go_num,R3,N3⟩
    case measure=>simp [intOf];omega
   ·have he : (t : Int) - 1 - (k : Int) = 2 := by omega
    clear hd
    simp at hx
    replace hx:=hx.symm
    go_wp2_with (at_builtin;refine Lib.wpList_append_run _ rfl _ _ 22 22 rfl _ _ rfl rfl _ _ hap3 ?_)
    clear hap3
    go_roundw
    case rel=>exact ⟨k+1,by omega,by go_num,R3,N3⟩
    case measure=>simp [intOf];omega
   ·have he : (t : Int) - 1 - (k : Int) = 3 := by omega
    clear hd
    simp at hx
    replace hx:=hx.symm
    go_wp2_with (at_builtin;refine Lib.wpList_append_run _ rfl _ _ 22 22 rfl _ _ rfl rfl _ _ hap3 ?_)
    clear hap3
    go_roundw
    case rel=>exact ⟨k+1,by omega,by go_num,R3,N3⟩
    case measure=>simp [intOf];omega
  ·obtain rfl : k = t := by omega
   rw [List.take_of_length_le (by rw [bigL_len];exact Nat.le_refl _)] at R
   go_wp2
   go_ret
   exact ⟨_,rfl,R,hN⟩
def loL (xs:List Int):List Int:=bigL (xs.length:Int) 2 ++ xs
def lsL (ls:List (List UInt8)):List Int:=[(ls.length:Int)] ++ (ls.map shL).flatten
def clL (bs:List (List Int)):List Int:=[(bs.length:Int)] ++ (bs.map loL).flatten
theorem loL_len (l:List Int):(loL l).length=l.length+2:=by simp [loL,bigL_len];omega
set_option maxHeartbeats 1000000 in
theorem appendLong_any (w:World) (base:Nat) (v:Value) (xs:List Int) (R0:RowB w base v xs) (hb:base≤w.heap.size) (g:Nat) (a:Option Addr) (c:Nat) (us:List Int) (hr:Rd w g a .u8 us) (hc:a=none→c=0) (hg:us.length=0∨g < base) (hl:xs.length≤1073741824) (hz:us.length≤1048576) :
  Calls Tryz.prog 94 #[v,.slice a us.length c] w fun e w'=>∃ v',e = .returned v'∧RowB w' base v' (xs ++ loL us)∧Below base w w':=by
 obtain ⟨i0,hi,hz0,hz1,hz2⟩:=info_parts Tryz.info5
 have C1:=hide (appendNumber_any w base v xs R0 hb (us.length:Int) 2 (by omega) hl)
 go_enter Tryz.func94,Tryz.ntmps94
 go_wp2_with fail
 refine C1.out.mono ?_
 rintro r w1 ⟨v1,rfl,R1,n1⟩
 have s1:=n1.size
 have hr1:Rd w1 g a .u8 us:=by
  by_cases h0:0 < us.length
  ·exact hr.of_block (n1.block g (by omega))
  ·exact fun h=>absurd h h0
 obtain ⟨v2,w2,hap,R2,n2⟩:=append_any (P:=Tryz.prog) w1 22 i0 Tryz.underlying22 hi hz0 hz1 hz2 base base _ _ R1 g a c us hr1 hc (by rw [List.length_append,bigL_len];omega) (Nat.le_refl _) (by omega)
 rw [List.append_assoc] at R2
 have N2:=n1.trans n2
 clear R1 n1 n2 C1 R0 hr hr1 hg
 go_wp2_with (at_builtin;refine Lib.wpList_append_run _ rfl _ _ 22 22 rfl _ _ rfl rfl _ _ hap ?_)
 go_ret
 exact ⟨_,rfl,R2,N2⟩
theorem RdT.at_base {w w':World} {g base:Nat} {a:Option Addr} {ls:List (List UInt8)} (h:RdT w g a ls) (hg:ls.length=0∨g < base) (n:Below base w w'):RdT w' g a ls:=by
 by_cases h0:0 < ls.length
 ·exact h.of_block (n.block g (by omega))
 ·exact fun h1=>absurd h1 h0
theorem Rd.at_base {w w':World} {g base:Nat} {a:Option Addr} {xs:List Int} (h:Rd w g a .u8 xs) (hg:xs.length=0∨g < base) (n:Below base w w'):Rd w' g a .u8 xs:=by
 by_cases h0:0 < xs.length
 ·exact h.of_block (n.block g (by omega))
 ·exact fun h1=>absurd h1 h0
theorem sh_take (ls:List (List UInt8)) (k:Nat) (h:k < ls.length):((ls.map shL).take (k+1)).flatten=((ls.map shL).take k).flatten ++ shL (ls.getD k []):=by
 rw [List.take_add_one]
 simp [h]
theorem sh_sum (ls:List (List UInt8)) (B:Nat) (hz:∀ l ∈ ls,l.length≤B) (k:Nat):((ls.map shL).take k).flatten.length≤k*(B+1):=by
  induction k with
  | zero=>simp
  | succ k ih =>
    by_cases h:k < ls.length
    · rw [sh_take ls k h, List.length_append, shL_len, Nat.succ_mul]
      have:=hz (ls.getD k []) (by rw [List.getD_eq_getElem?_getD,List.getElem?_eq_getElem h];exact List.getElem_mem h)
      omega
    · rw [List.take_of_length_le (by simp; omega)]
      rw [List.take_of_length_le (by simp;omega)] at ih
      rw [Nat.succ_mul]
      omega
set_option maxHeartbeats 1000000 in
theorem appendShorts_any (w : World) (base : Nat) (v : Value) (xs : List Int) (R0 : RowB w base v xs) (hb : base ≤ w.heap.size) (g : Nat) (a : Option Addr) (c : Nat) (ls : List (List UInt8)) (hr : RdT w g a ls) (hg : ls.length = 0 ∨ g < base) (hl : xs.length ≤ 536870912) (hn : ls.length ≤ 8) (hz : ∀ l ∈ ls, l.length ≤ 1048576) :
  Calls Tryz.prog 93 #[v,.slice a ls.length c] w fun e w'=>∃ v',e = .returned v'∧RowB w' base v' (xs ++ lsL ls)∧Below base w w':=by
 obtain ⟨i0,hi,hz0,hz1,hz2⟩:=info_parts Tryz.info5
 have n2:Below w.heap.size w (w.alloc (.cells #[.int .u8 (ls.length:Int)] 5)):=(Below.refl _ _).alloc (Nat.le_refl _) _
 obtain ⟨v3,w3,hap3,R3,n3⟩:=append_any (P:=Tryz.prog) (w.alloc (.cells #[.int .u8 (ls.length:Int)] 5)) 22 i0 Tryz.underlying22 hi hz0 hz1 hz2 base base _ _ (R0.up n2) _ _ 1 [(ls.length:Int)] (blk_lit1 w .u8 5 (ls.length:Int)).own0.rd (by simp) (by simp;omega) (Nat.le_refl _) (by simp;omega)
 have N3:=(n2.mono hb).trans n3
 have SUM:=hide (sh_sum ls 1048576 hz)
 have HZ:=hide hz
 clear n2 n3 R0 hz
 go_enter Tryz.func93,Tryz.ntmps93
 go_wp2_with (at_builtin;refine Lib.wpList_append_run _ rfl _ _ 22 22 rfl _ _ rfl rfl _ _ hap3 ?_)
 clear hap3
 go_loopw [0,6,15] (fun q _ i wr=>∃ k:Nat,k≤ls.length∧i = .int .i64 k∧RowB wr base q (xs ++ [(ls.length:Int)] ++ ((ls.map shL).take k).flatten)∧Below base w wr) (fun _ _ i _=>ls.length - (intOf i).toNat)
 case atStart=>exact ⟨0,Nat.zero_le _,rfl,by simpa using R3,N3⟩
 case round =>
  obtain ⟨k,hk,rfl,R,hN⟩:=hrel
  clear R3 N3
  by_cases hlt:k < ls.length
  ·have hs := hN.size
   obtain ⟨off,rfl,hc⟩:=(hr.at_base hg hN) (by omega)
   have t0:(k:Int) < (ls.length:Int):=by omega
   have c1:=hc k hlt
   have ST:=hide (sh_take ls k hlt)
   have zk:(ls.getD k []).length≤1048576:=HZ.out _ (by rw [List.getD_eq_getElem?_getD,List.getElem?_eq_getElem hlt];exact List.getElem_mem hlt)
   have CS:=hide (appendShort_any wr base _ _ R (by omega) (ls.getD k []) (by
    have:=SUM.out k
    have:k*(1048576+1)≤8*(1048576+1):=Nat.mul_le_mul_right _ (by omega)
    simp only [List.length_append,List.length_cons,List.length_nil]
    omega) zk)
   clear R hc zk hr
   generalize ls.getD k []=x at *
   simp only [tx] at c1
   go_wp2_with fail
   refine CS.out.mono ?_
   rintro r w4 ⟨v4,rfl,R4,n4⟩
   rw [List.append_assoc,← ST.out] at R4
   have N4:=hN.trans n4
   clear CS n4 hN ST c1
   go_wp2
   go_roundw
   case rel=>exact ⟨k+1,by omega,by go_num,R4,N4⟩
   case measure=>simp [intOf];omega
  ·obtain rfl : k = ls.length := by omega
   rw [List.take_of_length_le (by simp),List.append_assoc] at R
   clear hr
   go_wp2
   go_ret
   exact ⟨_,rfl,R,hN⟩
end Go.Proofs.YtmmbkkfjiaoeiaaGreat
namespace Go.Proofs.YtmmbkkfjiaoeiaaGreat
open Go Go.RowKit
structure Lst where
 g:Nat
 a:Option Addr
 c:Nat
 xs:List Int
def cat (ls:List Lst):List Int:=(ls.map Lst.xs).flatten
theorem cat_take (ls:List Lst) (j:Nat) (l:Lst) (h:ls[j]?=some l):cat (ls.take (j+1))=cat (ls.take j) ++ l.xs:=by
 unfold cat
 rw [List.take_add_one,h]
 simp
def Lsts (w:World) (b:Nat) (ls:List Lst):Prop:=∀ j l,ls[j]?=some l→w.cell? ⟨b,j,none⟩=some (.slice l.a l.xs.length l.c)
theorem Lsts.up {w w':World} {b:Nat} {ls:List Lst} (h:Lsts w b ls) (n:Below w.heap.size w w'):Lsts w' b ls:=fun j l hj=>by
 have:=h j l hj
 rw [World.cell?_of_block (a:=⟨b,j,none⟩) (n.block b (block_lt_of_cell this))]
 exact this
set_option maxRecDepth 100000 in
set_option maxHeartbeats 1000000 in
theorem grow_any (w:World) (n:Nat) (h0:0 < n) (h1:n≤4194304) :
  Calls Tryz.prog 110 #[.slice none 0 0,.int .i64 (n:Int)] w fun e w'=>∃ v,e = .returned v∧RowB w' w.heap.size v []∧Below w.heap.size w w':=by
 obtain ⟨i0,hi,hz0,hz1,hz2⟩:=info_parts Tryz.info5
 have hap:=Lib.run_append_nil_zeros (P:=Tryz.prog) w 22 3 22 5 i0 (.int .u8 0) .i64 .i64 Tryz.underlying22 Tryz.underlying3 hi hz0 n h0 (by omega) (by omega) (by rw [hz2];omega)
 have ge:=grownCap_ge w n 0 5
 have le:grownCap w n 0 5≤maxLen:=grownCap_le_maxLen w n 0 5 (by unfold maxLen;omega)
 have R:RowB (w.drew.alloc (.cells (Builtin.zeroCells (Value.int .u8 0).cells n ++ Builtin.zeroCells (Value.int .u8 0).cells (grownCap w n 0 5 - n)) 5)) w.heap.size (.slice (some ⟨w.heap.size,0,none⟩) 0 (grownCap w n 0 5)) [] :=
  ⟨rfl,.inr ⟨w.heap.size,grownCap w n 0 5,_,rfl,Nat.le_refl _,_root_.Go.heap_alloc_new w.drew _,Nat.zero_le _,le,by rw [Array.size_append,size_zeroCells,size_zeroCells];show n*1+(grownCap w n 0 5 - n)*1=_;omega,by simp⟩⟩
 have nb:Below w.heap.size w (w.drew.alloc (.cells (Builtin.zeroCells (Value.int .u8 0).cells n ++ Builtin.zeroCells (Value.int .u8 0).cells (grownCap w n 0 5 - n)) 5)):=((Below.refl _ _).drew).alloc (Nat.le_refl _) _
 generalize w.drew.alloc (.cells (Builtin.zeroCells (Value.int .u8 0).cells n ++ Builtin.zeroCells (Value.int .u8 0).cells (grownCap w n 0 5 - n)) 5)=w' at *
 generalize grownCap w n 0 5=cp at *
 have n0:decide ((n:Int) < 0)=false:=by simp
 have n1:decide ((0:Int) < (n:Int))=true:=by simp;omega
 have n2:decide (0 < n)=true:=by simpa using h0
 clear ge le
 go_enter Tryz.func110,Tryz.ntmps110
 go_wp2_with (at_builtin;refine Lib.wpList_append_run _ rfl _ _ 22 3 rfl _ _ rfl rfl _ _ hap ?_)
 go_ret
 exact ⟨_,rfl,R,nb⟩
theorem cat_len_le (ls:List Lst) (j:Nat):(cat (ls.take j)).length≤(cat ls).length:=by
 have:cat ls=cat (ls.take j) ++ cat (ls.drop j):=by
  unfold cat
  rw [← List.flatten_append,← List.map_append,List.take_append_drop]
 rw [this,List.length_append]
 omega
set_option maxRecDepth 100000 in
set_option maxHeartbeats 4000000 in
theorem concatB_any (w : World) (b n c : Nat) (ls : List Lst) (hn : ls.length = n) (hm : n ≤ 1000) (hs : Lsts w b ls) (hl : ∀ l ∈ ls, Rd w l.g l.a .u8 l.xs ∧ (l.a = none → l.c = 0)) (h0 : 0 < (cat ls).length) (h1 : (cat ls).length ≤ 4194304) :
  Calls Tryz.prog 107 #[.slice (some ⟨b,0,none⟩) n c] w fun e w'=>(∃ v,e = .returned v∧RowB w' w.heap.size v (cat ls))∧Below w.heap.size w w':=by
 obtain ⟨i0,hi,hz0,hz1,hz2⟩:=info_parts Tryz.info5
 have HN:=hide hn
 clear hn
 obtain ⟨rs,hrs⟩:∃ l,l=cat ls:=⟨_,rfl⟩
 have HR:=hide hrs
 rw [← hrs] at h0 h1 ⊢
 clear hrs
 have GR:=hide (grow_any w rs.length h0 h1)
 go_enter Tryz.func107,Tryz.ntmps107
 go_wp2
 go_loopw [3,5,11] (fun s _ i wr=>∃ (j:Nat),j≤n∧i = .int .i64 j∧s = .int .i64 ((cat (ls.take j)).length:Int)∧w=wr) (fun _ _ i _=>n - (intOf i).toNat)
 case atStart=>exact ⟨0,Nat.zero_le _,rfl,rfl,rfl⟩
 case round =>
  obtain ⟨j,hj,rfl,rfl,rfl⟩:=hrel
  by_cases hlt:j < n
  ·obtain ⟨l, hjl⟩ : ∃ l, ls[j]? = some l := ⟨ls[j]'(by rw [HN.out]; exact hlt), List.getElem?_eq_getElem _⟩
   have cc:=hs j l hjl
   have ct:=cat_take ls j l hjl
   have lb:=cat_len_le ls (j+1)
   rw [← HR.out,ct,List.length_append] at lb
   have CT:Hid ((cat (ls.take (j+1))).length=(cat (ls.take j)).length+l.xs.length):=by show _=_;rw [ct,List.length_append]
   clear ct
   generalize (cat (ls.take j)).length=cj at *
   have jn:(j:Int) < (n:Int):=by omega
   have c0:decide ((cj:Int)+(l.xs.length:Int) < 0)=false:=by simp;omega
   go_wp2
   go_roundw
   case rel=>exact ⟨j+1,by omega,by go_num,by rw [CT.out];go_num,by trivial⟩
   case measure=>simp [intOf];omega
  ·obtain rfl : j = n := by omega
   have e:ls.take j=ls:=List.take_of_length_le (by rw [HN.out];exact Nat.le_refl _)
   rw [e,← HR.out]
   clear e
   go_wp2_with fail
   refine GR.out.mono ?_
   rintro r w1 ⟨v1,rfl,R1,n1⟩
   go_wp2
   go_loopw [6,8,27] (fun v _ i wq=>∃ (k:Nat),k≤j∧i = .int .i64 k∧RowB wq w.heap.size v (cat (ls.take k))∧Below w.heap.size w wq) (fun _ _ i _=>j - (intOf i).toNat)
   case atStart=>exact ⟨0,Nat.zero_le _,rfl,R1,n1⟩
   case round =>
    obtain ⟨k,hk,rfl,R,hN⟩:=hrel
    clear R1 n1 GR
    by_cases hlt2:k < j
    ·obtain ⟨l, hjl⟩ : ∃ l, ls[k]? = some l := ⟨ls[k]'(by rw [HN.out]; exact hlt2), List.getElem?_eq_getElem _⟩
     have lm:l ∈ ls:=List.mem_of_getElem? hjl
     have cc:=(hs.up hN) k l hjl
     have ct:=cat_take ls k l hjl
     have lb:=cat_len_le ls (k+1)
     rw [← HR.out,ct,List.length_append] at lb
     obtain ⟨v',w2,hap,o2,n2⟩:=append_any (P:=Tryz.prog) wr 22 i0 Tryz.underlying22 hi hz0 hz1 hz2 w.heap.size w.heap.size _ _ R l.g l.a l.c l.xs ((hl l lm).1.up hN) (hl l lm).2 (by omega) (Nat.le_refl _) hN.size
     rw [← ct] at o2
     have N2:=hN.trans n2
     have kj:(k:Int) < (j:Int):=by omega
     clear ct lb R n2
     go_wp2_with (at_builtin;refine Lib.wpList_append_run _ rfl _ _ 22 22 rfl _ _ rfl rfl _ _ hap ?_)
     clear hap
     go_roundw
     case rel=>exact ⟨k+1,by omega,by go_num,o2,N2⟩
     case measure=>simp [intOf];omega
    ·obtain rfl : k = j := by omega
     have e:ls.take k=ls:=List.take_of_length_le (by rw [HN.out];exact Nat.le_refl _)
     rw [e,← HR.out] at R
     clear e
     go_wp2
     go_ret
     exact ⟨⟨_,rfl,R⟩,hN⟩
end Go.Proofs.YtmmbkkfjiaoeiaaGreat
