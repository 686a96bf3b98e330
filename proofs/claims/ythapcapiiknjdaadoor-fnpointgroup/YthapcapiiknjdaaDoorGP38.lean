import Derived.Test.YthapcapiiknjdaaDoorGP28
import Derived.Test.YthapcapiiknjdaaDoorGP37
import Derived.Test.YthapcapiiknjdaaDoorGP14
import Derived.Test.YthapcapiiknjdaaDoorGP1
import Derived.Laws.AppendOwnNone
import Derived.Lib.AppendZeros
import Derived.Deep.MidRow
import Derived.Test.YthapcapiiknjdaaDoorGP33

/-
  The law by facts for a region that draws its order, with guarded operations that all are wanted. No program in sight.
-/
namespace Go.Proofs.YthapcapiiknjdaaDoor
set_option maxRecDepth 100000
open Go Go.RowKit

section
variable {P : Program} {ops : Array Oper} {Q : Exit → Act → World → Prop} {md : Region.Mode} {F : Nat → Fact} {a0 : Act} {w0 : World}

def textEnd (md : Region.Mode) (ops : Array Oper) (n : Nat) : Bool :=
  (ops.all fun o => match o.dst with | some d => decide (d < n) | none => true)
  && ((List.range ops.size).all fun i => match ops[i]? with
    | some o => o.after.all (fun e => !Region.binds md e || decide (e.on < i)) && (List.range i).all fun j => match ops[j]? with
      | some x => x.dst.isNone || o.dst != x.dst
      | none => true
    | none => true)
structure TextE (md : Region.Mode) (ops : Array Oper) (n : Nat) : Prop where
  d : ∀ (i : Nat) o d, ops[i]? = some o → o.dst = some d → d < n
  a : ∀ (i : Nat) o, ops[i]? = some o → ∀ e ∈ o.after, Region.binds md e = true → e.on < i
  x : ∀ (i j : Nat) o o' d, ops[i]? = some o → ops[j]? = some o' → i ≠ j → o.dst = some d → o'.dst ≠ some d
theorem textE_of {n : Nat} (h : textEnd md ops n = true) : TextE md ops n := by
  unfold textEnd at h
  simp only [Bool.and_eq_true] at h
  obtain ⟨h1, h2⟩ := h
  rw [Array.all_eq_true_iff_forall_mem] at h1
  rw [List.all_eq_true] at h2
  have H : ∀ (i j : Nat) o o' d, j < i → ops[i]? = some o → ops[j]? = some o' → o.dst = some d → o'.dst ≠ some d := by
    intro i j o o' d hij hi hj hd hd'
    have q := h2 i (List.mem_range.2 (Array.getElem?_eq_some_iff.1 hi).1)
    simp only [hi, Bool.and_eq_true] at q
    have r := List.all_eq_true.1 q.2 j (List.mem_range.2 hij)
    simp only [hj, hd, hd'] at r
    simp at r
  refine ⟨?_, ?_, ?_⟩
  · intro i o d ho hd
    have q := h1 o (Array.mem_of_getElem? ho)
    simpa [hd] using q
  · intro i o ho e he hb
    have q := h2 i (List.mem_range.2 (Array.getElem?_eq_some_iff.1 ho).1)
    simp only [ho, Bool.and_eq_true] at q
    have r := (Array.all_eq_true_iff_forall_mem.1 q.1) e he
    rw [hb] at r
    simpa using r
  · intro i j o o' d hi hj hij hd hd'
    rcases Nat.lt_or_gt_of_ne hij with h | h
    · exact H j i o' o d h hj hi hd' hd
    · exact H i j o o' d h hi hj hd hd'
theorem Held.nextE {n : Nat} (T : TextE md ops n) (hn : n ≤ a0.tmps.size) {listed : Array Bool} {a : Act} {w : World} (H : Held md ops F a0 w0 listed a w) {i : Nat} {o : Oper} (ho : ops[i]? = some o) (hr : i ∈ Region.ready md ops listed)
    {v : Value} {w' : World} (hw : Below w.heap.size w w') (hf : (F i).p v w') : Held md ops F a0 w0 (listed.setIfInBounds i true) (a.put o.dst v) w' := by
  have hi : i < ops.size := (Array.getElem?_eq_some_iff.1 ho).1
  have hz : a.tmps.size = a0.tmps.size := H.b.2.1
  refine ⟨⟨by rw [put_defers]; exact H.b.1, by rw [put_size]; exact hz, fun d hd => ?_⟩, nxt H.n hw, ?_, ?_, by simp [H.s]⟩
  · rw [put_off]
    · exact H.b.2.2 d hd
    · have q := Array.all_eq_true_iff_forall_mem.1 hd o (Array.mem_of_getElem? ho)
      simpa using q
  · intro j oj d hoj hj hd
    by_cases e : i = j
    · subst e
      obtain rfl := Option.some.inj (ho.symm.trans hoj)
      rw [hd, put_at (Nat.lt_of_lt_of_le (T.d i o d ho hd) (hz ▸ hn))]
      exact hf
    · rw [getD_off e] at hj
      rw [put_off (T.x j i oj o d hoj ho (Ne.symm e) hd)]
      exact (F j).up hw (H.f j oj d hoj hj hd)
  · intro j oj hoj hj e he hb
    obtain ⟨_, o', ho', q⟩ := mem_ready.1 hr
    by_cases c : i = e.on
    · rw [← c]
      exact getD_same (by rw [H.s]; exact hi) _
    · rw [getD_off c]
      by_cases e' : i = j
      · subst e'
        obtain rfl := Option.some.inj (ho'.symm.trans hoj)
        exact q e he hb
      · rw [getD_off e'] at hj
        exact H.c j oj hoj hj e he hb
theorem any_end {n : Nat} (T : TextE md ops n) (hn : n ≤ a0.tmps.size) (steps : ∀ i, i < ops.size → StepOk P md ops Q F a0 w0 i)
    (hg : ∀ i o, ops[i]? = some o → ∀ (a : Act) (w : World), (∀ j d, waits md ops i j d = true → (F j).p (a.tmps.getD d undef) w) → Region.wanted o (yielded ops a.tmps) = true)
    (fin : ∀ a w, Based ops a0 a → Below w0.heap.size w0 w → (∀ i o d, ops[i]? = some o → o.dst = some d → (F i).p (a.tmps.getD d undef) w) → Q .normal a w) :
    ∀ (fuel : Nat) (listed : Array Bool) (a : Act) (w : World), left listed ops.size ≤ fuel → Held md ops F a0 w0 listed a w → wpAny P md ops Q fuel listed a w := by
  have done : ∀ (fuel : Nat) (listed : Array Bool) (a : Act) (w : World), Held md ops F a0 w0 listed a w → (∀ i, i < ops.size → listed.getD i false = true) → wpAny P md ops Q fuel listed a w := by
    intro fuel listed a w H hall
    refine wpAny_done ?_ (fin a w H.b H.n (fun i o d ho hd => H.f i o d ho (hall i (Array.getElem?_eq_some_iff.1 ho).1) hd)) fuel
    cases hr : Region.ready md ops listed with
    | nil => rfl
    | cons i t =>
      exfalso
      have hi : i ∈ Region.ready md ops listed := by rw [hr]; simp
      obtain ⟨h0, o, ho, _⟩ := mem_ready.1 hi
      have hlt := (Array.getElem?_eq_some_iff.1 ho).1
      rw [dflt (by rw [H.s]; exact hlt), hall i hlt] at h0
      simp at h0
  intro fuel
  induction fuel with
  | zero =>
    intro listed a w hl H
    exact done 0 listed a w H fun i hi => by
      rw [← dflt (by rw [H.s]; exact hi)]
      exact left_zero (n := ops.size) (by omega) i hi
  | succ fuel ih =>
    intro listed a w hl H
    by_cases hall : ∀ i, i < ops.size → listed.getD i false = true
    · exact done _ listed a w H hall
    · refine ⟨fun hr => ?_, fun i hi => ?_⟩
      · exfalso
        refine hall fun j hj => ?_
        have : ∀ m i, i < m → i < ops.size → listed.getD i false = true := by
          intro m
          induction m with
          | zero => intro i hi; omega
          | succ m ihm =>
            intro i hi hik
            rcases Nat.lt_or_ge i m with h1 | h1
            · exact ihm i h1 hik
            · obtain rfl : i = m := by omega
              cases hc : listed.getD i false
              · exfalso
                obtain ⟨o, ho⟩ : ∃ o, ops[i]? = some o := ⟨ops[i], by simp [hik]⟩
                have hr' : i ∈ Region.ready md ops listed := mem_ready.2 ⟨by rw [dflt (by rw [H.s]; omega)]; exact hc, o, ho, fun e he hb => ihm e.on (T.a i o ho e he hb) (by have := T.a i o ho e he hb; omega)⟩
                rw [hr] at hr'
                simp at hr'
              · rfl
        exact this (j + 1) j (by omega) hj
      · obtain ⟨h0, o, ho, hready⟩ := mem_ready.1 hi
        have hlt := (Array.getElem?_eq_some_iff.1 ho).1
        have hfacts : ∀ j d, waits md ops i j d = true → (F j).p (a.tmps.getD d undef) w := by
          intro j d hjd
          unfold waits at hjd
          rw [ho] at hjd
          cases hoj : ops[j]? with
          | none => rw [hoj] at hjd; simp at hjd
          | some oj =>
            rw [hoj] at hjd
            simp only [Bool.and_eq_true, beq_iff_eq] at hjd
            obtain ⟨e, he, hb⟩ := Array.any_eq_true'.1 hjd.1
            simp only [Bool.and_eq_true, beq_iff_eq] at hb
            exact H.f j oj d hoj (by rw [← hb.2]; exact hready e he hb.1) hjd.2
        have hwant := hg i o ho a w hfacts
        refine wpOp_step ho fun K' hK => ?_
        rw [if_pos hwant]
        have hll := left_set (by rw [H.s]; exact hlt) h0 ops.size hlt
        refine steps i hlt o ho a w H.b H.n hfacts K' fun v w' hw hf => ?_
        exact hK _ _ (ih _ _ _ (by omega) (H.nextE T hn ho hi hw hf))
/-- The same for the region. -/
theorem region_guard {id : Nat} {w : World} (F : Nat → Fact) (hm : P.follows .mixedOrders = true) (hT : textEnd .any ops a0.tmps.size = true) (steps : ∀ i, i < ops.size → StepOk P .any ops Q F a0 w i)
    (hg : ∀ i o, ops[i]? = some o → ∀ (a : Act) (w : World), (∀ j d, waits .any ops i j d = true → (F j).p (a.tmps.getD d undef) w) → Region.wanted o (yielded ops a.tmps) = true)
    (fin : ∀ a W, Based ops a0 a → Below w.heap.size w W → (∀ i d, writes ops i d = true → (F i).p (a.tmps.getD d undef) W) → Q .normal a W) : (Code.region id ops true).wp P Q a0 w := by
  have T := textE_of hT
  have z : ∀ j, (Array.replicate ops.size false).getD j false = false := fun j => by
    rw [Array.getD_eq_getD_getElem?, Array.getElem?_replicate]
    split <;> rfl
  refine wp_region_any hm ?_
  refine any_end (w0 := w) T (Nat.le_refl _) steps hg (fun a W hb hw hf => fin a W hb hw (fun i d hd => ?_)) ops.size _ a0 _ ?_ ⟨⟨rfl, rfl, fun _ _ => rfl⟩, (Below.refl _ _).drew, ?_, ?_, by simp⟩
  · obtain ⟨o, ho, hd'⟩ := writes_is hd
    exact hf i o d ho hd'
  · have : ∀ m, left (Array.replicate ops.size false) m ≤ m := by
      intro m
      induction m with
      | zero => exact Nat.le_refl _
      | succ m ih => unfold left; split <;> omega
    exact this _
  · intro i o d ho hl _
    rw [z] at hl
    simp at hl
  · intro i o ho hl
    rw [z] at hl
    simp at hl
theorem wanted_none {o : Oper} {a : Act} (h : o.guard = none) : Region.wanted o (yielded ops a.tmps) = true := by simp [Region.wanted, h]
theorem wanted_some {o : Oper} {a : Act} {g d : Nat} {v : Bool} (h : o.guard = some (g, v)) (hd : writes ops g d = true) (e : a.tmps.getD d undef = .bool v) : Region.wanted o (yielded ops a.tmps) = true := by
  obtain ⟨og, ho, hd'⟩ := writes_is hd
  have e1 : a.tmps[d]? = some (.bool v) := by
    rw [Array.getD_eq_getD_getElem?] at e
    cases hq : a.tmps[d]? with
    | none => rw [hq] at e; simp [undef] at e
    | some x => rw [hq] at e; simpa using e
  simp [Region.wanted, h, yielded, ho, hd', e1]
theorem puts_guard {n : Nat} (hT : textEnd md ops n = true) (hn : n = a0.tmps.size) {a : Act} (hb : Based ops a0 a) (vs : Nat → Value) (hv : ∀ d, a.tmps.getD d undef = vs d) : a = puts vs a0 ops.toList := by
  have T := textE_of hT
  have hin : ∀ o ∈ ops.toList, ∀ e, o.dst = some e → e < a0.tmps.size := fun o ho e he => by
    obtain ⟨i, hi⟩ := List.getElem?_of_mem ho
    have := T.d i o e (by simpa using hi) he
    rw [hn] at this
    exact this
  obtain ⟨s1, s2⟩ := puts_size vs ops.toList a0
  obtain ⟨ta, da⟩ := a
  obtain ⟨h1, h2, h3⟩ := hb
  have e1 : ta = (puts vs a0 ops.toList).tmps := by
    apply Array.ext
    · rw [s1]; exact h2
    · intro i hi hi'
      have g := puts_get vs i ops.toList a0 hin
      have l : ta[i] = ta.getD i undef := by simp [Array.getD_eq_getD_getElem?, hi]
      have r : (puts vs a0 ops.toList).tmps[i] = (puts vs a0 ops.toList).tmps.getD i undef := by simp only [Array.getD_eq_getD_getElem?, Array.getElem?_eq_getElem hi', Option.getD_some]
      rw [l, r, g]
      by_cases c : ops.toList.any (fun o => o.dst == some i) = true
      · rw [if_pos c]; exact hv i
      · rw [if_neg c]
        refine h3 i ?_
        unfold apart
        rw [Array.all_eq_true_iff_forall_mem]
        intro o ho
        have hne : ¬ (o.dst == some i) = true := fun x => c (List.any_eq_true.2 ⟨o, by simpa using ho, x⟩)
        simpa using hne
  have e2 : da = (puts vs a0 ops.toList).defers := h1.trans s2.symm
  subst e1
  subst e2
  rfl
end
end Go.Proofs.YthapcapiiknjdaaDoor

/-
  Steps on points of the curve, for the laws that draw them.
-/
namespace Go.Proofs.YthapcapiiknjdaaDoor
set_option maxRecDepth 100000
open Go Go.RowKit

/-- A point that may be read. -/
def RP (p : Int × Int) : Fact := ⟨fun v w => ∃ (a a' : Option Addr) (c c' g g' : Nat), v = .agg #[.slice a (lx p).length c, .slice a' (ly p).length c'] ∧ Rd w g a .u8 (lx p) ∧ Rd w g' a' .u8 (ly p), fun n h => by
  obtain ⟨a, a', c, c', g, g', e, o, o'⟩ := h
  exact ⟨a, a', c, c', g, g', e, o.up n, o'.up n⟩⟩
theorem rp_of_new {B : Nat} {w : World} {r : Ending} {p : Int × Int} {xs ys : List Int} (hx : xs = lx p) (hy : ys = ly p) (h : NewPt B w r xs ys) : ∃ v, r = .returned v ∧ (RP p).p v w := by
  subst hx hy
  obtain ⟨a, a', c, c', g, g', rfl, o, o', _⟩ := h
  exact ⟨_, rfl, a, a', c, c', g, g', rfl, o.rd, o'.rd⟩
theorem rp_of_new2 {B : Nat} {w : World} {r : Ending} {p : Int × Int} {xs ys : List Int} (hx : xs = lx p) (hy : ys = ly p) (h : NewP2 B w r xs ys) : ∃ v, r = .returned v ∧ (RP p).p v w := by
  subst hx hy
  obtain ⟨a, c, g, a', c', g', rfl, o, o', _⟩ := h
  exact ⟨_, rfl, a, a', c, c', g, g', rfl, o.rd, o'.rd⟩
section
variable {ops : Array Oper} {Q : Exit → Act → World → Prop} {md : Region.Mode} {F : Nat → Fact} {a0 : Act} {w0 : World} {i : Nat} {o : Oper} {ts : Array TypeId}
theorem step_gadd (hA : HasA w0) (hi : ops[i]? = some o) (p q j k : Nat) {x y : Int × Int} (hx : Pv x) (hy : Pv y) (hop : o.op = .call { callee := .value (.func 33), args := #[.tmp p, .tmp q], argTypes := ts })
    (hj : waits md ops i j p = true) (hk : waits md ops i k q = true) (hFj : F j = RP x) (hFk : F k = RP y) (hFi : F i = RP (pAdd x y)) : StepOk Tryd.prog md ops Q F a0 w0 i := by
  refine step_call hi _ _ ts hop (by kernel_rfl) fun a w _ hw hF => ?_
  have ea := hF j p hj
  have eb := hF k q hk
  rw [hFj] at ea
  rw [hFk] at eb
  obtain ⟨a1, a1', c1, c1', g1, g1', e1, r1, r1'⟩ := ea
  obtain ⟨a2, a2', c2, c2', g2, g2', e2, r2, r2'⟩ := eb
  show Calls Tryd.prog 33 #[a.tmps.getD p undef, a.tmps.getD q undef] w _
  rw [e1, e2]
  refine (implAdd_any w g1 g1' a1 a1' c1 c1' (lx x) (ly x) r1 r1' (lx_byt x) (ly_byt x) g2 g2' a2 a2' c2 c2' (lx y) (ly y) r2 r2' (lx_byt y) (ly_byt y) dGo (hA.1.up hw) (hA.2.1.up hw) (hA.2.2.1.up hw) (hA.2.2.2.up hw)).mono ?_
  rintro r w' ⟨h, hn⟩
  rw [hFi]
  obtain ⟨v, e, hv⟩ := rp_of_new2 ((adX_eq _ _ _ _).trans (pa_of hx hy).1) ((adY_eq _ _ _ _).trans (pa_of hx hy).2) h
  exact ⟨v, e, hn, hv⟩
theorem step_gsadd (hi : ops[i]? = some o) (p q j k : Nat) {x y : Int × Int} (hx : Pv x) (hy : Pv y) (hop : o.op = .call { callee := .value (.func 32), args := #[.tmp p, .tmp q], argTypes := ts })
    (hj : waits md ops i j p = true) (hk : waits md ops i k q = true) (hFj : F j = RP x) (hFk : F k = RP y) (hFi : F i = RP (pAdd x y)) : StepOk Tryd.prog md ops Q F a0 w0 i := by
  refine step_call hi _ _ ts hop (by kernel_rfl) fun a w _ hw hF => ?_
  have ea := hF j p hj
  have eb := hF k q hk
  rw [hFj] at ea
  rw [hFk] at eb
  obtain ⟨a1, a1', c1, c1', g1, g1', e1, r1, r1'⟩ := ea
  obtain ⟨a2, a2', c2, c2', g2, g2', e2, r2, r2'⟩ := eb
  show Calls Tryd.prog 32 #[a.tmps.getD p undef, a.tmps.getD q undef] w _
  rw [e1, e2]
  refine (specPointAdd_any w g1 g1' g2 g2' a1 a1' a2 a2' c1 c1' c2 c2' (lx x) (ly x) (lx y) (ly y) r1 r1' r2 r2' (lx_byt x) (ly_byt x) (lx_byt y) (ly_byt y)).mono ?_
  rintro r w' ⟨h, hn⟩
  rw [hFi]
  obtain ⟨v, e, hv⟩ := rp_of_new (pa_of hx hy).1 (pa_of hx hy).2 h
  exact ⟨v, e, hn, hv⟩
theorem step_gneg (hA : HasA w0) (hi : ops[i]? = some o) (p j : Nat) {x : Int × Int} (hx : Pv x) (hop : o.op = .call { callee := .value (.func 35), args := #[.tmp p], argTypes := ts })
    (hj : waits md ops i j p = true) (hFj : F j = RP x) (hFi : F i = RP (pNeg x)) : StepOk Tryd.prog md ops Q F a0 w0 i := by
  refine step_call hi _ _ ts hop (by kernel_rfl) fun a w _ hw hF => ?_
  have ea := hF j p hj
  rw [hFj] at ea
  obtain ⟨a1, a1', c1, c1', g1, g1', e1, r1, r1'⟩ := ea
  show Calls Tryd.prog 35 #[a.tmps.getD p undef] w _
  rw [e1]
  refine (implNegate_any w g1 g1' a1 a1' c1 c1' (lx x) (ly x) r1 r1' (lx_byt x) (ly_byt x) dGo (hA.1.up hw) (hA.2.1.up hw)).mono ?_
  rintro r w' ⟨h, hn⟩
  rw [hFi]
  obtain ⟨v, e, hv⟩ := rp_of_new2 ((ngX_eq _ _).trans (ns_of hx).1) ((ngY_eq (ly_byt x) _).trans (ns_of hx).2) h
  exact ⟨v, e, hn, hv⟩
theorem step_gzero (hZ : RowN w0 0 0 [0, 1]) (hi : ops[i]? = some o) (hop : o.op = .call { callee := .value (.func 15), args := #[], argTypes := ts }) (hFi : F i = RP pZero) : StepOk Tryd.prog md ops Q F a0 w0 i := by
  refine step_call hi _ _ ts hop (by kernel_rfl) fun a w _ hw _ => ?_
  refine (implZero_any w (hZ.up hw)).mono ?_
  rintro r w' ⟨h, hn⟩
  rw [hFi]
  obtain ⟨v, e, hv⟩ := rp_of_new2 ze_of.1 ze_of.2 h
  exact ⟨v, e, hn, hv⟩
theorem step_gval (hA : HasA w0) (hi : ops[i]? = some o) (p j : Nat) {x : Int × Int} (hx : Pv x) (hop : o.op = .call { callee := .value (.func 22), args := #[.tmp p], argTypes := ts })
    (hj : waits md ops i j p = true) (hFj : F j = RP x) (hFi : F i = Fact.eq (.bool true)) : StepOk Tryd.prog md ops Q F a0 w0 i := by
  refine step_call hi _ _ ts hop (by kernel_rfl) fun a w _ hw hF => ?_
  have ea := hF j p hj
  rw [hFj] at ea
  obtain ⟨a1, a1', c1, c1', g1, g1', e1, r1, r1'⟩ := ea
  show Calls Tryd.prog 22 #[a.tmps.getD p undef] w _
  rw [e1]
  refine (implValid_any w g1 g1' a1 a1' c1 c1' (lx x) (ly x) r1 r1' (lx_byt x) (ly_byt x) dGo (hA.1.up hw) (hA.2.1.up hw)).mono ?_
  rintro r w' ⟨rfl, hn⟩
  rw [hFi]
  exact ⟨_, rfl, hn, by rw [rp_valid, lv_valid hx]; exact rfl⟩
theorem step_gsame (hi : ops[i]? = some o) (p q j k : Nat) {x : Int × Int} (hop : o.op = .call { callee := .value (.func 46), args := #[.tmp p, .tmp q], argTypes := ts })
    (hj : waits md ops i j p = true) (hk : waits md ops i k q = true) (hFj : F j = RP x) (hFk : F k = RP x) (hFi : F i = Fact.eq (.bool true)) : StepOk Tryd.prog md ops Q F a0 w0 i := by
  refine step_call hi _ _ ts hop (by kernel_rfl) fun a w _ hw hF => ?_
  have ea := hF j p hj
  have eb := hF k q hk
  rw [hFj] at ea
  rw [hFk] at eb
  obtain ⟨a1, a1', c1, c1', g1, g1', e1, r1, r1'⟩ := ea
  obtain ⟨a2, a2', c2, c2', g2, g2', e2, r2, r2'⟩ := eb
  show Calls Tryd.prog 46 #[a.tmps.getD p undef, a.tmps.getD q undef] w _
  rw [e1, e2]
  refine (lwSamePoint_same w g1 g2 g1' g2' a1 a2 a1' a2' c1 c2 c1' c2' (lx x) (ly x) r1 r1' r2 r2').mono ?_
  rintro r w' ⟨rfl, hn⟩
  rw [hFi]
  exact ⟨_, rfl, hn, rfl⟩
theorem step_glw (hi : ops[i]? = some o) (p j : Nat) {x : Int × Int} {g : Nat} {b : Option Addr} {c : Nat} {zs : List Int} (hr : Rd w0 g b .u8 zs) (hb : Byt zs) (hl : zs.length ≤ 4194304) (hx : lpP zs = (lx x, ly x)) (hop : o.op = .call { callee := .value (.func 44), args := #[.tmp p], argTypes := ts })
    (hj : waits md ops i j p = true) (hFj : F j = Fact.eq (.slice b zs.length c)) (hFi : F i = RP x) : StepOk Tryd.prog md ops Q F a0 w0 i := by
  refine step_call hi _ _ ts hop (by kernel_rfl) fun a w _ hw hF => ?_
  have ea := hF j p hj
  rw [hFj] at ea
  show Calls Tryd.prog 44 #[a.tmps.getD p undef] w _
  rw [show a.tmps.getD p undef = _ from ea]
  refine (lwPoint_any w g b c zs (hr.up hw) hb hl).mono ?_
  rintro r w' ⟨h, hn⟩
  rw [hFi]
  rw [hx] at h
  obtain ⟨v, e, hv⟩ := rp_of_new rfl rfl h
  exact ⟨v, e, hn, hv⟩
theorem step_gload (hi : ops[i]? = some o) (p : Nat) (hop : o.op = .load 24 (.tmp p)) (hp : apart ops p = true) (B : Nat) (h0 : a0.tmps.getD p undef = .pointer (some ⟨B, 0, none⟩)) {x : Int × Int} {a a' : Option Addr} {c c' g g' : Nat} (T : Two w0 B (.slice a (lx x).length c) (.slice a' (ly x).length c')) (r : Rd w0 g a .u8 (lx x)) (r' : Rd w0 g' a' .u8 (ly x)) (hF : F i = RP x) : StepOk Tryd.prog md ops Q F a0 w0 i := by
  obtain ⟨fs, hu⟩ := uP
  refine step_load hi _ _ hop _ 2 hu rfl iP fun A w hb hw _ => ?_
  refine ⟨B, 0, [.slice a (lx x).length c, .slice a' (ly x).length c'], (based_at hb p hp).trans h0, fun j v hv => ?_, rfl, by rw [hF]; exact ⟨a, a', c, c', g, g', rfl, r.up hw, r'.up hw⟩⟩
  have T' := T.up hw
  match j, hv with
  | 0, hv => cases hv; exact T'.c0
  | 1, hv => cases hv; exact T'.c1
end
end Go.Proofs.YthapcapiiknjdaaDoor

/-
  A law's copy of a list, still its own to be appended to; a list of the input that is nil holds nothing.
-/
namespace Go.Proofs.YthapcapiiknjdaaDoor
set_option maxRecDepth 100000
open Go.RowKit

set_option maxHeartbeats 400000 in
theorem lwCopyO_any (w : World) (g : Nat) (a : Option Addr) (cap : Nat) (xs : List Int) (hr : Rd w g a .u8 xs) (hc : a = none → cap = 0) (hn : xs.length ≤ 1048576) :
    Calls Tryd.prog 45 #[.slice a xs.length cap] w fun e w' => ∃ v, e = .returned v ∧ w'.ownsRow w.heap.size 5 1 v xs.length (xs.map (Value.int .u8)) ∧ Below w.heap.size w w' := by
  obtain ⟨i0, hi, hz0, hz1, hz2⟩ := info_parts Tryd.info5
  have hown : (w.alloc (.cells #[] 5)).ownsRow w.heap.size 5 1 (.slice (some ⟨w.heap.size, 0, none⟩) 0 0) 0 [] := World.ownsRow_lit w #[] 0 (Nat.le_refl _) (by unfold maxLen; omega) (by simp)
  have hal : Below w.heap.size w (w.alloc (.cells #[] 5)) := (Below.refl _ _).alloc (Nat.le_refl _) _
  cases a with
  | none =>
    obtain rfl : xs = [] := by
      by_cases h0 : 0 < xs.length
      · obtain ⟨off, h, _⟩ := hr h0
        simp at h
      · exact List.eq_nil_of_length_eq_zero (by omega)
    obtain rfl := hc rfl
    go_enter Tryd.func45, Tryd.ntmps45
    go_wp2_with (at_builtin; refine wpList_append_own_none rfl _ _ 22 rfl w.heap.size 5 i0 1 Tryd.underlying22 hi _ 0 [] rfl hown rfl ?_)
    go_ret
    exact ⟨_, rfl, hown, hal⟩
  | some ad =>
    have hcell : ∀ j u, (xs.map (Value.int .u8))[j]? = some u → (w.alloc (.cells #[] 5)).cell? (ad.add j) = some u := by
      intro j u hj
      have hjl : j < xs.length := by
        have := (List.getElem?_eq_some_iff.1 hj).1
        simpa using this
      obtain ⟨off, ha, hcc⟩ := (hr.up hal) (by omega)
      simp only [Option.some.injEq] at ha
      subst ha
      rw [Addr.add_mid, hcc j hjl]
      simpa [hjl] using hj
    have hone : ∀ u ∈ xs.map (Value.int .u8), u.oneCell' = true := by
      intro u hu
      obtain ⟨x, _, rfl⟩ := List.mem_map.1 hu
      rfl
    go_enter Tryd.func45, Tryd.ntmps45
    go_wp2_with (at_builtin; refine wpList_append_own _ rfl _ _ 22 rfl w.heap.size 5 i0 (.int .u8 0) 1 1 Tryd.underlying22 hi hz0 hz1 hz2 rfl (by decide) (.slice (some ⟨w.heap.size, 0, none⟩) 0 0) 0 [] rfl hown ad xs.length cap (xs.map (Value.int .u8)) rfl (by simp) hcell hone (by unfold maxLen; omega) (by omega) (by simp) ?_; intro v' w1 hown' hgrow _)
    simp only [Nat.zero_add, List.nil_append] at hown'
    have hB : Below w.heap.size w w1 := hal.grown hgrow (by simp) (by intro k hk; simp [Value.ownBlock] at hk; omega)
    clear hgrow hown
    go_wp2
    go_ret
    exact ⟨_, rfl, hown', hB⟩
theorem rd_of_row0 {w : World} {a : Option Addr} {len cap : Nat} {zs : List Int}
    (h : (a = none ∧ len = 0 ∧ cap = 0 ∧ zs = []) ∨ ∃ x, a = some x ∧ len ≤ cap ∧ cap ≤ maxLen ∧ zs.length = cap ∧ (∀ i, i < zs.length → w.cell? (x.add i) = some (.int .u8 (zs.getD i 0))) ∧ ∀ n ∈ zs, (Lit.int .u8 n).wf = true) :
    ∃ (g : Nat) (xs : List Int), xs.length = len ∧ Rd w g a .u8 xs ∧ Byt xs ∧ (a = none → cap = 0) := by
  obtain ⟨g, xs, hl, r, b⟩ := rd_of_row h
  refine ⟨g, xs, hl, r, b, fun e => ?_⟩
  rcases h with ⟨_, _, h, _⟩ | ⟨_, h, _⟩
  · exact h
  · rw [h] at e
    exact nomatch e
end Go.Proofs.YthapcapiiknjdaaDoor

/-
  A row of bytes appended to an owned row of bytes, nil ones too, as one equation. No program in sight.
-/
namespace Go.Proofs.YthapcapiiknjdaaDoor
set_option maxRecDepth 100000
open Go.RowKit

/-- A row of bytes that the walk owns. -/
def RowB (w : World) (base : Nat) (v : Value) (xs : List Int) : Prop := w.ownsRow base 5 1 v xs.length (xs.map (Value.int .u8))
theorem RowB.up {w w' : World} {base : Nat} {v : Value} {xs : List Int} (h : RowB w base v xs) (hb : Below w.heap.size w w') : RowB w' base v xs := by
  refine ⟨h.1, ?_⟩
  rcases h.2 with h' | ⟨g, cap, cur, rfl, hbg, hg, hnc, hcm, hcs, ht⟩
  · exact .inl h'
  · exact .inr ⟨g, cap, cur, rfl, hbg, by rw [hb.block g ((Array.getElem?_eq_some_iff.1 hg).1)]; exact hg, hnc, hcm, hcs, ht⟩
theorem RowB.only {w w' : World} {base q : Nat} {v : Value} {xs : List Int} (h : RowB w base v xs) (hb : Only q w w') (hq : q < base) : RowB w' base v xs := by
  refine ⟨h.1, ?_⟩
  rcases h.2 with h' | ⟨g, cap, cur, rfl, hbg, hg, hnc, hcm, hcs, ht⟩
  · exact .inl h'
  · exact .inr ⟨g, cap, cur, rfl, hbg, by rw [hb.block g (by omega)]; exact hg, hnc, hcm, hcs, ht⟩
theorem RowB.base {w : World} {base base' : Nat} {v : Value} {xs : List Int} (h : RowB w base v xs) (hb : base' ≤ base) : RowB w base' v xs := by
  refine ⟨h.1, ?_⟩
  rcases h.2 with h' | ⟨g, cap, cur, rfl, hbg, hg, hnc, hcm, hcs, ht⟩
  · exact .inl h'
  · exact .inr ⟨g, cap, cur, rfl, by omega, hg, hnc, hcm, hcs, ht⟩
theorem RowB.own {w : World} {base : Nat} {v : Value} {xs : List Int} (h : RowB w base v xs) :
    ∃ (a : Option Addr) (c g : Nat), v = .slice a xs.length c ∧ Own w g a .u8 xs ∧ (a = none → c = 0) ∧ xs.length ≤ c ∧ base ≤ g := Own.of_ownsRow h
/-- What an append leaves, with all that is asked of it. -/
theorem append_any {P : Program} (w : World) (ty : TypeId) (i : TypeInfo) (ht : P.underlying 22 = some (.slice 5)) (hi : P.info? 5 = some i) (hz : i.zero = some (.int .u8 0)) (hsize : i.size = 1) (hby : i.bytes = 1)
    (base B : Nat) (v : Value) (xs : List Int) (hown : RowB w base v xs) (g : Nat) (a : Option Addr) (c : Nat) (us : List Int) (hr : Rd w g a .u8 us) (hc : a = none → c = 0) (hl : xs.length + us.length ≤ 1099511627776) (hB : B ≤ base) (hbase : base ≤ w.heap.size) :
    ∃ v' w', (Builtin.append_ #[22, 22] ty #[v, .slice a us.length c]).run P w = .ok v' w' ∧ RowB w' base v' (xs ++ us) ∧ Below B w w' := by
  cases a with
  | none =>
    obtain rfl : us = [] := by
      by_cases h0 : 0 < us.length
      · obtain ⟨off, h, _⟩ := hr h0
        simp at h
      · exact List.eq_nil_of_length_eq_zero (by omega)
    obtain rfl := hc rfl
    exact ⟨v, w, run_append_owned_none (P := P) (w := w) base 22 ty 5 i 1 ht hi v _ _ hown, by rw [List.append_nil]; exact hown, Below.refl _ _⟩
  | some ad =>
    have hcell : ∀ j u, (us.map (Value.int .u8))[j]? = some u → w.cell? (ad.add j) = some u := by
      intro j u hj
      have hjl : j < us.length := by
        have := (List.getElem?_eq_some_iff.1 hj).1
        simpa using this
      obtain ⟨off, ha, hcc⟩ := hr (by omega)
      simp only [Option.some.injEq] at ha
      subst ha
      rw [Addr.add_mid, hcc j hjl]
      simpa [hjl] using hj
    have hone : ∀ u ∈ us.map (Value.int .u8), u.oneCell' = true := by
      intro u hu
      obtain ⟨x, _, rfl⟩ := List.mem_map.1 hu
      rfl
    obtain ⟨v', w', h1, h2, h3, _⟩ := run_append_own (P := P) w base 22 ty 5 i (.int .u8 0) 1 1 ht hi hz hsize hby rfl (by decide) v xs.length (xs.map (Value.int .u8)) hown ad us.length c (us.map (Value.int .u8)) (by simp) hcell hone (by unfold maxLen; omega) (by omega) hbase
    refine ⟨v', w', h1, ?_, (Below.refl B w).grown h3 (by omega) (fun k hk => by have := (World.ownsRow.lt hown k hk).1; omega)⟩
    show w'.ownsRow base 5 1 v' (xs ++ us).length ((xs ++ us).map (Value.int .u8))
    rw [List.length_append, List.map_append]
    exact h2
theorem RowB.lit0 (w : World) : RowB (w.alloc (.cells #[] 5)) w.heap.size (.slice (some ⟨w.heap.size, 0, none⟩) 0 0) [] :=
  World.ownsRow_lit w #[] 0 (Nat.le_refl _) (by unfold maxLen; omega) (by simp)
theorem RowB.lit1 (w : World) (x : Int) : RowB (w.alloc (.cells #[.int .u8 x] 5)) w.heap.size (.slice (some ⟨w.heap.size, 0, none⟩) 1 1) [x] :=
  World.ownsRow_lit w #[.int .u8 x] 1 (Nat.le_refl _) (by unfold maxLen; omega) (by simp)
theorem RowB.rd {w : World} {base : Nat} {v : Value} {xs : List Int} (h : RowB w base v xs) : ∃ (a : Option Addr) (c g : Nat), v = .slice a xs.length c ∧ Rd w g a .u8 xs ∧ (a = none → c = 0) ∧ xs.length ≤ c ∧ base ≤ g := by
  obtain ⟨a, c, g, h1, h2, h3⟩ := h.own
  exact ⟨a, c, g, h1, h2.rd, h3⟩
theorem newRow_e (w : World) (k : IntKind) : NewRow w.heap.size (w.alloc (.cells #[] 5)) (.returned (.slice (some ⟨w.heap.size, 0, none⟩) 0 0)) k [] :=
  ⟨_, 0, w.heap.size, rfl, Own.nil _ _ _ _, by simp, Nat.zero_le _, Nat.le_refl _⟩
theorem newRow_z (w : World) (k : IntKind) : NewRow w.heap.size w (.returned (.slice none 0 0)) k [] :=
  ⟨_, 0, w.heap.size, rfl, Own.nil _ _ _ _, by simp, Nat.zero_le _, Nat.le_refl _⟩
theorem blk_lit1 (w : World) (k : IntKind) (e : TypeId) (x : Int) : Blk (w.alloc (.cells #[.int k x] e)) w.heap.size k [x] := by
  refine ⟨e, ?_⟩
  show (w.heap.push _)[w.heap.size]? = _
  simp
end Go.Proofs.YthapcapiiknjdaaDoor

/-
  The law FnPointGroup (written by gens/lgrp.py).
-/
namespace Go.Proofs.YthapcapiiknjdaaDoor
set_option maxRecDepth 100000
open Go Go.RowKit

theorem byt_two {xs ys : List Int} (h : Byt xs) (k : Byt ys) : Byt (xs ++ ys) := by
  intro j
  rw [List.getD_eq_getElem?_getD]
  by_cases c : j < xs.length
  · rw [List.getElem?_append_left c, ← List.getD_eq_getElem?_getD]
    exact h j
  · rw [List.getElem?_append_right (by omega), ← List.getD_eq_getElem?_getD]
    exact k _

theorem step_pickT {ops : Array Oper} {Q : Exit → Act → World → Prop} {md : Region.Mode} {F : Nat → Fact} {a0 : Act} {w0 : World} {i : Nat} {o : Oper} {P : Program} (hi : ops[i]? = some o) (p q j k : Nat) {v : Value} {x : Value} (hop : o.op = .pick (.tmp p) (.tmp q) (.const x)) (hj : waits md ops i j p = true) (hk : waits md ops i k q = true) (hFj : F j = Fact.eq (.bool true)) (hFk : F k = Fact.eq v) (hFi : F i = Fact.eq v) : StepOk P md ops Q F a0 w0 i := by
  refine step_pure hi fun a w _ _ hf => ⟨v, ?_, by rw [hFi]; exact rfl⟩
  have h1 := hf j p hj
  have h2 := hf k q hk
  rw [hFj] at h1
  rw [hFk] at h2
  have g1 : a.eval (.tmp p) = .bool true := h1
  have g2 : a.eval (.tmp q) = v := h2
  have g3 : a.eval (.const x) = x := rfl
  simp only [execOp, hop, g1, g2, g3]
  rfl
theorem step_pickF {ops : Array Oper} {Q : Exit → Act → World → Prop} {md : Region.Mode} {F : Nat → Fact} {a0 : Act} {w0 : World} {i : Nat} {o : Oper} {P : Program} (hi : ops[i]? = some o) (p q j k : Nat) {v : Value} {x : Value} (hop : o.op = .pick (.tmp p) (.const x) (.tmp q)) (hj : waits md ops i j p = true) (hk : waits md ops i k q = true) (hFj : F j = Fact.eq (.bool false)) (hFk : F k = Fact.eq v) (hFi : F i = Fact.eq v) : StepOk P md ops Q F a0 w0 i := by
  refine step_pure hi fun a w _ _ hf => ⟨v, ?_, by rw [hFi]; exact rfl⟩
  have h1 := hf j p hj
  have h2 := hf k q hk
  rw [hFj] at h1
  rw [hFk] at h2
  have g1 : a.eval (.tmp p) = .bool false := h1
  have g2 : a.eval (.tmp q) = v := h2
  have g3 : a.eval (.const x) = x := rfl
  simp only [execOp, hop, g1, g2, g3]
  rfl
def HasG (w : World) : Prop := HasA w ∧ RowN w 0 0 [0, 1]
theorem HasG.up {w w' : World} (h : HasG w) (n : Below w.heap.size w w') : HasG w' := ⟨⟨h.1.1.up n, h.1.2.1.up n, h.1.2.2.1.up n, h.1.2.2.2.up n⟩, h.2.up n⟩
set_option maxHeartbeats 16000000 in
theorem pgroup_law (w : World) (g0 : Nat) (a0 : Option Addr) (c0 : Nat) (X0 : List Int) (hX0 : Rd w g0 a0 .u8 X0) (bX0 : Byt X0) (k0 : a0 = none → c0 = 0) (g1 : Nat) (a1 : Option Addr) (c1 : Nat) (X1 : List Int) (hX1 : Rd w g1 a1 .u8 X1) (bX1 : Byt X1) (k1 : a1 = none → c1 = 0) (hL : HasG w) :
    Calls Tryd.prog 12 #[.slice a0 X0.length c0, .slice a1 X1.length c1] w fun e w' => e = .returned (.bool true) ∧ Below w.heap.size w w' := by
  obtain ⟨i0, hi, hz0, hz1, hz2⟩ := info_parts Tryd.info5
  by_cases h0 : X0.length ≤ 1048576
  · have t0 : decide ((1048576 : Int) < (X0.length : Int)) = false := by simp; omega
    by_cases h1 : X1.length ≤ 1048576
    · have t1 : decide ((1048576 : Int) < (X1.length : Int)) = false := by simp; omega
      obtain ⟨p, hp, ep⟩ := lpP_is (xs := X0)
      obtain ⟨q, hq, eq⟩ := lpP_is (xs := X1)
      obtain ⟨s, hs, es⟩ := lpP_is (xs := X1 ++ X0)
      have LP0 := fun W (n : Below w.heap.size w W) => lwPoint_any W g0 a0 c0 X0 (hX0.up n) bX0 (by omega)
      have LP1 := fun W (n : Below w.heap.size w W) => lwPoint_any W g1 a1 c1 X1 (hX1.up n) bX1 (by omega)
      obtain ⟨zs, hzs⟩ : ∃ z, z = X1 ++ X0 := ⟨_, rfl⟩
      have zl : zs.length ≤ 4194304 := by rw [hzs, List.length_append]; omega
      have bz : Byt zs := by rw [hzs]; exact byt_two bX1 bX0
      rw [← hzs] at es
      have LPs := fun W g a c (h : Rd W g a .u8 zs) => lwPoint_any W g a c zs h bz zl
      rw [ep] at LP0
      rw [eq] at LP1
      rw [es] at LPs
      have HZ := hide hzs
      have E0 := hide ep
      have E1 := hide eq
      have LH0 := fun W n => hide (LP0 W n)
      have LH1 := fun W n => hide (LP1 W n)
      have LHs := fun W g a c h => hide (LPs W g a c h)
      clear LP0 LP1 LPs ep eq es hzs
      simp only [] at LH0 LH1 LHs
      go_enter Tryd.func12, Tryd.ntmps12
      go_wp2_with fail
      refine (LH0 w (Below.refl _ _)).out.mono ?_
      rintro r w1 ⟨⟨x1, y1, d1, e1, gx1, gy1, rfl, ox1, oy1, -, -⟩, n1⟩
      have T1 := Two.new w1 (.slice x1 (lx p).length d1) (.slice y1 (ly p).length e1) 24
      have m1 : Below w1.heap.size w1 (w1.alloc (.cells #[.slice x1 (lx p).length d1, .slice y1 (ly p).length e1] 24)) := (Below.refl _ _).alloc (Nat.le_refl _) _
      have N1 := nxt n1 m1
      have rx1 := ox1.rd.up m1
      have ry1 := oy1.rd.up m1
      go_wp2_with fail
      generalize w1.alloc (.cells #[.slice x1 (lx p).length d1, .slice y1 (ly p).length e1] 24) = W1 at *
      clear m1 ox1 oy1 n1
      refine (LH1 W1 N1).out.mono ?_
      rintro r w2 ⟨⟨x2, y2, d2, e2, gx2, gy2, rfl, ox2, oy2, -, -⟩, n2⟩
      have T2 := Two.new w2 (.slice x2 (lx q).length d2) (.slice y2 (ly q).length e2) 24
      have m2 : Below w2.heap.size w2 (w2.alloc (.cells #[.slice x2 (lx q).length d2, .slice y2 (ly q).length e2] 24)) := (Below.refl _ _).alloc (Nat.le_refl _) _
      have rx2 := ox2.rd.up m2
      have ry2 := oy2.rd.up m2
      have N2 := nxt (nxt N1 n2) m2
      replace T1 := T1.up n2
      replace rx1 := rx1.up n2
      replace ry1 := ry1.up n2
      replace T1 := T1.up m2
      replace rx1 := rx1.up m2
      replace ry1 := ry1.up m2
      clear n2 N1 ox2 oy2
      go_wp2_with fail
      generalize w2.alloc (.cells #[.slice x2 (lx q).length d2, .slice y2 (ly q).length e2] 24) = W2 at *
      clear m2
      refine (lwCopyO_any W2 g1 a1 c1 X1 (hX1.up N2) k1 h1).mono ?_
      rintro r w3 ⟨v3, rfl, o3, n3⟩
      obtain ⟨v4, w4, hap, o4, n4⟩ := append_any (P := Tryd.prog) w3 22 i0 Tryd.underlying22 hi hz0 hz1 hz2 W2.heap.size W2.heap.size _ _ o3 g0 a0 c0 X0 (hX0.up (nxt N2 n3)) k0 (by omega) (Nat.le_refl _) n3.size
      rw [← HZ.out] at o4
      obtain ⟨a4, c4, g4, rfl, r4, p4, q4, b4⟩ := o4.rd
      have n34 := n3.trans n4
      have N34 := nxt N2 n34
      replace T1 := T1.up n34
      replace rx1 := rx1.up n34
      replace ry1 := ry1.up n34
      replace T2 := T2.up n34
      replace rx2 := rx2.up n34
      replace ry2 := ry2.up n34
      clear n3 n4 n34 o3 N2 p4 q4 b4 o4
      go_wp2_with (at_builtin; refine Lib.wpList_append_run _ rfl _ _ 22 22 rfl _ _ rfl rfl _ _ hap ?_)
      clear hap
      go_wp2_with fail
      refine (LHs w4 g4 a4 c4 r4).out.mono ?_
      rintro r w5 ⟨⟨x3, y3, d3, e3, gx3, gy3, rfl, ox3, oy3, -, -⟩, n5⟩
      have T3 := Two.new w5 (.slice x3 (lx s).length d3) (.slice y3 (ly s).length e3) 24
      have m3 : Below w5.heap.size w5 (w5.alloc (.cells #[.slice x3 (lx s).length d3, .slice y3 (ly s).length e3] 24)) := (Below.refl _ _).alloc (Nat.le_refl _) _
      have rx3 := ox3.rd.up m3
      have ry3 := oy3.rd.up m3
      have N3 := nxt (nxt N34 n5) m3
      replace T1 := T1.up n5
      replace rx1 := rx1.up n5
      replace ry1 := ry1.up n5
      replace T2 := T2.up n5
      replace rx2 := rx2.up n5
      replace ry2 := ry2.up n5
      replace T1 := T1.up m3
      replace rx1 := rx1.up m3
      replace ry1 := ry1.up m3
      replace T2 := T2.up m3
      replace rx2 := rx2.up m3
      replace ry2 := ry2.up m3
      clear n5 N34 ox3 oy3 r4 LHs
      go_upto_region 6 with fail
      generalize w5.alloc (.cells #[.slice x3 (lx s).length d3, .slice y3 (ly s).length e3] 24) = W3 at *
      clear m3
      have q0 := T1.c0
      have q1 := T1.c1
      have q2 := T2.c0
      have q3 := T2.c1
      go_wp2_with fail
      clear q0 q1 q2 q3
      refine (implAdd_any W3 gx1 gy1 x1 y1 d1 e1 (lx p) (ly p) rx1 ry1 (lx_byt p) (ly_byt p) gx2 gy2 x2 y2 d2 e2 (lx q) (ly q) rx2 ry2 (lx_byt q) (ly_byt q) dGo (hL.1.1.up N3) (hL.1.2.1.up N3) (hL.1.2.2.1.up N3) (hL.1.2.2.2.up N3)).mono ?_
      rintro r w6 ⟨h6, n6⟩
      obtain ⟨v6, rfl, hv6⟩ := rp_of_new2 ((adX_eq _ _ _ _).trans (pa_of hp hq).1) ((adY_eq _ _ _ _).trans (pa_of hp hq).2) h6
      obtain ⟨x4, y4, d4, e4, gx4, gy4, rfl, rx4, ry4⟩ := hv6
      have T4 := Two.new w6 (.slice x4 (lx (pAdd p q)).length d4) (.slice y4 (ly (pAdd p q)).length e4) 24
      have m4 : Below w6.heap.size w6 (w6.alloc (.cells #[.slice x4 (lx (pAdd p q)).length d4, .slice y4 (ly (pAdd p q)).length e4] 24)) := (Below.refl _ _).alloc (Nat.le_refl _) _
      replace rx4 := rx4.up m4
      replace ry4 := ry4.up m4
      have N4 := nxt (nxt N3 n6) m4
      replace T1 := T1.up n6
      replace rx1 := rx1.up n6
      replace ry1 := ry1.up n6
      replace T2 := T2.up n6
      replace rx2 := rx2.up n6
      replace ry2 := ry2.up n6
      replace T3 := T3.up n6
      replace rx3 := rx3.up n6
      replace ry3 := ry3.up n6
      replace T1 := T1.up m4
      replace rx1 := rx1.up m4
      replace ry1 := ry1.up m4
      replace T2 := T2.up m4
      replace rx2 := rx2.up m4
      replace ry2 := ry2.up m4
      replace T3 := T3.up m4
      replace rx3 := rx3.up m4
      replace ry3 := ry3.up m4
      clear h6 n6 N3
      go_upto_region 7 with fail
      generalize w6.alloc (.cells #[.slice x4 (lx (pAdd p q)).length d4, .slice y4 (ly (pAdd p q)).length e4] 24) = W4 at *
      clear m4
      have pq := hp.add hq
      have LA := fun W (n : Below W4.heap.size W4 W) => (HasG.up hL (nxt N4 n))
      have HA := (hL.up N4).1
      refine region_guard (fun i => [RP (pAdd p q), Fact.eq (.bool true), Fact.eq (.bool (!true)), Fact.eq (.bool (!true)), RP (pAdd p q), RP q, RP p, RP (pAdd p q), Fact.eq (.bool true), Fact.eq (.bool (!true)), Fact.eq (.bool (!true))].getD i Fact.no) (by kernel_rfl) (by kernel_rfl) ?_ ?_ ?_
      · intro i hi
        have hiN : i < 11 := hi
        obtain rfl | rfl | rfl | rfl | rfl | rfl | rfl | rfl | rfl | rfl | rfl : i = 0 ∨ i = 1 ∨ i = 2 ∨ i = 3 ∨ i = 4 ∨ i = 5 ∨ i = 6 ∨ i = 7 ∨ i = 8 ∨ i = 9 ∨ i = 10 := by omega
        · exact step_gload rfl 8 rfl (by kernel_rfl) _ rfl T4 rx4 ry4 rfl
        · exact step_gval HA rfl 29 0 pq rfl (by kernel_rfl) rfl rfl
        · exact step_notb rfl 30 1 rfl (by kernel_rfl) rfl rfl
        · exact step_move rfl 31 2 (by exact Or.inl rfl) (by kernel_rfl) rfl
        · exact step_gload rfl 8 rfl (by kernel_rfl) _ rfl T4 rx4 ry4 rfl
        · exact step_gload rfl 6 rfl (by kernel_rfl) _ rfl T2 rx2 ry2 rfl
        · exact step_gload rfl 5 rfl (by kernel_rfl) _ rfl T1 rx1 ry1 rfl
        · exact step_gadd HA rfl 34 35 5 6 hq hp rfl (by kernel_rfl) (by kernel_rfl) rfl rfl (by show RP (pAdd p q) = _; rw [grp_comm hp hq])
        · exact step_gsame rfl 33 36 4 7 rfl (by kernel_rfl) (by kernel_rfl) rfl rfl rfl
        · exact step_notb rfl 37 8 rfl (by kernel_rfl) rfl rfl
        · exact step_pickF rfl 32 38 3 9 rfl (by kernel_rfl) (by kernel_rfl) rfl rfl rfl
      · intro i o ho A W hf
        have hiN : i < 11 := (Array.getElem?_eq_some_iff.1 ho).1
        obtain rfl | rfl | rfl | rfl | rfl | rfl | rfl | rfl | rfl | rfl | rfl : i = 0 ∨ i = 1 ∨ i = 2 ∨ i = 3 ∨ i = 4 ∨ i = 5 ∨ i = 6 ∨ i = 7 ∨ i = 8 ∨ i = 9 ∨ i = 10 := by omega
        · cases ho; exact wanted_none rfl
        · cases ho; exact wanted_none rfl
        · cases ho; exact wanted_none rfl
        · cases ho; exact wanted_none rfl
        · cases ho; exact wanted_some rfl (by kernel_rfl) (hf 3 32 (by kernel_rfl))
        · cases ho; exact wanted_some rfl (by kernel_rfl) (hf 3 32 (by kernel_rfl))
        · cases ho; exact wanted_some rfl (by kernel_rfl) (hf 3 32 (by kernel_rfl))
        · cases ho; exact wanted_some rfl (by kernel_rfl) (hf 3 32 (by kernel_rfl))
        · cases ho; exact wanted_some rfl (by kernel_rfl) (hf 3 32 (by kernel_rfl))
        · cases ho; exact wanted_some rfl (by kernel_rfl) (hf 3 32 (by kernel_rfl))
        · cases ho; exact wanted_none rfl
      intro A W5 hb' hw hF
      have e2 := hF 10 39 (by kernel_rfl)
      obtain ⟨vs, hvs⟩ : ∃ vs : Nat → Value, ∀ d, A.tmps.getD d undef = vs d := ⟨_, fun _ => rfl⟩
      rw [hvs] at e2
      rw [puts_guard (md := .any) (by kernel_rfl) rfl hb' vs hvs]
      clear hb' hF hvs
      have N5 := nxt N4 hw
      replace T1 := T1.up hw
      replace rx1 := rx1.up hw
      replace ry1 := ry1.up hw
      replace T2 := T2.up hw
      replace rx2 := rx2.up hw
      replace ry2 := ry2.up hw
      replace T3 := T3.up hw
      replace rx3 := rx3.up hw
      replace ry3 := ry3.up hw
      replace T4 := T4.up hw
      replace rx4 := rx4.up hw
      replace ry4 := ry4.up hw
      clear hw N4 HA
      have e3 : vs 39 = .bool false := e2
      clear e2
      simp only [puts, e3, Act.put, List.setIfInBounds_toArray, List.set_cons_succ, List.set_cons_zero]
      clear e3
      go_upto_region 9 with fail
      have HA := (hL.up N5).1
      refine region_end 10 (fun i => [RP (pAdd p q), RP s, RP (pAdd (pAdd p q) s), RP p, RP q, RP s, RP (pAdd q s), RP (pAdd (pAdd p q) s), Fact.eq (.bool true), Fact.eq (.bool (!true))].getD i Fact.no) (by kernel_rfl) (by kernel_rfl) rfl ?_ ?_
      · intro i hi
        have hiN : i < 10 := hi
        obtain rfl | rfl | rfl | rfl | rfl | rfl | rfl | rfl | rfl | rfl : i = 0 ∨ i = 1 ∨ i = 2 ∨ i = 3 ∨ i = 4 ∨ i = 5 ∨ i = 6 ∨ i = 7 ∨ i = 8 ∨ i = 9 := by omega
        · exact step_gload rfl 8 rfl (by kernel_rfl) _ rfl T4 rx4 ry4 rfl
        · exact step_gload rfl 7 rfl (by kernel_rfl) _ rfl T3 rx3 ry3 rfl
        · exact step_gadd HA rfl 40 41 0 1 pq hs rfl (by kernel_rfl) (by kernel_rfl) rfl rfl rfl
        · exact step_gload rfl 5 rfl (by kernel_rfl) _ rfl T1 rx1 ry1 rfl
        · exact step_gload rfl 6 rfl (by kernel_rfl) _ rfl T2 rx2 ry2 rfl
        · exact step_gload rfl 7 rfl (by kernel_rfl) _ rfl T3 rx3 ry3 rfl
        · exact step_gadd HA rfl 44 45 4 5 hq hs rfl (by kernel_rfl) (by kernel_rfl) rfl rfl rfl
        · exact step_gadd HA rfl 43 46 3 6 hp (hq.add hs) rfl (by kernel_rfl) (by kernel_rfl) rfl rfl (by show RP (pAdd (pAdd p q) s) = _; rw [grp_assoc hp hq hs])
        · exact step_gsame rfl 42 47 2 7 rfl (by kernel_rfl) (by kernel_rfl) rfl rfl rfl
        · exact step_notb rfl 48 8 rfl (by kernel_rfl) rfl rfl
      intro A W6 hb' hw hF
      have e2 := hF 9 49 (by kernel_rfl)
      obtain ⟨vs, hvs⟩ : ∃ vs : Nat → Value, ∀ d, A.tmps.getD d undef = vs d := ⟨_, fun _ => rfl⟩
      rw [hvs] at e2
      rw [puts_of (md := .any) (k := 10) (by kernel_rfl) rfl hb' vs hvs]
      clear hb' hF hvs
      have N6 := nxt N5 hw
      replace T1 := T1.up hw
      replace rx1 := rx1.up hw
      replace ry1 := ry1.up hw
      replace T2 := T2.up hw
      replace rx2 := rx2.up hw
      replace ry2 := ry2.up hw
      replace T3 := T3.up hw
      replace rx3 := rx3.up hw
      replace ry3 := ry3.up hw
      replace T4 := T4.up hw
      replace rx4 := rx4.up hw
      replace ry4 := ry4.up hw
      clear hw N5 HA
      have e3 : vs 49 = .bool false := e2
      clear e2
      simp only [puts, e3, Act.put, List.setIfInBounds_toArray, List.set_cons_succ, List.set_cons_zero]
      clear e3
      go_upto_region 11 with fail
      have HA := (hL.up N6).1
      have HZ0 := (hL.up N6).2
      refine region_guard (fun i => [RP p, RP pZero, RP p, RP p, Fact.eq (.bool true), Fact.eq (.bool true), RP p, RP p, RP (pNeg p), RP pZero, RP pZero, Fact.eq (.bool true), Fact.eq (.bool true), Fact.eq (.bool true), RP (pAdd p q), Fact.eq (.slice a0 X0.length c0), RP p, Fact.eq (.slice a1 X1.length c1), RP q, RP (pAdd p q), Fact.eq (.bool true), Fact.eq (.bool true), Fact.eq (.bool true)].getD i Fact.no) (by kernel_rfl) (by kernel_rfl) ?_ ?_ ?_
      · intro i hi
        have hiN : i < 23 := hi
        obtain rfl | rfl | rfl | rfl | rfl | rfl | rfl | rfl | rfl | rfl | rfl | rfl | rfl | rfl | rfl | rfl | rfl | rfl | rfl | rfl | rfl | rfl | rfl : i = 0 ∨ i = 1 ∨ i = 2 ∨ i = 3 ∨ i = 4 ∨ i = 5 ∨ i = 6 ∨ i = 7 ∨ i = 8 ∨ i = 9 ∨ i = 10 ∨ i = 11 ∨ i = 12 ∨ i = 13 ∨ i = 14 ∨ i = 15 ∨ i = 16 ∨ i = 17 ∨ i = 18 ∨ i = 19 ∨ i = 20 ∨ i = 21 ∨ i = 22 := by omega
        · exact step_gload rfl 5 rfl (by kernel_rfl) _ rfl T1 rx1 ry1 rfl
        · exact step_gzero HZ0 rfl rfl rfl
        · exact step_gadd HA rfl 50 51 0 1 hp pv_zero rfl (by kernel_rfl) (by kernel_rfl) rfl rfl (by show RP p = _; rw [grp_zero hp])
        · exact step_gload rfl 5 rfl (by kernel_rfl) _ rfl T1 rx1 ry1 rfl
        · exact step_gsame rfl 52 53 2 3 rfl (by kernel_rfl) (by kernel_rfl) rfl rfl rfl
        · exact step_move rfl 54 4 (by exact Or.inl rfl) (by kernel_rfl) rfl
        · exact step_gload rfl 5 rfl (by kernel_rfl) _ rfl T1 rx1 ry1 rfl
        · exact step_gload rfl 5 rfl (by kernel_rfl) _ rfl T1 rx1 ry1 rfl
        · exact step_gneg HA rfl 57 7 hp rfl (by kernel_rfl) rfl rfl
        · exact step_gadd HA rfl 56 58 6 8 hp hp.neg rfl (by kernel_rfl) (by kernel_rfl) rfl rfl (by show RP pZero = _; rw [grp_neg hp])
        · exact step_gzero HZ0 rfl rfl rfl
        · exact step_gsame rfl 59 60 9 10 rfl (by kernel_rfl) (by kernel_rfl) rfl rfl rfl
        · exact step_pickT rfl 55 61 5 11 rfl (by kernel_rfl) (by kernel_rfl) rfl rfl rfl
        · exact step_move rfl 62 12 (by exact Or.inl rfl) (by kernel_rfl) rfl
        · exact step_gload rfl 8 rfl (by kernel_rfl) _ rfl T4 rx4 ry4 rfl
        · exact step_mv rfl 0 rfl (by kernel_rfl) rfl rfl
        · exact step_glw rfl 65 15 (hX0.up N6) bX0 (by omega) E0.out rfl (by kernel_rfl) rfl rfl
        · exact step_mv rfl 1 rfl (by kernel_rfl) rfl rfl
        · exact step_glw rfl 67 17 (hX1.up N6) bX1 (by omega) E1.out rfl (by kernel_rfl) rfl rfl
        · exact step_gsadd rfl 66 68 16 18 hp hq rfl (by kernel_rfl) (by kernel_rfl) rfl rfl rfl
        · exact step_gsame rfl 64 69 14 19 rfl (by kernel_rfl) (by kernel_rfl) rfl rfl rfl
        · exact step_pickT rfl 63 70 13 20 rfl (by kernel_rfl) (by kernel_rfl) rfl rfl rfl
        · exact step_move rfl 71 21 (by exact Or.inr rfl) (by kernel_rfl) rfl
      · intro i o ho A W hf
        have hiN : i < 23 := (Array.getElem?_eq_some_iff.1 ho).1
        obtain rfl | rfl | rfl | rfl | rfl | rfl | rfl | rfl | rfl | rfl | rfl | rfl | rfl | rfl | rfl | rfl | rfl | rfl | rfl | rfl | rfl | rfl | rfl : i = 0 ∨ i = 1 ∨ i = 2 ∨ i = 3 ∨ i = 4 ∨ i = 5 ∨ i = 6 ∨ i = 7 ∨ i = 8 ∨ i = 9 ∨ i = 10 ∨ i = 11 ∨ i = 12 ∨ i = 13 ∨ i = 14 ∨ i = 15 ∨ i = 16 ∨ i = 17 ∨ i = 18 ∨ i = 19 ∨ i = 20 ∨ i = 21 ∨ i = 22 := by omega
        · cases ho; exact wanted_none rfl
        · cases ho; exact wanted_none rfl
        · cases ho; exact wanted_none rfl
        · cases ho; exact wanted_none rfl
        · cases ho; exact wanted_none rfl
        · cases ho; exact wanted_none rfl
        · cases ho; exact wanted_some rfl (by kernel_rfl) (hf 5 55 (by kernel_rfl))
        · cases ho; exact wanted_some rfl (by kernel_rfl) (hf 5 55 (by kernel_rfl))
        · cases ho; exact wanted_some rfl (by kernel_rfl) (hf 5 55 (by kernel_rfl))
        · cases ho; exact wanted_some rfl (by kernel_rfl) (hf 5 55 (by kernel_rfl))
        · cases ho; exact wanted_some rfl (by kernel_rfl) (hf 5 55 (by kernel_rfl))
        · cases ho; exact wanted_some rfl (by kernel_rfl) (hf 5 55 (by kernel_rfl))
        · cases ho; exact wanted_none rfl
        · cases ho; exact wanted_none rfl
        · cases ho; exact wanted_some rfl (by kernel_rfl) (hf 13 63 (by kernel_rfl))
        · cases ho; exact wanted_some rfl (by kernel_rfl) (hf 13 63 (by kernel_rfl))
        · cases ho; exact wanted_some rfl (by kernel_rfl) (hf 13 63 (by kernel_rfl))
        · cases ho; exact wanted_some rfl (by kernel_rfl) (hf 13 63 (by kernel_rfl))
        · cases ho; exact wanted_some rfl (by kernel_rfl) (hf 13 63 (by kernel_rfl))
        · cases ho; exact wanted_some rfl (by kernel_rfl) (hf 13 63 (by kernel_rfl))
        · cases ho; exact wanted_some rfl (by kernel_rfl) (hf 13 63 (by kernel_rfl))
        · cases ho; exact wanted_none rfl
        · cases ho; exact wanted_none rfl
      intro A W7 hb' hw hF
      have e2 := hF 22 4 (by kernel_rfl)
      obtain ⟨vs, hvs⟩ : ∃ vs : Nat → Value, ∀ d, A.tmps.getD d undef = vs d := ⟨_, fun _ => rfl⟩
      rw [hvs] at e2
      rw [puts_guard (md := .any) (by kernel_rfl) rfl hb' vs hvs]
      clear hb' hF hvs
      have N7 := nxt N6 hw
      have e3 : vs 4 = .bool true := e2
      clear e2 hw HA HZ0 N6
      simp only [puts, e3, Act.put, List.setIfInBounds_toArray, List.set_cons_succ, List.set_cons_zero]
      clear e3
      go_wp2
      go_ret
      exact ⟨rfl, N7⟩
    · have t1 : decide ((1048576 : Int) < (X1.length : Int)) = true := by simp; omega
      go_enter Tryd.func12, Tryd.ntmps12
      go_wp2
      go_ret
      exact ⟨rfl, Below.refl _ _⟩
  · have t0 : decide ((1048576 : Int) < (X0.length : Int)) = true := by simp; omega
    go_enter Tryd.func12, Tryd.ntmps12
    go_wp2
    go_ret
    exact ⟨rfl, Below.refl _ _⟩
theorem laid_pgroup {W : World} (h : laidMetH Tryd.prog Rows.fnPointGroupRow.laid W) : HasG W :=
  ⟨hasA_of h (by kernel_rfl) (.head _) (.tail _ (.head _)) (.tail _ (.tail _ (.head _))) (.tail _ (.tail _ (.tail _ (.head _)))), zp_of_reads (reads_of h (by kernel_rfl) (.tail _ (.tail _ (.tail _ (.tail _ (.head _))))))⟩
end Go.Proofs.YthapcapiiknjdaaDoor
