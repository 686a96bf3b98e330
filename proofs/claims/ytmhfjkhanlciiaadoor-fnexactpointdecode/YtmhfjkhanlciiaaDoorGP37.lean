import Derived.Test.YtmhfjkhanlciiaaDoorGP28
import Derived.Test.YtmhfjkhanlciiaaDoorGP36
import Derived.Deep.QuietTactic
import Derived.BigQuiet
import Derived.Test.YtmhfjkhanlciiaaDoorGP32
import Derived.Test.YtmhfjkhanlciiaaDoorGP35
import Derived.Test.YtmhfjkhanlciiaaDoorGP33

/-
  The law by facts for a region that draws its order, with guarded operations that all are wanted. No program in sight.
-/
namespace Go.Proofs.YtmhfjkhanlciiaaDoor
set_option maxRecDepth 100000
open Go Go.RowKit

section
variable {P : Program} {ops : Array Oper} {Q : Exit → Act → World → Prop} {md : Region.Mode} {F : Nat → Fact} {a0 : Act} {w0 : World}

def textEnd (md : Region.Mode) (ops : Array Oper) (n : Nat) : Bool :=
  (ops.all fun o => match o.dst with | some d => decide (d < n) | none => true)
  && ((List.range ops.size).all fun i => match ops[i]? with
    | some o => o.after.all (fun e => !Region.binds md e || decide (e.on < i)) && (List.range i).all fun j => match ops[j]? with
      | some x => x.dst.isNone || o.dst != x.dst
      | none => true
    | none => true)
structure TextE (md : Region.Mode) (ops : Array Oper) (n : Nat) : Prop where
  d : ∀ (i : Nat) o d, ops[i]? = some o → o.dst = some d → d < n
  a : ∀ (i : Nat) o, ops[i]? = some o → ∀ e ∈ o.after, Region.binds md e = true → e.on < i
  x : ∀ (i j : Nat) o o' d, ops[i]? = some o → ops[j]? = some o' → i ≠ j → o.dst = some d → o'.dst ≠ some d
theorem textE_of {n : Nat} (h : textEnd md ops n = true) : TextE md ops n := by
  unfold textEnd at h
  simp only [Bool.and_eq_true] at h
  obtain ⟨h1, h2⟩ := h
  rw [Array.all_eq_true_iff_forall_mem] at h1
  rw [List.all_eq_true] at h2
  have H : ∀ (i j : Nat) o o' d, j < i → ops[i]? = some o → ops[j]? = some o' → o.dst = some d → o'.dst ≠ some d := by
    intro i j o o' d hij hi hj hd hd'
    have q := h2 i (List.mem_range.2 (Array.getElem?_eq_some_iff.1 hi).1)
    simp only [hi, Bool.and_eq_true] at q
    have r := List.all_eq_true.1 q.2 j (List.mem_range.2 hij)
    simp only [hj, hd, hd'] at r
    simp at r
  refine ⟨?_, ?_, ?_⟩
  · intro i o d ho hd
    have q := h1 o (Array.mem_of_getElem? ho)
    simpa [hd] using q
  · intro i o ho e he hb
    have q := h2 i (List.mem_range.2 (Array.getElem?_eq_some_iff.1 ho).1)
    simp only [ho, Bool.and_eq_true] at q
    have r := (Array.all_eq_true_iff_forall_mem.1 q.1) e he
    rw [hb] at r
    simpa using r
  · intro i j o o' d hi hj hij hd hd'
    rcases Nat.lt_or_gt_of_ne hij with h | h
    · exact H j i o' o d h hj hi hd' hd
    · exact H i j o o' d h hi hj hd hd'
theorem Held.nextE {n : Nat} (T : TextE md ops n) (hn : n ≤ a0.tmps.size) {listed : Array Bool} {a : Act} {w : World} (H : Held md ops F a0 w0 listed a w) {i : Nat} {o : Oper} (ho : ops[i]? = some o) (hr : i ∈ Region.ready md ops listed)
    {v : Value} {w' : World} (hw : Below w.heap.size w w') (hf : (F i).p v w') : Held md ops F a0 w0 (listed.setIfInBounds i true) (a.put o.dst v) w' := by
  have hi : i < ops.size := (Array.getElem?_eq_some_iff.1 ho).1
  have hz : a.tmps.size = a0.tmps.size := H.b.2.1
  refine ⟨⟨by rw [put_defers]; exact H.b.1, by rw [put_size]; exact hz, fun d hd => ?_⟩, nxt H.n hw, ?_, ?_, by simp [H.s]⟩
  · rw [put_off]
    · exact H.b.2.2 d hd
    · have q := Array.all_eq_true_iff_forall_mem.1 hd o (Array.mem_of_getElem? ho)
      simpa using q
  · intro j oj d hoj hj hd
    by_cases e : i = j
    · subst e
      obtain rfl := Option.some.inj (ho.symm.trans hoj)
      rw [hd, put_at (Nat.lt_of_lt_of_le (T.d i o d ho hd) (hz ▸ hn))]
      exact hf
    · rw [getD_off e] at hj
      rw [put_off (T.x j i oj o d hoj ho (Ne.symm e) hd)]
      exact (F j).up hw (H.f j oj d hoj hj hd)
  · intro j oj hoj hj e he hb
    obtain ⟨_, o', ho', q⟩ := mem_ready.1 hr
    by_cases c : i = e.on
    · rw [← c]
      exact getD_same (by rw [H.s]; exact hi) _
    · rw [getD_off c]
      by_cases e' : i = j
      · subst e'
        obtain rfl := Option.some.inj (ho'.symm.trans hoj)
        exact q e he hb
      · rw [getD_off e'] at hj
        exact H.c j oj hoj hj e he hb
theorem any_end {n : Nat} (T : TextE md ops n) (hn : n ≤ a0.tmps.size) (steps : ∀ i, i < ops.size → StepOk P md ops Q F a0 w0 i)
    (hg : ∀ i o, ops[i]? = some o → ∀ (a : Act) (w : World), (∀ j d, waits md ops i j d = true → (F j).p (a.tmps.getD d undef) w) → Region.wanted o (yielded ops a.tmps) = true)
    (fin : ∀ a w, Based ops a0 a → Below w0.heap.size w0 w → (∀ i o d, ops[i]? = some o → o.dst = some d → (F i).p (a.tmps.getD d undef) w) → Q .normal a w) :
    ∀ (fuel : Nat) (listed : Array Bool) (a : Act) (w : World), left listed ops.size ≤ fuel → Held md ops F a0 w0 listed a w → wpAny P md ops Q fuel listed a w := by
  have done : ∀ (fuel : Nat) (listed : Array Bool) (a : Act) (w : World), Held md ops F a0 w0 listed a w → (∀ i, i < ops.size → listed.getD i false = true) → wpAny P md ops Q fuel listed a w := by
    intro fuel listed a w H hall
    refine wpAny_done ?_ (fin a w H.b H.n (fun i o d ho hd => H.f i o d ho (hall i (Array.getElem?_eq_some_iff.1 ho).1) hd)) fuel
    cases hr : Region.ready md ops listed with
    | nil => rfl
    | cons i t =>
      exfalso
      have hi : i ∈ Region.ready md ops listed := by rw [hr]; simp
      obtain ⟨h0, o, ho, _⟩ := mem_ready.1 hi
      have hlt := (Array.getElem?_eq_some_iff.1 ho).1
      rw [dflt (by rw [H.s]; exact hlt), hall i hlt] at h0
      simp at h0
  intro fuel
  induction fuel with
  | zero =>
    intro listed a w hl H
    exact done 0 listed a w H fun i hi => by
      rw [← dflt (by rw [H.s]; exact hi)]
      exact left_zero (n := ops.size) (by omega) i hi
  | succ fuel ih =>
    intro listed a w hl H
    by_cases hall : ∀ i, i < ops.size → listed.getD i false = true
    · exact done _ listed a w H hall
    · refine ⟨fun hr => ?_, fun i hi => ?_⟩
      · exfalso
        refine hall fun j hj => ?_
        have : ∀ m i, i < m → i < ops.size → listed.getD i false = true := by
          intro m
          induction m with
          | zero => intro i hi; omega
          | succ m ihm =>
            intro i hi hik
            rcases Nat.lt_or_ge i m with h1 | h1
            · exact ihm i h1 hik
            · obtain rfl : i = m := by omega
              cases hc : listed.getD i false
              · exfalso
                obtain ⟨o, ho⟩ : ∃ o, ops[i]? = some o := ⟨ops[i], by simp [hik]⟩
                have hr' : i ∈ Region.ready md ops listed := mem_ready.2 ⟨by rw [dflt (by rw [H.s]; omega)]; exact hc, o, ho, fun e he hb => ihm e.on (T.a i o ho e he hb) (by have := T.a i o ho e he hb; omega)⟩
                rw [hr] at hr'
                simp at hr'
              · rfl
        exact this (j + 1) j (by omega) hj
      · obtain ⟨h0, o, ho, hready⟩ := mem_ready.1 hi
        have hlt := (Array.getElem?_eq_some_iff.1 ho).1
        have hfacts : ∀ j d, waits md ops i j d = true → (F j).p (a.tmps.getD d undef) w := by
          intro j d hjd
          unfold waits at hjd
          rw [ho] at hjd
          cases hoj : ops[j]? with
          | none => rw [hoj] at hjd; simp at hjd
          | some oj =>
            rw [hoj] at hjd
            simp only [Bool.and_eq_true, beq_iff_eq] at hjd
            obtain ⟨e, he, hb⟩ := Array.any_eq_true'.1 hjd.1
            simp only [Bool.and_eq_true, beq_iff_eq] at hb
            exact H.f j oj d hoj (by rw [← hb.2]; exact hready e he hb.1) hjd.2
        have hwant := hg i o ho a w hfacts
        refine wpOp_step ho fun K' hK => ?_
        rw [if_pos hwant]
        have hll := left_set (by rw [H.s]; exact hlt) h0 ops.size hlt
        refine steps i hlt o ho a w H.b H.n hfacts K' fun v w' hw hf => ?_
        exact hK _ _ (ih _ _ _ (by omega) (H.nextE T hn ho hi hw hf))
/-- The same for the region. -/
theorem region_guard {id : Nat} {w : World} (F : Nat → Fact) (hm : P.follows .mixedOrders = true) (hT : textEnd .any ops a0.tmps.size = true) (steps : ∀ i, i < ops.size → StepOk P .any ops Q F a0 w i)
    (hg : ∀ i o, ops[i]? = some o → ∀ (a : Act) (w : World), (∀ j d, waits .any ops i j d = true → (F j).p (a.tmps.getD d undef) w) → Region.wanted o (yielded ops a.tmps) = true)
    (fin : ∀ a W, Based ops a0 a → Below w.heap.size w W → (∀ i d, writes ops i d = true → (F i).p (a.tmps.getD d undef) W) → Q .normal a W) : (Code.region id ops true).wp P Q a0 w := by
  have T := textE_of hT
  have z : ∀ j, (Array.replicate ops.size false).getD j false = false := fun j => by
    rw [Array.getD_eq_getD_getElem?, Array.getElem?_replicate]
    split <;> rfl
  refine wp_region_any hm ?_
  refine any_end (w0 := w) T (Nat.le_refl _) steps hg (fun a W hb hw hf => fin a W hb hw (fun i d hd => ?_)) ops.size _ a0 _ ?_ ⟨⟨rfl, rfl, fun _ _ => rfl⟩, (Below.refl _ _).drew, ?_, ?_, by simp⟩
  · obtain ⟨o, ho, hd'⟩ := writes_is hd
    exact hf i o d ho hd'
  · have : ∀ m, left (Array.replicate ops.size false) m ≤ m := by
      intro m
      induction m with
      | zero => exact Nat.le_refl _
      | succ m ih => unfold left; split <;> omega
    exact this _
  · intro i o d ho hl _
    rw [z] at hl
    simp at hl
  · intro i o ho hl
    rw [z] at hl
    simp at hl
theorem wanted_none {o : Oper} {a : Act} (h : o.guard = none) : Region.wanted o (yielded ops a.tmps) = true := by simp [Region.wanted, h]
theorem wanted_some {o : Oper} {a : Act} {g d : Nat} {v : Bool} (h : o.guard = some (g, v)) (hd : writes ops g d = true) (e : a.tmps.getD d undef = .bool v) : Region.wanted o (yielded ops a.tmps) = true := by
  obtain ⟨og, ho, hd'⟩ := writes_is hd
  have e1 : a.tmps[d]? = some (.bool v) := by
    rw [Array.getD_eq_getD_getElem?] at e
    cases hq : a.tmps[d]? with
    | none => rw [hq] at e; simp [undef] at e
    | some x => rw [hq] at e; simpa using e
  simp [Region.wanted, h, yielded, ho, hd', e1]
theorem puts_guard {n : Nat} (hT : textEnd md ops n = true) (hn : n = a0.tmps.size) {a : Act} (hb : Based ops a0 a) (vs : Nat → Value) (hv : ∀ d, a.tmps.getD d undef = vs d) : a = puts vs a0 ops.toList := by
  have T := textE_of hT
  have hin : ∀ o ∈ ops.toList, ∀ e, o.dst = some e → e < a0.tmps.size := fun o ho e he => by
    obtain ⟨i, hi⟩ := List.getElem?_of_mem ho
    have := T.d i o e (by simpa using hi) he
    rw [hn] at this
    exact this
  obtain ⟨s1, s2⟩ := puts_size vs ops.toList a0
  obtain ⟨ta, da⟩ := a
  obtain ⟨h1, h2, h3⟩ := hb
  have e1 : ta = (puts vs a0 ops.toList).tmps := by
    apply Array.ext
    · rw [s1]; exact h2
    · intro i hi hi'
      have g := puts_get vs i ops.toList a0 hin
      have l : ta[i] = ta.getD i undef := by simp [Array.getD_eq_getD_getElem?, hi]
      have r : (puts vs a0 ops.toList).tmps[i] = (puts vs a0 ops.toList).tmps.getD i undef := by simp only [Array.getD_eq_getD_getElem?, Array.getElem?_eq_getElem hi', Option.getD_some]
      rw [l, r, g]
      by_cases c : ops.toList.any (fun o => o.dst == some i) = true
      · rw [if_pos c]; exact hv i
      · rw [if_neg c]
        refine h3 i ?_
        unfold apart
        rw [Array.all_eq_true_iff_forall_mem]
        intro o ho
        have hne : ¬ (o.dst == some i) = true := fun x => c (List.any_eq_true.2 ⟨o, by simpa using ho, x⟩)
        simpa using hne
  have e2 : da = (puts vs a0 ops.toList).defers := h1.trans s2.symm
  subst e1
  subst e2
  rfl
end
end Go.Proofs.YtmhfjkhanlciiaaDoor

/-
  The program's PointDecode.
-/
namespace Go.Proofs.YtmhfjkhanlciiaaDoor
set_option maxRecDepth 100000
open Go Go.RowKit

theorem foF (q : Nat) (w : World) : (Instr.fieldAt 69 (.pointer (some ⟨q, 0, none⟩)) 1).run Tryd.prog w = .ok (.pointer (some ⟨q, 4, none⟩)) w := by kernel_rfl
set_option maxHeartbeats 4000000 in
theorem eqW9 (a0 a1 a2 a3 b0 b1 b2 b3 : Int) (w : World) :
    (Op.equalIn 9999 67 (.agg #[.int .u64 a0, .int .u64 a1, .int .u64 a2, .int .u64 a3]) (.agg #[.int .u64 b0, .int .u64 b1, .int .u64 b2, .int .u64 b3])).run Tryd.prog w = .ok (a0 == b0 && a1 == b1 && a2 == b2 && a3 == b3) w := by
  have u3 := Tryd.underlying57
  have a3' := Tryd.isAgg57
  have z3 := Tryd.sizeOf57
  rw [show (9999 : Nat) = 9998 + 1 from rfl, Op.equalIn]
  simp only [Sem.run_bind, run_underlying Tryd.underlying67, Result.andThen_ok]
  simp only [Std.Legacy.Range.forIn_eq_forIn_range', Std.Legacy.Range.size, Nat.sub_zero, Nat.add_sub_cancel, Nat.div_one, List.range'_succ, List.range'_zero, List.forIn_cons, List.forIn_nil]
  go_simp
  by_cases h0 : a0 = b0 <;> by_cases h1 : a1 = b1 <;> by_cases h2 : a2 = b2 <;> by_cases h3 : a3 = b3 <;> simp [h0, h1, h2, h3]
theorem eqB9 (p q : Bool) (w : World) : (Op.equalIn 9999 4 (.bool p) (.bool q)).run Tryd.prog w = .ok (p == q) w := by kernel_rfl
theorem partY (a0 a1 a2 a3 : Int) (p : Bool) (w : World) : (part 67 #[.int .u64 a0, .int .u64 a1, .int .u64 a2, .int .u64 a3, .bool p] 0).run Tryd.prog w = .ok (.agg #[.int .u64 a0, .int .u64 a1, .int .u64 a2, .int .u64 a3]) w := by kernel_rfl
theorem partB (a0 a1 a2 a3 : Int) (p : Bool) (w : World) : (part 4 #[.int .u64 a0, .int .u64 a1, .int .u64 a2, .int .u64 a3, .bool p] 4).run Tryd.prog w = .ok (.bool p) w := by kernel_rfl
set_option maxHeartbeats 4000000 in
theorem eqForm (a0 a1 a2 a3 b0 b1 b2 b3 : Int) (p q : Bool) (w : World) :
    (Op.equalIn 10000 69 (.agg #[.int .u64 a0, .int .u64 a1, .int .u64 a2, .int .u64 a3, .bool p]) (.agg #[.int .u64 b0, .int .u64 b1, .int .u64 b2, .int .u64 b3, .bool q])).run Tryd.prog w = .ok ((a0 == b0 && a1 == b1 && a2 == b2 && a3 == b3) && p == q) w := by
  have hs : Tryd.prog.stoodInHeld 69 = false := by kernel_rfl
  rw [show (10000 : Nat) = 9999 + 1 from rfl, Op.equalIn]
  simp only [Sem.run_bind, run_underlying Tryd.underlying69, Result.andThen_ok]
  cases h : (a0 == b0 && a1 == b1 && a2 == b2 && a3 == b3)
  · simp [hs, partY, partB, eqW9, eqB9, h]
  · cases k : (p == q) <;> simp [hs, partY, partB, eqW9, eqB9, h, k]
section
variable {ops : Array Oper} {Q : Exit → Act → World → Prop} {md : Region.Mode} {F : Nat → Fact} {a0 : Act} {w0 : World} {i : Nat} {o : Oper} {ts : Array TypeId}
theorem step_rc (hi : ops[i]? = some o) (p j : Nat) {a : Option Addr} {c : Nat} {xs : List Int} (hop : o.op = .call { callee := .value (.func 77), args := #[.tmp p], argTypes := ts })
    (hj : waits md ops i j p = true) (hO : OfOk w0 a xs) (hFj : F j = Fact.eq (.slice a 32 c)) (hFi : F i = EM (num (low7 xs))) : StepOk Tryd.prog md ops Q F a0 w0 i := by
  obtain ⟨g, hr, hb, hl⟩ := hO
  refine step_call hi _ _ ts hop (by kernel_rfl) fun A w _ hw hF => ?_
  have ea := hF j p hj
  rw [hFj] at ea
  show Calls Tryd.prog 77 #[A.tmps.getD p undef] w _
  rw [show A.tmps.getD p undef = _ from ea]
  refine (readCoordinate_any w g a c xs (hr.up hw) hb hl).mono ?_
  rintro r w' ⟨rfl, n⟩
  rw [hFi]
  exact ⟨_, rfl, n, elt (low7 xs), rfl, elt_ok (low7_byt hb) (by rw [low7_len]; exact hl)⟩
theorem step_ldb (hi : ops[i]? = some o) (p j : Nat) {q off : Nat} {v : Value} (hop : o.op = .load 4 (.tmp p)) (hj : waits md ops i j p = true) (hFj : F j = Fact.eq (.pointer (some ⟨q, off, none⟩))) (hc : w0.cell? ⟨q, off, none⟩ = some v) (hF : F i = Fact.eq v) : StepOk Tryd.prog md ops Q F a0 w0 i := by
  refine step_pure hi fun a w _ hw hf => ⟨v, ?_, by rw [hF]; exact rfl⟩
  have e := hf j p hj
  rw [hFj] at e
  have e' : a.eval (.tmp p) = .pointer (some ⟨q, off, none⟩) := e
  have c' : w.cell? ⟨q, off, none⟩ = some v := (hw.cell (block_lt_of_cell hc)).trans hc
  simp only [execOp, hop, e']
  go_simp
theorem step_pw (TT : HasTw w0 3) {D : Int} (CC : Em5 w0 2 0 D) (SS : HasSt w0 7) (II : Has3 w0 4 12 5 4) (RR : HasR w0) (hi : ops[i]? = some o) (p q j k : Nat) {A : Int} {odd : Bool} (hop : o.op = .call { callee := .value (.func 76), args := #[.tmp p, .tmp q], argTypes := ts })
    (hj : waits md ops i j p = true) (hk : waits md ops i k q = true) (hFj : F j = EM A) (hFk : F k = Fact.eq (.bool odd)) (hFi : F i = TB [pwX D A odd, A] (irB (pwZ D A))) : StepOk Tryd.prog md ops Q F a0 w0 i := by
  refine step_call hi _ _ ts hop (by kernel_rfl) fun a w _ hw hF => ?_
  have ea := hF j p hj
  have eb := hF k q hk
  rw [hFj] at ea
  rw [hFk] at eb
  obtain ⟨t, e1, L1⟩ := ea
  show Calls Tryd.prog 76 #[a.tmps.getD p undef, a.tmps.getD q undef] w _
  rw [e1, show a.tmps.getD q undef = _ from eb]
  refine (pointWith_any w t A odd L1 D (TT.up hw) (CC.up hw) (SS.up hw) (II.up hw) (RR.up hw)).mono ?_
  rintro r w' ⟨es, rfl, L, hn⟩
  rw [hFi]
  exact ⟨_, rfl, hn, es, rfl, L⟩
end
/-- A truth and a new point whose two lists lie apart. -/
def NewP3 (B : Nat) (w' : World) (e : Ending) (b : Bool) (xs ys : List Int) : Prop :=
  ∃ (a : Option Addr) (c g : Nat) (a' : Option Addr) (c' g' : Nat), e = .returned (.agg #[.bool b, .slice a xs.length c, .slice a' ys.length c']) ∧ Own w' g a .u8 xs ∧ Own w' g' a' .u8 ys ∧ B ≤ g ∧ B ≤ g' ∧ (0 < xs.length → 0 < ys.length → g ≠ g')
theorem NewP3.nil {B : Nat} {w : World} : NewP3 B w (.returned (.agg #[.bool false, .slice none 0 0, .slice none 0 0])) false [] [] := ⟨none, 0, B, none, 0, B, rfl, Own.nil _ _ _ _, Own.nil _ _ _ _, Nat.le_refl _, Nat.le_refl _, fun h => absurd h (by simp)⟩
theorem Tri.there {w : World} {p : Nat} {x y z : Value} (h : Tri w p x y z) : w.there p 0 3 := fun j hj => by
  obtain rfl | rfl | rfl : j = 0 ∨ j = 1 ∨ j = 2 := by omega
  · exact ⟨by rw [show (⟨p, 0 + 0, none⟩ : Addr) = ⟨p, 0, none⟩ from rfl, h.c0]; rfl, h.f0⟩
  · exact ⟨by rw [show (⟨p, 0 + 1, none⟩ : Addr) = ⟨p, 1, none⟩ from rfl, h.c1]; rfl, h.f1⟩
  · exact ⟨by rw [show (⟨p, 0 + 2, none⟩ : Addr) = ⟨p, 2, none⟩ from rfl, h.c2]; rfl, h.f2⟩
theorem Tri.put {w : World} {p : Nat} {x y z : Value} (h : Tri w p x y z) (u v t : Value) : Tri (((w.setCell ⟨p, 0, none⟩ u).setCell ⟨p, 1, none⟩ v).setCell ⟨p, 2, none⟩ t) p u v t := by
  have k0 : (w.setCell ⟨p, 0, none⟩ u).cell? ⟨p, 0, none⟩ = some u := World.cell?_setCell_same _ _ _ h.c0
  have k1 : (w.setCell ⟨p, 0, none⟩ u).cell? ⟨p, 1, none⟩ = some y := by rw [World.cell?_setCell_other (h := by simp)]; exact h.c1
  have k2 : (w.setCell ⟨p, 0, none⟩ u).cell? ⟨p, 2, none⟩ = some z := by rw [World.cell?_setCell_other (h := by simp)]; exact h.c2
  have l0 : ((w.setCell ⟨p, 0, none⟩ u).setCell ⟨p, 1, none⟩ v).cell? ⟨p, 0, none⟩ = some u := by rw [World.cell?_setCell_other (h := by simp)]; exact k0
  have l1 : ((w.setCell ⟨p, 0, none⟩ u).setCell ⟨p, 1, none⟩ v).cell? ⟨p, 1, none⟩ = some v := World.cell?_setCell_same _ _ _ k1
  have l2 : ((w.setCell ⟨p, 0, none⟩ u).setCell ⟨p, 1, none⟩ v).cell? ⟨p, 2, none⟩ = some z := by rw [World.cell?_setCell_other (h := by simp)]; exact k2
  refine ⟨?_, ?_, World.cell?_setCell_same _ _ _ l2, ?_, ?_, ?_⟩
  · rw [World.cell?_setCell_other (h := by simp)]; exact l0
  · rw [World.cell?_setCell_other (h := by simp)]; exact l1
  · rw [World.frozen?_setCell, World.frozen?_setCell, World.frozen?_setCell]; exact h.f0
  · rw [World.frozen?_setCell, World.frozen?_setCell, World.frozen?_setCell]; exact h.f1
  · rw [World.frozen?_setCell, World.frozen?_setCell, World.frozen?_setCell]; exact h.f2
def PD3 (w0 : World) (xs ys : List Int) : Fact := ⟨fun v w => ∃ (a a' : Option Addr) (c c' g g' : Nat), v = .agg #[.bool true, .slice a xs.length c, .slice a' ys.length c'] ∧ Own w g a .u8 xs ∧ Own w g' a' .u8 ys ∧ w0.heap.size ≤ g ∧ w0.heap.size ≤ g' ∧ (0 < xs.length → 0 < ys.length → g ≠ g'), fun n h => by
  obtain ⟨a, a', c, c', g, g', e, o, o', q⟩ := h
  exact ⟨a, a', c, c', g, g', e, o.up n, o'.up n, q⟩⟩
theorem bu3 (w : World) (a a' : Option Addr) (m m' c c' : Nat) : (Instr.build 44 #[(0, .bool true), (1, .agg #[.slice a m c, .slice a' m' c'])]).run Tryd.prog w = .ok (.agg #[.bool true, .slice a m c, .slice a' m' c']) w := by kernel_rfl
theorem i3R : (Tryd.prog.info? 44).map (·.size) = some 3 := by kernel_rfl
theorem u3R : ∃ fs, Tryd.prog.underlying 44 = some (.struct fs) := ⟨_, Tryd.underlying44⟩
theorem eq_W4 {U V : Nat → Int} (hU : W4 U) (hV : W4 V) : (U 0 == V 0 && U 1 == V 1 && U 2 == V 2 && U 3 == V 3) = decide (wval U = wval V) := by
  by_cases h : wval U = wval V
  · have e := hU.uniq hV h
    rw [e 0 (by omega), e 1 (by omega), e 2 (by omega), e 3 (by omega)]
    simp [h]
  · rw [decide_eq_false h]
    cases hq : (U 0 == V 0 && U 1 == V 1 && U 2 == V 2 && U 3 == V 3)
    · rfl
    · exfalso
      simp only [Bool.and_eq_true, beq_iff_eq] at hq
      exact h (by unfold wval; rw [hq.1.1.1, hq.1.1.2, hq.1.2, hq.2])
theorem lo_ok {u : Nat → Int} (h : W4 u) : W4 (loW u) := fun j hj => by
  have := h j hj
  unfold loW
  split
  · omega
  · exact this
theorem beq_form (U V : Nat → Int) (p q : Bool) (x y : Nat) (w : World) : (do eqGuard .neq 69 (.tmp x) (.tmp y) (FmV U p) (FmV V q); binOp .neq 69 (FmV U p) (FmV V q) : Sem Value).run Tryd.prog w = .ok (.bool (!((U 0 == V 0 && U 1 == V 1 && U 2 == V 2 && U 3 == V 3) && p == q))) w := by
  have h : (eqGuard .neq 69 (.tmp x) (.tmp y) (FmV U p) (FmV V q)).run Tryd.prog w = .ok () w := by kernel_rfl
  have h2 : (binOp .neq 69 (FmV U p) (FmV V q)).run Tryd.prog w = .ok (.bool (!((U 0 == V 0 && U 1 == V 1 && U 2 == V 2 && U 3 == V 3) && p == q))) w := by
    have k := eqForm (U 0) (U 1) (U 2) (U 3) (V 0) (V 1) (V 2) (V 3) p q w
    show (do pure (.bool (!(← Op.equal 69 (FmV U p) (FmV V q)))) : Sem Value).run Tryd.prog w = _
    rw [Sem.run_bind]
    have k' : (Op.equal 69 (FmV U p) (FmV V q)).run Tryd.prog w = _ := k
    rw [k']
    rfl
  rw [Sem.run_bind, h]
  exact h2
section
variable {ops : Array Oper} {Q : Exit → Act → World → Prop} {md : Region.Mode} {F : Nat → Fact} {a0 : Act} {w0 : World} {i : Nat} {o : Oper}
theorem step_lF (hi : ops[i]? = some o) (p : Nat) (hop : o.op = .load 69 (.tmp p)) (hp : apart ops p = true) (q : Nat) (h0 : a0.tmps.getD p undef = .pointer (some ⟨q, 0, none⟩)) (U : Nat → Int) (b : Bool) (hc : w0.rangeAt q 0 (fmC U b)) (lq : q < w0.heap.size) (hF : F i = Fact.eq (FmV U b)) : StepOk Tryd.prog md ops Q F a0 w0 i := by
  obtain ⟨fs, hu⟩ := uF
  refine step_load hi _ _ hop _ 5 hu rfl iF fun a w hb hw _ => ?_
  exact ⟨q, 0, _, (based_at hb p hp).trans h0, fun j v hv => (World.cell?_of_block (a := ⟨q, 0 + j, none⟩) (hw.block q lq)).trans (hc j v hv), rfl, by rw [hF]; exact rfl⟩
theorem step_neF (hi : ops[i]? = some o) (p q j k : Nat) (v : Int) (b c : Bool) (V : Nat → Int) (hV : W4 V) {t : TypeId} (hop : o.op = .binOp .neq 69 (.tmp p) (.tmp q) t)
    (hj : waits md ops i j p = true) (hk : waits md ops i k q = true) (hFj : F j = FM v b) (hFk : F k = Fact.eq (FmV V c)) (hFi : F i = Fact.eq (.bool (!(decide (v = wval V) && b == c)))) : StepOk Tryd.prog md ops Q F a0 w0 i := by
  refine step_pure hi fun a w _ _ hf => ⟨.bool (!(decide (v = wval V) && b == c)), ?_, by rw [hFi]; exact rfl⟩
  have h1 := hf j p hj
  have h2 := hf k q hk
  rw [hFj] at h1
  rw [hFk] at h2
  obtain ⟨U, e1, X, hX⟩ := h1
  have g1 : a.eval (.tmp p) = FmV U b := e1
  have g2 : a.eval (.tmp q) = FmV V c := h2
  have k := beq_form U V b c p q w
  rw [eq_W4 X hV, hX] at k
  simp only [execOp, hop, g1, g2]
  rw [Sem.run_bind, k]
  rfl
theorem step_pick {P : Program} (hi : ops[i]? = some o) (p q j k : Nat) {v : Value} {x : Value} (hop : o.op = .pick (.tmp p) (.const x) (.tmp q)) (hj : waits md ops i j p = true) (hk : waits md ops i k q = true) (hFj : F j = Fact.eq (.bool false)) (hFk : F k = Fact.eq v) (hFi : F i = Fact.eq v) : StepOk P md ops Q F a0 w0 i := by
  refine step_pure hi fun a w _ _ hf => ⟨v, ?_, by rw [hFi]; exact rfl⟩
  have h1 := hf j p hj
  have h2 := hf k q hk
  rw [hFj] at h1
  rw [hFk] at h2
  have g1 : a.eval (.tmp p) = .bool false := h1
  have g2 : a.eval (.tmp q) = v := h2
  have g3 : a.eval (.const x) = x := rfl
  simp only [execOp, hop, g1, g2, g3]
  rfl
end
theorem step_b3 {ops : Array Oper} {Q : Exit → Act → World → Prop} {md : Region.Mode} {F : Nat → Fact} {a0 : Act} {w0 : World} {i : Nat} {o : Oper} (hi : ops[i]? = some o) (p j : Nat) {xs ys : List Int} (hop : o.op = .build 44 #[(0, .const (.bool true)), (1, .tmp p)])
    (hj : waits md ops i j p = true) (hFj : F j = PD w0 xs ys) (hFi : F i = PD3 w0 xs ys) : StepOk Tryd.prog md ops Q F a0 w0 i := by
  refine step_pure hi fun a w _ _ hf => ?_
  have h1 := hf j p hj
  rw [hFj] at h1
  obtain ⟨b, b', c, c', g, g', e1, q⟩ := h1
  refine ⟨.agg #[.bool true, .slice b xs.length c, .slice b' ys.length c'], ?_, by rw [hFi]; exact ⟨b, b', c, c', g, g', rfl, q⟩⟩
  have g1 : a.eval (.tmp p) = .agg #[.slice b xs.length c, .slice b' ys.length c'] := e1
  have g2 : a.eval (.const (.bool true)) = .bool true := rfl
  have gg : (#[(0, Operand.const (.bool true)), (1, Operand.tmp p)].map fun (n, x) => (n, a.eval x)) = #[(0, .bool true), (1, .agg #[.slice b xs.length c, .slice b' ys.length c'])] := by simp [g1, g2]
  simp only [execOp, hop, gg]
  rw [Sem.run_bind, bu3]
  rfl
theorem region_put3 {ops : Array Oper} {Q : Exit → Act → World → Prop} {a0 : Act} {w : World} {id : Nat} {draw : Bool} (k jV pD pV : Nat) (o : Oper) (F : Nat → Fact) (xs ys : List Int) (q : Nat) (hT : textOk .any ops a0.tmps.size k = true) (hk : ops[k]? = some o) (hd : o.dst = none) (hop : o.op = .store 44 (.tmp pD) (.tmp pV))
    (hp : apart ops pD = true) (h0 : a0.tmps.getD pD undef = .pointer (some ⟨q, 0, none⟩)) (ht : w.there q 0 3)
    (wV : writes ops jV pV = true) (FV : F jV = PD3 w xs ys) (steps : ∀ i, i < k → StepOk Tryd.prog .any ops Q F a0 w i)
    (fin : ∀ (vs : Nat → Value) (W W' : World) (a a' : Option Addr) (c c' g g' : Nat), Below w.heap.size w W → W'.rangeAt q 0 [.bool true, .slice a xs.length c, .slice a' ys.length c'] → Own W' g a .u8 xs → Own W' g' a' .u8 ys → w.heap.size ≤ g → w.heap.size ≤ g' → (0 < xs.length → 0 < ys.length → g ≠ g') → (∀ (w1 : World) (B : Nat), Below B w1 W → B ≤ q → Below B w1 W') → Q .normal (puts vs a0 ops.toList) W') :
    (Code.region id ops draw).wp Tryd.prog Q a0 w := by
  refine region_store k o F (by kernel_rfl) hT hk hd steps fun a W hb hw hF => ?_
  have h2 := hF jV pV wV
  rw [FV] at h2
  obtain ⟨b, b', c, c', g, g', ev, o1, o2, l1, l2, hpp⟩ := h2
  have th := there_up (by omega) ht hw
  refine wp_store_mid 44 (.tmp pD) (.tmp pV) hop q 0 #[.bool true, .slice b xs.length c, .slice b' ys.length c'] ((based_at hb pD hp).trans h0) ev th i3R (by simp [Value.oneCell']) ?_
  obtain ⟨vs, hvs⟩ : ∃ vs : Nat → Value, ∀ d, a.tmps.getD d undef = vs d := ⟨_, fun _ => rfl⟩
  rw [hd]
  show Q .normal a _
  rw [puts_of hT rfl hb vs hvs]
  have lq := there_lt (by omega) ht
  refine fin vs W _ b b' c c' g g' hw (World.rangeAt_setCells_same W q 0 _ th) ?_ ?_ l1 l2 hpp (fun w1 B n hB => below_setCells hB _ _ _ n)
  · exact fun h0 => o1.of_block (setCells_other (by omega) _ 0 W) h0
  · exact fun h0 => o2.of_block (setCells_other (by omega) _ 0 W) h0
/-- The highest bit; whether the form comes back; what is decoded. -/
def oddW (xs : List Int) : Bool := decide (9223372036854775808 ≤ wv (fun j => xs.getD j 0) 32 3)
def fmB (D : Int) (xs : List Int) : Bool := decide (num (low7 xs) % PP = wval (loW (wv (fun j => xs.getD j 0) 32))) && (!decide (pwX D (num (low7 xs)) (oddW xs) % PP % 2 = 0)) == oddW xs
def idB (D : Int) (xs : List Int) : Bool := decide (xs.length = 32) && (irB (pwZ D (num (low7 xs))) && fmB D xs)
def idX (D : Int) (xs : List Int) : List Int := if idB D xs = true then fill (byt (pwX D (num (low7 xs)) (oddW xs) % PP)) 32 else []
def idY (D : Int) (xs : List Int) : List Int := if idB D xs = true then fill (byt (num (low7 xs) % PP)) 32 else []
theorem id_nil {D : Int} {xs : List Int} (h : idB D xs = false) : idX D xs = [] ∧ idY D xs = [] := by
  unfold idX idY
  rw [if_neg (by rw [h]; simp), if_neg (by rw [h]; simp)]
  exact ⟨rfl, rfl⟩
set_option maxHeartbeats 8000000 in
theorem implDecode_any (w : World) (g : Nat) (a : Option Addr) (c : Nat) (xs : List Int) (hr : Rd w g a .u8 xs) (hb : Byt xs) (D : Int) (TT : HasTw w 3) (CC : Em5 w 2 0 D) (SS : HasSt w 7) (II : Has3 w 4 12 5 4) (RR : HasR w) :
    Calls Tryd.prog 37 #[.slice a xs.length c] w fun r w' => NewP3 w.heap.size w' r (idB D xs) (idX D xs) (idY D xs) ∧ Below w.heap.size w w' := by
  have TZ := Tri.new w (.bool false) (.slice none 0 0) (.slice none 0 0) 44
  have N : Below w.heap.size w (w.alloc prObj) := (Below.refl _ _).alloc (Nat.le_refl _) _
  have T := fun W => isFieldSize_any W a c xs.length
  by_cases hl : xs.length = 32
  · have RF := hide (fun W (n : Below w.heap.size w W) => readForm_any W g a c xs (hr.up n) hb hl)
    have OX := hide (fun W (n : Below w.heap.size w W) => of_ok (hr.up n) hb hl)
    have LI : Hid (decide (xs.length = 32) = true) := decide_eq_true hl
    rw [hl] at T ⊢
    clear hl hr
    go_enter Tryd.func37, Tryd.ntmps37
    go_wp2_with fail
    change Calls _ _ _ (w.alloc prObj) _
    generalize w.alloc prObj = wa at *
    refine (T wa).mono ?_
    rintro e wb ⟨rfl, eW⟩
    subst eW
    clear T
    go_wp2_with fail
    refine (RF.out wb N).mono ?_
    rintro r w1 ⟨u, rfl, hu, hU, n1⟩
    replace TZ := TZ.up n1
    replace N := nxt N n1
    clear n1 RF
    obtain ⟨odd, hodd⟩ : ∃ b, b = decide (9223372036854775808 ≤ u 3) := ⟨_, rfl⟩
    rw [← hodd]
    have HO : Hid (odd = oddW xs) := by show _ = _; rw [hodd, hU]; rfl
    have HU := hide hU
    clear hodd hU
    simp only [FmV, fmC]
    have n2 : Below w1.heap.size w1 (w1.alloc (.cells #[.int .u64 (loW u 0), .int .u64 (loW u 1), .int .u64 (loW u 2), .int .u64 (loW u 3), .bool odd] 69)) := (Below.refl _ _).alloc (Nat.le_refl _) _
    have hB : (w1.alloc (.cells #[.int .u64 (loW u 0), .int .u64 (loW u 1), .int .u64 (loW u 2), .int .u64 (loW u 3), .bool odd] 69)).heap[w1.heap.size]? = some (.cells #[.int .u64 (loW u 0), .int .u64 (loW u 1), .int .u64 (loW u 2), .int .u64 (loW u 3), .bool odd] 69) := heap_alloc_last _ _
    replace TZ := TZ.up n2
    replace N := nxt N n2
    clear n2
    go_upto_region 4 with fail
    generalize w1.alloc (.cells #[.int .u64 (loW u 0), .int .u64 (loW u 1), .int .u64 (loW u 2), .int .u64 (loW u 3), .bool odd] 69) = w2 at *
    have FC : ∀ W : World, W.heap[w1.heap.size]? = w2.heap[w1.heap.size]? → W.cell? ⟨w1.heap.size, 0, none⟩ = some (.int .u64 (loW u 0)) ∧ W.cell? ⟨w1.heap.size, 1, none⟩ = some (.int .u64 (loW u 1)) ∧ W.cell? ⟨w1.heap.size, 2, none⟩ = some (.int .u64 (loW u 2)) ∧ W.cell? ⟨w1.heap.size, 3, none⟩ = some (.int .u64 (loW u 3)) ∧ W.cell? ⟨w1.heap.size, 4, none⟩ = some (.bool odd) := fun W h => by
      rw [hB] at h
      refine ⟨?_, ?_, ?_, ?_, ?_⟩ <;> (unfold World.cell?; simp only; rw [h]; rfl)
    have lB : w1.heap.size < w2.heap.size := (Array.getElem?_eq_some_iff.1 hB).1
    have CB := (FC w2 rfl).2.2.2.2
    have HFC := hide FC
    clear FC hB
    replace OX := hide (OX.out w2 N)
    replace TT := TT.up N
    replace CC := CC.up N
    replace SS := SS.up N
    replace II := II.up N
    replace RR := RR.up N
    refine region_newN_late 61 9 8 6 4 18 7 19 5 _ _ (fun i => [Fact.eq (.slice a 32 c), EM (num (low7 xs)), Fact.eq (.pointer (some ⟨w1.heap.size, 4, none⟩)), Fact.eq (.bool odd), TB [pwX D (num (low7 xs)) odd, num (low7 xs)] (irB (pwZ D (num (low7 xs)))), TB [pwX D (num (low7 xs)) odd, num (low7 xs)] (irB (pwZ D (num (low7 xs)))), EN [pwX D (num (low7 xs)) odd, num (low7 xs)], Fact.eq (.bool (irB (pwZ D (num (low7 xs))))), NB w2 10].getD i Fact.no) [pwX D (num (low7 xs)) odd, num (low7 xs)] (.bool (irB (pwZ D (num (low7 xs))))) (by kernel_rfl) rfl rfl rfl rfl rfl rfl iA (Nat.zero_lt_succ _) rfl rfl (by kernel_rfl) (by kernel_rfl) (by kernel_rfl) rfl rfl rfl (by decide) (by decide) (by kernel_rfl) ?_ ?_ ?_
    · intro j d v u u' hw h
      obtain rfl : j = 5 := late_one (by kernel_rfl) hw
      exact h
    · intro i hi
      obtain rfl | rfl | rfl | rfl | rfl | rfl | rfl | rfl | rfl : i = 0 ∨ i = 1 ∨ i = 2 ∨ i = 3 ∨ i = 4 ∨ i = 5 ∨ i = 6 ∨ i = 7 ∨ i = 8 := by omega
      · exact step_mv rfl 0 rfl (by kernel_rfl) rfl rfl
      · exact step_rc rfl 13 0 rfl (by kernel_rfl) OX.out rfl rfl
      · exact step_fld rfl 69 3 1 rfl (by kernel_rfl) _ _ rfl (foF _) rfl
      · exact step_ldb rfl 15 2 rfl (by kernel_rfl) rfl CB rfl
      · exact step_pw TT CC SS II RR rfl 14 16 1 3 rfl (by kernel_rfl) (by kernel_rfl) rfl rfl rfl
      · exact step_move rfl 17 4 (by exact Or.inl rfl) (by kernel_rfl) rfl
      · exact step_tx0 rfl 12 5 _ _ rfl (by kernel_rfl) rfl rfl
      · exact step_tx1 rfl 12 5 _ _ rfl (by kernel_rfl) rfl rfl
      · exact step_newA rfl rfl rfl
    intro vs4 q4 W4' v4 b5 l4 n R4 T4
    replace TZ := TZ.up n
    replace N := nxt N n
    have HB := HFC.out W4' (n.block w1.heap.size lB)
    clear n T4 OX TT CC SS II RR CB HFC
    obtain ⟨gd, hgd⟩ : ∃ b, b = irB (pwZ D (num (low7 xs))) := ⟨_, rfl⟩
    rw [← hgd] at b5
    have HG := hide hgd
    clear hgd
    simp only [puts, v4, b5, Act.put, List.setIfInBounds_toArray, List.set_cons_succ, List.set_cons_zero]
    clear v4 b5
    cases gd with
    | false =>
      have eB : idB D xs = false := by unfold idB; rw [LI.out, ← HG.out]; rfl
      obtain ⟨eX, eY⟩ := id_nil eB
      clear HB R4
      go_upto_region 5 with fail
      go_quiet (fail)
      have nd : Below W4'.heap.size W4' (W4'.drewN nq) := (Only.drewN W4' W4'.heap.size nq).below (Nat.le_refl _)
      replace TZ := TZ.up nd
      replace N := nxt N nd
      clear nd
      generalize W4'.drewN nq = Wq at *
      have c0 := TZ.c0
      have c1 := TZ.c1
      have c2 := TZ.c2
      have f0 := TZ.f0
      have f1 := TZ.f1
      have f2 := TZ.f2
      have NS := ((N.setCell (p := ⟨w.heap.size, 0, none⟩) (Nat.le_refl _) (.bool false)).setCell (p := ⟨w.heap.size, 1, none⟩) (Nat.le_refl _) (.slice none 0 0)).setCell (p := ⟨w.heap.size, 2, none⟩) (Nat.le_refl _) (.slice none 0 0)
      have TS := TZ.put (.bool false) (.slice none 0 0) (.slice none 0 0)
      go_wp2
      have k0 := TS.c0
      have k1 := TS.c1
      have k2 := TS.c2
      exact bodyPost_ret (v := .agg #[.bool false, .slice none 0 0, .slice none 0 0]) (by simp [results, Tryd.results37, go_sem, k0, k1, k2]) rfl ⟨by rw [eB, eX, eY]; exact NewP3.nil, NS⟩
    | true =>
      have RF : W4'.rangeAt w1.heap.size 0 (fmC (loW u) odd) := fun j v hv => by
        obtain ⟨h0, h1, h2, h3, h4⟩ := HB
        have hj : j < 5 := (List.getElem?_eq_some_iff.1 hv).1
        obtain rfl | rfl | rfl | rfl | rfl : j = 0 ∨ j = 1 ∨ j = 2 ∨ j = 3 ∨ j = 4 := by omega
        · cases hv; exact h0
        · cases hv; exact h1
        · cases hv; exact h2
        · cases hv; exact h3
        · cases hv; exact h4
      have lB' : w1.heap.size < W4'.heap.size := block_lt_of_cell HB.1
      clear HB
      go_upto_region 5 with fail
      refine region_guard (fun i => [Fact.eq (.bool true), Fact.eq (.bool (!true)), Fact.eq (.bool (!true)), EN [pwX D (num (low7 xs)) odd, num (low7 xs)], FM (num (low7 xs) % PP) (!decide (pwX D (num (low7 xs)) odd % PP % 2 = 0)), Fact.eq (FmV (loW u) odd), Fact.eq (.bool (!(decide (num (low7 xs) % PP = wval (loW u)) && (!decide (pwX D (num (low7 xs)) odd % PP % 2 = 0)) == odd))), Fact.eq (.bool (!(decide (num (low7 xs) % PP = wval (loW u)) && (!decide (pwX D (num (low7 xs)) odd % PP % 2 = 0)) == odd)))].getD i Fact.no) (by kernel_rfl) (by kernel_rfl) ?_ ?_ ?_
      · intro i hi
        have hi8 : i < 8 := hi
        obtain rfl | rfl | rfl | rfl | rfl | rfl | rfl | rfl : i = 0 ∨ i = 1 ∨ i = 2 ∨ i = 3 ∨ i = 4 ∨ i = 5 ∨ i = 6 ∨ i = 7 := by omega
        · exact step_mv rfl 5 rfl (by kernel_rfl) rfl rfl
        · exact step_notb rfl 20 0 rfl (by kernel_rfl) rfl rfl
        · exact step_move rfl 21 1 (by exact Or.inl rfl) (by kernel_rfl) rfl
        · exact step_lA rfl 4 rfl (by kernel_rfl) _ rfl _ _ R4 rfl
        · exact step_form rfl 23 3 _ _ rfl (by kernel_rfl) rfl rfl
        · exact step_lF rfl 3 rfl (by kernel_rfl) _ rfl _ _ RF lB' rfl
        · exact step_neF rfl 24 25 4 5 _ _ _ _ (lo_ok hu) rfl (by kernel_rfl) (by kernel_rfl) rfl rfl rfl
        · exact step_pick rfl 22 26 2 6 rfl (by kernel_rfl) (by kernel_rfl) rfl rfl rfl
      · intro i o ho A W hf
        have hi8 : i < 8 := (Array.getElem?_eq_some_iff.1 ho).1
        obtain rfl | rfl | rfl | rfl | rfl | rfl | rfl | rfl : i = 0 ∨ i = 1 ∨ i = 2 ∨ i = 3 ∨ i = 4 ∨ i = 5 ∨ i = 6 ∨ i = 7 := by omega
        · cases ho; exact wanted_none rfl
        · cases ho; exact wanted_none rfl
        · cases ho; exact wanted_none rfl
        · cases ho; exact wanted_some rfl (by kernel_rfl) (hf 2 22 (by kernel_rfl))
        · cases ho; exact wanted_some rfl (by kernel_rfl) (hf 2 22 (by kernel_rfl))
        · cases ho; exact wanted_some rfl (by kernel_rfl) (hf 2 22 (by kernel_rfl))
        · cases ho; exact wanted_some rfl (by kernel_rfl) (hf 2 22 (by kernel_rfl))
        · cases ho; exact wanted_none rfl
      intro A W hb' hw hF
      have e2 := hF 7 27 (by kernel_rfl)
      obtain ⟨vs, hvs⟩ : ∃ vs : Nat → Value, ∀ d, A.tmps.getD d undef = vs d := ⟨_, fun _ => rfl⟩
      rw [hvs] at e2
      rw [puts_guard (md := .any) (by kernel_rfl) rfl hb' vs hvs]
      replace TZ := TZ.up hw
      replace N := nxt N hw
      replace R4 := R4.up hw
      clear hb' hF hvs hw RF
      obtain ⟨fe, hfe⟩ : ∃ b, b = (decide (num (low7 xs) % PP = wval (loW u)) && (!decide (pwX D (num (low7 xs)) odd % PP % 2 = 0)) == odd) := ⟨_, rfl⟩
      have e3 : vs 27 = .bool (!fe) := by rw [hfe]; exact e2
      have HE := hide hfe
      clear e2 hfe
      simp only [puts, e3, Act.put, List.setIfInBounds_toArray, List.set_cons_succ, List.set_cons_zero]
      clear e3 lB'
      have EB : Hid (idB D xs = fe) := by
        show _ = _
        unfold idB fmB
        rw [LI.out, ← HG.out, HE.out, HO.out, HU.out]
        rfl
      cases fe with
      | false =>
        have eB := EB.out
        obtain ⟨eX, eY⟩ := id_nil eB
        clear EB HE R4
        have c0 := TZ.c0
        have c1 := TZ.c1
        have c2 := TZ.c2
        have f0 := TZ.f0
        have f1 := TZ.f1
        have f2 := TZ.f2
        have NS := ((N.setCell (p := ⟨w.heap.size, 0, none⟩) (Nat.le_refl _) (.bool false)).setCell (p := ⟨w.heap.size, 1, none⟩) (Nat.le_refl _) (.slice none 0 0)).setCell (p := ⟨w.heap.size, 2, none⟩) (Nat.le_refl _) (.slice none 0 0)
        have TS := TZ.put (.bool false) (.slice none 0 0) (.slice none 0 0)
        go_wp2
        have k0 := TS.c0
        have k1 := TS.c1
        have k2 := TS.c2
        exact bodyPost_ret (v := .agg #[.bool false, .slice none 0 0, .slice none 0 0]) (by simp [results, Tryd.results37, go_sem, k0, k1, k2]) rfl ⟨by rw [eB, eX, eY]; exact NewP3.nil, NS⟩
      | true =>
        have e1 := hide (show idX D xs = (fill (byt ((pwX D (num (low7 xs)) odd) % PP)) 32) by unfold idX; rw [if_pos EB.out, ← HO.out])
        have e2 := hide (show idY D xs = (fill (byt ((num (low7 xs)) % PP)) 32) by unfold idY; rw [if_pos EB.out])
        go_upto_region 7 with fail
        refine region_put3 3 2 2 31 _ (fun i => [EN [pwX D (num (low7 xs)) odd, num (low7 xs)], PD W (fill (byt ((pwX D (num (low7 xs)) odd) % PP)) 32) (fill (byt ((num (low7 xs)) % PP)) 32), PD3 W (fill (byt ((pwX D (num (low7 xs)) odd) % PP)) 32) (fill (byt ((num (low7 xs)) % PP)) 32)].getD i Fact.no) (fill (byt ((pwX D (num (low7 xs)) odd) % PP)) 32) (fill (byt ((num (low7 xs)) % PP)) 32) _ (by kernel_rfl) rfl rfl rfl (by kernel_rfl) rfl TZ.there (by kernel_rfl) rfl ?_ ?_
        · intro i hi
          obtain rfl | rfl | rfl : i = 0 ∨ i = 1 ∨ i = 2 := by omega
          · exact step_lA rfl 4 rfl (by kernel_rfl) _ rfl _ _  R4 rfl
          · exact step_pt rfl 29 0 _ _ rfl (by kernel_rfl) rfl rfl
          · exact step_b3 rfl 30 1 rfl (by kernel_rfl) rfl rfl
        intro vsL Wa Wb b b' k k' h h' na rg o1 o2 l1 l2 hne nb
        have z := N.size
        have NS := nb w w.heap.size (nxt N na) (by omega)
        simp only [puts, Act.put, List.setIfInBounds_toArray, List.set_cons_succ, List.set_cons_zero]
        clear na nb N TZ R4
        obtain ⟨fs, hfs⟩ := u3R
        go_wp2
        exact bodyPost_ret (v := .agg #[.bool true, .slice b _ k, .slice b' _ k']) (results_cell_mid Tryd.results37 _ _ w.heap.size [.bool true, .slice b _ k, .slice b' _ k'] _ rfl rg hfs rfl i3R) rfl ⟨by rw [EB.out, e1.out, e2.out]; exact ⟨b, k, h, b', k', h', rfl, o1, o2, by omega, by omega, hne⟩, NS⟩
  · have eB : idB D xs = false := by unfold idB; rw [decide_eq_false hl]; rfl
    obtain ⟨eX, eY⟩ := id_nil eB
    have t1 : decide (xs.length = 32) = false := decide_eq_false hl
    rw [t1] at T
    clear hl t1 hr TT CC SS II RR
    go_enter Tryd.func37, Tryd.ntmps37
    go_wp2_with fail
    change Calls _ _ _ (w.alloc prObj) _
    change Tri (w.alloc prObj) _ _ _ _ at TZ
    generalize w.alloc prObj = wa at *
    refine (T wa).mono ?_
    rintro e wb ⟨rfl, eW⟩
    subst eW
    clear T
    have c0 := TZ.c0
    have c1 := TZ.c1
    have c2 := TZ.c2
    have f0 := TZ.f0
    have f1 := TZ.f1
    have f2 := TZ.f2
    have NS := ((N.setCell (p := ⟨w.heap.size, 0, none⟩) (Nat.le_refl _) (.bool false)).setCell (p := ⟨w.heap.size, 1, none⟩) (Nat.le_refl _) (.slice none 0 0)).setCell (p := ⟨w.heap.size, 2, none⟩) (Nat.le_refl _) (.slice none 0 0)
    have TS := TZ.put (.bool false) (.slice none 0 0) (.slice none 0 0)
    go_wp2
    have k0 := TS.c0
    have k1 := TS.c1
    have k2 := TS.c2
    exact bodyPost_ret (v := .agg #[.bool false, .slice none 0 0, .slice none 0 0]) (by simp [results, Tryd.results37, go_sem, k0, k1, k2]) rfl ⟨by rw [eB, eX, eY]; exact NewP3.nil, NS⟩
end Go.Proofs.YtmhfjkhanlciiaaDoor

/-
  Canonical bytes are those of their number.
-/
namespace Go.Proofs.YtmhfjkhanlciiaaDoor
set_option maxRecDepth 100000
open Go.RowKit

theorem lsum_inj {a b : Nat → Int} (ha : ∀ j, 0 ≤ a j ∧ a j < 256) (hb : ∀ j, 0 ≤ b j ∧ b j < 256) : ∀ n, lsum a n = lsum b n → ∀ j, j < n → a j = b j
  | 0, _, j, hj => by omega
  | n + 1, h, j, hj => by
    have bd : ∀ (c : Nat → Int), (∀ j, 0 ≤ c j ∧ c j < 256) → ∀ m, 0 ≤ lsum c m ∧ lsum c m < 256 ^ m := by
      intro c hc m
      induction m with
      | zero => simp [lsum]
      | succ m ih =>
        have hm := hc m
        have hp := p256_pos m
        rw [lsum, Int.pow_succ]
        have e1 : c m * 256 ^ m ≤ 255 * 256 ^ m := Int.mul_le_mul_of_nonneg_right (by omega) (Int.le_of_lt hp)
        have e2 : 0 ≤ c m * 256 ^ m := Int.mul_nonneg hm.1 (Int.le_of_lt hp)
        omega
    have h1 := bd a ha n
    have h2 := bd b hb n
    have hp := p256_pos n
    rw [lsum, lsum] at h
    have e : a n = b n := by
      rcases Int.lt_trichotomy (a n) (b n) with c | c | c
      · exfalso
        have : (a n + 1) * 256 ^ n ≤ b n * 256 ^ n := Int.mul_le_mul_of_nonneg_right (by omega) (Int.le_of_lt hp)
        rw [Int.add_mul] at this
        omega
      · exact c
      · exfalso
        have : (b n + 1) * 256 ^ n ≤ a n * 256 ^ n := Int.mul_le_mul_of_nonneg_right (by omega) (Int.le_of_lt hp)
        rw [Int.add_mul] at this
        omega
    rw [e] at h
    rcases Nat.lt_or_ge j n with c | c
    · exact lsum_inj ha hb n (by omega) j c
    · obtain rfl : j = n := by omega
      exact e
theorem valid_y1 {xs ys : List Int} (h : validP xs ys = true) : canN ys = true := by
  unfold validP at h
  simp only [Bool.and_eq_true] at h
  exact h.1.2
theorem valid_x1 {xs ys : List Int} (h : validP xs ys = true) : canN xs = true := by
  unfold validP at h
  simp only [Bool.and_eq_true] at h
  exact h.1.1
theorem num_ge {xs : List Int} (hb : Byt xs) : 0 ≤ num xs := lsum_nonneg (fun j => hb j) _
theorem can_lt {xs : List Int} (h : canN xs = true) : num xs < PP := by
  unfold canN at h
  simp at h
  exact h.2
theorem fill_can {xs : List Int} (hb : Byt xs) (h : canN xs = true) : fill (byt (num xs % PP)) 32 = xs := by
  have l := can_len h
  have e := num_modS (num xs)
  rw [Int.emod_eq_of_lt (num_ge hb) (can_lt h)] at e ⊢
  have k : ∀ j, j < 32 → (fill (byt (num xs)) 32).getD j 0 = xs.getD j 0 := by
    refine lsum_inj (fun j => bytes_L _ _ j) (fun j => hb j) 32 ?_
    have e1 : num (fill (byt (num xs)) 32) = lsum (fun j => (fill (byt (num xs)) 32).getD j 0) 32 := by unfold num; rw [fill_len]
    have e2 : num xs = lsum (fun j => xs.getD j 0) 32 := by unfold num; rw [l]
    rw [← e1, ← e2]
    exact e
  apply List.ext_getElem
  · rw [fill_len, l]
  · intro i h1 h2
    have := k i (by rw [fill_len] at h1; exact h1)
    simpa [List.getD_eq_getElem?_getD, h1, h2] using this
end Go.Proofs.YtmhfjkhanlciiaaDoor

/-
  The decoding of the program is the model's. Numbers alone.
-/
namespace Go.Proofs.YtmhfjkhanlciiaaDoor
set_option maxRecDepth 100000
open Go Go.RowKit

theorem lsum_set' {xs : List Int} {v : Int} : ∀ n, n ≤ 31 → lsum (fun j => (xs.set 31 v).getD j 0) n = lsum (fun j => xs.getD j 0) n
  | 0, _ => rfl
  | n + 1, h => by
    rw [lsum, lsum, lsum_set' n (by omega)]
    congr 2
    simp [List.getD_eq_getElem?_getD, show ¬ (31 = n) by omega]
theorem num_set' {xs : List Int} {v : Int} (hl : xs.length = 32) : num (xs.set 31 v) = num xs + (v - xs.getD 31 0) * 256 ^ 31 := by
  unfold num
  rw [List.length_set, hl]
  show lsum (fun j => (xs.set 31 v).getD j 0) 31 + (xs.set 31 v).getD 31 0 * 256 ^ 31 = lsum (fun j => xs.getD j 0) 31 + xs.getD 31 0 * 256 ^ 31 + (v - xs.getD 31 0) * 256 ^ 31
  rw [lsum_set' 31 (by omega), Int.sub_mul]
  have e : (xs.set 31 v).getD 31 0 = v := by simp [List.getD_eq_getElem?_getD, hl]
  rw [e]
  omega
theorem w3_top {a : Nat → Int} (h : Bt a) : wv a 32 3 = wv a 31 3 + a 31 * 72057594037927936 ∧ 0 ≤ wv a 31 3 ∧ wv a 31 3 < 72057594037927936 := by
  have e : wv a 32 3 = wv a 31 3 + if (31 : Nat) / 8 = 3 then a 31 * 256 ^ (31 % 8) else 0 := rfl
  rw [if_pos (by decide)] at e
  have b := wv_bd h 3 31
  have k : (256 : Int) ^ (min (31 - 8 * 3) 8) = 72057594037927936 := by decide
  rw [k] at b
  exact ⟨by rw [e]; rfl, b.1, b.2⟩
theorem odd_is {xs : List Int} (hb : Byt xs) : oddW xs = decide (128 ≤ xs.getD 31 0) := by
  unfold oddW
  have h := w3_top (a := fun j => xs.getD j 0) (fun j => hb j)
  have e : wv (fun j => xs.getD j 0) 32 3 = wv (fun j => xs.getD j 0) 31 3 + xs.getD 31 0 * 72057594037927936 := h.1
  rw [e]
  have v := hb 31
  by_cases c : 128 ≤ xs.getD 31 0
  · rw [decide_eq_true c]
    exact decide_eq_true (by omega)
  · rw [decide_eq_false c]
    exact decide_eq_false (by omega)
theorem lo_val {xs : List Int} (hb : Byt xs) (hl : xs.length = 32) : wval (loW (wv (fun j => xs.getD j 0) 32)) = num (low7 xs) := by
  have s := wv_sum (fun j => xs.getD j 0) 32 (Nat.le_refl _)
  have e : num (low7 xs) = num xs + (xs.getD 31 0 % 128 - xs.getD 31 0) * 256 ^ 31 := num_set' hl
  have n : num xs = lsum (fun j => xs.getD j 0) 32 := by unfold num; rw [hl]
  rw [e, n, ← s]
  have h := w3_top (a := fun j => xs.getD j 0) (fun j => hb j)
  have e3 : wv (fun j => xs.getD j 0) 32 3 = wv (fun j => xs.getD j 0) 31 3 + xs.getD 31 0 * 72057594037927936 := h.1
  have h1 := h.2
  have v := hb 31
  have p : (256 : Int) ^ 31 = 72057594037927936 * 6277101735386680763835789423207666416102355444464034512896 := by decide
  rw [p]
  unfold wval loW
  simp only [if_true, show ¬ ((0 : Nat) = 3) by decide, show ¬ ((1 : Nat) = 3) by decide, show ¬ ((2 : Nat) = 3) by decide, if_false]
  have m : wv (fun j => xs.getD j 0) 32 3 % 9223372036854775808 = wv (fun j => xs.getD j 0) 32 3 + (xs.getD 31 0 % 128 - xs.getD 31 0) * 72057594037927936 := by
    rw [e3]
    omega
  rw [m, Int.add_mul, Int.mul_assoc]
  generalize wv (fun j => xs.getD j 0) 32 = u
  generalize (xs.getD 31 0 % 128 - xs.getD 31 0) * (72057594037927936 * 6277101735386680763835789423207666416102355444464034512896) = q
  omega
theorem lift_mod (A : Int) : liftZ A % PP = pwZ dGo A % PP := by
  have d : PP ∣ dE - dGo := by
    have := Int.dvd_sub dE_is dGo_is
    rwa [show dE - d0 - (dGo - d0) = dE - dGo by omega] at this
  obtain ⟨k, hk⟩ := d
  have e : dE * (A * A) + 1 = (A * A * dGo + 1) + PP * (k * (A * A)) := by
    rw [show dE = dGo + PP * k by omega]
    generalize PP = P
    grind
  unfold liftZ pwZ
  rw [iv_eInv, e]
  generalize eInv = m
  exact mod_mul rfl (pow_mod (Int.add_mul_emod_self_left _ _ _) m)
theorem ir_root {A B : Int} (h : A % PP = B % PP) : irB B = rootB A ∧ irV B = rootV A := by
  have p0 : 0 ≤ A % PP := Int.emod_nonneg A (by decide)
  have p1 : A % PP < PP := Int.emod_lt_of_pos A (by decide)
  have s := same_root p0 p1
  unfold irV rootV irB rootB
  rw [← h]
  generalize A % PP = a at *
  generalize r1I a = x at *
  generalize r1S a = y at *
  generalize PP = P at *
  by_cases c : y * y % P = a
  · have c' := s.1.2 c
    have e := s.2 c
    subst e
    rw [decide_eq_true c]
    exact ⟨rfl, rfl⟩
  · have c' : ¬ x * x % P = a := fun k => c (s.1.1 k)
    rw [decide_eq_false c, decide_eq_false c']
    exact ⟨rfl, rfl⟩
theorem neg_of {r : Int} (h0 : 0 < r) (h1 : r < PP) : (0 - r) % PP = PP - r := by
  rw [show 0 - r = (PP - r) + PP * (-1) by generalize PP = P; omega, Int.add_mul_emod_self_left]
  exact Int.emod_eq_of_lt (by generalize PP = P at *; omega) (by generalize PP = P at *; omega)
theorem odd_P : PP % 2 = 1 := by decide
theorem fin_even {r : Int} (h : 0 ≤ r ∧ r < PP) : 0 ≤ fin2 r ∧ fin2 r < PP ∧ fin2 r % 2 = 0 := by
  obtain ⟨h0, h1⟩ := h
  unfold fin2
  by_cases c : r % 2 = 0
  · rw [if_pos c]
    exact ⟨h0, h1, c⟩
  · rw [if_neg c, neg_of (by omega) h1]
    have := odd_P
    generalize PP = P at *
    omega
theorem root_even (A : Int) : 0 ≤ irV A ∧ irV A < PP ∧ irV A % 2 = 0 := by
  have h := fin_even (r1I_in (A % PP))
  unfold irV
  generalize fin2 (r1I (A % PP)) = r at *
  generalize irB A = b
  cases b
  · exact ⟨show (0 : Int) ≤ 0 by decide, show (0 : Int) < PP by decide, show (0 : Int) % 2 = 0 by decide⟩
  · exact h
theorem par_is (v : Int) (odd : Bool) (h : 0 ≤ v ∧ v < PP ∧ v % 2 = 0) : ((!decide ((if odd = true then 0 - v else v) % PP % 2 = 0)) == odd) = !(odd && decide (v % PP = 0)) := by
  obtain ⟨h0, h1, h2⟩ := h
  have e : v % PP = v := Int.emod_eq_of_lt h0 h1
  cases odd
  · simp only [Bool.false_eq_true, if_false]
    rw [e, decide_eq_true h2]
    rfl
  · simp only [if_true, Bool.true_and]
    rw [e]
    by_cases c : v = 0
    · subst c
      decide
    · rw [decide_eq_false c, neg_of (by omega) h1, decide_eq_false]
      · rfl
      · have := odd_P
        generalize PP = P at *
        omega
theorem can_low {A : Int} (h0 : 0 ≤ A) : decide (A % PP = A) = decide (A < PP) := by
  by_cases c : A < PP
  · rw [decide_eq_true c, decide_eq_true (Int.emod_eq_of_lt h0 c)]
  · rw [decide_eq_false c, decide_eq_false]
    intro h
    have := Int.emod_lt_of_pos A (by decide : (0 : Int) < PP)
    omega
theorem idB_eq {xs : List Int} (hb : Byt xs) : idB dGo xs = dcB xs := by
  unfold idB dcB
  by_cases hl : xs.length = 32
  · have L : low7s xs = low7 xs := rfl
    rw [L]
    have r := ir_root (lift_mod (num (low7 xs)))
    have h0 := num_ge (low7_byt hb)
    have k := par_is (irV (pwZ dGo (num (low7 xs)))) (decide (128 ≤ xs.getD 31 0)) (root_even _)
    unfold fmB canN liB pwX
    rw [lo_val hb hl, can_low h0, odd_is hb, k, r.1, r.2, low7_len, hl]
    generalize decide (num (low7 xs) < PP) = p
    generalize rootB (liftZ (num (low7 xs))) = q
    generalize (!(decide (128 ≤ xs.getD 31 0) && decide (rootV (liftZ (num (low7 xs))) % PP = 0))) = s
    cases p <;> cases q <;> cases s <;> rfl
  · rw [decide_eq_false hl]
    rfl
theorem idX_eq {xs : List Int} (hb : Byt xs) : idX dGo xs = dcX xs := by
  unfold idX dcX
  rw [idB_eq hb]
  by_cases h : dcB xs = true
  · rw [if_pos h, if_pos h]
    have h' := h
    unfold dcB at h'
    simp only [Bool.and_eq_true] at h'
    unfold liX
    rw [if_pos h'.2.2]
    have r := ir_root (lift_mod (num (low7 xs)))
    unfold pwX
    rw [r.2, odd_is hb]
    rfl
  · rw [if_neg h, if_neg h]
theorem idY_eq {xs : List Int} (hb : Byt xs) : idY dGo xs = dcY xs := by
  unfold idY dcY
  rw [idB_eq hb]
  by_cases h : dcB xs = true
  · rw [if_pos h, if_pos h]
    have h' := h
    unfold dcB at h'
    simp only [Bool.and_eq_true] at h'
    unfold liY
    rw [if_pos h'.2.2]
    rfl
  · rw [if_neg h, if_neg h]
theorem dcX_len (xs : List Int) : (dcX xs).length ≤ 1048576 := by
  unfold dcX liX
  split
  · split
    · rw [fill_len]; omega
    · simp
  · simp
theorem dcY_len (xs : List Int) : (dcY xs).length ≤ 1048576 := by
  unfold dcY liY
  split
  · split
    · rw [fill_len]; omega
    · simp
  · simp
end Go.Proofs.YtmhfjkhanlciiaaDoor

/-
  The laws' helpers on a truth and a point.
-/
namespace Go.Proofs.YtmhfjkhanlciiaaDoor
set_option maxRecDepth 100000
open Go Go.RowKit

theorem Tri.of_block {w w' : World} {p : Nat} {x y z : Value} (h : Tri w p x y z) (hb : w'.heap[p]? = w.heap[p]?) : Tri w' p x y z :=
  ⟨(World.cell?_of_block (a := ⟨p, 0, none⟩) hb).trans h.c0, (World.cell?_of_block (a := ⟨p, 1, none⟩) hb).trans h.c1, (World.cell?_of_block (a := ⟨p, 2, none⟩) hb).trans h.c2, (World.frozen?_of_block (a := ⟨p, 0, none⟩) hb).trans h.f0, (World.frozen?_of_block (a := ⟨p, 1, none⟩) hb).trans h.f1, (World.frozen?_of_block (a := ⟨p, 2, none⟩) hb).trans h.f2⟩
theorem Tri.only {w w' : World} {p g : Nat} {x y z : Value} (h : Tri w p x y z) (n : Only g w w') (hne : p ≠ g) : Tri w' p x y z := h.of_block (n.block p hne)
theorem Tri.butP {w w' : World} {p g k : Nat} {x y z : Value} (t : Tri w p x y z) (n : ButP g k w w') (h1 : p ≠ g) (h2 : p ≠ k) : Tri w' p x y z := t.of_block (n.block p t.lt h1 h2)
/-- A row that is not read may be said to lie anywhere. -/
theorem NewP3.at {B B' : Nat} {w : World} {e : Ending} {t : Bool} {ys ss : List Int} (h : NewP3 B w e t ys ss) (h1 : B' < B) (h2 : B' < w.heap.size) :
    ∃ (a : Option Addr) (c g : Nat) (a' : Option Addr) (c' g' : Nat), e = .returned (.agg #[.bool t, .slice a ys.length c, .slice a' ss.length c']) ∧ PrP w g a ys g' a' ss ∧ B' ≤ g ∧ g < w.heap.size ∧ B' ≤ g' ∧ g' < w.heap.size ∧ (0 < ys.length → B ≤ g ∧ g ≠ g') ∧ (0 < ss.length → B ≤ g' ∧ g ≠ g') := by
  obtain ⟨a, c, g, a', c', g', he, o, o', hg, hg', hne⟩ := h
  by_cases h0 : 0 < ys.length
  · by_cases k0 : 0 < ss.length
    · exact ⟨a, c, g, a', c', g', he, ⟨o, o'⟩, by omega, o.rd.lt h0, by omega, o'.rd.lt k0, fun _ => ⟨hg, hne h0 k0⟩, fun _ => ⟨hg', hne h0 k0⟩⟩
    · obtain rfl : ss = [] := List.eq_nil_of_length_eq_zero (by omega)
      exact ⟨a, c, g, a', c', B', he, ⟨o, Own.nil _ _ _ _⟩, by omega, o.rd.lt h0, Nat.le_refl _, h2, fun _ => ⟨hg, by omega⟩, fun h => absurd h (by simp)⟩
  · obtain rfl : ys = [] := List.eq_nil_of_length_eq_zero (by omega)
    by_cases k0 : 0 < ss.length
    · exact ⟨a, c, B', a', c', g', he, ⟨Own.nil _ _ _ _, o'⟩, Nat.le_refl _, h2, by omega, o'.rd.lt k0, fun h => absurd h (by simp), fun _ => ⟨hg', by omega⟩⟩
    · obtain rfl : ss = [] := List.eq_nil_of_length_eq_zero (by omega)
      exact ⟨a, c, B', a', c', B', he, ⟨Own.nil _ _ _ _, Own.nil _ _ _ _⟩, Nat.le_refl _, h2, Nat.le_refl _, h2, fun h => absurd h (by simp), fun h => absurd h (by simp)⟩
set_option maxHeartbeats 1000000 in
theorem eqPR_same (w : World) (t : Bool) (g g' h h' : Nat) (a b p q : Option Addr) (ca cb cp cq : Nat) (ys ss : List Int) (ha : PrP w g a ys h p ss) (hb : PrP w g' b ys h' q ss) (hn : ys.length ≤ 1048576) (hm : ss.length ≤ 1048576) :
    Calls Tryd.prog 38 #[.agg #[.bool t, .slice a ys.length ca, .slice p ss.length cp], .agg #[.bool t, .slice b ys.length cb, .slice q ss.length cq]] w fun e w' => e = .returned (.bool true) ∧ Below w.heap.size w w' := by
  have n1 : Below w.heap.size w (w.alloc (.cells #[.bool t, .slice a ys.length ca, .slice p ss.length cp] 44)) := (Below.refl _ _).alloc (Nat.le_refl _) _
  have n2 : Below w.heap.size w ((w.alloc (.cells #[.bool t, .slice a ys.length ca, .slice p ss.length cp] 44)).alloc (.cells #[.bool t, .slice b ys.length cb, .slice q ss.length cq] 44)) := n1.alloc (by simp) _
  cases t
  all_goals
    go_enter Tryd.func38, Tryd.ntmps38
    go_wp2_with fail
    refine (eqPoint_same _ g g' h h' a b p q ca cb cp cq ys ss (ha.up n2) (hb.up n2) hn hm).mono ?_
    rintro e w3 ⟨rfl, n3⟩
    go_wp2
    go_ret
    exact ⟨rfl, nxt n2 n3⟩
set_option maxHeartbeats 1000000 in
theorem markPR_any (w : World) (t : Bool) (g h : Nat) (a p : Option Addr) (ca cp : Nat) (ys ss : List Int) (k : Int) (ha : PrP w g a ys h p ss) (hn : ys.length ≤ 1048576) (hm : ss.length ≤ 1048576) (k0 : 0 ≤ k) (k1 : k ≤ 134217728) (l1 : 0 < ys.length → g ≠ h) (l2 : 0 < ss.length → g ≠ h) (lg : g < w.heap.size) :
    Calls Tryd.prog 39 #[.agg #[.bool t, .slice a ys.length ca, .slice p ss.length cp], .int .i64 k] w fun e w' => e = .returned (.int .i64 (k + (ys.length : Int) + (ss.length : Int))) ∧ PrP w' g a (marks k ys.length) h p (marks (k + (ys.length : Int)) ss.length) ∧ ButP g h w w' := by
  have n1 : Below w.heap.size w (w.alloc (.cells #[.bool t, .slice a ys.length ca, .slice p ss.length cp] 44)) := (Below.refl _ _).alloc (Nat.le_refl _) _
  go_enter Tryd.func39, Tryd.ntmps39
  go_wp2_with fail
  refine (markPoint_any _ g h a p ca cp ys ss k (ha.up n1) hn hm k0 k1 l1 l2 (by have := n1.size; omega)).mono ?_
  rintro e w2 ⟨rfl, o2, O2⟩
  go_wp2
  go_ret
  exact ⟨rfl, o2, ButP.from n1 O2⟩
set_option maxHeartbeats 1000000 in
theorem heldPR_any (w : World) (t : Bool) (g h : Nat) (a p : Option Addr) (ca cp n m : Nat) (k : Int) (ha : PrP w g a (marks k n) h p (marks (k + (n : Int)) m)) (hn : n ≤ 1048576) (hm : m ≤ 1048576) (k0 : 0 ≤ k) (k1 : k ≤ 134217728) :
    Calls Tryd.prog 40 #[.agg #[.bool t, .slice a n ca, .slice p m cp], .int .i64 k] w fun e w' => e = .returned (.int .i64 (k + (n : Int) + (m : Int))) ∧ Below w.heap.size w w' := by
  have n1 : Below w.heap.size w (w.alloc (.cells #[.bool t, .slice a n ca, .slice p m cp] 44)) := (Below.refl _ _).alloc (Nat.le_refl _) _
  have t1 : decide (k + (n : Int) + (m : Int) < 0) = false := by simp; omega
  go_enter Tryd.func40, Tryd.ntmps40
  go_wp2_with fail
  refine (heldPoint_any _ g h a p ca cp n m k (ha.up n1) hn hm k0 k1).mono ?_
  rintro e w2 ⟨rfl, n2⟩
  go_wp2
  go_ret
  exact ⟨rfl, nxt n1 n2⟩
end Go.Proofs.YtmhfjkhanlciiaaDoor

/-
  The law of PointDecode.
-/
namespace Go.Proofs.YtmhfjkhanlciiaaDoor
set_option maxRecDepth 100000
open Go Go.RowKit

theorem gRm : Tryd.prog.globalNamed "loop.example/g00004/impl.rootOfMinusOne" = some 6 := by kernel_rfl
theorem tRm : (Tryd.prog.globals[6]?).map (·.type) = some 59 := by kernel_rfl
theorem rm_of_reads {W : World} (h : Lib.VarReads Tryd.prog W "loop.example/g00004/impl.rootOfMinusOne" Rows.laid_loop_example_g00004_impl_rootOfMinusOne) : Has5 W 6 iL := by
  obtain ⟨g, t, cs, fuel, p, hg, ht, hv, hd⟩ := h
  obtain rfl := Option.some.inj (gRm.symm.trans hg)
  obtain rfl := Option.some.inj (tRm.symm.trans ht)
  have hcs := Lib.cells_of_tab (zs := [1718705420411056, 234908883556509, 2233514472574048, 2117202627021982, 765476049583133]) uEl Tryd.underlying57 cU64 cEl hd
  intro k hk
  rw [World.var?_cell hg hv k]
  obtain ⟨l⟩ := cs
  simp only at hcs
  subst hcs
  obtain rfl | rfl | rfl | rfl | rfl : k = 0 ∨ k = 1 ∨ k = 2 ∨ k = 3 ∨ k = 4 := by omega
  all_goals rfl
theorem hasR_ofp {l : List (String × DataW Unit)} {W : World} (h : laidMetH Tryd.prog l W) (hp : (l.all fun x => x.2.handleName?.isNone) = true)
    (h1 : ("loop.example/g00004/impl.chainSteps", Rows.laid_loop_example_g00004_impl_chainSteps) ∈ l) (h2 : ("loop.example/g00004/impl.rootStep", Rows.laid_loop_example_g00004_impl_rootStep) ∈ l)
    (h3 : ("loop.example/g00004/impl.rootOfMinusOne", Rows.laid_loop_example_g00004_impl_rootOfMinusOne) ∈ l) (h4 : ("loop.example/g00004/impl.twiceP", Rows.laid_loop_example_g00004_impl_twiceP) ∈ l) : HasR W :=
  ⟨st_of_reads (reads_of h hp h1), three_of_reads gRo tRo (reads_of h hp h2), rm_of_reads (reads_of h hp h3), tw_of_reads (reads_of h hp h4)⟩
/-- The tables that decoding needs. -/
def HasD (w : World) : Prop := HasA w ∧ HasR w
theorem laid_pdec {W : World} (h : laidMetH Tryd.prog Rows.fnExactPointDecodeRow.laid W) : HasD W :=
  ⟨hasA_of h (by kernel_rfl) (.head _) (.tail _ (.head _)) (.tail _ (.tail _ (.tail _ (.tail _ (.head _))))) (.tail _ (.tail _ (.tail _ (.tail _ (.tail _ (.head _)))))), hasR_ofp h (by kernel_rfl) (.head _) (.tail _ (.tail _ (.head _))) (.tail _ (.tail _ (.tail _ (.head _)))) (.tail _ (.tail _ (.tail _ (.tail _ (.head _)))))⟩
set_option maxHeartbeats 8000000 in
theorem pdec_law (w : World) (g0 : Nat) (a0 : Option Addr) (c0 : Nat) (X0 : List Int) (hX0 : Rd w g0 a0 .u8 X0) (bX0 : Byt X0) (hL : HasD w) :
    Calls Tryd.prog 10 #[.slice a0 X0.length c0] w fun e w' => e = .returned (.bool true) ∧ Below w.heap.size w w' := by
  have SP := fun W g1 p1 c1 h1 => specDecode_any W g1 (some p1) c1 X0 h1 bX0 (fun h => nomatch h)
  have IM := fun W g1 a1 c1 h1 (n : Below w.heap.size w W) => implDecode_any W g1 a1 c1 X0 h1 bX0 dGo (hL.1.1.up n) (hL.1.2.1.up n) (hL.1.2.2.1.up n) (hL.1.2.2.2.up n) (hL.2.up n)
  simp only [idB_eq bX0, idX_eq bX0, idY_eq bX0] at IM
  obtain ⟨tt, htt⟩ : ∃ b, b = dcB X0 := ⟨_, rfl⟩
  simp only [← htt] at SP IM
  clear htt
  have lrx : (dcX X0).length ≤ 1048576 := dcX_len _
  obtain ⟨rx, hrx⟩ : ∃ l, l = dcX X0 := ⟨_, rfl⟩
  simp only [← hrx] at SP IM lrx
  clear hrx
  have lry : (dcY X0).length ≤ 1048576 := dcY_len _
  obtain ⟨ry, hry⟩ : ∃ l, l = dcY X0 := ⟨_, rfl⟩
  simp only [← hry] at SP IM lry
  clear hry
  clear hL
  by_cases q0 : X0.length ≤ 1048576
  · skip
    have t0 : decide ((1048576 : Int) < (X0.length : Int)) = false := by simp; omega
    go_enter Tryd.func10, Tryd.ntmps10
    have N : Below w.heap.size w w := Below.refl _ _
    go_wp2_with fail
    refine (toByteS_any w g0 a0 c0 X0 (hX0.up N) (by omega)).mono ?_
    rintro e w1 ⟨rfl, m0x, n1⟩
    replace N := nxt N n1
    have zn1 := n1.size
    clear n1
    have m04 := m0x.lt
    go_wp2_with fail
    refine (SP w1 _ _ _ m0x.own0.rd).mono ?_
    rintro e w2 ⟨⟨sa, sa', sc, sc', sg, sg', rfl, so, so', sl, sl'⟩, n2⟩
    replace m0x := m0x.up n2
    replace N := nxt N n2
    have zn2 := n2.size
    clear n2
    have o4 : PrP w2 sg sa rx sg' sa' ry := ⟨so, so'⟩
    clear so so'
    have Y4 := hide o4.l.rd.lt
    have Y4' := hide o4.r.rd.lt
    clear m0x
    have T4 := Tri.new w2 (.bool tt) (.slice sa rx.length sc) (.slice sa' ry.length sc') 44
    have n3 : Below w2.heap.size w2 (w2.alloc (.cells #[.bool tt, .slice sa rx.length sc, .slice sa' ry.length sc'] 44)) := (Below.refl _ _).alloc (Nat.le_refl _) _
    replace o4 := o4.up n3
    replace N := nxt N n3
    clear n3
    go_wp2_with fail
    generalize w2.alloc (.cells #[.bool tt, .slice sa rx.length sc, .slice sa' ry.length sc'] 44) = w3 at *
    have uT4 := T4.lt
    refine (toByteS_any w3 g0 a0 c0 X0 (hX0.up N) (by omega)).mono ?_
    rintro e w4 ⟨rfl, x0x, n4⟩
    replace o4 := o4.up n4
    replace T4 := T4.up n4
    replace N := nxt N n4
    have zn4 := n4.size
    clear n4
    have x04 := x0x.lt
    go_wp2_with fail
    refine (IM w4 _ _ _ x0x.own0.rd N).mono ?_
    rintro e w5 ⟨NR, n5⟩
    have zn5 := n5.size
    obtain ⟨i6a, i6c, i6g, i6a', i6c', i6g', rfl, o6, i6l, i6h, i6l', i6h', i6r, i6r'⟩ := NR.at (B' := w3.heap.size) (by omega) (by omega)
    replace o4 := o4.up n5
    replace T4 := T4.up n5
    replace x0x := x0x.up n5
    replace N := nxt N n5
    clear n5
    have T6 := Tri.new w5 (.bool tt) (.slice i6a rx.length i6c) (.slice i6a' ry.length i6c') 44
    have n6 : Below w5.heap.size w5 (w5.alloc (.cells #[.bool tt, .slice i6a rx.length i6c, .slice i6a' ry.length i6c'] 44)) := (Below.refl _ _).alloc (Nat.le_refl _) _
    replace o4 := o4.up n6
    replace T4 := T4.up n6
    replace x0x := x0x.up n6
    replace o6 := o6.up n6
    replace N := nxt N n6
    clear n6
    have T60 := T6.c0
    have T61 := T6.c1
    have T62 := T6.c2
    have T40 := T4.c0
    have T41 := T4.c1
    have T42 := T4.c2
    go_wp2_with fail
    generalize w5.alloc (.cells #[.bool tt, .slice i6a rx.length i6c, .slice i6a' ry.length i6c'] 44) = w6 at *
    have uT6 := T6.lt
    refine (eqPR_same w6 tt _ _ _ _ _ _ _ _ _ _ _ _ rx ry o6 o4 lrx lry).mono ?_
    rintro e w7 ⟨rfl, n7⟩
    clear T60 T61 T62 T40 T41 T42
    replace o4 := o4.up n7
    replace T4 := T4.up n7
    replace x0x := x0x.up n7
    replace o6 := o6.up n7
    replace T6 := T6.up n7
    replace N := nxt N n7
    have zn7 := n7.size
    clear n7
    go_wp2_with fail
    refine (toByteS_any w7 g0 a0 c0 X0 (hX0.up N) (by omega)).mono ?_
    rintro e w8 ⟨rfl, cx, n8⟩
    replace o4 := o4.up n8
    replace T4 := T4.up n8
    replace x0x := x0x.up n8
    replace o6 := o6.up n8
    replace T6 := T6.up n8
    replace N := nxt N n8
    have zn8 := n8.size
    clear n8
    go_wp2_with fail
    refine (eqByteS_same w8 _ _ _ _ _ _ X0 x0x.own0.rd cx.own0.rd (by omega)).mono ?_
    rintro e w9 ⟨rfl, n9⟩
    replace o4 := o4.up n9
    replace T4 := T4.up n9
    replace x0x := x0x.up n9
    replace o6 := o6.up n9
    replace T6 := T6.up n9
    replace cx := cx.up n9
    replace N := nxt N n9
    have zn9 := n9.size
    clear n9
    clear cx
    go_wp2_with fail
    refine (markByteS_any w9 _ _ _ X0 (1) x0x.own0 (by omega) (by omega) (by omega)).mono ?_
    rintro e w10 ⟨rfl, _, O10⟩
    have zz10 := O10.size
    clear x0x
    have NN := N.size
    replace N := N.trans (O10.below (B := w.heap.size) (by omega))
    clear NN
    replace o4 := o4.only O10 (fun h => by have := Y4.out h; omega) (fun h => by have := Y4'.out h; omega)
    replace T4 := T4.only O10 (by omega)
    replace o6 := o6.only O10 (fun h => by have := i6r h; omega) (fun h => by have := i6r' h; omega)
    replace T6 := T6.only O10 (by omega)
    clear O10
    have tk : decide ((1 + (X0.length : Int) : Int) < 0) = false := by simp; omega
    have T60 := T6.c0
    have T61 := T6.c1
    have T62 := T6.c2
    have T40 := T4.c0
    have T41 := T4.c1
    have T42 := T4.c2
    go_wp2_with fail
    refine (eqPR_same w10 tt _ _ _ _ _ _ _ _ _ _ _ _ rx ry o6 o4 lrx lry).mono ?_
    rintro e w11 ⟨rfl, n11⟩
    clear T60 T61 T62 T40 T41 T42
    replace o4 := o4.up n11
    replace T4 := T4.up n11
    replace o6 := o6.up n11
    replace T6 := T6.up n11
    replace N := nxt N n11
    have zn11 := n11.size
    clear n11
    have T60 := T6.c0
    have T61 := T6.c1
    have T62 := T6.c2
    go_wp2_with fail
    refine (markPR_any w11 tt i6g i6g' _ _ _ _ rx ry 1 o6 lrx lry (by omega) (by omega) (fun h => (i6r h).2) (fun h => (i6r' h).2) (by omega)).mono ?_
    rintro e w12 ⟨rfl, oH, OH⟩
    have zzH := OH.size
    clear T60 T61 T62
    clear o6
    have NN := N.size
    replace N := N.trans (OH.below (B := w.heap.size) (by omega) (by omega) (by omega))
    clear NN
    replace o4 := o4.butP OH (fun h => ⟨by have := Y4.out h; omega, by have := Y4.out h; omega⟩) (fun h => ⟨by have := Y4'.out h; omega, by have := Y4'.out h; omega⟩)
    replace T4 := T4.butP OH (by omega) (by omega)
    replace T6 := T6.butP OH (by omega) (by omega)
    clear OH
    have t4 : decide ((1 : Int) + (rx.length : Int) + (ry.length : Int) < 0) = false := by simp; omega
    have T60 := T6.c0
    have T61 := T6.c1
    have T62 := T6.c2
    go_wp2_with fail
    refine (heldPR_any w12 tt i6g i6g' _ _ _ _ rx.length ry.length 1 oH lrx lry (by omega) (by omega)).mono ?_
    rintro e w13 ⟨rfl, n13⟩
    clear T60 T61 T62
    replace o4 := o4.up n13
    replace T4 := T4.up n13
    replace T6 := T6.up n13
    replace oH := oH.up n13
    replace N := nxt N n13
    have zn13 := n13.size
    clear n13
    go_wp2_with fail
    refine (toByteS_any w13 g0 a0 c0 X0 (hX0.up N) (by omega)).mono ?_
    rintro e w14 ⟨rfl, y0x, n14⟩
    replace o4 := o4.up n14
    replace T4 := T4.up n14
    replace T6 := T6.up n14
    replace oH := oH.up n14
    replace N := nxt N n14
    have zn14 := n14.size
    clear n14
    have y04 := y0x.lt
    go_wp2_with fail
    refine (IM w14 _ _ _ y0x.own0.rd N).mono ?_
    rintro e w15 ⟨NR, n15⟩
    have zn15 := n15.size
    obtain ⟨i9a, i9c, i9g, i9a', i9c', i9g', rfl, i9o, i9o', i9l, i9l', i9r⟩ := NR
    have o9 : PrP w15 i9g i9a rx i9g' i9a' ry := ⟨i9o, i9o'⟩
    clear i9o i9o'
    replace o4 := o4.up n15
    replace T4 := T4.up n15
    replace T6 := T6.up n15
    replace oH := oH.up n15
    replace y0x := y0x.up n15
    replace N := nxt N n15
    clear n15
    clear y0x
    have T9 := Tri.new w15 (.bool tt) (.slice i9a rx.length i9c) (.slice i9a' ry.length i9c') 44
    have n16 : Below w15.heap.size w15 (w15.alloc (.cells #[.bool tt, .slice i9a rx.length i9c, .slice i9a' ry.length i9c'] 44)) := (Below.refl _ _).alloc (Nat.le_refl _) _
    replace o4 := o4.up n16
    replace T4 := T4.up n16
    replace T6 := T6.up n16
    replace oH := oH.up n16
    replace o9 := o9.up n16
    replace N := nxt N n16
    clear n16
    have T90 := T9.c0
    have T91 := T9.c1
    have T92 := T9.c2
    have T40 := T4.c0
    have T41 := T4.c1
    have T42 := T4.c2
    go_wp2_with fail
    generalize w15.alloc (.cells #[.bool tt, .slice i9a rx.length i9c, .slice i9a' ry.length i9c'] 44) = w16 at *
    have uT9 := T9.lt
    refine (eqPR_same w16 tt _ _ _ _ _ _ _ _ _ _ _ _ rx ry o9 o4 lrx lry).mono ?_
    rintro e w17 ⟨rfl, n17⟩
    clear T90 T91 T92 T40 T41 T42
    replace o4 := o4.up n17
    replace T4 := T4.up n17
    replace T6 := T6.up n17
    replace oH := oH.up n17
    replace o9 := o9.up n17
    replace T9 := T9.up n17
    replace N := nxt N n17
    have zn17 := n17.size
    clear n17
    clear o9 o4 T9 T4
    have T60 := T6.c0
    have T61 := T6.c1
    have T62 := T6.c2
    go_wp2_with fail
    refine (heldPR_any w17 tt i6g i6g' _ _ _ _ rx.length ry.length 1 oH lrx lry (by omega) (by omega)).mono ?_
    rintro e w18 ⟨rfl, n18⟩
    clear T60 T61 T62
    replace T6 := T6.up n18
    replace oH := oH.up n18
    replace N := nxt N n18
    have zn18 := n18.size
    clear n18
    go_wp2
    go_ret
    exact ⟨rfl, N⟩
  · skip
    have t0 : decide ((1048576 : Int) < (X0.length : Int)) = true := by simp; omega
    go_enter Tryd.func10, Tryd.ntmps10
    have N : Below w.heap.size w w := Below.refl _ _
    go_wp2
    go_ret
    exact ⟨rfl, N⟩
end Go.Proofs.YtmhfjkhanlciiaaDoor
