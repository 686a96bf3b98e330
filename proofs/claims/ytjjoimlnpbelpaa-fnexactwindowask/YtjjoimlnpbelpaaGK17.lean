import Derived.Test.YtjjoimlnpbelpaaGK16
import Derived.Sort.MapsRangeIn

/-
  Windows that are asked: the keys of the book, by the library's iterator (written by gens/wah.py).
-/
namespace Go.Proofs.Ytjjoimlnpbelpaa
open Go Go.RowKit Go.Maps Go.Sort Go.Shelf
attribute [local go_sem] Oper.semAt_some

/-- What has come of the keys. -/
structure Coll (E : List Ent) (left : Lit → Bool) (ss : List Id32) : Prop where
  nd : (ss.map (·.1)).Nodup
  mem : ∀ x : List Int, x ∈ ss.map (·.1) ↔ ∃ e ∈ E, e.id = x ∧ left (keyL e.id) = false
  lf : ∀ kl, left kl = true → ∃ e ∈ E, kl = keyL e.id
set_option maxRecDepth 100000 in
theorem Coll.start {D : DataW Unit} {E : List Ent} (h : Bk D E) : Coll E (Maps.has D) [] := by
  refine ⟨by simp, fun x => ⟨fun hx => by simp at hx, ?_⟩, h.ks⟩
  rintro ⟨e, he, -, hl⟩
  rw [h.hs e he] at hl
  cases hl
set_option maxRecDepth 100000 in
theorem Coll.step {E : List Ent} {left : Lit → Bool} {ss : List Id32} (h : Coll E left ss) (ok : ∀ e ∈ E, EntOk e) {e : Ent} (he : e ∈ E) (hl : left (keyL e.id) = true) : Coll E (fun z => left z && !z.sameKey (keyL e.id)) (ss ++ [⟨e.id, ok e he⟩]) := by
  refine ⟨?_, fun x => ?_, fun kl hk => h.lf kl (by simp at hk; exact hk.1)⟩
  · rw [List.map_append, List.nodup_append]
    refine ⟨h.nd, by simp, fun a ha b hb => ?_⟩
    simp at hb
    subst hb
    intro q
    obtain ⟨f, hf, q1, q2⟩ := (h.mem a).1 ha
    rw [← q, ← q1] at hl
    rw [q2] at hl
    cases hl
  · rw [List.map_append, List.mem_append, h.mem x]
    constructor
    · rintro (⟨f, hf, q1, q2⟩ | hx)
      · exact ⟨f, hf, q1, by simp [q2]⟩
      · simp at hx
        subst hx
        exact ⟨e, he, rfl, by simp [WideAt.sameKey_self (entLit (ok e he))]⟩
    · rintro ⟨f, hf, q1, q2⟩
      by_cases q : f.id = e.id
      · refine .inr ?_
        rw [← q1, q]
        simp
      · refine .inl ⟨f, hf, q1, ?_⟩
        have sk : (keyL f.id).sameKey (keyL e.id) = false := by
          cases hs : (keyL f.id).sameKey (keyL e.id) with
          | false => rfl
          | true => exact absurd ((same_iff (ok f hf) (ok e he)).1 hs) q
        simpa [sk] using q2
set_option maxRecDepth 100000 in
theorem Coll.all {E : List Ent} {left : Lit → Bool} {ss : List Id32} (h : Coll E left ss) (ap : E.Pairwise (fun x y => x.id ≠ y.id)) (hl : ∀ kl, left kl = false) : (ss.map (·.1)).Perm (E.map (·.id)) := by
  refine (List.perm_ext_iff_of_nodup h.nd (List.pairwise_map.2 ap)).2 fun x => ?_
  rw [h.mem x, List.mem_map]
  constructor
  · rintro ⟨e, he, q, -⟩
    exact ⟨e, he, q⟩
  · rintro ⟨e, he, q⟩
    exact ⟨e, he, q, hl _⟩
set_option maxRecDepth 100000 in
/-- The step of a range over the book, inside a fence. -/
theorem wpListIn_next_book {F : Fence} {nF : Nat} (w : World) {ops : Array Oper} {rest : List Oper} {o : Oper} {a : Act} {Q : Exit → Act → World → Prop} (hg : o.guard = none) (it : Operand) (hop : o.op = Op.next it false) (b r n : Nat) (D : DataW Unit) (left : Lit → Bool) (cnt : Nat) (E : List Ent) (ok : ∀ e ∈ E, EntOk e)
    (hit : a.eval it = .pointer (some ⟨r, 0, none⟩)) (h : w.ranges Try.prog 58 pmR b r n D left cnt) (hk : ∀ kl, left kl = true → ∃ e ∈ E, kl = keyL e.id) (hat : ∀ e ∈ E, left (keyL e.id) = true → ∀ z, D.atKey (keyL e.id) z = pmD e.pl e.un)
    (hDone : cnt = 0 → (∀ kl, left kl = false) → wpListIn F nF Try.prog ops Q rest (a.put o.dst (.tuple #[.bool false])) w)
    (hMore : ∀ (e : Ent) (w' : World) (cnt' : Nat), e ∈ E → left (keyL e.id) = true → w'.ranges Try.prog 58 pmR b r n D (fun z => left z && !z.sameKey (keyL e.id)) cnt' → cnt' < cnt →
      w.grownBy w' (some r) → w'.heap.size = w.heap.size → (Instr.entry (.pointer (some ⟨r, 0, none⟩))).run Try.prog w' = .ok (.tuple #[idV e.id, pmV e.pl e.un]) w' → wpListIn F nF Try.prog ops Q rest (a.put o.dst (.tuple #[.bool true, idV e.id, pmV e.pl e.un])) w') :
    wpListIn F nF Try.prog ops Q (o :: rest) a w := by
  refine wpListIn_next_ranges w hg it hop 58 lawK pmR id id (fun key _ _ => ⟨key, rfl⟩) (fun v _ _ => ⟨v, rfl⟩) b r n D left cnt hit h hDone ?_
  intro x c kl y w' cnt' hkey hl hv hd hrg hlt hgr hsz hen
  obtain ⟨e, he, rfl⟩ := hk kl hl
  obtain rfl : x = idV e.id := lawK.inj hkey (entKey (ok e he))
  obtain ⟨p, u, rfl, rfl⟩ := pmR_inv hv
  obtain ⟨rfl, rfl⟩ := pmD_inj ((hat e he hl .nil).symm.trans (hd .nil))
  exact hMore e w' cnt' he hl hrg hlt hgr hsz hen
section
variable {P : Program} {ops : Array Oper} {Q : Exit → Act → World → Prop} {n : Nat} {rest : List Oper} {o : Oper} {a : Act} {w : World}
set_option maxRecDepth 100000 in
theorem op_inW {K : Act → World → Prop} (hd : ∀ c, o.op ≠ .defer c) (h : o.wp P a w K Q) : o.wpIn Fence.wide n P a w K Q := by
  refine ⟨fun _ _ => trivial, ?_⟩
  rw [Oper.semAt_plain Fence.wide _ _ hd]
  unfold Oper.wp at h
  generalize (execOp a.eval o).run P w = r at *
  cases r with
  | ok x w' =>
    cases x with
    | value v => exact h
    | skip => exact h
    | defer d => exact h
    | enter f args => exact ⟨fun h' => by simp [Fence.wide] at h', callsIn_wide.2 h⟩
    | row row args =>
      refine ⟨fun h' => by simp [Fence.wide] at h', fun c cs _ => ?_⟩
      obtain ⟨v, w', r, s⟩ := h c cs
      exact ⟨v, w', r, stepsIn_wide.2 s⟩
    | _ => exact h.elim
  | halt x w' =>
    cases x with
    | panic v => exact h
    | _ => exact h.elim
set_option maxRecDepth 100000 in
theorem listW_load (hgd : o.guard = none) (ty : TypeId) (x : Operand) (ho : o.op = .load ty x) (b off : Nat) (hx : a.eval x = .pointer (some ⟨b, off, none⟩)) (cs : List Value) (d : TypeDesc) (hc : w.rangeAt b off cs)
    (hu : P.underlying ty = some d) (hd : d.isRow = true) (hi : (P.info? ty).map (·.size) = some cs.length) (h : wpListIn Fence.wide n P ops Q rest (a.put o.dst (.agg cs.toArray)) w) : wpListIn Fence.wide n P ops Q (o :: rest) a w :=
  wpListIn_plain hgd fun K hK => op_inW (by rw [ho]; intro c e; cases e) (wp_load_mid ty x ho b off hx cs d hc hu hd hi (hK _ _ h))
set_option maxRecDepth 100000 in
theorem listW_store (hgd : o.guard = none) (ty : TypeId) (x y : Operand) (ho : o.op = .store ty x y) (b off : Nat) (cells : Array Value) (hx : a.eval x = .pointer (some ⟨b, off, none⟩)) (hy : a.eval y = .agg cells)
    (ht : w.there b off cells.size) (hi : (P.info? ty).map (·.size) = some cells.size) (h1 : cells.all (·.oneCell') = true) (h : wpListIn Fence.wide n P ops Q rest (a.put o.dst undef) (w.setCells b off cells.toList)) : wpListIn Fence.wide n P ops Q (o :: rest) a w :=
  wpListIn_plain hgd fun K hK => op_inW (by rw [ho]; intro c e; cases e) (wp_store_mid ty x y ho b off cells hx hy ht hi h1 (hK _ _ h))
set_option maxRecDepth 100000 in
theorem listR_load {l : Nat} (hgd : o.guard = none) (ty : TypeId) (x : Operand) (ho : o.op = .load ty x) (b off : Nat) (hx : a.eval x = .pointer (some ⟨b, off, none⟩)) (cs : List Value) (d : TypeDesc) (hc : w.rangeAt b off cs)
    (hu : P.underlying ty = some d) (hd : d.isRow = true) (hi : (P.info? ty).map (·.size) = some cs.length) (h : wpListIn (Fence.wide.inRound l) n P ops Q rest (a.put o.dst (.agg cs.toArray)) w) : wpListIn (Fence.wide.inRound l) n P ops Q (o :: rest) a w :=
  wpListIn_plain hgd fun K hK => op_in (by rw [ho]; intro c e; cases e) (wp_load_mid ty x ho b off hx cs d hc hu hd hi (hK _ _ h))
set_option maxRecDepth 100000 in
theorem listR_store {l : Nat} (hgd : o.guard = none) (ty : TypeId) (x y : Operand) (ho : o.op = .store ty x y) (b off : Nat) (cells : Array Value) (hx : a.eval x = .pointer (some ⟨b, off, none⟩)) (hy : a.eval y = .agg cells)
    (ht : w.there b off cells.size) (hi : (P.info? ty).map (·.size) = some cells.size) (h1 : cells.all (·.oneCell') = true) (h : wpListIn (Fence.wide.inRound l) n P ops Q rest (a.put o.dst undef) (w.setCells b off cells.toList)) : wpListIn (Fence.wide.inRound l) n P ops Q (o :: rest) a w :=
  wpListIn_plain hgd fun K hK => op_in (by rw [ho]; intro c e; cases e) (wp_store_mid ty x y ho b off cells hx hy ht hi h1 (hK _ _ h))
end
set_option maxRecDepth 100000 in
/-- The box of a round: an id. -/
theorem box1 (w : World) (cs : List Value) (hl : cs.length = 32) :
    Below w.heap.size w ((w.alloc (.cells #[.int .u8 0, .int .u8 0, .int .u8 0, .int .u8 0, .int .u8 0, .int .u8 0, .int .u8 0, .int .u8 0, .int .u8 0, .int .u8 0, .int .u8 0, .int .u8 0, .int .u8 0, .int .u8 0, .int .u8 0, .int .u8 0, .int .u8 0, .int .u8 0, .int .u8 0, .int .u8 0, .int .u8 0, .int .u8 0, .int .u8 0, .int .u8 0, .int .u8 0, .int .u8 0, .int .u8 0, .int .u8 0, .int .u8 0, .int .u8 0, .int .u8 0, .int .u8 0] 58)).setCells w.heap.size 0 cs) ∧ (w.alloc (.cells #[.int .u8 0, .int .u8 0, .int .u8 0, .int .u8 0, .int .u8 0, .int .u8 0, .int .u8 0, .int .u8 0, .int .u8 0, .int .u8 0, .int .u8 0, .int .u8 0, .int .u8 0, .int .u8 0, .int .u8 0, .int .u8 0, .int .u8 0, .int .u8 0, .int .u8 0, .int .u8 0, .int .u8 0, .int .u8 0, .int .u8 0, .int .u8 0, .int .u8 0, .int .u8 0, .int .u8 0, .int .u8 0, .int .u8 0, .int .u8 0, .int .u8 0, .int .u8 0] 58)).there w.heap.size 0 32 ∧ RwC ((w.alloc (.cells #[.int .u8 0, .int .u8 0, .int .u8 0, .int .u8 0, .int .u8 0, .int .u8 0, .int .u8 0, .int .u8 0, .int .u8 0, .int .u8 0, .int .u8 0, .int .u8 0, .int .u8 0, .int .u8 0, .int .u8 0, .int .u8 0, .int .u8 0, .int .u8 0, .int .u8 0, .int .u8 0, .int .u8 0, .int .u8 0, .int .u8 0, .int .u8 0, .int .u8 0, .int .u8 0, .int .u8 0, .int .u8 0, .int .u8 0, .int .u8 0, .int .u8 0, .int .u8 0] 58)).setCells w.heap.size 0 cs) w.heap.size cs 58 := by
  have n0 : Below w.heap.size w (w.alloc (.cells #[.int .u8 0, .int .u8 0, .int .u8 0, .int .u8 0, .int .u8 0, .int .u8 0, .int .u8 0, .int .u8 0, .int .u8 0, .int .u8 0, .int .u8 0, .int .u8 0, .int .u8 0, .int .u8 0, .int .u8 0, .int .u8 0, .int .u8 0, .int .u8 0, .int .u8 0, .int .u8 0, .int .u8 0, .int .u8 0, .int .u8 0, .int .u8 0, .int .u8 0, .int .u8 0, .int .u8 0, .int .u8 0, .int .u8 0, .int .u8 0, .int .u8 0, .int .u8 0] 58)) := (Below.refl _ _).alloc (Nat.le_refl _) _
  have T0 : RwC (w.alloc (.cells #[.int .u8 0, .int .u8 0, .int .u8 0, .int .u8 0, .int .u8 0, .int .u8 0, .int .u8 0, .int .u8 0, .int .u8 0, .int .u8 0, .int .u8 0, .int .u8 0, .int .u8 0, .int .u8 0, .int .u8 0, .int .u8 0, .int .u8 0, .int .u8 0, .int .u8 0, .int .u8 0, .int .u8 0, .int .u8 0, .int .u8 0, .int .u8 0, .int .u8 0, .int .u8 0, .int .u8 0, .int .u8 0, .int .u8 0, .int .u8 0, .int .u8 0, .int .u8 0] 58)) w.heap.size [.int .u8 0, .int .u8 0, .int .u8 0, .int .u8 0, .int .u8 0, .int .u8 0, .int .u8 0, .int .u8 0, .int .u8 0, .int .u8 0, .int .u8 0, .int .u8 0, .int .u8 0, .int .u8 0, .int .u8 0, .int .u8 0, .int .u8 0, .int .u8 0, .int .u8 0, .int .u8 0, .int .u8 0, .int .u8 0, .int .u8 0, .int .u8 0, .int .u8 0, .int .u8 0, .int .u8 0, .int .u8 0, .int .u8 0, .int .u8 0, .int .u8 0, .int .u8 0] 58 := RwC.new w _ _
  have O1 := only_setG (w.alloc (.cells #[.int .u8 0, .int .u8 0, .int .u8 0, .int .u8 0, .int .u8 0, .int .u8 0, .int .u8 0, .int .u8 0, .int .u8 0, .int .u8 0, .int .u8 0, .int .u8 0, .int .u8 0, .int .u8 0, .int .u8 0, .int .u8 0, .int .u8 0, .int .u8 0, .int .u8 0, .int .u8 0, .int .u8 0, .int .u8 0, .int .u8 0, .int .u8 0, .int .u8 0, .int .u8 0, .int .u8 0, .int .u8 0, .int .u8 0, .int .u8 0, .int .u8 0, .int .u8 0] 58)) w.heap.size cs 0
  exact ⟨n0.trans (O1.below (Nat.le_refl _)), T0.thereG, T0.put (cs := cs) (by rw [hl]; rfl)⟩
set_option maxRecDepth 100000 in
theorem keys_any (w : World) (mb : Option Nat) : Calls Try.prog 38 #[.map mb] w fun e w' => e = .returned (.func (.func 47) #[] #[.pointer (some ⟨w.heap.size, 0, none⟩)]) ∧ w' = w.alloc (.cells #[.map mb] 49) := by
  go_enter Try.func38, Try.ntmps38
  go_wp2
  go_ret
  exact ⟨rfl, rfl⟩
set_option maxRecDepth 100000 in
set_option maxHeartbeats 4000000 in
theorem keys1_in (n : Nat) (hn : 1 ≤ n) (l Bm b nn : Nat) (D : DataW Unit) (E : List Ent) (hB : Bk D E) (J Jx : List Id32 → World → Prop)
    (hY : ∀ pre x W, J pre W → pre.length < E.length → YieldAt Fence.wide (n - 1) Try.prog l #[.agg (encI x).toArray] W fun e W' => (e = .returned (.bool true) ∧ J (pre ++ [x]) W' ∧ KeepsWalks W W') ∨ (e = .returned (.bool false) ∧ Jx (pre ++ [x]) W'))
    (W : World) (hJ : AbidesFrom W.heap.size J) (hm : W.cell? ⟨Bm, 0, none⟩ = some (.map (some b))) (hown : W.ownsMap Try.prog 58 pmR b nn D) (h0 : J [] W) :
    CallsIn Fence.wide n Try.prog 47 #[.func (.yield l) #[] #[], .pointer (some ⟨Bm, 0, none⟩)] W fun e W' => (∃ v, e = .returned v) ∧ ((∃ xs : List Id32, (xs.map (·.1)).Perm (E.map (·.id)) ∧ J xs W') ∨ (∃ pre, True ∧ Jx pre W')) := by
  have ok := hide hB.ok
  have ap := hide hB.ap
  have CS := hide (Coll.start hB)
  have AT := hide hB.at'
  have SZ := hB.size hown
  refine callsIn_of_wp Try.func47 rfl trivial ?_ rfl
  simp only [Try.ntmps47, List.size_toArray, List.length_cons, List.length_nil, Nat.reduceAdd, Nat.reduceSub, Array.replicate_succ, Array.replicate_zero, List.push_toArray, List.append_toArray, List.nil_append, List.cons_append]
  gi_wp2_with (first
    | (gi_at_range; refine wpListIn_range_own _ rfl _ 49 rfl 58 55 lawK Try.underlying49 _ b nn _ rfl hown ?_; intro w0 hrg0 hg0 hs0)
    | gi_in)
  go_frame
  gi_loopw [3] (fun _ wr => ∃ (left : Lit → Bool) (cnt : Nat) (ss : List Id32), wr.ranges Try.prog 58 pmR b W.heap.size nn D left cnt ∧ Hid (ss.length + cnt ≤ E.length ∧ Coll E left ss) ∧ J ss wr) (fun _ wr => wr.rangeLeft b W.heap.size)
  case atStart => exact ⟨_, _, [], hrg0, ⟨by simp [SZ], CS.out⟩, hJ [] W w0 none h0 hg0 (fun r e => by cases e)⟩
  case round =>
    obtain ⟨left, cnt, ss, hrg, hC, hJs⟩ := hrel
    gi_wp2_with (first
      | (gi_at_next; refine wpListIn_next_book _ rfl _ rfl b W.heap.size nn _ _ _ E ok.out rfl hrg hC.out.2.lf (fun e he _ => AT.out e he) ?_ ?_)
      | gi_in)
    · intro hc0 hl0
      gi_wp2
      go_end0
      exact ⟨⟨_, rfl⟩, .inl ⟨ss, hC.out.2.all ap.out hl0, hJs⟩⟩
    · intro e w2 cnt2 he hlk hrg2 hlt hg2 hs2 hen
      have hJ2 : J ss w2 := hJ ss wr w2 (some W.heap.size) hJs hg2 (fun r e => by cases e; exact ⟨Nat.le_refl _, hrg.iter_walk⟩)
      have HE := hide (ok.out e he)
      obtain ⟨cs, hcs⟩ : ∃ cs, cs = encI ⟨e.id, ok.out e he⟩ := ⟨_, rfl⟩
      have cl : cs.length = 32 := by rw [hcs]; exact encI_len _
      have one : cs.toArray.all (·.oneCell') = true := by rw [hcs]; exact all_oneCell_toArray (encI_one _)
      have ev : idV e.id = .agg cs.toArray := by rw [hcs]; rfl
      rw [ev] at hen
      rw [ev]
      have CSx := hide (hC.out.2.step ok.out he hlk)
      have CNT := hide hC.out.1
      obtain ⟨nb, th1, R1⟩ := box1 w2 cs cl
      have hrg3 := hrg2.kept (bGn nb) (by simp) (by simp)
      have hJ3 : J ss _ := hJ ss w2 _ none hJ2 (bGn nb) (fun r e => by cases e)
      have sz : cs.toArray.size = 32 := by simpa using cl
      have RG := R1.rangeG
      have SZC : (Try.prog.info? 58).map (·.size) = some cs.toArray.size := by rw [sz]; exact iId
      have SL : (Try.prog.info? 58).map (·.size) = some cs.length := by rw [cl]; exact iId
      rw [← sz] at th1
      have YY := hide (hY ss ⟨e.id, ok.out e he⟩ _ hJ3 (by have := CNT.out; omega))
      rw [← hcs] at YY
      have nk := hide (KeepsWalks.of_grownBy (bGn nb) (fun j o hj _ => by cases hj))
      have h2w := hide hrg2
      unfold pmV at *
      generalize e.pl = pl at *
      generalize e.un = un at *
      clear cl hcs ev hs2 hg2 hJ2 nb R1 sz hrg2 hC
      have hJ4 := hide hJ3
      obtain ⟨fn, tmps, assign, body, hy, hR⟩ := YY.out
      clear YY hJ3
      gi_wp2_with (first
        | (refine listW_store rfl 58 (.tmp 3) (.tmp 9) rfl w2.heap.size 0 cs.toArray rfl rfl th1 SZC one ?_)
        | (refine listW_load rfl 58 (.tmp 3) rfl w2.heap.size 0 rfl cs _ RG uId rfl SL ?_)
        | gi_in)
      refine hR.mono ?_
      rintro e3 W3 (⟨rfl, hJ5, hk3⟩ | ⟨rfl, hx⟩)
      · gi_wp2
        have hrg4 := hrg3.of_walks hk3
        go_roundw
        case rel => exact ⟨_, cnt2, _, hrg4, ⟨by have := CNT.out; simp; omega, CSx.out⟩, hJ5⟩
        case measure => rw [hrg4.left_eq, hrg.left_eq]; exact hlt
      · gi_wp2
        refine bodyPost_ret (results_none rfl _ _ _) rfl ?_
        exact ⟨⟨_, rfl⟩, .inr ⟨_, trivial, hx⟩⟩
set_option maxRecDepth 100000 in
theorem keys_stops (n : Nat) (hn : 1 ≤ n) (Bm b nn : Nat) (D : DataW Unit) (E : List Ent) (hB : Bk D E) (w : World) (hBm : Bm < w.heap.size) (hm : w.cell? ⟨Bm, 0, none⟩ = some (.map (some b))) (own : w.ownsMap Try.prog 58 pmR b nn D) :
    SeqStopsK Fence.wide n Try.prog 47 #[.pointer (some ⟨Bm, 0, none⟩)] (fun x : Id32 => #[.agg (encI x).toArray]) KeepsWalks (fun xs => (xs.map (·.1)).Perm (E.map (·.id))) (fun _ => True) E.length w := by
  intro l J Jx W hW hJ hJx hY h0
  exact keys1_in n hn l Bm b nn D E hB J Jx hY W hJ ((hW.cell (p := ⟨Bm, 0, none⟩) hBm).trans hm) (ownP own hW) h0
end Go.Proofs.Ytjjoimlnpbelpaa
