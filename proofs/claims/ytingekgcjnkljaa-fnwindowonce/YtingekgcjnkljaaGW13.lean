import Derived.Test.YtingekgcjnkljaaGW12
import Derived.Maps.AppendAt

/-
  Windows that are asked: ids collected and sorted (written by gens/wai.py).
-/
namespace Go.Proofs.Ytingekgcjnkljaa
open Go Go.RowKit Go.Maps Go.Sort Go.Shelf
attribute [local go_sem] Oper.semAt_some

set_option maxRecDepth 100000 in
theorem infoId : (Try.prog.info? 56).map (fun i => (i.zero, i.size, i.bytes)) = some (some (.agg #[.int .u8 0, .int .u8 0, .int .u8 0, .int .u8 0, .int .u8 0, .int .u8 0, .int .u8 0, .int .u8 0, .int .u8 0, .int .u8 0, .int .u8 0, .int .u8 0, .int .u8 0, .int .u8 0, .int .u8 0, .int .u8 0, .int .u8 0, .int .u8 0, .int .u8 0, .int .u8 0, .int .u8 0, .int .u8 0, .int .u8 0, .int .u8 0, .int .u8 0, .int .u8 0, .int .u8 0, .int .u8 0, .int .u8 0, .int .u8 0, .int .u8 0, .int .u8 0]), 32, 32) := by kernel_rfl
set_option maxRecDepth 100000 in
theorem undIds : Try.prog.underlying 66 = some (.slice 56) := by kernel_rfl
set_option maxRecDepth 100000 in
def fltI (pre : List Id32) : List Value := (pre.map encI).flatten
set_option maxRecDepth 100000 in
theorem fltI_snoc (pre : List Id32) (x : Id32) : fltI (pre ++ [x]) = fltI pre ++ encI x := by simp [fltI]
set_option maxRecDepth 100000 in
theorem own_gK {W W' : World} {row : Option Nat} {B sz n : Nat} {e : TypeId} {v : Value} {xs : List Value} (h : W.ownsRow B e sz v n xs) (hg : W.grownBy W' row) (hr : ∀ r, row = some r → ∃ o : Obj, W.heap[r]? = some o ∧ o.isCells = false) : W'.ownsRow B e sz v n xs := by
  refine ⟨h.1, ?_⟩
  rcases h.2 with h' | ⟨g, cap, cur, rfl, hbg, hc, hk⟩
  · exact .inl h'
  · exact .inr ⟨g, cap, cur, rfl, hbg, (grownBy_keeps_cells hg hr hc rfl).trans hc, hk⟩
set_option maxRecDepth 100000 in
theorem ownBase {W : World} {B B' sz n : Nat} {e : TypeId} {v : Value} {xs : List Value} (h : W.ownsRow B e sz v n xs) (hB : B' ≤ B) : W.ownsRow B' e sz v n xs := by
  refine ⟨h.1, ?_⟩
  rcases h.2 with h' | ⟨g, cap, cur, e', hb, hc, hk⟩
  · exact .inl h'
  · exact .inr ⟨g, cap, cur, e', Nat.le_trans hB hb, hc, hk⟩
set_option maxRecDepth 100000 in
theorem own_nw {W : World} {B sz n : Nat} {e : TypeId} {v : Value} {xs : List Value} (h : W.ownsRow B e sz v n xs) : ∀ (j : Nat) (o : Obj), v.ownBlock = some j → W.heap[j]? = some o → o.isCells = true := by
  intro j o hj ho
  rcases h.2 with ⟨rfl, _⟩ | ⟨g, cap, cur, rfl, _, hgb, _⟩
  · simp [Value.ownBlock] at hj
  · have : g = j := by simpa [Value.ownBlock] using hj
    subst this
    rw [hgb] at ho
    cases ho
    rfl
/-- What holds between two rounds. -/
structure ApI (w : World) (q Z : Nat) (pre : List Id32) (W : World) : Prop where
  told : ∃ v, RwC W q [v] 66 ∧ W.ownsRow Z 56 32 v pre.length (fltI pre)
  siz : Z ≤ W.heap.size
  bel : Below w.heap.size w W
set_option maxRecDepth 100000 in
theorem apI_own {w : World} {q Z B : Nat} (hB : w.heap.size ≤ B) : OwnFrom B (ApI w q Z) := by
  intro s W W' row h hg hr
  have hr' : ∀ r, row = some r → ∃ o : Obj, W.heap[r]? = some o ∧ o.isCells = false := fun r e => (hr r e).2
  obtain ⟨v, t1, t2⟩ := h.told
  exact ⟨⟨v, (grownBy_keeps_cells hg hr' t1 rfl).trans t1, own_gK t2 hg hr'⟩, Nat.le_trans h.siz hg.size, h.bel.grown hg h.bel.size (fun k e => Nat.le_trans hB (hr k e).1)⟩
set_option maxRecDepth 100000 in
/-- What a round leaves. -/
theorem ApI.next {w W : World} {q Z : Nat} {pre : List Id32} {v : Value} (x : Id32) (t1 : RwC W q [v] 66) (t2 : W.ownsRow Z 56 32 v pre.length (fltI pre)) (sz : Z ≤ W.heap.size) (be : Below w.heap.size w W) (hq : w.heap.size ≤ q) (hqZ : q < Z) (hl : pre.length ≤ 1000) :
    ∃ v' w4, (Builtin.append_ #[66, 66] 66 #[v, .slice (some ⟨W.heap.size, 0, none⟩) 1 1]).run Try.prog (W.alloc (.cells (encI x).toArray 56)) = .ok v' w4 ∧ (∃ ra p rc, v' = .slice ra p rc) ∧ w4.cell? ⟨q, 0, none⟩ = some v ∧ w4.frozen? ⟨q, 0, none⟩ = false ∧
      (KeepsFrom Z W (w4.setCell ⟨q, 0, none⟩ v') ∧ KeepsWalks W (w4.setCell ⟨q, 0, none⟩ v') ∧ ApI w q Z (pre ++ [x]) (w4.setCell ⟨q, 0, none⟩ v')) := by
  obtain ⟨i0, hi, hz0, hz1, hz2⟩ := info_parts infoId
  have na : Below W.heap.size W (W.alloc (.cells (encI x).toArray 56)) := (Below.refl _ _).alloc (Nat.le_refl _) _
  have zs : (W.alloc (.cells (encI x).toArray 56)).heap.size = W.heap.size + 1 := by simp
  have T := RwC.new W (encI x) 56
  obtain ⟨v', w4, r1, r2, r3, -, r5⟩ := run_append_own_at (P := Try.prog) (W.alloc (.cells (encI x).toArray 56)) Z 66 66 56 i0 (.agg #[.int .u8 0, .int .u8 0, .int .u8 0, .int .u8 0, .int .u8 0, .int .u8 0, .int .u8 0, .int .u8 0, .int .u8 0, .int .u8 0, .int .u8 0, .int .u8 0, .int .u8 0, .int .u8 0, .int .u8 0, .int .u8 0, .int .u8 0, .int .u8 0, .int .u8 0, .int .u8 0, .int .u8 0, .int .u8 0, .int .u8 0, .int .u8 0, .int .u8 0, .int .u8 0, .int .u8 0, .int .u8 0, .int .u8 0, .int .u8 0, .int .u8 0, .int .u8 0]) 32 32 undIds hi hz0 hz1 hz2 rfl (by decide) v pre.length (fltI pre) (t2.alloc _) ⟨W.heap.size, 0, none⟩ 1 1 (encI x) (by rw [encI_len]) (fun j u hj => by rw [Addr.add_mid, Nat.zero_add, T.cell j]; exact hj) (encI_one x) (by unfold maxLen; omega) (by omega) (by omega)
  have lv := t2.lt
  have s4 := r3.size
  have nq : v.ownBlock ≠ some q := fun e => by have := (lv q e).1; omega
  have lq := t1.lt
  have q4 : RwC w4 q [v] 66 := (r3.block q (by omega) (fun e => nq e.symm)).trans (t1.up na)
  have O5 := Only.setCell w4 q 0 v'
  have sl : ∃ ra p rc, v' = .slice ra p rc := by
    rcases r2.2 with ⟨e, _⟩ | ⟨g, cap, cur, e, _⟩
    · exact ⟨_, _, _, e⟩
    · exact ⟨_, _, _, e⟩
  have gW : Below w.heap.size w w4 := (be.trans (na.mono be.size)).trans ((Below.refl w.heap.size _).grown r3 (by have := be.size; omega) (fun k hk => by have := (lv k hk).1; omega))
  refine ⟨v', w4, r1, sl, q4.c0, q4.free 0, ⟨by have := O5.size; omega, fun k o hk ho hc => ?_⟩, ((KeepsWalks.alloc W _).trans (KeepsWalks.of_grownBy r3 fun j o hj ho => ?_)).trans (KeepsWalks.setCell _ _ _), ⟨⟨v', q4.set 0 v', ?_⟩, by have := O5.size; omega, gW.trans (O5.below hq)⟩⟩
  · have lk := (Array.getElem?_eq_some_iff.1 ho).1
    refine (O5.block k (by omega)).trans ((r3.block k (by omega) (fun e => ?_)).trans ((na.block k lk).trans ho))
    have := own_nw t2 k o e.symm ho
    rw [hc] at this
    cases this
  · have := own_nw (t2.alloc (.cells (encI x).toArray 56)) j o hj ho
    cases o <;> simp_all [Obj.isCells, Obj.isWalk]
  · have e : (pre ++ [x]).length = pre.length + 1 := by simp
    rw [e, fltI_snoc]
    have ne : ∀ g, v'.ownBlock = some g → g ≠ q := fun g hg e => by
      rw [e] at hg
      have := (r2.lt q hg).1
      omega
    refine ⟨r2.1, ?_⟩
    rcases r2.2 with h' | ⟨g, cap, cur, e', hbg, hc, hk⟩
    · exact .inl h'
    · exact .inr ⟨g, cap, cur, e', hbg, (O5.block g (ne g (by rw [e']; rfl))).trans hc, hk⟩
set_option maxRecDepth 100000 in
theorem fold_at : ∀ (cs : List Value) (k : Nat) (zs : Array Value) (i : Nat), k + cs.length ≤ zs.size → (List.foldl (fun (cs : Array Value) (x : Value × Nat) => cs.setIfInBounds x.snd x.fst) zs (cs.zipIdx k))[i]? = if k ≤ i ∧ i < k + cs.length then cs[i - k]? else zs[i]?
  | [], k, zs, i, _ => by
    rw [if_neg (by simp)]
    rfl
  | c :: cs, k, zs, i, h => by
    rw [List.zipIdx_cons, List.foldl_cons, fold_at cs (k + 1) (zs.setIfInBounds k c) i (by simp at h ⊢; omega)]
    simp only [List.length_cons] at h ⊢
    by_cases h1 : i = k
    · subst h1
      rw [if_neg (by omega), if_pos (by omega), Array.getElem?_setIfInBounds_self_of_lt (by omega)]
      simp
    · by_cases h2 : k + 1 ≤ i ∧ i < k + 1 + cs.length
      · rw [if_pos h2, if_pos (by omega), show i - k = (i - (k + 1)) + 1 by omega, List.getElem?_cons_succ]
      · rw [if_neg h2, if_neg (by omega), Array.getElem?_setIfInBounds_ne (by omega)]
set_option maxRecDepth 100000 in
theorem fold_all (cs : List Value) (zs : Array Value) (h : cs.length = zs.size) : List.foldl (fun (cs : Array Value) (x : Value × Nat) => cs.setIfInBounds x.snd x.fst) zs cs.zipIdx = cs.toArray := by
  apply Array.ext_getElem?
  intro i
  rw [fold_at cs 0 zs i (by omega)]
  by_cases hi : i < cs.length
  · rw [if_pos (by omega)]
    simp
  · rw [if_neg (by omega), Array.getElem?_eq_none (by omega), Array.getElem?_eq_none (by simp; omega)]
set_option maxRecDepth 100000 in
theorem bsRun (W : World) (cs : List Value) (h : cs.length = 32) : (Instr.buildSlice 66 1 #[(0, .agg cs.toArray)]).run Try.prog W = .ok (.slice (some ⟨W.heap.size, 0, none⟩) 1 1) (W.alloc (.cells cs.toArray 56)) := by
  have f := fold_all cs #[.int .u8 0, .int .u8 0, .int .u8 0, .int .u8 0, .int .u8 0, .int .u8 0, .int .u8 0, .int .u8 0, .int .u8 0, .int .u8 0, .int .u8 0, .int .u8 0, .int .u8 0, .int .u8 0, .int .u8 0, .int .u8 0, .int .u8 0, .int .u8 0, .int .u8 0, .int .u8 0, .int .u8 0, .int .u8 0, .int .u8 0, .int .u8 0, .int .u8 0, .int .u8 0, .int .u8 0, .int .u8 0, .int .u8 0, .int .u8 0, .int .u8 0, .int .u8 0] h
  simp [go_sem, h, f]
set_option maxRecDepth 100000 in
theorem listR_bs {P : Program} {ops : Array Oper} {Q : Exit → Act → World → Prop} {n : Nat} {rest : List Oper} {o : Oper} {a : Act} {w : World} {l : Nat} (hgd : o.guard = none) (t : TypeId) (m : Nat) (fs : Array (Nat × Operand)) (ho : o.op = .buildSlice t m fs) (vs : Array (Nat × Value)) (hv : fs.map (fun x => (x.1, a.eval x.2)) = vs)
    (v' : Value) (w' : World) (hr : (Instr.buildSlice t m vs).run P w = .ok v' w') (h : wpListIn (Fence.wide.inRound l) n P ops Q rest (a.put o.dst v') w') : wpListIn (Fence.wide.inRound l) n P ops Q (o :: rest) a w :=
  wpListIn_plain hgd fun K hK => op_in (by rw [ho]; intro c e; cases e) (by
    unfold Oper.wp execOp
    simp only [ho, hv]
    rw [Sem.run_bind, hr]
    exact hK _ _ h)
set_option maxRecDepth 100000 in
theorem listR_append {P : Program} {ops : Array Oper} {Q : Exit → Act → World → Prop} {n : Nat} {rest : List Oper} {o : Oper} {a : Act} {w : World} {l : Nat} (hgd : o.guard = none) (s x : Operand) (t tn : TypeId)
    (ho : o.op = .call { callee := .builtin .append, args := #[s, x], argTypes := #[t, tn] }) (vs vx : Value) (hs : a.eval s = vs) (hx : a.eval x = vx) (v' : Value) (w' : World) (hr : (Builtin.append_ #[t, tn] o.type #[vs, vx]).run P w = .ok v' w')
    (h : wpListIn (Fence.wide.inRound l) n P ops Q rest (a.put o.dst v') w') : wpListIn (Fence.wide.inRound l) n P ops Q (o :: rest) a w :=
  wpListIn_plain hgd fun K hK => op_in (by rw [ho]; intro c e; cases e) (Lib.wp_append_run w s x t tn ho vs vx hs hx v' w' hr (hK _ _ h))
set_option maxRecDepth 100000 in
theorem grownBy_putObjW (W : World) (l : Nat) (o : Obj) : W.grownBy (W.putObj l o) (some l) :=
  ⟨rfl, rfl, rfl, by simp, fun k _ hk => World.putObj_heap_other (fun e => hk (by rw [e]))⟩
set_option maxRecDepth 100000 in
set_option maxHeartbeats 8000000 in
theorem appendSeq_any (w : World) (Bm b nn : Nat) (D : DataW Unit) (E : List Ent) (hB : Bk D E) (hBm : Bm < w.heap.size) (hm : w.cell? ⟨Bm, 0, none⟩ = some (.map (some b))) (own : w.ownsMap Try.prog 56 pmR b nn D) (hl : E.length ≤ 1000) :
    Calls Try.prog 41 #[.slice none 0 0, .func (.func 40) #[] #[.pointer (some ⟨Bm, 0, none⟩)]] w fun e w' => (∃ v xs, e = .returned v ∧ (xs.map (fun x : Id32 => x.1)).Perm (E.map (·.id)) ∧ w'.ownsRow w.heap.size 56 32 v xs.length (fltI xs)) ∧ Below w.heap.size w w' := by
  have n0 : Below w.heap.size w (w.alloc (.cells #[.slice none 0 0] 66)) := (Below.refl _ _).alloc (Nat.le_refl _) _
  have T0 := RwC.new w [.slice none 0 0] 66
  have s0 : (w.alloc (.cells #[.slice none 0 0] 66)).heap.size = w.heap.size + 1 := by simp
  have hm0 := (n0.cell (p := ⟨Bm, 0, none⟩) hBm).trans hm
  have own0 := ownP own n0
  refine (callsIn_wide (n := 5)).1 (callsIn_of_wp_marks Try.func41 rfl trivial ?_ rfl)
  refine wpIn_wide.2 ?_
  simp only [Try.ntmps41, List.size_toArray, List.length_cons, List.length_nil, Nat.reduceAdd, Nat.reduceSub, Array.replicate_succ, Array.replicate_zero, List.push_toArray, List.append_toArray, List.nil_append, List.cons_append]
  go_upto_region 1 with fail
  generalize w.alloc (.cells #[.slice none 0 0] 66) = wd at *
  have I0 : ApI w w.heap.size (w.heap.size + 1) [] wd := ⟨⟨_, T0, ⟨rfl, .inl ⟨rfl, rfl⟩⟩⟩, by omega, n0⟩
  have S0 := hide s0
  have HL := hide hl
  have N0 := hide n0
  clear s0 n0 T0 own hm hl
  go_wp2
  refine (wpIn_wide (n := 5)).1 (wpIn_rangeFunc_ownH (n := 5) rfl (by omega) (gf := 40) (lb := #[.pointer (some ⟨Bm, 0, none⟩)]) rfl trivial (enters_of Try.func40 (by kernel_rfl) rfl)
    (keys_stops 4 (by omega) Bm b nn D E hB wd (by have := S0.out; omega) hm0 own0) (fun h k => h.trans k) (fun W l o o' _ ho _ hw => KeepsWalks.putObj _ ho hw) (Below.refl _ _) (fun _ => rfl)
    (ApI w w.heap.size (w.heap.size + 1)) (fun _ _ _ => False) (apI_own (by have := S0.out; omega)) (fun _ _ _ _ _ h _ _ => h) I0
    (fun x a' W => ∃ s, a' = { tmps := #[.slice none 0 0, .func (.func 40) #[] #[.pointer (some ⟨Bm, 0, none⟩)], .pointer (some ⟨w.heap.size, 0, none⟩), undef, .slice none 0 0, .pointer (some ⟨s, 0, none⟩), .func (.func 40) #[] #[.pointer (some ⟨Bm, 0, none⟩)], .agg (encI x).toArray, undef, undef, undef, undef, undef], defers := [] } ∧ RwC W s (encI x) 56) ?ax ?assign ?body ?done ?stop)
  case ax =>
    rintro x a' u W W' row ⟨s, e, h⟩ hg hr
    exact ⟨s, e, (grownBy_keeps_cells hg (fun r e => (hr r e).2) h rfl).trans h⟩
  case assign =>
    intro l pre x W K hI hK
    obtain ⟨nb, th1, R1⟩ := box1 W (encI x) (encI_len x)
    have one : (encI x).toArray.all (·.oneCell') = true := all_oneCell_toArray (encI_one x)
    have e32 : (encI x).toArray.size = 32 := by simp [encI_len]
    have SZC : (Try.prog.info? 56).map (·.size) = some (encI x).toArray.size := by rw [e32]; exact iId
    have th1' : World.there (W.alloc (.cells #[.int .u8 0, .int .u8 0, .int .u8 0, .int .u8 0, .int .u8 0, .int .u8 0, .int .u8 0, .int .u8 0, .int .u8 0, .int .u8 0, .int .u8 0, .int .u8 0, .int .u8 0, .int .u8 0, .int .u8 0, .int .u8 0, .int .u8 0, .int .u8 0, .int .u8 0, .int .u8 0, .int .u8 0, .int .u8 0, .int .u8 0, .int .u8 0, .int .u8 0, .int .u8 0, .int .u8 0, .int .u8 0, .int .u8 0, .int .u8 0, .int .u8 0, .int .u8 0] 56)) W.heap.size 0 (encI x).toArray.size := by rw [e32]; exact th1
    have KF : KeepsFrom wd.heap.size W _ := KeepsFrom.of_grownBy (bGn nb) (fun j e => by cases e)
    have KW : KeepsWalks W _ := KeepsWalks.of_grownBy (bGn nb) (fun j o e => by cases e)
    have HI := apI_own (w := w) (q := w.heap.size) (Z := w.heap.size + 1) (B := wd.heap.size) (by have := S0.out; omega) pre W _ none hI (bGn nb) (fun r e => by cases e)
    have HK := hide (hK _ _ KF KW HI ⟨W.heap.size, rfl, R1⟩)
    clear KF KW HI R1 nb hK
    generalize encI x = cs at *
    gi_wp2_with (first
      | (refine listR_store rfl 56 (.tmp 5) (.tmp 7) rfl W.heap.size 0 cs.toArray rfl rfl th1' SZC one ?_)
      | gi_in)
    exact HK.out
  case body =>
    rintro l pre x a' W hl2 - hI ⟨s, rfl, R⟩ hlen
    obtain ⟨v, t1, t2⟩ := hI.told
    have sz := hI.siz
    have be := hI.bel
    obtain ⟨v', w4, r1, ⟨ra, p, rc, rfl⟩, c4, f4, FIN⟩ := ApI.next x t1 t2 sz be (Nat.le_refl _) (by omega) (by have := HL.out; omega)
    have c0 := t1.c0
    have RG := R.rangeG
    have SL : (Try.prog.info? 56).map (·.size) = some (encI x).length := by rw [encI_len]; exact iId
    have FF := hide FIN
    have BS := bsRun W (encI x) (encI_len x)
    have CLx : (encI x).length = 32 := encI_len x
    have FD := fold_all (encI x) #[.int .u8 0, .int .u8 0, .int .u8 0, .int .u8 0, .int .u8 0, .int .u8 0, .int .u8 0, .int .u8 0, .int .u8 0, .int .u8 0, .int .u8 0, .int .u8 0, .int .u8 0, .int .u8 0, .int .u8 0, .int .u8 0, .int .u8 0, .int .u8 0, .int .u8 0, .int .u8 0, .int .u8 0, .int .u8 0, .int .u8 0, .int .u8 0, .int .u8 0, .int .u8 0, .int .u8 0, .int .u8 0, .int .u8 0, .int .u8 0, .int .u8 0, .int .u8 0] (encI_len x)
    clear FIN t1 t2 sz be R hI
    generalize encI x = cs at *
    gi_wp2_with (first
      | (refine listR_load rfl 56 (.tmp 5) rfl s 0 rfl cs _ RG uId rfl SL ?_)
      | (refine listR_bs rfl 66 1 #[(0, .tmp 9)] rfl #[(0, .agg cs.toArray)] rfl _ _ BS ?_)
      | (gi_at_builtin; refine listR_append rfl _ _ 66 66 rfl _ _ rfl rfl _ _ r1 ?_)
      | gi_in)
    rw [S0.out]
    exact FF.out
  case done =>
    rintro Dd xx W hD hS hI hK
    obtain ⟨v, t1, t2⟩ := hI.told
    have R9 := own_gK t2 (grownBy_putObjW W Dd (.deferred none)) (fun r e => by cases e; exact ⟨_, hK, rfl⟩)
    have N9 : Below w.heap.size w (W.putObj Dd (.deferred none)) := hI.bel.grown (grownBy_putObjW W Dd _) hI.bel.size (fun k e => by cases e; have := S0.out; omega)
    have c0 := t1.c0
    have sl : ∃ ra p rc, v = .slice ra p rc := by
      rcases t2.2 with ⟨e, _⟩ | ⟨g, cap, cur, e, _⟩
      · exact ⟨_, _, _, e⟩
      · exact ⟨_, _, _, e⟩
    obtain ⟨ra, p, rc, rfl⟩ := sl
    have RB := hide (ownBase R9 (show w.heap.size ≤ w.heap.size + 1 by omega))
    clear t1 t2 hI R9
    go_wp2
    refine ⟨by simp, .inl ⟨_, _, rfl, run_takeDeferred hK, ?_⟩⟩
    exact ⟨_, results_tmp rfl _ _ _, ⟨.slice ra p rc, xx, by rfl, hS, RB.out⟩, N9⟩
  case stop =>
    rintro D c pre W hD hs h hK
    exact h.elim
end Go.Proofs.Ytingekgcjnkljaa

/-
  Windows that are asked: the ids of the book in the order of their places (written by gens/waj.py).
-/
namespace Go.Proofs.Ytingekgcjnkljaa
open Go Go.RowKit Go.Maps Go.Sort Go.Shelf

set_option maxRecDepth 100000 in
theorem collect_any (w : World) (Bm b nn : Nat) (D : DataW Unit) (E : List Ent) (hB : Bk D E) (hBm : Bm < w.heap.size) (hm : w.cell? ⟨Bm, 0, none⟩ = some (.map (some b))) (own : w.ownsMap Try.prog 56 pmR b nn D) (hl : E.length ≤ 1000) :
    Calls Try.prog 38 #[.func (.func 40) #[] #[.pointer (some ⟨Bm, 0, none⟩)]] w fun e w' => (∃ v xs, e = .returned v ∧ (xs.map (fun x : Id32 => x.1)).Perm (E.map (·.id)) ∧ w'.ownsRow w.heap.size 56 32 v xs.length (fltI xs)) ∧ Below w.heap.size w w' := by
  have AS := hide (appendSeq_any w Bm b nn D E hB hBm hm own hl)
  go_enter Try.func38, Try.ntmps38
  go_wp2_with fail
  refine AS.out.mono ?_
  rintro e w1 ⟨⟨v, xs, rfl, hp, ho⟩, n1⟩
  have HP := hide hp
  have HO := hide ho
  clear hp ho AS
  go_wp2
  go_ret
  exact ⟨⟨v, xs, rfl, HP.out, HO.out⟩, n1⟩
set_option maxRecDepth 100000 in
theorem flt_get [Inhabited Id32] : ∀ (xs : List Id32) (j : Nat), j < xs.length * 32 → (fltI xs)[j]? = some ((encI (xs.toArray[j / 32]!))[j % 32]!)
  | [], j, h => by simp at h
  | x :: xs, j, h => by
    have e : fltI (x :: xs) = encI x ++ fltI xs := by simp [fltI]
    have l := encI_len x
    rw [e]
    by_cases hj : j < 32
    · rw [List.getElem?_append_left (by omega), show j / 32 = 0 by omega, show j % 32 = j by omega]
      simp [hj, l]
    · rw [List.getElem?_append_right (by omega), l, flt_get xs (j - 32) (by simp at h; omega)]
      have a1 : j / 32 = (j - 32) / 32 + 1 := by omega
      have a2 : (j - 32) % 32 = j % 32 := by omega
      rw [a1, a2]
      simp
set_option maxRecDepth 100000 in
def ent0 : Ent := ⟨[], 0, 0⟩
set_option maxRecDepth 100000 in
theorem sortedFunc_any (w : World) (Bm b nn s : Nat) (D : DataW Unit) (E : List Ent) (hB : Bk D E) (hBm : Bm < w.heap.size) (hm : w.cell? ⟨Bm, 0, none⟩ = some (.map (some b))) (own : w.ownsMap Try.prog 56 pmR b nn D) (hs : w.cell? ⟨s, 0, none⟩ = some (.map (some b))) (hl : E.length ≤ 1000) (h0 : 0 < E.length) (asc : E.Pairwise (fun x y => x.pl < y.pl)) :
    Calls Try.prog 33 #[.func (.func 40) #[] #[.pointer (some ⟨Bm, 0, none⟩)], .func (.func 31) #[] #[.pointer (some ⟨s, 0, none⟩)]] w fun e w' => (∃ g cap, e = .returned (.slice (some ⟨g, 0, none⟩) E.length cap) ∧ (∀ i, i < E.length → w'.rangeAt g (i * 32) ((E.getD i ent0).id.map (Value.int .u8)))) ∧ Below w.heap.size w w' := by
  haveI iI : Inhabited Id32 := ⟨id0⟩
  have CO := hide (collect_any w Bm b nn D E hB hBm hm own hl)
  have hb := own.lt
  have hsl := block_lt_of_cell hs
  go_enter Try.func33, Try.ntmps33
  go_wp2_with fail
  refine CO.out.mono ?_
  rintro e w1 ⟨⟨v, xs, rfl, hp, ho⟩, n1⟩
  have xl : xs.length = E.length := by have := hp.length_eq; simpa using this
  obtain ⟨g, cap, cur, rfl, hbg, hg, hn, hmx, hcs, ht⟩ : ∃ g cap cur, v = .slice (some ⟨g, 0, none⟩) xs.length cap ∧ w.heap.size ≤ g ∧ w1.heap[g]? = some (.cells cur 56 (0, 0)) ∧ xs.length ≤ cap ∧ cap ≤ maxLen ∧ cur.size = cap * 32 ∧ cur.toList.take (xs.length * 32) = fltI xs := by
    rcases ho.2 with ⟨_, h'⟩ | h'
    · omega
    · exact h'
  have gl : g < w1.heap.size := (Array.getElem?_eq_some_iff.1 hg).1
  have H1 : HoldsK encI 32 w1 g 0 xs.toArray := by
    intro j hj
    rw [size_flatK] at hj
    have hj' : j < xs.length * 32 := by simpa using hj
    rw [get_flatK _ _ _ _ hj]
    refine ⟨?_, frozen_of_row w1 g _ cur 56 hg⟩
    rw [cell_of_row w1 g _ cur _ (0, 0) hg, Nat.zero_add]
    have e1 : (cur.toList.take (xs.length * 32))[j]? = (fltI xs)[j]? := by rw [ht]
    rw [List.getElem?_take, if_pos hj', flt_get xs j hj'] at e1
    simpa using e1
  have SO := hide (sortIds_any D s b nn g cap xs.toArray w1 ((n1.cell (block_lt_of_cell hs)).trans hs) (ownP own n1) (by omega) (by omega) H1 gl (by simp; omega))
  have XL := hide xl
  have HP := hide hp
  have N1 := hide n1
  have HB := hide hB
  have AS := hide asc
  have e2 : xs.toArray.size = E.length := by simpa using xl
  rw [e2] at SO
  rw [xl]
  clear hp ho ht H1 hn hmx hcs CO hg e2 xl hB asc n1
  go_wp2_with fail
  refine SO.out.mono ?_
  rintro e w2 ⟨rfl, d', pm, hso, hH, hgr⟩
  have PM := hide pm
  have SOR := hide hso
  have HH := hide hH
  have GR := hide hgr
  clear pm hso hH hgr SO
  go_wp2
  go_ret
  have dl : d'.size = E.length := by have := PM.out.length_eq; have := XL.out; simp at *; omega
  have pl : ∀ e ∈ E, plOf D e.id = e.pl := fun e he => by unfold plOf; rw [HB.out.at' e he]; rfl
  have q1 : (d'.toList.map (fun x : Id32 => x.1)).Perm (E.map (·.id)) := (PM.out.map _).trans (by simpa using HP.out)
  have EQ : d'.toList.map (fun x : Id32 => x.1) = E.map (·.id) := by
    refine List.Perm.eq_of_pairwise (le := fun a b => plOf D a ≤ plOf D b) (fun a b ha hb h1 h2 => ?_) ?_ ?_ q1
    · obtain ⟨e, he, rfl⟩ := List.mem_map.1 (q1.mem_iff.1 ha)
      obtain ⟨f, hf, rfl⟩ := List.mem_map.1 hb
      rw [pl e he, pl f hf] at h1 h2
      obtain ⟨i, hi, ei⟩ := List.getElem_of_mem he
      obtain ⟨j, hj, ej⟩ := List.getElem_of_mem hf
      rcases Nat.lt_trichotomy i j with l | l | l
      · have := List.pairwise_iff_getElem.1 AS.out i j hi hj l
        rw [ei, ej] at this
        omega
      · subst l
        rw [← ei, ej]
      · have := List.pairwise_iff_getElem.1 AS.out j i hj hi l
        rw [ei, ej] at this
        omega
    · refine List.pairwise_map.2 (List.pairwise_iff_getElem.2 fun i j hi hj hij => ?_)
      have := SOR.out i j hij (by simpa [dl] using hj)
      rw [getElem!_pos d' i (by simpa using hi), getElem!_pos d' j (by simpa using hj)] at this
      simpa using this
    · refine List.pairwise_map.2 (AS.out.imp_of_mem fun {x y} hx hy h => ?_)
      show plOf D x.id ≤ plOf D y.id
      rw [pl x hx, pl y hy]
      omega
  refine ⟨⟨g, cap, rfl, fun i hi => ?_⟩, N1.out.trans ((Below.refl w.heap.size w1).grown GR.out (by have := N1.out.size; omega) (fun k hk => by cases hk; omega))⟩
  intro c u hu
  have e3 : (E.getD i ent0).id = (d'[i]!).1 := by
    have a1 : (d'.toList.map (fun x : Id32 => x.1))[i]? = (E.map (·.id))[i]? := by rw [EQ]
    rw [List.getElem?_map, List.getElem?_map, List.getElem?_eq_getElem hi, Array.getElem?_toList, Array.getElem?_eq_getElem (by omega)] at a1
    rw [List.getD_eq_getElem?_getD, List.getElem?_eq_getElem hi, getElem!_pos d' i (by omega)]
    simpa using a1.symm
  rw [e3] at hu
  have hc : c < 32 := by
    have := (List.getElem?_eq_some_iff.1 hu).1
    rw [List.length_map, (d'[i]!).2.1] at this
    exact this
  have h9 := (HH.out.cell (i := i) (c := c) (by omega) hc).1
  rw [Nat.zero_add] at h9
  rw [h9]
  have : (encI (d'[i]!))[c]? = some u := hu
  rw [List.getElem!_eq_getElem?_getD, this]
  rfl
end Go.Proofs.Ytingekgcjnkljaa
