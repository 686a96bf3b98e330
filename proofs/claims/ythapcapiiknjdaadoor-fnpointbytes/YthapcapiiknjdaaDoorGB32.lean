import Derived.Test.YthapcapiiknjdaaDoorGB30
import Derived.Test.YthapcapiiknjdaaDoorGB23
import Derived.Test.YthapcapiiknjdaaDoorGB31
import Derived.Test.YthapcapiiknjdaaDoorGB6
import Derived.Test.YthapcapiiknjdaaDoorGB26
import Derived.Test.YthapcapiiknjdaaDoorGB27

/-
  The program's points of two coordinates: the opposite, the ladder's coordinate, their bytes.
-/
namespace Go.Proofs.YthapcapiiknjdaaDoor
set_option maxRecDepth 100000
open Go Go.RowKit

theorem en_eb : enters Tryd.prog 67 = true := by kernel_rfl
/-- A new point of these two lists, which lie apart. -/
def PD (w0 : World) (xs ys : List Int) : Fact := ⟨fun v w => ∃ (a a' : Option Addr) (c c' g g' : Nat), v = .agg #[.slice a xs.length c, .slice a' ys.length c'] ∧ Own w g a .u8 xs ∧ Own w g' a' .u8 ys ∧ w0.heap.size ≤ g ∧ w0.heap.size ≤ g' ∧ (0 < xs.length → 0 < ys.length → g ≠ g'), fun n h => by
  obtain ⟨a, a', c, c', g, g', e, o, o', q⟩ := h
  exact ⟨a, a', c, c', g, g', e, o.up n, o'.up n, q⟩⟩
section
variable {ops : Array Oper} {Q : Exit → Act → World → Prop} {md : Region.Mode} {F : Nat → Fact} {a0 : Act} {w0 : World} {i : Nat} {o : Oper} {ts : Array TypeId}
theorem fresh_call {P : Program} (hi : ops[i]? = some o) (n : FuncId) (args : Array Operand) (ts : Array TypeId) (hop : o.op = .call { callee := .value (.func n), args := args, argTypes := ts }) (he : enters P n = true)
    (G : ∀ a w, Based ops a0 a → Below w0.heap.size w0 w → Facts md ops F i a w → Calls P n (args.toList.map a.eval).toArray w fun e w' => ∃ v, e = .returned v ∧ Below w.heap.size w w' ∧ (F i).p v w' ∧ ∃ b, blkOf v = some b ∧ w.heap.size ≤ b ∧ b < w'.heap.size) : FreshG P md ops Q F a0 w0 i := by
  intro o' ho' a w hb hw hf K hK
  obtain rfl := Option.some.inj (hi.symm.trans ho')
  have hr : (execOp a.eval o).run P w = .ok (.enter n (args.map a.eval)) w := by
    have h0 : (Deferred.ofValue (Value.func (Fn.func n) #[] #[]) (args.map a.eval)).run P w = .ok { target := .fn (.func n) #[], args := args.map a.eval } w := by simp [Deferred.ofValue]
    simp [execOp, hop, resolve, invoke, Act.eval, h0, run_enter he]
  have e : args.map a.eval = (args.toList.map a.eval).toArray := by cases args; simp
  unfold Oper.wp
  rw [hr, e, Oper.upon_enter]
  refine (G a w hb hw hf).mono ?_
  rintro e w' ⟨v, rfl, hn, hv, hfr⟩
  exact hK v w' hn hv hfr
theorem fresh_eb (hi : ops[i]? = some o) (p j : Nat) (A : Int) (hop : o.op = .call { callee := .value (.func 67), args := #[.tmp p], argTypes := ts })
    (hj : waits md ops i j p = true) (hFj : F j = EM A) (hFi : F i = RN w0 (fun xs => xs = fill (byt (A % PP)) 32)) : FreshG Tryd.prog md ops Q F a0 w0 i := by
  refine fresh_call hi _ _ ts hop en_eb fun a w _ hw hF => ?_
  have ea := hF j p hj
  rw [hFj] at ea
  obtain ⟨t, e1, L1, V1⟩ := ea
  show Calls Tryd.prog 67 #[a.tmps.getD p undef] w _
  rw [e1]
  refine (bytes_any w t L1).mono ?_
  rintro r w' ⟨⟨b, c, g, rfl, ow, k1, k2, hg⟩, hn⟩
  rw [V1] at ow k2 ⊢
  have l32 : (fill (byt (A % PP)) 32).length = 32 := fill_len _ _
  obtain ⟨off, rfl, _⟩ := ow (by rw [l32]; omega)
  rw [hFi]
  refine ⟨_, rfl, hn, ⟨_, _, c, g, rfl, ow, Nat.le_trans hw.size hg, rfl, k1, k2⟩, g, rfl, hg, ow.rd.lt (by rw [l32]; omega)⟩
theorem step_eb (hi : ops[i]? = some o) (p j : Nat) (A : Int) (hop : o.op = .call { callee := .value (.func 67), args := #[.tmp p], argTypes := ts })
    (hj : waits md ops i j p = true) (hFj : F j = EM A) (hFi : F i = RN w0 (fun xs => xs = fill (byt (A % PP)) 32)) : StepOk Tryd.prog md ops Q F a0 w0 i := (fresh_eb hi p j A hop hj hFj hFi).step
end
section
variable {ops : Array Oper} {Q : Exit → Act → World → Prop} {a0 : Act} {w : World} {id : Nat} {draw : Bool}
theorem wp_value {P : Program} {o : Oper} {a : Act} {W : World} {K : Act → World → Prop} {v : Value} (hr : (execOp a.eval o).run P W = .ok (.value v) W) (hK : K (a.put o.dst v) W) : o.wp P a W K Q := by
  unfold Oper.wp
  rw [hr]
  exact hK
/-- Two new lists are made a point, which is laid into a block that was there. -/
theorem region_pt (k j l p q d pD : Nat) (o1 o2 : Oper) (F : Nat → Fact) (xs ys : List Int) (qb : Nat) (hT : textTail .any draw ops a0.tmps.size k = true) (hdrop : ops.toList.drop k = [o1, o2]) (hk1 : ops[k]? = some o1) (hd1 : o1.dst = some d) (hd2 : o2.dst = none)
    (hop1 : o1.op = .build 24 #[(0, .tmp p), (1, .tmp q)]) (hop2 : o2.op = .store 24 (.tmp pD) (.tmp d)) (hz : decide (d < a0.tmps.size) = true)
    (hp : apart ops pD = true) (hpd : pD ≠ d) (h0 : a0.tmps.getD pD undef = .pointer (some ⟨qb, 0, none⟩)) (ht : w.there qb 0 2) (qj : decide (j < k) = true) (ql : decide (l < k) = true) (wj : writes ops j p = true) (wl : writes ops l q = true) (hjl : j ≠ l)
    (Fj : F j = RN w (fun zs => zs = xs)) (Fl : F l = RN w (fun zs => zs = ys)) (lx : 0 < xs.length) (ly : 0 < ys.length) (fj : FreshG Tryd.prog .any ops Q F a0 w j) (fl : FreshG Tryd.prog .any ops Q F a0 w l) (steps : ∀ i, i < k → StepOk Tryd.prog .any ops Q F a0 w i)
    (fin : ∀ (vs : Nat → Value) (W W' : World) (a a' : Option Addr) (c c' g g' : Nat), Below w.heap.size w W → W'.rangeAt qb 0 [.slice a xs.length c, .slice a' ys.length c'] → Own W' g a .u8 xs → Own W' g' a' .u8 ys → w.heap.size ≤ g → w.heap.size ≤ g' → g ≠ g' → (∀ (w1 : World) (B : Nat), Below B w1 W → B ≤ qb → Below B w1 W') → Q .normal (puts vs a0 ops.toList) W') :
    (Code.region id ops draw).wp Tryd.prog Q a0 w := by
  refine region_tail k F (by kernel_rfl) hT steps [(j, p), (l, q)] (fun p hp => ?_) (fun p hp p' hp' hn => ?_) fun a W hb hw hF hS => ?_
  · simp only [List.mem_cons, List.not_mem_nil, or_false] at hp
    rcases hp with rfl | rfl
    · exact ⟨of_decide_eq_true qj, wj, fj⟩
    · exact ⟨of_decide_eq_true ql, wl, fl⟩
  · simp only [List.mem_cons, List.not_mem_nil, or_false] at hp hp'
    rcases hp with rfl | rfl <;> rcases hp' with rfl | rfl
    · exact absurd rfl hn
    · exact hjl
    · exact hjl.symm
    · exact absurd rfl hn
  have h1 := hF j p qj wj
  have h2 := hF l q ql wl
  rw [Fj] at h1
  rw [Fl] at h2
  obtain ⟨zs, b, c, g, e1, w1, l1, hz1, _, _⟩ := h1
  obtain ⟨us, b', c', g', e2, w2, l2, hz2, _, _⟩ := h2
  replace hz1 : zs = xs := hz1
  replace hz2 : us = ys := hz2
  rw [hz1] at e1 w1
  rw [hz2] at e2 w2
  have hne := hS (j, p) (by simp) (l, q) (by simp) (fun e => hjl (Prod.mk.inj e).1)
  simp only at hne
  rw [e1, e2] at hne
  have hgg : g ≠ g' := by
    obtain ⟨_, rfl, _⟩ := w1 lx
    obtain ⟨_, rfl, _⟩ := w2 ly
    exact fun e => hne (by rw [e]; rfl)
  rw [hdrop]
  show o1.wp _ a W (fun a' w' => o2.wp _ a' w' (fun a'' w'' => Q .normal a'' w'') Q) Q
  have g1 : a.eval (.tmp p) = .slice b xs.length c := e1
  have g2 : a.eval (.tmp q) = .slice b' ys.length c' := e2
  have gg : (#[(0, Operand.tmp p), (1, Operand.tmp q)].map fun (n, x) => (n, a.eval x)) = #[(0, Value.slice b xs.length c), (1, .slice b' ys.length c')] := by simp [g1, g2]
  have hr : (execOp a.eval o1).run Tryd.prog W = .ok (.value (.agg #[.slice b xs.length c, .slice b' ys.length c'])) W := by
    simp only [execOp, hop1, gg]
    rw [Sem.run_bind, buP]
    rfl
  refine wp_value hr ?_
  rw [hd1]
  show o2.wp _ (a.put (some d) _) W _ _
  have th := there_up (by omega) ht hw
  have hb2 : Based ops a0 (a.put (some d) (.agg #[.slice b xs.length c, .slice b' ys.length c'])) := by rw [← hd1]; exact hb.put hk1 _
  refine wp_store_mid 24 (.tmp pD) (.tmp d) hop2 qb 0 #[.slice b xs.length c, .slice b' ys.length c'] ?_ ?_ th iP (by simp [Value.oneCell']) ?_
  · show (a.put _ _).tmps.getD pD undef = _
    rw [put_off (by simpa using Ne.symm hpd)]
    exact (based_at hb pD hp).trans h0
  · show (a.put _ _).tmps.getD d undef = _
    exact put_at (by rw [hb.2.1]; exact of_decide_eq_true hz)
  rw [hd2]
  obtain ⟨vs, hvs⟩ : ∃ vs : Nat → Value, ∀ e, (a.put (some d) (.agg #[.slice b xs.length c, .slice b' ys.length c'])).tmps.getD e undef = vs e := ⟨_, fun _ => rfl⟩
  show Q .normal (a.put (some d) _) _
  rw [puts_tail hT rfl hb2 vs hvs]
  have lq := there_lt (by omega) ht
  refine fin vs W _ b b' c c' g g' hw (World.rangeAt_setCells_same W qb 0 _ th) ?_ ?_ l1 l2 hgg (fun w1 B n hB => below_setCells hB _ _ _ n)
  · exact fun h0 => w1.of_block (setCells_other (by omega) _ 0 W) h0
  · exact fun h0 => w2.of_block (setCells_other (by omega) _ 0 W) h0
end
set_option maxHeartbeats 2000000 in
theorem point_any (w : World) (es : List (Nat → Int)) (X Y : Int) (hes : IsN es [X, Y]) :
    Calls Tryd.prog 51 #[agN es] w fun r w' => NewP2 w.heap.size w' r (fill (byt (X % PP)) 32) (fill (byt (Y % PP)) 32) ∧ Below w.heap.size w w' := by
  show Calls Tryd.prog 51 #[.agg (clN es).toArray] w _
  have H0 := rowN_new w 58 hes
  have m0 : Below w.heap.size w (w.alloc (.cells (clN es).toArray 58)) := (Below.refl _ _).alloc (Nat.le_refl _) _
  have s0 : (w.alloc (.cells (clN es).toArray 58)).heap.size = w.heap.size + 1 := by simp
  obtain ⟨V0, hV0⟩ : ∃ V, V = (clN es).toArray := ⟨_, rfl⟩
  rw [← hV0] at H0 m0 s0 ⊢
  clear hV0 hes
  go_enter Tryd.func51, Tryd.ntmps51
  go_upto_region 1 with fail
  generalize w.alloc (.cells V0 58) = wa0 at *
  have TR : (wa0.alloc pObj).there wa0.heap.size 0 2 := there_new wa0 _ _
  have mz : Below wa0.heap.size wa0 (wa0.alloc pObj) := (Below.refl _ _).alloc (Nat.le_refl _) _
  rw [s0] at TR
  have P0 := H0.up mz
  have N := nxt m0 mz
  clear H0 m0 s0 mz
  obtain ⟨wr, hwr⟩ : ∃ W, W = wa0.alloc pObj := ⟨_, rfl⟩
  rw [← hwr] at TR N P0
  change Code.wp _ _ _ _ (wa0.alloc pObj)
  rw [← hwr]
  clear hwr
  have l1 : 0 < (fill (byt (X % PP)) 32).length := by rw [fill_len]; omega
  have l2 : 0 < (fill (byt (Y % PP)) 32).length := by rw [fill_len]; omega
  refine region_pt 6 2 5 5 8 9 2 _ _ (fun i => [Fact.eq (.pointer (some ⟨w.heap.size, 0, none⟩)), EM (X), RN wr (fun xs => xs = fill (byt ((X) % PP)) 32), Fact.eq (.pointer (some ⟨w.heap.size, 5, none⟩)), EM (Y), RN wr (fun xs => xs = fill (byt ((Y) % PP)) 32)].getD i Fact.no) (fill (byt (X % PP)) 32) (fill (byt (Y % PP)) 32) _ (by kernel_rfl) rfl rfl rfl rfl rfl rfl (by kernel_rfl) (by kernel_rfl) (by decide) rfl TR rfl rfl (by kernel_rfl) (by kernel_rfl) (by decide) rfl rfl l1 l2 (fresh_eb rfl 4 1 _ rfl (by kernel_rfl) rfl rfl) (fresh_eb rfl 7 4 _ rfl (by kernel_rfl) rfl rfl) ?_ ?_
  · intro i hi
    obtain rfl | rfl | rfl | rfl | rfl | rfl : i = 0 ∨ i = 1 ∨ i = 2 ∨ i = 3 ∨ i = 4 ∨ i = 5 := by omega
    · exact step_fld rfl 58 1 0 rfl (by kernel_rfl) _ _ rfl (fxA _) rfl
    · exact step_e5f rfl 3 0 rfl (by kernel_rfl) _ _ rfl _ P0.at0 rfl
    · exact step_eb rfl 4 1 _ rfl (by kernel_rfl) rfl rfl
    · exact step_fld rfl 58 1 1 rfl (by kernel_rfl) _ _ rfl (fyA _) rfl
    · exact step_e5f rfl 6 3 rfl (by kernel_rfl) _ _ rfl _ P0.tail.at0 rfl
    · exact step_eb rfl 7 4 _ rfl (by kernel_rfl) rfl rfl
  intro vs W W' b b' c c' g g' n rg o1 o2 k1 k2 hne nb
  have z := N.size
  have NS := nb w w.heap.size (nxt N n) (by omega)
  simp only [puts, Act.put, List.setIfInBounds_toArray, List.set_cons_succ, List.set_cons_zero]
  clear n nb N TR P0
  obtain ⟨fs, hfs⟩ := uP
  go_wp2
  exact bodyPost_ret (v := .agg #[.slice b (fill (byt (X % PP)) 32).length c, .slice b' (fill (byt (Y % PP)) 32).length c']) (results_cell_mid Tryd.results51 _ _ (w.heap.size + 1) [.slice b (fill (byt (X % PP)) 32).length c, .slice b' (fill (byt (Y % PP)) 32).length c'] _ rfl rg hfs rfl iP) rfl ⟨⟨b, c, g, b', c', g', rfl, o1, o2, by omega, by omega, fun _ _ => hne⟩, NS⟩
end Go.Proofs.YthapcapiiknjdaaDoor

/-
  The program's isOnCurve and readPoint.
-/
namespace Go.Proofs.YthapcapiiknjdaaDoor
set_option maxRecDepth 100000
open Go Go.RowKit

theorem results_cell_slot {P : Program} {fn : Func} {p s : Tmp} {ty : TypeId} {v : Value} (h : fn.results = #[.cell p ty, .tmp s]) (tmps : Array Value) (w : World) (g : Nat) (cs : List Value) (d : TypeDesc)
    (hp : tmps.getD p undef = .pointer (some ⟨g, 0, none⟩)) (hs : tmps.getD s undef = v) (hc : w.rangeAt g 0 cs) (hu : P.underlying ty = some d) (hd : d.isRow = true) (hi : (P.info? ty).map (·.size) = some cs.length) :
    (results fn tmps).run P w = .ok (.tuple #[.agg cs.toArray, v]) w := by
  have hp' : tmps[p]?.getD undef = .pointer (some ⟨g, 0, none⟩) := by simpa using hp
  have hs' : tmps[s]?.getD undef = v := by simpa using hs
  simp [results, h, hp', hs', asAddr, run_loadVar_mid w g 0 ty cs d hc hu hd hi]
/-- The curve's equation, by the program's factor D. -/
def onB (D x y : Int) : Bool := decide ((y * y - x * x) % PP = (1 + D * (x * x) * (y * y)) % PP)
set_option maxHeartbeats 2000000 in
theorem isOn_any (w : World) (es : List (Nat → Int)) (D X Y : Int) (hes : IsN es [X, Y]) (TT : HasTw w 3) (CC : Em5 w 2 0 D) :
    Calls Tryd.prog 98 #[agN es] w fun r w' => r = .returned (.bool (onB D X Y)) ∧ Below w.heap.size w w' := by
  show Calls Tryd.prog 98 #[.agg (clN es).toArray] w _
  have P0 := rowN_new w 58 hes
  have N : Below w.heap.size w (w.alloc (.cells (clN es).toArray 58)) := (Below.refl _ _).alloc (Nat.le_refl _) _
  obtain ⟨V0, hV0⟩ : ∃ V, V = (clN es).toArray := ⟨_, rfl⟩
  rw [← hV0] at P0 N ⊢
  clear hV0 hes
  replace TT := TT.up N
  replace CC := CC.up N
  go_enter Tryd.func98, Tryd.ntmps98
  go_upto_region 1 with fail
  generalize w.alloc (.cells V0 58) = wr at *
  refine region_new2 8 6 2 3 7 7 5 4 10 _ _ (fun i => [Fact.eq (.pointer (some ⟨w.heap.size, 0, none⟩)), EM (X), EM ((X) * (X)), Fact.eq (.pointer (some ⟨w.heap.size, 5, none⟩)), EM (Y), EM ((Y) * (Y)), NB wr 5, NB wr 5].getD i Fact.no) ((X) * (X)) ((Y) * (Y)) (by kernel_rfl) rfl rfl rfl rfl rfl rfl rfl rfl rfl (by kernel_rfl) (by kernel_rfl) (by kernel_rfl) (by kernel_rfl) rfl rfl rfl rfl (by decide) (fresh_new5 rfl rfl rfl) (fresh_new5 rfl rfl rfl) ?_ ?_
  · intro i hi
    obtain rfl | rfl | rfl | rfl | rfl | rfl | rfl | rfl : i = 0 ∨ i = 1 ∨ i = 2 ∨ i = 3 ∨ i = 4 ∨ i = 5 ∨ i = 6 ∨ i = 7 := by omega
    · exact step_fld rfl 58 1 0 rfl (by kernel_rfl) _ _ rfl (fxA _) rfl
    · exact step_e5f rfl 5 0 rfl (by kernel_rfl) _ _ rfl _ P0.at0 rfl
    · exact step_sq5 rfl 6 1 _ rfl (by kernel_rfl) rfl rfl
    · exact step_fld rfl 58 1 1 rfl (by kernel_rfl) _ _ rfl (fyA _) rfl
    · exact step_e5f rfl 8 3 rfl (by kernel_rfl) _ _ rfl _ P0.tail.at0 rfl
    · exact step_sq5 rfl 9 4 _ rfl (by kernel_rfl) rfl rfl
    · exact step_new5 rfl rfl rfl
    · exact step_new5 rfl rfl rfl
  intro vs1 q3 q4 W1 v3 v4 l3 l4 n55 n E3 E4
  replace TT := TT.up n
  replace CC := CC.up n
  replace N := nxt N n
  clear n n55 P0
  simp only [puts, v3, v4, Act.put, List.setIfInBounds_toArray, List.set_cons_succ, List.set_cons_zero]
  clear v3 v4
  go_upto_region 2 with fail
  refine region_end 12 (fun i => [EM ((Y) * (Y)), EM ((X) * (X)), EM (((Y) * (Y)) - ((X) * (X))), EM (1), EM (D), EM ((X) * (X)), EM ((D) * ((X) * (X))), EM ((Y) * (Y)), EM (((D) * ((X) * (X))) * ((Y) * (Y))), EM ((1) + (((D) * ((X) * (X))) * ((Y) * (Y)))), Fact.eq (.bool (decide ((((Y) * (Y)) - ((X) * (X))) % PP = ((1) + (((D) * ((X) * (X))) * ((Y) * (Y)))) % PP))), Fact.eq (.bool (decide ((((Y) * (Y)) - ((X) * (X))) % PP = ((1) + (((D) * ((X) * (X))) * ((Y) * (Y)))) % PP)))].getD i Fact.no) (by kernel_rfl) (by kernel_rfl) rfl ?_ ?_
  · intro i hi
    obtain rfl | rfl | rfl | rfl | rfl | rfl | rfl | rfl | rfl | rfl | rfl | rfl : i = 0 ∨ i = 1 ∨ i = 2 ∨ i = 3 ∨ i = 4 ∨ i = 5 ∨ i = 6 ∨ i = 7 ∨ i = 8 ∨ i = 9 ∨ i = 10 ∨ i = 11 := by omega
    · exact step_e5 rfl 4 rfl (by kernel_rfl) _ _ rfl _ E4 rfl
    · exact step_e5 rfl 3 rfl (by kernel_rfl) _ _ rfl _ E3 rfl
    · exact step_sub5 TT rfl 11 12 0 1 _ _ rfl (by kernel_rfl) (by kernel_rfl) rfl rfl rfl
    · exact step_b5 rfl 1 (by omega) rfl rfl
    · exact step_gl5 rfl 2 rfl _ CC rfl
    · exact step_e5 rfl 3 rfl (by kernel_rfl) _ _ rfl _ E3 rfl
    · exact step_mul5 rfl 15 16 4 5 _ _ rfl (by kernel_rfl) (by kernel_rfl) rfl rfl rfl
    · exact step_e5 rfl 4 rfl (by kernel_rfl) _ _ rfl _ E4 rfl
    · exact step_mul5 rfl 17 18 6 7 _ _ rfl (by kernel_rfl) (by kernel_rfl) rfl rfl rfl
    · exact step_add5 rfl 14 19 3 8 _ _ rfl (by kernel_rfl) (by kernel_rfl) rfl rfl rfl
    · exact step_eq5 rfl 13 20 2 9 _ _ rfl (by kernel_rfl) (by kernel_rfl) rfl rfl rfl
    · exact step_move rfl 21 10 (by exact Or.inr rfl) (by kernel_rfl) rfl
  intro A W hb hw hF
  have e2 := hF 11 2 (by kernel_rfl)
  obtain ⟨vs, hvs⟩ : ∃ vs : Nat → Value, ∀ d, A.tmps.getD d undef = vs d := ⟨_, fun _ => rfl⟩
  rw [hvs] at e2
  rw [puts_of (md := .any) (k := 12) (by kernel_rfl) rfl hb vs hvs]
  have N9 := nxt N hw
  clear hb hF hvs hw
  have e3 : vs 2 = .bool (onB D X Y) := e2
  clear e2
  simp only [puts, e3, Act.put, List.setIfInBounds_toArray, List.set_cons_succ, List.set_cons_zero]
  go_wp2
  go_ret
  exact ⟨rfl, N9⟩
section
variable {ops : Array Oper} {Q : Exit → Act → World → Prop} {md : Region.Mode} {F : Nat → Fact} {a0 : Act} {w0 : World} {i : Nat} {o : Oper} {ts : Array TypeId}
theorem step_re (hi : ops[i]? = some o) (p j : Nat) {a : Option Addr} {c : Nat} {xs : List Int} (hop : o.op = .call { callee := .value (.func 97), args := #[.tmp p], argTypes := ts })
    (hj : waits md ops i j p = true) (hO : OfOk w0 a xs) (hFj : F j = Fact.eq (.slice a xs.length c)) (hFi : F i = EM (num xs)) : StepOk Tryd.prog md ops Q F a0 w0 i := by
  obtain ⟨g, hr, hb, hl⟩ := hO
  refine step_call hi _ _ ts hop (by kernel_rfl) fun A w _ hw hF => ?_
  have ea := hF j p hj
  rw [hFj] at ea
  show Calls Tryd.prog 97 #[A.tmps.getD p undef] w _
  have e1 : A.tmps.getD p undef = .slice a 32 c := by rw [← hl]; exact ea
  rw [e1]
  refine (readElement_any w g a c xs (hr.up hw) hb hl).mono ?_
  rintro r w' ⟨rfl, n⟩
  rw [hFi]
  exact ⟨_, rfl, n, elt xs, rfl, elt_ok hb hl⟩
theorem step_ion (TT : HasTw w0 3) {D : Int} (CC : Em5 w0 2 0 D) (hi : ops[i]? = some o) (p j : Nat) (A B : Int) (hop : o.op = .call { callee := .value (.func 98), args := #[.tmp p], argTypes := ts })
    (hj : waits md ops i j p = true) (hFj : F j = EN [A, B]) (hFi : F i = Fact.eq (.bool (onB D A B))) : StepOk Tryd.prog md ops Q F a0 w0 i := by
  refine step_call hi _ _ ts hop (by kernel_rfl) fun a w _ hw hF => ?_
  have ea := hF j p hj
  rw [hFj] at ea
  obtain ⟨t, e1, L1⟩ := ea
  show Calls Tryd.prog 98 #[a.tmps.getD p undef] w _
  rw [e1]
  refine (isOn_any w t D A B L1 (TT.up hw) (CC.up hw)).mono ?_
  rintro r w' ⟨rfl, hn⟩
  rw [hFi]
  exact ⟨_, rfl, hn, rfl⟩
end
/-- What readPoint reads: the coordinates, or zeros. -/
def rpC (xs ys : List Int) : Bool := canN xs && canN ys
def rpX (xs ys : List Int) : Int := if rpC xs ys = true then num xs else 0
def rpY (xs ys : List Int) : Int := if rpC xs ys = true then num ys else 0
def rpB (D : Int) (xs ys : List Int) : Bool := rpC xs ys && onB D (num xs) (num ys)
set_option maxHeartbeats 4000000 in
theorem readPoint_any (w : World) (g g' : Nat) (a a' : Option Addr) (c c' : Nat) (xs ys : List Int) (hx : Rd w g a .u8 xs) (hy : Rd w g' a' .u8 ys) (bx : Byt xs) (by' : Byt ys) (D : Int) (TT : HasTw w 3) (CC : Em5 w 2 0 D) :
    Calls Tryd.prog 60 #[.agg #[.slice a xs.length c, .slice a' ys.length c']] w fun r w' => ∃ es, r = .returned (.tuple #[agN es, .bool (rpB D xs ys)]) ∧ IsN es [rpX xs ys, rpY xs ys] ∧ Below w.heap.size w w' := by
  have T := two_cells w (.slice a xs.length c) (.slice a' ys.length c') 24
  have m1 : Below w.heap.size w (w.alloc (.cells #[.slice a xs.length c, .slice a' ys.length c'] 24)) := (Below.refl _ _).alloc (Nat.le_refl _) _
  have s1 : (w.alloc (.cells #[.slice a xs.length c, .slice a' ys.length c'] 24)).heap.size = w.heap.size + 1 := by simp
  have CN := fun W h => implFieldCanonical_any W g a c xs h bx
  have CM := fun W h => implFieldCanonical_any W g' a' c' ys h by'
  obtain ⟨CX, CY⟩ := T
  go_enter Tryd.func60, Tryd.ntmps60
  go_upto_region 1 with fail
  generalize w.alloc (.cells #[.slice a xs.length c, .slice a' ys.length c'] 24) = wa at *
  have TR : (wa.alloc zA).there wa.heap.size 0 10 := there_new wa _ _
  have RZ : RowN (wa.alloc zA) wa.heap.size 0 [0, 0] := rowN_new wa 58 (es := [sm5 0, sm5 0]) ⟨sm5_ok (by omega) (by omega), sm5_ok (by omega) (by omega), trivial⟩
  have mz : Below wa.heap.size wa (wa.alloc zA) := (Below.refl _ _).alloc (Nat.le_refl _) _
  rw [s1] at TR RZ
  have N := nxt m1 mz
  replace CX := (mz.cell (block_lt_of_cell CX)).trans CX
  replace CY := (mz.cell (block_lt_of_cell CY)).trans CY
  obtain ⟨wr, hwr⟩ : ∃ W, W = wa.alloc zA := ⟨_, rfl⟩
  rw [← hwr] at TR RZ N CX CY
  change Code.wp _ _ _ _ (wa.alloc zA)
  rw [← hwr]
  clear hwr m1 mz s1
  have RX := hx.up N
  have RY := hy.up N
  clear hx hy
  replace TT := TT.up N
  replace CC := CC.up N
  have bad : rpC xs ys = false → rpB D xs ys = false ∧ rpX xs ys = 0 ∧ rpY xs ys = 0 := fun h => by
    unfold rpB rpX rpY
    rw [h]
    simp
  have BAD := hide bad
  clear bad
  cases hk : canN xs with
  | false =>
    obtain ⟨b1, b2, b3⟩ := BAD.out (by unfold rpC; rw [hk]; rfl)
    simp only [hk] at CN
    go_wp2_with fail
    refine (CN wr RX).mono ?_
    rintro e w1 ⟨rfl, n1⟩
    replace N := nxt N n1
    replace RZ := RZ.up n1
    replace TR := there_up (by omega) TR n1
    clear CN CM n1 CX CY RX RY TT CC
    go_upto_region 2 with fail
    refine region_putN_asgc 58 1 0 2 15 3 _ _ (fun i => [EN [0, 0]].getD i Fact.no) [0, 0] (.bool false) _ (by kernel_rfl) rfl rfl rfl rfl rfl rfl iA (Nat.zero_lt_succ _) (by kernel_rfl) rfl TR rfl (by kernel_rfl) rfl (by kernel_rfl) ?_ ?_
    · intro i hi
      obtain rfl : i = 0 := by omega
      exact step_b0A rfl rfl rfl
    intro vs4 Wa Wb vb na bq RL nb
    have NS := nb w w.heap.size (nxt N na) (by omega)
    simp only [puts, vb, Act.put, List.setIfInBounds_toArray, List.set_cons_succ, List.set_cons_zero]
    clear vb bq nb na N TR RZ
    go_wp2
    obtain ⟨es, rg, _, ht⟩ := RL
    have lz := clN_len ht
    obtain ⟨fs, hfs⟩ := uA
    exact bodyPost_ret (v := .tuple #[agN es, .bool false]) (results_cell_slot Tryd.results60 _ _ (w.heap.size + 1) (clN es) _ rfl rfl rg hfs rfl (by rw [lz]; exact iA)) rfl ⟨es, by rw [b1], by rw [b2, b3]; exact ht, NS⟩
  | true =>
    simp only [hk] at CN
    go_wp2_with fail
    refine (CN wr RX).mono ?_
    rintro e w1 ⟨rfl, n1⟩
    replace N := nxt N n1
    replace RZ := RZ.up n1
    replace TR := there_up (by omega) TR n1
    replace RX := RX.up n1
    replace RY := RY.up n1
    replace CX := (n1.cell (block_lt_of_cell CX)).trans CX
    replace CY := (n1.cell (block_lt_of_cell CY)).trans CY
    replace TT := TT.up n1
    replace CC := CC.up n1
    clear CN n1
    cases hl : canN ys with
    | false =>
      obtain ⟨b1, b2, b3⟩ := BAD.out (by unfold rpC; rw [hk, hl]; rfl)
      simp only [hl] at CM
      go_wp2_with fail
      refine (CM w1 RY).mono ?_
      rintro e w2 ⟨rfl, n1⟩
      replace N := nxt N n1
      replace RZ := RZ.up n1
      replace TR := there_up (by omega) TR n1
      clear CM n1 CX CY RX RY TT CC
      go_upto_region 2 with fail
      refine region_putN_asgc 58 1 0 2 15 3 _ _ (fun i => [EN [0, 0]].getD i Fact.no) [0, 0] (.bool false) _ (by kernel_rfl) rfl rfl rfl rfl rfl rfl iA (Nat.zero_lt_succ _) (by kernel_rfl) rfl TR rfl (by kernel_rfl) rfl (by kernel_rfl) ?_ ?_
      · intro i hi
        obtain rfl : i = 0 := by omega
        exact step_b0A rfl rfl rfl
      intro vs4 Wa Wb vb na bq RL nb
      have NS := nb w w.heap.size (nxt N na) (by omega)
      simp only [puts, vb, Act.put, List.setIfInBounds_toArray, List.set_cons_succ, List.set_cons_zero]
      clear vb bq nb na N TR RZ
      go_wp2
      obtain ⟨es, rg, _, ht⟩ := RL
      have lz := clN_len ht
      obtain ⟨fs, hfs⟩ := uA
      exact bodyPost_ret (v := .tuple #[agN es, .bool false]) (results_cell_slot Tryd.results60 _ _ (w.heap.size + 1) (clN es) _ rfl rfl rg hfs rfl (by rw [lz]; exact iA)) rfl ⟨es, by rw [b1], by rw [b2, b3]; exact ht, NS⟩
    | true =>
      have RC : rpC xs ys = true := by unfold rpC; rw [hk, hl]; rfl
      have b1 : rpB D xs ys = onB D (num xs) (num ys) := by unfold rpB; rw [RC]; rfl
      have b2 : rpX xs ys = num xs := by unfold rpX; rw [if_pos RC]
      have b3 : rpY xs ys = num ys := by unfold rpY; rw [if_pos RC]
      replace b1 := hide b1
      replace b2 := hide b2
      replace b3 := hide b3
      have OX := hide (fun W (n : Below w1.heap.size w1 W) => of_ok (RX.up n) bx (can_len hk))
      have OY := hide (fun W (n : Below w1.heap.size w1 W) => of_ok (RY.up n) by' (can_len hl))
      simp only [hl] at CM
      clear hk hl RC BAD
      go_wp2_with fail
      refine (CM w1 RY).mono ?_
      rintro e w2 ⟨rfl, n1⟩
      replace N := nxt N n1
      replace TR := there_up (by omega) TR n1
      replace OX := hide (OX.out w2 n1)
      replace OY := hide (OY.out w2 n1)
      replace CX := (n1.cell (block_lt_of_cell CX)).trans CX
      replace CY := (n1.cell (block_lt_of_cell CY)).trans CY
      replace TT := TT.up n1
      replace CC := CC.up n1
      clear CM n1 RX RY RZ
      go_upto_region 3 with fail
      refine region_newN 58 8 7 6 4 22 _ (fun i => [Fact.eq (.pointer (some ⟨w.heap.size, 0, none⟩)), Fact.eq (.slice a xs.length c), EM (num xs), Fact.eq (.pointer (some ⟨w.heap.size, 1, none⟩)), Fact.eq (.slice a' ys.length c'), EM (num ys), EN [num xs, num ys], NB w2 10].getD i Fact.no) [num xs, num ys] (by kernel_rfl) rfl rfl rfl iA (Nat.zero_lt_succ _) (by kernel_rfl) (by kernel_rfl) rfl rfl ?_ ?_
      · intro i hi
        obtain rfl | rfl | rfl | rfl | rfl | rfl | rfl | rfl : i = 0 ∨ i = 1 ∨ i = 2 ∨ i = 3 ∨ i = 4 ∨ i = 5 ∨ i = 6 ∨ i = 7 := by omega
        · exact step_fld rfl 24 1 0 rfl (by kernel_rfl) _ _ rfl (fxP _) rfl
        · exact step_lds rfl 16 0 rfl (by kernel_rfl) _ _ rfl _ _ _ CX rfl
        · exact step_re rfl 17 1 rfl (by kernel_rfl) OX.out rfl rfl
        · exact step_fld rfl 24 1 1 rfl (by kernel_rfl) _ _ rfl (fyP _) rfl
        · exact step_lds rfl 19 3 rfl (by kernel_rfl) _ _ rfl _ _ _ CY rfl
        · exact step_re rfl 20 4 rfl (by kernel_rfl) OY.out rfl rfl
        · exact step_bA rfl 18 21 2 5 _ _ rfl (by kernel_rfl) (by kernel_rfl) rfl rfl rfl
        · exact step_newA rfl rfl rfl
      intro vs3 q4 W3 v4 l4 n E4 T4
      replace TT := TT.up n
      replace CC := CC.up n
      replace N := nxt N n
      replace TR := there_up (by omega) TR n
      clear n T4 CX CY OX OY
      simp only [puts, v4, Act.put, List.setIfInBounds_toArray, List.set_cons_succ, List.set_cons_zero]
      clear v4
      go_upto_region 4 with fail
      refine region_putN_asg 58 3 0 2 23 2 25 3 _ _ (fun i => [EN [num xs, num ys], EN [num xs, num ys], Fact.eq (.bool (onB D (num xs) (num ys)))].getD i Fact.no) [num xs, num ys] (.bool (onB D (num xs) (num ys))) _ (by kernel_rfl) rfl rfl rfl rfl rfl rfl iA (Nat.zero_lt_succ _) (by kernel_rfl) rfl TR rfl rfl (by kernel_rfl) (by kernel_rfl) rfl rfl (by kernel_rfl) ?_ ?_
      · intro i hi
        obtain rfl | rfl | rfl : i = 0 ∨ i = 1 ∨ i = 2 := by omega
        · exact step_lA rfl 4 rfl (by kernel_rfl) _ rfl _ _  E4 rfl
        · exact step_lA rfl 4 rfl (by kernel_rfl) _ rfl _ _  E4 rfl
        · exact step_ion TT CC rfl 24 1 _ _ rfl (by kernel_rfl) rfl rfl
      intro vs4 Wa Wb vb na bq RL nb
      have NS := nb w w.heap.size (nxt N na) (by omega)
      simp only [puts, vb, Act.put, List.setIfInBounds_toArray, List.set_cons_succ, List.set_cons_zero]
      clear vb bq nb na N TR E4 TT CC
      go_wp2
      obtain ⟨es, rg, _, ht⟩ := RL
      have lz := clN_len ht
      obtain ⟨fs, hfs⟩ := uA
      exact bodyPost_ret (v := .tuple #[agN es, .bool (onB D (num xs) (num ys))]) (results_cell_slot Tryd.results60 _ _ (w.heap.size + 1) (clN es) _ rfl rfl rg hfs rfl (by rw [lz]; exact iA)) rfl ⟨es, by rw [b1.out], by rw [b2.out, b3.out]; exact ht, NS⟩
end Go.Proofs.YthapcapiiknjdaaDoor

/-
  The program's factor of the curve is the model's, its points are the model's points. Numbers alone.
-/
namespace Go.Proofs.YthapcapiiknjdaaDoor
set_option maxRecDepth 100000

/-- The limbs of the program's factor. -/
def dL : Nat → Int
  | 0 => 929955233495203
  | 1 => 466365720129213
  | 2 => 1662059464998953
  | 3 => 2033849074728123
  | 4 => 1442794654840575
  | _ => 0
theorem dL_lm : Lm dL := by unfold Lm; decide
def dGo : Int := 37095705934669439343138083508754565189542113879843219016388785533085940283555
theorem dL_is : Is5 dL dGo := ⟨dL_lm, by decide +kernel⟩
theorem dGo_is : PP ∣ dGo - d0 := by decide +kernel
theorem onB_valid (x y : Int) : onB dGo x y = validN x y := by
  have h : (1 + dGo * (x * x) * (y * y)) % PP = (1 + dE * (x * x * (y * y))) % PP := by
    have k := dE_is
    have l := dGo_is
    refine cong_dvd ?_
    generalize dE = E at *
    generalize dGo = G at *
    generalize d0 = d at *
    exact dv2 l k (c1 := x * x * (y * y)) (c2 := -(x * x * (y * y))) (by grind)
  unfold onB validN
  rw [h]
theorem rp_valid (xs ys : List Int) : rpB dGo xs ys = validP xs ys := by
  unfold rpB validP rpC
  rw [onB_valid]
theorem rpC_of {xs ys : List Int} (h : validP xs ys = true) : rpC xs ys = true := by
  unfold validP at h
  unfold rpC
  simp only [Bool.and_eq_true] at h ⊢
  exact h.1
theorem rpX_of {xs ys : List Int} (h : validP xs ys = true) : rpX xs ys = num xs := by unfold rpX; rw [if_pos (rpC_of h)]
theorem rpY_of {xs ys : List Int} (h : validP xs ys = true) : rpY xs ys = num ys := by unfold rpY; rw [if_pos (rpC_of h)]
theorem on_of {xs ys : List Int} (h : validP xs ys = true) : OnP PP (-1) d0 (num xs, num ys) := by
  unfold validP at h
  simp only [Bool.and_eq_true] at h
  exact valid_on h.2
end Go.Proofs.YthapcapiiknjdaaDoor
