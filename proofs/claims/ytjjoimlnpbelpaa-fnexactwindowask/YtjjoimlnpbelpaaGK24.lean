import Derived.Test.YtjjoimlnpbelpaaGK23

/-
  Windows that are asked: the model's copy of a window (written by gens/wao.py).
-/
namespace Go.Proofs.Ytjjoimlnpbelpaa
open Go Go.RowKit

section
variable {P : Program} {ops : Array Oper} {Q : Exit → Act → World → Prop}
set_option maxRecDepth 100000 in
theorem region_appS {a0 : Act} {id : Nat} {draw : Bool} {w : World} (k jR jS pR pS dA dF : Nat) (t : TypeId) (o o1 o2 : Oper) (F : Nat → Fact) (GS : Fact) (vr : Value) (q1 f1 : Nat) (R : Value → World → Prop) (hm : P.follows .mixedOrders = true) (hT : textTail .any draw ops a0.tmps.size k = true) (hk : ops.toList.drop k = [o, o1, o2]) (ho : ops[k]? = some o) (ho1 : ops[k + 1]? = some o1)
    (hop : o.op = .call { callee := .builtin .append, args := #[.tmp pR, .tmp pS], argTypes := #[t, t] }) (hty : o.type = t) (hd : o.dst = some dA) (hd1 : o1.dst = some dF) (hne : dA ≠ dF) (sA : dA < a0.tmps.size) (sF : dF < a0.tmps.size)
    (hop1 : ∀ a W, Based ops a0 a → (execOp a.eval o1).run P W = .ok (.value (.pointer (some ⟨q1, f1, none⟩))) W)
    (hst : ∀ a W v', a.tmps.getD dF undef = .pointer (some ⟨q1, f1, none⟩) → a.tmps.getD dA undef = v' → R v' W → Q .normal a (W.setCell ⟨q1, f1, none⟩ v') → o2.wp P a W (fun a'' w3 => Q .normal a'' w3) Q)
    (wR : decide (jR < k) = true ∧ writes ops jR pR = true) (FR : F jR = Fact.eq vr) (wS : decide (jS < k) = true ∧ writes ops jS pS = true) (FS : F jS = GS) (steps : ∀ i, i < k → StepOk P .any ops Q F a0 w i)
    (hA : ∀ W vS, Below w.heap.size w W → GS.p vS W → ∃ v' w', (Builtin.append_ #[t, t] t #[vr, vS]).run P W = .ok v' w' ∧ R v' w')
    (fin : ∀ (vs : Nat → Value) (W : World) (v' : Value), R v' W → Q .normal (puts vs a0 ops.toList) (W.setCell ⟨q1, f1, none⟩ v')) : (Code.region id ops draw).wp P Q a0 w := by
  refine region_tail k F hm hT steps [] (by simp) (by simp) fun a W hb hw hf _ => ?_
  rw [hk]
  show o.wp P a W (fun a' w' => o1.wp P a' w' (fun a'' w'' => o2.wp P a'' w'' (fun a3 w3 => Q .normal a3 w3) Q) Q) Q
  have e1 := hf jR pR wR.1 wR.2
  rw [FR] at e1
  have e2 := hf jS pS wS.1 wS.2
  rw [FS] at e2
  obtain ⟨v', w', hr, hR⟩ := hA W _ hw e2
  have e1' : a.tmps.getD pR undef = vr := e1
  refine Lib.wp_append_run W (.tmp pR) (.tmp pS) t t hop vr (a.tmps.getD pS undef) e1' rfl v' w' (by rw [hty]; exact hr) ?_
  have hb1 := Based.put hb ho v'
  have r1 := hop1 _ w' hb1
  unfold Oper.wp
  rw [r1, Oper.upon_value]
  have hb2 := Based.put hb1 ho1 (.pointer (some ⟨q1, f1, none⟩))
  have sz1 : (a.put o.dst v').tmps.size = a0.tmps.size := hb1.2.1
  have x1 : ((a.put o.dst v').put o1.dst (.pointer (some ⟨q1, f1, none⟩))).tmps.getD dF undef = .pointer (some ⟨q1, f1, none⟩) := by
    rw [hd1]
    exact put_at (by rw [sz1]; exact sF)
  have x2 : ((a.put o.dst v').put o1.dst (.pointer (some ⟨q1, f1, none⟩))).tmps.getD dA undef = v' := by
    rw [put_off (by rw [hd1]; simpa using Ne.symm hne), hd]
    exact put_at (by rw [hb.2.1]; exact sA)
  refine hst _ w' v' x1 x2 hR ?_
  obtain ⟨vs, hvs⟩ : ∃ vs : Nat → Value, ∀ d, ((a.put o.dst v').put o1.dst (.pointer (some ⟨q1, f1, none⟩))).tmps.getD d undef = vs d := ⟨_, fun _ => rfl⟩
  rw [puts_tail hT rfl hb2 vs hvs]
  exact fin vs w' v' hR
end
set_option maxRecDepth 100000 in
/-- A row that was copied; a mark that was built; a row of one mark. -/
def CRm (b : Nat) (D : List Int) : Fact := ⟨fun v w => RowB w b v D, fun n h => h.up n⟩
set_option maxRecDepth 100000 in
def CKm (b : Nat) (k : Int) (D : List Int) : Fact := ⟨fun v w => ∃ a c, v = .agg #[.slice a D.length c, .int .i64 k] ∧ RowB w b (.slice a D.length c) D, fun n h => by
  obtain ⟨a, c, e, r⟩ := h
  exact ⟨a, c, e, r.up n⟩⟩
set_option maxRecDepth 100000 in
def NBm (b : Nat) (x : Int) (D : List Int) : Fact := ⟨fun v w => ∃ p a c, v = .slice (some ⟨p, 0, none⟩) 1 1 ∧ RwC w p [.slice a D.length c, .int .i64 x] 46 ∧ RowB w b (.slice a D.length c) D, fun n h => by
  obtain ⟨p, a, c, e, r, q⟩ := h
  exact ⟨p, a, c, e, r.up n, q.up n⟩⟩
set_option maxRecDepth 100000 in
set_option maxHeartbeats 1000000 in
theorem l1CopyM_any (w : World) (g : Nat) (a : Option Addr) (c : Nat) (xs : List Int) (hr : Rd w g a .u8 xs) (hc : a = none → c = 0) (hn : xs.length ≤ 1099511627776) :
    Calls Try.prog 20 #[.slice a xs.length c] w fun e w' => ∃ v, e = .returned v ∧ RowB w' w.heap.size v xs ∧ Below w.heap.size w w' := by
  obtain ⟨i0, hi, hz0, hz1, hz2⟩ := info_parts Try.info5
  have hal : Below w.heap.size w (w.alloc (.cells #[] 5)) := (Below.refl _ _).alloc (Nat.le_refl _) _
  obtain ⟨v', w2, hap, o2, n2⟩ := append_any (P := Try.prog) (w.alloc (.cells #[] 5)) 25 i0 Try.underlying25 hi hz0 hz1 hz2 w.heap.size w.heap.size _ [] (RowB.lit0 w) g a c xs (hr.up hal) hc (by simp; omega) (Nat.le_refl _) (by simp)
  rw [List.nil_append] at o2
  go_enter Try.func20, Try.ntmps20
  go_wp2_with (at_builtin; refine Lib.wpList_append_run _ rfl _ _ 25 25 rfl _ _ rfl rfl _ _ hap ?_)
  go_ret
  exact ⟨_, rfl, o2, hal.trans n2⟩
set_option maxRecDepth 100000 in
theorem entsTo_succ (ms : List Mrk) (k : Nat) : entsTo ms (k + 1) = entsTo ms k ++ [⟨(ms.getD k mrk0).id, (k : Int), (ms.getD k mrk0).un⟩] := by
  unfold entsTo
  rw [List.range_succ, List.map_append, List.map_cons, List.map_nil]
set_option maxRecDepth 100000 in
theorem mkOf_app (E : List Ent) (e : Ent) : mkOf (E ++ [e]) = mkOf E ++ [(e.un, e.id)] := by simp [mkOf]
set_option maxRecDepth 100000 in
theorem iWi : (Try.prog.info? 29).map (·.size) = some 2 := by kernel_rfl
set_option maxRecDepth 100000 in
theorem rowWi : ∃ d, Try.prog.underlying 29 = some d ∧ d.isRow = true := ⟨_, Try.underlying29, rfl⟩
/-- Where the copy's loop stands: s is the copy's box, z the answer's, B the end of what was there then. -/
structure CwS (w wr : World) (p z s B : Nat) (wd : Int) (pv : Value) (its : List (Int × List Int)) (bs : List Plc) (v : Value) : Prop where
  R : IRow wr B v its bs
  P : RwC wr p [.int .i64 wd, pv] 29
  Z : RwC wr z [.int .i64 0, .slice none 0 0] 29
  S : RwC wr s [.int .i64 wd, v] 29
  N : Below w.heap.size w wr
  B1 : B ≤ wr.heap.size
  B2 : s < B ∧ z < B ∧ p < B ∧ s ≠ z ∧ s ≠ p ∧ w.heap.size ≤ s
set_option maxRecDepth 100000 in
theorem CwS.app {w wr : World} {p z s B : Nat} {wd : Int} {pv : Value} {its : List (Int × List Int)} {bs : List Plc} {v : Value} (h : CwS w wr p z s B wd pv its bs v) {w9 : World} (b9 : Below wr.heap.size wr w9) {p0 : Nat} {x : Int} {D : List Int} {ad : Option Addr} {cd : Nat} (hp : RwC w9 p0 [.slice ad D.length cd, .int .i64 x] 46) (hR : RowB w9 wr.heap.size (.slice ad D.length cd) D) (hl : its.length ≤ 1000) :
    ∃ v' w4, (Builtin.append_ #[27, 27] 27 #[v, .slice (some ⟨p0, 0, none⟩) 1 1]).run Try.prog w9 = .ok v' w4 ∧ w4.cell? ⟨s, 1, none⟩ = some v ∧ w4.frozen? ⟨s, 1, none⟩ = false ∧
      ∃ bs', CwS w (w4.setCell ⟨s, 1, none⟩ v') p z s B wd pv (its ++ [(x, D)]) bs' v' := by
  obtain ⟨a, c, gd, ev', O1, O2, O3, O4⟩ := hR.own
  simp only [Value.slice.injEq, true_and] at ev'
  obtain ⟨rfl, rfl⟩ := ev'
  have LI : Lie w9 D ⟨ad, cd, gd⟩ := ⟨O1, O2, O3⟩
  have R9 := h.R.of (w' := w9) (fun i hi _ => b9.block i hi)
  have z9 := b9.size
  have hB1 := h.B1
  obtain ⟨hs, hz, hpB, hsz, hsp, hw⟩ := h.B2
  obtain ⟨v', w4, r1, r2, r3, r4, -⟩ := R9.appQ (x, D) ⟨ad, cd, gd⟩ p0 hp (by omega) LI wr.heap.size (by omega) (fun i hi h0 => h.R.lt hi h0) (fun i hi => (h.R.o.lt i hi).2) O4 (by omega)
  have S4 : RwC w4 s [.int .i64 wd, v] 29 := (r4.block _ hs).trans (h.S.up b9)
  have Z4 : RwC w4 z [.int .i64 0, .slice none 0 0] 29 := (r4.block _ hz).trans (h.Z.up b9)
  have P4 : RwC w4 p [.int .i64 wd, pv] 29 := (r4.block _ hpB).trans (h.P.up b9)
  have O5 := Only.setCell w4 s 1 v'
  have sz4 : B ≤ w4.heap.size := by have := r4.size; omega
  exact ⟨v', w4, r1, S4.c1, S4.free 1, _, ⟨r2.of (fun i hi hB => O5.block i (by omega)), P4.onl O5 (Ne.symm hsp), Z4.onl O5 (Ne.symm hsz), S4.set 1 v', ((h.N.trans (b9.mono h.N.size)).trans (r4.mono (by omega))).trans (O5.below hw), by rw [O5.size]; exact sz4, h.B2⟩⟩
set_option maxRecDepth 100000 in
theorem RwC.at_cell {w : World} {q : Nat} {x y : Value} {t : TypeId} (h : RwC w q [x, y] t) : w.cell? ⟨q, 0, none⟩ = some x ∧ w.cell? ⟨q, 1, none⟩ = some y := ⟨h.c0, h.c1⟩
set_option maxRecDepth 100000 in
set_option maxHeartbeats 8000000 in
theorem specCopy_any (w : World) (wd : Int) (g : Nat) (a : Option Addr) (c : Nat) (ms : List Mrk) (ps : List Plm) (hr : RdK w g a ms ps) (hn : ms.length ≤ 64) (h32 : ∀ i, i < ms.length → (ms.getD i mrk0).id.length = 32) :
    Calls Try.prog 18 #[.agg #[.int .i64 wd, .slice a ms.length c]] w fun e w' => (∃ v bs, e = .returned (.agg #[.int .i64 wd, v]) ∧ IRow w' w.heap.size v (mkOf (entsTo ms ms.length)) bs) ∧ Below w.heap.size w w' := by
  obtain ⟨d1, hd1, hrow1⟩ := rowWi
  have n0 : Below w.heap.size w (((w.alloc (.cells #[.int .i64 wd, .slice a ms.length c] 29)).alloc (.cells #[.int .i64 0, .slice none 0 0] 29)).alloc (.cells #[.int .i64 wd, .slice none 0 0] 29)) := (((Below.refl _ _).alloc (Nat.le_refl _) _).alloc (by simp) _).alloc (by simp; omega) _
  have z1 : (w.alloc (.cells #[.int .i64 wd, .slice a ms.length c] 29)).heap.size = w.heap.size + 1 := by simp
  have z2 : ((w.alloc (.cells #[.int .i64 wd, .slice a ms.length c] 29)).alloc (.cells #[.int .i64 0, .slice none 0 0] 29)).heap.size = w.heap.size + 2 := by simp
  have z3 : (((w.alloc (.cells #[.int .i64 wd, .slice a ms.length c] 29)).alloc (.cells #[.int .i64 0, .slice none 0 0] 29)).alloc (.cells #[.int .i64 wd, .slice none 0 0] 29)).heap.size = w.heap.size + 3 := by simp
  have P0 : RwC (((w.alloc (.cells #[.int .i64 wd, .slice a ms.length c] 29)).alloc (.cells #[.int .i64 0, .slice none 0 0] 29)).alloc (.cells #[.int .i64 wd, .slice none 0 0] 29)) w.heap.size [.int .i64 wd, .slice a ms.length c] 29 := ((RwC.new w _ _).push _).push _
  have Z0 : RwC (((w.alloc (.cells #[.int .i64 wd, .slice a ms.length c] 29)).alloc (.cells #[.int .i64 0, .slice none 0 0] 29)).alloc (.cells #[.int .i64 wd, .slice none 0 0] 29)) (w.heap.size + 1) [.int .i64 0, .slice none 0 0] 29 := by
    have h := RwC.new (w.alloc (.cells #[.int .i64 wd, .slice a ms.length c] 29)) [.int .i64 0, .slice none 0 0] 29
    rw [z1] at h
    exact h.push _
  have S0 : RwC (((w.alloc (.cells #[.int .i64 wd, .slice a ms.length c] 29)).alloc (.cells #[.int .i64 0, .slice none 0 0] 29)).alloc (.cells #[.int .i64 wd, .slice none 0 0] 29)) (w.heap.size + 2) [.int .i64 wd, .slice none 0 0] 29 := by
    have h := RwC.new ((w.alloc (.cells #[.int .i64 wd, .slice a ms.length c] 29)).alloc (.cells #[.int .i64 0, .slice none 0 0] 29)) [.int .i64 wd, .slice none 0 0] 29
    rwa [z2] at h
  have ST : Hid (∃ bs, CwS w (((w.alloc (.cells #[.int .i64 wd, .slice a ms.length c] 29)).alloc (.cells #[.int .i64 0, .slice none 0 0] 29)).alloc (.cells #[.int .i64 wd, .slice none 0 0] 29)) w.heap.size (w.heap.size + 1) (w.heap.size + 2) (w.heap.size + 3) wd (.slice a ms.length c) (mkOf (entsTo ms 0)) bs (.slice none 0 0)) := ⟨[], IRow.nil _ _, P0, Z0, S0, n0, by rw [z3]; exact Nat.le_refl _, by omega⟩
  have c0 := P0.c0
  have HR := hide hr
  have H32 := hide h32
  have HN := hide hn
  clear n0 P0 Z0 S0 z3 hr h32 z1 z2
  go_enter Try.func18, Try.ntmps18
  go_upto_region 2 with fail
  rw [show w.heap.size + 1 + 1 = w.heap.size + 2 from rfl]
  generalize ((w.alloc (.cells #[.int .i64 wd, .slice a ms.length c] 29)).alloc (.cells #[.int .i64 0, .slice none 0 0] 29)).alloc (.cells #[.int .i64 wd, .slice none 0 0] 29) = W1 at *
  go_wp2
  go_loopw [4] (fun i wr => ∃ (k : Nat) (v : Value), k ≤ ms.length ∧ i = .int .i64 k ∧ Hid (∃ bs, CwS w wr w.heap.size (w.heap.size + 1) (w.heap.size + 2) (w.heap.size + 3) wd (.slice a ms.length c) (mkOf (entsTo ms k)) bs v)) (fun i _ => ms.length - (intOf i).toNat)
  case atStart => exact ⟨0, _, Nat.zero_le _, rfl, ST⟩
  case round =>
    clear ST c0
    obtain ⟨k, v, hk, rfl, S⟩ := hrel
    obtain ⟨bs, S⟩ := S.out
    have p1' := S.P.c1
    obtain ⟨ra, rc, ev, -⟩ := S.R.slice
    rw [mkOf_len, entsTo_len] at ev
    obtain ⟨p1, hp1⟩ : ∃ p1, p1 = k := ⟨_, rfl⟩
    rw [← hp1] at ev
    subst ev
    clear hp1
    by_cases hlt : k < ms.length
    · have hrk := HR.out.up S.N
      obtain ⟨off, rfl, hc⟩ := hrk.r (by omega)
      have t0 : (k : Int) < (ms.length : Int) := by omega
      have y1 := (hc k hlt).1
      have y2 := (hc k hlt).2
      have lg := block_lt_of_cell y1
      have rk := hrk.b k hlt
      have HL := H32.out k hlt
      have ES := hide (entsTo_succ ms k)
      rw [HL] at y1
      generalize (ms.getD k mrk0).id = D at *
      generalize (ms.getD k mrk0).un = un at *
      generalize (ps.getD k plm0).a = pa at *
      generalize (ps.getD k plm0).c = pc at *
      generalize (ps.getD k plm0).q = pq at *
      have CL : Hid (∀ ww, Below wr.heap.size wr ww → Calls Try.prog 20 #[.slice pa 32 pc] ww fun e w' => ∃ v, e = .returned v ∧ Below ww.heap.size ww w' ∧ RowB w' wr.heap.size v D) := fun ww b => by
        have := l1CopyM_any ww pq pa pc D (rk.up b) (fun e => by obtain ⟨o', e', -⟩ := rk (by omega); rw [e] at e'; cases e') (by omega)
        rw [HL] at this
        refine this.mono ?_
        rintro e w' ⟨v, rfl, R, l⟩
        exact ⟨v, rfl, l, R.base b.size⟩
      have AP : Hid (∀ W vS, Below wr.heap.size wr W → (NBm wr.heap.size un D).p vS W → ∃ v' w', (Builtin.append_ #[27, 27] 27 #[.slice ra p1 rc, vS]).run Try.prog W = .ok v' w' ∧ ∃ ra2 p2 rc2, v' = .slice ra2 p2 rc2 ∧ w'.cell? ⟨w.heap.size + 2, 1, none⟩ = some (.slice ra p1 rc) ∧ w'.frozen? ⟨w.heap.size + 2, 1, none⟩ = false ∧ Hid (∃ bs', CwS w (w'.setCell ⟨w.heap.size + 2, 1, none⟩ v') w.heap.size (w.heap.size + 1) (w.heap.size + 2) (w.heap.size + 3) wd (.slice (some ⟨g, off, none⟩) ms.length c) (mkOf (entsTo ms (k + 1))) bs' v')) := fun W vS b hG => by
        obtain ⟨p0, a9, c9, rfl, hp, hR⟩ := hG
        obtain ⟨v', w', r1, r2, r3, bs', r5⟩ := S.app b hp hR (by rw [mkOf_len, entsTo_len]; omega)
        obtain ⟨ra2, rc2, ev, -⟩ := r5.R.slice
        exact ⟨_, w', r1, ra2, _, rc2, ev, r2, r3, bs', by rw [ES.out, mkOf_app]; exact r5⟩
      have PW := hide S.P
      have SW := hide S.S
      have HD := hide HL
      clear S hc hrk HL rk ES HR H32 HN
      go_upto_region 5 with fail
      refine region_appS 17 1 16 16 31 32 33 27 _ _ _ (fun i => [Fact.eq (.pointer (some ⟨w.heap.size + 2, 1, none⟩)), Fact.eq (.slice ra p1 rc), Fact.eq (.pointer (some ⟨w.heap.size, 1, none⟩)), Fact.eq (.slice (some ⟨g, off, none⟩) ms.length c), Fact.eq (.int .i64 (k : Int)), Fact.eq (.pointer (some ⟨g, off + k * 2, none⟩)), Fact.eq (.pointer (some ⟨g, off + k * 2, none⟩)), Fact.eq (.slice pa 32 pc), CRm wr.heap.size D, Fact.eq (.pointer (some ⟨w.heap.size, 1, none⟩)), Fact.eq (.slice (some ⟨g, off, none⟩) ms.length c), Fact.eq (.int .i64 (k : Int)), Fact.eq (.pointer (some ⟨g, off + k * 2, none⟩)), Fact.eq (.pointer (some ⟨g, off + k * 2 + 1, none⟩)), Fact.eq (.int .i64 un), CKm wr.heap.size un D, NBm wr.heap.size un D].getD i Fact.no) (NBm wr.heap.size un D) (.slice ra p1 rc) (w.heap.size + 2) 1 (fun v' w' => ∃ ra2 p2 rc2, v' = .slice ra2 p2 rc2 ∧ w'.cell? ⟨w.heap.size + 2, 1, none⟩ = some (.slice ra p1 rc) ∧ w'.frozen? ⟨w.heap.size + 2, 1, none⟩ = false ∧ Hid (∃ bs', CwS w (w'.setCell ⟨w.heap.size + 2, 1, none⟩ v') w.heap.size (w.heap.size + 1) (w.heap.size + 2) (w.heap.size + 3) wd (.slice (some ⟨g, off, none⟩) ms.length c) (mkOf (entsTo ms (k + 1))) bs' v')) (by kernel_rfl) (by kernel_rfl) rfl rfl rfl rfl rfl rfl rfl (by decide) (by simp) (by simp) ?_ ?_ ⟨by kernel_rfl, by kernel_rfl⟩ rfl ⟨by kernel_rfl, by kernel_rfl⟩ rfl ?_ AP.out ?_
      · intro A W hb
        have e0 : A.tmps[3]?.getD undef = .pointer (some ⟨w.heap.size + 2, 0, none⟩) := gdv (hb.2.2 3 (by kernel_rfl))
        simp [go_sem, e0]
      · rintro A W v' e0 e1 ⟨ra2, p2, rc2, rfl, c1, f1, -⟩ hQ
        have e0 : A.tmps[33]?.getD undef = .pointer (some ⟨w.heap.size + 2, 1, none⟩) := gdv e0
        have e1 : A.tmps[32]?.getD undef = .slice ra2 p2 rc2 := gdv e1
        unfold Oper.wp
        simp [go_sem, e0, e1, c1, f1]
        exact hQ
      · intro i hi
        obtain rfl | rfl | rfl | rfl | rfl | rfl | rfl | rfl | rfl | rfl | rfl | rfl | rfl | rfl | rfl | rfl | rfl : i = 0 ∨ i = 1 ∨ i = 2 ∨ i = 3 ∨ i = 4 ∨ i = 5 ∨ i = 6 ∨ i = 7 ∨ i = 8 ∨ i = 9 ∨ i = 10 ∨ i = 11 ∨ i = 12 ∨ i = 13 ∨ i = 14 ∨ i = 15 ∨ i = 16 := by omega
        · refine step_pure rfl fun A ww hb hw hf => ?_
          have e0 : A.tmps[3]?.getD undef = .pointer (some ⟨w.heap.size + 2, 0, none⟩) := gdv (hb.2.2 3 (by kernel_rfl))
          exact ⟨.pointer (some ⟨w.heap.size + 2, 1, none⟩), by simp [go_sem, e0], rfl⟩
        · refine step_pure rfl fun A ww hb hw hf => ?_
          have e0 : A.tmps[15]?.getD undef = .pointer (some ⟨w.heap.size + 2, 1, none⟩) := gdv (hf 0 15 (by kernel_rfl))
          have hc := (SW.out.up hw).c1
          exact ⟨.slice ra p1 rc, by simp [go_sem, e0, hc], rfl⟩
        · refine step_pure rfl fun A ww hb hw hf => ?_
          have e0 : A.tmps[1]?.getD undef = .pointer (some ⟨w.heap.size, 0, none⟩) := gdv (hb.2.2 1 (by kernel_rfl))
          exact ⟨.pointer (some ⟨w.heap.size, 1, none⟩), by simp [go_sem, e0], rfl⟩
        · refine step_pure rfl fun A ww hb hw hf => ?_
          have e0 : A.tmps[17]?.getD undef = .pointer (some ⟨w.heap.size, 1, none⟩) := gdv (hf 2 17 (by kernel_rfl))
          have hc := (PW.out.up hw).c1
          exact ⟨.slice (some ⟨g, off, none⟩) ms.length c, by simp [go_sem, e0, hc], rfl⟩
        · refine step_pure rfl fun A ww hb hw hf => ?_
          have e0 : A.tmps[4]?.getD undef = .int .i64 (k : Int) := gdv (hb.2.2 4 (by kernel_rfl))
          exact ⟨.int .i64 (k : Int), by simp [go_sem, e0], rfl⟩
        · refine step_pure rfl fun A ww hb hw hf => ?_
          have e0 : A.tmps[18]?.getD undef = .slice (some ⟨g, off, none⟩) ms.length c := gdv (hf 3 18 (by kernel_rfl))
          have e1 : A.tmps[19]?.getD undef = .int .i64 (k : Int) := gdv (hf 4 19 (by kernel_rfl))
          exact ⟨.pointer (some ⟨g, off + k * 2, none⟩), by simp [go_sem, e0, e1, t0]; first | done | omega, rfl⟩
        · refine step_pure rfl fun A ww hb hw hf => ?_
          have e0 : A.tmps[20]?.getD undef = .pointer (some ⟨g, off + k * 2, none⟩) := gdv (hf 5 20 (by kernel_rfl))
          exact ⟨.pointer (some ⟨g, off + k * 2, none⟩), by simp [go_sem, e0], rfl⟩
        · refine step_pure rfl fun A ww hb hw hf => ?_
          have e0 : A.tmps[21]?.getD undef = .pointer (some ⟨g, off + k * 2, none⟩) := gdv (hf 6 21 (by kernel_rfl))
          have hc : ww.cell? ⟨g, off + k * 2, none⟩ = some (.slice pa 32 pc) := (hw.cell lg).trans y1
          exact ⟨.slice pa 32 pc, by simp [go_sem, e0, hc], rfl⟩
        · refine step_callv rfl 20 _ _ rfl (by kernel_rfl) fun A ww hb hw hf => ?_
          have e6 : A.tmps.getD 22 undef = .slice pa 32 pc := hf 7 22 (by kernel_rfl)
          show Calls Try.prog 20 #[A.tmps.getD 22 undef] ww _
          rw [e6]
          exact CL.out ww hw
        · refine step_pure rfl fun A ww hb hw hf => ?_
          have e0 : A.tmps[1]?.getD undef = .pointer (some ⟨w.heap.size, 0, none⟩) := gdv (hb.2.2 1 (by kernel_rfl))
          exact ⟨.pointer (some ⟨w.heap.size, 1, none⟩), by simp [go_sem, e0], rfl⟩
        · refine step_pure rfl fun A ww hb hw hf => ?_
          have e0 : A.tmps[24]?.getD undef = .pointer (some ⟨w.heap.size, 1, none⟩) := gdv (hf 9 24 (by kernel_rfl))
          have hc := (PW.out.up hw).c1
          exact ⟨.slice (some ⟨g, off, none⟩) ms.length c, by simp [go_sem, e0, hc], rfl⟩
        · refine step_pure rfl fun A ww hb hw hf => ?_
          have e0 : A.tmps[4]?.getD undef = .int .i64 (k : Int) := gdv (hb.2.2 4 (by kernel_rfl))
          exact ⟨.int .i64 (k : Int), by simp [go_sem, e0], rfl⟩
        · refine step_pure rfl fun A ww hb hw hf => ?_
          have e0 : A.tmps[25]?.getD undef = .slice (some ⟨g, off, none⟩) ms.length c := gdv (hf 10 25 (by kernel_rfl))
          have e1 : A.tmps[26]?.getD undef = .int .i64 (k : Int) := gdv (hf 11 26 (by kernel_rfl))
          exact ⟨.pointer (some ⟨g, off + k * 2, none⟩), by simp [go_sem, e0, e1, t0]; first | done | omega, rfl⟩
        · refine step_pure rfl fun A ww hb hw hf => ?_
          have e0 : A.tmps[27]?.getD undef = .pointer (some ⟨g, off + k * 2, none⟩) := gdv (hf 12 27 (by kernel_rfl))
          exact ⟨.pointer (some ⟨g, off + k * 2 + 1, none⟩), by simp [go_sem, e0], rfl⟩
        · refine step_pure rfl fun A ww hb hw hf => ?_
          have e0 : A.tmps[28]?.getD undef = .pointer (some ⟨g, off + k * 2 + 1, none⟩) := gdv (hf 13 28 (by kernel_rfl))
          have hc : ww.cell? ⟨g, off + k * 2 + 1, none⟩ = some (.int .i64 un) := (hw.cell (block_lt_of_cell y2)).trans y2
          exact ⟨.int .i64 un, by simp [go_sem, e0, hc], rfl⟩
        · refine step_pure rfl fun A ww hb hw hf => ?_
          have e0 : A.tmps[29]?.getD undef = .int .i64 un := gdv (hf 14 29 (by kernel_rfl))
          have r8 : RowB ww wr.heap.size (A.tmps.getD 23 undef) D := hf 8 23 (by kernel_rfl)
          obtain ⟨ad, cd, gd, ev, -⟩ := r8.own
          rw [ev] at r8
          have e1 : A.tmps[23]?.getD undef = .slice ad D.length cd := gdv ev
          refine ⟨.agg #[.slice ad D.length cd, .int .i64 un], ?_, ad, cd, rfl, r8⟩
          simp [go_sem, e0, e1]
        · refine step_grow rfl fun A ww hb hw hf => ?_
          obtain ⟨ad, cd, ev, r8⟩ : ∃ ad cd, A.tmps.getD 30 undef = .agg #[.slice ad D.length cd, .int .i64 un] ∧ RowB ww wr.heap.size (.slice ad D.length cd) D := hf 15 30 (by kernel_rfl)
          have e1 : A.tmps[30]?.getD undef = .agg #[.slice ad D.length cd, .int .i64 un] := gdv ev
          have na : Below ww.heap.size ww (ww.alloc (.cells #[.slice ad D.length cd, .int .i64 un] 46)) := (Below.refl _ _).alloc (Nat.le_refl _) _
          refine ⟨.slice (some ⟨ww.heap.size, 0, none⟩) 1 1, ww.alloc (.cells #[.slice ad D.length cd, .int .i64 un] 46), ?_, na, ww.heap.size, ad, cd, rfl, RwC.new ww _ _, r8.up na⟩
          simp [go_sem, e1]
      · rintro vs W v' ⟨ra2, p2, rc2, rfl, -, -, F72⟩
        have i20 : ms.length ≤ 64 := hn
        simp only [puts, Act.put, List.setIfInBounds_toArray, List.set_cons_succ, List.set_cons_zero]
        go_wp2
        go_roundw
        case rel => exact ⟨k + 1, _, by omega, by go_num, F72.out⟩
        case measure => simp [intOf]; omega
    · obtain rfl : k = ms.length := by omega
      have u0 := S.S.c0
      have u1 := S.S.c1
      have x0 := S.Z.c0
      have x1 := S.Z.c1
      have f0 := S.Z.free 0
      have f1 := S.Z.free 1
      have U11 : RwC ((wr.setCell ⟨w.heap.size + 1, 0, none⟩ (.int .i64 wd)).setCell ⟨w.heap.size + 1, 1, none⟩ (.slice ra p1 rc)) (w.heap.size + 1) [.int .i64 wd, .slice ra p1 rc] 29 := (S.Z.set 0 _).set 1 _
      have O11 : Only (w.heap.size + 1) wr ((wr.setCell ⟨w.heap.size + 1, 0, none⟩ (.int .i64 wd)).setCell ⟨w.heap.size + 1, 1, none⟩ (.slice ra p1 rc)) := (Only.setCell _ _ 0 _).trans (Only.setCell _ _ 1 _)
      have R11 := hide ((S.R.of (fun i hi hB => O11.block i (by omega))).base (C := w.heap.size) (by omega))
      have N11 := hide (S.N.trans (O11.below (B := w.heap.size) (by omega)))
      have RR := U11.rangeG
      clear S U11 O11 HR H32 HN
      go_wp2
      exact bodyPost_ret (v := .agg #[.int .i64 wd, .slice ra p1 rc]) (results_cellG Try.results18 _ _ (w.heap.size + 1) _ d1 rfl RR hd1 hrow1 iWi) rfl ⟨⟨_, bs, rfl, R11.out⟩, N11.out⟩
end Go.Proofs.Ytjjoimlnpbelpaa
