import Derived.Test.YtjjoimlnpbelpaaGK25

/-
  Windows that are asked: the model's walk (written by gens/war.py).
-/
namespace Go.Proofs.Ytjjoimlnpbelpaa
open Go Go.RowKit Go.Maps

set_option maxRecDepth 100000 in
set_option maxHeartbeats 8000000 in
theorem specAsk_any (w : World) (wd : Int) (g : Nat) (a : Option Addr) (c : Nat) (ms : List Mrk) (ps : List Plm) (hr : RdK w g a ms ps) (hb : ∀ i, i < ms.length → Byt (ms.getD i mrk0).id) (g1 : Nat) (a1 : Option Addr) (c1 : Nat) (X : List Int) (hX : Rd w g1 a1 .u8 X) (bX : Byt X) (now : Int) :
    Calls Try.prog 5 #[.agg #[.int .i64 wd, .slice a ms.length c], .slice a1 X.length c1, .int .i64 now] w fun e w' => AsP w wd ms X now e w' := by
  obtain ⟨d3, hd3, hrow3⟩ := rowWa
  have n0 : Below w.heap.size w ((w.alloc (.cells #[.int .i64 wd, .slice a ms.length c] 29)).alloc (.cells #[.int .i64 0, .int .i64 0, .slice none 0 0] 31)) := ((Below.refl _ _).alloc (Nat.le_refl _) _).alloc (by simp) _
  have z1 : (w.alloc (.cells #[.int .i64 wd, .slice a ms.length c] 29)).heap.size = w.heap.size + 1 := by simp
  have T0 : RwC ((w.alloc (.cells #[.int .i64 wd, .slice a ms.length c] 29)).alloc (.cells #[.int .i64 0, .int .i64 0, .slice none 0 0] 31)) w.heap.size [.int .i64 wd, .slice a ms.length c] 29 := (RwC.new w _ _).push _
  have U0 : RwC ((w.alloc (.cells #[.int .i64 wd, .slice a ms.length c] 29)).alloc (.cells #[.int .i64 0, .int .i64 0, .slice none 0 0] 31)) (w.heap.size + 1) [.int .i64 0, .int .i64 0, .slice none 0 0] 31 := by
    have h := RwC.new (w.alloc (.cells #[.int .i64 wd, .slice a ms.length c] 29)) [.int .i64 0, .int .i64 0, .slice none 0 0] 31
    rwa [z1] at h
  have WF := hide (specWf_any ((w.alloc (.cells #[.int .i64 wd, .slice a ms.length c] 29)).alloc (.cells #[.int .i64 0, .int .i64 0, .slice none 0 0] 31)) wd g a c ms ps (hr.up n0) hb)
  have BAD := hide (fun w' h n => asP_bad (w := w) (w' := w') (wd := wd) (ms := ms) (X := X) (now := now) h n)
  have CP := hide (fun W (n : Below w.heap.size w W) h1 h2 => specCopy_any W wd g a c ms ps (hr.up n) h1 h2)
  have HX := hide hX
  have HB := hide hb
  have HR := hide hr
  have N0 := hide n0
  have TT := hide T0
  have UU := hide U0
  clear n0 T0 U0 hX hr hb
  go_enter Try.func5, Try.ntmps5
  go_upto_region 1 with fail
  try rw [z1]
  clear z1
  generalize (w.alloc (.cells #[.int .i64 wd, .slice a ms.length c] 29)).alloc (.cells #[.int .i64 0, .int .i64 0, .slice none 0 0] 31) = W0 at *
  have t0 := TT.out.c0
  have t1 := TT.out.c1
  go_wp2_with fail
  refine WF.out.mono ?_
  rintro e w1 ⟨rfl, n1⟩
  have N1 := hide (nxt N0.out n1)
  have T1 := TT.out.up n1
  have U1 := UU.out.up n1
  clear WF n1 TT UU t0 t1 N0
  obtain ⟨fl, hfl⟩ : ∃ fl, fl = wfV wd ms := ⟨_, rfl⟩
  have HFL := hide hfl
  rw [← hfl]
  clear hfl
  have RS : Hid (World.rangeAt (((w1.setCell ⟨w.heap.size + 1, 0, none⟩ (.int .i64 3)).setCell ⟨w.heap.size + 1, 1, none⟩ (.int .i64 0)).setCell ⟨w.heap.size + 1, 2, none⟩ (.slice none 0 0)) (w.heap.size + 1) 0 [.int .i64 3, .int .i64 0, .slice none 0 0]) := (((U1.set 0 _).set 1 _).set 2 _).rangeG
  have NS : Hid (Below w.heap.size w (((w1.setCell ⟨w.heap.size + 1, 0, none⟩ (.int .i64 3)).setCell ⟨w.heap.size + 1, 1, none⟩ (.int .i64 0)).setCell ⟨w.heap.size + 1, 2, none⟩ (.slice none 0 0))) := N1.out.trans ((((Only.setCell _ _ _ _).trans (Only.setCell _ _ _ _)).trans (Only.setCell _ _ _ _)).below (by omega))
  have v0 := U1.c0
  have v1 := U1.c1
  have v2 := U1.c2
  have f0 := U1.free 0
  have f1 := U1.free 1
  have f2 := U1.free 2
  by_cases hf : fl = 0
  rotate_left
  · skip
    have bad : Hid (¬ AskOk wd ms X now) := fun h => hf (by rw [HFL.out]; exact h.1)
    have tf : (fl != 0) = true := by simp [hf]
    have RES := hide (BAD.out _ bad.out NS.out)
    clear HX HB HFL BAD NS N1 hf CP HR
    go_wp2
    exact bodyPost_ret (v := .agg #[.int .i64 3, .int .i64 0, .slice none 0 0]) (results_cellG Try.results5 _ _ (w.heap.size + 1) _ d3 rfl RS.out hd3 hrow3 iWa) rfl RES.out
  have tf : (fl != 0) = false := by simp [hf]
  by_cases hx : X.length = 32
  rotate_left
  · skip
    have bad : Hid (¬ AskOk wd ms X now) := fun h => hx h.2.1
    have tx : ((X.length : Int) != 32) = true := by simp; omega
    have RES := hide (BAD.out _ bad.out NS.out)
    clear HX HB HFL BAD NS N1 hf CP HR
    go_wp2
    exact bodyPost_ret (v := .agg #[.int .i64 3, .int .i64 0, .slice none 0 0]) (results_cellG Try.results5 _ _ (w.heap.size + 1) _ d3 rfl RS.out hd3 hrow3 iWa) rfl RES.out
  have tx : ((X.length : Int) != 32) = false := by simp; omega
  by_cases hn0 : now < 0
  · skip
    have bad : Hid (¬ AskOk wd ms X now) := fun h => by have := h.2.2; unfold tmO at this; simp at this; omega
    have RES := hide (BAD.out _ bad.out NS.out)
    clear HX HB HFL BAD NS N1 hf CP HR
    go_wp2
    exact bodyPost_ret (v := .agg #[.int .i64 3, .int .i64 0, .slice none 0 0]) (results_cellG Try.results5 _ _ (w.heap.size + 1) _ d3 rfl RS.out hd3 hrow3 iWa) rfl RES.out
  by_cases hn1 : 253402300799 < now
  · skip
    have bad : Hid (¬ AskOk wd ms X now) := fun h => by have := h.2.2; unfold tmO at this; simp at this; omega
    have RES := hide (BAD.out _ bad.out NS.out)
    clear HX HB HFL BAD NS N1 hf CP HR
    go_wp2
    exact bodyPost_ret (v := .agg #[.int .i64 3, .int .i64 0, .slice none 0 0]) (results_cellG Try.results5 _ _ (w.heap.size + 1) _ d3 rfl RS.out hd3 hrow3 iWa) rfl RES.out
  have htm : tmO now = true := by unfold tmO; simp; omega
  have ok : Hid (AskOk wd ms X now) := ⟨by rw [← HFL.out]; exact hf, hx, htm⟩
  obtain ⟨q1, q2, q3, q4⟩ := wfV_zero (ok.out.1)
  have B1 : 0 ≤ wd ∧ wd ≤ 86400 := by unfold wdO at q1; simpa using q1
  have XL := hide hx
  have ML := hide q2
  have I32 : Hid (∀ i, i < ms.length → (ms.getD i mrk0).id.length = 32) := fun i hi => (q3 i hi).1
  have bXh := hide bX
  rw [hx]
  have t0 := T1.c0
  have t1 := T1.c1
  have n2 : Below w1.heap.size w1 (w1.alloc (.cells #[.int .i64 0, .int .i64 wd, .slice none 0 0] 31)) := (Below.refl _ _).alloc (Nat.le_refl _) _
  have S2 := RwC.new w1 [.int .i64 0, .int .i64 wd, .slice none 0 0] 31
  have T2 := T1.up n2
  have U2 := U1.up n2
  have N2 := hide (nxt N1.out n2)
  have u0 := T2.c0
  have u1 := T2.c1
  have CO := hide (CP.out _ N2.out q2 I32.out)
  have z2 : (w1.alloc (.cells #[.int .i64 0, .int .i64 wd, .slice none 0 0] 31)).heap.size = w1.heap.size + 1 := by simp
  have sz1 : w.heap.size + 1 < w1.heap.size := U1.lt
  clear HFL BAD NS RS hf hx htm bX q1 q2 q3 q4 v0 v1 v2 f0 f1 f2 CP T1 U1 N1 HR n2
  go_upto_region 4 with fail
  clear t0 t1
  generalize hw2 : w1.alloc (.cells #[.int .i64 0, .int .i64 wd, .slice none 0 0] 31) = w2 at *
  clear hw2
  generalize w1.heap.size = s at *
  go_wp2_with fail
  refine CO.out.mono ?_
  rintro e w3 ⟨⟨va, ba, rfl, RA⟩, n3⟩
  obtain ⟨aa, ca, ev, -⟩ := RA.slice
  rw [mkOf_len, entsTo_len] at ev
  subst ev
  have n4 : Below w3.heap.size w3 (w3.alloc (.cells #[.int .i64 wd, .slice aa ms.length ca] 29)) := (Below.refl _ _).alloc (Nat.le_refl _) _
  have n24 := nxt n3 n4
  have S4 := hide (S2.up n24)
  have T4 := hide (T2.up n24)
  have U4 := hide (U2.up n24)
  have G4 := hide (RwC.new w3 [.int .i64 wd, .slice aa ms.length ca] 29)
  have A4 := hide (RA.of (w' := w3.alloc (.cells #[.int .i64 wd, .slice aa ms.length ca] 29)) (fun k hk _ => n4.block k hk))
  have N4 := hide (nxt N2.out n24)
  have z3 := n3.size
  have z4 : (w3.alloc (.cells #[.int .i64 wd, .slice aa ms.length ca] 29)).heap.size = w3.heap.size + 1 := by simp
  have ST : Hid (AkS w (w3.alloc (.cells #[.int .i64 wd, .slice aa ms.length ca] 29)) (w3.alloc (.cells #[.int .i64 wd, .slice aa ms.length ca] 29)) s w2.heap.size wd (mkOf (keptTo ms now 0)) [] (.slice none 0 0)) := ⟨KRow.nil _ _ _, fun k _ _ => rfl, S4.out, N4.out, Nat.le_refl _, by omega⟩
  clear CO n3 n4 n24 S2 T2 U2 u0 u1 N2 RA
  go_upto_region 5 with fail
  generalize hw4 : w3.alloc (.cells #[.int .i64 wd, .slice aa ms.length ca] 29) = w4 at *
  clear hw4
  generalize w3.heap.size = s8 at *
  go_wp2
  generalize w2.heap.size = C at *
  have hCB : C ≤ w4.heap.size := by omega
  have ne8 : s8 ≠ s := by omega
  have neT : w.heap.size ≠ s := by omega
  have neU : w.heap.size + 1 ≠ s := by omega
  go_loopw [9] (fun i wr => ∃ (k : Nat) (v : Value), k ≤ ms.length ∧ i = .int .i64 k ∧ Hid (∃ bs, AkS w w4 wr s C wd (mkOf (keptTo ms now k)) bs v)) (fun i _ => ms.length - (intOf i).toNat)
  case atStart => exact ⟨0, _, Nat.zero_le _, rfl, [], ST.out⟩
  case round =>
    clear ST
    obtain ⟨k, v, hk, rfl, S⟩ := hrel
    obtain ⟨bs, S⟩ := S.out
    have GW := hide (S.row G4.out ne8)
    have c8 := GW.out.c1
    obtain ⟨ra, rc, ev, -⟩ := S.R.slice
    obtain ⟨p1, hp1⟩ : ∃ p1, p1 = (mkOf (keptTo ms now k)).length := ⟨_, rfl⟩
    rw [← hp1] at ev
    subst ev
    by_cases hlt : k < ms.length
    · have t0 : (k : Int) < (ms.length : Int) := by omega
      have AA := A4.out.of (w' := wr) (fun i hi hC => S.F i hi (by omega))
      obtain ⟨ga, cx, e8, g8, gl, -, hc, -⟩ := A4.out.cells (by rw [mkOf_len, entsTo_len]; omega)
      rw [mkOf_len, entsTo_len] at e8
      simp only [Value.slice.injEq, true_and] at e8
      obtain ⟨rfl, rfl⟩ := e8
      have hbl := S.F ga gl (by omega)
      have y1 := (World.cell?_of_block (a := ⟨ga, k * 2, none⟩) hbl).trans (hc k (by rw [mkOf_len, entsTo_len]; exact hlt)).1
      have y2 := (World.cell?_of_block (a := ⟨ga, k * 2 + 1, none⟩) hbl).trans (hc k (by rw [mkOf_len, entsTo_len]; exact hlt)).2
      have rk := (AA.b k (by rw [mkOf_len, entsTo_len]; exact hlt)).o.rd
      have hk1 := A4.out.h k (by rw [mkOf_len, entsTo_len]; exact hlt)
      have hk2 := fun h0 => A4.out.lt (i := k) (by rw [mkOf_len, entsTo_len]; exact hlt) h0
      have HL := I32.out k hlt
      rw [mkE_get hlt] at y1 y2 rk hk1 hk2
      simp only at y1 y2 rk hk1 hk2
      rw [HL] at y1
      have KY := hide (fun h => keptTo_yes (ms := ms) (now := now) (k := k) h)
      have KN := hide (fun h => keptTo_no (ms := ms) (now := now) (k := k) h)
      have KL := keptTo_len ms now k
      have mL := ML.out
      clear hc AA hbl
      generalize (ms.getD k mrk0).id = D at *
      generalize (ms.getD k mrk0).un = un at *
      obtain ⟨⟨pa, pc, pq⟩, hpl⟩ : ∃ pl, pl = ba.getD k plc0 := ⟨_, rfl⟩
      rw [← hpl] at y1 rk hk1 hk2
      simp only at y1 rk hk1 hk2
      clear hpl
      by_cases hu : now ≤ un
      · have RG : Hid (World.rangeAt wr ga (k * 2) [.slice pa 32 pc, .int .i64 un]) := fun j v hj => by
          rcases j with _ | _ | j
          · simp only [List.getElem?_cons_zero, Option.some.injEq] at hj
            rw [← hj]
            exact y1
          · simp only [List.getElem?_cons_succ, List.getElem?_cons_zero, Option.some.injEq] at hj
            rw [← hj]
            exact y2
          · simp at hj
        have AP : Hid (∀ W vS, Below wr.heap.size wr W → (NBo pa 32 pc un).p vS W → ∃ v' w', (Builtin.append_ #[27, 27] 27 #[.slice ra p1 rc, vS]).run Try.prog W = .ok v' w' ∧ ∃ ra2 p2 rc2, v' = .slice ra2 p2 rc2 ∧ w'.cell? ⟨s, 2, none⟩ = some (.slice ra p1 rc) ∧ w'.frozen? ⟨s, 2, none⟩ = false ∧ Hid (∃ bs', AkS w w4 (w'.setCell ⟨s, 2, none⟩ v') s C wd (mkOf (keptTo ms now (k + 1))) bs' v')) := fun W vS b hG => by
          obtain ⟨p0, rfl, hp⟩ := hG
          rw [← HL] at hp
          obtain ⟨v', w', r1, r2, r3, bs', r5⟩ := S.app (q := ⟨pa, pc, pq⟩) b hp (rk.up b) (fun h0 => ⟨(hk1 h0).1, fun e => by have := (S.R.o.lt _ e).1; have := hk2 h0; simp only at *; omega⟩) (by omega)
          obtain ⟨ra2, rc2, ev, -⟩ := r5.R.slice
          exact ⟨_, w', r1, ra2, _, rc2, ev, r2, r3, bs', by rw [KY.out hu]; exact r5⟩
        have SW := hide S.S
        clear S HL rk hk1 hk2 KY KN hp1
        go_upto_region 9 with fail
        refine region_appT 9 2 8 51 57 58 59 60 27 _ _ _ _ (fun i => [Fact.eq (.pointer (some ⟨s, 1, none⟩)), Fact.eq (.pointer (some ⟨s, 2, none⟩)), Fact.eq (.slice ra p1 rc), Fact.eq (.pointer (some ⟨s8, 1, none⟩)), Fact.eq (.slice (some ⟨ga, 0, none⟩) ms.length ca), Fact.eq (.int .i64 (k : Int)), Fact.eq (.pointer (some ⟨ga, k * 2, none⟩)), Fact.eq (.agg #[.slice pa 32 pc, .int .i64 un]), NBo pa 32 pc un].getD i Fact.no) (NBo pa 32 pc un) (.slice ra p1 rc) s 1 2 (fun v' w' => ∃ ra2 p2 rc2, v' = .slice ra2 p2 rc2 ∧ w'.cell? ⟨s, 2, none⟩ = some (.slice ra p1 rc) ∧ w'.frozen? ⟨s, 2, none⟩ = false ∧ Hid (∃ bs', AkS w w4 (w'.setCell ⟨s, 2, none⟩ v') s C wd (mkOf (keptTo ms now (k + 1))) bs' v')) (by kernel_rfl) (by kernel_rfl) rfl rfl rfl rfl rfl rfl rfl rfl rfl (by decide) (by decide) (by simp) (by simp) (by simp) ?_ ?_ ?_ ⟨by kernel_rfl, by kernel_rfl⟩ rfl ⟨by kernel_rfl, by kernel_rfl⟩ rfl ?_ AP.out ?_
        · intro A W hb
          have e0 : A.tmps[7]?.getD undef = .pointer (some ⟨s, 0, none⟩) := gdv (hb.2.2 7 (by kernel_rfl))
          simp [go_sem, e0]
        · intro A W e0
          have e0 : A.tmps[59]?.getD undef = .pointer (some ⟨s, 1, none⟩) := gdv e0
          simp [go_sem, e0]
        · rintro A W v' e0 e1 ⟨ra2, p2, rc2, rfl, c1, f1, -⟩ hQ
          have e0 : A.tmps[60]?.getD undef = .pointer (some ⟨s, 2, none⟩) := gdv e0
          have e1 : A.tmps[58]?.getD undef = .slice ra2 p2 rc2 := gdv e1
          unfold Oper.wp
          simp [go_sem, e0, e1, c1, f1]
          exact hQ
        · intro i hi
          obtain rfl | rfl | rfl | rfl | rfl | rfl | rfl | rfl | rfl : i = 0 ∨ i = 1 ∨ i = 2 ∨ i = 3 ∨ i = 4 ∨ i = 5 ∨ i = 6 ∨ i = 7 ∨ i = 8 := by omega
          · refine step_pure rfl fun A ww hb hw hf => ?_
            have e0 : A.tmps[7]?.getD undef = .pointer (some ⟨s, 0, none⟩) := gdv (hb.2.2 7 (by kernel_rfl))
            exact ⟨.pointer (some ⟨s, 1, none⟩), by simp [go_sem, e0], rfl⟩
          · refine step_pure rfl fun A ww hb hw hf => ?_
            have e0 : A.tmps[49]?.getD undef = .pointer (some ⟨s, 1, none⟩) := gdv (hf 0 49 (by kernel_rfl))
            exact ⟨.pointer (some ⟨s, 2, none⟩), by simp [go_sem, e0], rfl⟩
          · refine step_pure rfl fun A ww hb hw hf => ?_
            have e0 : A.tmps[50]?.getD undef = .pointer (some ⟨s, 2, none⟩) := gdv (hf 1 50 (by kernel_rfl))
            have hc := (SW.out.up hw).c2
            exact ⟨.slice ra p1 rc, by simp [go_sem, e0, hc], rfl⟩
          · refine step_pure rfl fun A ww hb hw hf => ?_
            have e0 : A.tmps[8]?.getD undef = .pointer (some ⟨s8, 0, none⟩) := gdv (hb.2.2 8 (by kernel_rfl))
            exact ⟨.pointer (some ⟨s8, 1, none⟩), by simp [go_sem, e0], rfl⟩
          · refine step_pure rfl fun A ww hb hw hf => ?_
            have e0 : A.tmps[52]?.getD undef = .pointer (some ⟨s8, 1, none⟩) := gdv (hf 3 52 (by kernel_rfl))
            have hc := (GW.out.up hw).c1
            exact ⟨.slice (some ⟨ga, 0, none⟩) ms.length ca, by simp [go_sem, e0, hc], rfl⟩
          · refine step_pure rfl fun A ww hb hw hf => ?_
            have e0 : A.tmps[9]?.getD undef = .int .i64 (k : Int) := gdv (hb.2.2 9 (by kernel_rfl))
            exact ⟨.int .i64 (k : Int), by simp [go_sem, e0], rfl⟩
          · refine step_pure rfl fun A ww hb hw hf => ?_
            have e0 : A.tmps[53]?.getD undef = .slice (some ⟨ga, 0, none⟩) ms.length ca := gdv (hf 4 53 (by kernel_rfl))
            have e1 : A.tmps[54]?.getD undef = .int .i64 (k : Int) := gdv (hf 5 54 (by kernel_rfl))
            exact ⟨.pointer (some ⟨ga, k * 2, none⟩), by simp [go_sem, e0, e1, t0]; first | done | omega, rfl⟩
          · exact step_load rfl 46 (.tmp 55) rfl _ 2 Try.underlying46 rfl (by kernel_rfl) fun A ww hb hw hf => ⟨ga, k * 2, [.slice pa 32 pc, .int .i64 un], hf 6 55 (by kernel_rfl), rangeK RG.out hw, rfl, rfl⟩
          · refine step_grow rfl fun A ww hb hw hf => ?_
            have e1 : A.tmps[56]?.getD undef = .agg #[.slice pa 32 pc, .int .i64 un] := gdv (hf 7 56 (by kernel_rfl))
            have na : Below ww.heap.size ww (ww.alloc (.cells #[.slice pa 32 pc, .int .i64 un] 46)) := (Below.refl _ _).alloc (Nat.le_refl _) _
            refine ⟨.slice (some ⟨ww.heap.size, 0, none⟩) 1 1, ww.alloc (.cells #[.slice pa 32 pc, .int .i64 un] 46), ?_, na, ww.heap.size, rfl, RwC.new ww _ _⟩
            simp [go_sem, e1]
        · rintro vs W v' ⟨ra2, p2, rc2, rfl, -, -, F72⟩
          simp only [puts, Act.put, List.setIfInBounds_toArray, List.set_cons_succ, List.set_cons_zero]
          go_wp2
          go_roundw
          case rel => exact ⟨k + 1, _, by omega, by go_num, F72.out⟩
          case measure => simp [intOf]; omega
      · have SN : Hid (∃ bs, AkS w w4 wr s C wd (mkOf (keptTo ms now (k + 1))) bs (.slice ra p1 rc)) := ⟨bs, by rw [KN.out hu]; exact S⟩
        clear S HL rk hk1 hk2 KY KN hp1 y1
        go_wp2
        go_roundw
        case rel => exact ⟨k + 1, _, by omega, by go_num, SN.out⟩
        case measure => simp [intOf]; omega
    · obtain rfl : k = ms.length := by omega
      replace S : AkS w w4 wr s C wd (mkOf (kept ms now)) bs (.slice ra p1 rc) := S
      replace hp1 : p1 = (mkOf (kept ms now)).length := hp1
      have PL : p1 ≤ 64 := by rw [hp1]; have := keptTo_len ms now ms.length; have := ML.out; show (mkOf (keptTo ms now ms.length)).length ≤ 64; omega
      have KS := hide (fun k h1 h2 => kept_some (ms := ms) (now := now) (X := X) (k := k) h1 h2)
      have KN := hide (fun h => kept_none (ms := ms) (now := now) (X := X) h)
      have KB : Hid (∀ j, j < (mkOf (kept ms now)).length → Byt ((mkOf (kept ms now)).getD j (0, [])).2) := fun j hj => kept_byt HB.out hj
      have ES := hide (fun h => askE_stay (wd := wd) (ms := ms) (X := X) (now := now) h)
      have EM := hide (fun h => askE_more (wd := wd) (ms := ms) (X := X) (now := now) h)
      have ZZ := hide (S.row U4.out neU)
      have TW := hide (S.row T4.out neT)
      have SS := hide S
      have q2 := S.S.c2
      clear S GW hlt hk A4 G4 T4 S4 N4 HB I32
      generalize mkOf (kept ms now) = its at *
      have HP1 := hide hp1
      clear hp1
      go_wp2
      go_loopw [10] (fun i w6 => ∃ (k : Nat), k ≤ p1 ∧ i = .int .i64 k ∧ w6 = wr ∧ ∀ j, j < k → (its.getD j (0, [])).2 ≠ X) (fun i _ => p1 - (intOf i).toNat)
      case atStart => exact ⟨0, Nat.zero_le _, rfl, rfl, fun j hj => absurd hj (by omega)⟩
      case round =>
        obtain ⟨j, hj, rfl, hw6, hall⟩ := hrel
        have hw := hw6.symm
        subst hw
        clear hw6
        by_cases hjl : j < p1
        · have t0 : (j : Int) < (p1 : Int) := by omega
          have hjI : j < its.length := by rw [← HP1.out]; exact hjl
          obtain ⟨gR, cR, eR, -, -, -, hc, -⟩ := SS.out.R.cells (by omega)
          rw [← HP1.out] at eR
          simp only [Value.slice.injEq, true_and] at eR
          obtain ⟨rfl, rfl⟩ := eR
          have y1 := (hc j hjI).1
          have rd := SS.out.R.b j hjI
          have kb := KB.out j hjI
          have KSj := hide (KS.out j hjI)
          have HALL := hide hall
          clear hc hall
          generalize hD : (its.getD j (0, [])).2 = D at *
          have HD := hide hD
          clear hD
          have SM : Hid (Calls Try.prog 19 #[.slice (bs.getD j plc0).a D.length (bs.getD j plc0).c, .slice a1 32 c1] wr fun e w' => e = .returned (.bool (decide (D = X))) ∧ w' = wr) := by
            have h := l1Same_any wr _ g1 (bs.getD j plc0).a a1 (bs.getD j plc0).c c1 D X rd (HX.out.up SS.out.N) kb bXh.out
            rw [XL.out] at h
            exact h
          generalize (bs.getD j plc0).a = qa at *
          generalize (bs.getD j plc0).c = qc at *
          generalize D.length = m at *
          by_cases hDX : D = X
          · have TK : Hid (tkC (kept ms now) X = 1) := KSj.out hDX
            have e1 : decide (D = X) = true := decide_eq_true hDX
            rw [e1] at SM
            clear rd kb KSj hDX e1 HALL HD
            go_wp2_with fail
            refine SM.out.mono ?_
            rintro e w' ⟨rfl, hw⟩
            have hw := hw.symm
            subst hw
            clear SM y1
            have EE := hide (ES.out (by rw [TK.out]; decide))
            have k0 := SS.out.S.c0
            have k1 := SS.out.S.free 0
            have O := Only.setCell wr s 0 (.int .i64 1)
            have SA : RwC (wr.setCell ⟨s, 0, none⟩ (.int .i64 1)) s [.int .i64 1, .int .i64 wd, .slice (some ⟨gR, 0, none⟩) p1 rc] 31 := SS.out.S.set 0 _
            have ZA := ZZ.out.onl O neU
            have RA := SS.out.R.of hCB (w' := wr.setCell ⟨s, 0, none⟩ (.int .i64 1)) (fun k hk hB => O.block k (by omega))
            have NA := SS.out.N.trans (O.below (B := w.heap.size) SS.out.B2.1)
            clear O
            go_upto_region 15 with fail
            clear k0 k1
            generalize wr.setCell ⟨s, 0, none⟩ (.int .i64 1) = wA at *
            have E := ak_end (w := w) (z := w.heap.size + 1) (cd := 1) (wd := wd) RA hCB ZA NA (by omega) (by omega)
            have RR := hide E.1
            have RES := hide (asP_ok ok.out E.2.2 (cd := 1) TK.out.symm EE.out E.2.1)
            have b0 := SA.c0
            have b1 := SA.c1
            have b2 := SA.c2
            have x0 := ZA.c0
            have x1 := ZA.c1
            have x2 := ZA.c2
            have y0 := ZA.free 0
            have y1 := ZA.free 1
            have y2 := ZA.free 2
            clear E SA ZA RA NA SS KS KN KB ES EM ZZ TW HX ok
            go_wp2
            exact bodyPost_ret (v := .agg #[.int .i64 1, .int .i64 wd, .slice (some ⟨gR, 0, none⟩) p1 rc]) (results_cellG Try.results5 _ _ (w.heap.size + 1) _ d3 rfl RR.out hd3 hrow3 iWa) rfl RES.out
          · have NX : Hid (∀ i, i < j + 1 → (its.getD i (0, [])).2 ≠ X) := fun i hi => by
              by_cases e : i = j
              · rw [e, HD.out]
                exact hDX
              · exact HALL.out i (by omega)
            have e1 : decide (D = X) = false := decide_eq_false hDX
            rw [e1] at SM
            clear rd kb KSj hDX e1 HALL HD
            go_wp2_with fail
            refine SM.out.mono ?_
            rintro e w' ⟨rfl, hw⟩
            have hw := hw.symm
            subst hw
            clear SM y1
            go_wp2
            go_roundw
            case rel => exact ⟨j + 1, by omega, by go_num, by first | rfl | trivial, NX.out⟩
            case measure => simp [intOf]; omega
        · obtain rfl : p1 = j := by omega
          have TK0 := hide (KN.out (fun k hk => hall k (by rw [HP1.out]; exact hk)))
          clear hall
          by_cases h64 : p1 = 64
          · have TK : Hid (tkC (kept ms now) X = 2) := by
              have := TK0.out
              rw [if_pos (by rw [← HP1.out]; exact h64)] at this
              exact this
            have t64 : ((p1 : Int) == 64) = true := by rw [h64]; rfl
            clear TK0 h64
            have EE := hide (ES.out (by rw [TK.out]; decide))
            have k0 := SS.out.S.c0
            have k1 := SS.out.S.free 0
            have O := Only.setCell wr s 0 (.int .i64 2)
            have SA : RwC (wr.setCell ⟨s, 0, none⟩ (.int .i64 2)) s [.int .i64 2, .int .i64 wd, .slice ra p1 rc] 31 := SS.out.S.set 0 _
            have ZA := ZZ.out.onl O neU
            have RA := SS.out.R.of hCB (w' := wr.setCell ⟨s, 0, none⟩ (.int .i64 2)) (fun k hk hB => O.block k (by omega))
            have NA := SS.out.N.trans (O.below (B := w.heap.size) SS.out.B2.1)
            clear O
            go_upto_region 18 with fail
            clear k0 k1
            generalize wr.setCell ⟨s, 0, none⟩ (.int .i64 2) = wA at *
            have E := ak_end (w := w) (z := w.heap.size + 1) (cd := 2) (wd := wd) RA hCB ZA NA (by omega) (by omega)
            have RR := hide E.1
            have RES := hide (asP_ok ok.out E.2.2 (cd := 2) TK.out.symm EE.out E.2.1)
            have b0 := SA.c0
            have b1 := SA.c1
            have b2 := SA.c2
            have x0 := ZA.c0
            have x1 := ZA.c1
            have x2 := ZA.c2
            have y0 := ZA.free 0
            have y1 := ZA.free 1
            have y2 := ZA.free 2
            clear E SA ZA RA NA SS KS KN KB ES EM ZZ TW HX ok
            go_wp2
            exact bodyPost_ret (v := .agg #[.int .i64 2, .int .i64 wd, .slice ra p1 rc]) (results_cellG Try.results5 _ _ (w.heap.size + 1) _ d3 rfl RR.out hd3 hrow3 iWa) rfl RES.out
          · have TK : Hid (tkC (kept ms now) X = 0) := by
              have := TK0.out
              rw [if_neg (by rw [← HP1.out]; exact h64)] at this
              exact this
            have t64 : ((p1 : Int) == 64) = false := beq_eq_false_iff_ne.2 (by omega)
            have EE := hide (EM.out TK.out)
            have i9 : IntKind.i64.wrap (2 * wd) = 2 * wd := by rw [IntKind.wrap_i64]; omega
            have i10 : IntKind.i64.wrap (now + 2 * wd) = now + 2 * wd := by rw [IntKind.wrap_i64]; omega
            have CL : Hid (∀ ww, Below wr.heap.size wr ww → Calls Try.prog 20 #[.slice a1 32 c1] ww fun e w' => ∃ v, e = .returned v ∧ Below ww.heap.size ww w' ∧ RowB w' wr.heap.size v X) := fun ww b => by
              have := l1CopyM_any ww g1 a1 c1 X (HX.out.up (nxt SS.out.N b)) (fun e => by obtain ⟨o', e', -⟩ := HX.out (by rw [XL.out]; decide); rw [e] at e'; cases e') (by rw [XL.out]; decide)
              rw [XL.out] at this
              refine this.mono ?_
              rintro e w' ⟨v, rfl, R, l⟩
              exact ⟨v, rfl, l, R.base b.size⟩
            have AP : Hid (∀ W vS, Below wr.heap.size wr W → (NBm wr.heap.size (now + 2 * wd) X).p vS W → ∃ v' w', (Builtin.append_ #[27, 27] 27 #[.slice ra p1 rc, vS]).run Try.prog W = .ok v' w' ∧ ∃ ra2 p2 rc2, v' = .slice ra2 p2 rc2 ∧ w'.cell? ⟨s, 2, none⟩ = some (.slice ra p1 rc) ∧ w'.frozen? ⟨s, 2, none⟩ = false ∧ Hid (∃ bs', AkS w w4 (w'.setCell ⟨s, 2, none⟩ v') s C wd (its ++ [(now + 2 * wd, X)]) bs' v')) := fun W vS b hG => by
              obtain ⟨p0, a9, c9, rfl, hp, hR⟩ := hG
              obtain ⟨a', c', gd, ev', O1, O2, O3, O4⟩ := hR.own
              simp only [Value.slice.injEq, true_and] at ev'
              obtain ⟨rfl, rfl⟩ := ev'
              have l1 := SS.out.B1
              obtain ⟨v', w', r1, r2, r3, bs', r5⟩ := SS.out.app (q := ⟨a9, c9, gd⟩) b hp O1.rd (fun h0 => ⟨by simp only; omega, fun e => by have := (SS.out.R.o.lt _ e).2; simp only at *; omega⟩) (by rw [← HP1.out]; omega)
              obtain ⟨ra2, rc2, ev, -⟩ := r5.R.slice
              exact ⟨_, w', r1, ra2, _, rc2, ev, r2, r3, bs', r5⟩
            clear TK0 h64
            go_upto_region 19 with fail
            refine region_appT 12 2 11 89 98 99 100 101 27 _ _ _ _ (fun i => [Fact.eq (.pointer (some ⟨s, 1, none⟩)), Fact.eq (.pointer (some ⟨s, 2, none⟩)), Fact.eq (.slice ra p1 rc), Fact.eq (.slice a1 32 c1), CRm wr.heap.size X, Fact.eq (.int .i64 now), Fact.eq (.pointer (some ⟨w.heap.size, 0, none⟩)), Fact.eq (.int .i64 wd), Fact.eq (.int .i64 (2 * wd)), Fact.eq (.int .i64 (now + 2 * wd)), CKm wr.heap.size (now + 2 * wd) X, NBm wr.heap.size (now + 2 * wd) X].getD i Fact.no) (NBm wr.heap.size (now + 2 * wd) X) (.slice ra p1 rc) s 1 2 (fun v' w' => ∃ ra2 p2 rc2, v' = .slice ra2 p2 rc2 ∧ w'.cell? ⟨s, 2, none⟩ = some (.slice ra p1 rc) ∧ w'.frozen? ⟨s, 2, none⟩ = false ∧ Hid (∃ bs', AkS w w4 (w'.setCell ⟨s, 2, none⟩ v') s C wd (its ++ [(now + 2 * wd, X)]) bs' v')) (by kernel_rfl) (by kernel_rfl) rfl rfl rfl rfl rfl rfl rfl rfl rfl (by decide) (by decide) (by simp) (by simp) (by simp) ?_ ?_ ?_ ⟨by kernel_rfl, by kernel_rfl⟩ rfl ⟨by kernel_rfl, by kernel_rfl⟩ rfl ?_ AP.out ?_
            · intro A W hb
              have e0 : A.tmps[7]?.getD undef = .pointer (some ⟨s, 0, none⟩) := gdv (hb.2.2 7 (by kernel_rfl))
              simp [go_sem, e0]
            · intro A W e0
              have e0 : A.tmps[100]?.getD undef = .pointer (some ⟨s, 1, none⟩) := gdv e0
              simp [go_sem, e0]
            · rintro A W v' e0 e1 ⟨ra2, p2, rc2, rfl, c1, f1, -⟩ hQ
              have e0 : A.tmps[101]?.getD undef = .pointer (some ⟨s, 2, none⟩) := gdv e0
              have e1 : A.tmps[99]?.getD undef = .slice ra2 p2 rc2 := gdv e1
              unfold Oper.wp
              simp [go_sem, e0, e1, c1, f1]
              exact hQ
            · intro i hi
              obtain rfl | rfl | rfl | rfl | rfl | rfl | rfl | rfl | rfl | rfl | rfl | rfl : i = 0 ∨ i = 1 ∨ i = 2 ∨ i = 3 ∨ i = 4 ∨ i = 5 ∨ i = 6 ∨ i = 7 ∨ i = 8 ∨ i = 9 ∨ i = 10 ∨ i = 11 := by omega
              · refine step_pure rfl fun A ww hb hw hf => ?_
                have e0 : A.tmps[7]?.getD undef = .pointer (some ⟨s, 0, none⟩) := gdv (hb.2.2 7 (by kernel_rfl))
                exact ⟨.pointer (some ⟨s, 1, none⟩), by simp [go_sem, e0], rfl⟩
              · refine step_pure rfl fun A ww hb hw hf => ?_
                have e0 : A.tmps[87]?.getD undef = .pointer (some ⟨s, 1, none⟩) := gdv (hf 0 87 (by kernel_rfl))
                exact ⟨.pointer (some ⟨s, 2, none⟩), by simp [go_sem, e0], rfl⟩
              · refine step_pure rfl fun A ww hb hw hf => ?_
                have e0 : A.tmps[88]?.getD undef = .pointer (some ⟨s, 2, none⟩) := gdv (hf 1 88 (by kernel_rfl))
                have hc := (SS.out.S.up hw).c2
                exact ⟨.slice ra p1 rc, by simp [go_sem, e0, hc], rfl⟩
              · refine step_pure rfl fun A ww hb hw hf => ?_
                have e0 : A.tmps[1]?.getD undef = .slice a1 32 c1 := gdv (hb.2.2 1 (by kernel_rfl))
                exact ⟨.slice a1 32 c1, by simp [go_sem, e0], rfl⟩
              · refine step_callv rfl 20 _ _ rfl (by kernel_rfl) fun A ww hb hw hf => ?_
                have e6 : A.tmps.getD 90 undef = .slice a1 32 c1 := hf 3 90 (by kernel_rfl)
                show Calls Try.prog 20 #[A.tmps.getD 90 undef] ww _
                rw [e6]
                exact CL.out ww hw
              · refine step_pure rfl fun A ww hb hw hf => ?_
                have e0 : A.tmps[2]?.getD undef = .int .i64 now := gdv (hb.2.2 2 (by kernel_rfl))
                exact ⟨.int .i64 now, by simp [go_sem, e0], rfl⟩
              · refine step_pure rfl fun A ww hb hw hf => ?_
                have e0 : A.tmps[3]?.getD undef = .pointer (some ⟨w.heap.size, 0, none⟩) := gdv (hb.2.2 3 (by kernel_rfl))
                exact ⟨.pointer (some ⟨w.heap.size, 0, none⟩), by simp [go_sem, e0], rfl⟩
              · refine step_pure rfl fun A ww hb hw hf => ?_
                have e0 : A.tmps[93]?.getD undef = .pointer (some ⟨w.heap.size, 0, none⟩) := gdv (hf 6 93 (by kernel_rfl))
                have hc := (TW.out.up hw).c0
                exact ⟨.int .i64 wd, by simp [go_sem, e0, hc], rfl⟩
              · refine step_pure rfl fun A ww hb hw hf => ?_
                have e0 : A.tmps[94]?.getD undef = .int .i64 wd := gdv (hf 7 94 (by kernel_rfl))
                exact ⟨.int .i64 (2 * wd), by simp [go_sem, e0, i9], rfl⟩
              · refine step_pure rfl fun A ww hb hw hf => ?_
                have e0 : A.tmps[95]?.getD undef = .int .i64 (2 * wd) := gdv (hf 8 95 (by kernel_rfl))
                have e1 : A.tmps[92]?.getD undef = .int .i64 now := gdv (hf 5 92 (by kernel_rfl))
                exact ⟨.int .i64 (now + 2 * wd), by simp [go_sem, e0, e1, i10], rfl⟩
              · refine step_pure rfl fun A ww hb hw hf => ?_
                have e0 : A.tmps[96]?.getD undef = .int .i64 (now + 2 * wd) := gdv (hf 9 96 (by kernel_rfl))
                have r8 : RowB ww wr.heap.size (A.tmps.getD 91 undef) X := hf 4 91 (by kernel_rfl)
                obtain ⟨ad, cd, gd, ev, -⟩ := r8.own
                rw [ev] at r8
                have e1 : A.tmps[91]?.getD undef = .slice ad X.length cd := gdv ev
                refine ⟨.agg #[.slice ad X.length cd, .int .i64 (now + 2 * wd)], ?_, ad, cd, rfl, r8⟩
                simp [go_sem, e0, e1]
              · refine step_grow rfl fun A ww hb hw hf => ?_
                obtain ⟨ad, cd, ev, r8⟩ : ∃ ad cd, A.tmps.getD 97 undef = .agg #[.slice ad X.length cd, .int .i64 (now + 2 * wd)] ∧ RowB ww wr.heap.size (.slice ad X.length cd) X := hf 10 97 (by kernel_rfl)
                have e1 : A.tmps[97]?.getD undef = .agg #[.slice ad X.length cd, .int .i64 (now + 2 * wd)] := gdv ev
                have na : Below ww.heap.size ww (ww.alloc (.cells #[.slice ad X.length cd, .int .i64 (now + 2 * wd)] 46)) := (Below.refl _ _).alloc (Nat.le_refl _) _
                refine ⟨.slice (some ⟨ww.heap.size, 0, none⟩) 1 1, ww.alloc (.cells #[.slice ad X.length cd, .int .i64 (now + 2 * wd)] 46), ?_, na, ww.heap.size, ad, cd, rfl, RwC.new ww _ _, r8.up na⟩
                simp [go_sem, e1]
            · rintro vs W v' ⟨ra2, p2, rc2, rfl, -, -, F72⟩
              simp only [puts, Act.put, List.setIfInBounds_toArray, List.set_cons_succ, List.set_cons_zero]
              generalize W.setCell ⟨s, 2, none⟩ (.slice ra2 p2 rc2) = wA at *
              obtain ⟨bs', S9⟩ := F72.out
              have SA := S9.S
              have ZA := S9.row U4.out neU
              have RA := S9.R
              have NA := S9.N
              clear F72 S9 AP CL
              have E := ak_end (w := w) (z := w.heap.size + 1) (cd := 0) (wd := wd) RA hCB ZA NA (by omega) (by omega)
              have RR := hide E.1
              have RES := hide (asP_ok ok.out E.2.2 (cd := 0) TK.out.symm EE.out E.2.1)
              have b0 := SA.c0
              have b1 := SA.c1
              have b2 := SA.c2
              have x0 := ZA.c0
              have x1 := ZA.c1
              have x2 := ZA.c2
              have y0 := ZA.free 0
              have y1 := ZA.free 1
              have y2 := ZA.free 2
              clear E SA ZA RA NA SS KS KN KB ES EM ZZ TW HX ok
              go_wp2
              exact bodyPost_ret (v := .agg #[.int .i64 0, .int .i64 wd, .slice ra2 p2 rc2]) (results_cellG Try.results5 _ _ (w.heap.size + 1) _ d3 rfl RR.out hd3 hrow3 iWa) rfl RES.out
end Go.Proofs.Ytjjoimlnpbelpaa
