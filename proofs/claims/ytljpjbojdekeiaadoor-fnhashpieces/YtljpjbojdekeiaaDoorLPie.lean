
/-
  The law FnHashPieces (written by gens/lpie.py).
-/
import Derived.Test.YtljpjbojdekeiaaDoorHmD
import Derived.Test.YtljpjbojdekeiaaDoorDrQ
import Derived.Test.YtljpjbojdekeiaaDoorRg5
import Derived.Test.YtljpjbojdekeiaaDoorLaidH
namespace Go.Proofs.YtljpjbojdekeiaaDoor
set_option maxRecDepth 100000
open Go Go.RowKit

theorem laid_pie {W : World} (h : laidMetH Tryd.prog Rows.fnHashPiecesRow.laid W) : HasH W := ⟨start_of (reads_ofH h (by kernel_rfl) (.head _)), steps_of (reads_ofH h (by kernel_rfl) (.tail _ (.head _)))⟩
theorem step_pickQ {ops : Array Oper} {Q : Exit → Act → World → Prop} {md : Region.Mode} {F : Nat → Fact} {a0 : Act} {w0 : World} {i : Nat} {o : Oper} {P : Program} (hi : ops[i]? = some o) (p q j k : Nat) {v : Value} {x : Value} (hop : o.op = .pick (.tmp p) (.const x) (.tmp q)) (hj : waits md ops i j p = true) (hk : waits md ops i k q = true) (hFj : F j = Fact.eq (.bool false)) (hFk : F k = Fact.eq v) (hFi : F i = Fact.eq v) : StepOk P md ops Q F a0 w0 i := by
  refine step_pure hi fun a w _ _ hf => ⟨v, ?_, by rw [hFi]; exact rfl⟩
  have h1 := hf j p hj
  have h2 := hf k q hk
  rw [hFj] at h1
  rw [hFk] at h2
  have g1 : a.eval (.tmp p) = .bool false := h1
  have g2 : a.eval (.tmp q) = v := h2
  have g3 : a.eval (.const x) = x := rfl
  simp only [execOp, hop, g1, g2, g3]
  rfl
/-- A list that may be read. -/
def RDf (g : Nat) (ys : List Int) : Fact := ⟨fun v w => ∃ (a : Option Addr) (c : Nat), v = .slice a ys.length c ∧ Rd w g a .u8 ys ∧ (a = none → c = 0), fun n h => by
  obtain ⟨a, c, e, r, k⟩ := h
  exact ⟨a, c, e, r.up n, k⟩⟩
/-- A state that has taken ys. -/
def SDh (B : Nat) (ys : List Int) : Fact := ⟨fun v w => SD w v B ys, fun n h => h.up n⟩
def STv (_ B : Nat) (ys : List Int) : Fact := SDh B ys
theorem C3.range3 {w : World} {p : Nat} {x y z : Value} (h : C3 w p x y z) : w.rangeAt p 0 [x, y, z] := fun j v hj => by
  match j, hj with
  | 0, hj => simp at hj; subst hj; exact h.c0
  | 1, hj => simp at hj; subst hj; exact h.c1
  | 2, hj => simp at hj; subst hj; exact h.c2
theorem C3.of_range {w : World} {p : Nat} {x y z : Value} (h : w.rangeAt p 0 [x, y, z]) : C3 w p x y z := ⟨h 0 x rfl, h 1 y rfl, h 2 z rfl⟩
/-- A part of a row of bytes. -/
theorem rd_cut {w : World} {g o : Nat} {xs : List Int} (h : Rd w g (some ⟨g, o, none⟩) .u8 xs) (t n : Nat) : Rd w g (some ⟨g, o + t, none⟩) .u8 ((xs.drop t).take n) := by
  intro h0
  rw [List.length_take, List.length_drop] at h0
  obtain ⟨o', e, hc⟩ := h (by omega)
  simp only [Option.some.injEq, Addr.mk.injEq, true_and, and_true] at e
  subst e
  refine ⟨o + t, rfl, fun i hi => ?_⟩
  rw [List.length_take, List.length_drop] at hi
  have := hc (t + i) (by omega)
  rw [List.getD_eq_getElem?_getD, List.getElem?_take, if_pos (by omega), List.getElem?_drop, ← List.getD_eq_getElem?_getD, Nat.add_assoc]
  exact this
theorem wrap_id {n : Int} (h0 : 0 ≤ n) (h1 : n ≤ 1099511627776) : IntKind.i64.wrap n = n := by
  simp [IntKind.wrap, IntKind.bits, IntKind.signed]
  omega
def cutA (g o c t : Nat) : Option Addr := if c = t then some ⟨g, o, none⟩ else some ⟨g, o + t, none⟩
theorem rd_cutA {w : World} {g o c : Nat} {xs : List Int} (h : Rd w g (some ⟨g, o, none⟩) .u8 xs) (hc : xs.length ≤ c) (t n : Nat) : Rd w g (cutA g o c t) .u8 ((xs.drop t).take n) := by
  unfold cutA
  split
  · rw [List.drop_eq_nil_of_le (by omega), List.take_nil]
    exact Rd.nil _ _ _ _
  · exact rd_cut h t n
theorem take_cut {ds : List Int} {t p : Nat} : ds.take t ++ (ds.drop t).take p = ds.take (t + p) := by rw [List.take_add]
theorem left_cut {ds : List Int} {u : Nat} (h : u ≤ ds.length) : left32 (ds.take u) = (ds.drop (u - u % 64)).take (u % 64) := by
  rw [left_is32, List.length_take, Nat.min_eq_left h, List.drop_take, show u - (u - u % 64) = u % 64 by omega]
set_option maxRecDepth 20000 in
set_option maxHeartbeats 8000000 in
theorem pie_law (w : World) (g0 : Nat) (a0 : Option Addr) (c0 : Nat) (X0 : List Int) (hX0 : Rd w g0 a0 .u8 X0) (bX0 : Byt X0) (g1 : Nat) (a1 : Option Addr) (c1 : Nat) (X1 : List Int) (hX1 : Rd w g1 a1 .u8 X1) (bX1 : Byt X1) (hL : HasH w) :
    Calls Tryd.prog 4 #[.slice a0 X0.length c0, .slice a1 X1.length c1] w fun e w' => e = .returned (.bool true) ∧ Below w.heap.size w w' := by
  obtain ⟨i0, hi, hz0, hz1, hz2⟩ := info_parts Tryd.info5
  obtain ⟨d3, hd3, hrow3⟩ := rowSt
  by_cases q0 : X0.length ≤ 1048576
  · have u0 : decide ((1048576 : Int) < (X0.length : Int)) = false := by simp; omega
    by_cases q1 : X1.length ≤ 1048576
    · have u1 : decide ((1048576 : Int) < (X1.length : Int)) = false := by simp; omega
      go_enter Tryd.func4, Tryd.ntmps4
      go_wp2_with fail
      refine (drawHashR_any w g0 a0 c0 X0 hX0 bX0 q0).mono ?_
      rintro e w1 ⟨d0, l0, b0', ⟨v1, rfl, R1⟩, n1⟩
      go_wp2_with fail
      refine (drawHashR_any w1 g1 a1 c1 X1 (hX1.up n1) bX1 q1).mono ?_
      rintro e w2 ⟨d1, l1, b1', ⟨v2, rfl, R2⟩, n2⟩
      obtain ⟨a2, c2, g2, rfl, o2, p2, q2, r2⟩ := R2.own
      obtain ⟨v3, w3, hap, R3, n3⟩ := append_any (P := Tryd.prog) w2 22 i0 Tryd.underlying22 hi hz0 hz1 hz2 w.heap.size w.heap.size _ d0 (R1.up n2) g2 a2 c2 d1 o2.rd p2 (by omega) (Nat.le_refl _) (nxt n1 n2).size
      have N3 := (nxt n1 n2).trans n3
      obtain ⟨ds, hds⟩ : ∃ l, l = d0 ++ d1 := ⟨_, rfl⟩
      have bd : Byt ds := by rw [hds]; exact byt_apd b0' b1'
      have ld : ds.length ≤ 10000 := by rw [hds, List.length_append]; omega
      rw [← hds] at R3
      clear hds b0' b1' l0 l1 R1 R2 o2 n1 n2 n3
      obtain ⟨ad, cd, gd, rfl, oD, pD, qD, rD⟩ := R3.own
      have gD3 := fun h => oD.rd.lt h
      clear R3
      go_wp2_with (at_builtin; refine Lib.wpList_append_run _ rfl _ _ 22 22 rfl _ _ rfl rfl _ _ hap ?_)
      clear hap
      refine (startD w3 (hL.1.up N3)).mono ?_
      rintro e w4 ⟨⟨v4, rfl, d4⟩, n4⟩
      have y3 := N3.size
      obtain ⟨y1, y2, z1, z2, f1, f2, rfl, oa, ob, k1, k2, k3, k4, k5, k6⟩ := d4
      have SD0 : SD w4 (.agg #[.int .i64 0, .slice y1 (tell32 (whole32 start32 [])).length z1, .slice y2 (left32 []).length z2]) w3.heap.size [] := ⟨y1, y2, z1, z2, f1, f2, rfl, oa, ob, k1, k2, k3, k4, k5, k6⟩
      have N4 := nxt N3 n4
      have oD4 := oD.up n4
      obtain ⟨LW, hLW⟩ : ∃ n, n = (tell32 (whole32 start32 [])).length := ⟨_, rfl⟩
      rw [← hLW] at SD0 ⊢
      have y34 := n4.size
      clear hLW oa ob k1 k2 k3 k4 k5 k6 oD n4
      go_upto_region 7 with fail
      have T4 := C3.new w4 (.int .i64 0) (.slice y1 LW z1) (.slice y2 0 z2) 26
      have m4 : Below w4.heap.size w4 (w4.alloc (.cells #[.int .i64 0, .slice y1 LW z1, .slice y2 0 z2] 26)) := (Below.refl _ _).alloc (Nat.le_refl _) _
      have TH4 : (w4.alloc (.cells #[.int .i64 0, .slice y1 LW z1, .slice y2 0 z2] 26)).there w4.heap.size 0 3 := there3 (x := .int .i64 0) (y := .slice y1 LW z1) (z := .slice y2 0 z2) (t := 26) (by show (w4.heap.push _)[w4.heap.size]? = _; simp)
      have SD5 := SD0.up m4
      have N5 := nxt N4 m4
      have oD5 := oD4.up m4
      change Code.wp _ _ _ _ (w4.alloc (.cells #[.int .i64 0, .slice y1 LW z1, .slice y2 0 z2] 26))
      generalize w4.alloc (.cells #[.int .i64 0, .slice y1 LW z1, .slice y2 0 z2] 26) = w5 at *
      have y4 := N4.size
      obtain ⟨q, hq⟩ : ∃ q, w4.heap.size = q := ⟨_, rfl⟩
      rw [hq] at T4 TH4 y4 ⊢
      have QN := hide hq
      clear hq SD0 oD4 m4
      have gq : 0 < ds.length → gd < q := fun h => by have := oD5.rd.lt h; have := QN.out; have := gD3 h; have := y34; omega
      go_wp2
      go_loopw [7, 8, 9] (fun at_ i _ wr => ∃ (t j b0 : Nat) (x0 x1 x2 : Value), at_ = .int .i64 (t : Int) ∧ i = .int .i64 (j : Int) ∧ t ≤ ds.length ∧ j ≤ 6 ∧ (j = 6 → t = ds.length) ∧ C3 wr q x0 x1 x2 ∧ wr.there q 0 3 ∧ SD wr (.agg #[x0, x1, x2]) b0 (ds.take t) ∧ Own wr gd ad .u8 ds ∧ Below w.heap.size w wr) (fun _ i _ _ => 6 - (intOf i).toNat)
      case atStart => exact ⟨0, 0, _, _, _, _, rfl, rfl, Nat.zero_le _, by omega, by omega, T4, TH4, SD5, oD5, N5⟩
      obtain ⟨t, j, b0, x0, x1, x2, rfl, rfl, ht, hj, h6, T, TH, SDv, oD, NR⟩ := hrel
      clear T4 TH4 SD5 oD5 N5
      by_cases hlt : j < 6 ∧ t < ds.length
      · have tj : decide ((j : Int) < 6) = true := by simp; omega
        have tt : decide ((t : Int) < (ds.length : Int)) = true := by simp; omega
        obtain ⟨od, ea, -⟩ := oD.rd (by omega)
        subst ea
        go_wp2_with fail
        refine (lwAt_any wr g1 a1 c1 X1 (j : Int) 150 (hX1.up NR) bX1 q1 (by omega) (by omega) (by decide) (by decide)).mono ?_
        rintro e w6 ⟨r, rfl, hr, m, rfl⟩
        have nb : Below wr.heap.size wr (wr.drewN m) := below_drewN (Below.refl _ _) m
        replace T := T.up nb
        replace TH := there_upn (by omega) TH nb
        replace SDv := SDv.up nb
        replace oD := oD.up nb
        replace NR := nxt NR nb
        have hq' := T.lt
        generalize wr.drewN m = wr at *
        clear nb
        have gdq := gq (by omega)
        rcases (show j = 5 ∨ (j ≠ 5 ∧ ds.length < t + r) ∨ (j ≠ 5 ∧ t + r ≤ ds.length) by omega) with c5 | c5 | c5
        · have k5 : ((j : Int) == 5) = true := by rw [c5]; rfl
          obtain ⟨p, hp⟩ : ∃ p, t + p = ds.length := ⟨ds.length - t, by omega⟩
          have ep : (ds.length : Int) - (t : Int) = (p : Int) := by omega
          have hp' : t + p ≤ ds.length := by omega
          have hp6 : j + 1 = 6 → t + p = ds.length := fun _ => hp
          have HP := hide hp
          have EP := hide ep
          clear hp ep c5
          go_upto_region 12 with fail
          rw [EP.out]
          obtain ⟨u, hu⟩ : ∃ u, u = t + p := ⟨_, rfl⟩
          obtain ⟨pc, hpc⟩ : ∃ l, l = (ds.drop t).take p := ⟨_, rfl⟩
          have PCe := hide hpc
          have lP : pc.length ≤ 1048576 := by rw [hpc, List.length_take, List.length_drop]; omega
          have LPc : u - t = pc.length := by rw [hpc, List.length_take, List.length_drop]; omega
          have bP : Byt pc := by rw [hpc]; exact byt_take (byt_drop bd t) p
          have bT : Byt (ds.take t) := byt_take bd t
          have TP : Hid (ds.take t ++ pc = ds.take u) := by show _ = _; rw [hpc, hu]; exact take_cut
          have LP : (ds.take t).length + pc.length ≤ 1099511627776 := by rw [List.length_take]; omega
          have WU : IntKind.i64.wrap ((t : Int) + (p : Int)) = (u : Int) := by rw [hu, Int.natCast_add]; exact wrap_id (by omega) (by omega)
          have TU : (t : Int) ≤ (u : Int) := by omega
          have UC : (u : Int) ≤ (cd : Int) := by omega
          have ud : u ≤ ds.length := by omega
          have u6 : j + 1 = 6 → u = ds.length := fun h => by rw [hu]; exact hp6 h
          have cdl := qD
          refine region_putF 9 8 6 59 _ (fun i => [STv wr.heap.size b0 (ds.take t), Fact.eq (.slice (some ⟨gd, od, none⟩) ds.length cd), Fact.eq (.int .i64 (t : Int)), Fact.eq (.int .i64 (t : Int)), Fact.eq (.int .i64 (p : Int)), Fact.eq (.int .i64 (u : Int)), RDf gd pc, RNh wr.heap.size pc, SDh wr.heap.size (ds.take u)].getD i Fact.no) q 0 26 (by kernel_rfl) (by kernel_rfl) rfl rfl rfl (by kernel_rfl) rfl (by kernel_rfl) ?_ ?_
          · intro i hi
            have hiN : i < 9 := hi
            obtain rfl | rfl | rfl | rfl | rfl | rfl | rfl | rfl | rfl : i = 0 ∨ i = 1 ∨ i = 2 ∨ i = 3 ∨ i = 4 ∨ i = 5 ∨ i = 6 ∨ i = 7 ∨ i = 8 := by omega
            · refine step_load rfl 26 (.tmp 6) rfl d3 3 hd3 hrow3 iSt fun A ww hb hw hf => ?_
              have e6 : A.tmps.getD 6 undef = .pointer (some ⟨q, 0, none⟩) := hb.2.2 6 (by kernel_rfl)
              exact ⟨q, 0, [x0, x1, x2], e6, (T.up hw).range3, rfl, SDv.up hw⟩
            · refine step_pure rfl fun A ww hb hw hf => ?_
              have e5 : A.tmps[5]?.getD undef = .slice (some ⟨gd, od, none⟩) ds.length cd := gdv (hb.2.2 5 (by kernel_rfl))
              exact ⟨.slice (some ⟨gd, od, none⟩) ds.length cd, by simp [go_sem, e5], rfl⟩
            · refine step_pure rfl fun A ww hb hw hf => ?_
              have e7 : A.tmps[7]?.getD undef = .int .i64 (t : Int) := gdv (hb.2.2 7 (by kernel_rfl))
              exact ⟨.int .i64 (t : Int), by simp [go_sem, e7], rfl⟩
            · refine step_pure rfl fun A ww hb hw hf => ?_
              have e7 : A.tmps[7]?.getD undef = .int .i64 (t : Int) := gdv (hb.2.2 7 (by kernel_rfl))
              exact ⟨.int .i64 (t : Int), by simp [go_sem, e7], rfl⟩
            · refine step_pure rfl fun A ww hb hw hf => ?_
              have e9 : A.tmps[9]?.getD undef = .int .i64 (p : Int) := gdv (hb.2.2 9 (by kernel_rfl))
              exact ⟨.int .i64 (p : Int), by simp [go_sem, e9], rfl⟩
            · refine step_pure rfl fun A ww hb hw hf => ?_
              have e54 : A.tmps[54]?.getD undef = .int .i64 (t : Int) := gdv (hf 3 54 (by kernel_rfl))
              have e55 : A.tmps[55]?.getD undef = .int .i64 (p : Int) := gdv (hf 4 55 (by kernel_rfl))
              exact ⟨.int .i64 (u : Int), by simp [go_sem, e54, e55, WU], rfl⟩
            · refine step_pure rfl fun A ww hb hw hf => ?_
              have e52 : A.tmps[52]?.getD undef = .slice (some ⟨gd, od, none⟩) ds.length cd := gdv (hf 1 52 (by kernel_rfl))
              have e53 : A.tmps[53]?.getD undef = .int .i64 (t : Int) := gdv (hf 2 53 (by kernel_rfl))
              have e56 : A.tmps[56]?.getD undef = .int .i64 (u : Int) := gdv (hf 5 56 (by kernel_rfl))
              exact ⟨.slice (cutA gd od cd t) pc.length (cd - t), by simp [go_sem, e52, e53, e56, TU, UC, LPc, cutA, Addr.add]; by_cases t0 : t = 0 <;> simp [t0], _, _, rfl, by rw [PCe.out]; exact rd_cutA (oD.rd.up hw) cdl t p, by unfold cutA; split <;> simp⟩
            · refine step_callv rfl 19 _ _ rfl (by kernel_rfl) fun A ww hb hw hf => ?_
              obtain ⟨a8, c8, e9, r8⟩ := hf 6 57 (by kernel_rfl)
              show Calls Tryd.prog 19 #[A.tmps.getD 57 undef] ww _
              rw [e9]
              exact (lwCopy_any ww gd a8 c8 pc r8.1 r8.2 lP).mono (by rintro r w' ⟨⟨a1, c1, g1, rfl, o1, p1, q1, r1⟩, n⟩; exact ⟨_, rfl, n, a1, c1, g1, rfl, o1, p1, q1, Nat.le_trans hw.size r1⟩)
            · refine step_callv rfl 17 _ _ rfl (by kernel_rfl) fun A ww hb hw hf => ?_
              obtain ⟨a9, c9, g9, e9, o9, p9, q9, r9⟩ := hf 7 58 (by kernel_rfl)
              have s9 : SD ww (A.tmps.getD 51 undef) b0 (ds.take t) := hf 0 51 (by kernel_rfl)
              show Calls Tryd.prog 17 #[A.tmps.getD 51 undef, A.tmps.getD 58 undef] ww _
              rw [e9]
              have MD := moreD ww _ b0 (ds.take t) s9 bT g9 a9 c9 pc o9.rd bP q9 LP (hL.2.up (nxt NR hw))
              rw [TP.out] at MD
              exact MD.mono (by rintro r w' ⟨⟨v, rfl, s⟩, n⟩; exact ⟨_, rfl, n, s.le hw.size⟩)
          intro vs7 W v hw hv3
          have hv3 : SD W v wr.heap.size (ds.take u) := hv3
          have ut := Nat.min_eq_left ud
          have hv4 : ST3 W v wr.heap.size (((ds.take u).length : Nat) : Int) (tell32 (whole32 start32 (ds.take u))) (left32 (ds.take u)) := hv3
          have e1 : (((ds.take u).length : Nat) : Int) = (u : Int) := by rw [List.length_take, ut]
          obtain ⟨ws, hws⟩ : ∃ l, l = tell32 (whole32 start32 (ds.take u)) := ⟨_, rfl⟩
          obtain ⟨rs, hrs⟩ : ∃ l, l = left32 (ds.take u) := ⟨_, rfl⟩
          rw [e1, ← hws, ← hrs] at hv4
          clear hv3
          obtain ⟨y1, y2, z1, z2, f1, f2, rfl, oA, oR, k1, k2, k3, k4, k5', k6'⟩ := hv4
          have th := there_upn (by omega) TH hw
          refine ⟨[.int .i64 (u : Int), .slice y1 ws.length z1, .slice y2 rs.length z2], rfl, th, iSt, one3 _ _ _ _ _ _ _, ?_⟩
          have RR := World.rangeAt_setCells_same W q 0 [.int .i64 (u : Int), .slice y1 ws.length z1, .slice y2 rs.length z2] th
          have OQ := only_setCells W q [.int .i64 (u : Int), .slice y1 ws.length z1, .slice y2 rs.length z2] 0
          have TH2 := World.there_setCells th q 0 [.int .i64 (u : Int), .slice y1 ws.length z1, .slice y2 rs.length z2]
          have NR2 : Below w.heap.size w (W.setCells q 0 [.int .i64 (u : Int), .slice y1 ws.length z1, .slice y2 rs.length z2]) := (nxt NR hw).trans (OQ.below (by have := QN.out; omega))
          have oA' := oA.only OQ (fun _ => by omega)
          have oR' := oR.only OQ (fun _ => by omega)
          have oD' := (oD.up hw).only OQ (fun _ => by omega)
          have SD2 : SD (W.setCells q 0 [.int .i64 (u : Int), .slice y1 ws.length z1, .slice y2 rs.length z2]) (.agg #[.int .i64 (u : Int), .slice y1 ws.length z1, .slice y2 rs.length z2]) wr.heap.size (ds.take u) := by
            show ST3 _ _ _ _ _ _
            rw [e1, ← hws, ← hrs]
            exact ⟨y1, y2, z1, z2, f1, f2, rfl, oA', oR', k1, k2, k3, k4, k5', k6'⟩
          have T2 := C3.of_range RR
          obtain ⟨k, hk⟩ : ∃ k, k = u - u % 64 := ⟨_, rfl⟩
          obtain ⟨m, hm⟩ : ∃ m, m = u % 64 := ⟨_, rfl⟩
          have RSe : Hid (rs = (ds.drop k).take m) := by show _ = _; rw [hrs, hk, hm]; exact left_cut ud
          have LRs : u - k = rs.length := by rw [RSe.out, List.length_take, List.length_drop]; omega
          have WM : (u : Int).tmod 64 = (m : Int) := by rw [Int.tmod_eq_emod_of_nonneg (by omega)]; omega
          have RM : (rs.length : Int) = (m : Int) := by omega
          have WK : IntKind.i64.wrap ((u : Int) - (m : Int)) = (k : Int) := by rw [show (u : Int) - (m : Int) = (k : Int) by omega]; exact wrap_id (by omega) (by omega)
          have KU : (k : Int) ≤ (u : Int) := by omega
          generalize W.setCells q 0 [.int .i64 (u : Int), .slice y1 ws.length z1, .slice y2 rs.length z2] = w7 at *
          simp only [puts, Act.put, List.setIfInBounds_toArray, List.set_cons_succ, List.set_cons_zero]
          clear oA oR OQ th TH RR hw NR T SDv oD oA' hws hrs hk hm e1
          have HU := hide hu
          have ut' : (t : Int) + (p : Int) = (u : Int) := by omega
          clear hu hpc TP
          go_upto_region 14 with fail
          first | rw [ut'] | skip
          have T := T2
          have oD := oD'
          have oR := oR'
          clear T2 oD' oR'
          refine region_guard (fun i => [Fact.eq (.pointer (some ⟨q, 0, none⟩)), Fact.eq (.int .i64 (u : Int)), Fact.eq (.int .i64 (u : Int)), Fact.eq (.bool false), Fact.eq (.bool false), Fact.eq (.pointer (some ⟨q, 2, none⟩)), Fact.eq (.slice y2 rs.length z2), Fact.eq (.int .i64 (rs.length : Int)), Fact.eq (.int .i64 (u : Int)), Fact.eq (.int .i64 (m : Int)), Fact.eq (.bool false), Fact.eq (.bool false), Fact.eq (.bool false), Fact.eq (.pointer (some ⟨q, 2, none⟩)), Fact.eq (.slice y2 rs.length z2), Fact.eq (.slice (some ⟨gd, od, none⟩) ds.length cd), Fact.eq (.int .i64 (u : Int)), Fact.eq (.int .i64 (u : Int)), Fact.eq (.int .i64 (m : Int)), Fact.eq (.int .i64 (k : Int)), Fact.eq (.int .i64 (u : Int)), RDf gd rs, Fact.eq (.bool true), Fact.eq (.bool false), Fact.eq (.bool false)].getD i Fact.no) (by kernel_rfl) (by kernel_rfl) ?_ ?_ ?_
          · intro i hi
            have hiN : i < 25 := hi
            obtain rfl | rfl | rfl | rfl | rfl | rfl | rfl | rfl | rfl | rfl | rfl | rfl | rfl | rfl | rfl | rfl | rfl | rfl | rfl | rfl | rfl | rfl | rfl | rfl | rfl : i = 0 ∨ i = 1 ∨ i = 2 ∨ i = 3 ∨ i = 4 ∨ i = 5 ∨ i = 6 ∨ i = 7 ∨ i = 8 ∨ i = 9 ∨ i = 10 ∨ i = 11 ∨ i = 12 ∨ i = 13 ∨ i = 14 ∨ i = 15 ∨ i = 16 ∨ i = 17 ∨ i = 18 ∨ i = 19 ∨ i = 20 ∨ i = 21 ∨ i = 22 ∨ i = 23 ∨ i = 24 := by omega
            · refine step_pure rfl fun A ww hb hw hf => ?_
              have e6 : A.tmps[6]?.getD undef = .pointer (some ⟨q, 0, none⟩) := gdv (hb.2.2 6 (by kernel_rfl))
              exact ⟨.pointer (some ⟨q, 0, none⟩), by simp [go_sem, e6], rfl⟩
            · refine step_pure rfl fun A ww hb hw hf => ?_
              have e63 : A.tmps[63]?.getD undef = .pointer (some ⟨q, 0, none⟩) := gdv (hf 0 63 (by kernel_rfl))
              have hc := (T.up hw).c0
              exact ⟨.int .i64 (u : Int), by simp [go_sem, e63, hc], rfl⟩
            · refine step_pure rfl fun A ww hb hw hf => ?_
              have e7 : A.tmps[7]?.getD undef = .int .i64 (u : Int) := gdv (hb.2.2 7 (by kernel_rfl))
              exact ⟨.int .i64 (u : Int), by simp [go_sem, e7], rfl⟩
            · refine step_pure rfl fun A ww hb hw hf => ?_
              have e64 : A.tmps[64]?.getD undef = .int .i64 (u : Int) := gdv (hf 1 64 (by kernel_rfl))
              have e65 : A.tmps[65]?.getD undef = .int .i64 (u : Int) := gdv (hf 2 65 (by kernel_rfl))
              exact ⟨.bool false, by simp [go_sem, e64, e65], rfl⟩
            · refine step_pure rfl fun A ww hb hw hf => ?_
              have e66 : A.tmps[66]?.getD undef = .bool false := gdv (hf 3 66 (by kernel_rfl))
              exact ⟨.bool false, by simp [go_sem, e66], rfl⟩
            · refine step_pure rfl fun A ww hb hw hf => ?_
              have e6 : A.tmps[6]?.getD undef = .pointer (some ⟨q, 0, none⟩) := gdv (hb.2.2 6 (by kernel_rfl))
              exact ⟨.pointer (some ⟨q, 2, none⟩), by simp [go_sem, e6], rfl⟩
            · refine step_pure rfl fun A ww hb hw hf => ?_
              have e68 : A.tmps[68]?.getD undef = .pointer (some ⟨q, 2, none⟩) := gdv (hf 5 68 (by kernel_rfl))
              have hc := (T.up hw).c2
              exact ⟨.slice y2 rs.length z2, by simp [go_sem, e68, hc], rfl⟩
            · refine step_pure rfl fun A ww hb hw hf => ?_
              have e69 : A.tmps[69]?.getD undef = .slice y2 rs.length z2 := gdv (hf 6 69 (by kernel_rfl))
              exact ⟨.int .i64 (rs.length : Int), by simp [go_sem, e69], rfl⟩
            · refine step_pure rfl fun A ww hb hw hf => ?_
              have e7 : A.tmps[7]?.getD undef = .int .i64 (u : Int) := gdv (hb.2.2 7 (by kernel_rfl))
              exact ⟨.int .i64 (u : Int), by simp [go_sem, e7], rfl⟩
            · refine step_pure rfl fun A ww hb hw hf => ?_
              have e71 : A.tmps[71]?.getD undef = .int .i64 (u : Int) := gdv (hf 8 71 (by kernel_rfl))
              exact ⟨.int .i64 (m : Int), by simp [go_sem, e71, WM], rfl⟩
            · refine step_pure rfl fun A ww hb hw hf => ?_
              have e70 : A.tmps[70]?.getD undef = .int .i64 (rs.length : Int) := gdv (hf 7 70 (by kernel_rfl))
              have e72 : A.tmps[72]?.getD undef = .int .i64 (m : Int) := gdv (hf 9 72 (by kernel_rfl))
              exact ⟨.bool false, by simp [go_sem, e70, e72, RM], rfl⟩
            · exact step_pickQ rfl 67 73 4 10 rfl (by kernel_rfl) (by kernel_rfl) rfl rfl rfl
            · refine step_pure rfl fun A ww hb hw hf => ?_
              have e74 : A.tmps[74]?.getD undef = .bool false := gdv (hf 11 74 (by kernel_rfl))
              exact ⟨.bool false, by simp [go_sem, e74], rfl⟩
            · refine step_pure rfl fun A ww hb hw hf => ?_
              have e6 : A.tmps[6]?.getD undef = .pointer (some ⟨q, 0, none⟩) := gdv (hb.2.2 6 (by kernel_rfl))
              exact ⟨.pointer (some ⟨q, 2, none⟩), by simp [go_sem, e6], rfl⟩
            · refine step_pure rfl fun A ww hb hw hf => ?_
              have e76 : A.tmps[76]?.getD undef = .pointer (some ⟨q, 2, none⟩) := gdv (hf 13 76 (by kernel_rfl))
              have hc := (T.up hw).c2
              exact ⟨.slice y2 rs.length z2, by simp [go_sem, e76, hc], rfl⟩
            · refine step_pure rfl fun A ww hb hw hf => ?_
              have e5 : A.tmps[5]?.getD undef = .slice (some ⟨gd, od, none⟩) ds.length cd := gdv (hb.2.2 5 (by kernel_rfl))
              exact ⟨.slice (some ⟨gd, od, none⟩) ds.length cd, by simp [go_sem, e5], rfl⟩
            · refine step_pure rfl fun A ww hb hw hf => ?_
              have e7 : A.tmps[7]?.getD undef = .int .i64 (u : Int) := gdv (hb.2.2 7 (by kernel_rfl))
              exact ⟨.int .i64 (u : Int), by simp [go_sem, e7], rfl⟩
            · refine step_pure rfl fun A ww hb hw hf => ?_
              have e7 : A.tmps[7]?.getD undef = .int .i64 (u : Int) := gdv (hb.2.2 7 (by kernel_rfl))
              exact ⟨.int .i64 (u : Int), by simp [go_sem, e7], rfl⟩
            · refine step_pure rfl fun A ww hb hw hf => ?_
              have e80 : A.tmps[80]?.getD undef = .int .i64 (u : Int) := gdv (hf 17 80 (by kernel_rfl))
              exact ⟨.int .i64 (m : Int), by simp [go_sem, e80, WM], rfl⟩
            · refine step_pure rfl fun A ww hb hw hf => ?_
              have e79 : A.tmps[79]?.getD undef = .int .i64 (u : Int) := gdv (hf 16 79 (by kernel_rfl))
              have e81 : A.tmps[81]?.getD undef = .int .i64 (m : Int) := gdv (hf 18 81 (by kernel_rfl))
              exact ⟨.int .i64 (k : Int), by simp [go_sem, e79, e81, WK], rfl⟩
            · refine step_pure rfl fun A ww hb hw hf => ?_
              have e7 : A.tmps[7]?.getD undef = .int .i64 (u : Int) := gdv (hb.2.2 7 (by kernel_rfl))
              exact ⟨.int .i64 (u : Int), by simp [go_sem, e7], rfl⟩
            · refine step_pure rfl fun A ww hb hw hf => ?_
              have e78 : A.tmps[78]?.getD undef = .slice (some ⟨gd, od, none⟩) ds.length cd := gdv (hf 15 78 (by kernel_rfl))
              have e82 : A.tmps[82]?.getD undef = .int .i64 (k : Int) := gdv (hf 19 82 (by kernel_rfl))
              have e83 : A.tmps[83]?.getD undef = .int .i64 (u : Int) := gdv (hf 20 83 (by kernel_rfl))
              exact ⟨.slice (cutA gd od cd k) rs.length (cd - k), by simp [go_sem, e78, e82, e83, KU, UC, LRs, cutA, Addr.add]; by_cases t0 : k = 0 <;> simp [t0], _, _, rfl, by rw [RSe.out]; exact rd_cutA (oD.rd.up hw) cdl k m, by unfold cutA; split <;> simp⟩
            · refine step_callv rfl 20 _ _ rfl (by kernel_rfl) fun A ww hb hw hf => ?_
              have e6 : A.tmps.getD 77 undef = .slice y2 rs.length z2 := hf 14 77 (by kernel_rfl)
              obtain ⟨a8, c8, e9, r8⟩ := hf 21 84 (by kernel_rfl)
              show Calls Tryd.prog 20 #[A.tmps.getD 77 undef, A.tmps.getD 84 undef] ww _
              rw [e6, e9]
              exact (lwSame_same ww _ _ _ _ _ _ rs (oR.up hw).rd r8.1).mono (by rintro r w' ⟨rfl, rfl⟩; exact ⟨_, rfl, Below.refl _ _, rfl⟩)
            · refine step_pure rfl fun A ww hb hw hf => ?_
              have e85 : A.tmps[85]?.getD undef = .bool true := gdv (hf 22 85 (by kernel_rfl))
              exact ⟨.bool false, by simp [go_sem, e85], rfl⟩
            · exact step_pickQ rfl 75 86 12 23 rfl (by kernel_rfl) (by kernel_rfl) rfl rfl rfl
          · intro i o ho A W hf
            have hiN : i < 25 := (Array.getElem?_eq_some_iff.1 ho).1
            obtain rfl | rfl | rfl | rfl | rfl | rfl | rfl | rfl | rfl | rfl | rfl | rfl | rfl | rfl | rfl | rfl | rfl | rfl | rfl | rfl | rfl | rfl | rfl | rfl | rfl : i = 0 ∨ i = 1 ∨ i = 2 ∨ i = 3 ∨ i = 4 ∨ i = 5 ∨ i = 6 ∨ i = 7 ∨ i = 8 ∨ i = 9 ∨ i = 10 ∨ i = 11 ∨ i = 12 ∨ i = 13 ∨ i = 14 ∨ i = 15 ∨ i = 16 ∨ i = 17 ∨ i = 18 ∨ i = 19 ∨ i = 20 ∨ i = 21 ∨ i = 22 ∨ i = 23 ∨ i = 24 := by omega
            · cases ho; exact wanted_none rfl
            · cases ho; exact wanted_none rfl
            · cases ho; exact wanted_none rfl
            · cases ho; exact wanted_none rfl
            · cases ho; exact wanted_none rfl
            · cases ho; exact wanted_some rfl (by kernel_rfl) (hf 4 67 (by kernel_rfl))
            · cases ho; exact wanted_some rfl (by kernel_rfl) (hf 4 67 (by kernel_rfl))
            · cases ho; exact wanted_some rfl (by kernel_rfl) (hf 4 67 (by kernel_rfl))
            · cases ho; exact wanted_some rfl (by kernel_rfl) (hf 4 67 (by kernel_rfl))
            · cases ho; exact wanted_some rfl (by kernel_rfl) (hf 4 67 (by kernel_rfl))
            · cases ho; exact wanted_some rfl (by kernel_rfl) (hf 4 67 (by kernel_rfl))
            · cases ho; exact wanted_none rfl
            · cases ho; exact wanted_none rfl
            · cases ho; exact wanted_some rfl (by kernel_rfl) (hf 12 75 (by kernel_rfl))
            · cases ho; exact wanted_some rfl (by kernel_rfl) (hf 12 75 (by kernel_rfl))
            · cases ho; exact wanted_some rfl (by kernel_rfl) (hf 12 75 (by kernel_rfl))
            · cases ho; exact wanted_some rfl (by kernel_rfl) (hf 12 75 (by kernel_rfl))
            · cases ho; exact wanted_some rfl (by kernel_rfl) (hf 12 75 (by kernel_rfl))
            · cases ho; exact wanted_some rfl (by kernel_rfl) (hf 12 75 (by kernel_rfl))
            · cases ho; exact wanted_some rfl (by kernel_rfl) (hf 12 75 (by kernel_rfl))
            · cases ho; exact wanted_some rfl (by kernel_rfl) (hf 12 75 (by kernel_rfl))
            · cases ho; exact wanted_some rfl (by kernel_rfl) (hf 12 75 (by kernel_rfl))
            · cases ho; exact wanted_some rfl (by kernel_rfl) (hf 12 75 (by kernel_rfl))
            · cases ho; exact wanted_some rfl (by kernel_rfl) (hf 12 75 (by kernel_rfl))
            · cases ho; exact wanted_none rfl
          intro A W8 hb' hw hF
          have e2 := hF 24 87 (by kernel_rfl)
          obtain ⟨vs, hvs⟩ : ∃ vs : Nat → Value, ∀ d, A.tmps.getD d undef = vs d := ⟨_, fun _ => rfl⟩
          rw [hvs] at e2
          rw [puts_guard (md := .any) (by kernel_rfl) rfl hb' vs hvs]
          clear hb' hF hvs
          have e3 : vs 87 = .bool false := e2
          clear e2
          simp only [puts, e3, Act.put, List.setIfInBounds_toArray, List.set_cons_succ, List.set_cons_zero]
          clear e3
          have T9 := T.up hw
          have TH9 := there_upn (by omega) TH2 hw
          have SD9 := SD2.up hw
          have oD9 := oD.up hw
          have NR9 := nxt NR2 hw
          clear T TH2 SD2 oD NR2 hw oR
          go_wp2
          go_roundw
          case rel => exact ⟨u, j + 1, _, _, _, _, rfl, by go_num, ud, by omega, u6, T9, TH9, SD9, oD9, NR9⟩
          case measure => simp [intOf]; omega
        · have k5 : ((j : Int) == 5) = false := by simp; omega
          have k6 : decide ((ds.length : Int) < (t : Int) + (r : Int)) = true := by simp; omega
          obtain ⟨p, hp⟩ : ∃ p, t + p = ds.length := ⟨ds.length - t, by omega⟩
          have ep : (ds.length : Int) - (t : Int) = (p : Int) := by omega
          have hp' : t + p ≤ ds.length := by omega
          have hp6 : j + 1 = 6 → t + p = ds.length := fun _ => hp
          have EP := hide ep
          clear hp ep c5
          go_upto_region 12 with fail
          rw [EP.out]
          obtain ⟨u, hu⟩ : ∃ u, u = t + p := ⟨_, rfl⟩
          obtain ⟨pc, hpc⟩ : ∃ l, l = (ds.drop t).take p := ⟨_, rfl⟩
          have PCe := hide hpc
          have lP : pc.length ≤ 1048576 := by rw [hpc, List.length_take, List.length_drop]; omega
          have LPc : u - t = pc.length := by rw [hpc, List.length_take, List.length_drop]; omega
          have bP : Byt pc := by rw [hpc]; exact byt_take (byt_drop bd t) p
          have bT : Byt (ds.take t) := byt_take bd t
          have TP : Hid (ds.take t ++ pc = ds.take u) := by show _ = _; rw [hpc, hu]; exact take_cut
          have LP : (ds.take t).length + pc.length ≤ 1099511627776 := by rw [List.length_take]; omega
          have WU : IntKind.i64.wrap ((t : Int) + (p : Int)) = (u : Int) := by rw [hu, Int.natCast_add]; exact wrap_id (by omega) (by omega)
          have TU : (t : Int) ≤ (u : Int) := by omega
          have UC : (u : Int) ≤ (cd : Int) := by omega
          have ud : u ≤ ds.length := by omega
          have u6 : j + 1 = 6 → u = ds.length := fun h => by rw [hu]; exact hp6 h
          have cdl := qD
          refine region_putF 9 8 6 59 _ (fun i => [STv wr.heap.size b0 (ds.take t), Fact.eq (.slice (some ⟨gd, od, none⟩) ds.length cd), Fact.eq (.int .i64 (t : Int)), Fact.eq (.int .i64 (t : Int)), Fact.eq (.int .i64 (p : Int)), Fact.eq (.int .i64 (u : Int)), RDf gd pc, RNh wr.heap.size pc, SDh wr.heap.size (ds.take u)].getD i Fact.no) q 0 26 (by kernel_rfl) (by kernel_rfl) rfl rfl rfl (by kernel_rfl) rfl (by kernel_rfl) ?_ ?_
          · intro i hi
            have hiN : i < 9 := hi
            obtain rfl | rfl | rfl | rfl | rfl | rfl | rfl | rfl | rfl : i = 0 ∨ i = 1 ∨ i = 2 ∨ i = 3 ∨ i = 4 ∨ i = 5 ∨ i = 6 ∨ i = 7 ∨ i = 8 := by omega
            · refine step_load rfl 26 (.tmp 6) rfl d3 3 hd3 hrow3 iSt fun A ww hb hw hf => ?_
              have e6 : A.tmps.getD 6 undef = .pointer (some ⟨q, 0, none⟩) := hb.2.2 6 (by kernel_rfl)
              exact ⟨q, 0, [x0, x1, x2], e6, (T.up hw).range3, rfl, SDv.up hw⟩
            · refine step_pure rfl fun A ww hb hw hf => ?_
              have e5 : A.tmps[5]?.getD undef = .slice (some ⟨gd, od, none⟩) ds.length cd := gdv (hb.2.2 5 (by kernel_rfl))
              exact ⟨.slice (some ⟨gd, od, none⟩) ds.length cd, by simp [go_sem, e5], rfl⟩
            · refine step_pure rfl fun A ww hb hw hf => ?_
              have e7 : A.tmps[7]?.getD undef = .int .i64 (t : Int) := gdv (hb.2.2 7 (by kernel_rfl))
              exact ⟨.int .i64 (t : Int), by simp [go_sem, e7], rfl⟩
            · refine step_pure rfl fun A ww hb hw hf => ?_
              have e7 : A.tmps[7]?.getD undef = .int .i64 (t : Int) := gdv (hb.2.2 7 (by kernel_rfl))
              exact ⟨.int .i64 (t : Int), by simp [go_sem, e7], rfl⟩
            · refine step_pure rfl fun A ww hb hw hf => ?_
              have e9 : A.tmps[9]?.getD undef = .int .i64 (p : Int) := gdv (hb.2.2 9 (by kernel_rfl))
              exact ⟨.int .i64 (p : Int), by simp [go_sem, e9], rfl⟩
            · refine step_pure rfl fun A ww hb hw hf => ?_
              have e54 : A.tmps[54]?.getD undef = .int .i64 (t : Int) := gdv (hf 3 54 (by kernel_rfl))
              have e55 : A.tmps[55]?.getD undef = .int .i64 (p : Int) := gdv (hf 4 55 (by kernel_rfl))
              exact ⟨.int .i64 (u : Int), by simp [go_sem, e54, e55, WU], rfl⟩
            · refine step_pure rfl fun A ww hb hw hf => ?_
              have e52 : A.tmps[52]?.getD undef = .slice (some ⟨gd, od, none⟩) ds.length cd := gdv (hf 1 52 (by kernel_rfl))
              have e53 : A.tmps[53]?.getD undef = .int .i64 (t : Int) := gdv (hf 2 53 (by kernel_rfl))
              have e56 : A.tmps[56]?.getD undef = .int .i64 (u : Int) := gdv (hf 5 56 (by kernel_rfl))
              exact ⟨.slice (cutA gd od cd t) pc.length (cd - t), by simp [go_sem, e52, e53, e56, TU, UC, LPc, cutA, Addr.add]; by_cases t0 : t = 0 <;> simp [t0], _, _, rfl, by rw [PCe.out]; exact rd_cutA (oD.rd.up hw) cdl t p, by unfold cutA; split <;> simp⟩
            · refine step_callv rfl 19 _ _ rfl (by kernel_rfl) fun A ww hb hw hf => ?_
              obtain ⟨a8, c8, e9, r8⟩ := hf 6 57 (by kernel_rfl)
              show Calls Tryd.prog 19 #[A.tmps.getD 57 undef] ww _
              rw [e9]
              exact (lwCopy_any ww gd a8 c8 pc r8.1 r8.2 lP).mono (by rintro r w' ⟨⟨a1, c1, g1, rfl, o1, p1, q1, r1⟩, n⟩; exact ⟨_, rfl, n, a1, c1, g1, rfl, o1, p1, q1, Nat.le_trans hw.size r1⟩)
            · refine step_callv rfl 17 _ _ rfl (by kernel_rfl) fun A ww hb hw hf => ?_
              obtain ⟨a9, c9, g9, e9, o9, p9, q9, r9⟩ := hf 7 58 (by kernel_rfl)
              have s9 : SD ww (A.tmps.getD 51 undef) b0 (ds.take t) := hf 0 51 (by kernel_rfl)
              show Calls Tryd.prog 17 #[A.tmps.getD 51 undef, A.tmps.getD 58 undef] ww _
              rw [e9]
              have MD := moreD ww _ b0 (ds.take t) s9 bT g9 a9 c9 pc o9.rd bP q9 LP (hL.2.up (nxt NR hw))
              rw [TP.out] at MD
              exact MD.mono (by rintro r w' ⟨⟨v, rfl, s⟩, n⟩; exact ⟨_, rfl, n, s.le hw.size⟩)
          intro vs7 W v hw hv3
          have hv3 : SD W v wr.heap.size (ds.take u) := hv3
          have ut := Nat.min_eq_left ud
          have hv4 : ST3 W v wr.heap.size (((ds.take u).length : Nat) : Int) (tell32 (whole32 start32 (ds.take u))) (left32 (ds.take u)) := hv3
          have e1 : (((ds.take u).length : Nat) : Int) = (u : Int) := by rw [List.length_take, ut]
          obtain ⟨ws, hws⟩ : ∃ l, l = tell32 (whole32 start32 (ds.take u)) := ⟨_, rfl⟩
          obtain ⟨rs, hrs⟩ : ∃ l, l = left32 (ds.take u) := ⟨_, rfl⟩
          rw [e1, ← hws, ← hrs] at hv4
          clear hv3
          obtain ⟨y1, y2, z1, z2, f1, f2, rfl, oA, oR, k1, k2, k3, k4, k5', k6'⟩ := hv4
          have th := there_upn (by omega) TH hw
          refine ⟨[.int .i64 (u : Int), .slice y1 ws.length z1, .slice y2 rs.length z2], rfl, th, iSt, one3 _ _ _ _ _ _ _, ?_⟩
          have RR := World.rangeAt_setCells_same W q 0 [.int .i64 (u : Int), .slice y1 ws.length z1, .slice y2 rs.length z2] th
          have OQ := only_setCells W q [.int .i64 (u : Int), .slice y1 ws.length z1, .slice y2 rs.length z2] 0
          have TH2 := World.there_setCells th q 0 [.int .i64 (u : Int), .slice y1 ws.length z1, .slice y2 rs.length z2]
          have NR2 : Below w.heap.size w (W.setCells q 0 [.int .i64 (u : Int), .slice y1 ws.length z1, .slice y2 rs.length z2]) := (nxt NR hw).trans (OQ.below (by have := QN.out; omega))
          have oA' := oA.only OQ (fun _ => by omega)
          have oR' := oR.only OQ (fun _ => by omega)
          have oD' := (oD.up hw).only OQ (fun _ => by omega)
          have SD2 : SD (W.setCells q 0 [.int .i64 (u : Int), .slice y1 ws.length z1, .slice y2 rs.length z2]) (.agg #[.int .i64 (u : Int), .slice y1 ws.length z1, .slice y2 rs.length z2]) wr.heap.size (ds.take u) := by
            show ST3 _ _ _ _ _ _
            rw [e1, ← hws, ← hrs]
            exact ⟨y1, y2, z1, z2, f1, f2, rfl, oA', oR', k1, k2, k3, k4, k5', k6'⟩
          have T2 := C3.of_range RR
          obtain ⟨k, hk⟩ : ∃ k, k = u - u % 64 := ⟨_, rfl⟩
          obtain ⟨m, hm⟩ : ∃ m, m = u % 64 := ⟨_, rfl⟩
          have RSe : Hid (rs = (ds.drop k).take m) := by show _ = _; rw [hrs, hk, hm]; exact left_cut ud
          have LRs : u - k = rs.length := by rw [RSe.out, List.length_take, List.length_drop]; omega
          have WM : (u : Int).tmod 64 = (m : Int) := by rw [Int.tmod_eq_emod_of_nonneg (by omega)]; omega
          have RM : (rs.length : Int) = (m : Int) := by omega
          have WK : IntKind.i64.wrap ((u : Int) - (m : Int)) = (k : Int) := by rw [show (u : Int) - (m : Int) = (k : Int) by omega]; exact wrap_id (by omega) (by omega)
          have KU : (k : Int) ≤ (u : Int) := by omega
          generalize W.setCells q 0 [.int .i64 (u : Int), .slice y1 ws.length z1, .slice y2 rs.length z2] = w7 at *
          simp only [puts, Act.put, List.setIfInBounds_toArray, List.set_cons_succ, List.set_cons_zero]
          clear oA oR OQ th TH RR hw NR T SDv oD oA' hws hrs hk hm e1
          have HU := hide hu
          have ut' : (t : Int) + (p : Int) = (u : Int) := by omega
          clear hu hpc TP
          go_upto_region 14 with fail
          first | rw [ut'] | skip
          have T := T2
          have oD := oD'
          have oR := oR'
          clear T2 oD' oR'
          refine region_guard (fun i => [Fact.eq (.pointer (some ⟨q, 0, none⟩)), Fact.eq (.int .i64 (u : Int)), Fact.eq (.int .i64 (u : Int)), Fact.eq (.bool false), Fact.eq (.bool false), Fact.eq (.pointer (some ⟨q, 2, none⟩)), Fact.eq (.slice y2 rs.length z2), Fact.eq (.int .i64 (rs.length : Int)), Fact.eq (.int .i64 (u : Int)), Fact.eq (.int .i64 (m : Int)), Fact.eq (.bool false), Fact.eq (.bool false), Fact.eq (.bool false), Fact.eq (.pointer (some ⟨q, 2, none⟩)), Fact.eq (.slice y2 rs.length z2), Fact.eq (.slice (some ⟨gd, od, none⟩) ds.length cd), Fact.eq (.int .i64 (u : Int)), Fact.eq (.int .i64 (u : Int)), Fact.eq (.int .i64 (m : Int)), Fact.eq (.int .i64 (k : Int)), Fact.eq (.int .i64 (u : Int)), RDf gd rs, Fact.eq (.bool true), Fact.eq (.bool false), Fact.eq (.bool false)].getD i Fact.no) (by kernel_rfl) (by kernel_rfl) ?_ ?_ ?_
          · intro i hi
            have hiN : i < 25 := hi
            obtain rfl | rfl | rfl | rfl | rfl | rfl | rfl | rfl | rfl | rfl | rfl | rfl | rfl | rfl | rfl | rfl | rfl | rfl | rfl | rfl | rfl | rfl | rfl | rfl | rfl : i = 0 ∨ i = 1 ∨ i = 2 ∨ i = 3 ∨ i = 4 ∨ i = 5 ∨ i = 6 ∨ i = 7 ∨ i = 8 ∨ i = 9 ∨ i = 10 ∨ i = 11 ∨ i = 12 ∨ i = 13 ∨ i = 14 ∨ i = 15 ∨ i = 16 ∨ i = 17 ∨ i = 18 ∨ i = 19 ∨ i = 20 ∨ i = 21 ∨ i = 22 ∨ i = 23 ∨ i = 24 := by omega
            · refine step_pure rfl fun A ww hb hw hf => ?_
              have e6 : A.tmps[6]?.getD undef = .pointer (some ⟨q, 0, none⟩) := gdv (hb.2.2 6 (by kernel_rfl))
              exact ⟨.pointer (some ⟨q, 0, none⟩), by simp [go_sem, e6], rfl⟩
            · refine step_pure rfl fun A ww hb hw hf => ?_
              have e63 : A.tmps[63]?.getD undef = .pointer (some ⟨q, 0, none⟩) := gdv (hf 0 63 (by kernel_rfl))
              have hc := (T.up hw).c0
              exact ⟨.int .i64 (u : Int), by simp [go_sem, e63, hc], rfl⟩
            · refine step_pure rfl fun A ww hb hw hf => ?_
              have e7 : A.tmps[7]?.getD undef = .int .i64 (u : Int) := gdv (hb.2.2 7 (by kernel_rfl))
              exact ⟨.int .i64 (u : Int), by simp [go_sem, e7], rfl⟩
            · refine step_pure rfl fun A ww hb hw hf => ?_
              have e64 : A.tmps[64]?.getD undef = .int .i64 (u : Int) := gdv (hf 1 64 (by kernel_rfl))
              have e65 : A.tmps[65]?.getD undef = .int .i64 (u : Int) := gdv (hf 2 65 (by kernel_rfl))
              exact ⟨.bool false, by simp [go_sem, e64, e65], rfl⟩
            · refine step_pure rfl fun A ww hb hw hf => ?_
              have e66 : A.tmps[66]?.getD undef = .bool false := gdv (hf 3 66 (by kernel_rfl))
              exact ⟨.bool false, by simp [go_sem, e66], rfl⟩
            · refine step_pure rfl fun A ww hb hw hf => ?_
              have e6 : A.tmps[6]?.getD undef = .pointer (some ⟨q, 0, none⟩) := gdv (hb.2.2 6 (by kernel_rfl))
              exact ⟨.pointer (some ⟨q, 2, none⟩), by simp [go_sem, e6], rfl⟩
            · refine step_pure rfl fun A ww hb hw hf => ?_
              have e68 : A.tmps[68]?.getD undef = .pointer (some ⟨q, 2, none⟩) := gdv (hf 5 68 (by kernel_rfl))
              have hc := (T.up hw).c2
              exact ⟨.slice y2 rs.length z2, by simp [go_sem, e68, hc], rfl⟩
            · refine step_pure rfl fun A ww hb hw hf => ?_
              have e69 : A.tmps[69]?.getD undef = .slice y2 rs.length z2 := gdv (hf 6 69 (by kernel_rfl))
              exact ⟨.int .i64 (rs.length : Int), by simp [go_sem, e69], rfl⟩
            · refine step_pure rfl fun A ww hb hw hf => ?_
              have e7 : A.tmps[7]?.getD undef = .int .i64 (u : Int) := gdv (hb.2.2 7 (by kernel_rfl))
              exact ⟨.int .i64 (u : Int), by simp [go_sem, e7], rfl⟩
            · refine step_pure rfl fun A ww hb hw hf => ?_
              have e71 : A.tmps[71]?.getD undef = .int .i64 (u : Int) := gdv (hf 8 71 (by kernel_rfl))
              exact ⟨.int .i64 (m : Int), by simp [go_sem, e71, WM], rfl⟩
            · refine step_pure rfl fun A ww hb hw hf => ?_
              have e70 : A.tmps[70]?.getD undef = .int .i64 (rs.length : Int) := gdv (hf 7 70 (by kernel_rfl))
              have e72 : A.tmps[72]?.getD undef = .int .i64 (m : Int) := gdv (hf 9 72 (by kernel_rfl))
              exact ⟨.bool false, by simp [go_sem, e70, e72, RM], rfl⟩
            · exact step_pickQ rfl 67 73 4 10 rfl (by kernel_rfl) (by kernel_rfl) rfl rfl rfl
            · refine step_pure rfl fun A ww hb hw hf => ?_
              have e74 : A.tmps[74]?.getD undef = .bool false := gdv (hf 11 74 (by kernel_rfl))
              exact ⟨.bool false, by simp [go_sem, e74], rfl⟩
            · refine step_pure rfl fun A ww hb hw hf => ?_
              have e6 : A.tmps[6]?.getD undef = .pointer (some ⟨q, 0, none⟩) := gdv (hb.2.2 6 (by kernel_rfl))
              exact ⟨.pointer (some ⟨q, 2, none⟩), by simp [go_sem, e6], rfl⟩
            · refine step_pure rfl fun A ww hb hw hf => ?_
              have e76 : A.tmps[76]?.getD undef = .pointer (some ⟨q, 2, none⟩) := gdv (hf 13 76 (by kernel_rfl))
              have hc := (T.up hw).c2
              exact ⟨.slice y2 rs.length z2, by simp [go_sem, e76, hc], rfl⟩
            · refine step_pure rfl fun A ww hb hw hf => ?_
              have e5 : A.tmps[5]?.getD undef = .slice (some ⟨gd, od, none⟩) ds.length cd := gdv (hb.2.2 5 (by kernel_rfl))
              exact ⟨.slice (some ⟨gd, od, none⟩) ds.length cd, by simp [go_sem, e5], rfl⟩
            · refine step_pure rfl fun A ww hb hw hf => ?_
              have e7 : A.tmps[7]?.getD undef = .int .i64 (u : Int) := gdv (hb.2.2 7 (by kernel_rfl))
              exact ⟨.int .i64 (u : Int), by simp [go_sem, e7], rfl⟩
            · refine step_pure rfl fun A ww hb hw hf => ?_
              have e7 : A.tmps[7]?.getD undef = .int .i64 (u : Int) := gdv (hb.2.2 7 (by kernel_rfl))
              exact ⟨.int .i64 (u : Int), by simp [go_sem, e7], rfl⟩
            · refine step_pure rfl fun A ww hb hw hf => ?_
              have e80 : A.tmps[80]?.getD undef = .int .i64 (u : Int) := gdv (hf 17 80 (by kernel_rfl))
              exact ⟨.int .i64 (m : Int), by simp [go_sem, e80, WM], rfl⟩
            · refine step_pure rfl fun A ww hb hw hf => ?_
              have e79 : A.tmps[79]?.getD undef = .int .i64 (u : Int) := gdv (hf 16 79 (by kernel_rfl))
              have e81 : A.tmps[81]?.getD undef = .int .i64 (m : Int) := gdv (hf 18 81 (by kernel_rfl))
              exact ⟨.int .i64 (k : Int), by simp [go_sem, e79, e81, WK], rfl⟩
            · refine step_pure rfl fun A ww hb hw hf => ?_
              have e7 : A.tmps[7]?.getD undef = .int .i64 (u : Int) := gdv (hb.2.2 7 (by kernel_rfl))
              exact ⟨.int .i64 (u : Int), by simp [go_sem, e7], rfl⟩
            · refine step_pure rfl fun A ww hb hw hf => ?_
              have e78 : A.tmps[78]?.getD undef = .slice (some ⟨gd, od, none⟩) ds.length cd := gdv (hf 15 78 (by kernel_rfl))
              have e82 : A.tmps[82]?.getD undef = .int .i64 (k : Int) := gdv (hf 19 82 (by kernel_rfl))
              have e83 : A.tmps[83]?.getD undef = .int .i64 (u : Int) := gdv (hf 20 83 (by kernel_rfl))
              exact ⟨.slice (cutA gd od cd k) rs.length (cd - k), by simp [go_sem, e78, e82, e83, KU, UC, LRs, cutA, Addr.add]; by_cases t0 : k = 0 <;> simp [t0], _, _, rfl, by rw [RSe.out]; exact rd_cutA (oD.rd.up hw) cdl k m, by unfold cutA; split <;> simp⟩
            · refine step_callv rfl 20 _ _ rfl (by kernel_rfl) fun A ww hb hw hf => ?_
              have e6 : A.tmps.getD 77 undef = .slice y2 rs.length z2 := hf 14 77 (by kernel_rfl)
              obtain ⟨a8, c8, e9, r8⟩ := hf 21 84 (by kernel_rfl)
              show Calls Tryd.prog 20 #[A.tmps.getD 77 undef, A.tmps.getD 84 undef] ww _
              rw [e6, e9]
              exact (lwSame_same ww _ _ _ _ _ _ rs (oR.up hw).rd r8.1).mono (by rintro r w' ⟨rfl, rfl⟩; exact ⟨_, rfl, Below.refl _ _, rfl⟩)
            · refine step_pure rfl fun A ww hb hw hf => ?_
              have e85 : A.tmps[85]?.getD undef = .bool true := gdv (hf 22 85 (by kernel_rfl))
              exact ⟨.bool false, by simp [go_sem, e85], rfl⟩
            · exact step_pickQ rfl 75 86 12 23 rfl (by kernel_rfl) (by kernel_rfl) rfl rfl rfl
          · intro i o ho A W hf
            have hiN : i < 25 := (Array.getElem?_eq_some_iff.1 ho).1
            obtain rfl | rfl | rfl | rfl | rfl | rfl | rfl | rfl | rfl | rfl | rfl | rfl | rfl | rfl | rfl | rfl | rfl | rfl | rfl | rfl | rfl | rfl | rfl | rfl | rfl : i = 0 ∨ i = 1 ∨ i = 2 ∨ i = 3 ∨ i = 4 ∨ i = 5 ∨ i = 6 ∨ i = 7 ∨ i = 8 ∨ i = 9 ∨ i = 10 ∨ i = 11 ∨ i = 12 ∨ i = 13 ∨ i = 14 ∨ i = 15 ∨ i = 16 ∨ i = 17 ∨ i = 18 ∨ i = 19 ∨ i = 20 ∨ i = 21 ∨ i = 22 ∨ i = 23 ∨ i = 24 := by omega
            · cases ho; exact wanted_none rfl
            · cases ho; exact wanted_none rfl
            · cases ho; exact wanted_none rfl
            · cases ho; exact wanted_none rfl
            · cases ho; exact wanted_none rfl
            · cases ho; exact wanted_some rfl (by kernel_rfl) (hf 4 67 (by kernel_rfl))
            · cases ho; exact wanted_some rfl (by kernel_rfl) (hf 4 67 (by kernel_rfl))
            · cases ho; exact wanted_some rfl (by kernel_rfl) (hf 4 67 (by kernel_rfl))
            · cases ho; exact wanted_some rfl (by kernel_rfl) (hf 4 67 (by kernel_rfl))
            · cases ho; exact wanted_some rfl (by kernel_rfl) (hf 4 67 (by kernel_rfl))
            · cases ho; exact wanted_some rfl (by kernel_rfl) (hf 4 67 (by kernel_rfl))
            · cases ho; exact wanted_none rfl
            · cases ho; exact wanted_none rfl
            · cases ho; exact wanted_some rfl (by kernel_rfl) (hf 12 75 (by kernel_rfl))
            · cases ho; exact wanted_some rfl (by kernel_rfl) (hf 12 75 (by kernel_rfl))
            · cases ho; exact wanted_some rfl (by kernel_rfl) (hf 12 75 (by kernel_rfl))
            · cases ho; exact wanted_some rfl (by kernel_rfl) (hf 12 75 (by kernel_rfl))
            · cases ho; exact wanted_some rfl (by kernel_rfl) (hf 12 75 (by kernel_rfl))
            · cases ho; exact wanted_some rfl (by kernel_rfl) (hf 12 75 (by kernel_rfl))
            · cases ho; exact wanted_some rfl (by kernel_rfl) (hf 12 75 (by kernel_rfl))
            · cases ho; exact wanted_some rfl (by kernel_rfl) (hf 12 75 (by kernel_rfl))
            · cases ho; exact wanted_some rfl (by kernel_rfl) (hf 12 75 (by kernel_rfl))
            · cases ho; exact wanted_some rfl (by kernel_rfl) (hf 12 75 (by kernel_rfl))
            · cases ho; exact wanted_some rfl (by kernel_rfl) (hf 12 75 (by kernel_rfl))
            · cases ho; exact wanted_none rfl
          intro A W8 hb' hw hF
          have e2 := hF 24 87 (by kernel_rfl)
          obtain ⟨vs, hvs⟩ : ∃ vs : Nat → Value, ∀ d, A.tmps.getD d undef = vs d := ⟨_, fun _ => rfl⟩
          rw [hvs] at e2
          rw [puts_guard (md := .any) (by kernel_rfl) rfl hb' vs hvs]
          clear hb' hF hvs
          have e3 : vs 87 = .bool false := e2
          clear e2
          simp only [puts, e3, Act.put, List.setIfInBounds_toArray, List.set_cons_succ, List.set_cons_zero]
          clear e3
          have T9 := T.up hw
          have TH9 := there_upn (by omega) TH2 hw
          have SD9 := SD2.up hw
          have oD9 := oD.up hw
          have NR9 := nxt NR2 hw
          clear T TH2 SD2 oD NR2 hw oR
          go_wp2
          go_roundw
          case rel => exact ⟨u, j + 1, _, _, _, _, rfl, by go_num, ud, by omega, u6, T9, TH9, SD9, oD9, NR9⟩
          case measure => simp [intOf]; omega
        · have k5 : ((j : Int) == 5) = false := by simp; omega
          have k6 : decide ((ds.length : Int) < (t : Int) + (r : Int)) = false := by simp; omega
          obtain ⟨p, hp⟩ : ∃ p, p = r := ⟨r, rfl⟩
          have hp' : t + p ≤ ds.length := by omega
          have hp6 : j + 1 = 6 → t + p = ds.length := fun _ => by omega
          rw [← hp] at k6 hr ⊢
          clear hp c5
          go_upto_region 12 with fail
          obtain ⟨u, hu⟩ : ∃ u, u = t + p := ⟨_, rfl⟩
          obtain ⟨pc, hpc⟩ : ∃ l, l = (ds.drop t).take p := ⟨_, rfl⟩
          have PCe := hide hpc
          have lP : pc.length ≤ 1048576 := by rw [hpc, List.length_take, List.length_drop]; omega
          have LPc : u - t = pc.length := by rw [hpc, List.length_take, List.length_drop]; omega
          have bP : Byt pc := by rw [hpc]; exact byt_take (byt_drop bd t) p
          have bT : Byt (ds.take t) := byt_take bd t
          have TP : Hid (ds.take t ++ pc = ds.take u) := by show _ = _; rw [hpc, hu]; exact take_cut
          have LP : (ds.take t).length + pc.length ≤ 1099511627776 := by rw [List.length_take]; omega
          have WU : IntKind.i64.wrap ((t : Int) + (p : Int)) = (u : Int) := by rw [hu, Int.natCast_add]; exact wrap_id (by omega) (by omega)
          have TU : (t : Int) ≤ (u : Int) := by omega
          have UC : (u : Int) ≤ (cd : Int) := by omega
          have ud : u ≤ ds.length := by omega
          have u6 : j + 1 = 6 → u = ds.length := fun h => by rw [hu]; exact hp6 h
          have cdl := qD
          refine region_putF 9 8 6 59 _ (fun i => [STv wr.heap.size b0 (ds.take t), Fact.eq (.slice (some ⟨gd, od, none⟩) ds.length cd), Fact.eq (.int .i64 (t : Int)), Fact.eq (.int .i64 (t : Int)), Fact.eq (.int .i64 (p : Int)), Fact.eq (.int .i64 (u : Int)), RDf gd pc, RNh wr.heap.size pc, SDh wr.heap.size (ds.take u)].getD i Fact.no) q 0 26 (by kernel_rfl) (by kernel_rfl) rfl rfl rfl (by kernel_rfl) rfl (by kernel_rfl) ?_ ?_
          · intro i hi
            have hiN : i < 9 := hi
            obtain rfl | rfl | rfl | rfl | rfl | rfl | rfl | rfl | rfl : i = 0 ∨ i = 1 ∨ i = 2 ∨ i = 3 ∨ i = 4 ∨ i = 5 ∨ i = 6 ∨ i = 7 ∨ i = 8 := by omega
            · refine step_load rfl 26 (.tmp 6) rfl d3 3 hd3 hrow3 iSt fun A ww hb hw hf => ?_
              have e6 : A.tmps.getD 6 undef = .pointer (some ⟨q, 0, none⟩) := hb.2.2 6 (by kernel_rfl)
              exact ⟨q, 0, [x0, x1, x2], e6, (T.up hw).range3, rfl, SDv.up hw⟩
            · refine step_pure rfl fun A ww hb hw hf => ?_
              have e5 : A.tmps[5]?.getD undef = .slice (some ⟨gd, od, none⟩) ds.length cd := gdv (hb.2.2 5 (by kernel_rfl))
              exact ⟨.slice (some ⟨gd, od, none⟩) ds.length cd, by simp [go_sem, e5], rfl⟩
            · refine step_pure rfl fun A ww hb hw hf => ?_
              have e7 : A.tmps[7]?.getD undef = .int .i64 (t : Int) := gdv (hb.2.2 7 (by kernel_rfl))
              exact ⟨.int .i64 (t : Int), by simp [go_sem, e7], rfl⟩
            · refine step_pure rfl fun A ww hb hw hf => ?_
              have e7 : A.tmps[7]?.getD undef = .int .i64 (t : Int) := gdv (hb.2.2 7 (by kernel_rfl))
              exact ⟨.int .i64 (t : Int), by simp [go_sem, e7], rfl⟩
            · refine step_pure rfl fun A ww hb hw hf => ?_
              have e9 : A.tmps[9]?.getD undef = .int .i64 (p : Int) := gdv (hb.2.2 9 (by kernel_rfl))
              exact ⟨.int .i64 (p : Int), by simp [go_sem, e9], rfl⟩
            · refine step_pure rfl fun A ww hb hw hf => ?_
              have e54 : A.tmps[54]?.getD undef = .int .i64 (t : Int) := gdv (hf 3 54 (by kernel_rfl))
              have e55 : A.tmps[55]?.getD undef = .int .i64 (p : Int) := gdv (hf 4 55 (by kernel_rfl))
              exact ⟨.int .i64 (u : Int), by simp [go_sem, e54, e55, WU], rfl⟩
            · refine step_pure rfl fun A ww hb hw hf => ?_
              have e52 : A.tmps[52]?.getD undef = .slice (some ⟨gd, od, none⟩) ds.length cd := gdv (hf 1 52 (by kernel_rfl))
              have e53 : A.tmps[53]?.getD undef = .int .i64 (t : Int) := gdv (hf 2 53 (by kernel_rfl))
              have e56 : A.tmps[56]?.getD undef = .int .i64 (u : Int) := gdv (hf 5 56 (by kernel_rfl))
              exact ⟨.slice (cutA gd od cd t) pc.length (cd - t), by simp [go_sem, e52, e53, e56, TU, UC, LPc, cutA, Addr.add]; by_cases t0 : t = 0 <;> simp [t0], _, _, rfl, by rw [PCe.out]; exact rd_cutA (oD.rd.up hw) cdl t p, by unfold cutA; split <;> simp⟩
            · refine step_callv rfl 19 _ _ rfl (by kernel_rfl) fun A ww hb hw hf => ?_
              obtain ⟨a8, c8, e9, r8⟩ := hf 6 57 (by kernel_rfl)
              show Calls Tryd.prog 19 #[A.tmps.getD 57 undef] ww _
              rw [e9]
              exact (lwCopy_any ww gd a8 c8 pc r8.1 r8.2 lP).mono (by rintro r w' ⟨⟨a1, c1, g1, rfl, o1, p1, q1, r1⟩, n⟩; exact ⟨_, rfl, n, a1, c1, g1, rfl, o1, p1, q1, Nat.le_trans hw.size r1⟩)
            · refine step_callv rfl 17 _ _ rfl (by kernel_rfl) fun A ww hb hw hf => ?_
              obtain ⟨a9, c9, g9, e9, o9, p9, q9, r9⟩ := hf 7 58 (by kernel_rfl)
              have s9 : SD ww (A.tmps.getD 51 undef) b0 (ds.take t) := hf 0 51 (by kernel_rfl)
              show Calls Tryd.prog 17 #[A.tmps.getD 51 undef, A.tmps.getD 58 undef] ww _
              rw [e9]
              have MD := moreD ww _ b0 (ds.take t) s9 bT g9 a9 c9 pc o9.rd bP q9 LP (hL.2.up (nxt NR hw))
              rw [TP.out] at MD
              exact MD.mono (by rintro r w' ⟨⟨v, rfl, s⟩, n⟩; exact ⟨_, rfl, n, s.le hw.size⟩)
          intro vs7 W v hw hv3
          have hv3 : SD W v wr.heap.size (ds.take u) := hv3
          have ut := Nat.min_eq_left ud
          have hv4 : ST3 W v wr.heap.size (((ds.take u).length : Nat) : Int) (tell32 (whole32 start32 (ds.take u))) (left32 (ds.take u)) := hv3
          have e1 : (((ds.take u).length : Nat) : Int) = (u : Int) := by rw [List.length_take, ut]
          obtain ⟨ws, hws⟩ : ∃ l, l = tell32 (whole32 start32 (ds.take u)) := ⟨_, rfl⟩
          obtain ⟨rs, hrs⟩ : ∃ l, l = left32 (ds.take u) := ⟨_, rfl⟩
          rw [e1, ← hws, ← hrs] at hv4
          clear hv3
          obtain ⟨y1, y2, z1, z2, f1, f2, rfl, oA, oR, k1, k2, k3, k4, k5', k6'⟩ := hv4
          have th := there_upn (by omega) TH hw
          refine ⟨[.int .i64 (u : Int), .slice y1 ws.length z1, .slice y2 rs.length z2], rfl, th, iSt, one3 _ _ _ _ _ _ _, ?_⟩
          have RR := World.rangeAt_setCells_same W q 0 [.int .i64 (u : Int), .slice y1 ws.length z1, .slice y2 rs.length z2] th
          have OQ := only_setCells W q [.int .i64 (u : Int), .slice y1 ws.length z1, .slice y2 rs.length z2] 0
          have TH2 := World.there_setCells th q 0 [.int .i64 (u : Int), .slice y1 ws.length z1, .slice y2 rs.length z2]
          have NR2 : Below w.heap.size w (W.setCells q 0 [.int .i64 (u : Int), .slice y1 ws.length z1, .slice y2 rs.length z2]) := (nxt NR hw).trans (OQ.below (by have := QN.out; omega))
          have oA' := oA.only OQ (fun _ => by omega)
          have oR' := oR.only OQ (fun _ => by omega)
          have oD' := (oD.up hw).only OQ (fun _ => by omega)
          have SD2 : SD (W.setCells q 0 [.int .i64 (u : Int), .slice y1 ws.length z1, .slice y2 rs.length z2]) (.agg #[.int .i64 (u : Int), .slice y1 ws.length z1, .slice y2 rs.length z2]) wr.heap.size (ds.take u) := by
            show ST3 _ _ _ _ _ _
            rw [e1, ← hws, ← hrs]
            exact ⟨y1, y2, z1, z2, f1, f2, rfl, oA', oR', k1, k2, k3, k4, k5', k6'⟩
          have T2 := C3.of_range RR
          obtain ⟨k, hk⟩ : ∃ k, k = u - u % 64 := ⟨_, rfl⟩
          obtain ⟨m, hm⟩ : ∃ m, m = u % 64 := ⟨_, rfl⟩
          have RSe : Hid (rs = (ds.drop k).take m) := by show _ = _; rw [hrs, hk, hm]; exact left_cut ud
          have LRs : u - k = rs.length := by rw [RSe.out, List.length_take, List.length_drop]; omega
          have WM : (u : Int).tmod 64 = (m : Int) := by rw [Int.tmod_eq_emod_of_nonneg (by omega)]; omega
          have RM : (rs.length : Int) = (m : Int) := by omega
          have WK : IntKind.i64.wrap ((u : Int) - (m : Int)) = (k : Int) := by rw [show (u : Int) - (m : Int) = (k : Int) by omega]; exact wrap_id (by omega) (by omega)
          have KU : (k : Int) ≤ (u : Int) := by omega
          generalize W.setCells q 0 [.int .i64 (u : Int), .slice y1 ws.length z1, .slice y2 rs.length z2] = w7 at *
          simp only [puts, Act.put, List.setIfInBounds_toArray, List.set_cons_succ, List.set_cons_zero]
          clear oA oR OQ th TH RR hw NR T SDv oD oA' hws hrs hk hm e1
          have HU := hide hu
          have ut' : (t : Int) + (p : Int) = (u : Int) := by omega
          clear hu hpc TP
          go_upto_region 14 with fail
          first | rw [ut'] | skip
          have T := T2
          have oD := oD'
          have oR := oR'
          clear T2 oD' oR'
          refine region_guard (fun i => [Fact.eq (.pointer (some ⟨q, 0, none⟩)), Fact.eq (.int .i64 (u : Int)), Fact.eq (.int .i64 (u : Int)), Fact.eq (.bool false), Fact.eq (.bool false), Fact.eq (.pointer (some ⟨q, 2, none⟩)), Fact.eq (.slice y2 rs.length z2), Fact.eq (.int .i64 (rs.length : Int)), Fact.eq (.int .i64 (u : Int)), Fact.eq (.int .i64 (m : Int)), Fact.eq (.bool false), Fact.eq (.bool false), Fact.eq (.bool false), Fact.eq (.pointer (some ⟨q, 2, none⟩)), Fact.eq (.slice y2 rs.length z2), Fact.eq (.slice (some ⟨gd, od, none⟩) ds.length cd), Fact.eq (.int .i64 (u : Int)), Fact.eq (.int .i64 (u : Int)), Fact.eq (.int .i64 (m : Int)), Fact.eq (.int .i64 (k : Int)), Fact.eq (.int .i64 (u : Int)), RDf gd rs, Fact.eq (.bool true), Fact.eq (.bool false), Fact.eq (.bool false)].getD i Fact.no) (by kernel_rfl) (by kernel_rfl) ?_ ?_ ?_
          · intro i hi
            have hiN : i < 25 := hi
            obtain rfl | rfl | rfl | rfl | rfl | rfl | rfl | rfl | rfl | rfl | rfl | rfl | rfl | rfl | rfl | rfl | rfl | rfl | rfl | rfl | rfl | rfl | rfl | rfl | rfl : i = 0 ∨ i = 1 ∨ i = 2 ∨ i = 3 ∨ i = 4 ∨ i = 5 ∨ i = 6 ∨ i = 7 ∨ i = 8 ∨ i = 9 ∨ i = 10 ∨ i = 11 ∨ i = 12 ∨ i = 13 ∨ i = 14 ∨ i = 15 ∨ i = 16 ∨ i = 17 ∨ i = 18 ∨ i = 19 ∨ i = 20 ∨ i = 21 ∨ i = 22 ∨ i = 23 ∨ i = 24 := by omega
            · refine step_pure rfl fun A ww hb hw hf => ?_
              have e6 : A.tmps[6]?.getD undef = .pointer (some ⟨q, 0, none⟩) := gdv (hb.2.2 6 (by kernel_rfl))
              exact ⟨.pointer (some ⟨q, 0, none⟩), by simp [go_sem, e6], rfl⟩
            · refine step_pure rfl fun A ww hb hw hf => ?_
              have e63 : A.tmps[63]?.getD undef = .pointer (some ⟨q, 0, none⟩) := gdv (hf 0 63 (by kernel_rfl))
              have hc := (T.up hw).c0
              exact ⟨.int .i64 (u : Int), by simp [go_sem, e63, hc], rfl⟩
            · refine step_pure rfl fun A ww hb hw hf => ?_
              have e7 : A.tmps[7]?.getD undef = .int .i64 (u : Int) := gdv (hb.2.2 7 (by kernel_rfl))
              exact ⟨.int .i64 (u : Int), by simp [go_sem, e7], rfl⟩
            · refine step_pure rfl fun A ww hb hw hf => ?_
              have e64 : A.tmps[64]?.getD undef = .int .i64 (u : Int) := gdv (hf 1 64 (by kernel_rfl))
              have e65 : A.tmps[65]?.getD undef = .int .i64 (u : Int) := gdv (hf 2 65 (by kernel_rfl))
              exact ⟨.bool false, by simp [go_sem, e64, e65], rfl⟩
            · refine step_pure rfl fun A ww hb hw hf => ?_
              have e66 : A.tmps[66]?.getD undef = .bool false := gdv (hf 3 66 (by kernel_rfl))
              exact ⟨.bool false, by simp [go_sem, e66], rfl⟩
            · refine step_pure rfl fun A ww hb hw hf => ?_
              have e6 : A.tmps[6]?.getD undef = .pointer (some ⟨q, 0, none⟩) := gdv (hb.2.2 6 (by kernel_rfl))
              exact ⟨.pointer (some ⟨q, 2, none⟩), by simp [go_sem, e6], rfl⟩
            · refine step_pure rfl fun A ww hb hw hf => ?_
              have e68 : A.tmps[68]?.getD undef = .pointer (some ⟨q, 2, none⟩) := gdv (hf 5 68 (by kernel_rfl))
              have hc := (T.up hw).c2
              exact ⟨.slice y2 rs.length z2, by simp [go_sem, e68, hc], rfl⟩
            · refine step_pure rfl fun A ww hb hw hf => ?_
              have e69 : A.tmps[69]?.getD undef = .slice y2 rs.length z2 := gdv (hf 6 69 (by kernel_rfl))
              exact ⟨.int .i64 (rs.length : Int), by simp [go_sem, e69], rfl⟩
            · refine step_pure rfl fun A ww hb hw hf => ?_
              have e7 : A.tmps[7]?.getD undef = .int .i64 (u : Int) := gdv (hb.2.2 7 (by kernel_rfl))
              exact ⟨.int .i64 (u : Int), by simp [go_sem, e7], rfl⟩
            · refine step_pure rfl fun A ww hb hw hf => ?_
              have e71 : A.tmps[71]?.getD undef = .int .i64 (u : Int) := gdv (hf 8 71 (by kernel_rfl))
              exact ⟨.int .i64 (m : Int), by simp [go_sem, e71, WM], rfl⟩
            · refine step_pure rfl fun A ww hb hw hf => ?_
              have e70 : A.tmps[70]?.getD undef = .int .i64 (rs.length : Int) := gdv (hf 7 70 (by kernel_rfl))
              have e72 : A.tmps[72]?.getD undef = .int .i64 (m : Int) := gdv (hf 9 72 (by kernel_rfl))
              exact ⟨.bool false, by simp [go_sem, e70, e72, RM], rfl⟩
            · exact step_pickQ rfl 67 73 4 10 rfl (by kernel_rfl) (by kernel_rfl) rfl rfl rfl
            · refine step_pure rfl fun A ww hb hw hf => ?_
              have e74 : A.tmps[74]?.getD undef = .bool false := gdv (hf 11 74 (by kernel_rfl))
              exact ⟨.bool false, by simp [go_sem, e74], rfl⟩
            · refine step_pure rfl fun A ww hb hw hf => ?_
              have e6 : A.tmps[6]?.getD undef = .pointer (some ⟨q, 0, none⟩) := gdv (hb.2.2 6 (by kernel_rfl))
              exact ⟨.pointer (some ⟨q, 2, none⟩), by simp [go_sem, e6], rfl⟩
            · refine step_pure rfl fun A ww hb hw hf => ?_
              have e76 : A.tmps[76]?.getD undef = .pointer (some ⟨q, 2, none⟩) := gdv (hf 13 76 (by kernel_rfl))
              have hc := (T.up hw).c2
              exact ⟨.slice y2 rs.length z2, by simp [go_sem, e76, hc], rfl⟩
            · refine step_pure rfl fun A ww hb hw hf => ?_
              have e5 : A.tmps[5]?.getD undef = .slice (some ⟨gd, od, none⟩) ds.length cd := gdv (hb.2.2 5 (by kernel_rfl))
              exact ⟨.slice (some ⟨gd, od, none⟩) ds.length cd, by simp [go_sem, e5], rfl⟩
            · refine step_pure rfl fun A ww hb hw hf => ?_
              have e7 : A.tmps[7]?.getD undef = .int .i64 (u : Int) := gdv (hb.2.2 7 (by kernel_rfl))
              exact ⟨.int .i64 (u : Int), by simp [go_sem, e7], rfl⟩
            · refine step_pure rfl fun A ww hb hw hf => ?_
              have e7 : A.tmps[7]?.getD undef = .int .i64 (u : Int) := gdv (hb.2.2 7 (by kernel_rfl))
              exact ⟨.int .i64 (u : Int), by simp [go_sem, e7], rfl⟩
            · refine step_pure rfl fun A ww hb hw hf => ?_
              have e80 : A.tmps[80]?.getD undef = .int .i64 (u : Int) := gdv (hf 17 80 (by kernel_rfl))
              exact ⟨.int .i64 (m : Int), by simp [go_sem, e80, WM], rfl⟩
            · refine step_pure rfl fun A ww hb hw hf => ?_
              have e79 : A.tmps[79]?.getD undef = .int .i64 (u : Int) := gdv (hf 16 79 (by kernel_rfl))
              have e81 : A.tmps[81]?.getD undef = .int .i64 (m : Int) := gdv (hf 18 81 (by kernel_rfl))
              exact ⟨.int .i64 (k : Int), by simp [go_sem, e79, e81, WK], rfl⟩
            · refine step_pure rfl fun A ww hb hw hf => ?_
              have e7 : A.tmps[7]?.getD undef = .int .i64 (u : Int) := gdv (hb.2.2 7 (by kernel_rfl))
              exact ⟨.int .i64 (u : Int), by simp [go_sem, e7], rfl⟩
            · refine step_pure rfl fun A ww hb hw hf => ?_
              have e78 : A.tmps[78]?.getD undef = .slice (some ⟨gd, od, none⟩) ds.length cd := gdv (hf 15 78 (by kernel_rfl))
              have e82 : A.tmps[82]?.getD undef = .int .i64 (k : Int) := gdv (hf 19 82 (by kernel_rfl))
              have e83 : A.tmps[83]?.getD undef = .int .i64 (u : Int) := gdv (hf 20 83 (by kernel_rfl))
              exact ⟨.slice (cutA gd od cd k) rs.length (cd - k), by simp [go_sem, e78, e82, e83, KU, UC, LRs, cutA, Addr.add]; by_cases t0 : k = 0 <;> simp [t0], _, _, rfl, by rw [RSe.out]; exact rd_cutA (oD.rd.up hw) cdl k m, by unfold cutA; split <;> simp⟩
            · refine step_callv rfl 20 _ _ rfl (by kernel_rfl) fun A ww hb hw hf => ?_
              have e6 : A.tmps.getD 77 undef = .slice y2 rs.length z2 := hf 14 77 (by kernel_rfl)
              obtain ⟨a8, c8, e9, r8⟩ := hf 21 84 (by kernel_rfl)
              show Calls Tryd.prog 20 #[A.tmps.getD 77 undef, A.tmps.getD 84 undef] ww _
              rw [e6, e9]
              exact (lwSame_same ww _ _ _ _ _ _ rs (oR.up hw).rd r8.1).mono (by rintro r w' ⟨rfl, rfl⟩; exact ⟨_, rfl, Below.refl _ _, rfl⟩)
            · refine step_pure rfl fun A ww hb hw hf => ?_
              have e85 : A.tmps[85]?.getD undef = .bool true := gdv (hf 22 85 (by kernel_rfl))
              exact ⟨.bool false, by simp [go_sem, e85], rfl⟩
            · exact step_pickQ rfl 75 86 12 23 rfl (by kernel_rfl) (by kernel_rfl) rfl rfl rfl
          · intro i o ho A W hf
            have hiN : i < 25 := (Array.getElem?_eq_some_iff.1 ho).1
            obtain rfl | rfl | rfl | rfl | rfl | rfl | rfl | rfl | rfl | rfl | rfl | rfl | rfl | rfl | rfl | rfl | rfl | rfl | rfl | rfl | rfl | rfl | rfl | rfl | rfl : i = 0 ∨ i = 1 ∨ i = 2 ∨ i = 3 ∨ i = 4 ∨ i = 5 ∨ i = 6 ∨ i = 7 ∨ i = 8 ∨ i = 9 ∨ i = 10 ∨ i = 11 ∨ i = 12 ∨ i = 13 ∨ i = 14 ∨ i = 15 ∨ i = 16 ∨ i = 17 ∨ i = 18 ∨ i = 19 ∨ i = 20 ∨ i = 21 ∨ i = 22 ∨ i = 23 ∨ i = 24 := by omega
            · cases ho; exact wanted_none rfl
            · cases ho; exact wanted_none rfl
            · cases ho; exact wanted_none rfl
            · cases ho; exact wanted_none rfl
            · cases ho; exact wanted_none rfl
            · cases ho; exact wanted_some rfl (by kernel_rfl) (hf 4 67 (by kernel_rfl))
            · cases ho; exact wanted_some rfl (by kernel_rfl) (hf 4 67 (by kernel_rfl))
            · cases ho; exact wanted_some rfl (by kernel_rfl) (hf 4 67 (by kernel_rfl))
            · cases ho; exact wanted_some rfl (by kernel_rfl) (hf 4 67 (by kernel_rfl))
            · cases ho; exact wanted_some rfl (by kernel_rfl) (hf 4 67 (by kernel_rfl))
            · cases ho; exact wanted_some rfl (by kernel_rfl) (hf 4 67 (by kernel_rfl))
            · cases ho; exact wanted_none rfl
            · cases ho; exact wanted_none rfl
            · cases ho; exact wanted_some rfl (by kernel_rfl) (hf 12 75 (by kernel_rfl))
            · cases ho; exact wanted_some rfl (by kernel_rfl) (hf 12 75 (by kernel_rfl))
            · cases ho; exact wanted_some rfl (by kernel_rfl) (hf 12 75 (by kernel_rfl))
            · cases ho; exact wanted_some rfl (by kernel_rfl) (hf 12 75 (by kernel_rfl))
            · cases ho; exact wanted_some rfl (by kernel_rfl) (hf 12 75 (by kernel_rfl))
            · cases ho; exact wanted_some rfl (by kernel_rfl) (hf 12 75 (by kernel_rfl))
            · cases ho; exact wanted_some rfl (by kernel_rfl) (hf 12 75 (by kernel_rfl))
            · cases ho; exact wanted_some rfl (by kernel_rfl) (hf 12 75 (by kernel_rfl))
            · cases ho; exact wanted_some rfl (by kernel_rfl) (hf 12 75 (by kernel_rfl))
            · cases ho; exact wanted_some rfl (by kernel_rfl) (hf 12 75 (by kernel_rfl))
            · cases ho; exact wanted_some rfl (by kernel_rfl) (hf 12 75 (by kernel_rfl))
            · cases ho; exact wanted_none rfl
          intro A W8 hb' hw hF
          have e2 := hF 24 87 (by kernel_rfl)
          obtain ⟨vs, hvs⟩ : ∃ vs : Nat → Value, ∀ d, A.tmps.getD d undef = vs d := ⟨_, fun _ => rfl⟩
          rw [hvs] at e2
          rw [puts_guard (md := .any) (by kernel_rfl) rfl hb' vs hvs]
          clear hb' hF hvs
          have e3 : vs 87 = .bool false := e2
          clear e2
          simp only [puts, e3, Act.put, List.setIfInBounds_toArray, List.set_cons_succ, List.set_cons_zero]
          clear e3
          have T9 := T.up hw
          have TH9 := there_upn (by omega) TH2 hw
          have SD9 := SD2.up hw
          have oD9 := oD.up hw
          have NR9 := nxt NR2 hw
          clear T TH2 SD2 oD NR2 hw oR
          go_wp2
          go_roundw
          case rel => exact ⟨u, j + 1, _, _, _, _, rfl, by go_num, ud, by omega, u6, T9, TH9, SD9, oD9, NR9⟩
          case measure => simp [intOf]; omega
      · have et : t = ds.length := by omega
        subst et
        rw [List.take_length] at SDv
        have tt : decide ((ds.length : Int) < (ds.length : Int)) = false := by simp
        have HB0 : (hashL32 ds).length = 32 := tell_len32 _
        have IH := fun W g a c h p (n : Below w.heap.size w W) => implHash_32 W g a c ds h bd p (by omega) (hL.1.up n) (hL.2.up n)
        have EN := endD wr _ b0 ds SDv bd (by omega) (hL.2.up NR)
        obtain ⟨hs, hhs⟩ : ∃ l, l = hashL32 ds := ⟨_, rfl⟩
        rw [← hhs] at IH EN HB0
        have HL := hide HB0
        clear hhs HB0
        have q0' := T.c0
        have q1' := T.c1
        have q2' := T.c2
        have ENH := hide EN
        clear EN SDv h6
        by_cases c6 : j < 6
        · have tj : decide ((j : Int) < 6) = true := by simp; omega
          go_wp2_with fail
          refine ENH.out.mono ?_
          rintro e w7 ⟨⟨a7, c7, g7, rfl, o7, p7, q7, r7⟩, n7⟩
          go_wp2_with fail
          refine (lwCopy_any w7 gd ad cd ds (oD.up n7).rd pD (by omega)).mono ?_
          rintro e w8 ⟨⟨a8, c8, g8, rfl, o8, p8, q8, r8⟩, n8⟩
          have N8 := nxt (nxt NR n7) n8
          go_wp2_with fail
          refine (IH w8 g8 a8 c8 o8.rd q8 N8).mono ?_
          rintro e w9 ⟨⟨a9, c9, g9, rfl, o9, p9, q9, r9⟩, n9⟩
          have N9 := nxt N8 n9
          go_wp2_with fail
          refine (lwSame_same w9 _ _ _ _ _ _ hs ((o7.up n8).up n9).rd o9.rd).mono ?_
          rintro e w9' ⟨rfl, rfl⟩
          go_wp2_with fail
          refine (lwCopy_any w9' gd ad cd ds (((oD.up n7).up n8).up n9).rd pD (by omega)).mono ?_
          rintro e wA ⟨⟨aA, cA, gA, rfl, oA, pA, qA, rA⟩, nA⟩
          have NA := nxt N9 nA
          go_wp2_with fail
          refine (IH wA gA aA cA oA.rd qA NA).mono ?_
          rintro e wB ⟨⟨aB, cB, gB, rfl, oB, pB, qB, rB⟩, nB⟩
          have k32 : ((hs.length : Int) == 32) = true := by rw [HL.out]; rfl
          go_wp2
          go_ret
          exact ⟨by rw [HL.out]; rfl, nxt NA nB⟩
        · have tj : decide ((j : Int) < 6) = false := by simp; omega
          go_wp2_with fail
          refine ENH.out.mono ?_
          rintro e w7 ⟨⟨a7, c7, g7, rfl, o7, p7, q7, r7⟩, n7⟩
          go_wp2_with fail
          refine (lwCopy_any w7 gd ad cd ds (oD.up n7).rd pD (by omega)).mono ?_
          rintro e w8 ⟨⟨a8, c8, g8, rfl, o8, p8, q8, r8⟩, n8⟩
          have N8 := nxt (nxt NR n7) n8
          go_wp2_with fail
          refine (IH w8 g8 a8 c8 o8.rd q8 N8).mono ?_
          rintro e w9 ⟨⟨a9, c9, g9, rfl, o9, p9, q9, r9⟩, n9⟩
          have N9 := nxt N8 n9
          go_wp2_with fail
          refine (lwSame_same w9 _ _ _ _ _ _ hs ((o7.up n8).up n9).rd o9.rd).mono ?_
          rintro e w9' ⟨rfl, rfl⟩
          go_wp2_with fail
          refine (lwCopy_any w9' gd ad cd ds (((oD.up n7).up n8).up n9).rd pD (by omega)).mono ?_
          rintro e wA ⟨⟨aA, cA, gA, rfl, oA, pA, qA, rA⟩, nA⟩
          have NA := nxt N9 nA
          go_wp2_with fail
          refine (IH wA gA aA cA oA.rd qA NA).mono ?_
          rintro e wB ⟨⟨aB, cB, gB, rfl, oB, pB, qB, rB⟩, nB⟩
          have k32 : ((hs.length : Int) == 32) = true := by rw [HL.out]; rfl
          go_wp2
          go_ret
          exact ⟨by rw [HL.out]; rfl, nxt NA nB⟩
    · have u1 : decide ((1048576 : Int) < (X1.length : Int)) = true := by simp; omega
      go_enter Tryd.func4, Tryd.ntmps4
      go_wp2
      go_ret
      exact ⟨rfl, Below.refl _ _⟩
  · have u0 : decide ((1048576 : Int) < (X0.length : Int)) = true := by simp; omega
    go_enter Tryd.func4, Tryd.ntmps4
    go_wp2
    go_ret
    exact ⟨rfl, Below.refl _ _⟩
end Go.Proofs.YtljpjbojdekeiaaDoor
