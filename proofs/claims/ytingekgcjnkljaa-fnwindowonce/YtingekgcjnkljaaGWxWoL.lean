import Derived.Test.YtingekgcjnkljaaGW24

/-
  The law FnWindowOnce (written by gens/wol.py).
-/
namespace Go.Proofs.Ytingekgcjnkljaa
open Go Go.RowKit Go.Maps

set_option maxRecDepth 100000 in
theorem iWiO : (Try.prog.info? 25).map (·.size) = some 2 := by kernel_rfl
set_option maxRecDepth 100000 in
/-- A row beside a new box. -/
theorem IRow.newT {W W' : World} {B q : Nat} {v : Value} {its : List (Int × List Int)} {bs : List Plc} (R : IRow W B v its bs) (hq : RwC W q [.int .i64 0, .int .i64 0, .slice none 0 0] 32) (O : Only q W W') : IRow W' B v its bs := by
  refine ⟨⟨R.o.1, ?_⟩, R.l, fun i hi => (R.b i hi).of fun h0 => O.block _ ?_, R.h, R.d⟩
  · rcases R.o.2 with h' | ⟨g, cap, cur, rfl, hbg, hg, hnc, hcm, hcs, hT⟩
    · exact .inl h'
    · refine .inr ⟨g, cap, cur, rfl, hbg, ?_, hnc, hcm, hcs, hT⟩
      rw [O.block g ?_]
      · exact hg
      · rintro rfl
        unfold RwC at hq
        rw [hg] at hq
        simp only [Option.some.injEq, Obj.cells.injEq] at hq
        exact absurd hq.2.1 (by decide)
  · intro e
    obtain ⟨off, ha, hc⟩ := (R.b i hi).o h0
    have h1 := (hc 0 h0).1
    rw [e, hq.cell] at h1
    match off, h1 with
    | 0, h1 => simp at h1
    | 1, h1 => simp at h1
    | 2, h1 => simp at h1
    | n + 3, h1 => simp at h1
theorem wfV7 : wfV 7 ([] : List Mrk) = 0 := wfV0 (by decide) (by simp) (fun i hi => absurd hi (by simp)) (by rfl)
set_option maxRecDepth 100000 in
theorem step_newWa {ops : Array Oper} {Q : Exit → Act → World → Prop} {md : Region.Mode} {F : Nat → Fact} {a0 : Act} {w0 : World} {i : Nat} {o : Oper} (hi : ops[i]? = some o) (hop : o.op = .alloc 32) (hF : F i = NBt w0.heap.size 32 [.int .i64 0, .int .i64 0, .slice none 0 0]) : StepOk Try.prog md ops Q F a0 w0 i := by
  refine step_grow hi fun a w _ hw _ => ⟨.pointer (some ⟨w.heap.size, 0, none⟩), w.alloc (.cells #[.int .i64 0, .int .i64 0, .slice none 0 0] 32), ?_, (Below.refl _ _).alloc (Nat.le_refl _) _, ?_⟩
  · simp only [execOp, hop]
    kernel_rfl
  · rw [hF]
    exact ⟨_, rfl, hw.size, RwC.new w _ _⟩
/-- A list that was copied. -/
def CpO (b : Nat) (D : List Int) : Fact := ⟨fun v w => ∃ a c, v = .slice a D.length c ∧ RowB w b (.slice a D.length c) D, fun n h => by
  obtain ⟨a, c, e, r⟩ := h
  exact ⟨a, c, e, r.up n⟩⟩
set_option maxRecDepth 100000 in
set_option maxHeartbeats 16000000 in
theorem windowOnce_law (w : World) (g0 : Nat) (a0 : Option Addr) (c0 : Nat) (X0 : List Int) (hX0 : Rd w g0 a0 .u8 X0) (bX0 : Byt X0) (g1 : Nat) (a1 : Option Addr) (c1 : Nat) (X1 : List Int) (hX1 : Rd w g1 a1 .u8 X1) (bX1 : Byt X1) :
    Calls Try.prog 3 #[.slice a0 X0.length c0, .slice a1 X1.length c1] w fun e w' => e = .returned (.bool true) ∧ Below w.heap.size w w' := by
  by_cases q0 : X0.length ≤ 1048576
  rotate_left
  · have u0 : decide ((1048576 : Int) < (X0.length : Int)) = true := by simp; omega
    have u0' : (1048576 : Int) < (X0.length : Int) := by omega
    go_enter Try.func3, Try.ntmps3
    go_wp2
    go_ret
    exact ⟨rfl, Below.refl _ _⟩
  have u0 : decide ((1048576 : Int) < (X0.length : Int)) = false := by simp; omega
  by_cases q1 : X1.length ≤ 1048576
  rotate_left
  · have u1 : decide ((1048576 : Int) < (X1.length : Int)) = true := by simp; omega
    have u1' : (1048576 : Int) < (X1.length : Int) := by omega
    go_enter Try.func3, Try.ntmps3
    go_wp2
    go_ret
    exact ⟨rfl, Below.refl _ _⟩
  have u1 : decide ((1048576 : Int) < (X1.length : Int)) = false := by simp; omega
  have BY := hide bX1
  have AT := hide (fun W (n : Below w.heap.size w W) (i n' : Int) (i0 : 0 ≤ i) (i1 : i ≤ 1000) (m0 : 2 ≤ n') (m1 : n' ≤ 1048576) => lwAt_any W g1 a1 c1 X1 i n' (hX1.up n) bX1 q1 i0 i1 m0 m1)
  have DA := hide (drawAsk_any w g0 a0 c0 X0 hX0 bX0 q0)
  clear hX0 bX0 q0 hX1 bX1 q1
  go_enter Try.func3, Try.ntmps3
  go_wp2_with fail
  refine DA.out.mono ?_
  rintro e w1 ⟨⟨wd, a2, l2, c2, a3, c3, g3, X, now, rfl, R1, E1, k3, bX⟩, n1⟩
  obtain ⟨ms, V1⟩ := WnR.ofD R1
  obtain ⟨gv, av, cv, ps, ev, rv, hv⟩ := V1.rd
  simp only [Value.slice.injEq] at ev
  obtain ⟨rfl, rfl, rfl⟩ := ev
  have n2 : Below w1.heap.size w1 (w1.alloc (.cells #[.int .i64 wd, .slice a2 ms.length c2] 25)) := (Below.refl _ _).alloc (Nat.le_refl _) _
  have P2 := RwC.new w1 [.int .i64 wd, .slice a2 ms.length c2] 25
  have V2 := hide (V1.move (w' := w1.alloc (.cells #[.int .i64 wd, .slice a2 ms.length c2] 25)) (fun k hk _ _ => n2.block k hk) [w1.heap.size] (fun q hq => by simp at hq; exact .inl (by omega)))
  have N2 := hide (nxt n1 n2)
  have SW := hide (specWf_any (w1.alloc (.cells #[.int .i64 wd, .slice a2 ms.length c2] 25)) wd gv a2 c2 ms ps (rv.up n2) hv)
  have gp : Hid (0 < X.length → g3 < w1.heap.size) := fun h => E1.lt h
  have E2 := hide (E1.up n2)
  have L32 := hide (to32_len X)
  have B32 := hide (to32_byt bX)
  have LW := hide (fun W (r : Rd W g3 a3 .u8 X) => lw32_any W g3 a3 c3 X r)
  generalize to32 X = Z at *
  have pp : w.heap.size ≤ w1.heap.size := n1.size
  have c20 := P2.c0
  have c21 := P2.c1
  clear R1 E1 V1 rv hv n1 n2 bX DA k3
  go_upto_region 4 with fail
  generalize w1.alloc (.cells #[.int .i64 wd, .slice a2 ms.length c2] 25) = w2 at *
  generalize w1.heap.size = p at *
  go_wp2_with fail
  refine SW.out.mono ?_
  rintro e w3 ⟨rfl, n3⟩
  have P3 := P2.up n3
  have V3 := hide (V2.out.up n3)
  have N3 := hide (nxt N2.out n3)
  have E3 := hide (E2.out.up n3)
  clear SW n3 P2 V2 N2 E2 c20 c21
  obtain ⟨fl, hfl⟩ : ∃ fl, fl = wfV wd ms := ⟨_, rfl⟩
  rw [← hfl]
  have HFL := hide hfl
  clear hfl
  by_cases h1 : fl = 0
  · have t1 : (fl != 0) = false := by simp [h1]
    by_cases h2 : now < 0
    · have t2 : decide (now < 0) = true := decide_eq_true h2
      have O7 : Only p w3 ((w3.setCell ⟨p, 0, none⟩ (.int .i64 7)).setCell ⟨p, 1, none⟩ (.slice none 0 0)) := (Only.setCell _ _ 0 _).trans (Only.setCell _ _ 1 _)
      have P7 : RwC ((w3.setCell ⟨p, 0, none⟩ (.int .i64 7)).setCell ⟨p, 1, none⟩ (.slice none 0 0)) p [.int .i64 7, .slice none 0 0] 25 := (P3.set 0 _).set 1 _
      have N7 := hide (N3.out.trans (O7.below pp))
      have E7 := hide (rd_of E3.out (fun h0 => O7.block g3 (by have := gp.out h0; omega)))
      have V7 : Hid (WnR ((w3.setCell ⟨p, 0, none⟩ (.int .i64 7)).setCell ⟨p, 1, none⟩ (.slice none 0 0)) w.heap.size [p] (.slice none 0 0) []) := WnR.nil _ _ _
      have F7 : Hid (wfV 7 ([] : List Mrk) = 0) := wfV7
      have T7 : Hid ((0 : Int) ≤ 100 ∧ (100 : Int) ≤ 126701150399) := ⟨by decide, by decide⟩
      have d0 := P3.c0
      have d1 := P3.c1
      have e0 := P3.free 0
      have e1 := P3.free 1
      clear P3 V3 N3 E3 O7 HFL
      go_upto_region 7 with fail
      clear d0 d1 e0 e1
      generalize (w3.setCell ⟨p, 0, none⟩ (.int .i64 7)).setCell ⟨p, 1, none⟩ (.slice none 0 0) = w7 at *
      have n8 : Below w7.heap.size w7 (w7.alloc (.cells #[] 36)) := (Below.refl _ _).alloc (Nat.le_refl _) _
      have z8 : (w7.alloc (.cells #[] 36)).heap.size = w7.heap.size + 1 := by simp
      have pl := P7.lt
      have S8 : Hid (WoS w (w7.alloc (.cells #[] 36)) p w7.heap.size 7 (.slice none 0 0) (.slice (some ⟨w7.heap.size, 0, none⟩) 0 0) ([] : List Mrk) [] [] g3 a3 X) :=
        ⟨P7.up n8, V7.out.move (fun k hk _ _ => n8.block k hk) _ (fun q hq => by
          rcases List.mem_cons.1 hq with rfl | hq
          · exact .inr (by simp)
          · have := mem_obs.1 hq
            simp only [Value.ownBlock, Option.some.injEq] at this
            exact .inl (by omega)), ⟨World.ownsRow_lit w7 #[] 0 (Nat.le_refl _) (by unfold maxLen; omega) (by simp), rfl, fun i h => absurd h (by simp), fun i h => absurd h (by simp)⟩, fun i h => absurd h (by simp), F7.out, nxt N7.out n8, ⟨pp, pl, by omega, fun h0 => by have := gp.out h0; omega⟩, E7.out.up n8⟩
      clear n8 z8 P7 V7 F7 N7 E7
      go_upto_region 8 with fail
      generalize w7.alloc (.cells #[] 36) = w8 at *
      generalize w7.heap.size = B at *
      have WD : ∃ wd', wd' = (7 : Int) := ⟨_, rfl⟩
      obtain ⟨wd', hwd⟩ := WD
      rw [← hwd] at S8
      clear hwd
      go_upto_region 9 with fail
      go_loopw [7, 8, 9] (fun vn vi vk wr => ∃ (k : Nat) (now : Int) (a' : Option Addr) (l' c' : Nat) (av : Option Addr) (lv cv : Nat) (ms : List Mrk) (its : List (Int × List Int)) (bs : List Plc), vn = .int .i64 now ∧ vi = .slice a' l' c' ∧ vk = .int .i64 (k : Int) ∧ k ≤ 20 ∧ Hid (0 ≤ now ∧ now ≤ 126701150399 + 9 * (k : Int)) ∧ Hid (its.length ≤ k) ∧ Hid (k = 0 ∨ 0 < ms.length) ∧ Hid (IdK now ms its) ∧ Hid (WoS w wr p B wd' (.slice av lv cv) (.slice a' l' c') ms its bs g3 a3 X)) (fun _ _ vk _ => 20 - (intOf vk).toNat)
      case atStart => exact ⟨0, 100, _, _, _, none, 0, 0, ([] : List Mrk), [], [], rfl, rfl, rfl, by omega, ⟨T7.out.1, by have := T7.out.2; omega⟩, Nat.zero_le _, .inl rfl, IdK.nil _ _, S8⟩
      case round =>
        clear S8 T7
        obtain ⟨k, now, a', l', c', av, lv, cv, ms, its, bs, rfl, rfl, rfl, hk, T, IL, KM, IK, S⟩ := hrel
        by_cases hlt : k < 20
        · have k0 : (k : Int) < 20 := by omega
          have k1 : decide ((k : Int) < 20) = true := by simp; omega
          have k2 : IntKind.i64.wrap ((k : Int) + 1) = ((k + 1 : Nat) : Int) := by rw [IntKind.wrap_i64]; omega
          go_wp2_with fail
          refine (LW.out wr S.out.E).mono ?_
          rintro e wa ⟨rfl, Za, na⟩
          have sN := hide S.out.N
          have sz : B ≤ wr.heap.size := S.out.b.2.2.1
          go_wp2_with fail
          refine (AT.out wa (nxt sN.out na) (k : Int) 6 (by omega) (by omega) (by decide) (by decide)).mono ?_
          rintro e wb ⟨r, rfl, hr, mm, rfl⟩
          have c30 := (Za.of_block (w' := wa.drewN mm) rfl).cell (i := 30) (by rw [L32.out]; decide)
          have f30 := (Za.of_block (w' := wa.drewN mm) rfl).free 30
          have Z12 := hide ((Za.of_block (w' := wa.drewN mm) rfl).store 30 (r : Int))
          have l12 : Hid ((Z.set 30 (r : Int)).length = 32) := by show _ = _; rw [List.length_set]; exact L32.out
          have y12 := hide (byt_setI B32.out 30 (r : Int) (by omega) (by omega))
          have n12 := hide ((below_drewN na mm).trans ((Only.setCell (wa.drewN mm) wr.heap.size 30 (.int .u8 (r : Int))).below (Nat.le_refl _)))
          have hr6 : (r : Int) < 256 := by omega
          clear Za na hr
          go_upto_region 13 with fail
          clear c30 f30
          generalize (wa.drewN mm).setCell ⟨wr.heap.size, 30, none⟩ (.int .u8 (r : Int)) = wc at *
          generalize hY : Z.set 30 (r : Int) = Y at *
          clear hY hr6
          have S12 := hide (S.out.up n12.out)
          have q10 : wr.heap.size < wc.heap.size := Z12.out.lt
          generalize wr.heap.size = qa at *
          clear S n12 sN
          have k3 : IntKind.i64.wrap ((k : Int) + 1) = (k : Int) + 1 := by rw [IntKind.wrap_i64]; omega
          go_wp2_with fail
          refine (AT.out wc S12.out.N ((k : Int) + 1) 9 (by omega) (by omega) (by decide) (by decide)).mono ?_
          rintro e wd2 ⟨r2, rfl, hr2, m2, rfl⟩
          have Z13 := hide (Z12.out.of_block (w' := wc.drewN m2) rfl)
          have S13 := hide (S12.out.up (below_drewN (Below.refl _ wc) m2))
          have q13 : qa < (wc.drewN m2).heap.size := q10
          obtain ⟨nw, hnw⟩ : ∃ nw : Int, nw = now + (r2 : Int) := ⟨_, rfl⟩
          have wn : IntKind.i64.wrap (now + (r2 : Int)) = nw := by rw [IntKind.wrap_i64]; have := T.out; omega
          have T2 : Hid (0 ≤ nw ∧ now ≤ nw ∧ nw ≤ 126701150399 + 9 * ((k + 1 : Nat) : Int)) := by
            have := T.out
            exact ⟨by omega, by omega, by omega⟩
          clear hnw Z12 S12 q10 T hr2 k3
          generalize wc.drewN m2 = wd3 at *
          have ok : Hid (AskOk wd' ms Y nw) := ⟨S13.out.f, l12.out, by have := T2.out; unfold tmO; simp; omega⟩
          obtain ⟨gv', av', cv', ps', ev, rv, hv⟩ := S13.out.V.rd
          simp only [Value.slice.injEq] at ev
          obtain ⟨rfl, rfl, rfl⟩ := ev
          have c0 := S13.out.P.c0
          have c1 := S13.out.P.c1
          have SA := specAsk_any wd3 wd' gv' av cv ms ps' rv hv qa (some ⟨qa, 0, none⟩) 32 Y Z13.out.own0.rd y12.out nw
          have IA := hide (fun W (n : Below wd3.heap.size wd3 W) g2 a2 c2 (r2 : Rd W g2 a2 .u8 Y) => implAsk_any W wd' gv' av cv ms ps' (rv.up n) hv g2 a2 c2 Y r2 y12.out nw)
          have CH := hide (fun (m : Mrk) (hm : m ∈ ms) (hu : nw ≤ m.un) (hx : m.id = Y) => askC_held ok.out hm hu hx)
          have ST := hide (fun (m : Mrk) (hm : m ∈ ms) (hu : nw ≤ m.un) => nxM_stay ok.out hm hu)
          have NW := hide (nxM_new ok.out)
          have FW := hide (nxM_wf ok.out)
          have PM := hide (nxM_pos ok.out)
          have BM := hide (nxM_byt ok.out hv y12.out)
          have WB : 0 ≤ wd' ∧ wd' ≤ 86400 := by
            have := (wfV_zero S13.out.f).1
            unfold wdO at this
            simpa using this
          have EW : askW wd' ms Y nw = wd' := by
            unfold askW
            rw [if_pos ok.out]
          unfold AsP at SA
          unfold AwP at IA
          unfold nxM at ST NW FW PM BM
          rw [EW] at SA IA
          rw [l12.out] at SA
          clear EW ok rv hv
          generalize askM wd' ms Y nw = im at *
          generalize askC wd' ms Y nw = cd at *
          have SA := hide SA
          go_wp2_with fail
          refine SA.out.mono ?_
          rintro e wd4 ⟨⟨v0, C0, B0, bs0, rfl, K0⟩, n14⟩
          obtain ⟨a9, c9, rfl, -⟩ := K0.slice
          have m15 : Below wd4.heap.size wd4 (wd4.alloc (.cells #[.int .i64 cd, .int .i64 wd', .slice a9 im.length c9] 32)) := (Below.refl _ _).alloc (Nat.le_refl _) _
          have n15 := hide (nxt n14 m15)
          have T15 := RwC.new wd4 [.int .i64 cd, .int .i64 wd', .slice a9 im.length c9] 32
          have S15 := hide (S13.out.up n15.out)
          have Z15 := hide (Z13.out.up n15.out)
          clear SA K0 n14 m15 S13 Z13 c0 c1
          go_upto_region 15 with fail
          generalize wd4.alloc (.cells #[.int .i64 cd, .int .i64 wd', .slice a9 im.length c9] 32) = W15 at *
          generalize wd4.heap.size = q11 at *
          refine region_newT 6 5 4 12 67 _ (fun i => [Fact.eq (.agg #[.int .i64 wd', .slice av ms.length cv]), Fact.eq (.slice (some ⟨qa, 0, none⟩) 32 32), CpO W15.heap.size Y, Fact.eq (.int .i64 nw), MkG W15.heap.size im [.int .i64 cd, .int .i64 wd'], NBt W15.heap.size 32 [.int .i64 0, .int .i64 0, .slice none 0 0]].getD i Fact.no) 32 [.int .i64 0, .int .i64 0, .slice none 0 0] (MkG W15.heap.size im [.int .i64 cd, .int .i64 wd']) (by kernel_rfl) (by kernel_rfl) rfl rfl rfl (by kernel_rfl) (by kernel_rfl) rfl (by kernel_rfl) rfl ?_ ?_ ?_
          · rintro v W ⟨x, bsx, rfl, R⟩
            obtain ⟨ax, cx, rfl, -⟩ := R.slice
            exact ⟨[.int .i64 cd, .int .i64 wd', .slice ax im.length cx], rfl, rfl, by simp [Value.oneCell']⟩
          · intro i hi
            obtain rfl | rfl | rfl | rfl | rfl | rfl : i = 0 ∨ i = 1 ∨ i = 2 ∨ i = 3 ∨ i = 4 ∨ i = 5 := by omega
            · exact step_load rfl 25 (.tmp 5) rfl _ 2 Try.underlying25 rfl (by kernel_rfl) fun A ww hb hw hf => ⟨p, 0, [.int .i64 wd', .slice av ms.length cv], hb.2.2 5 (by kernel_rfl), rangeK S15.out.P.rangeG hw, rfl, rfl⟩
            · refine step_pure rfl fun A ww hb hw hf => ?_
              have e0 : A.tmps[10]?.getD undef = .slice (some ⟨qa, 0, none⟩) 32 32 := gdv (hb.2.2 10 (by kernel_rfl))
              exact ⟨_, by simp [go_sem, e0], rfl⟩
            · refine step_callv rfl 10 _ _ rfl (by kernel_rfl) fun A ww hb hw hf => ?_
              have e6 : A.tmps.getD 64 undef = .slice (some ⟨qa, 0, none⟩) 32 32 := hf 1 64 (by kernel_rfl)
              show Calls Try.prog 10 #[A.tmps.getD 64 undef] ww _
              rw [e6]
              have CL := lwCopyO_any ww qa (some ⟨qa, 0, none⟩) 32 Y ((Z15.out.up hw).own0.rd) (fun e => by cases e) (by rw [l12.out]; decide)
              rw [l12.out] at CL
              refine CL.mono ?_
              rintro e w' ⟨v, rfl, R, n⟩
              have R : RowB w' ww.heap.size v Y := by
                unfold RowB
                rw [l12.out]
                exact R
              obtain ⟨ax, cx, gx, ev, -⟩ := R.own
              subst ev
              exact ⟨_, rfl, n, ax, cx, rfl, R.base hw.size⟩
            · refine step_pure rfl fun A ww hb hw hf => ?_
              have e0 : A.tmps[7]?.getD undef = .int .i64 nw := gdv (hb.2.2 7 (by kernel_rfl))
              exact ⟨_, by simp [go_sem, e0], rfl⟩
            · refine step_callv rfl 9 _ _ rfl (by kernel_rfl) fun A ww hb hw hf => ?_
              have e5 : A.tmps.getD 63 undef = .agg #[.int .i64 wd', .slice av ms.length cv] := hf 0 63 (by kernel_rfl)
              obtain ⟨ax, cx, e6, R6⟩ := hf 2 65 (by kernel_rfl)
              have e7 : A.tmps.getD 66 undef = .int .i64 nw := hf 3 66 (by kernel_rfl)
              show Calls Try.prog 9 #[A.tmps.getD 63 undef, A.tmps.getD 65 undef, A.tmps.getD 66 undef] ww _
              rw [e5, e6, e7]
              obtain ⟨ay, cy, gy, ev, Oy, -⟩ := R6.own
              simp only [Value.slice.injEq, true_and] at ev
              obtain ⟨rfl, rfl⟩ := ev
              refine (IA.out ww (nxt n15.out hw) gy ax cx Oy.rd).mono ?_
              rintro e w' ⟨⟨v, bsv, rfl, R⟩, n⟩
              exact ⟨_, rfl, n, v, bsv, rfl, R.base hw.size⟩
            · exact step_newWa rfl rfl rfl
          intro vs W W5 q12 cs vq hq hw rq hG OQ rc hW
          obtain ⟨x, bsx, ec, R⟩ := hG
          simp only [Value.agg.injEq, Array.mk.injEq, List.cons_append, List.nil_append] at ec
          subst ec
          have R5 := R.newT rq OQ
          obtain ⟨ax, cx, rfl, -⟩ := R5.slice
          have S16 := hide (S15.out.up hW)
          have Z16 := hide (Z15.out.up hW)
          have T16 := T15.up hW
          have V16 := hide (WnR.ofI R5 BM.out (C := w.heap.size) (by have := S15.out.N.size; omega) (p :: obs (.slice a' l' c')) (fun q hq => by
            rcases List.mem_cons.1 hq with rfl | hq
            · exact S15.out.P.lt
            · exact (S15.out.I.o.lt q (mem_obs.1 hq)).2))
          have U16 : RwC W5 q12 [.int .i64 cd, .int .i64 wd', .slice ax im.length cx] 32 := rc
          obtain ⟨gw, aw, cw, pw, ew, rw', hw'⟩ := V16.out.rd
          simp only [Value.slice.injEq] at ew
          obtain ⟨rfl, -, rfl⟩ := ew
          have WF := implWf_any W5 wd' gw ax cx (toM im) pw rw' hw'
          rw [toM_len, FW.out] at WF
          have WFh := hide WF
          have L64 : im.length ≤ 64 := by
            have := (wfV_zero FW.out).2.1
            rwa [toM_len] at this
          have q12o : Hid (q12 ∉ obs (.slice a' l' c')) := fun m => by
            have := (S15.out.I.o.lt _ (mem_obs.1 m)).2
            omega
          clear R R5 rq OQ rc hw hW S15 Z15 T15 n15 IA hq WF rw' hw' BM
          simp only [puts, vq, Act.put, List.setIfInBounds_toArray, List.set_cons_succ, List.set_cons_zero]
          clear vq
          obtain ⟨a'', c'', e'', -⟩ := S16.out.I.slice
          simp only [Value.slice.injEq] at e''
          obtain ⟨-, rfl, -⟩ := e''
          have d0 := U16.c0
          have d1 := U16.c1
          have d2 := U16.c2
          have d3 := T16.c0
          have te : (cd != cd) = false := by simp
          have tl : ¬ (64 : Int) < (im.length : Int) := by omega
          have tl' : decide ((64 : Int) < (im.length : Int)) = false := decide_eq_false tl
          clear L64
          go_wp2_with fail
          refine WFh.out.mono ?_
          rintro e W6 ⟨rfl, n6⟩
          have S17 := hide (S16.out.up n6)
          have Z17 := hide (Z16.out.up n6)
          have V17 := hide (V16.out.up n6)
          have U17 := hide (U16.up n6)
          have q6 : q12 < W6.heap.size := U17.out.lt
          clear S16 Z16 V16 U16 T16 n6 WFh d0 d1 d2 d3
          have d0 := U17.out.c0
          have d1 := U17.out.c1
          have d2 := U17.out.c2
          go_upto_region 19 with fail
          go_loopw [13] (fun vj wr => wr = W6 ∧ ∃ j : Nat, vj = .int .i64 (j : Int) ∧ j ≤ its.length) (fun vj _ => its.length - (intOf vj).toNat)
          case atStart => exact ⟨rfl, 0, rfl, Nat.zero_le _⟩
          case round =>
            obtain ⟨hwr, j, rfl, hj⟩ := hrel
            subst hwr
            by_cases hjl : j < its.length
            · have j0 : (j : Int) < (its.length : Int) := by omega
              have j0' : decide ((j : Int) < (its.length : Int)) = true := decide_eq_true j0
              have j1 : IntKind.i64.wrap ((j : Int) + 1) = ((j + 1 : Nat) : Int) := by rw [IntKind.wrap_i64]; have := IL.out; omega
              obtain ⟨gi, ci, ei, -, -, -, hcell, -⟩ := S17.out.I.cells (by omega)
              simp only [Value.slice.injEq] at ei
              obtain ⟨rfl, -, rfl⟩ := ei
              have x1 := (hcell j hjl).1
              have x2 := (hcell j hjl).2
              have rj := S17.out.I.b j hjl
              have yj := S17.out.y j hjl
              have mj := hide (IK.out j hjl)
              generalize (its.getD j (0, [])).2 = xj at *
              generalize (its.getD j (0, [])).1 = uj at *
              generalize (bs.getD j plc0).a = pa at *
              generalize (bs.getD j plc0).c = pc at *
              generalize (bs.getD j plc0).q = pq at *
              by_cases hxy : xj = Y
              · rw [hxy] at x1 rj mj
                have LS := lwSame_same wr pq qa pa (some ⟨qa, 0, none⟩) pc 32 Y rj Z17.out.own0.rd
                rw [l12.out] at LS x1
                have LS := hide LS
                clear hcell yj rj hxy
                by_cases hu : nw ≤ uj
                · have ec : cd = 1 := CH.out ⟨Y, uj⟩ (mj.out (by have := T2.out; omega)) hu rfl
                  have tu : decide (nw ≤ uj) = true := decide_eq_true hu
                  subst ec
                  clear mj
                  go_wp2_with fail
                  refine LS.out.mono ?_
                  rintro e wq ⟨rfl, hwq⟩
                  have hwq := hwq.symm
                  subst hwq
                  go_wp2
                  go_roundw
                  case rel => exact ⟨by first | rfl | trivial, j + 1, rfl, by omega⟩
                  case measure => simp [intOf]; omega
                · have tu : decide (nw ≤ uj) = false := decide_eq_false hu
                  clear mj
                  go_wp2_with fail
                  refine LS.out.mono ?_
                  rintro e wq ⟨rfl, hwq⟩
                  have hwq := hwq.symm
                  subst hwq
                  go_wp2
                  go_roundw
                  case rel => exact ⟨by first | rfl | trivial, j + 1, rfl, by omega⟩
                  case measure => simp [intOf]; omega
              · have LS := hide (lwSame_diff wr pq qa pa (some ⟨qa, 0, none⟩) pc 32 xj Y rj Z17.out.own0.rd yj y12.out hxy)
                rw [l12.out] at LS
                clear hcell yj rj hxy mj
                generalize xj.length = xl at *
                go_wp2_with fail
                refine LS.out.mono ?_
                rintro e wq ⟨rfl, hwq⟩
                have hwq := hwq.symm
                subst hwq
                go_wp2
                go_roundw
                case rel => exact ⟨by first | rfl | trivial, j + 1, rfl, by omega⟩
                case measure => simp [intOf]; omega
            · have j0 : ¬ (j : Int) < (its.length : Int) := by omega
              have j0' : decide ((j : Int) < (its.length : Int)) = false := decide_eq_false j0
              have IKn : Hid (IdK nw (toM im) its) := IK.out.next T2.out.2.1 (fun m hm hu => ST.out m hm hu)
              clear hj IK ST CH KM
              by_cases hc0 : cd = 0
              · have t0 : (cd == 0) = true := by simp [hc0]
                have w2 : IntKind.i64.wrap (2 * wd') = 2 * wd' := by rw [IntKind.wrap_i64]; omega
                have w3' : IntKind.i64.wrap (nw + 2 * wd') = nw + 2 * wd' := by rw [IntKind.wrap_i64]; have := T2.out; omega
                have NM := hide (NW.out hc0)
                have p0 := S17.out.P.c0
                have N1 : Hid (Calls Try.prog 10 #[.slice (some ⟨qa, 0, none⟩) 32 32] wr.drew fun e w1 => ∃ (ay : Option Addr) (cy : Nat), e = .returned (.slice ay 32 cy) ∧ w1.cell? ⟨p, 0, none⟩ = some (.int .i64 wd') ∧ (w1.alloc (.cells #[.slice ay 32 cy, .int .i64 (nw + 2 * wd')] 36)).cell? ⟨p, 0, none⟩ = some (.int .i64 wd') ∧
                    ∃ v' w4, (Builtin.append_ #[23, 23] 23 #[.slice a' its.length c', .slice (some ⟨w1.heap.size, 0, none⟩) 1 1]).run Try.prog (w1.alloc (.cells #[.slice ay 32 cy, .int .i64 (nw + 2 * wd')] 36)) = .ok v' w4 ∧ ((∃ a l c, v' = .slice a l c) ∧ Hid (∃ its2 bs2, its2.length ≤ k + 1 ∧ IdK nw (toM im) its2 ∧ WoS w w4 p B wd' (.slice av ms.length cv) v' ms its2 bs2 g3 a3 X ∧ WnR w4 w.heap.size (p :: obs v') (.slice ax im.length cx) (toM im) ∧ RwC w4 q12 [.int .i64 cd, .int .i64 wd', .slice ax im.length cx] 32))) := by
                  have nd : Below wr.heap.size wr wr.drew := (Below.refl _ _).drew
                  have CL := lwCopyO_any wr.drew qa (some ⟨qa, 0, none⟩) 32 Y Z17.out.own0.rd (fun e => by cases e) (by rw [l12.out]; decide)
                  rw [l12.out] at CL
                  refine CL.mono ?_
                  rintro e w1 ⟨v, rfl, R, n⟩
                  have R : RowB w1 wr.heap.size v Y := by
                    unfold RowB
                    rw [l12.out]
                    exact R
                  have n := nxt nd n
                  obtain ⟨ay, cy, gy, ev, Oy, -, -, hgy⟩ := R.own
                  subst ev
                  have P1 := S17.out.P.up n
                  obtain ⟨v', w4, h1, h2, h3, h4, h5⟩ := S17.out.add n (by have := IL.out; omega) Y y12.out gy ay cy Oy.rd hgy (nw + 2 * wd')
                  rw [l12.out] at h1
                  refine ⟨ay, cy, by rw [l12.out], P1.c0, (P1.push _).c0, v', w4, h1, h2, _, _, by have := IL.out; simp; omega, IKn.out.add NM.out, h3, h5 _ _ V17.out, (h4 q12 q6 q12o.out).trans U17.out⟩
                clear S17 V17 U17 Z17 NW NM IKn
                go_upto_region 24 with fail
                clear d0 d1 d2
                go_region_law (first
                  | (go_simp; go_at_call 10; with_reducible refine N1.out.mono ?_; rintro e w1 ⟨ay, cy, rfl, m1, m4, AP⟩)
                  | (refine step_append_exB rfl (.tmp 116) (.tmp 125) 23 23 rfl (.slice a' its.length c') (.slice (some ⟨w1.heap.size, 0, none⟩) 1 1) rfl rfl _ AP ?_; rintro v3 w4 ⟨⟨ai, li, ci, rfl⟩, FF⟩)
                  | fail)
                all_goals
                  clear N1 AP m1 m4 p0
                  obtain ⟨its2, bs2, IL2, IK2, S18, V18, U18⟩ := FF.out
                  clear FF
                  have S18 := hide S18
                  have V18 := hide V18
                  have IL2 : Hid (its2.length ≤ k + 1) := IL2
                  have IK2 := hide IK2
                  have d1 := U18.c1
                  have d2 := U18.c2
                  clear U18
                  have p0 := S18.out.P.c0
                  have p1 := S18.out.P.c1
                  have f0 := S18.out.P.free 0
                  have f1 := S18.out.P.free 1
                  have S19 := hide (S18.out.take (.slice ax im.length cx) (toM im) V18.out FW.out (fun h0 => by have := gp.out h0; omega))
                  clear S18 V18
                  go_wp2
                  go_roundw
                  case rel => exact ⟨k + 1, nw, _, _, _, ax, im.length, cx, toM im, _, _, rfl, rfl, rfl, by omega, ⟨T2.out.1, T2.out.2.2⟩, IL2, .inr PM.out, IK2, S19⟩
                  case measure => simp [intOf]; omega
              · have t0 : (cd == 0) = false := by simp [hc0]
                have S18 := S17
                have V18 := V17
                have IL2 : Hid (its.length ≤ k + 1) := by have := IL.out; exact Nat.le_succ_of_le this
                have IK2 := IKn
                clear S17 V17 U17 Z17 NW IKn hc0
                have p0 := S18.out.P.c0
                have p1 := S18.out.P.c1
                have f0 := S18.out.P.free 0
                have f1 := S18.out.P.free 1
                have S19 := hide (S18.out.take (.slice ax im.length cx) (toM im) V18.out FW.out (fun h0 => by have := gp.out h0; omega))
                clear S18 V18
                go_wp2
                go_roundw
                case rel => exact ⟨k + 1, nw, _, _, _, ax, im.length, cx, toM im, _, _, rfl, rfl, rfl, by omega, ⟨T2.out.1, T2.out.2.2⟩, IL2, .inr PM.out, IK2, S19⟩
                case measure => simp [intOf]; omega
        · have k0 : ¬ (k : Int) < 20 := by omega
          have k0' : decide ((k : Int) < 20) = false := decide_eq_false k0
          have hpos : 0 < ms.length := by
            rcases KM.out with h | h
            · omega
            · exact h
          obtain ⟨a'', c'', e'', -⟩ := S.out.I.slice
          simp only [Value.slice.injEq] at e''
          obtain ⟨-, rfl, -⟩ := e''
          obtain ⟨gv', av', cv', ps', ev, -, -⟩ := S.out.V.rd
          simp only [Value.slice.injEq] at ev
          obtain ⟨-, rfl, -⟩ := ev
          have p1 := S.out.P.c1
          have NF := hide S.out.N
          have hm1 : (0 : Int) < (ms.length : Int) := by omega
          have hm1' : decide ((0 : Int) < (ms.length : Int)) = true := decide_eq_true hm1
          clear S IK KM T IL
          generalize ms.length = lm at *
          by_cases hi0 : its.length = 0
          · rw [hi0]
            have z0 : ((0 : Nat) : Int) = 0 := rfl
            clear hi0
            go_wp2
            go_ret
            exact ⟨rfl, NF.out⟩
          · have hi1 : (0 : Int) < (its.length : Int) := by omega
            have hi1' : decide ((0 : Int) < (its.length : Int)) = true := decide_eq_true hi1
            clear hi0
            generalize its.length = li at *
            go_wp2
            go_ret
            exact ⟨rfl, NF.out⟩
    · have t2 : decide (now < 0) = false := decide_eq_false h2
      by_cases h3 : 126701150399 < now
      · have t3 : decide (126701150399 < now) = true := decide_eq_true h3
        have O7 : Only p w3 ((w3.setCell ⟨p, 0, none⟩ (.int .i64 7)).setCell ⟨p, 1, none⟩ (.slice none 0 0)) := (Only.setCell _ _ 0 _).trans (Only.setCell _ _ 1 _)
        have P7 : RwC ((w3.setCell ⟨p, 0, none⟩ (.int .i64 7)).setCell ⟨p, 1, none⟩ (.slice none 0 0)) p [.int .i64 7, .slice none 0 0] 25 := (P3.set 0 _).set 1 _
        have N7 := hide (N3.out.trans (O7.below pp))
        have E7 := hide (rd_of E3.out (fun h0 => O7.block g3 (by have := gp.out h0; omega)))
        have V7 : Hid (WnR ((w3.setCell ⟨p, 0, none⟩ (.int .i64 7)).setCell ⟨p, 1, none⟩ (.slice none 0 0)) w.heap.size [p] (.slice none 0 0) []) := WnR.nil _ _ _
        have F7 : Hid (wfV 7 ([] : List Mrk) = 0) := wfV7
        have T7 : Hid ((0 : Int) ≤ 100 ∧ (100 : Int) ≤ 126701150399) := ⟨by decide, by decide⟩
        have d0 := P3.c0
        have d1 := P3.c1
        have e0 := P3.free 0
        have e1 := P3.free 1
        clear P3 V3 N3 E3 O7 HFL
        go_upto_region 7 with fail
        clear d0 d1 e0 e1
        generalize (w3.setCell ⟨p, 0, none⟩ (.int .i64 7)).setCell ⟨p, 1, none⟩ (.slice none 0 0) = w7 at *
        have n8 : Below w7.heap.size w7 (w7.alloc (.cells #[] 36)) := (Below.refl _ _).alloc (Nat.le_refl _) _
        have z8 : (w7.alloc (.cells #[] 36)).heap.size = w7.heap.size + 1 := by simp
        have pl := P7.lt
        have S8 : Hid (WoS w (w7.alloc (.cells #[] 36)) p w7.heap.size 7 (.slice none 0 0) (.slice (some ⟨w7.heap.size, 0, none⟩) 0 0) ([] : List Mrk) [] [] g3 a3 X) :=
          ⟨P7.up n8, V7.out.move (fun k hk _ _ => n8.block k hk) _ (fun q hq => by
            rcases List.mem_cons.1 hq with rfl | hq
            · exact .inr (by simp)
            · have := mem_obs.1 hq
              simp only [Value.ownBlock, Option.some.injEq] at this
              exact .inl (by omega)), ⟨World.ownsRow_lit w7 #[] 0 (Nat.le_refl _) (by unfold maxLen; omega) (by simp), rfl, fun i h => absurd h (by simp), fun i h => absurd h (by simp)⟩, fun i h => absurd h (by simp), F7.out, nxt N7.out n8, ⟨pp, pl, by omega, fun h0 => by have := gp.out h0; omega⟩, E7.out.up n8⟩
        clear n8 z8 P7 V7 F7 N7 E7
        go_upto_region 8 with fail
        generalize w7.alloc (.cells #[] 36) = w8 at *
        generalize w7.heap.size = B at *
        have WD : ∃ wd', wd' = (7 : Int) := ⟨_, rfl⟩
        obtain ⟨wd', hwd⟩ := WD
        rw [← hwd] at S8
        clear hwd
        go_upto_region 9 with fail
        go_loopw [7, 8, 9] (fun vn vi vk wr => ∃ (k : Nat) (now : Int) (a' : Option Addr) (l' c' : Nat) (av : Option Addr) (lv cv : Nat) (ms : List Mrk) (its : List (Int × List Int)) (bs : List Plc), vn = .int .i64 now ∧ vi = .slice a' l' c' ∧ vk = .int .i64 (k : Int) ∧ k ≤ 20 ∧ Hid (0 ≤ now ∧ now ≤ 126701150399 + 9 * (k : Int)) ∧ Hid (its.length ≤ k) ∧ Hid (k = 0 ∨ 0 < ms.length) ∧ Hid (IdK now ms its) ∧ Hid (WoS w wr p B wd' (.slice av lv cv) (.slice a' l' c') ms its bs g3 a3 X)) (fun _ _ vk _ => 20 - (intOf vk).toNat)
        case atStart => exact ⟨0, 100, _, _, _, none, 0, 0, ([] : List Mrk), [], [], rfl, rfl, rfl, by omega, ⟨T7.out.1, by have := T7.out.2; omega⟩, Nat.zero_le _, .inl rfl, IdK.nil _ _, S8⟩
        case round =>
          clear S8 T7
          obtain ⟨k, now, a', l', c', av, lv, cv, ms, its, bs, rfl, rfl, rfl, hk, T, IL, KM, IK, S⟩ := hrel
          by_cases hlt : k < 20
          · have k0 : (k : Int) < 20 := by omega
            have k1 : decide ((k : Int) < 20) = true := by simp; omega
            have k2 : IntKind.i64.wrap ((k : Int) + 1) = ((k + 1 : Nat) : Int) := by rw [IntKind.wrap_i64]; omega
            go_wp2_with fail
            refine (LW.out wr S.out.E).mono ?_
            rintro e wa ⟨rfl, Za, na⟩
            have sN := hide S.out.N
            have sz : B ≤ wr.heap.size := S.out.b.2.2.1
            go_wp2_with fail
            refine (AT.out wa (nxt sN.out na) (k : Int) 6 (by omega) (by omega) (by decide) (by decide)).mono ?_
            rintro e wb ⟨r, rfl, hr, mm, rfl⟩
            have c30 := (Za.of_block (w' := wa.drewN mm) rfl).cell (i := 30) (by rw [L32.out]; decide)
            have f30 := (Za.of_block (w' := wa.drewN mm) rfl).free 30
            have Z12 := hide ((Za.of_block (w' := wa.drewN mm) rfl).store 30 (r : Int))
            have l12 : Hid ((Z.set 30 (r : Int)).length = 32) := by show _ = _; rw [List.length_set]; exact L32.out
            have y12 := hide (byt_setI B32.out 30 (r : Int) (by omega) (by omega))
            have n12 := hide ((below_drewN na mm).trans ((Only.setCell (wa.drewN mm) wr.heap.size 30 (.int .u8 (r : Int))).below (Nat.le_refl _)))
            have hr6 : (r : Int) < 256 := by omega
            clear Za na hr
            go_upto_region 13 with fail
            clear c30 f30
            generalize (wa.drewN mm).setCell ⟨wr.heap.size, 30, none⟩ (.int .u8 (r : Int)) = wc at *
            generalize hY : Z.set 30 (r : Int) = Y at *
            clear hY hr6
            have S12 := hide (S.out.up n12.out)
            have q10 : wr.heap.size < wc.heap.size := Z12.out.lt
            generalize wr.heap.size = qa at *
            clear S n12 sN
            have k3 : IntKind.i64.wrap ((k : Int) + 1) = (k : Int) + 1 := by rw [IntKind.wrap_i64]; omega
            go_wp2_with fail
            refine (AT.out wc S12.out.N ((k : Int) + 1) 9 (by omega) (by omega) (by decide) (by decide)).mono ?_
            rintro e wd2 ⟨r2, rfl, hr2, m2, rfl⟩
            have Z13 := hide (Z12.out.of_block (w' := wc.drewN m2) rfl)
            have S13 := hide (S12.out.up (below_drewN (Below.refl _ wc) m2))
            have q13 : qa < (wc.drewN m2).heap.size := q10
            obtain ⟨nw, hnw⟩ : ∃ nw : Int, nw = now + (r2 : Int) := ⟨_, rfl⟩
            have wn : IntKind.i64.wrap (now + (r2 : Int)) = nw := by rw [IntKind.wrap_i64]; have := T.out; omega
            have T2 : Hid (0 ≤ nw ∧ now ≤ nw ∧ nw ≤ 126701150399 + 9 * ((k + 1 : Nat) : Int)) := by
              have := T.out
              exact ⟨by omega, by omega, by omega⟩
            clear hnw Z12 S12 q10 T hr2 k3
            generalize wc.drewN m2 = wd3 at *
            have ok : Hid (AskOk wd' ms Y nw) := ⟨S13.out.f, l12.out, by have := T2.out; unfold tmO; simp; omega⟩
            obtain ⟨gv', av', cv', ps', ev, rv, hv⟩ := S13.out.V.rd
            simp only [Value.slice.injEq] at ev
            obtain ⟨rfl, rfl, rfl⟩ := ev
            have c0 := S13.out.P.c0
            have c1 := S13.out.P.c1
            have SA := specAsk_any wd3 wd' gv' av cv ms ps' rv hv qa (some ⟨qa, 0, none⟩) 32 Y Z13.out.own0.rd y12.out nw
            have IA := hide (fun W (n : Below wd3.heap.size wd3 W) g2 a2 c2 (r2 : Rd W g2 a2 .u8 Y) => implAsk_any W wd' gv' av cv ms ps' (rv.up n) hv g2 a2 c2 Y r2 y12.out nw)
            have CH := hide (fun (m : Mrk) (hm : m ∈ ms) (hu : nw ≤ m.un) (hx : m.id = Y) => askC_held ok.out hm hu hx)
            have ST := hide (fun (m : Mrk) (hm : m ∈ ms) (hu : nw ≤ m.un) => nxM_stay ok.out hm hu)
            have NW := hide (nxM_new ok.out)
            have FW := hide (nxM_wf ok.out)
            have PM := hide (nxM_pos ok.out)
            have BM := hide (nxM_byt ok.out hv y12.out)
            have WB : 0 ≤ wd' ∧ wd' ≤ 86400 := by
              have := (wfV_zero S13.out.f).1
              unfold wdO at this
              simpa using this
            have EW : askW wd' ms Y nw = wd' := by
              unfold askW
              rw [if_pos ok.out]
            unfold AsP at SA
            unfold AwP at IA
            unfold nxM at ST NW FW PM BM
            rw [EW] at SA IA
            rw [l12.out] at SA
            clear EW ok rv hv
            generalize askM wd' ms Y nw = im at *
            generalize askC wd' ms Y nw = cd at *
            have SA := hide SA
            go_wp2_with fail
            refine SA.out.mono ?_
            rintro e wd4 ⟨⟨v0, C0, B0, bs0, rfl, K0⟩, n14⟩
            obtain ⟨a9, c9, rfl, -⟩ := K0.slice
            have m15 : Below wd4.heap.size wd4 (wd4.alloc (.cells #[.int .i64 cd, .int .i64 wd', .slice a9 im.length c9] 32)) := (Below.refl _ _).alloc (Nat.le_refl _) _
            have n15 := hide (nxt n14 m15)
            have T15 := RwC.new wd4 [.int .i64 cd, .int .i64 wd', .slice a9 im.length c9] 32
            have S15 := hide (S13.out.up n15.out)
            have Z15 := hide (Z13.out.up n15.out)
            clear SA K0 n14 m15 S13 Z13 c0 c1
            go_upto_region 15 with fail
            generalize wd4.alloc (.cells #[.int .i64 cd, .int .i64 wd', .slice a9 im.length c9] 32) = W15 at *
            generalize wd4.heap.size = q11 at *
            refine region_newT 6 5 4 12 67 _ (fun i => [Fact.eq (.agg #[.int .i64 wd', .slice av ms.length cv]), Fact.eq (.slice (some ⟨qa, 0, none⟩) 32 32), CpO W15.heap.size Y, Fact.eq (.int .i64 nw), MkG W15.heap.size im [.int .i64 cd, .int .i64 wd'], NBt W15.heap.size 32 [.int .i64 0, .int .i64 0, .slice none 0 0]].getD i Fact.no) 32 [.int .i64 0, .int .i64 0, .slice none 0 0] (MkG W15.heap.size im [.int .i64 cd, .int .i64 wd']) (by kernel_rfl) (by kernel_rfl) rfl rfl rfl (by kernel_rfl) (by kernel_rfl) rfl (by kernel_rfl) rfl ?_ ?_ ?_
            · rintro v W ⟨x, bsx, rfl, R⟩
              obtain ⟨ax, cx, rfl, -⟩ := R.slice
              exact ⟨[.int .i64 cd, .int .i64 wd', .slice ax im.length cx], rfl, rfl, by simp [Value.oneCell']⟩
            · intro i hi
              obtain rfl | rfl | rfl | rfl | rfl | rfl : i = 0 ∨ i = 1 ∨ i = 2 ∨ i = 3 ∨ i = 4 ∨ i = 5 := by omega
              · exact step_load rfl 25 (.tmp 5) rfl _ 2 Try.underlying25 rfl (by kernel_rfl) fun A ww hb hw hf => ⟨p, 0, [.int .i64 wd', .slice av ms.length cv], hb.2.2 5 (by kernel_rfl), rangeK S15.out.P.rangeG hw, rfl, rfl⟩
              · refine step_pure rfl fun A ww hb hw hf => ?_
                have e0 : A.tmps[10]?.getD undef = .slice (some ⟨qa, 0, none⟩) 32 32 := gdv (hb.2.2 10 (by kernel_rfl))
                exact ⟨_, by simp [go_sem, e0], rfl⟩
              · refine step_callv rfl 10 _ _ rfl (by kernel_rfl) fun A ww hb hw hf => ?_
                have e6 : A.tmps.getD 64 undef = .slice (some ⟨qa, 0, none⟩) 32 32 := hf 1 64 (by kernel_rfl)
                show Calls Try.prog 10 #[A.tmps.getD 64 undef] ww _
                rw [e6]
                have CL := lwCopyO_any ww qa (some ⟨qa, 0, none⟩) 32 Y ((Z15.out.up hw).own0.rd) (fun e => by cases e) (by rw [l12.out]; decide)
                rw [l12.out] at CL
                refine CL.mono ?_
                rintro e w' ⟨v, rfl, R, n⟩
                have R : RowB w' ww.heap.size v Y := by
                  unfold RowB
                  rw [l12.out]
                  exact R
                obtain ⟨ax, cx, gx, ev, -⟩ := R.own
                subst ev
                exact ⟨_, rfl, n, ax, cx, rfl, R.base hw.size⟩
              · refine step_pure rfl fun A ww hb hw hf => ?_
                have e0 : A.tmps[7]?.getD undef = .int .i64 nw := gdv (hb.2.2 7 (by kernel_rfl))
                exact ⟨_, by simp [go_sem, e0], rfl⟩
              · refine step_callv rfl 9 _ _ rfl (by kernel_rfl) fun A ww hb hw hf => ?_
                have e5 : A.tmps.getD 63 undef = .agg #[.int .i64 wd', .slice av ms.length cv] := hf 0 63 (by kernel_rfl)
                obtain ⟨ax, cx, e6, R6⟩ := hf 2 65 (by kernel_rfl)
                have e7 : A.tmps.getD 66 undef = .int .i64 nw := hf 3 66 (by kernel_rfl)
                show Calls Try.prog 9 #[A.tmps.getD 63 undef, A.tmps.getD 65 undef, A.tmps.getD 66 undef] ww _
                rw [e5, e6, e7]
                obtain ⟨ay, cy, gy, ev, Oy, -⟩ := R6.own
                simp only [Value.slice.injEq, true_and] at ev
                obtain ⟨rfl, rfl⟩ := ev
                refine (IA.out ww (nxt n15.out hw) gy ax cx Oy.rd).mono ?_
                rintro e w' ⟨⟨v, bsv, rfl, R⟩, n⟩
                exact ⟨_, rfl, n, v, bsv, rfl, R.base hw.size⟩
              · exact step_newWa rfl rfl rfl
            intro vs W W5 q12 cs vq hq hw rq hG OQ rc hW
            obtain ⟨x, bsx, ec, R⟩ := hG
            simp only [Value.agg.injEq, Array.mk.injEq, List.cons_append, List.nil_append] at ec
            subst ec
            have R5 := R.newT rq OQ
            obtain ⟨ax, cx, rfl, -⟩ := R5.slice
            have S16 := hide (S15.out.up hW)
            have Z16 := hide (Z15.out.up hW)
            have T16 := T15.up hW
            have V16 := hide (WnR.ofI R5 BM.out (C := w.heap.size) (by have := S15.out.N.size; omega) (p :: obs (.slice a' l' c')) (fun q hq => by
              rcases List.mem_cons.1 hq with rfl | hq
              · exact S15.out.P.lt
              · exact (S15.out.I.o.lt q (mem_obs.1 hq)).2))
            have U16 : RwC W5 q12 [.int .i64 cd, .int .i64 wd', .slice ax im.length cx] 32 := rc
            obtain ⟨gw, aw, cw, pw, ew, rw', hw'⟩ := V16.out.rd
            simp only [Value.slice.injEq] at ew
            obtain ⟨rfl, -, rfl⟩ := ew
            have WF := implWf_any W5 wd' gw ax cx (toM im) pw rw' hw'
            rw [toM_len, FW.out] at WF
            have WFh := hide WF
            have L64 : im.length ≤ 64 := by
              have := (wfV_zero FW.out).2.1
              rwa [toM_len] at this
            have q12o : Hid (q12 ∉ obs (.slice a' l' c')) := fun m => by
              have := (S15.out.I.o.lt _ (mem_obs.1 m)).2
              omega
            clear R R5 rq OQ rc hw hW S15 Z15 T15 n15 IA hq WF rw' hw' BM
            simp only [puts, vq, Act.put, List.setIfInBounds_toArray, List.set_cons_succ, List.set_cons_zero]
            clear vq
            obtain ⟨a'', c'', e'', -⟩ := S16.out.I.slice
            simp only [Value.slice.injEq] at e''
            obtain ⟨-, rfl, -⟩ := e''
            have d0 := U16.c0
            have d1 := U16.c1
            have d2 := U16.c2
            have d3 := T16.c0
            have te : (cd != cd) = false := by simp
            have tl : ¬ (64 : Int) < (im.length : Int) := by omega
            have tl' : decide ((64 : Int) < (im.length : Int)) = false := decide_eq_false tl
            clear L64
            go_wp2_with fail
            refine WFh.out.mono ?_
            rintro e W6 ⟨rfl, n6⟩
            have S17 := hide (S16.out.up n6)
            have Z17 := hide (Z16.out.up n6)
            have V17 := hide (V16.out.up n6)
            have U17 := hide (U16.up n6)
            have q6 : q12 < W6.heap.size := U17.out.lt
            clear S16 Z16 V16 U16 T16 n6 WFh d0 d1 d2 d3
            have d0 := U17.out.c0
            have d1 := U17.out.c1
            have d2 := U17.out.c2
            go_upto_region 19 with fail
            go_loopw [13] (fun vj wr => wr = W6 ∧ ∃ j : Nat, vj = .int .i64 (j : Int) ∧ j ≤ its.length) (fun vj _ => its.length - (intOf vj).toNat)
            case atStart => exact ⟨rfl, 0, rfl, Nat.zero_le _⟩
            case round =>
              obtain ⟨hwr, j, rfl, hj⟩ := hrel
              subst hwr
              by_cases hjl : j < its.length
              · have j0 : (j : Int) < (its.length : Int) := by omega
                have j0' : decide ((j : Int) < (its.length : Int)) = true := decide_eq_true j0
                have j1 : IntKind.i64.wrap ((j : Int) + 1) = ((j + 1 : Nat) : Int) := by rw [IntKind.wrap_i64]; have := IL.out; omega
                obtain ⟨gi, ci, ei, -, -, -, hcell, -⟩ := S17.out.I.cells (by omega)
                simp only [Value.slice.injEq] at ei
                obtain ⟨rfl, -, rfl⟩ := ei
                have x1 := (hcell j hjl).1
                have x2 := (hcell j hjl).2
                have rj := S17.out.I.b j hjl
                have yj := S17.out.y j hjl
                have mj := hide (IK.out j hjl)
                generalize (its.getD j (0, [])).2 = xj at *
                generalize (its.getD j (0, [])).1 = uj at *
                generalize (bs.getD j plc0).a = pa at *
                generalize (bs.getD j plc0).c = pc at *
                generalize (bs.getD j plc0).q = pq at *
                by_cases hxy : xj = Y
                · rw [hxy] at x1 rj mj
                  have LS := lwSame_same wr pq qa pa (some ⟨qa, 0, none⟩) pc 32 Y rj Z17.out.own0.rd
                  rw [l12.out] at LS x1
                  have LS := hide LS
                  clear hcell yj rj hxy
                  by_cases hu : nw ≤ uj
                  · have ec : cd = 1 := CH.out ⟨Y, uj⟩ (mj.out (by have := T2.out; omega)) hu rfl
                    have tu : decide (nw ≤ uj) = true := decide_eq_true hu
                    subst ec
                    clear mj
                    go_wp2_with fail
                    refine LS.out.mono ?_
                    rintro e wq ⟨rfl, hwq⟩
                    have hwq := hwq.symm
                    subst hwq
                    go_wp2
                    go_roundw
                    case rel => exact ⟨by first | rfl | trivial, j + 1, rfl, by omega⟩
                    case measure => simp [intOf]; omega
                  · have tu : decide (nw ≤ uj) = false := decide_eq_false hu
                    clear mj
                    go_wp2_with fail
                    refine LS.out.mono ?_
                    rintro e wq ⟨rfl, hwq⟩
                    have hwq := hwq.symm
                    subst hwq
                    go_wp2
                    go_roundw
                    case rel => exact ⟨by first | rfl | trivial, j + 1, rfl, by omega⟩
                    case measure => simp [intOf]; omega
                · have LS := hide (lwSame_diff wr pq qa pa (some ⟨qa, 0, none⟩) pc 32 xj Y rj Z17.out.own0.rd yj y12.out hxy)
                  rw [l12.out] at LS
                  clear hcell yj rj hxy mj
                  generalize xj.length = xl at *
                  go_wp2_with fail
                  refine LS.out.mono ?_
                  rintro e wq ⟨rfl, hwq⟩
                  have hwq := hwq.symm
                  subst hwq
                  go_wp2
                  go_roundw
                  case rel => exact ⟨by first | rfl | trivial, j + 1, rfl, by omega⟩
                  case measure => simp [intOf]; omega
              · have j0 : ¬ (j : Int) < (its.length : Int) := by omega
                have j0' : decide ((j : Int) < (its.length : Int)) = false := decide_eq_false j0
                have IKn : Hid (IdK nw (toM im) its) := IK.out.next T2.out.2.1 (fun m hm hu => ST.out m hm hu)
                clear hj IK ST CH KM
                by_cases hc0 : cd = 0
                · have t0 : (cd == 0) = true := by simp [hc0]
                  have w2 : IntKind.i64.wrap (2 * wd') = 2 * wd' := by rw [IntKind.wrap_i64]; omega
                  have w3' : IntKind.i64.wrap (nw + 2 * wd') = nw + 2 * wd' := by rw [IntKind.wrap_i64]; have := T2.out; omega
                  have NM := hide (NW.out hc0)
                  have p0 := S17.out.P.c0
                  have N1 : Hid (Calls Try.prog 10 #[.slice (some ⟨qa, 0, none⟩) 32 32] wr.drew fun e w1 => ∃ (ay : Option Addr) (cy : Nat), e = .returned (.slice ay 32 cy) ∧ w1.cell? ⟨p, 0, none⟩ = some (.int .i64 wd') ∧ (w1.alloc (.cells #[.slice ay 32 cy, .int .i64 (nw + 2 * wd')] 36)).cell? ⟨p, 0, none⟩ = some (.int .i64 wd') ∧
                      ∃ v' w4, (Builtin.append_ #[23, 23] 23 #[.slice a' its.length c', .slice (some ⟨w1.heap.size, 0, none⟩) 1 1]).run Try.prog (w1.alloc (.cells #[.slice ay 32 cy, .int .i64 (nw + 2 * wd')] 36)) = .ok v' w4 ∧ ((∃ a l c, v' = .slice a l c) ∧ Hid (∃ its2 bs2, its2.length ≤ k + 1 ∧ IdK nw (toM im) its2 ∧ WoS w w4 p B wd' (.slice av ms.length cv) v' ms its2 bs2 g3 a3 X ∧ WnR w4 w.heap.size (p :: obs v') (.slice ax im.length cx) (toM im) ∧ RwC w4 q12 [.int .i64 cd, .int .i64 wd', .slice ax im.length cx] 32))) := by
                    have nd : Below wr.heap.size wr wr.drew := (Below.refl _ _).drew
                    have CL := lwCopyO_any wr.drew qa (some ⟨qa, 0, none⟩) 32 Y Z17.out.own0.rd (fun e => by cases e) (by rw [l12.out]; decide)
                    rw [l12.out] at CL
                    refine CL.mono ?_
                    rintro e w1 ⟨v, rfl, R, n⟩
                    have R : RowB w1 wr.heap.size v Y := by
                      unfold RowB
                      rw [l12.out]
                      exact R
                    have n := nxt nd n
                    obtain ⟨ay, cy, gy, ev, Oy, -, -, hgy⟩ := R.own
                    subst ev
                    have P1 := S17.out.P.up n
                    obtain ⟨v', w4, h1, h2, h3, h4, h5⟩ := S17.out.add n (by have := IL.out; omega) Y y12.out gy ay cy Oy.rd hgy (nw + 2 * wd')
                    rw [l12.out] at h1
                    refine ⟨ay, cy, by rw [l12.out], P1.c0, (P1.push _).c0, v', w4, h1, h2, _, _, by have := IL.out; simp; omega, IKn.out.add NM.out, h3, h5 _ _ V17.out, (h4 q12 q6 q12o.out).trans U17.out⟩
                  clear S17 V17 U17 Z17 NW NM IKn
                  go_upto_region 24 with fail
                  clear d0 d1 d2
                  go_region_law (first
                    | (go_simp; go_at_call 10; with_reducible refine N1.out.mono ?_; rintro e w1 ⟨ay, cy, rfl, m1, m4, AP⟩)
                    | (refine step_append_exB rfl (.tmp 116) (.tmp 125) 23 23 rfl (.slice a' its.length c') (.slice (some ⟨w1.heap.size, 0, none⟩) 1 1) rfl rfl _ AP ?_; rintro v3 w4 ⟨⟨ai, li, ci, rfl⟩, FF⟩)
                    | fail)
                  all_goals
                    clear N1 AP m1 m4 p0
                    obtain ⟨its2, bs2, IL2, IK2, S18, V18, U18⟩ := FF.out
                    clear FF
                    have S18 := hide S18
                    have V18 := hide V18
                    have IL2 : Hid (its2.length ≤ k + 1) := IL2
                    have IK2 := hide IK2
                    have d1 := U18.c1
                    have d2 := U18.c2
                    clear U18
                    have p0 := S18.out.P.c0
                    have p1 := S18.out.P.c1
                    have f0 := S18.out.P.free 0
                    have f1 := S18.out.P.free 1
                    have S19 := hide (S18.out.take (.slice ax im.length cx) (toM im) V18.out FW.out (fun h0 => by have := gp.out h0; omega))
                    clear S18 V18
                    go_wp2
                    go_roundw
                    case rel => exact ⟨k + 1, nw, _, _, _, ax, im.length, cx, toM im, _, _, rfl, rfl, rfl, by omega, ⟨T2.out.1, T2.out.2.2⟩, IL2, .inr PM.out, IK2, S19⟩
                    case measure => simp [intOf]; omega
                · have t0 : (cd == 0) = false := by simp [hc0]
                  have S18 := S17
                  have V18 := V17
                  have IL2 : Hid (its.length ≤ k + 1) := by have := IL.out; exact Nat.le_succ_of_le this
                  have IK2 := IKn
                  clear S17 V17 U17 Z17 NW IKn hc0
                  have p0 := S18.out.P.c0
                  have p1 := S18.out.P.c1
                  have f0 := S18.out.P.free 0
                  have f1 := S18.out.P.free 1
                  have S19 := hide (S18.out.take (.slice ax im.length cx) (toM im) V18.out FW.out (fun h0 => by have := gp.out h0; omega))
                  clear S18 V18
                  go_wp2
                  go_roundw
                  case rel => exact ⟨k + 1, nw, _, _, _, ax, im.length, cx, toM im, _, _, rfl, rfl, rfl, by omega, ⟨T2.out.1, T2.out.2.2⟩, IL2, .inr PM.out, IK2, S19⟩
                  case measure => simp [intOf]; omega
          · have k0 : ¬ (k : Int) < 20 := by omega
            have k0' : decide ((k : Int) < 20) = false := decide_eq_false k0
            have hpos : 0 < ms.length := by
              rcases KM.out with h | h
              · omega
              · exact h
            obtain ⟨a'', c'', e'', -⟩ := S.out.I.slice
            simp only [Value.slice.injEq] at e''
            obtain ⟨-, rfl, -⟩ := e''
            obtain ⟨gv', av', cv', ps', ev, -, -⟩ := S.out.V.rd
            simp only [Value.slice.injEq] at ev
            obtain ⟨-, rfl, -⟩ := ev
            have p1 := S.out.P.c1
            have NF := hide S.out.N
            have hm1 : (0 : Int) < (ms.length : Int) := by omega
            have hm1' : decide ((0 : Int) < (ms.length : Int)) = true := decide_eq_true hm1
            clear S IK KM T IL
            generalize ms.length = lm at *
            by_cases hi0 : its.length = 0
            · rw [hi0]
              have z0 : ((0 : Nat) : Int) = 0 := rfl
              clear hi0
              go_wp2
              go_ret
              exact ⟨rfl, NF.out⟩
            · have hi1 : (0 : Int) < (its.length : Int) := by omega
              have hi1' : decide ((0 : Int) < (its.length : Int)) = true := decide_eq_true hi1
              clear hi0
              generalize its.length = li at *
              go_wp2
              go_ret
              exact ⟨rfl, NF.out⟩
      · have t3 : decide (126701150399 < now) = false := decide_eq_false h3
        have F7 : Hid (wfV wd ms = 0) := by
          show _ = _
          rw [← HFL.out]
          exact h1
        have T7 : Hid (0 ≤ now ∧ now ≤ 126701150399) := ⟨by omega, by omega⟩
        have P7 := P3
        have N7 := N3
        have E7 := E3
        have V7 := V3
        clear P3 N3 E3 V3 HFL h1 h2 h3
        go_upto_region 7 with fail
        have n8 : Below w3.heap.size w3 (w3.alloc (.cells #[] 36)) := (Below.refl _ _).alloc (Nat.le_refl _) _
        have z8 : (w3.alloc (.cells #[] 36)).heap.size = w3.heap.size + 1 := by simp
        have pl := P7.lt
        have S8 : Hid (WoS w (w3.alloc (.cells #[] 36)) p w3.heap.size wd (.slice a2 ms.length c2) (.slice (some ⟨w3.heap.size, 0, none⟩) 0 0) ms [] [] g3 a3 X) :=
          ⟨P7.up n8, V7.out.move (fun k hk _ _ => n8.block k hk) _ (fun q hq => by
            rcases List.mem_cons.1 hq with rfl | hq
            · exact .inr (by simp)
            · have := mem_obs.1 hq
              simp only [Value.ownBlock, Option.some.injEq] at this
              exact .inl (by omega)), ⟨World.ownsRow_lit w3 #[] 0 (Nat.le_refl _) (by unfold maxLen; omega) (by simp), rfl, fun i h => absurd h (by simp), fun i h => absurd h (by simp)⟩, fun i h => absurd h (by simp), F7.out, nxt N7.out n8, ⟨pp, pl, by omega, fun h0 => by have := gp.out h0; omega⟩, E7.out.up n8⟩
        clear n8 z8 P7 V7 F7 N7 E7
        go_upto_region 8 with fail
        generalize w3.alloc (.cells #[] 36) = w8 at *
        generalize w3.heap.size = B at *
        have WD : ∃ wd', wd' = (wd : Int) := ⟨_, rfl⟩
        obtain ⟨wd', hwd⟩ := WD
        rw [← hwd] at S8
        clear hwd
        go_upto_region 9 with fail
        go_loopw [7, 8, 9] (fun vn vi vk wr => ∃ (k : Nat) (now : Int) (a' : Option Addr) (l' c' : Nat) (av : Option Addr) (lv cv : Nat) (ms : List Mrk) (its : List (Int × List Int)) (bs : List Plc), vn = .int .i64 now ∧ vi = .slice a' l' c' ∧ vk = .int .i64 (k : Int) ∧ k ≤ 20 ∧ Hid (0 ≤ now ∧ now ≤ 126701150399 + 9 * (k : Int)) ∧ Hid (its.length ≤ k) ∧ Hid (k = 0 ∨ 0 < ms.length) ∧ Hid (IdK now ms its) ∧ Hid (WoS w wr p B wd' (.slice av lv cv) (.slice a' l' c') ms its bs g3 a3 X)) (fun _ _ vk _ => 20 - (intOf vk).toNat)
        case atStart => exact ⟨0, now, _, _, _, a2, ms.length, c2, ms, [], [], rfl, rfl, rfl, by omega, ⟨T7.out.1, by have := T7.out.2; omega⟩, Nat.zero_le _, .inl rfl, IdK.nil _ _, S8⟩
        case round =>
          clear S8 T7
          obtain ⟨k, now, a', l', c', av, lv, cv, ms, its, bs, rfl, rfl, rfl, hk, T, IL, KM, IK, S⟩ := hrel
          by_cases hlt : k < 20
          · have k0 : (k : Int) < 20 := by omega
            have k1 : decide ((k : Int) < 20) = true := by simp; omega
            have k2 : IntKind.i64.wrap ((k : Int) + 1) = ((k + 1 : Nat) : Int) := by rw [IntKind.wrap_i64]; omega
            go_wp2_with fail
            refine (LW.out wr S.out.E).mono ?_
            rintro e wa ⟨rfl, Za, na⟩
            have sN := hide S.out.N
            have sz : B ≤ wr.heap.size := S.out.b.2.2.1
            go_wp2_with fail
            refine (AT.out wa (nxt sN.out na) (k : Int) 6 (by omega) (by omega) (by decide) (by decide)).mono ?_
            rintro e wb ⟨r, rfl, hr, mm, rfl⟩
            have c30 := (Za.of_block (w' := wa.drewN mm) rfl).cell (i := 30) (by rw [L32.out]; decide)
            have f30 := (Za.of_block (w' := wa.drewN mm) rfl).free 30
            have Z12 := hide ((Za.of_block (w' := wa.drewN mm) rfl).store 30 (r : Int))
            have l12 : Hid ((Z.set 30 (r : Int)).length = 32) := by show _ = _; rw [List.length_set]; exact L32.out
            have y12 := hide (byt_setI B32.out 30 (r : Int) (by omega) (by omega))
            have n12 := hide ((below_drewN na mm).trans ((Only.setCell (wa.drewN mm) wr.heap.size 30 (.int .u8 (r : Int))).below (Nat.le_refl _)))
            have hr6 : (r : Int) < 256 := by omega
            clear Za na hr
            go_upto_region 13 with fail
            clear c30 f30
            generalize (wa.drewN mm).setCell ⟨wr.heap.size, 30, none⟩ (.int .u8 (r : Int)) = wc at *
            generalize hY : Z.set 30 (r : Int) = Y at *
            clear hY hr6
            have S12 := hide (S.out.up n12.out)
            have q10 : wr.heap.size < wc.heap.size := Z12.out.lt
            generalize wr.heap.size = qa at *
            clear S n12 sN
            have k3 : IntKind.i64.wrap ((k : Int) + 1) = (k : Int) + 1 := by rw [IntKind.wrap_i64]; omega
            go_wp2_with fail
            refine (AT.out wc S12.out.N ((k : Int) + 1) 9 (by omega) (by omega) (by decide) (by decide)).mono ?_
            rintro e wd2 ⟨r2, rfl, hr2, m2, rfl⟩
            have Z13 := hide (Z12.out.of_block (w' := wc.drewN m2) rfl)
            have S13 := hide (S12.out.up (below_drewN (Below.refl _ wc) m2))
            have q13 : qa < (wc.drewN m2).heap.size := q10
            obtain ⟨nw, hnw⟩ : ∃ nw : Int, nw = now + (r2 : Int) := ⟨_, rfl⟩
            have wn : IntKind.i64.wrap (now + (r2 : Int)) = nw := by rw [IntKind.wrap_i64]; have := T.out; omega
            have T2 : Hid (0 ≤ nw ∧ now ≤ nw ∧ nw ≤ 126701150399 + 9 * ((k + 1 : Nat) : Int)) := by
              have := T.out
              exact ⟨by omega, by omega, by omega⟩
            clear hnw Z12 S12 q10 T hr2 k3
            generalize wc.drewN m2 = wd3 at *
            have ok : Hid (AskOk wd' ms Y nw) := ⟨S13.out.f, l12.out, by have := T2.out; unfold tmO; simp; omega⟩
            obtain ⟨gv', av', cv', ps', ev, rv, hv⟩ := S13.out.V.rd
            simp only [Value.slice.injEq] at ev
            obtain ⟨rfl, rfl, rfl⟩ := ev
            have c0 := S13.out.P.c0
            have c1 := S13.out.P.c1
            have SA := specAsk_any wd3 wd' gv' av cv ms ps' rv hv qa (some ⟨qa, 0, none⟩) 32 Y Z13.out.own0.rd y12.out nw
            have IA := hide (fun W (n : Below wd3.heap.size wd3 W) g2 a2 c2 (r2 : Rd W g2 a2 .u8 Y) => implAsk_any W wd' gv' av cv ms ps' (rv.up n) hv g2 a2 c2 Y r2 y12.out nw)
            have CH := hide (fun (m : Mrk) (hm : m ∈ ms) (hu : nw ≤ m.un) (hx : m.id = Y) => askC_held ok.out hm hu hx)
            have ST := hide (fun (m : Mrk) (hm : m ∈ ms) (hu : nw ≤ m.un) => nxM_stay ok.out hm hu)
            have NW := hide (nxM_new ok.out)
            have FW := hide (nxM_wf ok.out)
            have PM := hide (nxM_pos ok.out)
            have BM := hide (nxM_byt ok.out hv y12.out)
            have WB : 0 ≤ wd' ∧ wd' ≤ 86400 := by
              have := (wfV_zero S13.out.f).1
              unfold wdO at this
              simpa using this
            have EW : askW wd' ms Y nw = wd' := by
              unfold askW
              rw [if_pos ok.out]
            unfold AsP at SA
            unfold AwP at IA
            unfold nxM at ST NW FW PM BM
            rw [EW] at SA IA
            rw [l12.out] at SA
            clear EW ok rv hv
            generalize askM wd' ms Y nw = im at *
            generalize askC wd' ms Y nw = cd at *
            have SA := hide SA
            go_wp2_with fail
            refine SA.out.mono ?_
            rintro e wd4 ⟨⟨v0, C0, B0, bs0, rfl, K0⟩, n14⟩
            obtain ⟨a9, c9, rfl, -⟩ := K0.slice
            have m15 : Below wd4.heap.size wd4 (wd4.alloc (.cells #[.int .i64 cd, .int .i64 wd', .slice a9 im.length c9] 32)) := (Below.refl _ _).alloc (Nat.le_refl _) _
            have n15 := hide (nxt n14 m15)
            have T15 := RwC.new wd4 [.int .i64 cd, .int .i64 wd', .slice a9 im.length c9] 32
            have S15 := hide (S13.out.up n15.out)
            have Z15 := hide (Z13.out.up n15.out)
            clear SA K0 n14 m15 S13 Z13 c0 c1
            go_upto_region 15 with fail
            generalize wd4.alloc (.cells #[.int .i64 cd, .int .i64 wd', .slice a9 im.length c9] 32) = W15 at *
            generalize wd4.heap.size = q11 at *
            refine region_newT 6 5 4 12 67 _ (fun i => [Fact.eq (.agg #[.int .i64 wd', .slice av ms.length cv]), Fact.eq (.slice (some ⟨qa, 0, none⟩) 32 32), CpO W15.heap.size Y, Fact.eq (.int .i64 nw), MkG W15.heap.size im [.int .i64 cd, .int .i64 wd'], NBt W15.heap.size 32 [.int .i64 0, .int .i64 0, .slice none 0 0]].getD i Fact.no) 32 [.int .i64 0, .int .i64 0, .slice none 0 0] (MkG W15.heap.size im [.int .i64 cd, .int .i64 wd']) (by kernel_rfl) (by kernel_rfl) rfl rfl rfl (by kernel_rfl) (by kernel_rfl) rfl (by kernel_rfl) rfl ?_ ?_ ?_
            · rintro v W ⟨x, bsx, rfl, R⟩
              obtain ⟨ax, cx, rfl, -⟩ := R.slice
              exact ⟨[.int .i64 cd, .int .i64 wd', .slice ax im.length cx], rfl, rfl, by simp [Value.oneCell']⟩
            · intro i hi
              obtain rfl | rfl | rfl | rfl | rfl | rfl : i = 0 ∨ i = 1 ∨ i = 2 ∨ i = 3 ∨ i = 4 ∨ i = 5 := by omega
              · exact step_load rfl 25 (.tmp 5) rfl _ 2 Try.underlying25 rfl (by kernel_rfl) fun A ww hb hw hf => ⟨p, 0, [.int .i64 wd', .slice av ms.length cv], hb.2.2 5 (by kernel_rfl), rangeK S15.out.P.rangeG hw, rfl, rfl⟩
              · refine step_pure rfl fun A ww hb hw hf => ?_
                have e0 : A.tmps[10]?.getD undef = .slice (some ⟨qa, 0, none⟩) 32 32 := gdv (hb.2.2 10 (by kernel_rfl))
                exact ⟨_, by simp [go_sem, e0], rfl⟩
              · refine step_callv rfl 10 _ _ rfl (by kernel_rfl) fun A ww hb hw hf => ?_
                have e6 : A.tmps.getD 64 undef = .slice (some ⟨qa, 0, none⟩) 32 32 := hf 1 64 (by kernel_rfl)
                show Calls Try.prog 10 #[A.tmps.getD 64 undef] ww _
                rw [e6]
                have CL := lwCopyO_any ww qa (some ⟨qa, 0, none⟩) 32 Y ((Z15.out.up hw).own0.rd) (fun e => by cases e) (by rw [l12.out]; decide)
                rw [l12.out] at CL
                refine CL.mono ?_
                rintro e w' ⟨v, rfl, R, n⟩
                have R : RowB w' ww.heap.size v Y := by
                  unfold RowB
                  rw [l12.out]
                  exact R
                obtain ⟨ax, cx, gx, ev, -⟩ := R.own
                subst ev
                exact ⟨_, rfl, n, ax, cx, rfl, R.base hw.size⟩
              · refine step_pure rfl fun A ww hb hw hf => ?_
                have e0 : A.tmps[7]?.getD undef = .int .i64 nw := gdv (hb.2.2 7 (by kernel_rfl))
                exact ⟨_, by simp [go_sem, e0], rfl⟩
              · refine step_callv rfl 9 _ _ rfl (by kernel_rfl) fun A ww hb hw hf => ?_
                have e5 : A.tmps.getD 63 undef = .agg #[.int .i64 wd', .slice av ms.length cv] := hf 0 63 (by kernel_rfl)
                obtain ⟨ax, cx, e6, R6⟩ := hf 2 65 (by kernel_rfl)
                have e7 : A.tmps.getD 66 undef = .int .i64 nw := hf 3 66 (by kernel_rfl)
                show Calls Try.prog 9 #[A.tmps.getD 63 undef, A.tmps.getD 65 undef, A.tmps.getD 66 undef] ww _
                rw [e5, e6, e7]
                obtain ⟨ay, cy, gy, ev, Oy, -⟩ := R6.own
                simp only [Value.slice.injEq, true_and] at ev
                obtain ⟨rfl, rfl⟩ := ev
                refine (IA.out ww (nxt n15.out hw) gy ax cx Oy.rd).mono ?_
                rintro e w' ⟨⟨v, bsv, rfl, R⟩, n⟩
                exact ⟨_, rfl, n, v, bsv, rfl, R.base hw.size⟩
              · exact step_newWa rfl rfl rfl
            intro vs W W5 q12 cs vq hq hw rq hG OQ rc hW
            obtain ⟨x, bsx, ec, R⟩ := hG
            simp only [Value.agg.injEq, Array.mk.injEq, List.cons_append, List.nil_append] at ec
            subst ec
            have R5 := R.newT rq OQ
            obtain ⟨ax, cx, rfl, -⟩ := R5.slice
            have S16 := hide (S15.out.up hW)
            have Z16 := hide (Z15.out.up hW)
            have T16 := T15.up hW
            have V16 := hide (WnR.ofI R5 BM.out (C := w.heap.size) (by have := S15.out.N.size; omega) (p :: obs (.slice a' l' c')) (fun q hq => by
              rcases List.mem_cons.1 hq with rfl | hq
              · exact S15.out.P.lt
              · exact (S15.out.I.o.lt q (mem_obs.1 hq)).2))
            have U16 : RwC W5 q12 [.int .i64 cd, .int .i64 wd', .slice ax im.length cx] 32 := rc
            obtain ⟨gw, aw, cw, pw, ew, rw', hw'⟩ := V16.out.rd
            simp only [Value.slice.injEq] at ew
            obtain ⟨rfl, -, rfl⟩ := ew
            have WF := implWf_any W5 wd' gw ax cx (toM im) pw rw' hw'
            rw [toM_len, FW.out] at WF
            have WFh := hide WF
            have L64 : im.length ≤ 64 := by
              have := (wfV_zero FW.out).2.1
              rwa [toM_len] at this
            have q12o : Hid (q12 ∉ obs (.slice a' l' c')) := fun m => by
              have := (S15.out.I.o.lt _ (mem_obs.1 m)).2
              omega
            clear R R5 rq OQ rc hw hW S15 Z15 T15 n15 IA hq WF rw' hw' BM
            simp only [puts, vq, Act.put, List.setIfInBounds_toArray, List.set_cons_succ, List.set_cons_zero]
            clear vq
            obtain ⟨a'', c'', e'', -⟩ := S16.out.I.slice
            simp only [Value.slice.injEq] at e''
            obtain ⟨-, rfl, -⟩ := e''
            have d0 := U16.c0
            have d1 := U16.c1
            have d2 := U16.c2
            have d3 := T16.c0
            have te : (cd != cd) = false := by simp
            have tl : ¬ (64 : Int) < (im.length : Int) := by omega
            have tl' : decide ((64 : Int) < (im.length : Int)) = false := decide_eq_false tl
            clear L64
            go_wp2_with fail
            refine WFh.out.mono ?_
            rintro e W6 ⟨rfl, n6⟩
            have S17 := hide (S16.out.up n6)
            have Z17 := hide (Z16.out.up n6)
            have V17 := hide (V16.out.up n6)
            have U17 := hide (U16.up n6)
            have q6 : q12 < W6.heap.size := U17.out.lt
            clear S16 Z16 V16 U16 T16 n6 WFh d0 d1 d2 d3
            have d0 := U17.out.c0
            have d1 := U17.out.c1
            have d2 := U17.out.c2
            go_upto_region 19 with fail
            go_loopw [13] (fun vj wr => wr = W6 ∧ ∃ j : Nat, vj = .int .i64 (j : Int) ∧ j ≤ its.length) (fun vj _ => its.length - (intOf vj).toNat)
            case atStart => exact ⟨rfl, 0, rfl, Nat.zero_le _⟩
            case round =>
              obtain ⟨hwr, j, rfl, hj⟩ := hrel
              subst hwr
              by_cases hjl : j < its.length
              · have j0 : (j : Int) < (its.length : Int) := by omega
                have j0' : decide ((j : Int) < (its.length : Int)) = true := decide_eq_true j0
                have j1 : IntKind.i64.wrap ((j : Int) + 1) = ((j + 1 : Nat) : Int) := by rw [IntKind.wrap_i64]; have := IL.out; omega
                obtain ⟨gi, ci, ei, -, -, -, hcell, -⟩ := S17.out.I.cells (by omega)
                simp only [Value.slice.injEq] at ei
                obtain ⟨rfl, -, rfl⟩ := ei
                have x1 := (hcell j hjl).1
                have x2 := (hcell j hjl).2
                have rj := S17.out.I.b j hjl
                have yj := S17.out.y j hjl
                have mj := hide (IK.out j hjl)
                generalize (its.getD j (0, [])).2 = xj at *
                generalize (its.getD j (0, [])).1 = uj at *
                generalize (bs.getD j plc0).a = pa at *
                generalize (bs.getD j plc0).c = pc at *
                generalize (bs.getD j plc0).q = pq at *
                by_cases hxy : xj = Y
                · rw [hxy] at x1 rj mj
                  have LS := lwSame_same wr pq qa pa (some ⟨qa, 0, none⟩) pc 32 Y rj Z17.out.own0.rd
                  rw [l12.out] at LS x1
                  have LS := hide LS
                  clear hcell yj rj hxy
                  by_cases hu : nw ≤ uj
                  · have ec : cd = 1 := CH.out ⟨Y, uj⟩ (mj.out (by have := T2.out; omega)) hu rfl
                    have tu : decide (nw ≤ uj) = true := decide_eq_true hu
                    subst ec
                    clear mj
                    go_wp2_with fail
                    refine LS.out.mono ?_
                    rintro e wq ⟨rfl, hwq⟩
                    have hwq := hwq.symm
                    subst hwq
                    go_wp2
                    go_roundw
                    case rel => exact ⟨by first | rfl | trivial, j + 1, rfl, by omega⟩
                    case measure => simp [intOf]; omega
                  · have tu : decide (nw ≤ uj) = false := decide_eq_false hu
                    clear mj
                    go_wp2_with fail
                    refine LS.out.mono ?_
                    rintro e wq ⟨rfl, hwq⟩
                    have hwq := hwq.symm
                    subst hwq
                    go_wp2
                    go_roundw
                    case rel => exact ⟨by first | rfl | trivial, j + 1, rfl, by omega⟩
                    case measure => simp [intOf]; omega
                · have LS := hide (lwSame_diff wr pq qa pa (some ⟨qa, 0, none⟩) pc 32 xj Y rj Z17.out.own0.rd yj y12.out hxy)
                  rw [l12.out] at LS
                  clear hcell yj rj hxy mj
                  generalize xj.length = xl at *
                  go_wp2_with fail
                  refine LS.out.mono ?_
                  rintro e wq ⟨rfl, hwq⟩
                  have hwq := hwq.symm
                  subst hwq
                  go_wp2
                  go_roundw
                  case rel => exact ⟨by first | rfl | trivial, j + 1, rfl, by omega⟩
                  case measure => simp [intOf]; omega
              · have j0 : ¬ (j : Int) < (its.length : Int) := by omega
                have j0' : decide ((j : Int) < (its.length : Int)) = false := decide_eq_false j0
                have IKn : Hid (IdK nw (toM im) its) := IK.out.next T2.out.2.1 (fun m hm hu => ST.out m hm hu)
                clear hj IK ST CH KM
                by_cases hc0 : cd = 0
                · have t0 : (cd == 0) = true := by simp [hc0]
                  have w2 : IntKind.i64.wrap (2 * wd') = 2 * wd' := by rw [IntKind.wrap_i64]; omega
                  have w3' : IntKind.i64.wrap (nw + 2 * wd') = nw + 2 * wd' := by rw [IntKind.wrap_i64]; have := T2.out; omega
                  have NM := hide (NW.out hc0)
                  have p0 := S17.out.P.c0
                  have N1 : Hid (Calls Try.prog 10 #[.slice (some ⟨qa, 0, none⟩) 32 32] wr.drew fun e w1 => ∃ (ay : Option Addr) (cy : Nat), e = .returned (.slice ay 32 cy) ∧ w1.cell? ⟨p, 0, none⟩ = some (.int .i64 wd') ∧ (w1.alloc (.cells #[.slice ay 32 cy, .int .i64 (nw + 2 * wd')] 36)).cell? ⟨p, 0, none⟩ = some (.int .i64 wd') ∧
                      ∃ v' w4, (Builtin.append_ #[23, 23] 23 #[.slice a' its.length c', .slice (some ⟨w1.heap.size, 0, none⟩) 1 1]).run Try.prog (w1.alloc (.cells #[.slice ay 32 cy, .int .i64 (nw + 2 * wd')] 36)) = .ok v' w4 ∧ ((∃ a l c, v' = .slice a l c) ∧ Hid (∃ its2 bs2, its2.length ≤ k + 1 ∧ IdK nw (toM im) its2 ∧ WoS w w4 p B wd' (.slice av ms.length cv) v' ms its2 bs2 g3 a3 X ∧ WnR w4 w.heap.size (p :: obs v') (.slice ax im.length cx) (toM im) ∧ RwC w4 q12 [.int .i64 cd, .int .i64 wd', .slice ax im.length cx] 32))) := by
                    have nd : Below wr.heap.size wr wr.drew := (Below.refl _ _).drew
                    have CL := lwCopyO_any wr.drew qa (some ⟨qa, 0, none⟩) 32 Y Z17.out.own0.rd (fun e => by cases e) (by rw [l12.out]; decide)
                    rw [l12.out] at CL
                    refine CL.mono ?_
                    rintro e w1 ⟨v, rfl, R, n⟩
                    have R : RowB w1 wr.heap.size v Y := by
                      unfold RowB
                      rw [l12.out]
                      exact R
                    have n := nxt nd n
                    obtain ⟨ay, cy, gy, ev, Oy, -, -, hgy⟩ := R.own
                    subst ev
                    have P1 := S17.out.P.up n
                    obtain ⟨v', w4, h1, h2, h3, h4, h5⟩ := S17.out.add n (by have := IL.out; omega) Y y12.out gy ay cy Oy.rd hgy (nw + 2 * wd')
                    rw [l12.out] at h1
                    refine ⟨ay, cy, by rw [l12.out], P1.c0, (P1.push _).c0, v', w4, h1, h2, _, _, by have := IL.out; simp; omega, IKn.out.add NM.out, h3, h5 _ _ V17.out, (h4 q12 q6 q12o.out).trans U17.out⟩
                  clear S17 V17 U17 Z17 NW NM IKn
                  go_upto_region 24 with fail
                  clear d0 d1 d2
                  go_region_law (first
                    | (go_simp; go_at_call 10; with_reducible refine N1.out.mono ?_; rintro e w1 ⟨ay, cy, rfl, m1, m4, AP⟩)
                    | (refine step_append_exB rfl (.tmp 116) (.tmp 125) 23 23 rfl (.slice a' its.length c') (.slice (some ⟨w1.heap.size, 0, none⟩) 1 1) rfl rfl _ AP ?_; rintro v3 w4 ⟨⟨ai, li, ci, rfl⟩, FF⟩)
                    | fail)
                  all_goals
                    clear N1 AP m1 m4 p0
                    obtain ⟨its2, bs2, IL2, IK2, S18, V18, U18⟩ := FF.out
                    clear FF
                    have S18 := hide S18
                    have V18 := hide V18
                    have IL2 : Hid (its2.length ≤ k + 1) := IL2
                    have IK2 := hide IK2
                    have d1 := U18.c1
                    have d2 := U18.c2
                    clear U18
                    have p0 := S18.out.P.c0
                    have p1 := S18.out.P.c1
                    have f0 := S18.out.P.free 0
                    have f1 := S18.out.P.free 1
                    have S19 := hide (S18.out.take (.slice ax im.length cx) (toM im) V18.out FW.out (fun h0 => by have := gp.out h0; omega))
                    clear S18 V18
                    go_wp2
                    go_roundw
                    case rel => exact ⟨k + 1, nw, _, _, _, ax, im.length, cx, toM im, _, _, rfl, rfl, rfl, by omega, ⟨T2.out.1, T2.out.2.2⟩, IL2, .inr PM.out, IK2, S19⟩
                    case measure => simp [intOf]; omega
                · have t0 : (cd == 0) = false := by simp [hc0]
                  have S18 := S17
                  have V18 := V17
                  have IL2 : Hid (its.length ≤ k + 1) := by have := IL.out; exact Nat.le_succ_of_le this
                  have IK2 := IKn
                  clear S17 V17 U17 Z17 NW IKn hc0
                  have p0 := S18.out.P.c0
                  have p1 := S18.out.P.c1
                  have f0 := S18.out.P.free 0
                  have f1 := S18.out.P.free 1
                  have S19 := hide (S18.out.take (.slice ax im.length cx) (toM im) V18.out FW.out (fun h0 => by have := gp.out h0; omega))
                  clear S18 V18
                  go_wp2
                  go_roundw
                  case rel => exact ⟨k + 1, nw, _, _, _, ax, im.length, cx, toM im, _, _, rfl, rfl, rfl, by omega, ⟨T2.out.1, T2.out.2.2⟩, IL2, .inr PM.out, IK2, S19⟩
                  case measure => simp [intOf]; omega
          · have k0 : ¬ (k : Int) < 20 := by omega
            have k0' : decide ((k : Int) < 20) = false := decide_eq_false k0
            have hpos : 0 < ms.length := by
              rcases KM.out with h | h
              · omega
              · exact h
            obtain ⟨a'', c'', e'', -⟩ := S.out.I.slice
            simp only [Value.slice.injEq] at e''
            obtain ⟨-, rfl, -⟩ := e''
            obtain ⟨gv', av', cv', ps', ev, -, -⟩ := S.out.V.rd
            simp only [Value.slice.injEq] at ev
            obtain ⟨-, rfl, -⟩ := ev
            have p1 := S.out.P.c1
            have NF := hide S.out.N
            have hm1 : (0 : Int) < (ms.length : Int) := by omega
            have hm1' : decide ((0 : Int) < (ms.length : Int)) = true := decide_eq_true hm1
            clear S IK KM T IL
            generalize ms.length = lm at *
            by_cases hi0 : its.length = 0
            · rw [hi0]
              have z0 : ((0 : Nat) : Int) = 0 := rfl
              clear hi0
              go_wp2
              go_ret
              exact ⟨rfl, NF.out⟩
            · have hi1 : (0 : Int) < (its.length : Int) := by omega
              have hi1' : decide ((0 : Int) < (its.length : Int)) = true := decide_eq_true hi1
              clear hi0
              generalize its.length = li at *
              go_wp2
              go_ret
              exact ⟨rfl, NF.out⟩
  · have t1 : (fl != 0) = true := by simp [h1]
    have O7 : Only p w3 ((w3.setCell ⟨p, 0, none⟩ (.int .i64 7)).setCell ⟨p, 1, none⟩ (.slice none 0 0)) := (Only.setCell _ _ 0 _).trans (Only.setCell _ _ 1 _)
    have P7 : RwC ((w3.setCell ⟨p, 0, none⟩ (.int .i64 7)).setCell ⟨p, 1, none⟩ (.slice none 0 0)) p [.int .i64 7, .slice none 0 0] 25 := (P3.set 0 _).set 1 _
    have N7 := hide (N3.out.trans (O7.below pp))
    have E7 := hide (rd_of E3.out (fun h0 => O7.block g3 (by have := gp.out h0; omega)))
    have V7 : Hid (WnR ((w3.setCell ⟨p, 0, none⟩ (.int .i64 7)).setCell ⟨p, 1, none⟩ (.slice none 0 0)) w.heap.size [p] (.slice none 0 0) []) := WnR.nil _ _ _
    have F7 : Hid (wfV 7 ([] : List Mrk) = 0) := wfV7
    have T7 : Hid ((0 : Int) ≤ 100 ∧ (100 : Int) ≤ 126701150399) := ⟨by decide, by decide⟩
    have d0 := P3.c0
    have d1 := P3.c1
    have e0 := P3.free 0
    have e1 := P3.free 1
    clear P3 V3 N3 E3 O7 HFL
    go_upto_region 7 with fail
    clear d0 d1 e0 e1
    generalize (w3.setCell ⟨p, 0, none⟩ (.int .i64 7)).setCell ⟨p, 1, none⟩ (.slice none 0 0) = w7 at *
    have n8 : Below w7.heap.size w7 (w7.alloc (.cells #[] 36)) := (Below.refl _ _).alloc (Nat.le_refl _) _
    have z8 : (w7.alloc (.cells #[] 36)).heap.size = w7.heap.size + 1 := by simp
    have pl := P7.lt
    have S8 : Hid (WoS w (w7.alloc (.cells #[] 36)) p w7.heap.size 7 (.slice none 0 0) (.slice (some ⟨w7.heap.size, 0, none⟩) 0 0) ([] : List Mrk) [] [] g3 a3 X) :=
      ⟨P7.up n8, V7.out.move (fun k hk _ _ => n8.block k hk) _ (fun q hq => by
        rcases List.mem_cons.1 hq with rfl | hq
        · exact .inr (by simp)
        · have := mem_obs.1 hq
          simp only [Value.ownBlock, Option.some.injEq] at this
          exact .inl (by omega)), ⟨World.ownsRow_lit w7 #[] 0 (Nat.le_refl _) (by unfold maxLen; omega) (by simp), rfl, fun i h => absurd h (by simp), fun i h => absurd h (by simp)⟩, fun i h => absurd h (by simp), F7.out, nxt N7.out n8, ⟨pp, pl, by omega, fun h0 => by have := gp.out h0; omega⟩, E7.out.up n8⟩
    clear n8 z8 P7 V7 F7 N7 E7
    go_upto_region 8 with fail
    generalize w7.alloc (.cells #[] 36) = w8 at *
    generalize w7.heap.size = B at *
    have WD : ∃ wd', wd' = (7 : Int) := ⟨_, rfl⟩
    obtain ⟨wd', hwd⟩ := WD
    rw [← hwd] at S8
    clear hwd
    go_upto_region 9 with fail
    go_loopw [7, 8, 9] (fun vn vi vk wr => ∃ (k : Nat) (now : Int) (a' : Option Addr) (l' c' : Nat) (av : Option Addr) (lv cv : Nat) (ms : List Mrk) (its : List (Int × List Int)) (bs : List Plc), vn = .int .i64 now ∧ vi = .slice a' l' c' ∧ vk = .int .i64 (k : Int) ∧ k ≤ 20 ∧ Hid (0 ≤ now ∧ now ≤ 126701150399 + 9 * (k : Int)) ∧ Hid (its.length ≤ k) ∧ Hid (k = 0 ∨ 0 < ms.length) ∧ Hid (IdK now ms its) ∧ Hid (WoS w wr p B wd' (.slice av lv cv) (.slice a' l' c') ms its bs g3 a3 X)) (fun _ _ vk _ => 20 - (intOf vk).toNat)
    case atStart => exact ⟨0, 100, _, _, _, none, 0, 0, ([] : List Mrk), [], [], rfl, rfl, rfl, by omega, ⟨T7.out.1, by have := T7.out.2; omega⟩, Nat.zero_le _, .inl rfl, IdK.nil _ _, S8⟩
    case round =>
      clear S8 T7
      obtain ⟨k, now, a', l', c', av, lv, cv, ms, its, bs, rfl, rfl, rfl, hk, T, IL, KM, IK, S⟩ := hrel
      by_cases hlt : k < 20
      · have k0 : (k : Int) < 20 := by omega
        have k1 : decide ((k : Int) < 20) = true := by simp; omega
        have k2 : IntKind.i64.wrap ((k : Int) + 1) = ((k + 1 : Nat) : Int) := by rw [IntKind.wrap_i64]; omega
        go_wp2_with fail
        refine (LW.out wr S.out.E).mono ?_
        rintro e wa ⟨rfl, Za, na⟩
        have sN := hide S.out.N
        have sz : B ≤ wr.heap.size := S.out.b.2.2.1
        go_wp2_with fail
        refine (AT.out wa (nxt sN.out na) (k : Int) 6 (by omega) (by omega) (by decide) (by decide)).mono ?_
        rintro e wb ⟨r, rfl, hr, mm, rfl⟩
        have c30 := (Za.of_block (w' := wa.drewN mm) rfl).cell (i := 30) (by rw [L32.out]; decide)
        have f30 := (Za.of_block (w' := wa.drewN mm) rfl).free 30
        have Z12 := hide ((Za.of_block (w' := wa.drewN mm) rfl).store 30 (r : Int))
        have l12 : Hid ((Z.set 30 (r : Int)).length = 32) := by show _ = _; rw [List.length_set]; exact L32.out
        have y12 := hide (byt_setI B32.out 30 (r : Int) (by omega) (by omega))
        have n12 := hide ((below_drewN na mm).trans ((Only.setCell (wa.drewN mm) wr.heap.size 30 (.int .u8 (r : Int))).below (Nat.le_refl _)))
        have hr6 : (r : Int) < 256 := by omega
        clear Za na hr
        go_upto_region 13 with fail
        clear c30 f30
        generalize (wa.drewN mm).setCell ⟨wr.heap.size, 30, none⟩ (.int .u8 (r : Int)) = wc at *
        generalize hY : Z.set 30 (r : Int) = Y at *
        clear hY hr6
        have S12 := hide (S.out.up n12.out)
        have q10 : wr.heap.size < wc.heap.size := Z12.out.lt
        generalize wr.heap.size = qa at *
        clear S n12 sN
        have k3 : IntKind.i64.wrap ((k : Int) + 1) = (k : Int) + 1 := by rw [IntKind.wrap_i64]; omega
        go_wp2_with fail
        refine (AT.out wc S12.out.N ((k : Int) + 1) 9 (by omega) (by omega) (by decide) (by decide)).mono ?_
        rintro e wd2 ⟨r2, rfl, hr2, m2, rfl⟩
        have Z13 := hide (Z12.out.of_block (w' := wc.drewN m2) rfl)
        have S13 := hide (S12.out.up (below_drewN (Below.refl _ wc) m2))
        have q13 : qa < (wc.drewN m2).heap.size := q10
        obtain ⟨nw, hnw⟩ : ∃ nw : Int, nw = now + (r2 : Int) := ⟨_, rfl⟩
        have wn : IntKind.i64.wrap (now + (r2 : Int)) = nw := by rw [IntKind.wrap_i64]; have := T.out; omega
        have T2 : Hid (0 ≤ nw ∧ now ≤ nw ∧ nw ≤ 126701150399 + 9 * ((k + 1 : Nat) : Int)) := by
          have := T.out
          exact ⟨by omega, by omega, by omega⟩
        clear hnw Z12 S12 q10 T hr2 k3
        generalize wc.drewN m2 = wd3 at *
        have ok : Hid (AskOk wd' ms Y nw) := ⟨S13.out.f, l12.out, by have := T2.out; unfold tmO; simp; omega⟩
        obtain ⟨gv', av', cv', ps', ev, rv, hv⟩ := S13.out.V.rd
        simp only [Value.slice.injEq] at ev
        obtain ⟨rfl, rfl, rfl⟩ := ev
        have c0 := S13.out.P.c0
        have c1 := S13.out.P.c1
        have SA := specAsk_any wd3 wd' gv' av cv ms ps' rv hv qa (some ⟨qa, 0, none⟩) 32 Y Z13.out.own0.rd y12.out nw
        have IA := hide (fun W (n : Below wd3.heap.size wd3 W) g2 a2 c2 (r2 : Rd W g2 a2 .u8 Y) => implAsk_any W wd' gv' av cv ms ps' (rv.up n) hv g2 a2 c2 Y r2 y12.out nw)
        have CH := hide (fun (m : Mrk) (hm : m ∈ ms) (hu : nw ≤ m.un) (hx : m.id = Y) => askC_held ok.out hm hu hx)
        have ST := hide (fun (m : Mrk) (hm : m ∈ ms) (hu : nw ≤ m.un) => nxM_stay ok.out hm hu)
        have NW := hide (nxM_new ok.out)
        have FW := hide (nxM_wf ok.out)
        have PM := hide (nxM_pos ok.out)
        have BM := hide (nxM_byt ok.out hv y12.out)
        have WB : 0 ≤ wd' ∧ wd' ≤ 86400 := by
          have := (wfV_zero S13.out.f).1
          unfold wdO at this
          simpa using this
        have EW : askW wd' ms Y nw = wd' := by
          unfold askW
          rw [if_pos ok.out]
        unfold AsP at SA
        unfold AwP at IA
        unfold nxM at ST NW FW PM BM
        rw [EW] at SA IA
        rw [l12.out] at SA
        clear EW ok rv hv
        generalize askM wd' ms Y nw = im at *
        generalize askC wd' ms Y nw = cd at *
        have SA := hide SA
        go_wp2_with fail
        refine SA.out.mono ?_
        rintro e wd4 ⟨⟨v0, C0, B0, bs0, rfl, K0⟩, n14⟩
        obtain ⟨a9, c9, rfl, -⟩ := K0.slice
        have m15 : Below wd4.heap.size wd4 (wd4.alloc (.cells #[.int .i64 cd, .int .i64 wd', .slice a9 im.length c9] 32)) := (Below.refl _ _).alloc (Nat.le_refl _) _
        have n15 := hide (nxt n14 m15)
        have T15 := RwC.new wd4 [.int .i64 cd, .int .i64 wd', .slice a9 im.length c9] 32
        have S15 := hide (S13.out.up n15.out)
        have Z15 := hide (Z13.out.up n15.out)
        clear SA K0 n14 m15 S13 Z13 c0 c1
        go_upto_region 15 with fail
        generalize wd4.alloc (.cells #[.int .i64 cd, .int .i64 wd', .slice a9 im.length c9] 32) = W15 at *
        generalize wd4.heap.size = q11 at *
        refine region_newT 6 5 4 12 67 _ (fun i => [Fact.eq (.agg #[.int .i64 wd', .slice av ms.length cv]), Fact.eq (.slice (some ⟨qa, 0, none⟩) 32 32), CpO W15.heap.size Y, Fact.eq (.int .i64 nw), MkG W15.heap.size im [.int .i64 cd, .int .i64 wd'], NBt W15.heap.size 32 [.int .i64 0, .int .i64 0, .slice none 0 0]].getD i Fact.no) 32 [.int .i64 0, .int .i64 0, .slice none 0 0] (MkG W15.heap.size im [.int .i64 cd, .int .i64 wd']) (by kernel_rfl) (by kernel_rfl) rfl rfl rfl (by kernel_rfl) (by kernel_rfl) rfl (by kernel_rfl) rfl ?_ ?_ ?_
        · rintro v W ⟨x, bsx, rfl, R⟩
          obtain ⟨ax, cx, rfl, -⟩ := R.slice
          exact ⟨[.int .i64 cd, .int .i64 wd', .slice ax im.length cx], rfl, rfl, by simp [Value.oneCell']⟩
        · intro i hi
          obtain rfl | rfl | rfl | rfl | rfl | rfl : i = 0 ∨ i = 1 ∨ i = 2 ∨ i = 3 ∨ i = 4 ∨ i = 5 := by omega
          · exact step_load rfl 25 (.tmp 5) rfl _ 2 Try.underlying25 rfl (by kernel_rfl) fun A ww hb hw hf => ⟨p, 0, [.int .i64 wd', .slice av ms.length cv], hb.2.2 5 (by kernel_rfl), rangeK S15.out.P.rangeG hw, rfl, rfl⟩
          · refine step_pure rfl fun A ww hb hw hf => ?_
            have e0 : A.tmps[10]?.getD undef = .slice (some ⟨qa, 0, none⟩) 32 32 := gdv (hb.2.2 10 (by kernel_rfl))
            exact ⟨_, by simp [go_sem, e0], rfl⟩
          · refine step_callv rfl 10 _ _ rfl (by kernel_rfl) fun A ww hb hw hf => ?_
            have e6 : A.tmps.getD 64 undef = .slice (some ⟨qa, 0, none⟩) 32 32 := hf 1 64 (by kernel_rfl)
            show Calls Try.prog 10 #[A.tmps.getD 64 undef] ww _
            rw [e6]
            have CL := lwCopyO_any ww qa (some ⟨qa, 0, none⟩) 32 Y ((Z15.out.up hw).own0.rd) (fun e => by cases e) (by rw [l12.out]; decide)
            rw [l12.out] at CL
            refine CL.mono ?_
            rintro e w' ⟨v, rfl, R, n⟩
            have R : RowB w' ww.heap.size v Y := by
              unfold RowB
              rw [l12.out]
              exact R
            obtain ⟨ax, cx, gx, ev, -⟩ := R.own
            subst ev
            exact ⟨_, rfl, n, ax, cx, rfl, R.base hw.size⟩
          · refine step_pure rfl fun A ww hb hw hf => ?_
            have e0 : A.tmps[7]?.getD undef = .int .i64 nw := gdv (hb.2.2 7 (by kernel_rfl))
            exact ⟨_, by simp [go_sem, e0], rfl⟩
          · refine step_callv rfl 9 _ _ rfl (by kernel_rfl) fun A ww hb hw hf => ?_
            have e5 : A.tmps.getD 63 undef = .agg #[.int .i64 wd', .slice av ms.length cv] := hf 0 63 (by kernel_rfl)
            obtain ⟨ax, cx, e6, R6⟩ := hf 2 65 (by kernel_rfl)
            have e7 : A.tmps.getD 66 undef = .int .i64 nw := hf 3 66 (by kernel_rfl)
            show Calls Try.prog 9 #[A.tmps.getD 63 undef, A.tmps.getD 65 undef, A.tmps.getD 66 undef] ww _
            rw [e5, e6, e7]
            obtain ⟨ay, cy, gy, ev, Oy, -⟩ := R6.own
            simp only [Value.slice.injEq, true_and] at ev
            obtain ⟨rfl, rfl⟩ := ev
            refine (IA.out ww (nxt n15.out hw) gy ax cx Oy.rd).mono ?_
            rintro e w' ⟨⟨v, bsv, rfl, R⟩, n⟩
            exact ⟨_, rfl, n, v, bsv, rfl, R.base hw.size⟩
          · exact step_newWa rfl rfl rfl
        intro vs W W5 q12 cs vq hq hw rq hG OQ rc hW
        obtain ⟨x, bsx, ec, R⟩ := hG
        simp only [Value.agg.injEq, Array.mk.injEq, List.cons_append, List.nil_append] at ec
        subst ec
        have R5 := R.newT rq OQ
        obtain ⟨ax, cx, rfl, -⟩ := R5.slice
        have S16 := hide (S15.out.up hW)
        have Z16 := hide (Z15.out.up hW)
        have T16 := T15.up hW
        have V16 := hide (WnR.ofI R5 BM.out (C := w.heap.size) (by have := S15.out.N.size; omega) (p :: obs (.slice a' l' c')) (fun q hq => by
          rcases List.mem_cons.1 hq with rfl | hq
          · exact S15.out.P.lt
          · exact (S15.out.I.o.lt q (mem_obs.1 hq)).2))
        have U16 : RwC W5 q12 [.int .i64 cd, .int .i64 wd', .slice ax im.length cx] 32 := rc
        obtain ⟨gw, aw, cw, pw, ew, rw', hw'⟩ := V16.out.rd
        simp only [Value.slice.injEq] at ew
        obtain ⟨rfl, -, rfl⟩ := ew
        have WF := implWf_any W5 wd' gw ax cx (toM im) pw rw' hw'
        rw [toM_len, FW.out] at WF
        have WFh := hide WF
        have L64 : im.length ≤ 64 := by
          have := (wfV_zero FW.out).2.1
          rwa [toM_len] at this
        have q12o : Hid (q12 ∉ obs (.slice a' l' c')) := fun m => by
          have := (S15.out.I.o.lt _ (mem_obs.1 m)).2
          omega
        clear R R5 rq OQ rc hw hW S15 Z15 T15 n15 IA hq WF rw' hw' BM
        simp only [puts, vq, Act.put, List.setIfInBounds_toArray, List.set_cons_succ, List.set_cons_zero]
        clear vq
        obtain ⟨a'', c'', e'', -⟩ := S16.out.I.slice
        simp only [Value.slice.injEq] at e''
        obtain ⟨-, rfl, -⟩ := e''
        have d0 := U16.c0
        have d1 := U16.c1
        have d2 := U16.c2
        have d3 := T16.c0
        have te : (cd != cd) = false := by simp
        have tl : ¬ (64 : Int) < (im.length : Int) := by omega
        have tl' : decide ((64 : Int) < (im.length : Int)) = false := decide_eq_false tl
        clear L64
        go_wp2_with fail
        refine WFh.out.mono ?_
        rintro e W6 ⟨rfl, n6⟩
        have S17 := hide (S16.out.up n6)
        have Z17 := hide (Z16.out.up n6)
        have V17 := hide (V16.out.up n6)
        have U17 := hide (U16.up n6)
        have q6 : q12 < W6.heap.size := U17.out.lt
        clear S16 Z16 V16 U16 T16 n6 WFh d0 d1 d2 d3
        have d0 := U17.out.c0
        have d1 := U17.out.c1
        have d2 := U17.out.c2
        go_upto_region 19 with fail
        go_loopw [13] (fun vj wr => wr = W6 ∧ ∃ j : Nat, vj = .int .i64 (j : Int) ∧ j ≤ its.length) (fun vj _ => its.length - (intOf vj).toNat)
        case atStart => exact ⟨rfl, 0, rfl, Nat.zero_le _⟩
        case round =>
          obtain ⟨hwr, j, rfl, hj⟩ := hrel
          subst hwr
          by_cases hjl : j < its.length
          · have j0 : (j : Int) < (its.length : Int) := by omega
            have j0' : decide ((j : Int) < (its.length : Int)) = true := decide_eq_true j0
            have j1 : IntKind.i64.wrap ((j : Int) + 1) = ((j + 1 : Nat) : Int) := by rw [IntKind.wrap_i64]; have := IL.out; omega
            obtain ⟨gi, ci, ei, -, -, -, hcell, -⟩ := S17.out.I.cells (by omega)
            simp only [Value.slice.injEq] at ei
            obtain ⟨rfl, -, rfl⟩ := ei
            have x1 := (hcell j hjl).1
            have x2 := (hcell j hjl).2
            have rj := S17.out.I.b j hjl
            have yj := S17.out.y j hjl
            have mj := hide (IK.out j hjl)
            generalize (its.getD j (0, [])).2 = xj at *
            generalize (its.getD j (0, [])).1 = uj at *
            generalize (bs.getD j plc0).a = pa at *
            generalize (bs.getD j plc0).c = pc at *
            generalize (bs.getD j plc0).q = pq at *
            by_cases hxy : xj = Y
            · rw [hxy] at x1 rj mj
              have LS := lwSame_same wr pq qa pa (some ⟨qa, 0, none⟩) pc 32 Y rj Z17.out.own0.rd
              rw [l12.out] at LS x1
              have LS := hide LS
              clear hcell yj rj hxy
              by_cases hu : nw ≤ uj
              · have ec : cd = 1 := CH.out ⟨Y, uj⟩ (mj.out (by have := T2.out; omega)) hu rfl
                have tu : decide (nw ≤ uj) = true := decide_eq_true hu
                subst ec
                clear mj
                go_wp2_with fail
                refine LS.out.mono ?_
                rintro e wq ⟨rfl, hwq⟩
                have hwq := hwq.symm
                subst hwq
                go_wp2
                go_roundw
                case rel => exact ⟨by first | rfl | trivial, j + 1, rfl, by omega⟩
                case measure => simp [intOf]; omega
              · have tu : decide (nw ≤ uj) = false := decide_eq_false hu
                clear mj
                go_wp2_with fail
                refine LS.out.mono ?_
                rintro e wq ⟨rfl, hwq⟩
                have hwq := hwq.symm
                subst hwq
                go_wp2
                go_roundw
                case rel => exact ⟨by first | rfl | trivial, j + 1, rfl, by omega⟩
                case measure => simp [intOf]; omega
            · have LS := hide (lwSame_diff wr pq qa pa (some ⟨qa, 0, none⟩) pc 32 xj Y rj Z17.out.own0.rd yj y12.out hxy)
              rw [l12.out] at LS
              clear hcell yj rj hxy mj
              generalize xj.length = xl at *
              go_wp2_with fail
              refine LS.out.mono ?_
              rintro e wq ⟨rfl, hwq⟩
              have hwq := hwq.symm
              subst hwq
              go_wp2
              go_roundw
              case rel => exact ⟨by first | rfl | trivial, j + 1, rfl, by omega⟩
              case measure => simp [intOf]; omega
          · have j0 : ¬ (j : Int) < (its.length : Int) := by omega
            have j0' : decide ((j : Int) < (its.length : Int)) = false := decide_eq_false j0
            have IKn : Hid (IdK nw (toM im) its) := IK.out.next T2.out.2.1 (fun m hm hu => ST.out m hm hu)
            clear hj IK ST CH KM
            by_cases hc0 : cd = 0
            · have t0 : (cd == 0) = true := by simp [hc0]
              have w2 : IntKind.i64.wrap (2 * wd') = 2 * wd' := by rw [IntKind.wrap_i64]; omega
              have w3' : IntKind.i64.wrap (nw + 2 * wd') = nw + 2 * wd' := by rw [IntKind.wrap_i64]; have := T2.out; omega
              have NM := hide (NW.out hc0)
              have p0 := S17.out.P.c0
              have N1 : Hid (Calls Try.prog 10 #[.slice (some ⟨qa, 0, none⟩) 32 32] wr.drew fun e w1 => ∃ (ay : Option Addr) (cy : Nat), e = .returned (.slice ay 32 cy) ∧ w1.cell? ⟨p, 0, none⟩ = some (.int .i64 wd') ∧ (w1.alloc (.cells #[.slice ay 32 cy, .int .i64 (nw + 2 * wd')] 36)).cell? ⟨p, 0, none⟩ = some (.int .i64 wd') ∧
                  ∃ v' w4, (Builtin.append_ #[23, 23] 23 #[.slice a' its.length c', .slice (some ⟨w1.heap.size, 0, none⟩) 1 1]).run Try.prog (w1.alloc (.cells #[.slice ay 32 cy, .int .i64 (nw + 2 * wd')] 36)) = .ok v' w4 ∧ ((∃ a l c, v' = .slice a l c) ∧ Hid (∃ its2 bs2, its2.length ≤ k + 1 ∧ IdK nw (toM im) its2 ∧ WoS w w4 p B wd' (.slice av ms.length cv) v' ms its2 bs2 g3 a3 X ∧ WnR w4 w.heap.size (p :: obs v') (.slice ax im.length cx) (toM im) ∧ RwC w4 q12 [.int .i64 cd, .int .i64 wd', .slice ax im.length cx] 32))) := by
                have nd : Below wr.heap.size wr wr.drew := (Below.refl _ _).drew
                have CL := lwCopyO_any wr.drew qa (some ⟨qa, 0, none⟩) 32 Y Z17.out.own0.rd (fun e => by cases e) (by rw [l12.out]; decide)
                rw [l12.out] at CL
                refine CL.mono ?_
                rintro e w1 ⟨v, rfl, R, n⟩
                have R : RowB w1 wr.heap.size v Y := by
                  unfold RowB
                  rw [l12.out]
                  exact R
                have n := nxt nd n
                obtain ⟨ay, cy, gy, ev, Oy, -, -, hgy⟩ := R.own
                subst ev
                have P1 := S17.out.P.up n
                obtain ⟨v', w4, h1, h2, h3, h4, h5⟩ := S17.out.add n (by have := IL.out; omega) Y y12.out gy ay cy Oy.rd hgy (nw + 2 * wd')
                rw [l12.out] at h1
                refine ⟨ay, cy, by rw [l12.out], P1.c0, (P1.push _).c0, v', w4, h1, h2, _, _, by have := IL.out; simp; omega, IKn.out.add NM.out, h3, h5 _ _ V17.out, (h4 q12 q6 q12o.out).trans U17.out⟩
              clear S17 V17 U17 Z17 NW NM IKn
              go_upto_region 24 with fail
              clear d0 d1 d2
              go_region_law (first
                | (go_simp; go_at_call 10; with_reducible refine N1.out.mono ?_; rintro e w1 ⟨ay, cy, rfl, m1, m4, AP⟩)
                | (refine step_append_exB rfl (.tmp 116) (.tmp 125) 23 23 rfl (.slice a' its.length c') (.slice (some ⟨w1.heap.size, 0, none⟩) 1 1) rfl rfl _ AP ?_; rintro v3 w4 ⟨⟨ai, li, ci, rfl⟩, FF⟩)
                | fail)
              all_goals
                clear N1 AP m1 m4 p0
                obtain ⟨its2, bs2, IL2, IK2, S18, V18, U18⟩ := FF.out
                clear FF
                have S18 := hide S18
                have V18 := hide V18
                have IL2 : Hid (its2.length ≤ k + 1) := IL2
                have IK2 := hide IK2
                have d1 := U18.c1
                have d2 := U18.c2
                clear U18
                have p0 := S18.out.P.c0
                have p1 := S18.out.P.c1
                have f0 := S18.out.P.free 0
                have f1 := S18.out.P.free 1
                have S19 := hide (S18.out.take (.slice ax im.length cx) (toM im) V18.out FW.out (fun h0 => by have := gp.out h0; omega))
                clear S18 V18
                go_wp2
                go_roundw
                case rel => exact ⟨k + 1, nw, _, _, _, ax, im.length, cx, toM im, _, _, rfl, rfl, rfl, by omega, ⟨T2.out.1, T2.out.2.2⟩, IL2, .inr PM.out, IK2, S19⟩
                case measure => simp [intOf]; omega
            · have t0 : (cd == 0) = false := by simp [hc0]
              have S18 := S17
              have V18 := V17
              have IL2 : Hid (its.length ≤ k + 1) := by have := IL.out; exact Nat.le_succ_of_le this
              have IK2 := IKn
              clear S17 V17 U17 Z17 NW IKn hc0
              have p0 := S18.out.P.c0
              have p1 := S18.out.P.c1
              have f0 := S18.out.P.free 0
              have f1 := S18.out.P.free 1
              have S19 := hide (S18.out.take (.slice ax im.length cx) (toM im) V18.out FW.out (fun h0 => by have := gp.out h0; omega))
              clear S18 V18
              go_wp2
              go_roundw
              case rel => exact ⟨k + 1, nw, _, _, _, ax, im.length, cx, toM im, _, _, rfl, rfl, rfl, by omega, ⟨T2.out.1, T2.out.2.2⟩, IL2, .inr PM.out, IK2, S19⟩
              case measure => simp [intOf]; omega
      · have k0 : ¬ (k : Int) < 20 := by omega
        have k0' : decide ((k : Int) < 20) = false := decide_eq_false k0
        have hpos : 0 < ms.length := by
          rcases KM.out with h | h
          · omega
          · exact h
        obtain ⟨a'', c'', e'', -⟩ := S.out.I.slice
        simp only [Value.slice.injEq] at e''
        obtain ⟨-, rfl, -⟩ := e''
        obtain ⟨gv', av', cv', ps', ev, -, -⟩ := S.out.V.rd
        simp only [Value.slice.injEq] at ev
        obtain ⟨-, rfl, -⟩ := ev
        have p1 := S.out.P.c1
        have NF := hide S.out.N
        have hm1 : (0 : Int) < (ms.length : Int) := by omega
        have hm1' : decide ((0 : Int) < (ms.length : Int)) = true := decide_eq_true hm1
        clear S IK KM T IL
        generalize ms.length = lm at *
        by_cases hi0 : its.length = 0
        · rw [hi0]
          have z0 : ((0 : Nat) : Int) = 0 := rfl
          clear hi0
          go_wp2
          go_ret
          exact ⟨rfl, NF.out⟩
        · have hi1 : (0 : Int) < (its.length : Int) := by omega
          have hi1' : decide ((0 : Int) < (its.length : Int)) = true := decide_eq_true hi1
          clear hi0
          generalize its.length = li at *
          go_wp2
          go_ret
          exact ⟨rfl, NF.out⟩
end Go.Proofs.Ytingekgcjnkljaa
