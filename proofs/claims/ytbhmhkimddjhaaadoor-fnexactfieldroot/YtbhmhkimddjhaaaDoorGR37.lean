import Derived.Test.YtbhmhkimddjhaaaDoorGR36
import Derived.Deep.RegionHeld3
import Derived.Test.YtbhmhkimddjhaaaDoorGR5
import Derived.Test.YtbhmhkimddjhaaaDoorGR17
/-
  The program's root of an element.
-/
namespace Go.Proofs.YtbhmhkimddjhaaaDoor
set_option maxRecDepth 100000
open Go.RowKit

theorem Blk.l5 {w : World} {g : Nat} {u : Nat → Int} (h : Blk w g .u64 [u 0, u 1, u 2, u 3, u 4]) : w.cell? ⟨g, 0, none⟩ = some (.int .u64 (u 0)) ∧ w.cell? ⟨g, 1, none⟩ = some (.int .u64 (u 1)) ∧ w.cell? ⟨g, 2, none⟩ = some (.int .u64 (u 2)) ∧ w.cell? ⟨g, 3, none⟩ = some (.int .u64 (u 3)) ∧ w.cell? ⟨g, 4, none⟩ = some (.int .u64 (u 4)) := h.f5.1
abbrev put5 (W : World) (p : Nat) (u : Nat → Int) : World := ((((W.setCell ⟨p, 0, none⟩ (.int .u64 (u 0))).setCell ⟨p, 1, none⟩ (.int .u64 (u 1))).setCell ⟨p, 2, none⟩ (.int .u64 (u 2))).setCell ⟨p, 3, none⟩ (.int .u64 (u 3))).setCell ⟨p, 4, none⟩ (.int .u64 (u 4))
theorem put5_same {W : World} {p : Nat} {a b c d e : Int} (u : Nat → Int) (h : Blk W p .u64 [a, b, c, d, e]) : Blk (put5 W p u) p .u64 [u 0, u 1, u 2, u 3, u 4] :=
  ((((h.store 0 _).store 1 _).store 2 _).store 3 _).store 4 _
theorem bset {W : World} {g p i : Nat} {k : IntKind} {ys : List Int} {v : Value} (h : Blk W g k ys) (hne : g ≠ p) : Blk (W.setCell ⟨p, i, none⟩ v) g k ys := h.of_block (heap_setCell_other W ⟨p, i, none⟩ g v hne)
theorem put5_keep {W : World} {p g : Nat} {k : IntKind} {ys : List Int} {u : Nat → Int} (h : Blk W g k ys) (hne : g ≠ p) : Blk (put5 W p u) g k ys := bset (bset (bset (bset (bset h hne) hne) hne) hne) hne

/-- What the root answers. -/
def RootOut (A : Int) (r : Ending) : Prop := (r1I A * r1I A % PP = A ∧ ∃ t, r = .returned (.tuple #[ag5 t, .bool true]) ∧ Lm t ∧ sv t 5 = fin2 (r1I A)) ∨ (¬ r1I A * r1I A % PP = A ∧ r = .returned (.tuple #[ag5 z5e, .bool false]))

set_option maxHeartbeats 8000000 in
theorem root_any (w : World) (e : Nat → Int) (he : Elm e) (hR : HasR w) :
    Calls Tryd.prog 75 #[ag5 e] w fun r w' => RootOut (sv e 5) r ∧ Below w.heap.size w w' := by
  have heL := he.1
  have B0 := blk_box w .u64 76 (e 0) (e 1) (e 2) (e 3) (e 4)
  have n0 : Below w.heap.size w (w.alloc (.cells #[.int .u64 (e 0), .int .u64 (e 1), .int .u64 (e 2), .int .u64 (e 3), .int .u64 (e 4)] 76)) := (Below.refl _ _).alloc (Nat.le_refl _) _
  have s0 : (w.alloc (.cells #[.int .u64 (e 0), .int .u64 (e 1), .int .u64 (e 2), .int .u64 (e 3), .int .u64 (e 4)] 76)).heap.size = w.heap.size + 1 := by simp
  have CH := fun W (h : Below w.heap.size w W) => chain_any W e he 12 2 2 (by omega) (by omega) (by omega) (hR.up h).1
  rw [eRt_ok] at CH
  simp only [ag5] at CH ⊢
  go_enter Tryd.func75, Tryd.ntmps75
  go_upto_region 1 with fail
  generalize w.alloc (.cells #[.int .u64 (e 0), .int .u64 (e 1), .int .u64 (e 2), .int .u64 (e 3), .int .u64 (e 4)] 76) = wa at *
  have B1 := blk_box wa .u64 76 0 0 0 0 0
  have n1 : Below wa.heap.size wa (wa.alloc (.cells #[.int .u64 0, .int .u64 0, .int .u64 0, .int .u64 0, .int .u64 0] 76)) := (Below.refl _ _).alloc (Nat.le_refl _) _
  rw [s0] at B1
  generalize wa.alloc (.cells #[.int .u64 0, .int .u64 0, .int .u64 0, .int .u64 0, .int .u64 0] 76) = wb at *
  have N1 := nxt n0 n1
  obtain ⟨⟨q0, q1, q2, q3, q4⟩, _⟩ := (B0.up n1).f5
  obtain ⟨i0, i1, i2⟩ := (hR.up N1).2.1
  have E0 := B0.up n1
  clear n0 n1 s0 B0
  go_wp2_with fail
  refine (CH wb N1).mono ?_
  rintro r w1 ⟨t, rfl, L, V, n2⟩
  have N2 := nxt N1 n2
  have E02 := E0.up n2
  have E12 := B1.up n2
  have T := blk_box w1 .u64 76 (t 0) (t 1) (t 2) (t 3) (t 4)
  have n3 : Below w1.heap.size w1 (w1.alloc (.cells #[.int .u64 (t 0), .int .u64 (t 1), .int .u64 (t 2), .int .u64 (t 3), .int .u64 (t 4)] 76)) := (Below.refl _ _).alloc (Nat.le_refl _) _
  have VR : Hid (sv t 5 = rtR (sv e 5)) := V
  have zz := E12.lt
  clear CH V q0 q1 q2 q3 q4 i0 i1 i2 E0 B1 N1 n2
  go_upto_region 2 with fail
  have E03 := E02.up n3
  have E13 := E12.up n3
  have N3 := nxt N2 n3
  generalize w1.alloc (.cells #[.int .u64 (t 0), .int .u64 (t 1), .int .u64 (t 2), .int .u64 (t 3), .int .u64 (t 4)] 76) = wr at *
  generalize w1.heap.size = pr at *
  have CE : Hid (∀ W, Below wr.heap.size wr W → (W.cell? ⟨pr, 0, none⟩ = some (.int .u64 (t 0)) ∧ W.cell? ⟨pr, 1, none⟩ = some (.int .u64 (t 1)) ∧ W.cell? ⟨pr, 2, none⟩ = some (.int .u64 (t 2)) ∧ W.cell? ⟨pr, 3, none⟩ = some (.int .u64 (t 3)) ∧ W.cell? ⟨pr, 4, none⟩ = some (.int .u64 (t 4))) ∧ (W.cell? ⟨w.heap.size, 0, none⟩ = some (.int .u64 (e 0)) ∧ W.cell? ⟨w.heap.size, 1, none⟩ = some (.int .u64 (e 1)) ∧ W.cell? ⟨w.heap.size, 2, none⟩ = some (.int .u64 (e 2)) ∧ W.cell? ⟨w.heap.size, 3, none⟩ = some (.int .u64 (e 3)) ∧ W.cell? ⟨w.heap.size, 4, none⟩ = some (.int .u64 (e 4)))) := fun W n => ⟨(T.up n).f5.1, (E03.up n).f5.1⟩
  have SQ : Hid (∀ W, Below wr.heap.size wr W → Calls Tryd.prog 115 #[.agg #[.int .u64 (t 0), .int .u64 (t 1), .int .u64 (t 2), .int .u64 (t 3), .int .u64 (t 4)]] W fun r w' => ∃ u, r = .returned (.agg #[.int .u64 (u 0), .int .u64 (u 1), .int .u64 (u 2), .int .u64 (u 3), .int .u64 (u 4)]) ∧ Hid (Lm u ∧ sv u 5 = sv t 5 * sv t 5 % PP) ∧ Below wr.heap.size wr w') := by
    intro W n
    refine (square_any W t L).mono ?_
    rintro r w' ⟨u, rfl, Lu, Vu, n'⟩
    exact ⟨u, rfl, ⟨Lu, Vu⟩, nxt n n'⟩
  have NG : Hid (∀ W, Below wr.heap.size wr W → Calls Tryd.prog 116 #[.agg #[.int .u64 (e 0), .int .u64 (e 1), .int .u64 (e 2), .int .u64 (e 3), .int .u64 (e 4)]] W fun r w' => ∃ u, r = .returned (.agg #[.int .u64 (u 0), .int .u64 (u 1), .int .u64 (u 2), .int .u64 (u 3), .int .u64 (u 4)]) ∧ Hid (Lm u ∧ sv u 5 = (0 - sv e 5) % PP) ∧ Below wr.heap.size wr w') := by
    intro W n
    refine (negate_any W e heL ((hR.up (nxt N3 n)).2.2.2)).mono ?_
    rintro r w' ⟨u, rfl, Lu, Vu, n'⟩
    exact ⟨u, rfl, ⟨Lu, Vu⟩, nxt n n'⟩
  have nd : Below wr.heap.size wr wr.drew := (Below.refl _ _).drew
  have EQ := eqElem
  go_cut [12] (fun v wc => v = .bool (decide (rtR (sv e 5) * rtR (sv e 5) % PP = (0 - sv e 5) % PP)) ∧ Below wr.heap.size wr wc)
  case first =>
    go_region_held3 (fun W => (W.cell? ⟨pr, 0, none⟩ = some (.int .u64 (t 0)) ∧ W.cell? ⟨pr, 1, none⟩ = some (.int .u64 (t 1)) ∧ W.cell? ⟨pr, 2, none⟩ = some (.int .u64 (t 2)) ∧ W.cell? ⟨pr, 3, none⟩ = some (.int .u64 (t 3)) ∧ W.cell? ⟨pr, 4, none⟩ = some (.int .u64 (t 4))) ∧ (W.cell? ⟨w.heap.size, 0, none⟩ = some (.int .u64 (e 0)) ∧ W.cell? ⟨w.heap.size, 1, none⟩ = some (.int .u64 (e 1)) ∧ W.cell? ⟨w.heap.size, 2, none⟩ = some (.int .u64 (e 2)) ∧ W.cell? ⟨w.heap.size, 3, none⟩ = some (.int .u64 (e 3)) ∧ W.cell? ⟨w.heap.size, 4, none⟩ = some (.int .u64 (e 4))))
      (first | exact (unhide CE) _ nd | exact (unhide CE) _ ns | exact (unhide CE) _ nm)
      (first
        | (go_at_call 115; refine ((unhide SQ) _ (by first | exact nd | exact nm)).mono ?_; rintro r ws ⟨u, rfl, LU, ns⟩)
        | (go_at_call 116; refine ((unhide NG) _ (by first | exact nd | exact ns)).mono ?_; rintro r wm ⟨v, rfl, LV, nm⟩))
    all_goals
      have BB : Hid ((u 0 == v 0 && u 1 == v 1 && u 2 == v 2 && u 3 == v 3 && u 4 == v 4) = decide (rtR (sv e 5) * rtR (sv e 5) % PP = (0 - sv e 5) % PP)) := by
        show _ = _
        rw [eq_Lm LU.out.1 LV.out.1, LU.out.2, LV.out.2, VR.out]
      clear SQ NG CE EQ
      go_wp2_with fail
      go_meet
      first
        | exact ⟨congrArg Value.bool BB.out, nm⟩
        | exact ⟨congrArg Value.bool BB.out, ns⟩
  case rest =>
    obtain ⟨rfl, nc⟩ := hcut
    have T4 := T.up nc
    have E04 := E03.up nc
    have E14 := E13.up nc
    have N4 := nxt N3 nc
    have hR4 := hR.up N4
    have MU := fun W => mulE_any W t iL L iL_lm
    rw [iL_val] at MU
    obtain ⟨j0, j1, j2, j3, j4⟩ : wc.cell? ⟨4, 0, none⟩ = some (.int .u64 (iL 0)) ∧ wc.cell? ⟨4, 1, none⟩ = some (.int .u64 (iL 1)) ∧ wc.cell? ⟨4, 2, none⟩ = some (.int .u64 (iL 2)) ∧ wc.cell? ⟨4, 3, none⟩ = some (.int .u64 (iL 3)) ∧ wc.cell? ⟨4, 4, none⟩ = some (.int .u64 (iL 4)) :=
      ⟨hR4.2.2.1 0 (by omega), hR4.2.2.1 1 (by omega), hR4.2.2.1 2 (by omega), hR4.2.2.1 3 (by omega), hR4.2.2.1 4 (by omega)⟩
    obtain ⟨il, hil⟩ : ∃ f, f = iL := ⟨_, rfl⟩
    rw [← hil] at MU j0 j1 j2 j3 j4
    have ple := T4.lt
    have pe := E04.lt
    clear hil SQ NG CE nd T E02 E12 E03 E13 N2 N3 nc n3
    simp only [ag5] at MU
    have KR : Hid (sv t 5 = rtR (sv e 5)) := VR
    go_upto_if 12 with fail
    go_cut [] (fun wc => ∃ t1, Blk wc pr .u64 [t1 0, t1 1, t1 2, t1 3, t1 4] ∧ Lm t1 ∧ Hid (sv t1 5 = r1I (sv e 5)) ∧ Blk wc w.heap.size .u64 [e 0, e 1, e 2, e 3, e 4] ∧ Blk wc (w.heap.size + 1) .u64 [0, 0, 0, 0, 0] ∧ Below w.heap.size w wc)
    case first =>
      by_cases cc : rtR (sv e 5) * rtR (sv e 5) % PP = (0 - sv e 5) % PP
      · have k1 : Hid (r1I (sv e 5) = sv t 5 * iM % PP) := by show _ = _; rw [KR.out, r1I, if_pos cc]
        rw [decide_eq_true cc]
        clear cc
        obtain ⟨y0, y1, y2, y3, y4⟩ := T4.f5.1
        go_wp2_with fail
        refine (MU wc).mono ?_
        rintro r wm ⟨t1, rfl, L1, V1, nm⟩
        obtain ⟨⟨z0, z1, z2, z3, z4⟩, ⟨f0, f1, f2, f3, f4⟩⟩ := (T4.up nm).f5
        have S0 := put5_same t1 (T4.up nm)
        have S1 := put5_keep (p := pr) (u := t1) (E04.up nm) (by omega)
        have S2 := put5_keep (p := pr) (u := t1) (E14.up nm) (by omega)
        have S3 : Below w.heap.size w (put5 wm pr t1) := below_set5 (nxt N4 nm) (by omega) _ _ _ _ _
        have V1' : Hid (sv t1 5 = r1I (sv e 5)) := by rw [k1.out]; exact V1
        clear MU j0 j1 j2 j3 j4 V1 y0 y1 y2 y3 y4
        go_wp2_with fail
        go_meet
        exact ⟨t1, S0, L1, V1', S1, S2, S3⟩
      · have k1 : Hid (sv t 5 = r1I (sv e 5)) := by show _ = _; rw [KR.out, r1I, if_neg cc]
        rw [decide_eq_false cc]
        clear cc
        go_wp2_with fail
        go_meet
        exact ⟨t, T4, L, k1, E04, E14, N4⟩
    case rest =>
      clear T4 E04 E14 MU j0 j1 j2 j3 j4 N4 hR4 KR VR L
      obtain ⟨t1, T1, L1, V1, E0, E1, N5⟩ := hcut
      have zr := T1.lt
      have CE : Hid (∀ W, Below wc.heap.size wc W → (W.cell? ⟨pr, 0, none⟩ = some (.int .u64 (t1 0)) ∧ W.cell? ⟨pr, 1, none⟩ = some (.int .u64 (t1 1)) ∧ W.cell? ⟨pr, 2, none⟩ = some (.int .u64 (t1 2)) ∧ W.cell? ⟨pr, 3, none⟩ = some (.int .u64 (t1 3)) ∧ W.cell? ⟨pr, 4, none⟩ = some (.int .u64 (t1 4))) ∧ (W.cell? ⟨w.heap.size, 0, none⟩ = some (.int .u64 (e 0)) ∧ W.cell? ⟨w.heap.size, 1, none⟩ = some (.int .u64 (e 1)) ∧ W.cell? ⟨w.heap.size, 2, none⟩ = some (.int .u64 (e 2)) ∧ W.cell? ⟨w.heap.size, 3, none⟩ = some (.int .u64 (e 3)) ∧ W.cell? ⟨w.heap.size, 4, none⟩ = some (.int .u64 (e 4)))) := fun W n => ⟨(T1.up n).f5.1, (E0.up n).f5.1⟩
      have SQ : Hid (∀ W, Below wc.heap.size wc W → Calls Tryd.prog 115 #[.agg #[.int .u64 (t1 0), .int .u64 (t1 1), .int .u64 (t1 2), .int .u64 (t1 3), .int .u64 (t1 4)]] W fun r w' => ∃ u, r = .returned (.agg #[.int .u64 (u 0), .int .u64 (u 1), .int .u64 (u 2), .int .u64 (u 3), .int .u64 (u 4)]) ∧ Hid (Lm u ∧ sv u 5 = sv t1 5 * sv t1 5 % PP) ∧ Below wc.heap.size wc w') := by
        intro W n
        refine (square_any W t1 L1).mono ?_
        rintro r w' ⟨u, rfl, Lu, Vu, n'⟩
        exact ⟨u, rfl, ⟨Lu, Vu⟩, nxt n n'⟩
      have nd : Below wc.heap.size wc wc.drew := (Below.refl _ _).drew
      go_upto_region 4 with fail
      go_cut [19] (fun v wd => v = .bool (!decide (r1I (sv e 5) * r1I (sv e 5) % PP = sv e 5)) ∧ Below wc.heap.size wc wd)
      case first =>
        go_region_held3 (fun W => (W.cell? ⟨pr, 0, none⟩ = some (.int .u64 (t1 0)) ∧ W.cell? ⟨pr, 1, none⟩ = some (.int .u64 (t1 1)) ∧ W.cell? ⟨pr, 2, none⟩ = some (.int .u64 (t1 2)) ∧ W.cell? ⟨pr, 3, none⟩ = some (.int .u64 (t1 3)) ∧ W.cell? ⟨pr, 4, none⟩ = some (.int .u64 (t1 4))) ∧ (W.cell? ⟨w.heap.size, 0, none⟩ = some (.int .u64 (e 0)) ∧ W.cell? ⟨w.heap.size, 1, none⟩ = some (.int .u64 (e 1)) ∧ W.cell? ⟨w.heap.size, 2, none⟩ = some (.int .u64 (e 2)) ∧ W.cell? ⟨w.heap.size, 3, none⟩ = some (.int .u64 (e 3)) ∧ W.cell? ⟨w.heap.size, 4, none⟩ = some (.int .u64 (e 4))))
          (first | exact (unhide CE) _ nd | exact (unhide CE) _ ns)
          (first
            | (go_at_call 115; refine ((unhide SQ) _ nd).mono ?_; rintro r ws ⟨u, rfl, LU, ns⟩))
        all_goals
          have BB : Hid ((u 0 == e 0 && u 1 == e 1 && u 2 == e 2 && u 3 == e 3 && u 4 == e 4) = decide (r1I (sv e 5) * r1I (sv e 5) % PP = sv e 5)) := by
            show _ = _
            rw [eq_Lm LU.out.1 heL, LU.out.2, V1.out]
          clear SQ CE EQ
          go_wp2_with fail
          go_meet
          exact ⟨by rw [← BB.out]; simp only [Bool.not_and], ns⟩
      case rest =>
        obtain ⟨rfl, nc⟩ := hcut
        have T6 := T1.up nc
        have E6 := E1.up nc
        have N6 := nxt N5 nc
        clear SQ CE EQ nd T1 E0 E1 N5 nc
        by_cases gg : r1I (sv e 5) * r1I (sv e 5) % PP = sv e 5
        · have G : Hid (r1I (sv e 5) * r1I (sv e 5) % PP = sv e 5) := gg
          rw [decide_eq_true gg]
          clear gg
          have EV := fun W => isEven_any W t1 L1
          obtain ⟨y0, y1, y2, y3, y4⟩ := T6.f5.1
          by_cases ev : sv t1 5 % 2 = 0
          · have K : Hid (sv t1 5 = fin2 (r1I (sv e 5))) := by show _ = _; rw [← V1.out, fin2, if_pos ev]
            rw [decide_eq_true ev] at EV
            clear ev
            simp only [ag5] at EV
            go_wp2_with fail
            refine (EV _).mono ?_
            rintro r w7 ⟨rfl, n7⟩
            have N7 := nxt N6 n7
            obtain ⟨⟨p0, p1, p2, p3, p4⟩, ⟨g0, g1, g2, g3, g4⟩⟩ := (E6.up n7).f5
            obtain ⟨x0, x1, x2, x3, x4⟩ := (T6.up n7).f5.1
            clear EV y0 y1 y2 y3 y4 T6 E6 N6 n7
            go_wp2
            refine bodyPost_ret (v := .tuple #[ag5 t1, .bool true]) (by simp [ag5, results, Tryd.results75, go_sem, p0, p1, p2, p3, p4]) rfl ⟨Or.inl ⟨G.out, t1, rfl, L1, K.out⟩, ?_⟩
            exact below_set5 N7 (by omega) _ _ _ _ _
          · have K : Hid ((0 - sv t1 5) % PP = fin2 (r1I (sv e 5))) := by show _ = _; rw [← V1.out, fin2, if_neg ev]
            rw [decide_eq_false ev] at EV
            clear ev
            simp only [ag5] at EV
            go_wp2_with fail
            refine (EV _).mono ?_
            rintro r w7 ⟨rfl, n7⟩
            have N7 := nxt N6 n7
            have E7 := E6.up n7
            have T7 := T6.up n7
            obtain ⟨x0, x1, x2, x3, x4⟩ := T7.f5.1
            have NG := fun W (h : Below w.heap.size w W) => negate_any W t1 L1 ((hR.up h).2.2.2)
            simp only [ag5] at NG
            clear EV y0 y1 y2 y3 y4 T6 E6 N6 n7
            go_wp2_with fail
            refine (NG w7 N7).mono ?_
            rintro r w8 ⟨t2, rfl, L2, W2, n8⟩
            have K2 : Hid (sv t2 5 = fin2 (r1I (sv e 5))) := by rw [← K.out]; exact W2
            have N8 := nxt N7 n8
            obtain ⟨⟨z0, z1, z2, z3, z4⟩, ⟨f0, f1, f2, f3, f4⟩⟩ := (T7.up n8).f5
            have S0 := put5_same t2 (T7.up n8)
            have S2 := put5_keep (p := pr) (u := t2) (E7.up n8) (by omega)
            have S3 : Below w.heap.size w (put5 w8 pr t2) := below_set5 N8 (by omega) _ _ _ _ _
            obtain ⟨⟨p0, p1, p2, p3, p4⟩, ⟨g0, g1, g2, g3, g4⟩⟩ := S2.f5
            obtain ⟨c0, c1, c2, c3, c4⟩ := S0.f5.1
            clear NG x0 x1 x2 x3 x4 T7 E7 N7 n8 W2 N8 S0 S2
            go_wp2
            refine bodyPost_ret (v := .tuple #[ag5 t2, .bool true]) (by simp [ag5, results, Tryd.results75, go_sem, p0, p1, p2, p3, p4]) rfl ⟨Or.inl ⟨G.out, t2, rfl, L2, K2.out⟩, ?_⟩
            exact below_set5 S3 (by omega) _ _ _ _ _
        · have G : Hid (¬ r1I (sv e 5) * r1I (sv e 5) % PP = sv e 5) := gg
          rw [decide_eq_false gg]
          clear gg
          obtain ⟨⟨p0, p1, p2, p3, p4⟩, ⟨g0, g1, g2, g3, g4⟩⟩ := E6.f5
          go_wp2
          refine bodyPost_ret (v := .tuple #[ag5 z5e, .bool false]) (by simp [ag5, z5e, results, Tryd.results75, go_sem, p0, p1, p2, p3, p4]) rfl ⟨Or.inr ⟨G.out, rfl⟩, ?_⟩
          exact below_set5 N6 (by omega) _ _ _ _ _
end Go.Proofs.YtbhmhkimddjhaaaDoor
/-
  The program's FieldRoot.
-/
namespace Go.Proofs.YtbhmhkimddjhaaaDoor
set_option maxRecDepth 100000
open Go.RowKit

/-- Has the element of these bytes a root? The bytes of the even one. -/
def frB (xs : List Int) : Bool := decide (xs.length = 32) && decide (r1I (num xs % PP) * r1I (num xs % PP) % PP = num xs % PP)
def frL (xs : List Int) : List Int := if frB xs = true then fill (byt (fin2 (r1I (num xs % PP)))) 32 else []
theorem frL_len (xs : List Int) : (frL xs).length ≤ 32 := by
  unfold frL
  split
  · rw [fill_len]; omega
  · simp

set_option maxHeartbeats 4000000 in
theorem implFieldRoot_any (w : World) (g : Nat) (a : Option Addr) (c : Nat) (xs : List Int) (hr : Rd w g a .u8 xs) (hb : Byt xs) (hR : HasR w) :
    Calls Tryd.prog 33 #[.slice a xs.length c] w fun e w' => NewRes w.heap.size w' e (frB xs) (frL xs) ∧ Below w.heap.size w w' := by
  have hal : Below w.heap.size w (w.alloc (.cells #[.bool false, .slice none 0 0] 41)) := (Below.refl _ _).alloc (Nat.le_refl _) _
  have T0 := Two.new w (.bool false) (.slice none 0 0) 41
  have s0 : (w.alloc (.cells #[.bool false, .slice none 0 0] 41)).heap.size = w.heap.size + 1 := by simp
  have TS := fun W => isFieldSize_any W a c xs.length
  by_cases hl : xs.length = 32
  · have E1 := elt_ok hb hl
    have EE : Elm (elt xs) := Elm.of E1.1 E1.2
    have R1 := fun W n => readElement_any W g a c xs (hr.up n) hb hl
    have RT := fun W (h : Below w.heap.size w W) => root_any W (elt xs) EE (hR.up h)
    rw [E1.2] at RT
    have EA : (stl (rl (wv (fun j => xs.getD j 0) 32))) = elt xs := rfl
    rw [EA] at R1
    simp only [decide_eq_true hl] at TS
    have HL := hide hl
    rw [hl] at TS ⊢
    clear hl hb hr E1 EE EA
    generalize elt xs = e at *
    simp only [ag5] at R1 RT
    go_enter Tryd.func33, Tryd.ntmps33
    go_wp2_with fail
    generalize w.alloc (.cells #[.bool false, .slice none 0 0] 41) = wa at *
    refine (TS wa).mono ?_
    rintro r w0 ⟨rfl, rfl⟩
    go_wp2_with fail
    refine (R1 w0 hal).mono ?_
    rintro r w1 ⟨rfl, n1⟩
    have N1 := nxt hal n1
    go_wp2_with fail
    refine (RT w1 N1).mono ?_
    rintro r w2 ⟨RO, n2⟩
    have N2 := nxt N1 n2
    have T2 := (T0.up n1).up n2
    clear RT R1 TS T0 n1 N1
    rcases RO with ⟨gg, t, rfl, L, V⟩ | ⟨gg, rfl⟩
    · have KB : Hid (frB xs = true) := by show _ = _; unfold frB; rw [decide_eq_true HL.out, decide_eq_true gg]; rfl
      have KL : Hid (frL xs = fill (byt (sv t 5)) 32) := by show _ = _; rw [V, frL, if_pos KB.out]
      have BY := fun W => bytes_any W t L
      rw [← KL.out] at BY
      have n3 : Below w2.heap.size w2 (w2.alloc (.cells #[.int .u64 (t 0), .int .u64 (t 1), .int .u64 (t 2), .int .u64 (t 3), .int .u64 (t 4)] 76)) := (Below.refl _ _).alloc (Nat.le_refl _) _
      clear gg V
      simp only [ag5] at BY ⊢
      go_wp2_with fail
      generalize w2.alloc (.cells #[.int .u64 (t 0), .int .u64 (t 1), .int .u64 (t 2), .int .u64 (t 3), .int .u64 (t 4)] 76) = w3 at *
      refine (BY w3).mono ?_
      rintro r w4 ⟨⟨a4, c4, g4, rfl, o4, p4, q4, r4⟩, n4⟩
      have N4 := nxt (nxt N2 n3) n4
      obtain ⟨c0, c1, f0, f1⟩ := (T2.up n3).up n4
      have z4 := (nxt N2 n3).size
      have z2 := T2.lt
      have z3 := n3.size
      have O := (Only.setCell w4 w.heap.size 0 (.bool true)).trans (Only.setCell _ w.heap.size 1 (.slice a4 (frL xs).length c4))
      have o5 := o4.only O (fun _ => by omega)
      have N5 := N4.trans (O.below (Nat.le_refl _))
      clear BY n3 n4 T2 N2 O o4 N4
      have HK := hide KL
      clear KL
      go_wp2
      refine bodyPost_ret (v := .agg #[.bool true, .slice a4 (frL xs).length c4]) (by simp [results, Tryd.results33, go_sem, c0, c1]) rfl ⟨?_, N5⟩
      rw [KB.out]
      exact ⟨a4, c4, g4, rfl, o5, p4, q4, by omega⟩
    · have KB : Hid (frB xs = false) := by show _ = _; unfold frB; rw [decide_eq_true HL.out, decide_eq_false gg]; rfl
      have KL : Hid (frL xs = []) := by show _ = _; rw [frL, if_neg (by rw [KB.out]; simp)]
      have n3 : Below w2.heap.size w2 (w2.alloc (.cells #[.int .u64 0, .int .u64 0, .int .u64 0, .int .u64 0, .int .u64 0] 76)) := (Below.refl _ _).alloc (Nat.le_refl _) _
      have N3 := nxt N2 n3
      obtain ⟨c0, c1, f0, f1⟩ := T2.up n3
      clear gg
      simp only [ag5, z5e]
      go_wp2
      refine bodyPost_ret (v := .agg #[.bool false, .slice none 0 0]) (by simp [results, Tryd.results33, go_sem, c0, c1]) rfl ⟨?_, ?_⟩
      · rw [KB.out, KL.out]
        exact NewRes.none (by simp [World.setCell]; have := N3.size; simp at this; omega)
      · exact (N3.setCell (Nat.le_refl _) _).setCell (Nat.le_refl _) _
  · have KB : Hid (frB xs = false) := by show _ = _; unfold frB; rw [decide_eq_false hl]; rfl
    have KL : Hid (frL xs = []) := by show _ = _; rw [frL, if_neg (by rw [KB.out]; simp)]
    simp only [decide_eq_false hl] at TS
    obtain ⟨c0, c1, f0, f1⟩ := T0
    clear hl
    go_enter Tryd.func33, Tryd.ntmps33
    go_wp2_with fail
    generalize w.alloc (.cells #[.bool false, .slice none 0 0] 41) = wa at *
    refine (TS wa).mono ?_
    rintro r w0 ⟨rfl, rfl⟩
    go_wp2
    refine bodyPost_ret (v := .agg #[.bool false, .slice none 0 0]) (by simp [results, Tryd.results33, go_sem, c0, c1]) rfl ⟨?_, ?_⟩
    · rw [KB.out, KL.out]
      exact NewRes.none (by simp [World.setCell]; omega)
    · exact (hal.setCell (Nat.le_refl _) _).setCell (Nat.le_refl _) _
end Go.Proofs.YtbhmhkimddjhaaaDoor
