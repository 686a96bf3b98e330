
/-
  Texts of times that are drawn.
-/
import Derived.Test.YtakcpkfofgiehaaDoorDrN
namespace Go.Proofs.YtakcpkfofgiehaaDoor
set_option maxRecDepth 100000
open Go Go.RowKit

/-- A text of fifteen bytes in a row of its own; the source. -/
def D15 (w0 w : World) (base : Nat) (a : Option Addr) (n c : Nat) (T : Int) (v : Value) : Prop :=
  ∃ zs t, Byt zs ∧ Hid (zs.length = 15) ∧ RowB w base v zs ∧ Src w w0.heap.size a n c t ∧ 0 ≤ t ∧ t ≤ T ∧ Below w0.heap.size w0 w
theorem D15.le {w0 w : World} {base : Nat} {a : Option Addr} {n c : Nat} {T T' : Int} {v : Value} (h : D15 w0 w base a n c T v) (hT : T ≤ T') : D15 w0 w base a n c T' v := by
  obtain ⟨zs, t, h1, h2, h3, h4, h5, h6, h7⟩ := h
  exact ⟨zs, t, h1, h2, h3, h4, h5, by omega, h7⟩

theorem setCell_other_block (w : World) (g i q : Nat) (v : Value) (h : q ≠ g) : (w.setCell ⟨g, i, none⟩ v).heap[q]? = w.heap[q]? := by
  show (w.heap.modify g _)[q]? = _
  rw [Array.getElem?_modify, if_neg (Ne.symm h)]
theorem RowB.set1 {w : World} {base g n cap : Nat} {xs : List Int} (h : RowB w base (.slice (some ⟨g, 0, none⟩) n cap) xs) (i : Nat) (z : Int) (hi : i < xs.length) : RowB (w.setCell ⟨g, i, none⟩ (.int .u8 z)) base (.slice (some ⟨g, 0, none⟩) n cap) (xs.set i z) := by
  obtain ⟨g', cap', e, -, -, -, -, ST, -⟩ := h.parts (by omega)
  cases e
  exact ST i z hi
theorem EtIs.len15 {t : Int} {L : List Int} (h : EtIs t L) (ht : 0 ≤ t ∧ t ≤ 253402300799) : L.length = 15 := by
  rcases h with ⟨_, y, k, x, _, rfl⟩ | ⟨n, _⟩
  · simp [dgs_len]
  · exact absurd ht n

set_option maxHeartbeats 1000000 in
theorem drawDecTime_any (w : World) (g : Nat) (a : Option Addr) (c : Nat) (xs : List Int) (hr : Rd w g a .u8 xs) (hb : Byt xs) (hl : xs.length ≤ 1048576) :
    Calls Tryd.prog 18 #[.slice a xs.length c] w fun e w' => ∃ ys, Byt ys ∧ ys.length ≤ 16 ∧ NewRow w.heap.size w' e .u8 ys ∧ Below w.heap.size w w' := by
  have hne : 0 < xs.length → g ≠ w.heap.size := fun h => by have := hr.lt h; omega
  go_enter Tryd.func18, Tryd.ntmps18
  go_wp2_with fail
  refine (l1Source_any w a xs.length c hl).mono ?_
  rintro e w1 ⟨rfl, S1, n1⟩
  have R1 := hr.up n1
  go_wp2_with fail
  refine (l10DrawTime_any w1 w.heap.size g a c xs 0 S1 R1 hne hb hl (by decide) (by decide)).mono ?_
  rintro e w2 ⟨t, rfl, ht, S2, O2⟩
  have N2 : Below w.heap.size w w2 := n1.trans (O2.below (Nat.le_refl _))
  have z2 : w.heap.size < w2.heap.size := S2.lt
  have ET : ∀ t, 0 ≤ t ∧ t ≤ 253402300799 → ∃ L, Byt L ∧ L.length = 15 ∧ Hid (Calls Tryd.prog 6 #[.int .i64 t] w2 fun e w' => (∃ r, e = .returned r ∧ RowB w' w2.heap.size r L) ∧ Below w2.heap.size w2 w') := fun t h => by
    obtain ⟨L, hL⟩ := etIs_some t
    exact ⟨L, hL.byt, hL.len15 h, specEncodeTime_row w2 t L hL⟩
  clear n1 S1 O2 R1
  have HB : Hid (∀ (W : World) {v : Value} {L : List Int}, RowB W w2.heap.size v L → 0 < L.length → w2.heap.size ≤ W.heap.size) := fun W v L h h0 => by
    obtain ⟨g3, cap3, -, hg3, -, CE, -⟩ := h.parts h0
    have := block_lt_of_cell (CE 0 h0)
    have : g3 < W.heap.size := this
    omega
  by_cases c1 : t < 0
  · have d1 : decide (t < 0) = true := by simp; omega
    obtain ⟨L, LB, LL, EL⟩ := ET (0) (by omega)
    clear ET
    go_wp2_with fail
    refine EL.out.mono ?_
    rintro e w3 ⟨⟨v3, rfl, R3⟩, n3⟩
    have S3 := S2.up n3
    have N3 := N2.trans (n3.mono (by omega))
    clear EL
    go_wp2_with fail
    refine (l1Chance_any w3 w.heap.size g a c xs _ 2 S3 (hr.up N3) hne hb hl (by decide) (by decide) (by decide) (by decide)).mono ?_
    rintro e w4 ⟨b, rfl, S4, O4⟩
    have N4 := N3.trans (O4.below (Nat.le_refl w.heap.size))
    have R4 := R3.only O4 z2
    have HLL := hide LL
    clear LL R3 S3 N3 n3 O4 N2 S2
    go_upto_if 20 with fail
    go_cut [5] (fun v wc => D15 w wc w2.heap.size a xs.length c 10 v)
    case first =>
      cases b with
      | false =>
        go_wp2_with fail
        go_meet
        exact ⟨L, _, LB, HLL, R4, S4, by omega, by omega, N4⟩
      | true =>
        go_wp2_with fail
        refine (l1NextB_any w4 w.heap.size g a c xs _ 15 S4 (hr.up N4) hne hb hl (by omega) (by omega) (by decide) (by decide)).mono ?_
        rintro e w5 ⟨k, rfl, hk, S5, O5⟩
        obtain ⟨kn, rfl⟩ := Int.eq_ofNat_of_zero_le hk.1
        have N5 := N4.trans (O5.below (Nat.le_refl w.heap.size))
        have R5 := R4.only O5 z2
        clear R4 S4 N4 O5
        go_wp2_with fail
        refine (l1NextB_any w5 w.heap.size g a c xs _ 11 S5 (hr.up N5) hne hb hl (by omega) (by omega) (by decide) (by decide)).mono ?_
        rintro e w6 ⟨z, rfl, hz, S6, O6⟩
        have N6 := N5.trans (O6.below (Nat.le_refl w.heap.size))
        have R6 := R5.only O6 z2
        obtain ⟨g3, cap3, rfl, hg3, -, CE, FR, ST, -⟩ := R6.parts (by rw [HLL.out]; omega)
        have kl : kn < L.length := by rw [HLL.out]; omega
        have kl' : (kn : Int) < 15 := by omega
        have ce := CE kn kl
        have fr := FR kn
        have st := hide (ST kn (48 + z) kl)
        have yb' := byt_set LB kn (48 + z) (by omega) (by omega)
        have yl : Hid ((L.set kn (48 + z)).length = 15) := by show _ = _; rw [List.length_set]; exact HLL.out
        have NB : Below w.heap.size w (w6.setCell ⟨g3, kn, none⟩ (.int .u8 (48 + z))) := N6.setCell (p := ⟨g3, kn, none⟩) (by show w.heap.size ≤ g3; omega) _
        have SS : Src (w6.setCell ⟨g3, kn, none⟩ (.int .u8 (48 + z))) w.heap.size a xs.length c _ := S6.of_block (setCell_other_block w6 g3 kn w.heap.size _ (by omega))
        rw [HLL.out]
        clear CE FR ST R5 R6 S5 S6 N5 N6 O6 kl
        generalize L.getD kn 0 = x at *
        go_wp2_with fail
        go_meet
        refine ⟨_, _, yb', yl, ?_, SS, by omega, by omega, NB⟩
        have := st.out
        rw [HLL.out] at this
        exact this
    case rest =>
      clear R4 S4 N4 LB HLL L
      obtain ⟨L, t5, LB, HLL, R5, S5, t50, t51, N5⟩ := hcut
      go_wp2_with fail
      refine (l1Chance_any wc w.heap.size g a c xs t5 8 S5 (hr.up N5) hne hb hl (by omega) (by omega) (by decide) (by decide)).mono ?_
      rintro e w6 ⟨b, rfl, S6, O6⟩
      have N6 := N5.trans (O6.below (Nat.le_refl w.heap.size))
      have R6 := R5.only O6 z2
      clear R5 S5 N5 O6
      go_upto_if 31 with fail
      go_cut [5] (fun v wc => D15 w wc w2.heap.size a xs.length c 20 v)
      case first =>
        cases b with
        | false =>
          go_wp2_with fail
          go_meet
          exact ⟨L, _, LB, HLL, R6, S6, by omega, by omega, N6⟩
        | true =>
          obtain ⟨g3, cap3, rfl, hg3, -, CE, FR, ST, -⟩ := R6.parts (by rw [HLL.out]; omega)
          have f4 := FR 4
          have f5 := FR 5
          have f6 := FR 6
          have f7 := FR 7
          have c4 := CE 4 (by rw [HLL.out]; omega)
          have c5 := CE 5 (by rw [HLL.out]; omega)
          have c6 := CE 6 (by rw [HLL.out]; omega)
          have c7 := CE 7 (by rw [HLL.out]; omega)
          have st1 := ST 6 50 (by rw [HLL.out]; omega)
          have st2 := st1.set1 7 57 (by rw [List.length_set, HLL.out]; omega)
          have st3 := st2.set1 4 48 (by rw [List.length_set, List.length_set, HLL.out]; omega)
          have st4 := hide (st3.set1 5 50 (by rw [List.length_set, List.length_set, List.length_set, HLL.out]; omega))
          have yb' := byt_set (byt_set (byt_set (byt_set LB 6 50 (by decide) (by decide)) 7 57 (by decide) (by decide)) 4 48 (by decide) (by decide)) 5 50 (by decide) (by decide)
          have yl : Hid (((((L.set 6 50).set 7 57).set 4 48).set 5 50).length = 15) := by show _ = _; rw [List.length_set, List.length_set, List.length_set, List.length_set]; exact HLL.out
          have NB : Below w.heap.size w ((((w6.setCell ⟨g3, 6, none⟩ (.int .u8 50)).setCell ⟨g3, 7, none⟩ (.int .u8 57)).setCell ⟨g3, 4, none⟩ (.int .u8 48)).setCell ⟨g3, 5, none⟩ (.int .u8 50)) := (((N6.setCell (p := ⟨g3, 6, none⟩) (by show w.heap.size ≤ g3; omega) _).setCell (p := ⟨g3, 7, none⟩) (by show w.heap.size ≤ g3; omega) _).setCell (p := ⟨g3, 4, none⟩) (by show w.heap.size ≤ g3; omega) _).setCell (p := ⟨g3, 5, none⟩) (by show w.heap.size ≤ g3; omega) _
          have SS : Src ((((w6.setCell ⟨g3, 6, none⟩ (.int .u8 50)).setCell ⟨g3, 7, none⟩ (.int .u8 57)).setCell ⟨g3, 4, none⟩ (.int .u8 48)).setCell ⟨g3, 5, none⟩ (.int .u8 50)) w.heap.size a xs.length c _ := (((S6.of_block (setCell_other_block _ g3 6 w.heap.size _ (by omega))).of_block (setCell_other_block _ g3 7 w.heap.size _ (by omega))).of_block (setCell_other_block _ g3 4 w.heap.size _ (by omega))).of_block (setCell_other_block _ g3 5 w.heap.size _ (by omega))
          rw [HLL.out] at st4 ⊢
          clear CE FR ST R6 S6 N6 st1 st2 st3
          generalize L.getD 4 0 = x4 at *
          generalize L.getD 5 0 = x5 at *
          generalize L.getD 6 0 = x6 at *
          generalize L.getD 7 0 = x7 at *
          go_wp2_with fail
          go_meet
          exact ⟨_, _, yb', yl, st4.out, SS, by omega, by omega, NB⟩
      case rest =>
        clear R6 S6 N6 LB HLL L
        obtain ⟨L, t7, LB, HLL, R7, S7, t70, t71, N7⟩ := hcut
        go_wp2_with fail
        refine (l1Chance_any wc w.heap.size g a c xs t7 10 S7 (hr.up N7) hne hb hl (by omega) (by omega) (by decide) (by decide)).mono ?_
        rintro e w8 ⟨b, rfl, S8, O8⟩
        have N8 := N7.trans (O8.below (Nat.le_refl w.heap.size))
        have R8 := R7.only O8 z2
        have z8 := O8.size
        have bz : w2.heap.size ≤ w8.heap.size := by rw [z8]; exact HB.out _ R7 (by rw [HLL.out]; omega)
        clear R7 S7 N7 O8 z8
        cases b with
        | false =>
          obtain ⟨a9, c9, g9, rfl, o9, p9, q9, r9⟩ := R8.own
          go_wp2
          go_ret
          exact ⟨L, LB, by rw [HLL.out]; omega, ⟨a9, c9, g9, rfl, o9, p9, q9, by omega⟩, N8⟩
        | true =>
          have SPO := hide (l10Spoil_any w8 w.heap.size g a c xs _ S8 (hr.up N8) hne hb hl (by omega) (by omega) _ L w2.heap.size R8 z2 bz LB (by rw [HLL.out]; omega) (by rw [HLL.out]; omega))
          go_wp2_with fail
          refine SPO.out.mono ?_
          rintro e w9 ⟨zs, r, rfl, zb, zl, R9, n9⟩
          obtain ⟨a9, c9, g9, rfl, o9, p9, q9, r9⟩ := R9.own
          clear SPO
          have N9 := N8.trans n9
          rw [HLL.out] at zl
          go_wp2
          go_ret
          exact ⟨zs, zb, zl, ⟨a9, c9, g9, rfl, o9, p9, q9, by omega⟩, N9⟩
  have d1 : decide (t < 0) = false := by simp; omega
  by_cases c2 : 253402300799 < t
  · have d2 : decide (253402300799 < t) = true := by simp; omega
    obtain ⟨L, LB, LL, EL⟩ := ET (0) (by omega)
    clear ET
    go_wp2_with fail
    refine EL.out.mono ?_
    rintro e w3 ⟨⟨v3, rfl, R3⟩, n3⟩
    have S3 := S2.up n3
    have N3 := N2.trans (n3.mono (by omega))
    clear EL
    go_wp2_with fail
    refine (l1Chance_any w3 w.heap.size g a c xs _ 2 S3 (hr.up N3) hne hb hl (by decide) (by decide) (by decide) (by decide)).mono ?_
    rintro e w4 ⟨b, rfl, S4, O4⟩
    have N4 := N3.trans (O4.below (Nat.le_refl w.heap.size))
    have R4 := R3.only O4 z2
    have HLL := hide LL
    clear LL R3 S3 N3 n3 O4 N2 S2
    go_upto_if 20 with fail
    go_cut [5] (fun v wc => D15 w wc w2.heap.size a xs.length c 10 v)
    case first =>
      cases b with
      | false =>
        go_wp2_with fail
        go_meet
        exact ⟨L, _, LB, HLL, R4, S4, by omega, by omega, N4⟩
      | true =>
        go_wp2_with fail
        refine (l1NextB_any w4 w.heap.size g a c xs _ 15 S4 (hr.up N4) hne hb hl (by omega) (by omega) (by decide) (by decide)).mono ?_
        rintro e w5 ⟨k, rfl, hk, S5, O5⟩
        obtain ⟨kn, rfl⟩ := Int.eq_ofNat_of_zero_le hk.1
        have N5 := N4.trans (O5.below (Nat.le_refl w.heap.size))
        have R5 := R4.only O5 z2
        clear R4 S4 N4 O5
        go_wp2_with fail
        refine (l1NextB_any w5 w.heap.size g a c xs _ 11 S5 (hr.up N5) hne hb hl (by omega) (by omega) (by decide) (by decide)).mono ?_
        rintro e w6 ⟨z, rfl, hz, S6, O6⟩
        have N6 := N5.trans (O6.below (Nat.le_refl w.heap.size))
        have R6 := R5.only O6 z2
        obtain ⟨g3, cap3, rfl, hg3, -, CE, FR, ST, -⟩ := R6.parts (by rw [HLL.out]; omega)
        have kl : kn < L.length := by rw [HLL.out]; omega
        have kl' : (kn : Int) < 15 := by omega
        have ce := CE kn kl
        have fr := FR kn
        have st := hide (ST kn (48 + z) kl)
        have yb' := byt_set LB kn (48 + z) (by omega) (by omega)
        have yl : Hid ((L.set kn (48 + z)).length = 15) := by show _ = _; rw [List.length_set]; exact HLL.out
        have NB : Below w.heap.size w (w6.setCell ⟨g3, kn, none⟩ (.int .u8 (48 + z))) := N6.setCell (p := ⟨g3, kn, none⟩) (by show w.heap.size ≤ g3; omega) _
        have SS : Src (w6.setCell ⟨g3, kn, none⟩ (.int .u8 (48 + z))) w.heap.size a xs.length c _ := S6.of_block (setCell_other_block w6 g3 kn w.heap.size _ (by omega))
        rw [HLL.out]
        clear CE FR ST R5 R6 S5 S6 N5 N6 O6 kl
        generalize L.getD kn 0 = x at *
        go_wp2_with fail
        go_meet
        refine ⟨_, _, yb', yl, ?_, SS, by omega, by omega, NB⟩
        have := st.out
        rw [HLL.out] at this
        exact this
    case rest =>
      clear R4 S4 N4 LB HLL L
      obtain ⟨L, t5, LB, HLL, R5, S5, t50, t51, N5⟩ := hcut
      go_wp2_with fail
      refine (l1Chance_any wc w.heap.size g a c xs t5 8 S5 (hr.up N5) hne hb hl (by omega) (by omega) (by decide) (by decide)).mono ?_
      rintro e w6 ⟨b, rfl, S6, O6⟩
      have N6 := N5.trans (O6.below (Nat.le_refl w.heap.size))
      have R6 := R5.only O6 z2
      clear R5 S5 N5 O6
      go_upto_if 31 with fail
      go_cut [5] (fun v wc => D15 w wc w2.heap.size a xs.length c 20 v)
      case first =>
        cases b with
        | false =>
          go_wp2_with fail
          go_meet
          exact ⟨L, _, LB, HLL, R6, S6, by omega, by omega, N6⟩
        | true =>
          obtain ⟨g3, cap3, rfl, hg3, -, CE, FR, ST, -⟩ := R6.parts (by rw [HLL.out]; omega)
          have f4 := FR 4
          have f5 := FR 5
          have f6 := FR 6
          have f7 := FR 7
          have c4 := CE 4 (by rw [HLL.out]; omega)
          have c5 := CE 5 (by rw [HLL.out]; omega)
          have c6 := CE 6 (by rw [HLL.out]; omega)
          have c7 := CE 7 (by rw [HLL.out]; omega)
          have st1 := ST 6 50 (by rw [HLL.out]; omega)
          have st2 := st1.set1 7 57 (by rw [List.length_set, HLL.out]; omega)
          have st3 := st2.set1 4 48 (by rw [List.length_set, List.length_set, HLL.out]; omega)
          have st4 := hide (st3.set1 5 50 (by rw [List.length_set, List.length_set, List.length_set, HLL.out]; omega))
          have yb' := byt_set (byt_set (byt_set (byt_set LB 6 50 (by decide) (by decide)) 7 57 (by decide) (by decide)) 4 48 (by decide) (by decide)) 5 50 (by decide) (by decide)
          have yl : Hid (((((L.set 6 50).set 7 57).set 4 48).set 5 50).length = 15) := by show _ = _; rw [List.length_set, List.length_set, List.length_set, List.length_set]; exact HLL.out
          have NB : Below w.heap.size w ((((w6.setCell ⟨g3, 6, none⟩ (.int .u8 50)).setCell ⟨g3, 7, none⟩ (.int .u8 57)).setCell ⟨g3, 4, none⟩ (.int .u8 48)).setCell ⟨g3, 5, none⟩ (.int .u8 50)) := (((N6.setCell (p := ⟨g3, 6, none⟩) (by show w.heap.size ≤ g3; omega) _).setCell (p := ⟨g3, 7, none⟩) (by show w.heap.size ≤ g3; omega) _).setCell (p := ⟨g3, 4, none⟩) (by show w.heap.size ≤ g3; omega) _).setCell (p := ⟨g3, 5, none⟩) (by show w.heap.size ≤ g3; omega) _
          have SS : Src ((((w6.setCell ⟨g3, 6, none⟩ (.int .u8 50)).setCell ⟨g3, 7, none⟩ (.int .u8 57)).setCell ⟨g3, 4, none⟩ (.int .u8 48)).setCell ⟨g3, 5, none⟩ (.int .u8 50)) w.heap.size a xs.length c _ := (((S6.of_block (setCell_other_block _ g3 6 w.heap.size _ (by omega))).of_block (setCell_other_block _ g3 7 w.heap.size _ (by omega))).of_block (setCell_other_block _ g3 4 w.heap.size _ (by omega))).of_block (setCell_other_block _ g3 5 w.heap.size _ (by omega))
          rw [HLL.out] at st4 ⊢
          clear CE FR ST R6 S6 N6 st1 st2 st3
          generalize L.getD 4 0 = x4 at *
          generalize L.getD 5 0 = x5 at *
          generalize L.getD 6 0 = x6 at *
          generalize L.getD 7 0 = x7 at *
          go_wp2_with fail
          go_meet
          exact ⟨_, _, yb', yl, st4.out, SS, by omega, by omega, NB⟩
      case rest =>
        clear R6 S6 N6 LB HLL L
        obtain ⟨L, t7, LB, HLL, R7, S7, t70, t71, N7⟩ := hcut
        go_wp2_with fail
        refine (l1Chance_any wc w.heap.size g a c xs t7 10 S7 (hr.up N7) hne hb hl (by omega) (by omega) (by decide) (by decide)).mono ?_
        rintro e w8 ⟨b, rfl, S8, O8⟩
        have N8 := N7.trans (O8.below (Nat.le_refl w.heap.size))
        have R8 := R7.only O8 z2
        have z8 := O8.size
        have bz : w2.heap.size ≤ w8.heap.size := by rw [z8]; exact HB.out _ R7 (by rw [HLL.out]; omega)
        clear R7 S7 N7 O8 z8
        cases b with
        | false =>
          obtain ⟨a9, c9, g9, rfl, o9, p9, q9, r9⟩ := R8.own
          go_wp2
          go_ret
          exact ⟨L, LB, by rw [HLL.out]; omega, ⟨a9, c9, g9, rfl, o9, p9, q9, by omega⟩, N8⟩
        | true =>
          have SPO := hide (l10Spoil_any w8 w.heap.size g a c xs _ S8 (hr.up N8) hne hb hl (by omega) (by omega) _ L w2.heap.size R8 z2 bz LB (by rw [HLL.out]; omega) (by rw [HLL.out]; omega))
          go_wp2_with fail
          refine SPO.out.mono ?_
          rintro e w9 ⟨zs, r, rfl, zb, zl, R9, n9⟩
          obtain ⟨a9, c9, g9, rfl, o9, p9, q9, r9⟩ := R9.own
          clear SPO
          have N9 := N8.trans n9
          rw [HLL.out] at zl
          go_wp2
          go_ret
          exact ⟨zs, zb, zl, ⟨a9, c9, g9, rfl, o9, p9, q9, by omega⟩, N9⟩
  have d2 : decide (253402300799 < t) = false := by simp; omega
  obtain ⟨L, LB, LL, EL⟩ := ET (t) (by omega)
  clear ET
  go_wp2_with fail
  refine EL.out.mono ?_
  rintro e w3 ⟨⟨v3, rfl, R3⟩, n3⟩
  have S3 := S2.up n3
  have N3 := N2.trans (n3.mono (by omega))
  clear EL
  go_wp2_with fail
  refine (l1Chance_any w3 w.heap.size g a c xs _ 2 S3 (hr.up N3) hne hb hl (by decide) (by decide) (by decide) (by decide)).mono ?_
  rintro e w4 ⟨b, rfl, S4, O4⟩
  have N4 := N3.trans (O4.below (Nat.le_refl w.heap.size))
  have R4 := R3.only O4 z2
  have HLL := hide LL
  clear LL R3 S3 N3 n3 O4 N2 S2
  go_upto_if 20 with fail
  go_cut [5] (fun v wc => D15 w wc w2.heap.size a xs.length c 10 v)
  case first =>
    cases b with
    | false =>
      go_wp2_with fail
      go_meet
      exact ⟨L, _, LB, HLL, R4, S4, by omega, by omega, N4⟩
    | true =>
      go_wp2_with fail
      refine (l1NextB_any w4 w.heap.size g a c xs _ 15 S4 (hr.up N4) hne hb hl (by omega) (by omega) (by decide) (by decide)).mono ?_
      rintro e w5 ⟨k, rfl, hk, S5, O5⟩
      obtain ⟨kn, rfl⟩ := Int.eq_ofNat_of_zero_le hk.1
      have N5 := N4.trans (O5.below (Nat.le_refl w.heap.size))
      have R5 := R4.only O5 z2
      clear R4 S4 N4 O5
      go_wp2_with fail
      refine (l1NextB_any w5 w.heap.size g a c xs _ 11 S5 (hr.up N5) hne hb hl (by omega) (by omega) (by decide) (by decide)).mono ?_
      rintro e w6 ⟨z, rfl, hz, S6, O6⟩
      have N6 := N5.trans (O6.below (Nat.le_refl w.heap.size))
      have R6 := R5.only O6 z2
      obtain ⟨g3, cap3, rfl, hg3, -, CE, FR, ST, -⟩ := R6.parts (by rw [HLL.out]; omega)
      have kl : kn < L.length := by rw [HLL.out]; omega
      have kl' : (kn : Int) < 15 := by omega
      have ce := CE kn kl
      have fr := FR kn
      have st := hide (ST kn (48 + z) kl)
      have yb' := byt_set LB kn (48 + z) (by omega) (by omega)
      have yl : Hid ((L.set kn (48 + z)).length = 15) := by show _ = _; rw [List.length_set]; exact HLL.out
      have NB : Below w.heap.size w (w6.setCell ⟨g3, kn, none⟩ (.int .u8 (48 + z))) := N6.setCell (p := ⟨g3, kn, none⟩) (by show w.heap.size ≤ g3; omega) _
      have SS : Src (w6.setCell ⟨g3, kn, none⟩ (.int .u8 (48 + z))) w.heap.size a xs.length c _ := S6.of_block (setCell_other_block w6 g3 kn w.heap.size _ (by omega))
      rw [HLL.out]
      clear CE FR ST R5 R6 S5 S6 N5 N6 O6 kl
      generalize L.getD kn 0 = x at *
      go_wp2_with fail
      go_meet
      refine ⟨_, _, yb', yl, ?_, SS, by omega, by omega, NB⟩
      have := st.out
      rw [HLL.out] at this
      exact this
  case rest =>
    clear R4 S4 N4 LB HLL L
    obtain ⟨L, t5, LB, HLL, R5, S5, t50, t51, N5⟩ := hcut
    go_wp2_with fail
    refine (l1Chance_any wc w.heap.size g a c xs t5 8 S5 (hr.up N5) hne hb hl (by omega) (by omega) (by decide) (by decide)).mono ?_
    rintro e w6 ⟨b, rfl, S6, O6⟩
    have N6 := N5.trans (O6.below (Nat.le_refl w.heap.size))
    have R6 := R5.only O6 z2
    clear R5 S5 N5 O6
    go_upto_if 31 with fail
    go_cut [5] (fun v wc => D15 w wc w2.heap.size a xs.length c 20 v)
    case first =>
      cases b with
      | false =>
        go_wp2_with fail
        go_meet
        exact ⟨L, _, LB, HLL, R6, S6, by omega, by omega, N6⟩
      | true =>
        obtain ⟨g3, cap3, rfl, hg3, -, CE, FR, ST, -⟩ := R6.parts (by rw [HLL.out]; omega)
        have f4 := FR 4
        have f5 := FR 5
        have f6 := FR 6
        have f7 := FR 7
        have c4 := CE 4 (by rw [HLL.out]; omega)
        have c5 := CE 5 (by rw [HLL.out]; omega)
        have c6 := CE 6 (by rw [HLL.out]; omega)
        have c7 := CE 7 (by rw [HLL.out]; omega)
        have st1 := ST 6 50 (by rw [HLL.out]; omega)
        have st2 := st1.set1 7 57 (by rw [List.length_set, HLL.out]; omega)
        have st3 := st2.set1 4 48 (by rw [List.length_set, List.length_set, HLL.out]; omega)
        have st4 := hide (st3.set1 5 50 (by rw [List.length_set, List.length_set, List.length_set, HLL.out]; omega))
        have yb' := byt_set (byt_set (byt_set (byt_set LB 6 50 (by decide) (by decide)) 7 57 (by decide) (by decide)) 4 48 (by decide) (by decide)) 5 50 (by decide) (by decide)
        have yl : Hid (((((L.set 6 50).set 7 57).set 4 48).set 5 50).length = 15) := by show _ = _; rw [List.length_set, List.length_set, List.length_set, List.length_set]; exact HLL.out
        have NB : Below w.heap.size w ((((w6.setCell ⟨g3, 6, none⟩ (.int .u8 50)).setCell ⟨g3, 7, none⟩ (.int .u8 57)).setCell ⟨g3, 4, none⟩ (.int .u8 48)).setCell ⟨g3, 5, none⟩ (.int .u8 50)) := (((N6.setCell (p := ⟨g3, 6, none⟩) (by show w.heap.size ≤ g3; omega) _).setCell (p := ⟨g3, 7, none⟩) (by show w.heap.size ≤ g3; omega) _).setCell (p := ⟨g3, 4, none⟩) (by show w.heap.size ≤ g3; omega) _).setCell (p := ⟨g3, 5, none⟩) (by show w.heap.size ≤ g3; omega) _
        have SS : Src ((((w6.setCell ⟨g3, 6, none⟩ (.int .u8 50)).setCell ⟨g3, 7, none⟩ (.int .u8 57)).setCell ⟨g3, 4, none⟩ (.int .u8 48)).setCell ⟨g3, 5, none⟩ (.int .u8 50)) w.heap.size a xs.length c _ := (((S6.of_block (setCell_other_block _ g3 6 w.heap.size _ (by omega))).of_block (setCell_other_block _ g3 7 w.heap.size _ (by omega))).of_block (setCell_other_block _ g3 4 w.heap.size _ (by omega))).of_block (setCell_other_block _ g3 5 w.heap.size _ (by omega))
        rw [HLL.out] at st4 ⊢
        clear CE FR ST R6 S6 N6 st1 st2 st3
        generalize L.getD 4 0 = x4 at *
        generalize L.getD 5 0 = x5 at *
        generalize L.getD 6 0 = x6 at *
        generalize L.getD 7 0 = x7 at *
        go_wp2_with fail
        go_meet
        exact ⟨_, _, yb', yl, st4.out, SS, by omega, by omega, NB⟩
    case rest =>
      clear R6 S6 N6 LB HLL L
      obtain ⟨L, t7, LB, HLL, R7, S7, t70, t71, N7⟩ := hcut
      go_wp2_with fail
      refine (l1Chance_any wc w.heap.size g a c xs t7 10 S7 (hr.up N7) hne hb hl (by omega) (by omega) (by decide) (by decide)).mono ?_
      rintro e w8 ⟨b, rfl, S8, O8⟩
      have N8 := N7.trans (O8.below (Nat.le_refl w.heap.size))
      have R8 := R7.only O8 z2
      have z8 := O8.size
      have bz : w2.heap.size ≤ w8.heap.size := by rw [z8]; exact HB.out _ R7 (by rw [HLL.out]; omega)
      clear R7 S7 N7 O8 z8
      cases b with
      | false =>
        obtain ⟨a9, c9, g9, rfl, o9, p9, q9, r9⟩ := R8.own
        go_wp2
        go_ret
        exact ⟨L, LB, by rw [HLL.out]; omega, ⟨a9, c9, g9, rfl, o9, p9, q9, by omega⟩, N8⟩
      | true =>
        have SPO := hide (l10Spoil_any w8 w.heap.size g a c xs _ S8 (hr.up N8) hne hb hl (by omega) (by omega) _ L w2.heap.size R8 z2 bz LB (by rw [HLL.out]; omega) (by rw [HLL.out]; omega))
        go_wp2_with fail
        refine SPO.out.mono ?_
        rintro e w9 ⟨zs, r, rfl, zb, zl, R9, n9⟩
        obtain ⟨a9, c9, g9, rfl, o9, p9, q9, r9⟩ := R9.own
        clear SPO
        have N9 := N8.trans n9
        rw [HLL.out] at zl
        go_wp2
        go_ret
        exact ⟨zs, zb, zl, ⟨a9, c9, g9, rfl, o9, p9, q9, by omega⟩, N9⟩
end Go.Proofs.YtakcpkfofgiehaaDoor
