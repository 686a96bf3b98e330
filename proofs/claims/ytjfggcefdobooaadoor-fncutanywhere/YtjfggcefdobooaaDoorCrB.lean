
/-
  Records cut: the first record; the program's firstRecord.
-/
import Derived.Test.YtjfggcefdobooaaDoorCrA
import Derived.Test.YtjfggcefdobooaaDoorRcB
import Derived.Test.YtjfggcefdobooaaDoorRgX
namespace Go.Proofs.YtjfggcefdobooaaDoor
set_option maxRecDepth 100000
open Go Go.RowKit

/-- A record at the front: kind, length, body; the error (none: it is whole). -/
def rcK (xs : List Int) : Int := beN xs 0 1
def rcN (xs : List Int) : Nat := (beN xs 1 2).toNat
def rcB (xs : List Int) : List Int := (xs.drop 3).take (rcN xs)
def rcE (a0 a1 a2 : Addr) (xs : List Int) : Option Addr := if xs.length = 0 then some a0 else if isK (rcK xs) = true then (if xs.length < 3 then some a0 else if 1 ≤ beN xs 1 2 ∧ beN xs 1 2 ≤ 2321 then (if (xs.length : Int) - 3 < beN xs 1 2 then some a0 else none) else some a2) else some a1
theorem iRcd : (Tryd.prog.info? 25).map (·.size) = some 2 := by kernel_rfl
theorem rowRcd : ∃ d, Tryd.prog.underlying 25 = some d ∧ d.isRow = true := ⟨_, Tryd.underlying25, rfl⟩
theorem oneRcd (k : Int) (a : Option Addr) (n c : Nat) : ([.int .i64 k, .slice a n c] : List Value).toArray.all (·.oneCell') = true := all_oneCell_toArray fun v hv => by
  simp only [List.mem_cons, List.not_mem_nil, or_false] at hv
  rcases hv with rfl | rfl
  all_goals rfl
/-- A list of its own; a kind and such a list. -/
def CRb (b : Nat) (D : List Int) : Fact := ⟨fun v w => RowB w b v D, fun n h => h.up n⟩
def CKd (b : Nat) (k : Int) (D : List Int) : Fact := ⟨fun v w => ∃ a c, v = .agg #[.int .i64 k, .slice a D.length c] ∧ RowB w b (.slice a D.length c) D, fun n h => by
  obtain ⟨a, c, e, r⟩ := h
  exact ⟨a, c, e, r.up n⟩⟩
set_option maxHeartbeats 8000000 in
theorem firstRecord_any (w : World) (g : Nat) (a : Option Addr) (c : Nat) (xs : List Int) (hr : Rd w g a .u8 xs) (hb : Byt xs) (hc : xs.length ≤ c) (hn : xs.length ≤ 1048576) (a0 a1 a2 : Addr) (h0 : Sen w 0 a0) (h1 : Sen w 1 a1) (h2 : Sen w 2 a2) :
    Calls Tryd.prog 20 #[.slice a xs.length c] w fun e w' => Below w.heap.size w w' ∧
      ((rcE a0 a1 a2 xs = none ∧ ∃ ad cd, e = .returned (.tuple #[.agg #[.int .i64 (rcK xs), .slice ad (rcB xs).length cd], .nilIface]) ∧ RowB w' w.heap.size (.slice ad (rcB xs).length cd) (rcB xs)) ∨ (∃ x, rcE a0 a1 a2 xs = some x ∧ e = .returned (.tuple #[.agg #[.int .i64 0, .slice none 0 0], erV x]))) := by
  obtain ⟨d1, hd1, hrow1⟩ := rowRcd
  have n0 : Below w.heap.size w (w.alloc (.cells #[.int .i64 0, .slice none 0 0] 25)) := (Below.refl _ _).alloc (Nat.le_refl _) _
  have Z0 : RwC (w.alloc (.cells #[.int .i64 0, .slice none 0 0] 25)) w.heap.size [.int .i64 0, .slice none 0 0] 25 := RwC.new w _ _
  have RH := hide fun W (m : Below w.heap.size w W) => readHead_any W g a c xs (hr.up m) hb hn a0 a1 (h0.up m) (h1.up m)
  have FA := hide fun W (m : Below w.heap.size w W) => fault_any W (beN xs 0 1) (beN xs 1 2) a1 a2 (h1.up m) (h2.up m)
  have eR : Hid (rcE a0 a1 a2 xs = if xs.length = 0 then some a0 else if isK (beN xs 0 1) = true then (if xs.length < 3 then some a0 else if 1 ≤ beN xs 1 2 ∧ beN xs 1 2 ≤ 2321 then (if (xs.length : Int) - 3 < beN xs 1 2 then some a0 else none) else some a2) else some a1) := rfl
  have eH : Hid (rhE a0 a1 xs = if xs.length = 0 then some a0 else if isK (beN xs 0 1) = true then (if xs.length < 3 then some a0 else none) else some a1) := rfl
  have eK : Hid (rcK xs = beN xs 0 1) := rfl
  go_enter Tryd.func20, Tryd.ntmps20
  go_wp2_with fail
  generalize w.alloc (.cells #[.int .i64 0, .slice none 0 0] 25) = wa at *
  have lZ := Z0.lt
  refine (RH.out wa n0).mono ?_
  rintro e w1 ⟨m1, hcase⟩
  have z1 := m1.size
  have N1 := nxt n0 m1
  have Z1 := Z0.up m1
  clear RH Z0 m1 n0
  rcases hcase with ⟨hh, rfl⟩ | ⟨x, hh, rfl⟩
  · rw [eH.out] at hh
    have g1 : xs.length ≠ 0 := fun h => by rw [if_pos h] at hh; cases hh
    rw [if_neg g1] at hh
    have g2 : isK (beN xs 0 1) = true := Classical.byContradiction fun h => by rw [if_neg h] at hh; cases hh
    rw [if_pos g2] at hh
    have g3 : ¬ xs.length < 3 := fun h => by rw [if_pos h] at hh; cases hh
    clear hh eH
    have n2 : Below w1.heap.size w1 (w1.alloc (.cells #[.int .i64 (beN xs 0 1), .int .i64 (beN xs 1 2)] 43)) := (Below.refl _ _).alloc (Nat.le_refl _) _
    have H2 : RwC (w1.alloc (.cells #[.int .i64 (beN xs 0 1), .int .i64 (beN xs 1 2)] 43)) w1.heap.size [.int .i64 (beN xs 0 1), .int .i64 (beN xs 1 2)] 43 := RwC.new w1 _ _
    have N2 := nxt N1 n2
    have Z2 := Z1.up n2
    have hnn := nil_neq
    clear N1 Z1 n2
    obtain ⟨v, hv⟩ : ∃ v, v = hfV a1 a2 (beN xs 0 1) (beN xs 1 2) := ⟨_, rfl⟩
    rw [← hv] at FA
    go_wp2_with fail
    generalize w1.alloc (.cells #[.int .i64 (beN xs 0 1), .int .i64 (beN xs 1 2)] 43) = w2 at *
    refine (FA.out w2 N2).mono ?_
    rintro e w3 ⟨rfl, m3⟩
    have N3 := nxt N2 m3
    have Z3 := Z2.up m3
    have H3 := H2.up m3
    have lH := H2.lt
    clear FA N2 Z2 H2
    by_cases hs : 1 ≤ beN xs 1 2 ∧ beN xs 1 2 ≤ 2321
    · have ev : v = .nilIface := by rw [hv, hfV, if_pos g2, if_pos hs]
      subst ev
      clear hv
      have NB := beN_rng hb 1 2
      obtain ⟨n, hnn2⟩ := Int.eq_ofNat_of_zero_le NB.1
      have rN : Hid (rcN xs = n) := by show (beN xs 1 2).toNat = n; rw [hnn2]; simp
      obtain ⟨off, ha, hcell⟩ := hr (by omega)
      subst ha
      rw [hnn2] at H3 hs eR
      have y0 := H3.c0
      have y1 := H3.c1
      have nb : (n : Int) ≤ 2321 := hs.2
      have l3 : (3 : Int) ≤ (xs.length : Int) := by omega
      have c3 : (3 : Int) ≤ (c : Int) := by omega
      by_cases hw : (xs.length : Int) - 3 < (n : Int)
      · have e1 : Hid (rcE a0 a1 a2 xs = some a0) := by show _ = _; rw [eR.out, if_neg g1, if_pos g2, if_neg g3, if_pos hs, if_pos hw]
        have cl : ((xs.length - 3 : Nat) : Int) = (xs.length : Int) - 3 := by omega
        have w1' : decide (((xs.length - 3 : Nat) : Int) < (n : Int)) = true := by simp; omega
        have w2' : decide ((xs.length : Int) - 3 < (n : Int)) = true := by simpa using hw
        clear eR hs hnn2 NB
        have ZF : RwC ((w3.setCell ⟨w.heap.size, 0, none⟩ (.int .i64 0)).setCell ⟨w.heap.size, 1, none⟩ (.slice none 0 0)) w.heap.size [.int .i64 0, .slice none 0 0] 25 := (Z3.set 0 _).set 1 _
        have OF : Only w.heap.size w3 ((w3.setCell ⟨w.heap.size, 0, none⟩ (.int .i64 0)).setCell ⟨w.heap.size, 1, none⟩ (.slice none 0 0)) := (Only.setCell _ w.heap.size 0 _).trans (Only.setCell _ w.heap.size 1 _)
        have RR := ZF.rangeG
        have NF := N3.trans (OF.below (B := w.heap.size) (Nat.le_refl _))
        have x0 := Z3.c0
        have x1 := Z3.c1
        have f0 := Z3.free 0
        have f1 := Z3.free 1
        have cg := (h0.up N3).c
        unfold erV at cg
        have kg : ((w3.setCell ⟨w.heap.size, 0, none⟩ (.int .i64 0)).setCell ⟨w.heap.size, 1, none⟩ (.slice none 0 0)).cell? ⟨0, 0, none⟩ = some (.iface 80 (.pointer (some a0))) := (World.cell?_of_block (a := ⟨0, 0, none⟩) (OF.block 0 (by have : 0 < w.heap.size := block_lt_of_cell h0.c; omega))).trans cg
        clear OF ZF hcell hr
        go_upto_region 8 with fail
        obtain ⟨ad, had⟩ : ∃ ad, ad = (if c = 3 then (some ⟨g, off, none⟩ : Option Addr) else some ⟨g, off + 3, none⟩) := ⟨_, rfl⟩
        rw [← had]
        clear had
        go_wp2
        go_region
        all_goals
          go_wp2
          exact bodyPost_ret (v := .tuple #[.agg #[.int .i64 0, .slice none 0 0], erV a0]) (results_twoC Tryd.results20 _ _ w.heap.size [.int .i64 0, .slice none 0 0] d1 (erV a0) rfl rfl RR hd1 hrow1 iRcd) rfl ⟨NF.drew, .inr ⟨a0, e1.out, rfl⟩⟩
      · have e1 : Hid (rcE a0 a1 a2 xs = none) := by show _ = _; rw [eR.out, if_neg g1, if_pos g2, if_neg g3, if_pos hs, if_neg hw]
        have w1' : decide (((xs.length - 3 : Nat) : Int) < (n : Int)) = false := by simp; omega
        have w2' : decide ((xs.length : Int) - 3 < (n : Int)) = false := by simpa using hw
        have w3' : decide (xs.length - 3 < n) = false := by simp; omega
        have bl : Hid ((rcB xs).length = n) := by show _ = _; unfold rcB; rw [List.length_take, List.length_drop, rN.out]; omega
        have bd : Hid (rcB xs = (xs.drop 3).take n) := by show _ = _; unfold rcB; rw [rN.out]
        have hkd := eK.out
        go_upto_region 8 with fail
        obtain ⟨ad, had⟩ : ∃ ad : Option Addr, ad = some ⟨g, off + 3, none⟩ := ⟨_, rfl⟩
        rw [← had]
        have RD : Rd w3 g ad .u8 (rcB xs) := fun _ => ⟨off + 3, had, fun i hi => by
          rw [bl.out] at hi
          have hr3 := hr.up N3
          obtain ⟨off', ho, hc'⟩ := hr3 (by omega)
          simp only [Option.some.injEq, Addr.mk.injEq, true_and, and_true] at ho
          subst ho
          rw [Nat.add_assoc, hc' (3 + i) (by omega), bd.out, List.getD_eq_getElem?_getD, List.getD_eq_getElem?_getD, List.getElem?_take, if_pos hi, List.getElem?_drop]⟩
        have nc : (n : Int) ≤ ((c - 3 : Nat) : Int) := by omega
        have adn : ad = none → c - 3 = 0 := fun h => by rw [had] at h; cases h
        clear hcell hr hs hnn2 NB eR had hw g1 g2 g3 eK
        have nd : Below w3.heap.size w3 w3.drew := (Below.refl _ _).drew
        have lw3 : w.heap.size < w3.heap.size := Z3.lt
        go_upto_region 10 with fail
        have g0 := block_lt_of_cell y0
        have g1 := block_lt_of_cell y1
        refine region_putA 8 7 2 38 3 .nilIface _ _ (fun i => [Fact.eq (.pointer (some ⟨w1.heap.size, 0, none⟩)), Fact.eq (.int .i64 (beN xs 0 1)), Fact.eq (.slice ad (xs.length - 3) (c - 3)), Fact.eq (.pointer (some ⟨w1.heap.size, 1, none⟩)), Fact.eq (.int .i64 (n : Int)), Fact.eq (.slice ad n (c - 3)), CRb w3.heap.size (rcB xs), CKd w3.heap.size (beN xs 0 1) (rcB xs)].getD i Fact.no) 25 [.int .i64 0, .slice none 0 0] w.heap.size (CKd w3.heap.size (beN xs 0 1) (rcB xs)) (by kernel_rfl) (by kernel_rfl) rfl rfl rfl rfl rfl (by simp) rfl iRcd ?_ Z3 ⟨by kernel_rfl, by kernel_rfl⟩ rfl ?_ ?_ ?_
        · intro A hb
          exact hb.2.2 2 (by kernel_rfl)
        · rintro v W ⟨ad, cd, rfl, -⟩
          exact ⟨[.int .i64 (beN xs 0 1), .slice ad (rcB xs).length cd], rfl, rfl, oneRcd _ _ _ _⟩
        · intro i hi
          obtain rfl | rfl | rfl | rfl | rfl | rfl | rfl | rfl : i = 0 ∨ i = 1 ∨ i = 2 ∨ i = 3 ∨ i = 4 ∨ i = 5 ∨ i = 6 ∨ i = 7 := by omega
          · refine step_pure rfl fun A ww hb hw hf => ?_
            have e0 : A.tmps[4]?.getD undef = .pointer (some ⟨w1.heap.size, 0, none⟩) := gdv (hb.2.2 4 (by kernel_rfl))
            exact ⟨.pointer (some ⟨w1.heap.size, 0, none⟩), by simp [go_sem, e0], rfl⟩
          · refine step_pure rfl fun A ww hb hw hf => ?_
            have e0 : A.tmps[31]?.getD undef = .pointer (some ⟨w1.heap.size, 0, none⟩) := gdv (hf 0 31 (by kernel_rfl))
            have hc : ww.cell? ⟨w1.heap.size, 0, none⟩ = some (.int .i64 (beN xs 0 1)) := (World.cell?_of_block (a := ⟨w1.heap.size, 0, none⟩) (hw.block w1.heap.size g0)).trans y0
            exact ⟨.int .i64 (beN xs 0 1), by simp [go_sem, e0, hc], rfl⟩
          · refine step_pure rfl fun A ww hb hw hf => ?_
            have e0 : A.tmps[6]?.getD undef = .slice ad (xs.length - 3) (c - 3) := gdv (hb.2.2 6 (by kernel_rfl))
            exact ⟨_, by simp [go_sem, e0], rfl⟩
          · refine step_pure rfl fun A ww hb hw hf => ?_
            have e0 : A.tmps[4]?.getD undef = .pointer (some ⟨w1.heap.size, 0, none⟩) := gdv (hb.2.2 4 (by kernel_rfl))
            exact ⟨.pointer (some ⟨w1.heap.size, 1, none⟩), by simp [go_sem, e0], rfl⟩
          · refine step_pure rfl fun A ww hb hw hf => ?_
            have e0 : A.tmps[34]?.getD undef = .pointer (some ⟨w1.heap.size, 1, none⟩) := gdv (hf 3 34 (by kernel_rfl))
            have hc : ww.cell? ⟨w1.heap.size, 1, none⟩ = some (.int .i64 (n : Int)) := (World.cell?_of_block (a := ⟨w1.heap.size, 1, none⟩) (hw.block w1.heap.size g1)).trans y1
            exact ⟨.int .i64 (n : Int), by simp [go_sem, e0, hc], rfl⟩
          · refine step_pure rfl fun A ww hb hw hf => ?_
            have e0 : A.tmps[33]?.getD undef = .slice ad (xs.length - 3) (c - 3) := gdv (hf 2 33 (by kernel_rfl))
            have e1 : A.tmps[35]?.getD undef = .int .i64 (n : Int) := gdv (hf 4 35 (by kernel_rfl))
            exact ⟨.slice ad n (c - 3), by simp [go_sem, e0, e1]; omega, rfl⟩
          · refine step_callv rfl 22 _ _ rfl (by kernel_rfl) fun A ww hb hw hf => ?_
            have e6 : A.tmps.getD 36 undef = .slice ad n (c - 3) := hf 5 36 (by kernel_rfl)
            show Calls Tryd.prog 22 #[A.tmps.getD 36 undef] ww _
            rw [e6]
            have hw0 := hw
            have CL := cloneR_any ww g ad (c - 3) (rcB xs) (RD.up hw0) adn (by rw [bl.out]; omega)
            rw [bl.out] at CL
            refine CL.mono ?_
            rintro r w' ⟨x, rfl, R, l⟩
            exact ⟨x, rfl, l, R.base hw0.size⟩
          · refine step_pure rfl fun A ww hb hw hf => ?_
            have e0 : A.tmps[32]?.getD undef = .int .i64 (beN xs 0 1) := gdv (hf 1 32 (by kernel_rfl))
            have r8 : RowB ww w3.heap.size (A.tmps.getD 37 undef) (rcB xs) := hf 6 37 (by kernel_rfl)
            obtain ⟨ad, cd, gd, ev, -⟩ := r8.own
            rw [ev] at r8
            have e1 : A.tmps[37]?.getD undef = .slice ad (rcB xs).length cd := gdv ev
            refine ⟨.agg #[.int .i64 (beN xs 0 1), .slice ad (rcB xs).length cd], ?_, ad, cd, rfl, r8⟩
            simp [go_sem, e0, e1]
        · intro vs W W5 cs v3 hW rq hG OQ rc
          obtain ⟨ad, cd, ec, rd⟩ := hG
          simp only [Value.agg.injEq, Array.mk.injEq] at ec
          subst ec
          have R9 := rd.only OQ (by omega)
          have RR := rc.rangeG
          have NF := (nxt N3 hW).trans (OQ.below (B := w.heap.size) (Nat.le_refl _))
          clear OQ
          simp only [puts, v3, Act.put, List.setIfInBounds_toArray, List.set_cons_succ, List.set_cons_zero]
          go_wp2
          exact bodyPost_ret (v := .tuple #[.agg #[.int .i64 (beN xs 0 1), .slice ad (rcB xs).length cd], .nilIface]) (results_twoC Tryd.results20 _ _ w.heap.size [.int .i64 (beN xs 0 1), .slice ad (rcB xs).length cd] d1 .nilIface rfl rfl RR hd1 hrow1 iRcd) rfl ⟨NF, .inl ⟨e1.out, ad, cd, rfl, R9.base (by omega)⟩⟩
    · have ev : v = .iface 80 (.pointer (some a2)) := by rw [hv, hfV, if_pos g2, if_neg hs]; rfl
      have e1 : Hid (rcE a0 a1 a2 xs = some a2) := by show _ = _; rw [eR.out, if_neg g1, if_pos g2, if_neg g3, if_neg hs]
      subst ev
      clear hv hs eR hr
      have ZF : RwC ((w3.setCell ⟨w.heap.size, 0, none⟩ (.int .i64 0)).setCell ⟨w.heap.size, 1, none⟩ (.slice none 0 0)) w.heap.size [.int .i64 0, .slice none 0 0] 25 := (Z3.set 0 _).set 1 _
      have OF : Only w.heap.size w3 ((w3.setCell ⟨w.heap.size, 0, none⟩ (.int .i64 0)).setCell ⟨w.heap.size, 1, none⟩ (.slice none 0 0)) := (Only.setCell _ w.heap.size 0 _).trans (Only.setCell _ w.heap.size 1 _)
      have RR := ZF.rangeG
      have NF := N3.trans (OF.below (B := w.heap.size) (Nat.le_refl _))
      have x0 := Z3.c0
      have x1 := Z3.c1
      have f0 := Z3.free 0
      have f1 := Z3.free 1
      have he := er_neq a2
      clear OF ZF
      go_wp2
      exact bodyPost_ret (v := .tuple #[.agg #[.int .i64 0, .slice none 0 0], erV a2]) (results_twoC Tryd.results20 _ _ w.heap.size [.int .i64 0, .slice none 0 0] d1 (erV a2) rfl rfl RR hd1 hrow1 iRcd) rfl ⟨NF, .inr ⟨a2, e1.out, rfl⟩⟩
  · have e1 : Hid (rcE a0 a1 a2 xs = some x) := by
      show _ = _
      rw [← hh, eR.out, eH.out]
      by_cases g1 : xs.length = 0
      · rw [if_pos g1, if_pos g1]
      · rw [if_neg g1, if_neg g1]
        by_cases g2 : isK (beN xs 0 1) = true
        · rw [if_pos g2, if_pos g2]
          by_cases g3 : xs.length < 3
          · rw [if_pos g3, if_pos g3]
          · rw [eH.out, if_neg g1, if_pos g2, if_neg g3] at hh
            cases hh
        · rw [if_neg g2, if_neg g2]
    have n2 : Below w1.heap.size w1 (w1.alloc (.cells #[.int .i64 0, .int .i64 0] 43)) := (Below.refl _ _).alloc (Nat.le_refl _) _
    have N2 := nxt N1 n2
    have Z2 := Z1.up n2
    have he := er_neq x
    clear N1 Z1 n2 FA eR eH hh hr
    unfold erV
    go_upto_region 3 with fail
    generalize w1.alloc (.cells #[.int .i64 0, .int .i64 0] 43) = w2 at *
    have ZF : RwC ((w2.setCell ⟨w.heap.size, 0, none⟩ (.int .i64 0)).setCell ⟨w.heap.size, 1, none⟩ (.slice none 0 0)) w.heap.size [.int .i64 0, .slice none 0 0] 25 := (Z2.set 0 _).set 1 _
    have OF : Only w.heap.size w2 ((w2.setCell ⟨w.heap.size, 0, none⟩ (.int .i64 0)).setCell ⟨w.heap.size, 1, none⟩ (.slice none 0 0)) := (Only.setCell _ w.heap.size 0 _).trans (Only.setCell _ w.heap.size 1 _)
    have RR := ZF.rangeG
    have NF := N2.trans (OF.below (B := w.heap.size) (Nat.le_refl _))
    have x0 := Z2.c0
    have x1 := Z2.c1
    have f0 := Z2.free 0
    have f1 := Z2.free 1
    clear OF ZF
    go_wp2
    exact bodyPost_ret (v := .tuple #[.agg #[.int .i64 0, .slice none 0 0], erV x]) (results_twoC Tryd.results20 _ _ w.heap.size [.int .i64 0, .slice none 0 0] d1 (erV x) rfl rfl RR hd1 hrow1 iRcd) rfl ⟨NF, .inr ⟨x, e1.out, rfl⟩⟩
end Go.Proofs.YtjfggcefdobooaaDoor
