import Derived.Test.YtjfggcefdobooaaGreatDoorGR43
import Derived.Test.YtjfggcefdobooaaGreatDoorGR42
import Derived.Test.YtjfggcefdobooaaGreatDoorGR4
import Derived.Test.YtjfggcefdobooaaGreatDoorGR31
import Derived.Deep.Cut
import Derived.Test.YtjfggcefdobooaaGreatDoorGR2
import Derived.Test.YtjfggcefdobooaaGreatDoorGR3
import Derived.Test.YtjfggcefdobooaaGreatDoorGR21
import Derived.ChangeKeysEq
namespace Go.Proofs.YtjfggcefdobooaaGreatDoor
set_option maxRecDepth 100000
open Go Go.RowKit
section
variable {P : Program} {ops : Array Oper} {Q : Exit → Act → World → Prop}
theorem region_putA {a0 : Act} {id : Nat} {draw : Bool} {w : World} (k jV pA pV d2 : Nat) (cv : Value) (o o2 : Oper) (F : Nat → Fact) (t : TypeId) (zs : List Value) (q : Nat) (G : Fact) (hm : P.follows .mixedOrders = true) (hT : textTail .any draw ops a0.tmps.size k = true) (hk : ops.toList.drop k = [o, o2]) (ho2 : ops[k + 1]? = some o2) (hd : o.dst = none) (hd2 : o2.dst = some d2) (hop2 : o2.op = .assign (.const cv)) (s2 : d2 < a0.tmps.size)
    (hop : o.op = .store t (.tmp pA) (.tmp pV)) (hi : (P.info? t).map (·.size) = some zs.length) (hA : ∀ a, Based ops a0 a → a.tmps.getD pA undef = .pointer (some ⟨q, 0, none⟩)) (hq : RwC w q zs t) (wV : decide (jV < k) = true ∧ writes ops jV pV = true) (FV : F jV = G)
    (hG : ∀ v W, G.p v W → ∃ cs : List Value, v = .agg cs.toArray ∧ cs.length = zs.length ∧ cs.toArray.all (·.oneCell') = true) (steps : ∀ i, i < k → StepOk P .any ops Q F a0 w i)
    (fin : ∀ (vs : Nat → Value) (W W' : World) (cs : List Value), vs d2 = cv → Below w.heap.size w W → RwC W q zs t → G.p (.agg cs.toArray) W → Only q W W' → RwC W' q cs t → Q .normal (puts vs a0 ops.toList) W') : (Code.region id ops draw).wp P Q a0 w := by
  refine region_tail k F hm hT steps [] (by simp) (by simp) fun a W hb hw hf _ => ?_
  rw [hk]
  show o.wp P a W (fun a' w'' => o2.wp P a' w'' (fun a'' w3 => Q .normal a'' w3) Q) Q
  have e1 := hA a hb
  have e2 := hf jV pV wV.1 wV.2
  rw [FV] at e2
  obtain ⟨cs, ev, hl, h1⟩ := hG _ _ e2
  have hq' := hq.up hw
  have TH : W.there q 0 cs.length := by rw [hl]; exact hq'.thereG
  refine wp_store_mid _ (.tmp pA) (.tmp pV) hop q 0 cs.toArray e1 ev (by simpa using TH) (by rw [hi]; simp [hl]) h1 ?_
  rw [hd]
  show o2.wp P a _ (fun a'' w3 => Q .normal a'' w3) Q
  have hr2 : (execOp a.eval o2).run P (W.setCells q 0 cs) = .ok (.value cv) (W.setCells q 0 cs) := by simp [execOp, hop2, Act.eval]
  have hb2 := Based.put hb ho2 cv
  unfold Oper.wp
  rw [hr2, Oper.upon_value]
  show Q .normal (a.put o2.dst cv) _
  have e3 : (a.put o2.dst cv).tmps.getD d2 undef = cv := by
    rw [hd2]
    exact put_at (by rw [hb.2.1]; exact s2)
  obtain ⟨vs, hvs⟩ : ∃ vs : Nat → Value, ∀ d, (a.put o2.dst cv).tmps.getD d undef = vs d := ⟨_, fun _ => rfl⟩
  rw [puts_tail hT rfl hb2 vs hvs]
  have OQ := only_setG W q cs 0
  have e2' : G.p (.agg cs.toArray) W := by rw [← ev]; exact e2
  exact fin vs W _ cs (by rw [← hvs, e3]) hw hq' e2' OQ (RwC.put hq' hl)
end
end Go.Proofs.YtjfggcefdobooaaGreatDoor
namespace Go.Proofs.YtjfggcefdobooaaGreatDoor
set_option maxRecDepth 100000
open Go Go.RowKit
def rcK (xs : List Int) : Int := beN xs 0 1
def rcN (xs : List Int) : Nat := (beN xs 1 2).toNat
def rcB (xs : List Int) : List Int := (xs.drop 3).take (rcN xs)
def rcE (a0 a1 a2 : Addr) (xs : List Int) : Option Addr := if xs.length = 0 then some a0 else if isK (rcK xs) = true then (if xs.length < 3 then some a0 else if 1 ≤ beN xs 1 2 ∧ beN xs 1 2 ≤ 2321 then (if (xs.length : Int) - 3 < beN xs 1 2 then some a0 else none) else some a2) else some a1
theorem iRcd : (Tryz.prog.info? 31).map (·.size) = some 2 := by kernel_rfl
theorem rowRcd : ∃ d, Tryz.prog.underlying 31 = some d ∧ d.isRow = true := ⟨_, Tryz.underlying31, rfl⟩
theorem oneRcd (k : Int) (a : Option Addr) (n c : Nat) : ([.int .i64 k, .slice a n c] : List Value).toArray.all (·.oneCell') = true := all_oneCell_toArray fun v hv => by
  simp only [List.mem_cons, List.not_mem_nil, or_false] at hv
  rcases hv with rfl | rfl
  all_goals rfl
def CRb (b : Nat) (D : List Int) : Fact := ⟨fun v w => RowB w b v D, fun n h => h.up n⟩
def CKd (b : Nat) (k : Int) (D : List Int) : Fact := ⟨fun v w => ∃ a c, v = .agg #[.int .i64 k, .slice a D.length c] ∧ RowB w b (.slice a D.length c) D, fun n h => by
  obtain ⟨a, c, e, r⟩ := h
  exact ⟨a, c, e, r.up n⟩⟩
set_option maxHeartbeats 8000000 in
theorem firstRecord_any (w : World) (g : Nat) (a : Option Addr) (c : Nat) (xs : List Int) (hr : Rd w g a .u8 xs) (hb : Byt xs) (hc : xs.length ≤ c) (hn : xs.length ≤ 1048576) (a0 a1 a2 : Addr) (h0 : Sen w 0 a0) (h1 : Sen w 1 a1) (h2 : Sen w 5 a2) :
    Calls Tryz.prog 31 #[.slice a xs.length c] w fun e w' => Below w.heap.size w w' ∧
      ((rcE a0 a1 a2 xs = none ∧ ∃ ad cd, e = .returned (.tuple #[.agg #[.int .i64 (rcK xs), .slice ad (rcB xs).length cd], .nilIface]) ∧ RowB w' w.heap.size (.slice ad (rcB xs).length cd) (rcB xs)) ∨ (∃ x, rcE a0 a1 a2 xs = some x ∧ e = .returned (.tuple #[.agg #[.int .i64 0, .slice none 0 0], erV x]))) := by
  obtain ⟨d1, hd1, hrow1⟩ := rowRcd
  have n0 : Below w.heap.size w (w.alloc (.cells #[.int .i64 0, .slice none 0 0] 31)) := (Below.refl _ _).alloc (Nat.le_refl _) _
  have Z0 : RwC (w.alloc (.cells #[.int .i64 0, .slice none 0 0] 31)) w.heap.size [.int .i64 0, .slice none 0 0] 31 := RwC.new w _ _
  have RH := hide fun W (m : Below w.heap.size w W) => readHead_any W g a c xs (hr.up m) hb hn a0 a1 (h0.up m) (h1.up m)
  have FA := hide fun W (m : Below w.heap.size w W) => fault_any W (beN xs 0 1) (beN xs 1 2) a1 a2 (h1.up m) (h2.up m)
  have eR : Hid (rcE a0 a1 a2 xs = if xs.length = 0 then some a0 else if isK (beN xs 0 1) = true then (if xs.length < 3 then some a0 else if 1 ≤ beN xs 1 2 ∧ beN xs 1 2 ≤ 2321 then (if (xs.length : Int) - 3 < beN xs 1 2 then some a0 else none) else some a2) else some a1) := rfl
  have eH : Hid (rhE a0 a1 xs = if xs.length = 0 then some a0 else if isK (beN xs 0 1) = true then (if xs.length < 3 then some a0 else none) else some a1) := rfl
  have eK : Hid (rcK xs = beN xs 0 1) := rfl
  go_enter Tryz.func31, Tryz.ntmps31
  go_wp2_with fail
  generalize w.alloc (.cells #[.int .i64 0, .slice none 0 0] 31) = wa at *
  have lZ := Z0.lt
  refine (RH.out wa n0).mono ?_
  rintro e w1 ⟨m1, hcase⟩
  have z1 := m1.size
  have N1 := nxt n0 m1
  have Z1 := Z0.up m1
  clear RH Z0 m1 n0
  rcases hcase with ⟨hh, rfl⟩ | ⟨x, hh, rfl⟩
  · rw [eH.out] at hh
    have g1 : xs.length ≠ 0 := fun h => by rw [if_pos h] at hh; cases hh
    rw [if_neg g1] at hh
    have g2 : isK (beN xs 0 1) = true := Classical.byContradiction fun h => by rw [if_neg h] at hh; cases hh
    rw [if_pos g2] at hh
    have g3 : ¬ xs.length < 3 := fun h => by rw [if_pos h] at hh; cases hh
    clear hh eH
    have n2 : Below w1.heap.size w1 (w1.alloc (.cells #[.int .i64 (beN xs 0 1), .int .i64 (beN xs 1 2)] 55)) := (Below.refl _ _).alloc (Nat.le_refl _) _
    have H2 : RwC (w1.alloc (.cells #[.int .i64 (beN xs 0 1), .int .i64 (beN xs 1 2)] 55)) w1.heap.size [.int .i64 (beN xs 0 1), .int .i64 (beN xs 1 2)] 55 := RwC.new w1 _ _
    have N2 := nxt N1 n2
    have Z2 := Z1.up n2
    have hnn := nil_neq
    clear N1 Z1 n2
    obtain ⟨v, hv⟩ : ∃ v, v = hfV a1 a2 (beN xs 0 1) (beN xs 1 2) := ⟨_, rfl⟩
    rw [← hv] at FA
    go_wp2_with fail
    generalize w1.alloc (.cells #[.int .i64 (beN xs 0 1), .int .i64 (beN xs 1 2)] 55) = w2 at *
    refine (FA.out w2 N2).mono ?_
    rintro e w3 ⟨rfl, m3⟩
    have N3 := nxt N2 m3
    have Z3 := Z2.up m3
    have H3 := H2.up m3
    have lH := H2.lt
    clear FA N2 Z2 H2
    by_cases hs : 1 ≤ beN xs 1 2 ∧ beN xs 1 2 ≤ 2321
    · have ev : v = .nilIface := by rw [hv, hfV, if_pos g2, if_pos hs]
      subst ev
      clear hv
      have NB := beN_rng hb 1 2
      obtain ⟨n, hnn2⟩ := Int.eq_ofNat_of_zero_le NB.1
      have rN : Hid (rcN xs = n) := by show (beN xs 1 2).toNat = n; rw [hnn2]; simp
      obtain ⟨off, ha, hcell⟩ := hr (by omega)
      subst ha
      rw [hnn2] at H3 hs eR
      have y0 := H3.c0
      have y1 := H3.c1
      have nb : (n : Int) ≤ 2321 := hs.2
      have l3 : (3 : Int) ≤ (xs.length : Int) := by omega
      have c3 : (3 : Int) ≤ (c : Int) := by omega
      by_cases hw : (xs.length : Int) - 3 < (n : Int)
      · have e1 : Hid (rcE a0 a1 a2 xs = some a0) := by show _ = _; rw [eR.out, if_neg g1, if_pos g2, if_neg g3, if_pos hs, if_pos hw]
        have cl : ((xs.length - 3 : Nat) : Int) = (xs.length : Int) - 3 := by omega
        have w1' : decide (((xs.length - 3 : Nat) : Int) < (n : Int)) = true := by simp; omega
        have w2' : decide ((xs.length : Int) - 3 < (n : Int)) = true := by simpa using hw
        clear eR hs hnn2 NB
        have ZF : RwC ((w3.setCell ⟨w.heap.size, 0, none⟩ (.int .i64 0)).setCell ⟨w.heap.size, 1, none⟩ (.slice none 0 0)) w.heap.size [.int .i64 0, .slice none 0 0] 31 := (Z3.set 0 _).set 1 _
        have OF : Only w.heap.size w3 ((w3.setCell ⟨w.heap.size, 0, none⟩ (.int .i64 0)).setCell ⟨w.heap.size, 1, none⟩ (.slice none 0 0)) := (Only.setCell _ w.heap.size 0 _).trans (Only.setCell _ w.heap.size 1 _)
        have RR := ZF.rangeG
        have NF := N3.trans (OF.below (B := w.heap.size) (Nat.le_refl _))
        have x0 := Z3.c0
        have x1 := Z3.c1
        have f0 := Z3.free 0
        have f1 := Z3.free 1
        have cg := (h0.up N3).c
        unfold erV at cg
        have kg : ((w3.setCell ⟨w.heap.size, 0, none⟩ (.int .i64 0)).setCell ⟨w.heap.size, 1, none⟩ (.slice none 0 0)).cell? ⟨0, 0, none⟩ = some (.iface 175 (.pointer (some a0))) := (World.cell?_of_block (a := ⟨0, 0, none⟩) (OF.block 0 (by have : 0 < w.heap.size := block_lt_of_cell h0.c; omega))).trans cg
        clear OF ZF hcell hr
        go_upto_region 8 with fail
        obtain ⟨ad, had⟩ : ∃ ad, ad = (if c = 3 then (some ⟨g, off, none⟩ : Option Addr) else some ⟨g, off + 3, none⟩) := ⟨_, rfl⟩
        rw [← had]
        clear had
        go_wp2
        go_region
        all_goals
          go_wp2
          exact bodyPost_ret (v := .tuple #[.agg #[.int .i64 0, .slice none 0 0], erV a0]) (results_twoC Tryz.results31 _ _ w.heap.size [.int .i64 0, .slice none 0 0] d1 (erV a0) rfl rfl RR hd1 hrow1 iRcd) rfl ⟨NF.drew, .inr ⟨a0, e1.out, rfl⟩⟩
      · have e1 : Hid (rcE a0 a1 a2 xs = none) := by show _ = _; rw [eR.out, if_neg g1, if_pos g2, if_neg g3, if_pos hs, if_neg hw]
        have w1' : decide (((xs.length - 3 : Nat) : Int) < (n : Int)) = false := by simp; omega
        have w2' : decide ((xs.length : Int) - 3 < (n : Int)) = false := by simpa using hw
        have w3' : decide (xs.length - 3 < n) = false := by simp; omega
        have bl : Hid ((rcB xs).length = n) := by show _ = _; unfold rcB; rw [List.length_take, List.length_drop, rN.out]; omega
        have bd : Hid (rcB xs = (xs.drop 3).take n) := by show _ = _; unfold rcB; rw [rN.out]
        have hkd := eK.out
        go_upto_region 8 with fail
        obtain ⟨ad, had⟩ : ∃ ad : Option Addr, ad = some ⟨g, off + 3, none⟩ := ⟨_, rfl⟩
        rw [← had]
        have RD : Rd w3 g ad .u8 (rcB xs) := fun _ => ⟨off + 3, had, fun i hi => by
          rw [bl.out] at hi
          have hr3 := hr.up N3
          obtain ⟨off', ho, hc'⟩ := hr3 (by omega)
          simp only [Option.some.injEq, Addr.mk.injEq, true_and, and_true] at ho
          subst ho
          rw [Nat.add_assoc, hc' (3 + i) (by omega), bd.out, List.getD_eq_getElem?_getD, List.getD_eq_getElem?_getD, List.getElem?_take, if_pos hi, List.getElem?_drop]⟩
        have nc : (n : Int) ≤ ((c - 3 : Nat) : Int) := by omega
        have adn : ad = none → c - 3 = 0 := fun h => by rw [had] at h; cases h
        clear hcell hr hs hnn2 NB eR had hw g1 g2 g3 eK
        have nd : Below w3.heap.size w3 w3.drew := (Below.refl _ _).drew
        have lw3 : w.heap.size < w3.heap.size := Z3.lt
        go_upto_region 10 with fail
        have g0 := block_lt_of_cell y0
        have g1 := block_lt_of_cell y1
        refine region_putA 8 7 2 38 3 .nilIface _ _ (fun i => [Fact.eq (.pointer (some ⟨w1.heap.size, 0, none⟩)), Fact.eq (.int .i64 (beN xs 0 1)), Fact.eq (.slice ad (xs.length - 3) (c - 3)), Fact.eq (.pointer (some ⟨w1.heap.size, 1, none⟩)), Fact.eq (.int .i64 (n : Int)), Fact.eq (.slice ad n (c - 3)), CRb w3.heap.size (rcB xs), CKd w3.heap.size (beN xs 0 1) (rcB xs)].getD i Fact.no) 31 [.int .i64 0, .slice none 0 0] w.heap.size (CKd w3.heap.size (beN xs 0 1) (rcB xs)) (by kernel_rfl) (by kernel_rfl) rfl rfl rfl rfl rfl (by simp) rfl iRcd ?_ Z3 ⟨by kernel_rfl, by kernel_rfl⟩ rfl ?_ ?_ ?_
        · intro A hb
          exact hb.2.2 2 (by kernel_rfl)
        · rintro v W ⟨ad, cd, rfl, -⟩
          exact ⟨[.int .i64 (beN xs 0 1), .slice ad (rcB xs).length cd], rfl, rfl, oneRcd _ _ _ _⟩
        · intro i hi
          obtain rfl | rfl | rfl | rfl | rfl | rfl | rfl | rfl : i = 0 ∨ i = 1 ∨ i = 2 ∨ i = 3 ∨ i = 4 ∨ i = 5 ∨ i = 6 ∨ i = 7 := by omega
          · refine step_pure rfl fun A ww hb hw hf => ?_
            have e0 : A.tmps[4]?.getD undef = .pointer (some ⟨w1.heap.size, 0, none⟩) := gdv (hb.2.2 4 (by kernel_rfl))
            exact ⟨.pointer (some ⟨w1.heap.size, 0, none⟩), by simp [go_sem, e0], rfl⟩
          · refine step_pure rfl fun A ww hb hw hf => ?_
            have e0 : A.tmps[31]?.getD undef = .pointer (some ⟨w1.heap.size, 0, none⟩) := gdv (hf 0 31 (by kernel_rfl))
            have hc : ww.cell? ⟨w1.heap.size, 0, none⟩ = some (.int .i64 (beN xs 0 1)) := (World.cell?_of_block (a := ⟨w1.heap.size, 0, none⟩) (hw.block w1.heap.size g0)).trans y0
            exact ⟨.int .i64 (beN xs 0 1), by simp [go_sem, e0, hc], rfl⟩
          · refine step_pure rfl fun A ww hb hw hf => ?_
            have e0 : A.tmps[6]?.getD undef = .slice ad (xs.length - 3) (c - 3) := gdv (hb.2.2 6 (by kernel_rfl))
            exact ⟨_, by simp [go_sem, e0], rfl⟩
          · refine step_pure rfl fun A ww hb hw hf => ?_
            have e0 : A.tmps[4]?.getD undef = .pointer (some ⟨w1.heap.size, 0, none⟩) := gdv (hb.2.2 4 (by kernel_rfl))
            exact ⟨.pointer (some ⟨w1.heap.size, 1, none⟩), by simp [go_sem, e0], rfl⟩
          · refine step_pure rfl fun A ww hb hw hf => ?_
            have e0 : A.tmps[34]?.getD undef = .pointer (some ⟨w1.heap.size, 1, none⟩) := gdv (hf 3 34 (by kernel_rfl))
            have hc : ww.cell? ⟨w1.heap.size, 1, none⟩ = some (.int .i64 (n : Int)) := (World.cell?_of_block (a := ⟨w1.heap.size, 1, none⟩) (hw.block w1.heap.size g1)).trans y1
            exact ⟨.int .i64 (n : Int), by simp [go_sem, e0, hc], rfl⟩
          · refine step_pure rfl fun A ww hb hw hf => ?_
            have e0 : A.tmps[33]?.getD undef = .slice ad (xs.length - 3) (c - 3) := gdv (hf 2 33 (by kernel_rfl))
            have e1 : A.tmps[35]?.getD undef = .int .i64 (n : Int) := gdv (hf 4 35 (by kernel_rfl))
            exact ⟨.slice ad n (c - 3), by simp [go_sem, e0, e1]; omega, rfl⟩
          · refine step_callv rfl 33 _ _ rfl (by kernel_rfl) fun A ww hb hw hf => ?_
            have e6 : A.tmps.getD 36 undef = .slice ad n (c - 3) := hf 5 36 (by kernel_rfl)
            show Calls Tryz.prog 33 #[A.tmps.getD 36 undef] ww _
            rw [e6]
            have hw0 := hw
            have CL := cloneR_any ww g ad (c - 3) (rcB xs) (RD.up hw0) adn (by rw [bl.out]; omega)
            rw [bl.out] at CL
            refine CL.mono ?_
            rintro r w' ⟨x, rfl, R, l⟩
            exact ⟨x, rfl, l, R.base hw0.size⟩
          · refine step_pure rfl fun A ww hb hw hf => ?_
            have e0 : A.tmps[32]?.getD undef = .int .i64 (beN xs 0 1) := gdv (hf 1 32 (by kernel_rfl))
            have r8 : RowB ww w3.heap.size (A.tmps.getD 37 undef) (rcB xs) := hf 6 37 (by kernel_rfl)
            obtain ⟨ad, cd, gd, ev, -⟩ := r8.own
            rw [ev] at r8
            have e1 : A.tmps[37]?.getD undef = .slice ad (rcB xs).length cd := gdv ev
            refine ⟨.agg #[.int .i64 (beN xs 0 1), .slice ad (rcB xs).length cd], ?_, ad, cd, rfl, r8⟩
            simp [go_sem, e0, e1]
        · intro vs W W5 cs v3 hW rq hG OQ rc
          obtain ⟨ad, cd, ec, rd⟩ := hG
          simp only [Value.agg.injEq, Array.mk.injEq] at ec
          subst ec
          have R9 := rd.only OQ (by omega)
          have RR := rc.rangeG
          have NF := (nxt N3 hW).trans (OQ.below (B := w.heap.size) (Nat.le_refl _))
          clear OQ
          simp only [puts, v3, Act.put, List.setIfInBounds_toArray, List.set_cons_succ, List.set_cons_zero]
          go_wp2
          exact bodyPost_ret (v := .tuple #[.agg #[.int .i64 (beN xs 0 1), .slice ad (rcB xs).length cd], .nilIface]) (results_twoC Tryz.results31 _ _ w.heap.size [.int .i64 (beN xs 0 1), .slice ad (rcB xs).length cd] d1 .nilIface rfl rfl RR hd1 hrow1 iRcd) rfl ⟨NF, .inl ⟨e1.out, ad, cd, rfl, R9.base (by omega)⟩⟩
    · have ev : v = .iface 175 (.pointer (some a2)) := by rw [hv, hfV, if_pos g2, if_neg hs]; rfl
      have e1 : Hid (rcE a0 a1 a2 xs = some a2) := by show _ = _; rw [eR.out, if_neg g1, if_pos g2, if_neg g3, if_neg hs]
      subst ev
      clear hv hs eR hr
      have ZF : RwC ((w3.setCell ⟨w.heap.size, 0, none⟩ (.int .i64 0)).setCell ⟨w.heap.size, 1, none⟩ (.slice none 0 0)) w.heap.size [.int .i64 0, .slice none 0 0] 31 := (Z3.set 0 _).set 1 _
      have OF : Only w.heap.size w3 ((w3.setCell ⟨w.heap.size, 0, none⟩ (.int .i64 0)).setCell ⟨w.heap.size, 1, none⟩ (.slice none 0 0)) := (Only.setCell _ w.heap.size 0 _).trans (Only.setCell _ w.heap.size 1 _)
      have RR := ZF.rangeG
      have NF := N3.trans (OF.below (B := w.heap.size) (Nat.le_refl _))
      have x0 := Z3.c0
      have x1 := Z3.c1
      have f0 := Z3.free 0
      have f1 := Z3.free 1
      have he := er_neq a2
      clear OF ZF
      go_wp2
      exact bodyPost_ret (v := .tuple #[.agg #[.int .i64 0, .slice none 0 0], erV a2]) (results_twoC Tryz.results31 _ _ w.heap.size [.int .i64 0, .slice none 0 0] d1 (erV a2) rfl rfl RR hd1 hrow1 iRcd) rfl ⟨NF, .inr ⟨a2, e1.out, rfl⟩⟩
  · have e1 : Hid (rcE a0 a1 a2 xs = some x) := by
      show _ = _
      rw [← hh, eR.out, eH.out]
      by_cases g1 : xs.length = 0
      · rw [if_pos g1, if_pos g1]
      · rw [if_neg g1, if_neg g1]
        by_cases g2 : isK (beN xs 0 1) = true
        · rw [if_pos g2, if_pos g2]
          by_cases g3 : xs.length < 3
          · rw [if_pos g3, if_pos g3]
          · rw [eH.out, if_neg g1, if_pos g2, if_neg g3] at hh
            cases hh
        · rw [if_neg g2, if_neg g2]
    have n2 : Below w1.heap.size w1 (w1.alloc (.cells #[.int .i64 0, .int .i64 0] 55)) := (Below.refl _ _).alloc (Nat.le_refl _) _
    have N2 := nxt N1 n2
    have Z2 := Z1.up n2
    have he := er_neq x
    clear N1 Z1 n2 FA eR eH hh hr
    unfold erV
    go_upto_region 3 with fail
    generalize w1.alloc (.cells #[.int .i64 0, .int .i64 0] 55) = w2 at *
    have ZF : RwC ((w2.setCell ⟨w.heap.size, 0, none⟩ (.int .i64 0)).setCell ⟨w.heap.size, 1, none⟩ (.slice none 0 0)) w.heap.size [.int .i64 0, .slice none 0 0] 31 := (Z2.set 0 _).set 1 _
    have OF : Only w.heap.size w2 ((w2.setCell ⟨w.heap.size, 0, none⟩ (.int .i64 0)).setCell ⟨w.heap.size, 1, none⟩ (.slice none 0 0)) := (Only.setCell _ w.heap.size 0 _).trans (Only.setCell _ w.heap.size 1 _)
    have RR := ZF.rangeG
    have NF := N2.trans (OF.below (B := w.heap.size) (Nat.le_refl _))
    have x0 := Z2.c0
    have x1 := Z2.c1
    have f0 := Z2.free 0
    have f1 := Z2.free 1
    clear OF ZF
    go_wp2
    exact bodyPost_ret (v := .tuple #[.agg #[.int .i64 0, .slice none 0 0], erV x]) (results_twoC Tryz.results31 _ _ w.heap.size [.int .i64 0, .slice none 0 0] d1 (erV x) rfl rfl RR hd1 hrow1 iRcd) rfl ⟨NF, .inr ⟨x, e1.out, rfl⟩⟩
end Go.Proofs.YtjfggcefdobooaaGreatDoor
namespace Go.Proofs.YtjfggcefdobooaaGreatDoor
set_option maxRecDepth 100000
open Go Go.RowKit
def rcT (ys : List Int) : Nat := if ys.length = 0 then 1 else if isK (rcK ys) = true then (if ys.length < 3 then 1 else if 1 ≤ beN ys 1 2 ∧ beN ys 1 2 ≤ 2321 then (if (ys.length : Int) - 3 < beN ys 1 2 then 1 else 0) else 3) else 2
def rcX (a0 a1 a2 : Addr) : Nat → Option Addr
  | 0 => none
  | 1 => some a0
  | 2 => some a1
  | _ => some a2
theorem rcE_T (a0 a1 a2 : Addr) (ys : List Int) : rcE a0 a1 a2 ys = rcX a0 a1 a2 (rcT ys) := by
  unfold rcE rcT
  repeat' split
  all_goals rfl
theorem rcT_len {ys : List Int} (hb : Byt ys) (h : rcT ys = 0) : 1 ≤ rcN ys ∧ 3 + rcN ys ≤ ys.length ∧ rcN ys ≤ 2321 ∧ (rcB ys).length = rcN ys := by
  unfold rcT at h
  have N := beN_rng hb 1 2
  have e : (rcN ys : Int) = beN ys 1 2 := by unfold rcN; omega
  split at h
  · cases h
  · split at h
    · split at h
      · cases h
      · split at h
        · split at h
          · cases h
          · have L : 3 + rcN ys ≤ ys.length := by omega
            refine ⟨by omega, L, by omega, ?_⟩
            unfold rcB
            rw [List.length_take, List.length_drop]
            omega
        · cases h
    · cases h
def cutF (xs : List Int) : Nat → Nat → List (Int × List Int) × Nat
  | 0, k => ([], k)
  | f + 1, k => if rcT (xs.drop k) = 0 then ((rcK (xs.drop k), rcB (xs.drop k)) :: (cutF xs f (k + (3 + rcN (xs.drop k)))).1, (cutF xs f (k + (3 + rcN (xs.drop k)))).2) else ([], k)
def cutR (xs : List Int) : List (Int × List Int) := (cutF xs (xs.length + 1) 0).1
def cutK (xs : List Int) : Nat := (cutF xs (xs.length + 1) 0).2
def cutC (xs : List Int) : Int := ((rcT (xs.drop (cutK xs)) : Nat) : Int) - 1
def cutL (xs : List Int) : List Int := if rcT (xs.drop (cutK xs)) = 1 then xs.drop (cutK xs) else []
structure Ahc (xs : List Int) (its : List (Int × List Int)) (k : Nat) : Prop where
  e : cutF xs (xs.length + 1) 0 = (its ++ (cutF xs (xs.length + 1 - its.length) k).1, (cutF xs (xs.length + 1 - its.length) k).2)
  l : its.length * 4 ≤ k
  k : k ≤ xs.length
  b : ∀ i, i < its.length → (its.getD i (0, [])).2.length ≤ 2321
theorem Ahc.zero (xs : List Int) : Ahc xs [] 0 := ⟨by simp, by simp, Nat.zero_le _, fun i h => absurd h (by simp)⟩
theorem Ahc.step {xs : List Int} {its : List (Int × List Int)} {k : Nat} (hb : Byt xs) (h : Ahc xs its k) (ht : rcT (xs.drop k) = 0) : Ahc xs (its ++ [(rcK (xs.drop k), rcB (xs.drop k))]) (k + (3 + rcN (xs.drop k))) := by
  have L := rcT_len (byt_drop hb k) ht
  have hl := h.l
  have hk := h.k
  have ld : (xs.drop k).length = xs.length - k := List.length_drop
  obtain ⟨f, hf⟩ : ∃ f, xs.length + 1 - its.length = f + 1 := ⟨xs.length - its.length, by omega⟩
  refine ⟨?_, by simp; omega, by omega, fun i hi => ?_⟩
  · rw [h.e, hf, show xs.length + 1 - (its ++ [(rcK (xs.drop k), rcB (xs.drop k))]).length = f by simp; omega]
    show (its ++ (if rcT (xs.drop k) = 0 then _ else _ : List (Int × List Int) × Nat).1, (if rcT (xs.drop k) = 0 then _ else _ : List (Int × List Int) × Nat).2) = _
    rw [if_pos ht]
    simp
  · by_cases h' : i < its.length
    · have : (its ++ [(rcK (xs.drop k), rcB (xs.drop k))]).getD i (0, []) = its.getD i (0, []) := by simp [List.getD, List.getElem?_append_left h']
      rw [this]
      exact h.b i h'
    · have : i = its.length := by simp at hi; omega
      subst this
      have : (its ++ [(rcK (xs.drop k), rcB (xs.drop k))]).getD its.length (0, []) = (rcK (xs.drop k), rcB (xs.drop k)) := by simp
      rw [this]
      show (rcB (xs.drop k)).length ≤ 2321
      omega
theorem Ahc.done {xs : List Int} {its : List (Int × List Int)} {k : Nat} (h : Ahc xs its k) (ht : rcT (xs.drop k) ≠ 0) : cutR xs = its ∧ cutK xs = k := by
  have hl := h.l
  have hk := h.k
  obtain ⟨f, hf⟩ : ∃ f, xs.length + 1 - its.length = f + 1 := ⟨xs.length - its.length, by omega⟩
  have e : cutF xs (f + 1) k = ([], k) := by
    show (if rcT (xs.drop k) = 0 then _ else _) = _
    rw [if_neg ht]
  unfold cutR cutK
  rw [h.e, hf, e]
  simp
end Go.Proofs.YtjfggcefdobooaaGreatDoor
namespace Go.Proofs.YtjfggcefdobooaaGreatDoor
set_option maxRecDepth 100000
open Go Go.RowKit
def gdR (r : Int × List Int) : Prop := isK r.1 = true ∧ 1 ≤ r.2.length ∧ r.2.length ≤ 2321 ∧ Byt r.2
def flR : List (Int × List Int) → List Int
  | [] => []
  | r :: rs => enA r.1 r.2 ++ flR rs
theorem flR_append : ∀ (a b : List (Int × List Int)), flR (a ++ b) = flR a ++ flR b
  | [], _ => rfl
  | r :: a, b => by
    show enA r.1 r.2 ++ flR (a ++ b) = (enA r.1 r.2 ++ flR a) ++ flR b
    rw [flR_append a b, List.append_assoc]
theorem isK_rng {k : Int} (h : isK k = true) : k = 21 ∨ k = 22 ∨ k = 23 := by
  unfold isK at h
  simp at h
  omega
theorem enA_is {r : Int × List Int} (h : gdR r) : enA r.1 r.2 = [r.1, (r.2.length : Int) / 256, (r.2.length : Int) % 256] ++ r.2 := by
  obtain ⟨h1, h2, h3, -⟩ := h
  unfold enA
  rw [if_pos ⟨h1, h2, h3⟩]
  have := isK_rng h1
  have e1 : bigL r.1 1 = [r.1] := by simp [bigL, List.range_succ]; omega
  have e2 : bigL (r.2.length : Int) 2 = [(r.2.length : Int) / 256, (r.2.length : Int) % 256] := by simp [bigL, List.range_succ]; omega
  rw [hdL, e1, e2]
  rfl
theorem enA_ln {r : Int × List Int} (h : gdR r) : (enA r.1 r.2).length = 3 + r.2.length := by rw [enA_is h]; simp; omega
theorem rcT_whole {r : Int × List Int} (h : gdR r) (u : List Int) : rcT (enA r.1 r.2 ++ u) = 0 ∧ rcK (enA r.1 r.2 ++ u) = r.1 ∧ rcN (enA r.1 r.2 ++ u) = r.2.length ∧ rcB (enA r.1 r.2 ++ u) = r.2 := by
  have L : (enA r.1 r.2 ++ u).length = 3 + r.2.length + u.length := by rw [List.length_append, enA_ln h]
  have e0 : rcK (enA r.1 r.2 ++ u) = r.1 := by
    unfold rcK beN beN
    rw [enA_is h]
    simp
  have e1 : beN (enA r.1 r.2 ++ u) 1 2 = (r.2.length : Int) := by
    unfold beN beN beN
    rw [enA_is h]
    simp
    omega
  have e2 : rcN (enA r.1 r.2 ++ u) = r.2.length := by unfold rcN; rw [e1]; simp
  have := h.2.1
  have := h.2.2.1
  refine ⟨?_, e0, e2, ?_⟩
  · unfold rcT
    rw [if_neg (by omega), e0, if_pos h.1, if_neg (by omega), e1, if_pos (by omega), if_neg (by omega)]
  · unfold rcB
    rw [e2, enA_is h]
    simp
theorem cut_flR {xs : List Int} (hb : Byt xs) (rs : List (Int × List Int)) (t : List Int) (hx : xs = flR rs ++ t) (hg : ∀ r ∈ rs, gdR r) (ht : rcT t = 1) : cutR xs = rs ∧ cutC xs = 0 ∧ cutL xs = t := by
  have key : ∀ (b a : List (Int × List Int)), a ++ b = rs → Ahc xs a (flR a).length → cutR xs = rs ∧ cutK xs = (flR rs).length := by
    intro b
    induction b with
    | nil =>
      intro a ha A
      rw [List.append_nil] at ha
      subst ha
      have : xs.drop (flR a).length = t := by rw [hx]; simp
      exact A.done (by rw [this, ht]; decide)
    | cons r b ih =>
      intro a ha A
      have hd : xs.drop (flR a).length = enA r.1 r.2 ++ (flR b ++ t) := by
        rw [hx, ← ha, flR_append, List.append_assoc, List.drop_left]
        show (enA r.1 r.2 ++ flR b) ++ t = _
        rw [List.append_assoc]
      have gr : gdR r := hg r (by rw [← ha]; simp)
      have W := rcT_whole gr (flR b ++ t)
      have A' := A.step hb (by rw [hd]; exact W.1)
      rw [hd, W.2.1, W.2.2.1, W.2.2.2] at A'
      have ea : flR (a ++ [r]) = flR a ++ enA r.1 r.2 := by rw [flR_append]; simp [flR]
      refine ih (a ++ [r]) (by rw [← ha]; simp) ?_
      rw [ea, List.length_append, enA_ln gr]
      exact A'
  obtain ⟨k1, k2⟩ := key rs [] rfl (Ahc.zero xs)
  have hd : xs.drop (cutK xs) = t := by rw [k2, hx, List.drop_left]
  refine ⟨k1, ?_, ?_⟩
  · unfold cutC
    rw [hd, ht]
    rfl
  · unfold cutL
    rw [hd, if_pos ht]
theorem rcT_nil : rcT [] = 1 := by unfold rcT; simp
end Go.Proofs.YtjfggcefdobooaaGreatDoor
namespace Go.Proofs.YtjfggcefdobooaaGreatDoor
set_option maxRecDepth 100000
open Go Go.RowKit
def ifV (a1 a6 a7 : Addr) (k : Int) (n : Nat) : Value := if isK k = true then (if 2048 < n then erV a6 else if n = 0 ∧ k ≠ 23 then erV a7 else .nilIface) else erV a1
set_option maxHeartbeats 1000000 in
theorem partFault_any (w : World) (k : Int) (a : Option Addr) (n c : Nat) (a1 a6 a7 : Addr) (h1 : Sen w 1 a1) (h6 : Sen w 2 a6) (h7 : Sen w 3 a7) :
    Calls Tryz.prog 19 #[.agg #[.int .i64 k, .slice a n c]] w fun e w' => e = .returned (ifV a1 a6 a7 k n) ∧ Below w.heap.size w w' := by
  have n0 : Below w.heap.size w (w.alloc (.cells #[.int .i64 k, .slice a n c] 49)) := (Below.refl _ _).alloc (Nat.le_refl _) _
  have c1 := (h1.up n0).c
  have c6 := (h6.up n0).c
  have c7 := (h7.up n0).c
  have KD := fun W => hide (isKind_any W k)
  obtain ⟨v, hv⟩ : ∃ v, v = ifV a1 a6 a7 k n := ⟨_, rfl⟩
  rw [← hv]
  unfold erV at c1 c6 c7
  by_cases hk : isK k = true
  · rw [hk] at KD
    by_cases hm : 2048 < n
    · have e : Hid (v = .iface 175 (.pointer (some a6))) := by show _ = _; rw [hv, ifV, if_pos hk, if_pos hm]; rfl
      have q1 : decide ((2048 : Int) < (n : Int)) = true := by simp; omega
      clear hv h1 h6 h7 hk
      go_enter Tryz.func19, Tryz.ntmps19
      go_wp2_with fail
      refine (KD _).out.mono ?_
      rintro e w' ⟨rfl, rfl⟩
      go_wp2
      go_ret
      exact ⟨by rw [e.out]; rfl, n0⟩
    · have q1 : decide ((2048 : Int) < (n : Int)) = false := by simp; omega
      by_cases h0 : n = 0
      · subst h0
        by_cases h23 : k = 23
        · subst h23
          have e : Hid (v = .nilIface) := by show _ = _; rw [hv, ifV, if_pos hk, if_neg hm, if_neg (by simp)]
          clear hv h1 h6 h7 hk hm
          go_enter Tryz.func19, Tryz.ntmps19
          go_wp2_with fail
          refine (KD _).out.mono ?_
          rintro e w' ⟨rfl, rfl⟩
          go_wp2
          go_ret
          exact ⟨by rw [e.out]; rfl, n0⟩
        · have e : Hid (v = .iface 175 (.pointer (some a7))) := by show _ = _; rw [hv, ifV, if_pos hk, if_neg hm, if_pos ⟨rfl, h23⟩]; rfl
          have q3 : (k != 23) = true := by simp [h23]
          have q4 : decide (k = 23) = false := by simp [h23]
          clear hv h1 h6 h7 hk hm
          go_enter Tryz.func19, Tryz.ntmps19
          go_wp2_with fail
          refine (KD _).out.mono ?_
          rintro e w' ⟨rfl, rfl⟩
          go_wp2
          go_ret
          exact ⟨by rw [e.out]; rfl, n0⟩
      · have e : Hid (v = .nilIface) := by show _ = _; rw [hv, ifV, if_pos hk, if_neg hm, if_neg (fun q => h0 q.1)]
        have q3 : decide ((n : Int) = 0) = false := by simp; omega
        have q4 : ((n : Int) == 0) = false := by simp; omega
        clear hv h1 h6 h7 hk hm h0
        go_enter Tryz.func19, Tryz.ntmps19
        go_wp2_with fail
        refine (KD _).out.mono ?_
        rintro e w' ⟨rfl, rfl⟩
        go_wp2
        go_ret
        exact ⟨by rw [e.out]; rfl, n0⟩
  · have e : Hid (v = .iface 175 (.pointer (some a1))) := by show _ = _; rw [hv, ifV, if_neg hk]; rfl
    have hk' : isK k = false := by simpa using hk
    rw [hk'] at KD
    clear hv h1 h6 h7 hk hk'
    go_enter Tryz.func19, Tryz.ntmps19
    go_wp2_with fail
    refine (KD _).out.mono ?_
    rintro e w' ⟨rfl, rfl⟩
    go_wp2
    go_ret
    exact ⟨by rw [e.out]; rfl, n0⟩
def Rbg (b : Nat) (xs : List Int) : Fact := ⟨fun v w => RowB w b v xs, fun n h => h.up n⟩
def B3g (l0 : Lst) (xs ys : List Int) : Fact :=
  ⟨fun v w => ∃ (b g : Nat) (a : Option Addr) (c g' : Nat) (a' : Option Addr) (c' : Nat), v = .slice (some ⟨b, 0, none⟩) 3 3 ∧ Lsts w b [l0, ⟨g, a, c, xs⟩, ⟨g', a', c', ys⟩] ∧ (Rd w g a .u8 xs ∧ (a = none → c = 0)) ∧ (Rd w g' a' .u8 ys ∧ (a' = none → c' = 0)), fun n h => by
    obtain ⟨b, g, a, c, g', a', c', e, l, r, z⟩ := h
    exact ⟨b, g, a, c, g', a', c', e, l.up n, ⟨r.1.up n, r.2⟩, ⟨z.1.up n, z.2⟩⟩⟩
theorem bs3_runN (w : World) (a1 a2 a3 : Option Addr) (n1 n2 n3 c1 c2 c3 : Nat) : (Instr.buildSlice 90 3 #[(0, .slice a1 n1 c1), (1, .slice a2 n2 c2), (2, .slice a3 n3 c3)]).run Tryz.prog w = .ok (.slice (some ⟨w.heap.size, 0, none⟩) 3 3) (w.alloc (.cells #[.slice a1 n1 c1, .slice a2 n2 c2, .slice a3 n3 c3] 22)) := by
  kernel_rfl
theorem lsts_threeN (w : World) (t : TypeId) (a b c : Lst) : Lsts (w.alloc (.cells #[.slice a.a a.xs.length a.c, .slice b.a b.xs.length b.c, .slice c.a c.xs.length c.c] t)) w.heap.size [a, b, c] := by
  intro j x hj
  match j, hj with
  | 0, hj => simp at hj; subst hj; simp [World.cell?_alloc_at]
  | 1, hj => simp at hj; subst hj; simp [World.cell?_alloc_at]
  | 2, hj => simp at hj; subst hj; simp [World.cell?_alloc_at]
theorem step_bs3N {ops : Array Oper} {Q : Exit → Act → World → Prop} {md : Region.Mode} {F : Nat → Fact} {a0 : Act} {w0 : World} {i : Nat} {o : Oper} {B B' : Nat} {xs ys : List Int} {l0 : Lst} (hi : ops[i]? = some o) (p q s j k m : Nat) (hop : o.op = .buildSlice 90 3 #[(0, .tmp p), (1, .tmp q), (2, .tmp s)])
    (hj : waits md ops i j p = true) (hk : waits md ops i k q = true) (hm : waits md ops i m s = true) (hFj : F j = Fact.eq (.slice l0.a l0.xs.length l0.c)) (hFk : F k = Rbg B xs) (hFm : F m = Rbg B' ys) (hFi : F i = B3g l0 xs ys) : StepOk Tryz.prog md ops Q F a0 w0 i := by
  refine step_grow hi fun a w _ _ hf => ?_
  have h1 := hf j p hj
  have h2 := hf k q hk
  have h3 := hf m s hm
  rw [hFj] at h1
  rw [hFk] at h2
  rw [hFm] at h3
  obtain ⟨a2, c2, g2, e2, r2, z2, _, _⟩ := RowB.rd h2
  obtain ⟨a3, c3, g3, e3, r3, z3, _, _⟩ := RowB.rd h3
  have x1 : a.eval (.tmp p) = .slice l0.a l0.xs.length l0.c := h1
  have x2 : a.eval (.tmp q) = .slice a2 xs.length c2 := e2
  have x3 : a.eval (.tmp s) = .slice a3 ys.length c3 := e3
  have gg : (#[(0, Operand.tmp p), (1, Operand.tmp q), (2, Operand.tmp s)].map fun (n, x) => (n, a.eval x)) = #[(0, Value.slice l0.a l0.xs.length l0.c), (1, .slice a2 xs.length c2), (2, .slice a3 ys.length c3)] := by simp [x1, x2, x3]
  have n9 : Below w.heap.size w (w.alloc (.cells #[.slice l0.a l0.xs.length l0.c, .slice a2 xs.length c2, .slice a3 ys.length c3] 22)) := (Below.refl _ _).alloc (Nat.le_refl _) _
  refine ⟨.slice (some ⟨w.heap.size, 0, none⟩) 3 3, _, ?_, n9, ?_⟩
  · simp only [execOp, hop, gg]
    rw [Sem.run_bind, bs3_runN]
    rfl
  · rw [hFi]
    exact ⟨w.heap.size, g2, a2, c2, g3, a3, c3, rfl, lsts_threeN w 22 l0 ⟨g2, a2, c2, xs⟩ ⟨g3, a3, c3, ys⟩, ⟨r2.up n9, z2⟩, ⟨r3.up n9, z3⟩⟩
theorem step_makeN {ops : Array Oper} {Q : Exit → Act → World → Prop} {md : Region.Mode} {F : Nat → Fact} {a0 : Act} {w0 : World} {i : Nat} {o : Oper} {n : Nat} (hn : n ≤ 1048576) (hi : ops[i]? = some o) (p j : Nat) (hop : o.op = .makeSlice 22 (.tmp p) (.tmp p)) (hj : waits md ops i j p = true) (hFj : F j = Fact.eq (.int .i64 (n : Int))) (hF : F i = Rbg w0.heap.size (List.replicate n 0)) : StepOk Tryz.prog md ops Q F a0 w0 i := by
  obtain ⟨i0, h1, hz0, hz1, hz2⟩ := info_parts Tryz.info5
  refine step_grow hi fun a w _ hw hf => ?_
  have h2 := hf j p hj
  rw [hFj] at h2
  have x1 : a.eval (.tmp p) = .int .i64 (n : Int) := h2
  obtain ⟨w', hrun, hown, hgrow⟩ := run_make_full (P := Tryz.prog) w w.heap.size 22 5 i0 (.int .u8 0) 1 Tryz.underlying22 h1 hz0 hz1 .i64 .i64 n (by rw [hz2]; omega) (by unfold maxLen; omega) (Nat.le_refl _)
  have hN0 : Below w.heap.size w w' := (Below.refl _ _).grown hgrow (Nat.le_refl _) (by simp)
  refine ⟨.slice (some ⟨w.heap.size, 0, none⟩) n n, w', by simp [execOp, hop, hrun, x1], hN0, ?_⟩
  rw [hF]
  have R : RowB w' w.heap.size (.slice (some ⟨w.heap.size, 0, none⟩) n n) (List.replicate n 0) := by
    unfold RowB
    rw [List.length_replicate]
    have e : (madeCells (Value.int .u8 0).cells (n * 1)).toList = List.map (Value.int .u8) (List.replicate n 0) := by simp [madeCells, Value.cells, Nat.mod_one, List.map_const']
    rw [← e]
    exact hown
  exact R.base hw.size
def inL (k : Int) (xs : List Int) (pad : Nat) : List Int := xs ++ (bigL k 1 ++ List.replicate pad 0)
theorem inL_len (k : Int) (xs : List Int) (pad : Nat) : (inL k xs pad).length = xs.length + 1 + pad := by simp [inL, bigL_len]; omega
theorem cat3N (a b c : Lst) : cat [a, b, c] = a.xs ++ (b.xs ++ c.xs) := by simp [cat]
set_option maxHeartbeats 4000000 in
theorem padded_any (w : World) (k : Int) (l0 : Lst) (r0 : Rd w l0.g l0.a .u8 l0.xs) (z0 : l0.a = none → l0.c = 0) (m0 : l0.xs.length ≤ 1048576) (pad : Nat) (hp : pad ≤ 1048576) :
    Calls Tryz.prog 20 #[.agg #[.int .i64 k, .slice l0.a l0.xs.length l0.c], .int .i64 (pad : Int)] w fun e w' => ∃ v, e = .returned v ∧ RowB w' w.heap.size v (inL k l0.xs pad) ∧ Below w.heap.size w w' := by
  have N : Below w.heap.size w (w.alloc (.cells #[.int .i64 k, .slice l0.a l0.xs.length l0.c] 49)) := (Below.refl _ _).alloc (Nat.le_refl _) _
  have k0 : (w.alloc (.cells #[.int .i64 k, .slice l0.a l0.xs.length l0.c] 49)).cell? ⟨w.heap.size, 0, none⟩ = some (.int .i64 k) := by simp [World.cell?_alloc_at]
  have k1 : (w.alloc (.cells #[.int .i64 k, .slice l0.a l0.xs.length l0.c] 49)).cell? ⟨w.heap.size, 1, none⟩ = some (.slice l0.a l0.xs.length l0.c) := by simp [World.cell?_alloc_at]
  have r0 := r0.up N
  go_enter Tryz.func20, Tryz.ntmps20
  go_upto_region 1 with fail
  generalize w.alloc (.cells #[.int .i64 k, .slice l0.a l0.xs.length l0.c] 49) = wb at *
  have ql := block_lt_of_cell k0
  have cu : ∀ {W : World}, Below wb.heap.size wb W → ∀ i, W.cell? ⟨w.heap.size, i, none⟩ = wb.cell? ⟨w.heap.size, i, none⟩ := fun n i => World.cell?_of_block (a := ⟨w.heap.size, i, none⟩) (n.block w.heap.size ql)
  refine region_end 10 (fun i => [Fact.eq (.pointer (some ⟨w.heap.size, 1, none⟩)), Fact.eq (.slice l0.a l0.xs.length l0.c), Fact.eq (.pointer (some ⟨w.heap.size, 0, none⟩)), Fact.eq (.int .i64 k), Rbg wb.heap.size (bigL k 1), Fact.eq (.int .i64 (pad : Int)), Rbg wb.heap.size (List.replicate pad 0), B3g l0 (bigL k 1) (List.replicate pad 0), Rbg wb.heap.size (inL k l0.xs pad), Rbg wb.heap.size (inL k l0.xs pad)].getD i Fact.no) (by kernel_rfl) (by kernel_rfl) rfl ?_ ?_
  · intro i hi
    obtain rfl | rfl | rfl | rfl | rfl | rfl | rfl | rfl | rfl | rfl : i = 0 ∨ i = 1 ∨ i = 2 ∨ i = 3 ∨ i = 4 ∨ i = 5 ∨ i = 6 ∨ i = 7 ∨ i = 8 ∨ i = 9 := by omega
    · refine step_pure rfl fun A ww hb hw hf => ?_
      have e0 : A.tmps[2]?.getD undef = .pointer (some ⟨w.heap.size, 0, none⟩) := gdv (hb.2.2 2 (by kernel_rfl))
      exact ⟨.pointer (some ⟨w.heap.size, 1, none⟩), by simp [go_sem, e0], rfl⟩
    · refine step_pure rfl fun A ww hb hw hf => ?_
      have e0 : A.tmps[5]?.getD undef = .pointer (some ⟨w.heap.size, 1, none⟩) := gdv (hf 0 5 (by kernel_rfl))
      have hc : ww.cell? ⟨w.heap.size, 1, none⟩ = some (.slice l0.a l0.xs.length l0.c) := (cu hw 1).trans k1
      exact ⟨.slice l0.a l0.xs.length l0.c, by simp [go_sem, e0, hc], rfl⟩
    · refine step_pure rfl fun A ww hb hw hf => ?_
      have e0 : A.tmps[2]?.getD undef = .pointer (some ⟨w.heap.size, 0, none⟩) := gdv (hb.2.2 2 (by kernel_rfl))
      exact ⟨.pointer (some ⟨w.heap.size, 0, none⟩), by simp [go_sem, e0], rfl⟩
    · refine step_pure rfl fun A ww hb hw hf => ?_
      have e0 : A.tmps[7]?.getD undef = .pointer (some ⟨w.heap.size, 0, none⟩) := gdv (hf 2 7 (by kernel_rfl))
      have hc : ww.cell? ⟨w.heap.size, 0, none⟩ = some (.int .i64 k) := (cu hw 0).trans k0
      exact ⟨.int .i64 k, by simp [go_sem, e0, hc], rfl⟩
    · refine step_callv rfl 42 _ _ rfl (by kernel_rfl) fun A ww hb hw hf => ?_
      have e6 : A.tmps.getD 8 undef = .int .i64 k := hf 3 8 (by kernel_rfl)
      show Calls Tryz.prog 42 #[.slice none 0 0, A.tmps.getD 8 undef, .int .i64 1] ww _
      rw [e6]
      refine (appendNum_any ww ww.heap.size (.slice none 0 0) [] (RowB.nilN ww _) (Nat.le_refl _) k 1 (by decide) (by simp)).mono ?_
      rintro r w' ⟨x, rfl, R, n⟩
      exact ⟨x, rfl, n, R.base hw.size⟩
    · refine step_pure rfl fun A ww hb hw hf => ?_
      have e0 : A.tmps[1]?.getD undef = .int .i64 (pad : Int) := gdv (hb.2.2 1 (by kernel_rfl))
      exact ⟨.int .i64 (pad : Int), by simp [go_sem, e0], rfl⟩
    · exact step_makeN hp rfl 10 5 rfl (by kernel_rfl) rfl rfl
    · exact step_bs3N rfl 6 9 11 1 4 6 rfl (by kernel_rfl) (by kernel_rfl) (by kernel_rfl) rfl rfl rfl rfl
    · refine step_callv rfl 41 _ _ rfl (by kernel_rfl) fun A ww hb hw hf => ?_
      obtain ⟨b, g, a, c, g', a', c', e16, L, R, Z⟩ := hf 7 12 (by kernel_rfl)
      show Calls Tryz.prog 41 #[A.tmps.getD 12 undef] ww _
      rw [e16]
      have lb := bigL_len k 1
      have CC := concatB_any ww b 3 3 [l0, ⟨g, a, c, bigL k 1⟩, ⟨g', a', c', List.replicate pad 0⟩] rfl (by omega) L (by
        intro x hx
        simp only [List.mem_cons, List.not_mem_nil, or_false] at hx
        rcases hx with rfl | rfl | rfl
        · exact ⟨r0.up hw, z0⟩
        · exact R
        · exact Z) (by rw [cat3N]; simp only [List.length_append]; omega) (by rw [cat3N]; simp only [List.length_append, List.length_replicate]; omega)
      rw [cat3N] at CC
      exact CC.mono (by rintro r w' ⟨⟨x, rfl, R'⟩, n⟩; exact ⟨x, rfl, n, R'.base hw.size⟩)
    · refine step_pure rfl fun A ww hb hw hf => ?_
      have e17 := hf 8 13 (by kernel_rfl)
      exact ⟨A.tmps.getD 13 undef, by simp [go_sem], e17⟩
  intro A W hb hw hF
  have e2 := hF 9 4 (by kernel_rfl)
  obtain ⟨vs, hvs⟩ : ∃ vs : Nat → Value, ∀ d, A.tmps.getD d undef = vs d := ⟨_, fun _ => rfl⟩
  rw [hvs] at e2
  rw [puts_of (md := .any) (k := 10) (by kernel_rfl) rfl hb vs hvs]
  clear hb hF hvs k0 k1 r0 z0 cu
  simp only [puts, Act.put, List.setIfInBounds_toArray, List.set_cons_succ, List.set_cons_zero]
  generalize vs 4 = v2 at *
  go_wp2
  go_ret
  exact ⟨_, rfl, RowB.base (show RowB W wb.heap.size v2 _ from e2) N.size, nxt N hw⟩
end Go.Proofs.YtjfggcefdobooaaGreatDoor
namespace Go.Proofs.YtjfggcefdobooaaGreatDoor
set_option maxRecDepth 100000
open Go Go.RowKit
theorem RowB.parts {w : World} {base : Nat} {v : Value} {xs : List Int} (h : RowB w base v xs) (h0 : 0 < xs.length) :
    ∃ (g cap : Nat), v = .slice (some ⟨g, 0, none⟩) xs.length cap ∧ base ≤ g ∧ xs.length ≤ cap ∧ (∀ i, i < xs.length → w.cell? ⟨g, i, none⟩ = some (.int .u8 (xs.getD i 0))) ∧ (∀ i, w.frozen? ⟨g, i, none⟩ = false) ∧
      (∀ i z, i < xs.length → RowB (w.setCell ⟨g, i, none⟩ (.int .u8 z)) base v (xs.set i z)) ∧ (∀ n, n ≤ xs.length → RowB w base (.slice (some ⟨g, 0, none⟩) n cap) (xs.take n)) := by
  obtain ⟨hl, ⟨_, h2⟩ | ⟨g, cap, cur, rfl, hb, hg, hn, hm, hs, ht⟩⟩ := h
  · omega
  · have hs' : cur.size = cap := by omega
    rw [Nat.mul_one] at ht
    have hcell : ∀ i, i < xs.length → cur[i]? = some (.int .u8 (xs.getD i 0)) := fun i hi => by
      have := congrArg (fun l => l[i]?) ht
      simp only [List.getElem?_take, if_pos hi, List.getElem?_map, Array.getElem?_toList] at this
      rw [this, List.getElem?_eq_getElem hi, List.getD_eq_getElem?_getD, List.getElem?_eq_getElem hi]
      rfl
    refine ⟨g, cap, rfl, hb, hn, fun i hi => ?_, fun i => ?_, fun i z hi => ⟨by simp, .inr ⟨g, cap, cur.setIfInBounds i (.int .u8 z), by simp, hb, ?_, by simpa using hn, hm, by simpa using hs, ?_⟩⟩, fun n hn' => ⟨by simp, .inr ⟨g, cap, cur, by rw [List.length_take, Nat.min_eq_left hn'], hb, hg, by rw [List.length_take]; omega, hm, hs, ?_⟩⟩⟩
    · simp [World.cell?, hg, hcell i hi]
    · simp [World.frozen?, hg]
    · show (w.heap.modify g _)[g]? = _
      rw [Array.getElem?_modify, if_pos rfl, hg]
      rfl
    · rw [Nat.mul_one, List.length_set, Array.toList_setIfInBounds, List.take_set, ht, List.map_set]
    · rw [Nat.mul_one, List.length_take, Nat.min_eq_left hn', List.map_take, ← ht, List.take_take, Nat.min_eq_left hn']
end Go.Proofs.YtjfggcefdobooaaGreatDoor
namespace Go.Proofs.YtjfggcefdobooaaGreatDoor
set_option maxRecDepth 100000
open Go Go.RowKit
def xrB (a b : Int) : Int := bits BinOp.xor IntKind.u8 a b
def nzT (zs B : List Int) : Nat → List Int
  | 0 => zs
  | j + 1 => (nzT zs B j).set (4 + j) (xrB ((nzT zs B j).getD (4 + j) 0) (B.getD j 0))
theorem nzT_len (zs B : List Int) : ∀ j, (nzT zs B j).length = zs.length
  | 0 => rfl
  | j + 1 => by rw [nzT, List.length_set]; exact nzT_len zs B j
def rnA (iv : List Int) (n : Int) : List Int := if iv.length = 12 ∧ 0 ≤ n ∧ n ≤ 4294967295 then nzT iv (bigL n 8) 8 else []
theorem ownBlock_lt {w : World} {base g cap : Nat} {n : Nat} {xs : List Int} (h : RowB w base (.slice (some ⟨g, 0, none⟩) n cap) xs) : g < w.heap.size := (World.ownsRow.lt h g rfl).2
set_option maxRecDepth 100000 in
set_option maxHeartbeats 4000000 in
theorem implNonce_any (w : World) (g : Nat) (a : Option Addr) (c : Nat) (iv : List Int) (hr : Rd w g a .u8 iv) (hc : a = none → c = 0) (n : Int) :
    Calls Tryz.prog 43 #[.slice a iv.length c, .int .i64 n] w fun e w' => ∃ v', e = .returned v' ∧ RowB w' w.heap.size v' (rnA iv n) ∧ Below w.heap.size w w' := by
  by_cases h12 : iv.length = 12
  · by_cases hn0 : n < 0
    · have q0 : rnA iv n = [] := by unfold rnA; rw [if_neg (by omega)]
      rw [q0, h12]
      clear h12 hr q0
      have q1 : decide (n < 0) = true := by simpa using hn0
      go_enter Tryz.func43, Tryz.ntmps43
      go_wp2
      go_ret
      exact ⟨_, rfl, RowB.nilN _ _, Below.refl _ _⟩
    · by_cases hn1 : 4294967295 < n
      · have q0 : rnA iv n = [] := by unfold rnA; rw [if_neg (by omega)]
        rw [q0, h12]
        clear h12 hr q0
        have q1 : decide (n < 0) = false := by simpa using hn0
        have q2 : decide (4294967295 < n) = true := by simpa using hn1
        go_enter Tryz.func43, Tryz.ntmps43
        go_wp2
        go_ret
        exact ⟨_, rfl, RowB.nilN _ _, Below.refl _ _⟩
      · have q0 : Hid (rnA iv n = nzT iv (bigL n 8) 8) := by show _ = _; unfold rnA; rw [if_pos (by omega)]
        have q1 : decide (n < 0) = false := by simpa using hn0
        have q2 : decide (4294967295 < n) = false := by simpa using hn1
        have CL := hide (cloneR_any w g a c iv hr hc (by omega))
        have AN := fun W => hide (appendNum_any W W.heap.size (.slice none 0 0) [] (RowB.nilN W _) (Nat.le_refl _) n 8 (by decide) (by simp))
        rw [h12] at CL ⊢
        have H12 := hide h12
        clear h12 hr hn0 hn1
        have BL : Hid ((bigL n 8).length = 8) := bigL_len n 8
        simp only [List.nil_append] at AN
        obtain ⟨B, hB⟩ : ∃ B, B = bigL n 8 := ⟨_, rfl⟩
        simp only [← hB] at AN BL q0
        clear hB
        go_enter Tryz.func43, Tryz.ntmps43
        go_wp2_with fail
        refine CL.out.mono ?_
        rintro e w1 ⟨v1, rfl, R1, n1⟩
        clear CL
        obtain ⟨g1, cap, rfl, hg1, hcap, -⟩ := R1.parts (by rw [H12.out]; decide)
        rw [H12.out] at R1 hcap ⊢
        have l1 := ownBlock_lt R1
        have AN1 := AN w1
        go_wp2_with fail
        refine AN1.out.mono ?_
        rintro e w2 ⟨v2, rfl, R2, n2⟩
        clear AN AN1
        obtain ⟨a2, c2, g2, rfl, D2, -, hc2, hg2⟩ := R2.rd
        obtain ⟨o2, rfl, D2c⟩ := D2 (by rw [BL.out]; decide)
        have D2l := D2.lt (by rw [BL.out]; decide)
        have CB : Hid (∀ k, k < 8 → w2.cell? ⟨g2, o2 + k, none⟩ = some (.int .u8 (B.getD k 0))) := fun k hk => D2c k (by rw [BL.out]; exact hk)
        rw [BL.out]
        have R1' := R1.up n2
        have N2 := nxt n1 n2
        clear R1 R2 D2 D2c n1 n2 BL
        go_wp2
        go_loopw [6, 7, 24] (fun _ _ i wr => ∃ k : Nat, k ≤ 8 ∧ i = .int .i64 k ∧ RowB wr w.heap.size (.slice (some ⟨g1, 0, none⟩) 12 cap) (nzT iv B k) ∧ Hid (wr.heap[g2]? = w2.heap[g2]?) ∧ Below w.heap.size w wr) (fun _ _ i _ => 8 - (intOf i).toNat)
        case atStart => exact ⟨0, Nat.zero_le _, rfl, R1', rfl, N2⟩
        case round =>
          obtain ⟨k, hk, rfl, R, hbk, hN⟩ := hrel
          by_cases hlt : k < 8
          · have cb := (World.cell?_of_block (a := ⟨g2, o2 + k, none⟩) hbk.out).trans (CB.out k hlt)
            have hL : Hid ((nzT iv B k).length = 12) := by show _ = _; rw [nzT_len]; exact H12.out
            obtain ⟨g1', cap', e1, -, -, cz, fz, sz, -⟩ := R.parts (by rw [hL.out]; decide)
            simp only [Value.slice.injEq, Option.some.injEq, Addr.mk.injEq, and_true] at e1
            obtain ⟨e1, -, e2⟩ := e1
            subst e1 e2
            have cz1 := cz (4 + k) (by rw [hL.out]; omega)
            have fz1 := fz (4 + k)
            have R' := sz (4 + k) (xrB ((nzT iv B k).getD (4 + k) 0) (B.getD k 0)) (by rw [hL.out]; omega)
            have hR : RowB (wr.setCell ⟨g1, 4 + k, none⟩ (.int .u8 (xrB ((nzT iv B k).getD (4 + k) 0) (B.getD k 0)))) w.heap.size (.slice (some ⟨g1, 0, none⟩) 12 cap) (nzT iv B (k + 1)) := R'
            have hbk' : Hid ((wr.setCell ⟨g1, 4 + k, none⟩ (.int .u8 (xrB ((nzT iv B k).getD (4 + k) 0) (B.getD k 0)))).heap[g2]? = w2.heap[g2]?) := ((Only.setCell wr g1 (4 + k) _).block g2 (by omega)).trans hbk.out
            have hN' : Below w.heap.size w (wr.setCell ⟨g1, 4 + k, none⟩ (.int .u8 (xrB ((nzT iv B k).getD (4 + k) 0) (B.getD k 0)))) := hN.setCell hg1 _
            unfold xrB at hR hbk' hN'
            clear R R' cz fz sz hN hbk hL
            have k1 : (k : Int) < 8 := by omega
            have e4 : (4 : Int) + (k : Int) = ((4 + k : Nat) : Int) := by omega
            have i4 : ((4 + k : Nat) : Int) < 12 := by omega
            generalize (nzT iv B k).getD (4 + k) 0 = x at *
            generalize B.getD k 0 = y at *
            obtain ⟨m, hm⟩ : ∃ m, m = 4 + k := ⟨_, rfl⟩
            rw [← hm] at cz1 fz1 hR hbk' hN' e4 i4
            clear hm
            go_wp2
            go_roundw
            case rel => exact ⟨k + 1, by omega, by go_num, hR, hbk', hN'⟩
            case measure => simp [intOf]; omega
          · obtain rfl : k = 8 := by omega
            rw [show (((8 : Nat) : Int)) = 8 from rfl]
            go_wp2
            go_ret
            exact ⟨_, rfl, by rw [q0.out]; exact R, hN⟩
  · have q0 : rnA iv n = [] := by unfold rnA; rw [if_neg (by omega)]
    rw [q0]
    have q1 : decide ((iv.length : Int) = 12) = false := by simp; omega
    have q3 : ((iv.length : Int) != 12) = true := by simp; omega
    clear h12 hr q0
    go_enter Tryz.func43, Tryz.ntmps43
    go_wp2
    go_ret
    exact ⟨_, rfl, RowB.nilN _ _, Below.refl _ _⟩
end Go.Proofs.YtjfggcefdobooaaGreatDoor
namespace Go.Proofs.YtjfggcefdobooaaGreatDoor
set_option maxRecDepth 100000
open Go Go.RowKit
theorem results_twoN {P : Program} {fn : Func} {p t : Tmp} {ty : TypeId} (h : fn.results = #[.cell p ty, .tmp t]) (tmps : Array Value) (w : World) (g : Nat) (cs : List Value) (d : TypeDesc) (v : Value)
    (hp : tmps.getD p undef = .pointer (some ⟨g, 0, none⟩)) (ht : tmps.getD t undef = v) (hc : w.rangeAt g 0 cs) (hu : P.underlying ty = some d) (hd : d.isRow = true) (hi : (P.info? ty).map (·.size) = some cs.length) :
    (results fn tmps).run P w = .ok (.tuple #[.agg cs.toArray, v]) w := by
  have hp' : tmps[p]?.getD undef = .pointer (some ⟨g, 0, none⟩) := by simpa using hp
  have ht' : tmps[t]?.getD undef = v := by simpa using ht
  simp [results, h, hp', ht', asAddr, run_loadVar_mid w g 0 ty cs d hc hu hd hi]
theorem iSr : (Tryz.prog.info? 57).map (·.size) = some 4 := by kernel_rfl
theorem rowSr : ∃ d, Tryz.prog.underlying 57 = some d ∧ d.isRow = true := ⟨_, Tryz.underlying57, rfl⟩
abbrev srZ : List Value := [.int .i64 0, .int .i64 0, .slice none 0 0, .slice none 0 0]
set_option maxHeartbeats 4000000 in
theorem newSealed_any (w : World) (ak : Option Addr) (kl ck : Nat) (gi : Nat) (ai : Option Addr) (ci : Nat) (V : List Int) (hi : Rd w gi ai .u8 V) (zi : ai = none → ci = 0) (q n : Int) (a2 a3 : Addr) (h2 : Sen w 5 a2) (h3 : Sen w 4 a3) :
    Calls Tryz.prog 21 #[.agg #[.slice ak kl ck, .slice ai V.length ci], .int .i64 q, .int .i64 n] w fun e w' => Below w.heap.size w w' ∧
      ((kl = 32 ∧ (rnA V q).length = 12 ∧ 17 ≤ n ∧ n ≤ 2321 ∧ ∃ an cn, e = .returned (.tuple #[.agg #[.int .i64 23, .int .i64 n, .slice ak kl ck, .slice an (rnA V q).length cn], .nilIface]) ∧ RowB w' w.heap.size (.slice an (rnA V q).length cn) (rnA V q))
       ∨ (¬ (kl = 32 ∧ (rnA V q).length = 12) ∧ e = .returned (.tuple #[.agg srZ.toArray, erV a3]))
       ∨ ((kl = 32 ∧ (rnA V q).length = 12) ∧ ¬ (17 ≤ n ∧ n ≤ 2321) ∧ e = .returned (.tuple #[.agg srZ.toArray, erV a2]))) := by
  obtain ⟨d1, hd1, hrow1⟩ := rowSr
  have NC := hide fun W (m : Below w.heap.size w W) => implNonce_any W gi ai ci V (hi.up m) zi q
  clear hi
  obtain ⟨R, hR⟩ : ∃ R, R = rnA V q := ⟨_, rfl⟩
  rw [← hR] at NC ⊢
  clear hR
  have n1 : Below w.heap.size w (w.alloc (.cells #[.slice ak kl ck, .slice ai V.length ci] 24)) := (Below.refl _ _).alloc (Nat.le_refl _) _
  have B0 : RwC (w.alloc (.cells #[.slice ak kl ck, .slice ai V.length ci] 24)) w.heap.size [.slice ak kl ck, .slice ai V.length ci] 24 := RwC.new w _ _
  have z1 : (w.alloc (.cells #[.slice ak kl ck, .slice ai V.length ci] 24)).heap.size = w.heap.size + 1 := by simp
  go_enter Tryz.func21, Tryz.ntmps21
  go_upto_region 1 with fail
  generalize w.alloc (.cells #[.slice ak kl ck, .slice ai V.length ci] 24) = wa at *
  have n2 : Below wa.heap.size wa (wa.alloc (.cells #[.int .i64 0, .int .i64 0, .slice none 0 0, .slice none 0 0] 57)) := (Below.refl _ _).alloc (Nat.le_refl _) _
  have Z0 : RwC (wa.alloc (.cells #[.int .i64 0, .int .i64 0, .slice none 0 0, .slice none 0 0] 57)) wa.heap.size srZ 57 := RwC.new wa _ _
  replace B0 := B0.up n2
  have N := nxt n1 n2
  generalize wa.alloc (.cells #[.int .i64 0, .int .i64 0, .slice none 0 0, .slice none 0 0] 57) = wb at *
  rw [z1] at Z0
  clear n1 n2 z1
  have lZ := Z0.lt
  have b0 := B0.c0
  have b1 := B0.c1
  go_wp2_with fail
  refine (NC.out wb N).mono ?_
  rintro e w1 ⟨v1, rfl, R1, m1⟩
  clear b0 b1
  replace B0 := B0.up m1
  replace Z0 := Z0.up m1
  replace N := nxt N m1
  have zm := m1.size
  obtain ⟨an, cn, gn, rfl, o1, _, _, gn1⟩ := R1.own
  have KD := hide (isKey_any w1 ak an kl R.length ck cn)
  have b0 := B0.c0
  have b1 := B0.c1
  go_wp2_with fail
  refine KD.out.mono ?_
  rintro e w2 ⟨rfl, hw⟩
  have hw := hw.symm
  subst hw
  have z0 : w1.cell? ⟨w.heap.size + 1, 0, none⟩ = some (.int .i64 0) := Z0.cell 0
  have z1 : w1.cell? ⟨w.heap.size + 1, 1, none⟩ = some (.int .i64 0) := Z0.cell 1
  have z2 : w1.cell? ⟨w.heap.size + 1, 2, none⟩ = some (.slice none 0 0) := Z0.cell 2
  have z3 : w1.cell? ⟨w.heap.size + 1, 3, none⟩ = some (.slice none 0 0) := Z0.cell 3
  have f0 := Z0.free 0
  have f1 := Z0.free 1
  have f2 := Z0.free 2
  have f3 := Z0.free 3
  have c2 := (h2.up N).c
  have c3 := (h3.up N).c
  unfold erV at c2 c3
  by_cases hg : kl = 32 ∧ R.length = 12
  · have hkd : (decide (kl = 32) && decide (R.length = 12)) = true := by simp [hg]
    have HG := hide hg
    clear hg
    rw [hkd]
    clear hkd
    by_cases hn : 17 ≤ n ∧ n ≤ 2321
    · have q1 : decide (n < 17) = false := by simp; omega
      have q2 : decide (2321 < n) = false := by simp; omega
      have HN := hide hn
      clear hn
      have ZF : RwC ((((w1.setCell ⟨w.heap.size + 1, 0, none⟩ (.int .i64 23)).setCell ⟨w.heap.size + 1, 1, none⟩ (.int .i64 n)).setCell ⟨w.heap.size + 1, 2, none⟩ (.slice ak kl ck)).setCell ⟨w.heap.size + 1, 3, none⟩ (.slice an R.length cn)) (w.heap.size + 1) [.int .i64 23, .int .i64 n, .slice ak kl ck, .slice an R.length cn] 57 := (((Z0.set 0 _).set 1 _).set 2 _).set 3 _
      have OF : Only (w.heap.size + 1) w1 ((((w1.setCell ⟨w.heap.size + 1, 0, none⟩ (.int .i64 23)).setCell ⟨w.heap.size + 1, 1, none⟩ (.int .i64 n)).setCell ⟨w.heap.size + 1, 2, none⟩ (.slice ak kl ck)).setCell ⟨w.heap.size + 1, 3, none⟩ (.slice an R.length cn)) := (((Only.setCell w1 (w.heap.size + 1) 0 _).trans (Only.setCell _ (w.heap.size + 1) 1 _)).trans (Only.setCell _ (w.heap.size + 1) 2 _)).trans (Only.setCell _ (w.heap.size + 1) 3 _)
      have RR := ZF.rangeG
      have NF := N.trans (OF.below (B := w.heap.size) (by omega))
      have RF := (R1.only OF (by omega)).base (show w.heap.size ≤ wb.heap.size by omega)
      clear OF ZF R1 o1
      go_wp2
      exact bodyPost_ret (v := .tuple #[.agg #[.int .i64 23, .int .i64 n, .slice ak kl ck, .slice an R.length cn], .nilIface]) (results_twoN Tryz.results21 _ _ (w.heap.size + 1) [.int .i64 23, .int .i64 n, .slice ak kl ck, .slice an R.length cn] d1 .nilIface rfl rfl RR hd1 hrow1 iSr) rfl ⟨NF, .inl ⟨HG.out.1, HG.out.2, HN.out.1, HN.out.2, an, cn, rfl, RF⟩⟩
    · have HN := hide hn
      rcases (by omega : n < 17 ∨ 2321 < n) with h | h
      · have q1 : decide (n < 17) = true := by simpa using h
        clear hn h
        have ZF : RwC ((((w1.setCell ⟨w.heap.size + 1, 0, none⟩ (.int .i64 0)).setCell ⟨w.heap.size + 1, 1, none⟩ (.int .i64 0)).setCell ⟨w.heap.size + 1, 2, none⟩ (.slice none 0 0)).setCell ⟨w.heap.size + 1, 3, none⟩ (.slice none 0 0)) (w.heap.size + 1) [.int .i64 0, .int .i64 0, .slice none 0 0, .slice none 0 0] 57 := (((Z0.set 0 _).set 1 _).set 2 _).set 3 _
        have OF : Only (w.heap.size + 1) w1 ((((w1.setCell ⟨w.heap.size + 1, 0, none⟩ (.int .i64 0)).setCell ⟨w.heap.size + 1, 1, none⟩ (.int .i64 0)).setCell ⟨w.heap.size + 1, 2, none⟩ (.slice none 0 0)).setCell ⟨w.heap.size + 1, 3, none⟩ (.slice none 0 0)) := (((Only.setCell w1 (w.heap.size + 1) 0 _).trans (Only.setCell _ (w.heap.size + 1) 1 _)).trans (Only.setCell _ (w.heap.size + 1) 2 _)).trans (Only.setCell _ (w.heap.size + 1) 3 _)
        have kg : ((((w1.setCell ⟨w.heap.size + 1, 0, none⟩ (.int .i64 0)).setCell ⟨w.heap.size + 1, 1, none⟩ (.int .i64 0)).setCell ⟨w.heap.size + 1, 2, none⟩ (.slice none 0 0)).setCell ⟨w.heap.size + 1, 3, none⟩ (.slice none 0 0)).cell? ⟨5, 0, none⟩ = some (.iface 175 (.pointer (some a2))) := (World.cell?_of_block (a := ⟨5, 0, none⟩) (OF.block 5 (by have : 5 < w.heap.size := block_lt_of_cell h2.c; omega))).trans c2
        have RR := ZF.rangeG
        have NF := N.trans (OF.below (B := w.heap.size) (by omega))
        clear OF ZF
        go_wp2
        go_region
        all_goals
          go_wp2
          exact bodyPost_ret (v := .tuple #[.agg srZ.toArray, erV a2]) (results_twoN Tryz.results21 _ _ (w.heap.size + 1) srZ d1 (erV a2) rfl rfl RR hd1 hrow1 iSr) rfl ⟨NF.drew, .inr (.inr ⟨HG.out, HN.out, rfl⟩)⟩
      · have q1 : decide (n < 17) = false := by simp; omega
        have q2 : decide (2321 < n) = true := by simpa using h
        clear hn h
        have ZF : RwC ((((w1.setCell ⟨w.heap.size + 1, 0, none⟩ (.int .i64 0)).setCell ⟨w.heap.size + 1, 1, none⟩ (.int .i64 0)).setCell ⟨w.heap.size + 1, 2, none⟩ (.slice none 0 0)).setCell ⟨w.heap.size + 1, 3, none⟩ (.slice none 0 0)) (w.heap.size + 1) [.int .i64 0, .int .i64 0, .slice none 0 0, .slice none 0 0] 57 := (((Z0.set 0 _).set 1 _).set 2 _).set 3 _
        have OF : Only (w.heap.size + 1) w1 ((((w1.setCell ⟨w.heap.size + 1, 0, none⟩ (.int .i64 0)).setCell ⟨w.heap.size + 1, 1, none⟩ (.int .i64 0)).setCell ⟨w.heap.size + 1, 2, none⟩ (.slice none 0 0)).setCell ⟨w.heap.size + 1, 3, none⟩ (.slice none 0 0)) := (((Only.setCell w1 (w.heap.size + 1) 0 _).trans (Only.setCell _ (w.heap.size + 1) 1 _)).trans (Only.setCell _ (w.heap.size + 1) 2 _)).trans (Only.setCell _ (w.heap.size + 1) 3 _)
        have kg : ((((w1.setCell ⟨w.heap.size + 1, 0, none⟩ (.int .i64 0)).setCell ⟨w.heap.size + 1, 1, none⟩ (.int .i64 0)).setCell ⟨w.heap.size + 1, 2, none⟩ (.slice none 0 0)).setCell ⟨w.heap.size + 1, 3, none⟩ (.slice none 0 0)).cell? ⟨5, 0, none⟩ = some (.iface 175 (.pointer (some a2))) := (World.cell?_of_block (a := ⟨5, 0, none⟩) (OF.block 5 (by have : 5 < w.heap.size := block_lt_of_cell h2.c; omega))).trans c2
        have RR := ZF.rangeG
        have NF := N.trans (OF.below (B := w.heap.size) (by omega))
        clear OF ZF
        go_wp2
        go_region
        all_goals
          go_wp2
          exact bodyPost_ret (v := .tuple #[.agg srZ.toArray, erV a2]) (results_twoN Tryz.results21 _ _ (w.heap.size + 1) srZ d1 (erV a2) rfl rfl RR hd1 hrow1 iSr) rfl ⟨NF.drew, .inr (.inr ⟨HG.out, HN.out, rfl⟩)⟩
  · have hkd : (decide (kl = 32) && decide (R.length = 12)) = false := by simpa using hg
    have HG := hide hg
    clear hg
    rw [hkd]
    clear hkd
    have ZF : RwC ((((w1.setCell ⟨w.heap.size + 1, 0, none⟩ (.int .i64 0)).setCell ⟨w.heap.size + 1, 1, none⟩ (.int .i64 0)).setCell ⟨w.heap.size + 1, 2, none⟩ (.slice none 0 0)).setCell ⟨w.heap.size + 1, 3, none⟩ (.slice none 0 0)) (w.heap.size + 1) [.int .i64 0, .int .i64 0, .slice none 0 0, .slice none 0 0] 57 := (((Z0.set 0 _).set 1 _).set 2 _).set 3 _
    have OF : Only (w.heap.size + 1) w1 ((((w1.setCell ⟨w.heap.size + 1, 0, none⟩ (.int .i64 0)).setCell ⟨w.heap.size + 1, 1, none⟩ (.int .i64 0)).setCell ⟨w.heap.size + 1, 2, none⟩ (.slice none 0 0)).setCell ⟨w.heap.size + 1, 3, none⟩ (.slice none 0 0)) := (((Only.setCell w1 (w.heap.size + 1) 0 _).trans (Only.setCell _ (w.heap.size + 1) 1 _)).trans (Only.setCell _ (w.heap.size + 1) 2 _)).trans (Only.setCell _ (w.heap.size + 1) 3 _)
    have kg : ((((w1.setCell ⟨w.heap.size + 1, 0, none⟩ (.int .i64 0)).setCell ⟨w.heap.size + 1, 1, none⟩ (.int .i64 0)).setCell ⟨w.heap.size + 1, 2, none⟩ (.slice none 0 0)).setCell ⟨w.heap.size + 1, 3, none⟩ (.slice none 0 0)).cell? ⟨4, 0, none⟩ = some (.iface 175 (.pointer (some a3))) := (World.cell?_of_block (a := ⟨4, 0, none⟩) (OF.block 4 (by have : 4 < w.heap.size := block_lt_of_cell h3.c; omega))).trans c3
    have RR := ZF.rangeG
    have NF := N.trans (OF.below (B := w.heap.size) (by omega))
    clear OF ZF
    go_wp2
    go_region
    all_goals
      go_wp2
      exact bodyPost_ret (v := .tuple #[.agg srZ.toArray, erV a3]) (results_twoN Tryz.results21 _ _ (w.heap.size + 1) srZ d1 (erV a3) rfl rfl RR hd1 hrow1 iSr) rfl ⟨NF.drew, .inr (.inl ⟨HG.out, rfl⟩)⟩
theorem lsts_twoN (w : World) (t : TypeId) (a b : Lst) : Lsts (w.alloc (.cells #[.slice a.a a.xs.length a.c, .slice b.a b.xs.length b.c] t)) w.heap.size [a, b] := by
  intro j x hj
  match j, hj with
  | 0, hj => simp at hj; subst hj; simp [World.cell?_alloc_at]
  | 1, hj => simp at hj; subst hj; simp [World.cell?_alloc_at]
theorem cat2N (a b : Lst) : cat [a, b] = a.xs ++ b.xs := by simp [cat]
set_option maxHeartbeats 4000000 in
theorem seal_any (w : World) (n : Int) (gk : Nat) (ak : Option Addr) (ck : Nat) (K : List Int) (hk : Rd w gk ak .u8 K) (bk : Byt K) (kk : K.length ≤ ck) (gn : Nat) (an : Option Addr) (cn : Nat) (M : List Int) (hm : Rd w gn an .u8 M) (bm : Byt M) (km : M.length ≤ cn)
    (gx : Nat) (ax : Option Addr) (cx : Nat) (xs : List Int) (hx : Rd w gx ax .u8 xs) (bx : Byt xs) (lx : xs.length ≤ 1048576) :
    Calls Tryz.prog 22 #[.agg #[.int .i64 23, .int .i64 n, .slice ak K.length ck, .slice an M.length cn], .slice ax xs.length cx] w fun e w' => ∃ v, e = .returned v ∧ RowB w' w.heap.size v (hdL 23 n ++ seA K M (hdL 23 n) xs) ∧ Below w.heap.size w w' := by
  have N : Below w.heap.size w (w.alloc (.cells #[.int .i64 23, .int .i64 n, .slice ak K.length ck, .slice an M.length cn] 57)) := (Below.refl _ _).alloc (Nat.le_refl _) _
  have B0 : RwC (w.alloc (.cells #[.int .i64 23, .int .i64 n, .slice ak K.length ck, .slice an M.length cn] 57)) w.heap.size [.int .i64 23, .int .i64 n, .slice ak K.length ck, .slice an M.length cn] 57 := RwC.new w _ _
  have HB := fun W => hide (headBytes_any W 23 n)
  have hdb : Byt (hdL 23 n) := byt_apd (bigL_byt _ _) (bigL_byt _ _)
  have hdl := hdL_len 23 n
  generalize hdL 23 n = H at *
  have SE := hide fun W (m : Below w.heap.size w W) ge ae ce (he : Rd W ge ae .u8 H) (en : ae = none → ce = 0) => implSeal_any W gk ak ck K (hk.up m) bk kk gn an cn M (hm.up m) bm km ge ae ce H he hdb en gx ax cx xs (hx.up m) bx (by omega)
  have SL : Hid ((seA K M H xs).length ≤ 1048592) := Nat.le_trans (seA_len _ _ _ _) (by omega)
  generalize seA K M H xs = T at *
  have HDL := hide hdl
  clear hk hm hx bk bm bx kk km lx hdl hdb
  go_enter Tryz.func22, Tryz.ntmps22
  go_wp2_with fail
  generalize w.alloc (.cells #[.int .i64 23, .int .i64 n, .slice ak K.length ck, .slice an M.length cn] 57) = wa at *
  refine (HB _).out.mono ?_
  rintro e w1 ⟨v1, rfl, R1, m1⟩
  replace N := nxt N m1
  replace B0 := B0.up m1
  obtain ⟨a1, c1, g1, rfl, D1, z1, -, -⟩ := R1.rd
  have b2 : w1.cell? ⟨w.heap.size, 2, none⟩ = some (.slice ak K.length ck) := B0.cell 2
  have b3 : w1.cell? ⟨w.heap.size, 3, none⟩ = some (.slice an M.length cn) := B0.cell 3
  go_wp2_with fail
  refine (SE.out w1 N g1 a1 c1 D1 z1).mono ?_
  rintro e w2 ⟨⟨v2, rfl, R2⟩, m2⟩
  replace N := nxt N m2
  replace D1 := D1.up m2
  obtain ⟨a2, c2, g2, rfl, D2, z2, -, -⟩ := R2.rd
  clear b2 b3 B0 R1 R2 SE HB m1 m2
  have n3 : Below w2.heap.size w2 (w2.alloc (.cells #[.slice a1 H.length c1, .slice a2 T.length c2] 22)) := (Below.refl _ _).alloc (Nat.le_refl _) _
  have LS := lsts_twoN w2 22 ⟨g1, a1, c1, H⟩ ⟨g2, a2, c2, T⟩
  have CC := concatB_any (w2.alloc (.cells #[.slice a1 H.length c1, .slice a2 T.length c2] 22)) w2.heap.size 2 2 [⟨g1, a1, c1, H⟩, ⟨g2, a2, c2, T⟩] rfl (by omega) LS (by
    intro x hx
    simp only [List.mem_cons, List.not_mem_nil, or_false] at hx
    rcases hx with rfl | rfl
    · exact ⟨D1.up n3, z1⟩
    · exact ⟨D2.up n3, z2⟩) (by rw [cat2N, List.length_append]; have := HDL.out; show 0 < H.length + T.length; omega) (by rw [cat2N, List.length_append]; have := HDL.out; have := SL.out; show H.length + T.length ≤ _; omega)
  rw [cat2N] at CC
  replace CC := hide CC
  replace N := nxt N n3
  clear D1 D2 LS n3
  go_wp2_with fail
  refine CC.out.mono ?_
  rintro e w3 ⟨⟨v3, rfl, R3⟩, m3⟩
  go_wp2
  go_ret
  exact ⟨_, rfl, R3.base N.size, nxt N m3⟩
end Go.Proofs.YtjfggcefdobooaaGreatDoor
namespace Go.Proofs.YtjfggcefdobooaaGreatDoor
set_option maxRecDepth 100000
open Go Go.RowKit
theorem rnA_12 (V : List Int) (q : Int) : (rnA V q).length = 12 ↔ V.length = 12 ∧ 0 ≤ q ∧ q ≤ 4294967295 := by
  unfold rnA
  split
  · next h => rw [nzT_len]; exact ⟨fun _ => h, fun _ => h.1⟩
  · next h => exact ⟨fun e => by simp at e, fun e => absurd e h⟩
theorem xrB_byt {a b : Int} (h1 : 0 ≤ a ∧ a < 256) (h2 : 0 ≤ b ∧ b < 256) : 0 ≤ xrB a b ∧ xrB a b < 256 := xr_byt h1 h2
theorem byt_setN {zs : List Int} (h : Byt zs) (i : Nat) (z : Int) (hz : 0 ≤ z ∧ z < 256) : Byt (zs.set i z) := fun j => by
  by_cases e : i = j
  · subst e
    by_cases l : i < zs.length
    · rw [getD_set_self _ _ _ l]; exact hz
    · rw [List.getD_eq_getElem?_getD, List.getElem?_eq_none (by rw [List.length_set]; omega)]; simp
  · rw [getD_set_ne _ _ _ _ e]; exact h j
theorem nzT_byt {zs B : List Int} (h : Byt zs) (hb : Byt B) : ∀ j, Byt (nzT zs B j)
  | 0 => h
  | j + 1 => byt_setN (nzT_byt h hb j) _ _ (xrB_byt (nzT_byt h hb j _) (hb j))
theorem rnA_byt {V : List Int} (h : Byt V) (q : Int) : Byt (rnA V q) := by
  unfold rnA
  split
  · exact nzT_byt h (bigL_byt _ _) 8
  · intro i; simp
theorem inL_byt (k : Int) {xs : List Int} (h : Byt xs) (pad : Nat) : Byt (inL k xs pad) := byt_apd h (byt_apd (bigL_byt _ _) (byt_rep0 _))
def okI (k : Int) (n : Nat) : Prop := isK k = true ∧ n ≤ 2048 ∧ ¬ (n = 0 ∧ k ≠ 23)
def okP (K V : List Int) (q k : Int) (n : Nat) (pad : Int) : Prop := (K.length = 32 ∧ (rnA V q).length = 12) ∧ okI k n ∧ 0 ≤ pad ∧ pad ≤ 256
def szP (n : Nat) (pad : Int) : Int := (n : Int) + 1 + pad + 16
def prL (K M : List Int) (k : Int) (xs : List Int) (pad : Int) : List Int := hdL 23 (szP xs.length pad) ++ seA K M (hdL 23 (szP xs.length pad)) (inL k xs pad.toNat)
def okD (K V : List Int) (q k : Int) (n : Nat) (pad : Int) : Decidable (okP K V q k n pad) := by unfold okP okI; infer_instance
def prA (K V : List Int) (q k : Int) (xs : List Int) (pad : Int) : List Int := @ite _ (okP K V q k xs.length pad) (okD K V q k xs.length pad) (prL K (rnA V q) k xs pad) []
theorem ifV_ok {a1 a6 a7 : Addr} {k : Int} {n : Nat} (h : okI k n) : ifV a1 a6 a7 k n = .nilIface := by
  unfold ifV
  rw [if_pos h.1, if_neg (by have := h.2.1; omega), if_neg h.2.2]
theorem ifV_bad {a1 a6 a7 : Addr} {k : Int} {n : Nat} (h : ¬ okI k n) : ∃ a', ifV a1 a6 a7 k n = .iface 175 (.pointer (some a')) := by
  unfold ifV
  by_cases hk : isK k = true
  · rw [if_pos hk]
    by_cases hm : 2048 < n
    · rw [if_pos hm]; exact ⟨a6, rfl⟩
    · rw [if_neg hm, if_pos (Classical.byContradiction fun c => h ⟨hk, by omega, c⟩)]
      exact ⟨a7, rfl⟩
  · rw [if_neg hk]; exact ⟨a1, rfl⟩
set_option maxHeartbeats 4000000 in
theorem implProtect_any (w : World) (gk : Nat) (ak : Option Addr) (ck : Nat) (K : List Int) (hk : Rd w gk ak .u8 K) (bk : Byt K) (kk : K.length ≤ ck) (gi : Nat) (ai : Option Addr) (ci : Nat) (V : List Int) (hi : Rd w gi ai .u8 V) (bi : Byt V) (zi : ai = none → ci = 0) (q k : Int)
    (gx : Nat) (ax : Option Addr) (cx : Nat) (xs : List Int) (hx : Rd w gx ax .u8 xs) (bx : Byt xs) (zx : ax = none → cx = 0) (pad : Int) (a1 a2 a3 a6 a7 : Addr) (h1 : Sen w 1 a1) (h2 : Sen w 5 a2) (h3 : Sen w 4 a3) (h6 : Sen w 2 a6) (h7 : Sen w 3 a7) :
    Calls Tryz.prog 5 #[.agg #[.slice ak K.length ck, .slice ai V.length ci], .int .i64 q, .int .i64 k, .slice ax xs.length cx, .int .i64 pad] w fun e w' => ∃ v, e = .returned v ∧ RowB w' w.heap.size v (prA K V q k xs pad) ∧ Below w.heap.size w w' := by
  have n1 : Below w.heap.size w (w.alloc (.cells #[.slice ak K.length ck, .slice ai V.length ci] 24)) := (Below.refl _ _).alloc (Nat.le_refl _) _
  have B0 : RwC (w.alloc (.cells #[.slice ak K.length ck, .slice ai V.length ci] 24)) w.heap.size [.slice ak K.length ck, .slice ai V.length ci] 24 := RwC.new w _ _
  have FA := hide fun W (m : Below w.heap.size w W) => partFault_any W k ax xs.length cx a1 a6 a7 (h1.up m) (h6.up m) (h7.up m)
  have PD := hide fun W (m : Below w.heap.size w W) (hp : 0 ≤ pad ∧ pad ≤ 256) (l : xs.length ≤ 2048) => padded_any W k ⟨gx, ax, cx, xs⟩ (hx.up m) zx (by show xs.length ≤ _; omega) pad.toNat (by omega)
  have NS := hide fun W (m : Below w.heap.size w W) n => newSealed_any W ak K.length ck gi ai ci V (hi.up m) zi q n a2 a3 (h2.up m) (h3.up m)
  have SL := hide fun W (m : Below w.heap.size w W) n gn an cn (hm : Rd W gn an .u8 (rnA V q)) (km : (rnA V q).length ≤ cn) gy ay cy ys (hy : Rd W gy ay .u8 ys) (by' : Byt ys) (ly : ys.length ≤ 1048576) => seal_any W n gk ak ck K (hk.up m) bk kk gn an cn (rnA V q) hm (rnA_byt bi q) km gy ay cy ys hy by' ly
  have IB := hide (inL_byt k bx)
  clear hk bk kk hi bi hx bx zx h1 h2 h3 h6 h7 zi
  by_cases hI : okI k xs.length
  · rw [ifV_ok hI] at FA
    by_cases hp : 0 ≤ pad ∧ pad ≤ 256
    · have q1 : decide (pad < 0) = false := by simp; omega
      have q2 : decide (256 < pad) = false := by simp; omega
      have hq := nil_neq
      have ep : Hid ((pad.toNat : Int) = pad) := by show _ = _; omega
      have HI := hide hI
      have HP := hide hp
      clear hI hp
      go_enter Tryz.func5, Tryz.ntmps5
      go_upto_region 1 with fail
      generalize w.alloc (.cells #[.slice ak K.length ck, .slice ai V.length ci] 24) = wa at *
      have n2 : Below wa.heap.size wa (wa.alloc (.cells #[.int .i64 k, .slice ax xs.length cx] 49)) := (Below.refl _ _).alloc (Nat.le_refl _) _
      have P0 : RwC (wa.alloc (.cells #[.int .i64 k, .slice ax xs.length cx] 49)) wa.heap.size [.int .i64 k, .slice ax xs.length cx] 49 := RwC.new wa _ _
      replace B0 := B0.up n2
      have N := nxt n1 n2
      clear n1 n2
      go_wp2_with fail
      generalize wa.alloc (.cells #[.int .i64 k, .slice ax xs.length cx] 49) = wb at *
      refine (FA.out wb N).mono ?_
      rintro e w1 ⟨rfl, m1⟩
      replace N := nxt N m1
      replace B0 := B0.up m1
      replace P0 := P0.up m1
      have p0 := P0.c0
      have p1 := P0.c1
      have PD1 := PD.out w1 N HP.out HI.out.2.1
      rw [ep.out] at PD1
      replace PD1 := hide PD1
      go_wp2_with fail
      refine PD1.out.mono ?_
      rintro e w2 ⟨v2, rfl, R2, m2⟩
      replace N := nxt N m2
      replace B0 := B0.up m2
      clear p0 p1 P0 PD1 m1 m2 FA PD
      have IL : Hid ((inL k xs pad.toNat).length = xs.length + 1 + pad.toNat) := inL_len k xs pad.toNat
      have IBy := hide (IB.out pad.toNat)
      have eA : Hid (prL K (rnA V q) k xs pad = hdL 23 (szP xs.length pad) ++ seA K (rnA V q) (hdL 23 (szP xs.length pad)) (inL k xs pad.toNat)) := rfl
      obtain ⟨a2', c2', g2', ev, D2, z2, -, -⟩ := R2.rd
      subst ev
      have eS : Hid (((inL k xs pad.toNat).length : Int) + 16 = szP xs.length pad) := by
        show _ = _
        unfold szP
        have := IL.out
        have := ep.out
        omega
      obtain ⟨Y, hY⟩ : ∃ Y, Y = inL k xs pad.toNat := ⟨_, rfl⟩
      rw [← hY] at R2 IL IBy eA D2 eS ⊢
      clear hY
      have b0 := B0.c0
      have b1 := B0.c1
      have NS1 := NS.out w2 N ((Y.length : Int) + 16)
      replace NS1 := hide NS1
      have sb : (Y.length : Int) ≤ 10000 := by have := IL.out; have := HI.out.2.1; have := HP.out; omega
      have n3 : ∀ vs : List Value, Below w2.heap.size w2 w2 := fun _ => Below.refl _ _
      clear n3
      go_wp2_with fail
      refine NS1.out.mono ?_
      rintro e w3 ⟨m3, hc⟩
      have N3 := nxt N m3
      have D3 := D2.up m3
      clear b0 b1 B0 NS1 NS sb
      rcases hc with ⟨g1, g2, g3, g4, an, cn, rfl, R3⟩ | ⟨hb, rfl⟩ | ⟨hg, hb, rfl⟩
      · have eP : Hid (prA K V q k xs pad = prL K (rnA V q) k xs pad) := by show _ = _; rw [prA, if_pos ⟨⟨g1, g2⟩, HI.out, HP.out⟩]
        obtain ⟨an', cn', gn, ev, D4, z4, k4, -⟩ := R3.rd
        simp only [Value.slice.injEq] at ev
        obtain ⟨rfl, -, rfl⟩ := ev
        have G := hide (⟨g1, g2, g3, g4⟩ : _ ∧ _ ∧ _ ∧ _)
        clear g1 g2 g3 g4
        obtain ⟨s, hs⟩ : ∃ s, s = (Y.length : Int) + 16 := ⟨_, rfl⟩
        rw [← hs] at eS ⊢
        clear hs
        have n4 : Below w3.heap.size w3 (w3.alloc (.cells #[.int .i64 23, .int .i64 s, .slice ak K.length ck, .slice an (rnA V q).length cn] 57)) := (Below.refl _ _).alloc (Nat.le_refl _) _
        have S0 : RwC (w3.alloc (.cells #[.int .i64 23, .int .i64 s, .slice ak K.length ck, .slice an (rnA V q).length cn] 57)) w3.heap.size [.int .i64 23, .int .i64 s, .slice ak K.length ck, .slice an (rnA V q).length cn] 57 := RwC.new w3 _ _
        have N4 := nxt N3 n4
        have SL4 := hide (SL.out _ N4 s gn an cn (D4.up n4) k4 g2' a2' c2' Y (D3.up n4) IBy.out (by have := IL.out; have := HI.out.2.1; have := HP.out; omega))
        rw [eS.out] at SL4
        clear D3 D4 R3 R2 D2 SL n4
        have s0 := S0.c0
        have s1 := S0.c1
        have s2 := S0.c2
        have s3 : (w3.alloc (.cells #[.int .i64 23, .int .i64 s, .slice ak K.length ck, .slice an (rnA V q).length cn] 57)).cell? ⟨w3.heap.size, 3, none⟩ = some (.slice an (rnA V q).length cn) := S0.cell 3
        rw [eS.out] at *
        go_wp2_with fail
        refine SL4.out.mono ?_
        rintro e w5 ⟨v5, rfl, R5, m5⟩
        go_wp2
        go_ret
        exact ⟨_, rfl, by rw [eP.out, eA.out]; exact R5.base N4.size, nxt N4 m5⟩
      · have eP : Hid (prA K V q k xs pad = []) := by show _ = _; rw [prA, if_neg (fun h => hb h.1)]
        have he := er_neq a3
        have n4 : Below w3.heap.size w3 (w3.alloc (.cells #[.int .i64 0, .int .i64 0, .slice none 0 0, .slice none 0 0] 57)) := (Below.refl _ _).alloc (Nat.le_refl _) _
        clear D3 R2 D2 SL hb
        unfold erV
        go_wp2
        go_ret
        exact ⟨_, rfl, by rw [eP.out]; exact RowB.nilN _ _, nxt N3 n4⟩
      · exfalso
        have := IL.out
        have := HI.out.2.1
        have := HP.out
        omega
    · have eP : Hid (prA K V q k xs pad = []) := by show _ = _; rw [prA, if_neg (fun h => hp h.2.2)]
      have hq := nil_neq
      clear PD NS SL IB
      rcases (by omega : pad < 0 ∨ 256 < pad) with h | h
      · have q1 : decide (pad < 0) = true := by simpa using h
        clear hp h hI
        go_enter Tryz.func5, Tryz.ntmps5
        go_upto_region 1 with fail
        generalize w.alloc (.cells #[.slice ak K.length ck, .slice ai V.length ci] 24) = wa at *
        have n2 : Below wa.heap.size wa (wa.alloc (.cells #[.int .i64 k, .slice ax xs.length cx] 49)) := (Below.refl _ _).alloc (Nat.le_refl _) _
        have N := nxt n1 n2
        clear n1 n2 B0
        go_wp2_with fail
        generalize wa.alloc (.cells #[.int .i64 k, .slice ax xs.length cx] 49) = wb at *
        refine (FA.out wb N).mono ?_
        rintro e w1 ⟨rfl, m1⟩
        go_wp2
        go_ret
        exact ⟨_, rfl, by rw [eP.out]; exact RowB.nilN _ _, nxt N m1⟩
      · have q1 : decide (pad < 0) = false := by simp; omega
        have q2 : decide (256 < pad) = true := by simpa using h
        clear hp h hI
        go_enter Tryz.func5, Tryz.ntmps5
        go_upto_region 1 with fail
        generalize w.alloc (.cells #[.slice ak K.length ck, .slice ai V.length ci] 24) = wa at *
        have n2 : Below wa.heap.size wa (wa.alloc (.cells #[.int .i64 k, .slice ax xs.length cx] 49)) := (Below.refl _ _).alloc (Nat.le_refl _) _
        have N := nxt n1 n2
        clear n1 n2 B0
        go_wp2_with fail
        generalize wa.alloc (.cells #[.int .i64 k, .slice ax xs.length cx] 49) = wb at *
        refine (FA.out wb N).mono ?_
        rintro e w1 ⟨rfl, m1⟩
        go_wp2
        go_ret
        exact ⟨_, rfl, by rw [eP.out]; exact RowB.nilN _ _, nxt N m1⟩
  · have eP : Hid (prA K V q k xs pad = []) := by show _ = _; rw [prA, if_neg (fun h => hI h.2.1)]
    obtain ⟨a', e1⟩ := ifV_bad (a1 := a1) (a6 := a6) (a7 := a7) hI
    rw [e1] at FA
    have hq := er_neq a'
    clear PD NS SL IB hI e1
    go_enter Tryz.func5, Tryz.ntmps5
    go_upto_region 1 with fail
    generalize w.alloc (.cells #[.slice ak K.length ck, .slice ai V.length ci] 24) = wa at *
    have n2 : Below wa.heap.size wa (wa.alloc (.cells #[.int .i64 k, .slice ax xs.length cx] 49)) := (Below.refl _ _).alloc (Nat.le_refl _) _
    have N := nxt n1 n2
    clear n1 n2 B0
    go_wp2_with fail
    generalize wa.alloc (.cells #[.int .i64 k, .slice ax xs.length cx] 49) = wb at *
    refine (FA.out wb N).mono ?_
    rintro e w1 ⟨rfl, m1⟩
    go_wp2
    go_ret
    exact ⟨_, rfl, by rw [eP.out]; exact RowB.nilN _ _, nxt N m1⟩
end Go.Proofs.YtjfggcefdobooaaGreatDoor
namespace Go.Proofs.YtjfggcefdobooaaGreatDoor
set_option maxRecDepth 100000
open Go Go.RowKit
def tz (xs : List Int) : Nat → Nat
  | 0 => 0
  | n + 1 => if xs.getD n 0 = 0 then tz xs n else n + 1
theorem tz_le (xs : List Int) : ∀ n, tz xs n ≤ n
  | 0 => Nat.le_refl _
  | n + 1 => by
    rw [tz]
    split
    · exact Nat.le_succ_of_le (tz_le xs n)
    · exact Nat.le_refl _
set_option maxHeartbeats 1000000 in
theorem trimByte_any (w : World) (g : Nat) (a : Option Addr) (c : Nat) (xs : List Int) (hr : Rd w g a .u8 xs) (hc : xs.length ≤ c) (hn : xs.length ≤ 4194304) :
    Calls Tryz.prog 85 #[.slice a xs.length c, .int .u8 0] w fun e w' => e = .returned (.slice a (tz xs xs.length) c) ∧ w' = w := by
  obtain ⟨N, hN⟩ : ∃ N, N = xs.length := ⟨_, rfl⟩
  rw [← hN] at hc hn ⊢
  have HN := hide hN
  clear hN
  go_enter Tryz.func85, Tryz.ntmps85
  go_wp2
  go_loopw [0] (fun v wr => ∃ m : Nat, m ≤ N ∧ v = .slice a m c ∧ Hid (tz xs m = tz xs N) ∧ wr = w) (fun v _ => (match v with | .slice _ m _ => m | _ => 0))
  case atStart => exact ⟨N, Nat.le_refl _, rfl, rfl, rfl⟩
  case round =>
    obtain ⟨m, hm, rfl, ht, rfl⟩ := hrel
    by_cases h0 : 0 < m
    · obtain ⟨off, ha, hcell⟩ := hr (by rw [← HN.out]; omega)
      subst ha
      obtain ⟨k, rfl⟩ : ∃ k, m = k + 1 := ⟨m - 1, by omega⟩
      have hc1 := hcell k (by rw [← HN.out]; omega)
      have kb : (k : Int) ≤ 4194304 := by omega
      have q0 : (0 : Int) < (k : Int) + 1 := by omega
      have k1 : (k : Int) < (k : Int) + 1 := by omega
      have k2 : (k : Int) ≤ (c : Int) := by omega
      have k3 : (0 : Int) ≤ (k : Int) := by omega
      by_cases hz : xs.getD k 0 = 0
      · have ht' : Hid (tz xs k = tz xs N) := by
          show _ = _
          rw [← ht.out, tz, if_pos hz]
        rw [hz] at hc1
        clear hz ht hcell
        go_wp2
        go_roundw
        case rel => exact ⟨k, by omega, rfl, ht', trivial⟩
        case measure => simp
      · have ht' : Hid (tz xs N = k + 1) := by
          show _ = _
          rw [← ht.out, tz, if_neg hz]
        obtain ⟨x, hx⟩ : ∃ x, x = xs.getD k 0 := ⟨_, rfl⟩
        rw [← hx] at hc1 hz
        have hz1 : (x == 0) = false := by simp [hz]
        have hz2 : decide (x = 0) = false := by simp [hz]
        clear hx ht hcell
        go_wp2
        go_ret
        exact ⟨by rw [ht'.out]; rfl, rfl⟩
    · obtain rfl : m = 0 := by omega
      have ht' : Hid (tz xs N = 0) := by show _ = _; rw [← ht.out]; rfl
      clear ht
      go_wp2
      go_ret
      exact ⟨by rw [ht'.out]; rfl, rfl⟩
set_option maxHeartbeats 1000000 in
theorem trimRight_any (w : World) (g : Nat) (a : Option Addr) (c : Nat) (xs : List Int) (hr : Rd w g a .u8 xs) (hc : xs.length ≤ c) (hn : xs.length ≤ 4194304) :
    Calls Tryz.prog 66 #[.slice a xs.length c, .string ⟨#[0]⟩] w fun e w' => e = .returned (.slice a (tz xs xs.length) c) ∧ w' = w := by
  have TB := hide (trimByte_any w g a c xs hr hc hn)
  by_cases h0 : xs.length = 0
  · have hl : Hid (tz xs xs.length = 0) := by show _ = _; rw [h0]; rfl
    rw [h0] at hl ⊢
    clear TB hr hc h0 hn
    go_enter Tryz.func66, Tryz.ntmps66
    go_wp2
    go_ret
    exact ⟨by rw [hl.out]; rfl, rfl⟩
  · have q0 : ((xs.length : Int) == 0) = false := beq_eq_false_iff_ne.2 (by omega)
    have q1 : decide ((xs.length : Int) = 0) = false := decide_eq_false (by omega)
    clear hr hc h0 hn
    go_enter Tryz.func66, Tryz.ntmps66
    go_wp2_with fail
    refine TB.out.mono ?_
    rintro e w' ⟨rfl, rfl⟩
    go_wp2
    go_ret
    exact ⟨rfl, rfl⟩
end Go.Proofs.YtjfggcefdobooaaGreatDoor
namespace Go.Proofs.YtjfggcefdobooaaGreatDoor
set_option maxRecDepth 100000
open Go Go.RowKit
def inK (xs : List Int) : Int := xs.getD (tz xs xs.length - 1) 0
def inD (xs : List Int) : List Int := xs.take (tz xs xs.length - 1)
def riE (a1 a5 a6 a7 : Addr) (xs : List Int) : Option Addr :=
  if tz xs xs.length = 0 then some a5 else if isK (inK xs) = true then (if 2048 < (inD xs).length then some a6 else if (inD xs).length = 0 ∧ inK xs ≠ 23 then some a7 else none) else some a1
theorem ifV_E (a1 a6 a7 : Addr) (k : Int) (n : Nat) : ifV a1 a6 a7 k n = (if isK k = true then (if 2048 < n then some a6 else if n = 0 ∧ k ≠ 23 then some a7 else none) else some a1).elim .nilIface erV := by
  unfold ifV
  split
  · split
    · rfl
    · split
      · rfl
      · rfl
  · rfl
theorem iIp : (Tryz.prog.info? 49).map (·.size) = some 2 := by kernel_rfl
theorem rowIp : ∃ d, Tryz.prog.underlying 49 = some d ∧ d.isRow = true := ⟨_, Tryz.underlying49, rfl⟩
theorem oneIp (k : Int) (a : Option Addr) (n c : Nat) : ([.int .i64 k, .slice a n c] : List Value).toArray.all (·.oneCell') = true := all_oneCell_toArray fun v hv => by
  simp only [List.mem_cons, List.not_mem_nil, or_false] at hv
  rcases hv with rfl | rfl
  all_goals rfl
def Kdf (b : Nat) (k : Int) (D : List Int) : Fact := ⟨fun v w => ∃ a c, v = .agg #[.int .i64 k, .slice a D.length c] ∧ RowB w b (.slice a D.length c) D, fun n h => by
  obtain ⟨a, c, e, r⟩ := h
  exact ⟨a, c, e, r.up n⟩⟩
theorem step_newIp {ops : Array Oper} {Q : Exit → Act → World → Prop} {md : Region.Mode} {F : Nat → Fact} {a0 : Act} {w0 : World} {i : Nat} {o : Oper} (hi : ops[i]? = some o) (hop : o.op = .alloc 49) (hF : F i = NBt w0.heap.size 49 [.int .i64 0, .slice none 0 0]) : StepOk Tryz.prog md ops Q F a0 w0 i := by
  refine step_grow hi fun a w _ hw _ => ⟨.pointer (some ⟨w.heap.size, 0, none⟩), w.alloc (.cells #[.int .i64 0, .slice none 0 0] 49), ?_, (Below.refl _ _).alloc (Nat.le_refl _) _, ?_⟩
  · simp only [execOp, hop]
    kernel_rfl
  · rw [hF]
    exact ⟨_, rfl, hw.size, RwC.new w _ _⟩
set_option maxHeartbeats 4000000 in
theorem readInside_any (w : World) (g : Nat) (a : Option Addr) (c : Nat) (xs : List Int) (hr : Rd w g a .u8 xs) (hb : Byt xs) (hc : xs.length ≤ c) (hn : xs.length ≤ 1048576) (a1 a5 a6 a7 : Addr) (h1 : Sen w 1 a1) (h5 : Sen w 7 a5) (h6 : Sen w 2 a6) (h7 : Sen w 3 a7) :
    Calls Tryz.prog 54 #[.slice a xs.length c] w fun e w' => Below w.heap.size w w' ∧
      ((riE a1 a5 a6 a7 xs = none ∧ ∃ ad cd, e = .returned (.tuple #[.agg #[.int .i64 (inK xs), .slice ad (inD xs).length cd], .nilIface]) ∧ RowB w' w.heap.size (.slice ad (inD xs).length cd) (inD xs))
       ∨ (∃ x, riE a1 a5 a6 a7 xs = some x ∧ e = .returned (.tuple #[.agg #[.int .i64 0, .slice none 0 0], erV x]))) := by
  obtain ⟨d1, hd1, hrow1⟩ := rowIp
  have TR := hide fun W (m : Below w.heap.size w W) => trimRight_any W g a c xs (hr.up m) hc (by omega)
  have n0 : Below w.heap.size w (w.alloc (.cells #[.int .i64 0, .slice none 0 0] 49)) := (Below.refl _ _).alloc (Nat.le_refl _) _
  have Z0 : RwC (w.alloc (.cells #[.int .i64 0, .slice none 0 0] 49)) w.heap.size [.int .i64 0, .slice none 0 0] 49 := RwC.new w _ _
  have r1 := hr.up n0
  have c5 := (h5.up n0).c
  have FA := hide fun W (m : Below w.heap.size w W) ad cd => partFault_any W (inK xs) ad (inD xs).length cd a1 a6 a7 (h1.up m) (h6.up m) (h7.up m)
  have s5 := h5.c
  have tl := tz_le xs xs.length
  obtain ⟨M, hM⟩ : ∃ M, M = tz xs xs.length := ⟨_, rfl⟩
  have eR : Hid (riE a1 a5 a6 a7 xs = if M = 0 then some a5 else if isK (inK xs) = true then (if 2048 < (inD xs).length then some a6 else if (inD xs).length = 0 ∧ inK xs ≠ 23 then some a7 else none) else some a1) := by show _ = _; rw [hM]; rfl
  have eK : Hid (inK xs = xs.getD (M - 1) 0) := by show _ = _; rw [hM]; rfl
  have eD : Hid (inD xs = xs.take (M - 1)) := by show _ = _; rw [hM]; rfl
  rw [← hM] at TR tl
  clear hM hr
  by_cases hm : M = 0
  · subst hm
    unfold erV at c5
    have ZF : RwC (((w.alloc (.cells #[.int .i64 0, .slice none 0 0] 49)).setCell ⟨w.heap.size, 0, none⟩ (.int .i64 0)).setCell ⟨w.heap.size, 1, none⟩ (.slice none 0 0)) w.heap.size [.int .i64 0, .slice none 0 0] 49 := (Z0.set 0 _).set 1 _
    have OF : Only w.heap.size (w.alloc (.cells #[.int .i64 0, .slice none 0 0] 49)) (((w.alloc (.cells #[.int .i64 0, .slice none 0 0] 49)).setCell ⟨w.heap.size, 0, none⟩ (.int .i64 0)).setCell ⟨w.heap.size, 1, none⟩ (.slice none 0 0)) := (Only.setCell _ w.heap.size 0 _).trans (Only.setCell _ w.heap.size 1 _)
    have kg : (((w.alloc (.cells #[.int .i64 0, .slice none 0 0] 49)).setCell ⟨w.heap.size, 0, none⟩ (.int .i64 0)).setCell ⟨w.heap.size, 1, none⟩ (.slice none 0 0)).cell? ⟨7, 0, none⟩ = some (.iface 175 (.pointer (some a5))) := (World.cell?_of_block (a := ⟨7, 0, none⟩) (OF.block 7 (by have : 7 < w.heap.size := block_lt_of_cell s5; omega))).trans c5
    have RR := ZF.rangeG
    have NF := n0.trans (OF.below (B := w.heap.size) (Nat.le_refl _))
    have x0 := Z0.c0
    have x1 := Z0.c1
    have f0 := Z0.free 0
    have f1 := Z0.free 1
    clear OF ZF
    go_enter Tryz.func54, Tryz.ntmps54
    go_wp2_with fail
    generalize w.alloc (.cells #[.int .i64 0, .slice none 0 0] 49) = wa at *
    refine (TR.out wa n0).mono ?_
    rintro e w1 ⟨rfl, hw⟩
    have hw := hw.symm
    subst hw
    go_wp2
    go_region
    all_goals
      go_wp2
      exact bodyPost_ret (v := .tuple #[.agg #[.int .i64 0, .slice none 0 0], erV a5]) (results_twoN Tryz.results54 _ _ w.heap.size [.int .i64 0, .slice none 0 0] d1 (erV a5) rfl rfl RR hd1 hrow1 iIp) rfl ⟨NF.drew, .inr ⟨a5, by rw [eR.out, if_pos trivial], rfl⟩⟩
  · obtain ⟨m, rfl⟩ : ∃ m, M = m + 1 := ⟨M - 1, by omega⟩
    rw [Nat.add_sub_cancel] at eK eD
    obtain ⟨off, ha, hcell⟩ := r1 (by omega)
    subst ha
    have dl : Hid ((inD xs).length = m) := by show _ = _; rw [eD.out, List.length_take]; omega
    have hk8 : 0 ≤ inK xs ∧ inK xs < 256 := by rw [eK.out]; exact hb m
    have kc := hcell m (by omega)
    rw [← eK.out] at kc
    have RD : Rd (w.alloc (.cells #[.int .i64 0, .slice none 0 0] 49)) g (some ⟨g, off, none⟩) .u8 (inD xs) := fun h => ⟨off, rfl, fun i hi => by
      rw [hcell i (by rw [dl.out] at hi; omega), eD.out, List.getD_eq_getElem?_getD, List.getD_eq_getElem?_getD, List.getElem?_take, if_pos (by rw [dl.out] at hi; exact hi)]⟩
    obtain ⟨K, hK⟩ : ∃ K, K = inK xs := ⟨_, rfl⟩
    obtain ⟨D, hD⟩ : ∃ D, D = inD xs := ⟨_, rfl⟩
    rw [← hK] at FA kc hk8 ⊢
    rw [← hD] at FA dl RD ⊢
    rw [← hK, ← hD] at eR
    have er1 := er_neq
    have er2 := nil_neq
    have mb : (m : Int) ≤ 1048576 := by omega
    have m0 : ((m : Int) + 1 == 0) = false := beq_eq_false_iff_ne.2 (by omega)
    have m0' : decide ((m : Int) + 1 = 0) = false := decide_eq_false (by omega)
    clear hK hD hcell eK eD c5 h1 h5 h6 h7 hb
    go_enter Tryz.func54, Tryz.ntmps54
    go_wp2_with fail
    generalize w.alloc (.cells #[.int .i64 0, .slice none 0 0] 49) = wa at *
    refine (TR.out wa n0).mono ?_
    rintro e w1 ⟨rfl, hw⟩
    have hw := hw.symm
    subst hw
    clear TR
    go_upto_region 5 with fail
    have gl := block_lt_of_cell kc
    refine region_newT 11 10 9 6 27 _ (fun i => [Fact.eq (.slice (some ⟨g, off, none⟩) (m + 1) c), Fact.eq (.int .i64 (m : Int)), Fact.eq (.pointer (some ⟨g, off + m, none⟩)), Fact.eq (.int .u8 K), Fact.eq (.int .i64 K), Fact.eq (.slice (some ⟨g, off, none⟩) (m + 1) c), Fact.eq (.int .i64 (m : Int)), Fact.eq (.slice (some ⟨g, off, none⟩) m c), Rbg wa.heap.size D, Kdf wa.heap.size K D, NBt wa.heap.size 49 [.int .i64 0, .slice none 0 0]].getD i Fact.no) 49 [.int .i64 0, .slice none 0 0] (Kdf wa.heap.size K D) (by kernel_rfl) (by kernel_rfl) rfl rfl rfl iIp (by kernel_rfl) rfl (by kernel_rfl) rfl ?_ ?_ ?_
    · rintro v W ⟨ad, cd, rfl, -⟩
      exact ⟨[.int .i64 K, .slice ad D.length cd], rfl, rfl, oneIp _ _ _ _⟩
    · intro i hi
      obtain rfl | rfl | rfl | rfl | rfl | rfl | rfl | rfl | rfl | rfl | rfl : i = 0 ∨ i = 1 ∨ i = 2 ∨ i = 3 ∨ i = 4 ∨ i = 5 ∨ i = 6 ∨ i = 7 ∨ i = 8 ∨ i = 9 ∨ i = 10 := by omega
      · refine step_pure rfl fun A ww hb hw hf => ?_
        have e0 : A.tmps[4]?.getD undef = .slice (some ⟨g, off, none⟩) (m + 1) c := gdv (hb.2.2 4 (by kernel_rfl))
        exact ⟨_, by simp [go_sem, e0], rfl⟩
      · refine step_pure rfl fun A ww hb hw hf => ?_
        have e0 : A.tmps[5]?.getD undef = .int .i64 (m : Int) := gdv (hb.2.2 5 (by kernel_rfl))
        exact ⟨_, by simp [go_sem, e0], rfl⟩
      · refine step_pure rfl fun A ww hb hw hf => ?_
        have e0 : A.tmps[18]?.getD undef = .slice (some ⟨g, off, none⟩) (m + 1) c := gdv (hf 0 18 (by kernel_rfl))
        have e1 : A.tmps[19]?.getD undef = .int .i64 (m : Int) := gdv (hf 1 19 (by kernel_rfl))
        have m1 : (m : Int) < (m : Int) + 1 := by omega
        exact ⟨.pointer (some ⟨g, off + m, none⟩), by simp [go_sem, e0, e1]; intro h; omega, rfl⟩
      · refine step_pure rfl fun A ww hb hw hf => ?_
        have e0 : A.tmps[20]?.getD undef = .pointer (some ⟨g, off + m, none⟩) := gdv (hf 2 20 (by kernel_rfl))
        have hc : ww.cell? ⟨g, off + m, none⟩ = some (.int .u8 K) := (World.cell?_of_block (a := ⟨g, off + m, none⟩) (hw.block g gl)).trans kc
        exact ⟨.int .u8 K, by simp [go_sem, e0, hc], rfl⟩
      · refine step_pure rfl fun A ww hb hw hf => ?_
        have e0 : A.tmps[21]?.getD undef = .int .u8 K := gdv (hf 3 21 (by kernel_rfl))
        have hwr : IntKind.i64.wrap K = K := by rw [IntKind.wrap_i64]; omega
        exact ⟨.int .i64 K, by simp [go_sem, e0, hwr], rfl⟩
      · refine step_pure rfl fun A ww hb hw hf => ?_
        have e0 : A.tmps[4]?.getD undef = .slice (some ⟨g, off, none⟩) (m + 1) c := gdv (hb.2.2 4 (by kernel_rfl))
        exact ⟨_, by simp [go_sem, e0], rfl⟩
      · refine step_pure rfl fun A ww hb hw hf => ?_
        have e0 : A.tmps[5]?.getD undef = .int .i64 (m : Int) := gdv (hb.2.2 5 (by kernel_rfl))
        exact ⟨_, by simp [go_sem, e0], rfl⟩
      · refine step_pure rfl fun A ww hb hw hf => ?_
        have e0 : A.tmps[23]?.getD undef = .slice (some ⟨g, off, none⟩) (m + 1) c := gdv (hf 5 23 (by kernel_rfl))
        have e1 : A.tmps[24]?.getD undef = .int .i64 (m : Int) := gdv (hf 6 24 (by kernel_rfl))
        exact ⟨.slice (some ⟨g, off, none⟩) m c, by simp [go_sem, e0, e1]; intro h; omega, rfl⟩
      · refine step_callv rfl 33 _ _ rfl (by kernel_rfl) fun A ww hb hw hf => ?_
        have e6 : A.tmps.getD 25 undef = .slice (some ⟨g, off, none⟩) m c := hf 7 25 (by kernel_rfl)
        show Calls Tryz.prog 33 #[A.tmps.getD 25 undef] ww _
        rw [e6]
        have CL := cloneR_any ww g (some ⟨g, off, none⟩) c D (RD.up hw) (by simp) (by rw [dl.out]; omega)
        rw [dl.out] at CL
        refine CL.mono ?_
        rintro r w' ⟨x, rfl, R, n⟩
        exact ⟨x, rfl, n, R.base hw.size⟩
      · refine step_pure rfl fun A ww hb hw hf => ?_
        have e0 : A.tmps[22]?.getD undef = .int .i64 K := gdv (hf 4 22 (by kernel_rfl))
        have r8 : RowB ww wa.heap.size (A.tmps.getD 26 undef) D := hf 8 26 (by kernel_rfl)
        obtain ⟨ad, cd, gd, ev, -⟩ := r8.own
        rw [ev] at r8
        have e1 : A.tmps[26]?.getD undef = .slice ad D.length cd := gdv ev
        refine ⟨.agg #[.int .i64 K, .slice ad D.length cd], ?_, ad, cd, rfl, r8⟩
        simp [go_sem, e0, e1]
      · exact step_newIp rfl rfl rfl
    · intro vs W W5 q cs vq hq hw rq hG OQ rc hW
      obtain ⟨ad, cd, ec, rd⟩ := hG
      simp only [Value.agg.injEq, Array.mk.injEq] at ec
      subst ec
      have R5 := rd.onlyT OQ rq (by decide)
      have wl : w.heap.size < wa.heap.size := Z0.lt
      have Z5 := (Z0.up hw).onl OQ (by omega)
      have N5 := nxt n0 hW
      simp only [puts, vq, Act.put, List.setIfInBounds_toArray, List.set_cons_succ, List.set_cons_zero]
      have qc0 := rc.c0
      have qc1 := rc.c1
      generalize vs 18 = y18 at *
      generalize vs 19 = y19 at *
      generalize vs 20 = y20 at *
      generalize vs 21 = y21 at *
      generalize vs 22 = y22 at *
      generalize vs 23 = y23 at *
      generalize vs 24 = y24 at *
      generalize vs 25 = y25 at *
      generalize vs 26 = y26 at *
      generalize vs 27 = y27 at *
      have FA5 := FA.out W5 N5 ad cd
      rw [ifV_E] at FA5
      obtain ⟨E, hE⟩ : ∃ E, E = (if isK K = true then (if 2048 < D.length then some a6 else if D.length = 0 ∧ K ≠ 23 then some a7 else none) else some a1) := ⟨_, rfl⟩
      have eR3 : Hid (riE a1 a5 a6 a7 xs = E) := by show _ = _; rw [eR.out, if_neg (by omega), hE]
      rw [← hE] at FA5
      replace FA5 := hide FA5
      clear rd OQ rq hw Z0 RD r1 kc FA eR hE vq
      cases E with
      | none =>
        replace FA5 : Hid (Calls Tryz.prog 19 #[.agg #[.int .i64 K, .slice ad D.length cd]] W5 fun e w' => e = .returned .nilIface ∧ Below W5.heap.size W5 w') := FA5
        go_wp2_with fail
        refine FA5.out.mono ?_
        rintro e W6 ⟨rfl, m6⟩
        have N6 := nxt N5 m6
        have Z6 := Z5.up m6
        have R6 := R5.up m6
        have C6 := rc.up m6
        clear FA5 qc0 qc1 rc R5 Z5 N5 m6 hW
        have x0 := Z6.c0
        have x1 := Z6.c1
        have f0 := Z6.free 0
        have f1 := Z6.free 1
        have y0 := C6.c0
        have y1 := C6.c1
        have hqw : q ≠ w.heap.size := by omega
        have ZF : RwC ((W6.setCell ⟨w.heap.size, 0, none⟩ (.int .i64 K)).setCell ⟨w.heap.size, 1, none⟩ (.slice ad D.length cd)) w.heap.size [.int .i64 K, .slice ad D.length cd] 49 := (Z6.set 0 _).set 1 _
        have OF : Only w.heap.size W6 ((W6.setCell ⟨w.heap.size, 0, none⟩ (.int .i64 K)).setCell ⟨w.heap.size, 1, none⟩ (.slice ad D.length cd)) := (Only.setCell _ w.heap.size 0 _).trans (Only.setCell _ w.heap.size 1 _)
        have RR := ZF.rangeG
        have NF := N6.trans (OF.below (B := w.heap.size) (Nat.le_refl _))
        have R7 := R6.only OF (by omega)
        clear OF ZF
        go_wp2
        exact bodyPost_ret (v := .tuple #[.agg #[.int .i64 K, .slice ad D.length cd], .nilIface]) (results_twoN Tryz.results54 _ _ w.heap.size [.int .i64 K, .slice ad D.length cd] d1 .nilIface rfl rfl RR hd1 hrow1 iIp) rfl ⟨NF, .inl ⟨eR3.out, ad, cd, rfl, R7.base (by omega)⟩⟩
      | some x =>
        replace FA5 : Hid (Calls Tryz.prog 19 #[.agg #[.int .i64 K, .slice ad D.length cd]] W5 fun e w' => e = .returned (.iface 175 (.pointer (some x))) ∧ Below W5.heap.size W5 w') := FA5
        go_wp2_with fail
        refine FA5.out.mono ?_
        rintro e W6 ⟨rfl, m6⟩
        have N6 := nxt N5 m6
        have Z6 := Z5.up m6
        have R6 := R5.up m6
        have C6 := rc.up m6
        clear FA5 qc0 qc1 rc R5 Z5 N5 m6 hW
        have x0 := Z6.c0
        have x1 := Z6.c1
        have f0 := Z6.free 0
        have f1 := Z6.free 1
        have y0 := C6.c0
        have y1 := C6.c1
        have hqw : q ≠ w.heap.size := by omega
        have ZF : RwC ((W6.setCell ⟨w.heap.size, 0, none⟩ (.int .i64 0)).setCell ⟨w.heap.size, 1, none⟩ (.slice none 0 0)) w.heap.size [.int .i64 0, .slice none 0 0] 49 := (Z6.set 0 _).set 1 _
        have OF : Only w.heap.size W6 ((W6.setCell ⟨w.heap.size, 0, none⟩ (.int .i64 0)).setCell ⟨w.heap.size, 1, none⟩ (.slice none 0 0)) := (Only.setCell _ w.heap.size 0 _).trans (Only.setCell _ w.heap.size 1 _)
        have RR := ZF.rangeG
        have NF := N6.trans (OF.below (B := w.heap.size) (Nat.le_refl _))
        clear OF ZF
        go_wp2
        exact bodyPost_ret (v := .tuple #[.agg #[.int .i64 0, .slice none 0 0], erV x]) (results_twoN Tryz.results54 _ _ w.heap.size [.int .i64 0, .slice none 0 0] d1 (erV x) rfl rfl RR hd1 hrow1 iIp) rfl ⟨NF, .inr ⟨x, eR3.out, rfl⟩⟩
end Go.Proofs.YtjfggcefdobooaaGreatDoor
namespace Go.Proofs.YtjfggcefdobooaaGreatDoor
set_option maxRecDepth 100000
open Go Go.RowKit
theorem cells8 : Tryz.prog.cellsOf 5 = 1 := by kernel_rfl
theorem part8 (w : World) (xs : List Int) (i : Nat) (h : i < xs.length) : (part 5 (xs.map (Value.int .u8)).toArray (i * 1)).run Tryz.prog w = .ok (.int .u8 (xs.getD i 0)) w := by
  have u3 := Tryz.underlying5
  have a3' := Tryz.isAgg5
  have z3 := Tryz.sizeOf5
  rw [Nat.mul_one]
  go_simp
theorem eqItems8 (w : World) (d : Nat) (xs ys : List Int) : ∀ is : List Nat, (∀ i ∈ is, i < xs.length ∧ i < ys.length) →
    (Op.eqItems (d + 1) 5 1 (xs.map (Value.int .u8)).toArray (ys.map (Value.int .u8)).toArray is).run Tryz.prog w = .ok (is.all fun i => xs.getD i 0 == ys.getD i 0) w
  | [], _ => by simp [Op.eqItems]
  | i :: is, h => by
    have h1 := h i (by simp)
    have ih := eqItems8 w d xs ys is (fun j hj => h j (by simp [hj]))
    simp only [Op.eqItems, Sem.run_bind, part8 w xs i h1.1, part8 w ys i h1.2, Result.andThen_ok, run_equalIn_int w d 5 .u8 .u8 _ _ Tryz.underlying5]
    rw [List.all_cons]
    cases (xs.getD i 0 == ys.getD i 0)
    · simp only [Bool.not_false, if_true, Sem.run_pure, Bool.false_and]
    · simp only [Bool.not_true, Bool.false_eq_true, if_false, Bool.true_and]
      exact ih
set_option maxRecDepth 100000 in
theorem eq16 (w : World) (xs ys : List Int) (hx : xs.length = 16) (hy : ys.length = 16) :
    (Op.equalIn 10000 98 (.agg (xs.map (Value.int .u8)).toArray) (.agg (ys.map (Value.int .u8)).toArray)).run Tryz.prog w = .ok (decide (xs = ys)) w := by
  obtain ⟨i0, hi, _⟩ := info_parts Tryz.info5
  rw [show (10000 : Nat) = 9999 + 1 from rfl, run_equalIn_array w 9999 _ _ undP16 hi, cells8, show (9999 : Nat) = 9998 + 1 from rfl, eqItems8 w 9998 xs ys (List.range 16) (fun i hi => by rw [hx, hy]; have := List.mem_range.1 hi; exact ⟨this, this⟩)]
  congr 1
  by_cases e : xs = ys
  · subst e; simp
  · rw [decide_eq_false e]
    cases hq : (List.range 16).all fun i => xs.getD i 0 == ys.getD i 0
    · rfl
    · exfalso
      rw [List.all_eq_true] at hq
      exact e (eq_of_getD (by rw [hx, hy]) (fun i hi => by have := hq i (List.mem_range.2 (by omega)); simpa using this))
end Go.Proofs.YtjfggcefdobooaaGreatDoor
