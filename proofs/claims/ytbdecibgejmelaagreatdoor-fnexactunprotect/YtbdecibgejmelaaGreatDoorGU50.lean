import Derived.Test.YtbdecibgejmelaaGreatDoorGU49
import Derived.Test.YtbdecibgejmelaaGreatDoorGU48
import Derived.Test.YtbdecibgejmelaaGreatDoorHelp
import Derived.Deep.DeepCutAuto

/-
  The model's Open (written by gens/pzg.py).
-/
namespace Go.Proofs.YtbdecibgejmelaaGreatDoor
set_option maxRecDepth 100000
open Go Go.RowKit

theorem opT_opS (sd : List Int) : opT sd ++ opS sd = sd := List.take_append_drop _ _
theorem seal_back {key non ex sd : List Int} (hk : fitK key non = true) (db : Byt sd) : decide (seA key non ex (xt key non (opT sd)) = sd) = decide (ssB (nsW key non) ex (opT sd) = opS sd) := by
  have h : seA key non ex (xt key non (opT sd)) = opT sd ++ ssB (nsW key non) ex (opT sd) := by
    unfold seA
    rw [if_pos hk, xt_xt key non (show Byt (opT sd) from byt_take db _)]
  rw [h]
  by_cases e : ssB (nsW key non) ex (opT sd) = opS sd
  · rw [decide_eq_true e, e, opT_opS]; simp
  · rw [decide_eq_false e]
    refine decide_eq_false fun k => e ?_
    have k2 : opT sd ++ ssB (nsW key non) ex (opT sd) = opT sd ++ opS sd := k.trans (opT_opS sd).symm
    exact List.append_cancel_left k2
set_option maxRecDepth 100000 in
set_option maxHeartbeats 16000000 in
theorem specOpen_any (w : World) (g : Nat) (a : Option Addr) (c : Nat) (key : List Int) (hr : Rd w g a .u8 key) (hb : Byt key) (hc : key.length ≤ c) (g' : Nat) (a' : Option Addr) (c' : Nat) (non : List Int) (hr' : Rd w g' a' .u8 non) (hb' : Byt non) (hc' : non.length ≤ c')
    (ge : Nat) (ae : Option Addr) (ce : Nat) (ex : List Int) (he : Rd w ge ae .u8 ex) (eb : Byt ex) (en : ae = none → ce = 0)
    (g2 : Nat) (a2 : Option Addr) (c2 : Nat) (sd : List Int) (hr2 : Rd w g2 a2 .u8 sd) (db : Byt sd) (dc : sd.length ≤ c2) (hs : ex.length + sd.length ≤ 4000000) :
    Calls Tryz.prog 31 #[.slice a key.length c, .slice a' non.length c', .slice ae ex.length ce, .slice a2 sd.length c2] w fun e w' => NewO w.heap.size w' e (opB key non ex sd) (opL key non ex sd) ∧ Below w.heap.size w w' := by
  have n0 : Below w.heap.size w (w.alloc (.cells #[.bool false, .slice none 0 0] 59)) := (Below.refl _ _).alloc (Nat.le_refl _) _
  have H0 : (w.alloc (.cells #[.bool false, .slice none 0 0] 59)).heap[w.heap.size]? = some (.cells #[.bool false, .slice none 0 0] 59 (0, 0)) := heap_alloc_last w _
  have FT := fun W => hide (fits_any W a a' c c' key non 0)
  by_cases h1 : fitK key non = true
  · simp only [fit0 h1] at FT
    by_cases h16 : 16 ≤ sd.length
    · have OB : Hid (opB key non ex sd = decide (ssB (nsW key non) ex (opT sd) = opS sd)) := by show _ = _; unfold opB; rw [h1, decide_eq_true h16]; rfl
      have OLt : Hid (opL key non ex sd = if decide (ssB (nsW key non) ex (opT sd) = opS sd) = true then xt key non (opT sd) else []) := by show _ = _; unfold opL; rw [OB.out]
      rw [OLt.out, OB.out, ← seal_back h1 db]
      have TL : Hid ((opT sd).length = sd.length - 16) := by show _ = _; unfold opT; rw [List.length_take]; omega
      have RT : Rd w g2 a2 .u8 (opT sd) := hr2.take _
      have TB : Byt (opT sd) := byt_take db _
      have XS := fun W (n : Below w.heap.size w W) => hide (specXorR_core W g a c key (hr.up n) hb hc 1 (by omega) (by omega) g' a' c' non (hr'.up n) hb' hc' g2 a2 c2 (opT sd) (RT.up n) (by rw [TL.out]; omega) (fit1 h1) (by rw [TL.out]; omega))
      have XT : Hid (fill (sxF key 1 non (opT sd)) (opT sd).length = xt key non (opT sd)) := (sx_fill key 1 non (opT sd)).symm
      simp only [XT.out] at XS
      simp only [TL.out] at XS
      have XB := hide (xt_byt key non TB)
      have XL : Hid ((xt key non (opT sd)).length = sd.length - 16) := by show _ = _; rw [xt_len]; exact TL.out
      generalize xt key non (opT sd) = T at *
      have SE := fun W (n : Below w.heap.size w W) g3 a3 c3 (h : Rd W g3 a3 .u8 T) => hide (specSeal_any W g a c key (hr.up n) hb hc g' a' c' non (hr'.up n) hb' hc' ge ae ce ex (he.up n) eb en g3 a3 c3 T h XB.out (by rw [XL.out]; omega))
      have MB := hide (seA_byt (key := key) (non := non) (ex := ex) XB.out)
      have DB := hide db
      generalize seA key non ex T = M at *
      obtain ⟨ob, hob⟩ : ∃ b, b = decide (M = sd) := ⟨_, rfl⟩
      rw [← hob]
      obtain ⟨ol, hol⟩ : ∃ l, l = if ob = true then T else [] := ⟨_, rfl⟩
      rw [← hol]
      have HOB := hide hob
      have HOL := hide hol
      have n16 : ¬ (sd.length : Int) < 16 := by omega
      have m16 : (sd.length : Int) - 16 = ((sd.length - 16 : Nat) : Int) := by omega
      have mle : ((sd.length - 16 : Nat) : Int) ≤ (c2 : Int) := by omega
      have big : (sd.length : Int) ≤ 4000000 := by omega
      have HR2 := hide hr2
      clear hob hol OB OLt XT TB RT hr2 db dc hs h1 XB XL h16
      generalize sd.length - 16 = m at *
      go_enter Tryz.func31, Tryz.ntmps31
      go_upto_region 1 with fail
      generalize w.alloc (.cells #[.bool false, .slice none 0 0] 59) = w1 at *
      go_wp2_with fail
      refine (FT w1).out.mono ?_
      rintro e w2 ⟨rfl, h⟩
      have h := h.symm
      subst h
      go_wp2_with fail
      refine (XS w1 n0).out.mono ?_
      rintro e w3 ⟨⟨v3, rfl, R3⟩, n3⟩
      obtain ⟨a3, c3, g3, rfl, o3, p3, q3, r3⟩ := R3.own
      have l1 := (Array.getElem?_eq_some_iff.1 H0).1
      have H3 := (n3.block w.heap.size l1).trans H0
      have N3 := nxt n0 n3
      have SE3 := SE w3 N3 g3 a3 c3 o3.rd
      have s0 := n0.size
      clear FT XS R3 n3 H0 SE
      go_wp2_with fail
      refine SE3.out.mono ?_
      rintro e w4 ⟨⟨v4, rfl, R4⟩, n4⟩
      obtain ⟨a4, c4, g4, rfl, o4, -, -, -⟩ := R4.own
      have l3 := (Array.getElem?_eq_some_iff.1 H3).1
      have H4 := (n4.block w.heap.size l3).trans H3
      have N4 := nxt N3 n4
      have o3' := o3.up n4
      have SA := hide (l1Same_any w4 g4 g2 a4 a2 c4 c2 M sd o4.rd (HR2.out.up N4) MB.out DB.out)
      rw [← HOB.out] at SA
      clear SE3 R4 n4 H3 o3 o4 HOB HR2 MB DB
      go_wp2_with fail
      refine SA.out.mono ?_
      rintro e w5 ⟨rfl, h⟩
      have h := h.symm
      subst h
      obtain ⟨c80, c81, f80, f81⟩ := blk_two H4
      clear SA H4
      cases ob with
      | true =>
        have EL : Hid (ol = T) := by show _ = _; rw [HOL.out, if_pos rfl]
        have O1 := (Only.setCell w4 w.heap.size 0 (.bool true)).trans (Only.setCell _ w.heap.size 1 (.slice a3 T.length c3))
        have o10 := o3'.only O1 (fun _ => by omega)
        have N10 := N4.trans (O1.below (Nat.le_refl _))
        clear HOL O1
        go_wp2
        exact bodyPost_ret (v := .agg #[.bool true, .slice a3 T.length c3]) (by simp [results, Tryz.results31, go_sem, c80, c81]) rfl ⟨by rw [EL.out]; exact ⟨a3, c3, g3, rfl, o10, p3, q3, by omega⟩, N10⟩
      | false =>
        have EL : Hid (ol = []) := by show _ = _; rw [HOL.out, if_neg (by decide)]
        have O1 := (Only.setCell w4 w.heap.size 0 (.bool false)).trans (Only.setCell _ w.heap.size 1 (.slice none 0 0))
        have N10 := N4.trans (O1.below (Nat.le_refl _))
        clear HOL O1
        go_wp2
        exact bodyPost_ret (v := .agg #[.bool false, .slice none 0 0]) (by simp [results, Tryz.results31, go_sem, c80, c81]) rfl ⟨by rw [EL.out]; exact newO_bad _ _, N10⟩
    · have OB : Hid (opB key non ex sd = false) := by show _ = _; unfold opB; rw [decide_eq_false h16]; simp
      have OLt : Hid (opL key non ex sd = []) := by show _ = _; unfold opL; rw [if_neg (by rw [OB.out]; decide)]
      rw [OLt.out, OB.out]
      have lt : (sd.length : Int) < 16 := by omega
      clear OB OLt
      go_enter Tryz.func31, Tryz.ntmps31
      go_upto_region 1 with fail
      generalize w.alloc (.cells #[.bool false, .slice none 0 0] 59) = w1 at *
      go_wp2_with fail
      refine (FT w1).out.mono ?_
      rintro e w2 ⟨rfl, h⟩
      have h := h.symm
      subst h
      obtain ⟨c10, c11, f10, f11⟩ := blk_two H0
      have O1 := (Only.setCell w1 w.heap.size 0 (.bool false)).trans (Only.setCell _ w.heap.size 1 (.slice none 0 0))
      have N10 := n0.trans (O1.below (Nat.le_refl _))
      clear FT O1
      go_wp2
      exact bodyPost_ret (v := .agg #[.bool false, .slice none 0 0]) (by simp [results, Tryz.results31, go_sem, c10, c11]) rfl ⟨newO_bad _ _, N10⟩
  · have h1' : fitK key non = false := by simpa using h1
    simp only [fit0' h1'] at FT
    have OB : Hid (opB key non ex sd = false) := by show _ = _; unfold opB; rw [h1']; rfl
    have OLt : Hid (opL key non ex sd = []) := by show _ = _; unfold opL; rw [if_neg (by rw [OB.out]; decide)]
    rw [OLt.out, OB.out]
    clear OB OLt h1 h1'
    go_enter Tryz.func31, Tryz.ntmps31
    go_upto_region 1 with fail
    generalize w.alloc (.cells #[.bool false, .slice none 0 0] 59) = w1 at *
    go_wp2_with fail
    refine (FT w1).out.mono ?_
    rintro e w2 ⟨rfl, h⟩
    have h := h.symm
    subst h
    obtain ⟨c10, c11, f10, f11⟩ := blk_two H0
    have O1 := (Only.setCell w1 w.heap.size 0 (.bool false)).trans (Only.setCell _ w.heap.size 1 (.slice none 0 0))
    have N10 := n0.trans (O1.below (Nat.le_refl _))
    clear FT O1
    go_wp2
    exact bodyPost_ret (v := .agg #[.bool false, .slice none 0 0]) (by simp [results, Tryz.results31, go_sem, c10, c11]) rfl ⟨newO_bad _ _, N10⟩
end Go.Proofs.YtbdecibgejmelaaGreatDoor

/-
  The model's Unprotect.
-/
namespace Go.Proofs.YtbdecibgejmelaaGreatDoor
set_option maxRecDepth 100000
open Go Go.RowKit

set_option maxRecDepth 100000 in
set_option maxHeartbeats 8000000 in
theorem specUnprotect_any (w : World) (gk : Nat) (ak : Option Addr) (ck : Nat) (K : List Int) (hk : Rd w gk ak .u8 K) (bk : Byt K) (kk : K.length ≤ ck) (gi : Nat) (ai : Option Addr) (ci : Nat) (V : List Int) (hi : Rd w gi ai .u8 V) (bi : Byt V) (zi : ai = none → ci = 0) (q : Int)
    (gx : Nat) (ax : Option Addr) (cx : Nat) (xs : List Int) (hx : Rd w gx ax .u8 xs) (bx : Byt xs) (kx : xs.length ≤ cx) (lx : xs.length ≤ 1048576) :
    Calls Tryz.prog 7 #[.agg #[.slice ak K.length ck, .slice ai V.length ci], .int .i64 q, .slice ax xs.length cx] w fun e w' => (∃ a c g, e = .returned (.agg #[.int .i64 (upN K V q xs), .int .i64 (upK K V q xs), .slice a (upD K V q xs).length c]) ∧ Own w' g a .u8 (upD K V q xs) ∧ (a = none → c = 0) ∧ (upD K V q xs).length ≤ c ∧ w.heap.size ≤ g) ∧ Below w.heap.size w w' := by
  obtain ⟨d1, hd1, hrow1⟩ := rowOd
  have FT := hide fun W => fits15_any W ak ai K.length ck V.length ci q
  have RN := hide fun W (m : Below w.heap.size w W) => specNonce_any W gi ai ci V (hi.up m) zi q
  have HB := hide fun W => l15Head_any W 23 (xs.length : Int) (by omega) (by omega)
  have hdb : Byt (hdL 23 (xs.length : Int)) := byt_apd (bigL_byt _ _) (bigL_byt _ _)
  have hdl := hdL_len 23 (xs.length : Int)
  have OP := hide fun W (m : Below w.heap.size w W) gn an cn (hm : Rd W gn an .u8 (rnA V q)) (km : (rnA V q).length ≤ cn) ge ae ce (he : Rd W ge ae .u8 (hdL 23 (xs.length : Int))) (en : ae = none → ce = 0) => specOpen_any W gk ak ck K (hk.up m) bk kk gn an cn (rnA V q) hm (rnA_byt bi q) km ge ae ce (hdL 23 (xs.length : Int)) he hdb en gx ax cx xs (hx.up m) bx kx (by omega)
  have eK : Hid (upK K V q xs = if upN K V q xs = 0 then inK (upL K V q xs) else 0) := rfl
  have eD : Hid (upD K V q xs = if upN K V q xs = 0 then inD (upL K V q xs) else []) := rfl
  have eN : Hid (upN K V q xs = if K.length = 32 ∧ (rnA V q).length = 12 then (if 17 ≤ (xs.length : Int) ∧ (xs.length : Int) ≤ 2321 then (if opB K (rnA V q) (hdL 23 (xs.length : Int)) xs = true then riN (upL K V q xs) else 2) else 1) else 1) := rfl
  have eL : Hid (opL K (rnA V q) (hdL 23 (xs.length : Int)) xs = upL K V q xs) := rfl
  have UB : Byt (upL K V q xs) := opL_bytN bx
  have UL : (upL K V q xs).length ≤ 1048576 := Nat.le_trans (opL_len _ _ _ _) lx
  have hF := fitA_iff K V q
  simp only [eL.out] at OP
  generalize upK K V q xs = KD at *
  generalize upD K V q xs = DD at *
  generalize upN K V q xs = CD at *
  have eI : Hid (riN (upL K V q xs) = if tz (upL K V q xs) (upL K V q xs).length = 0 then 3 else if isK (inK (upL K V q xs)) = true then (if 2048 < (inD (upL K V q xs)).length then 5 else if (inD (upL K V q xs)).length = 0 ∧ inK (upL K V q xs) ≠ 23 then 6 else 0) else 4) := rfl
  have eIK : Hid (inK (upL K V q xs) = (upL K V q xs).getD (tz (upL K V q xs) (upL K V q xs).length - 1) 0) := rfl
  have eID : Hid (inD (upL K V q xs) = (upL K V q xs).take (tz (upL K V q xs) (upL K V q xs).length - 1)) := rfl
  generalize riN (upL K V q xs) = RI at *
  generalize inK (upL K V q xs) = IK at *
  generalize inD (upL K V q xs) = ID at *
  generalize upL K V q xs = L at *
  generalize opB K (rnA V q) (hdL 23 (xs.length : Int)) xs = t at *
  generalize hdL 23 (xs.length : Int) = H at *
  have n1 : Below w.heap.size w (w.alloc (.cells #[.slice ak K.length ck, .slice ai V.length ci] 29)) := (Below.refl _ _).alloc (Nat.le_refl _) _
  have B0 : RwC (w.alloc (.cells #[.slice ak K.length ck, .slice ai V.length ci] 29)) w.heap.size [.slice ak K.length ck, .slice ai V.length ci] 29 := RwC.new w _ _
  have z1 : (w.alloc (.cells #[.slice ak K.length ck, .slice ai V.length ci] 29)).heap.size = w.heap.size + 1 := by simp
  clear hk bk kk hi bi zi hx bx kx eL hdb hdl
  by_cases hf : fitA K.length V.length q = true
  · rw [hf] at FT
    by_cases hs : 17 ≤ (xs.length : Int) ∧ (xs.length : Int) ≤ 2321
    · have u1 : decide ((xs.length : Int) < 17) = false := by simp; omega
      have u2 : decide (2321 < (xs.length : Int)) = false := by simp; omega
      have eN2 : Hid (CD = if t = true then RI else 2) := by show _ = _; rw [eN.out, if_pos (hF.1 hf), if_pos hs]
      clear hs hf hF eN lx
      go_enter Tryz.func7, Tryz.ntmps7
      go_upto_region 1 with fail
      generalize w.alloc (.cells #[.slice ak K.length ck, .slice ai V.length ci] 29) = wa at *
      have n2 : Below wa.heap.size wa (wa.alloc (.cells #[.int .i64 0, .int .i64 0, .slice none 0 0] 27)) := (Below.refl _ _).alloc (Nat.le_refl _) _
      have Z0 : RwC (wa.alloc (.cells #[.int .i64 0, .int .i64 0, .slice none 0 0] 27)) wa.heap.size [.int .i64 0, .int .i64 0, .slice none 0 0] 27 := RwC.new wa _ _
      replace B0 := B0.up n2
      have N := nxt n1 n2
      generalize wa.alloc (.cells #[.int .i64 0, .int .i64 0, .slice none 0 0] 27) = wb at *
      rw [z1] at Z0
      clear n1 n2 z1
      have lZ := Z0.lt
      have b0 := B0.c0
      have b1 := B0.c1
      go_wp2_with fail
      refine (FT.out wb).mono ?_
      rintro e w1 ⟨rfl, m1⟩
      have zm := m1.size
      replace N := nxt N m1
      replace Z0 := Z0.up m1
      replace B0 := B0.up m1
      clear b0 b1 m1 FT
      go_upto_region 3 with fail
      refine region_newT 12 11 10 7 35 _ (fun i => [Fact.eq (.pointer (some ⟨w.heap.size, 0, none⟩)), Fact.eq (.slice ak K.length ck), Fact.eq (.pointer (some ⟨w.heap.size, 1, none⟩)), Fact.eq (.slice ai V.length ci), Fact.eq (.int .i64 q), Rbg w1.heap.size (rnA V q), Fact.eq (.slice ax xs.length cx), Fact.eq (.int .i64 (xs.length : Int)), Rbg w1.heap.size H, Fact.eq (.slice ax xs.length cx), Opf w1.heap.size t L, NBt w1.heap.size 59 [.bool false, .slice none 0 0]].getD i Fact.no) 59 [.bool false, .slice none 0 0] (Opf w1.heap.size t L) (by kernel_rfl) (by kernel_rfl) rfl rfl rfl iOr (by kernel_rfl) rfl (by kernel_rfl) rfl ?_ ?_ ?_
      · rintro v W ⟨a, c, g, rfl, -⟩
        exact ⟨[.bool t, .slice a L.length c], rfl, rfl, oneOr _ _ _ _⟩
      · intro i hi
        obtain rfl | rfl | rfl | rfl | rfl | rfl | rfl | rfl | rfl | rfl | rfl | rfl : i = 0 ∨ i = 1 ∨ i = 2 ∨ i = 3 ∨ i = 4 ∨ i = 5 ∨ i = 6 ∨ i = 7 ∨ i = 8 ∨ i = 9 ∨ i = 10 ∨ i = 11 := by omega
        · refine step_pure rfl fun A ww hb hw hf => ?_
          have e0 : A.tmps[3]?.getD undef = .pointer (some ⟨w.heap.size, 0, none⟩) := gdv (hb.2.2 3 (by kernel_rfl))
          exact ⟨.pointer (some ⟨w.heap.size, 0, none⟩), by simp [go_sem, e0], rfl⟩
        · refine step_pure rfl fun A ww hb hw hf => ?_
          have e0 : A.tmps[25]?.getD undef = .pointer (some ⟨w.heap.size, 0, none⟩) := gdv (hf 0 25 (by kernel_rfl))
          have hc := (B0.up hw).c0
          exact ⟨_, by simp [go_sem, e0, hc], rfl⟩
        · refine step_pure rfl fun A ww hb hw hf => ?_
          have e0 : A.tmps[3]?.getD undef = .pointer (some ⟨w.heap.size, 0, none⟩) := gdv (hb.2.2 3 (by kernel_rfl))
          exact ⟨.pointer (some ⟨w.heap.size, 1, none⟩), by simp [go_sem, e0], rfl⟩
        · refine step_pure rfl fun A ww hb hw hf => ?_
          have e0 : A.tmps[27]?.getD undef = .pointer (some ⟨w.heap.size, 1, none⟩) := gdv (hf 2 27 (by kernel_rfl))
          have hc := (B0.up hw).c1
          exact ⟨_, by simp [go_sem, e0, hc], rfl⟩
        · refine step_pure rfl fun A ww hb hw hf => ?_
          have e0 : A.tmps[1]?.getD undef = .int .i64 q := gdv (hb.2.2 1 (by kernel_rfl))
          exact ⟨_, by simp [go_sem, e0], rfl⟩
        · refine step_callv rfl 32 _ _ rfl (by kernel_rfl) fun A ww hb hw hf => ?_
          have e28 : A.tmps.getD 28 undef = .slice ai V.length ci := hf 3 28 (by kernel_rfl)
          have e29 : A.tmps.getD 29 undef = .int .i64 q := hf 4 29 (by kernel_rfl)
          show Calls Tryz.prog 32 #[A.tmps.getD 28 undef, A.tmps.getD 29 undef] ww _
          rw [e28, e29]
          refine (RN.out ww (nxt N hw)).mono ?_
          rintro r w' ⟨x, rfl, R, n⟩
          exact ⟨x, rfl, n, R.base hw.size⟩
        · refine step_pure rfl fun A ww hb hw hf => ?_
          have e0 : A.tmps[2]?.getD undef = .slice ax xs.length cx := gdv (hb.2.2 2 (by kernel_rfl))
          exact ⟨_, by simp [go_sem, e0], rfl⟩
        · refine step_pure rfl fun A ww hb hw hf => ?_
          have e0 : A.tmps[31]?.getD undef = .slice ax xs.length cx := gdv (hf 6 31 (by kernel_rfl))
          exact ⟨.int .i64 (xs.length : Int), by simp [go_sem, e0], rfl⟩
        · refine step_callv rfl 33 _ _ rfl (by kernel_rfl) fun A ww hb hw hf => ?_
          have e32 : A.tmps.getD 32 undef = .int .i64 (xs.length : Int) := hf 7 32 (by kernel_rfl)
          show Calls Tryz.prog 33 #[.int .i64 23, A.tmps.getD 32 undef] ww _
          rw [e32]
          refine (HB.out ww).mono ?_
          rintro r w' ⟨x, rfl, R, n⟩
          exact ⟨x, rfl, n, R.base hw.size⟩
        · refine step_pure rfl fun A ww hb hw hf => ?_
          have e0 : A.tmps[2]?.getD undef = .slice ax xs.length cx := gdv (hb.2.2 2 (by kernel_rfl))
          exact ⟨_, by simp [go_sem, e0], rfl⟩
        · refine step_callv rfl 31 _ _ rfl (by kernel_rfl) fun A ww hb hw hf => ?_
          have e26 : A.tmps.getD 26 undef = .slice ak K.length ck := hf 1 26 (by kernel_rfl)
          have e34 : A.tmps.getD 34 undef = .slice ax xs.length cx := hf 9 34 (by kernel_rfl)
          have r30 : RowB ww w1.heap.size (A.tmps.getD 30 undef) (rnA V q) := hf 5 30 (by kernel_rfl)
          have r33 : RowB ww w1.heap.size (A.tmps.getD 33 undef) H := hf 8 33 (by kernel_rfl)
          obtain ⟨a6, c6, g6, e30, D6, z6, k6, -⟩ := r30.rd
          obtain ⟨a7, c7, g7, e33, D7, z7, -, -⟩ := r33.rd
          show Calls Tryz.prog 31 #[A.tmps.getD 26 undef, A.tmps.getD 30 undef, A.tmps.getD 33 undef, A.tmps.getD 34 undef] ww _
          rw [e26, e30, e33, e34]
          refine (OP.out ww (nxt N hw) g6 a6 c6 D6 k6 g7 a7 c7 D7 z7).mono ?_
          rintro r w' ⟨⟨a, c, g, rfl, o1, o2, o3, o4⟩, n⟩
          exact ⟨_, rfl, n, a, c, g, rfl, o1, o3, Nat.le_trans hw.size o4⟩
        · exact step_newOr rfl rfl rfl
      · intro vs W W5 p cs vq hq hw rq hG OQ rc hW
        obtain ⟨a, c, g, ec, o1, o2, o3⟩ := hG
        simp only [Value.agg.injEq, Array.mk.injEq] at ec
        subst ec
        have O5 := o1.only OQ (own_ne o1 rq)
        have N5 := nxt N hW
        have Z5 := (Z0.up hw).onl OQ (by omega)
        simp only [puts, vq, Act.put, List.setIfInBounds_toArray, List.set_cons_succ, List.set_cons_zero]
        have qc0 := rc.c0
        have qc1 := rc.c1
        generalize vs 25 = y25 at *
        generalize vs 26 = y26 at *
        generalize vs 27 = y27 at *
        generalize vs 28 = y28 at *
        generalize vs 29 = y29 at *
        generalize vs 30 = y30 at *
        generalize vs 31 = y31 at *
        generalize vs 32 = y32 at *
        generalize vs 33 = y33 at *
        generalize vs 34 = y34 at *
        generalize vs 35 = y35 at *
        have zW := hW.size
        clear OQ rq hw OP HB RN vq o1 hW B0 Z0 N
        cases t with
        | false =>
          have eN3 : Hid (CD = 2) := by show _ = _; rw [eN2.out, if_neg (by simp)]
          clear eN2
          have e1 : Hid (KD = 0) := by show _ = _; rw [eK.out, if_neg (by rw [eN3.out]; decide)]
          have e2 : Hid (DD = []) := by show _ = _; rw [eD.out, if_neg (by rw [eN3.out]; decide)]
          have ZF : RwC (((W5.setCell ⟨w.heap.size + 1, 0, none⟩ (.int .i64 2)).setCell ⟨w.heap.size + 1, 1, none⟩ (.int .i64 0)).setCell ⟨w.heap.size + 1, 2, none⟩ (.slice none 0 0)) (w.heap.size + 1) [.int .i64 2, .int .i64 0, .slice none 0 0] 27 := ((Z5.set 0 _).set 1 _).set 2 _
          have OF : Only (w.heap.size + 1) W5 (((W5.setCell ⟨w.heap.size + 1, 0, none⟩ (.int .i64 2)).setCell ⟨w.heap.size + 1, 1, none⟩ (.int .i64 0)).setCell ⟨w.heap.size + 1, 2, none⟩ (.slice none 0 0)) := ((Only.setCell _ (w.heap.size + 1) 0 _).trans (Only.setCell _ (w.heap.size + 1) 1 _)).trans (Only.setCell _ (w.heap.size + 1) 2 _)
          have RR := ZF.rangeG
          have NF := N5.trans (OF.below (B := w.heap.size) (by omega))
          have x0 := Z5.c0
          have x1 := Z5.c1
          have x2 := Z5.c2
          have f0 := Z5.free 0
          have f1 := Z5.free 1
          have f2 := Z5.free 2
          clear OF ZF eK eD
          go_wp2
          exact bodyPost_ret (v := .agg #[.int .i64 2, .int .i64 0, .slice none 0 0]) (results_cellG Tryz.results7 _ _ (w.heap.size + 1) [.int .i64 2, .int .i64 0, .slice none 0 0] d1 rfl RR hd1 hrow1 iOd) rfl ⟨⟨none, 0, w.heap.size, by rw [eN3.out, e1.out, e2.out]; rfl, by rw [e2.out]; exact Own.nil _ _ _ _, fun _ => rfl, by rw [e2.out]; exact Nat.le_refl _, Nat.le_refl _⟩, NF⟩
        | true =>
          have eN3 : Hid (CD = RI) := by show _ = _; rw [eN2.out, if_pos rfl]
          clear eN2
          obtain ⟨n, hn⟩ : ∃ n, n = L.length := ⟨_, rfl⟩
          rw [← hn] at qc1 o2 UL eI eIK eID
          have HN := hide hn
          clear hn
          go_wp2
          go_loopw [8] (fun v wr => ∃ m : Nat, m ≤ n ∧ v = .int .i64 (m : Int) ∧ Hid (tz L m = tz L n) ∧ wr = W5) (fun v _ => (intOf v).toNat)
          case atStart => exact ⟨n, Nat.le_refl _, rfl, rfl, rfl⟩
          case round =>
            obtain ⟨m, hm, rfl, ht, rfl⟩ := hrel
            by_cases h0 : 0 < m
            · obtain ⟨off, ha, hcell⟩ := O5 (by rw [← HN.out]; omega)
              subst ha
              obtain ⟨k, rfl⟩ : ∃ k, m = k + 1 := ⟨m - 1, by omega⟩
              have hc1 := (hcell k (by rw [← HN.out]; omega)).1
              have kb : (k : Int) ≤ 4194304 := by omega
              have kn : (k : Int) < (n : Int) := by omega
              have q0 : (0 : Int) < (k : Int) + 1 := by omega
              by_cases hz : L.getD k 0 = 0
              · have ht' : Hid (tz L k = tz L n) := by show _ = _; rw [← ht.out, tz, if_pos hz]
                rw [hz] at hc1
                clear hz ht hcell eI eIK eID eK eD eN3
                go_wp2
                go_roundw
                case rel => exact ⟨k, by omega, by go_num, ht', trivial⟩
                case measure => simp [intOf]
              · have ht' : Hid (tz L n = k + 1) := by show _ = _; rw [← ht.out, tz, if_neg hz]
                have e3 : Hid (IK = L.getD k 0) := by show _ = _; rw [eIK.out, ht'.out, Nat.add_sub_cancel]
                have e4 : Hid (ID = L.take k) := by show _ = _; rw [eID.out, ht'.out, Nat.add_sub_cancel]
                have dl : Hid (ID.length = k) := by show _ = _; rw [e4.out, List.length_take, ← HN.out]; omega
                have e5 : Hid (RI = if isK IK = true then (if 2048 < ID.length then 5 else if ID.length = 0 ∧ IK ≠ 23 then 6 else 0) else 4) := by show _ = _; rw [eI.out, ht'.out, if_neg (by omega)]
                have hk8 : 0 ≤ IK ∧ IK < 256 := by rw [e3.out]; exact UB k
                have RD : Rd wr g (some ⟨g, off, none⟩) .u8 ID := fun h => ⟨off, rfl, fun i hi => by
                  rw [(hcell i (by rw [dl.out] at hi; rw [← HN.out]; omega)).1, e4.out, List.getD_eq_getElem?_getD, List.getD_eq_getElem?_getD, List.getElem?_take, if_pos (by rw [dl.out] at hi; exact hi)]⟩
                rw [← e3.out] at hc1 hz
                have hz1 : (IK == 0) = false := by simp [hz]
                have hz2 : decide (IK = 0) = false := by simp [hz]
                have k0 : ((k : Int) + 1 == 0) = false := beq_eq_false_iff_ne.2 (by omega)
                have k0' : decide ((k : Int) + 1 = 0) = false := decide_eq_false (by omega)
                have hk80 := hk8.1
                have hk81 := hk8.2
                have KN := hide fun W => known_any W IK
                clear ht ht' hcell eI eIK eID e3 e4 O5 hz
                by_cases hk1 : isK IK = true
                · rw [hk1] at KN
                  by_cases hl : 2048 < k
                  · have v1 : decide ((2048 : Int) < (k : Int)) = true := by simp; omega
                    have eN4 : Hid (CD = 5) := by show _ = _; rw [eN3.out, e5.out, if_pos hk1, if_pos (by rw [dl.out]; exact hl)]
                    clear eN3 e5 hk1 RD
                    go_wp2_with fail
                    refine (KN.out wr).mono ?_
                    rintro e w' ⟨rfl, hw⟩
                    have hw := hw.symm
                    subst hw
                    have e1 : Hid (KD = 0) := by show _ = _; rw [eK.out, if_neg (by rw [eN4.out]; decide)]
                    have e2 : Hid (DD = []) := by show _ = _; rw [eD.out, if_neg (by rw [eN4.out]; decide)]
                    have ZF : RwC (((wr.setCell ⟨w.heap.size + 1, 0, none⟩ (.int .i64 5)).setCell ⟨w.heap.size + 1, 1, none⟩ (.int .i64 0)).setCell ⟨w.heap.size + 1, 2, none⟩ (.slice none 0 0)) (w.heap.size + 1) [.int .i64 5, .int .i64 0, .slice none 0 0] 27 := ((Z5.set 0 _).set 1 _).set 2 _
                    have OF : Only (w.heap.size + 1) wr (((wr.setCell ⟨w.heap.size + 1, 0, none⟩ (.int .i64 5)).setCell ⟨w.heap.size + 1, 1, none⟩ (.int .i64 0)).setCell ⟨w.heap.size + 1, 2, none⟩ (.slice none 0 0)) := ((Only.setCell _ (w.heap.size + 1) 0 _).trans (Only.setCell _ (w.heap.size + 1) 1 _)).trans (Only.setCell _ (w.heap.size + 1) 2 _)
                    have RR := ZF.rangeG
                    have NF := N5.trans (OF.below (B := w.heap.size) (by omega))
                    have x0 := Z5.c0
                    have x1 := Z5.c1
                    have x2 := Z5.c2
                    have f0 := Z5.free 0
                    have f1 := Z5.free 1
                    have f2 := Z5.free 2
                    clear OF ZF eK eD
                    go_wp2
                    exact bodyPost_ret (v := .agg #[.int .i64 5, .int .i64 0, .slice none 0 0]) (results_cellG Tryz.results7 _ _ (w.heap.size + 1) [.int .i64 5, .int .i64 0, .slice none 0 0] d1 rfl RR hd1 hrow1 iOd) rfl ⟨⟨none, 0, w.heap.size, by rw [eN4.out, e1.out, e2.out]; rfl, by rw [e2.out]; exact Own.nil _ _ _ _, fun _ => rfl, by rw [e2.out]; exact Nat.le_refl _, Nat.le_refl _⟩, NF⟩
                  · have v1 : decide ((2048 : Int) < (k : Int)) = false := by simp; omega
                    by_cases h6 : k = 0 ∧ IK ≠ 23
                    · obtain ⟨h60, h6⟩ := h6
                      have v4 : ((k : Int) + 1 == 1) = true := beq_iff_eq.2 (by omega)
                      have v5 : decide ((k : Int) + 1 = 1) = true := decide_eq_true (by omega)
                      have v2 : (IK != 23) = true := by simp [h6]
                      have v3 : decide (IK = 23) = false := by simp [h6]
                      have eN4 : Hid (CD = 6) := by show _ = _; rw [eN3.out, e5.out, if_pos hk1, if_neg (by rw [dl.out]; exact hl), if_pos ⟨dl.out.trans h60, h6⟩]
                      clear eN3 e5 hk1 RD hl h60
                      go_wp2_with fail
                      refine (KN.out wr).mono ?_
                      rintro e w' ⟨rfl, hw⟩
                      have hw := hw.symm
                      subst hw
                      have e1 : Hid (KD = 0) := by show _ = _; rw [eK.out, if_neg (by rw [eN4.out]; decide)]
                      have e2 : Hid (DD = []) := by show _ = _; rw [eD.out, if_neg (by rw [eN4.out]; decide)]
                      have ZF : RwC (((wr.setCell ⟨w.heap.size + 1, 0, none⟩ (.int .i64 6)).setCell ⟨w.heap.size + 1, 1, none⟩ (.int .i64 0)).setCell ⟨w.heap.size + 1, 2, none⟩ (.slice none 0 0)) (w.heap.size + 1) [.int .i64 6, .int .i64 0, .slice none 0 0] 27 := ((Z5.set 0 _).set 1 _).set 2 _
                      have OF : Only (w.heap.size + 1) wr (((wr.setCell ⟨w.heap.size + 1, 0, none⟩ (.int .i64 6)).setCell ⟨w.heap.size + 1, 1, none⟩ (.int .i64 0)).setCell ⟨w.heap.size + 1, 2, none⟩ (.slice none 0 0)) := ((Only.setCell _ (w.heap.size + 1) 0 _).trans (Only.setCell _ (w.heap.size + 1) 1 _)).trans (Only.setCell _ (w.heap.size + 1) 2 _)
                      have RR := ZF.rangeG
                      have NF := N5.trans (OF.below (B := w.heap.size) (by omega))
                      have x0 := Z5.c0
                      have x1 := Z5.c1
                      have x2 := Z5.c2
                      have f0 := Z5.free 0
                      have f1 := Z5.free 1
                      have f2 := Z5.free 2
                      clear OF ZF eK eD
                      go_wp2
                      exact bodyPost_ret (v := .agg #[.int .i64 6, .int .i64 0, .slice none 0 0]) (results_cellG Tryz.results7 _ _ (w.heap.size + 1) [.int .i64 6, .int .i64 0, .slice none 0 0] d1 rfl RR hd1 hrow1 iOd) rfl ⟨⟨none, 0, w.heap.size, by rw [eN4.out, e1.out, e2.out]; rfl, by rw [e2.out]; exact Own.nil _ _ _ _, fun _ => rfl, by rw [e2.out]; exact Nat.le_refl _, Nat.le_refl _⟩, NF⟩
                    · have eN4 : Hid (CD = 0) := by show _ = _; rw [eN3.out, e5.out, if_pos hk1, if_neg (by rw [dl.out]; exact hl), if_neg (by rw [dl.out]; exact h6)]
                      have e1 : Hid (KD = IK) := by show _ = _; rw [eK.out, if_pos eN4.out]
                      have e2 : Hid (DD = ID) := by show _ = _; rw [eD.out, if_pos eN4.out]
                      have CL := hide (l1CopyN_any wr g (some ⟨g, off, none⟩) c ID RD (by simp) (by rw [dl.out]; omega))
                      rw [dl.out] at CL
                      have kc : (k : Int) ≤ (c : Int) := by omega
                      have key : ((k : Int) == 0) = false ∨ (k = 0 ∧ IK = 23) := by
                        by_cases e : k = 0
                        · exact .inr ⟨e, Classical.byContradiction fun c => h6 ⟨e, c⟩⟩
                        · exact .inl (beq_eq_false_iff_ne.2 (by omega))
                      clear eN3 e5 hk1 RD hl h6 eK eD
                      rcases key with v4 | ⟨h60, h23⟩
                      · have v4' : ((k : Int) + 1 == 1) = false := beq_eq_false_iff_ne.2 (by have := beq_eq_false_iff_ne.1 v4; omega)
                        have v5 : decide ((k : Int) + 1 = 1) = false := decide_eq_false (beq_eq_false_iff_ne.1 v4')
                        go_wp2_with fail
                        refine (KN.out wr).mono ?_
                        rintro e w' ⟨rfl, hw⟩
                        have hw := hw.symm
                        subst hw
                        go_wp2_with fail
                        refine CL.out.mono ?_
                        rintro e w7 ⟨v7, rfl, R7, m7⟩
                        have N7 := nxt N5 m7
                        have Z7 := Z5.up m7
                        have lw := Z5.lt
                        obtain ⟨a7, c7, g7, rfl, o7, p7, q7, r7⟩ := R7.own
                        rw [dl.out]
                        have ZF : RwC (((w7.setCell ⟨w.heap.size + 1, 0, none⟩ (.int .i64 0)).setCell ⟨w.heap.size + 1, 1, none⟩ (.int .i64 IK)).setCell ⟨w.heap.size + 1, 2, none⟩ (.slice a7 k c7)) (w.heap.size + 1) [.int .i64 0, .int .i64 IK, .slice a7 k c7] 27 := ((Z7.set 0 _).set 1 _).set 2 _
                        have OF : Only (w.heap.size + 1) w7 (((w7.setCell ⟨w.heap.size + 1, 0, none⟩ (.int .i64 0)).setCell ⟨w.heap.size + 1, 1, none⟩ (.int .i64 IK)).setCell ⟨w.heap.size + 1, 2, none⟩ (.slice a7 k c7)) := ((Only.setCell _ (w.heap.size + 1) 0 _).trans (Only.setCell _ (w.heap.size + 1) 1 _)).trans (Only.setCell _ (w.heap.size + 1) 2 _)
                        have RR := ZF.rangeG
                        have NF := N7.trans (OF.below (B := w.heap.size) (by omega))
                        have x0 := Z7.c0
                        have x1 := Z7.c1
                        have x2 := Z7.c2
                        have f0 := Z7.free 0
                        have f1 := Z7.free 1
                        have f2 := Z7.free 2
                        have o8 := o7.only OF (fun _ => by omega)
                        clear OF ZF
                        go_wp2
                        exact bodyPost_ret (v := .agg #[.int .i64 0, .int .i64 IK, .slice a7 k c7]) (results_cellG Tryz.results7 _ _ (w.heap.size + 1) [.int .i64 0, .int .i64 IK, .slice a7 k c7] d1 rfl RR hd1 hrow1 iOd) rfl ⟨⟨a7, c7, g7, by rw [eN4.out, e1.out, e2.out, dl.out], by rw [e2.out]; exact o8, p7, by rw [e2.out]; exact q7, by omega⟩, NF⟩
                      · have v4' : ((k : Int) + 1 == 1) = true := beq_iff_eq.2 (by omega)
                        have v5 : decide ((k : Int) + 1 = 1) = true := decide_eq_true (by omega)
                        have v2 : (IK != 23) = false := by simp [h23]
                        have v3 : decide (IK = 23) = true := by simp [h23]
                        clear h60
                        have H23 := hide h23
                        clear h23
                        go_wp2_with fail
                        refine (KN.out wr).mono ?_
                        rintro e w' ⟨rfl, hw⟩
                        have hw := hw.symm
                        subst hw
                        go_wp2_with fail
                        refine CL.out.mono ?_
                        rintro e w7 ⟨v7, rfl, R7, m7⟩
                        have N7 := nxt N5 m7
                        have Z7 := Z5.up m7
                        have lw := Z5.lt
                        obtain ⟨a7, c7, g7, rfl, o7, p7, q7, r7⟩ := R7.own
                        rw [dl.out]
                        have ZF : RwC (((w7.setCell ⟨w.heap.size + 1, 0, none⟩ (.int .i64 0)).setCell ⟨w.heap.size + 1, 1, none⟩ (.int .i64 IK)).setCell ⟨w.heap.size + 1, 2, none⟩ (.slice a7 k c7)) (w.heap.size + 1) [.int .i64 0, .int .i64 IK, .slice a7 k c7] 27 := ((Z7.set 0 _).set 1 _).set 2 _
                        have OF : Only (w.heap.size + 1) w7 (((w7.setCell ⟨w.heap.size + 1, 0, none⟩ (.int .i64 0)).setCell ⟨w.heap.size + 1, 1, none⟩ (.int .i64 IK)).setCell ⟨w.heap.size + 1, 2, none⟩ (.slice a7 k c7)) := ((Only.setCell _ (w.heap.size + 1) 0 _).trans (Only.setCell _ (w.heap.size + 1) 1 _)).trans (Only.setCell _ (w.heap.size + 1) 2 _)
                        have RR := ZF.rangeG
                        have NF := N7.trans (OF.below (B := w.heap.size) (by omega))
                        have x0 := Z7.c0
                        have x1 := Z7.c1
                        have x2 := Z7.c2
                        have f0 := Z7.free 0
                        have f1 := Z7.free 1
                        have f2 := Z7.free 2
                        have o8 := o7.only OF (fun _ => by omega)
                        clear OF ZF
                        go_wp2
                        exact bodyPost_ret (v := .agg #[.int .i64 0, .int .i64 IK, .slice a7 k c7]) (results_cellG Tryz.results7 _ _ (w.heap.size + 1) [.int .i64 0, .int .i64 IK, .slice a7 k c7] d1 rfl RR hd1 hrow1 iOd) rfl ⟨⟨a7, c7, g7, by rw [eN4.out, e1.out, e2.out, dl.out], by rw [e2.out]; exact o8, p7, by rw [e2.out]; exact q7, by omega⟩, NF⟩
                · have hk2 : isK IK = false := by simpa using hk1
                  rw [hk2] at KN
                  have eN4 : Hid (CD = 4) := by show _ = _; rw [eN3.out, e5.out, if_neg hk1]
                  clear eN3 e5 hk1 hk2 RD
                  go_wp2_with fail
                  refine (KN.out wr).mono ?_
                  rintro e w' ⟨rfl, hw⟩
                  have hw := hw.symm
                  subst hw
                  have e1 : Hid (KD = 0) := by show _ = _; rw [eK.out, if_neg (by rw [eN4.out]; decide)]
                  have e2 : Hid (DD = []) := by show _ = _; rw [eD.out, if_neg (by rw [eN4.out]; decide)]
                  have ZF : RwC (((wr.setCell ⟨w.heap.size + 1, 0, none⟩ (.int .i64 4)).setCell ⟨w.heap.size + 1, 1, none⟩ (.int .i64 0)).setCell ⟨w.heap.size + 1, 2, none⟩ (.slice none 0 0)) (w.heap.size + 1) [.int .i64 4, .int .i64 0, .slice none 0 0] 27 := ((Z5.set 0 _).set 1 _).set 2 _
                  have OF : Only (w.heap.size + 1) wr (((wr.setCell ⟨w.heap.size + 1, 0, none⟩ (.int .i64 4)).setCell ⟨w.heap.size + 1, 1, none⟩ (.int .i64 0)).setCell ⟨w.heap.size + 1, 2, none⟩ (.slice none 0 0)) := ((Only.setCell _ (w.heap.size + 1) 0 _).trans (Only.setCell _ (w.heap.size + 1) 1 _)).trans (Only.setCell _ (w.heap.size + 1) 2 _)
                  have RR := ZF.rangeG
                  have NF := N5.trans (OF.below (B := w.heap.size) (by omega))
                  have x0 := Z5.c0
                  have x1 := Z5.c1
                  have x2 := Z5.c2
                  have f0 := Z5.free 0
                  have f1 := Z5.free 1
                  have f2 := Z5.free 2
                  clear OF ZF eK eD
                  go_wp2
                  exact bodyPost_ret (v := .agg #[.int .i64 4, .int .i64 0, .slice none 0 0]) (results_cellG Tryz.results7 _ _ (w.heap.size + 1) [.int .i64 4, .int .i64 0, .slice none 0 0] d1 rfl RR hd1 hrow1 iOd) rfl ⟨⟨none, 0, w.heap.size, by rw [eN4.out, e1.out, e2.out]; rfl, by rw [e2.out]; exact Own.nil _ _ _ _, fun _ => rfl, by rw [e2.out]; exact Nat.le_refl _, Nat.le_refl _⟩, NF⟩
            · obtain rfl : m = 0 := by omega
              have eN4 : Hid (CD = 3) := by show _ = _; rw [eN3.out, eI.out, if_pos (by rw [← ht.out]; rfl)]
              clear eN3 eI eIK eID ht O5
              have e1 : Hid (KD = 0) := by show _ = _; rw [eK.out, if_neg (by rw [eN4.out]; decide)]
              have e2 : Hid (DD = []) := by show _ = _; rw [eD.out, if_neg (by rw [eN4.out]; decide)]
              have ZF : RwC (((wr.setCell ⟨w.heap.size + 1, 0, none⟩ (.int .i64 3)).setCell ⟨w.heap.size + 1, 1, none⟩ (.int .i64 0)).setCell ⟨w.heap.size + 1, 2, none⟩ (.slice none 0 0)) (w.heap.size + 1) [.int .i64 3, .int .i64 0, .slice none 0 0] 27 := ((Z5.set 0 _).set 1 _).set 2 _
              have OF : Only (w.heap.size + 1) wr (((wr.setCell ⟨w.heap.size + 1, 0, none⟩ (.int .i64 3)).setCell ⟨w.heap.size + 1, 1, none⟩ (.int .i64 0)).setCell ⟨w.heap.size + 1, 2, none⟩ (.slice none 0 0)) := ((Only.setCell _ (w.heap.size + 1) 0 _).trans (Only.setCell _ (w.heap.size + 1) 1 _)).trans (Only.setCell _ (w.heap.size + 1) 2 _)
              have RR := ZF.rangeG
              have NF := N5.trans (OF.below (B := w.heap.size) (by omega))
              have x0 := Z5.c0
              have x1 := Z5.c1
              have x2 := Z5.c2
              have f0 := Z5.free 0
              have f1 := Z5.free 1
              have f2 := Z5.free 2
              clear OF ZF eK eD
              go_wp2
              exact bodyPost_ret (v := .agg #[.int .i64 3, .int .i64 0, .slice none 0 0]) (results_cellG Tryz.results7 _ _ (w.heap.size + 1) [.int .i64 3, .int .i64 0, .slice none 0 0] d1 rfl RR hd1 hrow1 iOd) rfl ⟨⟨none, 0, w.heap.size, by rw [eN4.out, e1.out, e2.out]; rfl, by rw [e2.out]; exact Own.nil _ _ _ _, fun _ => rfl, by rw [e2.out]; exact Nat.le_refl _, Nat.le_refl _⟩, NF⟩
    · have eN2 : Hid (CD = 1) := by show _ = _; rw [eN.out, if_pos (hF.1 hf), if_neg hs]
      clear OP RN HB eI eIK eID UB UL
      rcases (by omega : (xs.length : Int) < 17 ∨ 2321 < (xs.length : Int)) with h | h
      · have u1 : decide ((xs.length : Int) < 17) = true := by simpa using h
        clear hs h hf hF eN lx
        go_enter Tryz.func7, Tryz.ntmps7
        go_upto_region 1 with fail
        generalize w.alloc (.cells #[.slice ak K.length ck, .slice ai V.length ci] 29) = wa at *
        have n2 : Below wa.heap.size wa (wa.alloc (.cells #[.int .i64 0, .int .i64 0, .slice none 0 0] 27)) := (Below.refl _ _).alloc (Nat.le_refl _) _
        have Z0 : RwC (wa.alloc (.cells #[.int .i64 0, .int .i64 0, .slice none 0 0] 27)) wa.heap.size [.int .i64 0, .int .i64 0, .slice none 0 0] 27 := RwC.new wa _ _
        replace B0 := B0.up n2
        have N := nxt n1 n2
        generalize wa.alloc (.cells #[.int .i64 0, .int .i64 0, .slice none 0 0] 27) = wb at *
        rw [z1] at Z0
        clear n1 n2 z1
        have lZ := Z0.lt
        have b0 := B0.c0
        have b1 := B0.c1
        go_wp2_with fail
        refine (FT.out wb).mono ?_
        rintro e w1 ⟨rfl, m1⟩
        have zm := m1.size
        replace N := nxt N m1
        replace Z0 := Z0.up m1
        replace B0 := B0.up m1
        clear b0 b1 m1 FT
        clear B0
        have e1 : Hid (KD = 0) := by show _ = _; rw [eK.out, if_neg (by rw [eN2.out]; decide)]
        have e2 : Hid (DD = []) := by show _ = _; rw [eD.out, if_neg (by rw [eN2.out]; decide)]
        have ZF : RwC (((w1.setCell ⟨w.heap.size + 1, 0, none⟩ (.int .i64 1)).setCell ⟨w.heap.size + 1, 1, none⟩ (.int .i64 0)).setCell ⟨w.heap.size + 1, 2, none⟩ (.slice none 0 0)) (w.heap.size + 1) [.int .i64 1, .int .i64 0, .slice none 0 0] 27 := ((Z0.set 0 _).set 1 _).set 2 _
        have OF : Only (w.heap.size + 1) w1 (((w1.setCell ⟨w.heap.size + 1, 0, none⟩ (.int .i64 1)).setCell ⟨w.heap.size + 1, 1, none⟩ (.int .i64 0)).setCell ⟨w.heap.size + 1, 2, none⟩ (.slice none 0 0)) := ((Only.setCell _ (w.heap.size + 1) 0 _).trans (Only.setCell _ (w.heap.size + 1) 1 _)).trans (Only.setCell _ (w.heap.size + 1) 2 _)
        have RR := ZF.rangeG
        have NF := N.trans (OF.below (B := w.heap.size) (by omega))
        have x0 := Z0.c0
        have x1 := Z0.c1
        have x2 := Z0.c2
        have f0 := Z0.free 0
        have f1 := Z0.free 1
        have f2 := Z0.free 2
        clear OF ZF eK eD
        go_wp2
        exact bodyPost_ret (v := .agg #[.int .i64 1, .int .i64 0, .slice none 0 0]) (results_cellG Tryz.results7 _ _ (w.heap.size + 1) [.int .i64 1, .int .i64 0, .slice none 0 0] d1 rfl RR hd1 hrow1 iOd) rfl ⟨⟨none, 0, w.heap.size, by rw [eN2.out, e1.out, e2.out]; rfl, by rw [e2.out]; exact Own.nil _ _ _ _, fun _ => rfl, by rw [e2.out]; exact Nat.le_refl _, Nat.le_refl _⟩, NF⟩
      · have u1 : decide ((xs.length : Int) < 17) = false := by simp; omega
        have u2 : decide (2321 < (xs.length : Int)) = true := by simpa using h
        clear hs h hf hF eN lx
        go_enter Tryz.func7, Tryz.ntmps7
        go_upto_region 1 with fail
        generalize w.alloc (.cells #[.slice ak K.length ck, .slice ai V.length ci] 29) = wa at *
        have n2 : Below wa.heap.size wa (wa.alloc (.cells #[.int .i64 0, .int .i64 0, .slice none 0 0] 27)) := (Below.refl _ _).alloc (Nat.le_refl _) _
        have Z0 : RwC (wa.alloc (.cells #[.int .i64 0, .int .i64 0, .slice none 0 0] 27)) wa.heap.size [.int .i64 0, .int .i64 0, .slice none 0 0] 27 := RwC.new wa _ _
        replace B0 := B0.up n2
        have N := nxt n1 n2
        generalize wa.alloc (.cells #[.int .i64 0, .int .i64 0, .slice none 0 0] 27) = wb at *
        rw [z1] at Z0
        clear n1 n2 z1
        have lZ := Z0.lt
        have b0 := B0.c0
        have b1 := B0.c1
        go_wp2_with fail
        refine (FT.out wb).mono ?_
        rintro e w1 ⟨rfl, m1⟩
        have zm := m1.size
        replace N := nxt N m1
        replace Z0 := Z0.up m1
        replace B0 := B0.up m1
        clear b0 b1 m1 FT
        clear B0
        have e1 : Hid (KD = 0) := by show _ = _; rw [eK.out, if_neg (by rw [eN2.out]; decide)]
        have e2 : Hid (DD = []) := by show _ = _; rw [eD.out, if_neg (by rw [eN2.out]; decide)]
        have ZF : RwC (((w1.setCell ⟨w.heap.size + 1, 0, none⟩ (.int .i64 1)).setCell ⟨w.heap.size + 1, 1, none⟩ (.int .i64 0)).setCell ⟨w.heap.size + 1, 2, none⟩ (.slice none 0 0)) (w.heap.size + 1) [.int .i64 1, .int .i64 0, .slice none 0 0] 27 := ((Z0.set 0 _).set 1 _).set 2 _
        have OF : Only (w.heap.size + 1) w1 (((w1.setCell ⟨w.heap.size + 1, 0, none⟩ (.int .i64 1)).setCell ⟨w.heap.size + 1, 1, none⟩ (.int .i64 0)).setCell ⟨w.heap.size + 1, 2, none⟩ (.slice none 0 0)) := ((Only.setCell _ (w.heap.size + 1) 0 _).trans (Only.setCell _ (w.heap.size + 1) 1 _)).trans (Only.setCell _ (w.heap.size + 1) 2 _)
        have RR := ZF.rangeG
        have NF := N.trans (OF.below (B := w.heap.size) (by omega))
        have x0 := Z0.c0
        have x1 := Z0.c1
        have x2 := Z0.c2
        have f0 := Z0.free 0
        have f1 := Z0.free 1
        have f2 := Z0.free 2
        clear OF ZF eK eD
        go_wp2
        exact bodyPost_ret (v := .agg #[.int .i64 1, .int .i64 0, .slice none 0 0]) (results_cellG Tryz.results7 _ _ (w.heap.size + 1) [.int .i64 1, .int .i64 0, .slice none 0 0] d1 rfl RR hd1 hrow1 iOd) rfl ⟨⟨none, 0, w.heap.size, by rw [eN2.out, e1.out, e2.out]; rfl, by rw [e2.out]; exact Own.nil _ _ _ _, fun _ => rfl, by rw [e2.out]; exact Nat.le_refl _, Nat.le_refl _⟩, NF⟩
  · have hf2 : fitA K.length V.length q = false := by simpa using hf
    rw [hf2] at FT
    have eN2 : Hid (CD = 1) := by show _ = _; rw [eN.out, if_neg (fun h => hf (hF.2 h))]
    clear OP RN HB eI eIK eID UB UL hf hf2 hF eN lx
    go_enter Tryz.func7, Tryz.ntmps7
    go_upto_region 1 with fail
    generalize w.alloc (.cells #[.slice ak K.length ck, .slice ai V.length ci] 29) = wa at *
    have n2 : Below wa.heap.size wa (wa.alloc (.cells #[.int .i64 0, .int .i64 0, .slice none 0 0] 27)) := (Below.refl _ _).alloc (Nat.le_refl _) _
    have Z0 : RwC (wa.alloc (.cells #[.int .i64 0, .int .i64 0, .slice none 0 0] 27)) wa.heap.size [.int .i64 0, .int .i64 0, .slice none 0 0] 27 := RwC.new wa _ _
    replace B0 := B0.up n2
    have N := nxt n1 n2
    generalize wa.alloc (.cells #[.int .i64 0, .int .i64 0, .slice none 0 0] 27) = wb at *
    rw [z1] at Z0
    clear n1 n2 z1
    have lZ := Z0.lt
    have b0 := B0.c0
    have b1 := B0.c1
    go_wp2_with fail
    refine (FT.out wb).mono ?_
    rintro e w1 ⟨rfl, m1⟩
    have zm := m1.size
    replace N := nxt N m1
    replace Z0 := Z0.up m1
    replace B0 := B0.up m1
    clear b0 b1 m1 FT
    clear B0
    have e1 : Hid (KD = 0) := by show _ = _; rw [eK.out, if_neg (by rw [eN2.out]; decide)]
    have e2 : Hid (DD = []) := by show _ = _; rw [eD.out, if_neg (by rw [eN2.out]; decide)]
    have ZF : RwC (((w1.setCell ⟨w.heap.size + 1, 0, none⟩ (.int .i64 1)).setCell ⟨w.heap.size + 1, 1, none⟩ (.int .i64 0)).setCell ⟨w.heap.size + 1, 2, none⟩ (.slice none 0 0)) (w.heap.size + 1) [.int .i64 1, .int .i64 0, .slice none 0 0] 27 := ((Z0.set 0 _).set 1 _).set 2 _
    have OF : Only (w.heap.size + 1) w1 (((w1.setCell ⟨w.heap.size + 1, 0, none⟩ (.int .i64 1)).setCell ⟨w.heap.size + 1, 1, none⟩ (.int .i64 0)).setCell ⟨w.heap.size + 1, 2, none⟩ (.slice none 0 0)) := ((Only.setCell _ (w.heap.size + 1) 0 _).trans (Only.setCell _ (w.heap.size + 1) 1 _)).trans (Only.setCell _ (w.heap.size + 1) 2 _)
    have RR := ZF.rangeG
    have NF := N.trans (OF.below (B := w.heap.size) (by omega))
    have x0 := Z0.c0
    have x1 := Z0.c1
    have x2 := Z0.c2
    have f0 := Z0.free 0
    have f1 := Z0.free 1
    have f2 := Z0.free 2
    clear OF ZF eK eD
    go_wp2
    exact bodyPost_ret (v := .agg #[.int .i64 1, .int .i64 0, .slice none 0 0]) (results_cellG Tryz.results7 _ _ (w.heap.size + 1) [.int .i64 1, .int .i64 0, .slice none 0 0] d1 rfl RR hd1 hrow1 iOd) rfl ⟨⟨none, 0, w.heap.size, by rw [eN2.out, e1.out, e2.out]; rfl, by rw [e2.out]; exact Own.nil _ _ _ _, fun _ => rfl, by rw [e2.out]; exact Nat.le_refl _, Nat.le_refl _⟩, NF⟩
end Go.Proofs.YtbdecibgejmelaaGreatDoor

/-
  The laws' count of a list's bytes.
-/
namespace Go.Proofs.YtbdecibgejmelaaGreatDoor
set_option maxRecDepth 100000
open Go Go.RowKit

theorem szByteR (w : World) (a : Option Addr) (n c : Nat) (left : Int) (hn : n < 9223372036854775808) (hl : 0 ≤ left) (hm : left ≤ 1048576) :
    Calls Tryz.prog 29 #[.slice a n c, .int .i64 left] w fun e w' => e = .returned (.int .i64 (if left < (n : Int) then -1 else left - (n : Int))) ∧ w' = w := by
  by_cases h : left < (n : Int)
  · have t1 : decide (left - (n : Int) < 0) = true := by simp; omega
    rw [if_pos h]
    go_enter Tryz.func29, Tryz.ntmps29
    go_wp2
    go_ret
    exact ⟨rfl, rfl⟩
  · have t1 : decide (left - (n : Int) < 0) = false := by simp; omega
    rw [if_neg h]
    go_enter Tryz.func29, Tryz.ntmps29
    go_wp2
    go_ret
    exact ⟨rfl, rfl⟩
end Go.Proofs.YtbdecibgejmelaaGreatDoor

/-
  The laws' helpers on Keys: counted, copied, held against each other, marked.
-/
namespace Go.Proofs.YtbdecibgejmelaaGreatDoor
set_option maxRecDepth 100000
open Go Go.RowKit

theorem szKeys_any (w : World) (a : Option Addr) (n c : Nat) (a' : Option Addr) (n' c' : Nat) (left : Int) (hn : n < 9223372036854775808) (hn' : n' < 9223372036854775808) (hl : 0 ≤ left) (hm : left ≤ 1048576) :
    Calls Tryz.prog 6 #[.agg #[.slice a n c, .slice a' n' c'], .int .i64 left] w fun e w' => e = .returned (.int .i64 (if left < (n : Int) + (n' : Int) then -1 else left - (n : Int) - (n' : Int))) ∧ Below w.heap.size w w' := by
  have n1 : Below w.heap.size w (w.alloc (.cells #[.slice a n c, .slice a' n' c'] 24)) := (Below.refl _ _).alloc (Nat.le_refl _) _
  have S1 := fun W => szByteR W a n c left hn (by omega) (by omega)
  by_cases h : left < (n : Int)
  · rw [if_pos h] at S1
    rw [if_pos (by omega)]
    go_enter Tryz.func6, Tryz.ntmps6
    go_wp2_with fail
    refine (S1 _).mono ?_
    rintro e w2 ⟨rfl, rfl⟩
    go_wp2
    go_ret
    exact ⟨rfl, n1⟩
  · have t1 : decide (left - (n : Int) < 0) = false := by simp; omega
    have S2 := fun W => szByteR W a' n' c' (left - (n : Int)) hn' (by omega) (by omega)
    rw [if_neg h] at S1
    by_cases h2 : left - (n : Int) < (n' : Int)
    · rw [if_pos h2] at S2
      rw [if_pos (by omega)]
      go_enter Tryz.func6, Tryz.ntmps6
      go_wp2_with fail
      refine (S1 _).mono ?_
      rintro e w2 ⟨rfl, rfl⟩
      go_wp2_with fail
      refine (S2 _).mono ?_
      rintro e w2 ⟨rfl, rfl⟩
      go_wp2
      go_ret
      exact ⟨rfl, n1⟩
    · have t2 : decide (left - (n : Int) - (n' : Int) < 0) = false := by simp; omega
      rw [if_neg h2] at S2
      rw [if_neg (by omega)]
      go_enter Tryz.func6, Tryz.ntmps6
      go_wp2_with fail
      refine (S1 _).mono ?_
      rintro e w2 ⟨rfl, rfl⟩
      go_wp2_with fail
      refine (S2 _).mono ?_
      rintro e w2 ⟨rfl, rfl⟩
      go_wp2
      go_ret
      exact ⟨rfl, n1⟩
theorem iKy : (Tryz.prog.info? 29).map (·.size) = some 2 := by kernel_rfl
theorem rowKy : ∃ d, Tryz.prog.underlying 29 = some d ∧ d.isRow = true := ⟨_, Tryz.underlying29, rfl⟩
theorem oneKy (a a' : Option Addr) (n c n' c' : Nat) : ([.slice a n c, .slice a' n' c'] : List Value).toArray.all (·.oneCell') = true := all_oneCell_toArray fun v hv => by
  simp only [List.mem_cons, List.not_mem_nil, or_false] at hv
  rcases hv with rfl | rfl
  all_goals rfl
set_option maxHeartbeats 4000000 in
theorem toKeys_any (w : World) (g : Nat) (a : Option Addr) (c : Nat) (xs : List Int) (g' : Nat) (a' : Option Addr) (c' : Nat) (ys : List Int) (hr : Rd w g a .u8 xs) (hr' : Rd w g' a' .u8 ys) (hn : xs.length ≤ 1048576) (hn' : ys.length ≤ 1048576) :
    Calls Tryz.prog 8 #[.agg #[.slice a xs.length c, .slice a' ys.length c']] w fun e w' => ∃ p p', e = .returned (.agg #[.slice (some ⟨p, 0, none⟩) xs.length xs.length, .slice (some ⟨p', 0, none⟩) ys.length ys.length]) ∧ Blk w' p .u8 xs ∧ Blk w' p' .u8 ys ∧ w.heap.size ≤ p ∧ p < p' ∧ Below w.heap.size w w' := by
  have T0 := TMs.new w 24 29 [.slice a xs.length c, .slice a' ys.length c'] [.slice none 0 0, .slice none 0 0]
  obtain ⟨d1, hd1, hrow1⟩ := rowKy
  go_enter Tryz.func8, Tryz.ntmps8
  go_upto_region 2 with fail
  have T0 : TMs w (((w.alloc (.cells #[.slice a xs.length c, .slice a' ys.length c'] 24)).alloc (.cells #[.slice none 0 0, .slice none 0 0] 29)).alloc (.cells #[.slice none 0 0, .slice none 0 0] 29)) 24 29 [.slice a xs.length c, .slice a' ys.length c'] [.slice none 0 0, .slice none 0 0] [.slice none 0 0, .slice none 0 0] := T0
  generalize ((w.alloc (.cells #[.slice a xs.length c, .slice a' ys.length c'] 24)).alloc (.cells #[.slice none 0 0, .slice none 0 0] 29)).alloc (.cells #[.slice none 0 0, .slice none 0 0] 29) = W1 at *
  have qS : W1.cell? ⟨w.heap.size, 0, none⟩ = some (.slice a xs.length c) := T0.S.cell 0
  have TB := hide (toByteS_any W1 g a c xs (hr.up T0.N) hn)
  go_wp2_with fail
  refine TB.out.mono ?_
  rintro e V ⟨rfl, B, m⟩
  have lt := T0.T.lt
  have T2 := T0.up m
  have lv := B.lt
  clear TB qS T0 m
  obtain ⟨G, hG⟩ : ∃ G, W1.heap.size = G := ⟨_, rfl⟩
  rw [hG] at B lt lv ⊢
  clear hG
  have qT : V.cell? ⟨w.heap.size + 1 + 1, 0, none⟩ = some (.slice none 0 0) := T2.T.cell 0
  have qF := T2.T.free 0
  have T3 : TMs w (V.setCell ⟨w.heap.size + 1 + 1, 0, none⟩ (.slice (some ⟨G, 0, none⟩) xs.length xs.length)) 24 29 [.slice a xs.length c, .slice a' ys.length c'] [.slice none 0 0, .slice none 0 0] [.slice (some ⟨G, 0, none⟩) xs.length xs.length, .slice none 0 0] := T2.set 0 _
  have B2 : Blk (V.setCell ⟨w.heap.size + 1 + 1, 0, none⟩ (.slice (some ⟨G, 0, none⟩) xs.length xs.length)) G .u8 xs := B.of_block ((Only.setCell V (w.heap.size + 1 + 1) 0 _).block G (by omega))
  have sv : V.heap.size ≤ (V.setCell ⟨w.heap.size + 1 + 1, 0, none⟩ (.slice (some ⟨G, 0, none⟩) xs.length xs.length)).heap.size := Nat.le_of_eq (Only.setCell V (w.heap.size + 1 + 1) 0 _).size.symm
  go_upto_region 3 with fail
  clear T2 B qT qF
  generalize V.setCell ⟨w.heap.size + 1 + 1, 0, none⟩ (.slice (some ⟨G, 0, none⟩) xs.length xs.length) = W3 at *
  have qS : W3.cell? ⟨w.heap.size, 1, none⟩ = some (.slice a' ys.length c') := T3.S.cell 1
  have TB := hide (toByteS_any W3 g' a' c' ys (hr'.up T3.N) hn')
  go_wp2_with fail
  refine TB.out.mono ?_
  rintro e V' ⟨rfl, B', m⟩
  have lt' := T3.T.lt
  have T4 := T3.up m
  have B3 := B2.up m
  clear TB qS T3 m B2
  obtain ⟨G', hG'⟩ : ∃ G', W3.heap.size = G' := ⟨_, rfl⟩
  rw [hG'] at B' lt' sv ⊢
  clear hG'
  have qT : V'.cell? ⟨w.heap.size + 1 + 1, 1, none⟩ = some (.slice none 0 0) := T4.T.cell 1
  have qF := T4.T.free 1
  go_upto_region 4 with fail
  have T5 : TMs w (V'.setCell ⟨w.heap.size + 1 + 1, 1, none⟩ (.slice (some ⟨G', 0, none⟩) ys.length ys.length)) 24 29 [.slice a xs.length c, .slice a' ys.length c'] [.slice none 0 0, .slice none 0 0] [.slice (some ⟨G, 0, none⟩) xs.length xs.length, .slice (some ⟨G', 0, none⟩) ys.length ys.length] := T4.set 1 _
  have B4 : Blk (V'.setCell ⟨w.heap.size + 1 + 1, 1, none⟩ (.slice (some ⟨G', 0, none⟩) ys.length ys.length)) G .u8 xs := B3.of_block ((Only.setCell V' (w.heap.size + 1 + 1) 1 _).block G (by omega))
  have B4' : Blk (V'.setCell ⟨w.heap.size + 1 + 1, 1, none⟩ (.slice (some ⟨G', 0, none⟩) ys.length ys.length)) G' .u8 ys := B'.of_block ((Only.setCell V' (w.heap.size + 1 + 1) 1 _).block G' (by omega))
  clear T4 B' B3 qT qF
  generalize V'.setCell ⟨w.heap.size + 1 + 1, 1, none⟩ (.slice (some ⟨G', 0, none⟩) ys.length ys.length) = W2 at *
  have RG := T5.T.rangeG
  have TH := T5.U.thereG
  have RR := World.rangeAt_setCells_same W2 (w.heap.size + 1) 0 [.slice (some ⟨G, 0, none⟩) xs.length xs.length, .slice (some ⟨G', 0, none⟩) ys.length ys.length] TH
  have OQ := only_setG W2 (w.heap.size + 1) [.slice (some ⟨G, 0, none⟩) xs.length xs.length, .slice (some ⟨G', 0, none⟩) ys.length ys.length] 0
  have N8 : Hid (Below w.heap.size w (W2.setCells (w.heap.size + 1) 0 [.slice (some ⟨G, 0, none⟩) xs.length xs.length, .slice (some ⟨G', 0, none⟩) ys.length ys.length])) := T5.N.trans (OQ.below (by omega))
  have B5 := hide (B4.of_block (OQ.block G (by omega)))
  have B6 := hide (B4'.of_block (OQ.block G' (by omega)))
  have ON := oneKy (some ⟨G, 0, none⟩) (some ⟨G', 0, none⟩) xs.length xs.length ys.length ys.length
  clear OQ T5 B4 B4'
  go_wp2_with (first
    | (refine wpList_load_mid rfl 29 (.tmp 3) rfl (w.heap.size + 1 + 1) 0 rfl [.slice (some ⟨G, 0, none⟩) xs.length xs.length, .slice (some ⟨G', 0, none⟩) ys.length ys.length] d1 RG hd1 hrow1 iKy ?_)
    | (refine wpList_store_mid rfl 29 (.tmp 2) (.tmp 12) rfl (w.heap.size + 1) 0 #[.slice (some ⟨G, 0, none⟩) xs.length xs.length, .slice (some ⟨G', 0, none⟩) ys.length ys.length] rfl rfl ?hth ?hin ?hon ?_))
  case hth => exact TH
  case hin => exact iKy
  case hon => exact ON
  exact bodyPost_ret (v := .agg #[.slice (some ⟨G, 0, none⟩) xs.length xs.length, .slice (some ⟨G', 0, none⟩) ys.length ys.length]) (results_cellG Tryz.results8 _ _ (w.heap.size + 1) _ d1 rfl RR hd1 hrow1 iKy) rfl ⟨G, G', rfl, B5.out, B6.out, by omega, by omega, N8.out⟩
set_option maxHeartbeats 1000000 in
theorem eqKeys_same (w : World) (g g2 : Nat) (a a2 : Option Addr) (c c2 : Nat) (xs : List Int) (h1 : Rd w g a .u8 xs) (h2 : Rd w g2 a2 .u8 xs) (hn : xs.length ≤ 1048576) (g' g2' : Nat) (a' a2' : Option Addr) (c' c2' : Nat) (ys : List Int) (h1' : Rd w g' a' .u8 ys) (h2' : Rd w g2' a2' .u8 ys) (hn' : ys.length ≤ 1048576) :
    Calls Tryz.prog 12 #[.agg #[.slice a xs.length c, .slice a' ys.length c'], .agg #[.slice a2 xs.length c2, .slice a2' ys.length c2']] w fun e w' => e = .returned (.bool true) ∧ Below w.heap.size w w' := by
  have n1 : Below w.heap.size w (w.alloc (.cells #[.slice a xs.length c, .slice a' ys.length c'] 29)) := (Below.refl _ _).alloc (Nat.le_refl _) _
  have n2 : Below (w.alloc (.cells #[.slice a xs.length c, .slice a' ys.length c'] 29)).heap.size (w.alloc (.cells #[.slice a xs.length c, .slice a' ys.length c'] 29)) ((w.alloc (.cells #[.slice a xs.length c, .slice a' ys.length c'] 29)).alloc (.cells #[.slice a2 xs.length c2, .slice a2' ys.length c2'] 29)) := (Below.refl _ _).alloc (Nat.le_refl _) _
  have P0 : RwC (w.alloc (.cells #[.slice a xs.length c, .slice a' ys.length c'] 29)) w.heap.size [.slice a xs.length c, .slice a' ys.length c'] 29 := RwC.new w _ _
  have P1 : RwC ((w.alloc (.cells #[.slice a xs.length c, .slice a' ys.length c'] 29)).alloc (.cells #[.slice a2 xs.length c2, .slice a2' ys.length c2'] 29)) (w.heap.size + 1) [.slice a2 xs.length c2, .slice a2' ys.length c2'] 29 := by have := RwC.new (w.alloc (.cells #[.slice a xs.length c, .slice a' ys.length c'] 29)) [.slice a2 xs.length c2, .slice a2' ys.length c2'] 29; simpa using this
  have N := nxt n1 n2
  replace P0 := P0.up n2
  have E := hide (fun W (n : Below w.heap.size w W) => eqByteS_same W g g2 a a2 c c2 xs (h1.up n) (h2.up n) hn)
  have E' := hide (fun W (n : Below w.heap.size w W) => eqByteS_same W g' g2' a' a2' c' c2' ys (h1'.up n) (h2'.up n) hn')
  clear n1 n2 h1 h2 h1' h2'
  go_enter Tryz.func12, Tryz.ntmps12
  go_wp2_with fail
  generalize (w.alloc (.cells #[.slice a xs.length c, .slice a' ys.length c'] 29)).alloc (.cells #[.slice a2 xs.length c2, .slice a2' ys.length c2'] 29) = wa at *
  refine (E.out _ N).mono ?_
  rintro e w2 ⟨rfl, m⟩
  replace N := nxt N m
  have x0 := (P0.up m).c1
  have x1 := (P1.up m).c1
  go_wp2_with fail
  refine (E'.out _ N).mono ?_
  rintro e w3 ⟨rfl, m'⟩
  go_wp2
  go_ret
  exact ⟨rfl, nxt N m'⟩
set_option maxHeartbeats 1000000 in
theorem markKeys_any (w : World) (g : Nat) (a : Option Addr) (c : Nat) (xs : List Int) (g' : Nat) (a' : Option Addr) (c' : Nat) (ys : List Int) (m : Int) (ha : Own w g a .u8 xs) (ha' : Own w g' a' .u8 ys) (hn : xs.length ≤ 1048576) (hn' : ys.length ≤ 1048576) (hne : g ≠ g' ∧ g < w.heap.size ∧ g' < w.heap.size) (k0 : 0 ≤ m) (k1 : m ≤ 1000000000) :
    Calls Tryz.prog 14 #[.agg #[.slice a xs.length c, .slice a' ys.length c'], .int .i64 m] w fun e w' => e = .returned (.int .i64 (m + (xs.length : Int) + (ys.length : Int))) ∧ Tch [g, g'] w w' := by
  have n1 : Below w.heap.size w (w.alloc (.cells #[.slice a xs.length c, .slice a' ys.length c'] 29)) := (Below.refl _ _).alloc (Nat.le_refl _) _
  have P0 : RwC (w.alloc (.cells #[.slice a xs.length c, .slice a' ys.length c'] 29)) w.heap.size [.slice a xs.length c, .slice a' ys.length c'] 29 := RwC.new w _ _
  have M := hide (markByteS_any (w.alloc (.cells #[.slice a xs.length c, .slice a' ys.length c'] 29)) g a c xs m (ha.up n1) hn k0 (by omega))
  have O' := ha'.up n1
  clear ha ha'
  have HN := hide hne
  clear hne
  go_enter Tryz.func14, Tryz.ntmps14
  go_wp2_with fail
  generalize w.alloc (.cells #[.slice a xs.length c, .slice a' ys.length c'] 29) = wa at *
  refine M.out.mono ?_
  rintro e w2 ⟨rfl, -, O⟩
  have P1 := P0.onl O (by have := HN.out; omega)
  have O2 := O'.only O (fun _ => by have := HN.out; omega)
  have M2 := hide (markByteS_any w2 g' a' c' ys (m + (xs.length : Int)) O2 hn' (by omega) (by omega))
  have x1 := P1.c1
  clear M O' O2 P0 P1
  go_wp2_with fail
  refine M2.out.mono ?_
  rintro e w3 ⟨rfl, -, O3⟩
  go_wp2
  go_ret
  exact ⟨rfl, (((Tch.of_below n1).trans (Tch.of_only O)).trans (Tch.of_only O3)).mono (T := [g, g']) (S := [] ++ [g] ++ [g']) (by simp)⟩
end Go.Proofs.YtbdecibgejmelaaGreatDoor

/-
  The laws' helpers on an Opened: held against each other, marked, marks asked for.
-/
namespace Go.Proofs.YtbdecibgejmelaaGreatDoor
set_option maxRecDepth 100000
open Go Go.RowKit

set_option maxHeartbeats 1000000 in
theorem eqOpened_same (w : World) (cd kd : Int) (g g' : Nat) (a a' : Option Addr) (c c' : Nat) (xs : List Int) (h1 : Rd w g a .u8 xs) (h2 : Rd w g' a' .u8 xs) (hn : xs.length ≤ 1048576) :
    Calls Tryz.prog 11 #[.agg #[.int .i64 cd, .int .i64 kd, .slice a xs.length c], .agg #[.int .i64 cd, .int .i64 kd, .slice a' xs.length c']] w fun e w' => e = .returned (.bool true) ∧ Below w.heap.size w w' := by
  have n1 : Below w.heap.size w (w.alloc (.cells #[.int .i64 cd, .int .i64 kd, .slice a xs.length c] 27)) := (Below.refl _ _).alloc (Nat.le_refl _) _
  have n2 : Below (w.alloc (.cells #[.int .i64 cd, .int .i64 kd, .slice a xs.length c] 27)).heap.size (w.alloc (.cells #[.int .i64 cd, .int .i64 kd, .slice a xs.length c] 27)) ((w.alloc (.cells #[.int .i64 cd, .int .i64 kd, .slice a xs.length c] 27)).alloc (.cells #[.int .i64 cd, .int .i64 kd, .slice a' xs.length c'] 27)) := (Below.refl _ _).alloc (Nat.le_refl _) _
  have N := nxt n1 n2
  have E := hide (fun W (n : Below w.heap.size w W) => eqByteS_same W g g' a a' c c' xs (h1.up n) (h2.up n) hn)
  clear n1 n2 h1 h2
  go_enter Tryz.func11, Tryz.ntmps11
  go_wp2_with fail
  refine (E.out _ N).mono ?_
  rintro e w2 ⟨rfl, m⟩
  go_wp2
  go_ret
  exact ⟨rfl, nxt N m⟩
set_option maxHeartbeats 1000000 in
theorem markOpened_any (w : World) (cd kd : Int) (g : Nat) (a : Option Addr) (c : Nat) (xs : List Int) (m : Int) (ha : Own w g a .u8 xs) (hn : xs.length ≤ 1048576) (k0 : 0 ≤ m) (k1 : m ≤ 1099511627776) :
    Calls Tryz.prog 16 #[.agg #[.int .i64 cd, .int .i64 kd, .slice a xs.length c], .int .i64 m] w fun e w' => e = .returned (.int .i64 (m + (xs.length : Int))) ∧ Own w' g a .u8 (marks m xs.length) ∧ Tch [g] w w' := by
  have n1 : Below w.heap.size w (w.alloc (.cells #[.int .i64 cd, .int .i64 kd, .slice a xs.length c] 27)) := (Below.refl _ _).alloc (Nat.le_refl _) _
  have M := hide (markByteS_any (w.alloc (.cells #[.int .i64 cd, .int .i64 kd, .slice a xs.length c] 27)) g a c xs m (ha.up n1) hn k0 k1)
  clear ha
  go_enter Tryz.func16, Tryz.ntmps16
  go_wp2_with fail
  refine M.out.mono ?_
  rintro e w2 ⟨rfl, o, O⟩
  go_wp2
  go_ret
  exact ⟨rfl, o, ((Tch.of_below n1).trans (Tch.of_only O)).mono (T := [g]) (S := [] ++ [g]) (by simp)⟩
set_option maxHeartbeats 1000000 in
theorem heldOpened_any (w : World) (cd kd : Int) (g : Nat) (a : Option Addr) (c n : Nat) (m : Int) (ha : Rd w g a .u8 (marks m n)) (hn : n ≤ 1048576) (k0 : 0 ≤ m) (k1 : m ≤ 1099511627776) :
    Calls Tryz.prog 17 #[.agg #[.int .i64 cd, .int .i64 kd, .slice a n c], .int .i64 m] w fun e w' => e = .returned (.int .i64 (m + (n : Int))) ∧ Below w.heap.size w w' := by
  have n1 : Below w.heap.size w (w.alloc (.cells #[.int .i64 cd, .int .i64 kd, .slice a n c] 27)) := (Below.refl _ _).alloc (Nat.le_refl _) _
  have M := hide (heldByteS_any (w.alloc (.cells #[.int .i64 cd, .int .i64 kd, .slice a n c] 27)) g a c n m (ha.up n1) hn k0 k1)
  have t1 : decide (m + (n : Int) < 0) = false := by simp; omega
  clear ha
  go_enter Tryz.func17, Tryz.ntmps17
  go_wp2_with fail
  refine M.out.mono ?_
  rintro e w2 ⟨rfl, h⟩
  have h := h.symm
  subst h
  go_wp2
  go_ret
  exact ⟨rfl, n1⟩
end Go.Proofs.YtbdecibgejmelaaGreatDoor

/-
  What a list of bytes in a statement's frame gives, with its length's bound.
-/
namespace Go.Proofs.YtbdecibgejmelaaGreatDoor
set_option maxRecDepth 100000
open Go Go.RowKit

theorem rd_of_row3 {w : World} {a : Option Addr} {len cap : Nat} {zs : List Int}
    (h : (a = none ∧ len = 0 ∧ cap = 0 ∧ zs = []) ∨ ∃ x, a = some x ∧ len ≤ cap ∧ cap ≤ maxLen ∧ zs.length = cap ∧ (∀ i, i < zs.length → w.cell? (x.add i) = some (.int .u8 (zs.getD i 0))) ∧ ∀ n ∈ zs, (Lit.int .u8 n).wf = true) :
    ∃ (g : Nat) (xs : List Int), xs.length = len ∧ Rd w g a .u8 xs ∧ Byt xs ∧ xs.length < 9223372036854775808 := by
  obtain ⟨g, xs, hl, r, b⟩ := rd_of_row h
  refine ⟨g, xs, hl, r, b, ?_⟩
  rcases h with ⟨_, h, _⟩ | ⟨_, _, h1, h2, _⟩
  · omega
  · have : maxLen = 9223372036854775807 := rfl
    omega
end Go.Proofs.YtbdecibgejmelaaGreatDoor

/-
  The law of Unprotect (written by gens/lx.py).
-/
namespace Go.Proofs.YtbdecibgejmelaaGreatDoor
set_option maxRecDepth 100000
open Go Go.RowKit

/-- The seven errors that opening reads, no two of them the same. -/
def HasR7 (W : World) : Prop := ∃ a1 a2 a3 a4 a5 a6 a7, Sen W 5 a1 ∧ Sen W 2 a2 ∧ Sen W 1 a3 ∧ Sen W 3 a4 ∧ Sen W 4 a5 ∧ Sen W 6 a6 ∧ Sen W 7 a7 ∧ Dst a1 a2 a3 a4 a5 a6 a7
theorem laid_unp {W : World} (h : laidMetH Tryz.prog Rows.fnExactUnprotectRow.laid W) : HasR7 W := by
  obtain ⟨x0, y0, h0, k0, e0⟩ := sen_pair h (by kernel_rfl) (n0 := "loop.example/g00004/impl.errNoKind") (n1 := "loop.example/g00004/impl.errWrongSize") (.cons _ (.cons_cons _ (.cons_cons _ (.cons _ (.cons _ (.cons _ (.cons _ (.cons _ (.cons _ (.slnil)))))))))) (g0 := 5) (g1 := 2) (by kernel_rfl) (by kernel_rfl) (by kernel_rfl) (by kernel_rfl)
  obtain ⟨x1, y1, h1, k1, e1⟩ := sen_pair h (by kernel_rfl) (n0 := "loop.example/g00004/impl.errNoKind") (n1 := "loop.example/g00004/impl.errWrongKeys") (.cons _ (.cons_cons _ (.cons _ (.cons_cons _ (.cons _ (.cons _ (.cons _ (.cons _ (.cons _ (.slnil)))))))))) (g0 := 5) (g1 := 1) (by kernel_rfl) (by kernel_rfl) (by kernel_rfl) (by kernel_rfl)
  obtain rfl := Sen.same h0 h1
  obtain ⟨x2, y2, h2, k2, e2⟩ := sen_pair h (by kernel_rfl) (n0 := "loop.example/g00004/impl.errNoKind") (n1 := "loop.example/g00004/impl.errNotOpened") (.cons _ (.cons_cons _ (.cons _ (.cons _ (.cons_cons _ (.cons _ (.cons _ (.cons _ (.cons _ (.slnil)))))))))) (g0 := 5) (g1 := 3) (by kernel_rfl) (by kernel_rfl) (by kernel_rfl) (by kernel_rfl)
  obtain rfl := Sen.same h0 h2
  obtain ⟨x3, y3, h3, k3, e3⟩ := sen_pair h (by kernel_rfl) (n0 := "loop.example/g00004/impl.errNoKind") (n1 := "loop.example/g00004/impl.errAllPad") (.cons _ (.cons_cons _ (.cons _ (.cons _ (.cons _ (.cons_cons _ (.cons _ (.cons _ (.cons _ (.slnil)))))))))) (g0 := 5) (g1 := 4) (by kernel_rfl) (by kernel_rfl) (by kernel_rfl) (by kernel_rfl)
  obtain rfl := Sen.same h0 h3
  obtain ⟨x4, y4, h4, k4, e4⟩ := sen_pair h (by kernel_rfl) (n0 := "loop.example/g00004/impl.errNoKind") (n1 := "loop.example/g00004/impl.errMuchData") (.cons _ (.cons_cons _ (.cons _ (.cons _ (.cons _ (.cons _ (.cons_cons _ (.cons _ (.cons _ (.slnil)))))))))) (g0 := 5) (g1 := 6) (by kernel_rfl) (by kernel_rfl) (by kernel_rfl) (by kernel_rfl)
  obtain rfl := Sen.same h0 h4
  obtain ⟨x5, y5, h5, k5, e5⟩ := sen_pair h (by kernel_rfl) (n0 := "loop.example/g00004/impl.errNoKind") (n1 := "loop.example/g00004/impl.errNoData") (.cons _ (.cons_cons _ (.cons _ (.cons _ (.cons _ (.cons _ (.cons _ (.cons_cons _ (.cons _ (.slnil)))))))))) (g0 := 5) (g1 := 7) (by kernel_rfl) (by kernel_rfl) (by kernel_rfl) (by kernel_rfl)
  obtain rfl := Sen.same h0 h5
  obtain ⟨x6, y6, h6, k6, e6⟩ := sen_pair h (by kernel_rfl) (n0 := "loop.example/g00004/impl.errWrongSize") (n1 := "loop.example/g00004/impl.errWrongKeys") (.cons _ (.cons _ (.cons_cons _ (.cons_cons _ (.cons _ (.cons _ (.cons _ (.cons _ (.cons _ (.slnil)))))))))) (g0 := 2) (g1 := 1) (by kernel_rfl) (by kernel_rfl) (by kernel_rfl) (by kernel_rfl)
  obtain rfl := Sen.same k0 h6
  obtain rfl := Sen.same k1 k6
  obtain ⟨x7, y7, h7, k7, e7⟩ := sen_pair h (by kernel_rfl) (n0 := "loop.example/g00004/impl.errWrongSize") (n1 := "loop.example/g00004/impl.errNotOpened") (.cons _ (.cons _ (.cons_cons _ (.cons _ (.cons_cons _ (.cons _ (.cons _ (.cons _ (.cons _ (.slnil)))))))))) (g0 := 2) (g1 := 3) (by kernel_rfl) (by kernel_rfl) (by kernel_rfl) (by kernel_rfl)
  obtain rfl := Sen.same k0 h7
  obtain rfl := Sen.same k2 k7
  obtain ⟨x8, y8, h8, k8, e8⟩ := sen_pair h (by kernel_rfl) (n0 := "loop.example/g00004/impl.errWrongSize") (n1 := "loop.example/g00004/impl.errAllPad") (.cons _ (.cons _ (.cons_cons _ (.cons _ (.cons _ (.cons_cons _ (.cons _ (.cons _ (.cons _ (.slnil)))))))))) (g0 := 2) (g1 := 4) (by kernel_rfl) (by kernel_rfl) (by kernel_rfl) (by kernel_rfl)
  obtain rfl := Sen.same k0 h8
  obtain rfl := Sen.same k3 k8
  obtain ⟨x9, y9, h9, k9, e9⟩ := sen_pair h (by kernel_rfl) (n0 := "loop.example/g00004/impl.errWrongSize") (n1 := "loop.example/g00004/impl.errMuchData") (.cons _ (.cons _ (.cons_cons _ (.cons _ (.cons _ (.cons _ (.cons_cons _ (.cons _ (.cons _ (.slnil)))))))))) (g0 := 2) (g1 := 6) (by kernel_rfl) (by kernel_rfl) (by kernel_rfl) (by kernel_rfl)
  obtain rfl := Sen.same k0 h9
  obtain rfl := Sen.same k4 k9
  obtain ⟨x10, y10, h10, k10, e10⟩ := sen_pair h (by kernel_rfl) (n0 := "loop.example/g00004/impl.errWrongSize") (n1 := "loop.example/g00004/impl.errNoData") (.cons _ (.cons _ (.cons_cons _ (.cons _ (.cons _ (.cons _ (.cons _ (.cons_cons _ (.cons _ (.slnil)))))))))) (g0 := 2) (g1 := 7) (by kernel_rfl) (by kernel_rfl) (by kernel_rfl) (by kernel_rfl)
  obtain rfl := Sen.same k0 h10
  obtain rfl := Sen.same k5 k10
  obtain ⟨x11, y11, h11, k11, e11⟩ := sen_pair h (by kernel_rfl) (n0 := "loop.example/g00004/impl.errWrongKeys") (n1 := "loop.example/g00004/impl.errNotOpened") (.cons _ (.cons _ (.cons _ (.cons_cons _ (.cons_cons _ (.cons _ (.cons _ (.cons _ (.cons _ (.slnil)))))))))) (g0 := 1) (g1 := 3) (by kernel_rfl) (by kernel_rfl) (by kernel_rfl) (by kernel_rfl)
  obtain rfl := Sen.same k1 h11
  obtain rfl := Sen.same k2 k11
  obtain ⟨x12, y12, h12, k12, e12⟩ := sen_pair h (by kernel_rfl) (n0 := "loop.example/g00004/impl.errWrongKeys") (n1 := "loop.example/g00004/impl.errAllPad") (.cons _ (.cons _ (.cons _ (.cons_cons _ (.cons _ (.cons_cons _ (.cons _ (.cons _ (.cons _ (.slnil)))))))))) (g0 := 1) (g1 := 4) (by kernel_rfl) (by kernel_rfl) (by kernel_rfl) (by kernel_rfl)
  obtain rfl := Sen.same k1 h12
  obtain rfl := Sen.same k3 k12
  obtain ⟨x13, y13, h13, k13, e13⟩ := sen_pair h (by kernel_rfl) (n0 := "loop.example/g00004/impl.errWrongKeys") (n1 := "loop.example/g00004/impl.errMuchData") (.cons _ (.cons _ (.cons _ (.cons_cons _ (.cons _ (.cons _ (.cons_cons _ (.cons _ (.cons _ (.slnil)))))))))) (g0 := 1) (g1 := 6) (by kernel_rfl) (by kernel_rfl) (by kernel_rfl) (by kernel_rfl)
  obtain rfl := Sen.same k1 h13
  obtain rfl := Sen.same k4 k13
  obtain ⟨x14, y14, h14, k14, e14⟩ := sen_pair h (by kernel_rfl) (n0 := "loop.example/g00004/impl.errWrongKeys") (n1 := "loop.example/g00004/impl.errNoData") (.cons _ (.cons _ (.cons _ (.cons_cons _ (.cons _ (.cons _ (.cons _ (.cons_cons _ (.cons _ (.slnil)))))))))) (g0 := 1) (g1 := 7) (by kernel_rfl) (by kernel_rfl) (by kernel_rfl) (by kernel_rfl)
  obtain rfl := Sen.same k1 h14
  obtain rfl := Sen.same k5 k14
  obtain ⟨x15, y15, h15, k15, e15⟩ := sen_pair h (by kernel_rfl) (n0 := "loop.example/g00004/impl.errNotOpened") (n1 := "loop.example/g00004/impl.errAllPad") (.cons _ (.cons _ (.cons _ (.cons _ (.cons_cons _ (.cons_cons _ (.cons _ (.cons _ (.cons _ (.slnil)))))))))) (g0 := 3) (g1 := 4) (by kernel_rfl) (by kernel_rfl) (by kernel_rfl) (by kernel_rfl)
  obtain rfl := Sen.same k2 h15
  obtain rfl := Sen.same k3 k15
  obtain ⟨x16, y16, h16, k16, e16⟩ := sen_pair h (by kernel_rfl) (n0 := "loop.example/g00004/impl.errNotOpened") (n1 := "loop.example/g00004/impl.errMuchData") (.cons _ (.cons _ (.cons _ (.cons _ (.cons_cons _ (.cons _ (.cons_cons _ (.cons _ (.cons _ (.slnil)))))))))) (g0 := 3) (g1 := 6) (by kernel_rfl) (by kernel_rfl) (by kernel_rfl) (by kernel_rfl)
  obtain rfl := Sen.same k2 h16
  obtain rfl := Sen.same k4 k16
  obtain ⟨x17, y17, h17, k17, e17⟩ := sen_pair h (by kernel_rfl) (n0 := "loop.example/g00004/impl.errNotOpened") (n1 := "loop.example/g00004/impl.errNoData") (.cons _ (.cons _ (.cons _ (.cons _ (.cons_cons _ (.cons _ (.cons _ (.cons_cons _ (.cons _ (.slnil)))))))))) (g0 := 3) (g1 := 7) (by kernel_rfl) (by kernel_rfl) (by kernel_rfl) (by kernel_rfl)
  obtain rfl := Sen.same k2 h17
  obtain rfl := Sen.same k5 k17
  obtain ⟨x18, y18, h18, k18, e18⟩ := sen_pair h (by kernel_rfl) (n0 := "loop.example/g00004/impl.errAllPad") (n1 := "loop.example/g00004/impl.errMuchData") (.cons _ (.cons _ (.cons _ (.cons _ (.cons _ (.cons_cons _ (.cons_cons _ (.cons _ (.cons _ (.slnil)))))))))) (g0 := 4) (g1 := 6) (by kernel_rfl) (by kernel_rfl) (by kernel_rfl) (by kernel_rfl)
  obtain rfl := Sen.same k3 h18
  obtain rfl := Sen.same k4 k18
  obtain ⟨x19, y19, h19, k19, e19⟩ := sen_pair h (by kernel_rfl) (n0 := "loop.example/g00004/impl.errAllPad") (n1 := "loop.example/g00004/impl.errNoData") (.cons _ (.cons _ (.cons _ (.cons _ (.cons _ (.cons_cons _ (.cons _ (.cons_cons _ (.cons _ (.slnil)))))))))) (g0 := 4) (g1 := 7) (by kernel_rfl) (by kernel_rfl) (by kernel_rfl) (by kernel_rfl)
  obtain rfl := Sen.same k3 h19
  obtain rfl := Sen.same k5 k19
  obtain ⟨x20, y20, h20, k20, e20⟩ := sen_pair h (by kernel_rfl) (n0 := "loop.example/g00004/impl.errMuchData") (n1 := "loop.example/g00004/impl.errNoData") (.cons _ (.cons _ (.cons _ (.cons _ (.cons _ (.cons _ (.cons_cons _ (.cons_cons _ (.cons _ (.slnil)))))))))) (g0 := 6) (g1 := 7) (by kernel_rfl) (by kernel_rfl) (by kernel_rfl) (by kernel_rfl)
  obtain rfl := Sen.same k4 h20
  obtain rfl := Sen.same k5 k20
  exact ⟨x0, y0, y1, y2, y3, y4, y5, h0, k0, k1, k2, k3, k4, k5, ⟨e0, e1, e2, e3, e4, e5⟩, ⟨e6, e7, e8, e9, e10⟩, ⟨e11, e12, e13, e14⟩, ⟨e15, e16, e17⟩, ⟨e18, e19⟩, e20⟩
set_option maxHeartbeats 8000000 in
theorem unp_law (w : World) (g0 : Nat) (a0 : Option Addr) (c0 : Nat) (X0 : List Int) (hX0 : Rd w g0 a0 .u8 X0) (bX0 : Byt X0) (lX0 : X0.length < 9223372036854775808) (g0' : Nat) (a0' : Option Addr) (c0' : Nat) (X0' : List Int) (hX0' : Rd w g0' a0' .u8 X0') (bX0' : Byt X0') (lX0' : X0'.length < 9223372036854775808) (n1 : Int) (_bn1 : (Lit.int .i64 n1).wf = true) (g2 : Nat) (a2 : Option Addr) (c2 : Nat) (X2 : List Int) (hX2 : Rd w g2 a2 .u8 X2) (bX2 : Byt X2) (hL : HasR7 w) :
    Calls Tryz.prog 3 #[.agg #[.slice a0 X0.length c0, .slice a0' X0'.length c0'], .int .i64 n1, .slice a2 X2.length c2] w fun e w' => e = .returned (.bool true) ∧ Below w.heap.size w w' := by
  by_cases q2 : X2.length ≤ 1048576
  · have u2 : decide ((1048576 : Int) < (X2.length : Int)) = false := by simp; omega
    by_cases qs : X0.length + X0'.length ≤ 1048576
    · skip
      have SZ := fun W => hide (szKeys_any W a0 X0.length c0 a0' X0'.length c0' 1048576 lX0 lX0' (by decide) (by decide))
      simp only [if_neg (show ¬ ((1048576 : Int) < (X0.length : Int) + (X0'.length : Int)) by omega)] at SZ
      have us : decide ((1048576 : Int) - (X0.length : Int) - (X0'.length : Int) < 0) = false := by simp; omega
      obtain ⟨r1, r2, r3, r4, r5, r6, r7, h1, h2, h3, h4, h5, h6, h7, hD⟩ := hL
      have hL : True := trivial
      have SP : ∀ W g a c, Rd W g a .u8 X0 → (a = none → c = 0) → X0.length ≤ c → ∀ g' a' c', Rd W g' a' .u8 X0' → (a' = none → c' = 0) → X0'.length ≤ c' → ∀ g3 a3 c3, Rd W g3 a3 .u8 X2 → (a3 = none → c3 = 0) → X2.length ≤ c3 → Calls Tryz.prog 7 #[.agg #[.slice a X0.length c, .slice a' X0'.length c'], .int .i64 n1, .slice a3 X2.length c3] W fun e w' => (∃ a c g, e = .returned (.agg #[.int .i64 (upN X0 X0' n1 X2), .int .i64 (upK X0 X0' n1 X2), .slice a (upD X0 X0' n1 X2).length c]) ∧ Own w' g a .u8 (upD X0 X0' n1 X2) ∧ (a = none → c = 0) ∧ (upD X0 X0' n1 X2).length ≤ c ∧ W.heap.size ≤ g) ∧ Below W.heap.size W w' := fun W g a c h _ k g' a' c' h' z' _ g3 a3 c3 h3' z3 k3 => specUnprotect_any W g a c X0 h bX0 k g' a' c' X0' h' bX0' z' n1 g3 a3 c3 X2 h3' bX2 k3 (by omega)
      have IM : ∀ W g a c, Rd W g a .u8 X0 → (a = none → c = 0) → X0.length ≤ c → ∀ g' a' c', Rd W g' a' .u8 X0' → (a' = none → c' = 0) → X0'.length ≤ c' → ∀ g3 a3 c3, Rd W g3 a3 .u8 X2 → (a3 = none → c3 = 0) → X2.length ≤ c3 → Below w.heap.size w W → Calls Tryz.prog 10 #[.agg #[.slice a X0.length c, .slice a' X0'.length c'], .int .i64 n1, .slice a3 X2.length c3] W fun e w' => (∃ a c g, e = .returned (.agg #[.int .i64 (upN X0 X0' n1 X2), .int .i64 (upK X0 X0' n1 X2), .slice a (upD X0 X0' n1 X2).length c]) ∧ Own w' g a .u8 (upD X0 X0' n1 X2) ∧ (a = none → c = 0) ∧ (upD X0 X0' n1 X2).length ≤ c ∧ W.heap.size ≤ g) ∧ Below W.heap.size W w' := fun W g a c h _ k g' a' c' h' z' _ g3 a3 c3 h3' z3 k3 m => implUnprotect_any W g a c X0 h bX0 k g' a' c' X0' h' bX0' z' n1 g3 a3 c3 X2 h3' bX2 k3 (by omega) r1 r2 r3 r4 r5 r6 r7 (h1.up m) (h2.up m) (h3.up m) (h4.up m) (h5.up m) (h6.up m) (h7.up m) hD
      clear h1 h2 h3 h4 h5 h6 h7 hD
      have hy : (upD X0 X0' n1 X2).length ≤ 1048576 := Nat.le_trans (upD_len _ _ _ _) q2
      obtain ⟨cd, hcd⟩ : ∃ c, c = upN X0 X0' n1 X2 := ⟨_, rfl⟩
      obtain ⟨kd, hkd⟩ : ∃ c, c = upK X0 X0' n1 X2 := ⟨_, rfl⟩
      simp only [← hcd, ← hkd] at SP IM
      clear hcd hkd
      obtain ⟨ys, hys⟩ : ∃ ys, ys = upD X0 X0' n1 X2 := ⟨_, rfl⟩
      simp only [← hys] at SP IM hy
      clear hys
      clear hL
      go_enter Tryz.func3, Tryz.ntmps3
      go_upto_region 1 with fail
      have B : RwC (w.alloc (.cells #[.slice a0 X0.length c0, .slice a0' X0'.length c0'] 24)) w.heap.size [.slice a0 X0.length c0, .slice a0' X0'.length c0'] 24 := RwC.new w _ _
      have N : Below w.heap.size w (w.alloc (.cells #[.slice a0 X0.length c0, .slice a0' X0'.length c0'] 24)) := (Below.refl _ _).alloc (Nat.le_refl _) _
      have zN : (w.alloc (.cells #[.slice a0 X0.length c0, .slice a0' X0'.length c0'] 24)).heap.size = w.heap.size + 1 := by simp
      generalize w.alloc (.cells #[.slice a0 X0.length c0, .slice a0' X0'.length c0'] 24) = w0 at *
      have lB : w.heap.size < w0.heap.size := by omega
      clear zN
      have Bc0 := B.c0
      have Bc1 := B.c1
      go_wp2_with fail
      refine ((SZ w0).out).mono ?_
      rintro e w1 ⟨rfl, m1⟩
      have zm1 := m1.size
      clear Bc0 Bc1
      replace B := B.up m1
      replace N := nxt N m1
      clear m1
      have Bc0 := B.c0
      have Bc1 := B.c1
      go_wp2_with fail
      refine (toKeys_any w1 g0 a0 c0 X0 g0' a0' c0' X0' (hX0.up N) (hX0'.up N) (by omega) (by omega)).mono ?_
      rintro e w2 ⟨m0, m0', rfl, mB0, mB0', ymB0, ymB0', m2⟩
      have zm2 := m2.size
      clear Bc0 Bc1
      replace B := B.up m2
      replace N := nxt N m2
      clear m2
      have lmB0 := mB0.lt
      have lmB0' := mB0'.lt
      go_wp2_with fail
      refine (toByteS_any w2 g2 a2 c2 X2 (hX2.up N) q2).mono ?_
      rintro e w3 ⟨rfl, mB2, m3⟩
      have zm3 := m3.size
      replace B := B.up m3
      replace mB0 := mB0.up m3
      replace mB0' := mB0'.up m3
      replace N := nxt N m3
      clear m3
      obtain ⟨m2, em2⟩ : ∃ b, b = w2.heap.size := ⟨_, rfl⟩
      rw [← em2] at mB2 ⊢
      have lmB2 := mB2.lt
      have ymB2 : w2.heap.size ≤ m2 := Nat.le_of_eq em2.symm
      clear em2
      go_wp2_with fail
      refine (SP w3 _ _ _ mB0.own0.rd (by simp) (Nat.le_refl _) _ _ _ mB0'.own0.rd (by simp) (Nat.le_refl _) _ _ _ mB2.own0.rd (by simp) (Nat.le_refl _)).mono ?_
      rintro e w4 ⟨⟨aoS, coS, goS, rfl, oS, poS, koS, roS⟩, m4⟩
      have zm4 := m4.size
      replace B := B.up m4
      replace mB0 := mB0.up m4
      replace mB0' := mB0'.up m4
      replace mB2 := mB2.up m4
      replace N := nxt N m4
      clear m4
      have loS := oS.rd.lt
      clear poS koS
      clear mB0 mB0' mB2
      have ToS : RwC (w4.alloc (.cells #[.int .i64 cd, .int .i64 kd, .slice aoS ys.length coS] 27)) w4.heap.size [.int .i64 cd, .int .i64 kd, .slice aoS ys.length coS] 27 := RwC.new w4 _ _
      have m5 : Below w4.heap.size w4 (w4.alloc (.cells #[.int .i64 cd, .int .i64 kd, .slice aoS ys.length coS] 27)) := (Below.refl _ _).alloc (Nat.le_refl _) _
      have zm5 := m5.size
      obtain ⟨pToS, eToS⟩ : ∃ b, b = w4.heap.size := ⟨_, rfl⟩
      have yToS : w4.heap.size ≤ pToS := Nat.le_of_eq eToS.symm
      replace B := B.up m5
      replace oS := oS.up m5
      replace N := nxt N m5
      clear m5
      have Bc0 := B.c0
      have Bc1 := B.c1
      go_wp2_with fail
      generalize w4.alloc (.cells #[.int .i64 cd, .int .i64 kd, .slice aoS ys.length coS] 27) = w5 at *
      rw [← eToS] at ToS ⊢
      have lToS := ToS.lt
      clear eToS
      refine (toKeys_any w5 g0 a0 c0 X0 g0' a0' c0' X0' (hX0.up N) (hX0'.up N) (by omega) (by omega)).mono ?_
      rintro e w6 ⟨x0, x0', rfl, xB0, xB0', yxB0, yxB0', m6⟩
      have zm6 := m6.size
      clear Bc0 Bc1
      replace B := B.up m6
      replace oS := oS.up m6
      replace ToS := ToS.up m6
      replace N := nxt N m6
      clear m6
      have lxB0 := xB0.lt
      have lxB0' := xB0'.lt
      have Tx : RwC (w6.alloc (.cells #[.slice (some ⟨x0, 0, none⟩) X0.length X0.length, .slice (some ⟨x0', 0, none⟩) X0'.length X0'.length] 29)) w6.heap.size [.slice (some ⟨x0, 0, none⟩) X0.length X0.length, .slice (some ⟨x0', 0, none⟩) X0'.length X0'.length] 29 := RwC.new w6 _ _
      have m7 : Below w6.heap.size w6 (w6.alloc (.cells #[.slice (some ⟨x0, 0, none⟩) X0.length X0.length, .slice (some ⟨x0', 0, none⟩) X0'.length X0'.length] 29)) := (Below.refl _ _).alloc (Nat.le_refl _) _
      have zm7 := m7.size
      obtain ⟨pTx, eTx⟩ : ∃ b, b = w6.heap.size := ⟨_, rfl⟩
      have yTx : w6.heap.size ≤ pTx := Nat.le_of_eq eTx.symm
      replace B := B.up m7
      replace oS := oS.up m7
      replace ToS := ToS.up m7
      replace xB0 := xB0.up m7
      replace xB0' := xB0'.up m7
      replace N := nxt N m7
      clear m7
      go_wp2_with fail
      generalize w6.alloc (.cells #[.slice (some ⟨x0, 0, none⟩) X0.length X0.length, .slice (some ⟨x0', 0, none⟩) X0'.length X0'.length] 29) = w7 at *
      rw [← eTx] at Tx ⊢
      have lTx := Tx.lt
      clear eTx
      refine (toByteS_any w7 g2 a2 c2 X2 (hX2.up N) q2).mono ?_
      rintro e w8 ⟨rfl, xB2, m8⟩
      have zm8 := m8.size
      replace B := B.up m8
      replace oS := oS.up m8
      replace ToS := ToS.up m8
      replace xB0 := xB0.up m8
      replace xB0' := xB0'.up m8
      replace Tx := Tx.up m8
      replace N := nxt N m8
      clear m8
      obtain ⟨x2, ex2⟩ : ∃ b, b = w7.heap.size := ⟨_, rfl⟩
      rw [← ex2] at xB2 ⊢
      have lxB2 := xB2.lt
      have yxB2 : w7.heap.size ≤ x2 := Nat.le_of_eq ex2.symm
      clear ex2
      have Txc0 := Tx.c0
      have Txc1 := Tx.c1
      go_wp2_with fail
      refine (IM w8 _ _ _ xB0.own0.rd (by simp) (Nat.le_refl _) _ _ _ xB0'.own0.rd (by simp) (Nat.le_refl _) _ _ _ xB2.own0.rd (by simp) (Nat.le_refl _) N).mono ?_
      rintro e w9 ⟨⟨aoI, coI, goI, rfl, oI, poI, koI, roI⟩, m9⟩
      have zm9 := m9.size
      clear Txc0 Txc1
      replace B := B.up m9
      replace oS := oS.up m9
      replace ToS := ToS.up m9
      replace xB0 := xB0.up m9
      replace xB0' := xB0'.up m9
      replace Tx := Tx.up m9
      replace xB2 := xB2.up m9
      replace N := nxt N m9
      clear m9
      have loI := oI.rd.lt
      clear poI koI
      obtain ⟨gN, oN, hN⟩ : ∃ g, Own w9 g aoI .u8 ys ∧ ((w8.heap.size ≤ g ∧ g < w9.heap.size) ∨ g = m0) := by
        by_cases h : 0 < ys.length
        · exact ⟨goI, oI, .inl ⟨roI, loI h⟩⟩
        · exact ⟨m0, fun q => absurd q h, .inr rfl⟩
      clear oI loI roI
      have oI := oN
      clear oN
      have loI : 0 < ys.length → True := fun _ => trivial
      have ToI : RwC (w9.alloc (.cells #[.int .i64 cd, .int .i64 kd, .slice aoI ys.length coI] 27)) w9.heap.size [.int .i64 cd, .int .i64 kd, .slice aoI ys.length coI] 27 := RwC.new w9 _ _
      have m10 : Below w9.heap.size w9 (w9.alloc (.cells #[.int .i64 cd, .int .i64 kd, .slice aoI ys.length coI] 27)) := (Below.refl _ _).alloc (Nat.le_refl _) _
      have zm10 := m10.size
      obtain ⟨pToI, eToI⟩ : ∃ b, b = w9.heap.size := ⟨_, rfl⟩
      have yToI : w9.heap.size ≤ pToI := Nat.le_of_eq eToI.symm
      replace B := B.up m10
      replace oS := oS.up m10
      replace ToS := ToS.up m10
      replace xB0 := xB0.up m10
      replace xB0' := xB0'.up m10
      replace Tx := Tx.up m10
      replace xB2 := xB2.up m10
      replace oI := oI.up m10
      replace N := nxt N m10
      clear m10
      have ToIc0 := ToI.c0
      have ToIc1 := ToI.c1
      have ToIc2 := ToI.c2
      have ToSc0 := ToS.c0
      have ToSc1 := ToS.c1
      have ToSc2 := ToS.c2
      go_wp2_with fail
      generalize w9.alloc (.cells #[.int .i64 cd, .int .i64 kd, .slice aoI ys.length coI] 27) = w10 at *
      rw [← eToI] at ToI ⊢
      have lToI := ToI.lt
      clear eToI
      refine (eqOpened_same w10 cd kd _ _ _ _ _ _ ys oI.rd oS.rd hy).mono ?_
      rintro e w11 ⟨rfl, m11⟩
      have zm11 := m11.size
      clear ToIc0 ToIc1 ToIc2
      clear ToSc0 ToSc1 ToSc2
      replace B := B.up m11
      replace oS := oS.up m11
      replace ToS := ToS.up m11
      replace xB0 := xB0.up m11
      replace xB0' := xB0'.up m11
      replace Tx := Tx.up m11
      replace xB2 := xB2.up m11
      replace oI := oI.up m11
      replace ToI := ToI.up m11
      replace N := nxt N m11
      clear m11
      go_upto_region 13 with fail
      have CY : Hid (∀ W, Below w11.heap.size w11 W → (W.cell? ⟨pTx, 0, none⟩ = some (.slice (some ⟨x0, 0, none⟩) X0.length X0.length) ∧ W.cell? ⟨pTx, 1, none⟩ = some (.slice (some ⟨x0', 0, none⟩) X0'.length X0'.length) ∧ W.cell? ⟨w.heap.size, 0, none⟩ = some (.slice a0 X0.length c0) ∧ W.cell? ⟨w.heap.size, 1, none⟩ = some (.slice a0' X0'.length c0'))) := fun W m => ⟨(Tx.up m).c0, (Tx.up m).c1, (B.up m).c0, (B.up m).c1⟩
      have TO : Hid (∀ W, Below w11.heap.size w11 W → Calls Tryz.prog 8 #[.agg #[.slice a0 X0.length c0, .slice a0' X0'.length c0']] W fun e w' => ∃ f0 f0', e = .returned (.agg #[.slice (some ⟨f0, 0, none⟩) X0.length X0.length, .slice (some ⟨f0', 0, none⟩) X0'.length X0'.length]) ∧ Blk w' f0 .u8 X0 ∧ Blk w' f0' .u8 X0' ∧ Below w11.heap.size w11 w') := fun W m => (toKeys_any W g0 a0 c0 X0 g0' a0' c0' X0' ((hX0.up N).up m) ((hX0'.up N).up m) (by omega) (by omega)).mono (by
        rintro e w' ⟨f0, f0', rfl, h0, h0', _, _, l⟩
        exact ⟨f0, f0', rfl, h0, h0', nxt m l⟩)
      have EQ : Hid (∀ W f0 f0', Below w11.heap.size w11 W → Blk W f0 .u8 X0 → Blk W f0' .u8 X0' → Calls Tryz.prog 12 #[.agg #[.slice (some ⟨x0, 0, none⟩) X0.length X0.length, .slice (some ⟨x0', 0, none⟩) X0'.length X0'.length], .agg #[.slice (some ⟨f0, 0, none⟩) X0.length X0.length, .slice (some ⟨f0', 0, none⟩) X0'.length X0'.length]] W fun e w' => e = .returned (.bool true) ∧ Below w11.heap.size w11 w') := fun W f0 f0' m h0 h0' => (eqKeys_same W _ _ _ _ _ _ X0 (xB0.up m).own0.rd h0.own0.rd (by omega) _ _ _ _ _ _ X0' (xB0'.up m).own0.rd h0'.own0.rd (by omega)).mono (by
        rintro e w' ⟨rfl, l⟩
        exact ⟨rfl, nxt m l⟩)
      have nd : Below w11.heap.size w11 w11.drew := (Below.refl _ _).drew
      go_region_held3 (fun W => W.cell? ⟨pTx, 0, none⟩ = some (.slice (some ⟨x0, 0, none⟩) X0.length X0.length) ∧ W.cell? ⟨pTx, 1, none⟩ = some (.slice (some ⟨x0', 0, none⟩) X0'.length X0'.length) ∧ W.cell? ⟨w.heap.size, 0, none⟩ = some (.slice a0 X0.length c0) ∧ W.cell? ⟨w.heap.size, 1, none⟩ = some (.slice a0' X0'.length c0'))
        (first | exact (unhide CY) _ m12 | exact (unhide CY) _ bt | exact (unhide CY) _ nd)
        (first
          | (go_at_call 12; refine ((unhide EQ) _ _ _ bt ft0 ft0').mono ?_; rintro r w12 ⟨rfl, m12⟩)
          | (go_at_call 8; refine ((unhide TO) _ nd).mono ?_; rintro r wt ⟨f0, f0', rfl, ft0, ft0', bt⟩)
          | fail)
      have zm12 := m12.size
      clear bt nd CY TO EQ ft0 ft0'
      replace B := B.up m12
      replace oS := oS.up m12
      replace ToS := ToS.up m12
      replace xB0 := xB0.up m12
      replace xB0' := xB0'.up m12
      replace Tx := Tx.up m12
      replace xB2 := xB2.up m12
      replace oI := oI.up m12
      replace ToI := ToI.up m12
      replace N := nxt N m12
      clear m12
      go_wp2_with fail
      refine (toByteS_any w12 g2 a2 c2 X2 (hX2.up N) q2).mono ?_
      rintro e w13 ⟨rfl, eB2, m13⟩
      have zm13 := m13.size
      replace B := B.up m13
      replace oS := oS.up m13
      replace ToS := ToS.up m13
      replace xB0 := xB0.up m13
      replace xB0' := xB0'.up m13
      replace Tx := Tx.up m13
      replace xB2 := xB2.up m13
      replace oI := oI.up m13
      replace ToI := ToI.up m13
      replace N := nxt N m13
      clear m13
      obtain ⟨e2, ee2⟩ : ∃ b, b = w12.heap.size := ⟨_, rfl⟩
      rw [← ee2] at eB2 ⊢
      have leB2 := eB2.lt
      have yeB2 : w12.heap.size ≤ e2 := Nat.le_of_eq ee2.symm
      clear ee2
      go_wp2_with fail
      refine (eqByteS_same w13 _ _ _ _ _ _ X2 xB2.own0.rd eB2.own0.rd q2).mono ?_
      rintro e w14 ⟨rfl, m14⟩
      have zm14 := m14.size
      replace B := B.up m14
      replace oS := oS.up m14
      replace ToS := ToS.up m14
      replace xB0 := xB0.up m14
      replace xB0' := xB0'.up m14
      replace Tx := Tx.up m14
      replace xB2 := xB2.up m14
      replace oI := oI.up m14
      replace ToI := ToI.up m14
      replace eB2 := eB2.up m14
      replace N := nxt N m14
      clear m14
      clear eB2
      have Txc0 := Tx.c0
      have Txc1 := Tx.c1
      go_wp2_with fail
      refine (markKeys_any w14 _ _ _ X0 _ _ _ X0' (1) xB0.own0 xB0'.own0 (by omega) (by omega) (by omega) (by omega) (by omega)).mono ?_
      rintro e w15 ⟨rfl, O⟩
      clear Txc0 Txc1
      clear xB0 xB0'
      clear Tx
      replace B := B.tch O (by simp; omega)
      replace oS := oS.tch O (fun h => by have := loS h; simp; omega)
      replace ToS := ToS.tch O (by simp; omega)
      replace xB2 := xB2.tch O (by simp; omega)
      replace oI := oI.tch O (fun h => by have := loI h; simp; omega)
      replace ToI := ToI.tch O (by simp; omega)
      have NN := N.size
      replace N := N.trans (O.below (B := w.heap.size) (by omega) (by simp; omega))
      have zm15 := O.size
      clear O NN
      go_wp2_with fail
      refine (markByteS_any w15 _ _ _ X2 (1 + (X0.length : Int) + (X0'.length : Int)) xB2.own0 q2 (by omega) (by omega)).mono ?_
      rintro e w16 ⟨rfl, _, O⟩
      have O := Tch.of_only O
      clear xB2
      replace B := B.tch O (by simp; omega)
      replace oS := oS.tch O (fun h => by have := loS h; simp; omega)
      replace ToS := ToS.tch O (by simp; omega)
      replace oI := oI.tch O (fun h => by have := loI h; simp; omega)
      replace ToI := ToI.tch O (by simp; omega)
      have NN := N.size
      replace N := N.trans (O.below (B := w.heap.size) (by omega) (by simp; omega))
      have zm16 := O.size
      clear O NN
      have v1 : decide (1 + (X0.length : Int) + (X0'.length : Int) + (X2.length : Int) < 0) = false := by simp; omega
      have ToIc0 := ToI.c0
      have ToIc1 := ToI.c1
      have ToIc2 := ToI.c2
      have ToSc0 := ToS.c0
      have ToSc1 := ToS.c1
      have ToSc2 := ToS.c2
      go_wp2_with fail
      refine (eqOpened_same w16 cd kd _ _ _ _ _ _ ys oI.rd oS.rd hy).mono ?_
      rintro e w17 ⟨rfl, m17⟩
      have zm17 := m17.size
      clear ToIc0 ToIc1 ToIc2
      clear ToSc0 ToSc1 ToSc2
      replace B := B.up m17
      replace oS := oS.up m17
      replace ToS := ToS.up m17
      replace oI := oI.up m17
      replace ToI := ToI.up m17
      replace N := nxt N m17
      clear m17
      have ToIc0 := ToI.c0
      have ToIc1 := ToI.c1
      have ToIc2 := ToI.c2
      go_wp2_with fail
      refine (markOpened_any w17 cd kd _ _ _ ys 1 oI hy (by decide) (by decide)).mono ?_
      rintro e w18 ⟨rfl, oA, O⟩
      clear ToIc0 ToIc1 ToIc2
      clear oI
      replace B := B.tch O (by simp; omega)
      replace oS := oS.tch O (fun h => by have := loS h; simp; omega)
      replace ToS := ToS.tch O (by simp; omega)
      replace ToI := ToI.tch O (by simp; omega)
      have NN := N.size
      replace N := N.trans (O.below (B := w.heap.size) (by omega) (by simp; omega))
      have zm18 := O.size
      clear O NN
      have loA := oA.rd.lt
      have v2 : decide ((1 : Int) + (ys.length : Int) < 0) = false := by simp; omega
      have ToIc0 := ToI.c0
      have ToIc1 := ToI.c1
      have ToIc2 := ToI.c2
      go_wp2_with fail
      refine (heldOpened_any w18 cd kd _ _ _ ys.length 1 oA.rd hy (by decide) (by decide)).mono ?_
      rintro e w19 ⟨rfl, m19⟩
      have zm19 := m19.size
      clear ToIc0 ToIc1 ToIc2
      replace B := B.up m19
      replace oS := oS.up m19
      replace ToS := ToS.up m19
      replace ToI := ToI.up m19
      replace oA := oA.up m19
      replace N := nxt N m19
      clear m19
      have Bc0 := B.c0
      have Bc1 := B.c1
      go_wp2_with fail
      refine (toKeys_any w19 g0 a0 c0 X0 g0' a0' c0' X0' (hX0.up N) (hX0'.up N) (by omega) (by omega)).mono ?_
      rintro e w20 ⟨d0, d0', rfl, dB0, dB0', ydB0, ydB0', m20⟩
      have zm20 := m20.size
      clear Bc0 Bc1
      replace B := B.up m20
      replace oS := oS.up m20
      replace ToS := ToS.up m20
      replace ToI := ToI.up m20
      replace oA := oA.up m20
      replace N := nxt N m20
      clear m20
      have ldB0 := dB0.lt
      have ldB0' := dB0'.lt
      go_wp2_with fail
      refine (toByteS_any w20 g2 a2 c2 X2 (hX2.up N) q2).mono ?_
      rintro e w21 ⟨rfl, dB2, m21⟩
      have zm21 := m21.size
      replace B := B.up m21
      replace oS := oS.up m21
      replace ToS := ToS.up m21
      replace ToI := ToI.up m21
      replace oA := oA.up m21
      replace dB0 := dB0.up m21
      replace dB0' := dB0'.up m21
      replace N := nxt N m21
      clear m21
      obtain ⟨d2, ed2⟩ : ∃ b, b = w20.heap.size := ⟨_, rfl⟩
      rw [← ed2] at dB2 ⊢
      have ldB2 := dB2.lt
      have ydB2 : w20.heap.size ≤ d2 := Nat.le_of_eq ed2.symm
      clear ed2
      go_wp2_with fail
      refine (IM w21 _ _ _ dB0.own0.rd (by simp) (Nat.le_refl _) _ _ _ dB0'.own0.rd (by simp) (Nat.le_refl _) _ _ _ dB2.own0.rd (by simp) (Nat.le_refl _) N).mono ?_
      rintro e w22 ⟨⟨aoJ, coJ, goJ, rfl, oJ, poJ, koJ, roJ⟩, m22⟩
      have zm22 := m22.size
      replace B := B.up m22
      replace oS := oS.up m22
      replace ToS := ToS.up m22
      replace ToI := ToI.up m22
      replace oA := oA.up m22
      replace dB0 := dB0.up m22
      replace dB0' := dB0'.up m22
      replace dB2 := dB2.up m22
      replace N := nxt N m22
      clear m22
      have loJ := oJ.rd.lt
      clear poJ koJ
      clear dB0 dB0' dB2
      have ToJ : RwC (w22.alloc (.cells #[.int .i64 cd, .int .i64 kd, .slice aoJ ys.length coJ] 27)) w22.heap.size [.int .i64 cd, .int .i64 kd, .slice aoJ ys.length coJ] 27 := RwC.new w22 _ _
      have m23 : Below w22.heap.size w22 (w22.alloc (.cells #[.int .i64 cd, .int .i64 kd, .slice aoJ ys.length coJ] 27)) := (Below.refl _ _).alloc (Nat.le_refl _) _
      have zm23 := m23.size
      obtain ⟨pToJ, eToJ⟩ : ∃ b, b = w22.heap.size := ⟨_, rfl⟩
      have yToJ : w22.heap.size ≤ pToJ := Nat.le_of_eq eToJ.symm
      replace B := B.up m23
      replace oS := oS.up m23
      replace ToS := ToS.up m23
      replace ToI := ToI.up m23
      replace oA := oA.up m23
      replace oJ := oJ.up m23
      replace N := nxt N m23
      clear m23
      have ToJc0 := ToJ.c0
      have ToJc1 := ToJ.c1
      have ToJc2 := ToJ.c2
      have ToSc0 := ToS.c0
      have ToSc1 := ToS.c1
      have ToSc2 := ToS.c2
      go_wp2_with fail
      generalize w22.alloc (.cells #[.int .i64 cd, .int .i64 kd, .slice aoJ ys.length coJ] 27) = w23 at *
      rw [← eToJ] at ToJ ⊢
      have lToJ := ToJ.lt
      clear eToJ
      refine (eqOpened_same w23 cd kd _ _ _ _ _ _ ys oJ.rd oS.rd hy).mono ?_
      rintro e w24 ⟨rfl, m24⟩
      have zm24 := m24.size
      clear ToJc0 ToJc1 ToJc2
      clear ToSc0 ToSc1 ToSc2
      replace B := B.up m24
      replace oS := oS.up m24
      replace ToS := ToS.up m24
      replace ToI := ToI.up m24
      replace oA := oA.up m24
      replace oJ := oJ.up m24
      replace ToJ := ToJ.up m24
      replace N := nxt N m24
      clear m24
      have ToIc0 := ToI.c0
      have ToIc1 := ToI.c1
      have ToIc2 := ToI.c2
      go_wp2_with fail
      refine (heldOpened_any w24 cd kd _ _ _ ys.length 1 oA.rd hy (by decide) (by decide)).mono ?_
      rintro e w25 ⟨rfl, m25⟩
      have zm25 := m25.size
      clear ToIc0 ToIc1 ToIc2
      replace B := B.up m25
      replace oS := oS.up m25
      replace ToS := ToS.up m25
      replace ToI := ToI.up m25
      replace oA := oA.up m25
      replace oJ := oJ.up m25
      replace ToJ := ToJ.up m25
      replace N := nxt N m25
      clear m25
      go_wp2
      go_ret
      exact ⟨rfl, N⟩
    · skip
      have SZ := fun W => hide (szKeys_any W a0 X0.length c0 a0' X0'.length c0' 1048576 lX0 lX0' (by decide) (by decide))
      simp only [if_pos (show ((1048576 : Int) < (X0.length : Int) + (X0'.length : Int)) by omega)] at SZ
      go_enter Tryz.func3, Tryz.ntmps3
      go_upto_region 1 with fail
      have B : RwC (w.alloc (.cells #[.slice a0 X0.length c0, .slice a0' X0'.length c0'] 24)) w.heap.size [.slice a0 X0.length c0, .slice a0' X0'.length c0'] 24 := RwC.new w _ _
      have N : Below w.heap.size w (w.alloc (.cells #[.slice a0 X0.length c0, .slice a0' X0'.length c0'] 24)) := (Below.refl _ _).alloc (Nat.le_refl _) _
      have zN : (w.alloc (.cells #[.slice a0 X0.length c0, .slice a0' X0'.length c0'] 24)).heap.size = w.heap.size + 1 := by simp
      generalize w.alloc (.cells #[.slice a0 X0.length c0, .slice a0' X0'.length c0'] 24) = w0 at *
      have lB : w.heap.size < w0.heap.size := by omega
      clear zN
      have Bc0 := B.c0
      have Bc1 := B.c1
      go_wp2_with fail
      refine ((SZ w0).out).mono ?_
      rintro e w1 ⟨rfl, m1⟩
      have zm1 := m1.size
      clear Bc0 Bc1
      replace B := B.up m1
      replace N := nxt N m1
      clear m1
      go_wp2
      go_ret
      exact ⟨rfl, N⟩
  · have u2 : decide ((1048576 : Int) < (X2.length : Int)) = true := by simp; omega
    go_enter Tryz.func3, Tryz.ntmps3
    go_upto_region 1 with fail
    have B : RwC (w.alloc (.cells #[.slice a0 X0.length c0, .slice a0' X0'.length c0'] 24)) w.heap.size [.slice a0 X0.length c0, .slice a0' X0'.length c0'] 24 := RwC.new w _ _
    have N : Below w.heap.size w (w.alloc (.cells #[.slice a0 X0.length c0, .slice a0' X0'.length c0'] 24)) := (Below.refl _ _).alloc (Nat.le_refl _) _
    have zN : (w.alloc (.cells #[.slice a0 X0.length c0, .slice a0' X0'.length c0'] 24)).heap.size = w.heap.size + 1 := by simp
    generalize w.alloc (.cells #[.slice a0 X0.length c0, .slice a0' X0'.length c0'] 24) = w0 at *
    have lB : w.heap.size < w0.heap.size := by omega
    clear zN
    go_wp2
    go_ret
    exact ⟨rfl, N⟩
end Go.Proofs.YtbdecibgejmelaaGreatDoor
