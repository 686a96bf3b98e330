import Derived.Test.YtjjoimlnpbelpaaGK27

/-
  The law FnExactWindowAsk, walked (written by gens/waw.py).
-/
namespace Go.Proofs.Ytjjoimlnpbelpaa
open Go Go.RowKit Go.Maps

set_option maxRecDepth 100000 in
set_option maxHeartbeats 16000000 in
theorem ask_core (w : World) (wd : Int) (g : Nat) (a : Option Addr) (c : Nat) (ms : List Mrk) (ps : List Plm) (hr : RdK w g a ms ps) (hms : ms.length ≤ 9223372036854775807) (hmz : ∀ i, i < ms.length → (ms.getD i mrk0).id.length < 9223372036854775808) (hb : ∀ i, i < ms.length → Byt (ms.getD i mrk0).id) (g1 : Nat) (a1 : Option Addr) (c1 : Nat) (X : List Int) (hX : Rd w g1 a1 .u8 X) (bX : Byt X) (lX : X.length < 9223372036854775808) (now : Int) :
    Calls Try.prog 3 #[.agg #[.int .i64 wd, .slice a ms.length c], .slice a1 X.length c1, .int .i64 now] w fun e w' => e = .returned (.bool true) ∧ Below w.heap.size w w' := by
  have n1 : Below w.heap.size w (w.alloc (.cells #[.int .i64 wd, .slice a ms.length c] 24)) := (Below.refl _ _).alloc (Nat.le_refl _) _
  have T1 := RwC.new w [.int .i64 wd, .slice a ms.length c] 24
  have SZ := hide (szWindow_r (w.alloc (.cells #[.int .i64 wd, .slice a ms.length c] 24)) wd g a c ms ps (hr.up n1) hms hmz 1048576 (by decide) (by decide))
  have HR := hide hr
  have HB := hide hb
  have HX := hide hX
  have BX := hide bX
  have N1 := hide n1
  clear hr hb hX bX n1 hms hmz
  go_enter Try.func3, Try.ntmps3
  go_upto_region 1 with fail
  generalize w.alloc (.cells #[.int .i64 wd, .slice a ms.length c] 24) = W1 at *
  by_cases hlx : 1048576 < X.length
  · have t1 : (1048576 : Int) < (X.length : Int) := by omega
    clear SZ T1 HR HB HX BX hlx
    go_wp2
    go_ret
    exact ⟨rfl, N1.out⟩
  have t1 : ¬ (1048576 : Int) < (X.length : Int) := by omega
  have p0 := T1.c0
  have p1 := T1.c1
  go_wp2_with fail
  refine SZ.out.mono ?_
  rintro e w2 ⟨⟨x, rfl, hx⟩, n2⟩
  have N2 := hide (nxt N1.out n2)
  have T2 := T1.up n2
  clear n2 T1 p0 p1 SZ N1
  by_cases hl : x < 0
  · have t2 : decide (x < 0) = true := decide_eq_true hl
    clear hl hx HR HB HX BX T2
    go_wp2
    go_ret
    exact ⟨rfl, N2.out⟩
  have t2 : decide (x < 0) = false := decide_eq_false hl
  have tot : ms.length + sumK ms ≤ 1048576 := by
    rcases hx with ⟨_, rfl⟩ | ⟨h1, _⟩
    · omega
    · omega
  have hn : ms.length ≤ 1048576 := by omega
  have hz : ∀ i, i < ms.length → (ms.getD i mrk0).id.length ≤ 1048576 := fun i hi => by have := sumK_get hi; omega
  have hxl : X.length ≤ 1048576 := by omega
  have OKW : OkW ⟨wd, ms⟩ := ⟨hn, hz⟩
  have TW := hide (fun W (n : Below w.heap.size w W) => toWindow_own W wd g a c ms ps (HR.out.up n) hn hz)
  have TB := hide (fun W (n : Below w.heap.size w W) => toByteS_any W g1 a1 c1 X (HX.out.up n) hxl)
  have SA := hide (fun W g' a' c' ps' (r : RdK W g' a' ms ps') g2 a2 c2 (r2 : Rd W g2 a2 .u8 X) => specAsk_any W wd g' a' c' ms ps' r HB.out g2 a2 c2 X r2 BX.out now)
  have IA := hide (fun W g' a' c' ps' (r : RdK W g' a' ms ps') g2 a2 c2 (r2 : Rd W g2 a2 .u8 X) => implAsk_any W wd g' a' c' ms ps' r HB.out g2 a2 c2 X r2 BX.out now)
  have ML := hide (askM_len wd ms X now)
  have MI := hide (askM_id wd ms X now)
  unfold AsP at SA
  unfold AwP at IA
  generalize askM wd ms X now = its at *
  generalize askC wd ms X now = cd at *
  generalize askW wd ms X now = we at *
  have PX : Hid (psI (ofM ms) 1 (ofM ms).length ≤ 1048577) := by
    have := psI_ofM ms 1 ms.length (Nat.le_refl _)
    rw [List.take_length] at this
    show _ ≤ _
    rw [ofM_len]
    omega
  have PA : Hid (psI its 1 its.length ≤ 10000) := by
    have := psI_all (n := 1) MI.out its.length (Nat.le_refl _)
    have := ML.out
    show _ ≤ _
    omega
  have ZN : Hid (∀ i, i < (ofM ms).length → ((ofM ms).getD i (0, [])).2.length ≤ 1048576) := fun i hi => by
    rw [ofM_len] at hi
    rw [ofM_get hi]
    exact hz i hi
  have MN : Hid ((toM its).length ≤ 1048576 ∧ ∀ i, i < (toM its).length → ((toM its).getD i mrk0).id.length ≤ 1048576) := ⟨by rw [toM_len]; have := ML.out; omega, fun i hi => by
    rw [toM_len] at hi
    rw [toM_get hi]
    have := MI.out i hi
    simp only
    omega⟩
  clear hl hx tot hlx
  -- w0
  have p0 := T2.c0
  have p1 := T2.c1
  go_wp2_with fail
  refine (TW.out w2 N2.out).mono ?_
  rintro e w3 ⟨pa, qa, rfl, RA, n3⟩
  have N3 := hide (nxt N2.out n3)
  have T3 := T2.up n3
  clear n3 T2 p0 p1 N2
  go_wp2_with fail
  refine (TB.out w3 N3.out).mono ?_
  rintro e w4 ⟨rfl, B4, n4⟩
  obtain ⟨gA, rA⟩ := (RA.of (w' := w4) (fun k hk _ => n4.block k hk)).rdM
  have N4 := hide (nxt N3.out n4)
  have T4 := T3.up n4
  have SP := hide (SA.out w4 gA (some ⟨pa, 0, none⟩) ms.length _ rA w3.heap.size (some ⟨w3.heap.size, 0, none⟩) X.length B4.own0.rd)
  clear n4 T3 N3 RA rA B4 SA
  go_wp2_with fail
  refine SP.out.mono ?_
  rintro e w5 ⟨⟨v0, C0, B0, bs0, rfl, K0⟩, n5⟩
  obtain ⟨gz, az, cz, rfl, RZ⟩ := K0.rdA
  have N5 := hide (nxt N4.out n5)
  have T5 := T4.up n5
  have n6 : Below w5.heap.size w5 (w5.alloc (.cells #[.int .i64 cd, .int .i64 we, .slice az its.length cz] 31)) := (Below.refl _ _).alloc (Nat.le_refl _) _
  have Z6 := RwC.new w5 [.int .i64 cd, .int .i64 we, .slice az its.length cz] 31
  have RZ6 := hide (RZ.up n6)
  have T6 := T5.up n6
  have N6 := hide (nxt N5.out n6)
  clear n5 n6 T4 T5 N4 N5 K0 RZ SP
  go_upto_region 8 with fail
  generalize w5.alloc (.cells #[.int .i64 cd, .int .i64 we, .slice az its.length cz] 31) = w6 at *
  generalize w5.heap.size = s8 at *
  -- x0
  have sw6 : w.heap.size < w6.heap.size := T6.lt
  have p0 := T6.c0
  have p1 := T6.c1
  go_wp2_with fail
  refine (TW.out w6 N6.out).mono ?_
  rintro e w7 ⟨px, qx, rfl, RX, n7⟩
  have m8 : Below w7.heap.size w7 (w7.alloc (.cells #[.int .i64 wd, .slice (some ⟨px, 0, none⟩) ms.length ms.length] 29)) := (Below.refl _ _).alloc (Nat.le_refl _) _
  have n8 := nxt n7 m8
  have X8 := RwC.new w7 [.int .i64 wd, .slice (some ⟨px, 0, none⟩) ms.length ms.length] 29
  have RW := hide (RX.rows)
  have RX8 := hide (RX.of (w' := w7.alloc (.cells #[.int .i64 wd, .slice (some ⟨px, 0, none⟩) ms.length ms.length] 29)) (fun k hk _ => m8.block k hk))
  have N8 := hide (nxt N6.out n8)
  have A8 := hide n8
  have T8 := T6.up n8
  have s68 := n7.size
  clear n7 m8 n8 RX p0 p1 T6
  go_upto_region 9 with fail
  generalize hw8 : w7.alloc (.cells #[.int .i64 wd, .slice (some ⟨px, 0, none⟩) ms.length ms.length] 29) = w8 at *
  have z8 : Hid (w8.heap.size = w7.heap.size + 1) := by show _ = _; rw [← hw8]; simp
  clear hw8
  generalize w7.heap.size = s9 at *
  -- x1
  go_wp2_with fail
  refine (TB.out w8 N8.out).mono ?_
  rintro e w9 ⟨rfl, B9, n9⟩
  obtain ⟨gX, rX⟩ := (RX8.out.of (w' := w9) (fun k hk _ => n9.block k hk)).rdM
  have RX9 := hide (RX8.out.of (w' := w9) (fun k hk _ => n9.block k hk))
  have X9 := X8.up n9
  have T9 := T8.up n9
  have A9 := hide (nxt A8.out n9)
  have N9 := hide (nxt N8.out n9)
  have O9 := hide B9
  have s89 := n9.size
  have lx1 := B9.lt
  have IM := hide (IA.out w9 gX (some ⟨px, 0, none⟩) ms.length _ rX w8.heap.size (some ⟨w8.heap.size, 0, none⟩) X.length B9.own0.rd)
  clear n9 rX RX8 X8 T8 A8 N8 B9
  generalize w8.heap.size = s10 at *
  have p0 := X9.c0
  have p1 := X9.c1
  go_wp2_with fail
  refine IM.out.mono ?_
  rintro e w10 ⟨⟨vg, bg, rfl, RG⟩, n10⟩
  obtain ⟨ag, cg, rfl, -⟩ := RG.slice
  have RWg := hide RG.rows
  have GS := hide RG.shape
  have m11 : Below w10.heap.size w10 (w10.alloc (.cells #[.int .i64 cd, .int .i64 we, .slice ag its.length cg] 31)) := (Below.refl _ _).alloc (Nat.le_refl _) _
  have n11 := nxt n10 m11
  have G11 := RwC.new w10 [.int .i64 cd, .int .i64 we, .slice ag its.length cg] 31
  have RG11 := hide (RG.of (w' := w10.alloc (.cells #[.int .i64 cd, .int .i64 we, .slice ag its.length cg] 31)) (fun k hk _ => m11.block k hk))
  have RX11 := hide (RX9.out.of (w' := w10.alloc (.cells #[.int .i64 cd, .int .i64 we, .slice ag its.length cg] 31)) (fun k hk _ => n11.block k hk))
  have X11 := X9.up n11
  have T11 := T9.up n11
  have A11 := hide (nxt A9.out n11)
  have N11 := hide (nxt N9.out n11)
  have O11 := hide (O9.out.up n11)
  have s911 := n10.size
  clear n10 m11 n11 RG RX9 X9 T9 A9 N9 O9 p0 p1 IM
  go_upto_region 11 with fail
  generalize hw11 : w10.alloc (.cells #[.int .i64 cd, .int .i64 we, .slice ag its.length cg] 31) = w11 at *
  have z11 : Hid (w11.heap.size = w10.heap.size + 1) := by show _ = _; rw [← hw11]; simp
  clear hw11
  generalize w10.heap.size = s11 at *
  generalize w9.heap.size = Bg at *
  -- g0 as w0
  have EA := hide (fun W g' a' c' ps' g2 a2 c2 ps2 (r : RdK W g' a' (toM its) ps') (r2 : RdK W g2 a2 (toM its) ps2) => eqWindowAnswer_same W cd we g' g2 a' a2 c' c2 (toM its) ps' ps2 r r2 MN.out.1 MN.out.2)
  rw [toM_len] at EA
  have GK := fun (W : World) (R : IRow W Bg (.slice ag its.length cg) its bg) => R.kRow.rdA
  have Z11 := Z6.up A11.out
  obtain ⟨gg, ag', cg', eg, rg⟩ := GK _ RG11.out
  simp only [Value.slice.injEq, true_and] at eg
  obtain ⟨rfl, rfl⟩ := eg
  have E1 := hide (EA.out w11 _ _ cg _ _ _ cz _ rg (RZ6.out.up A11.out))
  have p0 := G11.c0
  have p1 := G11.c1
  have p2 := G11.c2
  have q0 := Z11.c0
  have q1 := Z11.c1
  have q2 := Z11.c2
  clear rg
  go_wp2_with fail
  refine E1.out.mono ?_
  rintro e w12 ⟨rfl, n12⟩
  have RG12 := hide (RG11.out.of (w' := w12) (fun k hk _ => n12.block k hk))
  have RX12 := hide (RX11.out.of (w' := w12) (fun k hk _ => n12.block k hk))
  have X12 := X11.up n12
  have T12 := T11.up n12
  have G12 := G11.up n12
  have A12 := hide (nxt A11.out n12)
  have N12 := hide (nxt N11.out n12)
  have O12 := hide (O11.out.up n12)
  have s1112 := n12.size
  clear n12 RG11 RX11 X11 T11 G11 A11 N11 O11 p0 p1 p2 q0 q1 q2 Z11 E1
  go_upto_region 13 with fail
  obtain ⟨gX, rX⟩ := RX12.out.rdM
  refine region_end 5 (fun i => [Fact.eq (.agg (winV ⟨some ⟨px, 0, none⟩, ms.length, gX, toP qx⟩ ⟨wd, ms⟩)), Fact.eq (.agg (winV ⟨a, c, g, ps⟩ ⟨wd, ms⟩)), FWn ⟨wd, ms⟩, Fact.eq (.bool true), Fact.eq (.bool (!true))].getD i Fact.no) (by kernel_rfl) (by kernel_rfl) rfl ?_ ?_
  · intro i hi
    obtain rfl | rfl | rfl | rfl | rfl : i = 0 ∨ i = 1 ∨ i = 2 ∨ i = 3 ∨ i = 4 := by omega
    · exact step_lW _ rowWd iWd rfl 9 rfl (by kernel_rfl) s9 rfl (q := ⟨some ⟨px, 0, none⟩, ms.length, gX, toP qx⟩) (m := ⟨wd, ms⟩) X12.rangeG rfl
    · exact step_lW _ rowLWd iLWd rfl 3 rfl (by kernel_rfl) w.heap.size rfl (q := ⟨a, c, g, ps⟩) (m := ⟨wd, ms⟩) T12.rangeG rfl
    · exact step_toW rfl 43 1 rfl (by kernel_rfl) ⟨HR.out.up N12.out⟩ OKW rfl rfl
    · exact step_eqW rfl 42 44 0 2 rfl (by kernel_rfl) (by kernel_rfl) ⟨rX⟩ OKW rfl rfl rfl
    · exact step_notW rfl 45 3 rfl (by kernel_rfl) rfl rfl
  intro A w13 hb n13 hF
  have e2 := hF 4 46 (by kernel_rfl)
  obtain ⟨vs, hvs⟩ : ∃ vs : Nat → Value, ∀ d, A.tmps.getD d undef = vs d := ⟨_, fun _ => rfl⟩
  rw [hvs] at e2
  rw [puts_of (md := .any) (k := 5) (by kernel_rfl) rfl hb vs hvs]
  clear hb hF hvs
  have e3 : vs 46 = .bool false := e2
  clear e2
  simp only [puts, e3, Act.put, List.setIfInBounds_toArray, List.set_cons_succ, List.set_cons_zero]
  clear e3 rX
  have RG13 := hide (RG12.out.of (w' := w13) (fun k hk _ => n13.block k hk))
  have RX13 := hide (RX12.out.of (w' := w13) (fun k hk _ => n13.block k hk))
  have X13 := X12.up n13
  have T13 := T12.up n13
  have G13 := G12.up n13
  have A13 := hide (nxt A12.out n13)
  have N13 := hide (nxt N12.out n13)
  have O13 := hide (O12.out.up n13)
  clear n13 RG12 RX12 X12 T12 G12 A12 N12 O12
  clear OKW
  go_wp2_with fail
  refine (TB.out w13 N13.out).mono ?_
  rintro e w14 ⟨rfl, B14, n14⟩
  have RG14 := hide (RG13.out.of (w' := w14) (fun k hk _ => n14.block k hk))
  have RX14 := hide (RX13.out.of (w' := w14) (fun k hk _ => n14.block k hk))
  have X14 := X13.up n14
  have T14 := T13.up n14
  have G14 := G13.up n14
  have A14 := hide (nxt A13.out n14)
  have N14 := hide (nxt N13.out n14)
  have O14 := hide (O13.out.up n14)
  clear n14 RG13 RX13 X13 T13 G13 A13 N13 O13
  have EB := hide (eqByteS_same w14 s10 w13.heap.size (some ⟨s10, 0, none⟩) (some ⟨w13.heap.size, 0, none⟩) X.length X.length X O14.out.own0.rd B14.own0.rd hxl)
  clear B14
  go_wp2_with fail
  refine EB.out.mono ?_
  rintro e w15 ⟨rfl, n15⟩
  have RG15 := hide (RG14.out.of (w' := w15) (fun k hk _ => n15.block k hk))
  have RX15 := hide (RX14.out.of (w' := w15) (fun k hk _ => n15.block k hk))
  have X15 := X14.up n15
  have T15 := T14.up n15
  have G15 := G14.up n15
  have A15 := hide (nxt A14.out n15)
  have N15 := hide (nxt N14.out n15)
  have O15 := hide (O14.out.up n15)
  clear n15 RG14 RX14 X14 T14 G14 A14 N14 O14
  clear EB
  -- x0 is marked
  have MW := markWindow_own w15 wd (some ⟨px, 0, none⟩) ms.length (ofM ms) qx 1 w6.heap.size (by rw [ofM_len]; exact RX15.out) (by rw [ofM_len]; exact hn) ZN.out (by decide) (by have := PX.out; omega)
  rw [ofM_len] at MW
  have PX' := PX.out
  rw [ofM_len] at PX'
  have PL := (psI_bd (its := ofM ms) (n := 1) (by decide) ms.length (by rw [ofM_len]; exact Nat.le_refl _)).1
  have MWh := hide MW
  rw [ofM_len] at PX
  clear MW PX
  generalize psI (ofM ms) 1 ms.length = kx at *
  have p0 := X15.c0
  have p1 := X15.c1
  go_wp2_with fail
  refine MWh.out.mono ?_
  rintro e w16 ⟨rfl, -, tw⟩
  have RWx := RW.out
  have z8' := z8.out
  have A16 := hide (A15.out.trans (tw.below (fun p h => (RWx p h).1) A15.out.size))
  have N16 := hide (N15.out.trans (tw.below (B := w.heap.size) (fun p h => by have := (RWx p h).1; omega) N15.out.size))
  have RG16 := hide (RG15.out.of (w' := w16) (fun k hk hB => tw.block k hk (fun h => by have := (RWx k h).2; omega)))
  have G16 : RwC w16 s11 [.int .i64 cd, .int .i64 we, .slice ag its.length cg] 31 := (tw.block s11 G15.lt (fun h => by have := (RWx _ h).2; omega)).trans G15
  have T16 : RwC w16 w.heap.size [.int .i64 wd, .slice a ms.length c] 24 := (tw.block _ T15.lt (fun h => by have := (RWx _ h).1; omega)).trans T15
  have O16 := O15.out.of_block (tw.block s10 O15.out.lt (fun h => by have := (RWx _ h).2; omega))
  clear tw MWh RX15 RG15 X15 T15 G15 A15 N15 O15 p0 p1 RWx
  -- x1 is marked
  have MB := hide (markByteS_any w16 s10 (some ⟨s10, 0, none⟩) X.length X kx O16.own0 hxl PL (by omega))
  clear O16
  have lx10 : w6.heap.size ≤ s10 := by omega
  clear z8'
  go_wp2_with fail
  refine MB.out.mono ?_
  rintro e w17 ⟨rfl, -, oo⟩
  have A17 := hide (A16.out.trans (oo.below (B := w6.heap.size) lx10))
  have N17 := hide (N16.out.trans (oo.below (B := w.heap.size) (by omega)))
  have RG17 := hide (RG16.out.of (w' := w17) (fun k hk hB => oo.block k (by omega)))
  have G17 := G16.onl oo (by omega)
  have T17 := T16.onl oo (by omega)
  clear oo MB RG16 G16 T16 A16 N16
  have t3 : decide (kx + (X.length : Int) < 0) = false := decide_eq_false (by omega)
  obtain ⟨gg, ag', cg', eg, rg⟩ := GK _ RG17.out
  simp only [Value.slice.injEq, true_and] at eg
  obtain ⟨rfl, rfl⟩ := eg
  have E2 := hide (EA.out w17 _ _ cg _ _ _ cz _ rg (RZ6.out.up A17.out))
  have Z17 := Z6.up A17.out
  have p0 := G17.c0
  have p1 := G17.c1
  have p2 := G17.c2
  have q0 := Z17.c0
  have q1 := Z17.c1
  have q2 := Z17.c2
  clear rg Z17
  go_wp2_with fail
  refine E2.out.mono ?_
  rintro e w18 ⟨rfl, n18⟩
  have RG18 := hide (RG17.out.of (w' := w18) (fun k hk _ => n18.block k hk))
  have T18 := T17.up n18
  have G18 := G17.up n18
  have A18 := hide (nxt A17.out n18)
  have N18 := hide (nxt N17.out n18)
  clear n18 RG17 T17 G17 A17 N17 E2 p0 p1 p2 q0 q1 q2 t3 PL PX'
  -- g0 is marked
  have ml := ML.out
  have I32 : ∀ i, i < its.length → (its.getD i (0, [])).2.length ≤ 1048576 := fun i hi => by have := MI.out i hi; omega
  have MG := hide (markWindowAnswer_own w18 cd we ag cg its bg 1 Bg RG18.out (by omega) I32 (by decide) (by have := PA.out; omega))
  have PL := (psI_bd (its := its) (n := 1) (by decide) its.length (Nat.le_refl _)).1
  have HG := hide (fun W (h : Mkd W (.slice ag its.length cg) its bg 1) => heldWindowAnswer_own W cd we ag cg its bg 1 (by
    intro h0
    obtain ⟨a', c', e', h'⟩ := GS.out
    simp only [Value.slice.injEq, true_and] at e'
    rw [e'.1]
    exact h' h0) h (by omega) I32 (by decide) (by have := PA.out; omega))
  clear I32 PA
  generalize psI its 1 its.length = R at *
  have p0 := G18.c0
  have p1 := G18.c1
  have p2 := G18.c2
  go_wp2_with fail
  refine MG.out.mono ?_
  rintro e w19 ⟨rfl, mk, tw⟩
  have RWy := RWg.out
  have hBg : w6.heap.size ≤ Bg := by omega
  have A19 := hide (A18.out.trans (tw.below (B := w6.heap.size) (fun p h => by have := (RWy p h).1; omega) A18.out.size))
  have N19 := hide (N18.out.trans (tw.below (B := w.heap.size) (fun p h => by have := (RWy p h).1; omega) N18.out.size))
  have G19 : RwC w19 s11 [.int .i64 cd, .int .i64 we, .slice ag its.length cg] 31 := (tw.block s11 G18.lt (fun h => by have := (RWy _ h).2; omega)).trans G18
  have T19 : RwC w19 w.heap.size [.int .i64 wd, .slice a ms.length c] 24 := (tw.block _ T18.lt (fun h => by have := (RWy _ h).1; omega)).trans T18
  have M19 := hide mk
  clear tw mk RWy MG RG18 T18 G18 A18 N18 p0 p1 p2
  have p0 := G19.c0
  have p1 := G19.c1
  have p2 := G19.c2
  have tR : decide (R < 0) = false := decide_eq_false (by omega)
  have tR2 : (R != R) = false := by simp
  go_wp2_with fail
  refine (HG.out w19 M19.out).mono ?_
  rintro e w20 ⟨rfl, n20⟩
  have M20 := hide (M19.out.up n20)
  have T20 := T19.up n20
  have G20 := G19.up n20
  have A20 := hide (nxt A19.out n20)
  have N20 := hide (nxt N19.out n20)
  clear n20 M19 T19 G19 A19 N19 p0 p1 p2
  -- h0
  have p0 := T20.c0
  have p1 := T20.c1
  go_wp2_with fail
  refine (TW.out w20 N20.out).mono ?_
  rintro e w21 ⟨ph, qh, rfl, RH, n21⟩
  have M21 := hide (M20.out.up n21)
  have G21 := G20.up n21
  have A21 := hide (nxt A20.out n21)
  have N21 := hide (nxt N20.out n21)
  clear n21 M20 T20 G20 A20 N20 p0 p1
  go_wp2_with fail
  refine (TB.out w21 N21.out).mono ?_
  rintro e w22 ⟨rfl, B22, n22⟩
  obtain ⟨gh, rh⟩ := (RH.of (w' := w22) (fun k hk _ => n22.block k hk)).rdM
  have M22 := hide (M21.out.up n22)
  have G22 := G21.up n22
  have A22 := hide (nxt A21.out n22)
  have N22 := hide (nxt N21.out n22)
  have IH := hide (IA.out w22 gh (some ⟨ph, 0, none⟩) ms.length _ rh w21.heap.size (some ⟨w21.heap.size, 0, none⟩) X.length B22.own0.rd)
  clear n22 M21 G21 A21 N21 RH rh B22
  go_wp2_with fail
  refine IH.out.mono ?_
  rintro e w23 ⟨⟨vh, bh, rfl, RH⟩, n23⟩
  obtain ⟨g9, ah, ch, rfl, rh⟩ := RH.kRow.rdA
  have m24 : Below w23.heap.size w23 (w23.alloc (.cells #[.int .i64 cd, .int .i64 we, .slice ah its.length ch] 31)) := (Below.refl _ _).alloc (Nat.le_refl _) _
  have n24 := nxt n23 m24
  have H24 := RwC.new w23 [.int .i64 cd, .int .i64 we, .slice ah its.length ch] 31
  have rh24 := rh.up m24
  have M24 := hide (M22.out.up n24)
  have G24 := G22.up n24
  have A24 := hide (nxt A22.out n24)
  have N24 := hide (nxt N22.out n24)
  clear n23 m24 n24 M22 G22 A22 N22 RH rh IH
  go_upto_region 31 with fail
  generalize w23.alloc (.cells #[.int .i64 cd, .int .i64 we, .slice ah its.length ch] 31) = w24 at *
  generalize w23.heap.size = s15 at *
  have E3 := hide (EA.out w24 _ _ ch _ _ _ cz _ rh24 (RZ6.out.up A24.out))
  have Z24 := Z6.up A24.out
  have p0 := H24.c0
  have p1 := H24.c1
  have p2 := H24.c2
  have q0 := Z24.c0
  have q1 := Z24.c1
  have q2 := Z24.c2
  clear rh24 Z24
  go_wp2_with fail
  refine E3.out.mono ?_
  rintro e w25 ⟨rfl, n25⟩
  have M25 := hide (M24.out.up n25)
  have G25 := G24.up n25
  have N25 := hide (nxt N24.out n25)
  clear n25 M24 G24 A24 N24 E3 p0 p1 p2 q0 q1 q2 H24
  have p0 := G25.c0
  have p1 := G25.c1
  have p2 := G25.c2
  go_wp2_with fail
  refine (HG.out w25 M25.out).mono ?_
  rintro e w26 ⟨rfl, n26⟩
  have N26 := hide (nxt N25.out n26)
  clear n26 M25 G25 N25 p0 p1 p2 HG
  go_wp2
  go_ret
  exact ⟨rfl, N26.out⟩
end Go.Proofs.Ytjjoimlnpbelpaa
