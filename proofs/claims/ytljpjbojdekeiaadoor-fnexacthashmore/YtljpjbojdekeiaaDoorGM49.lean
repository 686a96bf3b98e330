import Derived.Test.YtljpjbojdekeiaaDoorLtA
import Derived.Test.YtljpjbojdekeiaaDoorHelp
import Derived.Test.YtljpjbojdekeiaaDoorRows
import Derived.Test.YtljpjbojdekeiaaDoorHsT
import Derived.Lib.LaidTab
import Derived.Lib.LaidU8
import Derived.LaidMore
import Derived.Test.YtljpjbojdekeiaaDoorLsM

/-
  The program's HashMore at any state.
-/
namespace Go.Proofs.YtljpjbojdekeiaaDoor
set_option maxRecDepth 100000
open Go Go.RowKit

set_option maxRecDepth 20000 in
set_option maxHeartbeats 8000000 in
theorem implMore_4 (w : World) (L : Nat) (gw : Nat) (aw : Option Addr) (cw : Nat) (W : List Int) (hW : Rd w gw aw .u8 W) (bW : Byt W) (gr : Nat) (ar : Option Addr) (cr : Nat) (R : List Int) (hR : Rd w gr ar .u8 R) (bR : Byt R) (kR : ar = none → cr = 0)
    (hl : W.length = 32) (hr : R.length = L % 64) (g : Nat) (a : Option Addr) (c : Nat) (xs : List Int) (hd : Rd w g a .u8 xs) (hx : Byt xs) (hc : xs.length ≤ c) (hn : L + xs.length ≤ 1099511627776) (hT : HasT w 1 kL) (C : S8) (hCw : ∀ j, j < 8 → C.l.getD j 0 = wd 4 W j) (hC : Ok32 C) :
    Calls Tryd.prog 17 #[.agg #[.int .i64 (L : Int), .slice aw W.length cw, .slice ar R.length cr], .slice a xs.length c] w fun e w' => (∃ v, e = .returned v ∧ ST4 w' v w.heap.size ((L + xs.length : Nat) : Int) (tell32 (whole32 C (R ++ xs))) (left32 (R ++ xs))) ∧ Below w.heap.size w w' := by
  obtain ⟨tw, htw⟩ : ∃ l, l = tell32 (whole32 C (R ++ xs)) := ⟨_, rfl⟩
  obtain ⟨tr, htr⟩ : ∃ l, l = left32 (R ++ xs) := ⟨_, rfl⟩
  obtain ⟨LN, hLN⟩ : ∃ n : Int, n = ((L + xs.length : Nat) : Int) := ⟨_, rfl⟩
  rw [← htw, ← htr, ← hLN]
  have HTW := hide htw
  have HTR := hide htr
  have HLN := hide hLN
  clear htw htr hLN
  obtain ⟨d3, hd3, hrow3⟩ := rowSt
  obtain ⟨d, hd', hrow⟩ := rowH_32
  have gl : 1 < w.heap.size := block_lt_of_cell (hT 0 (by decide))
  have gx : 0 < xs.length → g < w.heap.size := fun h => hd.lt h
  have RH := hide (fun V (hw : Below w.heap.size w V) => readHash_32 V (L : Int) gw aw cw W (hW.up hw) bW gr ar cr R (hR.up hw) kR (by omega) (by omega) hl (by omega))
  have l8 : (R ++ List.replicate (128 - R.length) 0).length = 128 := by rw [List.length_append, List.length_replicate]; omega
  have b8 : Byt (R ++ List.replicate (128 - R.length) 0) := byt_apd bR (byt_rep0 _)
  have tk : (R ++ List.replicate (128 - R.length) 0).take (L % 64) = R := by rw [← hr]; exact List.take_left
  have T0 := C3.new w (.int .i64 (L : Int)) (.slice aw W.length cw) (.slice ar R.length cr) 26
  have m0 : Below w.heap.size w (w.alloc (.cells #[.int .i64 (L : Int), .slice aw W.length cw, .slice ar R.length cr] 26)) := (Below.refl _ _).alloc (Nat.le_refl _) _
  have z0 : (w.alloc (.cells #[.int .i64 (L : Int), .slice aw W.length cw, .slice ar R.length cr] 26)).heap.size = w.heap.size + 1 := by simp
  have L8 := hide l8
  have TKk := hide tk
  clear hl hr l8 tk
  go_enter Tryd.func17, Tryd.ntmps17
  go_upto_region 1 with fail
  generalize w.alloc (.cells #[.int .i64 (L : Int), .slice aw W.length cw, .slice ar R.length cr] 26) = wa at *
  have m1 : Below wa.heap.size wa (wa.alloc (.cells #[.int .i64 0, .slice none 0 0, .slice none 0 0] 26)) := (Below.refl _ _).alloc (Nat.le_refl _) _
  have TH : (wa.alloc (.cells #[.int .i64 0, .slice none 0 0, .slice none 0 0] 26)).there wa.heap.size 0 3 := there3 (x := .int .i64 0) (y := .slice none 0 0) (z := .slice none 0 0) (t := 26) (by show (wa.heap.push _)[wa.heap.size]? = _; simp)
  have z1 : (wa.alloc (.cells #[.int .i64 0, .slice none 0 0, .slice none 0 0] 26)).heap.size = wa.heap.size + 1 := by simp
  generalize wa.alloc (.cells #[.int .i64 0, .slice none 0 0, .slice none 0 0] 26) = wb at *
  have N := nxt m0 m1
  replace T0 := T0.up m1
  rw [z0] at TH z1
  have Z1 := hide z1
  clear m0 m1 z0 z1
  have q0 := T0.c0
  have q1 := T0.c1
  have q2 := T0.c2
  go_wp2_with fail
  refine (RH.out wb N).mono ?_
  rintro e w1 ⟨n1, C', rfl, hC'⟩
  obtain rfl : C' = C := S8.ext_l (eq_of_getD rfl (fun i hi => (hC' i hi).trans (hCw i hi).symm))
  have y1 := n1.size
  have HZ := HB.zero32 w1
  have TH1 := HZ.there
  have na : Below w1.heap.size w1 (w1.alloc zH32) := (Below.refl _ _).alloc (Nat.le_refl _) _
  have L1 := hide (hcl_len .u32 (L : Int) C' L8.out)
  have O1 := hcl_one .u32 (L : Int) C' (R ++ List.replicate (128 - R.length) 0)
  have HO : Hid (∀ V q, V.rangeAt q 0 (hcl .u32 (L : Int) C' (R ++ List.replicate (128 - R.length) 0)) → V.there q 0 137 → HB .u32 V q (L : Int) C' (R ++ List.replicate (128 - R.length) 0)) := fun V q h1 h2 => HB.of_range L8.out h1 h2
  generalize hcl .u32 (L : Int) C' (R ++ List.replicate (128 - R.length) 0) = vs at *
  have sm := World.rangeAt_setCells_same (w1.alloc zH32) w1.heap.size 0 vs (by rw [L1.out]; exact TH1)
  have th2 := World.there_setCells TH1 w1.heap.size 0 vs
  have O2 := only_setCells (w1.alloc zH32) w1.heap.size vs 0
  have H2 := HO.out _ _ sm th2
  have n2 : Below wb.heap.size wb ((w1.alloc zH32).setCells w1.heap.size 0 vs) := (nxt n1 na).trans (O2.below (by omega))
  have lq := hide (show w.heap.size + 1 < w1.heap.size by have := Z1.out; omega)
  clear q0 q1 q2 hC' RH HO sm O2 HZ
  go_upto_region 2 with (refine wpList_store_mid rfl 63 (.tmp 5) (.tmp 10) rfl w1.heap.size 0 vs.toArray rfl rfl ?hth ?hin ?hon ?_)
  case hth => exact (show (w1.alloc zH32).there w1.heap.size 0 vs.length by rw [L1.out]; exact TH1)
  case hin => show _ = some vs.length; rw [L1.out]; exact infoH_32
  case hon => exact O1
  change Code.wp _ _ _ _ ((w1.alloc zH32).setCells w1.heap.size 0 vs)
  generalize (w1.alloc zH32).setCells w1.heap.size 0 vs = w2 at *
  have N2 := nxt N n2
  replace T0 := T0.up n2
  have TH2 := there_upn (by omega) TH n2
  have q0 := T0.c0
  have hn1 : (xs.length : Int) ≤ 1099511627776 := by omega
  have tg : decide (1099511627776 - (xs.length : Int) < (L : Int)) = false := by simp; omega
  have TK := take_32 w2 w1.heap.size L C' (R ++ List.replicate (128 - R.length) 0) H2 hC b8 g a c xs (hd.up N2) hx hc (fun h => by have := gx h; have := lq.out; omega) (by omega) (hT.up N2) (by have := lq.out; omega)
  rw [TKk.out] at TK
  have TKH := hide TK
  have lw := hide (show w1.heap.size < w2.heap.size from H2.lt)
  clear TK H2 th2 TH1 na n2 n1 TH T0
  go_wp2_with fail
  refine TKH.out.mono ?_
  rintro r w3 ⟨rfl, R3, H3, b3, e3, B3⟩
  have N3 : Below w.heap.size w w3 := N2.trans (B3.below (by have := lq.out; omega) N2.size)
  have hb3 := B3.block (w.heap.size + 1) (by have := lq.out; have := lw.out; omega) (by have := lq.out; omega)
  have TH3 : w3.there (w.heap.size + 1) 0 3 := fun j hj => by
    have := TH2 j hj
    exact ⟨by rw [World.cell?_of_block (a := ⟨w.heap.size + 1, 0 + j, none⟩) hb3]; exact this.1, by rw [World.frozen?_of_block (a := ⟨w.heap.size + 1, 0 + j, none⟩) hb3]; exact this.2⟩
  have RG := H3.range
  have l3 := hide H3.lt
  have L3 := hide (hcl_len .u32 ((L + xs.length : Nat) : Int) (whole32 C' (R ++ xs)) H3.len)
  have TD := told_4 w3 (L + xs.length) (whole32 C' (R ++ xs)) R3 H3.len (whole_ok32 hC (R ++ xs)) hn
  rw [e3] at TD
  rw [← HTW.out, ← HTR.out] at TD
  generalize hcl .u32 ((L + xs.length : Nat) : Int) (whole32 C' (R ++ xs)) R3 = v3 at *
  rw [← HLN.out] at TD
  have TDH := hide TD
  clear TD TKH H3 b3 e3 B3 N2 TH2 q0 tg hn1 hn hb3
  have y3 := N3.size
  go_wp2_with (refine wpList_load_mid rfl 63 (.tmp 5) rfl w1.heap.size 0 rfl v3 d RG hd' hrow (by rw [L3.out]; exact infoH_32) ?_)
  refine TDH.out.mono ?_
  rintro r w4 ⟨⟨v, rfl, a1, a2, c1, c2, g1, g2, rfl, o1, o2, r1, r2, s1, q1, q2⟩, n4⟩
  have N4 := nxt N3 n4
  have th := there_upn (by omega) TH3 n4
  have RR := World.rangeAt_setCells_same w4 (w.heap.size + 1) 0 [.int .i64 LN, .slice a1 tw.length c1, .slice a2 tr.length c2] th
  have OQ := only_setCells w4 (w.heap.size + 1) [.int .i64 LN, .slice a1 tw.length c1, .slice a2 tr.length c2] 0
  have N5 : Below w.heap.size w (w4.setCells (w.heap.size + 1) 0 [.int .i64 LN, .slice a1 tw.length c1, .slice a2 tr.length c2]) := N4.trans (OQ.below (by omega))
  have o1' := o1.only OQ (fun _ => by have := lq.out; have := l3.out; omega)
  have o2' := o2.only OQ (fun _ => by have := lq.out; have := l3.out; omega)
  go_wp2_with (refine wpList_store_mid rfl 26 (.tmp 4) (.tmp 26) rfl (w.heap.size + 1) 0 #[.int .i64 LN, .slice a1 tw.length c1, .slice a2 tr.length c2] rfl rfl ?hth ?hin ?hon ?_)
  case hth => exact th
  case hin => exact iSt
  case hon => exact one3 _ _ _ _ _ _ _
  exact bodyPost_ret (v := .agg #[.int .i64 LN, .slice a1 tw.length c1, .slice a2 tr.length c2]) (results_cell_m Tryd.results17 _ _ (w.heap.size + 1) _ d3 rfl RR hd3 hrow3 iSt) rfl ⟨⟨_, rfl, a1, a2, c1, c2, g1, g2, rfl, o1', o2', by omega, by omega, s1, q1, q2⟩, N5⟩
set_option maxRecDepth 20000 in
set_option maxHeartbeats 8000000 in
theorem moreLong (w : World) (L : Nat) (gw : Nat) (aw : Option Addr) (cw : Nat) (W : List Int) (hW : Rd w gw aw .u8 W) (bW : Byt W) (gr : Nat) (ar : Option Addr) (cr : Nat) (R : List Int) (hR : Rd w gr ar .u8 R) (bR : Byt R) (kR : ar = none → cr = 0)
    (hl : W.length = 32) (hr : R.length = L % 64) (g : Nat) (a : Option Addr) (c : Nat) (xs : List Int) (hd : Rd w g a .u8 xs) (_hx : Byt xs) (_hc : xs.length ≤ c) (hn : L ≤ 1099511627776) (hm : ¬ L + xs.length ≤ 1099511627776) (hx' : xs.length ≤ 1048576) (hT : HasT w 1 kL) (C : S8) (hCw : ∀ j, j < 8 → C.l.getD j 0 = wd 4 W j) (hC : Ok32 C) :
    Calls Tryd.prog 17 #[.agg #[.int .i64 (L : Int), .slice aw W.length cw, .slice ar R.length cr], .slice a xs.length c] w fun e w' => e = .returned (.agg #[.int .i64 0, .slice none 0 0, .slice none 0 0]) ∧ Below w.heap.size w w' := by
  obtain ⟨d3, hd3, hrow3⟩ := rowSt
  obtain ⟨d, hd', hrow⟩ := rowH_32
  have gl : 1 < w.heap.size := block_lt_of_cell (hT 0 (by decide))
  have gx : 0 < xs.length → g < w.heap.size := fun h => hd.lt h
  have RH := hide (fun V (hw : Below w.heap.size w V) => readHash_32 V (L : Int) gw aw cw W (hW.up hw) bW gr ar cr R (hR.up hw) kR (by omega) (by omega) hl (by omega))
  have l8 : (R ++ List.replicate (128 - R.length) 0).length = 128 := by rw [List.length_append, List.length_replicate]; omega
  have b8 : Byt (R ++ List.replicate (128 - R.length) 0) := byt_apd bR (byt_rep0 _)
  have tk : (R ++ List.replicate (128 - R.length) 0).take (L % 64) = R := by rw [← hr]; exact List.take_left
  have T0 := C3.new w (.int .i64 (L : Int)) (.slice aw W.length cw) (.slice ar R.length cr) 26
  have m0 : Below w.heap.size w (w.alloc (.cells #[.int .i64 (L : Int), .slice aw W.length cw, .slice ar R.length cr] 26)) := (Below.refl _ _).alloc (Nat.le_refl _) _
  have z0 : (w.alloc (.cells #[.int .i64 (L : Int), .slice aw W.length cw, .slice ar R.length cr] 26)).heap.size = w.heap.size + 1 := by simp
  have L8 := hide l8
  have TKk := hide tk
  clear hl hr l8 tk
  go_enter Tryd.func17, Tryd.ntmps17
  go_upto_region 1 with fail
  generalize w.alloc (.cells #[.int .i64 (L : Int), .slice aw W.length cw, .slice ar R.length cr] 26) = wa at *
  have m1 : Below wa.heap.size wa (wa.alloc (.cells #[.int .i64 0, .slice none 0 0, .slice none 0 0] 26)) := (Below.refl _ _).alloc (Nat.le_refl _) _
  have TH : (wa.alloc (.cells #[.int .i64 0, .slice none 0 0, .slice none 0 0] 26)).there wa.heap.size 0 3 := there3 (x := .int .i64 0) (y := .slice none 0 0) (z := .slice none 0 0) (t := 26) (by show (wa.heap.push _)[wa.heap.size]? = _; simp)
  have z1 : (wa.alloc (.cells #[.int .i64 0, .slice none 0 0, .slice none 0 0] 26)).heap.size = wa.heap.size + 1 := by simp
  have C2 := C3.new wa (.int .i64 0) (.slice none 0 0) (.slice none 0 0) 26
  generalize wa.alloc (.cells #[.int .i64 0, .slice none 0 0, .slice none 0 0] 26) = wb at *
  have N := nxt m0 m1
  replace T0 := T0.up m1
  rw [z0] at TH z1 C2
  have Z1 := hide z1
  clear m0 m1 z0 z1
  have q0 := T0.c0
  have q1 := T0.c1
  have q2 := T0.c2
  go_wp2_with fail
  refine (RH.out wb N).mono ?_
  rintro e w1 ⟨n1, C', rfl, hC'⟩
  obtain rfl : C' = C := S8.ext_l (eq_of_getD rfl (fun i hi => (hC' i hi).trans (hCw i hi).symm))
  have y1 := n1.size
  have HZ := HB.zero32 w1
  have TH1 := HZ.there
  have na : Below w1.heap.size w1 (w1.alloc zH32) := (Below.refl _ _).alloc (Nat.le_refl _) _
  have L1 := hide (hcl_len .u32 (L : Int) C' L8.out)
  have O1 := hcl_one .u32 (L : Int) C' (R ++ List.replicate (128 - R.length) 0)
  have HO : Hid (∀ V q, V.rangeAt q 0 (hcl .u32 (L : Int) C' (R ++ List.replicate (128 - R.length) 0)) → V.there q 0 137 → HB .u32 V q (L : Int) C' (R ++ List.replicate (128 - R.length) 0)) := fun V q h1 h2 => HB.of_range L8.out h1 h2
  generalize hcl .u32 (L : Int) C' (R ++ List.replicate (128 - R.length) 0) = vs at *
  have sm := World.rangeAt_setCells_same (w1.alloc zH32) w1.heap.size 0 vs (by rw [L1.out]; exact TH1)
  have th2 := World.there_setCells TH1 w1.heap.size 0 vs
  have O2 := only_setCells (w1.alloc zH32) w1.heap.size vs 0
  have H2 := HO.out _ _ sm th2
  have n2 : Below wb.heap.size wb ((w1.alloc zH32).setCells w1.heap.size 0 vs) := (nxt n1 na).trans (O2.below (by omega))
  have lq := hide (show w.heap.size + 1 < w1.heap.size by have := Z1.out; omega)
  clear q0 q1 q2 hC' RH HO sm O2 HZ
  go_upto_region 2 with (refine wpList_store_mid rfl 63 (.tmp 5) (.tmp 10) rfl w1.heap.size 0 vs.toArray rfl rfl ?hth ?hin ?hon ?_)
  case hth => exact (show (w1.alloc zH32).there w1.heap.size 0 vs.length by rw [L1.out]; exact TH1)
  case hin => show _ = some vs.length; rw [L1.out]; exact infoH_32
  case hon => exact O1
  change Code.wp _ _ _ _ ((w1.alloc zH32).setCells w1.heap.size 0 vs)
  generalize (w1.alloc zH32).setCells w1.heap.size 0 vs = w2 at *
  have N2 := nxt N n2
  replace T0 := T0.up n2
  have TH2 := there_upn (by omega) TH n2
  have q0 := T0.c0
  have hn1 : (xs.length : Int) ≤ 1099511627776 := by omega
  have tg : decide (1099511627776 - (xs.length : Int) < (L : Int)) = true := by simp; omega
  have C2 : C3 w2 (w.heap.size + 1) (.int .i64 0) (.slice none 0 0) (.slice none 0 0) := C2.up n2
  have f0 := (TH2 0 (by decide)).2
  have f1 := (TH2 1 (by decide)).2
  have f2 := (TH2 2 (by decide)).2
  have e0 := C2.c0
  have e1 := C2.c1
  have e2 := C2.c2
  have T13 := ((C2.set0 (.int .i64 0)).set1 (.slice none 0 0)).set2 (.slice none 0 0)
  have RR := T13.range
  have OQ := ((Only.setCell w2 (w.heap.size + 1) 0 (.int .i64 0)).trans (Only.setCell _ (w.heap.size + 1) 1 (.slice none 0 0))).trans (Only.setCell _ (w.heap.size + 1) 2 (.slice none 0 0))
  have N5 := N2.trans (OQ.below (B := w.heap.size) (by omega))
  clear H2 th2 TH1 na n2 n1 TH T0 T13 OQ TH2 C2 hm
  go_wp2
  exact bodyPost_ret (v := .agg #[.int .i64 0, .slice none 0 0, .slice none 0 0]) (results_cell_m Tryd.results17 _ _ (w.heap.size + 1) _ d3 rfl RR hd3 hrow3 iSt) rfl ⟨rfl, N5⟩
set_option maxRecDepth 20000 in
set_option maxHeartbeats 8000000 in
theorem moreBad (w : World) (n : Int) (aw ar : Option Addr) (cw cr nw nr : Nat) (hv : vld n nw nr = false) (a : Option Addr) (m c : Nat) :
    Calls Tryd.prog 17 #[.agg #[.int .i64 n, .slice aw nw cw, .slice ar nr cr], .slice a m c] w fun e w' => e = .returned (.agg #[.int .i64 0, .slice none 0 0, .slice none 0 0]) ∧ Below w.heap.size w w' := by
  obtain ⟨d3, hd3, hrow3⟩ := rowSt
  obtain ⟨d, hd', hrow⟩ := rowH_32
  have RH := hide (fun V => readBad V n aw ar cw cr nw nr hv)
  have T0 := C3.new w (.int .i64 n) (.slice aw nw cw) (.slice ar nr cr) 26
  have m0 : Below w.heap.size w (w.alloc (.cells #[.int .i64 n, .slice aw nw cw, .slice ar nr cr] 26)) := (Below.refl _ _).alloc (Nat.le_refl _) _
  have z0 : (w.alloc (.cells #[.int .i64 n, .slice aw nw cw, .slice ar nr cr] 26)).heap.size = w.heap.size + 1 := by simp
  clear hv
  go_enter Tryd.func17, Tryd.ntmps17
  go_upto_region 1 with fail
  generalize w.alloc (.cells #[.int .i64 n, .slice aw nw cw, .slice ar nr cr] 26) = wa at *
  have m1 : Below wa.heap.size wa (wa.alloc (.cells #[.int .i64 0, .slice none 0 0, .slice none 0 0] 26)) := (Below.refl _ _).alloc (Nat.le_refl _) _
  have TH : (wa.alloc (.cells #[.int .i64 0, .slice none 0 0, .slice none 0 0] 26)).there wa.heap.size 0 3 := there3 (x := .int .i64 0) (y := .slice none 0 0) (z := .slice none 0 0) (t := 26) (by show (wa.heap.push _)[wa.heap.size]? = _; simp)
  have z1 : (wa.alloc (.cells #[.int .i64 0, .slice none 0 0, .slice none 0 0] 26)).heap.size = wa.heap.size + 1 := by simp
  have C2 := C3.new wa (.int .i64 0) (.slice none 0 0) (.slice none 0 0) 26
  generalize wa.alloc (.cells #[.int .i64 0, .slice none 0 0, .slice none 0 0] 26) = wb at *
  have N := nxt m0 m1
  replace T0 := T0.up m1
  rw [z0] at TH z1 C2
  have Z1 := hide z1
  clear m0 m1 z0 z1
  have q0 := T0.c0
  have q1 := T0.c1
  have q2 := T0.c2
  go_wp2_with fail
  refine (RH.out wb).mono ?_
  rintro e w1 ⟨n1, rfl⟩
  have y1 := n1.size
  have HZ := HB.zero32 w1
  have TH1 := HZ.there
  have na : Below w1.heap.size w1 (w1.alloc zH32) := (Below.refl _ _).alloc (Nat.le_refl _) _
  have L1 := hide zL_len
  have O1 := hcl_one .u32 0 ⟨0, 0, 0, 0, 0, 0, 0, 0⟩ (List.replicate 128 0)
  generalize (hcl .u32 0 ⟨0, 0, 0, 0, 0, 0, 0, 0⟩ (List.replicate 128 0)) = vs at *
  have sm := World.rangeAt_setCells_same (w1.alloc zH32) w1.heap.size 0 vs (by rw [L1.out]; exact TH1)
  have th2 := World.there_setCells TH1 w1.heap.size 0 vs
  have O2 := only_setCells (w1.alloc zH32) w1.heap.size vs 0
  have n2 : Below wb.heap.size wb ((w1.alloc zH32).setCells w1.heap.size 0 vs) := (nxt n1 na).trans (O2.below (by omega))
  have lq := hide (show w.heap.size + 1 < w1.heap.size by have := Z1.out; omega)
  clear q0 q1 q2 RH sm O2 HZ
  go_upto_region 2 with (refine wpList_store_mid rfl 63 (.tmp 5) (.tmp 10) rfl w1.heap.size 0 vs.toArray rfl rfl ?hth ?hin ?hon ?_)
  case hth => exact (show (w1.alloc zH32).there w1.heap.size 0 vs.length by rw [L1.out]; exact TH1)
  case hin => show _ = some vs.length; rw [L1.out]; exact infoH_32
  case hon => exact O1
  change Code.wp _ _ _ _ ((w1.alloc zH32).setCells w1.heap.size 0 vs)
  generalize (w1.alloc zH32).setCells w1.heap.size 0 vs = w2 at *
  have N2 := nxt N n2
  replace T0 := T0.up n2
  have TH2 := there_upn (by omega) TH n2
  have C2 : C3 w2 (w.heap.size + 1) (.int .i64 0) (.slice none 0 0) (.slice none 0 0) := C2.up n2
  have f0 := (TH2 0 (by decide)).2
  have f1 := (TH2 1 (by decide)).2
  have f2 := (TH2 2 (by decide)).2
  have e0 := C2.c0
  have e1 := C2.c1
  have e2 := C2.c2
  have T13 := ((C2.set0 (.int .i64 0)).set1 (.slice none 0 0)).set2 (.slice none 0 0)
  have RR := T13.range
  have OQ := ((Only.setCell w2 (w.heap.size + 1) 0 (.int .i64 0)).trans (Only.setCell _ (w.heap.size + 1) 1 (.slice none 0 0))).trans (Only.setCell _ (w.heap.size + 1) 2 (.slice none 0 0))
  have N5 := N2.trans (OQ.below (B := w.heap.size) (by omega))
  clear th2 TH1 na n2 n1 TH T0 T13 OQ TH2 C2
  go_wp2
  exact bodyPost_ret (v := .agg #[.int .i64 0, .slice none 0 0, .slice none 0 0]) (results_cell_m Tryd.results17 _ _ (w.heap.size + 1) _ d3 rfl RR hd3 hrow3 iSt) rfl ⟨rfl, N5⟩

/-- What HashMore answers: good? -/
def mOk (L : Int) (ws rs xs : List Int) : Bool := vld L ws.length rs.length && decide (L + (xs.length : Int) ≤ 1099511627776)
def mL (L : Int) (ws rs xs : List Int) : Int := if mOk L ws rs xs = true then L + (xs.length : Int) else 0
def mW (L : Int) (ws rs xs : List Int) : List Int := if mOk L ws rs xs = true then tell32 (whole32 (cOf ws) (rs ++ xs)) else []
def mR (L : Int) (ws rs xs : List Int) : List Int := if mOk L ws rs xs = true then left32 (rs ++ xs) else []
theorem st4_zero (w : World) {B : Nat} (h : B ≤ w.heap.size) : ST4 w (.agg #[.int .i64 0, .slice none 0 0, .slice none 0 0]) B 0 [] [] :=
  ⟨none, none, 0, 0, w.heap.size, w.heap.size, rfl, fun h => absurd h (Nat.lt_irrefl 0), fun h => absurd h (Nat.lt_irrefl 0), h, h, fun h => absurd h (Nat.lt_irrefl 0), Nat.le_refl _, Nat.le_refl _⟩
theorem implMore_any (w : World) (L : Int) (gw : Nat) (aw : Option Addr) (cw : Nat) (ws : List Int) (hW : Rd w gw aw .u8 ws) (bW : Byt ws) (gr : Nat) (ar : Option Addr) (cr : Nat) (rs : List Int) (hR : Rd w gr ar .u8 rs) (bR : Byt rs) (kR : ar = none → cr = 0)
    (g : Nat) (a : Option Addr) (c : Nat) (xs : List Int) (hd : Rd w g a .u8 xs) (hx : Byt xs) (hc : xs.length ≤ c) (hx' : xs.length ≤ 1048576) (hT : HasT w 1 kL) :
    Calls Tryd.prog 17 #[.agg #[.int .i64 L, .slice aw ws.length cw, .slice ar rs.length cr], .slice a xs.length c] w fun e w' => (∃ v, e = .returned v ∧ ST4 w' v w.heap.size (mL L ws rs xs) (mW L ws rs xs) (mR L ws rs xs)) ∧ Below w.heap.size w w' := by
  unfold mL mW mR mOk
  cases hv : vld L ws.length rs.length with
  | false =>
    simp only [Bool.false_and, Bool.false_eq_true, if_false]
    exact (moreBad w L aw ar cw cr _ _ hv a _ c).mono (by rintro e w' ⟨rfl, n⟩; exact ⟨⟨_, rfl, st4_zero w' n.size⟩, n⟩)
  | true =>
    obtain ⟨L0, L1, lw, lr⟩ := vld_true hv
    obtain ⟨l, rfl⟩ : ∃ l : Nat, L = (l : Int) := ⟨L.toNat, by omega⟩
    by_cases q : l + xs.length ≤ 1099511627776
    · have q' : decide ((l : Int) + (xs.length : Int) ≤ 1099511627776) = true := by simp; omega
      simp only [q', Bool.and_self, if_true]
      have h := implMore_4 w l gw aw cw ws hW bW gr ar cr rs hR bR kR lw (by omega) g a c xs hd hx hc q hT (cOf ws) (cOf_wd ws) (cOf_ok bW)
      have e : ((l + xs.length : Nat) : Int) = (l : Int) + (xs.length : Int) := by omega
      rw [e] at h
      exact h
    · have q' : decide ((l : Int) + (xs.length : Int) ≤ 1099511627776) = false := by simp; omega
      simp only [q', Bool.and_false, Bool.false_eq_true, if_false]
      exact (moreLong w l gw aw cw ws hW bW gr ar cr rs hR bR kR lw (by omega) g a c xs hd hx hc (by omega) q hx' hT (cOf ws) (cOf_wd ws) (cOf_ok bW)).mono (by rintro e w' ⟨rfl, n⟩; exact ⟨⟨_, rfl, st4_zero w' n.size⟩, n⟩)
end Go.Proofs.YtljpjbojdekeiaaDoor

/-
  The model's HashMore.
-/
namespace Go.Proofs.YtljpjbojdekeiaaDoor
set_option maxRecDepth 100000
open Go Go.RowKit

set_option maxHeartbeats 1000000 in
theorem specMore_any (w : World) (L : Int) (gw : Nat) (aw : Option Addr) (cw : Nat) (ws : List Int) (hW : Rd w gw aw .u8 ws) (bW : Byt ws) (gr : Nat) (ar : Option Addr) (cr : Nat) (rs : List Int) (hR : Rd w gr ar .u8 rs) (bR : Byt rs) (kR : ar = none → cr = 0)
    (g : Nat) (a : Option Addr) (c : Nat) (xs : List Int) (hd : Rd w g a .u8 xs) (hx : Byt xs) (hc : a = none → c = 0) (hx' : xs.length ≤ 1048576) :
    Calls Tryd.prog 29 #[.agg #[.int .i64 L, .slice aw ws.length cw, .slice ar rs.length cr], .slice a xs.length c] w fun e w' => (∃ v, e = .returned v ∧ ST3 w' v w.heap.size (mL L ws rs xs) (mW L ws rs xs) (mR L ws rs xs)) ∧ Below w.heap.size w w' := by
  have VA := fun W => hide (l6Valid_any W L aw ar ws.length rs.length cw cr)
  obtain ⟨d3, hd3, hrow3⟩ := rowSt
  have T0 := C3.new w (.int .i64 L) (.slice aw ws.length cw) (.slice ar rs.length cr) 26
  have m0 : Below w.heap.size w (w.alloc (.cells #[.int .i64 L, .slice aw ws.length cw, .slice ar rs.length cr] 26)) := (Below.refl _ _).alloc (Nat.le_refl _) _
  have z0 : (w.alloc (.cells #[.int .i64 L, .slice aw ws.length cw, .slice ar rs.length cr] 26)).heap.size = w.heap.size + 1 := by simp
  have hb : mOk L ws rs xs = false → Calls Tryd.prog 29 #[.agg #[.int .i64 L, .slice aw ws.length cw, .slice ar rs.length cr], .slice a xs.length c] w fun e w' => e = .returned (.agg #[.int .i64 0, .slice none 0 0, .slice none 0 0]) ∧ Below w.heap.size w w' := by
    intro hm
    unfold mOk at hm
    have KV : vld L ws.length rs.length = true → -9223372036854775808 ≤ L + (xs.length : Int) ∧ L + (xs.length : Int) < 9223372036854775808 ∧ ¬ L + (xs.length : Int) ≤ 1099511627776 := fun h => by
      obtain ⟨h0, h1, -, -⟩ := vld_true h
      rw [h] at hm
      simp at hm
      omega
    cases hv : vld L ws.length rs.length with
    | false =>
      simp only [hv] at VA
      clear hm hv KV hx' hd hW hR
      go_enter Tryd.func29, Tryd.ntmps29
      go_upto_region 1 with fail
      generalize w.alloc (.cells #[.int .i64 L, .slice aw ws.length cw, .slice ar rs.length cr] 26) = wa at *
      have m1 : Below wa.heap.size wa (wa.alloc (.cells #[.int .i64 0, .slice none 0 0, .slice none 0 0] 26)) := (Below.refl _ _).alloc (Nat.le_refl _) _
      have TH : (wa.alloc (.cells #[.int .i64 0, .slice none 0 0, .slice none 0 0] 26)).there wa.heap.size 0 3 := there3 (x := .int .i64 0) (y := .slice none 0 0) (z := .slice none 0 0) (t := 26) (by show (wa.heap.push _)[wa.heap.size]? = _; simp)
      have C2 := C3.new wa (.int .i64 0) (.slice none 0 0) (.slice none 0 0) 26
      generalize wa.alloc (.cells #[.int .i64 0, .slice none 0 0, .slice none 0 0] 26) = wb at *
      rw [z0] at TH C2
      have N := nxt m0 m1
      replace T0 := T0.up m1
      have q0 := T0.c0
      have q1 := T0.c1
      have q2 := T0.c2
      go_wp2_with fail
      refine (VA wb).out.mono ?_
      rintro r w1 ⟨rfl, n1⟩
      have N1 := nxt N n1
      replace C2 := C2.up n1
      have l2 := C2.lt
      have TH2 := there_upn (by have := N.size; have := m1.size; omega) TH n1
      have f0 := (TH2 0 (by decide)).2
      have f1 := (TH2 1 (by decide)).2
      have f2 := (TH2 2 (by decide)).2
      have e0 := C2.c0
      have e1 := C2.c1
      have e2 := C2.c2
      have T13 := ((C2.set0 (.int .i64 0)).set1 (.slice none 0 0)).set2 (.slice none 0 0)
      have RR := T13.range
      have OQ := ((Only.setCell w1 (w.heap.size + 1) 0 (.int .i64 0)).trans (Only.setCell _ (w.heap.size + 1) 1 (.slice none 0 0))).trans (Only.setCell _ (w.heap.size + 1) 2 (.slice none 0 0))
      have N5 := N1.trans (OQ.below (B := w.heap.size) (by omega))
      clear q0 q1 q2 T0 T13 OQ TH2 C2 m0 m1 z0 TH N n1 N1
      go_wp2
      exact bodyPost_ret (v := .agg #[.int .i64 0, .slice none 0 0, .slice none 0 0]) (results_cell_m Tryd.results29 _ _ (w.heap.size + 1) _ d3 rfl RR hd3 hrow3 iSt) rfl ⟨rfl, N5⟩
    | true =>
      obtain ⟨k1, k2, k3⟩ := KV hv
      simp only [hv] at VA
      have tg : decide (1099511627776 < L + (xs.length : Int)) = true := by simp; omega
      have kw : IntKind.i64.wrap (L + (xs.length : Int)) = L + (xs.length : Int) := by rw [IntKind.wrap_i64]; omega
      clear hm hv KV hd hW hR
      go_enter Tryd.func29, Tryd.ntmps29
      go_upto_region 1 with fail
      generalize w.alloc (.cells #[.int .i64 L, .slice aw ws.length cw, .slice ar rs.length cr] 26) = wa at *
      have m1 : Below wa.heap.size wa (wa.alloc (.cells #[.int .i64 0, .slice none 0 0, .slice none 0 0] 26)) := (Below.refl _ _).alloc (Nat.le_refl _) _
      have TH : (wa.alloc (.cells #[.int .i64 0, .slice none 0 0, .slice none 0 0] 26)).there wa.heap.size 0 3 := there3 (x := .int .i64 0) (y := .slice none 0 0) (z := .slice none 0 0) (t := 26) (by show (wa.heap.push _)[wa.heap.size]? = _; simp)
      have C2 := C3.new wa (.int .i64 0) (.slice none 0 0) (.slice none 0 0) 26
      generalize wa.alloc (.cells #[.int .i64 0, .slice none 0 0, .slice none 0 0] 26) = wb at *
      rw [z0] at TH C2
      have N := nxt m0 m1
      replace T0 := T0.up m1
      have q0 := T0.c0
      have q1 := T0.c1
      have q2 := T0.c2
      go_wp2_with fail
      refine (VA wb).out.mono ?_
      rintro r w1 ⟨rfl, n1⟩
      have N1 := nxt N n1
      replace C2 := C2.up n1
      replace T0 := T0.up n1
      have x0 := T0.c0
      have l2 := C2.lt
      have TH2 := there_upn (by have := N.size; have := m1.size; omega) TH n1
      have f0 := (TH2 0 (by decide)).2
      have f1 := (TH2 1 (by decide)).2
      have f2 := (TH2 2 (by decide)).2
      have e0 := C2.c0
      have e1 := C2.c1
      have e2 := C2.c2
      have T13 := ((C2.set0 (.int .i64 0)).set1 (.slice none 0 0)).set2 (.slice none 0 0)
      have RR := T13.range
      have OQ := ((Only.setCell w1 (w.heap.size + 1) 0 (.int .i64 0)).trans (Only.setCell _ (w.heap.size + 1) 1 (.slice none 0 0))).trans (Only.setCell _ (w.heap.size + 1) 2 (.slice none 0 0))
      have N5 := N1.trans (OQ.below (B := w.heap.size) (by omega))
      clear q0 q1 q2 T0 T13 OQ TH2 C2 m0 m1 z0 TH N n1 N1
      go_wp2
      exact bodyPost_ret (v := .agg #[.int .i64 0, .slice none 0 0, .slice none 0 0]) (results_cell_m Tryd.results29 _ _ (w.heap.size + 1) _ d3 rfl RR hd3 hrow3 iSt) rfl ⟨rfl, N5⟩
  cases hm : mOk L ws rs xs with
  | false =>
    unfold mL mW mR
    simp only [hm, Bool.false_eq_true, if_false]
    exact (hb hm).mono (by rintro e w' ⟨rfl, n⟩; exact ⟨⟨_, rfl, none, none, 0, 0, w'.heap.size, w'.heap.size, rfl, fun h => absurd h (Nat.lt_irrefl 0), fun h => absurd h (Nat.lt_irrefl 0), fun _ => rfl, fun _ => rfl, Nat.le_refl _, Nat.le_refl _, n.size, n.size⟩, n⟩)
  | true =>
    unfold mL mW mR
    simp only [hm, if_true]
    unfold mOk at hm
    clear hb
    cases hv : vld L ws.length rs.length with
    | false => rw [hv] at hm; simp at hm
    | true =>
      rw [hv] at hm
      simp at hm
      obtain ⟨L0, L1, lw, lr⟩ := vld_true hv
      simp only [hv] at VA
      clear hv
      obtain ⟨i0, hi, hz0, hz1, hz2⟩ := info_parts Tryd.info5
      have tg : decide (1099511627776 < L + (xs.length : Int)) = false := by simp; omega
      have kw : IntKind.i64.wrap (L + (xs.length : Int)) = L + (xs.length : Int) := by rw [IntKind.wrap_i64]; omega
      have bA := byt_apd bR hx
      have lB : rs.length + xs.length ≤ 1099511627776 := by omega
      have lA : (rs ++ xs).length ≤ 2199023255552 := by rw [List.length_append]; omega
      have lC : (rs ++ xs).length ≤ 1048640 := by rw [List.length_append]; omega
      have oC := cOf_ok bW
      have oW := whole_ok32 oC (rs ++ xs)
      have SC : ∀ W, Below w.heap.size w W → Calls Tryd.prog 70 #[.slice aw ws.length cw] W fun e w' => e = .returned (ag8 .u32 (cOf ws)) ∧ Below W.heap.size W w' := fun W n => (l6State_any W gw aw cw ws (hW.up n) bW lw).mono (by
        rintro r w' ⟨⟨C', rfl, h⟩, n'⟩
        obtain rfl : C' = cOf ws := S8.ext_l (eq_of_getD rfl (fun i hi => (h i hi).trans (cOf_wd ws i hi).symm))
        exact ⟨rfl, n'⟩)
      obtain ⟨zs, hzs⟩ : ∃ z, z = rs ++ xs := ⟨_, rfl⟩
      obtain ⟨Wz, hWz⟩ : ∃ t, t = whole32 (cOf ws) zs := ⟨_, rfl⟩
      rw [← hzs] at bA lA lC oW ⊢
      have WH := fun W g a c h q => l6Whole_32 W (cOf ws) oC g a c zs h bA lA q
      rw [← hWz] at oW WH ⊢
      obtain ⟨vC, hvC⟩ : ∃ v, v = ag8 .u32 (cOf ws) := ⟨_, rfl⟩
      obtain ⟨vW, hvW⟩ : ∃ v, v = ag8 .u32 Wz := ⟨_, rfl⟩
      have TL := fun W => l6Tell_32 W Wz oW
      rw [← hvC] at SC WH
      rw [← hvW] at WH TL
      obtain ⟨k, hk⟩ : ∃ k, k = zs.length - zs.length % 64 := ⟨_, rfl⟩
      obtain ⟨t, ht⟩ : ∃ t, t = zs.length % 64 := ⟨_, rfl⟩
      have hkt : zs.length = k + t := by omega
      have lf : left32 zs = zs.drop k := by rw [left_is32, ← hk]
      rw [lf]
      have tl : (zs.drop k).length = t := by rw [List.length_drop]; omega
      have CPR : Hid (∀ V, Below w.heap.size w V → Calls Tryd.prog 67 #[.slice ar rs.length cr] V fun e w' => ∃ v, e = .returned v ∧ RowB w' V.heap.size v rs ∧ Below V.heap.size V w') := fun V m => l1Copy_row V gr ar cr rs (hR.up m) kR (by omega)
      have SCH : Hid (∀ V, Below w.heap.size w V → ∀ W, Below V.heap.size V W → Calls Tryd.prog 70 #[.slice aw ws.length cw] W fun e w' => e = .returned vC ∧ Below V.heap.size V w') := fun V m W n => (SC W (nxt m n)).mono (by
        rintro r w' ⟨rfl, n'⟩
        exact ⟨rfl, nxt n n'⟩)
      obtain ⟨zl, hzl⟩ : ∃ n, n = zs.length := ⟨_, rfl⟩
      have WHH : Hid (∀ V W g a c, Below V.heap.size V W → Rd V g a .u8 zs → zl ≤ c → Calls Tryd.prog 69 #[vC, .slice a zl c] W fun e w' => e = .returned vW ∧ Below V.heap.size V w') := fun V W g a c n h q => by
        rw [hzl] at q ⊢
        exact (WH W g a c (h.up n) q).mono (by rintro r w' ⟨rfl, n'⟩; exact ⟨rfl, nxt n n'⟩)
      have TLH : Hid (∀ V W, Below V.heap.size V W → Calls Tryd.prog 68 #[vW] W fun e w' => ∃ a c g, e = .returned (.slice a 32 c) ∧ Own w' g a .u8 (tell32 Wz) ∧ (a = none → c = 0) ∧ 32 ≤ c ∧ V.heap.size ≤ g ∧ Below V.heap.size V w') := fun V W n => (TL W).mono (by
        rintro r w' ⟨⟨a3, c3, g3, rfl, o3, p3, q3, r3⟩, n'⟩
        rw [tell_len32] at q3 ⊢
        exact ⟨a3, c3, g3, rfl, o3, p3, q3, Nat.le_trans n.size r3, nxt n n'⟩)
      have TL32 := hide (tell_len32 Wz)
      generalize tell32 Wz = tz at *
      have RDK : Hid (∀ V g, Rd V g (some ⟨g, 0, none⟩) .u8 zs → Rd V g (some ⟨g, k, none⟩) .u8 (zs.drop k)) := fun V g h h0 => by
        obtain ⟨o', e, hc⟩ := h (by omega)
        simp only [Option.some.injEq, Addr.mk.injEq, true_and, and_true] at e
        subst e
        refine ⟨k, rfl, fun i hi => ?_⟩
        have := hc (k + i) (by rw [List.length_drop] at hi; omega)
        rw [List.getD_eq_getElem?_getD, List.getElem?_drop, ← List.getD_eq_getElem?_getD]
        rw [Nat.zero_add] at this
        exact this
      have ZD : Hid (t = 0 → zs.drop k = []) := fun h => List.eq_nil_of_length_eq_zero (by rw [tl]; exact h)
      generalize hds : zs.drop k = ds at *
      have CPD : Hid (∀ V W g a c, Below V.heap.size V W → Rd V g a .u8 ds → (a = none → c = 0) → Calls Tryd.prog 67 #[.slice a t c] W fun e w' => ∃ a c g, e = .returned (.slice a t c) ∧ Own w' g a .u8 ds ∧ (a = none → c = 0) ∧ t ≤ c ∧ V.heap.size ≤ g ∧ Below V.heap.size V w' ∧ Below W.heap.size W w') := fun V W g a c n h p => by
        rw [← tl]
        exact (l1Copy_row W g a c ds (h.up n) p (by omega)).mono (by
          rintro r w' ⟨v, rfl, o, n'⟩
          obtain ⟨a5, c5, g5, rfl, o5, p5, q5, r5⟩ := o.own
          exact ⟨a5, c5, g5, rfl, o5, p5, q5, Nat.le_trans n.size r5, nxt n n', n'⟩)
      have ML : L + (xs.length : Int) = L + (xs.length : Int) := rfl
      have KT := hide hkt
      have TL0 := hide tl
      have hzk : zl = k + t := by omega
      have t64 : t < 64 := by omega
      have k64 : k % 64 = 0 := by omega
      have e1H : Hid ((zl : Int).tmod 64 = (t : Int)) := by show _ = _; rw [Int.tmod_eq_emod_of_nonneg (by omega)]; omega
      have zb : zl ≤ 1048640 := by omega
      have HZ := hide hzs
      have HZL := hide hzl
      have t64H := hide t64
      have hzkH := hide hzk
      have zbH := hide zb
      clear hWz WH SC TL hvC hvW oC oW lA lC lf tl hkt hk ht hm ML hzl lw lr t64 hzk zb k64
      go_enter Tryd.func29, Tryd.ntmps29
      go_upto_region 1 with fail
      generalize w.alloc (.cells #[.int .i64 L, .slice aw ws.length cw, .slice ar rs.length cr] 26) = wa at *
      have m1 : Below wa.heap.size wa (wa.alloc (.cells #[.int .i64 0, .slice none 0 0, .slice none 0 0] 26)) := (Below.refl _ _).alloc (Nat.le_refl _) _
      have TH : (wa.alloc (.cells #[.int .i64 0, .slice none 0 0, .slice none 0 0] 26)).there wa.heap.size 0 3 := there3 (x := .int .i64 0) (y := .slice none 0 0) (z := .slice none 0 0) (t := 26) (by show (wa.heap.push _)[wa.heap.size]? = _; simp)
      have C2 := C3.new wa (.int .i64 0) (.slice none 0 0) (.slice none 0 0) 26
      generalize wa.alloc (.cells #[.int .i64 0, .slice none 0 0, .slice none 0 0] 26) = wb at *
      rw [z0] at TH C2
      have N := nxt m0 m1
      replace T0 := T0.up m1
      have q0 := T0.c0
      have q1 := T0.c1
      have q2 := T0.c2
      go_wp2_with fail
      refine (VA wb).out.mono ?_
      rintro r w1 ⟨rfl, n1⟩
      have TH2 := there_upn (by have := N.size; have := m1.size; omega) TH n1
      replace N := nxt N n1
      replace C2 := C2.up n1
      replace T0 := T0.up n1
      have x0 := T0.c0
      clear q0 q1 q2 m0 m1 z0 TH n1
      go_upto_region 3 with fail
      have x2 := T0.c2
      go_wp2_with fail
      refine (CPR.out w1 N).mono ?_
      rintro r w2 ⟨v2, rfl, o2, n2⟩
      have z12 := n2.size
      have l2 := C2.lt
      obtain ⟨v4, w4, hap, o4, n4⟩ := append_any (P := Tryd.prog) w2 22 i0 Tryd.underlying22 hi hz0 hz1 hz2 w1.heap.size w1.heap.size _ _ o2 g a c xs (hd.up (nxt N n2)) hc lB (Nat.le_refl _) n2.size
      rw [← HZ.out] at o4
      have n14 : Below w1.heap.size w1 w4 := n2.trans n4
      replace N := nxt N n14
      replace C2 := C2.up n14
      replace T0 := T0.up n14
      have TH4 := there_upn (by omega) TH2 n14
      clear x0 x2 n2 n4 o2 TH2 CPR
      go_upto_region 4 with (at_builtin; refine Lib.wpList_append_run _ rfl _ _ 22 22 rfl _ _ rfl rfl _ _ hap ?_)
      clear hap
      have l2' := C2.lt
      have CY : Hid (∀ W, Below (w.heap.size + 1) w4 W → W.cell? ⟨w.heap.size, 0, none⟩ = some (.int .i64 L) ∧ W.cell? ⟨w.heap.size, 1, none⟩ = some (.slice aw ws.length cw)) := fun W n => by
        have h := T0.of_block (n.block w.heap.size (by omega))
        exact ⟨h.c0, h.c1⟩
      have nd : Below w4.heap.size w4 w4.drew := (Below.refl _ _).drew
      have W1 : ∀ {W}, Below w4.heap.size w4 W → Below (w.heap.size + 1) w4 W := fun b => ⟨b.os, b.tape, b.output, b.size, fun k hk => b.block k (by omega)⟩
      have SC := hide (SCH.out w4 N)
      have WH := hide (WHH.out w4)
      have TL := hide (TLH.out w4)
      have CP := hide (CPD.out w4)
      have T12 : Hid (∀ W, Below w4.heap.size w4 W → C3 W (w.heap.size + 1) (.int .i64 0) (.slice none 0 0) (.slice none 0 0) ∧ W.there (w.heap.size + 1) 0 3) := fun W n => ⟨C2.up n, there_upn (by omega) TH4 n⟩
      clear SCH WHH TLH CPD T0 C2 TH4 n14 z12 VA
      have hzk := hzkH.out
      have t64 := t64H.out
      have zb := zbH.out
      have e1 := e1H.out
      have e2 : IntKind.i64.wrap (k : Int) = (k : Int) := by rw [IntKind.wrap_i64]; omega
      have e2' : (zl : Int) - (t : Int) = (k : Int) := by omega
      have e5 : zl - k = t := by omega
      have e7 : (k : Int) ≤ (zl : Int) := by omega
      have e7n : k ≤ zl := by omega
      have e6 : ¬ ((k : Int) < 0) := by omega
      clear hzk t64 zb
      obtain ⟨o41, ⟨rfl, o42⟩ | ⟨g4, cap, cur, rfl, gg, hg, hcap, hmx, hsz, htk⟩⟩ := id o4
      · obtain rfl : zl = 0 := by rw [HZL.out]; exact o42
        obtain rfl : k = 0 := by have := hzkH.out; omega
        obtain rfl : t = 0 := by have := hzkH.out; omega
        obtain ⟨g4, hg4⟩ : ∃ g4 : Nat, g4 = 0 := ⟨_, rfl⟩
        have R4 : Rd w4 g4 none .u8 zs := fun h => absurd h (by rw [o42]; exact Nat.lt_irrefl 0)
        have OZ := hide o42
        clear e1 e2 e2' e5 e6 e7 e7n o42 o41 o4 hg4
        have ew : IntKind.i64.wrap 0 = 0 := rfl
        go_region_held3 (fun W => W.cell? ⟨w.heap.size, 0, none⟩ = some (.int .i64 L) ∧ W.cell? ⟨w.heap.size, 1, none⟩ = some (.slice aw ws.length cw))
          (first | exact (unhide CY) _ (W1 b42) | exact (unhide CY) _ (W1 b33) | exact (unhide CY) _ (W1 b32) | exact (unhide CY) _ (W1 b30) | exact (unhide CY) _ (W1 nd) | exact (unhide CY) _ (((W1 b42).setCell (Nat.le_refl _) _).setCell (Nat.le_refl _) _ |>.setCell (Nat.le_refl _) _))
          (first
            | (go_at_call 70; refine ((unhide SC) _ nd).mono ?_; rintro r w30 ⟨rfl, b30⟩)
            | (go_at_call 69; refine ((unhide WH) _ g4 _ _ b30 R4 (Nat.le_refl _)).mono ?_; rintro r w32 ⟨rfl, b32⟩)
            | (go_at_call 68; refine ((unhide TL) _ b32).mono ?_; rintro r w33 ⟨a33, c33, g33, rfl, o33, p33, q33, r33, b33⟩)
            | (go_at_call 67; refine ((unhide CP) _ g4 _ _ b33 (fun h => absurd h (by rw [TL0.out]; exact Nat.lt_irrefl 0)) (by simp)).mono ?_; rintro r w42 ⟨a42, c42, g42, rfl, o42, p42, q42, r42, b42, n42⟩; obtain ⟨TC, th12⟩ := (unhide T12) _ b42; (have f0 := (th12 0 (by decide)).2); (have f1 := (th12 1 (by decide)).2); (have f2 := (th12 2 (by decide)).2); (have e0 := TC.c0); (have e1' := TC.c1); (have e2'' := TC.c2))
            | fail)
        have T13 := ((TC.set0 (.int .i64 (L + (xs.length : Int)))).set1 (.slice a33 32 c33)).set2 (.slice a42 0 c42)
        have RR := T13.range
        have OQ := ((Only.setCell w42 (w.heap.size + 1) 0 (.int .i64 (L + (xs.length : Int)))).trans (Only.setCell _ (w.heap.size + 1) 1 (.slice a33 32 c33))).trans (Only.setCell _ (w.heap.size + 1) 2 (.slice a42 0 c42))
        have o33' := (o33.up n42).only OQ (fun _ => by omega)
        have o42' := o42.only OQ (fun _ => by omega)
        have N2 := (nxt N b42).trans (OQ.below (B := w.heap.size) (by omega))
        have E1 : Value.agg #[.int .i64 (L + (xs.length : Int)), .slice a33 32 c33, .slice a42 0 c42] = .agg #[.int .i64 (L + (xs.length : Int)), .slice a33 tz.length c33, .slice a42 ds.length c42] := by rw [TL32.out, TL0.out]
        have q33' : tz.length ≤ c33 := by rw [TL32.out]; exact q33
        have q42' : ds.length ≤ c42 := by rw [TL0.out]; exact q42
        clear f0 f1 f2 e0 e1' e2'' TC th12 o33 o42 OQ T13
        generalize ((w42.setCell ⟨w.heap.size + 1, 0, none⟩ (.int .i64 (L + (xs.length : Int)))).setCell ⟨w.heap.size + 1, 1, none⟩ (.slice a33 32 c33)).setCell ⟨w.heap.size + 1, 2, none⟩ (.slice a42 0 c42) = W2 at *
        go_wp2
        exact bodyPost_ret (v := .agg #[.int .i64 (L + (xs.length : Int)), .slice a33 32 c33, .slice a42 0 c42]) (results_cell_m Tryd.results29 _ _ (w.heap.size + 1) _ d3 rfl RR hd3 hrow3 iSt) rfl ⟨⟨_, rfl, a33, a42, c33, c42, g33, g42, E1, o33', o42', p33, p42, q33', q42', by omega, by omega⟩, N2⟩
      · rw [← HZL.out] at hcap ⊢
        have R4 : Rd w4 g4 (some ⟨g4, 0, none⟩) .u8 zs := fun h0 => by
          obtain ⟨a5, c5, g5, e5, o5, p5, q5, r5⟩ := o4.own
          obtain ⟨off, e, hc⟩ := o5.rd h0
          injection e5 with h1 h2 h3
          rw [← h1] at e
          simp only [Option.some.injEq, Addr.mk.injEq, and_true] at e
          obtain ⟨rfl, rfl⟩ := e
          exact ⟨0, rfl, hc⟩
        have e8 : (k : Int) ≤ (cap : Int) := by have := hzkH.out; omega
        clear o4 o41 hg hmx hsz htk
        by_cases kc : k < cap
        · have e9 : ¬ (cap = k) := by omega
          have e9' : ¬ (k = cap) := by omega
          have e8n : k ≤ cap := by omega
          have e10 : ¬ (cap ≤ k) := by omega
          have e11 : ¬ (cap - k = 0) := by omega
          have e12 : (zl : Int) ≤ (cap : Int) := by omega
          go_region_held3 (fun W => W.cell? ⟨w.heap.size, 0, none⟩ = some (.int .i64 L) ∧ W.cell? ⟨w.heap.size, 1, none⟩ = some (.slice aw ws.length cw))
            (first | exact (unhide CY) _ (W1 b42) | exact (unhide CY) _ (W1 b33) | exact (unhide CY) _ (W1 b32) | exact (unhide CY) _ (W1 b30) | exact (unhide CY) _ (W1 nd) | exact (unhide CY) _ (((W1 b42).setCell (Nat.le_refl _) _).setCell (Nat.le_refl _) _ |>.setCell (Nat.le_refl _) _))
            (first
              | (go_at_call 70; refine ((unhide SC) _ nd).mono ?_; rintro r w30 ⟨rfl, b30⟩)
              | (go_at_call 69; refine ((unhide WH) _ g4 _ _ b30 R4 hcap).mono ?_; rintro r w32 ⟨rfl, b32⟩)
              | (go_at_call 68; refine ((unhide TL) _ b32).mono ?_; rintro r w33 ⟨a33, c33, g33, rfl, o33, p33, q33, r33, b33⟩)
              | (go_at_call 67; refine ((unhide CP) _ g4 _ _ b33 (RDK.out w4 g4 R4) (by simp)).mono ?_; rintro r w42 ⟨a42, c42, g42, rfl, o42, p42, q42, r42, b42, n42⟩; obtain ⟨TC, th12⟩ := (unhide T12) _ b42; (have f0 := (th12 0 (by decide)).2); (have f1 := (th12 1 (by decide)).2); (have f2 := (th12 2 (by decide)).2); (have e0 := TC.c0); (have e1' := TC.c1); (have e2'' := TC.c2))
              | fail)
          have T13 := ((TC.set0 (.int .i64 (L + (xs.length : Int)))).set1 (.slice a33 32 c33)).set2 (.slice a42 t c42)
          have RR := T13.range
          have OQ := ((Only.setCell w42 (w.heap.size + 1) 0 (.int .i64 (L + (xs.length : Int)))).trans (Only.setCell _ (w.heap.size + 1) 1 (.slice a33 32 c33))).trans (Only.setCell _ (w.heap.size + 1) 2 (.slice a42 t c42))
          have o33' := (o33.up n42).only OQ (fun _ => by omega)
          have o42' := o42.only OQ (fun _ => by omega)
          have N2 := (nxt N b42).trans (OQ.below (B := w.heap.size) (by omega))
          have E1 : Value.agg #[.int .i64 (L + (xs.length : Int)), .slice a33 32 c33, .slice a42 t c42] = .agg #[.int .i64 (L + (xs.length : Int)), .slice a33 tz.length c33, .slice a42 ds.length c42] := by rw [TL32.out, TL0.out]
          have q33' : tz.length ≤ c33 := by rw [TL32.out]; exact q33
          have q42' : ds.length ≤ c42 := by rw [TL0.out]; exact q42
          clear f0 f1 f2 e0 e1' e2'' TC th12 o33 o42 OQ T13
          generalize ((w42.setCell ⟨w.heap.size + 1, 0, none⟩ (.int .i64 (L + (xs.length : Int)))).setCell ⟨w.heap.size + 1, 1, none⟩ (.slice a33 32 c33)).setCell ⟨w.heap.size + 1, 2, none⟩ (.slice a42 t c42) = W2 at *
          go_wp2
          exact bodyPost_ret (v := .agg #[.int .i64 (L + (xs.length : Int)), .slice a33 32 c33, .slice a42 t c42]) (results_cell_m Tryd.results29 _ _ (w.heap.size + 1) _ d3 rfl RR hd3 hrow3 iSt) rfl ⟨⟨_, rfl, a33, a42, c33, c42, g33, g42, E1, o33', o42', p33, p42, q33', q42', by omega, by omega⟩, N2⟩
        · obtain rfl : t = 0 := by have := hzkH.out; omega
          obtain rfl : cap = k := by have := hzkH.out; omega
          obtain rfl : zl = cap := by have := hzkH.out; omega
          clear e2' e5 e8 e7 e7n kc hcap
          go_region_held3 (fun W => W.cell? ⟨w.heap.size, 0, none⟩ = some (.int .i64 L) ∧ W.cell? ⟨w.heap.size, 1, none⟩ = some (.slice aw ws.length cw))
            (first | exact (unhide CY) _ (W1 b42) | exact (unhide CY) _ (W1 b33) | exact (unhide CY) _ (W1 b32) | exact (unhide CY) _ (W1 b30) | exact (unhide CY) _ (W1 nd) | exact (unhide CY) _ (((W1 b42).setCell (Nat.le_refl _) _).setCell (Nat.le_refl _) _ |>.setCell (Nat.le_refl _) _))
            (first
              | (go_at_call 70; refine ((unhide SC) _ nd).mono ?_; rintro r w30 ⟨rfl, b30⟩)
              | (go_at_call 69; refine ((unhide WH) _ g4 _ _ b30 R4 (Nat.le_refl _)).mono ?_; rintro r w32 ⟨rfl, b32⟩)
              | (go_at_call 68; refine ((unhide TL) _ b32).mono ?_; rintro r w33 ⟨a33, c33, g33, rfl, o33, p33, q33, r33, b33⟩)
              | (go_at_call 67; refine ((unhide CP) _ g4 _ _ b33 (fun h => absurd h (by rw [TL0.out]; exact Nat.lt_irrefl 0)) (by simp)).mono ?_; rintro r w42 ⟨a42, c42, g42, rfl, o42, p42, q42, r42, b42, n42⟩; obtain ⟨TC, th12⟩ := (unhide T12) _ b42; (have f0 := (th12 0 (by decide)).2); (have f1 := (th12 1 (by decide)).2); (have f2 := (th12 2 (by decide)).2); (have e0 := TC.c0); (have e1' := TC.c1); (have e2'' := TC.c2))
              | fail)
          have T13 := ((TC.set0 (.int .i64 (L + (xs.length : Int)))).set1 (.slice a33 32 c33)).set2 (.slice a42 0 c42)
          have RR := T13.range
          have OQ := ((Only.setCell w42 (w.heap.size + 1) 0 (.int .i64 (L + (xs.length : Int)))).trans (Only.setCell _ (w.heap.size + 1) 1 (.slice a33 32 c33))).trans (Only.setCell _ (w.heap.size + 1) 2 (.slice a42 0 c42))
          have o33' := (o33.up n42).only OQ (fun _ => by omega)
          have o42' := o42.only OQ (fun _ => by omega)
          have N2 := (nxt N b42).trans (OQ.below (B := w.heap.size) (by omega))
          have E1 : Value.agg #[.int .i64 (L + (xs.length : Int)), .slice a33 32 c33, .slice a42 0 c42] = .agg #[.int .i64 (L + (xs.length : Int)), .slice a33 tz.length c33, .slice a42 ds.length c42] := by rw [TL32.out, TL0.out]
          have q33' : tz.length ≤ c33 := by rw [TL32.out]; exact q33
          have q42' : ds.length ≤ c42 := by rw [TL0.out]; exact q42
          clear f0 f1 f2 e0 e1' e2'' TC th12 o33 o42 OQ T13
          generalize ((w42.setCell ⟨w.heap.size + 1, 0, none⟩ (.int .i64 (L + (xs.length : Int)))).setCell ⟨w.heap.size + 1, 1, none⟩ (.slice a33 32 c33)).setCell ⟨w.heap.size + 1, 2, none⟩ (.slice a42 0 c42) = W2 at *
          go_wp2
          exact bodyPost_ret (v := .agg #[.int .i64 (L + (xs.length : Int)), .slice a33 32 c33, .slice a42 0 c42]) (results_cell_m Tryd.results29 _ _ (w.heap.size + 1) _ d3 rfl RR hd3 hrow3 iSt) rfl ⟨⟨_, rfl, a33, a42, c33, c42, g33, g42, E1, o33', o42', p33, p42, q33', q42', by omega, by omega⟩, N2⟩
end Go.Proofs.YtljpjbojdekeiaaDoor

/-
  Marking and holding of a state whose lists lie in different blocks.
-/
namespace Go.Proofs.YtljpjbojdekeiaaDoor
set_option maxRecDepth 100000
open Go Go.RowKit

theorem ST4.norm {w : World} {v : Value} {B D : Nat} {L : Int} {ws rs : List Int} (h : ST4 w v B L ws rs) (hD : D < B) (hB : B ≤ w.heap.size) :
    ∃ (a a' : Option Addr) (c c' g g' : Nat), v = .agg #[.int .i64 L, .slice a ws.length c, .slice a' rs.length c'] ∧ Own w g a .u8 ws ∧ Own w g' a' .u8 rs ∧ (g = D ∨ B ≤ g) ∧ (g' = D ∨ B ≤ g') ∧ g < w.heap.size ∧ g' < w.heap.size ∧ (g ≠ g' ∨ (ws.length = 0 ∧ rs.length = 0)) := by
  obtain ⟨a, a', c, c', g, g', e, o, o', b, b', q, _, _⟩ := h
  by_cases h1 : 0 < ws.length
  · by_cases h2 : 0 < rs.length
    · exact ⟨a, a', c, c', g, g', e, o, o', .inr b, .inr b', o.rd.lt h1, o'.rd.lt h2, .inl (by have := q h1; omega)⟩
    · exact ⟨a, a', c, c', g, D, e, o, fun h => absurd h h2, .inr b, .inl rfl, o.rd.lt h1, by omega, .inl (by omega)⟩
  · by_cases h2 : 0 < rs.length
    · exact ⟨a, a', c, c', D, g', e, fun h => absurd h h1, o', .inl rfl, .inr b', by omega, o'.rd.lt h2, .inl (by omega)⟩
    · exact ⟨a, a', c, c', D, D, e, fun h => absurd h h1, fun h => absurd h h2, .inl rfl, .inl rfl, by omega, by omega, .inr ⟨by omega, by omega⟩⟩
set_option maxHeartbeats 2000000 in
theorem markState_own (w : World) (L : Int) (g g' : Nat) (a a' : Option Addr) (c c' : Nat) (ws rs : List Int) (k : Int) (B1 : Own w g a .u8 ws) (B2 : Own w g' a' .u8 rs) (hg : g ≠ g' ∨ (ws.length = 0 ∧ rs.length = 0)) (y1 : g < w.heap.size) (_y2 : g' < w.heap.size) (lw : ws.length ≤ 1048576) (lr : rs.length ≤ 1048576) (k0 : 0 ≤ k) (k1 : k ≤ 4194304) :
    Calls Tryd.prog 34 #[.agg #[.int .i64 L, .slice a ws.length c, .slice a' rs.length c'], .int .i64 k] w fun e w' => e = .returned (.int .i64 (k + (ws.length : Int) + (rs.length : Int))) ∧ Own w' g a .u8 (marks k ws.length) ∧ Own w' g' a' .u8 (marks (k + (ws.length : Int)) rs.length) ∧ Bt2 g g' w w' := by
  have T0 := C3.new w (.int .i64 L) (.slice a ws.length c) (.slice a' rs.length c') 26
  have n0 : Below w.heap.size w (w.alloc (.cells #[.int .i64 L, .slice a ws.length c, .slice a' rs.length c'] 26)) := (Below.refl _ _).alloc (Nat.le_refl _) _
  go_enter Tryd.func34, Tryd.ntmps34
  go_upto_region 1 with fail
  generalize w.alloc (.cells #[.int .i64 L, .slice a ws.length c, .slice a' rs.length c'] 26) = wa at *
  have p1 := T0.c1
  go_wp2_with fail
  refine (markByteS_any wa g _ _ ws k (B1.up n0) lw k0 (by omega)).mono ?_
  rintro e w1 ⟨rfl, M1, O1⟩
  have T1 := T0.of_block (O1.block w.heap.size (by omega))
  have p2 := T1.c2
  have B2' : Own w1 g' a' .u8 rs := by
    rcases hg with hg | ⟨_, h⟩
    · exact (B2.up n0).only O1 (fun _ => hg.symm)
    · exact fun h' => absurd h' (by omega)
  clear p1
  go_wp2_with fail
  refine (markByteS_any w1 g' _ _ rs (k + (ws.length : Int)) B2' lr (by omega) (by omega)).mono ?_
  rintro e w2 ⟨rfl, M2, O2⟩
  have BB : Bt2 g g' w w2 := ⟨O2.os.trans (O1.os.trans n0.os), O2.tape.trans (O1.tape.trans n0.tape), O2.output.trans (O1.output.trans n0.output), by have := n0.size; have := O1.size; have := O2.size; omega, fun b h0 h1 h2 => (O2.block b h2).trans ((O1.block b h1).trans (n0.block b h0))⟩
  have M1' : Own w2 g a .u8 (marks k ws.length) := by
    rcases hg with hg | ⟨h, _⟩
    · exact M1.only O2 (fun _ => hg)
    · exact fun h' => absurd h' (by rw [marks_len]; omega)
  clear O1 O2 M1
  go_wp2
  go_ret
  exact ⟨rfl, M1', M2, BB⟩
set_option maxHeartbeats 2000000 in
theorem heldState_any (w : World) (L : Int) (g g' : Nat) (a a' : Option Addr) (c c' n n' : Nat) (k : Int) (h1 : Rd w g a .u8 (marks k n)) (h2 : Rd w g' a' .u8 (marks (k + (n : Int)) n')) (lw : n ≤ 1048576) (lr : n' ≤ 1048576) (k0 : 0 ≤ k) (k1 : k ≤ 4194304) :
    Calls Tryd.prog 36 #[.agg #[.int .i64 L, .slice a n c, .slice a' n' c'], .int .i64 k] w fun e w' => e = .returned (.int .i64 (k + (n : Int) + (n' : Int))) ∧ Below w.heap.size w w' := by
  have T0 := C3.new w (.int .i64 L) (.slice a n c) (.slice a' n' c') 26
  have n0 : Below w.heap.size w (w.alloc (.cells #[.int .i64 L, .slice a n c, .slice a' n' c'] 26)) := (Below.refl _ _).alloc (Nat.le_refl _) _
  have t1 : decide (k + (n : Int) < 0) = false := by simp; omega
  have t2 : decide (k + (n : Int) + (n' : Int) < 0) = false := by simp; omega
  go_enter Tryd.func36, Tryd.ntmps36
  go_upto_region 1 with fail
  generalize w.alloc (.cells #[.int .i64 L, .slice a n c, .slice a' n' c'] 26) = wa at *
  have p1 := T0.c1
  have p2 := T0.c2
  go_wp2_with fail
  refine (heldByteS_any wa g a c n k (h1.up n0) lw k0 (by omega)).mono ?_
  rintro e w1 ⟨rfl, rfl⟩
  go_wp2_with fail
  refine (heldByteS_any w1 g' a' c' n' (k + (n : Int)) (h2.up n0) lr (by omega) (by omega)).mono ?_
  rintro e w2 ⟨rfl, rfl⟩
  go_wp2
  go_ret
  exact ⟨rfl, n0⟩
theorem mW_len (L : Int) (ws rs xs : List Int) : (mW L ws rs xs).length ≤ 32 := by
  unfold mW
  split
  · rw [tell_len32]
    exact Nat.le_refl _
  · exact Nat.zero_le _
theorem mR_len (L : Int) (ws rs xs : List Int) : (mR L ws rs xs).length ≤ 64 := by
  unfold mR
  split
  · rw [left_is32, List.length_drop]
    omega
  · exact Nat.zero_le _
end Go.Proofs.YtljpjbojdekeiaaDoor

/-
  What the listed words give the walks of the hashes (written by gens/lhash.py).
-/
namespace Go.Proofs.YtljpjbojdekeiaaDoor
set_option maxRecDepth 100000
open Go.RowKit

theorem gSt : Tryd.prog.globalNamed "loop.example/g00004/impl.startWords" = some 0 := by kernel_rfl
theorem tSt : (Tryd.prog.globals[0]?).map (·.type) = some 92 := by kernel_rfl
theorem gSp : Tryd.prog.globalNamed "loop.example/g00004/impl.stepWords" = some 1 := by kernel_rfl
theorem tSp : (Tryd.prog.globals[1]?).map (·.type) = some 108 := by kernel_rfl
theorem uSt : Tryd.prog.underlying 92 = some (.array 8 58) := by kernel_rfl
theorem uSp : Tryd.prog.underlying 108 = some (.array 80 58) := by kernel_rfl
theorem cSt : Tryd.prog.cellsOf 92 = 8 := by kernel_rfl
theorem cSp : Tryd.prog.cellsOf 108 = 80 := by kernel_rfl
theorem cUw : Tryd.prog.cellsOf 58 = 1 := by kernel_rfl
theorem uUw : Tryd.prog.underlying 58 = some (.int .u64) := by kernel_rfl
theorem hasT_of {W : World} {n : String} {g : Nat} {ty : TypeId} {N : Nat} {l : List Int} (hn : Tryd.prog.globalNamed n = some g) (ht : (Tryd.prog.globals[g]?).map (·.type) = some ty) (hu : Tryd.prog.underlying ty = some (.array N 58)) (hc : Tryd.prog.cellsOf ty = N)
    (h : Lib.VarReads Tryd.prog W n (.agg (l.map fun x => .lit (.int .u64 x)))) : HasT W g l := by
  obtain ⟨g', t, cs, fuel, p, hg, ht', hv, hd⟩ := h
  obtain rfl := Option.some.inj (hn.symm.trans hg)
  obtain rfl := Option.some.inj (ht.symm.trans ht')
  have hcs := Lib.cells_of_tab (zs := l) hu uUw cUw hc hd
  intro k hk
  rw [World.var?_cell hg hv k]
  obtain ⟨m⟩ := cs
  simp only at hcs
  subst hcs
  simp [hk]
theorem reads_ofH {l : List (String × DataW Unit)} {W : World} (h : laidMetH Tryd.prog l W) (hp : (l.all fun x => x.2.handleName?.isNone) = true) {n : String} {d : DataW Unit} (hm : (n, d) ∈ l) : Lib.VarReads Tryd.prog W n d := by
  rw [MakeChecks.laidMetH_plain _ _ _ hp] at h
  exact Lib.laidMet.reads h hm
theorem start_of {W : World} (h : Lib.VarReads Tryd.prog W "loop.example/g00004/impl.startWords" Rows.laid_loop_example_g00004_impl_startWords) : HasT W 0 stL := hasT_of gSt tSt uSt cSt h
theorem steps_of {W : World} (h : Lib.VarReads Tryd.prog W "loop.example/g00004/impl.stepWords" Rows.laid_loop_example_g00004_impl_stepWords) : HasT W 1 kL := hasT_of gSp tSp uSp cSp h
def HasH (W : World) : Prop := HasT W 0 stL ∧ HasT W 1 kL
theorem HasH.up {w w' : World} (h : HasH w) (n : Below w.heap.size w w') : HasH w' := ⟨h.1.up n, h.2.up n⟩
end Go.Proofs.YtljpjbojdekeiaaDoor

/-
  The law of HashEnd.
-/
namespace Go.Proofs.YtljpjbojdekeiaaDoor
set_option maxRecDepth 100000
open Go Go.RowKit

theorem rd_of_row3 {w : World} {a : Option Addr} {len cap : Nat} {zs : List Int}
    (h : (a = none ∧ len = 0 ∧ cap = 0 ∧ zs = []) ∨ ∃ x, a = some x ∧ len ≤ cap ∧ cap ≤ maxLen ∧ zs.length = cap ∧ (∀ i, i < zs.length → w.cell? (x.add i) = some (.int .u8 (zs.getD i 0))) ∧ ∀ n ∈ zs, (Lit.int .u8 n).wf = true) :
    ∃ (g : Nat) (xs : List Int), xs.length = len ∧ Rd w g a .u8 xs ∧ Byt xs ∧ xs.length < 9223372036854775808 := by
  obtain ⟨g, xs, hl, r, b⟩ := rd_of_row h
  refine ⟨g, xs, hl, r, b, ?_⟩
  rcases h with ⟨_, h, _⟩ | ⟨_, _, h1, h2, _⟩
  · omega
  · have : maxLen = 9223372036854775807 := rfl
    omega
theorem laid_hend {W : World} (h : laidMetH Tryd.prog Rows.fnExactHashEndRow.laid W) : HasT W 1 kL := steps_of (reads_ofH h (by kernel_rfl) (.head _))
set_option maxHeartbeats 8000000 in
theorem hend_law (w : World) (L : Int) (g0 : Nat) (a0 : Option Addr) (c0 : Nat) (X0 : List Int) (hX0 : Rd w g0 a0 .u8 X0) (bX0 : Byt X0) (l0 : X0.length < 9223372036854775808) (g1 : Nat) (a1 : Option Addr) (c1 : Nat) (X1 : List Int) (hX1 : Rd w g1 a1 .u8 X1) (bX1 : Byt X1) (l1 : X1.length < 9223372036854775808) (hL : HasT w 1 kL) :
    Calls Tryd.prog 10 #[.agg #[.int .i64 L, .slice a0 X0.length c0, .slice a1 X1.length c1]] w fun e w' => e = .returned (.bool true) ∧ Below w.heap.size w w' := by
  have SZ := fun W => hide (szState_any W L a0 a1 X0.length c0 X1.length c1 1048576 l0 l1 (by decide) (by decide))
  have T0 := C3.new w (.int .i64 L) (.slice a0 X0.length c0) (.slice a1 X1.length c1) 39
  have N : Below w.heap.size w (w.alloc (.cells #[.int .i64 L, .slice a0 X0.length c0, .slice a1 X1.length c1] 39)) := (Below.refl _ _).alloc (Nat.le_refl _) _
  clear l0 l1
  by_cases q : X0.length + X1.length ≤ 1048576
  · have u0 : ¬ ((1048576 : Int) < (X0.length : Int) + (X1.length : Int)) := by omega
    have u1 : decide ((1048576 : Int) - (X0.length : Int) - (X1.length : Int) < 0) = false := by simp; omega
    simp only [if_neg u0] at SZ
    have q0 : X0.length ≤ 1048576 := by omega
    have q1 : X1.length ≤ 1048576 := by omega
    have hy : (endA L X0 X1).length ≤ 1048576 := Nat.le_trans (endA_len _ _ _) (by decide)
    have SP := fun W g g' (h : Blk W g .u8 X0) (h' : Blk W g' .u8 X1) => hide (specEnd_any W L g _ X0.length X0 h.own0.rd bX0 g' (some ⟨g', 0, none⟩) X1.length X1 h'.own0.rd bX1 (by simp))
    have IM := fun W g g' (h : Blk W g .u8 X0) (h' : Blk W g' .u8 X1) (n : Below w.heap.size w W) => hide (implEnd_any W L g _ X0.length X0 h.own0.rd bX0 g' (some ⟨g', 0, none⟩) X1.length X1 h'.own0.rd bX1 (by simp) (hL.up n))
    have TO := fun W (n : Below w.heap.size w W) => hide (toState_any W L g0 g1 a0 a1 c0 c1 X0 X1 (hX0.up n) (hX1.up n) q0 q1)
    have v1 : decide ((1 : Int) + (X0.length : Int) + (X1.length : Int) < 0) = false := by simp; omega
    obtain ⟨ys, hys⟩ : ∃ ys, ys = endA L X0 X1 := ⟨_, rfl⟩
    simp only [← hys] at SP IM hy
    clear hys u0 q hL hX0 hX1
    go_enter Tryd.func10, Tryd.ntmps10
    go_upto_region 2 with fail
    generalize w.alloc (.cells #[.int .i64 L, .slice a0 X0.length c0, .slice a1 X1.length c1] 39) = wa at *
    have x0 := T0.c0
    have x1 := T0.c1
    have x2 := T0.c2
    go_wp2_with fail
    refine (SZ wa).out.mono ?_
    rintro e w1 ⟨rfl, m1⟩
    have lT := T0.lt
    have z1 := m1.size
    replace N := nxt N m1
    replace T0 := T0.up m1
    clear SZ x0 x1 x2 m1
    go_upto_region 5 with fail
    have x0 := T0.c0
    have x1 := T0.c1
    have x2 := T0.c2
    go_wp2_with fail
    refine (TO w1 N).out.mono ?_
    rintro e w2 ⟨⟨v2, rfl, gA, gB, rfl, A0, A1, r1, r2, r3⟩, m2⟩
    have z2 := m2.size
    replace N := nxt N m2
    replace T0 := T0.up m2
    clear x0 x1 x2 m2 r1 r2 r3
    go_wp2_with fail
    refine (SP w2 gA gB A0 A1).out.mono ?_
    rintro e w3 ⟨⟨aS, cS, gS, rfl, oS, pS, kS, rS⟩, m3⟩
    have z3 := m3.size
    have lS := oS.rd.lt
    replace N := nxt N m3
    replace T0 := T0.up m3
    clear A0 A1 m3 pS kS SP
    go_upto_region 6 with fail
    have x0 := T0.c0
    have x1 := T0.c1
    have x2 := T0.c2
    go_wp2_with fail
    refine (TO w3 N).out.mono ?_
    rintro e w4 ⟨⟨v4, rfl, gA, gB, rfl, A0, A1, r1, r2, r3⟩, m4⟩
    have z4 := m4.size
    have T5 := C3.new w4 (.int .i64 L) (.slice (some ⟨gA, 0, none⟩) X0.length X0.length) (.slice (some ⟨gB, 0, none⟩) X1.length X1.length) 26
    have m5 : Below w4.heap.size w4 (w4.alloc (.cells #[.int .i64 L, .slice (some ⟨gA, 0, none⟩) X0.length X0.length, .slice (some ⟨gB, 0, none⟩) X1.length X1.length] 26)) := (Below.refl _ _).alloc (Nat.le_refl _) _
    replace N := nxt N m4
    replace T0 := T0.up m4
    replace oS := oS.up m4
    clear x0 x1 x2 m4
    go_upto_region 7 with fail
    generalize w4.alloc (.cells #[.int .i64 L, .slice (some ⟨gA, 0, none⟩) X0.length X0.length, .slice (some ⟨gB, 0, none⟩) X1.length X1.length] 26) = w5 at *
    have z5 := m5.size
    replace N := nxt N m5
    replace T0 := T0.up m5
    replace oS := oS.up m5
    replace A0 := A0.up m5
    replace A1 := A1.up m5
    clear m5
    have y0 := T5.c0
    have y1 := T5.c1
    have y2 := T5.c2
    go_wp2_with fail
    refine (IM w5 gA gB A0 A1 N).out.mono ?_
    rintro e w6 ⟨⟨aI, cI, gI, rfl, oI, pI, kI, rI⟩, m6⟩
    have z6 := m6.size
    have lI := oI.rd.lt
    replace N := nxt N m6
    replace T0 := T0.up m6
    replace T5 := T5.up m6
    replace oS := oS.up m6
    replace A0 := A0.up m6
    replace A1 := A1.up m6
    clear m6 pI kI y0 y1 y2
    go_wp2_with fail
    refine (eqByteS_same w6 _ _ _ _ _ _ ys oI.rd oS.rd hy).mono ?_
    rintro e w7 ⟨rfl, m7⟩
    have z7 := m7.size
    replace N := nxt N m7
    replace T0 := T0.up m7
    replace T5 := T5.up m7
    replace oS := oS.up m7
    replace oI := oI.up m7
    replace A0 := A0.up m7
    replace A1 := A1.up m7
    clear m7
    go_upto_region 10 with fail
    have nd : Below w7.heap.size w7 w7.drew := (Below.refl _ _).drew
    have CY : Hid (∀ W, Below w7.heap.size w7 W → (W.cell? ⟨w4.heap.size, 0, none⟩ = some (.int .i64 L) ∧ W.cell? ⟨w4.heap.size, 1, none⟩ = some (.slice (some ⟨gA, 0, none⟩) X0.length X0.length) ∧ W.cell? ⟨w4.heap.size, 2, none⟩ = some (.slice (some ⟨gB, 0, none⟩) X1.length X1.length)) ∧ (W.cell? ⟨w.heap.size, 0, none⟩ = some (.int .i64 L) ∧ W.cell? ⟨w.heap.size, 1, none⟩ = some (.slice a0 X0.length c0) ∧ W.cell? ⟨w.heap.size, 2, none⟩ = some (.slice a1 X1.length c1))) := fun W n => ⟨⟨(T5.up n).c0, (T5.up n).c1, (T5.up n).c2⟩, ⟨(T0.up n).c0, (T0.up n).c1, (T0.up n).c2⟩⟩
    have TO2 : Hid (∀ W, Below w7.heap.size w7 W → Calls Tryd.prog 30 #[.agg #[.int .i64 L, .slice a0 X0.length c0, .slice a1 X1.length c1]] W fun e w' => (∃ gC gD, e = .returned (.agg #[.int .i64 L, .slice (some ⟨gC, 0, none⟩) X0.length X0.length, .slice (some ⟨gD, 0, none⟩) X1.length X1.length]) ∧ Blk w' gC .u8 X0 ∧ Blk w' gD .u8 X1) ∧ Below w7.heap.size w7 w') := fun W n => (TO W (nxt N n)).out.mono (by
      rintro e w' ⟨⟨v4, rfl, gA, gB, rfl, A0, A1, r1, r2, r3⟩, m4⟩
      exact ⟨⟨gA, gB, rfl, A0, A1⟩, nxt n m4⟩)
    have EQ : Hid (∀ W gC gD, Below w7.heap.size w7 W → Blk W gC .u8 X0 → Blk W gD .u8 X1 → Calls Tryd.prog 32 #[.agg #[.int .i64 L, .slice (some ⟨gA, 0, none⟩) X0.length X0.length, .slice (some ⟨gB, 0, none⟩) X1.length X1.length], .agg #[.int .i64 L, .slice (some ⟨gC, 0, none⟩) X0.length X0.length, .slice (some ⟨gD, 0, none⟩) X1.length X1.length]] W fun e w' => e = .returned (.bool true) ∧ Below w7.heap.size w7 w') := fun W gC gD n h h' => (eqState_same W L _ _ _ _ _ _ _ _ _ _ _ _ X0 X1 (A0.up n).own0.rd (A1.up n).own0.rd h.own0.rd h'.own0.rd q0 q1).mono (by
      rintro e w' ⟨rfl, m⟩
      exact ⟨rfl, nxt n m⟩)
    go_cut [31] (fun v wc => v = .bool false ∧ Below w7.heap.size w7 wc)
    case first =>
      clear T0 T5 oS oI A0 A1 N TO IM
      go_region_held3 (fun W => (W.cell? ⟨w4.heap.size, 0, none⟩ = some (.int .i64 L) ∧ W.cell? ⟨w4.heap.size, 1, none⟩ = some (.slice (some ⟨gA, 0, none⟩) X0.length X0.length) ∧ W.cell? ⟨w4.heap.size, 2, none⟩ = some (.slice (some ⟨gB, 0, none⟩) X1.length X1.length)) ∧ (W.cell? ⟨w.heap.size, 0, none⟩ = some (.int .i64 L) ∧ W.cell? ⟨w.heap.size, 1, none⟩ = some (.slice a0 X0.length c0) ∧ W.cell? ⟨w.heap.size, 2, none⟩ = some (.slice a1 X1.length c1)))
        (first | exact (unhide CY) _ b9 | exact (unhide CY) _ b8 | exact (unhide CY) _ nd)
        (first
          | (go_at_call 30; refine ((unhide TO2) _ nd).mono ?_; rintro r w8 ⟨⟨gC, gD, rfl, E0, E1⟩, b8⟩)
          | (go_at_call 32; refine ((unhide EQ) _ _ _ b8 E0 E1).mono ?_; rintro r w9 ⟨rfl, b9⟩)
          | fail)
      all_goals
        go_wp2_with fail
        go_meet
        exact ⟨rfl, b9⟩
    case rest =>
      obtain ⟨rfl, m8⟩ := hcut
      have z8 := m8.size
      replace N := nxt N m8
      replace T0 := T0.up m8
      replace T5 := T5.up m8
      replace oS := oS.up m8
      replace oI := oI.up m8
      replace A0 := A0.up m8
      replace A1 := A1.up m8
      clear m8 CY TO2 EQ nd
      go_upto_region 13 with fail
      have y0 := T5.c0
      have y1 := T5.c1
      have y2 := T5.c2
      go_wp2_with fail
      refine (markState_any wc L gA gB X0 X1 1 A0 A1 (by omega) q0 q1 (by decide) (by decide)).mono ?_
      rintro e w9 ⟨rfl, m9⟩
      have z9 := m9.size
      have lT0 := T0.lt
      replace T0 := T0.of_block (m9.block w.heap.size T0.lt (by omega) (by omega))
      replace oS := oS.bt2 m9 (fun h => by have := lS h; omega)
      replace oI := oI.bt2 m9 (fun h => by have := lI h; omega)
      replace N := N.trans (m9.below (B := w.heap.size) (by omega) (by omega) (by omega))
      clear m9 A0 A1 y0 y1 y2 T5
      go_wp2_with fail
      refine (eqByteS_same w9 _ _ _ _ _ _ ys oI.rd oS.rd hy).mono ?_
      rintro e w10 ⟨rfl, m10⟩
      have z10 := m10.size
      replace N := nxt N m10
      replace T0 := T0.up m10
      replace oS := oS.up m10
      replace oI := oI.up m10
      clear m10
      go_wp2_with fail
      refine (markByteS_any w10 _ _ _ ys 1 oI hy (by decide) (by decide)).mono ?_
      rintro e w11 ⟨rfl, oA, OA⟩
      replace N := N.trans (OA.below (B := w.heap.size) (by omega))
      replace oS := oS.only OA (fun h => by have := lS h; omega)
      replace T0 := T0.of_block (OA.block w.heap.size (by omega))
      have v2 : decide ((1 : Int) + (ys.length : Int) < 0) = false := by simp; omega
      clear oI OA
      go_wp2_with fail
      refine (heldByteS_any w11 _ _ _ ys.length 1 oA.rd hy (by decide) (by decide)).mono ?_
      rintro e w12 ⟨rfl, rfl⟩
      go_upto_region 24 with fail
      have x0 := T0.c0
      have x1 := T0.c1
      have x2 := T0.c2
      go_wp2_with fail
      refine (TO w12 N).out.mono ?_
      rintro e w13 ⟨⟨v13, rfl, hA, hB, rfl, D0, D1, t1, t2, t3⟩, m13⟩
      replace N := nxt N m13
      replace oS := oS.up m13
      replace oA := oA.up m13
      clear m13 x0 x1 x2 T0 t1 t2 t3
      go_wp2_with fail
      refine (IM w13 hA hB D0 D1 N).out.mono ?_
      rintro e w14 ⟨⟨aJ, cJ, gJ, rfl, oJ, pJ, kJ, rJ⟩, m14⟩
      replace N := nxt N m14
      replace oS := oS.up m14
      replace oA := oA.up m14
      clear m14 pJ kJ rJ
      go_wp2_with fail
      refine (eqByteS_same w14 _ _ _ _ _ _ ys oJ.rd oS.rd hy).mono ?_
      rintro e w15 ⟨rfl, m15⟩
      replace N := nxt N m15
      replace oA := oA.up m15
      clear m15
      go_wp2_with fail
      refine (heldByteS_any w15 _ _ _ ys.length 1 oA.rd hy (by decide) (by decide)).mono ?_
      rintro e w16 ⟨rfl, rfl⟩
      go_wp2
      go_ret
      exact ⟨rfl, N⟩
  · have u0 : ((1048576 : Int) < (X0.length : Int) + (X1.length : Int)) := by omega
    simp only [if_pos u0] at SZ
    clear u0 q
    go_enter Tryd.func10, Tryd.ntmps10
    go_upto_region 2 with fail
    generalize w.alloc (.cells #[.int .i64 L, .slice a0 X0.length c0, .slice a1 X1.length c1] 39) = wa at *
    have x0 := T0.c0
    have x1 := T0.c1
    have x2 := T0.c2
    go_wp2_with fail
    refine (SZ wa).out.mono ?_
    rintro e w1 ⟨rfl, m1⟩
    replace N := nxt N m1
    clear x0 x1 x2
    go_wp2
    go_ret
    exact ⟨rfl, N⟩
end Go.Proofs.YtljpjbojdekeiaaDoor

/-
  The law of HashMore (written by gens/lhsm.py).
-/
namespace Go.Proofs.YtljpjbojdekeiaaDoor
set_option maxRecDepth 100000
open Go Go.RowKit

theorem norm2 {w : World} {B D E g g' : Nat} {a a' : Option Addr} {ws rs : List Int} (o : Own w g a .u8 ws) (o' : Own w g' a' .u8 rs) (b : B ≤ g) (b' : B ≤ g') (q : 0 < ws.length → g < g') (e : 0 < ws.length → g < E) (e' : 0 < rs.length → g' < E) (hD : D < B) (hB : B ≤ w.heap.size) :
    ∃ (g g' : Nat), Own w g a .u8 ws ∧ Own w g' a' .u8 rs ∧ (g = D ∨ (B ≤ g ∧ g < E)) ∧ (g' = D ∨ (B ≤ g' ∧ g' < E)) ∧ g < w.heap.size ∧ g' < w.heap.size ∧ (g ≠ g' ∨ (ws.length = 0 ∧ rs.length = 0)) := by
  by_cases h1 : 0 < ws.length
  · by_cases h2 : 0 < rs.length
    · exact ⟨g, g', o, o', .inr ⟨b, e h1⟩, .inr ⟨b', e' h2⟩, o.rd.lt h1, o'.rd.lt h2, .inl (by have := q h1; omega)⟩
    · exact ⟨g, D, o, fun h => absurd h h2, .inr ⟨b, e h1⟩, .inl rfl, o.rd.lt h1, by omega, .inl (by omega)⟩
  · by_cases h2 : 0 < rs.length
    · exact ⟨D, g', fun h => absurd h h1, o', .inl rfl, .inr ⟨b', e' h2⟩, by omega, o'.rd.lt h2, .inl (by omega)⟩
    · exact ⟨D, D, fun h => absurd h h1, fun h => absurd h h2, .inl rfl, .inl rfl, by omega, by omega, .inr ⟨by omega, by omega⟩⟩
theorem laid_hmore {W : World} (h : laidMetH Tryd.prog Rows.fnExactHashMoreRow.laid W) : HasT W 1 kL := steps_of (reads_ofH h (by kernel_rfl) (.head _))
set_option maxHeartbeats 8000000 in
theorem hmore_law (w : World) (L : Int) (g0 : Nat) (a0 : Option Addr) (c0 : Nat) (X0 : List Int) (hX0 : Rd w g0 a0 .u8 X0) (bX0 : Byt X0) (l0 : X0.length < 9223372036854775808) (g1 : Nat) (a1 : Option Addr) (c1 : Nat) (X1 : List Int) (hX1 : Rd w g1 a1 .u8 X1) (bX1 : Byt X1) (l1 : X1.length < 9223372036854775808)
    (g2 : Nat) (a2 : Option Addr) (c2 : Nat) (X2 : List Int) (hX2 : Rd w g2 a2 .u8 X2) (bX2 : Byt X2) (hL : HasT w 1 kL) :
    Calls Tryd.prog 7 #[.agg #[.int .i64 L, .slice a0 X0.length c0, .slice a1 X1.length c1], .slice a2 X2.length c2] w fun e w' => e = .returned (.bool true) ∧ Below w.heap.size w w' := by
  have SZ := fun W => hide (szState_any W L a0 a1 X0.length c0 X1.length c1 1048576 l0 l1 (by decide) (by decide))
  have T0 := C3.new w (.int .i64 L) (.slice a0 X0.length c0) (.slice a1 X1.length c1) 39
  have N : Below w.heap.size w (w.alloc (.cells #[.int .i64 L, .slice a0 X0.length c0, .slice a1 X1.length c1] 39)) := (Below.refl _ _).alloc (Nat.le_refl _) _
  clear l0 l1
  by_cases q2 : X2.length ≤ 1048576
  · have u2 : decide ((1048576 : Int) < (X2.length : Int)) = false := by simp; omega
    by_cases q : X0.length + X1.length ≤ 1048576
    · have u0 : ¬ ((1048576 : Int) < (X0.length : Int) + (X1.length : Int)) := by omega
      have u1 : decide ((1048576 : Int) - (X0.length : Int) - (X1.length : Int) < 0) = false := by simp; omega
      simp only [if_neg u0] at SZ
      have q0 : X0.length ≤ 1048576 := by omega
      have q1 : X1.length ≤ 1048576 := by omega
      have lmw : (mW L X0 X1 X2).length ≤ 1048576 := Nat.le_trans (mW_len _ _ _ _) (by decide)
      have lmr : (mR L X0 X1 X2).length ≤ 1048576 := Nat.le_trans (mR_len _ _ _ _) (by decide)
      have SP := fun W g g' (h : Blk W g .u8 X0) (h' : Blk W g' .u8 X1) gx (hx : Blk W gx .u8 X2) => hide (specMore_any W L g _ X0.length X0 h.own0.rd bX0 g' (some ⟨g', 0, none⟩) X1.length X1 h'.own0.rd bX1 (by simp) gx (some ⟨gx, 0, none⟩) X2.length X2 hx.own0.rd bX2 (by simp) q2)
      have IM := fun W g g' (h : Blk W g .u8 X0) (h' : Blk W g' .u8 X1) gx (hx : Blk W gx .u8 X2) (n : Below w.heap.size w W) => hide (implMore_any W L g _ X0.length X0 h.own0.rd bX0 g' (some ⟨g', 0, none⟩) X1.length X1 h'.own0.rd bX1 (by simp) gx (some ⟨gx, 0, none⟩) X2.length X2 hx.own0.rd bX2 (Nat.le_refl _) q2 (hL.up n))
      have TO := fun W (n : Below w.heap.size w W) => hide (toState_any W L g0 g1 a0 a1 c0 c1 X0 X1 (hX0.up n) (hX1.up n) q0 q1)
      have v1 : decide ((1 : Int) + (X0.length : Int) + (X1.length : Int) + (X2.length : Int) < 0) = false := by simp; omega
      obtain ⟨ml, hml⟩ : ∃ x, x = mL L X0 X1 X2 := ⟨_, rfl⟩
      obtain ⟨mw, hmw⟩ : ∃ x, x = mW L X0 X1 X2 := ⟨_, rfl⟩
      obtain ⟨mr, hmr⟩ : ∃ x, x = mR L X0 X1 X2 := ⟨_, rfl⟩
      simp only [← hml, ← hmw, ← hmr] at SP IM lmw lmr
      have v2 : decide ((1 : Int) + (mw.length : Int) + (mr.length : Int) < 0) = false := by simp; omega
      clear hml hmw hmr u0 q hL hX0 hX1
      go_enter Tryd.func7, Tryd.ntmps7
      go_upto_region 1 with fail
      generalize w.alloc (.cells #[.int .i64 L, .slice a0 X0.length c0, .slice a1 X1.length c1] 39) = wa at *
      have lT0 := T0.lt
      have x0 := T0.c0
      have x1 := T0.c1
      have x2 := T0.c2
      go_wp2_with fail
      refine (SZ wa).out.mono ?_
      rintro e w1 ⟨rfl, m1⟩
      clear x0 x1 x2
      have zm1 := m1.size
      replace T0 := T0.up m1
      replace N := nxt N m1
      clear m1
      clear SZ
      go_upto_region 7 with fail
      have x0 := T0.c0
      have x1 := T0.c1
      have x2 := T0.c2
      go_wp2_with fail
      refine (TO w1 N).out.mono ?_
      rintro e w2 ⟨⟨vgA, rfl, gA, gB, rfl, A0, A1, rgA, sgA, tgA⟩, m2⟩
      have zm2 := m2.size
      replace T0 := T0.up m2
      replace N := nxt N m2
      clear m2
      clear x0 x1 x2
      go_wp2_with fail
      refine (toByteS_any w2 g2 a2 c2 X2 (hX2.up N) q2).mono ?_
      rintro e w3 ⟨rfl, AX, m3⟩
      have lAX := AX.lt
      have zm3 := m3.size
      replace T0 := T0.up m3
      replace A0 := A0.up m3
      replace A1 := A1.up m3
      replace N := nxt N m3
      clear m3
      go_wp2_with fail
      refine (SP w3 gA gB A0 A1 _ AX).out.mono ?_
      rintro e w4 ⟨⟨vS, rfl, aS, aS', cS, cS', gS, gS', rfl, oSW, oSR, pS, pS', kS, kS', rS, rS'⟩, m4⟩
      have lS := oSW.rd.lt
      have lS' := oSR.rd.lt
      have zm4 := m4.size
      replace T0 := T0.up m4
      replace A0 := A0.up m4
      replace A1 := A1.up m4
      replace AX := AX.up m4
      replace N := nxt N m4
      clear m4
      clear A0 A1 AX
      clear SP pS pS' kS kS' rS rS' rgA sgA tgA
      have T6 := C3.new w4 (.int .i64 ml) (.slice aS mw.length cS) (.slice aS' mr.length cS') 26
      have m5 : Below w4.heap.size w4 (w4.alloc (.cells #[.int .i64 ml, .slice aS mw.length cS, .slice aS' mr.length cS'] 26)) := (Below.refl _ _).alloc (Nat.le_refl _) _
      go_upto_region 8 with fail
      generalize w4.alloc (.cells #[.int .i64 ml, .slice aS mw.length cS, .slice aS' mr.length cS'] 26) = w5 at *
      have lT6 := T6.lt
      have zm5 := m5.size
      replace T0 := T0.up m5
      replace oSW := oSW.up m5
      replace oSR := oSR.up m5
      replace N := nxt N m5
      clear m5
      have x0 := T0.c0
      have x1 := T0.c1
      have x2 := T0.c2
      go_wp2_with fail
      refine (TO w5 N).out.mono ?_
      rintro e w6 ⟨⟨vgA, rfl, gA, gB, rfl, B0, B1, rgA, sgA, tgA⟩, m6⟩
      have zm6 := m6.size
      replace T0 := T0.up m6
      replace oSW := oSW.up m6
      replace oSR := oSR.up m6
      replace T6 := T6.up m6
      replace N := nxt N m6
      clear m6
      clear x0 x1 x2
      have T7 := C3.new w6 (.int .i64 L) (.slice (some ⟨gA, 0, none⟩) X0.length X0.length) (.slice (some ⟨gB, 0, none⟩) X1.length X1.length) 26
      have m7 : Below w6.heap.size w6 (w6.alloc (.cells #[.int .i64 L, .slice (some ⟨gA, 0, none⟩) X0.length X0.length, .slice (some ⟨gB, 0, none⟩) X1.length X1.length] 26)) := (Below.refl _ _).alloc (Nat.le_refl _) _
      go_upto_region 9 with fail
      generalize w6.alloc (.cells #[.int .i64 L, .slice (some ⟨gA, 0, none⟩) X0.length X0.length, .slice (some ⟨gB, 0, none⟩) X1.length X1.length] 26) = w7 at *
      have lT7 := T7.lt
      have zm7 := m7.size
      replace T0 := T0.up m7
      replace oSW := oSW.up m7
      replace oSR := oSR.up m7
      replace T6 := T6.up m7
      replace B0 := B0.up m7
      replace B1 := B1.up m7
      replace N := nxt N m7
      clear m7
      go_wp2_with fail
      refine (toByteS_any w7 g2 a2 c2 X2 (hX2.up N) q2).mono ?_
      rintro e w8 ⟨rfl, BX, m8⟩
      have lBX := BX.lt
      have zm8 := m8.size
      replace T0 := T0.up m8
      replace oSW := oSW.up m8
      replace oSR := oSR.up m8
      replace T6 := T6.up m8
      replace B0 := B0.up m8
      replace B1 := B1.up m8
      replace T7 := T7.up m8
      replace N := nxt N m8
      clear m8
      go_upto_region 10 with fail
      have y0 := T7.c0
      have y1 := T7.c1
      have y2 := T7.c2
      go_wp2_with fail
      refine (IM w8 gA gB B0 B1 _ BX N).out.mono ?_
      rintro e w9 ⟨⟨vI, rfl, hI⟩, m9⟩
      obtain ⟨aI, aI', cI, cI', gI, gI', rfl, oIW, oIR, rI, rI', sI, kI, kI'⟩ := hI
      have lI := oIW.rd.lt
      have lI' := oIR.rd.lt
      clear y0 y1 y2
      have zm9 := m9.size
      replace T0 := T0.up m9
      replace oSW := oSW.up m9
      replace oSR := oSR.up m9
      replace T6 := T6.up m9
      replace B0 := B0.up m9
      replace B1 := B1.up m9
      replace T7 := T7.up m9
      replace BX := BX.up m9
      replace N := nxt N m9
      clear m9
      have T9 := C3.new w9 (.int .i64 ml) (.slice aI mw.length cI) (.slice aI' mr.length cI') 26
      have m10 : Below w9.heap.size w9 (w9.alloc (.cells #[.int .i64 ml, .slice aI mw.length cI, .slice aI' mr.length cI'] 26)) := (Below.refl _ _).alloc (Nat.le_refl _) _
      go_upto_region 11 with fail
      generalize w9.alloc (.cells #[.int .i64 ml, .slice aI mw.length cI, .slice aI' mr.length cI'] 26) = w10 at *
      have lT9 := T9.lt
      have zm10 := m10.size
      replace T0 := T0.up m10
      replace oSW := oSW.up m10
      replace oSR := oSR.up m10
      replace T6 := T6.up m10
      replace B0 := B0.up m10
      replace B1 := B1.up m10
      replace T7 := T7.up m10
      replace BX := BX.up m10
      replace oIW := oIW.up m10
      replace oIR := oIR.up m10
      replace N := nxt N m10
      clear m10
      have x0 := T9.c0
      have x1 := T9.c1
      have x2 := T9.c2
      have y0 := T6.c0
      have y1 := T6.c1
      have y2 := T6.c2
      go_wp2_with fail
      refine (eqState_same w10 ml _ _ _ _ _ _ _ _ _ _ _ _ mw mr oIW.rd oIR.rd oSW.rd oSR.rd lmw lmr).mono ?_
      rintro e w11 ⟨rfl, m11⟩
      have zm11 := m11.size
      replace T0 := T0.up m11
      replace oSW := oSW.up m11
      replace oSR := oSR.up m11
      replace T6 := T6.up m11
      replace B0 := B0.up m11
      replace B1 := B1.up m11
      replace T7 := T7.up m11
      replace BX := BX.up m11
      replace oIW := oIW.up m11
      replace oIR := oIR.up m11
      replace T9 := T9.up m11
      replace N := nxt N m11
      clear m11
      clear x0 x1 x2 y0 y1 y2
      go_upto_region 13 with fail
      have nd : Below w11.heap.size w11 w11.drew := (Below.refl _ _).drew
      have CY : Hid (∀ W, Below w11.heap.size w11 W → (W.cell? ⟨w6.heap.size, 0, none⟩ = some (.int .i64 L) ∧ W.cell? ⟨w6.heap.size, 1, none⟩ = some (.slice (some ⟨gA, 0, none⟩) X0.length X0.length) ∧ W.cell? ⟨w6.heap.size, 2, none⟩ = some (.slice (some ⟨gB, 0, none⟩) X1.length X1.length)) ∧ (W.cell? ⟨w.heap.size, 0, none⟩ = some (.int .i64 L) ∧ W.cell? ⟨w.heap.size, 1, none⟩ = some (.slice a0 X0.length c0) ∧ W.cell? ⟨w.heap.size, 2, none⟩ = some (.slice a1 X1.length c1))) := fun W n => ⟨⟨(T7.up n).c0, (T7.up n).c1, (T7.up n).c2⟩, ⟨(T0.up n).c0, (T0.up n).c1, (T0.up n).c2⟩⟩
      have TO2 : Hid (∀ W, Below w11.heap.size w11 W → Calls Tryd.prog 30 #[.agg #[.int .i64 L, .slice a0 X0.length c0, .slice a1 X1.length c1]] W fun e w' => (∃ gC gD, e = .returned (.agg #[.int .i64 L, .slice (some ⟨gC, 0, none⟩) X0.length X0.length, .slice (some ⟨gD, 0, none⟩) X1.length X1.length]) ∧ Blk w' gC .u8 X0 ∧ Blk w' gD .u8 X1) ∧ Below w11.heap.size w11 w') := fun W n => (TO W (nxt N n)).out.mono (by
        rintro e w' ⟨⟨v4, rfl, gA, gB, rfl, A0, A1, r1, r2, r3⟩, m4⟩
        exact ⟨⟨gA, gB, rfl, A0, A1⟩, nxt n m4⟩)
      have EQ : Hid (∀ W gC gD, Below w11.heap.size w11 W → Blk W gC .u8 X0 → Blk W gD .u8 X1 → Calls Tryd.prog 32 #[.agg #[.int .i64 L, .slice (some ⟨gA, 0, none⟩) X0.length X0.length, .slice (some ⟨gB, 0, none⟩) X1.length X1.length], .agg #[.int .i64 L, .slice (some ⟨gC, 0, none⟩) X0.length X0.length, .slice (some ⟨gD, 0, none⟩) X1.length X1.length]] W fun e w' => e = .returned (.bool true) ∧ Below w11.heap.size w11 w') := fun W gC gD n h h' => (eqState_same W L _ _ _ _ _ _ _ _ _ _ _ _ X0 X1 (B0.up n).own0.rd (B1.up n).own0.rd h.own0.rd h'.own0.rd q0 q1).mono (by
        rintro e w' ⟨rfl, m⟩
        exact ⟨rfl, nxt n m⟩)
      go_cut [42] (fun v wc => v = .bool false ∧ Below w11.heap.size w11 wc)
      case first =>
        clear T0 oSW oSR T6 B0 B1 T7 BX oIW oIR T9 N TO IM
        go_region_held3 (fun W => (W.cell? ⟨w6.heap.size, 0, none⟩ = some (.int .i64 L) ∧ W.cell? ⟨w6.heap.size, 1, none⟩ = some (.slice (some ⟨gA, 0, none⟩) X0.length X0.length) ∧ W.cell? ⟨w6.heap.size, 2, none⟩ = some (.slice (some ⟨gB, 0, none⟩) X1.length X1.length)) ∧ (W.cell? ⟨w.heap.size, 0, none⟩ = some (.int .i64 L) ∧ W.cell? ⟨w.heap.size, 1, none⟩ = some (.slice a0 X0.length c0) ∧ W.cell? ⟨w.heap.size, 2, none⟩ = some (.slice a1 X1.length c1)))
          (first | exact (unhide CY) _ bq9 | exact (unhide CY) _ bq8 | exact (unhide CY) _ nd)
          (first
            | (go_at_call 30; refine ((unhide TO2) _ nd).mono ?_; rintro r wq8 ⟨⟨gC, gD, rfl, E0, E1⟩, bq8⟩)
            | (go_at_call 32; refine ((unhide EQ) _ _ _ bq8 E0 E1).mono ?_; rintro r wq9 ⟨rfl, bq9⟩)
            | fail)
        all_goals
          go_wp2_with fail
          go_meet
          exact ⟨rfl, bq9⟩
      case rest =>
        obtain ⟨rfl, mc⟩ := hcut
        clear CY TO2 EQ nd
        have zmc := mc.size
        replace T0 := T0.up mc
        replace oSW := oSW.up mc
        replace oSR := oSR.up mc
        replace T6 := T6.up mc
        replace B0 := B0.up mc
        replace B1 := B1.up mc
        replace T7 := T7.up mc
        replace BX := BX.up mc
        replace oIW := oIW.up mc
        replace oIR := oIR.up mc
        replace T9 := T9.up mc
        replace N := nxt N mc
        clear mc
        go_upto_region 15 with fail
        go_wp2_with fail
        refine (toByteS_any wc g2 a2 c2 X2 (hX2.up N) q2).mono ?_
        rintro e w12 ⟨rfl, EX, m12⟩
        have lEX := EX.lt
        have zm12 := m12.size
        replace T0 := T0.up m12
        replace oSW := oSW.up m12
        replace oSR := oSR.up m12
        replace T6 := T6.up m12
        replace B0 := B0.up m12
        replace B1 := B1.up m12
        replace T7 := T7.up m12
        replace BX := BX.up m12
        replace oIW := oIW.up m12
        replace oIR := oIR.up m12
        replace T9 := T9.up m12
        replace N := nxt N m12
        clear m12
        go_wp2_with fail
        refine (eqByteS_same w12 _ _ _ _ _ _ X2 BX.own0.rd EX.own0.rd q2).mono ?_
        rintro e w13 ⟨rfl, m13⟩
        have zm13 := m13.size
        replace T0 := T0.up m13
        replace oSW := oSW.up m13
        replace oSR := oSR.up m13
        replace T6 := T6.up m13
        replace B0 := B0.up m13
        replace B1 := B1.up m13
        replace T7 := T7.up m13
        replace BX := BX.up m13
        replace oIW := oIW.up m13
        replace oIR := oIR.up m13
        replace T9 := T9.up m13
        replace EX := EX.up m13
        replace N := nxt N m13
        clear m13
        clear EX
        go_upto_region 18 with fail
        have y0 := T7.c0
        have y1 := T7.c1
        have y2 := T7.c2
        go_wp2_with fail
        refine (markState_any w13 L gA gB X0 X1 1 B0 B1 (by omega) q0 q1 (by decide) (by decide)).mono ?_
        rintro e w14 ⟨rfl, m14⟩
        have zm14 := m14.size
        clear y0 y1 y2
        replace T0 := T0.of_block (m14.block w.heap.size (by omega) (by omega) (by omega))
        replace T6 := T6.of_block (m14.block w4.heap.size (by omega) (by omega) (by omega))
        replace T9 := T9.of_block (m14.block w9.heap.size (by omega) (by omega) (by omega))
        replace oSW := oSW.bt2 m14 (fun h => by have := lS h; omega)
        replace oSR := oSR.bt2 m14 (fun h => by have := lS' h; omega)
        replace oIW := oIW.bt2 m14 (fun h => by omega)
        replace oIR := oIR.bt2 m14 (fun h => by omega)
        replace BX := BX.of_block (m14.block w7.heap.size (by omega) (by omega) (by omega))
        replace N := N.trans (m14.below (B := w.heap.size) (by omega) (by omega) (by omega))
        clear m14 B0 B1 T7
        go_wp2_with fail
        refine (markByteS_any w14 _ _ _ X2 (1 + (X0.length : Int) + (X1.length : Int)) BX.own0 q2 (by omega) (by omega)).mono ?_
        rintro e w15 ⟨rfl, _, OX⟩
        have zOX := OX.size
        replace T0 := T0.of_block (OX.block w.heap.size (by omega))
        replace oSW := oSW.only OX (fun h => by have := lS h; omega)
        replace oSR := oSR.only OX (fun h => by have := lS' h; omega)
        replace T6 := T6.of_block (OX.block w4.heap.size (by omega))
        replace oIW := oIW.only OX (fun h => by omega)
        replace oIR := oIR.only OX (fun h => by omega)
        replace T9 := T9.of_block (OX.block w9.heap.size (by omega))
        replace N := N.trans (OX.below (B := w.heap.size) (by omega))
        clear OX BX
        go_upto_region 20 with fail
        have x0 := T9.c0
        have x1 := T9.c1
        have x2 := T9.c2
        have y0 := T6.c0
        have y1 := T6.c1
        have y2 := T6.c2
        go_wp2_with fail
        refine (eqState_same w15 ml _ _ _ _ _ _ _ _ _ _ _ _ mw mr oIW.rd oIR.rd oSW.rd oSR.rd lmw lmr).mono ?_
        rintro e w16 ⟨rfl, m16⟩
        have zm16 := m16.size
        replace T0 := T0.up m16
        replace oSW := oSW.up m16
        replace oSR := oSR.up m16
        replace T6 := T6.up m16
        replace oIW := oIW.up m16
        replace oIR := oIR.up m16
        replace T9 := T9.up m16
        replace N := nxt N m16
        clear m16
        clear x0 x1 x2 y0 y1 y2
        go_upto_region 23 with fail
        have x0 := T9.c0
        have x1 := T9.c1
        have x2 := T9.c2
        obtain ⟨jI, jI', oJW, oJR, uI, uI', vI, vI', hI⟩ := norm2 (D := gA) oIW oIR rI rI' sI lI lI' (by omega) (by omega)
        clear oIW oIR lI lI' rI rI' sI kI kI'
        go_wp2_with fail
        refine (markState_own w16 ml jI jI' _ _ _ _ mw mr 1 oJW oJR hI vI vI' lmw lmr (by decide) (by decide)).mono ?_
        rintro e w17 ⟨rfl, oA, oB, m17⟩
        have zm17 := m17.size
        clear x0 x1 x2
        replace T0 := T0.of_block (m17.block w.heap.size (by omega) (by omega) (by omega))
        replace T6 := T6.of_block (m17.block w4.heap.size (by omega) (by omega) (by omega))
        replace T9 := T9.of_block (m17.block w9.heap.size (by omega) (by omega) (by omega))
        replace oSW := oSW.bt2 m17 (fun h => by have := lS h; omega)
        replace oSR := oSR.bt2 m17 (fun h => by have := lS' h; omega)
        replace N := N.trans (m17.below (B := w.heap.size) (by omega) (by omega) (by omega))
        clear m17 oJW oJR vI vI' hI
        go_upto_region 25 with fail
        have x0 := T9.c0
        have x1 := T9.c1
        have x2 := T9.c2
        go_wp2_with fail
        refine (heldState_any w17 ml _ _ _ _ _ _ mw.length mr.length 1 oA.rd oB.rd lmw lmr (by decide) (by decide)).mono ?_
        rintro e w18 ⟨rfl, m18⟩
        have zm18 := m18.size
        replace T0 := T0.up m18
        replace oSW := oSW.up m18
        replace oSR := oSR.up m18
        replace T6 := T6.up m18
        replace T9 := T9.up m18
        replace oA := oA.up m18
        replace oB := oB.up m18
        replace N := nxt N m18
        clear m18
        clear x0 x1 x2
        go_upto_region 30 with fail
        have x0 := T0.c0
        have x1 := T0.c1
        have x2 := T0.c2
        go_wp2_with fail
        refine (TO w18 N).out.mono ?_
        rintro e w19 ⟨⟨vhA, rfl, hA, hB, rfl, D0, D1, rhA, shA, thA⟩, m19⟩
        have zm19 := m19.size
        replace T0 := T0.up m19
        replace oSW := oSW.up m19
        replace oSR := oSR.up m19
        replace T6 := T6.up m19
        replace T9 := T9.up m19
        replace oA := oA.up m19
        replace oB := oB.up m19
        replace N := nxt N m19
        clear m19
        clear x0 x1 x2
        clear T0
        clear rhA shA thA
        go_wp2_with fail
        refine (toByteS_any w19 g2 a2 c2 X2 (hX2.up N) q2).mono ?_
        rintro e w20 ⟨rfl, DX, m20⟩
        have lDX := DX.lt
        have zm20 := m20.size
        replace oSW := oSW.up m20
        replace oSR := oSR.up m20
        replace T6 := T6.up m20
        replace T9 := T9.up m20
        replace oA := oA.up m20
        replace oB := oB.up m20
        replace D0 := D0.up m20
        replace D1 := D1.up m20
        replace N := nxt N m20
        clear m20
        go_wp2_with fail
        refine (IM w20 hA hB D0 D1 _ DX N).out.mono ?_
        rintro e w21 ⟨⟨vJ, rfl, hJ⟩, m21⟩
        obtain ⟨aJ, aJ', cJ, cJ', gJ, gJ', rfl, oJW, oJR, rJ, rJ', sJ, kJ, kJ'⟩ := hJ
        have zm21 := m21.size
        replace oSW := oSW.up m21
        replace oSR := oSR.up m21
        replace T6 := T6.up m21
        replace T9 := T9.up m21
        replace oA := oA.up m21
        replace oB := oB.up m21
        replace D0 := D0.up m21
        replace D1 := D1.up m21
        replace DX := DX.up m21
        replace N := nxt N m21
        clear m21
        clear D0 D1 DX
        clear rJ rJ' sJ kJ kJ'
        have T13 := C3.new w21 (.int .i64 ml) (.slice aJ mw.length cJ) (.slice aJ' mr.length cJ') 26
        have m22 : Below w21.heap.size w21 (w21.alloc (.cells #[.int .i64 ml, .slice aJ mw.length cJ, .slice aJ' mr.length cJ'] 26)) := (Below.refl _ _).alloc (Nat.le_refl _) _
        go_upto_region 31 with fail
        generalize w21.alloc (.cells #[.int .i64 ml, .slice aJ mw.length cJ, .slice aJ' mr.length cJ'] 26) = w22 at *
        have lT13 := T13.lt
        have zm22 := m22.size
        replace oSW := oSW.up m22
        replace oSR := oSR.up m22
        replace T6 := T6.up m22
        replace T9 := T9.up m22
        replace oA := oA.up m22
        replace oB := oB.up m22
        replace oJW := oJW.up m22
        replace oJR := oJR.up m22
        replace N := nxt N m22
        clear m22
        have x0 := T13.c0
        have x1 := T13.c1
        have x2 := T13.c2
        have y0 := T6.c0
        have y1 := T6.c1
        have y2 := T6.c2
        go_wp2_with fail
        refine (eqState_same w22 ml _ _ _ _ _ _ _ _ _ _ _ _ mw mr oJW.rd oJR.rd oSW.rd oSR.rd lmw lmr).mono ?_
        rintro e w23 ⟨rfl, m23⟩
        have zm23 := m23.size
        replace oSW := oSW.up m23
        replace oSR := oSR.up m23
        replace T6 := T6.up m23
        replace T9 := T9.up m23
        replace oA := oA.up m23
        replace oB := oB.up m23
        replace oJW := oJW.up m23
        replace oJR := oJR.up m23
        replace T13 := T13.up m23
        replace N := nxt N m23
        clear m23
        clear x0 x1 x2 y0 y1 y2
        go_upto_region 34 with fail
        have x0 := T9.c0
        have x1 := T9.c1
        have x2 := T9.c2
        go_wp2_with fail
        refine (heldState_any w23 ml _ _ _ _ _ _ mw.length mr.length 1 oA.rd oB.rd lmw lmr (by decide) (by decide)).mono ?_
        rintro e w24 ⟨rfl, m24⟩
        have zm24 := m24.size
        replace oSW := oSW.up m24
        replace oSR := oSR.up m24
        replace T6 := T6.up m24
        replace T9 := T9.up m24
        replace oA := oA.up m24
        replace oB := oB.up m24
        replace oJW := oJW.up m24
        replace oJR := oJR.up m24
        replace T13 := T13.up m24
        replace N := nxt N m24
        clear m24
        clear x0 x1 x2
        go_wp2
        go_ret
        exact ⟨rfl, N⟩
    · have u0 : ((1048576 : Int) < (X0.length : Int) + (X1.length : Int)) := by omega
      simp only [if_pos u0] at SZ
      clear u0 q
      go_enter Tryd.func7, Tryd.ntmps7
      go_upto_region 1 with fail
      generalize w.alloc (.cells #[.int .i64 L, .slice a0 X0.length c0, .slice a1 X1.length c1] 39) = wa at *
      have x0 := T0.c0
      have x1 := T0.c1
      have x2 := T0.c2
      go_wp2_with fail
      refine (SZ wa).out.mono ?_
      rintro e w1 ⟨rfl, m1⟩
      replace N := nxt N m1
      clear x0 x1 x2
      go_wp2
      go_ret
      exact ⟨rfl, N⟩
  · have u2 : decide ((1048576 : Int) < (X2.length : Int)) = true := by simp; omega
    go_enter Tryd.func7, Tryd.ntmps7
    go_wp2
    go_ret
    exact ⟨rfl, N⟩
end Go.Proofs.YtljpjbojdekeiaaDoor
