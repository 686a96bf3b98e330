
/-
  More is handed in to a good hash state.
-/
import Derived.Test.YtljpjbojdekeiaaDoorHr32
namespace Go.Proofs.YtljpjbojdekeiaaDoor
set_option maxRecDepth 100000
open Go Go.RowKit

theorem S8.ext_l {C D : S8} (h : C.l = D.l) : C = D := by
  cases C
  cases D
  simp only [S8.l, List.cons.injEq, and_true] at h
  obtain ⟨rfl, rfl, rfl, rfl, rfl, rfl, rfl, rfl⟩ := h
  rfl
set_option maxRecDepth 20000 in
set_option maxHeartbeats 8000000 in
theorem implMore_32 (w : World) (L : Nat) (gw : Nat) (aw : Option Addr) (cw : Nat) (W : List Int) (hW : Rd w gw aw .u8 W) (bW : Byt W) (gr : Nat) (ar : Option Addr) (cr : Nat) (R : List Int) (hR : Rd w gr ar .u8 R) (bR : Byt R) (kR : ar = none → cr = 0)
    (hl : W.length = 32) (hr : R.length = L % 64) (g : Nat) (a : Option Addr) (c : Nat) (xs : List Int) (hd : Rd w g a .u8 xs) (hx : Byt xs) (hc : xs.length ≤ c) (hn : L + xs.length ≤ 1099511627776) (hT : HasT w 1 kL) (C : S8) (hCw : ∀ j, j < 8 → C.l.getD j 0 = wd 4 W j) (hC : Ok32 C) :
    Calls Tryd.prog 17 #[.agg #[.int .i64 (L : Int), .slice aw W.length cw, .slice ar R.length cr], .slice a xs.length c] w fun e w' => (∃ v, e = .returned v ∧ ST3 w' v w.heap.size ((L + xs.length : Nat) : Int) (tell32 (whole32 C (R ++ xs))) (left32 (R ++ xs))) ∧ Below w.heap.size w w' := by
  obtain ⟨tw, htw⟩ : ∃ l, l = tell32 (whole32 C (R ++ xs)) := ⟨_, rfl⟩
  obtain ⟨tr, htr⟩ : ∃ l, l = left32 (R ++ xs) := ⟨_, rfl⟩
  obtain ⟨LN, hLN⟩ : ∃ n : Int, n = ((L + xs.length : Nat) : Int) := ⟨_, rfl⟩
  rw [← htw, ← htr, ← hLN]
  have HTW := hide htw
  have HTR := hide htr
  have HLN := hide hLN
  clear htw htr hLN
  obtain ⟨d3, hd3, hrow3⟩ := rowSt
  obtain ⟨d, hd', hrow⟩ := rowH_32
  have gl : 1 < w.heap.size := block_lt_of_cell (hT 0 (by decide))
  have gx : 0 < xs.length → g < w.heap.size := fun h => hd.lt h
  have RH := hide (fun V (hw : Below w.heap.size w V) => readHash_32 V (L : Int) gw aw cw W (hW.up hw) bW gr ar cr R (hR.up hw) kR (by omega) (by omega) hl (by omega))
  have l8 : (R ++ List.replicate (128 - R.length) 0).length = 128 := by rw [List.length_append, List.length_replicate]; omega
  have b8 : Byt (R ++ List.replicate (128 - R.length) 0) := byt_apd bR (byt_rep0 _)
  have tk : (R ++ List.replicate (128 - R.length) 0).take (L % 64) = R := by rw [← hr]; exact List.take_left
  have T0 := C3.new w (.int .i64 (L : Int)) (.slice aw W.length cw) (.slice ar R.length cr) 26
  have m0 : Below w.heap.size w (w.alloc (.cells #[.int .i64 (L : Int), .slice aw W.length cw, .slice ar R.length cr] 26)) := (Below.refl _ _).alloc (Nat.le_refl _) _
  have z0 : (w.alloc (.cells #[.int .i64 (L : Int), .slice aw W.length cw, .slice ar R.length cr] 26)).heap.size = w.heap.size + 1 := by simp
  have L8 := hide l8
  have TKk := hide tk
  clear hl hr l8 tk
  go_enter Tryd.func17, Tryd.ntmps17
  go_upto_region 1 with fail
  generalize w.alloc (.cells #[.int .i64 (L : Int), .slice aw W.length cw, .slice ar R.length cr] 26) = wa at *
  have m1 : Below wa.heap.size wa (wa.alloc (.cells #[.int .i64 0, .slice none 0 0, .slice none 0 0] 26)) := (Below.refl _ _).alloc (Nat.le_refl _) _
  have TH : (wa.alloc (.cells #[.int .i64 0, .slice none 0 0, .slice none 0 0] 26)).there wa.heap.size 0 3 := there3 (x := .int .i64 0) (y := .slice none 0 0) (z := .slice none 0 0) (t := 26) (by show (wa.heap.push _)[wa.heap.size]? = _; simp)
  have z1 : (wa.alloc (.cells #[.int .i64 0, .slice none 0 0, .slice none 0 0] 26)).heap.size = wa.heap.size + 1 := by simp
  generalize wa.alloc (.cells #[.int .i64 0, .slice none 0 0, .slice none 0 0] 26) = wb at *
  have N := nxt m0 m1
  replace T0 := T0.up m1
  rw [z0] at TH z1
  have Z1 := hide z1
  clear m0 m1 z0 z1
  have q0 := T0.c0
  have q1 := T0.c1
  have q2 := T0.c2
  go_wp2_with fail
  refine (RH.out wb N).mono ?_
  rintro e w1 ⟨n1, C', rfl, hC'⟩
  obtain rfl : C' = C := S8.ext_l (eq_of_getD rfl (fun i hi => (hC' i hi).trans (hCw i hi).symm))
  have y1 := n1.size
  have HZ := HB.zero32 w1
  have TH1 := HZ.there
  have na : Below w1.heap.size w1 (w1.alloc zH32) := (Below.refl _ _).alloc (Nat.le_refl _) _
  have L1 := hide (hcl_len .u32 (L : Int) C' L8.out)
  have O1 := hcl_one .u32 (L : Int) C' (R ++ List.replicate (128 - R.length) 0)
  have HO : Hid (∀ V q, V.rangeAt q 0 (hcl .u32 (L : Int) C' (R ++ List.replicate (128 - R.length) 0)) → V.there q 0 137 → HB .u32 V q (L : Int) C' (R ++ List.replicate (128 - R.length) 0)) := fun V q h1 h2 => HB.of_range L8.out h1 h2
  generalize hcl .u32 (L : Int) C' (R ++ List.replicate (128 - R.length) 0) = vs at *
  have sm := World.rangeAt_setCells_same (w1.alloc zH32) w1.heap.size 0 vs (by rw [L1.out]; exact TH1)
  have th2 := World.there_setCells TH1 w1.heap.size 0 vs
  have O2 := only_setCells (w1.alloc zH32) w1.heap.size vs 0
  have H2 := HO.out _ _ sm th2
  have n2 : Below wb.heap.size wb ((w1.alloc zH32).setCells w1.heap.size 0 vs) := (nxt n1 na).trans (O2.below (by omega))
  have lq := hide (show w.heap.size + 1 < w1.heap.size by have := Z1.out; omega)
  clear q0 q1 q2 hC' RH HO sm O2 HZ
  go_upto_region 2 with (refine wpList_store_mid rfl 63 (.tmp 5) (.tmp 10) rfl w1.heap.size 0 vs.toArray rfl rfl ?hth ?hin ?hon ?_)
  case hth => exact (show (w1.alloc zH32).there w1.heap.size 0 vs.length by rw [L1.out]; exact TH1)
  case hin => show _ = some vs.length; rw [L1.out]; exact infoH_32
  case hon => exact O1
  change Code.wp _ _ _ _ ((w1.alloc zH32).setCells w1.heap.size 0 vs)
  generalize (w1.alloc zH32).setCells w1.heap.size 0 vs = w2 at *
  have N2 := nxt N n2
  replace T0 := T0.up n2
  have TH2 := there_upn (by omega) TH n2
  have q0 := T0.c0
  have hn1 : (xs.length : Int) ≤ 1099511627776 := by omega
  have tg : decide (1099511627776 - (xs.length : Int) < (L : Int)) = false := by simp; omega
  have TK := take_32 w2 w1.heap.size L C' (R ++ List.replicate (128 - R.length) 0) H2 hC b8 g a c xs (hd.up N2) hx hc (fun h => by have := gx h; have := lq.out; omega) (by omega) (hT.up N2) (by have := lq.out; omega)
  rw [TKk.out] at TK
  have TKH := hide TK
  have lw := hide (show w1.heap.size < w2.heap.size from H2.lt)
  clear TK H2 th2 TH1 na n2 n1 TH T0
  go_wp2_with fail
  refine TKH.out.mono ?_
  rintro r w3 ⟨rfl, R3, H3, b3, e3, B3⟩
  have N3 : Below w.heap.size w w3 := N2.trans (B3.below (by have := lq.out; omega) N2.size)
  have hb3 := B3.block (w.heap.size + 1) (by have := lq.out; have := lw.out; omega) (by have := lq.out; omega)
  have TH3 : w3.there (w.heap.size + 1) 0 3 := fun j hj => by
    have := TH2 j hj
    exact ⟨by rw [World.cell?_of_block (a := ⟨w.heap.size + 1, 0 + j, none⟩) hb3]; exact this.1, by rw [World.frozen?_of_block (a := ⟨w.heap.size + 1, 0 + j, none⟩) hb3]; exact this.2⟩
  have RG := H3.range
  have l3 := hide H3.lt
  have L3 := hide (hcl_len .u32 ((L + xs.length : Nat) : Int) (whole32 C' (R ++ xs)) H3.len)
  have TD := told_32 w3 (L + xs.length) (whole32 C' (R ++ xs)) R3 H3.len (whole_ok32 hC (R ++ xs)) hn
  rw [e3] at TD
  rw [← HTW.out, ← HTR.out] at TD
  generalize hcl .u32 ((L + xs.length : Nat) : Int) (whole32 C' (R ++ xs)) R3 = v3 at *
  rw [← HLN.out] at TD
  have TDH := hide TD
  clear TD TKH H3 b3 e3 B3 N2 TH2 q0 tg hn1 hn hb3
  have y3 := N3.size
  go_wp2_with (refine wpList_load_mid rfl 63 (.tmp 5) rfl w1.heap.size 0 rfl v3 d RG hd' hrow (by rw [L3.out]; exact infoH_32) ?_)
  refine TDH.out.mono ?_
  rintro r w4 ⟨⟨v, rfl, a1, a2, c1, c2, g1, g2, rfl, o1, o2, p1, p2, q1, q2, r1, r2⟩, n4⟩
  have N4 := nxt N3 n4
  have th := there_upn (by omega) TH3 n4
  have RR := World.rangeAt_setCells_same w4 (w.heap.size + 1) 0 [.int .i64 LN, .slice a1 tw.length c1, .slice a2 tr.length c2] th
  have OQ := only_setCells w4 (w.heap.size + 1) [.int .i64 LN, .slice a1 tw.length c1, .slice a2 tr.length c2] 0
  have N5 : Below w.heap.size w (w4.setCells (w.heap.size + 1) 0 [.int .i64 LN, .slice a1 tw.length c1, .slice a2 tr.length c2]) := N4.trans (OQ.below (by omega))
  have o1' := o1.only OQ (fun _ => by have := lq.out; have := l3.out; omega)
  have o2' := o2.only OQ (fun _ => by have := lq.out; have := l3.out; omega)
  go_wp2_with (refine wpList_store_mid rfl 26 (.tmp 4) (.tmp 26) rfl (w.heap.size + 1) 0 #[.int .i64 LN, .slice a1 tw.length c1, .slice a2 tr.length c2] rfl rfl ?hth ?hin ?hon ?_)
  case hth => exact th
  case hin => exact iSt
  case hon => exact one3 _ _ _ _ _ _ _
  exact bodyPost_ret (v := .agg #[.int .i64 LN, .slice a1 tw.length c1, .slice a2 tr.length c2]) (results_cell_m Tryd.results17 _ _ (w.heap.size + 1) _ d3 rfl RR hd3 hrow3 iSt) rfl ⟨⟨_, rfl, a1, a2, c1, c2, g1, g2, rfl, o1', o2', p1, p2, q1, q2, by omega, by omega⟩, N5⟩
end Go.Proofs.YtljpjbojdekeiaaDoor
