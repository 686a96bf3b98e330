import Derived.Test.YtbhmhkimddjhaaaDoorGA35
import Derived.Deep.RegionWith
/-
  Long division: the walk.
-/
namespace Go.Proofs.YtbhmhkimddjhaaaDoor
set_option maxRecDepth 100000
open Go.RowKit

theorem Blk.ownWin {w : World} {g : Nat} {ys : List Int} (h : Blk w g .u32 ys) (off len : Nat) (hl : off + len ≤ ys.length) : Own w g (some ⟨g, off, none⟩) .u32 (win ys off len) :=
  h.own off (by rw [win_len hl]; exact hl) (fun i hi => by rw [win_len hl] at hi; exact (win_get _ _ _ _ hi).symm)
theorem lmb_of_win {XS ZS : List Int} {off len : Nat} (h : Lmb (win XS off len)) (hz : Lmb ZS) (hs : Same XS ZS off len) : Lmb XS := by
  intro i
  by_cases c : i < off ∨ off + len ≤ i
  · rw [hs.2 i c]; exact hz i
  · have := h (i - off)
    rw [win_get _ _ _ _ (by omega), show off + (i - off) = i by omega] at this
    exact this
theorem win0 (ys : List Int) (m : Nat) : win ys 0 m = ys.take m := by simp [win]
/-- The quotient does not turn, and the rest grows, with both sides. -/
theorem div_scaled {A D P q r : Int} (hP : 0 < P) (h : A * P = q * (D * P) + r) (r0 : 0 ≤ r) (r1 : r < D * P) : q = A / D ∧ r / P = A % D := by
  obtain ⟨h1, h2⟩ := div_of1 h r0 r1
  rw [Int.mul_ediv_mul_of_pos_left A D hP] at h1
  refine ⟨h1, ?_⟩
  rw [h2, Int.mul_comm A, Int.mul_comm D, Int.mul_emod_mul_of_pos A D hP]
  exact Int.mul_ediv_cancel_left _ (by omega)

set_option maxHeartbeats 8000000 in
theorem divideLong_any (w : World) (g g' : Nat) (a b : Option Addr) (ca cb n : Nat) (zs ms : List Int) (ha : Rd w g a .u32 zs) (hb : Rd w g' b .u32 ms) (hz : Lmb zs) (hm : Lmb ms) (tm : Top ms) (l1 : ms.length = n + 2) (hn : zs.length ≤ 1024) (hml : ms.length ≤ zs.length) :
    Calls Tryd.prog 105 #[.slice a zs.length ca, .slice b (n + 2) cb] w fun e w' => DivRes w' e (lval zs) (lval ms) ∧ Below w.heap.size w w' := by
  obtain ⟨i0, hi, hz0, hz1, hz2⟩ := info_parts Tryd.info99
  obtain ⟨K, hK⟩ : ∃ K : Nat, zs.length = K + n + 1 := ⟨zs.length - n - 1, by omega⟩
  have K1 : 1 ≤ K := by omega
  obtain ⟨offb, rfl, hcb⟩ := hb (by omega)
  have cb1 := hcb (n + 1) (by omega)
  have mt : 1 ≤ ms.getD (n + 1) 0 := by
    have := tm (by omega)
    rw [l1, show n + 2 - 1 = n + 1 by omega] at this
    have := hm (n + 1)
    omega
  have mt2 := (hm (n + 1)).2
  have i1 : (n : Int) + 2 - 1 = (n : Int) + 1 := by omega
  have j1 : ((n : Int) + 1).toNat = n + 1 := by omega
  have k1 : (zs.length : Int) + 1 - ((n : Int) + 2) = (K : Int) := by omega
  have HK := hide hK
  have L1 := hide l1
  have kz : (zs.length : Int) = (K : Int) + (n : Int) + 1 := by omega
  have KZ := hide kz
  have n1024 : n ≤ 1024 := by omega
  have SL := shiftLeft_any w g' (some ⟨g', offb, none⟩) cb ms
  rw [l1] at SL
  have HSL := hide SL
  clear hcb hK l1 kz SL
  go_enter Tryd.func105, Tryd.ntmps105
  go_wp2_with fail
  refine (leadingZeros32_any _ w mt mt2).mono ?_
  rintro e w' ⟨s, rfl, hs, hx, rfl⟩
  go_wp2_with fail
  refine ((unhide HSL) s hb hm (by omega) hs).mono ?_
  rintro e w1 ⟨ys, rfl, ly, hyl, hyv, B1, n1⟩
  obtain ⟨v1, v2, v3, v4, v5, v6⟩ := shifted hm tm L1.out hs hx hyl ly hyv
  obtain ⟨vs, hvs⟩ : ∃ vs, ys.take (n + 2) = vs := ⟨_, rfl⟩
  obtain ⟨v, hv⟩ : ∃ v, lval ms * 2 ^ s = v := ⟨_, rfl⟩
  obtain ⟨NN, hNN⟩ : ∃ NN, lval zs * 2 ^ s = NN := ⟨_, rfl⟩
  rw [hvs] at v1 v2 v3 v4
  rw [hv] at v3 v5 v6
  have V1 := hide v1
  have V3 := hide v3
  have LY := hide ly
  have HVS := hide hvs
  have HVV := hide hv
  have HNN := hide hNN
  clear ly hyv v1 v3 hv hvs hNN
  go_wp2_with fail
  refine (shiftLeft_any w1 g a ca zs s (ha.up n1) hz (by omega) hs).mono ?_
  rintro e w2 ⟨rs, rfl, lr, hrl, hrv, B2, n2⟩
  have LR := hide lr
  have HRV := hide hrv
  have z1 := B1.lt
  have z2 := B2.lt
  clear lr hrv
  go_wp2_with (at_make; refine wpList_make_full _ rfl _ _ 63 rfl w2.heap.size 99 i0 (.int .u32 0) 1 Tryd.underlying63 hi hz0 hz1 .i64 .i64 _ _ K rfl rfl (by omega) (by omega) (by rw [hz2]; omega) (by unfold maxLen; omega) (Nat.le_refl _) ?_; intro w3 hown hgrow)
  have B3 := Blk.of_made hown
  have n3 : Below w2.heap.size w2 w3 := (Below.refl _ _).grown hgrow (Nat.le_refl _) (by simp)
  have z3 := B3.lt
  have N3 := nxt (nxt n1 n2) n3
  have B1a := (B1.up n2).up n3
  have B2a := B2.up n3
  clear hown hgrow B1 B2 n1 n2 n3
  go_loopw [11] (fun i wr => ∃ (t : Int) (qs xs : List Int), i = .int .i64 t ∧ -1 ≤ t ∧ t < (K : Int) ∧ LongTo NN v qs xs K (zs.length + 1) (t + 1).toNat ∧ Blk wr w'.heap.size .u32 ys ∧ Blk wr w1.heap.size .u32 xs ∧ Blk wr w2.heap.size .u32 qs ∧ Below w'.heap.size w' wr) (fun i _ => (intOf i + 1).toNat)
  case atStart =>
    refine ⟨(K : Int) - 1, _, _, rfl, by omega, by omega, ⟨⟨by simp, lmb_zeros _⟩, ⟨LR.out, hrl⟩, ?_, ?_⟩, B1a, B2a, B3, N3⟩
    · rw [show ((K : Int) - 1 + 1).toNat = K by omega, lhi_past _ _ (by simp), HRV.out, HNN.out]
      simp
    · rw [show ((K : Int) - 1 + 1).toNat = K by omega]
      exact long_start hz hrl HK.out HRV.out v5
  case round =>
    obtain ⟨t, qs, xs, rfl, ht0, ht1, hL, hBv, hBr, hBq, hN⟩ := hrel
    clear B1a B2a B3 N3
    by_cases ht : 0 ≤ t
    · obtain ⟨j, rfl⟩ := Int.eq_ofNat_of_zero_le ht
      rw [show ((j : Int) + 1).toNat = j + 1 by omega] at hL
      have hj : j < K := by omega
      have s1 : (j : Int) + ((n : Int) + 2) + 1 ≤ (zs.length : Int) + 1 := by have := KZ.out; omega
      obtain ⟨⟨q1, q2⟩, ⟨x1, x2⟩, x3, x4⟩ := id hL
      have xlen : j + (n + 3) ≤ xs.length := by rw [x1]; have := KZ.out; omega
      have zz : ∀ i, j + (n + 3) ≤ i → xs.getD i 0 = 0 := fun i hi => limbs_zero x2 (i := j + 1) (m := n + 2) (by omega) i (by omega)
      have wv : lval (win xs j (n + 3)) = lhi xs j := win_val zz
      have wl := win_len xlen
      have lw := lmb_win x2 j (n + 3)
      have hWv : lval (win xs j (n + 3)) < lval vs * 4294967296 := by
        rw [wv, V3.out, lhi_step]
        have := (x2 j).2
        omega
      have dq := hBq.cell (i := j) (by rw [q1]; exact hj)
      have hylen : 0 + (n + 2) ≤ ys.length := by rw [LY.out]; omega
      have ov := hBv.ownWin 0 (n + 2) hylen
      rw [win0, HVS.out] at ov
      have HW := hide (And.intro wv wl)
      have Hzz := hide zz
      have HQ1 := hide q1
      have Hx := hide (And.intro x1 xlen)
      have hx4 := hide x4
      clear q1 x1 x3 wv wl zz xlen x4 dq hylen
      go_wp2_with fail
      rw [show j + (n + 2) + 1 - j = n + 3 by omega]
      refine (guessLimb_any wr w1.heap.size w'.heap.size _ _ _ _ n (win xs j (n + 3)) vs (hBr.ownWin j (n + 3) Hx.out.2).rd ov.rd lw v2 V1.out HW.out.2 (by omega) v4 (guess_fits lw v2 V1.out HW.out.2 hWv)).mono ?_
      rintro e wG ⟨G, rfl, hG, nG⟩
      obtain ⟨q, qb, hq, hGq⟩ := guess_near lw v2 V1.out HW.out.2 v4 hWv hG
      have gb := hG.1
      have bv := hBv.up nG
      have br := hBr.up nG
      have bq := hBq.up nG
      have NG := nxt hN nG
      have ov2 := ov.up nG
      have TT := takeTimesB wG w1.heap.size j (n + 3) (zs.length + 1 - j) xs w'.heap.size (some ⟨w'.heap.size, 0, none⟩) (n + 2 + 1) vs G br Hx.out.2 ov2.rd (fun _ => by omega) lw v2 (by omega) (by rw [V1.out]; omega) gb.1 (by omega)
      rw [V1.out] at TT
      have HTT := hide TT
      have Hq := hide hq
      clear TT hG nG hBv hBr hBq ov hN hq hWv
      go_wp2_with fail
      refine (unhide HTT).mono ?_
      rintro e wT ⟨XS1, bo, c, rfl, hT, hS1, hB1, O1⟩
      have hT' : TakeTo (win xs j (n + 3)) vs (win XS1 j (n + 3)) G (win xs j (n + 3)).length bo c := by rw [HW.out.2]; exact hT
      have hD := hT'.done (by rw [HW.out.2, V1.out]; omega)
      have bd := lval_bd hT.2.1
      have xl1 : j + (n + 3) ≤ XS1.length := by rw [hS1.1]; exact Hx.out.2
      rw [win_len xl1] at bd
      rw [HW.out.2, HW.out.1, V3.out] at hD
      have hq' := Hq.out
      rw [HW.out.1, V3.out] at hq'
      have vB : v ≤ 4294967296 ^ (n + 3) := by have := p32_mono (show n + 2 ≤ n + 3 by omega); omega
      have z1' : ∀ i, j + (n + 3) ≤ i → XS1.getD i 0 = 0 := fun i hi => by rw [hS1.2 i (.inr hi)]; exact Hzz.out i hi
      have wv1 : lval (win XS1 j (n + 3)) = lhi XS1 j := win_val z1'
      have bv1 := bv.of_block (O1.block _ (by omega))
      have bq1 := bq.of_block (O1.block _ (by omega))
      have NT := NG.trans (O1.below (B := w'.heap.size) (by omega))
      rcases hGq with hE | hE
      · subst hE
        obtain ⟨r1, r2⟩ := take_right hq' bd hT.2.2.1.1 hT.2.2.2.1.1 hD
        have lx1 : Lmb XS1 := lmb_of_win hT.2.1 x2 hS1
        have ST := hide (hL.step hj qb hS1 lx1 (by rw [← wv1, r2]) (by rw [← wv1, r2]; omega))
        have tb : (c + bo != 0) = false := by simp [r1]
        have c2 := bq1.cell (i := j) (by rw [HQ1.out]; exact hj)
        have f2 := bq1.free j
        have S := bq1.store j G
        have Sr := hB1.of_block (w' := wT.setCell ⟨w2.heap.size, j, none⟩ (.int .u32 G)) (heap_setCell_other wT ⟨w2.heap.size, j, none⟩ w1.heap.size _ (by show w1.heap.size ≠ w2.heap.size; omega))
        have Sv := bv1.of_block (w' := wT.setCell ⟨w2.heap.size, j, none⟩ (.int .u32 G)) (heap_setCell_other wT ⟨w2.heap.size, j, none⟩ w'.heap.size _ (by show w'.heap.size ≠ w2.heap.size; omega))
        have Sn : Below w'.heap.size w' (wT.setCell ⟨w2.heap.size, j, none⟩ (.int .u32 G)) := NT.setCell (by show w'.heap.size ≤ w2.heap.size; omega) _
        have m1 : G % 4294967296 = G := by omega
        clear hT hT' hD bd hL r1 r2 wv1 z1' bv br bq NG ov2 hS1 hB1 O1 bv1 bq1 NT hq' xl1
        go_wp2
        go_roundw
        case rel => exact ⟨(j : Int) - 1, _, _, rfl, by omega, by omega, by rw [show ((j : Int) - 1 + 1).toNat = j by omega]; exact ST.out, Sv, Sr, S, Sn⟩
        case measure => simp [intOf]
      · subst hE
        obtain ⟨r1, r2⟩ := take_over hq' bd vB hT.2.2.1.1 hT.2.2.2.1.1 hD
        have tb : (c + bo != 0) = true := by simpa using r1
        have lw1 := hT.2.1
        have AA := addInPlaceB wT w1.heap.size j (n + 3) (zs.length + 1 - j) XS1 w'.heap.size (some ⟨w'.heap.size, 0, none⟩) (n + 2 + 1) vs hB1 xl1 (ov2.only O1 (fun _ => by omega)).rd (fun _ => by omega) lw1 v2 (by omega) (by rw [V1.out]; omega)
        rw [V1.out] at AA
        have HAA := hide AA
        have Hr2 := hide r2
        have Hq2 := hide hq'
        have Hwl := hide (win_len xl1)
        clear AA hT hT' hD bd r1 r2 z1' br NG ov2 hq' wv1
        go_wp2_with fail
        refine (unhide HAA).mono ?_
        rintro e wU ⟨XS2, c', rfl, hU, hS2, hB2, O2⟩
        have hU' : LAddTo (win XS1 j (n + 3)) vs (win XS2 j (n + 3)) (win XS1 j (n + 3)).length c' := by rw [Hwl.out]; exact hU
        have hD := hU'.done (by rw [Hwl.out, V1.out]; omega)
        have bd := lval_bd hU.2.1
        have xl2 : j + (n + 3) ≤ XS2.length := by rw [hS2.1]; exact xl1
        rw [win_len xl2] at bd
        rw [Hwl.out, V3.out] at hD
        have r3 := back_right Hq2.out Hr2.out bd hU.2.2.1 hD
        have hS3 := hS2.trans hS1
        have z2' : ∀ i, j + (n + 3) ≤ i → XS2.getD i 0 = 0 := fun i hi => by rw [hS3.2 i (.inr hi)]; exact Hzz.out i hi
        have wv2 : lval (win XS2 j (n + 3)) = lhi XS2 j := win_val z2'
        have lx2 : Lmb XS2 := lmb_of_win hU.2.1 x2 hS3
        have hqq := Hq2.out
        have ST := hide (hL.step hj qb hS3 lx2 (by rw [← wv2, r3]) (by rw [← wv2, r3]; omega))
        have bv2 := bv1.of_block (O2.block _ (by omega))
        have bq2 := bq1.of_block (O2.block _ (by omega))
        have NU := NT.trans (O2.below (B := w'.heap.size) (by omega))
        have c2 := bq2.cell (i := j) (by rw [HQ1.out]; exact hj)
        have f2 := bq2.free j
        have S := bq2.store j q
        have Sr := hB2.of_block (w' := wU.setCell ⟨w2.heap.size, j, none⟩ (.int .u32 q)) (heap_setCell_other wU ⟨w2.heap.size, j, none⟩ w1.heap.size _ (by show w1.heap.size ≠ w2.heap.size; omega))
        have Sv := bv2.of_block (w' := wU.setCell ⟨w2.heap.size, j, none⟩ (.int .u32 q)) (heap_setCell_other wU ⟨w2.heap.size, j, none⟩ w'.heap.size _ (by show w'.heap.size ≠ w2.heap.size; omega))
        have Sn : Below w'.heap.size w' (wU.setCell ⟨w2.heap.size, j, none⟩ (.int .u32 q)) := NU.setCell (by show w'.heap.size ≤ w2.heap.size; omega) _
        have m1 : q % 4294967296 = q := by omega
        have m2 : q + 1 - 1 = q := by omega
        clear hU hU' hD bd hL r3 wv2 z2' bv bq hS1 hS2 hS3 hB1 hB2 O1 O2 bv1 bq1 bv2 bq2 NT NU xl1 xl2 hqq
        go_wp2
        go_roundw
        case rel => exact ⟨(j : Int) - 1, _, _, rfl, by omega, by omega, by rw [show ((j : Int) - 1 + 1).toNat = j by omega]; exact ST.out, Sv, Sr, S, Sn⟩
        case measure => simp [intOf]
    · obtain rfl : t = -1 := by omega
      obtain ⟨⟨q1, q2⟩, ⟨x1, x2⟩, x3, x4⟩ := (show LongTo NN v qs xs K (zs.length + 1) 0 from hL)
      rw [lhi_zero, Int.pow_zero, Int.mul_one] at x3
      rw [lhi_zero] at x4
      have xb := (lval_bd x2).1
      have zz : ∀ i, n + 2 ≤ i → xs.getD i 0 = 0 := fun i hi => limbs_zero x2 (i := 0) (m := n + 2) (by rw [lhi_zero]; omega) i (by omega)
      have xt : lval (xs.take (n + 2)) = lval xs := lval_take xs _ zz
      have xl : 0 + (n + 2) ≤ xs.length := by rw [x1]; have := KZ.out; omega
      have DD := hide (div_scaled (A := lval zs) (D := lval ms) (P := 2 ^ s) (q := lval qs) (r := lval xs) (p2_pos s) (by rw [HNN.out, HVV.out]; exact x3) xb (by rw [HVV.out]; exact x4))
      obtain ⟨KP, hKP⟩ : ∃ KP : World → Prop, KP = fun W => Blk W w1.heap.size .u32 xs ∧ Blk W w2.heap.size .u32 qs ∧ Below w'.heap.size w' W := ⟨_, rfl⟩
      have HA : Hid (∀ W, KP W → Calls Tryd.prog 100 #[.slice (some ⟨w2.heap.size, 0, none⟩) K K] W fun e w' => ∃ sa : Nat, sa ≤ K ∧ e = .returned (.slice (some ⟨w2.heap.size, 0, none⟩) sa K) ∧ ZeroFrom qs sa ∧ (0 < sa → qs.getD (sa - 1) 0 ≠ 0) ∧ w' = W) := by
        intro W h
        rw [hKP] at h
        have T := trim_any W w2.heap.size 0 K qs h.2.1.own0.rd (by rw [q1]; exact Nat.le_refl _) (by rw [q1]; omega)
        rw [q1] at T
        exact T
      have HB : Hid (∀ W, KP W → Calls Tryd.prog 132 #[.slice (some ⟨w1.heap.size, 0, none⟩) (n + 2) (zs.length + 1), .int .i64 s] W fun e w' => ∃ (gs : Nat) (us : List Int), e = .returned (.slice (some ⟨gs, 0, none⟩) (n + 2) (n + 2)) ∧ us.length = n + 2 ∧ Lmb us ∧ lval us = lval xs / 2 ^ s ∧ Blk w' gs .u32 us ∧ KP w') := by
        intro W h
        rw [hKP] at h ⊢
        have o := h.1.ownWin 0 (n + 2) xl
        rw [win0] at o
        have lt : (xs.take (n + 2)).length = n + 2 := by simp; omega
        have T := shiftRight_any W w1.heap.size _ (zs.length + 1) (xs.take (n + 2)) s o.rd (lmb_take x2 _) (by rw [lt]; omega) hs
        rw [lt, xt] at T
        refine T.mono ?_
        rintro e w5 ⟨us, rfl, lu, hul, huv, bu, nu⟩
        exact ⟨_, us, rfl, lu, hul, huv, bu, h.1.up nu, h.2.1.up nu, nxt h.2.2 nu⟩
      have HC : Hid (∀ W gs us, (Blk W gs .u32 us ∧ us.length = n + 2) → Calls Tryd.prog 100 #[.slice (some ⟨gs, 0, none⟩) (n + 2) (n + 2)] W fun e w' => ∃ sc : Nat, sc ≤ n + 2 ∧ e = .returned (.slice (some ⟨gs, 0, none⟩) sc (n + 2)) ∧ ZeroFrom us sc ∧ (0 < sc → us.getD (sc - 1) 0 ≠ 0) ∧ w' = W) := by
        intro W gs us h
        have T := trim_any W gs 0 (n + 2) us h.1.own0.rd (by rw [h.2]; exact Nat.le_refl _) (by rw [h.2]; omega)
        rw [h.2] at T
        exact T
      have KD : KP wr.drew := by rw [hKP]; exact ⟨hBr.drew, hBq.drew, hN.drew⟩
      have HK2 := hide hKP
      have Q := hide (And.intro q1 q2)
      have s2 : (n : Int) + 2 ≤ (zs.length : Int) + 1 := by have := KZ.out; omega
      clear hL q1 q2 x1 x2 x3 x4 xb zz xt xl hBv hBr hBq hN hKP
      go_wp2
      go_region_with (first
        | (go_at_call 132; refine ((unhide HB) _ ?_).mono ?_; (first | exact KD | assumption); rintro e w5 ⟨gs, us, rfl, lu, hul, huv, bu, K5⟩; have LU := hide lu; have HUV := hide huv; clear lu huv)
        | (go_at_call_of 100 (Value.slice (some ⟨w2.heap.size, 0, none⟩) K K); refine ((unhide HA) _ ?_).mono ?_; (first | exact KD | assumption); rintro e w6 ⟨sa, hsa, rfl, hza, hta, rfl⟩)
        | (go_at_call 100; refine ((unhide HC) _ _ us ⟨?_, LU.out⟩).mono ?_; assumption; rintro e w7 ⟨sc, hsc, rfl, hzc, htc, rfl⟩))
      all_goals
        go_wp2
        go_ret2
        have K5' := K5
        rw [HK2.out] at K5'
        obtain ⟨k1, k2⟩ := NRow.of_trim K5'.2.1.own0 (s := sa) (c := K) (by rw [Q.out.1]; exact hsa) hta Q.out.2 (by rw [Q.out.1]; exact Nat.le_refl _) (by omega)
        obtain ⟨k3, k4⟩ := NRow.of_trim bu.own0 (s := sc) (c := n + 2) (by rw [LU.out]; exact hsc) htc hul (by rw [LU.out]; exact Nat.le_refl _) (by omega)
        have z1 := lval_take qs sa hza
        have z2 := lval_take us sc hzc
        refine ⟨⟨qs.take sa, us.take sc, _, _, _, _, _, _, ret2_slice k1.symm k3.symm, k2, k4, ?_, ?_⟩, K5'.2.2⟩
        · rw [z1]; exact DD.out.1
        · rw [z2, HUV.out]; exact DD.out.2
end Go.Proofs.YtbhmhkimddjhaaaDoor
