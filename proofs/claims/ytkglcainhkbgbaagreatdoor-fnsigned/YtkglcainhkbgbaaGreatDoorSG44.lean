import Derived.Test.YtkglcainhkbgbaaGreatDoorSG43
import Derived.Test.YtkglcainhkbgbaaGreatDoorSG41
import Derived.Test.YtkglcainhkbgbaaGreatDoorSG31
import Derived.Test.YtkglcainhkbgbaaGreatDoorSG35
import Derived.Test.YtkglcainhkbgbaaGreatDoorSG24
import Derived.Test.YtkglcainhkbgbaaGreatDoorSG36
import Derived.Test.YtkglcainhkbgbaaGreatDoorSG12
import Derived.Test.YtkglcainhkbgbaaGreatDoorSG38
import Derived.BigFrame
namespace Go.Proofs.YtkglcainhkbgbaaGreatDoor
set_option maxRecDepth 100000
open Go Go.RowKit
def ScOk (v : Nat) (p : Int × Int) (r : Ending) : Prop := ∃ ts X' Y', r = .returned (agN ts) ∧ IsN ts [X', Y'] ∧ X' % PP = (mlP v p).1 % PP ∧ Y' % PP = (mlP v p).2 % PP
theorem cF_one : cF.toArray.all (·.oneCell') = true := by simp [cF, fD, fA, Value.oneCell']
set_option maxHeartbeats 8000000 in
theorem scale_any (w : World) (U : Nat → Int) (hU : W4 U) (v : Nat) (hv : wval U = (v : Int)) (us : List (Nat → Int)) (X Y D : Int) (hus : IsN us [X, Y]) (hp : OnP PP (-1) d0 (X, Y)) (hD : PP ∣ D - d0) (TT : HasTw w 9) (CC : Em5 w 8 0 D) (ZP : RowN w 6 0 [0, 1]) (SS : HasSt w 13) (II : Has3 w 10 12 5 4) :
    Calls Tryz.prog 54 #[ag4 U, agN us] w fun r w' => ScOk v (X, Y) r ∧ Below w.heap.size w w' := by
  show Calls Tryz.prog 54 #[.agg (cU U).toArray, .agg (clN us).toArray] w _
  have v256 := wval_lt hU hv
  go_enter Tryz.func54, Tryz.ntmps54
  go_upto_region 0 with fail
  refine region_end 3 (fun i => [BXV (cU U), BXA X Y, NB w 10].getD i Fact.no) (by kernel_rfl) (by kernel_rfl) rfl ?_ ?_
  · intro i hi
    obtain rfl | rfl | rfl : i = 0 ∨ i = 1 ∨ i = 2 := by omega
    · exact step_boxU rfl 0 rfl (by kernel_rfl) U rfl rfl
    · exact step_boxA rfl 1 rfl (by kernel_rfl) us X Y hus rfl rfl
    · exact step_newA rfl rfl rfl
  intro a W hb nW hF
  obtain ⟨q2, e2, R2⟩ := hF 0 2 (by kernel_rfl)
  obtain ⟨q3, e3, A3⟩ := hF 1 3 (by kernel_rfl)
  obtain ⟨_, q4, e4, T4, l4⟩ := hF 2 4 (by kernel_rfl)
  obtain ⟨vs, hvs⟩ : ∃ vs : Nat → Value, ∀ d, a.tmps.getD d undef = vs d := ⟨_, fun _ => rfl⟩
  rw [hvs] at e2 e3 e4
  rw [puts_of (md := .any) (k := 3) (by kernel_rfl) rfl hb vs hvs]
  simp only [puts, e2, e3, e4, Act.put, List.setIfInBounds_toArray, List.set_cons_succ, List.set_cons_zero]
  clear hF hb hvs
  have lt2 := R2.2
  have lt4 := there_lt (by omega) T4
  go_upto_region 1 with fail
  refine region_newV 147 6 5 4 5 16 _ (fun i => [Fact.eq fD, Fact.eq fD, Fact.eq fD, Fact.eq fD, Fact.eq (.agg cF.toArray), NB W 5].getD i Fact.no) cF cF_one (by decide) (by kernel_rfl) rfl rfl rfl info95 (by decide) (by decide) (by kernel_rfl) (by kernel_rfl) rfl rfl ?_ ?_
  · intro i hi
    obtain rfl | rfl | rfl | rfl | rfl | rfl : i = 0 ∨ i = 1 ∨ i = 2 ∨ i = 3 ∨ i = 4 ∨ i = 5 := by omega
    · exact step_fun rfl _ rfl rfl
    · exact step_fun rfl _ rfl rfl
    · exact step_fun rfl _ rfl rfl
    · exact step_fun rfl _ rfl rfl
    · exact step_buF rfl rfl (by kernel_rfl) (by kernel_rfl) (by kernel_rfl) (by kernel_rfl) rfl rfl rfl rfl rfl
    · exact step_newF rfl rfl rfl
  intro vs1 q5 W1 hq5 lq5 n1 R5
  simp only [puts, hq5, Act.put, List.setIfInBounds_toArray, List.set_cons_succ, List.set_cons_zero]
  replace R2 := R2.up n1
  replace A3 := A3.up n1
  replace T4 := there_up (by omega) T4 n1
  have N1 := nW.trans (n1.mono nW.size)
  have z1 := n1.size
  have lt5 := R5.2
  clear nW n1
  have TT1 := TT.up N1
  have CC1 := CC.up N1
  have ZP1 := ZP.up N1
  go_upto_region 2 with fail
  refine region_newG 149 3 2 1 6 18 64 _ (fun i => [EN [X, Y], AG (fun t => MulL t 16 (X, Y)), NB W1 320].getD i Fact.no) (fun t => MulL t 16 (X, Y)) (fun t ht => ht.1) (by kernel_rfl) rfl rfl rfl iMu (by decide) (by decide) (by kernel_rfl) (by kernel_rfl) rfl rfl ?_ ?_
  · intro i hi
    obtain rfl | rfl | rfl : i = 0 ∨ i = 1 ∨ i = 2 := by omega
    · exact step_lA rfl 3 rfl (by kernel_rfl) _ rfl _ _ A3 rfl
    · exact step_mulG hD TT1 CC1 ZP1 X Y hp rfl 17 0 rfl (by kernel_rfl) rfl rfl
    · exact step_newM rfl rfl rfl
  intro vs2 q6 _ W2 hq6 _ lq6 n2 R6 T6
  simp only [puts, hq6, Act.put, List.setIfInBounds_toArray, List.set_cons_succ, List.set_cons_zero]
  replace R2 := R2.up n2
  replace R5 := R5.up n2
  replace T4 := there_up (by omega) T4 n2
  have N2 := N1.trans (n2.mono N1.size)
  have z2 := n2.size
  have lt6 := there_lt (by omega) T6
  clear N1 n2 A3 TT1 CC1 ZP1 T6
  have ZP2 := ZP.up N2
  go_upto_region 3 with fail
  refine region_newG 146 3 2 1 7 20 4 _ (fun i => [EN [0, 1], AG (fun t => Ext t (0, 1)), NB W2 20].getD i Fact.no) (fun t => Ext t (0, 1)) (fun t ht => ht.len) (by kernel_rfl) rfl rfl rfl iX (by decide) (by decide) (by kernel_rfl) (by kernel_rfl) rfl rfl ?_ ?_
  · intro i hi
    obtain rfl | rfl | rfl : i = 0 ∨ i = 1 ∨ i = 2 := by omega
    · exact step_glA rfl 6 rfl _ _ ZP2 rfl
    · exact step_extG _ rfl 19 0 0 1 (fun _ h => h) rfl (by kernel_rfl) rfl rfl
    · exact step_newX rfl rfl rfl
  intro vs3 q7 _ W3 hq7 _ lq7 n3 R7 T7
  simp only [puts, hq7, Act.put, List.setIfInBounds_toArray, List.set_cons_succ, List.set_cons_zero]
  have I0 : ScI w W3 q2 q4 q5 q6 q7 (hdd v 0) U (X, Y) := ⟨N2.trans (n3.mono N2.size), R2.up n3, there_up (by omega) T4 n3, R5.up n3, R6.up n3, T7, by rw [hdd_zero v256]; exact R7⟩
  have h2 : q2 ≠ q7 := by omega
  have h5 : q5 ≠ q7 := by omega
  have h6 : q6 ≠ q7 := by omega
  have l7 : w.heap.size ≤ q7 := by have := N2.size; omega
  clear N2 n3 R2 R5 R6 R7 T4 T7 ZP2 lt2 lt4 lt5 lt6 z1 z2 lq5 lq6 lq7
  go_wp2
  go_loopw [21] (fun i wr => ∃ k : Nat, k ≤ 64 ∧ i = .int .i64 k ∧ ScI w wr q2 q4 q5 q6 q7 (hdd v k) U (X, Y)) (fun i _ => 64 - (intOf i).toNat)
  case atStart => exact ⟨0, by omega, rfl, I0⟩
  case round =>
    clear I0
    obtain ⟨k, hk, rfl, I⟩ := hrel
    by_cases hlt : k < 64
    · have k5 : (k : Int) < 64 := by omega
      have d16 : v / 16 ^ (63 - k) % 16 < 16 := Nat.mod_lt _ (by omega)
      have HN := hide (hdd_next v hlt)
      have HD := hide (show dgt v k = v / 16 ^ (63 - k) % 16 from rfl)
      go_upto_region 7 with fail
      refine region_newG 146 6 5 4 9 28 4 _ (fun i => [Fact.eq (.agg (cU U).toArray), Fact.eq (.int .i64 (k : Int)), Fact.eq (.int .i64 ((63 - k : Nat) : Int)), Fact.eq (.int .u64 ((v / 16 ^ (63 - k) % 16 : Nat) : Int)), AG (fun t => Ext t (mlP (v / 16 ^ (63 - k) % 16) (X, Y))), NB wr 20].getD i Fact.no) (fun t => Ext t (mlP (v / 16 ^ (63 - k) % 16) (X, Y))) (fun t ht => ht.len) (by kernel_rfl) rfl rfl rfl iX (by decide) (by decide) (by kernel_rfl) (by kernel_rfl) rfl rfl ?_ ?_
      · intro i hi
        obtain rfl | rfl | rfl | rfl | rfl | rfl : i = 0 ∨ i = 1 ∨ i = 2 ∨ i = 3 ∨ i = 4 ∨ i = 5 := by omega
        · exact step_lV 41 _ (cU U) Tryz.underlying41 rfl info55 rfl 2 rfl (by kernel_rfl) _ rfl I.r2 rfl
        · exact step_mv rfl 8 rfl (by kernel_rfl) rfl rfl
        · exact step_sub63 rfl 25 1 k hlt rfl (by kernel_rfl) rfl rfl
        · exact step_dig U hU hv (63 - k) (by omega) rfl 24 26 0 2 rfl (by kernel_rfl) (by kernel_rfl) rfl rfl rfl
        · exact step_at (X, Y) q6 _ d16 I.r6 rfl 6 27 3 rfl (by kernel_rfl) rfl (by kernel_rfl) rfl rfl
        · exact step_newX rfl rfl rfl
      intro vs4 q9 _ W4 hq9 _ lq9 n4 R9 _
      simp only [puts, hq9, Act.put, List.setIfInBounds_toArray, List.set_cons_succ, List.set_cons_zero]
      have h9 : q9 ≠ q7 := by have := there_lt (by omega) I.t7; omega
      replace I := I.up n4
      clear n4 lq9
      rw [← HD.out] at R9
      clear HD d16
      obtain ⟨d, hd⟩ : ∃ d, d = dgt v k := ⟨_, rfl⟩
      obtain ⟨h, hh⟩ : ∃ h, h = hdd v k := ⟨_, rfl⟩
      rw [← hd] at R9 HN
      rw [← hh] at I HN
      clear hd hh
      go_upto_region 8 with fail
      refine region_end 2 (fun i => [Fact.eq (.agg cF.toArray), Fact.eq (.int .i64 0)].getD i Fact.no) (by kernel_rfl) (by kernel_rfl) rfl ?_ ?_
      · intro i hi
        obtain rfl | rfl : i = 0 ∨ i = 1 := by omega
        · exact step_lV 147 _ cF Tryz.underlying147 rfl info95 rfl 5 rfl (by kernel_rfl) _ rfl I.r5 rfl
        · exact step_const0 rfl _ rfl rfl
      intro a5 W5 hb5 n5 hF5
      have e29 := hF5 0 29 (by kernel_rfl)
      have e30 := hF5 1 30 (by kernel_rfl)
      obtain ⟨vs5, hvs5⟩ : ∃ vs : Nat → Value, ∀ d, a5.tmps.getD d undef = vs d := ⟨_, fun _ => rfl⟩
      rw [hvs5] at e29 e30
      rw [puts_of (md := .any) (k := 2) (by kernel_rfl) rfl hb5 vs5 hvs5]
      have e29' : vs5 29 = .agg cF.toArray := e29
      have e30' : vs5 30 = .int .i64 0 := e30
      simp only [puts, e29', e30', Act.put, List.setIfInBounds_toArray, List.set_cons_succ, List.set_cons_zero]
      clear hF5 hb5 hvs5 e29 e30 e29' e30'
      replace I := I.up n5
      replace R9 := R9.up n5
      clear n5
      have IX := fun (i : Nat) (hi : i < 5) (w : World) => idxF w i hi
      obtain ⟨aF, haF⟩ : ∃ a, a = Value.agg cF.toArray := ⟨_, rfl⟩
      rw [← haF] at IX ⊢
      clear haF
      have I1 : ScI w W5 q2 q4 q5 q6 q7 (stN h d 0) U (X, Y) := by
        have e : stN h d 0 = h := by simp [stN]
        rw [e]
        exact I
      clear I
      go_wp2
      go_loopw [30] (fun i wr => ∃ j : Nat, j ≤ 5 ∧ i = .int .i64 j ∧ ScI w wr q2 q4 q5 q6 q7 (stN h d j) U (X, Y) ∧ RowG wr q9 0 (fun t => Ext t (mlP d (X, Y)))) (fun i _ => 5 - (intOf i).toNat)
      case atStart => exact ⟨0, by omega, rfl, I1, R9⟩
      case round =>
        clear I1 R9
        obtain ⟨j, hj, rfl, I2, R9'⟩ := hrel
        have TT2 := TT.up I2.n
        have CC2 := CC.up I2.n
        by_cases hj5 : j < 5
        · have j5 : (j : Int) < 5 := by omega
          have IXj := IX j hj5
          by_cases hj4 : j < 4
          · have ef : fV j = fD := if_pos hj4
            rw [ef] at IXj
            clear ef IX
            go_upto_region 11 with fail
            clear IXj
            refine region_putG 146 4 3 7 36 4 q7 0 _ (fun i => [Fact.eq fD, AG (fun t => Ext t (mlP (stN h d j) (X, Y))), AG (fun t => Ext t (mlP d (X, Y))), AG (fun t => Ext t (mlP (stN h d (j + 1)) (X, Y)))].getD i Fact.no) (fun t => Ext t (mlP (stN h d (j + 1)) (X, Y))) (fun t ht => ht.len) (by omega) (by kernel_rfl) rfl rfl rfl iX I2.t7 (fun a W hb _ => based_at hb 7 (by kernel_rfl)) (by decide) (by kernel_rfl) rfl ?_ ?_
            · intro i hi
              obtain rfl | rfl | rfl | rfl : i = 0 ∨ i = 1 ∨ i = 2 ∨ i = 3 := by omega
              · exact step_mv rfl 11 rfl (by kernel_rfl) rfl rfl
              · exact step_lG 146 _ 4 _ (fun t ht => ht.len) Tryz.underlying146 rfl iX rfl 7 rfl (by kernel_rfl) _ _ rfl I2.r7 rfl
              · exact step_lG 146 _ 4 _ (fun t ht => ht.len) Tryz.underlying146 rfl iX rfl 9 rfl (by kernel_rfl) _ _ rfl R9' rfl
              · exact step_dblV TT2 (mlP (stN h d j) (X, Y)) (mlP d (X, Y)) _ (mlP_on hp _) (fun t ht => ht.cg (stN_next hp h d j hj4)) rfl 33 34 35 0 1 2 rfl (by kernel_rfl) (by kernel_rfl) (by kernel_rfl) rfl rfl rfl rfl
            intro vs6 W6 es he n6
            have HH := hide (show ScI w (W6.setCells q7 0 (clN es)) q2 q4 q5 q6 q7 (stN h d (j + 1)) U (X, Y) ∧ RowG (W6.setCells q7 0 (clN es)) q9 0 (fun t => Ext t (mlP d (X, Y))) from ⟨I2.put n6 l7 h2 h5 h6 he, R9'.but (but_setO n6 _ _) h9⟩)
            generalize W6.setCells q7 0 (clN es) = W7 at *
            simp only [puts, Act.put, List.setIfInBounds_toArray, List.set_cons_succ, List.set_cons_zero]
            clear I2 R9' n6 TT2 CC2
            go_wp2
            go_roundw
            case rel => exact ⟨j + 1, by omega, by go_num, HH.out.1, HH.out.2⟩
            case measure => simp [intOf]; omega
          · have J4 := hide (show j = 4 by omega)
            have ef : fV j = fA := if_neg hj4
            rw [ef] at IXj
            clear ef IX
            go_upto_region 11 with fail
            clear IXj
            refine region_putG 146 4 3 7 36 4 q7 0 _ (fun i => [Fact.eq fA, AG (fun t => Ext t (mlP (stN h d j) (X, Y))), AG (fun t => Ext t (mlP d (X, Y))), AG (fun t => Ext t (mlP (stN h d (j + 1)) (X, Y)))].getD i Fact.no) (fun t => Ext t (mlP (stN h d (j + 1)) (X, Y))) (fun t ht => ht.len) (by omega) (by kernel_rfl) rfl rfl rfl iX I2.t7 (fun a W hb _ => based_at hb 7 (by kernel_rfl)) (by decide) (by kernel_rfl) rfl ?_ ?_
            · intro i hi
              obtain rfl | rfl | rfl | rfl : i = 0 ∨ i = 1 ∨ i = 2 ∨ i = 3 := by omega
              · exact step_mv rfl 11 rfl (by kernel_rfl) rfl rfl
              · exact step_lG 146 _ 4 _ (fun t ht => ht.len) Tryz.underlying146 rfl iX rfl 7 rfl (by kernel_rfl) _ _ rfl I2.r7 rfl
              · exact step_lG 146 _ 4 _ (fun t ht => ht.len) Tryz.underlying146 rfl iX rfl 9 rfl (by kernel_rfl) _ _ rfl R9' rfl
              · exact step_addV hD TT2 CC2 (mlP (stN h d j) (X, Y)) (mlP d (X, Y)) _ (mlP_on hp _) (mlP_on hp _) (fun t ht => ht.cg (by rw [J4.out]; exact stN_last hp h d)) rfl 33 34 35 0 1 2 rfl (by kernel_rfl) (by kernel_rfl) (by kernel_rfl) rfl rfl rfl rfl
            intro vs6 W6 es he n6
            have HH := hide (show ScI w (W6.setCells q7 0 (clN es)) q2 q4 q5 q6 q7 (stN h d (j + 1)) U (X, Y) ∧ RowG (W6.setCells q7 0 (clN es)) q9 0 (fun t => Ext t (mlP d (X, Y))) from ⟨I2.put n6 l7 h2 h5 h6 he, R9'.but (but_setO n6 _ _) h9⟩)
            generalize W6.setCells q7 0 (clN es) = W7 at *
            simp only [puts, Act.put, List.setIfInBounds_toArray, List.set_cons_succ, List.set_cons_zero]
            clear I2 R9' n6 TT2 CC2
            go_wp2
            go_roundw
            case rel => exact ⟨j + 1, by omega, by go_num, HH.out.1, HH.out.2⟩
            case measure => simp [intOf]; omega
        · obtain rfl : j = 5 := by omega
          have HH := hide (show ScI w wr q2 q4 q5 q6 q7 (hdd v (k + 1)) U (X, Y) from by
            rw [HN.out]
            exact I2)
          clear I2 R9' TT2 CC2 IX
          go_wp2
          go_roundw
          case rel => exact ⟨k + 1, by omega, by go_num, HH.out⟩
          case measure => simp [intOf]; omega
    · obtain rfl : k = 64 := by omega
      rw [hdd_all] at I
      have SS2 := SS.up I.n
      have II2 := II.up I.n
      obtain ⟨es, re, le, X1, Y1, Z1, T1, hN, hX⟩ := I.r7
      have RN : RowN wr q7 0 [X1, Y1, Z1] := RowN.init (As := [T1]) ⟨es, re, le, hN⟩
      have PL := hide (pj_plain hX.pj)
      go_upto_region 14 with fail
      refine region_putN 82 3 2 4 41 _ (fun i => [Fact.eq (.pointer (some ⟨q7, 0, none⟩)), EN [X1, Y1, Z1], EN [X1 * Z1 ^ eInv, Y1 * Z1 ^ eInv]].getD i Fact.no) [X1 * Z1 ^ eInv, Y1 * Z1 ^ eInv] _ (by kernel_rfl) rfl rfl rfl iA (by simp) (by kernel_rfl) rfl I.t4 (by kernel_rfl) rfl ?_ ?_
      · intro i hi
        obtain rfl | rfl | rfl : i = 0 ∨ i = 1 ∨ i = 2 := by omega
        · exact step_fld rfl 146 7 0 rfl (by kernel_rfl) _ _ rfl (fpX _) rfl
        · exact step_lJf rfl 39 0 rfl (by kernel_rfl) _ rfl _ _ _ RN rfl
        · exact step_aff SS2 II2 rfl 40 1 _ _ _ rfl (by kernel_rfl) rfl rfl
      intro vsL Wa Wb na bq RL nb TL
      have NS := nb w w.heap.size (I.n.trans (na.mono I.n.size)) l4
      simp only [puts, Act.put, List.setIfInBounds_toArray, List.set_cons_succ, List.set_cons_zero]
      clear bq nb na TL I SS2 II2 RN re
      go_wp2
      obtain ⟨ts, rg, _, ht⟩ := RL
      have lz := clN_len ht
      obtain ⟨fs, hfs⟩ := uA
      exact bodyPost_ret (v := agN ts) (results_cell_mid Tryz.results54 _ _ q4 (clN ts) _ rfl rg hfs rfl (by rw [lz]; exact iA)) rfl ⟨⟨ts, _, _, rfl, ht, PL.out.1, PL.out.2⟩, NS⟩
end Go.Proofs.YtkglcainhkbgbaaGreatDoor
namespace Go.Proofs.YtkglcainhkbgbaaGreatDoor
set_option maxRecDepth 100000
open Go Go.RowKit
set_option maxHeartbeats 4000000 in
theorem affAdd_any (w : World) (D : Int) (es fs : List (Nat → Int)) (X X' Y Y' : Int) (hes : IsN es [X, Y]) (hfs : IsN fs [X', Y']) (TT : HasTw w 9) (CC : Em5 w 8 0 D) (SS : HasSt w 13) (II : Has3 w 10 12 5 4) :
    Calls Tryz.prog 67 #[agN es, agN fs] w fun r w' => ∃ ts, r = .returned (agN ts) ∧ IsN ts [(xaR (X) (Y) (X') (Y') * ybR (1) ((X) * (Y)) (1) ((X') * (Y')) D) * (xbR (1) ((X) * (Y)) (1) ((X') * (Y')) D * ybR (1) ((X) * (Y)) (1) ((X') * (Y')) D) ^ eInv, (yaR (X) (Y) (X') (Y') * xbR (1) ((X) * (Y)) (1) ((X') * (Y')) D) * (xbR (1) ((X) * (Y)) (1) ((X') * (Y')) D * ybR (1) ((X) * (Y)) (1) ((X') * (Y')) D) ^ eInv] ∧ Below w.heap.size w w' := by
  show Calls Tryz.prog 67 #[.agg (clN es).toArray, .agg (clN fs).toArray] w _
  have H0 := rowN_new w 82 hes
  have m0 : Below w.heap.size w (w.alloc (.cells (clN es).toArray 82)) := (Below.refl _ _).alloc (Nat.le_refl _) _
  have s0 : (w.alloc (.cells (clN es).toArray 82)).heap.size = w.heap.size + 1 := by simp
  have H1 := fun W => rowN_new W 82 hfs
  obtain ⟨V0, hV0⟩ : ∃ V, V = (clN es).toArray := ⟨_, rfl⟩
  obtain ⟨V1, hV1⟩ : ∃ V, V = (clN fs).toArray := ⟨_, rfl⟩
  rw [← hV0] at H0 m0 s0 ⊢
  simp only [← hV1] at H1 ⊢
  clear hV0 hV1 hes hfs
  go_enter Tryz.func67, Tryz.ntmps67
  go_upto_region 1 with fail
  generalize w.alloc (.cells V0 82) = wa0 at *
  have H1' := H1 wa0
  have m1 : Below wa0.heap.size wa0 (wa0.alloc (.cells V1 82)) := (Below.refl _ _).alloc (Nat.le_refl _) _
  have s1 : (wa0.alloc (.cells V1 82)).heap.size = wa0.heap.size + 1 := by simp
  rw [s0] at H1' s1
  generalize wa0.alloc (.cells V1 82) = wa1 at *
  have TR : (wa1.alloc zA).there wa1.heap.size 0 10 := there_new wa1 _ _
  have mz : Below wa1.heap.size wa1 (wa1.alloc zA) := (Below.refl _ _).alloc (Nat.le_refl _) _
  rw [s1] at TR
  have P0 := (H0.up m1).up mz
  have P1 := H1'.up mz
  have N := nxt (nxt m0 m1) mz
  clear H0 H1 H1' m0 s0 m1 s1 mz
  obtain ⟨wr, hwr⟩ : ∃ W, W = wa1.alloc zA := ⟨_, rfl⟩
  rw [← hwr] at TR N P0 P1
  change Code.wp _ _ _ _ (wa1.alloc zA)
  rw [← hwr]
  clear hwr
  replace TT := TT.up N
  replace CC := CC.up N
  replace SS := SS.up N
  replace II := II.up N
  refine region_putN 82 7 6 4 11 _ (fun i => [EN [X, Y], EN [X, Y, 1, (X) * (Y)], EN [X', Y'], EN [X', Y', 1, (X') * (Y')], EN [xaR (X) (Y) (X') (Y') * ybR (1) ((X) * (Y)) (1) ((X') * (Y')) D, yaR (X) (Y) (X') (Y') * xbR (1) ((X) * (Y)) (1) ((X') * (Y')) D, xbR (1) ((X) * (Y)) (1) ((X') * (Y')) D * ybR (1) ((X) * (Y)) (1) ((X') * (Y')) D, xaR (X) (Y) (X') (Y') * yaR (X) (Y) (X') (Y')], EN [xaR (X) (Y) (X') (Y') * ybR (1) ((X) * (Y)) (1) ((X') * (Y')) D, yaR (X) (Y) (X') (Y') * xbR (1) ((X) * (Y)) (1) ((X') * (Y')) D, xbR (1) ((X) * (Y)) (1) ((X') * (Y')) D * ybR (1) ((X) * (Y)) (1) ((X') * (Y')) D], EN [(xaR (X) (Y) (X') (Y') * ybR (1) ((X) * (Y)) (1) ((X') * (Y')) D) * (xbR (1) ((X) * (Y)) (1) ((X') * (Y')) D * ybR (1) ((X) * (Y)) (1) ((X') * (Y')) D) ^ eInv, (yaR (X) (Y) (X') (Y') * xbR (1) ((X) * (Y)) (1) ((X') * (Y')) D) * (xbR (1) ((X) * (Y)) (1) ((X') * (Y')) D * ybR (1) ((X) * (Y)) (1) ((X') * (Y')) D) ^ eInv]].getD i Fact.no) [(xaR (X) (Y) (X') (Y') * ybR (1) ((X) * (Y)) (1) ((X') * (Y')) D) * (xbR (1) ((X) * (Y)) (1) ((X') * (Y')) D * ybR (1) ((X) * (Y)) (1) ((X') * (Y')) D) ^ eInv, (yaR (X) (Y) (X') (Y') * xbR (1) ((X) * (Y)) (1) ((X') * (Y')) D) * (xbR (1) ((X) * (Y)) (1) ((X') * (Y')) D * ybR (1) ((X) * (Y)) (1) ((X') * (Y')) D) ^ eInv] _ (by kernel_rfl) rfl rfl rfl iA (Nat.zero_lt_succ _) (by kernel_rfl) rfl TR (by kernel_rfl) rfl ?_ ?_
  · intro i hi
    obtain rfl | rfl | rfl | rfl | rfl | rfl | rfl : i = 0 ∨ i = 1 ∨ i = 2 ∨ i = 3 ∨ i = 4 ∨ i = 5 ∨ i = 6 := by omega
    · exact step_lA rfl 2 rfl (by kernel_rfl) _ rfl _ _  P0 rfl
    · exact step_ext rfl 5 0 _ _ rfl (by kernel_rfl) rfl rfl
    · exact step_lA rfl 3 rfl (by kernel_rfl) _ rfl _ _  P1 rfl
    · exact step_ext rfl 7 2 _ _ rfl (by kernel_rfl) rfl rfl
    · exact step_xadd TT CC rfl 6 8 1 3 _ _ _ _ _ _ _ _ rfl (by kernel_rfl) (by kernel_rfl) rfl rfl rfl
    · exact step_fldX rfl 9 4 _ _ _ _ rfl (by kernel_rfl) rfl rfl
    · exact step_aff SS II rfl 10 5 _ _ _ rfl (by kernel_rfl) rfl rfl
  intro vsL Wa Wb na bq RL nb TL
  have NS := nb w w.heap.size (nxt N na) (by omega)
  simp only [puts, Act.put, List.setIfInBounds_toArray, List.set_cons_succ, List.set_cons_zero]
  clear bq nb na N TR TL P0 P1 TT CC SS II
  go_wp2
  obtain ⟨ts, rg, _, ht⟩ := RL
  have lz := clN_len ht
  obtain ⟨fs, hfs⟩ := uA
  exact bodyPost_ret (v := agN ts) (results_cell_mid Tryz.results67 _ _ (w.heap.size + 1 + 1) (clN ts) _ rfl rg hfs rfl (by rw [lz]; exact iA)) rfl ⟨ts, rfl, ht, NS⟩
section
variable {ops : Array Oper} {Q : Exit → Act → World → Prop} {md : Region.Mode} {F : Nat → Fact} {a0 : Act} {w0 : World} {i : Nat} {o : Oper} {ts : Array TypeId}
end
end Go.Proofs.YtkglcainhkbgbaaGreatDoor
namespace Go.Proofs.YtkglcainhkbgbaaGreatDoor
set_option maxRecDepth 100000
open Go Go.RowKit
def psX (D X Y X' Y' : Int) : Int := xaR X Y X' Y' * ybR 1 (X * Y) 1 (X' * Y') D
def psY (D X Y X' Y' : Int) : Int := yaR X Y X' Y' * xbR 1 (X * Y) 1 (X' * Y') D
def psZ (D X Y X' Y' : Int) : Int := xbR 1 (X * Y) 1 (X' * Y') D * ybR 1 (X * Y) 1 (X' * Y') D
end Go.Proofs.YtkglcainhkbgbaaGreatDoor
namespace Go.Proofs.YtkglcainhkbgbaaGreatDoor
set_option maxRecDepth 100000
def addT (p q : Int × Int) : Int := dE * (p.1 * q.1 * (p.2 * q.2))
def addX (p q : Int × Int) : Int := (p.1 * q.2 + p.2 * q.1) * iv (1 + addT p q)
def addY (p q : Int × Int) : Int := (p.2 * q.2 + p.1 * q.1) * iv (1 - addT p q)
def liftZ (y : Int) : Int := (y * y - 1) * iv (dE * (y * y) + 1)
end Go.Proofs.YtkglcainhkbgbaaGreatDoor
namespace Go.Proofs.YtkglcainhkbgbaaGreatDoor
set_option maxRecDepth 100000
theorem root_sq {x A : Int} (x0 : 0 ≤ x) (x1 : x < PP) (hA : A % PP = x * x % PP) : rootB A = true ∧ rootV A = if x % 2 = 0 then x else PP - x := by
  have h0 : 0 ≤ A % PP := Int.emod_nonneg _ (by decide)
  have h1 : A % PP < PP := Int.emod_lt_of_pos _ (by decide)
  have S := same_root h0 h1
  have q := sq_has x0 x1
  rw [← hA] at q
  have hb := S.1.mp q
  have rb : rootB A = true := decide_eq_true hb
  refine ⟨rb, ?_⟩
  unfold rootV
  rw [if_pos rb]
  have bd := r1S_bd (A % PP)
  obtain ⟨f0, f1, f2⟩ := fin2_bd bd.1 bd.2
  have fs : fin2 (r1S (A % PP)) * fin2 (r1S (A % PP)) % PP = x * x % PP := (fin2_sq (r1S (A % PP))).trans (hb.trans hA)
  generalize fin2 (r1S (A % PP)) = r at *
  -- r and x have one square
  have d : PP ∣ (r - x) * (r + x) := by
    have k := dvd_cong fs
    exact dv2 k k (c1 := 1) (c2 := 0) (by grind)
  have hp : PP % 2 = 1 := by decide
  have key : r = x ∨ r = PP - x ∨ (r = 0 ∧ x = 0) := by
    rcases pri_PP.mul d with k | k
    · left
      have := cong_dvd k
      rwa [Int.emod_eq_of_lt f0 f1, Int.emod_eq_of_lt x0 x1] at this
    · obtain ⟨c, hc⟩ := k
      have c0 : 0 ≤ c := by
        rcases Int.lt_or_le c 0 with h | h
        · exfalso
          have : PP * c ≤ PP * (-1) := Int.mul_le_mul_of_nonneg_left (by omega) (by decide)
          generalize PP = p at *
          omega
        · exact h
      have c1 : c < 2 := by
        rcases Int.lt_or_le c 2 with h | h
        · exact h
        · exfalso
          have : PP * 2 ≤ PP * c := Int.mul_le_mul_of_nonneg_left h (by decide)
          generalize PP = p at *
          omega
      rcases (show c = 0 ∨ c = 1 by omega) with e | e
      · subst e
        right; right
        rw [Int.mul_zero] at hc
        omega
      · subst e
        right; left
        rw [Int.mul_one] at hc
        generalize PP = p at *
        omega
  clear d fs hb rb q S hA
  generalize PP = p at *
  rcases key with e | e | ⟨e1, e2⟩
  · rw [if_pos (by omega)]
    exact e
  · by_cases c : x % 2 = 0
    · exfalso; omega
    · rw [if_neg c]
      exact e
  · rw [if_pos (by omega)]
    omega
theorem lift_den (y : Int) : ¬ PP ∣ dE * (y * y) + 1 := fun h => by
  have k := dE_is
  have i2 := i0_sq
  have q : PP ∣ 1 ^ 2 - d0 * (i0 * y) ^ 2 := by
    have nd := nsqd
    clear nd
    generalize d0 = d at *
    generalize i0 = i at *
    generalize dE = D at *
    exact dv3 h k i2 (c1 := 1) (c2 := -(y * y)) (c3 := -(d * y ^ 2)) (by grind)
  have r := (pri_PP.mul (nsqd _ _ q)).resolve_left i0_nz
  have : PP ∣ 1 := by
    generalize dE = D at *
    exact dv2 h r (c1 := 1) (c2 := -(D * y)) (by grind)
  exact pri_PP.one this
theorem on_lift {x y : Int} : OnP PP (-1) d0 (x, y) ↔ liftZ y % PP = x * x % PP := by
  have n := lift_den y
  have hi := einv_ok _ n
  have k := dE_is
  have e : liftZ y = (y * y - 1) * einv (dE * (y * y) + 1) := rfl
  rw [e]
  constructor
  · intro h
    have h' : PP ∣ (-1) * x ^ 2 + y ^ 2 - 1 - d0 * x ^ 2 * y ^ 2 := h
    refine cong_dvd ?_
    generalize d0 = d at *
    generalize einv (dE * (y * y) + 1) = f at *
    generalize dE = D at *
    exact dv3 h' hi k (c1 := f) (c2 := x * x) (c3 := -(f * x ^ 2 * y ^ 2)) (by grind)
  · intro h
    have h' := dvd_cong h
    show PP ∣ (-1) * x ^ 2 + y ^ 2 - 1 - d0 * x ^ 2 * y ^ 2
    generalize d0 = d at *
    generalize einv (dE * (y * y) + 1) = f at *
    generalize dE = D at *
    exact dv3 h' hi k (c1 := D * (y * y) + 1) (c2 := -(y * y - 1)) (c3 := x ^ 2 * y ^ 2) (by grind)
theorem lift_back {x y : Int} (x0 : 0 ≤ x) (x1 : x < PP) (h : OnP PP (-1) d0 (x, y)) : rootB (liftZ y) = true ∧ rootV (liftZ y) = if x % 2 = 0 then x else PP - x := root_sq x0 x1 (on_lift.1 h)
theorem lift_on {y : Int} (h : rootB (liftZ y) = true) : OnP PP (-1) d0 (rootV (liftZ y), y) := by
  refine on_lift.2 ?_
  have hb := of_decide_eq_true h
  unfold rootV
  rw [if_pos h, fin2_sq, hb]
theorem on_neg {x y : Int} (h : OnP PP (-1) d0 (x, y)) : OnP PP (-1) d0 ((0 - x) % PP, y) := by
  refine on_lift.2 ((on_lift.1 h).trans ?_)
  rw [← Int.mul_emod]
  congr 1
  grind
abbrev bX : Int := 15112221349535400772501151409588531511454012693041857206046113283949847762202
abbrev bY : Int := 46316835694926478169428394003475163141307993866256225615783033603165251855960
theorem bY_is : PP ∣ 5 * bY - 4 := by decide +kernel
theorem base_on : OnP PP (-1) d0 (bX, bY) := by
  show PP ∣ (-1) * bX ^ 2 + bY ^ 2 - 1 - d0 * bX ^ 2 * bY ^ 2
  decide +kernel
theorem base_Q : Pe PP (emul (-1) d0 einv Q25519 (bX, bY)) (0, 1) := by
  refine nine_order crv1 mon1 base_on ⟨?_, fun k => pri_PP.one k.2⟩
  show PP ∣ 9 * (1 - bY) - 1 * 1 * (1 + bY)
  have h := bY_is
  generalize bY = y at *
  exact dv2 h h (c1 := -2) (c2 := 0) (by grind)
end Go.Proofs.YtkglcainhkbgbaaGreatDoor
namespace Go.Proofs.YtkglcainhkbgbaaGreatDoor
set_option maxRecDepth 100000
def pAdd (p q : Int × Int) : Int × Int := (addX p q % PP, addY p q % PP)
structure Cn (p : Int × Int) : Prop where
  x : 0 ≤ p.1 ∧ p.1 < PP
  y : 0 ≤ p.2 ∧ p.2 < PP
theorem cn_mod (x y : Int) : Cn (x % PP, y % PP) := ⟨⟨Int.emod_nonneg _ (by decide), Int.emod_lt_of_pos _ (by decide)⟩, ⟨Int.emod_nonneg _ (by decide), Int.emod_lt_of_pos _ (by decide)⟩⟩
theorem pe_mod (p : Int × Int) : Pe PP (p.1 % PP, p.2 % PP) p := ⟨dvd_cong (Int.emod_emod_of_dvd _ (Int.dvd_refl _)), dvd_cong (Int.emod_emod_of_dvd _ (Int.dvd_refl _))⟩
theorem iv_cg {a b : Int} (h : PP ∣ a - b) : PP ∣ iv a - einv b := dvd_cong (pow_mod (cong_dvd h) _)
theorem pAdd_pe (p q : Int × Int) : Pe PP (pAdd p q) (eadd (-1) d0 einv p q) := by
  refine (pe_mod (addX p q, addY p q)).trans ?_
  have k := dE_is
  have e1 : PP ∣ (1 + addT p q) - (1 + d0 * p.1 * q.1 * p.2 * q.2) := dv2 k k (c1 := p.1 * q.1 * (p.2 * q.2)) (c2 := 0) (by unfold addT; grind)
  have e2 : PP ∣ (1 - addT p q) - (1 - d0 * p.1 * q.1 * p.2 * q.2) := dv2 k k (c1 := -(p.1 * q.1 * (p.2 * q.2))) (c2 := 0) (by unfold addT; grind)
  have i1 := iv_cg e1
  have i2 := iv_cg e2
  unfold eadd addX addY
  refine ⟨?_, ?_⟩
  · show PP ∣ (p.1 * q.2 + p.2 * q.1) * iv (1 + addT p q) - (p.1 * q.2 + p.2 * q.1) * einv (1 + d0 * p.1 * q.1 * p.2 * q.2)
    generalize iv (1 + addT p q) = f at *
    generalize einv (1 + d0 * p.1 * q.1 * p.2 * q.2) = g at *
    exact dv2 i1 i1 (c1 := p.1 * q.2 + p.2 * q.1) (c2 := 0) (by grind)
  · show PP ∣ (p.2 * q.2 + p.1 * q.1) * iv (1 - addT p q) - (p.2 * q.2 - (-1) * p.1 * q.1) * einv (1 - d0 * p.1 * q.1 * p.2 * q.2)
    generalize iv (1 - addT p q) = f at *
    generalize einv (1 - d0 * p.1 * q.1 * p.2 * q.2) = g at *
    exact dv2 i2 i2 (c1 := p.2 * q.2 + p.1 * q.1) (c2 := 0) (by grind)
theorem pAdd_cn (p q : Int × Int) : Cn (pAdd p q) := cn_mod _ _
theorem on_pe {p q : Int × Int} (h : OnP PP (-1) d0 p) (e : Pe PP p q) : OnP PP (-1) d0 q := On.cg h e.1 e.2
theorem pAdd_on {p q : Int × Int} (hp : OnP PP (-1) d0 p) (hq : OnP PP (-1) d0 q) : OnP PP (-1) d0 (pAdd p q) := on_pe (eadd_on crv1 hp hq) (pAdd_pe p q).symm
def pMul (k : Nat) (p : Int × Int) : Int × Int := ((emul (-1) d0 einv k p).1 % PP, (emul (-1) d0 einv k p).2 % PP)
theorem pMul_pe (k : Nat) (p : Int × Int) : Pe PP (pMul k p) (emul (-1) d0 einv k p) := pe_mod _
theorem pMul_cn (k : Nat) (p : Int × Int) : Cn (pMul k p) := cn_mod _ _
theorem pMul_on {p : Int × Int} (hp : OnP PP (-1) d0 p) (k : Nat) : OnP PP (-1) d0 (pMul k p) := on_pe (emul_on crv1 hp k) (pMul_pe k p).symm
theorem base_cn : Cn (bX, bY) := ⟨⟨by decide, by decide⟩, ⟨by decide, by decide⟩⟩
end Go.Proofs.YtkglcainhkbgbaaGreatDoor
namespace Go.Proofs.YtkglcainhkbgbaaGreatDoor
set_option maxRecDepth 100000
open Go.RowKit
theorem lsum_bytS (v : Int) (h0 : 0 ≤ v) : ∀ n, lsum (byt v) n = v % 256 ^ n
  | 0 => by simp [lsum]
  | n + 1 => by
    have ih := lsum_bytS v h0 n
    have hp := p256_pos n
    rw [lsum, ih, byt, Int.pow_succ]
    have e1 := Int.emod_add_mul_ediv v (256 ^ n)
    have e2 := Int.emod_add_mul_ediv v (256 ^ n * 256)
    rw [← Int.ediv_ediv_of_nonneg (Int.le_of_lt hp)] at e2
    have e3 := Int.emod_add_mul_ediv (v / 256 ^ n) 256
    generalize v / 256 ^ n = q at *
    generalize v % 256 ^ n = r at *
    generalize v % (256 ^ n * 256) = s at *
    generalize (256 : Int) ^ n = p at *
    generalize q / 256 = a at *
    generalize q % 256 = b at *
    subst e3
    have : (b + 256 * a) * p = b * p + 256 * a * p := Int.add_mul _ _ _
    have h1 : p * (b + 256 * a) = b * p + 256 * a * p := by rw [Int.mul_comm, this]
    have h2 : p * 256 * a = 256 * a * p := by rw [Int.mul_assoc, Int.mul_comm]
    omega
theorem num_modS (v : Int) : num (fill (byt (v % PP)) 32) = v % PP := by
  have h0 := Int.emod_nonneg v (show PP ≠ 0 by decide)
  have h1 := Int.emod_lt_of_pos v (show (0 : Int) < PP by decide)
  unfold num
  rw [fill_len, lsum_congr (b := byt (v % PP)) 32 (fun j hj => fill_get _ _ _ hj), lsum_bytS _ h0, Int.emod_eq_of_lt h0 (Int.lt_trans h1 (by decide))]
theorem bytes_L (v : Int) (n : Nat) : Byt (fill (byt v) n) := fun i => by
  rcases Nat.lt_or_ge i n with h | h
  · rw [fill_get _ _ _ h]
    unfold byt
    omega
  · rw [List.getD_eq_getElem?_getD, List.getElem?_eq_none (by rw [fill_len]; omega)]
    simp
end Go.Proofs.YtkglcainhkbgbaaGreatDoor
namespace Go.Proofs.YtkglcainhkbgbaaGreatDoor
set_option maxRecDepth 100000
def dL : Nat → Int
  | 0 => 929955233495203
  | 1 => 466365720129213
  | 2 => 1662059464998953
  | 3 => 2033849074728123
  | 4 => 1442794654840575
  | _ => 0
theorem dL_lm : Lm dL := by unfold Lm; decide
def dGo : Int := 37095705934669439343138083508754565189542113879843219016388785533085940283555
theorem dL_is : Is5 dL dGo := ⟨dL_lm, by decide +kernel⟩
theorem dGo_is : PP ∣ dGo - d0 := by decide +kernel
theorem onB_valid (x y : Int) : onB dGo x y = validN x y := by
  have h : (1 + dGo * (x * x) * (y * y)) % PP = (1 + dE * (x * x * (y * y))) % PP := by
    have k := dE_is
    have l := dGo_is
    refine cong_dvd ?_
    generalize dE = E at *
    generalize dGo = G at *
    generalize d0 = d at *
    exact dv2 l k (c1 := x * x * (y * y)) (c2 := -(x * x * (y * y))) (by grind)
  unfold onB validN
  rw [h]
theorem rp_valid (xs ys : List Int) : rpB dGo xs ys = validP xs ys := by
  unfold rpB validP rpC
  rw [onB_valid]
theorem rpC_of {xs ys : List Int} (h : validP xs ys = true) : rpC xs ys = true := by
  unfold validP at h
  unfold rpC
  simp only [Bool.and_eq_true] at h ⊢
  exact h.1
theorem rpX_of {xs ys : List Int} (h : validP xs ys = true) : rpX xs ys = num xs := by unfold rpX; rw [if_pos (rpC_of h)]
theorem rpY_of {xs ys : List Int} (h : validP xs ys = true) : rpY xs ys = num ys := by unfold rpY; rw [if_pos (rpC_of h)]
end Go.Proofs.YtkglcainhkbgbaaGreatDoor
namespace Go.Proofs.YtkglcainhkbgbaaGreatDoor
set_option maxRecDepth 100000
open Go.RowKit
theorem lsum_inj {a b : Nat → Int} (ha : ∀ j, 0 ≤ a j ∧ a j < 256) (hb : ∀ j, 0 ≤ b j ∧ b j < 256) : ∀ n, lsum a n = lsum b n → ∀ j, j < n → a j = b j
  | 0, _, j, hj => by omega
  | n + 1, h, j, hj => by
    have bd : ∀ (c : Nat → Int), (∀ j, 0 ≤ c j ∧ c j < 256) → ∀ m, 0 ≤ lsum c m ∧ lsum c m < 256 ^ m := by
      intro c hc m
      induction m with
      | zero => simp [lsum]
      | succ m ih =>
        have hm := hc m
        have hp := p256_pos m
        rw [lsum, Int.pow_succ]
        have e1 : c m * 256 ^ m ≤ 255 * 256 ^ m := Int.mul_le_mul_of_nonneg_right (by omega) (Int.le_of_lt hp)
        have e2 : 0 ≤ c m * 256 ^ m := Int.mul_nonneg hm.1 (Int.le_of_lt hp)
        omega
    have h1 := bd a ha n
    have h2 := bd b hb n
    have hp := p256_pos n
    rw [lsum, lsum] at h
    have e : a n = b n := by
      rcases Int.lt_trichotomy (a n) (b n) with c | c | c
      · exfalso
        have : (a n + 1) * 256 ^ n ≤ b n * 256 ^ n := Int.mul_le_mul_of_nonneg_right (by omega) (Int.le_of_lt hp)
        rw [Int.add_mul] at this
        omega
      · exact c
      · exfalso
        have : (b n + 1) * 256 ^ n ≤ a n * 256 ^ n := Int.mul_le_mul_of_nonneg_right (by omega) (Int.le_of_lt hp)
        rw [Int.add_mul] at this
        omega
    rw [e] at h
    rcases Nat.lt_or_ge j n with c | c
    · exact lsum_inj ha hb n (by omega) j c
    · obtain rfl : j = n := by omega
      exact e
theorem valid_y1 {xs ys : List Int} (h : validP xs ys = true) : canN ys = true := by
  unfold validP at h
  simp only [Bool.and_eq_true] at h
  exact h.1.2
theorem valid_x1 {xs ys : List Int} (h : validP xs ys = true) : canN xs = true := by
  unfold validP at h
  simp only [Bool.and_eq_true] at h
  exact h.1.1
theorem num_ge {xs : List Int} (hb : Byt xs) : 0 ≤ num xs := lsum_nonneg (fun j => hb j) _
theorem can_lt {xs : List Int} (h : canN xs = true) : num xs < PP := by
  unfold canN at h
  simp at h
  exact h.2
end Go.Proofs.YtkglcainhkbgbaaGreatDoor
namespace Go.Proofs.YtkglcainhkbgbaaGreatDoor
set_option maxRecDepth 100000
open Go Go.RowKit
end Go.Proofs.YtkglcainhkbgbaaGreatDoor
namespace Go.Proofs.YtkglcainhkbgbaaGreatDoor
set_option maxRecDepth 100000
open Go Go.RowKit
section
variable {ops : Array Oper} {Q : Exit → Act → World → Prop} {md : Region.Mode} {F : Nat → Fact} {a0 : Act} {w0 : World} {i : Nat} {o : Oper} {ts : Array TypeId}
end
end Go.Proofs.YtkglcainhkbgbaaGreatDoor
namespace Go.Proofs.YtkglcainhkbgbaaGreatDoor
set_option maxRecDepth 100000
open Go Go.RowKit
section
variable {ops : Array Oper} {Q : Exit → Act → World → Prop} {md : Region.Mode} {F : Nat → Fact} {a0 : Act} {w0 : World} {i : Nat} {o : Oper} {ts : Array TypeId}
end
section
variable {ops : Array Oper} {Q : Exit → Act → World → Prop} {a0 : Act} {w : World} {id : Nat} {draw : Bool}
end
end Go.Proofs.YtkglcainhkbgbaaGreatDoor
namespace Go.Proofs.YtkglcainhkbgbaaGreatDoor
set_option maxRecDepth 100000
open Go Go.RowKit
theorem bytes_5 (v : Int) (n : Nat) : Byt (fill (byt v) n) := fun i => by
  by_cases hi : i < n
  · rw [fill_get _ _ _ hi]; unfold byt; omega
  · rw [List.getD_eq_getElem?_getD, List.getElem?_eq_none (by rw [fill_len]; omega)]; simp
section
variable {ops : Array Oper} {Q : Exit → Act → World → Prop} {md : Region.Mode} {F : Nat → Fact} {a0 : Act} {w0 : World} {i : Nat} {o : Oper} {ts : Array TypeId}
end
end Go.Proofs.YtkglcainhkbgbaaGreatDoor
namespace Go.Proofs.YtkglcainhkbgbaaGreatDoor
set_option maxRecDepth 100000
open Go.RowKit
end Go.Proofs.YtkglcainhkbgbaaGreatDoor
namespace Go.Proofs.YtkglcainhkbgbaaGreatDoor
set_option maxRecDepth 100000
open Go Go.RowKit
def InS (v t : Int) (ys : List Int) : Prop := (ys = [] ∧ t = v) ∨ (ys = [v % 256] ∧ t = v / 256 ∧ 0 < v) ∨ (ys = [v % 256, v / 256] ∧ t = 0 ∧ 256 ≤ v)
theorem InS.go {v t : Int} {ys : List Int} (h : InS v t ys) (h0 : 0 < t) (hv : v < 65536) : InS v (t / 256) (ys ++ [t % 256]) := by
  rcases h with ⟨rfl, rfl⟩ | ⟨rfl, rfl, h1⟩ | ⟨rfl, rfl, h1⟩
  · exact Or.inr (Or.inl ⟨rfl, rfl, h0⟩)
  · refine Or.inr (Or.inr ⟨?_, by omega, by omega⟩)
    rw [show v / 256 % 256 = v / 256 by omega]
    rfl
  · omega
section
variable {ops : Array Oper} {Q : Exit → Act → World → Prop} {md : Region.Mode} {F : Nat → Fact} {a0 : Act} {w0 : World} {i : Nat} {o : Oper} {ts : Array TypeId}
end
end Go.Proofs.YtkglcainhkbgbaaGreatDoor
namespace Go.Proofs.YtkglcainhkbgbaaGreatDoor
set_option maxRecDepth 100000
open Go Go.RowKit
end Go.Proofs.YtkglcainhkbgbaaGreatDoor
namespace Go.Proofs.YtkglcainhkbgbaaGreatDoor
set_option maxRecDepth 100000
open Go Go.RowKit
def liB (A : Int) (odd : Bool) : Bool := rootB (liftZ A) && !(odd && decide (rootV (liftZ A) % PP = 0))
def liX (A : Int) (odd : Bool) : List Int := if liB A odd = true then fill (byt ((if odd = true then 0 - rootV (liftZ A) else rootV (liftZ A)) % PP)) 32 else []
def liY (A : Int) (odd : Bool) : List Int := if liB A odd = true then fill (byt (A % PP)) 32 else []
section
variable {ops : Array Oper} {Q : Exit → Act → World → Prop} {md : Region.Mode} {F : Nat → Fact} {a0 : Act} {w0 : World} {i : Nat} {o : Oper}
end
section
variable {ops : Array Oper} {Q : Exit → Act → World → Prop} {a0 : Act} {w : World} {id : Nat} {draw : Bool}
end
end Go.Proofs.YtkglcainhkbgbaaGreatDoor
namespace Go.Proofs.YtkglcainhkbgbaaGreatDoor
set_option maxRecDepth 100000
open Go Go.RowKit
end Go.Proofs.YtkglcainhkbgbaaGreatDoor
namespace Go.Proofs.YtkglcainhkbgbaaGreatDoor
set_option maxRecDepth 100000
open Go Go.RowKit
def low7s (xs : List Int) : List Int := xs.set 31 (xs.getD 31 0 % 128)
def dcB (xs : List Int) : Bool := decide (xs.length = 32) && (canN (low7s xs) && liB (num (low7s xs)) (decide (128 ≤ xs.getD 31 0)))
def dcX (xs : List Int) : List Int := if dcB xs = true then liX (num (low7s xs)) (decide (128 ≤ xs.getD 31 0)) else []
def dcY (xs : List Int) : List Int := if dcB xs = true then liY (num (low7s xs)) (decide (128 ≤ xs.getD 31 0)) else []
section
variable {ops : Array Oper} {Q : Exit → Act → World → Prop} {md : Region.Mode} {F : Nat → Fact} {a0 : Act} {w0 : World} {i : Nat} {o : Oper} {ts : Array TypeId}
end
section
variable {ops : Array Oper} {Q : Exit → Act → World → Prop} {a0 : Act} {w : World} {id : Nat} {draw : Bool}
end
structure Tri (w : World) (p : Nat) (x y z : Value) : Prop where
  c0 : w.cell? ⟨p, 0, none⟩ = some x
  c1 : w.cell? ⟨p, 1, none⟩ = some y
  c2 : w.cell? ⟨p, 2, none⟩ = some z
  f0 : w.frozen? ⟨p, 0, none⟩ = false
  f1 : w.frozen? ⟨p, 1, none⟩ = false
  f2 : w.frozen? ⟨p, 2, none⟩ = false
theorem Tri.lt {w : World} {p : Nat} {x y z : Value} (h : Tri w p x y z) : p < w.heap.size := block_lt_of_cell h.c0
theorem Tri.up {w w' : World} {p : Nat} {x y z : Value} (h : Tri w p x y z) (n : Below w.heap.size w w') : Tri w' p x y z := by
  have hb := n.block p h.lt
  exact ⟨(World.cell?_of_block (a := ⟨p, 0, none⟩) hb).trans h.c0, (World.cell?_of_block (a := ⟨p, 1, none⟩) hb).trans h.c1, (World.cell?_of_block (a := ⟨p, 2, none⟩) hb).trans h.c2, (World.frozen?_of_block (a := ⟨p, 0, none⟩) hb).trans h.f0, (World.frozen?_of_block (a := ⟨p, 1, none⟩) hb).trans h.f1, (World.frozen?_of_block (a := ⟨p, 2, none⟩) hb).trans h.f2⟩
theorem Tri.new (w : World) (x y z : Value) (t : TypeId) : Tri (w.alloc (.cells #[x, y, z] t)) w.heap.size x y z := by
  have e : (w.alloc (.cells #[x, y, z] t)).heap[w.heap.size]? = some (.cells #[x, y, z] t) := heap_alloc_last _ _
  refine ⟨?_, ?_, ?_, ?_, ?_, ?_⟩
  all_goals first
    | (unfold World.cell?; simp only; rw [e]; rfl)
    | (unfold World.frozen?; simp only; rw [e]; simp)
end Go.Proofs.YtkglcainhkbgbaaGreatDoor
namespace Go.Proofs.YtkglcainhkbgbaaGreatDoor
set_option maxRecDepth 100000
open Go Go.RowKit
end Go.Proofs.YtkglcainhkbgbaaGreatDoor
namespace Go.Proofs.YtkglcainhkbgbaaGreatDoor
set_option maxRecDepth 100000
open Go Go.RowKit
theorem Two.put0 {w : World} {p : Nat} {x y : Value} (h : Two w p x y) (u : Value) : Two (w.setCell ⟨p, 0, none⟩ u) p u y :=
  ⟨World.cell?_setCell_same _ _ _ h.c0, by rw [World.cell?_setCell_other (h := by simp)]; exact h.c1, by rw [World.frozen?_setCell]; exact h.f0, by rw [World.frozen?_setCell]; exact h.f1⟩
theorem Two.put1 {w : World} {p : Nat} {x y : Value} (h : Two w p x y) (u : Value) : Two (w.setCell ⟨p, 1, none⟩ u) p x u :=
  ⟨by rw [World.cell?_setCell_other (h := by simp)]; exact h.c0, World.cell?_setCell_same _ _ _ h.c1, by rw [World.frozen?_setCell]; exact h.f0, by rw [World.frozen?_setCell]; exact h.f1⟩
theorem Two.put {w : World} {p : Nat} {x y : Value} (h : Two w p x y) (u v : Value) : Two ((w.setCell ⟨p, 0, none⟩ u).setCell ⟨p, 1, none⟩ v) p u v := (h.put0 u).put1 v
end Go.Proofs.YtkglcainhkbgbaaGreatDoor
namespace Go.Proofs.YtkglcainhkbgbaaGreatDoor
set_option maxRecDepth 100000
open Go Go.RowKit
end Go.Proofs.YtkglcainhkbgbaaGreatDoor
namespace Go.Proofs.YtkglcainhkbgbaaGreatDoor
set_option maxRecDepth 100000
open Go Go.RowKit
structure Pv (p : Int × Int) : Prop where
  on : OnP PP (-1) d0 p
  cn : Cn p
def lx (p : Int × Int) : List Int := fill (byt p.1) 32
def ly (p : Int × Int) : List Int := fill (byt p.2) 32
theorem lx_byt (p : Int × Int) : Byt (lx p) := bytes_5 _ _
theorem ly_byt (p : Int × Int) : Byt (ly p) := bytes_5 _ _
theorem ly_len (p : Int × Int) : (ly p).length = 32 := fill_len _ _
theorem num_fill {v : Int} (h0 : 0 ≤ v) (h1 : v < PP) : num (fill (byt v) 32) = v := by
  have e := num_modS v
  rwa [Int.emod_eq_of_lt h0 h1] at e
theorem lx_num {p : Int × Int} (h : Pv p) : num (lx p) = p.1 := num_fill h.cn.x.1 h.cn.x.2
theorem ly_num {p : Int × Int} (h : Pv p) : num (ly p) = p.2 := num_fill h.cn.y.1 h.cn.y.2
theorem can_fill {v : Int} (h0 : 0 ≤ v) (h1 : v < PP) : canN (fill (byt v) 32) = true := by
  unfold canN
  rw [num_fill h0 h1, fill_len, decide_eq_true h1]
  rfl
theorem lv_valid {p : Int × Int} (h : Pv p) : validP (lx p) (ly p) = true := by
  unfold validP
  rw [lx_num h, ly_num h, show canN (lx p) = true from can_fill h.cn.x.1 h.cn.x.2, show canN (ly p) = true from can_fill h.cn.y.1 h.cn.y.2, on_valid h.on]
  rfl
theorem Pv.add {p q : Int × Int} (hp : Pv p) (hq : Pv q) : Pv (pAdd p q) := ⟨pAdd_on hp.on hq.on, pAdd_cn _ _⟩
theorem pv_base : Pv (bX, bY) := ⟨base_on, base_cn⟩
end Go.Proofs.YtkglcainhkbgbaaGreatDoor
namespace Go.Proofs.YtkglcainhkbgbaaGreatDoor
set_option maxRecDepth 100000
open Go Go.RowKit
section
variable {ops : Array Oper} {Q : Exit → Act → World → Prop} {md : Region.Mode} {F : Nat → Fact} {a0 : Act} {w0 w : World} {i id : Nat} {o : Oper} {ts : Array TypeId} {draw : Bool}
theorem step_scl {D : Int} (hD : PP ∣ D - d0) (TT : HasTw w0 9) (CC : Em5 w0 8 0 D) (ZP : RowN w0 6 0 [0, 1]) (SS : HasSt w0 13) (II : Has3 w0 10 12 5 4) (X Y : Int) (hp : OnP PP (-1) d0 (X, Y)) {U : Nat → Int} (hU : W4 U) {v : Nat} (hv : wval U = (v : Int)) (hi : ops[i]? = some o) (p q j k : Nat) (hop : o.op = .call { callee := .value (.func 54), args := #[.tmp p, .tmp q], argTypes := ts }) (hj : waits md ops i j p = true) (hk : waits md ops i k q = true) (hFj : F j = Fact.eq (ag4 U)) (hFk : F k = EN [X, Y]) (hFi : F i = EN [(mlP v (X, Y)).1, (mlP v (X, Y)).2]) : StepOk Tryz.prog md ops Q F a0 w0 i := by
  refine step_call hi _ _ ts hop (by kernel_rfl) fun A w _ hw hF => ?_
  have ea := hF j p hj
  have eb := hF k q hk
  rw [hFj] at ea
  rw [hFk] at eb
  have e1 : A.tmps.getD p undef = ag4 U := ea
  obtain ⟨t, e2, L2⟩ := eb
  show Calls Tryz.prog _ #[A.tmps.getD p undef, A.tmps.getD q undef] w _
  rw [e1, e2]
  refine (scale_any w U hU v hv t X Y D L2 hp hD (TT.up hw) (CC.up hw) (ZP.up hw) (SS.up hw) (II.up hw)).mono ?_
  rintro e w' ⟨⟨s, X', Y', rfl, L, h1, h2⟩, hn⟩
  rw [hFi]
  exact ⟨_, rfl, hn, s, rfl, L.cg (by simp only [List.map_cons, List.map_nil, h1, h2])⟩
end
end Go.Proofs.YtkglcainhkbgbaaGreatDoor
namespace Go.Proofs.YtkglcainhkbgbaaGreatDoor
set_option maxRecDepth 100000
theorem iv_eInv (z : Int) : iv z = z ^ eInv := by
  unfold iv
  rw [show eIv = eInv from by decide +kernel]
theorem ex_plain {X Y Z T : Int} {q : Int × Int} (h : Ex X Y Z T q) : X * Z ^ eInv % PP = q.1 % PP ∧ Y * Z ^ eInv % PP = q.2 % PP := by
  have k := pj_plain h.pj
  simp only [iv_eInv] at k
  exact k
theorem add_mod (p q : Int × Int) : addX p q % PP = (eadd (-1) d0 einv p q).1 % PP ∧ addY p q % PP = (eadd (-1) d0 einv p q).2 % PP := by
  have h := pAdd_pe p q
  have h1 := cong_dvd h.1
  have h2 := cong_dvd h.2
  unfold pAdd at h1 h2
  simp only [Int.emod_emod_of_dvd _ (Int.dvd_refl PP)] at h1 h2
  exact ⟨h1, h2⟩
theorem ps_ok {p q : Int × Int} (hp : OnP PP (-1) d0 p) (hq : OnP PP (-1) d0 q) :
    psX dGo p.1 p.2 q.1 q.2 * psZ dGo p.1 p.2 q.1 q.2 ^ eInv % PP = addX p q % PP ∧ psY dGo p.1 p.2 q.1 q.2 * psZ dGo p.1 p.2 q.1 q.2 ^ eInv % PP = addY p q % PP := by
  have e := ex_plain (ex_sum dGo_is hp hq (ex_one p) (ex_one q))
  have a := add_mod p q
  exact ⟨e.1.trans a.1.symm, e.2.trans a.2.symm⟩
end Go.Proofs.YtkglcainhkbgbaaGreatDoor
