
/-
  The model's DecodeTime.
-/
import Derived.Test.YtakcpkfofgiehaaDoorTmS
import Derived.Test.YtakcpkfofgiehaaDoorDtN
import Derived.Test.YtakcpkfofgiehaaDoorCuE
import Derived.Test.YtakcpkfofgiehaaDoorSm8
namespace Go.Proofs.YtakcpkfofgiehaaDoor
set_option maxRecDepth 100000
open Go Go.RowKit

set_option maxHeartbeats 1000000 in
theorem l10Read_any (w : World) (g : Nat) (a : Option Addr) (c : Nat) (ys : List Int) (hr : Rd w g a .u8 ys) (hd : Dgt ys) (hl : ys.length ≤ 4) (h0 : 0 < ys.length) (n : Nat) (hn : ys.length = n) :
    Calls Tryd.prog 24 #[.slice a n c] w fun e w' => e = .returned (.int .i64 (dv ys)) ∧ w' = w := by
  have BD : Hid (∀ j, j ≤ ys.length → 0 ≤ dvK ys j ∧ dvK ys j < 10000) := fun j hj => by
    have := dvK_bd hd j hj
    have := p10_4 (show j ≤ 4 by omega)
    omega
  have ST : Hid (∀ j, dvK ys (j + 1) = dvK ys j * 10 + ys.getD j 0 - 48) := fun j => by
    show dvK ys j * 10 + (ys.getD j 0 - 48) = _
    omega
  have FV : Hid (dv ys = dvK ys n) := by show dv ys = _; rw [← hn]; rfl
  have F0 : Hid (dvK ys 0 = 0) := rfl
  generalize dvK ys = f at *
  generalize dv ys = D at *
  obtain ⟨off, rfl, hc⟩ := hr h0
  have HC : Hid (∀ j, j < n → w.cell? ⟨g, off + j, none⟩ = some (.int .u8 (ys.getD j 0)) ∧ 48 ≤ ys.getD j 0 ∧ ys.getD j 0 ≤ 57) := fun j hj => ⟨hc j (by omega), hd j (by omega)⟩
  have n4 : n ≤ 4 := by omega
  rw [hn] at BD
  clear hc hr hd hl h0 hn
  go_enter Tryd.func24, Tryd.ntmps24
  go_wp2
  go_loop [3, 4] (fun u v => ∃ j : Nat, j ≤ n ∧ u = .int .i64 (f j) ∧ v = .int .i64 (j : Int)) (fun _ v => n - (intOf v).toNat)
  case atStart => exact ⟨0, Nat.zero_le _, by rw [F0.out], rfl⟩
  case round =>
    obtain ⟨j, hj, rfl, rfl⟩ := hrel
    by_cases c : j < n
    · have t1 : decide ((j : Int) < (n : Int)) = true := by simp; omega
      have cl := (HC.out j c).1
      have b1 := (HC.out j c).2
      have b2 := BD.out j hj
      have st := hide (ST.out j)
      generalize ys.getD j 0 = x at *
      go_wp2
      go_round
      case rel => exact ⟨j + 1, by omega, by rw [st.out], by simp⟩
      case measure => simp [intOf]; omega
    · obtain rfl : j = n := by omega
      have t1 : decide ((j : Int) < (j : Int)) = false := by simp
      go_wp2
      go_ret
      exact ⟨by rw [FV.out]; rfl, rfl⟩
theorem EtIs.byt {t : Int} {L : List Int} (h : EtIs t L) : Byt L := by
  rcases h with ⟨_, y, k, x, _, rfl⟩ | ⟨_, rfl⟩
  · intro i
    by_cases c : i < 14
    · rw [getD_app_l _ _ _ (by rw [dgs_len]; exact c)]
      exact dgs_byt _ _ i
    · rw [getD_app_r _ _ _ (by rw [dgs_len]; omega), dgs_len]
      by_cases e : i = 14
      · subst e; decide
      · rw [show [(90 : Int)].getD (i - 14) 0 = 0 from by cases h : i - 14 with | zero => omega | succ n => rfl]; decide
  · intro i; simp
/-- Reading a part. -/
theorem read_part (w : World) (g off cc : Nat) (xs : List Int) (hr : Rd w g (some ⟨g, off, none⟩) .u8 xs) (h15 : xs.length = 15) (hD : Dgt (xs.take 14)) (i n : Nat) (hi : i + n ≤ 14) (hn : n ≤ 4) (h0 : 0 < n) :
    Calls Tryd.prog 24 #[.slice (some ⟨g, off + i, none⟩) n cc] w fun e w' => e = .returned (.int .i64 (dvP xs i n)) ∧ w' = w := by
  obtain ⟨o, e, r⟩ := hr.dropA i (by omega)
  cases e
  have hl : ((xs.drop i).take n).length = n := by rw [List.length_take, List.length_drop]; omega
  exact l10Read_any w g _ cc ((xs.drop i).take n) (r.takeA n) (dgt_part hD (by omega) i n hi) (by omega) (by omega) n hl

set_option maxHeartbeats 2000000 in
theorem specDecodeTime_any (w : World) (g : Nat) (a : Option Addr) (c : Nat) (xs : List Int) (hr : Rd w g a .u8 xs) (hb : Byt xs) (hc : xs.length ≤ c) :
    Calls Tryd.prog 11 #[.slice a xs.length c] w fun e w' => e = .returned (.agg #[.bool (tmB xs), .int .i64 (tmV xs)]) ∧ Below w.heap.size w w' := by
  have n0 : Below w.heap.size w (w.alloc (.cells #[.bool false, .int .i64 0] 28)) := (Below.refl _ _).alloc (Nat.le_refl _) _
  have T0 := Tl.new w (.bool false) (.int .i64 0) 28
  have NO : Hid (¬ GT xs → tmB xs = false ∧ tmV xs = 0) := fun h => ⟨tmB_no h, by unfold tmV; rw [if_neg (by rw [tmB_no h]; decide)]⟩
  have YES : Hid (GT xs → tmB xs = true ∧ tmV xs = TV xs) := fun h => ⟨tmB_yes h, by unfold tmV; rw [if_pos (tmB_yes h)]⟩
  generalize tmB xs = tb at *
  generalize tmV xs = tv at *
  by_cases h15 : xs.length = 15
  · obtain ⟨off, rfl, hcell⟩ := hr (by omega)
    have HC : Hid (∀ j, j < 15 → (w.alloc (.cells #[.bool false, .int .i64 0] 28)).cell? ⟨g, off + j, none⟩ = some (.int .u8 (xs.getD j 0))) := fun j hj => by
      have := hcell j (by omega)
      rw [n0.cell (p := ⟨g, off + j, none⟩) (block_lt_of_cell this)]
      exact this
    have RP := fun W (hw : Rd W g (some ⟨g, off, none⟩) .u8 xs) cc hD i n hi hn h0 => hide (read_part W g off cc xs hw h15 hD i n hi hn h0)
    have hr0 := hr.up n0
    have H15 := hide h15
    rw [h15] at hc ⊢
    clear h15 hcell
    go_enter Tryd.func11, Tryd.ntmps11
    go_wp2
    go_loop [3] (fun v => ∃ j : Nat, j ≤ 14 ∧ v = .int .i64 (j : Int) ∧ Hid (∀ i, i < j → 48 ≤ xs.getD i 0 ∧ xs.getD i 0 ≤ 57)) (fun v => 14 - (intOf v).toNat)
    case atStart => exact ⟨0, Nat.zero_le _, rfl, fun i h => absurd h (by omega)⟩
    case round =>
      obtain ⟨j, hj, rfl, HD⟩ := hrel
      by_cases c1 : j < 14
      · have t1 : decide ((j : Int) < 14) = true := by simp; omega
        have cl := HC.out j (by omega)
        have bx := hb j
        have BAD : Hid (xs.getD j 0 < 48 ∨ 57 < xs.getD j 0 → ¬ GT xs) := fun h G => by
          have := G.2.1 j (by rw [List.length_take, G.1]; omega)
          rw [List.getD_eq_getElem?_getD, List.getElem?_take, if_pos c1, ← List.getD_eq_getElem?_getD] at this
          omega
        have GOOD : Hid (48 ≤ xs.getD j 0 → xs.getD j 0 ≤ 57 → ∀ i, i < j + 1 → 48 ≤ xs.getD i 0 ∧ xs.getD i 0 ≤ 57) := fun h1 h2 i hi => by
          by_cases e : i = j
          · subst e; exact ⟨h1, h2⟩
          · exact HD.out i (by omega)
        generalize xs.getD j 0 = x at *
        by_cases g1 : x < 48
        · have t2 : decide (x < 48) = true := by simp; omega
          go_wp2
          exact bodyPost_ret (v := .agg #[.bool false, .int .i64 0]) (by simp [results, Tryd.results11, go_sem]) rfl ⟨by rw [(NO.out (BAD.out (.inl g1))).1, (NO.out (BAD.out (.inl g1))).2], n0⟩
        · have t2 : decide (x < 48) = false := by simp; omega
          by_cases g2 : 57 < x
          · have t3 : decide (57 < x) = true := by simp; omega
            go_wp2
            exact bodyPost_ret (v := .agg #[.bool false, .int .i64 0]) (by simp [results, Tryd.results11, go_sem]) rfl ⟨by rw [(NO.out (BAD.out (.inr g2))).1, (NO.out (BAD.out (.inr g2))).2], n0⟩
          · have t3 : decide (57 < x) = false := by simp; omega
            have GG := hide (GOOD.out (by omega) (by omega))
            go_wp2
            go_round
            case rel => exact ⟨j + 1, by omega, by simp, GG⟩
            case measure => simp [intOf]; omega
      · obtain rfl : j = 14 := by omega
        have HDD : Hid (Dgt (xs.take 14)) := fun i hi => by
          rw [List.length_take] at hi
          rw [List.getD_eq_getElem?_getD, List.getElem?_take, if_pos (by omega), ← List.getD_eq_getElem?_getD]
          exact HD.out i (by omega)
        have R0 := RP _ hr0 c HDD.out 0 4 (by omega) (by omega) (by omega)
        have R1 := RP _ hr0 (c - 4) HDD.out 4 2 (by omega) (by omega) (by omega)
        have R2 := RP _ hr0 (c - 6) HDD.out 6 2 (by omega) (by omega) (by omega)
        have R3 := fun q => RP ((w.alloc (.cells #[.bool false, .int .i64 0] 28)).drewN q) (hr0.of_block rfl) (c - 8) HDD.out 8 2 (by omega) (by omega) (by omega)
        have R4 := fun q => RP ((w.alloc (.cells #[.bool false, .int .i64 0] 28)).drewN q) (hr0.of_block rfl) (c - 10) HDD.out 10 2 (by omega) (by omega) (by omega)
        have R5 := fun q => RP ((w.alloc (.cells #[.bool false, .int .i64 0] 28)).drewN q) (hr0.of_block rfl) (c - 12) HDD.out 12 2 (by omega) (by omega) (by omega)
        have q0 := dvP_bd (dgt_part HDD.out (by have := H15.out; omega) 0 4 (by omega)) (by have := H15.out; omega)
        have q1 := dvP_bd (dgt_part HDD.out (by have := H15.out; omega) 4 2 (by omega)) (by have := H15.out; omega)
        have q2 := dvP_bd (dgt_part HDD.out (by have := H15.out; omega) 6 2 (by omega)) (by have := H15.out; omega)
        have q3 := dvP_bd (dgt_part HDD.out (by have := H15.out; omega) 8 2 (by omega)) (by have := H15.out; omega)
        have q4 := dvP_bd (dgt_part HDD.out (by have := H15.out; omega) 10 2 (by omega)) (by have := H15.out; omega)
        have q5 := dvP_bd (dgt_part HDD.out (by have := H15.out; omega) 12 2 (by omega)) (by have := H15.out; omega)
        have FV : Hid (TV xs = (dyA (dvP xs 0 4) + mdS (dvP xs 0 4) (dvP xs 4 2 - 1).toNat + (dvP xs 6 2 - 1)) * 86400 + dvP xs 8 2 * 3600 + dvP xs 10 2 * 60 + dvP xs 12 2) := rfl
        have ny : Hid (GT xs → 1970 ≤ dvP xs 0 4) := fun G => G.2.2.1.1
        have nm : Hid (GT xs → 1 ≤ dvP xs 4 2 ∧ dvP xs 4 2 ≤ 12) := fun G => G.2.2.2.1
        have SAME := fun L hy hm hL => hide (gt_iff (b := xs) (L := L) H15.out HDD.out hy hm hL)
        simp only [Nat.add_zero] at R0
        clear RP HC HD
        generalize TV xs = T at *
        generalize dvP xs 0 4 = y at *
        generalize dvP xs 4 2 = mm at *
        generalize dvP xs 6 2 = dd at *
        generalize dvP xs 8 2 = hh at *
        generalize dvP xs 10 2 = ii at *
        generalize dvP xs 12 2 = ss at *
        have cn4 : ¬ c = 4 := by omega
        have cn6 : ¬ c = 6 := by omega
        have cn8 : ¬ c = 8 := by omega
        have cn10 : ¬ c = 10 := by omega
        have cn12 : ¬ c = 12 := by omega
        go_wp2_with fail
        refine R0.out.mono ?_
        rintro e w1 ⟨rfl, h⟩
        have h := h.symm
        subst h
        go_wp2_with fail
        refine R1.out.mono ?_
        rintro e w1 ⟨rfl, h⟩
        have h := h.symm
        subst h
        by_cases g1 : y < 1970
        · have t1 : decide (y < 1970) = true := by simp; omega
          obtain ⟨rfl, rfl⟩ := NO.out (fun G => by have := ny.out G; omega)
          go_wp2
          exact bodyPost_ret (v := .agg #[.bool false, .int .i64 0]) (by simp [results, Tryd.results11, go_sem]) rfl ⟨rfl, n0⟩
        have t1 : decide (y < 1970) = false := by simp; omega
        by_cases g2 : mm < 1
        · have t2 : decide (mm < 1) = true := by simp; omega
          obtain ⟨rfl, rfl⟩ := NO.out (fun G => by have := nm.out G; omega)
          go_wp2
          exact bodyPost_ret (v := .agg #[.bool false, .int .i64 0]) (by simp [results, Tryd.results11, go_sem]) rfl ⟨rfl, n0⟩
        have t2 : decide (mm < 1) = false := by simp; omega
        by_cases g3 : 12 < mm
        · have t3 : decide (12 < mm) = true := by simp; omega
          obtain ⟨rfl, rfl⟩ := NO.out (fun G => by have := nm.out G; omega)
          go_wp2
          exact bodyPost_ret (v := .agg #[.bool false, .int .i64 0]) (by simp [results, Tryd.results11, go_sem]) rfl ⟨rfl, n0⟩
        have t3 : decide (12 < mm) = false := by simp; omega
        clear ny nm R0 R1
        go_wp2_with fail
        refine R2.out.mono ?_
        rintro e w1 ⟨rfl, h⟩
        have h := h.symm
        subst h
        clear R2
        obtain ⟨m, rfl⟩ : ∃ m : Nat, mm = (m : Int) + 1 := ⟨(mm - 1).toNat, by omega⟩
        have m12 : m < 12 := by omega
        have y0 : 1970 ≤ y := by omega
        have y9 : y ≤ 9999 := by omega
        have d9 : dd ≤ 99 := by omega
        have h9 : hh ≤ 99 := by omega
        have i9 : ii ≤ 99 := by omega
        have s9 : ss ≤ 99 := by omega
        have YD := fun z h => hide (l10YearDays_any (w.alloc (.cells #[.bool false, .int .i64 0] 28)) z h)
        have MD := fun k h => hide (l10MonthDays_any (w.alloc (.cells #[.bool false, .int .i64 0] 28)) y k (by omega) h)
        rw [show ((m : Int) + 1 - 1).toNat = m by omega] at FV
        have SAM := fun L hL => SAME L y0 (by omega) hL
        clear t1 t2 t3 g1 g2 g3 SAME
        go_wp2
        go_loop [6, 7] (fun u v => ∃ z : Int, 1970 ≤ z ∧ z ≤ y ∧ u = .int .i64 (dd - 1 + dyA z) ∧ v = .int .i64 z) (fun _ v => (y - intOf v).toNat)
        case atStart => exact ⟨1970, by omega, by omega, by rw [dyA_first]; simp, rfl⟩
        case round =>
          obtain ⟨z, z0, z1, rfl, rfl⟩ := hrel
          have a0 := dyA_ge z z0
          have a1 := dyA_le z z0
          by_cases c2 : z < y
          · have t1 : decide (z < y) = true := by simp; omega
            have yd := YD z (by omega)
            have yb := ydI_bd z
            have st : Hid (dd - 1 + dyA (z + 1) = dd - 1 + dyA z + ydI z) := by show _ = _; rw [dyA_step]; omega
            generalize ydI z = yz at *
            generalize dyA z = dz at *
            go_wp2_with fail
            refine yd.out.mono ?_
            rintro e w1 ⟨rfl, h⟩
            have h := h.symm
            subst h
            go_wp2
            go_round
            case rel => exact ⟨z + 1, by omega, by omega, by rw [st.out], by go_num⟩
            case measure => simp [intOf]; omega
          · obtain rfl : z = y := by omega
            have t1 : decide (z < z) = false := by simp
            obtain ⟨N0, hN0⟩ : ∃ N0, dd - 1 + dyA z = N0 := ⟨_, rfl⟩
            have n1 : -1 ≤ N0 := by omega
            have n2 : N0 ≤ 4000000 := by omega
            have HN0 := hide hN0
            rw [hN0]
            clear hN0 YD a0 a1 c2
            have sk : Hid (∀ k : Nat, mdS z (k + 1) = mdS z k + mdI z ((k : Int) + 1)) := fun _ => rfl
            have mb : Hid (∀ k : Nat, 28 ≤ mdI z ((k : Int) + 1) ∧ mdI z ((k : Int) + 1) ≤ 31) := fun k => mdI_bd z _
            have s0 : Hid (mdS z 0 = 0) := rfl
            have MB : Hid (∀ k, k ≤ 12 → 0 ≤ mdS z k ∧ mdS z k ≤ 366) := fun k hk => by
              have a := mdS_mono z 0 k
              have b := mdS_mono z k (12 - k)
              rw [show k + (12 - k) = 12 by omega, mdS_all] at b
              have c := ydI_bd z
              rw [Nat.zero_add] at a
              have e : mdS z 0 = 0 := rfl
              omega
            go_wp2
            go_loop [6, 8] (fun u v => ∃ k : Nat, k ≤ m ∧ u = .int .i64 (N0 + mdS z k) ∧ v = .int .i64 ((k : Int) + 1)) (fun _ v => (12 - intOf v).toNat)
            case atStart => exact ⟨0, Nat.zero_le _, by rw [s0.out]; simp, by simp⟩
            case round =>
              obtain ⟨k, hkm, rfl, rfl⟩ := hrel
              have b1 := MB.out k (by omega)
              have st := hide (sk.out k)
              have b2 := mb.out k
              by_cases c : k < m
              · have t1 : decide ((k : Int) + 1 < (m : Int) + 1) = true := by simp; omega
                have t2 : decide ((k : Int) < (m : Int)) = true := by simp; omega
                have m1 := MD k (by omega)
                have e1 : Hid (N0 + mdS z (k + 1) = N0 + mdS z k + mdI z ((k : Int) + 1)) := by show _ = _; rw [st.out]; omega
                clear st
                generalize mdI z ((k : Int) + 1) = md at *
                generalize mdS z k = sK at *
                go_wp2_with fail
                refine m1.out.mono ?_
                rintro q w1 ⟨rfl, h⟩
                have h := h.symm
                subst h
                go_wp2
                go_round
                case rel => exact ⟨k + 1, by omega, by rw [e1.out], by go_num⟩
                case measure => simp [intOf]; omega
              · obtain rfl : k = m := by omega
                have t1 : decide ((k : Int) + 1 < (k : Int) + 1) = false := by simp
                obtain ⟨N1, hN1⟩ : ∃ N1, N0 + mdS z k = N1 := ⟨_, rfl⟩
                have n3 : -1 ≤ N1 := by omega
                have n4 : N1 ≤ 5000000 := by omega
                have FT : Hid (T = N1 * 86400 + hh * 3600 + ii * 60 + ss) := by
                  show _ = _
                  have e : dyA z + mdS z k + (dd - 1) = N1 := by have := HN0.out; omega
                  rw [← e]
                  exact FV.out
                rw [hN1]
                clear hN1 st b2 MB mb s0 sk MD FV c b1 n1 n2
                go_wp2
                go_quiet ((go_at_call 24; (first | with_reducible refine (R3 _).out.mono ?_ | with_reducible refine (R4 _).out.mono ?_ | with_reducible refine (R5 _).out.mono ?_); rintro e w' ⟨rfl, rfl⟩; exact ⟨rfl, _, rfl⟩))
                obtain ⟨L, hL⟩ := etIs_some T
                have EB : Byt L := hL.byt
                have SP := fun W => hide (specEncodeTime_any W T L hL)
                have SM := hide (SAM L hL).out
                have N1' : Below w.heap.size w ((w.alloc (.cells #[.bool false, .int .i64 0] 28)).drewN nq) := ⟨n0.os, n0.tape, n0.output, n0.size, n0.block⟩
                have T1 : Tl ((w.alloc (.cells #[.bool false, .int .i64 0] 28)).drewN nq) w.heap.size (.bool false) (.int .i64 0) := T0
                have R1' : Rd ((w.alloc (.cells #[.bool false, .int .i64 0] 28)).drewN nq) g (some ⟨g, off, none⟩) .u8 xs := hr0.of_block rfl
                clear SAM hL T0 hr0 n0 R3 R4 R5
                go_wp2_with fail
                generalize (w.alloc (.cells #[.bool false, .int .i64 0] 28)).drewN nq = W1 at *
                rw [← FT.out]
                refine (SP W1).out.mono ?_
                rintro r w3 ⟨⟨a3, c3, g3, rfl, o3, p3, q3, r3⟩, n3⟩
                have N3 := N1'.trans (n3.mono N1'.size)
                have T3 := T1.up n3
                have SA := hide (l1Same_any w3 g3 g a3 (some ⟨g, off, none⟩) c3 c L xs o3.rd (R1'.up n3) EB hb)
                rw [H15.out] at SA
                have c0 := T3.c0
                have c1 := T3.c1
                have f0 := T3.fr 0
                have f1 := T3.fr 1
                by_cases hs : L = xs
                · obtain ⟨rfl, h⟩ := YES.out (SM.out.1 hs)
                  have h := h.symm
                  subst h
                  rw [decide_eq_true hs] at SA
                  have T4 := (T3.set0 (.bool true)).set1 (.int .i64 T)
                  have N4 : Below w.heap.size w ((w3.setCell ⟨w.heap.size, 0, none⟩ (.bool true)).setCell ⟨w.heap.size, 1, none⟩ (.int .i64 T)) := (N3.setCell (Nat.le_refl _) _).setCell (Nat.le_refl _) _
                  clear hs SP SM NO YES
                  go_wp2_with fail
                  refine SA.out.mono ?_
                  rintro r w4 ⟨rfl, h⟩
                  have h := h.symm
                  subst h
                  go_wp2
                  generalize (w3.setCell ⟨w.heap.size, 0, none⟩ (.bool true)).setCell ⟨w.heap.size, 1, none⟩ (.int .i64 T) = w5 at *
                  exact bodyPost_ret (v := .agg #[.bool true, .int .i64 T]) (by simp [results, Tryd.results11, go_sem, T4.c0, T4.c1]) rfl ⟨rfl, N4⟩
                · obtain ⟨rfl, rfl⟩ := NO.out (fun G => hs (SM.out.2 G))
                  rw [decide_eq_false hs] at SA
                  have T4 := (T3.set0 (.bool false)).set1 (.int .i64 0)
                  have N4 : Below w.heap.size w ((w3.setCell ⟨w.heap.size, 0, none⟩ (.bool false)).setCell ⟨w.heap.size, 1, none⟩ (.int .i64 0)) := (N3.setCell (Nat.le_refl _) _).setCell (Nat.le_refl _) _
                  clear hs SP SM NO YES
                  go_wp2_with fail
                  refine SA.out.mono ?_
                  rintro r w4 ⟨rfl, h⟩
                  have h := h.symm
                  subst h
                  go_wp2
                  generalize (w3.setCell ⟨w.heap.size, 0, none⟩ (.bool false)).setCell ⟨w.heap.size, 1, none⟩ (.int .i64 0) = w5 at *
                  exact bodyPost_ret (v := .agg #[.bool false, .int .i64 0]) (by simp [results, Tryd.results11, go_sem, T4.c0, T4.c1]) rfl ⟨rfl, N4⟩
  · have N := NO.out (fun G => h15 G.1)
    have t1 : ((xs.length : Int) == 15) = false := by simp; omega
    have t2 : decide ((xs.length : Int) = 15) = false := by simp; omega
    obtain ⟨rfl, rfl⟩ := N
    go_enter Tryd.func11, Tryd.ntmps11
    go_wp2
    exact bodyPost_ret (v := .agg #[.bool false, .int .i64 0]) (by simp [results, Tryd.results11, go_sem]) rfl ⟨rfl, n0⟩
end Go.Proofs.YtakcpkfofgiehaaDoor
