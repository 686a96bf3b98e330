import Derived.Test.YtkpomobhjkikeaaGreatDoorSS51
import Derived.Deep.DeepCutAuto
namespace Go.Proofs.YtkpomobhjkikeaaGreatDoor
set_option maxRecDepth 100000
open Go Go.RowKit
def K7 (wa : World) (g1 l1 g2 : Nat) (v : Value) (wc : World) : Prop := ∃ p, v = .pointer (some ⟨p, 0, none⟩) ∧ RwC wc p [.slice (some ⟨g1, 0, none⟩) l1 32, .slice (some ⟨g2, 0, none⟩) 12 32] 28 ∧ Below wa.heap.size wa wc
theorem k7_1 (wa : World) (g1 l1 g2 : Nat) : K7 wa g1 l1 g2 (.pointer (some ⟨wa.heap.size, 0, none⟩)) (wa.alloc (.cells #[.slice (some ⟨g1, 0, none⟩) l1 32, .slice (some ⟨g2, 0, none⟩) 12 32] 28)).drew :=
  ⟨_, rfl, RwC.new wa [.slice (some ⟨g1, 0, none⟩) l1 32, .slice (some ⟨g2, 0, none⟩) 12 32] 28, ((Below.refl _ _).alloc (Nat.le_refl _) _).drew⟩
theorem pces_get (xs : List Int) (n i : Nat) (hi : i < n) : (pces xs n).getD i [] = pce xs i := by simp [pces, List.getD, hi]
theorem pce_flat (xs : List Int) (k : Nat) : (pces xs (k + 1)).flatten = (pces xs k).flatten ++ pce xs k := by rw [pces_snoc]; simp
set_option maxRecDepth 100000 in
set_option maxHeartbeats 16000000 in
theorem sealed_law (w : World) (g0 : Nat) (a0 : Option Addr) (c0 : Nat) (X0 : List Int) (hX0 : Rd w g0 a0 .u8 X0) (bX0 : Byt X0) (h1 : Nat) (a1 : Option Addr) (c1 : Nat) (X1 : List Int) (hX1 : Rd w h1 a1 .u8 X1) (bX1 : Byt X1) (hL : HasR8 w) :
    Calls Tryz.prog 3 #[.slice a0 X0.length c0, .slice a1 X1.length c1] w fun e w' => e = .returned (.bool true) ∧ Below w.heap.size w w' := by
  by_cases q0 : X0.length ≤ 1048576
  · have u0 : decide ((1048576 : Int) < (X0.length : Int)) = false := by simp; omega
    by_cases q1 : X1.length ≤ 1048576
    · have u1 : decide ((1048576 : Int) < (X1.length : Int)) = false := by simp; omega
      obtain ⟨i0, hi, hz0, hz1, hz2⟩ := info_parts Tryz.info5
      have DP := hide (drawPieces_any w g0 a0 c0 X0 hX0 bX0 q0)
      have HL := hide (fun W (m : Below w.heap.size w W) => hL.up m)
      have H0 := hide (fun W (m : Below w.heap.size w W) => hX0.up m)
      have H1 := hide (fun W (m : Below w.heap.size w W) => hX1.up m)
      have Q0 := hide q0
      have Q1 := hide q1
      clear hL hX0 hX1
      go_enter Tryz.func3, Tryz.ntmps3
      go_wp2_with fail
      refine DP.out.mono ?_
      rintro e w1 ⟨v, ys, rfl, R1, yb, yl, n1⟩
      have LA := hide (lwAt_any w1 h1 a1 c1 X1 0 256 (H1.out w1 n1) bX1 q1 (by decide) (by decide) (by decide) (by decide))
      clear DP
      go_wp2_with fail
      refine LA.out.mono ?_
      rintro e w2 ⟨z, rfl, hz, m, rfl⟩
      have n2 : Below w1.heap.size w1 (w1.drewN m) := below_drewN (Below.refl _ _) m
      clear LA
      generalize w1.drewN m = w2 at *
      have zz : IntKind.u8.wrap (z : Int) = (z : Int) := by rw [IntKind.wrap_u8]; omega
      have nA : Below w2.heap.size w2 (w2.alloc (.cells #[.int .u8 (z : Int)] 5)) := (Below.refl _ _).alloc (Nat.le_refl _) _
      have N2 := nxt n1 n2
      have zw := N2.size
      obtain ⟨v5, w3, hap, R3, m3⟩ := append_any (P := Tryz.prog) (w2.alloc (.cells #[.int .u8 (z : Int)] 5)) 22 i0 Tryz.underlying22 hi hz0 hz1 hz2 w.heap.size w.heap.size v ys ((R1.up n2).up nA) w2.heap.size (some ⟨w2.heap.size, 0, none⟩) 1 [(z : Int)] (blk_lit1 w2 .u8 5 (z : Int)).own0.rd (fun h => nomatch h) (by simp; omega) (Nat.le_refl _) (Nat.le_trans zw nA.size)
      have N3 : Below w.heap.size w w3 := (nxt N2 nA).trans m3
      have bD : Byt (ys ++ [(z : Int)]) := byt_app yb (fun i => by
        match i with
        | 0 => exact ⟨by simp, by simp; omega⟩
        | n + 1 => exact ⟨by simp, by simp⟩)
      have lD : (ys ++ [(z : Int)]).length ≤ 6146 ∧ 1 ≤ (ys ++ [(z : Int)]).length := by simp; omega
      have ED := hide (DR.ofRowK R3)
      obtain ⟨D, hD⟩ : ∃ D, D = ys ++ [(z : Int)] := ⟨_, rfl⟩
      rw [← hD] at R3 bD lD ED
      clear R1 n1 n2 nA N2 zw m3 yb yl hD
      have BD := hide bD
      have LD := hide lD
      have SX := hide (lwSix_any w3 h1 g0 a1 a0 c1 c0 X1 X0 (H1.out w3 N3) (H0.out w3 N3) bX1 bX0 Q1.out Q0.out)
      have N3' := hide N3
      clear bD lD N3 R3 hz bX0 H0
      obtain ⟨da, dc, dg, e5, dr, dn, dl⟩ := ED.out
      subst e5
      go_wp2_with (first | (at_builtin; refine Lib.wpList_append_run _ rfl _ _ 22 22 rfl _ _ rfl rfl _ _ hap ?_) | fail)
      clear hap zz
      refine SX.out.mono ?_
      rintro e w4 ⟨q, g1, g2, g3, X, Y, Z, rfl, k0, k1, -, oX, oY, -, HB, n4⟩
      have N4 := hide (nxt N3'.out n4)
      have D4 := hide (ED.out.up n4)
      have OX := hide oX
      have OY := hide oY
      have nd : Below w4.heap.size w4 w4.drew := (Below.refl _ _).drew
      have bA : ∀ {W : World}, Below w4.heap.size w4 W → ∀ o, Below w4.heap.size w4 (W.alloc o) := fun n o => n.alloc n.size o
      have l32 : (12 : Int) ≤ (Y.length : Int) := by have := HB.out.2.1.2; omega
      clear SX ED dr dn dl n4 oX oY N3'
      go_upto_region 5 with fail
      go_cut [7] (fun v wc => K7 w4 g1 X.length g2 v wc)
      case first =>
        have CY : Hid (∀ W, Below w4.heap.size w4 W → (W.cell? ⟨q, 0, none⟩ = some (.slice (some ⟨g1, 0, none⟩) X.length 32) ∧ W.cell? ⟨q, 1, none⟩ = some (.slice (some ⟨g2, 0, none⟩) Y.length 32))) := fun W m => ⟨(m.cell (block_lt_of_cell k0)).trans k0, (m.cell (block_lt_of_cell k1)).trans k1⟩
        go_region_held3 (fun W => W.cell? ⟨q, 0, none⟩ = some (.slice (some ⟨g1, 0, none⟩) X.length 32) ∧ W.cell? ⟨q, 1, none⟩ = some (.slice (some ⟨g2, 0, none⟩) Y.length 32))
          (first | exact (unhide CY) _ nd | exact (unhide CY) _ (bA nd _) | exact (unhide CY) _ ((bA nd _).setCell (Nat.le_refl _) _) | exact (unhide CY) _ (((bA nd _).setCell (Nat.le_refl _) _).setCell (Nat.le_refl _) _))
          (fail)
        all_goals
          go_wp2_with fail
          go_meet
          exact k7_1 w4 g1 X.length g2
      case rest =>
        obtain ⟨p7, e7, T7, n5⟩ := hcut
        obtain ⟨v7, hv7⟩ : ∃ v, v = u7 := ⟨_, rfl⟩
        rw [← hv7] at e7 ⊢
        subst e7
        clear hv7
        have N5 := hide (nxt N4.out n5)
        have D5 := hide (D4.out.up n5)
        have KD5 : Hid (KD wc (some ⟨g1, 0, none⟩) 32 X (some ⟨g2, 0, none⟩) 32 (Y.take 12)) := ⟨g1, g2, OX.out.rd.up n5, HB.out.1.1, by rw [HB.out.1.2]; exact Nat.le_refl _, rd_takeS (OY.out.rd.up n5) 12, byt_takeS HB.out.2.1.1 12, fun h => nomatch h⟩
        have HX : Hid (X.length = 32) := HB.out.1.2
        have HV : Hid ((Y.take 12).length = 12) := by show _ = _; rw [List.length_take, HB.out.2.1.2]; rfl
        obtain ⟨V, hV⟩ : ∃ V, V = Y.take 12 := ⟨_, rfl⟩
        rw [← hV] at KD5 HV
        have CP := hide (copyC wc (.slice da D.length dc) D D5.out (by have := LD.out.1; omega))
        clear n5 OX OY HB hV N4 D4 k0 k1 l32 nd bA
        go_wp2_with fail
        refine CP.out.mono ?_
        rintro e w6 ⟨v6, rfl, ⟨xa, xc, xg, rfl, xr, xz, xl⟩, n6⟩
        have PP := hide (implPieces_any w6 xg xa xc D xr xl (by have := LD.out.1; omega))
        have N6 := hide (nxt N5.out n6)
        have D6 := hide (D5.out.up n6)
        have KD6 := hide (KD5.out.up n6)
        have T6 := T7.up n6
        clear CP xr xz xl n6 N5 D5 KD5 T7
        go_wp2_with fail
        refine PP.out.mono ?_
        rintro e w7 ⟨⟨v8, bs, rfl, BP⟩, n7⟩
        obtain ⟨nP, hnP⟩ : ∃ n, n = pcN D := ⟨_, rfl⟩
        rw [← hnP] at BP
        have HP := hide hnP
        have HN : Hid (1 ≤ nP ∧ nP ≤ 4) := by
          have h1 := LD.out
          show _ ∧ _
          rw [hnP]
          unfold pcN
          omega
        obtain ⟨g8, c8, e8, -, hg8, -, hc8⟩ := BP.cells (by rw [pces_len]; exact HN.out.1)
        rw [pces_len] at e8 hc8
        subst e8
        have N7 := hide (nxt N6.out n7)
        have D7 := hide (D6.out.up n7)
        have KD7 := hide (KD6.out.up n7)
        have T7 := hide (T6.up n7)
        have HC8 := hide hc8
        have HG8 := hide hg8
        have BPH := hide BP
        have tw : IntKind.i64.wrap ((D.length : Int) + 2048) = (D.length : Int) + 2048 := by have := LD.out.1; rw [IntKind.wrap_i64]; omega
        have tx : IntKind.i64.wrap ((D.length : Int) + 2048 - 1) = (D.length : Int) + 2048 - 1 := by have := LD.out.1; rw [IntKind.wrap_i64]; omega
        have tq : Int.tdiv ((D.length : Int) + 2048 - 1) 2048 = (nP : Int) := by
          rw [hnP, Int.tdiv_eq_ediv_of_nonneg (by omega)]
          unfold pcN
          omega
        have tr : IntKind.i64.wrap (nP : Int) = (nP : Int) := by have := HN.out.2; rw [IntKind.wrap_i64]; omega
        have ts : ((nP : Int) != (nP : Int)) = false := by simp
        have nB : Below w7.heap.size w7 (w7.alloc (.cells #[] 5)) := (Below.refl _ _).alloc (Nat.le_refl _) _
        have RB0 := RowB.lit0 w7
        obtain ⟨B, hB⟩ : ∃ B, B = w7.heap.size := ⟨_, rfl⟩
        rw [← hB] at RB0
        have sB : Hid (B ≤ (w7.alloc (.cells #[] 5)).heap.size) := by show _ ≤ _; rw [hB]; exact nB.size
        have CF : Hid (∀ W, Below B (w7.alloc (.cells #[] 5)) W → Below w7.heap.size w7 W) := fun W n => by
          rw [hB] at n
          exact nB.trans n
        clear PP n7 N6 D6 KD6 T6 hc8 hg8 BP hnP nB
        go_upto_region 11 with fail
        rw [← hB]
        clear hB tw tx tq tr ts
        have RB := hide RB0
        clear RB0
        generalize w7.alloc (.cells #[] 5) = wB at *
        go_loopw [9, 10] (fun v i wr => ∃ (k : Nat) (pd : Nat → Int) (va : Option Addr) (vn vc : Nat), k ≤ nP ∧ i = .int .i64 (k : Int) ∧ v = .slice va vn vc ∧ Hid (SsP X V D pd k) ∧ Hid (RowB wr B v (flR (ssR X V D pd k))) ∧ Hid (Below B wB wr)) (fun _ i _ => nP - (intOf i).toNat)
        case atStart => exact ⟨0, fun _ => 0, _, _, _, Nat.zero_le _, rfl, rfl, ⟨fun i hi => absurd hi (by omega), BD.out⟩, RB.out, Below.refl _ _⟩
        case round =>
          obtain ⟨k, pd, va, vn, vc, hk, rfl, rfl, S, R, NB⟩ := hrel
          clear RB
          have m7 := CF.out wr NB.out
          have lo : B ≤ wr.heap.size := Nat.le_trans sB.out NB.out.size
          by_cases hlt : k < nP
          · have t0 : (k : Int) < (nP : Int) := by omega
            have t1 : decide ((k : Int) < (nP : Int)) = true := decide_eq_true t0
            have k1 : IntKind.i64.wrap ((k : Int) + 1) = ((k + 1 : Nat) : Int) := by have := HN.out.2; rw [IntKind.wrap_i64]; omega
            have hcell := HC8.out k hlt
            have L8 := BPH.out.b k (by rw [pces_len]; exact hlt)
            rw [pces_get D nP k hlt] at hcell L8
            have DPk : DR w7 (.slice (bs.getD k plc0).a (pce D k).length (bs.getD k plc0).c) (pce D k) := ⟨_, _, _, rfl, L8.o.rd, L8.n, L8.c⟩
            have nd : Below wr.heap.size wr wr.drew := (Below.refl _ _).drew
            have m7d := nxt m7 nd
            have NW : Hid (Below B wB wr.drew) := NB.out.trans (nd.mono lo)
            have CH := hide (pt_chain wr.drew B wB h1 a1 c1 X1 (H1.out _ (nxt N7.out m7d)) bX1 Q1.out g1 g2 X V (KD7.out.up m7d) X.length 12 rfl HV.out HX.out rfl k nP D BD.out HP.out (by have := HN.out.2; omega) hlt pd S.out _ _ (DPk.up m7d) (.slice va vn vc) (R.out.up nd) (Nat.le_trans lo nd.size) NW.out (HL.out _ (nxt N7.out m7d)))
            have CY : Hid (∀ W, Below B wB W → (W.cell? ⟨p7, 0, none⟩ = some (.slice (some ⟨g1, 0, none⟩) X.length 32) ∧ W.cell? ⟨p7, 1, none⟩ = some (.slice (some ⟨g2, 0, none⟩) 12 32) ∧ W.cell? ⟨g8, k, none⟩ = some (.slice (bs.getD k plc0).a (pce D k).length (bs.getD k plc0).c))) := fun W n => ⟨(T7.out.up (CF.out W n)).c0, (T7.out.up (CF.out W n)).c1, (World.cell?_of_block (a := ⟨g8, k, none⟩) ((CF.out W n).block g8 HG8.out)).trans hcell⟩
            clear hcell L8 DPk m7d m7 R S nd
            generalize (bs.getD k plc0).a = pa at *
            generalize (bs.getD k plc0).c = pc at *
            generalize (pce D k).length = xn at *
            go_upto_region 13 with fail
            go_region_held3 (fun W => W.cell? ⟨p7, 0, none⟩ = some (.slice (some ⟨g1, 0, none⟩) X.length 32) ∧ W.cell? ⟨p7, 1, none⟩ = some (.slice (some ⟨g2, 0, none⟩) 12 32) ∧ W.cell? ⟨g8, k, none⟩ = some (.slice pa xn pc))
              (first | exact CY.out _ NB.out | exact CY.out _ NW.out | exact CY.out _ m1.out | exact CY.out _ m2.out | exact CY.out _ FN.out)
              (first
                | (go_at_call 5; with_reducible refine CH.out.mono ?_; rintro e w50 ⟨z1, rfl, m1, N2'⟩)
                | (go_at_call 9; with_reducible refine N2'.mono ?_; rintro e w51 ⟨y1, y2, y3, rfl, m2, AP⟩)
                | (refine ss_appX rfl (.tmp 59) (.tmp 70) 22 22 rfl (.slice va vn vc) (.slice y1 y2 y3) rfl rfl _ AP ?_; rintro v3 wz ⟨⟨xb, xn, xc, rfl⟩, OE, FN⟩)
                | fail)
            all_goals
              obtain ⟨pq, S', R'⟩ := OE.out
              have S' := hide S'
              have R' := hide R'
              clear CH AP CY NW NB m1 m2 OE
              go_wp2
              go_roundw
              case rel => exact ⟨k + 1, pq, _, _, _, by omega, by first | rfl | go_num, rfl, S', R', FN⟩
              case measure => simp [intOf]; omega
          · obtain rfl : k = nP := by omega
            have HR := hide S.out.cut
            have HG := hide (fun i (hi : i < k) => S.out.back hi)
            have BA := hide (S.out.byt (Nat.le_refl k))
            have LA := hide (S.out.len (Nat.le_refl k))
            have LS := hide (ssR_len X V D pd k)
            have GS := hide (fun i (hi : i < k) => ssR_get X V D pd k i hi)
            have DA := hide (DR.ofRowK R.out)
            have N8 := hide (nxt N7.out m7)
            have M7 := hide m7
            have t1 : decide ((k : Int) < (k : Int)) = false := decide_eq_false (by omega)
            have hkk : (k : Int) = (k : Int) := rfl
            obtain ⟨all, hall⟩ : ∃ l, l = flR (ssR X V D pd k) := ⟨_, rfl⟩
            obtain ⟨rs, hrs⟩ : ∃ l, l = ssR X V D pd k := ⟨_, rfl⟩
            rw [← hrs] at HR LS GS
            rw [hrs, ← hall] at HR
            rw [← hrs] at HR
            rw [← hall] at BA LA DA
            have CT := hide (ctC wr (.slice va vn vc) all DA.out BA.out (by have := LA.out; have := HN.out.2; omega) (HL.out wr N8.out))
            clear S R hall hrs m7 DA CF NB lo
            go_wp2_with fail
            refine CT.out.mono ?_
            rintro e w9 ⟨⟨vr, bt, vl, rfl, IR, RL, -⟩, n9⟩
            rw [HR.out.1] at IR
            rw [HR.out.2.2] at RL
            rw [HR.out.2.1]
            obtain ⟨gv, cv, ev, -, hgv, -, hcv, -⟩ := IR.cells (by rw [LS.out]; exact HN.out.1)
            rw [LS.out] at ev hcv
            subst ev
            obtain ⟨al, cl, gl, el, -⟩ := RL.rd
            have el' : vl = .slice al 0 cl := el
            subst el'
            have HCV := hide hcv
            have HGV := hide hgv
            have IRH := hide IR
            have nC : Below w9.heap.size w9 (w9.alloc (.cells #[.int .i64 0, .slice (some ⟨gv, 0, none⟩) k cv, .slice al 0 cl] 36)) := (Below.refl _ _).alloc (Nat.le_refl _) _
            have T9 : RwC (w9.alloc (.cells #[.int .i64 0, .slice (some ⟨gv, 0, none⟩) k cv, .slice al 0 cl] 36)) w9.heap.size [.int .i64 0, .slice (some ⟨gv, 0, none⟩) k cv, .slice al 0 cl] 36 := RwC.new w9 _ _
            have M9 := hide (nxt (nxt M7.out n9) nC)
            have N9 := hide (nxt (nxt N8.out n9) nC)
            have NC := hide nC
            obtain ⟨p9, hp9⟩ : ∃ q, q = w9.heap.size := ⟨_, rfl⟩
            rw [← hp9] at T9
            have x0 := T9.c0
            have x1 := T9.c1
            have x2 := T9.c2
            have ts : ((k : Int) != (k : Int)) = false := by simp
            clear CT n9 IR RL hcv hgv el nC
            go_upto_region 15 with fail
            rw [← hp9]
            clear hp9
            generalize w9.alloc (.cells #[.int .i64 0, .slice (some ⟨gv, 0, none⟩) k cv, .slice al 0 cl] 36) = wa at *
            have nD : Below wa.heap.size wa (wa.alloc (.cells #[] 5)) := (Below.refl _ _).alloc (Nat.le_refl _) _
            have RG0 := RowB.lit0 wa
            obtain ⟨E, hE⟩ : ∃ E, E = wa.heap.size := ⟨_, rfl⟩
            rw [← hE] at RG0
            have sE : Hid (E ≤ (wa.alloc (.cells #[] 5)).heap.size) := by show _ ≤ _; rw [hE]; exact nD.size
            have CG : Hid (∀ W, Below E (wa.alloc (.cells #[] 5)) W → Below wa.heap.size wa W) := fun W n => by
              rw [hE] at n
              exact nD.trans n
            have T9H := hide T9
            clear nD T9
            go_upto_region 19 with fail
            rw [← hE]
            clear hE x0 x2 ts
            have RG := hide RG0
            clear RG0
            generalize wa.alloc (.cells #[] 5) = wE at *
            go_loopw [12, 13] (fun v i wr => ∃ (j : Nat) (va : Option Addr) (vn vc : Nat), j ≤ k ∧ i = .int .i64 (j : Int) ∧ v = .slice va vn vc ∧ Hid (RowB wr E v (pces D j).flatten) ∧ Hid (Below E wE wr)) (fun _ i _ => k - (intOf i).toNat)
            case atStart => exact ⟨0, _, _, _, Nat.zero_le _, rfl, rfl, RG.out, Below.refl _ _⟩
            case round =>
              obtain ⟨j, ua, un, uc, hj, rfl, rfl, R, NB⟩ := hrel
              clear RG x1
              have ma := CG.out wr NB.out
              have lo : E ≤ wr.heap.size := Nat.le_trans sE.out NB.out.size
              have x1 : wr.cell? ⟨p9, 1, none⟩ = some (.slice (some ⟨gv, 0, none⟩) k cv) := (T9H.out.up ma).c1
              by_cases hlt : j < k
              · have t0 : (j : Int) < (k : Int) := by omega
                have t1 : decide ((j : Int) < (k : Int)) = true := decide_eq_true t0
                have k1 : IntKind.i64.wrap ((j : Int) + 1) = ((j + 1 : Nat) : Int) := by have := HN.out.2; rw [IntKind.wrap_i64]; omega
                have hg := GS.out j hlt
                have hcell := (HCV.out j hlt).2
                have L9 := IRH.out.b j (by rw [LS.out]; exact hlt)
                have hbk := HG.out j hlt
                rw [hg] at hcell L9
                obtain ⟨SS, hSS⟩ : ∃ l, l = sdP X V (j : Int) 23 (pce D j) (pd j) := ⟨_, rfl⟩
                rw [← hSS] at hbk
                have hcell : w9.cell? ⟨gv, j * 2 + 1, none⟩ = some (.slice (bt.getD j plc0).a SS.length (bt.getD j plc0).c) := by rw [hSS]; exact hcell
                have L9 : Lie w9 SS (bt.getD j plc0) := by rw [hSS]; exact L9
                have HU := hide hbk
                have mq : Below w9.heap.size w9 wr := NC.out.trans ((CG.out wr NB.out).mono NC.out.size)
                have DS : DR wr (.slice (bt.getD j plc0).a SS.length (bt.getD j plc0).c) SS := ⟨_, _, _, rfl, L9.o.rd.up mq, L9.n, L9.c⟩
                have mw := nxt M9.out ma
                have K9 := KD7.out.up mw
                have nq := nxt N9.out ma
                have UP : Hid (∀ W, Below wr.heap.size wr W → Calls Tryz.prog 11 #[.agg #[.slice (some ⟨g1, 0, none⟩) X.length 32, .slice (some ⟨g2, 0, none⟩) 12 32], .int .i64 (j : Int), .slice (bt.getD j plc0).a SS.length (bt.getD j plc0).c] W fun e w' => ∃ a c, e = .returned (.agg #[.int .i64 0, .int .i64 23, .slice a (pce D j).length c]) ∧ DR w' (.slice a (pce D j).length c) (pce D j) ∧ Below wr.heap.size wr w' ∧ Below W.heap.size W w') := fun W m => by
                  have h := upC W (some ⟨g1, 0, none⟩) 32 X (some ⟨g2, 0, none⟩) 32 V (K9.up m) (j : Int) _ SS (DS.up m) HU.out.2.2.2.1 (by have := HU.out.2.2.2.2; omega) (HL.out W (nxt nq m))
                  rw [HU.out.1, HU.out.2.1, HU.out.2.2.1, HV.out] at h
                  exact h.mono (by rintro e w' ⟨a, c, rfl, d, n⟩; exact ⟨a, c, rfl, d, nxt m n, n⟩)
                have CY : Hid (∀ W, Below wr.heap.size wr W → (W.cell? ⟨p7, 0, none⟩ = some (.slice (some ⟨g1, 0, none⟩) X.length 32) ∧ W.cell? ⟨p7, 1, none⟩ = some (.slice (some ⟨g2, 0, none⟩) 12 32) ∧ W.cell? ⟨p9, 1, none⟩ = some (.slice (some ⟨gv, 0, none⟩) k cv) ∧ W.cell? ⟨gv, j * 2 + 1, none⟩ = some (.slice (bt.getD j plc0).a SS.length (bt.getD j plc0).c))) := fun W m => ⟨(T7.out.up (nxt mw m)).c0, (T7.out.up (nxt mw m)).c1, (T9H.out.up (nxt ma m)).c1, (World.cell?_of_block (a := ⟨gv, j * 2 + 1, none⟩) ((nxt mq m).block gv HGV.out)).trans hcell⟩
                have nd : Below wr.heap.size wr wr.drew := (Below.refl _ _).drew
                have bA : ∀ {W : World}, Below wr.heap.size wr W → ∀ o, Below wr.heap.size wr (W.alloc o) := fun n o => n.alloc n.size o
                have LD2 := hide (show (pce D j).length ≤ 2048 by rw [pce_len]; omega)
                clear hg hcell L9 hbk hSS HU mq DS mw K9 nq ma
                generalize (bt.getD j plc0).a = aS at *
                generalize (bt.getD j plc0).c = cS at *
                generalize SS.length = nS at *
                go_upto_region 21 with fail
                go_cut [14] from 92 to 119 (fun v wc => C10 wr 23 (pce D j) v wc)
                case first =>
                  have U0 := hide ((unhide UP) wr.drew nd)
                  have U1 := hide ((unhide UP) (wr.drew.alloc (.cells #[.int .i64 0, .int .i64 0, .slice none 0 0] 39)) (bA nd _))
                  clear UP
                  go_region_held3 (fun W => W.cell? ⟨p7, 0, none⟩ = some (.slice (some ⟨g1, 0, none⟩) X.length 32) ∧ W.cell? ⟨p7, 1, none⟩ = some (.slice (some ⟨g2, 0, none⟩) 12 32) ∧ W.cell? ⟨p9, 1, none⟩ = some (.slice (some ⟨gv, 0, none⟩) k cv) ∧ W.cell? ⟨gv, j * 2 + 1, none⟩ = some (.slice aS nS cS))
                    (first | exact (unhide CY) _ nd | exact (unhide CY) _ (bA nd _) | exact (unhide CY) _ nm | exact (unhide CY) _ (bA nm _) | exact (unhide CY) _ (nm.setCell (Nat.le_refl _) _) | exact (unhide CY) _ ((nm.setCell (Nat.le_refl _) _).setCell (Nat.le_refl _) _) | exact (unhide CY) _ (((nm.setCell (Nat.le_refl _) _).setCell (Nat.le_refl _) _).setCell (Nat.le_refl _) _))
                    (first
                      | (go_at_call 11; refine U0.out.mono ?_; rintro rr wm ⟨am, cm, rfl, DM, nm, nm'⟩)
                      | (go_at_call 11; refine U1.out.mono ?_; rintro rr wm ⟨am, cm, rfl, DM, nm, nm'⟩; (have Z3 := (RwC.newDk wr [.int .i64 0, .int .i64 0, .slice none 0 0] 39).up nm'); (have z0 := Z3.c0); (have f0 := Z3.free 0); (have z1 := Z3.c1); (have f1 := Z3.free 1); (have z2 := Z3.c2); (have f2 := Z3.free 2))
                      | fail)
                  all_goals
                    go_wp2_with fail
                    go_meet
                    first
                    | (with_reducible exact c10_2 nm DM Z3 (Nat.le_refl _))
                    | (with_reducible exact c10_1 nm DM)
                case rest =>
                  obtain ⟨p10, aO, cO, e10, T10, DO, nO⟩ := hcut
                  obtain ⟨v14, hv14⟩ : ∃ v, v = u14 := ⟨_, rfl⟩
                  rw [← hv14] at e10 ⊢
                  subst e10
                  clear hv14 x1
                  have y0 := T10.c0
                  have y1 := T10.c1
                  have y2 := T10.c2
                  obtain ⟨_, _, qO, eO, rO, zO, lO⟩ := DO
                  injection eO with e1 _ e3
                  subst e1 e3
                  have R' : RowB wc E (.slice ua un uc) (pces D j).flatten := R.out.up nO
                  obtain ⟨i0, hi, hz0, hz1, hz2⟩ := info_parts Tryz.info5
                  have lf : ((pces D j).flatten ++ pce D j).length ≤ 1099511627776 := by
                    rw [← pce_flat, pces_flat, List.length_take]
                    have := LD.out.1
                    omega
                  obtain ⟨v6, w6, hap, R6, m6⟩ := append_any (P := Tryz.prog) wc 22 i0 Tryz.underlying22 hi hz0 hz1 hz2 E E (.slice ua un uc) _ R' qO _ _ (pce D j) rO zO (by rw [List.length_append] at lf; exact lf) (Nat.le_refl _) (Nat.le_trans lo nO.size)
                  rw [← pce_flat] at R6
                  obtain ⟨xb, xc, xg, e6, -⟩ := R6.rd
                  obtain ⟨nn, hnn⟩ : ∃ n, n = (pces D (j + 1)).flatten.length := ⟨_, rfl⟩
                  rw [← hnn] at e6
                  subst e6
                  clear hnn
                  have R6 := hide R6
                  have N6 := hide ((NB.out.trans (nO.mono lo)).trans m6)
                  clear R' lf rO m6 T10 nO
                  go_wp2_with (first | (at_builtin; refine Lib.wpList_append_run _ rfl _ _ 22 22 rfl _ _ rfl rfl _ _ hap ?_) | fail)
                  go_roundw
                  case rel => exact ⟨j + 1, _, _, _, by omega, by first | rfl | go_num, rfl, R6, N6⟩
                  case measure => simp [intOf]; omega
              · obtain rfl : j = k := by omega
                have DG : DR wr (.slice ua un uc) D := by
                  have h := DR.ofRowK R.out
                  rwa [HP.out, pces_all] at h
                have mz := nxt M9.out ma
                have SM := hide (sameC wr _ _ D DG (D7.out.up mz))
                have NF := hide (nxt N9.out ma)
                have t1 : decide ((j : Int) < (j : Int)) = false := decide_eq_false (by omega)
                clear R NB ma mz DG
                go_wp2_with fail
                refine SM.out.mono ?_
                rintro e w11 ⟨rfl, rfl⟩
                go_wp2
                go_ret
                exact ⟨rfl, NF.out⟩
    · have u1 : decide ((1048576 : Int) < (X1.length : Int)) = true := by simp; omega
      go_enter Tryz.func3, Tryz.ntmps3
      go_wp2
      go_ret
      exact ⟨rfl, Below.refl _ _⟩
  · have u0 : decide ((1048576 : Int) < (X0.length : Int)) = true := by simp; omega
    go_enter Tryz.func3, Tryz.ntmps3
    go_wp2
    go_ret
    exact ⟨rfl, Below.refl _ _⟩
end Go.Proofs.YtkpomobhjkikeaaGreatDoor
