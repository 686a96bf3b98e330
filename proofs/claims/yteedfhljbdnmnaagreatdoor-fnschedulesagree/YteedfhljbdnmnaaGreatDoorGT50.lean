import Derived.Test.YteedfhljbdnmnaaGreatDoorGT49
namespace Go.Proofs.YteedfhljbdnmnaaGreatDoor
set_option maxRecDepth 100000
open Go Go.RowKit
set_option maxHeartbeats 16000000 in
theorem agree_law (w : World) (g0 : Nat) (a0 : Option Addr) (c0 : Nat) (X0 : List Int) (hX0 : Rd w g0 a0 .u8 X0) (bX0 : Byt X0) (g1 : Nat) (a1 : Option Addr) (c1 : Nat) (X1 : List Int) (hX1 : Rd w g1 a1 .u8 X1) (bX1 : Byt X1) (hL : HasL w ∧ HasH w) :
    Calls Tryz.prog 3 #[.slice a0 X0.length c0, .slice a1 X1.length c1] w fun e w' => e = .returned (.bool true) ∧ Below w.heap.size w w' := by
  by_cases q0 : X0.length ≤ 1048576
  · have u0 : decide ((1048576 : Int) < (X0.length : Int)) = false := by simp; omega
    by_cases q1 : X1.length ≤ 1048576
    · have u1 : decide ((1048576 : Int) < (X1.length : Int)) = false := by simp; omega
      have SIX := hide (lwSix5_any w g0 g1 a0 a1 c0 c1 X0 X1 hX0 hX1 bX0 bX1 q0 q1)
      have LA := fun W (n : Below w.heap.size w W) => hide (lwAt_any W g1 a1 c1 X1 0 3 (hX1.up n) bX1 q1 (by decide) (by decide) (by decide) (by decide))
      have LAh := hide LA
      clear hX0 hX1 LA q0 q1
      go_enter Tryz.func3, Tryz.ntmps3
      go_wp2_with fail
      refine SIX.out.mono ?_
      rintro e W1 ⟨⟨q, X, Y, Z, V, U, rfl, SX, LH⟩, n1⟩
      clear SIX
      have lX : Hid (X.length = 32) := LH.out.1
      have lY : Hid (Y.length = 32) := LH.out.2.1
      have lZ : Hid (Z.length = 32) := LH.out.2.2.1
      have lV : Hid (V.length = 32) := LH.out.2.2.2.1
      have bX : Byt X := by obtain ⟨_, _, l⟩ := SX.c0; exact l.b
      have bY : Byt Y := by obtain ⟨_, _, l⟩ := SX.c1; exact l.b
      have G1 : Hid (shB X (pubA Y) = true) := sh_good bX lX.out bY lY.out
      have G2 : Hid (shB Y (pubA X) = true) := sh_good bY lY.out bX lX.out
      have K1 : Hid (shL X (pubA Y) = ladA X (ladA Y nine)) := sh_key bX lX.out bY lY.out
      have K2 : Hid (shL Y (pubA X) = ladA X (ladA Y nine)) := (sh_key bY lY.out bX lX.out).trans (ladA_comm bX lX.out bY lY.out nine_len)
      have lKY : Hid ((ladA X (ladA Y nine)).length = 32) := ladA_32 bX lX.out (ladA_32 bY lY.out nine_len)
      have bK : Byt (ladA X (ladA Y nine)) := ladA_byt
      generalize ladA X (ladA Y nine) = KY at *
      have lK : KY.length ≤ 1048576 := by rw [lKY.out]; decide
      clear LH bX bY
      obtain ⟨gz, cz, Lz⟩ := SX.c2
      have CP : Hid (Calls Tryz.prog 5 #[.slice (some ⟨gz, 0, none⟩) Z.length 32] W1 fun e w' => NewRow W1.heap.size w' e .u8 Z ∧ Below W1.heap.size W1 w') := by
        obtain ⟨⟨g, r⟩, b, p, k, l⟩ := Lz
        exact lwCopy_any W1 g _ 32 Z r p l
      have bZ := Lz.b
      have kZ := Lz.l
      clear Lz
      go_wp2_with fail
      refine CP.out.mono ?_
      rintro e W2 ⟨⟨a6, c6, g6, rfl, o6, p6, k6, r6⟩, n2⟩
      have L6 := Lq.of o6 p6 k6 bZ kZ
      replace SX := SX.up n2
      have N := nxt n1 n2
      have LA2 := LAh.out W2 N
      clear CP cz n1 n2 o6 p6 k6 r6 LAh bZ kZ
      go_wp2_with fail
      refine LA2.out.mono ?_
      rintro e W3 ⟨r, rfl, hr, m, hm⟩
      have nd : Below W2.heap.size W2 W3 := by rw [hm]; exact (Only.drewN W2 W2.heap.size m).below (Nat.le_refl _)
      replace SX := SX.up nd
      replace L6 := L6.up nd
      replace N := nxt N nd
      clear hm nd LA2
      by_cases hr0 : r = 0
      · have tr : ((r : Int) == 0) = true := by rw [hr0]; rfl
        clear hr hr0 L6
        have nz : Below W3.heap.size W3 (W3.alloc (.cells #[] 5)) := (Below.refl _ _).alloc (Nat.le_refl _) _
        have L6 : Lq (W3.alloc (.cells #[] 5)) (some ⟨W3.heap.size, 0, none⟩) 0 [] := ⟨⟨0, Rd.nil _ _ _ _⟩, byt_nil, fun h => by simp at h, Nat.le_refl _, by simp⟩
        replace SX := SX.up nz
        replace N := nxt N nz
        have HL := hL.1.up N
        have HH := hL.2.up N
        have pP : Hid (([] : List Int).length = 32 ∨ ([] : List Int).length = 0) := Or.inr rfl
        clear nz
        go_upto_region 7 with fail
        generalize W3.alloc (.cells #[] 5) = W0 at *
        refine region_newSh 11 10 9 7 44 _ (fun i => [Fact.eq (.slice (some ⟨q, 0, none⟩) 6 6), Fact.eq (.pointer (some ⟨q, 0, none⟩)), LQf X, LQf (X), Fact.eq (.slice (some ⟨q, 0, none⟩) 6 6), Fact.eq (.pointer (some ⟨q, 1, none⟩)), LQf Y, LQf (Y), LQf (pubA Y), SHf true KY, NBs W0.heap.size].getD i Fact.no) KY (by kernel_rfl) (by kernel_rfl) rfl rfl rfl (by kernel_rfl) rfl (by kernel_rfl) rfl ?_ ?_
        · intro i hi
          obtain rfl | rfl | rfl | rfl | rfl | rfl | rfl | rfl | rfl | rfl | rfl : i = 0 ∨ i = 1 ∨ i = 2 ∨ i = 3 ∨ i = 4 ∨ i = 5 ∨ i = 6 ∨ i = 7 ∨ i = 8 ∨ i = 9 ∨ i = 10 := by omega
          · exact eqm rfl 5 rfl (by kernel_rfl) rfl rfl
          · exact lqi rfl 35 0 q 0 (by decide) rfl (by kernel_rfl) rfl rfl
          · exact lql rfl 36 1 q 0 rfl (by kernel_rfl) rfl (fun W n => (SX.up n).c0.lq) rfl
          · exact lcp rfl 37 2 rfl (by kernel_rfl) rfl rfl
          · exact eqm rfl 5 rfl (by kernel_rfl) rfl rfl
          · exact lqi rfl 39 4 q 1 (by decide) rfl (by kernel_rfl) rfl rfl
          · exact lql rfl 40 5 q 1 rfl (by kernel_rfl) rfl (fun W n => (SX.up n).c1.lq) rfl
          · exact lcp rfl 41 6 rfl (by kernel_rfl) rfl rfl
          · exact lpub HL rfl 42 7 lY.out rfl (by kernel_rfl) rfl rfl
          · exact lshr HL rfl 38 43 3 8 K1.out bK lK G1.out rfl (by kernel_rfl) (by kernel_rfl) rfl rfl rfl
          · exact lnb rfl rfl rfl
        intro vs W7 q7 e9 nW7 S7
        replace SX := SX.up nW7
        replace HH := HH.up nW7
        replace HL := HL.up nW7
        replace L6 := L6.up nW7
        replace N := nxt N nW7
        clear nW7
        simp only [puts, e9, Act.put, List.setIfInBounds_toArray, List.set_cons_succ, List.set_cons_zero]
        clear e9
        go_upto_region 8 with fail
        refine region_newSh 11 10 9 8 54 _ (fun i => [Fact.eq (.slice (some ⟨q, 0, none⟩) 6 6), Fact.eq (.pointer (some ⟨q, 1, none⟩)), LQf Y, LQf (Y), Fact.eq (.slice (some ⟨q, 0, none⟩) 6 6), Fact.eq (.pointer (some ⟨q, 0, none⟩)), LQf X, LQf (X), LQf (pubA X), SHf true KY, NBs W7.heap.size].getD i Fact.no) KY (by kernel_rfl) (by kernel_rfl) rfl rfl rfl (by kernel_rfl) rfl (by kernel_rfl) rfl ?_ ?_
        · intro i hi
          obtain rfl | rfl | rfl | rfl | rfl | rfl | rfl | rfl | rfl | rfl | rfl : i = 0 ∨ i = 1 ∨ i = 2 ∨ i = 3 ∨ i = 4 ∨ i = 5 ∨ i = 6 ∨ i = 7 ∨ i = 8 ∨ i = 9 ∨ i = 10 := by omega
          · exact eqm rfl 5 rfl (by kernel_rfl) rfl rfl
          · exact lqi rfl 45 0 q 1 (by decide) rfl (by kernel_rfl) rfl rfl
          · exact lql rfl 46 1 q 1 rfl (by kernel_rfl) rfl (fun W n => (SX.up n).c1.lq) rfl
          · exact lcp rfl 47 2 rfl (by kernel_rfl) rfl rfl
          · exact eqm rfl 5 rfl (by kernel_rfl) rfl rfl
          · exact lqi rfl 49 4 q 0 (by decide) rfl (by kernel_rfl) rfl rfl
          · exact lql rfl 50 5 q 0 rfl (by kernel_rfl) rfl (fun W n => (SX.up n).c0.lq) rfl
          · exact lcp rfl 51 6 rfl (by kernel_rfl) rfl rfl
          · exact lpub HL rfl 52 7 lX.out rfl (by kernel_rfl) rfl rfl
          · exact lshr HL rfl 48 53 3 8 K2.out bK lK G2.out rfl (by kernel_rfl) (by kernel_rfl) rfl rfl rfl
          · exact lnb rfl rfl rfl
        intro vs W8 q8 e9 nW8 S8
        replace SX := SX.up nW8
        replace HH := HH.up nW8
        replace HL := HL.up nW8
        replace L6 := L6.up nW8
        replace S7 := S7.up nW8
        replace N := nxt N nW8
        clear nW8
        simp only [puts, e9, Act.put, List.setIfInBounds_toArray, List.set_cons_succ, List.set_cons_zero]
        clear e9
        go_upto_region 9 with fail
        refine region_end 7 (fun i => [LQf ([] : List Int), LQf (([] : List Int)), LQf (eaA (([] : List Int))), Fact.eq (.pointer (some ⟨q7, 1, none⟩)), LQf KY, LQf (hsA (eaA (([] : List Int))) KY), LQf (hsA (eaA (([] : List Int))) KY)].getD i Fact.no) (by kernel_rfl) (by kernel_rfl) rfl ?_ ?_
        · intro i hi
          obtain rfl | rfl | rfl | rfl | rfl | rfl | rfl : i = 0 ∨ i = 1 ∨ i = 2 ∨ i = 3 ∨ i = 4 ∨ i = 5 ∨ i = 6 := by omega
          · exact lqm rfl 6 rfl (by kernel_rfl) rfl L6 rfl
          · exact lcp rfl 55 0 rfl (by kernel_rfl) rfl rfl
          · exact lea HH rfl 56 1 rfl (by kernel_rfl) rfl rfl
          · exact lqf rfl 7 q7 rfl (by kernel_rfl) rfl rfl
          · exact lql rfl 58 3 q7 1 rfl (by kernel_rfl) rfl (fun W n => (S7.up n).lq) rfl
          · exact lhs HH rfl 57 59 2 4 rfl (by kernel_rfl) (by kernel_rfl) rfl rfl rfl
          · exact lqa rfl 60 5 rfl (by kernel_rfl) rfl rfl
        intro A W9 hb nW9 hF
        obtain ⟨a9, c9, e9, L9⟩ := hF 6 9 (by kernel_rfl)
        obtain ⟨vs, hvs⟩ : ∃ vs : Nat → Value, ∀ d, A.tmps.getD d undef = vs d := ⟨_, fun _ => rfl⟩
        rw [hvs] at e9
        rw [puts_of (md := .any) (k := 7) (by kernel_rfl) rfl hb vs hvs]
        clear hb hF hvs
        replace SX := SX.up nW9
        replace HH := HH.up nW9
        replace HL := HL.up nW9
        replace L6 := L6.up nW9
        replace S7 := S7.up nW9
        replace S8 := S8.up nW9
        replace N := nxt N nW9
        clear nW9
        simp only [puts, e9, Act.put, List.setIfInBounds_toArray, List.set_cons_succ, List.set_cons_zero]
        clear e9
        go_upto_region 10 with fail
        refine region_end 7 (fun i => [LQf ([] : List Int), LQf (([] : List Int)), LQf (eaA (([] : List Int))), Fact.eq (.pointer (some ⟨q8, 1, none⟩)), LQf KY, LQf (hsA (eaA (([] : List Int))) KY), LQf (hsA (eaA (([] : List Int))) KY)].getD i Fact.no) (by kernel_rfl) (by kernel_rfl) rfl ?_ ?_
        · intro i hi
          obtain rfl | rfl | rfl | rfl | rfl | rfl | rfl : i = 0 ∨ i = 1 ∨ i = 2 ∨ i = 3 ∨ i = 4 ∨ i = 5 ∨ i = 6 := by omega
          · exact lqm rfl 6 rfl (by kernel_rfl) rfl L6 rfl
          · exact lcp rfl 61 0 rfl (by kernel_rfl) rfl rfl
          · exact lea HH rfl 62 1 rfl (by kernel_rfl) rfl rfl
          · exact lqf rfl 8 q8 rfl (by kernel_rfl) rfl rfl
          · exact lql rfl 64 3 q8 1 rfl (by kernel_rfl) rfl (fun W n => (S8.up n).lq) rfl
          · exact lhs HH rfl 63 65 2 4 rfl (by kernel_rfl) (by kernel_rfl) rfl rfl rfl
          · exact lqa rfl 66 5 rfl (by kernel_rfl) rfl rfl
        intro A W10 hb nW10 hF
        obtain ⟨a10, c10, e9, L10⟩ := hF 6 10 (by kernel_rfl)
        obtain ⟨vs, hvs⟩ : ∃ vs : Nat → Value, ∀ d, A.tmps.getD d undef = vs d := ⟨_, fun _ => rfl⟩
        rw [hvs] at e9
        rw [puts_of (md := .any) (k := 7) (by kernel_rfl) rfl hb vs hvs]
        clear hb hF hvs
        replace SX := SX.up nW10
        replace HH := HH.up nW10
        replace HL := HL.up nW10
        replace L6 := L6.up nW10
        replace S7 := S7.up nW10
        replace S8 := S8.up nW10
        replace L9 := L9.up nW10
        replace N := nxt N nW10
        clear nW10
        simp only [puts, e9, Act.put, List.setIfInBounds_toArray, List.set_cons_succ, List.set_cons_zero]
        clear e9
        have lA := hide (hs_32 pP.out lKY.out)
        have BF := hide (bm_fm (xs := U) pP.out)
        clear S7 S8 HL
        generalize hsA (eaA (([] : List Int))) KY = A1 at *
        have t9 : ((A1.length : Int) != 32) = false := by rw [lA.out]; rfl
        obtain ⟨⟨g9, r9⟩, b9, p9, k9, l9⟩ := id L9
        obtain ⟨⟨g10, r10⟩, b10, p10, k10, l10⟩ := id L10
        have SM := hide (lwSame_same W10 g9 g10 a9 a10 c9 c10 A1 r9 r10)
        clear r9 b9 p9 k9 l9 r10 b10 p10 k10 l10
        go_wp2_with fail
        refine SM.out.mono ?_
        rintro e W11 ⟨rfl, eW⟩
        subst eW
        clear SM
        have M1 := hide (implMasterSecret_any W11 HH L9)
        go_wp2_with fail
        refine M1.out.mono ?_
        rintro e W12 ⟨⟨am, cm, gm, rfl, om, pm, km, rm⟩, n12⟩
        clear M1 km pm rm
        replace SX := SX.up n12
        replace HH := HH.up n12
        replace L6 := L6.up n12
        replace L9 := L9.up n12
        replace L10 := L10.up n12
        replace N := nxt N n12
        clear n12
        have M2 := hide (implMasterSecret_any W12 HH L10)
        go_wp2_with fail
        refine M2.out.mono ?_
        rintro e W13 ⟨⟨am', cm', gm', rfl, om', pm', km', rm'⟩, n13⟩
        clear M2 km' pm' rm'
        have SM := hide (lwSame_same W13 gm gm' am am' cm cm' (msA A1) (om.up n13).rd om'.rd)
        clear om om'
        replace SX := SX.up n13
        replace HH := HH.up n13
        replace L6 := L6.up n13
        replace L9 := L9.up n13
        replace L10 := L10.up n13
        replace N := nxt N n13
        clear n13
        go_wp2_with fail
        refine SM.out.mono ?_
        rintro e W14 ⟨rfl, eW⟩
        subst eW
        clear SM
        go_upto_region 13 with fail
        refine region_end 8 (fun i => [LQf A1, LQf (msA A1), Fact.eq (.slice (some ⟨q, 0, none⟩) 6 6), Fact.eq (.pointer (some ⟨q, 3, none⟩)), LQf V, LQf (V), LQf (labA (msA A1) lbC V 32), LQf (labA (msA A1) lbC V 32)].getD i Fact.no) (by kernel_rfl) (by kernel_rfl) rfl ?_ ?_
        · intro i hi
          obtain rfl | rfl | rfl | rfl | rfl | rfl | rfl | rfl : i = 0 ∨ i = 1 ∨ i = 2 ∨ i = 3 ∨ i = 4 ∨ i = 5 ∨ i = 6 ∨ i = 7 := by omega
          · exact lqm rfl 9 rfl (by kernel_rfl) rfl L9 rfl
          · exact lms HH rfl 84 0 rfl (by kernel_rfl) rfl rfl
          · exact eqm rfl 5 rfl (by kernel_rfl) rfl rfl
          · exact lqi rfl 86 2 q 3 (by decide) rfl (by kernel_rfl) rfl rfl
          · exact lql rfl 87 3 q 3 rfl (by kernel_rfl) rfl (fun W n => (SX.up n).c3.lq) rfl
          · exact lcp rfl 88 4 rfl (by kernel_rfl) rfl rfl
          · exact lde HH rfl 85 89 1 5 lbC (by decide) rfl (by kernel_rfl) (by kernel_rfl) rfl rfl rfl
          · exact lqa rfl 90 6 rfl (by kernel_rfl) rfl rfl
        intro A W15 hb nW15 hF
        obtain ⟨a11, c11, e9, L11⟩ := hF 7 11 (by kernel_rfl)
        obtain ⟨vs, hvs⟩ : ∃ vs : Nat → Value, ∀ d, A.tmps.getD d undef = vs d := ⟨_, fun _ => rfl⟩
        rw [hvs] at e9
        rw [puts_of (md := .any) (k := 8) (by kernel_rfl) rfl hb vs hvs]
        clear hb hF hvs
        replace SX := SX.up nW15
        replace HH := HH.up nW15
        replace L6 := L6.up nW15
        replace L9 := L9.up nW15
        replace L10 := L10.up nW15
        replace N := nxt N nW15
        clear nW15
        simp only [puts, e9, Act.put, List.setIfInBounds_toArray, List.set_cons_succ, List.set_cons_zero]
        clear e9
        go_upto_region 14 with fail
        refine region_end 8 (fun i => [LQf A1, LQf (msA A1), Fact.eq (.slice (some ⟨q, 0, none⟩) 6 6), Fact.eq (.pointer (some ⟨q, 3, none⟩)), LQf V, LQf (V), LQf (labA (msA A1) lbC V 32), LQf (labA (msA A1) lbC V 32)].getD i Fact.no) (by kernel_rfl) (by kernel_rfl) rfl ?_ ?_
        · intro i hi
          obtain rfl | rfl | rfl | rfl | rfl | rfl | rfl | rfl : i = 0 ∨ i = 1 ∨ i = 2 ∨ i = 3 ∨ i = 4 ∨ i = 5 ∨ i = 6 ∨ i = 7 := by omega
          · exact lqm rfl 10 rfl (by kernel_rfl) rfl L10 rfl
          · exact lms HH rfl 91 0 rfl (by kernel_rfl) rfl rfl
          · exact eqm rfl 5 rfl (by kernel_rfl) rfl rfl
          · exact lqi rfl 93 2 q 3 (by decide) rfl (by kernel_rfl) rfl rfl
          · exact lql rfl 94 3 q 3 rfl (by kernel_rfl) rfl (fun W n => (SX.up n).c3.lq) rfl
          · exact lcp rfl 95 4 rfl (by kernel_rfl) rfl rfl
          · exact lde HH rfl 92 96 1 5 lbC (by decide) rfl (by kernel_rfl) (by kernel_rfl) rfl rfl rfl
          · exact lqa rfl 97 6 rfl (by kernel_rfl) rfl rfl
        intro A W16 hb nW16 hF
        obtain ⟨a12, c12, e9, L12⟩ := hF 7 12 (by kernel_rfl)
        obtain ⟨vs, hvs⟩ : ∃ vs : Nat → Value, ∀ d, A.tmps.getD d undef = vs d := ⟨_, fun _ => rfl⟩
        rw [hvs] at e9
        rw [puts_of (md := .any) (k := 8) (by kernel_rfl) rfl hb vs hvs]
        clear hb hF hvs
        replace SX := SX.up nW16
        replace HH := HH.up nW16
        replace L6 := L6.up nW16
        replace L9 := L9.up nW16
        replace L10 := L10.up nW16
        replace L11 := L11.up nW16
        replace N := nxt N nW16
        clear nW16
        simp only [puts, e9, Act.put, List.setIfInBounds_toArray, List.set_cons_succ, List.set_cons_zero]
        clear e9
        have lS : Hid ((labA (msA A1) lbC V 32).length = 32) := labA_full (msA A1) lbC V 32 (by decide) (by rw [lV.out]; decide) (by decide)
        generalize labA (msA A1) lbC V 32 = S0 at *
        clear L9 L10 t9 lA
        go_wp2
        go_loopw [11, 12, 13, 14, 15] (fun x y i _ _ wr => Below W16.heap.size W16 wr ∧ ∃ (k : Nat) (ss : List Int) (ax ay : Option Addr) (cx cy : Nat), k ≤ 4 ∧ i = .int .i64 k ∧ x = .slice ax ss.length cx ∧ y = .slice ay ss.length cy ∧ Lq wr ax cx ss ∧ Lq wr ay cy ss ∧ Hid (ss.length = 32)) (fun _ _ i _ _ _ => 4 - (intOf i).toNat)
        case atStart => exact ⟨Below.refl _ _, 0, S0, a11, a12, c11, c12, by omega, rfl, rfl, rfl, L11, L12, lS⟩
        case round =>
          obtain ⟨nb, k, ss, ax, ay, cx, cy, hk, rfl, rfl, rfl, Lx, Ly, lss⟩ := hrel
          clear L11 L12 lS
          by_cases hlt : k < 4
          · have t2 : decide ((k : Int) < 4) = true := by simp; omega
            have tl := tk_lens lss.out
            have tK : (((tkK ss).length : Int) != 32) = false := by rw [tl.1]; rfl
            have tI : (((tkI ss).length : Int) != 12) = false := by rw [tl.2]; rfl
            have NX := nxA_32 lss.out
            have NB := nxA_byt ss
            have NL := nx_lab lss.out
            have T1 := hide (implTrafficKeys_any wr (HH.up nb) Lx)
            have T2 := fun W (n : Below wr.heap.size wr W) => hide (implTrafficKeys_any W (HH.up (nxt nb n)) (Ly.up n))
            have NS := fun W (n : Below wr.heap.size wr W) => hide (implNextSecret_any W (HH.up (nxt nb n)) (Lx.up n))
            have EL : ∀ W, Below wr.heap.size wr W → Hid (Calls Tryz.prog 16 #[.slice ay ss.length cy, .string ⟨#[117, 112, 100, 97, 116, 101]⟩, .slice none 0 0, .int .i64 32] W fun e w' => NewRow W.heap.size w' e .u8 (nxA ss) ∧ Below W.heap.size W w') := fun W n => by
              obtain ⟨⟨g, r⟩, b, p, q, l⟩ := Ly.up n
              rw [← NL]
              exact implLabel_any W g ay cy ss r b q l lbU (by decide) 0 none 0 [] (Rd.nil _ _ _ _) byt_nil (fun _ => rfl) (by simp) 32 ((HH.up (nxt nb n)).1) ((HH.up (nxt nb n)).2)
            have ELh := hide EL
            have NSh := hide NS
            have T2h := hide T2
            have NXh := hide NX
            have NBh := hide NB
            have nbh := hide nb
            clear T2 NS EL NL Lx Ly tl NX NB nb
            generalize nxA ss = s2 at *
            generalize tkK ss = kk at *
            generalize tkI ss = ii at *
            go_wp2_with fail
            refine T1.out.mono ?_
            rintro e w1 ⟨⟨v, rfl, xa, xa', xc, xc', xg, xg', rfl, xo, xo', xp, xp', xq, xq', xr, xr', xd⟩, n1⟩
            clear T1 xp xp' xq xq' xr xr' xd
            have B1 := Two.new w1 (.slice xa kk.length xc) (.slice xa' ii.length xc') 34
            have m1 : Below w1.heap.size w1 (w1.alloc (.cells #[.slice xa kk.length xc, .slice xa' ii.length xc'] 34)) := (Below.refl _ _).alloc (Nat.le_refl _) _
            have T2a := T2h.out _ (nxt n1 m1)
            replace xo := xo.up m1
            replace xo' := xo'.up m1
            have N1 := nxt n1 m1
            clear T2h n1 m1
            go_upto_region 19 with fail
            generalize w1.alloc (.cells #[.slice xa kk.length xc, .slice xa' ii.length xc'] 34) = w2 at *
            go_wp2_with fail
            refine T2a.out.mono ?_
            rintro e w3 ⟨⟨v, rfl, ya, ya', yc, yc', yg, yg', rfl, yo, yo', yp, yp', yq, yq', yr, yr', yd⟩, n3⟩
            clear T2a yp yp' yq yq' yr yr' yd
            have B3 := Two.new w3 (.slice ya kk.length yc) (.slice ya' ii.length yc') 34
            have m3 : Below w3.heap.size w3 (w3.alloc (.cells #[.slice ya kk.length yc, .slice ya' ii.length yc'] 34)) := (Below.refl _ _).alloc (Nat.le_refl _) _
            have M3 := nxt n3 m3
            replace xo := xo.up M3
            replace xo' := xo'.up M3
            replace yo := yo.up m3
            replace yo' := yo'.up m3
            replace B1 := B1.up M3
            have N3 := nxt N1 M3
            clear n3 m3 M3 N1
            go_upto_region 20 with fail
            generalize w3.alloc (.cells #[.slice ya kk.length yc, .slice ya' ii.length yc'] 34) = w4 at *
            have S1 := hide (lwSame_same w4 xg yg xa ya xc yc kk xo.rd yo.rd)
            have S2 := hide (lwSame_same w4 xg' yg' xa' ya' xc' yc' ii xo'.rd yo'.rd)
            have b10 := B1.c0
            have b11 := B1.c1
            have b30 := B3.c0
            have b31 := B3.c1
            clear xo xo' yo yo' B1 B3
            go_wp2_with fail
            refine S1.out.mono ?_
            rintro e w5 ⟨rfl, eW⟩
            subst eW
            go_wp2_with fail
            refine S2.out.mono ?_
            rintro e w6 ⟨rfl, eW⟩
            subst eW
            have NA := NSh.out _ N3
            clear S1 S2 NSh b10 b11 b30 b31
            go_wp2_with fail
            refine NA.out.mono ?_
            rintro e w7 ⟨⟨za, zc, zg, rfl, zo, zp, zq, zr⟩, n7⟩
            have N7 := nxt N3 n7
            have EA := ELh.out _ N7
            clear NA ELh n7 N3
            go_wp2_with fail
            refine EA.out.mono ?_
            rintro e w8 ⟨⟨ua, uc, ug, rfl, uo, up, uq, ur⟩, n8⟩
            have N8 := nxt N7 n8
            have Lz := hide ((Lq.of zo zp zq NBh.out (by rw [NXh.out]; decide)).up n8)
            have Lu := hide (Lq.of uo up uq NBh.out (by rw [NXh.out]; decide))
            clear zo zp zq uo up uq EA n8 N7
            go_wp2
            go_roundw
            case rel => exact ⟨nxt nbh.out N8, k + 1, s2, za, ua, zc, uc, by omega, by go_num, rfl, rfl, Lz.out, Lu.out, NXh⟩
            case measure => simp [intOf]; omega
          · obtain rfl : k = 4 := by omega
            clear Lx Ly lss
            replace SX := SX.up nb
            replace HH := HH.up nb
            replace L6 := L6.up nb
            replace N := nxt N nb
            clear nb
            go_upto_region 24 with fail
            refine region_end 20 (fun i => [LQf ([] : List Int), LQf (([] : List Int)), Fact.eq (.slice (some ⟨q, 0, none⟩) 6 6), Fact.eq (.pointer (some ⟨q, 4, none⟩)), LQf U, LQf (U), LQf (bmA (([] : List Int)) U), LQf ([] : List Int), LQf (([] : List Int)), LQf (eaA (([] : List Int))), LQf (hE), LQf (labA (eaA (([] : List Int))) lbB hE 32), Fact.eq (.slice (some ⟨q, 0, none⟩) 6 6), Fact.eq (.pointer (some ⟨q, 4, none⟩)), LQf U, LQf (U), LQf (hashL32 U), LQf (fmA (labA (eaA (([] : List Int))) lbB hE 32) (hashL32 U)), Fact.eq (.bool true), Fact.eq (.bool true)].getD i Fact.no) (by kernel_rfl) (by kernel_rfl) rfl ?_ ?_
            · intro i hi
              obtain rfl | rfl | rfl | rfl | rfl | rfl | rfl | rfl | rfl | rfl | rfl | rfl | rfl | rfl | rfl | rfl | rfl | rfl | rfl | rfl : i = 0 ∨ i = 1 ∨ i = 2 ∨ i = 3 ∨ i = 4 ∨ i = 5 ∨ i = 6 ∨ i = 7 ∨ i = 8 ∨ i = 9 ∨ i = 10 ∨ i = 11 ∨ i = 12 ∨ i = 13 ∨ i = 14 ∨ i = 15 ∨ i = 16 ∨ i = 17 ∨ i = 18 ∨ i = 19 := by omega
              · exact lqm rfl 6 rfl (by kernel_rfl) rfl L6 rfl
              · exact lcp rfl 136 0 rfl (by kernel_rfl) rfl rfl
              · exact eqm rfl 5 rfl (by kernel_rfl) rfl rfl
              · exact lqi rfl 138 2 q 4 (by decide) rfl (by kernel_rfl) rfl rfl
              · exact lql rfl 139 3 q 4 rfl (by kernel_rfl) rfl (fun W n => (SX.up n).c4.lq) rfl
              · exact lcp rfl 140 4 rfl (by kernel_rfl) rfl rfl
              · exact lbm HH rfl 137 141 1 5 rfl (by kernel_rfl) (by kernel_rfl) rfl rfl rfl
              · exact lqm rfl 6 rfl (by kernel_rfl) rfl L6 rfl
              · exact lcp rfl 143 7 rfl (by kernel_rfl) rfl rfl
              · exact lea HH rfl 144 8 rfl (by kernel_rfl) rfl rfl
              · exact lh0 HH rfl rfl rfl
              · exact lde HH rfl 145 146 9 10 lbB (by decide) rfl (by kernel_rfl) (by kernel_rfl) rfl rfl rfl
              · exact eqm rfl 5 rfl (by kernel_rfl) rfl rfl
              · exact lqi rfl 148 12 q 4 (by decide) rfl (by kernel_rfl) rfl rfl
              · exact lql rfl 149 13 q 4 rfl (by kernel_rfl) rfl (fun W n => (SX.up n).c4.lq) rfl
              · exact lcp rfl 150 14 rfl (by kernel_rfl) rfl rfl
              · exact lha HH rfl 151 15 rfl (by kernel_rfl) rfl rfl
              · exact lfm HH rfl 147 152 11 16 rfl (by kernel_rfl) (by kernel_rfl) rfl rfl rfl
              · exact lsm rfl 142 153 6 17 rfl (by kernel_rfl) (by kernel_rfl) rfl (by show LQf (fmA (labA (eaA (([] : List Int))) lbB hE 32) (hashL32 U)) = _; rw [← BF.out]) rfl
              · exact bta rfl 154 18 rfl (by kernel_rfl) rfl rfl
            intro A W24 hb n24 hF
            have e9 := hF 19 4 (by kernel_rfl)
            obtain ⟨vs, hvs⟩ : ∃ vs : Nat → Value, ∀ d, A.tmps.getD d undef = vs d := ⟨_, fun _ => rfl⟩
            rw [hvs] at e9
            rw [puts_of (md := .any) (k := 20) (by kernel_rfl) rfl hb vs hvs]
            have e8 : vs 4 = .bool true := e9
            clear hb hF hvs e9
            replace N := nxt N n24
            simp only [puts, e8, Act.put, List.setIfInBounds_toArray, List.set_cons_succ, List.set_cons_zero]
            clear e8 SX HH L6 BF
            go_wp2
            go_ret
            exact ⟨rfl, N⟩
      · have tr : ((r : Int) == 0) = false := beq_eq_false_iff_ne.2 (by omega)
        clear hr hr0
        have HL := hL.1.up N
        have HH := hL.2.up N
        have pP : Hid (Z.length = 32 ∨ Z.length = 0) := Or.inl lZ.out
        go_upto_region 7 with fail
        refine region_newSh 11 10 9 7 44 _ (fun i => [Fact.eq (.slice (some ⟨q, 0, none⟩) 6 6), Fact.eq (.pointer (some ⟨q, 0, none⟩)), LQf X, LQf (X), Fact.eq (.slice (some ⟨q, 0, none⟩) 6 6), Fact.eq (.pointer (some ⟨q, 1, none⟩)), LQf Y, LQf (Y), LQf (pubA Y), SHf true KY, NBs W3.heap.size].getD i Fact.no) KY (by kernel_rfl) (by kernel_rfl) rfl rfl rfl (by kernel_rfl) rfl (by kernel_rfl) rfl ?_ ?_
        · intro i hi
          obtain rfl | rfl | rfl | rfl | rfl | rfl | rfl | rfl | rfl | rfl | rfl : i = 0 ∨ i = 1 ∨ i = 2 ∨ i = 3 ∨ i = 4 ∨ i = 5 ∨ i = 6 ∨ i = 7 ∨ i = 8 ∨ i = 9 ∨ i = 10 := by omega
          · exact eqm rfl 5 rfl (by kernel_rfl) rfl rfl
          · exact lqi rfl 35 0 q 0 (by decide) rfl (by kernel_rfl) rfl rfl
          · exact lql rfl 36 1 q 0 rfl (by kernel_rfl) rfl (fun W n => (SX.up n).c0.lq) rfl
          · exact lcp rfl 37 2 rfl (by kernel_rfl) rfl rfl
          · exact eqm rfl 5 rfl (by kernel_rfl) rfl rfl
          · exact lqi rfl 39 4 q 1 (by decide) rfl (by kernel_rfl) rfl rfl
          · exact lql rfl 40 5 q 1 rfl (by kernel_rfl) rfl (fun W n => (SX.up n).c1.lq) rfl
          · exact lcp rfl 41 6 rfl (by kernel_rfl) rfl rfl
          · exact lpub HL rfl 42 7 lY.out rfl (by kernel_rfl) rfl rfl
          · exact lshr HL rfl 38 43 3 8 K1.out bK lK G1.out rfl (by kernel_rfl) (by kernel_rfl) rfl rfl rfl
          · exact lnb rfl rfl rfl
        intro vs W7 q7 e9 nW7 S7
        replace SX := SX.up nW7
        replace HH := HH.up nW7
        replace HL := HL.up nW7
        replace L6 := L6.up nW7
        replace N := nxt N nW7
        clear nW7
        simp only [puts, e9, Act.put, List.setIfInBounds_toArray, List.set_cons_succ, List.set_cons_zero]
        clear e9
        go_upto_region 8 with fail
        refine region_newSh 11 10 9 8 54 _ (fun i => [Fact.eq (.slice (some ⟨q, 0, none⟩) 6 6), Fact.eq (.pointer (some ⟨q, 1, none⟩)), LQf Y, LQf (Y), Fact.eq (.slice (some ⟨q, 0, none⟩) 6 6), Fact.eq (.pointer (some ⟨q, 0, none⟩)), LQf X, LQf (X), LQf (pubA X), SHf true KY, NBs W7.heap.size].getD i Fact.no) KY (by kernel_rfl) (by kernel_rfl) rfl rfl rfl (by kernel_rfl) rfl (by kernel_rfl) rfl ?_ ?_
        · intro i hi
          obtain rfl | rfl | rfl | rfl | rfl | rfl | rfl | rfl | rfl | rfl | rfl : i = 0 ∨ i = 1 ∨ i = 2 ∨ i = 3 ∨ i = 4 ∨ i = 5 ∨ i = 6 ∨ i = 7 ∨ i = 8 ∨ i = 9 ∨ i = 10 := by omega
          · exact eqm rfl 5 rfl (by kernel_rfl) rfl rfl
          · exact lqi rfl 45 0 q 1 (by decide) rfl (by kernel_rfl) rfl rfl
          · exact lql rfl 46 1 q 1 rfl (by kernel_rfl) rfl (fun W n => (SX.up n).c1.lq) rfl
          · exact lcp rfl 47 2 rfl (by kernel_rfl) rfl rfl
          · exact eqm rfl 5 rfl (by kernel_rfl) rfl rfl
          · exact lqi rfl 49 4 q 0 (by decide) rfl (by kernel_rfl) rfl rfl
          · exact lql rfl 50 5 q 0 rfl (by kernel_rfl) rfl (fun W n => (SX.up n).c0.lq) rfl
          · exact lcp rfl 51 6 rfl (by kernel_rfl) rfl rfl
          · exact lpub HL rfl 52 7 lX.out rfl (by kernel_rfl) rfl rfl
          · exact lshr HL rfl 48 53 3 8 K2.out bK lK G2.out rfl (by kernel_rfl) (by kernel_rfl) rfl rfl rfl
          · exact lnb rfl rfl rfl
        intro vs W8 q8 e9 nW8 S8
        replace SX := SX.up nW8
        replace HH := HH.up nW8
        replace HL := HL.up nW8
        replace L6 := L6.up nW8
        replace S7 := S7.up nW8
        replace N := nxt N nW8
        clear nW8
        simp only [puts, e9, Act.put, List.setIfInBounds_toArray, List.set_cons_succ, List.set_cons_zero]
        clear e9
        go_upto_region 9 with fail
        refine region_end 7 (fun i => [LQf Z, LQf (Z), LQf (eaA Z), Fact.eq (.pointer (some ⟨q7, 1, none⟩)), LQf KY, LQf (hsA (eaA Z) KY), LQf (hsA (eaA Z) KY)].getD i Fact.no) (by kernel_rfl) (by kernel_rfl) rfl ?_ ?_
        · intro i hi
          obtain rfl | rfl | rfl | rfl | rfl | rfl | rfl : i = 0 ∨ i = 1 ∨ i = 2 ∨ i = 3 ∨ i = 4 ∨ i = 5 ∨ i = 6 := by omega
          · exact lqm rfl 6 rfl (by kernel_rfl) rfl L6 rfl
          · exact lcp rfl 55 0 rfl (by kernel_rfl) rfl rfl
          · exact lea HH rfl 56 1 rfl (by kernel_rfl) rfl rfl
          · exact lqf rfl 7 q7 rfl (by kernel_rfl) rfl rfl
          · exact lql rfl 58 3 q7 1 rfl (by kernel_rfl) rfl (fun W n => (S7.up n).lq) rfl
          · exact lhs HH rfl 57 59 2 4 rfl (by kernel_rfl) (by kernel_rfl) rfl rfl rfl
          · exact lqa rfl 60 5 rfl (by kernel_rfl) rfl rfl
        intro A W9 hb nW9 hF
        obtain ⟨a9, c9, e9, L9⟩ := hF 6 9 (by kernel_rfl)
        obtain ⟨vs, hvs⟩ : ∃ vs : Nat → Value, ∀ d, A.tmps.getD d undef = vs d := ⟨_, fun _ => rfl⟩
        rw [hvs] at e9
        rw [puts_of (md := .any) (k := 7) (by kernel_rfl) rfl hb vs hvs]
        clear hb hF hvs
        replace SX := SX.up nW9
        replace HH := HH.up nW9
        replace HL := HL.up nW9
        replace L6 := L6.up nW9
        replace S7 := S7.up nW9
        replace S8 := S8.up nW9
        replace N := nxt N nW9
        clear nW9
        simp only [puts, e9, Act.put, List.setIfInBounds_toArray, List.set_cons_succ, List.set_cons_zero]
        clear e9
        go_upto_region 10 with fail
        refine region_end 7 (fun i => [LQf Z, LQf (Z), LQf (eaA Z), Fact.eq (.pointer (some ⟨q8, 1, none⟩)), LQf KY, LQf (hsA (eaA Z) KY), LQf (hsA (eaA Z) KY)].getD i Fact.no) (by kernel_rfl) (by kernel_rfl) rfl ?_ ?_
        · intro i hi
          obtain rfl | rfl | rfl | rfl | rfl | rfl | rfl : i = 0 ∨ i = 1 ∨ i = 2 ∨ i = 3 ∨ i = 4 ∨ i = 5 ∨ i = 6 := by omega
          · exact lqm rfl 6 rfl (by kernel_rfl) rfl L6 rfl
          · exact lcp rfl 61 0 rfl (by kernel_rfl) rfl rfl
          · exact lea HH rfl 62 1 rfl (by kernel_rfl) rfl rfl
          · exact lqf rfl 8 q8 rfl (by kernel_rfl) rfl rfl
          · exact lql rfl 64 3 q8 1 rfl (by kernel_rfl) rfl (fun W n => (S8.up n).lq) rfl
          · exact lhs HH rfl 63 65 2 4 rfl (by kernel_rfl) (by kernel_rfl) rfl rfl rfl
          · exact lqa rfl 66 5 rfl (by kernel_rfl) rfl rfl
        intro A W10 hb nW10 hF
        obtain ⟨a10, c10, e9, L10⟩ := hF 6 10 (by kernel_rfl)
        obtain ⟨vs, hvs⟩ : ∃ vs : Nat → Value, ∀ d, A.tmps.getD d undef = vs d := ⟨_, fun _ => rfl⟩
        rw [hvs] at e9
        rw [puts_of (md := .any) (k := 7) (by kernel_rfl) rfl hb vs hvs]
        clear hb hF hvs
        replace SX := SX.up nW10
        replace HH := HH.up nW10
        replace HL := HL.up nW10
        replace L6 := L6.up nW10
        replace S7 := S7.up nW10
        replace S8 := S8.up nW10
        replace L9 := L9.up nW10
        replace N := nxt N nW10
        clear nW10
        simp only [puts, e9, Act.put, List.setIfInBounds_toArray, List.set_cons_succ, List.set_cons_zero]
        clear e9
        have lA := hide (hs_32 pP.out lKY.out)
        have BF := hide (bm_fm (xs := U) pP.out)
        clear S7 S8 HL
        generalize hsA (eaA Z) KY = A1 at *
        have t9 : ((A1.length : Int) != 32) = false := by rw [lA.out]; rfl
        obtain ⟨⟨g9, r9⟩, b9, p9, k9, l9⟩ := id L9
        obtain ⟨⟨g10, r10⟩, b10, p10, k10, l10⟩ := id L10
        have SM := hide (lwSame_same W10 g9 g10 a9 a10 c9 c10 A1 r9 r10)
        clear r9 b9 p9 k9 l9 r10 b10 p10 k10 l10
        go_wp2_with fail
        refine SM.out.mono ?_
        rintro e W11 ⟨rfl, eW⟩
        subst eW
        clear SM
        have M1 := hide (implMasterSecret_any W11 HH L9)
        go_wp2_with fail
        refine M1.out.mono ?_
        rintro e W12 ⟨⟨am, cm, gm, rfl, om, pm, km, rm⟩, n12⟩
        clear M1 km pm rm
        replace SX := SX.up n12
        replace HH := HH.up n12
        replace L6 := L6.up n12
        replace L9 := L9.up n12
        replace L10 := L10.up n12
        replace N := nxt N n12
        clear n12
        have M2 := hide (implMasterSecret_any W12 HH L10)
        go_wp2_with fail
        refine M2.out.mono ?_
        rintro e W13 ⟨⟨am', cm', gm', rfl, om', pm', km', rm'⟩, n13⟩
        clear M2 km' pm' rm'
        have SM := hide (lwSame_same W13 gm gm' am am' cm cm' (msA A1) (om.up n13).rd om'.rd)
        clear om om'
        replace SX := SX.up n13
        replace HH := HH.up n13
        replace L6 := L6.up n13
        replace L9 := L9.up n13
        replace L10 := L10.up n13
        replace N := nxt N n13
        clear n13
        go_wp2_with fail
        refine SM.out.mono ?_
        rintro e W14 ⟨rfl, eW⟩
        subst eW
        clear SM
        go_upto_region 13 with fail
        refine region_end 8 (fun i => [LQf A1, LQf (msA A1), Fact.eq (.slice (some ⟨q, 0, none⟩) 6 6), Fact.eq (.pointer (some ⟨q, 3, none⟩)), LQf V, LQf (V), LQf (labA (msA A1) lbC V 32), LQf (labA (msA A1) lbC V 32)].getD i Fact.no) (by kernel_rfl) (by kernel_rfl) rfl ?_ ?_
        · intro i hi
          obtain rfl | rfl | rfl | rfl | rfl | rfl | rfl | rfl : i = 0 ∨ i = 1 ∨ i = 2 ∨ i = 3 ∨ i = 4 ∨ i = 5 ∨ i = 6 ∨ i = 7 := by omega
          · exact lqm rfl 9 rfl (by kernel_rfl) rfl L9 rfl
          · exact lms HH rfl 84 0 rfl (by kernel_rfl) rfl rfl
          · exact eqm rfl 5 rfl (by kernel_rfl) rfl rfl
          · exact lqi rfl 86 2 q 3 (by decide) rfl (by kernel_rfl) rfl rfl
          · exact lql rfl 87 3 q 3 rfl (by kernel_rfl) rfl (fun W n => (SX.up n).c3.lq) rfl
          · exact lcp rfl 88 4 rfl (by kernel_rfl) rfl rfl
          · exact lde HH rfl 85 89 1 5 lbC (by decide) rfl (by kernel_rfl) (by kernel_rfl) rfl rfl rfl
          · exact lqa rfl 90 6 rfl (by kernel_rfl) rfl rfl
        intro A W15 hb nW15 hF
        obtain ⟨a11, c11, e9, L11⟩ := hF 7 11 (by kernel_rfl)
        obtain ⟨vs, hvs⟩ : ∃ vs : Nat → Value, ∀ d, A.tmps.getD d undef = vs d := ⟨_, fun _ => rfl⟩
        rw [hvs] at e9
        rw [puts_of (md := .any) (k := 8) (by kernel_rfl) rfl hb vs hvs]
        clear hb hF hvs
        replace SX := SX.up nW15
        replace HH := HH.up nW15
        replace L6 := L6.up nW15
        replace L9 := L9.up nW15
        replace L10 := L10.up nW15
        replace N := nxt N nW15
        clear nW15
        simp only [puts, e9, Act.put, List.setIfInBounds_toArray, List.set_cons_succ, List.set_cons_zero]
        clear e9
        go_upto_region 14 with fail
        refine region_end 8 (fun i => [LQf A1, LQf (msA A1), Fact.eq (.slice (some ⟨q, 0, none⟩) 6 6), Fact.eq (.pointer (some ⟨q, 3, none⟩)), LQf V, LQf (V), LQf (labA (msA A1) lbC V 32), LQf (labA (msA A1) lbC V 32)].getD i Fact.no) (by kernel_rfl) (by kernel_rfl) rfl ?_ ?_
        · intro i hi
          obtain rfl | rfl | rfl | rfl | rfl | rfl | rfl | rfl : i = 0 ∨ i = 1 ∨ i = 2 ∨ i = 3 ∨ i = 4 ∨ i = 5 ∨ i = 6 ∨ i = 7 := by omega
          · exact lqm rfl 10 rfl (by kernel_rfl) rfl L10 rfl
          · exact lms HH rfl 91 0 rfl (by kernel_rfl) rfl rfl
          · exact eqm rfl 5 rfl (by kernel_rfl) rfl rfl
          · exact lqi rfl 93 2 q 3 (by decide) rfl (by kernel_rfl) rfl rfl
          · exact lql rfl 94 3 q 3 rfl (by kernel_rfl) rfl (fun W n => (SX.up n).c3.lq) rfl
          · exact lcp rfl 95 4 rfl (by kernel_rfl) rfl rfl
          · exact lde HH rfl 92 96 1 5 lbC (by decide) rfl (by kernel_rfl) (by kernel_rfl) rfl rfl rfl
          · exact lqa rfl 97 6 rfl (by kernel_rfl) rfl rfl
        intro A W16 hb nW16 hF
        obtain ⟨a12, c12, e9, L12⟩ := hF 7 12 (by kernel_rfl)
        obtain ⟨vs, hvs⟩ : ∃ vs : Nat → Value, ∀ d, A.tmps.getD d undef = vs d := ⟨_, fun _ => rfl⟩
        rw [hvs] at e9
        rw [puts_of (md := .any) (k := 8) (by kernel_rfl) rfl hb vs hvs]
        clear hb hF hvs
        replace SX := SX.up nW16
        replace HH := HH.up nW16
        replace L6 := L6.up nW16
        replace L9 := L9.up nW16
        replace L10 := L10.up nW16
        replace L11 := L11.up nW16
        replace N := nxt N nW16
        clear nW16
        simp only [puts, e9, Act.put, List.setIfInBounds_toArray, List.set_cons_succ, List.set_cons_zero]
        clear e9
        have lS : Hid ((labA (msA A1) lbC V 32).length = 32) := labA_full (msA A1) lbC V 32 (by decide) (by rw [lV.out]; decide) (by decide)
        generalize labA (msA A1) lbC V 32 = S0 at *
        clear L9 L10 t9 lA
        go_wp2
        go_loopw [11, 12, 13, 14, 15] (fun x y i _ _ wr => Below W16.heap.size W16 wr ∧ ∃ (k : Nat) (ss : List Int) (ax ay : Option Addr) (cx cy : Nat), k ≤ 4 ∧ i = .int .i64 k ∧ x = .slice ax ss.length cx ∧ y = .slice ay ss.length cy ∧ Lq wr ax cx ss ∧ Lq wr ay cy ss ∧ Hid (ss.length = 32)) (fun _ _ i _ _ _ => 4 - (intOf i).toNat)
        case atStart => exact ⟨Below.refl _ _, 0, S0, a11, a12, c11, c12, by omega, rfl, rfl, rfl, L11, L12, lS⟩
        case round =>
          obtain ⟨nb, k, ss, ax, ay, cx, cy, hk, rfl, rfl, rfl, Lx, Ly, lss⟩ := hrel
          clear L11 L12 lS
          by_cases hlt : k < 4
          · have t2 : decide ((k : Int) < 4) = true := by simp; omega
            have tl := tk_lens lss.out
            have tK : (((tkK ss).length : Int) != 32) = false := by rw [tl.1]; rfl
            have tI : (((tkI ss).length : Int) != 12) = false := by rw [tl.2]; rfl
            have NX := nxA_32 lss.out
            have NB := nxA_byt ss
            have NL := nx_lab lss.out
            have T1 := hide (implTrafficKeys_any wr (HH.up nb) Lx)
            have T2 := fun W (n : Below wr.heap.size wr W) => hide (implTrafficKeys_any W (HH.up (nxt nb n)) (Ly.up n))
            have NS := fun W (n : Below wr.heap.size wr W) => hide (implNextSecret_any W (HH.up (nxt nb n)) (Lx.up n))
            have EL : ∀ W, Below wr.heap.size wr W → Hid (Calls Tryz.prog 16 #[.slice ay ss.length cy, .string ⟨#[117, 112, 100, 97, 116, 101]⟩, .slice none 0 0, .int .i64 32] W fun e w' => NewRow W.heap.size w' e .u8 (nxA ss) ∧ Below W.heap.size W w') := fun W n => by
              obtain ⟨⟨g, r⟩, b, p, q, l⟩ := Ly.up n
              rw [← NL]
              exact implLabel_any W g ay cy ss r b q l lbU (by decide) 0 none 0 [] (Rd.nil _ _ _ _) byt_nil (fun _ => rfl) (by simp) 32 ((HH.up (nxt nb n)).1) ((HH.up (nxt nb n)).2)
            have ELh := hide EL
            have NSh := hide NS
            have T2h := hide T2
            have NXh := hide NX
            have NBh := hide NB
            have nbh := hide nb
            clear T2 NS EL NL Lx Ly tl NX NB nb
            generalize nxA ss = s2 at *
            generalize tkK ss = kk at *
            generalize tkI ss = ii at *
            go_wp2_with fail
            refine T1.out.mono ?_
            rintro e w1 ⟨⟨v, rfl, xa, xa', xc, xc', xg, xg', rfl, xo, xo', xp, xp', xq, xq', xr, xr', xd⟩, n1⟩
            clear T1 xp xp' xq xq' xr xr' xd
            have B1 := Two.new w1 (.slice xa kk.length xc) (.slice xa' ii.length xc') 34
            have m1 : Below w1.heap.size w1 (w1.alloc (.cells #[.slice xa kk.length xc, .slice xa' ii.length xc'] 34)) := (Below.refl _ _).alloc (Nat.le_refl _) _
            have T2a := T2h.out _ (nxt n1 m1)
            replace xo := xo.up m1
            replace xo' := xo'.up m1
            have N1 := nxt n1 m1
            clear T2h n1 m1
            go_upto_region 19 with fail
            generalize w1.alloc (.cells #[.slice xa kk.length xc, .slice xa' ii.length xc'] 34) = w2 at *
            go_wp2_with fail
            refine T2a.out.mono ?_
            rintro e w3 ⟨⟨v, rfl, ya, ya', yc, yc', yg, yg', rfl, yo, yo', yp, yp', yq, yq', yr, yr', yd⟩, n3⟩
            clear T2a yp yp' yq yq' yr yr' yd
            have B3 := Two.new w3 (.slice ya kk.length yc) (.slice ya' ii.length yc') 34
            have m3 : Below w3.heap.size w3 (w3.alloc (.cells #[.slice ya kk.length yc, .slice ya' ii.length yc'] 34)) := (Below.refl _ _).alloc (Nat.le_refl _) _
            have M3 := nxt n3 m3
            replace xo := xo.up M3
            replace xo' := xo'.up M3
            replace yo := yo.up m3
            replace yo' := yo'.up m3
            replace B1 := B1.up M3
            have N3 := nxt N1 M3
            clear n3 m3 M3 N1
            go_upto_region 20 with fail
            generalize w3.alloc (.cells #[.slice ya kk.length yc, .slice ya' ii.length yc'] 34) = w4 at *
            have S1 := hide (lwSame_same w4 xg yg xa ya xc yc kk xo.rd yo.rd)
            have S2 := hide (lwSame_same w4 xg' yg' xa' ya' xc' yc' ii xo'.rd yo'.rd)
            have b10 := B1.c0
            have b11 := B1.c1
            have b30 := B3.c0
            have b31 := B3.c1
            clear xo xo' yo yo' B1 B3
            go_wp2_with fail
            refine S1.out.mono ?_
            rintro e w5 ⟨rfl, eW⟩
            subst eW
            go_wp2_with fail
            refine S2.out.mono ?_
            rintro e w6 ⟨rfl, eW⟩
            subst eW
            have NA := NSh.out _ N3
            clear S1 S2 NSh b10 b11 b30 b31
            go_wp2_with fail
            refine NA.out.mono ?_
            rintro e w7 ⟨⟨za, zc, zg, rfl, zo, zp, zq, zr⟩, n7⟩
            have N7 := nxt N3 n7
            have EA := ELh.out _ N7
            clear NA ELh n7 N3
            go_wp2_with fail
            refine EA.out.mono ?_
            rintro e w8 ⟨⟨ua, uc, ug, rfl, uo, up, uq, ur⟩, n8⟩
            have N8 := nxt N7 n8
            have Lz := hide ((Lq.of zo zp zq NBh.out (by rw [NXh.out]; decide)).up n8)
            have Lu := hide (Lq.of uo up uq NBh.out (by rw [NXh.out]; decide))
            clear zo zp zq uo up uq EA n8 N7
            go_wp2
            go_roundw
            case rel => exact ⟨nxt nbh.out N8, k + 1, s2, za, ua, zc, uc, by omega, by go_num, rfl, rfl, Lz.out, Lu.out, NXh⟩
            case measure => simp [intOf]; omega
          · obtain rfl : k = 4 := by omega
            clear Lx Ly lss
            replace SX := SX.up nb
            replace HH := HH.up nb
            replace L6 := L6.up nb
            replace N := nxt N nb
            clear nb
            go_upto_region 24 with fail
            refine region_end 20 (fun i => [LQf Z, LQf (Z), Fact.eq (.slice (some ⟨q, 0, none⟩) 6 6), Fact.eq (.pointer (some ⟨q, 4, none⟩)), LQf U, LQf (U), LQf (bmA Z U), LQf Z, LQf (Z), LQf (eaA Z), LQf (hE), LQf (labA (eaA Z) lbB hE 32), Fact.eq (.slice (some ⟨q, 0, none⟩) 6 6), Fact.eq (.pointer (some ⟨q, 4, none⟩)), LQf U, LQf (U), LQf (hashL32 U), LQf (fmA (labA (eaA Z) lbB hE 32) (hashL32 U)), Fact.eq (.bool true), Fact.eq (.bool true)].getD i Fact.no) (by kernel_rfl) (by kernel_rfl) rfl ?_ ?_
            · intro i hi
              obtain rfl | rfl | rfl | rfl | rfl | rfl | rfl | rfl | rfl | rfl | rfl | rfl | rfl | rfl | rfl | rfl | rfl | rfl | rfl | rfl : i = 0 ∨ i = 1 ∨ i = 2 ∨ i = 3 ∨ i = 4 ∨ i = 5 ∨ i = 6 ∨ i = 7 ∨ i = 8 ∨ i = 9 ∨ i = 10 ∨ i = 11 ∨ i = 12 ∨ i = 13 ∨ i = 14 ∨ i = 15 ∨ i = 16 ∨ i = 17 ∨ i = 18 ∨ i = 19 := by omega
              · exact lqm rfl 6 rfl (by kernel_rfl) rfl L6 rfl
              · exact lcp rfl 136 0 rfl (by kernel_rfl) rfl rfl
              · exact eqm rfl 5 rfl (by kernel_rfl) rfl rfl
              · exact lqi rfl 138 2 q 4 (by decide) rfl (by kernel_rfl) rfl rfl
              · exact lql rfl 139 3 q 4 rfl (by kernel_rfl) rfl (fun W n => (SX.up n).c4.lq) rfl
              · exact lcp rfl 140 4 rfl (by kernel_rfl) rfl rfl
              · exact lbm HH rfl 137 141 1 5 rfl (by kernel_rfl) (by kernel_rfl) rfl rfl rfl
              · exact lqm rfl 6 rfl (by kernel_rfl) rfl L6 rfl
              · exact lcp rfl 143 7 rfl (by kernel_rfl) rfl rfl
              · exact lea HH rfl 144 8 rfl (by kernel_rfl) rfl rfl
              · exact lh0 HH rfl rfl rfl
              · exact lde HH rfl 145 146 9 10 lbB (by decide) rfl (by kernel_rfl) (by kernel_rfl) rfl rfl rfl
              · exact eqm rfl 5 rfl (by kernel_rfl) rfl rfl
              · exact lqi rfl 148 12 q 4 (by decide) rfl (by kernel_rfl) rfl rfl
              · exact lql rfl 149 13 q 4 rfl (by kernel_rfl) rfl (fun W n => (SX.up n).c4.lq) rfl
              · exact lcp rfl 150 14 rfl (by kernel_rfl) rfl rfl
              · exact lha HH rfl 151 15 rfl (by kernel_rfl) rfl rfl
              · exact lfm HH rfl 147 152 11 16 rfl (by kernel_rfl) (by kernel_rfl) rfl rfl rfl
              · exact lsm rfl 142 153 6 17 rfl (by kernel_rfl) (by kernel_rfl) rfl (by show LQf (fmA (labA (eaA Z) lbB hE 32) (hashL32 U)) = _; rw [← BF.out]) rfl
              · exact bta rfl 154 18 rfl (by kernel_rfl) rfl rfl
            intro A W24 hb n24 hF
            have e9 := hF 19 4 (by kernel_rfl)
            obtain ⟨vs, hvs⟩ : ∃ vs : Nat → Value, ∀ d, A.tmps.getD d undef = vs d := ⟨_, fun _ => rfl⟩
            rw [hvs] at e9
            rw [puts_of (md := .any) (k := 20) (by kernel_rfl) rfl hb vs hvs]
            have e8 : vs 4 = .bool true := e9
            clear hb hF hvs e9
            replace N := nxt N n24
            simp only [puts, e8, Act.put, List.setIfInBounds_toArray, List.set_cons_succ, List.set_cons_zero]
            clear e8 SX HH L6 BF
            go_wp2
            go_ret
            exact ⟨rfl, N⟩
    · have u1 : decide ((1048576 : Int) < (X1.length : Int)) = true := by simp; omega
      go_enter Tryz.func3, Tryz.ntmps3
      go_wp2
      go_ret
      exact ⟨rfl, Below.refl _ _⟩
  · have u0 : decide ((1048576 : Int) < (X0.length : Int)) = true := by simp; omega
    go_enter Tryz.func3, Tryz.ntmps3
    go_wp2
    go_ret
    exact ⟨rfl, Below.refl _ _⟩
theorem laid_agree {W : World} (h : laidMetH Tryz.prog Rows.fnSchedulesAgreeRow.laid W) : HasL W ∧ HasH W := ⟨hasL_of h (by kernel_rfl) (.head _) (.tail _ (.head _)) (.tail _ (.tail _ (.head _))), start_of (reads_ofH h (by kernel_rfl) (.tail _ (.tail _ (.tail _ (.head _))))), steps_of (reads_ofH h (by kernel_rfl) (.tail _ (.tail _ (.tail _ (.tail _ (.head _))))))⟩
end Go.Proofs.YteedfhljbdnmnaaGreatDoor
