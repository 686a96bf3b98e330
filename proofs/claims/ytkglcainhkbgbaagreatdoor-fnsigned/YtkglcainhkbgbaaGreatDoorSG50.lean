import Derived.Test.YtkglcainhkbgbaaGreatDoorSG49
import Derived.Test.YtkglcainhkbgbaaGreatDoorSG44
import Derived.Test.YtkglcainhkbgbaaGreatDoorSG46
import Derived.Deep.QuietTactic
import Derived.BigQuiet
import Derived.Test.YtkglcainhkbgbaaGreatDoorSG5
import Derived.Test.YtkglcainhkbgbaaGreatDoorSG43
import Derived.Test.YtkglcainhkbgbaaGreatDoorSG41
import Derived.Test.YtkglcainhkbgbaaGreatDoorSG38
import Derived.Deep.RegionWith
import Derived.Deep.DeepCutAuto
import Derived.Test.YtkglcainhkbgbaaGreatDoorSG12
import Derived.Test.YtkglcainhkbgbaaGreatDoorSG40
namespace Go.Proofs.YtkglcainhkbgbaaGreatDoor
set_option maxRecDepth 100000
open Go Go.RowKit
def sgR (M xs : List Int) : List Int := sgB (hsN (M ++ xs))
def sgnL (u : Int) (M P xs : List Int) : List Int := sgR M xs ++ fill (byt ((wval (hsW (sgR M xs ++ (P ++ xs))) * u + wval (hsW (M ++ xs))) % QQ)) 32
theorem sgR_len (M xs : List Int) : (sgR M xs).length = 32 := en_len _
theorem sgR_byt (M xs : List Int) : Byt (sgR M xs) := en_byt (pv_mulB _)
theorem cat2 (l m : Lst) : cat [l, m] = l.xs ++ m.xs := by simp [cat]
theorem cat3 (l m n : Lst) : cat [l, m, n] = l.xs ++ (m.xs ++ n.xs) := by simp [cat]
theorem lsts2 (w : World) (l m : Lst) (t : TypeId) : Lsts (w.alloc (.cells #[.slice l.a l.xs.length l.c, .slice m.a m.xs.length m.c] t)) w.heap.size [l, m] := fun j x hj => by
  rw [(RwC.new w [.slice l.a l.xs.length l.c, .slice m.a m.xs.length m.c] t).cell j]
  match j, hj with
  | 0, hj => simp at hj; subst hj; rfl
  | 1, hj => simp at hj; subst hj; rfl
  | j + 2, hj => simp at hj
theorem lsts3 (w : World) (l m n : Lst) (t : TypeId) : Lsts (w.alloc (.cells #[.slice l.a l.xs.length l.c, .slice m.a m.xs.length m.c, .slice n.a n.xs.length n.c] t)) w.heap.size [l, m, n] := fun j x hj => by
  rw [(RwC.new w [.slice l.a l.xs.length l.c, .slice m.a m.xs.length m.c, .slice n.a n.xs.length n.c] t).cell j]
  match j, hj with
  | 0, hj => simp at hj; subst hj; rfl
  | 1, hj => simp at hj; subst hj; rfl
  | 2, hj => simp at hj; subst hj; rfl
  | j + 3, hj => simp at hj
structure HasN (w : World) : Prop where
  S : HasS w
  A : HasT w 5 stLh
  B : HasT w 7 kL
  O : HasO w
theorem HasN.up {w w' : World} (h : HasN w) (n : Below w.heap.size w w') : HasN w' := ⟨h.S.up n, h.A.up n, h.B.up n, h.O.up n⟩
set_option maxHeartbeats 1000000 in
theorem sign_any (w : World) (U : Nat → Int) (hU : W4 U) (am ap ax : Option Addr) (cm cp cx gm gp gx : Nat) (M P xs : List Int)
    (hM : Rd w gm am .u8 M) (lM : M.length = 32) (bM : Byt M) (kM : 32 ≤ cm) (hP : Rd w gp ap .u8 P) (lP : P.length = 32) (bP : Byt P) (kP : 32 ≤ cp) (hx : Rd w gx ax .u8 xs) (bx : Byt xs) (kx : xs.length ≤ cx) (hl : xs.length ≤ 1048576) (H : HasN w) :
    Calls Tryz.prog 20 #[.agg (sgC U (.slice am 32 cm) (.slice ap 32 cp)).toArray, .slice ax xs.length cx] w fun r w' => NewRow w.heap.size w' r .u8 (sgnL (wval U) M P xs) ∧ Below w.heap.size w w' := by
  show Calls Tryz.prog 20 #[.agg #[.int .u64 (U 0), .int .u64 (U 1), .int .u64 (U 2), .int .u64 (U 3), .slice am 32 cm, .slice ap 32 cp], .slice ax xs.length cx] w _
  have R0 : RwC (w.alloc (.cells #[.int .u64 (U 0), .int .u64 (U 1), .int .u64 (U 2), .int .u64 (U 3), .slice am 32 cm, .slice ap 32 cp] 43)) w.heap.size (sgC U (.slice am 32 cm) (.slice ap 32 cp)) 43 := RwC.new w (sgC U (.slice am 32 cm) (.slice ap 32 cp)) _
  have m0 : Below w.heap.size w (w.alloc (.cells #[.int .u64 (U 0), .int .u64 (U 1), .int .u64 (U 2), .int .u64 (U 3), .slice am 32 cm, .slice ap 32 cp] 43)) := (Below.refl _ _).alloc (Nat.le_refl _) _
  have c4 : (w.alloc (.cells #[.int .u64 (U 0), .int .u64 (U 1), .int .u64 (U 2), .int .u64 (U 3), .slice am 32 cm, .slice ap 32 cp] 43)).cell? ⟨w.heap.size, 4, none⟩ = some (.slice am 32 cm) := R0.cell 4
  generalize hwa : w.alloc (.cells #[.int .u64 (U 0), .int .u64 (U 1), .int .u64 (U 2), .int .u64 (U 3), .slice am 32 cm, .slice ap 32 cp] 43) = wa at *
  have m1 : Below wa.heap.size wa (wa.alloc (.cells #[.slice am 32 cm, .slice ax xs.length cx] 22)) := (Below.refl _ _).alloc (Nat.le_refl _) _
  have N1 := nxt m0 m1
  have LS1 : Lsts (wa.alloc (.cells #[.slice am M.length cm, .slice ax xs.length cx] 22)) wa.heap.size [⟨gm, am, cm, M⟩, ⟨gx, ax, cx, xs⟩] := lsts2 wa ⟨gm, am, cm, M⟩ ⟨gx, ax, cx, xs⟩ 22
  rw [lM] at LS1
  have HS1 := hide (hashedScalar_any _ wa.heap.size 2 2 [⟨gm, am, cm, M⟩, ⟨gx, ax, cx, xs⟩] rfl (by decide) (by decide) LS1 (fun l h => by
    rcases List.mem_cons.1 h with rfl | h
    · exact ⟨hM.up N1, bM, by rw [lM]; exact kM⟩
    · rw [List.mem_singleton.1 h]
      exact ⟨hx.up N1, bx, kx⟩) (by rw [cat2, List.length_append]; show M.length + xs.length ≤ _; omega) (H.A.up N1) (H.B.up N1) (H.O.up N1))
  rw [cat2] at HS1
  change Hid (Calls _ _ _ _ fun r w' => r = .returned (ag4 (hsW (M ++ xs))) ∧ _) at HS1
  have hW := hide (hsW_ok (M ++ xs))
  have hV := hide (hsN_val (M ++ xs))
  have EQ := hide (show sgnL (wval U) M P xs = sgR M xs ++ fill (byt ((wval (hsW (sgR M xs ++ (P ++ xs))) * wval U + wval (hsW (M ++ xs))) % QQ)) 32 by rw [sgnL])
  have FE := hide (show sgB (hsN (M ++ xs)) = sgR M xs by rw [sgR])
  rw [EQ.out]
  have FL := hide (sgR_len M xs)
  have FB := hide (sgR_byt M xs)
  generalize hsW (M ++ xs) = r at *
  generalize hsN (M ++ xs) = v at *
  generalize sgR M xs = F at *
  clear LS1 lM bM kM EQ hM
  go_enter Tryz.func20, Tryz.ntmps20
  go_wp2_with fail
  clear hwa
  refine HS1.out.mono ?_
  rintro e w1 ⟨rfl, n1⟩
  have M1 := nxt N1 n1
  have S1 := (R0.up m1).up n1
  simp only [ag4]
  have RR : RwC (w1.alloc (.cells #[.int .u64 (r 0), .int .u64 (r 1), .int .u64 (r 2), .int .u64 (r 3)] 41)) w1.heap.size (cU r) 41 := RwC.new w1 (cU r) _
  have m2 : Below w1.heap.size w1 (w1.alloc (.cells #[.int .u64 (r 0), .int .u64 (r 1), .int .u64 (r 2), .int .u64 (r 3)] 41)) := (Below.refl _ _).alloc (Nat.le_refl _) _
  have M2 := nxt M1 m2
  have S2 := S1.up m2
  have BF := hide (baseForm_any _ r hW.out.1 v hV.out (H.S.up M2))
  rw [FE.out] at BF
  simp only [ag4] at BF
  have d0 : (w1.alloc (.cells #[.int .u64 (r 0), .int .u64 (r 1), .int .u64 (r 2), .int .u64 (r 3)] 41)).cell? ⟨w1.heap.size, 0, none⟩ = some (.int .u64 (r 0)) := RR.cell 0
  have d1 : (w1.alloc (.cells #[.int .u64 (r 0), .int .u64 (r 1), .int .u64 (r 2), .int .u64 (r 3)] 41)).cell? ⟨w1.heap.size, 1, none⟩ = some (.int .u64 (r 1)) := RR.cell 1
  have d2 : (w1.alloc (.cells #[.int .u64 (r 0), .int .u64 (r 1), .int .u64 (r 2), .int .u64 (r 3)] 41)).cell? ⟨w1.heap.size, 2, none⟩ = some (.int .u64 (r 2)) := RR.cell 2
  have d3 : (w1.alloc (.cells #[.int .u64 (r 0), .int .u64 (r 1), .int .u64 (r 2), .int .u64 (r 3)] 41)).cell? ⟨w1.heap.size, 3, none⟩ = some (.int .u64 (r 3)) := RR.cell 3
  clear HS1 R0 m0 m1 N1 n1 M1 S1 c4 FE
  go_wp2_with fail
  generalize w1.alloc (.cells #[.int .u64 (r 0), .int .u64 (r 1), .int .u64 (r 2), .int .u64 (r 3)] 41) = w2 at *
  refine BF.out.mono ?_
  rintro e w3 ⟨⟨a3, c3, g3, rfl, o3, p3, q3, r3⟩, n3⟩
  have P3 := hide p3
  clear p3
  have M3 := nxt M2 n3
  have S3 := S2.up n3
  have T3 := RR.up n3
  rw [FL.out] at q3 ⊢
  have m4 : Below w3.heap.size w3 (w3.alloc (.cells #[.slice a3 32 c3, .slice ap 32 cp, .slice ax xs.length cx] 22)) := (Below.refl _ _).alloc (Nat.le_refl _) _
  have M4 := nxt M3 m4
  have LS2 : Lsts (w3.alloc (.cells #[.slice a3 F.length c3, .slice ap P.length cp, .slice ax xs.length cx] 22)) w3.heap.size [⟨g3, a3, c3, F⟩, ⟨gp, ap, cp, P⟩, ⟨gx, ax, cx, xs⟩] := lsts3 w3 ⟨g3, a3, c3, F⟩ ⟨gp, ap, cp, P⟩ ⟨gx, ax, cx, xs⟩ 22
  rw [FL.out, lP] at LS2
  have HS2 := hide (hashedScalar_any _ w3.heap.size 3 3 [⟨g3, a3, c3, F⟩, ⟨gp, ap, cp, P⟩, ⟨gx, ax, cx, xs⟩] rfl (by decide) (by decide) LS2 (fun l h => by
    rcases List.mem_cons.1 h with rfl | h
    · exact ⟨(o3.up m4).rd, FB.out, by show F.length ≤ c3; rw [FL.out]; exact q3⟩
    · rcases List.mem_cons.1 h with rfl | h
      · exact ⟨hP.up M4, bP, by show P.length ≤ cp; rw [lP]; exact kP⟩
      · rw [List.mem_singleton.1 h]
        exact ⟨hx.up M4, bx, kx⟩) (by rw [cat3, List.length_append, List.length_append]; show F.length + (P.length + xs.length) ≤ _; rw [FL.out]; omega) (H.A.up M4) (H.B.up M4) (H.O.up M4))
  rw [cat3] at HS2
  change Hid (Calls _ _ _ _ fun r w' => r = .returned (ag4 (hsW (F ++ (P ++ xs)))) ∧ _) at HS2
  have kW := hide (hsW_ok (F ++ (P ++ xs)))
  generalize hk : hsW (F ++ (P ++ xs)) = k at *
  have HK := hide hk
  clear hk
  have c5 : w3.cell? ⟨w.heap.size, 5, none⟩ = some (.slice ap 32 cp) := S3.cell 5
  have O3 := o3.up m4
  have S4 := S3.up m4
  have T4 := T3.up m4
  clear BF n3 d0 d1 d2 d3 M2 S2 RR LS2 hP lP bP kP hx bx kx hl o3 T3 S3 m2
  go_wp2_with fail
  generalize w3.alloc (.cells #[.slice a3 32 c3, .slice ap 32 cp, .slice ax xs.length cx] 22) = w4 at *
  refine HS2.out.mono ?_
  rintro e w5 ⟨rfl, n5⟩
  have M5 := nxt M4 n5
  have S5 := S4.up n5
  have T5 := T4.up n5
  have O5 := O3.up n5
  simp only [ag4]
  have KK : RwC (w5.alloc (.cells #[.int .u64 (k 0), .int .u64 (k 1), .int .u64 (k 2), .int .u64 (k 3)] 41)) w5.heap.size (cU k) 41 := RwC.new w5 (cU k) _
  have m6 : Below w5.heap.size w5 (w5.alloc (.cells #[.int .u64 (k 0), .int .u64 (k 1), .int .u64 (k 2), .int .u64 (k 3)] 41)) := (Below.refl _ _).alloc (Nat.le_refl _) _
  have M6 := nxt M5 m6
  have S6 := S5.up m6
  have T6 := T5.up m6
  have O6 := O5.up m6
  obtain ⟨w6, hw6⟩ : ∃ W, W = w5.alloc (.cells #[.int .u64 (k 0), .int .u64 (k 1), .int .u64 (k 2), .int .u64 (k 3)] 41) := ⟨_, rfl⟩
  rw [← hw6] at KK M6 S6 T6 O6
  have k0 : w6.cell? ⟨w5.heap.size, 0, none⟩ = some (.int .u64 (k 0)) := KK.cell 0
  have k1 : w6.cell? ⟨w5.heap.size, 1, none⟩ = some (.int .u64 (k 1)) := KK.cell 1
  have k2 : w6.cell? ⟨w5.heap.size, 2, none⟩ = some (.int .u64 (k 2)) := KK.cell 2
  have k3 : w6.cell? ⟨w5.heap.size, 3, none⟩ = some (.int .u64 (k 3)) := KK.cell 3
  have s0 : w6.cell? ⟨w.heap.size, 0, none⟩ = some (.int .u64 (U 0)) := S6.cell 0
  have s1 : w6.cell? ⟨w.heap.size, 1, none⟩ = some (.int .u64 (U 1)) := S6.cell 1
  have s2 : w6.cell? ⟨w.heap.size, 2, none⟩ = some (.int .u64 (U 2)) := S6.cell 2
  have s3 : w6.cell? ⟨w.heap.size, 3, none⟩ = some (.int .u64 (U 3)) := S6.cell 3
  have t0 : w6.cell? ⟨w1.heap.size, 0, none⟩ = some (.int .u64 (r 0)) := T6.cell 0
  have t1 : w6.cell? ⟨w1.heap.size, 1, none⟩ = some (.int .u64 (r 1)) := T6.cell 1
  have t2 : w6.cell? ⟨w1.heap.size, 2, none⟩ = some (.int .u64 (r 2)) := T6.cell 2
  have t3 : w6.cell? ⟨w1.heap.size, 3, none⟩ = some (.int .u64 (r 3)) := T6.cell 3
  obtain ⟨-, m7, m8⟩ := ma_all kW.out.1 hU hW.out.1
  have MM := hide (m7 4 (by omega))
  have MA := hide (fun W => mulAdd_any W k U r kW.out.1 hU hW.out.1)
  obtain ⟨q1, q2⟩ := rdD_ok MM.out
  have DR := hide (fun W (n : Below w.heap.size w W) => doubleReduce_any W _ MM.out (H.O.up n))
  have SB := hide (fun W => scalarBytes_any W _ q1)
  rw [q2, m8] at SB
  clear HS2 n5 M4 S4 T4 O3 M5 S5 T5 O5 m4 m6 c5 M3 q2 q1 m7 m8 KK S6 T6 H
  generalize ma k U r 4 = D at *
  generalize rdD D = f at *
  simp only [ag4] at MA DR SB
  go_upto_region 4 with fail
  rw [← hw6]
  clear hw6
  go_wp2_with fail
  refine (MA.out w6).mono ?_
  rintro e w7 ⟨rfl, n7⟩
  have M7 := nxt M6 n7
  have O7 := O6.up n7
  have DR7 := hide (DR.out w7 M7)
  clear MA n7 M6 O6 DR k0 k1 k2 k3 s0 s1 s2 s3 t0 t1 t2 t3
  go_wp2_with fail
  refine DR7.out.mono ?_
  rintro e w8 ⟨rfl, n8⟩
  have M8 := nxt M7 n8
  have O8 := O7.up n8
  clear DR7 n8 M7 O7
  go_wp2_with fail
  refine (SB.out w8).mono ?_
  rintro e w9 ⟨⟨a9, c9, g9, rfl, o9, p9, q9, r9⟩, n9⟩
  have M9 := nxt M8 n9
  have O9 := O8.up n9
  have ZL := hide (show (fill (byt ((wval k * wval U + wval r) % QQ)) 32).length = 32 from fill_len _ _)
  generalize hz : fill (byt ((wval k * wval U + wval r) % QQ)) 32 = zs at *
  have HZ := hide hz
  clear hz
  rw [ZL.out] at q9 ⊢
  have mA : Below w9.heap.size w9 (w9.alloc (.cells #[.slice a3 32 c3, .slice a9 32 c9] 22)) := (Below.refl _ _).alloc (Nat.le_refl _) _
  have MB := nxt M9 mA
  have LS3 : Lsts (w9.alloc (.cells #[.slice a3 F.length c3, .slice a9 zs.length c9] 22)) w9.heap.size [⟨g3, a3, c3, F⟩, ⟨g9, a9, c9, zs⟩] := lsts2 w9 ⟨g3, a3, c3, F⟩ ⟨g9, a9, c9, zs⟩ 22
  rw [FL.out, ZL.out] at LS3
  have CC := hide (concat_any _ w9.heap.size 2 2 [⟨g3, a3, c3, F⟩, ⟨g9, a9, c9, zs⟩] rfl (by decide) LS3 (fun l h => by
    rcases List.mem_cons.1 h with rfl | h
    · exact ⟨(O9.up mA).rd, P3.out⟩
    · rw [List.mem_singleton.1 h]
      exact ⟨(o9.up mA).rd, p9⟩) (by rw [cat2, List.length_append]; show 0 < F.length + zs.length; rw [FL.out]; omega) (by rw [cat2, List.length_append]; show F.length + zs.length ≤ _; rw [FL.out, ZL.out]; omega))
  rw [cat2] at CC
  change Hid (Calls _ _ _ _ fun e w' => NewRow _ w' e .u8 (F ++ zs) ∧ _) at CC
  have zz := MB.size
  clear SB n9 M8 O8 M9 O9 o9 p9 q9 r9 mA LS3 P3
  go_wp2_with fail
  refine CC.out.mono ?_
  rintro e wC ⟨⟨aC, cC, gC, rfl, oC, pC, qC, rC⟩, nC⟩
  have NC := nxt MB nC
  clear CC nC
  go_wp2
  go_ret
  rw [HK.out, HZ.out]
  exact ⟨⟨aC, cC, gC, by rw [List.length_append]; rfl, oC, pC, qC, by omega⟩, NC⟩
end Go.Proofs.YtkglcainhkbgbaaGreatDoor
namespace Go.Proofs.YtkglcainhkbgbaaGreatDoor
set_option maxRecDepth 100000
open Go Go.RowKit
theorem eqE9 (a0 a1 a2 a3 a4 b0 b1 b2 b3 b4 : Int) (w : World) :
    (Op.equalIn 9999 80 (.agg #[.int .u64 a0, .int .u64 a1, .int .u64 a2, .int .u64 a3, .int .u64 a4]) (.agg #[.int .u64 b0, .int .u64 b1, .int .u64 b2, .int .u64 b3, .int .u64 b4])).run Tryz.prog w = .ok (a0 == b0 && a1 == b1 && a2 == b2 && a3 == b3 && a4 == b4) w := by
  have u3 := Tryz.underlying39
  have a3' := Tryz.isAgg39
  have z3 := Tryz.sizeOf39
  rw [show (9999 : Nat) = 9998 + 1 from rfl, Op.equalIn]
  simp only [Sem.run_bind, run_underlying Tryz.underlying80, Result.andThen_ok]
  simp only [Std.Legacy.Range.forIn_eq_forIn_range', Std.Legacy.Range.size, Nat.sub_zero, Nat.add_sub_cancel, Nat.div_one, List.range'_succ, List.range'_zero, List.forIn_cons, List.forIn_nil]
  go_simp
  by_cases h0 : a0 = b0 <;> by_cases h1 : a1 = b1 <;> by_cases h2 : a2 = b2 <;> by_cases h3 : a3 = b3 <;> by_cases h4 : a4 = b4 <;> simp [h0, h1, h2, h3, h4]
theorem partA0 (x y : Nat → Int) (w : World) : (part 80 (clN [x, y]).toArray 0).run Tryz.prog w = .ok (.agg (cl5 x).toArray) w := by kernel_rfl
theorem partA5 (x y : Nat → Int) (w : World) : (part 80 (clN [x, y]).toArray 5).run Tryz.prog w = .ok (.agg (cl5 y).toArray) w := by kernel_rfl
def eq5 (x y : Nat → Int) : Bool := x 0 == y 0 && x 1 == y 1 && x 2 == y 2 && x 3 == y 3 && x 4 == y 4
theorem eqE (x y : Nat → Int) (w : World) : (Op.equalIn 9999 80 (.agg (cl5 x).toArray) (.agg (cl5 y).toArray)).run Tryz.prog w = .ok (eq5 x y) w := eqE9 _ _ _ _ _ _ _ _ _ _ w
set_option maxHeartbeats 4000000 in
theorem eqAff (x y x' y' : Nat → Int) (w : World) :
    (Op.equalIn 10000 82 (agN [x, y]) (agN [x', y'])).run Tryz.prog w = .ok (eq5 x x' && eq5 y y') w := by
  have hs : Tryz.prog.stoodInHeld 82 = false := by kernel_rfl
  have p0 := partA0 x y
  have p5 := partA5 x y
  have q0 := partA0 x' y'
  have q5 := partA5 x' y'
  have e0 := eqE x x'
  have e5 := eqE y y'
  unfold agN
  rw [show (10000 : Nat) = 9999 + 1 from rfl, Op.equalIn]
  simp only [Sem.run_bind, run_underlying Tryz.underlying82, Result.andThen_ok]
  cases h : eq5 x x'
  · simp [hs, p0, p5, q0, q5, e0, e5, h]
  · cases k : eq5 y y' <;> simp [hs, p0, p5, q0, q5, e0, e5, h, k]
theorem eq5_iff {x y : Nat → Int} {X Y : Int} (hx : Is5 x X) (hy : Is5 y Y) : eq5 x y = decide (X % PP = Y % PP) := by
  by_cases h : X % PP = Y % PP
  · have e := hx.1.uniq hy.1 (by rw [hx.2, hy.2, h])
    rw [decide_eq_true h]
    simp [eq5, e 0 (by omega), e 1 (by omega), e 2 (by omega), e 3 (by omega), e 4 (by omega)]
  · rw [decide_eq_false h]
    cases k : eq5 x y with
    | false => rfl
    | true =>
      exfalso
      simp only [eq5, Bool.and_eq_true, beq_iff_eq] at k
      obtain ⟨⟨⟨⟨k0, k1⟩, k2⟩, k3⟩, k4⟩ := k
      apply h
      rw [← hx.2, ← hy.2]
      simp only [sv]
      rw [k0, k1, k2, k3, k4]
def pEq (p q : Int × Int) : Bool := decide (p.1 % PP = q.1 % PP) && decide (p.2 % PP = q.2 % PP)
theorem isn2 {es : List (Nat → Int)} {X Y : Int} (h : IsN es [X, Y]) : ∃ x y, es = [x, y] ∧ Is5 x X ∧ Is5 y Y := by
  match es, h with
  | [x, y], h => exact ⟨x, y, rfl, h.1, h.2.1⟩
theorem run_eqA {es fs : List (Nat → Int)} {X Y X' Y' : Int} (h : IsN es [X, Y]) (h' : IsN fs [X', Y']) (w : World) : (Op.equalIn 10000 82 (agN es) (agN fs)).run Tryz.prog w = .ok (pEq (X, Y) (X', Y')) w := by
  obtain ⟨x, y, rfl, hx, hy⟩ := isn2 h
  obtain ⟨x', y', rfl, hx', hy'⟩ := isn2 h'
  rw [eqAff, eq5_iff hx hx', eq5_iff hy hy']
  rfl
def dbN (p : Int × Int) : Nat → Int × Int
  | 0 => p
  | n + 1 => eadd (-1) d0 einv (dbN p n) (dbN p n)
theorem dbN_pe {p : Int × Int} (hp : OnP PP (-1) d0 p) : ∀ n, OnP PP (-1) d0 (dbN p n) ∧ Pe PP (dbN p n) (mlP (2 ^ n) p)
  | 0 => ⟨hp, (mlP_one hp).symm⟩
  | n + 1 => by
    obtain ⟨h1, h2⟩ := dbN_pe hp n
    have k : Pe PP (dbN p (n + 1)) (mlP (2 ^ (n + 1)) p) := by
      have e := (eadd_cg crv1 h1 h1 h2 h2).trans (mlP_add hp (2 ^ n) (2 ^ n))
      rw [show 2 ^ n + 2 ^ n = 2 ^ (n + 1) by rw [Nat.pow_succ]; omega] at e
      exact e
    exact ⟨on_pe (mlP_on hp _) k.symm, k⟩
def smB (p : Int × Int) : Bool := pEq (mlP 8 p) (0, 1)
end Go.Proofs.YtkglcainhkbgbaaGreatDoor
namespace Go.Proofs.YtkglcainhkbgbaaGreatDoor
set_option maxRecDepth 100000
open Go Go.RowKit
theorem iEx : (Tryz.prog.info? 146).map (·.size) = some 20 := by kernel_rfl
theorem iPr : (Tryz.prog.info? 144).map (·.size) = some 15 := by kernel_rfl
theorem iAf : (Tryz.prog.info? 82).map (·.size) = some 10 := by kernel_rfl
theorem rowEx : ∃ d, Tryz.prog.underlying 146 = some d ∧ d.isRow = true := ⟨_, Tryz.underlying146, rfl⟩
theorem rowPr : ∃ d, Tryz.prog.underlying 144 = some d ∧ d.isRow = true := ⟨_, Tryz.underlying144, rfl⟩
theorem rowAf : ∃ d, Tryz.prog.underlying 82 = some d ∧ d.isRow = true := ⟨_, Tryz.underlying82, rfl⟩
theorem there_set {W : World} {q n : Nat} {cs : List Value} (h : W.there q 0 n) (hl : cs.length = n) : (W.setCells q 0 cs).there q 0 n := fun j hj => by
  have hr := World.rangeAt_setCells_same W q 0 cs (by rw [hl]; exact h)
  refine ⟨hr.isSome j (by omega), ?_⟩
  rw [World.frozen?_setCells]
  exact (h j hj).2
theorem range_pre {W : World} {q : Nat} {a b : List Value} (h : W.rangeAt q 0 (a ++ b)) : W.rangeAt q 0 a := fun j v hj => h j v (by rw [List.getElem?_append_left ((List.getElem?_eq_some_iff.1 hj).1)]; exact hj)
theorem ext4 {es : List (Nat → Int)} {q : Int × Int} (h : Ext es q) : ∃ x y z t, es = [x, y, z, t] := by
  have := h.len
  match es, this with
  | [x, y, z, t], _ => exact ⟨x, y, z, t, rfl⟩
theorem eql_A {es fs : List (Nat → Int)} {X Y X' Y' : Int} (h : IsN es [X, Y]) (h' : IsN fs [X', Y']) (p q : Nat) (w : World) : (do eqGuard .eql 82 (.tmp p) (.tmp q) (agN es) (agN fs); binOp .eql 82 (agN es) (agN fs) : Sem Value).run Tryz.prog w = .ok (.bool (pEq (X, Y) (X', Y'))) w := by
  have k : (Op.equal 82 (agN es) (agN fs)).run Tryz.prog w = _ := run_eqA h h' w
  obtain ⟨x, y, rfl, -, -⟩ := isn2 h
  obtain ⟨x', y', rfl, -, -⟩ := isn2 h'
  have h1 : (eqGuard .eql 82 (.tmp p) (.tmp q) (agN [x, y]) (agN [x', y'])).run Tryz.prog w = .ok () w := by kernel_rfl
  have h2 : (binOp .eql 82 (agN [x, y]) (agN [x', y'])).run Tryz.prog w = .ok (.bool (pEq (X, Y) (X', Y'))) w := by
    show (do pure (.bool (← Op.equal 82 (agN [x, y]) (agN [x', y']))) : Sem Value).run Tryz.prog w = _
    rw [Sem.run_bind, k]
    rfl
  rw [Sem.run_bind, h1]
  exact h2
theorem neq_A {es fs : List (Nat → Int)} {X Y X' Y' : Int} (h : IsN es [X, Y]) (h' : IsN fs [X', Y']) (p q : Nat) (w : World) : (do eqGuard .neq 82 (.tmp p) (.tmp q) (agN es) (agN fs); binOp .neq 82 (agN es) (agN fs) : Sem Value).run Tryz.prog w = .ok (.bool (!pEq (X, Y) (X', Y'))) w := by
  have k : (Op.equal 82 (agN es) (agN fs)).run Tryz.prog w = _ := run_eqA h h' w
  obtain ⟨x, y, rfl, -, -⟩ := isn2 h
  obtain ⟨x', y', rfl, -, -⟩ := isn2 h'
  have h1 : (eqGuard .neq 82 (.tmp p) (.tmp q) (agN [x, y]) (agN [x', y'])).run Tryz.prog w = .ok () w := by kernel_rfl
  have h2 : (binOp .neq 82 (agN [x, y]) (agN [x', y'])).run Tryz.prog w = .ok (.bool (!pEq (X, Y) (X', Y'))) w := by
    show (do pure (.bool (!(← Op.equal 82 (agN [x, y]) (agN [x', y'])))) : Sem Value).run Tryz.prog w = _
    rw [Sem.run_bind, k]
    rfl
  rw [Sem.run_bind, h1]
  exact h2
section
variable {ops : Array Oper} {Q : Exit → Act → World → Prop} {md : Region.Mode} {F : Nat → Fact} {a0 : Act} {w0 : World} {i : Nat} {o : Oper}
theorem step_eqA (hi : ops[i]? = some o) (p q j k : Nat) (P P' : Int × Int) {t : TypeId} (hop : o.op = .binOp .eql 82 (.tmp p) (.tmp q) t)
    (hj : waits md ops i j p = true) (hk : waits md ops i k q = true) (hFj : F j = EN [P.1, P.2]) (hFk : F k = EN [P'.1, P'.2]) (hFi : F i = Fact.eq (.bool (pEq P P'))) : StepOk Tryz.prog md ops Q F a0 w0 i := by
  refine step_pure hi fun a w _ _ hf => ⟨.bool (pEq P P'), ?_, by rw [hFi]; exact rfl⟩
  have h1 := hf j p hj
  have h2 := hf k q hk
  rw [hFj] at h1
  rw [hFk] at h2
  obtain ⟨us, e1, i1⟩ := h1
  obtain ⟨vs, e2, i2⟩ := h2
  have g1 : a.eval (.tmp p) = agN us := e1
  have g2 : a.eval (.tmp q) = agN vs := e2
  have k := eql_A i1 i2 p q w
  simp only [execOp, hop, g1, g2]
  rw [Sem.run_bind, k]
  rfl
theorem step_neA (hi : ops[i]? = some o) (p q j k : Nat) (P P' : Int × Int) {t : TypeId} (hop : o.op = .binOp .neq 82 (.tmp p) (.tmp q) t)
    (hj : waits md ops i j p = true) (hk : waits md ops i k q = true) (hFj : F j = EN [P.1, P.2]) (hFk : F k = EN [P'.1, P'.2]) (hFi : F i = Fact.eq (.bool (!pEq P P'))) : StepOk Tryz.prog md ops Q F a0 w0 i := by
  refine step_pure hi fun a w _ _ hf => ⟨.bool (!pEq P P'), ?_, by rw [hFi]; exact rfl⟩
  have h1 := hf j p hj
  have h2 := hf k q hk
  rw [hFj] at h1
  rw [hFk] at h2
  obtain ⟨us, e1, i1⟩ := h1
  obtain ⟨vs, e2, i2⟩ := h2
  have g1 : a.eval (.tmp p) = agN us := e1
  have g2 : a.eval (.tmp q) = agN vs := e2
  have k := neq_A i1 i2 p q w
  simp only [execOp, hop, g1, g2]
  rw [Sem.run_bind, k]
  rfl
end
set_option maxRecDepth 100000 in
set_option maxHeartbeats 8000000 in
theorem isSmall_any (w : World) (es : List (Nat → Int)) (X Y : Int) (hes : IsN es [X, Y]) (hp : OnP PP (-1) d0 (X, Y)) (H : HasS w) :
    Calls Tryz.prog 66 #[agN es] w fun r w' => r = .returned (.bool (smB (X, Y))) ∧ Below w.heap.size w w' := by
  show Calls Tryz.prog 66 #[.agg (clN es).toArray] w _
  obtain ⟨dE, hdE, hrE⟩ := rowEx
  obtain ⟨dP, hdP, hrP⟩ := rowPr
  obtain ⟨dA, hdA, hrA⟩ := rowAf
  have m0 : Below w.heap.size w (w.alloc (.cells (clN es).toArray 82)) := (Below.refl _ _).alloc (Nat.le_refl _) _
  have R0 : (w.alloc (.cells (clN es).toArray 82)).rangeAt w.heap.size 0 (clN es) := by
    obtain ⟨x, y, rfl, -, -⟩ := isn2 hes
    have := RwC.new w (clN [x, y]) 82
    intro j v hj
    rw [Nat.zero_add, this.cell j]
    exact hj
  have L0 : (clN es).length = 10 := by rw [clN_len hes]; rfl
  have TE := fun W => hide (toExt_any W es X Y hes)
  have i10 : (Tryz.prog.info? 82).map (·.size) = some (clN es).length := by rw [L0]; exact iAf
  obtain ⟨V0, hV0⟩ : ∃ V, V = clN es := ⟨_, rfl⟩
  have HE := hide (show agN es = .agg V0.toArray by rw [hV0]; rfl)
  rw [← hV0] at R0 m0 i10 ⊢
  clear hV0 L0
  go_enter Tryz.func66, Tryz.ntmps66
  go_upto_region 1 with fail
  generalize w.alloc (.cells V0.toArray 82) = wa at *
  have TE0 := TE wa
  rw [HE.out] at TE0
  have H0 := hide H
  clear H TE
  go_wp2_with (first | (refine wpList_load_mid rfl 82 (.tmp 1) rfl w.heap.size 0 rfl V0 dA R0 hdA hrA i10 ?_) | fail)
  refine TE0.out.mono ?_
  rintro r w1 ⟨ts, rfl, hts, n1⟩
  have E1 : Ext ts (dbN (X, Y) 0) := ⟨X, Y, 1, X * Y, hts, ex_one (X, Y)⟩
  have N1 := nxt m0 n1
  have m2 : Below w1.heap.size w1 (w1.alloc (.cells #[.int .u64 0, .int .u64 0, .int .u64 0, .int .u64 0, .int .u64 0, .int .u64 0, .int .u64 0, .int .u64 0, .int .u64 0, .int .u64 0, .int .u64 0, .int .u64 0, .int .u64 0, .int .u64 0, .int .u64 0, .int .u64 0, .int .u64 0, .int .u64 0, .int .u64 0, .int .u64 0] 146)) := (Below.refl _ _).alloc (Nat.le_refl _) _
  have T2 : (w1.alloc (.cells #[.int .u64 0, .int .u64 0, .int .u64 0, .int .u64 0, .int .u64 0, .int .u64 0, .int .u64 0, .int .u64 0, .int .u64 0, .int .u64 0, .int .u64 0, .int .u64 0, .int .u64 0, .int .u64 0, .int .u64 0, .int .u64 0, .int .u64 0, .int .u64 0, .int .u64 0, .int .u64 0] 146)).there w1.heap.size 0 20 := there_new w1 _ _
  have l20 : (clN ts).length = 20 := by rw [clN_size, E1.len]
  have e20 : (clN ts).toArray.size = 20 := by rw [List.size_toArray]; exact l20
  have THR : (w1.alloc (.cells #[.int .u64 0, .int .u64 0, .int .u64 0, .int .u64 0, .int .u64 0, .int .u64 0, .int .u64 0, .int .u64 0, .int .u64 0, .int .u64 0, .int .u64 0, .int .u64 0, .int .u64 0, .int .u64 0, .int .u64 0, .int .u64 0, .int .u64 0, .int .u64 0, .int .u64 0, .int .u64 0] 146)).there w1.heap.size 0 (clN ts).toArray.size := by rw [e20]; exact T2
  have iE : (Tryz.prog.info? 146).map (·.size) = some (clN ts).toArray.size := by rw [e20]; exact iEx
  have ON := clN_one ts
  clear TE0 R0 i10 hts n1 m0 HE
  have e5 : agN ts = .agg (clN ts).toArray := rfl
  rw [e5]
  go_upto_region 2 with (refine wpList_store_mid rfl 146 (.tmp 3) (.tmp 5) rfl w1.heap.size 0 (clN ts).toArray rfl rfl THR iE ON ?_)
  have rg := World.rangeAt_setCells_same (w1.alloc (.cells #[.int .u64 0, .int .u64 0, .int .u64 0, .int .u64 0, .int .u64 0, .int .u64 0, .int .u64 0, .int .u64 0, .int .u64 0, .int .u64 0, .int .u64 0, .int .u64 0, .int .u64 0, .int .u64 0, .int .u64 0, .int .u64 0, .int .u64 0, .int .u64 0, .int .u64 0, .int .u64 0] 146)) w1.heap.size 0 (clN ts) (by rw [l20]; exact T2)
  have T3 := there_set T2 l20
  have N3 : Below w.heap.size w ((w1.alloc (.cells #[.int .u64 0, .int .u64 0, .int .u64 0, .int .u64 0, .int .u64 0, .int .u64 0, .int .u64 0, .int .u64 0, .int .u64 0, .int .u64 0, .int .u64 0, .int .u64 0, .int .u64 0, .int .u64 0, .int .u64 0, .int .u64 0, .int .u64 0, .int .u64 0, .int .u64 0, .int .u64 0] 146)).setCells w1.heap.size 0 (clN ts)) := (nxt N1 m2).trans ((only_setCells _ w1.heap.size (clN ts) 0).below N1.size)
  clear THR iE ON e5 T2 m2 e20
  have qB := N1.size
  generalize (w1.alloc (.cells #[.int .u64 0, .int .u64 0, .int .u64 0, .int .u64 0, .int .u64 0, .int .u64 0, .int .u64 0, .int .u64 0, .int .u64 0, .int .u64 0, .int .u64 0, .int .u64 0, .int .u64 0, .int .u64 0, .int .u64 0, .int .u64 0, .int .u64 0, .int .u64 0, .int .u64 0, .int .u64 0] 146)).setCells w1.heap.size 0 (clN ts) = w3 at *
  generalize w1.heap.size = q at *
  clear N1
  go_wp2
  go_loopw [6] (fun i wr => ∃ (j : Nat) (ts : List (Nat → Int)), j ≤ 3 ∧ i = .int .i64 j ∧ Hid (Ext ts (dbN (X, Y) j)) ∧ Hid (wr.rangeAt q 0 (clN ts)) ∧ Hid (wr.there q 0 20) ∧ Hid (Below w.heap.size w wr)) (fun i _ => 3 - (intOf i).toNat)
  case atStart => exact ⟨0, ts, by omega, rfl, E1, rg, T3, N3⟩
  case round =>
    clear E1 rg T3 N3
    obtain ⟨j, us, hj, rfl, hE, hr, hT, hN⟩ := hrel
    have hH := hide (H0.out.up hN.out)
    have l20 : (clN us).length = 20 := by rw [clN_size, hE.out.len]
    obtain ⟨x, y, z, t, rfl⟩ := ext4 hE.out
    have pre : wr.rangeAt q 0 (clN [x, y, z]) := range_pre (a := clN [x, y, z]) (b := clN [t]) (by rw [← clN_app]; exact hr.out)
    by_cases hlt : j < 3
    · have t0 : (j : Int) < 3 := by omega
      have DB := hide (double_E wr x y z t [x, y, z, t] _ _ (dbN_pe hp j).1 hE.out hE.out hH.out.T)
      have i20 : (Tryz.prog.info? 146).map (·.size) = some (clN [x, y, z, t]).length := by rw [l20]; exact iEx
      have i15 : (Tryz.prog.info? 144).map (·.size) = some (clN [x, y, z]).length := iPr
      have rr := hr.out
      simp only [agN] at DB
      generalize clN [x, y, z] = V3 at *
      generalize clN [x, y, z, t] = V4 at *
      go_wp2_with (first
        | (refine wpList_load_mid rfl 144 (.tmp 8) rfl q 0 rfl V3 dP pre hdP hrP i15 ?_)
        | (refine wpList_load_mid rfl 146 (.tmp 3) rfl q 0 rfl V4 dE rr hdE hrE i20 ?_)
        | fail)
      refine DB.out.mono ?_
      rintro r w4 ⟨vs, rfl, hV, n4⟩
      have l4 : (clN vs).length = 20 := by rw [clN_size, hV.len]
      have e20 : (clN vs).toArray.size = 20 := by rw [List.size_toArray]; exact l4
      have T4 := there_up (by decide) hT.out n4
      have THR : w4.there q 0 (clN vs).toArray.size := by rw [e20]; exact T4
      have iE : (Tryz.prog.info? 146).map (·.size) = some (clN vs).toArray.size := by rw [e20]; exact iEx
      have ON := clN_one vs
      have rg := hide (World.rangeAt_setCells_same w4 q 0 (clN vs) (by rw [l4]; exact T4))
      have T5 := hide (there_set T4 l4)
      have N4 := nxt hN.out n4
      have N5 : Hid (Below w.heap.size w (w4.setCells q 0 (clN vs))) := N4.trans ((only_setCells _ q (clN vs) 0).below qB)
      have HV := hide hV
      clear hV l4 e20 T4 N4 DB pre rr i20 i15
      go_wp2_with (first | (refine wpList_store_mid rfl 146 (.tmp 3) (.tmp 11) rfl q 0 (clN vs).toArray rfl rfl THR iE ON ?_) | fail)
      go_roundw
      · exact ⟨j + 1, vs, by omega, by go_num, HV, rg, T5, N5⟩
      · show 3 - ((j : Int) + 1).toNat < 3 - (j : Int).toNat
        omega
    · obtain rfl : j = 3 := by omega
      obtain ⟨X1, Y1, Z1, T1, hI, hX⟩ := hE.out
      have i3 : IsN [x, y, z] [X1, Y1, Z1] := ⟨hI.1, hI.2.1, hI.2.2.1, trivial⟩
      have pl := ex_plain hX
      have pe := (dbN_pe hp 3).2
      have BB : Hid (pEq (X1 * Z1 ^ eInv, Y1 * Z1 ^ eInv) (0, 1) = smB (X, Y)) := by
        show _ = _
        have c1 := pl.1.trans (cong_dvd pe.1)
        have c2 := pl.2.trans (cong_dvd pe.2)
        unfold smB pEq
        simp only
        rw [c1, c2]
      have TA := hide fun W (n : Below wr.heap.size wr W) => toAffine_any W [x, y, z] X1 Y1 Z1 i3 (hH.out.up n).S (hH.out.up n).I
      have ZP := hH.out.Z
      have PRE := hide pre
      obtain ⟨A1, hA1⟩ : ∃ a, a = X1 * Z1 ^ eInv := ⟨_, rfl⟩
      obtain ⟨B1, hB1⟩ : ∃ a, a = Y1 * Z1 ^ eInv := ⟨_, rfl⟩
      rw [← hA1, ← hB1] at TA BB
      clear hA1 hB1 pl pe hI hX l20 hr hT hE
      go_upto_region 6 with fail
      refine region_end 6 (fun i => [Fact.eq (.pointer (some ⟨q, 0, none⟩)), Fact.eq (agN [x, y, z]), EN [A1, B1], EN [0, 1], Fact.eq (.bool (pEq (A1, B1) (0, 1))), Fact.eq (.bool (pEq (A1, B1) (0, 1)))].getD i Fact.no) (by kernel_rfl) (by kernel_rfl) rfl ?_ ?_
      · intro i hi
        obtain rfl | rfl | rfl | rfl | rfl | rfl : i = 0 ∨ i = 1 ∨ i = 2 ∨ i = 3 ∨ i = 4 ∨ i = 5 := by omega
        · refine step_pure rfl fun a ww hb hw hf => ?_
          have e3 : a.tmps[3]?.getD undef = .pointer (some ⟨q, 0, none⟩) := gdv (hb.2.2 3 (by kernel_rfl))
          exact ⟨.pointer (some ⟨q, 0, none⟩), by simp [go_sem, e3], rfl⟩
        · refine step_load rfl 144 (.tmp 13) rfl dP 15 hdP hrP iPr fun a ww hb hw hf => ?_
          have e13 : a.tmps.getD 13 undef = .pointer (some ⟨q, 0, none⟩) := hf 0 13 (by kernel_rfl)
          exact ⟨q, 0, clN [x, y, z], e13, fun j v hj => (World.cell?_of_block (a := ⟨q, 0 + j, none⟩) (hw.block q (block_lt_of_cell (PRE.out 0 (.int .u64 (x 0)) rfl)))).trans (PRE.out j v hj), rfl, rfl⟩
        · refine step_callv rfl 84 _ _ rfl (by kernel_rfl) fun a ww hb hw hf => ?_
          have e14 : a.tmps.getD 14 undef = agN [x, y, z] := hf 1 14 (by kernel_rfl)
          show Calls Tryz.prog 84 #[a.tmps.getD 14 undef] ww _
          rw [e14]
          exact (TA.out ww hw).mono (by rintro r w' ⟨ts, rfl, hI, n⟩; exact ⟨_, rfl, n, ts, rfl, hI⟩)
        · exact step_glA rfl 6 rfl _ _ ZP rfl
        · exact step_eqA rfl 15 16 2 3 (A1, B1) (0, 1) rfl (by kernel_rfl) (by kernel_rfl) rfl rfl rfl
        · refine step_pure rfl fun a ww hb hw hf => ?_
          have e17 : a.tmps[17]?.getD undef = .bool (pEq (A1, B1) (0, 1)) := gdv (hf 4 17 (by kernel_rfl))
          exact ⟨_, by simp [go_sem, e17], rfl⟩
      intro A W hb hw hF
      have e2 := hF 5 2 (by kernel_rfl)
      obtain ⟨vs, hvs⟩ : ∃ vs : Nat → Value, ∀ d, A.tmps.getD d undef = vs d := ⟨_, fun _ => rfl⟩
      rw [hvs] at e2
      rw [puts_of (md := .any) (k := 6) (by kernel_rfl) rfl hb vs hvs]
      have N9 := nxt hN.out hw
      clear hb hF hvs hw TA PRE ZP
      have e3 : vs 2 = .bool (pEq (A1, B1) (0, 1)) := e2
      simp only [puts, e3, Act.put, List.setIfInBounds_toArray, List.set_cons_succ, List.set_cons_zero]
      go_wp2
      go_ret
      exact ⟨by rw [← BB.out]; rfl, N9⟩
end Go.Proofs.YtkglcainhkbgbaaGreatDoor
namespace Go.Proofs.YtkglcainhkbgbaaGreatDoor
set_option maxRecDepth 100000
open Go Go.RowKit
def fltV (n : Int) : Value := if n = 0 then .nilIface else .iface 45 (.int .i64 n)
def ckN (p r : Int × Int) (v k : Nat) : Int := if smB p = true then 5 else if pEq (mlP v (bX, bY)) (addX r (mlP k p), addY r (mlP k p)) = true then 0 else 6
def sdC (es fs : List (Nat → Int)) (V : Nat → Int) : List Value := clN es ++ (clN fs ++ cU V)
theorem sdF (f : Nat) (off : Nat) (h : (f, off) ∈ [(0, 0), (1, 10), (2, 20)]) (q : Nat) (w : World) : (Instr.fieldAt 84 (.pointer (some ⟨q, 0, none⟩)) f).run Tryz.prog w = .ok (.pointer (some ⟨q, off, none⟩)) w := by
  simp only [List.mem_cons, Prod.mk.injEq, List.not_mem_nil, or_false] at h
  obtain ⟨rfl, rfl⟩ | ⟨rfl, rfl⟩ | ⟨rfl, rfl⟩ := h <;> kernel_rfl
theorem iSc : (Tryz.prog.info? 41).map (·.size) = some 4 := by kernel_rfl
theorem IsN.mod {ts : List (Nat → Int)} {X Y X' Y' : Int} (h : IsN ts [X, Y]) (h1 : X % PP = X' % PP) (h2 : Y % PP = Y' % PP) : IsN ts [X', Y'] := by
  obtain ⟨x, y, rfl, hx, hy⟩ := isn2 h
  exact ⟨⟨hx.1, hx.2.trans h1⟩, ⟨hy.1, hy.2.trans h2⟩, trivial⟩
section
variable {ops : Array Oper} {Q : Exit → Act → World → Prop} {md : Region.Mode} {F : Nat → Fact} {a0 : Act} {w0 : World} {i : Nat} {o : Oper} {ts : Array TypeId}
theorem step_adA (H : HasS w0) {p q : Int × Int} (hp : OnP PP (-1) d0 p) (hq : OnP PP (-1) d0 q) (hi : ops[i]? = some o) (x y j k : Nat) (hop : o.op = .call { callee := .value (.func 67), args := #[.tmp x, .tmp y], argTypes := ts }) (hj : waits md ops i j x = true) (hk : waits md ops i k y = true) (hFj : F j = EN [p.1, p.2]) (hFk : F k = EN [q.1, q.2]) (hFi : F i = EN [addX p q, addY p q]) : StepOk Tryz.prog md ops Q F a0 w0 i := by
  refine step_callv hi _ _ ts hop (by kernel_rfl) fun A w _ hw hF => ?_
  have ea := hF j x hj
  have eb := hF k y hk
  rw [hFj] at ea
  rw [hFk] at eb
  obtain ⟨us, e1, L1⟩ := ea
  obtain ⟨vs, e2, L2⟩ := eb
  show Calls Tryz.prog 67 #[A.tmps.getD x undef, A.tmps.getD y undef] w _
  rw [e1, e2]
  have h := H.up hw
  refine (affAdd_any w dGo us vs p.1 q.1 p.2 q.2 L1 L2 h.T h.C h.S h.I).mono ?_
  rintro r w' ⟨ts, rfl, hI, n⟩
  rw [hFi]
  exact ⟨_, rfl, n, ts, rfl, IsN.mod hI (ps_ok hp hq).1 (ps_ok hp hq).2⟩
theorem step_ldR (ty : TypeId) (d : TypeDesc) (cs : List Value) (hu : Tryz.prog.underlying ty = some d) (hd : d.isRow = true) (hs : (Tryz.prog.info? ty).map (·.size) = some cs.length) (hi : ops[i]? = some o) (p j : Nat) (hop : o.op = .load ty (.tmp p)) (hj : waits md ops i j p = true) (q off : Nat) (hFj : F j = Fact.eq (.pointer (some ⟨q, off, none⟩))) (hR : w0.rangeAt q off cs) (hl : 0 < cs.length) (hFi : ∀ w, (F i).p (.agg cs.toArray) w) : StepOk Tryz.prog md ops Q F a0 w0 i := by
  refine step_load hi _ _ hop d _ hu hd hs fun a w hb hw hf => ?_
  have e := hf j p hj
  rw [hFj] at e
  have lq : q < w0.heap.size := block_lt_of_cell (hR 0 _ (List.getElem?_eq_getElem hl))
  exact ⟨q, off, cs, e, fun j v hj => (World.cell?_of_block (a := ⟨q, off + j, none⟩) (hw.block q lq)).trans (hR j v hj), rfl, hFi w⟩
end
theorem rangeA {W : World} {q : Nat} {a b c : List Value} (h : W.rangeAt q 0 (a ++ (b ++ c))) : W.rangeAt q 0 a ∧ W.rangeAt q a.length b ∧ W.rangeAt q (a.length + b.length) c := by
  refine ⟨fun j v hj => ?_, fun j v hj => ?_, fun j v hj => ?_⟩
  · exact h j v (by rw [List.getElem?_append_left ((List.getElem?_eq_some_iff.1 hj).1)]; exact hj)
  · have := h (a.length + j) v (by rw [List.getElem?_append_right (by omega), List.getElem?_append_left (by have := (List.getElem?_eq_some_iff.1 hj).1; omega)]; rw [← hj]; congr 1; omega)
    rw [Nat.zero_add] at this
    exact this
  · have := h (a.length + b.length + j) v (by rw [List.getElem?_append_right (by omega), List.getElem?_append_right (by omega)]; rw [← hj]; congr 1; omega)
    rw [Nat.zero_add] at this
    exact this
set_option maxRecDepth 100000 in
set_option maxHeartbeats 8000000 in
theorem check_any (w : World) (es fs : List (Nat → Int)) (X Y X' Y' : Int) (hes : IsN es [X, Y]) (hfs : IsN fs [X', Y']) (hp : OnP PP (-1) d0 (X, Y)) (hq : OnP PP (-1) d0 (X', Y')) (V K : Nat → Int) (hV : W4 V) (v : Nat) (hv : wval V = (v : Int)) (hK : W4 K) (k : Nat) (hk : wval K = (k : Int)) (H : HasS w) :
    Calls Tryz.prog 44 #[.agg (sdC es fs V).toArray, .agg (cU K).toArray] w fun r w' => r = .returned (fltV (ckN (X, Y) (X', Y') v k)) ∧ Below w.heap.size w w' := by
  obtain ⟨dA, hdA, hrA⟩ := rowAf
  have l1 : (clN es).length = 10 := by rw [clN_len hes]; rfl
  have l2 : (clN fs).length = 10 := by rw [clN_len hfs]; rfl
  have iE : (Tryz.prog.info? 82).map (·.size) = some (clN es).length := by rw [l1]; exact iAf
  have iF : (Tryz.prog.info? 82).map (·.size) = some (clN fs).length := by rw [l2]; exact iAf
  have m0 : Below w.heap.size w (w.alloc (.cells (sdC es fs V).toArray 84)) := (Below.refl _ _).alloc (Nat.le_refl _) _
  have R0 : (w.alloc (.cells (sdC es fs V).toArray 84)).rangeAt w.heap.size 0 (sdC es fs V) := fun j v hj => by
    rw [Nat.zero_add, (RwC.new w (sdC es fs V) 84).cell j]
    exact hj
  have m1 : Below (w.alloc (.cells (sdC es fs V).toArray 84)).heap.size (w.alloc (.cells (sdC es fs V).toArray 84)) ((w.alloc (.cells (sdC es fs V).toArray 84)).alloc (.cells (cU K).toArray 41)) := (Below.refl _ _).alloc (Nat.le_refl _) _
  have R1 : ((w.alloc (.cells (sdC es fs V).toArray 84)).alloc (.cells (cU K).toArray 41)).rangeAt (w.heap.size + 1) 0 (cU K) := fun j v hj => by
    have := (RwC.new (w.alloc (.cells (sdC es fs V).toArray 84)) (cU K) 41).cell j
    rw [World.size_alloc] at this
    rw [Nat.zero_add, this]
    exact hj
  have N1 := nxt m0 m1
  rw [World.size_alloc] at m1
  obtain ⟨V0, hV0⟩ : ∃ V0, V0 = (sdC es fs V).toArray := ⟨_, rfl⟩
  obtain ⟨V1, hV1⟩ : ∃ V1, V1 = (cU K).toArray := ⟨_, rfl⟩
  have hB : w.heap.size < (w.alloc (.cells (sdC es fs V).toArray 84)).heap.size := by simp
  rw [← hV0] at R0 R1 m0 m1 N1 hB ⊢
  rw [← hV1] at R1 m1 N1 ⊢
  clear hV0 hV1
  have H1 := hide (H.up N1)
  have SM := hide (isSmall_any _ es X Y hes hp H1.out)
  have RA : Hid (((w.alloc (.cells V0 84)).alloc (.cells V1 41)).rangeAt w.heap.size 0 (sdC es fs V)) := fun j v hj => by
    rw [World.cell?_alloc_lt _ _ ⟨w.heap.size, 0 + j, none⟩ hB]
    exact R0 j v hj
  have RP := rangeA RA.out
  rw [l1] at RP
  have F0 := fun W => sdF 0 0 (by decide) w.heap.size W
  have Pq := hide hp
  have Pr := hide hq
  obtain ⟨b, hb⟩ : ∃ b, b = smB (X, Y) := ⟨_, rfl⟩
  have EQ : Hid (ckN (X, Y) (X', Y') v k = if b = true then 5 else if pEq (mlP v (bX, bY)) (addX (X', Y') (mlP k (X, Y)), addY (X', Y') (mlP k (X, Y))) = true then 0 else 6) := by
    rw [hb]
    exact rfl
  rw [← hb] at SM
  clear hb m0 m1 R0
  simp only [agN] at SM
  go_enter Tryz.func44, Tryz.ntmps44
  go_upto_region 1 with fail
  generalize (w.alloc (.cells V0 84)).alloc (.cells V1 41) = wa at *
  have RE := RP.1
  go_wp2_with (first | (refine wpList_load_mid rfl 82 (.tmp 5) rfl w.heap.size 0 rfl (clN es) dA RE hdA hrA iE ?_) | fail)
  refine SM.out.mono ?_
  rintro r w1 ⟨rfl, n1⟩
  have N2 := hide (nxt N1 n1)
  have H2 := hide (H1.out.up n1)
  have lb : w.heap.size < wa.heap.size := block_lt_of_cell (RE 0 ((clN es)[0]'(by omega)) (List.getElem?_eq_getElem _))
  clear SM
  cases b with
  | true =>
    clear RA RP R1 RE
    go_wp2
    go_ret
    exact ⟨by rw [EQ.out]; rfl, N2.out⟩
  | false =>
    rw [l2] at RP
    have S0 : Hid (w1.rangeAt w.heap.size 0 (clN es)) := fun j v hj => (World.cell?_of_block (a := ⟨w.heap.size, 0 + j, none⟩) (n1.block _ lb)).trans (RP.1 j v hj)
    have S1 : Hid (w1.rangeAt w.heap.size 10 (clN fs)) := fun j v hj => (World.cell?_of_block (a := ⟨w.heap.size, 10 + j, none⟩) (n1.block _ lb)).trans (RP.2.1 j v hj)
    have S2 : Hid (w1.rangeAt w.heap.size 20 (cU V)) := fun j v hj => (World.cell?_of_block (a := ⟨w.heap.size, 20 + j, none⟩) (n1.block _ lb)).trans (RP.2.2 j v hj)
    have l3 : w.heap.size + 1 < wa.heap.size := block_lt_of_cell (R1 0 _ rfl)
    have S3 : Hid (w1.rangeAt (w.heap.size + 1) 0 (cU K)) := fun j v hj => (World.cell?_of_block (a := ⟨w.heap.size + 1, 0 + j, none⟩) (n1.block _ l3)).trans (R1 j v hj)
    have LE := hide l1
    have LF := hide l2
    have HP2 := hide (mlP_on hp k)
    clear RA RP R1 RE l1 l2 l3 n1 hp hq
    go_upto_region 3 with fail
    refine region_end 12 (fun i => [Fact.eq (.pointer (some ⟨w.heap.size, 20, none⟩)), Fact.eq (ag4 V), EN [bX, bY], EN [(mlP v (bX, bY)).1, (mlP v (bX, bY)).2], Fact.eq (.pointer (some ⟨w.heap.size, 10, none⟩)), EN [X', Y'], Fact.eq (ag4 K), Fact.eq (.pointer (some ⟨w.heap.size, 0, none⟩)), EN [X, Y], EN [(mlP k (X, Y)).1, (mlP k (X, Y)).2], EN [addX (X', Y') (mlP k (X, Y)), addY (X', Y') (mlP k (X, Y))], Fact.eq (.bool (!pEq (mlP v (bX, bY)) (addX (X', Y') (mlP k (X, Y)), addY (X', Y') (mlP k (X, Y)))))].getD i Fact.no) (by kernel_rfl) (by kernel_rfl) rfl ?_ ?_
    · intro i hi
      obtain rfl | rfl | rfl | rfl | rfl | rfl | rfl | rfl | rfl | rfl | rfl | rfl : i = 0 ∨ i = 1 ∨ i = 2 ∨ i = 3 ∨ i = 4 ∨ i = 5 ∨ i = 6 ∨ i = 7 ∨ i = 8 ∨ i = 9 ∨ i = 10 ∨ i = 11 := by omega
      · exact step_fld rfl _ 2 2 rfl (by kernel_rfl) w.heap.size 20 rfl (fun W => sdF 2 20 (by decide) _ W) rfl
      · exact step_ldR 41 _ (cU V) Tryz.underlying41 rfl iSc rfl 9 0 rfl (by kernel_rfl) w.heap.size 20 rfl S2.out (Nat.succ_pos 3) (fun _ => rfl)
      · exact step_glA rfl 2 rfl _ _ H2.out.B rfl
      · exact step_scl dGo_is H2.out.T H2.out.C H2.out.Z H2.out.S H2.out.I bX bY pv_base.on hV hv rfl 10 11 1 2 rfl (by kernel_rfl) (by kernel_rfl) rfl rfl rfl
      · exact step_fld rfl _ 2 1 rfl (by kernel_rfl) w.heap.size 10 rfl (fun W => sdF 1 10 (by decide) _ W) rfl
      · exact step_ldR 82 dA (clN fs) hdA hrA iF rfl 13 4 rfl (by kernel_rfl) w.heap.size 10 rfl S1.out (by rw [LF.out]; decide) (fun _ => ⟨fs, rfl, hfs⟩)
      · refine step_load rfl 41 (.tmp 3) rfl _ 4 Tryz.underlying41 rfl iSc fun a ww hb hw hf => ?_
        have e3 : a.tmps.getD 3 undef = .pointer (some ⟨w.heap.size + 1, 0, none⟩) := hb.2.2 3 (by kernel_rfl)
        have l3 : w.heap.size + 1 < w1.heap.size := block_lt_of_cell (S3.out 0 _ rfl)
        exact ⟨w.heap.size + 1, 0, cU K, e3, fun j v hj => (World.cell?_of_block (a := ⟨w.heap.size + 1, 0 + j, none⟩) (hw.block _ l3)).trans (S3.out j v hj), rfl, rfl⟩
      · exact step_fld rfl _ 2 0 rfl (by kernel_rfl) w.heap.size 0 rfl (fun W => sdF 0 0 (by decide) _ W) rfl
      · exact step_ldR 82 dA (clN es) hdA hrA iE rfl 16 7 rfl (by kernel_rfl) w.heap.size 0 rfl S0.out (by rw [LE.out]; decide) (fun _ => ⟨es, rfl, hes⟩)
      · exact step_scl dGo_is H2.out.T H2.out.C H2.out.Z H2.out.S H2.out.I X Y Pq.out hK hk rfl 15 17 6 8 rfl (by kernel_rfl) (by kernel_rfl) rfl rfl rfl
      · exact step_adA H2.out (p := (X', Y')) (q := mlP k (X, Y)) Pr.out HP2.out rfl 14 18 5 9 rfl (by kernel_rfl) (by kernel_rfl) rfl rfl rfl
      · exact step_neA rfl 12 19 3 10 (mlP v (bX, bY)) (addX (X', Y') (mlP k (X, Y)), addY (X', Y') (mlP k (X, Y))) rfl (by kernel_rfl) (by kernel_rfl) rfl rfl rfl
    intro A W hb hw hF
    have e20 := hF 11 20 (by kernel_rfl)
    obtain ⟨vs, hvs⟩ : ∃ vs : Nat → Value, ∀ d, A.tmps.getD d undef = vs d := ⟨_, fun _ => rfl⟩
    rw [hvs] at e20
    rw [puts_of (md := .any) (k := 12) (by kernel_rfl) rfl hb vs hvs]
    have N9 := nxt N2.out hw
    clear hb hF hvs hw S0 S1 S2 S3 H1 H2 N1 N2 HP2 Pq Pr
    have e21 : vs 20 = .bool (!pEq (mlP v (bX, bY)) (addX (X', Y') (mlP k (X, Y)), addY (X', Y') (mlP k (X, Y)))) := e20
    obtain ⟨b2, hb2⟩ : ∃ b, b = pEq (mlP v (bX, bY)) (addX (X', Y') (mlP k (X, Y)), addY (X', Y') (mlP k (X, Y))) := ⟨_, rfl⟩
    rw [← hb2] at EQ e21
    clear hb2 e20
    simp only [puts, e21, Act.put, List.setIfInBounds_toArray, List.set_cons_succ, List.set_cons_zero]
    cases b2 with
    | true =>
      go_wp2
      go_ret
      exact ⟨by rw [EQ.out]; rfl, N9⟩
    | false =>
      go_wp2
      go_ret
      exact ⟨by rw [EQ.out]; rfl, N9⟩
end Go.Proofs.YtkglcainhkbgbaaGreatDoor
namespace Go.Proofs.YtkglcainhkbgbaaGreatDoor
set_option maxRecDepth 100000
open Go Go.RowKit
def slA (a : Option Addr) (i c : Nat) : Option Addr := if c = i then a else a.map (·.add (i * 1))
theorem size_u8 (w : World) : (sizeOf (Tryz.prog.elem 22)).run Tryz.prog w = .ok 1 w := by kernel_rfl
theorem und_s : Tryz.prog.underlying 22 = some (.slice (Tryz.prog.elem 22)) := by kernel_rfl
theorem sl_low (W : World) (a : Option Addr) (n c i m : Nat) (h1 : i ≤ n) (_h2 : n ≤ c) (hm : m = n - i) : (Instr.sliceAt 22 (.slice a n c) (some (.int .i64 (i : Int))) none none).run Tryz.prog W = .ok (.slice (slA a i c) m (c - i)) W := by
  rw [run_sliceAt_slice W 22 _ _ _ _ und_s]
  rw [run_slice_l W 22 a n c und_s .i64 i (by omega) (by omega), size_u8, hm]
  rfl
theorem sl_high (W : World) (a : Option Addr) (n c j : Nat) (h2 : j ≤ c) : (Instr.sliceAt 22 (.slice a n c) none (some (.int .i64 (j : Int))) none).run Tryz.prog W = .ok (.slice (slA a 0 c) j c) W := by
  rw [run_sliceAt_slice W 22 _ _ _ _ und_s, run_slice_h W 22 a n c und_s .i64 j (by omega) (by omega), size_u8]
  rfl
theorem Rd.sl {w : World} {g : Nat} {a : Option Addr} {c : Nat} {xs : List Int} (h : Rd w g a .u8 xs) (hc : xs.length ≤ c) (i n : Nat) : Rd w g (slA a i c) .u8 ((xs.drop i).take n) := fun h0 => by
  rw [List.length_take, List.length_drop] at h0
  have hi : i < xs.length := by omega
  obtain ⟨o, e, hd⟩ := h.dropA i hi
  have ea : slA a i c = some ⟨g, o + i, none⟩ := by
    unfold slA
    rw [if_neg (by omega), e]
    show some (Addr.add ⟨g, o, none⟩ (i * 1)) = _
    rw [add_mid, Nat.mul_one]
  rw [ea]
  exact hd.takeA n (by rw [List.length_take, List.length_drop]; exact h0)
theorem wpList_slT {P : Program} (w : World) {ops : Array Oper} {rest : List Oper} {o : Oper} {a : Act} {Q : Exit → Act → World → Prop} (hgd : o.guard = none) (t : TypeId) (x : Operand) (lo hi : Option Operand) (ho : o.op = .slice t x lo hi none) (vx : Value) (vl vh : Option Value) (hx : a.eval x = vx) (hl : lo.map a.eval = vl) (hh : hi.map a.eval = vh)
    (v' : Value) (hr : (Instr.sliceAt t vx vl vh none).run P w = .ok v' w) (h : wpList P ops Q rest (a.put o.dst v') w) : wpList P ops Q (o :: rest) a w :=
  wpList_plain hgd fun _ hK => by
    unfold Oper.wp execOp
    simp only [ho, hx, hl, hh, Option.map_none]
    rw [Sem.run_bind, hr]
    exact hK _ _ h
end Go.Proofs.YtkglcainhkbgbaaGreatDoor
namespace Go.Proofs.YtkglcainhkbgbaaGreatDoor
set_option maxRecDepth 100000
open Go Go.RowKit
def dcP (xs : List Int) : Int × Int := (num (dcX xs), num (dcY xs))
theorem dp_mod {xs : List Int} (hb : Byt xs) (h : dcB xs = true) : dpX dGo xs % PP = (dcP xs).1 % PP ∧ dpY dGo xs % PP = (dcP xs).2 % PP := by
  have e1 := idX_eq hb
  have e2 := idY_eq hb
  have e := idB_eq hb
  unfold dpX dpY dcP
  rw [← e1, ← e2]
  unfold idX idY
  rw [e, if_pos h, if_pos h, if_pos h, if_pos h]
  simp only [num_modS]
  exact ⟨(Int.emod_emod_of_dvd _ (Int.dvd_refl _)).symm, by first | rfl | exact (Int.emod_emod_of_dvd _ (Int.dvd_refl _)).symm⟩
theorem dp_on {xs : List Int} (hb : Byt xs) (h : dcB xs = true) : OnP PP (-1) d0 (dcP xs) := by
  have m := dp_mod hb h
  have e := idB_eq hb
  have h' := h
  unfold dcB at h'
  simp only [Bool.and_eq_true] at h'
  have hl := h'.2.2
  unfold liB at hl
  simp only [Bool.and_eq_true] at hl
  have r := ir_root (lift_mod (num (low7 xs)))
  have k : OnP PP (-1) d0 (dpX dGo xs, dpY dGo xs) := by
    unfold dpX dpY
    rw [e, if_pos h, if_pos h]
    unfold pwX
    rw [r.2]
    have o : OnP PP (-1) d0 (rootV (liftZ (num (low7 xs))), num (low7 xs)) := lift_on hl.1
    by_cases c : oddW xs = true
    · rw [if_pos c]
      exact on_pe (on_neg o) ⟨dvd_cong (Int.emod_emod_of_dvd _ (Int.dvd_refl _)), ⟨0, by simp⟩⟩
    · rw [if_neg c]
      exact o
  exact on_pe k ⟨dvd_cong m.1, dvd_cong m.2⟩
def rsN (ps ss : List Int) : Int := if ¬ ps.length = 32 then 1 else if ¬ ss.length = 64 then 1 else if ovalid (ss.drop 32) = false then 2 else if dcB ps = false then 3 else if dcB (ss.take 32) = false then 4 else 0
def z24 : List Value := List.replicate 24 (.int .u64 0)
abbrev zSd : Obj := .cells #[.int .u64 0, .int .u64 0, .int .u64 0, .int .u64 0, .int .u64 0, .int .u64 0, .int .u64 0, .int .u64 0, .int .u64 0, .int .u64 0, .int .u64 0, .int .u64 0, .int .u64 0, .int .u64 0, .int .u64 0, .int .u64 0, .int .u64 0, .int .u64 0, .int .u64 0, .int .u64 0, .int .u64 0, .int .u64 0, .int .u64 0, .int .u64 0] 84
theorem iSd : (Tryz.prog.info? 84).map (·.size) = some 24 := by kernel_rfl
theorem rowSd : ∃ d, Tryz.prog.underlying 84 = some d ∧ d.isRow = true := ⟨_, Tryz.underlying84, rfl⟩
def RsOk (ps ss : List Int) (r : Ending) : Prop := ∃ cs : List Value, r = .returned (.tuple #[.agg cs.toArray, fltV (rsN ps ss)]) ∧ cs.length = 24 ∧ cs.toArray.all (·.oneCell') = true ∧
  (rsN ps ss = 0 → ∃ es fs, cs = sdC es fs (wv (fun j => (ss.drop 32).getD j 0) 32) ∧ IsN es [(dcP ps).1, (dcP ps).2] ∧ IsN fs [(dcP (ss.take 32)).1, (dcP (ss.take 32)).2])
theorem z24_one : z24.toArray.all (·.oneCell') = true := by kernel_rfl
theorem RsOk.bad {ps ss : List Int} {n : Int} (h : rsN ps ss = n) (h0 : n ≠ 0) : RsOk ps ss (.returned (.tuple #[.agg z24.toArray, fltV n])) :=
  ⟨z24, by rw [h], rfl, z24_one, fun k => absurd (h.symm.trans k) h0⟩
theorem step_slv {ops : Array Oper} {Q : Exit → Act → World → Prop} {md : Region.Mode} {F : Nat → Fact} {a0 : Act} {w0 : World} {i : Nat} {o : Oper} (hi : ops[i]? = some o) (t : TypeId) (p j : Nat) (lo hh : Option Operand) (hop : o.op = .slice t (.tmp p) lo hh none) (vx : Value) (vl vh : Option Value) (v' : Value) (hj : waits md ops i j p = true) (hFj : F j = Fact.eq vx) (hl : ∀ a : Act, lo.map a.eval = vl) (hh' : ∀ a : Act, hh.map a.eval = vh)
    (hr : ∀ w, (Instr.sliceAt t vx vl vh none).run Tryz.prog w = .ok v' w) (hFi : F i = Fact.eq v') : StepOk Tryz.prog md ops Q F a0 w0 i :=
  step_pure hi fun a w hb hw hf => by
    have e := hf j p hj
    rw [hFj] at e
    have e1 : a.eval (.tmp p) = vx := e
    refine ⟨v', ?_, by rw [hFi]; exact rfl⟩
    unfold execOp
    simp only [hop, e1, hl, hh', Option.map_none]
    rw [Sem.run_bind, hr]
    rfl
section
variable {ops : Array Oper} {Q : Exit → Act → World → Prop} {F : Nat → Fact} {a0 : Act} {w : World} {id : Nat} {draw : Bool}
theorem region_putC_asgc (ty : TypeId) (k jV pD pV dB : Nat) (o1 o2 : Oper) (F : Nat → Fact) (cs : List Value) (b : Value) (q : Nat) (hT : textTail .any draw ops a0.tmps.size k = true) (hdrop : ops.toList.drop k = [o1, o2]) (hk2 : ops[k + 1]? = some o2) (hd1 : o1.dst = none) (hd2 : o2.dst = some dB)
    (hop1 : o1.op = .store ty (.tmp pD) (.tmp pV)) (hop2 : o2.op = .assign (.const b)) (hs : (Tryz.prog.info? ty).map (·.size) = some cs.length) (h1 : cs.toArray.all (·.oneCell') = true) (ha : 0 < cs.length)
    (hp : apart ops pD = true) (h0 : a0.tmps.getD pD undef = .pointer (some ⟨q, 0, none⟩)) (ht : w.there q 0 cs.length) (qV : decide (jV < k) = true) (wV : writes ops jV pV = true) (FV : F jV = Fact.eq (.agg cs.toArray)) (hz : decide (dB < a0.tmps.size) = true) (steps : ∀ i, i < k → StepOk Tryz.prog .any ops Q F a0 w i)
    (fin : ∀ (vs : Nat → Value) (W W' : World), vs dB = b → Below w.heap.size w W → W'.rangeAt q 0 cs → (∀ (w1 : World) (B : Nat), Below B w1 W → B ≤ q → Below B w1 W') → Q .normal (puts vs a0 ops.toList) W') :
    (Code.region id ops draw).wp Tryz.prog Q a0 w := by
  refine region_tail k F (by kernel_rfl) hT steps [] (fun p hp => by cases hp) (fun p hp => by cases hp) fun a W hb hw hF _ => ?_
  have h2 := hF jV pV qV wV
  rw [FV] at h2
  have th := there_up ha ht hw
  rw [hdrop]
  show o1.wp _ a W (fun a' w' => o2.wp _ a' w' (fun a'' w'' => Q .normal a'' w'') Q) Q
  refine wp_store_mid ty (.tmp pD) (.tmp pV) hop1 q 0 cs.toArray ((based_at hb pD hp).trans h0) h2 th hs h1 ?_
  rw [hd1]
  show o2.wp _ a _ _ _
  refine wp_assignc hop2 ?_
  rw [hd2]
  have hb2 : Based ops a0 (a.put (some dB) b) := by rw [← hd2]; exact hb.put hk2 b
  obtain ⟨vs, hvs⟩ : ∃ vs : Nat → Value, ∀ d, (a.put (some dB) b).tmps.getD d undef = vs d := ⟨_, fun _ => rfl⟩
  rw [puts_tail hT rfl hb2 vs hvs]
  refine fin vs W _ ?_ hw (World.rangeAt_setCells_same W q 0 cs th) (fun w1 B n hB => below_setCells hB _ _ _ n)
  rw [← hvs, put_at (by rw [hb.2.1]; exact of_decide_eq_true hz)]
end
theorem buSd (x y x' y' V : Nat → Int) (w : World) : (Instr.build 84 #[(0, agN [x, y]), (1, agN [x', y']), (2, ag4 V)]).run Tryz.prog w = .ok (.agg (sdC [x, y] [x', y'] V).toArray) w := by kernel_rfl
theorem step_buSd {ops : Array Oper} {Q : Exit → Act → World → Prop} {md : Region.Mode} {F : Nat → Fact} {a0 : Act} {w0 : World} {i : Nat} {o : Oper} (hi : ops[i]? = some o) (p q r j k l : Nat) (es fs : List (Nat → Int)) {X Y X' Y' : Int} (hes : IsN es [X, Y]) (hfs : IsN fs [X', Y']) (V : Nat → Int) (hop : o.op = .build 84 #[(0, .tmp p), (1, .tmp q), (2, .tmp r)])
    (hj : waits md ops i j p = true) (hk : waits md ops i k q = true) (hl : waits md ops i l r = true) (Fj : F j = Fact.eq (agN es)) (Fk : F k = Fact.eq (agN fs)) (Fl : F l = Fact.eq (ag4 V)) (hF : F i = Fact.eq (.agg (sdC es fs V).toArray)) : StepOk Tryz.prog md ops Q F a0 w0 i := by
  refine step_pure hi fun a w _ _ hf => ⟨.agg (sdC es fs V).toArray, ?_, by rw [hF]; exact rfl⟩
  have e0 := hf j p hj
  have e1 := hf k q hk
  have e2 := hf l r hl
  rw [Fj] at e0
  rw [Fk] at e1
  rw [Fl] at e2
  obtain ⟨x, y, rfl, -, -⟩ := isn2 hes
  obtain ⟨x', y', rfl, -, -⟩ := isn2 hfs
  have g0 : a.eval (.tmp p) = agN [x, y] := e0
  have g1 : a.eval (.tmp q) = agN [x', y'] := e1
  have g2 : a.eval (.tmp r) = ag4 V := e2
  have g : (#[(0, Operand.tmp p), (1, .tmp q), (2, .tmp r)].map fun (n, x) => (n, a.eval x)) = #[(0, agN [x, y]), (1, agN [x', y']), (2, ag4 V)] := by simp [g0, g1, g2]
  simp only [execOp, hop, g]
  rw [Sem.run_bind, buSd]
  rfl
theorem sdC_len (es fs : List (Nat → Int)) {X Y X' Y' : Int} (hes : IsN es [X, Y]) (hfs : IsN fs [X', Y']) (V : Nat → Int) : (sdC es fs V).length = 24 := by
  unfold sdC
  rw [List.length_append, List.length_append, clN_len hes, clN_len hfs]
  rfl
theorem sdC_one (es fs : List (Nat → Int)) {X Y X' Y' : Int} (hes : IsN es [X, Y]) (hfs : IsN fs [X', Y']) (V : Nat → Int) : (sdC es fs V).toArray.all (·.oneCell') = true := by
  obtain ⟨x, y, rfl, -, -⟩ := isn2 hes
  obtain ⟨x', y', rfl, -, -⟩ := isn2 hfs
  kernel_rfl
theorem slA_0 (g o c : Nat) : slA (some ⟨g, o, none⟩) 0 c = some ⟨g, o, none⟩ := by
  unfold slA
  split
  · rfl
  · rfl
theorem slA_32 (g o c : Nat) (h : 64 ≤ c) : slA (some ⟨g, o, none⟩) 32 c = some ⟨g, o + 32, none⟩ := by
  unfold slA
  rw [if_neg (by omega)]
  rfl
set_option maxRecDepth 100000 in
set_option maxHeartbeats 8000000 in
theorem readSigned_any (w : World) (g : Nat) (a : Option Addr) (c : Nat) (ps : List Int) (hr : Rd w g a .u8 ps) (hb : Byt ps) (gs : Nat) (aS : Option Addr) (cS : Nat) (ss : List Int) (hs : Rd w gs aS .u8 ss) (bs : Byt ss) (ks : ss.length ≤ cS) (H : HasN w) (R : HasR w) :
    Calls Tryz.prog 43 #[.slice a ps.length c, .slice aS ss.length cS] w fun r w' => RsOk ps ss r ∧ Below w.heap.size w w' := by
  obtain ⟨dS, hdS, hrS⟩ := rowSd
  have TR : (w.alloc zSd).there w.heap.size 0 24 := there_new w _ _
  have N : Below w.heap.size w (w.alloc zSd) := (Below.refl _ _).alloc (Nat.le_refl _) _
  have T := fun W => isFieldSize_any W a c ps.length
  by_cases hl : ps.length = 32
  · by_cases hm : ss.length = 64
    · rw [hm] at ks
      obtain ⟨o, rfl, hd⟩ := hs.dropA 32 (by omega)
      have ht := hs.takeA 32
      have ld : (ss.drop 32).length = 32 := by rw [List.length_drop]; omega
      have lt : (ss.take 32).length = 32 := by rw [List.length_take]; omega
      have bd := byt_drop bs 32
      have bt := byt_takeh bs 32
      have OV := hide fun W (n : Below w.heap.size w W) => implOrderValid_any W gs _ (cS - 32) _ (hd.up n) bd (H.up n).O.1
      have DP := hide fun W (n : Below w.heap.size w W) => decodePoint_any W g a c ps (hr.up n) hb dGo (H.up n).S.T (H.up n).S.C (H.up n).S.S (H.up n).S.I (R.up n)
      have DS := hide fun W (n : Below w.heap.size w W) => decodePoint_any W gs _ cS _ (ht.up n) bt dGo (H.up n).S.T (H.up n).S.C (H.up n).S.S (H.up n).S.I (R.up n)
      have RS := hide fun W (n : Below w.heap.size w W) => readScalar_any W gs _ (cS - 32) _ (hd.up n) bd ld
      have mP := hide fun h => dp_mod hb h
      have mS := hide fun h => dp_mod bt h
      have E : Hid (rsN ps ss = if ovalid (ss.drop 32) = false then 2 else if dcB ps = false then 3 else if dcB (ss.take 32) = false then 4 else 0) := by
        show _ = _
        unfold rsN
        rw [if_neg (by simp [hl]), if_neg (by simp [hm])]
      have RO : Hid (RsOk ps ss = fun r => ∃ cs : List Value, r = .returned (.tuple #[.agg cs.toArray, fltV (rsN ps ss)]) ∧ cs.length = 24 ∧ cs.toArray.all (·.oneCell') = true ∧
  (rsN ps ss = 0 → ∃ es fs, cs = sdC es fs (wv (fun j => (ss.drop 32).getD j 0) 32) ∧ IsN es [(dcP ps).1, (dcP ps).2] ∧ IsN fs [(dcP (ss.take 32)).1, (dcP (ss.take 32)).2])) := rfl
      rw [ld] at OV
      rw [lt] at DS
      rw [idB_eq hb] at DP
      rw [idB_eq bt] at DS
      rw [hl, hm]
      rw [hl] at T DP
      have BAD := hide fun n (h : rsN ps ss = n) => RsOk.bad h
      generalize ovalid (ss.drop 32) = ov at *
      generalize dcB ps = gP at *
      generalize dcB (ss.take 32) = gS at *
      clear hs hr hb bs bd bt ht hd ld lt hl hm
      go_enter Tryz.func43, Tryz.ntmps43
      go_wp2_with fail
      change Calls _ _ _ (w.alloc zSd) _
      generalize w.alloc zSd = wa at *
      refine (T wa).mono ?_
      rintro e wb ⟨rfl, eW⟩
      subst eW
      clear T
      go_upto_region 3 with fail
      refine region_end 6 (fun i => [Fact.eq (.slice (some ⟨gs, o, none⟩) 64 cS), Fact.eq (.slice (some ⟨gs, o, none⟩) 32 cS), Fact.eq (.slice (some ⟨gs, o, none⟩) 64 cS), Fact.eq (.slice (some ⟨gs, o + 32, none⟩) 32 (cS - 32)), Fact.eq (.slice (some ⟨gs, o, none⟩) 32 cS), Fact.eq (.slice (some ⟨gs, o + 32, none⟩) 32 (cS - 32))].getD i Fact.no) (by kernel_rfl) (by kernel_rfl) rfl ?_ ?_
      · intro i hi
        obtain rfl | rfl | rfl | rfl | rfl | rfl : i = 0 ∨ i = 1 ∨ i = 2 ∨ i = 3 ∨ i = 4 ∨ i = 5 := by omega
        · exact step_mv rfl 1 rfl (by kernel_rfl) rfl rfl
        · exact step_slv rfl 22 21 0 _ _ rfl _ _ _ _ (by kernel_rfl) rfl (fun _ => rfl) (fun _ => rfl) (fun W => by have := sl_high W (some ⟨gs, o, none⟩) 64 cS 32 (by omega); rw [slA_0] at this; exact this) rfl
        · exact step_mv rfl 1 rfl (by kernel_rfl) rfl rfl
        · exact step_slv rfl 22 23 2 _ _ rfl _ _ _ _ (by kernel_rfl) rfl (fun _ => rfl) (fun _ => rfl) (fun W => by have := sl_low W (some ⟨gs, o, none⟩) 64 cS 32 32 (by omega) (by omega) rfl; rw [slA_32 _ _ _ ks] at this; exact this) rfl
        · exact step_move rfl 22 1 (by exact Or.inr rfl) (by kernel_rfl) rfl
        · exact step_move rfl 24 3 (by exact Or.inr rfl) (by kernel_rfl) rfl
      intro A W hb hw hF
      have e6 := hF 4 6 (by kernel_rfl)
      have e7 := hF 5 7 (by kernel_rfl)
      obtain ⟨vs, hvs⟩ : ∃ vs : Nat → Value, ∀ d, A.tmps.getD d undef = vs d := ⟨_, fun _ => rfl⟩
      rw [hvs] at e6 e7
      rw [puts_of (md := .any) (k := 6) (by kernel_rfl) rfl hb vs hvs]
      replace N := nxt N hw
      replace TR := there_up (by omega) TR hw
      clear hb hF hvs hw
      have e66 : vs 6 = .slice (some ⟨gs, o, none⟩) 32 cS := e6
      have e77 : vs 7 = .slice (some ⟨gs, o + 32, none⟩) 32 (cS - 32) := e7
      clear e6 e7
      simp only [puts, e66, e77, Act.put, List.setIfInBounds_toArray, List.set_cons_succ, List.set_cons_zero]
      go_wp2_with fail
      refine (OV.out W N).mono ?_
      rintro r w1 ⟨rfl, n1⟩
      replace N := nxt N n1
      replace TR := there_up (by omega) TR n1
      clear n1 OV
      cases ov with
      | false =>
        go_wp2_with (first | (refine wpList_store_mid rfl 84 (.tmp 4) (.tmp 28) rfl w.heap.size 0 z24.toArray rfl rfl TR iSd z24_one ?_) | fail)
        have RG := World.rangeAt_setCells_same w1 w.heap.size 0 z24 TR
        have NE := N.trans ((only_setCells w1 w.heap.size z24 0).below (Nat.le_refl _))
        exact bodyPost_ret (v := .tuple #[.agg z24.toArray, fltV 2]) (results_cell_slot Tryz.results43 _ _ w.heap.size z24 dS rfl rfl RG hdS hrS iSd) rfl ⟨BAD.out 2 (by rw [E.out]; rfl) (by decide), NE⟩
      | true =>
        go_wp2_with fail
        refine (DP.out w1 N).mono ?_
        rintro r w2 ⟨es, rfl, hes, n2⟩
        have HE := hide hes
        replace N := nxt N n2
        replace TR := there_up (by omega) TR n2
        clear n2 DP
        have l1 : (clN es).length = 10 := by rw [clN_len hes]; rfl
        clear hes
        have na : Below w2.heap.size w2 (w2.alloc zA) := (Below.refl _ _).alloc (Nat.le_refl _) _
        have ns : Below w2.heap.size w2 ((w2.alloc zA).setCells w2.heap.size 0 (clN es)) := na.trans ((only_setCells _ _ _ 0).below (Nat.le_refl _))
        have ta : (w2.alloc zA).there w2.heap.size 0 10 := there_new w2 _ _
        have THR : (w2.alloc zA).there w2.heap.size 0 (clN es).toArray.size := by show (w2.alloc zA).there w2.heap.size 0 (clN es).length; rw [l1]; exact ta
        have iE : (Tryz.prog.info? 82).map (·.size) = some (clN es).toArray.size := by show _ = some (clN es).length; rw [l1]; exact iAf
        have ON := clN_one es
        have RE := hide (World.rangeAt_setCells_same (w2.alloc zA) w2.heap.size 0 (clN es) (by rw [l1]; exact ta))
        replace N := nxt N ns
        replace TR := there_up (by omega) TR ns
        clear ns na ta
        have e5 : agN es = .agg (clN es).toArray := rfl
        rw [e5]
        go_upto_region 7 with (refine wpList_store_mid rfl 82 (.tmp 8) (.tmp 33) rfl w2.heap.size 0 (clN es).toArray rfl rfl THR iE ON ?_)
        generalize (w2.alloc zA).setCells w2.heap.size 0 (clN es) = w3 at *
        generalize w2.heap.size = q8 at *
        clear THR ON e5
        cases gP with
        | false =>
          go_wp2_with (first | (refine wpList_store_mid rfl 84 (.tmp 4) (.tmp 37) rfl w.heap.size 0 z24.toArray rfl rfl TR iSd z24_one ?_) | fail)
          have RG := World.rangeAt_setCells_same w3 w.heap.size 0 z24 TR
          have NE := N.trans ((only_setCells w3 w.heap.size z24 0).below (Nat.le_refl _))
          exact bodyPost_ret (v := .tuple #[.agg z24.toArray, fltV 3]) (results_cell_slot Tryz.results43 _ _ w.heap.size z24 dS rfl rfl RG hdS hrS iSd) rfl ⟨BAD.out 3 (by rw [E.out]; rfl) (by decide), NE⟩
        | true =>
          go_wp2_with fail
          refine (DS.out w3 N).mono ?_
          rintro r w4 ⟨fs, rfl, hfs, n4⟩
          have HF := hide hfs
          have l8 : q8 < w3.heap.size := block_lt_of_cell (RE.out 0 ((clN es)[0]'(by omega)) (List.getElem?_eq_getElem _))
          have RE4 : Hid (w4.rangeAt q8 0 (clN es)) := fun j v hj => (World.cell?_of_block (a := ⟨q8, 0 + j, none⟩) (n4.block _ l8)).trans (RE.out j v hj)
          have l84 : q8 < w4.heap.size := by have := n4.size; omega
          replace N := nxt N n4
          replace TR := there_up (by omega) TR n4
          clear n4 DS RE l8
          have l2 : (clN fs).length = 10 := by rw [clN_len hfs]; rfl
          clear hfs
          have na : Below w4.heap.size w4 (w4.alloc zA) := (Below.refl _ _).alloc (Nat.le_refl _) _
          have ns : Below w4.heap.size w4 ((w4.alloc zA).setCells w4.heap.size 0 (clN fs)) := na.trans ((only_setCells _ _ _ 0).below (Nat.le_refl _))
          have ta : (w4.alloc zA).there w4.heap.size 0 10 := there_new w4 _ _
          have THR : (w4.alloc zA).there w4.heap.size 0 (clN fs).toArray.size := by show (w4.alloc zA).there w4.heap.size 0 (clN fs).length; rw [l2]; exact ta
          have iF : (Tryz.prog.info? 82).map (·.size) = some (clN fs).toArray.size := by show _ = some (clN fs).length; rw [l2]; exact iAf
          have ON := clN_one fs
          have RF := hide (World.rangeAt_setCells_same (w4.alloc zA) w4.heap.size 0 (clN fs) (by rw [l2]; exact ta))
          have RE5 : Hid (((w4.alloc zA).setCells w4.heap.size 0 (clN fs)).rangeAt q8 0 (clN es)) := fun j v hj => (World.cell?_of_block (a := ⟨q8, 0 + j, none⟩) (ns.block _ l84)).trans (RE4.out j v hj)
          have l85 : q8 < ((w4.alloc zA).setCells w4.heap.size 0 (clN fs)).heap.size := by have := ns.size; omega
          replace N := nxt N ns
          replace TR := there_up (by omega) TR ns
          clear ns na ta RE4 l84
          have e6 : agN fs = .agg (clN fs).toArray := rfl
          rw [e6]
          go_upto_region 10 with (refine wpList_store_mid rfl 82 (.tmp 10) (.tmp 42) rfl w4.heap.size 0 (clN fs).toArray rfl rfl THR iF ON ?_)
          generalize (w4.alloc zA).setCells w4.heap.size 0 (clN fs) = w5 at *
          generalize w4.heap.size = q10 at *
          clear THR ON e6
          cases gS with
          | false =>
            go_wp2_with (first | (refine wpList_store_mid rfl 84 (.tmp 4) (.tmp 46) rfl w.heap.size 0 z24.toArray rfl rfl TR iSd z24_one ?_) | fail)
            have RG := World.rangeAt_setCells_same w5 w.heap.size 0 z24 TR
            have NE := N.trans ((only_setCells w5 w.heap.size z24 0).below (Nat.le_refl _))
            exact bodyPost_ret (v := .tuple #[.agg z24.toArray, fltV 4]) (results_cell_slot Tryz.results43 _ _ w.heap.size z24 dS rfl rfl RG hdS hrS iSd) rfl ⟨BAD.out 4 (by rw [E.out]; rfl) (by decide), NE⟩
          | true =>
            have IE : IsN es [(dcP ps).1, (dcP ps).2] := IsN.mod HE.out (mP.out (by simp)).1 (mP.out (by simp)).2
            have IF : IsN fs [(dcP (ss.take 32)).1, (dcP (ss.take 32)).2] := IsN.mod HF.out (mS.out (by simp)).1 (mS.out (by simp)).2
            have E0 : Hid (rsN ps ss = 0) := by rw [E.out]; exact rfl
            obtain ⟨dA, hdA, hrA⟩ := rowAf
            have l10 : q10 < w5.heap.size := block_lt_of_cell (RF.out 0 ((clN fs)[0]'(by omega)) (List.getElem?_eq_getElem _))
            have L24 := sdC_len es fs IE IF (wv (fun j => (ss.drop 32).getD j 0) 32)
            have O24 := sdC_one es fs IE IF (wv (fun j => (ss.drop 32).getD j 0) 32)
            obtain ⟨V, hV⟩ : ∃ V, V = wv (fun j => (ss.drop 32).getD j 0) 32 := ⟨_, rfl⟩
            rw [← hV] at L24 O24
            simp only [← hV] at RS RO
            go_upto_region 12 with fail
            refine region_putC_asgc 84 5 4 4 52 5 _ _ (fun i => [Fact.eq (agN es), Fact.eq (agN fs), Fact.eq (.slice (some ⟨gs, o + 32, none⟩) 32 (cS - 32)), Fact.eq (ag4 V), Fact.eq (.agg (sdC es fs V).toArray)].getD i Fact.no) (sdC es fs V) .nilIface w.heap.size (by kernel_rfl) rfl rfl rfl rfl rfl rfl (by rw [L24]; exact iSd) O24 (by rw [L24]; decide) (by kernel_rfl) rfl (by rw [L24]; exact TR) rfl (by kernel_rfl) rfl (by kernel_rfl) ?_ ?_
            · intro i hi
              obtain rfl | rfl | rfl | rfl | rfl : i = 0 ∨ i = 1 ∨ i = 2 ∨ i = 3 ∨ i = 4 := by omega
              · refine step_load rfl 82 (.tmp 8) rfl dA 10 hdA hrA iAf fun a ww hb hw hf => ?_
                have e8 : a.tmps.getD 8 undef = .pointer (some ⟨q8, 0, none⟩) := hb.2.2 8 (by kernel_rfl)
                exact ⟨q8, 0, clN es, e8, fun j v hj => (World.cell?_of_block (a := ⟨q8, 0 + j, none⟩) (hw.block _ l85)).trans (RE5.out j v hj), l1, rfl⟩
              · refine step_load rfl 82 (.tmp 10) rfl dA 10 hdA hrA iAf fun a ww hb hw hf => ?_
                have e8 : a.tmps.getD 10 undef = .pointer (some ⟨q10, 0, none⟩) := hb.2.2 10 (by kernel_rfl)
                exact ⟨q10, 0, clN fs, e8, fun j v hj => (World.cell?_of_block (a := ⟨q10, 0 + j, none⟩) (hw.block _ l10)).trans (RF.out j v hj), l2, rfl⟩
              · exact step_mv rfl 7 rfl (by kernel_rfl) rfl rfl
              · refine step_callv rfl 23 _ _ rfl (by kernel_rfl) fun a ww hb hw hf => ?_
                have e50 : a.tmps.getD 50 undef = .slice (some ⟨gs, o + 32, none⟩) 32 (cS - 32) := hf 2 50 (by kernel_rfl)
                show Calls Tryz.prog 23 #[a.tmps.getD 50 undef] ww _
                rw [e50]
                exact (RS.out ww (nxt N hw)).mono (by rintro r w' ⟨rfl, n⟩; exact ⟨_, rfl, n, rfl⟩)
              · exact step_buSd rfl 48 49 51 0 1 3 es fs IE IF V rfl (by kernel_rfl) (by kernel_rfl) (by kernel_rfl) rfl rfl rfl rfl
            intro vs2 Wa Wb vb na RG nb
            have NS := nb w w.heap.size (nxt N na) (by omega)
            simp only [puts, vb, Act.put, List.setIfInBounds_toArray, List.set_cons_succ, List.set_cons_zero]
            clear vb na nb RE5 RF RS
            go_wp2
            exact bodyPost_ret (v := .tuple #[.agg (sdC es fs V).toArray, .nilIface]) (results_cell_slot Tryz.results43 _ _ w.heap.size (sdC es fs V) dS rfl rfl RG hdS hrS (by rw [L24]; exact iSd)) rfl ⟨by rw [RO.out]; exact ⟨sdC es fs V, by rw [E0.out]; rfl, L24, O24, fun _ => ⟨es, fs, rfl, IE, IF⟩⟩, NS⟩
    · have E : Hid (rsN ps ss = 1) := by show _ = _; unfold rsN; rw [if_neg (by simp [hl]), if_pos hm]
      have t0 : ((ss.length : Int) != 64) = true := by simp; omega
      rw [hl] at T ⊢
      go_enter Tryz.func43, Tryz.ntmps43
      go_wp2_with fail
      change Calls _ _ _ (w.alloc zSd) _
      generalize w.alloc zSd = wa at *
      refine (T wa).mono ?_
      rintro e wb ⟨rfl, eW⟩
      subst eW
      clear T hl
      go_wp2_with (first | (refine wpList_store_mid rfl 84 (.tmp 4) (.tmp 19) rfl w.heap.size 0 z24.toArray rfl rfl TR iSd z24_one ?_) | fail)
      have RG := World.rangeAt_setCells_same wb w.heap.size 0 z24 TR
      have NE := N.trans ((only_setCells wb w.heap.size z24 0).below (Nat.le_refl _))
      exact bodyPost_ret (v := .tuple #[.agg z24.toArray, fltV 1]) (results_cell_slot Tryz.results43 _ _ w.heap.size z24 dS rfl rfl RG hdS hrS iSd) rfl ⟨RsOk.bad E.out (by decide), NE⟩
  · have E : Hid (rsN ps ss = 1) := by show _ = _; unfold rsN; rw [if_pos hl]
    have t0 : decide (ps.length = 32) = false := by simp [hl]
    simp only [t0] at T
    go_enter Tryz.func43, Tryz.ntmps43
    go_wp2_with fail
    change Calls _ _ _ (w.alloc zSd) _
    generalize w.alloc zSd = wa at *
    refine (T wa).mono ?_
    rintro e wb ⟨rfl, eW⟩
    subst eW
    clear T hl
    go_wp2_with (first | (refine wpList_store_mid rfl 84 (.tmp 4) (.tmp 19) rfl w.heap.size 0 z24.toArray rfl rfl TR iSd z24_one ?_) | fail)
    have RG := World.rangeAt_setCells_same wb w.heap.size 0 z24 TR
    have NE := N.trans ((only_setCells wb w.heap.size z24 0).below (Nat.le_refl _))
    exact bodyPost_ret (v := .tuple #[.agg z24.toArray, fltV 1]) (results_cell_slot Tryz.results43 _ _ w.heap.size z24 dS rfl rfl RG hdS hrS iSd) rfl ⟨RsOk.bad E.out (by decide), NE⟩
end Go.Proofs.YtkglcainhkbgbaaGreatDoor
namespace Go.Proofs.YtkglcainhkbgbaaGreatDoor
set_option maxRecDepth 100000
open Go Go.RowKit
def vfV (ps ms ss : List Int) : Int := if rsN ps ss = 0 then ckN (dcP ps) (dcP (ss.take 32)) (num (ss.drop 32)).toNat (hsN (ss.take 32 ++ (ps ++ ms))) else rsN ps ss
def StepV (n : Int) (v : Value) : Prop := (n = 0 ∧ v = .nilIface) ∨ (n ≠ 0 ∧ ∃ s : ByteArray, v = .iface 88 (.agg #[.string s, .iface 45 (.int .i64 n)]))
def LS3 (ls : List Lst) : Fact := ⟨fun v w => ∃ q, v = .slice (some ⟨q, 0, none⟩) 3 3 ∧ Lsts w q ls, fun n h => by
  obtain ⟨q, e, l⟩ := h
  exact ⟨q, e, l.up n⟩⟩
theorem bs3V (w : World) (a1 a2 a3 : Option Addr) (n1 n2 n3 c1 c2 c3 : Nat) : (Instr.buildSlice 107 3 #[(0, .slice a1 n1 c1), (1, .slice a2 n2 c2), (2, .slice a3 n3 c3)]).run Tryz.prog w = .ok (.slice (some ⟨w.heap.size, 0, none⟩) 3 3) (w.alloc (.cells #[.slice a1 n1 c1, .slice a2 n2 c2, .slice a3 n3 c3] 22)) := by
  kernel_rfl
theorem step_bs3V {ops : Array Oper} {Q : Exit → Act → World → Prop} {md : Region.Mode} {F : Nat → Fact} {a0 : Act} {w0 : World} {i : Nat} {o : Oper} {l m n : Lst} (hi : ops[i]? = some o) (p q s j k h : Nat) (hop : o.op = .buildSlice 107 3 #[(0, .tmp p), (1, .tmp q), (2, .tmp s)])
    (hj : waits md ops i j p = true) (hk : waits md ops i k q = true) (hm : waits md ops i h s = true) (hFj : F j = Fact.eq (.slice l.a l.xs.length l.c)) (hFk : F k = Fact.eq (.slice m.a m.xs.length m.c)) (hFm : F h = Fact.eq (.slice n.a n.xs.length n.c)) (hFi : F i = LS3 [l, m, n]) : StepOk Tryz.prog md ops Q F a0 w0 i := by
  refine step_grow hi fun a w _ _ hf => ?_
  have h1 := hf j p hj
  have h2 := hf k q hk
  have h3 := hf h s hm
  rw [hFj] at h1
  rw [hFk] at h2
  rw [hFm] at h3
  have x1 : a.eval (.tmp p) = .slice l.a l.xs.length l.c := h1
  have x2 : a.eval (.tmp q) = .slice m.a m.xs.length m.c := h2
  have x3 : a.eval (.tmp s) = .slice n.a n.xs.length n.c := h3
  have gg : (#[(0, Operand.tmp p), (1, Operand.tmp q), (2, Operand.tmp s)].map fun (n, x) => (n, a.eval x)) = #[(0, Value.slice l.a l.xs.length l.c), (1, .slice m.a m.xs.length m.c), (2, .slice n.a n.xs.length n.c)] := by simp [x1, x2, x3]
  refine ⟨.slice (some ⟨w.heap.size, 0, none⟩) 3 3, w.alloc (.cells #[.slice l.a l.xs.length l.c, .slice m.a m.xs.length m.c, .slice n.a n.xs.length n.c] 22), ?_, (Below.refl _ _).alloc (Nat.le_refl _) _, ?_⟩
  · simp only [execOp, hop, gg]
    rw [Sem.run_bind, bs3V]
    rfl
  · rw [hFi]
    exact ⟨w.heap.size, rfl, lsts3 w l m n 22⟩
theorem ckN_in (p r : Int × Int) (v k : Nat) : ckN p r v k = 0 ∨ ckN p r v k = 5 ∨ ckN p r v k = 6 := by
  unfold ckN
  split
  · exact Or.inr (Or.inl rfl)
  · split
    · exact Or.inl rfl
    · exact Or.inr (Or.inr rfl)
theorem rs_of {ps ss : List Int} (h : rsN ps ss = 0) : ps.length = 32 ∧ ss.length = 64 ∧ ovalid (ss.drop 32) = true ∧ dcB ps = true ∧ dcB (ss.take 32) = true := by
  unfold rsN at h
  by_cases h1 : ps.length = 32
  · rw [if_neg (by simp [h1])] at h
    by_cases h2 : ss.length = 64
    · rw [if_neg (by simp [h2])] at h
      cases h3 : ovalid (ss.drop 32)
      · rw [if_pos h3] at h; exact absurd h (by decide)
      · rw [if_neg (by rw [h3]; decide)] at h
        cases h4 : dcB ps
        · rw [if_pos h4] at h; exact absurd h (by decide)
        · rw [if_neg (by rw [h4]; decide)] at h
          cases h5 : dcB (ss.take 32)
          · rw [if_pos h5] at h; exact absurd h (by decide)
          · exact ⟨h1, h2, rfl, rfl, rfl⟩
    · rw [if_pos h2] at h; exact absurd h (by decide)
  · rw [if_pos h1] at h; exact absurd h (by decide)
set_option maxRecDepth 100000 in
set_option maxHeartbeats 8000000 in
theorem checkSignature_any (w : World) (g : Nat) (a : Option Addr) (c : Nat) (ps : List Int) (hr : Rd w g a .u8 ps) (hb : Byt ps) (kp : ps.length ≤ c) (gm : Nat) (am : Option Addr) (cm : Nat) (ms : List Int) (hm : Rd w gm am .u8 ms) (bm : Byt ms) (km : ms.length ≤ cm) (lm : ms.length ≤ 1048576) (gs : Nat) (aS : Option Addr) (cS : Nat) (ss : List Int) (hs : Rd w gs aS .u8 ss) (bs : Byt ss) (ks : ss.length ≤ cS) (H : HasN w) (R : HasR w) :
    Calls Tryz.prog 22 #[.slice a ps.length c, .slice am ms.length cm, .slice aS ss.length cS] w fun r w' => (∃ v, r = .returned v ∧ StepV (vfV ps ms ss) v) ∧ Below w.heap.size w w' := by
  obtain ⟨dS, hdS, hrS⟩ := rowSd
  have RS := hide (readSigned_any w g a c ps hr hb gs aS cS ss hs bs ks H R)
  go_enter Tryz.func22, Tryz.ntmps22
  go_wp2_with fail
  refine RS.out.mono ?_
  rintro r w1 ⟨⟨cs, rfl, l24, one, sd⟩, n1⟩
  clear RS
  have SD := hide sd
  have na : Below w1.heap.size w1 (w1.alloc zSd) := (Below.refl _ _).alloc (Nat.le_refl _) _
  have ns : Below w1.heap.size w1 ((w1.alloc zSd).setCells w1.heap.size 0 cs) := na.trans ((only_setCells _ _ _ 0).below (Nat.le_refl _))
  have ta : (w1.alloc zSd).there w1.heap.size 0 24 := there_new w1 _ _
  have THR : (w1.alloc zSd).there w1.heap.size 0 cs.toArray.size := by show (w1.alloc zSd).there w1.heap.size 0 cs.length; rw [l24]; exact ta
  have iE : (Tryz.prog.info? 84).map (·.size) = some cs.toArray.size := by show _ = some cs.length; rw [l24]; exact iSd
  have RE := hide (World.rangeAt_setCells_same (w1.alloc zSd) w1.heap.size 0 cs (by rw [l24]; exact ta))
  have N := nxt n1 ns
  clear na ns ta n1 sd
  by_cases h0 : rsN ps ss = 0
  · obtain ⟨lp, ls, -, bP, bS⟩ := rs_of h0
    rw [ls] at ks
    obtain ⟨es, fs, rfl, IE, IF⟩ := SD.out h0
    obtain ⟨o, rfl, -⟩ := hs.dropA 32 (by omega)
    have ht := hs.takeA 32
    have lt : (ss.take 32).length = 32 := by rw [List.length_take]; omega
    have bd := byt_drop bs 32
    have bt := byt_takeh bs 32
    have ld : (ss.drop 32).length = 32 := by rw [List.length_drop]; omega
    have hW : W4 (wv (fun j => (ss.drop 32).getD j 0) 32) := fun j _ => wv_lt bd 32 j
    have hv : wval (wv (fun j => (ss.drop 32).getD j 0) 32) = ((num (ss.drop 32)).toNat : Int) := by
      rw [wv_sum _ 32 (by omega)]
      have := num_nonneg bd
      have e : num (ss.drop 32) = lsum (fun j => (ss.drop 32).getD j 0) 32 := by unfold num; rw [ld]
      rw [← e]
      omega
    have CK := hide fun W (n : Below w.heap.size w W) => check_any W es fs _ _ _ _ IE IF (dp_on hb bP) (dp_on bt bS) _ (hsW (ss.take 32 ++ (ps ++ ms))) hW _ hv (hsW_ok _).1 _ (hsN_val _) (H.up n).S
    have HS := hide fun W q (n : Below w.heap.size w W) (L : Lsts W q [⟨gs, some ⟨gs, o, none⟩, cS, ss.take 32⟩, ⟨g, a, c, ps⟩, ⟨gm, am, cm, ms⟩]) => hashedScalar_any W q 3 3 [⟨gs, some ⟨gs, o, none⟩, cS, ss.take 32⟩, ⟨g, a, c, ps⟩, ⟨gm, am, cm, ms⟩] rfl (by decide) (by decide) L (fun l h => by
      rcases List.mem_cons.1 h with rfl | h
      · exact ⟨ht.up n, bt, by show (ss.take 32).length ≤ cS; omega⟩
      · rcases List.mem_cons.1 h with rfl | h
        · exact ⟨hr.up n, hb, kp⟩
        · rw [List.mem_singleton.1 h]
          exact ⟨hm.up n, bm, km⟩) (by rw [cat3, List.length_append, List.length_append]; show (ss.take 32).length + (ps.length + ms.length) ≤ _; omega) (H.up n).A (H.up n).B (H.up n).O
    simp only [cat3] at HS
    change Hid (∀ W q, _ → _ → Calls _ _ _ _ fun r w' => r = .returned (ag4 (hsW (ss.take 32 ++ (ps ++ ms)))) ∧ _) at HS
    have EV : Hid (vfV ps ms ss = ckN (dcP ps) (dcP (ss.take 32)) (num (ss.drop 32)).toNat (hsN (ss.take 32 ++ (ps ++ ms)))) := by show _ = _; unfold vfV; rw [if_pos h0]
    have e0 : fltV (rsN ps ss) = .nilIface := by unfold fltV; rw [if_pos h0]
    have KI := hide (ckN_in (dcP ps) (dcP (ss.take 32)) (num (ss.drop 32)).toNat (hsN (ss.take 32 ++ (ps ++ ms))))
    change Hid (∀ W, _ → Calls _ _ _ _ fun r w' => r = .returned (fltV (ckN (dcP ps) (dcP (ss.take 32)) (num (ss.drop 32)).toNat (hsN (ss.take 32 ++ (ps ++ ms))))) ∧ _) at CK
    have LT := hide lt
    rw [e0, lp, ls]
    generalize ckN (dcP ps) (dcP (ss.take 32)) (num (ss.drop 32)).toNat (hsN (ss.take 32 ++ (ps ++ ms))) = K at *
    generalize hsW (ss.take 32 ++ (ps ++ ms)) = hK at *
    generalize wv (fun j => (ss.drop 32).getD j 0) 32 = V at *
    clear hW hv ht lt bt bd ld hs hr hb hm bm km kp lm bs SD h0 e0
    go_upto_region 4 with (refine wpList_store_mid rfl 84 (.tmp 7) (.tmp 13) rfl w1.heap.size 0 (sdC es fs V).toArray rfl rfl THR iE one ?_)
    generalize (w1.alloc zSd).setCells w1.heap.size 0 (sdC es fs V) = w2 at *
    generalize w1.heap.size = q at *
    have lq : q < w2.heap.size := block_lt_of_cell (RE.out 0 ((sdC es fs V)[0]'(by omega)) (List.getElem?_eq_getElem _))
    have LP := hide lp
    refine region_end 9 (fun i => [Fact.eq (.agg (sdC es fs V).toArray), Fact.eq (.slice (some ⟨gs, o, none⟩) 64 cS), Fact.eq (.slice (some ⟨gs, o, none⟩) 32 cS), Fact.eq (.slice a 32 c), Fact.eq (.slice am ms.length cm), LS3 [⟨gs, some ⟨gs, o, none⟩, cS, ss.take 32⟩, ⟨g, a, c, ps⟩, ⟨gm, am, cm, ms⟩], Fact.eq (ag4 hK), Fact.eq (fltV K), Fact.eq (fltV K)].getD i Fact.no) (by kernel_rfl) (by kernel_rfl) rfl ?_ ?_
    · intro i hi
      obtain rfl | rfl | rfl | rfl | rfl | rfl | rfl | rfl | rfl : i = 0 ∨ i = 1 ∨ i = 2 ∨ i = 3 ∨ i = 4 ∨ i = 5 ∨ i = 6 ∨ i = 7 ∨ i = 8 := by omega
      · refine step_load rfl 84 (.tmp 7) rfl dS 24 hdS hrS iSd fun a ww hb hw hf => ?_
        have e7 : a.tmps.getD 7 undef = .pointer (some ⟨q, 0, none⟩) := hb.2.2 7 (by kernel_rfl)
        exact ⟨q, 0, sdC es fs V, e7, fun j v hj => (World.cell?_of_block (a := ⟨q, 0 + j, none⟩) (hw.block _ lq)).trans (RE.out j v hj), l24, rfl⟩
      · exact step_mv rfl 2 rfl (by kernel_rfl) rfl rfl
      · exact step_slv rfl 22 21 1 _ _ rfl _ _ _ _ (by kernel_rfl) rfl (fun _ => rfl) (fun _ => rfl) (fun W => by have := sl_high W (some ⟨gs, o, none⟩) 64 cS 32 (by omega); rw [slA_0] at this; exact this) rfl
      · exact step_mv rfl 0 rfl (by kernel_rfl) rfl rfl
      · exact step_mv rfl 1 rfl (by kernel_rfl) rfl rfl
      · exact step_bs3V (l := ⟨gs, some ⟨gs, o, none⟩, cS, ss.take 32⟩) (m := ⟨g, a, c, ps⟩) (n := ⟨gm, am, cm, ms⟩) rfl 22 23 24 2 3 4 rfl (by kernel_rfl) (by kernel_rfl) (by kernel_rfl) (by show _ = Fact.eq (.slice (some ⟨gs, o, none⟩) (ss.take 32).length cS); rw [LT.out]; rfl) (by show _ = Fact.eq (.slice a ps.length c); rw [LP.out]; rfl) rfl rfl
      · refine step_callv rfl 35 _ _ rfl (by kernel_rfl) fun a ww hb hw hf => ?_
        obtain ⟨b, e25, L⟩ := hf 5 25 (by kernel_rfl)
        show Calls Tryz.prog 35 #[a.tmps.getD 25 undef] ww _
        rw [show a.tmps.getD 25 undef = _ from e25]
        exact (HS.out ww b (nxt N hw) L).mono (by rintro r w' ⟨rfl, n⟩; exact ⟨_, rfl, n, rfl⟩)
      · refine step_callv rfl 44 _ _ rfl (by kernel_rfl) fun a ww hb hw hf => ?_
        have e20 : a.tmps.getD 20 undef = .agg (sdC es fs V).toArray := hf 0 20 (by kernel_rfl)
        have e26 : a.tmps.getD 26 undef = ag4 hK := hf 6 26 (by kernel_rfl)
        show Calls Tryz.prog 44 #[a.tmps.getD 20 undef, a.tmps.getD 26 undef] ww _
        rw [e20, e26]
        exact (CK.out ww (nxt N hw)).mono (by rintro r w' ⟨rfl, n⟩; exact ⟨_, rfl, n, rfl⟩)
      · exact step_move rfl 27 7 (by exact Or.inr rfl) (by kernel_rfl) rfl
    intro A W hb hw hF
    have e8 := hF 8 8 (by kernel_rfl)
    obtain ⟨vs, hvs⟩ : ∃ vs : Nat → Value, ∀ d, A.tmps.getD d undef = vs d := ⟨_, fun _ => rfl⟩
    rw [hvs] at e8
    rw [puts_of (md := .any) (k := 9) (by kernel_rfl) rfl hb vs hvs]
    have N9 := nxt N hw
    have e88 : vs 8 = fltV K := e8
    clear hb hF hvs hw e8 CK HS RE l24 one THR iE N
    by_cases k0 : K = 0
    · subst k0
      have f0 : fltV 0 = .nilIface := rfl
      rw [f0] at e88
      simp only [puts, e88, Act.put, List.setIfInBounds_toArray, List.set_cons_succ, List.set_cons_zero]
      go_wp2
      go_ret
      exact ⟨⟨_, rfl, Or.inl ⟨EV.out, rfl⟩⟩, N9⟩
    · have f0 : fltV K = .iface 45 (.int .i64 K) := by unfold fltV; rw [if_neg k0]
      rw [f0] at e88
      have K0 := hide k0
      clear k0 f0
      simp only [puts, e88, Act.put, List.setIfInBounds_toArray, List.set_cons_succ, List.set_cons_zero]
      go_wp2
      go_ret
      exact ⟨⟨_, rfl, Or.inr ⟨by rw [EV.out]; exact K0.out, ⟨#[99, 104, 101, 99, 107, 105, 110, 103]⟩, by rw [EV.out]; rfl⟩⟩, N9⟩
  · have e0 : fltV (rsN ps ss) = .iface 45 (.int .i64 (rsN ps ss)) := by unfold fltV; rw [if_neg h0]
    have EV : Hid (vfV ps ms ss = rsN ps ss) := by show _ = _; unfold vfV; rw [if_neg h0]
    have H0 := hide h0
    rw [e0]
    clear h0 e0
    go_wp2_with (first | (refine wpList_store_mid rfl 84 (.tmp 7) (.tmp 13) rfl w1.heap.size 0 cs.toArray rfl rfl THR iE one ?_) | fail)
    go_ret
    exact ⟨⟨_, rfl, Or.inr ⟨by rw [EV.out]; exact H0.out, ⟨#[114, 101, 97, 100, 105, 110, 103]⟩, by rw [EV.out]; rfl⟩⟩, N⟩
end Go.Proofs.YtkglcainhkbgbaaGreatDoor
namespace Go.Proofs.YtkglcainhkbgbaaGreatDoor
set_option maxRecDepth 100000
open Go Go.RowKit
end Go.Proofs.YtkglcainhkbgbaaGreatDoor
namespace Go.Proofs.YtkglcainhkbgbaaGreatDoor
set_option maxRecDepth 100000
open Go.RowKit
abbrev z5 (W : World) : World := W.alloc (.cells #[.int .u64 0, .int .u64 0, .int .u64 0, .int .u64 0, .int .u64 0] 80)
theorem bl1 (W : World) : Below W.heap.size W (z5 W) := (Below.refl _ _).alloc (Nat.le_refl _) _
theorem bl2 (W : World) : Below W.heap.size W (z5 (z5 W)) := nxt (bl1 W) (bl1 _)
abbrev c5 (u : Nat → Int) : Obj := .cells #[.int .u64 (u 0), .int .u64 (u 1), .int .u64 (u 2), .int .u64 (u 3), .int .u64 (u 4)] 80
abbrev l5 (u : Nat → Int) : List Int := [u 0, u 1, u 2, u 3, u 4]
end Go.Proofs.YtkglcainhkbgbaaGreatDoor
namespace Go.Proofs.YtkglcainhkbgbaaGreatDoor
set_option maxRecDepth 100000
open Go.RowKit
end Go.Proofs.YtkglcainhkbgbaaGreatDoor
namespace Go.Proofs.YtkglcainhkbgbaaGreatDoor
set_option maxRecDepth 100000
open Go.RowKit
end Go.Proofs.YtkglcainhkbgbaaGreatDoor
namespace Go.Proofs.YtkglcainhkbgbaaGreatDoor
set_option maxRecDepth 100000
open Go.RowKit
end Go.Proofs.YtkglcainhkbgbaaGreatDoor
