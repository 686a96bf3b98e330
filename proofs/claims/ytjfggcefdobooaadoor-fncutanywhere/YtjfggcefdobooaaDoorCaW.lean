
/-
  FnCutAnywhere (written by gens/caw.py).
-/
import Derived.Test.YtjfggcefdobooaaDoorCaV
import Derived.Deep.RegionHeld3
namespace Go.Proofs.YtjfggcefdobooaaDoor
set_option maxRecDepth 100000
open Go Go.RowKit

/-- The three errors. -/
def HasR3c (W : World) : Prop := ∃ a0 a1 a2, Sen W 0 a0 ∧ Sen W 1 a1 ∧ Sen W 2 a2 ∧ a0 ≠ a1 ∧ a0 ≠ a2 ∧ a1 ≠ a2
/-- What the first loop keeps. -/
def LpR (w0 : World) (va vw k : Value) (w : World) : Prop :=
  ∃ (j : Nat) (rs : List (Int × List Int)) (bs : List Plc), k = .int .i64 j ∧ j ≤ 4 ∧ rs.length = j ∧ (∀ r ∈ rs, gdR r) ∧ (flR rs).length ≤ j * 2324 ∧ Two w w0.heap.size va (flR rs) vw rs bs ∧ Below w0.heap.size w0 w
theorem byt_oneC {z : Int} (h0 : 0 ≤ z) (h1 : z < 256) : Byt [z] := fun i => by
  match i with
  | 0 => exact ⟨h0, h1⟩
  | n + 1 => exact ⟨by simp, by simp⟩
theorem flR_snoc (rs : List (Int × List Int)) (r : Int × List Int) : flR (rs ++ [r]) = flR rs ++ enA r.1 r.2 := by
  rw [flR_append]
  simp [flR]
set_option maxRecDepth 100000 in
set_option maxHeartbeats 4000000 in
theorem cutAny_law (w : World) (g0 : Nat) (a0 : Option Addr) (c0 : Nat) (X0 : List Int) (hX0 : Rd w g0 a0 .u8 X0) (bX0 : Byt X0) (k0 : a0 = none → c0 = 0) (g1 : Nat) (a1 : Option Addr) (c1 : Nat) (X1 : List Int) (hX1 : Rd w g1 a1 .u8 X1) (bX1 : Byt X1) (hL : HasR3c w) :
    Calls Tryd.prog 3 #[.slice a0 X0.length c0, .slice a1 X1.length c1] w fun e w' => e = .returned (.bool true) ∧ Below w.heap.size w w' := by
  by_cases q0 : X0.length ≤ 1048576
  · have u0 : decide ((1048576 : Int) < (X0.length : Int)) = false := by simp; omega
    by_cases q1 : X1.length ≤ 1048576
    · have u1 : decide ((1048576 : Int) < (X1.length : Int)) = false := by simp; omega
      obtain ⟨i0, hi, hz0, hz1, hz2⟩ := info_parts Tryd.info5
      obtain ⟨e0, e1, e2, s0, s1, s2, d01, d02, d12⟩ := hL
      have K0 := hide k0
      have HS := hide (And.intro s0 (And.intro s1 s2))
      have HD := hide (And.intro d01 (And.intro d02 d12))
      clear k0 s0 s1 s2 d01 d02 d12
      have n1 : Below w.heap.size w (w.alloc (.cells #[] 5)) := (Below.refl _ _).alloc (Nat.le_refl _) _
      have n2 : Below w.heap.size w ((w.alloc (.cells #[] 5)).alloc (.cells #[] 25)) := n1.alloc n1.size _
      have T2 : Two ((w.alloc (.cells #[] 5)).alloc (.cells #[] 25)) w.heap.size (.slice (some ⟨w.heap.size, 0, none⟩) 0 0) [] (.slice (some ⟨w.heap.size + 1, 0, none⟩) 0 0) [] [] := by
        rw [← show (w.alloc (.cells #[] 5)).heap.size = w.heap.size + 1 by simp]
        refine ⟨(RowB.lit0 w).up ((Below.refl _ _).alloc (Nat.le_refl _) _), IRow.lit0 _ _ n1.size, fun k hk => ⟨fun e => ?_, fun j hj => absurd hj (by simp)⟩⟩
        simp [Value.ownBlock] at hk e
        omega
      go_enter Tryd.func3, Tryd.ntmps3
      clear n1
      go_wp2_with fail
      generalize (w.alloc (.cells #[] 5)).alloc (.cells #[] 25) = w2 at *
      go_loopw [5, 6, 7] (fun va vw k wr => LpR w va vw k wr) (fun _ _ k _ => 4 - (intOf k).toNat)
      case atStart => exact ⟨0, [], [], rfl, Nat.zero_le _, rfl, fun x hx => absurd hx (by simp), by simp [flR], T2, n2⟩
      case round =>
        obtain ⟨j, rs, bs, rfl, hj, jl, hit, hal, T, N⟩ := hrel
        clear T2 n2
        by_cases hjn : j < 4
        · have d1 : decide ((j : Int) < 4) = true := by simp; omega
          have hN := N.size
          have nA : Below wr.heap.size wr (wr.alloc (.cells #[.int .u8 ((j : Int) * 40)] 5)) := (Below.refl _ _).alloc (Nat.le_refl _) _
          obtain ⟨v', w3, hap, R3, m3⟩ := append_any (P := Tryd.prog) (wr.alloc (.cells #[.int .u8 ((j : Int) * 40)] 5)) 22 i0 Tryd.underlying22 hi hz0 hz1 hz2 wr.heap.size wr.heap.size _ [(j : Int) * 40] (RowB.lit1 wr ((j : Int) * 40)) g0 a0 c0 X0 ((hX0.up N).up nA) K0.out (by simp; omega) (Nat.le_refl _) (by simp)
          have n3 := nA.trans m3
          have B3 : Byt ([(j : Int) * 40] ++ X0) := byt_app (byt_oneC (by omega) (by omega)) bX0
          have l3 : ([(j : Int) * 40] ++ X0).length ≤ 4194304 := by simp; omega
          obtain ⟨ga, gc, gg, rfl, rG, -, -, -⟩ := R3.rd
          have DE := hide (drawEncR_any w3 gg ga gc ([(j : Int) * 40] ++ X0) rG B3 l3)
          clear R3 rG m3 nA B3 l3
          go_wp2_with (at_builtin; refine Lib.wpList_append_run _ rfl _ _ 22 22 rfl _ _ rfl rfl _ _ hap ?_)
          clear hap
          refine DE.out.mono ?_
          rintro e w4 ⟨⟨kd, ad, cd, ys, rfl, ⟨kd0, kd1⟩, yl, yb, R4⟩, m4⟩
          have n4 := n3.trans (m4.mono n3.size)
          obtain ⟨yg, oY, nY, kY, bY⟩ : ∃ g, Own w4 g ad .u8 ys ∧ (ad = none → cd = 0) ∧ ys.length ≤ cd ∧ wr.heap.size ≤ g := by
            obtain ⟨x1, x2, x3, ex, x4, x5, x6, x7⟩ := R4.own
            injection ex with y1 y2 y3
            subst y1 y3
            exact ⟨x3, x4, x5, x6, Nat.le_trans n3.size x7⟩
          clear DE n3 m4 R4
          have n5 : Below w4.heap.size w4 (w4.alloc (.cells #[.int .i64 kd, .slice ad ys.length cd] 25)) := (Below.refl _ _).alloc (Nat.le_refl _) _
          have B8 : RwC (w4.alloc (.cells #[.int .i64 kd, .slice ad ys.length cd] 25)) w4.heap.size [.int .i64 kd, .slice ad ys.length cd] 25 := RwC.new w4 _ _
          have L5 : Lie (w4.alloc (.cells #[.int .i64 kd, .slice ad ys.length cd] 25)) ys ⟨ad, cd, yg⟩ := ⟨oY.up n5, nY, kY⟩
          have N5 := n4.trans (n5.mono n4.size)
          have SE := hide (specEncode_any (w4.alloc (.cells #[.int .i64 kd, .slice ad ys.length cd] 25)) kd yg ad cd ys L5.o.rd nY)
          have l8 := B8.lt
          have b80 := B8.c0
          have b81 := B8.c1
          obtain ⟨q8, hq8⟩ : ∃ q, q = w4.heap.size := ⟨_, rfl⟩
          have y8 : wr.heap.size ≤ q8 := by rw [hq8]; exact n4.size
          rw [← hq8] at B8 l8 b80 b81
          have HKY := hide (And.intro nY kY)
          have lqy : 0 < ys.length → yg < q8 := fun h => by rw [hq8]; exact oY.rd.lt h
          clear oY nY kY n5
          go_wp2_with fail
          rw [← hq8]
          clear hq8
          generalize w4.alloc (.cells #[.int .i64 kd, .slice ad ys.length cd] 25) = w5 at *
          refine SE.out.mono ?_
          rintro e w6 ⟨v6, rfl, R6, m6⟩
          obtain ⟨x1, x2, x3, rfl, -, -, -, -⟩ := R6.rd
          have N6 := N5.trans (m6.mono N5.size)
          have B9 := B8.up m6
          have L6 := L5.of fun h0 => m6.block _ (L5.o.rd.lt h0)
          have z6 := m6.size
          clear SE R6 m6 N5 B8 L5 b80 b81
          by_cases hg : gdR (kd, ys)
          · have f0 : decide (((enA kd ys).length : Int) = 0) = false := decide_eq_false (by rw [enA_ln hg]; omega)
            have f1 : (((enA kd ys).length : Int) == 0) = false := beq_eq_false_iff_ne.2 (by rw [enA_ln hg]; omega)
            have LQ := L6
            have hqq : wr.heap.size ≤ yg := bY
            have T7 := T.up N6
            have vaq : ∀ k, u5.ownBlock = some k → k < wr.heap.size := fun k hk => (World.ownsRow.lt T.r k hk).2
            have vwq : ∀ k, u6.ownBlock = some k → k < wr.heap.size := fun k hk => (World.ownsRow.lt T.i.o k hk).2
            have zN := N6.size
            obtain ⟨vC, wC, hapC, TC, nC, keC⟩ := T7.item (kd, ys) ⟨ad, cd, yg⟩ (Nat.le_trans hN zN) LQ wr.heap.size hN (fun i hi h0 => T.i.lt hi h0) vwq hqq (fun e => by have h : yg < wr.heap.size := vaq _ e; omega) (by omega)
            have zC := nC.size
            have B10 : RwC wC q8 [.int .i64 kd, .slice ad ys.length cd] 25 := (keC q8 B9.lt (fun e => by have := vwq _ e; omega)).trans B9
            have LC : Lie wC ys ⟨ad, cd, yg⟩ := LQ.of fun h0 => keC _ (LQ.o.rd.lt h0) (fun e => by have h : yg < wr.heap.size := vwq _ e; omega)
            have NC := hide ((N.trans (N6.mono hN)).trans nC)
            have GD : Hid (gdR (kd, ys)) := hg
            have HIT := hide (show ∀ x ∈ rs ++ [(kd, ys)], gdR x from fun x hx => by
              rcases List.mem_append.1 hx with h | h
              · exact hit x h
              · rw [List.mem_singleton.1 h]
                exact GD.out)
            have EL : Hid ((enA kd ys).length = 3 + ys.length) := enA_ln GD.out
            have HLE := hide (show ys.length ≤ 2321 from GD.out.2.2.1)
            have HFL := hide hal
            have b0 : w6.cell? ⟨q8, 0, none⟩ = some (.int .i64 kd) := B9.c0
            have b1 : w6.cell? ⟨q8, 1, none⟩ = some (.slice ad ys.length cd) := B9.c1
            clear T7 nC keC B9 LQ N6 hit
            go_upto_region 12 with (at_builtin; refine Lib.wpList_append_run _ rfl _ _ 23 23 rfl _ _ rfl rfl _ _ hapC ?_)
            clear hapC b0 b1
            have CY : Hid (∀ W, Below wC.heap.size wC W → (W.cell? ⟨q8, 0, none⟩ = some (.int .i64 kd) ∧ W.cell? ⟨q8, 1, none⟩ = some (.slice ad ys.length cd))) := fun W m => ⟨(B10.up m).c0, (B10.up m).c1⟩
            have CP : Hid (∀ W, Below wC.heap.size wC W → Calls Tryd.prog 7 #[.slice ad ys.length cd] W fun e w' => ∃ a c g, e = .returned (.slice a ys.length c) ∧ Rd w' g a .u8 ys ∧ (a = none → c = 0) ∧ Below W.heap.size W w') := fun W m => (lwCopyO_any W yg ad cd ys (LC.o.rd.up m) LC.n (by have := HLE.out; omega)).mono (by
              rintro e w' ⟨v, rfl, R, n⟩
              obtain ⟨a, c, g, rfl, r, z, -, -⟩ := RowB.rd R
              exact ⟨a, c, g, rfl, r, z, n⟩)
            have EN : Hid (∀ W a c g, Below wC.heap.size wC W → Rd W g a .u8 ys → (a = none → c = 0) → Calls Tryd.prog 6 #[.agg #[.int .i64 kd, .slice a ys.length c]] W fun e w' => ∃ g o c, e = .returned (.slice (some ⟨g, o, none⟩) (enA kd ys).length c) ∧ Rd w' g (some ⟨g, o, none⟩) .u8 (enA kd ys) ∧ Below W.heap.size W w') := fun W a c g m r z => (implEncode_any W kd g a c ys r z e1 e2 (HS.out.2.1.up (nxt NC.out m)) (HS.out.2.2.up (nxt NC.out m))).mono (by
              rintro e w' ⟨v, rfl, R, n⟩
              obtain ⟨a, c, g, rfl, r, -, -, -⟩ := R.rd
              obtain ⟨o, rfl, -⟩ := id r (by rw [EL.out]; omega)
              exact ⟨g, o, c, rfl, r, n⟩)
            have AP : Hid (∀ W g o c, Below wC.heap.size wC W → Rd W g (some ⟨g, o, none⟩) .u8 (enA kd ys) → ∃ v' w', (Builtin.append_ #[22, 22] 22 #[u5, .slice (some ⟨g, o, none⟩) (enA kd ys).length c]).run Tryd.prog W = .ok v' w' ∧ (Two w' w.heap.size v' (flR rs ++ enA kd ys) vC (rs ++ [(kd, ys)]) (bs ++ [⟨ad, cd, yg⟩]) ∧ Below w.heap.size wC w' ∧ (w'.cell? ⟨q8, 0, none⟩ = some (.int .i64 kd) ∧ w'.cell? ⟨q8, 1, none⟩ = some (.slice ad ys.length cd)))) := fun W g o c m r => by
              have zz := m.size
              obtain ⟨v', w', h1, h2, h3, h4, -⟩ := (TC.up m).all 22 g o c (enA kd ys) r (by have := EL.out; have := HLE.out; have := HFL.out; omega) (by omega)
              have l8 := B10.lt
              have B11 := (h4 q8 (by omega) (fun e => by have := vaq _ e; omega)).trans (B10.up m)
              exact ⟨v', w', h1, h2, (m.mono (by omega)).trans h3, RwC.c0 B11, RwC.c1 B11⟩
            have nd : Below wC.heap.size wC wC.drew := (Below.refl _ _).drew
            go_region_held3 (fun W => W.cell? ⟨q8, 0, none⟩ = some (.int .i64 kd) ∧ W.cell? ⟨q8, 1, none⟩ = some (.slice ad ys.length cd))
              (first | exact k55 | exact (unhide CY) _ b54 | exact (unhide CY) _ b52 | exact (unhide CY) _ nd)
              (first
                | (go_at_call 7; refine ((unhide CP) _ nd).mono ?_; rintro r w52 ⟨a52, c52, g52, rfl, r52, z52, n52⟩; (have b52 := nxt nd n52))
                | (go_at_call 6; refine ((unhide EN) _ _ _ _ b52 r52 z52).mono ?_; rintro r w54 ⟨g54, o54, c54, rfl, r54, n54⟩; (have b54 := nxt b52 n54); (have A55 := hide ((unhide AP) w54 g54 o54 c54 b54 r54)))
                | (refine step_append_exN rfl (.tmp 47) (.tmp 54) 22 22 rfl u5 (.slice (some ⟨g54, o54, none⟩) (enA kd ys).length c54) rfl rfl _ A55.out ?_; rintro v55 w55 ⟨T55, n55, k55⟩)
                | fail)
            all_goals
              have HT := hide (show Two w55 w.heap.size v55 (flR (rs ++ [(kd, ys)])) vC (rs ++ [(kd, ys)]) (bs ++ [⟨ad, cd, yg⟩]) by rw [flR_snoc]; exact T55)
              have HJ := hide (show (rs ++ [(kd, ys)]).length = j + 1 by simp [jl])
              have HAL := hide (show (flR (rs ++ [(kd, ys)])).length ≤ (j + 1) * 2324 by rw [flR_snoc, List.length_append]; have := EL.out; have := HLE.out; have := HFL.out; show _ + (enA kd ys).length ≤ _; omega)
              have NF := hide (NC.out.trans n55)
              clear T55 n55 k55 A55 r54 n54 b54 b52 r52 n52 nd AP EN CP CY T TC
              go_wp2
              go_roundw
              case rel => exact ⟨j + 1, rs ++ [(kd, ys)], bs ++ [⟨ad, cd, yg⟩], by go_num, by omega, HJ.out, HIT.out, HAL.out, HT.out, NF.out⟩
              case measure => simp [intOf]; omega
          · have f0 : (enA kd ys) = [] := by
              unfold enA
              rw [if_neg (fun q => hg ⟨q.1, q.2.1, q.2.2, yb⟩)]
            rw [f0]
            have gx : gdR (22, [(j : Int), 7]) := ⟨rfl, by simp, by simp, byt_app (byt_oneC (z := (j : Int)) (by omega) (by omega)) (byt_oneC (by decide) (by decide))⟩
            obtain ⟨qg, hqg⟩ : ∃ q, q = w6.heap.size := ⟨_, rfl⟩
            have OS : Only q8 w6 ((w6.setCell ⟨q8, 0, none⟩ (.int .i64 22)).setCell ⟨q8, 1, none⟩ (.slice (some ⟨qg, 0, none⟩) 2 2)) := (Only.setCell _ q8 0 _).trans (Only.setCell _ q8 1 _)
            have zs : ((w6.setCell ⟨q8, 0, none⟩ (.int .i64 22)).setCell ⟨q8, 1, none⟩ (.slice (some ⟨qg, 0, none⟩) 2 2)).heap.size = qg := by rw [OS.size, hqg]
            have BS : RwC ((w6.setCell ⟨q8, 0, none⟩ (.int .i64 22)).setCell ⟨q8, 1, none⟩ (.slice (some ⟨qg, 0, none⟩) 2 2)) q8 [.int .i64 22, .slice (some ⟨qg, 0, none⟩) [(j : Int), 7].length 2] 25 := (B9.set 0 _).set 1 _
            have na : Below ((w6.setCell ⟨q8, 0, none⟩ (.int .i64 22)).setCell ⟨q8, 1, none⟩ (.slice (some ⟨qg, 0, none⟩) 2 2)).heap.size ((w6.setCell ⟨q8, 0, none⟩ (.int .i64 22)).setCell ⟨q8, 1, none⟩ (.slice (some ⟨qg, 0, none⟩) 2 2)) (((w6.setCell ⟨q8, 0, none⟩ (.int .i64 22)).setCell ⟨q8, 1, none⟩ (.slice (some ⟨qg, 0, none⟩) 2 2)).alloc (.cells #[.int .u8 (j : Int), .int .u8 7] 5)) := (Below.refl _ _).alloc (Nat.le_refl _) _
            have BL : Blk (((w6.setCell ⟨q8, 0, none⟩ (.int .i64 22)).setCell ⟨q8, 1, none⟩ (.slice (some ⟨qg, 0, none⟩) 2 2)).alloc (.cells #[.int .u8 (j : Int), .int .u8 7] 5)) ((w6.setCell ⟨q8, 0, none⟩ (.int .i64 22)).setCell ⟨q8, 1, none⟩ (.slice (some ⟨qg, 0, none⟩) 2 2)).heap.size .u8 [(j : Int), 7] := ⟨5, heap_alloc_new _ _⟩
            rw [zs] at BL
            have l6q := B9.lt
            have b0 := B9.c0
            have b1 := B9.c1
            have x0 := B9.free 0
            have x1 := B9.free 1
            have BN := BS.up na
            have LQ : Lie (((w6.setCell ⟨q8, 0, none⟩ (.int .i64 22)).setCell ⟨q8, 1, none⟩ (.slice (some ⟨qg, 0, none⟩) 2 2)).alloc (.cells #[.int .u8 (j : Int), .int .u8 7] 5)) [(j : Int), 7] ⟨some ⟨qg, 0, none⟩, 2, qg⟩ := ⟨BL.own0, (fun h => nomatch h), Nat.le_refl _⟩
            have hqq : wr.heap.size ≤ qg := by rw [hqg]; exact N6.size
            have NN := (N6.trans (OS.below (B := wr.heap.size) y8)).trans (na.mono (by rw [OS.size]; exact N6.size))
            clear N6 B9 BS BL OS na L6 hg zs
            go_upto_region 11 with fail
            rw [← hqg]
            clear hqg b0 b1 x0 x1
            generalize ((w6.setCell ⟨q8, 0, none⟩ (.int .i64 22)).setCell ⟨q8, 1, none⟩ (.slice (some ⟨qg, 0, none⟩) 2 2)).alloc (.cells #[.int .u8 (j : Int), .int .u8 7] 5) = wb at *
            have N6 := NN
            have B9 := BN
            clear NN BN
            generalize [(j : Int), 7] = Z at *
            have T7 := T.up N6
            have vaq : ∀ k, u5.ownBlock = some k → k < wr.heap.size := fun k hk => (World.ownsRow.lt T.r k hk).2
            have vwq : ∀ k, u6.ownBlock = some k → k < wr.heap.size := fun k hk => (World.ownsRow.lt T.i.o k hk).2
            have zN := N6.size
            obtain ⟨vC, wC, hapC, TC, nC, keC⟩ := T7.item (22, Z) ⟨(some ⟨qg, 0, none⟩), 2, qg⟩ (Nat.le_trans hN zN) LQ wr.heap.size hN (fun i hi h0 => T.i.lt hi h0) vwq hqq (fun e => by have h : qg < wr.heap.size := vaq _ e; omega) (by omega)
            have zC := nC.size
            have B10 : RwC wC q8 [.int .i64 22, .slice (some ⟨qg, 0, none⟩) Z.length 2] 25 := (keC q8 B9.lt (fun e => by have := vwq _ e; omega)).trans B9
            have LC : Lie wC Z ⟨(some ⟨qg, 0, none⟩), 2, qg⟩ := LQ.of fun h0 => keC _ (LQ.o.rd.lt h0) (fun e => by have h : qg < wr.heap.size := vwq _ e; omega)
            have NC := hide ((N.trans (N6.mono hN)).trans nC)
            have GD : Hid (gdR (22, Z)) := gx
            have HIT := hide (show ∀ x ∈ rs ++ [(22, Z)], gdR x from fun x hx => by
              rcases List.mem_append.1 hx with h | h
              · exact hit x h
              · rw [List.mem_singleton.1 h]
                exact GD.out)
            have EL : Hid ((enA 22 Z).length = 3 + Z.length) := enA_ln GD.out
            have HLE := hide (show Z.length ≤ 2321 from GD.out.2.2.1)
            have HFL := hide hal
            have b0 : wb.cell? ⟨q8, 0, none⟩ = some (.int .i64 22) := B9.c0
            have b1 : wb.cell? ⟨q8, 1, none⟩ = some (.slice (some ⟨qg, 0, none⟩) Z.length 2) := B9.c1
            clear T7 nC keC B9 LQ N6 hit
            go_upto_region 12 with (at_builtin; refine Lib.wpList_append_run _ rfl _ _ 23 23 rfl _ _ rfl rfl _ _ hapC ?_)
            clear hapC b0 b1
            have CY : Hid (∀ W, Below wC.heap.size wC W → (W.cell? ⟨q8, 0, none⟩ = some (.int .i64 22) ∧ W.cell? ⟨q8, 1, none⟩ = some (.slice (some ⟨qg, 0, none⟩) Z.length 2))) := fun W m => ⟨(B10.up m).c0, (B10.up m).c1⟩
            have CP : Hid (∀ W, Below wC.heap.size wC W → Calls Tryd.prog 7 #[.slice (some ⟨qg, 0, none⟩) Z.length 2] W fun e w' => ∃ a c g, e = .returned (.slice a Z.length c) ∧ Rd w' g a .u8 Z ∧ (a = none → c = 0) ∧ Below W.heap.size W w') := fun W m => (lwCopyO_any W qg (some ⟨qg, 0, none⟩) 2 Z (LC.o.rd.up m) LC.n (by have := HLE.out; omega)).mono (by
              rintro e w' ⟨v, rfl, R, n⟩
              obtain ⟨a, c, g, rfl, r, z, -, -⟩ := RowB.rd R
              exact ⟨a, c, g, rfl, r, z, n⟩)
            have EN : Hid (∀ W a c g, Below wC.heap.size wC W → Rd W g a .u8 Z → (a = none → c = 0) → Calls Tryd.prog 6 #[.agg #[.int .i64 22, .slice a Z.length c]] W fun e w' => ∃ g o c, e = .returned (.slice (some ⟨g, o, none⟩) (enA 22 Z).length c) ∧ Rd w' g (some ⟨g, o, none⟩) .u8 (enA 22 Z) ∧ Below W.heap.size W w') := fun W a c g m r z => (implEncode_any W 22 g a c Z r z e1 e2 (HS.out.2.1.up (nxt NC.out m)) (HS.out.2.2.up (nxt NC.out m))).mono (by
              rintro e w' ⟨v, rfl, R, n⟩
              obtain ⟨a, c, g, rfl, r, -, -, -⟩ := R.rd
              obtain ⟨o, rfl, -⟩ := id r (by rw [EL.out]; omega)
              exact ⟨g, o, c, rfl, r, n⟩)
            have AP : Hid (∀ W g o c, Below wC.heap.size wC W → Rd W g (some ⟨g, o, none⟩) .u8 (enA 22 Z) → ∃ v' w', (Builtin.append_ #[22, 22] 22 #[u5, .slice (some ⟨g, o, none⟩) (enA 22 Z).length c]).run Tryd.prog W = .ok v' w' ∧ (Two w' w.heap.size v' (flR rs ++ enA 22 Z) vC (rs ++ [(22, Z)]) (bs ++ [⟨(some ⟨qg, 0, none⟩), 2, qg⟩]) ∧ Below w.heap.size wC w' ∧ (w'.cell? ⟨q8, 0, none⟩ = some (.int .i64 22) ∧ w'.cell? ⟨q8, 1, none⟩ = some (.slice (some ⟨qg, 0, none⟩) Z.length 2)))) := fun W g o c m r => by
              have zz := m.size
              obtain ⟨v', w', h1, h2, h3, h4, -⟩ := (TC.up m).all 22 g o c (enA 22 Z) r (by have := EL.out; have := HLE.out; have := HFL.out; omega) (by omega)
              have l8 := B10.lt
              have B11 := (h4 q8 (by omega) (fun e => by have := vaq _ e; omega)).trans (B10.up m)
              exact ⟨v', w', h1, h2, (m.mono (by omega)).trans h3, RwC.c0 B11, RwC.c1 B11⟩
            have nd : Below wC.heap.size wC wC.drew := (Below.refl _ _).drew
            go_region_held3 (fun W => W.cell? ⟨q8, 0, none⟩ = some (.int .i64 22) ∧ W.cell? ⟨q8, 1, none⟩ = some (.slice (some ⟨qg, 0, none⟩) Z.length 2))
              (first | exact k55 | exact (unhide CY) _ b54 | exact (unhide CY) _ b52 | exact (unhide CY) _ nd)
              (first
                | (go_at_call 7; refine ((unhide CP) _ nd).mono ?_; rintro r w52 ⟨a52, c52, g52, rfl, r52, z52, n52⟩; (have b52 := nxt nd n52))
                | (go_at_call 6; refine ((unhide EN) _ _ _ _ b52 r52 z52).mono ?_; rintro r w54 ⟨g54, o54, c54, rfl, r54, n54⟩; (have b54 := nxt b52 n54); (have A55 := hide ((unhide AP) w54 g54 o54 c54 b54 r54)))
                | (refine step_append_exN rfl (.tmp 47) (.tmp 54) 22 22 rfl u5 (.slice (some ⟨g54, o54, none⟩) (enA 22 Z).length c54) rfl rfl _ A55.out ?_; rintro v55 w55 ⟨T55, n55, k55⟩)
                | fail)
            all_goals
              have HT := hide (show Two w55 w.heap.size v55 (flR (rs ++ [(22, Z)])) vC (rs ++ [(22, Z)]) (bs ++ [⟨(some ⟨qg, 0, none⟩), 2, qg⟩]) by rw [flR_snoc]; exact T55)
              have HJ := hide (show (rs ++ [(22, Z)]).length = j + 1 by simp [jl])
              have HAL := hide (show (flR (rs ++ [(22, Z)])).length ≤ (j + 1) * 2324 by rw [flR_snoc, List.length_append]; have := EL.out; have := HLE.out; have := HFL.out; show _ + (enA 22 Z).length ≤ _; omega)
              have NF := hide (NC.out.trans n55)
              clear T55 n55 k55 A55 r54 n54 b54 b52 r52 n52 nd AP EN CP CY T TC
              go_wp2
              go_roundw
              case rel => exact ⟨j + 1, rs ++ [(22, Z)], bs ++ [⟨(some ⟨qg, 0, none⟩), 2, qg⟩], by go_num, by omega, HJ.out, HIT.out, HAL.out, HT.out, NF.out⟩
              case measure => simp [intOf]; omega
        · obtain rfl : j = 4 := by omega
          have HIT := hide hit
          have HBY := hide (flR_byt rs hit)
          have LG := flR_ge rs hit
          have CW := hide (fun n hn => cut_anywhere rs n (flR_byt rs hit) hit hn)
          have l16 : 16 ≤ (flR rs).length := by omega
          have l93 : (flR rs).length ≤ 9296 := by omega
          have rs0 : 0 < rs.length := by omega
          obtain ⟨va, vc, vg, e5, rV, nV, kV, -⟩ := T.r.rd
          obtain ⟨gw, cw, e6, -, hgw, -, hcw, -⟩ := T.i.cells rs0
          subst e5
          subst e6
          have HCW := hide hcw
          have HBW := hide T.i.b
          obtain ⟨AL, hAL⟩ : ∃ l, l = flR rs := ⟨_, rfl⟩
          simp only [← hAL] at *
          clear hit hal T hcw K0 hX0 bX0 u0 LG hAL
          obtain ⟨vo, rfl, -⟩ := id rV (by omega)
          have AT := hide (lwAt_any wr g1 a1 c1 X1 0 ((AL.length : Int) + 1) (hX1.up N) bX1 q1 (by omega) (by omega) (by omega) (by omega))
          go_wp2_with fail
          refine AT.out.mono ?_
          rintro e w3 ⟨r, rfl, hr, m, rfl⟩
          have nd := below_drewN (Below.refl wr.heap.size wr) m
          have N3 := nxt N nd
          have rV3 := rV.up nd
          have n3 := hide nd
          clear AT rV nd N
          generalize wr.drewN m = w3 at *
          have hr1 : r ≤ AL.length := by omega
          have hr2 : (r : Int) ≤ (vc : Int) := by omega
          have hr3 : (r : Int) ≤ (AL.length : Int) := by omega
          obtain ⟨H1, hH1⟩ : ∃ l, l = AL.take r := ⟨_, rfl⟩
          obtain ⟨H2, hH2⟩ : ∃ l, l = AL.drop r := ⟨_, rfl⟩
          have lH1 : H1.length = r := by rw [hH1, List.length_take]; omega
          have lH2 : H2.length = AL.length - r := by rw [hH2, List.length_drop]
          have CU := hide (CW.out r hr1)
          have B1 : Hid (Byt H1) := by rw [hH1]; exact byt_takeV HBY.out r
          have B2 : Hid (Byt H2) := by rw [hH2]; exact byt_dropV HBY.out r
          have rH1 : Hid (Rd w3 vg (some ⟨vg, vo, none⟩) .u8 H1) := by rw [hH1]; exact rd_takeV rV3 r
          have rH2 : Hid (∀ p, (r < AL.length → p = some ⟨vg, vo + r, none⟩) → Rd w3 vg p .u8 H2) := fun p hp => by rw [hH2]; exact rd_dropV rV3 r p hp
          rw [← hH1, ← hH2] at CU
          have CPX := hide (lwCopyO_any w3 vg (some ⟨vg, vo, none⟩) vc H1 rH1.out (fun h => nomatch h) (by omega))
          have LH1 := hide lH1
          have LH2 := hide lH2
          rw [lH1] at CPX
          clear lH1 lH2 hH1 hH2 CW rV3
          go_wp2_with fail
          refine CPX.out.mono ?_
          rintro e w4 ⟨v4, rfl, R4, m4⟩
          have N4 := nxt N3 m4
          have n4 := hide (nxt n3.out m4)
          have R4 : RowB w4 w3.heap.size v4 H1 := by rw [← LH1.out] at R4; exact R4
          obtain ⟨a4, c4, g4, rfl, r4, z4, k4, -⟩ := R4.rd
          have CA := hide (implCut_any w4 g4 a4 c4 H1 r4 B1.out z4 k4 (by have := LH1.out; omega) e0 e1 e2 (HS.out.1.up N4) (HS.out.2.1.up N4) (HS.out.2.2.up N4) HD.out.1 HD.out.2.1 HD.out.2.2)
          have rH4 := hide (fun p hp => (rH2.out p hp).up m4)
          clear CPX R4 r4 z4 k4 n3 N3 rH1 rH2 m4
          go_wp2_with fail
          refine CA.out.mono ?_
          rintro e w5 ⟨⟨v5, bs5, l5, rfl, I5, R5, -⟩, m5⟩
          have N5 := nxt N4 m5
          obtain ⟨a5, c5, ev5, -⟩ := I5.slice
          obtain ⟨aR, cR, gR, eR, rR5, zR, kR, -⟩ := R5.rd
          subst ev5
          subst eR
          have nB : Below w5.heap.size w5 (w5.alloc (.cells #[.int .i64 (cutC H1), (.slice a5 (cutR H1).length c5), (.slice aR (cutL H1).length cR)] 31)) := (Below.refl _ _).alloc (Nat.le_refl _) _
          have T10 : RwC (w5.alloc (.cells #[.int .i64 (cutC H1), (.slice a5 (cutR H1).length c5), (.slice aR (cutL H1).length cR)] 31)) w5.heap.size [.int .i64 (cutC H1), (.slice a5 (cutR H1).length c5), (.slice aR (cutL H1).length cR)] 31 := RwC.new w5 _ _
          have Na := nxt N5 nB
          have na := hide (nxt (nxt n4.out m5) nB)
          have Ia : IRow (w5.alloc (.cells #[.int .i64 (cutC H1), (.slice a5 (cutR H1).length c5), (.slice aR (cutL H1).length cR)] 31)) 0 (.slice a5 (cutR H1).length c5) (cutR H1) bs5 := (I5.of fun k hk _ => nB.block k hk).base (Nat.zero_le _)
          have rR := (rR5.up nB)
          have rHa := hide (fun p hp => ((rH4.out p hp).up m5).up nB)
          obtain ⟨p10, hp10⟩ : ∃ q, q = w5.heap.size := ⟨_, rfl⟩
          rw [← hp10] at T10
          have lp10 := T10.lt
          clear CA I5 R5 rR5 rH4 n4 N4 N5 nB m5
          go_upto_region 15 with fail
          rw [← hp10]
          clear hp10
          generalize w5.alloc (.cells #[.int .i64 (cutC H1), (.slice a5 (cutR H1).length c5), (.slice aR (cutL H1).length cR)] 31) = wa at *
          obtain ⟨R1, hR1⟩ : ∃ l, l = cutL H1 := ⟨_, rfl⟩
          have LR1 : Hid (R1.length ≤ 9296) := by show _ ≤ _; rw [hR1]; have := cutL_le H1; have := LH1.out; omega
          have BR1 : Hid (Byt R1) := by show Byt _; rw [hR1]; exact cutL_byt B1.out
          rw [← hR1] at rR kR CU T10
          clear hR1
          obtain ⟨pD, hpD⟩ : ∃ p : Option Addr, p = if vc = r then some ⟨vg, vo, none⟩ else some ⟨vg, vo + r, none⟩ := ⟨_, rfl⟩
          have rD : Hid (Rd wa vg pD .u8 H2) := rHa.out pD (fun h => by rw [hpD, if_neg (by omega)])
          obtain ⟨cD, hcD⟩ : ∃ c, c = vc - r := ⟨_, rfl⟩
          obtain ⟨lD, hlD⟩ : ∃ c, c = AL.length - r := ⟨_, rfl⟩
          have LHD : Hid (H2.length = lD) := by show _ = _; rw [hlD]; exact LH2.out
          have hvp : Hid ((r = vc ∧ pD = some ⟨vg, vo, none⟩ ∧ cD = 0 ∧ lD = 0) ∨ (¬ vc = r ∧ pD = some ⟨vg, vo + r, none⟩ ∧ cD = vc - r ∧ lD = AL.length - r)) := by
            by_cases h : vc = r
            · exact .inl ⟨h.symm, by rw [hpD, if_pos h], by omega, by omega⟩
            · exact .inr ⟨h, by rw [hpD, if_neg h], hcD, hlD⟩
          have pDn : Hid (pD = none → cD = 0) := fun h => by rw [hpD] at h; split at h <;> cases h
          obtain ⟨XS, hXS⟩ : ∃ l, l = R1 ++ H2 := ⟨_, rfl⟩
          have lXS : Hid (XS.length ≤ 18592) := by show _ ≤ _; rw [hXS, List.length_append]; have := LR1.out; have := LH2.out; omega
          have bXS : Hid (Byt XS) := by show Byt _; rw [hXS]; exact byt_app BR1.out B2.out
          have CY : Hid (∀ W, Below wa.heap.size wa W → W.cell? ⟨p10, 2, none⟩ = some (.slice aR R1.length cR)) := fun W m => (T10.up m).c2
          have CP : Hid (∀ W, Below wa.heap.size wa W → Calls Tryd.prog 7 #[.slice aR R1.length cR] W fun e w' => ∃ v, e = .returned v ∧ RowB w' wa.heap.size v R1 ∧ (∀ q, q < W.heap.size → v.ownBlock ≠ some q) ∧ Below wa.heap.size wa w' ∧ Below W.heap.size W w') := fun W m => (lwCopyO_any W gR aR cR R1 (rR.up m) zR (by have := LR1.out; omega)).mono (by
            rintro e w' ⟨v, rfl, R, n⟩
            have R' : RowB w' W.heap.size v R1 := R
            exact ⟨v, rfl, R'.base m.size, fun q hq e => by have := (World.ownsRow.lt R' q e).1; omega, nxt m n, n⟩)
          have AP : Hid (∀ W v, RowB W wa.heap.size v R1 → Below wa.heap.size wa W → ∃ v' w', (Builtin.append_ #[22, 22] 22 #[v, .slice pD lD cD]).run Tryd.prog W = .ok v' w' ∧ (RowB w' wa.heap.size v' XS ∧ Below wa.heap.size wa w' ∧ (∀ q, q < W.heap.size → v.ownBlock ≠ some q → w'.heap[q]? = W.heap[q]?))) := fun W v R m => by
            obtain ⟨v', w', h1, h2, h3⟩ := append_anyK (P := Tryd.prog) W 22 i0 Tryd.underlying22 hi hz0 hz1 hz2 wa.heap.size v R1 R vg pD cD H2 (rD.out.up m) pDn.out (by have := LR1.out; have := LH2.out; omega) m.size
            rw [LHD.out] at h1
            exact ⟨v', w', h1, by rw [hXS]; exact h2, m.trans (Below.grown (Below.refl wa.heap.size W) h3 m.size (fun k hk => (World.ownsRow.lt R k hk).1)), fun q hq hne => h3.block q hq (fun e => hne e.symm)⟩
          have CT : Hid (∀ W v, RowB W wa.heap.size v XS → Below wa.heap.size wa W → Calls Tryd.prog 9 #[v] W fun e w' => ∃ vr bs vl, e = .returned (.agg #[.int .i64 (cutC XS), vr, vl]) ∧ IRow w' W.heap.size vr (cutR XS) bs ∧ RowB w' W.heap.size vl (cutL XS) ∧ Below wa.heap.size wa w' ∧ Below W.heap.size W w') := fun W v R m => by
            obtain ⟨a, c, g, rfl, r, z, k, -⟩ := R.rd
            refine (implCut_any W g a c XS r bXS.out z k (by have := lXS.out; omega) e0 e1 e2 (HS.out.1.up (nxt Na m)) (HS.out.2.1.up (nxt Na m)) (HS.out.2.2.up (nxt Na m)) HD.out.1 HD.out.2.1 HD.out.2.2).mono ?_
            rintro e w' ⟨⟨vr, bs, vl, rfl, I, L, -⟩, n⟩
            exact ⟨vr, bs, vl, rfl, I, L, nxt m n, n⟩
          have nd : Below wa.heap.size wa wa.drew := (Below.refl _ _).drew
          have bA : ∀ {W : World}, Below wa.heap.size wa W → ∀ o, Below wa.heap.size wa (W.alloc o) := fun n o => n.alloc n.size o
          go_cut [11] (fun v wc => C15 wa XS v wc)
          case first =>
            clear hXS hpD hcD hlD LHD
            have hvq := hvp.out
            clear hvp rD pDn
            have CP0 := hide ((unhide CP) wa.drew nd)
            have CP1 := hide ((unhide CP) (wa.drew.alloc (.cells #[.int .i64 0, .slice none 0 0, .slice none 0 0] 31)) (bA nd _))
            rcases hvq with ⟨rfl, rfl, rfl, rfl⟩ | ⟨hv, rfl, rfl, rfl⟩
            · skip
              go_region_held3 (fun W => W.cell? ⟨p10, 2, none⟩ = some (.slice aR R1.length cR))
                (first | exact (unhide CY) _ nd | exact (unhide CY) _ (bA nd _) | exact (unhide CY) _ ns | exact (unhide CY) _ (bA ns _) | exact (unhide CY) _ np | exact (unhide CY) _ (bA np _) | exact (unhide CY) _ nm | exact (unhide CY) _ (bA nm _) | exact (unhide CY) _ (nm.setCell hq2 _) | exact (unhide CY) _ ((nm.setCell hq2 _).setCell hq2 _) | exact (unhide CY) _ (((nm.setCell hq2 _).setCell hq2 _).setCell hq2 _))
                (first
                  | (go_at_call 7; refine CP0.out.mono ?_; rintro rr ws ⟨vS, rfl, RS, hS, ns, ns'⟩; (have A72 := hide ((unhide AP) ws vS RS ns)); (have A72b := hide ((unhide AP) (ws.alloc (.cells #[.int .i64 0, .slice none 0 0, .slice none 0 0] 31)) vS (RS.up ((Below.refl _ _).alloc (Nat.le_refl _) _)) (bA ns _))))
                  | (go_at_call 7; refine CP1.out.mono ?_; rintro rr ws ⟨vS, rfl, RS, hS, ns, ns'⟩; (have Z1 := (RwC.newD wa [.int .i64 0, .slice none 0 0, .slice none 0 0] 31).up ns'); (have k1 := hS wa.heap.size (RwC.newD wa [.int .i64 0, .slice none 0 0, .slice none 0 0] 31).lt); (have A72 := hide ((unhide AP) ws vS RS ns)); (have A72b := hide ((unhide AP) (ws.alloc (.cells #[.int .i64 0, .slice none 0 0, .slice none 0 0] 31)) vS (RS.up ((Below.refl _ _).alloc (Nat.le_refl _) _)) (bA ns _))))
                  | (refine step_append_exN rfl (.tmp 68) (.tmp 71) 22 22 rfl vS (.slice (some ⟨vg, vo, none⟩) 0 0) rfl rfl _ A72.out ?_; rintro v72 wp ⟨R72, np, kp⟩; (have Z2 := (kp _ Z1.lt k1).trans Z1); (have hq2 := Nat.le_refl wa.heap.size); (have C73 := hide ((unhide CT) wp v72 R72 np)); (have C73b := hide ((unhide CT) (wp.alloc (.cells #[.int .i64 0, .slice none 0 0, .slice none 0 0] 31)) v72 (R72.up ((Below.refl _ _).alloc (Nat.le_refl _) _)) (bA np _))))
                  | (refine step_append_exN rfl (.tmp 68) (.tmp 71) 22 22 rfl vS (.slice (some ⟨vg, vo, none⟩) 0 0) rfl rfl _ A72.out ?_; rintro v72 wp ⟨R72, np, kp⟩; (have C73 := hide ((unhide CT) wp v72 R72 np)); (have C73b := hide ((unhide CT) (wp.alloc (.cells #[.int .i64 0, .slice none 0 0, .slice none 0 0] 31)) v72 (R72.up ((Below.refl _ _).alloc (Nat.le_refl _) _)) (bA np _))))
                  | (refine step_append_exN rfl (.tmp 68) (.tmp 71) 22 22 rfl vS (.slice (some ⟨vg, vo, none⟩) 0 0) rfl rfl _ A72b.out ?_; rintro v72 wp ⟨R72, np, kp⟩; (have Z2 := (kp ws.heap.size (RwC.new ws [.int .i64 0, .slice none 0 0, .slice none 0 0] 31).lt (fun e => absurd (World.ownsRow.lt RS _ e).2 (Nat.lt_irrefl _))).trans (RwC.new ws [.int .i64 0, .slice none 0 0, .slice none 0 0] 31)); (have hq2 := ns.size); (have C73 := hide ((unhide CT) wp v72 R72 np)); (have C73b := hide ((unhide CT) (wp.alloc (.cells #[.int .i64 0, .slice none 0 0, .slice none 0 0] 31)) v72 (R72.up ((Below.refl _ _).alloc (Nat.le_refl _) _)) (bA np _))))
                  | (go_at_call 9; refine C73.out.mono ?_; rintro rr wm ⟨vr, bs, vl, rfl, IM, RM, nm, nm'⟩; obtain ⟨ax, cx, rfl, -⟩ := IM.slice; obtain ⟨ay, cy, gy, rfl, -⟩ := RM.rd; (have Z3 := RwC.up Z2 nm'); (have hg := RwC.lt Z2); (have z0 := Z3.c0); (have f0 := Z3.free 0); (have z1 := Z3.c1); (have f1 := Z3.free 1); (have z2 := Z3.c2); (have f2 := Z3.free 2))
                  | (go_at_call 9; refine C73.out.mono ?_; rintro rr wm ⟨vr, bs, vl, rfl, IM, RM, nm, nm'⟩; obtain ⟨ax, cx, rfl, -⟩ := IM.slice; obtain ⟨ay, cy, gy, rfl, -⟩ := RM.rd)
                  | (go_at_call 9; refine C73b.out.mono ?_; rintro rr wm ⟨vr, bs, vl, rfl, IM, RM, nm, nm'⟩; obtain ⟨ax, cx, rfl, -⟩ := IM.slice; obtain ⟨ay, cy, gy, rfl, -⟩ := RM.rd; (have Z3 := (RwC.new wp [.int .i64 0, .slice none 0 0, .slice none 0 0] 31).up nm'); (have hg := (RwC.new wp [.int .i64 0, .slice none 0 0, .slice none 0 0] 31).lt); (have hq2 := np.size); (have z0 := Z3.c0); (have f0 := Z3.free 0); (have z1 := Z3.c1); (have f1 := Z3.free 1); (have z2 := Z3.c2); (have f2 := Z3.free 2))
                  | fail)
              all_goals
                go_wp2_with fail
                go_meet
                first
                | (with_reducible exact c15_2 nm IM RM Z3 hq2 hg)
                | (with_reducible exact c15_1 nm np.size IM RM)
            · skip
              go_region_held3 (fun W => W.cell? ⟨p10, 2, none⟩ = some (.slice aR R1.length cR))
                (first | exact (unhide CY) _ nd | exact (unhide CY) _ (bA nd _) | exact (unhide CY) _ ns | exact (unhide CY) _ (bA ns _) | exact (unhide CY) _ np | exact (unhide CY) _ (bA np _) | exact (unhide CY) _ nm | exact (unhide CY) _ (bA nm _) | exact (unhide CY) _ (nm.setCell hq2 _) | exact (unhide CY) _ ((nm.setCell hq2 _).setCell hq2 _) | exact (unhide CY) _ (((nm.setCell hq2 _).setCell hq2 _).setCell hq2 _))
                (first
                  | (go_at_call 7; refine CP0.out.mono ?_; rintro rr ws ⟨vS, rfl, RS, hS, ns, ns'⟩; (have A72 := hide ((unhide AP) ws vS RS ns)); (have A72b := hide ((unhide AP) (ws.alloc (.cells #[.int .i64 0, .slice none 0 0, .slice none 0 0] 31)) vS (RS.up ((Below.refl _ _).alloc (Nat.le_refl _) _)) (bA ns _))))
                  | (go_at_call 7; refine CP1.out.mono ?_; rintro rr ws ⟨vS, rfl, RS, hS, ns, ns'⟩; (have Z1 := (RwC.newD wa [.int .i64 0, .slice none 0 0, .slice none 0 0] 31).up ns'); (have k1 := hS wa.heap.size (RwC.newD wa [.int .i64 0, .slice none 0 0, .slice none 0 0] 31).lt); (have A72 := hide ((unhide AP) ws vS RS ns)); (have A72b := hide ((unhide AP) (ws.alloc (.cells #[.int .i64 0, .slice none 0 0, .slice none 0 0] 31)) vS (RS.up ((Below.refl _ _).alloc (Nat.le_refl _) _)) (bA ns _))))
                  | (refine step_append_exN rfl (.tmp 68) (.tmp 71) 22 22 rfl vS (.slice (some ⟨vg, vo + r, none⟩) (AL.length - r) (vc - r)) rfl rfl _ A72.out ?_; rintro v72 wp ⟨R72, np, kp⟩; (have Z2 := (kp _ Z1.lt k1).trans Z1); (have hq2 := Nat.le_refl wa.heap.size); (have C73 := hide ((unhide CT) wp v72 R72 np)); (have C73b := hide ((unhide CT) (wp.alloc (.cells #[.int .i64 0, .slice none 0 0, .slice none 0 0] 31)) v72 (R72.up ((Below.refl _ _).alloc (Nat.le_refl _) _)) (bA np _))))
                  | (refine step_append_exN rfl (.tmp 68) (.tmp 71) 22 22 rfl vS (.slice (some ⟨vg, vo + r, none⟩) (AL.length - r) (vc - r)) rfl rfl _ A72.out ?_; rintro v72 wp ⟨R72, np, kp⟩; (have C73 := hide ((unhide CT) wp v72 R72 np)); (have C73b := hide ((unhide CT) (wp.alloc (.cells #[.int .i64 0, .slice none 0 0, .slice none 0 0] 31)) v72 (R72.up ((Below.refl _ _).alloc (Nat.le_refl _) _)) (bA np _))))
                  | (refine step_append_exN rfl (.tmp 68) (.tmp 71) 22 22 rfl vS (.slice (some ⟨vg, vo + r, none⟩) (AL.length - r) (vc - r)) rfl rfl _ A72b.out ?_; rintro v72 wp ⟨R72, np, kp⟩; (have Z2 := (kp ws.heap.size (RwC.new ws [.int .i64 0, .slice none 0 0, .slice none 0 0] 31).lt (fun e => absurd (World.ownsRow.lt RS _ e).2 (Nat.lt_irrefl _))).trans (RwC.new ws [.int .i64 0, .slice none 0 0, .slice none 0 0] 31)); (have hq2 := ns.size); (have C73 := hide ((unhide CT) wp v72 R72 np)); (have C73b := hide ((unhide CT) (wp.alloc (.cells #[.int .i64 0, .slice none 0 0, .slice none 0 0] 31)) v72 (R72.up ((Below.refl _ _).alloc (Nat.le_refl _) _)) (bA np _))))
                  | (go_at_call 9; refine C73.out.mono ?_; rintro rr wm ⟨vr, bs, vl, rfl, IM, RM, nm, nm'⟩; obtain ⟨ax, cx, rfl, -⟩ := IM.slice; obtain ⟨ay, cy, gy, rfl, -⟩ := RM.rd; (have Z3 := RwC.up Z2 nm'); (have hg := RwC.lt Z2); (have z0 := Z3.c0); (have f0 := Z3.free 0); (have z1 := Z3.c1); (have f1 := Z3.free 1); (have z2 := Z3.c2); (have f2 := Z3.free 2))
                  | (go_at_call 9; refine C73.out.mono ?_; rintro rr wm ⟨vr, bs, vl, rfl, IM, RM, nm, nm'⟩; obtain ⟨ax, cx, rfl, -⟩ := IM.slice; obtain ⟨ay, cy, gy, rfl, -⟩ := RM.rd)
                  | (go_at_call 9; refine C73b.out.mono ?_; rintro rr wm ⟨vr, bs, vl, rfl, IM, RM, nm, nm'⟩; obtain ⟨ax, cx, rfl, -⟩ := IM.slice; obtain ⟨ay, cy, gy, rfl, -⟩ := RM.rd; (have Z3 := (RwC.new wp [.int .i64 0, .slice none 0 0, .slice none 0 0] 31).up nm'); (have hg := (RwC.new wp [.int .i64 0, .slice none 0 0, .slice none 0 0] 31).lt); (have hq2 := np.size); (have z0 := Z3.c0); (have f0 := Z3.free 0); (have z1 := Z3.c1); (have f1 := Z3.free 1); (have z2 := Z3.c2); (have f2 := Z3.free 2))
                  | fail)
              all_goals
                go_wp2_with fail
                go_meet
                first
                | (with_reducible exact c15_2 nm IM RM Z3 hq2 hg)
                | (with_reducible exact c15_1 nm np.size IM RM)
          case rest =>
            obtain ⟨q11, v11, bs11, l11, rfl, T11, I11, R11, nS⟩ := hcut
            obtain ⟨a11, c11, ev11, -⟩ := I11.slice
            obtain ⟨aL, cL, gL, eL, rL, zL, kL, -⟩ := R11.rd
            subst ev11
            subst eL
            have T10' := T10.up nS
            have Nc := nxt Na nS
            have nc := hide (nxt na.out nS)
            have Ic : IRow wc 0 (.slice a5 (cutR H1).length c5) (cutR H1) bs5 := Ia.of fun k hk _ => nS.block k hk
            have I11' : IRow wc 0 (.slice a11 (cutR XS).length c11) (cutR XS) bs11 := I11.base (Nat.zero_le _)
            have CU' : Hid (cutC H1 = 0 ∧ cutC XS = 0 ∧ cutL XS = [] ∧ cutR H1 ++ cutR XS = rs) := by rw [hXS]; exact CU.out
            clear CY CP AP CT nd bA rD pDn hvp hpD hcD hlD LHD T10 Ia I11 R11 rL nS Na na CU hXS rHa LR1 BR1 B1 B2 lXS bXS rR kR zR zL kL
            have S10 := T10'.c1
            have S11 := T11.c1
            have LN : Hid ((cutR H1).length + (cutR XS).length = rs.length) := by show _ = _; rw [← List.length_append, CU'.out.2.2.2]
            have nL : Below wc.heap.size wc (wc.drew.alloc (.cells #[] 25)) := ((Below.refl _ _).drew).alloc (Nat.le_refl _) _
            have A1 : Hid (∃ v' w', (Builtin.append_ #[23, 23] 23 #[.slice (some ⟨wc.heap.size, 0, none⟩) 0 0, .slice a5 (cutR H1).length c5]).run Tryd.prog (wc.drew.alloc (.cells #[] 25)) = .ok v' w' ∧ (w'.ownsRow wc.heap.size 25 2 v' (cutR H1).length (itCs (cutR H1) bs5) ∧ Below wc.heap.size wc w')) := by
              obtain ⟨v', w', h1, h2, h3⟩ := rows_append (wc.drew.alloc (.cells #[] 25)) wc.heap.size 0 (.slice (some ⟨wc.heap.size, 0, none⟩) 0 0) (.slice a5 (cutR H1).length c5) 0 (cutR H1).length [] (itCs (cutR H1) bs5) (World.ownsRow_lit wc.drew #[] 0 (Nat.le_refl _) (by unfold maxLen; omega) (by simp)) ((Ic.of fun k hk _ => nL.block k hk).o) (itCs_one _ _) (by have := LN.out; omega) nL.size
              refine ⟨v', w', h1, by simpa using h2, nL.trans (Below.grown (Below.refl wc.heap.size _) h3 nL.size (fun k hk => ?_))⟩
              simp [Value.ownBlock] at hk
              omega
            have A2 : Hid (∀ v w1, w1.ownsRow wc.heap.size 25 2 v (cutR H1).length (itCs (cutR H1) bs5) → Below wc.heap.size wc w1 → ∃ v' w', (Builtin.append_ #[23, 23] 23 #[v, .slice a11 (cutR XS).length c11]).run Tryd.prog w1 = .ok v' w' ∧ (w'.ownsRow wc.heap.size 25 2 v' rs.length (itCs rs (bs5 ++ bs11)) ∧ Below wc.heap.size wc w')) := fun v w1 o n => by
              obtain ⟨v', w', h1, h2, h3⟩ := rows_append w1 wc.heap.size 0 v (.slice a11 (cutR XS).length c11) (cutR H1).length (cutR XS).length (itCs (cutR H1) bs5) (itCs (cutR XS) bs11) o ((I11'.of fun k hk _ => n.block k hk).o) (itCs_one _ _) (by have := LN.out; omega) n.size
              refine ⟨v', w', h1, ?_, n.trans (Below.grown (Below.refl wc.heap.size _) h3 n.size (fun k hk => (World.ownsRow.lt o k hk).1))⟩
              rw [LN.out, ← itCs_app _ _ _ _ Ic.l, CU'.out.2.2.2] at h2
              exact h2
            have CY : Hid (∀ W, Below wc.heap.size wc W → (W.cell? ⟨p10, 1, none⟩ = some (.slice a5 (cutR H1).length c5) ∧ W.cell? ⟨q11, 1, none⟩ = some (.slice a11 (cutR XS).length c11))) := fun W m => ⟨(T10'.up m).c1, (T11.up m).c1⟩
            have nd : Below wc.heap.size wc wc.drew := (Below.refl _ _).drew
            clear S10 S11
            go_upto_region 16 with fail
            go_region_held3 (fun W => W.cell? ⟨p10, 1, none⟩ = some (.slice a5 (cutR H1).length c5) ∧ W.cell? ⟨q11, 1, none⟩ = some (.slice a11 (cutR XS).length c11))
              (first | exact (unhide CY) _ nd | exact (unhide CY) _ nL | exact (unhide CY) _ n77 | exact (unhide CY) _ n80)
              (first
                | (refine step_append_exN rfl (.tmp 74) (.tmp 76) 23 23 rfl (.slice (some ⟨wc.heap.size, 0, none⟩) 0 0) (.slice a5 (cutR H1).length c5) rfl rfl _ A1.out ?_; rintro v77 w77 ⟨O77, n77⟩; (have B2 := hide ((unhide A2) v77 w77 O77 n77)))
                | (refine step_append_exN rfl (.tmp 77) (.tmp 79) 23 23 rfl v77 (.slice a11 (cutR XS).length c11) rfl rfl _ B2.out ?_; rintro v80 w80 ⟨O80, n80⟩)
                | fail)
            have LB : Hid ((bs5 ++ bs11).length = rs.length) := by show _ = _; rw [List.length_append, Ic.l, I11'.l]; exact LN.out
            obtain ⟨gx, cx, e80, hgx, hcx⟩ := row_cells O80 LB.out rs0
            subst e80
            have HCX := hide hcx
            have HBX := hide (show ∀ i, i < rs.length → Lie w80 (rs.getD i (0, [])).2 ((bs5 ++ bs11).getD i plc0) by
              have h := lie_app (w := w80) Ic.l (fun i hi => ((Ic.of (w' := w80) fun k hk _ => n80.block k hk).b i hi)) (fun i hi => ((I11'.of (w' := w80) fun k hk _ => n80.block k hk).b i hi))
              rw [CU'.out.2.2.2] at h
              exact h)
            have Tx := T10'.up n80
            have Ty := T11.up n80
            rw [CU'.out.1] at Tx
            rw [CU'.out.2.1, CU'.out.2.2.1] at Ty
            have tx0 := Tx.c0
            have ty0 := Ty.c0
            have ty2 : w80.cell? ⟨q11, 2, none⟩ = some (.slice aL 0 cL) := Ty.c2
            have nW := hide (nxt nc.out n80)
            have NW := nxt Nc n80
            have HG := hide (And.intro hgw hgx)
            clear O80 B2 n77 O77 A1 A2 CY nd nL Ic I11' T10' T11 CU' LB LN nc Nc n80 hcx hgx Tx Ty hgw HIT HBY
            generalize hbb : bs5 ++ bs11 = bb at *
            clear hbb
            rw [jl]
            go_wp2_with fail
            clear tx0 ty0 ty2
            rw [jl] at HCX HBX HCW HBW
            go_loopw [13] (fun i wq => ∃ (k : Nat), k ≤ 4 ∧ i = .int .i64 k ∧ Below w80.heap.size w80 wq) (fun i _ => 4 - (intOf i).toNat)
            case atStart => exact ⟨0, Nat.zero_le _, rfl, Below.refl _ _⟩
            case round =>
              obtain ⟨k, hk, rfl, NQ⟩ := hrel
              by_cases hkm : k < 4
              · have d1 : decide ((k : Int) < 4) = true := by simp; omega
                have t0 : (k : Int) < 4 := by omega
                have NWQ := nW.out.trans (NQ.mono nW.out.size)
                have s1 := (World.cell?_of_block (a := ⟨gx, k * 2, none⟩) (NQ.block gx HG.out.2)).trans (HCX.out k hkm).1
                have s2 := (World.cell?_of_block (a := ⟨gx, k * 2 + 1, none⟩) (NQ.block gx HG.out.2)).trans (HCX.out k hkm).2
                have r1 := (World.cell?_of_block (a := ⟨gw, k * 2, none⟩) (NWQ.block gw HG.out.1)).trans (HCW.out k hkm).1
                have r2 := (World.cell?_of_block (a := ⟨gw, k * 2 + 1, none⟩) (NWQ.block gw HG.out.1)).trans (HCW.out k hkm).2
                have SM := fun n => hide (lwSame_same (wr.drewN n) _ _ _ _ (bb.getD k plc0).c (bs.getD k plc0).c (rs.getD k (0, [])).2 (((HBX.out k hkm).o.rd.up NQ).of_block rfl) (((HBW.out k hkm).o.rd.up NWQ).of_block rfl))
                generalize (rs.getD k (0, [])).2.length = L at *
                generalize (rs.getD k (0, [])).1 = G at *
                generalize (bs.getD k plc0).c = C1 at *
                generalize (bs.getD k plc0).a = A1 at *
                generalize (bb.getD k plc0).c = C2 at *
                generalize (bb.getD k plc0).a = A2 at *
                have NN := hide NQ
                have hG : (G == G) = true := by simp
                clear NQ NWQ
                go_wp2
                go_quiet ((go_at_call 10; refine (SM _).out.mono ?_; rintro e w' ⟨rfl, rfl⟩; exact ⟨rfl, _, rfl⟩))
                have FIN := hide (below_drewN NN.out nq)
                clear NN SM
                go_wp2
                go_roundw
                case rel => exact ⟨k + 1, by omega, by go_num, FIN.out⟩
                case measure => simp [intOf]; omega
              · obtain rfl : k = 4 := by omega
                have FIN := hide (nxt NW NQ)
                go_wp2
                go_ret
                exact ⟨rfl, FIN.out⟩
    · have u1 : decide ((1048576 : Int) < (X1.length : Int)) = true := by simp; omega
      go_enter Tryd.func3, Tryd.ntmps3
      go_wp2
      go_ret
      exact ⟨rfl, Below.refl _ _⟩
  · have u0 : decide ((1048576 : Int) < (X0.length : Int)) = true := by simp; omega
    go_enter Tryd.func3, Tryd.ntmps3
    go_wp2
    go_ret
    exact ⟨rfl, Below.refl _ _⟩
end Go.Proofs.YtjfggcefdobooaaDoor
