
/-
  The law FnMacKeys.
-/
import Derived.Test.YtljpjbojdekeiaaDoorMkD
import Derived.Test.YtljpjbojdekeiaaDoorHeR
import Derived.Test.YtljpjbojdekeiaaDoorDrK
import Derived.Test.YtljpjbojdekeiaaDoorLwO
import Derived.Test.YtljpjbojdekeiaaDoorLaidH
import Derived.Maps.AppendAt
namespace Go.Proofs.YtljpjbojdekeiaaDoor
set_option maxRecDepth 100000
open Go Go.RowKit

theorem laid_macK {W : World} (h : laidMetH Tryd.prog Rows.fnMacKeysRow.laid W) : HasH W := ⟨start_of (reads_ofH h (by kernel_rfl) (.head _)), steps_of (reads_ofH h (by kernel_rfl) (.tail _ (.head _)))⟩
theorem keyL_len (ks : List Int) : (keyL ks).length ≤ 64 := by
  unfold keyL
  split
  · rw [hash_len32]; decide
  · omega
theorem to64_of {kk : List Int} {j : Nat} (h : kk.length + j = 64) : kk ++ List.replicate j 0 = to64 kk := by
  unfold to64
  rw [List.take_of_length_le (by omega), List.drop_replicate, show 64 - kk.length = j by omega]
theorem to64_self {zs : List Int} (h : zs.length = 64) : to64 zs = zs := by
  unfold to64
  rw [List.take_of_length_le (by omega), List.drop_replicate, h]
  simp
theorem mac_filled (ks ds : List Int) : macL (to64 (keyL ks)) ds = macL ks ds := by
  have e : keyL (to64 (keyL ks)) = to64 (keyL ks) := by
    unfold keyL
    rw [if_neg (by have := to64_len (keyL ks); unfold keyL at this; omega)]
  unfold macL
  rw [e]
  unfold maskL
  rw [to64_self (to64_len _)]
theorem to64_byt {xs : List Int} (h : Byt xs) : Byt (to64 xs) := by
  intro i
  by_cases c : i < 64
  · rw [to64_get xs c]; exact h i
  · rw [List.getD_eq_getElem?_getD, List.getElem?_eq_none (by rw [to64_len]; omega)]
    simp
/-- One byte more, and where the row lies then. -/
theorem append1 (w : World) (i : TypeInfo) (hi : Tryd.prog.info? 5 = some i) (hz : i.zero = some (.int .u8 0)) (hsize : i.size = 1) (hby : i.bytes = 1) (base : Nat) (v : Value) (xs : List Int) (hown : RowB w base v xs) (x : Int) (hl : xs.length ≤ 1048576) (hb : base ≤ w.heap.size) :
    ∃ v' w', (Builtin.append_ #[22, 22] 22 #[v, .slice (some ⟨w.heap.size, 0, none⟩) 1 1]).run Tryd.prog (w.alloc (.cells #[.int .u8 x] 5)) = .ok v' w' ∧ RowB w' base v' (xs ++ [x]) ∧ w.grownBy w' v.ownBlock ∧ (v'.ownBlock = v.ownBlock ∨ v'.ownBlock = some (w.heap.size + 1)) ∧ w.heap.size < w'.heap.size := by
  have na : Below w.heap.size w (w.alloc (.cells #[.int .u8 x] 5)) := (Below.refl _ _).alloc (Nat.le_refl _) _
  have zz : (w.alloc (.cells #[.int .u8 x] 5)).heap.size = w.heap.size + 1 := by simp
  obtain ⟨v', w', h1, h2, h3, _, h5⟩ := run_append_own_at (P := Tryd.prog) (w.alloc (.cells #[.int .u8 x] 5)) base 22 22 5 i (.int .u8 0) 1 1 Tryd.underlying22 hi hz hsize hby rfl (by decide) v xs.length (xs.map (Value.int .u8)) (hown.up na) ⟨w.heap.size, 0, none⟩ 1 1 [.int .u8 x] rfl (by
    intro j u hj
    match j, hj with
    | 0, hj => simp at hj; subst hj; simp [Addr.add]) (by intro u hu; simp at hu; subst hu; rfl) (by unfold maxLen; omega) (by omega) (by omega)
  refine ⟨v', w', h1, ?_, ⟨h3.os, h3.tape, h3.output, by have := h3.size; omega, fun k hk hne => (h3.block k (by omega) hne).trans (na.block k hk)⟩, by rw [zz] at h5; exact h5, by have := h3.size; omega⟩
  show w'.ownsRow base 5 1 v' (xs ++ [x]).length ((xs ++ [x]).map (Value.int .u8))
  simpa using h2
theorem RowB.kept {w w' : World} {base : Nat} {v : Value} {xs : List Int} {row : Option Nat} (h : RowB w base v xs) (g : w.grownBy w' row) (hne : v.ownBlock = none ∨ v.ownBlock ≠ row) : RowB w' base v xs := World.ownsRow.kept h g hne
theorem below_grown {B : Nat} {a w w' : World} {v : Value} {base : Nat} {xs : List Int} (h : Below B a w) (r : RowB w base v xs) (g : w.grownBy w' v.ownBlock) (hb : B ≤ base) (hs : B ≤ w.heap.size) : Below B a w' :=
  h.trans ⟨g.os, g.tape, g.output, g.size, fun k hk => g.block k (by omega) (fun e => by have := (World.ownsRow.lt r k e.symm).1; omega)⟩
/-- Two rows do not lie in one block. -/
def Apart (v u : Value) : Prop := v.ownBlock = none ∨ v.ownBlock ≠ u.ownBlock
set_option maxRecDepth 20000 in
set_option maxHeartbeats 8000000 in
theorem macK_law (w : World) (g : Nat) (a : Option Addr) (ca : Nat) (xs : List Int) (ha : Rd w g a .u8 xs) (hx : Byt xs) (hL : HasH w) :
    Calls Tryd.prog 6 #[.slice a xs.length ca] w fun e w' => e = .returned (.bool true) ∧ Below w.heap.size w w' := by
  obtain ⟨i0, hi, hz0, hz1, hz2⟩ := info_parts Tryd.info5
  by_cases h1 : xs.length ≤ 1048576
  · have t1 : decide ((1048576 : Int) < (xs.length : Int)) = false := by simp; omega
    go_enter Tryd.func6, Tryd.ntmps6
    go_wp2_with fail
    refine (drawMac_any w g a ca xs ha hx h1).mono ?_
    rintro e w1 ⟨ks, ds, a1, a2, c1, c2, g1, g2, rfl, kl, dl, kb, db, ok, od, pk, pd, qk, qd, -, -, n1⟩
    have IM := fun W zs (zb : Byt zs) (zl : zs.length ≤ 1048576) g a c h p g' a' c' h' p' (n : Below w.heap.size w W) => implMac_any W g a c zs h zb p zl g' a' c' ds h' db p' (by omega) (hL.1.up n) (hL.2.up n)
    have kkb := keyL_byt kb
    have kkl := keyL_len ks
    have MF := hide (mac_filled ks ds)
    have ML : Hid ((macL ks ds).length = 32) := hash_len32 _
    have MD : Hid (macL ks ds = hashL32 (maskL (keyL ks) 92 ++ hashL32 (maskL (keyL ks) 54 ++ ds))) := rfl
    obtain ⟨mm, hmm⟩ : ∃ l, l = macL ks ds := ⟨_, rfl⟩
    rw [← hmm] at MF ML MD
    have HMM := hide hmm
    clear hmm
    go_wp2_with fail
    refine (lwCopy_any w1 g1 a1 c1 ks ok.rd pk (by omega)).mono ?_
    rintro e w2 ⟨⟨a3, c3, g3, rfl, o3, p3, q3, r3⟩, n2⟩
    have N2 := nxt n1 n2
    go_wp2_with fail
    refine (lwCopy_any w2 g2 a2 c2 ds (od.up n2).rd pd (by omega)).mono ?_
    rintro e w3 ⟨⟨a4, c4, g4, rfl, o4, p4, q4, r4⟩, n3⟩
    have N3 := nxt N2 n3
    have MM := IM w3 ks kb (by omega) g3 a3 c3 (o3.up n3).rd q3 g4 a4 c4 o4.rd q4 N3
    rw [← HMM.out] at MM
    go_wp2_with fail
    refine MM.mono ?_
    rintro e w4 ⟨⟨a5, c5, g5, rfl, o5, p5, q5, r5⟩, n4⟩
    have N4 := nxt N3 n4
    have od4 := ((od.up n2).up n3).up n4
    have ok4 := ((ok.up n2).up n3).up n4
    clear MM n2 n3 n4 N2 N3 od ok o3 o4 n1 r3 r4 r5 p3 p4
    go_wp2_with fail
    refine (lwCopyO_any w4 g1 a1 c1 ks ok4.rd pk (by omega)).mono ?_
    rintro e w5 ⟨v5, rfl, R5, n5⟩
    have R5 : RowB w5 w4.heap.size v5 ks := R5
    clear ok4
    by_cases hlong : 64 < ks.length
    · have tl : decide ((64 : Int) < (ks.length : Int)) = true := by simp; omega
      have KE : Hid (hashL32 ks = keyL ks) := by show _ = _; unfold keyL; rw [if_pos hlong]
      obtain ⟨a6, c6, g6, rfl, o6, p6, q6, r6⟩ := R5.own
      have HH := implHashR_32 w5 g6 a6 c6 ks o6.rd kb q6 (by omega) (hL.1.up (nxt N4 n5)) (hL.2.up (nxt N4 n5))
      rw [KE.out] at HH
      go_wp2_with fail
      refine HH.mono ?_
      rintro e w6 ⟨⟨v6, rfl, R6⟩, n6⟩
      replace R6 := R6.base n5.size
      have n46 := nxt n5 n6
      clear HH KE R5 o6 n5 n6
      obtain ⟨kk, hkk⟩ : ∃ l, l = keyL ks := ⟨_, rfl⟩
      rw [← hkk] at kkb kkl MF MD R6
      clear hkk
      go_wp2
      go_loopw [6] (fun v wr => ∃ (j : Nat), kk.length + j ≤ 64 ∧ RowB wr w4.heap.size v (kk ++ List.replicate j 0) ∧ Below w4.heap.size w4 wr) (fun v _ => 64 - vlen v)
      case atStart => exact ⟨0, by omega, by simpa using R6, n46⟩
      case round =>
        obtain ⟨j, hj, hown, hN⟩ := hrel
        clear R6 n46
        obtain ⟨a7, c7, g7, rfl, o7, p7, q7, r7⟩ := hown.own
        have zl : (kk ++ List.replicate j 0).length = kk.length + j := by simp
        by_cases hlt : kk.length + j < 64
        · have na : Below wr.heap.size wr (wr.alloc (.cells #[.int .u8 0] 5)) := (Below.refl _ _).alloc (Nat.le_refl _) _
          have Na := nxt hN na
          obtain ⟨v', w2, hap, o2, n2⟩ := append_any (P := Tryd.prog) (wr.alloc (.cells #[.int .u8 0] 5)) 22 i0 Tryd.underlying22 hi hz0 hz1 hz2 w4.heap.size w4.heap.size _ _ (hown.up na) _ _ 1 [0] (blk_lit1 wr .u8 5 0).own0.rd (by simp) (by rw [zl]; simp; omega) (Nat.le_refl _) Na.size
          have N2 := Na.trans n2
          rw [List.append_assoc, ← List.replicate_succ'] at o2
          obtain ⟨a8, c8, g8, rfl, -, p8, q8, r8⟩ := o2.own
          have zl2 : (kk ++ List.replicate (j + 1) 0).length = kk.length + (j + 1) := by simp
          rw [zl] at hap
          rw [zl2] at hap o2
          rw [zl]
          have lt' : ((kk.length : Int) + (j : Int)) < 64 := by omega
          clear hown o7 na Na n2 zl zl2 q7 q8
          go_wp2_with (at_builtin; refine Lib.wpList_append_run _ rfl _ _ 22 22 rfl _ _ rfl rfl _ _ hap ?_)
          clear hap
          go_wp2
          go_roundw
          case rel => exact ⟨j + 1, by omega, o2, N2⟩
          case measure => simp only [vlen_slice]; omega
        · have e64 : kk.length + j = 64 := by omega
          rw [to64_of e64] at hown o7 q7 ⊢
          clear zl hlt
          have zb := to64_byt kkb
          have zlen := hide (to64_len kk)
          have M54 : Hid (maskL (to64 kk) 54 = maskL kk 54) := by show _ = _; unfold maskL; rw [to64_self (to64_len kk)]
          have M92 : Hid (maskL (to64 kk) 92 = maskL kk 92) := by show _ = _; unfold maskL; rw [to64_self (to64_len kk)]
          generalize to64 kk = zs at *
          have z64 : decide ((zs.length : Int) < 64) = false := by rw [zlen.out]; rfl
          have l32 : ((mm.length : Int) != 32) = false := by rw [ML.out]; rfl
          have NW := nxt N4 hN
          have odW := od4.up hN
          have omW := o5.up hN
          have zs64 : zs.length ≤ 1048576 := by rw [zlen.out]; decide
          go_wp2_with fail
          refine (lwCopy_any wr g7 a7 c7 zs o7.rd p7 zs64).mono ?_
          rintro e w8 ⟨⟨a8, c8, g8, rfl, o8, p8, q8, r8⟩, n8⟩
          go_wp2_with fail
          refine (lwCopy_any w8 g2 a2 c2 ds (odW.up n8).rd pd (by omega)).mono ?_
          rintro e w9 ⟨⟨a9, c9, g9, rfl, o9, p9, q9, r9⟩, n9⟩
          have MM := IM w9 zs zb zs64 g8 a8 c8 (o8.up n9).rd q8 g9 a9 c9 o9.rd q9 (nxt (nxt NW n8) n9)
          rw [MF.out] at MM
          go_wp2_with fail
          refine MM.mono ?_
          rintro e wA ⟨⟨aA, cA, gA, rfl, oA, pA, qA, rA⟩, nA⟩
          have n7A := nxt (nxt n8 n9) nA
          have omA := omW.up n7A
          go_wp2_with fail
          refine (lwSame_same wA _ _ _ _ _ _ mm omA.rd oA.rd).mono ?_
          rintro e wA' ⟨rfl, rfl⟩
          have NA := nxt NW n7A
          have odA := odW.up n7A
          have ozA := o7.up n7A
          clear MM n8 n9 nA o8 o9 oA IM omW odW o7 hown NW z64 l32 r9 rA p8 p9 pA q8 q9 qA hN od4 o5 n7A r8
          go_upto_region 15 with fail
          have R7 := RowB.lit0 wA'
          have nb : Below wA'.heap.size wA' (wA'.alloc (.cells #[] 5)) := (Below.refl _ _).alloc (Nat.le_refl _) _
          have zb1 : (wA'.alloc (.cells #[] 5)).heap.size = wA'.heap.size + 1 := by simp
          generalize wA'.alloc (.cells #[] 5) = wB at *
          have R8 := RowB.lit0 wB
          have nc : Below wB.heap.size wB (wB.alloc (.cells #[] 5)) := (Below.refl _ _).alloc (Nat.le_refl _) _
          have R7' := R7.up nc
          have nbc := nxt nb nc
          have R8' := R8.base nb.size
          rw [zb1] at R8'
          generalize wB.alloc (.cells #[] 5) = wC at *
          clear R7 R8 nb nc
          go_wp2
          go_loopw [7, 8, 9] (fun v u i wr => ∃ (j : Nat) (v7 v8 : Value), v7 = v ∧ v8 = u ∧ j ≤ 64 ∧ i = .int .i64 j ∧ RowB wr wA'.heap.size v ((maskL zs 54).take j) ∧ RowB wr wA'.heap.size u ((maskL zs 92).take j) ∧ Apart v u ∧ Below wA'.heap.size wA' wr) (fun _ _ i _ => 64 - (intOf i).toNat)
          case atStart => exact ⟨0, _, _, rfl, rfl, by omega, rfl, R7', R8', .inr (by simp [Value.ownBlock]), nbc⟩
          case round =>
            obtain ⟨j, v7, v8, ev7, ev8, hj, rfl, X7, X8, AP, hN⟩ := hrel
            subst ev7 ev8
            clear R7' R8' nbc
            by_cases hlt : j < 64
            · have e7 := maskL_take zs 54 hlt
              have e8 := maskL_take zs 92 hlt
              have l7 : ((maskL zs 54).take j).length ≤ 1048576 := by rw [List.length_take]; omega
              have l8 : ((maskL zs 92).take j).length ≤ 1048576 := by rw [List.length_take]; omega
              obtain ⟨v7', wD, hap7, Y7, G7, own7, s7⟩ := append1 wr i0 hi hz0 hz1 hz2 wA'.heap.size v7 _ X7 (mx (zs.getD j 0) 54) l7 hN.size
              have ap1 : v8.ownBlock = none ∨ v8.ownBlock ≠ v7.ownBlock := by
                rcases AP with h | h
                · by_cases c : v8.ownBlock = none
                  · exact .inl c
                  · exact .inr (by rw [h]; exact c)
                · exact .inr (fun e => h e.symm)
              have Y8 := X8.kept G7 ap1
              have hN7 := below_grown hN X7 G7 (Nat.le_refl _) hN.size
              have lt8 := fun k (h : v8.ownBlock = some k) => (World.ownsRow.lt X8 k h).2
              obtain ⟨v8', wE, hap8, Z8, G8, own8, s8⟩ := append1 wD i0 hi hz0 hz1 hz2 wA'.heap.size v8 _ Y8 (mx (zs.getD j 0) 92) l8 hN7.size
              have lt7 := fun k (h : v7'.ownBlock = some k) => (World.ownsRow.lt Y7 k h).2
              have ap2 : v7'.ownBlock = none ∨ v7'.ownBlock ≠ v8.ownBlock := by
                rcases own7 with h | h
                · rw [h]; exact AP
                · exact .inr (fun e => by rw [h] at e; have := lt8 _ e.symm; omega)
              have Z7 := Y7.kept G8 ap2
              have hN8 := below_grown hN7 Y8 G8 (Nat.le_refl _) hN7.size
              have ap3 : Apart v7' v8' := by
                rcases own8 with h | h
                · show v7'.ownBlock = none ∨ v7'.ownBlock ≠ v8'.ownBlock
                  rw [h]; exact ap2
                · exact .inr (fun e => by rw [h] at e; have := lt7 _ e; omega)
              rw [← e7] at Z7
              rw [← e8] at Z8
              obtain ⟨off, ea, hc⟩ := (ozA.up hN).rd (by rw [zlen.out]; omega)
              have ck := hc j (by rw [zlen.out]; exact hlt)
              obtain ⟨off', ea', hc'⟩ := (ozA.up hN7).rd (by rw [zlen.out]; omega)
              have ck' := hc' j (by rw [zlen.out]; exact hlt)
              have eo : off' = off := by rw [ea] at ea'; simpa using ea'.symm
              rw [eo] at ck'
              subst ea
              have jz : (j : Int) < (zs.length : Int) := by rw [zlen.out]; omega
              have j64 : (j : Int) < 64 := by omega
              unfold mx at hap7 hap8
              have zj := zb j
              clear hc hc' ea' eo e7 e8 X7 X8 Y7 Y8 G7 G8 own7 own8 lt7 lt8 ap1 ap2 AP l7 l8
              generalize zs.getD j 0 = zv at *
              have HZ := zlen
              go_wp2_with (at_builtin; first | (refine Lib.wpList_append_run _ rfl _ _ 22 22 rfl _ _ rfl rfl _ _ hap7 ?_) | (refine Lib.wpList_append_run _ rfl _ _ 22 22 rfl _ _ rfl rfl _ _ hap8 ?_))
              clear hap7 hap8
              go_roundw
              case rel => exact ⟨j + 1, _, _, rfl, rfl, by omega, by go_num, Z7, Z8, ap3, hN8⟩
              case measure => simp [intOf]; omega
            · obtain rfl : j = 64 := by omega
              rw [List.take_of_length_le (by rw [maskL_len]; omega)] at X7 X8
              have b7 := maskL_byt zb (m := 54) (.inl rfl)
              have b8 := maskL_byt zb (m := 92) (.inr rfl)
              have l7 := hide (maskL_len zs 54)
              have l8 := hide (maskL_len zs 92)
              rw [M54.out] at X7 b7 l7
              rw [M92.out] at X8 b8 l8
              generalize maskL kk 54 = k1 at *
              generalize maskL kk 92 = k2 at *
              obtain ⟨aD, cD, gD, rfl, oD, pD, qD, rD⟩ := X7.own
              obtain ⟨aE, cE, gE, rfl, oE, pE, qE, rE⟩ := X8.own
              have NR := nxt NA hN
              have omR := omA.up hN
              have odR := odA.up hN
              clear X7 X8 AP hN omA odA ozA M54 M92
              go_wp2_with fail
              refine (startD wr (hL.1.up NR)).mono ?_
              rintro e x1 ⟨⟨s1, rfl, d1⟩, m1⟩
              have P1 := nxt NR m1
              go_wp2_with fail
              refine (moreD x1 s1 _ [] d1 byt_nil gD aD cD k1 (oD.up m1).rd b7 qD (by rw [l7.out]; simp) (hL.2.up P1)).mono ?_
              rintro e x2 ⟨⟨s2, rfl, d2⟩, m2⟩
              rw [List.nil_append] at d2
              have P2 := nxt P1 m2
              have od2 := (odR.up m1).up m2
              go_wp2_with fail
              refine (lwCopy_any x2 g2 a2 c2 ds od2.rd pd (by omega)).mono ?_
              rintro e x3 ⟨⟨aF, cF, gF, rfl, oF, pF, qF, rF⟩, m3⟩
              have P3 := nxt P2 m3
              go_wp2_with fail
              refine (moreD x3 s2 _ k1 (d2.up m3) b7 gF aF cF ds oF.rd db qF (by rw [l7.out]; omega) (hL.2.up P3)).mono ?_
              rintro e x4 ⟨⟨s4, rfl, d4⟩, m4⟩
              have P4 := nxt P3 m4
              have b4 := byt_apd b7 db
              go_wp2_with fail
              refine (endD x4 s4 _ (k1 ++ ds) d4 b4 (by rw [List.length_append, l7.out]; omega) (hL.2.up P4)).mono ?_
              rintro e x5 ⟨⟨aG, cG, gG, rfl, oG, pG, qG, rG⟩, m5⟩
              have P5 := nxt P4 m5
              have bG := hash_byt32 (k1 ++ ds)
              have lG := hide (hash_len32 (k1 ++ ds))
              generalize hashL32 (k1 ++ ds) = hi5 at *
              have oE5 := ((((oE.up m1).up m2).up m3).up m4).up m5
              have om5 := ((((omR.up m1).up m2).up m3).up m4).up m5
              clear d1 d2 d4 b4 m1 m2 m3 m4 m5 P1 P2 P3 P4 od2 oD oE oF odR omR
              go_wp2_with fail
              refine (startD x5 (hL.1.up P5)).mono ?_
              rintro e y1 ⟨⟨s1, rfl, d1⟩, m1⟩
              have P1 := nxt P5 m1
              go_wp2_with fail
              refine (moreD y1 s1 _ [] d1 byt_nil gE aE cE k2 (oE5.up m1).rd b8 qE (by rw [l8.out]; simp) (hL.2.up P1)).mono ?_
              rintro e y2 ⟨⟨s2, rfl, d2⟩, m2⟩
              rw [List.nil_append] at d2
              have P2 := nxt P1 m2
              go_wp2_with fail
              refine (moreD y2 s2 _ k2 d2 b8 gG aG cG hi5 ((oG.up m1).up m2).rd bG qG (by rw [l8.out, lG.out]; omega) (hL.2.up P2)).mono ?_
              rintro e y3 ⟨⟨s3, rfl, d3⟩, m3⟩
              have P3 := nxt P2 m3
              have b3 := byt_apd b8 bG
              have EN := endD y3 s3 _ (k2 ++ hi5) d3 b3 (by rw [List.length_append, l8.out, lG.out]; omega) (hL.2.up P3)
              rw [← MD.out] at EN
              go_wp2_with fail
              refine EN.mono ?_
              rintro e y4 ⟨⟨aH, cH, gH, rfl, oH, pH, qH, rH⟩, m4⟩
              have P4 := nxt P3 m4
              go_wp2_with fail
              refine (lwSame_same y4 _ _ _ _ _ _ mm ((((om5.up m1).up m2).up m3).up m4).rd oH.rd).mono ?_
              rintro e y4' ⟨rfl, rfl⟩
              go_wp2
              go_ret
              exact ⟨rfl, P4⟩
    · have tl : decide ((64 : Int) < (ks.length : Int)) = false := by simp; omega
      have KE : Hid (ks = keyL ks) := by show _ = _; unfold keyL; rw [if_neg hlong]
      obtain ⟨a6, c6, g6, rfl, -, p6, q6, r6⟩ := R5.own
      have R6 : RowB w5 w4.heap.size (.slice a6 ks.length c6) (keyL ks) := by rw [← KE.out]; exact R5
      have n46 := n5
      clear KE R5 n5
      go_upto_region 8 with fail
      obtain ⟨kk, hkk⟩ : ∃ l, l = keyL ks := ⟨_, rfl⟩
      rw [← hkk] at kkb kkl MF MD R6
      clear hkk
      go_wp2
      go_loopw [6] (fun v wr => ∃ (j : Nat), kk.length + j ≤ 64 ∧ RowB wr w4.heap.size v (kk ++ List.replicate j 0) ∧ Below w4.heap.size w4 wr) (fun v _ => 64 - vlen v)
      case atStart => exact ⟨0, by omega, by simpa using R6, n46⟩
      case round =>
        obtain ⟨j, hj, hown, hN⟩ := hrel
        clear R6 n46
        obtain ⟨a7, c7, g7, rfl, o7, p7, q7, r7⟩ := hown.own
        have zl : (kk ++ List.replicate j 0).length = kk.length + j := by simp
        by_cases hlt : kk.length + j < 64
        · have na : Below wr.heap.size wr (wr.alloc (.cells #[.int .u8 0] 5)) := (Below.refl _ _).alloc (Nat.le_refl _) _
          have Na := nxt hN na
          obtain ⟨v', w2, hap, o2, n2⟩ := append_any (P := Tryd.prog) (wr.alloc (.cells #[.int .u8 0] 5)) 22 i0 Tryd.underlying22 hi hz0 hz1 hz2 w4.heap.size w4.heap.size _ _ (hown.up na) _ _ 1 [0] (blk_lit1 wr .u8 5 0).own0.rd (by simp) (by rw [zl]; simp; omega) (Nat.le_refl _) Na.size
          have N2 := Na.trans n2
          rw [List.append_assoc, ← List.replicate_succ'] at o2
          obtain ⟨a8, c8, g8, rfl, -, p8, q8, r8⟩ := o2.own
          have zl2 : (kk ++ List.replicate (j + 1) 0).length = kk.length + (j + 1) := by simp
          rw [zl] at hap
          rw [zl2] at hap o2
          rw [zl]
          have lt' : ((kk.length : Int) + (j : Int)) < 64 := by omega
          clear hown o7 na Na n2 zl zl2 q7 q8
          go_wp2_with (at_builtin; refine Lib.wpList_append_run _ rfl _ _ 22 22 rfl _ _ rfl rfl _ _ hap ?_)
          clear hap
          go_wp2
          go_roundw
          case rel => exact ⟨j + 1, by omega, o2, N2⟩
          case measure => simp only [vlen_slice]; omega
        · have e64 : kk.length + j = 64 := by omega
          rw [to64_of e64] at hown o7 q7 ⊢
          clear zl hlt
          have zb := to64_byt kkb
          have zlen := hide (to64_len kk)
          have M54 : Hid (maskL (to64 kk) 54 = maskL kk 54) := by show _ = _; unfold maskL; rw [to64_self (to64_len kk)]
          have M92 : Hid (maskL (to64 kk) 92 = maskL kk 92) := by show _ = _; unfold maskL; rw [to64_self (to64_len kk)]
          generalize to64 kk = zs at *
          have z64 : decide ((zs.length : Int) < 64) = false := by rw [zlen.out]; rfl
          have l32 : ((mm.length : Int) != 32) = false := by rw [ML.out]; rfl
          have NW := nxt N4 hN
          have odW := od4.up hN
          have omW := o5.up hN
          have zs64 : zs.length ≤ 1048576 := by rw [zlen.out]; decide
          go_wp2_with fail
          refine (lwCopy_any wr g7 a7 c7 zs o7.rd p7 zs64).mono ?_
          rintro e w8 ⟨⟨a8, c8, g8, rfl, o8, p8, q8, r8⟩, n8⟩
          go_wp2_with fail
          refine (lwCopy_any w8 g2 a2 c2 ds (odW.up n8).rd pd (by omega)).mono ?_
          rintro e w9 ⟨⟨a9, c9, g9, rfl, o9, p9, q9, r9⟩, n9⟩
          have MM := IM w9 zs zb zs64 g8 a8 c8 (o8.up n9).rd q8 g9 a9 c9 o9.rd q9 (nxt (nxt NW n8) n9)
          rw [MF.out] at MM
          go_wp2_with fail
          refine MM.mono ?_
          rintro e wA ⟨⟨aA, cA, gA, rfl, oA, pA, qA, rA⟩, nA⟩
          have n7A := nxt (nxt n8 n9) nA
          have omA := omW.up n7A
          go_wp2_with fail
          refine (lwSame_same wA _ _ _ _ _ _ mm omA.rd oA.rd).mono ?_
          rintro e wA' ⟨rfl, rfl⟩
          have NA := nxt NW n7A
          have odA := odW.up n7A
          have ozA := o7.up n7A
          clear MM n8 n9 nA o8 o9 oA IM omW odW o7 hown NW z64 l32 r9 rA p8 p9 pA q8 q9 qA hN od4 o5 n7A r8
          go_upto_region 15 with fail
          have R7 := RowB.lit0 wA'
          have nb : Below wA'.heap.size wA' (wA'.alloc (.cells #[] 5)) := (Below.refl _ _).alloc (Nat.le_refl _) _
          have zb1 : (wA'.alloc (.cells #[] 5)).heap.size = wA'.heap.size + 1 := by simp
          generalize wA'.alloc (.cells #[] 5) = wB at *
          have R8 := RowB.lit0 wB
          have nc : Below wB.heap.size wB (wB.alloc (.cells #[] 5)) := (Below.refl _ _).alloc (Nat.le_refl _) _
          have R7' := R7.up nc
          have nbc := nxt nb nc
          have R8' := R8.base nb.size
          rw [zb1] at R8'
          generalize wB.alloc (.cells #[] 5) = wC at *
          clear R7 R8 nb nc
          go_wp2
          go_loopw [7, 8, 9] (fun v u i wr => ∃ (j : Nat) (v7 v8 : Value), v7 = v ∧ v8 = u ∧ j ≤ 64 ∧ i = .int .i64 j ∧ RowB wr wA'.heap.size v ((maskL zs 54).take j) ∧ RowB wr wA'.heap.size u ((maskL zs 92).take j) ∧ Apart v u ∧ Below wA'.heap.size wA' wr) (fun _ _ i _ => 64 - (intOf i).toNat)
          case atStart => exact ⟨0, _, _, rfl, rfl, by omega, rfl, R7', R8', .inr (by simp [Value.ownBlock]), nbc⟩
          case round =>
            obtain ⟨j, v7, v8, ev7, ev8, hj, rfl, X7, X8, AP, hN⟩ := hrel
            subst ev7 ev8
            clear R7' R8' nbc
            by_cases hlt : j < 64
            · have e7 := maskL_take zs 54 hlt
              have e8 := maskL_take zs 92 hlt
              have l7 : ((maskL zs 54).take j).length ≤ 1048576 := by rw [List.length_take]; omega
              have l8 : ((maskL zs 92).take j).length ≤ 1048576 := by rw [List.length_take]; omega
              obtain ⟨v7', wD, hap7, Y7, G7, own7, s7⟩ := append1 wr i0 hi hz0 hz1 hz2 wA'.heap.size v7 _ X7 (mx (zs.getD j 0) 54) l7 hN.size
              have ap1 : v8.ownBlock = none ∨ v8.ownBlock ≠ v7.ownBlock := by
                rcases AP with h | h
                · by_cases c : v8.ownBlock = none
                  · exact .inl c
                  · exact .inr (by rw [h]; exact c)
                · exact .inr (fun e => h e.symm)
              have Y8 := X8.kept G7 ap1
              have hN7 := below_grown hN X7 G7 (Nat.le_refl _) hN.size
              have lt8 := fun k (h : v8.ownBlock = some k) => (World.ownsRow.lt X8 k h).2
              obtain ⟨v8', wE, hap8, Z8, G8, own8, s8⟩ := append1 wD i0 hi hz0 hz1 hz2 wA'.heap.size v8 _ Y8 (mx (zs.getD j 0) 92) l8 hN7.size
              have lt7 := fun k (h : v7'.ownBlock = some k) => (World.ownsRow.lt Y7 k h).2
              have ap2 : v7'.ownBlock = none ∨ v7'.ownBlock ≠ v8.ownBlock := by
                rcases own7 with h | h
                · rw [h]; exact AP
                · exact .inr (fun e => by rw [h] at e; have := lt8 _ e.symm; omega)
              have Z7 := Y7.kept G8 ap2
              have hN8 := below_grown hN7 Y8 G8 (Nat.le_refl _) hN7.size
              have ap3 : Apart v7' v8' := by
                rcases own8 with h | h
                · show v7'.ownBlock = none ∨ v7'.ownBlock ≠ v8'.ownBlock
                  rw [h]; exact ap2
                · exact .inr (fun e => by rw [h] at e; have := lt7 _ e; omega)
              rw [← e7] at Z7
              rw [← e8] at Z8
              obtain ⟨off, ea, hc⟩ := (ozA.up hN).rd (by rw [zlen.out]; omega)
              have ck := hc j (by rw [zlen.out]; exact hlt)
              obtain ⟨off', ea', hc'⟩ := (ozA.up hN7).rd (by rw [zlen.out]; omega)
              have ck' := hc' j (by rw [zlen.out]; exact hlt)
              have eo : off' = off := by rw [ea] at ea'; simpa using ea'.symm
              rw [eo] at ck'
              subst ea
              have jz : (j : Int) < (zs.length : Int) := by rw [zlen.out]; omega
              have j64 : (j : Int) < 64 := by omega
              unfold mx at hap7 hap8
              have zj := zb j
              clear hc hc' ea' eo e7 e8 X7 X8 Y7 Y8 G7 G8 own7 own8 lt7 lt8 ap1 ap2 AP l7 l8
              generalize zs.getD j 0 = zv at *
              have HZ := zlen
              go_wp2_with (at_builtin; first | (refine Lib.wpList_append_run _ rfl _ _ 22 22 rfl _ _ rfl rfl _ _ hap7 ?_) | (refine Lib.wpList_append_run _ rfl _ _ 22 22 rfl _ _ rfl rfl _ _ hap8 ?_))
              clear hap7 hap8
              go_roundw
              case rel => exact ⟨j + 1, _, _, rfl, rfl, by omega, by go_num, Z7, Z8, ap3, hN8⟩
              case measure => simp [intOf]; omega
            · obtain rfl : j = 64 := by omega
              rw [List.take_of_length_le (by rw [maskL_len]; omega)] at X7 X8
              have b7 := maskL_byt zb (m := 54) (.inl rfl)
              have b8 := maskL_byt zb (m := 92) (.inr rfl)
              have l7 := hide (maskL_len zs 54)
              have l8 := hide (maskL_len zs 92)
              rw [M54.out] at X7 b7 l7
              rw [M92.out] at X8 b8 l8
              generalize maskL kk 54 = k1 at *
              generalize maskL kk 92 = k2 at *
              obtain ⟨aD, cD, gD, rfl, oD, pD, qD, rD⟩ := X7.own
              obtain ⟨aE, cE, gE, rfl, oE, pE, qE, rE⟩ := X8.own
              have NR := nxt NA hN
              have omR := omA.up hN
              have odR := odA.up hN
              clear X7 X8 AP hN omA odA ozA M54 M92
              go_wp2_with fail
              refine (startD wr (hL.1.up NR)).mono ?_
              rintro e x1 ⟨⟨s1, rfl, d1⟩, m1⟩
              have P1 := nxt NR m1
              go_wp2_with fail
              refine (moreD x1 s1 _ [] d1 byt_nil gD aD cD k1 (oD.up m1).rd b7 qD (by rw [l7.out]; simp) (hL.2.up P1)).mono ?_
              rintro e x2 ⟨⟨s2, rfl, d2⟩, m2⟩
              rw [List.nil_append] at d2
              have P2 := nxt P1 m2
              have od2 := (odR.up m1).up m2
              go_wp2_with fail
              refine (lwCopy_any x2 g2 a2 c2 ds od2.rd pd (by omega)).mono ?_
              rintro e x3 ⟨⟨aF, cF, gF, rfl, oF, pF, qF, rF⟩, m3⟩
              have P3 := nxt P2 m3
              go_wp2_with fail
              refine (moreD x3 s2 _ k1 (d2.up m3) b7 gF aF cF ds oF.rd db qF (by rw [l7.out]; omega) (hL.2.up P3)).mono ?_
              rintro e x4 ⟨⟨s4, rfl, d4⟩, m4⟩
              have P4 := nxt P3 m4
              have b4 := byt_apd b7 db
              go_wp2_with fail
              refine (endD x4 s4 _ (k1 ++ ds) d4 b4 (by rw [List.length_append, l7.out]; omega) (hL.2.up P4)).mono ?_
              rintro e x5 ⟨⟨aG, cG, gG, rfl, oG, pG, qG, rG⟩, m5⟩
              have P5 := nxt P4 m5
              have bG := hash_byt32 (k1 ++ ds)
              have lG := hide (hash_len32 (k1 ++ ds))
              generalize hashL32 (k1 ++ ds) = hi5 at *
              have oE5 := ((((oE.up m1).up m2).up m3).up m4).up m5
              have om5 := ((((omR.up m1).up m2).up m3).up m4).up m5
              clear d1 d2 d4 b4 m1 m2 m3 m4 m5 P1 P2 P3 P4 od2 oD oE oF odR omR
              go_wp2_with fail
              refine (startD x5 (hL.1.up P5)).mono ?_
              rintro e y1 ⟨⟨s1, rfl, d1⟩, m1⟩
              have P1 := nxt P5 m1
              go_wp2_with fail
              refine (moreD y1 s1 _ [] d1 byt_nil gE aE cE k2 (oE5.up m1).rd b8 qE (by rw [l8.out]; simp) (hL.2.up P1)).mono ?_
              rintro e y2 ⟨⟨s2, rfl, d2⟩, m2⟩
              rw [List.nil_append] at d2
              have P2 := nxt P1 m2
              go_wp2_with fail
              refine (moreD y2 s2 _ k2 d2 b8 gG aG cG hi5 ((oG.up m1).up m2).rd bG qG (by rw [l8.out, lG.out]; omega) (hL.2.up P2)).mono ?_
              rintro e y3 ⟨⟨s3, rfl, d3⟩, m3⟩
              have P3 := nxt P2 m3
              have b3 := byt_apd b8 bG
              have EN := endD y3 s3 _ (k2 ++ hi5) d3 b3 (by rw [List.length_append, l8.out, lG.out]; omega) (hL.2.up P3)
              rw [← MD.out] at EN
              go_wp2_with fail
              refine EN.mono ?_
              rintro e y4 ⟨⟨aH, cH, gH, rfl, oH, pH, qH, rH⟩, m4⟩
              have P4 := nxt P3 m4
              go_wp2_with fail
              refine (lwSame_same y4 _ _ _ _ _ _ mm ((((om5.up m1).up m2).up m3).up m4).rd oH.rd).mono ?_
              rintro e y4' ⟨rfl, rfl⟩
              go_wp2
              go_ret
              exact ⟨rfl, P4⟩
  · have t1 : decide ((1048576 : Int) < (xs.length : Int)) = true := by simp; omega
    go_enter Tryd.func6, Tryd.ntmps6
    go_wp2
    go_ret
    exact ⟨rfl, Below.refl _ _⟩
end Go.Proofs.YtljpjbojdekeiaaDoor
