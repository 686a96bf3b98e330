
/-
  The model's Expand.
-/
import Derived.Test.YtnfciobpfiibcaaDoorXcF
namespace Go.Proofs.YtnfciobpfiibcaaDoor
set_option maxRecDepth 100000
open Go Go.RowKit

/-- An append, and that it turns its own row alone. -/
theorem append_anyG {P : Program} (w : World) (ty : TypeId) (i : TypeInfo) (ht : P.underlying 22 = some (.slice 5)) (hi : P.info? 5 = some i) (hz : i.zero = some (.int .u8 0)) (hsize : i.size = 1) (hby : i.bytes = 1)
    (base : Nat) (v : Value) (xs : List Int) (hown : RowB w base v xs) (g : Nat) (a : Option Addr) (c : Nat) (us : List Int) (hr : Rd w g a .u8 us) (hc : a = none → c = 0) (hl : xs.length + us.length ≤ 1099511627776) (hbase : base ≤ w.heap.size) :
    ∃ v' w', (Builtin.append_ #[22, 22] ty #[v, .slice a us.length c]).run P w = .ok v' w' ∧ RowB w' base v' (xs ++ us) ∧ w.grownBy w' v.ownBlock := by
  cases a with
  | none =>
    obtain rfl : us = [] := by
      by_cases h0 : 0 < us.length
      · obtain ⟨off, h, _⟩ := hr h0
        simp at h
      · exact List.eq_nil_of_length_eq_zero (by omega)
    obtain rfl := hc rfl
    exact ⟨v, w, run_append_owned_none (P := P) (w := w) base 22 ty 5 i 1 ht hi v _ _ hown, by rw [List.append_nil]; exact hown, ⟨rfl, rfl, rfl, Nat.le_refl _, fun _ _ _ => rfl⟩⟩
  | some ad =>
    have hcell : ∀ j u, (us.map (Value.int .u8))[j]? = some u → w.cell? (ad.add j) = some u := by
      intro j u hj
      have hjl : j < us.length := by
        have := (List.getElem?_eq_some_iff.1 hj).1
        simpa using this
      obtain ⟨off, ha, hcc⟩ := hr (by omega)
      simp only [Option.some.injEq] at ha
      subst ha
      rw [Addr.add_mid, hcc j hjl]
      simpa [hjl] using hj
    have hone : ∀ u ∈ us.map (Value.int .u8), u.oneCell' = true := by
      intro u hu
      obtain ⟨x, _, rfl⟩ := List.mem_map.1 hu
      rfl
    obtain ⟨v', w', h1, h2, h3, _⟩ := run_append_own (P := P) w base 22 ty 5 i (.int .u8 0) 1 1 ht hi hz hsize hby rfl (by decide) v xs.length (xs.map (Value.int .u8)) hown ad us.length c (us.map (Value.int .u8)) (by simp) hcell hone (by unfold maxLen; omega) (by omega) hbase
    refine ⟨v', w', h1, ?_, h3⟩
    show w'.ownsRow base 5 1 v' (xs ++ us).length ((xs ++ us).map (Value.int .u8))
    rw [List.length_append, List.map_append]
    exact h2
set_option maxHeartbeats 8000000 in
theorem specExpand_any (w : World) (g : Nat) (a : Option Addr) (c : Nat) (ks : List Int) (hr : Rd w g a .u8 ks) (hk : Byt ks) (hc : a = none → c = 0) (hn : ks.length ≤ 1048576) (gd : Nat) (ad : Option Addr) (cd : Nat) (inf : List Int) (hd : Rd w gd ad .u8 inf) (hx : Byt inf) (hcd : ad = none → cd = 0) (hnd : inf.length ≤ 1048576) (n : Int) :
    Calls Tryd.prog 56 #[.slice a ks.length c, .slice ad inf.length cd, .int .i64 n] w fun e w' => NewRow w.heap.size w' e .u8 (expA ks inf n) ∧ Below w.heap.size w w' := by
  obtain ⟨i0, hi, hz0, hz1, hz2⟩ := info_parts Tryd.info5
  have hal : Below w.heap.size w (w.alloc (.cells #[] 5)) := (Below.refl _ _).alloc (Nat.le_refl _) _
  by_cases c0 : 0 ≤ n
  · have t0 : decide (n < 0) = false := by simp; omega
    by_cases c1 : n ≤ 8160
    · have t1 : decide (8160 < n) = false := by simp; omega
      obtain ⟨N, rfl⟩ := Int.eq_ofNat_of_zero_le c0
      have hN : N ≤ 8160 := by omega
      by_cases c2 : N ≤ 32
      · have t2 : decide ((N : Int) ≤ 32) = true := by simp; omega
        have LP := hide (l7Piece_one w g a c ks hr hk hc hn gd ad cd inf hd hx hcd hnd)
        have EE : Hid (expA ks inf (N : Int) = (tM ks inf 1).take N) := by
          show _ = _
          rw [expA_of ks inf hN]
          unfold expL
          by_cases z : N = 0
          · subst z; rfl
          · rw [show (N + 31) / 32 = 1 by omega]; rfl
        have L1 := hide (tM_len ks inf (j := 1) (by omega))
        obtain ⟨rs, hrs⟩ : ∃ l, l = expA ks inf (N : Int) := ⟨_, rfl⟩
        rw [← hrs] at EE ⊢
        clear hrs
        generalize tM ks inf 1 = T at *
        go_enter Tryd.func56, Tryd.ntmps56
        go_wp2_with fail
        refine LP.out.mono ?_
        rintro r w1 ⟨⟨a1, c1', g1, rfl, o1, p1, q1, r1⟩, n1⟩
        have nc : (N : Int) ≤ (c1' : Int) := by have := L1.out; omega
        have o2 := o1.take N
        rw [← EE.out] at o2
        have RL : Hid (rs.length = N) := by show _ = _; rw [EE.out, List.length_take, L1.out]; omega
        clear LP o1 EE
        go_wp2
        go_ret
        exact ⟨⟨a1, c1', g1, by rw [RL.out]; rfl, o2, p1, by rw [RL.out]; omega, r1⟩, n1⟩
      · have t2 : decide ((N : Int) ≤ 32) = false := by simp; omega
        obtain ⟨rs, hrs⟩ : ∃ l, l = expA ks inf (N : Int) := ⟨_, rfl⟩
        have HR : Hid (rs = expL ks inf N) := by show _ = _; rw [hrs, expA_of ks inf hN]
        have RL : Hid (rs.length = N) := by show _ = _; rw [HR.out, expL_len]
        rw [← hrs]
        clear hrs
        go_enter Tryd.func56, Tryd.ntmps56
        go_upto_region 8 with fail
        have R7 := RowB.lit0 w
        generalize w.alloc (.cells #[] 5) = wa at *
        have nb : Below wa.heap.size wa (wa.alloc (.cells #[] 5)) := (Below.refl _ _).alloc (Nat.le_refl _) _
        have Rb := R7.up nb
        have Nb := nxt hal nb
        generalize wa.alloc (.cells #[] 5) = wb at *
        clear R7 nb hal
        go_wp2
        go_loopw [7, 8, 9] (fun v u i wr => ∃ (j c2 g2 : Nat) (b2 : Option Addr), i = .int .i64 ((j + 1 : Nat) : Int) ∧ 32 * j < N + 32 ∧ RowB wr w.heap.size v (catT ks inf j) ∧ u = .slice b2 (tM ks inf j).length c2 ∧ Rd wr g2 b2 .u8 (tM ks inf j) ∧ (b2 = none → c2 = 0) ∧ Below w.heap.size w wr) (fun _ _ i _ => N + 64 - 32 * (intOf i).toNat)
        case atStart => exact ⟨0, _, 0, _, rfl, by omega, Rb, rfl, Rd.nil _ _ _ _, by simp, Nb⟩
        case round =>
          obtain ⟨j, c2', g2, b2, rfl, hj, R0, rfl, r2, p2, hN0⟩ := hrel
          clear Rb Nb
          have lc := hide (catT_len ks inf j)
          obtain ⟨a5, c5, g5, rfl, o5, p5, q5, r5⟩ := R0.own
          by_cases hlt : 32 * j < N
          · have tl : (tM ks inf j).length ≤ 32 := by unfold tM; rw [pT_len]; split <;> omega
            have tb := tM_byt ks inf j
            have TS := hide (tM_succ ks inf j)
            have CS : Hid (catT ks inf (j + 1) = catT ks inf j ++ tM ks inf (j + 1)) := rfl
            have TL := hide (tM_len ks inf (j := j + 1) (by omega))
            generalize tM ks inf j = T at *
            have CP := hide (l1Copy_row wr g2 b2 c2' T r2 p2 (by omega))
            have lt' : decide ((catT ks inf j).length < N) = true := by rw [lc.out]; simp; omega
            have jm : ((j + 1 : Nat) : Int) % 256 = ((j + 1 : Nat) : Int) := by omega
            have jb : 0 ≤ ((j + 1 : Nat) : Int) ∧ ((j + 1 : Nat) : Int) < 256 := by omega
            generalize hjj : ((j + 1 : Nat) : Int) = jj at *
            generalize catT ks inf j = CT at *
            go_wp2_with fail
            refine CP.out.mono ?_
            rintro r w1 ⟨v1, rfl, R1, n1⟩
            have N1 := nxt hN0 n1
            obtain ⟨v2, w2, hap2, R2, n2⟩ := append_any (P := Tryd.prog) w1 22 i0 Tryd.underlying22 hi hz0 hz1 hz2 wr.heap.size wr.heap.size _ T R1 gd ad cd inf (hd.up N1) hcd (by omega) (Nat.le_refl _) n1.size
            have n12 : Below wr.heap.size wr w2 := n1.trans n2
            have na : Below w2.heap.size w2 (w2.alloc (.cells #[.int .u8 jj] 5)) := (Below.refl _ _).alloc (Nat.le_refl _) _
            obtain ⟨ys, hys⟩ : ∃ l, l = T ++ inf := ⟨_, rfl⟩
            have yl : ys.length ≤ 2000000 := by rw [hys, List.length_append]; omega
            have yb : Byt ys := by rw [hys]; exact byt_apd tb hx
            rw [← hys] at R2
            obtain ⟨v3, w3, hap3, R3, n3⟩ := append_any (P := Tryd.prog) (w2.alloc (.cells #[.int .u8 jj] 5)) 22 i0 Tryd.underlying22 hi hz0 hz1 hz2 wr.heap.size wr.heap.size _ ys (R2.up na) _ _ 1 [jj] (blk_lit1 w2 .u8 5 jj).own0.rd (by simp) (by simp; omega) (Nat.le_refl _) (nxt n12 na).size
            have n13 : Below wr.heap.size wr w3 := (nxt n12 na).trans n3
            have N3 := nxt hN0 n13
            obtain ⟨zs, hzs⟩ : ∃ l, l = ys ++ [jj] := ⟨_, rfl⟩
            have zl : zs.length ≤ 274877906944 := by rw [hzs]; simp; omega
            have zb : Byt zs := by rw [hzs]; exact byt_apd yb (byt_one jb)
            rw [← hzs] at R3
            have SE : Hid (macL ks zs = tM ks inf (j + 1)) := by show _ = _; rw [TS.out, hzs, hys, List.append_assoc]
            clear hzs hys TS
            obtain ⟨a4, c4, g4, rfl, o4, p4, q4, r4⟩ := R3.own
            have SM := specMac_any w3 g a c ks (hr.up N3) hk hc hn g4 a4 c4 zs o4.rd zb p4 zl
            rw [SE.out] at SM
            have SMH := hide SM
            have RO := R0.up n13
            generalize hT2 : tM ks inf (j + 1) = T2 at *
            clear SM R0 R1 R2 R3 n1 n2 na n3 n12 CP N1 o5 r2
            go_wp2_with (at_builtin; first | (refine Lib.wpList_append_run _ rfl _ _ 22 22 rfl _ _ rfl rfl _ _ hap2 ?_) | (refine Lib.wpList_append_run _ rfl _ _ 22 22 rfl _ _ rfl rfl _ _ hap3 ?_))
            refine SMH.out.mono ?_
            rintro r w4 ⟨⟨a6, c6, g6, rfl, o6, p6, q6, r6⟩, n4⟩
            have N4 := nxt N3 n4
            obtain ⟨v7, w7, hap7, R7, G7⟩ := append_anyG (P := Tryd.prog) w4 22 i0 Tryd.underlying22 hi hz0 hz1 hz2 w.heap.size _ CT (RO.up n4) g6 a6 c6 T2 o6.rd p6 (by have := lc.out; have := TL.out; omega) N4.size
            have lo := fun k h => (World.ownsRow.lt RO k h)
            have N7 : Below w.heap.size w w7 := N4.trans ⟨G7.os, G7.tape, G7.output, G7.size, fun k hk => G7.block k (by have := N4.size; omega) (fun e => by have := (lo k e.symm).1; omega)⟩
            have o7 : Rd w7 g6 a6 .u8 T2 := o6.rd.of_block (G7.block g6 (o6.rd.lt (by rw [TL.out]; decide)) (fun e => by have := (lo g6 e.symm).2; omega))
            clear hap2 hap3 SMH RO lo G7
            go_wp2_with (at_builtin; refine Lib.wpList_append_run _ rfl _ _ 22 22 rfl _ _ rfl rfl _ _ hap7 ?_)
            clear hap7
            go_roundw
            case rel => exact ⟨j + 1, _, _, _, by rw [← hjj]; go_num, by omega, by rw [CS.out]; exact R7, by rw [hT2], by rw [hT2]; exact o7, p6, N7⟩
            case measure => simp [intOf, ← hjj]; omega
          · have lt' : decide ((catT ks inf j).length < N) = false := by rw [lc.out]; simp; omega
            have ej : j = (N + 31) / 32 := by omega
            have EE : Hid ((catT ks inf j).take N = rs) := by show _ = _; rw [HR.out, ej]; rfl
            have oT := o5.take N
            rw [EE.out] at oT
            have nc : (N : Int) ≤ (c5 : Int) := by have := lc.out; omega
            have CP := l1Copy_row wr g5 a5 c5 rs oT.rd p5 (by rw [RL.out]; omega)
            rw [RL.out] at CP
            have CPH := hide CP
            clear CP EE ej o5 R0 r2
            generalize catT ks inf j = CT at *
            go_wp2_with fail
            refine CPH.out.mono ?_
            rintro r w8 ⟨v8, rfl, R8, n8⟩
            obtain ⟨a9, c9, g9, rfl, o9, p9, q9, r9⟩ := R8.own
            have y0 := hN0.size
            go_wp2
            go_ret
            exact ⟨⟨a9, c9, g9, rfl, o9, p9, q9, by omega⟩, nxt hN0 n8⟩
    · have t1 : decide (8160 < n) = true := by simp; omega
      have e : expA ks inf n = [] := by unfold expA; rw [if_neg (by omega)]
      rw [e]
      go_enter Tryd.func56, Tryd.ntmps56
      go_wp2
      go_ret
      exact ⟨newRow_e _ _, hal⟩
  · have t0 : decide (n < 0) = true := by simp; omega
    have e : expA ks inf n = [] := by unfold expA; rw [if_neg (by omega)]
    rw [e]
    go_enter Tryd.func56, Tryd.ntmps56
    go_wp2
    go_ret
    exact ⟨newRow_e _ _, hal⟩
end Go.Proofs.YtnfciobpfiibcaaDoor
