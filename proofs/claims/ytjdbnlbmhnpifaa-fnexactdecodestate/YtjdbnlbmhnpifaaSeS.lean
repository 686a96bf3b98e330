
/-
  A ticket's state as bytes; the model's.
-/
import Derived.Test.YtjdbnlbmhnpifaaSeI
import Derived.Test.YtjdbnlbmhnpifaaShS
import Derived.Deep.RegionHeld3
namespace Go.Proofs.Ytjdbnlbmhnpifaa
open Go Go.RowKit

theorem step_append_exS {P : Program} {ops : Array Oper} {o : Oper} {a : Act} {w : World} {K : Act → World → Prop} {Q : Exit → Act → World → Prop} {E : Prop} (hg : o.guard = none) (s x : Operand) (t tn : TypeId)
    (ho : o.op = .call { callee := .builtin .append, args := #[s, x], argTypes := #[t, tn] }) (vs vx : Value) (hs : a.eval s = vs) (hx : a.eval x = vx) (R : Value → World → Prop)
    (H : ∃ v' w', (Builtin.append_ #[t, tn] o.type #[vs, vx]).run P w = .ok v' w' ∧ R v' w') (hK : ∀ v' w', R v' w' → K (a.put o.dst v') w') :
    if Region.wanted o (yielded ops a.tmps) = true then Oper.wp P o a w K Q else E := by
  have hw : Region.wanted o (yielded ops a.tmps) = true := by simp [Region.wanted, hg]
  rw [if_pos hw]
  obtain ⟨v', w', hr, hR⟩ := H
  exact Lib.wp_append_run w s x t tn ho vs vx hs hx v' w' hr (hK v' w' hR)
set_option maxHeartbeats 8000000 in
theorem specEnS_any (w : World) (md li : Int) (ho pr : List UInt8) (ea : Int) (g : Nat) (a : Option Addr) (c : Nat) (X : List Int) (hr : Rd w g a .u8 X) (hz : a = none → c = 0) (g' : Nat) (a' : Option Addr) (c' : Nat) (Y : List Int) (hr' : Rd w g' a' .u8 Y) (hz' : a' = none → c' = 0) (hh : ho.length ≤ 1048576) (hp : pr.length ≤ 1048576) :
    Calls Try.prog 11 #[.agg #[.slice a X.length c, .slice a' Y.length c', .int .i64 md, .int .i64 li, .string ⟨⟨ho⟩⟩, .string ⟨⟨pr⟩⟩, .int .i64 ea]] w fun e w' => ∃ v, e = .returned v ∧ RowB w' w.heap.size v (esA X Y md li ho pr ea) ∧ Below w.heap.size w w' := by
  obtain ⟨i0, hi, hz0, hz1, hz2⟩ := info_parts Try.info5
  have n1 : Below w.heap.size w (w.alloc (.cells #[.slice a X.length c, .slice a' Y.length c', .int .i64 md, .int .i64 li, .string ⟨⟨ho⟩⟩, .string ⟨⟨pr⟩⟩, .int .i64 ea] 27)) := (Below.refl _ _).alloc (Nat.le_refl _) _
  have P0 : RwC (w.alloc (.cells #[.slice a X.length c, .slice a' Y.length c', .int .i64 md, .int .i64 li, .string ⟨⟨ho⟩⟩, .string ⟨⟨pr⟩⟩, .int .i64 ea] 27)) w.heap.size [.slice a X.length c, .slice a' Y.length c', .int .i64 md, .int .i64 li, .string ⟨⟨ho⟩⟩, .string ⟨⟨pr⟩⟩, .int .i64 ea] 27 := RwC.new w _ _
  have SF := fun W => hide (specState_any W md li ho pr ea a X.length c a' Y.length c' hh hp)
  by_cases h0 : sfV X.length Y.length md li ho pr.length ea = 0
  · have e1 : Hid (esA X Y md li ho pr ea = esL X Y md li ho pr ea) := by show _ = _; unfold esA; rw [if_pos h0]
    have LS := hide (sf0 h0)
    rw [h0] at SF
    have N := n1
    have lq : w.heap.size < (w.alloc (.cells #[.slice a X.length c, .slice a' Y.length c', .int .i64 md, .int .i64 li, .string ⟨⟨ho⟩⟩, .string ⟨⟨pr⟩⟩, .int .i64 ea] 27)).heap.size := by simp
    rw [e1.out]
    clear e1 h0 hh hp
    go_enter Try.func11, Try.ntmps11
    go_wp2_with fail
    generalize w.alloc (.cells #[.slice a X.length c, .slice a' Y.length c', .int .i64 md, .int .i64 li, .string ⟨⟨ho⟩⟩, .string ⟨⟨pr⟩⟩, .int .i64 ea] 27) = wa at *
    refine (SF _).out.mono ?_
    rintro e w1 ⟨rfl, m1⟩
    replace N := nxt N m1
    replace P0 := P0.up m1
    replace lq := Nat.lt_of_lt_of_le lq m1.size
    clear SF n1 m1
    go_upto_region 3 with fail
    have CP : Hid (∀ W, Below w1.heap.size w1 W → Calls Try.prog 29 #[.slice a X.length c] W fun e w' => ∃ v, e = .returned v ∧ RowB w' w1.heap.size v X ∧ Below w1.heap.size w1 w') := fun W m => (l1CopyN_any W g a c X ((hr.up N).up m) hz (by have := LS.out; omega)).mono (by
      rintro e w' ⟨v, rfl, R, n⟩
      exact ⟨v, rfl, R.base m.size, nxt m n⟩)
    have AP : Hid (∀ W v, Below w1.heap.size w1 W → RowB W w1.heap.size v X → ∃ v' w', (Builtin.append_ #[22, 22] 22 #[v, .slice a' Y.length c']).run Try.prog W = .ok v' w' ∧ RowB w' w1.heap.size v' (X ++ Y) ∧ Below w1.heap.size w1 w') := fun W v m R => by
      obtain ⟨v', w', h1, h2, h3⟩ := append_any (P := Try.prog) W 22 i0 Try.underlying22 hi hz0 hz1 hz2 w1.heap.size w1.heap.size v X R g' a' c' Y ((hr'.up N).up m) hz' (by have := LS.out; omega) (Nat.le_refl _) m.size
      exact ⟨v', w', h1, h2, m.trans h3⟩
    have CY : Hid (∀ W, Below w1.heap.size w1 W → (W.cell? ⟨w.heap.size, 0, none⟩ = some (.slice a X.length c) ∧ W.cell? ⟨w.heap.size, 1, none⟩ = some (.slice a' Y.length c'))) := fun W m => ⟨(P0.up m).cell 0, (P0.up m).cell 1⟩
    have nd : Below w1.heap.size w1 w1.drew := (Below.refl _ _).drew
    go_region_held3 (fun W => W.cell? ⟨w.heap.size, 0, none⟩ = some (.slice a X.length c) ∧ W.cell? ⟨w.heap.size, 1, none⟩ = some (.slice a' Y.length c'))
      (first | exact (unhide CY) _ n2 | exact (unhide CY) _ nc | exact (unhide CY) _ nd)
      (first
        | (refine step_append_exS rfl (.tmp 10) (.tmp 12) 22 22 rfl _ (.slice a' Y.length c') rfl rfl _ ((unhide AP) _ _ nc Rc) ?_; rintro v2 w2 ⟨R2, n2⟩)
        | (go_at_call 29; refine ((unhide CP) _ nd).mono ?_; rintro r wc ⟨vc, rfl, Rc, nc⟩)
        | fail)
    clear nd nc Rc CY AP CP hr hr' hz hz'
    have zb := n2.size
    replace P0 := P0.up n2
    replace N := nxt N n2
    generalize w1.heap.size = B at *
    have hq : w.heap.size < B := lq
    clear n2 lq
    have p2 : w2.cell? ⟨w.heap.size, 2, none⟩ = some (.int .i64 md) := P0.cell 2
    have BG := hide (l1BigB_any w2 md 8 (by have := LS.out; omega) (by have := LS.out; omega) (by decide))
    go_wp2_with fail
    refine BG.out.mono ?_
    rintro e u3 ⟨rfl, G3, m3⟩
    have D0 : Rd u3 w2.heap.size (some ⟨w2.heap.size, 0, none⟩) .u8 (bigL md 8) := by
      obtain ⟨x1, x2, x3, x4, x5, -, -, -⟩ := G3.rd
      rw [bigL_len] at x4
      injection x4 with y1 y2 y3
      subst y1
      by_cases h : 0 < (bigL md 8).length
      · obtain ⟨off, e, -⟩ := x5 h
        injection e with e
        injection e with e1 e2
        subst e1
        exact x5
      · exact fun q => absurd q h
    have hc0 : (some ⟨w2.heap.size, 0, none⟩ : Option Addr) = none → 8 = 0 := fun h => nomatch h
    have el : (bigL md 8).length = 8 := bigL_len _ _
    clear BG G3
    replace R2 := R2.up m3
    replace P0 := P0.up m3
    replace N := nxt N m3
    have zu3 := m3.size
    obtain ⟨v3, w3, hap, R3, n3⟩ := append_any (P := Try.prog) u3 22 i0 Try.underlying22 hi hz0 hz1 hz2 B B v2 (X ++ Y) R2 w2.heap.size (some ⟨w2.heap.size, 0, none⟩) 8 (bigL md 8) D0 hc0 (by simp only [List.length_append, bigL_len]; have := LS.out; omega) (Nat.le_refl _) (by omega)
    rw [el] at hap
    clear el
    clear D0 hc0 p2 m3 R2
    have z3 := n3.size
    replace P0 := P0.at_base n3 hq
    replace N := N.trans (n3.mono (by omega))
    clear n3
    have hap0 := hap
    clear hap
    have p3 : w3.cell? ⟨w.heap.size, 3, none⟩ = some (.int .i64 li) := P0.cell 3
    have BG := hide (l1BigB_any w3 li 4 (by have := LS.out; omega) (by have := LS.out; omega) (by decide))
    go_wp2_with (first | (at_builtin; refine Lib.wpList_append_run _ rfl _ _ 22 22 rfl _ _ rfl rfl _ _ hap0 ?_) | fail)
    clear hap0
    refine BG.out.mono ?_
    rintro e u4 ⟨rfl, G4, m4⟩
    have D0 : Rd u4 w3.heap.size (some ⟨w3.heap.size, 0, none⟩) .u8 (bigL li 4) := by
      obtain ⟨x1, x2, x3, x4, x5, -, -, -⟩ := G4.rd
      rw [bigL_len] at x4
      injection x4 with y1 y2 y3
      subst y1
      by_cases h : 0 < (bigL li 4).length
      · obtain ⟨off, e, -⟩ := x5 h
        injection e with e
        injection e with e1 e2
        subst e1
        exact x5
      · exact fun q => absurd q h
    have hc0 : (some ⟨w3.heap.size, 0, none⟩ : Option Addr) = none → 4 = 0 := fun h => nomatch h
    have el : (bigL li 4).length = 4 := bigL_len _ _
    clear BG G4
    replace R3 := R3.up m4
    replace P0 := P0.up m4
    replace N := nxt N m4
    have zu4 := m4.size
    obtain ⟨v4, w4, hap, R4, n4⟩ := append_any (P := Try.prog) u4 22 i0 Try.underlying22 hi hz0 hz1 hz2 B B v3 (X ++ Y ++ bigL md 8) R3 w3.heap.size (some ⟨w3.heap.size, 0, none⟩) 4 (bigL li 4) D0 hc0 (by simp only [List.length_append, bigL_len]; have := LS.out; omega) (Nat.le_refl _) (by omega)
    rw [el] at hap
    clear el
    clear D0 hc0 p3 m4 R3
    have z4 := n4.size
    replace P0 := P0.at_base n4 hq
    replace N := N.trans (n4.mono (by omega))
    clear n4
    have hap0 := hap
    clear hap
    have p6 : w4.cell? ⟨w.heap.size, 6, none⟩ = some (.int .i64 ea) := P0.cell 6
    have BG := hide (l1BigB_any w4 ea 4 (by have := LS.out; omega) (by have := LS.out; omega) (by decide))
    go_wp2_with (first | (at_builtin; refine Lib.wpList_append_run _ rfl _ _ 22 22 rfl _ _ rfl rfl _ _ hap0 ?_) | fail)
    clear hap0
    refine BG.out.mono ?_
    rintro e u5 ⟨rfl, G5, m5⟩
    have D0 : Rd u5 w4.heap.size (some ⟨w4.heap.size, 0, none⟩) .u8 (bigL ea 4) := by
      obtain ⟨x1, x2, x3, x4, x5, -, -, -⟩ := G5.rd
      rw [bigL_len] at x4
      injection x4 with y1 y2 y3
      subst y1
      by_cases h : 0 < (bigL ea 4).length
      · obtain ⟨off, e, -⟩ := x5 h
        injection e with e
        injection e with e1 e2
        subst e1
        exact x5
      · exact fun q => absurd q h
    have hc0 : (some ⟨w4.heap.size, 0, none⟩ : Option Addr) = none → 4 = 0 := fun h => nomatch h
    have el : (bigL ea 4).length = 4 := bigL_len _ _
    clear BG G5
    replace R4 := R4.up m5
    replace P0 := P0.up m5
    replace N := nxt N m5
    have zu5 := m5.size
    obtain ⟨v5, w5, hap, R5, n5⟩ := append_any (P := Try.prog) u5 22 i0 Try.underlying22 hi hz0 hz1 hz2 B B v4 (X ++ Y ++ bigL md 8 ++ bigL li 4) R4 w4.heap.size (some ⟨w4.heap.size, 0, none⟩) 4 (bigL ea 4) D0 hc0 (by simp only [List.length_append, bigL_len]; have := LS.out; omega) (Nat.le_refl _) (by omega)
    rw [el] at hap
    clear el
    clear D0 hc0 p6 m5 R4
    have z5 := n5.size
    replace P0 := P0.at_base n5 hq
    replace N := N.trans (n5.mono (by omega))
    clear n5
    have hap0 := hap
    clear hap
    have p4 : w5.cell? ⟨w.heap.size, 4, none⟩ = some (.string ⟨⟨ho⟩⟩) := P0.cell 4
    obtain ⟨cx6, wx6, hcv, DX, lx, mx⟩ := convT w5 ho
    have SH := hide (l13ShortR_any wx6 w5.heap.size (some ⟨w5.heap.size, 0, none⟩) cx6 (txL ho) DX (fun h => nomatch h) (by rw [txL_len]; have := LS.out; omega))
    rw [txL_len, ← shL_is ho (by have := LS.out; omega)] at SH
    clear DX lx
    go_wp2_with (first | (at_builtin; refine Lib.wpList_append_run _ rfl _ _ 22 22 rfl _ _ rfl rfl _ _ hap0 ?_) | (refine wpList_convT _ rfl 9 22 (.tmp 31) rfl (.string ⟨⟨ho⟩⟩) rfl _ _ hcv ?_) | fail)
    clear hap0
    refine SH.out.mono ?_
    rintro e u6 ⟨vs6, rfl, G6, ms6⟩
    obtain ⟨as6, cs6, gs6, rfl, D0, hc0, -, -⟩ := G6.rd
    have m6 := nxt mx ms6
    clear SH G6 mx ms6 hcv
    replace R5 := R5.up m6
    replace P0 := P0.up m6
    replace N := nxt N m6
    have zu6 := m6.size
    obtain ⟨v6, w6, hap, R6, n6⟩ := append_any (P := Try.prog) u6 22 i0 Try.underlying22 hi hz0 hz1 hz2 B B v5 (X ++ Y ++ bigL md 8 ++ bigL li 4 ++ bigL ea 4) R5 gs6 as6 cs6 (shL ho) D0 hc0 (by simp only [List.length_append, bigL_len, shL_len]; have := LS.out; omega) (Nat.le_refl _) (by omega)
    clear D0 hc0 p4 m6 R5
    have z6 := n6.size
    replace P0 := P0.at_base n6 hq
    replace N := N.trans (n6.mono (by omega))
    clear n6
    have hap0 := hap
    clear hap
    have p5 : w6.cell? ⟨w.heap.size, 5, none⟩ = some (.string ⟨⟨pr⟩⟩) := P0.cell 5
    obtain ⟨cx7, wx7, hcv, DX, lx, mx⟩ := convT w6 pr
    have SH := hide (l13ShortR_any wx7 w6.heap.size (some ⟨w6.heap.size, 0, none⟩) cx7 (txL pr) DX (fun h => nomatch h) (by rw [txL_len]; have := LS.out; omega))
    rw [txL_len, ← shL_is pr (by have := LS.out; omega)] at SH
    clear DX lx
    go_wp2_with (first | (at_builtin; refine Lib.wpList_append_run _ rfl _ _ 22 22 rfl _ _ rfl rfl _ _ hap0 ?_) | (refine wpList_convT _ rfl 9 22 (.tmp 37) rfl (.string ⟨⟨pr⟩⟩) rfl _ _ hcv ?_) | fail)
    clear hap0
    refine SH.out.mono ?_
    rintro e u7 ⟨vs7, rfl, G7, ms7⟩
    obtain ⟨as7, cs7, gs7, rfl, D0, hc0, -, -⟩ := G7.rd
    have m7 := nxt mx ms7
    clear SH G7 mx ms7 hcv
    replace R6 := R6.up m7
    replace P0 := P0.up m7
    replace N := nxt N m7
    have zu7 := m7.size
    obtain ⟨v7, w7, hap, R7, n7⟩ := append_any (P := Try.prog) u7 22 i0 Try.underlying22 hi hz0 hz1 hz2 B B v6 (X ++ Y ++ bigL md 8 ++ bigL li 4 ++ bigL ea 4 ++ shL ho) R6 gs7 as7 cs7 (shL pr) D0 hc0 (by simp only [List.length_append, bigL_len, shL_len]; have := LS.out; omega) (Nat.le_refl _) (by omega)
    clear D0 hc0 p5 m7 R6
    have z7 := n7.size
    replace P0 := P0.at_base n7 hq
    replace N := N.trans (n7.mono (by omega))
    clear n7
    have hap0 := hap
    clear hap
    go_wp2_with (at_builtin; refine Lib.wpList_append_run _ rfl _ _ 22 22 rfl _ _ rfl rfl _ _ hap0 ?_)
    go_ret
    exact ⟨_, rfl, R7.base (by omega), N⟩
  · have e1 : Hid (esA X Y md li ho pr ea = []) := by show _ = _; unfold esA; rw [if_neg h0]
    rw [e1.out]
    generalize sfV X.length Y.length md li ho pr.length ea = R at *
    clear e1 hr hr' hz hz' hh hp
    go_enter Try.func11, Try.ntmps11
    go_wp2_with fail
    generalize w.alloc (.cells #[.slice a X.length c, .slice a' Y.length c', .int .i64 md, .int .i64 li, .string ⟨⟨ho⟩⟩, .string ⟨⟨pr⟩⟩, .int .i64 ea] 27) = wa at *
    refine (SF _).out.mono ?_
    rintro e w1 ⟨rfl, m1⟩
    have N := nxt n1 m1
    go_wp2
    go_ret
    exact ⟨_, rfl, (RowB.lit0 w1).base N.size, N.trans (((Below.refl _ _).alloc (Nat.le_refl _) _).mono N.size)⟩
end Go.Proofs.Ytjdbnlbmhnpifaa
