
/-
  The model's HashEnd.
-/
import Derived.Test.YtljpjbojdekeiaaDoorLsJ
import Derived.Deep.RegionHeld3
namespace Go.Proofs.YtljpjbojdekeiaaDoor
set_option maxRecDepth 100000
open Go Go.RowKit

theorem step_append_ex {P : Program} {ops : Array Oper} {o : Oper} {a : Act} {w : World} {K : Act → World → Prop} {Q : Exit → Act → World → Prop} {E : Prop} (hg : o.guard = none) (s x : Operand) (t tn : TypeId)
    (ho : o.op = .call { callee := .builtin .append, args := #[s, x], argTypes := #[t, tn] }) (vs vx : Value) (hs : a.eval s = vs) (hx : a.eval x = vx) (R : Value → World → Prop)
    (H : ∃ v' w', (Builtin.append_ #[t, tn] o.type #[vs, vx]).run P w = .ok v' w' ∧ R v' w') (hK : ∀ v' w', R v' w' → K (a.put o.dst v') w') :
    if Region.wanted o (yielded ops a.tmps) = true then Oper.wp P o a w K Q else E := by
  have hw : Region.wanted o (yielded ops a.tmps) = true := by simp [Region.wanted, hg]
  rw [if_pos hw]
  obtain ⟨v', w', hr, hR⟩ := H
  exact Lib.wp_append_run w s x t tn ho vs vx hs hx v' w' hr (hK v' w' hR)

theorem RowB.le {w : World} {b b' : Nat} {v : Value} {xs : List Int} (h : RowB w b v xs) (hb : b' ≤ b) : RowB w b' v xs := by
  obtain ⟨h1, h2 | ⟨g, cap, cur, e, hg, r⟩⟩ := h
  · exact ⟨h1, Or.inl h2⟩
  · exact ⟨h1, Or.inr ⟨g, cap, cur, e, Nat.le_trans hb hg, r⟩⟩
/-- The words of a list of 32 bytes. -/
def cOf (ws : List Int) : S8 := ⟨wd 4 ws 0, wd 4 ws 1, wd 4 ws 2, wd 4 ws 3, wd 4 ws 4, wd 4 ws 5, wd 4 ws 6, wd 4 ws 7⟩
theorem cOf_wd (ws : List Int) : ∀ j, j < 8 → (cOf ws).l.getD j 0 = wd 4 ws j := fun j hj => by
  obtain rfl | rfl | rfl | rfl | rfl | rfl | rfl | rfl : j = 0 ∨ j = 1 ∨ j = 2 ∨ j = 3 ∨ j = 4 ∨ j = 5 ∨ j = 6 ∨ j = 7 := by omega
  all_goals rfl
theorem cOf_ok {ws : List Int} (h : Byt ws) : Ok32 (cOf ws) := ⟨wd_32 h 0, wd_32 h 1, wd_32 h 2, wd_32 h 3, wd_32 h 4, wd_32 h 5, wd_32 h 6, wd_32 h 7⟩
/-- What HashEnd answers at a state. -/
def endA (L : Int) (ws rs : List Int) : List Int := if vld L ws.length rs.length = true then tell32 (whole32 (cOf ws) (rs ++ padL L 64 8)) else []
theorem vld_true {L : Int} {n m : Nat} (h : vld L n m = true) : 0 ≤ L ∧ L ≤ 1099511627776 ∧ n = 32 ∧ (m : Int) = L % 64 := by
  unfold vld at h
  simp at h
  obtain ⟨⟨⟨h1, h2⟩, h3⟩, h4⟩ := h
  rw [Int.tmod_eq_emod_of_nonneg h1] at h4
  exact ⟨h1, h2, h3, h4⟩
theorem endA_len (L : Int) (ws rs : List Int) : (endA L ws rs).length ≤ 32 := by
  unfold endA
  split
  · rw [tell_len32]
    exact Nat.le_refl _
  · exact Nat.zero_le _

set_option maxHeartbeats 8000000 in
theorem specEnd_any (w : World) (L : Int) (gw : Nat) (aw : Option Addr) (cw : Nat) (ws : List Int) (hW : Rd w gw aw .u8 ws) (bW : Byt ws) (gr : Nat) (ar : Option Addr) (cr : Nat) (rs : List Int) (hR : Rd w gr ar .u8 rs) (bR : Byt rs) (kR : ar = none → cr = 0) :
    Calls Tryd.prog 41 #[.agg #[.int .i64 L, .slice aw ws.length cw, .slice ar rs.length cr]] w fun e w' => NewRow w.heap.size w' e .u8 (endA L ws rs) ∧ Below w.heap.size w w' := by
  have VA := fun W => hide (l6Valid_any W L aw ar ws.length rs.length cw cr)
  have T0 := C3.new w (.int .i64 L) (.slice aw ws.length cw) (.slice ar rs.length cr) 26
  have m0 : Below w.heap.size w (w.alloc (.cells #[.int .i64 L, .slice aw ws.length cw, .slice ar rs.length cr] 26)) := (Below.refl _ _).alloc (Nat.le_refl _) _
  unfold endA
  cases hv : vld L ws.length rs.length with
  | false =>
    simp only [hv] at VA
    rw [if_neg (by decide)]
    clear hv
    go_enter Tryd.func41, Tryd.ntmps41
    go_upto_region 1 with fail
    generalize w.alloc (.cells #[.int .i64 L, .slice aw ws.length cw, .slice ar rs.length cr] 26) = wb at *
    have q0 := T0.c0
    have q1 := T0.c1
    have q2 := T0.c2
    go_wp2_with fail
    refine (VA wb).out.mono ?_
    rintro r w1 ⟨rfl, n1⟩
    have N1 := nxt m0 n1
    clear q0 q1 q2 T0
    go_wp2
    go_ret
    have z := N1.size
    have n2 : Below w1.heap.size w1 (w1.alloc (.cells #[] 5)) := (Below.refl _ _).alloc (Nat.le_refl _) _
    obtain ⟨a5, c5, g5, e5, o5, p5, q5, r5⟩ := (RowB.lit0 w1).own
    exact ⟨⟨a5, c5, g5, congrArg Ending.returned e5, o5, p5, q5, by omega⟩, nxt N1 n2⟩
  | true =>
    simp only [hv] at VA
    rw [if_pos rfl]
    obtain ⟨L0, L1, lw, lr⟩ := vld_true hv
    clear hv
    obtain ⟨i0, hi, hz0, hz1, hz2⟩ := info_parts Tryd.info5
    have PA : padA L 64 8 = padL L 64 8 := by unfold padA; rw [if_pos (by omega)]
    have PB := padL_byt L 64 8
    have PL : (padL L 64 8).length ≤ 512 := by rw [padL_len]; have := padZ_lt L (B := 64) (t := 8) (by decide); omega
    have PD := fun W => HashPad_any W L (by omega) (by omega)
    rw [PA] at PD
    generalize padL L 64 8 = pl at *
    have bA := byt_apd bR PB
    have lA : (rs ++ pl).length ≤ 2199023255552 := by rw [List.length_append]; omega
    have lB : rs.length + pl.length ≤ 1099511627776 := by omega
    have oC := cOf_ok bW
    have oW := whole_ok32 oC (rs ++ pl)
    have SC : ∀ W, Below w.heap.size w W → Calls Tryd.prog 70 #[.slice aw ws.length cw] W fun e w' => e = .returned (ag8 .u32 (cOf ws)) ∧ Below W.heap.size W w' := fun W n => (l6State_any W gw aw cw ws (hW.up n) bW lw).mono (by
      rintro r w' ⟨⟨C', rfl, h⟩, n'⟩
      obtain rfl : C' = cOf ws := S8.ext_l (eq_of_getD rfl (fun i hi => (h i hi).trans (cOf_wd ws i hi).symm))
      exact ⟨rfl, n'⟩)
    obtain ⟨zs, hzs⟩ : ∃ z, z = rs ++ pl := ⟨_, rfl⟩
    obtain ⟨Wz, hWz⟩ : ∃ t, t = whole32 (cOf ws) zs := ⟨_, rfl⟩
    rw [← hzs] at bA lA oW ⊢
    have WH := fun W g a c h q => l6Whole_32 W (cOf ws) oC g a c zs h bA lA q
    rw [← hWz] at oW WH ⊢
    obtain ⟨vC, hvC⟩ : ∃ v, v = ag8 .u32 (cOf ws) := ⟨_, rfl⟩
    obtain ⟨vW, hvW⟩ : ∃ v, v = ag8 .u32 Wz := ⟨_, rfl⟩
    have TL := fun W => l6Tell_32 W Wz oW
    rw [← hvC] at SC WH
    rw [← hvW] at WH TL
    obtain ⟨zl, hzl⟩ : ∃ n, n = zs.length := ⟨_, rfl⟩
    have SCH : Hid (∀ V, Below w.heap.size w V → ∀ W, Below V.heap.size V W → Calls Tryd.prog 70 #[.slice aw ws.length cw] W fun e w' => e = .returned vC ∧ Below V.heap.size V w' ∧ Below W.heap.size W w') := fun V m W n => (SC W (nxt m n)).mono (by
      rintro r w' ⟨rfl, n'⟩
      exact ⟨rfl, nxt n n', n'⟩)
    have CPH : Hid (∀ V, Below w.heap.size w V → ∀ W, Below V.heap.size V W → Calls Tryd.prog 67 #[.slice ar rs.length cr] W fun e w' => ∃ v, e = .returned v ∧ RowB w' V.heap.size v rs ∧ Below V.heap.size V w' ∧ Below W.heap.size W w') := fun V m W n => (l1Copy_row W gr ar cr rs (hR.up (nxt m n)) kR (by omega)).mono (by
      rintro r w' ⟨v, rfl, o, n'⟩
      exact ⟨v, rfl, o.le n.size, nxt n n', n'⟩)
    have PDH : Hid (∀ V W, Below V.heap.size V W → Calls Tryd.prog 73 #[.int .i64 L] W fun e w' => ∃ a c g, e = .returned (.slice a pl.length c) ∧ Rd w' g a .u8 pl ∧ (a = none → c = 0) ∧ Below V.heap.size V w' ∧ Below W.heap.size W w') := fun V W n => (PD W).mono (by
      rintro r w' ⟨⟨a3, c3, g3, rfl, o3, p3, q3, r3⟩, n'⟩
      exact ⟨a3, c3, g3, rfl, o3.rd, p3, nxt n n', n'⟩)
    have APH : Hid (∀ (V W : World) (ty : TypeId) (v : Value) (a : Option Addr) (c g : Nat), Below V.heap.size V W → RowB W V.heap.size v rs → Rd W g a .u8 pl → (a = none → c = 0) →
        ∃ v' w', (Builtin.append_ #[22, 22] ty #[v, .slice a pl.length c]).run Tryd.prog W = .ok v' w' ∧ (∃ a' c' g', v' = .slice a' zl c' ∧ Rd w' g' a' .u8 zs ∧ zl ≤ c' ∧ Below V.heap.size V w')) := fun V W ty v a c g n ho hr hc => by
      obtain ⟨v4, w4, hap, o4, n4⟩ := append_any (P := Tryd.prog) W ty i0 Tryd.underlying22 hi hz0 hz1 hz2 V.heap.size V.heap.size _ _ ho g a c pl hr hc lB (Nat.le_refl _) n.size
      rw [← hzs] at o4
      obtain ⟨a5, c5, g5, e5, o5, p5, q5, r5⟩ := o4.own
      exact ⟨v4, w4, hap, a5, c5, g5, by rw [hzl]; exact e5, o5.rd, by rw [hzl]; exact q5, n.trans n4⟩
    have WHH : Hid (∀ V W g a c, Below V.heap.size V W → Rd W g a .u8 zs → zl ≤ c → Calls Tryd.prog 69 #[vC, .slice a zl c] W fun e w' => e = .returned vW ∧ Below V.heap.size V w') := fun V W g a c n h q => by
      rw [hzl] at q ⊢
      exact (WH W g a c h q).mono (by rintro r w' ⟨rfl, n'⟩; exact ⟨rfl, nxt n n'⟩)
    have TLH : Hid (∀ V W, Below V.heap.size V W → Calls Tryd.prog 68 #[vW] W fun e w' => ∃ a c g, e = .returned (.slice a 32 c) ∧ Own w' g a .u8 (tell32 Wz) ∧ (a = none → c = 0) ∧ 32 ≤ c ∧ V.heap.size ≤ g ∧ Below V.heap.size V w') := fun V W n => (TL W).mono (by
      rintro r w' ⟨⟨a3, c3, g3, rfl, o3, p3, q3, r3⟩, n'⟩
      rw [tell_len32] at q3 ⊢
      exact ⟨a3, c3, g3, rfl, o3, p3, q3, Nat.le_trans n.size r3, nxt n n'⟩)
    have TL32 := hide (tell_len32 Wz)
    generalize tell32 Wz = tz at *
    clear hWz hzs WH PA PD SC TL hvC hvW oC oW bA lA lB PL PB hzl L0 L1 lw lr hi hz0 hz1 hz2
    go_enter Tryd.func41, Tryd.ntmps41
    go_upto_region 1 with fail
    generalize w.alloc (.cells #[.int .i64 L, .slice aw ws.length cw, .slice ar rs.length cr] 26) = wb at *
    have q0 := T0.c0
    have q1 := T0.c1
    have q2 := T0.c2
    go_wp2_with fail
    refine (VA wb).out.mono ?_
    rintro r w1 ⟨rfl, n1⟩
    have N1 := nxt m0 n1
    have T1 := T0.up n1
    have CY : Hid (∀ W, Below w1.heap.size w1 W → W.cell? ⟨w.heap.size, 1, none⟩ = some (.slice aw ws.length cw) ∧ W.cell? ⟨w.heap.size, 2, none⟩ = some (.slice ar rs.length cr) ∧ W.cell? ⟨w.heap.size, 0, none⟩ = some (.int .i64 L)) := fun W n => ⟨(T1.up n).c1, (T1.up n).c2, (T1.up n).c0⟩
    have SC := hide (SCH.out w1 N1)
    have CP := hide (CPH.out w1 N1)
    have PD := hide (PDH.out w1)
    have AP := hide (APH.out w1)
    have WH := hide (WHH.out w1)
    have TL := hide (TLH.out w1)
    clear q0 q1 q2 T0 T1 SCH CPH PDH APH WHH TLH VA n1 m0
    have nd : Below w1.heap.size w1 w1.drew := (Below.refl _ _).drew
    go_upto_region 3 with fail
    go_region_held3 (fun W => W.cell? ⟨w.heap.size, 1, none⟩ = some (.slice aw ws.length cw) ∧ W.cell? ⟨w.heap.size, 2, none⟩ = some (.slice ar rs.length cr) ∧ W.cell? ⟨w.heap.size, 0, none⟩ = some (.int .i64 L))
      (first | exact (unhide CY) _ b18 | exact (unhide CY) _ b17 | exact (unhide CY) _ b16 | exact (unhide CY) _ b15 | exact (unhide CY) _ b12 | exact (unhide CY) _ b9 | exact (unhide CY) _ nd)
      (first
        | (go_at_call 70; refine ((unhide SC) _ nd).mono ?_; rintro r w9 ⟨rfl, b9, n9⟩)
        | (go_at_call 67; refine ((unhide CP) _ b9).mono ?_; rintro r w12 ⟨v12, rfl, o12, b12, n12⟩)
        | (go_at_call 73; refine ((unhide PD) _ b12).mono ?_; rintro r w15 ⟨a15, c15, g15, rfl, o15, p15, b15, n15⟩; have A16 := hide ((unhide AP) w15 22 v12 a15 c15 g15 b15 (o12.up n15) o15 p15))
        | (go_at_call 69; refine ((unhide WH) _ _ _ _ b16 o16 q16).mono ?_; rintro r w17 ⟨rfl, b17⟩)
        | (go_at_call 68; refine ((unhide TL) _ b17).mono ?_; rintro r w18 ⟨a18, c18, g18, rfl, o18, p18, q18, r18, b18⟩)
        | (refine step_append_ex rfl (.tmp 12) (.tmp 15) 22 22 rfl v12 (.slice a15 pl.length c15) rfl rfl _ A16.out ?_; rintro v16 w16 ⟨a16, c16, g16, rfl, o16, q16, b16⟩)
        | fail)
    all_goals
      go_wp2
      go_ret
      have z := N1.size
      exact ⟨⟨a18, c18, g18, by rw [TL32.out]; rfl, o18, p18, by rw [TL32.out]; exact q18, by omega⟩, nxt N1 b18⟩
end Go.Proofs.YtljpjbojdekeiaaDoor
