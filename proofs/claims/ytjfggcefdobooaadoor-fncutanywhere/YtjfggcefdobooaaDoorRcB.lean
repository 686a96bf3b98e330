
/-
  Records: EncodeRecord, the program's and the model's.
-/
import Derived.Test.YtjfggcefdobooaaDoorRcS
namespace Go.Proofs.YtjfggcefdobooaaDoor
set_option maxRecDepth 100000
open Go Go.RowKit

theorem step_append_exN {P : Program} {ops : Array Oper} {o : Oper} {a : Act} {w : World} {K : Act → World → Prop} {Q : Exit → Act → World → Prop} {E : Prop} (hg : o.guard = none) (s x : Operand) (t tn : TypeId)
    (ho : o.op = .call { callee := .builtin .append, args := #[s, x], argTypes := #[t, tn] }) (vs vx : Value) (hs : a.eval s = vs) (hx : a.eval x = vx) (R : Value → World → Prop)
    (H : ∃ v' w', (Builtin.append_ #[t, tn] o.type #[vs, vx]).run P w = .ok v' w' ∧ R v' w') (hK : ∀ v' w', R v' w' → K (a.put o.dst v') w') :
    if Region.wanted o (yielded ops a.tmps) = true then Oper.wp P o a w K Q else E := by
  have hw : Region.wanted o (yielded ops a.tmps) = true := by simp [Region.wanted, hg]
  rw [if_pos hw]
  obtain ⟨v', w', hr, hR⟩ := H
  exact Lib.wp_append_run w s x t tn ho vs vx hs hx v' w' hr (hK v' w' hR)
/-- Two cells of a block. -/
structure PrC (w : World) (p : Nat) (x y : Value) : Prop where
  c0 : w.cell? ⟨p, 0, none⟩ = some x
  c1 : w.cell? ⟨p, 1, none⟩ = some y
theorem PrC.up {w w' : World} {p : Nat} {x y : Value} (h : PrC w p x y) (n : Below w.heap.size w w') : PrC w' p x y :=
  ⟨(World.cell?_of_block (a := ⟨p, 0, none⟩) (n.block p (block_lt_of_cell h.c0))).trans h.c0, (World.cell?_of_block (a := ⟨p, 1, none⟩) (n.block p (block_lt_of_cell h.c0))).trans h.c1⟩
theorem PrC.lt {w : World} {p : Nat} {x y : Value} (h : PrC w p x y) : p < w.heap.size := block_lt_of_cell h.c0
theorem PrC.new (w : World) (x y : Value) (t : TypeId) : PrC (w.alloc (.cells #[x, y] t)) w.heap.size x y := ⟨by simp [World.cell?_alloc_at], by simp [World.cell?_alloc_at]⟩
theorem hfV_bad {a1 a2 : Addr} {k n : Int} (h : ¬ (isK k = true ∧ 1 ≤ n ∧ n ≤ 2321)) : ∃ a', hfV a1 a2 k n = .iface 80 (.pointer (some a')) := by
  unfold hfV
  by_cases hk : isK k = true
  · rw [if_pos hk, if_neg (by intro q; exact h ⟨hk, q⟩)]
    exact ⟨a2, rfl⟩
  · rw [if_neg hk]
    exact ⟨a1, rfl⟩
set_option maxHeartbeats 1000000 in
theorem implEncode_any (w : World) (k : Int) (g : Nat) (a : Option Addr) (c : Nat) (xs : List Int) (hr : Rd w g a .u8 xs) (hc : a = none → c = 0) (a1 a2 : Addr) (h1 : Sen w 1 a1) (h2 : Sen w 2 a2) :
    Calls Tryd.prog 6 #[.agg #[.int .i64 k, .slice a xs.length c]] w fun e w' => ∃ v, e = .returned v ∧ RowB w' w.heap.size v (enA k xs) ∧ Below w.heap.size w w' := by
  obtain ⟨i0, hi, hz0, hz1, hz2⟩ := info_parts Tryd.info5
  have m1 : Below w.heap.size w (w.alloc (.cells #[.int .i64 k, .slice a xs.length c] 25)) := (Below.refl _ _).alloc (Nat.le_refl _) _
  have B0 := PrC.new w (.int .i64 k) (.slice a xs.length c) 25
  have z1 : (w.alloc (.cells #[.int .i64 k, .slice a xs.length c] 25)).heap.size = w.heap.size + 1 := by simp
  have m2 : Below (w.alloc (.cells #[.int .i64 k, .slice a xs.length c] 25)).heap.size (w.alloc (.cells #[.int .i64 k, .slice a xs.length c] 25)) ((w.alloc (.cells #[.int .i64 k, .slice a xs.length c] 25)).alloc (.cells #[.int .i64 k, .int .i64 xs.length] 43)) := (Below.refl _ _).alloc (Nat.le_refl _) _
  have B1 := PrC.new (w.alloc (.cells #[.int .i64 k, .slice a xs.length c] 25)) (.int .i64 k) (.int .i64 xs.length) 43
  have N := nxt m1 m2
  have F := fun W (n : Below w.heap.size w W) => hide (fault_any W k xs.length a1 a2 (h1.up n) (h2.up n))
  rw [z1] at B1
  replace B0 := B0.up m2
  by_cases hg : isK k = true ∧ 1 ≤ xs.length ∧ xs.length ≤ 2321
  · have e1 : hfV a1 a2 k xs.length = .nilIface := by rw [hfV, if_pos hg.1, if_pos (by omega)]
    have e2 : Hid (enA k xs = hdL k (xs.length : Int) ++ xs) := by show _ = _; rw [enA, if_pos hg]
    rw [e1] at F
    have hq := nil_neq
    have HL := hide hg.2
    have HB := fun W => hide (headBytes_any W k (xs.length : Int))
    have HDL := hide (hdL_len k (xs.length : Int))
    generalize hdL k (xs.length : Int) = H at *
    clear e1 hg h1 h2 m1 m2 z1
    go_enter Tryd.func6, Tryd.ntmps6
    go_wp2_with fail
    generalize (w.alloc (.cells #[.int .i64 k, .slice a xs.length c] 25)).alloc (.cells #[.int .i64 k, .int .i64 xs.length] 43) = wa at *
    refine (F _ N).out.mono ?_
    rintro e wb ⟨rfl, n1⟩
    replace B0 := B0.up n1
    replace B1 := B1.up n1
    replace N := nxt N n1
    clear n1 F
    have CY : Hid (∀ W, Below wb.heap.size wb W → (W.cell? ⟨w.heap.size, 1, none⟩ = some (.slice a xs.length c) ∧ W.cell? ⟨w.heap.size + 1, 0, none⟩ = some (.int .i64 k) ∧ W.cell? ⟨w.heap.size + 1, 1, none⟩ = some (.int .i64 xs.length))) := fun W m => ⟨(B0.up m).c1, (B1.up m).c0, (B1.up m).c1⟩
    have HB2 : Hid (∀ W, Below wb.heap.size wb W → Calls Tryd.prog 19 #[.agg #[.int .i64 k, .int .i64 xs.length]] W fun e w' => ∃ v, e = .returned v ∧ RowB w' wb.heap.size v H ∧ Below wb.heap.size wb w') := fun W m => (HB W).out.mono (by
      rintro e w' ⟨v, rfl, R, l⟩
      exact ⟨v, rfl, R.base m.size, nxt m l⟩)
    have AP : Hid (∀ W ty v, Below wb.heap.size wb W → RowB W wb.heap.size v H → ∃ v' w', (Builtin.append_ #[22, 22] ty #[v, .slice a xs.length c]).run Tryd.prog W = .ok v' w' ∧ RowB w' wb.heap.size v' (enA k xs) ∧ Below wb.heap.size wb w') := fun W ty v m R => by
      obtain ⟨v', w', h1, h2, h3⟩ := append_any (P := Tryd.prog) W ty i0 Tryd.underlying22 hi hz0 hz1 hz2 wb.heap.size wb.heap.size v H R g a c xs ((hr.up N).up m) hc (by rw [HDL.out]; have := HL.out; omega) (Nat.le_refl _) m.size
      exact ⟨v', w', h1, by rw [e2.out]; exact h2, m.trans h3⟩
    have nd : Below wb.heap.size wb wb.drew := (Below.refl _ _).drew
    clear B0 B1 HB hr
    go_upto_region 4 with fail
    go_region_held3 (fun W => W.cell? ⟨w.heap.size, 1, none⟩ = some (.slice a xs.length c) ∧ W.cell? ⟨w.heap.size + 1, 0, none⟩ = some (.int .i64 k) ∧ W.cell? ⟨w.heap.size + 1, 1, none⟩ = some (.int .i64 xs.length))
      (first | exact (unhide CY) _ b17 | exact (unhide CY) _ b14 | exact (unhide CY) _ nd)
      (first
        | (go_at_call 19; refine ((unhide HB2) _ nd).mono ?_; rintro r w14 ⟨v14, rfl, R14, b14⟩; (have A17 := hide ((unhide AP) w14 22 v14 b14 R14)))
        | (refine step_append_exN rfl (.tmp 14) (.tmp 16) 22 22 rfl v14 (.slice a xs.length c) rfl rfl _ A17.out ?_; rintro v17 w17 ⟨R17, b17⟩)
        | fail)
    all_goals
      go_wp2
      go_ret
      exact ⟨_, rfl, R17.base N.size, nxt N b17⟩
  · obtain ⟨a', e1⟩ := hfV_bad (a1 := a1) (a2 := a2) (k := k) (n := (xs.length : Int)) (fun q => hg ⟨q.1, by omega, by omega⟩)
    have e2 : Hid (enA k xs = []) := by show _ = _; rw [enA, if_neg hg]
    rw [e1] at F
    have hq := er_neq
    clear e1 hg h1 h2 m1 m2 z1 hr
    go_enter Tryd.func6, Tryd.ntmps6
    go_wp2_with fail
    generalize (w.alloc (.cells #[.int .i64 k, .slice a xs.length c] 25)).alloc (.cells #[.int .i64 k, .int .i64 xs.length] 43) = wa at *
    refine (F _ N).out.mono ?_
    rintro e wb ⟨rfl, n1⟩
    go_wp2
    go_ret
    exact ⟨_, rfl, by rw [e2.out]; exact RowB.nilN _ _, nxt N n1⟩
set_option maxHeartbeats 1000000 in
theorem specEncode_any (w : World) (k : Int) (g : Nat) (a : Option Addr) (c : Nat) (xs : List Int) (hr : Rd w g a .u8 xs) (hc : a = none → c = 0) :
    Calls Tryd.prog 5 #[.agg #[.int .i64 k, .slice a xs.length c]] w fun e w' => ∃ v, e = .returned v ∧ RowB w' w.heap.size v (enA k xs) ∧ Below w.heap.size w w' := by
  obtain ⟨i0, hi, hz0, hz1, hz2⟩ := info_parts Tryd.info5
  have N : Below w.heap.size w (w.alloc (.cells #[.int .i64 k, .slice a xs.length c] 25)) := (Below.refl _ _).alloc (Nat.le_refl _) _
  have B0 := PrC.new w (.int .i64 k) (.slice a xs.length c) 25
  have F := fun W => hide (known_any W k)
  by_cases hk : isK k = true
  · rw [hk] at F
    by_cases hg : 1 ≤ xs.length ∧ xs.length ≤ 2321
    · have e2 : Hid (enA k xs = hdL k (xs.length : Int) ++ xs) := by show _ = _; rw [enA, if_pos ⟨hk, hg⟩]
      have q1 : decide ((xs.length : Int) < 1) = false := by simp; omega
      have q2 : decide (2321 < (xs.length : Int)) = false := by simp; omega
      have HL := hide hg
      have HB := fun W => hide (l15Head_any W k (xs.length : Int) (by omega) (by omega))
      have HDL := hide (hdL_len k (xs.length : Int))
      generalize hdL k (xs.length : Int) = H at *
      clear hk hg
      go_enter Tryd.func5, Tryd.ntmps5
      go_upto_region 1 with fail
      generalize w.alloc (.cells #[.int .i64 k, .slice a xs.length c] 25) = wb at *
      have CY : Hid (∀ W, Below wb.heap.size wb W → (W.cell? ⟨w.heap.size, 0, none⟩ = some (.int .i64 k) ∧ W.cell? ⟨w.heap.size, 1, none⟩ = some (.slice a xs.length c))) := fun W m => ⟨(B0.up m).c0, (B0.up m).c1⟩
      have x0 := B0.c0
      have x1 := B0.c1
      go_wp2_with fail
      refine (F _).out.mono ?_
      rintro e w' ⟨rfl, h⟩
      have h := h.symm
      subst h
      have HB2 : Hid (∀ W, Below wb.heap.size wb W → Calls Tryd.prog 17 #[.int .i64 k, .int .i64 xs.length] W fun e w' => ∃ v, e = .returned v ∧ RowB w' wb.heap.size v H ∧ Below wb.heap.size wb w') := fun W m => (HB W).out.mono (by
        rintro e w' ⟨v, rfl, R, l⟩
        exact ⟨v, rfl, R.base m.size, nxt m l⟩)
      have AP : Hid (∀ W ty v, Below wb.heap.size wb W → RowB W wb.heap.size v H → ∃ v' w', (Builtin.append_ #[22, 22] ty #[v, .slice a xs.length c]).run Tryd.prog W = .ok v' w' ∧ RowB w' wb.heap.size v' (enA k xs) ∧ Below wb.heap.size wb w') := fun W ty v m R => by
        obtain ⟨v', w', h1, h2, h3⟩ := append_any (P := Tryd.prog) W ty i0 Tryd.underlying22 hi hz0 hz1 hz2 wb.heap.size wb.heap.size v H R g a c xs ((hr.up N).up m) hc (by rw [HDL.out]; have := HL.out; omega) (Nat.le_refl _) m.size
        exact ⟨v', w', h1, by rw [e2.out]; exact h2, m.trans h3⟩
      have nd : Below wb.heap.size wb wb.drew := (Below.refl _ _).drew
      clear HB hr
      go_upto_region 3 with fail
      clear x0 x1 B0
      go_region_held3 (fun W => W.cell? ⟨w.heap.size, 0, none⟩ = some (.int .i64 k) ∧ W.cell? ⟨w.heap.size, 1, none⟩ = some (.slice a xs.length c))
        (first | exact (unhide CY) _ b28 | exact (unhide CY) _ b25 | exact (unhide CY) _ nd)
        (first
          | (go_at_call 17; refine ((unhide HB2) _ nd).mono ?_; rintro r w25 ⟨v25, rfl, R25, b25⟩; (have A28 := hide ((unhide AP) w25 22 v25 b25 R25)))
          | (refine step_append_exN rfl (.tmp 25) (.tmp 27) 22 22 rfl v25 (.slice a xs.length c) rfl rfl _ A28.out ?_; rintro v28 w28 ⟨R28, b28⟩)
          | fail)
      all_goals
        go_wp2
        go_ret
        exact ⟨_, rfl, R28.base N.size, nxt N b28⟩
    · have e2 : Hid (enA k xs = []) := by show _ = _; rw [enA, if_neg (fun q => hg q.2)]
      have E0 := fun W : World => (show Below W.heap.size W (W.alloc (.cells #[] 5)) from (Below.refl _ _).alloc (Nat.le_refl _) _)
      rcases (by omega : xs.length = 0 ∨ 2321 < xs.length) with h0 | h0
      · have q1 : decide ((xs.length : Int) < 1) = true := by simp; omega
        clear hk hg hr h0
        go_enter Tryd.func5, Tryd.ntmps5
        go_upto_region 1 with fail
        generalize w.alloc (.cells #[.int .i64 k, .slice a xs.length c] 25) = wb at *
        have x0 := B0.c0
        have x1 := B0.c1
        go_wp2_with fail
        refine (F _).out.mono ?_
        rintro e w' ⟨rfl, h⟩
        have h := h.symm
        subst h
        go_wp2
        go_ret
        exact ⟨_, rfl, by rw [e2.out]; exact (RowB.lit0 _).base N.size, nxt N (E0 _)⟩
      · have q1 : decide ((xs.length : Int) < 1) = false := by simp; omega
        have q2 : decide (2321 < (xs.length : Int)) = true := by simp; omega
        clear hk hg hr h0
        go_enter Tryd.func5, Tryd.ntmps5
        go_upto_region 1 with fail
        generalize w.alloc (.cells #[.int .i64 k, .slice a xs.length c] 25) = wb at *
        have x0 := B0.c0
        have x1 := B0.c1
        go_wp2_with fail
        refine (F _).out.mono ?_
        rintro e w' ⟨rfl, h⟩
        have h := h.symm
        subst h
        go_wp2
        go_ret
        exact ⟨_, rfl, by rw [e2.out]; exact (RowB.lit0 _).base N.size, nxt N (E0 _)⟩
  · have e2 : Hid (enA k xs = []) := by show _ = _; rw [enA, if_neg (fun q => hk q.1)]
    have E0 := fun W : World => (show Below W.heap.size W (W.alloc (.cells #[] 5)) from (Below.refl _ _).alloc (Nat.le_refl _) _)
    have hk' : isK k = false := by simpa using hk
    rw [hk'] at F
    clear hk hk' hr
    go_enter Tryd.func5, Tryd.ntmps5
    go_upto_region 1 with fail
    generalize w.alloc (.cells #[.int .i64 k, .slice a xs.length c] 25) = wb at *
    have x0 := B0.c0
    have x1 := B0.c1
    go_wp2_with fail
    refine (F _).out.mono ?_
    rintro e w' ⟨rfl, h⟩
    have h := h.symm
    subst h
    go_wp2
    go_ret
    exact ⟨_, rfl, by rw [e2.out]; exact (RowB.lit0 _).base N.size, nxt N (E0 _)⟩
end Go.Proofs.YtjfggcefdobooaaDoor
