/-
  natural.divide.
-/
import Derived.Test.YthdjopkmlcdoeaaDivW
namespace Go.Proofs.Ythdjopkmlcdoeaa
open Go.RowKit

set_option maxHeartbeats 2000000 in
theorem divide_any (w : World) (g g' : Nat) (a b : Option Addr) (ca cb : Nat) (zs ms : List Int) (ha : Rd w g a .u32 zs) (hb : Rd w g' b .u32 ms) (hz : Lmb zs) (hm : Lmb ms) (tz : Top zs) (tm : Top ms) (hn : zs.length ≤ 1024) (hk : ms.length ≤ 1024) (h0 : 0 < ms.length) :
    Calls Try.prog 61 #[.slice a zs.length ca, .slice b ms.length cb] w fun e w' => DivRes w' e (lval zs) (lval ms) ∧ Below w.heap.size w w' := by
  have zb := (lval_bd hz).1
  go_enter Try.func61, Try.ntmps61
  go_wp2_with fail
  refine (compare_any w g g' a b ca cb zs ms ha hb hz hm tz tm (by omega) (by omega)).mono ?_
  rintro e w1 ⟨rfl, n1⟩
  have ha1 := ha.up n1
  have hb1 := hb.up n1
  by_cases hlt : lval zs < lval ms
  · have t1 : decide (sg (lval zs) (lval ms) < 0) = true := by rw [sg_lt hlt]; decide
    generalize sg (lval zs) (lval ms) = s at *
    have D := hide (div_of (A := lval zs) (D := lval ms) (q := 0) (r := lval zs) (by omega) zb hlt)
    go_wp2_with fail
    refine (clone_any w1 g a ca zs ha1 (by omega)).mono ?_
    rintro e w2 ⟨rfl, B2, n2⟩
    have N2 := nxt n1 n2
    go_wp2
    go_ret2
    exact ⟨⟨[], zs, none, _, 0, zs.length, 0, w1.heap.size, rfl, ⟨Own.nil _ _ _ _, lmb_nil, fun h => absurd h (by simp), Nat.le_refl _, by omega⟩, ⟨B2.own0, hz, tz, Nat.le_refl _, by omega⟩, D.out.1, D.out.2⟩, N2⟩
  · have t1 : decide (sg (lval zs) (lval ms) < 0) = false := by unfold sg; simp; split <;> (try split) <;> omega
    generalize sg (lval zs) (lval ms) = s at *
    have hml : ms.length ≤ zs.length := by
      by_cases h : zs.length < ms.length
      · have := lval_lt_of_len hz hm tm h
        omega
      · omega
    by_cases h1 : ms.length = 1
    · have t2 : ((ms.length : Int) == 1) = true := by simp [h1]
      obtain ⟨d, rfl⟩ : ∃ d, ms = [d] := by
        match ms, h1 with
        | [d], _ => exact ⟨d, rfl⟩
      obtain ⟨off, rfl, hc⟩ := hb1 (by simp)
      have c1 := hc 0 (by simp)
      have d0 := hm 0
      have dt := tm (by simp)
      simp only [List.getD_cons_zero, List.length_singleton, Nat.add_zero] at c1 d0 dt
      have lv : lval [d] = d := by simp [lval]
      have LV := hide lv
      have dt' : d ≠ 0 := by simpa using dt
      have d1 : 1 ≤ d := by omega
      clear hc hb lv h1 dt dt' hlt
      go_wp2_with fail
      refine (divideByLimb_any w1 g a ca zs d ha1 hz (by omega) d1 d0.2).mono ?_
      rintro e w2 ⟨⟨qs, rs, a1, a2, c1', c2, g1, g2, rfl, R1, R2, v1, v2⟩, n2⟩
      have N2 := nxt n1 n2
      have V := hide (And.intro v1 v2)
      clear v1 v2
      go_wp2
      go_ret2
      exact ⟨⟨qs, rs, a1, a2, c1', c2, g1, g2, rfl, R1, R2, by rw [LV.out]; exact V.out.1, by rw [LV.out]; exact V.out.2⟩, N2⟩
    · have t2 : ((ms.length : Int) == 1) = false := beq_eq_false_iff_ne.2 (by omega)
      obtain ⟨n, hl⟩ : ∃ n : Nat, ms.length = n + 2 := ⟨ms.length - 2, by omega⟩
      have DL := divideLong_any w1 g g' a b ca cb n zs ms ha1 hb1 hz hm tm hl hn hml
      rw [← hl] at DL
      have HDL := hide DL
      clear DL hl hlt h1
      go_wp2_with fail
      refine (unhide HDL).mono ?_
      rintro e w2 ⟨⟨qs, rs, a1, a2, c1', c2, g1, g2, rfl, R1, R2, v1, v2⟩, n2⟩
      have N2 := nxt n1 n2
      have V := hide (And.intro v1 v2)
      clear v1 v2
      go_wp2
      go_ret2
      exact ⟨⟨qs, rs, a1, a2, c1', c2, g1, g2, rfl, R1, R2, V.out.1, V.out.2⟩, N2⟩
end Go.Proofs.Ythdjopkmlcdoeaa
