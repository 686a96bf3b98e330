
/-
  The fault of a step; the model's, second half (written by gens/stpg.py).
-/
import Derived.Test.YtojpdongbkdciaaDoorStpG
namespace Go.Proofs.YtojpdongbkdciaaDoor
set_option maxRecDepth 100000
open Go Go.RowKit

set_option maxRecDepth 100000 in
set_option maxHeartbeats 4000000 in
theorem specStep6 (w : World) (en nu co : Int) (a : Option Addr) (n c : Nat) :
    Calls Tryd.prog 5 #[.agg #[.int .i64 6, .int .i64 en, .int .i64 nu, .int .i64 co, .slice a n c]] w fun e w' => e = .returned (.int .i64 (stW 1 0 65536 0 en nu co n)) ∧ Below w.heap.size w w' := by
  have n1 : Below w.heap.size w (w.alloc (.cells #[.int .i64 6, .int .i64 en, .int .i64 nu, .int .i64 co, .slice a n c] 27)) := (Below.refl _ _).alloc (Nat.le_refl _) _
  have P0 : RwC (w.alloc (.cells #[.int .i64 6, .int .i64 en, .int .i64 nu, .int .i64 co, .slice a n c] 27)) w.heap.size [.int .i64 6, .int .i64 en, .int .i64 nu, .int .i64 co, .slice a n c] 27 := RwC.new w _ _
  have IN := fun W => inRange_any W nu 0
  have IC := fun W => inRange_any W co 65536
  have hN := hide (inR_iff nu 0)
  have hC := hide (inR_iff co 65536)
  generalize inR nu 0 = bn at *
  generalize inR co 65536 = bc at *
  have hF : Hid (fitD 0 n = true ↔ n = 0) := by show _ ↔ _; unfold fitD; simp
  generalize hR : stW 1 0 65536 0 en nu co n = R
  unfold stW at hR
  generalize fitD 0 n = ft at *
  replace hR := hide hR
  have p0 : (w.alloc (.cells #[.int .i64 6, .int .i64 en, .int .i64 nu, .int .i64 co, .slice a n c] 27)).cell? ⟨w.heap.size, 0, none⟩ = some (.int .i64 6) := P0.cell 0
  have p1 : (w.alloc (.cells #[.int .i64 6, .int .i64 en, .int .i64 nu, .int .i64 co, .slice a n c] 27)).cell? ⟨w.heap.size, 1, none⟩ = some (.int .i64 en) := P0.cell 1
  have p2 : (w.alloc (.cells #[.int .i64 6, .int .i64 en, .int .i64 nu, .int .i64 co, .slice a n c] 27)).cell? ⟨w.heap.size, 2, none⟩ = some (.int .i64 nu) := P0.cell 2
  have p3 : (w.alloc (.cells #[.int .i64 6, .int .i64 en, .int .i64 nu, .int .i64 co, .slice a n c] 27)).cell? ⟨w.heap.size, 3, none⟩ = some (.int .i64 co) := P0.cell 3
  have p4 : (w.alloc (.cells #[.int .i64 6, .int .i64 en, .int .i64 nu, .int .i64 co, .slice a n c] 27)).cell? ⟨w.heap.size, 4, none⟩ = some (.slice a n c) := P0.cell 4
  clear P0
  go_enter Tryd.func5, Tryd.ntmps5
  go_upto_region 3 with fail
  generalize w.alloc (.cells #[.int .i64 6, .int .i64 en, .int .i64 nu, .int .i64 co, .slice a n c] 27) = wa at *
  by_cases h0 : en = 0
  · subst h0
    go_wp2_with fail
    refine (IN _).mono ?_
    rintro e1 w1 ⟨rfl, rfl⟩
    cases bn with
    | false =>
      have hN : ¬ (0 ≤ nu ∧ nu ≤ 0) := fun h => by simpa using hN.out.2 h
      have hv : Hid (R = 3) := by show _ = _; (try have hN := hN.out); rw [← hR.out]; (repeat' split) <;> first | rfl | omega | simp_all
      clear hR hN
      go_wp2
      go_ret
      exact ⟨by rw [hv.out]; rfl, n1⟩
    | true =>
      replace hN := hide (hN.out.1 rfl)
      go_wp2_with fail
      refine (IC _).mono ?_
      rintro e1 w1 ⟨rfl, rfl⟩
      cases bc with
      | false =>
        have hC : ¬ (0 ≤ co ∧ co ≤ 65536) := fun h => by simpa using hC.out.2 h
        have hv : Hid (R = 4) := by show _ = _; (try have hN := hN.out); rw [← hR.out]; (repeat' split) <;> first | rfl | omega | simp_all
        clear hR hC
        go_wp2
        go_ret
        exact ⟨by rw [hv.out]; rfl, n1⟩
      | true =>
        replace hC := hC.out.1 rfl
        replace hN := hN.out
        by_cases hd : n = 0
        · have hf := hF.out.2 hd
          subst hd
          have hv : Hid (R = 0) := by show _ = _; (try have hN := hN.out); rw [← hR.out]; (repeat' split) <;> first | rfl | omega | simp_all
          clear hR
          go_wp2
          go_ret
          exact ⟨by rw [hv.out]; rfl, n1⟩
        · have hf : ¬ ft = true := fun h => hd (hF.out.1 h)
          have t0 : (0 : Int) < (n : Int) ∨ n = 0 := by omega
          have t2 : decide ((0 : Int) < (n : Int)) = true := by simp; omega
          have hv : Hid (R = 5) := by show _ = _; (try have hN := hN.out); rw [← hR.out]; (repeat' split) <;> first | rfl | omega | simp_all
          clear hR
          go_wp2
          go_ret
          exact ⟨by rw [hv.out]; rfl, n1⟩
  by_cases h1 : en = 1
  · subst h1
    go_wp2_with fail
    refine (IN _).mono ?_
    rintro e1 w1 ⟨rfl, rfl⟩
    cases bn with
    | false =>
      have hN : ¬ (0 ≤ nu ∧ nu ≤ 0) := fun h => by simpa using hN.out.2 h
      have hv : Hid (R = 3) := by show _ = _; (try have hN := hN.out); rw [← hR.out]; (repeat' split) <;> first | rfl | omega | simp_all
      clear hR hN
      go_wp2
      go_ret
      exact ⟨by rw [hv.out]; rfl, n1⟩
    | true =>
      replace hN := hide (hN.out.1 rfl)
      go_wp2_with fail
      refine (IC _).mono ?_
      rintro e1 w1 ⟨rfl, rfl⟩
      cases bc with
      | false =>
        have hC : ¬ (0 ≤ co ∧ co ≤ 65536) := fun h => by simpa using hC.out.2 h
        have hv : Hid (R = 4) := by show _ = _; (try have hN := hN.out); rw [← hR.out]; (repeat' split) <;> first | rfl | omega | simp_all
        clear hR hC
        go_wp2
        go_ret
        exact ⟨by rw [hv.out]; rfl, n1⟩
      | true =>
        replace hC := hC.out.1 rfl
        replace hN := hN.out
        by_cases hd : n = 0
        · have hf := hF.out.2 hd
          subst hd
          have hv : Hid (R = 0) := by show _ = _; (try have hN := hN.out); rw [← hR.out]; (repeat' split) <;> first | rfl | omega | simp_all
          clear hR
          go_wp2
          go_ret
          exact ⟨by rw [hv.out]; rfl, n1⟩
        · have hf : ¬ ft = true := fun h => hd (hF.out.1 h)
          have t0 : (0 : Int) < (n : Int) ∨ n = 0 := by omega
          have t2 : decide ((0 : Int) < (n : Int)) = true := by simp; omega
          have hv : Hid (R = 5) := by show _ = _; (try have hN := hN.out); rw [← hR.out]; (repeat' split) <;> first | rfl | omega | simp_all
          clear hR
          go_wp2
          go_ret
          exact ⟨by rw [hv.out]; rfl, n1⟩
  have t3 : (en == 0) = false := by simp [h0]
  have t4 : (en == 1) = false := by simp [h1]
  have hv : Hid (R = 2) := by show _ = _; (try have hN := hN.out); rw [← hR.out]; (repeat' split) <;> first | rfl | omega | simp_all
  clear hR
  go_wp2
  go_ret
  exact ⟨by rw [hv.out]; rfl, n1⟩
set_option maxRecDepth 100000 in
set_option maxHeartbeats 4000000 in
theorem specStep7 (w : World) (en nu co : Int) (a : Option Addr) (n c : Nat) :
    Calls Tryd.prog 5 #[.agg #[.int .i64 7, .int .i64 en, .int .i64 nu, .int .i64 co, .slice a n c]] w fun e w' => e = .returned (.int .i64 (stW 1 65536 0 1 en nu co n)) ∧ Below w.heap.size w w' := by
  have n1 : Below w.heap.size w (w.alloc (.cells #[.int .i64 7, .int .i64 en, .int .i64 nu, .int .i64 co, .slice a n c] 27)) := (Below.refl _ _).alloc (Nat.le_refl _) _
  have P0 : RwC (w.alloc (.cells #[.int .i64 7, .int .i64 en, .int .i64 nu, .int .i64 co, .slice a n c] 27)) w.heap.size [.int .i64 7, .int .i64 en, .int .i64 nu, .int .i64 co, .slice a n c] 27 := RwC.new w _ _
  have IN := fun W => inRange_any W nu 65536
  have IC := fun W => inRange_any W co 0
  have hN := hide (inR_iff nu 65536)
  have hC := hide (inR_iff co 0)
  generalize inR nu 65536 = bn at *
  generalize inR co 0 = bc at *
  have hF : Hid (fitD 1 n = true ↔ n = 1) := by show _ ↔ _; unfold fitD; simp; omega
  generalize hR : stW 1 65536 0 1 en nu co n = R
  unfold stW at hR
  generalize fitD 1 n = ft at *
  replace hR := hide hR
  have p0 : (w.alloc (.cells #[.int .i64 7, .int .i64 en, .int .i64 nu, .int .i64 co, .slice a n c] 27)).cell? ⟨w.heap.size, 0, none⟩ = some (.int .i64 7) := P0.cell 0
  have p1 : (w.alloc (.cells #[.int .i64 7, .int .i64 en, .int .i64 nu, .int .i64 co, .slice a n c] 27)).cell? ⟨w.heap.size, 1, none⟩ = some (.int .i64 en) := P0.cell 1
  have p2 : (w.alloc (.cells #[.int .i64 7, .int .i64 en, .int .i64 nu, .int .i64 co, .slice a n c] 27)).cell? ⟨w.heap.size, 2, none⟩ = some (.int .i64 nu) := P0.cell 2
  have p3 : (w.alloc (.cells #[.int .i64 7, .int .i64 en, .int .i64 nu, .int .i64 co, .slice a n c] 27)).cell? ⟨w.heap.size, 3, none⟩ = some (.int .i64 co) := P0.cell 3
  have p4 : (w.alloc (.cells #[.int .i64 7, .int .i64 en, .int .i64 nu, .int .i64 co, .slice a n c] 27)).cell? ⟨w.heap.size, 4, none⟩ = some (.slice a n c) := P0.cell 4
  clear P0
  go_enter Tryd.func5, Tryd.ntmps5
  go_upto_region 3 with fail
  generalize w.alloc (.cells #[.int .i64 7, .int .i64 en, .int .i64 nu, .int .i64 co, .slice a n c] 27) = wa at *
  by_cases h0 : en = 0
  · subst h0
    go_wp2_with fail
    refine (IN _).mono ?_
    rintro e1 w1 ⟨rfl, rfl⟩
    cases bn with
    | false =>
      have hN : ¬ (0 ≤ nu ∧ nu ≤ 65536) := fun h => by simpa using hN.out.2 h
      have hv : Hid (R = 3) := by show _ = _; (try have hN := hN.out); rw [← hR.out]; (repeat' split) <;> first | rfl | omega | simp_all
      clear hR hN
      go_wp2
      go_ret
      exact ⟨by rw [hv.out]; rfl, n1⟩
    | true =>
      replace hN := hide (hN.out.1 rfl)
      go_wp2_with fail
      refine (IC _).mono ?_
      rintro e1 w1 ⟨rfl, rfl⟩
      cases bc with
      | false =>
        have hC : ¬ (0 ≤ co ∧ co ≤ 0) := fun h => by simpa using hC.out.2 h
        have hv : Hid (R = 4) := by show _ = _; (try have hN := hN.out); rw [← hR.out]; (repeat' split) <;> first | rfl | omega | simp_all
        clear hR hC
        go_wp2
        go_ret
        exact ⟨by rw [hv.out]; rfl, n1⟩
      | true =>
        replace hC := hC.out.1 rfl
        replace hN := hN.out
        by_cases hd : n = 1
        · have hf := hF.out.2 hd
          subst hd
          have hv : Hid (R = 0) := by show _ = _; (try have hN := hN.out); rw [← hR.out]; (repeat' split) <;> first | rfl | omega | simp_all
          clear hR
          go_wp2
          go_ret
          exact ⟨by rw [hv.out]; rfl, n1⟩
        · have hf : ¬ ft = true := fun h => hd (hF.out.1 h)
          have t0 : (0 : Int) < (n : Int) ∨ n = 0 := by omega
          have t1 : ((n : Int) == 1) = false := by simp; omega
          by_cases hz : n = 0
          · subst hz
            have hv : Hid (R = 5) := by show _ = _; (try have hN := hN.out); rw [← hR.out]; (repeat' split) <;> first | rfl | omega | simp_all
            clear hR
            go_wp2
            go_ret
            exact ⟨by rw [hv.out]; rfl, n1⟩
          · have t2 : decide ((0 : Int) < (n : Int)) = true := by simp; omega
            have hv : Hid (R = 5) := by show _ = _; (try have hN := hN.out); rw [← hR.out]; (repeat' split) <;> first | rfl | omega | simp_all
            clear hR
            go_wp2
            go_ret
            exact ⟨by rw [hv.out]; rfl, n1⟩
  by_cases h1 : en = 1
  · subst h1
    go_wp2_with fail
    refine (IN _).mono ?_
    rintro e1 w1 ⟨rfl, rfl⟩
    cases bn with
    | false =>
      have hN : ¬ (0 ≤ nu ∧ nu ≤ 65536) := fun h => by simpa using hN.out.2 h
      have hv : Hid (R = 3) := by show _ = _; (try have hN := hN.out); rw [← hR.out]; (repeat' split) <;> first | rfl | omega | simp_all
      clear hR hN
      go_wp2
      go_ret
      exact ⟨by rw [hv.out]; rfl, n1⟩
    | true =>
      replace hN := hide (hN.out.1 rfl)
      go_wp2_with fail
      refine (IC _).mono ?_
      rintro e1 w1 ⟨rfl, rfl⟩
      cases bc with
      | false =>
        have hC : ¬ (0 ≤ co ∧ co ≤ 0) := fun h => by simpa using hC.out.2 h
        have hv : Hid (R = 4) := by show _ = _; (try have hN := hN.out); rw [← hR.out]; (repeat' split) <;> first | rfl | omega | simp_all
        clear hR hC
        go_wp2
        go_ret
        exact ⟨by rw [hv.out]; rfl, n1⟩
      | true =>
        replace hC := hC.out.1 rfl
        replace hN := hN.out
        by_cases hd : n = 1
        · have hf := hF.out.2 hd
          subst hd
          have hv : Hid (R = 0) := by show _ = _; (try have hN := hN.out); rw [← hR.out]; (repeat' split) <;> first | rfl | omega | simp_all
          clear hR
          go_wp2
          go_ret
          exact ⟨by rw [hv.out]; rfl, n1⟩
        · have hf : ¬ ft = true := fun h => hd (hF.out.1 h)
          have t0 : (0 : Int) < (n : Int) ∨ n = 0 := by omega
          have t1 : ((n : Int) == 1) = false := by simp; omega
          by_cases hz : n = 0
          · subst hz
            have hv : Hid (R = 5) := by show _ = _; (try have hN := hN.out); rw [← hR.out]; (repeat' split) <;> first | rfl | omega | simp_all
            clear hR
            go_wp2
            go_ret
            exact ⟨by rw [hv.out]; rfl, n1⟩
          · have t2 : decide ((0 : Int) < (n : Int)) = true := by simp; omega
            have hv : Hid (R = 5) := by show _ = _; (try have hN := hN.out); rw [← hR.out]; (repeat' split) <;> first | rfl | omega | simp_all
            clear hR
            go_wp2
            go_ret
            exact ⟨by rw [hv.out]; rfl, n1⟩
  have t3 : (en == 0) = false := by simp [h0]
  have t4 : (en == 1) = false := by simp [h1]
  have hv : Hid (R = 2) := by show _ = _; (try have hN := hN.out); rw [← hR.out]; (repeat' split) <;> first | rfl | omega | simp_all
  clear hR
  go_wp2
  go_ret
  exact ⟨by rw [hv.out]; rfl, n1⟩
set_option maxRecDepth 100000 in
set_option maxHeartbeats 4000000 in
theorem specStep8 (w : World) (en nu co : Int) (a : Option Addr) (n c : Nat) :
    Calls Tryd.prog 5 #[.agg #[.int .i64 8, .int .i64 en, .int .i64 nu, .int .i64 co, .slice a n c]] w fun e w' => e = .returned (.int .i64 (stW 1 0 0 2 en nu co n)) ∧ Below w.heap.size w w' := by
  have n1 : Below w.heap.size w (w.alloc (.cells #[.int .i64 8, .int .i64 en, .int .i64 nu, .int .i64 co, .slice a n c] 27)) := (Below.refl _ _).alloc (Nat.le_refl _) _
  have P0 : RwC (w.alloc (.cells #[.int .i64 8, .int .i64 en, .int .i64 nu, .int .i64 co, .slice a n c] 27)) w.heap.size [.int .i64 8, .int .i64 en, .int .i64 nu, .int .i64 co, .slice a n c] 27 := RwC.new w _ _
  have IN := fun W => inRange_any W nu 0
  have IC := fun W => inRange_any W co 0
  have hN := hide (inR_iff nu 0)
  have hC := hide (inR_iff co 0)
  generalize inR nu 0 = bn at *
  generalize inR co 0 = bc at *
  have hF : Hid (fitD 2 n = true ↔ True) := by show _ ↔ _; unfold fitD; simp
  generalize hR : stW 1 0 0 2 en nu co n = R
  unfold stW at hR
  generalize fitD 2 n = ft at *
  replace hR := hide hR
  have p0 : (w.alloc (.cells #[.int .i64 8, .int .i64 en, .int .i64 nu, .int .i64 co, .slice a n c] 27)).cell? ⟨w.heap.size, 0, none⟩ = some (.int .i64 8) := P0.cell 0
  have p1 : (w.alloc (.cells #[.int .i64 8, .int .i64 en, .int .i64 nu, .int .i64 co, .slice a n c] 27)).cell? ⟨w.heap.size, 1, none⟩ = some (.int .i64 en) := P0.cell 1
  have p2 : (w.alloc (.cells #[.int .i64 8, .int .i64 en, .int .i64 nu, .int .i64 co, .slice a n c] 27)).cell? ⟨w.heap.size, 2, none⟩ = some (.int .i64 nu) := P0.cell 2
  have p3 : (w.alloc (.cells #[.int .i64 8, .int .i64 en, .int .i64 nu, .int .i64 co, .slice a n c] 27)).cell? ⟨w.heap.size, 3, none⟩ = some (.int .i64 co) := P0.cell 3
  have p4 : (w.alloc (.cells #[.int .i64 8, .int .i64 en, .int .i64 nu, .int .i64 co, .slice a n c] 27)).cell? ⟨w.heap.size, 4, none⟩ = some (.slice a n c) := P0.cell 4
  clear P0
  go_enter Tryd.func5, Tryd.ntmps5
  go_upto_region 3 with fail
  generalize w.alloc (.cells #[.int .i64 8, .int .i64 en, .int .i64 nu, .int .i64 co, .slice a n c] 27) = wa at *
  by_cases h0 : en = 0
  · subst h0
    go_wp2_with fail
    refine (IN _).mono ?_
    rintro e1 w1 ⟨rfl, rfl⟩
    cases bn with
    | false =>
      have hN : ¬ (0 ≤ nu ∧ nu ≤ 0) := fun h => by simpa using hN.out.2 h
      have hv : Hid (R = 3) := by show _ = _; (try have hN := hN.out); rw [← hR.out]; (repeat' split) <;> first | rfl | omega | simp_all
      clear hR hN
      go_wp2
      go_ret
      exact ⟨by rw [hv.out]; rfl, n1⟩
    | true =>
      replace hN := hide (hN.out.1 rfl)
      go_wp2_with fail
      refine (IC _).mono ?_
      rintro e1 w1 ⟨rfl, rfl⟩
      cases bc with
      | false =>
        have hC : ¬ (0 ≤ co ∧ co ≤ 0) := fun h => by simpa using hC.out.2 h
        have hv : Hid (R = 4) := by show _ = _; (try have hN := hN.out); rw [← hR.out]; (repeat' split) <;> first | rfl | omega | simp_all
        clear hR hC
        go_wp2
        go_ret
        exact ⟨by rw [hv.out]; rfl, n1⟩
      | true =>
        replace hC := hC.out.1 rfl
        replace hN := hN.out
        have hf := hF.out.2 trivial
        have hv : Hid (R = 0) := by show _ = _; (try have hN := hN.out); rw [← hR.out]; (repeat' split) <;> first | rfl | omega | simp_all
        clear hR
        go_wp2
        go_ret
        exact ⟨by rw [hv.out]; rfl, n1⟩
  by_cases h1 : en = 1
  · subst h1
    go_wp2_with fail
    refine (IN _).mono ?_
    rintro e1 w1 ⟨rfl, rfl⟩
    cases bn with
    | false =>
      have hN : ¬ (0 ≤ nu ∧ nu ≤ 0) := fun h => by simpa using hN.out.2 h
      have hv : Hid (R = 3) := by show _ = _; (try have hN := hN.out); rw [← hR.out]; (repeat' split) <;> first | rfl | omega | simp_all
      clear hR hN
      go_wp2
      go_ret
      exact ⟨by rw [hv.out]; rfl, n1⟩
    | true =>
      replace hN := hide (hN.out.1 rfl)
      go_wp2_with fail
      refine (IC _).mono ?_
      rintro e1 w1 ⟨rfl, rfl⟩
      cases bc with
      | false =>
        have hC : ¬ (0 ≤ co ∧ co ≤ 0) := fun h => by simpa using hC.out.2 h
        have hv : Hid (R = 4) := by show _ = _; (try have hN := hN.out); rw [← hR.out]; (repeat' split) <;> first | rfl | omega | simp_all
        clear hR hC
        go_wp2
        go_ret
        exact ⟨by rw [hv.out]; rfl, n1⟩
      | true =>
        replace hC := hC.out.1 rfl
        replace hN := hN.out
        have hf := hF.out.2 trivial
        have hv : Hid (R = 0) := by show _ = _; (try have hN := hN.out); rw [← hR.out]; (repeat' split) <;> first | rfl | omega | simp_all
        clear hR
        go_wp2
        go_ret
        exact ⟨by rw [hv.out]; rfl, n1⟩
  have t3 : (en == 0) = false := by simp [h0]
  have t4 : (en == 1) = false := by simp [h1]
  have hv : Hid (R = 2) := by show _ = _; (try have hN := hN.out); rw [← hR.out]; (repeat' split) <;> first | rfl | omega | simp_all
  clear hR
  go_wp2
  go_ret
  exact ⟨by rw [hv.out]; rfl, n1⟩
set_option maxRecDepth 100000 in
set_option maxHeartbeats 4000000 in
theorem specStep9 (w : World) (en nu co : Int) (a : Option Addr) (n c : Nat) :
    Calls Tryd.prog 5 #[.agg #[.int .i64 9, .int .i64 en, .int .i64 nu, .int .i64 co, .slice a n c]] w fun e w' => e = .returned (.int .i64 (stW 1 65536 65536 0 en nu co n)) ∧ Below w.heap.size w w' := by
  have n1 : Below w.heap.size w (w.alloc (.cells #[.int .i64 9, .int .i64 en, .int .i64 nu, .int .i64 co, .slice a n c] 27)) := (Below.refl _ _).alloc (Nat.le_refl _) _
  have P0 : RwC (w.alloc (.cells #[.int .i64 9, .int .i64 en, .int .i64 nu, .int .i64 co, .slice a n c] 27)) w.heap.size [.int .i64 9, .int .i64 en, .int .i64 nu, .int .i64 co, .slice a n c] 27 := RwC.new w _ _
  have IN := fun W => inRange_any W nu 65536
  have IC := fun W => inRange_any W co 65536
  have hN := hide (inR_iff nu 65536)
  have hC := hide (inR_iff co 65536)
  generalize inR nu 65536 = bn at *
  generalize inR co 65536 = bc at *
  have hF : Hid (fitD 0 n = true ↔ n = 0) := by show _ ↔ _; unfold fitD; simp
  generalize hR : stW 1 65536 65536 0 en nu co n = R
  unfold stW at hR
  generalize fitD 0 n = ft at *
  replace hR := hide hR
  have p0 : (w.alloc (.cells #[.int .i64 9, .int .i64 en, .int .i64 nu, .int .i64 co, .slice a n c] 27)).cell? ⟨w.heap.size, 0, none⟩ = some (.int .i64 9) := P0.cell 0
  have p1 : (w.alloc (.cells #[.int .i64 9, .int .i64 en, .int .i64 nu, .int .i64 co, .slice a n c] 27)).cell? ⟨w.heap.size, 1, none⟩ = some (.int .i64 en) := P0.cell 1
  have p2 : (w.alloc (.cells #[.int .i64 9, .int .i64 en, .int .i64 nu, .int .i64 co, .slice a n c] 27)).cell? ⟨w.heap.size, 2, none⟩ = some (.int .i64 nu) := P0.cell 2
  have p3 : (w.alloc (.cells #[.int .i64 9, .int .i64 en, .int .i64 nu, .int .i64 co, .slice a n c] 27)).cell? ⟨w.heap.size, 3, none⟩ = some (.int .i64 co) := P0.cell 3
  have p4 : (w.alloc (.cells #[.int .i64 9, .int .i64 en, .int .i64 nu, .int .i64 co, .slice a n c] 27)).cell? ⟨w.heap.size, 4, none⟩ = some (.slice a n c) := P0.cell 4
  clear P0
  go_enter Tryd.func5, Tryd.ntmps5
  go_upto_region 3 with fail
  generalize w.alloc (.cells #[.int .i64 9, .int .i64 en, .int .i64 nu, .int .i64 co, .slice a n c] 27) = wa at *
  by_cases h0 : en = 0
  · subst h0
    go_wp2_with fail
    refine (IN _).mono ?_
    rintro e1 w1 ⟨rfl, rfl⟩
    cases bn with
    | false =>
      have hN : ¬ (0 ≤ nu ∧ nu ≤ 65536) := fun h => by simpa using hN.out.2 h
      have hv : Hid (R = 3) := by show _ = _; (try have hN := hN.out); rw [← hR.out]; (repeat' split) <;> first | rfl | omega | simp_all
      clear hR hN
      go_wp2
      go_ret
      exact ⟨by rw [hv.out]; rfl, n1⟩
    | true =>
      replace hN := hide (hN.out.1 rfl)
      go_wp2_with fail
      refine (IC _).mono ?_
      rintro e1 w1 ⟨rfl, rfl⟩
      cases bc with
      | false =>
        have hC : ¬ (0 ≤ co ∧ co ≤ 65536) := fun h => by simpa using hC.out.2 h
        have hv : Hid (R = 4) := by show _ = _; (try have hN := hN.out); rw [← hR.out]; (repeat' split) <;> first | rfl | omega | simp_all
        clear hR hC
        go_wp2
        go_ret
        exact ⟨by rw [hv.out]; rfl, n1⟩
      | true =>
        replace hC := hC.out.1 rfl
        replace hN := hN.out
        by_cases hd : n = 0
        · have hf := hF.out.2 hd
          subst hd
          have hv : Hid (R = 0) := by show _ = _; (try have hN := hN.out); rw [← hR.out]; (repeat' split) <;> first | rfl | omega | simp_all
          clear hR
          go_wp2
          go_ret
          exact ⟨by rw [hv.out]; rfl, n1⟩
        · have hf : ¬ ft = true := fun h => hd (hF.out.1 h)
          have t0 : (0 : Int) < (n : Int) ∨ n = 0 := by omega
          have t2 : decide ((0 : Int) < (n : Int)) = true := by simp; omega
          have hv : Hid (R = 5) := by show _ = _; (try have hN := hN.out); rw [← hR.out]; (repeat' split) <;> first | rfl | omega | simp_all
          clear hR
          go_wp2
          go_ret
          exact ⟨by rw [hv.out]; rfl, n1⟩
  by_cases h1 : en = 1
  · subst h1
    go_wp2_with fail
    refine (IN _).mono ?_
    rintro e1 w1 ⟨rfl, rfl⟩
    cases bn with
    | false =>
      have hN : ¬ (0 ≤ nu ∧ nu ≤ 65536) := fun h => by simpa using hN.out.2 h
      have hv : Hid (R = 3) := by show _ = _; (try have hN := hN.out); rw [← hR.out]; (repeat' split) <;> first | rfl | omega | simp_all
      clear hR hN
      go_wp2
      go_ret
      exact ⟨by rw [hv.out]; rfl, n1⟩
    | true =>
      replace hN := hide (hN.out.1 rfl)
      go_wp2_with fail
      refine (IC _).mono ?_
      rintro e1 w1 ⟨rfl, rfl⟩
      cases bc with
      | false =>
        have hC : ¬ (0 ≤ co ∧ co ≤ 65536) := fun h => by simpa using hC.out.2 h
        have hv : Hid (R = 4) := by show _ = _; (try have hN := hN.out); rw [← hR.out]; (repeat' split) <;> first | rfl | omega | simp_all
        clear hR hC
        go_wp2
        go_ret
        exact ⟨by rw [hv.out]; rfl, n1⟩
      | true =>
        replace hC := hC.out.1 rfl
        replace hN := hN.out
        by_cases hd : n = 0
        · have hf := hF.out.2 hd
          subst hd
          have hv : Hid (R = 0) := by show _ = _; (try have hN := hN.out); rw [← hR.out]; (repeat' split) <;> first | rfl | omega | simp_all
          clear hR
          go_wp2
          go_ret
          exact ⟨by rw [hv.out]; rfl, n1⟩
        · have hf : ¬ ft = true := fun h => hd (hF.out.1 h)
          have t0 : (0 : Int) < (n : Int) ∨ n = 0 := by omega
          have t2 : decide ((0 : Int) < (n : Int)) = true := by simp; omega
          have hv : Hid (R = 5) := by show _ = _; (try have hN := hN.out); rw [← hR.out]; (repeat' split) <;> first | rfl | omega | simp_all
          clear hR
          go_wp2
          go_ret
          exact ⟨by rw [hv.out]; rfl, n1⟩
  have t3 : (en == 0) = false := by simp [h0]
  have t4 : (en == 1) = false := by simp [h1]
  have hv : Hid (R = 2) := by show _ = _; (try have hN := hN.out); rw [← hR.out]; (repeat' split) <;> first | rfl | omega | simp_all
  clear hR
  go_wp2
  go_ret
  exact ⟨by rw [hv.out]; rfl, n1⟩
set_option maxRecDepth 100000 in
set_option maxHeartbeats 4000000 in
theorem specStep10 (w : World) (en nu co : Int) (a : Option Addr) (n c : Nat) :
    Calls Tryd.prog 5 #[.agg #[.int .i64 10, .int .i64 en, .int .i64 nu, .int .i64 co, .slice a n c]] w fun e w' => e = .returned (.int .i64 (stW 0 0 0 0 en nu co n)) ∧ Below w.heap.size w w' := by
  have n1 : Below w.heap.size w (w.alloc (.cells #[.int .i64 10, .int .i64 en, .int .i64 nu, .int .i64 co, .slice a n c] 27)) := (Below.refl _ _).alloc (Nat.le_refl _) _
  have P0 : RwC (w.alloc (.cells #[.int .i64 10, .int .i64 en, .int .i64 nu, .int .i64 co, .slice a n c] 27)) w.heap.size [.int .i64 10, .int .i64 en, .int .i64 nu, .int .i64 co, .slice a n c] 27 := RwC.new w _ _
  have IN := fun W => inRange_any W nu 0
  have IC := fun W => inRange_any W co 0
  have hN := hide (inR_iff nu 0)
  have hC := hide (inR_iff co 0)
  generalize inR nu 0 = bn at *
  generalize inR co 0 = bc at *
  have hF : Hid (fitD 0 n = true ↔ n = 0) := by show _ ↔ _; unfold fitD; simp
  generalize hR : stW 0 0 0 0 en nu co n = R
  unfold stW at hR
  generalize fitD 0 n = ft at *
  replace hR := hide hR
  have p0 : (w.alloc (.cells #[.int .i64 10, .int .i64 en, .int .i64 nu, .int .i64 co, .slice a n c] 27)).cell? ⟨w.heap.size, 0, none⟩ = some (.int .i64 10) := P0.cell 0
  have p1 : (w.alloc (.cells #[.int .i64 10, .int .i64 en, .int .i64 nu, .int .i64 co, .slice a n c] 27)).cell? ⟨w.heap.size, 1, none⟩ = some (.int .i64 en) := P0.cell 1
  have p2 : (w.alloc (.cells #[.int .i64 10, .int .i64 en, .int .i64 nu, .int .i64 co, .slice a n c] 27)).cell? ⟨w.heap.size, 2, none⟩ = some (.int .i64 nu) := P0.cell 2
  have p3 : (w.alloc (.cells #[.int .i64 10, .int .i64 en, .int .i64 nu, .int .i64 co, .slice a n c] 27)).cell? ⟨w.heap.size, 3, none⟩ = some (.int .i64 co) := P0.cell 3
  have p4 : (w.alloc (.cells #[.int .i64 10, .int .i64 en, .int .i64 nu, .int .i64 co, .slice a n c] 27)).cell? ⟨w.heap.size, 4, none⟩ = some (.slice a n c) := P0.cell 4
  clear P0
  go_enter Tryd.func5, Tryd.ntmps5
  go_upto_region 3 with fail
  generalize w.alloc (.cells #[.int .i64 10, .int .i64 en, .int .i64 nu, .int .i64 co, .slice a n c] 27) = wa at *
  by_cases h0 : en = 0
  · subst h0
    go_wp2_with fail
    refine (IN _).mono ?_
    rintro e1 w1 ⟨rfl, rfl⟩
    cases bn with
    | false =>
      have hN : ¬ (0 ≤ nu ∧ nu ≤ 0) := fun h => by simpa using hN.out.2 h
      have hv : Hid (R = 3) := by show _ = _; (try have hN := hN.out); rw [← hR.out]; (repeat' split) <;> first | rfl | omega | simp_all
      clear hR hN
      go_wp2
      go_ret
      exact ⟨by rw [hv.out]; rfl, n1⟩
    | true =>
      replace hN := hide (hN.out.1 rfl)
      go_wp2_with fail
      refine (IC _).mono ?_
      rintro e1 w1 ⟨rfl, rfl⟩
      cases bc with
      | false =>
        have hC : ¬ (0 ≤ co ∧ co ≤ 0) := fun h => by simpa using hC.out.2 h
        have hv : Hid (R = 4) := by show _ = _; (try have hN := hN.out); rw [← hR.out]; (repeat' split) <;> first | rfl | omega | simp_all
        clear hR hC
        go_wp2
        go_ret
        exact ⟨by rw [hv.out]; rfl, n1⟩
      | true =>
        replace hC := hC.out.1 rfl
        replace hN := hN.out
        by_cases hd : n = 0
        · have hf := hF.out.2 hd
          subst hd
          have hv : Hid (R = 0) := by show _ = _; (try have hN := hN.out); rw [← hR.out]; (repeat' split) <;> first | rfl | omega | simp_all
          clear hR
          go_wp2
          go_ret
          exact ⟨by rw [hv.out]; rfl, n1⟩
        · have hf : ¬ ft = true := fun h => hd (hF.out.1 h)
          have t0 : (0 : Int) < (n : Int) ∨ n = 0 := by omega
          have t2 : decide ((0 : Int) < (n : Int)) = true := by simp; omega
          have hv : Hid (R = 5) := by show _ = _; (try have hN := hN.out); rw [← hR.out]; (repeat' split) <;> first | rfl | omega | simp_all
          clear hR
          go_wp2
          go_ret
          exact ⟨by rw [hv.out]; rfl, n1⟩
  by_cases h1 : en = 1
  · subst h1
    have hv : Hid (R = 2) := by show _ = _; (try have hN := hN.out); rw [← hR.out]; (repeat' split) <;> first | rfl | omega | simp_all
    clear hR
    go_wp2
    go_ret
    exact ⟨by rw [hv.out]; rfl, n1⟩
  have t3 : (en == 0) = false := by simp [h0]
  have t4 : (en == 1) = false := by simp [h1]
  have hv : Hid (R = 2) := by show _ = _; (try have hN := hN.out); rw [← hR.out]; (repeat' split) <;> first | rfl | omega | simp_all
  clear hR
  go_wp2
  go_ret
  exact ⟨by rw [hv.out]; rfl, n1⟩
set_option maxRecDepth 100000 in
theorem specStep_any (w : World) (ki en nu co : Int) (a : Option Addr) (n c : Nat) :
    Calls Tryd.prog 5 #[.agg #[.int .i64 ki, .int .i64 en, .int .i64 nu, .int .i64 co, .slice a n c]] w fun e w' => e = .returned (.int .i64 (stV ki en nu co n)) ∧ Below w.heap.size w w' := by
  have n1 : Below w.heap.size w (w.alloc (.cells #[.int .i64 ki, .int .i64 en, .int .i64 nu, .int .i64 co, .slice a n c] 27)) := (Below.refl _ _).alloc (Nat.le_refl _) _
  by_cases h0 : ki < 1
  · unfold stV
    rw [if_pos h0]
    go_enter Tryd.func5, Tryd.ntmps5
    go_wp2
    go_ret
    exact ⟨rfl, n1⟩
  by_cases h1 : 10 < ki
  · unfold stV
    rw [if_neg h0, if_pos h1]
    go_enter Tryd.func5, Tryd.ntmps5
    go_wp2
    go_ret
    exact ⟨rfl, n1⟩
  clear n1
  obtain rfl | rfl | rfl | rfl | rfl | rfl | rfl | rfl | rfl | rfl : ki = 1 ∨ ki = 2 ∨ ki = 3 ∨ ki = 4 ∨ ki = 5 ∨ ki = 6 ∨ ki = 7 ∨ ki = 8 ∨ ki = 9 ∨ ki = 10 := by omega
  · rw [show stV 1 en nu co n = stW 1 0 0 2 en nu co n by simp [stV, stA, stT]]
    exact specStep1 w en nu co a n c
  · rw [show stV 2 en nu co n = stW 1 0 0 0 en nu co n by simp [stV, stA, stT]]
    exact specStep2 w en nu co a n c
  · rw [show stV 3 en nu co n = stW 1 1 0 0 en nu co n by simp [stV, stA, stT]]
    exact specStep3 w en nu co a n c
  · rw [show stV 4 en nu co n = stW 1 253402300799 0 0 en nu co n by simp [stV, stA, stT]]
    exact specStep4 w en nu co a n c
  · rw [show stV 5 en nu co n = stW 1 0 65536 0 en nu co n by simp [stV, stA, stT]]
    exact specStep5 w en nu co a n c
  · rw [show stV 6 en nu co n = stW 1 0 65536 0 en nu co n by simp [stV, stA, stT]]
    exact specStep6 w en nu co a n c
  · rw [show stV 7 en nu co n = stW 1 65536 0 1 en nu co n by simp [stV, stA, stT]]
    exact specStep7 w en nu co a n c
  · rw [show stV 8 en nu co n = stW 1 0 0 2 en nu co n by simp [stV, stA, stT]]
    exact specStep8 w en nu co a n c
  · rw [show stV 9 en nu co n = stW 1 65536 65536 0 en nu co n by simp [stV, stA, stT]]
    exact specStep9 w en nu co a n c
  · rw [show stV 10 en nu co n = stW 0 0 0 0 en nu co n by simp [stV, stA, stT]]
    exact specStep10 w en nu co a n c
end Go.Proofs.YtojpdongbkdciaaDoor
