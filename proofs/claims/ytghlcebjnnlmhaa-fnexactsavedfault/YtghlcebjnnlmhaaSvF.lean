
/-
  What is saved of a ticket: its fault; the program's and the model's (written by gens/svf.py).
-/
import Derived.Test.YtghlcebjnnlmhaaAgI
import Derived.Test.YtghlcebjnnlmhaaLbC
import Derived.Test.YtghlcebjnnlmhaaLbT
import Derived.Test.YtghlcebjnnlmhaaTcH
import Derived.Deep.DeepCutAuto
namespace Go.Proofs.Ytghlcebjnnlmhaa
open Go Go.RowKit

def isLi (n : Int) : Bool := decide (1 ≤ n) && decide (n ≤ 604800)
theorem isLi_iff (n : Int) : isLi n = true ↔ 1 ≤ n ∧ n ≤ 604800 := by simp [isLi]
set_option maxRecDepth 100000 in
theorem isLife_any (w : World) (n : Int) : Calls Try.prog 13 #[.int .i64 n] w fun e w' => e = .returned (.bool (isLi n)) ∧ w' = w := by
  by_cases h : 1 ≤ n
  · have u : decide (1 ≤ n) = true := decide_eq_true h
    unfold isLi
    rw [u]
    go_enter Try.func13, Try.ntmps13
    go_wp2
    go_ret
    exact ⟨by simp, rfl⟩
  · have u : decide (1 ≤ n) = false := decide_eq_false h
    unfold isLi
    rw [u]
    go_enter Try.func13, Try.ntmps13
    go_wp2
    go_ret
    exact ⟨by simp, rfl⟩
/-- Nothing at all is saved. -/
def noS (b0 b1 b2 b3 b4 b5 b6 b7 : Bool) : Bool := b0 && b1 && b2 && b3 && b4 && b5 && b6 && b7
/-- What is wrong with what is saved. -/
def svV (n n' n'' : Nat) (md li : Int) (ho pr : List UInt8) (ea now : Int) : Int :=
  if noS ((n : Int) == 0) ((n' : Int) == 0) ((n'' : Int) == 0) (md == 0) (li == 0) (ho == []) (pr == []) (ea == 0) = true then 0 else if n = 0 then 1 else if 400 < n then 1 else if n' ≠ 32 then 2 else if n'' ≠ 32 then 2 else if md < 0 then 3 else if now < md then 3 else if isLi li = false then 4 else if nameF ho ≠ 0 then 5 else if 32 < pr.length then 6 else if isAg ea = false then 7 else 0
set_option maxRecDepth 100000 in
set_option maxHeartbeats 4000000 in
theorem isNothing_any (w : World) (md li : Int) (ho pr : List UInt8) (ea : Int) (a : Option Addr) (n c : Nat) (a' : Option Addr) (n' c' : Nat) (a'' : Option Addr) (n'' c'' : Nat) :
    Calls Try.prog 12 #[.agg #[.slice a n c, .slice a' n' c', .slice a'' n'' c'', .int .i64 md, .int .i64 li, .string ⟨⟨ho⟩⟩, .string ⟨⟨pr⟩⟩, .int .i64 ea]] w fun e w' => e = .returned (.bool (noS ((n : Int) == 0) ((n' : Int) == 0) ((n'' : Int) == 0) (md == 0) (li == 0) (ho == []) (pr == []) (ea == 0))) ∧ Below w.heap.size w w' := by
  obtain ⟨b0, t_b0⟩ : ∃ b, ((n : Int) == 0) = b := ⟨_, rfl⟩
  obtain ⟨b1, t_b1⟩ : ∃ b, ((n' : Int) == 0) = b := ⟨_, rfl⟩
  obtain ⟨b2, t_b2⟩ : ∃ b, ((n'' : Int) == 0) = b := ⟨_, rfl⟩
  obtain ⟨b3, t_b3⟩ : ∃ b, (md == 0) = b := ⟨_, rfl⟩
  obtain ⟨b4, t_b4⟩ : ∃ b, (li == 0) = b := ⟨_, rfl⟩
  obtain ⟨b5, t_b5⟩ : ∃ b, (ho == []) = b := ⟨_, rfl⟩
  obtain ⟨b6, t_b6⟩ : ∃ b, (pr == []) = b := ⟨_, rfl⟩
  obtain ⟨b7, t_b7⟩ : ∃ b, (ea == 0) = b := ⟨_, rfl⟩
  have hs := tx_size ho
  have hs' := tx_size pr
  have n1 : Below w.heap.size w (w.alloc (.cells #[.slice a n c, .slice a' n' c', .slice a'' n'' c'', .int .i64 md, .int .i64 li, .string ⟨⟨ho⟩⟩, .string ⟨⟨pr⟩⟩, .int .i64 ea] 27)) := (Below.refl _ _).alloc (Nat.le_refl _) _
  simp only [t_b0, t_b1, t_b2, t_b3, t_b4, t_b5, t_b6, t_b7]
  cases b0 with
  | false =>
    go_enter Try.func12, Try.ntmps12
    go_wp2
    go_ret
    exact ⟨rfl, n1⟩
  | true =>
    cases b1 with
    | false =>
      go_enter Try.func12, Try.ntmps12
      go_wp2
      go_ret
      exact ⟨rfl, n1⟩
    | true =>
      cases b2 with
      | false =>
        go_enter Try.func12, Try.ntmps12
        go_wp2
        go_ret
        exact ⟨rfl, n1⟩
      | true =>
        cases b3 with
        | false =>
          go_enter Try.func12, Try.ntmps12
          go_wp2
          go_ret
          exact ⟨rfl, n1⟩
        | true =>
          cases b4 with
          | false =>
            go_enter Try.func12, Try.ntmps12
            go_wp2
            go_ret
            exact ⟨rfl, n1⟩
          | true =>
            cases b5 with
            | false =>
              go_enter Try.func12, Try.ntmps12
              go_wp2
              go_ret
              exact ⟨rfl, n1⟩
            | true =>
              cases b6 with
              | false =>
                go_enter Try.func12, Try.ntmps12
                go_wp2
                go_ret
                exact ⟨rfl, n1⟩
              | true =>
                cases b7 with
                | false =>
                  go_enter Try.func12, Try.ntmps12
                  go_wp2
                  go_ret
                  exact ⟨rfl, n1⟩
                | true =>
                  go_enter Try.func12, Try.ntmps12
                  go_wp2
                  go_ret
                  exact ⟨rfl, n1⟩
set_option maxRecDepth 100000 in
set_option maxHeartbeats 4000000 in
theorem implSaved_any (w : World) (md li : Int) (ho pr : List UInt8) (ea : Int) (a : Option Addr) (n c : Nat) (a' : Option Addr) (n' c' : Nat) (a'' : Option Addr) (n'' c'' : Nat) (now : Int) (hh : ho.length ≤ 1048576) (hp : pr.length ≤ 1048576) :
    Calls Try.prog 7 #[.agg #[.slice a n c, .slice a' n' c', .slice a'' n'' c'', .int .i64 md, .int .i64 li, .string ⟨⟨ho⟩⟩, .string ⟨⟨pr⟩⟩, .int .i64 ea], .int .i64 now] w fun e w' => e = .returned (.int .i64 (svV n n' n'' md li ho pr ea now)) ∧ Below w.heap.size w w' := by
  have n1 : Below w.heap.size w (w.alloc (.cells #[.slice a n c, .slice a' n' c', .slice a'' n'' c'', .int .i64 md, .int .i64 li, .string ⟨⟨ho⟩⟩, .string ⟨⟨pr⟩⟩, .int .i64 ea] 27)) := (Below.refl _ _).alloc (Nat.le_refl _) _
  have P0 : RwC (w.alloc (.cells #[.slice a n c, .slice a' n' c', .slice a'' n'' c'', .int .i64 md, .int .i64 li, .string ⟨⟨ho⟩⟩, .string ⟨⟨pr⟩⟩, .int .i64 ea] 27)) w.heap.size [.slice a n c, .slice a' n' c', .slice a'' n'' c'', .int .i64 md, .int .i64 li, .string ⟨⟨ho⟩⟩, .string ⟨⟨pr⟩⟩, .int .i64 ea] 27 := RwC.new w _ _
  have hs := tx_size ho
  have hs' := tx_size pr
  obtain ⟨ns, hns⟩ : ∃ b, noS ((n : Int) == 0) ((n' : Int) == 0) ((n'' : Int) == 0) (md == 0) (li == 0) (ho == []) (pr == []) (ea == 0) = b := ⟨_, rfl⟩
  have e : Hid (svV n n' n'' md li ho pr ea now = if ns = true then 0 else if n = 0 then 1 else if 400 < n then 1 else if n' ≠ 32 then 2 else if n'' ≠ 32 then 2 else if md < 0 then 3 else if now < md then 3 else if isLi li = false then 4 else if nameF ho ≠ 0 then 5 else if 32 < pr.length then 6 else if isAg ea = false then 7 else 0) := by rw [← hns]; rfl
  generalize svV n n' n'' md li ho pr ea now = R at *
  have NS : ∀ W, Calls Try.prog 12 #[.agg #[.slice a n c, .slice a' n' c', .slice a'' n'' c'', .int .i64 md, .int .i64 li, .string ⟨⟨ho⟩⟩, .string ⟨⟨pr⟩⟩, .int .i64 ea]] W fun e w' => e = .returned (.bool ns) ∧ Below W.heap.size W w' := fun W => hns ▸ isNothing_any W md li ho pr ea a n c a' n' c' a'' n'' c''
  clear hns
  have LI := fun W => isLife_any W li
  have NM := fun W => implNameFault_any W ho (by omega)
  have AG := fun W => isAge_any W ea
  generalize nameF ho = nf at *
  go_enter Try.func7, Try.ntmps7
  go_wp2_with fail
  generalize w.alloc (.cells #[.slice a n c, .slice a' n' c', .slice a'' n'' c'', .int .i64 md, .int .i64 li, .string ⟨⟨ho⟩⟩, .string ⟨⟨pr⟩⟩, .int .i64 ea] 27) = wa at *
  refine (NS _).mono ?_
  rintro e1 w1 ⟨rfl, m1⟩
  replace n1 := nxt n1 m1
  replace P0 := P0.up m1
  clear m1 NS
  have p0 : w1.cell? ⟨w.heap.size, 0, none⟩ = some (.slice a n c) := P0.cell 0
  have p1 : w1.cell? ⟨w.heap.size, 1, none⟩ = some (.slice a' n' c') := P0.cell 1
  have p2 : w1.cell? ⟨w.heap.size, 2, none⟩ = some (.slice a'' n'' c'') := P0.cell 2
  have p3 : w1.cell? ⟨w.heap.size, 3, none⟩ = some (.int .i64 md) := P0.cell 3
  have p4 : w1.cell? ⟨w.heap.size, 4, none⟩ = some (.int .i64 li) := P0.cell 4
  have p5 : w1.cell? ⟨w.heap.size, 5, none⟩ = some (.string ⟨⟨ho⟩⟩) := P0.cell 5
  have p6 : w1.cell? ⟨w.heap.size, 6, none⟩ = some (.string ⟨⟨pr⟩⟩) := P0.cell 6
  have p7 : w1.cell? ⟨w.heap.size, 7, none⟩ = some (.int .i64 ea) := P0.cell 7
  clear P0
  by_cases h0 : ns = true
  · skip
    have e' : Hid (R = 0) := by show _ = _; rw [e.out, if_pos h0]
    clear e
    subst h0
    go_wp2
    go_ret
    exact ⟨by rw [e'.out]; rfl, n1⟩
  · skip
    have h0' : ns = false := by simpa using h0
    subst h0'
    by_cases h1 : n = 0
    · skip
      have hi1 : decide ((n : Int) = 0) = true := by simp; omega
      have hj1 : ((n : Int) == 0) = true := by simp; omega
      have e' : Hid (R = 1) := by show _ = _; rw [e.out, if_neg h0, if_pos h1]
      clear e
      go_wp2
      go_ret
      exact ⟨by rw [e'.out]; rfl, n1⟩
    · skip
      have hi1 : decide ((n : Int) = 0) = false := by simp; omega
      have hj1 : ((n : Int) == 0) = false := by simp; omega
      by_cases h2 : 400 < n
      · skip
        have hi2 : decide ((400 : Int) < (n : Int)) = true := by simp; omega
        have e' : Hid (R = 1) := by show _ = _; rw [e.out, if_neg h0, if_neg h1, if_pos h2]
        clear e
        go_wp2
        go_ret
        exact ⟨by rw [e'.out]; rfl, n1⟩
      · skip
        have hi2 : decide ((400 : Int) < (n : Int)) = false := by simp; omega
        by_cases h3 : n' ≠ 32
        · skip
          have hi3 : ¬ (n' : Int) = 32 := by omega
          have e' : Hid (R = 2) := by show _ = _; rw [e.out, if_neg h0, if_neg h1, if_neg h2, if_pos h3]
          clear e
          go_wp2
          go_ret
          exact ⟨by rw [e'.out]; rfl, n1⟩
        · skip
          have hk3 : n' = 32 := by omega
          have hi3 : (n' : Int) = 32 := by omega
          clear hk3
          by_cases h4 : n'' ≠ 32
          · skip
            have hi4 : ¬ (n'' : Int) = 32 := by omega
            have e' : Hid (R = 2) := by show _ = _; rw [e.out, if_neg h0, if_neg h1, if_neg h2, if_neg h3, if_pos h4]
            clear e
            go_wp2
            go_ret
            exact ⟨by rw [e'.out]; rfl, n1⟩
          · skip
            have hk4 : n'' = 32 := by omega
            have hi4 : (n'' : Int) = 32 := by omega
            clear hk4
            by_cases h5 : md < 0
            · skip
              have e' : Hid (R = 3) := by show _ = _; rw [e.out, if_neg h0, if_neg h1, if_neg h2, if_neg h3, if_neg h4, if_pos h5]
              clear e
              go_wp2
              go_ret
              exact ⟨by rw [e'.out]; rfl, n1⟩
            · skip
              by_cases h6 : now < md
              · skip
                have e' : Hid (R = 3) := by show _ = _; rw [e.out, if_neg h0, if_neg h1, if_neg h2, if_neg h3, if_neg h4, if_neg h5, if_pos h6]
                clear e
                go_wp2
                go_ret
                exact ⟨by rw [e'.out]; rfl, n1⟩
              · skip
                by_cases h7 : isLi li = false
                · skip
                  simp only [h7] at LI
                  have e' : Hid (R = 4) := by show _ = _; rw [e.out, if_neg h0, if_neg h1, if_neg h2, if_neg h3, if_neg h4, if_neg h5, if_neg h6, if_pos h7]
                  clear e
                  go_wp2_with fail
                  refine (LI _).mono ?_
                  rintro e1 w2 ⟨rfl, rfl⟩
                  go_wp2
                  go_ret
                  exact ⟨by rw [e'.out]; rfl, n1⟩
                · skip
                  simp only [show isLi li = true by simpa using h7] at LI
                  by_cases h8 : nf ≠ 0
                  · skip
                    have hz : ¬ nf = 0 := h8
                    have e' : Hid (R = 5) := by show _ = _; rw [e.out, if_neg h0, if_neg h1, if_neg h2, if_neg h3, if_neg h4, if_neg h5, if_neg h6, if_neg h7, if_pos h8]
                    clear e
                    go_wp2_with fail
                    refine (LI _).mono ?_
                    rintro e1 w2 ⟨rfl, rfl⟩
                    go_wp2_with fail
                    refine (NM _).mono ?_
                    rintro e1 w2 ⟨rfl, rfl⟩
                    go_wp2
                    go_ret
                    exact ⟨by rw [e'.out]; rfl, n1⟩
                  · skip
                    have hz : nf = 0 := by simpa using h8
                    subst hz
                    by_cases h9 : 32 < pr.length
                    · skip
                      have hl5 : decide ((32 : Int) < (pr.length : Int)) = true := by simp; omega
                      have e' : Hid (R = 6) := by show _ = _; rw [e.out, if_neg h0, if_neg h1, if_neg h2, if_neg h3, if_neg h4, if_neg h5, if_neg h6, if_neg h7, if_neg h8, if_pos h9]
                      clear e
                      go_wp2_with fail
                      refine (LI _).mono ?_
                      rintro e1 w2 ⟨rfl, rfl⟩
                      go_wp2_with fail
                      refine (NM _).mono ?_
                      rintro e1 w2 ⟨rfl, rfl⟩
                      go_wp2
                      go_ret
                      exact ⟨by rw [e'.out]; rfl, n1⟩
                    · skip
                      have hl5 : decide ((32 : Int) < (pr.length : Int)) = false := by simp; omega
                      by_cases h10 : isAg ea = false
                      · skip
                        simp only [h10] at AG
                        have e' : Hid (R = 7) := by show _ = _; rw [e.out, if_neg h0, if_neg h1, if_neg h2, if_neg h3, if_neg h4, if_neg h5, if_neg h6, if_neg h7, if_neg h8, if_neg h9, if_pos h10]
                        clear e
                        go_wp2_with fail
                        refine (LI _).mono ?_
                        rintro e1 w2 ⟨rfl, rfl⟩
                        go_wp2_with fail
                        refine (NM _).mono ?_
                        rintro e1 w2 ⟨rfl, rfl⟩
                        go_wp2_with fail
                        refine (AG _).mono ?_
                        rintro e1 w2 ⟨rfl, rfl⟩
                        go_wp2
                        go_ret
                        exact ⟨by rw [e'.out]; rfl, n1⟩
                      · skip
                        simp only [show isAg ea = true by simpa using h10] at AG
                        have e' : Hid (R = 0) := by show _ = _; rw [e.out, if_neg h0, if_neg h1, if_neg h2, if_neg h3, if_neg h4, if_neg h5, if_neg h6, if_neg h7, if_neg h8, if_neg h9, if_neg h10]
                        clear e
                        go_wp2_with fail
                        refine (LI _).mono ?_
                        rintro e1 w2 ⟨rfl, rfl⟩
                        go_wp2_with fail
                        refine (NM _).mono ?_
                        rintro e1 w2 ⟨rfl, rfl⟩
                        go_wp2_with fail
                        refine (AG _).mono ?_
                        rintro e1 w2 ⟨rfl, rfl⟩
                        go_wp2
                        go_ret
                        exact ⟨by rw [e'.out]; rfl, n1⟩
set_option maxRecDepth 100000 in
set_option maxHeartbeats 4000000 in
theorem specSaved_any (w : World) (md li : Int) (ho pr : List UInt8) (ea : Int) (a : Option Addr) (n c : Nat) (a' : Option Addr) (n' c' : Nat) (a'' : Option Addr) (n'' c'' : Nat) (now : Int) (hh : ho.length ≤ 1048576) (hp : pr.length ≤ 1048576) :
    Calls Try.prog 5 #[.agg #[.slice a n c, .slice a' n' c', .slice a'' n'' c'', .int .i64 md, .int .i64 li, .string ⟨⟨ho⟩⟩, .string ⟨⟨pr⟩⟩, .int .i64 ea], .int .i64 now] w fun e w' => e = .returned (.int .i64 (svV n n' n'' md li ho pr ea now)) ∧ Below w.heap.size w w' := by
  have n1 : Below w.heap.size w (w.alloc (.cells #[.slice a n c, .slice a' n' c', .slice a'' n'' c'', .int .i64 md, .int .i64 li, .string ⟨⟨ho⟩⟩, .string ⟨⟨pr⟩⟩, .int .i64 ea] 27)) := (Below.refl _ _).alloc (Nat.le_refl _) _
  have P0 : RwC (w.alloc (.cells #[.slice a n c, .slice a' n' c', .slice a'' n'' c'', .int .i64 md, .int .i64 li, .string ⟨⟨ho⟩⟩, .string ⟨⟨pr⟩⟩, .int .i64 ea] 27)) w.heap.size [.slice a n c, .slice a' n' c', .slice a'' n'' c'', .int .i64 md, .int .i64 li, .string ⟨⟨ho⟩⟩, .string ⟨⟨pr⟩⟩, .int .i64 ea] 27 := RwC.new w _ _
  have hs := tx_size ho
  have hs' := tx_size pr
  obtain ⟨ns, hns⟩ : ∃ b, noS ((n : Int) == 0) ((n' : Int) == 0) ((n'' : Int) == 0) (md == 0) (li == 0) (ho == []) (pr == []) (ea == 0) = b := ⟨_, rfl⟩
  have e : Hid (svV n n' n'' md li ho pr ea now = if ns = true then 0 else if n = 0 then 1 else if 400 < n then 1 else if n' ≠ 32 then 2 else if n'' ≠ 32 then 2 else if md < 0 then 3 else if now < md then 3 else if isLi li = false then 4 else if nameF ho ≠ 0 then 5 else if 32 < pr.length then 6 else if isAg ea = false then 7 else 0) := by rw [← hns]; rfl
  generalize svV n n' n'' md li ho pr ea now = R at *
  have NM := fun W => specNameFault_any W ho (by omega)
  have ili := isLi_iff li
  have iag := isAg_iff ea
  generalize nameF ho = nf at *
  go_enter Try.func5, Try.ntmps5
  go_upto_region 1 with fail
  go_cut [45] (fun x wc => x = .bool ns ∧ wc = w.alloc (.cells #[.slice a n c, .slice a' n' c', .slice a'' n'' c'', .int .i64 md, .int .i64 li, .string ⟨⟨ho⟩⟩, .string ⟨⟨pr⟩⟩, .int .i64 ea] 27))
  case first =>
    clear e NM ili iag
    obtain ⟨b0, t_b0⟩ : ∃ b, ((n : Int) == 0) = b := ⟨_, rfl⟩
    obtain ⟨b1, t_b1⟩ : ∃ b, ((n' : Int) == 0) = b := ⟨_, rfl⟩
    obtain ⟨b2, t_b2⟩ : ∃ b, ((n'' : Int) == 0) = b := ⟨_, rfl⟩
    obtain ⟨b3, t_b3⟩ : ∃ b, (md == 0) = b := ⟨_, rfl⟩
    obtain ⟨b4, t_b4⟩ : ∃ b, (li == 0) = b := ⟨_, rfl⟩
    obtain ⟨b5, t_b5⟩ : ∃ b, (ho == []) = b := ⟨_, rfl⟩
    obtain ⟨b6, t_b6⟩ : ∃ b, (pr == []) = b := ⟨_, rfl⟩
    obtain ⟨b7, t_b7⟩ : ∃ b, (ea == 0) = b := ⟨_, rfl⟩
    simp only [t_b0, t_b1, t_b2, t_b3, t_b4, t_b5, t_b6, t_b7] at hns
    subst hns
    cases b0 with
    | false =>
      go_wp2
      all_goals (go_meet; exact ⟨rfl, rfl⟩)
    | true =>
      cases b1 with
      | false =>
        go_wp2
        all_goals (go_meet; exact ⟨rfl, rfl⟩)
      | true =>
        cases b2 with
        | false =>
          go_wp2
          all_goals (go_meet; exact ⟨rfl, rfl⟩)
        | true =>
          cases b3 with
          | false =>
            go_wp2
            all_goals (go_meet; exact ⟨rfl, rfl⟩)
          | true =>
            cases b4 with
            | false =>
              go_wp2
              all_goals (go_meet; exact ⟨rfl, rfl⟩)
            | true =>
              cases b5 with
              | false =>
                go_wp2
                all_goals (go_meet; exact ⟨rfl, rfl⟩)
              | true =>
                cases b6 with
                | false =>
                  go_wp2
                  all_goals (go_meet; exact ⟨rfl, rfl⟩)
                | true =>
                  cases b7 with
                  | false =>
                    go_wp2
                    all_goals (go_meet; exact ⟨rfl, rfl⟩)
                  | true =>
                    go_wp2
                    all_goals (go_meet; exact ⟨rfl, rfl⟩)
  case rest =>
    obtain ⟨rfl, hw⟩ := hcut
    subst hw
    clear hns
    generalize w.alloc (.cells #[.slice a n c, .slice a' n' c', .slice a'' n'' c'', .int .i64 md, .int .i64 li, .string ⟨⟨ho⟩⟩, .string ⟨⟨pr⟩⟩, .int .i64 ea] 27) = wa at *
    have p0 : wa.cell? ⟨w.heap.size, 0, none⟩ = some (.slice a n c) := P0.cell 0
    have p1 : wa.cell? ⟨w.heap.size, 1, none⟩ = some (.slice a' n' c') := P0.cell 1
    have p2 : wa.cell? ⟨w.heap.size, 2, none⟩ = some (.slice a'' n'' c'') := P0.cell 2
    have p3 : wa.cell? ⟨w.heap.size, 3, none⟩ = some (.int .i64 md) := P0.cell 3
    have p4 : wa.cell? ⟨w.heap.size, 4, none⟩ = some (.int .i64 li) := P0.cell 4
    have p5 : wa.cell? ⟨w.heap.size, 5, none⟩ = some (.string ⟨⟨ho⟩⟩) := P0.cell 5
    have p6 : wa.cell? ⟨w.heap.size, 6, none⟩ = some (.string ⟨⟨pr⟩⟩) := P0.cell 6
    have p7 : wa.cell? ⟨w.heap.size, 7, none⟩ = some (.int .i64 ea) := P0.cell 7
    by_cases h0 : ns = true
    · skip
      have e' : Hid (R = 0) := by show _ = _; rw [e.out, if_pos h0]
      clear e
      subst h0
      go_wp2
      go_ret
      exact ⟨by rw [e'.out]; rfl, n1⟩
    · skip
      have h0' : ns = false := by simpa using h0
      subst h0'
      by_cases h1 : n = 0
      · skip
        have hi1 : decide ((n : Int) = 0) = true := by simp; omega
        have hj1 : ((n : Int) == 0) = true := by simp; omega
        have e' : Hid (R = 1) := by show _ = _; rw [e.out, if_neg h0, if_pos h1]
        clear e
        go_wp2
        go_ret
        exact ⟨by rw [e'.out]; rfl, n1⟩
      · skip
        have hi1 : decide ((n : Int) = 0) = false := by simp; omega
        have hj1 : ((n : Int) == 0) = false := by simp; omega
        by_cases h2 : 400 < n
        · skip
          have hi2 : decide ((400 : Int) < (n : Int)) = true := by simp; omega
          have e' : Hid (R = 1) := by show _ = _; rw [e.out, if_neg h0, if_neg h1, if_pos h2]
          clear e
          go_wp2
          go_ret
          exact ⟨by rw [e'.out]; rfl, n1⟩
        · skip
          have hi2 : decide ((400 : Int) < (n : Int)) = false := by simp; omega
          by_cases h3 : n' ≠ 32
          · skip
            have hi3 : ¬ (n' : Int) = 32 := by omega
            have e' : Hid (R = 2) := by show _ = _; rw [e.out, if_neg h0, if_neg h1, if_neg h2, if_pos h3]
            clear e
            go_wp2
            go_ret
            exact ⟨by rw [e'.out]; rfl, n1⟩
          · skip
            have hk3 : n' = 32 := by omega
            have hi3 : (n' : Int) = 32 := by omega
            clear hk3
            by_cases h4 : n'' ≠ 32
            · skip
              have hi4 : ¬ (n'' : Int) = 32 := by omega
              have e' : Hid (R = 2) := by show _ = _; rw [e.out, if_neg h0, if_neg h1, if_neg h2, if_neg h3, if_pos h4]
              clear e
              go_wp2
              go_ret
              exact ⟨by rw [e'.out]; rfl, n1⟩
            · skip
              have hk4 : n'' = 32 := by omega
              have hi4 : (n'' : Int) = 32 := by omega
              clear hk4
              by_cases h5 : md < 0
              · skip
                have e' : Hid (R = 3) := by show _ = _; rw [e.out, if_neg h0, if_neg h1, if_neg h2, if_neg h3, if_neg h4, if_pos h5]
                clear e
                go_wp2
                go_ret
                exact ⟨by rw [e'.out]; rfl, n1⟩
              · skip
                by_cases h6 : now < md
                · skip
                  have e' : Hid (R = 3) := by show _ = _; rw [e.out, if_neg h0, if_neg h1, if_neg h2, if_neg h3, if_neg h4, if_neg h5, if_pos h6]
                  clear e
                  go_wp2
                  go_ret
                  exact ⟨by rw [e'.out]; rfl, n1⟩
                · skip
                  by_cases h7 : isLi li = false
                  · skip
                    by_cases hl : li < 1
                    · skip
                      have e' : Hid (R = 4) := by show _ = _; rw [e.out, if_neg h0, if_neg h1, if_neg h2, if_neg h3, if_neg h4, if_neg h5, if_neg h6, if_pos h7]
                      clear e
                      go_wp2
                      go_ret
                      exact ⟨by rw [e'.out]; rfl, n1⟩
                    · have hg : 604800 < li := by
                        have : ¬ (1 ≤ li ∧ li ≤ 604800) := fun q => by rw [ili.2 q] at h7; cases h7
                        omega
                      have e' : Hid (R = 4) := by show _ = _; rw [e.out, if_neg h0, if_neg h1, if_neg h2, if_neg h3, if_neg h4, if_neg h5, if_neg h6, if_pos h7]
                      clear e
                      go_wp2
                      go_ret
                      exact ⟨by rw [e'.out]; rfl, n1⟩
                  · skip
                    have b7 := ili.1 (show isLi li = true by simpa using h7)
                    have c7 := b7.1
                    have d7 := b7.2
                    by_cases h8 : nf ≠ 0
                    · skip
                      have hz : ¬ nf = 0 := h8
                      have e' : Hid (R = 5) := by show _ = _; rw [e.out, if_neg h0, if_neg h1, if_neg h2, if_neg h3, if_neg h4, if_neg h5, if_neg h6, if_neg h7, if_pos h8]
                      clear e
                      go_wp2_with fail
                      refine (NM _).mono ?_
                      rintro e1 w1 ⟨rfl, m1⟩
                      replace n1 := nxt n1 m1
                      replace P0 := P0.up m1
                      have r6 : w1.cell? ⟨w.heap.size, 6, none⟩ = some (.string ⟨⟨pr⟩⟩) := P0.cell 6
                      have r7 : w1.cell? ⟨w.heap.size, 7, none⟩ = some (.int .i64 ea) := P0.cell 7
                      go_wp2
                      go_ret
                      exact ⟨by rw [e'.out]; rfl, n1⟩
                    · skip
                      have hz : nf = 0 := by simpa using h8
                      subst hz
                      by_cases h9 : 32 < pr.length
                      · skip
                        have hl5 : decide ((32 : Int) < (pr.length : Int)) = true := by simp; omega
                        have e' : Hid (R = 6) := by show _ = _; rw [e.out, if_neg h0, if_neg h1, if_neg h2, if_neg h3, if_neg h4, if_neg h5, if_neg h6, if_neg h7, if_neg h8, if_pos h9]
                        clear e
                        go_wp2_with fail
                        refine (NM _).mono ?_
                        rintro e1 w1 ⟨rfl, m1⟩
                        replace n1 := nxt n1 m1
                        replace P0 := P0.up m1
                        have r6 : w1.cell? ⟨w.heap.size, 6, none⟩ = some (.string ⟨⟨pr⟩⟩) := P0.cell 6
                        have r7 : w1.cell? ⟨w.heap.size, 7, none⟩ = some (.int .i64 ea) := P0.cell 7
                        go_wp2
                        go_ret
                        exact ⟨by rw [e'.out]; rfl, n1⟩
                      · skip
                        have hl5 : decide ((32 : Int) < (pr.length : Int)) = false := by simp; omega
                        by_cases h10 : isAg ea = false
                        · skip
                          by_cases hl : ea < 0
                          · skip
                            have e' : Hid (R = 7) := by show _ = _; rw [e.out, if_neg h0, if_neg h1, if_neg h2, if_neg h3, if_neg h4, if_neg h5, if_neg h6, if_neg h7, if_neg h8, if_neg h9, if_pos h10]
                            clear e
                            go_wp2_with fail
                            refine (NM _).mono ?_
                            rintro e1 w1 ⟨rfl, m1⟩
                            replace n1 := nxt n1 m1
                            replace P0 := P0.up m1
                            have r6 : w1.cell? ⟨w.heap.size, 6, none⟩ = some (.string ⟨⟨pr⟩⟩) := P0.cell 6
                            have r7 : w1.cell? ⟨w.heap.size, 7, none⟩ = some (.int .i64 ea) := P0.cell 7
                            go_wp2
                            go_ret
                            exact ⟨by rw [e'.out]; rfl, n1⟩
                          · have hg : 4294967295 < ea := by
                              have : ¬ (0 ≤ ea ∧ ea ≤ 4294967295) := fun q => by rw [iag.2 q] at h10; cases h10
                              omega
                            have e' : Hid (R = 7) := by show _ = _; rw [e.out, if_neg h0, if_neg h1, if_neg h2, if_neg h3, if_neg h4, if_neg h5, if_neg h6, if_neg h7, if_neg h8, if_neg h9, if_pos h10]
                            clear e
                            go_wp2_with fail
                            refine (NM _).mono ?_
                            rintro e1 w1 ⟨rfl, m1⟩
                            replace n1 := nxt n1 m1
                            replace P0 := P0.up m1
                            have r6 : w1.cell? ⟨w.heap.size, 6, none⟩ = some (.string ⟨⟨pr⟩⟩) := P0.cell 6
                            have r7 : w1.cell? ⟨w.heap.size, 7, none⟩ = some (.int .i64 ea) := P0.cell 7
                            go_wp2
                            go_ret
                            exact ⟨by rw [e'.out]; rfl, n1⟩
                        · skip
                          have b10 := iag.1 (show isAg ea = true by simpa using h10)
                          have c10 := b10.1
                          have d10 := b10.2
                          have e' : Hid (R = 0) := by show _ = _; rw [e.out, if_neg h0, if_neg h1, if_neg h2, if_neg h3, if_neg h4, if_neg h5, if_neg h6, if_neg h7, if_neg h8, if_neg h9, if_neg h10]
                          clear e
                          go_wp2_with fail
                          refine (NM _).mono ?_
                          rintro e1 w1 ⟨rfl, m1⟩
                          replace n1 := nxt n1 m1
                          replace P0 := P0.up m1
                          have r6 : w1.cell? ⟨w.heap.size, 6, none⟩ = some (.string ⟨⟨pr⟩⟩) := P0.cell 6
                          have r7 : w1.cell? ⟨w.heap.size, 7, none⟩ = some (.int .i64 ea) := P0.cell 7
                          go_wp2
                          go_ret
                          exact ⟨by rw [e'.out]; rfl, n1⟩
end Go.Proofs.Ytghlcebjnnlmhaa
