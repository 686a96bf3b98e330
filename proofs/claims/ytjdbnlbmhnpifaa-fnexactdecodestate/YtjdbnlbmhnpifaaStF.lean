
/-
  A ticket's state: its fault; the program's and the model's (written by gens/stf.py).
-/
import Derived.Test.YtjdbnlbmhnpifaaAgI
import Derived.Test.YtjdbnlbmhnpifaaLbC
import Derived.Test.YtjdbnlbmhnpifaaLbT
import Derived.Test.YtjdbnlbmhnpifaaTcH
import Derived.Deep.DeepCutAuto
namespace Go.Proofs.Ytjdbnlbmhnpifaa
open Go Go.RowKit

def isTm (n : Int) : Bool := decide (0 ≤ n) && decide (n ≤ 253402300799)
def isLi (n : Int) : Bool := decide (1 ≤ n) && decide (n ≤ 604800)
theorem isTm_iff (n : Int) : isTm n = true ↔ 0 ≤ n ∧ n ≤ 253402300799 := by simp [isTm]
theorem isLi_iff (n : Int) : isLi n = true ↔ 1 ≤ n ∧ n ≤ 604800 := by simp [isLi]
theorem isTime_any (w : World) (n : Int) : Calls Try.prog 25 #[.int .i64 n] w fun e w' => e = .returned (.bool (isTm n)) ∧ w' = w := by
  by_cases h : 0 ≤ n
  · have u : decide (0 ≤ n) = true := decide_eq_true h
    unfold isTm
    rw [u]
    go_enter Try.func25, Try.ntmps25
    go_wp2
    go_ret
    exact ⟨by simp, rfl⟩
  · have u : decide (0 ≤ n) = false := decide_eq_false h
    unfold isTm
    rw [u]
    go_enter Try.func25, Try.ntmps25
    go_wp2
    go_ret
    exact ⟨by simp, rfl⟩
theorem isLife_any (w : World) (n : Int) : Calls Try.prog 26 #[.int .i64 n] w fun e w' => e = .returned (.bool (isLi n)) ∧ w' = w := by
  by_cases h : 1 ≤ n
  · have u : decide (1 ≤ n) = true := decide_eq_true h
    unfold isLi
    rw [u]
    go_enter Try.func26, Try.ntmps26
    go_wp2
    go_ret
    exact ⟨by simp, rfl⟩
  · have u : decide (1 ≤ n) = false := decide_eq_false h
    unfold isLi
    rw [u]
    go_enter Try.func26, Try.ntmps26
    go_wp2
    go_ret
    exact ⟨by simp, rfl⟩
/-- A state's fault. -/
def sfV (n n' : Nat) (md li : Int) (ho : List UInt8) (p : Nat) (ea : Int) : Int :=
  if n ≠ 32 ∨ n' ≠ 32 then 1 else if isTm md = false then 2 else if isLi li = false then 3 else if nameF ho ≠ 0 then 4 else if 32 < p then 5 else if isAg ea = false then 6 else 0
set_option maxHeartbeats 2000000 in
theorem implState_any (w : World) (md li : Int) (ho pr : List UInt8) (ea : Int) (a : Option Addr) (n c : Nat) (a' : Option Addr) (n' c' : Nat) (hh : ho.length ≤ 1048576) (hp : pr.length ≤ 1048576) :
    Calls Try.prog 9 #[.agg #[.slice a n c, .slice a' n' c', .int .i64 md, .int .i64 li, .string ⟨⟨ho⟩⟩, .string ⟨⟨pr⟩⟩, .int .i64 ea]] w fun e w' => e = .returned (.int .i64 (sfV n n' md li ho pr.length ea)) ∧ Below w.heap.size w w' := by
  have n1 : Below w.heap.size w (w.alloc (.cells #[.slice a n c, .slice a' n' c', .int .i64 md, .int .i64 li, .string ⟨⟨ho⟩⟩, .string ⟨⟨pr⟩⟩, .int .i64 ea] 27)) := (Below.refl _ _).alloc (Nat.le_refl _) _
  have P0 : RwC (w.alloc (.cells #[.slice a n c, .slice a' n' c', .int .i64 md, .int .i64 li, .string ⟨⟨ho⟩⟩, .string ⟨⟨pr⟩⟩, .int .i64 ea] 27)) w.heap.size [.slice a n c, .slice a' n' c', .int .i64 md, .int .i64 li, .string ⟨⟨ho⟩⟩, .string ⟨⟨pr⟩⟩, .int .i64 ea] 27 := RwC.new w _ _
  have e : Hid (sfV n n' md li ho pr.length ea = if n ≠ 32 ∨ n' ≠ 32 then 1 else if isTm md = false then 2 else if isLi li = false then 3 else if nameF ho ≠ 0 then 4 else if 32 < pr.length then 5 else if isAg ea = false then 6 else 0) := rfl
  generalize sfV n n' md li ho pr.length ea = R at *
  have hs := tx_size ho
  have hs' := tx_size pr
  have TI := fun W => isTime_any W md
  have LI := fun W => isLife_any W li
  have NM := fun W => implNameFault_any W ho (by omega)
  have AG := fun W => isAge_any W ea
  generalize nameF ho = nf at *
  by_cases h0 : n ≠ 32
  · skip
    have hi0 : ¬ (n : Int) = 32 := by omega
    have e' : Hid (R = 1) := by show _ = _; rw [e.out, if_pos (show n ≠ 32 ∨ n' ≠ 32 by omega)]
    clear e
    go_enter Try.func9, Try.ntmps9
    go_wp2
    go_ret
    exact ⟨by rw [e'.out]; rfl, n1⟩
  · skip
    obtain rfl : n = 32 := by omega
    by_cases h1 : n' ≠ 32
    · skip
      have hi1 : ¬ (n' : Int) = 32 := by omega
      have e' : Hid (R = 1) := by show _ = _; rw [e.out, if_pos (show (32 : Nat) ≠ 32 ∨ n' ≠ 32 by omega)]
      clear e
      go_enter Try.func9, Try.ntmps9
      go_wp2
      go_ret
      exact ⟨by rw [e'.out]; rfl, n1⟩
    · skip
      obtain rfl : n' = 32 := by omega
      by_cases h2 : isTm md = false
      · skip
        simp only [h2] at TI
        have e' : Hid (R = 2) := by show _ = _; rw [e.out, if_neg (show ¬ ((32 : Nat) ≠ 32 ∨ (32 : Nat) ≠ 32) by omega), if_pos h2]
        clear e
        go_enter Try.func9, Try.ntmps9
        go_wp2_with fail
        refine (TI _).mono ?_
        rintro e1 w1 ⟨rfl, rfl⟩
        go_wp2
        go_ret
        exact ⟨by rw [e'.out]; rfl, n1⟩
      · skip
        simp only [show isTm md = true by simpa using h2] at TI
        by_cases h3 : isLi li = false
        · skip
          simp only [h3] at LI
          have e' : Hid (R = 3) := by show _ = _; rw [e.out, if_neg (show ¬ ((32 : Nat) ≠ 32 ∨ (32 : Nat) ≠ 32) by omega), if_neg h2, if_pos h3]
          clear e
          go_enter Try.func9, Try.ntmps9
          go_wp2_with fail
          refine (TI _).mono ?_
          rintro e1 w1 ⟨rfl, rfl⟩
          go_wp2_with fail
          refine (LI _).mono ?_
          rintro e1 w1 ⟨rfl, rfl⟩
          go_wp2
          go_ret
          exact ⟨by rw [e'.out]; rfl, n1⟩
        · skip
          simp only [show isLi li = true by simpa using h3] at LI
          by_cases h4 : nf ≠ 0
          · skip
            have hz : ¬ nf = 0 := h4
            have e' : Hid (R = 4) := by show _ = _; rw [e.out, if_neg (show ¬ ((32 : Nat) ≠ 32 ∨ (32 : Nat) ≠ 32) by omega), if_neg h2, if_neg h3, if_pos h4]
            clear e
            go_enter Try.func9, Try.ntmps9
            go_wp2_with fail
            refine (TI _).mono ?_
            rintro e1 w1 ⟨rfl, rfl⟩
            go_wp2_with fail
            refine (LI _).mono ?_
            rintro e1 w1 ⟨rfl, rfl⟩
            go_wp2_with fail
            refine (NM _).mono ?_
            rintro e1 w1 ⟨rfl, rfl⟩
            go_wp2
            go_ret
            exact ⟨by rw [e'.out]; rfl, n1⟩
          · skip
            obtain rfl : nf = 0 := by simpa using h4
            by_cases h5 : 32 < pr.length
            · skip
              have hl5 : decide ((32 : Int) < (pr.length : Int)) = true := by simp; omega
              have e' : Hid (R = 5) := by show _ = _; rw [e.out, if_neg (show ¬ ((32 : Nat) ≠ 32 ∨ (32 : Nat) ≠ 32) by omega), if_neg h2, if_neg h3, if_neg h4, if_pos h5]
              clear e
              go_enter Try.func9, Try.ntmps9
              go_wp2_with fail
              refine (TI _).mono ?_
              rintro e1 w1 ⟨rfl, rfl⟩
              go_wp2_with fail
              refine (LI _).mono ?_
              rintro e1 w1 ⟨rfl, rfl⟩
              go_wp2_with fail
              refine (NM _).mono ?_
              rintro e1 w1 ⟨rfl, rfl⟩
              go_wp2
              go_ret
              exact ⟨by rw [e'.out]; rfl, n1⟩
            · skip
              have hl5 : decide ((32 : Int) < (pr.length : Int)) = false := by simp; omega
              by_cases h6 : isAg ea = false
              · skip
                simp only [h6] at AG
                have e' : Hid (R = 6) := by show _ = _; rw [e.out, if_neg (show ¬ ((32 : Nat) ≠ 32 ∨ (32 : Nat) ≠ 32) by omega), if_neg h2, if_neg h3, if_neg h4, if_neg h5, if_pos h6]
                clear e
                go_enter Try.func9, Try.ntmps9
                go_wp2_with fail
                refine (TI _).mono ?_
                rintro e1 w1 ⟨rfl, rfl⟩
                go_wp2_with fail
                refine (LI _).mono ?_
                rintro e1 w1 ⟨rfl, rfl⟩
                go_wp2_with fail
                refine (NM _).mono ?_
                rintro e1 w1 ⟨rfl, rfl⟩
                go_wp2_with fail
                refine (AG _).mono ?_
                rintro e1 w1 ⟨rfl, rfl⟩
                go_wp2
                go_ret
                exact ⟨by rw [e'.out]; rfl, n1⟩
              · skip
                simp only [show isAg ea = true by simpa using h6] at AG
                have e' : Hid (R = 0) := by show _ = _; rw [e.out, if_neg (show ¬ ((32 : Nat) ≠ 32 ∨ (32 : Nat) ≠ 32) by omega), if_neg h2, if_neg h3, if_neg h4, if_neg h5, if_neg h6]
                clear e
                go_enter Try.func9, Try.ntmps9
                go_wp2_with fail
                refine (TI _).mono ?_
                rintro e1 w1 ⟨rfl, rfl⟩
                go_wp2_with fail
                refine (LI _).mono ?_
                rintro e1 w1 ⟨rfl, rfl⟩
                go_wp2_with fail
                refine (NM _).mono ?_
                rintro e1 w1 ⟨rfl, rfl⟩
                go_wp2_with fail
                refine (AG _).mono ?_
                rintro e1 w1 ⟨rfl, rfl⟩
                go_wp2
                go_ret
                exact ⟨by rw [e'.out]; rfl, n1⟩
set_option maxHeartbeats 2000000 in
theorem specState_any (w : World) (md li : Int) (ho pr : List UInt8) (ea : Int) (a : Option Addr) (n c : Nat) (a' : Option Addr) (n' c' : Nat) (hh : ho.length ≤ 1048576) (hp : pr.length ≤ 1048576) :
    Calls Try.prog 7 #[.agg #[.slice a n c, .slice a' n' c', .int .i64 md, .int .i64 li, .string ⟨⟨ho⟩⟩, .string ⟨⟨pr⟩⟩, .int .i64 ea]] w fun e w' => e = .returned (.int .i64 (sfV n n' md li ho pr.length ea)) ∧ Below w.heap.size w w' := by
  have n1 : Below w.heap.size w (w.alloc (.cells #[.slice a n c, .slice a' n' c', .int .i64 md, .int .i64 li, .string ⟨⟨ho⟩⟩, .string ⟨⟨pr⟩⟩, .int .i64 ea] 27)) := (Below.refl _ _).alloc (Nat.le_refl _) _
  have P0 : RwC (w.alloc (.cells #[.slice a n c, .slice a' n' c', .int .i64 md, .int .i64 li, .string ⟨⟨ho⟩⟩, .string ⟨⟨pr⟩⟩, .int .i64 ea] 27)) w.heap.size [.slice a n c, .slice a' n' c', .int .i64 md, .int .i64 li, .string ⟨⟨ho⟩⟩, .string ⟨⟨pr⟩⟩, .int .i64 ea] 27 := RwC.new w _ _
  have e : Hid (sfV n n' md li ho pr.length ea = if n ≠ 32 ∨ n' ≠ 32 then 1 else if isTm md = false then 2 else if isLi li = false then 3 else if nameF ho ≠ 0 then 4 else if 32 < pr.length then 5 else if isAg ea = false then 6 else 0) := rfl
  generalize sfV n n' md li ho pr.length ea = R at *
  have hs := tx_size ho
  have hs' := tx_size pr
  have NM := fun W => specNameFault_any W ho (by omega)
  have itm := isTm_iff md
  have ili := isLi_iff li
  have iag := isAg_iff ea
  generalize nameF ho = nf at *
  by_cases h0 : n ≠ 32
  · skip
    have hi0 : ¬ (n : Int) = 32 := by omega
    have e' : Hid (R = 1) := by show _ = _; rw [e.out, if_pos (show n ≠ 32 ∨ n' ≠ 32 by omega)]
    clear e
    go_enter Try.func7, Try.ntmps7
    go_wp2
    go_ret
    exact ⟨by rw [e'.out]; rfl, n1⟩
  · skip
    obtain rfl : n = 32 := by omega
    by_cases h1 : n' ≠ 32
    · skip
      have hi1 : ¬ (n' : Int) = 32 := by omega
      have e' : Hid (R = 1) := by show _ = _; rw [e.out, if_pos (show (32 : Nat) ≠ 32 ∨ n' ≠ 32 by omega)]
      clear e
      go_enter Try.func7, Try.ntmps7
      go_wp2
      go_ret
      exact ⟨by rw [e'.out]; rfl, n1⟩
    · skip
      obtain rfl : n' = 32 := by omega
      by_cases h2 : isTm md = false
      · skip
        by_cases hl : md < 0
        · skip
          have e' : Hid (R = 2) := by show _ = _; rw [e.out, if_neg (show ¬ ((32 : Nat) ≠ 32 ∨ (32 : Nat) ≠ 32) by omega), if_pos h2]
          clear e
          go_enter Try.func7, Try.ntmps7
          go_wp2
          go_ret
          exact ⟨by rw [e'.out]; rfl, n1⟩
        · have hg : 253402300799 < md := by
            have : ¬ (0 ≤ md ∧ md ≤ 253402300799) := fun q => by rw [itm.2 q] at h2; cases h2
            omega
          have e' : Hid (R = 2) := by show _ = _; rw [e.out, if_neg (show ¬ ((32 : Nat) ≠ 32 ∨ (32 : Nat) ≠ 32) by omega), if_pos h2]
          clear e
          go_enter Try.func7, Try.ntmps7
          go_wp2
          go_ret
          exact ⟨by rw [e'.out]; rfl, n1⟩
      · skip
        have b2 := itm.1 (show isTm md = true by simpa using h2)
        have c2 := b2.1
        have d2 := b2.2
        by_cases h3 : isLi li = false
        · skip
          by_cases hl : li < 1
          · skip
            have e' : Hid (R = 3) := by show _ = _; rw [e.out, if_neg (show ¬ ((32 : Nat) ≠ 32 ∨ (32 : Nat) ≠ 32) by omega), if_neg h2, if_pos h3]
            clear e
            go_enter Try.func7, Try.ntmps7
            go_wp2
            go_ret
            exact ⟨by rw [e'.out]; rfl, n1⟩
          · have hg : 604800 < li := by
              have : ¬ (1 ≤ li ∧ li ≤ 604800) := fun q => by rw [ili.2 q] at h3; cases h3
              omega
            have e' : Hid (R = 3) := by show _ = _; rw [e.out, if_neg (show ¬ ((32 : Nat) ≠ 32 ∨ (32 : Nat) ≠ 32) by omega), if_neg h2, if_pos h3]
            clear e
            go_enter Try.func7, Try.ntmps7
            go_wp2
            go_ret
            exact ⟨by rw [e'.out]; rfl, n1⟩
        · skip
          have b3 := ili.1 (show isLi li = true by simpa using h3)
          have c3 := b3.1
          have d3 := b3.2
          by_cases h4 : nf ≠ 0
          · skip
            have hz : ¬ nf = 0 := h4
            have e' : Hid (R = 4) := by show _ = _; rw [e.out, if_neg (show ¬ ((32 : Nat) ≠ 32 ∨ (32 : Nat) ≠ 32) by omega), if_neg h2, if_neg h3, if_pos h4]
            clear e
            go_enter Try.func7, Try.ntmps7
            go_wp2_with fail
            generalize w.alloc (.cells #[.slice a 32 c, .slice a' 32 c', .int .i64 md, .int .i64 li, .string ⟨⟨ho⟩⟩, .string ⟨⟨pr⟩⟩, .int .i64 ea] 27) = wa at *
            refine (NM _).mono ?_
            rintro e1 w1 ⟨rfl, m1⟩
            replace n1 := nxt n1 m1
            replace P0 := P0.up m1
            have p5 : w1.cell? ⟨w.heap.size, 5, none⟩ = some (.string ⟨⟨pr⟩⟩) := P0.cell 5
            have p6 : w1.cell? ⟨w.heap.size, 6, none⟩ = some (.int .i64 ea) := P0.cell 6
            go_wp2
            go_ret
            exact ⟨by rw [e'.out]; rfl, n1⟩
          · skip
            obtain rfl : nf = 0 := by simpa using h4
            by_cases h5 : 32 < pr.length
            · skip
              have hl5 : decide ((32 : Int) < (pr.length : Int)) = true := by simp; omega
              have e' : Hid (R = 5) := by show _ = _; rw [e.out, if_neg (show ¬ ((32 : Nat) ≠ 32 ∨ (32 : Nat) ≠ 32) by omega), if_neg h2, if_neg h3, if_neg h4, if_pos h5]
              clear e
              go_enter Try.func7, Try.ntmps7
              go_wp2_with fail
              generalize w.alloc (.cells #[.slice a 32 c, .slice a' 32 c', .int .i64 md, .int .i64 li, .string ⟨⟨ho⟩⟩, .string ⟨⟨pr⟩⟩, .int .i64 ea] 27) = wa at *
              refine (NM _).mono ?_
              rintro e1 w1 ⟨rfl, m1⟩
              replace n1 := nxt n1 m1
              replace P0 := P0.up m1
              have p5 : w1.cell? ⟨w.heap.size, 5, none⟩ = some (.string ⟨⟨pr⟩⟩) := P0.cell 5
              have p6 : w1.cell? ⟨w.heap.size, 6, none⟩ = some (.int .i64 ea) := P0.cell 6
              go_wp2
              go_ret
              exact ⟨by rw [e'.out]; rfl, n1⟩
            · skip
              have hl5 : decide ((32 : Int) < (pr.length : Int)) = false := by simp; omega
              by_cases h6 : isAg ea = false
              · skip
                by_cases hl : ea < 0
                · skip
                  have e' : Hid (R = 6) := by show _ = _; rw [e.out, if_neg (show ¬ ((32 : Nat) ≠ 32 ∨ (32 : Nat) ≠ 32) by omega), if_neg h2, if_neg h3, if_neg h4, if_neg h5, if_pos h6]
                  clear e
                  go_enter Try.func7, Try.ntmps7
                  go_wp2_with fail
                  generalize w.alloc (.cells #[.slice a 32 c, .slice a' 32 c', .int .i64 md, .int .i64 li, .string ⟨⟨ho⟩⟩, .string ⟨⟨pr⟩⟩, .int .i64 ea] 27) = wa at *
                  refine (NM _).mono ?_
                  rintro e1 w1 ⟨rfl, m1⟩
                  replace n1 := nxt n1 m1
                  replace P0 := P0.up m1
                  have p5 : w1.cell? ⟨w.heap.size, 5, none⟩ = some (.string ⟨⟨pr⟩⟩) := P0.cell 5
                  have p6 : w1.cell? ⟨w.heap.size, 6, none⟩ = some (.int .i64 ea) := P0.cell 6
                  go_wp2
                  go_ret
                  exact ⟨by rw [e'.out]; rfl, n1⟩
                · have hg : 4294967295 < ea := by
                    have : ¬ (0 ≤ ea ∧ ea ≤ 4294967295) := fun q => by rw [iag.2 q] at h6; cases h6
                    omega
                  have e' : Hid (R = 6) := by show _ = _; rw [e.out, if_neg (show ¬ ((32 : Nat) ≠ 32 ∨ (32 : Nat) ≠ 32) by omega), if_neg h2, if_neg h3, if_neg h4, if_neg h5, if_pos h6]
                  clear e
                  go_enter Try.func7, Try.ntmps7
                  go_wp2_with fail
                  generalize w.alloc (.cells #[.slice a 32 c, .slice a' 32 c', .int .i64 md, .int .i64 li, .string ⟨⟨ho⟩⟩, .string ⟨⟨pr⟩⟩, .int .i64 ea] 27) = wa at *
                  refine (NM _).mono ?_
                  rintro e1 w1 ⟨rfl, m1⟩
                  replace n1 := nxt n1 m1
                  replace P0 := P0.up m1
                  have p5 : w1.cell? ⟨w.heap.size, 5, none⟩ = some (.string ⟨⟨pr⟩⟩) := P0.cell 5
                  have p6 : w1.cell? ⟨w.heap.size, 6, none⟩ = some (.int .i64 ea) := P0.cell 6
                  go_wp2
                  go_ret
                  exact ⟨by rw [e'.out]; rfl, n1⟩
              · skip
                have b6 := iag.1 (show isAg ea = true by simpa using h6)
                have c6 := b6.1
                have d6 := b6.2
                have e' : Hid (R = 0) := by show _ = _; rw [e.out, if_neg (show ¬ ((32 : Nat) ≠ 32 ∨ (32 : Nat) ≠ 32) by omega), if_neg h2, if_neg h3, if_neg h4, if_neg h5, if_neg h6]
                clear e
                go_enter Try.func7, Try.ntmps7
                go_wp2_with fail
                generalize w.alloc (.cells #[.slice a 32 c, .slice a' 32 c', .int .i64 md, .int .i64 li, .string ⟨⟨ho⟩⟩, .string ⟨⟨pr⟩⟩, .int .i64 ea] 27) = wa at *
                refine (NM _).mono ?_
                rintro e1 w1 ⟨rfl, m1⟩
                replace n1 := nxt n1 m1
                replace P0 := P0.up m1
                have p5 : w1.cell? ⟨w.heap.size, 5, none⟩ = some (.string ⟨⟨pr⟩⟩) := P0.cell 5
                have p6 : w1.cell? ⟨w.heap.size, 6, none⟩ = some (.int .i64 ea) := P0.cell 6
                go_wp2
                go_ret
                exact ⟨by rw [e'.out]; rfl, n1⟩
end Go.Proofs.Ytjdbnlbmhnpifaa
