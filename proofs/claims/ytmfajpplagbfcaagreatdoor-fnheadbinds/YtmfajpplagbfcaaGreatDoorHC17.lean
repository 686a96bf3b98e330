import Derived.Test.YtmfajpplagbfcaaGreatDoorHC4
import Derived.Deep.QuietTactic
import Derived.BigQuiet
namespace Go.Proofs.YtmfajpplagbfcaaGreatDoor
set_option maxRecDepth 100000
open Go Go.RowKit
def kinds : List Int := [1, 2, 4, 5, 8, 11, 15, 20, 24]
set_option maxHeartbeats 1000000 in
theorem l12Has_any (w : World) (g : Nat) (a : Option Addr) (c : Nat) (ls : List Int) (x : Int) (hr : Rd w g a .i64 ls) (hn : ls.length ≤ 1048576) :
    Calls Tryz.prog 54 #[.slice a ls.length c, .int .i64 x] w fun e w' => e = .returned (.bool (decide (x ∈ ls))) ∧ w' = w := by
  go_enter Tryz.func54, Tryz.ntmps54
  go_wp2
  go_loopw [5] (fun i wr => ∃ (k : Nat), k ≤ ls.length ∧ i = .int .i64 k ∧ wr = w ∧ ∀ j, j < k → ls.getD j 0 ≠ x) (fun i _ => ls.length - (intOf i).toNat)
  case atStart => exact ⟨0, Nat.zero_le _, rfl, rfl, fun j hj => absurd hj (by omega)⟩
  case round =>
    obtain ⟨k, hk, rfl, rfl, hne⟩ := hrel
    by_cases hlt : k < ls.length
    · obtain ⟨off, rfl, hc⟩ := hr (by omega)
      have t0 : (k : Int) < (ls.length : Int) := by omega
      have c1 := hc k hlt
      have HNE := hide hne
      clear hne hc hr
      generalize hx : ls.getD k 0 = y at *
      have HX := hide hx
      clear hx
      by_cases hq : y = x
      · subst hq
        have MEM : Hid (decide (y ∈ ls) = true) := by
          show _ = _
          refine decide_eq_true ?_
          rw [← HX.out, List.getD_eq_getElem?_getD, List.getElem?_eq_getElem hlt]
          exact List.getElem_mem hlt
        clear HNE
        go_wp2
        go_ret
        exact ⟨by rw [MEM.out]; rfl, rfl⟩
      · have e1 : (y == x) = false := by simpa using hq
        have NXT : Hid (∀ j, j < k + 1 → ls.getD j 0 ≠ x) := fun j hj => by
          by_cases h : j = k
          · subst h
            rw [HX.out]
            exact hq
          · exact HNE.out j (by omega)
        clear HNE hq
        go_wp2
        go_roundw
        case rel => exact ⟨k + 1, by omega, by go_num, trivial, NXT.out⟩
        case measure => simp [intOf]; omega
    · obtain rfl : k = ls.length := by omega
      have NM : Hid (decide (x ∈ ls) = false) := by
        show _ = _
        refine decide_eq_false fun h => ?_
        obtain ⟨i, hi, e⟩ := List.getElem_of_mem h
        refine hne i hi ?_
        rw [List.getD_eq_getElem?_getD, List.getElem?_eq_getElem hi]
        exact e
      clear hne hr
      go_wp2
      go_ret
      exact ⟨by rw [NM.out]; rfl, rfl⟩
set_option maxHeartbeats 1000000 in
theorem l13Known_any (w : World) (k : Int) :
    Calls Tryz.prog 31 #[.int .i64 k] w fun e w' => e = .returned (.bool (decide (k ∈ kinds))) ∧ Below w.heap.size w w' := by
  have n0 : Hid (Below w.heap.size w (w.alloc (.cells #[.int .i64 1, .int .i64 2, .int .i64 4, .int .i64 5, .int .i64 8, .int .i64 11, .int .i64 15, .int .i64 20, .int .i64 24] 2))) := (Below.refl _ _).alloc (Nat.le_refl _) _
  have R : Rd (w.alloc (.cells #[.int .i64 1, .int .i64 2, .int .i64 4, .int .i64 5, .int .i64 8, .int .i64 11, .int .i64 15, .int .i64 20, .int .i64 24] 2)) w.heap.size (some ⟨w.heap.size, 0, none⟩) .i64 kinds := fun _ => ⟨0, rfl, fun i hi => by
    have h : (w.alloc (.cells #[.int .i64 1, .int .i64 2, .int .i64 4, .int .i64 5, .int .i64 8, .int .i64 11, .int .i64 15, .int .i64 20, .int .i64 24] 2)).heap[w.heap.size]? = some (.cells #[.int .i64 1, .int .i64 2, .int .i64 4, .int .i64 5, .int .i64 8, .int .i64 11, .int .i64 15, .int .i64 20, .int .i64 24] 2 (0, 0)) := by show (w.heap.push _)[w.heap.size]? = _; simp
    rw [Nat.zero_add, cell_of_row _ _ _ _ _ _ h]
    have hi' : i < 9 := hi
    obtain rfl | rfl | rfl | rfl | rfl | rfl | rfl | rfl | rfl : i = 0 ∨ i = 1 ∨ i = 2 ∨ i = 3 ∨ i = 4 ∨ i = 5 ∨ i = 6 ∨ i = 7 ∨ i = 8 := by omega
    all_goals rfl⟩
  have H : Hid (Calls Tryz.prog 54 #[.slice (some ⟨w.heap.size, 0, none⟩) 9 9, .int .i64 k] (w.alloc (.cells #[.int .i64 1, .int .i64 2, .int .i64 4, .int .i64 5, .int .i64 8, .int .i64 11, .int .i64 15, .int .i64 20, .int .i64 24] 2)) fun e w' => e = .returned (.bool (decide (k ∈ kinds))) ∧ w' = w.alloc (.cells #[.int .i64 1, .int .i64 2, .int .i64 4, .int .i64 5, .int .i64 8, .int .i64 11, .int .i64 15, .int .i64 20, .int .i64 24] 2)) := l12Has_any _ _ _ 9 kinds k R (by decide)
  clear R
  generalize decide (k ∈ kinds) = z at *
  go_enter Tryz.func31, Tryz.ntmps31
  go_wp2_with fail
  refine H.out.mono ?_
  rintro e w1 ⟨rfl, h1⟩
  subst h1
  go_wp2
  go_ret
  exact ⟨rfl, n0.out⟩
theorem mem_take_of {ls : List (List UInt8)} {k j : Nat} (hj : j < k) (hk : k < ls.length) (h : ls.getD j [] = ls.getD k []) : prA ls k = false := by
  unfold prA
  have m : ls.getD k [] ∈ ls.take k := by
    rw [← h, List.getD_eq_getElem?_getD, List.getElem?_eq_getElem (by omega)]
    have : (ls.take k)[j]'(by rw [List.length_take]; omega) = ls[j] := List.getElem_take
    rw [Option.getD_some, ← this]
    exact List.getElem_mem _
  rw [decide_eq_true m]
  simp
theorem prA_of {ls : List (List UInt8)} {k : Nat} (hk : k < ls.length) (h0 : 0 < (ls.getD k []).length) (h1 : (ls.getD k []).length ≤ 32) (h : ∀ j, j < k → ls.getD j [] ≠ ls.getD k []) : prA ls k = true := by
  unfold prA
  have m : ¬ ls.getD k [] ∈ ls.take k := fun hm => by
    obtain ⟨i, hi, e⟩ := List.getElem_of_mem hm
    rw [List.length_take] at hi
    refine h i (by omega) ?_
    rw [← e, List.getElem_take, List.getD_eq_getElem?_getD, List.getElem?_eq_getElem (by omega)]
    rfl
  rw [decide_eq_true h0, decide_eq_true h1, decide_eq_false m]
  rfl
set_option maxHeartbeats 2000000 in
theorem l13Protocols_any (w : World) (g : Nat) (a : Option Addr) (c : Nat) (ls : List (List UInt8)) (n : Nat) (hr : RdT w g a ls) (hn : ls.length ≤ 1048576) (n1 : n ≤ 100) (hz : ∀ l ∈ ls, l.length ≤ 1048576) :
    Calls Tryz.prog 35 #[.slice a ls.length c, .int .i64 (n : Int)] w fun e w' => e = .returned (.bool (prB ls n)) ∧ Below w.heap.size w w' := by
  by_cases hl : ls.length ≤ n
  · have d0 : decide ((n : Int) < (ls.length : Int)) = false := by simp; omega
    have d0' : decide (n < ls.length) = false := by simp; omega
    go_enter Tryz.func35, Tryz.ntmps35
    go_wp2
    go_loopw [5, 6] (fun i _ wr => ∃ (k : Nat), k ≤ ls.length ∧ i = .int .i64 k ∧ Below w.heap.size w wr ∧ ∀ j, j < k → prA ls j = true) (fun i _ _ => ls.length - (intOf i).toNat)
    case atStart => exact ⟨0, Nat.zero_le _, rfl, Below.refl _ _, fun j hj => absurd hj (by omega)⟩
    case round =>
      obtain ⟨k, hk, rfl, nb, hall⟩ := hrel
      by_cases hlt : k < ls.length
      · have hr1 := hr.up nb
        obtain ⟨off, rfl, hcl⟩ := hr1 (by omega)
        have t0 : (k : Int) < (ls.length : Int) := by omega
        have c1 := hcl k hlt
        have HALL := hide hall
        have HN := hide nb
        have HCL := hide hcl
        clear hall nb hcl hr1
        have HZ : (ls.getD k []).length ≤ 1048576 := by
          refine hz _ ?_
          rw [List.getD_eq_getElem?_getD, List.getElem?_eq_getElem hlt]
          exact List.getElem_mem hlt
        have PN := hide (fun h => prB_no (n := n) hlt h)
        have PT := hide (fun j hj h => mem_take_of (j := j) hj hlt h)
        have PO := hide (fun h0 h1 h => prA_of hlt h0 h1 h)
        have P0 := hide (show (ls.getD k []).length = 0 → prA ls k = false from fun h => by unfold prA; rw [h]; rfl)
        have P1 := hide (show 32 < (ls.getD k []).length → prA ls k = false from fun h => by unfold prA; rw [decide_eq_false (show ¬ (ls.getD k []).length ≤ 32 by omega)]; simp)
        generalize hx : ls.getD k [] = x at *
        have HX := hide hx
        clear hx
        simp only [tx] at c1
        by_cases x0 : x.length = 0
        · have d1 : decide ((x.length : Int) < 1) = true := by simp; omega
          have NO := hide (PN.out (P0.out x0))
          clear PN PT PO P0 P1 HALL x0
          go_wp2
          go_ret
          exact ⟨by rw [NO.out]; rfl, HN.out⟩
        · have d1 : decide ((x.length : Int) < 1) = false := by simp; omega
          by_cases x1 : 32 < x.length
          · have d2 : decide ((32 : Int) < (x.length : Int)) = true := by simp; omega
            have NO := hide (PN.out (P1.out x1))
            clear PN PT PO P0 P1 HALL x0 x1
            go_wp2
            go_ret
            exact ⟨by rw [NO.out]; rfl, HN.out⟩
          · have d2 : decide ((32 : Int) < (x.length : Int)) = false := by simp; omega
            have PO' := hide (PO.out (by omega) (by omega))
            clear P0 P1 PO x0 x1
            go_wp2
            go_loopw [6] (fun j wz => ∃ (m : Nat), m ≤ k ∧ j = .int .i64 m ∧ Below w.heap.size w wz ∧ ∀ i, i < m → ls.getD i [] ≠ x) (fun j _ => k - (intOf j).toNat)
            case atStart => exact ⟨0, Nat.zero_le _, rfl, HN.out, fun j hj => absurd hj (by omega)⟩
            case round =>
              obtain ⟨m, hm, rfl, nz, hne⟩ := hrel
              by_cases hmt : m < k
              · have t1 : (m : Int) < (k : Int) := by omega
                have hr2 := hr.up nz
                obtain ⟨off', ha, hcl2⟩ := hr2 (by omega)
                simp only [Option.some.injEq, Addr.mk.injEq, and_true, true_and] at ha
                obtain rfl := ha
                have c2 := hcl2 k hlt
                have c3 := hcl2 m (by omega)
                rw [HX.out] at c2
                have tm : (m : Int) < (ls.length : Int) := by omega
                have NZ := hide nz
                have HNE := hide hne
                clear nz hne hcl2 hr2 c1 HCL
                generalize hy : ls.getD m [] = y at *
                have HY := hide hy
                clear hy
                simp only [tx] at c2 c3
                by_cases hq : x = y
                · subst hq
                  have e1 : (x == x) = true := by simp
                  have NO := hide (PN.out (PT.out m hmt HY.out))
                  clear PN PT PO' HALL HNE
                  go_wp2
                  go_quiet (fail)
                  go_wp2
                  go_ret
                  exact ⟨by rw [NO.out]; rfl, NZ.out.trans ((Only.drewN _ w.heap.size _).below (Nat.le_refl _))⟩
                · have e1 : (x == y) = false := by simpa using hq
                  have e2 : (y == x) = false := by simpa using (fun h => hq h.symm)
                  have NXT : Hid (∀ i, i < m + 1 → ls.getD i [] ≠ x) := fun i hi => by
                    by_cases h : i = m
                    · subst h
                      rw [HY.out]
                      exact fun h => hq h.symm
                    · exact HNE.out i (by omega)
                  clear HNE PN PT PO' HALL hq
                  go_wp2
                  go_quiet (fail)
                  go_wp2
                  go_roundw
                  case rel => exact ⟨m + 1, by omega, by go_num, NZ.out.trans ((Only.drewN _ w.heap.size _).below (Nat.le_refl _)), NXT.out⟩
                  case measure => simp [intOf]; omega
              · obtain rfl : m = k := by omega
                have NXT : Hid (∀ j, j < m + 1 → prA ls j = true) := fun j hj => by
                  by_cases h : j = m
                  · subst h
                    exact PO'.out hne
                  · exact HALL.out j (by omega)
                have NZ := hide nz
                clear nz hne PN PT PO' HALL
                go_wp2
                go_roundw
                case rel => exact ⟨m + 1, by omega, by go_num, NZ.out, NXT.out⟩
                case measure => simp [intOf]; omega
      · obtain rfl : k = ls.length := by omega
        have YES := hide (prB_yes hl hall)
        have HN := hide nb
        clear hall hr nb
        go_wp2
        go_ret
        exact ⟨by rw [YES.out]; rfl, HN.out⟩
  · have d0 : decide ((n : Int) < (ls.length : Int)) = true := by simp; omega
    have NO : Hid (prB ls n = false) := by show _ = _; unfold prB; rw [decide_eq_false hl, Bool.false_and]
    clear hr
    go_enter Tryz.func35, Tryz.ntmps35
    go_wp2
    go_ret
    exact ⟨by rw [NO.out]; rfl, Below.refl _ _⟩
end Go.Proofs.YtmfajpplagbfcaaGreatDoor
