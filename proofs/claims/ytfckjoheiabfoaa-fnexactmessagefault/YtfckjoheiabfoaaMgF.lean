
/-
  Messages: lists and texts held against each other by the program.
-/
import Derived.Test.YtfckjoheiabfoaaMgE
import Derived.Test.YtfckjoheiabfoaaSm8
namespace Go.Proofs.Ytfckjoheiabfoaa
open Go Go.RowKit

theorem bytesEqual_any (w : World) (g g' : Nat) (a b : Option Addr) (ca cb : Nat) (xs ys : List Int) (ha : Rd w g a .u8 xs) (hb : Rd w g' b .u8 ys) (hx : Byt xs) (hy : Byt ys) :
    Calls Try.prog 42 #[.slice a xs.length ca, .slice b ys.length cb] w fun e w' => e = .returned (.bool (decide (xs = ys))) ∧ w' = w := by
  have h1 := conv_run w g a ca xs ha
  have h2 := conv_run w g' b cb ys hb
  by_cases e : xs = ys
  · subst e
    generalize str xs = s at *
    go_enter Try.func42, Try.ntmps42
    go_wp2
    go_ret
    exact ⟨by simp, rfl⟩
  · have D := hide (show decide (xs = ys) = false by simpa using e)
    have h3 : str xs ≠ str ys := fun h => e (str_inj hx hy h)
    generalize str xs = s at *
    generalize str ys = t at *
    have H3 := hide h3
    clear h3 e
    go_enter Try.func42, Try.ntmps42
    go_wp2
    go_ret
    have e : (s.toList == t.toList) = false := by
      cases h : (s.toList == t.toList)
      · rfl
      · exact absurd (toList_inj (beq_iff_eq.1 h)) H3.out
    exact ⟨by rw [D.out, ← e]; rfl, rfl⟩
set_option maxHeartbeats 1000000 in
theorem equalTexts_any (w : World) (g g' : Nat) (a b : Option Addr) (ca cb : Nat) (ls ms : List (List UInt8)) (ha : RdT w g a ls) (hb : RdT w g' b ms) (hn : ls.length ≤ 1048576) (_hm : ms.length ≤ 1048576) :
    Calls Try.prog 43 #[.slice a ls.length ca, .slice b ms.length cb] w fun e w' => e = .returned (.bool (decide (ls = ms))) ∧ Below w.heap.size w w' := by
  by_cases hl : ls.length = ms.length
  · have d0 : ((ls.length : Int) != (ms.length : Int)) = false := by simp [hl]
    have E := hide (show ∀ k, k < ls.length → ls.getD k [] ≠ ms.getD k [] → decide (ls = ms) = false from fun k _ hne => decide_eq_false fun h => hne (by rw [h]))
    have HL := hide hl
    rw [← hl]
    have HB : Hid (0 < ls.length → ∃ off, b = some ⟨g', off, none⟩ ∧ ∀ i, i < ls.length → w.cell? ⟨g', off + i, none⟩ = some (tx (ms.getD i []))) := fun h => by
      obtain ⟨o, e, hc⟩ := hb (by omega)
      exact ⟨o, e, fun i hi => hc i (by omega)⟩
    clear hl hb
    go_enter Try.func43, Try.ntmps43
    go_wp2
    go_loopw [13] (fun i wr => ∃ (k n : Nat), k ≤ ls.length ∧ i = .int .i64 k ∧ wr = w.drewN n ∧ ∀ j, j < k → ls.getD j [] = ms.getD j []) (fun i _ => ls.length - (intOf i).toNat)
    case atStart => exact ⟨0, 0, Nat.zero_le _, rfl, rfl, fun j hj => absurd hj (by omega)⟩
    case round =>
      obtain ⟨k, n, hk, rfl, rfl, hall⟩ := hrel
      by_cases hlt : k < ls.length
      · obtain ⟨off, rfl, hc⟩ := ha (by omega)
        obtain ⟨off', rfl, hc'⟩ := HB.out (by omega)
        have h1 := hc k hlt
        have h2 := hc' k hlt
        have hlt' : (k : Int) < (ls.length : Int) := by omega
        have EK := hide (E.out k hlt)
        have HALL := hide hall
        clear hc hc' E hall HB
        generalize hx : ls.getD k [] = x at *
        generalize hy : ms.getD k [] = y at *
        have HX := hide hx
        have HY := hide hy
        clear hx hy
        unfold tx at h1 h2
        by_cases hxy : x = y
        · subst hxy
          have e1 : (x != x) = false := by simp
          have e2 : (x == x) = true := by simp
          have NXT : Hid (∀ j, j < k + 1 → ls.getD j [] = ms.getD j []) := fun j hj => by
            by_cases h : j = k
            · subst h
              rw [HX.out, HY.out]
            · exact HALL.out j (by omega)
          clear HALL EK
          go_wp2
          go_region
          go_wp2
          go_roundw
          case rel => exact ⟨k + 1, _, by omega, by go_num, rfl, NXT.out⟩
          case measure => simp [intOf]; omega
        · have e1 : (x != y) = true := by simpa using hxy
          have e2 : (x == y) = false := by simpa using hxy
          have F := hide (EK.out hxy)
          clear HALL EK
          go_wp2
          go_region
          go_wp2
          go_ret
          exact ⟨by rw [F.out]; rfl, below_drewN (Below.refl _ _) _⟩
      · obtain rfl : k = ls.length := by omega
        have T : Hid (decide (ls = ms) = true) := decide_eq_true (List.ext_getElem HL.out fun i h1 h2 => by
          have := hall i h1
          rw [List.getD_eq_getElem?_getD, List.getD_eq_getElem?_getD, List.getElem?_eq_getElem h1, List.getElem?_eq_getElem h2] at this
          exact this)
        clear hall E HB ha
        go_wp2
        go_ret
        exact ⟨by rw [T.out]; rfl, below_drewN (Below.refl _ _) _⟩
  · have d0 : ((ls.length : Int) != (ms.length : Int)) = true := by simp; omega
    have D := hide (show decide (ls = ms) = false from decide_eq_false fun h => hl (by rw [h]))
    clear ha hb hl
    go_enter Try.func43, Try.ntmps43
    go_wp2
    go_ret
    exact ⟨by rw [D.out]; rfl, Below.refl _ _⟩
end Go.Proofs.Ytfckjoheiabfoaa
