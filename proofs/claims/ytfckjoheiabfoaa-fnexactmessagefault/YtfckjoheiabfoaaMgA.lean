
/-
  Messages: the program's small tests.
-/
import Derived.Test.YtfckjoheiabfoaaStA
namespace Go.Proofs.Ytfckjoheiabfoaa
open Go Go.RowKit

def ageB (n : Int) : Bool := decide (0 ≤ n) && decide (n ≤ 4294967295)
def flgB (n : Int) : Bool := decide (n = 0) || decide (n = 1)
theorem isAge_any (w : World) (n : Int) : Calls Try.prog 69 #[.int .i64 n] w fun e w' => e = .returned (.bool (ageB n)) ∧ w' = w := by
  by_cases h : 0 ≤ n
  · have d1 : decide (0 ≤ n) = true := decide_eq_true h
    go_enter Try.func69, Try.ntmps69
    go_wp2
    go_ret
    exact ⟨by simp [ageB, h], rfl⟩
  · have d1 : decide (0 ≤ n) = false := decide_eq_false h
    go_enter Try.func69, Try.ntmps69
    go_wp2
    go_ret
    exact ⟨by rw [ageB, d1]; rfl, rfl⟩
theorem isFlag_any (w : World) (n : Int) : Calls Try.prog 70 #[.int .i64 n] w fun e w' => e = .returned (.bool (flgB n)) ∧ w' = w := by
  by_cases h : n = 0
  · subst h
    go_enter Try.func70, Try.ntmps70
    go_wp2
    go_ret
    exact ⟨rfl, rfl⟩
  · have d1 : decide (n = 0) = false := decide_eq_false h
    have d2 : (n == 0) = false := by simpa using h
    go_enter Try.func70, Try.ntmps70
    go_wp2
    go_ret
    exact ⟨by rw [flgB, d1, Bool.false_or]; rfl, rfl⟩
/-- A text among others. -/
theorem index_any (w : World) (g : Nat) (a : Option Addr) (c : Nat) (ls : List (List UInt8)) (l : List UInt8) (hr : RdT w g a ls) (hn : ls.length ≤ 1048576) :
    Calls Try.prog 76 #[.slice a ls.length c, tx l] w fun e w' => ∃ r : Int, e = .returned (.int .i64 r) ∧ (0 ≤ r ↔ l ∈ ls) ∧ w' = w := by
  show Calls Try.prog 76 #[.slice a ls.length c, .string ⟨⟨l⟩⟩] w _
  go_enter Try.func76, Try.ntmps76
  go_wp2
  go_loopw [8] (fun i wr => ∃ (k : Nat), k ≤ ls.length ∧ i = .int .i64 k ∧ wr = w ∧ ∀ j, j < k → ls.getD j [] ≠ l) (fun i _ => ls.length - (intOf i).toNat)
  case atStart => exact ⟨0, Nat.zero_le _, rfl, rfl, fun j hj => absurd hj (by omega)⟩
  case round =>
    obtain ⟨k, hk, rfl, rfl, hne⟩ := hrel
    by_cases hlt : k < ls.length
    · obtain ⟨off, rfl, hc⟩ := hr (by omega)
      have t0 : (k : Int) < (ls.length : Int) := by omega
      have c1 := hc k hlt
      have HNE := hide hne
      have HC := hide hc
      clear hne hc hr
      generalize hx : ls.getD k [] = x at *
      have HX := hide hx
      clear hx
      simp only [tx] at c1
      by_cases hq : l = x
      · subst hq
        have e1 : (l == l) = true := by simp
        have MEM : Hid (l ∈ ls) := by
          show l ∈ ls
          rw [← HX.out, List.getD_eq_getElem?_getD, List.getElem?_eq_getElem hlt]
          exact List.getElem_mem hlt
        clear HNE HC
        go_wp2
        go_ret
        exact ⟨_, rfl, ⟨fun _ => MEM.out, fun _ => by omega⟩, rfl⟩
      · have e1 : (l == x) = false := by simpa using hq
        have e2 : (x == l) = false := by simpa using (fun h => hq h.symm)
        have NXT : Hid (∀ j, j < k + 1 → ls.getD j [] ≠ l) := fun j hj => by
          by_cases h : j = k
          · subst h
            rw [HX.out]
            exact fun h => hq h.symm
          · exact HNE.out j (by omega)
        clear HNE HC
        go_wp2
        go_roundw
        case rel => exact ⟨k + 1, by omega, by go_num, trivial, NXT.out⟩
        case measure => simp [intOf]; omega
    · obtain rfl : k = ls.length := by omega
      have NM : Hid (¬ l ∈ ls) := fun h => by
        obtain ⟨i, hi, e⟩ := List.getElem_of_mem h
        refine hne i hi ?_
        rw [List.getD_eq_getElem?_getD, List.getElem?_eq_getElem hi]
        exact e
      clear hne hr
      go_wp2
      go_ret
      exact ⟨-1, rfl, ⟨fun h => absurd h (by decide), fun h => absurd h NM.out⟩, rfl⟩
theorem contains_any (w : World) (g : Nat) (a : Option Addr) (c : Nat) (ls : List (List UInt8)) (l : List UInt8) (hr : RdT w g a ls) (hn : ls.length ≤ 1048576) :
    Calls Try.prog 73 #[.slice a ls.length c, tx l] w fun e w' => e = .returned (.bool (decide (l ∈ ls))) ∧ w' = w := by
  have IX := hide (index_any w g a c ls l hr hn)
  show Calls Try.prog 73 #[.slice a ls.length c, .string ⟨⟨l⟩⟩] w _
  clear hr
  simp only [tx] at IX
  go_enter Try.func73, Try.ntmps73
  go_wp2_with fail
  refine IX.out.mono ?_
  rintro e w1 ⟨r, rfl, hr, rfl⟩
  have HR := hide hr
  clear hr
  go_wp2
  go_ret
  exact ⟨by show Ending.returned (Value.bool (decide (0 ≤ r))) = _; rw [decide_eq_decide.2 HR.out], rfl⟩
theorem RdT.take {w : World} {g : Nat} {a : Option Addr} {ls : List (List UInt8)} (h : RdT w g a ls) (n : Nat) : RdT w g a (ls.take n) := fun h0 => by
  rw [List.length_take] at h0
  obtain ⟨o, e, hc⟩ := h (by omega)
  refine ⟨o, e, fun i hi => ?_⟩
  rw [List.length_take] at hi
  rw [hc i (by omega)]
  simp [List.getD, show i < n by omega]
/-- A protocol at its place. -/
def prA (ls : List (List UInt8)) (i : Nat) : Bool := decide (0 < (ls.getD i []).length) && (decide ((ls.getD i []).length ≤ 32) && !decide (ls.getD i [] ∈ ls.take i))
def prB (ls : List (List UInt8)) (n : Nat) : Bool := decide (ls.length ≤ n) && (List.range ls.length).all (prA ls)
theorem prB_no {ls : List (List UInt8)} {n k : Nat} (hk : k < ls.length) (h : prA ls k = false) : prB ls n = false := by
  unfold prB
  rw [Bool.and_eq_false_iff]
  refine .inr (Bool.eq_false_iff.2 fun e => ?_)
  have := List.all_eq_true.1 e k (List.mem_range.2 hk)
  rw [h] at this
  cases this
theorem prB_yes {ls : List (List UInt8)} {n : Nat} (hn : ls.length ≤ n) (h : ∀ j, j < ls.length → prA ls j = true) : prB ls n = true := by
  unfold prB
  rw [decide_eq_true hn, Bool.true_and, List.all_eq_true]
  exact fun j hj => h j (List.mem_range.1 hj)
set_option maxHeartbeats 1000000 in
theorem areProtocols_any (w : World) (g : Nat) (a : Option Addr) (c : Nat) (ls : List (List UInt8)) (n : Nat) (hr : RdT w g a ls) (hc : ls.length ≤ c) (hn : ls.length ≤ 1048576) (_n1 : n ≤ 100) (hz : ∀ l ∈ ls, l.length ≤ 1048576) :
    Calls Try.prog 68 #[.slice a ls.length c, .int .i64 (n : Int)] w fun e w' => e = .returned (.bool (prB ls n)) ∧ w' = w := by
  by_cases hl : ls.length ≤ n
  · have d0 : decide ((n : Int) < (ls.length : Int)) = false := by simp; omega
    have d0' : decide (n < ls.length) = false := by simp; omega
    go_enter Try.func68, Try.ntmps68
    go_wp2
    go_loopw [13] (fun i wr => ∃ (k : Nat), k ≤ ls.length ∧ i = .int .i64 k ∧ wr = w ∧ ∀ j, j < k → prA ls j = true) (fun i _ => ls.length - (intOf i).toNat)
    case atStart => exact ⟨0, Nat.zero_le _, rfl, rfl, fun j hj => absurd hj (by omega)⟩
    case round =>
      obtain ⟨k, hk, rfl, rfl, hall⟩ := hrel
      by_cases hlt : k < ls.length
      · have CN := hide (contains_any wr g a c (ls.take k) (ls.getD k []) (hr.take k) (by rw [List.length_take]; omega))
        rw [List.length_take, Nat.min_eq_left (Nat.le_of_lt hlt)] at CN
        have PA := hide (show prA ls k = (decide (0 < (ls.getD k []).length) && (decide ((ls.getD k []).length ≤ 32) && !decide (ls.getD k [] ∈ ls.take k))) from rfl)
        have HZ : (ls.getD k []).length ≤ 1048576 := by
          refine hz _ ?_
          rw [List.getD_eq_getElem?_getD, List.getElem?_eq_getElem hlt]
          exact List.getElem_mem hlt
        obtain ⟨off, rfl, hcl⟩ := hr (by omega)
        have t0 : (k : Int) < (ls.length : Int) := by omega
        have c1 := hcl k hlt
        have s1 : (k : Int) ≤ (c : Int) := by omega
        have HALL := hide hall
        have HR := hide hr
        have HH := hide hz
        clear hcl hall hr hz
        generalize decide (ls.getD k [] ∈ ls.take k) = bm at *
        generalize ls.getD k [] = x at *
        have sx := tx_size x
        simp only [tx] at c1 CN
        by_cases x0 : x = []
        · subst x0
          have NO := hide (prB_no (n := n) hlt (show prA ls k = false by rw [PA.out]; rfl))
          clear PA HALL CN HR HH
          go_wp2
          go_ret
          exact ⟨by rw [NO.out]; rfl, rfl⟩
        · have e0 : (x == []) = false := by simpa using x0
          have e1 : 0 < x.length := by
            cases x with
            | nil => exact absurd rfl x0
            | cons _ _ => simp
          by_cases x1 : 32 < x.length
          · have NO := hide (prB_no (n := n) hlt (show prA ls k = false by rw [PA.out, decide_eq_false (show ¬ x.length ≤ 32 by omega)]; simp))
            have d1 : decide ((32 : Int) < (x.length : Int)) = true := by simp; omega
            clear PA HALL CN HR HH
            go_wp2
            go_ret
            exact ⟨by rw [NO.out]; rfl, rfl⟩
          · have d1 : decide ((32 : Int) < (x.length : Int)) = false := by simp; omega
            cases bm with
            | true =>
              have NO := hide (prB_no (n := n) hlt (show prA ls k = false by rw [PA.out]; simp))
              clear PA HALL HR HH
              go_wp2_with fail
              refine CN.out.mono ?_
              rintro e w1 ⟨rfl, rfl⟩
              go_wp2
              go_ret
              exact ⟨by rw [NO.out]; rfl, rfl⟩
            | false =>
              have NXT : Hid (∀ j, j < k + 1 → prA ls j = true) := fun j hj => by
                by_cases h : j = k
                · subst h
                  rw [PA.out, decide_eq_true e1, decide_eq_true (show x.length ≤ 32 by omega)]
                  rfl
                · exact HALL.out j (by omega)
              clear PA HALL HR HH
              go_wp2_with fail
              refine CN.out.mono ?_
              rintro e w1 ⟨rfl, rfl⟩
              go_wp2
              go_roundw
              case rel => exact ⟨k + 1, by omega, by go_num, trivial, NXT.out⟩
              case measure => simp [intOf]; omega
      · obtain rfl : k = ls.length := by omega
        have YES := hide (prB_yes hl hall)
        clear hall hr
        go_wp2
        go_ret
        exact ⟨by rw [YES.out]; rfl, rfl⟩
  · have d0 : decide ((n : Int) < (ls.length : Int)) = true := by simp; omega
    have NO : Hid (prB ls n = false) := by show _ = _; unfold prB; rw [decide_eq_false hl, Bool.false_and]
    clear hr
    go_enter Try.func68, Try.ntmps68
    go_wp2
    go_ret
    exact ⟨by rw [NO.out]; rfl, rfl⟩
end Go.Proofs.Ytfckjoheiabfoaa
