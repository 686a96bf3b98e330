
/-
  The cursor's takeList, whatever is left.
-/
import Derived.Test.YtjdbnlbmhnpifaaCuU
namespace Go.Proofs.Ytjdbnlbmhnpifaa
open Go Go.RowKit

/-- takeList, whatever is left. -/
theorem takeList_any (w : World) (p g : Nat) (a : Option Addr) (c : Nat) (xs : List Int) (i n : Nat) (hC : Cur w p (.slice a xs.length c) i) (hr : Rd w g a .u8 xs) (hc0 : a = none → c = 0) (hc : xs.length ≤ c) (hn : xs.length ≤ 1048576) (hi : i ≤ xs.length) (hin : i + n ≤ xs.length) :
    Calls Try.prog 45 #[.pointer (some ⟨p, 0, none⟩), .int .i64 (n : Int)] w fun e w' => e = .returned (.slice (some ⟨w.heap.size, 0, none⟩) n n) ∧ Blk w' w.heap.size .u8 ((xs.drop i).take n) ∧ Cur w' p (.slice a xs.length c) ((i + n : Nat) : Int) ∧ Kp p w w' := by
  by_cases h : i < xs.length
  · exact takeList_mid w p g a c xs i n hC hr hc hn h hin
  · obtain rfl : i = xs.length := by omega
    obtain rfl : n = 0 := by omega
    have := takeList_end w p a xs.length c hC hc0 hc hn
    simpa using this
set_option maxHeartbeats 1000000 in
theorem takeList_bad (w : World) (p : Nat) (a : Option Addr) (m c i n : Nat) (hC : Cur w p (.slice a m c) i) (hin : m < i + n) (hm : m ≤ 1048576) (hi : i ≤ m) :
    Calls Try.prog 45 #[.pointer (some ⟨p, 0, none⟩), .int .i64 (n : Int)] w fun e w' => Pan e ∧ Only p w w' := by
  have c0 := hC.c0
  have c1 := hC.c1
  have t1 : decide ((m : Int) - (i : Int) < (n : Int)) = true := by simp; omega
  clear hC
  go_enter Try.func45, Try.ntmps45
  go_wp2
  go_quiet (fail)
  go_wp2
  exact ⟨rfl, ⟨_, _, rfl⟩, Only.drewN w p _⟩
end Go.Proofs.Ytjdbnlbmhnpifaa
