
/-
  The cursor's number of at most four bytes; the program's.
-/
import Derived.Test.YtjfggcefdobooaaDoorCuA
import Derived.Test.YtjfggcefdobooaaDoorBtA
import Derived.Deep.Cut
namespace Go.Proofs.YtjfggcefdobooaaDoor
set_option maxRecDepth 100000
open Go Go.RowKit

/-- A number of k bytes from place i on. -/
def beN (xs : List Int) (i : Nat) : Nat → Int
  | 0 => 0
  | k + 1 => beN xs i k * 256 + xs.getD (i + k) 0
theorem beN_rng {xs : List Int} (h : Byt xs) (i : Nat) : ∀ k, 0 ≤ beN xs i k ∧ beN xs i k < 256 ^ k
  | 0 => ⟨Int.le_refl _, by simp [beN]⟩
  | k + 1 => by
    have ih := beN_rng h i k
    have b := h (i + k)
    rw [beN, Int.pow_succ]
    omega
theorem Rd.of_block' {w w' : World} {g : Nat} {a : Option Addr} {k : IntKind} {xs : List Int} (h : Rd w g a k xs) (hb : 0 < xs.length → w'.heap[g]? = w.heap[g]?) : Rd w' g a k xs := by
  by_cases h0 : 0 < xs.length
  · exact h.of_block (hb h0)
  · exact fun q => absurd q h0
set_option maxHeartbeats 1000000 in
theorem curNum_any (w : World) (p g : Nat) (a : Option Addr) (c : Nat) (xs : List Int) (i t : Nat) (hC : Cur w p (.slice a xs.length c) i) (hr : Rd w g a .u8 xs) (hb : Byt xs) (hgp : 0 < xs.length → g ≠ p) (hi : i + t ≤ xs.length) (ht : t ≤ 4) (hn : xs.length ≤ 4194304) :
    Calls Tryd.prog 30 #[.pointer (some ⟨p, 0, none⟩), .int .i64 (t : Int)] w fun e w' => e = .returned (.int .i64 (beN xs i t)) ∧ Cur w' p (.slice a xs.length c) ((i + t : Nat) : Int) ∧ Only p w w' := by
  go_enter Tryd.func30, Tryd.ntmps30
  go_wp2
  go_loopw [5, 7] (fun v j wr => ∃ k : Nat, k ≤ t ∧ v = .int .i64 (beN xs i k) ∧ j = .int .i64 k ∧ Cur wr p (.slice a xs.length c) ((i + k : Nat) : Int) ∧ Only p w wr) (fun _ j _ => t - (intOf j).toNat)
  case atStart => exact ⟨0, Nat.zero_le _, rfl, rfl, hC, Only.refl _ _⟩
  case round =>
    obtain ⟨k, hk, rfl, rfl, C, O⟩ := hrel
    by_cases hlt : k < t
    · have TK := hide (take_ok wr p g a c xs (i + k) C (hr.of_block' (fun h => O.block g (hgp h))) (by omega) (by omega))
      have R := beN_rng hb i k
      have bx := hb (i + k)
      have p4 : beN xs i k < 16777216 := by
        rcases (by omega : k = 0 ∨ k = 1 ∨ k = 2 ∨ k = 3) with rfl | rfl | rfl | rfl
        all_goals (have := R.2; simp at this; omega)
      have OR := or_byte (beN xs i k) (xs.getD (i + k) 0) (by omega) (by omega) bx.1 bx.2
      have e : Hid (beN xs i (k + 1) = beN xs i k * 256 + xs.getD (i + k) 0) := rfl
      generalize beN xs i k = m at *
      generalize xs.getD (i + k) 0 = x at *
      have R0 := R.1
      have x0 := bx.1
      have x1 := bx.2
      have k1 : (k : Int) < (t : Int) := by omega
      clear R bx C
      go_wp2_with fail
      refine TK.out.mono ?_
      rintro r w' ⟨rfl, C', O'⟩
      clear TK
      go_wp2
      go_roundw
      case rel => exact ⟨k + 1, by omega, by rw [e.out], by go_num, C', O.trans O'⟩
      case measure => simp [intOf]; omega
    · obtain rfl : k = t := by omega
      go_wp2
      go_ret
      exact ⟨rfl, C, O⟩
end Go.Proofs.YtjfggcefdobooaaDoor
