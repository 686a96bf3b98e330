import Derived.Test.YtkglcainhkbgbaaGreatDoorSG19
import Derived.Test.YtkglcainhkbgbaaGreatDoorSG23
namespace Go.Proofs.YtkglcainhkbgbaaGreatDoor
set_option maxRecDepth 100000
open Go.RowKit
abbrev num (xs : List Int) : Int := lsum (fun j => xs.getD j 0) xs.length
def canN (xs : List Int) : Bool := decide (xs.length = 32) && decide (num xs < PP)
theorem lsum_nonneg {a : Nat → Int} (h : Bt a) : ∀ k, 0 ≤ lsum a k
  | 0 => by simp [lsum]
  | k + 1 => by
    have ih := lsum_nonneg h k
    have := Int.mul_nonneg (h k).1 (Int.le_of_lt (p256_pos k))
    rw [lsum]; omega
def elt (xs : List Int) : Nat → Int := stl (rl (wv (fun j => xs.getD j 0) 32))
theorem elt_ok {xs : List Int} (hb : Byt xs) (hl : xs.length = 32) : Lm (elt xs) ∧ sv (elt xs) 5 = num xs % PP := by
  have hW : W4 (wv (fun j => xs.getD j 0) 32) := fun j _ => wv_lt hb 32 j
  obtain ⟨h1, h2⟩ := rl_ok hW
  obtain ⟨h3, h4⟩ := stl_ok h2
  refine ⟨h3, ?_⟩
  show sv (stl _) 5 = _
  rw [h4, h1, wv_sum _ 32 (by omega)]
  unfold num
  rw [hl]
set_option maxHeartbeats 1000000 in
theorem isFieldSize_any (w : World) (a : Option Addr) (c n : Nat) :
    Calls Tryz.prog 64 #[.slice a n c] w fun e w' => e = .returned (.bool (decide (n = 32))) ∧ w' = w := by
  by_cases h : n = 32
  · subst h
    go_enter Tryz.func64, Tryz.ntmps64
    go_wp2
    go_ret
    exact ⟨rfl, rfl⟩
  · have t : ((n : Int) == 32) = false := by simp; omega
    have R : Hid (decide (n = 32) = false) := by show _ = _; simp [h]
    clear h
    go_enter Tryz.func64, Tryz.ntmps64
    go_wp2
    go_ret
    exact ⟨by rw [R.out]; rfl, rfl⟩
end Go.Proofs.YtkglcainhkbgbaaGreatDoor
