import Derived.Test.YtkpomobhjkikeaaGreatDoorRows
import Derived.Test.YtkpomobhjkikeaaGreatDoorSS5
import Derived.WalkSpells
import Derived.Deep.QuietTactic
import Derived.BigQuiet
namespace Go.Proofs.YtkpomobhjkikeaaGreatDoor
set_option maxRecDepth 100000
open Go.RowKit
set_option maxHeartbeats 400000 in
theorem l1Digit_any (w : World) (g : Nat) (a : Option Addr) (cap : Nat) (xs : List Int) (i : Int) (hr : Rd w g a .u8 xs) (hb : Byt xs) (hn : xs.length ≤ 1048576) (h0 : 0 ≤ i) (h1 : i ≤ 1099511627776) :
    Calls Tryz.prog 66 #[.slice a xs.length cap, .int .i64 i] w fun e w' => e = .returned (.int .i64 (dig xs i.toNat)) ∧ w' = w := by
  obtain ⟨j, rfl⟩ := Int.eq_ofNat_of_zero_le h0
  rw [Int.toNat_natCast]
  by_cases hlt : j < xs.length
  · obtain ⟨off, rfl, hc⟩ := hr (by omega)
    have hcx := hc (xs.length - 1 - j) (by omega)
    have hx := hb (xs.length - 1 - j)
    have hd : dig xs j = xs.getD (xs.length - 1 - j) 0 := by simp [dig, hlt]
    rw [hd]
    clear hd hc
    generalize xs.getD (xs.length - 1 - j) 0 = x at *
    obtain ⟨m, hm⟩ : ∃ m : Nat, m = xs.length - 1 - j := ⟨_, rfl⟩
    rw [← hm] at hcx
    have hi1 : (0 : Int) ≤ (xs.length : Int) - 1 - (j : Int) := by omega
    have hi2 : (xs.length : Int) - 1 - (j : Int) < (xs.length : Int) := by omega
    have hi3 : ((xs.length : Int) - 1 - (j : Int)).toNat = m := by omega
    clear hm
    go_enter Tryz.func66, Tryz.ntmps66
    go_wp2
    go_ret
    exact ⟨rfl, rfl⟩
  · have hd : dig xs j = 0 := by simp [dig, hlt]
    rw [hd]
    clear hd
    go_enter Tryz.func66, Tryz.ntmps66
    go_wp2
    go_ret
    exact ⟨rfl, rfl⟩
def HiEq (a b : List Int) (k : Nat) : Prop := hi a k = hi b k
set_option maxHeartbeats 1000000 in
set_option maxRecDepth 100000 in
theorem l1Cmp_any (w : World) (g g' : Nat) (a b : Option Addr) (ca cb : Nat) (xs ys : List Int) (ha : Rd w g a .u8 xs) (hb : Rd w g' b .u8 ys) (hx : Byt xs) (hy : Byt ys)
    (hn : xs.length ≤ 1048576) (hm : ys.length ≤ 1048576) :
    Calls Tryz.prog 99 #[.slice a xs.length ca, .slice b ys.length cb] w fun e w' => e = .returned (.int .i64 (sg (bval xs) (bval ys))) ∧ w' = w := by
  by_cases hlen : xs.length < ys.length
  all_goals
    go_enter Tryz.func99, Tryz.ntmps99
    go_wp2
    go_loop [6] (fun i => ∃ t : Int, i = .int .i64 t ∧ -1 ≤ t ∧ t < 1048576 ∧ HiEq xs ys (t + 1).toNat) (fun i => (intOf i + 1).toNat)
    case atStart =>
      refine ⟨_, rfl, by omega, by omega, ?_⟩
      unfold HiEq
      rw [hi_past _ _ (by omega), hi_past _ _ (by omega)]
    case round =>
      obtain ⟨t, rfl, ht0, ht1, he⟩ := hrel
      by_cases ht : 0 ≤ t
      · obtain ⟨j, rfl⟩ := Int.eq_ofNat_of_zero_le ht
        have he' : HiEq xs ys (j + 1) := he
        clear he ht0
        have s1 := hi_step xs j
        have s2 := hi_step ys j
        have R1 : dig xs j < dig ys j → sg (bval xs) (bval ys) = -1 := fun h => sg_lt (hi_lt hx hy j (by unfold HiEq at he'; omega))
        have R2 : dig ys j < dig xs j → sg (bval xs) (bval ys) = 1 := fun h => sg_gt (hi_lt hy hx j (by unfold HiEq at he'; omega))
        have R3 : dig xs j = dig ys j → HiEq xs ys j := fun h => by unfold HiEq at he' ⊢; omega
        clear s1 s2 he'
        go_wp2_with fail
        refine (l1Digit_any w g a ca xs _ ha hx hn (by omega) (by omega)).mono ?_
        rintro e w' ⟨rfl, rfl⟩
        rw [Int.toNat_natCast]
        go_wp2_with fail
        refine (l1Digit_any w' g' b cb ys _ hb hy hm (by omega) (by omega)).mono ?_
        rintro e w'' ⟨rfl, rfl⟩
        rw [Int.toNat_natCast]
        generalize dig xs j = x at *
        generalize dig ys j = y at *
        rcases Int.lt_trichotomy x y with h | h | h
        · have R : Hid (sg (bval xs) (bval ys) = -1) := R1 h
          clear R1 R2 R3
          go_wp2
          go_ret
          exact ⟨ret_int R.out.symm, rfl⟩
        · have R := R3 h
          subst h
          clear R1 R2 R3
          go_wp2
          go_round
          case rel => exact ⟨_, rfl, by omega, by omega, by simpa using R⟩
          case measure => simp [intOf]
        · have h1 : decide (x < y) = false := by simp; omega
          clear R1 R3
          go_wp2
          go_ret
          exact ⟨ret_int (R2 h).symm, rfl⟩
      · obtain rfl : t = -1 := by omega
        have R : Hid (sg (bval xs) (bval ys) = 0) := sg_eq (by simpa [HiEq, hi_zero] using he)
        go_wp2
        go_ret
        exact ⟨ret_int R.out.symm, rfl⟩
end Go.Proofs.YtkpomobhjkikeaaGreatDoor
