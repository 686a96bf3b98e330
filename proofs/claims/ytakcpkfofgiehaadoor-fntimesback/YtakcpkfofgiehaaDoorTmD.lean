
/-
  The program's days of a date.
-/
import Derived.Test.YtakcpkfofgiehaaDoorTmB
namespace Go.Proofs.YtakcpkfofgiehaaDoor
set_option maxRecDepth 100000
open Go Go.RowKit

set_option maxHeartbeats 2000000 in
theorem days_any (w : World) (y : Int) (m : Nat) (x : Int) (hM : HasM w) (h0 : 1970 ≤ y) (h1 : y ≤ 9999) (hk : m < 12) (x0 : 0 ≤ x) (x1 : x ≤ 31) :
    Calls Tryd.prog 40 #[.agg #[.int .i64 y, .int .i64 ((m : Int) + 1), .int .i64 (x + 1)]] w fun e w' => e = .returned (.int .i64 (dyA y + mdS y m + x)) ∧ Below w.heap.size w w' := by
  have n0 : Below w.heap.size w (w.alloc (.cells #[.int .i64 y, .int .i64 ((m : Int) + 1), .int .i64 (x + 1)] 38)) := (Below.refl _ _).alloc (Nat.le_refl _) _
  have M1 := hM.up n0
  obtain ⟨k0, k1, k2⟩ := three_new w (.int .i64 y) (.int .i64 ((m : Int) + 1)) (.int .i64 (x + 1)) 38
  have DA := fun W => hide (daysAhead_any W y h0 (by omega))
  have ML := fun k (b : k < 12) => hide (monthLength_any (w.alloc (.cells #[.int .i64 y, .int .i64 ((m : Int) + 1), .int .i64 (x + 1)] 38)) y k M1 (by omega) b)
  have d0 := dyA_ge y h0
  have d1 := dyA_le y h0
  go_enter Tryd.func40, Tryd.ntmps40
  go_wp2_with fail
  refine (DA _).out.mono ?_
  rintro r w1 ⟨rfl, h⟩
  have h := h.symm
  subst h
  have MB : Hid (∀ k, k ≤ 12 → 0 ≤ mdS y k ∧ mdS y k ≤ 366) := fun k hk => by
    have a := mdS_mono y 0 k
    have b := mdS_mono y k (12 - k)
    rw [show k + (12 - k) = 12 by omega, mdS_all] at b
    have c := ydI_bd y
    rw [Nat.zero_add] at a
    have e : mdS y 0 = 0 := rfl
    omega
  have N0 := hide n0
  clear DA M1 n0 hM
  generalize hdy : dyA y = d at *
  have HD := hide hdy
  clear hdy
  have db0 : 0 ≤ d := by omega
  have db1 : d ≤ 3000000 := by omega
  clear d0 d1 h0 h1
  have sk : Hid (∀ k : Nat, mdS y (k + 1) = mdS y k + mdI y ((k : Int) + 1)) := fun _ => rfl
  have mb : Hid (∀ k : Nat, 28 ≤ mdI y ((k : Int) + 1) ∧ mdI y ((k : Int) + 1) ≤ 31) := fun k => mdI_bd y _
  have s0 : Hid (mdS y 0 = 0) := rfl
  generalize hms : mdS y = s at *
  have HS := hide hms
  clear hms
  go_wp2
  go_loop [3, 4] (fun u v => ∃ k : Nat, k ≤ m ∧ u = .int .i64 (d + s k) ∧ v = .int .i64 ((k : Int) + 1)) (fun _ v => (12 - intOf v).toNat)
  case atStart => exact ⟨0, Nat.zero_le _, by rw [s0.out]; simp, by simp⟩
  case round =>
    obtain ⟨k, hkm, rfl, rfl⟩ := hrel
    have b1 := MB.out k (by omega)
    have st := hide (sk.out k)
    have b2 := mb.out k
    by_cases c : k < m
    · have t1 : decide ((k : Int) + 1 < (m : Int) + 1) = true := by simp; omega
      have t2 : decide ((k : Int) < (m : Int)) = true := by simp; omega
      have m1 := ML k (by omega)
      have e1 : Hid (d + s (k + 1) = d + s k + mdI y ((k : Int) + 1)) := by show _ = _; rw [st.out]; omega
      clear st
      generalize mdI y ((k : Int) + 1) = md at *
      generalize s k = sK at *
      go_wp2_with fail
      refine m1.out.mono ?_
      rintro q w1 ⟨rfl, h⟩
      have h := h.symm
      subst h
      go_wp2
      go_round
      case rel => exact ⟨k + 1, by omega, by rw [e1.out], by go_num⟩
      case measure => simp [intOf]; omega
    · obtain rfl : k = m := by omega
      have t1 : decide ((k : Int) + 1 < (k : Int) + 1) = false := by simp
      have e1 : d + s k + (x + 1) - 1 = d + s k + x := by omega
      clear st b2
      have FIN : Hid (dyA y + mdS y k = d + s k) := by show _ = _; rw [HD.out, HS.out]
      generalize s k = sK at *
      go_wp2
      go_ret
      exact ⟨by rw [FIN.out]; simp, N0.out⟩
end Go.Proofs.YtakcpkfofgiehaaDoor
