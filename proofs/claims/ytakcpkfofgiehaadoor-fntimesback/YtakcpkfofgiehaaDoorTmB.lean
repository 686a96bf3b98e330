
/-
  The program's dateOf and days.
-/
import Derived.Test.YtakcpkfofgiehaaDoorTmA
namespace Go.Proofs.YtakcpkfofgiehaaDoor
set_option maxRecDepth 100000
open Go Go.RowKit

theorem three_new (w : World) (x y z : Value) (t : TypeId) : (w.alloc (.cells #[x, y, z] t)).cell? ⟨w.heap.size, 0, none⟩ = some x ∧ (w.alloc (.cells #[x, y, z] t)).cell? ⟨w.heap.size, 1, none⟩ = some y ∧ (w.alloc (.cells #[x, y, z] t)).cell? ⟨w.heap.size, 2, none⟩ = some z := by
  refine ⟨?_, ?_, ?_⟩ <;> simp [World.cell?_alloc_at]

set_option maxHeartbeats 2000000 in
theorem dateOf_any (w : World) (d : Int) (hM : HasM w) (h0 : 0 ≤ d) (h1 : d ≤ 2932896) :
    Calls Tryd.prog 22 #[.int .i64 d] w fun e w' => ∃ (y : Int) (k : Nat) (x : Int), IsDay d y k x ∧ e = .returned (.agg #[.int .i64 y, .int .i64 ((k : Int) + 1), .int .i64 (x + 1)]) ∧ Below w.heap.size w w' := by
  have n0 : Below w.heap.size w (w.alloc (.cells #[.int .i64 0, .int .i64 0, .int .i64 0] 38)) := (Below.refl _ _).alloc (Nat.le_refl _) _
  have M1 := hM.up n0
  have DA := fun y (a : 1970 ≤ y) (b : y ≤ 100000000) => hide (daysAhead_any (w.alloc (.cells #[.int .i64 0, .int .i64 0, .int .i64 0] 38)) y a b)
  have ML := fun y k (a : 0 ≤ y) (b : k < 12) => hide (monthLength_any (w.alloc (.cells #[.int .i64 0, .int .i64 0, .int .i64 0] 38)) y k M1 a b)
  have q0 : 0 ≤ d / 366 := by omega
  go_enter Tryd.func22, Tryd.ntmps22
  go_wp2
  go_loop [3] (fun v => ∃ y : Int, v = .int .i64 y ∧ 1970 ≤ y ∧ y ≤ 20000 ∧ Hid (dyA y ≤ d)) (fun v => (d + 1 - dyA (intOf v)).toNat)
  case atStart => exact ⟨1970 + d / 366, rfl, by omega, by omega, by show _ ≤ _; have := dyA_le (1970 + d / 366) (by omega); omega⟩
  case round =>
    obtain ⟨y, rfl, y0, y1, hy⟩ := hrel
    have D1 := DA (y + 1) (by omega) (by omega)
    have st := dyA_step y
    have yb := ydI_bd y
    have g := dyA_ge (y + 1) (by omega)
    by_cases c : dyA (y + 1) ≤ d
    · have t1 : decide (dyA (y + 1) ≤ d) = true := decide_eq_true c
      have HY : Hid (dyA (y + 1) ≤ d) := c
      have MS : Hid ((d + 1 - dyA (y + 1)).toNat < (d + 1 - dyA y).toNat) := by show _ < _; have := hy.out; omega
      have y2 : y + 1 ≤ 20000 := by omega
      clear c st yb g
      go_wp2_with fail
      refine D1.out.mono ?_
      rintro r w1 ⟨rfl, h⟩
      have h := h.symm
      subst h
      go_wp2
      go_round
      case rel => exact ⟨y + 1, by go_num, by omega, y2, HY⟩
      case measure => exact MS.out
    · have t1 : decide (dyA (y + 1) ≤ d) = false := decide_eq_false c
      have D0 := DA y y0 (by omega)
      have hy' := hy.out
      have g0 := dyA_ge y y0
      obtain ⟨r, hr⟩ : ∃ r, r = d - dyA y := ⟨_, rfl⟩
      have r0 : 0 ≤ r := by omega
      have r1 : r < mdS y 12 := by rw [mdS_all]; omega
      have e0 : d - dyA y = r := hr.symm
      have HR := hide hr
      have y0' : 0 ≤ y := by omega
      have dy0 : 0 ≤ dyA y := by omega
      have dy1 : dyA y ≤ 2932896 := by omega
      clear st yb g c hy g0 hr
      go_wp2_with fail
      refine D1.out.mono ?_
      rintro q w1 ⟨rfl, h⟩
      have h := h.symm
      subst h
      go_wp2_with fail
      refine D0.out.mono ?_
      rintro q w1 ⟨rfl, h⟩
      have h := h.symm
      subst h
      clear D0 D1 DA t1 hy'
      have HR1 := hide r1
      clear r1
      go_wp2
      go_loop [0, 4] (fun u v => ∃ (k : Nat) (x : Int), k < 12 ∧ u = .int .i64 x ∧ v = .int .i64 ((k : Int) + 1) ∧ 0 ≤ x ∧ x ≤ 2932896 ∧ Hid (r = mdS y k + x)) (fun _ v => (12 - intOf v).toNat)
      case atStart => exact ⟨0, r, by omega, rfl, by go_num, r0, by omega, by show r = 0 + r; omega⟩
      case round =>
        obtain ⟨k, x, hk, rfl, rfl, x0, x1, hx⟩ := hrel
        have m1 := ML y k y0' hk
        have mb := mdI_bd y ((k : Int) + 1)
        have sk : Hid (mdS y (k + 1) = mdS y k + mdI y ((k : Int) + 1)) := rfl
        by_cases c : mdI y ((k : Int) + 1) ≤ x
        · have t2 : decide (mdI y ((k : Int) + 1) ≤ x) = true := decide_eq_true c
          have k11 : k < 11 := by
            by_cases e : k < 11
            · exact e
            · obtain rfl : k = 11 := by omega
              have a := HR1.out
              have b := hx.out
              have s2 : mdS y 12 = mdS y 11 + mdI y ((11 : Nat) + 1) := rfl
              omega
          have nx : Hid (r = mdS y (k + 1) + (x - mdI y ((k : Int) + 1))) := by show _ = _; have := hx.out; have := sk.out; omega
          clear hx sk
          generalize mdI y ((k : Int) + 1) = md at *
          go_wp2_with fail
          refine m1.out.mono ?_
          rintro q w1 ⟨rfl, h⟩
          have h := h.symm
          subst h
          go_wp2_with fail
          refine m1.out.mono ?_
          rintro q w1 ⟨rfl, h⟩
          have h := h.symm
          subst h
          go_wp2
          go_round
          case rel => exact ⟨k + 1, x - md, by omega, by go_num, by go_num, by omega, by omega, nx⟩
          case measure => simp [intOf]; omega
        · have t2 : decide (mdI y ((k : Int) + 1) ≤ x) = false := decide_eq_false c
          have FD : Hid (IsDay d y k x) := ⟨y0, hk, x0, by omega, by have := HR.out; have := hx.out; omega⟩
          clear c sk hx mb
          generalize mdI y ((k : Int) + 1) = md at *
          go_wp2_with fail
          refine m1.out.mono ?_
          rintro q w1 ⟨rfl, h⟩
          have h := h.symm
          subst h
          go_wp2
          obtain ⟨k0, k1, k2⟩ := three_new w (.int .i64 y) (.int .i64 ((k : Int) + 1)) (.int .i64 (x + 1)) 38
          exact bodyPost_ret (v := .agg #[.int .i64 y, .int .i64 ((k : Int) + 1), .int .i64 (x + 1)]) (by simp [results, Tryd.results22, go_sem]) rfl ⟨y, k, x, FD.out, rfl, (Below.refl _ _).alloc (Nat.le_refl _) _⟩
end Go.Proofs.YtakcpkfofgiehaaDoor
