import Derived.Test.YtkglcainhkbgbaaGreatDoorSG6
import Derived.Test.YtkglcainhkbgbaaGreatDoorSG7
namespace Go.Proofs.YtkglcainhkbgbaaGreatDoor
set_option maxRecDepth 100000
abbrev PP : Int := 57896044618658097711785492504343953926634992332820282019728792003956564819949
def cr (c : Int) (u : Nat → Int) : Nat → Int
  | 0 => c
  | k + 1 => (cr c u k + u k) / 2251799813685248
def lf (c : Int) (u : Nat → Int) (k : Nat) : Int := (cr c u k + u k) % 2251799813685248
def sv (u : Nat → Int) : Nat → Int
  | 0 => 0
  | k + 1 => sv u k + u k * 2251799813685248 ^ k
theorem cr_sum (c : Int) (u : Nat → Int) : ∀ k, sv (lf c u) k + cr c u k * 2251799813685248 ^ k = c + sv u k
  | 0 => by simp [sv, cr]
  | k + 1 => by
    have ih := cr_sum c u k
    have h : cr c u k + u k = lf c u k + 2251799813685248 * cr c u (k + 1) := by
      rw [lf, cr]; omega
    have h2 : (cr c u k + u k) * 2251799813685248 ^ k = (lf c u k + 2251799813685248 * cr c u (k + 1)) * 2251799813685248 ^ k := by rw [h]
    rw [Int.add_mul, Int.add_mul] at h2
    rw [sv, sv, Int.pow_succ]
    have h3 : cr c u (k + 1) * (2251799813685248 ^ k * 2251799813685248) = 2251799813685248 * cr c u (k + 1) * 2251799813685248 ^ k := by
      rw [Int.mul_comm (2251799813685248 ^ k) 2251799813685248, ← Int.mul_assoc, Int.mul_comm (cr c u (k + 1))]
    rw [h3]
    omega
theorem sv_congr {u v : Nat → Int} : ∀ k, (∀ j, j < k → u j = v j) → sv u k = sv v k
  | 0, _ => rfl
  | k + 1, h => by rw [sv, sv, sv_congr k (fun j hj => h j (by omega)), h k (by omega)]
theorem lf_bd (c : Int) (u : Nat → Int) (k : Nat) : 0 ≤ lf c u k ∧ lf c u k < 2251799813685248 := by
  unfold lf; omega
theorem cr_bd {c : Int} {u : Nat → Int} {M : Int} (hc : 0 ≤ c) (hcM : c ≤ M) (hM : 0 ≤ M) (hu : ∀ j, 0 ≤ u j ∧ u j ≤ 2251799813685247 * M) : ∀ k, 0 ≤ cr c u k ∧ cr c u k ≤ M
  | 0 => ⟨hc, hcM⟩
  | k + 1 => by
    have ih := cr_bd hc hcM hM hu k
    have := hu k
    rw [cr]
    omega
def Lm (u : Nat → Int) : Prop := ∀ j, j < 5 → 0 ≤ u j ∧ u j < 2251799813685248
theorem Lm.bd {u : Nat → Int} (h : Lm u) : 0 ≤ sv u 5 ∧ sv u 5 < 57896044618658097711785492504343953926634992332820282019728792003956564819968 := by
  have h0 := h 0 (by omega); have h1 := h 1 (by omega); have h2 := h 2 (by omega); have h3 := h 3 (by omega); have h4 := h 4 (by omega)
  simp only [sv]
  omega
theorem Lm.uniq {u v : Nat → Int} (hu : Lm u) (hv : Lm v) (h : sv u 5 = sv v 5) : ∀ j, j < 5 → u j = v j := by
  have a0 := hu 0 (by omega); have a1 := hu 1 (by omega); have a2 := hu 2 (by omega); have a3 := hu 3 (by omega); have a4 := hu 4 (by omega)
  have b0 := hv 0 (by omega); have b1 := hv 1 (by omega); have b2 := hv 2 (by omega); have b3 := hv 3 (by omega); have b4 := hv 4 (by omega)
  simp only [sv] at h
  have e0 : u 0 = v 0 := by omega
  have e1 : u 1 = v 1 := by omega
  have e2 : u 2 = v 2 := by omega
  have e3 : u 3 = v 3 := by omega
  have e4 : u 4 = v 4 := by omega
  intro j hj
  obtain rfl | rfl | rfl | rfl | rfl : j = 0 ∨ j = 1 ∨ j = 2 ∨ j = 3 ∨ j = 4 := by omega
  all_goals assumption
def st1 (u : Nat → Int) (j : Nat) : Int := if j = 0 then lf 0 u 0 + 19 * cr 0 u 5 else lf 0 u j
def stl (u : Nat → Int) : Nat → Int := lf (19 * cr 19 (st1 u) 5) (st1 u)
theorem st1_val (u : Nat → Int) : sv (st1 u) 5 = sv (lf 0 u) 5 + 19 * cr 0 u 5 := by
  simp [sv, st1]; omega
theorem stl_ok {u : Nat → Int} (hu : ∀ j, 0 ≤ u j ∧ u j < 9223372036854775808) : Lm (stl u) ∧ sv (stl u) 5 = sv u 5 % PP := by
  refine ⟨fun j _ => lf_bd _ _ _, ?_⟩
  have h1 := cr_sum 0 u 5
  have b1 := cr_bd (c := 0) (u := u) (M := 4097) (by omega) (by omega) (by omega) (fun j => by have := hu j; omega) 5
  have L1 := Lm.bd (u := lf 0 u) (fun j _ => lf_bd _ _ _)
  have hv := st1_val u
  have b2 : ∀ j, 0 ≤ st1 u j ∧ st1 u j ≤ 2251799813763091 := fun j => by
    have := lf_bd 0 u j
    have := lf_bd 0 u 0
    unfold st1
    split <;> omega
  have h2 := cr_sum 19 (st1 u) 5
  have L2 := Lm.bd (u := lf 19 (st1 u)) (fun j _ => lf_bd _ _ _)
  have h3 := cr_sum (19 * cr 19 (st1 u) 5) (st1 u) 5
  have L3 := Lm.bd (u := lf (19 * cr 19 (st1 u) 5) (st1 u)) (fun j _ => lf_bd _ _ _)
  have e3 : sv (stl u) 5 = sv (lf (19 * cr 19 (st1 u) 5) (st1 u)) 5 := rfl
  rw [e3]
  generalize sv (lf 0 u) 5 = A at *
  generalize cr 0 u 5 = c at *
  generalize sv (st1 u) 5 = V at *
  generalize sv (lf 19 (st1 u)) 5 = B at *
  generalize cr 19 (st1 u) 5 = r at *
  generalize sv (lf (19 * r) (st1 u)) 5 = E at *
  generalize cr (19 * r) (st1 u) 5 = d at *
  generalize sv u 5 = U at *
  show E = U % 57896044618658097711785492504343953926634992332820282019728792003956564819949
  have hr : r = 0 ∨ r = 1 := by omega
  have hd : d = r := by omega
  omega
end Go.Proofs.YtkglcainhkbgbaaGreatDoor
