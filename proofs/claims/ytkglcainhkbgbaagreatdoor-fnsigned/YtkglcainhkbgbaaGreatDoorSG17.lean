import Derived.Test.YtkglcainhkbgbaaGreatDoorSG8
namespace Go.Proofs.YtkglcainhkbgbaaGreatDoor
set_option maxRecDepth 100000
def rnd (f : Nat → Int) (j : Nat) : Int := if j < 4 then 19 * f (j + 1) else f (j - 4)
def col (e f : Nat → Int) (k : Nat) : Nat → Int
  | 0 => 0
  | i + 1 => col e f k i + e i * rnd f (4 + k - i)
theorem col_mod (e f : Nat → Int) : ∃ q, sv (fun k => col e f k 5) 5 + PP * q = sv e 5 * sv f 5 := by
  refine ⟨e 1 * f 4 + e 2 * f 3 + e 3 * f 2 + e 4 * f 1 + 2251799813685248 * (e 2 * f 4 + e 3 * f 3 + e 4 * f 2) + 2251799813685248 ^ 2 * (e 3 * f 4 + e 4 * f 3) + 2251799813685248 ^ 3 * (e 4 * f 4), ?_⟩
  simp only [sv, col, rnd]
  simp
  generalize e 0 = e0, e 1 = e1, e 2 = e2, e 3 = e3, e 4 = e4, f 0 = f0, f 1 = f1, f 2 = f2, f 3 = f3, f 4 = f4
  grind
theorem rnd_bd {f : Nat → Int} (h : Lm f) (j : Nat) (hj : j < 9) : 0 ≤ rnd f j ∧ rnd f j ≤ 42784196460019712 := by
  unfold rnd
  split
  · have := h (j + 1) (by omega); omega
  · have := h (j - 4) (by omega); omega
theorem mul_bd {a b A B : Int} (ha : 0 ≤ a ∧ a ≤ A) (hb : 0 ≤ b ∧ b ≤ B) : 0 ≤ a * b ∧ a * b ≤ A * B :=
  ⟨Int.mul_nonneg ha.1 hb.1, Int.mul_le_mul ha.2 hb.2 hb.1 (by omega)⟩
theorem col_bd {e f : Nat → Int} (he : Lm e) (hf : Lm f) (k : Nat) (hk : k < 5) : ∀ i, i ≤ 5 → 0 ≤ col e f k i ∧ col e f k i ≤ i * 96341445617345434513749443608576
  | 0, _ => by simp [col]
  | i + 1, h => by
    have ih := col_bd he hf k hk i (by omega)
    have h1 := he i (by omega)
    have := mul_bd (A := 2251799813685248) ⟨h1.1, by omega⟩ (rnd_bd hf (4 + k - i) (by omega))
    rw [col]
    omega
def cols (e f : Nat → Int) (k : Nat) : Int := if k < 5 then col e f k 5 else 0
theorem cols_bd {e f : Nat → Int} (he : Lm e) (hf : Lm f) (k : Nat) : 0 ≤ cols e f k ∧ cols e f k ≤ 481707228086727172568747218042880 := by
  unfold cols
  split
  · have := col_bd he hf k (by omega) 5 (by omega); omega
  · omega
theorem cols_cr {e f : Nat → Int} (he : Lm e) (hf : Lm f) (k : Nat) : 0 ≤ cr 0 (cols e f) k ∧ cr 0 (cols e f) k ≤ 213920982300098656 :=
  cr_bd (M := 213920982300098656) (by omega) (by omega) (by omega) (fun j => by have := cols_bd he hf j; omega) k
theorem mul_ok {e f : Nat → Int} (he : Lm e) (hf : Lm f) : (∀ j, 0 ≤ st1 (cols e f) j ∧ st1 (cols e f) j < 9223372036854775808) ∧ sv (stl (st1 (cols e f))) 5 = sv e 5 * sv f 5 % PP ∧ Lm (stl (st1 (cols e f))) := by
  have b : ∀ j, 0 ≤ st1 (cols e f) j ∧ st1 (cols e f) j < 9223372036854775808 := fun j => by
    have := cols_cr he hf 5
    have := lf_bd 0 (cols e f) j
    have := lf_bd 0 (cols e f) 0
    unfold st1
    split <;> omega
  obtain ⟨L, hv⟩ := stl_ok b
  refine ⟨b, ?_, L⟩
  rw [hv, st1_val]
  obtain ⟨q, hq⟩ := col_mod e f
  have h1 := cr_sum 0 (cols e f) 5
  have h2 : sv (cols e f) 5 = sv (fun k => col e f k 5) 5 := sv_congr 5 (fun j hj => by simp [cols, hj])
  rw [← hq]
  rw [h2] at h1
  generalize sv (fun k => col e f k 5) 5 = U at *
  generalize sv (lf 0 (cols e f)) 5 = A at *
  generalize cr 0 (cols e f) 5 = c at *
  have h3 : A + 19 * c = U + 57896044618658097711785492504343953926634992332820282019728792003956564819949 * (-c) := by omega
  rw [h3]
  show (U + 57896044618658097711785492504343953926634992332820282019728792003956564819949 * (-c)) % 57896044618658097711785492504343953926634992332820282019728792003956564819949 = (U + 57896044618658097711785492504343953926634992332820282019728792003956564819949 * q) % 57896044618658097711785492504343953926634992332820282019728792003956564819949
  rw [Int.add_mul_emod_self_left, Int.add_mul_emod_self_left]
end Go.Proofs.YtkglcainhkbgbaaGreatDoor
