
/-
  The program's squares: square, squareTimes.
-/
import Derived.Test.YtnaaanefndeafaaDoorMulE
namespace Go.Proofs.YtnaaanefndeafaaDoor
set_option maxRecDepth 100000
open Go.RowKit

/-- An element: five limbs in their bounds, of a number below the prime. -/
def Elm (e : Nat → Int) : Prop := Lm e ∧ sv e 5 < PP
theorem Elm.nonneg {e : Nat → Int} (h : Elm e) : 0 ≤ sv e 5 := h.1.bd.1
theorem Elm.of {e : Nat → Int} {v : Int} (h : Lm e) (hv : sv e 5 = v % PP) : Elm e := ⟨h, by rw [hv]; exact Int.emod_lt_of_pos _ (by decide)⟩
theorem Elm.mod {e : Nat → Int} (h : Elm e) : sv e 5 % PP = sv e 5 := Int.emod_eq_of_lt h.nonneg h.2
theorem sq_pow (x : Int) (k : Nat) : (x ^ 2 ^ k % PP) * (x ^ 2 ^ k % PP) % PP = x ^ 2 ^ (k + 1) % PP := by
  rw [← Int.mul_emod, ← Int.pow_add, Nat.pow_succ, Nat.mul_comm, Nat.two_mul]

set_option maxHeartbeats 2000000 in
theorem square_any (w : World) (e : Nat → Int) (he : Lm e) :
    Calls Tryd.prog 97 #[ag5 e] w fun r w' => ∃ t, r = .returned (ag5 t) ∧ Lm t ∧ sv t 5 = (sv e 5 * sv e 5) % PP ∧ Below w.heap.size w w' := by
  have B0 := blk_box w .u64 49 (e 0) (e 1) (e 2) (e 3) (e 4)
  have n0 : Below w.heap.size w (w.alloc (.cells #[.int .u64 (e 0), .int .u64 (e 1), .int .u64 (e 2), .int .u64 (e 3), .int .u64 (e 4)] 49)) := (Below.refl _ _).alloc (Nat.le_refl _) _
  have s0 : (w.alloc (.cells #[.int .u64 (e 0), .int .u64 (e 1), .int .u64 (e 2), .int .u64 (e 3), .int .u64 (e 4)] 49)).heap.size = w.heap.size + 1 := by simp
  have M := fun w => mulE_any w e e he he
  simp only [ag5] at M ⊢
  go_enter Tryd.func97, Tryd.ntmps97
  go_wp2_with fail
  generalize w.alloc (.cells #[.int .u64 (e 0), .int .u64 (e 1), .int .u64 (e 2), .int .u64 (e 3), .int .u64 (e 4)] 49) = wa at *
  have B1 := blk_box wa .u64 49 0 0 0 0 0
  have n1 : Below wa.heap.size wa (wa.alloc (.cells #[.int .u64 0, .int .u64 0, .int .u64 0, .int .u64 0, .int .u64 0] 49)) := (Below.refl _ _).alloc (Nat.le_refl _) _
  rw [s0] at B1
  generalize wa.alloc (.cells #[.int .u64 0, .int .u64 0, .int .u64 0, .int .u64 0, .int .u64 0] 49) = wb at *
  have N1 := nxt n0 n1
  refine (M wb).mono ?_
  rintro r w1 ⟨t, rfl, L, V, n2⟩
  obtain ⟨⟨p0, p1, p2, p3, p4⟩, ⟨g0, g1, g2, g3, g4⟩⟩ := (B1.up n2).f5
  have N2 := nxt N1 n2
  have V' := hide V
  clear M B0 B1 n0 n1 n2 N1 V s0
  go_wp2
  exact bodyPost_ret (v := ag5 t) (by simp [ag5, results, Tryd.results97, go_sem, p0, p1, p2, p3, p4]) rfl ⟨t, rfl, L, V'.out, below_set5 N2 (by omega) _ _ _ _ _⟩

set_option maxHeartbeats 2000000 in
theorem squareTimes_any (w : World) (e : Nat → Int) (he : Elm e) (n : Nat) (hn : n ≤ 1000) :
    Calls Tryd.prog 112 #[ag5 e, .int .i64 n] w fun r w' => ∃ t, r = .returned (ag5 t) ∧ Lm t ∧ sv t 5 = sv e 5 ^ 2 ^ n % PP ∧ Below w.heap.size w w' := by
  have B0 := blk_box w .u64 49 (e 0) (e 1) (e 2) (e 3) (e 4)
  have n0 : Below w.heap.size w (w.alloc (.cells #[.int .u64 (e 0), .int .u64 (e 1), .int .u64 (e 2), .int .u64 (e 3), .int .u64 (e 4)] 49)) := (Below.refl _ _).alloc (Nat.le_refl _) _
  have s0 : (w.alloc (.cells #[.int .u64 (e 0), .int .u64 (e 1), .int .u64 (e 2), .int .u64 (e 3), .int .u64 (e 4)] 49)).heap.size = w.heap.size + 1 := by simp
  simp only [ag5]
  go_enter Tryd.func112, Tryd.ntmps112
  go_wp2
  generalize w.alloc (.cells #[.int .u64 (e 0), .int .u64 (e 1), .int .u64 (e 2), .int .u64 (e 3), .int .u64 (e 4)] 49) = wa at *
  have B1 := blk_box wa .u64 49 0 0 0 0 0
  have n1 : Below wa.heap.size wa (wa.alloc (.cells #[.int .u64 0, .int .u64 0, .int .u64 0, .int .u64 0, .int .u64 0] 49)) := (Below.refl _ _).alloc (Nat.le_refl _) _
  rw [s0] at B1
  have s1 : (wa.alloc (.cells #[.int .u64 0, .int .u64 0, .int .u64 0, .int .u64 0, .int .u64 0] 49)).heap.size = w.heap.size + 2 := by simp [s0]
  generalize wa.alloc (.cells #[.int .u64 0, .int .u64 0, .int .u64 0, .int .u64 0, .int .u64 0] 49) = wb at *
  have E0 := B0.up n1
  have N1 := nxt n0 n1
  go_loopw [6] (fun i wr => ∃ (k : Nat) (t : Nat → Int), k ≤ n ∧ i = .int .i64 k ∧ (Lm t ∧ sv t 5 = sv e 5 ^ 2 ^ k % PP) ∧ Blk wr w.heap.size .u64 [t 0, t 1, t 2, t 3, t 4] ∧ Blk wr (w.heap.size + 1) .u64 [0, 0, 0, 0, 0] ∧ w.heap.size + 1 < wr.heap.size ∧ Below w.heap.size w wr) (fun i _ => n - (intOf i).toNat)
  case atStart => exact ⟨0, e, by omega, rfl, ⟨he.1, by rw [Nat.pow_zero, Int.pow_one, he.mod]⟩, E0, B1, by omega, N1⟩
  case round =>
    clear E0 B1 B0 n0 n1 s0 s1 N1
    obtain ⟨k, t, hk, rfl, ht, hB, hR, hz, hN⟩ := hrel
    obtain ⟨⟨q0, q1, q2, q3, q4⟩, ⟨z0, z1, z2, z3, z4⟩⟩ := hB.f5
    by_cases hlt : k < n
    · have M := square_any wr t ht.1
      simp only [ag5] at M
      have k2 : (k : Int) < (n : Int) := by omega
      have Ht := hide ht
      clear ht
      go_wp2_with fail
      refine M.mono ?_
      rintro r w1 ⟨u, rfl, L, V, n2⟩
      have hB2 := hB.up n2
      obtain ⟨⟨x0, x1, x2, x3, x4⟩, ⟨y0, y1, y2, y3, y4⟩⟩ := hB2.f5
      have S : Blk (((((w1.setCell ⟨w.heap.size, 0, none⟩ (.int .u64 (u 0))).setCell ⟨w.heap.size, 1, none⟩ (.int .u64 (u 1))).setCell ⟨w.heap.size, 2, none⟩ (.int .u64 (u 2))).setCell ⟨w.heap.size, 3, none⟩ (.int .u64 (u 3))).setCell ⟨w.heap.size, 4, none⟩ (.int .u64 (u 4))) w.heap.size .u64 [u 0, u 1, u 2, u 3, u 4] := ((((hB2.store 0 _).store 1 _).store 2 _).store 3 _).store 4 _
      have hne : w.heap.size + 1 ≠ w.heap.size := by omega
      have SR : Blk (((((w1.setCell ⟨w.heap.size, 0, none⟩ (.int .u64 (u 0))).setCell ⟨w.heap.size, 1, none⟩ (.int .u64 (u 1))).setCell ⟨w.heap.size, 2, none⟩ (.int .u64 (u 2))).setCell ⟨w.heap.size, 3, none⟩ (.int .u64 (u 3))).setCell ⟨w.heap.size, 4, none⟩ (.int .u64 (u 4))) (w.heap.size + 1) .u64 [0, 0, 0, 0, 0] := (((((hR.up n2).keep hne).keep hne).keep hne).keep hne).keep hne
      have SN := below_set5 (nxt hN n2) (Nat.le_refl w.heap.size) (.int .u64 (u 0)) (.int .u64 (u 1)) (.int .u64 (u 2)) (.int .u64 (u 3)) (.int .u64 (u 4))
      have SZ : w.heap.size + 1 < (((((w1.setCell ⟨w.heap.size, 0, none⟩ (.int .u64 (u 0))).setCell ⟨w.heap.size, 1, none⟩ (.int .u64 (u 1))).setCell ⟨w.heap.size, 2, none⟩ (.int .u64 (u 2))).setCell ⟨w.heap.size, 3, none⟩ (.int .u64 (u 3))).setCell ⟨w.heap.size, 4, none⟩ (.int .u64 (u 4))).heap.size := by
        have := n2.size
        simp [World.setCell]; omega
      have V' : Hid (sv u 5 = sv e 5 ^ 2 ^ (k + 1) % PP) := by show _ = _; rw [V, Ht.out.2, sq_pow]
      clear M hB hR hN n2 hB2 V hne q0 q1 q2 q3 q4 z0 z1 z2 z3 z4
      go_wp2
      go_roundw
      case rel => exact ⟨k + 1, u, by omega, by go_num, ⟨L, V'.out⟩, S, SR, SZ, SN⟩
      case measure => simp [intOf]; omega
    · obtain rfl : k = n := by omega
      obtain ⟨⟨p0, p1, p2, p3, p4⟩, ⟨g0, g1, g2, g3, g4⟩⟩ := hR.f5
      have Ht := hide ht
      clear ht hB hR
      go_wp2
      exact bodyPost_ret (v := ag5 t) (by simp [ag5, results, Tryd.results112, go_sem, p0, p1, p2, p3, p4]) rfl ⟨t, rfl, Ht.out.1, Ht.out.2, below_set5 hN (by omega) _ _ _ _ _⟩
end Go.Proofs.YtnaaanefndeafaaDoor
