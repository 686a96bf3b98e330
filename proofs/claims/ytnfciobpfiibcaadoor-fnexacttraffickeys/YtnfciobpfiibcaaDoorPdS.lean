
/-
  The model's l1Big and l6Pad.
-/
import Derived.Test.YtnfciobpfiibcaaDoorHelp
import Derived.Test.YtnfciobpfiibcaaDoorPdN
import Derived.Test.YtnfciobpfiibcaaDoorApd
import Derived.Test.YtnfciobpfiibcaaDoorSpecA
namespace Go.Proofs.YtnfciobpfiibcaaDoor
set_option maxRecDepth 100000
open Go.RowKit

set_option maxHeartbeats 1000000 in
theorem l1Big_any (w : World) (v : Int) (t : Nat) (h0 : 0 ≤ v) (h1 : v < 9223372036854775808) (ht : t ≤ 1048576) :
    Calls Tryd.prog 73 #[.int .i64 v, .int .i64 (t : Int)] w fun e w' => e = .returned (.slice (some ⟨w.heap.size, 0, none⟩) t t) ∧ Blk w' w.heap.size .u8 (bigL v t) ∧ Below w.heap.size w w' := by
  obtain ⟨i0, hi, hz0, hz1, hz2⟩ := info_parts Tryd.info5
  go_enter Tryd.func73, Tryd.ntmps73
  go_wp2_with (at_make; refine wpList_make_full _ rfl _ _ 22 rfl w.heap.size 5 i0 (.int .u8 0) 1 Tryd.underlying22 hi hz0 hz1 .i64 .i64 _ _ t rfl rfl rfl rfl (by rw [hz2]; omega) (by unfold maxLen; omega) (Nat.le_refl _) ?_; intro w1 hown hgrow)
  have hB0 := Blk.of_made hown
  have hN0 : Below w.heap.size w w1 := (Below.refl _ _).grown hgrow (Nat.le_refl _) (by simp)
  clear hown hgrow
  go_loopw [0, 6] (fun q i wr => ∃ (k : Nat) (u j : Int) (ys : List Int), k ≤ t ∧ q = .int .i64 u ∧ i = .int .i64 j ∧ j + (k : Int) + 1 = (t : Int) ∧ 0 ≤ u ∧ u < 9223372036854775808 ∧ Hid (u = v / 256 ^ k) ∧ BigTo v t ys k ∧ Blk wr w.heap.size .u8 ys ∧ Below w.heap.size w wr) (fun _ i _ => (intOf i + 1).toNat)
  case atStart => exact ⟨0, v, (t : Int) - 1, _, Nat.zero_le _, rfl, by go_num, by omega, h0, h1, by show _ = _; simp, BigTo.zero v t, hB0, hN0⟩
  case round =>
    obtain ⟨k, u, j, ys, hk, rfl, rfl, hj, u0, u1, hu, hT, hB, hN⟩ := hrel
    by_cases hlt : 0 ≤ j
    · obtain ⟨p, rfl⟩ := Int.eq_ofNat_of_zero_le hlt
      have R := hT.step (by omega)
      rw [show t - 1 - k = p by omega, ← hu.out] at R
      have hl : p < ys.length := by rw [hT.1]; omega
      have hcy := hB.cell hl
      have hfy := hB.free p
      have hB' := hB.store p (u % 256)
      have hN' : Below w.heap.size w (wr.setCell ⟨w.heap.size, p, none⟩ (.int .u8 (u % 256))) := hN.setCell (Nat.le_refl _) _
      have hu' : Hid (u / 256 = v / 256 ^ (k + 1)) := by show _ = _; rw [hu.out, div256]
      have p1 : (p : Int) < (t : Int) := by omega
      have HJ := hide hj
      clear hB hN hu hT hj
      go_wp2
      go_roundw
      case rel => exact ⟨k + 1, u / 256, (p : Int) - 1, _, by have := HJ.out; omega, by go_num, by go_num, by have := HJ.out; omega, by omega, by omega, hu', R, hB', hN'⟩
      case measure => simp [intOf]
    · obtain rfl : k = t := by omega
      have K := hide hT.all
      obtain rfl : j = -1 := by omega
      clear hj hu hT
      go_wp2
      go_ret
      exact ⟨rfl, by rw [← K.out]; exact hB, hN⟩
/-! ### the padding -/
/-- The length of a slice. -/
def vlen (v : Value) : Nat := match v with | .slice _ n _ => n | _ => 0
theorem vlen_slice (a : Option Addr) (n c : Nat) : vlen (.slice a n c) = n := rfl

set_option maxHeartbeats 2000000 in
theorem l6Pad_64 (w : World) (n : Int) (n0 : -9223372036854775808 ≤ n) (n1 : n < 9223372036854775808) :
    Calls Tryd.prog 81 #[.int .i64 n, .int .i64 64, .int .i64 8] w fun e w' => NewRow w.heap.size w' e .u8 (padA n 64 8) ∧ Below w.heap.size w w' := by
  obtain ⟨i0, hi, hz0, hz1, hz2⟩ := info_parts Tryd.info5
  by_cases c0 : 0 ≤ n
  · by_cases c1 : n ≤ 1099511627776
    · have t0 : decide (n < 0) = false := by simp; omega
      have t1 : decide (1099511627776 < n) = false := by simp; omega
      have K : Hid (padA n 64 8 = 128 :: (List.replicate (padZ n 64 8) 0 ++ bigL (8 * n) 8)) := by show _ = _; unfold padA; rw [if_pos ⟨c0, c1⟩]; rfl
      have ZL := padZ_lt n (B := 64) (t := 8) (by decide)
      have hal : Below w.heap.size w (w.alloc (.cells #[.int .u8 128] 5)) := (Below.refl _ _).alloc (Nat.le_refl _) _
      go_enter Tryd.func81, Tryd.ntmps81
      go_wp2
      go_loopw [7] (fun v wr => ∃ (k c : Nat) (a : Option Addr), v = .slice a (k + 1) c ∧ k ≤ padZ n 64 8 ∧ RowB wr w.heap.size v (128 :: List.replicate k 0) ∧ Below w.heap.size w wr) (fun v _ => padZ n 64 8 + 1 - vlen v)
      case atStart => exact ⟨0, 1, _, rfl, Nat.zero_le _, RowB.lit1 w 128, hal⟩
      case round =>
        obtain ⟨k, c, a, rfl, hk, hown, hN⟩ := hrel
        by_cases hlt : (n + (1 + (k : Int)) + 8) % 64 = 0
        · obtain rfl : k = padZ n 64 8 := padZ_end hk (by simp) hlt
          have u1 : (n + ((padZ n 64 8 : Nat) + 1 : Int) + 8) % 64 = 0 := by rw [← hlt, Int.add_comm 1]
          have BG := hide (l1Big_any wr (8 * n) 8 (by omega) (by omega) (by decide))
          have LL := hide (bigL_len (8 * n) 8)
          clear hlt hk
          generalize bigL (8 * n) 8 = bs at *
          generalize padZ n 64 8 = z at *
          go_wp2_with fail
          refine BG.out.mono ?_
          rintro r w1 ⟨rfl, B1, n1⟩
          have N1 := nxt hN n1
          have o1 := hown.up n1
          have hap := append_any (P := Tryd.prog) w1 22 i0 Tryd.underlying22 hi hz0 hz1 hz2 w.heap.size w.heap.size _ _ o1 _ _ 8 bs B1.own0.rd (by simp) (by rw [LL.out]; simp; omega) (Nat.le_refl _) N1.size
          rw [LL.out] at hap
          obtain ⟨v', w2, hap, o2, n2⟩ := hap
          have N2 := N1.trans n2
          clear BG hown o1 B1 n1 n2 N1
          go_wp2_with (at_builtin; refine Lib.wpList_append_run _ rfl _ _ 22 22 rfl _ _ rfl rfl _ _ hap ?_)
          rw [List.cons_append, ← K.out] at o2
          obtain ⟨a3, c3, g3, rfl, o3, p3, q3, r3⟩ := o2.own
          clear hap K
          go_wp2
          go_ret
          exact ⟨⟨a3, c3, g3, rfl, o3, p3, q3, r3⟩, N2⟩
        · have hk' := padZ_go hk (by simp) hlt
          have u1 : ((n + ((k : Int) + 1) + 8) % 64 == 0) = false := by rw [Int.add_comm (k : Int) 1]; simpa using hlt
          have na : Below wr.heap.size wr (wr.alloc (.cells #[.int .u8 0] 5)) := (Below.refl _ _).alloc (Nat.le_refl _) _
          have Na := nxt hN na
          have o1 := hown.up na
          have B1 : Blk (wr.alloc (.cells #[.int .u8 0] 5)) wr.heap.size .u8 [0] := blk_lit1 wr .u8 5 0
          obtain ⟨v', w2, hap, o2, n2⟩ := append_any (P := Tryd.prog) (wr.alloc (.cells #[.int .u8 0] 5)) 22 i0 Tryd.underlying22 hi hz0 hz1 hz2 w.heap.size w.heap.size _ _ o1 _ _ 1 [0] B1.own0.rd (by simp) (by simp; omega) (Nat.le_refl _) Na.size
          have N2 := Na.trans n2
          rw [List.cons_append, ← List.replicate_succ'] at o2
          obtain ⟨a3, c3, g3, rfl, -, p3, q3, r3⟩ := o2.own
          simp only [List.length_cons, List.length_replicate, List.length_nil] at hap o2
          clear hown o1 na Na B1 n2 hlt hk
          go_wp2_with (at_builtin; refine Lib.wpList_append_run _ rfl _ _ 22 22 rfl _ _ rfl rfl _ _ hap ?_)
          clear hap
          go_wp2
          go_roundw
          case rel => exact ⟨k + 1, c3, a3, rfl, hk', o2, N2⟩
          case measure => simp only [vlen_slice]; omega
    · have t0 : decide (n < 0) = false := by simp; omega
      have t1 : decide (1099511627776 < n) = true := by simp; omega
      have hal : Below w.heap.size w (w.alloc (.cells #[] 5)) := (Below.refl _ _).alloc (Nat.le_refl _) _
      have K : Hid (padA n 64 8 = []) := by show _ = _; unfold padA; rw [if_neg (by omega)]
      go_enter Tryd.func81, Tryd.ntmps81
      go_wp2
      go_ret
      rw [K.out]
      exact ⟨newRow_e _ _, hal⟩
  · have t0 : decide (n < 0) = true := by simp; omega
    have hal : Below w.heap.size w (w.alloc (.cells #[] 5)) := (Below.refl _ _).alloc (Nat.le_refl _) _
    have K : Hid (padA n 64 8 = []) := by show _ = _; unfold padA; rw [if_neg (by omega)]
    go_enter Tryd.func81, Tryd.ntmps81
    go_wp2
    go_ret
    rw [K.out]
    exact ⟨newRow_e _ _, hal⟩

theorem HashPad_any (w : World) (n : Int) (n0 : -9223372036854775808 ≤ n) (n1 : n < 9223372036854775808) :
    Calls Tryd.prog 67 #[.int .i64 n] w fun e w' => NewRow w.heap.size w' e .u8 (padA n 64 8) ∧ Below w.heap.size w w' := by
  go_enter Tryd.func67, Tryd.ntmps67
  go_wp2_with fail
  refine (l6Pad_64 w n n0 n1).mono ?_
  rintro r w1 ⟨⟨a1, c1, g1, rfl, o1, p1, q1, r1⟩, N1⟩
  go_wp2
  go_ret
  exact ⟨⟨a1, c1, g1, rfl, o1, p1, q1, r1⟩, N1⟩

set_option maxHeartbeats 2000000 in
theorem l6Pad_128 (w : World) (n : Int) (n0 : -9223372036854775808 ≤ n) (n1 : n < 9223372036854775808) :
    Calls Tryd.prog 81 #[.int .i64 n, .int .i64 128, .int .i64 16] w fun e w' => NewRow w.heap.size w' e .u8 (padA n 128 16) ∧ Below w.heap.size w w' := by
  obtain ⟨i0, hi, hz0, hz1, hz2⟩ := info_parts Tryd.info5
  by_cases c0 : 0 ≤ n
  · by_cases c1 : n ≤ 1099511627776
    · have t0 : decide (n < 0) = false := by simp; omega
      have t1 : decide (1099511627776 < n) = false := by simp; omega
      have K : Hid (padA n 128 16 = 128 :: (List.replicate (padZ n 128 16) 0 ++ bigL (8 * n) 16)) := by show _ = _; unfold padA; rw [if_pos ⟨c0, c1⟩]; rfl
      have ZL := padZ_lt n (B := 128) (t := 16) (by decide)
      have hal : Below w.heap.size w (w.alloc (.cells #[.int .u8 128] 5)) := (Below.refl _ _).alloc (Nat.le_refl _) _
      go_enter Tryd.func81, Tryd.ntmps81
      go_wp2
      go_loopw [7] (fun v wr => ∃ (k c : Nat) (a : Option Addr), v = .slice a (k + 1) c ∧ k ≤ padZ n 128 16 ∧ RowB wr w.heap.size v (128 :: List.replicate k 0) ∧ Below w.heap.size w wr) (fun v _ => padZ n 128 16 + 1 - vlen v)
      case atStart => exact ⟨0, 1, _, rfl, Nat.zero_le _, RowB.lit1 w 128, hal⟩
      case round =>
        obtain ⟨k, c, a, rfl, hk, hown, hN⟩ := hrel
        by_cases hlt : (n + (1 + (k : Int)) + 16) % 128 = 0
        · obtain rfl : k = padZ n 128 16 := padZ_end hk (by simp) hlt
          have u1 : (n + ((padZ n 128 16 : Nat) + 1 : Int) + 16) % 128 = 0 := by rw [← hlt, Int.add_comm 1]
          have BG := hide (l1Big_any wr (8 * n) 16 (by omega) (by omega) (by decide))
          have LL := hide (bigL_len (8 * n) 16)
          clear hlt hk
          generalize bigL (8 * n) 16 = bs at *
          generalize padZ n 128 16 = z at *
          go_wp2_with fail
          refine BG.out.mono ?_
          rintro r w1 ⟨rfl, B1, n1⟩
          have N1 := nxt hN n1
          have o1 := hown.up n1
          have hap := append_any (P := Tryd.prog) w1 22 i0 Tryd.underlying22 hi hz0 hz1 hz2 w.heap.size w.heap.size _ _ o1 _ _ 16 bs B1.own0.rd (by simp) (by rw [LL.out]; simp; omega) (Nat.le_refl _) N1.size
          rw [LL.out] at hap
          obtain ⟨v', w2, hap, o2, n2⟩ := hap
          have N2 := N1.trans n2
          clear BG hown o1 B1 n1 n2 N1
          go_wp2_with (at_builtin; refine Lib.wpList_append_run _ rfl _ _ 22 22 rfl _ _ rfl rfl _ _ hap ?_)
          rw [List.cons_append, ← K.out] at o2
          obtain ⟨a3, c3, g3, rfl, o3, p3, q3, r3⟩ := o2.own
          clear hap K
          go_wp2
          go_ret
          exact ⟨⟨a3, c3, g3, rfl, o3, p3, q3, r3⟩, N2⟩
        · have hk' := padZ_go hk (by simp) hlt
          have u1 : ((n + ((k : Int) + 1) + 16) % 128 == 0) = false := by rw [Int.add_comm (k : Int) 1]; simpa using hlt
          have na : Below wr.heap.size wr (wr.alloc (.cells #[.int .u8 0] 5)) := (Below.refl _ _).alloc (Nat.le_refl _) _
          have Na := nxt hN na
          have o1 := hown.up na
          have B1 : Blk (wr.alloc (.cells #[.int .u8 0] 5)) wr.heap.size .u8 [0] := blk_lit1 wr .u8 5 0
          obtain ⟨v', w2, hap, o2, n2⟩ := append_any (P := Tryd.prog) (wr.alloc (.cells #[.int .u8 0] 5)) 22 i0 Tryd.underlying22 hi hz0 hz1 hz2 w.heap.size w.heap.size _ _ o1 _ _ 1 [0] B1.own0.rd (by simp) (by simp; omega) (Nat.le_refl _) Na.size
          have N2 := Na.trans n2
          rw [List.cons_append, ← List.replicate_succ'] at o2
          obtain ⟨a3, c3, g3, rfl, -, p3, q3, r3⟩ := o2.own
          simp only [List.length_cons, List.length_replicate, List.length_nil] at hap o2
          clear hown o1 na Na B1 n2 hlt hk
          go_wp2_with (at_builtin; refine Lib.wpList_append_run _ rfl _ _ 22 22 rfl _ _ rfl rfl _ _ hap ?_)
          clear hap
          go_wp2
          go_roundw
          case rel => exact ⟨k + 1, c3, a3, rfl, hk', o2, N2⟩
          case measure => simp only [vlen_slice]; omega
    · have t0 : decide (n < 0) = false := by simp; omega
      have t1 : decide (1099511627776 < n) = true := by simp; omega
      have hal : Below w.heap.size w (w.alloc (.cells #[] 5)) := (Below.refl _ _).alloc (Nat.le_refl _) _
      have K : Hid (padA n 128 16 = []) := by show _ = _; unfold padA; rw [if_neg (by omega)]
      go_enter Tryd.func81, Tryd.ntmps81
      go_wp2
      go_ret
      rw [K.out]
      exact ⟨newRow_e _ _, hal⟩
  · have t0 : decide (n < 0) = true := by simp; omega
    have hal : Below w.heap.size w (w.alloc (.cells #[] 5)) := (Below.refl _ _).alloc (Nat.le_refl _) _
    have K : Hid (padA n 128 16 = []) := by show _ = _; unfold padA; rw [if_neg (by omega)]
    go_enter Tryd.func81, Tryd.ntmps81
    go_wp2
    go_ret
    rw [K.out]
    exact ⟨newRow_e _ _, hal⟩

end Go.Proofs.YtnfciobpfiibcaaDoor
