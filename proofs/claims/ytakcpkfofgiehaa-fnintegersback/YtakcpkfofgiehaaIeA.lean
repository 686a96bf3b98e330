
/-
  The program's integerSize and EncodeInteger.
-/
import Derived.Test.YtakcpkfofgiehaaL64
import Derived.Test.YtakcpkfofgiehaaBtA
import Derived.Test.YtakcpkfofgiehaaApd
namespace Go.Proofs.Ytakcpkfofgiehaa
open Go.RowKit

set_option maxHeartbeats 1000000 in
theorem integerSize_any (w : World) (v : Int) (h0 : -9223372036854775808 ≤ v) (h1 : v < 9223372036854775808) :
    Calls Try.prog 42 #[.int .i64 v] w fun e w' => e = .returned (.int .i64 (isz v : Int)) ∧ w' = w := by
  have X := hide (xor_sign v h0 h1)
  obtain ⟨u, hu⟩ : ∃ u, u = if v < 0 then -v - 1 else v := ⟨_, rfl⟩
  have U0 : 0 ≤ u ∧ u < 9223372036854775808 := by rw [hu]; split <;> omega
  have Z := fun L (h : Bts u L) => hide (isz_bts (v := v) (L := L) (by rw [← hu]; exact h) (h.le (k := 63) (by omega)))
  rw [← hu] at X
  clear hu
  go_enter Try.func42, Try.ntmps42
  go_wp2_with fail
  rw [X.out]
  refine (len64_any u w (by omega) (by omega)).mono ?_
  rintro e w1 ⟨L, rfl, hB, rfl⟩
  have hZ := Z L hB
  have hL := hB.le (k := 63) (by omega)
  clear Z
  go_wp2
  go_ret
  refine ⟨ret_int ?_, rfl⟩
  rw [hZ.out]
  omega

set_option maxHeartbeats 1000000 in
theorem implEncodeInteger_any (w : World) (v : Int) (h0 : -9223372036854775808 ≤ v) (h1 : v < 9223372036854775808) :
    Calls Try.prog 17 #[.int .i64 v] w fun e w' => NewRow w.heap.size w' e .u8 (eiL v) ∧ Below w.heap.size w w' := by
  obtain ⟨i0, hi, hz0, hz1, hz2⟩ := info_parts Try.info5
  have IS := fun W => hide (integerSize_any W v h0 h1)
  have hz := isz_bd v
  have EL : Hid (eiL v = sgB (isz v) v) := rfl
  rw [EL.out]
  clear EL
  generalize isz v = s at *
  have SG := hide (sgB_len s v)
  go_enter Try.func17, Try.ntmps17
  go_wp2_with fail
  refine (IS w).out.mono ?_
  rintro r w1 ⟨rfl, h⟩
  have h := h.symm
  subst h
  go_wp2_with (at_make; refine wpList_make_full _ rfl _ _ 22 rfl w.heap.size 5 i0 (.int .u8 0) 1 Try.underlying22 hi hz0 hz1 .i64 .i64 _ _ s rfl rfl rfl rfl (by rw [hz2]; omega) (by unfold maxLen; omega) (Nat.le_refl _) ?_; intro w5 hown hgrow)
  have hB0 := Blk.of_made hown
  have hN0 : Below w.heap.size w w5 := (Below.refl _ _).grown hgrow (Nat.le_refl _) (by simp)
  clear hown hgrow
  go_loopw [10] (fun i wr => ∃ (k : Nat) (ys : List Int), k ≤ s ∧ i = .int .i64 k ∧ Hid (ys.length = s) ∧ Hid (∀ j, s - k ≤ j → j < s → ys.getD j 0 = (sgB s v).getD j 0) ∧ Blk wr w.heap.size .u8 ys ∧ Below w.heap.size w wr) (fun i _ => s - (intOf i).toNat)
  case atStart => exact ⟨0, _, Nat.zero_le _, rfl, by show _ = _; simp, fun j h1 h2 => absurd h1 (by omega), hB0, hN0⟩
  case round =>
    obtain ⟨k, ys, hk, rfl, hL, hT, hB, hN⟩ := hrel
    by_cases hlt : k < s
    · obtain ⟨p, hp⟩ : ∃ p : Nat, s - 1 - k = p := ⟨_, rfl⟩
      have hl : p < ys.length := by rw [hL.out]; omega
      have p1 : (s : Int) - 1 - (k : Int) = (p : Int) := by omega
      have p2 : (p : Int) < (s : Int) := by omega
      have hcy := hB.cell hl
      have hfy := hB.free p
      have hB' := hB.store p (v / 2 ^ (8 * k) % 256)
      have hN' : Below w.heap.size w (wr.setCell ⟨w.heap.size, p, none⟩ (.int .u8 (v / 2 ^ (8 * k) % 256))) := hN.setCell (Nat.le_refl _) _
      have hL' : Hid ((ys.set p (v / 2 ^ (8 * k) % 256)).length = s) := by show _ = _; rw [List.length_set]; exact hL.out
      have hT' : Hid (∀ j, s - (k + 1) ≤ j → j < s → (ys.set p (v / 2 ^ (8 * k) % 256)).getD j 0 = (sgB s v).getD j 0) := by
        intro j j1 j2
        by_cases e : p = j
        · subst e
          rw [getD_set_self _ _ _ hl, sgB_get _ _ _ j2, show s - 1 - p = k by omega]
        · rw [getD_set_ne _ _ _ _ e]
          exact hT.out j (by omega) j2
      have HP := hide hp
      clear hB hN hT hL hl hp
      go_wp2
      go_roundw
      case rel => exact ⟨k + 1, _, by omega, by go_num, hL', hT', hB', hN'⟩
      case measure => simp [intOf]; omega
    · obtain rfl : k = s := by omega
      have K : Hid (ys = sgB k v) := eq_of_getD (by rw [hL.out, SG.out]) (fun i hi => hT.out i (by omega) (by rw [← hL.out]; exact hi))
      clear hT
      go_wp2
      go_ret
      refine ⟨⟨_, k, w.heap.size, by rw [SG.out]; rfl, ?_, by simp, by rw [SG.out]; exact Nat.le_refl _, Nat.le_refl _⟩, hN⟩
      rw [← K.out]
      exact hB.own0
end Go.Proofs.Ytakcpkfofgiehaa
