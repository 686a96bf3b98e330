import Derived.Test.YtkpomobhjkikeaaGreatDoorSS4
import Derived.Test.YtkpomobhjkikeaaGreatDoorSS14
import Derived.Test.YtkpomobhjkikeaaGreatDoorSS22
namespace Go.Proofs.YtkpomobhjkikeaaGreatDoor
set_option maxRecDepth 100000
open Go Go.RowKit
def zpad (n : Nat) : List Int := List.replicate ((16 - n % 16) % 16) 0
theorem zpad_byt (n : Nat) : Byt (zpad n) := fun i => by
  unfold zpad
  rw [List.getD_eq_getElem?_getD, List.getElem?_replicate]
  split <;> decide
theorem zpad_len (n : Nat) : (zpad n).length < 16 := by unfold zpad; rw [List.length_replicate]; omega
def len8 (n : Nat) : List Int := fill (byt (n : Int)) 8
theorem len8_len (n : Nat) : (len8 n).length = 8 := fill_len _ _
theorem len8_byt (n : Nat) : Byt (len8 n) := fun i => by
  unfold len8
  by_cases h : i < 8
  · rw [fill_get _ _ _ h]; unfold byt; exact ⟨by omega, by omega⟩
  · rw [List.getD_eq_getElem?_getD, List.getElem?_eq_none (by rw [fill_len]; omega)]; decide
def smd (extra text : List Int) : List Int := extra ++ zpad extra.length ++ text ++ zpad text.length ++ len8 extra.length ++ len8 text.length
set_option maxRecDepth 100000 in
set_option maxHeartbeats 1000000 in
theorem zerosBehind_any (w : World) (a : Option Addr) (n c : Nat) (hn : n ≤ 4194304) :
    Calls Tryz.prog 87 #[.slice a n c] w fun e w' => NewRow w.heap.size w' e .u8 (zpad n) ∧ Below w.heap.size w w' := by
  obtain ⟨i0, hi, hz0, hz1, hz2⟩ := info_parts Tryz.info5
  have t1 : (n : Int).tmod 16 = ((n % 16 : Nat) : Int) := by rw [Int.tmod_eq_emod_of_nonneg (by omega)]; omega
  by_cases h : n % 16 = 0
  · have Z : Hid (zpad n = []) := by show _ = _; unfold zpad; rw [h]; rfl
    rw [Z.out]
    rw [h] at t1
    have t2 : (n : Int) % 16 = 0 := by omega
    go_enter Tryz.func87, Tryz.ntmps87
    go_wp2
    go_ret
    exact ⟨newRow_z _ _, Below.refl _ _⟩
  · obtain ⟨m, hm⟩ : ∃ m, m = 16 - n % 16 := ⟨_, rfl⟩
    have Z : Hid (zpad n = List.replicate m 0) := by show _ = _; unfold zpad; rw [hm]; congr 1; omega
    rw [Z.out]
    have t3 : (16 : Int) - ((n % 16 : Nat) : Int) = (m : Int) := by omega
    have t2 : (n : Int) % 16 = ((n % 16 : Nat) : Int) := by omega
    have t4 : ¬ ((n % 16 : Nat) : Int) = 0 := by omega
    have m16 : m ≤ 16 := by omega
    clear hm Z
    generalize n % 16 = r at *
    go_enter Tryz.func87, Tryz.ntmps87
    go_wp2_with (at_make; refine wpList_make_full _ rfl _ _ 22 rfl w.heap.size 5 i0 (.int .u8 0) 1 Tryz.underlying22 hi hz0 hz1 .i64 .i64 _ _ m rfl rfl rfl rfl (by rw [hz2]; omega) (by unfold maxLen; omega) (Nat.le_refl _) ?_; intro w1 hown hgrow)
    have B := Blk.of_made hown
    have N : Below w.heap.size w w1 := (Below.refl _ _).grown hgrow (Nat.le_refl _) (by simp)
    go_wp2
    go_ret
    exact ⟨⟨some ⟨w.heap.size, 0, none⟩, m, w.heap.size, by rw [List.length_replicate]; rfl, B.own0, by simp, by rw [List.length_replicate]; exact Nat.le_refl _, Nat.le_refl _⟩, N⟩
set_option maxHeartbeats 1000000 in
theorem lengthBytes_any (w : World) (a : Option Addr) (n c : Nat) (hn : n ≤ 4194304) :
    Calls Tryz.prog 88 #[.slice a n c] w fun e w' => NewRow w.heap.size w' e .u8 (len8 n) ∧ Below w.heap.size w w' := by
  obtain ⟨i0, hi, hz0, hz1, hz2⟩ := info_parts Tryz.info5
  go_enter Tryz.func88, Tryz.ntmps88
  go_wp2_with (at_make; refine wpList_make_full _ rfl _ _ 22 rfl w.heap.size 5 i0 (.int .u8 0) 1 Tryz.underlying22 hi hz0 hz1 .i64 .i64 _ _ 8 rfl rfl rfl rfl (by rw [hz2]; omega) (by unfold maxLen; omega) (Nat.le_refl _) ?_; intro w1 hown hgrow)
  have B := Blk.of_made hown
  have N : Below w.heap.size w w1 := (Below.refl _ _).grown hgrow (Nat.le_refl _) (by simp)
  clear hown hgrow
  go_wp2
  go_loopw [8] (fun i wr => ∃ (k : Nat) (ys : List Int), k ≤ 8 ∧ i = .int .i64 k ∧ Hid (FillTo (byt (n : Int)) ys 8 k) ∧ Blk wr w.heap.size .u8 ys ∧ Below w.heap.size w wr) (fun i _ => 8 - (intOf i).toNat)
  case atStart => exact ⟨0, _, Nat.zero_le _, rfl, ⟨by simp, fun j h => absurd h (by omega)⟩, B, N⟩
  case round =>
    obtain ⟨k, ys, hk, rfl, hF, hB, hN⟩ := hrel
    clear B N
    by_cases hlt : k < 8
    · have R := hide (hF.out.step hlt)
      have cz := hB.cell (i := k) (by rw [hF.out.1]; exact hlt)
      have fz := hB.free k
      have S := hB.store k (byt (n : Int) k)
      have Sn : Below w.heap.size w (wr.setCell ⟨w.heap.size, k, none⟩ (.int .u8 (byt (n : Int) k))) := hN.setCell (Nat.le_refl _) _
      have E : Hid (byt (n : Int) k = (n : Int) / 2 ^ (8 * k) % 256) := by show _ = _; unfold byt; rw [pow_8]
      rw [E.out] at R S Sn
      have d1 : 8 * (k : Int) = ((8 * k : Nat) : Int) := by omega
      have d2 : 8 * k ≤ 56 := by omega
      have d3 : (k : Int) < 8 := by omega
      have dv : 0 ≤ (n : Int) / 2 ^ (8 * k) ∧ (n : Int) / 2 ^ (8 * k) ≤ 4194304 := by
        have hp : (0 : Int) < 2 ^ (8 * k) := Int.pow_pos (by decide)
        exact ⟨Int.ediv_nonneg (by omega) (Int.le_of_lt hp), Int.le_trans (Int.ediv_le_self _ (by omega)) (by omega)⟩
      clear hF hB hN E
      generalize ys.getD k 0 = y at *
      generalize ys.set k ((n : Int) / 2 ^ (8 * k) % 256) = zs at *
      generalize 8 * k = sh at *
      go_wp2
      go_roundw
      case rel => exact ⟨k + 1, zs, by omega, by go_num, R, S, Sn⟩
      case measure => simp [intOf]; omega
    · obtain rfl : k = 8 := by omega
      obtain rfl := hF.out.all
      clear hF
      go_wp2
      go_ret
      exact ⟨⟨some ⟨w.heap.size, 0, none⟩, 8, w.heap.size, by rw [len8_len]; rfl, hB.own0, by simp, by rw [len8_len]; exact Nat.le_refl _, Nat.le_refl _⟩, hN⟩
end Go.Proofs.YtkpomobhjkikeaaGreatDoor
