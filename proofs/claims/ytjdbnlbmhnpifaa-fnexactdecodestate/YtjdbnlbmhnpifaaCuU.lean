
/-
  The cursor's takeList where nothing is left.
-/
import Derived.Test.YtjdbnlbmhnpifaaCuT
namespace Go.Proofs.Ytjdbnlbmhnpifaa
open Go Go.RowKit

set_option maxHeartbeats 2000000 in
theorem takeList_end (w : World) (p : Nat) (a : Option Addr) (m c : Nat) (hC : Cur w p (.slice a m c) (m : Int)) (hc0 : a = none → c = 0) (hc : m ≤ c) (hn : m ≤ 1048576) :
    Calls Try.prog 45 #[.pointer (some ⟨p, 0, none⟩), .int .i64 0] w fun e w' => e = .returned (.slice (some ⟨w.heap.size, 0, none⟩) 0 0) ∧ Blk w' w.heap.size .u8 [] ∧ Cur w' p (.slice a m c) (m : Int) ∧ Kp p w w' := by
  obtain ⟨i0, hi0, hz0, hz1, hz2⟩ := info_parts Try.info5
  have c0 := hC.c0
  have c1 := hC.c1
  have t1 : decide ((m : Int) - (m : Int) < 0) = false := by simp
  have q0 : (m : Int) ≤ 1048576 := by omega
  have j2 : (m : Int) ≤ (c : Int) := by omega
  have WR : IntKind.i64.wrap ((m : Int) + 0) = (m : Int) := by rw [wrap_i64]; omega
  have WR' : IntKind.i64.wrap (m : Int) = (m : Int) := by rw [wrap_i64]; omega
  have hcp := fun sp sc W => hide (run_copy_none (P := Try.prog) W 22 22 3 5 (some ⟨w.heap.size, 0, none⟩) sp 0 0 0 sc Try.underlying22 rowU8' (by simp))
  by_cases ha : a = none
  · subst ha
    obtain rfl := hc0 rfl
    obtain rfl : m = 0 := by omega
    go_enter Try.func45, Try.ntmps45
    go_wp2
    go_quiet (fail)
    go_upto_region 4 with (at_make; refine wpList_make_full _ rfl _ _ 22 rfl w.heap.size 5 i0 (.int .u8 0) 1 Try.underlying22 hi0 hz0 hz1 .i64 .i64 _ _ 0 rfl rfl rfl rfl (by rw [hz2]; omega) (by unfold maxLen; omega) (Nat.le_refl _) ?_; intro w3 hown hgrow)
    have B3 : Blk w3 w.heap.size .u8 [] := Blk.of_made hown
    have n3 : Below w.heap.size w w3 := (below_drewN (Below.refl _ _) nq).grown hgrow (Nat.le_refl _) (by simp)
    clear hown hgrow
    have C3 := hC.up n3
    have d0 := C3.c0
    have d1 := C3.c1
    have f1 := C3.f1
    have pl := hC.lt
    have C5 := C3.store (0)
    have N5 : Kp p w (w3.setCell ⟨p, 1, none⟩ (.int .i64 (0))) := (below_kp n3).trans (Only.setCell _ _ _ _).kp
    have B5 : Blk (w3.setCell ⟨p, 1, none⟩ (.int .i64 (0))) w.heap.size .u8 [] := B3.of_block ((Only.setCell w3 p 1 _).block _ (by omega))
    have HC := (hcp none 0 w3.drew).out
    go_region_with (first | (refine step_copy_ex rfl (.tmp 25) (.tmp 34) 22 22 rfl _ _ rfl rfl _ _ HC ?_) | fail)
    all_goals
      go_wp2
      go_ret
      exact ⟨rfl, B5, C5, ⟨N5.os, N5.tape, N5.output, N5.size, N5.block⟩⟩
  · obtain ⟨ad, rfl⟩ := Option.ne_none_iff_exists'.1 ha
    by_cases hcm : c = m
    · subst hcm
      go_enter Try.func45, Try.ntmps45
      go_wp2
      go_quiet (fail)
      go_upto_region 4 with (at_make; refine wpList_make_full _ rfl _ _ 22 rfl w.heap.size 5 i0 (.int .u8 0) 1 Try.underlying22 hi0 hz0 hz1 .i64 .i64 _ _ 0 rfl rfl rfl rfl (by rw [hz2]; omega) (by unfold maxLen; omega) (Nat.le_refl _) ?_; intro w3 hown hgrow)
      have B3 : Blk w3 w.heap.size .u8 [] := Blk.of_made hown
      have n3 : Below w.heap.size w w3 := (below_drewN (Below.refl _ _) nq).grown hgrow (Nat.le_refl _) (by simp)
      clear hown hgrow
      have C3 := hC.up n3
      have d0 := C3.c0
      have d1 := C3.c1
      have f1 := C3.f1
      have pl := hC.lt
      have C5 := C3.store ((c : Int))
      have N5 : Kp p w (w3.setCell ⟨p, 1, none⟩ (.int .i64 ((c : Int)))) := (below_kp n3).trans (Only.setCell _ _ _ _).kp
      have B5 : Blk (w3.setCell ⟨p, 1, none⟩ (.int .i64 ((c : Int)))) w.heap.size .u8 [] := B3.of_block ((Only.setCell w3 p 1 _).block _ (by omega))
      have HC := (hcp (some ad) 0 w3.drew).out
      go_region_with (first | (refine step_copy_ex rfl (.tmp 25) (.tmp 34) 22 22 rfl _ _ rfl rfl _ _ HC ?_) | fail)
      all_goals
        go_wp2
        go_ret
        exact ⟨rfl, B5, C5, ⟨N5.os, N5.tape, N5.output, N5.size, N5.block⟩⟩
    · go_enter Try.func45, Try.ntmps45
      go_wp2
      go_quiet (fail)
      go_upto_region 4 with (at_make; refine wpList_make_full _ rfl _ _ 22 rfl w.heap.size 5 i0 (.int .u8 0) 1 Try.underlying22 hi0 hz0 hz1 .i64 .i64 _ _ 0 rfl rfl rfl rfl (by rw [hz2]; omega) (by unfold maxLen; omega) (Nat.le_refl _) ?_; intro w3 hown hgrow)
      have B3 : Blk w3 w.heap.size .u8 [] := Blk.of_made hown
      have n3 : Below w.heap.size w w3 := (below_drewN (Below.refl _ _) nq).grown hgrow (Nat.le_refl _) (by simp)
      clear hown hgrow
      have C3 := hC.up n3
      have d0 := C3.c0
      have d1 := C3.c1
      have f1 := C3.f1
      have pl := hC.lt
      have C5 := C3.store ((m : Int))
      have N5 : Kp p w (w3.setCell ⟨p, 1, none⟩ (.int .i64 ((m : Int)))) := (below_kp n3).trans (Only.setCell _ _ _ _).kp
      have B5 : Blk (w3.setCell ⟨p, 1, none⟩ (.int .i64 ((m : Int)))) w.heap.size .u8 [] := B3.of_block ((Only.setCell w3 p 1 _).block _ (by omega))
      have HC := (hcp (some (ad.add m)) (c - m) w3.drew).out
      go_region_with (first | (refine step_copy_ex rfl (.tmp 25) (.tmp 34) 22 22 rfl _ _ rfl rfl _ _ HC ?_) | fail)
      all_goals
        go_wp2
        go_ret
        exact ⟨rfl, B5, C5, ⟨N5.os, N5.tape, N5.output, N5.size, N5.block⟩⟩
end Go.Proofs.Ytjdbnlbmhnpifaa
