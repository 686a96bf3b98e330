
/-
  The model's l10Length and EncodeItem.
-/
import Derived.Test.YtgmnnmlbmibabaaIcA
namespace Go.Proofs.Ytgmnnmlbmibabaa
open Go Go.RowKit

set_option maxHeartbeats 1000000 in
theorem l10Length_any (w : World) (n : Nat) (h : n ≤ 65535) :
    Calls Try.prog 37 #[.int .i64 (n : Int)] w fun e w' => NewRow w.heap.size w' e .u8 (lenL n) ∧ Below w.heap.size w w' := by
  by_cases c1 : n < 128
  · have E : Hid (lenL n = [(n : Int)]) := by show lenL n = _; unfold lenL; rw [if_pos c1]
    have t1 : decide ((n : Int) < 128) = true := by simp; omega
    have na : Below w.heap.size w (w.alloc (.cells #[.int .u8 (n : Int)] 5)) := (Below.refl _ _).alloc (Nat.le_refl _) _
    have B1 : Blk (w.alloc (.cells #[.int .u8 (n : Int)] 5)) w.heap.size .u8 [(n : Int)] := blk_lit1 w .u8 5 _
    have m1 : (n : Int) % 256 = (n : Int) := by omega
    rw [E.out]
    go_enter Try.func37, Try.ntmps37
    go_wp2
    go_ret
    exact ⟨⟨_, 1, w.heap.size, rfl, B1.own0, by simp, by simp, Nat.le_refl _⟩, na⟩
  · by_cases c2 : n < 256
    · have E : Hid (lenL n = [129, (n : Int)]) := by show lenL n = _; unfold lenL; rw [if_neg c1, if_pos c2]
      have t1 : decide ((n : Int) < 128) = false := by simp; omega
      have t2 : decide ((n : Int) < 256) = true := by simp; omega
      have na : Below w.heap.size w (w.alloc (.cells #[.int .u8 129, .int .u8 (n : Int)] 5)) := (Below.refl _ _).alloc (Nat.le_refl _) _
      have B1 : Blk (w.alloc (.cells #[.int .u8 129, .int .u8 (n : Int)] 5)) w.heap.size .u8 [129, (n : Int)] := ⟨5, by show (w.heap.push _)[w.heap.size]? = _; simp⟩
      have m1 : (n : Int) % 256 = (n : Int) := by omega
      rw [E.out]
      go_enter Try.func37, Try.ntmps37
      go_wp2
      go_ret
      exact ⟨⟨_, 2, w.heap.size, rfl, B1.own0, by simp, by simp, Nat.le_refl _⟩, na⟩
    · have E : Hid (lenL n = [130, (n : Int) / 256, (n : Int) % 256]) := by show lenL n = _; unfold lenL; rw [if_neg c1, if_neg c2]
      have t1 : decide ((n : Int) < 128) = false := by simp; omega
      have t2 : decide ((n : Int) < 256) = false := by simp; omega
      have na : Below w.heap.size w (w.alloc (.cells #[.int .u8 130, .int .u8 ((n : Int) / 256), .int .u8 ((n : Int) % 256)] 5)) := (Below.refl _ _).alloc (Nat.le_refl _) _
      have B1 : Blk (w.alloc (.cells #[.int .u8 130, .int .u8 ((n : Int) / 256), .int .u8 ((n : Int) % 256)] 5)) w.heap.size .u8 [130, (n : Int) / 256, (n : Int) % 256] := ⟨5, by show (w.heap.push _)[w.heap.size]? = _; simp⟩
      have m1 : (n : Int) / 256 % 256 = (n : Int) / 256 := by omega
      rw [E.out]
      go_enter Try.func37, Try.ntmps37
      go_wp2
      go_ret
      exact ⟨⟨_, 3, w.heap.size, rfl, B1.own0, by simp, by simp, Nat.le_refl _⟩, na⟩

set_option maxHeartbeats 1000000 in
theorem specEncodeItem_any (w : World) (tag : Int) (g : Nat) (a : Option Addr) (c : Nat) (xs : List Int) (hr : Rd w g a .u8 xs) (hc : a = none → c = 0) :
    Calls Try.prog 44 #[.int .i64 tag, .slice a xs.length c] w fun e w' => NewRow w.heap.size w' e .u8 (itL tag xs) ∧ Below w.heap.size w w' := by
  obtain ⟨i0, hi, hz0, hz1, hz2⟩ := info_parts Try.info5
  cases hB : itB tag xs.length with
  | true =>
    obtain ⟨h1, h2, h3⟩ := itB_yes hB
    have E : Hid (itL tag xs = tag :: (lenL xs.length ++ xs)) := by show itL tag xs = _; unfold itL; rw [if_pos hB]
    have t1 : decide (tag < 1) = false := by simp; omega
    have t2 : decide (255 < tag) = false := by simp; omega
    have t3 : decide (65535 < (xs.length : Int)) = false := by simp; omega
    have na : Below w.heap.size w (w.alloc (.cells #[.int .u8 tag] 5)) := (Below.refl _ _).alloc (Nat.le_refl _) _
    have RL := RowB.lit1 w tag
    have LL := lenL_len xs.length
    have SL := hide (l10Length_any (w.alloc (.cells #[.int .u8 tag] 5)) xs.length h3)
    have m1 : tag % 256 = tag := by omega
    clear hB
    go_enter Try.func44, Try.ntmps44
    go_wp2_with fail
    generalize w.alloc (.cells #[.int .u8 tag] 5) = W at *
    refine SL.out.mono ?_
    rintro r w1 ⟨⟨a1, c1, g1, rfl, o1, p1, q1, r1⟩, n1⟩
    have N1 := na.trans (n1.mono na.size)
    obtain ⟨v2, w2, hap, o2, n2⟩ := append_any (P := Try.prog) w1 22 i0 Try.underlying22 hi hz0 hz1 hz2 w.heap.size w.heap.size _ _ (RL.up n1) g1 a1 c1 _ o1.rd p1 (by simp; omega) (Nat.le_refl _) N1.size
    have N2 := N1.trans n2
    obtain ⟨v3, w3, hap3, o3, n3⟩ := append_any (P := Try.prog) w2 22 i0 Try.underlying22 hi hz0 hz1 hz2 w.heap.size w.heap.size _ _ o2 g a c xs (hr.up N2) hc (by simp; omega) (Nat.le_refl _) N2.size
    have N3 := N2.trans n3
    clear o1 o2 SL na n1 n2 n3 N1 N2 RL
    go_wp2_with (at_builtin; first | (refine Lib.wpList_append_run _ rfl _ _ 22 22 rfl _ _ rfl rfl _ _ hap ?_) | (refine Lib.wpList_append_run _ rfl _ _ 22 22 rfl _ _ rfl rfl _ _ hap3 ?_))
    clear hap hap3
    rw [List.append_assoc, List.singleton_append, ← E.out] at o3
    obtain ⟨a3, c3, g3, rfl, o3, p3, q3, r3⟩ := o3.own
    go_wp2
    go_ret
    exact ⟨⟨a3, c3, g3, rfl, o3, p3, q3, r3⟩, N3⟩
  | false =>
    have E : Hid (itL tag xs = []) := by show itL tag xs = _; unfold itL; rw [if_neg (by rw [hB]; decide)]
    have hal : Below w.heap.size w (w.alloc (.cells #[] 5)) := (Below.refl _ _).alloc (Nat.le_refl _) _
    rw [E.out]
    by_cases h1 : tag < 1
    · have t1 : decide (tag < 1) = true := by simp; omega
      go_enter Try.func44, Try.ntmps44
      go_wp2
      go_ret
      exact ⟨newRow_e _ _, hal⟩
    · have t1 : decide (tag < 1) = false := by simp; omega
      by_cases h2 : 255 < tag
      · have t2 : decide (255 < tag) = true := by simp; omega
        go_enter Try.func44, Try.ntmps44
        go_wp2
        go_ret
        exact ⟨newRow_e _ _, hal⟩
      · have t2 : decide (255 < tag) = false := by simp; omega
        have t3 : decide (65535 < (xs.length : Int)) = true := by
          unfold itB at hB
          simp at hB ⊢
          have := hB (by omega) (by omega)
          omega
        go_enter Try.func44, Try.ntmps44
        go_wp2
        go_ret
        exact ⟨newRow_e _ _, hal⟩
end Go.Proofs.Ytgmnnmlbmibabaa
