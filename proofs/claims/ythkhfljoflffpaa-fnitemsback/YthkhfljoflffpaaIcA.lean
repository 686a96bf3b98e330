
/-
  The program's EncodeItem.
-/
import Derived.Test.YthkhfljoflffpaaHelp
import Derived.Test.YthkhfljoflffpaaItN
import Derived.Test.YthkhfljoflffpaaApd
namespace Go.Proofs.Ythkhfljoflffpaa
open Go Go.RowKit

set_option maxRecDepth 100000 in
set_option maxHeartbeats 400000 in
theorem lengthStart_any (w : World) (n : Nat) (h : n ≤ 65535) :
    Calls Try.prog 29 #[.int .i64 (n : Int)] w fun e w' => e = .returned (.int .u8 (lenS n : Int)) ∧ w' = w := by
  by_cases c1 : n < 128
  · have t1 : decide ((n : Int) < 128) = true := by simp; omega
    have K : Hid (lenS n = n) := by show lenS n = _; unfold lenS; rw [if_pos c1]
    go_enter Try.func29, Try.ntmps29
    go_wp2
    go_ret
    exact ⟨by rw [K.out]; exact ret_int (by omega), rfl⟩
  · have t1 : decide ((n : Int) < 128) = false := by simp; omega
    by_cases c2 : n < 256
    · have t2 : decide ((n : Int) < 256) = true := by simp; omega
      have K : Hid (lenS n = 129) := by show lenS n = _; unfold lenS; rw [if_neg c1, if_pos c2]
      go_enter Try.func29, Try.ntmps29
      go_wp2
      go_ret
      exact ⟨by rw [K.out]; rfl, rfl⟩
    · have t2 : decide ((n : Int) < 256) = false := by simp; omega
      have K : Hid (lenS n = 130) := by show lenS n = _; unfold lenS; rw [if_neg c1, if_neg c2]
      go_enter Try.func29, Try.ntmps29
      go_wp2
      go_ret
      exact ⟨by rw [K.out]; rfl, rfl⟩

/-- One byte appended. -/
theorem append_one {P : Program} (w : World) (i : TypeInfo) (ht : P.underlying 22 = some (.slice 5)) (hi : P.info? 5 = some i) (hz : i.zero = some (.int .u8 0)) (hsize : i.size = 1) (hby : i.bytes = 1)
    (B : Nat) (v : Value) (xs : List Int) (hown : RowB w B v xs) (x : Int) (hl : xs.length ≤ 1048576) (hB : B ≤ w.heap.size) :
    ∃ v' w', (Builtin.append_ #[22, 22] 22 #[v, .slice (some ⟨w.heap.size, 0, none⟩) 1 1]).run P (w.alloc (.cells #[.int .u8 x] 5)) = .ok v' w' ∧ RowB w' B v' (xs ++ [x]) ∧ Below B w w' := by
  have na : Below w.heap.size w (w.alloc (.cells #[.int .u8 x] 5)) := (Below.refl _ _).alloc (Nat.le_refl _) _
  have B1 : Blk (w.alloc (.cells #[.int .u8 x] 5)) w.heap.size .u8 [x] := blk_lit1 w .u8 5 x
  obtain ⟨v', w2, hap, o2, n2⟩ := append_any (P := P) (w.alloc (.cells #[.int .u8 x] 5)) 22 i ht hi hz hsize hby B B _ _ (hown.up na) _ _ 1 [x] B1.own0.rd (by simp) (by simp; omega) (Nat.le_refl _) (by have := na.size; omega)
  exact ⟨v', w2, hap, o2, (na.mono hB).trans n2⟩

set_option maxRecDepth 100000 in
set_option maxHeartbeats 1000000 in
theorem appendLength_any (w : World) (B : Nat) (v : Value) (xs : List Int) (n : Nat) (hown : RowB w B v xs) (hB : B ≤ w.heap.size) (h : n ≤ 65535) (hl : xs.length ≤ 1000000) :
    Calls Try.prog 16 #[v, .int .i64 (n : Int)] w fun e w' => ∃ v', e = .returned v' ∧ RowB w' B v' (xs ++ lenL n) ∧ Below B w w' := by
  obtain ⟨i0, hi, hz0, hz1, hz2⟩ := info_parts Try.info5
  have LS := hide (lengthStart_any w n h)
  by_cases c1 : n < 128
  · have K : lenS n = n := by unfold lenS; rw [if_pos c1]
    have E : Hid (lenL n = [(n : Int)]) := by show lenL n = _; unfold lenL; rw [if_pos c1]
    rw [K] at LS
    have t1 : decide ((n : Int) = 130) = false := by simp; omega
    have t2 : decide ((n : Int) = 129) = false := by simp; omega
    have t3 : ((n : Int) == 130) = false := by simp; omega
    have t4 : ((n : Int) == 129) = false := by simp; omega
    obtain ⟨v1, w1, hap, o1, n1⟩ := append_one (P := Try.prog) w i0 Try.underlying22 hi hz0 hz1 hz2 B v xs hown (n : Int) (by omega) hB
    clear K hown
    go_enter Try.func16, Try.ntmps16
    go_wp2_with fail
    refine LS.out.mono ?_
    rintro r w2 ⟨rfl, h⟩
    have h := h.symm
    subst h
    go_wp2_with (at_builtin; refine Lib.wpList_append_run _ rfl _ _ 22 22 rfl _ _ rfl rfl _ _ hap ?_)
    clear hap
    go_wp2
    go_ret
    rw [E.out]
    exact ⟨_, rfl, o1, n1⟩
  · by_cases c2 : n < 256
    · have K : lenS n = 129 := by unfold lenS; rw [if_neg c1, if_pos c2]
      have E : Hid (lenL n = [129, (n : Int)]) := by show lenL n = _; unfold lenL; rw [if_neg c1, if_pos c2]
      rw [K] at LS
      obtain ⟨v1, w1, hap, o1, n1⟩ := append_one (P := Try.prog) w i0 Try.underlying22 hi hz0 hz1 hz2 B v xs hown 129 (by omega) hB
      obtain ⟨v2, w2, hap2, o2, n2⟩ := append_one (P := Try.prog) w1 i0 Try.underlying22 hi hz0 hz1 hz2 B v1 _ o1 (n : Int) (by simp; omega) (by have := n1.size; omega)
      rw [List.append_assoc] at o2
      have N2 := n1.trans n2
      have m1 : (n : Int) % 256 = (n : Int) := by omega
      clear K hown o1
      go_enter Try.func16, Try.ntmps16
      go_wp2_with fail
      refine LS.out.mono ?_
      rintro r w3 ⟨rfl, h⟩
      have h := h.symm
      subst h
      go_wp2_with (at_builtin; first | (refine Lib.wpList_append_run _ rfl _ _ 22 22 rfl _ _ rfl rfl _ _ hap ?_) | (refine Lib.wpList_append_run _ rfl _ _ 22 22 rfl _ _ rfl rfl _ _ hap2 ?_))
      clear hap hap2
      go_wp2
      go_ret
      rw [E.out]
      exact ⟨_, rfl, o2, N2⟩
    · have K : lenS n = 130 := by unfold lenS; rw [if_neg c1, if_neg c2]
      have E : Hid (lenL n = [130, (n : Int) / 256, (n : Int) % 256]) := by show lenL n = _; unfold lenL; rw [if_neg c1, if_neg c2]
      rw [K] at LS
      obtain ⟨v1, w1, hap, o1, n1⟩ := append_one (P := Try.prog) w i0 Try.underlying22 hi hz0 hz1 hz2 B v xs hown 130 (by omega) hB
      obtain ⟨v2, w2, hap2, o2, n2⟩ := append_one (P := Try.prog) w1 i0 Try.underlying22 hi hz0 hz1 hz2 B v1 _ o1 ((n : Int) / 256) (by simp; omega) (by have := n1.size; omega)
      obtain ⟨v3, w3, hap3, o3, n3⟩ := append_one (P := Try.prog) w2 i0 Try.underlying22 hi hz0 hz1 hz2 B v2 _ o2 ((n : Int) % 256) (by simp; omega) (by have := n1.size; have := n2.size; omega)
      rw [List.append_assoc, List.append_assoc] at o3
      have N3 := (n1.trans n2).trans n3
      have m1 : (n : Int) / 256 % 256 = (n : Int) / 256 := by omega
      clear K hown o1 o2
      go_enter Try.func16, Try.ntmps16
      go_wp2_with fail
      refine LS.out.mono ?_
      rintro r w4 ⟨rfl, h⟩
      have h := h.symm
      subst h
      go_wp2_with (at_builtin; first | (refine Lib.wpList_append_run _ rfl _ _ 22 22 rfl _ _ rfl rfl _ _ hap ?_) | (refine Lib.wpList_append_run _ rfl _ _ 22 22 rfl _ _ rfl rfl _ _ hap2 ?_) | (refine Lib.wpList_append_run _ rfl _ _ 22 22 rfl _ _ rfl rfl _ _ hap3 ?_))
      clear hap hap2 hap3
      go_wp2
      go_ret
      rw [E.out]
      exact ⟨_, rfl, o3, N3⟩

theorem itB_yes {tag : Int} {n : Nat} (h : itB tag n = true) : 1 ≤ tag ∧ tag ≤ 255 ∧ n ≤ 65535 := by
  unfold itB at h
  simpa using h

set_option maxRecDepth 100000 in
set_option maxHeartbeats 1000000 in
theorem implEncodeItem_any (w : World) (tag : Int) (g : Nat) (a : Option Addr) (c : Nat) (xs : List Int) (hr : Rd w g a .u8 xs) (hc : a = none → c = 0) :
    Calls Try.prog 6 #[.int .i64 tag, .slice a xs.length c] w fun e w' => NewRow w.heap.size w' e .u8 (itL tag xs) ∧ Below w.heap.size w w' := by
  obtain ⟨i0, hi, hz0, hz1, hz2⟩ := info_parts Try.info5
  cases hB : itB tag xs.length with
  | true =>
    obtain ⟨h1, h2, h3⟩ := itB_yes hB
    have E : Hid (itL tag xs = tag :: (lenL xs.length ++ xs)) := by show itL tag xs = _; unfold itL; rw [if_pos hB]
    have t1 : decide (tag < 1) = false := by simp; omega
    have t2 : decide (255 < tag) = false := by simp; omega
    have t3 : decide (65535 < (xs.length : Int)) = false := by simp; omega
    have na : Below w.heap.size w (w.alloc (.cells #[.int .u8 tag] 5)) := (Below.refl _ _).alloc (Nat.le_refl _) _
    have LL := lenL_len xs.length
    have AL := hide (appendLength_any (w.alloc (.cells #[.int .u8 tag] 5)) w.heap.size _ [tag] xs.length (RowB.lit1 w tag) na.size h3 (by simp))
    have m1 : tag % 256 = tag := by omega
    clear hB
    go_enter Try.func6, Try.ntmps6
    go_wp2_with fail
    refine AL.out.mono ?_
    rintro r w1 ⟨v1, rfl, o1, n1⟩
    have N1 := na.trans n1
    obtain ⟨v2, w2, hap, o2, n2⟩ := append_any (P := Try.prog) w1 22 i0 Try.underlying22 hi hz0 hz1 hz2 w.heap.size w.heap.size _ _ o1 g a c xs (hr.up N1) hc (by simp; omega) (Nat.le_refl _) N1.size
    have N2 := N1.trans n2
    clear o1 AL na n1 n2 N1
    go_wp2_with (at_builtin; refine Lib.wpList_append_run _ rfl _ _ 22 22 rfl _ _ rfl rfl _ _ hap ?_)
    clear hap
    rw [List.append_assoc, List.singleton_append, ← E.out] at o2
    obtain ⟨a3, c3, g3, rfl, o3, p3, q3, r3⟩ := o2.own
    go_wp2
    go_ret
    exact ⟨⟨a3, c3, g3, rfl, o3, p3, q3, r3⟩, N2⟩
  | false =>
    have E : Hid (itL tag xs = []) := by show itL tag xs = _; unfold itL; rw [if_neg (by rw [hB]; decide)]
    rw [E.out]
    by_cases h1 : tag < 1
    · have t1 : decide (tag < 1) = true := by simp; omega
      go_enter Try.func6, Try.ntmps6
      go_wp2
      go_ret
      exact ⟨newRow_z _ _, Below.refl _ _⟩
    · have t1 : decide (tag < 1) = false := by simp; omega
      by_cases h2 : 255 < tag
      · have t2 : decide (255 < tag) = true := by simp; omega
        go_enter Try.func6, Try.ntmps6
        go_wp2
        go_ret
        exact ⟨newRow_z _ _, Below.refl _ _⟩
      · have t2 : decide (255 < tag) = false := by simp; omega
        have t3 : decide (65535 < (xs.length : Int)) = true := by
          unfold itB at hB
          simp at hB ⊢
          have := hB (by omega) (by omega)
          omega
        go_enter Try.func6, Try.ntmps6
        go_wp2
        go_ret
        exact ⟨newRow_z _ _, Below.refl _ _⟩
theorem itL_short (tag : Int) (body : List Int) : (itL tag body).length ≤ 65540 := by
  unfold itL
  split
  · rename_i h
    have := itB_yes h
    have := lenL_len body.length
    simp
    omega
  · simp
end Go.Proofs.Ythkhfljoflffpaa
