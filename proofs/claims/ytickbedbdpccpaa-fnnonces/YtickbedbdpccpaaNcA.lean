
/-
  FnNonces: two numbers have two nonces, as numbers; what is drawn.
-/
import Derived.Test.YtickbedbdpccpaaRnI
import Derived.Test.YtickbedbdpccpaaDr8
import Derived.Test.YtickbedbdpccpaaDrB
import Derived.Test.YtickbedbdpccpaaLwA8
import Derived.Test.YtickbedbdpccpaaSm8
import Derived.Test.YtickbedbdpccpaaLwO
import Derived.Laws.BitsAllLaws
namespace Go.Proofs.Ytickbedbdpccpaa
open Go Go.RowKit

theorem xrB_can {x y z : Int} (hx : 0 ≤ x ∧ x < 256) (hy : 0 ≤ y ∧ y < 256) (hz : 0 ≤ z ∧ z < 256) (h : xrB x y = xrB x z) : y = z := by
  unfold xrB at h
  obtain ⟨a, rfl⟩ := Int.eq_ofNat_of_zero_le hx.1
  obtain ⟨b, rfl⟩ := Int.eq_ofNat_of_zero_le hy.1
  obtain ⟨c, rfl⟩ := Int.eq_ofNat_of_zero_le hz.1
  rw [u8_xor_nat a b (by omega) (by omega), u8_xor_nat a c (by omega) (by omega)] at h
  have h1 : a ^^^ b = a ^^^ c := by exact_mod_cast h
  have h2 : a ^^^ (a ^^^ b) = a ^^^ (a ^^^ c) := by rw [h1]
  rw [← Nat.xor_assoc, ← Nat.xor_assoc, Nat.xor_self, Nat.zero_xor, Nat.zero_xor] at h2
  rw [h2]
theorem xrB_zero {x : Int} (hx : 0 ≤ x ∧ x < 256) : xrB x 0 = x := by
  unfold xrB
  obtain ⟨a, rfl⟩ := Int.eq_ofNat_of_zero_le hx.1
  have := u8_xor_nat a 0 (by omega) (by omega)
  rw [Nat.xor_zero] at this
  exact this
theorem xrB_rng {x y : Int} (hx : 0 ≤ x ∧ x < 256) (hy : 0 ≤ y ∧ y < 256) : 0 ≤ xrB x y ∧ xrB x y < 256 := by
  unfold xrB
  obtain ⟨n, rfl⟩ := Int.eq_ofNat_of_zero_le hx.1
  obtain ⟨m, rfl⟩ := Int.eq_ofNat_of_zero_le hy.1
  rw [u8_xor_nat n m (by omega) (by omega)]
  have : n ^^^ m < 2 ^ 8 := Nat.xor_lt_two_pow (by omega) (by omega)
  exact ⟨by omega, by omega⟩
theorem nzT_get (zs B : List Int) (i : Nat) (hi : i < zs.length) : ∀ j, (nzT zs B j).getD i 0 = if 4 ≤ i ∧ i < 4 + j then xrB (zs.getD i 0) (B.getD (i - 4) 0) else zs.getD i 0
  | 0 => by rw [if_neg (by omega)]; rfl
  | j + 1 => by
    rw [nzT]
    by_cases e : 4 + j = i
    · subst e
      rw [getD_set_self _ _ _ (by rw [nzT_len]; exact hi), if_pos (by omega), nzT_get zs B (4 + j) hi j, if_neg (by omega), show 4 + j - 4 = j by omega]
    · rw [getD_set_ne _ _ _ _ e, nzT_get zs B i hi j]
      by_cases h : 4 ≤ i ∧ i < 4 + j
      · rw [if_pos h, if_pos (by omega)]
      · rw [if_neg h, if_neg (by omega)]
theorem rnA_good {V : List Int} {q : Int} (h : V.length = 12) (h0 : 0 ≤ q) (h1 : q ≤ 4294967295) : rnA V q = nzT V (bigL q 8) 8 := by
  unfold rnA
  rw [if_pos ⟨h, h0, h1⟩]
theorem rnA_zero {V : List Int} (h : V.length = 12) (hb : Byt V) : rnA V 0 = V := by
  rw [rnA_good h (by omega) (by omega)]
  refine eq_of_getD (nzT_len _ _ _) fun i hi => ?_
  rw [nzT_len] at hi
  rw [nzT_get _ _ _ hi]
  split
  · next hh =>
    rw [bigL_get _ _ _ (by omega)]
    have : (0 : Int) / 256 ^ (8 - 1 - (i - 4)) % 256 = 0 := by rw [Int.zero_ediv]; rfl
    rw [this]
    exact xrB_zero (hb i)
  · rfl
theorem rnA_inj {V : List Int} {a b : Int} (h : V.length = 12) (hb : Byt V) (a0 : 0 ≤ a) (a1 : a ≤ 4294967295) (b0 : 0 ≤ b) (b1 : b ≤ 4294967295) (e : rnA V a = rnA V b) : a = b := by
  rw [rnA_good h a0 a1, rnA_good h b0 b1] at e
  have key : ∀ j, j < 8 → (bigL a 8).getD j 0 = (bigL b 8).getD j 0 := fun j hj => by
    have := congrArg (fun l => l.getD (4 + j) 0) e
    rw [nzT_get _ _ _ (by omega), nzT_get _ _ _ (by omega), if_pos (by omega), if_pos (by omega), show 4 + j - 4 = j by omega] at this
    exact xrB_can (hb _) (bigL_byt a 8 j) (bigL_byt b 8 j) this
  have k4 := key 4 (by omega)
  have k5 := key 5 (by omega)
  have k6 := key 6 (by omega)
  have k7 := key 7 (by omega)
  rw [bigL_get _ _ _ (by omega), bigL_get _ _ _ (by omega)] at k4 k5 k6 k7
  simp only [show 8 - 1 - 4 = 3 from rfl, show 8 - 1 - 5 = 2 from rfl, show 8 - 1 - 6 = 1 from rfl, show 8 - 1 - 7 = 0 from rfl, Int.reducePow, Int.pow_zero, Int.ediv_one] at k4 k5 k6 k7
  omega
theorem rnA_bytN {V : List Int} (h : V.length = 12) (hb : Byt V) {q : Int} (h0 : 0 ≤ q) (h1 : q ≤ 4294967295) : Byt (rnA V q) := fun i => by
  rw [rnA_good h h0 h1]
  by_cases hi : i < V.length
  · rw [nzT_get _ _ _ hi]
    split
    · exact xrB_rng (hb i) (bigL_byt q 8 _)
    · exact hb i
  · rw [List.getD_eq_getElem?_getD, List.getElem?_eq_none (by rw [nzT_len]; omega)]
    simp
theorem l15DrawSequence_any (w : World) (s g : Nat) (a : Option Addr) (c : Nat) (xs : List Int) (t : Int) (hs : Src w s a xs.length c t) (hr : Rd w g a .u8 xs) (hne : 0 < xs.length → g ≠ s) (hb : Byt xs) (hl : xs.length ≤ 1048576)
    (t0 : 0 ≤ t) (t1 : t ≤ 100000) :
    Calls Try.prog 29 #[.pointer (some ⟨s, 0, none⟩)] w fun e w' => ∃ (v t' : Int), e = .returned (.int .i64 v) ∧ -1 ≤ v ∧ v ≤ 4294967300 ∧ t ≤ t' ∧ t' ≤ t + 2 ∧ Src w' s a xs.length c t' ∧ Only s w w' := by
  have NX := fun W t n h1 h2 => l1NextB_any W s g a c xs t n h1 h2 hne hb hl
  go_enter Try.func29, Try.ntmps29
  go_wp2_with fail
  refine (NX w t 10 hs hr t0 (by omega) (by decide) (by decide)).mono ?_
  rintro e w1 ⟨k, rfl, ⟨k0, k1⟩, S1, O1⟩
  have r1 := hr.but (But.ofOnly O1) hne
  by_cases c0 : k = 0
  · subst c0
    go_wp2_with fail
    refine (NX w1 (t + 1) 3 S1 r1 (by omega) (by omega) (by decide) (by decide)).mono ?_
    rintro e w2 ⟨r, rfl, ⟨h0, h1⟩, S2, O2⟩
    go_wp2
    go_ret
    exact ⟨_, t + 1 + 1, rfl, by omega, by omega, by omega, by omega, S2, O1.trans O2⟩
  · have d0 : decide (k = 0) = false := by simpa using c0
    by_cases c1 : k = 1
    · subst c1
      go_wp2
      go_ret
      exact ⟨_, t + 1, rfl, by omega, by omega, by omega, by omega, S1, O1⟩
    · have d1 : decide (k = 1) = false := by simpa using c1
      by_cases c2 : k = 2
      · subst c2
        go_wp2_with fail
        refine (NX w1 (t + 1) 4294967295 S1 r1 (by omega) (by omega) (by decide) (by decide)).mono ?_
        rintro e w2 ⟨r, rfl, ⟨h0, h1⟩, S2, O2⟩
        go_wp2
        go_ret
        exact ⟨_, t + 1 + 1, rfl, by omega, by omega, by omega, by omega, S2, O1.trans O2⟩
      · have d2 : decide (k = 2) = false := by simpa using c2
        go_wp2_with fail
        refine (NX w1 (t + 1) 300 S1 r1 (by omega) (by omega) (by decide) (by decide)).mono ?_
        rintro e w2 ⟨r, rfl, ⟨h0, h1⟩, S2, O2⟩
        go_wp2
        go_ret
        exact ⟨_, t + 1 + 1, rfl, by omega, by omega, by omega, by omega, S2, O1.trans O2⟩
set_option maxHeartbeats 2000000 in
theorem drawRN_any (w : World) (g : Nat) (a : Option Addr) (c : Nat) (xs : List Int) (hr : Rd w g a .u8 xs) (hb : Byt xs) (hl : xs.length ≤ 1048576) :
    Calls Try.prog 17 #[.slice a xs.length c] w fun e w' => ∃ (ys : List Int) (q : Int) (a1 : Option Addr) (c1 g1 : Nat), e = .returned (.tuple #[.slice a1 ys.length c1, .int .i64 q]) ∧ -1 ≤ q ∧ q ≤ 4294967300 ∧ Byt ys ∧ Own w' g1 a1 .u8 ys ∧ Below w.heap.size w w' := by
  go_enter Try.func17, Try.ntmps17
  go_wp2_with fail
  refine (l1Source_any w a xs.length c hl).mono ?_
  rintro e w1 ⟨rfl, S1, n1⟩
  have hne : 0 < xs.length → g ≠ w.heap.size := fun h => by have := hr.lt h; omega
  have y1 : w.heap.size < w1.heap.size := S1.lt
  go_wp2_with fail
  refine (l8DrawNonce_any w1 w.heap.size g a c xs 0 S1 (hr.up n1) hne hb hl (by omega) (by omega)).mono ?_
  rintro e w2 ⟨ks, t2, kl, kb, ⟨a2, c2, g2, rfl, o2, p2, q2, r2⟩, h0, h1, S2, B2⟩
  have N2 : Below w.heap.size w w2 := n1.trans (B2.below (Nat.le_refl _) n1.size)
  go_wp2_with fail
  refine (l15DrawSequence_any w2 w.heap.size g a c xs t2 S2 (hr.up N2) hne hb hl (by omega) (by omega)).mono ?_
  rintro e w3 ⟨ct, t3, rfl, ct0, ct1, h2, h3, S3, O3⟩
  have N3 : Below w.heap.size w w3 := N2.trans (O3.below (Nat.le_refl _))
  have o3 := o2.but (But.ofOnly O3) (fun _ => by omega)
  clear O3 S1 S2 S3 B2 o2
  go_wp2
  refine bodyPost_ret (v := .tuple #[.slice a2 ks.length c2, .int .i64 ct]) (by simp [results, Try.results17, go_sem]) rfl ?_
  exact ⟨ks, ct, a2, c2, g2, rfl, ct0, ct1, kb, o3, N3⟩
end Go.Proofs.Ytickbedbdpccpaa
