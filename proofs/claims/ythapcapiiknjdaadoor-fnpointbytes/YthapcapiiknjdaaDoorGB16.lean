import Derived.Test.YthapcapiiknjdaaDoorGB4
import Derived.Test.YthapcapiiknjdaaDoorGB5
import Derived.Test.YthapcapiiknjdaaDoorGB14
import Derived.Test.YthapcapiiknjdaaDoorGB15
import Derived.Deep.RegionWith
import Derived.Deep.WholeRow
import Derived.Deep.RegionHeld3

/-
  Four and eight words of 64 bits modulo the order of the group: numbers alone.
-/
namespace Go.Proofs.YthapcapiiknjdaaDoor
set_option maxRecDepth 100000


/-- Eight words in their bounds, and their number. -/
def W8 (D : Nat → Int) : Prop := ∀ j, j < 8 → 0 ≤ D j ∧ D j < 18446744073709551616

/-! ### a product with a word, added -/
/-- What is carried into step k. -/
def ac (n : Int) (s d : Nat → Int) : Nat → Int
  | 0 => 0
  | k + 1 => (ac n s d k + n * s k + d k) / 18446744073709551616


/-! ### less a product with a word -/
theorem W4.bd {u : Nat → Int} (h : W4 u) : 0 ≤ wval u ∧ wval u < 115792089237316195423570985008687907853269984665640564039457584007913129639936 := by
  have h0 := h 0 (by omega); have h1 := h 1 (by omega); have h2 := h 2 (by omega); have h3 := h 3 (by omega)
  unfold wval
  omega

/-! ### reducing -/


/-! ### a product and a sum -/

/-! ### bytes -/
end Go.Proofs.YthapcapiiknjdaaDoor

/-
  The model's small functions of chapter 3: a shift by whole bytes, a number told in decimals, the order.
-/
namespace Go.Proofs.YthapcapiiknjdaaDoor
set_option maxRecDepth 100000
open Go.RowKit

set_option maxHeartbeats 400000 in
theorem l1Copy_own (w : World) (g : Nat) (ad : Addr) (cap : Nat) (xs : List Int) (hr : Rd w g (some ad) .u8 xs) (hn : xs.length ≤ 1048576) (h0 : 0 < xs.length) :
    Calls Tryd.prog 63 #[.slice (some ad) xs.length cap] w fun e w' => ∃ v, e = .returned v ∧ v ≠ .slice none 0 0 ∧ w'.ownsRow w.heap.size 5 1 v xs.length (xs.map (Value.int .u8)) ∧ Below w.heap.size w w' := by
  obtain ⟨i0, hi, hz0, hz1, hz2⟩ := info_parts Tryd.info5
  have hown : (w.alloc (.cells #[] 5)).ownsRow w.heap.size 5 1 (.slice (some ⟨w.heap.size, 0, none⟩) 0 0) 0 [] := World.ownsRow_lit w #[] 0 (Nat.le_refl _) (by unfold maxLen; omega) (by simp)
  have hal : Below w.heap.size w (w.alloc (.cells #[] 5)) := (Below.refl _ _).alloc (Nat.le_refl _) _
  have hcell : ∀ j u, (xs.map (Value.int .u8))[j]? = some u → (w.alloc (.cells #[] 5)).cell? (ad.add j) = some u := by
    intro j u hj
    have hjl : j < xs.length := by
      have := (List.getElem?_eq_some_iff.1 hj).1
      simpa using this
    obtain ⟨off, ha, hcc⟩ := (hr.up hal) (by omega)
    simp only [Option.some.injEq] at ha
    subst ha
    rw [Addr.add_mid, hcc j hjl]
    simpa [hjl] using hj
  have hone : ∀ u ∈ xs.map (Value.int .u8), u.oneCell' = true := oneCells _ _
  go_enter Tryd.func63, Tryd.ntmps63
  go_wp2_with (at_builtin; refine wpList_append_own _ rfl _ _ 22 rfl w.heap.size 5 i0 (.int .u8 0) 1 1 Tryd.underlying22 hi hz0 hz1 hz2 rfl (by decide) (.slice (some ⟨w.heap.size, 0, none⟩) 0 0) 0 [] rfl hown ad xs.length cap (xs.map (Value.int .u8)) rfl (by simp) hcell hone (by unfold maxLen; omega) (by omega) (by simp) ?_; intro v' w1 hown' hgrow hnil)
  simp only [Nat.zero_add, List.nil_append] at hown'
  have hB : Below w.heap.size w w1 := hal.grown hgrow (by simp) (by intro k hk; simp [Value.ownBlock] at hk; omega)
  have hv : v' ≠ .slice none 0 0 := fun h => by have := (hnil.1 h).1; simp at this
  clear hgrow hown hnil
  go_wp2
  go_ret
  exact ⟨_, rfl, hv, hown', hB⟩

theorem bval_zeros (xs : List Int) : ∀ m, bval (xs ++ List.replicate m 0) = bval xs * 256 ^ m
  | 0 => by simp
  | m + 1 => by
    rw [List.replicate_succ', ← List.append_assoc, bval_snoc, bval_zeros xs m, Int.pow_succ, Int.mul_assoc]
    omega
theorem byt_addz {xs : List Int} (h : Byt xs) (m : Nat) : Byt (xs ++ List.replicate m 0) := by
  intro i
  by_cases e : i < xs.length
  · have := h i
    simpa [List.getElem?_append, e] using this
  · rw [List.getD_eq_getElem?_getD, List.getElem?_append, if_neg e, List.getElem?_replicate]
    split <;> simp

set_option maxHeartbeats 1000000 in
theorem l1Shift252_any (w : World) (g : Nat) (ad : Addr) (c : Nat) (xs : List Int) (ha : Rd w g (some ad) .u8 xs) (hb : Byt xs) (hl : xs.length ≤ 64) (h0 : 0 < xs.length) :
    Calls Tryd.prog 124 #[.slice (some ad) xs.length c, .int .i64 252] w fun e w' => ∃ ys, Canon ys (bval xs * 7237005577332262213973186563042994240829374041602535252466099000494570602496) ∧ NewRow w.heap.size w' e .u8 ys ∧ Below w.heap.size w w' := by
  obtain ⟨i0, hi, hz0, hz1, hz2⟩ := info_parts Tryd.info5
  go_enter Tryd.func124, Tryd.ntmps124
  go_wp2_with fail
  refine (l1Copy_own w g ad c xs ha (by omega) h0).mono ?_
  rintro e w1 ⟨v, rfl, hv, o1, n1⟩
  obtain ⟨v', w2, hap, o2, hgr, hv'⟩ := append_zeros_own (P := Tryd.prog) w1 22 3 22 5 i0 .i64 .i64 Tryd.underlying22 Tryd.underlying3 hi hz0 hz1 hz2 w.heap.size v xs.length _ o1 hv 31 (by omega) (by omega) n1.size
  have n2 : Below w.heap.size w w2 := n1.grown hgr (n1.size) (fun i hi => (o1.lt i hi).1)
  have o2' : w2.ownsRow w.heap.size 5 1 v' (xs ++ List.replicate 31 0).length ((xs ++ List.replicate 31 0).map (Value.int .u8)) := by simpa using o2
  obtain ⟨a3, c3, g3, rfl, o3, p3, q3, r3⟩ := Own.of_ownsRow o2'
  have V := hide (bval_zeros xs 31)
  have Z := byt_addz hb 31
  have L : (xs ++ List.replicate 31 (0 : Int)).length ≤ 128 := by simp; omega
  generalize xs ++ List.replicate 31 (0 : Int) = zs at *
  clear o1 o2 o2' hgr hv hv'
  go_wp2_with (at_builtin; refine Lib.wpList_append_run _ rfl _ _ 22 3 rfl _ _ rfl rfl _ _ hap ?_)
  have n3 : Below w2.heap.size w2 (w2.alloc (.cells #[.int .u8 16] 5)) := (Below.refl _ _).alloc (Nat.le_refl _) _
  have B2 : Blk (w2.alloc (.cells #[.int .u8 16] 5)) w2.heap.size .u8 [16] := ⟨5, by rw [heap_alloc_last]; rfl⟩
  generalize w2.alloc (.cells #[.int .u8 16] 5) = w4 at *
  have hb2 : Byt [16] := fun i => by
    match i with
    | 0 => decide
    | i + 1 => simp
  refine (l1Mul_any w4 g3 _ _ _ c3 1 zs [16] (o3.up n3).rd B2.own0.rd Z hb2 (by omega) (by decide)).mono ?_
  rintro e w5 ⟨ys, C, ⟨a5, c5, g5, rfl, o5, p5, q5, r5⟩, n5⟩
  have N5 := nxt (nxt n2 n3) n5
  have z := (nxt n2 n3).size
  have C' : Canon ys (bval xs * 7237005577332262213973186563042994240829374041602535252466099000494570602496) := by
    rw [V.out] at C
    have e1 : bval [16] = 16 := by decide
    have e2 : (256 : Int) ^ 31 * 16 = 7237005577332262213973186563042994240829374041602535252466099000494570602496 := by decide
    rw [e1, Int.mul_assoc, e2] at C
    exact C
  clear hap C
  go_wp2
  go_ret
  exact ⟨ys, C', ⟨a5, c5, g5, rfl, o5, p5, q5, by omega⟩, N5⟩

theorem byt_one {d : Int} (h0 : 0 ≤ d) (h1 : d < 256) : Byt [d] := fun i => by
  match i with
  | 0 => exact ⟨h0, h1⟩
  | i + 1 => simp
theorem one_a (W : World) (d : Int) : Blk (W.alloc (.cells #[.int .u8 d] 5)) W.heap.size .u8 [d] := ⟨5, by rw [heap_alloc_last]; rfl⟩

end Go.Proofs.YthapcapiiknjdaaDoor

/-
  The even root modulo the prime, as the program and as the model seek it: numbers alone.
-/
namespace Go.Proofs.YthapcapiiknjdaaDoor
set_option maxRecDepth 100000

/-- (P + 3) / 8, and the power of 2 whose square is P - 1. -/
def eRt : Nat := 7237005577332262213973186563042994240829374041602535252466099000494570602494
abbrev iM : Int := 19681161376707505956807079304988542015446066515923890162744021073123829784752
theorem iM_sq : iM * iM % PP = PP - 1 := by decide +kernel
theorem turn_sq (r : Int) : (r * iM % PP) * (r * iM % PP) % PP = (0 - r * r) % PP := by
  rw [← Int.mul_emod]
  have e : r * iM * (r * iM) = r * r * (iM * iM) := by grind
  rw [e]
  generalize r * r = s
  have h : iM * iM = PP * (iM * iM / PP) + (PP - 1) := by rw [← iM_sq]; exact (Int.mul_ediv_add_emod _ _).symm
  rw [h]
  generalize iM * iM / PP = q
  have e2 : s * (PP * q + (PP - 1)) = (0 - s) + PP * (s * q + s) := by grind
  rw [e2, Int.add_mul_emod_self_left]
def rtR (A : Int) : Int := A ^ eRt % PP
def r1I (A : Int) : Int := if rtR A * rtR A % PP = (0 - A) % PP then rtR A * iM % PP else rtR A
def r1S (A : Int) : Int := if rtR A * rtR A % PP = A then rtR A else rtR A * iM % PP
theorem rtR_zero : rtR 0 = 0 := by
  unfold rtR
  rw [Int.zero_pow (by decide)]
  rfl
theorem neg_modP (x s : Int) (h : x % PP = s) : (0 - x) % PP = (0 - s) % PP := by
  rw [← h, Int.zero_sub, Int.zero_sub]
  have := Int.mul_ediv_add_emod x PP
  have e : -x = -(x % PP) + PP * (-(x / PP)) := by
    generalize x / PP = q at *
    generalize x % PP = t at *
    subst this
    grind
  rw [e, Int.add_mul_emod_self_left]
theorem not1 {A s : Int} (h0 : 0 ≤ A) (h1 : A < PP) (hA : ¬ A = 0) (c : s = A) : ¬ s = (0 - A) % PP := by
  subst c
  have e : (0 - s) % PP = PP - s := by
    rw [show 0 - s = (PP - s) + PP * (-1) by generalize PP = P; omega, Int.add_mul_emod_self_left]
    exact Int.emod_eq_of_lt (by generalize PP = P at *; omega) (by generalize PP = P at *; omega)
  rw [e]
  intro h
  have h2 : s + s = PP := by generalize PP = P at *; omega
  have h3 : (s + s) % 2 = 0 := by omega
  rw [h2] at h3
  exact absurd h3 (by decide)
theorem not2 {A s : Int} (h1 : A < PP) (s0 : 0 ≤ s) (s1 : s < PP) (c : ¬ s = (0 - A) % PP) : ¬ (0 - s) % PP = A := by
  have h2 : A < 57896044618658097711785492504343953926634992332820282019728792003956564819949 := h1
  have h3 : s < 57896044618658097711785492504343953926634992332820282019728792003956564819949 := s1
  have h4 : ¬ s = (0 - A) % 57896044618658097711785492504343953926634992332820282019728792003956564819949 := c
  show ¬ (0 - s) % 57896044618658097711785492504343953926634992332820282019728792003956564819949 = A
  omega
theorem same_root {A : Int} (h0 : 0 ≤ A) (h1 : A < PP) : (r1I A * r1I A % PP = A ↔ r1S A * r1S A % PP = A) ∧ (r1S A * r1S A % PP = A → r1I A = r1S A) := by
  unfold r1I r1S
  have ht := turn_sq (rtR A)
  have hz : A = 0 → rtR A = 0 := fun h => by rw [h]; exact rtR_zero
  generalize rtR A = r at *
  obtain ⟨s, hs⟩ : ∃ s, r * r % PP = s := ⟨_, rfl⟩
  have hs0 : 0 ≤ s ∧ s < PP := by rw [← hs]; exact ⟨Int.emod_nonneg _ (by decide), Int.emod_lt_of_pos _ (by decide)⟩
  rw [neg_modP _ _ hs] at ht
  rw [hs]
  by_cases hA : A = 0
  · have hr := hz hA
    subst hr
    have e1 : (0 : Int) * iM % PP = 0 := by rw [Int.zero_mul]; rfl
    have e2 : (0 : Int) * 0 % PP = 0 := rfl
    have es : s = 0 := by rw [← hs]; rfl
    have ea : (0 - A) % PP = 0 := by rw [hA]; rfl
    rw [es, ea, hA, if_pos rfl, if_pos rfl, e1]
    exact ⟨Iff.rfl, fun _ => rfl⟩
  · by_cases c1 : s = A
    · rw [if_pos c1, if_neg (not1 h0 h1 hA c1), hs]
      exact ⟨Iff.rfl, fun _ => rfl⟩
    · rw [if_neg c1, ht]
      by_cases c2 : s = (0 - A) % PP
      · rw [if_pos c2, ht]
        exact ⟨Iff.rfl, fun _ => rfl⟩
      · rw [if_neg c2, hs]
        have n2 : ¬ ((0 - s) % PP = A) := not2 h1 hs0.1 hs0.2 c2
        exact ⟨⟨fun h => absurd h c1, fun h => absurd h n2⟩, fun h => absurd h n2⟩
theorem rtR_bd (A : Int) : 0 ≤ rtR A ∧ rtR A < PP := by
  unfold rtR
  generalize A ^ eRt = x
  exact ⟨Int.emod_nonneg _ (by decide), Int.emod_lt_of_pos _ (by decide)⟩
theorem r1S_bd (A : Int) : 0 ≤ r1S A ∧ r1S A < PP := by
  unfold r1S
  split
  · exact rtR_bd A
  · generalize rtR A * iM = x
    exact ⟨Int.emod_nonneg _ (by decide), Int.emod_lt_of_pos _ (by decide)⟩
/-- The even one of a root and its negative. -/
def fin2 (r : Int) : Int := if r % 2 = 0 then r else (0 - r) % PP
end Go.Proofs.YthapcapiiknjdaaDoor
