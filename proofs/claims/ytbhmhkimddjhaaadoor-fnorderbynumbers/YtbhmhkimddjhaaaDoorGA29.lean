import Derived.Test.YtbhmhkimddjhaaaDoorGA28
import Derived.Test.YtbhmhkimddjhaaaDoorGA6
/-
  Limbs less so many times other limbs, in place.
-/
namespace Go.Proofs.YtbhmhkimddjhaaaDoor
set_option maxRecDepth 100000
open Go.RowKit

theorem wraps_u641 (n : Int) (h₀ : 0 ≤ n) (h₁ : n < 2 ^ 64) : IntKind.u64.wrap n = n := by
  simp [IntKind.wrap, IntKind.bits, IntKind.signed]
  omega
theorem mask32 (x : Int) (h0 : 0 ≤ x) (h1 : x < 18446744073709551616) : bits BinOp.and IntKind.u64 x 4294967295 = x % 4294967296 :=
  bits_mask .u64 64 (by decide) wraps_u641 32 (by decide) x h0 h1

set_option maxHeartbeats 2000000 in
theorem takeTimes_any (w : World) (g : Nat) (a : Option Addr) (ca : Nat) (zs : List Int) (g' : Nat) (b : Option Addr) (cb : Nat) (ms : List Int) (T : Int) (ha : Own w g a .u32 zs) (hb : Rd w g' b .u32 ms) (hne : 0 < ms.length → g' ≠ g)
    (hz : Lmb zs) (hm : Lmb ms) (hn : zs.length ≤ 8192) (hk : ms.length ≤ 8192) (T0 : 0 ≤ T) (T1 : T < 4294967296) :
    Calls Tryd.prog 131 #[.slice a zs.length ca, .slice b ms.length cb, .int .u64 T] w fun e w' => ∃ ys bo c, e = .returned (.bool (c + bo != 0)) ∧ TakeTo zs ms ys T zs.length bo c ∧ Own w' g a .u32 ys ∧ Only g w w' := by
  go_enter Tryd.func131, Tryd.ntmps131
  go_wp2
  go_loopw [7, 8, 13] (fun q r i wr => ∃ (k : Nat) (bo c : Int) (ys : List Int), k ≤ zs.length ∧ i = .int .i64 k ∧ q = .int .u64 c ∧ r = .int .u64 bo ∧ (0 ≤ bo ∧ bo ≤ 1) ∧ (0 ≤ c ∧ c < 4294967296) ∧ TakeTo zs ms ys T k bo c ∧ Own wr g a .u32 ys ∧ Only g w wr) (fun _ _ i _ => zs.length - (intOf i).toNat)
  case atStart => exact ⟨0, 0, 0, zs, Nat.zero_le _, rfl, rfl, rfl, ⟨by omega, by omega⟩, ⟨by omega, by omega⟩, TakeTo.zero ms T hz, ha, Only.refl _ _⟩
  case round =>
    obtain ⟨k, bo, c, ys, hk', rfl, rfl, rfl, hbo, hc, hA, hO, hN⟩ := hrel
    by_cases hlt : k < zs.length
    · have R := hA.step hlt
      have hl : ys.length = zs.length := hA.1
      have hyz := hA.2.2.2.2.2 k (Nat.le_refl _)
      obtain ⟨off, rfl, hcc⟩ := hO (by omega)
      obtain ⟨hcy, hfy⟩ := hcc k (by omega)
      rw [hyz] at hcy
      have hS := fun v => hO.store k (by omega) v
      have hSn := fun v => hN.trans (Only.setCell wr g (off + k) (.int .u32 v))
      have zb := hz k
      have mb := hm k
      by_cases hkm : k < ms.length
      · obtain ⟨off', rfl, hcm⟩ := hb (by omega)
        have hcx : wr.cell? ⟨g', off' + k, none⟩ = some (.int .u32 (ms.getD k 0)) := by
          rw [World.cell?_of_block (a := ⟨g', off' + k, none⟩) (hN.block g' (hne (by omega)))]
          exact hcm k hkm
        have tk : decide ((k : Int) < (ms.length : Int)) = true := by simp; omega
        have u0 : 0 ≤ T * ms.getD k 0 := Int.mul_nonneg T0 mb.1
        have u1 : T * ms.getD k 0 ≤ 4294967295 * 4294967295 := Int.le_trans (Int.mul_le_mul_of_nonneg_right (show T ≤ 4294967295 by omega) mb.1) (Int.mul_le_mul_of_nonneg_left (by omega) (by decide))
        have u2 : T * ms.getD k 0 ≤ 18446744065119617025 := u1
        generalize zs.getD k 0 = z at *
        generalize ms.getD k 0 = m at *
        have e1 := mask32 (c + T * m) (by omega) (by omega)
        have F := hide (take_limb z ((c + T * m) % 4294967296) bo zb ⟨by omega, by omega⟩ hbo)
        have R' := hide R
        clear hcc hO hN hA hl hyz hcm ha u1 R
        go_wp2
        go_roundw
        case rel =>
          obtain ⟨f1, f2, f3⟩ := F.out
          exact ⟨k + 1, _, _, _, by omega, by go_num, rfl, rfl, f3, ⟨by omega, by omega⟩, R'.out _ _ _ ((c + T * m) % 4294967296) (by omega) f1 f2.1 f2.2 f3 ⟨by omega, by omega⟩, hS _, hSn _⟩
        case measure => simp [intOf]; omega
      · have hm0 : ms.getD k 0 = 0 := by
          rw [List.getD_eq_getElem?_getD, List.getElem?_eq_none (by omega)]
          rfl
        rw [hm0] at R
        have tk : decide ((k : Int) < (ms.length : Int)) = false := by simp; omega
        generalize zs.getD k 0 = z at *
        have e1 := mask32 c (by omega) (by omega)
        have e2 : c % 4294967296 = c := by omega
        rw [e2] at e1
        have F := hide (take_limb z c bo zb hc hbo)
        have R' := hide R
        clear hcc hO hN hA hl hyz ha R hm0 mb e2
        go_wp2
        go_roundw
        case rel =>
          obtain ⟨f1, f2, f3⟩ := F.out
          exact ⟨k + 1, _, _, _, by omega, by go_num, rfl, rfl, f3, ⟨by omega, by omega⟩, R'.out _ _ _ c (by omega) f1 f2.1 f2.2 f3 ⟨by omega, by omega⟩, hS _, hSn _⟩
        case measure => simp [intOf]; omega
    · obtain rfl : k = zs.length := by omega
      go_wp2
      go_ret
      exact ⟨ys, bo, c, rfl, hA, hO, hN⟩
end Go.Proofs.YtbhmhkimddjhaaaDoor
/-
  Long division: plain arithmetic.
-/
namespace Go.Proofs.YtbhmhkimddjhaaaDoor
set_option maxRecDepth 100000

/-- The quotient's limb as it is guessed: the greatest g below 2^32 with g times the divisor's two highest limbs not above the window's three. -/
def Guess (V W g : Int) : Prop := (0 ≤ g ∧ g ≤ 4294967295) ∧ g * V ≤ W ∧ ∀ q, 0 ≤ q → q ≤ 4294967295 → q * V ≤ W → q ≤ g
/-- A guess is right, or one too great. -/
theorem Guess.near {V W g P vl wl : Int} (h : Guess V W g) (hP : 0 < P) (hV : 4294967296 ≤ V) (v0 : 0 ≤ vl) (v1 : vl < P) (w0 : 0 ≤ wl) (w1 : wl < P) (hW : 0 ≤ W) (hlt : W * P + wl < (V * P + vl) * 4294967296) :
    ∃ q, (0 ≤ q ∧ q ≤ 4294967295) ∧ (q * (V * P + vl) ≤ W * P + wl ∧ W * P + wl < q * (V * P + vl) + (V * P + vl)) ∧ (g = q ∨ g = q + 1) := by
  obtain ⟨⟨g0, g1⟩, h1, h2⟩ := h
  have hVP : 4294967296 * P ≤ V * P := Int.mul_le_mul_of_nonneg_right hV (by omega)
  have hWP : 0 ≤ W * P := Int.mul_nonneg hW (by omega)
  have hv : 0 < V * P + vl := by omega
  refine ⟨(W * P + wl) / (V * P + vl), ⟨Int.ediv_nonneg (by omega) (by omega), ?_⟩, ⟨?_, ?_⟩, ?_⟩
  · have := Int.ediv_lt_of_lt_mul hv (show W * P + wl < 4294967296 * (V * P + vl) by omega)
    omega
  · exact Int.ediv_mul_le _ (by omega)
  · have := Int.lt_ediv_add_one_mul_self (W * P + wl) hv
    rw [Int.add_mul, Int.one_mul] at this
    exact this
  · generalize hq : (W * P + wl) / (V * P + vl) = q
    have q1 : q * (V * P + vl) ≤ W * P + wl := by rw [← hq]; exact Int.ediv_mul_le _ (by omega)
    have q2 : W * P + wl < q * (V * P + vl) + (V * P + vl) := by
      have := Int.lt_ediv_add_one_mul_self (W * P + wl) hv
      rw [Int.add_mul, Int.one_mul, hq] at this
      exact this
    have q0 : 0 ≤ q := by rw [← hq]; exact Int.ediv_nonneg (by omega) (by omega)
    have qB : q ≤ 4294967295 := by
      have := Int.ediv_lt_of_lt_mul hv (show W * P + wl < 4294967296 * (V * P + vl) by omega)
      omega
    have a1 : q ≤ g := by
      refine h2 q q0 qB ?_
      have e1 : q * (V * P + vl) = q * V * P + q * vl := by rw [Int.mul_add, Int.mul_assoc]
      have e2 : 0 ≤ q * vl := Int.mul_nonneg q0 v0
      by_cases c : q * V ≤ W
      · exact c
      · have : (W + 1) * P ≤ q * V * P := Int.mul_le_mul_of_nonneg_right (by omega) (by omega)
        rw [Int.add_mul, Int.one_mul] at this
        omega
    have a2 : (g - 1) * (V * P + vl) < W * P + wl + 1 := by
      have e1 : (g - 1) * (V * P + vl) = g * V * P + g * vl - (V * P + vl) := by rw [Int.sub_mul, Int.one_mul, Int.mul_add, Int.mul_assoc]
      have e2 : g * V * P ≤ W * P := Int.mul_le_mul_of_nonneg_right h1 (by omega)
      have e3 : g * vl ≤ 4294967295 * vl := Int.mul_le_mul_of_nonneg_right g1 v0
      omega
    by_cases c : g ≤ q + 1
    · omega
    · have : (q + 1) * (V * P + vl) ≤ (g - 1) * (V * P + vl) := Int.mul_le_mul_of_nonneg_right (by omega) (by omega)
      rw [Int.add_mul, Int.one_mul] at this
      omega

/-- The guess on its way down: h is guess times first and rest; nothing above the guess will do. -/
def GTo (f s h w2 G R : Int) : Prop := h = G * f + R ∧ 0 ≤ G ∧ 0 ≤ R ∧ ∀ q, 0 ≤ q → q ≤ 4294967295 → q * (f * 4294967296 + s) ≤ h * 4294967296 + w2 → q ≤ G
theorem GTo.val {f s h w2 G R : Int} (h1 : GTo f s h w2 G R) : G * (f * 4294967296 + s) = h * 4294967296 - R * 4294967296 + G * s := by
  rw [h1.1, Int.mul_add, ← Int.mul_assoc]
  omega
theorem GTo.start {f s h w2 : Int} (hf : 1 ≤ f) (h0 : 0 ≤ h) (s0 : 0 ≤ s) (w1 : w2 < 4294967296) : GTo f s h w2 (h / f) (h % f) := by
  refine ⟨by have := Int.mul_ediv_add_emod h f; rw [Int.mul_comm] at this; omega, Int.ediv_nonneg h0 (by omega), Int.emod_nonneg _ (by omega), fun q q0 q1 hq => ?_⟩
  have e : q * (f * 4294967296 + s) = q * f * 4294967296 + q * s := by rw [Int.mul_add, ← Int.mul_assoc]
  have e2 : 0 ≤ q * s := Int.mul_nonneg q0 s0
  exact (Int.le_ediv_iff_mul_le (by omega)).2 (by omega)
theorem GTo.stop {f s h w2 G R : Int} (h1 : GTo f s h w2 G R) (hG : G ≤ 4294967295) (hc : G * s ≤ R * 4294967296 + w2) : Guess (f * 4294967296 + s) (h * 4294967296 + w2) G := by
  refine ⟨⟨h1.2.1, hG⟩, ?_, h1.2.2.2⟩
  rw [h1.val]
  omega
/-- One down. -/
theorem GTo.down {f s h w2 G R : Int} (h1 : GTo f s h w2 G R) (hf : 0 ≤ f) (h0 : 1 ≤ G) (hn : 4294967295 < G ∨ R * 4294967296 + w2 < G * s) : GTo f s h w2 (G - 1) (R + f) := by
  refine ⟨by have := h1.1; rw [Int.sub_mul]; omega, by omega, by have := h1.2.2.1; omega, fun q q0 q1 hq => ?_⟩
  have h2 := h1.2.2.2 q q0 q1 hq
  by_cases e : q = G
  · subst e
    rw [h1.val] at hq
    rcases hn with h | h <;> omega
  · omega
/-- A rest beyond a limb ends it. -/
theorem GTo.far {f s h w2 G R : Int} (h1 : GTo f s h w2 G R) (hG : G ≤ 4294967295) (s1 : s < 4294967296) (s0 : 0 ≤ s) (w0 : 0 ≤ w2) (hR : 4294967295 < R) : Guess (f * 4294967296 + s) (h * 4294967296 + w2) G := by
  refine h1.stop hG ?_
  have : G * s ≤ 4294967295 * 4294967295 := Int.le_trans (Int.mul_le_mul_of_nonneg_right hG s0) (Int.mul_le_mul_of_nonneg_left (by omega) (by decide))
  omega
/-- Above a limb the rest stays small. -/
theorem GTo.near {f s h w2 G R t w1 : Int} (h1 : GTo f s h w2 G R) (hh : h = t * 4294967296 + w1) (hf : 1 ≤ f) (hle : h ≤ f * 4294967296 + s) (s1 : s < 4294967296) (w10 : 0 ≤ w1) (w11 : w1 < 4294967296) (hG : 4294967295 < G) :
    R ≤ w1 ∧ (4294967296 < G → R + f ≤ w1) := by
  have e := h1.1
  have r0 := h1.2.2.1
  have a : 4294967296 * f ≤ G * f := Int.mul_le_mul_of_nonneg_right (by omega) (by omega)
  have ht : t = f := by omega
  refine ⟨by omega, fun h2 => ?_⟩
  have b : 4294967297 * f ≤ G * f := Int.mul_le_mul_of_nonneg_right (by omega) (by omega)
  omega
end Go.Proofs.YtbhmhkimddjhaaaDoor
