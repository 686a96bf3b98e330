import Derived.Test.YtkglcainhkbgbaaGreatDoorSG36
import Derived.Test.YtkglcainhkbgbaaGreatDoorSG37
import Derived.Lib.AppendZeros
import Derived.Laws.Strings
import Derived.Deep.WholeRow
import Derived.Test.YtkglcainhkbgbaaGreatDoorSG35
import Derived.Deep.RegionHeld3
import Derived.Test.YtkglcainhkbgbaaGreatDoorSG1
import Derived.Lib.AppendZerosOnto
import Derived.Test.YtkglcainhkbgbaaGreatDoorSG18
import Derived.Test.YtkglcainhkbgbaaGreatDoorSG19
import Derived.Deep.RegionWith
import Derived.Test.YtkglcainhkbgbaaGreatDoorSG8
import Derived.Test.YtkglcainhkbgbaaGreatDoorSG33
import Derived.Test.YtkglcainhkbgbaaGreatDoorSG28
import Derived.Test.YtkglcainhkbgbaaGreatDoorSG4
import Derived.Test.YtkglcainhkbgbaaGreatDoorSG29
import Derived.Deep.MidRow
import Derived.Test.YtkglcainhkbgbaaGreatDoorSG34
import Derived.Test.YtkglcainhkbgbaaGreatDoorSG22
import Derived.Lib.Mul64
import Derived.Laws.Bits64b
import Derived.Laws.Externs
import Derived.Test.YtkglcainhkbgbaaGreatDoorSG25
namespace Go.Proofs.YtkglcainhkbgbaaGreatDoor
set_option maxRecDepth 100000
open Go.RowKit
theorem copy_min {P : Program} (w : World) (ty rt e : TypeId) (hu : P.underlying ty = some (.slice e)) (hsz : (P.info? e).map (·.size) = some 1) {g : Nat} {k : IntKind} {zs : List Int} (hB : Blk w g k zs)
    (gs : Nat) (sp : Option Addr) (ys : List Int) (hr : Rd w gs sp k ys) (dc sc : Nat) :
    ∃ w2, (Builtin.copy_ #[ty, ty] rt #[.slice (some ⟨g, 0, none⟩) zs.length dc, .slice sp ys.length sc]).run P w = .ok (goInt (ys.take zs.length).length) w2 ∧ Blk w2 g k (ys.take zs.length ++ zs.drop (ys.take zs.length).length) ∧ Only g w w2 := by
  by_cases h0 : 0 < ys.length
  · obtain ⟨off, rfl, hc⟩ := hr h0
    obtain ⟨t, hB⟩ := hB
    have hrun := run_copy_row (P := P) w ty ty rt e g 0 zs.length dc ⟨gs, off, none⟩ ys.length sc _ t ((ys.take zs.length).map (Value.int k)) hu hsz hB (by simp [Nat.min_comm])
      (fun j v hj => by
        have hjl : j < (ys.take zs.length).length := by
          have := (List.getElem?_eq_some_iff.1 hj).1
          simpa using this
        have hj1 : j < ys.length := by simp at hjl; omega
        have hj2 : j < zs.length := by simp at hjl; omega
        rw [add_mid, hc j hj1]
        simpa [hj1, hj2, List.getElem?_take] using hj) (by simp; omega) (oneCells _ _)
    rw [List.length_map] at hrun
    refine ⟨_, hrun, ⟨t, ?_⟩, ⟨rfl, rfl, rfl, by simp, fun i hi => setRow_other w g i _ hi⟩⟩
    rw [setRow_heap w g _ _ t _ hB]
    simp
  · obtain rfl : ys = [] := List.eq_nil_of_length_eq_zero (by omega)
    exact ⟨w, by simpa using run_copy_none (P := P) w ty ty rt e _ _ _ _ _ _ hu hsz (by simp), by simpa using hB, Only.refl _ _⟩
def to32 (xs : List Int) : List Int := xs.take 32 ++ (List.replicate 32 0).drop (xs.take 32).length
theorem to32_len (xs : List Int) : (to32 xs).length = 32 := by
  unfold to32
  rw [List.length_append, List.length_drop, List.length_replicate, List.length_take]
  omega
theorem to32_byt {xs : List Int} (h : Byt xs) : Byt (to32 xs) := by
  intro i
  unfold to32
  by_cases hi : i < (xs.take 32).length
  · have h1 := h i
    have h2 : i < 32 := by simp at hi; omega
    have e : (xs.take 32 ++ (List.replicate 32 (0 : Int)).drop (xs.take 32).length).getD i 0 = xs.getD i 0 := by
      rw [List.getD_eq_getElem?_getD, List.getElem?_append, if_pos hi, List.getElem?_take, if_pos h2, List.getD_eq_getElem?_getD]
    rw [e]; exact h1
  · rw [List.getD_eq_getElem?_getD, List.getElem?_append, if_neg hi, List.getElem?_drop, List.getElem?_replicate]
    split <;> simp
set_option maxHeartbeats 1000000 in
theorem lw32_any (w : World) (g : Nat) (a : Option Addr) (c : Nat) (xs : List Int) (ha : Rd w g a .u8 xs) :
    Calls Tryz.prog 5 #[.slice a xs.length c] w fun e w' => e = .returned (.slice (some ⟨w.heap.size, 0, none⟩) 32 32) ∧ Blk w' w.heap.size .u8 (to32 xs) ∧ Below w.heap.size w w' := by
  obtain ⟨i0, hi, hz0, hz1, hz2⟩ := info_parts Tryz.info5
  have hsz : (Tryz.prog.info? 5).map (·.size) = some 1 := by rw [hi]; simp [hz1]
  go_enter Tryz.func5, Tryz.ntmps5
  go_wp2_with (at_make; refine wpList_make_full _ rfl _ _ 22 rfl w.heap.size 5 i0 (.int .u8 0) 1 Tryz.underlying22 hi hz0 hz1 .i64 .i64 _ _ 32 rfl rfl rfl rfl (by rw [hz2]; omega) (by unfold maxLen; omega) (Nat.le_refl _) ?_; intro w1 hown hgrow)
  have hB := Blk.of_made hown
  have hN : Below w.heap.size w w1 := (Below.refl _ _).grown hgrow (Nat.le_refl _) (by simp)
  obtain ⟨w2, hrun, hB2, hO⟩ := copy_min (P := Tryz.prog) w1 22 3 5 Tryz.underlying22 hsz hB g a xs (ha.up hN) 32 c
  rw [List.length_replicate] at hrun
  have hN2 := hN.trans (hO.below (Nat.le_refl _))
  rw [hrun]
  clear hown hgrow hB hN hO hrun
  go_wp2
  go_ret
  exact ⟨rfl, hB2, hN2⟩
end Go.Proofs.YtkglcainhkbgbaaGreatDoor
namespace Go.Proofs.YtkglcainhkbgbaaGreatDoor
set_option maxRecDepth 100000
open Go.RowKit
end Go.Proofs.YtkglcainhkbgbaaGreatDoor
namespace Go.Proofs.YtkglcainhkbgbaaGreatDoor
set_option maxRecDepth 100000
open Go.RowKit
end Go.Proofs.YtkglcainhkbgbaaGreatDoor
namespace Go.Proofs.YtkglcainhkbgbaaGreatDoor
set_option maxRecDepth 100000
open Go.RowKit
end Go.Proofs.YtkglcainhkbgbaaGreatDoor
namespace Go.Proofs.YtkglcainhkbgbaaGreatDoor
set_option maxRecDepth 100000
abbrev QQ : Int := 7237005577332262213973186563042994240857116359379907606001950938285454250989
def W8 (D : Nat → Int) : Prop := ∀ j, j < 8 → 0 ≤ D j ∧ D j < 18446744073709551616
def dval (D : Nat → Int) : Int := wval D + (D 4 + D 5 * 18446744073709551616 + D 6 * 340282366920938463463374607431768211456 + D 7 * 6277101735386680763835789423207666416102355444464034512896) * 115792089237316195423570985008687907853269984665640564039457584007913129639936
def ac (n : Int) (s d : Nat → Int) : Nat → Int
  | 0 => 0
  | k + 1 => (ac n s d k + n * s k + d k) / 18446744073709551616
def at8 (p : Nat) (n : Int) (s D : Nat → Int) (k j : Nat) : Int :=
  if p ≤ j ∧ j < p + k then (ac n s (fun i => D (p + i)) (j - p) + n * s (j - p) + D j) % 18446744073709551616 else D j
def adT (p : Nat) (n : Int) (s D : Nat → Int) (j : Nat) : Int :=
  if j = p + 4 then D j + ac n s (fun i => D (p + i)) 4 else at8 p n s D 4 j
theorem mul_word {n x : Int} (hn : 0 ≤ n ∧ n < 18446744073709551616) (hx : 0 ≤ x ∧ x < 18446744073709551616) : 0 ≤ n * x ∧ n * x ≤ 340282366920938463426481119284349108225 := by
  refine ⟨Int.mul_nonneg hn.1 hx.1, ?_⟩
  have h1 : n * x ≤ 18446744073709551615 * x := Int.mul_le_mul_of_nonneg_right (by omega) hx.1
  omega
theorem ac_bd {n : Int} {s d : Nat → Int} (hn : 0 ≤ n ∧ n < 18446744073709551616) (hs : W4 s) : ∀ k, k ≤ 4 → (∀ j, j < k → 0 ≤ d j ∧ d j < 18446744073709551616) → 0 ≤ ac n s d k ∧ ac n s d k < 18446744073709551616
  | 0, _, _ => by simp [ac]
  | k + 1, hk, hd => by
    have ih := ac_bd hn hs k (by omega) (fun j hj => hd j (by omega))
    have h1 := hd k (by omega)
    have h2 := mul_word hn (hs k (by omega))
    rw [ac]
    generalize n * s k = m at *
    omega
theorem ac_sum (n : Int) (s d : Nat → Int) :
    (ac n s d 0 + n * s 0 + d 0) % 18446744073709551616 + (ac n s d 1 + n * s 1 + d 1) % 18446744073709551616 * 18446744073709551616 + (ac n s d 2 + n * s 2 + d 2) % 18446744073709551616 * 340282366920938463463374607431768211456 + (ac n s d 3 + n * s 3 + d 3) % 18446744073709551616 * 6277101735386680763835789423207666416102355444464034512896 + ac n s d 4 * 115792089237316195423570985008687907853269984665640564039457584007913129639936 = wval d + n * wval s := by
  have e : n * wval s = n * s 0 + n * s 1 * 18446744073709551616 + n * s 2 * 340282366920938463463374607431768211456 + n * s 3 * 6277101735386680763835789423207666416102355444464034512896 := by
    unfold wval
    simp only [Int.mul_add, Int.mul_assoc]
  rw [e]
  have h1 : ac n s d 1 = (ac n s d 0 + n * s 0 + d 0) / 18446744073709551616 := rfl
  have h2 : ac n s d 2 = (ac n s d 1 + n * s 1 + d 1) / 18446744073709551616 := rfl
  have h3 : ac n s d 3 = (ac n s d 2 + n * s 2 + d 2) / 18446744073709551616 := rfl
  have h4 : ac n s d 4 = (ac n s d 3 + n * s 3 + d 3) / 18446744073709551616 := rfl
  have h0 : ac n s d 0 = 0 := rfl
  unfold wval
  generalize ac n s d 0 = c0 at *
  generalize ac n s d 1 = c1 at *
  generalize ac n s d 2 = c2 at *
  generalize ac n s d 3 = c3 at *
  generalize ac n s d 4 = c4 at *
  generalize n * s 0 = m0 at *
  generalize n * s 1 = m1 at *
  generalize n * s 2 = m2 at *
  generalize n * s 3 = m3 at *
  omega
theorem adT_ok {p : Nat} {n : Int} {s D : Nat → Int} (hp : p ≤ 3) (hn : 0 ≤ n ∧ n < 18446744073709551616) (hs : W4 s) (hD : W8 D) (ho : D (p + 4) + ac n s (fun i => D (p + i)) 4 < 18446744073709551616) :
    W8 (adT p n s D) ∧ dval (adT p n s D) = dval D + n * wval s * 18446744073709551616 ^ p := by
  have hb := ac_bd (d := fun i => D (p + i)) hn hs 4 (by omega) (fun j hj => hD (p + j) (by omega))
  have hS := ac_sum n s (fun i => D (p + i))
  refine ⟨fun j hj => ?_, ?_⟩
  · unfold adT at8
    have := hD j hj
    split
    · subst_vars; omega
    · split
      · omega
      · exact this
  · simp only [wval, Nat.add_zero] at hS
    have e : n * wval s = n * (s 0 + s 1 * 18446744073709551616 + s 2 * 340282366920938463463374607431768211456 + s 3 * 6277101735386680763835789423207666416102355444464034512896) := rfl
    rw [← e] at hS
    generalize n * wval s = M at *
    obtain rfl | rfl | rfl | rfl : p = 0 ∨ p = 1 ∨ p = 2 ∨ p = 3 := by omega
    all_goals
      simp [dval, wval, adT, at8] at hS ⊢
      omega
def lo4 (n : Int) (t : Nat → Int) : Nat → Int
  | 0 => 0
  | k + 1 => (lo4 n t k + n * t k) / 18446744073709551616
def lb4 (n : Int) (s t : Nat → Int) : Nat → Int
  | 0 => 0
  | k + 1 => if s k - (lo4 n t k + n * t k) % 18446744073709551616 - lb4 n s t k < 0 then 1 else 0
def ls4 (n : Int) (s t : Nat → Int) (k : Nat) : Int := (s k - (lo4 n t k + n * t k) % 18446744073709551616 - lb4 n s t k) % 18446744073709551616
def qc4 (u q : Nat → Int) (b : Int) : Nat → Int
  | 0 => 0
  | k + 1 => (u k + q k * b + qc4 u q b k) / 18446744073709551616
def qs4 (u q : Nat → Int) (b : Int) (k : Nat) : Int := (u k + q k * b + qc4 u q b k) % 18446744073709551616
theorem lo4_bd {n : Int} {t : Nat → Int} (hn : 0 ≤ n ∧ n < 18446744073709551616) (ht : W4 t) : ∀ k, k ≤ 4 → 0 ≤ lo4 n t k ∧ lo4 n t k < 18446744073709551616
  | 0, _ => by simp [lo4]
  | k + 1, hk => by
    have ih := lo4_bd hn ht k (by omega)
    have h2 := mul_word hn (ht k (by omega))
    rw [lo4]
    generalize n * t k = m at *
    omega
theorem lb4_bd (n : Int) (s t : Nat → Int) : ∀ k, lb4 n s t k = 0 ∨ lb4 n s t k = 1
  | 0 => by simp [lb4]
  | k + 1 => by rw [lb4]; split <;> simp
theorem ls4_W4 (n : Int) (s t : Nat → Int) : W4 (ls4 n s t) := fun k _ => by unfold ls4; omega
theorem qs4_W4 (u q : Nat → Int) (b : Int) : W4 (qs4 u q b) := fun k _ => by unfold qs4; omega
theorem qc4_bd {u q : Nat → Int} {b : Int} (hu : W4 u) (hq : W4 q) (hb : b = 0 ∨ b = 1) : ∀ k, k ≤ 4 → qc4 u q b k = 0 ∨ qc4 u q b k = 1
  | 0, _ => by simp [qc4]
  | k + 1, hk => by
    have ih := qc4_bd hu hq hb k (by omega)
    have h1 := hu k (by omega)
    have h2 := hq k (by omega)
    rw [qc4]
    rcases hb with rfl | rfl
    all_goals omega
theorem ls4_sum {n : Int} {s t : Nat → Int} (hs : W4 s) : wval (ls4 n s t) = wval s - n * wval t + (lb4 n s t 4 + lo4 n t 4) * 115792089237316195423570985008687907853269984665640564039457584007913129639936 := by
  have e : n * wval t = n * t 0 + n * t 1 * 18446744073709551616 + n * t 2 * 340282366920938463463374607431768211456 + n * t 3 * 6277101735386680763835789423207666416102355444464034512896 := by
    unfold wval
    simp only [Int.mul_add, Int.mul_assoc]
  rw [e]
  have h0 : lo4 n t 0 = 0 := rfl
  have h1 : lo4 n t 1 = (lo4 n t 0 + n * t 0) / 18446744073709551616 := rfl
  have h2 : lo4 n t 2 = (lo4 n t 1 + n * t 1) / 18446744073709551616 := rfl
  have h3 : lo4 n t 3 = (lo4 n t 2 + n * t 2) / 18446744073709551616 := rfl
  have h4 : lo4 n t 4 = (lo4 n t 3 + n * t 3) / 18446744073709551616 := rfl
  have b0 : lb4 n s t 0 = 0 := rfl
  have b1 : lb4 n s t 1 = if s 0 - (lo4 n t 0 + n * t 0) % 18446744073709551616 - lb4 n s t 0 < 0 then 1 else 0 := rfl
  have b2 : lb4 n s t 2 = if s 1 - (lo4 n t 1 + n * t 1) % 18446744073709551616 - lb4 n s t 1 < 0 then 1 else 0 := rfl
  have b3 : lb4 n s t 3 = if s 2 - (lo4 n t 2 + n * t 2) % 18446744073709551616 - lb4 n s t 2 < 0 then 1 else 0 := rfl
  have b4 : lb4 n s t 4 = if s 3 - (lo4 n t 3 + n * t 3) % 18446744073709551616 - lb4 n s t 3 < 0 then 1 else 0 := rfl
  have s0 := hs 0 (by omega); have s1 := hs 1 (by omega); have s2 := hs 2 (by omega); have s3 := hs 3 (by omega)
  have k1 := lb4_bd n s t 1; have k2 := lb4_bd n s t 2; have k3 := lb4_bd n s t 3
  unfold wval ls4
  generalize lo4 n t 0 = c0 at *
  generalize lo4 n t 1 = c1 at *
  generalize lo4 n t 2 = c2 at *
  generalize lo4 n t 3 = c3 at *
  generalize lo4 n t 4 = c4 at *
  generalize lb4 n s t 0 = d0 at *
  generalize lb4 n s t 1 = d1 at *
  generalize lb4 n s t 2 = d2 at *
  generalize lb4 n s t 3 = d3 at *
  generalize lb4 n s t 4 = d4 at *
  generalize n * t 0 = m0 at *
  generalize n * t 1 = m1 at *
  generalize n * t 2 = m2 at *
  generalize n * t 3 = m3 at *
  have one : ∀ (x y b b' : Int), 0 ≤ x ∧ x < 18446744073709551616 → (b = 0 ∨ b = 1) → b' = (if x - y % 18446744073709551616 - b < 0 then 1 else 0) → (x - y % 18446744073709551616 - b) % 18446744073709551616 = x - y % 18446744073709551616 - b + b' * 18446744073709551616 := by
    intro x y b b' hx hb hb'
    split at hb' <;> omega
  rw [one _ _ _ _ s0 (by omega) b1, one _ _ _ _ s1 k1 b2, one _ _ _ _ s2 k2 b3, one _ _ _ _ s3 k3 b4]
  clear b1 b2 b3 b4 one
  omega
theorem qs4_sum {u q : Nat → Int} {b : Int} : wval (qs4 u q b) + qc4 u q b 4 * 115792089237316195423570985008687907853269984665640564039457584007913129639936 = wval u + wval q * b := by
  have e : wval q * b = q 0 * b + q 1 * b * 18446744073709551616 + q 2 * b * 340282366920938463463374607431768211456 + q 3 * b * 6277101735386680763835789423207666416102355444464034512896 := by
    unfold wval
    grind
  rw [e]
  have h0 : qc4 u q b 0 = 0 := rfl
  have h1 : qc4 u q b 1 = (u 0 + q 0 * b + qc4 u q b 0) / 18446744073709551616 := rfl
  have h2 : qc4 u q b 2 = (u 1 + q 1 * b + qc4 u q b 1) / 18446744073709551616 := rfl
  have h3 : qc4 u q b 3 = (u 2 + q 2 * b + qc4 u q b 2) / 18446744073709551616 := rfl
  have h4 : qc4 u q b 4 = (u 3 + q 3 * b + qc4 u q b 3) / 18446744073709551616 := rfl
  unfold wval qs4
  generalize qc4 u q b 0 = c0 at *
  generalize qc4 u q b 1 = c1 at *
  generalize qc4 u q b 2 = c2 at *
  generalize qc4 u q b 3 = c3 at *
  generalize qc4 u q b 4 = c4 at *
  generalize q 0 * b = m0 at *
  generalize q 1 * b = m1 at *
  generalize q 2 * b = m2 at *
  generalize q 3 * b = m3 at *
  omega
theorem lo4_all {n : Int} {t : Nat → Int} : lo4 n t 4 = n * wval t / 115792089237316195423570985008687907853269984665640564039457584007913129639936 := by
  have e : n * wval t = n * t 0 + n * t 1 * 18446744073709551616 + n * t 2 * 340282366920938463463374607431768211456 + n * t 3 * 6277101735386680763835789423207666416102355444464034512896 := by
    unfold wval
    simp only [Int.mul_add, Int.mul_assoc]
  rw [e]
  have h0 : lo4 n t 0 = 0 := rfl
  have h1 : lo4 n t 1 = (lo4 n t 0 + n * t 0) / 18446744073709551616 := rfl
  have h2 : lo4 n t 2 = (lo4 n t 1 + n * t 1) / 18446744073709551616 := rfl
  have h3 : lo4 n t 3 = (lo4 n t 2 + n * t 2) / 18446744073709551616 := rfl
  have h4 : lo4 n t 4 = (lo4 n t 3 + n * t 3) / 18446744073709551616 := rfl
  generalize lo4 n t 0 = c0 at *
  generalize lo4 n t 1 = c1 at *
  generalize lo4 n t 2 = c2 at *
  generalize lo4 n t 3 = c3 at *
  generalize lo4 n t 4 = c4 at *
  generalize n * t 0 = m0 at *
  generalize n * t 1 = m1 at *
  generalize n * t 2 = m2 at *
  generalize n * t 3 = m3 at *
  omega
theorem W4.bd {u : Nat → Int} (h : W4 u) : 0 ≤ wval u ∧ wval u < 115792089237316195423570985008687907853269984665640564039457584007913129639936 := by
  have h0 := h 0 (by omega); have h1 := h 1 (by omega); have h2 := h 2 (by omega); have h3 := h 3 (by omega)
  unfold wval
  omega
def qw : Nat → Int
  | 0 => 6346243789798364141
  | 1 => 1503914060200516822
  | 2 => 0
  | 3 => 1152921504606846976
  | _ => 0
theorem qw_val : wval qw = QQ := by decide
theorem qw_W4 : W4 qw := by unfold W4; decide
def lsT (n : Int) (s t : Nat → Int) : Nat → Int := qs4 (ls4 n s t) qw (lb4 n s t 4)
theorem lsT_ok {n : Int} {s t : Nat → Int} (hn : 0 ≤ n ∧ n < 18446744073709551616) (hs : W4 s) (ht : W4 t) (h1 : n * wval t < 115792089237316195423570985008687907853269984665640564039457584007913129639936) (h2 : n * wval t ≤ wval s + QQ) :
    W4 (lsT n s t) ∧ wval (lsT n s t) = if wval s < n * wval t then wval s - n * wval t + QQ else wval s - n * wval t := by
  refine ⟨qs4_W4 _ _ _, ?_⟩
  have e1 := ls4_sum (n := n) (t := t) hs
  have e2 := qs4_sum (u := ls4 n s t) (q := qw) (b := lb4 n s t 4)
  have b1 := (ls4_W4 n s t).bd
  have b2 := (qs4_W4 (ls4 n s t) qw (lb4 n s t 4)).bd
  have b3 := hs.bd
  have k := lb4_bd n s t 4
  have c := qc4_bd (b := lb4 n s t 4) (ls4_W4 n s t) qw_W4 k 4 (by omega)
  have l := lo4_all (n := n) (t := t)
  have m : 0 ≤ n * wval t := Int.mul_nonneg hn.1 ht.bd.1
  rw [qw_val] at e2
  unfold lsT
  generalize wval (qs4 (ls4 n s t) qw (lb4 n s t 4)) = r at *
  generalize qc4 (ls4 n s t) qw (lb4 n s t 4) 4 = cc at *
  generalize wval (ls4 n s t) = v at *
  generalize n * wval t = M at *
  generalize wval s = x at *
  generalize lb4 n s t 4 = b at *
  generalize lo4 n t 4 = o at *
  have e3 : o = 0 := by omega
  subst e3
  simp only [QQ] at *
  split
  all_goals
    rcases k with rfl | rfl <;> rcases c with rfl | rfl <;> omega
def rdS (s : Nat → Int) : Nat → Int := lsT (s 3 / 1152921504606846976) s qw
theorem rdS_ok {s : Nat → Int} (hs : W4 s) : W4 (rdS s) ∧ wval (rdS s) = wval s % QQ := by
  have b := hs.bd
  have h0 := hs 0 (by omega); have h1 := hs 1 (by omega); have h2 := hs 2 (by omega); have h3 := hs 3 (by omega)
  have e : s 3 / 1152921504606846976 = wval s / 7237005577332262213973186563042994240857116359379907606001950938285454250989 ∨ s 3 / 1152921504606846976 = wval s / 7237005577332262213973186563042994240857116359379907606001950938285454250989 + 1 := by
    unfold wval; omega
  have e2 : 0 ≤ s 3 / 1152921504606846976 ∧ s 3 / 1152921504606846976 ≤ 15 := by omega
  obtain ⟨h, h'⟩ := lsT_ok (n := s 3 / 1152921504606846976) (s := s) (t := qw) (by omega) hs qw_W4 (by rw [qw_val]; simp only [QQ]; omega) (by rw [qw_val]; simp only [QQ]; omega)
  refine ⟨h, ?_⟩
  show wval (lsT _ _ _) = _
  rw [h', qw_val]
  generalize s 3 / 1152921504606846976 = n at *
  generalize wval s = x at *
  clear h h' hs
  simp only [QQ]
  split <;> omega
def q16 : Nat → Int
  | 0 => 9306180268226068176
  | 1 => 5615880889498717541
  | 2 => 1
  | _ => 0
theorem q16_val : wval q16 = 16 * QQ - 115792089237316195423570985008687907853269984665640564039457584007913129639936 := by decide
theorem q16_W4 : W4 q16 := by unfold W4; decide
def fw : Nat → Nat → Int
  | 0, 0 => 0xd6ec31748d98951d
  | 0, 1 => 0xc6ef5bf4737dcf70
  | 0, 2 => 0xfffffffffffffffe
  | 0, 3 => 0x0fffffffffffffff
  | 1, 0 => 0x5812631a5cf5d3ed
  | 1, 1 => 0x93b8c838d39a5e06
  | 1, 2 => 0xb2106215d086329a
  | 1, 3 => 0x0ffffffffffffffe
  | 2, 0 => 0x39822129a02a6271
  | 2, 1 => 0xb64a7f435e4fdd95
  | 2, 2 => 0x7ed9ce5a30a2c131
  | 2, 3 => 0x02106215d086329a
  | 3, 0 => 0x79daf520a00acb65
  | 3, 1 => 0xe24babbe38d1d7a9
  | 3, 2 => 0xb399411b7c309a3d
  | 3, 3 => 0x0ed9ce5a30a2c131
  | _, _ => 0
theorem fw_W4 (i : Nat) (hi : i < 4) : W4 (fw i) := by
  obtain rfl | rfl | rfl | rfl : i = 0 ∨ i = 1 ∨ i = 2 ∨ i = 3 := by omega
  all_goals unfold W4; decide
def fd (D : Nat → Int) : Nat → Nat → Int
  | 0, j => if j < 4 then D j else 0
  | i + 1, j => adT 0 (D (4 + i)) (fw i) (fd D i) j
theorem fd_step {D : Nat → Int} (hD : W8 D) (i : Nat) (hi : i < 4) (h : W8 (fd D i) ∧ fd D i 5 = 0 ∧ fd D i 6 = 0 ∧ fd D i 7 = 0) (hv : dval (fd D i) + D (4 + i) * wval (fw i) < 2135987035920910082395021706169552114602704522356652769947041607822219725780640550022962086936576) :
    fd D i 4 + ac (D (4 + i)) (fw i) (fun j => fd D i (0 + j)) 4 < 18446744073709551616 ∧ W8 (fd D (i + 1)) ∧ fd D (i + 1) 5 = 0 ∧ fd D (i + 1) 6 = 0 ∧ fd D (i + 1) 7 = 0 ∧ dval (fd D (i + 1)) = dval (fd D i) + D (4 + i) * wval (fw i) := by
  obtain ⟨h1, h5, h6, h7⟩ := h
  have hn := hD (4 + i) (by omega)
  have hS := ac_sum (D (4 + i)) (fw i) (fun j => fd D i (0 + j))
  have ho : fd D i (0 + 4) + ac (D (4 + i)) (fw i) (fun j => fd D i (0 + j)) 4 < 18446744073709551616 := by
    have e : wval (fun j => fd D i (0 + j)) = wval (fd D i) := by unfold wval; simp
    rw [e] at hS
    unfold dval at hv
    rw [h5, h6, h7] at hv
    simp only [Nat.zero_add] at hS hv ⊢
    generalize D (4 + i) * wval (fw i) = M at *
    generalize wval (fd D i) = v at *
    omega
  obtain ⟨a, b⟩ := adT_ok (p := 0) (by omega) hn (fw_W4 i hi) h1 ho
  rw [Int.pow_zero, Int.mul_one] at b
  refine ⟨by simpa using ho, a, ?_, ?_, ?_, b⟩
  · show adT 0 _ _ _ 5 = 0
    simp [adT, at8, h5]
  · show adT 0 _ _ _ 6 = 0
    simp [adT, at8, h6]
  · show adT 0 _ _ _ 7 = 0
    simp [adT, at8, h7]
theorem fd_zero {D : Nat → Int} (hD : W8 D) : W8 (fd D 0) ∧ fd D 0 5 = 0 ∧ fd D 0 6 = 0 ∧ fd D 0 7 = 0 ∧ dval (fd D 0) = wval D := by
  refine ⟨fun j hj => ?_, rfl, rfl, rfl, ?_⟩
  · rw [fd]
    split
    · exact hD j hj
    · omega
  · simp [dval, wval, fd]
theorem fd_all {D : Nat → Int} (hD : W8 D) : (∀ i, i < 4 → fd D i 4 + ac (D (4 + i)) (fw i) (fun j => fd D i (0 + j)) 4 < 18446744073709551616) ∧ (∀ i, i ≤ 4 → W8 (fd D i)) ∧ fd D 4 5 = 0 ∧ fd D 4 6 = 0 ∧ fd D 4 7 = 0 ∧
    dval (fd D 4) = wval D + D 4 * wval (fw 0) + D 5 * wval (fw 1) + D 6 * wval (fw 2) + D 7 * wval (fw 3) := by
  obtain ⟨a1, a2, a3, a4, a5⟩ := fd_zero hD
  have d4 := hD (4 + 0) (by omega); have d5 := hD (4 + 1) (by omega); have d6 := hD (4 + 2) (by omega); have d7 := hD (4 + 3) (by omega)
  have v0 : wval (fw 0) = 7237005577332262213973186563042994240413239274941949949428319933631315875101 := by decide
  have v1 : wval (fw 1) = 7237005577332262205785099586231624600664197829225752203328093420762508415981 := by decide
  have v2 : wval (fw 2) = 933572209464014797850993495837617212577308338482798680094955262100143497841 := by decide
  have v3 : wval (fw 3) = 6717209884487221122130433782546922659424526032998609012467404696761183947621 := by decide
  have b := W4.bd (u := D) (fun j hj => hD j (by omega))
  obtain ⟨o1, b1, b2, b3, b4, b5⟩ := fd_step hD 0 (by omega) ⟨a1, a2, a3, a4⟩ (by rw [a5, v0]; omega)
  obtain ⟨o2, c1, c2, c3, c4, c5⟩ := fd_step hD 1 (by omega) ⟨b1, b2, b3, b4⟩ (by rw [b5, a5, v1, v0]; omega)
  obtain ⟨o3, e1, e2, e3, e4, e5⟩ := fd_step hD 2 (by omega) ⟨c1, c2, c3, c4⟩ (by rw [c5, b5, a5, v2, v1, v0]; omega)
  obtain ⟨o4, f1, f2, f3, f4, f5⟩ := fd_step hD 3 (by omega) ⟨e1, e2, e3, e4⟩ (by rw [e5, c5, b5, a5, v3, v2, v1, v0]; omega)
  refine ⟨fun i hi => ?_, fun i hi => ?_, f2, f3, f4, by rw [f5, e5, c5, b5, a5]⟩
  · obtain rfl | rfl | rfl | rfl : i = 0 ∨ i = 1 ∨ i = 2 ∨ i = 3 := by omega
    all_goals assumption
  · obtain rfl | rfl | rfl | rfl | rfl : i = 0 ∨ i = 1 ∨ i = 2 ∨ i = 3 ∨ i = 4 := by omega
    all_goals assumption
def rdD (D : Nat → Int) : Nat → Int := rdS (lsT (fd D 4 4) (fd D 4) q16)
theorem lsT_fd {D : Nat → Int} (hD : W8 D) : W4 (lsT (fd D 4 4) (fd D 4) q16) ∧ wval (lsT (fd D 4 4) (fd D 4) q16) % QQ = dval D % QQ := by
  obtain ⟨_, h1, h5, h6, h7, h⟩ := fd_all hD
  have d4 := hD 4 (by omega); have d5 := hD 5 (by omega); have d6 := hD 6 (by omega); have d7 := hD 7 (by omega)
  have v0 : wval (fw 0) = 7237005577332262213973186563042994240413239274941949949428319933631315875101 := by decide
  have v1 : wval (fw 1) = 7237005577332262205785099586231624600664197829225752203328093420762508415981 := by decide
  have v2 : wval (fw 2) = 933572209464014797850993495837617212577308338482798680094955262100143497841 := by decide
  have v3 : wval (fw 3) = 6717209884487221122130433782546922659424526032998609012467404696761183947621 := by decide
  have b := W4.bd (u := D) (fun j hj => hD j (by omega))
  have w8 := h1 4 (by omega)
  have w4 : W4 (fd D 4) := fun j hj => w8 j (by omega)
  have bb := w4.bd
  have n4 := w8 4 (by omega)
  rw [v0, v1, v2, v3] at h
  have e : dval (fd D 4) = wval (fd D 4) + fd D 4 4 * 115792089237316195423570985008687907853269984665640564039457584007913129639936 := by
    unfold dval
    rw [h5, h6, h7]
    omega
  rw [e] at h
  obtain ⟨r1, r2⟩ := lsT_ok (n := fd D 4 4) (s := fd D 4) (t := q16) n4 w4 q16_W4 (by rw [q16_val]; simp only [QQ]; omega) (by rw [q16_val]; simp only [QQ]; omega)
  refine ⟨r1, ?_⟩
  rw [r2, q16_val]
  have ed : dval D = wval D + (D 4 + D 5 * 18446744073709551616 + D 6 * 340282366920938463463374607431768211456 + D 7 * 6277101735386680763835789423207666416102355444464034512896) * 115792089237316195423570985008687907853269984665640564039457584007913129639936 := rfl
  rw [ed]
  generalize wval (fd D 4) = x at *
  generalize fd D 4 4 = n at *
  generalize wval D = y at *
  simp only [QQ]
  clear r1 r2 ed e w4 w8 h1 hD
  split <;> omega
theorem rdD_ok {D : Nat → Int} (hD : W8 D) : W4 (rdD D) ∧ wval (rdD D) = dval D % QQ := by
  obtain ⟨h1, h2⟩ := lsT_fd hD
  obtain ⟨h3, h4⟩ := rdS_ok h1
  exact ⟨h3, by rw [← h2]; exact h4⟩
def ma (s t u : Nat → Int) : Nat → Nat → Int
  | 0, j => if j < 4 then u j else 0
  | i + 1, j => adT i (s i) t (ma s t u i) j
theorem ma_all {s t u : Nat → Int} (hs : W4 s) (ht : W4 t) (hu : W4 u) : (∀ i, i < 4 → ma s t u i (i + 4) + ac (s i) t (fun j => ma s t u i (i + j)) 4 < 18446744073709551616) ∧ (∀ i, i ≤ 4 → W8 (ma s t u i)) ∧ dval (ma s t u 4) = wval s * wval t + wval u := by
  have key : ∀ i, i ≤ 4 → W8 (ma s t u i) ∧ (∀ j, i + 4 ≤ j → ma s t u i j = 0) := by
    intro i
    induction i with
    | zero =>
      intro _
      refine ⟨fun j hj => ?_, fun j hj => ?_⟩
      · rw [ma]
        split
        · exact hu j (by omega)
        · omega
      · rw [ma, if_neg (by omega)]
    | succ i ih =>
      intro hi
      obtain ⟨k1, k2⟩ := ih (by omega)
      have hb := ac_bd (d := fun j => ma s t u i (i + j)) (hs i (by omega)) ht 4 (by omega) (fun j hj => k1 (i + j) (by omega))
      refine ⟨(adT_ok (by omega) (hs i (by omega)) ht k1 (by rw [k2 (i + 4) (by omega)]; omega)).1, fun j hj => ?_⟩
      show adT i _ _ _ j = 0
      unfold adT at8
      rw [if_neg (by omega), if_neg (by omega), k2 j (by omega)]
  have ho : ∀ i, i < 4 → ma s t u i (i + 4) + ac (s i) t (fun j => ma s t u i (i + j)) 4 < 18446744073709551616 := by
    intro i hi
    obtain ⟨k1, k2⟩ := key i (by omega)
    have hb := ac_bd (d := fun j => ma s t u i (i + j)) (hs i (by omega)) ht 4 (by omega) (fun j hj => k1 (i + j) (by omega))
    rw [k2 (i + 4) (by omega)]
    omega
  refine ⟨ho, fun i hi => (key i hi).1, ?_⟩
  have st : ∀ i, i < 4 → dval (ma s t u (i + 1)) = dval (ma s t u i) + s i * wval t * 18446744073709551616 ^ i := fun i hi => (adT_ok (by omega) (hs i (by omega)) ht (key i (by omega)).1 (ho i hi)).2
  have z : dval (ma s t u 0) = wval u := by simp [dval, wval, ma]
  rw [st 3 (by omega), st 2 (by omega), st 1 (by omega), st 0 (by omega), z]
  generalize wval t = T
  simp only [wval]
  grind
theorem wv_dval (a : Nat → Int) : ∀ i, i ≤ 64 → dval (wv a i) = lsum a i
  | 0, _ => by simp [dval, wval, wv, lsum]
  | i + 1, hi => by
    have ih := wv_dval a i (by omega)
    have hp : (256 : Int) ^ i = 256 ^ (8 * (i / 8)) * 256 ^ (i % 8) := by
      rw [← Int.pow_add, show 8 * (i / 8) + i % 8 = i by omega]
    rw [lsum, ← ih, hp]
    unfold dval wval
    simp only [wv]
    generalize 256 ^ (i % 8) = q
    rcases (show i / 8 = 0 ∨ i / 8 = 1 ∨ i / 8 = 2 ∨ i / 8 = 3 ∨ i / 8 = 4 ∨ i / 8 = 5 ∨ i / 8 = 6 ∨ i / 8 = 7 by omega) with e | e | e | e | e | e | e | e
    all_goals
      rw [e]
      simp
      try grind
end Go.Proofs.YtkglcainhkbgbaaGreatDoor
namespace Go.Proofs.YtkglcainhkbgbaaGreatDoor
set_option maxRecDepth 100000
open Go.RowKit
end Go.Proofs.YtkglcainhkbgbaaGreatDoor
namespace Go.Proofs.YtkglcainhkbgbaaGreatDoor
set_option maxRecDepth 100000
def eRt : Nat := 7237005577332262213973186563042994240829374041602535252466099000494570602494
abbrev iM : Int := 19681161376707505956807079304988542015446066515923890162744021073123829784752
theorem iM_sq : iM * iM % PP = PP - 1 := by decide +kernel
theorem turn_sq (r : Int) : (r * iM % PP) * (r * iM % PP) % PP = (0 - r * r) % PP := by
  rw [← Int.mul_emod]
  have e : r * iM * (r * iM) = r * r * (iM * iM) := by grind
  rw [e]
  generalize r * r = s
  have h : iM * iM = PP * (iM * iM / PP) + (PP - 1) := by rw [← iM_sq]; exact (Int.mul_ediv_add_emod _ _).symm
  rw [h]
  generalize iM * iM / PP = q
  have e2 : s * (PP * q + (PP - 1)) = (0 - s) + PP * (s * q + s) := by grind
  rw [e2, Int.add_mul_emod_self_left]
def rtR (A : Int) : Int := A ^ eRt % PP
def r1I (A : Int) : Int := if rtR A * rtR A % PP = (0 - A) % PP then rtR A * iM % PP else rtR A
def r1S (A : Int) : Int := if rtR A * rtR A % PP = A then rtR A else rtR A * iM % PP
theorem rtR_zero : rtR 0 = 0 := by
  unfold rtR
  rw [Int.zero_pow (by decide)]
  rfl
theorem neg_modP (x s : Int) (h : x % PP = s) : (0 - x) % PP = (0 - s) % PP := by
  rw [← h, Int.zero_sub, Int.zero_sub]
  have := Int.mul_ediv_add_emod x PP
  have e : -x = -(x % PP) + PP * (-(x / PP)) := by
    generalize x / PP = q at *
    generalize x % PP = t at *
    subst this
    grind
  rw [e, Int.add_mul_emod_self_left]
theorem not1 {A s : Int} (h0 : 0 ≤ A) (h1 : A < PP) (hA : ¬ A = 0) (c : s = A) : ¬ s = (0 - A) % PP := by
  subst c
  have e : (0 - s) % PP = PP - s := by
    rw [show 0 - s = (PP - s) + PP * (-1) by generalize PP = P; omega, Int.add_mul_emod_self_left]
    exact Int.emod_eq_of_lt (by generalize PP = P at *; omega) (by generalize PP = P at *; omega)
  rw [e]
  intro h
  have h2 : s + s = PP := by generalize PP = P at *; omega
  have h3 : (s + s) % 2 = 0 := by omega
  rw [h2] at h3
  exact absurd h3 (by decide)
theorem not2 {A s : Int} (h1 : A < PP) (s0 : 0 ≤ s) (s1 : s < PP) (c : ¬ s = (0 - A) % PP) : ¬ (0 - s) % PP = A := by
  have h2 : A < 57896044618658097711785492504343953926634992332820282019728792003956564819949 := h1
  have h3 : s < 57896044618658097711785492504343953926634992332820282019728792003956564819949 := s1
  have h4 : ¬ s = (0 - A) % 57896044618658097711785492504343953926634992332820282019728792003956564819949 := c
  show ¬ (0 - s) % 57896044618658097711785492504343953926634992332820282019728792003956564819949 = A
  omega
theorem same_root {A : Int} (h0 : 0 ≤ A) (h1 : A < PP) : (r1I A * r1I A % PP = A ↔ r1S A * r1S A % PP = A) ∧ (r1S A * r1S A % PP = A → r1I A = r1S A) := by
  unfold r1I r1S
  have ht := turn_sq (rtR A)
  have hz : A = 0 → rtR A = 0 := fun h => by rw [h]; exact rtR_zero
  generalize rtR A = r at *
  obtain ⟨s, hs⟩ : ∃ s, r * r % PP = s := ⟨_, rfl⟩
  have hs0 : 0 ≤ s ∧ s < PP := by rw [← hs]; exact ⟨Int.emod_nonneg _ (by decide), Int.emod_lt_of_pos _ (by decide)⟩
  rw [neg_modP _ _ hs] at ht
  rw [hs]
  by_cases hA : A = 0
  · have hr := hz hA
    subst hr
    have e1 : (0 : Int) * iM % PP = 0 := by rw [Int.zero_mul]; rfl
    have e2 : (0 : Int) * 0 % PP = 0 := rfl
    have es : s = 0 := by rw [← hs]; rfl
    have ea : (0 - A) % PP = 0 := by rw [hA]; rfl
    rw [es, ea, hA, if_pos rfl, if_pos rfl, e1]
    exact ⟨Iff.rfl, fun _ => rfl⟩
  · by_cases c1 : s = A
    · rw [if_pos c1, if_neg (not1 h0 h1 hA c1), hs]
      exact ⟨Iff.rfl, fun _ => rfl⟩
    · rw [if_neg c1, ht]
      by_cases c2 : s = (0 - A) % PP
      · rw [if_pos c2, ht]
        exact ⟨Iff.rfl, fun _ => rfl⟩
      · rw [if_neg c2, hs]
        have n2 : ¬ ((0 - s) % PP = A) := not2 h1 hs0.1 hs0.2 c2
        exact ⟨⟨fun h => absurd h c1, fun h => absurd h n2⟩, fun h => absurd h n2⟩
theorem rtR_bd (A : Int) : 0 ≤ rtR A ∧ rtR A < PP := by
  unfold rtR
  generalize A ^ eRt = x
  exact ⟨Int.emod_nonneg _ (by decide), Int.emod_lt_of_pos _ (by decide)⟩
theorem r1S_bd (A : Int) : 0 ≤ r1S A ∧ r1S A < PP := by
  unfold r1S
  split
  · exact rtR_bd A
  · generalize rtR A * iM = x
    exact ⟨Int.emod_nonneg _ (by decide), Int.emod_lt_of_pos _ (by decide)⟩
def fin2 (r : Int) : Int := if r % 2 = 0 then r else (0 - r) % PP
end Go.Proofs.YtkglcainhkbgbaaGreatDoor
namespace Go.Proofs.YtkglcainhkbgbaaGreatDoor
set_option maxRecDepth 100000
open Go.RowKit
def R16 (W : World) (q : Nat) (t : Nat → Int) : Prop := W.rangeAt q 0 (a16 t).toList ∧ W.there q 0 16
theorem R16.lt {W : World} {q : Nat} {t : Nat → Int} (h : R16 W q t) : q < W.heap.size := by
  have h0 := (h.2 0 (by omega)).1
  rw [Option.isSome_iff_exists] at h0
  obtain ⟨v, hv⟩ := h0
  exact block_lt_of_cell hv
theorem R16.of_block {W W' : World} {q : Nat} {t : Nat → Int} (h : R16 W q t) (hb : W'.heap[q]? = W.heap[q]?) : R16 W' q t :=
  ⟨fun j v hv => (World.cell?_of_block (a := ⟨q, 0 + j, none⟩) hb).trans (h.1 j v hv), fun j hj => ⟨by rw [World.cell?_of_block (a := ⟨q, 0 + j, none⟩) hb]; exact (h.2 j hj).1, by rw [World.frozen?_of_block (a := ⟨q, 0 + j, none⟩) hb]; exact (h.2 j hj).2⟩⟩
theorem R16.up {W W' : World} {q : Nat} {t : Nat → Int} (h : R16 W q t) (n : Below W.heap.size W W') : R16 W' q t := h.of_block (n.block q h.lt)
theorem below_setCells {B : Nat} {w : World} {b : Nat} (hb : B ≤ b) : ∀ (vs : List Value) (o : Nat) (w' : World), Below B w w' → Below B w (w'.setCells b o vs)
  | [], _, _, h => h
  | v :: vs, o, w', h => by
    rw [World.setCells]
    exact below_setCells hb vs (o + 1) _ (h.setCell hb v)
theorem setCells_other {b g : Nat} (hne : g ≠ b) : ∀ (vs : List Value) (o : Nat) (w : World), (w.setCells b o vs).heap[g]? = w.heap[g]?
  | [], _, _ => rfl
  | v :: vs, o, w => by
    rw [World.setCells, setCells_other hne vs (o + 1)]
    exact heap_setCell_other w ⟨b, o, none⟩ g v hne
theorem R16.set {W : World} {q : Nat} (t : Nat → Int) (h : W.there q 0 16) : R16 (W.setCells q 0 (a16 t).toList) q t :=
  ⟨World.rangeAt_setCells_same W q 0 _ (by have : (a16 t).toList.length = 16 := by simp [ls16]
                                           rw [this]; exact h), World.there_setCells h _ _ _⟩
theorem R16.keep {W : World} {q g : Nat} {t : Nat → Int} (h : R16 W g t) (vs : List Value) (hne : g ≠ q) : R16 (W.setCells q 0 vs) g t := h.of_block (setCells_other hne vs 0 W)
end Go.Proofs.YtkglcainhkbgbaaGreatDoor
namespace Go.Proofs.YtkglcainhkbgbaaGreatDoor
set_option maxRecDepth 100000
open Go Go.RowKit
section
variable {P : Program} {ops : Array Oper} {Q : Exit → Act → World → Prop} {md : Region.Mode} {F : Nat → Fact} {a0 : Act} {w0 : World}
def RW (p : List Int → Prop) : Fact := ⟨fun v w => ∃ (xs : List Int) (a : Option Addr) (c g : Nat), v = .slice a xs.length c ∧ Own w g a .u8 xs ∧ p xs, fun n h => by
  obtain ⟨xs, a, c, g, e, o, q⟩ := h
  exact ⟨xs, a, c, g, e, o.up n, q⟩⟩
def EL (A : Int) : Fact := ⟨fun v _ => ∃ t, v = ag16 t ∧ L16 t ∧ s16 t 16 % PP = A % PP, fun _ h => h⟩
def Elt (W : World) (q o : Nat) (A : Int) : Prop := ∃ t, W.rangeAt q o (a16 t).toList ∧ q < W.heap.size ∧ L16 t ∧ s16 t 16 % PP = A % PP
theorem Elt.up {W W' : World} {q o : Nat} {A : Int} (h : Elt W q o A) (n : Below W.heap.size W W') : Elt W' q o A := by
  obtain ⟨t, r, l, h⟩ := h
  exact ⟨t, fun j v hv => (World.cell?_of_block (a := ⟨q, o + j, none⟩) (n.block q l)).trans (r j v hv), Nat.lt_of_lt_of_le l n.size, h⟩
theorem step_call {i : Nat} {o : Oper} (hi : ops[i]? = some o) (n : FuncId) (args : Array Operand) (ts : Array TypeId) (hop : o.op = .call { callee := .value (.func n), args := args, argTypes := ts }) (he : enters P n = true)
    (G : ∀ a w, Based ops a0 a → Below w0.heap.size w0 w → Facts md ops F i a w → Calls P n (args.toList.map a.eval).toArray w fun e w' => ∃ v, e = .returned v ∧ Below w.heap.size w w' ∧ (F i).p v w') : StepOk P md ops Q F a0 w0 i := by
  intro o' ho' a w hb hw hf K hK
  obtain rfl := Option.some.inj (hi.symm.trans ho')
  have hr : (execOp a.eval o).run P w = .ok (.enter n (args.map a.eval)) w := by
    have h0 : (Deferred.ofValue (Value.func (Fn.func n) #[] #[]) (args.map a.eval)).run P w = .ok { target := .fn (.func n) #[], args := args.map a.eval } w := by simp [Deferred.ofValue]
    simp [execOp, hop, resolve, invoke, Act.eval, h0, run_enter he]
  have e : args.map a.eval = (args.toList.map a.eval).toArray := by cases args; simp
  unfold Oper.wp
  rw [hr, e, Oper.upon_enter]
  refine (G a w hb hw hf).mono ?_
  rintro e w' ⟨v, rfl, hn, hv⟩
  exact hK v w' hn hv
theorem step_fld {i : Nat} {o : Oper} (hi : ops[i]? = some o) (ty : TypeId) (p f : Nat) (hop : o.op = .fieldAddr ty (.tmp p) f) (hp : apart ops p = true) (q off : Nat) (h0 : a0.tmps.getD p undef = .pointer (some ⟨q, 0, none⟩))
    (hr : ∀ w, (Instr.fieldAt ty (.pointer (some ⟨q, 0, none⟩)) f).run P w = .ok (.pointer (some ⟨q, off, none⟩)) w) (hF : F i = Fact.eq (.pointer (some ⟨q, off, none⟩))) : StepOk P md ops Q F a0 w0 i := by
  refine step_pure hi fun a w hb _ _ => ⟨_, ?_, by rw [hF]; exact rfl⟩
  have e := (based_at hb p hp).trans h0
  simp [execOp, hop, e, hr]
end
theorem mod_mul {a b A B : Int} (h : a % PP = A % PP) (k : b % PP = B % PP) : a * b % PP = A * B % PP := by rw [Int.mul_emod, h, k, ← Int.mul_emod]
theorem mod_add {a b A B : Int} (h : a % PP = A % PP) (k : b % PP = B % PP) : (a + b) % PP = (A + B) % PP := by rw [Int.add_emod, h, k, ← Int.add_emod]
theorem mod_sub {a b A B : Int} (h : a % PP = A % PP) (k : b % PP = B % PP) : (a - b) % PP = (A - B) % PP := by rw [Int.sub_emod, h, k, ← Int.sub_emod]
section
variable {ops : Array Oper} {Q : Exit → Act → World → Prop} {md : Region.Mode} {F : Nat → Fact} {a0 : Act} {w0 : World} {i : Nat} {o : Oper} {ts : Array TypeId}
end
end Go.Proofs.YtkglcainhkbgbaaGreatDoor
namespace Go.Proofs.YtkglcainhkbgbaaGreatDoor
set_option maxRecDepth 100000
open Go Go.RowKit
def eIv : Nat := 57896044618658097711785492504343953926634992332820282019728792003956564819947
theorem pow_mod {x y : Int} (h : x % PP = y % PP) : ∀ e : Nat, x ^ e % PP = y ^ e % PP
  | 0 => by simp
  | e + 1 => by rw [Int.pow_succ, Int.pow_succ]; exact mod_mul (pow_mod h e) h
theorem results_cell_mid {P : Program} {fn : Func} {p : Tmp} {ty : TypeId} (h : fn.results = #[.cell p ty]) (tmps : Array Value) (w : World) (g : Nat) (cs : List Value) (d : TypeDesc)
    (hp : tmps.getD p undef = .pointer (some ⟨g, 0, none⟩)) (hc : w.rangeAt g 0 cs) (hu : P.underlying ty = some d) (hd : d.isRow = true) (hi : (P.info? ty).map (·.size) = some cs.length) :
    (results fn tmps).run P w = .ok (.agg cs.toArray) w := by
  have hp' : tmps[p]?.getD undef = .pointer (some ⟨g, 0, none⟩) := by simpa using hp
  simp [results, h, hp', asAddr, run_loadVar_mid w g 0 ty cs d hc hu hd hi]
end Go.Proofs.YtkglcainhkbgbaaGreatDoor
namespace Go.Proofs.YtkglcainhkbgbaaGreatDoor
set_option maxRecDepth 100000
open Go Go.RowKit
def c48 (a b c : Nat → Int) : List Value := (a16 a).toList ++ ((a16 b).toList ++ (a16 c).toList)
def ag48 (a b c : Nat → Int) : Value := .agg (c48 a b c).toArray
theorem a16_len (t : Nat → Int) : (a16 t).toList.length = 16 := by simp [ls16]
def E3 (A B C : Int) : Fact := ⟨fun v _ => ∃ a b c, v = ag48 a b c ∧ (L16 a ∧ s16 a 16 % PP = A % PP) ∧ (L16 b ∧ s16 b 16 % PP = B % PP) ∧ L16 c ∧ s16 c 16 % PP = C % PP, fun _ h => h⟩
def Elt3 (W : World) (q : Nat) (A B C : Int) : Prop := ∃ a b c, W.rangeAt q 0 (c48 a b c) ∧ q < W.heap.size ∧ (L16 a ∧ s16 a 16 % PP = A % PP) ∧ (L16 b ∧ s16 b 16 % PP = B % PP) ∧ L16 c ∧ s16 c 16 % PP = C % PP
theorem Elt3.x {W : World} {q : Nat} {A B C : Int} (h : Elt3 W q A B C) : Elt W q 0 A := by
  obtain ⟨a, b, c, r, l, ha, _, _⟩ := h
  refine ⟨a, fun j v hv => r j v ?_, l, ha⟩
  have hj : j < 16 := by have := (List.getElem?_eq_some_iff.1 hv).1; rw [a16_len] at this; exact this
  unfold c48
  rw [List.getElem?_append_left (by rw [a16_len]; exact hj)]
  exact hv
theorem Elt3.y {W : World} {q : Nat} {A B C : Int} (h : Elt3 W q A B C) : Elt W q 16 B := by
  obtain ⟨a, b, c, r, l, _, hb, _⟩ := h
  refine ⟨b, fun j v hv => ?_, l, hb⟩
  have hj : j < 16 := by have := (List.getElem?_eq_some_iff.1 hv).1; rw [a16_len] at this; exact this
  have q := r (16 + j) v (by
    unfold c48
    rw [List.getElem?_append_right (by rw [a16_len]; omega), a16_len, List.getElem?_append_left (by rw [a16_len]; omega), show 16 + j - 16 = j by omega]
    exact hv)
  simpa using q
theorem Elt3.z {W : World} {q : Nat} {A B C : Int} (h : Elt3 W q A B C) : Elt W q 32 C := by
  obtain ⟨a, b, c, r, l, _, _, hc⟩ := h
  refine ⟨c, fun j v hv => ?_, l, hc⟩
  have hj : j < 16 := by have := (List.getElem?_eq_some_iff.1 hv).1; rw [a16_len] at this; exact this
  have q := r (32 + j) v (by
    unfold c48
    rw [List.getElem?_append_right (by rw [a16_len]; omega), a16_len, List.getElem?_append_right (by rw [a16_len]; omega), a16_len, show 32 + j - 16 - 16 = j by omega]
    exact hv)
  simpa using q
theorem Elt3.up {W W' : World} {q : Nat} {A B C : Int} (h : Elt3 W q A B C) (n : Below W.heap.size W W') : Elt3 W' q A B C := by
  obtain ⟨a, b, c, r, l, h⟩ := h
  exact ⟨a, b, c, fun j v hv => (World.cell?_of_block (a := ⟨q, 0 + j, none⟩) (n.block q l)).trans (r j v hv), Nat.lt_of_lt_of_le l n.size, h⟩
theorem there_up {W W' : World} {q n : Nat} (hn : 0 < n) (h : W.there q 0 n) (k : Below W.heap.size W W') : W'.there q 0 n := by
  have h0 := (h 0 hn).1
  rw [Option.isSome_iff_exists] at h0
  obtain ⟨v, hv⟩ := h0
  have hb := k.block q (block_lt_of_cell hv)
  exact fun j hj => ⟨by rw [World.cell?_of_block (a := ⟨q, 0 + j, none⟩) hb]; exact (h j hj).1, by rw [World.frozen?_of_block (a := ⟨q, 0 + j, none⟩) hb]; exact (h j hj).2⟩
theorem there_lt {W : World} {q n : Nat} (hn : 0 < n) (h : W.there q 0 n) : q < W.heap.size := by
  have h0 := (h 0 hn).1
  rw [Option.isSome_iff_exists] at h0
  obtain ⟨v, hv⟩ := h0
  exact block_lt_of_cell hv
theorem there_new (W : World) (cs : List Value) (t : TypeId) : (W.alloc (.cells cs.toArray t)).there W.heap.size 0 cs.length := fun j hj => by
  have e : (W.alloc (.cells cs.toArray t)).heap[W.heap.size]? = some (.cells cs.toArray t) := heap_alloc_last _ _
  constructor
  · unfold World.cell?
    simp only
    rw [e]
    simp [hj]
  · unfold World.frozen?
    simp only
    rw [e]
    simp
def NB (w0 : World) (n : Nat) : Fact := ⟨fun v w => 0 < n ∧ ∃ q, v = .pointer (some ⟨q, 0, none⟩) ∧ w.there q 0 n ∧ w0.heap.size ≤ q, fun k h => by
  obtain ⟨hn, q, e, t, l⟩ := h
  exact ⟨hn, q, e, there_up hn t k, l⟩⟩
theorem heap_size_setCells (b : Nat) : ∀ (vs : List Value) (o : Nat) (w : World), (w.setCells b o vs).heap.size = w.heap.size
  | [], _, _ => rfl
  | v :: vs, o, w => by
    rw [World.setCells, heap_size_setCells b vs (o + 1)]
    simp [World.setCell]
def ButQ (q : Nat) (W W' : World) : Prop := (∀ g, g ≠ q → g < W.heap.size → W'.heap[g]? = W.heap[g]?) ∧ W.heap.size ≤ W'.heap.size
theorem Elt.but {W W' : World} {g o q : Nat} {A : Int} (h : Elt W g o A) (k : ButQ q W W') (hne : g ≠ q) : Elt W' g o A := by
  obtain ⟨t, r, l, h⟩ := h
  exact ⟨t, fun j v hv => (World.cell?_of_block (a := ⟨g, o + j, none⟩) (k.1 g hne l)).trans (r j v hv), Nat.lt_of_lt_of_le l k.2, h⟩
theorem Elt3.but {W W' : World} {g q : Nat} {A B C : Int} (h : Elt3 W g A B C) (k : ButQ q W W') (hne : g ≠ q) : Elt3 W' g A B C := by
  obtain ⟨a, b, c, r, l, h⟩ := h
  exact ⟨a, b, c, fun j v hv => (World.cell?_of_block (a := ⟨g, 0 + j, none⟩) (k.1 g hne l)).trans (r j v hv), Nat.lt_of_lt_of_le l k.2, h⟩
theorem there_but {W W' : World} {g q n : Nat} (hn : 0 < n) (h : W.there g 0 n) (k : ButQ q W W') (hne : g ≠ q) : W'.there g 0 n := by
  have hb := k.1 g hne (there_lt hn h)
  exact fun j hj => ⟨by rw [World.cell?_of_block (a := ⟨g, 0 + j, none⟩) hb]; exact (h j hj).1, by rw [World.frozen?_of_block (a := ⟨g, 0 + j, none⟩) hb]; exact (h j hj).2⟩
theorem but_set {W W' : World} {q : Nat} (n : Below W.heap.size W W') (vs : List Value)   : ButQ q W (W'.setCells q 0 vs) :=
  ⟨fun g hg hl => (setCells_other hg vs 0 W').trans (n.block g hl), by rw [heap_size_setCells]; exact n.size⟩
section
variable {ops : Array Oper} {Q : Exit → Act → World → Prop} {a0 : Act} {w : World} {id : Nat} {draw : Bool}
end
section
variable {ops : Array Oper} {Q : Exit → Act → World → Prop} {md : Region.Mode} {F : Nat → Fact} {a0 : Act} {w0 : World} {i : Nat} {o : Oper} {ts : Array TypeId}
def iv (A : Int) : Int := A ^ eIv
end
end Go.Proofs.YtkglcainhkbgbaaGreatDoor
namespace Go.Proofs.YtkglcainhkbgbaaGreatDoor
set_option maxRecDepth 100000
open Go.RowKit
theorem maskN (a : Nat) (ha : a < 18446744073709551616) : bits .and .u64 (a : Int) 4294967295 = ((a % 4294967296 : Nat) : Int) := by
  have h := bits_and_u64_nat a 4294967295 ha (by omega)
  have e : a &&& 4294967295 = a % 4294967296 := Nat.and_two_pow_sub_one_eq_mod a 32
  rw [e] at h
  exact h
theorem divN (a : Nat) : (a : Int) / 4294967296 = ((a / 4294967296 : Nat) : Int) := by omega
theorem mulN (a b : Nat) : (a : Int) * (b : Int) = ((a * b : Nat) : Int) := (Int.natCast_mul a b).symm
theorem addN (a b : Nat) : (a : Int) + (b : Int) = ((a + b : Nat) : Int) := (Int.natCast_add a b).symm
theorem wrapN (a : Nat) (ha : a < 18446744073709551616) : IntKind.u64.wrap (a : Int) = (a : Int) := by rw [IntKind.wrap_u64]; omega
theorem wrapM (a : Nat) : IntKind.u64.wrap (a : Int) = ((a % 18446744073709551616 : Nat) : Int) := by rw [IntKind.wrap_u64]; omega
set_option maxHeartbeats 1000000 in
theorem mul64_nat (x y : Nat) (hx : x < 18446744073709551616) (hy : y < 18446744073709551616) (w : World) :
    Calls Tryz.prog 91 #[.int .u64 x, .int .u64 y] w fun e w' => e = .returned (.tuple #[.int .u64 ((x * y / 18446744073709551616 : Nat) : Int), .int .u64 ((x * y % 18446744073709551616 : Nat) : Int)]) ∧ w' = w := by
  obtain ⟨bd, bt, bw, hhi⟩ := Lib.mul64_hi x y hx hy
  have ba := Lib.half_mul_le (a := x / 4294967296) (b := y / 4294967296) (by omega) (by omega)
  have bb := Lib.half_mul_le (a := x / 4294967296) (b := y % 4294967296) (by omega) (by omega)
  have bc := Lib.half_mul_le (a := x % 4294967296) (b := y / 4294967296) (by omega) (by omega)
  have ba' : x / 4294967296 * (y / 4294967296) < 18446744073709551616 := by omega
  have bb' : x / 4294967296 * (y % 4294967296) < 18446744073709551616 := by omega
  have bc' : x % 4294967296 * (y / 4294967296) < 18446744073709551616 := by omega
  have bh1 : x / 4294967296 * (y / 4294967296) + (x / 4294967296 * (y % 4294967296) + x % 4294967296 * (y % 4294967296) / 4294967296) / 4294967296 < 18446744073709551616 := by omega
  have bh : x / 4294967296 * (y / 4294967296) + (x / 4294967296 * (y % 4294967296) + x % 4294967296 * (y % 4294967296) / 4294967296) / 4294967296 + ((x / 4294967296 * (y % 4294967296) + x % 4294967296 * (y % 4294967296) / 4294967296) % 4294967296 + x % 4294967296 * (y / 4294967296)) / 4294967296 < 18446744073709551616 := by omega
  go_enter Tryz.func91, Tryz.ntmps91
  go_wp2
  simp only [maskN x hx, maskN y hy, divN, mulN, addN, wrapN _ bd, wrapN _ bb', wrapN _ bt, maskN _ bt, wrapN _ bc', wrapN _ bw, wrapN _ ba', wrapN _ bh1, wrapN _ bh, wrapM (x * y)]
  rw [hhi]
  go_ret2
  exact ⟨rfl, rfl⟩
theorem mul64_any (x y : Int) (hx : 0 ≤ x ∧ x < 18446744073709551616) (hy : 0 ≤ y ∧ y < 18446744073709551616) (w : World) :
    Calls Tryz.prog 91 #[.int .u64 x, .int .u64 y] w fun e w' => e = .returned (.tuple #[.int .u64 (x * y / 18446744073709551616), .int .u64 (x * y % 18446744073709551616)]) ∧ w' = w := by
  obtain ⟨m, rfl⟩ := Int.eq_ofNat_of_zero_le hx.1
  obtain ⟨n, rfl⟩ := Int.eq_ofNat_of_zero_le hy.1
  have h := mul64_nat m n (by omega) (by omega) w
  have e1 : ((m * n / 18446744073709551616 : Nat) : Int) = (m : Int) * (n : Int) / 18446744073709551616 := by rw [Int.natCast_ediv, Int.natCast_mul]; rfl
  have e2 : ((m * n % 18446744073709551616 : Nat) : Int) = (m : Int) * (n : Int) % 18446744073709551616 := by rw [Int.natCast_emod, Int.natCast_mul]; rfl
  rw [e1, e2] at h
  exact h
theorem add64_run (x y : Int) (hx : 0 ≤ x) (hy : 0 ≤ y) (w : World) :
    (callFunc 70 #[.int .u64 x, .int .u64 y, .int .u64 0]).run Tryz.prog w =
      .ok (.value (.tuple #[.int .u64 ((x + y) % 18446744073709551616), .int .u64 ((x + y) / 18446744073709551616)])) w := by
  rw [run_callFunc_extern Tryz.func70 (by kernel_rfl) (by kernel_rfl) (by kernel_rfl) (e := add64Entry) (by kernel_rfl), run_add64 x y 0 hx hy (by omega) (by omega)]
  simp only [Result.andThen, Int.add_zero]
def ag2 (h l : Int) : Value := .agg #[.int .u64 h, .int .u64 l]
set_option maxHeartbeats 4000000 in
theorem addProduct_any (w : World) (h l a b : Int) (hh : 0 ≤ h ∧ h < 18446744073709551616) (hl : 0 ≤ l ∧ l < 18446744073709551616) (ha : 0 ≤ a ∧ a < 18446744073709551616) (hb : 0 ≤ b ∧ b < 18446744073709551616)
    (hs : h * 18446744073709551616 + l + a * b < 340282366920938463463374607431768211456) :
    Calls Tryz.prog 68 #[ag2 h l, .int .u64 a, .int .u64 b] w fun e w' =>
      e = .returned (ag2 ((h * 18446744073709551616 + l + a * b) / 18446744073709551616) ((h * 18446744073709551616 + l + a * b) % 18446744073709551616)) ∧ Below w.heap.size w w' := by
  have m0 : 0 ≤ a * b := Int.mul_nonneg ha.1 hb.1
  have M := mul64_any a b ha hb
  generalize a * b = p at *
  have AD := add64_run l (p % 18446744073709551616) hl.1 (by omega)
  simp only [ag2]
  go_enter Tryz.func68, Tryz.ntmps68
  go_wp2_with fail
  refine (M _).mono ?_
  rintro e w1 ⟨rfl, rfl⟩
  have K1 : Hid ((h * 18446744073709551616 + l + p) / 18446744073709551616 = h + p / 18446744073709551616 + (l + p % 18446744073709551616) / 18446744073709551616) := by show _ = _; omega
  have K2 : Hid ((h * 18446744073709551616 + l + p) % 18446744073709551616 = (l + p % 18446744073709551616) % 18446744073709551616) := by show _ = _; omega
  have b1 : 0 ≤ p / 18446744073709551616 := by omega
  have b2 : 0 ≤ (l + p % 18446744073709551616) / 18446744073709551616 := by omega
  have b3 : h + p / 18446744073709551616 + (l + p % 18446744073709551616) / 18446744073709551616 < 18446744073709551616 := by omega
  generalize (l + p % 18446744073709551616) % 18446744073709551616 = s at *
  generalize (l + p % 18446744073709551616) / 18446744073709551616 = c at *
  generalize p / 18446744073709551616 = p1 at *
  generalize p % 18446744073709551616 = p0 at *
  clear M hs m0
  go_wp2
  refine bodyPost_ret (v := ag2 (h + p1 + c) s) (by simp [ag2, results, Tryz.results68, go_sem]) rfl ⟨by rw [K1.out, K2.out]; rfl, ?_⟩
  exact ((Below.refl _ _).alloc (Nat.le_refl _) _).alloc (by simp) _
end Go.Proofs.YtkglcainhkbgbaaGreatDoor
namespace Go.Proofs.YtkglcainhkbgbaaGreatDoor
set_option maxRecDepth 100000
open Go.RowKit
theorem or64c (z x : Int) (i m : Nat) (hm : m = 2 ^ i) (z0 : 0 ≤ z) (z1 : z < (m : Int)) (x0 : 0 ≤ x) (x1 : x * (m : Int) < 18446744073709551616) (m1 : m ≤ 18446744073709551616) :
    bits BinOp.or IntKind.u64 (x * (m : Int)) z = z + x * (m : Int) := by
  rw [← or64 z x i m hm z0 z1 x0 x1 m1]
  obtain ⟨a, rfl⟩ := Int.eq_ofNat_of_zero_le z0
  obtain ⟨b, rfl⟩ := Int.eq_ofNat_of_zero_le x0
  have e : (b : Int) * (m : Int) = ((b * m : Nat) : Int) := by simp
  rw [e] at x1 ⊢
  rw [bits_or_u64_nat a (b * m) (by omega) (by omega), bits_or_u64_nat (b * m) a (by omega) (by omega), Nat.or_comm]
theorem blk_box2 (w : World) (k : IntKind) (t : TypeId) (a b : Int) : Blk (w.alloc (.cells #[.int k a, .int k b] t)) w.heap.size k [a, b] :=
  ⟨t, by rw [heap_alloc_last]; rfl⟩
theorem blk_box9 (w : World) (k : IntKind) (t : TypeId) (a b c d e f g h i : Int) : Blk (w.alloc (.cells #[.int k a, .int k b, .int k c, .int k d, .int k e, .int k f, .int k g, .int k h, .int k i] t)) w.heap.size k [a, b, c, d, e, f, g, h, i] :=
  ⟨t, by rw [heap_alloc_last]; rfl⟩
structure MulS (w : World) (N : Nat) (e f : Nat → Int) (wr : World) : Prop where
  E : Blk wr N .u64 [e 0, e 1, e 2, e 3, e 4]
  R : Blk wr (N + 1 + 1) .u64 [0, 0, 0, 0, 0]
  F : Blk wr (N + 1 + 1 + 1) .u64 (fill (rnd f) 9)
  B : Below N w wr
theorem MulS.up {w wr wq : World} {N : Nat} {e f : Nat → Int} (h : MulS w N e f wr) (n : Below wr.heap.size wr wq) (hN : N ≤ wr.heap.size) : MulS w N e f wq :=
  ⟨h.E.up n, h.R.up n, h.F.up n, h.B.trans (n.mono hN)⟩
theorem MulS.set {w wr : World} {N g i : Nat} {e f : Nat → Int} (h : MulS w N e f wr) (hg : N + 1 + 1 + 1 < g) (v : Value) : MulS w N e f (wr.setCell ⟨g, i, none⟩ v) :=
  ⟨h.E.keep (by omega), h.R.keep (by omega), h.F.keep (by omega), h.B.setCell (by show N ≤ g; omega) v⟩
theorem MulS.drew {w wr : World} {N : Nat} {e f : Nat → Int} (h : MulS w N e f wr) : MulS w N e f wr.drew := ⟨h.E.drew, h.R.drew, h.F.drew, h.B.drew⟩
set_option maxHeartbeats 8000000 in
set_option maxRecDepth 100000 in
theorem mul_any (w : World) (e f : Nat → Int) (he : Lm e) (hf : Lm f) :
    Calls Tryz.prog 105 #[ag5 e, ag5 f] w fun r w' => r = .returned (ag5 (stl (st1 (cols e f)))) ∧ Below w.heap.size w w' := by
  have f0 := hf 0 (by omega); have f1 := hf 1 (by omega); have f2 := hf 2 (by omega); have f3 := hf 3 (by omega); have f4 := hf 4 (by omega)
  have B0 := blk_box w .u64 80 (e 0) (e 1) (e 2) (e 3) (e 4)
  have n0 : Below w.heap.size w (w.alloc (.cells #[.int .u64 (e 0), .int .u64 (e 1), .int .u64 (e 2), .int .u64 (e 3), .int .u64 (e 4)] 80)) := (Below.refl _ _).alloc (Nat.le_refl _) _
  have s0 : (w.alloc (.cells #[.int .u64 (e 0), .int .u64 (e 1), .int .u64 (e 2), .int .u64 (e 3), .int .u64 (e 4)] 80)).heap.size = w.heap.size + 1 := by simp
  simp only [ag5]
  go_enter Tryz.func105, Tryz.ntmps105
  go_wp2
  generalize w.alloc (.cells #[.int .u64 (e 0), .int .u64 (e 1), .int .u64 (e 2), .int .u64 (e 3), .int .u64 (e 4)] 80) = wa at *
  have B1 := blk_box wa .u64 80 (f 0) (f 1) (f 2) (f 3) (f 4)
  have n1 : Below wa.heap.size wa (wa.alloc (.cells #[.int .u64 (f 0), .int .u64 (f 1), .int .u64 (f 2), .int .u64 (f 3), .int .u64 (f 4)] 80)) := (Below.refl _ _).alloc (Nat.le_refl _) _
  have s1 : (wa.alloc (.cells #[.int .u64 (f 0), .int .u64 (f 1), .int .u64 (f 2), .int .u64 (f 3), .int .u64 (f 4)] 80)).heap.size = w.heap.size + 1 + 1 := by simp [s0]
  generalize wa.alloc (.cells #[.int .u64 (f 0), .int .u64 (f 1), .int .u64 (f 2), .int .u64 (f 3), .int .u64 (f 4)] 80) = wb at *
  have B2 := blk_box wb .u64 80 0 0 0 0 0
  have n2 : Below wb.heap.size wb (wb.alloc (.cells #[.int .u64 0, .int .u64 0, .int .u64 0, .int .u64 0, .int .u64 0] 80)) := (Below.refl _ _).alloc (Nat.le_refl _) _
  have s2 : (wb.alloc (.cells #[.int .u64 0, .int .u64 0, .int .u64 0, .int .u64 0, .int .u64 0] 80)).heap.size = w.heap.size + 1 + 1 + 1 := by simp [s1]
  generalize wb.alloc (.cells #[.int .u64 0, .int .u64 0, .int .u64 0, .int .u64 0, .int .u64 0] 80) = wc at *
  have B3 := blk_box9 wc .u64 180 (19 * f 1) (19 * f 2) (19 * f 3) (19 * f 4) (f 0) (f 1) (f 2) (f 3) (f 4)
  have n3 : Below wc.heap.size wc (wc.alloc (.cells #[.int .u64 (19 * f 1), .int .u64 (19 * f 2), .int .u64 (19 * f 3), .int .u64 (19 * f 4), .int .u64 (f 0), .int .u64 (f 1), .int .u64 (f 2), .int .u64 (f 3), .int .u64 (f 4)] 180)) := (Below.refl _ _).alloc (Nat.le_refl _) _
  have s3 : (wc.alloc (.cells #[.int .u64 (19 * f 1), .int .u64 (19 * f 2), .int .u64 (19 * f 3), .int .u64 (19 * f 4), .int .u64 (f 0), .int .u64 (f 1), .int .u64 (f 2), .int .u64 (f 3), .int .u64 (f 4)] 180)).heap.size = w.heap.size + 1 + 1 + 1 + 1 := by simp [s2]
  generalize wc.alloc (.cells #[.int .u64 (19 * f 1), .int .u64 (19 * f 2), .int .u64 (19 * f 3), .int .u64 (19 * f 4), .int .u64 (f 0), .int .u64 (f 1), .int .u64 (f 2), .int .u64 (f 3), .int .u64 (f 4)] 180) = wd at *
  have B4 := blk_box wd .u64 179 0 0 0 0 0
  have n4 : Below wd.heap.size wd (wd.alloc (.cells #[.int .u64 0, .int .u64 0, .int .u64 0, .int .u64 0, .int .u64 0] 179)) := (Below.refl _ _).alloc (Nat.le_refl _) _
  have s4 : (wd.alloc (.cells #[.int .u64 0, .int .u64 0, .int .u64 0, .int .u64 0, .int .u64 0] 179)).heap.size = w.heap.size + 1 + 1 + 1 + 1 + 1 := by simp [s3]
  generalize wd.alloc (.cells #[.int .u64 0, .int .u64 0, .int .u64 0, .int .u64 0, .int .u64 0] 179) = wx at *
  rw [s1] at B2
  rw [s2] at B3
  rw [s3] at B4
  have M0 : MulS w w.heap.size e f wx := ⟨(((B0.up n1).up n2).up n3).up n4, (B2.up n3).up n4, B3.up n4, nxt (nxt (nxt (nxt n0 n1) n2) n3) n4⟩
  clear B0 B1 B2 B3 n0 n1 n2 n3 n4 s0 s1 s2 s3
  have cb := fun k => cols_cr he hf k
  go_loopw [7, 34] (fun q i wr => ∃ (k : Nat) (ys : List Int), k ≤ 5 ∧ i = .int .i64 k ∧ q = .int .u64 (cr 0 (cols e f) k) ∧ Upd (lf 0 (cols e f)) (fun _ => 0) ys k ∧ MulS w w.heap.size e f wr ∧ Blk wr (w.heap.size + 1 + 1 + 1 + 1) .u64 ys ∧ w.heap.size + 1 + 1 + 1 + 1 < wr.heap.size) (fun _ i _ => 5 - (intOf i).toNat)
  case atStart => exact ⟨0, _, by omega, rfl, rfl, Upd.zero _ (fun _ => 0), M0, B4, by omega⟩
  case round =>
    clear M0 B4 s4
    obtain ⟨k, ys, hk, rfl, rfl, hU, hM, hB, hz⟩ := hrel
    by_cases hlt : k < 5
    · have ck := cb k
      have k2 : decide ((k : Int) < 5) = true := by simp; omega
      have U5 := hide hU
      have colb := fun j hj => col_bd he hf k hlt j hj
      have T0 := blk_box2 wr .u64 130 0 (cr 0 (cols e f) k)
      have nw : Below wr.heap.size wr (wr.alloc (.cells #[.int .u64 0, .int .u64 (cr 0 (cols e f) k)] 130)) := (Below.refl _ _).alloc (Nat.le_refl _) _
      have hw : wr.heap.size < (wr.alloc (.cells #[.int .u64 0, .int .u64 (cr 0 (cols e f) k)] 130)).heap.size := by simp
      have hM1 := hM.up nw (by omega)
      have hB1 := hB.up nw
      clear hU hM hB
      go_wp2
      generalize wr.alloc (.cells #[.int .u64 0, .int .u64 (cr 0 (cols e f) k)] 130) = wn at *
      obtain ⟨G, hG⟩ : ∃ G, G = wr.heap.size := ⟨_, rfl⟩
      have hGz : w.heap.size + 1 + 1 + 1 + 1 < G := by omega
      rw [← hG] at T0 hw ⊢
      clear hG nw hz
      obtain ⟨C, hC⟩ : ∃ C, C = cr 0 (cols e f) k := ⟨_, rfl⟩
      have hC' := hide hC
      rw [← hC] at T0 ck ⊢
      clear hC
      go_loopw [39] (fun i wq => ∃ (j : Nat), j ≤ 5 ∧ i = .int .i64 j ∧ MulS w w.heap.size e f wq ∧ Blk wq (w.heap.size + 1 + 1 + 1 + 1) .u64 ys ∧ Blk wq G .u64 [(C + col e f k j) / 18446744073709551616, (C + col e f k j) % 18446744073709551616] ∧ G < wq.heap.size) (fun i _ => 5 - (intOf i).toNat)
      case atStart =>
        refine ⟨0, by omega, rfl, hM1, hB1, ?_, hw⟩
        have e0 : (C + col e f k 0) / 18446744073709551616 = 0 := by simp only [col]; omega
        have e1 : (C + col e f k 0) % 18446744073709551616 = C := by simp only [col]; omega
        rw [e0, e1]
        exact T0
      case round =>
        clear hM1 hB1 T0 hw wn
        obtain ⟨j, hj, rfl, hM, hB, hT, hz⟩ := hrel
        by_cases hjt : j < 5
        · have ce := hM.E.at5 hjt
          have eb := he j hjt
          have rb := rnd_bd hf (4 + k - j) (by omega)
          have cf : wr.cell? ⟨w.heap.size + 1 + 1 + 1, 4 + k - j, none⟩ = some (.int .u64 (rnd f (4 + k - j))) := by rw [hM.F.cell (by rw [fill_len]; omega), fill_get _ _ _ (by omega)]
          have cj := colb j (by omega)
          have cj' := colb (j + 1) (by omega)
          have cs : col e f k (j + 1) = col e f k j + e j * rnd f (4 + k - j) := rfl
          obtain ⟨⟨t0, t1⟩, g0, g1⟩ : (wr.cell? ⟨G, 0, none⟩ = some (.int .u64 ((C + col e f k j) / 18446744073709551616)) ∧ wr.cell? ⟨G, 1, none⟩ = some (.int .u64 ((C + col e f k j) % 18446744073709551616))) ∧ wr.frozen? ⟨G, 0, none⟩ = false ∧ wr.frozen? ⟨G, 1, none⟩ = false :=
            ⟨⟨hT.cell (i := 0) (by simp), hT.cell (i := 1) (by simp)⟩, hT.free 0, hT.free 1⟩
          have AP : ∀ W, (∃ n, W = wr.drewN n) → Calls Tryz.prog 68 #[.agg #[.int .u64 ((C + col e f k j) / 18446744073709551616), .int .u64 ((C + col e f k j) % 18446744073709551616)], .int .u64 (e j), .int .u64 (rnd f (4 + k - j))] W fun r w' =>
              r = .returned (.agg #[.int .u64 ((C + col e f k (j + 1)) / 18446744073709551616), .int .u64 ((C + col e f k (j + 1)) % 18446744073709551616)]) ∧ Below wr.heap.size wr w' := by
            rintro W ⟨n, rfl⟩
            have e1 : (C + col e f k j) / 18446744073709551616 * 18446744073709551616 + (C + col e f k j) % 18446744073709551616 + e j * rnd f (4 + k - j) = C + col e f k (j + 1) := by rw [cs]; omega
            have h := addProduct_any (wr.drewN n) ((C + col e f k j) / 18446744073709551616) ((C + col e f k j) % 18446744073709551616) (e j) (rnd f (4 + k - j)) ⟨by omega, by omega⟩ ⟨by omega, by omega⟩ ⟨by omega, by omega⟩ ⟨by omega, by omega⟩ (by rw [e1]; omega)
            rw [e1] at h
            refine h.mono ?_
            rintro r w' ⟨rfl, n'⟩
            exact ⟨rfl, (below_drewN (Below.refl wr.heap.size wr) n).trans n'⟩
          have FIN : ∀ w', Below wr.heap.size wr w' → MulS w w.heap.size e f ((w'.setCell ⟨G, 0, none⟩ (.int .u64 ((C + col e f k (j + 1)) / 18446744073709551616))).setCell ⟨G, 1, none⟩ (.int .u64 ((C + col e f k (j + 1)) % 18446744073709551616))) ∧ Blk ((w'.setCell ⟨G, 0, none⟩ (.int .u64 ((C + col e f k (j + 1)) / 18446744073709551616))).setCell ⟨G, 1, none⟩ (.int .u64 ((C + col e f k (j + 1)) % 18446744073709551616))) (w.heap.size + 1 + 1 + 1 + 1) .u64 ys ∧
              Blk ((w'.setCell ⟨G, 0, none⟩ (.int .u64 ((C + col e f k (j + 1)) / 18446744073709551616))).setCell ⟨G, 1, none⟩ (.int .u64 ((C + col e f k (j + 1)) % 18446744073709551616))) G .u64 [(C + col e f k (j + 1)) / 18446744073709551616, (C + col e f k (j + 1)) % 18446744073709551616] ∧ G < ((w'.setCell ⟨G, 0, none⟩ (.int .u64 ((C + col e f k (j + 1)) / 18446744073709551616))).setCell ⟨G, 1, none⟩ (.int .u64 ((C + col e f k (j + 1)) % 18446744073709551616))).heap.size := by
            intro w' n'
            have hq := hM.B.size
            refine ⟨((hM.up n' (by omega)).set (by omega) _).set (by omega) _, ((hB.up n').keep (by omega)).keep (by omega), ((hT.up n').store 0 _).store 1 _, ?_⟩
            have := n'.size
            simp [World.setCell]
            omega
          have KC : ∀ w', Below wr.heap.size wr w' → (w'.cell? ⟨G, 0, none⟩ = some (.int .u64 ((C + col e f k j) / 18446744073709551616)) ∧ w'.cell? ⟨G, 1, none⟩ = some (.int .u64 ((C + col e f k j) % 18446744073709551616))) ∧ w'.frozen? ⟨G, 0, none⟩ = false ∧ w'.frozen? ⟨G, 1, none⟩ = false := fun w' n' =>
            ⟨⟨(hT.up n').cell (i := 0) (by simp), (hT.up n').cell (i := 1) (by simp)⟩, (hT.up n').free 0, (hT.up n').free 1⟩
          have AP' := hide AP
          have FIN' := hide FIN
          have KC' := hide KC
          obtain ⟨p, hp⟩ : ∃ p : Nat, 4 + k - j = p := ⟨_, rfl⟩
          rw [hp] at cf AP'
          have i1 : (4 : Int) + (k : Int) - (j : Int) = (p : Int) := by omega
          have i2 : IntKind.i64.wrap ((4 : Int) + (k : Int)) = 4 + (k : Int) := by rw [IntKind.wrap_i64]; omega
          have i3 : IntKind.i64.wrap (p : Int) = (p : Int) := by rw [IntKind.wrap_i64]; omega
          have i4 : (p : Int) < 9 := by omega
          have i5 : (j : Int) < 5 := by omega
          generalize rnd f p = y at *
          generalize e j = x at *
          generalize (C + col e f k j) / 18446744073709551616 = th at *
          generalize (C + col e f k j) % 18446744073709551616 = tl at *
          obtain ⟨uh, hu1⟩ : ∃ u, (C + col e f k (j + 1)) / 18446744073709551616 = u := ⟨_, rfl⟩
          obtain ⟨ul, hu2⟩ : ∃ u, (C + col e f k (j + 1)) % 18446744073709551616 = u := ⟨_, rfl⟩
          have hU1 := hide hu1
          have hU2 := hide hu2
          rw [hu1, hu2] at AP' FIN'
          clear hu1 hu2
          clear hT hB hM AP FIN KC colb cj cj' cs rb hp f0 f1 f2 f3 f4 cb ck U5
          go_wp2
          go_region_with (go_at_call 68; refine ((unhide AP') _ ?_).mono ?_; exact ⟨1, rfl⟩; rintro r w' ⟨rfl, n'⟩; obtain ⟨⟨t0', t1'⟩, g0', g1'⟩ := (unhide KC') w' n')
          all_goals
            have F := hide ((unhide FIN') w' n')
            generalize (w'.setCell ⟨G, 0, none⟩ (.int .u64 uh)).setCell ⟨G, 1, none⟩ (.int .u64 ul) = wz at *
            clear i1 i2 i3 t0 t1 t0' t1' g0 g1 g0' g1'
            go_wp2
            go_roundw
            case rel =>
              obtain ⟨F1, F2, F3, F4⟩ := F.out
              exact ⟨j + 1, by omega, by go_num, F1, F2, by rw [hU1.out, hU2.out]; exact F3, F4⟩
            case measure => simp [intOf]; omega
        · obtain rfl : j = 5 := by omega
          have c5 := colb 5 (by omega)
          have hU := U5.out
          have R := hU.step hlt
          have E1 : lf 0 (cols e f) k = (C + col e f k 5) % 2251799813685248 := by
            unfold lf
            rw [hC'.out, show cols e f k = col e f k 5 by simp [cols, hlt]]
          have E2 : cr 0 (cols e f) (k + 1) = (C + col e f k 5) / 2251799813685248 := by
            rw [cr, hC'.out, show cols e f k = col e f k 5 by simp [cols, hlt]]
          have hcy := hB.cell (i := k) (by rw [hU.1]; exact hlt)
          have hfy := hB.free k
          have t0 : wr.cell? ⟨G, 0, none⟩ = some (.int .u64 ((C + col e f k 5) / 18446744073709551616)) := hT.cell (i := 0) (by simp)
          have t1 : wr.cell? ⟨G, 1, none⟩ = some (.int .u64 ((C + col e f k 5) % 18446744073709551616)) := hT.cell (i := 1) (by simp)
          have v1 : (C + col e f k 5) % 18446744073709551616 % 2251799813685248 = (C + col e f k 5) % 2251799813685248 := by omega
          have v2 : (C + col e f k 5) % 18446744073709551616 / 2251799813685248 + (C + col e f k 5) / 18446744073709551616 * 8192 = (C + col e f k 5) / 2251799813685248 := by omega
          have b1 : 0 ≤ (C + col e f k 5) / 18446744073709551616 ∧ (C + col e f k 5) / 18446744073709551616 < 2251799813685248 := ⟨by omega, by omega⟩
          have b2 : 0 ≤ (C + col e f k 5) % 18446744073709551616 ∧ (C + col e f k 5) % 18446744073709551616 < 18446744073709551616 := ⟨by omega, by omega⟩
          rw [E1, ← v1] at R
          rw [← v2] at E2
          have E2' := hide E2
          generalize (C + col e f k 5) / 18446744073709551616 = th at *
          generalize (C + col e f k 5) % 18446744073709551616 = tl at *
          have m1 := mask51 tl b2.1 b2.2
          have o1 : bits BinOp.or IntKind.u64 (th * 8192) (tl / 2251799813685248) = tl / 2251799813685248 + th * 8192 := or64c (tl / 2251799813685248) th 13 8192 (by decide) (by omega) (by omega) (by omega) (by omega) (by decide)
          have S := hB.store k (tl % 2251799813685248)
          have SM := hM.set (g := w.heap.size + 1 + 1 + 1 + 1) (i := k) (by omega) (.int .u64 (tl % 2251799813685248))
          have SG : w.heap.size + 1 + 1 + 1 + 1 < (wr.setCell ⟨w.heap.size + 1 + 1 + 1 + 1, k, none⟩ (.int .u64 (tl % 2251799813685248))).heap.size := by simp [World.setCell]; omega
          have GN : G ≠ w.heap.size + 1 + 1 + 1 + 1 := by omega
          have R' := hide R
          clear hU hB hM hT U5 E1 E2 v1 v2 colb c5 ck cb hC' R f0 f1 f2 f3 f4
          go_wp2
          go_roundw
          case rel => exact ⟨k + 1, _, by omega, by go_num, by rw [E2'.out], R'.out, SM, S, SG⟩
          case measure => simp [intOf]; omega
    · obtain rfl : k = 5 := by omega
      have hy := hU.all
      subst hy
      have A := mul_ok he hf
      have l0 := lf_bd 0 (cols e f) 0
      have c5 := cb 5
      obtain ⟨⟨q0, q1, q2, q3, q4⟩, z0, _⟩ := hB.f5
      have SM := hM.set (g := w.heap.size + 1 + 1 + 1 + 1) (i := 0) (by omega) (.int .u64 (lf 0 (cols e f) 0 + 19 * cr 0 (cols e f) 5))
      clear hU hB hM cb f0 f1 f2 f3 f4
      go_wp2_with fail
      generalize wr.setCell ⟨w.heap.size + 1 + 1 + 1 + 1, 0, none⟩ (.int .u64 (lf 0 (cols e f) 0 + 19 * cr 0 (cols e f) 5)) = wy at *
      refine (settle_any wy (st1 (cols e f)) A.1).mono ?_
      rintro r w1 ⟨rfl, n1⟩
      obtain ⟨⟨p0, p1, p2, p3, p4⟩, ⟨g0, g1, g2, g3, g4⟩⟩ := (SM.R.up n1).f5
      have N1 := nxt SM.B n1
      obtain ⟨t, ht⟩ : ∃ t, t = stl (st1 (cols e f)) := ⟨_, rfl⟩
      have hT : Hid (t = stl (st1 (cols e f))) := ht
      rw [← ht]
      clear SM A n1 q0 q1 q2 q3 q4 ht
      simp only [ag5]
      go_wp2
      exact bodyPost_ret (v := ag5 t) (by simp [ag5, results, Tryz.results105, go_sem, p0, p1, p2, p3, p4]) rfl ⟨by rw [hT.out]; rfl, below_set5 N1 (by omega) _ _ _ _ _⟩
end Go.Proofs.YtkglcainhkbgbaaGreatDoor
namespace Go.Proofs.YtkglcainhkbgbaaGreatDoor
set_option maxRecDepth 100000
open Go.RowKit
theorem mulE_any (w : World) (e f : Nat → Int) (he : Lm e) (hf : Lm f) :
    Calls Tryz.prog 105 #[ag5 e, ag5 f] w fun r w' => ∃ t, r = .returned (ag5 t) ∧ Lm t ∧ sv t 5 = (sv e 5 * sv f 5) % PP ∧ Below w.heap.size w w' := by
  refine (mul_any w e f he hf).mono ?_
  rintro r w' ⟨rfl, n⟩
  obtain ⟨_, h2, h3⟩ := mul_ok he hf
  exact ⟨_, rfl, h3, h2, n⟩
end Go.Proofs.YtkglcainhkbgbaaGreatDoor
namespace Go.Proofs.YtkglcainhkbgbaaGreatDoor
set_option maxRecDepth 100000
open Go.RowKit
def Elm (e : Nat → Int) : Prop := Lm e ∧ sv e 5 < PP
theorem Elm.nonneg {e : Nat → Int} (h : Elm e) : 0 ≤ sv e 5 := h.1.bd.1
theorem Elm.of {e : Nat → Int} {v : Int} (h : Lm e) (hv : sv e 5 = v % PP) : Elm e := ⟨h, by rw [hv]; exact Int.emod_lt_of_pos _ (by decide)⟩
theorem Elm.mod {e : Nat → Int} (h : Elm e) : sv e 5 % PP = sv e 5 := Int.emod_eq_of_lt h.nonneg h.2
theorem sq_pow (x : Int) (k : Nat) : (x ^ 2 ^ k % PP) * (x ^ 2 ^ k % PP) % PP = x ^ 2 ^ (k + 1) % PP := by
  rw [← Int.mul_emod, ← Int.pow_add, Nat.pow_succ, Nat.mul_comm, Nat.two_mul]
set_option maxHeartbeats 2000000 in
theorem square_any (w : World) (e : Nat → Int) (he : Lm e) :
    Calls Tryz.prog 101 #[ag5 e] w fun r w' => ∃ t, r = .returned (ag5 t) ∧ Lm t ∧ sv t 5 = (sv e 5 * sv e 5) % PP ∧ Below w.heap.size w w' := by
  have B0 := blk_box w .u64 80 (e 0) (e 1) (e 2) (e 3) (e 4)
  have n0 : Below w.heap.size w (w.alloc (.cells #[.int .u64 (e 0), .int .u64 (e 1), .int .u64 (e 2), .int .u64 (e 3), .int .u64 (e 4)] 80)) := (Below.refl _ _).alloc (Nat.le_refl _) _
  have s0 : (w.alloc (.cells #[.int .u64 (e 0), .int .u64 (e 1), .int .u64 (e 2), .int .u64 (e 3), .int .u64 (e 4)] 80)).heap.size = w.heap.size + 1 := by simp
  have M := fun w => mulE_any w e e he he
  simp only [ag5] at M ⊢
  go_enter Tryz.func101, Tryz.ntmps101
  go_wp2_with fail
  generalize w.alloc (.cells #[.int .u64 (e 0), .int .u64 (e 1), .int .u64 (e 2), .int .u64 (e 3), .int .u64 (e 4)] 80) = wa at *
  have B1 := blk_box wa .u64 80 0 0 0 0 0
  have n1 : Below wa.heap.size wa (wa.alloc (.cells #[.int .u64 0, .int .u64 0, .int .u64 0, .int .u64 0, .int .u64 0] 80)) := (Below.refl _ _).alloc (Nat.le_refl _) _
  rw [s0] at B1
  generalize wa.alloc (.cells #[.int .u64 0, .int .u64 0, .int .u64 0, .int .u64 0, .int .u64 0] 80) = wb at *
  have N1 := nxt n0 n1
  refine (M wb).mono ?_
  rintro r w1 ⟨t, rfl, L, V, n2⟩
  obtain ⟨⟨p0, p1, p2, p3, p4⟩, ⟨g0, g1, g2, g3, g4⟩⟩ := (B1.up n2).f5
  have N2 := nxt N1 n2
  have V' := hide V
  clear M B0 B1 n0 n1 n2 N1 V s0
  go_wp2
  exact bodyPost_ret (v := ag5 t) (by simp [ag5, results, Tryz.results101, go_sem, p0, p1, p2, p3, p4]) rfl ⟨t, rfl, L, V'.out, below_set5 N2 (by omega) _ _ _ _ _⟩
set_option maxHeartbeats 2000000 in
theorem squareTimes_any (w : World) (e : Nat → Int) (he : Elm e) (n : Nat) (hn : n ≤ 1000) :
    Calls Tryz.prog 118 #[ag5 e, .int .i64 n] w fun r w' => ∃ t, r = .returned (ag5 t) ∧ Lm t ∧ sv t 5 = sv e 5 ^ 2 ^ n % PP ∧ Below w.heap.size w w' := by
  have B0 := blk_box w .u64 80 (e 0) (e 1) (e 2) (e 3) (e 4)
  have n0 : Below w.heap.size w (w.alloc (.cells #[.int .u64 (e 0), .int .u64 (e 1), .int .u64 (e 2), .int .u64 (e 3), .int .u64 (e 4)] 80)) := (Below.refl _ _).alloc (Nat.le_refl _) _
  have s0 : (w.alloc (.cells #[.int .u64 (e 0), .int .u64 (e 1), .int .u64 (e 2), .int .u64 (e 3), .int .u64 (e 4)] 80)).heap.size = w.heap.size + 1 := by simp
  simp only [ag5]
  go_enter Tryz.func118, Tryz.ntmps118
  go_wp2
  generalize w.alloc (.cells #[.int .u64 (e 0), .int .u64 (e 1), .int .u64 (e 2), .int .u64 (e 3), .int .u64 (e 4)] 80) = wa at *
  have B1 := blk_box wa .u64 80 0 0 0 0 0
  have n1 : Below wa.heap.size wa (wa.alloc (.cells #[.int .u64 0, .int .u64 0, .int .u64 0, .int .u64 0, .int .u64 0] 80)) := (Below.refl _ _).alloc (Nat.le_refl _) _
  rw [s0] at B1
  have s1 : (wa.alloc (.cells #[.int .u64 0, .int .u64 0, .int .u64 0, .int .u64 0, .int .u64 0] 80)).heap.size = w.heap.size + 2 := by simp [s0]
  generalize wa.alloc (.cells #[.int .u64 0, .int .u64 0, .int .u64 0, .int .u64 0, .int .u64 0] 80) = wb at *
  have E0 := B0.up n1
  have N1 := nxt n0 n1
  go_loopw [6] (fun i wr => ∃ (k : Nat) (t : Nat → Int), k ≤ n ∧ i = .int .i64 k ∧ (Lm t ∧ sv t 5 = sv e 5 ^ 2 ^ k % PP) ∧ Blk wr w.heap.size .u64 [t 0, t 1, t 2, t 3, t 4] ∧ Blk wr (w.heap.size + 1) .u64 [0, 0, 0, 0, 0] ∧ w.heap.size + 1 < wr.heap.size ∧ Below w.heap.size w wr) (fun i _ => n - (intOf i).toNat)
  case atStart => exact ⟨0, e, by omega, rfl, ⟨he.1, by rw [Nat.pow_zero, Int.pow_one, he.mod]⟩, E0, B1, by omega, N1⟩
  case round =>
    clear E0 B1 B0 n0 n1 s0 s1 N1
    obtain ⟨k, t, hk, rfl, ht, hB, hR, hz, hN⟩ := hrel
    obtain ⟨⟨q0, q1, q2, q3, q4⟩, ⟨z0, z1, z2, z3, z4⟩⟩ := hB.f5
    by_cases hlt : k < n
    · have M := square_any wr t ht.1
      simp only [ag5] at M
      have k2 : (k : Int) < (n : Int) := by omega
      have Ht := hide ht
      clear ht
      go_wp2_with fail
      refine M.mono ?_
      rintro r w1 ⟨u, rfl, L, V, n2⟩
      have hB2 := hB.up n2
      obtain ⟨⟨x0, x1, x2, x3, x4⟩, ⟨y0, y1, y2, y3, y4⟩⟩ := hB2.f5
      have S : Blk (((((w1.setCell ⟨w.heap.size, 0, none⟩ (.int .u64 (u 0))).setCell ⟨w.heap.size, 1, none⟩ (.int .u64 (u 1))).setCell ⟨w.heap.size, 2, none⟩ (.int .u64 (u 2))).setCell ⟨w.heap.size, 3, none⟩ (.int .u64 (u 3))).setCell ⟨w.heap.size, 4, none⟩ (.int .u64 (u 4))) w.heap.size .u64 [u 0, u 1, u 2, u 3, u 4] := ((((hB2.store 0 _).store 1 _).store 2 _).store 3 _).store 4 _
      have hne : w.heap.size + 1 ≠ w.heap.size := by omega
      have SR : Blk (((((w1.setCell ⟨w.heap.size, 0, none⟩ (.int .u64 (u 0))).setCell ⟨w.heap.size, 1, none⟩ (.int .u64 (u 1))).setCell ⟨w.heap.size, 2, none⟩ (.int .u64 (u 2))).setCell ⟨w.heap.size, 3, none⟩ (.int .u64 (u 3))).setCell ⟨w.heap.size, 4, none⟩ (.int .u64 (u 4))) (w.heap.size + 1) .u64 [0, 0, 0, 0, 0] := (((((hR.up n2).keep hne).keep hne).keep hne).keep hne).keep hne
      have SN := below_set5 (nxt hN n2) (Nat.le_refl w.heap.size) (.int .u64 (u 0)) (.int .u64 (u 1)) (.int .u64 (u 2)) (.int .u64 (u 3)) (.int .u64 (u 4))
      have SZ : w.heap.size + 1 < (((((w1.setCell ⟨w.heap.size, 0, none⟩ (.int .u64 (u 0))).setCell ⟨w.heap.size, 1, none⟩ (.int .u64 (u 1))).setCell ⟨w.heap.size, 2, none⟩ (.int .u64 (u 2))).setCell ⟨w.heap.size, 3, none⟩ (.int .u64 (u 3))).setCell ⟨w.heap.size, 4, none⟩ (.int .u64 (u 4))).heap.size := by
        have := n2.size
        simp [World.setCell]; omega
      have V' : Hid (sv u 5 = sv e 5 ^ 2 ^ (k + 1) % PP) := by show _ = _; rw [V, Ht.out.2, sq_pow]
      clear M hB hR hN n2 hB2 V hne q0 q1 q2 q3 q4 z0 z1 z2 z3 z4
      go_wp2
      go_roundw
      case rel => exact ⟨k + 1, u, by omega, by go_num, ⟨L, V'.out⟩, S, SR, SZ, SN⟩
      case measure => simp [intOf]; omega
    · obtain rfl : k = n := by omega
      obtain ⟨⟨p0, p1, p2, p3, p4⟩, ⟨g0, g1, g2, g3, g4⟩⟩ := hR.f5
      have Ht := hide ht
      clear ht hB hR
      go_wp2
      exact bodyPost_ret (v := ag5 t) (by simp [ag5, results, Tryz.results118, go_sem, p0, p1, p2, p3, p4]) rfl ⟨t, rfl, Ht.out.1, Ht.out.2, below_set5 hN (by omega) _ _ _ _ _⟩
end Go.Proofs.YtkglcainhkbgbaaGreatDoor
