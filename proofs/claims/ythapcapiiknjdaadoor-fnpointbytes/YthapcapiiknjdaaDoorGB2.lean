import Derived.Test.YthapcapiiknjdaaDoorGB1
import Derived.Test.YthapcapiiknjdaaDoorRows
import Derived.WalkSpells
import Derived.Deep.QuietTactic
import Derived.BigQuiet
import Derived.Laws.AppendOwnNone
import Derived.Deep.MidRow

/-
  Sums, differences and products digit by digit: plain arithmetic.
-/
namespace Go.Proofs.YthapcapiiknjdaaDoor
set_option maxRecDepth 100000

theorem dig_set_self (ys : List Int) (i : Nat) (v : Int) (h : i < ys.length) : dig (ys.set (ys.length - 1 - i) v) i = v := by
  unfold dig
  rw [List.length_set, if_pos h, getD_set_self _ _ _ (by omega)]
theorem dig_set_ne (ys : List Int) (i j : Nat) (v : Int) (h : i < ys.length) (hne : j ≠ i) : dig (ys.set (ys.length - 1 - i) v) j = dig ys j := by
  unfold dig
  rw [List.length_set]
  by_cases hj : j < ys.length
  · rw [if_pos hj, if_pos hj, getD_set_ne _ _ _ _ (by omega)]
  · rw [if_neg hj, if_neg hj]
theorem lo_congr {xs ys : List Int} : ∀ {i : Nat}, (∀ j, j < i → dig xs j = dig ys j) → lo xs i = lo ys i
  | 0, _ => rfl
  | i + 1, h => by rw [lo, lo, lo_congr (fun j hj => h j (by omega)), h i (by omega)]
theorem lo_set (ys : List Int) (i : Nat) (v : Int) (h : i < ys.length) : lo (ys.set (ys.length - 1 - i) v) (i + 1) = lo ys i + v * 256 ^ i := by
  rw [lo, dig_set_self ys i v h, lo_congr (fun j hj => dig_set_ne ys i j v h (by omega))]
theorem byt_set {ys : List Int} (h : Byt ys) (q : Nat) (v : Int) (h0 : 0 ≤ v) (h1 : v < 256) : Byt (ys.set q v) := by
  intro i
  by_cases e : q = i
  · subst e
    by_cases hq : q < ys.length
    · rw [getD_set_self _ _ _ hq]; exact ⟨h0, h1⟩
    · have := h q
      rwa [List.set_eq_of_length_le (by omega)]
  · rw [getD_set_ne _ _ _ _ e]; exact h i
theorem byt_zeros (n : Nat) : Byt (List.replicate n 0) := by
  intro i
  by_cases h : i < n <;> simp [h]
theorem dig_past (xs : List Int) (i : Nat) (h : xs.length ≤ i) : dig xs i = 0 := by unfold dig; rw [if_neg (by omega)]

/-- The model's sum: i digits are laid, c is carried. -/
def AddTo (xs us ys : List Int) (n i : Nat) (c : Int) : Prop :=
  ys.length = n + 1 ∧ Byt ys ∧ (0 ≤ c ∧ c ≤ 1) ∧ lo ys i + c * 256 ^ i = lo xs i + lo us i
theorem AddTo.step {xs us ys : List Int} {n i : Nat} {c : Int} (h : AddTo xs us ys n i c) (hx : Byt xs) (hu : Byt us) (hi : i ≤ n) :
    AddTo xs us (ys.set (n - i) ((dig xs i + dig us i + c) % 256)) n (i + 1) ((dig xs i + dig us i + c) / 256) := by
  obtain ⟨h1, h2, h3, h4⟩ := h
  have d1 := dig_byt hx i
  have d2 := dig_byt hu i
  refine ⟨by simpa using h1, byt_set h2 _ _ (by omega) (by omega), ⟨by omega, by omega⟩, ?_⟩
  rw [show n - i = ys.length - 1 - i by omega, lo_set ys i _ (by omega), lo, lo, Int.pow_succ]
  generalize hv : dig xs i + dig us i + c = v at *
  have e : v = v % 256 + v / 256 * 256 := by omega
  have e2 : v * 256 ^ i = (v % 256) * 256 ^ i + v / 256 * (256 ^ i * 256) := by
    conv => lhs; rw [e]
    rw [Int.add_mul, Int.mul_assoc, Int.mul_comm 256]
  have e3 : v * 256 ^ i = dig xs i * 256 ^ i + dig us i * 256 ^ i + c * 256 ^ i := by rw [← hv, Int.add_mul, Int.add_mul]
  omega
theorem AddTo.done {xs us ys : List Int} {n : Nat} {c : Int} (h : AddTo xs us ys n (n + 1) c) (hx : xs.length ≤ n) (hu : us.length ≤ n) (hc : c = 0) : bval ys = bval xs + bval us := by
  obtain ⟨h1, h2, h3, h4⟩ := h
  rw [lo_all ys _ (by omega), lo_all xs _ (by omega), lo_all us _ (by omega), hc] at h4
  omega

/-! ### limbs, from below -/
def llo (zs : List Int) : Nat → Int
  | 0 => 0
  | i + 1 => llo zs i + zs.getD i 0 * 4294967296 ^ i
theorem llo_congr {xs ys : List Int} : ∀ {i : Nat}, (∀ j, j < i → xs.getD j 0 = ys.getD j 0) → llo xs i = llo ys i
  | 0, _ => rfl
  | i + 1, h => by rw [llo, llo, llo_congr (fun j hj => h j (by omega)), h i (by omega)]
theorem llo_set (zs : List Int) (i : Nat) (v : Int) (h : i < zs.length) : llo (zs.set i v) (i + 1) = llo zs i + v * 4294967296 ^ i := by
  rw [llo, getD_set_self _ _ _ h, llo_congr (fun j hj => getD_set_ne _ _ _ _ (by omega))]
theorem lval_llo (zs : List Int) : ∀ i, lval zs = llo zs i + lhi zs i * 4294967296 ^ i
  | 0 => by simp [llo, lhi_zero]
  | i + 1 => by
    rw [lval_llo zs i, lhi_step zs i, llo, Int.pow_succ, Int.add_mul, Int.mul_comm 4294967296 (lhi zs (i + 1)), Int.mul_assoc, Int.mul_comm 4294967296]
    omega
theorem llo_all (zs : List Int) (i : Nat) (h : zs.length ≤ i) : llo zs i = lval zs := by
  rw [lval_llo zs i, lhi_past zs i h]; omega

/-- A sum in place: i limbs are laid, c is carried. -/
def LAddTo (zs ms ys : List Int) (i : Nat) (c : Int) : Prop :=
  ys.length = zs.length ∧ Lmb ys ∧ (0 ≤ c ∧ c ≤ 1) ∧ llo ys i + c * 4294967296 ^ i = llo zs i + llo ms i ∧ ∀ j, i ≤ j → ys.getD j 0 = zs.getD j 0
theorem LAddTo.zero {zs : List Int} (ms : List Int) (h : Lmb zs) : LAddTo zs ms zs 0 0 := ⟨rfl, h, ⟨by omega, by omega⟩, rfl, fun _ _ => rfl⟩
theorem LAddTo.step {zs ms ys : List Int} {i : Nat} {c : Int} (h : LAddTo zs ms ys i c) (hz : Lmb zs) (hm : Lmb ms) (hi : i < zs.length) :
    LAddTo zs ms (ys.set i ((c + zs.getD i 0 + ms.getD i 0) % 4294967296)) (i + 1) ((c + zs.getD i 0 + ms.getD i 0) / 4294967296) := by
  obtain ⟨h1, h2, h3, h4, h5⟩ := h
  have d1 := hz i
  have d2 := hm i
  refine ⟨by simpa using h1, lmb_set h2 _ _ (by omega) (by omega), ⟨by omega, by omega⟩, ?_, fun j hj => by rw [getD_set_ne _ _ _ _ (by omega)]; exact h5 j (by omega)⟩
  rw [llo_set ys i _ (by omega), llo, llo, Int.pow_succ]
  generalize hv : c + zs.getD i 0 + ms.getD i 0 = v at *
  have e : v = v % 4294967296 + v / 4294967296 * 4294967296 := by omega
  have e2 : v * 4294967296 ^ i = (v % 4294967296) * 4294967296 ^ i + v / 4294967296 * (4294967296 ^ i * 4294967296) := by
    conv => lhs; rw [e]
    rw [Int.add_mul, Int.mul_assoc, Int.mul_comm 4294967296 (4294967296 ^ i)]
  have e3 : v * 4294967296 ^ i = c * 4294967296 ^ i + zs.getD i 0 * 4294967296 ^ i + ms.getD i 0 * 4294967296 ^ i := by rw [← hv, Int.add_mul, Int.add_mul]
  omega
theorem LAddTo.done {zs ms ys : List Int} {c : Int} (h : LAddTo zs ms ys zs.length c) (hm : ms.length ≤ zs.length) : lval ys + c * 4294967296 ^ zs.length = lval zs + lval ms := by
  obtain ⟨h1, h2, h3, h4, h5⟩ := h
  rw [llo_all ys _ (by omega), llo_all zs _ (Nat.le_refl _), llo_all ms _ hm] at h4
  exact h4

/-! ### limbs into bytes -/
/-- Byte i of the limbs. -/
def lb (zs : List Int) (i : Nat) : Int := zs.getD (i / 4) 0 / 256 ^ (i % 4) % 256
/-- k digits are laid. -/
def DigTo (f : Nat → Int) (ys : List Int) (n k : Nat) : Prop := ys.length = n ∧ Byt ys ∧ ∀ j, j < k → dig ys j = f j
theorem DigTo.step {f : Nat → Int} {ys : List Int} {n k : Nat} (h : DigTo f ys n k) (hk : k < n) (h0 : 0 ≤ f k) (h1 : f k < 256) : DigTo f (ys.set (n - 1 - k) (f k)) n (k + 1) := by
  obtain ⟨e, hb, hd⟩ := h
  subst e
  refine ⟨by simp, byt_set hb _ _ h0 h1, fun j hj => ?_⟩
  by_cases e : j = k
  · subst e
    exact dig_set_self ys j _ hk
  · rw [dig_set_ne ys k j _ hk e]
    exact hd j (by omega)
theorem lo_lb {zs ys : List Int} (hz : Lmb zs) (hd : ∀ j, j < 4 * zs.length → dig ys j = lb zs j) : ∀ q, q ≤ zs.length → lo ys (4 * q) = llo zs q
  | 0, _ => rfl
  | q + 1, h => by
    have ih := lo_lb hz hd q (by omega)
    have hzq := hz q
    rw [show 4 * (q + 1) = 4 * q + 1 + 1 + 1 + 1 by omega, lo, lo, lo, lo, ih, llo]
    rw [hd (4 * q) (by omega), hd (4 * q + 1) (by omega), hd (4 * q + 1 + 1) (by omega), hd (4 * q + 1 + 1 + 1) (by omega)]
    unfold lb
    rw [show 4 * q / 4 = q by omega, show (4 * q + 1) / 4 = q by omega, show (4 * q + 1 + 1) / 4 = q by omega, show (4 * q + 1 + 1 + 1) / 4 = q by omega,
      show 4 * q % 4 = 0 by omega, show (4 * q + 1) % 4 = 1 by omega, show (4 * q + 1 + 1) % 4 = 2 by omega, show (4 * q + 1 + 1 + 1) % 4 = 3 by omega]
    have p0 : (256 : Int) ^ (4 * q) = 4294967296 ^ q := by
      have := p256_4 0 q
      simpa using this
    have p1 : (256 : Int) ^ (4 * q + 1) = 4294967296 ^ q * 256 := by rw [Int.pow_succ, p0]
    have p2 : (256 : Int) ^ (4 * q + 1 + 1) = 4294967296 ^ q * 65536 := by rw [Int.pow_succ, p1]; omega
    have p3 : (256 : Int) ^ (4 * q + 1 + 1 + 1) = 4294967296 ^ q * 16777216 := by rw [Int.pow_succ, p2]; omega
    rw [p3, p2, p1, p0]
    clear p0 p1 p2 p3 ih
    generalize zs.getD q 0 = z at *
    generalize (4294967296 : Int) ^ q = p at *
    have e : z = z / 256 ^ 0 % 256 + z / 256 ^ 1 % 256 * 256 + z / 256 ^ 2 % 256 * 65536 + z / 256 ^ 3 % 256 * 16777216 := by
      simp
      omega
    generalize z / 256 ^ 0 % 256 = b0 at *
    generalize z / 256 ^ 1 % 256 = b1 at *
    generalize z / 256 ^ 2 % 256 = b2 at *
    generalize z / 256 ^ 3 % 256 = b3 at *
    subst e
    rw [Int.add_mul, Int.add_mul, Int.add_mul, Int.mul_right_comm b1, Int.mul_right_comm b2, Int.mul_right_comm b3, ← Int.mul_assoc b1, ← Int.mul_assoc b2, ← Int.mul_assoc b3]
    omega
theorem DigTo.val {zs ys : List Int} (h : DigTo (lb zs) ys (4 * zs.length) (4 * zs.length)) (hz : Lmb zs) : bval ys = lval zs := by
  rw [← lo_all ys (4 * zs.length) (by rw [h.1]; exact Nat.le_refl _), lo_lb hz h.2.2 zs.length (Nat.le_refl _), llo_all zs _ (Nat.le_refl _)]
end Go.Proofs.YthapcapiiknjdaaDoor

/-
  The contracts of the model's small functions of chapter 1: a digit, a comparison, the limit.
-/
namespace Go.Proofs.YthapcapiiknjdaaDoor
set_option maxRecDepth 100000
open Go.RowKit

set_option maxHeartbeats 400000 in
theorem l1Digit_any (w : World) (g : Nat) (a : Option Addr) (cap : Nat) (xs : List Int) (i : Int) (hr : Rd w g a .u8 xs) (hb : Byt xs) (hn : xs.length ≤ 1048576) (h0 : 0 ≤ i) (h1 : i ≤ 1099511627776) :
    Calls Tryd.prog 111 #[.slice a xs.length cap, .int .i64 i] w fun e w' => e = .returned (.int .i64 (dig xs i.toNat)) ∧ w' = w := by
  obtain ⟨j, rfl⟩ := Int.eq_ofNat_of_zero_le h0
  rw [Int.toNat_natCast]
  by_cases hlt : j < xs.length
  · obtain ⟨off, rfl, hc⟩ := hr (by omega)
    have hcx := hc (xs.length - 1 - j) (by omega)
    have hx := hb (xs.length - 1 - j)
    have hd : dig xs j = xs.getD (xs.length - 1 - j) 0 := by simp [dig, hlt]
    rw [hd]
    clear hd hc
    generalize xs.getD (xs.length - 1 - j) 0 = x at *
    obtain ⟨m, hm⟩ : ∃ m : Nat, m = xs.length - 1 - j := ⟨_, rfl⟩
    rw [← hm] at hcx
    have hi1 : (0 : Int) ≤ (xs.length : Int) - 1 - (j : Int) := by omega
    have hi2 : (xs.length : Int) - 1 - (j : Int) < (xs.length : Int) := by omega
    have hi3 : ((xs.length : Int) - 1 - (j : Int)).toNat = m := by omega
    clear hm
    go_enter Tryd.func111, Tryd.ntmps111
    go_wp2
    go_ret
    exact ⟨rfl, rfl⟩
  · have hd : dig xs j = 0 := by simp [dig, hlt]
    rw [hd]
    clear hd
    go_enter Tryd.func111, Tryd.ntmps111
    go_wp2
    go_ret
    exact ⟨rfl, rfl⟩

/-- Above place k the two are one. -/
def HiEq (a b : List Int) (k : Nat) : Prop := hi a k = hi b k

set_option maxHeartbeats 1000000 in
set_option maxRecDepth 100000 in
theorem l1Cmp_any (w : World) (g g' : Nat) (a b : Option Addr) (ca cb : Nat) (xs ys : List Int) (ha : Rd w g a .u8 xs) (hb : Rd w g' b .u8 ys) (hx : Byt xs) (hy : Byt ys)
    (hn : xs.length ≤ 1048576) (hm : ys.length ≤ 1048576) :
    Calls Tryd.prog 92 #[.slice a xs.length ca, .slice b ys.length cb] w fun e w' => e = .returned (.int .i64 (sg (bval xs) (bval ys))) ∧ w' = w := by
  by_cases hlen : xs.length < ys.length
  all_goals
    go_enter Tryd.func92, Tryd.ntmps92
    go_wp2
    go_loop [6] (fun i => ∃ t : Int, i = .int .i64 t ∧ -1 ≤ t ∧ t < 1048576 ∧ HiEq xs ys (t + 1).toNat) (fun i => (intOf i + 1).toNat)
    case atStart =>
      refine ⟨_, rfl, by omega, by omega, ?_⟩
      unfold HiEq
      rw [hi_past _ _ (by omega), hi_past _ _ (by omega)]
    case round =>
      obtain ⟨t, rfl, ht0, ht1, he⟩ := hrel
      by_cases ht : 0 ≤ t
      · obtain ⟨j, rfl⟩ := Int.eq_ofNat_of_zero_le ht
        have he' : HiEq xs ys (j + 1) := he
        clear he ht0
        have s1 := hi_step xs j
        have s2 := hi_step ys j
        have R1 : dig xs j < dig ys j → sg (bval xs) (bval ys) = -1 := fun h => sg_lt (hi_lt hx hy j (by unfold HiEq at he'; omega))
        have R2 : dig ys j < dig xs j → sg (bval xs) (bval ys) = 1 := fun h => sg_gt (hi_lt hy hx j (by unfold HiEq at he'; omega))
        have R3 : dig xs j = dig ys j → HiEq xs ys j := fun h => by unfold HiEq at he' ⊢; omega
        clear s1 s2 he'
        go_wp2_with fail
        refine (l1Digit_any w g a ca xs _ ha hx hn (by omega) (by omega)).mono ?_
        rintro e w' ⟨rfl, rfl⟩
        rw [Int.toNat_natCast]
        go_wp2_with fail
        refine (l1Digit_any w' g' b cb ys _ hb hy hm (by omega) (by omega)).mono ?_
        rintro e w'' ⟨rfl, rfl⟩
        rw [Int.toNat_natCast]
        generalize dig xs j = x at *
        generalize dig ys j = y at *
        rcases Int.lt_trichotomy x y with h | h | h
        · have R : Hid (sg (bval xs) (bval ys) = -1) := R1 h
          clear R1 R2 R3
          go_wp2
          go_ret
          exact ⟨ret_int R.out.symm, rfl⟩
        · have R := R3 h
          subst h
          clear R1 R2 R3
          go_wp2
          go_round
          case rel => exact ⟨_, rfl, by omega, by omega, by simpa using R⟩
          case measure => simp [intOf]
        · have h1 : decide (x < y) = false := by simp; omega
          clear R1 R3
          go_wp2
          go_ret
          exact ⟨ret_int (R2 h).symm, rfl⟩
      · obtain rfl : t = -1 := by omega
        have R : Hid (sg (bval xs) (bval ys) = 0) := sg_eq (by simpa [HiEq, hi_zero] using he)
        go_wp2
        go_ret
        exact ⟨ret_int R.out.symm, rfl⟩
end Go.Proofs.YthapcapiiknjdaaDoor

/-
  The model's small functions of chapter 1 (those that chapter 2 takes): copy, trim, add, little.
-/
namespace Go.Proofs.YthapcapiiknjdaaDoor
set_option maxRecDepth 100000
open Go.RowKit

set_option maxHeartbeats 400000 in
theorem l1Copy_any (w : World) (g : Nat) (a : Option Addr) (cap : Nat) (xs : List Int) (hr : Rd w g a .u8 xs) (hc : a = none → cap = 0) (hn : xs.length ≤ 1048576) :
    Calls Tryd.prog 63 #[.slice a xs.length cap] w fun e w' => NewRow w.heap.size w' e .u8 xs ∧ Below w.heap.size w w' := by
  obtain ⟨i0, hi, hz0, hz1, hz2⟩ := info_parts Tryd.info5
  have hown : (w.alloc (.cells #[] 5)).ownsRow w.heap.size 5 1 (.slice (some ⟨w.heap.size, 0, none⟩) 0 0) 0 [] := World.ownsRow_lit w #[] 0 (Nat.le_refl _) (by unfold maxLen; omega) (by simp)
  have hal : Below w.heap.size w (w.alloc (.cells #[] 5)) := (Below.refl _ _).alloc (Nat.le_refl _) _
  cases a with
  | none =>
    obtain rfl : xs = [] := by
      by_cases h0 : 0 < xs.length
      · obtain ⟨off, h, _⟩ := hr h0
        simp at h
      · exact List.eq_nil_of_length_eq_zero (by omega)
    obtain rfl := hc rfl
    go_enter Tryd.func63, Tryd.ntmps63
    go_wp2_with (at_builtin; refine wpList_append_own_none rfl _ _ 22 rfl w.heap.size 5 i0 1 Tryd.underlying22 hi _ 0 [] rfl hown rfl ?_)
    go_ret
    exact ⟨⟨_, _, w.heap.size, rfl, Own.nil _ _ _ _, by simp, Nat.zero_le _, Nat.le_refl _⟩, hal⟩
  | some ad =>
    have hcell : ∀ j u, (xs.map (Value.int .u8))[j]? = some u → (w.alloc (.cells #[] 5)).cell? (ad.add j) = some u := by
      intro j u hj
      have hjl : j < xs.length := by
        have := (List.getElem?_eq_some_iff.1 hj).1
        simpa using this
      obtain ⟨off, ha, hcc⟩ := (hr.up hal) (by omega)
      simp only [Option.some.injEq] at ha
      subst ha
      rw [Addr.add_mid, hcc j hjl]
      simpa [hjl] using hj
    have hone : ∀ u ∈ xs.map (Value.int .u8), u.oneCell' = true := by
      intro u hu
      obtain ⟨x, _, rfl⟩ := List.mem_map.1 hu
      rfl
    go_enter Tryd.func63, Tryd.ntmps63
    go_wp2_with (at_builtin; refine wpList_append_own _ rfl _ _ 22 rfl w.heap.size 5 i0 (.int .u8 0) 1 1 Tryd.underlying22 hi hz0 hz1 hz2 rfl (by decide) (.slice (some ⟨w.heap.size, 0, none⟩) 0 0) 0 [] rfl hown ad xs.length cap (xs.map (Value.int .u8)) rfl (by simp) hcell hone (by unfold maxLen; omega) (by omega) (by simp) ?_; intro v' w1 hown' hgrow _)
    simp only [Nat.zero_add, List.nil_append] at hown'
    obtain ⟨a', c', g', rfl, h1, h2, h3, h4⟩ := Own.of_ownsRow hown'
    have hB : Below w.heap.size w w1 := hal.grown hgrow (by simp) (by intro k hk; simp [Value.ownBlock] at hk; omega)
    clear hown' hgrow hown
    go_wp2
    go_ret
    exact ⟨⟨_, _, g', rfl, h1, h2, h3, h4⟩, hB⟩

set_option maxHeartbeats 400000 in
theorem l1Trim_any (w : World) (g : Nat) (a : Option Addr) (cap : Nat) (xs : List Int) (hr : Rd w g a .u8 xs) (hb : Byt xs) (hc : a = none → cap = 0) (hcap : xs.length ≤ cap) (hn : xs.length ≤ 1048576) :
    Calls Tryd.prog 123 #[.slice a xs.length cap] w fun e w' => ∃ ys, Canon ys (bval xs) ∧ ys.length ≤ xs.length ∧ NewRow w.heap.size w' e .u8 ys ∧ Below w.heap.size w w' := by
  go_enter Tryd.func123, Tryd.ntmps123
  go_wp2
  go_loop [3] (fun i => ∃ k : Nat, k ≤ xs.length ∧ i = .int .i64 k ∧ ZeroTo xs k) (fun i => xs.length - (intOf i).toNat)
  case atStart => exact ⟨0, Nat.zero_le _, rfl, fun j hj => absurd hj (by omega)⟩
  case round =>
    obtain ⟨k, hk, rfl, hz⟩ := hrel
    by_cases hlt : k < xs.length
    · obtain ⟨off, rfl, hcc⟩ := hr (by omega)
      have hcx := hcc k hlt
      have R := hz.step
      obtain ⟨x, hx⟩ : ∃ x, x = xs.getD k 0 := ⟨_, rfl⟩
      rw [← hx] at hcx R
      have Hx : Hid (x = xs.getD k 0) := hx
      clear hx
      by_cases h0 : x = 0
      · have R' := R h0
        subst h0
        clear R hcc Hx hz
        go_wp2
        go_round
        case rel => exact ⟨k + 1, by omega, by go_num, R'⟩
        case measure => simp [intOf]; omega
      · have h1 : (x == 0) = false := by simp [h0]
        have C := hz.canon hb (fun _ => by rw [← Hx.out]; exact h0)
        have hr' : Rd w g (some ⟨g, off + k, none⟩) .u8 (xs.drop k) := by
          intro _
          refine ⟨off + k, rfl, fun i hi => ?_⟩
          rw [List.length_drop] at hi
          rw [Nat.add_assoc, hcc (k + i) (by omega)]
          simp [List.getElem?_drop]
        have K := l1Copy_any w g (some ⟨g, off + k, none⟩) (cap - k) (xs.drop k) hr' (by simp) (by rw [List.length_drop]; omega)
        rw [List.length_drop] at K
        have HK := hide K
        clear R hcc Hx hz K
        go_wp2_with fail
        refine (unhide HK).mono ?_
        rintro e w1 ⟨⟨a1, c1, g1, rfl, o1, q1, q2, q3⟩, n1⟩
        go_wp2
        go_ret
        exact ⟨_, C, by rw [List.length_drop]; omega, ⟨_, _, _, ret_slice (List.length_drop).symm, o1, q1, q2, q3⟩, n1⟩
    · obtain rfl : k = xs.length := by omega
      have C := hz.canon hb (fun h => absurd h (by omega))
      rw [List.drop_length] at C
      go_wp2_with fail
      · have K := l1Copy_any w 0 a 0 [] (Rd.nil _ _ _ _) (fun _ => rfl) (by simp)
        refine K.mono ?_
        rintro e w1 ⟨⟨a1, c1, g1, rfl, o1, q1, q2, q3⟩, n1⟩
        go_wp2
        go_ret
        exact ⟨_, C, Nat.zero_le _, ⟨_, _, _, rfl, o1, q1, q2, q3⟩, n1⟩
      · have K := l1Copy_any w 0 (Option.map (fun x => x.add xs.length) a) (cap - xs.length) [] (Rd.nil _ _ _ _) (fun h => by simp at h; rw [hc h]; omega) (by simp)
        refine K.mono ?_
        rintro e w1 ⟨⟨a1, c1, g1, rfl, o1, q1, q2, q3⟩, n1⟩
        go_wp2
        go_ret
        exact ⟨_, C, Nat.zero_le _, ⟨_, _, _, rfl, o1, q1, q2, q3⟩, n1⟩

set_option maxHeartbeats 2000000 in
theorem l1Add_any (w : World) (g g' : Nat) (a b : Option Addr) (ca cb : Nat) (xs us : List Int) (ha : Rd w g a .u8 xs) (hb : Rd w g' b .u8 us) (hx : Byt xs) (hu : Byt us)
    (hn : xs.length ≤ 4096) (hm : us.length ≤ 4096) :
    Calls Tryd.prog 88 #[.slice a xs.length ca, .slice b us.length cb] w fun e w' => ∃ ys, Canon ys (bval xs + bval us) ∧ NewRow w.heap.size w' e .u8 ys ∧ Below w.heap.size w w' := by
  obtain ⟨i0, hi, hz0, hz1, hz2⟩ := info_parts Tryd.info5
  by_cases hlen : xs.length < us.length
  · have t0 : decide ((xs.length : Int) < (us.length : Int)) = true := by simp; omega
    go_enter Tryd.func88, Tryd.ntmps88
    go_wp2_with (at_make; refine wpList_make_full _ rfl _ _ 22 rfl w.heap.size 5 i0 (.int .u8 0) 1 Tryd.underlying22 hi hz0 hz1 .i64 .i64 _ _ (us.length + 1) rfl rfl (by omega) (by omega) (by rw [hz2]; omega) (by unfold maxLen; omega) (Nat.le_refl _) ?_; intro w1 hown hgrow)
    have hB0 := Blk.of_made hown
    have hN0 : Below w.heap.size w w1 := (Below.refl _ _).grown hgrow (Nat.le_refl _) (by simp)
    clear hown hgrow
    go_loopw [7, 8] (fun q i wr => ∃ (k : Nat) (c : Int) (ys : List Int), k ≤ us.length + 1 ∧ i = .int .i64 k ∧ q = .int .i64 c ∧ (0 ≤ c ∧ c ≤ 1) ∧ (us.length < k → c = 0) ∧ AddTo xs us ys us.length k c ∧ Blk wr w.heap.size .u8 ys ∧ Below w.heap.size w wr) (fun _ i _ => us.length + 1 - (intOf i).toNat)
    case atStart => exact ⟨0, 0, _, Nat.zero_le _, rfl, rfl, ⟨by omega, by omega⟩, fun _ => rfl, ⟨by simp, byt_zeros _, ⟨by omega, by omega⟩, rfl⟩, hB0, hN0⟩
    case round =>
      obtain ⟨k, c, ys, hk, rfl, rfl, hc, hc0, hA, hB, hN⟩ := hrel
      by_cases hlt : k ≤ us.length
      · have R := hA.step hx hu hlt
        have hl : ys.length = us.length + 1 := hA.1
        have hcy : wr.cell? ⟨w.heap.size, us.length - k, none⟩ = some (.int .u8 (ys.getD (us.length - k) 0)) := hB.cell (by omega)
        have hfy := hB.free (us.length - k)
        have hB' := hB.store (us.length - k) ((dig xs k + dig us k + c) % 256)
        have hN' : Below w.heap.size w (wr.setCell ⟨w.heap.size, us.length - k, none⟩ (.int .u8 ((dig xs k + dig us k + c) % 256))) := hN.setCell (Nat.le_refl _) _
        have d1 := dig_byt hx k
        have d2 := dig_byt hu k
        have z1 : us.length < k + 1 → (dig xs k + dig us k + c) / 256 = 0 := fun h => by rw [dig_past xs k (by omega), dig_past us k (by omega)]; omega
        obtain ⟨p, hp⟩ : ∃ p : Nat, us.length - k = p := ⟨_, rfl⟩
        rw [hp] at hcy hfy hB' hN' R
        have p1 : (us.length : Int) - (k : Int) = (p : Int) := by omega
        have p2 : (p : Int) < (us.length : Int) + 1 := by omega
        have ha' := ha.up hN
        have hb' := hb.up hN
        clear hB hN hA hl hp hc0
        go_wp2_with fail
        refine (l1Digit_any wr g a ca xs _ ha' hx (by omega) (by omega) (by omega)).mono ?_
        rintro e w' ⟨rfl, rfl⟩
        rw [Int.toNat_natCast]
        go_wp2_with fail
        refine (l1Digit_any w' g' b cb us _ hb' hu (by omega) (by omega) (by omega)).mono ?_
        rintro e w'' ⟨rfl, rfl⟩
        rw [Int.toNat_natCast]
        generalize dig xs k = x at *
        generalize dig us k = y at *
        have m1 : (x + y + c) % 256 % 256 = (x + y + c) % 256 := by omega
        have R' := hide R
        have z1' := hide z1
        clear R z1
        go_wp2
        go_roundw
        case rel => exact ⟨k + 1, _, _, by omega, by go_num, rfl, ⟨by omega, by omega⟩, z1'.out, R'.out, hB', hN'⟩
        case measure => simp [intOf]; omega
      · obtain rfl : k = us.length + 1 := by omega
        have v := hA.done (Nat.le_of_lt_succ (by omega)) (Nat.le_of_lt_succ (by omega)) (hc0 (by omega))
        have hl : us.length + 1 = ys.length := hA.1.symm
        have V := hide v
        have L := hide hl
        have hyb := hA.2.1
        clear v hl hA hc0
        go_wp2_with fail
        rw [L.out]
        refine (l1Trim_any wr _ _ _ ys hB.own0.rd hyb (by simp) (Nat.le_refl _) (by rw [← L.out]; omega)).mono ?_
        rintro e w2 ⟨zs, C, _, ⟨a1, c1, g1, rfl, o1, q1, q2, q3⟩, n2⟩
        rw [V.out] at C
        go_wp2
        go_ret
        exact ⟨zs, C, ⟨_, _, _, rfl, o1, q1, q2, by have := hN.size; omega⟩, nxt hN n2⟩
  · have t0 : decide ((xs.length : Int) < (us.length : Int)) = false := by simp; omega
    go_enter Tryd.func88, Tryd.ntmps88
    go_wp2_with (at_make; refine wpList_make_full _ rfl _ _ 22 rfl w.heap.size 5 i0 (.int .u8 0) 1 Tryd.underlying22 hi hz0 hz1 .i64 .i64 _ _ (xs.length + 1) rfl rfl (by omega) (by omega) (by rw [hz2]; omega) (by unfold maxLen; omega) (Nat.le_refl _) ?_; intro w1 hown hgrow)
    have hB0 := Blk.of_made hown
    have hN0 : Below w.heap.size w w1 := (Below.refl _ _).grown hgrow (Nat.le_refl _) (by simp)
    clear hown hgrow
    go_loopw [7, 8] (fun q i wr => ∃ (k : Nat) (c : Int) (ys : List Int), k ≤ xs.length + 1 ∧ i = .int .i64 k ∧ q = .int .i64 c ∧ (0 ≤ c ∧ c ≤ 1) ∧ (xs.length < k → c = 0) ∧ AddTo xs us ys xs.length k c ∧ Blk wr w.heap.size .u8 ys ∧ Below w.heap.size w wr) (fun _ i _ => xs.length + 1 - (intOf i).toNat)
    case atStart => exact ⟨0, 0, _, Nat.zero_le _, rfl, rfl, ⟨by omega, by omega⟩, fun _ => rfl, ⟨by simp, byt_zeros _, ⟨by omega, by omega⟩, rfl⟩, hB0, hN0⟩
    case round =>
      obtain ⟨k, c, ys, hk, rfl, rfl, hc, hc0, hA, hB, hN⟩ := hrel
      by_cases hlt : k ≤ xs.length
      · have R := hA.step hx hu hlt
        have hl : ys.length = xs.length + 1 := hA.1
        have hcy : wr.cell? ⟨w.heap.size, xs.length - k, none⟩ = some (.int .u8 (ys.getD (xs.length - k) 0)) := hB.cell (by omega)
        have hfy := hB.free (xs.length - k)
        have hB' := hB.store (xs.length - k) ((dig xs k + dig us k + c) % 256)
        have hN' : Below w.heap.size w (wr.setCell ⟨w.heap.size, xs.length - k, none⟩ (.int .u8 ((dig xs k + dig us k + c) % 256))) := hN.setCell (Nat.le_refl _) _
        have d1 := dig_byt hx k
        have d2 := dig_byt hu k
        have z1 : xs.length < k + 1 → (dig xs k + dig us k + c) / 256 = 0 := fun h => by rw [dig_past xs k (by omega), dig_past us k (by omega)]; omega
        obtain ⟨p, hp⟩ : ∃ p : Nat, xs.length - k = p := ⟨_, rfl⟩
        rw [hp] at hcy hfy hB' hN' R
        have p1 : (xs.length : Int) - (k : Int) = (p : Int) := by omega
        have p2 : (p : Int) < (xs.length : Int) + 1 := by omega
        have ha' := ha.up hN
        have hb' := hb.up hN
        clear hB hN hA hl hp hc0
        go_wp2_with fail
        refine (l1Digit_any wr g a ca xs _ ha' hx (by omega) (by omega) (by omega)).mono ?_
        rintro e w' ⟨rfl, rfl⟩
        rw [Int.toNat_natCast]
        go_wp2_with fail
        refine (l1Digit_any w' g' b cb us _ hb' hu (by omega) (by omega) (by omega)).mono ?_
        rintro e w'' ⟨rfl, rfl⟩
        rw [Int.toNat_natCast]
        generalize dig xs k = x at *
        generalize dig us k = y at *
        have m1 : (x + y + c) % 256 % 256 = (x + y + c) % 256 := by omega
        have R' := hide R
        have z1' := hide z1
        clear R z1
        go_wp2
        go_roundw
        case rel => exact ⟨k + 1, _, _, by omega, by go_num, rfl, ⟨by omega, by omega⟩, z1'.out, R'.out, hB', hN'⟩
        case measure => simp [intOf]; omega
      · obtain rfl : k = xs.length + 1 := by omega
        have v := hA.done (Nat.le_of_lt_succ (by omega)) (Nat.le_of_lt_succ (by omega)) (hc0 (by omega))
        have hl : xs.length + 1 = ys.length := hA.1.symm
        have V := hide v
        have L := hide hl
        have hyb := hA.2.1
        clear v hl hA hc0
        go_wp2_with fail
        rw [L.out]
        refine (l1Trim_any wr _ _ _ ys hB.own0.rd hyb (by simp) (Nat.le_refl _) (by rw [← L.out]; omega)).mono ?_
        rintro e w2 ⟨zs, C, _, ⟨a1, c1, g1, rfl, o1, q1, q2, q3⟩, n2⟩
        rw [V.out] at C
        go_wp2
        go_ret
        exact ⟨zs, C, ⟨_, _, _, rfl, o1, q1, q2, by have := hN.size; omega⟩, nxt hN n2⟩

set_option maxHeartbeats 1000000 in
theorem l1Little_any (w : World) (g : Nat) (a : Option Addr) (cap : Nat) (xs : List Int) (n : Nat) (hr : Rd w g a .u8 xs) (hb : Byt xs) (hn : xs.length ≤ 1048576) (hm : n ≤ 1048576) :
    Calls Tryd.prog 84 #[.slice a xs.length cap, .int .i64 n] w fun e w' => e = .returned (.slice (some ⟨w.heap.size, 0, none⟩) n n) ∧ Blk w' w.heap.size .u8 (fill (dig xs) n) ∧ Below w.heap.size w w' := by
  obtain ⟨i0, hi, hz0, hz1, hz2⟩ := info_parts Tryd.info5
  go_enter Tryd.func84, Tryd.ntmps84
  go_wp2_with (at_make; refine wpList_make_full _ rfl _ _ 22 rfl w.heap.size 5 i0 (.int .u8 0) 1 Tryd.underlying22 hi hz0 hz1 .i64 .i64 _ _ n rfl rfl rfl rfl (by rw [hz2]; omega) (by unfold maxLen; omega) (Nat.le_refl _) ?_; intro w1 hown hgrow)
  have hB0 := Blk.of_made hown
  have hN0 : Below w.heap.size w w1 := (Below.refl _ _).grown hgrow (Nat.le_refl _) (by simp)
  clear hown hgrow
  go_loopw [6] (fun i wr => ∃ (k : Nat) (ys : List Int), k ≤ n ∧ i = .int .i64 k ∧ FillTo (dig xs) ys n k ∧ Blk wr w.heap.size .u8 ys ∧ Below w.heap.size w wr) (fun i _ => n - (intOf i).toNat)
  case atStart => exact ⟨0, _, Nat.zero_le _, rfl, ⟨by simp, fun j h => absurd h (by omega)⟩, hB0, hN0⟩
  case round =>
    obtain ⟨k, ys, hk, rfl, hcp, hB, hN⟩ := hrel
    by_cases hlt : k < n
    · have R := hcp.step hlt
      have hcy : wr.cell? ⟨w.heap.size, k, none⟩ = some (.int .u8 (ys.getD k 0)) := hB.cell (by rw [hcp.1]; exact hlt)
      have hfy := hB.free k
      have hB' := hB.store k (dig xs k)
      have hN' : Below w.heap.size w (wr.setCell ⟨w.heap.size, k, none⟩ (.int .u8 (dig xs k))) := hN.setCell (Nat.le_refl _) _
      have hr' := hr.up hN
      have hd := dig_byt hb k
      have hd' : dig xs k % 256 = dig xs k := by omega
      clear hB hN hcp
      go_wp2_with fail
      refine (l1Digit_any wr g a cap xs _ hr' hb hn (by omega) (by omega)).mono ?_
      rintro e w' ⟨rfl, rfl⟩
      rw [Int.toNat_natCast]
      generalize dig xs k = x at *
      go_wp2
      go_roundw
      case rel => exact ⟨k + 1, _, by omega, by go_num, R, hB', hN'⟩
      case measure => simp [intOf]; omega
    · obtain rfl : k = n := by omega
      go_wp2
      go_ret
      refine ⟨rfl, ?_, hN⟩
      rw [← hcp.all]
      exact hB




end Go.Proofs.YthapcapiiknjdaaDoor

/-
  Differences digit by digit: plain arithmetic.
-/
namespace Go.Proofs.YthapcapiiknjdaaDoor
set_option maxRecDepth 100000

/-- The model's difference: i digits are laid, c is borrowed. -/
def SubTo (xs us ys : List Int) (i : Nat) (c : Int) : Prop :=
  ys.length = xs.length ∧ Byt ys ∧ (0 ≤ c ∧ c ≤ 1) ∧ lo ys i + lo us i = lo xs i + c * 256 ^ i
theorem SubTo.step {xs us ys : List Int} {i : Nat} {c : Int} (h : SubTo xs us ys i c) (hi : i < xs.length) (v c' : Int) (hv : v = dig xs i - dig us i - c + 256 * c') (h0 : 0 ≤ v) (h1 : v < 256) (hc' : 0 ≤ c' ∧ c' ≤ 1) :
    SubTo xs us (ys.set (xs.length - 1 - i) v) (i + 1) c' := by
  obtain ⟨h2, h3, h4, h5⟩ := h
  refine ⟨by simpa using h2, byt_set h3 _ _ h0 h1, hc', ?_⟩
  rw [← h2, lo_set ys i _ (by omega), lo, lo, Int.pow_succ]
  have e : v * 256 ^ i + dig us i * 256 ^ i + c * 256 ^ i = dig xs i * 256 ^ i + c' * (256 ^ i * 256) := by
    rw [hv, ← Int.add_mul, ← Int.add_mul, Int.mul_comm (256 ^ i) 256, ← Int.mul_assoc, ← Int.add_mul]
    congr 1
    omega
  omega
theorem SubTo.done {xs us ys : List Int} {c : Int} (h : SubTo xs us ys xs.length c) (hu : us.length ≤ xs.length) (hle : bval us ≤ bval xs) : bval ys = bval xs - bval us := by
  obtain ⟨h1, h2, h3, h4⟩ := h
  have hb := (lo_bd h2 xs.length).2
  rw [lo_all ys _ (by omega), lo_all xs _ (Nat.le_refl _), lo_all us _ hu] at h4
  rw [lo_all ys _ (by omega)] at hb
  rcases (show c = 0 ∨ c = 1 by omega) with rfl | rfl
  · omega
  · omega

/-- Limbs less T times other limbs, in place: i limbs are laid, b is borrowed, c is carried. -/
def TakeTo (zs ms ys : List Int) (T : Int) (i : Nat) (b c : Int) : Prop :=
  ys.length = zs.length ∧ Lmb ys ∧ (0 ≤ b ∧ b ≤ 1) ∧ (0 ≤ c ∧ c < 4294967296) ∧ llo ys i + T * llo ms i = llo zs i + (b + c) * 4294967296 ^ i ∧ ∀ j, i ≤ j → ys.getD j 0 = zs.getD j 0
theorem TakeTo.zero {zs : List Int} (ms : List Int) (T : Int) (h : Lmb zs) : TakeTo zs ms zs T 0 0 0 := ⟨rfl, h, ⟨by omega, by omega⟩, ⟨by omega, by omega⟩, by simp [llo], fun _ _ => rfl⟩
theorem TakeTo.step {zs ms ys : List Int} {T : Int} {i : Nat} {b c : Int} (h : TakeTo zs ms ys T i b c) (hi : i < zs.length) (y b' c' l : Int) (h1 : c + T * ms.getD i 0 = c' * 4294967296 + l) (h2 : y = zs.getD i 0 - l - b + b' * 4294967296)
    (y0 : 0 ≤ y) (y1 : y < 4294967296) (hb : 0 ≤ b' ∧ b' ≤ 1) (hc : 0 ≤ c' ∧ c' < 4294967296) : TakeTo zs ms (ys.set i y) T (i + 1) b' c' := by
  obtain ⟨e1, e2, e3, e4, e5, e6⟩ := h
  refine ⟨by simpa using e1, lmb_set e2 _ _ y0 y1, hb, hc, ?_, fun j hj => by rw [getD_set_ne _ _ _ _ (by omega)]; exact e6 j (by omega)⟩
  rw [llo_set ys i _ (by omega), llo, llo, Int.pow_succ, Int.mul_add, ← Int.mul_assoc T]
  have e : y * 4294967296 ^ i + T * ms.getD i 0 * 4294967296 ^ i + (b + c) * 4294967296 ^ i = zs.getD i 0 * 4294967296 ^ i + (b' + c') * (4294967296 ^ i * 4294967296) := by
    rw [Int.mul_comm (4294967296 ^ i) 4294967296, ← Int.mul_assoc, ← Int.add_mul, ← Int.add_mul, ← Int.add_mul]
    congr 1
    omega
  omega
theorem TakeTo.done {zs ms ys : List Int} {T : Int} {b c : Int} (h : TakeTo zs ms ys T zs.length b c) (hm : ms.length ≤ zs.length) : lval ys + T * lval ms = lval zs + (b + c) * 4294967296 ^ zs.length := by
  obtain ⟨h1, h2, h3, h4, h5, h6⟩ := h
  rw [llo_all ys _ (by omega), llo_all zs _ (Nat.le_refl _), llo_all ms _ hm] at h5
  exact h5
end Go.Proofs.YthapcapiiknjdaaDoor
