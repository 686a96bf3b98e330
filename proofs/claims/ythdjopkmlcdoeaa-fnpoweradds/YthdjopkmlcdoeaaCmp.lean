/-
  Comparison: limbs against limbs, and the law of NumCompare.
-/
import Derived.Test.YthdjopkmlcdoeaaHelp
import Derived.Test.YthdjopkmlcdoeaaSpecA
import Derived.Test.YthdjopkmlcdoeaaRead
namespace Go.Proofs.Ythdjopkmlcdoeaa
open Go.RowKit

set_option maxHeartbeats 400000 in
theorem cmpInt_any (x y : Int) (w : World) :
    Calls Try.prog 75 #[.int .i64 x, .int .i64 y] w fun e w' => e = .returned (.int .i64 (sg x y)) ∧ w' = w := by
  rcases Int.lt_trichotomy x y with h | h | h
  · rw [sg_lt h]
    have h1 : decide (x < y) = true := by simp [h]
    go_enter Try.func75, Try.ntmps75
    go_wp2
    go_ret
    exact ⟨rfl, rfl⟩
  · subst h
    rw [sg_eq rfl]
    go_enter Try.func75, Try.ntmps75
    go_wp2
    go_ret
    exact ⟨rfl, rfl⟩
  · rw [sg_gt h]
    have h1 : decide (x < y) = false := by simp; omega
    have h2 : decide (y < x) = true := by simp [h]
    go_enter Try.func75, Try.ntmps75
    go_wp2
    go_ret
    exact ⟨rfl, rfl⟩

set_option maxHeartbeats 400000 in
theorem cmpU32_any (x y : Int) (w : World) :
    Calls Try.prog 76 #[.int .u32 x, .int .u32 y] w fun e w' => e = .returned (.int .i64 (sg x y)) ∧ w' = w := by
  rcases Int.lt_trichotomy x y with h | h | h
  · rw [sg_lt h]
    have h1 : decide (x < y) = true := by simp [h]
    go_enter Try.func76, Try.ntmps76
    go_wp2
    go_ret
    exact ⟨rfl, rfl⟩
  · subst h
    rw [sg_eq rfl]
    go_enter Try.func76, Try.ntmps76
    go_wp2
    go_ret
    exact ⟨rfl, rfl⟩
  · rw [sg_gt h]
    have h1 : decide (x < y) = false := by simp; omega
    have h2 : decide (y < x) = true := by simp [h]
    go_enter Try.func76, Try.ntmps76
    go_wp2
    go_ret
    exact ⟨rfl, rfl⟩

/-- Above place k the two are one. -/
def LhEq (a b : List Int) (k : Nat) : Prop := lhi a k = lhi b k

set_option maxHeartbeats 1000000 in
theorem compare_any (w : World) (g g' : Nat) (a b : Option Addr) (ca cb : Nat) (xs ys : List Int) (ha : Rd w g a .u32 xs) (hb : Rd w g' b .u32 ys) (hx : Lmb xs) (hy : Lmb ys) (tx : Top xs) (ty : Top ys)
    (hn : xs.length ≤ 4096) (hm : ys.length ≤ 4096) :
    Calls Try.prog 50 #[.slice a xs.length ca, .slice b ys.length cb] w fun e w' => e = .returned (.int .i64 (sg (lval xs) (lval ys))) ∧ Below w.heap.size w w' := by
  by_cases hlen : xs.length = ys.length
  · have h1 : ((xs.length : Int) != (ys.length : Int)) = false := by simp [hlen]
    have hL : Hid (xs.length = ys.length) := hlen
    clear hlen
    go_enter Try.func50, Try.ntmps50
    go_wp2
    go_loopw [5] (fun i wr => ∃ (t : Int) (n : Nat), i = .int .i64 t ∧ -1 ≤ t ∧ t < (xs.length : Int) ∧ LhEq xs ys (t + 1).toNat ∧ wr = w.drewN n) (fun i _ => (intOf i + 1).toNat)
    case atStart =>
      refine ⟨_, 0, rfl, by omega, by omega, ?_, rfl⟩
      unfold LhEq
      rw [lhi_past _ _ (by omega), lhi_past _ _ (by have := hL.out; omega)]
    case round =>
      obtain ⟨t, n, rfl, ht0, ht1, he, rfl⟩ := hrel
      by_cases ht : 0 ≤ t
      · obtain ⟨j, rfl⟩ := Int.eq_ofNat_of_zero_le ht
        have he' : LhEq xs ys (j + 1) := he
        have hj1 : j < xs.length := by omega
        have hj2 : j < ys.length := by have := hL.out; omega
        have hj3 : (j : Int) < (ys.length : Int) := by omega
        clear he ht0
        have s1 := lhi_step xs j
        have s2 := lhi_step ys j
        obtain ⟨off, rfl, hc⟩ := ha (by omega)
        obtain ⟨off', rfl, hc'⟩ := hb (by omega)
        have c1 := hc j hj1
        have c2 := hc' j hj2
        have R1 : xs.getD j 0 < ys.getD j 0 → sg (lval xs) (lval ys) = sg (xs.getD j 0) (ys.getD j 0) := fun h => by rw [sg_lt h]; exact sg_lt (lhi_lt hx hy j (by unfold LhEq at he'; omega))
        have R2 : ys.getD j 0 < xs.getD j 0 → sg (lval xs) (lval ys) = sg (xs.getD j 0) (ys.getD j 0) := fun h => by rw [sg_gt h]; exact sg_gt (lhi_lt hy hx j (by unfold LhEq at he'; omega))
        have R3 : xs.getD j 0 = ys.getD j 0 → LhEq xs ys j := fun h => by unfold LhEq at he' ⊢; omega
        clear s1 s2 he' hc hc'
        generalize xs.getD j 0 = x at *
        generalize ys.getD j 0 = y at *
        by_cases hxy : x = y
        · have R := R3 hxy
          subst hxy
          clear R1 R2 R3
          go_wp2
          go_quiet (fail)
          go_wp2
          go_roundw
          case rel => exact ⟨_, _, rfl, by omega, by omega, by simpa using R, rfl⟩
          case measure => simp [intOf]
        · have R : Hid (sg (lval xs) (lval ys) = sg x y) := by
            rcases Int.lt_or_gt_of_ne hxy with h | h
            · exact R1 h
            · exact R2 h
          have hne : (x != y) = true := by simp [hxy]
          clear R1 R2 R3 hxy
          go_wp2
          go_quiet (fail)
          go_wp2
          go_quiet ((go_at_call 76; refine (cmpU32_any _ _ _).mono ?_; rintro e w' ⟨rfl, rfl⟩; exact ⟨rfl, _, rfl⟩))
          go_wp2
          go_ret
          exact ⟨ret_int R.out.symm, below_drewN (below_drewN (below_drewN (Below.refl _ _) _) _) _⟩
      · obtain rfl : t = -1 := by omega
        have R : Hid (sg (lval xs) (lval ys) = 0) := sg_eq (by simpa [LhEq, lhi_zero] using he)
        go_wp2
        go_ret
        exact ⟨ret_int R.out.symm, below_drewN (Below.refl _ _) _⟩
  · have h1 : ((xs.length : Int) != (ys.length : Int)) = true := by simp; omega
    have R : Hid (sg (lval xs) (lval ys) = sg (xs.length : Int) (ys.length : Int)) := by
      rcases Nat.lt_or_gt_of_ne hlen with h | h
      · show _ = _
        rw [sg_lt (lval_lt_of_len hx hy ty h), sg_lt (by omega)]
      · show _ = _
        rw [sg_gt (lval_lt_of_len hy hx tx h), sg_gt (by omega)]
    clear hlen
    go_enter Try.func50, Try.ntmps50
    go_wp2_with fail
    refine (cmpInt_any _ _ _).mono ?_
    rintro e w' ⟨rfl, rfl⟩
    go_wp2
    go_ret
    exact ⟨ret_int R.out.symm, Below.refl _ _⟩

/-- What both answer. -/
def cmpN (xs ys : List Int) : Int := if xs.length ≤ 128 ∧ ys.length ≤ 128 then sg (bval xs) (bval ys) else 2

set_option maxHeartbeats 1000000 in
theorem specNumCompare_any (w : World) (g g' : Nat) (a b : Option Addr) (ca cb : Nat) (xs ys : List Int) (ha : Rd w g a .u8 xs) (hb : Rd w g' b .u8 ys) (hx : Byt xs) (hy : Byt ys)
    (hn : xs.length ≤ 1048576) (hm : ys.length ≤ 1048576) :
    Calls Try.prog 14 #[.slice a xs.length ca, .slice b ys.length cb] w fun e w' => e = .returned (.int .i64 (cmpN xs ys)) ∧ w' = w := by
  by_cases h1 : xs.length ≤ 128
  · have t1 : decide ((xs.length : Int) ≤ 128) = true := by simp; omega
    by_cases h2 : ys.length ≤ 128
    · have t2 : decide ((ys.length : Int) ≤ 128) = true := by simp; omega
      have R : Hid (cmpN xs ys = sg (bval xs) (bval ys)) := by show _ = _; simp [cmpN, h1, h2]
      go_enter Try.func14, Try.ntmps14
      go_wp2_with (first | (go_at_call 47; refine (l1Cmp_any _ g g' a b ca cb xs ys ha hb hx hy hn hm).mono ?_; rintro e w' ⟨rfl, rfl⟩) | go_in)
      go_ret
      exact ⟨ret_int R.out.symm, rfl⟩
    · have t2 : decide ((ys.length : Int) ≤ 128) = false := by simp; omega
      have R : Hid (cmpN xs ys = 2) := by show _ = _; simp [cmpN, h2]
      go_enter Try.func14, Try.ntmps14
      go_wp2
      go_ret
      exact ⟨ret_int R.out.symm, rfl⟩
  · have t1 : decide ((xs.length : Int) ≤ 128) = false := by simp; omega
    have R : Hid (cmpN xs ys = 2) := by show _ = _; simp [cmpN, h1]
    go_enter Try.func14, Try.ntmps14
    go_wp2
    go_ret
    exact ⟨ret_int R.out.symm, rfl⟩

set_option maxHeartbeats 1000000 in
theorem implNumCompare_any (w : World) (g g' : Nat) (a b : Option Addr) (ca cb : Nat) (xs ys : List Int) (ha : Rd w g a .u8 xs) (hb : Rd w g' b .u8 ys) (hx : Byt xs) (hy : Byt ys) :
    Calls Try.prog 16 #[.slice a xs.length ca, .slice b ys.length cb] w fun e w' => e = .returned (.int .i64 (cmpN xs ys)) ∧ Below w.heap.size w w' := by
  by_cases h1 : xs.length ≤ 128
  · have t1 : decide ((xs.length : Int) ≤ 128) = true := by simp; omega
    by_cases h2 : ys.length ≤ 128
    · have t2 : decide ((ys.length : Int) ≤ 128) = true := by simp; omega
      have R : Hid (cmpN xs ys = sg (bval xs) (bval ys)) := by show _ = _; simp [cmpN, h1, h2]
      go_enter Try.func16, Try.ntmps16
      go_wp2_with (go_at_call 48; go_in)
      refine (readNatural_any w g a ca xs ha hx h1).mono ?_
      rintro e w1 ⟨zs, c1, l1, m1, rfl, o1, b1, p1, v1, n1, s1⟩
      have V1 : Hid (lval zs = bval xs) := v1
      clear v1
      go_wp2_with fail
      refine (readNatural_any w1 g' b cb ys (hb.up n1) hy h2).mono ?_
      rintro e w2 ⟨us, c2, l2, m2, rfl, o2, b2, p2, v2, n2, s2⟩
      have V2 : Hid (lval us = bval ys) := v2
      clear v2
      go_wp2_with fail
      refine (compare_any w2 _ _ _ _ c1 c2 zs us (o1.up n2).rd o2.rd b1 b2 p1 p2 (by omega) (by omega)).mono ?_
      rintro e w3 ⟨rfl, n3⟩
      rw [V1.out, V2.out, ← R.out]
      go_wp2
      go_ret
      exact ⟨rfl, nxt (nxt n1 n2) n3⟩
    · have t2 : decide ((ys.length : Int) ≤ 128) = false := by simp; omega
      have R : Hid (cmpN xs ys = 2) := by show _ = _; simp [cmpN, h2]
      go_enter Try.func16, Try.ntmps16
      go_wp2
      go_ret
      exact ⟨ret_int R.out.symm, Below.refl _ _⟩
  · have t1 : decide ((xs.length : Int) ≤ 128) = false := by simp; omega
    have R : Hid (cmpN xs ys = 2) := by show _ = _; simp [cmpN, h1]
    go_enter Try.func16, Try.ntmps16
    go_wp2
    go_ret
    exact ⟨ret_int R.out.symm, Below.refl _ _⟩

set_option maxHeartbeats 1000000 in
theorem numCompare_law (w : World) (g : Nat) (a : Option Addr) (ca : Nat) (xs : List Int) (ha : Rd w g a .u8 xs) (hx : Byt xs) (g' : Nat) (b : Option Addr) (cb : Nat) (ys : List Int) (hb : Rd w g' b .u8 ys) (hy : Byt ys) :
    Calls Try.prog 3 #[.slice a xs.length ca, .slice b ys.length cb] w fun e w' => e = .returned (.bool true) ∧ Below w.heap.size w w' := by
  by_cases h1 : xs.length ≤ 1048576
  · have t1 : decide ((1048576 : Int) < (xs.length : Int)) = false := by simp; omega
    by_cases h2 : ys.length ≤ 1048576
    · have t2 : decide ((1048576 : Int) < (ys.length : Int)) = false := by simp; omega
      go_enter Try.func3, Try.ntmps3
      go_wp2_with fail
      refine (toByteS_any w g a ca xs ha h1).mono ?_
      rintro e w1 ⟨rfl, B1, n1⟩
      go_wp2_with fail
      refine (toByteS_any w1 g' b cb ys (hb.up n1) h2).mono ?_
      rintro e w2 ⟨rfl, B2, n2⟩
      go_wp2_with fail
      refine (specNumCompare_any w2 _ _ _ _ _ _ xs ys (B1.up n2).own0.rd B2.own0.rd hx hy h1 h2).mono ?_
      rintro e w2' ⟨rfl, rfl⟩
      have N2 := nxt n1 n2
      clear B1 B2 n1 n2
      go_wp2_with fail
      refine (toByteS_any w2' g a ca xs (ha.up N2) h1).mono ?_
      rintro e w3 ⟨rfl, B3, n3⟩
      have N3 := nxt N2 n3
      go_wp2_with fail
      refine (toByteS_any w3 g' b cb ys (hb.up N3) h2).mono ?_
      rintro e w4 ⟨rfl, B4, n4⟩
      have N4 := nxt N3 n4
      have B3' := B3.up n4
      go_wp2_with fail
      refine (implNumCompare_any w4 _ _ _ _ _ _ xs ys B3'.own0.rd B4.own0.rd hx hy).mono ?_
      rintro e w5 ⟨rfl, n5⟩
      have N5 := nxt N4 n5
      have B3'' := B3'.up n5
      have B4' := B4.up n5
      clear B3 B3' B4 N2 N3 N4 n3 n4 n5
      go_wp2_with fail
      refine (toByteS_any w5 g a ca xs (ha.up N5) h1).mono ?_
      rintro e w6 ⟨rfl, B6, n6⟩
      go_wp2_with fail
      refine (eqByteS_same w6 _ _ _ _ _ _ xs (B3''.up n6).own0.rd B6.own0.rd h1).mono ?_
      rintro e w7 ⟨rfl, n7⟩
      have N7 := nxt (nxt N5 n6) n7
      have B4'' := (B4'.up n6).up n7
      clear B3'' B4' B6 N5 n6 n7
      go_wp2_with fail
      refine (toByteS_any w7 g' b cb ys (hb.up N7) h2).mono ?_
      rintro e w8 ⟨rfl, B8, n8⟩
      go_wp2_with fail
      refine (eqByteS_same w8 _ _ _ _ _ _ ys (B4''.up n8).own0.rd B8.own0.rd h2).mono ?_
      rintro e w9 ⟨rfl, n9⟩
      go_wp2
      go_ret
      exact ⟨rfl, nxt (nxt N7 n8) n9⟩
    · have t2 : decide ((1048576 : Int) < (ys.length : Int)) = true := by simp; omega
      go_enter Try.func3, Try.ntmps3
      go_wp2
      go_ret
      exact ⟨rfl, Below.refl _ _⟩
  · have t1 : decide ((1048576 : Int) < (xs.length : Int)) = true := by simp; omega
    go_enter Try.func3, Try.ntmps3
    go_wp2
    go_ret
    exact ⟨rfl, Below.refl _ _⟩
end Go.Proofs.Ythdjopkmlcdoeaa
