
/-
  The law of LadderClamp (a seat of its own: nothing here is imported beside LadN).
-/
import Derived.Test.YtblkjpmkikhpbaaS1
import Derived.Test.YtblkjpmkikhpbaaClm
namespace Go.Proofs.Ytblkjpmkikhpbaa
open Go.RowKit

/-! ### the clamped number -/
def clampL (xs : List Int) : List Int := (xs.set 0 (xs.getD 0 0 - xs.getD 0 0 % 8)).set 31 (xs.getD 31 0 % 64 + 64)
theorem clampL_len (xs : List Int) : (clampL xs).length = xs.length := by unfold clampL; simp
theorem clampL_0 {xs : List Int} (hl : xs.length = 32) : (clampL xs).getD 0 0 = xs.getD 0 0 - xs.getD 0 0 % 8 := by
  unfold clampL
  rw [getD_set_ne _ _ _ _ (by omega), getD_set_self _ _ _ (by omega)]
theorem clampL_31 {xs : List Int} (hl : xs.length = 32) : (clampL xs).getD 31 0 = xs.getD 31 0 % 64 + 64 := by
  unfold clampL
  rw [getD_set_self _ _ _ (by rw [List.length_set]; omega)]
theorem clampL_mid {xs : List Int} {j : Nat} (h0 : 0 ≠ j) (h1 : 31 ≠ j) : (clampL xs).getD j 0 = xs.getD j 0 := by
  unfold clampL
  rw [getD_set_ne _ _ _ _ h1, getD_set_ne _ _ _ _ h0]
theorem clampL_byt {xs : List Int} (hb : Byt xs) (hl : xs.length = 32) : Byt (clampL xs) := by
  intro j
  by_cases e0 : 0 = j
  · subst e0
    have := hb 0
    rw [clampL_0 hl]
    omega
  · by_cases e1 : 31 = j
    · subst e1
      have := hb 31
      rw [clampL_31 hl]
      omega
    · rw [clampL_mid e0 e1]
      exact hb j
theorem wv0 (a : Nat → Int) : wv a 32 0 = a 0 + a 1 * 256 + a 2 * 65536 + a 3 * 16777216 + a 4 * 4294967296 + a 5 * 1099511627776 + a 6 * 281474976710656 + a 7 * 72057594037927936 := by
  simp [wv]
theorem wv1 (a : Nat → Int) : wv a 32 1 = a 8 + a 9 * 256 + a 10 * 65536 + a 11 * 16777216 + a 12 * 4294967296 + a 13 * 1099511627776 + a 14 * 281474976710656 + a 15 * 72057594037927936 := by
  simp [wv]
theorem wv2 (a : Nat → Int) : wv a 32 2 = a 16 + a 17 * 256 + a 18 * 65536 + a 19 * 16777216 + a 20 * 4294967296 + a 21 * 1099511627776 + a 22 * 281474976710656 + a 23 * 72057594037927936 := by
  simp [wv]
theorem wv3 (a : Nat → Int) : wv a 32 3 = a 24 + a 25 * 256 + a 26 * 65536 + a 27 * 16777216 + a 28 * 4294967296 + a 29 * 1099511627776 + a 30 * 281474976710656 + a 31 * 72057594037927936 := by
  simp [wv]
theorem clw_is {xs : List Int} (hb : Byt xs) (hl : xs.length = 32) : ∀ j, j < 4 → clw (wv (fun j => xs.getD j 0) 32) j = wv (fun j => (clampL xs).getD j 0) 32 j := by
  intro j hj
  obtain rfl | rfl | rfl | rfl : j = 0 ∨ j = 1 ∨ j = 2 ∨ j = 3 := by omega
  · rw [wv0]
    simp only [clampL_0 hl, clampL_mid (xs := xs) (j := 1) (by omega) (by omega), clampL_mid (xs := xs) (j := 2) (by omega) (by omega), clampL_mid (xs := xs) (j := 3) (by omega) (by omega), clampL_mid (xs := xs) (j := 4) (by omega) (by omega), clampL_mid (xs := xs) (j := 5) (by omega) (by omega), clampL_mid (xs := xs) (j := 6) (by omega) (by omega), clampL_mid (xs := xs) (j := 7) (by omega) (by omega)]
    show wv (fun j => xs.getD j 0) 32 0 - wv (fun j => xs.getD j 0) 32 0 % 8 = _
    rw [wv0]
    omega
  · show wv (fun j => xs.getD j 0) 32 1 = _
    rw [wv1, wv1]
    simp only [clampL_mid (xs := xs) (j := 8) (by omega) (by omega), clampL_mid (xs := xs) (j := 9) (by omega) (by omega), clampL_mid (xs := xs) (j := 10) (by omega) (by omega), clampL_mid (xs := xs) (j := 11) (by omega) (by omega), clampL_mid (xs := xs) (j := 12) (by omega) (by omega), clampL_mid (xs := xs) (j := 13) (by omega) (by omega), clampL_mid (xs := xs) (j := 14) (by omega) (by omega), clampL_mid (xs := xs) (j := 15) (by omega) (by omega)]
  · show wv (fun j => xs.getD j 0) 32 2 = _
    rw [wv2, wv2]
    simp only [clampL_mid (xs := xs) (j := 16) (by omega) (by omega), clampL_mid (xs := xs) (j := 17) (by omega) (by omega), clampL_mid (xs := xs) (j := 18) (by omega) (by omega), clampL_mid (xs := xs) (j := 19) (by omega) (by omega), clampL_mid (xs := xs) (j := 20) (by omega) (by omega), clampL_mid (xs := xs) (j := 21) (by omega) (by omega), clampL_mid (xs := xs) (j := 22) (by omega) (by omega), clampL_mid (xs := xs) (j := 23) (by omega) (by omega)]
  · rw [wv3]
    simp only [clampL_31 hl, clampL_mid (xs := xs) (j := 24) (by omega) (by omega), clampL_mid (xs := xs) (j := 25) (by omega) (by omega), clampL_mid (xs := xs) (j := 26) (by omega) (by omega), clampL_mid (xs := xs) (j := 27) (by omega) (by omega), clampL_mid (xs := xs) (j := 28) (by omega) (by omega), clampL_mid (xs := xs) (j := 29) (by omega) (by omega), clampL_mid (xs := xs) (j := 30) (by omega) (by omega)]
    show wv (fun j => xs.getD j 0) 32 3 % 4611686018427387904 + 4611686018427387904 = _
    rw [wv3]
    have b24 := hb 24
    have b25 := hb 25
    have b26 := hb 26
    have b27 := hb 27
    have b28 := hb 28
    have b29 := hb 29
    have b30 := hb 30
    have b31 := hb 31
    generalize xs.getD 24 0 = x24 at *
    generalize xs.getD 25 0 = x25 at *
    generalize xs.getD 26 0 = x26 at *
    generalize xs.getD 27 0 = x27 at *
    generalize xs.getD 28 0 = x28 at *
    generalize xs.getD 29 0 = x29 at *
    generalize xs.getD 30 0 = x30 at *
    generalize xs.getD 31 0 = x31 at *
    omega
theorem clw_num {xs : List Int} (hb : Byt xs) (hl : xs.length = 32) : wval (clw (wv (fun j => xs.getD j 0) 32)) = num (clampL xs) := by
  have e : wval (clw (wv (fun j => xs.getD j 0) 32)) = wval (wv (fun j => (clampL xs).getD j 0) 32) := by
    unfold wval
    rw [clw_is hb hl 0 (by omega), clw_is hb hl 1 (by omega), clw_is hb hl 2 (by omega), clw_is hb hl 3 (by omega)]
  rw [e, wv_sum _ 32 (by omega)]
  unfold num
  rw [clampL_len, hl]

def clampA (xs : List Int) : List Int := if xs.length = 32 then clampL xs else []

set_option maxHeartbeats 4000000 in
theorem specClamp_any (w : World) (g : Nat) (a : Option Addr) (c : Nat) (xs : List Int) (hr : Rd w g a .u8 xs) (hb : Byt xs) (hc : a = none → c = 0) :
    Calls Try.prog 4 #[.slice a xs.length c] w fun e w' => NewRow w.heap.size w' e .u8 (clampA xs) ∧ Below w.heap.size w w' := by
  by_cases hl : xs.length = 32
  · have CP := fun w' n => l1Copy_any w' g a c xs (hr.up n) hc (by omega)
    have b0 := hb 0
    have b31 := hb 31
    have KH : Hid (clampA xs = (xs.set 0 (xs.getD 0 0 - xs.getD 0 0 % 8)).set 31 (xs.getD 31 0 % 64 + 64)) := by show _ = _; unfold clampA clampL; rw [if_pos hl]
    rw [hl] at CP ⊢
    have LH := hide hl
    clear hl
    go_enter Try.func4, Try.ntmps4
    go_wp2_with fail
    refine (CP w (Below.refl _ _)).mono ?_
    rintro r w1 ⟨⟨a1, c1, g1, rfl, o1, p1, q1, r1⟩, n1⟩
    clear CP
    rw [LH.out] at q1 ⊢
    obtain ⟨off, rfl, oc⟩ := id o1 (by rw [LH.out]; decide)
    have x0 := (oc 0 (by rw [LH.out]; decide)).1
    have f0 := (oc 0 (by rw [LH.out]; decide)).2
    have x31 := (oc 31 (by rw [LH.out]; decide)).1
    have f31 := (oc 31 (by rw [LH.out]; decide)).2
    rw [Nat.add_zero] at x0 f0
    have S1 := o1.store 0 (by rw [LH.out]; decide) (xs.getD 0 0 - xs.getD 0 0 % 8)
    rw [Nat.add_zero] at S1
    have N1 : Below w.heap.size w (w1.setCell ⟨g1, off, none⟩ (.int .u8 (xs.getD 0 0 - xs.getD 0 0 % 8))) := n1.setCell r1 _
    have x31' : (w1.setCell ⟨g1, off, none⟩ (.int .u8 (xs.getD 0 0 - xs.getD 0 0 % 8))).cell? ⟨g1, off + 31, none⟩ = some (.int .u8 (xs.getD 31 0)) := by
      rw [World.cell?_setCell_other (h := fun h => by simp only [Addr.mk.injEq, true_and, and_true] at h; omega)]
      exact x31
    have S2 := S1.store 31 (by rw [List.length_set, LH.out]; decide) (xs.getD 31 0 % 64 + 64)
    have N2 : Below w.heap.size w ((w1.setCell ⟨g1, off, none⟩ (.int .u8 (xs.getD 0 0 - xs.getD 0 0 % 8))).setCell ⟨g1, off + 31, none⟩ (.int .u8 (xs.getD 31 0 % 64 + 64))) := N1.setCell r1 _
    have PK : Hid (Own ((w1.setCell ⟨g1, off, none⟩ (.int .u8 (xs.getD 0 0 - xs.getD 0 0 % 8))).setCell ⟨g1, off + 31, none⟩ (.int .u8 (xs.getD 31 0 % 64 + 64))).drew g1 (some ⟨g1, off, none⟩) .u8 (clampA xs)) := by
      show Own _ _ _ _ _
      rw [KH.out]
      exact S2
    have KL : Hid ((clampA xs).length = 32) := by show _ = _; rw [KH.out, List.length_set, List.length_set, LH.out]
    clear oc o1 S1 S2 KH LH N1 hr hb x31
    generalize xs.getD 0 0 = y0 at *
    generalize xs.getD 31 0 = y31 at *
    go_wp2
    go_region
    go_wp2
    go_ret
    exact ⟨⟨_, c1, g1, by rw [KL.out]; rfl, PK.out, by simp, by rw [KL.out]; exact q1, r1⟩, N2.drew⟩
  · have t : ((xs.length : Int) != 32) = true := by simp; omega
    have hal : Below w.heap.size w (w.alloc (.cells #[] 5)) := (Below.refl _ _).alloc (Nat.le_refl _) _
    have K : Hid (clampA xs = []) := by show _ = _; unfold clampA; rw [if_neg hl]
    clear hl
    go_enter Try.func4, Try.ntmps4
    go_wp2
    go_ret
    rw [K.out]
    exact ⟨newRow_lit _ _, hal⟩
theorem clampA_len (xs : List Int) : (clampA xs).length ≤ 32 := by
  unfold clampA
  split
  · rw [clampL_len]; omega
  · simp
theorem lsum_lt {xs : List Int} (hb : Byt xs) : ∀ n, 0 ≤ lsum (fun j => xs.getD j 0) n ∧ lsum (fun j => xs.getD j 0) n < 256 ^ n
  | 0 => by simp [lsum]
  | n + 1 => by
    have ih := lsum_lt hb n
    have h1 := hb n
    have hp := p256_pos n
    have : xs.getD n 0 * 256 ^ n ≤ 255 * 256 ^ n := Int.mul_le_mul_of_nonneg_right (by omega) (by omega)
    have : 0 ≤ xs.getD n 0 * 256 ^ n := Int.mul_nonneg h1.1 (by omega)
    rw [lsum, Int.pow_succ]
    omega
/-- Bytes are those of their number. -/
theorem fill_num {xs : List Int} (hb : Byt xs) (hl : xs.length = 32) : fill (byt (num xs)) 32 = xs := by
  refine eq_of_getD (by rw [fill_len, hl]) (fun i hi => ?_)
  rw [fill_len] at hi
  rw [fill_get _ _ _ hi]
  unfold num byt
  rw [hl]
  have key : ∀ n, i < n → lsum (fun j => xs.getD j 0) n / 256 ^ i % 256 = xs.getD i 0 := by
    intro n
    induction n with
    | zero => intro h; omega
    | succ n ih =>
      intro h
      have hp := p256_pos i
      rw [lsum]
      by_cases e : i = n
      · subst e
        have b := lsum_lt hb i
        have z := hb i
        rw [Int.add_mul_ediv_right _ _ (by omega), Int.ediv_eq_zero_of_lt b.1 b.2]
        omega
      · obtain ⟨d, hd⟩ : ∃ d, n = i + (d + 1) := ⟨n - i - 1, by omega⟩
        have e2 : xs.getD n 0 * 256 ^ n = (256 * (xs.getD n 0 * 256 ^ d)) * 256 ^ i := by
          rw [show (256 : Int) ^ n = 256 ^ i * (256 ^ d * 256) by rw [hd, Int.pow_add, Int.pow_succ]]
          simp only [Int.mul_comm, Int.mul_left_comm]
        have q := ih (by omega)
        rw [e2, Int.add_mul_ediv_right _ _ (by omega), Int.add_mul_emod_self_left]
        exact q
  exact key 32 hi
set_option maxHeartbeats 4000000 in
theorem implClamp_any (w : World) (g : Nat) (a : Option Addr) (c : Nat) (ks : List Int) (hk : Rd w g a .u8 ks) (bk : Byt ks) :
    Calls Try.prog 6 #[.slice a ks.length c] w fun e w' => NewRow w.heap.size w' e .u8 (clampA ks) ∧ Below w.heap.size w w' := by
  have T1 := fun w => isFieldSize_any w a c ks.length
  by_cases h1 : ks.length = 32
  · have RS := hide (readScalar_any w g a c ks hk bk h1)
    have CL := hide (fun w => clamp_any w _ (fun j _ => wv_lt bk 32 j))
    have BY := hide (fun w => scalarBytes_any w (clw (wv (fun j => ks.getD j 0) 32)) (clw_ok (fun j _ => wv_lt bk 32 j)))
    have KA : Hid (clampA ks = fill (byt (wval (clw (wv (fun j => ks.getD j 0) 32)))) 32) := by
      show _ = _
      unfold clampA
      rw [if_pos h1, clw_num bk h1, fill_num (clampL_byt bk h1) ((clampL_len ks).trans h1)]
    rw [← KA.out] at BY
    simp only [decide_eq_true h1] at T1
    rw [h1] at T1 ⊢
    clear h1 hk bk KA
    generalize clw (wv (fun j => ks.getD j 0) 32) = U at *
    generalize wv (fun j => ks.getD j 0) 32 = U0 at *
    simp only [ag4] at RS CL BY
    go_enter Try.func6, Try.ntmps6
    go_wp2_with fail
    refine (T1 w).mono ?_
    rintro r w0 ⟨rfl, rfl⟩
    clear T1
    go_wp2_with fail
    refine RS.out.mono ?_
    rintro r w1 ⟨rfl, n1⟩
    clear RS
    go_wp2_with fail
    refine (CL.out w1).mono ?_
    rintro r w2 ⟨rfl, n2⟩
    have N2 := nxt n1 n2
    have z := N2.size
    clear CL n1 n2
    go_wp2_with fail
    refine (BY.out w2).mono ?_
    rintro r w5 ⟨⟨a5, c5, g5, rfl, o5, p5, q5, r5⟩, n5⟩
    have N5 := nxt N2 n5
    clear BY N2 n5
    go_wp2
    go_ret
    exact ⟨⟨a5, c5, g5, rfl, o5, p5, q5, by omega⟩, N5⟩
  · have K : Hid (clampA ks = []) := by show _ = _; unfold clampA; rw [if_neg h1]
    simp only [decide_eq_false h1] at T1
    clear h1
    go_enter Try.func6, Try.ntmps6
    go_wp2_with fail
    refine (T1 w).mono ?_
    rintro r w0 ⟨rfl, rfl⟩
    clear T1
    go_wp2
    go_ret
    rw [K.out]
    exact ⟨⟨none, 0, _, rfl, Own.nil _ _ _ _, by simp, by simp, Nat.le_refl _⟩, Below.refl _ _⟩

set_option maxHeartbeats 2000000 in
theorem clamp_law (w : World) (g : Nat) (a : Option Addr) (ca : Nat) (xs : List Int) (ha : Rd w g a .u8 xs) (hx : Byt xs) :
    Calls Try.prog 3 #[.slice a xs.length ca] w fun e w' => e = .returned (.bool true) ∧ Below w.heap.size w w' := by
  by_cases h1 : xs.length ≤ 1048576
  · have t1 : decide ((1048576 : Int) < (xs.length : Int)) = false := by simp; omega
    have hy : (clampA xs).length ≤ 1048576 := by have := clampA_len xs; omega
    obtain ⟨ys', hys⟩ : ∃ ys, ys = clampA xs := ⟨_, rfl⟩
    have SP := fun w g a c h p => specClamp_any w g a c xs h hx p
    have IM := fun w g a c h => implClamp_any w g a c xs h hx
    simp only [← hys] at SP IM hy
    clear hys
    go_enter Try.func3, Try.ntmps3
    go_wp2_with fail
    refine (toByteS_any w g a ca xs ha h1).mono ?_
    rintro e w1 ⟨rfl, B1, n1⟩
    go_wp2_with fail
    refine (SP w1 _ _ _ B1.own0.rd (by simp)).mono ?_
    rintro e w2 ⟨⟨a2, c2, g2, rfl, o2, p2, q2, r2⟩, n2⟩
    have N2 := nxt n1 n2
    have l2 := o2.rd.lt
    go_wp2_with fail
    refine (toByteS_any w2 g a ca xs (ha.up N2) h1).mono ?_
    rintro e w3 ⟨rfl, B3, n3⟩
    have N3 := nxt N2 n3
    have l3 := B3.lt
    go_wp2_with fail
    refine (IM w3 _ _ _ B3.own0.rd).mono ?_
    rintro e w4 ⟨⟨a4, c4, g4, rfl, o4, p4, q4, r4⟩, n4⟩
    have N4 := nxt N3 n4
    have o2' := (o2.up n3).up n4
    go_wp2_with fail
    refine (eqByteS_same w4 _ _ _ _ _ _ ys' o4.rd o2'.rd hy).mono ?_
    rintro e w5 ⟨rfl, n5⟩
    have N5 := nxt N4 n5
    have o2'' := o2'.up n5
    have o4' := o4.up n5
    have B5 := (B3.up n4).up n5
    go_wp2_with fail
    refine (toByteS_any w5 g a ca xs (ha.up N5) h1).mono ?_
    rintro e w6 ⟨rfl, B6, n6⟩
    go_wp2_with fail
    refine (eqByteS_same w6 _ _ _ _ _ _ xs (B5.up n6).own0.rd B6.own0.rd h1).mono ?_
    rintro e w7 ⟨rfl, n7⟩
    have N7 := nxt (nxt N5 n6) n7
    have o2a := (o2''.up n6).up n7
    have o4a := (o4'.up n6).up n7
    have B7 := (B5.up n6).up n7
    clear B1 B3 B5 B6 o2 o2' o2'' o4 o4' n1 n2 N3 N4 N5 n3 n4 n5 n6 n7
    go_wp2_with fail
    refine (markByteS_any w7 _ _ _ xs 1 B7.own0 h1 (by decide) (by decide)).mono ?_
    rintro e w8 ⟨rfl, _, O8⟩
    have N8 := N7.trans (O8.below (B := w.heap.size) N2.size)
    have o2b := o2a.only O8 (fun h => by have := l2 h; omega)
    have o4b := o4a.only O8 (fun h => by omega)
    have t2 : decide ((1 : Int) + (xs.length : Int) < 0) = false := by simp; omega
    clear B7 o2a o4a N7 O8
    go_wp2_with fail
    refine (eqByteS_same w8 _ _ _ _ _ _ ys' o4b.rd o2b.rd hy).mono ?_
    rintro e w9 ⟨rfl, n9⟩
    have N9 := nxt N8 n9
    have o2c := o2b.up n9
    have o4c := o4b.up n9
    clear o2b o4b N8 n9
    go_wp2_with fail
    refine (markByteS_any w9 _ _ _ ys' 1 o4c hy (by decide) (by decide)).mono ?_
    rintro e wA ⟨rfl, oA, OA⟩
    have NA := N9.trans (OA.below (B := w.heap.size) (by have := N2.size; omega))
    have o2d := o2c.only OA (fun h => by have := l2 h; omega)
    have t3 : decide ((1 : Int) + (ys'.length : Int) < 0) = false := by simp; omega
    clear o2c o4c N9 OA
    go_wp2_with fail
    refine (heldByteS_any wA _ _ _ ys'.length 1 oA.rd hy (by decide) (by decide)).mono ?_
    rintro e wA' ⟨rfl, rfl⟩
    go_wp2_with fail
    refine (toByteS_any wA' g a ca xs (ha.up NA) h1).mono ?_
    rintro e wB ⟨rfl, BB, nB⟩
    go_wp2_with fail
    refine (IM wB _ _ _ BB.own0.rd).mono ?_
    rintro e wC ⟨⟨aC, cC, gC, rfl, oC, pC, qC, rC⟩, nC⟩
    have o2e := (o2d.up nB).up nC
    have oAe := (oA.up nB).up nC
    go_wp2_with fail
    refine (eqByteS_same wC _ _ _ _ _ _ ys' oC.rd o2e.rd hy).mono ?_
    rintro e wD ⟨rfl, nD⟩
    go_wp2_with fail
    refine (heldByteS_any wD _ _ _ ys'.length 1 (oAe.up nD).rd hy (by decide) (by decide)).mono ?_
    rintro e wD' ⟨rfl, rfl⟩
    go_wp2
    go_ret
    exact ⟨rfl, nxt (nxt (nxt NA nB) nC) nD⟩
  · have t1 : decide ((1048576 : Int) < (xs.length : Int)) = true := by simp; omega
    go_enter Try.func3, Try.ntmps3
    go_wp2
    go_ret
    exact ⟨rfl, Below.refl _ _⟩
end Go.Proofs.Ytblkjpmkikhpbaa
