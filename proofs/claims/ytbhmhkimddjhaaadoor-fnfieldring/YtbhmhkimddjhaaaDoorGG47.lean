import Derived.Test.YtbhmhkimddjhaaaDoorGG45
import Derived.Test.YtbhmhkimddjhaaaDoorGG46
/-
  The three lists of bytes that are drawn for OrderMulAdd.
-/
namespace Go.Proofs.YtbhmhkimddjhaaaDoor
set_option maxRecDepth 100000
open Go.RowKit

theorem little_byt {xs : List Int} (h : Byt xs) (n : Nat) : Byt (fill (dig xs) n) := dig_bytes h n

set_option maxHeartbeats 4000000 in
theorem l3Draw_any (w : World) (s g : Nat) (a : Option Addr) (c : Nat) (xs : List Int) (t : Int) (t0 : 0 ≤ t) (t1 : t ≤ 9000) (hs : Src w s a xs.length c t) (hr : Rd w g a .u8 xs) (hne : 0 < xs.length → g ≠ s) (hb : Byt xs) (hl : xs.length ≤ 1048576) :
    Calls Tryd.prog 61 #[.pointer (some ⟨s, 0, none⟩)] w fun e w' => ∃ ys, Byt ys ∧ ys.length ≤ 64 ∧ NewRow w.heap.size w' e .u8 ys ∧ But s w w' ∧ SrcTo w' s a xs.length c (t + 300) := by
  have sl := hs.lt
  have NX := l1Next_any w s g a c xs t 6 hs hr hne hb hl (by omega) (by omega) (by decide) (by decide)
  go_enter Tryd.func61, Tryd.ntmps61
  go_wp2_with fail
  refine NX.mono ?_
  rintro e w1 ⟨r, rfl, ⟨r0, r1⟩, S1, O1⟩
  have N1 : But s w w1 := But.ofOnly O1
  have hr1 := hr.but N1 hne
  have z1 := hide O1.size
  clear NX
  by_cases h2 : r < 2
  · have q1 : decide (r < 2) = true := by simp; omega
    clear h2 r0 r1
    go_wp2_with fail
    refine (l3Order_any w1).mono ?_
    rintro e w2 ⟨qs, Cq, ⟨a2, c2, g2, rfl, o2, p2, q2, r2⟩, n2⟩
    have N2 := N1.up n2
    have S2 := S1.up n2
    have hz2 : w.heap.size ≤ g2 := by have := z1.out; omega
    go_wp2_with fail
    refine (l1Next_any w2 s g a c xs (t + 1) 15 S2 (hr.but N2 hne) hne hb hl (by omega) (by omega) (by decide) (by decide)).mono ?_
    rintro e w3 ⟨v, rfl, ⟨v0, v1⟩, S3, O3⟩
    have N3 := N2.only O3
    have o3 := o2.only O3 (fun _ => by omega)
    have hw : IntKind.i64.wrap (1 + v) = 1 + v := by rw [IntKind.wrap_i64]; omega
    have hw8 : (1 + v) % 256 = 1 + v := by omega
    have hw9 : IntKind.u8.wrap (1 + v) = 1 + v := by rw [IntKind.wrap_u8]; omega
    have bv := byt_one (d := 1 + v) (by omega) (by omega)
    have nB : Below w3.heap.size w3 (w3.alloc (.cells #[.int .u8 (1 + v)] 5)) := (Below.refl _ _).alloc (Nat.le_refl _) _
    have BB := one_a w3 (1 + v)
    have Lq := canon_q Cq
    have ev : bval [1 + v] = 1 + v := by simp [bval]
    go_wp2_with fail
    generalize w3.alloc (.cells #[.int .u8 (1 + v)] 5) = wB at *
    refine (l1Mul_any wB g2 _ a2 _ c2 1 qs [1 + v] (o3.up nB).rd BB.own0.rd Cq.1 bv (by omega) (by simp)).mono ?_
    rintro e w4 ⟨ms, C4, ⟨a4, c4, g4, rfl, o4, p4, q4, r4⟩, n4⟩
    have N4 := (N3.up nB).up n4
    have S4 := (S3.up nB).up n4
    rw [Cq.2.1, ev] at C4
    have V4 : QQ ≤ bval ms := by
      rw [C4.2.1]
      have : QQ * 1 ≤ QQ * (1 + v) := Int.mul_le_mul_of_nonneg_left (by omega) (by decide)
      omega
    have L4 : ms.length ≤ 64 := C4.len (by
      have : QQ * (1 + v) ≤ QQ * 15 := Int.mul_le_mul_of_nonneg_left (by omega) (by decide)
      exact Int.lt_of_le_of_lt this (by decide))
    have M4 := C4.1
    have hg4 : w.heap.size ≤ g4 := by have := (N3.up nB).size; omega
    clear C4 BB hw hw8 hw9 ev bv o3 o2 Cq N1 N2 N3 S1 S2 S3 nB n4 n2 O3
    have nC : Below w4.heap.size w4 (w4.alloc (.cells #[.int .u8 3] 5)) := (Below.refl _ _).alloc (Nat.le_refl _) _
    have BC := one_a w4 3
    have b3 := byt_one (d := 3) (by omega) (by omega)
    have e3 : bval [3] = 3 := by decide
    go_wp2_with fail
    generalize w4.alloc (.cells #[.int .u8 3] 5) = wC at *
    refine (l1Add_any wC g4 _ a4 _ c4 1 ms [3] (o4.up nC).rd BC.own0.rd M4 b3 (by omega) (by decide)).mono ?_
    rintro e w5 ⟨ys5, C5, ⟨a5, c5, g5, rfl, o5, p5, q5, r5⟩, n5⟩
    have N5 := (N4.up nC).up n5
    have S5 := (S4.up nC).up n5
    have hg5 : w.heap.size ≤ g5 := by have := (N4.up nC).size; omega
    have V5 : QQ ≤ bval ys5 := by rw [C5.2.1, e3]; omega
    have L5 : ys5.length ≤ 65 := C5.len (n := 65) (by
      have b4 := Int.lt_of_lt_of_le (bval_lt M4) (p256_le (show ms.length ≤ 64 from L4))
      have e64 : (256 : Int) ^ 65 = 256 ^ 64 * 256 := by rw [← Int.pow_succ]
      have e1 : (3 : Int) ≤ 256 ^ 64 := by decide
      rw [e3, e64]
      omega)
    have M5 := C5.1
    clear C5 BC b3 e3 o4 N4 S4 nC n5 V4 L4
    go_wp2_with fail
    refine (l1Next_any w5 s g a c xs (t + 1 + 1) 7 S5 (hr.but N5 hne) hne hb hl (by omega) (by omega) (by decide) (by decide)).mono ?_
    rintro e w6 ⟨v6, rfl, ⟨v60, v61⟩, S6, O6⟩
    have N6 := N5.only O6
    have o6 := o5.only O6 (fun _ => by omega)
    go_wp2_with fail
    refine (l1Int_any w6 v6 v60 (by omega)).mono ?_
    rintro e w7 ⟨i1, il, ib, ⟨ai, ci, gi, rfl, oi, pi, qi, ri⟩, n7⟩
    have o7 := o6.up n7
    have N7 := N6.up n7
    have S7 := S6.up n7
    have V : Hid (bval i1 ≤ bval ys5) := by
      show _ ≤ _
      have h1 : bval i1 < 256 := by
        have := bval_lt ib
        have hp : (256 : Int) ^ i1.length ≤ 256 ^ 1 := p256_le il
        have : (256 : Int) ^ 1 = 256 := by decide
        omega
      have : (256 : Int) ≤ QQ := by decide
      omega
    have LI : i1.length ≤ ys5.length := by
      by_cases e : ys5.length = 0
      · have : ys5 = [] := List.eq_nil_of_length_eq_zero e
        subst this
        rw [bval_nil] at V5
        exact absurd V5 (by decide)
      · omega
    clear o5 o6 N5 N6 S5 S6 n7 O6 V5
    go_wp2_with fail
    refine (l1Sub_any w7 g5 gi a5 ai c5 ci ys5 i1 o7.rd oi.rd M5 ib (by omega) LI V.out).mono ?_
    rintro e w8 ⟨y8, C8, ⟨a8, c8', g8, rfl, o8, p8, q8, r8⟩, n8⟩
    have L8 : y8.length ≤ 65 := C8.len (Int.lt_of_le_of_lt (show bval ys5 - bval i1 ≤ bval ys5 by have := bval_nonneg ib; omega) (Int.lt_of_lt_of_le (bval_lt M5) (p256_le L5)))
    go_wp2_with fail
    refine (l1Little_any w8 g8 a8 c8' y8 32 o8.rd C8.1 (by omega) (by omega)).mono ?_
    rintro e w9 ⟨rfl, B9, n9⟩
    have N9 := (N7.up n8).up n9
    have S9 := (S7.up n8).up n9
    have z := (N7.up n8).size
    clear LI V
    go_wp2
    go_ret
    exact ⟨_, little_byt C8.1 32, by rw [fill_len]; omega, ⟨_, 32, w8.heap.size, by rw [fill_len]; rfl, B9.own0, by simp, by rw [fill_len]; omega, z⟩, N9, ⟨_, by omega, by omega, S9⟩⟩
  · have q1 : decide (r < 2) = false := by simp; omega
    by_cases h3 : r = 2
    · subst h3
      clear h2 r0 r1
      have L2 := l2DrawT_any w1 s g a c xs (t + 1) (by omega) (by omega) S1 hr1 hne hb hl
      go_wp2_with fail
      refine L2.mono ?_
      rintro e w2 ⟨ys, yb, yl, ⟨a2, c2, g2, rfl, o2, p2, q2, r2⟩, N2, ⟨t2, t20, t21, S2⟩⟩
      have N3 := N1.trans N2
      have z := z1.out
      have ZZ : Hid (w.heap.size ≤ g2) := by show _ ≤ _; omega
      clear L2 z
      go_wp2
      go_ret
      exact ⟨ys, yb, yl, ⟨_, _, g2, rfl, o2, p2, q2, ZZ.out⟩, N3, ⟨t2, t20, by omega, S2⟩⟩
    · have q2 : (r == 2) = false := by simp; omega
      clear h2 h3 r0 r1
      go_wp2_with fail
      refine (l1DrawBytes_any w1 s g a c xs (t + 1) 32 S1 hr1 hne hb hl (by omega) (by omega)).mono ?_
      rintro e w2 ⟨ys, yl, yb, ⟨a2, c2, g2, rfl, o2, p2, q2', r2⟩, S2, N2⟩
      have N3 := N1.trans N2
      have z := z1.out
      have ZZ : Hid (w.heap.size ≤ g2) := by show _ ≤ _; omega
      have L := hide yl
      clear yl z
      go_wp2
      go_ret
      exact ⟨ys, yb, by have := L.out; omega, ⟨_, _, g2, by first | rfl | (rw [L.out]; rfl), o2, p2, q2', ZZ.out⟩, N3, ⟨_, by omega, by omega, S2⟩⟩

set_option maxHeartbeats 2000000 in
theorem drawOrderMulAdd_any (w : World) (g : Nat) (a : Option Addr) (c : Nat) (code : List Int) (hr : Rd w g a .u8 code) (hb : Byt code) (hl : code.length ≤ 1048576) :
    Calls Tryd.prog 23 #[.slice a code.length c] w fun e w' => ∃ (a1 a2 a3 : Option Addr) (c1 c2 c3 g1 g2 g3 : Nat) (xs ys zs : List Int), e = .returned (.tuple #[.slice a1 xs.length c1, .slice a2 ys.length c2, .slice a3 zs.length c3]) ∧ Own w' g1 a1 .u8 xs ∧ Own w' g2 a2 .u8 ys ∧ Own w' g3 a3 .u8 zs ∧ Byt xs ∧ Byt ys ∧ Byt zs ∧ Below w.heap.size w w' := by
  have hne : 0 < code.length → g ≠ w.heap.size := fun h => by have := hr.lt h; omega
  go_enter Tryd.func23, Tryd.ntmps23
  go_wp2_with fail
  refine (l1Source_any w a code.length c hl).mono ?_
  rintro e w1 ⟨rfl, S1, n1⟩
  have sl := S1.lt
  go_wp2_with fail
  refine (l3Draw_any w1 w.heap.size g a c code 0 (by omega) (by omega) S1 (hr.up n1) hne hb hl).mono ?_
  rintro e w2 ⟨xs, xb, xl, ⟨a1, c1, g1, rfl, o1, p1, q1, r1⟩, N2, ⟨t2, t20, t21, S2⟩⟩
  have m2 := N2.size
  have n12 : Below w.heap.size w1 w2 := N2.below (Nat.le_refl _) (by omega)
  have K2 := n1.trans n12
  go_wp2_with fail
  refine (l3Draw_any w2 w.heap.size g a c code t2 t20 (by omega) S2 (hr.up K2) hne hb hl).mono ?_
  rintro e w3 ⟨ys, yb, yl, ⟨a2, c2, g2, rfl, o2, p2, q2, r2⟩, N3, ⟨t3, t30, t31, S3⟩⟩
  have m3 := N3.size
  have n23 : Below w.heap.size w2 w3 := N3.below (Nat.le_refl _) (by omega)
  have K3 := K2.trans n23
  have o1a := o1.but N3 (fun _ => by omega)
  go_wp2_with fail
  refine (l3Draw_any w3 w.heap.size g a c code t3 t30 (by omega) S3 (hr.up K3) hne hb hl).mono ?_
  rintro e w4 ⟨zs, zb, zl, ⟨a3, c3, g3, rfl, o3, p3, q3, r3⟩, N4, ⟨t4, t40, t41, S4⟩⟩
  have n34 : Below w.heap.size w3 w4 := N4.below (Nat.le_refl _) (by omega)
  have K4 := K3.trans n34
  have o1b := o1a.but N4 (fun _ => by omega)
  have o2b := o2.but N4 (fun _ => by omega)
  clear N2 N3 N4 S1 S2 S3 S4 n1 n12 n23 n34 K2 K3 o1 o1a o2
  go_wp2
  go_ret3
  exact ⟨a1, a2, a3, c1, c2, c3, g1, g2, g3, xs, ys, zs, rfl, o1b, o2b, o3, xb, yb, zb, K4⟩
end Go.Proofs.YtbhmhkimddjhaaaDoor
