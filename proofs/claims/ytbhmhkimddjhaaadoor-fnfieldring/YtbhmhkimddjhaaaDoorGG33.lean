import Derived.Test.YtbhmhkimddjhaaaDoorGG23
import Derived.Test.YtbhmhkimddjhaaaDoorGG12
import Derived.Test.YtbhmhkimddjhaaaDoorGG32
/-
  The model's chapter 3: the order and its bytes, what is below it, what is left modulo it.
-/
namespace Go.Proofs.YtbhmhkimddjhaaaDoor
set_option maxRecDepth 100000
open Go.RowKit

theorem qtxt : Txt ⟨#[50, 55, 55, 52, 50, 51, 49, 55, 55, 55, 55, 51, 55, 50, 51, 53, 51, 53, 51, 53, 56, 53, 49, 57, 51, 55, 55, 57, 48, 56, 56, 51, 54, 52, 56, 52, 57, 51]⟩ qdec := by
  refine ⟨by decide, fun k hk => ?_⟩
  have : ∀ k : Fin 38, ∃ b : UInt8, (⟨#[50, 55, 55, 52, 50, 51, 49, 55, 55, 55, 55, 51, 55, 50, 51, 53, 51, 53, 51, 53, 56, 53, 49, 57, 51, 55, 55, 57, 48, 56, 56, 51, 54, 52, 56, 52, 57, 51]⟩ : ByteArray)[k.1]? = some b ∧ (b.toNat : Int) = qdec.getD k.1 0 + 48 := by
    intro k
    refine ⟨UInt8.ofNat (qdec.getD k.1 0 + 48).toNat, ?_, ?_⟩
    · revert k; decide
    · revert k; decide
  exact this ⟨k, hk⟩

set_option maxHeartbeats 1000000 in
theorem l3Order_any (w : World) :
    Calls Tryd.prog 48 #[] w fun e w' => ∃ ys, Canon ys QQ ∧ NewRow w.heap.size w' e .u8 ys ∧ Below w.heap.size w w' := by
  have n0 : Below w.heap.size w (w.alloc (.cells #[.int .u8 1] 5)) := (Below.refl _ _).alloc (Nat.le_refl _) _
  have B0 := one_a w 1
  have D := fun W => l1Decimal_any W _ qtxt
  have b1 : Byt [1] := byt_one (by omega) (by omega)
  have e1 : Hid (bval [1] = 1) := by show _ = _; decide
  go_enter Tryd.func48, Tryd.ntmps48
  go_wp2_with fail
  generalize w.alloc (.cells #[.int .u8 1] 5) = wa at *
  refine (l1Shift252_any wa _ _ 1 [1] B0.own0.rd b1 (by simp) (by simp)).mono ?_
  rintro e w1 ⟨xs, C1, ⟨a1, c1, g1, rfl, o1, p1, q1, r1⟩, n1⟩
  have N1 := nxt n0 n1
  go_wp2_with fail
  refine (D w1).mono ?_
  rintro e w2 ⟨us, C2, ⟨a2, c2, g2, rfl, o2, p2, q2, r2⟩, n2⟩
  have N2 := nxt N1 n2
  rw [e1.out, Int.one_mul] at C1
  have L1 : xs.length ≤ 64 := C1.len (by decide)
  have L2 : us.length ≤ 64 := C2.len (by decide)
  go_wp2_with fail
  refine (l1Add_any w2 g1 g2 a1 a2 c1 c2 xs us (o1.up n2).rd o2.rd C1.1 C2.1 (by omega) (by omega)).mono ?_
  rintro e w3 ⟨ys, C3, ⟨a3, c3, g3, rfl, o3, p3, q3, r3⟩, n3⟩
  have N3 := nxt N2 n3
  have z := N2.size
  rw [C1.2.1, C2.2.1] at C3
  have C4 : Canon ys QQ := C3
  clear C1 C2 C3
  go_wp2
  go_ret
  exact ⟨ys, C4, ⟨a3, c3, g3, rfl, o3, p3, q3, by omega⟩, N3⟩
theorem canon_q {ys : List Int} (C : Canon ys QQ) : ys.length ≤ 32 := C.len (by decide)
theorem q_pos {ys : List Int} (C : Canon ys QQ) : 0 < bval ys := by rw [C.2.1]; decide

/-- A number's bytes, the lowest first, by the model. -/
theorem tell_q {zs : List Int} (C : Byt zs) (v : Int) (h : bval zs = v) : fill (dig zs) 32 = fill (byt v) 32 :=
  fill_congr (fun i _ => by rw [dig_of C, h])

set_option maxHeartbeats 1000000 in
theorem specOrderBytes_any (w : World) :
    Calls Tryd.prog 11 #[] w fun e w' => NewRow w.heap.size w' e .u8 (fill (byt QQ) 32) ∧ Below w.heap.size w w' := by
  go_enter Tryd.func11, Tryd.ntmps11
  go_wp2_with fail
  refine (l3Order_any w).mono ?_
  rintro e w2 ⟨ys, C, ⟨a2, c2, g2, rfl, o2, q1, q2, q3⟩, n2⟩
  have L := canon_q C
  have V : Hid (fill (dig ys) 32 = fill (byt QQ) 32) := tell_q C.1 _ C.2.1
  go_wp2_with fail
  refine (l1Little_any w2 g2 a2 c2 ys 32 o2.rd C.1 (by omega) (by omega)).mono ?_
  rintro e w3 ⟨rfl, B3, n3⟩
  rw [V.out] at B3
  have N3 := nxt n2 n3
  have z := n2.size
  go_wp2
  go_ret
  exact ⟨⟨_, 32, w2.heap.size, by rw [fill_len]; rfl, B3.own0, by simp, by rw [fill_len]; omega, z⟩, N3⟩

theorem sg_negq (x y : Int) : decide (sg x y < 0) = decide (x < y) := by
  unfold sg
  by_cases h : x < y
  · rw [if_pos h]; simp [h]
  · rw [if_neg h]
    by_cases h2 : y < x
    · rw [if_pos h2, decide_eq_false h]; rfl
    · rw [if_neg h2, decide_eq_false h]; rfl
/-- What OrderValid answers. -/
def ovalid (xs : List Int) : Bool := decide (xs.length = 32) && decide (num xs < QQ)
set_option maxHeartbeats 2000000 in
theorem specOrderValid_any (w : World) (g : Nat) (a : Option Addr) (c : Nat) (xs : List Int) (hr : Rd w g a .u8 xs) (hb : Byt xs) :
    Calls Tryd.prog 16 #[.slice a xs.length c] w fun e w' => e = .returned (.bool (ovalid xs)) ∧ Below w.heap.size w w' := by
  by_cases hl : xs.length = 32
  · have R1 := l2Num_any w g a c xs hr hb (by omega)
    have K : ovalid xs = decide (num xs < QQ) := by simp [ovalid, hl]
    have hK := hide K
    have hL := hide hl
    clear K
    rw [hl] at R1 ⊢
    clear hl
    go_enter Tryd.func16, Tryd.ntmps16
    go_wp2_with fail
    refine R1.mono ?_
    rintro e w1 ⟨ys, C, l1, ⟨a1, c1, g1, rfl, o1, p1, p2, p3⟩, n1⟩
    go_wp2_with fail
    refine (l3Order_any w1).mono ?_
    rintro e w2 ⟨qs, C2, ⟨a2, c2, g2, rfl, o2, q1, q2, q3⟩, n2⟩
    have L2 := canon_q C2
    go_wp2_with fail
    refine (l1Cmp_any w2 g1 g2 a1 a2 c1 c2 ys qs (o1.up n2).rd o2.rd C.1 C2.1 (by omega) (by omega)).mono ?_
    rintro e w3 ⟨rfl, rfl⟩
    have N := nxt n1 n2
    have Q : Hid (decide (sg (bval ys) (bval qs) < 0) = ovalid xs) := by
      show _ = _
      have hv := C.2.1
      have e32 : num xs = lsum (fun j => xs.getD j 0) 32 := by unfold num; rw [hL.out]
      rw [hK.out, C2.2.1, hv, e32, sg_negq]
    generalize sg (bval ys) (bval qs) = s at *
    clear R1 C C2 n1 n2 o1 o2 p1 p2 p3 l1 q1 q2 q3
    go_wp2
    go_ret
    exact ⟨by rw [← Q.out]; rfl, N⟩
  · have K : ovalid xs = false := by simp [ovalid, hl]
    have hK := hide K
    have t : ((xs.length : Int) == 32) = false := by simp; omega
    clear K hl
    go_enter Tryd.func16, Tryd.ntmps16
    go_wp2
    go_ret
    exact ⟨by rw [hK.out]; rfl, Below.refl _ _⟩

/-- What OrderReduce answers. -/
def ored (xs : List Int) : List Int := if 1 ≤ xs.length ∧ xs.length ≤ 64 then fill (byt (num xs % QQ)) 32 else []
theorem ored_len (xs : List Int) : (ored xs).length ≤ 32 := by
  unfold ored
  split
  · rw [fill_len]; omega
  · simp
set_option maxHeartbeats 2000000 in
theorem specOrderReduce_any (w : World) (g : Nat) (a : Option Addr) (c : Nat) (xs : List Int) (hr : Rd w g a .u8 xs) (hb : Byt xs) :
    Calls Tryd.prog 19 #[.slice a xs.length c] w fun e w' => NewRow w.heap.size w' e .u8 (ored xs) ∧ Below w.heap.size w w' := by
  by_cases h : 1 ≤ xs.length ∧ xs.length ≤ 64
  · have R1 := l2Num_any w g a c xs hr hb (by omega)
    have K : Hid (ored xs = fill (byt (num xs % QQ)) 32) := by show _ = _; rw [ored, if_pos h]
    have t1 : decide ((xs.length : Int) < 1) = false := by simp; omega
    have t2 : decide ((64 : Int) < (xs.length : Int)) = false := by simp; omega
    have l64 : xs.length ≤ 64 := h.2
    clear h
    go_enter Tryd.func19, Tryd.ntmps19
    go_wp2_with fail
    refine R1.mono ?_
    rintro e w1 ⟨ys, C, l1, ⟨a1, c1, g1, rfl, o1, p1, p2, p3⟩, n1⟩
    go_wp2_with fail
    refine (l3Order_any w1).mono ?_
    rintro e w2 ⟨qs, C2, ⟨a2, c2, g2, rfl, o2, q1, q2, q3⟩, n2⟩
    have L2 := canon_q C2
    have N2 := nxt n1 n2
    go_wp2_with fail
    refine (l1Mod_any w2 g1 g2 a1 a2 c1 c2 ys qs (o1.up n2).rd o2.rd C.1 C2.1 q1 q2 (by omega) (by omega) (q_pos C2)).mono ?_
    rintro e w3 ⟨⟨zs, a3, c3, g3, rfl, o3, r1, r2, r3, C3⟩, n3⟩
    have N3 := nxt N2 n3
    have V : Hid (fill (dig zs) 32 = ored xs) := by
      show _ = _
      rw [K.out]
      exact tell_q C3.1 _ (by rw [C3.2.1, C2.2.1, C.2.1])
    have L3 : zs.length ≤ 32 := C3.len (by
      rw [C2.2.1]
      exact Int.lt_trans (Int.emod_lt_of_pos _ (by decide)) (by decide))
    go_wp2_with fail
    refine (l1Little_any w3 g3 a3 c3 zs 32 o3.rd C3.1 (by omega) (by omega)).mono ?_
    rintro e w4 ⟨rfl, B4, n4⟩
    rw [V.out] at B4
    have N4 := nxt N3 n4
    have z := N3.size
    have lo : (ored xs).length = 32 := by rw [K.out, fill_len]
    have LO := hide lo
    clear lo C C2 C3
    go_wp2
    go_ret
    exact ⟨⟨_, 32, w3.heap.size, by rw [LO.out]; rfl, B4.own0, by simp, by rw [LO.out]; omega, z⟩, N4⟩
  · have K : Hid (ored xs = []) := by show _ = _; rw [ored, if_neg h]
    have hal : Below w.heap.size w (w.alloc (.cells #[] 5)) := (Below.refl _ _).alloc (Nat.le_refl _) _
    by_cases h1 : xs.length < 1
    · have t1 : decide ((xs.length : Int) < 1) = true := by simp; omega
      clear h h1
      go_enter Tryd.func19, Tryd.ntmps19
      go_wp2
      go_ret
      rw [K.out]
      exact ⟨newRow_lit _ _, hal⟩
    · have t1 : decide ((xs.length : Int) < 1) = false := by simp; omega
      have t2 : decide ((64 : Int) < (xs.length : Int)) = true := by simp; omega
      clear h h1
      go_enter Tryd.func19, Tryd.ntmps19
      go_wp2
      go_ret
      rw [K.out]
      exact ⟨newRow_lit _ _, hal⟩
end Go.Proofs.YtbhmhkimddjhaaaDoor
/-
  The three lists of bytes that are drawn for OrderMulAdd.
-/
namespace Go.Proofs.YtbhmhkimddjhaaaDoor
set_option maxRecDepth 100000
open Go.RowKit

theorem little_byt {xs : List Int} (h : Byt xs) (n : Nat) : Byt (fill (dig xs) n) := dig_bytes h n

set_option maxHeartbeats 4000000 in
theorem l3Draw_any (w : World) (s g : Nat) (a : Option Addr) (c : Nat) (xs : List Int) (t : Int) (t0 : 0 ≤ t) (t1 : t ≤ 9000) (hs : Src w s a xs.length c t) (hr : Rd w g a .u8 xs) (hne : 0 < xs.length → g ≠ s) (hb : Byt xs) (hl : xs.length ≤ 1048576) :
    Calls Tryd.prog 61 #[.pointer (some ⟨s, 0, none⟩)] w fun e w' => ∃ ys, Byt ys ∧ ys.length ≤ 64 ∧ NewRow w.heap.size w' e .u8 ys ∧ But s w w' ∧ SrcTo w' s a xs.length c (t + 300) := by
  have sl := hs.lt
  have NX := l1Next_any w s g a c xs t 6 hs hr hne hb hl (by omega) (by omega) (by decide) (by decide)
  go_enter Tryd.func61, Tryd.ntmps61
  go_wp2_with fail
  refine NX.mono ?_
  rintro e w1 ⟨r, rfl, ⟨r0, r1⟩, S1, O1⟩
  have N1 : But s w w1 := But.ofOnly O1
  have hr1 := hr.but N1 hne
  have z1 := hide O1.size
  clear NX
  by_cases h2 : r < 2
  · have q1 : decide (r < 2) = true := by simp; omega
    clear h2 r0 r1
    go_wp2_with fail
    refine (l3Order_any w1).mono ?_
    rintro e w2 ⟨qs, Cq, ⟨a2, c2, g2, rfl, o2, p2, q2, r2⟩, n2⟩
    have N2 := N1.up n2
    have S2 := S1.up n2
    have hz2 : w.heap.size ≤ g2 := by have := z1.out; omega
    go_wp2_with fail
    refine (l1Next_any w2 s g a c xs (t + 1) 15 S2 (hr.but N2 hne) hne hb hl (by omega) (by omega) (by decide) (by decide)).mono ?_
    rintro e w3 ⟨v, rfl, ⟨v0, v1⟩, S3, O3⟩
    have N3 := N2.only O3
    have o3 := o2.only O3 (fun _ => by omega)
    have hw : IntKind.i64.wrap (1 + v) = 1 + v := by rw [IntKind.wrap_i64]; omega
    have hw8 : (1 + v) % 256 = 1 + v := by omega
    have hw9 : IntKind.u8.wrap (1 + v) = 1 + v := by rw [IntKind.wrap_u8]; omega
    have bv := byt_one (d := 1 + v) (by omega) (by omega)
    have nB : Below w3.heap.size w3 (w3.alloc (.cells #[.int .u8 (1 + v)] 5)) := (Below.refl _ _).alloc (Nat.le_refl _) _
    have BB := one_a w3 (1 + v)
    have Lq := canon_q Cq
    have ev : bval [1 + v] = 1 + v := by simp [bval]
    go_wp2_with fail
    generalize w3.alloc (.cells #[.int .u8 (1 + v)] 5) = wB at *
    refine (l1Mul_any wB g2 _ a2 _ c2 1 qs [1 + v] (o3.up nB).rd BB.own0.rd Cq.1 bv (by omega) (by simp)).mono ?_
    rintro e w4 ⟨ms, C4, ⟨a4, c4, g4, rfl, o4, p4, q4, r4⟩, n4⟩
    have N4 := (N3.up nB).up n4
    have S4 := (S3.up nB).up n4
    rw [Cq.2.1, ev] at C4
    have V4 : QQ ≤ bval ms := by
      rw [C4.2.1]
      have : QQ * 1 ≤ QQ * (1 + v) := Int.mul_le_mul_of_nonneg_left (by omega) (by decide)
      omega
    have L4 : ms.length ≤ 64 := C4.len (by
      have : QQ * (1 + v) ≤ QQ * 15 := Int.mul_le_mul_of_nonneg_left (by omega) (by decide)
      exact Int.lt_of_le_of_lt this (by decide))
    have M4 := C4.1
    have hg4 : w.heap.size ≤ g4 := by have := (N3.up nB).size; omega
    clear C4 BB hw hw8 hw9 ev bv o3 o2 Cq N1 N2 N3 S1 S2 S3 nB n4 n2 O3
    have nC : Below w4.heap.size w4 (w4.alloc (.cells #[.int .u8 3] 5)) := (Below.refl _ _).alloc (Nat.le_refl _) _
    have BC := one_a w4 3
    have b3 := byt_one (d := 3) (by omega) (by omega)
    have e3 : bval [3] = 3 := by decide
    go_wp2_with fail
    generalize w4.alloc (.cells #[.int .u8 3] 5) = wC at *
    refine (l1Add_any wC g4 _ a4 _ c4 1 ms [3] (o4.up nC).rd BC.own0.rd M4 b3 (by omega) (by decide)).mono ?_
    rintro e w5 ⟨ys5, C5, ⟨a5, c5, g5, rfl, o5, p5, q5, r5⟩, n5⟩
    have N5 := (N4.up nC).up n5
    have S5 := (S4.up nC).up n5
    have hg5 : w.heap.size ≤ g5 := by have := (N4.up nC).size; omega
    have V5 : QQ ≤ bval ys5 := by rw [C5.2.1, e3]; omega
    have L5 : ys5.length ≤ 65 := C5.len (n := 65) (by
      have b4 := Int.lt_of_lt_of_le (bval_lt M4) (p256_le (show ms.length ≤ 64 from L4))
      have e64 : (256 : Int) ^ 65 = 256 ^ 64 * 256 := by rw [← Int.pow_succ]
      have e1 : (3 : Int) ≤ 256 ^ 64 := by decide
      rw [e3, e64]
      omega)
    have M5 := C5.1
    clear C5 BC b3 e3 o4 N4 S4 nC n5 V4 L4
    go_wp2_with fail
    refine (l1Next_any w5 s g a c xs (t + 1 + 1) 7 S5 (hr.but N5 hne) hne hb hl (by omega) (by omega) (by decide) (by decide)).mono ?_
    rintro e w6 ⟨v6, rfl, ⟨v60, v61⟩, S6, O6⟩
    have N6 := N5.only O6
    have o6 := o5.only O6 (fun _ => by omega)
    go_wp2_with fail
    refine (l1Int_any w6 v6 v60 (by omega)).mono ?_
    rintro e w7 ⟨i1, il, ib, ⟨ai, ci, gi, rfl, oi, pi, qi, ri⟩, n7⟩
    have o7 := o6.up n7
    have N7 := N6.up n7
    have S7 := S6.up n7
    have V : Hid (bval i1 ≤ bval ys5) := by
      show _ ≤ _
      have h1 : bval i1 < 256 := by
        have := bval_lt ib
        have hp : (256 : Int) ^ i1.length ≤ 256 ^ 1 := p256_le il
        have : (256 : Int) ^ 1 = 256 := by decide
        omega
      have : (256 : Int) ≤ QQ := by decide
      omega
    have LI : i1.length ≤ ys5.length := by
      by_cases e : ys5.length = 0
      · have : ys5 = [] := List.eq_nil_of_length_eq_zero e
        subst this
        rw [bval_nil] at V5
        exact absurd V5 (by decide)
      · omega
    clear o5 o6 N5 N6 S5 S6 n7 O6 V5
    go_wp2_with fail
    refine (l1Sub_any w7 g5 gi a5 ai c5 ci ys5 i1 o7.rd oi.rd M5 ib (by omega) LI V.out).mono ?_
    rintro e w8 ⟨y8, C8, ⟨a8, c8', g8, rfl, o8, p8, q8, r8⟩, n8⟩
    have L8 : y8.length ≤ 65 := C8.len (Int.lt_of_le_of_lt (show bval ys5 - bval i1 ≤ bval ys5 by have := bval_nonneg ib; omega) (Int.lt_of_lt_of_le (bval_lt M5) (p256_le L5)))
    go_wp2_with fail
    refine (l1Little_any w8 g8 a8 c8' y8 32 o8.rd C8.1 (by omega) (by omega)).mono ?_
    rintro e w9 ⟨rfl, B9, n9⟩
    have N9 := (N7.up n8).up n9
    have S9 := (S7.up n8).up n9
    have z := (N7.up n8).size
    clear LI V
    go_wp2
    go_ret
    exact ⟨_, little_byt C8.1 32, by rw [fill_len]; omega, ⟨_, 32, w8.heap.size, by rw [fill_len]; rfl, B9.own0, by simp, by rw [fill_len]; omega, z⟩, N9, ⟨_, by omega, by omega, S9⟩⟩
  · have q1 : decide (r < 2) = false := by simp; omega
    by_cases h3 : r = 2
    · subst h3
      clear h2 r0 r1
      have L2 := l2DrawT_any w1 s g a c xs (t + 1) (by omega) (by omega) S1 hr1 hne hb hl
      go_wp2_with fail
      refine L2.mono ?_
      rintro e w2 ⟨ys, yb, yl, ⟨a2, c2, g2, rfl, o2, p2, q2, r2⟩, N2, ⟨t2, t20, t21, S2⟩⟩
      have N3 := N1.trans N2
      have z := z1.out
      have ZZ : Hid (w.heap.size ≤ g2) := by show _ ≤ _; omega
      clear L2 z
      go_wp2
      go_ret
      exact ⟨ys, yb, yl, ⟨_, _, g2, rfl, o2, p2, q2, ZZ.out⟩, N3, ⟨t2, t20, by omega, S2⟩⟩
    · have q2 : (r == 2) = false := by simp; omega
      clear h2 h3 r0 r1
      go_wp2_with fail
      refine (l1DrawBytes_any w1 s g a c xs (t + 1) 32 S1 hr1 hne hb hl (by omega) (by omega)).mono ?_
      rintro e w2 ⟨ys, yl, yb, ⟨a2, c2, g2, rfl, o2, p2, q2', r2⟩, S2, N2⟩
      have N3 := N1.trans N2
      have z := z1.out
      have ZZ : Hid (w.heap.size ≤ g2) := by show _ ≤ _; omega
      have L := hide yl
      clear yl z
      go_wp2
      go_ret
      exact ⟨ys, yb, by have := L.out; omega, ⟨_, _, g2, by first | rfl | (rw [L.out]; rfl), o2, p2, q2', ZZ.out⟩, N3, ⟨_, by omega, by omega, S2⟩⟩

set_option maxHeartbeats 2000000 in
theorem drawOrderMulAdd_any (w : World) (g : Nat) (a : Option Addr) (c : Nat) (code : List Int) (hr : Rd w g a .u8 code) (hb : Byt code) (hl : code.length ≤ 1048576) :
    Calls Tryd.prog 23 #[.slice a code.length c] w fun e w' => ∃ (a1 a2 a3 : Option Addr) (c1 c2 c3 g1 g2 g3 : Nat) (xs ys zs : List Int), e = .returned (.tuple #[.slice a1 xs.length c1, .slice a2 ys.length c2, .slice a3 zs.length c3]) ∧ Own w' g1 a1 .u8 xs ∧ Own w' g2 a2 .u8 ys ∧ Own w' g3 a3 .u8 zs ∧ Byt xs ∧ Byt ys ∧ Byt zs ∧ Below w.heap.size w w' := by
  have hne : 0 < code.length → g ≠ w.heap.size := fun h => by have := hr.lt h; omega
  go_enter Tryd.func23, Tryd.ntmps23
  go_wp2_with fail
  refine (l1Source_any w a code.length c hl).mono ?_
  rintro e w1 ⟨rfl, S1, n1⟩
  have sl := S1.lt
  go_wp2_with fail
  refine (l3Draw_any w1 w.heap.size g a c code 0 (by omega) (by omega) S1 (hr.up n1) hne hb hl).mono ?_
  rintro e w2 ⟨xs, xb, xl, ⟨a1, c1, g1, rfl, o1, p1, q1, r1⟩, N2, ⟨t2, t20, t21, S2⟩⟩
  have m2 := N2.size
  have n12 : Below w.heap.size w1 w2 := N2.below (Nat.le_refl _) (by omega)
  have K2 := n1.trans n12
  go_wp2_with fail
  refine (l3Draw_any w2 w.heap.size g a c code t2 t20 (by omega) S2 (hr.up K2) hne hb hl).mono ?_
  rintro e w3 ⟨ys, yb, yl, ⟨a2, c2, g2, rfl, o2, p2, q2, r2⟩, N3, ⟨t3, t30, t31, S3⟩⟩
  have m3 := N3.size
  have n23 : Below w.heap.size w2 w3 := N3.below (Nat.le_refl _) (by omega)
  have K3 := K2.trans n23
  have o1a := o1.but N3 (fun _ => by omega)
  go_wp2_with fail
  refine (l3Draw_any w3 w.heap.size g a c code t3 t30 (by omega) S3 (hr.up K3) hne hb hl).mono ?_
  rintro e w4 ⟨zs, zb, zl, ⟨a3, c3, g3, rfl, o3, p3, q3, r3⟩, N4, ⟨t4, t40, t41, S4⟩⟩
  have n34 : Below w.heap.size w3 w4 := N4.below (Nat.le_refl _) (by omega)
  have K4 := K3.trans n34
  have o1b := o1a.but N4 (fun _ => by omega)
  have o2b := o2.but N4 (fun _ => by omega)
  clear N2 N3 N4 S1 S2 S3 S4 n1 n12 n23 n34 K2 K3 o1 o1a o2
  go_wp2
  go_ret3
  exact ⟨a1, a2, a3, c1, c2, c3, g1, g2, g3, xs, ys, zs, rfl, o1b, o2b, o3, xb, yb, zb, K4⟩
end Go.Proofs.YtbhmhkimddjhaaaDoor
