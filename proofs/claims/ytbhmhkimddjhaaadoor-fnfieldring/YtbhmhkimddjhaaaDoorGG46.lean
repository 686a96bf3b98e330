import Derived.Test.YtbhmhkimddjhaaaDoorGG17
import Derived.Test.YtbhmhkimddjhaaaDoorGG31
/-
  What the three operations share: the model's l2Two, bounds of bytes, the elements' operations with their values.
-/
namespace Go.Proofs.YtbhmhkimddjhaaaDoor
set_option maxRecDepth 100000
open Go.RowKit

theorem bval_lt32 {ys : List Int} (h : Byt ys) (hl : ys.length ≤ 32) : bval ys < 115792089237316195423570985008687907853269984665640564039457584007913129639936 := by
  have h1 := (lo_bd h 32).2
  rw [lo_all ys 32 hl] at h1
  have h2 : (256 : Int) ^ 32 = 115792089237316195423570985008687907853269984665640564039457584007913129639936 := by decide
  omega
theorem add_lt64 {x y : Int} (hx : x < 115792089237316195423570985008687907853269984665640564039457584007913129639936) (hy : y < 115792089237316195423570985008687907853269984665640564039457584007913129639936) : x + y < 256 ^ 64 := by
  have h2 : (115792089237316195423570985008687907853269984665640564039457584007913129639936 : Int) + 115792089237316195423570985008687907853269984665640564039457584007913129639936 < 256 ^ 64 := by decide
  omega
theorem mul_lt64 {x y : Int} (hx : x < 115792089237316195423570985008687907853269984665640564039457584007913129639936) (hy : y < 115792089237316195423570985008687907853269984665640564039457584007913129639936) (x0 : 0 ≤ x) (y0 : 0 ≤ y) : x * y < 256 ^ 64 := by
  have h1 : x * y ≤ 115792089237316195423570985008687907853269984665640564039457584007913129639935 * 115792089237316195423570985008687907853269984665640564039457584007913129639935 := Int.mul_le_mul (by omega) (by omega) y0 (by decide)
  have h2 : (115792089237316195423570985008687907853269984665640564039457584007913129639935 : Int) * 115792089237316195423570985008687907853269984665640564039457584007913129639935 < 256 ^ 64 := by decide
  omega

set_option maxHeartbeats 1000000 in
theorem l2Two_any (w : World) (a b : Option Addr) (ca cb n m : Nat) :
    Calls Tryd.prog 81 #[.slice a n ca, .slice b m cb] w fun e w' => e = .returned (.bool (decide (n = 32 ∧ m = 32))) ∧ w' = w := by
  by_cases h : n = 32
  · subst h
    by_cases h2 : m = 32
    · subst h2
      go_enter Tryd.func81, Tryd.ntmps81
      go_wp2
      go_ret
      exact ⟨rfl, rfl⟩
    · have t : ((m : Int) == 32) = false := by simp; omega
      rw [show decide ((32 : Nat) = 32 ∧ m = 32) = false by simp [h2]]
      clear h2
      go_enter Tryd.func81, Tryd.ntmps81
      go_wp2
      go_ret
      exact ⟨rfl, rfl⟩
  · have t : ((n : Int) == 32) = false := by simp; omega
    have R : Hid (decide (n = 32 ∧ m = 32) = false) := by show _ = _; simp [h]
    clear h
    go_enter Tryd.func81, Tryd.ntmps81
    go_wp2
    go_ret
    exact ⟨by rw [R.out]; rfl, rfl⟩

theorem addE_any (w : World) (e f : Nat → Int) (he : Lm e) (hf : Lm f) :
    Calls Tryd.prog 83 #[ag5 e, ag5 f] w fun r w' => ∃ t, r = .returned (ag5 t) ∧ Lm t ∧ sv t 5 = (sv e 5 + sv f 5) % PP ∧ Below w.heap.size w w' := by
  refine (add_any w e f he hf).mono ?_
  rintro r w' ⟨rfl, n⟩
  obtain ⟨_, h2, h3⟩ := add_ok he hf
  exact ⟨_, rfl, h3, h2, n⟩
end Go.Proofs.YtbhmhkimddjhaaaDoor
/-
  The model's chapter 3: the order and its bytes, what is below it, what is left modulo it.
-/
namespace Go.Proofs.YtbhmhkimddjhaaaDoor
set_option maxRecDepth 100000
open Go.RowKit

theorem qtxt : Txt ⟨#[50, 55, 55, 52, 50, 51, 49, 55, 55, 55, 55, 51, 55, 50, 51, 53, 51, 53, 51, 53, 56, 53, 49, 57, 51, 55, 55, 57, 48, 56, 56, 51, 54, 52, 56, 52, 57, 51]⟩ qdec := by
  refine ⟨by decide, fun k hk => ?_⟩
  have : ∀ k : Fin 38, ∃ b : UInt8, (⟨#[50, 55, 55, 52, 50, 51, 49, 55, 55, 55, 55, 51, 55, 50, 51, 53, 51, 53, 51, 53, 56, 53, 49, 57, 51, 55, 55, 57, 48, 56, 56, 51, 54, 52, 56, 52, 57, 51]⟩ : ByteArray)[k.1]? = some b ∧ (b.toNat : Int) = qdec.getD k.1 0 + 48 := by
    intro k
    refine ⟨UInt8.ofNat (qdec.getD k.1 0 + 48).toNat, ?_, ?_⟩
    · revert k; decide
    · revert k; decide
  exact this ⟨k, hk⟩

set_option maxHeartbeats 1000000 in
theorem l3Order_any (w : World) :
    Calls Tryd.prog 48 #[] w fun e w' => ∃ ys, Canon ys QQ ∧ NewRow w.heap.size w' e .u8 ys ∧ Below w.heap.size w w' := by
  have n0 : Below w.heap.size w (w.alloc (.cells #[.int .u8 1] 5)) := (Below.refl _ _).alloc (Nat.le_refl _) _
  have B0 := one_a w 1
  have D := fun W => l1Decimal_any W _ qtxt
  have b1 : Byt [1] := byt_one (by omega) (by omega)
  have e1 : Hid (bval [1] = 1) := by show _ = _; decide
  go_enter Tryd.func48, Tryd.ntmps48
  go_wp2_with fail
  generalize w.alloc (.cells #[.int .u8 1] 5) = wa at *
  refine (l1Shift252_any wa _ _ 1 [1] B0.own0.rd b1 (by simp) (by simp)).mono ?_
  rintro e w1 ⟨xs, C1, ⟨a1, c1, g1, rfl, o1, p1, q1, r1⟩, n1⟩
  have N1 := nxt n0 n1
  go_wp2_with fail
  refine (D w1).mono ?_
  rintro e w2 ⟨us, C2, ⟨a2, c2, g2, rfl, o2, p2, q2, r2⟩, n2⟩
  have N2 := nxt N1 n2
  rw [e1.out, Int.one_mul] at C1
  have L1 : xs.length ≤ 64 := C1.len (by decide)
  have L2 : us.length ≤ 64 := C2.len (by decide)
  go_wp2_with fail
  refine (l1Add_any w2 g1 g2 a1 a2 c1 c2 xs us (o1.up n2).rd o2.rd C1.1 C2.1 (by omega) (by omega)).mono ?_
  rintro e w3 ⟨ys, C3, ⟨a3, c3, g3, rfl, o3, p3, q3, r3⟩, n3⟩
  have N3 := nxt N2 n3
  have z := N2.size
  rw [C1.2.1, C2.2.1] at C3
  have C4 : Canon ys QQ := C3
  clear C1 C2 C3
  go_wp2
  go_ret
  exact ⟨ys, C4, ⟨a3, c3, g3, rfl, o3, p3, q3, by omega⟩, N3⟩
theorem canon_q {ys : List Int} (C : Canon ys QQ) : ys.length ≤ 32 := C.len (by decide)
theorem q_pos {ys : List Int} (C : Canon ys QQ) : 0 < bval ys := by rw [C.2.1]; decide

/-- A number's bytes, the lowest first, by the model. -/
theorem tell_q {zs : List Int} (C : Byt zs) (v : Int) (h : bval zs = v) : fill (dig zs) 32 = fill (byt v) 32 :=
  fill_congr (fun i _ => by rw [dig_of C, h])

set_option maxHeartbeats 1000000 in
theorem specOrderBytes_any (w : World) :
    Calls Tryd.prog 11 #[] w fun e w' => NewRow w.heap.size w' e .u8 (fill (byt QQ) 32) ∧ Below w.heap.size w w' := by
  go_enter Tryd.func11, Tryd.ntmps11
  go_wp2_with fail
  refine (l3Order_any w).mono ?_
  rintro e w2 ⟨ys, C, ⟨a2, c2, g2, rfl, o2, q1, q2, q3⟩, n2⟩
  have L := canon_q C
  have V : Hid (fill (dig ys) 32 = fill (byt QQ) 32) := tell_q C.1 _ C.2.1
  go_wp2_with fail
  refine (l1Little_any w2 g2 a2 c2 ys 32 o2.rd C.1 (by omega) (by omega)).mono ?_
  rintro e w3 ⟨rfl, B3, n3⟩
  rw [V.out] at B3
  have N3 := nxt n2 n3
  have z := n2.size
  go_wp2
  go_ret
  exact ⟨⟨_, 32, w2.heap.size, by rw [fill_len]; rfl, B3.own0, by simp, by rw [fill_len]; omega, z⟩, N3⟩

theorem sg_negq (x y : Int) : decide (sg x y < 0) = decide (x < y) := by
  unfold sg
  by_cases h : x < y
  · rw [if_pos h]; simp [h]
  · rw [if_neg h]
    by_cases h2 : y < x
    · rw [if_pos h2, decide_eq_false h]; rfl
    · rw [if_neg h2, decide_eq_false h]; rfl
/-- What OrderValid answers. -/
def ovalid (xs : List Int) : Bool := decide (xs.length = 32) && decide (num xs < QQ)
set_option maxHeartbeats 2000000 in
theorem specOrderValid_any (w : World) (g : Nat) (a : Option Addr) (c : Nat) (xs : List Int) (hr : Rd w g a .u8 xs) (hb : Byt xs) :
    Calls Tryd.prog 16 #[.slice a xs.length c] w fun e w' => e = .returned (.bool (ovalid xs)) ∧ Below w.heap.size w w' := by
  by_cases hl : xs.length = 32
  · have R1 := l2Num_any w g a c xs hr hb (by omega)
    have K : ovalid xs = decide (num xs < QQ) := by simp [ovalid, hl]
    have hK := hide K
    have hL := hide hl
    clear K
    rw [hl] at R1 ⊢
    clear hl
    go_enter Tryd.func16, Tryd.ntmps16
    go_wp2_with fail
    refine R1.mono ?_
    rintro e w1 ⟨ys, C, l1, ⟨a1, c1, g1, rfl, o1, p1, p2, p3⟩, n1⟩
    go_wp2_with fail
    refine (l3Order_any w1).mono ?_
    rintro e w2 ⟨qs, C2, ⟨a2, c2, g2, rfl, o2, q1, q2, q3⟩, n2⟩
    have L2 := canon_q C2
    go_wp2_with fail
    refine (l1Cmp_any w2 g1 g2 a1 a2 c1 c2 ys qs (o1.up n2).rd o2.rd C.1 C2.1 (by omega) (by omega)).mono ?_
    rintro e w3 ⟨rfl, rfl⟩
    have N := nxt n1 n2
    have Q : Hid (decide (sg (bval ys) (bval qs) < 0) = ovalid xs) := by
      show _ = _
      have hv := C.2.1
      have e32 : num xs = lsum (fun j => xs.getD j 0) 32 := by unfold num; rw [hL.out]
      rw [hK.out, C2.2.1, hv, e32, sg_negq]
    generalize sg (bval ys) (bval qs) = s at *
    clear R1 C C2 n1 n2 o1 o2 p1 p2 p3 l1 q1 q2 q3
    go_wp2
    go_ret
    exact ⟨by rw [← Q.out]; rfl, N⟩
  · have K : ovalid xs = false := by simp [ovalid, hl]
    have hK := hide K
    have t : ((xs.length : Int) == 32) = false := by simp; omega
    clear K hl
    go_enter Tryd.func16, Tryd.ntmps16
    go_wp2
    go_ret
    exact ⟨by rw [hK.out]; rfl, Below.refl _ _⟩

/-- What OrderReduce answers. -/
def ored (xs : List Int) : List Int := if 1 ≤ xs.length ∧ xs.length ≤ 64 then fill (byt (num xs % QQ)) 32 else []
theorem ored_len (xs : List Int) : (ored xs).length ≤ 32 := by
  unfold ored
  split
  · rw [fill_len]; omega
  · simp
set_option maxHeartbeats 2000000 in
theorem specOrderReduce_any (w : World) (g : Nat) (a : Option Addr) (c : Nat) (xs : List Int) (hr : Rd w g a .u8 xs) (hb : Byt xs) :
    Calls Tryd.prog 19 #[.slice a xs.length c] w fun e w' => NewRow w.heap.size w' e .u8 (ored xs) ∧ Below w.heap.size w w' := by
  by_cases h : 1 ≤ xs.length ∧ xs.length ≤ 64
  · have R1 := l2Num_any w g a c xs hr hb (by omega)
    have K : Hid (ored xs = fill (byt (num xs % QQ)) 32) := by show _ = _; rw [ored, if_pos h]
    have t1 : decide ((xs.length : Int) < 1) = false := by simp; omega
    have t2 : decide ((64 : Int) < (xs.length : Int)) = false := by simp; omega
    have l64 : xs.length ≤ 64 := h.2
    clear h
    go_enter Tryd.func19, Tryd.ntmps19
    go_wp2_with fail
    refine R1.mono ?_
    rintro e w1 ⟨ys, C, l1, ⟨a1, c1, g1, rfl, o1, p1, p2, p3⟩, n1⟩
    go_wp2_with fail
    refine (l3Order_any w1).mono ?_
    rintro e w2 ⟨qs, C2, ⟨a2, c2, g2, rfl, o2, q1, q2, q3⟩, n2⟩
    have L2 := canon_q C2
    have N2 := nxt n1 n2
    go_wp2_with fail
    refine (l1Mod_any w2 g1 g2 a1 a2 c1 c2 ys qs (o1.up n2).rd o2.rd C.1 C2.1 q1 q2 (by omega) (by omega) (q_pos C2)).mono ?_
    rintro e w3 ⟨⟨zs, a3, c3, g3, rfl, o3, r1, r2, r3, C3⟩, n3⟩
    have N3 := nxt N2 n3
    have V : Hid (fill (dig zs) 32 = ored xs) := by
      show _ = _
      rw [K.out]
      exact tell_q C3.1 _ (by rw [C3.2.1, C2.2.1, C.2.1])
    have L3 : zs.length ≤ 32 := C3.len (by
      rw [C2.2.1]
      exact Int.lt_trans (Int.emod_lt_of_pos _ (by decide)) (by decide))
    go_wp2_with fail
    refine (l1Little_any w3 g3 a3 c3 zs 32 o3.rd C3.1 (by omega) (by omega)).mono ?_
    rintro e w4 ⟨rfl, B4, n4⟩
    rw [V.out] at B4
    have N4 := nxt N3 n4
    have z := N3.size
    have lo : (ored xs).length = 32 := by rw [K.out, fill_len]
    have LO := hide lo
    clear lo C C2 C3
    go_wp2
    go_ret
    exact ⟨⟨_, 32, w3.heap.size, by rw [LO.out]; rfl, B4.own0, by simp, by rw [LO.out]; omega, z⟩, N4⟩
  · have K : Hid (ored xs = []) := by show _ = _; rw [ored, if_neg h]
    have hal : Below w.heap.size w (w.alloc (.cells #[] 5)) := (Below.refl _ _).alloc (Nat.le_refl _) _
    by_cases h1 : xs.length < 1
    · have t1 : decide ((xs.length : Int) < 1) = true := by simp; omega
      clear h h1
      go_enter Tryd.func19, Tryd.ntmps19
      go_wp2
      go_ret
      rw [K.out]
      exact ⟨newRow_lit _ _, hal⟩
    · have t1 : decide ((xs.length : Int) < 1) = false := by simp; omega
      have t2 : decide ((64 : Int) < (xs.length : Int)) = true := by simp; omega
      clear h h1
      go_enter Tryd.func19, Tryd.ntmps19
      go_wp2
      go_ret
      rw [K.out]
      exact ⟨newRow_lit _ _, hal⟩
end Go.Proofs.YtbhmhkimddjhaaaDoor
