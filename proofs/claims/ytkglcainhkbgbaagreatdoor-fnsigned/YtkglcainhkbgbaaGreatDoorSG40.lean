import Derived.Test.YtkglcainhkbgbaaGreatDoorSG39
import Derived.Test.YtkglcainhkbgbaaGreatDoorSG24
import Derived.Laws.BitsAllLaws
import Derived.Test.YtkglcainhkbgbaaGreatDoorSG1
import Derived.Test.YtkglcainhkbgbaaGreatDoorSG38
import Derived.Test.YtkglcainhkbgbaaGreatDoorSG7
import Derived.Test.YtkglcainhkbgbaaGreatDoorSG32
namespace Go.Proofs.YtkglcainhkbgbaaGreatDoor
set_option maxRecDepth 100000
open Go Go.RowKit
theorem and_not7 (x : Int) (h0 : 0 ≤ x) (h1 : x < 18446744073709551616) : bits BinOp.andNot IntKind.u64 x 7 = x - x % 8 := by
  obtain ⟨n, rfl⟩ := Int.eq_ofNat_of_zero_le h0
  have hn : n < 18446744073709551616 := by omega
  have h := u64_andNot_nat n 7 hn (by omega)
  have e : n &&& (18446744073709551615 - 7) = n / 8 * 8 := by
    apply Nat.eq_of_testBit_eq
    intro i
    rw [Nat.testBit_and, show (18446744073709551615 - 7 : Nat) = (2 ^ 61 - 1) * 2 ^ 3 from rfl, show n / 8 * 8 = n / 2 ^ 3 * 2 ^ 3 from rfl, Nat.testBit_mul_two_pow, Nat.testBit_mul_two_pow, Nat.testBit_two_pow_sub_one, Nat.testBit_div_two_pow]
    by_cases c : 3 ≤ i
    · rw [show i - 3 + 3 = i by omega]
      by_cases d : i < 64
      · simp [c, show i - 3 < 61 by omega]
      · have : n.testBit i = false := Nat.testBit_lt_two_pow (Nat.lt_of_lt_of_le hn (Nat.pow_le_pow_right (n := 2) (by decide) (show 64 ≤ i by omega)))
        simp [this]
    · simp [c]
  rw [e] at h
  rw [show (7 : Int) = ((7 : Nat) : Int) from rfl, h]
  omega
theorem and_not63 (x : Int) (h0 : 0 ≤ x) (h1 : x < 18446744073709551616) : bits BinOp.andNot IntKind.u64 x 9223372036854775808 = x % 9223372036854775808 := by
  obtain ⟨n, rfl⟩ := Int.eq_ofNat_of_zero_le h0
  have h := u64_andNot_nat n 9223372036854775808 (by omega) (by omega)
  rw [show (18446744073709551615 - 9223372036854775808 : Nat) = 2 ^ 63 - 1 from rfl, Nat.and_two_pow_sub_one_eq_mod] at h
  rw [show (9223372036854775808 : Int) = ((9223372036854775808 : Nat) : Int) from rfl, h]
  omega
theorem or62 (x : Int) (h0 : 0 ≤ x) (h1 : x < 9223372036854775808) : bits BinOp.or IntKind.u64 x 4611686018427387904 = x % 4611686018427387904 + 4611686018427387904 := by
  obtain ⟨n, rfl⟩ := Int.eq_ofNat_of_zero_le h0
  have h := bits_or_u64_nat n 4611686018427387904 (by omega) (by omega)
  have hr : n % 4611686018427387904 < 2 ^ 62 := by omega
  have o1 : 1 <<< 62 + n % 4611686018427387904 = 1 <<< 62 ||| n % 4611686018427387904 := Nat.shiftLeft_add_eq_or_of_lt hr 1
  have e : n ||| 4611686018427387904 = 4611686018427387904 + n % 4611686018427387904 := by
    rcases (show n = n % 4611686018427387904 ∨ n = 4611686018427387904 + n % 4611686018427387904 by omega) with c | c
    · rw [← c] at o1 ⊢
      rw [Nat.or_comm]
      exact o1.symm
    · have o2 : n = 4611686018427387904 ||| n % 4611686018427387904 := c.trans o1
      rw [o2, Nat.or_comm, ← Nat.or_assoc, Nat.or_self, ← o2]
      exact c
  rw [e] at h
  rw [show (4611686018427387904 : Int) = ((4611686018427387904 : Nat) : Int) from rfl, h]
  omega
def clw (W : Nat → Int) (j : Nat) : Int := if j = 0 then W 0 - W 0 % 8 else if j = 3 then W 3 % 4611686018427387904 + 4611686018427387904 else W j
theorem clw_ok {W : Nat → Int} (h : W4 W) : W4 (clw W) := by
  intro j hj
  have := h 0 (by omega)
  have := h 3 (by omega)
  have := h j hj
  unfold clw
  split
  · omega
  · split <;> omega
set_option maxHeartbeats 2000000 in
theorem readScalar_any (w : World) (g : Nat) (a : Option Addr) (cap : Nat) (xs : List Int) (hr : Rd w g a .u8 xs) (hb : Byt xs) (hl : xs.length = 32) :
    Calls Tryz.prog 23 #[.slice a 32 cap] w fun e w' => e = .returned (ag4 (wv (fun j => xs.getD j 0) 32)) ∧ Below w.heap.size w w' := by
  have hal : Below w.heap.size w (w.alloc (.cells #[.int .u64 0, .int .u64 0, .int .u64 0, .int .u64 0] 41)) := (Below.refl _ _).alloc (Nat.le_refl _) _
  have T0 := blk_box4 w .u64 41 0 0 0 0
  have sz0 : (w.alloc (.cells #[.int .u64 0, .int .u64 0, .int .u64 0, .int .u64 0] 41)).heap.size = w.heap.size + 1 := by simp
  have RW' := hide (fun w' n => readWords_any w' g a cap xs (hr.up n) hb hl)
  clear hl
  go_enter Tryz.func23, Tryz.ntmps23
  go_wp2_with fail
  generalize w.alloc (.cells #[.int .u64 0, .int .u64 0, .int .u64 0, .int .u64 0] 41) = wa at *
  refine (RW'.out wa hal).mono ?_
  rintro r w1 ⟨rfl, n1⟩
  obtain ⟨u, hu⟩ : ∃ u, u = wv (fun j => xs.getD j 0) 32 := ⟨_, rfl⟩
  have hU := hide hu
  rw [← hu]
  clear hu
  obtain ⟨⟨p0, p1, p2, p3⟩, ⟨g0, g1, g2, g3⟩⟩ := (T0.up n1).f4
  have N := nxt hal n1
  clear RW' T0 hal n1 hr hb
  simp only [ag4]
  go_wp2
  refine bodyPost_ret (v := ag4 u) (by simp [ag4, results, Tryz.results23, go_sem, p0, p1, p2, p3]) rfl ⟨by rw [hU.out], ?_⟩
  exact below_set4 N (by omega) _ _ _ _
set_option maxHeartbeats 4000000 in
theorem clamp_any (w : World) (W : Nat → Int) (hW : W4 W) :
    Calls Tryz.prog 33 #[ag4 W] w fun r w' => r = .returned (ag4 (clw W)) ∧ Below w.heap.size w w' := by
  have b0 := hW 0 (by omega)
  have b1 := hW 1 (by omega)
  have b2 := hW 2 (by omega)
  have b3 := hW 3 (by omega)
  have e1 := and_not7 (W 0) b0.1 b0.2
  have e2 := and_not63 (W 3) b3.1 b3.2
  have e3 := or62 (W 3 % 9223372036854775808) (by omega) (by omega)
  simp only [ag4]
  go_enter Tryz.func33, Tryz.ntmps33
  go_wp2
  exact bodyPost_ret (v := ag4 (clw W)) (by simp [ag4, clw, results, Tryz.results33, go_sem]) rfl ⟨rfl, ((Below.refl _ _).alloc (Nat.le_refl _) _).alloc (by simp) _⟩
def low7 (xs : List Int) : List Int := xs.set 31 (xs.getD 31 0 % 128)
theorem and127 : ∀ n : Fin 256, bits BinOp.and IntKind.u8 (n.val : Int) 127 = (n.val : Int) % 128 := by decide +kernel
theorem and127' (x : Int) (h : 0 ≤ x ∧ x < 256) : bits BinOp.and IntKind.u8 x 127 = x % 128 := by
  obtain ⟨n, rfl⟩ := Int.eq_ofNat_of_zero_le h.1
  exact and127 ⟨n, by omega⟩
theorem low7_byt {xs : List Int} (h : Byt xs) : Byt (low7 xs) := by
  intro j
  unfold low7
  by_cases e : 31 = j
  · subst e
    by_cases c : 31 < xs.length
    · rw [getD_set_self _ _ _ c]
      have := h 31
      show 0 ≤ xs.getD 31 0 % 128 ∧ xs.getD 31 0 % 128 < 256
      omega
    · rw [List.set_eq_of_length_le (by omega)]
      exact h 31
  · rw [getD_set_ne _ _ _ _ e]
    exact h j
theorem low7_len (xs : List Int) : (low7 xs).length = xs.length := by unfold low7; simp
set_option maxHeartbeats 4000000 in
theorem readCoordinate_any (w : World) (g : Nat) (a : Option Addr) (cap : Nat) (xs : List Int) (hr : Rd w g a .u8 xs) (hb : Byt xs) (hl : xs.length = 32) :
    Calls Tryz.prog 90 #[.slice a 32 cap] w fun e w' => e = .returned (ag5 (elt (low7 xs))) ∧ Below w.heap.size w w' := by
  have hsz : (Tryz.prog.info? 5).map (·.size) = some 1 := by kernel_rfl
  have z0 := blk_box w .u64 80 0 0 0 0 0
  have n0 : Below w.heap.size w (w.alloc (.cells #[.int .u64 0, .int .u64 0, .int .u64 0, .int .u64 0, .int .u64 0] 80)) := (Below.refl _ _).alloc (Nat.le_refl _) _
  have s0 : (w.alloc (.cells #[.int .u64 0, .int .u64 0, .int .u64 0, .int .u64 0, .int .u64 0] 80)).heap.size = w.heap.size + 1 := by simp
  have LH := hide hl
  clear hl
  go_enter Tryz.func90, Tryz.ntmps90
  go_wp2
  generalize w.alloc (.cells #[.int .u64 0, .int .u64 0, .int .u64 0, .int .u64 0, .int .u64 0] 80) = wa at *
  have Bz : Blk (wa.alloc (.cells #[.int .u8 0, .int .u8 0, .int .u8 0, .int .u8 0, .int .u8 0, .int .u8 0, .int .u8 0, .int .u8 0, .int .u8 0, .int .u8 0, .int .u8 0, .int .u8 0, .int .u8 0, .int .u8 0, .int .u8 0, .int .u8 0, .int .u8 0, .int .u8 0, .int .u8 0, .int .u8 0, .int .u8 0, .int .u8 0, .int .u8 0, .int .u8 0, .int .u8 0, .int .u8 0, .int .u8 0, .int .u8 0, .int .u8 0, .int .u8 0, .int .u8 0, .int .u8 0] 176)) wa.heap.size .u8 (List.replicate 32 0) := ⟨176, by rw [heap_alloc_last]; rfl⟩
  have n1 : Below wa.heap.size wa (wa.alloc (.cells #[.int .u8 0, .int .u8 0, .int .u8 0, .int .u8 0, .int .u8 0, .int .u8 0, .int .u8 0, .int .u8 0, .int .u8 0, .int .u8 0, .int .u8 0, .int .u8 0, .int .u8 0, .int .u8 0, .int .u8 0, .int .u8 0, .int .u8 0, .int .u8 0, .int .u8 0, .int .u8 0, .int .u8 0, .int .u8 0, .int .u8 0, .int .u8 0, .int .u8 0, .int .u8 0, .int .u8 0, .int .u8 0, .int .u8 0, .int .u8 0, .int .u8 0, .int .u8 0] 176)) := (Below.refl _ _).alloc (Nat.le_refl _) _
  generalize wa.alloc (.cells #[.int .u8 0, .int .u8 0, .int .u8 0, .int .u8 0, .int .u8 0, .int .u8 0, .int .u8 0, .int .u8 0, .int .u8 0, .int .u8 0, .int .u8 0, .int .u8 0, .int .u8 0, .int .u8 0, .int .u8 0, .int .u8 0, .int .u8 0, .int .u8 0, .int .u8 0, .int .u8 0, .int .u8 0, .int .u8 0, .int .u8 0, .int .u8 0, .int .u8 0, .int .u8 0, .int .u8 0, .int .u8 0, .int .u8 0, .int .u8 0, .int .u8 0, .int .u8 0] 176) = wb at *
  rw [s0] at Bz
  have N1 := nxt n0 n1
  obtain ⟨w2, hrun, B2, O2⟩ := copy_blk (P := Tryz.prog) wb 22 3 5 Tryz.underlying22 hsz Bz g a xs (hr.up N1) (by rw [LH.out]; simp) 32 cap
  rw [List.length_replicate, LH.out] at hrun
  rw [List.drop_eq_nil_of_le (by rw [LH.out]; simp), List.append_nil] at B2
  have Z2 := (z0.up n1).of_block (O2.block w.heap.size (by omega))
  have N2 : Below w.heap.size w w2 := N1.trans (O2.below (by omega))
  rw [hrun]
  have c31 := B2.cell (i := 31) (by rw [LH.out]; decide)
  have f31 := B2.free 31
  have x31 := hb 31
  have S := B2.store 31 (xs.getD 31 0 % 128)
  have Z3 := Z2.of_block (w' := w2.setCell ⟨w.heap.size + 1, 31, none⟩ (.int .u8 (xs.getD 31 0 % 128))) (heap_setCell_other _ ⟨w.heap.size + 1, 31, none⟩ w.heap.size _ (by show w.heap.size ≠ w.heap.size + 1; omega))
  have N3 : Below w.heap.size w (w2.setCell ⟨w.heap.size + 1, 31, none⟩ (.int .u8 (xs.getD 31 0 % 128))) := N2.setCell (by show w.heap.size ≤ w.heap.size + 1; omega) _
  have e31 := and127' _ x31
  have SL : Hid (Blk (w2.setCell ⟨w.heap.size + 1, 31, none⟩ (.int .u8 (xs.getD 31 0 % 128))) (w.heap.size + 1) .u8 (low7 xs)) := S
  have LL := hide ((low7_len xs).trans LH.out)
  have LB := hide (low7_byt hb)
  clear hr hb z0 n0 s0 LH Bz n1 N1 hrun B2 O2 Z2 N2 S
  obtain ⟨ys, hys⟩ : ∃ ys, ys = low7 xs := ⟨_, rfl⟩
  rw [← hys] at SL LL LB
  have HY := hide hys
  clear hys
  generalize xs.getD 31 0 = x at *
  go_wp2_with fail
  generalize w2.setCell ⟨w.heap.size + 1, 31, none⟩ (.int .u8 (x % 128)) = w3 at *
  refine (readElement_any w3 (w.heap.size + 1) _ 32 ys SL.out.own0.rd LB.out LL.out).mono ?_
  rintro r w4 ⟨rfl, n4⟩
  obtain ⟨⟨p0, p1, p2, p3, p4⟩, ⟨g0, g1, g2, g3, g4⟩⟩ := (Z3.up n4).f5
  have N4 := nxt N3 n4
  obtain ⟨t, ht⟩ : ∃ t, t = elt ys := ⟨_, rfl⟩
  have hT := hide ht
  rw [show stl (rl (wv (fun j => ys.getD j 0) 32)) = t from ht.symm]
  clear ht Z3 N3 n4 SL LL LB c31 f31 e31 x31
  simp only [ag5]
  go_wp2
  exact bodyPost_ret (v := ag5 t) (by simp [ag5, results, Tryz.results90, go_sem, p0, p1, p2, p3, p4]) rfl ⟨by rw [hT.out, HY.out], below_set5 N4 (by omega) _ _ _ _ _⟩
end Go.Proofs.YtkglcainhkbgbaaGreatDoor
namespace Go.Proofs.YtkglcainhkbgbaaGreatDoor
set_option maxRecDepth 100000
set_option maxRecDepth 10000 in
set_option maxHeartbeats 4000000 in
theorem ed_assoc_x (x1 y1 x2 y2 x3 y3 a d : Int) :
    ((x1*y2 + y1*x2)*y3*(1 - d*x1*x2*y1*y2) + (y1*y2 - a*x1*x2)*x3*(1 + d*x1*x2*y1*y2)) * ((1 + d*x2*x3*y2*y3)*(1 - d*x2*x3*y2*y3) + d*(x2*y3 + y2*x3)*(y2*y3 - a*x2*x3)*x1*y1)
    - (x1*(y2*y3 - a*x2*x3)*(1 + d*x2*x3*y2*y3) + y1*(x2*y3 + y2*x3)*(1 - d*x2*x3*y2*y3)) * ((1 + d*x1*x2*y1*y2)*(1 - d*x1*x2*y1*y2) + d*(x1*y2 + y1*x2)*(y1*y2 - a*x1*x2)*x3*y3)
    = (x1*x2^4*y2^3*x3^2*y3*a*d^2 - x1*x2^4*y2*x3^2*y3*a^2*d - x1*x2^3*y2^4*x3*y3^2*d^2 - x1*x2^3*y2^2*x3^3*a^2*d + x1*x2^3*y2^2*x3*a*d + x1*x2^2*y2^3*y3^3*d - x1*x2^2*y2^3*y3*d + x1*x2*y2^4*x3*y3^2*d + y1*x2^4*y2^3*x3*y3^2*d^2 - y1*x2^4*y2*x3*y3^2*a*d + y1*x2^3*y2^4*x3^2*y3*d^2 + y1*x2^3*y2^2*y3^3*d - y1*x2^3*y2^2*y3*d + y1*x2^2*y2^3*x3^3*a*d - y1*x2^2*y2^3*x3*d - y1*x2*y2^4*x3^2*y3*d)*(a*x1^2 + y1^2 - 1 - d*x1^2*y1^2) + (x1^3*x2^2*y2*x3^2*y3*a^2*d - x1^3*x2*y2^2*x3*y3^2*a*d - x1^2*y1*x2^2*y2*x3^3*a^2*d + x1^2*y1*x2^2*y2*x3*a*d - x1^2*y1*x2*y2^2*y3^3*d + x1^2*y1*x2*y2^2*y3*d - x1*y1^2*x2^2*y2*y3^3*d + x1*y1^2*x2^2*y2*y3*d + x1*y1^2*x2*y2^2*x3^3*a*d - x1*y1^2*x2*y2^2*x3*d - x1*x2^2*y2*x3^2*y3*a*d + x1*x2*y2^2*x3*y3^2*d + y1^3*x2^2*y2*x3*y3^2*d + y1^3*x2*y2^2*x3^2*y3*d - y1*x2^2*y2*x3*y3^2*d - y1*x2*y2^2*x3^2*y3*d)*(a*x2^2 + y2^2 - 1 - d*x2^2*y2^2) + (x1^3*x2^3*y2^2*x3*a^2*d - x1^3*x2^2*y2^3*y3*a*d - x1^2*y1*x2^4*y2^3*x3*a*d^2 + x1^2*y1*x2^4*y2*x3*a^2*d - x1^2*y1*x2^3*y2^4*y3*d^2 + x1^2*y1*x2*y2^4*y3*d - x1*y1^2*x2^4*y2^3*y3*d^2 + x1*y1^2*x2^4*y2*y3*a*d + x1*y1^2*x2^3*y2^4*x3*d^2 - x1*y1^2*x2*y2^4*x3*d - x1*x2^3*y2^2*x3*a*d + x1*x2^2*y2^3*y3*d - y1^3*x2^3*y2^2*y3*d - y1^3*x2^2*y2^3*x3*d + y1*x2^3*y2^2*y3*d + y1*x2^2*y2^3*x3*d)*(a*x3^2 + y3^2 - 1 - d*x3^2*y3^2) := by grind
set_option maxRecDepth 10000 in
set_option maxHeartbeats 4000000 in
theorem ed_assoc_y (x1 y1 x2 y2 x3 y3 a d : Int) :
    ((y1*y2 - a*x1*x2)*y3*(1 + d*x1*x2*y1*y2) - a*(x1*y2 + y1*x2)*x3*(1 - d*x1*x2*y1*y2)) * ((1 + d*x2*x3*y2*y3)*(1 - d*x2*x3*y2*y3) - d*(x2*y3 + y2*x3)*(y2*y3 - a*x2*x3)*x1*y1)
    - (y1*(y2*y3 - a*x2*x3)*(1 + d*x2*x3*y2*y3) - a*x1*(x2*y3 + y2*x3)*(1 - d*x2*x3*y2*y3)) * ((1 + d*x1*x2*y1*y2)*(1 - d*x1*x2*y1*y2) - d*(x1*y2 + y1*x2)*(y1*y2 - a*x1*x2)*x3*y3)
    = (-x1*x2^4*y2^3*x3*y3^2*a*d^2 + x1*x2^4*y2*x3*y3^2*a^2*d - x1*x2^3*y2^4*x3^2*y3*a*d^2 - x1*x2^3*y2^2*y3^3*a*d + x1*x2^3*y2^2*y3*a*d - x1*x2^2*y2^3*x3^3*a^2*d + x1*x2^2*y2^3*x3*a*d + x1*x2*y2^4*x3^2*y3*a*d + y1*x2^4*y2^3*x3^2*y3*a*d^2 - y1*x2^4*y2*x3^2*y3*a^2*d - y1*x2^3*y2^4*x3*y3^2*d^2 - y1*x2^3*y2^2*x3^3*a^2*d + y1*x2^3*y2^2*x3*a*d + y1*x2^2*y2^3*y3^3*d - y1*x2^2*y2^3*y3*d + y1*x2*y2^4*x3*y3^2*d)*(a*x1^2 + y1^2 - 1 - d*x1^2*y1^2) + (-x1^3*x2^2*y2*x3*y3^2*a^2*d - x1^3*x2*y2^2*x3^2*y3*a^2*d - x1^2*y1*x2^2*y2*y3^3*a*d + x1^2*y1*x2^2*y2*y3*a*d + x1^2*y1*x2*y2^2*x3^3*a^2*d - x1^2*y1*x2*y2^2*x3*a*d + x1*y1^2*x2^2*y2*x3^3*a^2*d - x1*y1^2*x2^2*y2*x3*a*d + x1*y1^2*x2*y2^2*y3^3*d - x1*y1^2*x2*y2^2*y3*d + x1*x2^2*y2*x3*y3^2*a*d + x1*x2*y2^2*x3^2*y3*a*d + y1^3*x2^2*y2*x3^2*y3*a*d - y1^3*x2*y2^2*x3*y3^2*d - y1*x2^2*y2*x3^2*y3*a*d + y1*x2*y2^2*x3*y3^2*d)*(a*x2^2 + y2^2 - 1 - d*x2^2*y2^2) + (x1^3*x2^3*y2^2*y3*a^2*d + x1^3*x2^2*y2^3*x3*a^2*d - x1^2*y1*x2^4*y2^3*y3*a*d^2 + x1^2*y1*x2^4*y2*y3*a^2*d + x1^2*y1*x2^3*y2^4*x3*a*d^2 - x1^2*y1*x2*y2^4*x3*a*d + x1*y1^2*x2^4*y2^3*x3*a*d^2 - x1*y1^2*x2^4*y2*x3*a^2*d + x1*y1^2*x2^3*y2^4*y3*d^2 - x1*y1^2*x2*y2^4*y3*d - x1*x2^3*y2^2*y3*a*d - x1*x2^2*y2^3*x3*a*d + y1^3*x2^3*y2^2*x3*a*d - y1^3*x2^2*y2^3*y3*d - y1*x2^3*y2^2*x3*a*d + y1*x2^2*y2^3*y3*d)*(a*x3^2 + y3^2 - 1 - d*x3^2*y3^2) := by grind
set_option maxRecDepth 10000 in
set_option maxHeartbeats 4000000 in
theorem ed_close (x1 y1 x2 y2 a d : Int) :
    a*(x1*y2 + y1*x2)^2*(1 - d*x1*x2*y1*y2)^2 + (y1*y2 - a*x1*x2)^2*(1 + d*x1*x2*y1*y2)^2 - (1 + d*x1*x2*y1*y2)^2*(1 - d*x1*x2*y1*y2)^2 - d*(x1*y2 + y1*x2)^2*(y1*y2 - a*x1*x2)^2
    = (x1^2*y1^2*x2^4*y2^4*d^3 + x1^2*x2^4*y2^4*a*d^2 - x1^2*x2^4*y2^2*a^2*d - x1^2*x2^2*y2^4*a*d + y1^2*x2^4*y2^4*d^2 - y1^2*x2^4*y2^2*a*d - y1^2*x2^2*y2^4*d + 2*x2^4*y2^4*a*d - x2^4*y2^4*d^2 - 2*x2^4*y2^2*a^2 + x2^4*a^2 - 2*x2^2*y2^4*a + 4*x2^2*y2^2*a - 2*x2^2*y2^2*d + y2^4)*(a*x1^2 + y1^2 - 1 - d*x1^2*y1^2) + (x1^4*x2^2*y2^2*a^2*d + 2*x1^2*x2^2*y2^2*a^2 - 2*x1^2*x2^2*y2^2*a*d - x1^2*x2^2*a^2 - x1^2*y2^2*a + y1^4*x2^2*y2^2*d + 2*y1^2*x2^2*y2^2*a - 2*y1^2*x2^2*y2^2*d - y1^2*x2^2*a - y1^2*y2^2 - 2*x2^2*y2^2*a + x2^2*y2^2*d + x2^2*a + y2^2 + 1)*(a*x2^2 + y2^2 - 1 - d*x2^2*y2^2) := by grind
set_option maxHeartbeats 4000000 in
theorem ed_diff (x1 y1 x2 y2 a d : Int) :
    ((1 - d*x1*x2*y1*y2) + (y1*y2 - a*x1*x2))*((1 + d*x1*x2*y1*y2) + (y1*y2 + a*x1*x2))*(y1 - y2)^2 - ((1 - d*x1*x2*y1*y2) - (y1*y2 - a*x1*x2))*((1 + d*x1*x2*y1*y2) - (y1*y2 + a*x1*x2))*(y1 + y2)^2
    = (-4*y1*x2^2*y2^3*d + 4*y1*x2^2*y2*a)*(a*x1^2 + y1^2 - 1 - d*x1^2*y1^2) + (-4*y1^3*y2 + 4*y1*y2)*(a*x2^2 + y2^2 - 1 - d*x2^2*y2^2) := by grind
end Go.Proofs.YtkglcainhkbgbaaGreatDoor
namespace Go.Proofs.YtkglcainhkbgbaaGreatDoor
set_option maxRecDepth 100000
structure Pri (P : Int) : Prop where
  mul : ∀ {x y : Int}, P ∣ x * y → P ∣ x ∨ P ∣ y
  one : ¬ P ∣ 1
  two : ¬ P ∣ 2
section
variable {P a d : Int}
def On (P a d x y : Int) : Prop := P ∣ a * x ^ 2 + y ^ 2 - 1 - d * x ^ 2 * y ^ 2
structure Sm (P a d x1 y1 x2 y2 x3 y3 : Int) : Prop where
  x : P ∣ x3 * (1 + d * x1 * x2 * y1 * y2) - (x1 * y2 + y1 * x2)
  y : P ∣ y3 * (1 - d * x1 * x2 * y1 * y2) - (y1 * y2 - a * x1 * x2)
structure Cpl (P a d : Int) : Prop where
  p : ∀ {x1 y1 x2 y2 : Int}, On P a d x1 y1 → On P a d x2 y2 → ¬ P ∣ 1 + d * x1 * x2 * y1 * y2
  q : ∀ {x1 y1 x2 y2 : Int}, On P a d x1 y1 → On P a d x2 y2 → ¬ P ∣ 1 - d * x1 * x2 * y1 * y2
theorem dv2 {e f c1 c2 t : Int} (he : P ∣ e) (hf : P ∣ f) (h : t = c1 * e + c2 * f) : P ∣ t := by
  rw [h]
  exact Int.dvd_add (Int.dvd_mul_of_dvd_right he) (Int.dvd_mul_of_dvd_right hf)
theorem dv3 {e f g c1 c2 c3 t : Int} (he : P ∣ e) (hf : P ∣ f) (hg : P ∣ g) (h : t = c1 * e + c2 * f + c3 * g) : P ∣ t := by
  rw [h]
  exact Int.dvd_add (Int.dvd_add (Int.dvd_mul_of_dvd_right he) (Int.dvd_mul_of_dvd_right hf)) (Int.dvd_mul_of_dvd_right hg)
theorem cancel (hP : Pri P) {x c : Int} (hc : ¬ P ∣ c) (h : P ∣ x * c) : P ∣ x := (hP.mul h).resolve_right hc
theorem nz_mul (hP : Pri P) {x y : Int} (hx : ¬ P ∣ x) (hy : ¬ P ∣ y) : ¬ P ∣ x * y := fun h => (hP.mul h).elim hx hy
theorem Sm.on (hP : Pri P) (hC : Cpl P a d) {x1 y1 x2 y2 x3 y3 : Int} (h1 : On P a d x1 y1) (h2 : On P a d x2 y2) (h : Sm P a d x1 y1 x2 y2 x3 y3) : On P a d x3 y3 := by
  have hp := hC.p h1 h2
  have hq := hC.q h1 h2
  have cl := dv2 h1 h2 (ed_close x1 y1 x2 y2 a d)
  obtain ⟨hx, hy⟩ := h
  unfold On
  generalize x1 * y2 + y1 * x2 = X at *
  generalize y1 * y2 - a * x1 * x2 = Y at *
  have e1 : 1 + d * x1 * x2 * y1 * y2 + (1 - d * x1 * x2 * y1 * y2) = 2 := by omega
  generalize 1 + d * x1 * x2 * y1 * y2 = p at *
  generalize 1 - d * x1 * x2 * y1 * y2 = q at *
  refine cancel hP (nz_mul hP (nz_mul hP hp hp) (nz_mul hP hq hq)) (dv3 hx hy cl (c1 := (a - d * y3 ^ 2) * q * q * (x3 * p + X)) (c2 := (p * p - d * X ^ 2) * (y3 * q + Y)) (c3 := 1) ?_)
  grind
theorem Sm.uniq (hP : Pri P) (hC : Cpl P a d) {x1 y1 x2 y2 x3 y3 x4 y4 : Int} (h1 : On P a d x1 y1) (h2 : On P a d x2 y2) (h : Sm P a d x1 y1 x2 y2 x3 y3) (k : Sm P a d x1 y1 x2 y2 x4 y4) : P ∣ x3 - x4 ∧ P ∣ y3 - y4 := by
  constructor
  · refine cancel hP (hC.p h1 h2) (dv2 h.x k.x (c1 := 1) (c2 := -1) ?_)
    grind
  · refine cancel hP (hC.q h1 h2) (dv2 h.y k.y (c1 := 1) (c2 := -1) ?_)
    grind
theorem Sm.comm {x1 y1 x2 y2 x3 y3 : Int} (h : Sm P a d x1 y1 x2 y2 x3 y3) : Sm P a d x2 y2 x1 y1 x3 y3 := by
  obtain ⟨hx, hy⟩ := h
  constructor
  · have e : x3 * (1 + d * x2 * x1 * y2 * y1) - (x2 * y1 + y2 * x1) = x3 * (1 + d * x1 * x2 * y1 * y2) - (x1 * y2 + y1 * x2) := by grind
    rw [e]; exact hx
  · have e : y3 * (1 - d * x2 * x1 * y2 * y1) - (y2 * y1 - a * x2 * x1) = y3 * (1 - d * x1 * x2 * y1 * y2) - (y1 * y2 - a * x1 * x2) := by grind
    rw [e]; exact hy
theorem side_x {P d p q X Y x12 y12 x3 y3 xs : Int} (hx : P ∣ x12 * p - X) (hy : P ∣ y12 * q - Y) (h : P ∣ xs * (1 + d * x12 * x3 * y12 * y3) - (x12 * y3 + y12 * x3)) : P ∣ xs * (p * q + d * X * Y * x3 * y3) - (X * y3 * q + Y * x3 * p) :=
  dv3 hx hy h (c1 := y3 * q - xs * d * x3 * y3 * q * y12) (c2 := x3 * p - xs * d * x3 * y3 * X) (c3 := p * q) (by grind)
theorem side_y {P a d p q X Y x12 y12 x3 y3 ys : Int} (hx : P ∣ x12 * p - X) (hy : P ∣ y12 * q - Y) (h : P ∣ ys * (1 - d * x12 * x3 * y12 * y3) - (y12 * y3 - a * x12 * x3)) : P ∣ ys * (p * q - d * X * Y * x3 * y3) - (Y * y3 * p - a * X * x3 * q) :=
  dv3 hx hy h (c1 := ys * d * x3 * y3 * q * y12 - a * x3 * q) (c2 := y3 * p + ys * d * x3 * y3 * X) (c3 := p * q) (by grind)
theorem den_p (hP : Pri P) {d p q X Y x12 y12 x3 y3 : Int} (hp : ¬ P ∣ p) (hq : ¬ P ∣ q) (hx : P ∣ x12 * p - X) (hy : P ∣ y12 * q - Y) (h : ¬ P ∣ 1 + d * x12 * x3 * y12 * y3) : ¬ P ∣ p * q + d * X * Y * x3 * y3 := fun k =>
  nz_mul hP (nz_mul hP hp hq) h (dv3 hx hy k (c1 := d * x3 * y3 * q * y12) (c2 := d * x3 * y3 * X) (c3 := 1) (by grind))
theorem den_q (hP : Pri P) {d p q X Y x12 y12 x3 y3 : Int} (hp : ¬ P ∣ p) (hq : ¬ P ∣ q) (hx : P ∣ x12 * p - X) (hy : P ∣ y12 * q - Y) (h : ¬ P ∣ 1 - d * x12 * x3 * y12 * y3) : ¬ P ∣ p * q - d * X * Y * x3 * y3 := fun k =>
  nz_mul hP (nz_mul hP hp hq) h (dv3 hx hy k (c1 := -(d * x3 * y3 * q * y12)) (c2 := -(d * x3 * y3 * X)) (c3 := 1) (by grind))
theorem Sm.assoc (hP : Pri P) (hC : Cpl P a d) {x1 y1 x2 y2 x3 y3 u v s t xl yl xr yr : Int} (h1 : On P a d x1 y1) (h2 : On P a d x2 y2) (h3 : On P a d x3 y3)
    (h12 : Sm P a d x1 y1 x2 y2 u v) (h23 : Sm P a d x2 y2 x3 y3 s t) (hl : Sm P a d u v x3 y3 xl yl) (hr : Sm P a d x1 y1 s t xr yr) : P ∣ xl - xr ∧ P ∣ yl - yr := by
  have o12 := h12.on hP hC h1 h2
  have o23 := h23.on hP hC h2 h3
  have hr' := hr.comm
  have DL := den_p hP (hC.p h1 h2) (hC.q h1 h2) h12.x h12.y (hC.p o12 h3)
  have DR := den_p hP (hC.p h2 h3) (hC.q h2 h3) h23.x h23.y (hC.p o23 h1)
  have EL := den_q hP (hC.p h1 h2) (hC.q h1 h2) h12.x h12.y (hC.q o12 h3)
  have ER := den_q hP (hC.p h2 h3) (hC.q h2 h3) h23.x h23.y (hC.q o23 h1)
  have SL := side_x h12.x h12.y hl.x
  have SR := side_x h23.x h23.y hr'.x
  have TL := side_y h12.x h12.y hl.y
  have TR := side_y h23.x h23.y hr'.y
  have AX := dv3 h1 h2 h3 (ed_assoc_x x1 y1 x2 y2 x3 y3 a d)
  have AY := dv3 h1 h2 h3 (ed_assoc_y x1 y1 x2 y2 x3 y3 a d)
  clear h12 h23 hl hr hr' o12 o23 h1 h2 h3
  generalize 1 + d * x1 * x2 * y1 * y2 = p at *
  generalize 1 - d * x1 * x2 * y1 * y2 = q at *
  generalize 1 + d * x2 * x3 * y2 * y3 = p' at *
  generalize 1 - d * x2 * x3 * y2 * y3 = q' at *
  generalize x1 * y2 + y1 * x2 = X at *
  generalize y1 * y2 - a * x1 * x2 = Y at *
  generalize x2 * y3 + y2 * x3 = X' at *
  generalize y2 * y3 - a * x2 * x3 = Y' at *
  constructor
  · refine cancel hP (nz_mul hP DL DR) (dv3 SL SR AX (c1 := p' * q' + d * X' * Y' * x1 * y1) (c2 := -(p * q + d * X * Y * x3 * y3)) (c3 := 1) ?_)
    grind
  · refine cancel hP (nz_mul hP EL ER) (dv3 TL TR AY (c1 := p' * q' - d * X' * Y' * x1 * y1) (c2 := -(p * q - d * X * Y * x3 * y3)) (c3 := 1) ?_)
    grind
def NSq (P d : Int) : Prop := ∀ r t : Int, P ∣ r ^ 2 - d * t ^ 2 → P ∣ t
theorem cpl_eta (hP : Pri P) {s : Int} (hs : P ∣ s ^ 2 - a) (hd : NSq P d) {x1 y1 x2 y2 h : Int} (hh : h * h = 1) (h1 : On P a d x1 y1) (h2 : On P a d x2 y2) (k : P ∣ d * x1 * x2 * y1 * y2 - h) : False := by
  have k1 : P ∣ x1 * y1 * (s * x2 + y2) := by
    refine hd (s * x1 + h * y1) _ ?_
    have e := dv3 h1 h2 k (c1 := 1) (c2 := -(d * x1 ^ 2 * y1 ^ 2)) (c3 := -(2 * s * x1 * y1) - (d * x1 * x2 * y1 * y2 + h)) rfl
    refine dv2 e hs (c1 := 1) (c2 := x1 ^ 2 - d * x1 ^ 2 * y1 ^ 2 * x2 ^ 2) ?_
    grind
  have k2 : P ∣ x1 * y1 * (s * x2 - y2) := by
    refine hd (s * x1 - h * y1) _ ?_
    have e := dv3 h1 h2 k (c1 := 1) (c2 := -(d * x1 ^ 2 * y1 ^ 2)) (c3 := 2 * s * x1 * y1 - (d * x1 * x2 * y1 * y2 + h)) rfl
    refine dv2 e hs (c1 := 1) (c2 := x1 ^ 2 - d * x1 ^ 2 * y1 ^ 2 * x2 ^ 2) ?_
    grind
  have no : ∀ z c : Int, P ∣ z → d * x1 * x2 * y1 * y2 = z * c → False := fun z c hz e => hP.one (by
    have := dv2 k hz (c1 := -h) (c2 := h * c) (t := 1) (by grind)
    exact this)
  have k3 : P ∣ 2 * (x1 * y1 * y2) := dv2 k1 k2 (c1 := 1) (c2 := -1) (by grind)
  rcases hP.mul k3 with z | z
  · exact hP.two z
  · exact no _ (d * x2) z (by grind)
theorem cpl_of (hP : Pri P) {s : Int} (hs : P ∣ s ^ 2 - a) (hd : NSq P d) : Cpl P a d := by
  constructor
  · intro x1 y1 x2 y2 h1 h2 k
    refine cpl_eta hP hs hd (h := -1) (by decide) h1 h2 ?_
    have e : d * x1 * x2 * y1 * y2 - -1 = 1 + d * x1 * x2 * y1 * y2 := by omega
    rw [e]
    exact k
  · intro x1 y1 x2 y2 h1 h2 k
    refine cpl_eta hP hs hd (h := 1) (by decide) h1 h2 ?_
    have e : d * x1 * x2 * y1 * y2 - 1 = -(1 - d * x1 * x2 * y1 * y2) := by omega
    rw [e]
    exact Int.dvd_neg.mpr k
def Pe (P : Int) (p q : Int × Int) : Prop := P ∣ p.1 - q.1 ∧ P ∣ p.2 - q.2
theorem Pe.refl (p : Int × Int) : Pe P p p := ⟨⟨0, by omega⟩, ⟨0, by omega⟩⟩
theorem Pe.symm {p q : Int × Int} (h : Pe P p q) : Pe P q p := by
  obtain ⟨⟨u, hu⟩, v, hv⟩ := h
  exact ⟨⟨-u, by rw [Int.mul_neg, ← hu]; omega⟩, ⟨-v, by rw [Int.mul_neg, ← hv]; omega⟩⟩
theorem Pe.trans {p q r : Int × Int} (h : Pe P p q) (k : Pe P q r) : Pe P p r := by
  constructor
  · have := Int.dvd_add h.1 k.1
    rwa [show p.1 - q.1 + (q.1 - r.1) = p.1 - r.1 by omega] at this
  · have := Int.dvd_add h.2 k.2
    rwa [show p.2 - q.2 + (q.2 - r.2) = p.2 - r.2 by omega] at this
structure Crv (P a d : Int) (inv : Int → Int) : Prop where
  pri : Pri P
  cpl : Cpl P a d
  inv : ∀ c, ¬ P ∣ c → P ∣ inv c * c - 1
def eadd (a d : Int) (inv : Int → Int) (p q : Int × Int) : Int × Int :=
  ((p.1 * q.2 + p.2 * q.1) * inv (1 + d * p.1 * q.1 * p.2 * q.2), (p.2 * q.2 - a * p.1 * q.1) * inv (1 - d * p.1 * q.1 * p.2 * q.2))
def OnP (P a d : Int) (p : Int × Int) : Prop := On P a d p.1 p.2
variable {inv : Int → Int}
theorem eadd_sm (H : Crv P a d inv) {p q : Int × Int} (hp : OnP P a d p) (hq : OnP P a d q) : Sm P a d p.1 p.2 q.1 q.2 (eadd a d inv p q).1 (eadd a d inv p q).2 := by
  have i1 := H.inv _ (H.cpl.p hp hq)
  have i2 := H.inv _ (H.cpl.q hp hq)
  constructor
  · refine dv2 i1 i1 (c1 := p.1 * q.2 + p.2 * q.1) (c2 := 0) ?_
    unfold eadd
    grind
  · refine dv2 i2 i2 (c1 := p.2 * q.2 - a * p.1 * q.1) (c2 := 0) ?_
    unfold eadd
    grind
theorem eadd_on (H : Crv P a d inv) {p q : Int × Int} (hp : OnP P a d p) (hq : OnP P a d q) : OnP P a d (eadd a d inv p q) := (eadd_sm H hp hq).on H.pri H.cpl hp hq
theorem On.cg {x y x' y' : Int} (h : On P a d x y) (hx : P ∣ x - x') (hy : P ∣ y - y') : On P a d x' y' := by
  refine dv3 h hx hy (c1 := 1) (c2 := -((a - d * y' ^ 2) * (x + x'))) (c3 := -((1 - d * x ^ 2) * (y + y'))) ?_
  grind
theorem Sm.cg {x1 y1 x2 y2 x3 y3 u1 v1 u2 v2 : Int} (h : Sm P a d x1 y1 x2 y2 x3 y3) (hx1 : P ∣ x1 - u1) (hy1 : P ∣ y1 - v1) (hx2 : P ∣ x2 - u2) (hy2 : P ∣ y2 - v2) : Sm P a d u1 v1 u2 v2 x3 y3 := by
  constructor
  · have h1 := dv3 h.x hx1 hy1 (c1 := 1) (c2 := -(x3 * d * x2 * y1 * y2 - y2)) (c3 := -(x3 * d * u1 * x2 * y2 - x2)) rfl
    refine dv3 h1 hx2 hy2 (c1 := 1) (c2 := -(x3 * d * u1 * v1 * y2 - v1)) (c3 := -(x3 * d * u1 * v1 * u2 - u1)) ?_
    grind
  · have h1 := dv3 h.y hx1 hy1 (c1 := 1) (c2 := y3 * d * x2 * y1 * y2 - a * x2) (c3 := y3 * d * u1 * x2 * y2 + y2) rfl
    refine dv3 h1 hx2 hy2 (c1 := 1) (c2 := y3 * d * u1 * v1 * y2 - a * u1) (c3 := y3 * d * u1 * v1 * u2 + v1) ?_
    grind
theorem eadd_cg (H : Crv P a d inv) {p q p' q' : Int × Int} (hp : OnP P a d p) (hq : OnP P a d q) (ep : Pe P p p') (eq : Pe P q q') : Pe P (eadd a d inv p q) (eadd a d inv p' q') := by
  have hp' : OnP P a d p' := On.cg hp ep.1 ep.2
  have hq' : OnP P a d q' := On.cg hq eq.1 eq.2
  exact Sm.uniq H.pri H.cpl hp' hq' ((eadd_sm H hp hq).cg ep.1 ep.2 eq.1 eq.2) (eadd_sm H hp' hq')
theorem eadd_comm (H : Crv P a d inv) {p q : Int × Int} (hp : OnP P a d p) (hq : OnP P a d q) : Pe P (eadd a d inv p q) (eadd a d inv q p) := Sm.uniq H.pri H.cpl hq hp (eadd_sm H hp hq).comm (eadd_sm H hq hp)
theorem eadd_assoc (H : Crv P a d inv) {p q r : Int × Int} (hp : OnP P a d p) (hq : OnP P a d q) (hr : OnP P a d r) : Pe P (eadd a d inv (eadd a d inv p q) r) (eadd a d inv p (eadd a d inv q r)) :=
  Sm.assoc H.pri H.cpl hp hq hr (eadd_sm H hp hq) (eadd_sm H hq hr) (eadd_sm H (eadd_on H hp hq) hr) (eadd_sm H hp (eadd_on H hq hr))
theorem zero_on : OnP P a d (0, 1) := ⟨0, by simp⟩
theorem eadd_zero (H : Crv P a d inv) {p : Int × Int} (hp : OnP P a d p) : Pe P (eadd a d inv p (0, 1)) p :=
  Sm.uniq H.pri H.cpl hp zero_on (eadd_sm H hp zero_on) ⟨⟨0, by simp⟩, ⟨0, by simp⟩⟩
theorem neg_on {p : Int × Int} (hp : OnP P a d p) : OnP P a d (-p.1, p.2) := by
  have e : a * (-p.1) ^ 2 + p.2 ^ 2 - 1 - d * (-p.1) ^ 2 * p.2 ^ 2 = a * p.1 ^ 2 + p.2 ^ 2 - 1 - d * p.1 ^ 2 * p.2 ^ 2 := by grind
  show P ∣ _
  rw [e]
  exact hp
theorem eadd_neg (H : Crv P a d inv) {p : Int × Int} (hp : OnP P a d p) : Pe P (eadd a d inv p (-p.1, p.2)) (0, 1) := by
  refine Sm.uniq H.pri H.cpl hp (neg_on hp) (eadd_sm H hp (neg_on hp)) ⟨⟨0, ?_⟩, ?_⟩
  · simp only
    grind
  · refine dv2 hp hp (c1 := -1) (c2 := 0) ?_
    simp only
    grind
def emul (a d : Int) (inv : Int → Int) : Nat → Int × Int → Int × Int
  | 0, _ => (0, 1)
  | n + 1, p => eadd a d inv (emul a d inv n p) p
theorem emul_on (H : Crv P a d inv) {p : Int × Int} (hp : OnP P a d p) : ∀ n, OnP P a d (emul a d inv n p)
  | 0 => zero_on
  | n + 1 => eadd_on H (emul_on H hp n) hp
theorem emul_add (H : Crv P a d inv) {p : Int × Int} (hp : OnP P a d p) (m : Nat) : ∀ n, Pe P (emul a d inv (m + n) p) (eadd a d inv (emul a d inv m p) (emul a d inv n p))
  | 0 => (eadd_zero H (emul_on H hp m)).symm
  | n + 1 => (eadd_cg H (emul_on H hp (m + n)) hp (emul_add H hp m n) (Pe.refl p)).trans (eadd_assoc H (emul_on H hp m) (emul_on H hp n) hp)
theorem emul_cg (H : Crv P a d inv) {p q : Int × Int} (hp : OnP P a d p) (e : Pe P p q) : ∀ n, Pe P (emul a d inv n p) (emul a d inv n q)
  | 0 => Pe.refl _
  | n + 1 => eadd_cg H (emul_on H hp n) hp (emul_cg H hp e n) e
theorem emul_mul (H : Crv P a d inv) {p : Int × Int} (hp : OnP P a d p) (n : Nat) : ∀ m, Pe P (emul a d inv (n * m) p) (emul a d inv m (emul a d inv n p))
  | 0 => Pe.refl _
  | m + 1 => by
    rw [Nat.mul_succ]
    exact (emul_add H hp (n * m) n).trans (eadd_cg H (emul_on H hp (n * m)) (emul_on H hp n) (emul_mul H hp n m) (Pe.refl _))
end
end Go.Proofs.YtkglcainhkbgbaaGreatDoor
namespace Go.Proofs.YtkglcainhkbgbaaGreatDoor
set_option maxRecDepth 100000
def eQ : Nat := 14474011154664524427946373126085988481658748083205070504932198000989141204987
def eH : Nat := 28948022309329048855892746252171976963317496166410141009864396001978282409974
theorem PP_nat : (PP : Int) = ((P25519 : Nat) : Int) := rfl
theorem pwm (x : Int) : ∀ e : Nat, (x % PP) ^ e % PP = x ^ e % PP
  | 0 => by rw [Int.pow_zero, Int.pow_zero]
  | e + 1 => by
    rw [Int.pow_succ, Int.pow_succ, Int.mul_emod, pwm x e, Int.emod_emod_of_dvd _ (Int.dvd_refl _), ← Int.mul_emod]
theorem PP_mul {x y : Int} (h : x * y % PP = 0) : x % PP = 0 ∨ y % PP = 0 := by
  have hd : (PP : Int) ∣ x * y := Int.dvd_of_emod_eq_zero h
  have h2 : P25519 ∣ x.natAbs * y.natAbs := by
    have := Int.natAbs_dvd_natAbs.mpr hd
    rwa [Int.natAbs_mul] at this
  rcases prm_P.mul h2 with k | k
  · exact .inl (Int.emod_eq_zero_of_dvd (Int.natAbs_dvd_natAbs.mp (by exact k)))
  · exact .inr (Int.emod_eq_zero_of_dvd (Int.natAbs_dvd_natAbs.mp (by exact k)))
theorem PP_fermat {x : Int} (h0 : 0 < x) (h1 : x < PP) : x ^ (2 * eH) % PP = 1 := by
  obtain ⟨n, rfl⟩ := Int.eq_ofNat_of_zero_le (show 0 ≤ x by omega)
  have hn : ¬ P25519 ∣ n := fun hd => by
    have h := Nat.le_of_dvd (by omega) hd
    have := PP_nat
    omega
  have f := prm_P.fermat hn
  have e : P25519 - 1 = 2 * eH := by decide +kernel
  rw [e] at f
  rw [PP_nat, ← Int.natCast_pow, ← Int.natCast_emod, f]
  rfl
theorem one_roots {y : Int} (h0 : 0 ≤ y) (h1 : y < PP) (h : y * y % PP = 1) : y = 1 ∨ y = PP - 1 := by
  have e : (y - 1) * (y + 1) = y * y - 1 := by grind
  have z : (y - 1) * (y + 1) % PP = 0 := by
    rw [e, Int.sub_emod, h]
    decide
  have hP : (PP : Int) = 57896044618658097711785492504343953926634992332820282019728792003956564819949 := rfl
  rcases PP_mul z with k | k
  · left
    clear h z e
    rw [hP] at h1 k
    omega
  · right
    clear h z e
    rw [hP] at h1 k ⊢
    omega
theorem rt_sq (A : Int) : rtR A * rtR A % PP = (A ^ eQ % PP) * A % PP := by
  unfold rtR
  rw [pow_sq, show 2 * eRt = eQ + 1 by decide +kernel, Int.pow_succ, Int.mul_emod, Int.mul_emod (A ^ eQ % PP) A, Int.emod_emod]
theorem neg_neg_P {A : Int} (h0 : 0 ≤ A) (h1 : A < PP) : (0 - (0 - A) % PP) % PP = A := by
  have hP : (PP : Int) = 57896044618658097711785492504343953926634992332820282019728792003956564819949 := rfl
  rw [hP] at h1 ⊢
  omega
theorem neg_mul_P (A : Int) : (PP - 1) * A = PP * A + (0 - A) := by
  generalize PP = p
  rw [Int.sub_mul, Int.one_mul]
  omega
theorem has_of {A : Int} (h0 : 0 < A) (h1 : A < PP) (h : A ^ eH % PP = 1) : r1I A * r1I A % PP = A := by
  have q : A ^ eQ % PP = 1 ∨ A ^ eQ % PP = PP - 1 := by
    refine one_roots (Int.emod_nonneg _ (by decide)) (Int.emod_lt_of_pos _ (by decide)) ?_
    rw [pow_sq, show 2 * eQ = eH by decide +kernel]
    exact h
  have s := rt_sq A
  rcases q with q | q
  · rw [q, Int.one_mul, Int.emod_eq_of_lt (Int.le_of_lt h0) h1] at s
    refine (same_root (Int.le_of_lt h0) h1).1.mpr ?_
    rw [show r1S A = rtR A by rw [r1S, if_pos s]]
    exact s
  · rw [q, neg_mul_P, Int.mul_add_emod_self_left] at s
    rw [show r1I A = rtR A * iM % PP by rw [r1I, if_pos s], turn_sq, neg_modP _ _ s]
    exact neg_neg_P (Int.le_of_lt h0) h1
theorem pow_of_sq {R : Int} (h0 : 0 < R) (h1 : R < PP) : (R * R % PP) ^ eH % PP = 1 := by
  rw [pwm, show R * R = R ^ 2 by rw [Int.pow_succ, Int.pow_succ, Int.pow_zero, Int.one_mul], ← Int.pow_mul]
  exact PP_fermat h0 h1
theorem sq_has {x : Int} (h0 : 0 ≤ x) (h1 : x < PP) : r1I (x * x % PP) * r1I (x * x % PP) % PP = x * x % PP := by
  by_cases hx : x = 0
  · subst hx
    rw [Int.mul_zero, show (0 : Int) % PP = 0 by decide]
    have : r1I 0 = 0 := by rw [r1I, rtR_zero]; simp
    rw [this]
    rfl
  · have s0 : 0 ≤ x * x % PP := Int.emod_nonneg _ (by decide)
    have s1 : x * x % PP < PP := Int.emod_lt_of_pos _ (by decide)
    have s2 : ¬ x * x % PP = 0 := fun e => by
      rcases PP_mul e with k | k
      all_goals
        rw [Int.emod_eq_of_lt h0 h1] at k
        exact hx k
    have x0 : 0 < x := by omega
    have y0 : 0 < x * x % PP := by omega
    exact has_of y0 s1 (pow_of_sq x0 h1)
theorem dbl (A : Int) (e : Nat) (h : (2 : Int) ^ e % PP = PP - 1) : ((A + A) % PP) ^ e % PP = (PP - 1) * (A ^ e % PP) % PP := by
  rw [pwm, ← Int.two_mul, Int.mul_pow, Int.mul_emod, h]
theorem neg_P {r : Int} (h0 : 0 < r) (h1 : r < PP) : (0 - r) % PP = PP - r := by
  have e : (0 - r) = (PP - r) + PP * (-1) := by generalize PP = p; omega
  rw [e, Int.add_mul_emod_self_left, Int.emod_eq_of_lt]
  · generalize PP = p at *; omega
  · generalize PP = p at *; omega
theorem fin2_bd {r : Int} (h0 : 0 ≤ r) (h1 : r < PP) : 0 ≤ fin2 r ∧ fin2 r < PP ∧ fin2 r % 2 = 0 := by
  unfold fin2
  split
  · exact ⟨h0, h1, by assumption⟩
  · have hp : PP % 2 = 1 := by decide
    rw [neg_P (by omega) h1]
    generalize PP = p at *
    omega
theorem fin2_sq (r : Int) : fin2 r * fin2 r % PP = r * r % PP := by
  unfold fin2
  split
  · rfl
  · rw [← Int.mul_emod]
    congr 1
    grind
end Go.Proofs.YtkglcainhkbgbaaGreatDoor
namespace Go.Proofs.YtkglcainhkbgbaaGreatDoor
set_option maxRecDepth 100000
def clampL (xs : List Int) : List Int := (xs.set 0 (xs.getD 0 0 - xs.getD 0 0 % 8)).set 31 (xs.getD 31 0 % 64 + 64)
theorem clampL_len (xs : List Int) : (clampL xs).length = xs.length := by unfold clampL; simp
theorem clampL_0 {xs : List Int} (hl : xs.length = 32) : (clampL xs).getD 0 0 = xs.getD 0 0 - xs.getD 0 0 % 8 := by
  unfold clampL
  rw [getD_set_ne _ _ _ _ (by omega), getD_set_self _ _ _ (by omega)]
theorem clampL_31 {xs : List Int} (hl : xs.length = 32) : (clampL xs).getD 31 0 = xs.getD 31 0 % 64 + 64 := by
  unfold clampL
  rw [getD_set_self _ _ _ (by rw [List.length_set]; omega)]
theorem clampL_mid {xs : List Int} {j : Nat} (h0 : 0 ≠ j) (h1 : 31 ≠ j) : (clampL xs).getD j 0 = xs.getD j 0 := by
  unfold clampL
  rw [getD_set_ne _ _ _ _ h1, getD_set_ne _ _ _ _ h0]
theorem clampL_byt {xs : List Int} (hb : Byt xs) (hl : xs.length = 32) : Byt (clampL xs) := by
  intro j
  by_cases e0 : 0 = j
  · subst e0
    have := hb 0
    rw [clampL_0 hl]
    omega
  · by_cases e1 : 31 = j
    · subst e1
      have := hb 31
      rw [clampL_31 hl]
      omega
    · rw [clampL_mid e0 e1]
      exact hb j
theorem wv0 (a : Nat → Int) : wv a 32 0 = a 0 + a 1 * 256 + a 2 * 65536 + a 3 * 16777216 + a 4 * 4294967296 + a 5 * 1099511627776 + a 6 * 281474976710656 + a 7 * 72057594037927936 := by
  simp [wv]
theorem wv1 (a : Nat → Int) : wv a 32 1 = a 8 + a 9 * 256 + a 10 * 65536 + a 11 * 16777216 + a 12 * 4294967296 + a 13 * 1099511627776 + a 14 * 281474976710656 + a 15 * 72057594037927936 := by
  simp [wv]
theorem wv2 (a : Nat → Int) : wv a 32 2 = a 16 + a 17 * 256 + a 18 * 65536 + a 19 * 16777216 + a 20 * 4294967296 + a 21 * 1099511627776 + a 22 * 281474976710656 + a 23 * 72057594037927936 := by
  simp [wv]
theorem wv3 (a : Nat → Int) : wv a 32 3 = a 24 + a 25 * 256 + a 26 * 65536 + a 27 * 16777216 + a 28 * 4294967296 + a 29 * 1099511627776 + a 30 * 281474976710656 + a 31 * 72057594037927936 := by
  simp [wv]
theorem clw_is {xs : List Int} (hb : Byt xs) (hl : xs.length = 32) : ∀ j, j < 4 → clw (wv (fun j => xs.getD j 0) 32) j = wv (fun j => (clampL xs).getD j 0) 32 j := by
  intro j hj
  obtain rfl | rfl | rfl | rfl : j = 0 ∨ j = 1 ∨ j = 2 ∨ j = 3 := by omega
  · rw [wv0]
    simp only [clampL_0 hl, clampL_mid (xs := xs) (j := 1) (by omega) (by omega), clampL_mid (xs := xs) (j := 2) (by omega) (by omega), clampL_mid (xs := xs) (j := 3) (by omega) (by omega), clampL_mid (xs := xs) (j := 4) (by omega) (by omega), clampL_mid (xs := xs) (j := 5) (by omega) (by omega), clampL_mid (xs := xs) (j := 6) (by omega) (by omega), clampL_mid (xs := xs) (j := 7) (by omega) (by omega)]
    show wv (fun j => xs.getD j 0) 32 0 - wv (fun j => xs.getD j 0) 32 0 % 8 = _
    rw [wv0]
    omega
  · show wv (fun j => xs.getD j 0) 32 1 = _
    rw [wv1, wv1]
    simp only [clampL_mid (xs := xs) (j := 8) (by omega) (by omega), clampL_mid (xs := xs) (j := 9) (by omega) (by omega), clampL_mid (xs := xs) (j := 10) (by omega) (by omega), clampL_mid (xs := xs) (j := 11) (by omega) (by omega), clampL_mid (xs := xs) (j := 12) (by omega) (by omega), clampL_mid (xs := xs) (j := 13) (by omega) (by omega), clampL_mid (xs := xs) (j := 14) (by omega) (by omega), clampL_mid (xs := xs) (j := 15) (by omega) (by omega)]
  · show wv (fun j => xs.getD j 0) 32 2 = _
    rw [wv2, wv2]
    simp only [clampL_mid (xs := xs) (j := 16) (by omega) (by omega), clampL_mid (xs := xs) (j := 17) (by omega) (by omega), clampL_mid (xs := xs) (j := 18) (by omega) (by omega), clampL_mid (xs := xs) (j := 19) (by omega) (by omega), clampL_mid (xs := xs) (j := 20) (by omega) (by omega), clampL_mid (xs := xs) (j := 21) (by omega) (by omega), clampL_mid (xs := xs) (j := 22) (by omega) (by omega), clampL_mid (xs := xs) (j := 23) (by omega) (by omega)]
  · rw [wv3]
    simp only [clampL_31 hl, clampL_mid (xs := xs) (j := 24) (by omega) (by omega), clampL_mid (xs := xs) (j := 25) (by omega) (by omega), clampL_mid (xs := xs) (j := 26) (by omega) (by omega), clampL_mid (xs := xs) (j := 27) (by omega) (by omega), clampL_mid (xs := xs) (j := 28) (by omega) (by omega), clampL_mid (xs := xs) (j := 29) (by omega) (by omega), clampL_mid (xs := xs) (j := 30) (by omega) (by omega)]
    show wv (fun j => xs.getD j 0) 32 3 % 4611686018427387904 + 4611686018427387904 = _
    rw [wv3]
    have b24 := hb 24
    have b25 := hb 25
    have b26 := hb 26
    have b27 := hb 27
    have b28 := hb 28
    have b29 := hb 29
    have b30 := hb 30
    have b31 := hb 31
    generalize xs.getD 24 0 = x24 at *
    generalize xs.getD 25 0 = x25 at *
    generalize xs.getD 26 0 = x26 at *
    generalize xs.getD 27 0 = x27 at *
    generalize xs.getD 28 0 = x28 at *
    generalize xs.getD 29 0 = x29 at *
    generalize xs.getD 30 0 = x30 at *
    generalize xs.getD 31 0 = x31 at *
    omega
theorem clw_num {xs : List Int} (hb : Byt xs) (hl : xs.length = 32) : wval (clw (wv (fun j => xs.getD j 0) 32)) = num (clampL xs) := by
  have e : wval (clw (wv (fun j => xs.getD j 0) 32)) = wval (wv (fun j => (clampL xs).getD j 0) 32) := by
    unfold wval
    rw [clw_is hb hl 0 (by omega), clw_is hb hl 1 (by omega), clw_is hb hl 2 (by omega), clw_is hb hl 3 (by omega)]
  rw [e, wv_sum _ 32 (by omega)]
  unfold num
  rw [clampL_len, hl]
def kbit (K : Int) (n : Nat) : Bool := decide (K / 2 ^ n % 2 = 1)
theorem clampL_bd {xs : List Int} (hb : Byt xs) (hl : xs.length = 32) : 28948022309329048855892746252171976963317496166410141009864396001978282409984 ≤ num (clampL xs) ∧ num (clampL xs) < 57896044618658097711785492504343953926634992332820282019728792003956564819968 ∧ num (clampL xs) % 8 = 0 := by
  rw [← clw_num hb hl]
  have hW : W4 (wv (fun j => xs.getD j 0) 32) := fun j _ => wv_lt hb 32 j
  have h0 := hW 0 (by omega)
  have h1 := hW 1 (by omega)
  have h2 := hW 2 (by omega)
  have h3 := hW 3 (by omega)
  generalize wv (fun j => xs.getD j 0) 32 = W at *
  have e0 : clw W 0 = W 0 - W 0 % 8 := rfl
  have e1 : clw W 1 = W 1 := rfl
  have e2 : clw W 2 = W 2 := rfl
  have e3 : clw W 3 = W 3 % 4611686018427387904 + 4611686018427387904 := rfl
  unfold wval
  rw [e0, e1, e2, e3]
  omega
theorem PP_dvd {x : Int} : PP ∣ x ↔ x % PP = 0 := ⟨Int.emod_eq_zero_of_dvd, Int.dvd_of_emod_eq_zero⟩
theorem pri_PP : Pri PP := by
  refine ⟨fun {x y} h => ?_, by decide, by decide⟩
  have h' : P25519 ∣ x.natAbs * y.natAbs := by
    rw [← Int.natAbs_mul]
    exact Int.ofNat_dvd_left.1 h
  rcases prm_P.mul h' with k | k
  · exact Or.inl (Int.ofNat_dvd_left.2 k)
  · exact Or.inr (Int.ofNat_dvd_left.2 k)
theorem fer {l : Int} (h : ¬ PP ∣ l) : l ^ (eInv + 1) % PP = 1 := by
  have h1 : 0 < l % PP := by
    have := Int.emod_nonneg l (show PP ≠ 0 by decide)
    rcases Int.lt_or_eq_of_le this with k | k
    · exact k
    · exact absurd (PP_dvd.2 k.symm) h
  have h2 := Int.emod_lt_of_pos l (show (0 : Int) < PP by decide)
  rw [← pwm l]
  obtain ⟨n, hn⟩ := Int.eq_ofNat_of_zero_le (show 0 ≤ l % PP by omega)
  rw [hn] at h1 h2 ⊢
  have hd : ¬ P25519 ∣ n := fun hd => by
    have h := Nat.le_of_dvd (by omega) hd
    have : ((P25519 : Nat) : Int) = PP := rfl
    omega
  have f := prm_P.fermat hd
  rw [← eInv_P] at f
  rw [PP_nat, ← Int.natCast_pow, ← Int.natCast_emod, f]
  rfl
end Go.Proofs.YtkglcainhkbgbaaGreatDoor
namespace Go.Proofs.YtkglcainhkbgbaaGreatDoor
set_option maxRecDepth 100000
section
variable {P a d b s k : Int} {inv : Int → Int}
def Rep (P s : Int) (w : Int × Int) (y : Int) : Prop := P ∣ w.1 * (1 - y) - s * w.2 * (1 + y) ∧ ¬ (P ∣ w.1 ∧ P ∣ w.2)
def ldbl (k : Int) (w : Int × Int) : Int × Int :=
  ((w.1 + w.2) * (w.1 + w.2) * ((w.1 - w.2) * (w.1 - w.2)), ((w.1 + w.2) * (w.1 + w.2) - (w.1 - w.2) * (w.1 - w.2)) * ((w.1 + w.2) * (w.1 + w.2) + k * ((w.1 + w.2) * (w.1 + w.2) - (w.1 - w.2) * (w.1 - w.2))))
def lsum2 (p q : Int × Int) (x : Int) : Int × Int :=
  (((q.1 - q.2) * (p.1 + p.2) + (q.1 + q.2) * (p.1 - p.2)) * ((q.1 - q.2) * (p.1 + p.2) + (q.1 + q.2) * (p.1 - p.2)), x * (((q.1 - q.2) * (p.1 + p.2) - (q.1 + q.2) * (p.1 - p.2)) * ((q.1 - q.2) * (p.1 + p.2) - (q.1 + q.2) * (p.1 - p.2))))
theorem Rep.st (hP : Pri P) (hs : s = 1 ∨ s = -1) {w : Int × Int} {y : Int} (h : Rep P s w y) : P ∣ (w.1 - s * w.2) - y * (w.1 + s * w.2) ∧ ¬ P ∣ w.1 + s * w.2 := by
  have t : P ∣ (w.1 - s * w.2) - y * (w.1 + s * w.2) := dv2 h.1 h.1 (c1 := 1) (c2 := 0) (by grind)
  refine ⟨t, fun hS => h.2 ?_⟩
  have hT : P ∣ w.1 - s * w.2 := dv2 t hS (c1 := 1) (c2 := y) (by grind)
  have u : P ∣ 2 * w.1 := dv2 hS hT (c1 := 1) (c2 := 1) (by grind)
  have v : P ∣ 2 * w.2 := dv2 hS hT (c1 := s) (c2 := -s) (by rcases hs with rfl | rfl <;> grind)
  exact ⟨(hP.mul u).resolve_left hP.two, (hP.mul v).resolve_left hP.two⟩
structure Mon (P a d b s k : Int) : Prop where
  s1 : s = 1 ∨ s = -1
  bd : P ∣ b * (a - d) - d
  kb : 2 * k + 1 = s * (2 * b + 1)
  ad : ¬ P ∣ a - d
  a0 : ¬ P ∣ a
theorem Rep.dbl (hP : Pri P) (hC : Cpl P a d) (M : Mon P a d b s k) {w : Int × Int} {x y x2 y2 : Int} (h : Rep P s w y) (ho : On P a d x y) (hm : Sm P a d x y x y x2 y2) : Rep P s (ldbl k w) y2 := by
  obtain ⟨t, hS⟩ := h.st hP M.s1
  have E1 : P ∣ y ^ 2 - (1 + b * (1 - y ^ 2)) * (1 - a * x ^ 2) := cancel hP M.ad (dv2 ho M.bd (c1 := a) (c2 := -((1 - y ^ 2) * (1 - a * x ^ 2))) (by grind))
  have hq := hC.q ho ho
  have my := hm.y
  obtain ⟨U, V⟩ := w
  simp only at t hS
  have ST : ∃ S T, P ∣ T - y * S ∧ ¬ P ∣ S ∧ (ldbl k (U, V)).1 = S ^ 2 * T ^ 2 ∧ (ldbl k (U, V)).2 = s * (S ^ 2 - T ^ 2) * (S ^ 2 + b * (S ^ 2 - T ^ 2)) := by
    refine ⟨U + s * V, U - s * V, t, hS, ?_, ?_⟩
    · unfold ldbl
      rcases M.s1 with e | e <;> subst e <;> grind
    · unfold ldbl
      have kb := M.kb
      rcases M.s1 with e | e
      · subst e
        obtain rfl : k = b := by omega
        grind
      · subst e
        obtain rfl : k = -1 - b := by omega
        grind
  obtain ⟨S, T, hT, hS, e1, e2⟩ := ST
  have tau : P ∣ T ^ 2 - y ^ 2 * S ^ 2 := dv2 hT hT (c1 := T + y * S) (c2 := 0) (by grind)
  have ss : s * s = 1 := by rcases M.s1 with e | e <;> subst e <;> decide
  unfold Rep
  rw [e1, e2]
  constructor
  · have g1 : P ∣ S ^ 2 * T ^ 2 * (1 - y ^ 2) - (S ^ 2 - T ^ 2) * (S ^ 2 + b * (S ^ 2 - T ^ 2)) * (1 - a * x ^ 2) :=
      dv2 E1 tau (c1 := S ^ 4 * (1 - y ^ 2)) (c2 := S ^ 2 * (1 - y ^ 2) + (1 - a * x ^ 2) * (S ^ 2 * (1 + b * (1 - y ^ 2)) + b * (S ^ 2 * (1 - y ^ 2) - (T ^ 2 - y ^ 2 * S ^ 2)))) (by grind)
    refine cancel hP hq (dv3 g1 ho my (c1 := 2) (c2 := S ^ 2 * T ^ 2 - (S ^ 2 - T ^ 2) * (S ^ 2 + b * (S ^ 2 - T ^ 2))) (c3 := -(S ^ 2 * T ^ 2 + (S ^ 2 - T ^ 2) * (S ^ 2 + b * (S ^ 2 - T ^ 2)))) ?_)
    grind
  · rintro ⟨z1, z2⟩
    have zT : P ∣ T := by
      have h1 : P ∣ (S * T) * (S * T) := dv2 z1 z1 (c1 := 1) (c2 := 0) (by grind)
      rcases hP.mul h1 with h | h <;> exact (hP.mul h).resolve_left hS
    have z3 : P ∣ (1 + b) * (S ^ 2 * S ^ 2) := dv2 z2 zT (c1 := s) (c2 := T * (S ^ 2 + b * (S ^ 2 - T ^ 2)) + S ^ 2 * b * T) (by grind)
    have n2 : ¬ P ∣ S ^ 2 * S ^ 2 := by
      have n1 : ¬ P ∣ S ^ 2 := by rw [show S ^ 2 = S * S by grind]; exact nz_mul hP hS hS
      exact nz_mul hP n1 n1
    have z4 := cancel hP n2 z3
    exact M.a0 (dv2 z4 M.bd (c1 := a - d) (c2 := -1) (by grind))
theorem Rep.sum (hP : Pri P) (hC : Cpl P a d) (hs : s = 1 ∨ s = -1) {p q : Int × Int} {x x1 y1 x2 y2 xs ys xd yd : Int} (h1 : Rep P s p y1) (h2 : Rep P s q y2) (o1 : On P a d x1 y1) (o2 : On P a d x2 y2)
    (hm : Sm P a d x1 y1 x2 y2 xs ys) (hd : Sm P a d x1 y1 (-x2) y2 xd yd) (hx : P ∣ x * (1 - yd) - s * (1 + yd)) (hn : ¬ P ∣ 1 - yd) (h0 : ¬ P ∣ x) : Rep P s (lsum2 p q x) ys := by
  obtain ⟨t1, n1⟩ := h1.st hP hs
  obtain ⟨t2, n2⟩ := h2.st hP hs
  have hp := hC.p o1 o2
  have hq := hC.q o1 o2
  have D := dv2 o1 o2 (ed_diff x1 y1 x2 y2 a d)
  have dy : P ∣ yd * (1 + d * x1 * x2 * y1 * y2) - (y1 * y2 + a * x1 * x2) := dv2 hd.y hd.y (c1 := 1) (c2 := 0) (by grind)
  have sy := hm.y
  have ss : s * s = 1 := by rcases hs with e | e <;> subst e <;> decide
  have K : P ∣ (1 + ys) * (1 + yd) * (y1 - y2) ^ 2 - (1 - ys) * (1 - yd) * (y1 + y2) ^ 2 := by
    have g1 : P ∣ ((1 - d * x1 * x2 * y1 * y2) * (1 + ys)) * ((1 + d * x1 * x2 * y1 * y2) * (1 + yd)) * (y1 - y2) ^ 2 - ((1 - d * x1 * x2 * y1 * y2) * (1 - ys)) * ((1 + d * x1 * x2 * y1 * y2) * (1 - yd)) * (y1 + y2) ^ 2 := by
      generalize 1 - d * x1 * x2 * y1 * y2 = Q at *
      generalize 1 + d * x1 * x2 * y1 * y2 = R at *
      generalize y1 * y2 - a * x1 * x2 = X at *
      generalize y1 * y2 + a * x1 * x2 = Y at *
      refine dv3 D sy dy (c1 := 1) (c2 := R * (1 + yd) * (y1 - y2) ^ 2 + R * (1 - yd) * (y1 + y2) ^ 2) (c3 := (Q + X) * (y1 - y2) ^ 2 + (Q - X) * (y1 + y2) ^ 2) ?_
      grind
    refine cancel hP (nz_mul hP hq hp) (dv2 g1 g1 (c1 := 1) (c2 := 0) ?_)
    grind
  have M : P ∣ x * (1 + ys) * (y1 - y2) ^ 2 - s * (1 - ys) * (y1 + y2) ^ 2 := by
    refine cancel hP hn (dv2 K hx (c1 := s) (c2 := (1 + ys) * (y1 - y2) ^ 2) ?_)
    grind
  obtain ⟨U1, V1⟩ := p
  obtain ⟨U2, V2⟩ := q
  simp only at t1 n1 t2 n2
  have ST : ∃ S1 T1 S2 T2, P ∣ T1 - y1 * S1 ∧ ¬ P ∣ S1 ∧ P ∣ T2 - y2 * S2 ∧ ¬ P ∣ S2 ∧ (lsum2 (U1, V1) (U2, V2) x).1 = (S1 * T2 + S2 * T1) ^ 2 ∧ (lsum2 (U1, V1) (U2, V2) x).2 = x * (S1 * T2 - S2 * T1) ^ 2 := by
    refine ⟨U1 + s * V1, U1 - s * V1, U2 + s * V2, U2 - s * V2, t1, n1, t2, n2, ?_, ?_⟩
    · unfold lsum2
      rcases hs with e | e <;> subst e <;> grind
    · unfold lsum2
      rcases hs with e | e <;> subst e <;> grind
  obtain ⟨S1, T1, S2, T2, k1, m1, k2, m2, e1, e2⟩ := ST
  have f1 : P ∣ (S1 * T2 + S2 * T1) - S1 * S2 * (y1 + y2) := dv2 k1 k2 (c1 := S2) (c2 := S1) (by grind)
  have f2 : P ∣ (S1 * T2 - S2 * T1) - S1 * S2 * (y2 - y1) := dv2 k1 k2 (c1 := -S2) (c2 := S1) (by grind)
  unfold Rep
  rw [e1, e2]
  constructor
  · refine dv3 M f1 f2 (c1 := -(s * (S1 * S2) ^ 2)) (c2 := (1 - ys) * (S1 * T2 + S2 * T1 + S1 * S2 * (y1 + y2))) (c3 := -(s * x * (1 + ys) * (S1 * T2 - S2 * T1 + S1 * S2 * (y2 - y1)))) ?_
    grind
  · rintro ⟨z1, z2⟩
    have sq : ∀ z : Int, P ∣ z ^ 2 → P ∣ z := fun z hz => by
      rw [show z ^ 2 = z * z by grind] at hz
      exact (hP.mul hz).elim id id
    have z1' := sq _ z1
    have z2' := sq _ ((hP.mul z2).resolve_left h0)
    have y1z : P ∣ y1 := by
      have g : P ∣ y1 * (2 * (S1 * S2)) := dv3 z1' z2' k1 (c1 := 1) (c2 := -1) (c3 := -(2 * S2)) (by grind)
      exact cancel hP (nz_mul hP hP.two (nz_mul hP m1 m2)) g
    have y2z : P ∣ y2 := by
      have g : P ∣ y2 * (2 * (S1 * S2)) := dv3 z1' z2' k2 (c1 := 1) (c2 := 1) (c3 := -(2 * S1)) (by grind)
      exact cancel hP (nz_mul hP hP.two (nz_mul hP m1 m2)) g
    have a1 : P ∣ a * x1 ^ 2 - 1 := dv2 o1 y1z (c1 := 1) (c2 := -(y1 - d * x1 ^ 2 * y1)) (by grind)
    have a2 : P ∣ a * x2 ^ 2 - 1 := dv2 o2 y2z (c1 := 1) (c2 := -(y2 - d * x2 ^ 2 * y2)) (by grind)
    have ydv : P ∣ yd - a * x1 * x2 := dv2 dy y1z (c1 := 1) (c2 := y2 - yd * d * x1 * x2 * y2) (by grind)
    have yd1 : P ∣ (1 - yd) * (1 + yd) := dv3 ydv a1 a2 (c1 := -(yd + a * x1 * x2)) (c2 := -(a * x2 ^ 2)) (c3 := -1) (by grind)
    have yd2 : P ∣ 1 + yd := (hP.mul yd1).resolve_left hn
    have yx : P ∣ x * (1 - yd) := dv2 hx yd2 (c1 := 1) (c2 := s) (by grind)
    rcases hP.mul yx with h | h
    · exact h0 h
    · exact hn h
end
end Go.Proofs.YtkglcainhkbgbaaGreatDoor
namespace Go.Proofs.YtkglcainhkbgbaaGreatDoor
set_option maxRecDepth 100000
abbrev d0 : Int := 37095705934669439343138083508754565189542113879843219016388785533085940283555
abbrev i0 : Int := 19681161376707505956807079304988542015446066515923890162744021073123829784752
abbrev r0 : Int := 55487632915927625549282413919184614932259505768049324239291840100650878933168
theorem eI_H : eInv + 1 = 2 * eH := by decide +kernel
theorem fer2 {l : Int} (h : ¬ PP ∣ l) : l ^ (2 * eH) % PP = 1 := by rw [← eI_H]; exact fer h
def einv (c : Int) : Int := c ^ eInv
theorem einv_ok : ∀ c, ¬ PP ∣ c → PP ∣ einv c * c - 1 := fun c h => by
  have f := fer h
  unfold einv
  rw [← Int.pow_succ]
  refine PP_dvd.2 ?_
  rw [Int.sub_emod, f]
  rfl
theorem cong_dvd {x y : Int} (h : PP ∣ x - y) : x % PP = y % PP := Int.emod_eq_emod_iff_emod_sub_eq_zero.2 (PP_dvd.1 h)
theorem dvd_cong {x y : Int} (h : x % PP = y % PP) : PP ∣ x - y := PP_dvd.2 (Int.emod_eq_emod_iff_emod_sub_eq_zero.1 h)
theorem nsq_of {d : Int} (h : d ^ eH % PP = PP - 1) : NSq PP d := by
  intro r t hrt
  by_cases ht : PP ∣ t
  · exact ht
  exfalso
  have e := pow_mod (cong_dvd hrt) eH
  have et : (d * t ^ 2) ^ eH % PP = PP - 1 := by
    rw [Int.mul_pow, ← Int.pow_mul, Int.mul_emod, h, fer2 ht]
    decide
  rw [et] at e
  by_cases hr : PP ∣ r
  · have z : PP ∣ r ^ 2 := by rw [Int.pow_succ]; exact Int.dvd_mul_of_dvd_right hr
    have z2 : (r ^ 2) ^ eH % PP = 0 := by
      rw [show eH = eH - 1 + 1 from rfl, Int.pow_succ]
      exact PP_dvd.1 (Int.dvd_mul_of_dvd_right z)
    rw [z2] at e
    exact absurd e (by decide)
  · rw [← Int.pow_mul, fer2 hr] at e
    exact absurd e (by decide)
theorem i0_sq : PP ∣ i0 ^ 2 - (-1) := by decide +kernel
theorem i0_nz : ¬ PP ∣ i0 := by decide +kernel
theorem d0_half : d0 ^ eH % PP = PP - 1 := by
  have h : pm P25519 255 37095705934669439343138083508754565189542113879843219016388785533085940283555 eH = P25519 - 1 := by decide +kernel
  rw [pm_eq _ _ _ _ (by decide +kernel)] at h
  have h' : (((37095705934669439343138083508754565189542113879843219016388785533085940283555 : Nat) ^ eH % P25519 : Nat) : Int) = ((P25519 - 1 : Nat) : Int) := by rw [h]
  rw [Int.natCast_emod, Int.natCast_pow] at h'
  rw [PP_nat]
  exact h'
theorem nsqd : NSq PP d0 := nsq_of d0_half
theorem crv1 : Crv PP (-1) d0 einv := ⟨pri_PP, cpl_of pri_PP i0_sq nsqd, einv_ok⟩
theorem mon1 : Mon PP (-1) d0 121665 1 121665 := ⟨Or.inl rfl, by decide +kernel, by decide, by decide +kernel, by decide +kernel⟩
end Go.Proofs.YtkglcainhkbgbaaGreatDoor
namespace Go.Proofs.YtkglcainhkbgbaaGreatDoor
set_option maxRecDepth 100000
section
variable {P d i x D X y v : Int}
end
end Go.Proofs.YtkglcainhkbgbaaGreatDoor
namespace Go.Proofs.YtkglcainhkbgbaaGreatDoor
set_option maxRecDepth 100000
section
variable {P a d b s : Int} {inv : Int → Int}
theorem Rep.cg {w : Int × Int} {y y' : Int} (h : Rep P s w y) (e : P ∣ y - y') : Rep P s w y' :=
  ⟨dv2 h.1 e (c1 := 1) (c2 := w.1 + s * w.2) (by grind), h.2⟩
theorem Sm.res {x1 y1 x2 y2 x3 y3 x4 y4 : Int} (h : Sm P a d x1 y1 x2 y2 x3 y3) (hx : P ∣ x3 - x4) (hy : P ∣ y3 - y4) : Sm P a d x1 y1 x2 y2 x4 y4 :=
  ⟨dv2 h.x hx (c1 := 1) (c2 := -(1 + d * x1 * x2 * y1 * y2)) (by grind), dv2 h.y hy (c1 := 1) (c2 := -(1 - d * x1 * x2 * y1 * y2)) (by grind)⟩
def eneg (p : Int × Int) : Int × Int := (-p.1, p.2)
theorem eadd_negs (p q : Int × Int) : eadd a d inv (eneg p) (eneg q) = eneg (eadd a d inv p q) := by
  unfold eadd eneg
  have e1 : 1 + d * -p.1 * -q.1 * p.2 * q.2 = 1 + d * p.1 * q.1 * p.2 * q.2 := by grind
  have e2 : 1 - d * -p.1 * -q.1 * p.2 * q.2 = 1 - d * p.1 * q.1 * p.2 * q.2 := by grind
  simp only [e1, e2]
  congr 1
  · grind
  · grind
theorem step_back (H : Crv P a d inv) {A p : Int × Int} (hA : OnP P a d A) (hp : OnP P a d p) : Pe P (eadd a d inv A (eneg (eadd a d inv A p))) (eneg p) := by
  rw [← eadd_negs]
  have nA : OnP P a d (eneg A) := neg_on hA
  have np : OnP P a d (eneg p) := neg_on hp
  have e1 := (eadd_assoc H hA nA np).symm
  have e2 := eadd_cg H (eadd_on H hA nA) np (eadd_neg H hA) (Pe.refl (eneg p))
  have e3 := eadd_comm H (p := (0, 1)) (q := eneg p) zero_on np
  exact e1.trans (e2.trans (e3.trans (eadd_zero H np)))
end
structure Up (a d s : Int) (p : Int × Int) (n : Nat) (t : Two4) : Prop where
  l : Rep PP s (t.a, t.b) (emul a d einv n p).2
  r : Rep PP s (t.c, t.d) (emul a d einv (n + 1) p).2
section
variable {a d b s x : Int} {p : Int × Int}
theorem Up.zero (H : Crv PP a d einv) (hp : OnP PP a d p) (hr : Rep PP s (x, 1) p.2) : Up a d s p 0 ⟨1, 0, x, 1⟩ := by
  refine ⟨⟨⟨0, ?_⟩, fun h => pri_PP.one h.1⟩, ?_⟩
  · show 1 * (1 - 1) - s * 0 * (1 + 1) = PP * 0
    grind
  · have e : Pe PP (eadd a d einv (0, 1) p) p := (eadd_comm H zero_on hp).trans (eadd_zero H hp)
    exact hr.cg (e.symm.2)
theorem Up.step (H : Crv PP a d einv) (M : Mon PP a d b s 121665) (hp : OnP PP a d p) (hr : Rep PP s (x, 1) p.2) (hx : ¬ PP ∣ x) {n : Nat} {t : Two4} (h : Up a d s p n t) (bit : Bool) : Up a d s p (2 * n + bit.toNat) (lrnd x bit t) := by
  have hA := emul_on H hp n
  have hB := emul_on H hp (n + 1)
  have hs := M.s1
  -- the double of any multiple
  have D : ∀ (m : Nat) (u v : Int), Rep PP s (u, v) (emul a d einv m p).2 → Rep PP s (dU u v, dV u v) (emul a d einv (2 * m) p).2 := fun m u v hw => by
    have hm := emul_on H hp m
    have g := Rep.dbl H.pri H.cpl M hw hm (eadd_sm H hm hm)
    have e : Pe PP (eadd a d einv (emul a d einv m p) (emul a d einv m p)) (emul a d einv (2 * m) p) := by
      rw [Nat.two_mul]
      exact (emul_add H hp m m).symm
    have k : ldbl 121665 (u, v) = (dU u v, dV u v) := by
      unfold ldbl dU dV dW
      simp only [Prod.mk.injEq, true_and]
      grind
    rw [k] at g
    exact g.cg e.2
  -- the sum of both
  have S : Rep PP s (sU t.a t.b t.c t.d, sV x t.a t.b t.c t.d) (emul a d einv (2 * n + 1) p).2 := by
    have hd := (eadd_sm H hA (neg_on hB)).res (step_back H hA hp).1 (step_back H hA hp).2
    have hxr : PP ∣ x * (1 - p.2) - s * (1 + p.2) := dv2 hr.1 hr.1 (c1 := 1) (c2 := 0) (by grind)
    have hn : ¬ PP ∣ 1 - p.2 := fun k => by
      have h2 : PP ∣ 2 := by
        have q : PP ∣ s * 2 := dv2 hxr k (c1 := -1) (c2 := x + s) (by grind)
        rcases hs with e | e
        · rw [e] at q; simpa using q
        · rw [e] at q
          exact dv2 q q (c1 := -1) (c2 := 0) (by grind)
      exact pri_PP.two h2
    have g := Rep.sum H.pri H.cpl hs h.l h.r hA hB (eadd_sm H hA hB) hd hxr hn hx
    have e : Pe PP (eadd a d einv (emul a d einv n p) (emul a d einv (n + 1) p)) (emul a d einv (2 * n + 1) p) := by
      rw [show 2 * n + 1 = n + (n + 1) by omega]
      exact (emul_add H hp n (n + 1)).symm
    exact g.cg e.2
  cases bit
  · exact ⟨D n _ _ h.l, S⟩
  · refine ⟨S, ?_⟩
    have g := D (n + 1) _ _ h.r
    rw [show 2 * (n + 1) = 2 * n + 1 + 1 by omega] at g
    exact g
def bnum (bit : Nat → Bool) : Nat → Nat
  | 0 => 0
  | n + 1 => 2 * bnum bit n + (bit n).toNat
theorem up_all (H : Crv PP a d einv) (M : Mon PP a d b s 121665) (hp : OnP PP a d p) (hr : Rep PP s (x, 1) p.2) (hx : ¬ PP ∣ x) (bit : Nat → Bool) : ∀ n, Up a d s p (bnum bit n) (lrnds x bit n)
  | 0 => Up.zero H hp hr
  | n + 1 => Up.step H M hp hr hx (up_all H M hp hr hx bit n) (bit n)
theorem bnum_k (K : Nat) (m : Nat) : ∀ n, n ≤ m → bnum (fun i => kbit (K : Int) (m - 1 - i)) n = K / 2 ^ (m - n) % 2 ^ n
  | 0, _ => by simp [bnum, Nat.mod_one]
  | n + 1, h => by
    have ih := bnum_k K m n (by omega)
    show 2 * bnum _ n + (kbit (K : Int) (m - 1 - n)).toNat = _
    rw [ih]
    have e1 : m - n = (m - (n + 1)) + 1 := by omega
    have e2 : m - 1 - n = m - (n + 1) := by omega
    rw [e1, e2]
    generalize m - (n + 1) = j
    have b : (kbit (K : Int) j).toNat = K / 2 ^ j % 2 := by
      unfold kbit
      have c : (K : Int) / 2 ^ j % 2 = ((K / 2 ^ j % 2 : Nat) : Int) := by simp
      rw [c]
      rcases (show K / 2 ^ j % 2 = 0 ∨ K / 2 ^ j % 2 = 1 by omega) with z | z
      · rw [z]; rfl
      · rw [z]; rfl
    rw [b, Nat.pow_succ, ← Nat.div_div_eq_div_mul]
    generalize K / 2 ^ j = q
    rw [Nat.pow_succ, Nat.mul_comm (2 ^ n) 2, Nat.mod_mul]
    omega
end
end Go.Proofs.YtkglcainhkbgbaaGreatDoor
namespace Go.Proofs.YtkglcainhkbgbaaGreatDoor
set_option maxRecDepth 100000
def ladS' (x K : Int) : Int := ladE x (fun i => kbit K (255 - i)) 256
def L (x : Int) (K : Nat) : Int := ladS' x (K : Int) % PP
structure Clp (K : Nat) : Prop where
  lo : 28948022309329048855892746252171976963317496166410141009864396001978282409984 ≤ K
  hi : K < 57896044618658097711785492504343953926634992332820282019728792003956564819968
  ev : K % 8 = 0
section
variable {a d b s x : Int} {p : Int × Int}
theorem emul_zero' (H : Crv PP a d einv) : ∀ n, Pe PP (emul a d einv n (0, 1)) (0, 1)
  | 0 => Pe.refl _
  | n + 1 => (eadd_cg H (emul_on H zero_on n) zero_on (emul_zero' H n) (Pe.refl _)).trans (eadd_zero H zero_on)
end
end Go.Proofs.YtkglcainhkbgbaaGreatDoor
