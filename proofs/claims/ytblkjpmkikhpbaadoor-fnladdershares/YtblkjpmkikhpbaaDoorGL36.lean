import Derived.Test.YtblkjpmkikhpbaaDoorGL35
import Derived.Test.YtblkjpmkikhpbaaDoorGL11
import Derived.Laws.BitsAllLaws
import Derived.Test.YtblkjpmkikhpbaaDoorGL1

/-
  The program's scalars: read, and clamped.
-/
namespace Go.Proofs.YtblkjpmkikhpbaaDoor
set_option maxRecDepth 100000
open Go Go.RowKit

theorem and_not7 (x : Int) (h0 : 0 ≤ x) (h1 : x < 18446744073709551616) : bits BinOp.andNot IntKind.u64 x 7 = x - x % 8 := by
  obtain ⟨n, rfl⟩ := Int.eq_ofNat_of_zero_le h0
  have hn : n < 18446744073709551616 := by omega
  have h := u64_andNot_nat n 7 hn (by omega)
  have e : n &&& (18446744073709551615 - 7) = n / 8 * 8 := by
    apply Nat.eq_of_testBit_eq
    intro i
    rw [Nat.testBit_and, show (18446744073709551615 - 7 : Nat) = (2 ^ 61 - 1) * 2 ^ 3 from rfl, show n / 8 * 8 = n / 2 ^ 3 * 2 ^ 3 from rfl, Nat.testBit_mul_two_pow, Nat.testBit_mul_two_pow, Nat.testBit_two_pow_sub_one, Nat.testBit_div_two_pow]
    by_cases c : 3 ≤ i
    · rw [show i - 3 + 3 = i by omega]
      by_cases d : i < 64
      · simp [c, show i - 3 < 61 by omega]
      · have : n.testBit i = false := Nat.testBit_lt_two_pow (Nat.lt_of_lt_of_le hn (Nat.pow_le_pow_right (n := 2) (by decide) (show 64 ≤ i by omega)))
        simp [this]
    · simp [c]
  rw [e] at h
  rw [show (7 : Int) = ((7 : Nat) : Int) from rfl, h]
  omega
theorem and_not63 (x : Int) (h0 : 0 ≤ x) (h1 : x < 18446744073709551616) : bits BinOp.andNot IntKind.u64 x 9223372036854775808 = x % 9223372036854775808 := by
  obtain ⟨n, rfl⟩ := Int.eq_ofNat_of_zero_le h0
  have h := u64_andNot_nat n 9223372036854775808 (by omega) (by omega)
  rw [show (18446744073709551615 - 9223372036854775808 : Nat) = 2 ^ 63 - 1 from rfl, Nat.and_two_pow_sub_one_eq_mod] at h
  rw [show (9223372036854775808 : Int) = ((9223372036854775808 : Nat) : Int) from rfl, h]
  omega
theorem or62 (x : Int) (h0 : 0 ≤ x) (h1 : x < 9223372036854775808) : bits BinOp.or IntKind.u64 x 4611686018427387904 = x % 4611686018427387904 + 4611686018427387904 := by
  obtain ⟨n, rfl⟩ := Int.eq_ofNat_of_zero_le h0
  have h := bits_or_u64_nat n 4611686018427387904 (by omega) (by omega)
  have hr : n % 4611686018427387904 < 2 ^ 62 := by omega
  have o1 : 1 <<< 62 + n % 4611686018427387904 = 1 <<< 62 ||| n % 4611686018427387904 := Nat.shiftLeft_add_eq_or_of_lt hr 1
  have e : n ||| 4611686018427387904 = 4611686018427387904 + n % 4611686018427387904 := by
    rcases (show n = n % 4611686018427387904 ∨ n = 4611686018427387904 + n % 4611686018427387904 by omega) with c | c
    · rw [← c] at o1 ⊢
      rw [Nat.or_comm]
      exact o1.symm
    · have o2 : n = 4611686018427387904 ||| n % 4611686018427387904 := c.trans o1
      rw [o2, Nat.or_comm, ← Nat.or_assoc, Nat.or_self, ← o2]
      exact c
  rw [e] at h
  rw [show (4611686018427387904 : Int) = ((4611686018427387904 : Nat) : Int) from rfl, h]
  omega
/-- The clamped words. -/
def clw (W : Nat → Int) (j : Nat) : Int := if j = 0 then W 0 - W 0 % 8 else if j = 3 then W 3 % 4611686018427387904 + 4611686018427387904 else W j
theorem clw_ok {W : Nat → Int} (h : W4 W) : W4 (clw W) := by
  intro j hj
  have := h 0 (by omega)
  have := h 3 (by omega)
  have := h j hj
  unfold clw
  split
  · omega
  · split <;> omega

set_option maxHeartbeats 2000000 in
theorem readScalar_any (w : World) (g : Nat) (a : Option Addr) (cap : Nat) (xs : List Int) (hr : Rd w g a .u8 xs) (hb : Byt xs) (hl : xs.length = 32) :
    Calls Tryd.prog 36 #[.slice a 32 cap] w fun e w' => e = .returned (ag4 (wv (fun j => xs.getD j 0) 32)) ∧ Below w.heap.size w w' := by
  have hal : Below w.heap.size w (w.alloc (.cells #[.int .u64 0, .int .u64 0, .int .u64 0, .int .u64 0] 51)) := (Below.refl _ _).alloc (Nat.le_refl _) _
  have T0 := blk_box4 w .u64 51 0 0 0 0
  have sz0 : (w.alloc (.cells #[.int .u64 0, .int .u64 0, .int .u64 0, .int .u64 0] 51)).heap.size = w.heap.size + 1 := by simp
  have RW' := hide (fun w' n => readWords_any w' g a cap xs (hr.up n) hb hl)
  clear hl
  go_enter Tryd.func36, Tryd.ntmps36
  go_wp2_with fail
  generalize w.alloc (.cells #[.int .u64 0, .int .u64 0, .int .u64 0, .int .u64 0] 51) = wa at *
  refine (RW'.out wa hal).mono ?_
  rintro r w1 ⟨rfl, n1⟩
  obtain ⟨u, hu⟩ : ∃ u, u = wv (fun j => xs.getD j 0) 32 := ⟨_, rfl⟩
  have hU := hide hu
  rw [← hu]
  clear hu
  obtain ⟨⟨p0, p1, p2, p3⟩, ⟨g0, g1, g2, g3⟩⟩ := (T0.up n1).f4
  have N := nxt hal n1
  clear RW' T0 hal n1 hr hb
  simp only [ag4]
  go_wp2
  refine bodyPost_ret (v := ag4 u) (by simp [ag4, results, Tryd.results36, go_sem, p0, p1, p2, p3]) rfl ⟨by rw [hU.out], ?_⟩
  exact below_set4 N (by omega) _ _ _ _

set_option maxHeartbeats 4000000 in
theorem clamp_any (w : World) (W : Nat → Int) (hW : W4 W) :
    Calls Tryd.prog 37 #[ag4 W] w fun r w' => r = .returned (ag4 (clw W)) ∧ Below w.heap.size w w' := by
  have b0 := hW 0 (by omega)
  have b1 := hW 1 (by omega)
  have b2 := hW 2 (by omega)
  have b3 := hW 3 (by omega)
  have e1 := and_not7 (W 0) b0.1 b0.2
  have e2 := and_not63 (W 3) b3.1 b3.2
  have e3 := or62 (W 3 % 9223372036854775808) (by omega) (by omega)
  simp only [ag4]
  go_enter Tryd.func37, Tryd.ntmps37
  go_wp2
  exact bodyPost_ret (v := ag4 (clw W)) (by simp [ag4, clw, results, Tryd.results37, go_sem]) rfl ⟨rfl, ((Below.refl _ _).alloc (Nat.le_refl _) _).alloc (by simp) _⟩

/-- Thirty-two bytes without the highest bit. -/
def low7 (xs : List Int) : List Int := xs.set 31 (xs.getD 31 0 % 128)
theorem and127 : ∀ n : Fin 256, bits BinOp.and IntKind.u8 (n.val : Int) 127 = (n.val : Int) % 128 := by decide +kernel
theorem and127' (x : Int) (h : 0 ≤ x ∧ x < 256) : bits BinOp.and IntKind.u8 x 127 = x % 128 := by
  obtain ⟨n, rfl⟩ := Int.eq_ofNat_of_zero_le h.1
  exact and127 ⟨n, by omega⟩
theorem low7_byt {xs : List Int} (h : Byt xs) : Byt (low7 xs) := by
  intro j
  unfold low7
  by_cases e : 31 = j
  · subst e
    by_cases c : 31 < xs.length
    · rw [getD_set_self _ _ _ c]
      have := h 31
      show 0 ≤ xs.getD 31 0 % 128 ∧ xs.getD 31 0 % 128 < 256
      omega
    · rw [List.set_eq_of_length_le (by omega)]
      exact h 31
  · rw [getD_set_ne _ _ _ _ e]
    exact h j
theorem low7_len (xs : List Int) : (low7 xs).length = xs.length := by unfold low7; simp

set_option maxHeartbeats 4000000 in
theorem readCoordinate_any (w : World) (g : Nat) (a : Option Addr) (cap : Nat) (xs : List Int) (hr : Rd w g a .u8 xs) (hb : Byt xs) (hl : xs.length = 32) :
    Calls Tryd.prog 39 #[.slice a 32 cap] w fun e w' => e = .returned (ag5 (elt (low7 xs))) ∧ Below w.heap.size w w' := by
  have hsz : (Tryd.prog.info? 5).map (·.size) = some 1 := by kernel_rfl
  have z0 := blk_box w .u64 49 0 0 0 0 0
  have n0 : Below w.heap.size w (w.alloc (.cells #[.int .u64 0, .int .u64 0, .int .u64 0, .int .u64 0, .int .u64 0] 49)) := (Below.refl _ _).alloc (Nat.le_refl _) _
  have s0 : (w.alloc (.cells #[.int .u64 0, .int .u64 0, .int .u64 0, .int .u64 0, .int .u64 0] 49)).heap.size = w.heap.size + 1 := by simp
  have LH := hide hl
  clear hl
  go_enter Tryd.func39, Tryd.ntmps39
  go_wp2
  generalize w.alloc (.cells #[.int .u64 0, .int .u64 0, .int .u64 0, .int .u64 0, .int .u64 0] 49) = wa at *
  have Bz : Blk (wa.alloc (.cells #[.int .u8 0, .int .u8 0, .int .u8 0, .int .u8 0, .int .u8 0, .int .u8 0, .int .u8 0, .int .u8 0, .int .u8 0, .int .u8 0, .int .u8 0, .int .u8 0, .int .u8 0, .int .u8 0, .int .u8 0, .int .u8 0, .int .u8 0, .int .u8 0, .int .u8 0, .int .u8 0, .int .u8 0, .int .u8 0, .int .u8 0, .int .u8 0, .int .u8 0, .int .u8 0, .int .u8 0, .int .u8 0, .int .u8 0, .int .u8 0, .int .u8 0, .int .u8 0] 72)) wa.heap.size .u8 (List.replicate 32 0) := ⟨72, by rw [heap_alloc_last]; rfl⟩
  have n1 : Below wa.heap.size wa (wa.alloc (.cells #[.int .u8 0, .int .u8 0, .int .u8 0, .int .u8 0, .int .u8 0, .int .u8 0, .int .u8 0, .int .u8 0, .int .u8 0, .int .u8 0, .int .u8 0, .int .u8 0, .int .u8 0, .int .u8 0, .int .u8 0, .int .u8 0, .int .u8 0, .int .u8 0, .int .u8 0, .int .u8 0, .int .u8 0, .int .u8 0, .int .u8 0, .int .u8 0, .int .u8 0, .int .u8 0, .int .u8 0, .int .u8 0, .int .u8 0, .int .u8 0, .int .u8 0, .int .u8 0] 72)) := (Below.refl _ _).alloc (Nat.le_refl _) _
  generalize wa.alloc (.cells #[.int .u8 0, .int .u8 0, .int .u8 0, .int .u8 0, .int .u8 0, .int .u8 0, .int .u8 0, .int .u8 0, .int .u8 0, .int .u8 0, .int .u8 0, .int .u8 0, .int .u8 0, .int .u8 0, .int .u8 0, .int .u8 0, .int .u8 0, .int .u8 0, .int .u8 0, .int .u8 0, .int .u8 0, .int .u8 0, .int .u8 0, .int .u8 0, .int .u8 0, .int .u8 0, .int .u8 0, .int .u8 0, .int .u8 0, .int .u8 0, .int .u8 0, .int .u8 0] 72) = wb at *
  rw [s0] at Bz
  have N1 := nxt n0 n1
  obtain ⟨w2, hrun, B2, O2⟩ := copy_blk (P := Tryd.prog) wb 22 3 5 Tryd.underlying22 hsz Bz g a xs (hr.up N1) (by rw [LH.out]; simp) 32 cap
  rw [List.length_replicate, LH.out] at hrun
  rw [List.drop_eq_nil_of_le (by rw [LH.out]; simp), List.append_nil] at B2
  have Z2 := (z0.up n1).of_block (O2.block w.heap.size (by omega))
  have N2 : Below w.heap.size w w2 := N1.trans (O2.below (by omega))
  rw [hrun]
  have c31 := B2.cell (i := 31) (by rw [LH.out]; decide)
  have f31 := B2.free 31
  have x31 := hb 31
  have S := B2.store 31 (xs.getD 31 0 % 128)
  have Z3 := Z2.of_block (w' := w2.setCell ⟨w.heap.size + 1, 31, none⟩ (.int .u8 (xs.getD 31 0 % 128))) (heap_setCell_other _ ⟨w.heap.size + 1, 31, none⟩ w.heap.size _ (by show w.heap.size ≠ w.heap.size + 1; omega))
  have N3 : Below w.heap.size w (w2.setCell ⟨w.heap.size + 1, 31, none⟩ (.int .u8 (xs.getD 31 0 % 128))) := N2.setCell (by show w.heap.size ≤ w.heap.size + 1; omega) _
  have e31 := and127' _ x31
  have SL : Hid (Blk (w2.setCell ⟨w.heap.size + 1, 31, none⟩ (.int .u8 (xs.getD 31 0 % 128))) (w.heap.size + 1) .u8 (low7 xs)) := S
  have LL := hide ((low7_len xs).trans LH.out)
  have LB := hide (low7_byt hb)
  clear hr hb z0 n0 s0 LH Bz n1 N1 hrun B2 O2 Z2 N2 S
  obtain ⟨ys, hys⟩ : ∃ ys, ys = low7 xs := ⟨_, rfl⟩
  rw [← hys] at SL LL LB
  have HY := hide hys
  clear hys
  generalize xs.getD 31 0 = x at *
  go_wp2_with fail
  generalize w2.setCell ⟨w.heap.size + 1, 31, none⟩ (.int .u8 (x % 128)) = w3 at *
  refine (readElement_any w3 (w.heap.size + 1) _ 32 ys SL.out.own0.rd LB.out LL.out).mono ?_
  rintro r w4 ⟨rfl, n4⟩
  obtain ⟨⟨p0, p1, p2, p3, p4⟩, ⟨g0, g1, g2, g3, g4⟩⟩ := (Z3.up n4).f5
  have N4 := nxt N3 n4
  obtain ⟨t, ht⟩ : ∃ t, t = elt ys := ⟨_, rfl⟩
  have hT := hide ht
  rw [show stl (rl (wv (fun j => ys.getD j 0) 32)) = t from ht.symm]
  clear ht Z3 N3 n4 SL LL LB c31 f31 e31 x31
  simp only [ag5]
  go_wp2
  exact bodyPost_ret (v := ag5 t) (by simp [ag5, results, Tryd.results39, go_sem, p0, p1, p2, p3, p4]) rfl ⟨by rw [hT.out, HY.out], below_set5 N4 (by omega) _ _ _ _ _⟩
end Go.Proofs.YtblkjpmkikhpbaaDoor

/-
  Edwards curves a x^2 + y^2 = 1 + d x^2 y^2 modulo a prime P, with sums whose denominators never vanish: numbers alone.
-/
namespace Go.Proofs.YtblkjpmkikhpbaaDoor
set_option maxRecDepth 100000

set_option maxRecDepth 10000 in
set_option maxHeartbeats 4000000 in
theorem ed_assoc_x (x1 y1 x2 y2 x3 y3 a d : Int) :
    ((x1*y2 + y1*x2)*y3*(1 - d*x1*x2*y1*y2) + (y1*y2 - a*x1*x2)*x3*(1 + d*x1*x2*y1*y2)) * ((1 + d*x2*x3*y2*y3)*(1 - d*x2*x3*y2*y3) + d*(x2*y3 + y2*x3)*(y2*y3 - a*x2*x3)*x1*y1)
    - (x1*(y2*y3 - a*x2*x3)*(1 + d*x2*x3*y2*y3) + y1*(x2*y3 + y2*x3)*(1 - d*x2*x3*y2*y3)) * ((1 + d*x1*x2*y1*y2)*(1 - d*x1*x2*y1*y2) + d*(x1*y2 + y1*x2)*(y1*y2 - a*x1*x2)*x3*y3)
    = (x1*x2^4*y2^3*x3^2*y3*a*d^2 - x1*x2^4*y2*x3^2*y3*a^2*d - x1*x2^3*y2^4*x3*y3^2*d^2 - x1*x2^3*y2^2*x3^3*a^2*d + x1*x2^3*y2^2*x3*a*d + x1*x2^2*y2^3*y3^3*d - x1*x2^2*y2^3*y3*d + x1*x2*y2^4*x3*y3^2*d + y1*x2^4*y2^3*x3*y3^2*d^2 - y1*x2^4*y2*x3*y3^2*a*d + y1*x2^3*y2^4*x3^2*y3*d^2 + y1*x2^3*y2^2*y3^3*d - y1*x2^3*y2^2*y3*d + y1*x2^2*y2^3*x3^3*a*d - y1*x2^2*y2^3*x3*d - y1*x2*y2^4*x3^2*y3*d)*(a*x1^2 + y1^2 - 1 - d*x1^2*y1^2) + (x1^3*x2^2*y2*x3^2*y3*a^2*d - x1^3*x2*y2^2*x3*y3^2*a*d - x1^2*y1*x2^2*y2*x3^3*a^2*d + x1^2*y1*x2^2*y2*x3*a*d - x1^2*y1*x2*y2^2*y3^3*d + x1^2*y1*x2*y2^2*y3*d - x1*y1^2*x2^2*y2*y3^3*d + x1*y1^2*x2^2*y2*y3*d + x1*y1^2*x2*y2^2*x3^3*a*d - x1*y1^2*x2*y2^2*x3*d - x1*x2^2*y2*x3^2*y3*a*d + x1*x2*y2^2*x3*y3^2*d + y1^3*x2^2*y2*x3*y3^2*d + y1^3*x2*y2^2*x3^2*y3*d - y1*x2^2*y2*x3*y3^2*d - y1*x2*y2^2*x3^2*y3*d)*(a*x2^2 + y2^2 - 1 - d*x2^2*y2^2) + (x1^3*x2^3*y2^2*x3*a^2*d - x1^3*x2^2*y2^3*y3*a*d - x1^2*y1*x2^4*y2^3*x3*a*d^2 + x1^2*y1*x2^4*y2*x3*a^2*d - x1^2*y1*x2^3*y2^4*y3*d^2 + x1^2*y1*x2*y2^4*y3*d - x1*y1^2*x2^4*y2^3*y3*d^2 + x1*y1^2*x2^4*y2*y3*a*d + x1*y1^2*x2^3*y2^4*x3*d^2 - x1*y1^2*x2*y2^4*x3*d - x1*x2^3*y2^2*x3*a*d + x1*x2^2*y2^3*y3*d - y1^3*x2^3*y2^2*y3*d - y1^3*x2^2*y2^3*x3*d + y1*x2^3*y2^2*y3*d + y1*x2^2*y2^3*x3*d)*(a*x3^2 + y3^2 - 1 - d*x3^2*y3^2) := by grind
set_option maxRecDepth 10000 in
set_option maxHeartbeats 4000000 in
theorem ed_assoc_y (x1 y1 x2 y2 x3 y3 a d : Int) :
    ((y1*y2 - a*x1*x2)*y3*(1 + d*x1*x2*y1*y2) - a*(x1*y2 + y1*x2)*x3*(1 - d*x1*x2*y1*y2)) * ((1 + d*x2*x3*y2*y3)*(1 - d*x2*x3*y2*y3) - d*(x2*y3 + y2*x3)*(y2*y3 - a*x2*x3)*x1*y1)
    - (y1*(y2*y3 - a*x2*x3)*(1 + d*x2*x3*y2*y3) - a*x1*(x2*y3 + y2*x3)*(1 - d*x2*x3*y2*y3)) * ((1 + d*x1*x2*y1*y2)*(1 - d*x1*x2*y1*y2) - d*(x1*y2 + y1*x2)*(y1*y2 - a*x1*x2)*x3*y3)
    = (-x1*x2^4*y2^3*x3*y3^2*a*d^2 + x1*x2^4*y2*x3*y3^2*a^2*d - x1*x2^3*y2^4*x3^2*y3*a*d^2 - x1*x2^3*y2^2*y3^3*a*d + x1*x2^3*y2^2*y3*a*d - x1*x2^2*y2^3*x3^3*a^2*d + x1*x2^2*y2^3*x3*a*d + x1*x2*y2^4*x3^2*y3*a*d + y1*x2^4*y2^3*x3^2*y3*a*d^2 - y1*x2^4*y2*x3^2*y3*a^2*d - y1*x2^3*y2^4*x3*y3^2*d^2 - y1*x2^3*y2^2*x3^3*a^2*d + y1*x2^3*y2^2*x3*a*d + y1*x2^2*y2^3*y3^3*d - y1*x2^2*y2^3*y3*d + y1*x2*y2^4*x3*y3^2*d)*(a*x1^2 + y1^2 - 1 - d*x1^2*y1^2) + (-x1^3*x2^2*y2*x3*y3^2*a^2*d - x1^3*x2*y2^2*x3^2*y3*a^2*d - x1^2*y1*x2^2*y2*y3^3*a*d + x1^2*y1*x2^2*y2*y3*a*d + x1^2*y1*x2*y2^2*x3^3*a^2*d - x1^2*y1*x2*y2^2*x3*a*d + x1*y1^2*x2^2*y2*x3^3*a^2*d - x1*y1^2*x2^2*y2*x3*a*d + x1*y1^2*x2*y2^2*y3^3*d - x1*y1^2*x2*y2^2*y3*d + x1*x2^2*y2*x3*y3^2*a*d + x1*x2*y2^2*x3^2*y3*a*d + y1^3*x2^2*y2*x3^2*y3*a*d - y1^3*x2*y2^2*x3*y3^2*d - y1*x2^2*y2*x3^2*y3*a*d + y1*x2*y2^2*x3*y3^2*d)*(a*x2^2 + y2^2 - 1 - d*x2^2*y2^2) + (x1^3*x2^3*y2^2*y3*a^2*d + x1^3*x2^2*y2^3*x3*a^2*d - x1^2*y1*x2^4*y2^3*y3*a*d^2 + x1^2*y1*x2^4*y2*y3*a^2*d + x1^2*y1*x2^3*y2^4*x3*a*d^2 - x1^2*y1*x2*y2^4*x3*a*d + x1*y1^2*x2^4*y2^3*x3*a*d^2 - x1*y1^2*x2^4*y2*x3*a^2*d + x1*y1^2*x2^3*y2^4*y3*d^2 - x1*y1^2*x2*y2^4*y3*d - x1*x2^3*y2^2*y3*a*d - x1*x2^2*y2^3*x3*a*d + y1^3*x2^3*y2^2*x3*a*d - y1^3*x2^2*y2^3*y3*d - y1*x2^3*y2^2*x3*a*d + y1*x2^2*y2^3*y3*d)*(a*x3^2 + y3^2 - 1 - d*x3^2*y3^2) := by grind
set_option maxRecDepth 10000 in
set_option maxHeartbeats 4000000 in
theorem ed_close (x1 y1 x2 y2 a d : Int) :
    a*(x1*y2 + y1*x2)^2*(1 - d*x1*x2*y1*y2)^2 + (y1*y2 - a*x1*x2)^2*(1 + d*x1*x2*y1*y2)^2 - (1 + d*x1*x2*y1*y2)^2*(1 - d*x1*x2*y1*y2)^2 - d*(x1*y2 + y1*x2)^2*(y1*y2 - a*x1*x2)^2
    = (x1^2*y1^2*x2^4*y2^4*d^3 + x1^2*x2^4*y2^4*a*d^2 - x1^2*x2^4*y2^2*a^2*d - x1^2*x2^2*y2^4*a*d + y1^2*x2^4*y2^4*d^2 - y1^2*x2^4*y2^2*a*d - y1^2*x2^2*y2^4*d + 2*x2^4*y2^4*a*d - x2^4*y2^4*d^2 - 2*x2^4*y2^2*a^2 + x2^4*a^2 - 2*x2^2*y2^4*a + 4*x2^2*y2^2*a - 2*x2^2*y2^2*d + y2^4)*(a*x1^2 + y1^2 - 1 - d*x1^2*y1^2) + (x1^4*x2^2*y2^2*a^2*d + 2*x1^2*x2^2*y2^2*a^2 - 2*x1^2*x2^2*y2^2*a*d - x1^2*x2^2*a^2 - x1^2*y2^2*a + y1^4*x2^2*y2^2*d + 2*y1^2*x2^2*y2^2*a - 2*y1^2*x2^2*y2^2*d - y1^2*x2^2*a - y1^2*y2^2 - 2*x2^2*y2^2*a + x2^2*y2^2*d + x2^2*a + y2^2 + 1)*(a*x2^2 + y2^2 - 1 - d*x2^2*y2^2) := by grind
set_option maxHeartbeats 4000000 in
theorem ed_diff (x1 y1 x2 y2 a d : Int) :
    ((1 - d*x1*x2*y1*y2) + (y1*y2 - a*x1*x2))*((1 + d*x1*x2*y1*y2) + (y1*y2 + a*x1*x2))*(y1 - y2)^2 - ((1 - d*x1*x2*y1*y2) - (y1*y2 - a*x1*x2))*((1 + d*x1*x2*y1*y2) - (y1*y2 + a*x1*x2))*(y1 + y2)^2
    = (-4*y1*x2^2*y2^3*d + 4*y1*x2^2*y2*a)*(a*x1^2 + y1^2 - 1 - d*x1^2*y1^2) + (-4*y1^3*y2 + 4*y1*y2)*(a*x2^2 + y2^2 - 1 - d*x2^2*y2^2) := by grind
end Go.Proofs.YtblkjpmkikhpbaaDoor
