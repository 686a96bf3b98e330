import Derived.Test.YthapcapiiknjdaaDoorGB19
import Derived.Deep.DeepCutAuto
import Derived.Test.YthapcapiiknjdaaDoorGB6
import Derived.Test.YthapcapiiknjdaaDoorGB16
import Derived.Laws.BitsAllLaws
import Derived.Test.YthapcapiiknjdaaDoorGB1

/-
  The program's ladder, whole.
-/
namespace Go.Proofs.YthapcapiiknjdaaDoor
set_option maxRecDepth 100000
open Go Go.RowKit

theorem But2.there {q1 q2 g n : Nat} {W W' : World} (h : But2 q1 q2 W W') (hn : 0 < n) (e : W.there g 0 n) (h1 : g ≠ q1) (h2 : g ≠ q2) : W'.there g 0 n := by
  have hb := h.1 g h1 h2 (there_lt hn e)
  exact fun j hj => ⟨by rw [World.cell?_of_block (a := ⟨g, 0 + j, none⟩) hb]; exact (e j hj).1, by rw [World.frozen?_of_block (a := ⟨g, 0 + j, none⟩) hb]; exact (e j hj).2⟩
/-- What the ladder answers. -/
def ladE (x : Int) (bit : Nat → Bool) (n : Nat) : Int := (lrnds x bit n).a * (lrnds x bit n).b ^ eInv

end Go.Proofs.YthapcapiiknjdaaDoor

/-
  The program's words of the order: a package's words in memory, scalars to and from bytes.
-/
namespace Go.Proofs.YthapcapiiknjdaaDoor
set_option maxRecDepth 100000
open Go.RowKit

/-- Block g holds n words f. -/
def HasW (w : World) (g : Nat) (f : Nat → Int) (n : Nat) : Prop := ∀ k, k < n → w.cell? ⟨g, k, none⟩ = some (.int .u64 (f k))
theorem HasW.of_block {w w' : World} {g n : Nat} {f : Nat → Int} (h : HasW w g f n) (hb : w'.heap[g]? = w.heap[g]?) : HasW w' g f n := fun k hk => (World.cell?_of_block (a := ⟨g, k, none⟩) hb).trans (h k hk)
theorem HasW.lt {w : World} {g n : Nat} {f : Nat → Int} (h : HasW w g f n) (hn : 0 < n) : g < w.heap.size := block_lt_of_cell (h 0 hn)
theorem HasW.up {w w' : World} {g n : Nat} {f : Nat → Int} (h : HasW w g f n) (b : Below w.heap.size w w') : HasW w' g f n := by
  by_cases hn : 0 < n
  · exact h.of_block (b.block g (h.lt hn))
  · exact fun k hk => absurd hk (by omega)
theorem HasW.f4 {w : World} {g : Nat} {f : Nat → Int} (h : HasW w g f 4) : w.cell? ⟨g, 0, none⟩ = some (.int .u64 (f 0)) ∧ w.cell? ⟨g, 1, none⟩ = some (.int .u64 (f 1)) ∧ w.cell? ⟨g, 2, none⟩ = some (.int .u64 (f 2)) ∧ w.cell? ⟨g, 3, none⟩ = some (.int .u64 (f 3)) :=
  ⟨h 0 (by omega), h 1 (by omega), h 2 (by omega), h 3 (by omega)⟩

end Go.Proofs.YthapcapiiknjdaaDoor

/-
  The program's scalars: read, and clamped.
-/
namespace Go.Proofs.YthapcapiiknjdaaDoor
set_option maxRecDepth 100000
open Go Go.RowKit

theorem and_not63 (x : Int) (h0 : 0 ≤ x) (h1 : x < 18446744073709551616) : bits BinOp.andNot IntKind.u64 x 9223372036854775808 = x % 9223372036854775808 := by
  obtain ⟨n, rfl⟩ := Int.eq_ofNat_of_zero_le h0
  have h := u64_andNot_nat n 9223372036854775808 (by omega) (by omega)
  rw [show (18446744073709551615 - 9223372036854775808 : Nat) = 2 ^ 63 - 1 from rfl, Nat.and_two_pow_sub_one_eq_mod] at h
  rw [show (9223372036854775808 : Int) = ((9223372036854775808 : Nat) : Int) from rfl, h]
  omega


/-- Thirty-two bytes without the highest bit. -/
def low7 (xs : List Int) : List Int := xs.set 31 (xs.getD 31 0 % 128)
theorem and127 : ∀ n : Fin 256, bits BinOp.and IntKind.u8 (n.val : Int) 127 = (n.val : Int) % 128 := by decide +kernel
theorem and127' (x : Int) (h : 0 ≤ x ∧ x < 256) : bits BinOp.and IntKind.u8 x 127 = x % 128 := by
  obtain ⟨n, rfl⟩ := Int.eq_ofNat_of_zero_le h.1
  exact and127 ⟨n, by omega⟩
theorem low7_byt {xs : List Int} (h : Byt xs) : Byt (low7 xs) := by
  intro j
  unfold low7
  by_cases e : 31 = j
  · subst e
    by_cases c : 31 < xs.length
    · rw [getD_set_self _ _ _ c]
      have := h 31
      show 0 ≤ xs.getD 31 0 % 128 ∧ xs.getD 31 0 % 128 < 256
      omega
    · rw [List.set_eq_of_length_le (by omega)]
      exact h 31
  · rw [getD_set_ne _ _ _ _ e]
    exact h j
theorem low7_len (xs : List Int) : (low7 xs).length = xs.length := by unfold low7; simp

set_option maxHeartbeats 4000000 in
theorem readCoordinate_any (w : World) (g : Nat) (a : Option Addr) (cap : Nat) (xs : List Int) (hr : Rd w g a .u8 xs) (hb : Byt xs) (hl : xs.length = 32) :
    Calls Tryd.prog 79 #[.slice a 32 cap] w fun e w' => e = .returned (ag5 (elt (low7 xs))) ∧ Below w.heap.size w w' := by
  have hsz : (Tryd.prog.info? 5).map (·.size) = some 1 := by kernel_rfl
  have z0 := blk_box w .u64 56 0 0 0 0 0
  have n0 : Below w.heap.size w (w.alloc (.cells #[.int .u64 0, .int .u64 0, .int .u64 0, .int .u64 0, .int .u64 0] 56)) := (Below.refl _ _).alloc (Nat.le_refl _) _
  have s0 : (w.alloc (.cells #[.int .u64 0, .int .u64 0, .int .u64 0, .int .u64 0, .int .u64 0] 56)).heap.size = w.heap.size + 1 := by simp
  have LH := hide hl
  clear hl
  go_enter Tryd.func79, Tryd.ntmps79
  go_wp2
  generalize w.alloc (.cells #[.int .u64 0, .int .u64 0, .int .u64 0, .int .u64 0, .int .u64 0] 56) = wa at *
  have Bz : Blk (wa.alloc (.cells #[.int .u8 0, .int .u8 0, .int .u8 0, .int .u8 0, .int .u8 0, .int .u8 0, .int .u8 0, .int .u8 0, .int .u8 0, .int .u8 0, .int .u8 0, .int .u8 0, .int .u8 0, .int .u8 0, .int .u8 0, .int .u8 0, .int .u8 0, .int .u8 0, .int .u8 0, .int .u8 0, .int .u8 0, .int .u8 0, .int .u8 0, .int .u8 0, .int .u8 0, .int .u8 0, .int .u8 0, .int .u8 0, .int .u8 0, .int .u8 0, .int .u8 0, .int .u8 0] 125)) wa.heap.size .u8 (List.replicate 32 0) := ⟨125, by rw [heap_alloc_last]; rfl⟩
  have n1 : Below wa.heap.size wa (wa.alloc (.cells #[.int .u8 0, .int .u8 0, .int .u8 0, .int .u8 0, .int .u8 0, .int .u8 0, .int .u8 0, .int .u8 0, .int .u8 0, .int .u8 0, .int .u8 0, .int .u8 0, .int .u8 0, .int .u8 0, .int .u8 0, .int .u8 0, .int .u8 0, .int .u8 0, .int .u8 0, .int .u8 0, .int .u8 0, .int .u8 0, .int .u8 0, .int .u8 0, .int .u8 0, .int .u8 0, .int .u8 0, .int .u8 0, .int .u8 0, .int .u8 0, .int .u8 0, .int .u8 0] 125)) := (Below.refl _ _).alloc (Nat.le_refl _) _
  generalize wa.alloc (.cells #[.int .u8 0, .int .u8 0, .int .u8 0, .int .u8 0, .int .u8 0, .int .u8 0, .int .u8 0, .int .u8 0, .int .u8 0, .int .u8 0, .int .u8 0, .int .u8 0, .int .u8 0, .int .u8 0, .int .u8 0, .int .u8 0, .int .u8 0, .int .u8 0, .int .u8 0, .int .u8 0, .int .u8 0, .int .u8 0, .int .u8 0, .int .u8 0, .int .u8 0, .int .u8 0, .int .u8 0, .int .u8 0, .int .u8 0, .int .u8 0, .int .u8 0, .int .u8 0] 125) = wb at *
  rw [s0] at Bz
  have N1 := nxt n0 n1
  obtain ⟨w2, hrun, B2, O2⟩ := copy_blk (P := Tryd.prog) wb 22 3 5 Tryd.underlying22 hsz Bz g a xs (hr.up N1) (by rw [LH.out]; simp) 32 cap
  rw [List.length_replicate, LH.out] at hrun
  rw [List.drop_eq_nil_of_le (by rw [LH.out]; simp), List.append_nil] at B2
  have Z2 := (z0.up n1).of_block (O2.block w.heap.size (by omega))
  have N2 : Below w.heap.size w w2 := N1.trans (O2.below (by omega))
  rw [hrun]
  have c31 := B2.cell (i := 31) (by rw [LH.out]; decide)
  have f31 := B2.free 31
  have x31 := hb 31
  have S := B2.store 31 (xs.getD 31 0 % 128)
  have Z3 := Z2.of_block (w' := w2.setCell ⟨w.heap.size + 1, 31, none⟩ (.int .u8 (xs.getD 31 0 % 128))) (heap_setCell_other _ ⟨w.heap.size + 1, 31, none⟩ w.heap.size _ (by show w.heap.size ≠ w.heap.size + 1; omega))
  have N3 : Below w.heap.size w (w2.setCell ⟨w.heap.size + 1, 31, none⟩ (.int .u8 (xs.getD 31 0 % 128))) := N2.setCell (by show w.heap.size ≤ w.heap.size + 1; omega) _
  have e31 := and127' _ x31
  have SL : Hid (Blk (w2.setCell ⟨w.heap.size + 1, 31, none⟩ (.int .u8 (xs.getD 31 0 % 128))) (w.heap.size + 1) .u8 (low7 xs)) := S
  have LL := hide ((low7_len xs).trans LH.out)
  have LB := hide (low7_byt hb)
  clear hr hb z0 n0 s0 LH Bz n1 N1 hrun B2 O2 Z2 N2 S
  obtain ⟨ys, hys⟩ : ∃ ys, ys = low7 xs := ⟨_, rfl⟩
  rw [← hys] at SL LL LB
  have HY := hide hys
  clear hys
  generalize xs.getD 31 0 = x at *
  go_wp2_with fail
  generalize w2.setCell ⟨w.heap.size + 1, 31, none⟩ (.int .u8 (x % 128)) = w3 at *
  refine (readElement_any w3 (w.heap.size + 1) _ 32 ys SL.out.own0.rd LB.out LL.out).mono ?_
  rintro r w4 ⟨rfl, n4⟩
  obtain ⟨⟨p0, p1, p2, p3, p4⟩, ⟨g0, g1, g2, g3, g4⟩⟩ := (Z3.up n4).f5
  have N4 := nxt N3 n4
  obtain ⟨t, ht⟩ : ∃ t, t = elt ys := ⟨_, rfl⟩
  have hT := hide ht
  rw [show stl (rl (wv (fun j => ys.getD j 0) 32)) = t from ht.symm]
  clear ht Z3 N3 n4 SL LL LB c31 f31 e31 x31
  simp only [ag5]
  go_wp2
  exact bodyPost_ret (v := ag5 t) (by simp [ag5, results, Tryd.results79, go_sem, p0, p1, p2, p3, p4]) rfl ⟨by rw [hT.out, HY.out], below_set5 N4 (by omega) _ _ _ _ _⟩
end Go.Proofs.YthapcapiiknjdaaDoor

/-
  Edwards curves a x^2 + y^2 = 1 + d x^2 y^2 modulo a prime P, with sums whose denominators never vanish: numbers alone.
-/
namespace Go.Proofs.YthapcapiiknjdaaDoor
set_option maxRecDepth 100000

set_option maxRecDepth 10000 in
set_option maxHeartbeats 4000000 in
theorem ed_assoc_x (x1 y1 x2 y2 x3 y3 a d : Int) :
    ((x1*y2 + y1*x2)*y3*(1 - d*x1*x2*y1*y2) + (y1*y2 - a*x1*x2)*x3*(1 + d*x1*x2*y1*y2)) * ((1 + d*x2*x3*y2*y3)*(1 - d*x2*x3*y2*y3) + d*(x2*y3 + y2*x3)*(y2*y3 - a*x2*x3)*x1*y1)
    - (x1*(y2*y3 - a*x2*x3)*(1 + d*x2*x3*y2*y3) + y1*(x2*y3 + y2*x3)*(1 - d*x2*x3*y2*y3)) * ((1 + d*x1*x2*y1*y2)*(1 - d*x1*x2*y1*y2) + d*(x1*y2 + y1*x2)*(y1*y2 - a*x1*x2)*x3*y3)
    = (x1*x2^4*y2^3*x3^2*y3*a*d^2 - x1*x2^4*y2*x3^2*y3*a^2*d - x1*x2^3*y2^4*x3*y3^2*d^2 - x1*x2^3*y2^2*x3^3*a^2*d + x1*x2^3*y2^2*x3*a*d + x1*x2^2*y2^3*y3^3*d - x1*x2^2*y2^3*y3*d + x1*x2*y2^4*x3*y3^2*d + y1*x2^4*y2^3*x3*y3^2*d^2 - y1*x2^4*y2*x3*y3^2*a*d + y1*x2^3*y2^4*x3^2*y3*d^2 + y1*x2^3*y2^2*y3^3*d - y1*x2^3*y2^2*y3*d + y1*x2^2*y2^3*x3^3*a*d - y1*x2^2*y2^3*x3*d - y1*x2*y2^4*x3^2*y3*d)*(a*x1^2 + y1^2 - 1 - d*x1^2*y1^2) + (x1^3*x2^2*y2*x3^2*y3*a^2*d - x1^3*x2*y2^2*x3*y3^2*a*d - x1^2*y1*x2^2*y2*x3^3*a^2*d + x1^2*y1*x2^2*y2*x3*a*d - x1^2*y1*x2*y2^2*y3^3*d + x1^2*y1*x2*y2^2*y3*d - x1*y1^2*x2^2*y2*y3^3*d + x1*y1^2*x2^2*y2*y3*d + x1*y1^2*x2*y2^2*x3^3*a*d - x1*y1^2*x2*y2^2*x3*d - x1*x2^2*y2*x3^2*y3*a*d + x1*x2*y2^2*x3*y3^2*d + y1^3*x2^2*y2*x3*y3^2*d + y1^3*x2*y2^2*x3^2*y3*d - y1*x2^2*y2*x3*y3^2*d - y1*x2*y2^2*x3^2*y3*d)*(a*x2^2 + y2^2 - 1 - d*x2^2*y2^2) + (x1^3*x2^3*y2^2*x3*a^2*d - x1^3*x2^2*y2^3*y3*a*d - x1^2*y1*x2^4*y2^3*x3*a*d^2 + x1^2*y1*x2^4*y2*x3*a^2*d - x1^2*y1*x2^3*y2^4*y3*d^2 + x1^2*y1*x2*y2^4*y3*d - x1*y1^2*x2^4*y2^3*y3*d^2 + x1*y1^2*x2^4*y2*y3*a*d + x1*y1^2*x2^3*y2^4*x3*d^2 - x1*y1^2*x2*y2^4*x3*d - x1*x2^3*y2^2*x3*a*d + x1*x2^2*y2^3*y3*d - y1^3*x2^3*y2^2*y3*d - y1^3*x2^2*y2^3*x3*d + y1*x2^3*y2^2*y3*d + y1*x2^2*y2^3*x3*d)*(a*x3^2 + y3^2 - 1 - d*x3^2*y3^2) := by grind
set_option maxRecDepth 10000 in
set_option maxHeartbeats 4000000 in
theorem ed_assoc_y (x1 y1 x2 y2 x3 y3 a d : Int) :
    ((y1*y2 - a*x1*x2)*y3*(1 + d*x1*x2*y1*y2) - a*(x1*y2 + y1*x2)*x3*(1 - d*x1*x2*y1*y2)) * ((1 + d*x2*x3*y2*y3)*(1 - d*x2*x3*y2*y3) - d*(x2*y3 + y2*x3)*(y2*y3 - a*x2*x3)*x1*y1)
    - (y1*(y2*y3 - a*x2*x3)*(1 + d*x2*x3*y2*y3) - a*x1*(x2*y3 + y2*x3)*(1 - d*x2*x3*y2*y3)) * ((1 + d*x1*x2*y1*y2)*(1 - d*x1*x2*y1*y2) - d*(x1*y2 + y1*x2)*(y1*y2 - a*x1*x2)*x3*y3)
    = (-x1*x2^4*y2^3*x3*y3^2*a*d^2 + x1*x2^4*y2*x3*y3^2*a^2*d - x1*x2^3*y2^4*x3^2*y3*a*d^2 - x1*x2^3*y2^2*y3^3*a*d + x1*x2^3*y2^2*y3*a*d - x1*x2^2*y2^3*x3^3*a^2*d + x1*x2^2*y2^3*x3*a*d + x1*x2*y2^4*x3^2*y3*a*d + y1*x2^4*y2^3*x3^2*y3*a*d^2 - y1*x2^4*y2*x3^2*y3*a^2*d - y1*x2^3*y2^4*x3*y3^2*d^2 - y1*x2^3*y2^2*x3^3*a^2*d + y1*x2^3*y2^2*x3*a*d + y1*x2^2*y2^3*y3^3*d - y1*x2^2*y2^3*y3*d + y1*x2*y2^4*x3*y3^2*d)*(a*x1^2 + y1^2 - 1 - d*x1^2*y1^2) + (-x1^3*x2^2*y2*x3*y3^2*a^2*d - x1^3*x2*y2^2*x3^2*y3*a^2*d - x1^2*y1*x2^2*y2*y3^3*a*d + x1^2*y1*x2^2*y2*y3*a*d + x1^2*y1*x2*y2^2*x3^3*a^2*d - x1^2*y1*x2*y2^2*x3*a*d + x1*y1^2*x2^2*y2*x3^3*a^2*d - x1*y1^2*x2^2*y2*x3*a*d + x1*y1^2*x2*y2^2*y3^3*d - x1*y1^2*x2*y2^2*y3*d + x1*x2^2*y2*x3*y3^2*a*d + x1*x2*y2^2*x3^2*y3*a*d + y1^3*x2^2*y2*x3^2*y3*a*d - y1^3*x2*y2^2*x3*y3^2*d - y1*x2^2*y2*x3^2*y3*a*d + y1*x2*y2^2*x3*y3^2*d)*(a*x2^2 + y2^2 - 1 - d*x2^2*y2^2) + (x1^3*x2^3*y2^2*y3*a^2*d + x1^3*x2^2*y2^3*x3*a^2*d - x1^2*y1*x2^4*y2^3*y3*a*d^2 + x1^2*y1*x2^4*y2*y3*a^2*d + x1^2*y1*x2^3*y2^4*x3*a*d^2 - x1^2*y1*x2*y2^4*x3*a*d + x1*y1^2*x2^4*y2^3*x3*a*d^2 - x1*y1^2*x2^4*y2*x3*a^2*d + x1*y1^2*x2^3*y2^4*y3*d^2 - x1*y1^2*x2*y2^4*y3*d - x1*x2^3*y2^2*y3*a*d - x1*x2^2*y2^3*x3*a*d + y1^3*x2^3*y2^2*x3*a*d - y1^3*x2^2*y2^3*y3*d - y1*x2^3*y2^2*x3*a*d + y1*x2^2*y2^3*y3*d)*(a*x3^2 + y3^2 - 1 - d*x3^2*y3^2) := by grind
set_option maxRecDepth 10000 in
set_option maxHeartbeats 4000000 in
theorem ed_close (x1 y1 x2 y2 a d : Int) :
    a*(x1*y2 + y1*x2)^2*(1 - d*x1*x2*y1*y2)^2 + (y1*y2 - a*x1*x2)^2*(1 + d*x1*x2*y1*y2)^2 - (1 + d*x1*x2*y1*y2)^2*(1 - d*x1*x2*y1*y2)^2 - d*(x1*y2 + y1*x2)^2*(y1*y2 - a*x1*x2)^2
    = (x1^2*y1^2*x2^4*y2^4*d^3 + x1^2*x2^4*y2^4*a*d^2 - x1^2*x2^4*y2^2*a^2*d - x1^2*x2^2*y2^4*a*d + y1^2*x2^4*y2^4*d^2 - y1^2*x2^4*y2^2*a*d - y1^2*x2^2*y2^4*d + 2*x2^4*y2^4*a*d - x2^4*y2^4*d^2 - 2*x2^4*y2^2*a^2 + x2^4*a^2 - 2*x2^2*y2^4*a + 4*x2^2*y2^2*a - 2*x2^2*y2^2*d + y2^4)*(a*x1^2 + y1^2 - 1 - d*x1^2*y1^2) + (x1^4*x2^2*y2^2*a^2*d + 2*x1^2*x2^2*y2^2*a^2 - 2*x1^2*x2^2*y2^2*a*d - x1^2*x2^2*a^2 - x1^2*y2^2*a + y1^4*x2^2*y2^2*d + 2*y1^2*x2^2*y2^2*a - 2*y1^2*x2^2*y2^2*d - y1^2*x2^2*a - y1^2*y2^2 - 2*x2^2*y2^2*a + x2^2*y2^2*d + x2^2*a + y2^2 + 1)*(a*x2^2 + y2^2 - 1 - d*x2^2*y2^2) := by grind
set_option maxHeartbeats 4000000 in
theorem ed_diff (x1 y1 x2 y2 a d : Int) :
    ((1 - d*x1*x2*y1*y2) + (y1*y2 - a*x1*x2))*((1 + d*x1*x2*y1*y2) + (y1*y2 + a*x1*x2))*(y1 - y2)^2 - ((1 - d*x1*x2*y1*y2) - (y1*y2 - a*x1*x2))*((1 + d*x1*x2*y1*y2) - (y1*y2 + a*x1*x2))*(y1 + y2)^2
    = (-4*y1*x2^2*y2^3*d + 4*y1*x2^2*y2*a)*(a*x1^2 + y1^2 - 1 - d*x1^2*y1^2) + (-4*y1^3*y2 + 4*y1*y2)*(a*x2^2 + y2^2 - 1 - d*x2^2*y2^2) := by grind
end Go.Proofs.YthapcapiiknjdaaDoor

/-
  Edwards curves modulo a prime: the sums are a group. Numbers alone.
-/
namespace Go.Proofs.YthapcapiiknjdaaDoor
set_option maxRecDepth 100000

/-- A prime, as far as it is wanted. -/
structure Pri (P : Int) : Prop where
  mul : ∀ {x y : Int}, P ∣ x * y → P ∣ x ∨ P ∣ y
  one : ¬ P ∣ 1
  two : ¬ P ∣ 2

section
variable {P a d : Int}
/-- (x, y) lies on the curve. -/
def On (P a d x y : Int) : Prop := P ∣ a * x ^ 2 + y ^ 2 - 1 - d * x ^ 2 * y ^ 2
/-- (x3, y3) is the sum of the two others. -/
structure Sm (P a d x1 y1 x2 y2 x3 y3 : Int) : Prop where
  x : P ∣ x3 * (1 + d * x1 * x2 * y1 * y2) - (x1 * y2 + y1 * x2)
  y : P ∣ y3 * (1 - d * x1 * x2 * y1 * y2) - (y1 * y2 - a * x1 * x2)
/-- The denominators of sums never vanish. -/
structure Cpl (P a d : Int) : Prop where
  p : ∀ {x1 y1 x2 y2 : Int}, On P a d x1 y1 → On P a d x2 y2 → ¬ P ∣ 1 + d * x1 * x2 * y1 * y2
  q : ∀ {x1 y1 x2 y2 : Int}, On P a d x1 y1 → On P a d x2 y2 → ¬ P ∣ 1 - d * x1 * x2 * y1 * y2

/-- A combination of what P divides. -/
theorem dv2 {e f c1 c2 t : Int} (he : P ∣ e) (hf : P ∣ f) (h : t = c1 * e + c2 * f) : P ∣ t := by
  rw [h]
  exact Int.dvd_add (Int.dvd_mul_of_dvd_right he) (Int.dvd_mul_of_dvd_right hf)
theorem dv3 {e f g c1 c2 c3 t : Int} (he : P ∣ e) (hf : P ∣ f) (hg : P ∣ g) (h : t = c1 * e + c2 * f + c3 * g) : P ∣ t := by
  rw [h]
  exact Int.dvd_add (Int.dvd_add (Int.dvd_mul_of_dvd_right he) (Int.dvd_mul_of_dvd_right hf)) (Int.dvd_mul_of_dvd_right hg)
/-- What is cancelled. -/
theorem cancel (hP : Pri P) {x c : Int} (hc : ¬ P ∣ c) (h : P ∣ x * c) : P ∣ x := (hP.mul h).resolve_right hc
theorem nz_mul (hP : Pri P) {x y : Int} (hx : ¬ P ∣ x) (hy : ¬ P ∣ y) : ¬ P ∣ x * y := fun h => (hP.mul h).elim hx hy

/-- The sum lies on the curve. -/
theorem Sm.on (hP : Pri P) (hC : Cpl P a d) {x1 y1 x2 y2 x3 y3 : Int} (h1 : On P a d x1 y1) (h2 : On P a d x2 y2) (h : Sm P a d x1 y1 x2 y2 x3 y3) : On P a d x3 y3 := by
  have hp := hC.p h1 h2
  have hq := hC.q h1 h2
  have cl := dv2 h1 h2 (ed_close x1 y1 x2 y2 a d)
  obtain ⟨hx, hy⟩ := h
  unfold On
  generalize x1 * y2 + y1 * x2 = X at *
  generalize y1 * y2 - a * x1 * x2 = Y at *
  have e1 : 1 + d * x1 * x2 * y1 * y2 + (1 - d * x1 * x2 * y1 * y2) = 2 := by omega
  generalize 1 + d * x1 * x2 * y1 * y2 = p at *
  generalize 1 - d * x1 * x2 * y1 * y2 = q at *
  refine cancel hP (nz_mul hP (nz_mul hP hp hp) (nz_mul hP hq hq)) (dv3 hx hy cl (c1 := (a - d * y3 ^ 2) * q * q * (x3 * p + X)) (c2 := (p * p - d * X ^ 2) * (y3 * q + Y)) (c3 := 1) ?_)
  grind
/-- Two sums of the same are the same. -/
theorem Sm.uniq (hP : Pri P) (hC : Cpl P a d) {x1 y1 x2 y2 x3 y3 x4 y4 : Int} (h1 : On P a d x1 y1) (h2 : On P a d x2 y2) (h : Sm P a d x1 y1 x2 y2 x3 y3) (k : Sm P a d x1 y1 x2 y2 x4 y4) : P ∣ x3 - x4 ∧ P ∣ y3 - y4 := by
  constructor
  · refine cancel hP (hC.p h1 h2) (dv2 h.x k.x (c1 := 1) (c2 := -1) ?_)
    grind
  · refine cancel hP (hC.q h1 h2) (dv2 h.y k.y (c1 := 1) (c2 := -1) ?_)
    grind
theorem Sm.comm {x1 y1 x2 y2 x3 y3 : Int} (h : Sm P a d x1 y1 x2 y2 x3 y3) : Sm P a d x2 y2 x1 y1 x3 y3 := by
  obtain ⟨hx, hy⟩ := h
  constructor
  · have e : x3 * (1 + d * x2 * x1 * y2 * y1) - (x2 * y1 + y2 * x1) = x3 * (1 + d * x1 * x2 * y1 * y2) - (x1 * y2 + y1 * x2) := by grind
    rw [e]; exact hx
  · have e : y3 * (1 - d * x2 * x1 * y2 * y1) - (y2 * y1 - a * x2 * x1) = y3 * (1 - d * x1 * x2 * y1 * y2) - (y1 * y2 - a * x1 * x2) := by grind
    rw [e]; exact hy
/-- One side's denominator and numerator, over the denominators of the inner sum. -/
theorem side_x {P d p q X Y x12 y12 x3 y3 xs : Int} (hx : P ∣ x12 * p - X) (hy : P ∣ y12 * q - Y) (h : P ∣ xs * (1 + d * x12 * x3 * y12 * y3) - (x12 * y3 + y12 * x3)) : P ∣ xs * (p * q + d * X * Y * x3 * y3) - (X * y3 * q + Y * x3 * p) :=
  dv3 hx hy h (c1 := y3 * q - xs * d * x3 * y3 * q * y12) (c2 := x3 * p - xs * d * x3 * y3 * X) (c3 := p * q) (by grind)
theorem side_y {P a d p q X Y x12 y12 x3 y3 ys : Int} (hx : P ∣ x12 * p - X) (hy : P ∣ y12 * q - Y) (h : P ∣ ys * (1 - d * x12 * x3 * y12 * y3) - (y12 * y3 - a * x12 * x3)) : P ∣ ys * (p * q - d * X * Y * x3 * y3) - (Y * y3 * p - a * X * x3 * q) :=
  dv3 hx hy h (c1 := ys * d * x3 * y3 * q * y12 - a * x3 * q) (c2 := y3 * p + ys * d * x3 * y3 * X) (c3 := p * q) (by grind)
theorem den_p (hP : Pri P) {d p q X Y x12 y12 x3 y3 : Int} (hp : ¬ P ∣ p) (hq : ¬ P ∣ q) (hx : P ∣ x12 * p - X) (hy : P ∣ y12 * q - Y) (h : ¬ P ∣ 1 + d * x12 * x3 * y12 * y3) : ¬ P ∣ p * q + d * X * Y * x3 * y3 := fun k =>
  nz_mul hP (nz_mul hP hp hq) h (dv3 hx hy k (c1 := d * x3 * y3 * q * y12) (c2 := d * x3 * y3 * X) (c3 := 1) (by grind))
theorem den_q (hP : Pri P) {d p q X Y x12 y12 x3 y3 : Int} (hp : ¬ P ∣ p) (hq : ¬ P ∣ q) (hx : P ∣ x12 * p - X) (hy : P ∣ y12 * q - Y) (h : ¬ P ∣ 1 - d * x12 * x3 * y12 * y3) : ¬ P ∣ p * q - d * X * Y * x3 * y3 := fun k =>
  nz_mul hP (nz_mul hP hp hq) h (dv3 hx hy k (c1 := -(d * x3 * y3 * q * y12)) (c2 := -(d * x3 * y3 * X)) (c3 := 1) (by grind))
/-- Sums may be grouped. -/
theorem Sm.assoc (hP : Pri P) (hC : Cpl P a d) {x1 y1 x2 y2 x3 y3 u v s t xl yl xr yr : Int} (h1 : On P a d x1 y1) (h2 : On P a d x2 y2) (h3 : On P a d x3 y3)
    (h12 : Sm P a d x1 y1 x2 y2 u v) (h23 : Sm P a d x2 y2 x3 y3 s t) (hl : Sm P a d u v x3 y3 xl yl) (hr : Sm P a d x1 y1 s t xr yr) : P ∣ xl - xr ∧ P ∣ yl - yr := by
  have o12 := h12.on hP hC h1 h2
  have o23 := h23.on hP hC h2 h3
  have hr' := hr.comm
  have DL := den_p hP (hC.p h1 h2) (hC.q h1 h2) h12.x h12.y (hC.p o12 h3)
  have DR := den_p hP (hC.p h2 h3) (hC.q h2 h3) h23.x h23.y (hC.p o23 h1)
  have EL := den_q hP (hC.p h1 h2) (hC.q h1 h2) h12.x h12.y (hC.q o12 h3)
  have ER := den_q hP (hC.p h2 h3) (hC.q h2 h3) h23.x h23.y (hC.q o23 h1)
  have SL := side_x h12.x h12.y hl.x
  have SR := side_x h23.x h23.y hr'.x
  have TL := side_y h12.x h12.y hl.y
  have TR := side_y h23.x h23.y hr'.y
  have AX := dv3 h1 h2 h3 (ed_assoc_x x1 y1 x2 y2 x3 y3 a d)
  have AY := dv3 h1 h2 h3 (ed_assoc_y x1 y1 x2 y2 x3 y3 a d)
  clear h12 h23 hl hr hr' o12 o23 h1 h2 h3
  generalize 1 + d * x1 * x2 * y1 * y2 = p at *
  generalize 1 - d * x1 * x2 * y1 * y2 = q at *
  generalize 1 + d * x2 * x3 * y2 * y3 = p' at *
  generalize 1 - d * x2 * x3 * y2 * y3 = q' at *
  generalize x1 * y2 + y1 * x2 = X at *
  generalize y1 * y2 - a * x1 * x2 = Y at *
  generalize x2 * y3 + y2 * x3 = X' at *
  generalize y2 * y3 - a * x2 * x3 = Y' at *
  constructor
  · refine cancel hP (nz_mul hP DL DR) (dv3 SL SR AX (c1 := p' * q' + d * X' * Y' * x1 * y1) (c2 := -(p * q + d * X * Y * x3 * y3)) (c3 := 1) ?_)
    grind
  · refine cancel hP (nz_mul hP EL ER) (dv3 TL TR AY (c1 := p' * q' - d * X' * Y' * x1 * y1) (c2 := -(p * q - d * X * Y * x3 * y3)) (c3 := 1) ?_)
    grind
/-- d is no square. -/
def NSq (P d : Int) : Prop := ∀ r t : Int, P ∣ r ^ 2 - d * t ^ 2 → P ∣ t
theorem cpl_eta (hP : Pri P) {s : Int} (hs : P ∣ s ^ 2 - a) (hd : NSq P d) {x1 y1 x2 y2 h : Int} (hh : h * h = 1) (h1 : On P a d x1 y1) (h2 : On P a d x2 y2) (k : P ∣ d * x1 * x2 * y1 * y2 - h) : False := by
  have k1 : P ∣ x1 * y1 * (s * x2 + y2) := by
    refine hd (s * x1 + h * y1) _ ?_
    have e := dv3 h1 h2 k (c1 := 1) (c2 := -(d * x1 ^ 2 * y1 ^ 2)) (c3 := -(2 * s * x1 * y1) - (d * x1 * x2 * y1 * y2 + h)) rfl
    refine dv2 e hs (c1 := 1) (c2 := x1 ^ 2 - d * x1 ^ 2 * y1 ^ 2 * x2 ^ 2) ?_
    grind
  have k2 : P ∣ x1 * y1 * (s * x2 - y2) := by
    refine hd (s * x1 - h * y1) _ ?_
    have e := dv3 h1 h2 k (c1 := 1) (c2 := -(d * x1 ^ 2 * y1 ^ 2)) (c3 := 2 * s * x1 * y1 - (d * x1 * x2 * y1 * y2 + h)) rfl
    refine dv2 e hs (c1 := 1) (c2 := x1 ^ 2 - d * x1 ^ 2 * y1 ^ 2 * x2 ^ 2) ?_
    grind
  have no : ∀ z c : Int, P ∣ z → d * x1 * x2 * y1 * y2 = z * c → False := fun z c hz e => hP.one (by
    have := dv2 k hz (c1 := -h) (c2 := h * c) (t := 1) (by grind)
    exact this)
  have k3 : P ∣ 2 * (x1 * y1 * y2) := dv2 k1 k2 (c1 := 1) (c2 := -1) (by grind)
  rcases hP.mul k3 with z | z
  · exact hP.two z
  · exact no _ (d * x2) z (by grind)
/-- Where a is a square and d is none, no denominator vanishes. -/
theorem cpl_of (hP : Pri P) {s : Int} (hs : P ∣ s ^ 2 - a) (hd : NSq P d) : Cpl P a d := by
  constructor
  · intro x1 y1 x2 y2 h1 h2 k
    refine cpl_eta hP hs hd (h := -1) (by decide) h1 h2 ?_
    have e : d * x1 * x2 * y1 * y2 - -1 = 1 + d * x1 * x2 * y1 * y2 := by omega
    rw [e]
    exact k
  · intro x1 y1 x2 y2 h1 h2 k
    refine cpl_eta hP hs hd (h := 1) (by decide) h1 h2 ?_
    have e : d * x1 * x2 * y1 * y2 - 1 = -(1 - d * x1 * x2 * y1 * y2) := by omega
    rw [e]
    exact Int.dvd_neg.mpr k

/-! ### the group -/
/-- The same point. -/
def Pe (P : Int) (p q : Int × Int) : Prop := P ∣ p.1 - q.1 ∧ P ∣ p.2 - q.2
theorem Pe.refl (p : Int × Int) : Pe P p p := ⟨⟨0, by omega⟩, ⟨0, by omega⟩⟩
theorem Pe.symm {p q : Int × Int} (h : Pe P p q) : Pe P q p := by
  obtain ⟨⟨u, hu⟩, v, hv⟩ := h
  exact ⟨⟨-u, by rw [Int.mul_neg, ← hu]; omega⟩, ⟨-v, by rw [Int.mul_neg, ← hv]; omega⟩⟩
theorem Pe.trans {p q r : Int × Int} (h : Pe P p q) (k : Pe P q r) : Pe P p r := by
  constructor
  · have := Int.dvd_add h.1 k.1
    rwa [show p.1 - q.1 + (q.1 - r.1) = p.1 - r.1 by omega] at this
  · have := Int.dvd_add h.2 k.2
    rwa [show p.2 - q.2 + (q.2 - r.2) = p.2 - r.2 by omega] at this
/-- What a curve with its inverses gives. -/
structure Crv (P a d : Int) (inv : Int → Int) : Prop where
  pri : Pri P
  cpl : Cpl P a d
  inv : ∀ c, ¬ P ∣ c → P ∣ inv c * c - 1
def eadd (a d : Int) (inv : Int → Int) (p q : Int × Int) : Int × Int :=
  ((p.1 * q.2 + p.2 * q.1) * inv (1 + d * p.1 * q.1 * p.2 * q.2), (p.2 * q.2 - a * p.1 * q.1) * inv (1 - d * p.1 * q.1 * p.2 * q.2))
def OnP (P a d : Int) (p : Int × Int) : Prop := On P a d p.1 p.2
variable {inv : Int → Int}
theorem eadd_sm (H : Crv P a d inv) {p q : Int × Int} (hp : OnP P a d p) (hq : OnP P a d q) : Sm P a d p.1 p.2 q.1 q.2 (eadd a d inv p q).1 (eadd a d inv p q).2 := by
  have i1 := H.inv _ (H.cpl.p hp hq)
  have i2 := H.inv _ (H.cpl.q hp hq)
  constructor
  · refine dv2 i1 i1 (c1 := p.1 * q.2 + p.2 * q.1) (c2 := 0) ?_
    unfold eadd
    grind
  · refine dv2 i2 i2 (c1 := p.2 * q.2 - a * p.1 * q.1) (c2 := 0) ?_
    unfold eadd
    grind
theorem eadd_on (H : Crv P a d inv) {p q : Int × Int} (hp : OnP P a d p) (hq : OnP P a d q) : OnP P a d (eadd a d inv p q) := (eadd_sm H hp hq).on H.pri H.cpl hp hq
theorem On.cg {x y x' y' : Int} (h : On P a d x y) (hx : P ∣ x - x') (hy : P ∣ y - y') : On P a d x' y' := by
  refine dv3 h hx hy (c1 := 1) (c2 := -((a - d * y' ^ 2) * (x + x'))) (c3 := -((1 - d * x ^ 2) * (y + y'))) ?_
  grind
theorem Sm.cg {x1 y1 x2 y2 x3 y3 u1 v1 u2 v2 : Int} (h : Sm P a d x1 y1 x2 y2 x3 y3) (hx1 : P ∣ x1 - u1) (hy1 : P ∣ y1 - v1) (hx2 : P ∣ x2 - u2) (hy2 : P ∣ y2 - v2) : Sm P a d u1 v1 u2 v2 x3 y3 := by
  constructor
  · have h1 := dv3 h.x hx1 hy1 (c1 := 1) (c2 := -(x3 * d * x2 * y1 * y2 - y2)) (c3 := -(x3 * d * u1 * x2 * y2 - x2)) rfl
    refine dv3 h1 hx2 hy2 (c1 := 1) (c2 := -(x3 * d * u1 * v1 * y2 - v1)) (c3 := -(x3 * d * u1 * v1 * u2 - u1)) ?_
    grind
  · have h1 := dv3 h.y hx1 hy1 (c1 := 1) (c2 := y3 * d * x2 * y1 * y2 - a * x2) (c3 := y3 * d * u1 * x2 * y2 + y2) rfl
    refine dv3 h1 hx2 hy2 (c1 := 1) (c2 := y3 * d * u1 * v1 * y2 - a * u1) (c3 := y3 * d * u1 * v1 * u2 + v1) ?_
    grind
theorem eadd_cg (H : Crv P a d inv) {p q p' q' : Int × Int} (hp : OnP P a d p) (hq : OnP P a d q) (ep : Pe P p p') (eq : Pe P q q') : Pe P (eadd a d inv p q) (eadd a d inv p' q') := by
  have hp' : OnP P a d p' := On.cg hp ep.1 ep.2
  have hq' : OnP P a d q' := On.cg hq eq.1 eq.2
  exact Sm.uniq H.pri H.cpl hp' hq' ((eadd_sm H hp hq).cg ep.1 ep.2 eq.1 eq.2) (eadd_sm H hp' hq')
theorem eadd_comm (H : Crv P a d inv) {p q : Int × Int} (hp : OnP P a d p) (hq : OnP P a d q) : Pe P (eadd a d inv p q) (eadd a d inv q p) := Sm.uniq H.pri H.cpl hq hp (eadd_sm H hp hq).comm (eadd_sm H hq hp)
theorem eadd_assoc (H : Crv P a d inv) {p q r : Int × Int} (hp : OnP P a d p) (hq : OnP P a d q) (hr : OnP P a d r) : Pe P (eadd a d inv (eadd a d inv p q) r) (eadd a d inv p (eadd a d inv q r)) :=
  Sm.assoc H.pri H.cpl hp hq hr (eadd_sm H hp hq) (eadd_sm H hq hr) (eadd_sm H (eadd_on H hp hq) hr) (eadd_sm H hp (eadd_on H hq hr))
theorem zero_on : OnP P a d (0, 1) := ⟨0, by simp⟩
theorem eadd_zero (H : Crv P a d inv) {p : Int × Int} (hp : OnP P a d p) : Pe P (eadd a d inv p (0, 1)) p :=
  Sm.uniq H.pri H.cpl hp zero_on (eadd_sm H hp zero_on) ⟨⟨0, by simp⟩, ⟨0, by simp⟩⟩
theorem neg_on {p : Int × Int} (hp : OnP P a d p) : OnP P a d (-p.1, p.2) := by
  have e : a * (-p.1) ^ 2 + p.2 ^ 2 - 1 - d * (-p.1) ^ 2 * p.2 ^ 2 = a * p.1 ^ 2 + p.2 ^ 2 - 1 - d * p.1 ^ 2 * p.2 ^ 2 := by grind
  show P ∣ _
  rw [e]
  exact hp
theorem eadd_neg (H : Crv P a d inv) {p : Int × Int} (hp : OnP P a d p) : Pe P (eadd a d inv p (-p.1, p.2)) (0, 1) := by
  refine Sm.uniq H.pri H.cpl hp (neg_on hp) (eadd_sm H hp (neg_on hp)) ⟨⟨0, ?_⟩, ?_⟩
  · simp only
    grind
  · refine dv2 hp hp (c1 := -1) (c2 := 0) ?_
    simp only
    grind

/-- n times a point. -/
def emul (a d : Int) (inv : Int → Int) : Nat → Int × Int → Int × Int
  | 0, _ => (0, 1)
  | n + 1, p => eadd a d inv (emul a d inv n p) p
theorem emul_on (H : Crv P a d inv) {p : Int × Int} (hp : OnP P a d p) : ∀ n, OnP P a d (emul a d inv n p)
  | 0 => zero_on
  | n + 1 => eadd_on H (emul_on H hp n) hp
theorem emul_add (H : Crv P a d inv) {p : Int × Int} (hp : OnP P a d p) (m : Nat) : ∀ n, Pe P (emul a d inv (m + n) p) (eadd a d inv (emul a d inv m p) (emul a d inv n p))
  | 0 => (eadd_zero H (emul_on H hp m)).symm
  | n + 1 => (eadd_cg H (emul_on H hp (m + n)) hp (emul_add H hp m n) (Pe.refl p)).trans (eadd_assoc H (emul_on H hp m) (emul_on H hp n) hp)
end
end Go.Proofs.YthapcapiiknjdaaDoor
