
/-
  Boxes of eight and of sixteen words (written by gens/hb.py).
-/
import Derived.Test.YtnfciobpfiibcaaDoorHsT
namespace Go.Proofs.YtnfciobpfiibcaaDoor
set_option maxRecDepth 100000
open Go Go.RowKit

def agw (k : IntKind) (b : Nat → Int) : Value := .agg #[.int k (b 0), .int k (b 1), .int k (b 2), .int k (b 3), .int k (b 4), .int k (b 5), .int k (b 6), .int k (b 7), .int k (b 8), .int k (b 9), .int k (b 10), .int k (b 11), .int k (b 12), .int k (b 13), .int k (b 14), .int k (b 15)]
def lsw (b : Nat → Int) : List Int := [b 0, b 1, b 2, b 3, b 4, b 5, b 6, b 7, b 8, b 9, b 10, b 11, b 12, b 13, b 14, b 15]
theorem lsw_len (b : Nat → Int) : (lsw b).length = 16 := rfl
theorem lsw_get (b : Nat → Int) (i : Nat) (h : i < 16) : (lsw b).getD i 0 = b i := by
  obtain rfl | rfl | rfl | rfl | rfl | rfl | rfl | rfl | rfl | rfl | rfl | rfl | rfl | rfl | rfl | rfl : i = 0 ∨ i = 1 ∨ i = 2 ∨ i = 3 ∨ i = 4 ∨ i = 5 ∨ i = 6 ∨ i = 7 ∨ i = 8 ∨ i = 9 ∨ i = 10 ∨ i = 11 ∨ i = 12 ∨ i = 13 ∨ i = 14 ∨ i = 15 := by omega
  all_goals rfl
theorem blk_agw (w : World) (k : IntKind) (ty : TypeId) (b : Nat → Int) : Blk (w.alloc (.cells #[.int k (b 0), .int k (b 1), .int k (b 2), .int k (b 3), .int k (b 4), .int k (b 5), .int k (b 6), .int k (b 7), .int k (b 8), .int k (b 9), .int k (b 10), .int k (b 11), .int k (b 12), .int k (b 13), .int k (b 14), .int k (b 15)] ty)) w.heap.size k (lsw b) := by
  refine ⟨ty, ?_⟩
  show (w.heap.push _)[w.heap.size]? = _
  simp [lsw]
theorem blk_ag8 (w : World) (k : IntKind) (ty : TypeId) (s : S8) : Blk (w.alloc (.cells #[.int k s.a, .int k s.b, .int k s.c, .int k s.d, .int k s.e, .int k s.f, .int k s.g, .int k s.h] ty)) w.heap.size k s.l := by
  refine ⟨ty, ?_⟩
  show (w.heap.push _)[w.heap.size]? = _
  simp [S8.l]
theorem Blk.f8 {w : World} {q : Nat} {k : IntKind} {s : S8} (h : Blk w q k s.l) :
    (w.cell? ⟨q, 0, none⟩ = some (.int k s.a) ∧ w.cell? ⟨q, 1, none⟩ = some (.int k s.b) ∧ w.cell? ⟨q, 2, none⟩ = some (.int k s.c) ∧ w.cell? ⟨q, 3, none⟩ = some (.int k s.d) ∧ w.cell? ⟨q, 4, none⟩ = some (.int k s.e) ∧ w.cell? ⟨q, 5, none⟩ = some (.int k s.f) ∧ w.cell? ⟨q, 6, none⟩ = some (.int k s.g) ∧ w.cell? ⟨q, 7, none⟩ = some (.int k s.h))
    ∧ (w.frozen? ⟨q, 0, none⟩ = false ∧ w.frozen? ⟨q, 1, none⟩ = false ∧ w.frozen? ⟨q, 2, none⟩ = false ∧ w.frozen? ⟨q, 3, none⟩ = false ∧ w.frozen? ⟨q, 4, none⟩ = false ∧ w.frozen? ⟨q, 5, none⟩ = false ∧ w.frozen? ⟨q, 6, none⟩ = false ∧ w.frozen? ⟨q, 7, none⟩ = false) :=
  ⟨⟨h.cell (i := 0) (by rw [S8.l_len]; omega), h.cell (i := 1) (by rw [S8.l_len]; omega), h.cell (i := 2) (by rw [S8.l_len]; omega), h.cell (i := 3) (by rw [S8.l_len]; omega), h.cell (i := 4) (by rw [S8.l_len]; omega), h.cell (i := 5) (by rw [S8.l_len]; omega), h.cell (i := 6) (by rw [S8.l_len]; omega), h.cell (i := 7) (by rw [S8.l_len]; omega)⟩,
   ⟨h.free 0, h.free 1, h.free 2, h.free 3, h.free 4, h.free 5, h.free 6, h.free 7⟩⟩
theorem tm16 (n k : Nat) (h : k ≤ n) : ((n : Int) - (k : Int)).tmod 16 = (((n - k) % 16 : Nat) : Int) := by
  rw [Int.tmod_eq_emod_of_nonneg (by omega)]
  omega
theorem wrap_u64e (n : Int) : IntKind.u64.wrap n = n % 18446744073709551616 := by simp [IntKind.wrap, IntKind.bits, IntKind.signed]
theorem below_set8 {B : Nat} {a w : World} (h : Below B a w) {q : Nat} (hq : B ≤ q) (x0 x1 x2 x3 x4 x5 x6 x7 : Value) :
    Below B a ((((((((w.setCell ⟨q, 0, none⟩ x0).setCell ⟨q, 1, none⟩ x1).setCell ⟨q, 2, none⟩ x2).setCell ⟨q, 3, none⟩ x3).setCell ⟨q, 4, none⟩ x4).setCell ⟨q, 5, none⟩ x5).setCell ⟨q, 6, none⟩ x6).setCell ⟨q, 7, none⟩ x7) :=
  (((((((h.setCell hq _).setCell hq _).setCell hq _).setCell hq _).setCell hq _).setCell hq _).setCell hq _).setCell hq _
end Go.Proofs.YtnfciobpfiibcaaDoor
