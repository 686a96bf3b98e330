import Derived.Test.YthonlkghkdjagaaGreatDoorGX46
import Derived.Laws.IdiomCopy
import Derived.Deep.DeepCutAuto
import Derived.Lib.AppendZeros
import Derived.BigRegion
import Derived.Test.YthonlkghkdjagaaGreatDoorGX45
import Derived.Test.YthonlkghkdjagaaGreatDoorGX40
import Derived.Test.YthonlkghkdjagaaGreatDoorGX5
namespace Go.Proofs.YthonlkghkdjagaaGreatDoor
set_option maxRecDepth 100000
open Go Go.RowKit
def agw (k : IntKind) (b : Nat → Int) : Value := .agg #[.int k (b 0), .int k (b 1), .int k (b 2), .int k (b 3), .int k (b 4), .int k (b 5), .int k (b 6), .int k (b 7), .int k (b 8), .int k (b 9), .int k (b 10), .int k (b 11), .int k (b 12), .int k (b 13), .int k (b 14), .int k (b 15)]
def lsw (b : Nat → Int) : List Int := [b 0, b 1, b 2, b 3, b 4, b 5, b 6, b 7, b 8, b 9, b 10, b 11, b 12, b 13, b 14, b 15]
theorem lsw_len (b : Nat → Int) : (lsw b).length = 16 := rfl
theorem lsw_get (b : Nat → Int) (i : Nat) (h : i < 16) : (lsw b).getD i 0 = b i := by
  obtain rfl | rfl | rfl | rfl | rfl | rfl | rfl | rfl | rfl | rfl | rfl | rfl | rfl | rfl | rfl | rfl : i = 0 ∨ i = 1 ∨ i = 2 ∨ i = 3 ∨ i = 4 ∨ i = 5 ∨ i = 6 ∨ i = 7 ∨ i = 8 ∨ i = 9 ∨ i = 10 ∨ i = 11 ∨ i = 12 ∨ i = 13 ∨ i = 14 ∨ i = 15 := by omega
  all_goals rfl
theorem blk_agw (w : World) (k : IntKind) (ty : TypeId) (b : Nat → Int) : Blk (w.alloc (.cells #[.int k (b 0), .int k (b 1), .int k (b 2), .int k (b 3), .int k (b 4), .int k (b 5), .int k (b 6), .int k (b 7), .int k (b 8), .int k (b 9), .int k (b 10), .int k (b 11), .int k (b 12), .int k (b 13), .int k (b 14), .int k (b 15)] ty)) w.heap.size k (lsw b) := by
  refine ⟨ty, ?_⟩
  show (w.heap.push _)[w.heap.size]? = _
  simp [lsw]
theorem blk_ag8 (w : World) (k : IntKind) (ty : TypeId) (s : S8) : Blk (w.alloc (.cells #[.int k s.a, .int k s.b, .int k s.c, .int k s.d, .int k s.e, .int k s.f, .int k s.g, .int k s.h] ty)) w.heap.size k s.l := by
  refine ⟨ty, ?_⟩
  show (w.heap.push _)[w.heap.size]? = _
  simp [S8.l]
theorem Blk.f8 {w : World} {q : Nat} {k : IntKind} {s : S8} (h : Blk w q k s.l) :
    (w.cell? ⟨q, 0, none⟩ = some (.int k s.a) ∧ w.cell? ⟨q, 1, none⟩ = some (.int k s.b) ∧ w.cell? ⟨q, 2, none⟩ = some (.int k s.c) ∧ w.cell? ⟨q, 3, none⟩ = some (.int k s.d) ∧ w.cell? ⟨q, 4, none⟩ = some (.int k s.e) ∧ w.cell? ⟨q, 5, none⟩ = some (.int k s.f) ∧ w.cell? ⟨q, 6, none⟩ = some (.int k s.g) ∧ w.cell? ⟨q, 7, none⟩ = some (.int k s.h))
    ∧ (w.frozen? ⟨q, 0, none⟩ = false ∧ w.frozen? ⟨q, 1, none⟩ = false ∧ w.frozen? ⟨q, 2, none⟩ = false ∧ w.frozen? ⟨q, 3, none⟩ = false ∧ w.frozen? ⟨q, 4, none⟩ = false ∧ w.frozen? ⟨q, 5, none⟩ = false ∧ w.frozen? ⟨q, 6, none⟩ = false ∧ w.frozen? ⟨q, 7, none⟩ = false) :=
  ⟨⟨h.cell (i := 0) (by rw [S8.l_len]; omega), h.cell (i := 1) (by rw [S8.l_len]; omega), h.cell (i := 2) (by rw [S8.l_len]; omega), h.cell (i := 3) (by rw [S8.l_len]; omega), h.cell (i := 4) (by rw [S8.l_len]; omega), h.cell (i := 5) (by rw [S8.l_len]; omega), h.cell (i := 6) (by rw [S8.l_len]; omega), h.cell (i := 7) (by rw [S8.l_len]; omega)⟩,
   ⟨h.free 0, h.free 1, h.free 2, h.free 3, h.free 4, h.free 5, h.free 6, h.free 7⟩⟩
theorem tm16 (n k : Nat) (h : k ≤ n) : ((n : Int) - (k : Int)).tmod 16 = (((n - k) % 16 : Nat) : Int) := by
  rw [Int.tmod_eq_emod_of_nonneg (by omega)]
  omega
theorem wrap_u64e (n : Int) : IntKind.u64.wrap n = n % 18446744073709551616 := by simp [IntKind.wrap, IntKind.bits, IntKind.signed]
theorem below_set8 {B : Nat} {a w : World} (h : Below B a w) {q : Nat} (hq : B ≤ q) (x0 x1 x2 x3 x4 x5 x6 x7 : Value) :
    Below B a ((((((((w.setCell ⟨q, 0, none⟩ x0).setCell ⟨q, 1, none⟩ x1).setCell ⟨q, 2, none⟩ x2).setCell ⟨q, 3, none⟩ x3).setCell ⟨q, 4, none⟩ x4).setCell ⟨q, 5, none⟩ x5).setCell ⟨q, 6, none⟩ x6).setCell ⟨q, 7, none⟩ x7) :=
  (((((((h.setCell hq _).setCell hq _).setCell hq _).setCell hq _).setCell hq _).setCell hq _).setCell hq _).setCell hq _
end Go.Proofs.YthonlkghkdjagaaGreatDoor
namespace Go.Proofs.YthonlkghkdjagaaGreatDoor
set_option maxRecDepth 100000
open Go Go.RowKit
def Seg (w : World) (q off : Nat) (k : IntKind) (ys : List Int) : Prop := ∀ i, i < ys.length → w.cell? ⟨q, off + i, none⟩ = some (.int k (ys.getD i 0)) ∧ w.frozen? ⟨q, off + i, none⟩ = false
structure SegX (q off n : Nat) (w w' : World) : Prop where
  only : Only q w w'
  out : ∀ j, (j < off ∨ off + n ≤ j) → w'.cell? ⟨q, j, none⟩ = w.cell? ⟨q, j, none⟩ ∧ w'.frozen? ⟨q, j, none⟩ = w.frozen? ⟨q, j, none⟩
theorem SegX.refl (q off n : Nat) (w : World) : SegX q off n w w := ⟨Only.refl _ _, fun _ _ => ⟨rfl, rfl⟩⟩
theorem SegX.trans {q off n : Nat} {a b c : World} (h : SegX q off n a b) (k : SegX q off n b c) : SegX q off n a c :=
  ⟨h.only.trans k.only, fun j hj => ⟨(k.out j hj).1.trans (h.out j hj).1, (k.out j hj).2.trans (h.out j hj).2⟩⟩
theorem SegX.drew {q off n : Nat} {a b : World} (h : SegX q off n a b) : SegX q off n a b.drew := h.trans ⟨⟨rfl, rfl, rfl, rfl, fun _ _ => rfl⟩, fun _ _ => ⟨rfl, rfl⟩⟩
theorem SegX.drewN {q off n : Nat} {a b : World} (h : SegX q off n a b) (m : Nat) : SegX q off n a (b.drewN m) := h.trans ⟨⟨rfl, rfl, rfl, rfl, fun _ _ => rfl⟩, fun _ _ => ⟨rfl, rfl⟩⟩
theorem frozen_setCell (w : World) (p r : Addr) (v : Value) : (w.setCell p v).frozen? r = w.frozen? r := by simp
theorem SegX.set (w : World) (q off n i : Nat) (hi : i < n) (v : Value) : SegX q off n w (w.setCell ⟨q, off + i, none⟩ v) := by
  refine ⟨Only.setCell w q (off + i) v, fun j hj => ⟨?_, frozen_setCell _ _ _ _⟩⟩
  rw [World.cell?_setCell_other (h := fun h => by simp only [Addr.mk.injEq, true_and, and_true] at h; omega)]
theorem Seg.store {w : World} {q off : Nat} {k : IntKind} {ys : List Int} (h : Seg w q off k ys) (i : Nat) (hi : i < ys.length) (z : Int) : Seg (w.setCell ⟨q, off + i, none⟩ (.int k z)) q off k (ys.set i z) := by
  intro j hj
  rw [List.length_set] at hj
  refine ⟨?_, by rw [frozen_setCell]; exact (h j hj).2⟩
  by_cases e : i = j
  · subst e
    rw [getD_set_self _ _ _ hi, World.cell?_setCell_same _ _ _ (h i hi).1]
  · rw [getD_set_ne _ _ _ _ e, World.cell?_setCell_other (h := fun h => by simp only [Addr.mk.injEq, true_and, and_true] at h; omega)]
    exact (h j hj).1
theorem Seg.up {w w' : World} {q off : Nat} {k : IntKind} {ys : List Int} (h : Seg w q off k ys) (n : Below w.heap.size w w') : Seg w' q off k ys := by
  intro i hi
  have l := block_lt_of_cell (h i hi).1
  exact ⟨(World.cell?_of_block (a := ⟨q, off + i, none⟩) (n.block q l)).trans (h i hi).1, (World.frozen?_of_block (a := ⟨q, off + i, none⟩) (n.block q l)).trans (h i hi).2⟩
theorem p256_leh {m n : Nat} (h : m ≤ n) : (256 : Int) ^ m ≤ 256 ^ n := by
  obtain ⟨d, rfl⟩ := Nat.exists_eq_add_of_le h
  rw [Int.pow_add]
  have h1 := p256_pos d
  have h2 := p256_pos m
  have : (256 : Int) ^ m * 1 ≤ 256 ^ m * 256 ^ d := Int.mul_le_mul_of_nonneg_left (by omega) (by omega)
  omega
theorem Seg.range {w : World} {q off : Nat} {k : IntKind} {ys : List Int} (h : Seg w q off k ys) : w.rangeAt q off (ys.map (Value.int k)) := fun j v hv => by
  have hj : j < ys.length := by have := (List.getElem?_eq_some_iff.1 hv).1; simpa using this
  rw [(h j hj).1]
  simpa [hj] using hv
theorem one_ints (k : IntKind) (ys : List Int) : (ys.map (Value.int k)).toArray.all (·.oneCell') = true := all_oneCell_toArray fun v hv => by
  obtain ⟨x, _, rfl⟩ := List.mem_map.1 hv
  rfl
theorem Seg.blk {w : World} {q : Nat} {k : IntKind} {ys : List Int} (h : Blk w q k ys) : Seg w q 0 k ys := fun i hi => ⟨by rw [Nat.zero_add]; exact h.cell hi, h.free _⟩
theorem orb64 (x b : Int) (h0 : 0 ≤ x) (h1 : x < 72057594037927936) (b0 : 0 ≤ b) (b1 : b < 256) : bits BinOp.or IntKind.u64 (x * 256 % 18446744073709551616) b = x * 256 + b := by
  obtain ⟨n, rfl⟩ := Int.eq_ofNat_of_zero_le h0
  obtain ⟨m, rfl⟩ := Int.eq_ofNat_of_zero_le b0
  rw [Int.emod_eq_of_lt (by omega) (by omega), show (n : Int) * 256 = ((n * 256 : Nat) : Int) by omega, u64_or_nat (n * 256) m (by omega) (by omega), nat_join 8 (n * 256) m (by omega) (by omega)]
  omega
end Go.Proofs.YthonlkghkdjagaaGreatDoor
namespace Go.Proofs.YthonlkghkdjagaaGreatDoor
set_option maxRecDepth 100000
open Go Go.RowKit
def hcl (k : IntKind) (L : Int) (C : S8) (R : List Int) : List Value := .int .i64 L :: (C.l.map (Value.int k) ++ R.map (Value.int .u8))
theorem hcl_len (k : IntKind) (L : Int) (C : S8) {R : List Int} (h : R.length = 128) : (hcl k L C R).length = 137 := by
  unfold hcl
  rw [List.length_cons, List.length_append, List.length_map, List.length_map, h, S8.l_len]
theorem hcl_one (k : IntKind) (L : Int) (C : S8) (R : List Int) : (hcl k L C R).toArray.all (·.oneCell') = true := all_oneCell_toArray fun v hv => by
  unfold hcl at hv
  rcases List.mem_cons.1 hv with rfl | h
  · rfl
  · rcases List.mem_append.1 h with h | h
    · obtain ⟨x, _, rfl⟩ := List.mem_map.1 h
      rfl
    · obtain ⟨x, _, rfl⟩ := List.mem_map.1 h
      rfl
structure HB (k : IntKind) (w : World) (q : Nat) (L : Int) (C : S8) (R : List Int) : Prop where
  len : R.length = 128
  c0 : w.cell? ⟨q, 0, none⟩ = some (.int .i64 L)
  f0 : w.frozen? ⟨q, 0, none⟩ = false
  ch : Seg w q 1 k C.l
  rs : Seg w q 9 .u8 R
theorem HB.lt {k : IntKind} {w : World} {q : Nat} {L : Int} {C : S8} {R : List Int} (h : HB k w q L C R) : q < w.heap.size := block_lt_of_cell h.c0
theorem HB.of_block {k : IntKind} {w w' : World} {q : Nat} {L : Int} {C : S8} {R : List Int} (h : HB k w q L C R) (hb : w'.heap[q]? = w.heap[q]?) : HB k w' q L C R :=
  ⟨h.len, (World.cell?_of_block (a := ⟨q, 0, none⟩) hb).trans h.c0, (World.frozen?_of_block (a := ⟨q, 0, none⟩) hb).trans h.f0,
   fun i hi => ⟨(World.cell?_of_block (a := ⟨q, 1 + i, none⟩) hb).trans (h.ch i hi).1, (World.frozen?_of_block (a := ⟨q, 1 + i, none⟩) hb).trans (h.ch i hi).2⟩,
   fun i hi => ⟨(World.cell?_of_block (a := ⟨q, 9 + i, none⟩) hb).trans (h.rs i hi).1, (World.frozen?_of_block (a := ⟨q, 9 + i, none⟩) hb).trans (h.rs i hi).2⟩⟩
theorem HB.up {k : IntKind} {w w' : World} {q : Nat} {L : Int} {C : S8} {R : List Int} (h : HB k w q L C R) (n : Below w.heap.size w w') : HB k w' q L C R := h.of_block (n.block q h.lt)
theorem HB.range {k : IntKind} {w : World} {q : Nat} {L : Int} {C : S8} {R : List Int} (h : HB k w q L C R) : w.rangeAt q 0 (hcl k L C R) := by
  intro j v hv
  unfold hcl at hv
  cases j with
  | zero =>
    simp at hv
    subst hv
    exact h.c0
  | succ j =>
    rw [List.getElem?_cons_succ] at hv
    by_cases c : j < 8
    · rw [List.getElem?_append_left (by rw [List.length_map, S8.l_len]; exact c)] at hv
      rw [show 0 + (j + 1) = 1 + j by omega]
      exact h.ch.range j v hv
    · rw [List.getElem?_append_right (by rw [List.length_map, S8.l_len]; omega), List.length_map, S8.l_len] at hv
      rw [show 0 + (j + 1) = 9 + (j - 8) by omega]
      exact h.rs.range (j - 8) v hv
theorem HB.there {k : IntKind} {w : World} {q : Nat} {L : Int} {C : S8} {R : List Int} (h : HB k w q L C R) : w.there q 0 137 := by
  intro j hj
  rw [Nat.zero_add]
  cases j with
  | zero => exact ⟨by rw [h.c0]; rfl, h.f0⟩
  | succ j =>
    by_cases c : j < 8
    · have := h.ch j (by rw [S8.l_len]; exact c)
      rw [show 1 + j = j + 1 by omega] at this
      exact ⟨by rw [this.1]; rfl, this.2⟩
    · have := h.rs (j - 8) (by rw [h.len]; omega)
      rw [show 9 + (j - 8) = j + 1 by omega] at this
      exact ⟨by rw [this.1]; rfl, this.2⟩
theorem HB.of_range {k : IntKind} {w : World} {q : Nat} {L : Int} {C : S8} {R : List Int} (hl : R.length = 128) (rg : w.rangeAt q 0 (hcl k L C R)) (th : w.there q 0 137) : HB k w q L C R := by
  have f : ∀ j, j < 137 → w.frozen? ⟨q, j, none⟩ = false := fun j hj => by have := (th j hj).2; rwa [Nat.zero_add] at this
  refine ⟨hl, rg 0 _ rfl, f 0 (by omega), fun i hi => ⟨?_, f _ (by rw [S8.l_len] at hi; omega)⟩, fun i hi => ⟨?_, f _ (by omega)⟩⟩
  · have := rg (i + 1) (.int k (C.l.getD i 0)) (by
      unfold hcl
      rw [List.getElem?_cons_succ, List.getElem?_append_left (by rw [List.length_map]; exact hi)]
      simp [hi])
    rwa [show 0 + (i + 1) = 1 + i by omega] at this
  · have := rg (i + 9) (.int .u8 (R.getD i 0)) (by
      unfold hcl
      rw [show i + 9 = (i + 8) + 1 by omega, List.getElem?_cons_succ, List.getElem?_append_right (by rw [List.length_map, S8.l_len]; omega), List.length_map, S8.l_len, Nat.add_sub_cancel]
      simp [hi])
    rwa [show 0 + (i + 9) = 9 + i by omega] at this
theorem HB.alloc (k : IntKind) (w : World) (ty : TypeId) (L : Int) (C : S8) {R : List Int} (hl : R.length = 128) : HB k (w.alloc (.cells (hcl k L C R).toArray ty)) w.heap.size L C R := by
  have hh : (w.alloc (.cells (hcl k L C R).toArray ty)).heap[w.heap.size]? = some (.cells (hcl k L C R).toArray ty (0, 0)) := by
    show (w.heap.push _)[w.heap.size]? = _
    simp
  refine HB.of_range hl (fun j v hv => ?_) (fun j hj => ⟨?_, frozen_of_row _ _ _ _ _ hh⟩)
  · rw [cell_of_row _ _ _ _ _ _ hh]
    simpa using hv
  · rw [cell_of_row _ _ _ _ _ _ hh]
    have := hcl_len k L C hl
    simp [this]
    omega
theorem HB.setL {k : IntKind} {w : World} {q : Nat} {L : Int} {C : S8} {R : List Int} (h : HB k w q L C R) (L' : Int) : HB k (w.setCell ⟨q, 0, none⟩ (.int .i64 L')) q L' C R := by
  refine ⟨h.len, World.cell?_setCell_same _ _ _ h.c0, by rw [frozen_setCell]; exact h.f0, fun i hi => ⟨?_, by rw [frozen_setCell]; exact (h.ch i hi).2⟩, fun i hi => ⟨?_, by rw [frozen_setCell]; exact (h.rs i hi).2⟩⟩
  · rw [World.cell?_setCell_other (h := fun h => by simp only [Addr.mk.injEq, true_and, and_true] at h; omega)]
    exact (h.ch i hi).1
  · rw [World.cell?_setCell_other (h := fun h => by simp only [Addr.mk.injEq, true_and, and_true] at h; omega)]
    exact (h.rs i hi).1
theorem setCells_frozen (w : World) (q o : Nat) (vs : List Value) (a : Addr) : (w.setCells q o vs).frozen? a = w.frozen? a := World.frozen?_setCells q vs o w a
theorem cell_out {w : World} {q o : Nat} {vs : List Value} {j : Nat} {v : Value} (h : w.cell? ⟨q, j, none⟩ = some v) (hj : j < o ∨ o + vs.length ≤ j) : (w.setCells q o vs).cell? ⟨q, j, none⟩ = some v := by
  have := World.rangeAt_setCells_apart (w := w) (b' := q) (o' := j) (cs := [v]) (fun i u hu => by
    match i, hu with
    | 0, hu => simp at hu; subst hu; exact h) q o vs (.inr (by rcases hj with hj | hj; exact .inl (by simp; omega); exact .inr (by omega)))
  exact this 0 v rfl
theorem HB.setC {k : IntKind} {w : World} {q : Nat} {L : Int} {C : S8} {R : List Int} (h : HB k w q L C R) (C' : S8) : HB k (w.setCells q 1 (C'.l.map (Value.int k))) q L C' R := by
  have l8 : (C'.l.map (Value.int k)).length = 8 := by rw [List.length_map, S8.l_len]
  have sm := World.rangeAt_setCells_same w q 1 (C'.l.map (Value.int k)) (by
    rw [l8]
    intro j hj
    have := h.ch j (by rw [S8.l_len]; exact hj)
    exact ⟨by rw [this.1]; rfl, this.2⟩)
  refine ⟨h.len, cell_out h.c0 (.inl (by omega)), by rw [setCells_frozen]; exact h.f0, fun i hi => ⟨?_, ?_⟩, fun i hi => ⟨cell_out (h.rs i hi).1 (.inr (by rw [l8]; omega)), by rw [setCells_frozen]; exact (h.rs i hi).2⟩⟩
  · exact sm i _ (by simp [hi])
  · rw [setCells_frozen]
    exact (h.ch i (by rw [S8.l_len] at hi ⊢; exact hi)).2
def lay (R : List Int) (r : Nat) (xs : List Int) : List Int := R.take r ++ (xs ++ R.drop (r + xs.length))
theorem lay_len {R : List Int} {r : Nat} {xs : List Int} (h : r + xs.length ≤ R.length) : (lay R r xs).length = R.length := by
  unfold lay
  simp
  omega
theorem HB.setR {k : IntKind} {w : World} {q : Nat} {L : Int} {C : S8} {R : List Int} (h : HB k w q L C R) (r : Nat) (xs : List Int) (hr : r + xs.length ≤ 128) : HB k (w.setCells q (9 + r) (xs.map (Value.int .u8))) q L C (lay R r xs) := by
  have hl := h.len
  have lx : (xs.map (Value.int .u8)).length = xs.length := List.length_map _
  have sm := World.rangeAt_setCells_same w q (9 + r) (xs.map (Value.int .u8)) (by
    rw [lx]
    intro j hj
    have := h.rs (r + j) (by omega)
    rw [show 9 + (r + j) = 9 + r + j by omega] at this
    exact ⟨by rw [this.1]; rfl, this.2⟩)
  refine ⟨by rw [lay_len (by omega)]; exact hl, cell_out h.c0 (.inl (by omega)), by rw [setCells_frozen]; exact h.f0, fun i hi => ⟨cell_out (h.ch i hi).1 (.inl (by rw [S8.l_len] at hi; omega)), by rw [setCells_frozen]; exact (h.ch i hi).2⟩, fun i hi => ?_⟩
  rw [lay_len (by omega)] at hi
  refine ⟨?_, by rw [setCells_frozen]; exact (h.rs i hi).2⟩
  unfold lay
  have tl : (R.take r).length = r := by rw [List.length_take]; omega
  by_cases c1 : i < r
  · rw [getD_apd_left _ _ _ (by omega)]
    have e : (R.take r).getD i 0 = R.getD i 0 := by rw [List.getD_eq_getElem?_getD, List.getD_eq_getElem?_getD, List.getElem?_take, if_pos c1]
    rw [e]
    exact cell_out (h.rs i hi).1 (.inl (by omega))
  · rw [getD_apd_right _ _ _ (by omega), tl]
    by_cases c2 : i - r < xs.length
    · rw [getD_apd_left _ _ _ c2]
      have := sm (i - r) (.int .u8 (xs.getD (i - r) 0)) (by simp [c2])
      rwa [show 9 + r + (i - r) = 9 + i by omega] at this
    · rw [getD_apd_right _ _ _ (by omega), List.getD_eq_getElem?_getD, List.getElem?_drop, show r + xs.length + (i - r - xs.length) = i by omega, ← List.getD_eq_getElem?_getD]
      exact cell_out (h.rs i hi).1 (.inr (by rw [lx]; omega))
theorem only_setCells (w : World) (q : Nat) : ∀ (vs : List Value) (o : Nat), Only q w (w.setCells q o vs)
  | [], _ => Only.refl _ _
  | v :: vs, o => (Only.setCell w q o v).trans (only_setCells (w.setCell ⟨q, o, none⟩ v) q vs (o + 1))
structure Bth (q : Nat) (w w' : World) : Prop where
  os : w'.os = w.os
  tape : w'.tape = w.tape
  output : w'.output = w.output
  size : w.heap.size ≤ w'.heap.size
  block : ∀ g, g < w.heap.size → g ≠ q → w'.heap[g]? = w.heap[g]?
theorem Bth.refl (q : Nat) (w : World) : Bth q w w := ⟨rfl, rfl, rfl, Nat.le_refl _, fun _ _ _ => rfl⟩
theorem Bth.trans {q : Nat} {a b c : World} (h : Bth q a b) (k : Bth q b c) : Bth q a c :=
  ⟨k.os.trans h.os, k.tape.trans h.tape, k.output.trans h.output, Nat.le_trans h.size k.size, fun g hg hq => (k.block g (Nat.lt_of_lt_of_le hg h.size) hq).trans (h.block g hg hq)⟩
theorem Bth.of_below {q : Nat} {a b : World} (h : Below a.heap.size a b) : Bth q a b := ⟨h.os, h.tape, h.output, h.size, fun g hg _ => h.block g hg⟩
theorem Bth.of_only {q : Nat} {a b : World} (h : Only q a b) : Bth q a b := ⟨h.os, h.tape, h.output, Nat.le_of_eq h.size.symm, fun g _ hq => h.block g hq⟩
theorem Bth.below {q B : Nat} {a b : World} (h : Bth q a b) (h1 : B ≤ q) (h2 : B ≤ a.heap.size) : Below B a b := ⟨h.os, h.tape, h.output, h.size, fun g hg => h.block g (by omega) (by omega)⟩
theorem HasT.bt {q g : Nat} {w w' : World} {l : List Int} (h : HasT w g l) (hl : 0 < l.length) (b : Bth q w w') (hq : g ≠ q) : HasT w' g l := h.of_block (b.block g (block_lt_of_cell (h 0 hl)) hq)
theorem Rd.bt {q g : Nat} {w w' : World} {a : Option Addr} {k : IntKind} {xs : List Int} (h : Rd w g a k xs) (b : Bth q w w') (hq : g ≠ q) : Rd w' g a k xs := by
  by_cases h0 : 0 < xs.length
  · exact h.of_block (b.block g (h.lt h0) hq)
  · exact fun h1 => absurd h1 h0
theorem HB.of_seg {k : IntKind} {w w' : World} {q : Nat} {L : Int} {C C' : S8} {R : List Int} (h : HB k w q L C R) (x : SegX q 1 8 w w') (s : Seg w' q 1 k C'.l) : HB k w' q L C' R :=
  ⟨h.len, (x.out 0 (.inl (by omega))).1.trans h.c0, (x.out 0 (.inl (by omega))).2.trans h.f0, s, fun i hi => ⟨(x.out (9 + i) (.inr (by omega))).1.trans (h.rs i hi).1, (x.out (9 + i) (.inr (by omega))).2.trans (h.rs i hi).2⟩⟩
theorem results_cell_m {P : Program} {fn : Func} {p : Tmp} {ty : TypeId} (h : fn.results = #[.cell p ty]) (tmps : Array Value) (w : World) (g : Nat) (cs : List Value) (d : TypeDesc)
    (hp : tmps.getD p undef = .pointer (some ⟨g, 0, none⟩)) (hc : w.rangeAt g 0 cs) (hu : P.underlying ty = some d) (hd : d.isRow = true) (hi : (P.info? ty).map (·.size) = some cs.length) :
    (results fn tmps).run P w = .ok (.agg cs.toArray) w := by
  have hp' : tmps[p]?.getD undef = .pointer (some ⟨g, 0, none⟩) := by simpa using hp
  simp [results, h, hp', asAddr, run_loadVar_mid w g 0 ty cs d hc hu hd hi]
theorem take_more {R : List Int} {r : Nat} {xs : List Int} (h : r ≤ R.length) : (lay R r xs).take (r + xs.length) = R.take r ++ xs := by
  unfold lay
  rw [← List.append_assoc]
  have : (R.take r ++ xs).length = r + xs.length := by rw [List.length_append, List.length_take]; omega
  rw [← this]
  exact List.take_left
theorem lay_byt {R : List Int} {r : Nat} {xs : List Int} (h : Byt R) (k : Byt xs) : Byt (lay R r xs) := by
  refine byt_apd (fun j => ?_) (byt_apd k (fun j => ?_))
  · rw [List.getD_eq_getElem?_getD, List.getElem?_take]
    split
    · rw [← List.getD_eq_getElem?_getD]
      exact h j
    · simp
  · rw [List.getD_eq_getElem?_getD, List.getElem?_drop, ← List.getD_eq_getElem?_getD]
    exact h _
theorem byt_takeh {xs : List Int} (h : Byt xs) (n : Nat) : Byt (xs.take n) := fun j => by
  rw [List.getD_eq_getElem?_getD, List.getElem?_take]
  split
  · rw [← List.getD_eq_getElem?_getD]
    exact h j
  · simp
theorem rd_drop {w : World} {g o t : Nat} {xs : List Int} (h : Rd w g (some ⟨g, o, none⟩) .u8 xs) : Rd w g (some ⟨g, o + t, none⟩) .u8 (xs.drop t) := by
  intro h0
  rw [List.length_drop] at h0
  obtain ⟨o', e, hc⟩ := h (by omega)
  simp only [Option.some.injEq, Addr.mk.injEq, true_and, and_true] at e
  subst e
  refine ⟨o + t, rfl, fun i hi => ?_⟩
  rw [List.length_drop] at hi
  have := hc (t + i) (by omega)
  rw [List.getD_eq_getElem?_getD, List.getElem?_drop, ← List.getD_eq_getElem?_getD, Nat.add_assoc]
  exact this
theorem und22h : Tryz.prog.underlying 22 = some (.slice 5) := Tryz.underlying22
theorem s5 : (Tryz.prog.info? 5).map (·.size) = some 1 := by kernel_rfl
theorem zero137 (k : IntKind) : hcl k 0 ⟨0, 0, 0, 0, 0, 0, 0, 0⟩ (List.replicate 128 0) = .int .i64 0 :: (List.replicate 8 (.int k 0) ++ List.replicate 128 (.int .u8 0)) := by
  unfold hcl
  rw [List.map_replicate]
  rfl
end Go.Proofs.YthonlkghkdjagaaGreatDoor
namespace Go.Proofs.YthonlkghkdjagaaGreatDoor
set_option maxRecDepth 100000
open Go Go.RowKit
set_option maxHeartbeats 8000000 in
theorem behind_64 (w : World) (s : S8) (hs : Ok64 s) (b : Nat → Int) (hb : ∀ i, i < 16 → Wd64 (b i)) (hT : HasT w 7 kL) :
    Calls Tryz.prog 137 #[ag8 .u64 s, agw .u64 b] w fun e w' => e = .returned (ag8 .u64 (blk64 s b)) ∧ Below w.heap.size w w' := by
  have n0 : Below w.heap.size w (w.alloc (.cells #[.int .u64 s.a, .int .u64 s.b, .int .u64 s.c, .int .u64 s.d, .int .u64 s.e, .int .u64 s.f, .int .u64 s.g, .int .u64 s.h] 130)) := (Below.refl _ _).alloc (Nat.le_refl _) _
  have B0 := blk_ag8 w .u64 130 s
  have z0 : (w.alloc (.cells #[.int .u64 s.a, .int .u64 s.b, .int .u64 s.c, .int .u64 s.d, .int .u64 s.e, .int .u64 s.f, .int .u64 s.g, .int .u64 s.h] 130)).heap.size = w.heap.size + 1 := by simp
  simp only [ag8, agw]
  go_enter Tryz.func137, Tryz.ntmps137
  go_wp2_with fail
  generalize w.alloc (.cells #[.int .u64 s.a, .int .u64 s.b, .int .u64 s.c, .int .u64 s.d, .int .u64 s.e, .int .u64 s.f, .int .u64 s.g, .int .u64 s.h] 130) = wa at *
  have n1 : Below wa.heap.size wa (wa.alloc (.cells #[.int .u64 (b 0), .int .u64 (b 1), .int .u64 (b 2), .int .u64 (b 3), .int .u64 (b 4), .int .u64 (b 5), .int .u64 (b 6), .int .u64 (b 7), .int .u64 (b 8), .int .u64 (b 9), .int .u64 (b 10), .int .u64 (b 11), .int .u64 (b 12), .int .u64 (b 13), .int .u64 (b 14), .int .u64 (b 15)] 183)) := (Below.refl _ _).alloc (Nat.le_refl _) _
  have B1 := blk_agw wa .u64 183 b
  have z1 : (wa.alloc (.cells #[.int .u64 (b 0), .int .u64 (b 1), .int .u64 (b 2), .int .u64 (b 3), .int .u64 (b 4), .int .u64 (b 5), .int .u64 (b 6), .int .u64 (b 7), .int .u64 (b 8), .int .u64 (b 9), .int .u64 (b 10), .int .u64 (b 11), .int .u64 (b 12), .int .u64 (b 13), .int .u64 (b 14), .int .u64 (b 15)] 183)).heap.size = wa.heap.size + 1 := by simp
  generalize wa.alloc (.cells #[.int .u64 (b 0), .int .u64 (b 1), .int .u64 (b 2), .int .u64 (b 3), .int .u64 (b 4), .int .u64 (b 5), .int .u64 (b 6), .int .u64 (b 7), .int .u64 (b 8), .int .u64 (b 9), .int .u64 (b 10), .int .u64 (b 11), .int .u64 (b 12), .int .u64 (b 13), .int .u64 (b 14), .int .u64 (b 15)] 183) = wb at *
  have B0 := B0.up n1
  have N1 := nxt n0 n1
  rw [z0] at B1 z1
  clear n0 n1 z0
  have n2 : Below wb.heap.size wb (wb.alloc (.cells #[.int .u64 0, .int .u64 0, .int .u64 0, .int .u64 0, .int .u64 0, .int .u64 0, .int .u64 0, .int .u64 0] 130)) := (Below.refl _ _).alloc (Nat.le_refl _) _
  have B2 := blk_ag8 wb .u64 130 ⟨0, 0, 0, 0, 0, 0, 0, 0⟩
  have z2 : (wb.alloc (.cells #[.int .u64 0, .int .u64 0, .int .u64 0, .int .u64 0, .int .u64 0, .int .u64 0, .int .u64 0, .int .u64 0] 130)).heap.size = wb.heap.size + 1 := by simp
  simp only [] at B2
  generalize wb.alloc (.cells #[.int .u64 0, .int .u64 0, .int .u64 0, .int .u64 0, .int .u64 0, .int .u64 0, .int .u64 0, .int .u64 0] 130) = wc at *
  have B0 := B0.up n2
  have B1 := B1.up n2
  have N2 := nxt N1 n2
  rw [z1] at B2 z2
  clear n2 N1 z1
  have hT2 := hT.up N2
  obtain ⟨⟨c0, c1, c2, c3, c4, c5, c6, c7⟩, -⟩ := B0.f8
  go_quiet (fail)
  go_wp2_with fail
  refine (stepsOf_64 _).mono ?_
  rintro r wd ⟨rfl, rfl⟩
  have N2 := N2.trans (below_drewN (Below.refl _ _) nq)
  have B0 : Blk (wc.drewN nq) w.heap.size .u64 s.l := B0
  have B1 : Blk (wc.drewN nq) (w.heap.size + 1) .u64 (lsw b) := B1
  have B2 : Blk (wc.drewN nq) (w.heap.size + 1 + 1) .u64 (S8.l ⟨0, 0, 0, 0, 0, 0, 0, 0⟩) := B2
  have hT2 : HasT (wc.drewN nq) 7 kL := hT2
  have z2 : (wc.drewN nq).heap.size = w.heap.size + 1 + 1 + 1 := z2
  generalize wc.drewN nq = wd at *
  clear c0 c1 c2 c3 c4 c5 c6 c7
  have gl : 7 < w.heap.size := block_lt_of_cell (hT 0 (by decide))
  clear hT
  have R0 := Roll.first64 (b := b) (lsw_len b) (lsw_get b)
  go_wp2_with fail
  go_loopw [5, 6, 7, 8, 9, 10, 11, 12, 33] (fun va vb vc vd ve vf vg vh i wr => ∃ (n : Nat) (r : S8) (ys : List Int), n ≤ 80 ∧ i = .int .i64 n ∧ va = .int .u64 r.a ∧ vb = .int .u64 r.b ∧ vc = .int .u64 r.c ∧ vd = .int .u64 r.d ∧ ve = .int .u64 r.e ∧ vf = .int .u64 r.f ∧ vg = .int .u64 r.g ∧ vh = .int .u64 r.h ∧ Hid (r = rnds64 K64 (wS64 b) n s) ∧ Roll64 b ys (max n 16) ∧ Blk wr (w.heap.size + 1) .u64 ys ∧ Blk wr w.heap.size .u64 s.l ∧ Blk wr (w.heap.size + 1 + 1) .u64 (S8.l ⟨0, 0, 0, 0, 0, 0, 0, 0⟩) ∧ HasT wr 7 kL ∧ Below w.heap.size w wr) (fun _ _ _ _ _ _ _ _ i _ => 80 - (intOf i).toNat)
  case atStart => exact ⟨0, s, lsw b, Nat.zero_le _, rfl, rfl, rfl, rfl, rfl, rfl, rfl, rfl, rfl, rfl, R0, B1, B0, B2, hT2, N2⟩
  case round =>
    obtain ⟨n, r, ys, hn, rfl, rfl, rfl, rfl, rfl, rfl, rfl, rfl, rfl, hr, hR, hB1, hB0, hB2, hT, hN⟩ := hrel
    clear B0 B1 B2 hT2 N2 R0 z2
    by_cases hlt : n < 80
    · have ok : Ok64 r := by rw [hr.out]; exact rnds_ok64 hs n
      obtain ⟨oa, ob, oc, od, oe, of, og, oh⟩ := ok
      have hr' : Hid (stp64 (K64 n) (wS64 b n) r = rnds64 K64 (wS64 b) (n + 1) s) := by show _ = _; rw [hr.out]; rfl
      have G1 := fun w => hide (greatMix1_64 w r.e oe)
      have G0 := fun w => hide (greatMix0_64 w r.a oa)
      have CH := fun w => hide (choice_64 w r.e r.f r.g oe of og)
      have MJ := fun w => hide (majority_64 w r.a r.b r.c oa ob oc)
      have kl := kL_lt ⟨n, by omega⟩
      have UB : ∀ w, Hid (Calls Tryz.prog 134 #[.int .u64 (kL.getD n 0)] w fun e w' => e = .returned (.int .u64 (K64 n)) ∧ w' = w) := fun w => upperBits_64 w (kL.getD n 0) kl.1 kl.2
      have wd := wS_wd64 hb n
      have kd := K_wd64 n hlt
      clear hr kl
      by_cases h16 : 16 ≤ n
      · have hR' := Roll.step64 (i := n) (by rw [Nat.max_eq_left h16] at hR; exact hR) h16
        have y2 := hR.2 (n - 2) (by omega) (by omega)
        have y15 := hR.2 (n - 15) (by omega) (by omega)
        have EX := extend_64 wr (w.heap.size + 1) n (n % 16) ((n - 2) % 16) ((n - 7) % 16) ((n - 15) % 16) (ys.getD (n % 16) 0) (ys.getD ((n - 2) % 16) 0) (ys.getD ((n - 7) % 16) 0) (ys.getD ((n - 15) % 16) 0)
          (by rw [IntKind.wrap_i64]; omega) (by rw [IntKind.wrap_i64]; omega) (by rw [IntKind.wrap_i64]; omega) (by have := tm16 n 0 (by omega); simpa using this) (tm16 n 2 (by omega)) (tm16 n 7 (by omega)) (tm16 n 15 (by omega)) (by omega) (by omega) (by omega) (by omega) (by rw [y2]; exact wS_wd64 hb _) (by rw [y15]; exact wS_wd64 hb _)
          (fun W h => (hB1.up h).cell (by rw [hR.1]; omega)) (fun W h => (hB1.up h).cell (by rw [hR.1]; omega)) (fun W h => (hB1.up h).cell (by rw [hR.1]; omega)) (fun W h => (hB1.up h).cell (by rw [hR.1]; omega)) (fun W h => (hB1.up h).free _)
        generalize extv64 (ys.getD (n % 16) 0) (ys.getD ((n - 2) % 16) 0) (ys.getD ((n - 7) % 16) 0) (ys.getD ((n - 15) % 16) 0) = ev at *
        have EXH := hide EX
        have h16' : decide ((16 : Int) ≤ (n : Int)) = true := by simp; omega
        clear EX y2 y15 hb
        go_wp2_with fail
        refine EXH.out.mono ?_
        rintro x wx ⟨rfl, w1, nb, rfl⟩
        have hl := hB1.lt
        have B1 := (hB1.up nb).store (n % 16) ev
        have B0 := (hB0.up nb).of_block (w' := w1.setCell ⟨w.heap.size + 1, n % 16, none⟩ (.int .u64 ev)) (heap_setCell_other _ ⟨w.heap.size + 1, n % 16, none⟩ _ _ (by show w.heap.size ≠ w.heap.size + 1; omega))
        have B2 := (hB2.up nb).of_block (w' := w1.setCell ⟨w.heap.size + 1, n % 16, none⟩ (.int .u64 ev)) (heap_setCell_other _ ⟨w.heap.size + 1, n % 16, none⟩ _ _ (by show w.heap.size + 1 + 1 ≠ w.heap.size + 1; omega))
        have N : Below w.heap.size w (w1.setCell ⟨w.heap.size + 1, n % 16, none⟩ (.int .u64 ev)) := (nxt hN nb).setCell (by show w.heap.size ≤ w.heap.size + 1; omega) _
        have T1 := (hT.up nb).of_block (w' := w1.setCell ⟨w.heap.size + 1, n % 16, none⟩ (.int .u64 ev)) (heap_setCell_other _ ⟨w.heap.size + 1, n % 16, none⟩ _ _ (by show 7 ≠ w.heap.size + 1; omega))
        generalize w1.setCell ⟨w.heap.size + 1, n % 16, none⟩ (.int .u64 ev) = wt at *
        have RR : Roll64 b (ys.set (n % 16) ev) (max (n + 1) 16) := by rw [Nat.max_eq_left (by omega)]; exact hR'
        generalize ys.set (n % 16) ev = ys' at *
        clear EXH hR hR' hB1 hB0 hB2 hT hN nb h16'
        have cb := B1.cell (i := n % 16) (by rw [RR.1]; omega)
        rw [RR.2 n (by omega) (by omega)] at cb
        have ck := T1 n (by show n < 80; omega)
        have p1 : (n : Int) % 16 = ((n % 16 : Nat) : Int) := by omega
        have p2 : ((n % 16 : Nat) : Int) < 16 := by omega
        have p3 : (n : Int) < 80 := by omega
        generalize n % 16 = p at cb p1 p2
        clear h16
        go_wp2_with fail
        go_quiet ((first | (go_at_call 160; exact Calls.quiet_of (G1 _).out) | (go_at_call 161; exact Calls.quiet_of_same (CH _).out) | (go_at_call 134; exact Calls.quiet_of_same (UB _).out)))
        obtain ⟨t, ht⟩ : ∃ t, t = tS64 (K64 n) (wS64 b n) r := ⟨_, rfl⟩
        go_wp2_with fail
        have tv : IntKind.u64.wrap (IntKind.u64.wrap (IntKind.u64.wrap (IntKind.u64.wrap (r.h + gg164 r.e) + ch64 r.e r.f r.g) + K64 n) + wS64 b n) = t := by simp only [wrap_u64e]; rw [ht]; unfold tS64; omega
        rw [tv]
        have HT := hide ht
        clear tv ht cb ck p1 p2 p3 G1 CH UB kd wd
        refine (G0 _).out.mono ?_
        rintro x wx ⟨rfl, m1, rfl⟩
        go_wp2_with fail
        refine (MJ _).out.mono ?_
        rintro x wx ⟨rfl, rfl⟩
        go_wp2
        go_roundw
        case rel => exact ⟨n + 1, stp64 (K64 n) (wS64 b n) r, ys', by omega, by go_num, by congr 1; simp only [wrap_u64e]; show _ = (tS64 (K64 n) (wS64 b n) r + uS64 r) % 18446744073709551616; rw [← HT.out]; unfold uS64; omega, rfl, rfl, rfl, by congr 1; simp only [wrap_u64e]; show _ = (r.d + tS64 (K64 n) (wS64 b n) r) % 18446744073709551616; rw [← HT.out], rfl, rfl, rfl, hr', RR, B1, B0, B2, T1, below_drewN N _⟩
        case measure => simp [intOf]; omega
      · have RR : Roll64 b ys (max (n + 1) 16) := by rw [Nat.max_eq_right (by omega)]; rw [Nat.max_eq_right (by omega)] at hR; exact hR
        have h16' : decide ((16 : Int) ≤ (n : Int)) = false := by simp; omega
        have B1 := hB1
        have B0 := hB0
        have B2 := hB2
        have T1 := hT
        have N := hN
        clear hR hB1 hB0 hB2 hT hN hb
        generalize ys = ys' at *
        generalize wr = wt at *
        have cb := B1.cell (i := n % 16) (by rw [RR.1]; omega)
        rw [RR.2 n (by omega) (by omega)] at cb
        have ck := T1 n (by show n < 80; omega)
        have p1 : (n : Int) % 16 = ((n % 16 : Nat) : Int) := by omega
        have p2 : ((n % 16 : Nat) : Int) < 16 := by omega
        have p3 : (n : Int) < 80 := by omega
        generalize n % 16 = p at cb p1 p2
        clear h16
        go_wp2_with fail
        go_quiet ((first | (go_at_call 160; exact Calls.quiet_of (G1 _).out) | (go_at_call 161; exact Calls.quiet_of_same (CH _).out) | (go_at_call 134; exact Calls.quiet_of_same (UB _).out)))
        obtain ⟨t, ht⟩ : ∃ t, t = tS64 (K64 n) (wS64 b n) r := ⟨_, rfl⟩
        go_wp2_with fail
        have tv : IntKind.u64.wrap (IntKind.u64.wrap (IntKind.u64.wrap (IntKind.u64.wrap (r.h + gg164 r.e) + ch64 r.e r.f r.g) + K64 n) + wS64 b n) = t := by simp only [wrap_u64e]; rw [ht]; unfold tS64; omega
        rw [tv]
        have HT := hide ht
        clear tv ht cb ck p1 p2 p3 G1 CH UB kd wd
        refine (G0 _).out.mono ?_
        rintro x wx ⟨rfl, m1, rfl⟩
        go_wp2_with fail
        refine (MJ _).out.mono ?_
        rintro x wx ⟨rfl, rfl⟩
        go_wp2
        go_roundw
        case rel => exact ⟨n + 1, stp64 (K64 n) (wS64 b n) r, ys', by omega, by go_num, by congr 1; simp only [wrap_u64e]; show _ = (tS64 (K64 n) (wS64 b n) r + uS64 r) % 18446744073709551616; rw [← HT.out]; unfold uS64; omega, rfl, rfl, rfl, by congr 1; simp only [wrap_u64e]; show _ = (r.d + tS64 (K64 n) (wS64 b n) r) % 18446744073709551616; rw [← HT.out], rfl, rfl, rfl, hr', RR, B1, B0, B2, T1, below_drewN N _⟩
        case measure => simp [intOf]; omega
    · obtain rfl : n = 80 := by omega
      have K : Hid (blk64 s b = add64 s r) := by show _ = _; rw [hr.out]; rfl
      obtain ⟨⟨c0, c1, c2, c3, c4, c5, c6, c7⟩, -⟩ := hB0.f8
      obtain ⟨⟨d0, d1, d2, d3, d4, d5, d6, d7⟩, ⟨f0, f1, f2, f3, f4, f5, f6, f7⟩⟩ := hB2.f8
      clear hr hR hB1 hB0 hB2 hT
      go_wp2
      refine bodyPost_ret (v := ag8 .u64 (add64 s r)) (by simp [ag8, add64, results, wrap_u64e,  Tryz.results137, go_sem, d0, d1, d2, d3, d4, d5, d6, d7]) rfl ⟨by rw [K.out]; rfl, ?_⟩
      exact below_set8 hN (by omega) _ _ _ _ _ _ _ _
end Go.Proofs.YthonlkghkdjagaaGreatDoor
namespace Go.Proofs.YthonlkghkdjagaaGreatDoor
set_option maxRecDepth 100000
open Go Go.RowKit
set_option maxHeartbeats 4000000 in
theorem fillWords_64 (w : World) (q off n cw : Nat) (hZ : Seg w q off .u64 (List.replicate n 0)) (g : Nat) (a : Option Addr) (c : Nat) (xs : List Int) (hr : Rd w g a .u8 xs) (hb : Byt xs) (hl : xs.length = 8 * n) (h0 : 0 < n) (hn : n ≤ 16) (hg : g ≠ q) :
    Calls Tryz.prog 164 #[.slice (some ⟨q, off, none⟩) n cw, .slice a xs.length c] w fun e w' => e = .returned (.tuple #[]) ∧ ∃ ys, (ys.length = n ∧ ∀ j, j < n → ys.getD j 0 = wd 8 xs j) ∧ Seg w' q off .u64 ys ∧ SegX q off n w w' := by
  obtain ⟨o2, rfl, hc⟩ := hr (by omega)
  rw [hl]
  have HL := hide hl
  clear hl
  go_enter Tryz.func164, Tryz.ntmps164
  go_wp2_with fail
  refine (wordSize_64 w).mono ?_
  rintro r w1 ⟨rfl, rfl⟩
  go_wp2
  go_loopw [10] (fun i wr => ∃ (j : Nat) (ys : List Int), j ≤ 8 * n ∧ i = .int .i64 j ∧ FilW 8 xs n ys j ∧ Seg wr q off .u64 ys ∧ SegX q off n w1 wr) (fun i _ => 8 * n - (intOf i).toNat)
  case atStart => exact ⟨0, _, Nat.zero_le _, rfl, FilW.zero 8 xs n, hZ, SegX.refl _ _ _ _⟩
  case round =>
    obtain ⟨j, ys, hj, rfl, hF, hS, hX⟩ := hrel
    by_cases hlt : j < 8 * n
    · have cx : wr.cell? ⟨g, o2 + j, none⟩ = some (.int .u8 (xs.getD j 0)) := by
        rw [World.cell?_of_block (a := ⟨g, o2 + j, none⟩) (hX.only.block g hg)]
        exact hc j (by rw [HL.out]; exact hlt)
      have hp : j / 8 < n := by omega
      have R := hF.step (by decide)
      have hh := hF.here hp
      have hs := hS (j / 8) (by rw [hF.1]; exact hp)
      rw [hh] at hs
      have xb := hb j
      have bl := bw_lt (z := 8) hb (j / 8) (j % 8)
      have bl2 : bw 8 xs (j / 8) (j % 8) < 72057594037927936 := by
        have : (256 : Int) ^ (j % 8) ≤ 256 ^ (8 - 1) := p256_leh (by omega)
        have e : (256 : Int) ^ (8 - 1) = 72057594037927936 := by decide
        omega
      have ov := orb64 (bw 8 xs (j / 8) (j % 8)) (xs.getD j 0) bl.1 bl2 xb.1 xb.2
      rw [← wrap_u64e] at ov
      have S' := hS.store (j / 8) (by rw [hF.1]; exact hp) (bw 8 xs (j / 8) (j % 8) * 256 + xs.getD j 0)
      have X' := hX.trans (SegX.set wr q off n (j / 8) hp (.int .u64 (bw 8 xs (j / 8) (j % 8) * 256 + xs.getD j 0)))
      obtain ⟨h1, h2⟩ := hs
      have d1 : (j : Int) / 8 = ((j / 8 : Nat) : Int) := by omega
      have d2 : ((j / 8 : Nat) : Int) < (n : Int) := by omega
      have d3 : (j : Int) < 8 * (n : Int) := by omega
      clear hF hS hX hh bl hp
      generalize j / 8 = p at *
      generalize bw 8 xs p (j % 8) = bv at *
      generalize xs.getD j 0 = x at *
      obtain ⟨x0, x1⟩ := xb
      go_wp2_with fail
      go_region
      go_wp2
      go_roundw
      case rel => exact ⟨j + 1, _, by omega, by go_num, R, S', X'.drew⟩
      case measure => simp [intOf]; omega
    · obtain rfl : j = 8 * n := by omega
      have K := hide (hF.all (by decide))
      clear hF
      go_wp2
      exact bodyPost_end (v := .tuple #[]) (by simp [results, Tryz.results164, go_sem]) rfl ⟨rfl, ys, K.out, hS, hX⟩
theorem info16_64 : (Tryz.prog.info? 183).map (·.size) = some 16 := by kernel_rfl
theorem und16_64 : Tryz.prog.underlying 183 = some (.array 16 42) := by kernel_rfl
set_option maxHeartbeats 4000000 in
theorem readBlock_64 (w : World) (g : Nat) (a : Option Addr) (c : Nat) (xs : List Int) (hr : Rd w g a .u8 xs) (hb : Byt xs) (hl : xs.length = 128) :
    Calls Tryz.prog 138 #[.slice a 128 c] w fun e w' => e = .returned (agw .u64 (wd 8 xs)) ∧ Below w.heap.size w w' := by
  have n0 : Below w.heap.size w (w.alloc (.cells #[.int .u64 0, .int .u64 0, .int .u64 0, .int .u64 0, .int .u64 0, .int .u64 0, .int .u64 0, .int .u64 0, .int .u64 0, .int .u64 0, .int .u64 0, .int .u64 0, .int .u64 0, .int .u64 0, .int .u64 0, .int .u64 0] 183)) := (Below.refl _ _).alloc (Nat.le_refl _) _
  have B0 := blk_agw w .u64 183 (fun _ => 0)
  have z0 : (w.alloc (.cells #[.int .u64 0, .int .u64 0, .int .u64 0, .int .u64 0, .int .u64 0, .int .u64 0, .int .u64 0, .int .u64 0, .int .u64 0, .int .u64 0, .int .u64 0, .int .u64 0, .int .u64 0, .int .u64 0, .int .u64 0, .int .u64 0] 183)).heap.size = w.heap.size + 1 := by simp
  have gl := hr.lt (by omega)
  have HL := hide hl
  go_enter Tryz.func138, Tryz.ntmps138
  go_wp2_with fail
  generalize w.alloc (.cells #[.int .u64 0, .int .u64 0, .int .u64 0, .int .u64 0, .int .u64 0, .int .u64 0, .int .u64 0, .int .u64 0, .int .u64 0, .int .u64 0, .int .u64 0, .int .u64 0, .int .u64 0, .int .u64 0, .int .u64 0, .int .u64 0] 183) = wa at *
  have n1 : Below wa.heap.size wa (wa.alloc (.cells #[.int .u64 0, .int .u64 0, .int .u64 0, .int .u64 0, .int .u64 0, .int .u64 0, .int .u64 0, .int .u64 0, .int .u64 0, .int .u64 0, .int .u64 0, .int .u64 0, .int .u64 0, .int .u64 0, .int .u64 0, .int .u64 0] 183)) := (Below.refl _ _).alloc (Nat.le_refl _) _
  have B1 := blk_agw wa .u64 183 (fun _ => 0)
  have z1 : (wa.alloc (.cells #[.int .u64 0, .int .u64 0, .int .u64 0, .int .u64 0, .int .u64 0, .int .u64 0, .int .u64 0, .int .u64 0, .int .u64 0, .int .u64 0, .int .u64 0, .int .u64 0, .int .u64 0, .int .u64 0, .int .u64 0, .int .u64 0] 183)).heap.size = wa.heap.size + 1 := by simp
  generalize wa.alloc (.cells #[.int .u64 0, .int .u64 0, .int .u64 0, .int .u64 0, .int .u64 0, .int .u64 0, .int .u64 0, .int .u64 0, .int .u64 0, .int .u64 0, .int .u64 0, .int .u64 0, .int .u64 0, .int .u64 0, .int .u64 0, .int .u64 0] 183) = wb at *
  rw [z0] at B1 z1
  have B0 := B0.up n1
  have N1 := nxt n0 n1
  have FW := fillWords_64 wb (w.heap.size + 1) 0 16 16 (Seg.blk B1) g a c xs (hr.up N1) hb HL.out (by decide) (by decide) (by omega)
  rw [HL.out] at FW
  clear n0 n1 hl hr
  have FH := hide FW
  clear FW
  refine FH.out.mono ?_
  rintro r w2 ⟨rfl, ys, ⟨yl, yv⟩, S2, X2⟩
  obtain rfl : ys = lsw (wd 8 xs) := eq_of_getD (by rw [yl, lsw_len]) (fun i hi => by rw [yl] at hi; rw [yv i hi, lsw_get _ _ hi])
  have B0 := B0.of_block (X2.only.block w.heap.size (by omega))
  have N2 : Below w.heap.size w w2 := N1.trans (X2.only.below (by omega))
  have RG := S2.range
  obtain ⟨t0, H0⟩ := B0
  have SR := setRow_heap w2 w.heap.size _ ((lsw (wd 8 xs)).map (Value.int .u64)).toArray _ _ H0
  have SN : Below w.heap.size w (w2.setRow w.heap.size ((lsw (wd 8 xs)).map (Value.int .u64)).toArray) := N2.trans ⟨rfl, rfl, rfl, by simp, fun i hi => setRow_other w2 _ i _ (by omega)⟩
  have V : Hid (agw .u64 (wd 8 xs) = .agg ((lsw (wd 8 xs)).map (Value.int .u64)).toArray) := rfl
  have L : Hid (((lsw (wd 8 xs)).map (Value.int .u64)).length = 16) := by show _ = _; rw [List.length_map]; rfl
  have O := one_ints .u64 (lsw (wd 8 xs))
  generalize (lsw (wd 8 xs)).map (Value.int .u64) = vs at *
  clear FH X2 S2 yl yv N1 N2 B1
  go_wp2_with (first
    | (refine wpList_load_mid rfl 183 (.tmp 3) rfl (w.heap.size + 1) 0 rfl vs (.array 16 42) RG und16_64 rfl (by rw [L.out]; exact info16_64) ?_)
    | (refine wpList_store_row rfl 183 (.tmp 2) (.tmp 7) rfl w.heap.size vs.toArray rfl rfl t0 _ H0 (by rw [List.size_toArray, L.out]; exact info16_64) (by rw [List.size_toArray, List.size_toArray, L.out]; rfl) O ?_))
  exact bodyPost_ret (v := .agg vs.toArray) (results_cell_row Tryz.results138 _ _ w.heap.size t0 vs.toArray (0, 0) (.array 16 42) rfl SR und16_64 rfl (by rw [List.size_toArray, L.out]; exact info16_64)) rfl ⟨by rw [V.out], SN⟩
set_option maxHeartbeats 4000000 in
theorem bytes_64 (w : World) (s : S8) (hs : Ok64 s) :
    Calls Tryz.prog 140 #[ag8 .u64 s] w fun e w' => NewRow w.heap.size w' e .u8 (tell64 s) ∧ Below w.heap.size w w' := by
  obtain ⟨i0, hi, hz0, hz1, hz2⟩ := info_parts Tryz.info5
  have n0 : Below w.heap.size w (w.alloc (.cells #[.int .u64 s.a, .int .u64 s.b, .int .u64 s.c, .int .u64 s.d, .int .u64 s.e, .int .u64 s.f, .int .u64 s.g, .int .u64 s.h] 130)) := (Below.refl _ _).alloc (Nat.le_refl _) _
  have B0 := blk_ag8 w .u64 130 s
  have z0 : (w.alloc (.cells #[.int .u64 s.a, .int .u64 s.b, .int .u64 s.c, .int .u64 s.d, .int .u64 s.e, .int .u64 s.f, .int .u64 s.g, .int .u64 s.h] 130)).heap.size = w.heap.size + 1 := by simp
  have TL := hide (tell_len64 s)
  have TG := fun i h => hide (tell_get64 s i h)
  have SW : ∀ p, p < 8 → Wd64 (s.l.getD p 0) := by
    obtain ⟨h1, h2, h3, h4, h5, h6, h7, h8⟩ := hs
    intro p hp
    obtain rfl | rfl | rfl | rfl | rfl | rfl | rfl | rfl : p = 0 ∨ p = 1 ∨ p = 2 ∨ p = 3 ∨ p = 4 ∨ p = 5 ∨ p = 6 ∨ p = 7 := by omega
    all_goals assumption
  simp only [ag8]
  go_enter Tryz.func140, Tryz.ntmps140
  go_wp2_with fail
  generalize w.alloc (.cells #[.int .u64 s.a, .int .u64 s.b, .int .u64 s.c, .int .u64 s.d, .int .u64 s.e, .int .u64 s.f, .int .u64 s.g, .int .u64 s.h] 130) = wa at *
  refine (wordSize_64 wa).mono ?_
  rintro r wa' ⟨rfl, rfl⟩
  go_wp2_with (at_make; refine wpList_make_full _ rfl _ _ 22 rfl wa'.heap.size 5 i0 (.int .u8 0) 1 Tryz.underlying22 hi hz0 hz1 .i64 .i64 _ _ 64 rfl rfl rfl rfl (by rw [hz2]; decide) (by unfold maxLen; decide) (Nat.le_refl _) ?_; intro w5 hown hgrow)
  have hB0 := Blk.of_made hown
  have hN0 : Below wa'.heap.size wa' w5 := (Below.refl _ _).grown hgrow (Nat.le_refl _) (by simp)
  have B0 := B0.up hN0
  have N := nxt n0 hN0
  rw [z0] at hB0
  have CP : CopyTo (tell64 s) (List.replicate 64 0) 0 := ⟨by rw [TL.out]; simp, fun j h => absurd h (by omega)⟩
  clear hown hgrow hN0 n0
  go_loopw [12] (fun i wr => ∃ (j : Nat) (ys : List Int), j ≤ 64 ∧ i = .int .i64 j ∧ CopyTo (tell64 s) ys j ∧ Blk wr (w.heap.size + 1) .u8 ys ∧ Blk wr w.heap.size .u64 s.l ∧ Below w.heap.size w wr) (fun i _ => 64 - (intOf i).toNat)
  case atStart => exact ⟨0, _, Nat.zero_le _, rfl, CP, hB0, B0, N⟩
  case round =>
    obtain ⟨j, ys, hj, rfl, hC, hY, hS, hN⟩ := hrel
    clear CP hB0 B0 N
    by_cases hlt : j < 64
    · have R := hC.step (by rw [TL.out]; exact hlt)
      have tg := (TG j hlt).out
      have yl : ys.length = 64 := hC.1.trans TL.out
      have cs := hS.cell (i := j / 8) (by rw [S8.l_len]; omega)
      have cy := hY.cell (i := j) (by omega)
      have fy := hY.free j
      have sw := SW (j / 8) (by omega)
      have Y' := hY.store j ((tell64 s).getD j 0)
      have S' := hS.of_block (w' := wr.setCell ⟨w.heap.size + 1, j, none⟩ (.int .u8 ((tell64 s).getD j 0))) (heap_setCell_other _ ⟨w.heap.size + 1, j, none⟩ _ _ (by show w.heap.size ≠ w.heap.size + 1; omega))
      have N' : Below w.heap.size w (wr.setCell ⟨w.heap.size + 1, j, none⟩ (.int .u8 ((tell64 s).getD j 0))) := hN.setCell (by show w.heap.size ≤ w.heap.size + 1; omega) _
      rw [tg] at R Y' S' N'
      have d1 : (j : Int) / 8 = ((j / 8 : Nat) : Int) := by omega
      have d2 : ((j / 8 : Nat) : Int) < 8 := by omega
      have d3 : (j : Int) % 8 = ((j % 8 : Nat) : Int) := by omega
      have d4 : (7 : Int) - ((j % 8 : Nat) : Int) = ((8 - 1 - j % 8 : Nat) : Int) := by omega
      have d5 : 8 - 1 - j % 8 ≤ 7 := by omega
      have d6 : (j : Int) < 64 := by omega
      generalize ys.getD j 0 = y0 at *
      generalize j / 8 = p at *
      generalize s.l.getD p 0 = v at *
      generalize 8 - 1 - j % 8 = sh at *
      generalize j % 8 = rm at *
      obtain ⟨v0, v1⟩ := sw
      clear hC hY hS hN tg TG SW yl
      go_wp2_with fail
      go_region
      go_wp2
      go_roundw
      case rel => exact ⟨j + 1, _, by omega, by go_num, R, Y'.drew, S'.drew, N'.drew⟩
      case measure => simp [intOf]; omega
    · obtain rfl : j = 64 := by omega
      have K := hide (show ys = tell64 s from CopyTo.all (by rw [TL.out]; exact hC))
      clear hC
      go_wp2
      go_ret
      refine ⟨⟨_, 64, w.heap.size + 1, by rw [TL.out]; rfl, ?_, by simp, by rw [TL.out]; exact Nat.le_refl _, by omega⟩, hN⟩
      rw [← K.out]
      exact hY.own0
end Go.Proofs.YthonlkghkdjagaaGreatDoor
namespace Go.Proofs.YthonlkghkdjagaaGreatDoor
set_option maxRecDepth 100000
open Go Go.RowKit
theorem infoH_64 : (Tryz.prog.info? 133).map (·.size) = some 137 := by kernel_rfl
set_option maxHeartbeats 4000000 in
theorem restSize_64 (w : World) (L : Int) (C : S8) (R : List Int) (hl : R.length = 128) (h0 : 0 ≤ L) :
    Calls Tryz.prog 136 #[.agg (hcl .u64 L C R).toArray] w fun e w' => e = .returned (.int .i64 (L % 128)) ∧ Below w.heap.size w w' := by
  have n0 : Below w.heap.size w (w.alloc (.cells (hcl .u64 L C R).toArray 133)) := (Below.refl _ _).alloc (Nat.le_refl _) _
  have H0 := HB.alloc .u64 w 133 L C hl
  generalize hv : hcl .u64 L C R = vs at *
  go_enter Tryz.func136, Tryz.ntmps136
  go_wp2_with fail
  generalize w.alloc (.cells vs.toArray 133) = wa at *
  have c0 := H0.c0
  go_quiet ((go_at_call 135; exact Calls.quiet_of_same (blockSize_64 _)))
  go_wp2
  go_ret
  exact ⟨rfl, below_drewN n0 _⟩
theorem undH_64 : (Tryz.prog.underlying 133).map (·.isRow) = some true := by kernel_rfl
abbrev zH64 : Obj := .cells (List.toArray (.int .i64 0 :: .int .u64 0 :: .int .u64 0 :: .int .u64 0 :: .int .u64 0 :: .int .u64 0 :: .int .u64 0 :: .int .u64 0 :: .int .u64 0 :: .int .u8 0 :: .int .u8 0 :: .int .u8 0 :: .int .u8 0 :: .int .u8 0 :: .int .u8 0 :: .int .u8 0 :: .int .u8 0 :: .int .u8 0 :: .int .u8 0 :: .int .u8 0 :: .int .u8 0 :: .int .u8 0 :: .int .u8 0 :: .int .u8 0 :: .int .u8 0 :: .int .u8 0 :: .int .u8 0 :: .int .u8 0 :: .int .u8 0 :: .int .u8 0 :: .int .u8 0 :: .int .u8 0 :: .int .u8 0 :: .int .u8 0 :: .int .u8 0 :: .int .u8 0 :: .int .u8 0 :: .int .u8 0 :: .int .u8 0 :: .int .u8 0 :: .int .u8 0 :: .int .u8 0 :: .int .u8 0 :: .int .u8 0 :: .int .u8 0 :: .int .u8 0 :: .int .u8 0 :: .int .u8 0 :: .int .u8 0 :: .int .u8 0 :: .int .u8 0 :: .int .u8 0 :: .int .u8 0 :: .int .u8 0 :: .int .u8 0 :: .int .u8 0 :: .int .u8 0 :: .int .u8 0 :: .int .u8 0 :: .int .u8 0 :: .int .u8 0 :: .int .u8 0 :: .int .u8 0 :: .int .u8 0 :: .int .u8 0 :: .int .u8 0 :: .int .u8 0 :: .int .u8 0 :: .int .u8 0 :: .int .u8 0 :: .int .u8 0 :: .int .u8 0 :: .int .u8 0 :: .int .u8 0 :: .int .u8 0 :: .int .u8 0 :: .int .u8 0 :: .int .u8 0 :: .int .u8 0 :: .int .u8 0 :: .int .u8 0 :: .int .u8 0 :: .int .u8 0 :: .int .u8 0 :: .int .u8 0 :: .int .u8 0 :: .int .u8 0 :: .int .u8 0 :: .int .u8 0 :: .int .u8 0 :: .int .u8 0 :: .int .u8 0 :: .int .u8 0 :: .int .u8 0 :: .int .u8 0 :: .int .u8 0 :: .int .u8 0 :: .int .u8 0 :: .int .u8 0 :: .int .u8 0 :: .int .u8 0 :: .int .u8 0 :: .int .u8 0 :: .int .u8 0 :: .int .u8 0 :: .int .u8 0 :: .int .u8 0 :: .int .u8 0 :: .int .u8 0 :: .int .u8 0 :: .int .u8 0 :: .int .u8 0 :: .int .u8 0 :: .int .u8 0 :: .int .u8 0 :: .int .u8 0 :: .int .u8 0 :: .int .u8 0 :: .int .u8 0 :: .int .u8 0 :: .int .u8 0 :: .int .u8 0 :: .int .u8 0 :: .int .u8 0 :: .int .u8 0 :: .int .u8 0 :: .int .u8 0 :: .int .u8 0 :: .int .u8 0 :: .int .u8 0 :: .int .u8 0 :: .int .u8 0 :: .int .u8 0 :: .int .u8 0 :: .int .u8 0 :: .int .u8 0 :: .int .u8 0 :: [])) 133
set_option maxRecDepth 20000 in
theorem zeroH_64 : (.int .i64 0 :: .int .u64 0 :: .int .u64 0 :: .int .u64 0 :: .int .u64 0 :: .int .u64 0 :: .int .u64 0 :: .int .u64 0 :: .int .u64 0 :: .int .u8 0 :: .int .u8 0 :: .int .u8 0 :: .int .u8 0 :: .int .u8 0 :: .int .u8 0 :: .int .u8 0 :: .int .u8 0 :: .int .u8 0 :: .int .u8 0 :: .int .u8 0 :: .int .u8 0 :: .int .u8 0 :: .int .u8 0 :: .int .u8 0 :: .int .u8 0 :: .int .u8 0 :: .int .u8 0 :: .int .u8 0 :: .int .u8 0 :: .int .u8 0 :: .int .u8 0 :: .int .u8 0 :: .int .u8 0 :: .int .u8 0 :: .int .u8 0 :: .int .u8 0 :: .int .u8 0 :: .int .u8 0 :: .int .u8 0 :: .int .u8 0 :: .int .u8 0 :: .int .u8 0 :: .int .u8 0 :: .int .u8 0 :: .int .u8 0 :: .int .u8 0 :: .int .u8 0 :: .int .u8 0 :: .int .u8 0 :: .int .u8 0 :: .int .u8 0 :: .int .u8 0 :: .int .u8 0 :: .int .u8 0 :: .int .u8 0 :: .int .u8 0 :: .int .u8 0 :: .int .u8 0 :: .int .u8 0 :: .int .u8 0 :: .int .u8 0 :: .int .u8 0 :: .int .u8 0 :: .int .u8 0 :: .int .u8 0 :: .int .u8 0 :: .int .u8 0 :: .int .u8 0 :: .int .u8 0 :: .int .u8 0 :: .int .u8 0 :: .int .u8 0 :: .int .u8 0 :: .int .u8 0 :: .int .u8 0 :: .int .u8 0 :: .int .u8 0 :: .int .u8 0 :: .int .u8 0 :: .int .u8 0 :: .int .u8 0 :: .int .u8 0 :: .int .u8 0 :: .int .u8 0 :: .int .u8 0 :: .int .u8 0 :: .int .u8 0 :: .int .u8 0 :: .int .u8 0 :: .int .u8 0 :: .int .u8 0 :: .int .u8 0 :: .int .u8 0 :: .int .u8 0 :: .int .u8 0 :: .int .u8 0 :: .int .u8 0 :: .int .u8 0 :: .int .u8 0 :: .int .u8 0 :: .int .u8 0 :: .int .u8 0 :: .int .u8 0 :: .int .u8 0 :: .int .u8 0 :: .int .u8 0 :: .int .u8 0 :: .int .u8 0 :: .int .u8 0 :: .int .u8 0 :: .int .u8 0 :: .int .u8 0 :: .int .u8 0 :: .int .u8 0 :: .int .u8 0 :: .int .u8 0 :: .int .u8 0 :: .int .u8 0 :: .int .u8 0 :: .int .u8 0 :: .int .u8 0 :: .int .u8 0 :: .int .u8 0 :: .int .u8 0 :: .int .u8 0 :: .int .u8 0 :: .int .u8 0 :: .int .u8 0 :: .int .u8 0 :: .int .u8 0 :: .int .u8 0 :: .int .u8 0 :: .int .u8 0 :: .int .u8 0 :: .int .u8 0 :: .int .u8 0 :: .int .u8 0 :: []) = hcl .u64 0 ⟨0, 0, 0, 0, 0, 0, 0, 0⟩ (List.replicate 128 0) := by rw [zero137]; kernel_rfl
theorem HB.zero64 (w : World) : HB .u64 (w.alloc zH64) w.heap.size 0 ⟨0, 0, 0, 0, 0, 0, 0, 0⟩ (List.replicate 128 0) := by
  unfold zH64
  rw [zeroH_64]
  exact HB.alloc _ _ _ _ _ (by simp)
theorem idx8_64 (n : Nat) (hn : n < 8) (W : World) : (Instr.index 84 (.agg #[.int .u64 7640891576956012808, .int .u64 13503953896175478587, .int .u64 4354685564936845355, .int .u64 11912009170470909681, .int .u64 5840696475078001361, .int .u64 11170449401992604703, .int .u64 2270897969802886507, .int .u64 6620516959819538809]) (.int .i64 (n : Int))).run Tryz.prog W = .ok (.int .u64 (stLh.getD n 0)) W := by
  obtain rfl | rfl | rfl | rfl | rfl | rfl | rfl | rfl : n = 0 ∨ n = 1 ∨ n = 2 ∨ n = 3 ∨ n = 4 ∨ n = 5 ∨ n = 6 ∨ n = 7 := by omega
  all_goals kernel_rfl
theorem start_is64 : ∀ n : Fin 8, start64.l.getD n.val 0 = stLh.getD n.val 0 := by decide +kernel
set_option maxRecDepth 20000 in
set_option maxHeartbeats 8000000 in
theorem newHashing_64 (w : World) (hT : HasT w 5 stLh) :
    Calls Tryz.prog 100 #[] w fun e w' => e = .returned (.agg (hcl .u64 0 start64 (List.replicate 128 0)).toArray) ∧ Below w.heap.size w w' := by
  go_enter Tryz.func100, Tryz.ntmps100
  go_upto_region 1 with fail
  change Code.wp _ _ _ _ (w.alloc zH64)
  have n0 : Below w.heap.size w (w.alloc zH64) := (Below.refl _ _).alloc (Nat.le_refl _) _
  have H0 := HB.zero64 w
  have z0 : (w.alloc zH64).heap.size = w.heap.size + 1 := by simp
  generalize w.alloc zH64 = wa at *
  go_upto_region 2 with fail
  change Code.wp _ _ _ _ (wa.alloc zH64)
  have n1 : Below wa.heap.size wa (wa.alloc zH64) := (Below.refl _ _).alloc (Nat.le_refl _) _
  have H1 := HB.zero64 wa
  have z1 : (wa.alloc zH64).heap.size = wa.heap.size + 1 := by simp
  generalize wa.alloc zH64 = wb at *
  rw [z0] at H1 z1
  have H0 := H0.up n1
  have N := nxt n0 n1
  have hT2 := hT.up N
  have c0 : wb.cell? ⟨5, 0, none⟩ = some (.int .u64 7640891576956012808) := hT2 0 (by decide)
  have c1 : wb.cell? ⟨5, 1, none⟩ = some (.int .u64 13503953896175478587) := hT2 1 (by decide)
  have c2 : wb.cell? ⟨5, 2, none⟩ = some (.int .u64 4354685564936845355) := hT2 2 (by decide)
  have c3 : wb.cell? ⟨5, 3, none⟩ = some (.int .u64 11912009170470909681) := hT2 3 (by decide)
  have c4 : wb.cell? ⟨5, 4, none⟩ = some (.int .u64 5840696475078001361) := hT2 4 (by decide)
  have c5 : wb.cell? ⟨5, 5, none⟩ = some (.int .u64 11170449401992604703) := hT2 5 (by decide)
  have c6 : wb.cell? ⟨5, 6, none⟩ = some (.int .u64 2270897969802886507) := hT2 6 (by decide)
  have c7 : wb.cell? ⟨5, 7, none⟩ = some (.int .u64 6620516959819538809) := hT2 7 (by decide)
  clear n0 n1 hT hT2
  go_wp2_with fail
  have Z1 : Seg wb (w.heap.size + 1) 1 .u64 (List.replicate 8 0) := H1.ch
  go_loopw [5] (fun i wr => ∃ (n : Nat) (ys : List Int), n ≤ 8 ∧ i = .int .i64 n ∧ ys.length = 8 ∧ (∀ j, j < n → ys.getD j 0 = start64.l.getD j 0) ∧ Seg wr (w.heap.size + 1) 1 .u64 ys ∧ SegX (w.heap.size + 1) 1 8 wb wr) (fun i _ => 8 - (intOf i).toNat)
  case atStart => exact ⟨0, _, Nat.zero_le _, rfl, by simp, fun j h => absurd h (by omega), Z1, SegX.refl _ _ _ _⟩
  case round =>
    obtain ⟨n, ys, hn, rfl, hy, hv, hS, hX⟩ := hrel
    clear c0 c1 c2 c3 c4 c5 c6 c7
    by_cases hlt : n < 8
    · have sl := stL_lt ⟨n, hlt⟩
      have si := start_is64 ⟨n, hlt⟩
      have UB : ∀ w, Hid (Calls Tryz.prog 134 #[.int .u64 (stLh.getD n 0)] w fun e w' => e = .returned (.int .u64 (start64.l.getD n 0)) ∧ w' = w) := fun w => by
        show Calls _ _ _ _ _
        rw [si]
        exact upperBits_64 w (stLh.getD n 0) sl.1 sl.2
      have S' := hS.store n (by omega) (start64.l.getD n 0)
      have X' := hX.trans (SegX.set wr (w.heap.size + 1) 1 8 n hlt (.int .u64 (start64.l.getD n 0)))
      have V' : ∀ j, j < n + 1 → (ys.set n (start64.l.getD n 0)).getD j 0 = start64.l.getD j 0 := by
        intro j hj
        by_cases e : n = j
        · subst e
          rw [getD_set_self _ _ _ (by omega)]
        · rw [getD_set_ne _ _ _ _ e]
          exact hv j (by omega)
      have L' : (ys.set n (start64.l.getD n 0)).length = 8 := by rw [List.length_set]; exact hy
      obtain ⟨h1, h2⟩ := hS n (by omega)
      have IX := fun W => idx8_64 n hlt W
      have n8 : (n : Int) < 8 := by omega
      generalize start64.l.getD n 0 = sv at UB S' X' L' V' ⊢
      generalize stLh.getD n 0 = su at UB IX
      have VH := hide V'
      clear hS hX hv sl si hy V'
      generalize ys.getD n 0 = y0 at h1
      go_wp2_with fail
      refine (UB _).out.mono ?_
      rintro x wx ⟨rfl, rfl⟩
      go_wp2
      go_roundw
      case rel => exact ⟨n + 1, _, by omega, by go_num, L', VH.out, S', X'⟩
      case measure => simp [intOf]; omega
    · obtain rfl : n = 8 := by omega
      obtain rfl : ys = start64.l := eq_of_getD (by rw [hy]; rfl) (fun i hi => hv i (by omega))
      have H1' := H1.of_seg hX hS
      have H0' := H0.of_block (hX.only.block w.heap.size (by omega))
      have N' : Below w.heap.size w wr := N.trans (hX.only.below (by omega))
      clear H1 H0 N hX hS hv hy
      have L1 := hcl_len .u64 0 start64 (R := List.replicate 128 0) (by simp)
      have O1 := hcl_one .u64 0 start64 (List.replicate 128 0)
      have RG := H1'.range
      have TH := H0'.there
      have VH : Hid (∀ v, v = hcl .u64 0 start64 (List.replicate 128 0) → v.length = 137 ∧ (wr.setCells w.heap.size 0 v).rangeAt w.heap.size 0 v) := by
        rintro v rfl
        exact ⟨L1, World.rangeAt_setCells_same wr w.heap.size 0 _ (by rw [L1]; exact TH)⟩
      have N2 : ∀ v, Below w.heap.size w (wr.setCells w.heap.size 0 v) := fun v => N'.trans ((only_setCells wr w.heap.size v 0).below (Nat.le_refl _))
      generalize hvs : hcl .u64 0 start64 (List.replicate 128 0) = vs at *
      obtain ⟨d, hd, hrow⟩ : ∃ d, Tryz.prog.underlying 133 = some d ∧ d.isRow = true := by
        have h := undH_64
        cases hq : Tryz.prog.underlying 133 with
        | none => rw [hq] at h; simp at h
        | some d => rw [hq] at h; exact ⟨d, rfl, by simpa using h⟩
      go_wp2_with (first
        | (refine wpList_load_mid rfl 133 (.tmp 1) rfl (w.heap.size + 1) 0 rfl vs d RG hd hrow (by rw [L1]; exact infoH_64) ?_)
        | (refine wpList_store_mid rfl 133 (.tmp 0) (.tmp 15) rfl w.heap.size 0 vs.toArray rfl rfl ?hth ?hin ?hon ?_))
      case hth => show wr.there w.heap.size 0 vs.length; rw [L1]; exact TH
      case hin => show _ = some vs.length; rw [L1]; exact infoH_64
      case hon => exact O1
      obtain ⟨-, RR⟩ := VH.out vs rfl
      exact bodyPost_ret (v := .agg vs.toArray) (results_cell_m Tryz.results100 _ _ w.heap.size vs d rfl RR hd hrow (by rw [L1]; exact infoH_64)) rfl ⟨by rw [hvs], N2 vs⟩
end Go.Proofs.YthonlkghkdjagaaGreatDoor
namespace Go.Proofs.YthonlkghkdjagaaGreatDoor
set_option maxRecDepth 100000
open Go Go.RowKit
set_option maxHeartbeats 8000000 in
theorem take_64 (w : World) (q L : Nat) (C : S8) (R : List Int) (hH : HB .u64 w q (L : Int) C R) (hC : Ok64 C) (hR : Byt R) (g : Nat) (a : Option Addr) (c : Nat) (xs : List Int) (hr : Rd w g a .u8 xs) (hx : Byt xs) (hc : xs.length ≤ c)
    (hg : 0 < xs.length → g ≠ q) (hL : L + xs.length ≤ 1152921504606846976) (hT : HasT w 7 kL) (hq : 7 ≠ q) :
    Calls Tryz.prog 101 #[.pointer (some ⟨q, 0, none⟩), .slice a xs.length c] w fun e w' => e = .returned (.tuple #[]) ∧ ∃ R', HB .u64 w' q ((L + xs.length : Nat) : Int) (whole64 C (R.take (L % 128) ++ xs)) R' ∧ Byt R' ∧ R'.take ((L + xs.length) % 128) = left64 (R.take (L % 128) ++ xs) ∧ Bth q w w' := by
  obtain ⟨Lt, hLt⟩ : ∃ n, n = L + xs.length := ⟨_, rfl⟩
  obtain ⟨Wt, hWt⟩ : ∃ s, s = whole64 C (R.take (L % 128) ++ xs) := ⟨_, rfl⟩
  obtain ⟨Lf, hLf⟩ : ∃ l, l = left64 (R.take (L % 128) ++ xs) := ⟨_, rfl⟩
  rw [← hLt, ← hWt, ← hLf]
  rw [← hLt] at hL
  have HLt := hide hLt.symm
  have HWt := hide hWt.symm
  have HLf := hide hLf.symm
  clear hLt hWt hLf
  go_enter Tryz.func101, Tryz.ntmps101
  go_wp2_with fail
  go_quiet ((go_at_call 135; exact Calls.quiet_of_same (blockSize_64 _)))
  go_wp2_with fail
  have B0 : Bth q w (w.drewN nq) := ⟨rfl, rfl, rfl, Nat.le_refl _, fun _ _ _ => rfl⟩
  have H0 : HB .u64 (w.drewN nq) q (L : Int) C R := hH.of_block rfl
  have T0 : HasT (w.drewN nq) 7 kL := hT
  have R0 : Rd (w.drewN nq) g a .u8 xs := hr
  generalize w.drewN nq = w0 at *
  go_loopw [1] (fun v wr => ∃ (L1 c1 : Nat) (C1 : S8) (R1 xs1 : List Int) (a1 : Option Addr), v = .slice a1 xs1.length c1 ∧ HB .u64 wr q (L1 : Int) C1 R1 ∧ Ok64 C1 ∧ Byt R1 ∧ Rd wr g a1 .u8 xs1 ∧ Byt xs1 ∧ xs1.length ≤ c1 ∧ xs1.length ≤ xs.length ∧ Hid (L1 + xs1.length = Lt) ∧ Hid (whole64 C1 (R1.take (L1 % 128) ++ xs1) = Wt) ∧ Hid (left64 (R1.take (L1 % 128) ++ xs1) = Lf) ∧ HasT wr 7 kL ∧ Bth q w wr) (fun v _ => vlen v)
  case atStart => exact ⟨L, c, C, R, xs, a, rfl, H0, hC, hR, R0, hx, hc, Nat.le_refl _, HLt, HWt, HLf, T0, B0⟩
  case round =>
    obtain ⟨L1, c1, C1, R1, xs1, a1, rfl, hH1, hC1, hR1, hr1, hx1, hc1, hle, hL1, hW1, hF1, hT1, hB1⟩ := hrel
    clear H0 R0 T0 B0 hH hC hR hr hx hT HLt HWt HLf
    by_cases hlt : 0 < xs1.length
    · have hgq := hg (by omega)
      obtain ⟨o1, rfl, hcc⟩ := id hr1 hlt
      obtain ⟨r, er⟩ : ∃ r, r = L1 % 128 := ⟨_, rfl⟩
      have rl : r < 128 := by omega
      have rz : (L1 : Int) % 128 = (r : Int) := by omega
      have rl2 : (r : Int) ≤ 128 := by omega
      have ER := hide er
      clear er
      obtain ⟨n1, hn1⟩ : ∃ n, xs1.length = n := ⟨_, rfl⟩
      have l1 : (0 : Int) < (n1 : Int) := by omega
      have RG := hH1.range
      have RS := restSize_64 wr (L1 : Int) C1 R1 hH1.len (by omega)
      rw [rz] at RS
      have RSH := hide RS
      have LH := hide (hcl_len .u64 (L1 : Int) C1 hH1.len)
      have RN := hide hH1.len
      clear RS
      obtain ⟨d, hd, hrow⟩ : ∃ d, Tryz.prog.underlying 133 = some d ∧ d.isRow = true := by
        have h := undH_64
        cases hq : Tryz.prog.underlying 133 with
        | none => rw [hq] at h; simp at h
        | some d => rw [hq] at h; exact ⟨d, rfl, by simpa using h⟩
      generalize hcl .u64 (L1 : Int) C1 R1 = vs at *
      rw [hn1]
      have HN := hide hn1
      clear hn1
      go_wp2_with (refine wpList_load_mid rfl 133 (.tmp 16) rfl q 0 rfl vs d RG hd hrow (by rw [LH.out]; exact infoH_64) ?_)
      refine RSH.out.mono ?_
      rintro x w2 ⟨rfl, n2⟩
      clear RSH
      go_wp2_with fail
      obtain ⟨t, ht⟩ : ∃ t, t = min (128 - r) n1 := ⟨_, rfl⟩
      obtain ⟨tk, htk⟩ : ∃ l, l = xs1.take t := ⟨_, rfl⟩
      have tl : tk.length = t := by rw [htk, List.length_take, HN.out]; omega
      have H2 := hH1.up n2
      have hrun := run_copy_cells (P := Tryz.prog) w2 22 22 3 5 q (9 + r) (128 - r) (128 - r) ⟨g, o1, none⟩ n1 c1 (tk.map (Value.int .u8)) und22h s5 (by rw [List.length_map, tl, ht]; exact Nat.min_comm _ _)
        (fun j v hj => by
          have hjl : j < tk.length := by have := (List.getElem?_eq_some_iff.1 hj).1; simpa using this
          have e : tk.getD j 0 = xs1.getD j 0 := by rw [htk, List.getD_eq_getElem?_getD, List.getD_eq_getElem?_getD, List.getElem?_take, if_pos (by omega)]
          have hc' := (hr1.up n2) hlt
          obtain ⟨o', e', hcc'⟩ := hc'
          simp only [Option.some.injEq, Addr.mk.injEq, true_and, and_true] at e'
          subst e'
          rw [Addr.add_mid, hcc' j (by rw [HN.out]; omega), ← e]
          simpa [hjl] using hj)
        (fun j hj => by
          rw [List.length_map, tl] at hj
          have := H2.rs (r + j) (by rw [H2.len]; omega)
          rw [show 9 + (r + j) = 9 + r + j by omega] at this
          rw [this.1]; rfl)
        (fun j hj => by
          rw [List.length_map, tl] at hj
          have := H2.rs (r + j) (by rw [H2.len]; omega)
          rw [show 9 + (r + j) = 9 + r + j by omega] at this
          exact this.2)
        (fun v hv => by obtain ⟨x, _, rfl⟩ := List.mem_map.1 hv; rfl)
      rw [List.length_map, tl] at hrun
      have H3 := H2.setR r tk (by omega)
      have Q3 := only_setCells w2 q (tk.map (Value.int .u8)) (9 + r)
      have B3 : Bth q w (w2.setCells q (9 + r) (tk.map (Value.int .u8))) := (hB1.trans (Bth.of_below n2)).trans (Bth.of_only Q3)
      have T3 : HasT (w2.setCells q (9 + r) (tk.map (Value.int .u8))) 7 kL := (hT1.up n2).of_block (Q3.block _ hq)
      have r3 : Rd (w2.setCells q (9 + r) (tk.map (Value.int .u8))) g (some ⟨g, o1, none⟩) .u8 xs1 := (hr1.up n2).of_block (Q3.block _ hgq)
      have c3 := H3.c0
      have f3 := H3.f0
      have H4 := H3.setL ((L1 : Int) + (t : Int))
      have Q4 := Only.setCell (w2.setCells q (9 + r) (tk.map (Value.int .u8))) q 0 (.int .i64 ((L1 : Int) + (t : Int)))
      have B4 := B3.trans (Bth.of_only Q4)
      have T4 := T3.of_block (Q4.block _ hq)
      have r4 := r3.of_block (Q4.block _ hgq)
      have t0 : 0 < t := by omega
      have tn : t ≤ n1 := by omega
      have tr : r + t ≤ 128 := by omega
      have tn' : (t : Int) ≤ (n1 : Int) := by omega
      have nc' : (n1 : Int) ≤ (c1 : Int) := by have := HN.out; omega
      have nb' : (L1 : Int) + (n1 : Int) ≤ 1152921504606846976 := by have := hL1.out; have := HN.out; omega
      have TT : Hid (t = min (128 - r) n1) := ht
      have TK := hide htk
      have TL := hide tl
      clear ht htk tl hH1 RG LH H2 H3 B3 T3 r3 Q3 Q4 hB1 hT1 hr1 hcc n2
      rw [hrun]
      clear hrun
      generalize w2.setCells q (9 + r) (tk.map (Value.int .u8)) = w3 at *
      have ly := lay_byt (r := r) hR1 (show Byt tk by rw [TK.out]; exact byt_takeh hx1 t)
      have mk : Hid ((lay R1 r tk).take (r + t) = R1.take r ++ tk) := by show _ = _; rw [← TL.out]; exact take_more (by rw [RN.out]; omega)
      have RG := H4.range
      have L4 := H4.len
      have RS := restSize_64 (w3.setCell ⟨q, 0, none⟩ (.int .i64 ((L1 : Int) + (t : Int)))) ((L1 : Int) + (t : Int)) C1 (lay R1 r tk) L4 (by omega)
      have LH := hide (hcl_len .u64 ((L1 : Int) + (t : Int)) C1 L4)
      generalize hcl .u64 ((L1 : Int) + (t : Int)) C1 (lay R1 r tk) = vs4 at *
      have RSH := hide RS
      have L4H := hide L4
      clear RS L4
      by_cases hct : c1 = t
      · have hct2 := hct.symm
        subst hct2
        go_wp2_with (refine wpList_load_mid rfl 133 (.tmp 34) rfl q 0 rfl vs4 d RG hd hrow (by rw [LH.out]; exact infoH_64) ?_)
        generalize w3.setCell ⟨q, 0, none⟩ (.int .i64 ((L1 : Int) + (t : Int))) = w4 at *
        refine RSH.out.mono ?_
        rintro x w5 ⟨rfl, n5⟩
        have H5 := H4.up n5
        have B5 := B4.trans (Bth.of_below n5)
        have T5 := T4.up n5
        have r5 : Rd w5 g (some ⟨g, o1, none⟩) .u8 (xs1.drop t) := by rw [List.drop_eq_nil_of_le (by have := HN.out; omega)]; exact Rd.nil _ _ _ _
        have dl : Hid ((xs1.drop t).length = n1 - t) := by show _ = _; rw [List.length_drop, HN.out]
        clear RSH RG LH H4 B4 T4 r4 n5 c3 f3
        by_cases hf : r + t = 128
        · have z5 : ((L1 : Int) + (t : Int)) % 128 = 0 := by have := ER.out; omega
          have bl : ((lay R1 r tk).take 128).length = 128 := by rw [List.length_take, L4H.out]; omega
          have bb : Byt ((lay R1 r tk).take 128) := byt_takeh ly _
          have be : (lay R1 r tk).take 128 = R1.take r ++ tk := by rw [← hf]; exact mk.out
          have rb : ∀ W, Below w5.heap.size w5 W → Rd W q (some ⟨q, 9, none⟩) .u8 ((lay R1 r tk).take 128) := fun W n _ => ⟨9, rfl, fun i hi => by
            have h := ((H5.up n).rs i (by rw [L4H.out]; omega)).1
            rw [List.getD_eq_getElem?_getD, List.getElem?_take, if_pos (by omega), ← List.getD_eq_getElem?_getD]
            exact h⟩
          obtain ⟨C2, hC2⟩ : ∃ s, s = blk64 C1 (wd 8 ((lay R1 r tk).take 128)) := ⟨_, rfl⟩
          have oC2 : Ok64 C2 := by rw [hC2]; exact blk_ok64 _ _
          have HC2 := hide hC2
          go_wp2_with fail
          refine region_put 10 9 7 47 45 _ (fun i => [Fact.eq (.pointer (some ⟨q, 0, none⟩)), Fact.eq (.pointer (some ⟨q, 0, none⟩)), Fact.eq (.pointer (some ⟨q, 0, none⟩)), Fact.eq (.pointer (some ⟨q, 1, none⟩)), Fact.eq (ag8 .u64 C1), Fact.eq (.slice (some ⟨q, 9, none⟩) 128 128), Fact.eq (agw .u64 (wd 8 ((lay R1 r tk).take 128))), Fact.eq (ag8 .u64 C2), Fact.eq (.pointer (some ⟨q, 0, none⟩)), Fact.eq (.pointer (some ⟨q, 1, none⟩))].getD i Fact.no) q 1 130 (C2.l.map (Value.int .u64)) (by kernel_rfl) (by kernel_rfl) rfl rfl rfl (by kernel_rfl) rfl (by kernel_rfl) rfl ?_ (by rw [List.length_map]; kernel_rfl) (one_ints _ _) ?_ ?_
          · intro W n j hj
            rw [List.length_map] at hj
            have h := (H5.up n).ch j hj
            exact ⟨by rw [h.1]; rfl, h.2⟩
          · skip
            intro i hi
            obtain rfl | rfl | rfl | rfl | rfl | rfl | rfl | rfl | rfl | rfl : i = 0 ∨ i = 1 ∨ i = 2 ∨ i = 3 ∨ i = 4 ∨ i = 5 ∨ i = 6 ∨ i = 7 ∨ i = 8 ∨ i = 9 := by omega
            · refine step_pure rfl fun a w hb hw hf => ?_
              have e0 : a.tmps[0]?.getD undef = .pointer (some ⟨q, 0, none⟩) := gdv (hb.2.2 0 (by kernel_rfl))
              exact ⟨.pointer (some ⟨q, 0, none⟩), by simp [go_sem, e0], rfl⟩
            · refine step_pure rfl fun a w hb hw hf => ?_
              have e0 : a.tmps[0]?.getD undef = .pointer (some ⟨q, 0, none⟩) := gdv (hb.2.2 0 (by kernel_rfl))
              exact ⟨.pointer (some ⟨q, 0, none⟩), by simp [go_sem, e0], rfl⟩
            · refine step_pure rfl fun a w hb hw hf => ?_
              have e39 : a.tmps[39]?.getD undef = .pointer (some ⟨q, 0, none⟩) := gdv (hf 1 39 (by kernel_rfl))
              exact ⟨.pointer (some ⟨q, 0, none⟩), by simp [go_sem, e39], rfl⟩
            · refine step_pure rfl fun a w hb hw hf => ?_
              have e40 : a.tmps[40]?.getD undef = .pointer (some ⟨q, 0, none⟩) := gdv (hf 2 40 (by kernel_rfl))
              exact ⟨.pointer (some ⟨q, 1, none⟩), by simp [go_sem, e40], rfl⟩
            · refine step_load rfl 130 (.tmp 41) rfl (.array 8 42) 8 (by kernel_rfl) rfl (by kernel_rfl) fun a w hb hw hf => ⟨q, 1, C1.l.map (Value.int .u64), hf 3 41 (by kernel_rfl), (H5.up hw).ch.range, by rw [List.length_map]; rfl, rfl⟩
            · refine step_pure rfl fun a w hb hw hf => ?_
              have e4 : a.tmps[4]?.getD undef = .slice (some ⟨q, 9, none⟩) 128 128 := gdv (hb.2.2 4 (by kernel_rfl))
              exact ⟨.slice (some ⟨q, 9, none⟩) 128 128, by simp [go_sem, e4], rfl⟩
            · refine step_callv rfl 138 _ _ rfl (by kernel_rfl) fun a w hb hw hf => ?_
              have e43 : a.tmps.getD 43 undef = .slice (some ⟨q, 9, none⟩) 128 128 := hf 5 43 (by kernel_rfl)
              show Calls Tryz.prog 138 #[a.tmps.getD 43 undef] w _
              rw [e43]
              exact (readBlock_64 w q (some ⟨q, 9, none⟩) 128 _ (rb w hw) bb bl).mono (by rintro r w' ⟨rfl, n⟩; exact ⟨_, rfl, n, rfl⟩)
            · refine step_callv rfl 137 _ _ rfl (by kernel_rfl) fun a w hb hw hf => ?_
              have e42 : a.tmps.getD 42 undef = ag8 .u64 C1 := hf 4 42 (by kernel_rfl)
              have e44 : a.tmps.getD 44 undef = agw .u64 (wd 8 ((lay R1 r tk).take 128)) := hf 6 44 (by kernel_rfl)
              show Calls Tryz.prog 137 #[a.tmps.getD 42 undef, a.tmps.getD 44 undef] w _
              rw [e42, e44]
              rw [HC2.out]; exact (behind_64 w C1 hC1 _ (fun i _ => wd_64 bb i) (T5.up hw)).mono (by rintro r w' ⟨rfl, n⟩; exact ⟨_, rfl, n, rfl⟩)
            · refine step_pure rfl fun a w hb hw hf => ?_
              have e38 : a.tmps[38]?.getD undef = .pointer (some ⟨q, 0, none⟩) := gdv (hf 0 38 (by kernel_rfl))
              exact ⟨.pointer (some ⟨q, 0, none⟩), by simp [go_sem, e38], rfl⟩
            · refine step_pure rfl fun a w hb hw hf => ?_
              have e46 : a.tmps[46]?.getD undef = .pointer (some ⟨q, 0, none⟩) := gdv (hf 8 46 (by kernel_rfl))
              exact ⟨.pointer (some ⟨q, 1, none⟩), by simp [go_sem, e46], rfl⟩
          intro vs6 W n6
          have H6 := (H5.up n6).setC C2
          have Q6 := only_setCells W q (C2.l.map (Value.int .u64)) 1
          have B6 := (B5.trans (Bth.of_below n6)).trans (Bth.of_only Q6)
          have T6 := (T5.up n6).of_block (Q6.block _ hq)
          have r6 := (r5.up n6).of_block (Q6.block _ hgq)
          simp only [puts, Act.put, List.setIfInBounds_toArray, List.set_cons_succ, List.set_cons_zero]
          generalize W.setCells q 1 (C2.l.map (Value.int .u64)) = w6 at *
          have lf : (L1 + t) % 128 = 0 := by have := ER.out; omega
          have whx : xs1 = tk ++ xs1.drop t := by rw [TK.out]; exact (List.take_append_drop t xs1).symm
          have KW : Hid (whole64 C2 ((lay R1 r tk).take ((L1 + t) % 128) ++ xs1.drop t) = Wt) := by
            show _ = _
            rw [lf, List.take_zero, List.nil_append, ← hW1.out, ← ER.out]
            conv => rhs; rw [whx, ← List.append_assoc, ← be, whole_app64 _ _ _ bl, ← HC2.out]
          have KF : Hid (left64 ((lay R1 r tk).take ((L1 + t) % 128) ++ xs1.drop t) = Lf) := by
            show _ = _
            rw [lf, List.take_zero, List.nil_append, ← hF1.out, ← ER.out]
            conv => rhs; rw [whx, ← List.append_assoc, ← be, left_app64 _ _ bl]
          clear mk bl bb be rb lf whx
          go_wp2
          go_roundw
          case rel => exact ⟨L1 + t, 0, C2, lay R1 r tk, xs1.drop t, _, by rw [dl.out], by rw [Int.natCast_add]; exact H6, oC2, ly, r6, byt_drop hx1 t, by rw [dl.out]; have := HN.out; omega, by rw [dl.out]; have := HN.out; omega, by show _ = _; rw [dl.out]; have := hL1.out; have := HN.out; omega, KW, KF, T6, B6⟩
          case measure => simp only [vlen_slice]; omega
        · have z5 : (((L1 : Int) + (t : Int)) % 128 == 0) = false := by have := ER.out; simp; omega
          obtain rfl : t = n1 := by have := TT.out; omega
          have lf : (L1 + t) % 128 = r + t := by have := ER.out; omega
          have dn : xs1.drop t = [] := List.drop_eq_nil_of_le (by rw [HN.out]; exact Nat.le_refl _)
          have tx : tk = xs1 := by rw [TK.out]; exact List.take_of_length_le (by rw [HN.out]; exact Nat.le_refl _)
          have KW : Hid (whole64 C1 ((lay R1 r tk).take ((L1 + t) % 128) ++ xs1.drop t) = Wt) := by
            show _ = _
            rw [lf, mk.out, dn, List.append_nil, tx, ER.out]
            exact hW1.out
          have KF : Hid (left64 ((lay R1 r tk).take ((L1 + t) % 128) ++ xs1.drop t) = Lf) := by
            show _ = _
            rw [lf, mk.out, dn, List.append_nil, tx, ER.out]
            exact hF1.out
          clear mk lf dn tx
          go_wp2
          go_roundw
          case rel => exact ⟨L1 + t, 0, C1, lay R1 r tk, xs1.drop t, _, by rw [dl.out, Nat.sub_self], by rw [Int.natCast_add]; exact H5, hC1, ly, r5, byt_drop hx1 t, by rw [dl.out]; have := HN.out; omega, by rw [dl.out]; have := HN.out; omega, by show _ = _; rw [dl.out]; have := hL1.out; have := HN.out; omega, KW, KF, T5, B5⟩
          case measure => simp only [vlen_slice]; omega
      · have hct' : ¬ ((c1 : Int) = (t : Int)) := by omega
        go_wp2_with (refine wpList_load_mid rfl 133 (.tmp 34) rfl q 0 rfl vs4 d RG hd hrow (by rw [LH.out]; exact infoH_64) ?_)
        generalize w3.setCell ⟨q, 0, none⟩ (.int .i64 ((L1 : Int) + (t : Int))) = w4 at *
        refine RSH.out.mono ?_
        rintro x w5 ⟨rfl, n5⟩
        have H5 := H4.up n5
        have B5 := B4.trans (Bth.of_below n5)
        have T5 := T4.up n5
        have r5 : Rd w5 g (some ⟨g, o1 + t, none⟩) .u8 (xs1.drop t) := rd_drop (t := t) (r4.up n5)
        have dl : Hid ((xs1.drop t).length = n1 - t) := by show _ = _; rw [List.length_drop, HN.out]
        clear RSH RG LH H4 B4 T4 r4 n5 c3 f3
        by_cases hf : r + t = 128
        · have z5 : ((L1 : Int) + (t : Int)) % 128 = 0 := by have := ER.out; omega
          have bl : ((lay R1 r tk).take 128).length = 128 := by rw [List.length_take, L4H.out]; omega
          have bb : Byt ((lay R1 r tk).take 128) := byt_takeh ly _
          have be : (lay R1 r tk).take 128 = R1.take r ++ tk := by rw [← hf]; exact mk.out
          have rb : ∀ W, Below w5.heap.size w5 W → Rd W q (some ⟨q, 9, none⟩) .u8 ((lay R1 r tk).take 128) := fun W n _ => ⟨9, rfl, fun i hi => by
            have h := ((H5.up n).rs i (by rw [L4H.out]; omega)).1
            rw [List.getD_eq_getElem?_getD, List.getElem?_take, if_pos (by omega), ← List.getD_eq_getElem?_getD]
            exact h⟩
          obtain ⟨C2, hC2⟩ : ∃ s, s = blk64 C1 (wd 8 ((lay R1 r tk).take 128)) := ⟨_, rfl⟩
          have oC2 : Ok64 C2 := by rw [hC2]; exact blk_ok64 _ _
          have HC2 := hide hC2
          go_wp2_with fail
          refine region_put 10 9 7 47 45 _ (fun i => [Fact.eq (.pointer (some ⟨q, 0, none⟩)), Fact.eq (.pointer (some ⟨q, 0, none⟩)), Fact.eq (.pointer (some ⟨q, 0, none⟩)), Fact.eq (.pointer (some ⟨q, 1, none⟩)), Fact.eq (ag8 .u64 C1), Fact.eq (.slice (some ⟨q, 9, none⟩) 128 128), Fact.eq (agw .u64 (wd 8 ((lay R1 r tk).take 128))), Fact.eq (ag8 .u64 C2), Fact.eq (.pointer (some ⟨q, 0, none⟩)), Fact.eq (.pointer (some ⟨q, 1, none⟩))].getD i Fact.no) q 1 130 (C2.l.map (Value.int .u64)) (by kernel_rfl) (by kernel_rfl) rfl rfl rfl (by kernel_rfl) rfl (by kernel_rfl) rfl ?_ (by rw [List.length_map]; kernel_rfl) (one_ints _ _) ?_ ?_
          · intro W n j hj
            rw [List.length_map] at hj
            have h := (H5.up n).ch j hj
            exact ⟨by rw [h.1]; rfl, h.2⟩
          · skip
            intro i hi
            obtain rfl | rfl | rfl | rfl | rfl | rfl | rfl | rfl | rfl | rfl : i = 0 ∨ i = 1 ∨ i = 2 ∨ i = 3 ∨ i = 4 ∨ i = 5 ∨ i = 6 ∨ i = 7 ∨ i = 8 ∨ i = 9 := by omega
            · refine step_pure rfl fun a w hb hw hf => ?_
              have e0 : a.tmps[0]?.getD undef = .pointer (some ⟨q, 0, none⟩) := gdv (hb.2.2 0 (by kernel_rfl))
              exact ⟨.pointer (some ⟨q, 0, none⟩), by simp [go_sem, e0], rfl⟩
            · refine step_pure rfl fun a w hb hw hf => ?_
              have e0 : a.tmps[0]?.getD undef = .pointer (some ⟨q, 0, none⟩) := gdv (hb.2.2 0 (by kernel_rfl))
              exact ⟨.pointer (some ⟨q, 0, none⟩), by simp [go_sem, e0], rfl⟩
            · refine step_pure rfl fun a w hb hw hf => ?_
              have e39 : a.tmps[39]?.getD undef = .pointer (some ⟨q, 0, none⟩) := gdv (hf 1 39 (by kernel_rfl))
              exact ⟨.pointer (some ⟨q, 0, none⟩), by simp [go_sem, e39], rfl⟩
            · refine step_pure rfl fun a w hb hw hf => ?_
              have e40 : a.tmps[40]?.getD undef = .pointer (some ⟨q, 0, none⟩) := gdv (hf 2 40 (by kernel_rfl))
              exact ⟨.pointer (some ⟨q, 1, none⟩), by simp [go_sem, e40], rfl⟩
            · refine step_load rfl 130 (.tmp 41) rfl (.array 8 42) 8 (by kernel_rfl) rfl (by kernel_rfl) fun a w hb hw hf => ⟨q, 1, C1.l.map (Value.int .u64), hf 3 41 (by kernel_rfl), (H5.up hw).ch.range, by rw [List.length_map]; rfl, rfl⟩
            · refine step_pure rfl fun a w hb hw hf => ?_
              have e4 : a.tmps[4]?.getD undef = .slice (some ⟨q, 9, none⟩) 128 128 := gdv (hb.2.2 4 (by kernel_rfl))
              exact ⟨.slice (some ⟨q, 9, none⟩) 128 128, by simp [go_sem, e4], rfl⟩
            · refine step_callv rfl 138 _ _ rfl (by kernel_rfl) fun a w hb hw hf => ?_
              have e43 : a.tmps.getD 43 undef = .slice (some ⟨q, 9, none⟩) 128 128 := hf 5 43 (by kernel_rfl)
              show Calls Tryz.prog 138 #[a.tmps.getD 43 undef] w _
              rw [e43]
              exact (readBlock_64 w q (some ⟨q, 9, none⟩) 128 _ (rb w hw) bb bl).mono (by rintro r w' ⟨rfl, n⟩; exact ⟨_, rfl, n, rfl⟩)
            · refine step_callv rfl 137 _ _ rfl (by kernel_rfl) fun a w hb hw hf => ?_
              have e42 : a.tmps.getD 42 undef = ag8 .u64 C1 := hf 4 42 (by kernel_rfl)
              have e44 : a.tmps.getD 44 undef = agw .u64 (wd 8 ((lay R1 r tk).take 128)) := hf 6 44 (by kernel_rfl)
              show Calls Tryz.prog 137 #[a.tmps.getD 42 undef, a.tmps.getD 44 undef] w _
              rw [e42, e44]
              rw [HC2.out]; exact (behind_64 w C1 hC1 _ (fun i _ => wd_64 bb i) (T5.up hw)).mono (by rintro r w' ⟨rfl, n⟩; exact ⟨_, rfl, n, rfl⟩)
            · refine step_pure rfl fun a w hb hw hf => ?_
              have e38 : a.tmps[38]?.getD undef = .pointer (some ⟨q, 0, none⟩) := gdv (hf 0 38 (by kernel_rfl))
              exact ⟨.pointer (some ⟨q, 0, none⟩), by simp [go_sem, e38], rfl⟩
            · refine step_pure rfl fun a w hb hw hf => ?_
              have e46 : a.tmps[46]?.getD undef = .pointer (some ⟨q, 0, none⟩) := gdv (hf 8 46 (by kernel_rfl))
              exact ⟨.pointer (some ⟨q, 1, none⟩), by simp [go_sem, e46], rfl⟩
          intro vs6 W n6
          have H6 := (H5.up n6).setC C2
          have Q6 := only_setCells W q (C2.l.map (Value.int .u64)) 1
          have B6 := (B5.trans (Bth.of_below n6)).trans (Bth.of_only Q6)
          have T6 := (T5.up n6).of_block (Q6.block _ hq)
          have r6 := (r5.up n6).of_block (Q6.block _ hgq)
          simp only [puts, Act.put, List.setIfInBounds_toArray, List.set_cons_succ, List.set_cons_zero]
          generalize W.setCells q 1 (C2.l.map (Value.int .u64)) = w6 at *
          have lf : (L1 + t) % 128 = 0 := by have := ER.out; omega
          have whx : xs1 = tk ++ xs1.drop t := by rw [TK.out]; exact (List.take_append_drop t xs1).symm
          have KW : Hid (whole64 C2 ((lay R1 r tk).take ((L1 + t) % 128) ++ xs1.drop t) = Wt) := by
            show _ = _
            rw [lf, List.take_zero, List.nil_append, ← hW1.out, ← ER.out]
            conv => rhs; rw [whx, ← List.append_assoc, ← be, whole_app64 _ _ _ bl, ← HC2.out]
          have KF : Hid (left64 ((lay R1 r tk).take ((L1 + t) % 128) ++ xs1.drop t) = Lf) := by
            show _ = _
            rw [lf, List.take_zero, List.nil_append, ← hF1.out, ← ER.out]
            conv => rhs; rw [whx, ← List.append_assoc, ← be, left_app64 _ _ bl]
          clear mk bl bb be rb lf whx
          go_wp2
          go_roundw
          case rel => exact ⟨L1 + t, c1 - t, C2, lay R1 r tk, xs1.drop t, _, by rw [dl.out], by rw [Int.natCast_add]; exact H6, oC2, ly, r6, byt_drop hx1 t, by rw [dl.out]; have := HN.out; omega, by rw [dl.out]; have := HN.out; omega, by show _ = _; rw [dl.out]; have := hL1.out; have := HN.out; omega, KW, KF, T6, B6⟩
          case measure => simp only [vlen_slice]; omega
        · have z5 : (((L1 : Int) + (t : Int)) % 128 == 0) = false := by have := ER.out; simp; omega
          obtain rfl : t = n1 := by have := TT.out; omega
          have lf : (L1 + t) % 128 = r + t := by have := ER.out; omega
          have dn : xs1.drop t = [] := List.drop_eq_nil_of_le (by rw [HN.out]; exact Nat.le_refl _)
          have tx : tk = xs1 := by rw [TK.out]; exact List.take_of_length_le (by rw [HN.out]; exact Nat.le_refl _)
          have KW : Hid (whole64 C1 ((lay R1 r tk).take ((L1 + t) % 128) ++ xs1.drop t) = Wt) := by
            show _ = _
            rw [lf, mk.out, dn, List.append_nil, tx, ER.out]
            exact hW1.out
          have KF : Hid (left64 ((lay R1 r tk).take ((L1 + t) % 128) ++ xs1.drop t) = Lf) := by
            show _ = _
            rw [lf, mk.out, dn, List.append_nil, tx, ER.out]
            exact hF1.out
          clear mk lf dn tx
          go_wp2
          go_roundw
          case rel => exact ⟨L1 + t, c1 - t, C1, lay R1 r tk, xs1.drop t, _, by rw [dl.out, Nat.sub_self], by rw [Int.natCast_add]; exact H5, hC1, ly, r5, byt_drop hx1 t, by rw [dl.out]; have := HN.out; omega, by rw [dl.out]; have := HN.out; omega, by show _ = _; rw [dl.out]; have := hL1.out; have := HN.out; omega, KW, KF, T5, B5⟩
          case measure => simp only [vlen_slice]; omega
    · obtain rfl : xs1 = [] := List.eq_nil_of_length_eq_zero (by omega)
      have e1 : L1 = Lt := by have := hL1.out; simpa using this
      have sh : (R1.take (L1 % 128)).length < 128 := by rw [List.length_take]; omega
      have e2 : C1 = Wt := by have := hW1.out; rw [List.append_nil, whole_short64 _ sh] at this; exact this
      have e3 : R1.take (L1 % 128) = Lf := by have := hF1.out; rw [List.append_nil, left_short64 sh] at this; exact this
      have E := hide (And.intro e1 (And.intro e2 e3))
      clear e1 e2 e3 sh hL1 hW1 hF1
      go_wp2
      obtain ⟨e1, e2, e3⟩ := E.out
      subst e1 e2
      exact bodyPost_end (v := .tuple #[]) (by simp [results, Tryz.results101, go_sem]) rfl ⟨rfl, R1, hH1, hR1, e3, hB1⟩
end Go.Proofs.YthonlkghkdjagaaGreatDoor
namespace Go.Proofs.YthonlkghkdjagaaGreatDoor
set_option maxRecDepth 100000
open Go Go.RowKit
theorem rowH_64 : ∃ d, Tryz.prog.underlying 133 = some d ∧ d.isRow = true := by
  have h := undH_64
  cases hq : Tryz.prog.underlying 133 with
  | none => rw [hq] at h; simp at h
  | some d => rw [hq] at h; exact ⟨d, rfl, by simpa using h⟩
theorem row8_64 : Tryz.prog.underlying 130 = some (.array 8 42) := by kernel_rfl
theorem info8_64 : (Tryz.prog.info? 130).map (·.size) = some 8 := by kernel_rfl
def endL64 (L : Nat) (C : S8) (R : List Int) : List Int := tell64 (whole64 C (R.take (L % 128) ++ padL (L : Int) 128 16))
set_option maxHeartbeats 4000000 in
theorem end_64 (w : World) (L : Nat) (C : S8) (R : List Int) (hl : R.length = 128) (hC : Ok64 C) (hR : Byt R) (hL : L ≤ 1099511627776) (hT : HasT w 7 kL) :
    Calls Tryz.prog 102 #[.agg (hcl .u64 (L : Int) C R).toArray] w fun e w' => NewRow w.heap.size w' e .u8 (endL64 L C R) ∧ Below w.heap.size w w' := by
  have n0 : Below w.heap.size w (w.alloc (.cells (hcl .u64 (L : Int) C R).toArray 133)) := (Below.refl _ _).alloc (Nat.le_refl _) _
  have H0 := HB.alloc .u64 w 133 (L : Int) C hl
  have z0 : (w.alloc (.cells (hcl .u64 (L : Int) C R).toArray 133)).heap.size = w.heap.size + 1 := by simp
  have gl : 7 < w.heap.size := block_lt_of_cell (hT 0 (by decide))
  have PD := fun w => hide (padding_64 w (L : Int) (by omega) (by omega))
  have PB := padL_byt (L : Int) 128 16
  have PL : (padL (L : Int) 128 16).length ≤ 512 := by rw [padL_len]; have := padZ_lt (L : Int) (B := 128) (t := 16) (by decide); omega
  generalize hv : hcl .u64 (L : Int) C R = vs at *
  unfold endL64
  generalize padL (L : Int) 128 16 = pl at *
  obtain ⟨C2, hC2⟩ : ∃ s, s = whole64 C (R.take (L % 128) ++ pl) := ⟨_, rfl⟩
  have oC : Ok64 C2 := by rw [hC2]; exact whole_ok64 hC _
  rw [← hC2]
  have TK0 := fun w1 q H1 g1 a1 c1 o1 q1 h1 h2 h3 h4 => take_64 w1 q L C R H1 hC hR g1 a1 c1 pl o1 PB q1 h1 h2 h3 h4
  rw [← hC2] at TK0
  clear hC2
  go_enter Tryz.func102, Tryz.ntmps102
  go_upto_region 1 with fail
  generalize w.alloc (.cells vs.toArray 133) = wa at *
  have c0 := H0.c0
  go_wp2_with fail
  refine (PD wa).out.mono ?_
  rintro r w1 ⟨⟨a1, c1, g1, rfl, o1, p1, q1, r1⟩, n1⟩
  have H1 := H0.up n1
  have N1 := nxt n0 n1
  have TK := TK0 w1 w.heap.size H1 g1 a1 c1 o1.rd q1 (fun _ => by omega) (by omega) (hT.up N1) (by omega)
  have TKH := hide TK
  clear TK PD H0 n1 c0 H1
  go_wp2_with fail
  refine TKH.out.mono ?_
  rintro r w2 ⟨rfl, R2, H2, b2, e2, B2⟩
  have N2 : Below w.heap.size w w2 := N1.trans (B2.below (by omega) N1.size)
  have RG := H2.ch.range
  have BY := hide (bytes_64 w2 C2 oC)
  clear TKH H2 b2 e2 B2 N1 o1 TK0
  go_wp2_with (refine wpList_load_mid rfl 130 (.tmp 7) rfl w.heap.size 1 rfl (C2.l.map (Value.int .u64)) (.array 8 42) RG row8_64 rfl (by rw [List.length_map]; exact info8_64) ?_)
  refine BY.out.mono ?_
  rintro r w3 ⟨⟨a3, c3, g3, rfl, o3, p3, q3, r3⟩, n3⟩
  have z2 := N2.size
  go_wp2
  go_ret
  exact ⟨⟨a3, c3, g3, rfl, o3, p3, q3, by omega⟩, nxt N2 n3⟩
theorem whole_left64 (s : S8) (l m : List Int) : whole64 (whole64 s l) (left64 l ++ m) = whole64 s (l ++ m) := by
  induction h : l.length using Nat.strongRecOn generalizing s l with
  | ind n ih =>
    by_cases c : l.length < 128
    · rw [whole_short64 s c, left_short64 c]
    · have hl : (l.take 128).length = 128 := by rw [List.length_take]; omega
      have e : l = l.take 128 ++ l.drop 128 := (List.take_append_drop _ _).symm
      have r := ih (l.drop 128).length (by rw [List.length_drop]; omega) (blk64 s (wd 8 (l.take 128))) (l.drop 128) rfl
      rw [e, whole_app64 _ _ _ hl, left_app64 _ _ hl, List.append_assoc, whole_app64 _ _ _ hl]
      exact r
def hashL64 (xs : List Int) : List Int := tell64 (whole64 start64 (xs ++ padL (xs.length : Int) 128 16))
theorem hash_is64 {R xs : List Int} (e : R.take (xs.length % 128) = left64 xs) : endL64 xs.length (whole64 start64 xs) R = hashL64 xs := by
  unfold endL64 hashL64
  rw [e, whole_left64]
set_option maxRecDepth 20000 in
set_option maxHeartbeats 8000000 in
theorem implHash_64 (w : World) (g : Nat) (a : Option Addr) (c : Nat) (xs : List Int) (hr : Rd w g a .u8 xs) (hx : Byt xs) (hc : xs.length ≤ c) (hn : xs.length ≤ 1099511627776) (hS : HasT w 5 stLh) (hT : HasT w 7 kL) :
    Calls Tryz.prog 60 #[.slice a xs.length c] w fun e w' => NewRow w.heap.size w' e .u8 (hashL64 xs) ∧ Below w.heap.size w w' := by
  have NH := hide (newHashing_64 w hS)
  have gl : 7 < w.heap.size := block_lt_of_cell (hT 0 (by decide))
  have L1 := hide (hcl_len .u64 0 start64 (R := List.replicate 128 0) (by simp))
  have O1 := hcl_one .u64 0 start64 (List.replicate 128 0)
  have HO : Hid (∀ W q, W.rangeAt q 0 (hcl .u64 0 start64 (List.replicate 128 0)) → W.there q 0 137 → HB .u64 W q ((0 : Nat) : Int) start64 (List.replicate 128 0)) := fun W q h1 h2 => HB.of_range (by simp) h1 h2
  obtain ⟨d, hd, hrow⟩ := rowH_64
  generalize hcl .u64 0 start64 (List.replicate 128 0) = vs at *
  have gr : 0 < xs.length → g < w.heap.size := fun h => hr.lt h
  go_enter Tryz.func60, Tryz.ntmps60
  go_wp2_with fail
  refine NH.out.mono ?_
  rintro r w1 ⟨rfl, n1⟩
  clear NH
  have z1 := n1.size
  have HZ := HB.zero64 w1
  have TH := HZ.there
  have na : Below w1.heap.size w1 (w1.alloc zH64) := (Below.refl _ _).alloc (Nat.le_refl _) _
  have sm := World.rangeAt_setCells_same (w1.alloc zH64) w1.heap.size 0 vs (by rw [L1.out]; exact TH)
  have th2 := World.there_setCells TH w1.heap.size 0 vs
  have O2 := only_setCells (w1.alloc zH64) w1.heap.size vs 0
  have H2 := HO.out _ _ sm th2
  have N2 : Below w.heap.size w ((w1.alloc zH64).setCells w1.heap.size 0 vs) := (nxt n1 na).trans (O2.below (by omega))
  go_wp2_with (refine wpList_store_mid rfl 133 (.tmp 3) (.tmp 4) rfl w1.heap.size 0 vs.toArray rfl rfl ?hth ?hin ?hon ?_)
  case hth => exact (show (w1.alloc zH64).there w1.heap.size 0 vs.length by rw [L1.out]; exact TH)
  case hin => show _ = some vs.length; rw [L1.out]; exact infoH_64
  case hon => exact O1
  have TK := take_64 ((w1.alloc zH64).setCells w1.heap.size 0 vs) w1.heap.size 0 start64 (List.replicate 128 0) H2 start_ok64 (byt_rep0 _) g a c xs (hr.up N2) hx hc (fun h => by have := gr h; omega) (by omega) (hT.up N2) (by omega)
  rw [Nat.zero_add, Nat.zero_mod, List.take_zero, List.nil_append] at TK
  have TKH := hide TK
  clear TK HZ TH sm th2 O2 H2 na HO
  change Calls _ _ _ ((w1.alloc zH64).setCells w1.heap.size 0 vs) _
  generalize hw2 : (w1.alloc zH64).setCells w1.heap.size 0 vs = w2 at *
  refine TKH.out.mono ?_
  rintro r w3 ⟨rfl, R3, H3, b3, e3, B3⟩
  have N3 : Below w.heap.size w w3 := N2.trans (B3.below (by omega) N2.size)
  have RG := H3.range
  have L3 := hide (hcl_len .u64 (xs.length : Int) (whole64 start64 xs) H3.len)
  have EN := end_64 w3 xs.length (whole64 start64 xs) R3 H3.len (whole_ok64 start_ok64 xs) b3 hn (hT.up N3)
  rw [hash_is64 e3] at EN
  have ENH := hide EN
  generalize hcl .u64 (xs.length : Int) (whole64 start64 xs) R3 = v3 at *
  clear EN TKH H3 b3 e3 B3 hw2 N2
  go_wp2_with (refine wpList_load_mid rfl 133 (.tmp 3) rfl w1.heap.size 0 rfl v3 d RG hd hrow (by rw [L3.out]; exact infoH_64) ?_)
  refine ENH.out.mono ?_
  rintro r w4 ⟨⟨a4, c4, g4, rfl, o4, p4, q4, r4⟩, n4⟩
  have z3 := N3.size
  go_wp2
  go_ret
  exact ⟨⟨a4, c4, g4, rfl, o4, p4, q4, by omega⟩, nxt N3 n4⟩
end Go.Proofs.YthonlkghkdjagaaGreatDoor
namespace Go.Proofs.YthonlkghkdjagaaGreatDoor
set_option maxRecDepth 100000
open Go Go.RowKit
theorem pv_mulB (k : Nat) : Pv (pMul k (bX, bY)) := ⟨pMul_on pv_base.on k, pMul_cn k _⟩
def sgB (v : Nat) : List Int := en (pMul v (bX, bY))
theorem en_form {p : Int × Int} (h : Pv p) : fill (byt (p.2 % PP + if (!decide (p.1 % PP % 2 = 0)) = true then 57896044618658097711785492504343953926634992332820282019728792003956564819968 else 0)) 32 = en p := by
  have e := enA_eq (lx_byt p) (ly_byt p)
  rw [es_en h] at e
  rw [← e]
  unfold enA
  rw [rp_valid, if_pos (lv_valid h), rpX_of (lv_valid h), rpY_of (lv_valid h), lx_num h, ly_num h]
theorem sgB_form (v : Nat) : fill (byt ((mlP v (bX, bY)).2 % PP + if (!decide ((mlP v (bX, bY)).1 % PP % 2 = 0)) = true then 57896044618658097711785492504343953926634992332820282019728792003956564819968 else 0)) 32 = sgB v := by
  have e := en_form (pv_mulB v)
  unfold sgB
  rw [← e]
  show _ = fill (byt ((mlP v (bX, bY)).2 % PP % PP + if (!decide ((mlP v (bX, bY)).1 % PP % PP % 2 = 0)) = true then 57896044618658097711785492504343953926634992332820282019728792003956564819968 else 0)) 32
  rw [Int.emod_emod_of_dvd _ (Int.dvd_refl _), Int.emod_emod_of_dvd _ (Int.dvd_refl _)]
structure HasS (w : World) : Prop where
  T : HasTw w 9
  C : Em5 w 8 0 dGo
  Z : RowN w 6 0 [0, 1]
  S : HasSt w 13
  I : Has3 w 10 12 5 4
  B : RowN w 2 0 [bX, bY]
theorem HasS.up {w w' : World} (h : HasS w) (n : Below w.heap.size w w') : HasS w' := ⟨h.T.up n, h.C.up n, h.Z.up n, h.S.up n, h.I.up n, RowN.up h.B n⟩
set_option maxHeartbeats 2000000 in
theorem baseForm_any (w : World) (U : Nat → Int) (hU : W4 U) (v : Nat) (hv : wval U = (v : Int)) (H : HasS w) :
    Calls Tryz.prog 62 #[ag4 U] w fun r w' => NewRow w.heap.size w' r .u8 (sgB v) ∧ Below w.heap.size w w' := by
  show Calls Tryz.prog 62 #[.agg (cU U).toArray] w _
  have E := hide (sgB_form v)
  have m0 : Below w.heap.size w (w.alloc (.cells (cU U).toArray 44)) := (Below.refl _ _).alloc (Nat.le_refl _) _
  have RV : RowV (w.alloc (.cells (cU U).toArray 44)) w.heap.size (cU U) := rowV_new w _ _
  obtain ⟨V0, hV0⟩ : ∃ V, V = (cU U).toArray := ⟨_, rfl⟩
  rw [← hV0] at RV m0 ⊢
  clear hV0
  go_enter Tryz.func62, Tryz.ntmps62
  go_upto_region 1 with fail
  generalize w.alloc (.cells V0 44) = wa at *
  have HA := H.up m0
  clear H
  refine region_end 6 (fun i => [Fact.eq (ag4 U), EN [bX, bY], EN [(mlP v (bX, bY)).1, (mlP v (bX, bY)).2], FM ((mlP v (bX, bY)).2 % PP) (!decide ((mlP v (bX, bY)).1 % PP % 2 = 0)), RN wa (fun u9 => u9 = fill (byt ((mlP v (bX, bY)).2 % PP + if (!decide ((mlP v (bX, bY)).1 % PP % 2 = 0)) = true then 57896044618658097711785492504343953926634992332820282019728792003956564819968 else 0)) 32), RN wa (fun u9 => u9 = fill (byt ((mlP v (bX, bY)).2 % PP + if (!decide ((mlP v (bX, bY)).1 % PP % 2 = 0)) = true then 57896044618658097711785492504343953926634992332820282019728792003956564819968 else 0)) 32)].getD i Fact.no) (by kernel_rfl) (by kernel_rfl) rfl ?_ ?_
  · intro i hi
    obtain rfl | rfl | rfl | rfl | rfl | rfl : i = 0 ∨ i = 1 ∨ i = 2 ∨ i = 3 ∨ i = 4 ∨ i = 5 := by omega
    · exact step_lV 44 _ (cU U) Tryz.underlying44 rfl (by kernel_rfl) rfl 1 rfl (by kernel_rfl) w.heap.size rfl RV rfl
    · exact step_glA rfl 2 rfl _ _ HA.B rfl
    · exact step_scl dGo_is HA.T HA.C HA.Z HA.S HA.I bX bY pv_base.on hU hv rfl 3 4 0 1 rfl (by kernel_rfl) (by kernel_rfl) rfl rfl rfl
    · exact step_form rfl 5 2 _ _ rfl (by kernel_rfl) rfl rfl
    · exact step_fby rfl 6 3 _ _ rfl (by kernel_rfl) rfl rfl
    · exact step_move rfl 7 4 (by exact Or.inr rfl) (by kernel_rfl) rfl
  intro A W hb hw hF
  have e2 := hF 5 2 (by kernel_rfl)
  obtain ⟨vs, hvs⟩ : ∃ vs : Nat → Value, ∀ d, A.tmps.getD d undef = vs d := ⟨_, fun _ => rfl⟩
  rw [hvs] at e2
  rw [puts_of (md := .any) (k := 6) (by kernel_rfl) rfl hb vs hvs]
  have N9 := nxt m0 hw
  have z := m0.size
  clear hb hF hvs hw HA RV m0
  obtain ⟨zs, b, d, h, e3, o3, l3, hzs, k1, k2⟩ := e2
  replace hzs : zs = _ := hzs
  rw [E.out] at hzs
  have HZ := hide hzs
  clear hzs E
  simp only [puts, e3, Act.put, List.setIfInBounds_toArray, List.set_cons_succ, List.set_cons_zero]
  go_wp2
  go_ret
  exact ⟨by rw [← HZ.out]; exact ⟨b, d, h, rfl, o3, k1, k2, by omega⟩, N9⟩
def sgV (hs : List Int) : Nat := (num (clampL (hs.take 32))).toNat
theorem hash64_len (xs : List Int) : (hashL64 xs).length = 64 := by unfold hashL64; rw [tell_len64]
theorem sg_words {hs : List Int} (hb : Byt hs) (hl : hs.length = 64) : W4 (clw (wv (fun j => (hs.take 32).getD j 0) 32)) ∧ wval (clw (wv (fun j => (hs.take 32).getD j 0) 32)) = (sgV hs : Int) := by
  have bt : Byt (hs.take 32) := byt_takeh hb 32
  have l : (hs.take 32).length = 32 := by rw [List.length_take]; omega
  have h4 : W4 (wv (fun j => (hs.take 32).getD j 0) 32) := fun j _ => wv_lt bt 32 j
  refine ⟨clw_ok h4, ?_⟩
  rw [clw_num bt l]
  unfold sgV
  have := num_ge (clampL_byt bt l)
  omega
theorem Own.drop1n {w : World} {g off : Nat} {xs : List Int} (h : Own w g (some ⟨g, off, none⟩) .u8 xs) (n : Nat) (hn : n < xs.length) : Own w g (some ⟨g, off + n, none⟩) .u8 (xs.drop n) := fun _ => by
  obtain ⟨o, e, hc⟩ := h (by omega)
  simp only [Option.some.injEq, Addr.mk.injEq, and_true, true_and] at e
  subst e
  refine ⟨_, rfl, fun i hi => ?_⟩
  rw [List.length_drop] at hi
  have := hc (n + i) (by omega)
  rw [show off + n + i = off + (n + i) by omega, show (xs.drop n).getD i 0 = xs.getD (n + i) 0 by simp [List.getD]]
  exact this
def sgC (U : Nat → Int) (m p : Value) : List Value := [.int .u64 (U 0), .int .u64 (U 1), .int .u64 (U 2), .int .u64 (U 3), m, p]
theorem sgI : (Tryz.prog.info? 46).map (·.size) = some 6 := by kernel_rfl
def SGF (w0 : World) (U : Nat → Int) (m : Value) (ys : List Int) : Fact := ⟨fun v w => ∃ (a : Option Addr) (c g : Nat), v = .agg (sgC U m (.slice a ys.length c)).toArray ∧ Own w g a .u8 ys ∧ (a = none → c = 0) ∧ ys.length ≤ c ∧ w0.heap.size ≤ g, fun n h => by
  obtain ⟨a, c, g, e, o, k⟩ := h
  exact ⟨a, c, g, e, o.up n, k⟩⟩
def NewSg (B : Nat) (w' : World) (r : Ending) (hs : List Int) : Prop :=
  ∃ (am a : Option Addr) (cm c gm g : Nat), r = .returned (.agg (sgC (clw (wv (fun j => (hs.take 32).getD j 0) 32)) (.slice am 32 cm) (.slice a 32 c)).toArray) ∧ Own w' gm am .u8 (hs.drop 32) ∧ 32 ≤ cm ∧ Own w' g a .u8 (sgB (sgV hs)) ∧ (a = none → c = 0) ∧ 32 ≤ c ∧ B ≤ g ∧ B ≤ gm
theorem hash64_byt (xs : List Int) : Byt (hashL64 xs) := tell_byt64 _
set_option maxHeartbeats 2000000 in
theorem newSigner_any (w : World) (g : Nat) (a : Option Addr) (c : Nat) (xs : List Int) (hr : Rd w g a .u8 xs) (hb : Byt xs) (hc : xs.length ≤ c) (hl : xs.length ≤ 1048576) (H : HasS w) (H1 : HasT w 5 stLh) (H2 : HasT w 7 kL) :
    Calls Tryz.prog 29 #[.slice a xs.length c] w fun r w' => NewSg w.heap.size w' r (hashL64 xs) ∧ Below w.heap.size w w' := by
  have m0 : Below w.heap.size w (w.alloc (.cells #[.int .u64 0, .int .u64 0, .int .u64 0, .int .u64 0, .slice none 0 0, .slice none 0 0] 46)) := (Below.refl _ _).alloc (Nat.le_refl _) _
  have TR : (w.alloc (.cells #[.int .u64 0, .int .u64 0, .int .u64 0, .int .u64 0, .slice none 0 0, .slice none 0 0] 46)).there w.heap.size 0 6 := there_new w _ _
  have IH := hide (implHash_64 _ g a c xs (hr.up m0) hb hc (by omega) (H1.up m0) (H2.up m0))
  have HL := hide (hash64_len xs)
  have HB := hide (hash64_byt xs)
  generalize hashL64 xs = hs at *
  have H0 := H.up m0
  clear H H1 H2 hr hb hc hl
  go_enter Tryz.func29, Tryz.ntmps29
  go_wp2_with fail
  generalize w.alloc (.cells #[.int .u64 0, .int .u64 0, .int .u64 0, .int .u64 0, .slice none 0 0, .slice none 0 0] 46) = wa at *
  refine IH.out.mono ?_
  rintro e w1 ⟨⟨a1, c1, g1, rfl, o1, p1, q1, r1⟩, n1⟩
  have N1 := nxt m0 n1
  have H1 := H0.up n1
  have TR1 := there_up (by decide) TR n1
  obtain ⟨off, rfl, -⟩ := id o1 (by rw [HL.out]; omega)
  have lT : (hs.take 32).length = 32 := by rw [List.length_take, HL.out]; omega
  have SW := hide (sg_words HB.out HL.out)
  have bT : Byt (hs.take 32) := byt_takeh HB.out 32
  have RS := hide (readScalar_any w1 g1 (some ⟨g1, off, none⟩) c1 (hs.take 32) (o1.rd.takeA 32) bT lT)
  have CL := hide (fun w => clamp_any w _ (fun j _ => wv_lt bT 32 j))
  have q32 : (32 : Int) ≤ (c1 : Int) := by rw [HL.out] at q1; omega
  have q64 : 64 ≤ c1 := by rw [HL.out] at q1; exact q1
  rw [HL.out]
  have oM := o1.drop1n 32 (by rw [HL.out]; omega)
  generalize hU : clw (wv (fun j => (hs.take 32).getD j 0) 32) = U at *
  have HU := hide hU
  generalize wv (fun j => (hs.take 32).getD j 0) 32 = U0 at RS CL
  clear hU lT bT IH q1 n1 m0 H0
  simp only [ag4] at RS CL
  go_wp2_with fail
  refine RS.out.mono ?_
  rintro r w2 ⟨rfl, n2⟩
  clear RS
  go_wp2_with fail
  refine (CL.out w2).mono ?_
  rintro r w3 ⟨rfl, n3⟩
  have N3 := nxt (nxt N1 n2) n3
  have H3 := (H1.up n2).up n3
  have o3 := (o1.up n2).up n3
  have TR3 := there_up (by decide) (there_up (by decide) TR1 n2) n3
  have oM3 := (oM.up n2).up n3
  clear CL N1 H1 o1 TR1 oM n2 n3
  have RV : RowV (w3.alloc (.cells (cU U).toArray 44)) w3.heap.size (cU U) := rowV_new w3 _ _
  have n4 : Below w3.heap.size w3 (w3.alloc (.cells (cU U).toArray 44)) := (Below.refl _ _).alloc (Nat.le_refl _) _
  go_upto_region 3 with fail
  change Code.wp _ _ _ _ (w3.alloc (.cells (cU U).toArray 44))
  generalize w3.alloc (.cells (cU U).toArray 44) = w4 at *
  have N4 := nxt N3 n4
  have H4 := H3.up n4
  have TR4 := there_up (by decide) TR3 n4
  have oM4 := oM3.up n4
  have cne : ¬ (c1 = 32) := by omega
  have zw := N3.size
  have gz : w.heap.size < g1 := by
    have := there_lt (by decide) TR
    omega
  clear N3 n4 H3 o3 TR3 oM3
  have BF := hide (fun W (n : Below w4.heap.size w4 W) => baseForm_any W U SW.out.1 (sgV hs) SW.out.2 (H4.up n))
  have LB := hide (show (sgB (sgV hs)).length = 32 from en_len _)
  generalize hzs : sgB (sgV hs) = zs at *
  have HZS := hide hzs
  clear hzs
  have lt4 := there_lt (by decide) TR4
  refine region_putB 6 2 5 16 _ (fun i => [Fact.eq (.agg (cU U).toArray), Fact.eq (.slice (some ⟨g1, off, none⟩) 64 c1), Fact.eq (.slice (some ⟨g1, off + 32, none⟩) 32 (c1 - 32)), Fact.eq (.agg (cU U).toArray), RN w4 (fun u9 => u9 = zs), SGF w4 U (.slice (some ⟨g1, off + 32, none⟩) 32 (c1 - 32)) zs].getD i Fact.no) w.heap.size 6 46 (fun cells W => ∃ (a : Option Addr) (c g : Nat), cells = sgC U (.slice (some ⟨g1, off + 32, none⟩) 32 (c1 - 32)) (.slice a zs.length c) ∧ Own W g a .u8 zs ∧ (a = none → c = 0) ∧ zs.length ≤ c ∧ w4.heap.size ≤ g) (by kernel_rfl) (by kernel_rfl) rfl rfl rfl (by kernel_rfl) rfl (by kernel_rfl) ?_ ?_ sgI ?_ ?_
  · rintro v W ⟨a5, c5, g5, rfl, o5, k5⟩
    exact ⟨_, rfl, rfl, by simp [sgC, Value.oneCell'], a5, c5, g5, rfl, o5, k5⟩
  · exact fun W n => there_up (by decide) TR4 n
  · intro i hi
    obtain rfl | rfl | rfl | rfl | rfl | rfl : i = 0 ∨ i = 1 ∨ i = 2 ∨ i = 3 ∨ i = 4 ∨ i = 5 := by omega
    · exact step_lV 44 _ (cU U) Tryz.underlying44 rfl (by kernel_rfl) rfl 4 rfl (by kernel_rfl) w3.heap.size rfl RV rfl
    · refine step_pure rfl fun A ww hb hw hf => ?_
      have e3 : A.tmps[3]?.getD undef = .slice (some ⟨g1, off, none⟩) 64 c1 := gdv (hb.2.2 3 (by kernel_rfl))
      exact ⟨.slice (some ⟨g1, off, none⟩) 64 c1, by simp [go_sem, e3], rfl⟩
    · refine step_pure rfl fun A ww hb hw hf => ?_
      have e12 : A.tmps[12]?.getD undef = .slice (some ⟨g1, off, none⟩) 64 c1 := gdv (hf 1 12 (by kernel_rfl))
      exact ⟨.slice (some ⟨g1, off + 32, none⟩) 32 (c1 - 32), by simp [go_sem, e12, cne, Addr.add], rfl⟩
    · exact step_lV 44 _ (cU U) Tryz.underlying44 rfl (by kernel_rfl) rfl 4 rfl (by kernel_rfl) w3.heap.size rfl RV rfl
    · refine step_callv rfl 62 _ _ rfl (by kernel_rfl) fun A ww hb hw hf => ?_
      have e14 : A.tmps.getD 14 undef = .agg (cU U).toArray := hf 3 14 (by kernel_rfl)
      show Calls Tryz.prog 62 #[A.tmps.getD 14 undef] ww _
      rw [e14]
      refine (BF.out ww hw).mono ?_
      rintro r w' ⟨⟨a5, c5, g5, rfl, o5, p5, q5, r5⟩, n⟩
      exact ⟨_, rfl, n, zs, a5, c5, g5, rfl, o5, Nat.le_trans hw.size r5, rfl, p5, q5⟩
    · refine step_pure rfl fun A ww hb hw hf => ?_
      have e11 : A.tmps[11]?.getD undef = .agg (cU U).toArray := gdv (hf 0 11 (by kernel_rfl))
      have e13 : A.tmps[13]?.getD undef = .slice (some ⟨g1, off + 32, none⟩) 32 (c1 - 32) := gdv (hf 2 13 (by kernel_rfl))
      obtain ⟨ys, a5, c5, g5, e15, o5, l5, hys, p5, q5⟩ := hf 4 15 (by kernel_rfl)
      have hys : ys = zs := hys
      subst hys
      have e15 := gdv e15
      refine ⟨.agg (sgC U (.slice (some ⟨g1, off + 32, none⟩) 32 (c1 - 32)) (.slice a5 ys.length c5)).toArray, ?_, a5, c5, g5, rfl, o5, p5, q5, l5⟩
      simp [go_sem, e11, e13, e15, cU, sgC]
  rintro vs W cells hw ⟨a5, c5, g5, rfl, o5, p5, q5, l5⟩
  have TW := there_up (by decide) TR4 hw
  have rg := World.rangeAt_setCells_same W w.heap.size 0 (sgC U (.slice (some ⟨g1, off + 32, none⟩) 32 (c1 - 32)) (.slice a5 zs.length c5)) TW
  have OS := only_setCells W w.heap.size (sgC U (.slice (some ⟨g1, off + 32, none⟩) 32 (c1 - 32)) (.slice a5 zs.length c5)) 0
  have z4 := N4.size
  have NS := (nxt N4 hw).trans (OS.below (Nat.le_refl _))
  have oE := o5.only OS (fun _ => by omega)
  have mE := (oM4.up hw).only OS (fun _ => by omega)
  rw [LB.out] at q5
  have e32 : zs.length = 32 := LB.out
  rw [e32] at rg NS oE mE
  simp only [puts, Act.put, List.setIfInBounds_toArray, List.set_cons_succ, List.set_cons_zero]
  rw [e32]
  clear hw N4 H4 BF RV TR4 oM4 o5 OS TW
  obtain ⟨fs, hfs⟩ : ∃ fs, Tryz.prog.underlying 46 = some (.struct fs) := ⟨_, Tryz.underlying46⟩
  go_wp2
  exact bodyPost_ret (v := .agg (sgC U (.slice (some ⟨g1, off + 32, none⟩) 32 (c1 - 32)) (.slice a5 32 c5)).toArray) (results_cell_mid Tryz.results29 _ _ w.heap.size (sgC U (.slice (some ⟨g1, off + 32, none⟩) 32 (c1 - 32)) (.slice a5 32 c5)) _ rfl rg hfs rfl sgI) rfl ⟨⟨_, a5, c1 - 32, c5, g1, g5, by rw [HU.out], mE, by omega, by rw [HZS.out]; exact oE, p5, q5, by omega, by omega⟩, NS⟩
def spA (xs : List Int) : List Int := if xs.length = 32 then sgB (sgV (hashL64 xs)) else []
end Go.Proofs.YthonlkghkdjagaaGreatDoor
namespace Go.Proofs.YthonlkghkdjagaaGreatDoor
set_option maxRecDepth 100000
open Go Go.RowKit
structure Lst where
  g : Nat
  a : Option Addr
  c : Nat
  xs : List Int
def cat (ls : List Lst) : List Int := (ls.map Lst.xs).flatten
theorem cat_take (ls : List Lst) (j : Nat) (l : Lst) (h : ls[j]? = some l) : cat (ls.take (j + 1)) = cat (ls.take j) ++ l.xs := by
  unfold cat
  rw [List.take_add_one, h]
  simp
def Lsts (w : World) (b : Nat) (ls : List Lst) : Prop := ∀ j l, ls[j]? = some l → w.cell? ⟨b, j, none⟩ = some (.slice l.a l.xs.length l.c)
theorem Lsts.up {w w' : World} {b : Nat} {ls : List Lst} (h : Lsts w b ls) (n : Below w.heap.size w w') : Lsts w' b ls := fun j l hj => by
  have := h j l hj
  rw [World.cell?_of_block (a := ⟨b, j, none⟩) (n.block b (block_lt_of_cell this))]
  exact this
set_option maxRecDepth 100000 in
set_option maxHeartbeats 1000000 in
theorem grow_any (w : World) (n : Nat) (h0 : 0 < n) (h1 : n ≤ 4194304) :
    Calls Tryz.prog 108 #[.slice none 0 0, .int .i64 (n : Int)] w fun e w' => ∃ v, e = .returned v ∧ RowB w' w.heap.size v [] ∧ Below w.heap.size w w' := by
  obtain ⟨i0, hi, hz0, hz1, hz2⟩ := info_parts Tryz.info5
  have hap := Lib.run_append_nil_zeros (P := Tryz.prog) w 22 3 22 5 i0 (.int .u8 0) .i64 .i64 Tryz.underlying22 Tryz.underlying3 hi hz0 n h0 (by omega) (by omega) (by rw [hz2]; omega)
  have ge := grownCap_ge w n 0 5
  have le : grownCap w n 0 5 ≤ maxLen := grownCap_le_maxLen w n 0 5 (by unfold maxLen; omega)
  have R : RowB (w.drew.alloc (.cells (Builtin.zeroCells (Value.int .u8 0).cells n ++ Builtin.zeroCells (Value.int .u8 0).cells (grownCap w n 0 5 - n)) 5)) w.heap.size (.slice (some ⟨w.heap.size, 0, none⟩) 0 (grownCap w n 0 5)) [] :=
    ⟨rfl, .inr ⟨w.heap.size, grownCap w n 0 5, _, rfl, Nat.le_refl _, _root_.Go.heap_alloc_new w.drew _, Nat.zero_le _, le, by rw [Array.size_append, size_zeroCells, size_zeroCells]; show n * 1 + (grownCap w n 0 5 - n) * 1 = _; omega, by simp⟩⟩
  have nb : Below w.heap.size w (w.drew.alloc (.cells (Builtin.zeroCells (Value.int .u8 0).cells n ++ Builtin.zeroCells (Value.int .u8 0).cells (grownCap w n 0 5 - n)) 5)) := ((Below.refl _ _).drew).alloc (Nat.le_refl _) _
  generalize w.drew.alloc (.cells (Builtin.zeroCells (Value.int .u8 0).cells n ++ Builtin.zeroCells (Value.int .u8 0).cells (grownCap w n 0 5 - n)) 5) = w' at *
  generalize grownCap w n 0 5 = cp at *
  have n0 : decide ((n : Int) < 0) = false := by simp
  have n1 : decide ((0 : Int) < (n : Int)) = true := by simp; omega
  have n2 : decide (0 < n) = true := by simpa using h0
  clear ge le
  go_enter Tryz.func108, Tryz.ntmps108
  go_wp2_with (at_builtin; refine Lib.wpList_append_run _ rfl _ _ 22 3 rfl _ _ rfl rfl _ _ hap ?_)
  go_ret
  exact ⟨_, rfl, R, nb⟩
theorem cat_len_le (ls : List Lst) (j : Nat) : (cat (ls.take j)).length ≤ (cat ls).length := by
  have : cat ls = cat (ls.take j) ++ cat (ls.drop j) := by
    unfold cat
    rw [← List.flatten_append, ← List.map_append, List.take_append_drop]
  rw [this, List.length_append]
  omega
set_option maxRecDepth 100000 in
set_option maxHeartbeats 4000000 in
theorem concat_any (w : World) (b n c : Nat) (ls : List Lst) (hn : ls.length = n) (hm : n ≤ 1000) (hs : Lsts w b ls) (hl : ∀ l ∈ ls, Rd w l.g l.a .u8 l.xs ∧ (l.a = none → l.c = 0)) (h0 : 0 < (cat ls).length) (h1 : (cat ls).length ≤ 4194304) :
    Calls Tryz.prog 64 #[.slice (some ⟨b, 0, none⟩) n c] w fun e w' => NewRow w.heap.size w' e .u8 (cat ls) ∧ Below w.heap.size w w' := by
  obtain ⟨i0, hi, hz0, hz1, hz2⟩ := info_parts Tryz.info5
  have HN := hide hn
  clear hn
  obtain ⟨rs, hrs⟩ : ∃ l, l = cat ls := ⟨_, rfl⟩
  have HR := hide hrs
  rw [← hrs] at h0 h1 ⊢
  clear hrs
  have GR := hide (grow_any w rs.length h0 h1)
  go_enter Tryz.func64, Tryz.ntmps64
  go_wp2
  go_loopw [3, 5, 11] (fun s _ i wr => ∃ (j : Nat), j ≤ n ∧ i = .int .i64 j ∧ s = .int .i64 ((cat (ls.take j)).length : Int) ∧ w = wr) (fun _ _ i _ => n - (intOf i).toNat)
  case atStart => exact ⟨0, Nat.zero_le _, rfl, rfl, rfl⟩
  case round =>
    obtain ⟨j, hj, rfl, rfl, rfl⟩ := hrel
    by_cases hlt : j < n
    · obtain ⟨l, hjl⟩ : ∃ l, ls[j]? = some l := ⟨ls[j]'(by rw [HN.out]; exact hlt), List.getElem?_eq_getElem _⟩
      have cc := hs j l hjl
      have ct := cat_take ls j l hjl
      have lb := cat_len_le ls (j + 1)
      rw [← HR.out, ct, List.length_append] at lb
      have CT : Hid ((cat (ls.take (j + 1))).length = (cat (ls.take j)).length + l.xs.length) := by show _ = _; rw [ct, List.length_append]
      clear ct
      generalize (cat (ls.take j)).length = cj at *
      have jn : (j : Int) < (n : Int) := by omega
      have c0 : decide ((cj : Int) + (l.xs.length : Int) < 0) = false := by simp; omega
      go_wp2
      go_roundw
      case rel => exact ⟨j + 1, by omega, by go_num, by rw [CT.out]; go_num, by trivial⟩
      case measure => simp [intOf]; omega
    · obtain rfl : j = n := by omega
      have e : ls.take j = ls := List.take_of_length_le (by rw [HN.out]; exact Nat.le_refl _)
      rw [e, ← HR.out]
      clear e
      go_wp2_with fail
      refine GR.out.mono ?_
      rintro r w1 ⟨v1, rfl, R1, n1⟩
      go_wp2
      go_loopw [6, 8, 27] (fun v _ i wq => ∃ (k : Nat), k ≤ j ∧ i = .int .i64 k ∧ RowB wq w.heap.size v (cat (ls.take k)) ∧ Below w.heap.size w wq) (fun _ _ i _ => j - (intOf i).toNat)
      case atStart => exact ⟨0, Nat.zero_le _, rfl, R1, n1⟩
      case round =>
        obtain ⟨k, hk, rfl, R, hN⟩ := hrel
        clear R1 n1 GR
        by_cases hlt2 : k < j
        · obtain ⟨l, hjl⟩ : ∃ l, ls[k]? = some l := ⟨ls[k]'(by rw [HN.out]; exact hlt2), List.getElem?_eq_getElem _⟩
          have lm : l ∈ ls := List.mem_of_getElem? hjl
          have cc := (hs.up hN) k l hjl
          have ct := cat_take ls k l hjl
          have lb := cat_len_le ls (k + 1)
          rw [← HR.out, ct, List.length_append] at lb
          obtain ⟨v', w2, hap, o2, n2⟩ := append_any (P := Tryz.prog) wr 22 i0 Tryz.underlying22 hi hz0 hz1 hz2 w.heap.size w.heap.size _ _ R l.g l.a l.c l.xs ((hl l lm).1.up hN) (hl l lm).2 (by omega) (Nat.le_refl _) hN.size
          rw [← ct] at o2
          have N2 := hN.trans n2
          have kj : (k : Int) < (j : Int) := by omega
          clear ct lb R n2
          go_wp2_with (at_builtin; refine Lib.wpList_append_run _ rfl _ _ 22 22 rfl _ _ rfl rfl _ _ hap ?_)
          clear hap
          go_roundw
          case rel => exact ⟨k + 1, by omega, by go_num, o2, N2⟩
          case measure => simp [intOf]; omega
        · obtain rfl : k = j := by omega
          have e : ls.take k = ls := List.take_of_length_le (by rw [HN.out]; exact Nat.le_refl _)
          rw [e, ← HR.out] at R
          obtain ⟨a4, c4, g4, rfl, o4, p4, q4, r4⟩ := R.own
          clear e R
          go_wp2
          go_ret
          exact ⟨⟨a4, c4, g4, rfl, o4, p4, q4, r4⟩, hN⟩
end Go.Proofs.YthonlkghkdjagaaGreatDoor
