
/-
  A hash on its way that stands within a block, from a place on. No program in sight.
-/
import Derived.Test.YtnfciobpfiibcaaDoorHsH
namespace Go.Proofs.YtnfciobpfiibcaaDoor
set_option maxRecDepth 100000
open Go Go.RowKit

structure HBo (k : IntKind) (w : World) (q o : Nat) (L : Int) (C : S8) (R : List Int) : Prop where
  len : R.length = 128
  c0 : w.cell? ⟨q, o, none⟩ = some (.int .i64 L)
  f0 : w.frozen? ⟨q, o, none⟩ = false
  ch : Seg w q (o + 1) k C.l
  rs : Seg w q (o + 9) .u8 R
theorem HB.at0 {k : IntKind} {w : World} {q : Nat} {L : Int} {C : S8} {R : List Int} (h : HB k w q L C R) : HBo k w q 0 L C R := ⟨h.len, h.c0, h.f0, h.ch, h.rs⟩
theorem HBo.to0 {k : IntKind} {w : World} {q : Nat} {L : Int} {C : S8} {R : List Int} (h : HBo k w q 0 L C R) : HB k w q L C R := ⟨h.len, h.c0, h.f0, h.ch, h.rs⟩
section
variable {k : IntKind} {w w' : World} {q o : Nat} {L : Int} {C : S8} {R : List Int}
theorem HBo.lt (h : HBo k w q o L C R) : q < w.heap.size := block_lt_of_cell h.c0
theorem HBo.of_cells (h : HBo k w q o L C R) (hb : ∀ j, o ≤ j → j < o + 137 → w'.cell? ⟨q, j, none⟩ = w.cell? ⟨q, j, none⟩ ∧ w'.frozen? ⟨q, j, none⟩ = w.frozen? ⟨q, j, none⟩) : HBo k w' q o L C R :=
  ⟨h.len, (hb o (Nat.le_refl _) (by omega)).1.trans h.c0, (hb o (Nat.le_refl _) (by omega)).2.trans h.f0,
   fun i hi => by
    have := hb (o + 1 + i) (by omega) (by rw [S8.l_len] at hi; omega)
    exact ⟨this.1.trans (h.ch i hi).1, this.2.trans (h.ch i hi).2⟩,
   fun i hi => by
    have := hb (o + 9 + i) (by omega) (by rw [h.len] at hi; omega)
    exact ⟨this.1.trans (h.rs i hi).1, this.2.trans (h.rs i hi).2⟩⟩
theorem HBo.of_block (h : HBo k w q o L C R) (hb : w'.heap[q]? = w.heap[q]?) : HBo k w' q o L C R :=
  h.of_cells fun j _ _ => ⟨World.cell?_of_block (a := ⟨q, j, none⟩) hb, World.frozen?_of_block (a := ⟨q, j, none⟩) hb⟩
theorem HBo.up (h : HBo k w q o L C R) (n : Below w.heap.size w w') : HBo k w' q o L C R := h.of_block (n.block q h.lt)
theorem HBo.range (h : HBo k w q o L C R) : w.rangeAt q o (hcl k L C R) := by
  intro j v hv
  unfold hcl at hv
  cases j with
  | zero =>
    simp at hv
    subst hv
    exact h.c0
  | succ j =>
    rw [List.getElem?_cons_succ] at hv
    by_cases c : j < 8
    · rw [List.getElem?_append_left (by rw [List.length_map, S8.l_len]; exact c)] at hv
      rw [show o + (j + 1) = o + 1 + j by omega]
      exact h.ch.range j v hv
    · rw [List.getElem?_append_right (by rw [List.length_map, S8.l_len]; omega), List.length_map, S8.l_len] at hv
      rw [show o + (j + 1) = o + 9 + (j - 8) by omega]
      exact h.rs.range (j - 8) v hv
theorem HBo.there (h : HBo k w q o L C R) : w.there q o 137 := by
  intro j hj
  cases j with
  | zero => exact ⟨by rw [Nat.add_zero, h.c0]; rfl, h.f0⟩
  | succ j =>
    by_cases c : j < 8
    · have := h.ch j (by rw [S8.l_len]; exact c)
      rw [show o + 1 + j = o + (j + 1) by omega] at this
      exact ⟨by rw [this.1]; rfl, this.2⟩
    · have := h.rs (j - 8) (by rw [h.len]; omega)
      rw [show o + 9 + (j - 8) = o + (j + 1) by omega] at this
      exact ⟨by rw [this.1]; rfl, this.2⟩
theorem HBo.of_range (hl : R.length = 128) (rg : w.rangeAt q o (hcl k L C R)) (th : w.there q o 137) : HBo k w q o L C R := by
  have f : ∀ j, j < 137 → w.frozen? ⟨q, o + j, none⟩ = false := fun j hj => (th j hj).2
  refine ⟨hl, rg 0 _ rfl, f 0 (by omega), fun i hi => ⟨?_, ?_⟩, fun i hi => ⟨?_, ?_⟩⟩
  · have := rg (i + 1) (.int k (C.l.getD i 0)) (by
      unfold hcl
      rw [List.getElem?_cons_succ, List.getElem?_append_left (by rw [List.length_map]; exact hi)]
      simp [hi])
    rwa [show o + (i + 1) = o + 1 + i by omega] at this
  · have := f (i + 1) (by rw [S8.l_len] at hi; omega)
    rwa [show o + (i + 1) = o + 1 + i by omega] at this
  · have := rg (i + 9) (.int .u8 (R.getD i 0)) (by
      unfold hcl
      rw [show i + 9 = (i + 8) + 1 by omega, List.getElem?_cons_succ, List.getElem?_append_right (by rw [List.length_map, S8.l_len]; omega), List.length_map, S8.l_len, Nat.add_sub_cancel]
      simp [hi])
    rwa [show o + (i + 9) = o + 9 + i by omega] at this
  · have := f (i + 9) (by omega)
    rwa [show o + (i + 9) = o + 9 + i by omega] at this
theorem HBo.setL (h : HBo k w q o L C R) (L' : Int) : HBo k (w.setCell ⟨q, o, none⟩ (.int .i64 L')) q o L' C R := by
  refine ⟨h.len, World.cell?_setCell_same _ _ _ h.c0, by rw [frozen_setCell]; exact h.f0, fun i hi => ⟨?_, by rw [frozen_setCell]; exact (h.ch i hi).2⟩, fun i hi => ⟨?_, by rw [frozen_setCell]; exact (h.rs i hi).2⟩⟩
  · rw [World.cell?_setCell_other (h := fun h => by simp only [Addr.mk.injEq, true_and, and_true] at h; omega)]
    exact (h.ch i hi).1
  · rw [World.cell?_setCell_other (h := fun h => by simp only [Addr.mk.injEq, true_and, and_true] at h; omega)]
    exact (h.rs i hi).1
theorem HBo.setC (h : HBo k w q o L C R) (C' : S8) : HBo k (w.setCells q (o + 1) (C'.l.map (Value.int k))) q o L C' R := by
  have l8 : (C'.l.map (Value.int k)).length = 8 := by rw [List.length_map, S8.l_len]
  have sm := World.rangeAt_setCells_same w q (o + 1) (C'.l.map (Value.int k)) (by
    rw [l8]
    intro j hj
    have := h.ch j (by rw [S8.l_len]; exact hj)
    exact ⟨by rw [this.1]; rfl, this.2⟩)
  refine ⟨h.len, cell_out h.c0 (.inl (by omega)), by rw [setCells_frozen]; exact h.f0, fun i hi => ⟨?_, ?_⟩, fun i hi => ⟨cell_out (h.rs i hi).1 (.inr (by rw [l8]; omega)), by rw [setCells_frozen]; exact (h.rs i hi).2⟩⟩
  · exact sm i _ (by simp [hi])
  · rw [setCells_frozen]
    exact (h.ch i (by rw [S8.l_len] at hi ⊢; exact hi)).2
theorem HBo.setR (h : HBo k w q o L C R) (r : Nat) (xs : List Int) (hr : r + xs.length ≤ 128) : HBo k (w.setCells q (o + 9 + r) (xs.map (Value.int .u8))) q o L C (lay R r xs) := by
  have hl := h.len
  have lx : (xs.map (Value.int .u8)).length = xs.length := List.length_map _
  have sm := World.rangeAt_setCells_same w q (o + 9 + r) (xs.map (Value.int .u8)) (by
    rw [lx]
    intro j hj
    have := h.rs (r + j) (by omega)
    rw [show o + 9 + (r + j) = o + 9 + r + j by omega] at this
    exact ⟨by rw [this.1]; rfl, this.2⟩)
  refine ⟨by rw [lay_len (by omega)]; exact hl, cell_out h.c0 (.inl (by omega)), by rw [setCells_frozen]; exact h.f0, fun i hi => ⟨cell_out (h.ch i hi).1 (.inl (by rw [S8.l_len] at hi; omega)), by rw [setCells_frozen]; exact (h.ch i hi).2⟩, fun i hi => ?_⟩
  rw [lay_len (by omega)] at hi
  refine ⟨?_, by rw [setCells_frozen]; exact (h.rs i hi).2⟩
  unfold lay
  have tl : (R.take r).length = r := by rw [List.length_take]; omega
  by_cases c1 : i < r
  · rw [getD_apd_left _ _ _ (by omega)]
    have e : (R.take r).getD i 0 = R.getD i 0 := by rw [List.getD_eq_getElem?_getD, List.getD_eq_getElem?_getD, List.getElem?_take, if_pos c1]
    rw [e]
    exact cell_out (h.rs i hi).1 (.inl (by omega))
  · rw [getD_apd_right _ _ _ (by omega), tl]
    by_cases c2 : i - r < xs.length
    · rw [getD_apd_left _ _ _ c2]
      have := sm (i - r) (.int .u8 (xs.getD (i - r) 0)) (by simp [c2])
      rwa [show o + 9 + r + (i - r) = o + 9 + i by omega] at this
    · rw [getD_apd_right _ _ _ (by omega), List.getD_eq_getElem?_getD, List.getElem?_drop, show r + xs.length + (i - r - xs.length) = i by omega, ← List.getD_eq_getElem?_getD]
      exact cell_out (h.rs i hi).1 (.inr (by rw [lx]; omega))
end
/-- All that was there but the 137 cells of q from o on is as it was. -/
structure Bx (q o : Nat) (w w' : World) : Prop where
  bt : Bth q w w'
  out : ∀ j, (j < o ∨ o + 137 ≤ j) → w'.cell? ⟨q, j, none⟩ = w.cell? ⟨q, j, none⟩ ∧ w'.frozen? ⟨q, j, none⟩ = w.frozen? ⟨q, j, none⟩
theorem Bx.refl (q o : Nat) (w : World) : Bx q o w w := ⟨Bth.refl _ _, fun _ _ => ⟨rfl, rfl⟩⟩
theorem Bx.drewN (q o : Nat) (w : World) (n : Nat) : Bx q o w (w.drewN n) := ⟨⟨rfl, rfl, rfl, Nat.le_refl _, fun _ _ _ => rfl⟩, fun _ _ => ⟨rfl, rfl⟩⟩
theorem Bx.trans {q o : Nat} {a b c : World} (h : Bx q o a b) (k : Bx q o b c) : Bx q o a c :=
  ⟨h.bt.trans k.bt, fun j hj => ⟨(k.out j hj).1.trans (h.out j hj).1, (k.out j hj).2.trans (h.out j hj).2⟩⟩
theorem Bx.of_below {q o : Nat} {a b : World} (h : Below a.heap.size a b) (hq : q < a.heap.size) : Bx q o a b :=
  ⟨Bth.of_below h, fun j _ => ⟨World.cell?_of_block (a := ⟨q, j, none⟩) (h.block q hq), World.frozen?_of_block (a := ⟨q, j, none⟩) (h.block q hq)⟩⟩
theorem cells_out (w : World) (q : Nat) : ∀ (vs : List Value) (o j : Nat), (j < o ∨ o + vs.length ≤ j) → (w.setCells q o vs).cell? ⟨q, j, none⟩ = w.cell? ⟨q, j, none⟩ := by
  intro vs
  induction vs generalizing w with
  | nil => intro o j _; rfl
  | cons v vs ih =>
    intro o j hj
    rw [List.length_cons] at hj
    show ((w.setCell ⟨q, o, none⟩ v).setCells q (o + 1) vs).cell? _ = _
    rw [ih (w.setCell ⟨q, o, none⟩ v) (o + 1) j (by omega), World.cell?_setCell_other (h := fun h => by simp only [Addr.mk.injEq, true_and, and_true] at h; omega)]
theorem Bx.cells {q o : Nat} (w : World) (p : Nat) (vs : List Value) (h1 : o ≤ p) (h2 : p + vs.length ≤ o + 137) : Bx q o w (w.setCells q p vs) :=
  ⟨Bth.of_only (only_setCells w q vs p), fun j hj => ⟨cells_out w q vs p j (by omega), setCells_frozen _ _ _ _ _⟩⟩
theorem Bx.setL {q o : Nat} (w : World) (v : Value) : Bx q o w (w.setCell ⟨q, o, none⟩ v) := Bx.cells w o [v] (Nat.le_refl _) (by simp)
theorem HBo.bx {k : IntKind} {w w' : World} {q o p : Nat} {L : Int} {C : S8} {R : List Int} (h : HBo k w q p L C R) (b : Bx q o w w') (hp : p + 137 ≤ o ∨ o + 137 ≤ p) : HBo k w' q p L C R :=
  h.of_cells fun j h1 h2 => b.out j (by omega)
end Go.Proofs.YtnfciobpfiibcaaDoor
