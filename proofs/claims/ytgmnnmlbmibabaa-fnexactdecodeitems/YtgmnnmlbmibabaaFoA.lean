
/-
  Blocks of four cells; answers of four parts.
-/
import Derived.Test.YtgmnnmlbmibabaaCuT
import Derived.Deep.MidRow
namespace Go.Proofs.Ytgmnnmlbmibabaa
open Go Go.RowKit

/-- A block of four cells. -/
def Fo (w : World) (p : Nat) (x y z u : Value) : Prop := ∃ t, w.heap[p]? = some (.cells #[x, y, z, u] t (0, 0))
theorem Fo.c0 {w : World} {p : Nat} {x y z u : Value} (h : Fo w p x y z u) : w.cell? ⟨p, 0, none⟩ = some x := by
  obtain ⟨t, h⟩ := h
  simp [World.cell?, h]
theorem Fo.c1 {w : World} {p : Nat} {x y z u : Value} (h : Fo w p x y z u) : w.cell? ⟨p, 1, none⟩ = some y := by
  obtain ⟨t, h⟩ := h
  simp [World.cell?, h]
theorem Fo.c2 {w : World} {p : Nat} {x y z u : Value} (h : Fo w p x y z u) : w.cell? ⟨p, 2, none⟩ = some z := by
  obtain ⟨t, h⟩ := h
  simp [World.cell?, h]
theorem Fo.c3 {w : World} {p : Nat} {x y z u : Value} (h : Fo w p x y z u) : w.cell? ⟨p, 3, none⟩ = some u := by
  obtain ⟨t, h⟩ := h
  simp [World.cell?, h]
theorem Fo.fr {w : World} {p : Nat} {x y z u : Value} (h : Fo w p x y z u) (i : Nat) : w.frozen? ⟨p, i, none⟩ = false := by
  obtain ⟨t, h⟩ := h
  simp [World.frozen?, h]
theorem Fo.lt {w : World} {p : Nat} {x y z u : Value} (h : Fo w p x y z u) : p < w.heap.size := by
  obtain ⟨t, h⟩ := h
  exact (Array.getElem?_eq_some_iff.1 h).1
theorem Fo.of_block {w w' : World} {p : Nat} {x y z u : Value} (h : Fo w p x y z u) (hb : w'.heap[p]? = w.heap[p]?) : Fo w' p x y z u := by
  obtain ⟨t, h⟩ := h
  exact ⟨t, hb.trans h⟩
theorem Fo.up {w w' : World} {p : Nat} {x y z u : Value} (h : Fo w p x y z u) (n : Below w.heap.size w w') : Fo w' p x y z u := h.of_block (n.block p h.lt)
theorem Fo.only {w w' : World} {p q : Nat} {x y z u : Value} (h : Fo w p x y z u) (n : Only q w w') (hne : p ≠ q) : Fo w' p x y z u := h.of_block (n.block p hne)
theorem Fo.kp {w w' : World} {p q : Nat} {x y z u : Value} (h : Fo w p x y z u) (n : Kp q w w') (hne : p ≠ q) : Fo w' p x y z u := h.of_block (n.block p h.lt hne)
/-- All four set. -/
def set4 (w : World) (p : Nat) (x y z u : Value) : World := (((w.setCell ⟨p, 0, none⟩ x).setCell ⟨p, 1, none⟩ y).setCell ⟨p, 2, none⟩ z).setCell ⟨p, 3, none⟩ u
theorem set_row (w : World) (p i : Nat) (cs : Array Value) (t : TypeId) (v : Value) (h : w.heap[p]? = some (.cells cs t (0, 0))) : (w.setCell ⟨p, i, none⟩ v).heap[p]? = some (.cells (cs.setIfInBounds i v) t (0, 0)) := by
  show (w.heap.modify p _)[p]? = _
  rw [Array.getElem?_modify, if_pos rfl, h]
  rfl
theorem Fo.set {w : World} {p : Nat} {x y z u : Value} (h : Fo w p x y z u) (x' y' z' u' : Value) : Fo (set4 w p x' y' z' u') p x' y' z' u' := by
  obtain ⟨t, h⟩ := h
  refine ⟨t, ?_⟩
  have g := set_row _ p 3 _ t u' (set_row _ p 2 _ t z' (set_row _ p 1 _ t y' (set_row w p 0 _ t x' h)))
  simp only [List.setIfInBounds_toArray, List.set_cons_zero, List.set_cons_succ] at g
  exact g
theorem only_set4 (w : World) (p : Nat) (x y z u : Value) : Only p w (set4 w p x y z u) := (((Only.setCell _ _ _ _).trans (Only.setCell _ _ _ _)).trans (Only.setCell _ _ _ _)).trans (Only.setCell _ _ _ _)
theorem Fo.new (w : World) (x y z u : Value) (t : TypeId) : Fo (w.alloc (.cells #[x, y, z, u] t)) w.heap.size x y z u := by
  refine ⟨t, ?_⟩
  show (w.heap.push _)[w.heap.size]? = _
  simp

theorem Fo.there {w : World} {p : Nat} {x y z u : Value} (h : Fo w p x y z u) : w.there p 0 4 := fun j hj => by
  refine ⟨?_, h.fr _⟩
  rw [Nat.zero_add]
  obtain rfl | rfl | rfl | rfl : j = 0 ∨ j = 1 ∨ j = 2 ∨ j = 3 := by omega
  · rw [h.c0]; rfl
  · rw [h.c1]; rfl
  · rw [h.c2]; rfl
  · rw [h.c3]; rfl
/-- A truth, a tag, a list that the call made, and the next place. -/
def NewT (B : Nat) (w' : World) (e : Ending) (b : Bool) (t : Int) (ys : List Int) (n : Int) : Prop :=
  ∃ (a : Option Addr) (c g : Nat), e = .returned (.agg #[.bool b, .int .i64 t, .slice a ys.length c, .int .i64 n]) ∧ Own w' g a .u8 ys ∧ (a = none → c = 0) ∧ ys.length ≤ c ∧ B ≤ g
end Go.Proofs.Ytgmnnmlbmibabaa
