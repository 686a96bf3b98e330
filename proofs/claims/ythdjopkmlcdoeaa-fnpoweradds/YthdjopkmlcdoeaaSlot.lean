/-
  A struct variable that a statement lays, whenever its block is made.
-/
import Derived.Test.YthdjopkmlcdoeaaDrawA
namespace Go.Proofs.Ythdjopkmlcdoeaa
open Go.RowKit

theorem Row.up {w w' : World} {g : Nat} {a : Option Addr} {c : Nat} {xs : List Int} (h : Row w g a c xs) (n : Below w.heap.size w w') : Row w' g a c xs := ⟨h.1.up n, h.2⟩
theorem Two.store {w : World} {p : Nat} {x y : Value} (h : Two w p x y) (u v : Value) : Two ((w.setCell ⟨p, 0, none⟩ u).setCell ⟨p, 1, none⟩ v) p u v := by
  have k0 : (w.setCell ⟨p, 0, none⟩ u).cell? ⟨p, 0, none⟩ = some u := World.cell?_setCell_same _ _ _ h.c0
  have k1 : (w.setCell ⟨p, 0, none⟩ u).cell? ⟨p, 1, none⟩ = some y := by rw [World.cell?_setCell_other (h := by simp)]; exact h.c1
  refine ⟨?_, World.cell?_setCell_same _ _ _ k1, ?_, ?_⟩
  · rw [World.cell?_setCell_other (h := by simp)]; exact k0
  · rw [World.frozen?_setCell, World.frozen?_setCell]; exact h.f0
  · rw [World.frozen?_setCell, World.frozen?_setCell]; exact h.f1

/-- A struct of a truth and a row, in a slot; what else holds, KP, still does. -/
def StrAt (KP : World → Prop) (P : List Int → Prop) (sl : Value) (wc : World) : Prop := ∃ (p : Nat) (ps : List Int) (aP : Option Addr) (cP gP : Nat), sl = .pointer (some ⟨p, 0, none⟩) ∧ Two wc p (.bool true) (.slice aP ps.length cP) ∧ Row wc gP aP cP ps ∧ P ps ∧ KP wc
theorem StrAt.last {KP : World → Prop} {P : List Int → Prop} (HU : ∀ W W', KP W → Below W.heap.size W W' → KP W') {w : World} {ps : List Int} {aP : Option Addr} {cP gP : Nat} (K : KP w) (R : Row w gP aP cP ps) (hP : P ps) :
    StrAt KP P (.pointer (some ⟨w.heap.size, 0, none⟩)) (w.alloc (.cells #[.bool true, .slice aP ps.length cP] 31)) := by
  have al : Below w.heap.size w (w.alloc (.cells #[.bool true, .slice aP ps.length cP] 31)) := (Below.refl _ _).alloc (Nat.le_refl _) _
  exact ⟨_, ps, aP, cP, gP, rfl, Two.new _ _ _ _, R.up al, hP, HU _ _ K al⟩
theorem StrAt.early {KP : World → Prop} {P : List Int → Prop} (HU : ∀ W W', KP W → Below W.heap.size W W' → KP W') {W w : World} {ps : List Int} {aP : Option Addr} {cP gP : Nat} {x y : Value} (K : KP W) (n : Below W.heap.size W w) (T : Two w W.heap.size x y) (R : Row w gP aP cP ps) (hg : W.heap.size < gP) (hP : P ps) :
    StrAt KP P (.pointer (some ⟨W.heap.size, 0, none⟩)) ((w.setCell ⟨W.heap.size, 0, none⟩ (.bool true)).setCell ⟨W.heap.size, 1, none⟩ (.slice aP ps.length cP)) := by
  have O := (Only.setCell w W.heap.size 0 (.bool true)).trans (Only.setCell _ W.heap.size 1 (.slice aP ps.length cP))
  exact ⟨_, ps, aP, cP, gP, rfl, T.store _ _, ⟨R.1.only O (fun _ => by omega), R.2⟩, hP, HU _ _ K (n.trans (O.below (Nat.le_refl _)))⟩
theorem sz_alloc (w : World) (x y : Value) (t : TypeId) : (w.alloc (.cells #[x, y] t)).heap.size = w.heap.size + 1 := by simp
theorem bl_alloc (w : World) (x y : Value) (t : TypeId) : Below w.heap.size w (w.alloc (.cells #[x, y] t)) := (Below.refl _ _).alloc (Nat.le_refl _) _
end Go.Proofs.Ythdjopkmlcdoeaa
