
/-
  Rows of texts that are read; the laws' helpers on them.
-/
import Derived.Test.YtpbniihhpfbamaaDoorNmC
namespace Go.Proofs.YtpbniihhpfbamaaDoor
set_option maxRecDepth 100000
open Go Go.RowKit

/-- The cells of a row of texts that is read: if it has elements, they lie in block g. -/
def RdT (w : World) (g : Nat) (a : Option Addr) (ls : List (List UInt8)) : Prop :=
  0 < ls.length → ∃ off, a = some ⟨g, off, none⟩ ∧ ∀ i, i < ls.length → w.cell? ⟨g, off + i, none⟩ = some (tx (ls.getD i []))
theorem RdT.nil (w : World) (g : Nat) (a : Option Addr) : RdT w g a [] := fun h => absurd h (by simp)
theorem RdT.lt {w : World} {g : Nat} {a : Option Addr} {ls : List (List UInt8)} (h : RdT w g a ls) (h0 : 0 < ls.length) : g < w.heap.size := by
  obtain ⟨off, ha, hc⟩ := h h0
  exact block_lt_of_cell (hc 0 h0)
theorem RdT.of_block {w w' : World} {g : Nat} {a : Option Addr} {ls : List (List UInt8)} (h : RdT w g a ls) (hb : w'.heap[g]? = w.heap[g]?) : RdT w' g a ls := by
  intro h0
  obtain ⟨off, ha, hc⟩ := h h0
  exact ⟨off, ha, fun i hi => (World.cell?_of_block (a := ⟨g, off + i, none⟩) hb).trans (hc i hi)⟩
theorem RdT.up {w w' : World} {g : Nat} {a : Option Addr} {ls : List (List UInt8)} (h : RdT w g a ls) (hb : Below w.heap.size w w') : RdT w' g a ls := by
  by_cases h0 : 0 < ls.length
  · exact h.of_block (hb.block g (h.lt h0))
  · exact fun h1 => absurd h1 h0
/-- Block g holds just these texts. -/
def BlkT (w : World) (g : Nat) (ls : List (List UInt8)) : Prop := w.heap[g]? = some (.cells (ls.map tx).toArray 9 (0, 0))
theorem BlkT.lt {w : World} {g : Nat} {ls : List (List UInt8)} (h : BlkT w g ls) : g < w.heap.size := (Array.getElem?_eq_some_iff.1 h).1
theorem BlkT.cell {w : World} {g : Nat} {ls : List (List UInt8)} (h : BlkT w g ls) {i : Nat} (hi : i < ls.length) : w.cell? ⟨g, i, none⟩ = some (tx (ls.getD i [])) := by
  rw [cell_of_row w g i _ 9 (0, 0) h]
  simp [hi]
theorem BlkT.free {w : World} {g : Nat} {ls : List (List UInt8)} (h : BlkT w g ls) (i : Nat) : w.frozen? ⟨g, i, none⟩ = false := frozen_of_row w g i _ 9 h
theorem BlkT.store {w : World} {g : Nat} {ls : List (List UInt8)} (h : BlkT w g ls) (i : Nat) (z : List UInt8) : BlkT (w.setCell ⟨g, i, none⟩ (tx z)) g (ls.set i z) := by
  show _ = _
  rw [heap_setCell_same w g i _ 9 _ h]
  simp [List.map_set]
theorem BlkT.rd {w : World} {g : Nat} {ls : List (List UInt8)} (h : BlkT w g ls) : RdT w g (some ⟨g, 0, none⟩) ls := fun _ => ⟨0, rfl, fun i hi => by rw [Nat.zero_add]; exact h.cell hi⟩
theorem BlkT.up {w w' : World} {g : Nat} {ls : List (List UInt8)} (h : BlkT w g ls) (hb : Below w.heap.size w w') : BlkT w' g ls := (hb.block g h.lt).trans h
theorem BlkT.of_made {w : World} {base : Nat} {g n : Nat} (h : w.ownsRow base 9 1 (.slice (some ⟨g, 0, none⟩) n n) n (madeCells (Value.string ⟨#[]⟩).cells (n * 1)).toList) : BlkT w g (List.replicate n []) := by
  rcases h.2 with ⟨h', _⟩ | ⟨g', cap', cur, h', _, hg, _, _, hcs, htake⟩
  · simp at h'
  · simp only [Value.slice.injEq, Option.some.injEq, Addr.mk.injEq, and_true, true_and] at h'
    obtain ⟨rfl, rfl⟩ := h'
    show _ = _
    rw [hg]
    have : cur = ((List.replicate n ([] : List UInt8)).map tx).toArray := by
      apply Array.ext'
      rw [List.take_of_length_le (by rw [Array.length_toList, hcs]; exact Nat.le_refl _)] at htake
      rw [htake]
      apply List.ext_getElem
      · simp [madeCells]
      · intro i h1 h2
        simp [madeCells, Value.cells, tx, Nat.mod_one]
    rw [this]
def CopT (xs ys : List (List UInt8)) (k : Nat) : Prop := ys.length = xs.length ∧ ys.take k = xs.take k
theorem CopT.step {xs ys : List (List UInt8)} {k : Nat} (h : CopT xs ys k) (hk : k < xs.length) : CopT xs (ys.set k (xs.getD k [])) (k + 1) := by
  refine ⟨by simpa using h.1, ?_⟩
  have hk' : k < ys.length := by rw [h.1]; exact hk
  rw [List.take_succ_eq_append_getElem (by simpa using hk'), List.take_succ_eq_append_getElem hk, List.take_set]
  rw [List.getElem_set_self, List.set_eq_of_length_le (by rw [List.length_take]; omega), h.2]
  simp [hk]

/-- The bytes of all texts. -/
def sumT (ls : List (List UInt8)) : Nat := ls.foldr (fun l s => l.length + s) 0
theorem sumT_cons (l : List UInt8) (ls : List (List UInt8)) : sumT (l :: ls) = l.length + sumT ls := rfl
theorem sumT_app (x y : List (List UInt8)) : sumT (x ++ y) = sumT x + sumT y := by
  induction x with
  | nil => simp [sumT]
  | cons a x ih => rw [List.cons_append, sumT_cons, sumT_cons, ih, Nat.add_assoc]
theorem sumT_take {ls : List (List UInt8)} {k : Nat} (h : k < ls.length) : sumT (ls.take (k + 1)) = sumT (ls.take k) + (ls.getD k []).length := by
  have e : ls.take (k + 1) = ls.take k ++ [ls.getD k []] := by
    rw [List.take_succ_eq_append_getElem h]
    congr 2
    simp [h]
  rw [e, sumT_app]
  simp [sumT]
theorem sumT_le {ls : List (List UInt8)} (k : Nat) : sumT (ls.take k) ≤ sumT ls := by
  have := sumT_app (ls.take k) (ls.drop k)
  rw [List.take_append_drop] at this
  omega
theorem sumT_mem {ls : List (List UInt8)} {l : List UInt8} (h : l ∈ ls) : l.length ≤ sumT ls := by
  induction ls with
  | nil => cases h
  | cons a ls ih =>
    rw [sumT_cons]
    rcases List.mem_cons.1 h with rfl | h
    · omega
    · have := ih h
      omega
/-- What is left of a number of places. -/
def leftT (L : Int) (ls : List (List UInt8)) : Int := if L < (ls.length : Int) + (sumT ls : Int) then -1 else L - ls.length - sumT ls
theorem leftT_ge (L : Int) (ls : List (List UInt8)) : -1 ≤ leftT L ls := by
  unfold leftT
  split <;> omega
end Go.Proofs.YtpbniihhpfbamaaDoor
