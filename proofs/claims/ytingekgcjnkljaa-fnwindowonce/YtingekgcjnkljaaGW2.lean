import Derived.Test.YtingekgcjnkljaaRows
import Derived.Test.YtingekgcjnkljaaGW1
import Derived.WalkSpells
import Derived.Deep.QuietTactic
import Derived.BigQuiet
import Derived.Deep.DeepCutAuto
import Derived.Deep.MidRow

/-
  The contracts of the laws' own helpers on bytes.
-/
namespace Go.Proofs.Ytingekgcjnkljaa
open Go.RowKit

theorem Try.info5 : (Try.prog.info? 5).map (fun i => (i.zero, i.size, i.bytes)) = some (some (.int .u8 0), 1, 1) := by kernel_rfl

/-- The first k places of ys are those of xs. -/
def CopyTo (xs ys : List Int) (k : Nat) : Prop := ys.length = xs.length ∧ ∀ j, j < k → ys.getD j 0 = xs.getD j 0
theorem CopyTo.zero (xs : List Int) : CopyTo xs (List.replicate xs.length 0) 0 := ⟨by simp, fun j h => absurd h (by omega)⟩
theorem CopyTo.step {xs ys : List Int} {k : Nat} (h : CopyTo xs ys k) (hk : k < xs.length) : CopyTo xs (ys.set k (xs.getD k 0)) (k + 1) := by
  refine ⟨by simpa using h.1, fun j hj => ?_⟩
  by_cases e : k = j
  · subst e
    rw [getD_set_self _ _ _ (by rw [h.1]; exact hk)]
  · rw [getD_set_ne _ _ _ _ e]
    exact h.2 j (by omega)
theorem CopyTo.all {xs ys : List Int} (h : CopyTo xs ys xs.length) : ys = xs := eq_of_getD h.1 (fun i hi => h.2 i (by rw [← h.1]; exact hi))

/-- What is marked: k, k + 1, .. as bytes. -/
def marks (k : Int) (n : Nat) : List Int := (List.range n).map fun i : Nat => (k + (i : Int)) % 256
theorem marks_len (k : Int) (n : Nat) : (marks k n).length = n := by simp [marks]
theorem marks_get (k : Int) (n i : Nat) (h : i < n) : (marks k n).getD i 0 = (k + (i : Int)) % 256 := by simp [marks, h]

/-- The first j places of ys are marked. -/
def MarkTo (k : Int) (ys : List Int) (n j : Nat) : Prop := ys.length = n ∧ ∀ i, i < j → ys.getD i 0 = (k + (i : Int)) % 256
theorem MarkTo.step {k : Int} {ys : List Int} {n j : Nat} (h : MarkTo k ys n j) (hj : j < n) : MarkTo k (ys.set j ((k + (j : Int)) % 256)) n (j + 1) := by
  refine ⟨by simpa using h.1, fun i hi => ?_⟩
  by_cases e : j = i
  · subst e
    rw [getD_set_self _ _ _ (by rw [h.1]; exact hj)]
  · rw [getD_set_ne _ _ _ _ e]
    exact h.2 i (by omega)
theorem MarkTo.all {k : Int} {ys : List Int} {n : Nat} (h : MarkTo k ys n n) : ys = marks k n :=
  eq_of_getD (by rw [h.1, marks_len]) (fun i hi => by rw [h.1] at hi; rw [h.2 i hi, marks_get k n i hi])

end Go.Proofs.Ytingekgcjnkljaa

/-
  The laws' count of a list's bytes.
-/
namespace Go.Proofs.Ytingekgcjnkljaa
open Go Go.RowKit

end Go.Proofs.Ytingekgcjnkljaa

/-
  The laws' helpers on marks: counted, copied, held against each other; one mark.
-/
namespace Go.Proofs.Ytingekgcjnkljaa
open Go Go.RowKit

/-- A mark: its id and its end. -/
structure Mrk where
  id : List Int
  un : Int
def mrk0 : Mrk := ⟨[], 0⟩
/-- Where a list lies. -/
structure Plm where
  a : Option Addr
  c : Nat
  q : Nat
def plm0 : Plm := ⟨none, 0, 0⟩
/-- A row of marks that may be read. -/
structure RdK (w : World) (g : Nat) (a : Option Addr) (ms : List Mrk) (ps : List Plm) : Prop where
  r : 0 < ms.length → ∃ off, a = some ⟨g, off, none⟩ ∧ ∀ i, i < ms.length → w.cell? ⟨g, off + i * 2, none⟩ = some (.slice (ps.getD i plm0).a (ms.getD i mrk0).id.length (ps.getD i plm0).c) ∧ w.cell? ⟨g, off + i * 2 + 1, none⟩ = some (.int .i64 (ms.getD i mrk0).un)
  b : ∀ i, i < ms.length → Rd w (ps.getD i plm0).q (ps.getD i plm0).a .u8 (ms.getD i mrk0).id
theorem RdK.up {w w' : World} {g : Nat} {a : Option Addr} {ms : List Mrk} {ps : List Plm} (h : RdK w g a ms ps) (n : Below w.heap.size w w') : RdK w' g a ms ps :=
  ⟨fun h0 => by
    obtain ⟨off, e, hc⟩ := h.r h0
    exact ⟨off, e, fun i hi => ⟨(n.cell (block_lt_of_cell (hc i hi).1)).trans (hc i hi).1, (n.cell (block_lt_of_cell (hc i hi).2)).trans (hc i hi).2⟩⟩,
   fun i hi => (h.b i hi).up n⟩
/-- What is left of a number behind a count, or -1. -/
def LftK (L : Int) (n : Int) (r : Int) : Prop := (L < n ∧ r = -1) ∨ (n ≤ L ∧ r = L - n)
theorem iMk : (Try.prog.info? 36).map (·.size) = some 2 := by kernel_rfl
theorem rowMk : ∃ d, Try.prog.underlying 36 = some d ∧ d.isRow = true := ⟨_, Try.underlying36, rfl⟩
theorem oneMk (a : Option Addr) (n c : Nat) (un : Int) : ([.slice a n c, .int .i64 un] : List Value).toArray.all (·.oneCell') = true := all_oneCell_toArray fun v hv => by
  simp only [List.mem_cons, List.not_mem_nil, or_false] at hv
  rcases hv with rfl | rfl
  all_goals rfl
end Go.Proofs.Ytingekgcjnkljaa
