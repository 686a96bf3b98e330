
/-
  The law's own helpers on rows of records: markRecordS, heldRecordS.
-/
import Derived.Test.YtjfggcefdobooaaDoorCrE
namespace Go.Proofs.YtjfggcefdobooaaDoor
set_option maxRecDepth 100000
open Go Go.RowKit

/-- The number that an item's tag is marked with. -/
def psI (its : List (Int × List Int)) (n : Int) : Nat → Int
  | 0 => n
  | k + 1 => psI its n k + 1 + ((its.getD k (0, [])).2.length : Int)
theorem psI_bd {its : List (Int × List Int)} {n : Int} (h0 : 0 ≤ n) (hn : ∀ i, i < its.length → (its.getD i (0, [])).2.length ≤ 2321) : ∀ k, k ≤ its.length → 0 ≤ psI its n k ∧ psI its n k ≤ n + (k : Int) * 2322
  | 0, _ => by simp [psI, h0]
  | k + 1, h => by
    have := psI_bd h0 hn k (by omega)
    have := hn k (by omega)
    simp only [psI]
    omega
/-- What lies below B and from M on has not turned. -/
structure Btw (B M : Nat) (w w' : World) : Prop where
  os : w'.os = w.os
  tape : w'.tape = w.tape
  output : w'.output = w.output
  size : w'.heap.size = w.heap.size
  block : ∀ k, k < B ∨ M ≤ k → w'.heap[k]? = w.heap[k]?
theorem Btw.refl (B M : Nat) (w : World) : Btw B M w w := ⟨rfl, rfl, rfl, rfl, fun _ _ => rfl⟩
theorem Btw.trans {B M : Nat} {a b c : World} (h : Btw B M a b) (k : Btw B M b c) : Btw B M a c := ⟨k.os.trans h.os, k.tape.trans h.tape, k.output.trans h.output, k.size.trans h.size, fun i hi => (k.block i hi).trans (h.block i hi)⟩
theorem Btw.only {B M p : Nat} {a b c : World} (h : Btw B M a b) (k : Only p b c) (h1 : B ≤ p) (h2 : p < M) : Btw B M a c := h.trans ⟨k.os, k.tape, k.output, k.size, fun i hi => k.block i (by omega)⟩
theorem Btw.drew {B M : Nat} {a b : World} (h : Btw B M a b) (n : Nat) : Btw B M a (b.drewN n) := ⟨h.os, h.tape, h.output, h.size, h.block⟩
/-- The blocks of a row and of its lists. -/
def rowS (v : Value) (its : List (Int × List Int)) (bs : List Plc) (p : Nat) : Prop := v.ownBlock = some p ∨ ∃ i, i < its.length ∧ 0 < (its.getD i (0, [])).2.length ∧ (bs.getD i plc0).q = p
/-- What lies outside these blocks has not turned. -/
structure Bsx (S : Nat → Prop) (w w' : World) : Prop where
  os : w'.os = w.os
  tape : w'.tape = w.tape
  output : w'.output = w.output
  size : w'.heap.size = w.heap.size
  block : ∀ k, ¬ S k → w'.heap[k]? = w.heap[k]?
theorem Bsx.refl (S : Nat → Prop) (w : World) : Bsx S w w := ⟨rfl, rfl, rfl, rfl, fun _ _ => rfl⟩
theorem Bsx.trans {S : Nat → Prop} {a b c : World} (h : Bsx S a b) (k : Bsx S b c) : Bsx S a c := ⟨k.os.trans h.os, k.tape.trans h.tape, k.output.trans h.output, k.size.trans h.size, fun i hi => (k.block i hi).trans (h.block i hi)⟩
theorem Bsx.only {S : Nat → Prop} {p : Nat} {a b c : World} (h : Bsx S a b) (k : Only p b c) (h1 : S p) (_ : True) : Bsx S a c := h.trans ⟨k.os, k.tape, k.output, k.size, fun i hi => k.block i (fun e => hi (e ▸ h1))⟩
/-- One item as it is marked. -/
def MkP (w : World) (g : Nat) (its : List (Int × List Int)) (bs : List Plc) (n : Int) (i : Nat) : Prop :=
  w.cell? ⟨g, i * 2, none⟩ = some (.int .i64 (psI its n i)) ∧ w.cell? ⟨g, i * 2 + 1, none⟩ = some (.slice (bs.getD i plc0).a (its.getD i (0, [])).2.length (bs.getD i plc0).c) ∧ Own w (bs.getD i plc0).q (bs.getD i plc0).a .u8 (marks (psI its n i + 1) (its.getD i (0, [])).2.length)
/-- .. and as it is not yet. -/
def MkQ (w : World) (g : Nat) (its : List (Int × List Int)) (bs : List Plc) (i : Nat) : Prop :=
  w.cell? ⟨g, i * 2, none⟩ = some (.int .i64 (its.getD i (0, [])).1) ∧ w.cell? ⟨g, i * 2 + 1, none⟩ = some (.slice (bs.getD i plc0).a (its.getD i (0, [])).2.length (bs.getD i plc0).c) ∧ Own w (bs.getD i plc0).q (bs.getD i plc0).a .u8 (its.getD i (0, [])).2
theorem own_any {w w' : World} {g : Nat} {a : Option Addr} {xs : List Int} (h : Own w g a .u8 xs) (hb : 0 < xs.length → w'.heap[g]? = w.heap[g]?) : Own w' g a .u8 xs := fun h0 => h.of_block (hb h0) h0
theorem MkP.keep {w w' : World} {g : Nat} {its : List (Int × List Int)} {bs : List Plc} {n : Int} {i : Nat} (h : MkP w g its bs n i) (h1 : w'.cell? ⟨g, i * 2, none⟩ = w.cell? ⟨g, i * 2, none⟩) (h2 : w'.cell? ⟨g, i * 2 + 1, none⟩ = w.cell? ⟨g, i * 2 + 1, none⟩) (h3 : 0 < (its.getD i (0, [])).2.length → w'.heap[(bs.getD i plc0).q]? = w.heap[(bs.getD i plc0).q]?) : MkP w' g its bs n i :=
  ⟨h1.trans h.1, h2.trans h.2.1, own_any h.2.2 (fun h0 => h3 (by rwa [marks_len] at h0))⟩
theorem MkQ.keep {w w' : World} {g : Nat} {its : List (Int × List Int)} {bs : List Plc} {i : Nat} (h : MkQ w g its bs i) (h1 : w'.cell? ⟨g, i * 2, none⟩ = w.cell? ⟨g, i * 2, none⟩) (h2 : w'.cell? ⟨g, i * 2 + 1, none⟩ = w.cell? ⟨g, i * 2 + 1, none⟩) (h3 : 0 < (its.getD i (0, [])).2.length → w'.heap[(bs.getD i plc0).q]? = w.heap[(bs.getD i plc0).q]?) : MkQ w' g its bs i :=
  ⟨h1.trans h.1, h2.trans h.2.1, own_any h.2.2 h3⟩
/-- The whole row, marked. -/
def Mkd (w : World) (v : Value) (its : List (Int × List Int)) (bs : List Plc) (n : Int) : Prop := ∀ g c, v = .slice (some ⟨g, 0, none⟩) its.length c → ∀ i, i < its.length → MkP w g its bs n i
theorem Mkd.up {w w' : World} {v : Value} {its : List (Int × List Int)} {bs : List Plc} {n : Int} (h : Mkd w v its bs n) (N : Below w.heap.size w w') : Mkd w' v its bs n := fun g c e i hi => by
  have P := h g c e i hi
  have hg : g < w.heap.size := block_lt_of_cell P.1
  exact P.keep (World.cell?_of_block (a := ⟨g, i * 2, none⟩) (N.block g hg)) (World.cell?_of_block (a := ⟨g, i * 2 + 1, none⟩) (N.block g hg)) (fun h0 => N.block _ (P.2.2.rd.lt (by rw [marks_len]; exact h0)))

/-- A row's slice, as the marks' helpers want it. -/
theorem IRow.shape {w : World} {B : Nat} {v : Value} {its : List (Int × List Int)} {bs : List Plc} (h : IRow w B v its bs) : ∃ a c, v = .slice a its.length c ∧ (0 < its.length → ∃ g, a = some ⟨g, 0, none⟩) := by
  by_cases h0 : 0 < its.length
  · obtain ⟨g, c, e, -⟩ := h.cells h0
    exact ⟨_, c, e, fun _ => ⟨g, rfl⟩⟩
  · obtain ⟨a, c, e, -⟩ := h.slice
    exact ⟨a, c, e, fun h1 => absurd h1 h0⟩
end Go.Proofs.YtjfggcefdobooaaDoor
