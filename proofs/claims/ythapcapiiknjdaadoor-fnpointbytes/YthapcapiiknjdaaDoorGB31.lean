import Derived.Test.YthapcapiiknjdaaDoorGB1
import Derived.Laws.AppendOwnNone
import Derived.Deep.MidRow
import Derived.Test.YthapcapiiknjdaaDoorGB2

/-
  Bytes without zeros ahead: the model's and the program's.
-/
namespace Go.Proofs.YthapcapiiknjdaaDoor
set_option maxRecDepth 100000
open Go.RowKit



end Go.Proofs.YthapcapiiknjdaaDoor

/-
  Results that are told as a struct: good, and a value.
-/
namespace Go.Proofs.YthapcapiiknjdaaDoor
set_option maxRecDepth 100000
open Go.RowKit

/-- What is answered for a number: its one form, if it has at most 128 bytes. -/
def ResOf (v : Int) (b : Bool) (ys : List Int) : Prop := ∃ c, Canon c v ∧ ((c.length ≤ 128 ∧ b = true ∧ ys = c) ∨ (128 < c.length ∧ b = false ∧ ys = []))
/-- .. where A holds; else nothing. -/
def NumOf (A : Prop) (v : Int) (b : Bool) (ys : List Int) : Prop := (A ∧ ResOf v b ys) ∨ (¬ A ∧ b = false ∧ ys = [])
theorem ResOf.uniq {v : Int} {b d : Bool} {ys zs : List Int} (h : ResOf v b ys) (k : ResOf v d zs) : b = d ∧ ys = zs := by
  obtain ⟨c, hc, h⟩ := h
  obtain ⟨c', hc', k⟩ := k
  obtain rfl := hc.uniq hc'
  rcases h with ⟨h1, rfl, rfl⟩ | ⟨h1, rfl, rfl⟩
  · rcases k with ⟨k1, rfl, rfl⟩ | ⟨k1, rfl, rfl⟩
    · exact ⟨rfl, rfl⟩
    · omega
  · rcases k with ⟨k1, rfl, rfl⟩ | ⟨k1, rfl, rfl⟩
    · omega
    · exact ⟨rfl, rfl⟩
theorem NumOf.uniq {A : Prop} {v : Int} {b d : Bool} {ys zs : List Int} (h : NumOf A v b ys) (k : NumOf A v d zs) : b = d ∧ ys = zs := by
  rcases h with ⟨h1, h2⟩ | ⟨h1, rfl, rfl⟩
  · rcases k with ⟨k1, k2⟩ | ⟨k1, rfl, rfl⟩
    · exact h2.uniq k2
    · exact absurd h1 k1
  · rcases k with ⟨k1, k2⟩ | ⟨k1, rfl, rfl⟩
    · exact absurd k1 h1
    · exact ⟨rfl, rfl⟩
theorem NumOf.len {A : Prop} {v : Int} {b : Bool} {ys : List Int} (h : NumOf A v b ys) : ys.length ≤ 128 := by
  rcases h with ⟨_, c, _, ⟨h1, _, rfl⟩ | ⟨_, _, rfl⟩⟩ | ⟨_, _, rfl⟩
  · exact h1
  · simp
  · simp

/-- A struct of a truth and a slice that the call made is handed back. -/
def NewRes (B : Nat) (w' : World) (e : Ending) (b : Bool) (ys : List Int) : Prop :=
  ∃ (a : Option Addr) (c g : Nat), e = .returned (.agg #[.bool b, .slice a ys.length c]) ∧ Own w' g a .u8 ys ∧ (a = none → c = 0) ∧ ys.length ≤ c ∧ B ≤ g
theorem NewRes.none {B : Nat} {w : World} (h : B ≤ w.heap.size) : NewRes B w (.returned (.agg #[.bool false, .slice none 0 0])) false [] :=
  ⟨_, 0, w.heap.size, rfl, Own.nil _ _ _ _, by simp, Nat.zero_le _, h⟩

end Go.Proofs.YthapcapiiknjdaaDoor

/-
  spec.NumAdd.
-/
namespace Go.Proofs.YthapcapiiknjdaaDoor
set_option maxRecDepth 100000
open Go.RowKit

/-- A cell of a new block of two, behind calls that keep what was there. -/
theorem two_kept {w w1 : World} {x y : Value} {t : TypeId} (n : Below (w.alloc (.cells #[x, y] t)).heap.size (w.alloc (.cells #[x, y] t)) w1) :
    w1.cell? ⟨w.heap.size, 0, none⟩ = some x ∧ w1.cell? ⟨w.heap.size, 1, none⟩ = some y ∧ w1.frozen? ⟨w.heap.size, 0, none⟩ = false ∧ w1.frozen? ⟨w.heap.size, 1, none⟩ = false ∧ w.heap.size < w1.heap.size := by
  have hs : w.heap.size < (w.alloc (.cells #[x, y] t)).heap.size := by simp
  refine ⟨?_, ?_, ?_, ?_, by have := n.size; omega⟩
  · rw [n.cell (p := ⟨w.heap.size, 0, none⟩) hs]; simp [World.cell?_alloc_at]
  · rw [n.cell (p := ⟨w.heap.size, 1, none⟩) hs]; simp [World.cell?_alloc_at]
  · rw [n.frozen (p := ⟨w.heap.size, 0, none⟩) hs]; simp [World.frozen?_alloc_at]
  · rw [n.frozen (p := ⟨w.heap.size, 1, none⟩) hs]; simp [World.frozen?_alloc_at]

/-- A block of two cells, known and free. -/
structure Two (w : World) (p : Nat) (x y : Value) : Prop where
  c0 : w.cell? ⟨p, 0, none⟩ = some x
  c1 : w.cell? ⟨p, 1, none⟩ = some y
  f0 : w.frozen? ⟨p, 0, none⟩ = false
  f1 : w.frozen? ⟨p, 1, none⟩ = false
theorem Two.lt {w : World} {p : Nat} {x y : Value} (h : Two w p x y) : p < w.heap.size := block_lt_of_cell h.c0
theorem Two.of_block {w w' : World} {p : Nat} {x y : Value} (h : Two w p x y) (hb : w'.heap[p]? = w.heap[p]?) : Two w' p x y :=
  ⟨(World.cell?_of_block (a := ⟨p, 0, none⟩) hb).trans h.c0, (World.cell?_of_block (a := ⟨p, 1, none⟩) hb).trans h.c1, (World.frozen?_of_block (a := ⟨p, 0, none⟩) hb).trans h.f0, (World.frozen?_of_block (a := ⟨p, 1, none⟩) hb).trans h.f1⟩
theorem Two.up {w w' : World} {p : Nat} {x y : Value} (h : Two w p x y) (n : Below w.heap.size w w') : Two w' p x y := h.of_block (n.block p h.lt)
theorem Two.only {w w' : World} {p g : Nat} {x y : Value} (h : Two w p x y) (n : Only g w w') (hne : p ≠ g) : Two w' p x y := h.of_block (n.block p hne)
theorem Two.new (w : World) (x y : Value) (t : TypeId) : Two (w.alloc (.cells #[x, y] t)) w.heap.size x y := by
  obtain ⟨k1, k2, k3, k4, _⟩ := two_kept (Below.refl (w.alloc (.cells #[x, y] t)).heap.size (w.alloc (.cells #[x, y] t)))
  exact ⟨k1, k2, k3, k4⟩


end Go.Proofs.YthapcapiiknjdaaDoor

/-
  The laws' helpers on points: two slices.
-/
namespace Go.Proofs.YthapcapiiknjdaaDoor
set_option maxRecDepth 100000
open Go.RowKit

/-- Of what was there nothing but the blocks g and h has turned. -/
structure ButP (g h : Nat) (w w' : World) : Prop where
  os : w'.os = w.os
  tape : w'.tape = w.tape
  output : w'.output = w.output
  size : w.heap.size ≤ w'.heap.size
  block : ∀ k, k < w.heap.size → k ≠ g → k ≠ h → w'.heap[k]? = w.heap[k]?
theorem ButP.of {g h : Nat} {a b c d : World} (n : Below a.heap.size a b) (k : Only g b c) (l : Only h c d) : ButP g h a d :=
  ⟨(l.os.trans k.os).trans n.os, (l.tape.trans k.tape).trans n.tape, (l.output.trans k.output).trans n.output, by rw [l.size, k.size]; exact n.size, fun i hi h1 h2 => ((l.block i h2).trans (k.block i h1)).trans (n.block i hi)⟩
theorem ButP.below {g h B : Nat} {w w' : World} (n : ButP g h w w') (hB : B ≤ g) (hC : B ≤ h) (hs : B ≤ w.heap.size) : Below B w w' := ⟨n.os, n.tape, n.output, n.size, fun k hk => n.block k (by omega) (by omega) (by omega)⟩
theorem ButP.up {g h : Nat} {a b c : World} (n : ButP g h a b) (k : Below b.heap.size b c) : ButP g h a c :=
  ⟨k.os.trans n.os, k.tape.trans n.tape, k.output.trans n.output, Nat.le_trans n.size k.size, fun i hi h1 h2 => (k.block i (Nat.lt_of_lt_of_le hi n.size)).trans (n.block i hi h1 h2)⟩
theorem ButP.from {g h : Nat} {a b c : World} (k : Below a.heap.size a b) (n : ButP g h b c) : ButP g h a c :=
  ⟨n.os.trans k.os, n.tape.trans k.tape, n.output.trans k.output, Nat.le_trans k.size n.size, fun i hi h1 h2 => (n.block i (Nat.lt_of_lt_of_le hi k.size) h1 h2).trans (k.block i hi)⟩
/-- Two rows of bytes. -/
structure PrP (w : World) (g : Nat) (a : Option Addr) (xs : List Int) (g' : Nat) (a' : Option Addr) (ys : List Int) : Prop where
  l : Own w g a .u8 xs
  r : Own w g' a' .u8 ys
theorem PrP.up {w w' : World} {g g' : Nat} {a a' : Option Addr} {xs ys : List Int} (h : PrP w g a xs g' a' ys) (n : Below w.heap.size w w') : PrP w' g a xs g' a' ys := ⟨h.l.up n, h.r.up n⟩
theorem PrP.only {w w' : World} {g g' k : Nat} {a a' : Option Addr} {xs ys : List Int} (h : PrP w g a xs g' a' ys) (n : Only k w w') (h1 : 0 < xs.length → g ≠ k) (h2 : 0 < ys.length → g' ≠ k) : PrP w' g a xs g' a' ys := ⟨h.l.only n h1, h.r.only n h2⟩
/-- A new point whose two lists lie apart. -/
def NewP2 (B : Nat) (w' : World) (e : Ending) (xs ys : List Int) : Prop :=
  ∃ (a : Option Addr) (c g : Nat) (a' : Option Addr) (c' g' : Nat), e = .returned (.agg #[.slice a xs.length c, .slice a' ys.length c']) ∧ Own w' g a .u8 xs ∧ Own w' g' a' .u8 ys ∧ B ≤ g ∧ B ≤ g' ∧ (0 < xs.length → 0 < ys.length → g ≠ g')
theorem NewP2.nil {B : Nat} {w : World} : NewP2 B w (.returned (.agg #[.slice none 0 0, .slice none 0 0])) [] [] := ⟨none, 0, B, none, 0, B, rfl, Own.nil _ _ _ _, Own.nil _ _ _ _, Nat.le_refl _, Nat.le_refl _, fun h => absurd h (by simp)⟩
/-- A row that is not read may be said to lie anywhere. -/
theorem NewP2.at {B B' : Nat} {w : World} {e : Ending} {ys ss : List Int} (h : NewP2 B w e ys ss) (h1 : B' < B) (h2 : B' < w.heap.size) :
    ∃ (a : Option Addr) (c g : Nat) (a' : Option Addr) (c' g' : Nat), e = .returned (.agg #[.slice a ys.length c, .slice a' ss.length c']) ∧ PrP w g a ys g' a' ss ∧ B' ≤ g ∧ g < w.heap.size ∧ B' ≤ g' ∧ g' < w.heap.size ∧ (0 < ys.length → B ≤ g ∧ g ≠ g') ∧ (0 < ss.length → B ≤ g' ∧ g ≠ g') := by
  obtain ⟨a, c, g, a', c', g', he, o, o', hg, hg', hne⟩ := h
  by_cases h0 : 0 < ys.length
  · by_cases k0 : 0 < ss.length
    · exact ⟨a, c, g, a', c', g', he, ⟨o, o'⟩, by omega, o.rd.lt h0, by omega, o'.rd.lt k0, fun _ => ⟨hg, hne h0 k0⟩, fun _ => ⟨hg', hne h0 k0⟩⟩
    · obtain rfl : ss = [] := List.eq_nil_of_length_eq_zero (by omega)
      exact ⟨a, c, g, a', c', B', he, ⟨o, Own.nil _ _ _ _⟩, by omega, o.rd.lt h0, Nat.le_refl _, h2, fun _ => ⟨hg, by omega⟩, fun h => absurd h (by simp)⟩
  · obtain rfl : ys = [] := List.eq_nil_of_length_eq_zero (by omega)
    by_cases k0 : 0 < ss.length
    · exact ⟨a, c, B', a', c', g', he, ⟨Own.nil _ _ _ _, o'⟩, Nat.le_refl _, h2, by omega, o'.rd.lt k0, fun h => absurd h (by simp), fun _ => ⟨hg', by omega⟩⟩
    · obtain rfl : ss = [] := List.eq_nil_of_length_eq_zero (by omega)
      exact ⟨a, c, B', a', c', B', he, ⟨Own.nil _ _ _ _, Own.nil _ _ _ _⟩, Nat.le_refl _, h2, Nat.le_refl _, h2, fun h => absurd h (by simp), fun h => absurd h (by simp)⟩






end Go.Proofs.YthapcapiiknjdaaDoor
