
/-
  Messages: rows of lists (Certs), held against each other and looked through.
-/
import Derived.Test.YtfckjoheiabfoaaMgF
namespace Go.Proofs.Ytfckjoheiabfoaa
open Go Go.RowKit

/-- Where a list lies. -/
structure Plb where
  a : Option Addr
  c : Nat
  q : Nat
def plb0 : Plb := ⟨none, 0, 0⟩
/-- A row of lists that may be read. -/
structure RdL (w : World) (g : Nat) (a : Option Addr) (bs : List (List Int)) (ps : List Plb) : Prop where
  r : 0 < bs.length → ∃ off, a = some ⟨g, off, none⟩ ∧ ∀ i, i < bs.length → w.cell? ⟨g, off + i, none⟩ = some (.slice (ps.getD i plb0).a (bs.getD i []).length (ps.getD i plb0).c)
  b : ∀ i, i < bs.length → Rd w (ps.getD i plb0).q (ps.getD i plb0).a .u8 (bs.getD i [])
theorem RdL.up {w w' : World} {g : Nat} {a : Option Addr} {bs : List (List Int)} {ps : List Plb} (h : RdL w g a bs ps) (n : Below w.heap.size w w') : RdL w' g a bs ps :=
  ⟨fun h0 => by
    obtain ⟨o, e, hc⟩ := h.r h0
    refine ⟨o, e, fun i hi => ?_⟩
    have := hc i hi
    rw [World.cell?_of_block (a := ⟨g, o + i, none⟩) (n.block g (block_lt_of_cell this))]
    exact this, fun i hi => (h.b i hi).up n⟩
theorem blobEq_any (w : World) (g g' : Nat) (a b : Option Addr) (ca cb : Nat) (xs ys : List Int) (ha : Rd w g a .u8 xs) (hb : Rd w g' b .u8 ys) (hx : Byt xs) (hy : Byt ys) :
    Calls Try.prog 41 #[.agg #[.slice a xs.length ca], .agg #[.slice b ys.length cb]] w fun e w' => e = .returned (.bool (decide (xs = ys))) ∧ Below w.heap.size w w' := by
  have n1 : Below w.heap.size w (w.alloc (.cells #[.slice a xs.length ca] 43)) := (Below.refl _ _).alloc (Nat.le_refl _) _
  have n2 : Below w.heap.size w ((w.alloc (.cells #[.slice a xs.length ca] 43)).alloc (.cells #[.slice b ys.length cb] 43)) := n1.alloc n1.size _
  have BE := hide (bytesEqual_any _ g g' a b ca cb xs ys (ha.up n2) (hb.up n2) hx hy)
  have N2 := hide n2
  clear ha hb hx hy n1 n2
  generalize decide (xs = ys) = d at *
  go_enter Try.func41, Try.ntmps41
  go_wp2_with fail
  refine BE.out.mono ?_
  rintro e w1 ⟨rfl, rfl⟩
  go_wp2
  go_ret
  exact ⟨rfl, N2.out⟩
/-- A Certificate of another size. -/
def ctO (n : Nat) : Bool := decide (n = 0) || decide (2000 < n)
theorem certOut_any (w : World) (a : Option Addr) (c n : Nat) (hn : n ≤ 1048576) :
    Calls Try.prog 96 #[.agg #[.slice a n c]] w fun e w' => e = .returned (.bool (ctO n)) ∧ Below w.heap.size w w' := by
  have n1 : Hid (Below w.heap.size w (w.alloc (.cells #[.slice a n c] 43))) := (Below.refl _ _).alloc (Nat.le_refl _) _
  have E := hide (show ctO n = (decide (n = 0) || decide (2000 < n)) from rfl)
  generalize ctO n = f at *
  by_cases k0 : n = 0
  · subst k0
    obtain rfl : f = true := E.out
    go_enter Try.func96, Try.ntmps96
    go_wp2
    go_ret
    exact ⟨rfl, n1.out⟩
  · have e0 : ((n : Int) == 0) = false := by simp; omega
    by_cases k1 : 2000 < n
    · have EF : f = true := by rw [E.out]; simp [k1]
      subst EF
      have d1 : decide ((2000 : Int) < (n : Int)) = true := by simp; omega
      go_enter Try.func96, Try.ntmps96
      go_wp2
      go_ret
      exact ⟨rfl, n1.out⟩
    · have EF : f = false := by rw [E.out]; simp [k0, k1]
      subst EF
      have d1 : decide ((2000 : Int) < (n : Int)) = false := by simp; omega
      go_enter Try.func96, Try.ntmps96
      go_wp2
      go_ret
      exact ⟨rfl, n1.out⟩
end Go.Proofs.Ytfckjoheiabfoaa
