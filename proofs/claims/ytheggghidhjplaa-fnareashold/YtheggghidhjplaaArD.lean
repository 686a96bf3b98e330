
/-
  A pattern and areas that are drawn.
-/
import Derived.Test.YtheggghidhjplaaArC
import Derived.Test.YtheggghidhjplaaNmF
namespace Go.Proofs.Ytheggghidhjplaa
open Go Go.RowKit

/-- Where the drawing stands: two rows in blocks of their own. -/
structure PO (w : World) (s g : Nat) (a : Option Addr) (c : Nat) (xs : List Int) (n6 n7 : Nat) (T : Int) (v6 v7 : Value) (wc : World) (q6 q7 : Nat) (pm ex : List (List UInt8)) (u : Int) : Prop where
  r6 : RowAt wc q6 v6 pm
  r7 : RowAt wc q7 v7 ex
  ne : q6 ≠ q7
  l6 : w.heap.size ≤ q6
  l7 : w.heap.size ≤ q7
  b6 : ∀ l ∈ pm, l.length ≤ 202
  b7 : ∀ l ∈ ex, l.length ≤ 202
  k6 : pm.length ≤ n6
  k7 : ex.length ≤ n7
  hu : u ≤ T
  D : Dra wc s g a c xs u
  U : But s w wc
  sl : s < w.heap.size ∨ s = w.heap.size
  s6 : s ≠ q6
  s7 : s ≠ q7
  g6 : 0 < xs.length → g ≠ q6
  g7 : 0 < xs.length → g ≠ q7
theorem PO.up {w : World} {s g : Nat} {a : Option Addr} {c : Nat} {xs : List Int} {n6 n7 : Nat} {T : Int} {v6 v7 : Value} {wc w' : World} {q6 q7 : Nat} {pm ex : List (List UInt8)} {u : Int} (h : PO w s g a c xs n6 n7 T v6 v7 wc q6 q7 pm ex u) (n : Below wc.heap.size wc w') : PO w s g a c xs n6 n7 T v6 v7 w' q6 q7 pm ex u :=
  { h with r6 := h.r6.up n, r7 := h.r7.up n, D := h.D.up n, U := h.U.trans (But.ofBelow n) }
/-- The source was asked. -/
theorem PO.ask {w : World} {s g : Nat} {a : Option Addr} {c : Nat} {xs : List Int} {n6 n7 : Nat} {T T' : Int} {v6 v7 : Value} {wc w' : World} {q6 q7 : Nat} {pm ex : List (List UInt8)} {u u' : Int} (h : PO w s g a c xs n6 n7 T v6 v7 wc q6 q7 pm ex u) (n : But s wc w') (d : Dra w' s g a c xs u') (hu : u' ≤ T') : PO w s g a c xs n6 n7 T' v6 v7 w' q6 q7 pm ex u' :=
  { h with r6 := h.r6.but n h.s6.symm, r7 := h.r7.but n h.s7.symm, D := d, U := h.U.trans n, hu := hu }
/-- A text more among the excluded ones, or among the permitted ones. -/
theorem PO.app7 {w : World} {s g : Nat} {a : Option Addr} {c : Nat} {xs : List Int} {n6 n7 : Nat} {T : Int} {v6 v7 : Value} {wc : World} {q6 q7 : Nat} {pm ex : List (List UInt8)} {u : Int} (h : PO w s g a c xs n6 n7 T v6 v7 wc q6 q7 pm ex u) (x : List UInt8) (hx : x.length ≤ 202) (hn : n7 ≤ 100) :
    ∃ v' w' g', (Builtin.append_ #[28, 28] 28 #[v7, .slice (some ⟨wc.heap.size, 0, none⟩) 1 1]).run Try.prog (wc.alloc (.cells #[.string ⟨⟨x⟩⟩] 9)) = .ok v' w' ∧ PO w s g a c xs n6 (n7 + 1) T v6 v' w' q6 g' pm (ex ++ [x]) u := by
  have na : Below wc.heap.size wc (wc.alloc (.cells #[.string ⟨⟨x⟩⟩] 9)) := (Below.refl _ _).alloc (Nat.le_refl _) _
  have RO := RowAt.one wc x
  have h2 := h.up na
  have k7 := h.k7
  obtain ⟨v', w', g', hap, R, B, hg⟩ := appendT (wc.alloc (.cells #[.string ⟨⟨x⟩⟩] 9)) 28 v7 ex [x] q7 wc.heap.size 0 1 h2.r7 (fun i hi => by
    obtain ⟨o2, e2, hc2⟩ := RO.rd (by simp)
    obtain rfl : o2 = 0 := by simpa using e2.symm
    exact hc2 i hi) (by simp; omega)
  refine ⟨v', w', g', hap, ?_⟩
  have z : (wc.alloc (.cells #[.string ⟨⟨x⟩⟩] 9)).heap.size = wc.heap.size + 1 := by simp
  have lt6 := h.r6.lt
  have ltS := h.D.S.lt
  have ltG := fun hl => h.D.R.lt hl
  have hU := h.U.size
  have hs7 := h.s7
  have hne := h.ne
  have hl7 := h.l7
  have hg7 := h.g7
  exact { r6 := h2.r6.of_block (B.block q6 (by omega) hne), r7 := R, ne := (by rcases hg with rfl | rfl <;> omega), l6 := h.l6, l7 := (by rcases hg with rfl | rfl <;> omega), b6 := h.b6, b7 := (fun l hl => by
      rcases List.mem_append.1 hl with hl | hl
      · exact h.b7 l hl
      · rw [List.mem_singleton] at hl; rw [hl]; exact hx), k6 := h.k6, k7 := (by simp; omega), hu := h.hu, D := h2.D.other B hs7 hg7, U := h2.U.other B hl7, sl := h.sl, s6 := h.s6, s7 := (by rcases hg with rfl | rfl <;> omega), g6 := h.g6, g7 := (fun hl => by have := ltG hl; have := hg7 hl; rcases hg with rfl | rfl <;> omega) }
theorem PO.swap {w : World} {s g : Nat} {a : Option Addr} {c : Nat} {xs : List Int} {n6 n7 : Nat} {T : Int} {v6 v7 : Value} {wc : World} {q6 q7 : Nat} {pm ex : List (List UInt8)} {u : Int} (h : PO w s g a c xs n6 n7 T v6 v7 wc q6 q7 pm ex u) : PO w s g a c xs n7 n6 T v7 v6 wc q7 q6 ex pm u :=
  ⟨h.r7, h.r6, h.ne.symm, h.l7, h.l6, h.b7, h.b6, h.k7, h.k6, h.hu, h.D, h.U, h.sl, h.s7, h.s6, h.g7, h.g6⟩
end Go.Proofs.Ytheggghidhjplaa
