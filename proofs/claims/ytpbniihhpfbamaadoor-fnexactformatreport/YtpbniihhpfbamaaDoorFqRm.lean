
/-
  The model's text of a world's report: a connection's round (written by gens/fqt2.py).
-/
import Derived.Test.YtpbniihhpfbamaaDoorFqD
namespace Go.Proofs.YtpbniihhpfbamaaDoor
set_option maxRecDepth 100000
open Go Go.RowKit

/-- A line appended. -/
theorem app_ln (w : World) (B : Nat) (v : Value) (l T : List UInt8) (hO : OwB B v l w) (hB : B ≤ w.heap.size) (hl : l.length ≤ 100000000000000) (hT : T.length ≤ 1000000000) :
    ∃ v' w', (Builtin.append_ #[23, 9] 23 #[v, .string ⟨⟨T⟩⟩]).run Tryd.prog w = .ok v' w' ∧ (∃ a n c, v' = .slice a n c) ∧ OwB B v' (l ++ T) w' ∧ Below B w w' := by
  obtain ⟨v', w', hap, ho, hg, -⟩ := app_str w B v l T hO hB (by omega)
  refine ⟨v', w', hap, ?_, ho, (Below.refl B w).grown hg hB fun k hk => (World.ownsRow.lt hO k hk).1⟩
  obtain ⟨a, c, e⟩ := OwB.slice (B := B) (l := l ++ T) ho
  exact ⟨a, _, c, e⟩
/-- The way's line: the calls, one in the other, and the append. -/
theorem way_chain (w : World) (B : Nat) (w1 : World) (g : Nat) (a : Option Addr) (c : Nat) (ts : List Int) (g' : Nat) (a' : Option Addr) (c' : Nat) (tc : List Int) (r : Rd w g a .u8 ts) (r' : Rd w g' a' .u8 tc) (bt : Byt ts) (bc : Byt tc) (h1 : ts.length ≤ 1048576) (h2 : tc.length ≤ 1048576) (v : Value) (l : List UInt8) (hO : OwB B v l w) (hB : B ≤ w1.heap.size) (N : Below w1.heap.size w1 w) (hl : l.length ≤ 100000000000000) :
    Calls Tryd.prog 15 #[.slice a ts.length c] w fun e w50 => ∃ T1, e = .returned (.string ⟨⟨T1⟩⟩) ∧ Hid (Below w1.heap.size w1 w50) ∧
    Calls Tryd.prog 15 #[.slice a' tc.length c'] w50 fun e w51 => ∃ T2, e = .returned (.string ⟨⟨T2⟩⟩) ∧ Hid (Below w1.heap.size w1 w51) ∧
    Calls Tryd.prog 12 #[.slice (some ⟨w51.heap.size, 0, none⟩) 3 3] (w51.alloc (.cells #[.string ⟨#[119, 97, 121]⟩, .string ⟨⟨T1⟩⟩, .string ⟨⟨T2⟩⟩] 9)) fun e w52 => ∃ T3, e = .returned (.string ⟨⟨T3⟩⟩) ∧ Hid (Below w1.heap.size w1 w52) ∧
    ∃ v' w6, (Builtin.append_ #[23, 9] 23 #[v, .string ⟨⟨T3⟩⟩]).run Tryd.prog w52 = .ok v' w6 ∧ (∃ a n c, v' = .slice a n c) ∧ Hid (OwB B v' (l ++ (waT ts tc ++ [10])) w6) ∧ Hid (Below B w1 w6) := by
  refine (specEncodeHex_any w g a c ts r bt h1).mono ?_
  rintro e x0 ⟨rfl, m0⟩
  have B0 := N.trans (m0.mono N.size)
  refine ⟨heT ts, rfl, B0, ?_⟩
  refine (specEncodeHex_any x0 g' a' c' tc (r'.up m0) bc h2).mono ?_
  rintro e x1 ⟨rfl, m1⟩
  have B1 := B0.trans (m1.mono B0.size)
  refine ⟨heT tc, rfl, B1, ?_⟩
  have m2 : Below x1.heap.size x1 (x1.alloc (.cells #[.string ⟨#[119, 97, 121]⟩, .string ⟨⟨heT ts⟩⟩, .string ⟨⟨heT tc⟩⟩] 9)) := (Below.refl _ _).alloc (Nat.le_refl _) _
  have B2 := B1.trans (m2.mono B1.size)
  have wl := waT_len h1 h2
  refine (l20Line_any _ x1.heap.size 3 [[119, 97, 121], heT ts, heT tc] (heap_alloc_new x1 _) rfl (by decide) (Nat.le_trans wl (by decide))).mono ?_
  rintro e x3 ⟨rfl, m3⟩
  have B3 := B2.trans (m3.mono B2.size)
  obtain ⟨v', w6, hap, hs, ho, nb⟩ := app_ln x3 B v l (waT ts tc ++ [10]) ((((hO.up m0).up m1).up m2).up m3) (Nat.le_trans hB B3.size) hl (by rw [List.length_append]; simp; omega)
  exact ⟨_, rfl, B3, v', w6, hap, hs, ho, (B3.mono hB).trans nb⟩
end Go.Proofs.YtpbniihhpfbamaaDoor
