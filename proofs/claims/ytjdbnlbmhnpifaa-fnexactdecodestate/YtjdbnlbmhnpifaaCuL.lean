
/-
  The cursor's length.
-/
import Derived.Test.YtjdbnlbmhnpifaaCuA
import Derived.Test.YtjdbnlbmhnpifaaIcA
import Derived.Test.YtjdbnlbmhnpifaaItP
namespace Go.Proofs.Ytjdbnlbmhnpifaa
open Go Go.RowKit

/-- take, whatever the place. -/
theorem take_any (w : World) (p g : Nat) (a : Option Addr) (c : Nat) (xs : List Int) (i : Nat) (hC : Cur w p (.slice a xs.length c) i) (hr : Rd w g a .u8 xs) (hn : xs.length ≤ 9223372036854775807) :
    Calls Try.prog 50 #[.pointer (some ⟨p, 0, none⟩)] w fun e w' => ((i < xs.length ∧ e = .returned (.int .u8 (xs.getD i 0)) ∧ Cur w' p (.slice a xs.length c) ((i + 1 : Nat) : Int)) ∨ (xs.length ≤ i ∧ Pan e)) ∧ Only p w w' := by
  by_cases h : i < xs.length
  · exact (take_ok w p g a c xs i hC hr h hn).mono fun e w' ⟨h1, h2, h3⟩ => ⟨.inl ⟨h, h1, h2⟩, h3⟩
  · exact (take_bad w p a _ c _ hC (by omega)).mono fun e w' ⟨h1, h2⟩ => ⟨.inr ⟨by omega, h1⟩, h2⟩
theorem Cur.only {w w' : World} {p q : Nat} {l : Value} {i : Int} (h : Cur w p l i) (n : Only q w w') (hne : p ≠ q) : Cur w' p l i := h.of_block (n.block p hne)
theorem Rd.only {w w' : World} {g q : Nat} {a : Option Addr} {k : IntKind} {xs : List Int} (h : Rd w g a k xs) (n : Only q w w') (hne : 0 < xs.length → g ≠ q) : Rd w' g a k xs := by
  by_cases h0 : 0 < xs.length
  · exact h.of_block (n.block g (hne h0))
  · obtain rfl : xs = [] := List.eq_nil_of_length_eq_zero (by omega)
    exact Rd.nil _ _ _ _

end Go.Proofs.Ytjdbnlbmhnpifaa
