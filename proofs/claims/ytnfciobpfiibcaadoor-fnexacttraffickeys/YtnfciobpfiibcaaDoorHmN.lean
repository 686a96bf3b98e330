
/-
  A told state is read back. Numbers alone.
-/
import Derived.Test.YtnfciobpfiibcaaDoorHm32
namespace Go.Proofs.YtnfciobpfiibcaaDoor
set_option maxRecDepth 100000
open Go Go.RowKit

theorem tell_wd32 {C : S8} (h : Ok32 C) : ∀ j, j < 8 → C.l.getD j 0 = wd 4 (tell32 C) j := by
  intro j hj
  have b : 0 ≤ C.l.getD j 0 ∧ C.l.getD j 0 < 4294967296 := by
    obtain ⟨h0, h1, h2, h3, h4, h5, h6, h7⟩ := h
    obtain rfl | rfl | rfl | rfl | rfl | rfl | rfl | rfl : j = 0 ∨ j = 1 ∨ j = 2 ∨ j = 3 ∨ j = 4 ∨ j = 5 ∨ j = 6 ∨ j = 7 := by omega
    · exact h0
    · exact h1
    · exact h2
    · exact h3
    · exact h4
    · exact h5
    · exact h6
    · exact h7
  have g : ∀ m, m < 4 → (tell32 C).getD (4 * j + m) 0 = C.l.getD j 0 / 2 ^ (8 * (4 - 1 - m)) % 256 := fun m hm => by
    rw [tell_get32 C (4 * j + m) (by omega), show (4 * j + m) / 4 = j by omega, show (4 * j + m) % 4 = m by omega]
  show _ = bw 4 (tell32 C) j 4
  simp only [bw]
  rw [g 0 (by omega), g 1 (by omega), g 2 (by omega), g 3 (by omega)]
  generalize C.l.getD j 0 = v at *
  simp only [Nat.sub_self, Nat.mul_zero, Int.pow_zero, Int.ediv_one, show 4 - 1 = 3 from rfl, show 3 - 1 = 2 from rfl, show 3 - 2 = 1 from rfl, show 8 * 3 = 24 from rfl, show 8 * 2 = 16 from rfl, show 8 * 1 = 8 from rfl, show (2 : Int) ^ 24 = 16777216 from rfl, show (2 : Int) ^ 16 = 65536 from rfl, show (2 : Int) ^ 8 = 256 from rfl]
  omega
end Go.Proofs.YtnfciobpfiibcaaDoor
