import Derived.Test.YtkglcainhkbgbaaGreatDoorSG8
namespace Go.Proofs.YtkglcainhkbgbaaGreatDoor
set_option maxRecDepth 100000
def c16 (f : Nat → Int) : Nat → Int
  | 0 => 0
  | k + 1 => (c16 f k + f k) / 65536
def l16 (f : Nat → Int) (k : Nat) : Int := (c16 f k + f k) % 65536
def s16 (f : Nat → Int) : Nat → Int
  | 0 => 0
  | k + 1 => s16 f k + f k * 65536 ^ k
def L16 (f : Nat → Int) : Prop := ∀ j, j < 16 → 0 ≤ f j ∧ f j < 65536
abbrev W256 : Int := 115792089237316195423570985008687907853269984665640564039457584007913129639936
theorem L16.bd {f : Nat → Int} (h : L16 f) : 0 ≤ s16 f 16 ∧ s16 f 16 < W256 := by
  have h0 := h 0 (by omega); have h1 := h 1 (by omega); have h2 := h 2 (by omega); have h3 := h 3 (by omega)
  have h4 := h 4 (by omega); have h5 := h 5 (by omega); have h6 := h 6 (by omega); have h7 := h 7 (by omega)
  have h8 := h 8 (by omega); have h9 := h 9 (by omega); have ha := h 10 (by omega); have hb := h 11 (by omega)
  have hc := h 12 (by omega); have hd := h 13 (by omega); have he := h 14 (by omega); have hf := h 15 (by omega)
  simp only [s16]
  show _ ∧ _ < 115792089237316195423570985008687907853269984665640564039457584007913129639936
  omega
def r16 (f : Nat → Int) (j : Nat) : Int := if j = 0 then l16 f 0 + 38 * c16 f 16 else l16 f j
end Go.Proofs.YtkglcainhkbgbaaGreatDoor
