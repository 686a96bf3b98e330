import Derived.Test.YtkglcainhkbgbaaGreatDoorSG30
import Derived.Test.YtkglcainhkbgbaaGreatDoorSG19
namespace Go.Proofs.YtkglcainhkbgbaaGreatDoor
set_option maxRecDepth 100000
def adj (f : Nat → Int) (j : Nat) : Int := if j = 0 then f 0 + 19 * (f 15 / 32768) else if j = 15 then f 15 % 32768 else f j
def rb (f : Nat → Int) : Nat → Int := l16 (adj f)
theorem L15.bd {f : Nat → Int} (h : L16 f) : 0 ≤ s16 f 15 ∧ s16 f 15 < 1766847064778384329583297500742918515827483896875618958121606201292619776 := by
  have h0 := h 0 (by omega); have h1 := h 1 (by omega); have h2 := h 2 (by omega); have h3 := h 3 (by omega)
  have h4 := h 4 (by omega); have h5 := h 5 (by omega); have h6 := h 6 (by omega); have h7 := h 7 (by omega)
  have h8 := h 8 (by omega); have h9 := h 9 (by omega); have ha := h 10 (by omega); have hb := h 11 (by omega)
  have hc := h 12 (by omega); have hd := h 13 (by omega); have he := h 14 (by omega)
  simp only [s16]
  omega
theorem lsum_congr {a b : Nat → Int} : ∀ n, (∀ i, i < n → a i = b i) → lsum a n = lsum b n
  | 0, _ => rfl
  | n + 1, h => by rw [lsum, lsum, lsum_congr n (fun i hi => h i (by omega)), h n (by omega)]
theorem TurnTo.dig {xs ys : List Int} (h : TurnTo xs ys xs.length) {i : Nat} (hi : i < xs.length) : Go.Proofs.YtkglcainhkbgbaaGreatDoor.dig ys i = xs.getD i 0 := by
  unfold Go.Proofs.YtkglcainhkbgbaaGreatDoor.dig
  rw [if_pos (by rw [h.1]; exact hi), h.2 _ (by rw [h.1]; omega), h.1]
  congr 1
  omega
end Go.Proofs.YtkglcainhkbgbaaGreatDoor
