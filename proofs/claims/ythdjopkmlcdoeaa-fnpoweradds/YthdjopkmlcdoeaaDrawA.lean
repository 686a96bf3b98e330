/-
  Two numbers that are drawn for a sum.
-/
import Derived.Test.YthdjopkmlcdoeaaDraw2
namespace Go.Proofs.Ythdjopkmlcdoeaa
open Go.RowKit

/-- A row that the call made: where it lies, and that it may be read again. -/
def Row (w : World) (g : Nat) (a : Option Addr) (c : Nat) (xs : List Int) : Prop := Own w g a .u8 xs ∧ (a = none → c = 0) ∧ xs.length ≤ c

set_option maxHeartbeats 1000000 in
theorem drawNumAdd_any (w : World) (g : Nat) (a : Option Addr) (c : Nat) (code : List Int) (hr : Rd w g a .u8 code) (hb : Byt code) (hl : code.length ≤ 1048576) :
    Calls Try.prog 40 #[.slice a code.length c] w fun e w' => ∃ xs us a1 c1 g1 a2 c2 g2, e = .returned (.tuple #[.slice a1 xs.length c1, .slice a2 us.length c2]) ∧ (Byt xs ∧ xs.length ≤ 2000) ∧ (Byt us ∧ us.length ≤ 2000) ∧ Row w' g1 a1 c1 xs ∧ Row w' g2 a2 c2 us ∧ Below w.heap.size w w' := by
  have hne : 0 < code.length → g ≠ w.heap.size := fun h => by have := hr.lt h; omega
  go_enter Try.func40, Try.ntmps40
  go_wp2_with fail
  refine (l1Source_any w a code.length c hl).mono ?_
  rintro e w1 ⟨rfl, S1, n1⟩
  have sl := S1.lt
  go_wp2_with fail
  refine (l1DrawNum_any w1 w.heap.size g a c code 0 128 S1 (hr.up n1) hne hb hl (by decide) (by decide) (by decide) (by decide)).mono ?_
  rintro e w2 ⟨xs, t2, hx, lx, ⟨a1, c1, g1, rfl, o1, p1, q1, r1⟩, S2, T2, N2⟩
  have n12 : Below w.heap.size w1 w2 := N2.below (Nat.le_refl _) (by omega)
  have n2 := n1.trans n12
  have z2 := N2.size
  clear n12
  go_wp2_with fail
  refine (l1DrawNum_any w2 w.heap.size g a c code t2 128 S2 (hr.up n2) hne hb hl T2.1 (by omega) (by decide) (by decide)).mono ?_
  rintro e w3 ⟨us, t3, hu, lu, ⟨a2, c2, g2, rfl, o2, p2, q2, r2⟩, S3, T3, N3⟩
  have n23 : Below w.heap.size w2 w3 := N3.below (Nat.le_refl _) (by omega)
  have n3 := n2.trans n23
  have o1' := o1.but N3 (fun _ => by omega)
  go_wp2
  go_ret2
  exact ⟨xs, us, a1, c1, g1, a2, c2, g2, rfl, ⟨hx, lx⟩, ⟨hu, lu⟩, ⟨o1', p1, q1⟩, ⟨o2, p2, q2⟩, n3⟩
end Go.Proofs.Ythdjopkmlcdoeaa
