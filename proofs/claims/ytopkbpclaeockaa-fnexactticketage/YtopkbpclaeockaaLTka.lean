
/-
  The law of TicketAge (written by gens/lscal.py).
-/
import Derived.Test.YtopkbpclaeockaaAgS
import Derived.Test.YtopkbpclaeockaaHelp
namespace Go.Proofs.Ytopkbpclaeockaa
open Go Go.RowKit

set_option maxHeartbeats 4000000 in
theorem tka_law (w : World) (g0 : Nat) (a0 : Option Addr) (c0 : Nat) (X0 : List Int) (hX0 : Rd w g0 a0 .u8 X0) (bX0 : Byt X0) (n1 : Int) (_bn1 : (Lit.int .i64 n1).wf = true) :
    Calls Try.prog 3 #[.slice a0 X0.length c0, .int .i64 n1] w fun e w' => e = .returned (.bool true) ∧ Below w.heap.size w w' := by
  by_cases q0 : X0.length ≤ 1048576
  · have u0 : decide ((1048576 : Int) < (X0.length : Int)) = false := by simp; omega
    have SP := fun W g a c h => specAge_any W g a c X0 h bX0 n1
    have IM := fun W g a c h => implAge_any W g a c X0 h bX0 n1
    generalize agV X0 n1 = R at *
    go_enter Try.func3, Try.ntmps3
    have N : Below w.heap.size w w := Below.refl _ _
    go_wp2_with fail
    refine (toByteS_any w g0 a0 c0 X0 (hX0.up N) q0).mono ?_
    rintro e w1 ⟨rfl, A0, m1⟩
    replace N := nxt N m1
    clear m1
    go_wp2_with fail
    refine (SP w1 _ _ _ A0.own0.rd).mono ?_
    rintro e w2 ⟨rfl, m2⟩
    replace A0 := A0.up m2
    replace N := nxt N m2
    clear m2
    clear A0
    go_wp2_with fail
    refine (toByteS_any w2 g0 a0 c0 X0 (hX0.up N) q0).mono ?_
    rintro e w3 ⟨rfl, B0, m3⟩
    replace N := nxt N m3
    clear m3
    go_wp2_with fail
    refine (IM w3 _ _ _ B0.own0.rd).mono ?_
    rintro e w4 ⟨rfl, m4⟩
    replace B0 := B0.up m4
    replace N := nxt N m4
    clear m4
    go_wp2_with fail
    refine (toByteS_any w4 g0 a0 c0 X0 (hX0.up N) q0).mono ?_
    rintro e w5 ⟨rfl, E0, m5⟩
    replace B0 := B0.up m5
    replace N := nxt N m5
    clear m5
    go_wp2_with fail
    refine (eqByteS_same w5 _ _ _ _ _ _ X0 B0.own0.rd E0.own0.rd q0).mono ?_
    rintro e w6 ⟨rfl, m6⟩
    replace B0 := B0.up m6
    replace E0 := E0.up m6
    replace N := nxt N m6
    clear m6
    go_wp2
    go_ret
    exact ⟨rfl, N⟩
  · have u0 : decide ((1048576 : Int) < (X0.length : Int)) = true := by simp; omega
    go_enter Try.func3, Try.ntmps3
    go_wp2
    go_ret
    exact ⟨rfl, Below.refl _ _⟩
end Go.Proofs.Ytopkbpclaeockaa
