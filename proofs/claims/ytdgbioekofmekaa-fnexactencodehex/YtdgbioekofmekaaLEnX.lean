
/-
  The law of EncodeHex.
-/
import Derived.Test.YtdgbioekofmekaaHxA
namespace Go.Proofs.Ytdgbioekofmekaa
open Go Go.RowKit

set_option maxHeartbeats 2000000 in
theorem encHex_law (w : World) (g : Nat) (a : Option Addr) (ca : Nat) (xs : List Int) (ha : Rd w g a .u8 xs) (hx : Byt xs) :
    Calls Try.prog 3 #[.slice a xs.length ca] w fun e w' => e = .returned (.bool true) ∧ Below w.heap.size w w' := by
  by_cases h1 : xs.length ≤ 1048576
  · have t1 : decide ((1048576 : Int) < (xs.length : Int)) = false := by simp; omega
    go_enter Try.func3, Try.ntmps3
    go_wp2_with fail
    refine (toByteS_any w g a ca xs ha h1).mono ?_
    rintro e w1 ⟨rfl, B1, n1⟩
    go_wp2_with fail
    refine (specEncodeHex_any w1 _ _ _ xs B1.own0.rd hx h1).mono ?_
    rintro e w2 ⟨rfl, n2⟩
    have N2 := nxt n1 n2
    go_wp2_with fail
    refine (toByteS_any w2 g a ca xs (ha.up N2) h1).mono ?_
    rintro e w3 ⟨rfl, B3, n3⟩
    have N3 := nxt N2 n3
    go_wp2_with fail
    refine (implEncodeHex_any w3 _ _ _ xs B3.own0.rd hx h1).mono ?_
    rintro e w4 ⟨rfl, n4⟩
    have N4 := nxt N3 n4
    have B3' := B3.up n4
    generalize ehF xs = t at *
    go_wp2_with fail
    refine (toByteS_any w4 g a ca xs (ha.up N4) h1).mono ?_
    rintro e w5 ⟨rfl, B5, n5⟩
    have N5 := nxt N4 n5
    go_wp2_with fail
    refine (eqByteS_same w5 _ _ _ _ _ _ xs (B3'.up n5).own0.rd B5.own0.rd h1).mono ?_
    rintro e w6 ⟨rfl, n6⟩
    go_wp2
    go_ret
    exact ⟨rfl, nxt N5 n6⟩
  · have t1 : decide ((1048576 : Int) < (xs.length : Int)) = true := by simp; omega
    go_enter Try.func3, Try.ntmps3
    go_wp2
    go_ret
    exact ⟨rfl, Below.refl _ _⟩
end Go.Proofs.Ytdgbioekofmekaa
