import Derived.Test.YtkpomobhjkikeaaGreatDoorSS8
import Derived.Test.YtkpomobhjkikeaaGreatDoorSS11
namespace Go.Proofs.YtkpomobhjkikeaaGreatDoor
set_option maxRecDepth 100000
open Go.RowKit
theorem and1 (x : Int) (h0 : 0 ≤ x) (h1 : x < 256) : bits BinOp.and IntKind.i64 x 1 = x % 2 :=
  bits_mask .i64 8 (by decide) (fun n a b => by rw [IntKind.wrap_i64]; omega) 1 (by decide) x h0 h1
def BRow (w : World) (B g : Nat) (a : Option Addr) (c : Nat) (ys : List Int) (v : Int) : Prop := Own w g a .u8 ys ∧ (a = none → c = 0) ∧ ys.length ≤ c ∧ B ≤ g ∧ Canon ys v
theorem BRow.up {w w' : World} {B g : Nat} {a : Option Addr} {c : Nat} {ys : List Int} {v : Int} (h : BRow w B g a c ys v) (n : Below w.heap.size w w') : BRow w' B g a c ys v := ⟨h.1.up n, h.2⟩
theorem Canon.ge {ys : List Int} {v : Int} (h : Canon ys v) (h0 : 0 < ys.length) : 256 ^ (ys.length - 1) ≤ v := by
  have e := bval_lo ys (ys.length - 1)
  have b := lo_bd h.1 (ys.length - 1)
  have d : dig ys (ys.length - 1) = ys.getD 0 0 := by unfold dig; rw [if_pos (by omega), show ys.length - 1 - (ys.length - 1) = 0 by omega]
  have p := h.1 0
  have q := h.2.2 h0
  rw [hi_step, hi_past ys _ (by omega), d, h.2.1] at e
  have : 1 * 256 ^ (ys.length - 1) ≤ (0 * 256 + ys.getD 0 0) * 256 ^ (ys.length - 1) := Int.mul_le_mul_of_nonneg_right (by omega) (by have := p256_pos (ys.length - 1); omega)
  omega
theorem Canon.len {ys : List Int} {v : Int} {n : Nat} (h : Canon ys v) (hv : v < 256 ^ n) : ys.length ≤ n := by
  by_cases h0 : n < ys.length
  · have g := h.ge (by omega)
    have : (256 : Int) ^ n ≤ 256 ^ (ys.length - 1) := by
      rw [show ys.length - 1 = n + (ys.length - 1 - n) by omega, Int.pow_add]
      have p := p256_pos n
      have q := p256_pos (ys.length - 1 - n)
      have := Int.mul_le_mul_of_nonneg_left (show (1 : Int) ≤ 256 ^ (ys.length - 1 - n) by omega) (show (0 : Int) ≤ 256 ^ n by omega)
      omega
    omega
  · omega
end Go.Proofs.YtkpomobhjkikeaaGreatDoor
