/-
  The program's OrderReduce.
-/
import Derived.Test.YtbhmhkimddjhaaaDoorRdD
import Derived.Test.YtbhmhkimddjhaaaDoorRdS
namespace Go.Proofs.YtbhmhkimddjhaaaDoor
set_option maxRecDepth 100000
open Go.RowKit

set_option maxHeartbeats 2000000 in
theorem implOrderReduce_any (w : World) (g : Nat) (a : Option Addr) (c : Nat) (xs : List Int) (hr : Rd w g a .u8 xs) (hb : Byt xs) (hO : HasO w) :
    Calls Tryd.prog 20 #[.slice a xs.length c] w fun e w' => NewRow w.heap.size w' e .u8 (ored xs) ∧ Below w.heap.size w w' := by
  by_cases h : 1 ≤ xs.length ∧ xs.length ≤ 64
  · have R1 := readDouble_any w g a c xs hr hb h.2 h.1
    have hW : W8 (wv (fun j => xs.getD j 0) xs.length) := fun j _ => wv_lt hb _ j
    have hv : dval (wv (fun j => xs.getD j 0) xs.length) = num xs := by rw [wv_dval _ _ h.2]
    have K : Hid (ored xs = fill (byt (num xs % QQ)) 32) := by show _ = _; rw [ored, if_pos h]
    have t1 : decide ((xs.length : Int) < 1) = false := by simp; omega
    have t2 : decide ((64 : Int) < (xs.length : Int)) = false := by simp; omega
    generalize wv (fun j => xs.getD j 0) xs.length = D at *
    obtain ⟨r1, r2⟩ := rdD_ok hW
    have DR := fun W (h : Below w.heap.size w W) => doubleReduce_any W D hW (hO.up h)
    have SB := fun W => scalarBytes_any W (rdD D) r1
    rw [r2, hv, ← K.out] at SB
    clear h hr hb
    go_enter Tryd.func20, Tryd.ntmps20
    go_wp2_with fail
    refine R1.mono ?_
    rintro e w1 ⟨rfl, n1⟩
    go_wp2_with fail
    refine (DR w1 n1).mono ?_
    rintro e w2 ⟨rfl, n2⟩
    have N2 := nxt n1 n2
    go_wp2_with fail
    refine (SB w2).mono ?_
    rintro e w3 ⟨⟨a3, c3, g3, rfl, o3, p3, q3, r3⟩, n3⟩
    have N3 := nxt N2 n3
    have z := N2.size
    clear R1 DR SB hv r1 r2 hW
    go_wp2
    go_ret
    exact ⟨⟨a3, c3, g3, rfl, o3, p3, q3, by omega⟩, N3⟩
  · have K : Hid (ored xs = []) := by show _ = _; rw [ored, if_neg h]
    by_cases h1 : xs.length < 1
    · have t1 : decide ((xs.length : Int) < 1) = true := by simp; omega
      clear h h1
      go_enter Tryd.func20, Tryd.ntmps20
      go_wp2
      go_ret
      rw [K.out]
      exact ⟨newRow_nil _ _, Below.refl _ _⟩
    · have t1 : decide ((xs.length : Int) < 1) = false := by simp; omega
      have t2 : decide ((64 : Int) < (xs.length : Int)) = true := by simp; omega
      clear h h1
      go_enter Tryd.func20, Tryd.ntmps20
      go_wp2
      go_ret
      rw [K.out]
      exact ⟨newRow_nil _ _, Below.refl _ _⟩
end Go.Proofs.YtbhmhkimddjhaaaDoor
