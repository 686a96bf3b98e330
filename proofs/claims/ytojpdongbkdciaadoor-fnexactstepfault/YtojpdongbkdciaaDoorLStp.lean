
/-
  The law of StepFault (written by gens/lx.py).
-/
import Derived.Test.YtojpdongbkdciaaDoorStpH
import Derived.Test.YtojpdongbkdciaaDoorStpC
import Derived.Test.YtojpdongbkdciaaDoorStpL
import Derived.Test.YtojpdongbkdciaaDoorRdR
import Derived.Deep.RegionHeld3
namespace Go.Proofs.YtojpdongbkdciaaDoor
set_option maxRecDepth 100000
open Go Go.RowKit

set_option maxHeartbeats 8000000 in
theorem stp_law (w : World) (n0 : Int) (_bn0 : (Lit.int .i64 n0).wf = true) (n0' : Int) (_bn0' : (Lit.int .i64 n0').wf = true) (n0'' : Int) (_bn0'' : (Lit.int .i64 n0'').wf = true) (n0''' : Int) (_bn0''' : (Lit.int .i64 n0''').wf = true) (g0 : Nat) (a0 : Option Addr) (c0 : Nat) (X0 : List Int) (hX0 : Rd w g0 a0 .u8 X0) (_bX0 : Byt X0) (lX0 : X0.length < 9223372036854775808) (hL : HasSt w) :
    Calls Tryd.prog 3 #[.agg #[.int .i64 n0, .int .i64 n0', .int .i64 n0'', .int .i64 n0''', .slice a0 X0.length c0]] w fun e w' => e = .returned (.bool true) ∧ Below w.heap.size w w' := by
  by_cases qs : X0.length ≤ 1048576
  · skip
    have SZ := fun W => hide (szStep_any W n0 n0' n0'' n0''' a0 X0.length c0 1048576 lX0 (by decide) (by decide))
    simp only [if_neg (show ¬ ((1048576 : Int) < (X0.length : Int)) by omega)] at SZ
    have us : decide ((1048576 : Int) - (X0.length : Int) < 0) = false := by simp; omega
    have SP : ∀ W g a c, Rd W g a .u8 X0 → (a = none → c = 0) → X0.length ≤ c → Calls Tryd.prog 5 #[.agg #[.int .i64 n0, .int .i64 n0', .int .i64 n0'', .int .i64 n0''', .slice a X0.length c]] W fun e w' => e = .returned (.int .i64 (stV n0 n0' n0'' n0''' X0.length)) ∧ Below W.heap.size W w' := fun W _ a c _ _ _ => specStep_any W n0 n0' n0'' n0''' a X0.length c
    have IM : ∀ W g a c, Rd W g a .u8 X0 → (a = none → c = 0) → X0.length ≤ c → Below w.heap.size w W → Calls Tryd.prog 7 #[.agg #[.int .i64 n0, .int .i64 n0', .int .i64 n0'', .int .i64 n0''', .slice a X0.length c]] W fun e w' => e = .returned (.int .i64 (stV n0 n0' n0'' n0''' X0.length)) ∧ Below W.heap.size W w' := fun W _ a c _ _ _ m => implStep_any W n0 n0' n0'' n0''' a X0.length c (hL.up m)
    obtain ⟨ys, hys⟩ : ∃ ys, ys = stV n0 n0' n0'' n0''' X0.length := ⟨_, rfl⟩
    simp only [← hys] at SP IM
    clear hys
    clear hL
    go_enter Tryd.func3, Tryd.ntmps3
    go_upto_region 1 with fail
    have B : RwC (w.alloc (.cells #[.int .i64 n0, .int .i64 n0', .int .i64 n0'', .int .i64 n0''', .slice a0 X0.length c0] 24)) w.heap.size [.int .i64 n0, .int .i64 n0', .int .i64 n0'', .int .i64 n0''', .slice a0 X0.length c0] 24 := RwC.new w _ _
    have N : Below w.heap.size w (w.alloc (.cells #[.int .i64 n0, .int .i64 n0', .int .i64 n0'', .int .i64 n0''', .slice a0 X0.length c0] 24)) := (Below.refl _ _).alloc (Nat.le_refl _) _
    have zN : (w.alloc (.cells #[.int .i64 n0, .int .i64 n0', .int .i64 n0'', .int .i64 n0''', .slice a0 X0.length c0] 24)).heap.size = w.heap.size + 1 := by simp
    generalize w.alloc (.cells #[.int .i64 n0, .int .i64 n0', .int .i64 n0'', .int .i64 n0''', .slice a0 X0.length c0] 24) = w0 at *
    have lB : w.heap.size < w0.heap.size := by omega
    clear zN
    have Bc0 := B.cell 0
    have Bc1 := B.cell 1
    have Bc2 := B.cell 2
    have Bc3 := B.cell 3
    have Bc4 := B.cell 4
    go_wp2_with fail
    refine ((SZ w0).out).mono ?_
    rintro e w1 ⟨rfl, m1⟩
    have zm1 := m1.size
    clear Bc0 Bc1 Bc2 Bc3 Bc4
    replace B := B.up m1
    replace N := nxt N m1
    clear m1
    have Bc0 := B.cell 0
    have Bc1 := B.cell 1
    have Bc2 := B.cell 2
    have Bc3 := B.cell 3
    have Bc4 := B.cell 4
    go_wp2_with fail
    refine (toStep_any w1 n0 n0' n0'' n0''' g0 a0 c0 X0 (hX0.up N) (by omega)).mono ?_
    rintro e w2 ⟨m0, rfl, mB0, ymB0, m2⟩
    have zm2 := m2.size
    clear Bc0 Bc1 Bc2 Bc3 Bc4
    replace B := B.up m2
    replace N := nxt N m2
    clear m2
    have lmB0 := mB0.lt
    go_wp2_with fail
    refine (SP w2 _ _ _ mB0.own0.rd (by simp) (Nat.le_refl _)).mono ?_
    rintro e w3 ⟨rfl, m3⟩
    have zm3 := m3.size
    replace B := B.up m3
    replace mB0 := mB0.up m3
    replace N := nxt N m3
    clear m3
    clear mB0
    have Bc0 := B.cell 0
    have Bc1 := B.cell 1
    have Bc2 := B.cell 2
    have Bc3 := B.cell 3
    have Bc4 := B.cell 4
    go_wp2_with fail
    refine (toStep_any w3 n0 n0' n0'' n0''' g0 a0 c0 X0 (hX0.up N) (by omega)).mono ?_
    rintro e w4 ⟨x0, rfl, xB0, yxB0, m4⟩
    have zm4 := m4.size
    clear Bc0 Bc1 Bc2 Bc3 Bc4
    replace B := B.up m4
    replace N := nxt N m4
    clear m4
    have lxB0 := xB0.lt
    have Tx : RwC (w4.alloc (.cells #[.int .i64 n0, .int .i64 n0', .int .i64 n0'', .int .i64 n0''', .slice (some ⟨x0, 0, none⟩) X0.length X0.length] 27)) w4.heap.size [.int .i64 n0, .int .i64 n0', .int .i64 n0'', .int .i64 n0''', .slice (some ⟨x0, 0, none⟩) X0.length X0.length] 27 := RwC.new w4 _ _
    have m5 : Below w4.heap.size w4 (w4.alloc (.cells #[.int .i64 n0, .int .i64 n0', .int .i64 n0'', .int .i64 n0''', .slice (some ⟨x0, 0, none⟩) X0.length X0.length] 27)) := (Below.refl _ _).alloc (Nat.le_refl _) _
    have zm5 := m5.size
    obtain ⟨pTx, eTx⟩ : ∃ b, b = w4.heap.size := ⟨_, rfl⟩
    have yTx : w4.heap.size ≤ pTx := Nat.le_of_eq eTx.symm
    replace B := B.up m5
    replace xB0 := xB0.up m5
    replace N := nxt N m5
    clear m5
    have Txc0 := Tx.cell 0
    have Txc1 := Tx.cell 1
    have Txc2 := Tx.cell 2
    have Txc3 := Tx.cell 3
    have Txc4 := Tx.cell 4
    go_wp2_with fail
    generalize w4.alloc (.cells #[.int .i64 n0, .int .i64 n0', .int .i64 n0'', .int .i64 n0''', .slice (some ⟨x0, 0, none⟩) X0.length X0.length] 27) = w5 at *
    rw [← eTx] at Tx ⊢
    have lTx := Tx.lt
    clear eTx
    refine (IM w5 _ _ _ xB0.own0.rd (by simp) (Nat.le_refl _) N).mono ?_
    rintro e w6 ⟨rfl, m6⟩
    have zm6 := m6.size
    clear Txc0 Txc1 Txc2 Txc3 Txc4
    replace B := B.up m6
    replace xB0 := xB0.up m6
    replace Tx := Tx.up m6
    replace N := nxt N m6
    clear m6
    go_upto_region 10 with fail
    have CY : Hid (∀ W, Below w6.heap.size w6 W → (W.cell? ⟨pTx, 0, none⟩ = some (.int .i64 n0) ∧ W.cell? ⟨pTx, 1, none⟩ = some (.int .i64 n0') ∧ W.cell? ⟨pTx, 2, none⟩ = some (.int .i64 n0'') ∧ W.cell? ⟨pTx, 3, none⟩ = some (.int .i64 n0''') ∧ W.cell? ⟨pTx, 4, none⟩ = some (.slice (some ⟨x0, 0, none⟩) X0.length X0.length) ∧ W.cell? ⟨w.heap.size, 0, none⟩ = some (.int .i64 n0) ∧ W.cell? ⟨w.heap.size, 1, none⟩ = some (.int .i64 n0') ∧ W.cell? ⟨w.heap.size, 2, none⟩ = some (.int .i64 n0'') ∧ W.cell? ⟨w.heap.size, 3, none⟩ = some (.int .i64 n0''') ∧ W.cell? ⟨w.heap.size, 4, none⟩ = some (.slice a0 X0.length c0))) := fun W m => ⟨(Tx.up m).cell 0, (Tx.up m).cell 1, (Tx.up m).cell 2, (Tx.up m).cell 3, (Tx.up m).cell 4, (B.up m).cell 0, (B.up m).cell 1, (B.up m).cell 2, (B.up m).cell 3, (B.up m).cell 4⟩
    have TO : Hid (∀ W, Below w6.heap.size w6 W → Calls Tryd.prog 6 #[.agg #[.int .i64 n0, .int .i64 n0', .int .i64 n0'', .int .i64 n0''', .slice a0 X0.length c0]] W fun e w' => ∃ f0, e = .returned (.agg #[.int .i64 n0, .int .i64 n0', .int .i64 n0'', .int .i64 n0''', .slice (some ⟨f0, 0, none⟩) X0.length X0.length]) ∧ Blk w' f0 .u8 X0 ∧ Below w6.heap.size w6 w') := fun W m => (toStep_any W n0 n0' n0'' n0''' g0 a0 c0 X0 ((hX0.up N).up m) (by omega)).mono (by
      rintro e w' ⟨f0, rfl, h0, _, l⟩
      exact ⟨f0, rfl, h0, nxt m l⟩)
    have EQ : Hid (∀ W f0, Below w6.heap.size w6 W → Blk W f0 .u8 X0 → Calls Tryd.prog 8 #[.agg #[.int .i64 n0, .int .i64 n0', .int .i64 n0'', .int .i64 n0''', .slice (some ⟨x0, 0, none⟩) X0.length X0.length], .agg #[.int .i64 n0, .int .i64 n0', .int .i64 n0'', .int .i64 n0''', .slice (some ⟨f0, 0, none⟩) X0.length X0.length]] W fun e w' => e = .returned (.bool true) ∧ Below w6.heap.size w6 w') := fun W f0 m h0 => (eqStep_same W n0 n0' n0'' n0''' _ _ _ _ _ _ X0 (xB0.up m).own0.rd h0.own0.rd (by omega)).mono (by
      rintro e w' ⟨rfl, l⟩
      exact ⟨rfl, nxt m l⟩)
    have nd : Below w6.heap.size w6 w6.drew := (Below.refl _ _).drew
    go_region_held3 (fun W => W.cell? ⟨pTx, 0, none⟩ = some (.int .i64 n0) ∧ W.cell? ⟨pTx, 1, none⟩ = some (.int .i64 n0') ∧ W.cell? ⟨pTx, 2, none⟩ = some (.int .i64 n0'') ∧ W.cell? ⟨pTx, 3, none⟩ = some (.int .i64 n0''') ∧ W.cell? ⟨pTx, 4, none⟩ = some (.slice (some ⟨x0, 0, none⟩) X0.length X0.length) ∧ W.cell? ⟨w.heap.size, 0, none⟩ = some (.int .i64 n0) ∧ W.cell? ⟨w.heap.size, 1, none⟩ = some (.int .i64 n0') ∧ W.cell? ⟨w.heap.size, 2, none⟩ = some (.int .i64 n0'') ∧ W.cell? ⟨w.heap.size, 3, none⟩ = some (.int .i64 n0''') ∧ W.cell? ⟨w.heap.size, 4, none⟩ = some (.slice a0 X0.length c0))
      (first | exact (unhide CY) _ m7 | exact (unhide CY) _ bt | exact (unhide CY) _ nd)
      (first
        | (go_at_call 8; refine ((unhide EQ) _ _ bt ft0).mono ?_; rintro r w7 ⟨rfl, m7⟩)
        | (go_at_call 6; refine ((unhide TO) _ nd).mono ?_; rintro r wt ⟨f0, rfl, ft0, bt⟩)
        | fail)
    have zm7 := m7.size
    clear bt nd CY TO EQ ft0
    replace B := B.up m7
    replace xB0 := xB0.up m7
    replace Tx := Tx.up m7
    replace N := nxt N m7
    clear m7
    go_wp2
    go_ret
    exact ⟨rfl, N⟩
  · skip
    have SZ := fun W => hide (szStep_any W n0 n0' n0'' n0''' a0 X0.length c0 1048576 lX0 (by decide) (by decide))
    simp only [if_pos (show ((1048576 : Int) < (X0.length : Int)) by omega)] at SZ
    go_enter Tryd.func3, Tryd.ntmps3
    go_upto_region 1 with fail
    have B : RwC (w.alloc (.cells #[.int .i64 n0, .int .i64 n0', .int .i64 n0'', .int .i64 n0''', .slice a0 X0.length c0] 24)) w.heap.size [.int .i64 n0, .int .i64 n0', .int .i64 n0'', .int .i64 n0''', .slice a0 X0.length c0] 24 := RwC.new w _ _
    have N : Below w.heap.size w (w.alloc (.cells #[.int .i64 n0, .int .i64 n0', .int .i64 n0'', .int .i64 n0''', .slice a0 X0.length c0] 24)) := (Below.refl _ _).alloc (Nat.le_refl _) _
    have zN : (w.alloc (.cells #[.int .i64 n0, .int .i64 n0', .int .i64 n0'', .int .i64 n0''', .slice a0 X0.length c0] 24)).heap.size = w.heap.size + 1 := by simp
    generalize w.alloc (.cells #[.int .i64 n0, .int .i64 n0', .int .i64 n0'', .int .i64 n0''', .slice a0 X0.length c0] 24) = w0 at *
    have lB : w.heap.size < w0.heap.size := by omega
    clear zN
    have Bc0 := B.cell 0
    have Bc1 := B.cell 1
    have Bc2 := B.cell 2
    have Bc3 := B.cell 3
    have Bc4 := B.cell 4
    go_wp2_with fail
    refine ((SZ w0).out).mono ?_
    rintro e w1 ⟨rfl, m1⟩
    have zm1 := m1.size
    clear Bc0 Bc1 Bc2 Bc3 Bc4
    replace B := B.up m1
    replace N := nxt N m1
    clear m1
    go_wp2
    go_ret
    exact ⟨rfl, N⟩
end Go.Proofs.YtojpdongbkdciaaDoor
