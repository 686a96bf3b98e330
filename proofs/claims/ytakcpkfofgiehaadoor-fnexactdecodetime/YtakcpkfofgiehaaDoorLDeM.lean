
/-
  The law of DecodeTime.
-/
import Derived.Test.YtakcpkfofgiehaaDoorCuG
import Derived.Test.YtakcpkfofgiehaaDoorDtS
import Derived.Test.YtakcpkfofgiehaaDoorLaidM
namespace Go.Proofs.YtakcpkfofgiehaaDoor
set_option maxRecDepth 100000
open Go Go.RowKit

set_option maxHeartbeats 1000000 in
theorem eqNumberResult_same (w : World) (t : Bool) (v : Int) :
    Calls Tryd.prog 14 #[.agg #[.bool t, .int .i64 v], .agg #[.bool t, .int .i64 v]] w fun e w' => e = .returned (.bool true) ∧ Below w.heap.size w w' := by
  have n1 : Below w.heap.size w (w.alloc (.cells #[.bool t, .int .i64 v] 28)) := (Below.refl _ _).alloc (Nat.le_refl _) _
  have n2 : Below w.heap.size w ((w.alloc (.cells #[.bool t, .int .i64 v] 28)).alloc (.cells #[.bool t, .int .i64 v] 28)) := n1.alloc (by simp) _
  cases t
  all_goals
    go_enter Tryd.func14, Tryd.ntmps14
    go_wp2
    go_ret
    exact ⟨rfl, n2⟩

set_option maxHeartbeats 2000000 in
theorem decTime_law (w : World) (g0 : Nat) (a0 : Option Addr) (c0 : Nat) (X0 : List Int) (hX0 : Rd w g0 a0 .u8 X0) (bX0 : Byt X0) (hL : HasM w) :
    Calls Tryd.prog 4 #[.slice a0 X0.length c0] w fun e w' => e = .returned (.bool true) ∧ Below w.heap.size w w' := by
  by_cases q0 : X0.length ≤ 1048576
  · have u0 : decide ((1048576 : Int) < (X0.length : Int)) = false := by simp; omega
    have SP := fun W g a c h k => specDecodeTime_any W g a c X0 h bX0 k
    have IM := fun W (m : Below w.heap.size w W) g a c h => implDecodeTime_any W g a c X0 h bX0 q0 (hL.up m)
    generalize tmB X0 = tb at *
    generalize tmV X0 = tv at *
    go_enter Tryd.func4, Tryd.ntmps4
    go_wp2_with fail
    refine (toByteS_any w g0 a0 c0 X0 hX0 q0).mono ?_
    rintro e w1 ⟨rfl, A0, n1⟩
    have N := n1
    go_wp2_with fail
    refine (SP w1 _ _ _ A0.own0.rd (Nat.le_refl _)).mono ?_
    rintro e w2 ⟨rfl, n2⟩
    replace N := nxt N n2
    have TS := Tl.new w2 (.bool tb) (.int .i64 tv) 28
    have n3 : Below w2.heap.size w2 (w2.alloc (.cells #[.bool tb, .int .i64 tv] 28)) := (Below.refl _ _).alloc (Nat.le_refl _) _
    replace N := nxt N n3
    clear A0 n1 n2
    go_wp2_with fail
    generalize w2.alloc (.cells #[.bool tb, .int .i64 tv] 28) = w3 at *
    refine (toByteS_any w3 g0 a0 c0 X0 (hX0.up N) q0).mono ?_
    rintro e w4 ⟨rfl, B0, n4⟩
    replace N := nxt N n4
    replace TS := TS.up n4
    go_wp2_with fail
    refine (IM w4 N _ _ _ B0.own0.rd).mono ?_
    rintro e w5 ⟨rfl, n5⟩
    replace N := nxt N n5
    replace TS := TS.up n5
    replace B0 := B0.up n5
    have TI := Tl.new w5 (.bool tb) (.int .i64 tv) 28
    have n6 : Below w5.heap.size w5 (w5.alloc (.cells #[.bool tb, .int .i64 tv] 28)) := (Below.refl _ _).alloc (Nat.le_refl _) _
    replace N := nxt N n6
    replace TS := TS.up n6
    replace B0 := B0.up n6
    have s0 := TS.c0
    have s1 := TS.c1
    clear n3 n4 n5
    go_wp2_with fail
    generalize w5.alloc (.cells #[.bool tb, .int .i64 tv] 28) = w6 at *
    clear n6
    refine (eqNumberResult_same w6 tb tv).mono ?_
    rintro e w7 ⟨rfl, n7⟩
    replace N := nxt N n7
    replace B0 := B0.up n7
    go_wp2_with fail
    refine (toByteS_any w7 g0 a0 c0 X0 (hX0.up N) q0).mono ?_
    rintro e w8 ⟨rfl, E0, n8⟩
    replace N := nxt N n8
    replace B0 := B0.up n8
    go_wp2_with fail
    refine (eqByteS_same w8 _ _ _ _ _ _ X0 B0.own0.rd E0.own0.rd q0).mono ?_
    rintro e w9 ⟨rfl, n9⟩
    replace N := nxt N n9
    go_wp2
    go_ret
    exact ⟨rfl, N⟩
  · have u0 : decide ((1048576 : Int) < (X0.length : Int)) = true := by simp; omega
    go_enter Tryd.func4, Tryd.ntmps4
    go_wp2
    go_ret
    exact ⟨rfl, Below.refl _ _⟩
end Go.Proofs.YtakcpkfofgiehaaDoor
