
/-
  Messages: a kind that nobody knows.
-/
import Derived.Test.YtfckjoheiabfoaaMgS
namespace Go.Proofs.Ytfckjoheiabfoaa
open Go Go.RowKit

section
variable (w : World) (k v ag ea : Int) (a2 a3 a5 a6 a9 a11 a12 : Option Addr) (n2 n3 n5 n6 n9 n11 n12 c2 c3 c5 c6 c9 c11 c12 : Nat) (ho : ByteArray) (rs : Bool)
set_option maxRecDepth 20000 in
set_option maxHeartbeats 1000000 in
theorem typedNone_any (hk : regV k = .nilFunc) :
    Calls Try.prog 20 #[.agg #[Value.int .i64 k, Value.int .i64 v, Value.slice a2 n2 c2, Value.slice a3 n3 c3, Value.string ho, Value.slice a5 n5 c5, Value.slice a6 n6 c6, Value.int .i64 ag, Value.int .i64 ea, Value.slice a9 n9 c9, Value.bool rs, Value.slice a11 n11 c11, Value.slice a12 n12 c12]] w fun e w' => e = .returned (.tuple #[.nilIface, .int .i64 1]) ∧ Below w.heap.size w w' := by
  have B := hide (RwC.new w [Value.int .i64 k, Value.int .i64 v, Value.slice a2 n2 c2, Value.slice a3 n3 c3, Value.string ho, Value.slice a5 n5 c5, Value.slice a6 n6 c6, Value.int .i64 ag, Value.int .i64 ea, Value.slice a9 n9 c9, Value.bool rs, Value.slice a11 n11 c11, Value.slice a12 n12 c12] 31)
  have N := hide (show Below w.heap.size w (w.alloc (.cells #[Value.int .i64 k, Value.int .i64 v, Value.slice a2 n2 c2, Value.slice a3 n3 c3, Value.string ho, Value.slice a5 n5 c5, Value.slice a6 n6 c6, Value.int .i64 ag, Value.int .i64 ea, Value.slice a9 n9 c9, Value.bool rs, Value.slice a11 n11 c11, Value.slice a12 n12 c12] 31)) from (Below.refl _ _).alloc (Nat.le_refl _) _)
  have MK := hide messageKinds_any
  have HK := hide hk
  have eq0 : ∀ W, (binOp .eql 60 .nilFunc .nilFunc).run Try.prog W = .ok (.bool true) W := fun _ => by kernel_rfl
  clear hk
  go_enter Try.func20, Try.ntmps20
  go_wp2
  go_region_with (go_at_call 28; refine (MK.out _).mono ?_; rintro e w1 ⟨rfl, hb, n⟩; have l0 : w1.cell? ⟨w.heap.size, 0, none⟩ = some (.int .i64 k) := (B.out.drew1.up n).cell 0; have lk : (Instr.lookup 62 (.map (some (w.heap.size + 1))) (.int .i64 k) false).run Try.prog w1 = .ok .nilFunc w1 := (regLook w1 (w.heap.size + 1) (by simpa using hb) k).trans (by rw [HK.out]); have N1 := hide (nxt N.out.drew n); clear n hb)
  all_goals
    go_wp2
    go_ret2
    exact ⟨rfl, N1.out⟩
end
end Go.Proofs.Ytfckjoheiabfoaa
