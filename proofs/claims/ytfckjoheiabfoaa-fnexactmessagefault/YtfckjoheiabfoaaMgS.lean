
/-
  Messages: the kinds made.
-/
import Derived.Test.YtfckjoheiabfoaaMgJ
namespace Go.Proofs.Ytfckjoheiabfoaa
open Go Go.RowKit

theorem newHello_any (w : World) : Calls Try.prog 32 #[] w fun e w' => e = .returned (.iface 68 (.pointer (some ⟨w.heap.size, 0, none⟩))) ∧ RwC w' w.heap.size [.int .i64 0, .slice none 0 0, .slice none 0 0, .string ⟨#[]⟩, .slice none 0 0, .slice none 0 0, .int .i64 0, .int .i64 0, .slice none 0 0] 72 ∧ Below w.heap.size w w' := by
  go_enter Try.func32, Try.ntmps32
  go_wp2
  go_ret
  exact ⟨rfl, RwC.new w _ _, (Below.refl _ _).alloc (Nat.le_refl _) _⟩
theorem newAnswer_any (w : World) : Calls Try.prog 33 #[] w fun e w' => e = .returned (.iface 73 (.pointer (some ⟨w.heap.size, 0, none⟩))) ∧ RwC w' w.heap.size [.int .i64 0, .slice none 0 0, .slice none 0 0, .bool false] 75 ∧ Below w.heap.size w w' := by
  go_enter Try.func33, Try.ntmps33
  go_wp2
  go_ret
  exact ⟨rfl, RwC.new w _ _, (Below.refl _ _).alloc (Nat.le_refl _) _⟩
theorem newTicket_any (w : World) : Calls Try.prog 34 #[] w fun e w' => e = .returned (.iface 76 (.pointer (some ⟨w.heap.size, 0, none⟩))) ∧ RwC w' w.heap.size [.int .i64 0, .int .i64 0, .slice none 0 0, .slice none 0 0] 78 ∧ Below w.heap.size w w' := by
  go_enter Try.func34, Try.ntmps34
  go_wp2
  go_ret
  exact ⟨rfl, RwC.new w _ _, (Below.refl _ _).alloc (Nat.le_refl _) _⟩
theorem newEnd_any (w : World) : Calls Try.prog 35 #[] w fun e w' => e = .returned (.iface 79 (.pointer (some ⟨w.heap.size, 0, none⟩))) ∧ RwC w' w.heap.size [] 81 ∧ Below w.heap.size w w' := by
  go_enter Try.func35, Try.ntmps35
  go_wp2
  go_ret
  exact ⟨rfl, RwC.new w _ _, (Below.refl _ _).alloc (Nat.le_refl _) _⟩
theorem newExtras_any (w : World) : Calls Try.prog 36 #[] w fun e w' => e = .returned (.iface 82 (.pointer (some ⟨w.heap.size, 0, none⟩))) ∧ RwC w' w.heap.size [.slice none 0 0, .int .i64 0] 84 ∧ Below w.heap.size w w' := by
  go_enter Try.func36, Try.ntmps36
  go_wp2
  go_ret
  exact ⟨rfl, RwC.new w _ _, (Below.refl _ _).alloc (Nat.le_refl _) _⟩
theorem newCerts_any (w : World) : Calls Try.prog 37 #[] w fun e w' => e = .returned (.iface 85 (.pointer (some ⟨w.heap.size, 0, none⟩))) ∧ RwC w' w.heap.size [.slice none 0 0] 87 ∧ Below w.heap.size w w' := by
  go_enter Try.func37, Try.ntmps37
  go_wp2
  go_ret
  exact ⟨rfl, RwC.new w _ _, (Below.refl _ _).alloc (Nat.le_refl _) _⟩
theorem newProof_any (w : World) : Calls Try.prog 38 #[] w fun e w' => e = .returned (.iface 88 (.pointer (some ⟨w.heap.size, 0, none⟩))) ∧ RwC w' w.heap.size [.slice none 0 0] 90 ∧ Below w.heap.size w w' := by
  go_enter Try.func38, Try.ntmps38
  go_wp2
  go_ret
  exact ⟨rfl, RwC.new w _ _, (Below.refl _ _).alloc (Nat.le_refl _) _⟩
theorem newFinished_any (w : World) : Calls Try.prog 39 #[] w fun e w' => e = .returned (.iface 91 (.pointer (some ⟨w.heap.size, 0, none⟩))) ∧ RwC w' w.heap.size [.slice none 0 0] 92 ∧ Below w.heap.size w w' := by
  go_enter Try.func39, Try.ntmps39
  go_wp2
  go_ret
  exact ⟨rfl, RwC.new w _ _, (Below.refl _ _).alloc (Nat.le_refl _) _⟩
theorem newUpdate_any (w : World) : Calls Try.prog 40 #[] w fun e w' => e = .returned (.iface 93 (.pointer (some ⟨w.heap.size, 0, none⟩))) ∧ RwC w' w.heap.size [.int .i64 0] 95 ∧ Below w.heap.size w w' := by
  go_enter Try.func40, Try.ntmps40
  go_wp2
  go_ret
  exact ⟨rfl, RwC.new w _ _, (Below.refl _ _).alloc (Nat.le_refl _) _⟩
end Go.Proofs.Ytfckjoheiabfoaa
