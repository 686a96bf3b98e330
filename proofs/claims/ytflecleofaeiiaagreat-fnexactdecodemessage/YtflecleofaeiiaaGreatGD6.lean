import Derived.Test.YtflecleofaeiiaaGreatGD5
import Derived.Deep.MidRow

/-
  Messages: a kind written out again.
-/
namespace Go.Proofs.YtflecleofaeiiaaGreat
open Go Go.RowKit

theorem iM : (Tryz.prog.info? 26).map (·.size) = some 13 := by kernel_rfl
theorem rowM : ∃ d, Tryz.prog.underlying 26 = some d ∧ d.isRow = true := ⟨_, Tryz.underlying26, rfl⟩
theorem results_cellM {P : Program} {fn : Func} {p : Tmp} {ty : TypeId} (h : fn.results = #[.cell p ty]) (tmps : Array Value) (w : World) (g : Nat) (cs : List Value) (d : TypeDesc)
    (hp : tmps.getD p undef = .pointer (some ⟨g, 0, none⟩)) (hc : w.rangeAt g 0 cs) (hu : P.underlying ty = some d) (hd : d.isRow = true) (hi : (P.info? ty).map (·.size) = some cs.length) :
    (results fn tmps).run P w = .ok (.agg cs.toArray) w := by
  have hp' : tmps[p]?.getD undef = .pointer (some ⟨g, 0, none⟩) := by simpa using hp
  simp [results, h, hp', asAddr, run_loadVar_mid w g 0 ty cs d hc hu hd hi]
theorem RwC.range {w : World} {q : Nat} {cs : List Value} {t : TypeId} (h : RwC w q cs t) : w.rangeAt q 0 cs := fun j v hj => by
  rw [Nat.zero_add]
  exact (h.cell j).trans hj

section
variable (w : World) (q : Nat) (t : TypeId) (v ag ea : Int) (a2 a3 a5 a6 a9 a11 a12 : Option Addr) (n2 n3 n5 n6 n9 n11 n12 c2 c3 c5 c6 c9 c11 c12 : Nat) (ho : ByteArray) (rs : Bool)
set_option maxRecDepth 20000 in
set_option maxHeartbeats 1000000 in
theorem plainAnswer_any (h : RwC w q [Value.int .i64 v, Value.slice a2 n2 c2, Value.slice a3 n3 c3, Value.bool rs] t) :
    Calls Tryz.prog 55 #[.iface 76 (.pointer (some ⟨q, 0, none⟩))] w fun e w' => e = .returned (.agg #[Value.int .i64 2, Value.int .i64 v, Value.slice a2 n2 c2, Value.slice a3 n3 c3, Value.string ⟨#[]⟩, Value.slice none 0 0, Value.slice none 0 0, Value.int .i64 0, Value.int .i64 0, Value.slice none 0 0, Value.bool rs, Value.slice none 0 0, Value.slice none 0 0]) ∧ Below w.heap.size w w' := by
  have lt := h.lt
  have nq : w.heap.size ≠ q := by omega
  have qn : q ≠ w.heap.size := by omega
  have h0 : w.cell? ⟨q, 0, none⟩ = some (Value.int .i64 v) := h.cell 0
  have h1 : w.cell? ⟨q, 1, none⟩ = some (Value.slice a2 n2 c2) := h.cell 1
  have h2 : w.cell? ⟨q, 2, none⟩ = some (Value.slice a3 n3 c3) := h.cell 2
  have h3 : w.cell? ⟨q, 3, none⟩ = some (Value.bool rs) := h.cell 3
  have A_helloMessage : ∀ (x : Value) (W : World), (Instr.typeAssert (.iface 76 x) 69 70 true).run Tryz.prog W = .ok (.tuple #[.pointer none, .bool false]) W := fun _ _ => by kernel_rfl
  have A_answerMessage : ∀ (x : Value) (W : World), (Instr.typeAssert (.iface 76 x) 69 76 true).run Tryz.prog W = .ok (.tuple #[x, .bool true]) W := fun _ _ => by kernel_rfl
  clear h
  have RN := hide (RwC.new w [Value.int .i64 2, Value.int .i64 v, Value.slice a2 n2 c2, Value.slice a3 n3 c3, Value.string ⟨#[]⟩, Value.slice none 0 0, Value.slice none 0 0, Value.int .i64 0, Value.int .i64 0, Value.slice none 0 0, Value.bool rs, Value.slice none 0 0, Value.slice none 0 0] 26)
  obtain ⟨d13, hd13, hrow13⟩ := rowM
  go_enter Tryz.func55, Tryz.ntmps55
  go_wp2
  go_region
  go_wp2
  exact bodyPost_ret (v := .agg #[Value.int .i64 2, Value.int .i64 v, Value.slice a2 n2 c2, Value.slice a3 n3 c3, Value.string ⟨#[]⟩, Value.slice none 0 0, Value.slice none 0 0, Value.int .i64 0, Value.int .i64 0, Value.slice none 0 0, Value.bool rs, Value.slice none 0 0, Value.slice none 0 0]) (results_cellM Tryz.results55 _ _ w.heap.size [Value.int .i64 2, Value.int .i64 v, Value.slice a2 n2 c2, Value.slice a3 n3 c3, Value.string ⟨#[]⟩, Value.slice none 0 0, Value.slice none 0 0, Value.int .i64 0, Value.int .i64 0, Value.slice none 0 0, Value.bool rs, Value.slice none 0 0, Value.slice none 0 0] d13 rfl (RN.out.drew1.range) hd13 hrow13 iM) rfl ⟨rfl, ((Below.refl _ _).alloc (Nat.le_refl _) _).drew⟩
set_option maxRecDepth 20000 in
set_option maxHeartbeats 1000000 in
theorem plainTicket_any (h : RwC w q [Value.int .i64 ag, Value.int .i64 ea, Value.slice a2 n2 c2, Value.slice a6 n6 c6] t) :
    Calls Tryz.prog 55 #[.iface 79 (.pointer (some ⟨q, 0, none⟩))] w fun e w' => e = .returned (.agg #[Value.int .i64 4, Value.int .i64 0, Value.slice a2 n2 c2, Value.slice none 0 0, Value.string ⟨#[]⟩, Value.slice none 0 0, Value.slice a6 n6 c6, Value.int .i64 ag, Value.int .i64 ea, Value.slice none 0 0, Value.bool false, Value.slice none 0 0, Value.slice none 0 0]) ∧ Below w.heap.size w w' := by
  have lt := h.lt
  have nq : w.heap.size ≠ q := by omega
  have qn : q ≠ w.heap.size := by omega
  have h0 : w.cell? ⟨q, 0, none⟩ = some (Value.int .i64 ag) := h.cell 0
  have h1 : w.cell? ⟨q, 1, none⟩ = some (Value.int .i64 ea) := h.cell 1
  have h2 : w.cell? ⟨q, 2, none⟩ = some (Value.slice a2 n2 c2) := h.cell 2
  have h3 : w.cell? ⟨q, 3, none⟩ = some (Value.slice a6 n6 c6) := h.cell 3
  have A_helloMessage : ∀ (x : Value) (W : World), (Instr.typeAssert (.iface 79 x) 69 70 true).run Tryz.prog W = .ok (.tuple #[.pointer none, .bool false]) W := fun _ _ => by kernel_rfl
  have A_answerMessage : ∀ (x : Value) (W : World), (Instr.typeAssert (.iface 79 x) 69 76 true).run Tryz.prog W = .ok (.tuple #[.pointer none, .bool false]) W := fun _ _ => by kernel_rfl
  have A_ticketMessage : ∀ (x : Value) (W : World), (Instr.typeAssert (.iface 79 x) 69 79 true).run Tryz.prog W = .ok (.tuple #[x, .bool true]) W := fun _ _ => by kernel_rfl
  clear h
  have RN := hide (RwC.new w [Value.int .i64 4, Value.int .i64 0, Value.slice a2 n2 c2, Value.slice none 0 0, Value.string ⟨#[]⟩, Value.slice none 0 0, Value.slice a6 n6 c6, Value.int .i64 ag, Value.int .i64 ea, Value.slice none 0 0, Value.bool false, Value.slice none 0 0, Value.slice none 0 0] 26)
  obtain ⟨d13, hd13, hrow13⟩ := rowM
  go_enter Tryz.func55, Tryz.ntmps55
  go_wp2
  go_region
  go_wp2
  exact bodyPost_ret (v := .agg #[Value.int .i64 4, Value.int .i64 0, Value.slice a2 n2 c2, Value.slice none 0 0, Value.string ⟨#[]⟩, Value.slice none 0 0, Value.slice a6 n6 c6, Value.int .i64 ag, Value.int .i64 ea, Value.slice none 0 0, Value.bool false, Value.slice none 0 0, Value.slice none 0 0]) (results_cellM Tryz.results55 _ _ w.heap.size [Value.int .i64 4, Value.int .i64 0, Value.slice a2 n2 c2, Value.slice none 0 0, Value.string ⟨#[]⟩, Value.slice none 0 0, Value.slice a6 n6 c6, Value.int .i64 ag, Value.int .i64 ea, Value.slice none 0 0, Value.bool false, Value.slice none 0 0, Value.slice none 0 0] d13 rfl (RN.out.drew1.range) hd13 hrow13 iM) rfl ⟨rfl, ((Below.refl _ _).alloc (Nat.le_refl _) _).drew⟩
set_option maxRecDepth 20000 in
set_option maxHeartbeats 1000000 in
theorem plainEnd_any (x : Value) :
    Calls Tryz.prog 55 #[.iface 82 x] w fun e w' => e = .returned (.agg #[Value.int .i64 5, Value.int .i64 0, Value.slice none 0 0, Value.slice none 0 0, Value.string ⟨#[]⟩, Value.slice none 0 0, Value.slice none 0 0, Value.int .i64 0, Value.int .i64 0, Value.slice none 0 0, Value.bool false, Value.slice none 0 0, Value.slice none 0 0]) ∧ Below w.heap.size w w' := by
  have A_helloMessage : ∀ (x : Value) (W : World), (Instr.typeAssert (.iface 82 x) 69 70 true).run Tryz.prog W = .ok (.tuple #[.pointer none, .bool false]) W := fun _ _ => by kernel_rfl
  have A_answerMessage : ∀ (x : Value) (W : World), (Instr.typeAssert (.iface 82 x) 69 76 true).run Tryz.prog W = .ok (.tuple #[.pointer none, .bool false]) W := fun _ _ => by kernel_rfl
  have A_ticketMessage : ∀ (x : Value) (W : World), (Instr.typeAssert (.iface 82 x) 69 79 true).run Tryz.prog W = .ok (.tuple #[.pointer none, .bool false]) W := fun _ _ => by kernel_rfl
  have A_endOfEarlyMessage : ∀ (x : Value) (W : World), (Instr.typeAssert (.iface 82 x) 69 82 true).run Tryz.prog W = .ok (.tuple #[x, .bool true]) W := fun _ _ => by kernel_rfl
  have RN := hide (RwC.new w [Value.int .i64 5, Value.int .i64 0, Value.slice none 0 0, Value.slice none 0 0, Value.string ⟨#[]⟩, Value.slice none 0 0, Value.slice none 0 0, Value.int .i64 0, Value.int .i64 0, Value.slice none 0 0, Value.bool false, Value.slice none 0 0, Value.slice none 0 0] 26)
  obtain ⟨d13, hd13, hrow13⟩ := rowM
  go_enter Tryz.func55, Tryz.ntmps55
  go_wp2
  exact bodyPost_ret (v := .agg #[Value.int .i64 5, Value.int .i64 0, Value.slice none 0 0, Value.slice none 0 0, Value.string ⟨#[]⟩, Value.slice none 0 0, Value.slice none 0 0, Value.int .i64 0, Value.int .i64 0, Value.slice none 0 0, Value.bool false, Value.slice none 0 0, Value.slice none 0 0]) (results_cellM Tryz.results55 _ _ w.heap.size [Value.int .i64 5, Value.int .i64 0, Value.slice none 0 0, Value.slice none 0 0, Value.string ⟨#[]⟩, Value.slice none 0 0, Value.slice none 0 0, Value.int .i64 0, Value.int .i64 0, Value.slice none 0 0, Value.bool false, Value.slice none 0 0, Value.slice none 0 0] d13 rfl (RN.out.range) hd13 hrow13 iM) rfl ⟨rfl, ((Below.refl _ _).alloc (Nat.le_refl _) _)⟩
set_option maxRecDepth 20000 in
set_option maxHeartbeats 1000000 in
theorem plainExtras_any (h : RwC w q [Value.slice a5 n5 c5, Value.int .i64 ea] t) :
    Calls Tryz.prog 55 #[.iface 85 (.pointer (some ⟨q, 0, none⟩))] w fun e w' => e = .returned (.agg #[Value.int .i64 8, Value.int .i64 0, Value.slice none 0 0, Value.slice none 0 0, Value.string ⟨#[]⟩, Value.slice a5 n5 c5, Value.slice none 0 0, Value.int .i64 0, Value.int .i64 ea, Value.slice none 0 0, Value.bool false, Value.slice none 0 0, Value.slice none 0 0]) ∧ Below w.heap.size w w' := by
  have lt := h.lt
  have nq : w.heap.size ≠ q := by omega
  have qn : q ≠ w.heap.size := by omega
  have h0 : w.cell? ⟨q, 0, none⟩ = some (Value.slice a5 n5 c5) := h.cell 0
  have h1 : w.cell? ⟨q, 1, none⟩ = some (Value.int .i64 ea) := h.cell 1
  have A_helloMessage : ∀ (x : Value) (W : World), (Instr.typeAssert (.iface 85 x) 69 70 true).run Tryz.prog W = .ok (.tuple #[.pointer none, .bool false]) W := fun _ _ => by kernel_rfl
  have A_answerMessage : ∀ (x : Value) (W : World), (Instr.typeAssert (.iface 85 x) 69 76 true).run Tryz.prog W = .ok (.tuple #[.pointer none, .bool false]) W := fun _ _ => by kernel_rfl
  have A_ticketMessage : ∀ (x : Value) (W : World), (Instr.typeAssert (.iface 85 x) 69 79 true).run Tryz.prog W = .ok (.tuple #[.pointer none, .bool false]) W := fun _ _ => by kernel_rfl
  have A_endOfEarlyMessage : ∀ (x : Value) (W : World), (Instr.typeAssert (.iface 85 x) 69 82 true).run Tryz.prog W = .ok (.tuple #[.pointer none, .bool false]) W := fun _ _ => by kernel_rfl
  have A_extrasMessage : ∀ (x : Value) (W : World), (Instr.typeAssert (.iface 85 x) 69 85 true).run Tryz.prog W = .ok (.tuple #[x, .bool true]) W := fun _ _ => by kernel_rfl
  clear h
  have RN := hide (RwC.new w [Value.int .i64 8, Value.int .i64 0, Value.slice none 0 0, Value.slice none 0 0, Value.string ⟨#[]⟩, Value.slice a5 n5 c5, Value.slice none 0 0, Value.int .i64 0, Value.int .i64 ea, Value.slice none 0 0, Value.bool false, Value.slice none 0 0, Value.slice none 0 0] 26)
  obtain ⟨d13, hd13, hrow13⟩ := rowM
  go_enter Tryz.func55, Tryz.ntmps55
  go_wp2
  go_region
  go_wp2
  exact bodyPost_ret (v := .agg #[Value.int .i64 8, Value.int .i64 0, Value.slice none 0 0, Value.slice none 0 0, Value.string ⟨#[]⟩, Value.slice a5 n5 c5, Value.slice none 0 0, Value.int .i64 0, Value.int .i64 ea, Value.slice none 0 0, Value.bool false, Value.slice none 0 0, Value.slice none 0 0]) (results_cellM Tryz.results55 _ _ w.heap.size [Value.int .i64 8, Value.int .i64 0, Value.slice none 0 0, Value.slice none 0 0, Value.string ⟨#[]⟩, Value.slice a5 n5 c5, Value.slice none 0 0, Value.int .i64 0, Value.int .i64 ea, Value.slice none 0 0, Value.bool false, Value.slice none 0 0, Value.slice none 0 0] d13 rfl (RN.out.drew1.range) hd13 hrow13 iM) rfl ⟨rfl, ((Below.refl _ _).alloc (Nat.le_refl _) _).drew⟩
set_option maxRecDepth 20000 in
set_option maxHeartbeats 1000000 in
theorem plainCerts_any (h : RwC w q [Value.slice a11 n11 c11] t) :
    Calls Tryz.prog 55 #[.iface 88 (.pointer (some ⟨q, 0, none⟩))] w fun e w' => e = .returned (.agg #[Value.int .i64 11, Value.int .i64 0, Value.slice none 0 0, Value.slice none 0 0, Value.string ⟨#[]⟩, Value.slice none 0 0, Value.slice none 0 0, Value.int .i64 0, Value.int .i64 0, Value.slice none 0 0, Value.bool false, Value.slice a11 n11 c11, Value.slice none 0 0]) ∧ Below w.heap.size w w' := by
  have lt := h.lt
  have nq : w.heap.size ≠ q := by omega
  have qn : q ≠ w.heap.size := by omega
  have h0 : w.cell? ⟨q, 0, none⟩ = some (Value.slice a11 n11 c11) := h.cell 0
  have A_helloMessage : ∀ (x : Value) (W : World), (Instr.typeAssert (.iface 88 x) 69 70 true).run Tryz.prog W = .ok (.tuple #[.pointer none, .bool false]) W := fun _ _ => by kernel_rfl
  have A_answerMessage : ∀ (x : Value) (W : World), (Instr.typeAssert (.iface 88 x) 69 76 true).run Tryz.prog W = .ok (.tuple #[.pointer none, .bool false]) W := fun _ _ => by kernel_rfl
  have A_ticketMessage : ∀ (x : Value) (W : World), (Instr.typeAssert (.iface 88 x) 69 79 true).run Tryz.prog W = .ok (.tuple #[.pointer none, .bool false]) W := fun _ _ => by kernel_rfl
  have A_endOfEarlyMessage : ∀ (x : Value) (W : World), (Instr.typeAssert (.iface 88 x) 69 82 true).run Tryz.prog W = .ok (.tuple #[.pointer none, .bool false]) W := fun _ _ => by kernel_rfl
  have A_extrasMessage : ∀ (x : Value) (W : World), (Instr.typeAssert (.iface 88 x) 69 85 true).run Tryz.prog W = .ok (.tuple #[.pointer none, .bool false]) W := fun _ _ => by kernel_rfl
  have A_certsMessage : ∀ (x : Value) (W : World), (Instr.typeAssert (.iface 88 x) 69 88 true).run Tryz.prog W = .ok (.tuple #[x, .bool true]) W := fun _ _ => by kernel_rfl
  clear h
  have RN := hide (RwC.new w [Value.int .i64 11, Value.int .i64 0, Value.slice none 0 0, Value.slice none 0 0, Value.string ⟨#[]⟩, Value.slice none 0 0, Value.slice none 0 0, Value.int .i64 0, Value.int .i64 0, Value.slice none 0 0, Value.bool false, Value.slice a11 n11 c11, Value.slice none 0 0] 26)
  obtain ⟨d13, hd13, hrow13⟩ := rowM
  go_enter Tryz.func55, Tryz.ntmps55
  go_wp2
  exact bodyPost_ret (v := .agg #[Value.int .i64 11, Value.int .i64 0, Value.slice none 0 0, Value.slice none 0 0, Value.string ⟨#[]⟩, Value.slice none 0 0, Value.slice none 0 0, Value.int .i64 0, Value.int .i64 0, Value.slice none 0 0, Value.bool false, Value.slice a11 n11 c11, Value.slice none 0 0]) (results_cellM Tryz.results55 _ _ w.heap.size [Value.int .i64 11, Value.int .i64 0, Value.slice none 0 0, Value.slice none 0 0, Value.string ⟨#[]⟩, Value.slice none 0 0, Value.slice none 0 0, Value.int .i64 0, Value.int .i64 0, Value.slice none 0 0, Value.bool false, Value.slice a11 n11 c11, Value.slice none 0 0] d13 rfl (RN.out.range) hd13 hrow13 iM) rfl ⟨rfl, ((Below.refl _ _).alloc (Nat.le_refl _) _)⟩
set_option maxRecDepth 20000 in
set_option maxHeartbeats 1000000 in
theorem plainProof_any (h : RwC w q [Value.slice a12 n12 c12] t) :
    Calls Tryz.prog 55 #[.iface 91 (.pointer (some ⟨q, 0, none⟩))] w fun e w' => e = .returned (.agg #[Value.int .i64 15, Value.int .i64 0, Value.slice none 0 0, Value.slice none 0 0, Value.string ⟨#[]⟩, Value.slice none 0 0, Value.slice none 0 0, Value.int .i64 0, Value.int .i64 0, Value.slice none 0 0, Value.bool false, Value.slice none 0 0, Value.slice a12 n12 c12]) ∧ Below w.heap.size w w' := by
  have lt := h.lt
  have nq : w.heap.size ≠ q := by omega
  have qn : q ≠ w.heap.size := by omega
  have h0 : w.cell? ⟨q, 0, none⟩ = some (Value.slice a12 n12 c12) := h.cell 0
  have A_helloMessage : ∀ (x : Value) (W : World), (Instr.typeAssert (.iface 91 x) 69 70 true).run Tryz.prog W = .ok (.tuple #[.pointer none, .bool false]) W := fun _ _ => by kernel_rfl
  have A_answerMessage : ∀ (x : Value) (W : World), (Instr.typeAssert (.iface 91 x) 69 76 true).run Tryz.prog W = .ok (.tuple #[.pointer none, .bool false]) W := fun _ _ => by kernel_rfl
  have A_ticketMessage : ∀ (x : Value) (W : World), (Instr.typeAssert (.iface 91 x) 69 79 true).run Tryz.prog W = .ok (.tuple #[.pointer none, .bool false]) W := fun _ _ => by kernel_rfl
  have A_endOfEarlyMessage : ∀ (x : Value) (W : World), (Instr.typeAssert (.iface 91 x) 69 82 true).run Tryz.prog W = .ok (.tuple #[.pointer none, .bool false]) W := fun _ _ => by kernel_rfl
  have A_extrasMessage : ∀ (x : Value) (W : World), (Instr.typeAssert (.iface 91 x) 69 85 true).run Tryz.prog W = .ok (.tuple #[.pointer none, .bool false]) W := fun _ _ => by kernel_rfl
  have A_certsMessage : ∀ (x : Value) (W : World), (Instr.typeAssert (.iface 91 x) 69 88 true).run Tryz.prog W = .ok (.tuple #[.pointer none, .bool false]) W := fun _ _ => by kernel_rfl
  have A_proofMessage : ∀ (x : Value) (W : World), (Instr.typeAssert (.iface 91 x) 69 91 true).run Tryz.prog W = .ok (.tuple #[x, .bool true]) W := fun _ _ => by kernel_rfl
  clear h
  have RN := hide (RwC.new w [Value.int .i64 15, Value.int .i64 0, Value.slice none 0 0, Value.slice none 0 0, Value.string ⟨#[]⟩, Value.slice none 0 0, Value.slice none 0 0, Value.int .i64 0, Value.int .i64 0, Value.slice none 0 0, Value.bool false, Value.slice none 0 0, Value.slice a12 n12 c12] 26)
  obtain ⟨d13, hd13, hrow13⟩ := rowM
  go_enter Tryz.func55, Tryz.ntmps55
  go_wp2
  exact bodyPost_ret (v := .agg #[Value.int .i64 15, Value.int .i64 0, Value.slice none 0 0, Value.slice none 0 0, Value.string ⟨#[]⟩, Value.slice none 0 0, Value.slice none 0 0, Value.int .i64 0, Value.int .i64 0, Value.slice none 0 0, Value.bool false, Value.slice none 0 0, Value.slice a12 n12 c12]) (results_cellM Tryz.results55 _ _ w.heap.size [Value.int .i64 15, Value.int .i64 0, Value.slice none 0 0, Value.slice none 0 0, Value.string ⟨#[]⟩, Value.slice none 0 0, Value.slice none 0 0, Value.int .i64 0, Value.int .i64 0, Value.slice none 0 0, Value.bool false, Value.slice none 0 0, Value.slice a12 n12 c12] d13 rfl (RN.out.range) hd13 hrow13 iM) rfl ⟨rfl, ((Below.refl _ _).alloc (Nat.le_refl _) _)⟩
set_option maxRecDepth 20000 in
set_option maxHeartbeats 1000000 in
theorem plainFinished_any (h : RwC w q [Value.slice a12 n12 c12] t) :
    Calls Tryz.prog 55 #[.iface 94 (.pointer (some ⟨q, 0, none⟩))] w fun e w' => e = .returned (.agg #[Value.int .i64 20, Value.int .i64 0, Value.slice none 0 0, Value.slice none 0 0, Value.string ⟨#[]⟩, Value.slice none 0 0, Value.slice none 0 0, Value.int .i64 0, Value.int .i64 0, Value.slice none 0 0, Value.bool false, Value.slice none 0 0, Value.slice a12 n12 c12]) ∧ Below w.heap.size w w' := by
  have lt := h.lt
  have nq : w.heap.size ≠ q := by omega
  have qn : q ≠ w.heap.size := by omega
  have h0 : w.cell? ⟨q, 0, none⟩ = some (Value.slice a12 n12 c12) := h.cell 0
  have A_helloMessage : ∀ (x : Value) (W : World), (Instr.typeAssert (.iface 94 x) 69 70 true).run Tryz.prog W = .ok (.tuple #[.pointer none, .bool false]) W := fun _ _ => by kernel_rfl
  have A_answerMessage : ∀ (x : Value) (W : World), (Instr.typeAssert (.iface 94 x) 69 76 true).run Tryz.prog W = .ok (.tuple #[.pointer none, .bool false]) W := fun _ _ => by kernel_rfl
  have A_ticketMessage : ∀ (x : Value) (W : World), (Instr.typeAssert (.iface 94 x) 69 79 true).run Tryz.prog W = .ok (.tuple #[.pointer none, .bool false]) W := fun _ _ => by kernel_rfl
  have A_endOfEarlyMessage : ∀ (x : Value) (W : World), (Instr.typeAssert (.iface 94 x) 69 82 true).run Tryz.prog W = .ok (.tuple #[.pointer none, .bool false]) W := fun _ _ => by kernel_rfl
  have A_extrasMessage : ∀ (x : Value) (W : World), (Instr.typeAssert (.iface 94 x) 69 85 true).run Tryz.prog W = .ok (.tuple #[.pointer none, .bool false]) W := fun _ _ => by kernel_rfl
  have A_certsMessage : ∀ (x : Value) (W : World), (Instr.typeAssert (.iface 94 x) 69 88 true).run Tryz.prog W = .ok (.tuple #[.pointer none, .bool false]) W := fun _ _ => by kernel_rfl
  have A_proofMessage : ∀ (x : Value) (W : World), (Instr.typeAssert (.iface 94 x) 69 91 true).run Tryz.prog W = .ok (.tuple #[.pointer none, .bool false]) W := fun _ _ => by kernel_rfl
  have A_finishedMessage : ∀ (x : Value) (W : World), (Instr.typeAssert (.iface 94 x) 69 94 true).run Tryz.prog W = .ok (.tuple #[x, .bool true]) W := fun _ _ => by kernel_rfl
  clear h
  have RN := hide (RwC.new w [Value.int .i64 20, Value.int .i64 0, Value.slice none 0 0, Value.slice none 0 0, Value.string ⟨#[]⟩, Value.slice none 0 0, Value.slice none 0 0, Value.int .i64 0, Value.int .i64 0, Value.slice none 0 0, Value.bool false, Value.slice none 0 0, Value.slice a12 n12 c12] 26)
  obtain ⟨d13, hd13, hrow13⟩ := rowM
  go_enter Tryz.func55, Tryz.ntmps55
  go_wp2
  exact bodyPost_ret (v := .agg #[Value.int .i64 20, Value.int .i64 0, Value.slice none 0 0, Value.slice none 0 0, Value.string ⟨#[]⟩, Value.slice none 0 0, Value.slice none 0 0, Value.int .i64 0, Value.int .i64 0, Value.slice none 0 0, Value.bool false, Value.slice none 0 0, Value.slice a12 n12 c12]) (results_cellM Tryz.results55 _ _ w.heap.size [Value.int .i64 20, Value.int .i64 0, Value.slice none 0 0, Value.slice none 0 0, Value.string ⟨#[]⟩, Value.slice none 0 0, Value.slice none 0 0, Value.int .i64 0, Value.int .i64 0, Value.slice none 0 0, Value.bool false, Value.slice none 0 0, Value.slice a12 n12 c12] d13 rfl (RN.out.range) hd13 hrow13 iM) rfl ⟨rfl, ((Below.refl _ _).alloc (Nat.le_refl _) _)⟩
set_option maxRecDepth 20000 in
set_option maxHeartbeats 1000000 in
theorem plainUpdate_any (h : RwC w q [Value.int .i64 ea] t) :
    Calls Tryz.prog 55 #[.iface 96 (.pointer (some ⟨q, 0, none⟩))] w fun e w' => e = .returned (.agg #[Value.int .i64 24, Value.int .i64 0, Value.slice none 0 0, Value.slice none 0 0, Value.string ⟨#[]⟩, Value.slice none 0 0, Value.slice none 0 0, Value.int .i64 0, Value.int .i64 ea, Value.slice none 0 0, Value.bool false, Value.slice none 0 0, Value.slice none 0 0]) ∧ Below w.heap.size w w' := by
  have lt := h.lt
  have nq : w.heap.size ≠ q := by omega
  have qn : q ≠ w.heap.size := by omega
  have h0 : w.cell? ⟨q, 0, none⟩ = some (Value.int .i64 ea) := h.cell 0
  have A_helloMessage : ∀ (x : Value) (W : World), (Instr.typeAssert (.iface 96 x) 69 70 true).run Tryz.prog W = .ok (.tuple #[.pointer none, .bool false]) W := fun _ _ => by kernel_rfl
  have A_answerMessage : ∀ (x : Value) (W : World), (Instr.typeAssert (.iface 96 x) 69 76 true).run Tryz.prog W = .ok (.tuple #[.pointer none, .bool false]) W := fun _ _ => by kernel_rfl
  have A_ticketMessage : ∀ (x : Value) (W : World), (Instr.typeAssert (.iface 96 x) 69 79 true).run Tryz.prog W = .ok (.tuple #[.pointer none, .bool false]) W := fun _ _ => by kernel_rfl
  have A_endOfEarlyMessage : ∀ (x : Value) (W : World), (Instr.typeAssert (.iface 96 x) 69 82 true).run Tryz.prog W = .ok (.tuple #[.pointer none, .bool false]) W := fun _ _ => by kernel_rfl
  have A_extrasMessage : ∀ (x : Value) (W : World), (Instr.typeAssert (.iface 96 x) 69 85 true).run Tryz.prog W = .ok (.tuple #[.pointer none, .bool false]) W := fun _ _ => by kernel_rfl
  have A_certsMessage : ∀ (x : Value) (W : World), (Instr.typeAssert (.iface 96 x) 69 88 true).run Tryz.prog W = .ok (.tuple #[.pointer none, .bool false]) W := fun _ _ => by kernel_rfl
  have A_proofMessage : ∀ (x : Value) (W : World), (Instr.typeAssert (.iface 96 x) 69 91 true).run Tryz.prog W = .ok (.tuple #[.pointer none, .bool false]) W := fun _ _ => by kernel_rfl
  have A_finishedMessage : ∀ (x : Value) (W : World), (Instr.typeAssert (.iface 96 x) 69 94 true).run Tryz.prog W = .ok (.tuple #[.pointer none, .bool false]) W := fun _ _ => by kernel_rfl
  have A_updateMessage : ∀ (x : Value) (W : World), (Instr.typeAssert (.iface 96 x) 69 96 true).run Tryz.prog W = .ok (.tuple #[x, .bool true]) W := fun _ _ => by kernel_rfl
  clear h
  have RN := hide (RwC.new w [Value.int .i64 24, Value.int .i64 0, Value.slice none 0 0, Value.slice none 0 0, Value.string ⟨#[]⟩, Value.slice none 0 0, Value.slice none 0 0, Value.int .i64 0, Value.int .i64 ea, Value.slice none 0 0, Value.bool false, Value.slice none 0 0, Value.slice none 0 0] 26)
  obtain ⟨d13, hd13, hrow13⟩ := rowM
  go_enter Tryz.func55, Tryz.ntmps55
  go_wp2
  exact bodyPost_ret (v := .agg #[Value.int .i64 24, Value.int .i64 0, Value.slice none 0 0, Value.slice none 0 0, Value.string ⟨#[]⟩, Value.slice none 0 0, Value.slice none 0 0, Value.int .i64 0, Value.int .i64 ea, Value.slice none 0 0, Value.bool false, Value.slice none 0 0, Value.slice none 0 0]) (results_cellM Tryz.results55 _ _ w.heap.size [Value.int .i64 24, Value.int .i64 0, Value.slice none 0 0, Value.slice none 0 0, Value.string ⟨#[]⟩, Value.slice none 0 0, Value.slice none 0 0, Value.int .i64 0, Value.int .i64 ea, Value.slice none 0 0, Value.bool false, Value.slice none 0 0, Value.slice none 0 0] d13 rfl (RN.out.range) hd13 hrow13 iM) rfl ⟨rfl, ((Below.refl _ _).alloc (Nat.le_refl _) _)⟩
end
end Go.Proofs.YtflecleofaeiiaaGreat

/-
  Messages: the kinds made.
-/
namespace Go.Proofs.YtflecleofaeiiaaGreat
open Go Go.RowKit

theorem newHello_any (w : World) : Calls Tryz.prog 44 #[] w fun e w' => e = .returned (.iface 70 (.pointer (some ⟨w.heap.size, 0, none⟩))) ∧ RwC w' w.heap.size [.int .i64 0, .slice none 0 0, .slice none 0 0, .string ⟨#[]⟩, .slice none 0 0, .slice none 0 0, .int .i64 0, .int .i64 0, .slice none 0 0] 74 ∧ Below w.heap.size w w' := by
  go_enter Tryz.func44, Tryz.ntmps44
  go_wp2
  go_ret
  exact ⟨rfl, RwC.new w _ _, (Below.refl _ _).alloc (Nat.le_refl _) _⟩
theorem newAnswer_any (w : World) : Calls Tryz.prog 45 #[] w fun e w' => e = .returned (.iface 76 (.pointer (some ⟨w.heap.size, 0, none⟩))) ∧ RwC w' w.heap.size [.int .i64 0, .slice none 0 0, .slice none 0 0, .bool false] 78 ∧ Below w.heap.size w w' := by
  go_enter Tryz.func45, Tryz.ntmps45
  go_wp2
  go_ret
  exact ⟨rfl, RwC.new w _ _, (Below.refl _ _).alloc (Nat.le_refl _) _⟩
theorem newTicket_any (w : World) : Calls Tryz.prog 46 #[] w fun e w' => e = .returned (.iface 79 (.pointer (some ⟨w.heap.size, 0, none⟩))) ∧ RwC w' w.heap.size [.int .i64 0, .int .i64 0, .slice none 0 0, .slice none 0 0] 81 ∧ Below w.heap.size w w' := by
  go_enter Tryz.func46, Tryz.ntmps46
  go_wp2
  go_ret
  exact ⟨rfl, RwC.new w _ _, (Below.refl _ _).alloc (Nat.le_refl _) _⟩
theorem newEnd_any (w : World) : Calls Tryz.prog 47 #[] w fun e w' => e = .returned (.iface 82 (.pointer (some ⟨w.heap.size, 0, none⟩))) ∧ RwC w' w.heap.size [] 84 ∧ Below w.heap.size w w' := by
  go_enter Tryz.func47, Tryz.ntmps47
  go_wp2
  go_ret
  exact ⟨rfl, RwC.new w _ _, (Below.refl _ _).alloc (Nat.le_refl _) _⟩
theorem newExtras_any (w : World) : Calls Tryz.prog 48 #[] w fun e w' => e = .returned (.iface 85 (.pointer (some ⟨w.heap.size, 0, none⟩))) ∧ RwC w' w.heap.size [.slice none 0 0, .int .i64 0] 87 ∧ Below w.heap.size w w' := by
  go_enter Tryz.func48, Tryz.ntmps48
  go_wp2
  go_ret
  exact ⟨rfl, RwC.new w _ _, (Below.refl _ _).alloc (Nat.le_refl _) _⟩
theorem newCerts_any (w : World) : Calls Tryz.prog 49 #[] w fun e w' => e = .returned (.iface 88 (.pointer (some ⟨w.heap.size, 0, none⟩))) ∧ RwC w' w.heap.size [.slice none 0 0] 90 ∧ Below w.heap.size w w' := by
  go_enter Tryz.func49, Tryz.ntmps49
  go_wp2
  go_ret
  exact ⟨rfl, RwC.new w _ _, (Below.refl _ _).alloc (Nat.le_refl _) _⟩
theorem newProof_any (w : World) : Calls Tryz.prog 50 #[] w fun e w' => e = .returned (.iface 91 (.pointer (some ⟨w.heap.size, 0, none⟩))) ∧ RwC w' w.heap.size [.slice none 0 0] 93 ∧ Below w.heap.size w w' := by
  go_enter Tryz.func50, Tryz.ntmps50
  go_wp2
  go_ret
  exact ⟨rfl, RwC.new w _ _, (Below.refl _ _).alloc (Nat.le_refl _) _⟩
theorem newFinished_any (w : World) : Calls Tryz.prog 51 #[] w fun e w' => e = .returned (.iface 94 (.pointer (some ⟨w.heap.size, 0, none⟩))) ∧ RwC w' w.heap.size [.slice none 0 0] 95 ∧ Below w.heap.size w w' := by
  go_enter Tryz.func51, Tryz.ntmps51
  go_wp2
  go_ret
  exact ⟨rfl, RwC.new w _ _, (Below.refl _ _).alloc (Nat.le_refl _) _⟩
theorem newUpdate_any (w : World) : Calls Tryz.prog 52 #[] w fun e w' => e = .returned (.iface 96 (.pointer (some ⟨w.heap.size, 0, none⟩))) ∧ RwC w' w.heap.size [.int .i64 0] 98 ∧ Below w.heap.size w w' := by
  go_enter Tryz.func52, Tryz.ntmps52
  go_wp2
  go_ret
  exact ⟨rfl, RwC.new w _ _, (Below.refl _ _).alloc (Nat.le_refl _) _⟩
end Go.Proofs.YtflecleofaeiiaaGreat

/-
  Messages: a kind that nobody knows.
-/
namespace Go.Proofs.YtflecleofaeiiaaGreat
open Go Go.RowKit

section
variable (w : World) (k v ag ea : Int) (a2 a3 a5 a6 a9 a11 a12 : Option Addr) (n2 n3 n5 n6 n9 n11 n12 c2 c3 c5 c6 c9 c11 c12 : Nat) (ho : ByteArray) (rs : Bool)
end
end Go.Proofs.YtflecleofaeiiaaGreat

/-
  Messages: typedOf of a kind.
-/
namespace Go.Proofs.YtflecleofaeiiaaGreat
open Go Go.RowKit

section
variable (w : World) (v ag ea : Int) (a2 a3 a5 a6 a9 a11 a12 : Option Addr) (n2 n3 n5 n6 n9 n11 n12 c2 c3 c5 c6 c9 c11 c12 : Nat) (ho : ByteArray) (rs : Bool)
end
end Go.Proofs.YtflecleofaeiiaaGreat

/-
  Messages: typedOf of a kind.
-/
namespace Go.Proofs.YtflecleofaeiiaaGreat
open Go Go.RowKit

section
variable (w : World) (v ag ea : Int) (a2 a3 a5 a6 a9 a11 a12 : Option Addr) (n2 n3 n5 n6 n9 n11 n12 c2 c3 c5 c6 c9 c11 c12 : Nat) (ho : ByteArray) (rs : Bool)
end
end Go.Proofs.YtflecleofaeiiaaGreat

/-
  Messages: typedOf of a kind.
-/
namespace Go.Proofs.YtflecleofaeiiaaGreat
open Go Go.RowKit

section
variable (w : World) (v ag ea : Int) (a2 a3 a5 a6 a9 a11 a12 : Option Addr) (n2 n3 n5 n6 n9 n11 n12 c2 c3 c5 c6 c9 c11 c12 : Nat) (ho : ByteArray) (rs : Bool)
end
end Go.Proofs.YtflecleofaeiiaaGreat

/-
  Messages: typedOf of a kind.
-/
namespace Go.Proofs.YtflecleofaeiiaaGreat
open Go Go.RowKit

section
variable (w : World) (v ag ea : Int) (a2 a3 a5 a6 a9 a11 a12 : Option Addr) (n2 n3 n5 n6 n9 n11 n12 c2 c3 c5 c6 c9 c11 c12 : Nat) (ho : ByteArray) (rs : Bool)
end
end Go.Proofs.YtflecleofaeiiaaGreat

/-
  Messages: typedOf of a kind.
-/
namespace Go.Proofs.YtflecleofaeiiaaGreat
open Go Go.RowKit

section
variable (w : World) (v ag ea : Int) (a2 a3 a5 a6 a9 a11 a12 : Option Addr) (n2 n3 n5 n6 n9 n11 n12 c2 c3 c5 c6 c9 c11 c12 : Nat) (ho : ByteArray) (rs : Bool)
end
end Go.Proofs.YtflecleofaeiiaaGreat

/-
  Messages: typedOf of a kind.
-/
namespace Go.Proofs.YtflecleofaeiiaaGreat
open Go Go.RowKit

section
variable (w : World) (v ag ea : Int) (a2 a3 a5 a6 a9 a11 a12 : Option Addr) (n2 n3 n5 n6 n9 n11 n12 c2 c3 c5 c6 c9 c11 c12 : Nat) (ho : ByteArray) (rs : Bool)
end
end Go.Proofs.YtflecleofaeiiaaGreat

/-
  Messages: typedOf of a kind.
-/
namespace Go.Proofs.YtflecleofaeiiaaGreat
open Go Go.RowKit

section
variable (w : World) (v ag ea : Int) (a2 a3 a5 a6 a9 a11 a12 : Option Addr) (n2 n3 n5 n6 n9 n11 n12 c2 c3 c5 c6 c9 c11 c12 : Nat) (ho : ByteArray) (rs : Bool)
end
end Go.Proofs.YtflecleofaeiiaaGreat

/-
  Messages: typedOf of a kind.
-/
namespace Go.Proofs.YtflecleofaeiiaaGreat
open Go Go.RowKit

section
variable (w : World) (v ag ea : Int) (a2 a3 a5 a6 a9 a11 a12 : Option Addr) (n2 n3 n5 n6 n9 n11 n12 c2 c3 c5 c6 c9 c11 c12 : Nat) (ho : ByteArray) (rs : Bool)
end
end Go.Proofs.YtflecleofaeiiaaGreat

/-
  Messages: typedOf of a message, by what it is (all kinds but Hello).
-/
namespace Go.Proofs.YtflecleofaeiiaaGreat
open Go Go.RowKit

/-- Nowhere. -/
def mq0 : MQ := ⟨none, 0, 0, none, 0, 0, none, 0, 0, none, 0, 0, none, 0, 0, none, 0, 0, none, 0, 0, []⟩
/-- Nothing. -/
def msg0 : Msg := ⟨0, 0, [], [], [], [], [], 0, 0, [], false, [], []⟩
theorem rd0 (w : World) (g : Nat) (a : Option Addr) (k : IntKind) : Rd w g a k [] := fun h => absurd h (by simp)
theorem rdT0 (w : World) (g : Nat) (a : Option Addr) : RdT w g a [] := fun h => absurd h (by simp)
theorem rdL0 (w : World) (g : Nat) (a : Option Addr) (ps : List Plb) : RdL w g a [] ps := ⟨fun h => absurd h (by simp), fun i hi => absurd hi (by simp)⟩
theorem byt0 : Byt [] := fun i => by simp
theorem none0 {P : Nat → Prop} {x : List (List Int)} (h : x = []) : ∀ i, i < x.length → P i := fun i hi => absurd hi (by simp [h])
/-- What typedOf answers: s says that nothing is left over, f is the kind's fault. -/
def TyP (w : World) (s : Bool) (T S : TypeId) (fs : List Value) (f : Int) (e : Ending) (w' : World) : Prop :=
  (s = false ∧ e = .returned (.tuple #[.nilIface, .int .i64 2]) ∨ s = true ∧ ∃ q, e = .returned (.tuple #[.iface T (.pointer (some ⟨q, 0, none⟩)), .int .i64 f]) ∧ w.heap.size ≤ q ∧ RwC w' q fs S) ∧ Below w.heap.size w w'
/-- What Answer takes over. -/
def answerM (m : Msg) : Msg := { msg0 with k := 2, v := m.v, r := m.r, s := m.s, rs := m.rs }
def answerQ (p : MQ) : MQ := { mq0 with a2 := p.a2, c2 := p.c2, g2 := p.g2, a3 := p.a3, c3 := p.c3, g3 := p.g3 }
theorem answerM_is {m : Msg} (i : IsM m) : IsM (answerM m) := ⟨i.rB, i.sB, byt0, byt0, byt0, none0 rfl, i.rL, i.sL, Nat.zero_le _, Nat.zero_le _, Nat.zero_le _, Nat.zero_le _, Nat.zero_le _, none0 rfl, Nat.zero_le _, fun l hl => absurd hl (by simp [answerM, msg0])⟩
theorem answerM_has {w : World} {p : MQ} {m : Msg} (h : HasM w p m) : HasM w (answerQ p) (answerM m) := ⟨h.r, h.s, rdT0 _ _ _, rd0 _ _ _ _, rd0 _ _ _ _, rdL0 _ _ _ _, rd0 _ _ _ _, Nat.zero_le _⟩
/-- What Ticket takes over. -/
def ticketM (m : Msg) : Msg := { msg0 with k := 4, ag := m.ag, ea := m.ea, r := m.r, ti := m.ti }
def ticketQ (p : MQ) : MQ := { mq0 with a2 := p.a2, c2 := p.c2, g2 := p.g2, a6 := p.a6, c6 := p.c6, g6 := p.g6 }
theorem ticketM_is {m : Msg} (i : IsM m) : IsM (ticketM m) := ⟨i.rB, byt0, i.tiB, byt0, byt0, none0 rfl, i.rL, Nat.zero_le _, Nat.zero_le _, i.tiL, Nat.zero_le _, Nat.zero_le _, Nat.zero_le _, none0 rfl, Nat.zero_le _, fun l hl => absurd hl (by simp [ticketM, msg0])⟩
theorem ticketM_has {w : World} {p : MQ} {m : Msg} (h : HasM w p m) : HasM w (ticketQ p) (ticketM m) := ⟨h.r, rd0 _ _ _ _, rdT0 _ _ _, h.ti, rd0 _ _ _ _, rdL0 _ _ _ _, rd0 _ _ _ _, Nat.zero_le _⟩
/-- What End takes over. -/
def endM (_m : Msg) : Msg := { msg0 with k := 5 }
def endQ (_p : MQ) : MQ := mq0
theorem endM_is {m : Msg} (_i : IsM m) : IsM (endM m) := ⟨byt0, byt0, byt0, byt0, byt0, none0 rfl, Nat.zero_le _, Nat.zero_le _, Nat.zero_le _, Nat.zero_le _, Nat.zero_le _, Nat.zero_le _, Nat.zero_le _, none0 rfl, Nat.zero_le _, fun l hl => absurd hl (by simp [endM, msg0])⟩
theorem endM_has {w : World} {p : MQ} {m : Msg} (_h : HasM w p m) : HasM w (endQ p) (endM m) := ⟨rd0 _ _ _ _, rd0 _ _ _ _, rdT0 _ _ _, rd0 _ _ _ _, rd0 _ _ _ _, rdL0 _ _ _ _, rd0 _ _ _ _, Nat.zero_le _⟩
/-- What Extras takes over. -/
def extrasM (m : Msg) : Msg := { msg0 with k := 8, pr := m.pr, ea := m.ea }
def extrasQ (p : MQ) : MQ := { mq0 with a5 := p.a5, c5 := p.c5, g5 := p.g5 }
theorem extrasM_is {m : Msg} (i : IsM m) : IsM (extrasM m) := ⟨byt0, byt0, byt0, byt0, byt0, none0 rfl, Nat.zero_le _, Nat.zero_le _, i.prL, Nat.zero_le _, Nat.zero_le _, Nat.zero_le _, Nat.zero_le _, none0 rfl, Nat.zero_le _, i.prZ⟩
theorem extrasM_has {w : World} {p : MQ} {m : Msg} (h : HasM w p m) : HasM w (extrasQ p) (extrasM m) := ⟨rd0 _ _ _ _, rd0 _ _ _ _, h.pr, rd0 _ _ _ _, rd0 _ _ _ _, rdL0 _ _ _ _, rd0 _ _ _ _, h.prC⟩
/-- What Certs takes over. -/
def certsM (m : Msg) : Msg := { msg0 with k := 11, ce := m.ce }
def certsQ (p : MQ) : MQ := { mq0 with a11 := p.a11, c11 := p.c11, g11 := p.g11, ps := p.ps }
theorem certsM_is {m : Msg} (i : IsM m) : IsM (certsM m) := ⟨byt0, byt0, byt0, byt0, byt0, i.ceB, Nat.zero_le _, Nat.zero_le _, Nat.zero_le _, Nat.zero_le _, Nat.zero_le _, i.ceL, Nat.zero_le _, i.ceZ, Nat.zero_le _, fun l hl => absurd hl (by simp [certsM, msg0])⟩
theorem certsM_has {w : World} {p : MQ} {m : Msg} (h : HasM w p m) : HasM w (certsQ p) (certsM m) := ⟨rd0 _ _ _ _, rd0 _ _ _ _, rdT0 _ _ _, rd0 _ _ _ _, rd0 _ _ _ _, h.ce, rd0 _ _ _ _, Nat.zero_le _⟩
/-- What Proof takes over. -/
def proofM (m : Msg) : Msg := { msg0 with k := 15, pf := m.pf }
def proofQ (p : MQ) : MQ := { mq0 with a12 := p.a12, c12 := p.c12, g12 := p.g12 }
theorem proofM_is {m : Msg} (i : IsM m) : IsM (proofM m) := ⟨byt0, byt0, byt0, byt0, i.pfB, none0 rfl, Nat.zero_le _, Nat.zero_le _, Nat.zero_le _, Nat.zero_le _, Nat.zero_le _, Nat.zero_le _, i.pfL, none0 rfl, Nat.zero_le _, fun l hl => absurd hl (by simp [proofM, msg0])⟩
theorem proofM_has {w : World} {p : MQ} {m : Msg} (h : HasM w p m) : HasM w (proofQ p) (proofM m) := ⟨rd0 _ _ _ _, rd0 _ _ _ _, rdT0 _ _ _, rd0 _ _ _ _, rd0 _ _ _ _, rdL0 _ _ _ _, h.pf, Nat.zero_le _⟩
/-- What Finished takes over. -/
def finishedM (m : Msg) : Msg := { msg0 with k := 20, pf := m.pf }
def finishedQ (p : MQ) : MQ := { mq0 with a12 := p.a12, c12 := p.c12, g12 := p.g12 }
theorem finishedM_is {m : Msg} (i : IsM m) : IsM (finishedM m) := ⟨byt0, byt0, byt0, byt0, i.pfB, none0 rfl, Nat.zero_le _, Nat.zero_le _, Nat.zero_le _, Nat.zero_le _, Nat.zero_le _, Nat.zero_le _, i.pfL, none0 rfl, Nat.zero_le _, fun l hl => absurd hl (by simp [finishedM, msg0])⟩
theorem finishedM_has {w : World} {p : MQ} {m : Msg} (h : HasM w p m) : HasM w (finishedQ p) (finishedM m) := ⟨rd0 _ _ _ _, rd0 _ _ _ _, rdT0 _ _ _, rd0 _ _ _ _, rd0 _ _ _ _, rdL0 _ _ _ _, h.pf, Nat.zero_le _⟩
/-- What Update takes over. -/
def updateM (m : Msg) : Msg := { msg0 with k := 24, ea := m.ea }
def updateQ (_p : MQ) : MQ := mq0
theorem updateM_is {m : Msg} (_i : IsM m) : IsM (updateM m) := ⟨byt0, byt0, byt0, byt0, byt0, none0 rfl, Nat.zero_le _, Nat.zero_le _, Nat.zero_le _, Nat.zero_le _, Nat.zero_le _, Nat.zero_le _, Nat.zero_le _, none0 rfl, Nat.zero_le _, fun l hl => absurd hl (by simp [updateM, msg0])⟩
theorem updateM_has {w : World} {p : MQ} {m : Msg} (_h : HasM w p m) : HasM w (updateQ p) (updateM m) := ⟨rd0 _ _ _ _, rd0 _ _ _ _, rdT0 _ _ _, rd0 _ _ _ _, rd0 _ _ _ _, rdL0 _ _ _ _, rd0 _ _ _ _, Nat.zero_le _⟩
end Go.Proofs.YtflecleofaeiiaaGreat

/-
  Messages: typedOf of a kind.
-/
namespace Go.Proofs.YtflecleofaeiiaaGreat
open Go Go.RowKit

section
variable (w : World) (v ag ea : Int) (a2 a3 a5 a6 a9 a11 a12 : Option Addr) (n2 n3 n5 n6 n9 n11 n12 c2 c3 c5 c6 c9 c11 c12 : Nat) (ho : ByteArray) (rs : Bool)
end
end Go.Proofs.YtflecleofaeiiaaGreat
