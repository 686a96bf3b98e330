import Derived.Test.YtdnkgmlidhepbaaGreatGC12
import Derived.Deep.MidRow
namespace Go.Proofs.YtdnkgmlidhepbaaGreat
open Go Go.RowKit
theorem iM : (Tryz.prog.info? 26).map (·.size) = some 13 := by kernel_rfl
theorem rowM : ∃ d, Tryz.prog.underlying 26 = some d ∧ d.isRow = true := ⟨_, Tryz.underlying26, rfl⟩
theorem results_cellM {P : Program} {fn : Func} {p : Tmp} {ty : TypeId} (h : fn.results = #[.cell p ty]) (tmps : Array Value) (w : World) (g : Nat) (cs : List Value) (d : TypeDesc)
    (hp : tmps.getD p undef = .pointer (some ⟨g, 0, none⟩)) (hc : w.rangeAt g 0 cs) (hu : P.underlying ty = some d) (hd : d.isRow = true) (hi : (P.info? ty).map (·.size) = some cs.length) :
    (results fn tmps).run P w = .ok (.agg cs.toArray) w := by
  have hp' : tmps[p]?.getD undef = .pointer (some ⟨g, 0, none⟩) := by simpa using hp
  simp [results, h, hp', asAddr, run_loadVar_mid w g 0 ty cs d hc hu hd hi]
theorem RwC.range {w : World} {q : Nat} {cs : List Value} {t : TypeId} (h : RwC w q cs t) : w.rangeAt q 0 cs := fun j v hj => by
  rw [Nat.zero_add]
  exact (h.cell j).trans hj
section
variable (w : World) (q : Nat) (t : TypeId) (v ag ea : Int) (a2 a3 a5 a6 a9 a11 a12 : Option Addr) (n2 n3 n5 n6 n9 n11 n12 c2 c3 c5 c6 c9 c11 c12 : Nat) (ho : ByteArray) (rs : Bool)
set_option maxRecDepth 20000 in
set_option maxHeartbeats 1000000 in
theorem plainAnswer_any (h : RwC w q [Value.int .i64 v, Value.slice a2 n2 c2, Value.slice a3 n3 c3, Value.bool rs] t) :
    Calls Tryz.prog 55 #[.iface 76 (.pointer (some ⟨q, 0, none⟩))] w fun e w' => e = .returned (.agg #[Value.int .i64 2, Value.int .i64 v, Value.slice a2 n2 c2, Value.slice a3 n3 c3, Value.string ⟨#[]⟩, Value.slice none 0 0, Value.slice none 0 0, Value.int .i64 0, Value.int .i64 0, Value.slice none 0 0, Value.bool rs, Value.slice none 0 0, Value.slice none 0 0]) ∧ Below w.heap.size w w' := by
  have lt := h.lt
  have nq : w.heap.size ≠ q := by omega
  have qn : q ≠ w.heap.size := by omega
  have h0 : w.cell? ⟨q, 0, none⟩ = some (Value.int .i64 v) := h.cell 0
  have h1 : w.cell? ⟨q, 1, none⟩ = some (Value.slice a2 n2 c2) := h.cell 1
  have h2 : w.cell? ⟨q, 2, none⟩ = some (Value.slice a3 n3 c3) := h.cell 2
  have h3 : w.cell? ⟨q, 3, none⟩ = some (Value.bool rs) := h.cell 3
  have A_helloMessage : ∀ (x : Value) (W : World), (Instr.typeAssert (.iface 76 x) 69 70 true).run Tryz.prog W = .ok (.tuple #[.pointer none, .bool false]) W := fun _ _ => by kernel_rfl
  have A_answerMessage : ∀ (x : Value) (W : World), (Instr.typeAssert (.iface 76 x) 69 76 true).run Tryz.prog W = .ok (.tuple #[x, .bool true]) W := fun _ _ => by kernel_rfl
  clear h
  have RN := hide (RwC.new w [Value.int .i64 2, Value.int .i64 v, Value.slice a2 n2 c2, Value.slice a3 n3 c3, Value.string ⟨#[]⟩, Value.slice none 0 0, Value.slice none 0 0, Value.int .i64 0, Value.int .i64 0, Value.slice none 0 0, Value.bool rs, Value.slice none 0 0, Value.slice none 0 0] 26)
  obtain ⟨d13, hd13, hrow13⟩ := rowM
  go_enter Tryz.func55, Tryz.ntmps55
  go_wp2
  go_region
  go_wp2
  exact bodyPost_ret (v := .agg #[Value.int .i64 2, Value.int .i64 v, Value.slice a2 n2 c2, Value.slice a3 n3 c3, Value.string ⟨#[]⟩, Value.slice none 0 0, Value.slice none 0 0, Value.int .i64 0, Value.int .i64 0, Value.slice none 0 0, Value.bool rs, Value.slice none 0 0, Value.slice none 0 0]) (results_cellM Tryz.results55 _ _ w.heap.size [Value.int .i64 2, Value.int .i64 v, Value.slice a2 n2 c2, Value.slice a3 n3 c3, Value.string ⟨#[]⟩, Value.slice none 0 0, Value.slice none 0 0, Value.int .i64 0, Value.int .i64 0, Value.slice none 0 0, Value.bool rs, Value.slice none 0 0, Value.slice none 0 0] d13 rfl (RN.out.drew1.range) hd13 hrow13 iM) rfl ⟨rfl, ((Below.refl _ _).alloc (Nat.le_refl _) _).drew⟩
set_option maxRecDepth 20000 in
set_option maxHeartbeats 1000000 in
theorem plainTicket_any (h : RwC w q [Value.int .i64 ag, Value.int .i64 ea, Value.slice a2 n2 c2, Value.slice a6 n6 c6] t) :
    Calls Tryz.prog 55 #[.iface 79 (.pointer (some ⟨q, 0, none⟩))] w fun e w' => e = .returned (.agg #[Value.int .i64 4, Value.int .i64 0, Value.slice a2 n2 c2, Value.slice none 0 0, Value.string ⟨#[]⟩, Value.slice none 0 0, Value.slice a6 n6 c6, Value.int .i64 ag, Value.int .i64 ea, Value.slice none 0 0, Value.bool false, Value.slice none 0 0, Value.slice none 0 0]) ∧ Below w.heap.size w w' := by
  have lt := h.lt
  have nq : w.heap.size ≠ q := by omega
  have qn : q ≠ w.heap.size := by omega
  have h0 : w.cell? ⟨q, 0, none⟩ = some (Value.int .i64 ag) := h.cell 0
  have h1 : w.cell? ⟨q, 1, none⟩ = some (Value.int .i64 ea) := h.cell 1
  have h2 : w.cell? ⟨q, 2, none⟩ = some (Value.slice a2 n2 c2) := h.cell 2
  have h3 : w.cell? ⟨q, 3, none⟩ = some (Value.slice a6 n6 c6) := h.cell 3
  have A_helloMessage : ∀ (x : Value) (W : World), (Instr.typeAssert (.iface 79 x) 69 70 true).run Tryz.prog W = .ok (.tuple #[.pointer none, .bool false]) W := fun _ _ => by kernel_rfl
  have A_answerMessage : ∀ (x : Value) (W : World), (Instr.typeAssert (.iface 79 x) 69 76 true).run Tryz.prog W = .ok (.tuple #[.pointer none, .bool false]) W := fun _ _ => by kernel_rfl
  have A_ticketMessage : ∀ (x : Value) (W : World), (Instr.typeAssert (.iface 79 x) 69 79 true).run Tryz.prog W = .ok (.tuple #[x, .bool true]) W := fun _ _ => by kernel_rfl
  clear h
  have RN := hide (RwC.new w [Value.int .i64 4, Value.int .i64 0, Value.slice a2 n2 c2, Value.slice none 0 0, Value.string ⟨#[]⟩, Value.slice none 0 0, Value.slice a6 n6 c6, Value.int .i64 ag, Value.int .i64 ea, Value.slice none 0 0, Value.bool false, Value.slice none 0 0, Value.slice none 0 0] 26)
  obtain ⟨d13, hd13, hrow13⟩ := rowM
  go_enter Tryz.func55, Tryz.ntmps55
  go_wp2
  go_region
  go_wp2
  exact bodyPost_ret (v := .agg #[Value.int .i64 4, Value.int .i64 0, Value.slice a2 n2 c2, Value.slice none 0 0, Value.string ⟨#[]⟩, Value.slice none 0 0, Value.slice a6 n6 c6, Value.int .i64 ag, Value.int .i64 ea, Value.slice none 0 0, Value.bool false, Value.slice none 0 0, Value.slice none 0 0]) (results_cellM Tryz.results55 _ _ w.heap.size [Value.int .i64 4, Value.int .i64 0, Value.slice a2 n2 c2, Value.slice none 0 0, Value.string ⟨#[]⟩, Value.slice none 0 0, Value.slice a6 n6 c6, Value.int .i64 ag, Value.int .i64 ea, Value.slice none 0 0, Value.bool false, Value.slice none 0 0, Value.slice none 0 0] d13 rfl (RN.out.drew1.range) hd13 hrow13 iM) rfl ⟨rfl, ((Below.refl _ _).alloc (Nat.le_refl _) _).drew⟩
set_option maxRecDepth 20000 in
set_option maxHeartbeats 1000000 in
theorem plainEnd_any (x : Value) :
    Calls Tryz.prog 55 #[.iface 82 x] w fun e w' => e = .returned (.agg #[Value.int .i64 5, Value.int .i64 0, Value.slice none 0 0, Value.slice none 0 0, Value.string ⟨#[]⟩, Value.slice none 0 0, Value.slice none 0 0, Value.int .i64 0, Value.int .i64 0, Value.slice none 0 0, Value.bool false, Value.slice none 0 0, Value.slice none 0 0]) ∧ Below w.heap.size w w' := by
  have A_helloMessage : ∀ (x : Value) (W : World), (Instr.typeAssert (.iface 82 x) 69 70 true).run Tryz.prog W = .ok (.tuple #[.pointer none, .bool false]) W := fun _ _ => by kernel_rfl
  have A_answerMessage : ∀ (x : Value) (W : World), (Instr.typeAssert (.iface 82 x) 69 76 true).run Tryz.prog W = .ok (.tuple #[.pointer none, .bool false]) W := fun _ _ => by kernel_rfl
  have A_ticketMessage : ∀ (x : Value) (W : World), (Instr.typeAssert (.iface 82 x) 69 79 true).run Tryz.prog W = .ok (.tuple #[.pointer none, .bool false]) W := fun _ _ => by kernel_rfl
  have A_endOfEarlyMessage : ∀ (x : Value) (W : World), (Instr.typeAssert (.iface 82 x) 69 82 true).run Tryz.prog W = .ok (.tuple #[x, .bool true]) W := fun _ _ => by kernel_rfl
  have RN := hide (RwC.new w [Value.int .i64 5, Value.int .i64 0, Value.slice none 0 0, Value.slice none 0 0, Value.string ⟨#[]⟩, Value.slice none 0 0, Value.slice none 0 0, Value.int .i64 0, Value.int .i64 0, Value.slice none 0 0, Value.bool false, Value.slice none 0 0, Value.slice none 0 0] 26)
  obtain ⟨d13, hd13, hrow13⟩ := rowM
  go_enter Tryz.func55, Tryz.ntmps55
  go_wp2
  exact bodyPost_ret (v := .agg #[Value.int .i64 5, Value.int .i64 0, Value.slice none 0 0, Value.slice none 0 0, Value.string ⟨#[]⟩, Value.slice none 0 0, Value.slice none 0 0, Value.int .i64 0, Value.int .i64 0, Value.slice none 0 0, Value.bool false, Value.slice none 0 0, Value.slice none 0 0]) (results_cellM Tryz.results55 _ _ w.heap.size [Value.int .i64 5, Value.int .i64 0, Value.slice none 0 0, Value.slice none 0 0, Value.string ⟨#[]⟩, Value.slice none 0 0, Value.slice none 0 0, Value.int .i64 0, Value.int .i64 0, Value.slice none 0 0, Value.bool false, Value.slice none 0 0, Value.slice none 0 0] d13 rfl (RN.out.range) hd13 hrow13 iM) rfl ⟨rfl, ((Below.refl _ _).alloc (Nat.le_refl _) _)⟩
set_option maxRecDepth 20000 in
set_option maxHeartbeats 1000000 in
theorem plainExtras_any (h : RwC w q [Value.slice a5 n5 c5, Value.int .i64 ea] t) :
    Calls Tryz.prog 55 #[.iface 85 (.pointer (some ⟨q, 0, none⟩))] w fun e w' => e = .returned (.agg #[Value.int .i64 8, Value.int .i64 0, Value.slice none 0 0, Value.slice none 0 0, Value.string ⟨#[]⟩, Value.slice a5 n5 c5, Value.slice none 0 0, Value.int .i64 0, Value.int .i64 ea, Value.slice none 0 0, Value.bool false, Value.slice none 0 0, Value.slice none 0 0]) ∧ Below w.heap.size w w' := by
  have lt := h.lt
  have nq : w.heap.size ≠ q := by omega
  have qn : q ≠ w.heap.size := by omega
  have h0 : w.cell? ⟨q, 0, none⟩ = some (Value.slice a5 n5 c5) := h.cell 0
  have h1 : w.cell? ⟨q, 1, none⟩ = some (Value.int .i64 ea) := h.cell 1
  have A_helloMessage : ∀ (x : Value) (W : World), (Instr.typeAssert (.iface 85 x) 69 70 true).run Tryz.prog W = .ok (.tuple #[.pointer none, .bool false]) W := fun _ _ => by kernel_rfl
  have A_answerMessage : ∀ (x : Value) (W : World), (Instr.typeAssert (.iface 85 x) 69 76 true).run Tryz.prog W = .ok (.tuple #[.pointer none, .bool false]) W := fun _ _ => by kernel_rfl
  have A_ticketMessage : ∀ (x : Value) (W : World), (Instr.typeAssert (.iface 85 x) 69 79 true).run Tryz.prog W = .ok (.tuple #[.pointer none, .bool false]) W := fun _ _ => by kernel_rfl
  have A_endOfEarlyMessage : ∀ (x : Value) (W : World), (Instr.typeAssert (.iface 85 x) 69 82 true).run Tryz.prog W = .ok (.tuple #[.pointer none, .bool false]) W := fun _ _ => by kernel_rfl
  have A_extrasMessage : ∀ (x : Value) (W : World), (Instr.typeAssert (.iface 85 x) 69 85 true).run Tryz.prog W = .ok (.tuple #[x, .bool true]) W := fun _ _ => by kernel_rfl
  clear h
  have RN := hide (RwC.new w [Value.int .i64 8, Value.int .i64 0, Value.slice none 0 0, Value.slice none 0 0, Value.string ⟨#[]⟩, Value.slice a5 n5 c5, Value.slice none 0 0, Value.int .i64 0, Value.int .i64 ea, Value.slice none 0 0, Value.bool false, Value.slice none 0 0, Value.slice none 0 0] 26)
  obtain ⟨d13, hd13, hrow13⟩ := rowM
  go_enter Tryz.func55, Tryz.ntmps55
  go_wp2
  go_region
  go_wp2
  exact bodyPost_ret (v := .agg #[Value.int .i64 8, Value.int .i64 0, Value.slice none 0 0, Value.slice none 0 0, Value.string ⟨#[]⟩, Value.slice a5 n5 c5, Value.slice none 0 0, Value.int .i64 0, Value.int .i64 ea, Value.slice none 0 0, Value.bool false, Value.slice none 0 0, Value.slice none 0 0]) (results_cellM Tryz.results55 _ _ w.heap.size [Value.int .i64 8, Value.int .i64 0, Value.slice none 0 0, Value.slice none 0 0, Value.string ⟨#[]⟩, Value.slice a5 n5 c5, Value.slice none 0 0, Value.int .i64 0, Value.int .i64 ea, Value.slice none 0 0, Value.bool false, Value.slice none 0 0, Value.slice none 0 0] d13 rfl (RN.out.drew1.range) hd13 hrow13 iM) rfl ⟨rfl, ((Below.refl _ _).alloc (Nat.le_refl _) _).drew⟩
set_option maxRecDepth 20000 in
set_option maxHeartbeats 1000000 in
theorem plainCerts_any (h : RwC w q [Value.slice a11 n11 c11] t) :
    Calls Tryz.prog 55 #[.iface 88 (.pointer (some ⟨q, 0, none⟩))] w fun e w' => e = .returned (.agg #[Value.int .i64 11, Value.int .i64 0, Value.slice none 0 0, Value.slice none 0 0, Value.string ⟨#[]⟩, Value.slice none 0 0, Value.slice none 0 0, Value.int .i64 0, Value.int .i64 0, Value.slice none 0 0, Value.bool false, Value.slice a11 n11 c11, Value.slice none 0 0]) ∧ Below w.heap.size w w' := by
  have lt := h.lt
  have nq : w.heap.size ≠ q := by omega
  have qn : q ≠ w.heap.size := by omega
  have h0 : w.cell? ⟨q, 0, none⟩ = some (Value.slice a11 n11 c11) := h.cell 0
  have A_helloMessage : ∀ (x : Value) (W : World), (Instr.typeAssert (.iface 88 x) 69 70 true).run Tryz.prog W = .ok (.tuple #[.pointer none, .bool false]) W := fun _ _ => by kernel_rfl
  have A_answerMessage : ∀ (x : Value) (W : World), (Instr.typeAssert (.iface 88 x) 69 76 true).run Tryz.prog W = .ok (.tuple #[.pointer none, .bool false]) W := fun _ _ => by kernel_rfl
  have A_ticketMessage : ∀ (x : Value) (W : World), (Instr.typeAssert (.iface 88 x) 69 79 true).run Tryz.prog W = .ok (.tuple #[.pointer none, .bool false]) W := fun _ _ => by kernel_rfl
  have A_endOfEarlyMessage : ∀ (x : Value) (W : World), (Instr.typeAssert (.iface 88 x) 69 82 true).run Tryz.prog W = .ok (.tuple #[.pointer none, .bool false]) W := fun _ _ => by kernel_rfl
  have A_extrasMessage : ∀ (x : Value) (W : World), (Instr.typeAssert (.iface 88 x) 69 85 true).run Tryz.prog W = .ok (.tuple #[.pointer none, .bool false]) W := fun _ _ => by kernel_rfl
  have A_certsMessage : ∀ (x : Value) (W : World), (Instr.typeAssert (.iface 88 x) 69 88 true).run Tryz.prog W = .ok (.tuple #[x, .bool true]) W := fun _ _ => by kernel_rfl
  clear h
  have RN := hide (RwC.new w [Value.int .i64 11, Value.int .i64 0, Value.slice none 0 0, Value.slice none 0 0, Value.string ⟨#[]⟩, Value.slice none 0 0, Value.slice none 0 0, Value.int .i64 0, Value.int .i64 0, Value.slice none 0 0, Value.bool false, Value.slice a11 n11 c11, Value.slice none 0 0] 26)
  obtain ⟨d13, hd13, hrow13⟩ := rowM
  go_enter Tryz.func55, Tryz.ntmps55
  go_wp2
  exact bodyPost_ret (v := .agg #[Value.int .i64 11, Value.int .i64 0, Value.slice none 0 0, Value.slice none 0 0, Value.string ⟨#[]⟩, Value.slice none 0 0, Value.slice none 0 0, Value.int .i64 0, Value.int .i64 0, Value.slice none 0 0, Value.bool false, Value.slice a11 n11 c11, Value.slice none 0 0]) (results_cellM Tryz.results55 _ _ w.heap.size [Value.int .i64 11, Value.int .i64 0, Value.slice none 0 0, Value.slice none 0 0, Value.string ⟨#[]⟩, Value.slice none 0 0, Value.slice none 0 0, Value.int .i64 0, Value.int .i64 0, Value.slice none 0 0, Value.bool false, Value.slice a11 n11 c11, Value.slice none 0 0] d13 rfl (RN.out.range) hd13 hrow13 iM) rfl ⟨rfl, ((Below.refl _ _).alloc (Nat.le_refl _) _)⟩
set_option maxRecDepth 20000 in
set_option maxHeartbeats 1000000 in
theorem plainProof_any (h : RwC w q [Value.slice a12 n12 c12] t) :
    Calls Tryz.prog 55 #[.iface 91 (.pointer (some ⟨q, 0, none⟩))] w fun e w' => e = .returned (.agg #[Value.int .i64 15, Value.int .i64 0, Value.slice none 0 0, Value.slice none 0 0, Value.string ⟨#[]⟩, Value.slice none 0 0, Value.slice none 0 0, Value.int .i64 0, Value.int .i64 0, Value.slice none 0 0, Value.bool false, Value.slice none 0 0, Value.slice a12 n12 c12]) ∧ Below w.heap.size w w' := by
  have lt := h.lt
  have nq : w.heap.size ≠ q := by omega
  have qn : q ≠ w.heap.size := by omega
  have h0 : w.cell? ⟨q, 0, none⟩ = some (Value.slice a12 n12 c12) := h.cell 0
  have A_helloMessage : ∀ (x : Value) (W : World), (Instr.typeAssert (.iface 91 x) 69 70 true).run Tryz.prog W = .ok (.tuple #[.pointer none, .bool false]) W := fun _ _ => by kernel_rfl
  have A_answerMessage : ∀ (x : Value) (W : World), (Instr.typeAssert (.iface 91 x) 69 76 true).run Tryz.prog W = .ok (.tuple #[.pointer none, .bool false]) W := fun _ _ => by kernel_rfl
  have A_ticketMessage : ∀ (x : Value) (W : World), (Instr.typeAssert (.iface 91 x) 69 79 true).run Tryz.prog W = .ok (.tuple #[.pointer none, .bool false]) W := fun _ _ => by kernel_rfl
  have A_endOfEarlyMessage : ∀ (x : Value) (W : World), (Instr.typeAssert (.iface 91 x) 69 82 true).run Tryz.prog W = .ok (.tuple #[.pointer none, .bool false]) W := fun _ _ => by kernel_rfl
  have A_extrasMessage : ∀ (x : Value) (W : World), (Instr.typeAssert (.iface 91 x) 69 85 true).run Tryz.prog W = .ok (.tuple #[.pointer none, .bool false]) W := fun _ _ => by kernel_rfl
  have A_certsMessage : ∀ (x : Value) (W : World), (Instr.typeAssert (.iface 91 x) 69 88 true).run Tryz.prog W = .ok (.tuple #[.pointer none, .bool false]) W := fun _ _ => by kernel_rfl
  have A_proofMessage : ∀ (x : Value) (W : World), (Instr.typeAssert (.iface 91 x) 69 91 true).run Tryz.prog W = .ok (.tuple #[x, .bool true]) W := fun _ _ => by kernel_rfl
  clear h
  have RN := hide (RwC.new w [Value.int .i64 15, Value.int .i64 0, Value.slice none 0 0, Value.slice none 0 0, Value.string ⟨#[]⟩, Value.slice none 0 0, Value.slice none 0 0, Value.int .i64 0, Value.int .i64 0, Value.slice none 0 0, Value.bool false, Value.slice none 0 0, Value.slice a12 n12 c12] 26)
  obtain ⟨d13, hd13, hrow13⟩ := rowM
  go_enter Tryz.func55, Tryz.ntmps55
  go_wp2
  exact bodyPost_ret (v := .agg #[Value.int .i64 15, Value.int .i64 0, Value.slice none 0 0, Value.slice none 0 0, Value.string ⟨#[]⟩, Value.slice none 0 0, Value.slice none 0 0, Value.int .i64 0, Value.int .i64 0, Value.slice none 0 0, Value.bool false, Value.slice none 0 0, Value.slice a12 n12 c12]) (results_cellM Tryz.results55 _ _ w.heap.size [Value.int .i64 15, Value.int .i64 0, Value.slice none 0 0, Value.slice none 0 0, Value.string ⟨#[]⟩, Value.slice none 0 0, Value.slice none 0 0, Value.int .i64 0, Value.int .i64 0, Value.slice none 0 0, Value.bool false, Value.slice none 0 0, Value.slice a12 n12 c12] d13 rfl (RN.out.range) hd13 hrow13 iM) rfl ⟨rfl, ((Below.refl _ _).alloc (Nat.le_refl _) _)⟩
set_option maxRecDepth 20000 in
set_option maxHeartbeats 1000000 in
theorem plainFinished_any (h : RwC w q [Value.slice a12 n12 c12] t) :
    Calls Tryz.prog 55 #[.iface 94 (.pointer (some ⟨q, 0, none⟩))] w fun e w' => e = .returned (.agg #[Value.int .i64 20, Value.int .i64 0, Value.slice none 0 0, Value.slice none 0 0, Value.string ⟨#[]⟩, Value.slice none 0 0, Value.slice none 0 0, Value.int .i64 0, Value.int .i64 0, Value.slice none 0 0, Value.bool false, Value.slice none 0 0, Value.slice a12 n12 c12]) ∧ Below w.heap.size w w' := by
  have lt := h.lt
  have nq : w.heap.size ≠ q := by omega
  have qn : q ≠ w.heap.size := by omega
  have h0 : w.cell? ⟨q, 0, none⟩ = some (Value.slice a12 n12 c12) := h.cell 0
  have A_helloMessage : ∀ (x : Value) (W : World), (Instr.typeAssert (.iface 94 x) 69 70 true).run Tryz.prog W = .ok (.tuple #[.pointer none, .bool false]) W := fun _ _ => by kernel_rfl
  have A_answerMessage : ∀ (x : Value) (W : World), (Instr.typeAssert (.iface 94 x) 69 76 true).run Tryz.prog W = .ok (.tuple #[.pointer none, .bool false]) W := fun _ _ => by kernel_rfl
  have A_ticketMessage : ∀ (x : Value) (W : World), (Instr.typeAssert (.iface 94 x) 69 79 true).run Tryz.prog W = .ok (.tuple #[.pointer none, .bool false]) W := fun _ _ => by kernel_rfl
  have A_endOfEarlyMessage : ∀ (x : Value) (W : World), (Instr.typeAssert (.iface 94 x) 69 82 true).run Tryz.prog W = .ok (.tuple #[.pointer none, .bool false]) W := fun _ _ => by kernel_rfl
  have A_extrasMessage : ∀ (x : Value) (W : World), (Instr.typeAssert (.iface 94 x) 69 85 true).run Tryz.prog W = .ok (.tuple #[.pointer none, .bool false]) W := fun _ _ => by kernel_rfl
  have A_certsMessage : ∀ (x : Value) (W : World), (Instr.typeAssert (.iface 94 x) 69 88 true).run Tryz.prog W = .ok (.tuple #[.pointer none, .bool false]) W := fun _ _ => by kernel_rfl
  have A_proofMessage : ∀ (x : Value) (W : World), (Instr.typeAssert (.iface 94 x) 69 91 true).run Tryz.prog W = .ok (.tuple #[.pointer none, .bool false]) W := fun _ _ => by kernel_rfl
  have A_finishedMessage : ∀ (x : Value) (W : World), (Instr.typeAssert (.iface 94 x) 69 94 true).run Tryz.prog W = .ok (.tuple #[x, .bool true]) W := fun _ _ => by kernel_rfl
  clear h
  have RN := hide (RwC.new w [Value.int .i64 20, Value.int .i64 0, Value.slice none 0 0, Value.slice none 0 0, Value.string ⟨#[]⟩, Value.slice none 0 0, Value.slice none 0 0, Value.int .i64 0, Value.int .i64 0, Value.slice none 0 0, Value.bool false, Value.slice none 0 0, Value.slice a12 n12 c12] 26)
  obtain ⟨d13, hd13, hrow13⟩ := rowM
  go_enter Tryz.func55, Tryz.ntmps55
  go_wp2
  exact bodyPost_ret (v := .agg #[Value.int .i64 20, Value.int .i64 0, Value.slice none 0 0, Value.slice none 0 0, Value.string ⟨#[]⟩, Value.slice none 0 0, Value.slice none 0 0, Value.int .i64 0, Value.int .i64 0, Value.slice none 0 0, Value.bool false, Value.slice none 0 0, Value.slice a12 n12 c12]) (results_cellM Tryz.results55 _ _ w.heap.size [Value.int .i64 20, Value.int .i64 0, Value.slice none 0 0, Value.slice none 0 0, Value.string ⟨#[]⟩, Value.slice none 0 0, Value.slice none 0 0, Value.int .i64 0, Value.int .i64 0, Value.slice none 0 0, Value.bool false, Value.slice none 0 0, Value.slice a12 n12 c12] d13 rfl (RN.out.range) hd13 hrow13 iM) rfl ⟨rfl, ((Below.refl _ _).alloc (Nat.le_refl _) _)⟩
set_option maxRecDepth 20000 in
set_option maxHeartbeats 1000000 in
theorem plainUpdate_any (h : RwC w q [Value.int .i64 ea] t) :
    Calls Tryz.prog 55 #[.iface 96 (.pointer (some ⟨q, 0, none⟩))] w fun e w' => e = .returned (.agg #[Value.int .i64 24, Value.int .i64 0, Value.slice none 0 0, Value.slice none 0 0, Value.string ⟨#[]⟩, Value.slice none 0 0, Value.slice none 0 0, Value.int .i64 0, Value.int .i64 ea, Value.slice none 0 0, Value.bool false, Value.slice none 0 0, Value.slice none 0 0]) ∧ Below w.heap.size w w' := by
  have lt := h.lt
  have nq : w.heap.size ≠ q := by omega
  have qn : q ≠ w.heap.size := by omega
  have h0 : w.cell? ⟨q, 0, none⟩ = some (Value.int .i64 ea) := h.cell 0
  have A_helloMessage : ∀ (x : Value) (W : World), (Instr.typeAssert (.iface 96 x) 69 70 true).run Tryz.prog W = .ok (.tuple #[.pointer none, .bool false]) W := fun _ _ => by kernel_rfl
  have A_answerMessage : ∀ (x : Value) (W : World), (Instr.typeAssert (.iface 96 x) 69 76 true).run Tryz.prog W = .ok (.tuple #[.pointer none, .bool false]) W := fun _ _ => by kernel_rfl
  have A_ticketMessage : ∀ (x : Value) (W : World), (Instr.typeAssert (.iface 96 x) 69 79 true).run Tryz.prog W = .ok (.tuple #[.pointer none, .bool false]) W := fun _ _ => by kernel_rfl
  have A_endOfEarlyMessage : ∀ (x : Value) (W : World), (Instr.typeAssert (.iface 96 x) 69 82 true).run Tryz.prog W = .ok (.tuple #[.pointer none, .bool false]) W := fun _ _ => by kernel_rfl
  have A_extrasMessage : ∀ (x : Value) (W : World), (Instr.typeAssert (.iface 96 x) 69 85 true).run Tryz.prog W = .ok (.tuple #[.pointer none, .bool false]) W := fun _ _ => by kernel_rfl
  have A_certsMessage : ∀ (x : Value) (W : World), (Instr.typeAssert (.iface 96 x) 69 88 true).run Tryz.prog W = .ok (.tuple #[.pointer none, .bool false]) W := fun _ _ => by kernel_rfl
  have A_proofMessage : ∀ (x : Value) (W : World), (Instr.typeAssert (.iface 96 x) 69 91 true).run Tryz.prog W = .ok (.tuple #[.pointer none, .bool false]) W := fun _ _ => by kernel_rfl
  have A_finishedMessage : ∀ (x : Value) (W : World), (Instr.typeAssert (.iface 96 x) 69 94 true).run Tryz.prog W = .ok (.tuple #[.pointer none, .bool false]) W := fun _ _ => by kernel_rfl
  have A_updateMessage : ∀ (x : Value) (W : World), (Instr.typeAssert (.iface 96 x) 69 96 true).run Tryz.prog W = .ok (.tuple #[x, .bool true]) W := fun _ _ => by kernel_rfl
  clear h
  have RN := hide (RwC.new w [Value.int .i64 24, Value.int .i64 0, Value.slice none 0 0, Value.slice none 0 0, Value.string ⟨#[]⟩, Value.slice none 0 0, Value.slice none 0 0, Value.int .i64 0, Value.int .i64 ea, Value.slice none 0 0, Value.bool false, Value.slice none 0 0, Value.slice none 0 0] 26)
  obtain ⟨d13, hd13, hrow13⟩ := rowM
  go_enter Tryz.func55, Tryz.ntmps55
  go_wp2
  exact bodyPost_ret (v := .agg #[Value.int .i64 24, Value.int .i64 0, Value.slice none 0 0, Value.slice none 0 0, Value.string ⟨#[]⟩, Value.slice none 0 0, Value.slice none 0 0, Value.int .i64 0, Value.int .i64 ea, Value.slice none 0 0, Value.bool false, Value.slice none 0 0, Value.slice none 0 0]) (results_cellM Tryz.results55 _ _ w.heap.size [Value.int .i64 24, Value.int .i64 0, Value.slice none 0 0, Value.slice none 0 0, Value.string ⟨#[]⟩, Value.slice none 0 0, Value.slice none 0 0, Value.int .i64 0, Value.int .i64 ea, Value.slice none 0 0, Value.bool false, Value.slice none 0 0, Value.slice none 0 0] d13 rfl (RN.out.range) hd13 hrow13 iM) rfl ⟨rfl, ((Below.refl _ _).alloc (Nat.le_refl _) _)⟩
end
end Go.Proofs.YtdnkgmlidhepbaaGreat
namespace Go.Proofs.YtdnkgmlidhepbaaGreat
open Go Go.RowKit
theorem boxed (w : World) (cs : List Value) (t : TypeId) : Below w.heap.size w ((w.alloc (.cells cs.toArray t)).alloc (.cells #[] 5)) ∧ RwC ((w.alloc (.cells cs.toArray t)).alloc (.cells #[] 5)) w.heap.size cs t ∧ RowB ((w.alloc (.cells cs.toArray t)).alloc (.cells #[] 5)) (w.heap.size + 1) (.slice (some ⟨w.heap.size + 1, 0, none⟩) 0 0) [] := by
  have n0 : Below w.heap.size w (w.alloc (.cells cs.toArray t)) := (Below.refl _ _).alloc (Nat.le_refl _) _
  have n1 : Below (w.alloc (.cells cs.toArray t)).heap.size (w.alloc (.cells cs.toArray t)) ((w.alloc (.cells cs.toArray t)).alloc (.cells #[] 5)) := (Below.refl _ _).alloc (Nat.le_refl _) _
  have z : (w.alloc (.cells cs.toArray t)).heap.size = w.heap.size + 1 := by simp
  refine ⟨nxt n0 n1, (RwC.new w cs t).up n1, ?_⟩
  have := RowB.lit0 (w.alloc (.cells cs.toArray t))
  rw [z] at this
  exact this
set_option maxHeartbeats 1000000 in
theorem sbEnd_any (w : World) (x1 x2 x3 x4 x5 x6 x7 x8 x9 x10 x11 x12 : Value) : Calls Tryz.prog 42 #[.agg #[.int .i64 5, x1, x2, x3, x4, x5, x6, x7, x8, x9, x10, x11, x12]] w (BodP w []) := by
  obtain ⟨N, RC, R⟩ := boxed w [.int .i64 5, x1, x2, x3, x4, x5, x6, x7, x8, x9, x10, x11, x12] 26
  have c0 := RC.cell 0
  have z1 : (w.alloc (.cells #[.int .i64 5, x1, x2, x3, x4, x5, x6, x7, x8, x9, x10, x11, x12] 26)).heap.size = w.heap.size + 1 := by simp
  clear RC
  go_enter Tryz.func42, Tryz.ntmps42
  go_wp2
  go_ret
  exact ⟨⟨_, rfl, R.base (by omega)⟩, N⟩
set_option maxHeartbeats 1000000 in
theorem sbProof_any (w : World) (x1 x2 x3 x4 x5 x6 x7 x8 x9 x10 x11 : Value) (l : Lst) (H : LstR w l) : Calls Tryz.prog 42 #[.agg #[.int .i64 15, x1, x2, x3, x4, x5, x6, x7, x8, x9, x10, x11, .slice l.a l.xs.length l.c]] w (BodP w l.xs) := by
  obtain ⟨i0, hi, hz0, hz1, hz2⟩ := info_parts Tryz.info5
  obtain ⟨N, RC, R⟩ := boxed w [.int .i64 15, x1, x2, x3, x4, x5, x6, x7, x8, x9, x10, x11, .slice l.a l.xs.length l.c] 26
  have c0 := RC.cell 0
  have c12 := RC.cell 12
  have z1 : (w.alloc (.cells #[.int .i64 15, x1, x2, x3, x4, x5, x6, x7, x8, x9, x10, x11, .slice l.a l.xs.length l.c] 26)).heap.size = w.heap.size + 1 := by simp
  have z2 : w.heap.size + 1 ≤ ((w.alloc (.cells #[.int .i64 15, x1, x2, x3, x4, x5, x6, x7, x8, x9, x10, x11, .slice l.a l.xs.length l.c] 26)).alloc (.cells #[] 5)).heap.size := by simp
  have m := H.m
  obtain ⟨v1, w1, hap, R1, n1⟩ := append_any (P := Tryz.prog) ((w.alloc (.cells #[.int .i64 15, x1, x2, x3, x4, x5, x6, x7, x8, x9, x10, x11, .slice l.a l.xs.length l.c] 26)).alloc (.cells #[] 5)) 22 i0 Tryz.underlying22 hi hz0 hz1 hz2 (w.heap.size + 1) w.heap.size _ _ R l.g l.a l.c l.xs (H.up N).r H.z (by simp; omega) (by omega) z2
  have N1 := N.trans n1
  rw [List.nil_append] at R1
  clear RC R n1 N m H z2
  go_enter Tryz.func42, Tryz.ntmps42
  go_wp2_with (at_builtin; refine Lib.wpList_append_run _ rfl _ _ 22 22 rfl _ _ rfl rfl _ _ hap ?_)
  go_ret
  exact ⟨⟨_, rfl, R1.base (by omega)⟩, N1⟩
set_option maxHeartbeats 1000000 in
theorem sbFinished_any (w : World) (x1 x2 x3 x4 x5 x6 x7 x8 x9 x10 x11 : Value) (l : Lst) (H : LstR w l) : Calls Tryz.prog 42 #[.agg #[.int .i64 20, x1, x2, x3, x4, x5, x6, x7, x8, x9, x10, x11, .slice l.a l.xs.length l.c]] w (BodP w l.xs) := by
  obtain ⟨i0, hi, hz0, hz1, hz2⟩ := info_parts Tryz.info5
  obtain ⟨N, RC, R⟩ := boxed w [.int .i64 20, x1, x2, x3, x4, x5, x6, x7, x8, x9, x10, x11, .slice l.a l.xs.length l.c] 26
  have c0 := RC.cell 0
  have c12 := RC.cell 12
  have z1 : (w.alloc (.cells #[.int .i64 20, x1, x2, x3, x4, x5, x6, x7, x8, x9, x10, x11, .slice l.a l.xs.length l.c] 26)).heap.size = w.heap.size + 1 := by simp
  have z2 : w.heap.size + 1 ≤ ((w.alloc (.cells #[.int .i64 20, x1, x2, x3, x4, x5, x6, x7, x8, x9, x10, x11, .slice l.a l.xs.length l.c] 26)).alloc (.cells #[] 5)).heap.size := by simp
  have m := H.m
  obtain ⟨v1, w1, hap, R1, n1⟩ := append_any (P := Tryz.prog) ((w.alloc (.cells #[.int .i64 20, x1, x2, x3, x4, x5, x6, x7, x8, x9, x10, x11, .slice l.a l.xs.length l.c] 26)).alloc (.cells #[] 5)) 22 i0 Tryz.underlying22 hi hz0 hz1 hz2 (w.heap.size + 1) w.heap.size _ _ R l.g l.a l.c l.xs (H.up N).r H.z (by simp; omega) (by omega) z2
  have N1 := N.trans n1
  rw [List.nil_append] at R1
  clear RC R n1 N m H z2
  go_enter Tryz.func42, Tryz.ntmps42
  go_wp2_with (at_builtin; refine Lib.wpList_append_run _ rfl _ _ 22 22 rfl _ _ rfl rfl _ _ hap ?_)
  go_ret
  exact ⟨⟨_, rfl, R1.base (by omega)⟩, N1⟩
theorem big1 (n : Int) (h0 : 0 ≤ n) (h1 : n ≤ 255) : bigL n 1 = [n] := by
  unfold bigL
  simp [List.range_succ]
  omega
set_option maxHeartbeats 1000000 in
theorem sbUpdate_any (w : World) (x1 x2 x3 x4 x5 x6 x7 x9 x10 x11 x12 : Value) (ea : Int) (e0 : 0 ≤ ea) (e1 : ea ≤ 255) : Calls Tryz.prog 42 #[.agg #[.int .i64 24, x1, x2, x3, x4, x5, x6, x7, .int .i64 ea, x9, x10, x11, x12]] w (BodP w (bigL ea 1)) := by
  obtain ⟨i0, hi, hz0, hz1, hz2⟩ := info_parts Tryz.info5
  obtain ⟨N, RC, R⟩ := boxed w [.int .i64 24, x1, x2, x3, x4, x5, x6, x7, .int .i64 ea, x9, x10, x11, x12] 26
  rw [big1 ea e0 e1]
  have c0 := RC.cell 0
  have c8 := RC.cell 8
  have z1 : (w.alloc (.cells #[.int .i64 24, x1, x2, x3, x4, x5, x6, x7, .int .i64 ea, x9, x10, x11, x12] 26)).heap.size = w.heap.size + 1 := by simp
  have z2 : w.heap.size + 1 ≤ ((w.alloc (.cells #[.int .i64 24, x1, x2, x3, x4, x5, x6, x7, .int .i64 ea, x9, x10, x11, x12] 26)).alloc (.cells #[] 5)).heap.size := by simp
  have R' : RowB ((w.alloc (.cells #[.int .i64 24, x1, x2, x3, x4, x5, x6, x7, .int .i64 ea, x9, x10, x11, x12] 26)).alloc (.cells #[] 5)) (w.heap.size + 1) (.slice (some ⟨w.heap.size + 1, 0, none⟩) 0 0) [] := R
  have N' : Below w.heap.size w ((w.alloc (.cells #[.int .i64 24, x1, x2, x3, x4, x5, x6, x7, .int .i64 ea, x9, x10, x11, x12] 26)).alloc (.cells #[] 5)) := N
  have c0' : ((w.alloc (.cells #[.int .i64 24, x1, x2, x3, x4, x5, x6, x7, .int .i64 ea, x9, x10, x11, x12] 26)).alloc (.cells #[] 5)).cell? ⟨w.heap.size, 0, none⟩ = some (.int .i64 24) := c0
  have c8' : ((w.alloc (.cells #[.int .i64 24, x1, x2, x3, x4, x5, x6, x7, .int .i64 ea, x9, x10, x11, x12] 26)).alloc (.cells #[] 5)).cell? ⟨w.heap.size, 8, none⟩ = some (.int .i64 ea) := c8
  clear RC R N c0 c8
  go_enter Tryz.func42, Tryz.ntmps42
  go_upto_region 34 with fail
  generalize (w.alloc (.cells #[.int .i64 24, x1, x2, x3, x4, x5, x6, x7, .int .i64 ea, x9, x10, x11, x12] 26)).alloc (.cells #[] 5) = W at *
  have nL : Below W.heap.size W (W.alloc (.cells #[.int .u8 ea] 5)) := (Below.refl _ _).alloc (Nat.le_refl _) _
  obtain ⟨v1, w1, hap, R1, n1⟩ := append_any (P := Tryz.prog) (W.alloc (.cells #[.int .u8 ea] 5)) 22 i0 Tryz.underlying22 hi hz0 hz1 hz2 (w.heap.size + 1) w.heap.size _ _ (R'.up nL) _ _ 1 [ea] (blk_lit1 W .u8 5 ea).own0.rd (by simp) (by simp) (by omega) (Nat.le_trans z2 nL.size)
  have N1 := (nxt N' nL).trans n1
  rw [List.nil_append] at R1
  clear R' n1 N' nL
  go_wp2_with (at_builtin; refine Lib.wpList_append_run _ rfl _ _ 22 22 rfl _ _ rfl rfl _ _ hap ?_)
  go_ret
  exact ⟨⟨_, rfl, R1.base (by omega)⟩, N1⟩
end Go.Proofs.YtdnkgmlidhepbaaGreat
namespace Go.Proofs.YtdnkgmlidhepbaaGreat
open Go Go.RowKit
def bdL (t : List Int) (ag ea : Int) (b : List Int) : List Int := if t.length = 0 then [] else bigL ag 4 ++ (bigL ea 1 ++ b)
def heL (v : Int) (r s : List Int) (ho : List UInt8) (pr : List (List UInt8)) (t : List Int) (ag ea : Int) (b : List Int) : List Int := fpL v r s ++ (shL ho ++ (lsL pr ++ (loL t ++ bdL t ag ea b)))
set_option maxHeartbeats 4000000 in
theorem helloBody_any (w : World) (q : Nat) (v : Int) (l1 l2 l3 l4 : Lst) (ho : List UInt8) (g : Nat) (a : Option Addr) (c : Nat) (ls : List (List UInt8)) (ag ea : Int)
    (h0 : w.cell? ⟨q, 0, none⟩ = some (.int .i64 v)) (h1 : w.cell? ⟨q, 1, none⟩ = some (.slice l1.a l1.xs.length l1.c)) (h2 : w.cell? ⟨q, 2, none⟩ = some (.slice l2.a l2.xs.length l2.c)) (h3 : w.cell? ⟨q, 3, none⟩ = some (.string ⟨⟨ho⟩⟩)) (h4 : w.cell? ⟨q, 4, none⟩ = some (.slice a ls.length c))
    (h5 : w.cell? ⟨q, 5, none⟩ = some (.slice l3.a l3.xs.length l3.c)) (h6 : w.cell? ⟨q, 6, none⟩ = some (.int .i64 ag)) (h7 : w.cell? ⟨q, 7, none⟩ = some (.int .i64 ea)) (h8 : w.cell? ⟨q, 8, none⟩ = some (.slice l4.a l4.xs.length l4.c))
    (H1 : LstR w l1) (H2 : LstR w l2) (H3 : LstR w l3) (H4 : LstR w l4) (H : TxsR w g a ls) (hh : ho.length ≤ 1048576) :
    Calls Tryz.prog 87 #[.pointer (some ⟨q, 0, none⟩)] w (BodP w (heL v l1.xs l2.xs ho ls l3.xs ag ea l4.xs)) := by
  obtain ⟨i0, hi, hz0, hz1, hz2⟩ := info_parts Tryz.info5
  have e1 := fpL_len v l1.xs l2.xs
  have m1 := H1.m
  have m2 := H2.m
  have m3 := H3.m
  have m4 := H4.m
  have lf : (fpL v l1.xs l2.xs).length ≤ 2097153 := by omega
  have lt := shL_len ho
  have ll := lsL_len ls H.n H.z
  have l3l := loL_len l3.xs
  have EE := hide (show heL v l1.xs l2.xs ho ls l3.xs ag ea l4.xs = fpL v l1.xs l2.xs ++ (shL ho ++ (lsL ls ++ (loL l3.xs ++ bdL l3.xs ag ea l4.xs))) from rfl)
  clear e1 m1 m2
  generalize heL v l1.xs l2.xs ho ls l3.xs ag ea l4.xs = out at *
  go_enter Tryz.func87, Tryz.ntmps87
  go_upto_region 1 with fail
  refine region_callA 8 _ _ (fun i => [Fact.eq (.pointer (some ⟨q, 0, none⟩)), Fact.eq (.pointer (some ⟨q, 0, none⟩)), Fact.eq (.pointer (some ⟨q, 0, none⟩)), RBf w.heap.size (fpL v l1.xs l2.xs), Fact.eq (.pointer (some ⟨q, 0, none⟩)), Fact.eq (.pointer (some ⟨q, 0, none⟩)), Fact.eq (.pointer (some ⟨q, 3, none⟩)), Fact.eq (.string ⟨⟨ho⟩⟩)].getD i Fact.no) (by kernel_rfl) (by kernel_rfl) rfl rfl rfl 12 3 rfl rfl rfl (by show (12 : Nat) < 50; decide) (by show (3 : Nat) < 50; decide) ?_ 91 _ _ rfl (by kernel_rfl) ?_
  · intro i hi
    obtain rfl | rfl | rfl | rfl | rfl | rfl | rfl | rfl : i = 0 ∨ i = 1 ∨ i = 2 ∨ i = 3 ∨ i = 4 ∨ i = 5 ∨ i = 6 ∨ i = 7 := by omega
    · refine step_pure rfl fun A ww hb hw hf => ?_
      have e0 : A.tmps[0]?.getD undef = .pointer (some ⟨q, 0, none⟩) := gdv (hb.2.2 0 (by kernel_rfl))
      exact ⟨.pointer (some ⟨q, 0, none⟩), by simp [go_sem, e0], rfl⟩
    · refine step_pure rfl fun A ww hb hw hf => ?_
      have e0 : A.tmps[4]?.getD undef = .pointer (some ⟨q, 0, none⟩) := gdv (hf 0 4 (by kernel_rfl))
      exact ⟨.pointer (some ⟨q, 0, none⟩), by simp [go_sem, e0], rfl⟩
    · refine step_pure rfl fun A ww hb hw hf => ?_
      have e0 : A.tmps[5]?.getD undef = .pointer (some ⟨q, 0, none⟩) := gdv (hf 1 5 (by kernel_rfl))
      exact ⟨.pointer (some ⟨q, 0, none⟩), by simp [go_sem, e0], rfl⟩
    · refine step_callv rfl 92 _ _ rfl (by kernel_rfl) fun A ww hb hw hf => ?_
      have e6 : A.tmps.getD 6 undef = .pointer (some ⟨q, 0, none⟩) := hf 2 6 (by kernel_rfl)
      show Calls Tryz.prog 92 #[A.tmps.getD 6 undef] ww _
      rw [e6]
      refine (firstBody_any ww q v l1 l2 (cellq hw h0) (cellq hw h1) (cellq hw h2) (H1.up hw).r (H2.up hw).r H1.z H2.z H1.m H2.m).mono ?_
      rintro r w' ⟨⟨x, rfl, R⟩, n⟩
      exact ⟨x, rfl, n, R.base hw.size⟩
    · refine step_pure rfl fun A ww hb hw hf => ?_
      have e0 : A.tmps[0]?.getD undef = .pointer (some ⟨q, 0, none⟩) := gdv (hb.2.2 0 (by kernel_rfl))
      exact ⟨.pointer (some ⟨q, 0, none⟩), by simp [go_sem, e0], rfl⟩
    · refine step_pure rfl fun A ww hb hw hf => ?_
      have e0 : A.tmps[8]?.getD undef = .pointer (some ⟨q, 0, none⟩) := gdv (hf 4 8 (by kernel_rfl))
      exact ⟨.pointer (some ⟨q, 0, none⟩), by simp [go_sem, e0], rfl⟩
    · refine step_pure rfl fun A ww hb hw hf => ?_
      have e0 : A.tmps[9]?.getD undef = .pointer (some ⟨q, 0, none⟩) := gdv (hf 5 9 (by kernel_rfl))
      exact ⟨.pointer (some ⟨q, 3, none⟩), by simp [go_sem, e0], rfl⟩
    · refine step_pure rfl fun A ww hb hw hf => ?_
      have e0 : A.tmps[10]?.getD undef = .pointer (some ⟨q, 3, none⟩) := gdv (hf 6 10 (by kernel_rfl))
      have hc : ww.cell? ⟨q, 3, none⟩ = some (.string ⟨⟨ho⟩⟩) := cellq hw h3
      exact ⟨.string ⟨⟨ho⟩⟩, by simp [go_sem, e0, hc], rfl⟩
  intro A W hb hw hF
  have e7 : RowB W w.heap.size (A.tmps.getD 7 undef) (fpL v l1.xs l2.xs) := hF 3 7 (by kernel_rfl) (by kernel_rfl)
  have e11 : A.tmps.getD 11 undef = .string ⟨⟨ho⟩⟩ := hF 7 11 (by kernel_rfl) (by kernel_rfl)
  show Calls Tryz.prog 91 #[A.tmps.getD 7 undef, A.tmps.getD 11 undef] W _
  rw [e11]
  refine (appendShort_any W w.heap.size _ (fpL v l1.xs l2.xs) e7 hw.size ho (by omega) hh).mono ?_
  rintro r w1 ⟨x1, rfl, R1, n1⟩
  refine ⟨x1, rfl, fun vs e2 => ?_⟩
  have N1 := hw.trans n1
  clear hb hF h0 h1 h2 h3 e7 e11 n1 hw H1 H2
  simp only [puts, e2, Act.put, List.setIfInBounds_toArray, List.set_cons_succ, List.set_cons_zero]
  -- the protocols
  have k4 := cellq N1 h4
  have C2 := hide (appendShorts_any w1 w.heap.size x1 _ R1 N1.size g a c ls (H.up N1).r H.g (by rw [List.length_append]; omega) H.n H.z)
  clear R1 h4 H
  go_wp2_with fail
  refine C2.out.mono ?_
  rintro r w2 ⟨x2, rfl, R2, n2⟩
  have N2 := N1.trans n2
  clear N1 n2 C2 k4
  -- the ticket
  have k5 := cellq N2 h5
  have C3 := hide (appendLong_any w2 w.heap.size x2 _ R2 N2.size l3.g l3.a l3.c l3.xs (H3.up N2).r H3.z H3.g (by rw [List.length_append, List.length_append]; omega) H3.m)
  clear R2
  go_wp2_with fail
  refine C3.out.mono ?_
  rintro r w3 ⟨x3, rfl, R3, n3⟩
  have N3 := N2.trans n3
  clear N2 n3 C3 k5
  replace h5 := cellq N3 h5
  by_cases t0 : l3.xs.length = 0
  · have d0 : ((l3.xs.length : Int) == 0) = true := beq_iff_eq.2 (by omega)
    have ER : out = fpL v l1.xs l2.xs ++ shL ho ++ lsL ls ++ loL l3.xs := by
      rw [EE.out, bdL, if_pos t0]
      simp only [List.append_nil, List.append_assoc]
    rw [← ER] at R3
    clear ER EE
    go_wp2
    go_ret
    exact ⟨⟨_, rfl, R3⟩, N3⟩
  · have d0 : ((l3.xs.length : Int) == 0) = false := beq_eq_false_iff_ne.2 (by omega)
    have k6 := cellq N3 h6
    have b4 := bigL_len ag 4
    have b1 := bigL_len ea 1
    have C4 := hide (appendNumber_any w3 w.heap.size x3 _ R3 N3.size ag 4 (by decide) (by simp only [List.length_append]; omega))
    clear R3
    go_wp2_with fail
    refine C4.out.mono ?_
    rintro r w4 ⟨x4, rfl, R4, n4⟩
    have N4 := N3.trans n4
    clear n4 C4 k6 h5 h6
    have k7 := cellq N4 h7
    have C5 := hide (appendNumber_any w4 w.heap.size x4 _ R4 N4.size ea 1 (by decide) (by simp only [List.length_append]; omega))
    clear R4
    go_wp2_with fail
    refine C5.out.mono ?_
    rintro r w5 ⟨x5, rfl, R5, n5⟩
    have N5 := N4.trans n5
    clear N4 n5 C5 k7 h7
    have k8 := cellq N5 h8
    obtain ⟨x6, w6, hap, R6, n6⟩ := append_any (P := Tryz.prog) w5 22 i0 Tryz.underlying22 hi hz0 hz1 hz2 w.heap.size w.heap.size _ _ R5 l4.g l4.a l4.c l4.xs (H4.up N5).r H4.z (by simp only [List.length_append]; omega) (Nat.le_refl _) N5.size
    have N6 := N5.trans n6
    have ER : out = fpL v l1.xs l2.xs ++ shL ho ++ lsL ls ++ loL l3.xs ++ bigL ag 4 ++ bigL ea 1 ++ l4.xs := by
      rw [EE.out, bdL, if_neg t0]
      simp only [List.append_assoc]
    rw [← ER] at R6
    clear ER EE R5 n6 N5 N3 H3 H4
    go_wp2_with (at_builtin; refine Lib.wpList_append_run _ rfl _ _ 22 22 rfl _ _ rfl rfl _ _ hap ?_)
    go_ret
    exact ⟨⟨_, rfl, R6⟩, N6⟩
end Go.Proofs.YtdnkgmlidhepbaaGreat
