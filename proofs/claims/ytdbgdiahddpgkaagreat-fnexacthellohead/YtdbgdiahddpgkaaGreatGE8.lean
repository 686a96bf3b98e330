import Derived.Test.YtdbgdiahddpgkaaGreatGExMgN
import Derived.Test.YtdbgdiahddpgkaaGreatGExMgO
import Derived.Test.YtdbgdiahddpgkaaGreatGExMgP
import Derived.Test.YtdbgdiahddpgkaaGreatGExMgQ
import Derived.Test.YtdbgdiahddpgkaaGreatGE5
import Derived.Deep.MidRow

/-
  Messages: what they are, where they lie, and two of them held against each other.
-/
namespace Go.Proofs.YtdbgdiahddpgkaaGreat
open Go Go.RowKit

/-- A message. -/
structure Msg where
  k : Int
  v : Int
  r : List Int
  s : List Int
  ho : List UInt8
  pr : List (List UInt8)
  ti : List Int
  ag : Int
  ea : Int
  bi : List Int
  rs : Bool
  ce : List (List Int)
  pf : List Int
/-- Where it lies. -/
structure MQ where
  a2 : Option Addr
  c2 : Nat
  g2 : Nat
  a3 : Option Addr
  c3 : Nat
  g3 : Nat
  a5 : Option Addr
  c5 : Nat
  g5 : Nat
  a6 : Option Addr
  c6 : Nat
  g6 : Nat
  a9 : Option Addr
  c9 : Nat
  g9 : Nat
  a11 : Option Addr
  c11 : Nat
  g11 : Nat
  a12 : Option Addr
  c12 : Nat
  g12 : Nat
  ps : List Plb
def mgV (p : MQ) (m : Msg) : Array Value := #[.int .i64 m.k, .int .i64 m.v, .slice p.a2 m.r.length p.c2, .slice p.a3 m.s.length p.c3, .string ⟨⟨m.ho⟩⟩, .slice p.a5 m.pr.length p.c5, .slice p.a6 m.ti.length p.c6, .int .i64 m.ag, .int .i64 m.ea, .slice p.a9 m.bi.length p.c9, .bool m.rs, .slice p.a11 m.ce.length p.c11, .slice p.a12 m.pf.length p.c12]
structure HasM (w : World) (p : MQ) (m : Msg) : Prop where
  r : Rd w p.g2 p.a2 .u8 m.r
  s : Rd w p.g3 p.a3 .u8 m.s
  pr : RdT w p.g5 p.a5 m.pr
  ti : Rd w p.g6 p.a6 .u8 m.ti
  bi : Rd w p.g9 p.a9 .u8 m.bi
  ce : RdL w p.g11 p.a11 m.ce p.ps
  pf : Rd w p.g12 p.a12 .u8 m.pf
  prC : m.pr.length ≤ p.c5
theorem HasM.up {w w' : World} {p : MQ} {m : Msg} (h : HasM w p m) (n : Below w.heap.size w w') : HasM w' p m := ⟨h.r.up n, h.s.up n, h.pr.up n, h.ti.up n, h.bi.up n, h.ce.up n, h.pf.up n, h.prC⟩
/-- A message of a size that a law draws. -/
structure IsM (m : Msg) : Prop where
  rB : Byt m.r
  sB : Byt m.s
  tiB : Byt m.ti
  biB : Byt m.bi
  pfB : Byt m.pf
  ceB : ∀ i, i < m.ce.length → Byt (m.ce.getD i [])
  rL : m.r.length ≤ 1048576
  sL : m.s.length ≤ 1048576
  prL : m.pr.length ≤ 1048576
  tiL : m.ti.length ≤ 1048576
  biL : m.bi.length ≤ 1048576
  ceL : m.ce.length ≤ 1048576
  pfL : m.pf.length ≤ 1048576
  ceZ : ∀ i, i < m.ce.length → (m.ce.getD i []).length ≤ 1048576
  hoL : m.ho.length ≤ 1048576
  prZ : ∀ l ∈ m.pr, l.length ≤ 1048576
/-- All fields are the same, asked in the program's order. -/
def sameM (m m' : Msg) : Bool := decide (m.k = m'.k) && (decide (m.v = m'.v) && (decide (m.ho = m'.ho) && (decide (m.ag = m'.ag) && (decide (m.ea = m'.ea) && (decide (m.rs = m'.rs) && (decide (m.r = m'.r) && (decide (m.s = m'.s) && (decide (m.ti = m'.ti) && (decide (m.bi = m'.bi) && (decide (m.pf = m'.pf) && (decide (m.pr = m'.pr) && (decide (m.ce = m'.ce)))))))))))))
set_option maxHeartbeats 1000000 in
theorem isSame_any (w : World) (p p' : MQ) (m m' : Msg) (h : HasM w p m) (h' : HasM w p' m') (i : IsM m) (i' : IsM m') :
    Calls Tryz.prog 46 #[.agg (mgV p m), .agg (mgV p' m')] w fun e w' => e = .returned (.bool (sameM m m')) ∧ Below w.heap.size w w' := by
  unfold mgV
  by_cases e0 : m.k = m'.k
  rotate_left
  · refine (same_k w m.k m'.k m.v m'.v m.ag m'.ag m.ea m'.ea ⟨m.ho⟩ ⟨m'.ho⟩ m.rs m'.rs p.a2 p'.a2 p.a3 p'.a3 p.a5 p'.a5 p.a6 p'.a6 p.a9 p'.a9 p.a11 p'.a11 p.a12 p'.a12 m.r.length m'.r.length p.c2 p'.c2 m.s.length m'.s.length p.c3 p'.c3 m.pr.length m'.pr.length p.c5 p'.c5 m.ti.length m'.ti.length p.c6 p'.c6 m.bi.length m'.bi.length p.c9 p'.c9 m.ce.length m'.ce.length p.c11 p'.c11 m.pf.length m'.pf.length p.c12 p'.c12 e0).mono ?_
    rintro e w1 ⟨rfl, n⟩
    exact ⟨by simp [sameM, e0], n⟩
  rw [← e0]
  by_cases e1 : m.v = m'.v
  rotate_left
  · refine (same_v w m.k m.v m'.v m.ag m'.ag m.ea m'.ea ⟨m.ho⟩ ⟨m'.ho⟩ m.rs m'.rs p.a2 p'.a2 p.a3 p'.a3 p.a5 p'.a5 p.a6 p'.a6 p.a9 p'.a9 p.a11 p'.a11 p.a12 p'.a12 m.r.length m'.r.length p.c2 p'.c2 m.s.length m'.s.length p.c3 p'.c3 m.pr.length m'.pr.length p.c5 p'.c5 m.ti.length m'.ti.length p.c6 p'.c6 m.bi.length m'.bi.length p.c9 p'.c9 m.ce.length m'.ce.length p.c11 p'.c11 m.pf.length m'.pf.length p.c12 p'.c12 e1).mono ?_
    rintro e w1 ⟨rfl, n⟩
    exact ⟨by simp [sameM, e1], n⟩
  rw [← e1]
  by_cases e2 : m.ho = m'.ho
  rotate_left
  · refine (same_ho w m.k m.v m.ag m'.ag m.ea m'.ea ⟨m.ho⟩ ⟨m'.ho⟩ m.rs m'.rs p.a2 p'.a2 p.a3 p'.a3 p.a5 p'.a5 p.a6 p'.a6 p.a9 p'.a9 p.a11 p'.a11 p.a12 p'.a12 m.r.length m'.r.length p.c2 p'.c2 m.s.length m'.s.length p.c3 p'.c3 m.pr.length m'.pr.length p.c5 p'.c5 m.ti.length m'.ti.length p.c6 p'.c6 m.bi.length m'.bi.length p.c9 p'.c9 m.ce.length m'.ce.length p.c11 p'.c11 m.pf.length m'.pf.length p.c12 p'.c12 (fun h => e2 (by injection h))).mono ?_
    rintro e w1 ⟨rfl, n⟩
    exact ⟨by simp [sameM, e2], n⟩
  rw [← e2]
  by_cases e3 : m.ag = m'.ag
  rotate_left
  · refine (same_ag w m.k m.v m.ag m'.ag m.ea m'.ea ⟨m.ho⟩ m.rs m'.rs p.a2 p'.a2 p.a3 p'.a3 p.a5 p'.a5 p.a6 p'.a6 p.a9 p'.a9 p.a11 p'.a11 p.a12 p'.a12 m.r.length m'.r.length p.c2 p'.c2 m.s.length m'.s.length p.c3 p'.c3 m.pr.length m'.pr.length p.c5 p'.c5 m.ti.length m'.ti.length p.c6 p'.c6 m.bi.length m'.bi.length p.c9 p'.c9 m.ce.length m'.ce.length p.c11 p'.c11 m.pf.length m'.pf.length p.c12 p'.c12 e3).mono ?_
    rintro e w1 ⟨rfl, n⟩
    exact ⟨by simp [sameM, e3], n⟩
  rw [← e3]
  by_cases e4 : m.ea = m'.ea
  rotate_left
  · refine (same_ea w m.k m.v m.ag m.ea m'.ea ⟨m.ho⟩ m.rs m'.rs p.a2 p'.a2 p.a3 p'.a3 p.a5 p'.a5 p.a6 p'.a6 p.a9 p'.a9 p.a11 p'.a11 p.a12 p'.a12 m.r.length m'.r.length p.c2 p'.c2 m.s.length m'.s.length p.c3 p'.c3 m.pr.length m'.pr.length p.c5 p'.c5 m.ti.length m'.ti.length p.c6 p'.c6 m.bi.length m'.bi.length p.c9 p'.c9 m.ce.length m'.ce.length p.c11 p'.c11 m.pf.length m'.pf.length p.c12 p'.c12 e4).mono ?_
    rintro e w1 ⟨rfl, n⟩
    exact ⟨by simp [sameM, e4], n⟩
  rw [← e4]
  by_cases e5 : m.rs = m'.rs
  rotate_left
  · refine (same_rs w m.k m.v m.ag m.ea ⟨m.ho⟩ m.rs m'.rs p.a2 p'.a2 p.a3 p'.a3 p.a5 p'.a5 p.a6 p'.a6 p.a9 p'.a9 p.a11 p'.a11 p.a12 p'.a12 m.r.length m'.r.length p.c2 p'.c2 m.s.length m'.s.length p.c3 p'.c3 m.pr.length m'.pr.length p.c5 p'.c5 m.ti.length m'.ti.length p.c6 p'.c6 m.bi.length m'.bi.length p.c9 p'.c9 m.ce.length m'.ce.length p.c11 p'.c11 m.pf.length m'.pf.length p.c12 p'.c12 e5).mono ?_
    rintro e w1 ⟨rfl, n⟩
    exact ⟨by simp [sameM, e5], n⟩
  rw [← e5]
  refine (same_lists w m.k m.v m.ag m.ea ⟨m.ho⟩ m.rs (decide (m.r = m'.r)) (decide (m.s = m'.s)) (decide (m.ti = m'.ti)) (decide (m.bi = m'.bi)) (decide (m.pf = m'.pf)) (decide (m.pr = m'.pr)) (decide (m.ce = m'.ce)) p.a2 p'.a2 p.a3 p'.a3 p.a5 p'.a5 p.a6 p'.a6 p.a9 p'.a9 p.a11 p'.a11 p.a12 p'.a12 m.r.length m'.r.length p.c2 p'.c2 m.s.length m'.s.length p.c3 p'.c3 m.pr.length m'.pr.length p.c5 p'.c5 m.ti.length m'.ti.length p.c6 p'.c6 m.bi.length m'.bi.length p.c9 p'.c9 m.ce.length m'.ce.length p.c11 p'.c11 m.pf.length m'.pf.length p.c12 p'.c12
    (fun W n => bytesEqual_any W p.g2 p'.g2 p.a2 p'.a2 p.c2 p'.c2 m.r m'.r (h.r.up n) (h'.r.up n) i.rB i'.rB)
    (fun W n => bytesEqual_any W p.g3 p'.g3 p.a3 p'.a3 p.c3 p'.c3 m.s m'.s (h.s.up n) (h'.s.up n) i.sB i'.sB)
    (fun W n => bytesEqual_any W p.g6 p'.g6 p.a6 p'.a6 p.c6 p'.c6 m.ti m'.ti (h.ti.up n) (h'.ti.up n) i.tiB i'.tiB)
    (fun W n => bytesEqual_any W p.g9 p'.g9 p.a9 p'.a9 p.c9 p'.c9 m.bi m'.bi (h.bi.up n) (h'.bi.up n) i.biB i'.biB)
    (fun W n => bytesEqual_any W p.g12 p'.g12 p.a12 p'.a12 p.c12 p'.c12 m.pf m'.pf (h.pf.up n) (h'.pf.up n) i.pfB i'.pfB)
    (fun W n => equalTexts_any W p.g5 p'.g5 p.a5 p'.a5 p.c5 p'.c5 m.pr m'.pr (h.pr.up n) (h'.pr.up n) i.prL i'.prL)
    (fun W n => certEqual_any W p.g11 p'.g11 p.a11 p'.a11 p.c11 p'.c11 m.ce m'.ce p.ps p'.ps (h.ce.up n) (h'.ce.up n) i.ceL i'.ceL i.ceB i'.ceB)).mono ?_
  rintro e w1 ⟨rfl, n⟩
  exact ⟨by simp [sameM, e0, e1, e2, e3, e4, e5], n⟩
end Go.Proofs.YtdbgdiahddpgkaaGreat

/-
  Messages: a kind written out again.
-/
namespace Go.Proofs.YtdbgdiahddpgkaaGreat
open Go Go.RowKit

theorem iM : (Tryz.prog.info? 31).map (·.size) = some 13 := by kernel_rfl
theorem rowM : ∃ d, Tryz.prog.underlying 31 = some d ∧ d.isRow = true := ⟨_, Tryz.underlying31, rfl⟩
theorem results_cellM {P : Program} {fn : Func} {p : Tmp} {ty : TypeId} (h : fn.results = #[.cell p ty]) (tmps : Array Value) (w : World) (g : Nat) (cs : List Value) (d : TypeDesc)
    (hp : tmps.getD p undef = .pointer (some ⟨g, 0, none⟩)) (hc : w.rangeAt g 0 cs) (hu : P.underlying ty = some d) (hd : d.isRow = true) (hi : (P.info? ty).map (·.size) = some cs.length) :
    (results fn tmps).run P w = .ok (.agg cs.toArray) w := by
  have hp' : tmps[p]?.getD undef = .pointer (some ⟨g, 0, none⟩) := by simpa using hp
  simp [results, h, hp', asAddr, run_loadVar_mid w g 0 ty cs d hc hu hd hi]
theorem RwC.range {w : World} {q : Nat} {cs : List Value} {t : TypeId} (h : RwC w q cs t) : w.rangeAt q 0 cs := fun j v hj => by
  rw [Nat.zero_add]
  exact (h.cell j).trans hj

section
variable (w : World) (q : Nat) (t : TypeId) (v ag ea : Int) (a2 a3 a5 a6 a9 a11 a12 : Option Addr) (n2 n3 n5 n6 n9 n11 n12 c2 c3 c5 c6 c9 c11 c12 : Nat) (ho : ByteArray) (rs : Bool)
set_option maxRecDepth 20000 in
set_option maxHeartbeats 1000000 in
theorem plainAnswer_any (h : RwC w q [Value.int .i64 v, Value.slice a2 n2 c2, Value.slice a3 n3 c3, Value.bool rs] t) :
    Calls Tryz.prog 47 #[.iface 81 (.pointer (some ⟨q, 0, none⟩))] w fun e w' => e = .returned (.agg #[Value.int .i64 2, Value.int .i64 v, Value.slice a2 n2 c2, Value.slice a3 n3 c3, Value.string ⟨#[]⟩, Value.slice none 0 0, Value.slice none 0 0, Value.int .i64 0, Value.int .i64 0, Value.slice none 0 0, Value.bool rs, Value.slice none 0 0, Value.slice none 0 0]) ∧ Below w.heap.size w w' := by
  have lt := h.lt
  have nq : w.heap.size ≠ q := by omega
  have qn : q ≠ w.heap.size := by omega
  have h0 : w.cell? ⟨q, 0, none⟩ = some (Value.int .i64 v) := h.cell 0
  have h1 : w.cell? ⟨q, 1, none⟩ = some (Value.slice a2 n2 c2) := h.cell 1
  have h2 : w.cell? ⟨q, 2, none⟩ = some (Value.slice a3 n3 c3) := h.cell 2
  have h3 : w.cell? ⟨q, 3, none⟩ = some (Value.bool rs) := h.cell 3
  have A_helloMessage : ∀ (x : Value) (W : World), (Instr.typeAssert (.iface 81 x) 58 76 true).run Tryz.prog W = .ok (.tuple #[.pointer none, .bool false]) W := fun _ _ => by kernel_rfl
  have A_answerMessage : ∀ (x : Value) (W : World), (Instr.typeAssert (.iface 81 x) 58 81 true).run Tryz.prog W = .ok (.tuple #[x, .bool true]) W := fun _ _ => by kernel_rfl
  clear h
  have RN := hide (RwC.new w [Value.int .i64 2, Value.int .i64 v, Value.slice a2 n2 c2, Value.slice a3 n3 c3, Value.string ⟨#[]⟩, Value.slice none 0 0, Value.slice none 0 0, Value.int .i64 0, Value.int .i64 0, Value.slice none 0 0, Value.bool rs, Value.slice none 0 0, Value.slice none 0 0] 31)
  obtain ⟨d13, hd13, hrow13⟩ := rowM
  go_enter Tryz.func47, Tryz.ntmps47
  go_wp2
  go_region
  go_wp2
  exact bodyPost_ret (v := .agg #[Value.int .i64 2, Value.int .i64 v, Value.slice a2 n2 c2, Value.slice a3 n3 c3, Value.string ⟨#[]⟩, Value.slice none 0 0, Value.slice none 0 0, Value.int .i64 0, Value.int .i64 0, Value.slice none 0 0, Value.bool rs, Value.slice none 0 0, Value.slice none 0 0]) (results_cellM Tryz.results47 _ _ w.heap.size [Value.int .i64 2, Value.int .i64 v, Value.slice a2 n2 c2, Value.slice a3 n3 c3, Value.string ⟨#[]⟩, Value.slice none 0 0, Value.slice none 0 0, Value.int .i64 0, Value.int .i64 0, Value.slice none 0 0, Value.bool rs, Value.slice none 0 0, Value.slice none 0 0] d13 rfl (RN.out.drew1.range) hd13 hrow13 iM) rfl ⟨rfl, ((Below.refl _ _).alloc (Nat.le_refl _) _).drew⟩
set_option maxRecDepth 20000 in
set_option maxHeartbeats 1000000 in
theorem plainTicket_any (h : RwC w q [Value.int .i64 ag, Value.int .i64 ea, Value.slice a2 n2 c2, Value.slice a6 n6 c6] t) :
    Calls Tryz.prog 47 #[.iface 84 (.pointer (some ⟨q, 0, none⟩))] w fun e w' => e = .returned (.agg #[Value.int .i64 4, Value.int .i64 0, Value.slice a2 n2 c2, Value.slice none 0 0, Value.string ⟨#[]⟩, Value.slice none 0 0, Value.slice a6 n6 c6, Value.int .i64 ag, Value.int .i64 ea, Value.slice none 0 0, Value.bool false, Value.slice none 0 0, Value.slice none 0 0]) ∧ Below w.heap.size w w' := by
  have lt := h.lt
  have nq : w.heap.size ≠ q := by omega
  have qn : q ≠ w.heap.size := by omega
  have h0 : w.cell? ⟨q, 0, none⟩ = some (Value.int .i64 ag) := h.cell 0
  have h1 : w.cell? ⟨q, 1, none⟩ = some (Value.int .i64 ea) := h.cell 1
  have h2 : w.cell? ⟨q, 2, none⟩ = some (Value.slice a2 n2 c2) := h.cell 2
  have h3 : w.cell? ⟨q, 3, none⟩ = some (Value.slice a6 n6 c6) := h.cell 3
  have A_helloMessage : ∀ (x : Value) (W : World), (Instr.typeAssert (.iface 84 x) 58 76 true).run Tryz.prog W = .ok (.tuple #[.pointer none, .bool false]) W := fun _ _ => by kernel_rfl
  have A_answerMessage : ∀ (x : Value) (W : World), (Instr.typeAssert (.iface 84 x) 58 81 true).run Tryz.prog W = .ok (.tuple #[.pointer none, .bool false]) W := fun _ _ => by kernel_rfl
  have A_ticketMessage : ∀ (x : Value) (W : World), (Instr.typeAssert (.iface 84 x) 58 84 true).run Tryz.prog W = .ok (.tuple #[x, .bool true]) W := fun _ _ => by kernel_rfl
  clear h
  have RN := hide (RwC.new w [Value.int .i64 4, Value.int .i64 0, Value.slice a2 n2 c2, Value.slice none 0 0, Value.string ⟨#[]⟩, Value.slice none 0 0, Value.slice a6 n6 c6, Value.int .i64 ag, Value.int .i64 ea, Value.slice none 0 0, Value.bool false, Value.slice none 0 0, Value.slice none 0 0] 31)
  obtain ⟨d13, hd13, hrow13⟩ := rowM
  go_enter Tryz.func47, Tryz.ntmps47
  go_wp2
  go_region
  go_wp2
  exact bodyPost_ret (v := .agg #[Value.int .i64 4, Value.int .i64 0, Value.slice a2 n2 c2, Value.slice none 0 0, Value.string ⟨#[]⟩, Value.slice none 0 0, Value.slice a6 n6 c6, Value.int .i64 ag, Value.int .i64 ea, Value.slice none 0 0, Value.bool false, Value.slice none 0 0, Value.slice none 0 0]) (results_cellM Tryz.results47 _ _ w.heap.size [Value.int .i64 4, Value.int .i64 0, Value.slice a2 n2 c2, Value.slice none 0 0, Value.string ⟨#[]⟩, Value.slice none 0 0, Value.slice a6 n6 c6, Value.int .i64 ag, Value.int .i64 ea, Value.slice none 0 0, Value.bool false, Value.slice none 0 0, Value.slice none 0 0] d13 rfl (RN.out.drew1.range) hd13 hrow13 iM) rfl ⟨rfl, ((Below.refl _ _).alloc (Nat.le_refl _) _).drew⟩
set_option maxRecDepth 20000 in
set_option maxHeartbeats 1000000 in
theorem plainEnd_any (x : Value) :
    Calls Tryz.prog 47 #[.iface 87 x] w fun e w' => e = .returned (.agg #[Value.int .i64 5, Value.int .i64 0, Value.slice none 0 0, Value.slice none 0 0, Value.string ⟨#[]⟩, Value.slice none 0 0, Value.slice none 0 0, Value.int .i64 0, Value.int .i64 0, Value.slice none 0 0, Value.bool false, Value.slice none 0 0, Value.slice none 0 0]) ∧ Below w.heap.size w w' := by
  have A_helloMessage : ∀ (x : Value) (W : World), (Instr.typeAssert (.iface 87 x) 58 76 true).run Tryz.prog W = .ok (.tuple #[.pointer none, .bool false]) W := fun _ _ => by kernel_rfl
  have A_answerMessage : ∀ (x : Value) (W : World), (Instr.typeAssert (.iface 87 x) 58 81 true).run Tryz.prog W = .ok (.tuple #[.pointer none, .bool false]) W := fun _ _ => by kernel_rfl
  have A_ticketMessage : ∀ (x : Value) (W : World), (Instr.typeAssert (.iface 87 x) 58 84 true).run Tryz.prog W = .ok (.tuple #[.pointer none, .bool false]) W := fun _ _ => by kernel_rfl
  have A_endOfEarlyMessage : ∀ (x : Value) (W : World), (Instr.typeAssert (.iface 87 x) 58 87 true).run Tryz.prog W = .ok (.tuple #[x, .bool true]) W := fun _ _ => by kernel_rfl
  have RN := hide (RwC.new w [Value.int .i64 5, Value.int .i64 0, Value.slice none 0 0, Value.slice none 0 0, Value.string ⟨#[]⟩, Value.slice none 0 0, Value.slice none 0 0, Value.int .i64 0, Value.int .i64 0, Value.slice none 0 0, Value.bool false, Value.slice none 0 0, Value.slice none 0 0] 31)
  obtain ⟨d13, hd13, hrow13⟩ := rowM
  go_enter Tryz.func47, Tryz.ntmps47
  go_wp2
  exact bodyPost_ret (v := .agg #[Value.int .i64 5, Value.int .i64 0, Value.slice none 0 0, Value.slice none 0 0, Value.string ⟨#[]⟩, Value.slice none 0 0, Value.slice none 0 0, Value.int .i64 0, Value.int .i64 0, Value.slice none 0 0, Value.bool false, Value.slice none 0 0, Value.slice none 0 0]) (results_cellM Tryz.results47 _ _ w.heap.size [Value.int .i64 5, Value.int .i64 0, Value.slice none 0 0, Value.slice none 0 0, Value.string ⟨#[]⟩, Value.slice none 0 0, Value.slice none 0 0, Value.int .i64 0, Value.int .i64 0, Value.slice none 0 0, Value.bool false, Value.slice none 0 0, Value.slice none 0 0] d13 rfl (RN.out.range) hd13 hrow13 iM) rfl ⟨rfl, ((Below.refl _ _).alloc (Nat.le_refl _) _)⟩
set_option maxRecDepth 20000 in
set_option maxHeartbeats 1000000 in
theorem plainExtras_any (h : RwC w q [Value.slice a5 n5 c5, Value.int .i64 ea] t) :
    Calls Tryz.prog 47 #[.iface 90 (.pointer (some ⟨q, 0, none⟩))] w fun e w' => e = .returned (.agg #[Value.int .i64 8, Value.int .i64 0, Value.slice none 0 0, Value.slice none 0 0, Value.string ⟨#[]⟩, Value.slice a5 n5 c5, Value.slice none 0 0, Value.int .i64 0, Value.int .i64 ea, Value.slice none 0 0, Value.bool false, Value.slice none 0 0, Value.slice none 0 0]) ∧ Below w.heap.size w w' := by
  have lt := h.lt
  have nq : w.heap.size ≠ q := by omega
  have qn : q ≠ w.heap.size := by omega
  have h0 : w.cell? ⟨q, 0, none⟩ = some (Value.slice a5 n5 c5) := h.cell 0
  have h1 : w.cell? ⟨q, 1, none⟩ = some (Value.int .i64 ea) := h.cell 1
  have A_helloMessage : ∀ (x : Value) (W : World), (Instr.typeAssert (.iface 90 x) 58 76 true).run Tryz.prog W = .ok (.tuple #[.pointer none, .bool false]) W := fun _ _ => by kernel_rfl
  have A_answerMessage : ∀ (x : Value) (W : World), (Instr.typeAssert (.iface 90 x) 58 81 true).run Tryz.prog W = .ok (.tuple #[.pointer none, .bool false]) W := fun _ _ => by kernel_rfl
  have A_ticketMessage : ∀ (x : Value) (W : World), (Instr.typeAssert (.iface 90 x) 58 84 true).run Tryz.prog W = .ok (.tuple #[.pointer none, .bool false]) W := fun _ _ => by kernel_rfl
  have A_endOfEarlyMessage : ∀ (x : Value) (W : World), (Instr.typeAssert (.iface 90 x) 58 87 true).run Tryz.prog W = .ok (.tuple #[.pointer none, .bool false]) W := fun _ _ => by kernel_rfl
  have A_extrasMessage : ∀ (x : Value) (W : World), (Instr.typeAssert (.iface 90 x) 58 90 true).run Tryz.prog W = .ok (.tuple #[x, .bool true]) W := fun _ _ => by kernel_rfl
  clear h
  have RN := hide (RwC.new w [Value.int .i64 8, Value.int .i64 0, Value.slice none 0 0, Value.slice none 0 0, Value.string ⟨#[]⟩, Value.slice a5 n5 c5, Value.slice none 0 0, Value.int .i64 0, Value.int .i64 ea, Value.slice none 0 0, Value.bool false, Value.slice none 0 0, Value.slice none 0 0] 31)
  obtain ⟨d13, hd13, hrow13⟩ := rowM
  go_enter Tryz.func47, Tryz.ntmps47
  go_wp2
  go_region
  go_wp2
  exact bodyPost_ret (v := .agg #[Value.int .i64 8, Value.int .i64 0, Value.slice none 0 0, Value.slice none 0 0, Value.string ⟨#[]⟩, Value.slice a5 n5 c5, Value.slice none 0 0, Value.int .i64 0, Value.int .i64 ea, Value.slice none 0 0, Value.bool false, Value.slice none 0 0, Value.slice none 0 0]) (results_cellM Tryz.results47 _ _ w.heap.size [Value.int .i64 8, Value.int .i64 0, Value.slice none 0 0, Value.slice none 0 0, Value.string ⟨#[]⟩, Value.slice a5 n5 c5, Value.slice none 0 0, Value.int .i64 0, Value.int .i64 ea, Value.slice none 0 0, Value.bool false, Value.slice none 0 0, Value.slice none 0 0] d13 rfl (RN.out.drew1.range) hd13 hrow13 iM) rfl ⟨rfl, ((Below.refl _ _).alloc (Nat.le_refl _) _).drew⟩
set_option maxRecDepth 20000 in
set_option maxHeartbeats 1000000 in
theorem plainCerts_any (h : RwC w q [Value.slice a11 n11 c11] t) :
    Calls Tryz.prog 47 #[.iface 93 (.pointer (some ⟨q, 0, none⟩))] w fun e w' => e = .returned (.agg #[Value.int .i64 11, Value.int .i64 0, Value.slice none 0 0, Value.slice none 0 0, Value.string ⟨#[]⟩, Value.slice none 0 0, Value.slice none 0 0, Value.int .i64 0, Value.int .i64 0, Value.slice none 0 0, Value.bool false, Value.slice a11 n11 c11, Value.slice none 0 0]) ∧ Below w.heap.size w w' := by
  have lt := h.lt
  have nq : w.heap.size ≠ q := by omega
  have qn : q ≠ w.heap.size := by omega
  have h0 : w.cell? ⟨q, 0, none⟩ = some (Value.slice a11 n11 c11) := h.cell 0
  have A_helloMessage : ∀ (x : Value) (W : World), (Instr.typeAssert (.iface 93 x) 58 76 true).run Tryz.prog W = .ok (.tuple #[.pointer none, .bool false]) W := fun _ _ => by kernel_rfl
  have A_answerMessage : ∀ (x : Value) (W : World), (Instr.typeAssert (.iface 93 x) 58 81 true).run Tryz.prog W = .ok (.tuple #[.pointer none, .bool false]) W := fun _ _ => by kernel_rfl
  have A_ticketMessage : ∀ (x : Value) (W : World), (Instr.typeAssert (.iface 93 x) 58 84 true).run Tryz.prog W = .ok (.tuple #[.pointer none, .bool false]) W := fun _ _ => by kernel_rfl
  have A_endOfEarlyMessage : ∀ (x : Value) (W : World), (Instr.typeAssert (.iface 93 x) 58 87 true).run Tryz.prog W = .ok (.tuple #[.pointer none, .bool false]) W := fun _ _ => by kernel_rfl
  have A_extrasMessage : ∀ (x : Value) (W : World), (Instr.typeAssert (.iface 93 x) 58 90 true).run Tryz.prog W = .ok (.tuple #[.pointer none, .bool false]) W := fun _ _ => by kernel_rfl
  have A_certsMessage : ∀ (x : Value) (W : World), (Instr.typeAssert (.iface 93 x) 58 93 true).run Tryz.prog W = .ok (.tuple #[x, .bool true]) W := fun _ _ => by kernel_rfl
  clear h
  have RN := hide (RwC.new w [Value.int .i64 11, Value.int .i64 0, Value.slice none 0 0, Value.slice none 0 0, Value.string ⟨#[]⟩, Value.slice none 0 0, Value.slice none 0 0, Value.int .i64 0, Value.int .i64 0, Value.slice none 0 0, Value.bool false, Value.slice a11 n11 c11, Value.slice none 0 0] 31)
  obtain ⟨d13, hd13, hrow13⟩ := rowM
  go_enter Tryz.func47, Tryz.ntmps47
  go_wp2
  exact bodyPost_ret (v := .agg #[Value.int .i64 11, Value.int .i64 0, Value.slice none 0 0, Value.slice none 0 0, Value.string ⟨#[]⟩, Value.slice none 0 0, Value.slice none 0 0, Value.int .i64 0, Value.int .i64 0, Value.slice none 0 0, Value.bool false, Value.slice a11 n11 c11, Value.slice none 0 0]) (results_cellM Tryz.results47 _ _ w.heap.size [Value.int .i64 11, Value.int .i64 0, Value.slice none 0 0, Value.slice none 0 0, Value.string ⟨#[]⟩, Value.slice none 0 0, Value.slice none 0 0, Value.int .i64 0, Value.int .i64 0, Value.slice none 0 0, Value.bool false, Value.slice a11 n11 c11, Value.slice none 0 0] d13 rfl (RN.out.range) hd13 hrow13 iM) rfl ⟨rfl, ((Below.refl _ _).alloc (Nat.le_refl _) _)⟩
set_option maxRecDepth 20000 in
set_option maxHeartbeats 1000000 in
theorem plainProof_any (h : RwC w q [Value.slice a12 n12 c12] t) :
    Calls Tryz.prog 47 #[.iface 96 (.pointer (some ⟨q, 0, none⟩))] w fun e w' => e = .returned (.agg #[Value.int .i64 15, Value.int .i64 0, Value.slice none 0 0, Value.slice none 0 0, Value.string ⟨#[]⟩, Value.slice none 0 0, Value.slice none 0 0, Value.int .i64 0, Value.int .i64 0, Value.slice none 0 0, Value.bool false, Value.slice none 0 0, Value.slice a12 n12 c12]) ∧ Below w.heap.size w w' := by
  have lt := h.lt
  have nq : w.heap.size ≠ q := by omega
  have qn : q ≠ w.heap.size := by omega
  have h0 : w.cell? ⟨q, 0, none⟩ = some (Value.slice a12 n12 c12) := h.cell 0
  have A_helloMessage : ∀ (x : Value) (W : World), (Instr.typeAssert (.iface 96 x) 58 76 true).run Tryz.prog W = .ok (.tuple #[.pointer none, .bool false]) W := fun _ _ => by kernel_rfl
  have A_answerMessage : ∀ (x : Value) (W : World), (Instr.typeAssert (.iface 96 x) 58 81 true).run Tryz.prog W = .ok (.tuple #[.pointer none, .bool false]) W := fun _ _ => by kernel_rfl
  have A_ticketMessage : ∀ (x : Value) (W : World), (Instr.typeAssert (.iface 96 x) 58 84 true).run Tryz.prog W = .ok (.tuple #[.pointer none, .bool false]) W := fun _ _ => by kernel_rfl
  have A_endOfEarlyMessage : ∀ (x : Value) (W : World), (Instr.typeAssert (.iface 96 x) 58 87 true).run Tryz.prog W = .ok (.tuple #[.pointer none, .bool false]) W := fun _ _ => by kernel_rfl
  have A_extrasMessage : ∀ (x : Value) (W : World), (Instr.typeAssert (.iface 96 x) 58 90 true).run Tryz.prog W = .ok (.tuple #[.pointer none, .bool false]) W := fun _ _ => by kernel_rfl
  have A_certsMessage : ∀ (x : Value) (W : World), (Instr.typeAssert (.iface 96 x) 58 93 true).run Tryz.prog W = .ok (.tuple #[.pointer none, .bool false]) W := fun _ _ => by kernel_rfl
  have A_proofMessage : ∀ (x : Value) (W : World), (Instr.typeAssert (.iface 96 x) 58 96 true).run Tryz.prog W = .ok (.tuple #[x, .bool true]) W := fun _ _ => by kernel_rfl
  clear h
  have RN := hide (RwC.new w [Value.int .i64 15, Value.int .i64 0, Value.slice none 0 0, Value.slice none 0 0, Value.string ⟨#[]⟩, Value.slice none 0 0, Value.slice none 0 0, Value.int .i64 0, Value.int .i64 0, Value.slice none 0 0, Value.bool false, Value.slice none 0 0, Value.slice a12 n12 c12] 31)
  obtain ⟨d13, hd13, hrow13⟩ := rowM
  go_enter Tryz.func47, Tryz.ntmps47
  go_wp2
  exact bodyPost_ret (v := .agg #[Value.int .i64 15, Value.int .i64 0, Value.slice none 0 0, Value.slice none 0 0, Value.string ⟨#[]⟩, Value.slice none 0 0, Value.slice none 0 0, Value.int .i64 0, Value.int .i64 0, Value.slice none 0 0, Value.bool false, Value.slice none 0 0, Value.slice a12 n12 c12]) (results_cellM Tryz.results47 _ _ w.heap.size [Value.int .i64 15, Value.int .i64 0, Value.slice none 0 0, Value.slice none 0 0, Value.string ⟨#[]⟩, Value.slice none 0 0, Value.slice none 0 0, Value.int .i64 0, Value.int .i64 0, Value.slice none 0 0, Value.bool false, Value.slice none 0 0, Value.slice a12 n12 c12] d13 rfl (RN.out.range) hd13 hrow13 iM) rfl ⟨rfl, ((Below.refl _ _).alloc (Nat.le_refl _) _)⟩
set_option maxRecDepth 20000 in
set_option maxHeartbeats 1000000 in
theorem plainFinished_any (h : RwC w q [Value.slice a12 n12 c12] t) :
    Calls Tryz.prog 47 #[.iface 99 (.pointer (some ⟨q, 0, none⟩))] w fun e w' => e = .returned (.agg #[Value.int .i64 20, Value.int .i64 0, Value.slice none 0 0, Value.slice none 0 0, Value.string ⟨#[]⟩, Value.slice none 0 0, Value.slice none 0 0, Value.int .i64 0, Value.int .i64 0, Value.slice none 0 0, Value.bool false, Value.slice none 0 0, Value.slice a12 n12 c12]) ∧ Below w.heap.size w w' := by
  have lt := h.lt
  have nq : w.heap.size ≠ q := by omega
  have qn : q ≠ w.heap.size := by omega
  have h0 : w.cell? ⟨q, 0, none⟩ = some (Value.slice a12 n12 c12) := h.cell 0
  have A_helloMessage : ∀ (x : Value) (W : World), (Instr.typeAssert (.iface 99 x) 58 76 true).run Tryz.prog W = .ok (.tuple #[.pointer none, .bool false]) W := fun _ _ => by kernel_rfl
  have A_answerMessage : ∀ (x : Value) (W : World), (Instr.typeAssert (.iface 99 x) 58 81 true).run Tryz.prog W = .ok (.tuple #[.pointer none, .bool false]) W := fun _ _ => by kernel_rfl
  have A_ticketMessage : ∀ (x : Value) (W : World), (Instr.typeAssert (.iface 99 x) 58 84 true).run Tryz.prog W = .ok (.tuple #[.pointer none, .bool false]) W := fun _ _ => by kernel_rfl
  have A_endOfEarlyMessage : ∀ (x : Value) (W : World), (Instr.typeAssert (.iface 99 x) 58 87 true).run Tryz.prog W = .ok (.tuple #[.pointer none, .bool false]) W := fun _ _ => by kernel_rfl
  have A_extrasMessage : ∀ (x : Value) (W : World), (Instr.typeAssert (.iface 99 x) 58 90 true).run Tryz.prog W = .ok (.tuple #[.pointer none, .bool false]) W := fun _ _ => by kernel_rfl
  have A_certsMessage : ∀ (x : Value) (W : World), (Instr.typeAssert (.iface 99 x) 58 93 true).run Tryz.prog W = .ok (.tuple #[.pointer none, .bool false]) W := fun _ _ => by kernel_rfl
  have A_proofMessage : ∀ (x : Value) (W : World), (Instr.typeAssert (.iface 99 x) 58 96 true).run Tryz.prog W = .ok (.tuple #[.pointer none, .bool false]) W := fun _ _ => by kernel_rfl
  have A_finishedMessage : ∀ (x : Value) (W : World), (Instr.typeAssert (.iface 99 x) 58 99 true).run Tryz.prog W = .ok (.tuple #[x, .bool true]) W := fun _ _ => by kernel_rfl
  clear h
  have RN := hide (RwC.new w [Value.int .i64 20, Value.int .i64 0, Value.slice none 0 0, Value.slice none 0 0, Value.string ⟨#[]⟩, Value.slice none 0 0, Value.slice none 0 0, Value.int .i64 0, Value.int .i64 0, Value.slice none 0 0, Value.bool false, Value.slice none 0 0, Value.slice a12 n12 c12] 31)
  obtain ⟨d13, hd13, hrow13⟩ := rowM
  go_enter Tryz.func47, Tryz.ntmps47
  go_wp2
  exact bodyPost_ret (v := .agg #[Value.int .i64 20, Value.int .i64 0, Value.slice none 0 0, Value.slice none 0 0, Value.string ⟨#[]⟩, Value.slice none 0 0, Value.slice none 0 0, Value.int .i64 0, Value.int .i64 0, Value.slice none 0 0, Value.bool false, Value.slice none 0 0, Value.slice a12 n12 c12]) (results_cellM Tryz.results47 _ _ w.heap.size [Value.int .i64 20, Value.int .i64 0, Value.slice none 0 0, Value.slice none 0 0, Value.string ⟨#[]⟩, Value.slice none 0 0, Value.slice none 0 0, Value.int .i64 0, Value.int .i64 0, Value.slice none 0 0, Value.bool false, Value.slice none 0 0, Value.slice a12 n12 c12] d13 rfl (RN.out.range) hd13 hrow13 iM) rfl ⟨rfl, ((Below.refl _ _).alloc (Nat.le_refl _) _)⟩
set_option maxRecDepth 20000 in
set_option maxHeartbeats 1000000 in
theorem plainUpdate_any (h : RwC w q [Value.int .i64 ea] t) :
    Calls Tryz.prog 47 #[.iface 101 (.pointer (some ⟨q, 0, none⟩))] w fun e w' => e = .returned (.agg #[Value.int .i64 24, Value.int .i64 0, Value.slice none 0 0, Value.slice none 0 0, Value.string ⟨#[]⟩, Value.slice none 0 0, Value.slice none 0 0, Value.int .i64 0, Value.int .i64 ea, Value.slice none 0 0, Value.bool false, Value.slice none 0 0, Value.slice none 0 0]) ∧ Below w.heap.size w w' := by
  have lt := h.lt
  have nq : w.heap.size ≠ q := by omega
  have qn : q ≠ w.heap.size := by omega
  have h0 : w.cell? ⟨q, 0, none⟩ = some (Value.int .i64 ea) := h.cell 0
  have A_helloMessage : ∀ (x : Value) (W : World), (Instr.typeAssert (.iface 101 x) 58 76 true).run Tryz.prog W = .ok (.tuple #[.pointer none, .bool false]) W := fun _ _ => by kernel_rfl
  have A_answerMessage : ∀ (x : Value) (W : World), (Instr.typeAssert (.iface 101 x) 58 81 true).run Tryz.prog W = .ok (.tuple #[.pointer none, .bool false]) W := fun _ _ => by kernel_rfl
  have A_ticketMessage : ∀ (x : Value) (W : World), (Instr.typeAssert (.iface 101 x) 58 84 true).run Tryz.prog W = .ok (.tuple #[.pointer none, .bool false]) W := fun _ _ => by kernel_rfl
  have A_endOfEarlyMessage : ∀ (x : Value) (W : World), (Instr.typeAssert (.iface 101 x) 58 87 true).run Tryz.prog W = .ok (.tuple #[.pointer none, .bool false]) W := fun _ _ => by kernel_rfl
  have A_extrasMessage : ∀ (x : Value) (W : World), (Instr.typeAssert (.iface 101 x) 58 90 true).run Tryz.prog W = .ok (.tuple #[.pointer none, .bool false]) W := fun _ _ => by kernel_rfl
  have A_certsMessage : ∀ (x : Value) (W : World), (Instr.typeAssert (.iface 101 x) 58 93 true).run Tryz.prog W = .ok (.tuple #[.pointer none, .bool false]) W := fun _ _ => by kernel_rfl
  have A_proofMessage : ∀ (x : Value) (W : World), (Instr.typeAssert (.iface 101 x) 58 96 true).run Tryz.prog W = .ok (.tuple #[.pointer none, .bool false]) W := fun _ _ => by kernel_rfl
  have A_finishedMessage : ∀ (x : Value) (W : World), (Instr.typeAssert (.iface 101 x) 58 99 true).run Tryz.prog W = .ok (.tuple #[.pointer none, .bool false]) W := fun _ _ => by kernel_rfl
  have A_updateMessage : ∀ (x : Value) (W : World), (Instr.typeAssert (.iface 101 x) 58 101 true).run Tryz.prog W = .ok (.tuple #[x, .bool true]) W := fun _ _ => by kernel_rfl
  clear h
  have RN := hide (RwC.new w [Value.int .i64 24, Value.int .i64 0, Value.slice none 0 0, Value.slice none 0 0, Value.string ⟨#[]⟩, Value.slice none 0 0, Value.slice none 0 0, Value.int .i64 0, Value.int .i64 ea, Value.slice none 0 0, Value.bool false, Value.slice none 0 0, Value.slice none 0 0] 31)
  obtain ⟨d13, hd13, hrow13⟩ := rowM
  go_enter Tryz.func47, Tryz.ntmps47
  go_wp2
  exact bodyPost_ret (v := .agg #[Value.int .i64 24, Value.int .i64 0, Value.slice none 0 0, Value.slice none 0 0, Value.string ⟨#[]⟩, Value.slice none 0 0, Value.slice none 0 0, Value.int .i64 0, Value.int .i64 ea, Value.slice none 0 0, Value.bool false, Value.slice none 0 0, Value.slice none 0 0]) (results_cellM Tryz.results47 _ _ w.heap.size [Value.int .i64 24, Value.int .i64 0, Value.slice none 0 0, Value.slice none 0 0, Value.string ⟨#[]⟩, Value.slice none 0 0, Value.slice none 0 0, Value.int .i64 0, Value.int .i64 ea, Value.slice none 0 0, Value.bool false, Value.slice none 0 0, Value.slice none 0 0] d13 rfl (RN.out.range) hd13 hrow13 iM) rfl ⟨rfl, ((Below.refl _ _).alloc (Nat.le_refl _) _)⟩
end
end Go.Proofs.YtdbgdiahddpgkaaGreat
