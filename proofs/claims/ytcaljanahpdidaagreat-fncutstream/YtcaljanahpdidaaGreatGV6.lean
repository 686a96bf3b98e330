import Derived.Test.YtcaljanahpdidaaGreatGVxMgN
import Derived.Test.YtcaljanahpdidaaGreatGVxMgO
import Derived.Test.YtcaljanahpdidaaGreatGVxMgP
import Derived.Test.YtcaljanahpdidaaGreatGVxMgQ
import Derived.Test.YtcaljanahpdidaaGreatGV5
import Derived.BigRegion
import Derived.Deep.RegionWith
import Derived.Deep.MidRow
namespace Go.Proofs.YtcaljanahpdidaaGreat
open Go Go.RowKit
structure Msg where
  k : Int
  v : Int
  r : List Int
  s : List Int
  ho : List UInt8
  pr : List (List UInt8)
  ti : List Int
  ag : Int
  ea : Int
  bi : List Int
  rs : Bool
  ce : List (List Int)
  pf : List Int
structure MQ where
  a2 : Option Addr
  c2 : Nat
  g2 : Nat
  a3 : Option Addr
  c3 : Nat
  g3 : Nat
  a5 : Option Addr
  c5 : Nat
  g5 : Nat
  a6 : Option Addr
  c6 : Nat
  g6 : Nat
  a9 : Option Addr
  c9 : Nat
  g9 : Nat
  a11 : Option Addr
  c11 : Nat
  g11 : Nat
  a12 : Option Addr
  c12 : Nat
  g12 : Nat
  ps : List Plb
def mgV (p : MQ) (m : Msg) : Array Value := #[.int .i64 m.k, .int .i64 m.v, .slice p.a2 m.r.length p.c2, .slice p.a3 m.s.length p.c3, .string ⟨⟨m.ho⟩⟩, .slice p.a5 m.pr.length p.c5, .slice p.a6 m.ti.length p.c6, .int .i64 m.ag, .int .i64 m.ea, .slice p.a9 m.bi.length p.c9, .bool m.rs, .slice p.a11 m.ce.length p.c11, .slice p.a12 m.pf.length p.c12]
structure HasM (w : World) (p : MQ) (m : Msg) : Prop where
  r : Rd w p.g2 p.a2 .u8 m.r
  s : Rd w p.g3 p.a3 .u8 m.s
  pr : RdT w p.g5 p.a5 m.pr
  ti : Rd w p.g6 p.a6 .u8 m.ti
  bi : Rd w p.g9 p.a9 .u8 m.bi
  ce : RdL w p.g11 p.a11 m.ce p.ps
  pf : Rd w p.g12 p.a12 .u8 m.pf
  prC : m.pr.length ≤ p.c5
theorem HasM.up {w w' : World} {p : MQ} {m : Msg} (h : HasM w p m) (n : Below w.heap.size w w') : HasM w' p m := ⟨h.r.up n, h.s.up n, h.pr.up n, h.ti.up n, h.bi.up n, h.ce.up n, h.pf.up n, h.prC⟩
structure IsM (m : Msg) : Prop where
  rB : Byt m.r
  sB : Byt m.s
  tiB : Byt m.ti
  biB : Byt m.bi
  pfB : Byt m.pf
  ceB : ∀ i, i < m.ce.length → Byt (m.ce.getD i [])
  rL : m.r.length ≤ 1048576
  sL : m.s.length ≤ 1048576
  prL : m.pr.length ≤ 1048576
  tiL : m.ti.length ≤ 1048576
  biL : m.bi.length ≤ 1048576
  ceL : m.ce.length ≤ 1048576
  pfL : m.pf.length ≤ 1048576
  ceZ : ∀ i, i < m.ce.length → (m.ce.getD i []).length ≤ 1048576
  hoL : m.ho.length ≤ 1048576
  prZ : ∀ l ∈ m.pr, l.length ≤ 1048576
def sameM (m m' : Msg) : Bool := decide (m.k = m'.k) && (decide (m.v = m'.v) && (decide (m.ho = m'.ho) && (decide (m.ag = m'.ag) && (decide (m.ea = m'.ea) && (decide (m.rs = m'.rs) && (decide (m.r = m'.r) && (decide (m.s = m'.s) && (decide (m.ti = m'.ti) && (decide (m.bi = m'.bi) && (decide (m.pf = m'.pf) && (decide (m.pr = m'.pr) && (decide (m.ce = m'.ce)))))))))))))
set_option maxHeartbeats 1000000 in
theorem isSame_any (w : World) (p p' : MQ) (m m' : Msg) (h : HasM w p m) (h' : HasM w p' m') (i : IsM m) (i' : IsM m') :
    Calls Tryz.prog 30 #[.agg (mgV p m), .agg (mgV p' m')] w fun e w' => e = .returned (.bool (sameM m m')) ∧ Below w.heap.size w w' := by
  unfold mgV
  by_cases e0 : m.k = m'.k
  rotate_left
  · refine (same_k w m.k m'.k m.v m'.v m.ag m'.ag m.ea m'.ea ⟨m.ho⟩ ⟨m'.ho⟩ m.rs m'.rs p.a2 p'.a2 p.a3 p'.a3 p.a5 p'.a5 p.a6 p'.a6 p.a9 p'.a9 p.a11 p'.a11 p.a12 p'.a12 m.r.length m'.r.length p.c2 p'.c2 m.s.length m'.s.length p.c3 p'.c3 m.pr.length m'.pr.length p.c5 p'.c5 m.ti.length m'.ti.length p.c6 p'.c6 m.bi.length m'.bi.length p.c9 p'.c9 m.ce.length m'.ce.length p.c11 p'.c11 m.pf.length m'.pf.length p.c12 p'.c12 e0).mono ?_
    rintro e w1 ⟨rfl, n⟩
    exact ⟨by simp [sameM, e0], n⟩
  rw [← e0]
  by_cases e1 : m.v = m'.v
  rotate_left
  · refine (same_v w m.k m.v m'.v m.ag m'.ag m.ea m'.ea ⟨m.ho⟩ ⟨m'.ho⟩ m.rs m'.rs p.a2 p'.a2 p.a3 p'.a3 p.a5 p'.a5 p.a6 p'.a6 p.a9 p'.a9 p.a11 p'.a11 p.a12 p'.a12 m.r.length m'.r.length p.c2 p'.c2 m.s.length m'.s.length p.c3 p'.c3 m.pr.length m'.pr.length p.c5 p'.c5 m.ti.length m'.ti.length p.c6 p'.c6 m.bi.length m'.bi.length p.c9 p'.c9 m.ce.length m'.ce.length p.c11 p'.c11 m.pf.length m'.pf.length p.c12 p'.c12 e1).mono ?_
    rintro e w1 ⟨rfl, n⟩
    exact ⟨by simp [sameM, e1], n⟩
  rw [← e1]
  by_cases e2 : m.ho = m'.ho
  rotate_left
  · refine (same_ho w m.k m.v m.ag m'.ag m.ea m'.ea ⟨m.ho⟩ ⟨m'.ho⟩ m.rs m'.rs p.a2 p'.a2 p.a3 p'.a3 p.a5 p'.a5 p.a6 p'.a6 p.a9 p'.a9 p.a11 p'.a11 p.a12 p'.a12 m.r.length m'.r.length p.c2 p'.c2 m.s.length m'.s.length p.c3 p'.c3 m.pr.length m'.pr.length p.c5 p'.c5 m.ti.length m'.ti.length p.c6 p'.c6 m.bi.length m'.bi.length p.c9 p'.c9 m.ce.length m'.ce.length p.c11 p'.c11 m.pf.length m'.pf.length p.c12 p'.c12 (fun h => e2 (by injection h))).mono ?_
    rintro e w1 ⟨rfl, n⟩
    exact ⟨by simp [sameM, e2], n⟩
  rw [← e2]
  by_cases e3 : m.ag = m'.ag
  rotate_left
  · refine (same_ag w m.k m.v m.ag m'.ag m.ea m'.ea ⟨m.ho⟩ m.rs m'.rs p.a2 p'.a2 p.a3 p'.a3 p.a5 p'.a5 p.a6 p'.a6 p.a9 p'.a9 p.a11 p'.a11 p.a12 p'.a12 m.r.length m'.r.length p.c2 p'.c2 m.s.length m'.s.length p.c3 p'.c3 m.pr.length m'.pr.length p.c5 p'.c5 m.ti.length m'.ti.length p.c6 p'.c6 m.bi.length m'.bi.length p.c9 p'.c9 m.ce.length m'.ce.length p.c11 p'.c11 m.pf.length m'.pf.length p.c12 p'.c12 e3).mono ?_
    rintro e w1 ⟨rfl, n⟩
    exact ⟨by simp [sameM, e3], n⟩
  rw [← e3]
  by_cases e4 : m.ea = m'.ea
  rotate_left
  · refine (same_ea w m.k m.v m.ag m.ea m'.ea ⟨m.ho⟩ m.rs m'.rs p.a2 p'.a2 p.a3 p'.a3 p.a5 p'.a5 p.a6 p'.a6 p.a9 p'.a9 p.a11 p'.a11 p.a12 p'.a12 m.r.length m'.r.length p.c2 p'.c2 m.s.length m'.s.length p.c3 p'.c3 m.pr.length m'.pr.length p.c5 p'.c5 m.ti.length m'.ti.length p.c6 p'.c6 m.bi.length m'.bi.length p.c9 p'.c9 m.ce.length m'.ce.length p.c11 p'.c11 m.pf.length m'.pf.length p.c12 p'.c12 e4).mono ?_
    rintro e w1 ⟨rfl, n⟩
    exact ⟨by simp [sameM, e4], n⟩
  rw [← e4]
  by_cases e5 : m.rs = m'.rs
  rotate_left
  · refine (same_rs w m.k m.v m.ag m.ea ⟨m.ho⟩ m.rs m'.rs p.a2 p'.a2 p.a3 p'.a3 p.a5 p'.a5 p.a6 p'.a6 p.a9 p'.a9 p.a11 p'.a11 p.a12 p'.a12 m.r.length m'.r.length p.c2 p'.c2 m.s.length m'.s.length p.c3 p'.c3 m.pr.length m'.pr.length p.c5 p'.c5 m.ti.length m'.ti.length p.c6 p'.c6 m.bi.length m'.bi.length p.c9 p'.c9 m.ce.length m'.ce.length p.c11 p'.c11 m.pf.length m'.pf.length p.c12 p'.c12 e5).mono ?_
    rintro e w1 ⟨rfl, n⟩
    exact ⟨by simp [sameM, e5], n⟩
  rw [← e5]
  refine (same_lists w m.k m.v m.ag m.ea ⟨m.ho⟩ m.rs (decide (m.r = m'.r)) (decide (m.s = m'.s)) (decide (m.ti = m'.ti)) (decide (m.bi = m'.bi)) (decide (m.pf = m'.pf)) (decide (m.pr = m'.pr)) (decide (m.ce = m'.ce)) p.a2 p'.a2 p.a3 p'.a3 p.a5 p'.a5 p.a6 p'.a6 p.a9 p'.a9 p.a11 p'.a11 p.a12 p'.a12 m.r.length m'.r.length p.c2 p'.c2 m.s.length m'.s.length p.c3 p'.c3 m.pr.length m'.pr.length p.c5 p'.c5 m.ti.length m'.ti.length p.c6 p'.c6 m.bi.length m'.bi.length p.c9 p'.c9 m.ce.length m'.ce.length p.c11 p'.c11 m.pf.length m'.pf.length p.c12 p'.c12
    (fun W n => bytesEqual_any W p.g2 p'.g2 p.a2 p'.a2 p.c2 p'.c2 m.r m'.r (h.r.up n) (h'.r.up n) i.rB i'.rB)
    (fun W n => bytesEqual_any W p.g3 p'.g3 p.a3 p'.a3 p.c3 p'.c3 m.s m'.s (h.s.up n) (h'.s.up n) i.sB i'.sB)
    (fun W n => bytesEqual_any W p.g6 p'.g6 p.a6 p'.a6 p.c6 p'.c6 m.ti m'.ti (h.ti.up n) (h'.ti.up n) i.tiB i'.tiB)
    (fun W n => bytesEqual_any W p.g9 p'.g9 p.a9 p'.a9 p.c9 p'.c9 m.bi m'.bi (h.bi.up n) (h'.bi.up n) i.biB i'.biB)
    (fun W n => bytesEqual_any W p.g12 p'.g12 p.a12 p'.a12 p.c12 p'.c12 m.pf m'.pf (h.pf.up n) (h'.pf.up n) i.pfB i'.pfB)
    (fun W n => equalTexts_any W p.g5 p'.g5 p.a5 p'.a5 p.c5 p'.c5 m.pr m'.pr (h.pr.up n) (h'.pr.up n) i.prL i'.prL)
    (fun W n => certEqual_any W p.g11 p'.g11 p.a11 p'.a11 p.c11 p'.c11 m.ce m'.ce p.ps p'.ps (h.ce.up n) (h'.ce.up n) i.ceL i'.ceL i.ceB i'.ceB)).mono ?_
  rintro e w1 ⟨rfl, n⟩
  exact ⟨by simp [sameM, e0, e1, e2, e3, e4, e5], n⟩
end Go.Proofs.YtcaljanahpdidaaGreat
namespace Go.Proofs.YtcaljanahpdidaaGreat
open Go Go.RowKit
structure Oth (q : Nat) (w w' : World) : Prop where
  os : w'.os = w.os
  tape : w'.tape = w.tape
  output : w'.output = w.output
  size : w.heap.size ≤ w'.heap.size
  block : ∀ k, k < w.heap.size → k ≠ q → w'.heap[k]? = w.heap[k]?
theorem Oth.refl (q : Nat) (w : World) : Oth q w w := ⟨rfl, rfl, rfl, Nat.le_refl _, fun _ _ _ => rfl⟩
theorem Oth.trans {q : Nat} {a b c : World} (h : Oth q a b) (k : Oth q b c) : Oth q a c :=
  ⟨k.os.trans h.os, k.tape.trans h.tape, k.output.trans h.output, Nat.le_trans h.size k.size, fun i hi hn => (k.block i (Nat.lt_of_lt_of_le hi h.size) hn).trans (h.block i hi hn)⟩
theorem Oth.of {q : Nat} {w w' : World} (h : Below w.heap.size w w') : Oth q w w' := ⟨h.os, h.tape, h.output, h.size, fun k hk _ => h.block k hk⟩
theorem Oth.alloc {q : Nat} {a w : World} (h : Oth q a w) (o : Obj) : Oth q a (w.alloc o) := h.trans (Oth.of ((Below.refl _ _).alloc (Nat.le_refl _) o))
theorem Oth.drew {q : Nat} {a w : World} (h : Oth q a w) : Oth q a w.drew := ⟨h.os, h.tape, h.output, h.size, h.block⟩
theorem Oth.drews {q : Nat} {a w : World} (h : Oth q a w) (n : Nat) : Oth q a (w.drewN n) := ⟨h.os, h.tape, h.output, h.size, h.block⟩
theorem Oth.setCell {q : Nat} {a w : World} (h : Oth q a w) (i : Nat) (v : Value) : Oth q a (w.setCell ⟨q, i, none⟩ v) :=
  h.trans ⟨rfl, rfl, rfl, by simp [World.setCell], fun k _ hk => Below.heap_setCell _ _ _ _ hk⟩
theorem Oth.below {q B : Nat} {w w' : World} (h : Oth q w w') (hq : B ≤ q) (hB : B ≤ w.heap.size) : Below B w w' := ⟨h.os, h.tape, h.output, h.size, fun k hk => h.block k (by omega) (by omega)⟩
theorem RwC.oth {w w' : World} {q r : Nat} {cs : List Value} {t : TypeId} (h : RwC w q cs t) (n : Oth r w w') (hne : q ≠ r) : RwC w' q cs t := (n.block q h.lt hne).trans h
section
variable (w : World) (q : Nat) (t : TypeId) (us : List Value) (u0 u1 u2 u3 u4 u5 u6 u7 u8 : Value) (k v ag ea : Int) (a2 a3 a5 a6 a9 a11 a12 : Option Addr) (n2 n3 n5 n6 n9 n11 n12 c2 c3 c5 c6 c9 c11 c12 : Nat) (ho : ByteArray) (rs : Bool)
set_option maxHeartbeats 400000 in
theorem firstTake_any (h : RwC w q (u0 :: u1 :: u2 :: us) t) :
    Calls Tryz.prog 92 #[.pointer (some ⟨q, 0, none⟩), .agg #[Value.int .i64 k, Value.int .i64 v, Value.slice a2 n2 c2, Value.slice a3 n3 c3, Value.string ho, Value.slice a5 n5 c5, Value.slice a6 n6 c6, Value.int .i64 ag, Value.int .i64 ea, Value.slice a9 n9 c9, Value.bool rs, Value.slice a11 n11 c11, Value.slice a12 n12 c12]] w fun e w' => e = .returned (.tuple #[]) ∧ Oth q w w' ∧ RwC w' q (Value.int .i64 v :: Value.slice a2 n2 c2 :: Value.slice a3 n3 c3 :: us) t := by
  have lt := h.lt
  have nq : w.heap.size ≠ q := by omega
  have qn : q ≠ w.heap.size := by omega
  have h0 : w.cell? ⟨q, 0, none⟩ = some u0 := h.cell 0
  have f0 := h.free 0
  have h1 : w.cell? ⟨q, 1, none⟩ = some u1 := h.cell 1
  have f1 := h.free 1
  have h2 : w.cell? ⟨q, 2, none⟩ = some u2 := h.cell 2
  have f2 := h.free 2
  have H := hide h
  clear h
  go_enter Tryz.func92, Tryz.ntmps92
  go_wp2
  go_region
  go_end0
  refine ⟨rfl, ?_, ?_⟩
  · repeat (with_reducible first | exact Oth.refl _ _ | apply Oth.drew | apply Oth.drews | apply Oth.alloc | apply Oth.setCell)
  · repeat (with_reducible first | apply RwC.drew1 | apply RwC.drews | apply RwC.push)
    exact (((H.out.set 0 _).set 1 _).set 2 _)
set_option maxHeartbeats 400000 in
theorem ticketTake_any (h : RwC w q ([u0, u1, u2, u3]) t) :
    Calls Tryz.prog 106 #[.pointer (some ⟨q, 0, none⟩), .agg #[Value.int .i64 k, Value.int .i64 v, Value.slice a2 n2 c2, Value.slice a3 n3 c3, Value.string ho, Value.slice a5 n5 c5, Value.slice a6 n6 c6, Value.int .i64 ag, Value.int .i64 ea, Value.slice a9 n9 c9, Value.bool rs, Value.slice a11 n11 c11, Value.slice a12 n12 c12]] w fun e w' => e = .returned (.tuple #[]) ∧ Oth q w w' ∧ RwC w' q ([Value.int .i64 ag, Value.int .i64 ea, Value.slice a2 n2 c2, Value.slice a6 n6 c6]) t := by
  have lt := h.lt
  have nq : w.heap.size ≠ q := by omega
  have qn : q ≠ w.heap.size := by omega
  have h0 : w.cell? ⟨q, 0, none⟩ = some u0 := h.cell 0
  have f0 := h.free 0
  have h1 : w.cell? ⟨q, 1, none⟩ = some u1 := h.cell 1
  have f1 := h.free 1
  have h2 : w.cell? ⟨q, 2, none⟩ = some u2 := h.cell 2
  have f2 := h.free 2
  have h3 : w.cell? ⟨q, 3, none⟩ = some u3 := h.cell 3
  have f3 := h.free 3
  have H := hide h
  clear h
  go_enter Tryz.func106, Tryz.ntmps106
  go_wp2
  go_region
  go_end0
  refine ⟨rfl, ?_, ?_⟩
  · repeat (with_reducible first | exact Oth.refl _ _ | apply Oth.drew | apply Oth.drews | apply Oth.alloc | apply Oth.setCell)
  · repeat (with_reducible first | apply RwC.drew1 | apply RwC.drews | apply RwC.push)
    exact ((((H.out.set 0 _).set 1 _).set 2 _).set 3 _)
set_option maxHeartbeats 400000 in
theorem extrasTake_any (h : RwC w q ([u0, u1]) t) :
    Calls Tryz.prog 114 #[.pointer (some ⟨q, 0, none⟩), .agg #[Value.int .i64 k, Value.int .i64 v, Value.slice a2 n2 c2, Value.slice a3 n3 c3, Value.string ho, Value.slice a5 n5 c5, Value.slice a6 n6 c6, Value.int .i64 ag, Value.int .i64 ea, Value.slice a9 n9 c9, Value.bool rs, Value.slice a11 n11 c11, Value.slice a12 n12 c12]] w fun e w' => e = .returned (.tuple #[]) ∧ Oth q w w' ∧ RwC w' q ([Value.slice a5 n5 c5, Value.int .i64 ea]) t := by
  have lt := h.lt
  have nq : w.heap.size ≠ q := by omega
  have qn : q ≠ w.heap.size := by omega
  have h0 : w.cell? ⟨q, 0, none⟩ = some u0 := h.cell 0
  have f0 := h.free 0
  have h1 : w.cell? ⟨q, 1, none⟩ = some u1 := h.cell 1
  have f1 := h.free 1
  have H := hide h
  clear h
  go_enter Tryz.func114, Tryz.ntmps114
  go_wp2
  go_region
  go_end0
  refine ⟨rfl, ?_, ?_⟩
  · repeat (with_reducible first | exact Oth.refl _ _ | apply Oth.drew | apply Oth.drews | apply Oth.alloc | apply Oth.setCell)
  · repeat (with_reducible first | apply RwC.drew1 | apply RwC.drews | apply RwC.push)
    exact ((H.out.set 0 _).set 1 _)
set_option maxHeartbeats 400000 in
theorem certsTake_any (h : RwC w q ([u0]) t) :
    Calls Tryz.prog 118 #[.pointer (some ⟨q, 0, none⟩), .agg #[Value.int .i64 k, Value.int .i64 v, Value.slice a2 n2 c2, Value.slice a3 n3 c3, Value.string ho, Value.slice a5 n5 c5, Value.slice a6 n6 c6, Value.int .i64 ag, Value.int .i64 ea, Value.slice a9 n9 c9, Value.bool rs, Value.slice a11 n11 c11, Value.slice a12 n12 c12]] w fun e w' => e = .returned (.tuple #[]) ∧ Oth q w w' ∧ RwC w' q ([Value.slice a11 n11 c11]) t := by
  have lt := h.lt
  have nq : w.heap.size ≠ q := by omega
  have qn : q ≠ w.heap.size := by omega
  have h0 : w.cell? ⟨q, 0, none⟩ = some u0 := h.cell 0
  have f0 := h.free 0
  have H := hide h
  clear h
  go_enter Tryz.func118, Tryz.ntmps118
  go_wp2
  go_end0
  refine ⟨rfl, ?_, ?_⟩
  · repeat (with_reducible first | exact Oth.refl _ _ | apply Oth.drew | apply Oth.drews | apply Oth.alloc | apply Oth.setCell)
  · repeat (with_reducible first | apply RwC.drew1 | apply RwC.drews | apply RwC.push)
    exact (H.out.set 0 _)
set_option maxHeartbeats 400000 in
theorem proofTake_any (h : RwC w q ([u0]) t) :
    Calls Tryz.prog 125 #[.pointer (some ⟨q, 0, none⟩), .agg #[Value.int .i64 k, Value.int .i64 v, Value.slice a2 n2 c2, Value.slice a3 n3 c3, Value.string ho, Value.slice a5 n5 c5, Value.slice a6 n6 c6, Value.int .i64 ag, Value.int .i64 ea, Value.slice a9 n9 c9, Value.bool rs, Value.slice a11 n11 c11, Value.slice a12 n12 c12]] w fun e w' => e = .returned (.tuple #[]) ∧ Oth q w w' ∧ RwC w' q ([Value.slice a12 n12 c12]) t := by
  have lt := h.lt
  have nq : w.heap.size ≠ q := by omega
  have qn : q ≠ w.heap.size := by omega
  have h0 : w.cell? ⟨q, 0, none⟩ = some u0 := h.cell 0
  have f0 := h.free 0
  have H := hide h
  clear h
  go_enter Tryz.func125, Tryz.ntmps125
  go_wp2
  go_end0
  refine ⟨rfl, ?_, ?_⟩
  · repeat (with_reducible first | exact Oth.refl _ _ | apply Oth.drew | apply Oth.drews | apply Oth.alloc | apply Oth.setCell)
  · repeat (with_reducible first | apply RwC.drew1 | apply RwC.drews | apply RwC.push)
    exact (H.out.set 0 _)
set_option maxHeartbeats 400000 in
theorem finishedTake_any (h : RwC w q ([u0]) t) :
    Calls Tryz.prog 129 #[.pointer (some ⟨q, 0, none⟩), .agg #[Value.int .i64 k, Value.int .i64 v, Value.slice a2 n2 c2, Value.slice a3 n3 c3, Value.string ho, Value.slice a5 n5 c5, Value.slice a6 n6 c6, Value.int .i64 ag, Value.int .i64 ea, Value.slice a9 n9 c9, Value.bool rs, Value.slice a11 n11 c11, Value.slice a12 n12 c12]] w fun e w' => e = .returned (.tuple #[]) ∧ Oth q w w' ∧ RwC w' q ([Value.slice a12 n12 c12]) t := by
  have lt := h.lt
  have nq : w.heap.size ≠ q := by omega
  have qn : q ≠ w.heap.size := by omega
  have h0 : w.cell? ⟨q, 0, none⟩ = some u0 := h.cell 0
  have f0 := h.free 0
  have H := hide h
  clear h
  go_enter Tryz.func129, Tryz.ntmps129
  go_wp2
  go_end0
  refine ⟨rfl, ?_, ?_⟩
  · repeat (with_reducible first | exact Oth.refl _ _ | apply Oth.drew | apply Oth.drews | apply Oth.alloc | apply Oth.setCell)
  · repeat (with_reducible first | apply RwC.drew1 | apply RwC.drews | apply RwC.push)
    exact (H.out.set 0 _)
set_option maxHeartbeats 400000 in
theorem updateTake_any (h : RwC w q ([u0]) t) :
    Calls Tryz.prog 133 #[.pointer (some ⟨q, 0, none⟩), .agg #[Value.int .i64 k, Value.int .i64 v, Value.slice a2 n2 c2, Value.slice a3 n3 c3, Value.string ho, Value.slice a5 n5 c5, Value.slice a6 n6 c6, Value.int .i64 ag, Value.int .i64 ea, Value.slice a9 n9 c9, Value.bool rs, Value.slice a11 n11 c11, Value.slice a12 n12 c12]] w fun e w' => e = .returned (.tuple #[]) ∧ Oth q w w' ∧ RwC w' q ([Value.int .i64 ea]) t := by
  have lt := h.lt
  have nq : w.heap.size ≠ q := by omega
  have qn : q ≠ w.heap.size := by omega
  have h0 : w.cell? ⟨q, 0, none⟩ = some u0 := h.cell 0
  have f0 := h.free 0
  have H := hide h
  clear h
  go_enter Tryz.func133, Tryz.ntmps133
  go_wp2
  go_end0
  refine ⟨rfl, ?_, ?_⟩
  · repeat (with_reducible first | exact Oth.refl _ _ | apply Oth.drew | apply Oth.drews | apply Oth.alloc | apply Oth.setCell)
  · repeat (with_reducible first | apply RwC.drew1 | apply RwC.drews | apply RwC.push)
    exact (H.out.set 0 _)
theorem endTake_any (x : Value) :
    Calls Tryz.prog 110 #[x, .agg #[Value.int .i64 k, Value.int .i64 v, Value.slice a2 n2 c2, Value.slice a3 n3 c3, Value.string ho, Value.slice a5 n5 c5, Value.slice a6 n6 c6, Value.int .i64 ag, Value.int .i64 ea, Value.slice a9 n9 c9, Value.bool rs, Value.slice a11 n11 c11, Value.slice a12 n12 c12]] w fun e w' => e = .returned (.tuple #[]) ∧ Below w.heap.size w w' := by
  go_enter Tryz.func110, Tryz.ntmps110
  go_wp2
  go_end0
  exact ⟨rfl, (Below.refl _ _).alloc (Nat.le_refl _) _⟩
end
end Go.Proofs.YtcaljanahpdidaaGreat
namespace Go.Proofs.YtcaljanahpdidaaGreat
open Go Go.RowKit
section
variable (w : World) (q : Nat) (t : TypeId) (us : List Value) (u0 u1 u2 u3 u4 u5 u6 u7 u8 : Value) (k v ag ea : Int) (a2 a3 a5 a6 a9 a11 a12 : Option Addr) (n2 n3 n5 n6 n9 n11 n12 c2 c3 c5 c6 c9 c11 c12 : Nat) (ho : ByteArray) (rs : Bool)
set_option maxHeartbeats 1000000 in
theorem answerTake_any (h : RwC w q ([u0, u1, u2, u3]) t) :
    Calls Tryz.prog 102 #[.pointer (some ⟨q, 0, none⟩), .agg #[Value.int .i64 k, Value.int .i64 v, Value.slice a2 n2 c2, Value.slice a3 n3 c3, Value.string ho, Value.slice a5 n5 c5, Value.slice a6 n6 c6, Value.int .i64 ag, Value.int .i64 ea, Value.slice a9 n9 c9, Value.bool rs, Value.slice a11 n11 c11, Value.slice a12 n12 c12]] w fun e w' => e = .returned (.tuple #[]) ∧ Oth q w w' ∧ RwC w' q ([Value.int .i64 v, Value.slice a2 n2 c2, Value.slice a3 n3 c3, Value.bool rs]) t := by
  have lt := h.lt
  have nq : w.heap.size ≠ q := by omega
  have qn : q ≠ w.heap.size := by omega
  have HC := hide (fun W (H : RwC W q ([u0, u1, u2, u3]) t) => firstTake_any W q t [u3] u0 u1 u2 k v ag ea a2 a3 a5 a6 a9 a11 a12 n2 n3 n5 n6 n9 n11 n12 c2 c3 c5 c6 c9 c11 c12 ho rs H)
  have n1 := hide (show RwC (w.alloc (.cells #[Value.int .i64 k, Value.int .i64 v, Value.slice a2 n2 c2, Value.slice a3 n3 c3, Value.string ho, Value.slice a5 n5 c5, Value.slice a6 n6 c6, Value.int .i64 ag, Value.int .i64 ea, Value.slice a9 n9 c9, Value.bool rs, Value.slice a11 n11 c11, Value.slice a12 n12 c12] 28)) w.heap.size _ _ from RwC.new w _ 28)
  have H := hide h
  clear h
  go_enter Tryz.func102, Tryz.ntmps102
  go_wp2
  go_region_with (go_at_call 92; refine ((unhide HC) _ ?_).mono ?_; exact (H.out.push _); rintro e w2 ⟨rfl, K, R⟩)
  have B := hide ((n1.out.drew1).oth K nq)
  have b10 : w2.cell? ⟨w.heap.size, 10, none⟩ = some (Value.bool rs) := B.out.cell 10
  have h3 : w2.cell? ⟨q, 3, none⟩ = some u3 := R.cell 3
  have f3 := R.free 3
  have R2 := hide R
  have K2 := hide K
  clear R K
  go_wp2
  go_end0
  refine ⟨rfl, ?_, ?_⟩
  · repeat (with_reducible first | apply Oth.drew | apply Oth.drews | apply Oth.setCell)
    exact ((Oth.refl q w).alloc _).drew.trans K2.out
  · repeat (with_reducible first | apply RwC.drew1 | apply RwC.drews)
    exact (R2.out.set 3 _)
set_option maxHeartbeats 1000000 in
theorem helloTake_any (h : RwC w q ([u0, u1, u2, u3, u4, u5, u6, u7, u8]) t) :
    Calls Tryz.prog 76 #[.pointer (some ⟨q, 0, none⟩), .agg #[Value.int .i64 k, Value.int .i64 v, Value.slice a2 n2 c2, Value.slice a3 n3 c3, Value.string ho, Value.slice a5 n5 c5, Value.slice a6 n6 c6, Value.int .i64 ag, Value.int .i64 ea, Value.slice a9 n9 c9, Value.bool rs, Value.slice a11 n11 c11, Value.slice a12 n12 c12]] w fun e w' => e = .returned (.tuple #[]) ∧ Oth q w w' ∧ RwC w' q ([Value.int .i64 v, Value.slice a2 n2 c2, Value.slice a3 n3 c3, Value.string ho, Value.slice a5 n5 c5, Value.slice a6 n6 c6, Value.int .i64 ag, Value.int .i64 ea, Value.slice a9 n9 c9]) t := by
  have lt := h.lt
  have nq : w.heap.size ≠ q := by omega
  have qn : q ≠ w.heap.size := by omega
  have HC := hide (fun W (H : RwC W q ([u0, u1, u2, u3, u4, u5, u6, u7, u8]) t) => firstTake_any W q t [u3, u4, u5, u6, u7, u8] u0 u1 u2 k v ag ea a2 a3 a5 a6 a9 a11 a12 n2 n3 n5 n6 n9 n11 n12 c2 c3 c5 c6 c9 c11 c12 ho rs H)
  have n1 := hide (show RwC (w.alloc (.cells #[Value.int .i64 k, Value.int .i64 v, Value.slice a2 n2 c2, Value.slice a3 n3 c3, Value.string ho, Value.slice a5 n5 c5, Value.slice a6 n6 c6, Value.int .i64 ag, Value.int .i64 ea, Value.slice a9 n9 c9, Value.bool rs, Value.slice a11 n11 c11, Value.slice a12 n12 c12] 28)) w.heap.size _ _ from RwC.new w _ 28)
  have H := hide h
  clear h
  go_enter Tryz.func76, Tryz.ntmps76
  go_wp2
  go_region_with (go_at_call 92; refine ((unhide HC) _ ?_).mono ?_; exact (H.out.push _); rintro e w2 ⟨rfl, K, R⟩)
  have B := hide ((n1.out.drew1).oth K nq)
  have b4 : w2.cell? ⟨w.heap.size, 4, none⟩ = some (Value.string ho) := B.out.cell 4
  have b5 : w2.cell? ⟨w.heap.size, 5, none⟩ = some (Value.slice a5 n5 c5) := B.out.cell 5
  have b6 : w2.cell? ⟨w.heap.size, 6, none⟩ = some (Value.slice a6 n6 c6) := B.out.cell 6
  have b7 : w2.cell? ⟨w.heap.size, 7, none⟩ = some (Value.int .i64 ag) := B.out.cell 7
  have b8 : w2.cell? ⟨w.heap.size, 8, none⟩ = some (Value.int .i64 ea) := B.out.cell 8
  have b9 : w2.cell? ⟨w.heap.size, 9, none⟩ = some (Value.slice a9 n9 c9) := B.out.cell 9
  have h3 : w2.cell? ⟨q, 3, none⟩ = some u3 := R.cell 3
  have f3 := R.free 3
  have h4 : w2.cell? ⟨q, 4, none⟩ = some u4 := R.cell 4
  have f4 := R.free 4
  have h5 : w2.cell? ⟨q, 5, none⟩ = some u5 := R.cell 5
  have f5 := R.free 5
  have h6 : w2.cell? ⟨q, 6, none⟩ = some u6 := R.cell 6
  have f6 := R.free 6
  have h7 : w2.cell? ⟨q, 7, none⟩ = some u7 := R.cell 7
  have f7 := R.free 7
  have h8 : w2.cell? ⟨q, 8, none⟩ = some u8 := R.cell 8
  have f8 := R.free 8
  have R2 := hide R
  have K2 := hide K
  clear R K
  go_wp2
  go_region
  go_wp2
  go_region
  go_end0
  refine ⟨rfl, ?_, ?_⟩
  · repeat (with_reducible first | apply Oth.drew | apply Oth.drews | apply Oth.setCell)
    exact ((Oth.refl q w).alloc _).drew.trans K2.out
  · repeat (with_reducible first | apply RwC.drew1 | apply RwC.drews)
    exact ((((((R2.out.set 3 _).set 4 _).set 5 _).set 6 _).set 7 _).set 8 _)
end
end Go.Proofs.YtcaljanahpdidaaGreat
namespace Go.Proofs.YtcaljanahpdidaaGreat
open Go Go.RowKit
theorem iM : (Tryz.prog.info? 28).map (·.size) = some 13 := by kernel_rfl
theorem rowM : ∃ d, Tryz.prog.underlying 28 = some d ∧ d.isRow = true := ⟨_, Tryz.underlying28, rfl⟩
theorem results_cellM {P : Program} {fn : Func} {p : Tmp} {ty : TypeId} (h : fn.results = #[.cell p ty]) (tmps : Array Value) (w : World) (g : Nat) (cs : List Value) (d : TypeDesc)
    (hp : tmps.getD p undef = .pointer (some ⟨g, 0, none⟩)) (hc : w.rangeAt g 0 cs) (hu : P.underlying ty = some d) (hd : d.isRow = true) (hi : (P.info? ty).map (·.size) = some cs.length) :
    (results fn tmps).run P w = .ok (.agg cs.toArray) w := by
  have hp' : tmps[p]?.getD undef = .pointer (some ⟨g, 0, none⟩) := by simpa using hp
  simp [results, h, hp', asAddr, run_loadVar_mid w g 0 ty cs d hc hu hd hi]
theorem RwC.range {w : World} {q : Nat} {cs : List Value} {t : TypeId} (h : RwC w q cs t) : w.rangeAt q 0 cs := fun j v hj => by
  rw [Nat.zero_add]
  exact (h.cell j).trans hj
section
variable (w : World) (q : Nat) (t : TypeId) (v ag ea : Int) (a2 a3 a5 a6 a9 a11 a12 : Option Addr) (n2 n3 n5 n6 n9 n11 n12 c2 c3 c5 c6 c9 c11 c12 : Nat) (ho : ByteArray) (rs : Bool)
set_option maxRecDepth 20000 in
set_option maxHeartbeats 1000000 in
theorem plainAnswer_any (h : RwC w q [Value.int .i64 v, Value.slice a2 n2 c2, Value.slice a3 n3 c3, Value.bool rs] t) :
    Calls Tryz.prog 31 #[.iface 76 (.pointer (some ⟨q, 0, none⟩))] w fun e w' => e = .returned (.agg #[Value.int .i64 2, Value.int .i64 v, Value.slice a2 n2 c2, Value.slice a3 n3 c3, Value.string ⟨#[]⟩, Value.slice none 0 0, Value.slice none 0 0, Value.int .i64 0, Value.int .i64 0, Value.slice none 0 0, Value.bool rs, Value.slice none 0 0, Value.slice none 0 0]) ∧ Below w.heap.size w w' := by
  have lt := h.lt
  have nq : w.heap.size ≠ q := by omega
  have qn : q ≠ w.heap.size := by omega
  have h0 : w.cell? ⟨q, 0, none⟩ = some (Value.int .i64 v) := h.cell 0
  have h1 : w.cell? ⟨q, 1, none⟩ = some (Value.slice a2 n2 c2) := h.cell 1
  have h2 : w.cell? ⟨q, 2, none⟩ = some (Value.slice a3 n3 c3) := h.cell 2
  have h3 : w.cell? ⟨q, 3, none⟩ = some (Value.bool rs) := h.cell 3
  have A_helloMessage : ∀ (x : Value) (W : World), (Instr.typeAssert (.iface 76 x) 48 71 true).run Tryz.prog W = .ok (.tuple #[.pointer none, .bool false]) W := fun _ _ => by kernel_rfl
  have A_answerMessage : ∀ (x : Value) (W : World), (Instr.typeAssert (.iface 76 x) 48 76 true).run Tryz.prog W = .ok (.tuple #[x, .bool true]) W := fun _ _ => by kernel_rfl
  clear h
  have RN := hide (RwC.new w [Value.int .i64 2, Value.int .i64 v, Value.slice a2 n2 c2, Value.slice a3 n3 c3, Value.string ⟨#[]⟩, Value.slice none 0 0, Value.slice none 0 0, Value.int .i64 0, Value.int .i64 0, Value.slice none 0 0, Value.bool rs, Value.slice none 0 0, Value.slice none 0 0] 28)
  obtain ⟨d13, hd13, hrow13⟩ := rowM
  go_enter Tryz.func31, Tryz.ntmps31
  go_wp2
  go_region
  go_wp2
  exact bodyPost_ret (v := .agg #[Value.int .i64 2, Value.int .i64 v, Value.slice a2 n2 c2, Value.slice a3 n3 c3, Value.string ⟨#[]⟩, Value.slice none 0 0, Value.slice none 0 0, Value.int .i64 0, Value.int .i64 0, Value.slice none 0 0, Value.bool rs, Value.slice none 0 0, Value.slice none 0 0]) (results_cellM Tryz.results31 _ _ w.heap.size [Value.int .i64 2, Value.int .i64 v, Value.slice a2 n2 c2, Value.slice a3 n3 c3, Value.string ⟨#[]⟩, Value.slice none 0 0, Value.slice none 0 0, Value.int .i64 0, Value.int .i64 0, Value.slice none 0 0, Value.bool rs, Value.slice none 0 0, Value.slice none 0 0] d13 rfl (RN.out.drew1.range) hd13 hrow13 iM) rfl ⟨rfl, ((Below.refl _ _).alloc (Nat.le_refl _) _).drew⟩
set_option maxRecDepth 20000 in
set_option maxHeartbeats 1000000 in
theorem plainTicket_any (h : RwC w q [Value.int .i64 ag, Value.int .i64 ea, Value.slice a2 n2 c2, Value.slice a6 n6 c6] t) :
    Calls Tryz.prog 31 #[.iface 79 (.pointer (some ⟨q, 0, none⟩))] w fun e w' => e = .returned (.agg #[Value.int .i64 4, Value.int .i64 0, Value.slice a2 n2 c2, Value.slice none 0 0, Value.string ⟨#[]⟩, Value.slice none 0 0, Value.slice a6 n6 c6, Value.int .i64 ag, Value.int .i64 ea, Value.slice none 0 0, Value.bool false, Value.slice none 0 0, Value.slice none 0 0]) ∧ Below w.heap.size w w' := by
  have lt := h.lt
  have nq : w.heap.size ≠ q := by omega
  have qn : q ≠ w.heap.size := by omega
  have h0 : w.cell? ⟨q, 0, none⟩ = some (Value.int .i64 ag) := h.cell 0
  have h1 : w.cell? ⟨q, 1, none⟩ = some (Value.int .i64 ea) := h.cell 1
  have h2 : w.cell? ⟨q, 2, none⟩ = some (Value.slice a2 n2 c2) := h.cell 2
  have h3 : w.cell? ⟨q, 3, none⟩ = some (Value.slice a6 n6 c6) := h.cell 3
  have A_helloMessage : ∀ (x : Value) (W : World), (Instr.typeAssert (.iface 79 x) 48 71 true).run Tryz.prog W = .ok (.tuple #[.pointer none, .bool false]) W := fun _ _ => by kernel_rfl
  have A_answerMessage : ∀ (x : Value) (W : World), (Instr.typeAssert (.iface 79 x) 48 76 true).run Tryz.prog W = .ok (.tuple #[.pointer none, .bool false]) W := fun _ _ => by kernel_rfl
  have A_ticketMessage : ∀ (x : Value) (W : World), (Instr.typeAssert (.iface 79 x) 48 79 true).run Tryz.prog W = .ok (.tuple #[x, .bool true]) W := fun _ _ => by kernel_rfl
  clear h
  have RN := hide (RwC.new w [Value.int .i64 4, Value.int .i64 0, Value.slice a2 n2 c2, Value.slice none 0 0, Value.string ⟨#[]⟩, Value.slice none 0 0, Value.slice a6 n6 c6, Value.int .i64 ag, Value.int .i64 ea, Value.slice none 0 0, Value.bool false, Value.slice none 0 0, Value.slice none 0 0] 28)
  obtain ⟨d13, hd13, hrow13⟩ := rowM
  go_enter Tryz.func31, Tryz.ntmps31
  go_wp2
  go_region
  go_wp2
  exact bodyPost_ret (v := .agg #[Value.int .i64 4, Value.int .i64 0, Value.slice a2 n2 c2, Value.slice none 0 0, Value.string ⟨#[]⟩, Value.slice none 0 0, Value.slice a6 n6 c6, Value.int .i64 ag, Value.int .i64 ea, Value.slice none 0 0, Value.bool false, Value.slice none 0 0, Value.slice none 0 0]) (results_cellM Tryz.results31 _ _ w.heap.size [Value.int .i64 4, Value.int .i64 0, Value.slice a2 n2 c2, Value.slice none 0 0, Value.string ⟨#[]⟩, Value.slice none 0 0, Value.slice a6 n6 c6, Value.int .i64 ag, Value.int .i64 ea, Value.slice none 0 0, Value.bool false, Value.slice none 0 0, Value.slice none 0 0] d13 rfl (RN.out.drew1.range) hd13 hrow13 iM) rfl ⟨rfl, ((Below.refl _ _).alloc (Nat.le_refl _) _).drew⟩
set_option maxRecDepth 20000 in
set_option maxHeartbeats 1000000 in
theorem plainEnd_any (x : Value) :
    Calls Tryz.prog 31 #[.iface 82 x] w fun e w' => e = .returned (.agg #[Value.int .i64 5, Value.int .i64 0, Value.slice none 0 0, Value.slice none 0 0, Value.string ⟨#[]⟩, Value.slice none 0 0, Value.slice none 0 0, Value.int .i64 0, Value.int .i64 0, Value.slice none 0 0, Value.bool false, Value.slice none 0 0, Value.slice none 0 0]) ∧ Below w.heap.size w w' := by
  have A_helloMessage : ∀ (x : Value) (W : World), (Instr.typeAssert (.iface 82 x) 48 71 true).run Tryz.prog W = .ok (.tuple #[.pointer none, .bool false]) W := fun _ _ => by kernel_rfl
  have A_answerMessage : ∀ (x : Value) (W : World), (Instr.typeAssert (.iface 82 x) 48 76 true).run Tryz.prog W = .ok (.tuple #[.pointer none, .bool false]) W := fun _ _ => by kernel_rfl
  have A_ticketMessage : ∀ (x : Value) (W : World), (Instr.typeAssert (.iface 82 x) 48 79 true).run Tryz.prog W = .ok (.tuple #[.pointer none, .bool false]) W := fun _ _ => by kernel_rfl
  have A_endOfEarlyMessage : ∀ (x : Value) (W : World), (Instr.typeAssert (.iface 82 x) 48 82 true).run Tryz.prog W = .ok (.tuple #[x, .bool true]) W := fun _ _ => by kernel_rfl
  have RN := hide (RwC.new w [Value.int .i64 5, Value.int .i64 0, Value.slice none 0 0, Value.slice none 0 0, Value.string ⟨#[]⟩, Value.slice none 0 0, Value.slice none 0 0, Value.int .i64 0, Value.int .i64 0, Value.slice none 0 0, Value.bool false, Value.slice none 0 0, Value.slice none 0 0] 28)
  obtain ⟨d13, hd13, hrow13⟩ := rowM
  go_enter Tryz.func31, Tryz.ntmps31
  go_wp2
  exact bodyPost_ret (v := .agg #[Value.int .i64 5, Value.int .i64 0, Value.slice none 0 0, Value.slice none 0 0, Value.string ⟨#[]⟩, Value.slice none 0 0, Value.slice none 0 0, Value.int .i64 0, Value.int .i64 0, Value.slice none 0 0, Value.bool false, Value.slice none 0 0, Value.slice none 0 0]) (results_cellM Tryz.results31 _ _ w.heap.size [Value.int .i64 5, Value.int .i64 0, Value.slice none 0 0, Value.slice none 0 0, Value.string ⟨#[]⟩, Value.slice none 0 0, Value.slice none 0 0, Value.int .i64 0, Value.int .i64 0, Value.slice none 0 0, Value.bool false, Value.slice none 0 0, Value.slice none 0 0] d13 rfl (RN.out.range) hd13 hrow13 iM) rfl ⟨rfl, ((Below.refl _ _).alloc (Nat.le_refl _) _)⟩
set_option maxRecDepth 20000 in
set_option maxHeartbeats 1000000 in
theorem plainExtras_any (h : RwC w q [Value.slice a5 n5 c5, Value.int .i64 ea] t) :
    Calls Tryz.prog 31 #[.iface 85 (.pointer (some ⟨q, 0, none⟩))] w fun e w' => e = .returned (.agg #[Value.int .i64 8, Value.int .i64 0, Value.slice none 0 0, Value.slice none 0 0, Value.string ⟨#[]⟩, Value.slice a5 n5 c5, Value.slice none 0 0, Value.int .i64 0, Value.int .i64 ea, Value.slice none 0 0, Value.bool false, Value.slice none 0 0, Value.slice none 0 0]) ∧ Below w.heap.size w w' := by
  have lt := h.lt
  have nq : w.heap.size ≠ q := by omega
  have qn : q ≠ w.heap.size := by omega
  have h0 : w.cell? ⟨q, 0, none⟩ = some (Value.slice a5 n5 c5) := h.cell 0
  have h1 : w.cell? ⟨q, 1, none⟩ = some (Value.int .i64 ea) := h.cell 1
  have A_helloMessage : ∀ (x : Value) (W : World), (Instr.typeAssert (.iface 85 x) 48 71 true).run Tryz.prog W = .ok (.tuple #[.pointer none, .bool false]) W := fun _ _ => by kernel_rfl
  have A_answerMessage : ∀ (x : Value) (W : World), (Instr.typeAssert (.iface 85 x) 48 76 true).run Tryz.prog W = .ok (.tuple #[.pointer none, .bool false]) W := fun _ _ => by kernel_rfl
  have A_ticketMessage : ∀ (x : Value) (W : World), (Instr.typeAssert (.iface 85 x) 48 79 true).run Tryz.prog W = .ok (.tuple #[.pointer none, .bool false]) W := fun _ _ => by kernel_rfl
  have A_endOfEarlyMessage : ∀ (x : Value) (W : World), (Instr.typeAssert (.iface 85 x) 48 82 true).run Tryz.prog W = .ok (.tuple #[.pointer none, .bool false]) W := fun _ _ => by kernel_rfl
  have A_extrasMessage : ∀ (x : Value) (W : World), (Instr.typeAssert (.iface 85 x) 48 85 true).run Tryz.prog W = .ok (.tuple #[x, .bool true]) W := fun _ _ => by kernel_rfl
  clear h
  have RN := hide (RwC.new w [Value.int .i64 8, Value.int .i64 0, Value.slice none 0 0, Value.slice none 0 0, Value.string ⟨#[]⟩, Value.slice a5 n5 c5, Value.slice none 0 0, Value.int .i64 0, Value.int .i64 ea, Value.slice none 0 0, Value.bool false, Value.slice none 0 0, Value.slice none 0 0] 28)
  obtain ⟨d13, hd13, hrow13⟩ := rowM
  go_enter Tryz.func31, Tryz.ntmps31
  go_wp2
  go_region
  go_wp2
  exact bodyPost_ret (v := .agg #[Value.int .i64 8, Value.int .i64 0, Value.slice none 0 0, Value.slice none 0 0, Value.string ⟨#[]⟩, Value.slice a5 n5 c5, Value.slice none 0 0, Value.int .i64 0, Value.int .i64 ea, Value.slice none 0 0, Value.bool false, Value.slice none 0 0, Value.slice none 0 0]) (results_cellM Tryz.results31 _ _ w.heap.size [Value.int .i64 8, Value.int .i64 0, Value.slice none 0 0, Value.slice none 0 0, Value.string ⟨#[]⟩, Value.slice a5 n5 c5, Value.slice none 0 0, Value.int .i64 0, Value.int .i64 ea, Value.slice none 0 0, Value.bool false, Value.slice none 0 0, Value.slice none 0 0] d13 rfl (RN.out.drew1.range) hd13 hrow13 iM) rfl ⟨rfl, ((Below.refl _ _).alloc (Nat.le_refl _) _).drew⟩
set_option maxRecDepth 20000 in
set_option maxHeartbeats 1000000 in
theorem plainCerts_any (h : RwC w q [Value.slice a11 n11 c11] t) :
    Calls Tryz.prog 31 #[.iface 88 (.pointer (some ⟨q, 0, none⟩))] w fun e w' => e = .returned (.agg #[Value.int .i64 11, Value.int .i64 0, Value.slice none 0 0, Value.slice none 0 0, Value.string ⟨#[]⟩, Value.slice none 0 0, Value.slice none 0 0, Value.int .i64 0, Value.int .i64 0, Value.slice none 0 0, Value.bool false, Value.slice a11 n11 c11, Value.slice none 0 0]) ∧ Below w.heap.size w w' := by
  have lt := h.lt
  have nq : w.heap.size ≠ q := by omega
  have qn : q ≠ w.heap.size := by omega
  have h0 : w.cell? ⟨q, 0, none⟩ = some (Value.slice a11 n11 c11) := h.cell 0
  have A_helloMessage : ∀ (x : Value) (W : World), (Instr.typeAssert (.iface 88 x) 48 71 true).run Tryz.prog W = .ok (.tuple #[.pointer none, .bool false]) W := fun _ _ => by kernel_rfl
  have A_answerMessage : ∀ (x : Value) (W : World), (Instr.typeAssert (.iface 88 x) 48 76 true).run Tryz.prog W = .ok (.tuple #[.pointer none, .bool false]) W := fun _ _ => by kernel_rfl
  have A_ticketMessage : ∀ (x : Value) (W : World), (Instr.typeAssert (.iface 88 x) 48 79 true).run Tryz.prog W = .ok (.tuple #[.pointer none, .bool false]) W := fun _ _ => by kernel_rfl
  have A_endOfEarlyMessage : ∀ (x : Value) (W : World), (Instr.typeAssert (.iface 88 x) 48 82 true).run Tryz.prog W = .ok (.tuple #[.pointer none, .bool false]) W := fun _ _ => by kernel_rfl
  have A_extrasMessage : ∀ (x : Value) (W : World), (Instr.typeAssert (.iface 88 x) 48 85 true).run Tryz.prog W = .ok (.tuple #[.pointer none, .bool false]) W := fun _ _ => by kernel_rfl
  have A_certsMessage : ∀ (x : Value) (W : World), (Instr.typeAssert (.iface 88 x) 48 88 true).run Tryz.prog W = .ok (.tuple #[x, .bool true]) W := fun _ _ => by kernel_rfl
  clear h
  have RN := hide (RwC.new w [Value.int .i64 11, Value.int .i64 0, Value.slice none 0 0, Value.slice none 0 0, Value.string ⟨#[]⟩, Value.slice none 0 0, Value.slice none 0 0, Value.int .i64 0, Value.int .i64 0, Value.slice none 0 0, Value.bool false, Value.slice a11 n11 c11, Value.slice none 0 0] 28)
  obtain ⟨d13, hd13, hrow13⟩ := rowM
  go_enter Tryz.func31, Tryz.ntmps31
  go_wp2
  exact bodyPost_ret (v := .agg #[Value.int .i64 11, Value.int .i64 0, Value.slice none 0 0, Value.slice none 0 0, Value.string ⟨#[]⟩, Value.slice none 0 0, Value.slice none 0 0, Value.int .i64 0, Value.int .i64 0, Value.slice none 0 0, Value.bool false, Value.slice a11 n11 c11, Value.slice none 0 0]) (results_cellM Tryz.results31 _ _ w.heap.size [Value.int .i64 11, Value.int .i64 0, Value.slice none 0 0, Value.slice none 0 0, Value.string ⟨#[]⟩, Value.slice none 0 0, Value.slice none 0 0, Value.int .i64 0, Value.int .i64 0, Value.slice none 0 0, Value.bool false, Value.slice a11 n11 c11, Value.slice none 0 0] d13 rfl (RN.out.range) hd13 hrow13 iM) rfl ⟨rfl, ((Below.refl _ _).alloc (Nat.le_refl _) _)⟩
set_option maxRecDepth 20000 in
set_option maxHeartbeats 1000000 in
theorem plainProof_any (h : RwC w q [Value.slice a12 n12 c12] t) :
    Calls Tryz.prog 31 #[.iface 91 (.pointer (some ⟨q, 0, none⟩))] w fun e w' => e = .returned (.agg #[Value.int .i64 15, Value.int .i64 0, Value.slice none 0 0, Value.slice none 0 0, Value.string ⟨#[]⟩, Value.slice none 0 0, Value.slice none 0 0, Value.int .i64 0, Value.int .i64 0, Value.slice none 0 0, Value.bool false, Value.slice none 0 0, Value.slice a12 n12 c12]) ∧ Below w.heap.size w w' := by
  have lt := h.lt
  have nq : w.heap.size ≠ q := by omega
  have qn : q ≠ w.heap.size := by omega
  have h0 : w.cell? ⟨q, 0, none⟩ = some (Value.slice a12 n12 c12) := h.cell 0
  have A_helloMessage : ∀ (x : Value) (W : World), (Instr.typeAssert (.iface 91 x) 48 71 true).run Tryz.prog W = .ok (.tuple #[.pointer none, .bool false]) W := fun _ _ => by kernel_rfl
  have A_answerMessage : ∀ (x : Value) (W : World), (Instr.typeAssert (.iface 91 x) 48 76 true).run Tryz.prog W = .ok (.tuple #[.pointer none, .bool false]) W := fun _ _ => by kernel_rfl
  have A_ticketMessage : ∀ (x : Value) (W : World), (Instr.typeAssert (.iface 91 x) 48 79 true).run Tryz.prog W = .ok (.tuple #[.pointer none, .bool false]) W := fun _ _ => by kernel_rfl
  have A_endOfEarlyMessage : ∀ (x : Value) (W : World), (Instr.typeAssert (.iface 91 x) 48 82 true).run Tryz.prog W = .ok (.tuple #[.pointer none, .bool false]) W := fun _ _ => by kernel_rfl
  have A_extrasMessage : ∀ (x : Value) (W : World), (Instr.typeAssert (.iface 91 x) 48 85 true).run Tryz.prog W = .ok (.tuple #[.pointer none, .bool false]) W := fun _ _ => by kernel_rfl
  have A_certsMessage : ∀ (x : Value) (W : World), (Instr.typeAssert (.iface 91 x) 48 88 true).run Tryz.prog W = .ok (.tuple #[.pointer none, .bool false]) W := fun _ _ => by kernel_rfl
  have A_proofMessage : ∀ (x : Value) (W : World), (Instr.typeAssert (.iface 91 x) 48 91 true).run Tryz.prog W = .ok (.tuple #[x, .bool true]) W := fun _ _ => by kernel_rfl
  clear h
  have RN := hide (RwC.new w [Value.int .i64 15, Value.int .i64 0, Value.slice none 0 0, Value.slice none 0 0, Value.string ⟨#[]⟩, Value.slice none 0 0, Value.slice none 0 0, Value.int .i64 0, Value.int .i64 0, Value.slice none 0 0, Value.bool false, Value.slice none 0 0, Value.slice a12 n12 c12] 28)
  obtain ⟨d13, hd13, hrow13⟩ := rowM
  go_enter Tryz.func31, Tryz.ntmps31
  go_wp2
  exact bodyPost_ret (v := .agg #[Value.int .i64 15, Value.int .i64 0, Value.slice none 0 0, Value.slice none 0 0, Value.string ⟨#[]⟩, Value.slice none 0 0, Value.slice none 0 0, Value.int .i64 0, Value.int .i64 0, Value.slice none 0 0, Value.bool false, Value.slice none 0 0, Value.slice a12 n12 c12]) (results_cellM Tryz.results31 _ _ w.heap.size [Value.int .i64 15, Value.int .i64 0, Value.slice none 0 0, Value.slice none 0 0, Value.string ⟨#[]⟩, Value.slice none 0 0, Value.slice none 0 0, Value.int .i64 0, Value.int .i64 0, Value.slice none 0 0, Value.bool false, Value.slice none 0 0, Value.slice a12 n12 c12] d13 rfl (RN.out.range) hd13 hrow13 iM) rfl ⟨rfl, ((Below.refl _ _).alloc (Nat.le_refl _) _)⟩
set_option maxRecDepth 20000 in
set_option maxHeartbeats 1000000 in
theorem plainFinished_any (h : RwC w q [Value.slice a12 n12 c12] t) :
    Calls Tryz.prog 31 #[.iface 94 (.pointer (some ⟨q, 0, none⟩))] w fun e w' => e = .returned (.agg #[Value.int .i64 20, Value.int .i64 0, Value.slice none 0 0, Value.slice none 0 0, Value.string ⟨#[]⟩, Value.slice none 0 0, Value.slice none 0 0, Value.int .i64 0, Value.int .i64 0, Value.slice none 0 0, Value.bool false, Value.slice none 0 0, Value.slice a12 n12 c12]) ∧ Below w.heap.size w w' := by
  have lt := h.lt
  have nq : w.heap.size ≠ q := by omega
  have qn : q ≠ w.heap.size := by omega
  have h0 : w.cell? ⟨q, 0, none⟩ = some (Value.slice a12 n12 c12) := h.cell 0
  have A_helloMessage : ∀ (x : Value) (W : World), (Instr.typeAssert (.iface 94 x) 48 71 true).run Tryz.prog W = .ok (.tuple #[.pointer none, .bool false]) W := fun _ _ => by kernel_rfl
  have A_answerMessage : ∀ (x : Value) (W : World), (Instr.typeAssert (.iface 94 x) 48 76 true).run Tryz.prog W = .ok (.tuple #[.pointer none, .bool false]) W := fun _ _ => by kernel_rfl
  have A_ticketMessage : ∀ (x : Value) (W : World), (Instr.typeAssert (.iface 94 x) 48 79 true).run Tryz.prog W = .ok (.tuple #[.pointer none, .bool false]) W := fun _ _ => by kernel_rfl
  have A_endOfEarlyMessage : ∀ (x : Value) (W : World), (Instr.typeAssert (.iface 94 x) 48 82 true).run Tryz.prog W = .ok (.tuple #[.pointer none, .bool false]) W := fun _ _ => by kernel_rfl
  have A_extrasMessage : ∀ (x : Value) (W : World), (Instr.typeAssert (.iface 94 x) 48 85 true).run Tryz.prog W = .ok (.tuple #[.pointer none, .bool false]) W := fun _ _ => by kernel_rfl
  have A_certsMessage : ∀ (x : Value) (W : World), (Instr.typeAssert (.iface 94 x) 48 88 true).run Tryz.prog W = .ok (.tuple #[.pointer none, .bool false]) W := fun _ _ => by kernel_rfl
  have A_proofMessage : ∀ (x : Value) (W : World), (Instr.typeAssert (.iface 94 x) 48 91 true).run Tryz.prog W = .ok (.tuple #[.pointer none, .bool false]) W := fun _ _ => by kernel_rfl
  have A_finishedMessage : ∀ (x : Value) (W : World), (Instr.typeAssert (.iface 94 x) 48 94 true).run Tryz.prog W = .ok (.tuple #[x, .bool true]) W := fun _ _ => by kernel_rfl
  clear h
  have RN := hide (RwC.new w [Value.int .i64 20, Value.int .i64 0, Value.slice none 0 0, Value.slice none 0 0, Value.string ⟨#[]⟩, Value.slice none 0 0, Value.slice none 0 0, Value.int .i64 0, Value.int .i64 0, Value.slice none 0 0, Value.bool false, Value.slice none 0 0, Value.slice a12 n12 c12] 28)
  obtain ⟨d13, hd13, hrow13⟩ := rowM
  go_enter Tryz.func31, Tryz.ntmps31
  go_wp2
  exact bodyPost_ret (v := .agg #[Value.int .i64 20, Value.int .i64 0, Value.slice none 0 0, Value.slice none 0 0, Value.string ⟨#[]⟩, Value.slice none 0 0, Value.slice none 0 0, Value.int .i64 0, Value.int .i64 0, Value.slice none 0 0, Value.bool false, Value.slice none 0 0, Value.slice a12 n12 c12]) (results_cellM Tryz.results31 _ _ w.heap.size [Value.int .i64 20, Value.int .i64 0, Value.slice none 0 0, Value.slice none 0 0, Value.string ⟨#[]⟩, Value.slice none 0 0, Value.slice none 0 0, Value.int .i64 0, Value.int .i64 0, Value.slice none 0 0, Value.bool false, Value.slice none 0 0, Value.slice a12 n12 c12] d13 rfl (RN.out.range) hd13 hrow13 iM) rfl ⟨rfl, ((Below.refl _ _).alloc (Nat.le_refl _) _)⟩
set_option maxRecDepth 20000 in
set_option maxHeartbeats 1000000 in
theorem plainUpdate_any (h : RwC w q [Value.int .i64 ea] t) :
    Calls Tryz.prog 31 #[.iface 96 (.pointer (some ⟨q, 0, none⟩))] w fun e w' => e = .returned (.agg #[Value.int .i64 24, Value.int .i64 0, Value.slice none 0 0, Value.slice none 0 0, Value.string ⟨#[]⟩, Value.slice none 0 0, Value.slice none 0 0, Value.int .i64 0, Value.int .i64 ea, Value.slice none 0 0, Value.bool false, Value.slice none 0 0, Value.slice none 0 0]) ∧ Below w.heap.size w w' := by
  have lt := h.lt
  have nq : w.heap.size ≠ q := by omega
  have qn : q ≠ w.heap.size := by omega
  have h0 : w.cell? ⟨q, 0, none⟩ = some (Value.int .i64 ea) := h.cell 0
  have A_helloMessage : ∀ (x : Value) (W : World), (Instr.typeAssert (.iface 96 x) 48 71 true).run Tryz.prog W = .ok (.tuple #[.pointer none, .bool false]) W := fun _ _ => by kernel_rfl
  have A_answerMessage : ∀ (x : Value) (W : World), (Instr.typeAssert (.iface 96 x) 48 76 true).run Tryz.prog W = .ok (.tuple #[.pointer none, .bool false]) W := fun _ _ => by kernel_rfl
  have A_ticketMessage : ∀ (x : Value) (W : World), (Instr.typeAssert (.iface 96 x) 48 79 true).run Tryz.prog W = .ok (.tuple #[.pointer none, .bool false]) W := fun _ _ => by kernel_rfl
  have A_endOfEarlyMessage : ∀ (x : Value) (W : World), (Instr.typeAssert (.iface 96 x) 48 82 true).run Tryz.prog W = .ok (.tuple #[.pointer none, .bool false]) W := fun _ _ => by kernel_rfl
  have A_extrasMessage : ∀ (x : Value) (W : World), (Instr.typeAssert (.iface 96 x) 48 85 true).run Tryz.prog W = .ok (.tuple #[.pointer none, .bool false]) W := fun _ _ => by kernel_rfl
  have A_certsMessage : ∀ (x : Value) (W : World), (Instr.typeAssert (.iface 96 x) 48 88 true).run Tryz.prog W = .ok (.tuple #[.pointer none, .bool false]) W := fun _ _ => by kernel_rfl
  have A_proofMessage : ∀ (x : Value) (W : World), (Instr.typeAssert (.iface 96 x) 48 91 true).run Tryz.prog W = .ok (.tuple #[.pointer none, .bool false]) W := fun _ _ => by kernel_rfl
  have A_finishedMessage : ∀ (x : Value) (W : World), (Instr.typeAssert (.iface 96 x) 48 94 true).run Tryz.prog W = .ok (.tuple #[.pointer none, .bool false]) W := fun _ _ => by kernel_rfl
  have A_updateMessage : ∀ (x : Value) (W : World), (Instr.typeAssert (.iface 96 x) 48 96 true).run Tryz.prog W = .ok (.tuple #[x, .bool true]) W := fun _ _ => by kernel_rfl
  clear h
  have RN := hide (RwC.new w [Value.int .i64 24, Value.int .i64 0, Value.slice none 0 0, Value.slice none 0 0, Value.string ⟨#[]⟩, Value.slice none 0 0, Value.slice none 0 0, Value.int .i64 0, Value.int .i64 ea, Value.slice none 0 0, Value.bool false, Value.slice none 0 0, Value.slice none 0 0] 28)
  obtain ⟨d13, hd13, hrow13⟩ := rowM
  go_enter Tryz.func31, Tryz.ntmps31
  go_wp2
  exact bodyPost_ret (v := .agg #[Value.int .i64 24, Value.int .i64 0, Value.slice none 0 0, Value.slice none 0 0, Value.string ⟨#[]⟩, Value.slice none 0 0, Value.slice none 0 0, Value.int .i64 0, Value.int .i64 ea, Value.slice none 0 0, Value.bool false, Value.slice none 0 0, Value.slice none 0 0]) (results_cellM Tryz.results31 _ _ w.heap.size [Value.int .i64 24, Value.int .i64 0, Value.slice none 0 0, Value.slice none 0 0, Value.string ⟨#[]⟩, Value.slice none 0 0, Value.slice none 0 0, Value.int .i64 0, Value.int .i64 ea, Value.slice none 0 0, Value.bool false, Value.slice none 0 0, Value.slice none 0 0] d13 rfl (RN.out.range) hd13 hrow13 iM) rfl ⟨rfl, ((Below.refl _ _).alloc (Nat.le_refl _) _)⟩
end
end Go.Proofs.YtcaljanahpdidaaGreat
namespace Go.Proofs.YtcaljanahpdidaaGreat
open Go Go.RowKit
theorem newHello_any (w : World) : Calls Tryz.prog 32 #[] w fun e w' => e = .returned (.iface 71 (.pointer (some ⟨w.heap.size, 0, none⟩))) ∧ RwC w' w.heap.size [.int .i64 0, .slice none 0 0, .slice none 0 0, .string ⟨#[]⟩, .slice none 0 0, .slice none 0 0, .int .i64 0, .int .i64 0, .slice none 0 0] 75 ∧ Below w.heap.size w w' := by
  go_enter Tryz.func32, Tryz.ntmps32
  go_wp2
  go_ret
  exact ⟨rfl, RwC.new w _ _, (Below.refl _ _).alloc (Nat.le_refl _) _⟩
theorem newAnswer_any (w : World) : Calls Tryz.prog 33 #[] w fun e w' => e = .returned (.iface 76 (.pointer (some ⟨w.heap.size, 0, none⟩))) ∧ RwC w' w.heap.size [.int .i64 0, .slice none 0 0, .slice none 0 0, .bool false] 78 ∧ Below w.heap.size w w' := by
  go_enter Tryz.func33, Tryz.ntmps33
  go_wp2
  go_ret
  exact ⟨rfl, RwC.new w _ _, (Below.refl _ _).alloc (Nat.le_refl _) _⟩
theorem newTicket_any (w : World) : Calls Tryz.prog 34 #[] w fun e w' => e = .returned (.iface 79 (.pointer (some ⟨w.heap.size, 0, none⟩))) ∧ RwC w' w.heap.size [.int .i64 0, .int .i64 0, .slice none 0 0, .slice none 0 0] 81 ∧ Below w.heap.size w w' := by
  go_enter Tryz.func34, Tryz.ntmps34
  go_wp2
  go_ret
  exact ⟨rfl, RwC.new w _ _, (Below.refl _ _).alloc (Nat.le_refl _) _⟩
theorem newEnd_any (w : World) : Calls Tryz.prog 35 #[] w fun e w' => e = .returned (.iface 82 (.pointer (some ⟨w.heap.size, 0, none⟩))) ∧ RwC w' w.heap.size [] 84 ∧ Below w.heap.size w w' := by
  go_enter Tryz.func35, Tryz.ntmps35
  go_wp2
  go_ret
  exact ⟨rfl, RwC.new w _ _, (Below.refl _ _).alloc (Nat.le_refl _) _⟩
theorem newExtras_any (w : World) : Calls Tryz.prog 36 #[] w fun e w' => e = .returned (.iface 85 (.pointer (some ⟨w.heap.size, 0, none⟩))) ∧ RwC w' w.heap.size [.slice none 0 0, .int .i64 0] 87 ∧ Below w.heap.size w w' := by
  go_enter Tryz.func36, Tryz.ntmps36
  go_wp2
  go_ret
  exact ⟨rfl, RwC.new w _ _, (Below.refl _ _).alloc (Nat.le_refl _) _⟩
theorem newCerts_any (w : World) : Calls Tryz.prog 37 #[] w fun e w' => e = .returned (.iface 88 (.pointer (some ⟨w.heap.size, 0, none⟩))) ∧ RwC w' w.heap.size [.slice none 0 0] 90 ∧ Below w.heap.size w w' := by
  go_enter Tryz.func37, Tryz.ntmps37
  go_wp2
  go_ret
  exact ⟨rfl, RwC.new w _ _, (Below.refl _ _).alloc (Nat.le_refl _) _⟩
theorem newProof_any (w : World) : Calls Tryz.prog 38 #[] w fun e w' => e = .returned (.iface 91 (.pointer (some ⟨w.heap.size, 0, none⟩))) ∧ RwC w' w.heap.size [.slice none 0 0] 93 ∧ Below w.heap.size w w' := by
  go_enter Tryz.func38, Tryz.ntmps38
  go_wp2
  go_ret
  exact ⟨rfl, RwC.new w _ _, (Below.refl _ _).alloc (Nat.le_refl _) _⟩
theorem newFinished_any (w : World) : Calls Tryz.prog 39 #[] w fun e w' => e = .returned (.iface 94 (.pointer (some ⟨w.heap.size, 0, none⟩))) ∧ RwC w' w.heap.size [.slice none 0 0] 95 ∧ Below w.heap.size w w' := by
  go_enter Tryz.func39, Tryz.ntmps39
  go_wp2
  go_ret
  exact ⟨rfl, RwC.new w _ _, (Below.refl _ _).alloc (Nat.le_refl _) _⟩
theorem newUpdate_any (w : World) : Calls Tryz.prog 40 #[] w fun e w' => e = .returned (.iface 96 (.pointer (some ⟨w.heap.size, 0, none⟩))) ∧ RwC w' w.heap.size [.int .i64 0] 98 ∧ Below w.heap.size w w' := by
  go_enter Tryz.func40, Tryz.ntmps40
  go_wp2
  go_ret
  exact ⟨rfl, RwC.new w _ _, (Below.refl _ _).alloc (Nat.le_refl _) _⟩
end Go.Proofs.YtcaljanahpdidaaGreat
namespace Go.Proofs.YtcaljanahpdidaaGreat
open Go Go.RowKit
section
variable (w : World) (k v ag ea : Int) (a2 a3 a5 a6 a9 a11 a12 : Option Addr) (n2 n3 n5 n6 n9 n11 n12 c2 c3 c5 c6 c9 c11 c12 : Nat) (ho : ByteArray) (rs : Bool)
set_option maxRecDepth 20000 in
set_option maxHeartbeats 1000000 in
theorem typedNone_any (hk : regV k = .nilFunc) :
    Calls Tryz.prog 19 #[.agg #[Value.int .i64 k, Value.int .i64 v, Value.slice a2 n2 c2, Value.slice a3 n3 c3, Value.string ho, Value.slice a5 n5 c5, Value.slice a6 n6 c6, Value.int .i64 ag, Value.int .i64 ea, Value.slice a9 n9 c9, Value.bool rs, Value.slice a11 n11 c11, Value.slice a12 n12 c12]] w fun e w' => e = .returned (.tuple #[.nilIface, .int .i64 1]) ∧ Below w.heap.size w w' := by
  have B := hide (RwC.new w [Value.int .i64 k, Value.int .i64 v, Value.slice a2 n2 c2, Value.slice a3 n3 c3, Value.string ho, Value.slice a5 n5 c5, Value.slice a6 n6 c6, Value.int .i64 ag, Value.int .i64 ea, Value.slice a9 n9 c9, Value.bool rs, Value.slice a11 n11 c11, Value.slice a12 n12 c12] 28)
  have N := hide (show Below w.heap.size w (w.alloc (.cells #[Value.int .i64 k, Value.int .i64 v, Value.slice a2 n2 c2, Value.slice a3 n3 c3, Value.string ho, Value.slice a5 n5 c5, Value.slice a6 n6 c6, Value.int .i64 ag, Value.int .i64 ea, Value.slice a9 n9 c9, Value.bool rs, Value.slice a11 n11 c11, Value.slice a12 n12 c12] 28)) from (Below.refl _ _).alloc (Nat.le_refl _) _)
  have MK := hide messageKinds_any
  have HK := hide hk
  have eq0 : ∀ W, (binOp .eql 67 .nilFunc .nilFunc).run Tryz.prog W = .ok (.bool true) W := fun _ => by kernel_rfl
  clear hk
  go_enter Tryz.func19, Tryz.ntmps19
  go_wp2
  go_region_with (go_at_call 21; refine (MK.out _).mono ?_; rintro e w1 ⟨rfl, hb, n⟩; have l0 : w1.cell? ⟨w.heap.size, 0, none⟩ = some (.int .i64 k) := (B.out.drew1.up n).cell 0; have lk : (Instr.lookup 54 (.map (some (w.heap.size + 1))) (.int .i64 k) false).run Tryz.prog w1 = .ok .nilFunc w1 := (regLook w1 (w.heap.size + 1) (by simpa using hb) k).trans (by rw [HK.out]); have N1 := hide (nxt N.out.drew n); clear n hb)
  all_goals
    go_wp2
    go_ret2
    exact ⟨rfl, N1.out⟩
end
end Go.Proofs.YtcaljanahpdidaaGreat
