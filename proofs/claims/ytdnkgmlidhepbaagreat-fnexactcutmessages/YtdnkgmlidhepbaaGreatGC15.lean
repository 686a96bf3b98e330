import Derived.Test.YtdnkgmlidhepbaaGreatGC14
import Derived.Test.YtdnkgmlidhepbaaGreatGC12
import Derived.Test.YtdnkgmlidhepbaaGreatGC13
namespace Go.Proofs.YtdnkgmlidhepbaaGreat
open Go Go.RowKit
structure Msg where
  k : Int
  v : Int
  r : List Int
  s : List Int
  ho : List UInt8
  pr : List (List UInt8)
  ti : List Int
  ag : Int
  ea : Int
  bi : List Int
  rs : Bool
  ce : List (List Int)
  pf : List Int
structure MQ where
  a2 : Option Addr
  c2 : Nat
  g2 : Nat
  a3 : Option Addr
  c3 : Nat
  g3 : Nat
  a5 : Option Addr
  c5 : Nat
  g5 : Nat
  a6 : Option Addr
  c6 : Nat
  g6 : Nat
  a9 : Option Addr
  c9 : Nat
  g9 : Nat
  a11 : Option Addr
  c11 : Nat
  g11 : Nat
  a12 : Option Addr
  c12 : Nat
  g12 : Nat
  ps : List Plb
def mgV (p : MQ) (m : Msg) : Array Value := #[.int .i64 m.k, .int .i64 m.v, .slice p.a2 m.r.length p.c2, .slice p.a3 m.s.length p.c3, .string ⟨⟨m.ho⟩⟩, .slice p.a5 m.pr.length p.c5, .slice p.a6 m.ti.length p.c6, .int .i64 m.ag, .int .i64 m.ea, .slice p.a9 m.bi.length p.c9, .bool m.rs, .slice p.a11 m.ce.length p.c11, .slice p.a12 m.pf.length p.c12]
structure HasM (w : World) (p : MQ) (m : Msg) : Prop where
  r : Rd w p.g2 p.a2 .u8 m.r
  s : Rd w p.g3 p.a3 .u8 m.s
  pr : RdT w p.g5 p.a5 m.pr
  ti : Rd w p.g6 p.a6 .u8 m.ti
  bi : Rd w p.g9 p.a9 .u8 m.bi
  ce : RdL w p.g11 p.a11 m.ce p.ps
  pf : Rd w p.g12 p.a12 .u8 m.pf
  prC : m.pr.length ≤ p.c5
theorem HasM.up {w w' : World} {p : MQ} {m : Msg} (h : HasM w p m) (n : Below w.heap.size w w') : HasM w' p m := ⟨h.r.up n, h.s.up n, h.pr.up n, h.ti.up n, h.bi.up n, h.ce.up n, h.pf.up n, h.prC⟩
structure IsM (m : Msg) : Prop where
  rB : Byt m.r
  sB : Byt m.s
  tiB : Byt m.ti
  biB : Byt m.bi
  pfB : Byt m.pf
  ceB : ∀ i, i < m.ce.length → Byt (m.ce.getD i [])
  rL : m.r.length ≤ 1048576
  sL : m.s.length ≤ 1048576
  prL : m.pr.length ≤ 1048576
  tiL : m.ti.length ≤ 1048576
  biL : m.bi.length ≤ 1048576
  ceL : m.ce.length ≤ 1048576
  pfL : m.pf.length ≤ 1048576
  ceZ : ∀ i, i < m.ce.length → (m.ce.getD i []).length ≤ 1048576
  hoL : m.ho.length ≤ 1048576
  prZ : ∀ l ∈ m.pr, l.length ≤ 1048576
def sameM (m m' : Msg) : Bool := decide (m.k = m'.k) && (decide (m.v = m'.v) && (decide (m.ho = m'.ho) && (decide (m.ag = m'.ag) && (decide (m.ea = m'.ea) && (decide (m.rs = m'.rs) && (decide (m.r = m'.r) && (decide (m.s = m'.s) && (decide (m.ti = m'.ti) && (decide (m.bi = m'.bi) && (decide (m.pf = m'.pf) && (decide (m.pr = m'.pr) && (decide (m.ce = m'.ce)))))))))))))
end Go.Proofs.YtdnkgmlidhepbaaGreat
namespace Go.Proofs.YtdnkgmlidhepbaaGreat
open Go Go.RowKit
theorem newHello_any (w : World) : Calls Tryz.prog 44 #[] w fun e w' => e = .returned (.iface 70 (.pointer (some ⟨w.heap.size, 0, none⟩))) ∧ RwC w' w.heap.size [.int .i64 0, .slice none 0 0, .slice none 0 0, .string ⟨#[]⟩, .slice none 0 0, .slice none 0 0, .int .i64 0, .int .i64 0, .slice none 0 0] 74 ∧ Below w.heap.size w w' := by
  go_enter Tryz.func44, Tryz.ntmps44
  go_wp2
  go_ret
  exact ⟨rfl, RwC.new w _ _, (Below.refl _ _).alloc (Nat.le_refl _) _⟩
theorem newAnswer_any (w : World) : Calls Tryz.prog 45 #[] w fun e w' => e = .returned (.iface 76 (.pointer (some ⟨w.heap.size, 0, none⟩))) ∧ RwC w' w.heap.size [.int .i64 0, .slice none 0 0, .slice none 0 0, .bool false] 78 ∧ Below w.heap.size w w' := by
  go_enter Tryz.func45, Tryz.ntmps45
  go_wp2
  go_ret
  exact ⟨rfl, RwC.new w _ _, (Below.refl _ _).alloc (Nat.le_refl _) _⟩
theorem newTicket_any (w : World) : Calls Tryz.prog 46 #[] w fun e w' => e = .returned (.iface 79 (.pointer (some ⟨w.heap.size, 0, none⟩))) ∧ RwC w' w.heap.size [.int .i64 0, .int .i64 0, .slice none 0 0, .slice none 0 0] 81 ∧ Below w.heap.size w w' := by
  go_enter Tryz.func46, Tryz.ntmps46
  go_wp2
  go_ret
  exact ⟨rfl, RwC.new w _ _, (Below.refl _ _).alloc (Nat.le_refl _) _⟩
theorem newEnd_any (w : World) : Calls Tryz.prog 47 #[] w fun e w' => e = .returned (.iface 82 (.pointer (some ⟨w.heap.size, 0, none⟩))) ∧ RwC w' w.heap.size [] 84 ∧ Below w.heap.size w w' := by
  go_enter Tryz.func47, Tryz.ntmps47
  go_wp2
  go_ret
  exact ⟨rfl, RwC.new w _ _, (Below.refl _ _).alloc (Nat.le_refl _) _⟩
theorem newExtras_any (w : World) : Calls Tryz.prog 48 #[] w fun e w' => e = .returned (.iface 85 (.pointer (some ⟨w.heap.size, 0, none⟩))) ∧ RwC w' w.heap.size [.slice none 0 0, .int .i64 0] 87 ∧ Below w.heap.size w w' := by
  go_enter Tryz.func48, Tryz.ntmps48
  go_wp2
  go_ret
  exact ⟨rfl, RwC.new w _ _, (Below.refl _ _).alloc (Nat.le_refl _) _⟩
theorem newCerts_any (w : World) : Calls Tryz.prog 49 #[] w fun e w' => e = .returned (.iface 88 (.pointer (some ⟨w.heap.size, 0, none⟩))) ∧ RwC w' w.heap.size [.slice none 0 0] 90 ∧ Below w.heap.size w w' := by
  go_enter Tryz.func49, Tryz.ntmps49
  go_wp2
  go_ret
  exact ⟨rfl, RwC.new w _ _, (Below.refl _ _).alloc (Nat.le_refl _) _⟩
theorem newProof_any (w : World) : Calls Tryz.prog 50 #[] w fun e w' => e = .returned (.iface 91 (.pointer (some ⟨w.heap.size, 0, none⟩))) ∧ RwC w' w.heap.size [.slice none 0 0] 93 ∧ Below w.heap.size w w' := by
  go_enter Tryz.func50, Tryz.ntmps50
  go_wp2
  go_ret
  exact ⟨rfl, RwC.new w _ _, (Below.refl _ _).alloc (Nat.le_refl _) _⟩
theorem newFinished_any (w : World) : Calls Tryz.prog 51 #[] w fun e w' => e = .returned (.iface 94 (.pointer (some ⟨w.heap.size, 0, none⟩))) ∧ RwC w' w.heap.size [.slice none 0 0] 95 ∧ Below w.heap.size w w' := by
  go_enter Tryz.func51, Tryz.ntmps51
  go_wp2
  go_ret
  exact ⟨rfl, RwC.new w _ _, (Below.refl _ _).alloc (Nat.le_refl _) _⟩
theorem newUpdate_any (w : World) : Calls Tryz.prog 52 #[] w fun e w' => e = .returned (.iface 96 (.pointer (some ⟨w.heap.size, 0, none⟩))) ∧ RwC w' w.heap.size [.int .i64 0] 98 ∧ Below w.heap.size w w' := by
  go_enter Tryz.func52, Tryz.ntmps52
  go_wp2
  go_ret
  exact ⟨rfl, RwC.new w _ _, (Below.refl _ _).alloc (Nat.le_refl _) _⟩
end Go.Proofs.YtdnkgmlidhepbaaGreat
namespace Go.Proofs.YtdnkgmlidhepbaaGreat
open Go Go.RowKit
section
variable (w : World) (k v ag ea : Int) (a2 a3 a5 a6 a9 a11 a12 : Option Addr) (n2 n3 n5 n6 n9 n11 n12 c2 c3 c5 c6 c9 c11 c12 : Nat) (ho : ByteArray) (rs : Bool)
end
end Go.Proofs.YtdnkgmlidhepbaaGreat
namespace Go.Proofs.YtdnkgmlidhepbaaGreat
open Go Go.RowKit
section
variable (w : World) (v ag ea : Int) (a2 a3 a5 a6 a9 a11 a12 : Option Addr) (n2 n3 n5 n6 n9 n11 n12 c2 c3 c5 c6 c9 c11 c12 : Nat) (ho : ByteArray) (rs : Bool)
end
end Go.Proofs.YtdnkgmlidhepbaaGreat
namespace Go.Proofs.YtdnkgmlidhepbaaGreat
open Go Go.RowKit
section
variable (w : World) (v ag ea : Int) (a2 a3 a5 a6 a9 a11 a12 : Option Addr) (n2 n3 n5 n6 n9 n11 n12 c2 c3 c5 c6 c9 c11 c12 : Nat) (ho : ByteArray) (rs : Bool)
end
end Go.Proofs.YtdnkgmlidhepbaaGreat
namespace Go.Proofs.YtdnkgmlidhepbaaGreat
open Go Go.RowKit
section
variable (w : World) (v ag ea : Int) (a2 a3 a5 a6 a9 a11 a12 : Option Addr) (n2 n3 n5 n6 n9 n11 n12 c2 c3 c5 c6 c9 c11 c12 : Nat) (ho : ByteArray) (rs : Bool)
end
end Go.Proofs.YtdnkgmlidhepbaaGreat
namespace Go.Proofs.YtdnkgmlidhepbaaGreat
open Go Go.RowKit
section
variable (w : World) (v ag ea : Int) (a2 a3 a5 a6 a9 a11 a12 : Option Addr) (n2 n3 n5 n6 n9 n11 n12 c2 c3 c5 c6 c9 c11 c12 : Nat) (ho : ByteArray) (rs : Bool)
end
end Go.Proofs.YtdnkgmlidhepbaaGreat
namespace Go.Proofs.YtdnkgmlidhepbaaGreat
open Go Go.RowKit
section
variable (w : World) (v ag ea : Int) (a2 a3 a5 a6 a9 a11 a12 : Option Addr) (n2 n3 n5 n6 n9 n11 n12 c2 c3 c5 c6 c9 c11 c12 : Nat) (ho : ByteArray) (rs : Bool)
end
end Go.Proofs.YtdnkgmlidhepbaaGreat
namespace Go.Proofs.YtdnkgmlidhepbaaGreat
open Go Go.RowKit
section
variable (w : World) (v ag ea : Int) (a2 a3 a5 a6 a9 a11 a12 : Option Addr) (n2 n3 n5 n6 n9 n11 n12 c2 c3 c5 c6 c9 c11 c12 : Nat) (ho : ByteArray) (rs : Bool)
end
end Go.Proofs.YtdnkgmlidhepbaaGreat
namespace Go.Proofs.YtdnkgmlidhepbaaGreat
open Go Go.RowKit
section
variable (w : World) (v ag ea : Int) (a2 a3 a5 a6 a9 a11 a12 : Option Addr) (n2 n3 n5 n6 n9 n11 n12 c2 c3 c5 c6 c9 c11 c12 : Nat) (ho : ByteArray) (rs : Bool)
end
end Go.Proofs.YtdnkgmlidhepbaaGreat
namespace Go.Proofs.YtdnkgmlidhepbaaGreat
open Go Go.RowKit
section
variable (w : World) (v ag ea : Int) (a2 a3 a5 a6 a9 a11 a12 : Option Addr) (n2 n3 n5 n6 n9 n11 n12 c2 c3 c5 c6 c9 c11 c12 : Nat) (ho : ByteArray) (rs : Bool)
end
end Go.Proofs.YtdnkgmlidhepbaaGreat
namespace Go.Proofs.YtdnkgmlidhepbaaGreat
open Go Go.RowKit
def mq0 : MQ := ⟨none, 0, 0, none, 0, 0, none, 0, 0, none, 0, 0, none, 0, 0, none, 0, 0, none, 0, 0, []⟩
def msg0 : Msg := ⟨0, 0, [], [], [], [], [], 0, 0, [], false, [], []⟩
theorem rd0 (w : World) (g : Nat) (a : Option Addr) (k : IntKind) : Rd w g a k [] := fun h => absurd h (by simp)
theorem rdT0 (w : World) (g : Nat) (a : Option Addr) : RdT w g a [] := fun h => absurd h (by simp)
theorem rdL0 (w : World) (g : Nat) (a : Option Addr) (ps : List Plb) : RdL w g a [] ps := ⟨fun h => absurd h (by simp), fun i hi => absurd hi (by simp)⟩
def answerM (m : Msg) : Msg := { msg0 with k := 2, v := m.v, r := m.r, s := m.s, rs := m.rs }
def ticketM (m : Msg) : Msg := { msg0 with k := 4, ag := m.ag, ea := m.ea, r := m.r, ti := m.ti }
def endM (_m : Msg) : Msg := { msg0 with k := 5 }
def extrasM (m : Msg) : Msg := { msg0 with k := 8, pr := m.pr, ea := m.ea }
def certsM (m : Msg) : Msg := { msg0 with k := 11, ce := m.ce }
def proofM (m : Msg) : Msg := { msg0 with k := 15, pf := m.pf }
def finishedM (m : Msg) : Msg := { msg0 with k := 20, pf := m.pf }
def updateM (m : Msg) : Msg := { msg0 with k := 24, ea := m.ea }
end Go.Proofs.YtdnkgmlidhepbaaGreat
namespace Go.Proofs.YtdnkgmlidhepbaaGreat
open Go Go.RowKit
section
variable (w : World) (v ag ea : Int) (a2 a3 a5 a6 a9 a11 a12 : Option Addr) (n2 n3 n5 n6 n9 n11 n12 c2 c3 c5 c6 c9 c11 c12 : Nat) (ho : ByteArray) (rs : Bool)
end
end Go.Proofs.YtdnkgmlidhepbaaGreat
