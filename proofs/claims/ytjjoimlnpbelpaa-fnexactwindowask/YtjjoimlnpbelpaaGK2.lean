import Derived.Test.YtjjoimlnpbelpaaGK1
import Derived.Deep.MidRow
import Derived.Deep.Cut
import Derived.Test.YtjjoimlnpbelpaaRows
import Derived.WalkSpells
import Derived.Deep.QuietTactic
import Derived.BigQuiet

/-
  Blocks of just these cells; a struct copied field by field. No program in sight.
-/
namespace Go.Proofs.Ytjjoimlnpbelpaa
open Go Go.RowKit

/-- A block of just these cells. -/
def RwC (w : World) (q : Nat) (cs : List Value) (t : TypeId) : Prop := w.heap[q]? = some (.cells cs.toArray t (0, 0))
theorem RwC.new (w : World) (cs : List Value) (t : TypeId) : RwC (w.alloc (.cells cs.toArray t)) w.heap.size cs t := heap_alloc_new w _
theorem RwC.lt {w : World} {q : Nat} {cs : List Value} {t : TypeId} (h : RwC w q cs t) : q < w.heap.size := (Array.getElem?_eq_some_iff.1 h).1
theorem RwC.up {w w' : World} {q : Nat} {cs : List Value} {t : TypeId} (h : RwC w q cs t) (n : Below w.heap.size w w') : RwC w' q cs t := (n.block q h.lt).trans h
theorem RwC.cell {w : World} {q : Nat} {cs : List Value} {t : TypeId} (h : RwC w q cs t) (i : Nat) : w.cell? ⟨q, i, none⟩ = cs[i]? := by
  rw [cell_of_row w q i _ _ (0, 0) h]
  simp
theorem RwC.free {w : World} {q : Nat} {cs : List Value} {t : TypeId} (h : RwC w q cs t) (i : Nat) : w.frozen? ⟨q, i, none⟩ = false := frozen_of_row w q i _ t h
theorem RwC.set {w : World} {q : Nat} {cs : List Value} {t : TypeId} (h : RwC w q cs t) (i : Nat) (v : Value) : RwC (w.setCell ⟨q, i, none⟩ v) q (cs.set i v) t := by
  show (w.heap.modify q _)[q]? = _
  rw [Array.getElem?_modify, if_pos rfl, show w.heap[q]? = _ from h]
  simp
theorem RwC.push {w : World} {q : Nat} {cs : List Value} {t : TypeId} (h : RwC w q cs t) (o : Obj) : RwC (w.alloc o) q cs t := h.up ((Below.refl _ _).alloc (Nat.le_refl _) o)
theorem RwC.drew1 {w : World} {q : Nat} {cs : List Value} {t : TypeId} (h : RwC w q cs t) : RwC w.drew q cs t := h
theorem RwC.drews {w : World} {q : Nat} {cs : List Value} {t : TypeId} (h : RwC w q cs t) (n : Nat) : RwC (w.drewN n) q cs t := h
/-- Where a copy of a struct stands: its source, the place of its answer, and the copy so far. -/
structure TMs (w W : World) (tL tM : TypeId) (src zer cs : List Value) : Prop where
  S : RwC W w.heap.size src tL
  U : RwC W (w.heap.size + 1) zer tM
  T : RwC W (w.heap.size + 1 + 1) cs tM
  N : Below w.heap.size w W
theorem TMs.new (w : World) (tL tM : TypeId) (src zer : List Value) : TMs w (((w.alloc (.cells src.toArray tL)).alloc (.cells zer.toArray tM)).alloc (.cells zer.toArray tM)) tL tM src zer zer := by
  have z1 : (w.alloc (.cells src.toArray tL)).heap.size = w.heap.size + 1 := by simp
  have n1 : Below w.heap.size w (w.alloc (.cells src.toArray tL)) := (Below.refl _ _).alloc (Nat.le_refl _) _
  have s1 := RwC.new w src tL
  generalize w.alloc (.cells src.toArray tL) = a at *
  have z2 : (a.alloc (.cells zer.toArray tM)).heap.size = a.heap.size + 1 := by simp
  have n2 : Below a.heap.size a (a.alloc (.cells zer.toArray tM)) := (Below.refl _ _).alloc (Nat.le_refl _) _
  have s2 := RwC.new a zer tM
  generalize a.alloc (.cells zer.toArray tM) = b at *
  have n3 : Below b.heap.size b (b.alloc (.cells zer.toArray tM)) := (Below.refl _ _).alloc (Nat.le_refl _) _
  have s3 := RwC.new b zer tM
  rw [z2, z1] at s3
  rw [z1] at s2
  exact ⟨(s1.up n2).up n3, s2.up n3, s3, nxt (nxt n1 n2) n3⟩
theorem TMs.up {w W W' : World} {tL tM : TypeId} {src zer cs : List Value} (h : TMs w W tL tM src zer cs) (m : Below W.heap.size W W') : TMs w W' tL tM src zer cs := ⟨h.S.up m, h.U.up m, h.T.up m, nxt h.N m⟩
theorem RwC.onl {w w' : World} {q r : Nat} {cs : List Value} {t : TypeId} (h : RwC w q cs t) (O : Only r w w') (hne : q ≠ r) : RwC w' q cs t := (O.block q hne).trans h
theorem TMs.set {w W : World} {tL tM : TypeId} {src zer cs : List Value} (h : TMs w W tL tM src zer cs) (i : Nat) (v : Value) : TMs w (W.setCell ⟨w.heap.size + 1 + 1, i, none⟩ v) tL tM src zer (cs.set i v) := by
  have O := Only.setCell W (w.heap.size + 1 + 1) i v
  exact ⟨h.S.onl O (by omega), h.U.onl O (by omega), h.T.set i v, h.N.trans (O.below (by omega))⟩
theorem only_setG (w : World) (q : Nat) : ∀ (vs : List Value) (o : Nat), Only q w (w.setCells q o vs)
  | [], _ => Only.refl _ _
  | v :: vs, o => (Only.setCell w q o v).trans (only_setG _ q vs (o + 1))
theorem RwC.thereG {w : World} {q : Nat} {cs : List Value} {t : TypeId} (h : RwC w q cs t) : w.there q 0 cs.length := fun j hj => by
  rw [Nat.zero_add, h.cell j, h.free j]
  exact ⟨by simp [hj], rfl⟩
theorem results_cellG {P : Program} {fn : Func} {p : Tmp} {ty : TypeId} (h : fn.results = #[.cell p ty]) (tmps : Array Value) (w : World) (g : Nat) (cs : List Value) (d : TypeDesc)
    (hp : tmps.getD p undef = .pointer (some ⟨g, 0, none⟩)) (hc : w.rangeAt g 0 cs) (hu : P.underlying ty = some d) (hd : d.isRow = true) (hi : (P.info? ty).map (·.size) = some cs.length) :
    (results fn tmps).run P w = .ok (.agg cs.toArray) w := by
  have hp' : tmps[p]?.getD undef = .pointer (some ⟨g, 0, none⟩) := by simpa using hp
  simp [results, h, hp', asAddr, run_loadVar_mid w g 0 ty cs d hc hu hd hi]
theorem RwC.rangeG {w : World} {q : Nat} {cs : List Value} {t : TypeId} (h : RwC w q cs t) : w.rangeAt q 0 cs := fun j v hj => by
  rw [Nat.zero_add]
  exact (h.cell j).trans hj
end Go.Proofs.Ytjjoimlnpbelpaa

/-
  Worlds that differ in what was made and in some blocks; cells of a struct's block. No program in sight.
-/
namespace Go.Proofs.Ytjjoimlnpbelpaa
open Go Go.RowKit

/-- Of what was there the blocks S alone have changed. -/
structure Tch (S : List Nat) (w w' : World) : Prop where
  os : w'.os = w.os
  tape : w'.tape = w.tape
  output : w'.output = w.output
  size : w.heap.size ≤ w'.heap.size
  block : ∀ b, b < w.heap.size → b ∉ S → w'.heap[b]? = w.heap[b]?
theorem Tch.of_below {w w' : World} {S : List Nat} (h : Below w.heap.size w w') : Tch S w w' := ⟨h.os, h.tape, h.output, h.size, fun b hb _ => h.block b hb⟩
theorem Tch.of_only {w w' : World} {g : Nat} (h : Only g w w') : Tch [g] w w' := ⟨h.os, h.tape, h.output, Nat.le_of_eq h.size.symm, fun b _ hn => h.block b (by simpa using hn)⟩
theorem Tch.trans {a b c : World} {S T : List Nat} (h : Tch S a b) (k : Tch T b c) : Tch (S ++ T) a c :=
  ⟨k.os.trans h.os, k.tape.trans h.tape, k.output.trans h.output, Nat.le_trans h.size k.size, fun x hx hn => (k.block x (Nat.lt_of_lt_of_le hx h.size) (fun m => hn (List.mem_append_right _ m))).trans (h.block x hx (fun m => hn (List.mem_append_left _ m)))⟩
theorem Tch.below {w w' : World} {S : List Nat} {B : Nat} (h : Tch S w w') (hB : B ≤ w.heap.size) (hS : ∀ s ∈ S, B ≤ s) : Below B w w' := ⟨h.os, h.tape, h.output, h.size, fun k hk => h.block k (by omega) (fun m => by have := hS k m; omega)⟩
theorem Tch.mono {w w' : World} {S T : List Nat} (h : Tch S w w') (hs : ∀ s ∈ S, s ∈ T) : Tch T w w' := ⟨h.os, h.tape, h.output, h.size, fun b hb hn => h.block b hb (fun m => hn (hs b m))⟩
theorem Own.tch {w w' : World} {S : List Nat} {g : Nat} {a : Option Addr} {k : IntKind} {xs : List Int} (h : Own w g a k xs) (t : Tch S w w') (hne : 0 < xs.length → g ∉ S) : Own w' g a k xs := by
  by_cases h0 : 0 < xs.length
  · exact h.of_block (t.block g (h.rd.lt h0) (hne h0))
  · exact fun q => absurd q h0
theorem Blk.tch {w w' : World} {S : List Nat} {g : Nat} {k : IntKind} {ys : List Int} (h : Blk w g k ys) (t : Tch S w w') (hne : g ∉ S) : Blk w' g k ys := h.of_block (t.block g h.lt hne)
theorem RwC.tch {w w' : World} {S : List Nat} {q : Nat} {cs : List Value} {t : TypeId} (h : RwC w q cs t) (m : Tch S w w') (hne : q ∉ S) : RwC w' q cs t := (m.block q h.lt hne).trans h
theorem RwC.c0 {w : World} {q : Nat} {x : Value} {cs : List Value} {t : TypeId} (h : RwC w q (x :: cs) t) : w.cell? ⟨q, 0, none⟩ = some x := h.cell 0
theorem RwC.c1 {w : World} {q : Nat} {x y : Value} {cs : List Value} {t : TypeId} (h : RwC w q (x :: y :: cs) t) : w.cell? ⟨q, 1, none⟩ = some y := h.cell 1
theorem RwC.c2 {w : World} {q : Nat} {x y z : Value} {cs : List Value} {t : TypeId} (h : RwC w q (x :: y :: z :: cs) t) : w.cell? ⟨q, 2, none⟩ = some z := h.cell 2
end Go.Proofs.Ytjjoimlnpbelpaa

/-
  The contracts of the laws' own helpers on bytes.
-/
namespace Go.Proofs.Ytjjoimlnpbelpaa
open Go.RowKit

theorem Try.info5 : (Try.prog.info? 5).map (fun i => (i.zero, i.size, i.bytes)) = some (some (.int .u8 0), 1, 1) := by kernel_rfl

/-- The first k places of ys are those of xs. -/
def CopyTo (xs ys : List Int) (k : Nat) : Prop := ys.length = xs.length ∧ ∀ j, j < k → ys.getD j 0 = xs.getD j 0
theorem CopyTo.zero (xs : List Int) : CopyTo xs (List.replicate xs.length 0) 0 := ⟨by simp, fun j h => absurd h (by omega)⟩
theorem CopyTo.step {xs ys : List Int} {k : Nat} (h : CopyTo xs ys k) (hk : k < xs.length) : CopyTo xs (ys.set k (xs.getD k 0)) (k + 1) := by
  refine ⟨by simpa using h.1, fun j hj => ?_⟩
  by_cases e : k = j
  · subst e
    rw [getD_set_self _ _ _ (by rw [h.1]; exact hk)]
  · rw [getD_set_ne _ _ _ _ e]
    exact h.2 j (by omega)
theorem CopyTo.all {xs ys : List Int} (h : CopyTo xs ys xs.length) : ys = xs := eq_of_getD h.1 (fun i hi => h.2 i (by rw [← h.1]; exact hi))

set_option maxRecDepth 100000 in
set_option maxHeartbeats 400000 in
theorem toByteS_any (w : World) (g : Nat) (a : Option Addr) (cap : Nat) (xs : List Int) (hr : Rd w g a .u8 xs) (hn : xs.length ≤ 1048576) :
    Calls Try.prog 7 #[.slice a xs.length cap] w fun e w' => e = .returned (.slice (some ⟨w.heap.size, 0, none⟩) xs.length xs.length) ∧ Blk w' w.heap.size .u8 xs ∧ Below w.heap.size w w' := by
  obtain ⟨i0, hi, hz0, hz1, hz2⟩ := info_parts Try.info5
  go_enter Try.func7, Try.ntmps7
  go_wp2_with (at_make; refine wpList_make_full _ rfl _ _ 25 rfl w.heap.size 5 i0 (.int .u8 0) 1 Try.underlying25 hi hz0 hz1 .i64 .i64 _ _ xs.length rfl rfl rfl rfl (by rw [hz2]; omega) (by unfold maxLen; omega) (Nat.le_refl _) ?_; intro w1 hown hgrow)
  have hB0 := Blk.of_made hown
  have hN0 : Below w.heap.size w w1 := (Below.refl _ _).grown hgrow (Nat.le_refl _) (by simp)
  clear hown hgrow
  go_loopw [4] (fun i wr => ∃ (k : Nat) (ys : List Int), k ≤ xs.length ∧ i = .int .i64 k ∧ CopyTo xs ys k ∧ Blk wr w.heap.size .u8 ys ∧ Below w.heap.size w wr) (fun i _ => xs.length - (intOf i).toNat)
  case atStart => exact ⟨0, _, Nat.zero_le _, rfl, CopyTo.zero xs, hB0, hN0⟩
  case round =>
    obtain ⟨k, ys, hk, rfl, hcp, hB, hN⟩ := hrel
    by_cases hlt : k < xs.length
    · obtain ⟨off, rfl, hc⟩ := hr (by omega)
      have hg := hr.lt (by omega)
      have R : CopyTo xs (ys.set k (xs.getD k 0)) (k + 1) := hcp.step hlt
      have hcx : wr.cell? ⟨g, off + k, none⟩ = some (.int .u8 (xs.getD k 0)) := (hN.cell (p := ⟨g, off + k, none⟩) hg).trans (hc k hlt)
      have hcy : wr.cell? ⟨w.heap.size, k, none⟩ = some (.int .u8 (ys.getD k 0)) := hB.cell (by rw [hcp.1]; exact hlt)
      have hfy := hB.free k
      have hB' := hB.store k (xs.getD k 0)
      have hN' : Below w.heap.size w (wr.setCell ⟨w.heap.size, k, none⟩ (.int .u8 (xs.getD k 0))) := hN.setCell (Nat.le_refl _) _
      generalize xs.getD k 0 = x at *
      clear hB hN hc hcp
      go_wp2
      go_roundw
      case rel => exact ⟨k + 1, _, by omega, by go_num, R, hB', hN'⟩
      case measure => simp [intOf]; omega
    · obtain rfl : k = xs.length := by omega
      go_wp2
      go_ret
      refine ⟨rfl, ?_, hN⟩
      rw [← hcp.all]
      exact hB

set_option maxHeartbeats 400000 in
theorem eqByteS_same (w : World) (g g' : Nat) (a b : Option Addr) (ca cb : Nat) (xs : List Int) (ha : Rd w g a .u8 xs) (hb : Rd w g' b .u8 xs) (hn : xs.length ≤ 1048576) :
    Calls Try.prog 11 #[.slice a xs.length ca, .slice b xs.length cb] w fun e w' => e = .returned (.bool true) ∧ Below w.heap.size w w' := by
  go_enter Try.func11, Try.ntmps11
  go_wp2
  go_loopw [5] (fun i wr => ∃ (k n : Nat), k ≤ xs.length ∧ i = .int .i64 k ∧ wr = w.drewN n) (fun i _ => xs.length - (intOf i).toNat)
  case atStart => exact ⟨0, 0, Nat.zero_le _, rfl, rfl⟩
  case round =>
    obtain ⟨k, n, hk, rfl, rfl⟩ := hrel
    by_cases hlt : k < xs.length
    · obtain ⟨off, rfl, hc⟩ := ha (by omega)
      obtain ⟨off', rfl, hc'⟩ := hb (by omega)
      have h1 := hc k hlt
      have h2 := hc' k hlt
      have hlt' : (k : Int) < (xs.length : Int) := by omega
      generalize xs.getD k 0 = x at *
      clear hc hc'
      go_wp2
      go_quiet (fail)
      go_wp2
      go_roundw
      case rel => exact ⟨k + 1, _, by omega, by go_num, rfl⟩
      case measure => simp [intOf]; omega
    · obtain rfl : k = xs.length := by omega
      go_wp2
      go_ret
      exact ⟨rfl, below_drewN (Below.refl _ _) _⟩

/-- What is marked: k, k + 1, .. as bytes. -/
def marks (k : Int) (n : Nat) : List Int := (List.range n).map fun i : Nat => (k + (i : Int)) % 256
theorem marks_len (k : Int) (n : Nat) : (marks k n).length = n := by simp [marks]
theorem marks_get (k : Int) (n i : Nat) (h : i < n) : (marks k n).getD i 0 = (k + (i : Int)) % 256 := by simp [marks, h]

/-- The first j places of ys are marked. -/
def MarkTo (k : Int) (ys : List Int) (n j : Nat) : Prop := ys.length = n ∧ ∀ i, i < j → ys.getD i 0 = (k + (i : Int)) % 256
theorem MarkTo.step {k : Int} {ys : List Int} {n j : Nat} (h : MarkTo k ys n j) (hj : j < n) : MarkTo k (ys.set j ((k + (j : Int)) % 256)) n (j + 1) := by
  refine ⟨by simpa using h.1, fun i hi => ?_⟩
  by_cases e : j = i
  · subst e
    rw [getD_set_self _ _ _ (by rw [h.1]; exact hj)]
  · rw [getD_set_ne _ _ _ _ e]
    exact h.2 i (by omega)
theorem MarkTo.all {k : Int} {ys : List Int} {n : Nat} (h : MarkTo k ys n n) : ys = marks k n :=
  eq_of_getD (by rw [h.1, marks_len]) (fun i hi => by rw [h.1] at hi; rw [h.2 i hi, marks_get k n i hi])

set_option maxHeartbeats 400000 in
theorem markByteS_any (w : World) (g : Nat) (a : Option Addr) (ca : Nat) (xs : List Int) (k : Int) (ha : Own w g a .u8 xs) (hn : xs.length ≤ 1048576) (k0 : 0 ≤ k) (k1 : k ≤ 1099511627776) :
    Calls Try.prog 13 #[.slice a xs.length ca, .int .i64 k] w fun e w' => e = .returned (.int .i64 (k + (xs.length : Int))) ∧ Own w' g a .u8 (marks k xs.length) ∧ Only g w w' := by
  go_enter Try.func13, Try.ntmps13
  go_wp2
  go_loopw [1, 5] (fun q i wr => ∃ (j : Nat) (ys : List Int), j ≤ xs.length ∧ i = .int .i64 j ∧ q = .int .i64 (k + (j : Int)) ∧ MarkTo k ys xs.length j ∧ Own wr g a .u8 ys ∧ Only g w wr) (fun _ i _ => xs.length - (intOf i).toNat)
  case atStart => exact ⟨0, xs, Nat.zero_le _, rfl, by go_num, ⟨rfl, fun i h => absurd h (by omega)⟩, ha, Only.refl _ _⟩
  case round =>
    obtain ⟨j, ys, hj, rfl, rfl, hm, hB, hN⟩ := hrel
    by_cases hlt : j < xs.length
    · have hl : j < ys.length := by rw [hm.1]; exact hlt
      obtain ⟨off, rfl, hc⟩ := hB (by omega)
      have R := hm.step hlt
      obtain ⟨h1, h2⟩ := hc j hl
      have hB' := hB.store j hl ((k + (j : Int)) % 256)
      have hN' := hN.trans (Only.setCell wr g (off + j) (.int .u8 ((k + (j : Int)) % 256)))
      clear hB hN hc hm ha
      go_wp2
      go_roundw
      case rel => exact ⟨j + 1, _, by omega, by go_num, by go_num, R, hB', hN'⟩
      case measure => simp [intOf]; omega
    · obtain rfl : j = xs.length := by omega
      go_wp2
      go_ret
      refine ⟨rfl, ?_, hN⟩
      rw [← hm.all]
      exact hB

set_option maxHeartbeats 400000 in
theorem heldByteS_any (w : World) (g : Nat) (a : Option Addr) (ca n : Nat) (k : Int) (ha : Rd w g a .u8 (marks k n)) (hn : n ≤ 1048576) (k0 : 0 ≤ k) (k1 : k ≤ 1099511627776) :
    Calls Try.prog 48 #[.slice a n ca, .int .i64 k] w fun e w' => e = .returned (.int .i64 (k + (n : Int))) ∧ w' = w := by
  go_enter Try.func48, Try.ntmps48
  go_wp2
  go_loop [1, 5] (fun q i => ∃ (j : Nat), j ≤ n ∧ i = .int .i64 j ∧ q = .int .i64 (k + (j : Int))) (fun _ i => n - (intOf i).toNat)
  case atStart => exact ⟨0, Nat.zero_le _, rfl, by go_num⟩
  case round =>
    obtain ⟨j, hj, rfl, rfl⟩ := hrel
    by_cases hlt : j < n
    · obtain ⟨off, rfl, hc⟩ := ha (by rw [marks_len]; omega)
      have h1 := hc j (by rw [marks_len]; exact hlt)
      rw [marks_get k n j hlt] at h1
      clear hc
      go_wp2
      go_round
      case rel => exact ⟨j + 1, by omega, by go_num, by go_num⟩
      case measure => simp [intOf]; omega
    · obtain rfl : j = n := by omega
      go_wp2
      go_ret
      exact ⟨rfl, rfl⟩
end Go.Proofs.Ytjjoimlnpbelpaa

/-
  The laws' count of a list's bytes.
-/
namespace Go.Proofs.Ytjjoimlnpbelpaa
open Go Go.RowKit

theorem szByteR (w : World) (a : Option Addr) (n c : Nat) (left : Int) (hn : n < 9223372036854775808) (hl : 0 ≤ left) (hm : left ≤ 1048576) :
    Calls Try.prog 42 #[.slice a n c, .int .i64 left] w fun e w' => e = .returned (.int .i64 (if left < (n : Int) then -1 else left - (n : Int))) ∧ w' = w := by
  by_cases h : left < (n : Int)
  · have t1 : decide (left - (n : Int) < 0) = true := by simp; omega
    rw [if_pos h]
    go_enter Try.func42, Try.ntmps42
    go_wp2
    go_ret
    exact ⟨rfl, rfl⟩
  · have t1 : decide (left - (n : Int) < 0) = false := by simp; omega
    rw [if_neg h]
    go_enter Try.func42, Try.ntmps42
    go_wp2
    go_ret
    exact ⟨rfl, rfl⟩
end Go.Proofs.Ytjjoimlnpbelpaa
