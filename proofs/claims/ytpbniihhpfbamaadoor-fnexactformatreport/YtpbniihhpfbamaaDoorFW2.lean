import Derived.Test.YtpbniihhpfbamaaDoorRows
import Derived.Test.YtpbniihhpfbamaaDoorFW1
import Derived.WalkSpells
import Derived.Deep.QuietTactic
import Derived.BigQuiet
import Derived.Laws.BytesString
import Derived.Deep.MidRow
import Derived.Laws.AppendOwnNone
import Derived.Lib.AppendZeros
import Derived.Deep.RegionHeld3
import Derived.Deep.Cut
import Derived.WalkMore

/-
  The contracts of the laws' own helpers on bytes.
-/
namespace Go.Proofs.YtpbniihhpfbamaaDoor
set_option maxRecDepth 100000
open Go.RowKit

theorem Tryd.info5 : (Tryd.prog.info? 5).map (fun i => (i.zero, i.size, i.bytes)) = some (some (.int .u8 0), 1, 1) := by kernel_rfl

/-- The first k places of ys are those of xs. -/
def CopyTo (xs ys : List Int) (k : Nat) : Prop := ys.length = xs.length ∧ ∀ j, j < k → ys.getD j 0 = xs.getD j 0
theorem CopyTo.zero (xs : List Int) : CopyTo xs (List.replicate xs.length 0) 0 := ⟨by simp, fun j h => absurd h (by omega)⟩
theorem CopyTo.step {xs ys : List Int} {k : Nat} (h : CopyTo xs ys k) (hk : k < xs.length) : CopyTo xs (ys.set k (xs.getD k 0)) (k + 1) := by
  refine ⟨by simpa using h.1, fun j hj => ?_⟩
  by_cases e : k = j
  · subst e
    rw [getD_set_self _ _ _ (by rw [h.1]; exact hk)]
  · rw [getD_set_ne _ _ _ _ e]
    exact h.2 j (by omega)
theorem CopyTo.all {xs ys : List Int} (h : CopyTo xs ys xs.length) : ys = xs := eq_of_getD h.1 (fun i hi => h.2 i (by rw [← h.1]; exact hi))

set_option maxRecDepth 100000 in
set_option maxHeartbeats 400000 in
theorem toByteS_any (w : World) (g : Nat) (a : Option Addr) (cap : Nat) (xs : List Int) (hr : Rd w g a .u8 xs) (hn : xs.length ≤ 1048576) :
    Calls Tryd.prog 34 #[.slice a xs.length cap] w fun e w' => e = .returned (.slice (some ⟨w.heap.size, 0, none⟩) xs.length xs.length) ∧ Blk w' w.heap.size .u8 xs ∧ Below w.heap.size w w' := by
  obtain ⟨i0, hi, hz0, hz1, hz2⟩ := info_parts Tryd.info5
  go_enter Tryd.func34, Tryd.ntmps34
  go_wp2_with (at_make; refine wpList_make_full _ rfl _ _ 23 rfl w.heap.size 5 i0 (.int .u8 0) 1 Tryd.underlying23 hi hz0 hz1 .i64 .i64 _ _ xs.length rfl rfl rfl rfl (by rw [hz2]; omega) (by unfold maxLen; omega) (Nat.le_refl _) ?_; intro w1 hown hgrow)
  have hB0 := Blk.of_made hown
  have hN0 : Below w.heap.size w w1 := (Below.refl _ _).grown hgrow (Nat.le_refl _) (by simp)
  clear hown hgrow
  go_loopw [4] (fun i wr => ∃ (k : Nat) (ys : List Int), k ≤ xs.length ∧ i = .int .i64 k ∧ CopyTo xs ys k ∧ Blk wr w.heap.size .u8 ys ∧ Below w.heap.size w wr) (fun i _ => xs.length - (intOf i).toNat)
  case atStart => exact ⟨0, _, Nat.zero_le _, rfl, CopyTo.zero xs, hB0, hN0⟩
  case round =>
    obtain ⟨k, ys, hk, rfl, hcp, hB, hN⟩ := hrel
    by_cases hlt : k < xs.length
    · obtain ⟨off, rfl, hc⟩ := hr (by omega)
      have hg := hr.lt (by omega)
      have R : CopyTo xs (ys.set k (xs.getD k 0)) (k + 1) := hcp.step hlt
      have hcx : wr.cell? ⟨g, off + k, none⟩ = some (.int .u8 (xs.getD k 0)) := (hN.cell (p := ⟨g, off + k, none⟩) hg).trans (hc k hlt)
      have hcy : wr.cell? ⟨w.heap.size, k, none⟩ = some (.int .u8 (ys.getD k 0)) := hB.cell (by rw [hcp.1]; exact hlt)
      have hfy := hB.free k
      have hB' := hB.store k (xs.getD k 0)
      have hN' : Below w.heap.size w (wr.setCell ⟨w.heap.size, k, none⟩ (.int .u8 (xs.getD k 0))) := hN.setCell (Nat.le_refl _) _
      generalize xs.getD k 0 = x at *
      clear hB hN hc hcp
      go_wp2
      go_roundw
      case rel => exact ⟨k + 1, _, by omega, by go_num, R, hB', hN'⟩
      case measure => simp [intOf]; omega
    · obtain rfl : k = xs.length := by omega
      go_wp2
      go_ret
      refine ⟨rfl, ?_, hN⟩
      rw [← hcp.all]
      exact hB

set_option maxHeartbeats 400000 in
theorem eqByteS_same (w : World) (g g' : Nat) (a b : Option Addr) (ca cb : Nat) (xs : List Int) (ha : Rd w g a .u8 xs) (hb : Rd w g' b .u8 xs) (hn : xs.length ≤ 1048576) :
    Calls Tryd.prog 48 #[.slice a xs.length ca, .slice b xs.length cb] w fun e w' => e = .returned (.bool true) ∧ Below w.heap.size w w' := by
  go_enter Tryd.func48, Tryd.ntmps48
  go_wp2
  go_loopw [5] (fun i wr => ∃ (k n : Nat), k ≤ xs.length ∧ i = .int .i64 k ∧ wr = w.drewN n) (fun i _ => xs.length - (intOf i).toNat)
  case atStart => exact ⟨0, 0, Nat.zero_le _, rfl, rfl⟩
  case round =>
    obtain ⟨k, n, hk, rfl, rfl⟩ := hrel
    by_cases hlt : k < xs.length
    · obtain ⟨off, rfl, hc⟩ := ha (by omega)
      obtain ⟨off', rfl, hc'⟩ := hb (by omega)
      have h1 := hc k hlt
      have h2 := hc' k hlt
      have hlt' : (k : Int) < (xs.length : Int) := by omega
      generalize xs.getD k 0 = x at *
      clear hc hc'
      go_wp2
      go_quiet (fail)
      go_wp2
      go_roundw
      case rel => exact ⟨k + 1, _, by omega, by go_num, rfl⟩
      case measure => simp [intOf]; omega
    · obtain rfl : k = xs.length := by omega
      go_wp2
      go_ret
      exact ⟨rfl, below_drewN (Below.refl _ _) _⟩

/-- What is marked: k, k + 1, .. as bytes. -/
def marks (k : Int) (n : Nat) : List Int := (List.range n).map fun i : Nat => (k + (i : Int)) % 256
theorem marks_len (k : Int) (n : Nat) : (marks k n).length = n := by simp [marks]
theorem marks_get (k : Int) (n i : Nat) (h : i < n) : (marks k n).getD i 0 = (k + (i : Int)) % 256 := by simp [marks, h]

/-- The first j places of ys are marked. -/
def MarkTo (k : Int) (ys : List Int) (n j : Nat) : Prop := ys.length = n ∧ ∀ i, i < j → ys.getD i 0 = (k + (i : Int)) % 256
theorem MarkTo.step {k : Int} {ys : List Int} {n j : Nat} (h : MarkTo k ys n j) (hj : j < n) : MarkTo k (ys.set j ((k + (j : Int)) % 256)) n (j + 1) := by
  refine ⟨by simpa using h.1, fun i hi => ?_⟩
  by_cases e : j = i
  · subst e
    rw [getD_set_self _ _ _ (by rw [h.1]; exact hj)]
  · rw [getD_set_ne _ _ _ _ e]
    exact h.2 i (by omega)
theorem MarkTo.all {k : Int} {ys : List Int} {n : Nat} (h : MarkTo k ys n n) : ys = marks k n :=
  eq_of_getD (by rw [h.1, marks_len]) (fun i hi => by rw [h.1] at hi; rw [h.2 i hi, marks_get k n i hi])

end Go.Proofs.YtpbniihhpfbamaaDoor

/-
  What is drawn: the source, its answers, bytes; the laws' own small helpers (Dr without the field's texts).
-/
namespace Go.Proofs.YtpbniihhpfbamaaDoor
set_option maxRecDepth 100000
open Go.RowKit

/-- Of what was there nothing but block g has turned. -/
structure But (g : Nat) (w w' : World) : Prop where
  os : w'.os = w.os
  tape : w'.tape = w.tape
  output : w'.output = w.output
  size : w.heap.size ≤ w'.heap.size
  block : ∀ k, k < w.heap.size → k ≠ g → w'.heap[k]? = w.heap[k]?

theorem But.of {g : Nat} {a b c : World} (h : Below a.heap.size a b) (k : Only g b c) : But g a c :=
  ⟨k.os.trans h.os, k.tape.trans h.tape, k.output.trans h.output, by rw [k.size]; exact h.size, fun i hi hne => (k.block i hne).trans (h.block i hi)⟩

theorem But.below {g B : Nat} {w w' : World} (h : But g w w') (hB : B ≤ g) (hs : B ≤ w.heap.size) : Below B w w' := ⟨h.os, h.tape, h.output, h.size, fun k hk => h.block k (by omega) (by omega)⟩

theorem Own.but {w w' : World} {g g' : Nat} {a : Option Addr} {k : IntKind} {xs : List Int} (h : Own w g a k xs) (ho : But g' w w') (hne : 0 < xs.length → g ≠ g') : Own w' g a k xs := by
  by_cases h0 : 0 < xs.length
  · exact h.of_block (ho.block g (h.rd.lt h0) (hne h0))
  · exact fun h1 => absurd h1 h0

/-- The text of bytes. -/
def str (xs : List Int) : ByteArray := xs.foldl (fun r n => r.push (UInt8.ofNat n.toNat)) ByteArray.empty

theorem conv_run (w : World) (g : Nat) (a : Option Addr) (c : Nat) (xs : List Int) (hr : Rd w g a .u8 xs) : (convert 23 9 (.slice a xs.length c)).run Tryd.prog w = .ok (.string (str xs)) w := by
  rw [run_convert_bytes_string w 23 9 5 a xs.length c Tryd.underlying23 Tryd.underlying5 Tryd.underlying9]
  cases a with
  | none =>
    obtain rfl : xs = [] := by
      by_cases h0 : 0 < xs.length
      · obtain ⟨off, h, _⟩ := hr h0
        simp at h
      · exact List.eq_nil_of_length_eq_zero (by omega)
    simp [Conv.bytesToString, str]
  | some ad =>
    have hl := run_loadCells_list (P := Tryd.prog) w ad (xs.map (Value.int .u8)) (fun j v hj => by
      have hjl : j < xs.length := by
        have := (List.getElem?_eq_some_iff.1 hj).1
        simpa using this
      obtain ⟨off, ha, hcc⟩ := hr (by omega)
      simp only [Option.some.injEq] at ha
      subst ha
      rw [add_mid, hcc j hjl]
      simpa [hjl] using hj)
    rw [List.length_map] at hl
    exact run_bytesToString w ad xs.length c xs hl

/-- The source of what is drawn: its code, and how often it was asked. -/
structure Src (w : World) (s : Nat) (a : Option Addr) (n c : Nat) (at_ : Int) : Prop where
  code : w.cell? ⟨s, 0, none⟩ = some (.slice a n c)
  at_ : w.cell? ⟨s, 1, none⟩ = some (.int .i64 at_)
  free : w.frozen? ⟨s, 1, none⟩ = false

theorem Src.lt {w : World} {s : Nat} {a : Option Addr} {n c : Nat} {t : Int} (h : Src w s a n c t) : s < w.heap.size := block_lt_of_cell h.code

theorem Src.of_block {w w' : World} {s : Nat} {a : Option Addr} {n c : Nat} {t : Int} (h : Src w s a n c t) (hb : w'.heap[s]? = w.heap[s]?) : Src w' s a n c t :=
  ⟨(World.cell?_of_block (a := ⟨s, 0, none⟩) hb).trans h.code, (World.cell?_of_block (a := ⟨s, 1, none⟩) hb).trans h.at_, (World.frozen?_of_block (a := ⟨s, 1, none⟩) hb).trans h.free⟩

theorem Src.up {w w' : World} {s : Nat} {a : Option Addr} {n c : Nat} {t : Int} (h : Src w s a n c t) (hb : Below w.heap.size w w') : Src w' s a n c t := h.of_block (hb.block s h.lt)

theorem Src.step {w : World} {s : Nat} {a : Option Addr} {n c : Nat} {t : Int} (h : Src w s a n c t) (u : Int) (m : Nat) : Src ((w.setCell ⟨s, 1, none⟩ (.int .i64 u)).drewN m) s a n c u := by
  refine ⟨?_, ?_, ?_⟩
  · rw [World.cell?_drewN, World.cell?_setCell_other (h := by simp)]; exact h.code
  · rw [World.cell?_drewN, World.cell?_setCell_same _ _ _ h.at_]
  · rw [World.frozen?_drewN, World.frozen?_setCell]; exact h.free

theorem Only.step (w : World) (s : Nat) (u : Value) (m : Nat) : Only s w ((w.setCell ⟨s, 1, none⟩ u).drewN m) := (Only.setCell w s 1 u).trans (Only.drewN _ _ _)

theorem But.refl (g : Nat) (w : World) : But g w w := ⟨rfl, rfl, rfl, Nat.le_refl _, fun _ _ _ => rfl⟩

theorem But.only {g : Nat} {a b c : World} (h : But g a b) (k : Only g b c) : But g a c :=
  ⟨k.os.trans h.os, k.tape.trans h.tape, k.output.trans h.output, by rw [k.size]; exact h.size, fun i hi hne => (k.block i hne).trans (h.block i hi hne)⟩

theorem But.grown {g : Nat} {a b c : World} {row : Option Nat} (h : But g a b) (k : b.grownBy c row) (hr : ∀ i, row = some i → a.heap.size ≤ i) : But g a c :=
  ⟨k.os.trans h.os, k.tape.trans h.tape, k.output.trans h.output, Nat.le_trans h.size k.size, fun i hi hne => (k.block i (Nat.lt_of_lt_of_le hi h.size) (fun e => by have := hr i e.symm; omega)).trans (h.block i hi hne)⟩

theorem But.trans {g : Nat} {a b c : World} (h : But g a b) (k : But g b c) : But g a c :=
  ⟨k.os.trans h.os, k.tape.trans h.tape, k.output.trans h.output, Nat.le_trans h.size k.size, fun i hi hne => (k.block i (Nat.lt_of_lt_of_le hi h.size) hne).trans (h.block i hi hne)⟩

theorem But.ofBelow {g : Nat} {a b : World} (h : Below a.heap.size a b) : But g a b := ⟨h.os, h.tape, h.output, h.size, fun i hi _ => h.block i hi⟩

theorem But.ofOnly {g : Nat} {a b : World} (h : Only g a b) : But g a b := (But.refl g a).only h

theorem Rd.but {w w' : World} {g g' : Nat} {a : Option Addr} {k : IntKind} {xs : List Int} (h : Rd w g a k xs) (ho : But g' w w') (hne : 0 < xs.length → g ≠ g') : Rd w' g a k xs := by
  by_cases h0 : 0 < xs.length
  · exact h.of_block (ho.block g (h.lt h0) (hne h0))
  · exact fun h1 => absurd h1 h0

theorem Only.grown {g : Nat} {a b : World} (h : Only g a b) : a.grownBy b (some g) := ⟨h.os, h.tape, h.output, Nat.le_of_eq h.size.symm, fun k _ hne => h.block k (fun e => hne (by rw [e]))⟩

theorem byt_snoc {ys : List Int} (h : Byt ys) (x : Int) (h0 : 0 ≤ x) (h1 : x < 256) : Byt (ys ++ [x]) := by
  intro i
  by_cases hi : i < ys.length
  · have := h i
    simpa [List.getElem?_append, hi] using this
  · by_cases e : i = ys.length
    · subst e; simp; exact ⟨h0, h1⟩
    · rw [List.getD_eq_getElem?_getD, List.getElem?_eq_none (by simp; omega)]
      decide

theorem But.setCell {g b off : Nat} {a w : World} {u : Value} (h : But g a w) (hb : a.heap.size ≤ b) : But g a (w.setCell ⟨b, off, none⟩ u) :=
  ⟨h.os, h.tape, h.output, by simpa [World.setCell] using h.size, fun k hk hne => (heap_setCell_other w ⟨b, off, none⟩ k u (by show k ≠ b; omega)).trans (h.block k hk hne)⟩

/-- A row that the call made: where it lies, and that it may be read again. -/
def Row (w : World) (g : Nat) (a : Option Addr) (c : Nat) (xs : List Int) : Prop := Own w g a .u8 xs ∧ (a = none → c = 0) ∧ xs.length ≤ c

end Go.Proofs.YtpbniihhpfbamaaDoor

/-
  A row of bytes appended to an owned row of bytes, nil ones too, as one equation. No program in sight.
-/
namespace Go.Proofs.YtpbniihhpfbamaaDoor
set_option maxRecDepth 100000
open Go.RowKit

/-- A row of bytes that the walk owns. -/
def RowB (w : World) (base : Nat) (v : Value) (xs : List Int) : Prop := w.ownsRow base 5 1 v xs.length (xs.map (Value.int .u8))
theorem RowB.up {w w' : World} {base : Nat} {v : Value} {xs : List Int} (h : RowB w base v xs) (hb : Below w.heap.size w w') : RowB w' base v xs := by
  refine ⟨h.1, ?_⟩
  rcases h.2 with h' | ⟨g, cap, cur, rfl, hbg, hg, hnc, hcm, hcs, ht⟩
  · exact .inl h'
  · exact .inr ⟨g, cap, cur, rfl, hbg, by rw [hb.block g ((Array.getElem?_eq_some_iff.1 hg).1)]; exact hg, hnc, hcm, hcs, ht⟩
theorem RowB.only {w w' : World} {base q : Nat} {v : Value} {xs : List Int} (h : RowB w base v xs) (hb : Only q w w') (hq : q < base) : RowB w' base v xs := by
  refine ⟨h.1, ?_⟩
  rcases h.2 with h' | ⟨g, cap, cur, rfl, hbg, hg, hnc, hcm, hcs, ht⟩
  · exact .inl h'
  · exact .inr ⟨g, cap, cur, rfl, hbg, by rw [hb.block g (by omega)]; exact hg, hnc, hcm, hcs, ht⟩
theorem RowB.base {w : World} {base base' : Nat} {v : Value} {xs : List Int} (h : RowB w base v xs) (hb : base' ≤ base) : RowB w base' v xs := by
  refine ⟨h.1, ?_⟩
  rcases h.2 with h' | ⟨g, cap, cur, rfl, hbg, hg, hnc, hcm, hcs, ht⟩
  · exact .inl h'
  · exact .inr ⟨g, cap, cur, rfl, by omega, hg, hnc, hcm, hcs, ht⟩
theorem RowB.own {w : World} {base : Nat} {v : Value} {xs : List Int} (h : RowB w base v xs) :
    ∃ (a : Option Addr) (c g : Nat), v = .slice a xs.length c ∧ Own w g a .u8 xs ∧ (a = none → c = 0) ∧ xs.length ≤ c ∧ base ≤ g := Own.of_ownsRow h
/-- What an append leaves, with all that is asked of it. -/
theorem append_any {P : Program} (w : World) (ty : TypeId) (i : TypeInfo) (ht : P.underlying 23 = some (.slice 5)) (hi : P.info? 5 = some i) (hz : i.zero = some (.int .u8 0)) (hsize : i.size = 1) (hby : i.bytes = 1)
    (base B : Nat) (v : Value) (xs : List Int) (hown : RowB w base v xs) (g : Nat) (a : Option Addr) (c : Nat) (us : List Int) (hr : Rd w g a .u8 us) (hc : a = none → c = 0) (hl : xs.length + us.length ≤ 1099511627776) (hB : B ≤ base) (hbase : base ≤ w.heap.size) :
    ∃ v' w', (Builtin.append_ #[23, 23] ty #[v, .slice a us.length c]).run P w = .ok v' w' ∧ RowB w' base v' (xs ++ us) ∧ Below B w w' := by
  cases a with
  | none =>
    obtain rfl : us = [] := by
      by_cases h0 : 0 < us.length
      · obtain ⟨off, h, _⟩ := hr h0
        simp at h
      · exact List.eq_nil_of_length_eq_zero (by omega)
    obtain rfl := hc rfl
    exact ⟨v, w, run_append_owned_none (P := P) (w := w) base 23 ty 5 i 1 ht hi v _ _ hown, by rw [List.append_nil]; exact hown, Below.refl _ _⟩
  | some ad =>
    have hcell : ∀ j u, (us.map (Value.int .u8))[j]? = some u → w.cell? (ad.add j) = some u := by
      intro j u hj
      have hjl : j < us.length := by
        have := (List.getElem?_eq_some_iff.1 hj).1
        simpa using this
      obtain ⟨off, ha, hcc⟩ := hr (by omega)
      simp only [Option.some.injEq] at ha
      subst ha
      rw [Addr.add_mid, hcc j hjl]
      simpa [hjl] using hj
    have hone : ∀ u ∈ us.map (Value.int .u8), u.oneCell' = true := by
      intro u hu
      obtain ⟨x, _, rfl⟩ := List.mem_map.1 hu
      rfl
    obtain ⟨v', w', h1, h2, h3, _⟩ := run_append_own (P := P) w base 23 ty 5 i (.int .u8 0) 1 1 ht hi hz hsize hby rfl (by decide) v xs.length (xs.map (Value.int .u8)) hown ad us.length c (us.map (Value.int .u8)) (by simp) hcell hone (by unfold maxLen; omega) (by omega) hbase
    refine ⟨v', w', h1, ?_, (Below.refl B w).grown h3 (by omega) (fun k hk => by have := (World.ownsRow.lt hown k hk).1; omega)⟩
    show w'.ownsRow base 5 1 v' (xs ++ us).length ((xs ++ us).map (Value.int .u8))
    rw [List.length_append, List.map_append]
    exact h2
theorem RowB.lit0 (w : World) : RowB (w.alloc (.cells #[] 5)) w.heap.size (.slice (some ⟨w.heap.size, 0, none⟩) 0 0) [] :=
  World.ownsRow_lit w #[] 0 (Nat.le_refl _) (by unfold maxLen; omega) (by simp)
theorem RowB.lit1 (w : World) (x : Int) : RowB (w.alloc (.cells #[.int .u8 x] 5)) w.heap.size (.slice (some ⟨w.heap.size, 0, none⟩) 1 1) [x] :=
  World.ownsRow_lit w #[.int .u8 x] 1 (Nat.le_refl _) (by unfold maxLen; omega) (by simp)
theorem RowB.rd {w : World} {base : Nat} {v : Value} {xs : List Int} (h : RowB w base v xs) : ∃ (a : Option Addr) (c g : Nat), v = .slice a xs.length c ∧ Rd w g a .u8 xs ∧ (a = none → c = 0) ∧ xs.length ≤ c ∧ base ≤ g := by
  obtain ⟨a, c, g, h1, h2, h3⟩ := h.own
  exact ⟨a, c, g, h1, h2.rd, h3⟩
theorem newRow_e (w : World) (k : IntKind) : NewRow w.heap.size (w.alloc (.cells #[] 5)) (.returned (.slice (some ⟨w.heap.size, 0, none⟩) 0 0)) k [] :=
  ⟨_, 0, w.heap.size, rfl, Own.nil _ _ _ _, by simp, Nat.zero_le _, Nat.le_refl _⟩
theorem newRow_z (w : World) (k : IntKind) : NewRow w.heap.size w (.returned (.slice none 0 0)) k [] :=
  ⟨_, 0, w.heap.size, rfl, Own.nil _ _ _ _, by simp, Nat.zero_le _, Nat.le_refl _⟩
theorem blk_lit1 (w : World) (k : IntKind) (e : TypeId) (x : Int) : Blk (w.alloc (.cells #[.int k x] e)) w.heap.size k [x] := by
  refine ⟨e, ?_⟩
  show (w.heap.push _)[w.heap.size]? = _
  simp
end Go.Proofs.YtpbniihhpfbamaaDoor

/-
  Texts held against each other: cut out of DrS and Sa16.
-/
namespace Go.Proofs.YtpbniihhpfbamaaDoor
set_option maxRecDepth 100000
open Go.RowKit

theorem str_data : ∀ (xs : List Int) (acc : ByteArray), (xs.foldl (fun r n => r.push (UInt8.ofNat n.toNat)) acc).data = acc.data ++ (xs.map (fun n => UInt8.ofNat n.toNat)).toArray
  | [], acc => by simp
  | x :: r, acc => by
    rw [List.foldl_cons, str_data r]
    simp [ByteArray.push]

theorem toList_inj {s t : ByteArray} (h : s.toList = t.toList) : s = t := by
  rw [ByteArray.toList_eq, ByteArray.toList_eq] at h
  have := Array.ext' h
  cases s; cases t; simp_all

theorem str_inj {xs ys : List Int} (hx : Byt xs) (hy : Byt ys) (h : str xs = str ys) : xs = ys := by
  have h1 : (xs.map (fun n => UInt8.ofNat n.toNat)) = (ys.map (fun n => UInt8.ofNat n.toNat)) := by
    have := congrArg ByteArray.data h
    unfold str at this
    rw [str_data, str_data] at this
    simpa using this
  have hl : xs.length = ys.length := by have := congrArg List.length h1; simpa using this
  refine eq_of_getD hl (fun i hi => ?_)
  have h2 : (xs.map (fun n => UInt8.ofNat n.toNat))[i]? = (ys.map (fun n => UInt8.ofNat n.toNat))[i]? := by rw [h1]
  have a := hx i
  have b := hy i
  have hi' : i < ys.length := by omega
  simp [hi, hi'] at h2 a b ⊢
  have h3 := congrArg UInt8.toNat h2
  simp at h3
  omega

end Go.Proofs.YtpbniihhpfbamaaDoor

/-
  Names cut into labels, and what is wrong with them: bytes alone.
-/
namespace Go.Proofs.YtpbniihhpfbamaaDoor
set_option maxRecDepth 100000

def okB (c : UInt8) : Bool := (decide (97 ≤ (c.toNat : Int)) && decide ((c.toNat : Int) ≤ 122)) || (decide (48 ≤ (c.toNat : Int)) && decide ((c.toNat : Int) ≤ 57)) || decide ((c.toNat : Int) = 45)
/-- A byte that no label has. -/
def bad (l : List UInt8) : Bool := l.any fun c => !okB c
/-- What is wrong with a label. -/
def lbFz (l : List UInt8) : Int := if l.length = 0 then 2 else if 63 < l.length then 3 else if bad l = true then 4 else if ((l.getD 0 0).toNat : Int) = 45 ∨ ((l.getD (l.length - 1) 0).toNat : Int) = 45 then 5 else 0
/-- The first of them. -/
def ff : List (List UInt8) → Int
  | [] => 0
  | l :: ls => if lbFz l = 0 then ff ls else lbFz l
def stp (p : List (List UInt8) × List UInt8) (c : UInt8) : List (List UInt8) × List UInt8 := if (c.toNat : Int) = 46 then (p.1 ++ [p.2], []) else (p.1, p.2 ++ [c])
/-- The labels that are whole, and the one that goes on. -/
def lst (l : List UInt8) : List (List UInt8) × List UInt8 := l.foldl stp ([], [])
def labs (l : List UInt8) : List (List UInt8) := (lst l).1 ++ [(lst l).2]
def nameF (l : List UInt8) : Int := if l.length < 1 ∨ 128 < l.length then 1 else ff (labs l)
theorem lst_snoc (l : List UInt8) (c : UInt8) : lst (l ++ [c]) = stp (lst l) c := by simp [lst]
theorem lst_dot (l : List UInt8) (c : UInt8) (h : (c.toNat : Int) = 46) : lst (l ++ [c]) = (labs l, []) := by
  rw [lst_snoc]
  exact if_pos h
theorem lst_in (l : List UInt8) (c : UInt8) (h : (c.toNat : Int) ≠ 46) : lst (l ++ [c]) = ((lst l).1, (lst l).2 ++ [c]) := by
  rw [lst_snoc]
  exact if_neg h
theorem ff_app (a b : List (List UInt8)) : ff (a ++ b) = if ff a = 0 then ff b else ff a := by
  induction a with
  | nil => simp [ff]
  | cons x a ih =>
    show (if lbFz x = 0 then ff (a ++ b) else lbFz x) = if (if lbFz x = 0 then ff a else lbFz x) = 0 then ff b else (if lbFz x = 0 then ff a else lbFz x)
    by_cases h : lbFz x = 0
    · simp only [if_pos h]
      exact ih
    · simp only [if_neg h]
theorem ff_one (l : List UInt8) : ff [l] = lbFz l := by
  show (if lbFz l = 0 then ff [] else lbFz l) = lbFz l
  split
  · rename_i h
    rw [h]
    rfl
  · rfl
theorem snoc_ind {P : List UInt8 → Prop} (h0 : P []) (hs : ∀ l c, P l → P (l ++ [c])) : ∀ l, P l := by
  intro l
  have : ∀ n, n ≤ l.length → P (l.take n) := by
    intro n
    induction n with
    | zero => intro _; simpa using h0
    | succ n ih =>
      intro hn
      have e : l.take (n + 1) = l.take n ++ [l[n]] := by rw [List.take_succ_eq_append_getElem]
      rw [e]
      exact hs _ _ (ih (by omega))
  have := this l.length (Nat.le_refl _)
  rwa [List.take_length] at this
theorem lst_pre (a b : List UInt8) : ∃ t, (lst (a ++ b)).1 = (lst a).1 ++ t := by
  revert b
  refine snoc_ind (P := fun b => ∃ t, (lst (a ++ b)).1 = (lst a).1 ++ t) ⟨[], by simp⟩ ?_
  rintro l c ⟨t, ih⟩
  rw [← List.append_assoc, lst_snoc]
  unfold stp
  split
  · exact ⟨t ++ [(lst (a ++ l)).2], by rw [ih, List.append_assoc]⟩
  · exact ⟨t, ih⟩
/-- The label that goes on ends the text. -/
theorem lst_cur : ∀ l : List UInt8, ∃ s, s + (lst l).2.length = l.length ∧ (lst l).2 = l.drop s := by
  refine snoc_ind ⟨0, rfl, rfl⟩ ?_
  rintro l c ⟨s, h1, h2⟩
  rw [lst_snoc]
  unfold stp
  split
  · exact ⟨l.length + 1, by simp, by simp⟩
  · refine ⟨s, by simp; omega, ?_⟩
    simp only
    rw [List.drop_append_of_le_length (by omega), ← h2]
/-- The answer, where a whole label is the first that is wrong. -/
theorem ff_cut {a b : List UInt8} (h : ff (lst a).1 ≠ 0) : ff (lst (a ++ b)).1 = ff (lst a).1 := by
  obtain ⟨t, e⟩ := lst_pre a b
  rw [e, ff_app, if_neg h]
theorem bad_snoc (l : List UInt8) (c : UInt8) : bad (l ++ [c]) = (bad l || !okB c) := by simp [bad]
/-- A text as a value. -/
def tx (l : List UInt8) : Value := .string ⟨⟨l⟩⟩
theorem tx_size (l : List UInt8) : (ByteArray.mk ⟨l⟩).size = l.length := rfl
theorem tx_at (l : List UInt8) (i : Nat) (h : i < l.length) : (ByteArray.mk ⟨l⟩)[i]'h = l.getD i 0 := by
  simp only [List.getD, List.getElem?_eq_getElem h, Option.getD_some]
  rfl
theorem run_tx {P : Program} (w : World) (t : TypeId) (l : List UInt8) (i : Nat) (hu : P.underlying t = some .string) (h : i < l.length) : (Instr.index t (.string ⟨⟨l⟩⟩) (.int .i64 (i : Int))).run P w = .ok (.int .u8 ((l.getD i 0).toNat : Int)) w := by
  have hi : 0 ≤ (i : Int) ∧ (i : Int) < ((ByteArray.mk ⟨l⟩).size : Int) := ⟨by omega, by rw [tx_size]; omega⟩
  rw [run_index_string w t _ .i64 i hu, dif_pos hi]
  have e : (i : Int).toNat = i := by omega
  have := tx_at l i h
  simp only [e, this]
theorem run_tx_cut {P : Program} (w : World) (t : TypeId) (l : List UInt8) (i j : Nat) (hu : P.underlying t = some .string) (h : i ≤ j) (hj : j ≤ l.length) : (Instr.slice t (.string ⟨⟨l⟩⟩) (some (.int .i64 (i : Int))) (some (.int .i64 (j : Int))) none).run P w = .ok (.string ⟨⟨(l.drop i).take (j - i)⟩⟩) w := by
  rw [run_slice_string w t _ .i64 .i64 i j hu (by omega) (by omega) (by rw [tx_size]; omega)]
  have := ByteArray.extract_mk l i j
  simp only [Int.toNat_natCast]
  rw [show (ByteArray.mk ⟨l⟩) = ByteArray.mk l.toArray from rfl, this]
end Go.Proofs.YtpbniihhpfbamaaDoor

/-
  Bytes as hexadecimal digits: what EncodeHex answers, both sides.
-/
namespace Go.Proofs.YtpbniihhpfbamaaDoor
set_option maxRecDepth 100000
open Go Go.RowKit

/-- The digits. -/
def hxS : List UInt8 := [48, 49, 50, 51, 52, 53, 54, 55, 56, 57, 97, 98, 99, 100, 101, 102]
def hxB (x : Int) : Int := ((hxS.getD x.toNat 0).toNat : Int)
def hx2 (x : Int) : List Int := [hxB (x / 16), hxB (x % 16)]
def heL (xs : List Int) : List Int := (xs.map hx2).flatten
/-- What EncodeHex answers. -/
def ehF (xs : List Int) : ByteArray := if xs = [] then ⟨#[45]⟩ else str (heL xs)
theorem heL_len (xs : List Int) : (heL xs).length = 2 * xs.length := by
  unfold heL
  induction xs with
  | nil => rfl
  | cons x l ih => simp [hx2] at ih ⊢; omega
theorem heL_app (a b : List Int) : heL (a ++ b) = heL a ++ heL b := by simp [heL]
theorem heL_succ (xs : List Int) (k : Nat) (hk : k < xs.length) : heL (xs.take (k + 1)) = heL (xs.take k) ++ hx2 (xs.getD k 0) := by
  have e : xs.take (k + 1) = xs.take k ++ [xs.getD k 0] := by
    rw [List.take_add_one, List.getElem?_eq_getElem hk]
    simp [List.getD, List.getElem?_eq_getElem hk]
  rw [e, heL_app]
  simp [heL]
theorem run_hx (w : World) (x : Int) (h0 : 0 ≤ x) (h1 : x < 16) : (Instr.index 9 (.string (ByteArray.mk #[48, 49, 50, 51, 52, 53, 54, 55, 56, 57, 97, 98, 99, 100, 101, 102])) (.int .u8 x)).run Tryd.prog w = .ok (.int .u8 (hxB x)) w := by
  have hi : 0 ≤ x ∧ x < ((ByteArray.mk #[48, 49, 50, 51, 52, 53, 54, 55, 56, 57, 97, 98, 99, 100, 101, 102]).size : Int) := ⟨h0, h1⟩
  rw [run_index_string w 9 _ .u8 x Tryd.underlying9, dif_pos hi]
  have := tx_at hxS x.toNat (by show x.toNat < 16; omega)
  unfold hxB
  rw [← this]
  rfl
theorem blk_lit2 (w : World) (k : IntKind) (e : TypeId) (x y : Int) : Blk (w.alloc (.cells #[.int k x, .int k y] e)) w.heap.size k [x, y] := by
  refine ⟨e, ?_⟩
  show (w.heap.push _)[w.heap.size]? = _
  simp
theorem step_append_exX {P : Program} {ops : Array Oper} {o : Oper} {a : Act} {w : World} {K : Act → World → Prop} {Q : Exit → Act → World → Prop} {E : Prop} (hg : o.guard = none) (s x : Operand) (t tn : TypeId)
    (ho : o.op = .call { callee := .builtin .append, args := #[s, x], argTypes := #[t, tn] }) (vs vx : Value) (hs : a.eval s = vs) (hx : a.eval x = vx) (R : Value → World → Prop)
    (H : ∃ v' w', (Builtin.append_ #[t, tn] o.type #[vs, vx]).run P w = .ok v' w' ∧ R v' w') (hK : ∀ v' w', R v' w' → K (a.put o.dst v') w') :
    if Region.wanted o (yielded ops a.tmps) = true then Oper.wp P o a w K Q else E := by
  have hw : Region.wanted o (yielded ops a.tmps) = true := by simp [Region.wanted, hg]
  rw [if_pos hw]
  obtain ⟨v', w', hr, hR⟩ := H
  exact Lib.wp_append_run w s x t tn ho vs vx hs hx v' w' hr (hK v' w' hR)

set_option maxRecDepth 100000 in
set_option maxHeartbeats 4000000 in
theorem implEncodeHex_any (w : World) (g : Nat) (a : Option Addr) (c : Nat) (xs : List Int) (hr : Rd w g a .u8 xs) (hb : Byt xs) (hl : xs.length ≤ 1048576) :
    Calls Tryd.prog 61 #[.slice a xs.length c] w fun e w' => e = .returned (.string (ehF xs)) ∧ Below w.heap.size w w' := by
  obtain ⟨i0, hi, hz0, hz1, hz2⟩ := info_parts Tryd.info5
  by_cases h0 : xs.length = 0
  · obtain rfl := List.eq_nil_of_length_eq_zero h0
    have E : Hid (ehF [] = ⟨#[45]⟩) := rfl
    rw [E.out]
    simp only [List.length_nil]
    go_enter Tryd.func61, Tryd.ntmps61
    go_wp2
    go_ret
    exact ⟨rfl, Below.refl _ _⟩
  have E : Hid (ehF xs = str (heL xs)) := by show _ = _; unfold ehF; rw [if_neg (by intro h; rw [h] at h0; exact h0 rfl)]
  rw [E.out]
  clear E
  obtain ⟨off, rfl, hc⟩ := hr (by omega)
  have gl := hr.lt (by omega)
  have HT := fun k hk => hide (heL_succ xs k hk)
  have HL := fun k => hide (heL_len (xs.take k))
  have CV := fun W v c' g' h => hide (conv_run W g' v c' (heL xs) h)
  obtain ⟨n, hn⟩ : ∃ n, n = xs.length := ⟨_, rfl⟩
  have HN := hide hn
  rw [← hn] at h0 hl hc ⊢
  have t0 : decide ((n : Int) = 0) = false := by simp; omega
  have t0' : ((n : Int) == 0) = false := by simp; omega
  have n2 : (n : Int) * 2 = ((2 * n : Nat) : Int) := by omega
  have n3 : ((2 * n : Nat) : Int) ≤ 2097152 := by omega
  clear hn
  go_enter Tryd.func61, Tryd.ntmps61
  go_wp2_with (at_make; refine wpList_make_own _ rfl _ _ 23 rfl w.heap.size 5 i0 (.int .u8 0) 1 Tryd.underlying23 hi hz0 hz1 .i64 .i64 _ (2 * n) rfl rfl (by simp) (by rw [hz2]; omega) (by unfold maxLen; omega) (Nat.le_refl _) ?_; intro w5 hown hgrow)
  have R0 : RowB w5 w.heap.size (.slice (some ⟨w.heap.size, 0, none⟩) 0 (2 * n)) (heL (xs.take 0)) := hown
  have N0 : Below w.heap.size w w5 := (Below.refl _ _).grown hgrow (Nat.le_refl _) (by simp)
  clear hown hgrow
  go_loopw [3, 5, 15] (fun v _ i wr => ∃ (k : Nat), k ≤ n ∧ i = .int .i64 k ∧ RowB wr w.heap.size v (heL (xs.take k)) ∧ Below w.heap.size w wr) (fun _ _ i _ => n - (intOf i).toNat)
  case atStart => exact ⟨0, Nat.zero_le _, rfl, R0, N0⟩
  case round =>
    obtain ⟨k, hk, rfl, R, N⟩ := hrel
    by_cases hlt : k < n
    · have cx : wr.cell? ⟨g, off + k, none⟩ = some (.int .u8 (xs.getD k 0)) := (World.cell?_of_block (a := ⟨g, off + k, none⟩) (N.block g gl)).trans (hc k hlt)
      have B0 := hb k
      have ht := HT k (by rw [← HN.out]; exact hlt)
      have hll := (HL k).out
      rw [List.length_take] at hll
      obtain ⟨x, hx⟩ : ∃ x, x = xs.getD k 0 := ⟨_, rfl⟩
      rw [← hx] at cx B0 ht
      clear hx HT HL
      have iI : (k : Int) < (n : Int) := by omega
      obtain ⟨y, hy⟩ : ∃ y, y = x / 16 := ⟨_, rfl⟩
      obtain ⟨z, hz⟩ : ∃ z, z = x % 16 := ⟨_, rfl⟩
      have y0 : 0 ≤ y ∧ y < 16 := by omega
      have z0 : 0 ≤ z ∧ z < 16 := by omega
      have I1 := fun W => run_hx W y y0.1 y0.2
      have I2 := fun W => run_hx W z z0.1 z0.2
      have T2 : Hid (hx2 x = [hxB y, hxB z]) := by show _ = _; rw [hx2, ← hy, ← hz]
      have q1 : Int.tdiv x 16 = y := by rw [hy]; exact Int.tdiv_eq_ediv_of_nonneg (by omega)
      have q2 : Int.tmod x 16 = z := by rw [hz]; exact Int.tmod_eq_emod_of_nonneg (by omega)
      have q3 : IntKind.u8.wrap y = y := by rw [IntKind.wrap_u8]; omega
      have q4 : IntKind.u8.wrap z = z := by rw [IntKind.wrap_u8]; omega
      replace hy := hy.symm
      replace hz := hz.symm
      have zs := N.size
      have A0 : Hid (∃ v' w7, (Builtin.append_ #[23, 23] 23 #[u3, .slice (some ⟨wr.heap.size, 0, none⟩) 2 2]).run Tryd.prog (wr.drew.alloc (.cells #[.int .u8 (hxB y), .int .u8 (hxB z)] 5)) = .ok v' w7 ∧ RowB w7 w.heap.size v' (heL (xs.take (k + 1))) ∧ Below w.heap.size w w7) := by
        have n6 : Below wr.heap.size wr (wr.drew.alloc (.cells #[.int .u8 (hxB y), .int .u8 (hxB z)] 5)) := ((Below.refl _ _).drew).alloc (Nat.le_refl _) _
        have B6 : Blk (wr.drew.alloc (.cells #[.int .u8 (hxB y), .int .u8 (hxB z)] 5)) wr.heap.size .u8 [hxB y, hxB z] := blk_lit2 wr.drew .u8 5 _ _
        obtain ⟨v', w7, hap, o7, m7⟩ := append_any (P := Tryd.prog) _ 23 i0 Tryd.underlying23 hi hz0 hz1 hz2 w.heap.size w.heap.size _ _ (R.up n6) wr.heap.size _ 2 [hxB y, hxB z] B6.own0.rd (by simp) (by simp; omega) (Nat.le_refl _) (by have := n6.size; omega)
        refine ⟨v', w7, hap, by rw [ht.out, T2.out]; exact o7, (N.trans (n6.mono zs)).trans m7⟩
      clear R N0 ht T2 R0
      generalize hxB y = p at *
      generalize hxB z = q at *
      go_upto_region 7 with fail
      go_region_held3 (fun _ => True) (exact trivial)
        (first | (refine step_append_exX rfl (.tmp 19) (.tmp 26) 23 23 rfl _ (.slice (some ⟨wr.heap.size, 0, none⟩) 2 2) rfl rfl _ A0.out ?_; rintro v' w7 ⟨o7, N7⟩) | fail)
      all_goals (try clear A0)
      all_goals go_wp2
      all_goals first
        | exact ⟨⟨k + 1, by omega, by go_num, o7, N7⟩, by simp [intOf]; omega⟩
        | (go_roundw
           all_goals first
             | exact ⟨k + 1, by omega, by go_num, o7, N7⟩
             | (simp [intOf]; omega))
    · obtain rfl : k = n := by omega
      have R' : RowB wr w.heap.size u3 (heL xs) := by rw [HN.out, List.take_of_length_le (Nat.le_refl _)] at R; exact R
      obtain ⟨a1, c1, g1, rfl, o1, p1, q1, r1⟩ := R'.own
      have cv := (CV wr a1 c1 g1 o1.rd).out
      go_wp2
      go_ret
      exact ⟨rfl, N⟩
set_option maxRecDepth 100000 in
set_option maxHeartbeats 4000000 in
theorem specEncodeHex_any (w : World) (g : Nat) (a : Option Addr) (c : Nat) (xs : List Int) (hr : Rd w g a .u8 xs) (hb : Byt xs) (hl : xs.length ≤ 1048576) :
    Calls Tryd.prog 15 #[.slice a xs.length c] w fun e w' => e = .returned (.string (ehF xs)) ∧ Below w.heap.size w w' := by
  obtain ⟨i0, hi, hz0, hz1, hz2⟩ := info_parts Tryd.info5
  by_cases h0 : xs.length = 0
  · obtain rfl := List.eq_nil_of_length_eq_zero h0
    have E : Hid (ehF [] = ⟨#[45]⟩) := rfl
    rw [E.out]
    simp only [List.length_nil]
    go_enter Tryd.func15, Tryd.ntmps15
    go_wp2
    go_ret
    exact ⟨rfl, Below.refl _ _⟩
  have E : Hid (ehF xs = str (heL xs)) := by show _ = _; unfold ehF; rw [if_neg (by intro h; rw [h] at h0; exact h0 rfl)]
  rw [E.out]
  clear E
  obtain ⟨off, rfl, hc⟩ := hr (by omega)
  have gl := hr.lt (by omega)
  have HT := fun k hk => hide (heL_succ xs k hk)
  have HL := fun k => hide (heL_len (xs.take k))
  have CV := fun W v c' g' h => hide (conv_run W g' v c' (heL xs) h)
  obtain ⟨n, hn⟩ : ∃ n, n = xs.length := ⟨_, rfl⟩
  have HN := hide hn
  rw [← hn] at h0 hl hc ⊢
  have t0 : decide ((n : Int) = 0) = false := by simp; omega
  have t0' : ((n : Int) == 0) = false := by simp; omega
  clear hn
  have hal : Below w.heap.size w (w.alloc (.cells #[] 5)) := (Below.refl _ _).alloc (Nat.le_refl _) _
  go_enter Tryd.func15, Tryd.ntmps15
  go_wp2
  go_loopw [3, 4] (fun v i wr => ∃ (k : Nat), k ≤ n ∧ i = .int .i64 k ∧ RowB wr w.heap.size v (heL (xs.take k)) ∧ Below w.heap.size w wr) (fun _ i _ => n - (intOf i).toNat)
  case atStart => exact ⟨0, Nat.zero_le _, rfl, RowB.lit0 w, hal⟩
  case round =>
    obtain ⟨k, hk, rfl, R, N⟩ := hrel
    by_cases hlt : k < n
    · have CX : ∀ W, Below w.heap.size w W → W.cell? ⟨g, off + k, none⟩ = some (.int .u8 (xs.getD k 0)) := fun W h => (World.cell?_of_block (a := ⟨g, off + k, none⟩) (h.block g gl)).trans (hc k hlt)
      have B0 := hb k
      have ht := HT k (by rw [← HN.out]; exact hlt)
      have hll := (HL k).out
      rw [List.length_take] at hll
      obtain ⟨x, hx⟩ : ∃ x, x = xs.getD k 0 := ⟨_, rfl⟩
      rw [← hx] at CX B0 ht
      clear hx HT HL
      have cx := CX wr N
      have iI : (k : Int) < (n : Int) := by omega
      obtain ⟨y, hy⟩ : ∃ y, y = x / 16 := ⟨_, rfl⟩
      obtain ⟨z, hz⟩ : ∃ z, z = x % 16 := ⟨_, rfl⟩
      have y0 : 0 ≤ y ∧ y < 16 := by omega
      have z0 : 0 ≤ z ∧ z < 16 := by omega
      have I1 := fun W => run_hx W y y0.1 y0.2
      have I2 := fun W => run_hx W z z0.1 z0.2
      have T2 : Hid (hx2 x = [hxB y, hxB z]) := by show _ = _; rw [hx2, ← hy, ← hz]
      have q1 : Int.tdiv x 16 = y := by rw [hy]; exact Int.tdiv_eq_ediv_of_nonneg (by omega)
      have q2 : Int.tmod x 16 = z := by rw [hz]; exact Int.tmod_eq_emod_of_nonneg (by omega)
      have q3 : IntKind.u8.wrap y = y := by rw [IntKind.wrap_u8]; omega
      have q4 : IntKind.u8.wrap z = z := by rw [IntKind.wrap_u8]; omega
      replace hy := hy.symm
      replace hz := hz.symm
      have zs := N.size
      have A0 : Hid (∃ v' w7, (Builtin.append_ #[23, 23] 23 #[u3, .slice (some ⟨wr.heap.size, 0, none⟩) 2 2]).run Tryd.prog (wr.drew.alloc (.cells #[.int .u8 (hxB y), .int .u8 (hxB z)] 5)) = .ok v' w7 ∧ RowB w7 w.heap.size v' (heL (xs.take (k + 1))) ∧ Below w.heap.size w w7 ∧ w7.cell? ⟨g, off + k, none⟩ = some (.int .u8 x)) := by
        have n6 : Below wr.heap.size wr (wr.drew.alloc (.cells #[.int .u8 (hxB y), .int .u8 (hxB z)] 5)) := ((Below.refl _ _).drew).alloc (Nat.le_refl _) _
        have B6 : Blk (wr.drew.alloc (.cells #[.int .u8 (hxB y), .int .u8 (hxB z)] 5)) wr.heap.size .u8 [hxB y, hxB z] := blk_lit2 wr.drew .u8 5 _ _
        obtain ⟨v', w7, hap, o7, m7⟩ := append_any (P := Tryd.prog) _ 23 i0 Tryd.underlying23 hi hz0 hz1 hz2 w.heap.size w.heap.size _ _ (R.up n6) wr.heap.size _ 2 [hxB y, hxB z] B6.own0.rd (by simp) (by simp; omega) (Nat.le_refl _) (by have := n6.size; omega)
        have N7 := (N.trans (n6.mono zs)).trans m7
        refine ⟨v', w7, hap, by rw [ht.out, T2.out]; exact o7, N7, CX _ N7⟩
      clear R ht T2 CX
      generalize hxB y = p at *
      generalize hxB z = q at *
      go_upto_region 7 with fail
      go_region_held3 (fun W => W.cell? ⟨g, off + k, none⟩ = some (.int .u8 x)) (first | go_keep | exact S7)
        (first | (refine step_append_exX rfl (.tmp 15) (.tmp 28) 23 23 rfl _ (.slice (some ⟨wr.heap.size, 0, none⟩) 2 2) rfl rfl _ A0.out ?_; rintro v' w7 ⟨o7, N7, S7⟩) | fail)
      all_goals (try clear A0)
      all_goals go_wp2
      all_goals first
        | exact ⟨⟨k + 1, by omega, by go_num, o7, N7⟩, by simp [intOf]; omega⟩
        | (go_roundw
           all_goals first
             | exact ⟨k + 1, by omega, by go_num, o7, N7⟩
             | (simp [intOf]; omega))
    · obtain rfl : k = n := by omega
      have R' : RowB wr w.heap.size u3 (heL xs) := by rw [HN.out, List.take_of_length_le (Nat.le_refl _)] at R; exact R
      obtain ⟨a1, c1, g1, rfl, o1, p1, q1, r1⟩ := R'.own
      have cv := (CV wr a1 c1 g1 o1.rd).out
      go_wp2
      go_ret
      exact ⟨rfl, N⟩
end Go.Proofs.YtpbniihhpfbamaaDoor

/-
  The program's labels: isLabelByte, labelFault, labelsFault, NameFault.
-/
namespace Go.Proofs.YtpbniihhpfbamaaDoor
set_option maxRecDepth 100000
open Go Go.RowKit

end Go.Proofs.YtpbniihhpfbamaaDoor

/-
  The program's NameFault.
-/
namespace Go.Proofs.YtpbniihhpfbamaaDoor
set_option maxRecDepth 100000
open Go Go.RowKit

end Go.Proofs.YtpbniihhpfbamaaDoor
