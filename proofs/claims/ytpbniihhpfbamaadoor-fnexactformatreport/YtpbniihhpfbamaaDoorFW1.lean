import Derived.Shelf.Strings.OnBuilder
import Derived.Shelf.Strings.BuilderF
import Derived.Shelf.Strings.BuilderK
import Derived.Shelf.LaysM
import Derived.Shelf.Strconv.Itoa4
import Derived.Test.YtpbniihhpfbamaaDoorProg
import Derived.WalkKit
import Derived.Below
import Derived.Laws.CopyOwn
import Derived.Deep.Draws
import Derived.Test.YtpbniihhpfbamaaDoorRows
import Derived.WalkSpells
import Derived.Deep.QuietTactic
import Derived.BigQuiet

/-
  strings.Join, the Builder's String and strconv.FormatInt, laid in this seat (by the shelf's lay-shelf and lay-plain; the numbers are seat 20r's own).
-/
namespace Go.Proofs
open Go.Shelf
def Tryd.lays169_ren : Go.Shelf.Ren := ⟨fun | 169 => 38 | n => n, fun | 70 => 83 | 9 => 9 | 0 => 0 | 72 => 85 | 37 => 23 | 127 => 111 | 3 => 3 | 5 => 5 | n => n, fun | n => n⟩
theorem Tryd.lays169 : Go.Proofs.Lays.n169 Tryd.prog Tryd.lays169_ren := {
  mixed := by kernel_rfl
  f169 := Tryd.func38.trans (congrArg some (by kernel_rfl))
  t0 := Tryd.underlying0
  a0 := Tryd.isAgg0
  z0 := Tryd.sizeOf0
  v0 := Tryd.zeroValue0
  t3 := Tryd.underlying3
  a3 := Tryd.isAgg3
  z3 := Tryd.sizeOf3
  v3 := Tryd.zeroValue3
  t9 := Tryd.underlying9
  a9 := Tryd.isAgg9
  z9 := Tryd.sizeOf9
  v9 := Tryd.zeroValue9
  t37 := Tryd.underlying23
  a37 := Tryd.isAgg23
  z37 := Tryd.sizeOf23
  v37 := Tryd.zeroValue23
  t70 := Tryd.underlying83
  a70 := Tryd.isAgg83
  z70 := Tryd.sizeOf83
  v70 := Tryd.zeroValue83
  t72 := Tryd.underlying85
  a72 := Tryd.isAgg85
  z72 := Tryd.sizeOf85
  v72 := Tryd.zeroValue85
  t127 := Tryd.underlying111
  a127 := Tryd.isAgg111
  z127 := Tryd.sizeOf111
  v127 := Tryd.zeroValue111 }
theorem Tryd.Builder_Extra_169 : Builder.Extra Tryd.prog Tryd.lays169_ren := {
  sizeBuilder := by kernel_rfl
  liesBuilder := by kernel_rfl
  t5 := Tryd.underlying5
  a5 := Tryd.isAgg5
  z5 := Tryd.sizeOf5
  v5 := Tryd.zeroValue5
  infoByte := by kernel_rfl
  cellsByte := by kernel_rfl
  sizeByte := by kernel_rfl
  neB5 := by decide }
def Tryd.lays156_ren : Go.Shelf.Ren := ⟨fun | 156 => 40 | 165 => 58 | 166 => 36 | 169 => 38 | 240 => 56 | 241 => 70 | 276 => 69 | 277 => 76 | n => n, fun | 31 => 48 | 9 => 9 | 3 => 3 | 4 => 4 | 0 => 0 | 20 => 20 | 72 => 85 | 76 => 88 | 70 => 83 | 37 => 23 | 75 => 87 | 127 => 111 | 164 => 118 | 5 => 5 | 80 => 91 | n => n, fun | n => n⟩
theorem Tryd.lays156 : Go.Proofs.Lays.n156 Tryd.prog Tryd.lays156_ren := {
  mixed := by kernel_rfl
  f156 := Tryd.func40.trans (congrArg some (by kernel_rfl))
  f165 := Tryd.func58.trans (congrArg some (by kernel_rfl))
  f166 := Tryd.func36.trans (congrArg some (by kernel_rfl))
  f169 := Tryd.func38.trans (congrArg some (by kernel_rfl))
  f240 := Tryd.func56.trans (congrArg some (by kernel_rfl))
  f241 := Tryd.func70.trans (congrArg some (by kernel_rfl))
  f276 := Tryd.func69.trans (congrArg some (by kernel_rfl))
  f277 := Tryd.func76.trans (congrArg some (by kernel_rfl))
  t0 := Tryd.underlying0
  a0 := Tryd.isAgg0
  z0 := Tryd.sizeOf0
  v0 := Tryd.zeroValue0
  t3 := Tryd.underlying3
  a3 := Tryd.isAgg3
  z3 := Tryd.sizeOf3
  v3 := Tryd.zeroValue3
  t4 := Tryd.underlying4
  a4 := Tryd.isAgg4
  z4 := Tryd.sizeOf4
  v4 := Tryd.zeroValue4
  t9 := Tryd.underlying9
  a9 := Tryd.isAgg9
  z9 := Tryd.sizeOf9
  v9 := Tryd.zeroValue9
  t20 := Tryd.underlying20
  a20 := Tryd.isAgg20
  z20 := Tryd.sizeOf20
  v20 := Tryd.zeroValue20
  t31 := Tryd.underlying48
  a31 := Tryd.isAgg48
  z31 := Tryd.sizeOf48
  v31 := Tryd.zeroValue48
  t37 := Tryd.underlying23
  a37 := Tryd.isAgg23
  z37 := Tryd.sizeOf23
  v37 := Tryd.zeroValue23
  t70 := Tryd.underlying83
  a70 := Tryd.isAgg83
  z70 := Tryd.sizeOf83
  v70 := Tryd.zeroValue83
  t72 := Tryd.underlying85
  a72 := Tryd.isAgg85
  z72 := Tryd.sizeOf85
  v72 := Tryd.zeroValue85
  t75 := Tryd.underlying87
  a75 := Tryd.isAgg87
  z75 := Tryd.sizeOf87
  v75 := Tryd.zeroValue87
  t76 := Tryd.underlying88
  a76 := Tryd.isAgg88
  z76 := Tryd.sizeOf88
  v76 := Tryd.zeroValue88
  t127 := Tryd.underlying111
  a127 := Tryd.isAgg111
  z127 := Tryd.sizeOf111
  v127 := Tryd.zeroValue111
  t164 := Tryd.underlying118
  a164 := Tryd.isAgg118
  z164 := Tryd.sizeOf118
  v164 := Tryd.zeroValue118 }
theorem Tryd.Builder_Extra_156 : Builder.Extra Tryd.prog Tryd.lays156_ren := {
  sizeBuilder := by kernel_rfl
  liesBuilder := by kernel_rfl
  t5 := Tryd.underlying5
  a5 := Tryd.isAgg5
  z5 := Tryd.sizeOf5
  v5 := Tryd.zeroValue5
  infoByte := by kernel_rfl
  cellsByte := by kernel_rfl
  sizeByte := by kernel_rfl
  neB5 := by decide }
open Go.RowKit in
/-- No element: the empty string; the world is as it was. (Whatever the slice's address and capacity: a nil slice too.) (LAID: no walk: one application.) -/
theorem Tryd.strings_Join_none (a : Option Addr) (c : Nat) (sep : ByteArray) (w : World) :
    Calls Tryd.prog 40 #[.slice a 0 c, .string sep] w fun e w' => e = .returned (.string ⟨#[]⟩) ∧ w' = w := Any.strings_Join_none Tryd.lays156 Tryd.Builder_Extra_156 a c sep w
open Go.RowKit in
/-- strings.Join: "Join concatenates the elements of its first argument to create a single string. The separator string sep is placed between elements in the resulting string.": HOWEVER MANY ELEMENTS. Below the heap's end the world is as it was. (LAID: no walk: one application.) -/
theorem Tryd.strings_Join (bk o c : Nat) (xs : List ByteArray) (sep : ByteArray) (w : World) (hcells : ∀ (j : Nat) x, xs[j]? = some x → w.cell? ⟨bk, o + j, none⟩ = some (.string x)) (hbk : bk < w.heap.size) (hN : xs.length ≤ 140737488355328) (hcap : xs.length ≤ c) (hlen : (Lib.join (xs.map (·.data.toList)) sep.data.toList).length ≤ 140737488355328) :
    Calls Tryd.prog 40 #[.slice (some ⟨bk, o, none⟩) xs.length c, .string sep] w fun e w' => e = .returned (.string ⟨(Lib.join (xs.map (·.data.toList)) sep.data.toList).toArray⟩) ∧ Below w.heap.size w w' := Any.strings_Join Tryd.lays156 Tryd.Builder_Extra_156 bk o c xs sep w hcells hbk hN hcap hlen
open Go.RowKit in
/-- (*strings.Builder).String: "String returns the accumulated string.": WHATEVER THE BUILDER HOLDS; THE FORM '_f': OF A BUILDER THAT MAY HAVE BEEN READ BEFORE; AND IT IS A BUILDER STILL, holding the same bytes: it can be written on. (LAID: no walk: one application.) -/
theorem Tryd.Builder_String_any_f (B b : Nat) (l : List UInt8) (w : World) (h : Lib.IsBuilderF 85 5 B b (Lib.byteCells l) w) (hBw : B ≤ w.heap.size) :
    Calls Tryd.prog 38 #[.pointer (some ⟨b, 0, none⟩)] w fun e w' => e = .returned (.string ⟨l.toArray⟩) ∧ (Lib.IsBuilderF 85 5 B b (Lib.byteCells l) w' ∧ Below B w w') := Any.Builder_String_any_f Tryd.lays169 Tryd.Builder_Extra_169 B b l w h hBw
open Go.RowKit in
/-- (*strings.Builder).String: "String returns the accumulated string.": WHATEVER THE BUILDER HOLDS; THE FORM '_k': OVER 'Lib.IsBuilderF' (a builder that 'String()' may have read), AND WITH THE FRAME THAT REACHES ABOVE THE BUILDER: 'Lib.OthersKept': every block that is not b and is no row of uint8's stands as it stood: the iterator of a range among them. (LAID: no walk: one application.) -/
theorem Tryd.Builder_String_any_k (B b : Nat) (l : List UInt8) (w : World) (h : Lib.IsBuilderF 85 5 B b (Lib.byteCells l) w) (hBw : B ≤ w.heap.size) :
    Calls Tryd.prog 38 #[.pointer (some ⟨b, 0, none⟩)] w fun e w' => e = .returned (.string ⟨l.toArray⟩) ∧ (Lib.IsBuilderF 85 5 B b (Lib.byteCells l) w' ∧ Below B w w' ∧ Lib.OthersKept 5 (some b) w w') := Any.Builder_String_any_k Tryd.lays169 Tryd.Builder_Extra_169 B b l w h hBw
def Tryd.laysM173_ren : Go.Shelf.Ren := ⟨fun | 173 => 41 | 246 => 59 | 283 => 71 | 284 => 72 | 285 => 73 | 286 => 74 | 129 => 78 | 317 => 77 | 318 => 79 | 319 => 80 | 320 => 81 | 337 => 82 | 338 => 83 | n => n, fun | 2 => 2 | 3 => 3 | 9 => 9 | 4 => 4 | 171 => 121 | 0 => 0 | 53 => 122 | 37 => 23 | 5 => 5 | 173 => 125 | 212 => 130 | 51 => 131 | 20 => 20 | 213 => 132 | 46 => 134 | 232 => 137 | 233 => 138 | n => n, fun | 17 => 0 | 18 => 2 | 19 => 3 | n => n⟩
theorem Tryd.laysM173 : Go.Proofs.LaysM.n173 Tryd.prog Tryd.laysM173_ren := {
  mixed := by kernel_rfl
  f129 := Tryd.func78.trans (congrArg some (by kernel_rfl))
  f173 := Tryd.func41.trans (congrArg some (by kernel_rfl))
  f246 := Tryd.func59.trans (congrArg some (by kernel_rfl))
  f283 := Tryd.func71.trans (congrArg some (by kernel_rfl))
  f284 := Tryd.func72.trans (congrArg some (by kernel_rfl))
  f285 := Tryd.func73.trans (congrArg some (by kernel_rfl))
  f286 := Tryd.func74.trans (congrArg some (by kernel_rfl))
  f317 := Tryd.func77.trans (congrArg some (by kernel_rfl))
  f318 := Tryd.func79.trans (congrArg some (by kernel_rfl))
  f319 := Tryd.func80.trans (congrArg some (by kernel_rfl))
  f320 := Tryd.func81.trans (congrArg some (by kernel_rfl))
  f337 := Tryd.func82.trans (congrArg some (by kernel_rfl))
  f338 := Tryd.func83.trans (congrArg some (by kernel_rfl))
  t0 := Tryd.underlying0
  a0 := Tryd.isAgg0
  z0 := Tryd.sizeOf0
  v0 := Tryd.zeroValue0
  t2 := Tryd.underlying2
  a2 := Tryd.isAgg2
  z2 := Tryd.sizeOf2
  v2 := Tryd.zeroValue2
  t3 := Tryd.underlying3
  a3 := Tryd.isAgg3
  z3 := Tryd.sizeOf3
  v3 := Tryd.zeroValue3
  t4 := Tryd.underlying4
  a4 := Tryd.isAgg4
  z4 := Tryd.sizeOf4
  v4 := Tryd.zeroValue4
  t5 := Tryd.underlying5
  a5 := Tryd.isAgg5
  z5 := Tryd.sizeOf5
  v5 := Tryd.zeroValue5
  t9 := Tryd.underlying9
  a9 := Tryd.isAgg9
  z9 := Tryd.sizeOf9
  v9 := Tryd.zeroValue9
  t20 := Tryd.underlying20
  a20 := Tryd.isAgg20
  z20 := Tryd.sizeOf20
  v20 := Tryd.zeroValue20
  t37 := Tryd.underlying23
  a37 := Tryd.isAgg23
  z37 := Tryd.sizeOf23
  v37 := Tryd.zeroValue23
  t46 := Tryd.underlying134
  a46 := Tryd.isAgg134
  z46 := Tryd.sizeOf134
  v46 := Tryd.zeroValue134
  t51 := Tryd.underlying131
  a51 := Tryd.isAgg131
  z51 := Tryd.sizeOf131
  v51 := Tryd.zeroValue131
  t53 := Tryd.underlying122
  a53 := Tryd.isAgg122
  z53 := Tryd.sizeOf122
  v53 := Tryd.zeroValue122
  t171 := Tryd.underlying121
  a171 := Tryd.isAgg121
  z171 := Tryd.sizeOf121
  v171 := Tryd.zeroValue121
  t173 := Tryd.underlying125
  a173 := Tryd.isAgg125
  z173 := Tryd.sizeOf125
  v173 := Tryd.zeroValue125
  t212 := Tryd.underlying130
  a212 := Tryd.isAgg130
  z212 := Tryd.sizeOf130
  v212 := Tryd.zeroValue130
  t213 := Tryd.underlying132
  a213 := Tryd.isAgg132
  z213 := Tryd.sizeOf132
  t232 := Tryd.underlying137
  a232 := Tryd.isAgg137
  z232 := Tryd.sizeOf137
  v232 := Tryd.zeroValue137
  t233 := Tryd.underlying138
  a233 := Tryd.isAgg138
  z233 := Tryd.sizeOf138
  v233 := Tryd.zeroValue138
  g17 := by kernel_rfl
  g18 := by kernel_rfl
  g19 := by kernel_rfl
  i0 := by kernel_rfl
  i2 := by kernel_rfl
  i3 := by kernel_rfl
  i4 := by kernel_rfl
  i5 := by kernel_rfl
  i9 := by kernel_rfl
  i20 := by kernel_rfl
  i37 := by kernel_rfl
  i46 := by kernel_rfl
  i51 := by kernel_rfl
  i53 := by kernel_rfl
  i171 := by kernel_rfl
  i173 := by kernel_rfl
  i212 := by kernel_rfl
  i232 := by kernel_rfl
  i233 := by kernel_rfl
  m17 := by kernel_rfl
  m18 := by kernel_rfl
  m19 := by kernel_rfl }
open Go.RowKit Go.Sort Go.Lib in
/-- strconv.FormatInt: "FormatInt returns the string representation of i in the given base": AT BASE 10: i's decimal numeral, for every int64. (LAID: no walk: one application.) -/
theorem Tryd.strconv_FormatInt_10 (n : Int) (h0 : -9223372036854775808 ≤ n) (h1 : n ≤ 9223372036854775807) (w : World) (htab : Lib.TabIs Tryd.prog w "internal/strconv.uint64pow10" .u64 Lib.pow10Tab) :
    Calls Tryd.prog 41 #[.int .i64 n, .int .i64 10] w fun e w' => e = .returned (.string ⟨(Lib.itoa n).toArray⟩) ∧ ∃ k os, w' = grow (w.drewN k) os := Any.strconv_FormatInt_10 Tryd.laysM173 n h0 h1 w htab
end Go.Proofs

/-
  Rows of integers in memory, block by block: what is read, what is owned, what stays. No program in sight.
-/
namespace Go.Proofs.YtpbniihhpfbamaaDoor
set_option maxRecDepth 100000
open Go.RowKit

/-- The cells of a slice that is read: if it has elements, they lie in block g. -/
def Rd (w : World) (g : Nat) (a : Option Addr) (k : IntKind) (xs : List Int) : Prop :=
  0 < xs.length → ∃ off, a = some ⟨g, off, none⟩ ∧ ∀ i, i < xs.length → w.cell? ⟨g, off + i, none⟩ = some (.int k (xs.getD i 0))

/-- The same, and they may be written. -/
def Own (w : World) (g : Nat) (a : Option Addr) (k : IntKind) (xs : List Int) : Prop :=
  0 < xs.length → ∃ off, a = some ⟨g, off, none⟩ ∧ ∀ i, i < xs.length → w.cell? ⟨g, off + i, none⟩ = some (.int k (xs.getD i 0)) ∧ w.frozen? ⟨g, off + i, none⟩ = false

/-- Block g holds just these integers. -/
def Blk (w : World) (g : Nat) (k : IntKind) (ys : List Int) : Prop :=
  ∃ e, w.heap[g]? = some (.cells (ys.map (Value.int k)).toArray e (0, 0))

theorem Own.rd {w : World} {g : Nat} {a : Option Addr} {k : IntKind} {xs : List Int} (h : Own w g a k xs) : Rd w g a k xs := by
  intro h0
  obtain ⟨off, ha, hc⟩ := h h0
  exact ⟨off, ha, fun i hi => (hc i hi).1⟩

theorem Rd.nil (w : World) (g : Nat) (a : Option Addr) (k : IntKind) : Rd w g a k [] := fun h => absurd h (by simp)
theorem Own.nil (w : World) (g : Nat) (a : Option Addr) (k : IntKind) : Own w g a k [] := fun h => absurd h (by simp)

theorem Rd.lt {w : World} {g : Nat} {a : Option Addr} {k : IntKind} {xs : List Int} (h : Rd w g a k xs) (h0 : 0 < xs.length) : g < w.heap.size := by
  obtain ⟨off, ha, hc⟩ := h h0
  exact block_lt_of_cell (hc 0 h0)

theorem Rd.of_block {w w' : World} {g : Nat} {a : Option Addr} {k : IntKind} {xs : List Int} (h : Rd w g a k xs) (hb : w'.heap[g]? = w.heap[g]?) : Rd w' g a k xs := by
  intro h0
  obtain ⟨off, ha, hc⟩ := h h0
  exact ⟨off, ha, fun i hi => (World.cell?_of_block (a := ⟨g, off + i, none⟩) hb).trans (hc i hi)⟩

theorem Own.of_block {w w' : World} {g : Nat} {a : Option Addr} {k : IntKind} {xs : List Int} (h : Own w g a k xs) (hb : w'.heap[g]? = w.heap[g]?) : Own w' g a k xs := by
  intro h0
  obtain ⟨off, ha, hc⟩ := h h0
  exact ⟨off, ha, fun i hi => ⟨(World.cell?_of_block (a := ⟨g, off + i, none⟩) hb).trans (hc i hi).1, (World.frozen?_of_block (a := ⟨g, off + i, none⟩) hb).trans (hc i hi).2⟩⟩

theorem Rd.up {w w' : World} {g : Nat} {a : Option Addr} {k : IntKind} {xs : List Int} (h : Rd w g a k xs) (hb : Below w.heap.size w w') : Rd w' g a k xs := by
  by_cases h0 : 0 < xs.length
  · exact h.of_block (hb.block g (h.lt h0))
  · exact fun h1 => absurd h1 h0

theorem Own.up {w w' : World} {g : Nat} {a : Option Addr} {k : IntKind} {xs : List Int} (h : Own w g a k xs) (hb : Below w.heap.size w w') : Own w' g a k xs := by
  by_cases h0 : 0 < xs.length
  · exact h.of_block (hb.block g (h.rd.lt h0))
  · exact fun h1 => absurd h1 h0

theorem Blk.lt {w : World} {g : Nat} {k : IntKind} {ys : List Int} (h : Blk w g k ys) : g < w.heap.size := by
  obtain ⟨e, h⟩ := h
  exact (Array.getElem?_eq_some_iff.1 h).1

theorem Blk.cell {w : World} {g : Nat} {k : IntKind} {ys : List Int} (h : Blk w g k ys) {i : Nat} (hi : i < ys.length) : w.cell? ⟨g, i, none⟩ = some (.int k (ys.getD i 0)) := by
  obtain ⟨e, h⟩ := h
  rw [cell_of_row w g i _ e (0, 0) h]
  simp [hi]

theorem Blk.free {w : World} {g : Nat} {k : IntKind} {ys : List Int} (h : Blk w g k ys) (i : Nat) : w.frozen? ⟨g, i, none⟩ = false := by
  obtain ⟨e, h⟩ := h
  exact frozen_of_row w g i _ e h

theorem Blk.store {w : World} {g : Nat} {k : IntKind} {ys : List Int} (h : Blk w g k ys) (i : Nat) (z : Int) : Blk (w.setCell ⟨g, i, none⟩ (.int k z)) g k (ys.set i z) := by
  obtain ⟨e, h⟩ := h
  refine ⟨e, ?_⟩
  rw [heap_setCell_same w g i _ e _ h]
  simp [List.map_set]

theorem Blk.of_block {w w' : World} {g : Nat} {k : IntKind} {ys : List Int} (h : Blk w g k ys) (hb : w'.heap[g]? = w.heap[g]?) : Blk w' g k ys := by
  obtain ⟨e, h⟩ := h
  exact ⟨e, hb.trans h⟩

theorem Blk.up {w w' : World} {g : Nat} {k : IntKind} {ys : List Int} (h : Blk w g k ys) (hb : Below w.heap.size w w') : Blk w' g k ys :=
  h.of_block (hb.block g h.lt)

theorem Blk.drew {w : World} {g : Nat} {k : IntKind} {ys : List Int} (h : Blk w g k ys) : Blk w.drew g k ys := h

/-- A slice over a part of a block that is known whole. -/
theorem Blk.own {w : World} {g : Nat} {k : IntKind} {ys xs : List Int} (h : Blk w g k ys) (off : Nat) (hl : off + xs.length ≤ ys.length) (hx : ∀ i, i < xs.length → ys.getD (off + i) 0 = xs.getD i 0) :
    Own w g (some ⟨g, off, none⟩) k xs := by
  intro h0
  refine ⟨off, rfl, fun i hi => ⟨?_, h.free _⟩⟩
  rw [h.cell (by omega), hx i hi]

theorem Blk.own0 {w : World} {g : Nat} {k : IntKind} {ys : List Int} (h : Blk w g k ys) : Own w g (some ⟨g, 0, none⟩) k ys :=
  h.own 0 (by omega) (fun i _ => by rw [Nat.zero_add])

/-- Nothing but block g has turned. -/
structure Only (g : Nat) (w w' : World) : Prop where
  os : w'.os = w.os
  tape : w'.tape = w.tape
  output : w'.output = w.output
  size : w'.heap.size = w.heap.size
  block : ∀ k, k ≠ g → w'.heap[k]? = w.heap[k]?

theorem Only.refl (g : Nat) (w : World) : Only g w w := ⟨rfl, rfl, rfl, rfl, fun _ _ => rfl⟩
theorem Only.trans {g : Nat} {a b c : World} (h : Only g a b) (k : Only g b c) : Only g a c :=
  ⟨k.os.trans h.os, k.tape.trans h.tape, k.output.trans h.output, k.size.trans h.size, fun i hi => (k.block i hi).trans (h.block i hi)⟩
theorem Only.setCell (w : World) (g i : Nat) (u : Value) : Only g w (w.setCell ⟨g, i, none⟩ u) :=
  ⟨rfl, rfl, rfl, by simp [World.setCell], fun k hk => heap_setCell_other w ⟨g, i, none⟩ k u hk⟩
theorem Only.drewN (w : World) (g n : Nat) : Only g w (w.drewN n) := ⟨rfl, rfl, rfl, rfl, fun _ _ => rfl⟩
theorem Only.below {g B : Nat} {w w' : World} (h : Only g w w') (hB : B ≤ g) : Below B w w' :=
  ⟨h.os, h.tape, h.output, Nat.le_of_eq h.size.symm, fun k hk => h.block k (by omega)⟩
theorem below_drewN {B : Nat} {a w : World} (h : Below B a w) (n : Nat) : Below B a (w.drewN n) := h.trans ⟨rfl, rfl, rfl, Nat.le_refl _, fun _ _ => rfl⟩

/-- What 'make' leaves, as a block. -/
theorem Blk.of_made {w : World} {base : Nat} {e : TypeId} {g n : Nat} {k : IntKind} (h : w.ownsRow base e 1 (.slice (some ⟨g, 0, none⟩) n n) n (madeCells (Value.int k 0).cells (n * 1)).toList) :
    Blk w g k (List.replicate n 0) := by
  rcases h.2 with ⟨h', _⟩ | ⟨g', cap', cur, h', _, hg, _, _, hcs, htake⟩
  · simp at h'
  · simp only [Value.slice.injEq, Option.some.injEq, Addr.mk.injEq, and_true, true_and] at h'
    obtain ⟨rfl, rfl⟩ := h'
    refine ⟨e, ?_⟩
    rw [hg]
    have : cur = ((List.replicate n (0 : Int)).map (Value.int k)).toArray := by
      apply Array.ext'
      rw [List.take_of_length_le (by rw [Array.length_toList, hcs]; exact Nat.le_refl _)] at htake
      rw [htake]
      apply List.ext_getElem
      · simp [madeCells]
      · intro i h1 h2
        simp [madeCells, Value.cells, Nat.mod_one]
    rw [this]

/-- A slice that the call made is handed back. -/
def NewRow (B : Nat) (w' : World) (e : Ending) (k : IntKind) (ys : List Int) : Prop :=
  ∃ (a : Option Addr) (c g : Nat), e = .returned (.slice a ys.length c) ∧ Own w' g a k ys ∧ (a = none → c = 0) ∧ ys.length ≤ c ∧ B ≤ g

/-- What 'append' leaves, as an owned row. -/
theorem Own.of_ownsRow {w : World} {base : Nat} {e : TypeId} {v : Value} {k : IntKind} {xs : List Int} (h : w.ownsRow base e 1 v xs.length (xs.map (Value.int k))) :
    ∃ (a : Option Addr) (c g : Nat), v = .slice a xs.length c ∧ Own w g a k xs ∧ (a = none → c = 0) ∧ xs.length ≤ c ∧ base ≤ g := by
  rcases h.2 with ⟨rfl, h0⟩ | ⟨g, cap, cur, rfl, hb, hg, hnc, hcm, hcs, htake⟩
  · have : xs = [] := List.eq_nil_of_length_eq_zero h0
    subst this
    exact ⟨none, 0, base, rfl, Own.nil _ _ _ _, fun _ => rfl, by simp, Nat.le_refl _⟩
  · refine ⟨some ⟨g, 0, none⟩, cap, g, rfl, fun h0 => ⟨0, rfl, fun i hi => ⟨?_, ?_⟩⟩, by simp, hnc, hb⟩
    · rw [cell_of_row w g (0 + i) cur e (0, 0) hg, Nat.zero_add]
      have : (cur.toList.take (xs.length * 1))[i]? = (xs.map (Value.int k))[i]? := by rw [htake]
      rw [List.getElem?_take, if_pos (by omega)] at this
      simpa [hi] using this
    · exact frozen_of_row w g (0 + i) cur e hg

theorem Own.only {w w' : World} {g g' : Nat} {a : Option Addr} {k : IntKind} {xs : List Int} (h : Own w g a k xs) (ho : Only g' w w') (hne : 0 < xs.length → g ≠ g') : Own w' g a k xs := by
  by_cases h0 : 0 < xs.length
  · exact h.of_block (ho.block g (hne h0))
  · exact fun h1 => absurd h1 h0

/-- Two lists of one length that agree at every place. -/
theorem eq_of_getD {xs ys : List Int} (hl : xs.length = ys.length) (h : ∀ i, i < xs.length → xs.getD i 0 = ys.getD i 0) : xs = ys := by
  apply List.ext_getElem hl
  intro i h1 h2
  have := h i h1
  simpa [h1, h2] using this

theorem getD_set_self (ys : List Int) (i : Nat) (z : Int) (h : i < ys.length) : (ys.set i z).getD i 0 = z := by simp [h]
theorem getD_set_ne (ys : List Int) (i j : Nat) (z : Int) (h : i ≠ j) : (ys.set i z).getD j 0 = ys.getD j 0 := by
  simp [h]

/-- A store into an owned row. -/
theorem Own.store {w : World} {g off : Nat} {k : IntKind} {xs : List Int} (h : Own w g (some ⟨g, off, none⟩) k xs) (i : Nat) (hi : i < xs.length) (z : Int) :
    Own (w.setCell ⟨g, off + i, none⟩ (.int k z)) g (some ⟨g, off, none⟩) k (xs.set i z) := by
  intro h0
  obtain ⟨off', ha, hc⟩ := h (by omega)
  simp only [Option.some.injEq, Addr.mk.injEq, true_and, and_true] at ha
  subst ha
  refine ⟨off, rfl, fun j hj => ?_⟩
  rw [List.length_set] at hj
  rw [World.frozen?_setCell]
  refine ⟨?_, (hc j hj).2⟩
  by_cases e : i = j
  · subst e
    rw [World.cell?_setCell_same _ _ _ (hc i hi).1, getD_set_self _ _ _ hi]
  · have hne : (⟨g, off + i, none⟩ : Addr) ≠ ⟨g, off + j, none⟩ := fun h => e (by simp only [Addr.mk.injEq, true_and, and_true] at h; omega)
    rw [World.cell?_setCell_other (h := hne), getD_set_ne _ _ _ _ e]
    exact (hc j hj).1

theorem ret_int {k : IntKind} {a b : Int} (h : a = b) : Ending.returned (.int k a) = .returned (.int k b) := by rw [h]

theorem ret_slice {a : Option Addr} {n m c : Nat} (h : n = m) : Ending.returned (.slice a n c) = .returned (.slice a m c) := by rw [h]

theorem hide {p : Prop} (h : p) : Hid p := h
theorem unhide {p : Prop} (h : Hid p) : p := h

/-- One step behind another. -/
theorem nxt {a b c : World} (h : Below a.heap.size a b) (k : Below b.heap.size b c) : Below a.heap.size a c := h.trans (k.mono h.size)

/-- The first k of n places hold f. -/
def FillTo (f : Nat → Int) (ys : List Int) (n k : Nat) : Prop := ys.length = n ∧ ∀ j, j < k → ys.getD j 0 = f j
def fill (f : Nat → Int) (n : Nat) : List Int := (List.range n).map f
theorem fill_len (f : Nat → Int) (n : Nat) : (fill f n).length = n := by simp [fill]
theorem fill_get (f : Nat → Int) (n i : Nat) (h : i < n) : (fill f n).getD i 0 = f i := by simp [fill, h]
theorem FillTo.step {f : Nat → Int} {ys : List Int} {n k : Nat} (h : FillTo f ys n k) (hk : k < n) : FillTo f (ys.set k (f k)) n (k + 1) := by
  refine ⟨by simpa using h.1, fun j hj => ?_⟩
  by_cases e : k = j
  · subst e
    rw [getD_set_self _ _ _ (by rw [h.1]; exact hk)]
  · rw [getD_set_ne _ _ _ _ e]
    exact h.2 j (by omega)
theorem FillTo.all {f : Nat → Int} {ys : List Int} {n : Nat} (h : FillTo f ys n n) : ys = fill f n :=
  eq_of_getD (by rw [h.1, fill_len]) (fun i hi => by rw [h.1] at hi; rw [h.2 i hi, fill_get f n i hi])

/-- Bytes. -/
def Byt (xs : List Int) : Prop := ∀ i, 0 ≤ xs.getD i 0 ∧ xs.getD i 0 < 256

theorem oneCells (k : IntKind) (xs : List Int) : ∀ u ∈ xs.map (Value.int k), u.oneCell' = true := by
  intro u hu
  obtain ⟨x, _, rfl⟩ := List.mem_map.1 hu
  rfl

theorem add_mid (b o j : Nat) : (⟨b, o, none⟩ : Addr).add j = ⟨b, o + j, none⟩ := by unfold Addr.add; split <;> simp_all

/-- 'copy' to the head of a block that is known whole, from whatever row. -/
theorem copy_blk {P : Program} (w : World) (ty rt e : TypeId) (hu : P.underlying ty = some (.slice e)) (hsz : (P.info? e).map (·.size) = some 1) {g : Nat} {k : IntKind} {zs : List Int} (hB : Blk w g k zs)
    (gs : Nat) (sp : Option Addr) (ys : List Int) (hr : Rd w gs sp k ys) (hl : ys.length ≤ zs.length) (dc sc : Nat) :
    ∃ w2, (Builtin.copy_ #[ty, ty] rt #[.slice (some ⟨g, 0, none⟩) zs.length dc, .slice sp ys.length sc]).run P w = .ok (goInt ys.length) w2 ∧ Blk w2 g k (ys ++ zs.drop ys.length) ∧ Only g w w2 := by
  by_cases h0 : 0 < ys.length
  · obtain ⟨off, rfl, hc⟩ := hr h0
    obtain ⟨t, hB⟩ := hB
    have hrun := run_copy_row (P := P) w ty ty rt e g 0 zs.length dc ⟨gs, off, none⟩ ys.length sc _ t (ys.map (Value.int k)) hu hsz hB (by rw [List.length_map]; exact (Nat.min_eq_left hl).symm)
      (fun j v hj => by
        have hjl : j < ys.length := by
          have := (List.getElem?_eq_some_iff.1 hj).1
          simpa using this
        rw [add_mid, hc j hjl]
        simpa [hjl] using hj) (by simp; omega) (oneCells _ _)
    rw [List.length_map] at hrun
    refine ⟨_, hrun, ⟨t, ?_⟩, ⟨rfl, rfl, rfl, by simp, fun i hi => setRow_other w g i _ hi⟩⟩
    rw [setRow_heap w g _ _ t _ hB]
    simp
  · obtain rfl : ys = [] := List.eq_nil_of_length_eq_zero (by omega)
    exact ⟨w, run_copy_none (P := P) w ty ty rt e _ _ _ _ _ _ hu hsz (by simp), by simpa using hB, Only.refl _ _⟩

/-- What the row's frame tells of a slice of bytes that came in. -/
theorem rd_of_row {w : World} {a : Option Addr} {len cap : Nat} {zs : List Int}
    (h : (a = none ∧ len = 0 ∧ cap = 0 ∧ zs = []) ∨ ∃ x, a = some x ∧ len ≤ cap ∧ cap ≤ maxLen ∧ zs.length = cap ∧ (∀ i, i < zs.length → w.cell? (x.add i) = some (.int .u8 (zs.getD i 0))) ∧ ∀ n ∈ zs, (Lit.int .u8 n).wf = true) :
    ∃ (g : Nat) (xs : List Int), xs.length = len ∧ Rd w g a .u8 xs ∧ Byt xs := by
  rcases h with ⟨rfl, rfl, rfl, rfl⟩ | ⟨x, rfl, hl, hm, hz, hc, hw⟩
  · exact ⟨0, [], rfl, Rd.nil _ _ _ _, fun i => by simp⟩
  · have hlen : (zs.take len).length = len := by simp; omega
    refine ⟨x.block, zs.take len, hlen, ?_, ?_⟩
    · intro h0
      rw [hlen] at h0
      obtain ⟨b, off, spot⟩ := x
      have h1 := hc 0 (by omega)
      have hs : spot = none := by simpa [Addr.add] using World.cell?_spot h1
      subst hs
      refine ⟨off, rfl, fun i hi => ?_⟩
      rw [hlen] at hi
      have h2 := hc i (by omega)
      have e : (⟨b, off, none⟩ : Addr).add i = ⟨b, off + i, none⟩ := by
        unfold Addr.add
        split <;> simp_all
      rw [e] at h2
      show w.cell? ⟨b, off + i, none⟩ = _
      rw [h2]
      simp [hi]
    · intro i
      by_cases hi : i < len
      · have h2 : (zs.take len).getD i 0 = zs.getD i 0 := by simp [hi]
        rw [h2]
        have h3 : zs.getD i 0 ∈ zs := by
          have : i < zs.length := by omega
          simp [this]
        have h4 := hw _ h3
        have m1 : IntKind.u8.min = 0 := by decide
        have m2 : IntKind.u8.max = 255 := by decide
        simp only [Lit.wf, m1, m2, Bool.and_eq_true, decide_eq_true_eq] at h4
        omega
      · rw [List.getD_eq_getElem?_getD, List.getElem?_eq_none (by rw [hlen]; omega)]
        decide
end Go.Proofs.YtpbniihhpfbamaaDoor

/-
  Numbers as lists of bytes (the highest first) and as lists of limbs (the lowest first): plain arithmetic.
-/
namespace Go.Proofs.YtpbniihhpfbamaaDoor
set_option maxRecDepth 100000

def bval (xs : List Int) : Int := xs.foldl (fun v x => v * 256 + x) 0
def dig (xs : List Int) (i : Nat) : Int := if i < xs.length then xs.getD (xs.length - 1 - i) 0 else 0
def hi (xs : List Int) (i : Nat) : Int := bval (xs.take (xs.length - i))
def lo (xs : List Int) : Nat → Int
  | 0 => 0
  | i + 1 => lo xs i + dig xs i * 256 ^ i
def sg (x y : Int) : Int := if x < y then -1 else if y < x then 1 else 0

theorem bval_snoc (xs : List Int) (x : Int) : bval (xs ++ [x]) = bval xs * 256 + x := by simp [bval]
theorem bval_nil : bval [] = 0 := rfl
theorem hi_zero (xs : List Int) : hi xs 0 = bval xs := by simp [hi]
theorem hi_past (xs : List Int) (i : Nat) (h : xs.length ≤ i) : hi xs i = 0 := by
  unfold hi
  rw [show xs.length - i = 0 by omega]
  rfl
theorem hi_step (xs : List Int) (i : Nat) : hi xs i = hi xs (i + 1) * 256 + dig xs i := by
  by_cases h : i < xs.length
  · unfold hi dig
    rw [if_pos h, show xs.length - i = (xs.length - (i + 1)) + 1 by omega, List.take_succ_eq_append_getElem (by omega), bval_snoc]
    simp [show xs.length - 1 - i = xs.length - (i + 1) by omega, show xs.length - (i + 1) < xs.length by omega]
  · rw [hi_past xs i (by omega), hi_past xs (i + 1) (by omega)]
    simp [dig, h]
theorem dig_byt {xs : List Int} (hb : Byt xs) (i : Nat) : 0 ≤ dig xs i ∧ dig xs i ≤ 255 := by
  unfold dig
  split
  · have := hb (xs.length - 1 - i); omega
  · omega
theorem hi_lt {a b : List Int} (ha : Byt a) (hb : Byt b) : ∀ i, hi a i < hi b i → bval a < bval b
  | 0, h => by rwa [hi_zero, hi_zero] at h
  | i + 1, h => by
    refine hi_lt ha hb i ?_
    rw [hi_step a i, hi_step b i]
    have := dig_byt ha i
    have := dig_byt hb i
    omega
theorem bval_lo (xs : List Int) : ∀ i, bval xs = hi xs i * 256 ^ i + lo xs i
  | 0 => by rw [hi_zero]; simp [lo]
  | i + 1 => by
    rw [bval_lo xs i, hi_step xs i, lo, Int.pow_succ, Int.add_mul, Int.mul_assoc, Int.mul_comm 256]
    omega
theorem lo_all (xs : List Int) (i : Nat) (h : xs.length ≤ i) : lo xs i = bval xs := by
  rw [bval_lo xs i, hi_past xs i h]; omega
theorem p256_pos (i : Nat) : (0 : Int) < 256 ^ i := Int.pow_pos (by decide)
theorem lo_bd {xs : List Int} (hb : Byt xs) : ∀ i, 0 ≤ lo xs i ∧ lo xs i < 256 ^ i
  | 0 => by simp [lo]
  | i + 1 => by
    have h := lo_bd hb i
    have hd := dig_byt hb i
    have hp := p256_pos i
    rw [lo, Int.pow_succ]
    have h1 : 0 ≤ dig xs i * 256 ^ i := Int.mul_nonneg hd.1 (by omega)
    have h2 : dig xs i * 256 ^ i ≤ 255 * 256 ^ i := Int.mul_le_mul_of_nonneg_right hd.2 (by omega)
    omega
theorem bval_nonneg {xs : List Int} (hb : Byt xs) : 0 ≤ bval xs := by
  rw [← lo_all xs xs.length (Nat.le_refl _)]; exact (lo_bd hb _).1

/-! ### limbs -/
def lval : List Int → Int
  | [] => 0
  | z :: r => z + 4294967296 * lval r
def Lmb (zs : List Int) : Prop := ∀ i, 0 ≤ zs.getD i 0 ∧ zs.getD i 0 < 4294967296
def lhi (zs : List Int) (i : Nat) : Int := lval (zs.drop i)

theorem lhi_zero (zs : List Int) : lhi zs 0 = lval zs := rfl
theorem lhi_past (zs : List Int) (i : Nat) (h : zs.length ≤ i) : lhi zs i = 0 := by
  unfold lhi; rw [List.drop_of_length_le h]; rfl
theorem lhi_step (zs : List Int) (i : Nat) : lhi zs i = zs.getD i 0 + 4294967296 * lhi zs (i + 1) := by
  by_cases h : i < zs.length
  · unfold lhi
    rw [List.drop_eq_getElem_cons h, lval]
    simp [h]
  · rw [lhi_past zs i (by omega), lhi_past zs (i + 1) (by omega)]
    simp [show zs.length ≤ i by omega]
theorem lhi_lt {a b : List Int} (ha : Lmb a) (hb : Lmb b) : ∀ i, lhi a i < lhi b i → lval a < lval b
  | 0, h => h
  | i + 1, h => by
    refine lhi_lt ha hb i ?_
    rw [lhi_step a i, lhi_step b i]
    have := ha i
    have := hb i
    omega
theorem lmb_tail {z : Int} {r : List Int} (h : Lmb (z :: r)) : (0 ≤ z ∧ z < 4294967296) ∧ Lmb r :=
  ⟨by simpa using h 0, fun i => by simpa using h (i + 1)⟩
theorem p32_pos (i : Nat) : (0 : Int) < 4294967296 ^ i := Int.pow_pos (by decide)
theorem lval_bd : ∀ {zs : List Int}, Lmb zs → 0 ≤ lval zs ∧ lval zs < 4294967296 ^ zs.length
  | [], _ => by simp [lval]
  | z :: r, h => by
    obtain ⟨hz, hr⟩ := lmb_tail h
    have := lval_bd hr
    rw [lval, List.length_cons, Int.pow_succ]
    omega
theorem lval_set (v : Int) : ∀ (zs : List Int) (q : Nat), q < zs.length → lval (zs.set q v) = lval zs + (v - zs.getD q 0) * 4294967296 ^ q
  | z :: r, 0, _ => by simp [lval]; omega
  | z :: r, q + 1, h => by
    have := lval_set v r q (by simpa using h)
    simp only [List.set_cons_succ, lval, this, List.getD_cons_succ, Int.pow_succ]
    rw [Int.mul_add, ← Int.mul_assoc (v - r.getD q 0), Int.mul_comm 4294967296 ((v - r.getD q 0) * 4294967296 ^ q)]
    omega
theorem limb_le : ∀ {zs : List Int} (_ : Lmb zs) (q : Nat), zs.getD q 0 * 4294967296 ^ q ≤ lval zs
  | [], _, q => by simp [lval]
  | z :: r, h, 0 => by
    obtain ⟨hz, hr⟩ := lmb_tail h
    have := lval_bd hr
    simp [lval]; omega
  | z :: r, h, q + 1 => by
    obtain ⟨hz, hr⟩ := lmb_tail h
    have := limb_le hr q
    rw [List.getD_cons_succ, Int.pow_succ, lval, ← Int.mul_assoc]
    omega
theorem lmb_set {zs : List Int} (h : Lmb zs) (q : Nat) (v : Int) (h0 : 0 ≤ v) (h1 : v < 4294967296) : Lmb (zs.set q v) := by
  intro i
  by_cases e : q = i
  · subst e
    by_cases hq : q < zs.length
    · rw [getD_set_self _ _ _ hq]; exact ⟨h0, h1⟩
    · have := h q
      rwa [List.set_eq_of_length_le (by omega)]
  · rw [getD_set_ne _ _ _ _ e]; exact h i
theorem lmb_zeros (n : Nat) : Lmb (List.replicate n 0) := by
  intro i
  by_cases h : i < n <;> simp [h]
theorem lval_zeros : ∀ n, lval (List.replicate n 0) = 0
  | 0 => rfl
  | n + 1 => by rw [List.replicate_succ, lval, lval_zeros n]; rfl
theorem lmb_take {zs : List Int} (h : Lmb zs) (s : Nat) : Lmb (zs.take s) := by
  intro i
  by_cases e : i < s
  · have := h i
    simpa [List.getElem?_take, e] using this
  · simp [List.getElem?_take, e]
theorem lval_take : ∀ (zs : List Int) (s : Nat), (∀ j, s ≤ j → zs.getD j 0 = 0) → lval (zs.take s) = lval zs
  | [], s, _ => by simp
  | z :: r, 0, h => by
    have h0 := h 0 (by omega)
    have := lval_take r 0 (fun j _ => by simpa using h (j + 1) (by omega))
    simp at h0 this
    simp [lval, h0, ← this]
  | z :: r, s + 1, h => by
    have := lval_take r s (fun j hj => by simpa using h (j + 1) (by omega))
    simp [lval, this]
/-- No limb 0 at the end. -/
def Top (zs : List Int) : Prop := 0 < zs.length → zs.getD (zs.length - 1) 0 ≠ 0
theorem lval_ge {zs : List Int} (h : Lmb zs) (ht : Top zs) (h0 : 0 < zs.length) : 4294967296 ^ (zs.length - 1) ≤ lval zs := by
  have h1 := limb_le h (zs.length - 1)
  have h2 := ht h0
  have h3 := h (zs.length - 1)
  have hp := p32_pos (zs.length - 1)
  have : 1 * 4294967296 ^ (zs.length - 1) ≤ zs.getD (zs.length - 1) 0 * (4294967296 : Int) ^ (zs.length - 1) := Int.mul_le_mul_of_nonneg_right (by omega) (by omega)
  omega
theorem p32_mono {i j : Nat} (h : i ≤ j) : (4294967296 : Int) ^ i ≤ 4294967296 ^ j := by
  obtain ⟨d, rfl⟩ := Nat.le.dest h
  induction d with
  | zero => exact Int.le_refl _
  | succ d ih =>
    have := ih (by omega)
    have hp := p32_pos (i + d)
    rw [← Nat.add_assoc, Int.pow_succ]; omega
theorem lval_lt_of_len {a b : List Int} (ha : Lmb a) (hb : Lmb b) (ht : Top b) (h : a.length < b.length) : lval a < lval b := by
  have h1 := (lval_bd ha).2
  have h2 := lval_ge hb ht (by omega)
  have h3 := p32_mono (show a.length ≤ b.length - 1 by omega)
  omega

/-! ### the one form of a number -/
/-- No byte 0 ahead. -/
def Canon (ys : List Int) (v : Int) : Prop := Byt ys ∧ bval ys = v ∧ (0 < ys.length → ys.getD 0 0 ≠ 0)
theorem hi_same {a b : List Int} (ha : Byt a) (hb : Byt b) (h : bval a = bval b) : ∀ i, hi a i = hi b i
  | 0 => by rw [hi_zero, hi_zero, h]
  | i + 1 => by
    have h0 := hi_same ha hb h i
    rw [hi_step a i, hi_step b i] at h0
    have := dig_byt ha i
    have := dig_byt hb i
    omega
theorem dig_same {a b : List Int} (ha : Byt a) (hb : Byt b) (h : bval a = bval b) (i : Nat) : dig a i = dig b i := by
  have h0 := hi_same ha hb h i
  have h1 := hi_same ha hb h (i + 1)
  rw [hi_step a i, hi_step b i, h1] at h0
  omega
theorem dig_top (a : List Int) (h : 0 < a.length) : dig a (a.length - 1) = a.getD 0 0 := by
  unfold dig
  rw [if_pos (by omega), show a.length - 1 - (a.length - 1) = 0 by omega]
theorem canon_len {a b : List Int} {v : Int} (ha : Canon a v) (hb : Canon b v) : ¬ a.length < b.length := by
  intro h
  have h1 := dig_same ha.1 hb.1 (ha.2.1.trans hb.2.1.symm) (b.length - 1)
  rw [dig_top b (by omega)] at h1
  have h2 : dig a (b.length - 1) = 0 := by unfold dig; rw [if_neg (by omega)]
  exact hb.2.2 (by omega) (by omega)
theorem Canon.uniq {a b : List Int} {v : Int} (ha : Canon a v) (hb : Canon b v) : a = b := by
  have hl : a.length = b.length := by
    have h1 := canon_len ha hb
    have h2 := canon_len hb ha
    omega
  refine eq_of_getD hl (fun i hi => ?_)
  have h1 := dig_same ha.1 hb.1 (ha.2.1.trans hb.2.1.symm) (a.length - 1 - i)
  unfold dig at h1
  rw [if_pos (by omega), if_pos (by omega), show a.length - 1 - (a.length - 1 - i) = i by omega, show b.length - 1 - (a.length - 1 - i) = i by omega] at h1
  exact h1
theorem bval_cons0 (xs : List Int) : bval (0 :: xs) = bval xs := rfl
theorem bval_drop : ∀ (xs : List Int) (k : Nat), (∀ j, j < k → xs.getD j 0 = 0) → bval (xs.drop k) = bval xs
  | xs, 0, _ => by simp
  | [], k + 1, _ => by simp
  | x :: r, k + 1, h => by
    have h0 := h 0 (by omega)
    simp at h0
    subst h0
    rw [List.drop_succ_cons, bval_cons0]
    exact bval_drop r k (fun j hj => by simpa using h (j + 1) (by omega))
theorem byt_drop {xs : List Int} (h : Byt xs) (k : Nat) : Byt (xs.drop k) := fun i => by
  have := h (k + i)
  simpa [List.getElem?_drop] using this
theorem byt_nil : Byt [] := fun i => by simp
/-- The first k bytes are 0. -/
def ZeroTo (xs : List Int) (k : Nat) : Prop := ∀ j, j < k → xs.getD j 0 = 0
theorem ZeroTo.step {xs : List Int} {k : Nat} (h : ZeroTo xs k) (h0 : xs.getD k 0 = 0) : ZeroTo xs (k + 1) := fun j hj => by
  by_cases e : j = k
  · rw [e]; exact h0
  · exact h j (by omega)
theorem ZeroTo.canon {xs : List Int} {k : Nat} (h : ZeroTo xs k) (hb : Byt xs) (hk : k < xs.length → xs.getD k 0 ≠ 0) : Canon (xs.drop k) (bval xs) := by
  refine ⟨byt_drop hb k, bval_drop xs k h, fun h0 => ?_⟩
  have := hk (by rw [List.length_drop] at h0; omega)
  simpa [List.getElem?_drop] using this

theorem p256_4 (r : Nat) : ∀ q : Nat, (256 : Int) ^ (4 * q + r) = 4294967296 ^ q * 256 ^ r
  | 0 => by simp
  | q + 1 => by
    have := p256_4 r q
    rw [show 4 * (q + 1) + r = (4 * q + r) + 1 + 1 + 1 + 1 by omega, Int.pow_succ, Int.pow_succ, Int.pow_succ, Int.pow_succ, this, Int.pow_succ, Int.mul_right_comm (4294967296 ^ q) 4294967296 (256 ^ r)]
    omega

theorem sg_lt {x y : Int} (h : x < y) : sg x y = -1 := by simp [sg, h]
theorem sg_gt {x y : Int} (h : y < x) : sg x y = 1 := by simp [sg, h]; omega
theorem sg_eq {x y : Int} (h : x = y) : sg x y = 0 := by simp [sg, h]
end Go.Proofs.YtpbniihhpfbamaaDoor

/-
  The contracts of the model's small functions of chapter 1: a digit, a comparison, the limit.
-/
namespace Go.Proofs.YtpbniihhpfbamaaDoor
set_option maxRecDepth 100000
open Go.RowKit

/-- Above place k the two are one. -/
def HiEq (a b : List Int) (k : Nat) : Prop := hi a k = hi b k

end Go.Proofs.YtpbniihhpfbamaaDoor
