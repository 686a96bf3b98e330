import Derived.WalkKit
import Derived.Below
import Derived.Laws.CopyOwn
import Derived.Deep.Draws
import Derived.Laws.AppendOwnNone
import Derived.Lib.AppendZeros
import Derived.Deep.MidRow

/-
  Rows of integers in memory, block by block: what is read, what is owned, what stays. No program in sight.
-/
namespace Go.Proofs.Ytjjoimlnpbelpaa
open Go.RowKit

/-- The cells of a slice that is read: if it has elements, they lie in block g. -/
def Rd (w : World) (g : Nat) (a : Option Addr) (k : IntKind) (xs : List Int) : Prop :=
  0 < xs.length → ∃ off, a = some ⟨g, off, none⟩ ∧ ∀ i, i < xs.length → w.cell? ⟨g, off + i, none⟩ = some (.int k (xs.getD i 0))

/-- The same, and they may be written. -/
def Own (w : World) (g : Nat) (a : Option Addr) (k : IntKind) (xs : List Int) : Prop :=
  0 < xs.length → ∃ off, a = some ⟨g, off, none⟩ ∧ ∀ i, i < xs.length → w.cell? ⟨g, off + i, none⟩ = some (.int k (xs.getD i 0)) ∧ w.frozen? ⟨g, off + i, none⟩ = false

/-- Block g holds just these integers. -/
def Blk (w : World) (g : Nat) (k : IntKind) (ys : List Int) : Prop :=
  ∃ e, w.heap[g]? = some (.cells (ys.map (Value.int k)).toArray e (0, 0))

theorem Own.rd {w : World} {g : Nat} {a : Option Addr} {k : IntKind} {xs : List Int} (h : Own w g a k xs) : Rd w g a k xs := by
  intro h0
  obtain ⟨off, ha, hc⟩ := h h0
  exact ⟨off, ha, fun i hi => (hc i hi).1⟩

theorem Rd.nil (w : World) (g : Nat) (a : Option Addr) (k : IntKind) : Rd w g a k [] := fun h => absurd h (by simp)
theorem Own.nil (w : World) (g : Nat) (a : Option Addr) (k : IntKind) : Own w g a k [] := fun h => absurd h (by simp)

theorem Rd.lt {w : World} {g : Nat} {a : Option Addr} {k : IntKind} {xs : List Int} (h : Rd w g a k xs) (h0 : 0 < xs.length) : g < w.heap.size := by
  obtain ⟨off, ha, hc⟩ := h h0
  exact block_lt_of_cell (hc 0 h0)

theorem Rd.of_block {w w' : World} {g : Nat} {a : Option Addr} {k : IntKind} {xs : List Int} (h : Rd w g a k xs) (hb : w'.heap[g]? = w.heap[g]?) : Rd w' g a k xs := by
  intro h0
  obtain ⟨off, ha, hc⟩ := h h0
  exact ⟨off, ha, fun i hi => (World.cell?_of_block (a := ⟨g, off + i, none⟩) hb).trans (hc i hi)⟩

theorem Own.of_block {w w' : World} {g : Nat} {a : Option Addr} {k : IntKind} {xs : List Int} (h : Own w g a k xs) (hb : w'.heap[g]? = w.heap[g]?) : Own w' g a k xs := by
  intro h0
  obtain ⟨off, ha, hc⟩ := h h0
  exact ⟨off, ha, fun i hi => ⟨(World.cell?_of_block (a := ⟨g, off + i, none⟩) hb).trans (hc i hi).1, (World.frozen?_of_block (a := ⟨g, off + i, none⟩) hb).trans (hc i hi).2⟩⟩

theorem Rd.up {w w' : World} {g : Nat} {a : Option Addr} {k : IntKind} {xs : List Int} (h : Rd w g a k xs) (hb : Below w.heap.size w w') : Rd w' g a k xs := by
  by_cases h0 : 0 < xs.length
  · exact h.of_block (hb.block g (h.lt h0))
  · exact fun h1 => absurd h1 h0

theorem Own.up {w w' : World} {g : Nat} {a : Option Addr} {k : IntKind} {xs : List Int} (h : Own w g a k xs) (hb : Below w.heap.size w w') : Own w' g a k xs := by
  by_cases h0 : 0 < xs.length
  · exact h.of_block (hb.block g (h.rd.lt h0))
  · exact fun h1 => absurd h1 h0

theorem Blk.lt {w : World} {g : Nat} {k : IntKind} {ys : List Int} (h : Blk w g k ys) : g < w.heap.size := by
  obtain ⟨e, h⟩ := h
  exact (Array.getElem?_eq_some_iff.1 h).1

theorem Blk.cell {w : World} {g : Nat} {k : IntKind} {ys : List Int} (h : Blk w g k ys) {i : Nat} (hi : i < ys.length) : w.cell? ⟨g, i, none⟩ = some (.int k (ys.getD i 0)) := by
  obtain ⟨e, h⟩ := h
  rw [cell_of_row w g i _ e (0, 0) h]
  simp [hi]

theorem Blk.free {w : World} {g : Nat} {k : IntKind} {ys : List Int} (h : Blk w g k ys) (i : Nat) : w.frozen? ⟨g, i, none⟩ = false := by
  obtain ⟨e, h⟩ := h
  exact frozen_of_row w g i _ e h

theorem Blk.store {w : World} {g : Nat} {k : IntKind} {ys : List Int} (h : Blk w g k ys) (i : Nat) (z : Int) : Blk (w.setCell ⟨g, i, none⟩ (.int k z)) g k (ys.set i z) := by
  obtain ⟨e, h⟩ := h
  refine ⟨e, ?_⟩
  rw [heap_setCell_same w g i _ e _ h]
  simp [List.map_set]

theorem Blk.of_block {w w' : World} {g : Nat} {k : IntKind} {ys : List Int} (h : Blk w g k ys) (hb : w'.heap[g]? = w.heap[g]?) : Blk w' g k ys := by
  obtain ⟨e, h⟩ := h
  exact ⟨e, hb.trans h⟩

theorem Blk.up {w w' : World} {g : Nat} {k : IntKind} {ys : List Int} (h : Blk w g k ys) (hb : Below w.heap.size w w') : Blk w' g k ys :=
  h.of_block (hb.block g h.lt)

theorem Blk.drew {w : World} {g : Nat} {k : IntKind} {ys : List Int} (h : Blk w g k ys) : Blk w.drew g k ys := h

/-- A slice over a part of a block that is known whole. -/
theorem Blk.own {w : World} {g : Nat} {k : IntKind} {ys xs : List Int} (h : Blk w g k ys) (off : Nat) (hl : off + xs.length ≤ ys.length) (hx : ∀ i, i < xs.length → ys.getD (off + i) 0 = xs.getD i 0) :
    Own w g (some ⟨g, off, none⟩) k xs := by
  intro h0
  refine ⟨off, rfl, fun i hi => ⟨?_, h.free _⟩⟩
  rw [h.cell (by omega), hx i hi]

theorem Blk.own0 {w : World} {g : Nat} {k : IntKind} {ys : List Int} (h : Blk w g k ys) : Own w g (some ⟨g, 0, none⟩) k ys :=
  h.own 0 (by omega) (fun i _ => by rw [Nat.zero_add])

/-- Nothing but block g has turned. -/
structure Only (g : Nat) (w w' : World) : Prop where
  os : w'.os = w.os
  tape : w'.tape = w.tape
  output : w'.output = w.output
  size : w'.heap.size = w.heap.size
  block : ∀ k, k ≠ g → w'.heap[k]? = w.heap[k]?

theorem Only.refl (g : Nat) (w : World) : Only g w w := ⟨rfl, rfl, rfl, rfl, fun _ _ => rfl⟩
theorem Only.trans {g : Nat} {a b c : World} (h : Only g a b) (k : Only g b c) : Only g a c :=
  ⟨k.os.trans h.os, k.tape.trans h.tape, k.output.trans h.output, k.size.trans h.size, fun i hi => (k.block i hi).trans (h.block i hi)⟩
theorem Only.setCell (w : World) (g i : Nat) (u : Value) : Only g w (w.setCell ⟨g, i, none⟩ u) :=
  ⟨rfl, rfl, rfl, by simp [World.setCell], fun k hk => heap_setCell_other w ⟨g, i, none⟩ k u hk⟩
theorem Only.drewN (w : World) (g n : Nat) : Only g w (w.drewN n) := ⟨rfl, rfl, rfl, rfl, fun _ _ => rfl⟩
theorem Only.below {g B : Nat} {w w' : World} (h : Only g w w') (hB : B ≤ g) : Below B w w' :=
  ⟨h.os, h.tape, h.output, Nat.le_of_eq h.size.symm, fun k hk => h.block k (by omega)⟩
theorem below_drewN {B : Nat} {a w : World} (h : Below B a w) (n : Nat) : Below B a (w.drewN n) := h.trans ⟨rfl, rfl, rfl, Nat.le_refl _, fun _ _ => rfl⟩

/-- What 'make' leaves, as a block. -/
theorem Blk.of_made {w : World} {base : Nat} {e : TypeId} {g n : Nat} {k : IntKind} (h : w.ownsRow base e 1 (.slice (some ⟨g, 0, none⟩) n n) n (madeCells (Value.int k 0).cells (n * 1)).toList) :
    Blk w g k (List.replicate n 0) := by
  rcases h.2 with ⟨h', _⟩ | ⟨g', cap', cur, h', _, hg, _, _, hcs, htake⟩
  · simp at h'
  · simp only [Value.slice.injEq, Option.some.injEq, Addr.mk.injEq, and_true, true_and] at h'
    obtain ⟨rfl, rfl⟩ := h'
    refine ⟨e, ?_⟩
    rw [hg]
    have : cur = ((List.replicate n (0 : Int)).map (Value.int k)).toArray := by
      apply Array.ext'
      rw [List.take_of_length_le (by rw [Array.length_toList, hcs]; exact Nat.le_refl _)] at htake
      rw [htake]
      apply List.ext_getElem
      · simp [madeCells]
      · intro i h1 h2
        simp [madeCells, Value.cells, Nat.mod_one]
    rw [this]

/-- A slice that the call made is handed back. -/
def NewRow (B : Nat) (w' : World) (e : Ending) (k : IntKind) (ys : List Int) : Prop :=
  ∃ (a : Option Addr) (c g : Nat), e = .returned (.slice a ys.length c) ∧ Own w' g a k ys ∧ (a = none → c = 0) ∧ ys.length ≤ c ∧ B ≤ g

/-- What 'append' leaves, as an owned row. -/
theorem Own.of_ownsRow {w : World} {base : Nat} {e : TypeId} {v : Value} {k : IntKind} {xs : List Int} (h : w.ownsRow base e 1 v xs.length (xs.map (Value.int k))) :
    ∃ (a : Option Addr) (c g : Nat), v = .slice a xs.length c ∧ Own w g a k xs ∧ (a = none → c = 0) ∧ xs.length ≤ c ∧ base ≤ g := by
  rcases h.2 with ⟨rfl, h0⟩ | ⟨g, cap, cur, rfl, hb, hg, hnc, hcm, hcs, htake⟩
  · have : xs = [] := List.eq_nil_of_length_eq_zero h0
    subst this
    exact ⟨none, 0, base, rfl, Own.nil _ _ _ _, fun _ => rfl, by simp, Nat.le_refl _⟩
  · refine ⟨some ⟨g, 0, none⟩, cap, g, rfl, fun h0 => ⟨0, rfl, fun i hi => ⟨?_, ?_⟩⟩, by simp, hnc, hb⟩
    · rw [cell_of_row w g (0 + i) cur e (0, 0) hg, Nat.zero_add]
      have : (cur.toList.take (xs.length * 1))[i]? = (xs.map (Value.int k))[i]? := by rw [htake]
      rw [List.getElem?_take, if_pos (by omega)] at this
      simpa [hi] using this
    · exact frozen_of_row w g (0 + i) cur e hg

theorem Own.only {w w' : World} {g g' : Nat} {a : Option Addr} {k : IntKind} {xs : List Int} (h : Own w g a k xs) (ho : Only g' w w') (hne : 0 < xs.length → g ≠ g') : Own w' g a k xs := by
  by_cases h0 : 0 < xs.length
  · exact h.of_block (ho.block g (hne h0))
  · exact fun h1 => absurd h1 h0

/-- Two lists of one length that agree at every place. -/
theorem eq_of_getD {xs ys : List Int} (hl : xs.length = ys.length) (h : ∀ i, i < xs.length → xs.getD i 0 = ys.getD i 0) : xs = ys := by
  apply List.ext_getElem hl
  intro i h1 h2
  have := h i h1
  simpa [h1, h2] using this

theorem getD_set_self (ys : List Int) (i : Nat) (z : Int) (h : i < ys.length) : (ys.set i z).getD i 0 = z := by simp [h]
theorem getD_set_ne (ys : List Int) (i j : Nat) (z : Int) (h : i ≠ j) : (ys.set i z).getD j 0 = ys.getD j 0 := by
  simp [h]

/-- A store into an owned row. -/
theorem Own.store {w : World} {g off : Nat} {k : IntKind} {xs : List Int} (h : Own w g (some ⟨g, off, none⟩) k xs) (i : Nat) (hi : i < xs.length) (z : Int) :
    Own (w.setCell ⟨g, off + i, none⟩ (.int k z)) g (some ⟨g, off, none⟩) k (xs.set i z) := by
  intro h0
  obtain ⟨off', ha, hc⟩ := h (by omega)
  simp only [Option.some.injEq, Addr.mk.injEq, true_and, and_true] at ha
  subst ha
  refine ⟨off, rfl, fun j hj => ?_⟩
  rw [List.length_set] at hj
  rw [World.frozen?_setCell]
  refine ⟨?_, (hc j hj).2⟩
  by_cases e : i = j
  · subst e
    rw [World.cell?_setCell_same _ _ _ (hc i hi).1, getD_set_self _ _ _ hi]
  · have hne : (⟨g, off + i, none⟩ : Addr) ≠ ⟨g, off + j, none⟩ := fun h => e (by simp only [Addr.mk.injEq, true_and, and_true] at h; omega)
    rw [World.cell?_setCell_other (h := hne), getD_set_ne _ _ _ _ e]
    exact (hc j hj).1

theorem ret_int {k : IntKind} {a b : Int} (h : a = b) : Ending.returned (.int k a) = .returned (.int k b) := by rw [h]

theorem ret_slice {a : Option Addr} {n m c : Nat} (h : n = m) : Ending.returned (.slice a n c) = .returned (.slice a m c) := by rw [h]

theorem hide {p : Prop} (h : p) : Hid p := h
theorem unhide {p : Prop} (h : Hid p) : p := h

/-- One step behind another. -/
theorem nxt {a b c : World} (h : Below a.heap.size a b) (k : Below b.heap.size b c) : Below a.heap.size a c := h.trans (k.mono h.size)

/-- The first k of n places hold f. -/
def FillTo (f : Nat → Int) (ys : List Int) (n k : Nat) : Prop := ys.length = n ∧ ∀ j, j < k → ys.getD j 0 = f j
def fill (f : Nat → Int) (n : Nat) : List Int := (List.range n).map f
theorem fill_len (f : Nat → Int) (n : Nat) : (fill f n).length = n := by simp [fill]
theorem fill_get (f : Nat → Int) (n i : Nat) (h : i < n) : (fill f n).getD i 0 = f i := by simp [fill, h]
theorem FillTo.step {f : Nat → Int} {ys : List Int} {n k : Nat} (h : FillTo f ys n k) (hk : k < n) : FillTo f (ys.set k (f k)) n (k + 1) := by
  refine ⟨by simpa using h.1, fun j hj => ?_⟩
  by_cases e : k = j
  · subst e
    rw [getD_set_self _ _ _ (by rw [h.1]; exact hk)]
  · rw [getD_set_ne _ _ _ _ e]
    exact h.2 j (by omega)
theorem FillTo.all {f : Nat → Int} {ys : List Int} {n : Nat} (h : FillTo f ys n n) : ys = fill f n :=
  eq_of_getD (by rw [h.1, fill_len]) (fun i hi => by rw [h.1] at hi; rw [h.2 i hi, fill_get f n i hi])

/-- Bytes. -/
def Byt (xs : List Int) : Prop := ∀ i, 0 ≤ xs.getD i 0 ∧ xs.getD i 0 < 256

theorem oneCells (k : IntKind) (xs : List Int) : ∀ u ∈ xs.map (Value.int k), u.oneCell' = true := by
  intro u hu
  obtain ⟨x, _, rfl⟩ := List.mem_map.1 hu
  rfl

theorem add_mid (b o j : Nat) : (⟨b, o, none⟩ : Addr).add j = ⟨b, o + j, none⟩ := by unfold Addr.add; split <;> simp_all

/-- 'copy' to the head of a block that is known whole, from whatever row. -/
theorem copy_blk {P : Program} (w : World) (ty rt e : TypeId) (hu : P.underlying ty = some (.slice e)) (hsz : (P.info? e).map (·.size) = some 1) {g : Nat} {k : IntKind} {zs : List Int} (hB : Blk w g k zs)
    (gs : Nat) (sp : Option Addr) (ys : List Int) (hr : Rd w gs sp k ys) (hl : ys.length ≤ zs.length) (dc sc : Nat) :
    ∃ w2, (Builtin.copy_ #[ty, ty] rt #[.slice (some ⟨g, 0, none⟩) zs.length dc, .slice sp ys.length sc]).run P w = .ok (goInt ys.length) w2 ∧ Blk w2 g k (ys ++ zs.drop ys.length) ∧ Only g w w2 := by
  by_cases h0 : 0 < ys.length
  · obtain ⟨off, rfl, hc⟩ := hr h0
    obtain ⟨t, hB⟩ := hB
    have hrun := run_copy_row (P := P) w ty ty rt e g 0 zs.length dc ⟨gs, off, none⟩ ys.length sc _ t (ys.map (Value.int k)) hu hsz hB (by rw [List.length_map]; exact (Nat.min_eq_left hl).symm)
      (fun j v hj => by
        have hjl : j < ys.length := by
          have := (List.getElem?_eq_some_iff.1 hj).1
          simpa using this
        rw [add_mid, hc j hjl]
        simpa [hjl] using hj) (by simp; omega) (oneCells _ _)
    rw [List.length_map] at hrun
    refine ⟨_, hrun, ⟨t, ?_⟩, ⟨rfl, rfl, rfl, by simp, fun i hi => setRow_other w g i _ hi⟩⟩
    rw [setRow_heap w g _ _ t _ hB]
    simp
  · obtain rfl : ys = [] := List.eq_nil_of_length_eq_zero (by omega)
    exact ⟨w, run_copy_none (P := P) w ty ty rt e _ _ _ _ _ _ hu hsz (by simp), by simpa using hB, Only.refl _ _⟩

/-- What the row's frame tells of a slice of bytes that came in. -/
theorem rd_of_row {w : World} {a : Option Addr} {len cap : Nat} {zs : List Int}
    (h : (a = none ∧ len = 0 ∧ cap = 0 ∧ zs = []) ∨ ∃ x, a = some x ∧ len ≤ cap ∧ cap ≤ maxLen ∧ zs.length = cap ∧ (∀ i, i < zs.length → w.cell? (x.add i) = some (.int .u8 (zs.getD i 0))) ∧ ∀ n ∈ zs, (Lit.int .u8 n).wf = true) :
    ∃ (g : Nat) (xs : List Int), xs.length = len ∧ Rd w g a .u8 xs ∧ Byt xs := by
  rcases h with ⟨rfl, rfl, rfl, rfl⟩ | ⟨x, rfl, hl, hm, hz, hc, hw⟩
  · exact ⟨0, [], rfl, Rd.nil _ _ _ _, fun i => by simp⟩
  · have hlen : (zs.take len).length = len := by simp; omega
    refine ⟨x.block, zs.take len, hlen, ?_, ?_⟩
    · intro h0
      rw [hlen] at h0
      obtain ⟨b, off, spot⟩ := x
      have h1 := hc 0 (by omega)
      have hs : spot = none := by simpa [Addr.add] using World.cell?_spot h1
      subst hs
      refine ⟨off, rfl, fun i hi => ?_⟩
      rw [hlen] at hi
      have h2 := hc i (by omega)
      have e : (⟨b, off, none⟩ : Addr).add i = ⟨b, off + i, none⟩ := by
        unfold Addr.add
        split <;> simp_all
      rw [e] at h2
      show w.cell? ⟨b, off + i, none⟩ = _
      rw [h2]
      simp [hi]
    · intro i
      by_cases hi : i < len
      · have h2 : (zs.take len).getD i 0 = zs.getD i 0 := by simp [hi]
        rw [h2]
        have h3 : zs.getD i 0 ∈ zs := by
          have : i < zs.length := by omega
          simp [this]
        have h4 := hw _ h3
        have m1 : IntKind.u8.min = 0 := by decide
        have m2 : IntKind.u8.max = 255 := by decide
        simp only [Lit.wf, m1, m2, Bool.and_eq_true, decide_eq_true_eq] at h4
        omega
      · rw [List.getD_eq_getElem?_getD, List.getElem?_eq_none (by rw [hlen]; omega)]
        decide
end Go.Proofs.Ytjjoimlnpbelpaa

/-
  A row of bytes appended to an owned row of bytes, nil ones too, as one equation. No program in sight.
-/
namespace Go.Proofs.Ytjjoimlnpbelpaa
open Go.RowKit

/-- A row of bytes that the walk owns. -/
def RowB (w : World) (base : Nat) (v : Value) (xs : List Int) : Prop := w.ownsRow base 5 1 v xs.length (xs.map (Value.int .u8))
theorem RowB.up {w w' : World} {base : Nat} {v : Value} {xs : List Int} (h : RowB w base v xs) (hb : Below w.heap.size w w') : RowB w' base v xs := by
  refine ⟨h.1, ?_⟩
  rcases h.2 with h' | ⟨g, cap, cur, rfl, hbg, hg, hnc, hcm, hcs, ht⟩
  · exact .inl h'
  · exact .inr ⟨g, cap, cur, rfl, hbg, by rw [hb.block g ((Array.getElem?_eq_some_iff.1 hg).1)]; exact hg, hnc, hcm, hcs, ht⟩
theorem RowB.only {w w' : World} {base q : Nat} {v : Value} {xs : List Int} (h : RowB w base v xs) (hb : Only q w w') (hq : q < base) : RowB w' base v xs := by
  refine ⟨h.1, ?_⟩
  rcases h.2 with h' | ⟨g, cap, cur, rfl, hbg, hg, hnc, hcm, hcs, ht⟩
  · exact .inl h'
  · exact .inr ⟨g, cap, cur, rfl, hbg, by rw [hb.block g (by omega)]; exact hg, hnc, hcm, hcs, ht⟩
theorem RowB.base {w : World} {base base' : Nat} {v : Value} {xs : List Int} (h : RowB w base v xs) (hb : base' ≤ base) : RowB w base' v xs := by
  refine ⟨h.1, ?_⟩
  rcases h.2 with h' | ⟨g, cap, cur, rfl, hbg, hg, hnc, hcm, hcs, ht⟩
  · exact .inl h'
  · exact .inr ⟨g, cap, cur, rfl, by omega, hg, hnc, hcm, hcs, ht⟩
theorem RowB.own {w : World} {base : Nat} {v : Value} {xs : List Int} (h : RowB w base v xs) :
    ∃ (a : Option Addr) (c g : Nat), v = .slice a xs.length c ∧ Own w g a .u8 xs ∧ (a = none → c = 0) ∧ xs.length ≤ c ∧ base ≤ g := Own.of_ownsRow h
/-- What an append leaves, with all that is asked of it. -/
theorem append_any {P : Program} (w : World) (ty : TypeId) (i : TypeInfo) (ht : P.underlying 25 = some (.slice 5)) (hi : P.info? 5 = some i) (hz : i.zero = some (.int .u8 0)) (hsize : i.size = 1) (hby : i.bytes = 1)
    (base B : Nat) (v : Value) (xs : List Int) (hown : RowB w base v xs) (g : Nat) (a : Option Addr) (c : Nat) (us : List Int) (hr : Rd w g a .u8 us) (hc : a = none → c = 0) (hl : xs.length + us.length ≤ 1099511627776) (hB : B ≤ base) (hbase : base ≤ w.heap.size) :
    ∃ v' w', (Builtin.append_ #[25, 25] ty #[v, .slice a us.length c]).run P w = .ok v' w' ∧ RowB w' base v' (xs ++ us) ∧ Below B w w' := by
  cases a with
  | none =>
    obtain rfl : us = [] := by
      by_cases h0 : 0 < us.length
      · obtain ⟨off, h, _⟩ := hr h0
        simp at h
      · exact List.eq_nil_of_length_eq_zero (by omega)
    obtain rfl := hc rfl
    exact ⟨v, w, run_append_owned_none (P := P) (w := w) base 25 ty 5 i 1 ht hi v _ _ hown, by rw [List.append_nil]; exact hown, Below.refl _ _⟩
  | some ad =>
    have hcell : ∀ j u, (us.map (Value.int .u8))[j]? = some u → w.cell? (ad.add j) = some u := by
      intro j u hj
      have hjl : j < us.length := by
        have := (List.getElem?_eq_some_iff.1 hj).1
        simpa using this
      obtain ⟨off, ha, hcc⟩ := hr (by omega)
      simp only [Option.some.injEq] at ha
      subst ha
      rw [Addr.add_mid, hcc j hjl]
      simpa [hjl] using hj
    have hone : ∀ u ∈ us.map (Value.int .u8), u.oneCell' = true := by
      intro u hu
      obtain ⟨x, _, rfl⟩ := List.mem_map.1 hu
      rfl
    obtain ⟨v', w', h1, h2, h3, _⟩ := run_append_own (P := P) w base 25 ty 5 i (.int .u8 0) 1 1 ht hi hz hsize hby rfl (by decide) v xs.length (xs.map (Value.int .u8)) hown ad us.length c (us.map (Value.int .u8)) (by simp) hcell hone (by unfold maxLen; omega) (by omega) hbase
    refine ⟨v', w', h1, ?_, (Below.refl B w).grown h3 (by omega) (fun k hk => by have := (World.ownsRow.lt hown k hk).1; omega)⟩
    show w'.ownsRow base 5 1 v' (xs ++ us).length ((xs ++ us).map (Value.int .u8))
    rw [List.length_append, List.map_append]
    exact h2
theorem RowB.lit0 (w : World) : RowB (w.alloc (.cells #[] 5)) w.heap.size (.slice (some ⟨w.heap.size, 0, none⟩) 0 0) [] :=
  World.ownsRow_lit w #[] 0 (Nat.le_refl _) (by unfold maxLen; omega) (by simp)
theorem RowB.lit1 (w : World) (x : Int) : RowB (w.alloc (.cells #[.int .u8 x] 5)) w.heap.size (.slice (some ⟨w.heap.size, 0, none⟩) 1 1) [x] :=
  World.ownsRow_lit w #[.int .u8 x] 1 (Nat.le_refl _) (by unfold maxLen; omega) (by simp)
theorem RowB.rd {w : World} {base : Nat} {v : Value} {xs : List Int} (h : RowB w base v xs) : ∃ (a : Option Addr) (c g : Nat), v = .slice a xs.length c ∧ Rd w g a .u8 xs ∧ (a = none → c = 0) ∧ xs.length ≤ c ∧ base ≤ g := by
  obtain ⟨a, c, g, h1, h2, h3⟩ := h.own
  exact ⟨a, c, g, h1, h2.rd, h3⟩
theorem newRow_e (w : World) (k : IntKind) : NewRow w.heap.size (w.alloc (.cells #[] 5)) (.returned (.slice (some ⟨w.heap.size, 0, none⟩) 0 0)) k [] :=
  ⟨_, 0, w.heap.size, rfl, Own.nil _ _ _ _, by simp, Nat.zero_le _, Nat.le_refl _⟩
theorem newRow_z (w : World) (k : IntKind) : NewRow w.heap.size w (.returned (.slice none 0 0)) k [] :=
  ⟨_, 0, w.heap.size, rfl, Own.nil _ _ _ _, by simp, Nat.zero_le _, Nat.le_refl _⟩
theorem blk_lit1 (w : World) (k : IntKind) (e : TypeId) (x : Int) : Blk (w.alloc (.cells #[.int k x] e)) w.heap.size k [x] := by
  refine ⟨e, ?_⟩
  show (w.heap.push _)[w.heap.size]? = _
  simp
end Go.Proofs.Ytjjoimlnpbelpaa
