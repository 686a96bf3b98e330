import Derived.Test.YtflecleofaeiiaaGreatGD1
import Derived.Test.YtflecleofaeiiaaGreatGD4
import Derived.WalkLawsBesides
import Derived.Laws.Bits64b
import Derived.Deep.Cut
import Derived.Laws.AppendOwnNone
import Derived.Lib.AppendZeros
import Derived.Deep.MidRow
import Derived.Test.YtflecleofaeiiaaGreatGD3
import Derived.Test.YtflecleofaeiiaaGreatGD2
import Derived.Deep.DeepCutAuto

/-
  Parts of a list that may be read.
-/
namespace Go.Proofs.YtflecleofaeiiaaGreat
open Go.RowKit

theorem Rd.dropA {w : World} {g : Nat} {a : Option Addr} {k : IntKind} {xs : List Int} (h : Rd w g a k xs) (n : Nat) (hn : n < xs.length) : ∃ o, a = some ⟨g, o, none⟩ ∧ Rd w g (some ⟨g, o + n, none⟩) k (xs.drop n) := by
  obtain ⟨o, rfl, hc⟩ := h (by omega)
  refine ⟨o, rfl, fun _ => ⟨o + n, rfl, fun i hi => ?_⟩⟩
  rw [List.length_drop] at hi
  rw [Nat.add_assoc, hc (n + i) (by omega), List.getD_eq_getElem?_getD, List.getD_eq_getElem?_getD, List.getElem?_drop]
theorem Rd.takeA {w : World} {g : Nat} {a : Option Addr} {k : IntKind} {xs : List Int} (h : Rd w g a k xs) (n : Nat) : Rd w g a k (xs.take n) := fun h0 => by
  rw [List.length_take] at h0
  obtain ⟨o, e, hc⟩ := h (by omega)
  refine ⟨o, e, fun i hi => ?_⟩
  rw [List.length_take] at hi
  rw [hc i (by omega), List.getD_eq_getElem?_getD, List.getD_eq_getElem?_getD, List.getElem?_take, if_pos (by omega)]
end Go.Proofs.YtflecleofaeiiaaGreat

/-
  The cursor: take, atEnd (the panics are caught above it).
-/
namespace Go.Proofs.YtflecleofaeiiaaGreat
open Go Go.RowKit

/-- A block of two cells that holds this list and this place. -/
def Cur (w : World) (p : Nat) (l : Value) (i : Int) : Prop := ∃ t, w.heap[p]? = some (.cells #[l, .int .i64 i] t (0, 0))
theorem Cur.c0 {w : World} {p : Nat} {l : Value} {i : Int} (h : Cur w p l i) : w.cell? ⟨p, 0, none⟩ = some l := by
  obtain ⟨t, h⟩ := h
  simp [World.cell?, h]
theorem Cur.c1 {w : World} {p : Nat} {l : Value} {i : Int} (h : Cur w p l i) : w.cell? ⟨p, 1, none⟩ = some (.int .i64 i) := by
  obtain ⟨t, h⟩ := h
  simp [World.cell?, h]
theorem Cur.f1 {w : World} {p : Nat} {l : Value} {i : Int} (h : Cur w p l i) : w.frozen? ⟨p, 1, none⟩ = false := by
  obtain ⟨t, h⟩ := h
  simp [World.frozen?, h]
theorem Cur.lt {w : World} {p : Nat} {l : Value} {i : Int} (h : Cur w p l i) : p < w.heap.size := by
  obtain ⟨t, h⟩ := h
  exact (Array.getElem?_eq_some_iff.1 h).1
theorem Cur.of_block {w w' : World} {p : Nat} {l : Value} {i : Int} (h : Cur w p l i) (hb : w'.heap[p]? = w.heap[p]?) : Cur w' p l i := by
  obtain ⟨t, h⟩ := h
  exact ⟨t, hb.trans h⟩
theorem Cur.up {w w' : World} {p : Nat} {l : Value} {i : Int} (h : Cur w p l i) (n : Below w.heap.size w w') : Cur w' p l i := h.of_block (n.block p h.lt)
theorem Cur.drew {w : World} {p : Nat} {l : Value} {i : Int} (h : Cur w p l i) (n : Nat) : Cur (w.drewN n) p l i := h
theorem Cur.store {w : World} {p : Nat} {l : Value} {i : Int} (h : Cur w p l i) (j : Int) : Cur (w.setCell ⟨p, 1, none⟩ (.int .i64 j)) p l j := by
  obtain ⟨t, h⟩ := h
  refine ⟨t, ?_⟩
  show (w.heap.modify p _)[p]? = _
  rw [Array.getElem?_modify, if_pos rfl, h]
  rfl
/-- A block of two cells. -/
def Tl (w : World) (p : Nat) (x y : Value) : Prop := ∃ t, w.heap[p]? = some (.cells #[x, y] t (0, 0))
theorem Tl.c0 {w : World} {p : Nat} {x y : Value} (h : Tl w p x y) : w.cell? ⟨p, 0, none⟩ = some x := by
  obtain ⟨t, h⟩ := h
  simp [World.cell?, h]
theorem Tl.c1 {w : World} {p : Nat} {x y : Value} (h : Tl w p x y) : w.cell? ⟨p, 1, none⟩ = some y := by
  obtain ⟨t, h⟩ := h
  simp [World.cell?, h]
theorem Tl.fr {w : World} {p : Nat} {x y : Value} (h : Tl w p x y) (i : Nat) : w.frozen? ⟨p, i, none⟩ = false := by
  obtain ⟨t, h⟩ := h
  simp [World.frozen?, h]
theorem Tl.lt {w : World} {p : Nat} {x y : Value} (h : Tl w p x y) : p < w.heap.size := by
  obtain ⟨t, h⟩ := h
  exact (Array.getElem?_eq_some_iff.1 h).1
theorem Tl.of_block {w w' : World} {p : Nat} {x y : Value} (h : Tl w p x y) (hb : w'.heap[p]? = w.heap[p]?) : Tl w' p x y := by
  obtain ⟨t, h⟩ := h
  exact ⟨t, hb.trans h⟩
theorem Tl.up {w w' : World} {p : Nat} {x y : Value} (h : Tl w p x y) (n : Below w.heap.size w w') : Tl w' p x y := h.of_block (n.block p h.lt)
theorem Tl.only {w w' : World} {p q : Nat} {x y : Value} (h : Tl w p x y) (n : Only q w w') (hne : p ≠ q) : Tl w' p x y := h.of_block (n.block p hne)
theorem Tl.set0 {w : World} {p : Nat} {x y : Value} (h : Tl w p x y) (z : Value) : Tl (w.setCell ⟨p, 0, none⟩ z) p z y := by
  obtain ⟨t, h⟩ := h
  refine ⟨t, ?_⟩
  show (w.heap.modify p _)[p]? = _
  rw [Array.getElem?_modify, if_pos rfl, h]
  rfl
theorem Tl.set1 {w : World} {p : Nat} {x y : Value} (h : Tl w p x y) (z : Value) : Tl (w.setCell ⟨p, 1, none⟩ z) p x z := by
  obtain ⟨t, h⟩ := h
  refine ⟨t, ?_⟩
  show (w.heap.modify p _)[p]? = _
  rw [Array.getElem?_modify, if_pos rfl, h]
  rfl
theorem Tl.new (w : World) (x y : Value) (t : TypeId) : Tl (w.alloc (.cells #[x, y] t)) w.heap.size x y := by
  refine ⟨t, ?_⟩
  show (w.heap.push _)[w.heap.size]? = _
  simp
/-- A panic of the program's own. -/
def Pan (e : Ending) : Prop := ∃ t v, e = .panicked [{ v := .iface t v, recovered := false }]

set_option maxHeartbeats 1000000 in
theorem take_ok (w : World) (p g : Nat) (a : Option Addr) (c : Nat) (xs : List Int) (i : Nat) (hC : Cur w p (.slice a xs.length c) i) (hr : Rd w g a .u8 xs) (hi : i < xs.length) (hn : xs.length ≤ 9223372036854775807) :
    Calls Tryz.prog 71 #[.pointer (some ⟨p, 0, none⟩)] w fun e w' => e = .returned (.int .u8 (xs.getD i 0)) ∧ Cur w' p (.slice a xs.length c) ((i + 1 : Nat) : Int) ∧ Only p w w' := by
  obtain ⟨off, rfl, hc⟩ := hr (by omega)
  have h1 := hc i hi
  have c0 := hC.c0
  have c1 := hC.c1
  have f1 := hC.f1
  have t1 : decide ((i : Int) < 0) = false := by simp
  have t2 : decide ((xs.length : Int) ≤ (i : Int)) = false := by simp; omega
  have t3 : (i : Int) < (xs.length : Int) := by omega
  have K := fun k => hide (show Cur ((w.drewN k).setCell ⟨p, 1, none⟩ (.int .i64 ((i : Int) + 1))) p (.slice (some ⟨g, off, none⟩) xs.length c) ((i + 1 : Nat) : Int) from by have := (hC.drew k).store ((i : Int) + 1); rwa [show ((i : Int) + 1) = ((i + 1 : Nat) : Int) by omega] at this ⊢)
  generalize xs.getD i 0 = x at *
  generalize xs.length = n at *
  clear hc hC
  go_enter Tryz.func71, Tryz.ntmps71
  go_wp2
  go_quiet (fail)
  go_wp2
  go_quiet (fail)
  go_wp2
  go_ret
  exact ⟨rfl, (K _).out, (Only.drewN w p _).trans (Only.setCell _ _ _ _)⟩

set_option maxHeartbeats 1000000 in
theorem take_bad (w : World) (p : Nat) (a : Option Addr) (n c : Nat) (i : Int) (hC : Cur w p (.slice a n c) i) (hi : ¬ (0 ≤ i ∧ i < (n : Int))) :
    Calls Tryz.prog 71 #[.pointer (some ⟨p, 0, none⟩)] w fun e w' => Pan e ∧ Only p w w' := by
  have c0 := hC.c0
  have c1 := hC.c1
  by_cases c2 : i < 0
  · have t1 : decide (i < 0) = true := by simp; omega
    clear hC hi
    go_enter Tryz.func71, Tryz.ntmps71
    go_wp2
    go_quiet (fail)
    go_wp2
    exact ⟨rfl, ⟨_, _, rfl⟩, Only.drewN w p _⟩
  · have t1 : decide (i < 0) = false := by simp; omega
    have t2 : decide ((n : Int) ≤ i) = true := by simp; omega
    clear hC hi
    go_enter Tryz.func71, Tryz.ntmps71
    go_wp2
    go_quiet (fail)
    go_wp2
    exact ⟨rfl, ⟨_, _, rfl⟩, Only.drewN w p _⟩

end Go.Proofs.YtflecleofaeiiaaGreat

/-
  Integers as bytes: numbers alone.
-/
namespace Go.Proofs.YtflecleofaeiiaaGreat

/-- n bytes of v, the highest first. -/
def sgB (n : Nat) (v : Int) : List Int := fill (fun j => v / 2 ^ (8 * (n - 1 - j)) % 256) n
theorem sgB_len (n : Nat) (v : Int) : (sgB n v).length = n := fill_len _ _
theorem sgB_get (n : Nat) (v : Int) (j : Nat) (h : j < n) : (sgB n v).getD j 0 = v / 2 ^ (8 * (n - 1 - j)) % 256 := fill_get _ _ _ h
theorem sgB_byt (n : Nat) (v : Int) : Byt (sgB n v) := fun i => by
  by_cases h : i < n
  · rw [sgB_get n v i h]; omega
  · rw [List.getD_eq_getElem?_getD, List.getElem?_eq_none (by rw [sgB_len]; omega)]; decide
/-- v is told by n bytes. -/
def fits (n : Nat) (v : Int) : Bool := decide (-(2 ^ (8 * n - 1)) ≤ v ∧ v < 2 ^ (8 * n - 1))
def isz (v : Int) : Nat := if fits 1 v then 1 else if fits 2 v then 2 else if fits 3 v then 3 else if fits 4 v then 4 else if fits 5 v then 5 else if fits 6 v then 6 else if fits 7 v then 7 else 8
theorem fits_mono {n m : Nat} (h1 : 1 ≤ n) (h : n ≤ m) {v : Int} (hf : fits n v = true) : fits m v = true := by
  unfold fits at *
  simp only [decide_eq_true_eq] at *
  have : (2 : Int) ^ (8 * n - 1) ≤ 2 ^ (8 * m - 1) := by exact_mod_cast Nat.pow_le_pow_right (by decide) (by omega)
  omega
/-- The size is the least one that does. -/
theorem isz_of {v : Int} {n : Nat} (h1 : 1 ≤ n) (h8 : n ≤ 8) (hf : n = 8 ∨ fits n v = true) (hn : n = 1 ∨ fits (n - 1) v = false) : isz v = n := by
  have no : ∀ m, 1 ≤ m → m < n → fits m v = false := by
    intro m hm hmn
    rcases hn with hn | hn
    · omega
    · cases hfm : fits m v with
      | false => rfl
      | true => rw [fits_mono hm (by omega) hfm] at hn; cases hn
  obtain rfl | rfl | rfl | rfl | rfl | rfl | rfl | rfl : n = 1 ∨ n = 2 ∨ n = 3 ∨ n = 4 ∨ n = 5 ∨ n = 6 ∨ n = 7 ∨ n = 8 := by omega
  all_goals (unfold isz; simp_all [no 1, no 2, no 3, no 4, no 5, no 6, no 7])
theorem isz_bd (v : Int) : 1 ≤ isz v ∧ isz v ≤ 8 := by unfold isz; repeat' split
                                                       all_goals omega
theorem isz_min (v : Int) : isz v = 1 ∨ fits (isz v - 1) v = false := by
  unfold isz
  split
  · exact .inl rfl
  split
  · simp_all
  split
  · simp_all
  split
  · simp_all
  split
  · simp_all
  split
  · simp_all
  split
  · simp_all
  · simp_all
theorem isz_fits (v : Int) (h0 : -9223372036854775808 ≤ v) (h1 : v < 9223372036854775808) : fits (isz v) v = true := by
  unfold isz
  repeat' split
  all_goals first | assumption | skip
  unfold fits
  simp only [decide_eq_true_eq]
  exact ⟨by simpa using h0, by simpa using h1⟩
/-- What EncodeInteger answers. -/
def eiL (v : Int) : List Int := sgB (isz v) v
/-- The signed number of the first k bytes. -/
def svK (b : List Int) : Nat → Int
  | 0 => if 128 ≤ b.getD 0 0 then -1 else 0
  | k + 1 => svK b k * 256 + b.getD k 0
def sv (b : List Int) : Int := svK b b.length
theorem svK_bd {b : List Int} (hb : Byt b) : ∀ k, -(2 ^ (8 * k + 7)) ≤ svK b (k + 1) ∧ svK b (k + 1) < 2 ^ (8 * k + 7)
  | 0 => by
    have := hb 0
    simp only [svK]
    split <;> omega
  | k + 1 => by
    have ih := svK_bd hb k
    have hx := hb (k + 1)
    have e : svK b (k + 1 + 1) = svK b (k + 1) * 256 + b.getD (k + 1) 0 := rfl
    have p : (2 : Int) ^ (8 * (k + 1) + 7) = 2 ^ (8 * k + 7) * 256 := by rw [show 8 * (k + 1) + 7 = (8 * k + 7) + 8 by omega, Int.pow_add]; rfl
    rw [e, p]
    generalize (2 : Int) ^ (8 * k + 7) = q at *
    omega
theorem sv_fits {b : List Int} (hb : Byt b) (h : 1 ≤ b.length) : fits b.length (sv b) = true := by
  have := svK_bd hb (b.length - 1)
  unfold fits sv
  simp only [decide_eq_true_eq]
  rw [show b.length - 1 + 1 = b.length by omega, show 8 * (b.length - 1) + 7 = 8 * b.length - 1 by omega] at this
  exact this
theorem pow8_pos (k : Nat) : (0 : Int) < 2 ^ k := Int.pow_pos (by decide)
theorem svK_div {b : List Int} (hb : Byt b) (k : Nat) : ∀ m, svK b (k + m) / 2 ^ (8 * m) = svK b k
  | 0 => by simp
  | m + 1 => by
    have ih := svK_div hb k m
    have hx := hb (k + m)
    have e : svK b (k + (m + 1)) = svK b (k + m) * 256 + b.getD (k + m) 0 := rfl
    rw [show 8 * (m + 1) = 8 + 8 * m by omega, Int.pow_add, ← Int.ediv_ediv_of_nonneg (by decide), e, show ((2 : Int) ^ 8) = 256 from rfl]
    rw [show (svK b (k + m) * 256 + b.getD (k + m) 0) / 256 = svK b (k + m) by omega]
    exact ih
theorem sgB_sv {b : List Int} (hb : Byt b) : sgB b.length (sv b) = b := by
  refine eq_of_getD (sgB_len _ _) fun i hi => ?_
  rw [sgB_len] at hi
  rw [sgB_get _ _ _ hi]
  have := svK_div hb (i + 1) (b.length - 1 - i)
  rw [show i + 1 + (b.length - 1 - i) = b.length by omega] at this
  unfold sv
  rw [this]
  have hx := hb i
  show (svK b i * 256 + b.getD i 0) % 256 = _
  omega
theorem svK_sgB {n : Nat} {v : Int} (h1 : 1 ≤ n) (hf : fits n v = true) : ∀ k, k ≤ n → svK (sgB n v) k = v / 2 ^ (8 * (n - k))
  | 0, _ => by
    unfold fits at hf
    simp only [decide_eq_true_eq] at hf
    have p : (2 : Int) ^ (8 * (n - 0)) = 2 ^ (8 * (n - 1)) * 256 := by rw [show 8 * (n - 0) = 8 * (n - 1) + 8 by omega, Int.pow_add]; rfl
    have q : (2 : Int) ^ (8 * n - 1) = 2 ^ (8 * (n - 1)) * 128 := by rw [show 8 * n - 1 = 8 * (n - 1) + 7 by omega, Int.pow_add]; rfl
    rw [q] at hf
    have hp := pow8_pos (8 * (n - 1))
    rw [p, ← Int.ediv_ediv_of_nonneg (by omega)]
    simp only [svK]
    rw [sgB_get n v 0 (by omega), show n - 1 - 0 = n - 1 by omega]
    generalize (2 : Int) ^ (8 * (n - 1)) = d at *
    have a1 : -128 ≤ v / d := by rw [Int.le_ediv_iff_mul_le hp]; rw [Int.neg_mul, Int.mul_comm]; exact hf.1
    have a2 : v / d < 128 := by rw [Int.ediv_lt_iff_lt_mul hp, Int.mul_comm]; exact hf.2
    generalize v / d = t at *
    split <;> omega
  | k + 1, hk => by
    have ih := svK_sgB h1 hf k (by omega)
    show svK (sgB n v) k * 256 + (sgB n v).getD k 0 = _
    rw [ih, sgB_get n v k (by omega)]
    have p : (2 : Int) ^ (8 * (n - k)) = 2 ^ (8 * (n - 1 - k)) * 256 := by rw [show 8 * (n - k) = 8 * (n - 1 - k) + 8 by omega, Int.pow_add]; rfl
    have hp := pow8_pos (8 * (n - 1 - k))
    rw [p, ← Int.ediv_ediv_of_nonneg (by omega), show n - (k + 1) = n - 1 - k by omega]
    generalize v / 2 ^ (8 * (n - 1 - k)) = t
    omega
theorem sv_sgB {n : Nat} {v : Int} (h1 : 1 ≤ n) (hf : fits n v = true) : sv (sgB n v) = v := by
  have := svK_sgB h1 hf n (Nat.le_refl _)
  unfold sv
  rw [sgB_len, this]
  simp
theorem sv_sgB_iff {n : Nat} {v : Int} (h1 : 1 ≤ n) : decide (sv (sgB n v) = v) = fits n v := by
  cases hf : fits n v with
  | true => exact decide_eq_true (sv_sgB h1 hf)
  | false =>
    refine decide_eq_false fun h => ?_
    have := sv_fits (sgB_byt n v) (by rw [sgB_len]; exact h1)
    rw [sgB_len, h, hf] at this
    cases this
theorem sgB_drop (n m : Nat) (v : Int) (h : n ≤ m) : (sgB m v).drop (m - n) = sgB n v := by
  refine eq_of_getD (by rw [List.length_drop, sgB_len, sgB_len]; omega) fun i hi => ?_
  rw [List.length_drop, sgB_len] at hi
  rw [List.getD_eq_getElem?_getD, List.getElem?_drop, ← List.getD_eq_getElem?_getD, sgB_get _ _ _ (by omega), sgB_get _ _ _ (by omega), show m - 1 - (m - n + i) = n - 1 - i by omega]
/-- What DecodeInteger answers. -/
def diB (b : List Int) : Bool := decide (1 ≤ b.length) && (decide (b.length ≤ 8) && decide (isz (sv b) = b.length))
def diV (b : List Int) : Int := if diB b = true then sv b else 0
theorem diB_same {b : List Int} (hb : Byt b) : decide (eiL (sv b) = b) = decide (isz (sv b) = b.length) := by
  by_cases h : isz (sv b) = b.length
  · rw [decide_eq_true h]
    refine decide_eq_true ?_
    unfold eiL
    rw [h]
    exact sgB_sv hb
  · rw [decide_eq_false h]
    refine decide_eq_false fun e => h ?_
    have := congrArg List.length e
    unfold eiL at this
    rwa [sgB_len] at this
theorem eiL_len (v : Int) : (eiL v).length = isz v := sgB_len _ _
theorem eiL_byt (v : Int) : Byt (eiL v) := sgB_byt _ _
/-- There and back. -/
theorem di_ei (v : Int) (h0 : -9223372036854775808 ≤ v) (h1 : v < 9223372036854775808) : diB (eiL v) = true ∧ diV (eiL v) = v := by
  have hz := isz_bd v
  have e : sv (eiL v) = v := sv_sgB hz.1 (isz_fits v h0 h1)
  have hB : diB (eiL v) = true := by
    unfold diB
    rw [e, eiL_len]
    simp [hz.1, hz.2]
  refine ⟨hB, ?_⟩
  unfold diV
  rw [if_pos hB, e]
theorem ei_di {b : List Int} (hb : Byt b) (h : diB b = true) : eiL (diV b) = b := by
  unfold diV
  rw [if_pos h]
  unfold diB at h
  simp only [Bool.and_eq_true, decide_eq_true_eq] at h
  unfold eiL
  rw [h.2.2]
  exact sgB_sv hb
/-- L bits hold x, and no fewer do. -/
def Bts (x : Int) (L : Nat) : Prop := 0 ≤ x ∧ x < 2 ^ L ∧ (L = 0 ∨ 2 ^ (L - 1) ≤ x)
theorem Bts.le {x : Int} {L k : Nat} (h : Bts x L) (hx : x < 2 ^ k) : L ≤ k := by
  by_cases c : L ≤ k
  · exact c
  · rcases h.2.2 with h0 | h0
    · omega
    · have : (2 : Int) ^ k ≤ 2 ^ (L - 1) := by exact_mod_cast Nat.pow_le_pow_right (by decide) (by omega)
      omega
/-- How many bytes by how many bits. -/
theorem isz_bts {v : Int} {L : Nat} (h : Bts (if v < 0 then -v - 1 else v) L) (hL : L ≤ 63) : isz v = L / 8 + 1 := by
  obtain ⟨h0, h1, h2⟩ := h
  refine isz_of (by omega) (by omega) (.inr ?_) ?_
  · unfold fits
    simp only [decide_eq_true_eq]
    have : (2 : Int) ^ L ≤ 2 ^ (8 * (L / 8 + 1) - 1) := by exact_mod_cast Nat.pow_le_pow_right (by decide) (by omega)
    generalize (2 : Int) ^ (8 * (L / 8 + 1) - 1) = q at *
    split at h0 <;> split at h1 <;> omega
  · by_cases c : L < 8
    · left; omega
    · right
      rcases h2 with h2 | h2
      · omega
      · unfold fits
        simp only [decide_eq_false_iff_not]
        have : (2 : Int) ^ (8 * (L / 8 + 1 - 1) - 1) ≤ 2 ^ (L - 1) := by exact_mod_cast Nat.pow_le_pow_right (by decide) (by omega)
        generalize (2 : Int) ^ (8 * (L / 8 + 1 - 1) - 1) = q at *
        split at h2 <;> omega
end Go.Proofs.YtflecleofaeiiaaGreat

/-
  Bits of signed numbers, as far as they are wanted.
-/
namespace Go.Proofs.YtflecleofaeiiaaGreat
open Go Go.RowKit

theorem ofInt64 (v : Int) : ((BitVec.ofInt 64 v).toNat : Int) = v % 18446744073709551616 := by
  rw [BitVec.toNat_ofInt]
  rw [Int.toNat_of_nonneg (Int.emod_nonneg _ (by decide))]
  rfl
theorem wrap_i64 (n : Int) : IntKind.i64.wrap n = (n + 9223372036854775808) % 18446744073709551616 - 9223372036854775808 := by
  simp [IntKind.wrap, IntKind.signed, IntKind.bits]
  omega
/-- A number, or what has all its bits turned. -/
theorem xor_sign (v : Int) (h0 : -9223372036854775808 ≤ v) (h1 : v < 9223372036854775808) : IntKind.u64.wrap (bits .xor .i64 v (v / 9223372036854775808)) = if v < 0 then -v - 1 else v := by
  have e : bits .xor .i64 v (v / 9223372036854775808) = IntKind.i64.wrap ((BitVec.ofInt 64 v ^^^ BitVec.ofInt 64 (v / 9223372036854775808)).toNat : Int) := rfl
  rw [e, IntKind.wrap_u64, wrap_i64]
  by_cases c : v < 0
  · rw [if_pos c, show v / 9223372036854775808 = -1 by omega, show BitVec.ofInt 64 (-1) = BitVec.allOnes 64 by decide, BitVec.xor_allOnes, BitVec.toNat_not]
    have := ofInt64 v
    omega
  · rw [if_neg c, show v / 9223372036854775808 = 0 by omega, show BitVec.ofInt 64 0 = 0#64 by decide, BitVec.xor_zero]
    have := ofInt64 v
    omega
theorem or_byte (v x : Int) (h0 : -9223372036854775808 ≤ v * 256) (h1 : v * 256 < 9223372036854775808) (x0 : 0 ≤ x) (x1 : x < 256) : bits .or .i64 (v * 256) x = v * 256 + x := by
  have e : bits .or .i64 (v * 256) x = IntKind.i64.wrap ((BitVec.ofInt 64 (v * 256) ||| BitVec.ofInt 64 x).toNat : Int) := rfl
  rw [e, wrap_i64, BitVec.toNat_or]
  have a := ofInt64 (v * 256)
  have b := ofInt64 x
  obtain ⟨m, hm⟩ : ∃ m, (BitVec.ofInt 64 (v * 256)).toNat = 2 ^ 8 * m := ⟨(BitVec.ofInt 64 (v * 256)).toNat / 256, by omega⟩
  obtain ⟨y, hy⟩ : ∃ y, (BitVec.ofInt 64 x).toNat = y := ⟨_, rfl⟩
  rw [hm, hy, ← Nat.two_pow_add_eq_or_of_lt (by omega)]
  rw [hm] at a
  rw [hy] at b
  omega
end Go.Proofs.YtflecleofaeiiaaGreat

/-
  The cursor's number of at most four bytes; the program's.
-/
namespace Go.Proofs.YtflecleofaeiiaaGreat
open Go Go.RowKit

/-- A number of k bytes from place i on. -/
def beN (xs : List Int) (i : Nat) : Nat → Int
  | 0 => 0
  | k + 1 => beN xs i k * 256 + xs.getD (i + k) 0
theorem beN_rng {xs : List Int} (h : Byt xs) (i : Nat) : ∀ k, 0 ≤ beN xs i k ∧ beN xs i k < 256 ^ k
  | 0 => ⟨Int.le_refl _, by simp [beN]⟩
  | k + 1 => by
    have ih := beN_rng h i k
    have b := h (i + k)
    rw [beN, Int.pow_succ]
    omega
theorem Rd.of_block' {w w' : World} {g : Nat} {a : Option Addr} {k : IntKind} {xs : List Int} (h : Rd w g a k xs) (hb : 0 < xs.length → w'.heap[g]? = w.heap[g]?) : Rd w' g a k xs := by
  by_cases h0 : 0 < xs.length
  · exact h.of_block (hb h0)
  · exact fun q => absurd q h0
set_option maxHeartbeats 1000000 in
theorem curNum_any (w : World) (p g : Nat) (a : Option Addr) (c : Nat) (xs : List Int) (i t : Nat) (hC : Cur w p (.slice a xs.length c) i) (hr : Rd w g a .u8 xs) (hb : Byt xs) (hgp : 0 < xs.length → g ≠ p) (hi : i + t ≤ xs.length) (ht : t ≤ 4) (hn : xs.length ≤ 4194304) :
    Calls Tryz.prog 67 #[.pointer (some ⟨p, 0, none⟩), .int .i64 (t : Int)] w fun e w' => e = .returned (.int .i64 (beN xs i t)) ∧ Cur w' p (.slice a xs.length c) ((i + t : Nat) : Int) ∧ Only p w w' := by
  go_enter Tryz.func67, Tryz.ntmps67
  go_wp2
  go_loopw [5, 7] (fun v j wr => ∃ k : Nat, k ≤ t ∧ v = .int .i64 (beN xs i k) ∧ j = .int .i64 k ∧ Cur wr p (.slice a xs.length c) ((i + k : Nat) : Int) ∧ Only p w wr) (fun _ j _ => t - (intOf j).toNat)
  case atStart => exact ⟨0, Nat.zero_le _, rfl, rfl, hC, Only.refl _ _⟩
  case round =>
    obtain ⟨k, hk, rfl, rfl, C, O⟩ := hrel
    by_cases hlt : k < t
    · have TK := hide (take_ok wr p g a c xs (i + k) C (hr.of_block' (fun h => O.block g (hgp h))) (by omega) (by omega))
      have R := beN_rng hb i k
      have bx := hb (i + k)
      have p4 : beN xs i k < 16777216 := by
        rcases (by omega : k = 0 ∨ k = 1 ∨ k = 2 ∨ k = 3) with rfl | rfl | rfl | rfl
        all_goals (have := R.2; simp at this; omega)
      have OR := or_byte (beN xs i k) (xs.getD (i + k) 0) (by omega) (by omega) bx.1 bx.2
      have e : Hid (beN xs i (k + 1) = beN xs i k * 256 + xs.getD (i + k) 0) := rfl
      generalize beN xs i k = m at *
      generalize xs.getD (i + k) 0 = x at *
      have R0 := R.1
      have x0 := bx.1
      have x1 := bx.2
      have k1 : (k : Int) < (t : Int) := by omega
      clear R bx C
      go_wp2_with fail
      refine TK.out.mono ?_
      rintro r w' ⟨rfl, C', O'⟩
      clear TK
      go_wp2
      go_roundw
      case rel => exact ⟨k + 1, by omega, by rw [e.out], by go_num, C', O.trans O'⟩
      case measure => simp [intOf]; omega
    · obtain rfl : k = t := by omega
      go_wp2
      go_ret
      exact ⟨rfl, C, O⟩
end Go.Proofs.YtflecleofaeiiaaGreat

/-
  Ages of tickets; the program's.
-/
namespace Go.Proofs.YtflecleofaeiiaaGreat
open Go Go.RowKit

def isAg (n : Int) : Bool := decide (0 ≤ n) && decide (n ≤ 4294967295)
def isWd (n : Int) : Bool := decide (0 ≤ n) && decide (n ≤ 86400)
theorem isAg_iff (n : Int) : isAg n = true ↔ 0 ≤ n ∧ n ≤ 4294967295 := by simp [isAg]
theorem isWd_iff (n : Int) : isWd n = true ↔ 0 ≤ n ∧ n ≤ 86400 := by simp [isWd]
set_option maxRecDepth 100000 in
theorem isAgeI_any (w : World) (n : Int) : Calls Tryz.prog 100 #[.int .i64 n] w fun e w' => e = .returned (.bool (isAg n)) ∧ w' = w := by
  by_cases h : 0 ≤ n
  · have u : decide (0 ≤ n) = true := decide_eq_true h
    unfold isAg
    rw [u]
    go_enter Tryz.func100, Tryz.ntmps100
    go_wp2
    go_ret
    exact ⟨by simp, rfl⟩
  · have u : decide (0 ≤ n) = false := decide_eq_false h
    unfold isAg
    rw [u]
    go_enter Tryz.func100, Tryz.ntmps100
    go_wp2
    go_ret
    exact ⟨by simp, rfl⟩
def agV (xs : List Int) (s : Int) : Int := if xs.length = 32 ∧ isAg s = true then (s + beN xs 0 4) % 4294967296 else -1
def frV (xs : List Int) (n s d : Int) : Bool := decide (xs.length = 32) && isAg n && isAg s && isWd d && decide ((n - beN xs 0 4) % 4294967296 - s ≤ d) && decide (s - (n - beN xs 0 4) % 4294967296 ≤ d)
end Go.Proofs.YtflecleofaeiiaaGreat

/-
  A row of bytes appended to an owned row of bytes, nil ones too, as one equation. No program in sight.
-/
namespace Go.Proofs.YtflecleofaeiiaaGreat
open Go.RowKit

/-- A row of bytes that the walk owns. -/
def RowB (w : World) (base : Nat) (v : Value) (xs : List Int) : Prop := w.ownsRow base 5 1 v xs.length (xs.map (Value.int .u8))
theorem RowB.up {w w' : World} {base : Nat} {v : Value} {xs : List Int} (h : RowB w base v xs) (hb : Below w.heap.size w w') : RowB w' base v xs := by
  refine ⟨h.1, ?_⟩
  rcases h.2 with h' | ⟨g, cap, cur, rfl, hbg, hg, hnc, hcm, hcs, ht⟩
  · exact .inl h'
  · exact .inr ⟨g, cap, cur, rfl, hbg, by rw [hb.block g ((Array.getElem?_eq_some_iff.1 hg).1)]; exact hg, hnc, hcm, hcs, ht⟩
theorem RowB.only {w w' : World} {base q : Nat} {v : Value} {xs : List Int} (h : RowB w base v xs) (hb : Only q w w') (hq : q < base) : RowB w' base v xs := by
  refine ⟨h.1, ?_⟩
  rcases h.2 with h' | ⟨g, cap, cur, rfl, hbg, hg, hnc, hcm, hcs, ht⟩
  · exact .inl h'
  · exact .inr ⟨g, cap, cur, rfl, hbg, by rw [hb.block g (by omega)]; exact hg, hnc, hcm, hcs, ht⟩
theorem RowB.base {w : World} {base base' : Nat} {v : Value} {xs : List Int} (h : RowB w base v xs) (hb : base' ≤ base) : RowB w base' v xs := by
  refine ⟨h.1, ?_⟩
  rcases h.2 with h' | ⟨g, cap, cur, rfl, hbg, hg, hnc, hcm, hcs, ht⟩
  · exact .inl h'
  · exact .inr ⟨g, cap, cur, rfl, by omega, hg, hnc, hcm, hcs, ht⟩
theorem RowB.own {w : World} {base : Nat} {v : Value} {xs : List Int} (h : RowB w base v xs) :
    ∃ (a : Option Addr) (c g : Nat), v = .slice a xs.length c ∧ Own w g a .u8 xs ∧ (a = none → c = 0) ∧ xs.length ≤ c ∧ base ≤ g := Own.of_ownsRow h
/-- What an append leaves, with all that is asked of it. -/
theorem append_any {P : Program} (w : World) (ty : TypeId) (i : TypeInfo) (ht : P.underlying 22 = some (.slice 5)) (hi : P.info? 5 = some i) (hz : i.zero = some (.int .u8 0)) (hsize : i.size = 1) (hby : i.bytes = 1)
    (base B : Nat) (v : Value) (xs : List Int) (hown : RowB w base v xs) (g : Nat) (a : Option Addr) (c : Nat) (us : List Int) (hr : Rd w g a .u8 us) (hc : a = none → c = 0) (hl : xs.length + us.length ≤ 1099511627776) (hB : B ≤ base) (hbase : base ≤ w.heap.size) :
    ∃ v' w', (Builtin.append_ #[22, 22] ty #[v, .slice a us.length c]).run P w = .ok v' w' ∧ RowB w' base v' (xs ++ us) ∧ Below B w w' := by
  cases a with
  | none =>
    obtain rfl : us = [] := by
      by_cases h0 : 0 < us.length
      · obtain ⟨off, h, _⟩ := hr h0
        simp at h
      · exact List.eq_nil_of_length_eq_zero (by omega)
    obtain rfl := hc rfl
    exact ⟨v, w, run_append_owned_none (P := P) (w := w) base 22 ty 5 i 1 ht hi v _ _ hown, by rw [List.append_nil]; exact hown, Below.refl _ _⟩
  | some ad =>
    have hcell : ∀ j u, (us.map (Value.int .u8))[j]? = some u → w.cell? (ad.add j) = some u := by
      intro j u hj
      have hjl : j < us.length := by
        have := (List.getElem?_eq_some_iff.1 hj).1
        simpa using this
      obtain ⟨off, ha, hcc⟩ := hr (by omega)
      simp only [Option.some.injEq] at ha
      subst ha
      rw [Addr.add_mid, hcc j hjl]
      simpa [hjl] using hj
    have hone : ∀ u ∈ us.map (Value.int .u8), u.oneCell' = true := by
      intro u hu
      obtain ⟨x, _, rfl⟩ := List.mem_map.1 hu
      rfl
    obtain ⟨v', w', h1, h2, h3, _⟩ := run_append_own (P := P) w base 22 ty 5 i (.int .u8 0) 1 1 ht hi hz hsize hby rfl (by decide) v xs.length (xs.map (Value.int .u8)) hown ad us.length c (us.map (Value.int .u8)) (by simp) hcell hone (by unfold maxLen; omega) (by omega) hbase
    refine ⟨v', w', h1, ?_, (Below.refl B w).grown h3 (by omega) (fun k hk => by have := (World.ownsRow.lt hown k hk).1; omega)⟩
    show w'.ownsRow base 5 1 v' (xs ++ us).length ((xs ++ us).map (Value.int .u8))
    rw [List.length_append, List.map_append]
    exact h2
theorem RowB.lit0 (w : World) : RowB (w.alloc (.cells #[] 5)) w.heap.size (.slice (some ⟨w.heap.size, 0, none⟩) 0 0) [] :=
  World.ownsRow_lit w #[] 0 (Nat.le_refl _) (by unfold maxLen; omega) (by simp)
theorem RowB.lit1 (w : World) (x : Int) : RowB (w.alloc (.cells #[.int .u8 x] 5)) w.heap.size (.slice (some ⟨w.heap.size, 0, none⟩) 1 1) [x] :=
  World.ownsRow_lit w #[.int .u8 x] 1 (Nat.le_refl _) (by unfold maxLen; omega) (by simp)
theorem RowB.rd {w : World} {base : Nat} {v : Value} {xs : List Int} (h : RowB w base v xs) : ∃ (a : Option Addr) (c g : Nat), v = .slice a xs.length c ∧ Rd w g a .u8 xs ∧ (a = none → c = 0) ∧ xs.length ≤ c ∧ base ≤ g := by
  obtain ⟨a, c, g, h1, h2, h3⟩ := h.own
  exact ⟨a, c, g, h1, h2.rd, h3⟩
theorem newRow_e (w : World) (k : IntKind) : NewRow w.heap.size (w.alloc (.cells #[] 5)) (.returned (.slice (some ⟨w.heap.size, 0, none⟩) 0 0)) k [] :=
  ⟨_, 0, w.heap.size, rfl, Own.nil _ _ _ _, by simp, Nat.zero_le _, Nat.le_refl _⟩
theorem newRow_z (w : World) (k : IntKind) : NewRow w.heap.size w (.returned (.slice none 0 0)) k [] :=
  ⟨_, 0, w.heap.size, rfl, Own.nil _ _ _ _, by simp, Nat.zero_le _, Nat.le_refl _⟩
theorem blk_lit1 (w : World) (k : IntKind) (e : TypeId) (x : Int) : Blk (w.alloc (.cells #[.int k x] e)) w.heap.size k [x] := by
  refine ⟨e, ?_⟩
  show (w.heap.push _)[w.heap.size]? = _
  simp
end Go.Proofs.YtflecleofaeiiaaGreat

/-
  Worlds that differ in what was made and in some blocks; cells of a struct's block. No program in sight.
-/
namespace Go.Proofs.YtflecleofaeiiaaGreat
open Go Go.RowKit

/-- Of what was there the blocks S alone have changed. -/
structure Tch (S : List Nat) (w w' : World) : Prop where
  os : w'.os = w.os
  tape : w'.tape = w.tape
  output : w'.output = w.output
  size : w.heap.size ≤ w'.heap.size
  block : ∀ b, b < w.heap.size → b ∉ S → w'.heap[b]? = w.heap[b]?
theorem Tch.of_below {w w' : World} {S : List Nat} (h : Below w.heap.size w w') : Tch S w w' := ⟨h.os, h.tape, h.output, h.size, fun b hb _ => h.block b hb⟩
theorem Tch.of_only {w w' : World} {g : Nat} (h : Only g w w') : Tch [g] w w' := ⟨h.os, h.tape, h.output, Nat.le_of_eq h.size.symm, fun b _ hn => h.block b (by simpa using hn)⟩
theorem Tch.trans {a b c : World} {S T : List Nat} (h : Tch S a b) (k : Tch T b c) : Tch (S ++ T) a c :=
  ⟨k.os.trans h.os, k.tape.trans h.tape, k.output.trans h.output, Nat.le_trans h.size k.size, fun x hx hn => (k.block x (Nat.lt_of_lt_of_le hx h.size) (fun m => hn (List.mem_append_right _ m))).trans (h.block x hx (fun m => hn (List.mem_append_left _ m)))⟩
theorem Tch.below {w w' : World} {S : List Nat} {B : Nat} (h : Tch S w w') (hB : B ≤ w.heap.size) (hS : ∀ s ∈ S, B ≤ s) : Below B w w' := ⟨h.os, h.tape, h.output, h.size, fun k hk => h.block k (by omega) (fun m => by have := hS k m; omega)⟩
theorem Tch.mono {w w' : World} {S T : List Nat} (h : Tch S w w') (hs : ∀ s ∈ S, s ∈ T) : Tch T w w' := ⟨h.os, h.tape, h.output, h.size, fun b hb hn => h.block b hb (fun m => hn (hs b m))⟩
theorem Own.tch {w w' : World} {S : List Nat} {g : Nat} {a : Option Addr} {k : IntKind} {xs : List Int} (h : Own w g a k xs) (t : Tch S w w') (hne : 0 < xs.length → g ∉ S) : Own w' g a k xs := by
  by_cases h0 : 0 < xs.length
  · exact h.of_block (t.block g (h.rd.lt h0) (hne h0))
  · exact fun q => absurd q h0
theorem Blk.tch {w w' : World} {S : List Nat} {g : Nat} {k : IntKind} {ys : List Int} (h : Blk w g k ys) (t : Tch S w w') (hne : g ∉ S) : Blk w' g k ys := h.of_block (t.block g h.lt hne)
theorem RwC.tch {w w' : World} {S : List Nat} {q : Nat} {cs : List Value} {t : TypeId} (h : RwC w q cs t) (m : Tch S w w') (hne : q ∉ S) : RwC w' q cs t := (m.block q h.lt hne).trans h
theorem RwC.c0 {w : World} {q : Nat} {x : Value} {cs : List Value} {t : TypeId} (h : RwC w q (x :: cs) t) : w.cell? ⟨q, 0, none⟩ = some x := h.cell 0
theorem RwC.c1 {w : World} {q : Nat} {x y : Value} {cs : List Value} {t : TypeId} (h : RwC w q (x :: y :: cs) t) : w.cell? ⟨q, 1, none⟩ = some y := h.cell 1
theorem RwC.c2 {w : World} {q : Nat} {x y z : Value} {cs : List Value} {t : TypeId} (h : RwC w q (x :: y :: z :: cs) t) : w.cell? ⟨q, 2, none⟩ = some z := h.cell 2
end Go.Proofs.YtflecleofaeiiaaGreat

/-
  A ticket's state: its fault; the program's and the model's (written by gens/stf.py).
-/
namespace Go.Proofs.YtflecleofaeiiaaGreat
open Go Go.RowKit

def isTm (n : Int) : Bool := decide (0 ≤ n) && decide (n ≤ 253402300799)
def isLi (n : Int) : Bool := decide (1 ≤ n) && decide (n ≤ 604800)
theorem isTm_iff (n : Int) : isTm n = true ↔ 0 ≤ n ∧ n ≤ 253402300799 := by simp [isTm]
theorem isLi_iff (n : Int) : isLi n = true ↔ 1 ≤ n ∧ n ≤ 604800 := by simp [isLi]
/-- A state's fault. -/
def sfV (n n' : Nat) (md li : Int) (ho : List UInt8) (p : Nat) (ea : Int) : Int :=
  if n ≠ 32 ∨ n' ≠ 32 then 1 else if isTm md = false then 2 else if isLi li = false then 3 else if nameF ho ≠ 0 then 4 else if 32 < p then 5 else if isAg ea = false then 6 else 0
end Go.Proofs.YtflecleofaeiiaaGreat

/-
  Numbers as bytes, the highest first, and the padding of a hash. No program in sight.
-/
namespace Go.Proofs.YtflecleofaeiiaaGreat
open Go.RowKit

/-- v in t bytes, the highest first. -/
def bigL (v : Int) (t : Nat) : List Int := (List.range t).map fun j => v / 256 ^ (t - 1 - j) % 256
theorem bigL_len (v : Int) (t : Nat) : (bigL v t).length = t := by simp [bigL]
theorem bigL_get (v : Int) (t j : Nat) (h : j < t) : (bigL v t).getD j 0 = v / 256 ^ (t - 1 - j) % 256 := by simp [bigL, h]
theorem bigL_byt (v : Int) (t : Nat) : Byt (bigL v t) := by
  intro j
  by_cases h : j < t
  · rw [bigL_get v t j h]
    omega
  · have : (bigL v t).getD j 0 = 0 := by
      rw [List.getD_eq_getElem?_getD, List.getElem?_eq_none (by rw [bigL_len]; omega)]
      rfl
    rw [this]
    omega

/-- The last k places of ys are those of v. -/
def BigTo (v : Int) (t : Nat) (ys : List Int) (k : Nat) : Prop := ys.length = t ∧ ∀ j, t - k ≤ j → j < t → ys.getD j 0 = v / 256 ^ (t - 1 - j) % 256
theorem BigTo.zero (v : Int) (t : Nat) : BigTo v t (List.replicate t 0) 0 := ⟨by simp, fun j h h' => absurd h (by omega)⟩
theorem BigTo.step {v : Int} {t : Nat} {ys : List Int} {k : Nat} (h : BigTo v t ys k) (hk : k < t) : BigTo v t (ys.set (t - 1 - k) (v / 256 ^ k % 256)) (k + 1) := by
  refine ⟨by simpa using h.1, fun j hj hj' => ?_⟩
  by_cases e : t - 1 - k = j
  · subst e
    rw [getD_set_self _ _ _ (by rw [h.1]; omega), show t - 1 - (t - 1 - k) = k by omega]
  · rw [getD_set_ne _ _ _ _ e]
    exact h.2 j (by omega) hj'
theorem BigTo.all {v : Int} {t : Nat} {ys : List Int} (h : BigTo v t ys t) : ys = bigL v t :=
  eq_of_getD (by rw [h.1, bigL_len]) (fun i hi => by rw [h.1] at hi; rw [h.2 i (by omega) hi, bigL_get v t i hi])
theorem div256 (v : Int) (k : Nat) : v / 256 ^ k / 256 = v / 256 ^ (k + 1) := by
  have h0 := p256_pos k
  rw [Int.ediv_ediv_of_nonneg (by omega), ← Int.pow_succ]

theorem getD_apd_right (xs ys : List Int) (i : Nat) (h : xs.length ≤ i) : (xs ++ ys).getD i 0 = ys.getD (i - xs.length) 0 := by
  rw [List.getD_eq_getElem?_getD, List.getElem?_append_right h, ← List.getD_eq_getElem?_getD]
theorem getD_apd_left (xs ys : List Int) (i : Nat) (h : i < xs.length) : (xs ++ ys).getD i 0 = xs.getD i 0 := by
  rw [List.getD_eq_getElem?_getD, List.getElem?_append_left h, ← List.getD_eq_getElem?_getD]

/-- How many zeros, and the whole padding. -/
def padZ (n : Int) (B t : Nat) : Nat := (((B : Int) - (n + 1 + (t : Int)) % (B : Int)) % (B : Int)).toNat
def padL (n : Int) (B t : Nat) : List Int := 128 :: (List.replicate (padZ n B t) 0 ++ bigL (8 * n) t)
theorem padL_len (n : Int) (B t : Nat) : (padL n B t).length = 1 + padZ n B t + t := by
  unfold padL
  simp [bigL_len]
  omega
theorem byt_cons {x : Int} {xs : List Int} (h0 : 0 ≤ x) (h1 : x < 256) (h : Byt xs) : Byt (x :: xs) := by
  intro j
  cases j with
  | zero => exact ⟨h0, h1⟩
  | succ j => exact h j
theorem byt_apd {xs ys : List Int} (h : Byt xs) (k : Byt ys) : Byt (xs ++ ys) := by
  intro j
  rw [List.getD_eq_getElem?_getD]
  by_cases c : j < xs.length
  · rw [List.getElem?_append_left c, ← List.getD_eq_getElem?_getD]
    exact h j
  · rw [List.getElem?_append_right (by omega), ← List.getD_eq_getElem?_getD]
    exact k _
theorem byt_rep0 (n : Nat) : Byt (List.replicate n 0) := by
  intro j
  rw [List.getD_eq_getElem?_getD, List.getElem?_replicate]
  split <;> simp
theorem padL_byt (n : Int) (B t : Nat) : Byt (padL n B t) := byt_cons (by omega) (by omega) (byt_apd (byt_rep0 _) (bigL_byt _ _))
/-- What is asked for: nothing, where n is not to be hashed. -/
def padA (n : Int) (B t : Nat) : List Int := if 0 ≤ n ∧ n ≤ 1099511627776 then padL n B t else []
theorem padA_byt (n : Int) (B t : Nat) : Byt (padA n B t) := by
  unfold padA
  split
  · exact padL_byt n B t
  · intro j
    simp
theorem padZ_lt (n : Int) {B t : Nat} (h : 0 < B) : padZ n B t < B := by
  unfold padZ
  have h0 := Int.emod_nonneg ((B : Int) - (n + 1 + (t : Int)) % (B : Int)) (show (B : Int) ≠ 0 by omega)
  have h1 := Int.emod_lt_of_pos ((B : Int) - (n + 1 + (t : Int)) % (B : Int)) (show (0 : Int) < (B : Int) by omega)
  omega
theorem padA_len (n : Int) {B t : Nat} (h : 0 < B) : (padA n B t).length ≤ B + t := by
  unfold padA
  split
  · rw [padL_len]
    have := padZ_lt n (t := t) h
    omega
  · simp
/-- As long as the length is no multiple, there are less zeros than are asked. -/
theorem padZ_go {n : Int} {B t k : Nat} (h : k ≤ padZ n B t) (hB : B = 64 ∧ t = 8 ∨ B = 128 ∧ t = 16) (hn : (n + (1 + (k : Int)) + (t : Int)) % (B : Int) ≠ 0) : k + 1 ≤ padZ n B t := by
  unfold padZ at *
  rcases hB with ⟨rfl, rfl⟩ | ⟨rfl, rfl⟩ <;> omega
theorem padZ_end {n : Int} {B t k : Nat} (h : k ≤ padZ n B t) (hB : B = 64 ∧ t = 8 ∨ B = 128 ∧ t = 16) (hn : (n + (1 + (k : Int)) + (t : Int)) % (B : Int) = 0) : k = padZ n B t := by
  unfold padZ at *
  rcases hB with ⟨rfl, rfl⟩ | ⟨rfl, rfl⟩ <;> omega

/-- The program's: the size, and the places from the end on. -/
def padS (n : Int) (B t : Nat) : Nat := 1 + padZ n B t + t
theorem padS_32 (n : Int) : ((padS n 64 8 : Nat) : Int) = if 64 - n % 64 < 9 then 64 - n % 64 + 64 else 64 - n % 64 := by
  unfold padS padZ
  split <;> omega
theorem padS_64 (n : Int) : ((padS n 128 16 : Nat) : Int) = if 128 - n % 128 < 17 then 128 - n % 128 + 128 else 128 - n % 128 := by
  unfold padS padZ
  split <;> omega
def PadTo (n : Int) (s : Nat) (ys : List Int) (k : Nat) : Prop :=
  ys.length = s ∧ ys.getD 0 0 = 128 ∧ (∀ j, 0 < j → j < s - k → ys.getD j 0 = 0) ∧ ∀ j, s - k ≤ j → j < s → ys.getD j 0 = 8 * n / 256 ^ (s - 1 - j) % 256
theorem PadTo.zero (n : Int) (s : Nat) (h : 0 < s) : PadTo n s ((List.replicate s 0).set 0 128) 0 := by
  refine ⟨by simp, ?_, fun j h0 hj => ?_, fun j hj hj' => absurd hj (by omega)⟩
  · rw [getD_set_self _ _ _ (by simpa using h)]
  · rw [getD_set_ne _ _ _ _ (by omega)]
    rw [List.getD_eq_getElem?_getD, List.getElem?_replicate]
    split <;> rfl
theorem PadTo.step {n : Int} {s : Nat} {ys : List Int} {k : Nat} (h : PadTo n s ys k) (hk : k + 1 < s) : PadTo n s (ys.set (s - 1 - k) (8 * n / 256 ^ k % 256)) (k + 1) := by
  obtain ⟨h1, h2, h3, h4⟩ := h
  refine ⟨by simpa using h1, ?_, fun j h0 hj => ?_, fun j hj hj' => ?_⟩
  · rw [getD_set_ne _ _ _ _ (by omega)]
    exact h2
  · rw [getD_set_ne _ _ _ _ (by omega)]
    exact h3 j h0 (by omega)
  · by_cases e : s - 1 - k = j
    · subst e
      rw [getD_set_self _ _ _ (by rw [h1]; omega), show s - 1 - (s - 1 - k) = k by omega]
    · rw [getD_set_ne _ _ _ _ e]
      exact h4 j (by omega) hj'
theorem PadTo.all {n : Int} {B t : Nat} {ys : List Int} (h0 : 0 ≤ n) (h1 : n ≤ 1099511627776) (ht : t = 8 ∨ t = 16) (h : PadTo n (padS n B t) ys 8) : ys = padL n B t := by
  obtain ⟨a1, a2, a3, a4⟩ := h
  refine eq_of_getD (by rw [a1, padL_len]; rfl) (fun i hi => ?_)
  rw [a1] at hi
  have hs : padS n B t = 1 + padZ n B t + t := rfl
  unfold padL
  cases i with
  | zero => rw [a2]; rfl
  | succ i =>
    rw [List.getD_cons_succ]
    by_cases c : i < padZ n B t
    · rw [a3 _ (by omega) (by omega), List.getD_eq_getElem?_getD, List.getElem?_append_left (by simpa using c), List.getElem?_replicate, if_pos c]
      rfl
    · rw [getD_apd_right (List.replicate (padZ n B t) 0) _ i (by simpa using c), List.length_replicate, bigL_get _ _ _ (by omega)]
      by_cases d : padS n B t - 8 ≤ i + 1
      · rw [a4 _ d hi, show padS n B t - 1 - (i + 1) = t - 1 - (i - padZ n B t) by omega]
      · rw [a3 _ (by omega) (by omega)]
        obtain ⟨e, he⟩ : ∃ e, t - 1 - (i - padZ n B t) = 8 + e := ⟨t - 1 - (i - padZ n B t) - 8, by omega⟩
        rw [he, Int.pow_add]
        have hp := p256_pos e
        have hz : 8 * n / ((256 : Int) ^ 8 * 256 ^ e) = 0 := by
          refine Int.ediv_eq_zero_of_lt (by omega) ?_
          have : (256 : Int) ^ 8 * 1 ≤ 256 ^ 8 * 256 ^ e := Int.mul_le_mul_of_nonneg_left (by omega) (by decide)
          have : (256 : Int) ^ 8 = 18446744073709551616 := by decide
          omega
        rw [hz]
        rfl
end Go.Proofs.YtflecleofaeiiaaGreat
