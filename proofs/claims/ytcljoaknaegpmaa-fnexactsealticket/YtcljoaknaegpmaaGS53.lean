import Derived.Test.YtcljoaknaegpmaaBase
import Derived.Test.YtcljoaknaegpmaaHelp
import Derived.WalkLawsBesides
import Derived.Laws.Bits64b
import Derived.Deep.Cut
import Derived.Test.YtcljoaknaegpmaaRows
import Derived.WalkSpells
import Derived.Deep.QuietTactic
import Derived.BigQuiet
import Derived.WalkMore
import Derived.Laws.AppendOwnNone
import Derived.Maps.AppendAt
import Derived.Lib.AppendZeros
import Derived.Deep.MidRow
import Derived.Test.YtcljoaknaegpmaaApd
import Derived.Deep.DeepCutAuto
import Derived.Test.YtcljoaknaegpmaaNum
import Derived.Lib.AppendStr
import Derived.Test.YtcljoaknaegpmaaCtA
import Derived.Test.YtcljoaknaegpmaaSpecA
import Derived.Laws.BytesString
import Derived.Lib.ConvBytes
import Derived.Deep.RegionHeld3
import Derived.Test.YtcljoaknaegpmaaPzC
import Derived.Lib.SlBytesConst
import Derived.Test.YtcljoaknaegpmaaCcB
import Derived.Test.YtcljoaknaegpmaaRgV

/-
  Parts of a list that may be read.
-/
namespace Go.Proofs.Ytcljoaknaegpmaa
open Go.RowKit

theorem Rd.dropA {w : World} {g : Nat} {a : Option Addr} {k : IntKind} {xs : List Int} (h : Rd w g a k xs) (n : Nat) (hn : n < xs.length) : ∃ o, a = some ⟨g, o, none⟩ ∧ Rd w g (some ⟨g, o + n, none⟩) k (xs.drop n) := by
  obtain ⟨o, rfl, hc⟩ := h (by omega)
  refine ⟨o, rfl, fun _ => ⟨o + n, rfl, fun i hi => ?_⟩⟩
  rw [List.length_drop] at hi
  rw [Nat.add_assoc, hc (n + i) (by omega), List.getD_eq_getElem?_getD, List.getD_eq_getElem?_getD, List.getElem?_drop]
theorem Rd.takeA {w : World} {g : Nat} {a : Option Addr} {k : IntKind} {xs : List Int} (h : Rd w g a k xs) (n : Nat) : Rd w g a k (xs.take n) := fun h0 => by
  rw [List.length_take] at h0
  obtain ⟨o, e, hc⟩ := h (by omega)
  refine ⟨o, e, fun i hi => ?_⟩
  rw [List.length_take] at hi
  rw [hc i (by omega), List.getD_eq_getElem?_getD, List.getD_eq_getElem?_getD, List.getElem?_take, if_pos (by omega)]
end Go.Proofs.Ytcljoaknaegpmaa

/-
  The cursor: take, atEnd (the panics are caught above it).
-/
namespace Go.Proofs.Ytcljoaknaegpmaa
open Go Go.RowKit

/-- A block of two cells that holds this list and this place. -/
def Cur (w : World) (p : Nat) (l : Value) (i : Int) : Prop := ∃ t, w.heap[p]? = some (.cells #[l, .int .i64 i] t (0, 0))
theorem Cur.c0 {w : World} {p : Nat} {l : Value} {i : Int} (h : Cur w p l i) : w.cell? ⟨p, 0, none⟩ = some l := by
  obtain ⟨t, h⟩ := h
  simp [World.cell?, h]
theorem Cur.c1 {w : World} {p : Nat} {l : Value} {i : Int} (h : Cur w p l i) : w.cell? ⟨p, 1, none⟩ = some (.int .i64 i) := by
  obtain ⟨t, h⟩ := h
  simp [World.cell?, h]
theorem Cur.f1 {w : World} {p : Nat} {l : Value} {i : Int} (h : Cur w p l i) : w.frozen? ⟨p, 1, none⟩ = false := by
  obtain ⟨t, h⟩ := h
  simp [World.frozen?, h]
theorem Cur.lt {w : World} {p : Nat} {l : Value} {i : Int} (h : Cur w p l i) : p < w.heap.size := by
  obtain ⟨t, h⟩ := h
  exact (Array.getElem?_eq_some_iff.1 h).1
theorem Cur.of_block {w w' : World} {p : Nat} {l : Value} {i : Int} (h : Cur w p l i) (hb : w'.heap[p]? = w.heap[p]?) : Cur w' p l i := by
  obtain ⟨t, h⟩ := h
  exact ⟨t, hb.trans h⟩
theorem Cur.up {w w' : World} {p : Nat} {l : Value} {i : Int} (h : Cur w p l i) (n : Below w.heap.size w w') : Cur w' p l i := h.of_block (n.block p h.lt)
theorem Cur.drew {w : World} {p : Nat} {l : Value} {i : Int} (h : Cur w p l i) (n : Nat) : Cur (w.drewN n) p l i := h
theorem Cur.store {w : World} {p : Nat} {l : Value} {i : Int} (h : Cur w p l i) (j : Int) : Cur (w.setCell ⟨p, 1, none⟩ (.int .i64 j)) p l j := by
  obtain ⟨t, h⟩ := h
  refine ⟨t, ?_⟩
  show (w.heap.modify p _)[p]? = _
  rw [Array.getElem?_modify, if_pos rfl, h]
  rfl
/-- A block of two cells. -/
def Tl (w : World) (p : Nat) (x y : Value) : Prop := ∃ t, w.heap[p]? = some (.cells #[x, y] t (0, 0))
theorem Tl.c0 {w : World} {p : Nat} {x y : Value} (h : Tl w p x y) : w.cell? ⟨p, 0, none⟩ = some x := by
  obtain ⟨t, h⟩ := h
  simp [World.cell?, h]
theorem Tl.c1 {w : World} {p : Nat} {x y : Value} (h : Tl w p x y) : w.cell? ⟨p, 1, none⟩ = some y := by
  obtain ⟨t, h⟩ := h
  simp [World.cell?, h]
theorem Tl.fr {w : World} {p : Nat} {x y : Value} (h : Tl w p x y) (i : Nat) : w.frozen? ⟨p, i, none⟩ = false := by
  obtain ⟨t, h⟩ := h
  simp [World.frozen?, h]
theorem Tl.lt {w : World} {p : Nat} {x y : Value} (h : Tl w p x y) : p < w.heap.size := by
  obtain ⟨t, h⟩ := h
  exact (Array.getElem?_eq_some_iff.1 h).1
theorem Tl.of_block {w w' : World} {p : Nat} {x y : Value} (h : Tl w p x y) (hb : w'.heap[p]? = w.heap[p]?) : Tl w' p x y := by
  obtain ⟨t, h⟩ := h
  exact ⟨t, hb.trans h⟩
theorem Tl.up {w w' : World} {p : Nat} {x y : Value} (h : Tl w p x y) (n : Below w.heap.size w w') : Tl w' p x y := h.of_block (n.block p h.lt)
theorem Tl.only {w w' : World} {p q : Nat} {x y : Value} (h : Tl w p x y) (n : Only q w w') (hne : p ≠ q) : Tl w' p x y := h.of_block (n.block p hne)
theorem Tl.set0 {w : World} {p : Nat} {x y : Value} (h : Tl w p x y) (z : Value) : Tl (w.setCell ⟨p, 0, none⟩ z) p z y := by
  obtain ⟨t, h⟩ := h
  refine ⟨t, ?_⟩
  show (w.heap.modify p _)[p]? = _
  rw [Array.getElem?_modify, if_pos rfl, h]
  rfl
theorem Tl.set1 {w : World} {p : Nat} {x y : Value} (h : Tl w p x y) (z : Value) : Tl (w.setCell ⟨p, 1, none⟩ z) p x z := by
  obtain ⟨t, h⟩ := h
  refine ⟨t, ?_⟩
  show (w.heap.modify p _)[p]? = _
  rw [Array.getElem?_modify, if_pos rfl, h]
  rfl
theorem Tl.new (w : World) (x y : Value) (t : TypeId) : Tl (w.alloc (.cells #[x, y] t)) w.heap.size x y := by
  refine ⟨t, ?_⟩
  show (w.heap.push _)[w.heap.size]? = _
  simp
/-- A panic of the program's own. -/
def Pan (e : Ending) : Prop := ∃ t v, e = .panicked [{ v := .iface t v, recovered := false }]

set_option maxHeartbeats 1000000 in
theorem take_ok (w : World) (p g : Nat) (a : Option Addr) (c : Nat) (xs : List Int) (i : Nat) (hC : Cur w p (.slice a xs.length c) i) (hr : Rd w g a .u8 xs) (hi : i < xs.length) (hn : xs.length ≤ 9223372036854775807) :
    Calls Try.prog 93 #[.pointer (some ⟨p, 0, none⟩)] w fun e w' => e = .returned (.int .u8 (xs.getD i 0)) ∧ Cur w' p (.slice a xs.length c) ((i + 1 : Nat) : Int) ∧ Only p w w' := by
  obtain ⟨off, rfl, hc⟩ := hr (by omega)
  have h1 := hc i hi
  have c0 := hC.c0
  have c1 := hC.c1
  have f1 := hC.f1
  have t1 : decide ((i : Int) < 0) = false := by simp
  have t2 : decide ((xs.length : Int) ≤ (i : Int)) = false := by simp; omega
  have t3 : (i : Int) < (xs.length : Int) := by omega
  have K := fun k => hide (show Cur ((w.drewN k).setCell ⟨p, 1, none⟩ (.int .i64 ((i : Int) + 1))) p (.slice (some ⟨g, off, none⟩) xs.length c) ((i + 1 : Nat) : Int) from by have := (hC.drew k).store ((i : Int) + 1); rwa [show ((i : Int) + 1) = ((i + 1 : Nat) : Int) by omega] at this ⊢)
  generalize xs.getD i 0 = x at *
  generalize xs.length = n at *
  clear hc hC
  go_enter Try.func93, Try.ntmps93
  go_wp2
  go_quiet (fail)
  go_wp2
  go_quiet (fail)
  go_wp2
  go_ret
  exact ⟨rfl, (K _).out, (Only.drewN w p _).trans (Only.setCell _ _ _ _)⟩

set_option maxHeartbeats 1000000 in
theorem take_bad (w : World) (p : Nat) (a : Option Addr) (n c : Nat) (i : Int) (hC : Cur w p (.slice a n c) i) (hi : ¬ (0 ≤ i ∧ i < (n : Int))) :
    Calls Try.prog 93 #[.pointer (some ⟨p, 0, none⟩)] w fun e w' => Pan e ∧ Only p w w' := by
  have c0 := hC.c0
  have c1 := hC.c1
  by_cases c2 : i < 0
  · have t1 : decide (i < 0) = true := by simp; omega
    clear hC hi
    go_enter Try.func93, Try.ntmps93
    go_wp2
    go_quiet (fail)
    go_wp2
    exact ⟨rfl, ⟨_, _, rfl⟩, Only.drewN w p _⟩
  · have t1 : decide (i < 0) = false := by simp; omega
    have t2 : decide ((n : Int) ≤ i) = true := by simp; omega
    clear hC hi
    go_enter Try.func93, Try.ntmps93
    go_wp2
    go_quiet (fail)
    go_wp2
    exact ⟨rfl, ⟨_, _, rfl⟩, Only.drewN w p _⟩

end Go.Proofs.Ytcljoaknaegpmaa

/-
  Integers as bytes: numbers alone.
-/
namespace Go.Proofs.Ytcljoaknaegpmaa

/-- n bytes of v, the highest first. -/
def sgB (n : Nat) (v : Int) : List Int := fill (fun j => v / 2 ^ (8 * (n - 1 - j)) % 256) n
theorem sgB_len (n : Nat) (v : Int) : (sgB n v).length = n := fill_len _ _
theorem sgB_get (n : Nat) (v : Int) (j : Nat) (h : j < n) : (sgB n v).getD j 0 = v / 2 ^ (8 * (n - 1 - j)) % 256 := fill_get _ _ _ h
theorem sgB_byt (n : Nat) (v : Int) : Byt (sgB n v) := fun i => by
  by_cases h : i < n
  · rw [sgB_get n v i h]; omega
  · rw [List.getD_eq_getElem?_getD, List.getElem?_eq_none (by rw [sgB_len]; omega)]; decide
/-- v is told by n bytes. -/
def fits (n : Nat) (v : Int) : Bool := decide (-(2 ^ (8 * n - 1)) ≤ v ∧ v < 2 ^ (8 * n - 1))
def isz (v : Int) : Nat := if fits 1 v then 1 else if fits 2 v then 2 else if fits 3 v then 3 else if fits 4 v then 4 else if fits 5 v then 5 else if fits 6 v then 6 else if fits 7 v then 7 else 8
theorem fits_mono {n m : Nat} (h1 : 1 ≤ n) (h : n ≤ m) {v : Int} (hf : fits n v = true) : fits m v = true := by
  unfold fits at *
  simp only [decide_eq_true_eq] at *
  have : (2 : Int) ^ (8 * n - 1) ≤ 2 ^ (8 * m - 1) := by exact_mod_cast Nat.pow_le_pow_right (by decide) (by omega)
  omega
/-- The size is the least one that does. -/
theorem isz_of {v : Int} {n : Nat} (h1 : 1 ≤ n) (h8 : n ≤ 8) (hf : n = 8 ∨ fits n v = true) (hn : n = 1 ∨ fits (n - 1) v = false) : isz v = n := by
  have no : ∀ m, 1 ≤ m → m < n → fits m v = false := by
    intro m hm hmn
    rcases hn with hn | hn
    · omega
    · cases hfm : fits m v with
      | false => rfl
      | true => rw [fits_mono hm (by omega) hfm] at hn; cases hn
  obtain rfl | rfl | rfl | rfl | rfl | rfl | rfl | rfl : n = 1 ∨ n = 2 ∨ n = 3 ∨ n = 4 ∨ n = 5 ∨ n = 6 ∨ n = 7 ∨ n = 8 := by omega
  all_goals (unfold isz; simp_all [no 1, no 2, no 3, no 4, no 5, no 6, no 7])
theorem isz_bd (v : Int) : 1 ≤ isz v ∧ isz v ≤ 8 := by unfold isz; repeat' split
                                                       all_goals omega
theorem isz_min (v : Int) : isz v = 1 ∨ fits (isz v - 1) v = false := by
  unfold isz
  split
  · exact .inl rfl
  split
  · simp_all
  split
  · simp_all
  split
  · simp_all
  split
  · simp_all
  split
  · simp_all
  split
  · simp_all
  · simp_all
theorem isz_fits (v : Int) (h0 : -9223372036854775808 ≤ v) (h1 : v < 9223372036854775808) : fits (isz v) v = true := by
  unfold isz
  repeat' split
  all_goals first | assumption | skip
  unfold fits
  simp only [decide_eq_true_eq]
  exact ⟨by simpa using h0, by simpa using h1⟩
/-- What EncodeInteger answers. -/
def eiL (v : Int) : List Int := sgB (isz v) v
/-- The signed number of the first k bytes. -/
def svK (b : List Int) : Nat → Int
  | 0 => if 128 ≤ b.getD 0 0 then -1 else 0
  | k + 1 => svK b k * 256 + b.getD k 0
def sv (b : List Int) : Int := svK b b.length
theorem svK_bd {b : List Int} (hb : Byt b) : ∀ k, -(2 ^ (8 * k + 7)) ≤ svK b (k + 1) ∧ svK b (k + 1) < 2 ^ (8 * k + 7)
  | 0 => by
    have := hb 0
    simp only [svK]
    split <;> omega
  | k + 1 => by
    have ih := svK_bd hb k
    have hx := hb (k + 1)
    have e : svK b (k + 1 + 1) = svK b (k + 1) * 256 + b.getD (k + 1) 0 := rfl
    have p : (2 : Int) ^ (8 * (k + 1) + 7) = 2 ^ (8 * k + 7) * 256 := by rw [show 8 * (k + 1) + 7 = (8 * k + 7) + 8 by omega, Int.pow_add]; rfl
    rw [e, p]
    generalize (2 : Int) ^ (8 * k + 7) = q at *
    omega
theorem sv_fits {b : List Int} (hb : Byt b) (h : 1 ≤ b.length) : fits b.length (sv b) = true := by
  have := svK_bd hb (b.length - 1)
  unfold fits sv
  simp only [decide_eq_true_eq]
  rw [show b.length - 1 + 1 = b.length by omega, show 8 * (b.length - 1) + 7 = 8 * b.length - 1 by omega] at this
  exact this
theorem pow8_pos (k : Nat) : (0 : Int) < 2 ^ k := Int.pow_pos (by decide)
theorem svK_div {b : List Int} (hb : Byt b) (k : Nat) : ∀ m, svK b (k + m) / 2 ^ (8 * m) = svK b k
  | 0 => by simp
  | m + 1 => by
    have ih := svK_div hb k m
    have hx := hb (k + m)
    have e : svK b (k + (m + 1)) = svK b (k + m) * 256 + b.getD (k + m) 0 := rfl
    rw [show 8 * (m + 1) = 8 + 8 * m by omega, Int.pow_add, ← Int.ediv_ediv_of_nonneg (by decide), e, show ((2 : Int) ^ 8) = 256 from rfl]
    rw [show (svK b (k + m) * 256 + b.getD (k + m) 0) / 256 = svK b (k + m) by omega]
    exact ih
theorem sgB_sv {b : List Int} (hb : Byt b) : sgB b.length (sv b) = b := by
  refine eq_of_getD (sgB_len _ _) fun i hi => ?_
  rw [sgB_len] at hi
  rw [sgB_get _ _ _ hi]
  have := svK_div hb (i + 1) (b.length - 1 - i)
  rw [show i + 1 + (b.length - 1 - i) = b.length by omega] at this
  unfold sv
  rw [this]
  have hx := hb i
  show (svK b i * 256 + b.getD i 0) % 256 = _
  omega
theorem svK_sgB {n : Nat} {v : Int} (h1 : 1 ≤ n) (hf : fits n v = true) : ∀ k, k ≤ n → svK (sgB n v) k = v / 2 ^ (8 * (n - k))
  | 0, _ => by
    unfold fits at hf
    simp only [decide_eq_true_eq] at hf
    have p : (2 : Int) ^ (8 * (n - 0)) = 2 ^ (8 * (n - 1)) * 256 := by rw [show 8 * (n - 0) = 8 * (n - 1) + 8 by omega, Int.pow_add]; rfl
    have q : (2 : Int) ^ (8 * n - 1) = 2 ^ (8 * (n - 1)) * 128 := by rw [show 8 * n - 1 = 8 * (n - 1) + 7 by omega, Int.pow_add]; rfl
    rw [q] at hf
    have hp := pow8_pos (8 * (n - 1))
    rw [p, ← Int.ediv_ediv_of_nonneg (by omega)]
    simp only [svK]
    rw [sgB_get n v 0 (by omega), show n - 1 - 0 = n - 1 by omega]
    generalize (2 : Int) ^ (8 * (n - 1)) = d at *
    have a1 : -128 ≤ v / d := by rw [Int.le_ediv_iff_mul_le hp]; rw [Int.neg_mul, Int.mul_comm]; exact hf.1
    have a2 : v / d < 128 := by rw [Int.ediv_lt_iff_lt_mul hp, Int.mul_comm]; exact hf.2
    generalize v / d = t at *
    split <;> omega
  | k + 1, hk => by
    have ih := svK_sgB h1 hf k (by omega)
    show svK (sgB n v) k * 256 + (sgB n v).getD k 0 = _
    rw [ih, sgB_get n v k (by omega)]
    have p : (2 : Int) ^ (8 * (n - k)) = 2 ^ (8 * (n - 1 - k)) * 256 := by rw [show 8 * (n - k) = 8 * (n - 1 - k) + 8 by omega, Int.pow_add]; rfl
    have hp := pow8_pos (8 * (n - 1 - k))
    rw [p, ← Int.ediv_ediv_of_nonneg (by omega), show n - (k + 1) = n - 1 - k by omega]
    generalize v / 2 ^ (8 * (n - 1 - k)) = t
    omega
theorem sv_sgB {n : Nat} {v : Int} (h1 : 1 ≤ n) (hf : fits n v = true) : sv (sgB n v) = v := by
  have := svK_sgB h1 hf n (Nat.le_refl _)
  unfold sv
  rw [sgB_len, this]
  simp
theorem sv_sgB_iff {n : Nat} {v : Int} (h1 : 1 ≤ n) : decide (sv (sgB n v) = v) = fits n v := by
  cases hf : fits n v with
  | true => exact decide_eq_true (sv_sgB h1 hf)
  | false =>
    refine decide_eq_false fun h => ?_
    have := sv_fits (sgB_byt n v) (by rw [sgB_len]; exact h1)
    rw [sgB_len, h, hf] at this
    cases this
theorem sgB_drop (n m : Nat) (v : Int) (h : n ≤ m) : (sgB m v).drop (m - n) = sgB n v := by
  refine eq_of_getD (by rw [List.length_drop, sgB_len, sgB_len]; omega) fun i hi => ?_
  rw [List.length_drop, sgB_len] at hi
  rw [List.getD_eq_getElem?_getD, List.getElem?_drop, ← List.getD_eq_getElem?_getD, sgB_get _ _ _ (by omega), sgB_get _ _ _ (by omega), show m - 1 - (m - n + i) = n - 1 - i by omega]
/-- What DecodeInteger answers. -/
def diB (b : List Int) : Bool := decide (1 ≤ b.length) && (decide (b.length ≤ 8) && decide (isz (sv b) = b.length))
def diV (b : List Int) : Int := if diB b = true then sv b else 0
theorem diB_same {b : List Int} (hb : Byt b) : decide (eiL (sv b) = b) = decide (isz (sv b) = b.length) := by
  by_cases h : isz (sv b) = b.length
  · rw [decide_eq_true h]
    refine decide_eq_true ?_
    unfold eiL
    rw [h]
    exact sgB_sv hb
  · rw [decide_eq_false h]
    refine decide_eq_false fun e => h ?_
    have := congrArg List.length e
    unfold eiL at this
    rwa [sgB_len] at this
theorem eiL_len (v : Int) : (eiL v).length = isz v := sgB_len _ _
theorem eiL_byt (v : Int) : Byt (eiL v) := sgB_byt _ _
/-- There and back. -/
theorem di_ei (v : Int) (h0 : -9223372036854775808 ≤ v) (h1 : v < 9223372036854775808) : diB (eiL v) = true ∧ diV (eiL v) = v := by
  have hz := isz_bd v
  have e : sv (eiL v) = v := sv_sgB hz.1 (isz_fits v h0 h1)
  have hB : diB (eiL v) = true := by
    unfold diB
    rw [e, eiL_len]
    simp [hz.1, hz.2]
  refine ⟨hB, ?_⟩
  unfold diV
  rw [if_pos hB, e]
theorem ei_di {b : List Int} (hb : Byt b) (h : diB b = true) : eiL (diV b) = b := by
  unfold diV
  rw [if_pos h]
  unfold diB at h
  simp only [Bool.and_eq_true, decide_eq_true_eq] at h
  unfold eiL
  rw [h.2.2]
  exact sgB_sv hb
/-- L bits hold x, and no fewer do. -/
def Bts (x : Int) (L : Nat) : Prop := 0 ≤ x ∧ x < 2 ^ L ∧ (L = 0 ∨ 2 ^ (L - 1) ≤ x)
theorem Bts.le {x : Int} {L k : Nat} (h : Bts x L) (hx : x < 2 ^ k) : L ≤ k := by
  by_cases c : L ≤ k
  · exact c
  · rcases h.2.2 with h0 | h0
    · omega
    · have : (2 : Int) ^ k ≤ 2 ^ (L - 1) := by exact_mod_cast Nat.pow_le_pow_right (by decide) (by omega)
      omega
/-- How many bytes by how many bits. -/
theorem isz_bts {v : Int} {L : Nat} (h : Bts (if v < 0 then -v - 1 else v) L) (hL : L ≤ 63) : isz v = L / 8 + 1 := by
  obtain ⟨h0, h1, h2⟩ := h
  refine isz_of (by omega) (by omega) (.inr ?_) ?_
  · unfold fits
    simp only [decide_eq_true_eq]
    have : (2 : Int) ^ L ≤ 2 ^ (8 * (L / 8 + 1) - 1) := by exact_mod_cast Nat.pow_le_pow_right (by decide) (by omega)
    generalize (2 : Int) ^ (8 * (L / 8 + 1) - 1) = q at *
    split at h0 <;> split at h1 <;> omega
  · by_cases c : L < 8
    · left; omega
    · right
      rcases h2 with h2 | h2
      · omega
      · unfold fits
        simp only [decide_eq_false_iff_not]
        have : (2 : Int) ^ (8 * (L / 8 + 1 - 1) - 1) ≤ 2 ^ (L - 1) := by exact_mod_cast Nat.pow_le_pow_right (by decide) (by omega)
        generalize (2 : Int) ^ (8 * (L / 8 + 1 - 1) - 1) = q at *
        split at h2 <;> omega
end Go.Proofs.Ytcljoaknaegpmaa

/-
  Bits of signed numbers, as far as they are wanted.
-/
namespace Go.Proofs.Ytcljoaknaegpmaa
open Go Go.RowKit

theorem ofInt64 (v : Int) : ((BitVec.ofInt 64 v).toNat : Int) = v % 18446744073709551616 := by
  rw [BitVec.toNat_ofInt]
  rw [Int.toNat_of_nonneg (Int.emod_nonneg _ (by decide))]
  rfl
theorem wrap_i64 (n : Int) : IntKind.i64.wrap n = (n + 9223372036854775808) % 18446744073709551616 - 9223372036854775808 := by
  simp [IntKind.wrap, IntKind.signed, IntKind.bits]
  omega
/-- A number, or what has all its bits turned. -/
theorem xor_sign (v : Int) (h0 : -9223372036854775808 ≤ v) (h1 : v < 9223372036854775808) : IntKind.u64.wrap (bits .xor .i64 v (v / 9223372036854775808)) = if v < 0 then -v - 1 else v := by
  have e : bits .xor .i64 v (v / 9223372036854775808) = IntKind.i64.wrap ((BitVec.ofInt 64 v ^^^ BitVec.ofInt 64 (v / 9223372036854775808)).toNat : Int) := rfl
  rw [e, IntKind.wrap_u64, wrap_i64]
  by_cases c : v < 0
  · rw [if_pos c, show v / 9223372036854775808 = -1 by omega, show BitVec.ofInt 64 (-1) = BitVec.allOnes 64 by decide, BitVec.xor_allOnes, BitVec.toNat_not]
    have := ofInt64 v
    omega
  · rw [if_neg c, show v / 9223372036854775808 = 0 by omega, show BitVec.ofInt 64 0 = 0#64 by decide, BitVec.xor_zero]
    have := ofInt64 v
    omega
theorem or_byte (v x : Int) (h0 : -9223372036854775808 ≤ v * 256) (h1 : v * 256 < 9223372036854775808) (x0 : 0 ≤ x) (x1 : x < 256) : bits .or .i64 (v * 256) x = v * 256 + x := by
  have e : bits .or .i64 (v * 256) x = IntKind.i64.wrap ((BitVec.ofInt 64 (v * 256) ||| BitVec.ofInt 64 x).toNat : Int) := rfl
  rw [e, wrap_i64, BitVec.toNat_or]
  have a := ofInt64 (v * 256)
  have b := ofInt64 x
  obtain ⟨m, hm⟩ : ∃ m, (BitVec.ofInt 64 (v * 256)).toNat = 2 ^ 8 * m := ⟨(BitVec.ofInt 64 (v * 256)).toNat / 256, by omega⟩
  obtain ⟨y, hy⟩ : ∃ y, (BitVec.ofInt 64 x).toNat = y := ⟨_, rfl⟩
  rw [hm, hy, ← Nat.two_pow_add_eq_or_of_lt (by omega)]
  rw [hm] at a
  rw [hy] at b
  omega
end Go.Proofs.Ytcljoaknaegpmaa

/-
  The cursor's number of at most four bytes; the program's.
-/
namespace Go.Proofs.Ytcljoaknaegpmaa
open Go Go.RowKit

/-- A number of k bytes from place i on. -/
def beN (xs : List Int) (i : Nat) : Nat → Int
  | 0 => 0
  | k + 1 => beN xs i k * 256 + xs.getD (i + k) 0
theorem beN_rng {xs : List Int} (h : Byt xs) (i : Nat) : ∀ k, 0 ≤ beN xs i k ∧ beN xs i k < 256 ^ k
  | 0 => ⟨Int.le_refl _, by simp [beN]⟩
  | k + 1 => by
    have ih := beN_rng h i k
    have b := h (i + k)
    rw [beN, Int.pow_succ]
    omega
theorem Rd.of_block' {w w' : World} {g : Nat} {a : Option Addr} {k : IntKind} {xs : List Int} (h : Rd w g a k xs) (hb : 0 < xs.length → w'.heap[g]? = w.heap[g]?) : Rd w' g a k xs := by
  by_cases h0 : 0 < xs.length
  · exact h.of_block (hb h0)
  · exact fun q => absurd q h0
set_option maxHeartbeats 1000000 in
theorem curNum_any (w : World) (p g : Nat) (a : Option Addr) (c : Nat) (xs : List Int) (i t : Nat) (hC : Cur w p (.slice a xs.length c) i) (hr : Rd w g a .u8 xs) (hb : Byt xs) (hgp : 0 < xs.length → g ≠ p) (hi : i + t ≤ xs.length) (ht : t ≤ 4) (hn : xs.length ≤ 4194304) :
    Calls Try.prog 69 #[.pointer (some ⟨p, 0, none⟩), .int .i64 (t : Int)] w fun e w' => e = .returned (.int .i64 (beN xs i t)) ∧ Cur w' p (.slice a xs.length c) ((i + t : Nat) : Int) ∧ Only p w w' := by
  go_enter Try.func69, Try.ntmps69
  go_wp2
  go_loopw [5, 7] (fun v j wr => ∃ k : Nat, k ≤ t ∧ v = .int .i64 (beN xs i k) ∧ j = .int .i64 k ∧ Cur wr p (.slice a xs.length c) ((i + k : Nat) : Int) ∧ Only p w wr) (fun _ j _ => t - (intOf j).toNat)
  case atStart => exact ⟨0, Nat.zero_le _, rfl, rfl, hC, Only.refl _ _⟩
  case round =>
    obtain ⟨k, hk, rfl, rfl, C, O⟩ := hrel
    by_cases hlt : k < t
    · have TK := hide (take_ok wr p g a c xs (i + k) C (hr.of_block' (fun h => O.block g (hgp h))) (by omega) (by omega))
      have R := beN_rng hb i k
      have bx := hb (i + k)
      have p4 : beN xs i k < 16777216 := by
        rcases (by omega : k = 0 ∨ k = 1 ∨ k = 2 ∨ k = 3) with rfl | rfl | rfl | rfl
        all_goals (have := R.2; simp at this; omega)
      have OR := or_byte (beN xs i k) (xs.getD (i + k) 0) (by omega) (by omega) bx.1 bx.2
      have e : Hid (beN xs i (k + 1) = beN xs i k * 256 + xs.getD (i + k) 0) := rfl
      generalize beN xs i k = m at *
      generalize xs.getD (i + k) 0 = x at *
      have R0 := R.1
      have x0 := bx.1
      have x1 := bx.2
      have k1 : (k : Int) < (t : Int) := by omega
      clear R bx C
      go_wp2_with fail
      refine TK.out.mono ?_
      rintro r w' ⟨rfl, C', O'⟩
      clear TK
      go_wp2
      go_roundw
      case rel => exact ⟨k + 1, by omega, by rw [e.out], by go_num, C', O.trans O'⟩
      case measure => simp [intOf]; omega
    · obtain rfl : k = t := by omega
      go_wp2
      go_ret
      exact ⟨rfl, C, O⟩
end Go.Proofs.Ytcljoaknaegpmaa

/-
  Ages of tickets; the program's.
-/
namespace Go.Proofs.Ytcljoaknaegpmaa
open Go Go.RowKit

def isAg (n : Int) : Bool := decide (0 ≤ n) && decide (n ≤ 4294967295)
def isWd (n : Int) : Bool := decide (0 ≤ n) && decide (n ≤ 86400)
theorem isAg_iff (n : Int) : isAg n = true ↔ 0 ≤ n ∧ n ≤ 4294967295 := by simp [isAg]
theorem isWd_iff (n : Int) : isWd n = true ↔ 0 ≤ n ∧ n ≤ 86400 := by simp [isWd]
set_option maxRecDepth 100000 in
theorem isAge_any (w : World) (n : Int) : Calls Try.prog 61 #[.int .i64 n] w fun e w' => e = .returned (.bool (isAg n)) ∧ w' = w := by
  by_cases h : 0 ≤ n
  · have u : decide (0 ≤ n) = true := decide_eq_true h
    unfold isAg
    rw [u]
    go_enter Try.func61, Try.ntmps61
    go_wp2
    go_ret
    exact ⟨by simp, rfl⟩
  · have u : decide (0 ≤ n) = false := decide_eq_false h
    unfold isAg
    rw [u]
    go_enter Try.func61, Try.ntmps61
    go_wp2
    go_ret
    exact ⟨by simp, rfl⟩
def agV (xs : List Int) (s : Int) : Int := if xs.length = 32 ∧ isAg s = true then (s + beN xs 0 4) % 4294967296 else -1
def frV (xs : List Int) (n s d : Int) : Bool := decide (xs.length = 32) && isAg n && isAg s && isWd d && decide ((n - beN xs 0 4) % 4294967296 - s ≤ d) && decide (s - (n - beN xs 0 4) % 4294967296 ≤ d)
end Go.Proofs.Ytcljoaknaegpmaa

/-
  Names cut into labels, and what is wrong with them: bytes alone.
-/
namespace Go.Proofs.Ytcljoaknaegpmaa

def okB (c : UInt8) : Bool := (decide (97 ≤ (c.toNat : Int)) && decide ((c.toNat : Int) ≤ 122)) || (decide (48 ≤ (c.toNat : Int)) && decide ((c.toNat : Int) ≤ 57)) || decide ((c.toNat : Int) = 45)
/-- A byte that no label has. -/
def bad (l : List UInt8) : Bool := l.any fun c => !okB c
/-- What is wrong with a label. -/
def lbF (l : List UInt8) : Int := if l.length = 0 then 2 else if 63 < l.length then 3 else if bad l = true then 4 else if ((l.getD 0 0).toNat : Int) = 45 ∨ ((l.getD (l.length - 1) 0).toNat : Int) = 45 then 5 else 0
/-- The first of them. -/
def ff : List (List UInt8) → Int
  | [] => 0
  | l :: ls => if lbF l = 0 then ff ls else lbF l
def stp (p : List (List UInt8) × List UInt8) (c : UInt8) : List (List UInt8) × List UInt8 := if (c.toNat : Int) = 46 then (p.1 ++ [p.2], []) else (p.1, p.2 ++ [c])
/-- The labels that are whole, and the one that goes on. -/
def lst (l : List UInt8) : List (List UInt8) × List UInt8 := l.foldl stp ([], [])
def labs (l : List UInt8) : List (List UInt8) := (lst l).1 ++ [(lst l).2]
def nameF (l : List UInt8) : Int := if l.length < 1 ∨ 128 < l.length then 1 else ff (labs l)
theorem lst_snoc (l : List UInt8) (c : UInt8) : lst (l ++ [c]) = stp (lst l) c := by simp [lst]
theorem lst_dot (l : List UInt8) (c : UInt8) (h : (c.toNat : Int) = 46) : lst (l ++ [c]) = (labs l, []) := by
  rw [lst_snoc]
  exact if_pos h
theorem lst_in (l : List UInt8) (c : UInt8) (h : (c.toNat : Int) ≠ 46) : lst (l ++ [c]) = ((lst l).1, (lst l).2 ++ [c]) := by
  rw [lst_snoc]
  exact if_neg h
theorem ff_app (a b : List (List UInt8)) : ff (a ++ b) = if ff a = 0 then ff b else ff a := by
  induction a with
  | nil => simp [ff]
  | cons x a ih =>
    show (if lbF x = 0 then ff (a ++ b) else lbF x) = if (if lbF x = 0 then ff a else lbF x) = 0 then ff b else (if lbF x = 0 then ff a else lbF x)
    by_cases h : lbF x = 0
    · simp only [if_pos h]
      exact ih
    · simp only [if_neg h]
theorem ff_one (l : List UInt8) : ff [l] = lbF l := by
  show (if lbF l = 0 then ff [] else lbF l) = lbF l
  split
  · rename_i h
    rw [h]
    rfl
  · rfl
theorem snoc_ind {P : List UInt8 → Prop} (h0 : P []) (hs : ∀ l c, P l → P (l ++ [c])) : ∀ l, P l := by
  intro l
  have : ∀ n, n ≤ l.length → P (l.take n) := by
    intro n
    induction n with
    | zero => intro _; simpa using h0
    | succ n ih =>
      intro hn
      have e : l.take (n + 1) = l.take n ++ [l[n]] := by rw [List.take_succ_eq_append_getElem]
      rw [e]
      exact hs _ _ (ih (by omega))
  have := this l.length (Nat.le_refl _)
  rwa [List.take_length] at this
theorem lst_pre (a b : List UInt8) : ∃ t, (lst (a ++ b)).1 = (lst a).1 ++ t := by
  revert b
  refine snoc_ind (P := fun b => ∃ t, (lst (a ++ b)).1 = (lst a).1 ++ t) ⟨[], by simp⟩ ?_
  rintro l c ⟨t, ih⟩
  rw [← List.append_assoc, lst_snoc]
  unfold stp
  split
  · exact ⟨t ++ [(lst (a ++ l)).2], by rw [ih, List.append_assoc]⟩
  · exact ⟨t, ih⟩
/-- The label that goes on ends the text. -/
theorem lst_cur : ∀ l : List UInt8, ∃ s, s + (lst l).2.length = l.length ∧ (lst l).2 = l.drop s := by
  refine snoc_ind ⟨0, rfl, rfl⟩ ?_
  rintro l c ⟨s, h1, h2⟩
  rw [lst_snoc]
  unfold stp
  split
  · exact ⟨l.length + 1, by simp, by simp⟩
  · refine ⟨s, by simp; omega, ?_⟩
    simp only
    rw [List.drop_append_of_le_length (by omega), ← h2]
/-- The answer, where a whole label is the first that is wrong. -/
theorem ff_cut {a b : List UInt8} (h : ff (lst a).1 ≠ 0) : ff (lst (a ++ b)).1 = ff (lst a).1 := by
  obtain ⟨t, e⟩ := lst_pre a b
  rw [e, ff_app, if_neg h]
theorem bad_snoc (l : List UInt8) (c : UInt8) : bad (l ++ [c]) = (bad l || !okB c) := by simp [bad]
/-- A text as a value. -/
def tx (l : List UInt8) : Value := .string ⟨⟨l⟩⟩
theorem tx_size (l : List UInt8) : (ByteArray.mk ⟨l⟩).size = l.length := rfl
theorem tx_at (l : List UInt8) (i : Nat) (h : i < l.length) : (ByteArray.mk ⟨l⟩)[i]'h = l.getD i 0 := by
  simp only [List.getD, List.getElem?_eq_getElem h, Option.getD_some]
  rfl
theorem run_tx {P : Program} (w : World) (t : TypeId) (l : List UInt8) (i : Nat) (hu : P.underlying t = some .string) (h : i < l.length) : (Instr.index t (.string ⟨⟨l⟩⟩) (.int .i64 (i : Int))).run P w = .ok (.int .u8 ((l.getD i 0).toNat : Int)) w := by
  have hi : 0 ≤ (i : Int) ∧ (i : Int) < ((ByteArray.mk ⟨l⟩).size : Int) := ⟨by omega, by rw [tx_size]; omega⟩
  rw [run_index_string w t _ .i64 i hu, dif_pos hi]
  have e : (i : Int).toNat = i := by omega
  have := tx_at l i h
  simp only [e, this]
theorem run_tx_cut {P : Program} (w : World) (t : TypeId) (l : List UInt8) (i j : Nat) (hu : P.underlying t = some .string) (h : i ≤ j) (hj : j ≤ l.length) : (Instr.slice t (.string ⟨⟨l⟩⟩) (some (.int .i64 (i : Int))) (some (.int .i64 (j : Int))) none).run P w = .ok (.string ⟨⟨(l.drop i).take (j - i)⟩⟩) w := by
  rw [run_slice_string w t _ .i64 .i64 i j hu (by omega) (by omega) (by rw [tx_size]; omega)]
  have := ByteArray.extract_mk l i j
  simp only [Int.toNat_natCast]
  rw [show (ByteArray.mk ⟨l⟩) = ByteArray.mk l.toArray from rfl, this]
end Go.Proofs.Ytcljoaknaegpmaa

/-
  The program's labels: isLabelByte, labelFault, labelsFault, NameFault.
-/
namespace Go.Proofs.Ytcljoaknaegpmaa
open Go Go.RowKit

set_option maxRecDepth 100000 in
set_option maxHeartbeats 1000000 in
theorem isLabelByte_any (w : World) (c : UInt8) :
    Calls Try.prog 101 #[.int .u8 (c.toNat : Int)] w fun e w' => e = .returned (.bool (okB c)) ∧ w' = w := by
  have hb : okB c = ((decide (97 ≤ (c.toNat : Int)) && decide ((c.toNat : Int) ≤ 122)) || (decide (48 ≤ (c.toNat : Int)) && decide ((c.toNat : Int) ≤ 57)) || decide ((c.toNat : Int) = 45)) := rfl
  generalize okB c = b at *
  generalize (c.toNat : Int) = x at *
  have HB := hide hb
  clear hb
  by_cases h1 : 97 ≤ x <;> by_cases h2 : x ≤ 122 <;> by_cases h3 : 48 ≤ x <;> by_cases h4 : x ≤ 57 <;> by_cases h5 : x = 45
  all_goals first | (exfalso; omega) | skip
  all_goals (
    go_enter Try.func101, Try.ntmps101
    go_wp2
    go_ret
    refine ⟨?_, rfl⟩
    rw [HB.out]
    show Ending.returned (Value.bool _) = Ending.returned (Value.bool _)
    congr 2
    rw [Bool.eq_iff_iff]
    first | (simp; done) | (simp; omega))
set_option maxRecDepth 100000 in
set_option maxHeartbeats 1000000 in
theorem labelFault_any (w : World) (l : List UInt8) (hl : l.length ≤ 1000000) :
    Calls Try.prog 100 #[.string ⟨⟨l⟩⟩, .bool (bad l)] w fun e w' => e = .returned (.int .i64 (lbF l)) ∧ w' = w := by
  have hsz := tx_size l
  have eq0 : l.isEmpty = decide (l.length = 0) := by cases l <;> simp
  unfold lbF
  by_cases h0 : l.length = 0
  · rw [if_pos h0]
    have t0 : decide (l.length = 0) = true := decide_eq_true h0
    rw [t0] at eq0
    go_enter Try.func100, Try.ntmps100
    go_wp2
    go_ret
    exact ⟨rfl, rfl⟩
  · rw [if_neg h0]
    have t0 : decide (l.length = 0) = false := decide_eq_false h0
    rw [t0] at eq0
    have ix0 : ∀ w, (Instr.index 9 (.string ⟨⟨l⟩⟩) (.int .i64 0)).run Try.prog w = .ok (.int .u8 ((l.getD 0 0).toNat : Int)) w := fun w => run_tx (P := Try.prog) w 9 l 0 Try.underlying9 (by omega)
    have ix1 := fun w => run_tx (P := Try.prog) w 9 l (l.length - 1) Try.underlying9 (by omega)
    have e1 : ((l.length - 1 : Nat) : Int) = (l.length : Int) - 1 := by omega
    rw [e1] at ix1
    by_cases h1 : 63 < l.length
    · rw [if_pos h1]
      have t1 : decide ((63 : Int) < (l.length : Int)) = true := by simp; omega
      go_enter Try.func100, Try.ntmps100
      go_wp2
      go_ret
      exact ⟨rfl, rfl⟩
    · rw [if_neg h1]
      have t1 : decide ((63 : Int) < (l.length : Int)) = false := by simp; omega
      by_cases h2 : bad l = true
      · rw [if_pos h2, h2]
        go_enter Try.func100, Try.ntmps100
        go_wp2
        go_ret
        exact ⟨rfl, rfl⟩
      · rw [if_neg h2, Bool.eq_false_iff.2 h2]
        generalize ((l.getD 0 0).toNat : Int) = x at *
        generalize ((l.getD (l.length - 1) 0).toNat : Int) = y at *
        by_cases h3 : x = 45
        · rw [if_pos (.inl h3)]
          subst h3
          go_enter Try.func100, Try.ntmps100
          go_wp2
          go_ret
          exact ⟨rfl, rfl⟩
        · by_cases h4 : y = 45
          · rw [if_pos (.inr h4)]
            subst h4
            go_enter Try.func100, Try.ntmps100
            go_wp2
            go_ret
            exact ⟨rfl, rfl⟩
          · rw [if_neg (by rintro (h | h) <;> contradiction)]
            have b1 : (x == 45) = false := by simpa using h3
            have b2 : (y == 45) = false := by simpa using h4
            go_enter Try.func100, Try.ntmps100
            go_wp2
            go_ret
            exact ⟨rfl, rfl⟩

set_option maxRecDepth 100000 in
set_option maxHeartbeats 4000000 in
theorem labelsFault_any (w : World) (t : List UInt8) (hl : t.length ≤ 1000000) :
    Calls Try.prog 82 #[.string ⟨⟨t⟩⟩] w fun e w' => e = .returned (.int .i64 (ff (lst t).1)) ∧ w' = w := by
  have hsz := tx_size t
  go_enter Try.func82, Try.ntmps82
  go_wp2
  go_step3
  go_wp2
  go_step3
  go_wp2
  go_loopw [3, 4, 5, 10] (fun f s b i wr => wr = w ∧ ∃ k s' : Nat, k ≤ t.length ∧ i = .int .i64 k ∧ f = .int .i64 0 ∧ s = .int .i64 s' ∧ b = .bool (bad (lst (t.take k)).2) ∧ ff (lst (t.take k)).1 = 0 ∧ s' + (lst (t.take k)).2.length = k) (fun _ _ _ i _ => t.length - (intOf i).toNat)
  case atStart => exact ⟨rfl, 0, 0, by omega, rfl, rfl, rfl, rfl, rfl, rfl⟩
  case round =>
    obtain ⟨rfl, k, s', hk, rfl, rfl, rfl, rfl, hff, hs⟩ := hrel
    by_cases hlt : k < t.length
    · have t1 : (k : Int) < (t.length : Int) := by omega
      have ix := fun w => run_tx (P := Try.prog) w 9 t k Try.underlying9 hlt
      have e : t.take (k + 1) = t.take k ++ [t.getD k 0] := by
        rw [List.take_succ_eq_append_getElem hlt]
        congr 2
        simp [hlt]
      obtain ⟨c, hc⟩ : ∃ c, c = t.getD k 0 := ⟨_, rfl⟩
      rw [← hc] at ix e
      clear hc
      have cur := lst_cur (t.take k)
      obtain ⟨s2, q1, q2⟩ := cur
      rw [List.length_take, Nat.min_eq_left (by omega)] at q1
      obtain rfl : s2 = s' := by omega
      have CU : (t.drop s2).take (k - s2) = (lst (t.take k)).2 := by
        rw [q2, List.drop_take]
      by_cases h46 : (c.toNat : Int) = 46
      · have L := lst_dot (t.take k) c h46
        rw [← e] at L
        have cut := fun w => run_tx_cut (P := Try.prog) w 9 t s2 k Try.underlying9 (by omega) (by omega)
        rw [CU] at cut
        have LF := hide (fun w => labelFault_any w (lst (t.take k)).2 (by omega))
        have FF : Hid (ff (lst (t.take (k + 1))).1 = lbF (lst (t.take k)).2) := by
          show _ = _
          rw [L]
          show ff (labs (t.take k)) = _
          unfold labs
          rw [ff_app, if_pos hff, ff_one]
        have E1 : Hid ((lst (t.take (k + 1))).2 = []) := by show _ = _; rw [L]
        have HC := hide (fun h => ff_cut (a := t.take (k + 1)) (b := t.drop (k + 1)) h)
        rw [List.take_append_drop] at HC
        clear L CU q1 q2 e hff
        generalize (lst (t.take k)).2 = cur at *
        have b46 : ((c.toNat : Int) == 46) = true := by rw [h46]; rfl
        generalize (c.toNat : Int) = x at *
        subst h46
        go_wp2_with fail
        refine (LF.out _).mono ?_
        rintro e w1 ⟨rfl, h1⟩
        have h1' := h1.symm
        subst h1'
        clear LF cut ix h1
        by_cases hf : lbF cur = 0
        · rw [hf] at FF ⊢
          clear HC hf hs
          go_wp2
          go_roundw
          case rel => exact ⟨trivial, k + 1, k + 1, by omega, by go_num, rfl, by go_num, by rw [E1.out]; rfl, FF.out, by rw [E1.out]; simp⟩
          case measure => simp [intOf]; omega
        · have b0 : (lbF cur != 0) = true := by simpa using hf
          have EQ : Hid (ff (lst t).1 = lbF cur) := by
            show _ = _
            rw [HC.out (by rw [FF.out]; exact hf), FF.out]
          clear FF E1 HC
          generalize lbF cur = z at *
          go_wp2
          rw [Exit.noGoto_ret]
          go_ret
          exact ⟨by rw [EQ.out]; rfl, rfl⟩
      · have L := lst_in (t.take k) c h46
        rw [← e] at L
        have IB := hide (fun w => isLabelByte_any w c)
        have b46 : ((c.toNat : Int) == 46) = false := by simpa using h46
        have R1 : Hid (bad (lst (t.take (k + 1))).2 = (bad (lst (t.take k)).2 || !okB c)) := by
          show _ = _
          rw [L]
          exact bad_snoc _ _
        have R2 : Hid (ff (lst (t.take (k + 1))).1 = 0) := by
          show _ = _
          rw [L]
          exact hff
        have R3 : Hid (s2 + (lst (t.take (k + 1))).2.length = k + 1) := by
          show _ = _
          rw [L]
          simp only [List.length_append, List.length_cons, List.length_nil]
          omega
        clear L CU q1 q2 e hff hs
        generalize bad (lst (t.take k)).2 = st at *
        generalize (c.toNat : Int) = x at *
        cases st with
        | true =>
          go_wp2
          go_roundw
          case rel => exact ⟨trivial, k + 1, s2, by omega, by go_num, rfl, rfl, by rw [R1.out]; rfl, R2.out, R3.out⟩
          case measure => simp [intOf]; omega
        | false =>
          go_wp2_with fail
          refine (IB.out _).mono ?_
          rintro e w1 ⟨rfl, h1⟩
          have h1' := h1.symm
          subst h1'
          clear h1
          go_wp2
          go_roundw
          case rel => exact ⟨trivial, k + 1, s2, by omega, by go_num, rfl, rfl, by rw [R1.out]; rfl, R2.out, R3.out⟩
          case measure => simp [intOf]; omega
    · obtain rfl : k = t.length := by omega
      rw [List.take_length] at hff
      have HF := hide hff
      clear hs hff
      go_wp2
      rw [Exit.noGoto_ret]
      go_ret
      exact ⟨by rw [HF.out]; rfl, rfl⟩
end Go.Proofs.Ytcljoaknaegpmaa

/-
  The program's NameFault.
-/
namespace Go.Proofs.Ytcljoaknaegpmaa
open Go Go.RowKit

set_option maxRecDepth 100000 in
set_option maxHeartbeats 1000000 in
theorem implNameFault_any (w : World) (l : List UInt8) (hl : l.length ≤ 9223372036854775807) :
    Calls Try.prog 60 #[.string ⟨⟨l⟩⟩] w fun e w' => e = .returned (.int .i64 (nameF l)) ∧ w' = w := by
  have hsz := tx_size l
  by_cases h0 : l.length < 1
  · have eN : Hid (nameF l = 1) := by show _ = _; unfold nameF; rw [if_pos (.inl h0)]
    have eq0 : l.isEmpty = true := by cases l with | nil => rfl | cons a b => simp at h0
    go_enter Try.func60, Try.ntmps60
    go_wp2
    go_ret
    exact ⟨by rw [eN.out]; rfl, rfl⟩
  · have eq0 : l.isEmpty = false := by cases l with | nil => simp at h0 | cons a b => rfl
    by_cases h1 : 128 < l.length
    · have eN : Hid (nameF l = 1) := by show _ = _; unfold nameF; rw [if_pos (.inr h1)]
      have t1 : decide ((128 : Int) < (l.length : Int)) = true := by simp; omega
      go_enter Try.func60, Try.ntmps60
      go_wp2
      go_ret
      exact ⟨by rw [eN.out]; rfl, rfl⟩
    · have eN : Hid (nameF l = ff (lst (l ++ [46])).1) := by
        show _ = _
        unfold nameF
        rw [if_neg (by omega), lst_dot l 46 (by decide)]
      have t1 : decide ((128 : Int) < (l.length : Int)) = false := by simp; omega
      have LF := hide (fun w => labelsFault_any w (l ++ [46]) (by simp; omega))
      have ad : ∀ w : World, (Op.stringOp .add (ByteArray.mk ⟨l⟩) (ByteArray.mk #[46])).run Try.prog w = .ok (.string ⟨⟨l ++ [46]⟩⟩) w := by
        intro w
        rw [run_string_add_sum w _ _ (by rw [tx_size]; show l.length + 1 ≤ _; omega)]
        have := ByteArray.mk_append_mk l [46]
        exact congrArg (fun s => Result.ok (Value.string s) w) this
      go_enter Try.func60, Try.ntmps60
      go_wp2_with fail
      refine (LF.out w).mono ?_
      rintro e w1 ⟨rfl, rfl⟩
      go_wp2
      go_ret
      exact ⟨by rw [eN.out]; rfl, rfl⟩
end Go.Proofs.Ytcljoaknaegpmaa

/-
  The model's labels.
-/
namespace Go.Proofs.Ytcljoaknaegpmaa
open Go Go.RowKit

/-- A row of texts that the walk owns. -/
def RowT (w : World) (base : Nat) (v : Value) (ls : List (List UInt8)) : Prop := w.ownsRow base 9 1 v ls.length (ls.map tx)
theorem tx_one (ls : List (List UInt8)) : ∀ u ∈ ls.map tx, u.oneCell' = true := by
  intro u hu
  obtain ⟨x, _, rfl⟩ := List.mem_map.1 hu
  rfl
set_option maxRecDepth 100000 in
theorem infoTx : (Try.prog.info? 9).map (fun i => (i.zero, i.size, i.bytes)) = some (some (.string ⟨#[]⟩), 1, 16) := by kernel_rfl
set_option maxRecDepth 100000 in
theorem undTx : Try.prog.underlying 74 = some (.slice 9) := Try.underlying74
theorem RowT.lit1 (w : World) (l : List UInt8) : RowT (w.alloc (.cells #[tx l] 9)) w.heap.size (.slice (some ⟨w.heap.size, 0, none⟩) 1 1) [l] :=
  World.ownsRow_lit w #[tx l] 1 (Nat.le_refl _) (by unfold maxLen; omega) (by simp)
set_option maxRecDepth 100000 in
/-- One text more. -/
theorem append_tx (w : World) (ty : TypeId) (base : Nat) (v : Value) (ls : List (List UInt8)) (hown : RowT w base v ls) (l : List UInt8) (hl : ls.length ≤ 1000000) (hbase : base ≤ w.heap.size) :
    ∃ v' w', (Builtin.append_ #[74, 74] ty #[v, .slice (some ⟨w.heap.size, 0, none⟩) 1 1]).run Try.prog (w.alloc (.cells #[tx l] 9)) = .ok v' w' ∧ RowT w' base v' (ls ++ [l]) ∧ Below base w w' := by
  obtain ⟨i, hi, hz, hs, hb⟩ := info_parts infoTx
  have h0 : RowT (w.alloc (.cells #[tx l] 9)) base v ls := World.ownsRow.alloc hown _
  have m1 : Below base w (w.alloc (.cells #[tx l] 9)) := (Below.refl _ _).alloc hbase _
  obtain ⟨v', w', h1, h2, h3, _⟩ := run_append_own (P := Try.prog) (w.alloc (.cells #[tx l] 9)) base 74 ty 9 i (.string ⟨#[]⟩) 1 16 undTx hi hz hs hb rfl (by decide) v ls.length (ls.map tx) h0 ⟨w.heap.size, 0, none⟩ 1 1 [tx l] (by simp) (cell_one_new w (tx l) 9) (by simp [tx, Value.oneCell']) (by unfold maxLen; omega) (by omega) (by simp; omega)
  refine ⟨v', w', h1, ?_, m1.grown h3 (by simp; omega) (fun k hk => by have := (World.ownsRow.lt h0 k hk).1; omega)⟩
  show w'.ownsRow base 9 1 v' (ls ++ [l]).length ((ls ++ [l]).map tx)
  rw [List.length_append, List.map_append]
  exact h2
theorem RowT.cells {w : World} {base : Nat} {v : Value} {ls : List (List UInt8)} (h : RowT w base v ls) (h0 : 0 < ls.length) : ∃ g c, v = .slice (some ⟨g, 0, none⟩) ls.length c ∧ base ≤ g ∧ g < w.heap.size ∧ (∀ i, i < ls.length → w.cell? ⟨g, i, none⟩ = some (tx (ls.getD i []))) ∧ ∀ i, w.frozen? ⟨g, i, none⟩ = false := by
  rcases h.2 with ⟨_, h'⟩ | ⟨g, cap, cur, rfl, hb, hg, hnc, hcm, hcs, ht⟩
  · omega
  · refine ⟨g, cap, rfl, hb, (Array.getElem?_eq_some_iff.1 hg).1, fun i hi => ?_, fun i => frozen_of_row w g i cur 9 hg⟩
    rw [cell_of_row w g i cur 9 (0, 0) hg]
    have : (cur.toList.take (ls.length * 1))[i]? = (ls.map tx)[i]? := by rw [ht]
    rw [List.getElem?_take, if_pos (by omega)] at this
    simpa [hi] using this
theorem set_snoc {α : Type} : ∀ (a : List α) (x y : α), (a ++ [x]).set a.length y = a ++ [y]
  | [], _, _ => rfl
  | b :: a, x, y => congrArg (List.cons b) (set_snoc a x y)
/-- The last text is replaced. -/
theorem RowT.setLast {w : World} {base g c : Nat} {ls : List (List UInt8)} {l : List UInt8} (h : RowT w base (.slice (some ⟨g, 0, none⟩) (ls.length + 1) c) (ls ++ [l])) (l' : List UInt8) (n : Nat) : RowT ((w.drewN n).setCell ⟨g, ls.length, none⟩ (tx l')) base (.slice (some ⟨g, 0, none⟩) (ls.length + 1) c) (ls ++ [l']) := by
  refine ⟨by simp, ?_⟩
  rcases h.2 with ⟨h', _⟩ | ⟨g', cap, cur, e, hb, hg, hnc, hcm, hcs, ht⟩
  · simp at h'
  · simp only [Value.slice.injEq, Option.some.injEq, Addr.mk.injEq, and_true] at e
    obtain ⟨rfl, e2, rfl⟩ := e
    refine .inr ⟨g, c, cur.setIfInBounds ls.length (tx l'), by simp, hb, ?_, by simpa using hnc, hcm, by simpa using hcs, ?_⟩
    · exact heap_setCell_same (w.drewN n) g ls.length cur 9 (tx l') hg
    · simp only [List.length_append, List.length_cons, List.length_nil, Nat.mul_one, List.map_append, List.map_cons, List.map_nil] at ht ⊢
      rw [Array.toList_setIfInBounds, List.take_set, ht]
      have e3 : ls.length = (ls.map tx).length := by simp
      rw [e3]
      exact set_snoc _ _ _
theorem RowT.up {w w' : World} {base : Nat} {v : Value} {ls : List (List UInt8)} (h : RowT w base v ls) (hb : Below w.heap.size w w') : RowT w' base v ls := by
  refine ⟨h.1, ?_⟩
  rcases h.2 with h' | ⟨g, cap, cur, rfl, hbg, hg, hnc, hcm, hcs, ht⟩
  · exact .inl h'
  · exact .inr ⟨g, cap, cur, rfl, hbg, by rw [hb.block g ((Array.getElem?_eq_some_iff.1 hg).1)]; exact hg, hnc, hcm, hcs, ht⟩

/-- A row of texts that the call made. -/
def NewT1 (B : Nat) (w' : World) (e : Ending) (ls : List (List UInt8)) : Prop := ∃ v, e = .returned v ∧ RowT w' B v ls
theorem labs_snoc (l : List UInt8) (c : UInt8) : labs (l ++ [c]) = if (c.toNat : Int) = 46 then labs l ++ [[]] else (lst l).1 ++ [(lst l).2 ++ [c]] := by
  unfold labs
  rw [lst_snoc]
  unfold stp
  split <;> simp
theorem lst_len (l : List UInt8) : (lst l).1.length ≤ l.length := by
  revert l
  refine snoc_ind (by simp [lst]) ?_
  intro l c ih
  rw [lst_snoc]
  unfold stp
  split
  · simp; omega
  · simp; omega
set_option maxRecDepth 100000 in
theorem buildT (w : World) (l : List UInt8) : (Instr.buildSlice 74 1 #[(0, .string ⟨⟨l⟩⟩)]).run Try.prog w = .ok (.slice (some ⟨w.heap.size, 0, none⟩) 1 1) (w.alloc (.cells #[tx l] 9)) := by kernel_rfl

set_option maxRecDepth 100000 in
set_option maxHeartbeats 4000000 in
theorem l11Labels_any (w : World) (t : List UInt8) (hl : t.length ≤ 128) :
    Calls Try.prog 54 #[.string ⟨⟨t⟩⟩] w fun e w' => NewT1 w.heap.size w' e (labs t) ∧ Below w.heap.size w w' := by
  have hsz := tx_size t
  have B0 := fun w => buildT w []
  have R0 := RowT.lit1 w []
  have n0 : Below w.heap.size w (w.alloc (.cells #[tx []] 9)) := (Below.refl _ _).alloc (Nat.le_refl _) _
  go_enter Try.func54, Try.ntmps54
  go_wp2
  have R0' : RowT (w.alloc (.cells #[Value.string ⟨#[]⟩] 9)) w.heap.size (.slice (some ⟨w.heap.size, 0, none⟩) 1 1) [[]] := R0
  have n0' : Below w.heap.size w (w.alloc (.cells #[Value.string ⟨#[]⟩] 9)) := n0
  clear R0 n0 B0
  generalize w.alloc (.cells #[Value.string ⟨#[]⟩] 9) = w1 at *
  go_loopw [3, 4] (fun o i wr => ∃ k : Nat, k ≤ t.length ∧ i = .int .i64 k ∧ RowT wr w.heap.size o (labs (t.take k)) ∧ Below w.heap.size w wr) (fun _ i _ => t.length - (intOf i).toNat)
  case atStart => exact ⟨0, by omega, rfl, R0', n0'⟩
  case round =>
    clear R0' n0'
    obtain ⟨k, hk, rfl, R, N⟩ := hrel
    by_cases hlt : k < t.length
    · have t1 : (k : Int) < (t.length : Int) := by omega
      have ix := fun w => run_tx (P := Try.prog) w 9 t k Try.underlying9 hlt
      have e : t.take (k + 1) = t.take k ++ [t.getD k 0] := by
        rw [List.take_succ_eq_append_getElem hlt]
        congr 2
        simp [hlt]
      have LS := labs_snoc (t.take k) (t.getD k 0)
      rw [← e] at LS
      have ll := lst_len (t.take k)
      rw [List.length_take, Nat.min_eq_left (by omega)] at ll
      have cut0 : (t.drop k).take (k + 1 - k) = [t.getD k 0] := by
        have eg : t.getD k 0 = t[k] := by simp [hlt]
        rw [eg, show k + 1 - k = 1 by omega, List.drop_eq_getElem_cons hlt]
        rfl
      obtain ⟨c, hc⟩ : ∃ c, c = t.getD k 0 := ⟨_, rfl⟩
      rw [← hc] at ix LS cut0
      clear hc e
      by_cases h46 : (c.toNat : Int) = 46
      · rw [if_pos h46] at LS
        have hL : (labs (t.take k)).length ≤ 1000000 := by unfold labs; simp; omega
        obtain ⟨v', w2, h1, R2, N2⟩ := append_tx wr 74 w.heap.size _ _ R [] hL (N.size)
        rw [← LS] at R2
        have h1' : (Builtin.append_ #[74, 74] 74 #[u3, .slice (some ⟨wr.heap.size, 0, none⟩) 1 1]).run Try.prog (wr.alloc (.cells #[Value.string ⟨#[]⟩] 9)) = .ok v' w2 := h1
        have RR := hide R2
        have NN := hide (N.trans N2)
        clear h1 R2 N2 R N LS hL cut0
        have b46 : ((c.toNat : Int) == 46) = true := by rw [h46]; rfl
        generalize (c.toNat : Int) = x at *
        subst h46
        go_wp2_with (at_builtin; refine Lib.wpList_append_run _ rfl _ _ 74 74 rfl _ _ rfl rfl _ _ h1' ?_)
        clear h1'
        go_wp2
        go_roundw
        case rel => exact ⟨k + 1, by omega, by go_num, RR.out, NN.out⟩
        case measure => simp [intOf]; omega
      · rw [if_neg h46] at LS
        have b46 : ((c.toNat : Int) == 46) = false := by simpa using h46
        generalize (c.toNat : Int) = x at *
        unfold labs at R
        obtain ⟨g, cp, rfl, hg, hgl, hc, hf⟩ := R.cells (by simp)
        have cl := hc (lst (t.take k)).1.length (by simp)
        have fl := hf (lst (t.take k)).1.length
        have eg : ((lst (t.take k)).1 ++ [(lst (t.take k)).2]).getD (lst (t.take k)).1.length [] = (lst (t.take k)).2 := by simp
        rw [eg] at cl
        have el : ((lst (t.take k)).1 ++ [(lst (t.take k)).2]).length = (lst (t.take k)).1.length + 1 := by simp
        rw [el] at R ⊢
        have RS := fun n => hide (RowT.setLast R ((lst (t.take k)).2 ++ [c]) n)
        rw [← LS] at RS
        have NS : ∀ n, Hid (Below w.heap.size w ((wr.drewN n).setCell ⟨g, (lst (t.take k)).1.length, none⟩ (tx ((lst (t.take k)).2 ++ [c])))) := fun n => (below_drewN N n).setCell hg _
        have ex : (ByteArray.mk ⟨t⟩).extract k (k + 1) = ByteArray.mk ⟨[c]⟩ := by
          have := ByteArray.extract_mk t k (k + 1)
          rw [cut0] at this
          exact this
        have lc : (lst (t.take k)).2.length ≤ 128 := by
          obtain ⟨s, h1, _⟩ := lst_cur (t.take k)
          rw [List.length_take] at h1
          omega
        have ap : ByteArray.mk ⟨(lst (t.take k)).2⟩ ++ ByteArray.mk ⟨[c]⟩ = ByteArray.mk ⟨(lst (t.take k)).2 ++ [c]⟩ := ByteArray.mk_append_mk (lst (t.take k)).2 [c]
        have sz1 : ¬ ((lst (t.take k)).2.length + 1 > 9223372036854775807) := by omega
        clear hc hf eg el R N LS cut0 hgl
        generalize (lst (t.take k)).2 = cur at *
        generalize (lst (t.take k)).1.length = m at *
        unfold tx at cl RS NS
        go_wp2
        go_region
        go_wp2
        go_roundw
        case rel => exact ⟨k + 1, by omega, by go_num, (RS _).out, (NS _).out⟩
        case measure => simp [intOf]; omega
    · obtain rfl : k = t.length := by omega
      rw [List.take_length] at R
      have RR := hide R
      have NN := hide N
      clear R N
      go_wp2
      go_ret
      exact ⟨⟨_, rfl, RR.out⟩, NN.out⟩
end Go.Proofs.Ytcljoaknaegpmaa

/-
  The model's NameFault, and the law.
-/
namespace Go.Proofs.Ytcljoaknaegpmaa
open Go Go.RowKit

theorem ff_take {ls : List (List UInt8)} {k : Nat} (hk : k < ls.length) (h : ff (ls.take k) = 0) : ff (ls.take (k + 1)) = lbF (ls.getD k []) ∧ (lbF (ls.getD k []) ≠ 0 → ff ls = lbF (ls.getD k [])) := by
  have e : ls.take (k + 1) = ls.take k ++ [ls.getD k []] := by
    rw [List.take_succ_eq_append_getElem hk]
    congr 2
    simp [hk]
  have e1 : ff (ls.take (k + 1)) = lbF (ls.getD k []) := by rw [e, ff_app, if_pos h, ff_one]
  refine ⟨e1, fun hne => ?_⟩
  rw [← List.take_append_drop (k + 1) ls, ff_app, e1, if_neg hne]
  rw [List.take_append_drop]
theorem bad_take {l : List UInt8} {m : Nat} (hm : m < l.length) : bad (l.take (m + 1)) = (bad (l.take m) || !okB (l.getD m 0)) := by
  have e : l.take (m + 1) = l.take m ++ [l.getD m 0] := by
    rw [List.take_succ_eq_append_getElem hm]
    congr 2
    simp [hm]
  rw [e, bad_snoc]
theorem bad_of {l : List UInt8} {m : Nat} (hm : m < l.length) (h : okB (l.getD m 0) = false) : bad l = true := by
  unfold bad
  rw [List.any_eq_true]
  refine ⟨l.getD m 0, ?_, by rw [h]; rfl⟩
  simp [hm]

set_option maxRecDepth 100000 in
set_option maxHeartbeats 8000000 in
theorem specNameFault_any (w : World) (t : List UInt8) (hl : t.length ≤ 9223372036854775807) :
    Calls Try.prog 34 #[.string ⟨⟨t⟩⟩] w fun e w' => e = .returned (.int .i64 (nameF t)) ∧ Below w.heap.size w w' := by
  have hsz := tx_size t
  by_cases h0 : t.length < 1
  · have eN : Hid (nameF t = 1) := by show _ = _; unfold nameF; rw [if_pos (.inl h0)]
    have t0 : decide ((t.length : Int) < 1) = true := by simp; omega
    go_enter Try.func34, Try.ntmps34
    go_wp2
    go_ret
    exact ⟨by rw [eN.out]; rfl, Below.refl _ _⟩
  · have t0 : decide ((t.length : Int) < 1) = false := by simp; omega
    by_cases h1 : 128 < t.length
    · have eN : Hid (nameF t = 1) := by show _ = _; unfold nameF; rw [if_pos (.inr h1)]
      have t1 : decide ((128 : Int) < (t.length : Int)) = true := by simp; omega
      go_enter Try.func34, Try.ntmps34
      go_wp2
      go_ret
      exact ⟨by rw [eN.out]; rfl, Below.refl _ _⟩
    · have eN : Hid (nameF t = ff (labs t)) := by show _ = _; unfold nameF; rw [if_neg (by omega)]
      have t1 : decide ((128 : Int) < (t.length : Int)) = false := by simp; omega
      have LL := hide (fun w => l11Labels_any w t (by omega))
      have ln : (labs t).length ≤ 129 ∧ 0 < (labs t).length := by
        have := lst_len t
        unfold labs
        simp
        omega
      go_enter Try.func34, Try.ntmps34
      go_wp2_with fail
      refine (LL.out w).mono ?_
      rintro e W ⟨⟨v, rfl, R⟩, N⟩
      obtain ⟨g, cp, rfl, hg, hgl, hc, hf⟩ := R.cells ln.2
      clear LL R hf hgl hg
      have HN := hide N
      have HC := hide hc
      clear N hc
      generalize labs t = ls at *
      go_wp2
      go_loopw [4] (fun i wr => wr = W ∧ ∃ k : Nat, k ≤ ls.length ∧ i = .int .i64 k ∧ ff (ls.take k) = 0) (fun i _ => ls.length - (intOf i).toNat)
      case atStart => exact ⟨rfl, 0, by omega, rfl, rfl⟩
      case round =>
        obtain ⟨h1', k, hk, rfl, hff⟩ := hrel
        subst h1'
        by_cases hlt : k < ls.length
        · have t2 : (k : Int) < (ls.length : Int) := by omega
          have ck := HC.out k hlt
          obtain ⟨f1, f2⟩ := ff_take hlt hff
          generalize ls.getD k [] = l at *
          unfold tx at ck
          have lsz := tx_size l
          by_cases l0 : l.length = 0
          · have u0 : ((l.length : Int) == 0) = true := by simpa using l0
            have EQ : Hid (ff ls = 2) := by
              have e : lbF l = 2 := by unfold lbF; rw [if_pos l0]
              show _ = _
              rw [f2 (by rw [e]; decide), e]
            clear f1 f2 hff
            go_wp2
            go_ret
            exact ⟨by rw [eN.out, EQ.out]; rfl, HN.out⟩
          · have u0 : ((l.length : Int) == 0) = false := by simpa using l0
            by_cases l1 : 63 < l.length
            · have u1 : decide ((63 : Int) < (l.length : Int)) = true := by simp; omega
              have EQ : Hid (ff ls = 3) := by
                have e : lbF l = 3 := by unfold lbF; rw [if_neg l0, if_pos l1]
                show _ = _
                rw [f2 (by rw [e]; decide), e]
              clear f1 f2 hff
              go_wp2
              go_ret
              exact ⟨by rw [eN.out, EQ.out]; rfl, HN.out⟩
            · have u1 : decide ((63 : Int) < (l.length : Int)) = false := by simp; omega
              have F1 := hide f1
              have F2 := hide f2
              clear f1 f2 hff
              go_wp2
              go_loopw [6] (fun j w2 => w2 = wr ∧ ∃ m : Nat, m ≤ l.length ∧ j = .int .i64 m ∧ bad (l.take m) = false) (fun j _ => l.length - (intOf j).toNat)
              case atStart => exact ⟨rfl, 0, by omega, rfl, rfl⟩
              case round =>
                obtain ⟨h2', m, hm, rfl, hb⟩ := hrel
                subst h2'
                by_cases hml : m < l.length
                · have v1 : (m : Int) < (l.length : Int) := by omega
                  have ix := fun w => run_tx (P := Try.prog) w 9 l m Try.underlying9 hml
                  have BT := hide (bad_take hml)
                  have BO := hide (bad_of (m := m) hml)
                  have HB := hide (show okB (l.getD m 0) = ((decide (97 ≤ ((l.getD m 0).toNat : Int)) && decide (((l.getD m 0).toNat : Int) ≤ 122)) || (decide (48 ≤ ((l.getD m 0).toNat : Int)) && decide (((l.getD m 0).toNat : Int) ≤ 57)) || decide (((l.getD m 0).toNat : Int) = 45)) from rfl)
                  have hbH := hide hb
                  clear hb
                  generalize l.getD m 0 = c at *
                  generalize (c.toNat : Int) = x at *
                  by_cases hok : okB c = true
                  · have RL := hide (show bad (l.take (m + 1)) = false by rw [BT.out, hbH.out, hok]; rfl)
                    rw [hok] at HB
                    clear BT BO hbH hok
                    have hx : ((97 ≤ x ∧ x ≤ 122) ∨ (48 ≤ x ∧ x ≤ 57)) ∨ x = 45 := by
                      have h := HB.out
                      simpa using h.symm
                    clear HB
                    rcases hx with (⟨a1, a2⟩ | ⟨a1, a2⟩) | rfl
                    · skip
                      go_wp2
                      go_roundw
                      case rel => exact ⟨trivial, m + 1, by omega, by go_num, RL.out⟩
                      case measure => simp [intOf]; omega
                    · have a3 : decide (97 ≤ x) = false := by simp; omega
                      go_wp2
                      go_roundw
                      case rel => exact ⟨trivial, m + 1, by omega, by go_num, RL.out⟩
                      case measure => simp [intOf]; omega
                    · skip
                      go_wp2
                      go_roundw
                      case rel => exact ⟨trivial, m + 1, by omega, by go_num, RL.out⟩
                      case measure => simp [intOf]; omega
                  · have hok' : okB c = false := by simpa using hok
                    have EQ : Hid (ff ls = 4) := by
                      have e : lbF l = 4 := by unfold lbF; rw [if_neg l0, if_neg l1, if_pos (BO.out hok')]
                      show _ = _
                      rw [F2.out (by rw [e]; decide), e]
                    rw [hok'] at HB
                    clear BT BO hbH hok hok' F1 F2
                    have hx : ¬ (((97 ≤ x ∧ x ≤ 122) ∨ (48 ≤ x ∧ x ≤ 57)) ∨ x = 45) := by
                      have h := HB.out
                      intro k
                      have : (decide (97 ≤ x) && decide (x ≤ 122) || decide (48 ≤ x) && decide (x ≤ 57) || decide (x = 45)) = true := by simpa using k
                      rw [this] at h
                      cases h
                    clear HB
                    have b5 : (x == 45) = false := by
                      have : ¬ x = 45 := fun h => hx (.inr h)
                      simpa using this
                    by_cases a1 : 97 ≤ x
                    · have a2 : decide (x ≤ 122) = false := by simp; omega
                      have a4 : decide (x ≤ 57) = false := by simp; omega
                      have a3 : (48 : Int) ≤ x := by omega
                      clear hx
                      go_wp2
                      go_ret
                      exact ⟨by rw [eN.out, EQ.out]; rfl, HN.out⟩
                    · have a0 : decide (97 ≤ x) = false := by simp; omega
                      by_cases a3 : 48 ≤ x
                      · have a4 : decide (x ≤ 57) = false := by simp; omega
                        clear hx
                        go_wp2
                        go_ret
                        exact ⟨by rw [eN.out, EQ.out]; rfl, HN.out⟩
                      · have a4 : decide (48 ≤ x) = false := by simp; omega
                        clear hx
                        go_wp2
                        go_ret
                        exact ⟨by rw [eN.out, EQ.out]; rfl, HN.out⟩
                · obtain rfl : m = l.length := by omega
                  rw [List.take_length] at hb
                  have ix0 : ∀ w, (Instr.index 9 (.string ⟨⟨l⟩⟩) (.int .i64 0)).run Try.prog w = .ok (.int .u8 ((l.getD 0 0).toNat : Int)) w := fun w => run_tx (P := Try.prog) w 9 l 0 Try.underlying9 (by omega)
                  have ix1 := fun w => run_tx (P := Try.prog) w 9 l (l.length - 1) Try.underlying9 (by omega)
                  have e1 : ((l.length - 1 : Nat) : Int) = (l.length : Int) - 1 := by omega
                  rw [e1] at ix1
                  have e5 : lbF l = if ((l.getD 0 0).toNat : Int) = 45 ∨ ((l.getD (l.length - 1) 0).toNat : Int) = 45 then 5 else 0 := by
                    unfold lbF
                    rw [if_neg l0, if_neg l1, if_neg (by rw [hb]; decide)]
                  have E5 := hide e5
                  clear e5 hb e1
                  generalize ((l.getD 0 0).toNat : Int) = x at *
                  generalize ((l.getD (l.length - 1) 0).toNat : Int) = y at *
                  by_cases h3 : x = 45
                  · subst h3
                    have EQ : Hid (ff ls = 5) := by
                      have e : lbF l = 5 := by rw [E5.out, if_pos (.inl rfl)]
                      show _ = _
                      rw [F2.out (by rw [e]; decide), e]
                    clear F1 F2 E5
                    go_wp2
                    go_ret
                    exact ⟨by rw [eN.out, EQ.out]; rfl, HN.out⟩
                  · have b1 : (x == 45) = false := by simpa using h3
                    by_cases h4 : y = 45
                    · subst h4
                      have EQ : Hid (ff ls = 5) := by
                        have e : lbF l = 5 := by rw [E5.out, if_pos (.inr rfl)]
                        show _ = _
                        rw [F2.out (by rw [e]; decide), e]
                      clear F1 F2 E5
                      go_wp2
                      go_ret
                      exact ⟨by rw [eN.out, EQ.out]; rfl, HN.out⟩
                    · have b2 : (y == 45) = false := by simpa using h4
                      have RL := hide (show ff (ls.take (k + 1)) = 0 by rw [F1.out, E5.out, if_neg (by rintro (h | h) <;> contradiction)])
                      clear F1 F2 E5
                      go_wp2
                      go_roundw
                      case rel => exact ⟨trivial, k + 1, by omega, by go_num, RL.out⟩
                      case measure => simp [intOf]; omega
        · obtain rfl : k = ls.length := by omega
          rw [List.take_length] at hff
          have HF := hide hff
          clear hff
          go_wp2
          go_ret
          exact ⟨by rw [eN.out, HF.out]; rfl, HN.out⟩
end Go.Proofs.Ytcljoaknaegpmaa

/-
  Blocks of just these cells; a struct copied field by field. No program in sight.
-/
namespace Go.Proofs.Ytcljoaknaegpmaa
open Go Go.RowKit

/-- A block of just these cells. -/
def RwC (w : World) (q : Nat) (cs : List Value) (t : TypeId) : Prop := w.heap[q]? = some (.cells cs.toArray t (0, 0))
theorem RwC.new (w : World) (cs : List Value) (t : TypeId) : RwC (w.alloc (.cells cs.toArray t)) w.heap.size cs t := heap_alloc_new w _
theorem RwC.lt {w : World} {q : Nat} {cs : List Value} {t : TypeId} (h : RwC w q cs t) : q < w.heap.size := (Array.getElem?_eq_some_iff.1 h).1
theorem RwC.up {w w' : World} {q : Nat} {cs : List Value} {t : TypeId} (h : RwC w q cs t) (n : Below w.heap.size w w') : RwC w' q cs t := (n.block q h.lt).trans h
theorem RwC.cell {w : World} {q : Nat} {cs : List Value} {t : TypeId} (h : RwC w q cs t) (i : Nat) : w.cell? ⟨q, i, none⟩ = cs[i]? := by
  rw [cell_of_row w q i _ _ (0, 0) h]
  simp
theorem RwC.free {w : World} {q : Nat} {cs : List Value} {t : TypeId} (h : RwC w q cs t) (i : Nat) : w.frozen? ⟨q, i, none⟩ = false := frozen_of_row w q i _ t h
theorem RwC.set {w : World} {q : Nat} {cs : List Value} {t : TypeId} (h : RwC w q cs t) (i : Nat) (v : Value) : RwC (w.setCell ⟨q, i, none⟩ v) q (cs.set i v) t := by
  show (w.heap.modify q _)[q]? = _
  rw [Array.getElem?_modify, if_pos rfl, show w.heap[q]? = _ from h]
  simp
theorem RwC.push {w : World} {q : Nat} {cs : List Value} {t : TypeId} (h : RwC w q cs t) (o : Obj) : RwC (w.alloc o) q cs t := h.up ((Below.refl _ _).alloc (Nat.le_refl _) o)
theorem RwC.drew1 {w : World} {q : Nat} {cs : List Value} {t : TypeId} (h : RwC w q cs t) : RwC w.drew q cs t := h
theorem RwC.drews {w : World} {q : Nat} {cs : List Value} {t : TypeId} (h : RwC w q cs t) (n : Nat) : RwC (w.drewN n) q cs t := h
/-- Where a copy of a struct stands: its source, the place of its answer, and the copy so far. -/
structure TMs (w W : World) (tL tM : TypeId) (src zer cs : List Value) : Prop where
  S : RwC W w.heap.size src tL
  U : RwC W (w.heap.size + 1) zer tM
  T : RwC W (w.heap.size + 1 + 1) cs tM
  N : Below w.heap.size w W
theorem TMs.new (w : World) (tL tM : TypeId) (src zer : List Value) : TMs w (((w.alloc (.cells src.toArray tL)).alloc (.cells zer.toArray tM)).alloc (.cells zer.toArray tM)) tL tM src zer zer := by
  have z1 : (w.alloc (.cells src.toArray tL)).heap.size = w.heap.size + 1 := by simp
  have n1 : Below w.heap.size w (w.alloc (.cells src.toArray tL)) := (Below.refl _ _).alloc (Nat.le_refl _) _
  have s1 := RwC.new w src tL
  generalize w.alloc (.cells src.toArray tL) = a at *
  have z2 : (a.alloc (.cells zer.toArray tM)).heap.size = a.heap.size + 1 := by simp
  have n2 : Below a.heap.size a (a.alloc (.cells zer.toArray tM)) := (Below.refl _ _).alloc (Nat.le_refl _) _
  have s2 := RwC.new a zer tM
  generalize a.alloc (.cells zer.toArray tM) = b at *
  have n3 : Below b.heap.size b (b.alloc (.cells zer.toArray tM)) := (Below.refl _ _).alloc (Nat.le_refl _) _
  have s3 := RwC.new b zer tM
  rw [z2, z1] at s3
  rw [z1] at s2
  exact ⟨(s1.up n2).up n3, s2.up n3, s3, nxt (nxt n1 n2) n3⟩
theorem TMs.up {w W W' : World} {tL tM : TypeId} {src zer cs : List Value} (h : TMs w W tL tM src zer cs) (m : Below W.heap.size W W') : TMs w W' tL tM src zer cs := ⟨h.S.up m, h.U.up m, h.T.up m, nxt h.N m⟩
theorem RwC.onl {w w' : World} {q r : Nat} {cs : List Value} {t : TypeId} (h : RwC w q cs t) (O : Only r w w') (hne : q ≠ r) : RwC w' q cs t := (O.block q hne).trans h
theorem TMs.set {w W : World} {tL tM : TypeId} {src zer cs : List Value} (h : TMs w W tL tM src zer cs) (i : Nat) (v : Value) : TMs w (W.setCell ⟨w.heap.size + 1 + 1, i, none⟩ v) tL tM src zer (cs.set i v) := by
  have O := Only.setCell W (w.heap.size + 1 + 1) i v
  exact ⟨h.S.onl O (by omega), h.U.onl O (by omega), h.T.set i v, h.N.trans (O.below (by omega))⟩
theorem only_setG (w : World) (q : Nat) : ∀ (vs : List Value) (o : Nat), Only q w (w.setCells q o vs)
  | [], _ => Only.refl _ _
  | v :: vs, o => (Only.setCell w q o v).trans (only_setG _ q vs (o + 1))
theorem RwC.thereG {w : World} {q : Nat} {cs : List Value} {t : TypeId} (h : RwC w q cs t) : w.there q 0 cs.length := fun j hj => by
  rw [Nat.zero_add, h.cell j, h.free j]
  exact ⟨by simp [hj], rfl⟩
theorem results_cellG {P : Program} {fn : Func} {p : Tmp} {ty : TypeId} (h : fn.results = #[.cell p ty]) (tmps : Array Value) (w : World) (g : Nat) (cs : List Value) (d : TypeDesc)
    (hp : tmps.getD p undef = .pointer (some ⟨g, 0, none⟩)) (hc : w.rangeAt g 0 cs) (hu : P.underlying ty = some d) (hd : d.isRow = true) (hi : (P.info? ty).map (·.size) = some cs.length) :
    (results fn tmps).run P w = .ok (.agg cs.toArray) w := by
  have hp' : tmps[p]?.getD undef = .pointer (some ⟨g, 0, none⟩) := by simpa using hp
  simp [results, h, hp', asAddr, run_loadVar_mid w g 0 ty cs d hc hu hd hi]
theorem RwC.rangeG {w : World} {q : Nat} {cs : List Value} {t : TypeId} (h : RwC w q cs t) : w.rangeAt q 0 cs := fun j v hj => by
  rw [Nat.zero_add]
  exact (h.cell j).trans hj
end Go.Proofs.Ytcljoaknaegpmaa

/-
  Worlds that differ in what was made and in some blocks; cells of a struct's block. No program in sight.
-/
namespace Go.Proofs.Ytcljoaknaegpmaa
open Go Go.RowKit

/-- Of what was there the blocks S alone have changed. -/
structure Tch (S : List Nat) (w w' : World) : Prop where
  os : w'.os = w.os
  tape : w'.tape = w.tape
  output : w'.output = w.output
  size : w.heap.size ≤ w'.heap.size
  block : ∀ b, b < w.heap.size → b ∉ S → w'.heap[b]? = w.heap[b]?
theorem Tch.of_below {w w' : World} {S : List Nat} (h : Below w.heap.size w w') : Tch S w w' := ⟨h.os, h.tape, h.output, h.size, fun b hb _ => h.block b hb⟩
theorem Tch.of_only {w w' : World} {g : Nat} (h : Only g w w') : Tch [g] w w' := ⟨h.os, h.tape, h.output, Nat.le_of_eq h.size.symm, fun b _ hn => h.block b (by simpa using hn)⟩
theorem Tch.trans {a b c : World} {S T : List Nat} (h : Tch S a b) (k : Tch T b c) : Tch (S ++ T) a c :=
  ⟨k.os.trans h.os, k.tape.trans h.tape, k.output.trans h.output, Nat.le_trans h.size k.size, fun x hx hn => (k.block x (Nat.lt_of_lt_of_le hx h.size) (fun m => hn (List.mem_append_right _ m))).trans (h.block x hx (fun m => hn (List.mem_append_left _ m)))⟩
theorem Tch.below {w w' : World} {S : List Nat} {B : Nat} (h : Tch S w w') (hB : B ≤ w.heap.size) (hS : ∀ s ∈ S, B ≤ s) : Below B w w' := ⟨h.os, h.tape, h.output, h.size, fun k hk => h.block k (by omega) (fun m => by have := hS k m; omega)⟩
theorem Tch.mono {w w' : World} {S T : List Nat} (h : Tch S w w') (hs : ∀ s ∈ S, s ∈ T) : Tch T w w' := ⟨h.os, h.tape, h.output, h.size, fun b hb hn => h.block b hb (fun m => hn (hs b m))⟩
theorem Own.tch {w w' : World} {S : List Nat} {g : Nat} {a : Option Addr} {k : IntKind} {xs : List Int} (h : Own w g a k xs) (t : Tch S w w') (hne : 0 < xs.length → g ∉ S) : Own w' g a k xs := by
  by_cases h0 : 0 < xs.length
  · exact h.of_block (t.block g (h.rd.lt h0) (hne h0))
  · exact fun q => absurd q h0
theorem Blk.tch {w w' : World} {S : List Nat} {g : Nat} {k : IntKind} {ys : List Int} (h : Blk w g k ys) (t : Tch S w w') (hne : g ∉ S) : Blk w' g k ys := h.of_block (t.block g h.lt hne)
theorem RwC.tch {w w' : World} {S : List Nat} {q : Nat} {cs : List Value} {t : TypeId} (h : RwC w q cs t) (m : Tch S w w') (hne : q ∉ S) : RwC w' q cs t := (m.block q h.lt hne).trans h
theorem RwC.c0 {w : World} {q : Nat} {x : Value} {cs : List Value} {t : TypeId} (h : RwC w q (x :: cs) t) : w.cell? ⟨q, 0, none⟩ = some x := h.cell 0
theorem RwC.c1 {w : World} {q : Nat} {x y : Value} {cs : List Value} {t : TypeId} (h : RwC w q (x :: y :: cs) t) : w.cell? ⟨q, 1, none⟩ = some y := h.cell 1
theorem RwC.c2 {w : World} {q : Nat} {x y z : Value} {cs : List Value} {t : TypeId} (h : RwC w q (x :: y :: z :: cs) t) : w.cell? ⟨q, 2, none⟩ = some z := h.cell 2
end Go.Proofs.Ytcljoaknaegpmaa

/-
  A ticket's state: its fault; the program's and the model's (written by gens/stf.py).
-/
namespace Go.Proofs.Ytcljoaknaegpmaa
open Go Go.RowKit

def isTm (n : Int) : Bool := decide (0 ≤ n) && decide (n ≤ 253402300799)
def isLi (n : Int) : Bool := decide (1 ≤ n) && decide (n ≤ 604800)
theorem isTm_iff (n : Int) : isTm n = true ↔ 0 ≤ n ∧ n ≤ 253402300799 := by simp [isTm]
theorem isLi_iff (n : Int) : isLi n = true ↔ 1 ≤ n ∧ n ≤ 604800 := by simp [isLi]
set_option maxRecDepth 100000 in
theorem isTime_any (w : World) (n : Int) : Calls Try.prog 58 #[.int .i64 n] w fun e w' => e = .returned (.bool (isTm n)) ∧ w' = w := by
  by_cases h : 0 ≤ n
  · have u : decide (0 ≤ n) = true := decide_eq_true h
    unfold isTm
    rw [u]
    go_enter Try.func58, Try.ntmps58
    go_wp2
    go_ret
    exact ⟨by simp, rfl⟩
  · have u : decide (0 ≤ n) = false := decide_eq_false h
    unfold isTm
    rw [u]
    go_enter Try.func58, Try.ntmps58
    go_wp2
    go_ret
    exact ⟨by simp, rfl⟩
set_option maxRecDepth 100000 in
theorem isLife_any (w : World) (n : Int) : Calls Try.prog 59 #[.int .i64 n] w fun e w' => e = .returned (.bool (isLi n)) ∧ w' = w := by
  by_cases h : 1 ≤ n
  · have u : decide (1 ≤ n) = true := decide_eq_true h
    unfold isLi
    rw [u]
    go_enter Try.func59, Try.ntmps59
    go_wp2
    go_ret
    exact ⟨by simp, rfl⟩
  · have u : decide (1 ≤ n) = false := decide_eq_false h
    unfold isLi
    rw [u]
    go_enter Try.func59, Try.ntmps59
    go_wp2
    go_ret
    exact ⟨by simp, rfl⟩
/-- A state's fault. -/
def sfV (n n' : Nat) (md li : Int) (ho : List UInt8) (p : Nat) (ea : Int) : Int :=
  if n ≠ 32 ∨ n' ≠ 32 then 1 else if isTm md = false then 2 else if isLi li = false then 3 else if nameF ho ≠ 0 then 4 else if 32 < p then 5 else if isAg ea = false then 6 else 0
set_option maxRecDepth 100000 in
set_option maxHeartbeats 2000000 in
theorem implState_any (w : World) (md li : Int) (ho pr : List UInt8) (ea : Int) (a : Option Addr) (n c : Nat) (a' : Option Addr) (n' c' : Nat) (hh : ho.length ≤ 1048576) (hp : pr.length ≤ 1048576) :
    Calls Try.prog 40 #[.agg #[.slice a n c, .slice a' n' c', .int .i64 md, .int .i64 li, .string ⟨⟨ho⟩⟩, .string ⟨⟨pr⟩⟩, .int .i64 ea]] w fun e w' => e = .returned (.int .i64 (sfV n n' md li ho pr.length ea)) ∧ Below w.heap.size w w' := by
  have n1 : Below w.heap.size w (w.alloc (.cells #[.slice a n c, .slice a' n' c', .int .i64 md, .int .i64 li, .string ⟨⟨ho⟩⟩, .string ⟨⟨pr⟩⟩, .int .i64 ea] 28)) := (Below.refl _ _).alloc (Nat.le_refl _) _
  have P0 : RwC (w.alloc (.cells #[.slice a n c, .slice a' n' c', .int .i64 md, .int .i64 li, .string ⟨⟨ho⟩⟩, .string ⟨⟨pr⟩⟩, .int .i64 ea] 28)) w.heap.size [.slice a n c, .slice a' n' c', .int .i64 md, .int .i64 li, .string ⟨⟨ho⟩⟩, .string ⟨⟨pr⟩⟩, .int .i64 ea] 28 := RwC.new w _ _
  have e : Hid (sfV n n' md li ho pr.length ea = if n ≠ 32 ∨ n' ≠ 32 then 1 else if isTm md = false then 2 else if isLi li = false then 3 else if nameF ho ≠ 0 then 4 else if 32 < pr.length then 5 else if isAg ea = false then 6 else 0) := rfl
  generalize sfV n n' md li ho pr.length ea = R at *
  have hs := tx_size ho
  have hs' := tx_size pr
  have TI := fun W => isTime_any W md
  have LI := fun W => isLife_any W li
  have NM := fun W => implNameFault_any W ho (by omega)
  have AG := fun W => isAge_any W ea
  generalize nameF ho = nf at *
  by_cases h0 : n ≠ 32
  · skip
    have hi0 : ¬ (n : Int) = 32 := by omega
    have e' : Hid (R = 1) := by show _ = _; rw [e.out, if_pos (show n ≠ 32 ∨ n' ≠ 32 by omega)]
    clear e
    go_enter Try.func40, Try.ntmps40
    go_wp2
    go_ret
    exact ⟨by rw [e'.out]; rfl, n1⟩
  · skip
    obtain rfl : n = 32 := by omega
    by_cases h1 : n' ≠ 32
    · skip
      have hi1 : ¬ (n' : Int) = 32 := by omega
      have e' : Hid (R = 1) := by show _ = _; rw [e.out, if_pos (show (32 : Nat) ≠ 32 ∨ n' ≠ 32 by omega)]
      clear e
      go_enter Try.func40, Try.ntmps40
      go_wp2
      go_ret
      exact ⟨by rw [e'.out]; rfl, n1⟩
    · skip
      obtain rfl : n' = 32 := by omega
      by_cases h2 : isTm md = false
      · skip
        simp only [h2] at TI
        have e' : Hid (R = 2) := by show _ = _; rw [e.out, if_neg (show ¬ ((32 : Nat) ≠ 32 ∨ (32 : Nat) ≠ 32) by omega), if_pos h2]
        clear e
        go_enter Try.func40, Try.ntmps40
        go_wp2_with fail
        refine (TI _).mono ?_
        rintro e1 w1 ⟨rfl, rfl⟩
        go_wp2
        go_ret
        exact ⟨by rw [e'.out]; rfl, n1⟩
      · skip
        simp only [show isTm md = true by simpa using h2] at TI
        by_cases h3 : isLi li = false
        · skip
          simp only [h3] at LI
          have e' : Hid (R = 3) := by show _ = _; rw [e.out, if_neg (show ¬ ((32 : Nat) ≠ 32 ∨ (32 : Nat) ≠ 32) by omega), if_neg h2, if_pos h3]
          clear e
          go_enter Try.func40, Try.ntmps40
          go_wp2_with fail
          refine (TI _).mono ?_
          rintro e1 w1 ⟨rfl, rfl⟩
          go_wp2_with fail
          refine (LI _).mono ?_
          rintro e1 w1 ⟨rfl, rfl⟩
          go_wp2
          go_ret
          exact ⟨by rw [e'.out]; rfl, n1⟩
        · skip
          simp only [show isLi li = true by simpa using h3] at LI
          by_cases h4 : nf ≠ 0
          · skip
            have hz : ¬ nf = 0 := h4
            have e' : Hid (R = 4) := by show _ = _; rw [e.out, if_neg (show ¬ ((32 : Nat) ≠ 32 ∨ (32 : Nat) ≠ 32) by omega), if_neg h2, if_neg h3, if_pos h4]
            clear e
            go_enter Try.func40, Try.ntmps40
            go_wp2_with fail
            refine (TI _).mono ?_
            rintro e1 w1 ⟨rfl, rfl⟩
            go_wp2_with fail
            refine (LI _).mono ?_
            rintro e1 w1 ⟨rfl, rfl⟩
            go_wp2_with fail
            refine (NM _).mono ?_
            rintro e1 w1 ⟨rfl, rfl⟩
            go_wp2
            go_ret
            exact ⟨by rw [e'.out]; rfl, n1⟩
          · skip
            obtain rfl : nf = 0 := by simpa using h4
            by_cases h5 : 32 < pr.length
            · skip
              have hl5 : decide ((32 : Int) < (pr.length : Int)) = true := by simp; omega
              have e' : Hid (R = 5) := by show _ = _; rw [e.out, if_neg (show ¬ ((32 : Nat) ≠ 32 ∨ (32 : Nat) ≠ 32) by omega), if_neg h2, if_neg h3, if_neg h4, if_pos h5]
              clear e
              go_enter Try.func40, Try.ntmps40
              go_wp2_with fail
              refine (TI _).mono ?_
              rintro e1 w1 ⟨rfl, rfl⟩
              go_wp2_with fail
              refine (LI _).mono ?_
              rintro e1 w1 ⟨rfl, rfl⟩
              go_wp2_with fail
              refine (NM _).mono ?_
              rintro e1 w1 ⟨rfl, rfl⟩
              go_wp2
              go_ret
              exact ⟨by rw [e'.out]; rfl, n1⟩
            · skip
              have hl5 : decide ((32 : Int) < (pr.length : Int)) = false := by simp; omega
              by_cases h6 : isAg ea = false
              · skip
                simp only [h6] at AG
                have e' : Hid (R = 6) := by show _ = _; rw [e.out, if_neg (show ¬ ((32 : Nat) ≠ 32 ∨ (32 : Nat) ≠ 32) by omega), if_neg h2, if_neg h3, if_neg h4, if_neg h5, if_pos h6]
                clear e
                go_enter Try.func40, Try.ntmps40
                go_wp2_with fail
                refine (TI _).mono ?_
                rintro e1 w1 ⟨rfl, rfl⟩
                go_wp2_with fail
                refine (LI _).mono ?_
                rintro e1 w1 ⟨rfl, rfl⟩
                go_wp2_with fail
                refine (NM _).mono ?_
                rintro e1 w1 ⟨rfl, rfl⟩
                go_wp2_with fail
                refine (AG _).mono ?_
                rintro e1 w1 ⟨rfl, rfl⟩
                go_wp2
                go_ret
                exact ⟨by rw [e'.out]; rfl, n1⟩
              · skip
                simp only [show isAg ea = true by simpa using h6] at AG
                have e' : Hid (R = 0) := by show _ = _; rw [e.out, if_neg (show ¬ ((32 : Nat) ≠ 32 ∨ (32 : Nat) ≠ 32) by omega), if_neg h2, if_neg h3, if_neg h4, if_neg h5, if_neg h6]
                clear e
                go_enter Try.func40, Try.ntmps40
                go_wp2_with fail
                refine (TI _).mono ?_
                rintro e1 w1 ⟨rfl, rfl⟩
                go_wp2_with fail
                refine (LI _).mono ?_
                rintro e1 w1 ⟨rfl, rfl⟩
                go_wp2_with fail
                refine (NM _).mono ?_
                rintro e1 w1 ⟨rfl, rfl⟩
                go_wp2_with fail
                refine (AG _).mono ?_
                rintro e1 w1 ⟨rfl, rfl⟩
                go_wp2
                go_ret
                exact ⟨by rw [e'.out]; rfl, n1⟩
set_option maxRecDepth 100000 in
set_option maxHeartbeats 2000000 in
theorem specState_any (w : World) (md li : Int) (ho pr : List UInt8) (ea : Int) (a : Option Addr) (n c : Nat) (a' : Option Addr) (n' c' : Nat) (hh : ho.length ≤ 1048576) (hp : pr.length ≤ 1048576) :
    Calls Try.prog 21 #[.agg #[.slice a n c, .slice a' n' c', .int .i64 md, .int .i64 li, .string ⟨⟨ho⟩⟩, .string ⟨⟨pr⟩⟩, .int .i64 ea]] w fun e w' => e = .returned (.int .i64 (sfV n n' md li ho pr.length ea)) ∧ Below w.heap.size w w' := by
  have n1 : Below w.heap.size w (w.alloc (.cells #[.slice a n c, .slice a' n' c', .int .i64 md, .int .i64 li, .string ⟨⟨ho⟩⟩, .string ⟨⟨pr⟩⟩, .int .i64 ea] 28)) := (Below.refl _ _).alloc (Nat.le_refl _) _
  have P0 : RwC (w.alloc (.cells #[.slice a n c, .slice a' n' c', .int .i64 md, .int .i64 li, .string ⟨⟨ho⟩⟩, .string ⟨⟨pr⟩⟩, .int .i64 ea] 28)) w.heap.size [.slice a n c, .slice a' n' c', .int .i64 md, .int .i64 li, .string ⟨⟨ho⟩⟩, .string ⟨⟨pr⟩⟩, .int .i64 ea] 28 := RwC.new w _ _
  have e : Hid (sfV n n' md li ho pr.length ea = if n ≠ 32 ∨ n' ≠ 32 then 1 else if isTm md = false then 2 else if isLi li = false then 3 else if nameF ho ≠ 0 then 4 else if 32 < pr.length then 5 else if isAg ea = false then 6 else 0) := rfl
  generalize sfV n n' md li ho pr.length ea = R at *
  have hs := tx_size ho
  have hs' := tx_size pr
  have NM := fun W => specNameFault_any W ho (by omega)
  have itm := isTm_iff md
  have ili := isLi_iff li
  have iag := isAg_iff ea
  generalize nameF ho = nf at *
  by_cases h0 : n ≠ 32
  · skip
    have hi0 : ¬ (n : Int) = 32 := by omega
    have e' : Hid (R = 1) := by show _ = _; rw [e.out, if_pos (show n ≠ 32 ∨ n' ≠ 32 by omega)]
    clear e
    go_enter Try.func21, Try.ntmps21
    go_wp2
    go_ret
    exact ⟨by rw [e'.out]; rfl, n1⟩
  · skip
    obtain rfl : n = 32 := by omega
    by_cases h1 : n' ≠ 32
    · skip
      have hi1 : ¬ (n' : Int) = 32 := by omega
      have e' : Hid (R = 1) := by show _ = _; rw [e.out, if_pos (show (32 : Nat) ≠ 32 ∨ n' ≠ 32 by omega)]
      clear e
      go_enter Try.func21, Try.ntmps21
      go_wp2
      go_ret
      exact ⟨by rw [e'.out]; rfl, n1⟩
    · skip
      obtain rfl : n' = 32 := by omega
      by_cases h2 : isTm md = false
      · skip
        by_cases hl : md < 0
        · skip
          have e' : Hid (R = 2) := by show _ = _; rw [e.out, if_neg (show ¬ ((32 : Nat) ≠ 32 ∨ (32 : Nat) ≠ 32) by omega), if_pos h2]
          clear e
          go_enter Try.func21, Try.ntmps21
          go_wp2
          go_ret
          exact ⟨by rw [e'.out]; rfl, n1⟩
        · have hg : 253402300799 < md := by
            have : ¬ (0 ≤ md ∧ md ≤ 253402300799) := fun q => by rw [itm.2 q] at h2; cases h2
            omega
          have e' : Hid (R = 2) := by show _ = _; rw [e.out, if_neg (show ¬ ((32 : Nat) ≠ 32 ∨ (32 : Nat) ≠ 32) by omega), if_pos h2]
          clear e
          go_enter Try.func21, Try.ntmps21
          go_wp2
          go_ret
          exact ⟨by rw [e'.out]; rfl, n1⟩
      · skip
        have b2 := itm.1 (show isTm md = true by simpa using h2)
        have c2 := b2.1
        have d2 := b2.2
        by_cases h3 : isLi li = false
        · skip
          by_cases hl : li < 1
          · skip
            have e' : Hid (R = 3) := by show _ = _; rw [e.out, if_neg (show ¬ ((32 : Nat) ≠ 32 ∨ (32 : Nat) ≠ 32) by omega), if_neg h2, if_pos h3]
            clear e
            go_enter Try.func21, Try.ntmps21
            go_wp2
            go_ret
            exact ⟨by rw [e'.out]; rfl, n1⟩
          · have hg : 604800 < li := by
              have : ¬ (1 ≤ li ∧ li ≤ 604800) := fun q => by rw [ili.2 q] at h3; cases h3
              omega
            have e' : Hid (R = 3) := by show _ = _; rw [e.out, if_neg (show ¬ ((32 : Nat) ≠ 32 ∨ (32 : Nat) ≠ 32) by omega), if_neg h2, if_pos h3]
            clear e
            go_enter Try.func21, Try.ntmps21
            go_wp2
            go_ret
            exact ⟨by rw [e'.out]; rfl, n1⟩
        · skip
          have b3 := ili.1 (show isLi li = true by simpa using h3)
          have c3 := b3.1
          have d3 := b3.2
          by_cases h4 : nf ≠ 0
          · skip
            have hz : ¬ nf = 0 := h4
            have e' : Hid (R = 4) := by show _ = _; rw [e.out, if_neg (show ¬ ((32 : Nat) ≠ 32 ∨ (32 : Nat) ≠ 32) by omega), if_neg h2, if_neg h3, if_pos h4]
            clear e
            go_enter Try.func21, Try.ntmps21
            go_wp2_with fail
            generalize w.alloc (.cells #[.slice a 32 c, .slice a' 32 c', .int .i64 md, .int .i64 li, .string ⟨⟨ho⟩⟩, .string ⟨⟨pr⟩⟩, .int .i64 ea] 28) = wa at *
            refine (NM _).mono ?_
            rintro e1 w1 ⟨rfl, m1⟩
            replace n1 := nxt n1 m1
            replace P0 := P0.up m1
            have p5 : w1.cell? ⟨w.heap.size, 5, none⟩ = some (.string ⟨⟨pr⟩⟩) := P0.cell 5
            have p6 : w1.cell? ⟨w.heap.size, 6, none⟩ = some (.int .i64 ea) := P0.cell 6
            go_wp2
            go_ret
            exact ⟨by rw [e'.out]; rfl, n1⟩
          · skip
            obtain rfl : nf = 0 := by simpa using h4
            by_cases h5 : 32 < pr.length
            · skip
              have hl5 : decide ((32 : Int) < (pr.length : Int)) = true := by simp; omega
              have e' : Hid (R = 5) := by show _ = _; rw [e.out, if_neg (show ¬ ((32 : Nat) ≠ 32 ∨ (32 : Nat) ≠ 32) by omega), if_neg h2, if_neg h3, if_neg h4, if_pos h5]
              clear e
              go_enter Try.func21, Try.ntmps21
              go_wp2_with fail
              generalize w.alloc (.cells #[.slice a 32 c, .slice a' 32 c', .int .i64 md, .int .i64 li, .string ⟨⟨ho⟩⟩, .string ⟨⟨pr⟩⟩, .int .i64 ea] 28) = wa at *
              refine (NM _).mono ?_
              rintro e1 w1 ⟨rfl, m1⟩
              replace n1 := nxt n1 m1
              replace P0 := P0.up m1
              have p5 : w1.cell? ⟨w.heap.size, 5, none⟩ = some (.string ⟨⟨pr⟩⟩) := P0.cell 5
              have p6 : w1.cell? ⟨w.heap.size, 6, none⟩ = some (.int .i64 ea) := P0.cell 6
              go_wp2
              go_ret
              exact ⟨by rw [e'.out]; rfl, n1⟩
            · skip
              have hl5 : decide ((32 : Int) < (pr.length : Int)) = false := by simp; omega
              by_cases h6 : isAg ea = false
              · skip
                by_cases hl : ea < 0
                · skip
                  have e' : Hid (R = 6) := by show _ = _; rw [e.out, if_neg (show ¬ ((32 : Nat) ≠ 32 ∨ (32 : Nat) ≠ 32) by omega), if_neg h2, if_neg h3, if_neg h4, if_neg h5, if_pos h6]
                  clear e
                  go_enter Try.func21, Try.ntmps21
                  go_wp2_with fail
                  generalize w.alloc (.cells #[.slice a 32 c, .slice a' 32 c', .int .i64 md, .int .i64 li, .string ⟨⟨ho⟩⟩, .string ⟨⟨pr⟩⟩, .int .i64 ea] 28) = wa at *
                  refine (NM _).mono ?_
                  rintro e1 w1 ⟨rfl, m1⟩
                  replace n1 := nxt n1 m1
                  replace P0 := P0.up m1
                  have p5 : w1.cell? ⟨w.heap.size, 5, none⟩ = some (.string ⟨⟨pr⟩⟩) := P0.cell 5
                  have p6 : w1.cell? ⟨w.heap.size, 6, none⟩ = some (.int .i64 ea) := P0.cell 6
                  go_wp2
                  go_ret
                  exact ⟨by rw [e'.out]; rfl, n1⟩
                · have hg : 4294967295 < ea := by
                    have : ¬ (0 ≤ ea ∧ ea ≤ 4294967295) := fun q => by rw [iag.2 q] at h6; cases h6
                    omega
                  have e' : Hid (R = 6) := by show _ = _; rw [e.out, if_neg (show ¬ ((32 : Nat) ≠ 32 ∨ (32 : Nat) ≠ 32) by omega), if_neg h2, if_neg h3, if_neg h4, if_neg h5, if_pos h6]
                  clear e
                  go_enter Try.func21, Try.ntmps21
                  go_wp2_with fail
                  generalize w.alloc (.cells #[.slice a 32 c, .slice a' 32 c', .int .i64 md, .int .i64 li, .string ⟨⟨ho⟩⟩, .string ⟨⟨pr⟩⟩, .int .i64 ea] 28) = wa at *
                  refine (NM _).mono ?_
                  rintro e1 w1 ⟨rfl, m1⟩
                  replace n1 := nxt n1 m1
                  replace P0 := P0.up m1
                  have p5 : w1.cell? ⟨w.heap.size, 5, none⟩ = some (.string ⟨⟨pr⟩⟩) := P0.cell 5
                  have p6 : w1.cell? ⟨w.heap.size, 6, none⟩ = some (.int .i64 ea) := P0.cell 6
                  go_wp2
                  go_ret
                  exact ⟨by rw [e'.out]; rfl, n1⟩
              · skip
                have b6 := iag.1 (show isAg ea = true by simpa using h6)
                have c6 := b6.1
                have d6 := b6.2
                have e' : Hid (R = 0) := by show _ = _; rw [e.out, if_neg (show ¬ ((32 : Nat) ≠ 32 ∨ (32 : Nat) ≠ 32) by omega), if_neg h2, if_neg h3, if_neg h4, if_neg h5, if_neg h6]
                clear e
                go_enter Try.func21, Try.ntmps21
                go_wp2_with fail
                generalize w.alloc (.cells #[.slice a 32 c, .slice a' 32 c', .int .i64 md, .int .i64 li, .string ⟨⟨ho⟩⟩, .string ⟨⟨pr⟩⟩, .int .i64 ea] 28) = wa at *
                refine (NM _).mono ?_
                rintro e1 w1 ⟨rfl, m1⟩
                replace n1 := nxt n1 m1
                replace P0 := P0.up m1
                have p5 : w1.cell? ⟨w.heap.size, 5, none⟩ = some (.string ⟨⟨pr⟩⟩) := P0.cell 5
                have p6 : w1.cell? ⟨w.heap.size, 6, none⟩ = some (.int .i64 ea) := P0.cell 6
                go_wp2
                go_ret
                exact ⟨by rw [e'.out]; rfl, n1⟩
end Go.Proofs.Ytcljoaknaegpmaa

/-
  Numbers as bytes, the highest first, and the padding of a hash. No program in sight.
-/
namespace Go.Proofs.Ytcljoaknaegpmaa
open Go.RowKit

/-- v in t bytes, the highest first. -/
def bigL (v : Int) (t : Nat) : List Int := (List.range t).map fun j => v / 256 ^ (t - 1 - j) % 256
theorem bigL_len (v : Int) (t : Nat) : (bigL v t).length = t := by simp [bigL]
theorem bigL_get (v : Int) (t j : Nat) (h : j < t) : (bigL v t).getD j 0 = v / 256 ^ (t - 1 - j) % 256 := by simp [bigL, h]
theorem bigL_byt (v : Int) (t : Nat) : Byt (bigL v t) := by
  intro j
  by_cases h : j < t
  · rw [bigL_get v t j h]
    omega
  · have : (bigL v t).getD j 0 = 0 := by
      rw [List.getD_eq_getElem?_getD, List.getElem?_eq_none (by rw [bigL_len]; omega)]
      rfl
    rw [this]
    omega

/-- The last k places of ys are those of v. -/
def BigTo (v : Int) (t : Nat) (ys : List Int) (k : Nat) : Prop := ys.length = t ∧ ∀ j, t - k ≤ j → j < t → ys.getD j 0 = v / 256 ^ (t - 1 - j) % 256
theorem BigTo.zero (v : Int) (t : Nat) : BigTo v t (List.replicate t 0) 0 := ⟨by simp, fun j h h' => absurd h (by omega)⟩
theorem BigTo.step {v : Int} {t : Nat} {ys : List Int} {k : Nat} (h : BigTo v t ys k) (hk : k < t) : BigTo v t (ys.set (t - 1 - k) (v / 256 ^ k % 256)) (k + 1) := by
  refine ⟨by simpa using h.1, fun j hj hj' => ?_⟩
  by_cases e : t - 1 - k = j
  · subst e
    rw [getD_set_self _ _ _ (by rw [h.1]; omega), show t - 1 - (t - 1 - k) = k by omega]
  · rw [getD_set_ne _ _ _ _ e]
    exact h.2 j (by omega) hj'
theorem BigTo.all {v : Int} {t : Nat} {ys : List Int} (h : BigTo v t ys t) : ys = bigL v t :=
  eq_of_getD (by rw [h.1, bigL_len]) (fun i hi => by rw [h.1] at hi; rw [h.2 i (by omega) hi, bigL_get v t i hi])
theorem div256 (v : Int) (k : Nat) : v / 256 ^ k / 256 = v / 256 ^ (k + 1) := by
  have h0 := p256_pos k
  rw [Int.ediv_ediv_of_nonneg (by omega), ← Int.pow_succ]

theorem getD_apd_right (xs ys : List Int) (i : Nat) (h : xs.length ≤ i) : (xs ++ ys).getD i 0 = ys.getD (i - xs.length) 0 := by
  rw [List.getD_eq_getElem?_getD, List.getElem?_append_right h, ← List.getD_eq_getElem?_getD]
theorem getD_apd_left (xs ys : List Int) (i : Nat) (h : i < xs.length) : (xs ++ ys).getD i 0 = xs.getD i 0 := by
  rw [List.getD_eq_getElem?_getD, List.getElem?_append_left h, ← List.getD_eq_getElem?_getD]

/-- How many zeros, and the whole padding. -/
def padZ (n : Int) (B t : Nat) : Nat := (((B : Int) - (n + 1 + (t : Int)) % (B : Int)) % (B : Int)).toNat
def padL (n : Int) (B t : Nat) : List Int := 128 :: (List.replicate (padZ n B t) 0 ++ bigL (8 * n) t)
theorem padL_len (n : Int) (B t : Nat) : (padL n B t).length = 1 + padZ n B t + t := by
  unfold padL
  simp [bigL_len]
  omega
theorem byt_cons {x : Int} {xs : List Int} (h0 : 0 ≤ x) (h1 : x < 256) (h : Byt xs) : Byt (x :: xs) := by
  intro j
  cases j with
  | zero => exact ⟨h0, h1⟩
  | succ j => exact h j
theorem byt_apd {xs ys : List Int} (h : Byt xs) (k : Byt ys) : Byt (xs ++ ys) := by
  intro j
  rw [List.getD_eq_getElem?_getD]
  by_cases c : j < xs.length
  · rw [List.getElem?_append_left c, ← List.getD_eq_getElem?_getD]
    exact h j
  · rw [List.getElem?_append_right (by omega), ← List.getD_eq_getElem?_getD]
    exact k _
theorem byt_rep0 (n : Nat) : Byt (List.replicate n 0) := by
  intro j
  rw [List.getD_eq_getElem?_getD, List.getElem?_replicate]
  split <;> simp
theorem padL_byt (n : Int) (B t : Nat) : Byt (padL n B t) := byt_cons (by omega) (by omega) (byt_apd (byt_rep0 _) (bigL_byt _ _))
/-- What is asked for: nothing, where n is not to be hashed. -/
def padA (n : Int) (B t : Nat) : List Int := if 0 ≤ n ∧ n ≤ 1099511627776 then padL n B t else []
theorem padA_byt (n : Int) (B t : Nat) : Byt (padA n B t) := by
  unfold padA
  split
  · exact padL_byt n B t
  · intro j
    simp
theorem padZ_lt (n : Int) {B t : Nat} (h : 0 < B) : padZ n B t < B := by
  unfold padZ
  have h0 := Int.emod_nonneg ((B : Int) - (n + 1 + (t : Int)) % (B : Int)) (show (B : Int) ≠ 0 by omega)
  have h1 := Int.emod_lt_of_pos ((B : Int) - (n + 1 + (t : Int)) % (B : Int)) (show (0 : Int) < (B : Int) by omega)
  omega
theorem padA_len (n : Int) {B t : Nat} (h : 0 < B) : (padA n B t).length ≤ B + t := by
  unfold padA
  split
  · rw [padL_len]
    have := padZ_lt n (t := t) h
    omega
  · simp
/-- As long as the length is no multiple, there are less zeros than are asked. -/
theorem padZ_go {n : Int} {B t k : Nat} (h : k ≤ padZ n B t) (hB : B = 64 ∧ t = 8 ∨ B = 128 ∧ t = 16) (hn : (n + (1 + (k : Int)) + (t : Int)) % (B : Int) ≠ 0) : k + 1 ≤ padZ n B t := by
  unfold padZ at *
  rcases hB with ⟨rfl, rfl⟩ | ⟨rfl, rfl⟩ <;> omega
theorem padZ_end {n : Int} {B t k : Nat} (h : k ≤ padZ n B t) (hB : B = 64 ∧ t = 8 ∨ B = 128 ∧ t = 16) (hn : (n + (1 + (k : Int)) + (t : Int)) % (B : Int) = 0) : k = padZ n B t := by
  unfold padZ at *
  rcases hB with ⟨rfl, rfl⟩ | ⟨rfl, rfl⟩ <;> omega

/-- The program's: the size, and the places from the end on. -/
def padS (n : Int) (B t : Nat) : Nat := 1 + padZ n B t + t
theorem padS_32 (n : Int) : ((padS n 64 8 : Nat) : Int) = if 64 - n % 64 < 9 then 64 - n % 64 + 64 else 64 - n % 64 := by
  unfold padS padZ
  split <;> omega
theorem padS_64 (n : Int) : ((padS n 128 16 : Nat) : Int) = if 128 - n % 128 < 17 then 128 - n % 128 + 128 else 128 - n % 128 := by
  unfold padS padZ
  split <;> omega
def PadTo (n : Int) (s : Nat) (ys : List Int) (k : Nat) : Prop :=
  ys.length = s ∧ ys.getD 0 0 = 128 ∧ (∀ j, 0 < j → j < s - k → ys.getD j 0 = 0) ∧ ∀ j, s - k ≤ j → j < s → ys.getD j 0 = 8 * n / 256 ^ (s - 1 - j) % 256
theorem PadTo.zero (n : Int) (s : Nat) (h : 0 < s) : PadTo n s ((List.replicate s 0).set 0 128) 0 := by
  refine ⟨by simp, ?_, fun j h0 hj => ?_, fun j hj hj' => absurd hj (by omega)⟩
  · rw [getD_set_self _ _ _ (by simpa using h)]
  · rw [getD_set_ne _ _ _ _ (by omega)]
    rw [List.getD_eq_getElem?_getD, List.getElem?_replicate]
    split <;> rfl
theorem PadTo.step {n : Int} {s : Nat} {ys : List Int} {k : Nat} (h : PadTo n s ys k) (hk : k + 1 < s) : PadTo n s (ys.set (s - 1 - k) (8 * n / 256 ^ k % 256)) (k + 1) := by
  obtain ⟨h1, h2, h3, h4⟩ := h
  refine ⟨by simpa using h1, ?_, fun j h0 hj => ?_, fun j hj hj' => ?_⟩
  · rw [getD_set_ne _ _ _ _ (by omega)]
    exact h2
  · rw [getD_set_ne _ _ _ _ (by omega)]
    exact h3 j h0 (by omega)
  · by_cases e : s - 1 - k = j
    · subst e
      rw [getD_set_self _ _ _ (by rw [h1]; omega), show s - 1 - (s - 1 - k) = k by omega]
    · rw [getD_set_ne _ _ _ _ e]
      exact h4 j (by omega) hj'
theorem PadTo.all {n : Int} {B t : Nat} {ys : List Int} (h0 : 0 ≤ n) (h1 : n ≤ 1099511627776) (ht : t = 8 ∨ t = 16) (h : PadTo n (padS n B t) ys 8) : ys = padL n B t := by
  obtain ⟨a1, a2, a3, a4⟩ := h
  refine eq_of_getD (by rw [a1, padL_len]; rfl) (fun i hi => ?_)
  rw [a1] at hi
  have hs : padS n B t = 1 + padZ n B t + t := rfl
  unfold padL
  cases i with
  | zero => rw [a2]; rfl
  | succ i =>
    rw [List.getD_cons_succ]
    by_cases c : i < padZ n B t
    · rw [a3 _ (by omega) (by omega), List.getD_eq_getElem?_getD, List.getElem?_append_left (by simpa using c), List.getElem?_replicate, if_pos c]
      rfl
    · rw [getD_apd_right (List.replicate (padZ n B t) 0) _ i (by simpa using c), List.length_replicate, bigL_get _ _ _ (by omega)]
      by_cases d : padS n B t - 8 ≤ i + 1
      · rw [a4 _ d hi, show padS n B t - 1 - (i + 1) = t - 1 - (i - padZ n B t) by omega]
      · rw [a3 _ (by omega) (by omega)]
        obtain ⟨e, he⟩ : ∃ e, t - 1 - (i - padZ n B t) = 8 + e := ⟨t - 1 - (i - padZ n B t) - 8, by omega⟩
        rw [he, Int.pow_add]
        have hp := p256_pos e
        have hz : 8 * n / ((256 : Int) ^ 8 * 256 ^ e) = 0 := by
          refine Int.ediv_eq_zero_of_lt (by omega) ?_
          have : (256 : Int) ^ 8 * 1 ≤ 256 ^ 8 * 256 ^ e := Int.mul_le_mul_of_nonneg_left (by omega) (by decide)
          have : (256 : Int) ^ 8 = 18446744073709551616 := by decide
          omega
        rw [hz]
        rfl
end Go.Proofs.Ytcljoaknaegpmaa

/-
  A text appended to an owned row.
-/
namespace Go.Proofs.Ytcljoaknaegpmaa
open Go Go.RowKit

/-- A text's bytes. -/
def txL (l : List UInt8) : List Int := l.map fun b => (b.toNat : Int)
theorem txL_len (l : List UInt8) : (txL l).length = l.length := by simp [txL]
/-- A text appended. -/
theorem appendT_any {P : Program} (w : World) (ty : TypeId) (i : TypeInfo) (ht : P.underlying 22 = some (.slice 5)) (hu : P.underlying 9 = some .string) (hi : P.info? 5 = some i) (hz : i.zero = some (.int .u8 0)) (hsize : i.size = 1) (hby : i.bytes = 1)
    (base B : Nat) (v : Value) (xs : List Int) (hown : RowB w base v xs) (l : List UInt8) (hl : xs.length + l.length ≤ 1099511627776) (hB : B ≤ base) (hbase : base ≤ w.heap.size) :
    ∃ v' w', (Builtin.append_ #[22, 9] ty #[v, .string ⟨⟨l⟩⟩]).run P w = .ok v' w' ∧ RowB w' base v' (xs ++ txL l) ∧ Below B w w' := by
  have hs : (ByteArray.mk ⟨l⟩).size = l.length := rfl
  obtain ⟨v', w', h1, h2, h3, _⟩ := Lib.run_append_own_string (P := P) w base 22 9 ty 5 i ht hu hi hz hsize hby v xs.length (xs.map (Value.int .u8)) hown ⟨⟨l⟩⟩ (by rw [hs]; unfold maxLen; omega) (by rw [hs]; omega) hbase
  refine ⟨v', w', h1, ?_, (Below.refl B w).grown h3 (by omega) (fun k hk => by have := (World.ownsRow.lt hown k hk).1; omega)⟩
  show w'.ownsRow base 5 1 v' (xs ++ txL l).length ((xs ++ txL l).map (Value.int .u8))
  rw [List.length_append, List.map_append, txL_len]
  have e : (txL l).map (Value.int .u8) = Lib.strCells ⟨⟨l⟩⟩ := by simp [txL, Lib.strCells]
  rw [e]
  exact h2
end Go.Proofs.Ytcljoaknaegpmaa

/-
  The program's appendNumber, up to eight bytes; slices.Clone of bytes (as MiB, MiD, without the messages).
-/
namespace Go.Proofs.Ytcljoaknaegpmaa
open Go Go.RowKit

theorem bigL_takeN (n : Int) (t k : Nat) (h : k < t) : (bigL n t).take (k + 1) = (bigL n t).take k ++ [n / 256 ^ (t - 1 - k) % 256] := by
  rw [List.take_add_one]
  simp [bigL, h]
theorem RowB.nilN (w : World) (base : Nat) : RowB w base (.slice none 0 0) [] := ⟨rfl, .inl ⟨rfl, rfl⟩⟩
set_option maxHeartbeats 4000000 in
theorem appendNum_any (w : World) (base : Nat) (v : Value) (xs : List Int) (R0 : RowB w base v xs) (hb : base ≤ w.heap.size) (n : Int) (t : Nat) (ht : t ≤ 8) (hl : xs.length ≤ 1073741824) :
    Calls Try.prog 41 #[v, .int .i64 n, .int .i64 (t : Int)] w fun e w' => ∃ v', e = .returned v' ∧ RowB w' base v' (xs ++ bigL n t) ∧ Below base w w' := by
  obtain ⟨i0, hi, hz0, hz1, hz2⟩ := info_parts Try.info5
  go_enter Try.func41, Try.ntmps41
  go_wp2
  go_loopw [0, 7, 9] (fun l _ i wr => ∃ k : Nat, k ≤ t ∧ i = .int .i64 k ∧ RowB wr base l (xs ++ (bigL n t).take k) ∧ Below base w wr) (fun _ _ i _ => t - (intOf i).toNat)
  case atStart => exact ⟨0, Nat.zero_le _, rfl, by simpa using R0, Below.refl _ _⟩
  case round =>
    obtain ⟨k, hk, rfl, R, hN⟩ := hrel
    by_cases hlt : k < t
    · have hs := hN.size
      have bt := bigL_takeN n t k hlt
      obtain ⟨x, hx⟩ : ∃ x, x = n / 256 ^ (t - 1 - k) % 256 := ⟨_, rfl⟩
      rw [← hx] at bt
      have BT := hide bt
      clear bt
      have n2 : Below wr.heap.size wr (wr.alloc (.cells #[.int .u8 x] 5)) := (Below.refl _ _).alloc (Nat.le_refl _) _
      obtain ⟨v3, w3, hap3, R3, n3⟩ := append_any (P := Try.prog) (wr.alloc (.cells #[.int .u8 x] 5)) 22 i0 Try.underlying22 hi hz0 hz1 hz2 base base _ _ (R.up n2) _ _ 1 [x] (blk_lit1 wr .u8 5 x).own0.rd (by simp) (by simp; omega) (Nat.le_refl _) (by simp; omega)
      rw [List.append_assoc, ← BT.out] at R3
      have N3 := (hN.trans (n2.mono (by omega))).trans n3
      clear R n2 n3 hN BT
      have k1 : (k : Int) < (t : Int) := by omega
      obtain ⟨d, hd⟩ : ∃ d, d = t - 1 - k := ⟨_, rfl⟩
      rw [← hd] at hx
      rcases (by omega : d = 0 ∨ d = 1 ∨ d = 2 ∨ d = 3 ∨ d = 4 ∨ d = 5 ∨ d = 6 ∨ d = 7) with rfl | rfl | rfl | rfl | rfl | rfl | rfl | rfl
      · have he : (t : Int) - 1 - (k : Int) = 0 := by omega
        clear hd
        simp at hx
        replace hx := hx.symm
        go_wp2_with (at_builtin; refine Lib.wpList_append_run _ rfl _ _ 22 22 rfl _ _ rfl rfl _ _ hap3 ?_)
        clear hap3
        go_roundw
        case rel => exact ⟨k + 1, by omega, by go_num, R3, N3⟩
        case measure => simp [intOf]; omega
      · have he : (t : Int) - 1 - (k : Int) = 1 := by omega
        clear hd
        simp at hx
        replace hx := hx.symm
        go_wp2_with (at_builtin; refine Lib.wpList_append_run _ rfl _ _ 22 22 rfl _ _ rfl rfl _ _ hap3 ?_)
        clear hap3
        go_roundw
        case rel => exact ⟨k + 1, by omega, by go_num, R3, N3⟩
        case measure => simp [intOf]; omega
      · have he : (t : Int) - 1 - (k : Int) = 2 := by omega
        clear hd
        simp at hx
        replace hx := hx.symm
        go_wp2_with (at_builtin; refine Lib.wpList_append_run _ rfl _ _ 22 22 rfl _ _ rfl rfl _ _ hap3 ?_)
        clear hap3
        go_roundw
        case rel => exact ⟨k + 1, by omega, by go_num, R3, N3⟩
        case measure => simp [intOf]; omega
      · have he : (t : Int) - 1 - (k : Int) = 3 := by omega
        clear hd
        simp at hx
        replace hx := hx.symm
        go_wp2_with (at_builtin; refine Lib.wpList_append_run _ rfl _ _ 22 22 rfl _ _ rfl rfl _ _ hap3 ?_)
        clear hap3
        go_roundw
        case rel => exact ⟨k + 1, by omega, by go_num, R3, N3⟩
        case measure => simp [intOf]; omega
      · have he : (t : Int) - 1 - (k : Int) = 4 := by omega
        clear hd
        simp at hx
        replace hx := hx.symm
        go_wp2_with (at_builtin; refine Lib.wpList_append_run _ rfl _ _ 22 22 rfl _ _ rfl rfl _ _ hap3 ?_)
        clear hap3
        go_roundw
        case rel => exact ⟨k + 1, by omega, by go_num, R3, N3⟩
        case measure => simp [intOf]; omega
      · have he : (t : Int) - 1 - (k : Int) = 5 := by omega
        clear hd
        simp at hx
        replace hx := hx.symm
        go_wp2_with (at_builtin; refine Lib.wpList_append_run _ rfl _ _ 22 22 rfl _ _ rfl rfl _ _ hap3 ?_)
        clear hap3
        go_roundw
        case rel => exact ⟨k + 1, by omega, by go_num, R3, N3⟩
        case measure => simp [intOf]; omega
      · have he : (t : Int) - 1 - (k : Int) = 6 := by omega
        clear hd
        simp at hx
        replace hx := hx.symm
        go_wp2_with (at_builtin; refine Lib.wpList_append_run _ rfl _ _ 22 22 rfl _ _ rfl rfl _ _ hap3 ?_)
        clear hap3
        go_roundw
        case rel => exact ⟨k + 1, by omega, by go_num, R3, N3⟩
        case measure => simp [intOf]; omega
      · have he : (t : Int) - 1 - (k : Int) = 7 := by omega
        clear hd
        simp at hx
        replace hx := hx.symm
        go_wp2_with (at_builtin; refine Lib.wpList_append_run _ rfl _ _ 22 22 rfl _ _ rfl rfl _ _ hap3 ?_)
        clear hap3
        go_roundw
        case rel => exact ⟨k + 1, by omega, by go_num, R3, N3⟩
        case measure => simp [intOf]; omega
    · obtain rfl : k = t := by omega
      rw [List.take_of_length_le (by rw [bigL_len]; exact Nat.le_refl _)] at R
      go_wp2
      go_ret
      exact ⟨_, rfl, R, hN⟩
end Go.Proofs.Ytcljoaknaegpmaa

/-
  A short text appended: its length is one byte; the program's.
-/
namespace Go.Proofs.Ytcljoaknaegpmaa
open Go Go.RowKit

/-- A text, its length ahead. -/
def shL (l : List UInt8) : List Int := bigL (l.length : Int) 1 ++ txL l
theorem shL_len (l : List UInt8) : (shL l).length = l.length + 1 := by simp [shL, bigL_len, txL_len]; omega
set_option maxRecDepth 100000 in
set_option maxHeartbeats 1000000 in
theorem appendShort_any (w : World) (base : Nat) (v : Value) (xs : List Int) (R0 : RowB w base v xs) (hb : base ≤ w.heap.size) (l : List UInt8) (hl : xs.length ≤ 1073741824) (hz : l.length ≤ 1048576) :
    Calls Try.prog 42 #[v, .string ⟨⟨l⟩⟩] w fun e w' => ∃ v', e = .returned v' ∧ RowB w' base v' (xs ++ shL l) ∧ Below base w w' := by
  obtain ⟨i0, hi, hz0, hz1, hz2⟩ := info_parts Try.info5
  have C1 := hide (appendNum_any w base v xs R0 hb (l.length : Int) 1 (by omega) hl)
  have sz := tx_size l
  go_enter Try.func42, Try.ntmps42
  go_wp2_with fail
  refine C1.out.mono ?_
  rintro r w1 ⟨v1, rfl, R1, n1⟩
  have s1 := n1.size
  obtain ⟨v2, w2, hap, R2, n2⟩ := appendT_any (P := Try.prog) w1 22 i0 Try.underlying22 Try.underlying9 hi hz0 hz1 hz2 base base _ _ R1 l (by rw [List.length_append, bigL_len]; omega) (Nat.le_refl _) (by omega)
  rw [List.append_assoc] at R2
  have N2 := n1.trans n2
  clear R1 n1 n2 C1 R0
  go_wp2_with (at_builtin; refine Lib.wpList_append_run _ rfl _ _ 22 9 rfl _ _ rfl rfl _ _ hap ?_)
  go_ret
  exact ⟨_, rfl, R2, N2⟩
end Go.Proofs.Ytcljoaknaegpmaa

/-
  A ticket's state as bytes; the program's.
-/
namespace Go.Proofs.Ytcljoaknaegpmaa
open Go Go.RowKit

theorem lsts_twoS (w : World) (t : TypeId) (l0 l1 : Lst) : Lsts (w.alloc (.cells #[.slice l0.a l0.xs.length l0.c, .slice l1.a l1.xs.length l1.c] t)) w.heap.size [l0, l1] := fun j l h => by
  have R := RwC.new w [.slice l0.a l0.xs.length l0.c, .slice l1.a l1.xs.length l1.c] t
  rcases (by have := (List.getElem?_eq_some_iff.1 h).1; simp at this; omega : j = 0 ∨ j = 1) with rfl | rfl
  · simp at h; subst h; exact R.cell 0
  · simp at h; subst h; exact R.cell 1
theorem cat2S (l0 l1 : Lst) : cat [l0, l1] = l0.xs ++ l1.xs := by simp [cat]
theorem RwC.at_base {w w' : World} {q B : Nat} {cs : List Value} {t : TypeId} (h : RwC w q cs t) (n : Below B w w') (hq : q < B) : RwC w' q cs t := (n.block q hq).trans h
theorem nameF_len {l : List UInt8} (h : nameF l = 0) : 1 ≤ l.length ∧ l.length ≤ 128 := by
  unfold nameF at h
  by_cases q : l.length < 1 ∨ 128 < l.length
  · rw [if_pos q] at h; exact absurd h (by decide)
  · omega
theorem sf0 {n n' : Nat} {md li : Int} {ho : List UInt8} {p : Nat} {ea : Int} (h : sfV n n' md li ho p ea = 0) : n = 32 ∧ n' = 32 ∧ (0 ≤ md ∧ md ≤ 253402300799) ∧ (1 ≤ li ∧ li ≤ 604800) ∧ (1 ≤ ho.length ∧ ho.length ≤ 128) ∧ p ≤ 32 ∧ (0 ≤ ea ∧ ea ≤ 4294967295) := by
  unfold sfV at h
  by_cases h0 : n ≠ 32 ∨ n' ≠ 32
  · rw [if_pos h0] at h; exact absurd h (by decide)
  rw [if_neg h0] at h
  by_cases h1 : isTm md = false
  · rw [if_pos h1] at h; exact absurd h (by decide)
  rw [if_neg h1] at h
  by_cases h2 : isLi li = false
  · rw [if_pos h2] at h; exact absurd h (by decide)
  rw [if_neg h2] at h
  by_cases h3 : nameF ho ≠ 0
  · rw [if_pos h3] at h; exact absurd h (by decide)
  rw [if_neg h3] at h
  by_cases h4 : 32 < p
  · rw [if_pos h4] at h; exact absurd h (by decide)
  rw [if_neg h4] at h
  by_cases h5 : isAg ea = false
  · rw [if_pos h5] at h; exact absurd h (by decide)
  exact ⟨by omega, by omega, (isTm_iff md).1 (by simpa using h1), (isLi_iff li).1 (by simpa using h2), nameF_len (by simpa using h3), by omega, (isAg_iff ea).1 (by simpa using h5)⟩
/-- A state's bytes. -/
def esL (X Y : List Int) (md li : Int) (ho pr : List UInt8) (ea : Int) : List Int := X ++ Y ++ bigL md 8 ++ bigL li 4 ++ bigL ea 4 ++ shL ho ++ shL pr
def esA (X Y : List Int) (md li : Int) (ho pr : List UInt8) (ea : Int) : List Int := if sfV X.length Y.length md li ho pr.length ea = 0 then esL X Y md li ho pr ea else []
theorem esL_len (X Y : List Int) (md li : Int) (ho pr : List UInt8) (ea : Int) : (esL X Y md li ho pr ea).length = X.length + Y.length + ho.length + pr.length + 18 := by
  unfold esL
  simp only [List.length_append, bigL_len, shL_len]
  omega
theorem esA_len (X Y : List Int) (md li : Int) (ho pr : List UInt8) (ea : Int) : (esA X Y md li ho pr ea).length ≤ 242 := by
  unfold esA
  by_cases h : sfV X.length Y.length md li ho pr.length ea = 0
  · have := sf0 h
    rw [if_pos h, esL_len]
    omega
  · rw [if_neg h]; simp
set_option maxRecDepth 100000 in
set_option maxHeartbeats 4000000 in
theorem implEnS_any (w : World) (md li : Int) (ho pr : List UInt8) (ea : Int) (g : Nat) (a : Option Addr) (c : Nat) (X : List Int) (hr : Rd w g a .u8 X) (hz : a = none → c = 0) (g' : Nat) (a' : Option Addr) (c' : Nat) (Y : List Int) (hr' : Rd w g' a' .u8 Y) (hz' : a' = none → c' = 0) (hh : ho.length ≤ 1048576) (hp : pr.length ≤ 1048576) :
    Calls Try.prog 25 #[.agg #[.slice a X.length c, .slice a' Y.length c', .int .i64 md, .int .i64 li, .string ⟨⟨ho⟩⟩, .string ⟨⟨pr⟩⟩, .int .i64 ea]] w fun e w' => ∃ v, e = .returned v ∧ RowB w' w.heap.size v (esA X Y md li ho pr ea) ∧ Below w.heap.size w w' := by
  have n1 : Below w.heap.size w (w.alloc (.cells #[.slice a X.length c, .slice a' Y.length c', .int .i64 md, .int .i64 li, .string ⟨⟨ho⟩⟩, .string ⟨⟨pr⟩⟩, .int .i64 ea] 28)) := (Below.refl _ _).alloc (Nat.le_refl _) _
  have P0 : RwC (w.alloc (.cells #[.slice a X.length c, .slice a' Y.length c', .int .i64 md, .int .i64 li, .string ⟨⟨ho⟩⟩, .string ⟨⟨pr⟩⟩, .int .i64 ea] 28)) w.heap.size [.slice a X.length c, .slice a' Y.length c', .int .i64 md, .int .i64 li, .string ⟨⟨ho⟩⟩, .string ⟨⟨pr⟩⟩, .int .i64 ea] 28 := RwC.new w _ _
  have SF := fun W => hide (implState_any W md li ho pr ea a X.length c a' Y.length c' hh hp)
  by_cases h0 : sfV X.length Y.length md li ho pr.length ea = 0
  · have e1 : Hid (esA X Y md li ho pr ea = esL X Y md li ho pr ea) := by show _ = _; unfold esA; rw [if_pos h0]
    have LS := hide (sf0 h0)
    rw [h0] at SF
    have N := n1
    have lq : w.heap.size < (w.alloc (.cells #[.slice a X.length c, .slice a' Y.length c', .int .i64 md, .int .i64 li, .string ⟨⟨ho⟩⟩, .string ⟨⟨pr⟩⟩, .int .i64 ea] 28)).heap.size := by simp
    rw [e1.out]
    clear e1 h0 hh hp
    go_enter Try.func25, Try.ntmps25
    go_wp2_with fail
    generalize w.alloc (.cells #[.slice a X.length c, .slice a' Y.length c', .int .i64 md, .int .i64 li, .string ⟨⟨ho⟩⟩, .string ⟨⟨pr⟩⟩, .int .i64 ea] 28) = wa at *
    refine (SF _).out.mono ?_
    rintro e w1 ⟨rfl, m1⟩
    replace N := nxt N m1
    replace P0 := P0.up m1
    replace lq := Nat.lt_of_lt_of_le lq m1.size
    have D0 := hr.up N
    have D1 := hr'.up N
    have n3 : Below w1.heap.size w1 (w1.alloc (.cells #[.slice a X.length c, .slice a' Y.length c'] 22)) := (Below.refl _ _).alloc (Nat.le_refl _) _
    have LT := lsts_twoS w1 22 ⟨g, a, c, X⟩ ⟨g', a', c', Y⟩
    have CC := concatB_any (w1.alloc (.cells #[.slice a X.length c, .slice a' Y.length c'] 22)) w1.heap.size 2 2 [⟨g, a, c, X⟩, ⟨g', a', c', Y⟩] rfl (by omega) LT (by
      intro x hx
      simp only [List.mem_cons, List.not_mem_nil, or_false] at hx
      rcases hx with rfl | rfl
      · exact ⟨D0.up n3, hz⟩
      · exact ⟨D1.up n3, hz'⟩) (by rw [cat2S, List.length_append]; have := LS.out; show 0 < X.length + Y.length; omega) (by rw [cat2S, List.length_append]; have := LS.out; show X.length + Y.length ≤ _; omega)
    rw [cat2S] at CC
    replace CC := hide CC
    have p0 : w1.cell? ⟨w.heap.size, 0, none⟩ = some (.slice a X.length c) := P0.cell 0
    have p1 : w1.cell? ⟨w.heap.size, 1, none⟩ = some (.slice a' Y.length c') := P0.cell 1
    clear D0 D1 LT hr hr' hz hz' SF m1 n1
    go_wp2_with fail
    refine CC.out.mono ?_
    rintro e w2 ⟨⟨v2, rfl, R2⟩, m2⟩
    have N2 := nxt n3 m2
    have zz := n3.size
    replace P0 := P0.up N2
    replace N := nxt N N2
    clear p0 p1 CC
    have zb := m2.size
    generalize hB : (w1.alloc (.cells #[.slice a X.length c, .slice a' Y.length c'] 22)).heap.size = B at *
    have hq : w.heap.size < B := by omega
    clear hB zz n3 m2 N2
    have AN := hide (appendNum_any w2 B v2 (X ++ Y) R2 (by omega) md 8 (by omega) (by simp only [List.length_append]; have := LS.out; omega))
    have p2 : w2.cell? ⟨w.heap.size, 2, none⟩ = some (.int .i64 md) := P0.cell 2
    go_wp2_with fail
    refine AN.out.mono ?_
    rintro e w3 ⟨v3, rfl, R3, m3⟩
    have z3 := m3.size
    replace P0 := P0.at_base m3 hq
    replace N := N.trans (m3.mono (by omega))
    clear AN p2 R2 m3
    have AN := hide (appendNum_any w3 B v3 (X ++ Y ++ bigL md 8) R3 (by omega) li 4 (by omega) (by simp only [List.length_append, bigL_len]; have := LS.out; omega))
    have p3 : w3.cell? ⟨w.heap.size, 3, none⟩ = some (.int .i64 li) := P0.cell 3
    go_wp2_with fail
    refine AN.out.mono ?_
    rintro e w4 ⟨v4, rfl, R4, m4⟩
    have z4 := m4.size
    replace P0 := P0.at_base m4 hq
    replace N := N.trans (m4.mono (by omega))
    clear AN p3 R3 m4
    have AN := hide (appendNum_any w4 B v4 (X ++ Y ++ bigL md 8 ++ bigL li 4) R4 (by omega) ea 4 (by omega) (by simp only [List.length_append, bigL_len]; have := LS.out; omega))
    have p6 : w4.cell? ⟨w.heap.size, 6, none⟩ = some (.int .i64 ea) := P0.cell 6
    go_wp2_with fail
    refine AN.out.mono ?_
    rintro e w5 ⟨v5, rfl, R5, m5⟩
    have z5 := m5.size
    replace P0 := P0.at_base m5 hq
    replace N := N.trans (m5.mono (by omega))
    clear AN p6 R4 m5
    have AN := hide (appendShort_any w5 B v5 (X ++ Y ++ bigL md 8 ++ bigL li 4 ++ bigL ea 4) R5 (by omega) ho (by simp only [List.length_append, bigL_len]; have := LS.out; omega) (by have := LS.out; omega))
    have p4 : w5.cell? ⟨w.heap.size, 4, none⟩ = some (.string ⟨⟨ho⟩⟩) := P0.cell 4
    go_wp2_with fail
    refine AN.out.mono ?_
    rintro e w6 ⟨v6, rfl, R6, m6⟩
    have z6 := m6.size
    replace P0 := P0.at_base m6 hq
    replace N := N.trans (m6.mono (by omega))
    clear AN p4 R5 m6
    have AN := hide (appendShort_any w6 B v6 (X ++ Y ++ bigL md 8 ++ bigL li 4 ++ bigL ea 4 ++ shL ho) R6 (by omega) pr (by simp only [List.length_append, bigL_len, shL_len]; have := LS.out; omega) (by have := LS.out; omega))
    have p5 : w6.cell? ⟨w.heap.size, 5, none⟩ = some (.string ⟨⟨pr⟩⟩) := P0.cell 5
    go_wp2_with fail
    refine AN.out.mono ?_
    rintro e w7 ⟨v7, rfl, R7, m7⟩
    have z7 := m7.size
    replace P0 := P0.at_base m7 hq
    replace N := N.trans (m7.mono (by omega))
    clear AN p5 R6 m7
    go_wp2
    go_ret
    exact ⟨_, rfl, R7.base (by omega), N⟩
  · have e1 : Hid (esA X Y md li ho pr ea = []) := by show _ = _; unfold esA; rw [if_neg h0]
    rw [e1.out]
    generalize sfV X.length Y.length md li ho pr.length ea = R at *
    clear e1 hr hr' hz hz' hh hp
    go_enter Try.func25, Try.ntmps25
    go_wp2_with fail
    generalize w.alloc (.cells #[.slice a X.length c, .slice a' Y.length c', .int .i64 md, .int .i64 li, .string ⟨⟨ho⟩⟩, .string ⟨⟨pr⟩⟩, .int .i64 ea] 28) = wa at *
    refine (SF _).out.mono ?_
    rintro e w1 ⟨rfl, m1⟩
    have N := nxt n1 m1
    go_wp2
    go_ret
    exact ⟨_, rfl, RowB.nilN _ _, N⟩
end Go.Proofs.Ytcljoaknaegpmaa

/-
  Bytes that are read one field behind the other; the model's l13Take, l13Number. Behind the end there are bytes 0.
-/
namespace Go.Proofs.Ytcljoaknaegpmaa
open Go Go.RowKit

/-- The n bytes from place i on. -/
def tkB (xs : List Int) (i n : Nat) : List Int := fill (fun k => xs.getD (i + k) 0) n
theorem tkB_len (xs : List Int) (i n : Nat) : (tkB xs i n).length = n := fill_len _ _
theorem tkB_get (xs : List Int) (i n k : Nat) (h : k < n) : (tkB xs i n).getD k 0 = xs.getD (i + k) 0 := fill_get _ _ _ h
theorem tkB_byt {xs : List Int} (h : Byt xs) (i n : Nat) : Byt (tkB xs i n) := fun k => by
  by_cases hk : k < n
  · rw [tkB_get _ _ _ _ hk]; exact h _
  · rw [List.getD_eq_getElem?_getD, List.getElem?_eq_none (by rw [tkB_len]; omega)]
    exact ⟨by simp, by simp⟩
/-- What is read lies in a block of its own; of what was there the reader's block alone has changed. -/
def NewI (p : Nat) (w w' : World) : Prop := w'.os = w.os ∧ w'.tape = w.tape ∧ w'.output = w.output ∧ w.heap.size ≤ w'.heap.size ∧ ∀ b, b < w.heap.size → b ≠ p → w'.heap[b]? = w.heap[b]?
theorem NewI.below {p B : Nat} {w w' : World} (h : NewI p w w') (hB : B ≤ p) (hw : B ≤ w.heap.size) : Below B w w' := ⟨h.1, h.2.1, h.2.2.1, h.2.2.2.1, fun k hk => h.2.2.2.2 k (by omega) (by omega)⟩
theorem NewI.block {p b : Nat} {w w' : World} (h : NewI p w w') (hb : b < w.heap.size) (hne : b ≠ p) : w'.heap[b]? = w.heap[b]? := h.2.2.2.2 b hb hne
theorem NewI.refl (p : Nat) (w : World) : NewI p w w := ⟨rfl, rfl, rfl, Nat.le_refl _, fun _ _ _ => rfl⟩
theorem NewI.trans {p : Nat} {a b c : World} (h : NewI p a b) (k : NewI p b c) : NewI p a c :=
  ⟨k.1.trans h.1, k.2.1.trans h.2.1, k.2.2.1.trans h.2.2.1, Nat.le_trans h.2.2.2.1 k.2.2.2.1, fun x hx hn => (k.2.2.2.2 x (Nat.lt_of_lt_of_le hx h.2.2.2.1) hn).trans (h.2.2.2.2 x hx hn)⟩
theorem NewI.of_below {p : Nat} {w w' : World} (h : Below w.heap.size w w') : NewI p w w' := ⟨h.os, h.tape, h.output, h.size, fun b hb _ => h.block b hb⟩
theorem NewI.of_only {p : Nat} {w w' : World} (h : Only p w w') : NewI p w w' := ⟨h.os, h.tape, h.output, Nat.le_of_eq h.size.symm, fun b _ hn => h.block b hn⟩
set_option maxRecDepth 100000 in
set_option maxHeartbeats 2000000 in
theorem l13Take_any (w : World) (p g : Nat) (a : Option Addr) (c : Nat) (xs : List Int) (i n : Nat) (hC : Cur w p (.slice a xs.length c) i) (hr : Rd w g a .u8 xs) (hi : i ≤ 4194304) (hn : n ≤ 3000) (hl : xs.length ≤ 4194304) :
    Calls Try.prog 49 #[.pointer (some ⟨p, 0, none⟩), .int .i64 (n : Int)] w fun e w' => e = .returned (.slice (some ⟨w.heap.size, 0, none⟩) n n) ∧ Blk w' w.heap.size .u8 (tkB xs i n) ∧ Cur w' p (.slice a xs.length c) ((i + n : Nat) : Int) ∧ NewI p w w' := by
  obtain ⟨i0, hi0, hz0, hz1, hz2⟩ := info_parts Try.info5
  have pl := hC.lt
  go_enter Try.func49, Try.ntmps49
  go_wp2_with (at_make; refine wpList_make_full _ rfl _ _ 22 rfl w.heap.size 5 i0 (.int .u8 0) 1 Try.underlying22 hi0 hz0 hz1 .i64 .i64 _ _ n rfl rfl rfl rfl (by rw [hz2]; omega) (by unfold maxLen; omega) (Nat.le_refl _) ?_; intro w1 hown hgrow)
  have hB0 := Blk.of_made hown
  have hN0 : Below w.heap.size w w1 := (Below.refl _ _).grown hgrow (Nat.le_refl _) (by simp)
  clear hown hgrow
  go_loopw [6] (fun j wr => ∃ (k : Nat) (ys : List Int), k ≤ n ∧ j = .int .i64 (k : Int) ∧ Hid (FillTo (fun k => xs.getD (i + k) 0) ys n k) ∧ Hid (∀ j, k ≤ j → ys.getD j 0 = 0) ∧ Blk wr w.heap.size .u8 ys ∧ Below w.heap.size w wr) (fun j _ => n - (intOf j).toNat)
  case atStart => exact ⟨0, _, Nat.zero_le _, rfl, ⟨by simp, fun j hj => absurd hj (by omega)⟩, (fun j _ => by rw [List.getD_eq_getElem?_getD, List.getElem?_replicate]; split <;> rfl), hB0, hN0⟩
  case round =>
    clear hB0 hN0
    obtain ⟨k, ys, hk, rfl, F, Z, B, N⟩ := hrel
    have C := hC.up N
    have c0 := C.c0
    have c1 := C.c1
    have f1 := C.f1
    by_cases hlt : k < n
    · have k0 : (k : Int) < (n : Int) := by omega
      have k1 : decide ((k : Int) < (n : Int)) = true := by simp; omega
      have kl : k < ys.length := by rw [F.out.1]; exact hlt
      by_cases hx : i + k < xs.length
      · have x0 : (i : Int) + (k : Int) < (xs.length : Int) := by omega
        have x1 : decide ((i : Int) + (k : Int) < (xs.length : Int)) = true := decide_eq_true x0
        obtain ⟨off, rfl, hc⟩ := hr.up N (by omega)
        have hcx := hc (i + k) hx
        clear hc
        have hfy := B.free k
        have hcy := B.cell kl
        have F' := hide (F.out.step hlt)
        have Z' : Hid (∀ j, k + 1 ≤ j → (ys.set k (xs.getD (i + k) 0)).getD j 0 = 0) := fun j hj => by rw [getD_set_ne _ _ _ _ (by omega)]; exact Z.out j (by omega)
        have B' := fun m q => hide (show Blk (((wr.drewN m).setCell ⟨w.heap.size, k, none⟩ (.int .u8 (xs.getD (i + k) 0))).drewN q) w.heap.size .u8 (ys.set k (xs.getD (i + k) 0)) from Blk.store (show Blk (wr.drewN m) w.heap.size .u8 ys from B) k (xs.getD (i + k) 0))
        have N' := fun m q => hide (show Below w.heap.size w (((wr.drewN m).setCell ⟨w.heap.size, k, none⟩ (.int .u8 (xs.getD (i + k) 0))).drewN q) from below_drewN ((below_drewN N m).trans ((Only.setCell _ _ _ _).below (Nat.le_refl _))) q)
        generalize xs.getD (i + k) 0 = x at *
        go_wp2
        go_quiet (fail)
        go_wp2
        go_region
        all_goals
          go_wp2
          go_roundw
          case rel => exact ⟨k + 1, _, by omega, by go_num, F', Z', (B' _ 0).out, (N' _ 0).out⟩
          case measure => simp [intOf]; omega
      · have x0 : ¬ (i : Int) + (k : Int) < (xs.length : Int) := by omega
        have x1 : decide ((i : Int) + (k : Int) < (xs.length : Int)) = false := decide_eq_false x0
        have F' : Hid (FillTo (fun k => xs.getD (i + k) 0) ys n (k + 1)) := by
          refine ⟨F.out.1, fun j hj => ?_⟩
          by_cases hjk : j < k
          · exact F.out.2 j hjk
          · obtain rfl : j = k := by omega
            show ys.getD j 0 = xs.getD (i + j) 0
            rw [Z.out j (Nat.le_refl _), List.getD_eq_getElem?_getD, List.getElem?_eq_none (by omega)]
            rfl
        have Z' : Hid (∀ j, k + 1 ≤ j → ys.getD j 0 = 0) := fun j hj => Z.out j (by omega)
        have B' := fun m => hide (show Blk (wr.drewN m) w.heap.size .u8 ys from B)
        have N' := fun m => hide (show Below w.heap.size w (wr.drewN m) from below_drewN N m)
        go_wp2
        go_quiet (fail)
        go_wp2
        go_roundw
        case rel => exact ⟨k + 1, _, by omega, by go_num, F', Z', (B' _).out, (N' _).out⟩
        case measure => simp [intOf]; omega
    · obtain rfl : k = n := by omega
      have k0 : ¬ (k : Int) < (k : Int) := by omega
      obtain rfl : ys = tkB xs i k := F.out.all
      have c2 := hide (show Cur (wr.setCell ⟨p, 1, none⟩ (.int .i64 ((i : Int) + (k : Int)))) p (.slice a xs.length c) ((i + k : Nat) : Int) from by have := C.store ((i : Int) + (k : Int)); rwa [show ((i : Int) + (k : Int)) = ((i + k : Nat) : Int) by omega] at this ⊢)
      have B2 := hide (show Blk (wr.setCell ⟨p, 1, none⟩ (.int .i64 ((i : Int) + (k : Int)))) w.heap.size .u8 (tkB xs i k) from B.of_block ((Only.setCell wr p 1 _).block _ (by omega)))
      have N2 := hide ((NewI.of_below (p := p) N).trans (NewI.of_only (Only.setCell wr p 1 (.int .i64 ((i : Int) + (k : Int))))))
      go_wp2
      go_ret
      exact ⟨rfl, B2.out, c2.out, N2.out⟩
/-- A number of n bytes from place i on, as 64 bits hold it. -/
def nmV (xs : List Int) (i n : Nat) : Int := wrap64 (beN xs i n)
theorem beN_tkB (xs : List Int) (i n : Nat) : ∀ k, k ≤ n → beN (tkB xs i n) 0 k = beN xs i k
  | 0, _ => rfl
  | k + 1, h => by
    have ih := beN_tkB xs i n k (by omega)
    show beN (tkB xs i n) 0 k * 256 + (tkB xs i n).getD (0 + k) 0 = beN xs i k * 256 + xs.getD (i + k) 0
    rw [ih, Nat.zero_add, tkB_get _ _ _ _ (by omega)]
set_option maxRecDepth 100000 in
set_option maxHeartbeats 2000000 in
theorem l13Number_any (w : World) (p g : Nat) (a : Option Addr) (c : Nat) (xs : List Int) (i n : Nat) (hC : Cur w p (.slice a xs.length c) i) (hr : Rd w g a .u8 xs) (hb : Byt xs) (hi : i ≤ 4194304) (hn : n ≤ 8) (hl : xs.length ≤ 4194304) :
    Calls Try.prog 50 #[.pointer (some ⟨p, 0, none⟩), .int .i64 (n : Int)] w fun e w' => e = .returned (.int .i64 (nmV xs i n)) ∧ Cur w' p (.slice a xs.length c) ((i + n : Nat) : Int) ∧ NewI p w w' := by
  have TK := hide (l13Take_any w p g a c xs i n hC hr hi (by omega) hl)
  have pl := hC.lt
  clear hC hr
  go_enter Try.func50, Try.ntmps50
  go_wp2_with fail
  refine TK.out.mono ?_
  rintro e w1 ⟨rfl, B, C, N⟩
  clear TK
  go_wp2
  go_loopw [5, 7] (fun v j wr => ∃ k : Nat, k ≤ n ∧ v = .int .i64 (nmV xs i k) ∧ j = .int .i64 (k : Int) ∧ wr = w1) (fun _ j _ => n - (intOf j).toNat)
  case atStart => exact ⟨0, Nat.zero_le _, by rw [show nmV xs i 0 = 0 by unfold nmV wrap64 beN; decide], rfl, rfl⟩
  case round =>
    obtain ⟨k, hk, rfl, rfl, rfl⟩ := hrel
    by_cases hlt : k < n
    · have k0 : (k : Int) < (n : Int) := by omega
      have kl : k < (tkB xs i n).length := by rw [tkB_len]; exact hlt
      have hc := B.cell kl
      rw [tkB_get _ _ _ _ hlt] at hc
      have bx := hb (i + k)
      have x0 := bx.1
      have x1 := bx.2
      have e : Hid (nmV xs i (k + 1) = wrap64 (wrap64 (nmV xs i k * 256) + xs.getD (i + k) 0)) := by
        show nmV xs i (k + 1) = _
        unfold nmV wrap64
        simp only [beN]
        omega
      clear bx
      generalize xs.getD (i + k) 0 = x at *
      generalize nmV xs i k = m at *
      go_wp2
      go_roundw
      case rel => exact ⟨k + 1, by omega, by rw [e.out], by go_num, trivial⟩
      case measure => simp [intOf]; omega
    · obtain rfl : k = n := by omega
      go_wp2
      go_ret
      exact ⟨rfl, C, N⟩
theorem nmV_small {xs : List Int} (hb : Byt xs) (i n : Nat) (hn : n ≤ 7) : nmV xs i n = beN xs i n := by
  have r := beN_rng hb i n
  have r1 : beN xs i n < 72057594037927936 := by
    rcases (by omega : n = 0 ∨ n = 1 ∨ n = 2 ∨ n = 3 ∨ n = 4 ∨ n = 5 ∨ n = 6 ∨ n = 7) with rfl | rfl | rfl | rfl | rfl | rfl | rfl | rfl
    all_goals (have := r.2; simp at this; omega)
  unfold nmV wrap64
  omega
end Go.Proofs.Ytcljoaknaegpmaa

/-
  What is drawn: the source, its answers, bytes; the laws' own small helpers (Dr without the field's texts).
-/
namespace Go.Proofs.Ytcljoaknaegpmaa
open Go.RowKit

/-- Of what was there nothing but block g has turned. -/
structure But (g : Nat) (w w' : World) : Prop where
  os : w'.os = w.os
  tape : w'.tape = w.tape
  output : w'.output = w.output
  size : w.heap.size ≤ w'.heap.size
  block : ∀ k, k < w.heap.size → k ≠ g → w'.heap[k]? = w.heap[k]?

theorem But.of {g : Nat} {a b c : World} (h : Below a.heap.size a b) (k : Only g b c) : But g a c :=
  ⟨k.os.trans h.os, k.tape.trans h.tape, k.output.trans h.output, by rw [k.size]; exact h.size, fun i hi hne => (k.block i hne).trans (h.block i hi)⟩

theorem But.below {g B : Nat} {w w' : World} (h : But g w w') (hB : B ≤ g) (hs : B ≤ w.heap.size) : Below B w w' := ⟨h.os, h.tape, h.output, h.size, fun k hk => h.block k (by omega) (by omega)⟩

theorem Own.but {w w' : World} {g g' : Nat} {a : Option Addr} {k : IntKind} {xs : List Int} (h : Own w g a k xs) (ho : But g' w w') (hne : 0 < xs.length → g ≠ g') : Own w' g a k xs := by
  by_cases h0 : 0 < xs.length
  · exact h.of_block (ho.block g (h.rd.lt h0) (hne h0))
  · exact fun h1 => absurd h1 h0

/-- The text of bytes. -/
def str (xs : List Int) : ByteArray := xs.foldl (fun r n => r.push (UInt8.ofNat n.toNat)) ByteArray.empty

theorem conv_run (w : World) (g : Nat) (a : Option Addr) (c : Nat) (xs : List Int) (hr : Rd w g a .u8 xs) : (convert 22 9 (.slice a xs.length c)).run Try.prog w = .ok (.string (str xs)) w := by
  rw [run_convert_bytes_string w 22 9 5 a xs.length c Try.underlying22 Try.underlying5 Try.underlying9]
  cases a with
  | none =>
    obtain rfl : xs = [] := by
      by_cases h0 : 0 < xs.length
      · obtain ⟨off, h, _⟩ := hr h0
        simp at h
      · exact List.eq_nil_of_length_eq_zero (by omega)
    simp [Conv.bytesToString, str]
  | some ad =>
    have hl := run_loadCells_list (P := Try.prog) w ad (xs.map (Value.int .u8)) (fun j v hj => by
      have hjl : j < xs.length := by
        have := (List.getElem?_eq_some_iff.1 hj).1
        simpa using this
      obtain ⟨off, ha, hcc⟩ := hr (by omega)
      simp only [Option.some.injEq] at ha
      subst ha
      rw [add_mid, hcc j hjl]
      simpa [hjl] using hj)
    rw [List.length_map] at hl
    exact run_bytesToString w ad xs.length c xs hl

/-- The source of what is drawn: its code, and how often it was asked. -/
structure Src (w : World) (s : Nat) (a : Option Addr) (n c : Nat) (at_ : Int) : Prop where
  code : w.cell? ⟨s, 0, none⟩ = some (.slice a n c)
  at_ : w.cell? ⟨s, 1, none⟩ = some (.int .i64 at_)
  free : w.frozen? ⟨s, 1, none⟩ = false

theorem Src.lt {w : World} {s : Nat} {a : Option Addr} {n c : Nat} {t : Int} (h : Src w s a n c t) : s < w.heap.size := block_lt_of_cell h.code

theorem Src.of_block {w w' : World} {s : Nat} {a : Option Addr} {n c : Nat} {t : Int} (h : Src w s a n c t) (hb : w'.heap[s]? = w.heap[s]?) : Src w' s a n c t :=
  ⟨(World.cell?_of_block (a := ⟨s, 0, none⟩) hb).trans h.code, (World.cell?_of_block (a := ⟨s, 1, none⟩) hb).trans h.at_, (World.frozen?_of_block (a := ⟨s, 1, none⟩) hb).trans h.free⟩

theorem Src.up {w w' : World} {s : Nat} {a : Option Addr} {n c : Nat} {t : Int} (h : Src w s a n c t) (hb : Below w.heap.size w w') : Src w' s a n c t := h.of_block (hb.block s h.lt)

theorem Src.step {w : World} {s : Nat} {a : Option Addr} {n c : Nat} {t : Int} (h : Src w s a n c t) (u : Int) (m : Nat) : Src ((w.setCell ⟨s, 1, none⟩ (.int .i64 u)).drewN m) s a n c u := by
  refine ⟨?_, ?_, ?_⟩
  · rw [World.cell?_drewN, World.cell?_setCell_other (h := by simp)]; exact h.code
  · rw [World.cell?_drewN, World.cell?_setCell_same _ _ _ h.at_]
  · rw [World.frozen?_drewN, World.frozen?_setCell]; exact h.free

theorem Only.step (w : World) (s : Nat) (u : Value) (m : Nat) : Only s w ((w.setCell ⟨s, 1, none⟩ u).drewN m) := (Only.setCell w s 1 u).trans (Only.drewN _ _ _)

theorem But.refl (g : Nat) (w : World) : But g w w := ⟨rfl, rfl, rfl, Nat.le_refl _, fun _ _ _ => rfl⟩

theorem But.only {g : Nat} {a b c : World} (h : But g a b) (k : Only g b c) : But g a c :=
  ⟨k.os.trans h.os, k.tape.trans h.tape, k.output.trans h.output, by rw [k.size]; exact h.size, fun i hi hne => (k.block i hne).trans (h.block i hi hne)⟩

theorem But.grown {g : Nat} {a b c : World} {row : Option Nat} (h : But g a b) (k : b.grownBy c row) (hr : ∀ i, row = some i → a.heap.size ≤ i) : But g a c :=
  ⟨k.os.trans h.os, k.tape.trans h.tape, k.output.trans h.output, Nat.le_trans h.size k.size, fun i hi hne => (k.block i (Nat.lt_of_lt_of_le hi h.size) (fun e => by have := hr i e.symm; omega)).trans (h.block i hi hne)⟩

theorem But.trans {g : Nat} {a b c : World} (h : But g a b) (k : But g b c) : But g a c :=
  ⟨k.os.trans h.os, k.tape.trans h.tape, k.output.trans h.output, Nat.le_trans h.size k.size, fun i hi hne => (k.block i (Nat.lt_of_lt_of_le hi h.size) hne).trans (h.block i hi hne)⟩

theorem But.ofBelow {g : Nat} {a b : World} (h : Below a.heap.size a b) : But g a b := ⟨h.os, h.tape, h.output, h.size, fun i hi _ => h.block i hi⟩

theorem But.ofOnly {g : Nat} {a b : World} (h : Only g a b) : But g a b := (But.refl g a).only h

theorem Rd.but {w w' : World} {g g' : Nat} {a : Option Addr} {k : IntKind} {xs : List Int} (h : Rd w g a k xs) (ho : But g' w w') (hne : 0 < xs.length → g ≠ g') : Rd w' g a k xs := by
  by_cases h0 : 0 < xs.length
  · exact h.of_block (ho.block g (h.lt h0) (hne h0))
  · exact fun h1 => absurd h1 h0

theorem Only.grown {g : Nat} {a b : World} (h : Only g a b) : a.grownBy b (some g) := ⟨h.os, h.tape, h.output, Nat.le_of_eq h.size.symm, fun k _ hne => h.block k (fun e => hne (by rw [e]))⟩

theorem byt_snoc {ys : List Int} (h : Byt ys) (x : Int) (h0 : 0 ≤ x) (h1 : x < 256) : Byt (ys ++ [x]) := by
  intro i
  by_cases hi : i < ys.length
  · have := h i
    simpa [List.getElem?_append, hi] using this
  · by_cases e : i = ys.length
    · subst e; simp; exact ⟨h0, h1⟩
    · rw [List.getD_eq_getElem?_getD, List.getElem?_eq_none (by simp; omega)]
      decide

theorem But.setCell {g b off : Nat} {a w : World} {u : Value} (h : But g a w) (hb : a.heap.size ≤ b) : But g a (w.setCell ⟨b, off, none⟩ u) :=
  ⟨h.os, h.tape, h.output, by simpa [World.setCell] using h.size, fun k hk hne => (heap_setCell_other w ⟨b, off, none⟩ k u (by show k ≠ b; omega)).trans (h.block k hk hne)⟩

/-- A row that the call made: where it lies, and that it may be read again. -/
def Row (w : World) (g : Nat) (a : Option Addr) (c : Nat) (xs : List Int) : Prop := Own w g a .u8 xs ∧ (a = none → c = 0) ∧ xs.length ≤ c

end Go.Proofs.Ytcljoaknaegpmaa

/-
  Texts held against each other: cut out of DrS and Sa16.
-/
namespace Go.Proofs.Ytcljoaknaegpmaa
open Go.RowKit

theorem str_data : ∀ (xs : List Int) (acc : ByteArray), (xs.foldl (fun r n => r.push (UInt8.ofNat n.toNat)) acc).data = acc.data ++ (xs.map (fun n => UInt8.ofNat n.toNat)).toArray
  | [], acc => by simp
  | x :: r, acc => by
    rw [List.foldl_cons, str_data r]
    simp [ByteArray.push]

theorem toList_inj {s t : ByteArray} (h : s.toList = t.toList) : s = t := by
  rw [ByteArray.toList_eq, ByteArray.toList_eq] at h
  have := Array.ext' h
  cases s; cases t; simp_all

theorem str_inj {xs ys : List Int} (hx : Byt xs) (hy : Byt ys) (h : str xs = str ys) : xs = ys := by
  have h1 : (xs.map (fun n => UInt8.ofNat n.toNat)) = (ys.map (fun n => UInt8.ofNat n.toNat)) := by
    have := congrArg ByteArray.data h
    unfold str at this
    rw [str_data, str_data] at this
    simpa using this
  have hl : xs.length = ys.length := by have := congrArg List.length h1; simpa using this
  refine eq_of_getD hl (fun i hi => ?_)
  have h2 : (xs.map (fun n => UInt8.ofNat n.toNat))[i]? = (ys.map (fun n => UInt8.ofNat n.toNat))[i]? := by rw [h1]
  have a := hx i
  have b := hy i
  have hi' : i < ys.length := by omega
  simp [hi, hi'] at h2 a b ⊢
  have h3 := congrArg UInt8.toNat h2
  simp at h3
  omega

set_option maxHeartbeats 400000 in
theorem l1Same_same (w : World) (g g' : Nat) (a b : Option Addr) (ca cb : Nat) (xs : List Int) (ha : Rd w g a .u8 xs) (hb : Rd w g' b .u8 xs) :
    Calls Try.prog 48 #[.slice a xs.length ca, .slice b xs.length cb] w fun e w' => e = .returned (.bool true) ∧ w' = w := by
  have h1 := conv_run w g a ca xs ha
  have h2 := conv_run w g' b cb xs hb
  generalize str xs = s at *
  go_enter Try.func48, Try.ntmps48
  go_wp2
  go_ret
  exact ⟨by simp, rfl⟩

set_option maxHeartbeats 1000000 in
theorem l1Same_diff (w : World) (g g' : Nat) (a b : Option Addr) (ca cb : Nat) (xs ys : List Int) (ha : Rd w g a .u8 xs) (hb : Rd w g' b .u8 ys) (hx : Byt xs) (hy : Byt ys) (hne : xs ≠ ys) :
    Calls Try.prog 48 #[.slice a xs.length ca, .slice b ys.length cb] w fun e w' => e = .returned (.bool false) ∧ w' = w := by
  have h1 := conv_run w g a ca xs ha
  have h2 := conv_run w g' b cb ys hb
  have h3 : str xs ≠ str ys := fun h => hne (str_inj hx hy h)
  clear hne
  generalize str xs = s at *
  generalize str ys = t at *
  have H3 := hide h3
  clear h3
  go_enter Try.func48, Try.ntmps48
  go_wp2
  go_ret
  have e : (s.toList == t.toList) = false := by
    cases h : (s.toList == t.toList)
    · rfl
    · exact absurd (toList_inj (beq_iff_eq.1 h)) H3.out
  exact ⟨by rw [← e]; rfl, rfl⟩

theorem l1Same_any (w : World) (g g' : Nat) (a b : Option Addr) (ca cb : Nat) (xs ys : List Int) (ha : Rd w g a .u8 xs) (hb : Rd w g' b .u8 ys) (hx : Byt xs) (hy : Byt ys) :
    Calls Try.prog 48 #[.slice a xs.length ca, .slice b ys.length cb] w fun e w' => e = .returned (.bool (decide (xs = ys))) ∧ w' = w := by
  by_cases h : xs = ys
  · subst h
    simpa using l1Same_same w g g' a b ca cb xs ha hb
  · have := l1Same_diff w g g' a b ca cb xs ys ha hb hx hy h
    simpa [h] using this

end Go.Proofs.Ytcljoaknaegpmaa

/-
  A ticket's state out of bytes: no Go.
-/
namespace Go.Proofs.Ytcljoaknaegpmaa
open Go Go.RowKit

/-- Bytes as a text. -/
def txB (xs : List Int) : List UInt8 := xs.map fun n => UInt8.ofNat n.toNat
theorem txB_len (xs : List Int) : (txB xs).length = xs.length := by simp [txB]
theorem str_is (xs : List Int) : str xs = ⟨⟨txB xs⟩⟩ := by
  have h := str_data xs ByteArray.empty
  have e : (str xs).data = ⟨txB xs⟩ := by
    unfold str
    rw [h]
    show (#[] : Array UInt8) ++ (txB xs).toArray = _
    simp
  calc str xs = ⟨(str xs).data⟩ := rfl
    _ = _ := by rw [e]
theorem txL_txB {xs : List Int} (h : Byt xs) : txL (txB xs) = xs := by
  unfold txL txB
  rw [List.map_map]
  have : ∀ x ∈ xs, ((fun b : UInt8 => (b.toNat : Int)) ∘ fun n : Int => UInt8.ofNat n.toNat) x = x := fun x hx => by
    obtain ⟨i, hi, e⟩ := List.getElem_of_mem hx
    have b := h i
    rw [List.getD_eq_getElem?_getD, List.getElem?_eq_getElem hi, e] at b
    simp at b
    simp
    omega
  exact (List.map_congr_left this).trans (List.map_id _)
theorem tkB_take (xs : List Int) (i n : Nat) (h : i + n ≤ xs.length) : (xs.drop i).take n = tkB xs i n := by
  apply eq_of_getD
  · rw [List.length_take, List.length_drop, tkB_len]; omega
  · intro k hk
    rw [List.length_take, List.length_drop] at hk
    rw [tkB_get _ _ _ _ (by omega), List.getD_eq_getElem?_getD, List.getElem?_take, if_pos (by omega), List.getElem?_drop, ← List.getD_eq_getElem?_getD]
/-- What is read: the two texts' sizes, and all of it. -/
def dn1 (b : List Int) : Nat := (beN b 80 1).toNat
def dn2 (b : List Int) : Nat := (beN b (81 + dn1 b) 1).toNat
def dX (b : List Int) : List Int := tkB b 0 32
def dY (b : List Int) : List Int := tkB b 32 32
def dM (b : List Int) : Int := nmV b 64 8
def dL (b : List Int) : Int := nmV b 72 4
def dE (b : List Int) : Int := nmV b 76 4
def dH (b : List Int) : List UInt8 := txB (tkB b 81 (dn1 b))
def dP (b : List Int) : List UInt8 := txB (tkB b (82 + dn1 b) (dn2 b))
theorem dn1_is {b : List Int} (h : Byt b) : (dn1 b : Int) = beN b 80 1 ∧ dn1 b ≤ 255 := by
  have r := beN_rng h 80 1
  have r1 : beN b 80 1 < 256 := by have := r.2; simpa using this
  unfold dn1
  omega
theorem dn2_is {b : List Int} (h : Byt b) : (dn2 b : Int) = beN b (81 + dn1 b) 1 ∧ dn2 b ≤ 255 := by
  have r := beN_rng h (81 + dn1 b) 1
  have r1 : beN b (81 + dn1 b) 1 < 256 := by have := r.2; simpa using this
  unfold dn2
  omega
theorem dH_len (b : List Int) : (dH b).length = dn1 b := by unfold dH; rw [txB_len, tkB_len]
theorem dP_len (b : List Int) : (dP b).length = dn2 b := by unfold dP; rw [txB_len, tkB_len]
theorem dX_len (b : List Int) : (dX b).length = 32 := tkB_len _ _ _
theorem dY_len (b : List Int) : (dY b).length = 32 := tkB_len _ _ _
/-- Are these the bytes of a state? -/
def dsB (b : List Int) : Bool := decide (sfV (dX b).length (dY b).length (dM b) (dL b) (dH b) (dP b).length (dE b) = 0) && decide (esA (dX b) (dY b) (dM b) (dL b) (dH b) (dP b) (dE b) = b)
theorem dsB_len {b : List Int} (h : dsB b = true) : 82 + dn1 b + dn2 b = b.length := by
  unfold dsB at h
  simp only [Bool.and_eq_true, decide_eq_true_eq] at h
  obtain ⟨h0, h1⟩ := h
  unfold esA at h1
  rw [if_pos h0] at h1
  have := congrArg List.length h1
  rw [esL_len, dH_len, dP_len, dX_len, dY_len] at this
  omega
/-- Where the bytes do not lack, the form alone decides. -/
theorem dsB_form {b : List Int} (h : 82 + dn1 b + dn2 b ≤ b.length) : dsB b = decide (esA (dX b) (dY b) (dM b) (dL b) (dH b) (dP b) (dE b) = b) := by
  unfold dsB
  by_cases h0 : sfV (dX b).length (dY b).length (dM b) (dL b) (dH b) (dP b).length (dE b) = 0
  · simp [h0]
  · have e : esA (dX b) (dY b) (dM b) (dL b) (dH b) (dP b) (dE b) = [] := by unfold esA; rw [if_neg h0]
    rw [e]
    have : ¬ ([] : List Int) = b := fun q => by rw [← q] at h; simp at h
    simp [h0, this]
theorem dsB_short {b : List Int} (h : ¬ 82 + dn1 b + dn2 b ≤ b.length) : dsB b = false := by
  cases e : dsB b
  · rfl
  · exact absurd (dsB_len e) (by omega)
end Go.Proofs.Ytcljoaknaegpmaa

/-
  The model's l1Big and l1Copy as owned rows.
-/
namespace Go.Proofs.Ytcljoaknaegpmaa
open Go Go.RowKit

def TyB (w : World) (g : Nat) : Prop := ∃ cur, w.heap[g]? = some (.cells cur 5 (0, 0))
theorem TyB.of_made {w : World} {base g n : Nat} {xs : List Value} (h : w.ownsRow base 5 1 (.slice (some ⟨g, 0, none⟩) n n) n xs) : TyB w g := by
  rcases h.2 with ⟨h', _⟩ | ⟨g', cap', cur, h', _, hg, _⟩
  · simp at h'
  · simp only [Value.slice.injEq, Option.some.injEq, Addr.mk.injEq, and_true, true_and] at h'
    obtain ⟨rfl, rfl⟩ := h'
    exact ⟨cur, hg⟩
theorem TyB.set {w : World} {g : Nat} (h : TyB w g) (i : Nat) (v : Value) : TyB (w.setCell ⟨g, i, none⟩ v) g := by
  obtain ⟨cur, h⟩ := h
  exact ⟨_, heap_setCell_same w g i _ 5 _ h⟩
theorem RowB.of_tyb {w : World} {g B : Nat} {ys : List Int} (h : Blk w g .u8 ys) (t : TyB w g) (hB : B ≤ g) (hl : ys.length ≤ 1048576) : RowB w B (.slice (some ⟨g, 0, none⟩) ys.length ys.length) ys := by
  obtain ⟨e, h⟩ := h
  obtain ⟨cur, t⟩ := t
  rw [t] at h
  simp only [Option.some.injEq, Obj.cells.injEq, and_true] at h
  obtain ⟨rfl, rfl⟩ := h
  refine ⟨by simp, .inr ⟨g, ys.length, _, rfl, hB, t, Nat.le_refl _, by unfold maxLen; omega, by simp, ?_⟩⟩
  show List.take (ys.length * 1) (List.map (Value.int .u8) ys) = _
  exact List.take_of_length_le (by simp)
set_option maxHeartbeats 1000000 in
theorem l1BigB_any (w : World) (v : Int) (t : Nat) (h0 : 0 ≤ v) (h1 : v < 9223372036854775808) (ht : t ≤ 1048576) :
    Calls Try.prog 38 #[.int .i64 v, .int .i64 (t : Int)] w fun e w' => e = .returned (.slice (some ⟨w.heap.size, 0, none⟩) t t) ∧ RowB w' w.heap.size (.slice (some ⟨w.heap.size, 0, none⟩) t t) (bigL v t) ∧ Below w.heap.size w w' := by
  obtain ⟨i0, hi, hz0, hz1, hz2⟩ := info_parts Try.info5
  go_enter Try.func38, Try.ntmps38
  go_wp2_with (at_make; refine wpList_make_full _ rfl _ _ 22 rfl w.heap.size 5 i0 (.int .u8 0) 1 Try.underlying22 hi hz0 hz1 .i64 .i64 _ _ t rfl rfl rfl rfl (by rw [hz2]; omega) (by unfold maxLen; omega) (Nat.le_refl _) ?_; intro w1 hown hgrow)
  have hB0 := Blk.of_made hown
  have T0 := TyB.of_made hown
  have hN0 : Below w.heap.size w w1 := (Below.refl _ _).grown hgrow (Nat.le_refl _) (by simp)
  clear hown hgrow
  go_loopw [0, 6] (fun q i wr => ∃ (k : Nat) (u j : Int) (ys : List Int), k ≤ t ∧ q = .int .i64 u ∧ i = .int .i64 j ∧ j + (k : Int) + 1 = (t : Int) ∧ 0 ≤ u ∧ u < 9223372036854775808 ∧ Hid (u = v / 256 ^ k) ∧ BigTo v t ys k ∧ Blk wr w.heap.size .u8 ys ∧ TyB wr w.heap.size ∧ Below w.heap.size w wr) (fun _ i _ => (intOf i + 1).toNat)
  case atStart => exact ⟨0, v, (t : Int) - 1, _, Nat.zero_le _, rfl, by go_num, by omega, h0, h1, by show _ = _; simp, BigTo.zero v t, hB0, T0, hN0⟩
  case round =>
    obtain ⟨k, u, j, ys, hk, rfl, rfl, hj, u0, u1, hu, hT, hB, hTy, hN⟩ := hrel
    by_cases hlt : 0 ≤ j
    · obtain ⟨p, rfl⟩ := Int.eq_ofNat_of_zero_le hlt
      have R := hT.step (by omega)
      rw [show t - 1 - k = p by omega, ← hu.out] at R
      have hl : p < ys.length := by rw [hT.1]; omega
      have hcy := hB.cell hl
      have hfy := hB.free p
      have hB' := hB.store p (u % 256)
      have hTy' := hTy.set p (.int .u8 (u % 256))
      have hN' : Below w.heap.size w (wr.setCell ⟨w.heap.size, p, none⟩ (.int .u8 (u % 256))) := hN.setCell (Nat.le_refl _) _
      have hu' : Hid (u / 256 = v / 256 ^ (k + 1)) := by show _ = _; rw [hu.out, div256]
      have p1 : (p : Int) < (t : Int) := by omega
      have HJ := hide hj
      clear hB hN hu hT hj
      go_wp2
      go_roundw
      case rel => exact ⟨k + 1, u / 256, (p : Int) - 1, _, by have := HJ.out; omega, by go_num, by go_num, by have := HJ.out; omega, by omega, by omega, hu', R, hB', hTy', hN'⟩
      case measure => simp [intOf]
    · obtain rfl : k = t := by omega
      have K := hide hT.all
      obtain rfl : j = -1 := by omega
      clear hj hu hT
      go_wp2
      go_ret
      have RB := RowB.of_tyb (B := w.heap.size) hB hTy (Nat.le_refl _) (by rw [K.out, bigL_len]; exact ht)
      rw [K.out, bigL_len] at RB
      exact ⟨rfl, RB, hN⟩
set_option maxHeartbeats 1000000 in
theorem l1CopyN_any (w : World) (g : Nat) (a : Option Addr) (c : Nat) (xs : List Int) (hr : Rd w g a .u8 xs) (hc : a = none → c = 0) (hn : xs.length ≤ 1099511627776) :
    Calls Try.prog 22 #[.slice a xs.length c] w fun e w' => ∃ v, e = .returned v ∧ RowB w' w.heap.size v xs ∧ Below w.heap.size w w' := by
  obtain ⟨i0, hi, hz0, hz1, hz2⟩ := info_parts Try.info5
  have hal : Below w.heap.size w (w.alloc (.cells #[] 5)) := (Below.refl _ _).alloc (Nat.le_refl _) _
  obtain ⟨v', w2, hap, o2, n2⟩ := append_any (P := Try.prog) (w.alloc (.cells #[] 5)) 22 i0 Try.underlying22 hi hz0 hz1 hz2 w.heap.size w.heap.size _ [] (RowB.lit0 w) g a c xs (hr.up hal) hc (by simp; omega) (Nat.le_refl _) (by simp)
  rw [List.nil_append] at o2
  go_enter Try.func22, Try.ntmps22
  go_wp2_with (at_builtin; refine Lib.wpList_append_run _ rfl _ _ 22 22 rfl _ _ rfl rfl _ _ hap ?_)
  go_ret
  exact ⟨_, rfl, o2, hal.trans n2⟩
end Go.Proofs.Ytcljoaknaegpmaa

/-
  A text turned into bytes; a short list: its length is one byte; the model's.
-/
namespace Go.Proofs.Ytcljoaknaegpmaa
open Go Go.RowKit

set_option maxRecDepth 100000 in
theorem convT (w : World) (l : List UInt8) : ∃ (c : Nat) (w' : World), (convert 9 22 (.string ⟨⟨l⟩⟩)).run Try.prog w = .ok (.slice (some ⟨w.heap.size, 0, none⟩) l.length c) w' ∧ Rd w' w.heap.size (some ⟨w.heap.size, 0, none⟩) .u8 (txL l) ∧ l.length ≤ c ∧ Below w.heap.size w w' := by
  refine ⟨_, _, Lib.run_convert_string_bytes w 9 22 5 ⟨⟨l⟩⟩ Try.underlying9 Try.underlying22 Try.underlying5, fun _ => ⟨0, rfl, fun i hi => ?_⟩, grownCap_ge w _ 0 5, ⟨rfl, rfl, rfl, by rw [Lib.bytesWorld_size]; omega, fun b hb => Lib.bytesWorld_at_old w 5 _ b hb⟩⟩
  rw [txL_len] at hi
  rw [Nat.zero_add, Lib.bytesWorld_cell w 5 ⟨⟨l⟩⟩ i hi]
  unfold txL
  rw [List.getD_eq_getElem?_getD, List.getD_eq_getElem?_getD, List.getElem?_map]
  have h : l[i]? = some l[i] := List.getElem?_eq_getElem hi
  rw [h]
  simp
theorem wpList_convT {P : Program} (w : World) {ops : Array Oper} {rest : List Oper} {o : Oper} {a : Act} {Q : Exit → Act → World → Prop} (hgd : o.guard = none) (src dst : TypeId) (x : Operand) (ho : o.op = .convert src dst x) (v : Value) (hx : a.eval x = v)
    (v' : Value) (w' : World) (hr : (convert src dst v).run P w = .ok v' w') (h : wpList P ops Q rest (a.put o.dst v') w') : wpList P ops Q (o :: rest) a w :=
  wpList_plain hgd fun _ hK => by
    unfold Oper.wp execOp
    simp only [ho, hx]
    rw [Sem.run_bind, hr]
    exact hK _ _ h
theorem shL_is (l : List UInt8) (h : l.length ≤ 255) : shL l = ((l.length : Int) :: txL l) := by
  unfold shL bigL
  simp [List.range_succ]
  omega
set_option maxRecDepth 100000 in
set_option maxHeartbeats 1000000 in
/-- A short list: its length is one byte. -/
theorem l13ShortR_any (w : World) (g : Nat) (a : Option Addr) (c : Nat) (xs : List Int) (h : Rd w g a .u8 xs) (hz : a = none → c = 0) (hl : xs.length ≤ 255) :
    Calls Try.prog 39 #[.slice a xs.length c] w fun e w' => ∃ v, e = .returned v ∧ RowB w' w.heap.size v ((xs.length : Int) :: xs) ∧ Below w.heap.size w w' := by
  obtain ⟨i0, hi, hz0, hz1, hz2⟩ := info_parts Try.info5
  have n0 : Below w.heap.size w (w.alloc (.cells #[.int .u8 (xs.length : Int)] 5)) := (Below.refl _ _).alloc (Nat.le_refl _) _
  obtain ⟨v1, w1, hap, R1, n1⟩ := append_any (P := Try.prog) (w.alloc (.cells #[.int .u8 (xs.length : Int)] 5)) 22 i0 Try.underlying22 hi hz0 hz1 hz2 w.heap.size w.heap.size _ _ (RowB.lit1 w (xs.length : Int)) g a c xs (h.up n0) hz (by simp; omega) (Nat.le_refl _) n0.size
  have N1 := n0.trans n1
  rw [List.cons_append, List.nil_append] at R1
  clear n0 n1 h
  go_enter Try.func39, Try.ntmps39
  go_wp2_with (at_builtin; refine Lib.wpList_append_run _ rfl _ _ 22 22 rfl _ _ rfl rfl _ _ hap ?_)
  go_ret
  exact ⟨_, rfl, R1, N1⟩
end Go.Proofs.Ytcljoaknaegpmaa

/-
  A ticket's state as bytes; the model's.
-/
namespace Go.Proofs.Ytcljoaknaegpmaa
open Go Go.RowKit

theorem step_append_exS {P : Program} {ops : Array Oper} {o : Oper} {a : Act} {w : World} {K : Act → World → Prop} {Q : Exit → Act → World → Prop} {E : Prop} (hg : o.guard = none) (s x : Operand) (t tn : TypeId)
    (ho : o.op = .call { callee := .builtin .append, args := #[s, x], argTypes := #[t, tn] }) (vs vx : Value) (hs : a.eval s = vs) (hx : a.eval x = vx) (R : Value → World → Prop)
    (H : ∃ v' w', (Builtin.append_ #[t, tn] o.type #[vs, vx]).run P w = .ok v' w' ∧ R v' w') (hK : ∀ v' w', R v' w' → K (a.put o.dst v') w') :
    if Region.wanted o (yielded ops a.tmps) = true then Oper.wp P o a w K Q else E := by
  have hw : Region.wanted o (yielded ops a.tmps) = true := by simp [Region.wanted, hg]
  rw [if_pos hw]
  obtain ⟨v', w', hr, hR⟩ := H
  exact Lib.wp_append_run w s x t tn ho vs vx hs hx v' w' hr (hK v' w' hR)
set_option maxRecDepth 100000 in
set_option maxHeartbeats 8000000 in
theorem specEnS_any (w : World) (md li : Int) (ho pr : List UInt8) (ea : Int) (g : Nat) (a : Option Addr) (c : Nat) (X : List Int) (hr : Rd w g a .u8 X) (hz : a = none → c = 0) (g' : Nat) (a' : Option Addr) (c' : Nat) (Y : List Int) (hr' : Rd w g' a' .u8 Y) (hz' : a' = none → c' = 0) (hh : ho.length ≤ 1048576) (hp : pr.length ≤ 1048576) :
    Calls Try.prog 24 #[.agg #[.slice a X.length c, .slice a' Y.length c', .int .i64 md, .int .i64 li, .string ⟨⟨ho⟩⟩, .string ⟨⟨pr⟩⟩, .int .i64 ea]] w fun e w' => ∃ v, e = .returned v ∧ RowB w' w.heap.size v (esA X Y md li ho pr ea) ∧ Below w.heap.size w w' := by
  obtain ⟨i0, hi, hz0, hz1, hz2⟩ := info_parts Try.info5
  have n1 : Below w.heap.size w (w.alloc (.cells #[.slice a X.length c, .slice a' Y.length c', .int .i64 md, .int .i64 li, .string ⟨⟨ho⟩⟩, .string ⟨⟨pr⟩⟩, .int .i64 ea] 28)) := (Below.refl _ _).alloc (Nat.le_refl _) _
  have P0 : RwC (w.alloc (.cells #[.slice a X.length c, .slice a' Y.length c', .int .i64 md, .int .i64 li, .string ⟨⟨ho⟩⟩, .string ⟨⟨pr⟩⟩, .int .i64 ea] 28)) w.heap.size [.slice a X.length c, .slice a' Y.length c', .int .i64 md, .int .i64 li, .string ⟨⟨ho⟩⟩, .string ⟨⟨pr⟩⟩, .int .i64 ea] 28 := RwC.new w _ _
  have SF := fun W => hide (specState_any W md li ho pr ea a X.length c a' Y.length c' hh hp)
  by_cases h0 : sfV X.length Y.length md li ho pr.length ea = 0
  · have e1 : Hid (esA X Y md li ho pr ea = esL X Y md li ho pr ea) := by show _ = _; unfold esA; rw [if_pos h0]
    have LS := hide (sf0 h0)
    rw [h0] at SF
    have N := n1
    have lq : w.heap.size < (w.alloc (.cells #[.slice a X.length c, .slice a' Y.length c', .int .i64 md, .int .i64 li, .string ⟨⟨ho⟩⟩, .string ⟨⟨pr⟩⟩, .int .i64 ea] 28)).heap.size := by simp
    rw [e1.out]
    clear e1 h0 hh hp
    go_enter Try.func24, Try.ntmps24
    go_wp2_with fail
    generalize w.alloc (.cells #[.slice a X.length c, .slice a' Y.length c', .int .i64 md, .int .i64 li, .string ⟨⟨ho⟩⟩, .string ⟨⟨pr⟩⟩, .int .i64 ea] 28) = wa at *
    refine (SF _).out.mono ?_
    rintro e w1 ⟨rfl, m1⟩
    replace N := nxt N m1
    replace P0 := P0.up m1
    replace lq := Nat.lt_of_lt_of_le lq m1.size
    clear SF n1 m1
    go_upto_region 3 with fail
    have CP : Hid (∀ W, Below w1.heap.size w1 W → Calls Try.prog 22 #[.slice a X.length c] W fun e w' => ∃ v, e = .returned v ∧ RowB w' w1.heap.size v X ∧ Below w1.heap.size w1 w') := fun W m => (l1CopyN_any W g a c X ((hr.up N).up m) hz (by have := LS.out; omega)).mono (by
      rintro e w' ⟨v, rfl, R, n⟩
      exact ⟨v, rfl, R.base m.size, nxt m n⟩)
    have AP : Hid (∀ W v, Below w1.heap.size w1 W → RowB W w1.heap.size v X → ∃ v' w', (Builtin.append_ #[22, 22] 22 #[v, .slice a' Y.length c']).run Try.prog W = .ok v' w' ∧ RowB w' w1.heap.size v' (X ++ Y) ∧ Below w1.heap.size w1 w') := fun W v m R => by
      obtain ⟨v', w', h1, h2, h3⟩ := append_any (P := Try.prog) W 22 i0 Try.underlying22 hi hz0 hz1 hz2 w1.heap.size w1.heap.size v X R g' a' c' Y ((hr'.up N).up m) hz' (by have := LS.out; omega) (Nat.le_refl _) m.size
      exact ⟨v', w', h1, h2, m.trans h3⟩
    have CY : Hid (∀ W, Below w1.heap.size w1 W → (W.cell? ⟨w.heap.size, 0, none⟩ = some (.slice a X.length c) ∧ W.cell? ⟨w.heap.size, 1, none⟩ = some (.slice a' Y.length c'))) := fun W m => ⟨(P0.up m).cell 0, (P0.up m).cell 1⟩
    have nd : Below w1.heap.size w1 w1.drew := (Below.refl _ _).drew
    go_region_held3 (fun W => W.cell? ⟨w.heap.size, 0, none⟩ = some (.slice a X.length c) ∧ W.cell? ⟨w.heap.size, 1, none⟩ = some (.slice a' Y.length c'))
      (first | exact (unhide CY) _ n2 | exact (unhide CY) _ nc | exact (unhide CY) _ nd)
      (first
        | (refine step_append_exS rfl (.tmp 10) (.tmp 12) 22 22 rfl _ (.slice a' Y.length c') rfl rfl _ ((unhide AP) _ _ nc Rc) ?_; rintro v2 w2 ⟨R2, n2⟩)
        | (go_at_call 22; refine ((unhide CP) _ nd).mono ?_; rintro r wc ⟨vc, rfl, Rc, nc⟩)
        | fail)
    clear nd nc Rc CY AP CP hr hr' hz hz'
    have zb := n2.size
    replace P0 := P0.up n2
    replace N := nxt N n2
    generalize w1.heap.size = B at *
    have hq : w.heap.size < B := lq
    clear n2 lq
    have p2 : w2.cell? ⟨w.heap.size, 2, none⟩ = some (.int .i64 md) := P0.cell 2
    have BG := hide (l1BigB_any w2 md 8 (by have := LS.out; omega) (by have := LS.out; omega) (by decide))
    go_wp2_with fail
    refine BG.out.mono ?_
    rintro e u3 ⟨rfl, G3, m3⟩
    have D0 : Rd u3 w2.heap.size (some ⟨w2.heap.size, 0, none⟩) .u8 (bigL md 8) := by
      obtain ⟨x1, x2, x3, x4, x5, -, -, -⟩ := G3.rd
      rw [bigL_len] at x4
      injection x4 with y1 y2 y3
      subst y1
      by_cases h : 0 < (bigL md 8).length
      · obtain ⟨off, e, -⟩ := x5 h
        injection e with e
        injection e with e1 e2
        subst e1
        exact x5
      · exact fun q => absurd q h
    have hc0 : (some ⟨w2.heap.size, 0, none⟩ : Option Addr) = none → 8 = 0 := fun h => nomatch h
    have el : (bigL md 8).length = 8 := bigL_len _ _
    clear BG G3
    replace R2 := R2.up m3
    replace P0 := P0.up m3
    replace N := nxt N m3
    have zu3 := m3.size
    obtain ⟨v3, w3, hap, R3, n3⟩ := append_any (P := Try.prog) u3 22 i0 Try.underlying22 hi hz0 hz1 hz2 B B v2 (X ++ Y) R2 w2.heap.size (some ⟨w2.heap.size, 0, none⟩) 8 (bigL md 8) D0 hc0 (by simp only [List.length_append, bigL_len]; have := LS.out; omega) (Nat.le_refl _) (by omega)
    rw [el] at hap
    clear el
    clear D0 hc0 p2 m3 R2
    have z3 := n3.size
    replace P0 := P0.at_base n3 hq
    replace N := N.trans (n3.mono (by omega))
    clear n3
    have hap0 := hap
    clear hap
    have p3 : w3.cell? ⟨w.heap.size, 3, none⟩ = some (.int .i64 li) := P0.cell 3
    have BG := hide (l1BigB_any w3 li 4 (by have := LS.out; omega) (by have := LS.out; omega) (by decide))
    go_wp2_with (first | (at_builtin; refine Lib.wpList_append_run _ rfl _ _ 22 22 rfl _ _ rfl rfl _ _ hap0 ?_) | fail)
    clear hap0
    refine BG.out.mono ?_
    rintro e u4 ⟨rfl, G4, m4⟩
    have D0 : Rd u4 w3.heap.size (some ⟨w3.heap.size, 0, none⟩) .u8 (bigL li 4) := by
      obtain ⟨x1, x2, x3, x4, x5, -, -, -⟩ := G4.rd
      rw [bigL_len] at x4
      injection x4 with y1 y2 y3
      subst y1
      by_cases h : 0 < (bigL li 4).length
      · obtain ⟨off, e, -⟩ := x5 h
        injection e with e
        injection e with e1 e2
        subst e1
        exact x5
      · exact fun q => absurd q h
    have hc0 : (some ⟨w3.heap.size, 0, none⟩ : Option Addr) = none → 4 = 0 := fun h => nomatch h
    have el : (bigL li 4).length = 4 := bigL_len _ _
    clear BG G4
    replace R3 := R3.up m4
    replace P0 := P0.up m4
    replace N := nxt N m4
    have zu4 := m4.size
    obtain ⟨v4, w4, hap, R4, n4⟩ := append_any (P := Try.prog) u4 22 i0 Try.underlying22 hi hz0 hz1 hz2 B B v3 (X ++ Y ++ bigL md 8) R3 w3.heap.size (some ⟨w3.heap.size, 0, none⟩) 4 (bigL li 4) D0 hc0 (by simp only [List.length_append, bigL_len]; have := LS.out; omega) (Nat.le_refl _) (by omega)
    rw [el] at hap
    clear el
    clear D0 hc0 p3 m4 R3
    have z4 := n4.size
    replace P0 := P0.at_base n4 hq
    replace N := N.trans (n4.mono (by omega))
    clear n4
    have hap0 := hap
    clear hap
    have p6 : w4.cell? ⟨w.heap.size, 6, none⟩ = some (.int .i64 ea) := P0.cell 6
    have BG := hide (l1BigB_any w4 ea 4 (by have := LS.out; omega) (by have := LS.out; omega) (by decide))
    go_wp2_with (first | (at_builtin; refine Lib.wpList_append_run _ rfl _ _ 22 22 rfl _ _ rfl rfl _ _ hap0 ?_) | fail)
    clear hap0
    refine BG.out.mono ?_
    rintro e u5 ⟨rfl, G5, m5⟩
    have D0 : Rd u5 w4.heap.size (some ⟨w4.heap.size, 0, none⟩) .u8 (bigL ea 4) := by
      obtain ⟨x1, x2, x3, x4, x5, -, -, -⟩ := G5.rd
      rw [bigL_len] at x4
      injection x4 with y1 y2 y3
      subst y1
      by_cases h : 0 < (bigL ea 4).length
      · obtain ⟨off, e, -⟩ := x5 h
        injection e with e
        injection e with e1 e2
        subst e1
        exact x5
      · exact fun q => absurd q h
    have hc0 : (some ⟨w4.heap.size, 0, none⟩ : Option Addr) = none → 4 = 0 := fun h => nomatch h
    have el : (bigL ea 4).length = 4 := bigL_len _ _
    clear BG G5
    replace R4 := R4.up m5
    replace P0 := P0.up m5
    replace N := nxt N m5
    have zu5 := m5.size
    obtain ⟨v5, w5, hap, R5, n5⟩ := append_any (P := Try.prog) u5 22 i0 Try.underlying22 hi hz0 hz1 hz2 B B v4 (X ++ Y ++ bigL md 8 ++ bigL li 4) R4 w4.heap.size (some ⟨w4.heap.size, 0, none⟩) 4 (bigL ea 4) D0 hc0 (by simp only [List.length_append, bigL_len]; have := LS.out; omega) (Nat.le_refl _) (by omega)
    rw [el] at hap
    clear el
    clear D0 hc0 p6 m5 R4
    have z5 := n5.size
    replace P0 := P0.at_base n5 hq
    replace N := N.trans (n5.mono (by omega))
    clear n5
    have hap0 := hap
    clear hap
    have p4 : w5.cell? ⟨w.heap.size, 4, none⟩ = some (.string ⟨⟨ho⟩⟩) := P0.cell 4
    obtain ⟨cx6, wx6, hcv, DX, lx, mx⟩ := convT w5 ho
    have SH := hide (l13ShortR_any wx6 w5.heap.size (some ⟨w5.heap.size, 0, none⟩) cx6 (txL ho) DX (fun h => nomatch h) (by rw [txL_len]; have := LS.out; omega))
    rw [txL_len, ← shL_is ho (by have := LS.out; omega)] at SH
    clear DX lx
    go_wp2_with (first | (at_builtin; refine Lib.wpList_append_run _ rfl _ _ 22 22 rfl _ _ rfl rfl _ _ hap0 ?_) | (refine wpList_convT _ rfl 9 22 (.tmp 31) rfl (.string ⟨⟨ho⟩⟩) rfl _ _ hcv ?_) | fail)
    clear hap0
    refine SH.out.mono ?_
    rintro e u6 ⟨vs6, rfl, G6, ms6⟩
    obtain ⟨as6, cs6, gs6, rfl, D0, hc0, -, -⟩ := G6.rd
    have m6 := nxt mx ms6
    clear SH G6 mx ms6 hcv
    replace R5 := R5.up m6
    replace P0 := P0.up m6
    replace N := nxt N m6
    have zu6 := m6.size
    obtain ⟨v6, w6, hap, R6, n6⟩ := append_any (P := Try.prog) u6 22 i0 Try.underlying22 hi hz0 hz1 hz2 B B v5 (X ++ Y ++ bigL md 8 ++ bigL li 4 ++ bigL ea 4) R5 gs6 as6 cs6 (shL ho) D0 hc0 (by simp only [List.length_append, bigL_len, shL_len]; have := LS.out; omega) (Nat.le_refl _) (by omega)
    clear D0 hc0 p4 m6 R5
    have z6 := n6.size
    replace P0 := P0.at_base n6 hq
    replace N := N.trans (n6.mono (by omega))
    clear n6
    have hap0 := hap
    clear hap
    have p5 : w6.cell? ⟨w.heap.size, 5, none⟩ = some (.string ⟨⟨pr⟩⟩) := P0.cell 5
    obtain ⟨cx7, wx7, hcv, DX, lx, mx⟩ := convT w6 pr
    have SH := hide (l13ShortR_any wx7 w6.heap.size (some ⟨w6.heap.size, 0, none⟩) cx7 (txL pr) DX (fun h => nomatch h) (by rw [txL_len]; have := LS.out; omega))
    rw [txL_len, ← shL_is pr (by have := LS.out; omega)] at SH
    clear DX lx
    go_wp2_with (first | (at_builtin; refine Lib.wpList_append_run _ rfl _ _ 22 22 rfl _ _ rfl rfl _ _ hap0 ?_) | (refine wpList_convT _ rfl 9 22 (.tmp 37) rfl (.string ⟨⟨pr⟩⟩) rfl _ _ hcv ?_) | fail)
    clear hap0
    refine SH.out.mono ?_
    rintro e u7 ⟨vs7, rfl, G7, ms7⟩
    obtain ⟨as7, cs7, gs7, rfl, D0, hc0, -, -⟩ := G7.rd
    have m7 := nxt mx ms7
    clear SH G7 mx ms7 hcv
    replace R6 := R6.up m7
    replace P0 := P0.up m7
    replace N := nxt N m7
    have zu7 := m7.size
    obtain ⟨v7, w7, hap, R7, n7⟩ := append_any (P := Try.prog) u7 22 i0 Try.underlying22 hi hz0 hz1 hz2 B B v6 (X ++ Y ++ bigL md 8 ++ bigL li 4 ++ bigL ea 4 ++ shL ho) R6 gs7 as7 cs7 (shL pr) D0 hc0 (by simp only [List.length_append, bigL_len, shL_len]; have := LS.out; omega) (Nat.le_refl _) (by omega)
    clear D0 hc0 p5 m7 R6
    have z7 := n7.size
    replace P0 := P0.at_base n7 hq
    replace N := N.trans (n7.mono (by omega))
    clear n7
    have hap0 := hap
    clear hap
    go_wp2_with (at_builtin; refine Lib.wpList_append_run _ rfl _ _ 22 22 rfl _ _ rfl rfl _ _ hap0 ?_)
    go_ret
    exact ⟨_, rfl, R7.base (by omega), N⟩
  · have e1 : Hid (esA X Y md li ho pr ea = []) := by show _ = _; unfold esA; rw [if_neg h0]
    rw [e1.out]
    generalize sfV X.length Y.length md li ho pr.length ea = R at *
    clear e1 hr hr' hz hz' hh hp
    go_enter Try.func24, Try.ntmps24
    go_wp2_with fail
    generalize w.alloc (.cells #[.slice a X.length c, .slice a' Y.length c', .int .i64 md, .int .i64 li, .string ⟨⟨ho⟩⟩, .string ⟨⟨pr⟩⟩, .int .i64 ea] 28) = wa at *
    refine (SF _).out.mono ?_
    rintro e w1 ⟨rfl, m1⟩
    have N := nxt n1 m1
    go_wp2
    go_ret
    exact ⟨_, rfl, (RowB.lit0 w1).base N.size, N.trans (((Below.refl _ _).alloc (Nat.le_refl _) _).mono N.size)⟩
end Go.Proofs.Ytcljoaknaegpmaa

/-
  The laws' count of a list's bytes.
-/
namespace Go.Proofs.Ytcljoaknaegpmaa
open Go Go.RowKit

theorem szByteR (w : World) (a : Option Addr) (n c : Nat) (left : Int) (hn : n < 9223372036854775808) (hl : 0 ≤ left) (hm : left ≤ 1048576) :
    Calls Try.prog 20 #[.slice a n c, .int .i64 left] w fun e w' => e = .returned (.int .i64 (if left < (n : Int) then -1 else left - (n : Int))) ∧ w' = w := by
  by_cases h : left < (n : Int)
  · have t1 : decide (left - (n : Int) < 0) = true := by simp; omega
    rw [if_pos h]
    go_enter Try.func20, Try.ntmps20
    go_wp2
    go_ret
    exact ⟨rfl, rfl⟩
  · have t1 : decide (left - (n : Int) < 0) = false := by simp; omega
    rw [if_neg h]
    go_enter Try.func20, Try.ntmps20
    go_wp2
    go_ret
    exact ⟨rfl, rfl⟩
end Go.Proofs.Ytcljoaknaegpmaa

/-
  The laws' helpers on a TicketState: counted, copied, held against each other, marked, marks asked for (written by gens/tsc.py).
-/
namespace Go.Proofs.Ytcljoaknaegpmaa
open Go Go.RowKit

set_option maxRecDepth 100000 in
set_option maxHeartbeats 1000000 in
theorem szTicketState_any (w : World) (md li : Int) (ho pr : ByteArray) (ea : Int) (a : Option Addr) (n c : Nat) (a' : Option Addr) (n' c' : Nat) (left : Int) (hn : n < 9223372036854775808) (hn' : n' < 9223372036854775808) (hh : ho.size < 9223372036854775808) (hp : pr.size < 9223372036854775808) (hl : 0 ≤ left) (hm : left ≤ 1048576) :
    Calls Try.prog 5 #[.agg #[.slice a n c, .slice a' n' c', .int .i64 md, .int .i64 li, .string ho, .string pr, .int .i64 ea], .int .i64 left] w fun e w' => e = .returned (.int .i64 (if left < (n : Int) + (n' : Int) + (ho.size : Int) + (pr.size : Int) then -1 else left - (n : Int) - (n' : Int) - (ho.size : Int) - (pr.size : Int))) ∧ Below w.heap.size w w' := by
  have n1 : Below w.heap.size w (w.alloc (.cells #[.slice a n c, .slice a' n' c', .int .i64 md, .int .i64 li, .string ho, .string pr, .int .i64 ea] 24)) := (Below.refl _ _).alloc (Nat.le_refl _) _
  have S1 := fun W => szByteR W a n c left hn (by omega) (by omega)
  by_cases h0 : left < (n : Int)
  · rw [if_pos (by omega)]
    rw [if_pos h0] at S1
    go_enter Try.func5, Try.ntmps5
    go_wp2_with fail
    refine (S1 _).mono ?_
    rintro e w2 ⟨rfl, rfl⟩
    go_wp2
    go_ret
    exact ⟨rfl, n1⟩
  · have t0 : decide (left - (n : Int) < 0) = false := by simp; omega
    rw [if_neg h0] at S1
    have S2 := fun W => szByteR W a' n' c' (left - (n : Int)) hn' (by omega) (by omega)
    by_cases h1 : left - (n : Int) < (n' : Int)
    · rw [if_pos (by omega)]
      rw [if_pos h1] at S2
      go_enter Try.func5, Try.ntmps5
      go_wp2_with fail
      refine (S1 _).mono ?_
      rintro e w2 ⟨rfl, rfl⟩
      go_wp2_with fail
      refine (S2 _).mono ?_
      rintro e w2 ⟨rfl, rfl⟩
      go_wp2
      go_ret
      exact ⟨rfl, n1⟩
    · have t1 : decide (left - (n : Int) - (n' : Int) < 0) = false := by simp; omega
      rw [if_neg h1] at S2
      by_cases h2 : left - (n : Int) - (n' : Int) < (ho.size : Int)
      · rw [if_pos (by omega)]
        have tb : decide (left - (n : Int) - (n' : Int) - (ho.size : Int) < 0) = true := by simp; omega
        go_enter Try.func5, Try.ntmps5
        go_wp2_with fail
        refine (S1 _).mono ?_
        rintro e w2 ⟨rfl, rfl⟩
        go_wp2_with fail
        refine (S2 _).mono ?_
        rintro e w2 ⟨rfl, rfl⟩
        go_wp2
        go_ret
        exact ⟨rfl, n1⟩
      · have t2 : decide (left - (n : Int) - (n' : Int) - (ho.size : Int) < 0) = false := by simp; omega
        by_cases h3 : left - (n : Int) - (n' : Int) - (ho.size : Int) < (pr.size : Int)
        · rw [if_pos (by omega)]
          have tb : decide (left - (n : Int) - (n' : Int) - (ho.size : Int) - (pr.size : Int) < 0) = true := by simp; omega
          go_enter Try.func5, Try.ntmps5
          go_wp2_with fail
          refine (S1 _).mono ?_
          rintro e w2 ⟨rfl, rfl⟩
          go_wp2_with fail
          refine (S2 _).mono ?_
          rintro e w2 ⟨rfl, rfl⟩
          go_wp2
          go_ret
          exact ⟨rfl, n1⟩
        · have t3 : decide (left - (n : Int) - (n' : Int) - (ho.size : Int) - (pr.size : Int) < 0) = false := by simp; omega
          rw [if_neg (by omega)]
          go_enter Try.func5, Try.ntmps5
          go_wp2_with fail
          refine (S1 _).mono ?_
          rintro e w2 ⟨rfl, rfl⟩
          go_wp2_with fail
          refine (S2 _).mono ?_
          rintro e w2 ⟨rfl, rfl⟩
          go_wp2
          go_ret
          exact ⟨rfl, n1⟩
set_option maxRecDepth 100000 in
theorem iTs : (Try.prog.info? 28).map (·.size) = some 7 := by kernel_rfl
set_option maxRecDepth 100000 in
theorem rowTs : ∃ d, Try.prog.underlying 28 = some d ∧ d.isRow = true := ⟨_, Try.underlying28, rfl⟩
theorem oneTs (md li : Int) (ho pr : ByteArray) (ea : Int) (a a' : Option Addr) (n c n' c' : Nat) : ([.slice a n c, .slice a' n' c', .int .i64 md, .int .i64 li, .string ho, .string pr, .int .i64 ea] : List Value).toArray.all (·.oneCell') = true := all_oneCell_toArray fun v hv => by
  simp only [List.mem_cons, List.not_mem_nil, or_false] at hv
  rcases hv with rfl | rfl | rfl | rfl | rfl | rfl | rfl
  all_goals rfl
set_option maxRecDepth 100000 in
set_option maxHeartbeats 8000000 in
theorem toTicketState_any (w : World) (md li : Int) (ho pr : ByteArray) (ea : Int) (g : Nat) (a : Option Addr) (c : Nat) (xs : List Int) (g' : Nat) (a' : Option Addr) (c' : Nat) (ys : List Int) (hr : Rd w g a .u8 xs) (hr' : Rd w g' a' .u8 ys) (hn : xs.length ≤ 1048576) (hn' : ys.length ≤ 1048576) :
    Calls Try.prog 8 #[.agg #[.slice a xs.length c, .slice a' ys.length c', .int .i64 md, .int .i64 li, .string ho, .string pr, .int .i64 ea]] w fun e w' => ∃ p p', e = .returned (.agg #[.slice (some ⟨p, 0, none⟩) xs.length xs.length, .slice (some ⟨p', 0, none⟩) ys.length ys.length, .int .i64 md, .int .i64 li, .string ho, .string pr, .int .i64 ea]) ∧ Blk w' p .u8 xs ∧ Blk w' p' .u8 ys ∧ w.heap.size ≤ p ∧ p < p' ∧ Below w.heap.size w w' := by
  have T0 := TMs.new w 24 28 [.slice a xs.length c, .slice a' ys.length c', .int .i64 md, .int .i64 li, .string ho, .string pr, .int .i64 ea] [.slice none 0 0, .slice none 0 0, .int .i64 0, .int .i64 0, .string ⟨#[]⟩, .string ⟨#[]⟩, .int .i64 0]
  obtain ⟨d1, hd1, hrow1⟩ := rowTs
  go_enter Try.func8, Try.ntmps8
  go_upto_region 2 with fail
  have T0 : TMs w (((w.alloc (.cells #[.slice a xs.length c, .slice a' ys.length c', .int .i64 md, .int .i64 li, .string ho, .string pr, .int .i64 ea] 24)).alloc (.cells #[.slice none 0 0, .slice none 0 0, .int .i64 0, .int .i64 0, .string ⟨#[]⟩, .string ⟨#[]⟩, .int .i64 0] 28)).alloc (.cells #[.slice none 0 0, .slice none 0 0, .int .i64 0, .int .i64 0, .string ⟨#[]⟩, .string ⟨#[]⟩, .int .i64 0] 28)) 24 28 [.slice a xs.length c, .slice a' ys.length c', .int .i64 md, .int .i64 li, .string ho, .string pr, .int .i64 ea] [.slice none 0 0, .slice none 0 0, .int .i64 0, .int .i64 0, .string ⟨#[]⟩, .string ⟨#[]⟩, .int .i64 0] [.slice none 0 0, .slice none 0 0, .int .i64 0, .int .i64 0, .string ⟨#[]⟩, .string ⟨#[]⟩, .int .i64 0] := T0
  generalize ((w.alloc (.cells #[.slice a xs.length c, .slice a' ys.length c', .int .i64 md, .int .i64 li, .string ho, .string pr, .int .i64 ea] 24)).alloc (.cells #[.slice none 0 0, .slice none 0 0, .int .i64 0, .int .i64 0, .string ⟨#[]⟩, .string ⟨#[]⟩, .int .i64 0] 28)).alloc (.cells #[.slice none 0 0, .slice none 0 0, .int .i64 0, .int .i64 0, .string ⟨#[]⟩, .string ⟨#[]⟩, .int .i64 0] 28) = W1 at *
  have qS : W1.cell? ⟨w.heap.size, 0, none⟩ = some (.slice a xs.length c) := T0.S.cell 0
  have TB := hide (toByteS_any W1 g a c xs (hr.up T0.N) hn)
  go_wp2_with fail
  refine TB.out.mono ?_
  rintro e V ⟨rfl, B, m⟩
  have lt := T0.T.lt
  have T2 := T0.up m
  have lv := B.lt
  clear TB qS T0 m
  obtain ⟨G, hG⟩ : ∃ G, W1.heap.size = G := ⟨_, rfl⟩
  rw [hG] at B lt lv ⊢
  clear hG
  have qT : V.cell? ⟨w.heap.size + 1 + 1, 0, none⟩ = some (.slice none 0 0) := T2.T.cell 0
  have qF := T2.T.free 0
  have T3 : TMs w (V.setCell ⟨w.heap.size + 1 + 1, 0, none⟩ (.slice (some ⟨G, 0, none⟩) xs.length xs.length)) 24 28 [.slice a xs.length c, .slice a' ys.length c', .int .i64 md, .int .i64 li, .string ho, .string pr, .int .i64 ea] [.slice none 0 0, .slice none 0 0, .int .i64 0, .int .i64 0, .string ⟨#[]⟩, .string ⟨#[]⟩, .int .i64 0] [.slice (some ⟨G, 0, none⟩) xs.length xs.length, .slice none 0 0, .int .i64 0, .int .i64 0, .string ⟨#[]⟩, .string ⟨#[]⟩, .int .i64 0] := T2.set 0 _
  have B2 : Blk (V.setCell ⟨w.heap.size + 1 + 1, 0, none⟩ (.slice (some ⟨G, 0, none⟩) xs.length xs.length)) G .u8 xs := B.of_block ((Only.setCell V (w.heap.size + 1 + 1) 0 _).block G (by omega))
  have sv : V.heap.size ≤ (V.setCell ⟨w.heap.size + 1 + 1, 0, none⟩ (.slice (some ⟨G, 0, none⟩) xs.length xs.length)).heap.size := Nat.le_of_eq (Only.setCell V (w.heap.size + 1 + 1) 0 _).size.symm
  go_upto_region 3 with fail
  clear T2 B qT qF
  generalize V.setCell ⟨w.heap.size + 1 + 1, 0, none⟩ (.slice (some ⟨G, 0, none⟩) xs.length xs.length) = W3 at *
  have qS : W3.cell? ⟨w.heap.size, 1, none⟩ = some (.slice a' ys.length c') := T3.S.cell 1
  have TB := hide (toByteS_any W3 g' a' c' ys (hr'.up T3.N) hn')
  go_wp2_with fail
  refine TB.out.mono ?_
  rintro e V' ⟨rfl, B', m⟩
  have lt' := T3.T.lt
  have T4 := T3.up m
  have B3 := B2.up m
  clear TB qS T3 m B2
  obtain ⟨G', hG'⟩ : ∃ G', W3.heap.size = G' := ⟨_, rfl⟩
  rw [hG'] at B' lt' sv ⊢
  clear hG'
  have qT : V'.cell? ⟨w.heap.size + 1 + 1, 1, none⟩ = some (.slice none 0 0) := T4.T.cell 1
  have qF := T4.T.free 1
  go_upto_region 4 with fail
  have T5 : TMs w (V'.setCell ⟨w.heap.size + 1 + 1, 1, none⟩ (.slice (some ⟨G', 0, none⟩) ys.length ys.length)) 24 28 [.slice a xs.length c, .slice a' ys.length c', .int .i64 md, .int .i64 li, .string ho, .string pr, .int .i64 ea] [.slice none 0 0, .slice none 0 0, .int .i64 0, .int .i64 0, .string ⟨#[]⟩, .string ⟨#[]⟩, .int .i64 0] [.slice (some ⟨G, 0, none⟩) xs.length xs.length, .slice (some ⟨G', 0, none⟩) ys.length ys.length, .int .i64 0, .int .i64 0, .string ⟨#[]⟩, .string ⟨#[]⟩, .int .i64 0] := T4.set 1 _
  have B4 : Blk (V'.setCell ⟨w.heap.size + 1 + 1, 1, none⟩ (.slice (some ⟨G', 0, none⟩) ys.length ys.length)) G .u8 xs := B3.of_block ((Only.setCell V' (w.heap.size + 1 + 1) 1 _).block G (by omega))
  have B4' : Blk (V'.setCell ⟨w.heap.size + 1 + 1, 1, none⟩ (.slice (some ⟨G', 0, none⟩) ys.length ys.length)) G' .u8 ys := B'.of_block ((Only.setCell V' (w.heap.size + 1 + 1) 1 _).block G' (by omega))
  clear T4 B' B3 qT qF
  generalize V'.setCell ⟨w.heap.size + 1 + 1, 1, none⟩ (.slice (some ⟨G', 0, none⟩) ys.length ys.length) = X2 at *
  have q0 : X2.cell? ⟨w.heap.size, 2, none⟩ = some (.int .i64 md) := T5.S.cell 2
  have q1 : X2.cell? ⟨w.heap.size + 1 + 1, 2, none⟩ = some (.int .i64 0) := T5.T.cell 2
  have q2 := T5.T.free 2
  have T6 : TMs w (X2.setCell ⟨w.heap.size + 1 + 1, 2, none⟩ (.int .i64 md)) 24 28 [.slice a xs.length c, .slice a' ys.length c', .int .i64 md, .int .i64 li, .string ho, .string pr, .int .i64 ea] [.slice none 0 0, .slice none 0 0, .int .i64 0, .int .i64 0, .string ⟨#[]⟩, .string ⟨#[]⟩, .int .i64 0] [.slice (some ⟨G, 0, none⟩) xs.length xs.length, .slice (some ⟨G', 0, none⟩) ys.length ys.length, .int .i64 md, .int .i64 0, .string ⟨#[]⟩, .string ⟨#[]⟩, .int .i64 0] := T5.set 2 _
  have C4 : Blk (X2.setCell ⟨w.heap.size + 1 + 1, 2, none⟩ (.int .i64 md)) G .u8 xs := B4.of_block ((Only.setCell X2 (w.heap.size + 1 + 1) 2 _).block G (by omega))
  have C4' : Blk (X2.setCell ⟨w.heap.size + 1 + 1, 2, none⟩ (.int .i64 md)) G' .u8 ys := B4'.of_block ((Only.setCell X2 (w.heap.size + 1 + 1) 2 _).block G' (by omega))
  go_upto_region 5 with fail
  clear q0 q1 q2 T5 B4 B4'
  generalize X2.setCell ⟨w.heap.size + 1 + 1, 2, none⟩ (.int .i64 md) = X3 at *
  have T5 := T6
  have B4 := C4
  have B4' := C4'
  clear T6 C4 C4'
  have q0 : X3.cell? ⟨w.heap.size, 3, none⟩ = some (.int .i64 li) := T5.S.cell 3
  have q1 : X3.cell? ⟨w.heap.size + 1 + 1, 3, none⟩ = some (.int .i64 0) := T5.T.cell 3
  have q2 := T5.T.free 3
  have T6 : TMs w (X3.setCell ⟨w.heap.size + 1 + 1, 3, none⟩ (.int .i64 li)) 24 28 [.slice a xs.length c, .slice a' ys.length c', .int .i64 md, .int .i64 li, .string ho, .string pr, .int .i64 ea] [.slice none 0 0, .slice none 0 0, .int .i64 0, .int .i64 0, .string ⟨#[]⟩, .string ⟨#[]⟩, .int .i64 0] [.slice (some ⟨G, 0, none⟩) xs.length xs.length, .slice (some ⟨G', 0, none⟩) ys.length ys.length, .int .i64 md, .int .i64 li, .string ⟨#[]⟩, .string ⟨#[]⟩, .int .i64 0] := T5.set 3 _
  have C4 : Blk (X3.setCell ⟨w.heap.size + 1 + 1, 3, none⟩ (.int .i64 li)) G .u8 xs := B4.of_block ((Only.setCell X3 (w.heap.size + 1 + 1) 3 _).block G (by omega))
  have C4' : Blk (X3.setCell ⟨w.heap.size + 1 + 1, 3, none⟩ (.int .i64 li)) G' .u8 ys := B4'.of_block ((Only.setCell X3 (w.heap.size + 1 + 1) 3 _).block G' (by omega))
  go_upto_region 6 with fail
  clear q0 q1 q2 T5 B4 B4'
  generalize X3.setCell ⟨w.heap.size + 1 + 1, 3, none⟩ (.int .i64 li) = X4 at *
  have T5 := T6
  have B4 := C4
  have B4' := C4'
  clear T6 C4 C4'
  have q0 : X4.cell? ⟨w.heap.size, 4, none⟩ = some (.string ho) := T5.S.cell 4
  have q1 : X4.cell? ⟨w.heap.size + 1 + 1, 4, none⟩ = some (.string ⟨#[]⟩) := T5.T.cell 4
  have q2 := T5.T.free 4
  have T6 : TMs w (X4.setCell ⟨w.heap.size + 1 + 1, 4, none⟩ (.string ho)) 24 28 [.slice a xs.length c, .slice a' ys.length c', .int .i64 md, .int .i64 li, .string ho, .string pr, .int .i64 ea] [.slice none 0 0, .slice none 0 0, .int .i64 0, .int .i64 0, .string ⟨#[]⟩, .string ⟨#[]⟩, .int .i64 0] [.slice (some ⟨G, 0, none⟩) xs.length xs.length, .slice (some ⟨G', 0, none⟩) ys.length ys.length, .int .i64 md, .int .i64 li, .string ho, .string ⟨#[]⟩, .int .i64 0] := T5.set 4 _
  have C4 : Blk (X4.setCell ⟨w.heap.size + 1 + 1, 4, none⟩ (.string ho)) G .u8 xs := B4.of_block ((Only.setCell X4 (w.heap.size + 1 + 1) 4 _).block G (by omega))
  have C4' : Blk (X4.setCell ⟨w.heap.size + 1 + 1, 4, none⟩ (.string ho)) G' .u8 ys := B4'.of_block ((Only.setCell X4 (w.heap.size + 1 + 1) 4 _).block G' (by omega))
  go_upto_region 7 with fail
  clear q0 q1 q2 T5 B4 B4'
  generalize X4.setCell ⟨w.heap.size + 1 + 1, 4, none⟩ (.string ho) = X5 at *
  have T5 := T6
  have B4 := C4
  have B4' := C4'
  clear T6 C4 C4'
  have q0 : X5.cell? ⟨w.heap.size, 5, none⟩ = some (.string pr) := T5.S.cell 5
  have q1 : X5.cell? ⟨w.heap.size + 1 + 1, 5, none⟩ = some (.string ⟨#[]⟩) := T5.T.cell 5
  have q2 := T5.T.free 5
  have T6 : TMs w (X5.setCell ⟨w.heap.size + 1 + 1, 5, none⟩ (.string pr)) 24 28 [.slice a xs.length c, .slice a' ys.length c', .int .i64 md, .int .i64 li, .string ho, .string pr, .int .i64 ea] [.slice none 0 0, .slice none 0 0, .int .i64 0, .int .i64 0, .string ⟨#[]⟩, .string ⟨#[]⟩, .int .i64 0] [.slice (some ⟨G, 0, none⟩) xs.length xs.length, .slice (some ⟨G', 0, none⟩) ys.length ys.length, .int .i64 md, .int .i64 li, .string ho, .string pr, .int .i64 0] := T5.set 5 _
  have C4 : Blk (X5.setCell ⟨w.heap.size + 1 + 1, 5, none⟩ (.string pr)) G .u8 xs := B4.of_block ((Only.setCell X5 (w.heap.size + 1 + 1) 5 _).block G (by omega))
  have C4' : Blk (X5.setCell ⟨w.heap.size + 1 + 1, 5, none⟩ (.string pr)) G' .u8 ys := B4'.of_block ((Only.setCell X5 (w.heap.size + 1 + 1) 5 _).block G' (by omega))
  go_upto_region 8 with fail
  clear q0 q1 q2 T5 B4 B4'
  generalize X5.setCell ⟨w.heap.size + 1 + 1, 5, none⟩ (.string pr) = X6 at *
  have T5 := T6
  have B4 := C4
  have B4' := C4'
  clear T6 C4 C4'
  have q0 : X6.cell? ⟨w.heap.size, 6, none⟩ = some (.int .i64 ea) := T5.S.cell 6
  have q1 : X6.cell? ⟨w.heap.size + 1 + 1, 6, none⟩ = some (.int .i64 0) := T5.T.cell 6
  have q2 := T5.T.free 6
  have T6 : TMs w (X6.setCell ⟨w.heap.size + 1 + 1, 6, none⟩ (.int .i64 ea)) 24 28 [.slice a xs.length c, .slice a' ys.length c', .int .i64 md, .int .i64 li, .string ho, .string pr, .int .i64 ea] [.slice none 0 0, .slice none 0 0, .int .i64 0, .int .i64 0, .string ⟨#[]⟩, .string ⟨#[]⟩, .int .i64 0] [.slice (some ⟨G, 0, none⟩) xs.length xs.length, .slice (some ⟨G', 0, none⟩) ys.length ys.length, .int .i64 md, .int .i64 li, .string ho, .string pr, .int .i64 ea] := T5.set 6 _
  have C4 : Blk (X6.setCell ⟨w.heap.size + 1 + 1, 6, none⟩ (.int .i64 ea)) G .u8 xs := B4.of_block ((Only.setCell X6 (w.heap.size + 1 + 1) 6 _).block G (by omega))
  have C4' : Blk (X6.setCell ⟨w.heap.size + 1 + 1, 6, none⟩ (.int .i64 ea)) G' .u8 ys := B4'.of_block ((Only.setCell X6 (w.heap.size + 1 + 1) 6 _).block G' (by omega))
  go_upto_region 9 with fail
  clear q0 q1 q2 T5 B4 B4'
  generalize X6.setCell ⟨w.heap.size + 1 + 1, 6, none⟩ (.int .i64 ea) = X7 at *
  have T5 := T6
  have B4 := C4
  have B4' := C4'
  clear T6 C4 C4'
  have RG := T5.T.rangeG
  have TH := T5.U.thereG
  have RR := World.rangeAt_setCells_same X7 (w.heap.size + 1) 0 [.slice (some ⟨G, 0, none⟩) xs.length xs.length, .slice (some ⟨G', 0, none⟩) ys.length ys.length, .int .i64 md, .int .i64 li, .string ho, .string pr, .int .i64 ea] TH
  have OQ := only_setG X7 (w.heap.size + 1) [.slice (some ⟨G, 0, none⟩) xs.length xs.length, .slice (some ⟨G', 0, none⟩) ys.length ys.length, .int .i64 md, .int .i64 li, .string ho, .string pr, .int .i64 ea] 0
  have N8 : Hid (Below w.heap.size w (X7.setCells (w.heap.size + 1) 0 [.slice (some ⟨G, 0, none⟩) xs.length xs.length, .slice (some ⟨G', 0, none⟩) ys.length ys.length, .int .i64 md, .int .i64 li, .string ho, .string pr, .int .i64 ea])) := T5.N.trans (OQ.below (by omega))
  have B5 := hide (B4.of_block (OQ.block G (by omega)))
  have B6 := hide (B4'.of_block (OQ.block G' (by omega)))
  have ON := oneTs md li ho pr ea (some ⟨G, 0, none⟩) (some ⟨G', 0, none⟩) xs.length xs.length ys.length ys.length
  clear OQ T5 B4 B4'
  go_wp2_with (first
    | (refine wpList_load_mid rfl 28 (.tmp 3) rfl (w.heap.size + 1 + 1) 0 rfl [.slice (some ⟨G, 0, none⟩) xs.length xs.length, .slice (some ⟨G', 0, none⟩) ys.length ys.length, .int .i64 md, .int .i64 li, .string ho, .string pr, .int .i64 ea] d1 RG hd1 hrow1 iTs ?_)
    | (refine wpList_store_mid rfl 28 (.tmp 2) (.tmp 27) rfl (w.heap.size + 1) 0 #[.slice (some ⟨G, 0, none⟩) xs.length xs.length, .slice (some ⟨G', 0, none⟩) ys.length ys.length, .int .i64 md, .int .i64 li, .string ho, .string pr, .int .i64 ea] rfl rfl ?hth ?hin ?hon ?_))
  case hth => exact TH
  case hin => exact iTs
  case hon => exact ON
  exact bodyPost_ret (v := .agg #[.slice (some ⟨G, 0, none⟩) xs.length xs.length, .slice (some ⟨G', 0, none⟩) ys.length ys.length, .int .i64 md, .int .i64 li, .string ho, .string pr, .int .i64 ea]) (results_cellG Try.results8 _ _ (w.heap.size + 1) _ d1 rfl RR hd1 hrow1 iTs) rfl ⟨G, G', rfl, B5.out, B6.out, by omega, by omega, N8.out⟩
set_option maxRecDepth 100000 in
set_option maxHeartbeats 2000000 in
theorem eqTicketState_same (w : World) (md li : Int) (ho pr : ByteArray) (ea : Int) (g g2 : Nat) (a a2 : Option Addr) (c c2 : Nat) (xs : List Int) (h1 : Rd w g a .u8 xs) (h2 : Rd w g2 a2 .u8 xs) (hn : xs.length ≤ 1048576) (g' g2' : Nat) (a' a2' : Option Addr) (c' c2' : Nat) (ys : List Int) (h1' : Rd w g' a' .u8 ys) (h2' : Rd w g2' a2' .u8 ys) (hn' : ys.length ≤ 1048576) :
    Calls Try.prog 11 #[.agg #[.slice a xs.length c, .slice a' ys.length c', .int .i64 md, .int .i64 li, .string ho, .string pr, .int .i64 ea], .agg #[.slice a2 xs.length c2, .slice a2' ys.length c2', .int .i64 md, .int .i64 li, .string ho, .string pr, .int .i64 ea]] w fun e w' => e = .returned (.bool true) ∧ Below w.heap.size w w' := by
  have n1 : Below w.heap.size w (w.alloc (.cells #[.slice a xs.length c, .slice a' ys.length c', .int .i64 md, .int .i64 li, .string ho, .string pr, .int .i64 ea] 28)) := (Below.refl _ _).alloc (Nat.le_refl _) _
  have n2 : Below (w.alloc (.cells #[.slice a xs.length c, .slice a' ys.length c', .int .i64 md, .int .i64 li, .string ho, .string pr, .int .i64 ea] 28)).heap.size (w.alloc (.cells #[.slice a xs.length c, .slice a' ys.length c', .int .i64 md, .int .i64 li, .string ho, .string pr, .int .i64 ea] 28)) ((w.alloc (.cells #[.slice a xs.length c, .slice a' ys.length c', .int .i64 md, .int .i64 li, .string ho, .string pr, .int .i64 ea] 28)).alloc (.cells #[.slice a2 xs.length c2, .slice a2' ys.length c2', .int .i64 md, .int .i64 li, .string ho, .string pr, .int .i64 ea] 28)) := (Below.refl _ _).alloc (Nat.le_refl _) _
  have P0 : RwC (w.alloc (.cells #[.slice a xs.length c, .slice a' ys.length c', .int .i64 md, .int .i64 li, .string ho, .string pr, .int .i64 ea] 28)) w.heap.size [.slice a xs.length c, .slice a' ys.length c', .int .i64 md, .int .i64 li, .string ho, .string pr, .int .i64 ea] 28 := RwC.new w _ _
  have P1 : RwC ((w.alloc (.cells #[.slice a xs.length c, .slice a' ys.length c', .int .i64 md, .int .i64 li, .string ho, .string pr, .int .i64 ea] 28)).alloc (.cells #[.slice a2 xs.length c2, .slice a2' ys.length c2', .int .i64 md, .int .i64 li, .string ho, .string pr, .int .i64 ea] 28)) (w.heap.size + 1) [.slice a2 xs.length c2, .slice a2' ys.length c2', .int .i64 md, .int .i64 li, .string ho, .string pr, .int .i64 ea] 28 := by have := RwC.new (w.alloc (.cells #[.slice a xs.length c, .slice a' ys.length c', .int .i64 md, .int .i64 li, .string ho, .string pr, .int .i64 ea] 28)) [.slice a2 xs.length c2, .slice a2' ys.length c2', .int .i64 md, .int .i64 li, .string ho, .string pr, .int .i64 ea] 28; simpa using this
  have N := nxt n1 n2
  replace P0 := P0.up n2
  have E := hide (fun W (n : Below w.heap.size w W) => eqByteS_same W g g2 a a2 c c2 xs (h1.up n) (h2.up n) hn)
  have E' := hide (fun W (n : Below w.heap.size w W) => eqByteS_same W g' g2' a' a2' c' c2' ys (h1'.up n) (h2'.up n) hn')
  clear n1 n2 h1 h2 h1' h2'
  go_enter Try.func11, Try.ntmps11
  go_wp2_with fail
  generalize (w.alloc (.cells #[.slice a xs.length c, .slice a' ys.length c', .int .i64 md, .int .i64 li, .string ho, .string pr, .int .i64 ea] 28)).alloc (.cells #[.slice a2 xs.length c2, .slice a2' ys.length c2', .int .i64 md, .int .i64 li, .string ho, .string pr, .int .i64 ea] 28) = wa at *
  refine (E.out _ N).mono ?_
  rintro e w2 ⟨rfl, m⟩
  replace N := nxt N m
  have x0 := (P0.up m).c1
  have x1 := (P1.up m).c1
  replace P0 := P0.up m
  replace P1 := P1.up m
  go_wp2_with fail
  refine (E'.out _ N).mono ?_
  rintro e w3 ⟨rfl, m'⟩
  replace P0 := P0.up m'
  replace P1 := P1.up m'
  clear x0 x1
  have p2 : w3.cell? ⟨w.heap.size, 2, none⟩ = some (.int .i64 md) := P0.cell 2
  have r2 : w3.cell? ⟨w.heap.size + 1, 2, none⟩ = some (.int .i64 md) := P1.cell 2
  have p3 : w3.cell? ⟨w.heap.size, 3, none⟩ = some (.int .i64 li) := P0.cell 3
  have r3 : w3.cell? ⟨w.heap.size + 1, 3, none⟩ = some (.int .i64 li) := P1.cell 3
  have p4 : w3.cell? ⟨w.heap.size, 4, none⟩ = some (.string ho) := P0.cell 4
  have r4 : w3.cell? ⟨w.heap.size + 1, 4, none⟩ = some (.string ho) := P1.cell 4
  have p5 : w3.cell? ⟨w.heap.size, 5, none⟩ = some (.string pr) := P0.cell 5
  have r5 : w3.cell? ⟨w.heap.size + 1, 5, none⟩ = some (.string pr) := P1.cell 5
  have p6 : w3.cell? ⟨w.heap.size, 6, none⟩ = some (.int .i64 ea) := P0.cell 6
  have r6 : w3.cell? ⟨w.heap.size + 1, 6, none⟩ = some (.int .i64 ea) := P1.cell 6
  go_wp2
  go_ret
  exact ⟨rfl, nxt N m'⟩
set_option maxRecDepth 100000 in
set_option maxHeartbeats 1000000 in
theorem markTicketState_any (w : World) (md li : Int) (ho pr : ByteArray) (ea : Int) (g : Nat) (a : Option Addr) (c : Nat) (xs : List Int) (g' : Nat) (a' : Option Addr) (c' : Nat) (ys : List Int) (m : Int) (ha : Own w g a .u8 xs) (ha' : Own w g' a' .u8 ys) (hn : xs.length ≤ 1048576) (hn' : ys.length ≤ 1048576) (hne : g ≠ g' ∧ g < w.heap.size ∧ g' < w.heap.size) (k0 : 0 ≤ m) (k1 : m ≤ 1000000000) :
    Calls Try.prog 13 #[.agg #[.slice a xs.length c, .slice a' ys.length c', .int .i64 md, .int .i64 li, .string ho, .string pr, .int .i64 ea], .int .i64 m] w fun e w' => e = .returned (.int .i64 (m + (xs.length : Int) + (ys.length : Int))) ∧ Own w' g a .u8 (marks m xs.length) ∧ Own w' g' a' .u8 (marks (m + (xs.length : Int)) ys.length) ∧ Tch [g, g'] w w' := by
  have n1 : Below w.heap.size w (w.alloc (.cells #[.slice a xs.length c, .slice a' ys.length c', .int .i64 md, .int .i64 li, .string ho, .string pr, .int .i64 ea] 28)) := (Below.refl _ _).alloc (Nat.le_refl _) _
  have P0 : RwC (w.alloc (.cells #[.slice a xs.length c, .slice a' ys.length c', .int .i64 md, .int .i64 li, .string ho, .string pr, .int .i64 ea] 28)) w.heap.size [.slice a xs.length c, .slice a' ys.length c', .int .i64 md, .int .i64 li, .string ho, .string pr, .int .i64 ea] 28 := RwC.new w _ _
  have M := hide (markByteS_any (w.alloc (.cells #[.slice a xs.length c, .slice a' ys.length c', .int .i64 md, .int .i64 li, .string ho, .string pr, .int .i64 ea] 28)) g a c xs m (ha.up n1) hn k0 (by omega))
  have O' := ha'.up n1
  clear ha ha'
  have HN := hide hne
  clear hne
  go_enter Try.func13, Try.ntmps13
  go_wp2_with fail
  generalize w.alloc (.cells #[.slice a xs.length c, .slice a' ys.length c', .int .i64 md, .int .i64 li, .string ho, .string pr, .int .i64 ea] 28) = wa at *
  refine M.out.mono ?_
  rintro e w2 ⟨rfl, A1, O⟩
  have P1 := P0.onl O (by have := HN.out; omega)
  have O2 := O'.only O (fun _ => by have := HN.out; omega)
  have M2 := hide (markByteS_any w2 g' a' c' ys (m + (xs.length : Int)) O2 hn' (by omega) (by omega))
  have x1 := P1.c1
  have A1 := hide A1
  clear M O' O2 P0 P1
  go_wp2_with fail
  refine M2.out.mono ?_
  rintro e w3 ⟨rfl, A2, O3⟩
  have A1' := hide (A1.out.only O3 (fun _ => by have := HN.out; omega))
  have A2 := hide A2
  go_wp2
  go_ret
  exact ⟨rfl, A1'.out, A2.out, (((Tch.of_below n1).trans (Tch.of_only O)).trans (Tch.of_only O3)).mono (T := [g, g']) (S := [] ++ [g] ++ [g']) (by simp)⟩
set_option maxRecDepth 100000 in
set_option maxHeartbeats 1000000 in
theorem heldTicketState_any (w : World) (md li : Int) (ho pr : ByteArray) (ea : Int) (g : Nat) (a : Option Addr) (c n : Nat) (g' : Nat) (a' : Option Addr) (c' n' : Nat) (m : Int) (ha : Rd w g a .u8 (marks m n)) (ha' : Rd w g' a' .u8 (marks (m + (n : Int)) n')) (hn : n ≤ 1048576) (hn' : n' ≤ 1048576) (k0 : 0 ≤ m) (k1 : m ≤ 1000000000) :
    Calls Try.prog 33 #[.agg #[.slice a n c, .slice a' n' c', .int .i64 md, .int .i64 li, .string ho, .string pr, .int .i64 ea], .int .i64 m] w fun e w' => e = .returned (.int .i64 (m + (n : Int) + (n' : Int))) ∧ Below w.heap.size w w' := by
  have n1 : Below w.heap.size w (w.alloc (.cells #[.slice a n c, .slice a' n' c', .int .i64 md, .int .i64 li, .string ho, .string pr, .int .i64 ea] 28)) := (Below.refl _ _).alloc (Nat.le_refl _) _
  have P0 : RwC (w.alloc (.cells #[.slice a n c, .slice a' n' c', .int .i64 md, .int .i64 li, .string ho, .string pr, .int .i64 ea] 28)) w.heap.size [.slice a n c, .slice a' n' c', .int .i64 md, .int .i64 li, .string ho, .string pr, .int .i64 ea] 28 := RwC.new w _ _
  have M := hide (heldByteS_any (w.alloc (.cells #[.slice a n c, .slice a' n' c', .int .i64 md, .int .i64 li, .string ho, .string pr, .int .i64 ea] 28)) g a c n m (ha.up n1) hn k0 (by omega))
  have M2 := hide (heldByteS_any (w.alloc (.cells #[.slice a n c, .slice a' n' c', .int .i64 md, .int .i64 li, .string ho, .string pr, .int .i64 ea] 28)) g' a' c' n' (m + (n : Int)) (ha'.up n1) hn' (by omega) (by omega))
  have t1 : decide (m + (n : Int) < 0) = false := by simp; omega
  have t2 : decide (m + (n : Int) + (n' : Int) < 0) = false := by simp; omega
  clear ha ha'
  go_enter Try.func33, Try.ntmps33
  go_wp2_with fail
  generalize w.alloc (.cells #[.slice a n c, .slice a' n' c', .int .i64 md, .int .i64 li, .string ho, .string pr, .int .i64 ea] 28) = wa at *
  refine M.out.mono ?_
  rintro e w2 ⟨rfl, h⟩
  have h := h.symm
  subst h
  have x1 := P0.c1
  go_wp2_with fail
  refine M2.out.mono ?_
  rintro e w2 ⟨rfl, h⟩
  have h := h.symm
  subst h
  go_wp2
  go_ret
  exact ⟨rfl, n1⟩
end Go.Proofs.Ytcljoaknaegpmaa

/-
  A ticket's state out of bytes; the model's (written by gens/dss.py).
-/
namespace Go.Proofs.Ytcljoaknaegpmaa
open Go Go.RowKit

theorem byt_appS {xs ys : List Int} (h : Byt xs) (k : Byt ys) : Byt (xs ++ ys) := fun i => by
  rw [List.getD_eq_getElem?_getD, List.getElem?_append]
  split
  · have := h i; rwa [List.getD_eq_getElem?_getD] at this
  · have := k (i - xs.length); rwa [List.getD_eq_getElem?_getD] at this
theorem byt_map {α : Type} (f : α → Int) (hf : ∀ x, 0 ≤ f x ∧ f x < 256) (l : List α) : Byt (l.map f) := fun i => by
  rw [List.getD_eq_getElem?_getD, List.getElem?_map]
  cases l[i]? with
  | none => exact ⟨by simp, by simp⟩
  | some x => simpa using hf x
theorem byt_txL (l : List UInt8) : Byt (txL l) := byt_map _ (fun b => ⟨by omega, by have := b.toNat_lt; omega⟩) l
theorem byt_bigL (n : Int) (t : Nat) : Byt (bigL n t) := byt_map _ (fun _ => ⟨by omega, by omega⟩) _
theorem byt_esA {X Y : List Int} (hX : Byt X) (hY : Byt Y) (md li : Int) (ho pr : List UInt8) (ea : Int) : Byt (esA X Y md li ho pr ea) := by
  unfold esA
  split
  · unfold esL shL
    exact byt_appS (byt_appS (byt_appS (byt_appS (byt_appS (byt_appS hX hY) (byt_bigL _ _)) (byt_bigL _ _)) (byt_bigL _ _)) (byt_appS (byt_bigL _ _) (byt_txL _))) (byt_appS (byt_bigL _ _) (byt_txL _))
  · exact fun i => by simp
/-- An answer: two lists in memory of its own. -/
def NewR (B : Nat) (w' : World) (e : Ending) (gd : Bool) (xs ys : List Int) (md li : Int) (ho pr : List UInt8) (ea : Int) : Prop :=
  ∃ (a : Option Addr) (c g : Nat) (a' : Option Addr) (c' g' : Nat), e = .returned (.agg #[.bool gd, .slice a xs.length c, .slice a' ys.length c', .int .i64 md, .int .i64 li, .string ⟨⟨ho⟩⟩, .string ⟨⟨pr⟩⟩, .int .i64 ea]) ∧ Own w' g a .u8 xs ∧ Own w' g' a' .u8 ys ∧ g ≠ g' ∧ B ≤ g ∧ g < w'.heap.size ∧ B ≤ g' ∧ g' < w'.heap.size
def rX (b : List Int) : List Int := if dsB b = true then dX b else []
def rY (b : List Int) : List Int := if dsB b = true then dY b else []
def rM (b : List Int) : Int := if dsB b = true then dM b else 0
def rL (b : List Int) : Int := if dsB b = true then dL b else 0
def rH (b : List Int) : List UInt8 := if dsB b = true then dH b else []
def rP (b : List Int) : List UInt8 := if dsB b = true then dP b else []
def rE (b : List Int) : Int := if dsB b = true then dE b else 0
def NewD (B : Nat) (w' : World) (e : Ending) (b : List Int) : Prop := NewR B w' e (dsB b) (rX b) (rY b) (rM b) (rL b) (rH b) (rP b) (rE b)
theorem NewD.good {B : Nat} {w' : World} {b : List Int} (h : dsB b = true) {g g' : Nat} (hX : Blk w' g .u8 (dX b)) (hY : Blk w' g' .u8 (dY b)) (hne : g ≠ g') (l1 : B ≤ g) (l2 : B ≤ g') :
    NewD B w' (.returned (.agg #[.bool true, .slice (some ⟨g, 0, none⟩) 32 32, .slice (some ⟨g', 0, none⟩) 32 32, .int .i64 (dM b), .int .i64 (dL b), .string ⟨⟨dH b⟩⟩, .string ⟨⟨dP b⟩⟩, .int .i64 (dE b)])) b := by
  unfold NewD rX rY rM rL rH rP rE
  rw [if_pos h, if_pos h, if_pos h, if_pos h, if_pos h, if_pos h, if_pos h, h]
  exact ⟨_, _, g, _, _, g', by rw [dX_len, dY_len], hX.own0, hY.own0, hne, l1, hX.lt, l2, hY.lt⟩
theorem NewD.bad {B : Nat} {w' : World} {b : List Int} (h : dsB b = false) {g g' : Nat} (hne : g ≠ g') (l1 : B ≤ g) (l2 : B ≤ g') (k1 : g < w'.heap.size) (k2 : g' < w'.heap.size) :
    NewD B w' (.returned (.agg #[.bool false, .slice none 0 0, .slice none 0 0, .int .i64 0, .int .i64 0, .string ⟨#[]⟩, .string ⟨#[]⟩, .int .i64 0])) b := by
  have h' : ¬ dsB b = true := by rw [h]; decide
  unfold NewD rX rY rM rL rH rP rE
  rw [if_neg h', if_neg h', if_neg h', if_neg h', if_neg h', if_neg h', if_neg h', h]
  exact ⟨none, 0, g, none, 0, g', rfl, Own.nil _ _ _ _, Own.nil _ _ _ _, hne, l1, k1, l2, k2⟩
set_option maxRecDepth 100000 in
theorem iSr : (Try.prog.info? 36).map (·.size) = some 8 := by kernel_rfl
set_option maxRecDepth 100000 in
theorem rowSr : ∃ d, Try.prog.underlying 36 = some d ∧ d.isRow = true := ⟨_, Try.underlying36, rfl⟩
theorem RwC.newI {w w' : World} {q p : Nat} {cs : List Value} {t : TypeId} (h : RwC w q cs t) (n : NewI p w w') (hq : q ≠ p) : RwC w' q cs t := (n.block h.lt hq).trans h
theorem Blk.newI {w w' : World} {q p : Nat} {k : IntKind} {ys : List Int} (h : Blk w q k ys) (n : NewI p w w') (hq : q ≠ p) : Blk w' q k ys := h.of_block (n.block h.lt hq)
theorem Cur.onl {w w' : World} {p q : Nat} {l : Value} {i : Int} (h : Cur w p l i) (n : Only q w w') (hne : p ≠ q) : Cur w' p l i := h.of_block (n.block p hne)
set_option maxRecDepth 100000 in
set_option maxHeartbeats 16000000 in
theorem specDcS_any (w : World) (g : Nat) (a : Option Addr) (c : Nat) (b : List Int) (hr : Rd w g a .u8 b) (hb : Byt b) (hl : b.length ≤ 1048576) :
    Calls Try.prog 30 #[.slice a b.length c] w fun e w' => NewD w.heap.size w' e b ∧ Below w.heap.size w w' := by
  obtain ⟨dR, hdR, hrowR⟩ := rowSr
  have z1 : (w.alloc (.cells #[.bool false, .slice none 0 0, .slice none 0 0, .int .i64 0, .int .i64 0, .string ⟨#[]⟩, .string ⟨#[]⟩, .int .i64 0] 36)).heap.size = w.heap.size + 1 := by simp
  have n1 : Below w.heap.size w (w.alloc (.cells #[.bool false, .slice none 0 0, .slice none 0 0, .int .i64 0, .int .i64 0, .string ⟨#[]⟩, .string ⟨#[]⟩, .int .i64 0] 36)) := (Below.refl _ _).alloc (Nat.le_refl _) _
  have n2 : Below (w.alloc (.cells #[.bool false, .slice none 0 0, .slice none 0 0, .int .i64 0, .int .i64 0, .string ⟨#[]⟩, .string ⟨#[]⟩, .int .i64 0] 36)).heap.size (w.alloc (.cells #[.bool false, .slice none 0 0, .slice none 0 0, .int .i64 0, .int .i64 0, .string ⟨#[]⟩, .string ⟨#[]⟩, .int .i64 0] 36)) ((w.alloc (.cells #[.bool false, .slice none 0 0, .slice none 0 0, .int .i64 0, .int .i64 0, .string ⟨#[]⟩, .string ⟨#[]⟩, .int .i64 0] 36)).alloc (.cells #[.slice a b.length c, .int .i64 0] 66)) := (Below.refl _ _).alloc (Nat.le_refl _) _
  have Q0 : RwC (w.alloc (.cells #[.bool false, .slice none 0 0, .slice none 0 0, .int .i64 0, .int .i64 0, .string ⟨#[]⟩, .string ⟨#[]⟩, .int .i64 0] 36)) w.heap.size [.bool false, .slice none 0 0, .slice none 0 0, .int .i64 0, .int .i64 0, .string ⟨#[]⟩, .string ⟨#[]⟩, .int .i64 0] 36 := RwC.new w _ _
  have C0 : Cur ((w.alloc (.cells #[.bool false, .slice none 0 0, .slice none 0 0, .int .i64 0, .int .i64 0, .string ⟨#[]⟩, .string ⟨#[]⟩, .int .i64 0] 36)).alloc (.cells #[.slice a b.length c, .int .i64 0] 66)) (w.alloc (.cells #[.bool false, .slice none 0 0, .slice none 0 0, .int .i64 0, .int .i64 0, .string ⟨#[]⟩, .string ⟨#[]⟩, .int .i64 0] 36)).heap.size (.slice a b.length c) ((0 : Nat) : Int) := ⟨66, heap_alloc_new _ _⟩
  have N := nxt n1 n2
  replace Q0 := Q0.up n2
  rw [z1] at C0
  have zq : w.heap.size + 1 < ((w.alloc (.cells #[.bool false, .slice none 0 0, .slice none 0 0, .int .i64 0, .int .i64 0, .string ⟨#[]⟩, .string ⟨#[]⟩, .int .i64 0] 36)).alloc (.cells #[.slice a b.length c, .int .i64 0] 66)).heap.size := C0.lt
  have TK := hide (fun W i n h (N : Below w.heap.size w W) => l13Take_any W (w.heap.size + 1) g a c b i n h (hr.up N))
  have NU := hide (fun W i n h (N : Below w.heap.size w W) => l13Number_any W (w.heap.size + 1) g a c b i n h (hr.up N) hb)
  have L1 := hide (dn1_is hb)
  have L2 := hide (dn2_is hb)
  clear n1 n2 z1
  go_enter Try.func30, Try.ntmps30
  go_wp2_with fail
  generalize (w.alloc (.cells #[.bool false, .slice none 0 0, .slice none 0 0, .int .i64 0, .int .i64 0, .string ⟨#[]⟩, .string ⟨#[]⟩, .int .i64 0] 36)).alloc (.cells #[.slice a b.length c, .int .i64 0] 66) = v0 at *
  refine (TK.out v0 0 32 C0 N (by omega) (by omega) (by omega)).mono ?_
  rintro e v1 ⟨rfl, BX, C1, m1⟩
  have zv1 := m1.2.2.2.1
  replace N := N.trans (m1.below (B := w.heap.size) (by omega) (by omega))
  replace Q0 := Q0.newI m1 (by omega)
  have BX : Blk v1 v0.heap.size .u8 (dX b) := BX
  have gX1 := BX.lt
  clear C0 m1
  generalize hgX : v0.heap.size = gX at *
  have lgX : w.heap.size + 1 < gX := by omega
  clear hgX
  go_wp2_with fail
  refine (TK.out v1 (0 + 32) 32 C1 N (by omega) (by omega) (by omega)).mono ?_
  rintro e v2 ⟨rfl, BY, C2, m2⟩
  have zv2 := m2.2.2.2.1
  replace N := N.trans (m2.below (B := w.heap.size) (by omega) (by omega))
  replace Q0 := Q0.newI m2 (by omega)
  replace BX := BX.newI m2 (by omega)
  have BY : Blk v2 v1.heap.size .u8 (dY b) := BY
  have gY1 := BY.lt
  clear C1 m2
  generalize hgY : v1.heap.size = gY at *
  have lgY : gX < gY := by omega
  clear hgY
  have T0 : RwC (v2.alloc (.cells #[.slice (some ⟨gX, 0, none⟩) 32 32, .slice (some ⟨gY, 0, none⟩) 32 32, .int .i64 0, .int .i64 0, .string ⟨#[]⟩, .string ⟨#[]⟩, .int .i64 0] 28)) v2.heap.size [.slice (some ⟨gX, 0, none⟩) 32 32, .slice (some ⟨gY, 0, none⟩) 32 32, .int .i64 0, .int .i64 0, .string ⟨#[]⟩, .string ⟨#[]⟩, .int .i64 0] 28 := RwC.new v2 _ _
  have n3 : Below v2.heap.size v2 (v2.alloc (.cells #[.slice (some ⟨gX, 0, none⟩) 32 32, .slice (some ⟨gY, 0, none⟩) 32 32, .int .i64 0, .int .i64 0, .string ⟨#[]⟩, .string ⟨#[]⟩, .int .i64 0] 28)) := (Below.refl _ _).alloc (Nat.le_refl _) _
  have zt : v2.heap.size < (v2.alloc (.cells #[.slice (some ⟨gX, 0, none⟩) 32 32, .slice (some ⟨gY, 0, none⟩) 32 32, .int .i64 0, .int .i64 0, .string ⟨#[]⟩, .string ⟨#[]⟩, .int .i64 0] 28)).heap.size := T0.lt
  replace Q0 := Q0.up n3
  replace BX := BX.up n3
  replace BY := BY.up n3
  replace C2 := C2.up n3
  replace N := nxt N n3
  clear n3
  obtain ⟨q, hq⟩ : ∃ q, q = v2.heap.size := ⟨_, rfl⟩
  rw [← hq] at T0 zt
  have lq : gY < q := by omega
  go_wp2_with fail
  rw [← hq]
  clear hq
  generalize v2.alloc (.cells #[.slice (some ⟨gX, 0, none⟩) 32 32, .slice (some ⟨gY, 0, none⟩) 32 32, .int .i64 0, .int .i64 0, .string ⟨#[]⟩, .string ⟨#[]⟩, .int .i64 0] 28) = u2 at *
  refine (NU.out u2 (0 + 32 + 32) 8 C2 N (by omega) (by omega) (by omega)).mono ?_
  rintro e v3 ⟨rfl, C3, m3⟩
  have zv3 := m3.2.2.2.1
  replace N := N.trans (m3.below (B := w.heap.size) (by omega) (by omega))
  replace Q0 := Q0.newI m3 (by omega)
  replace BX := BX.newI m3 (by omega)
  replace BY := BY.newI m3 (by omega)
  replace T0 := T0.newI m3 (by omega)
  clear C2 m3
  rw [show nmV b (0 + 32 + 32) 8 = dM b from rfl]
  have tc : v3.cell? ⟨q, 2, none⟩ = some (.int .i64 0) := T0.cell 2
  have tf := T0.free 2
  have OS := Only.setCell v3 q 2 (.int .i64 (dM b))
  have T1 : RwC (v3.setCell ⟨q, 2, none⟩ (.int .i64 (dM b))) q [.slice (some ⟨gX, 0, none⟩) 32 32, .slice (some ⟨gY, 0, none⟩) 32 32, .int .i64 (dM b), .int .i64 0, .string ⟨#[]⟩, .string ⟨#[]⟩, .int .i64 0] 28 := T0.set 2 _
  have C3s := C3.onl OS (by omega)
  have Q1 := Q0.onl OS (by omega)
  have BX1 := BX.of_block (OS.block gX (by omega))
  have BY1 := BY.of_block (OS.block gY (by omega))
  have N1 := N.trans (OS.below (B := w.heap.size) (by omega))
  have zs : v3.heap.size ≤ (v3.setCell ⟨q, 2, none⟩ (.int .i64 (dM b))).heap.size := Nat.le_of_eq OS.size.symm
  clear Q0 BX BY N T0 C3 OS
  go_wp2_with fail
  generalize v3.setCell ⟨q, 2, none⟩ (.int .i64 (dM b)) = u3 at *
  clear tc tf
  have Q0 := Q1
  have BX := BX1
  have BY := BY1
  have N := N1
  have T0 := T1
  have C3 := C3s
  clear Q1 BX1 BY1 N1 T1 C3s
  refine (NU.out u3 (0 + 32 + 32 + 8) 4 C3 N (by omega) (by omega) (by omega)).mono ?_
  rintro e v4 ⟨rfl, C4, m4⟩
  have zv4 := m4.2.2.2.1
  replace N := N.trans (m4.below (B := w.heap.size) (by omega) (by omega))
  replace Q0 := Q0.newI m4 (by omega)
  replace BX := BX.newI m4 (by omega)
  replace BY := BY.newI m4 (by omega)
  replace T0 := T0.newI m4 (by omega)
  clear C3 m4
  rw [show nmV b (0 + 32 + 32 + 8) 4 = dL b from rfl]
  have tc : v4.cell? ⟨q, 3, none⟩ = some (.int .i64 0) := T0.cell 3
  have tf := T0.free 3
  have OS := Only.setCell v4 q 3 (.int .i64 (dL b))
  have T1 : RwC (v4.setCell ⟨q, 3, none⟩ (.int .i64 (dL b))) q [.slice (some ⟨gX, 0, none⟩) 32 32, .slice (some ⟨gY, 0, none⟩) 32 32, .int .i64 (dM b), .int .i64 (dL b), .string ⟨#[]⟩, .string ⟨#[]⟩, .int .i64 0] 28 := T0.set 3 _
  have C4s := C4.onl OS (by omega)
  have Q1 := Q0.onl OS (by omega)
  have BX1 := BX.of_block (OS.block gX (by omega))
  have BY1 := BY.of_block (OS.block gY (by omega))
  have N1 := N.trans (OS.below (B := w.heap.size) (by omega))
  have zs : v4.heap.size ≤ (v4.setCell ⟨q, 3, none⟩ (.int .i64 (dL b))).heap.size := Nat.le_of_eq OS.size.symm
  clear Q0 BX BY N T0 C4 OS
  go_wp2_with fail
  generalize v4.setCell ⟨q, 3, none⟩ (.int .i64 (dL b)) = u4 at *
  clear tc tf
  have Q0 := Q1
  have BX := BX1
  have BY := BY1
  have N := N1
  have T0 := T1
  have C4 := C4s
  clear Q1 BX1 BY1 N1 T1 C4s
  refine (NU.out u4 (0 + 32 + 32 + 8 + 4) 4 C4 N (by omega) (by omega) (by omega)).mono ?_
  rintro e v5 ⟨rfl, C5, m5⟩
  have zv5 := m5.2.2.2.1
  replace N := N.trans (m5.below (B := w.heap.size) (by omega) (by omega))
  replace Q0 := Q0.newI m5 (by omega)
  replace BX := BX.newI m5 (by omega)
  replace BY := BY.newI m5 (by omega)
  replace T0 := T0.newI m5 (by omega)
  clear C4 m5
  rw [show nmV b (0 + 32 + 32 + 8 + 4) 4 = dE b from rfl]
  have tc : v5.cell? ⟨q, 6, none⟩ = some (.int .i64 0) := T0.cell 6
  have tf := T0.free 6
  have OS := Only.setCell v5 q 6 (.int .i64 (dE b))
  have T1 : RwC (v5.setCell ⟨q, 6, none⟩ (.int .i64 (dE b))) q [.slice (some ⟨gX, 0, none⟩) 32 32, .slice (some ⟨gY, 0, none⟩) 32 32, .int .i64 (dM b), .int .i64 (dL b), .string ⟨#[]⟩, .string ⟨#[]⟩, .int .i64 (dE b)] 28 := T0.set 6 _
  have C5s := C5.onl OS (by omega)
  have Q1 := Q0.onl OS (by omega)
  have BX1 := BX.of_block (OS.block gX (by omega))
  have BY1 := BY.of_block (OS.block gY (by omega))
  have N1 := N.trans (OS.below (B := w.heap.size) (by omega))
  have zs : v5.heap.size ≤ (v5.setCell ⟨q, 6, none⟩ (.int .i64 (dE b))).heap.size := Nat.le_of_eq OS.size.symm
  clear Q0 BX BY N T0 C5 OS
  go_wp2_with fail
  generalize v5.setCell ⟨q, 6, none⟩ (.int .i64 (dE b)) = u5 at *
  clear tc tf
  have Q0 := Q1
  have BX := BX1
  have BY := BY1
  have N := N1
  have T0 := T1
  have C5 := C5s
  clear Q1 BX1 BY1 N1 T1 C5s
  refine (NU.out u5 (0 + 32 + 32 + 8 + 4 + 4) 1 C5 N (by omega) (by omega) (by omega)).mono ?_
  rintro e v6 ⟨rfl, C6, m6⟩
  have zv6 := m6.2.2.2.1
  replace N := N.trans (m6.below (B := w.heap.size) (by omega) (by omega))
  replace Q0 := Q0.newI m6 (by omega)
  replace BX := BX.newI m6 (by omega)
  replace BY := BY.newI m6 (by omega)
  replace T0 := T0.newI m6 (by omega)
  clear C5 m6
  have en : nmV b (0 + 32 + 32 + 8 + 4 + 4) 1 = (dn1 b : Int) := by rw [nmV_small hb _ _ (by decide)]; exact L1.out.1.symm
  rw [en]
  clear en
  have ln := L1.out.2
  go_wp2_with fail
  refine (TK.out v6 (0 + 32 + 32 + 8 + 4 + 4 + 1) (dn1 b) C6 N (by omega) (by omega) (by omega)).mono ?_
  rintro e x6 ⟨rfl, BT, D6, mt⟩
  have zx6 := mt.2.2.2.1
  replace N := N.trans (mt.below (B := w.heap.size) (by omega) (by omega))
  replace Q0 := Q0.newI mt (by omega)
  replace BX := BX.newI mt (by omega)
  replace BY := BY.newI mt (by omega)
  replace T0 := T0.newI mt (by omega)
  have cv := conv_run x6 _ _ (dn1 b) _ BT.own0.rd
  rw [tkB_len] at cv
  rw [str_is] at cv
  clear BT mt C6
  replace cv : (convert 22 9 (.slice (some ⟨v6.heap.size, 0, none⟩) (dn1 b) (dn1 b))).run Try.prog x6 = .ok (.string ⟨⟨dH b⟩⟩) x6 := cv
  have tc : x6.cell? ⟨q, 4, none⟩ = some (.string ⟨#[]⟩) := T0.cell 4
  have tf := T0.free 4
  have OS := Only.setCell x6 q 4 (.string ⟨⟨dH b⟩⟩)
  have T1 : RwC (x6.setCell ⟨q, 4, none⟩ (.string ⟨⟨dH b⟩⟩)) q [.slice (some ⟨gX, 0, none⟩) 32 32, .slice (some ⟨gY, 0, none⟩) 32 32, .int .i64 (dM b), .int .i64 (dL b), .string ⟨⟨dH b⟩⟩, .string ⟨#[]⟩, .int .i64 (dE b)] 28 := T0.set 4 _
  have C6s := D6.onl OS (by omega)
  have Q1 := Q0.onl OS (by omega)
  have BX1 := BX.of_block (OS.block gX (by omega))
  have BY1 := BY.of_block (OS.block gY (by omega))
  have N1 := N.trans (OS.below (B := w.heap.size) (by omega))
  have zs : x6.heap.size ≤ (x6.setCell ⟨q, 4, none⟩ (.string ⟨⟨dH b⟩⟩)).heap.size := Nat.le_of_eq OS.size.symm
  clear Q0 BX BY N T0 D6 OS
  go_wp2_with fail
  generalize x6.setCell ⟨q, 4, none⟩ (.string ⟨⟨dH b⟩⟩) = u6 at *
  clear tc tf
  have Q0 := Q1
  have BX := BX1
  have BY := BY1
  have N := N1
  have T0 := T1
  have C6 := C6s
  clear Q1 BX1 BY1 N1 T1 C6s
  refine (NU.out u6 (0 + 32 + 32 + 8 + 4 + 4 + 1 + dn1 b) 1 C6 N (by omega) (by omega) (by omega)).mono ?_
  rintro e v7 ⟨rfl, C7, m7⟩
  have zv7 := m7.2.2.2.1
  replace N := N.trans (m7.below (B := w.heap.size) (by omega) (by omega))
  replace Q0 := Q0.newI m7 (by omega)
  replace BX := BX.newI m7 (by omega)
  replace BY := BY.newI m7 (by omega)
  replace T0 := T0.newI m7 (by omega)
  clear C6 m7
  have en : nmV b (0 + 32 + 32 + 8 + 4 + 4 + 1 + dn1 b) 1 = (dn2 b : Int) := by rw [nmV_small hb _ _ (by decide)]; exact L2.out.1.symm
  rw [en]
  clear en
  have ln := L2.out.2
  go_wp2_with fail
  refine (TK.out v7 (0 + 32 + 32 + 8 + 4 + 4 + 1 + dn1 b + 1) (dn2 b) C7 N (by omega) (by omega) (by omega)).mono ?_
  rintro e x7 ⟨rfl, BT, D7, mt⟩
  have zx7 := mt.2.2.2.1
  replace N := N.trans (mt.below (B := w.heap.size) (by omega) (by omega))
  replace Q0 := Q0.newI mt (by omega)
  replace BX := BX.newI mt (by omega)
  replace BY := BY.newI mt (by omega)
  replace T0 := T0.newI mt (by omega)
  have cv := conv_run x7 _ _ (dn2 b) _ BT.own0.rd
  rw [tkB_len] at cv
  rw [str_is] at cv
  clear BT mt C7
  rw [show 0 + 32 + 32 + 8 + 4 + 4 + 1 + dn1 b + 1 = 82 + dn1 b by omega] at cv
  replace cv : (convert 22 9 (.slice (some ⟨v7.heap.size, 0, none⟩) (dn2 b) (dn2 b))).run Try.prog x7 = .ok (.string ⟨⟨dP b⟩⟩) x7 := cv
  have tc : x7.cell? ⟨q, 5, none⟩ = some (.string ⟨#[]⟩) := T0.cell 5
  have tf := T0.free 5
  have OS := Only.setCell x7 q 5 (.string ⟨⟨dP b⟩⟩)
  have T1 : RwC (x7.setCell ⟨q, 5, none⟩ (.string ⟨⟨dP b⟩⟩)) q [.slice (some ⟨gX, 0, none⟩) 32 32, .slice (some ⟨gY, 0, none⟩) 32 32, .int .i64 (dM b), .int .i64 (dL b), .string ⟨⟨dH b⟩⟩, .string ⟨⟨dP b⟩⟩, .int .i64 (dE b)] 28 := T0.set 5 _
  have C7s := D7.onl OS (by omega)
  have Q1 := Q0.onl OS (by omega)
  have BX1 := BX.of_block (OS.block gX (by omega))
  have BY1 := BY.of_block (OS.block gY (by omega))
  have N1 := N.trans (OS.below (B := w.heap.size) (by omega))
  have zs : x7.heap.size ≤ (x7.setCell ⟨q, 5, none⟩ (.string ⟨⟨dP b⟩⟩)).heap.size := Nat.le_of_eq OS.size.symm
  clear Q0 BX BY N T0 D7 OS
  have T9 := T1
  have t0 : (x7.setCell ⟨q, 5, none⟩ (.string ⟨⟨dP b⟩⟩)).cell? ⟨q, 0, none⟩ = some (.slice (some ⟨gX, 0, none⟩) 32 32) := T9.cell 0
  have t1 : (x7.setCell ⟨q, 5, none⟩ (.string ⟨⟨dP b⟩⟩)).cell? ⟨q, 1, none⟩ = some (.slice (some ⟨gY, 0, none⟩) 32 32) := T9.cell 1
  have t2 : (x7.setCell ⟨q, 5, none⟩ (.string ⟨⟨dP b⟩⟩)).cell? ⟨q, 2, none⟩ = some (.int .i64 (dM b)) := T9.cell 2
  have t3 : (x7.setCell ⟨q, 5, none⟩ (.string ⟨⟨dP b⟩⟩)).cell? ⟨q, 3, none⟩ = some (.int .i64 (dL b)) := T9.cell 3
  have t4 : (x7.setCell ⟨q, 5, none⟩ (.string ⟨⟨dP b⟩⟩)).cell? ⟨q, 4, none⟩ = some (.string ⟨⟨dH b⟩⟩) := T9.cell 4
  have t5 : (x7.setCell ⟨q, 5, none⟩ (.string ⟨⟨dP b⟩⟩)).cell? ⟨q, 5, none⟩ = some (.string ⟨⟨dP b⟩⟩) := T9.cell 5
  have t6 : (x7.setCell ⟨q, 5, none⟩ (.string ⟨⟨dP b⟩⟩)).cell? ⟨q, 6, none⟩ = some (.int .i64 (dE b)) := T9.cell 6
  clear T9
  go_wp2_with fail
  generalize x7.setCell ⟨q, 5, none⟩ (.string ⟨⟨dP b⟩⟩) = y0 at *
  clear tc tf
  have HL := hide (show (dH b).length ≤ 1048576 by rw [dH_len]; have := L1.out; omega)
  have PL := hide (show (dP b).length ≤ 1048576 by rw [dP_len]; have := L2.out; omega)
  have SF := hide (specState_any y0 (dM b) (dL b) (dH b) (dP b) (dE b) (some ⟨gX, 0, none⟩) 32 32 (some ⟨gY, 0, none⟩) 32 32 HL.out PL.out)
  refine SF.out.mono ?_
  rintro e y1 ⟨rfl, m1⟩
  have zy := m1.size
  replace N1 := nxt N1 m1
  replace Q1 := Q1.up m1
  replace BX1 := BX1.up m1
  replace BY1 := BY1.up m1
  replace T1 := T1.up m1
  clear SF C7s m1 TK NU cv t0 t1 t2 t3 t4 t5 t6
  by_cases h0 : sfV 32 32 (dM b) (dL b) (dH b) (dP b).length (dE b) = 0
  · rw [h0]
    have DB : Hid (dsB b = decide (esA (dX b) (dY b) (dM b) (dL b) (dH b) (dP b) (dE b) = b)) := by
      show _ = _
      unfold dsB
      rw [dX_len, dY_len, h0]
      simp
    have t0 : y1.cell? ⟨q, 0, none⟩ = some (.slice (some ⟨gX, 0, none⟩) 32 32) := T1.cell 0
    have t1 : y1.cell? ⟨q, 1, none⟩ = some (.slice (some ⟨gY, 0, none⟩) 32 32) := T1.cell 1
    have t2 : y1.cell? ⟨q, 2, none⟩ = some (.int .i64 (dM b)) := T1.cell 2
    have t3 : y1.cell? ⟨q, 3, none⟩ = some (.int .i64 (dL b)) := T1.cell 3
    have t4 : y1.cell? ⟨q, 4, none⟩ = some (.string ⟨⟨dH b⟩⟩) := T1.cell 4
    have t5 : y1.cell? ⟨q, 5, none⟩ = some (.string ⟨⟨dP b⟩⟩) := T1.cell 5
    have t6 : y1.cell? ⟨q, 6, none⟩ = some (.int .i64 (dE b)) := T1.cell 6
    have EN := hide (specEnS_any y1 (dM b) (dL b) (dH b) (dP b) (dE b) gX (some ⟨gX, 0, none⟩) 32 (dX b) BX1.own0.rd (fun h => nomatch h) gY (some ⟨gY, 0, none⟩) 32 (dY b) BY1.own0.rd (fun h => nomatch h) HL.out PL.out)
    rw [dX_len, dY_len] at EN
    have BE : Hid (Byt (esA (dX b) (dY b) (dM b) (dL b) (dH b) (dP b) (dE b))) := byt_esA (tkB_byt hb 0 32) (tkB_byt hb 32 32) _ _ _ _ _
    generalize esA (dX b) (dY b) (dM b) (dL b) (dH b) (dP b) (dE b) = E at *
    clear h0
    go_wp2_with fail
    refine EN.out.mono ?_
    rintro e y2 ⟨v2, rfl, R2, m2⟩
    obtain ⟨a2, c2, g2, rfl, D2, -, -, -⟩ := R2.rd
    have zz := m2.size
    replace N1 := nxt N1 m2
    replace Q1 := Q1.up m2
    replace BX1 := BX1.up m2
    replace BY1 := BY1.up m2
    replace T1 := T1.up m2
    have SA := hide (l1Same_any y2 g2 g a2 a c2 c E b D2 (hr.up N1) BE.out hb)
    clear EN R2 m2 D2 BE t0 t1 t2 t3 t4 t5 t6
    go_wp2_with fail
    refine SA.out.mono ?_
    rintro e y3 ⟨rfl, h3⟩
    have h3 := h3.symm
    subst h3
    by_cases hE : E = b
    · have DG := hide (DB.out.trans (decide_eq_true hE))
      rw [decide_eq_true hE]
      clear SA DB hE
      have t0 : y2.cell? ⟨q, 0, none⟩ = some (.slice (some ⟨gX, 0, none⟩) 32 32) := T1.cell 0
      have t1 : y2.cell? ⟨q, 1, none⟩ = some (.slice (some ⟨gY, 0, none⟩) 32 32) := T1.cell 1
      have t2 : y2.cell? ⟨q, 2, none⟩ = some (.int .i64 (dM b)) := T1.cell 2
      have t3 : y2.cell? ⟨q, 3, none⟩ = some (.int .i64 (dL b)) := T1.cell 3
      have t4 : y2.cell? ⟨q, 4, none⟩ = some (.string ⟨⟨dH b⟩⟩) := T1.cell 4
      have t5 : y2.cell? ⟨q, 5, none⟩ = some (.string ⟨⟨dP b⟩⟩) := T1.cell 5
      have t6 : y2.cell? ⟨q, 6, none⟩ = some (.int .i64 (dE b)) := T1.cell 6
      have qc0 : y2.cell? ⟨w.heap.size, 0, none⟩ = some (.bool false) := Q1.cell 0
      have qf0 := Q1.free 0
      have qc1 : y2.cell? ⟨w.heap.size, 1, none⟩ = some (.slice none 0 0) := Q1.cell 1
      have qf1 := Q1.free 1
      have qc2 : y2.cell? ⟨w.heap.size, 2, none⟩ = some (.slice none 0 0) := Q1.cell 2
      have qf2 := Q1.free 2
      have qc3 : y2.cell? ⟨w.heap.size, 3, none⟩ = some (.int .i64 0) := Q1.cell 3
      have qf3 := Q1.free 3
      have qc4 : y2.cell? ⟨w.heap.size, 4, none⟩ = some (.int .i64 0) := Q1.cell 4
      have qf4 := Q1.free 4
      have qc5 : y2.cell? ⟨w.heap.size, 5, none⟩ = some (.string ⟨#[]⟩) := Q1.cell 5
      have qf5 := Q1.free 5
      have qc6 : y2.cell? ⟨w.heap.size, 6, none⟩ = some (.string ⟨#[]⟩) := Q1.cell 6
      have qf6 := Q1.free 6
      have qc7 : y2.cell? ⟨w.heap.size, 7, none⟩ = some (.int .i64 0) := Q1.cell 7
      have qf7 := Q1.free 7
      have RF : RwC ((((((((y2.setCell ⟨w.heap.size, 0, none⟩ (.bool true)).setCell ⟨w.heap.size, 1, none⟩ (.slice (some ⟨gX, 0, none⟩) 32 32)).setCell ⟨w.heap.size, 2, none⟩ (.slice (some ⟨gY, 0, none⟩) 32 32)).setCell ⟨w.heap.size, 3, none⟩ (.int .i64 (dM b))).setCell ⟨w.heap.size, 4, none⟩ (.int .i64 (dL b))).setCell ⟨w.heap.size, 5, none⟩ (.string ⟨⟨dH b⟩⟩)).setCell ⟨w.heap.size, 6, none⟩ (.string ⟨⟨dP b⟩⟩)).setCell ⟨w.heap.size, 7, none⟩ (.int .i64 (dE b))) w.heap.size [.bool true, .slice (some ⟨gX, 0, none⟩) 32 32, .slice (some ⟨gY, 0, none⟩) 32 32, .int .i64 (dM b), .int .i64 (dL b), .string ⟨⟨dH b⟩⟩, .string ⟨⟨dP b⟩⟩, .int .i64 (dE b)] 36 := ((((((((Q1.set 0 (.bool true)).set 1 (.slice (some ⟨gX, 0, none⟩) 32 32)).set 2 (.slice (some ⟨gY, 0, none⟩) 32 32)).set 3 (.int .i64 (dM b))).set 4 (.int .i64 (dL b))).set 5 (.string ⟨⟨dH b⟩⟩)).set 6 (.string ⟨⟨dP b⟩⟩)).set 7 (.int .i64 (dE b)))
      have OF : Only w.heap.size y2 ((((((((y2.setCell ⟨w.heap.size, 0, none⟩ (.bool true)).setCell ⟨w.heap.size, 1, none⟩ (.slice (some ⟨gX, 0, none⟩) 32 32)).setCell ⟨w.heap.size, 2, none⟩ (.slice (some ⟨gY, 0, none⟩) 32 32)).setCell ⟨w.heap.size, 3, none⟩ (.int .i64 (dM b))).setCell ⟨w.heap.size, 4, none⟩ (.int .i64 (dL b))).setCell ⟨w.heap.size, 5, none⟩ (.string ⟨⟨dH b⟩⟩)).setCell ⟨w.heap.size, 6, none⟩ (.string ⟨⟨dP b⟩⟩)).setCell ⟨w.heap.size, 7, none⟩ (.int .i64 (dE b))) := ((((((((Only.refl w.heap.size y2).trans (Only.setCell _ w.heap.size 0 _)).trans (Only.setCell _ w.heap.size 1 _)).trans (Only.setCell _ w.heap.size 2 _)).trans (Only.setCell _ w.heap.size 3 _)).trans (Only.setCell _ w.heap.size 4 _)).trans (Only.setCell _ w.heap.size 5 _)).trans (Only.setCell _ w.heap.size 6 _)).trans (Only.setCell _ w.heap.size 7 _)
      have RR := RF.rangeG
      have NF := N1.trans (OF.below (B := w.heap.size) (Nat.le_refl _))
      have BX2 := hide (BX1.of_block (OF.block gX (by omega)))
      have BY2 := hide (BY1.of_block (OF.block gY (by omega)))
      clear RF OF
      go_wp2
      exact bodyPost_ret (v := .agg #[.bool true, .slice (some ⟨gX, 0, none⟩) 32 32, .slice (some ⟨gY, 0, none⟩) 32 32, .int .i64 (dM b), .int .i64 (dL b), .string ⟨⟨dH b⟩⟩, .string ⟨⟨dP b⟩⟩, .int .i64 (dE b)]) (results_cellG Try.results30 _ _ w.heap.size _ dR rfl RR hdR hrowR iSr) rfl ⟨NewD.good DG.out BX2.out BY2.out (by omega) (by omega) (by omega), NF⟩
    · have DG := hide (DB.out.trans (decide_eq_false hE))
      rw [decide_eq_false hE]
      clear SA DB hE
      have qc0 : y2.cell? ⟨w.heap.size, 0, none⟩ = some (.bool false) := Q1.cell 0
      have qf0 := Q1.free 0
      have qc1 : y2.cell? ⟨w.heap.size, 1, none⟩ = some (.slice none 0 0) := Q1.cell 1
      have qf1 := Q1.free 1
      have qc2 : y2.cell? ⟨w.heap.size, 2, none⟩ = some (.slice none 0 0) := Q1.cell 2
      have qf2 := Q1.free 2
      have qc3 : y2.cell? ⟨w.heap.size, 3, none⟩ = some (.int .i64 0) := Q1.cell 3
      have qf3 := Q1.free 3
      have qc4 : y2.cell? ⟨w.heap.size, 4, none⟩ = some (.int .i64 0) := Q1.cell 4
      have qf4 := Q1.free 4
      have qc5 : y2.cell? ⟨w.heap.size, 5, none⟩ = some (.string ⟨#[]⟩) := Q1.cell 5
      have qf5 := Q1.free 5
      have qc6 : y2.cell? ⟨w.heap.size, 6, none⟩ = some (.string ⟨#[]⟩) := Q1.cell 6
      have qf6 := Q1.free 6
      have qc7 : y2.cell? ⟨w.heap.size, 7, none⟩ = some (.int .i64 0) := Q1.cell 7
      have qf7 := Q1.free 7
      have RF : RwC ((((((((y2.setCell ⟨w.heap.size, 0, none⟩ (.bool false)).setCell ⟨w.heap.size, 1, none⟩ (.slice none 0 0)).setCell ⟨w.heap.size, 2, none⟩ (.slice none 0 0)).setCell ⟨w.heap.size, 3, none⟩ (.int .i64 0)).setCell ⟨w.heap.size, 4, none⟩ (.int .i64 0)).setCell ⟨w.heap.size, 5, none⟩ (.string ⟨#[]⟩)).setCell ⟨w.heap.size, 6, none⟩ (.string ⟨#[]⟩)).setCell ⟨w.heap.size, 7, none⟩ (.int .i64 0)) w.heap.size [.bool false, .slice none 0 0, .slice none 0 0, .int .i64 0, .int .i64 0, .string ⟨#[]⟩, .string ⟨#[]⟩, .int .i64 0] 36 := ((((((((Q1.set 0 (.bool false)).set 1 (.slice none 0 0)).set 2 (.slice none 0 0)).set 3 (.int .i64 0)).set 4 (.int .i64 0)).set 5 (.string ⟨#[]⟩)).set 6 (.string ⟨#[]⟩)).set 7 (.int .i64 0))
      have OF : Only w.heap.size y2 ((((((((y2.setCell ⟨w.heap.size, 0, none⟩ (.bool false)).setCell ⟨w.heap.size, 1, none⟩ (.slice none 0 0)).setCell ⟨w.heap.size, 2, none⟩ (.slice none 0 0)).setCell ⟨w.heap.size, 3, none⟩ (.int .i64 0)).setCell ⟨w.heap.size, 4, none⟩ (.int .i64 0)).setCell ⟨w.heap.size, 5, none⟩ (.string ⟨#[]⟩)).setCell ⟨w.heap.size, 6, none⟩ (.string ⟨#[]⟩)).setCell ⟨w.heap.size, 7, none⟩ (.int .i64 0)) := ((((((((Only.refl w.heap.size y2).trans (Only.setCell _ w.heap.size 0 _)).trans (Only.setCell _ w.heap.size 1 _)).trans (Only.setCell _ w.heap.size 2 _)).trans (Only.setCell _ w.heap.size 3 _)).trans (Only.setCell _ w.heap.size 4 _)).trans (Only.setCell _ w.heap.size 5 _)).trans (Only.setCell _ w.heap.size 6 _)).trans (Only.setCell _ w.heap.size 7 _)
      have RR := RF.rangeG
      have NF := N1.trans (OF.below (B := w.heap.size) (Nat.le_refl _))
      have KF : w.heap.size + 1 < ((((((((y2.setCell ⟨w.heap.size, 0, none⟩ (.bool false)).setCell ⟨w.heap.size, 1, none⟩ (.slice none 0 0)).setCell ⟨w.heap.size, 2, none⟩ (.slice none 0 0)).setCell ⟨w.heap.size, 3, none⟩ (.int .i64 0)).setCell ⟨w.heap.size, 4, none⟩ (.int .i64 0)).setCell ⟨w.heap.size, 5, none⟩ (.string ⟨#[]⟩)).setCell ⟨w.heap.size, 6, none⟩ (.string ⟨#[]⟩)).setCell ⟨w.heap.size, 7, none⟩ (.int .i64 0)).heap.size := by rw [OF.size]; omega
      clear RF OF
      go_wp2
      exact bodyPost_ret (v := .agg #[.bool false, .slice none 0 0, .slice none 0 0, .int .i64 0, .int .i64 0, .string ⟨#[]⟩, .string ⟨#[]⟩, .int .i64 0]) (results_cellG Try.results30 _ _ w.heap.size _ dR rfl RR hdR hrowR iSr) rfl ⟨NewD.bad DG.out (g := w.heap.size) (g' := w.heap.size + 1) (by omega) (Nat.le_refl _) (by omega) (by omega) KF, NF⟩
  · have DG : Hid (dsB b = false) := by
      show _ = _
      unfold dsB
      rw [dX_len, dY_len]
      simp [h0]
    generalize sfV 32 32 (dM b) (dL b) (dH b) (dP b).length (dE b) = R at *
    have qc0 : y1.cell? ⟨w.heap.size, 0, none⟩ = some (.bool false) := Q1.cell 0
    have qf0 := Q1.free 0
    have qc1 : y1.cell? ⟨w.heap.size, 1, none⟩ = some (.slice none 0 0) := Q1.cell 1
    have qf1 := Q1.free 1
    have qc2 : y1.cell? ⟨w.heap.size, 2, none⟩ = some (.slice none 0 0) := Q1.cell 2
    have qf2 := Q1.free 2
    have qc3 : y1.cell? ⟨w.heap.size, 3, none⟩ = some (.int .i64 0) := Q1.cell 3
    have qf3 := Q1.free 3
    have qc4 : y1.cell? ⟨w.heap.size, 4, none⟩ = some (.int .i64 0) := Q1.cell 4
    have qf4 := Q1.free 4
    have qc5 : y1.cell? ⟨w.heap.size, 5, none⟩ = some (.string ⟨#[]⟩) := Q1.cell 5
    have qf5 := Q1.free 5
    have qc6 : y1.cell? ⟨w.heap.size, 6, none⟩ = some (.string ⟨#[]⟩) := Q1.cell 6
    have qf6 := Q1.free 6
    have qc7 : y1.cell? ⟨w.heap.size, 7, none⟩ = some (.int .i64 0) := Q1.cell 7
    have qf7 := Q1.free 7
    have RF : RwC ((((((((y1.setCell ⟨w.heap.size, 0, none⟩ (.bool false)).setCell ⟨w.heap.size, 1, none⟩ (.slice none 0 0)).setCell ⟨w.heap.size, 2, none⟩ (.slice none 0 0)).setCell ⟨w.heap.size, 3, none⟩ (.int .i64 0)).setCell ⟨w.heap.size, 4, none⟩ (.int .i64 0)).setCell ⟨w.heap.size, 5, none⟩ (.string ⟨#[]⟩)).setCell ⟨w.heap.size, 6, none⟩ (.string ⟨#[]⟩)).setCell ⟨w.heap.size, 7, none⟩ (.int .i64 0)) w.heap.size [.bool false, .slice none 0 0, .slice none 0 0, .int .i64 0, .int .i64 0, .string ⟨#[]⟩, .string ⟨#[]⟩, .int .i64 0] 36 := ((((((((Q1.set 0 (.bool false)).set 1 (.slice none 0 0)).set 2 (.slice none 0 0)).set 3 (.int .i64 0)).set 4 (.int .i64 0)).set 5 (.string ⟨#[]⟩)).set 6 (.string ⟨#[]⟩)).set 7 (.int .i64 0))
    have OF : Only w.heap.size y1 ((((((((y1.setCell ⟨w.heap.size, 0, none⟩ (.bool false)).setCell ⟨w.heap.size, 1, none⟩ (.slice none 0 0)).setCell ⟨w.heap.size, 2, none⟩ (.slice none 0 0)).setCell ⟨w.heap.size, 3, none⟩ (.int .i64 0)).setCell ⟨w.heap.size, 4, none⟩ (.int .i64 0)).setCell ⟨w.heap.size, 5, none⟩ (.string ⟨#[]⟩)).setCell ⟨w.heap.size, 6, none⟩ (.string ⟨#[]⟩)).setCell ⟨w.heap.size, 7, none⟩ (.int .i64 0)) := ((((((((Only.refl w.heap.size y1).trans (Only.setCell _ w.heap.size 0 _)).trans (Only.setCell _ w.heap.size 1 _)).trans (Only.setCell _ w.heap.size 2 _)).trans (Only.setCell _ w.heap.size 3 _)).trans (Only.setCell _ w.heap.size 4 _)).trans (Only.setCell _ w.heap.size 5 _)).trans (Only.setCell _ w.heap.size 6 _)).trans (Only.setCell _ w.heap.size 7 _)
    have RR := RF.rangeG
    have NF := N1.trans (OF.below (B := w.heap.size) (Nat.le_refl _))
    have KF : w.heap.size + 1 < ((((((((y1.setCell ⟨w.heap.size, 0, none⟩ (.bool false)).setCell ⟨w.heap.size, 1, none⟩ (.slice none 0 0)).setCell ⟨w.heap.size, 2, none⟩ (.slice none 0 0)).setCell ⟨w.heap.size, 3, none⟩ (.int .i64 0)).setCell ⟨w.heap.size, 4, none⟩ (.int .i64 0)).setCell ⟨w.heap.size, 5, none⟩ (.string ⟨#[]⟩)).setCell ⟨w.heap.size, 6, none⟩ (.string ⟨#[]⟩)).setCell ⟨w.heap.size, 7, none⟩ (.int .i64 0)).heap.size := by rw [OF.size]; omega
    clear RF OF
    go_wp2
    exact bodyPost_ret (v := .agg #[.bool false, .slice none 0 0, .slice none 0 0, .int .i64 0, .int .i64 0, .string ⟨#[]⟩, .string ⟨#[]⟩, .int .i64 0]) (results_cellG Try.results30 _ _ w.heap.size _ dR rfl RR hdR hrowR iSr) rfl ⟨NewD.bad DG.out (g := w.heap.size) (g' := w.heap.size + 1) (by omega) (Nat.le_refl _) (by omega) (by omega) KF, NF⟩
end Go.Proofs.Ytcljoaknaegpmaa

/-
  A ticket sealed; the program's (written by gens/sli.py).
-/
namespace Go.Proofs.Ytcljoaknaegpmaa
open Go Go.RowKit

/-- The six bytes that go along with the seal. -/
def tkM : List Int := [116, 105, 99, 107, 101, 116]
theorem tkM_byt : Byt tkM := fun i => by
  match i with
  | 0 | 1 | 2 | 3 | 4 | 5 => exact ⟨by decide, by decide⟩
  | n + 6 => exact ⟨by simp [tkM], by simp [tkM]⟩
/-- A sealed ticket, of a state's bytes. -/
def slA (key non E : List Int) : List Int := if 0 < E.length ∧ key.length = 32 ∧ non.length = 12 then non ++ seA key non tkM E else []
theorem slA_len (key non E : List Int) (h : E.length ≤ 242) : (slA key non E).length ≤ 300 := by
  unfold slA
  split
  · rename_i q
    rw [List.length_append]
    have := seA_len key non tkM E
    omega
  · simp
theorem esA_pos (X Y : List Int) (md li : Int) (ho pr : List UInt8) (ea : Int) : 0 < (esA X Y md li ho pr ea).length ↔ sfV X.length Y.length md li ho pr.length ea = 0 := by
  unfold esA
  by_cases h : sfV X.length Y.length md li ho pr.length ea = 0
  · rw [if_pos h, esL_len]
    exact ⟨fun _ => h, fun _ => by omega⟩
  · rw [if_neg h]
    exact ⟨fun q => absurd q (by simp), fun q => absurd q h⟩
theorem rd_tkM (w : World) (e : TypeId) (m : Nat × Nat) : Rd (w.alloc (.cells #[.int .u8 116, .int .u8 105, .int .u8 99, .int .u8 107, .int .u8 101, .int .u8 116] e m)) w.heap.size (some ⟨w.heap.size, 0, none⟩) .u8 tkM := fun _ => ⟨0, rfl, fun i hi => by
  have h : (w.alloc (.cells #[.int .u8 116, .int .u8 105, .int .u8 99, .int .u8 107, .int .u8 101, .int .u8 116] e m)).heap[w.heap.size]? = some (.cells #[.int .u8 116, .int .u8 105, .int .u8 99, .int .u8 107, .int .u8 101, .int .u8 116] e m) := heap_alloc_new w _
  have hi : i < 6 := hi
  simp only [World.cell?, h]
  rcases (by omega : i = 0 ∨ i = 1 ∨ i = 2 ∨ i = 3 ∨ i = 4 ∨ i = 5) with rfl | rfl | rfl | rfl | rfl | rfl
  all_goals rfl⟩
set_option maxRecDepth 100000 in
set_option maxHeartbeats 8000000 in
theorem implSl_any (w : World) (g : Nat) (a : Option Addr) (c : Nat) (key : List Int) (hr : Rd w g a .u8 key) (hb : Byt key) (hc : key.length ≤ c) (g' : Nat) (a' : Option Addr) (c' : Nat) (non : List Int) (hr' : Rd w g' a' .u8 non) (hb' : Byt non) (hz' : a' = none → c' = 0) (hc' : non.length ≤ c')
    (md li : Int) (ho pr : List UInt8) (ea : Int) (gx : Nat) (ax : Option Addr) (cx : Nat) (X : List Int) (hx : Rd w gx ax .u8 X) (bx : Byt X) (zx : ax = none → cx = 0) (gy : Nat) (ay : Option Addr) (cy : Nat) (Y : List Int) (hy : Rd w gy ay .u8 Y) (bY : Byt Y) (zy : ay = none → cy = 0) (hh : ho.length ≤ 1048576) (hp : pr.length ≤ 1048576) :
    Calls Try.prog 9 #[.slice a key.length c, .slice a' non.length c', .agg #[.slice ax X.length cx, .slice ay Y.length cy, .int .i64 md, .int .i64 li, .string ⟨⟨ho⟩⟩, .string ⟨⟨pr⟩⟩, .int .i64 ea]] w fun e w' => ∃ v, e = .returned v ∧ RowB w' w.heap.size v (slA key non (esA X Y md li ho pr ea)) ∧ Below w.heap.size w w' := by
  have n1 : Below w.heap.size w (w.alloc (.cells #[.slice ax X.length cx, .slice ay Y.length cy, .int .i64 md, .int .i64 li, .string ⟨⟨ho⟩⟩, .string ⟨⟨pr⟩⟩, .int .i64 ea] 28)) := (Below.refl _ _).alloc (Nat.le_refl _) _
  have P0 : RwC (w.alloc (.cells #[.slice ax X.length cx, .slice ay Y.length cy, .int .i64 md, .int .i64 li, .string ⟨⟨ho⟩⟩, .string ⟨⟨pr⟩⟩, .int .i64 ea] 28)) w.heap.size [.slice ax X.length cx, .slice ay Y.length cy, .int .i64 md, .int .i64 li, .string ⟨⟨ho⟩⟩, .string ⟨⟨pr⟩⟩, .int .i64 ea] 28 := RwC.new w _ _
  have EN := hide (implEnS_any (w.alloc (.cells #[.slice ax X.length cx, .slice ay Y.length cy, .int .i64 md, .int .i64 li, .string ⟨⟨ho⟩⟩, .string ⟨⟨pr⟩⟩, .int .i64 ea] 28)) md li ho pr ea gx ax cx X (hx.up n1) zx gy ay cy Y (hy.up n1) zy hh hp)
  have BE : Hid (Byt (esA X Y md li ho pr ea)) := byt_esA bx bY _ _ _ _ _
  have EL := hide (esA_len X Y md li ho pr ea)
  generalize esA X Y md li ho pr ea = E at *
  clear hx hy bx bY zx zy hh hp
  have e1 : Hid (slA key non E = if 0 < E.length ∧ key.length = 32 ∧ non.length = 12 then non ++ seA key non tkM E else []) := rfl
  have KY := fun W => isKey_any W a a' key.length non.length c c'
  by_cases h0 : 0 < E.length
  · have u0 : decide ((E.length : Int) = 0) = false := decide_eq_false (by omega)
    have u0' : ((E.length : Int) == 0) = false := beq_eq_false_iff_ne.2 (by omega)
    by_cases h1 : key.length = 32 ∧ non.length = 12
    · have kt : (decide (key.length = 32) && decide (non.length = 12)) = true := by simp [h1]
      rw [kt] at KY
      have e2 : Hid (slA key non E = non ++ seA key non tkM E) := by show _ = _; rw [e1.out, if_pos ⟨h0, h1⟩]
      rw [e2.out]
      clear e1 e2 kt
      have H1 := hide h1
      have SL := hide (seA_len key non tkM E)
      obtain ⟨T, hT⟩ : ∃ T, Hid (T = seA key non tkM E) := ⟨_, rfl⟩
      rw [← hT.out] at SL ⊢
      clear h1
      go_enter Try.func9, Try.ntmps9
      go_wp2_with fail
      generalize w.alloc (.cells #[.slice ax X.length cx, .slice ay Y.length cy, .int .i64 md, .int .i64 li, .string ⟨⟨ho⟩⟩, .string ⟨⟨pr⟩⟩, .int .i64 ea] 28) = wa at *
      refine EN.out.mono ?_
      rintro e w1 ⟨v1, rfl, R1, m1⟩
      have N := nxt n1 m1
      obtain ⟨a1, c1, g1, rfl, D1, z1, l1, -⟩ := R1.rd
      clear EN R1 n1 m1 P0
      go_wp2_with fail
      refine (KY _).mono ?_
      rintro e w2 ⟨rfl, h2⟩
      have h2 := h2.symm
      subst h2
      have n3 : Below w1.heap.size w1 (w1.alloc (.cells #[.int .u8 116, .int .u8 105, .int .u8 99, .int .u8 107, .int .u8 101, .int .u8 116] 5 (6, 7))) := (Below.refl _ _).alloc (Nat.le_refl _) _
      have BM := rd_tkM w1 5 (6, 7)
      have kc := Lib.run_convert_bytes_const (P := Try.prog) w1 22 5 #[.int .u8 116, .int .u8 105, .int .u8 99, .int .u8 107, .int .u8 101, .int .u8 116] 6 6 Try.underlying22 Try.underlying5
      have N3 := nxt N n3
      have SE := hide (implSeal_any (w1.alloc (.cells #[.int .u8 116, .int .u8 105, .int .u8 99, .int .u8 107, .int .u8 101, .int .u8 116] 5 (6, 7))) g a c key (hr.up N3) hb hc g' a' c' non (hr'.up N3) hb' hc' w1.heap.size (some ⟨w1.heap.size, 0, none⟩) 6 tkM BM tkM_byt (fun h => nomatch h) g1 a1 c1 E (D1.up n3) BE.out (by have := EL.out; show 6 + _ ≤ _; omega))
      rw [← hT.out] at SE
      clear BM n3 D1 KY
      rw [show tkM.length = 6 from rfl] at SE
      go_wp2_with fail
      clear kc
      generalize w1.alloc (.cells #[.int .u8 116, .int .u8 105, .int .u8 99, .int .u8 107, .int .u8 101, .int .u8 116] 5 (6, 7)) = w3 at *
      refine SE.out.mono ?_
      rintro e w4 ⟨⟨v4, rfl, R4⟩, m4⟩
      obtain ⟨a4, c4, g4, rfl, D4, z4, -, -⟩ := R4.rd
      have N4 := nxt N3 m4
      have LT := lsts_twoS w4 22 ⟨g', a', c', non⟩ ⟨g4, a4, c4, T⟩
      have n5 : Below w4.heap.size w4 (w4.alloc (.cells #[.slice a' non.length c', .slice a4 T.length c4] 22)) := (Below.refl _ _).alloc (Nat.le_refl _) _
      have D0 := hr'.up N4
      have CC := concatB_any (w4.alloc (.cells #[.slice a' non.length c', .slice a4 T.length c4] 22)) w4.heap.size 2 2 [⟨g', a', c', non⟩, ⟨g4, a4, c4, T⟩] rfl (by omega) LT (by
        intro x hx
        simp only [List.mem_cons, List.not_mem_nil, or_false] at hx
        rcases hx with rfl | rfl
        · exact ⟨D0.up n5, hz'⟩
        · exact ⟨D4.up n5, z4⟩) (by rw [cat2S, List.length_append]; have := H1.out; show 0 < non.length + T.length; omega) (by rw [cat2S, List.length_append]; have := H1.out; have := SL.out; have := EL.out; show non.length + T.length ≤ _; omega)
      rw [cat2S] at CC
      replace CC := hide CC
      have N5 := nxt N4 n5
      clear D0 D4 LT n5 R4 m4 SE
      go_wp2_with fail
      refine CC.out.mono ?_
      rintro e w6 ⟨⟨v6, rfl, R6⟩, m6⟩
      have zz := N5.size
      have N6 := nxt N5 m6
      go_wp2
      go_ret
      exact ⟨_, rfl, R6.base zz, N6⟩
    · have kt : (decide (key.length = 32) && decide (non.length = 12)) = false := by
        cases q : (decide (key.length = 32) && decide (non.length = 12))
        · rfl
        · simp at q; exact absurd q h1
      rw [kt] at KY
      have e2 : Hid (slA key non E = []) := by show _ = _; rw [e1.out, if_neg (fun q => h1 q.2)]
      rw [e2.out]
      clear e1 e2 kt h1
      go_enter Try.func9, Try.ntmps9
      go_wp2_with fail
      generalize w.alloc (.cells #[.slice ax X.length cx, .slice ay Y.length cy, .int .i64 md, .int .i64 li, .string ⟨⟨ho⟩⟩, .string ⟨⟨pr⟩⟩, .int .i64 ea] 28) = wa at *
      refine EN.out.mono ?_
      rintro e w1 ⟨v1, rfl, R1, m1⟩
      have N := nxt n1 m1
      obtain ⟨a1, c1, g1, rfl, D1, z1, l1, -⟩ := R1.rd
      go_wp2_with fail
      refine (KY _).mono ?_
      rintro e w2 ⟨rfl, h2⟩
      have h2 := h2.symm
      subst h2
      go_wp2
      go_ret
      exact ⟨_, rfl, RowB.nilN _ _, N⟩
  · have e2 : Hid (slA key non E = []) := by show _ = _; rw [e1.out, if_neg (fun q => h0 q.1)]
    have h0' : E.length = 0 := by omega
    rw [e2.out]
    clear e1 e2
    go_enter Try.func9, Try.ntmps9
    go_wp2_with fail
    generalize w.alloc (.cells #[.slice ax X.length cx, .slice ay Y.length cy, .int .i64 md, .int .i64 li, .string ⟨⟨ho⟩⟩, .string ⟨⟨pr⟩⟩, .int .i64 ea] 28) = wa at *
    refine EN.out.mono ?_
    rintro e w1 ⟨v1, rfl, R1, m1⟩
    have N := nxt n1 m1
    obtain ⟨a1, c1, g1, rfl, D1, z1, l1, -⟩ := R1.rd
    rw [h0']
    go_wp2
    go_ret
    exact ⟨_, rfl, RowB.nilN _ _, N⟩
end Go.Proofs.Ytcljoaknaegpmaa

/-
  The model's turning and quarter (written by gens/spc.py).
-/
namespace Go.Proofs.Ytcljoaknaegpmaa
open Go Go.RowKit

/-- Four places, each another one. -/
structure Ne4 (i j k l : Nat) : Prop where
  ij : i ≠ j
  ik : i ≠ k
  il : i ≠ l
  jk : j ≠ k
  jl : j ≠ l
  kl : k ≠ l
section
variable {ys : List Int} {i j k l n : Nat} (hn : ys.length = n) (ne : Ne4 i j k l) (s : Q4)
theorem set4_i {ys : List Int} {i j k l : Nat} (ne : Ne4 i j k l) (s : Q4) {x : Int} : (put4 ys i j k l s).set i x = put4 ys i j k l ⟨x, s.b, s.c, s.d⟩ := by
  unfold put4
  rw [List.set_comm _ _ (Ne.symm ne.il), List.set_comm _ _ (Ne.symm ne.ik), List.set_comm _ _ (Ne.symm ne.ij), List.set_set]
theorem set4_j {ys : List Int} {i j k l : Nat} (ne : Ne4 i j k l) (s : Q4) {x : Int} : (put4 ys i j k l s).set j x = put4 ys i j k l ⟨s.a, x, s.c, s.d⟩ := by
  unfold put4
  rw [List.set_comm _ _ (Ne.symm ne.jl), List.set_comm _ _ (Ne.symm ne.jk), List.set_set]
theorem set4_k {ys : List Int} {i j k l : Nat} (ne : Ne4 i j k l) (s : Q4) {x : Int} : (put4 ys i j k l s).set k x = put4 ys i j k l ⟨s.a, s.b, x, s.d⟩ := by
  unfold put4
  rw [List.set_comm _ _ (Ne.symm ne.kl), List.set_set]
theorem set4_l {ys : List Int} {i j k l : Nat} (_ : Ne4 i j k l) (s : Q4) {x : Int} : (put4 ys i j k l s).set l x = put4 ys i j k l ⟨s.a, s.b, s.c, x⟩ := by
  unfold put4
  rw [List.set_set]
theorem put4_i {ys : List Int} {i j k l n : Nat} (hn : ys.length = n) (ne : Ne4 i j k l) (s : Q4) (h : i < n) : (put4 ys i j k l s).getD i 0 = s.a := by
  unfold put4
  rw [getD_set_ne _ _ _ _ (Ne.symm ne.il), getD_set_ne _ _ _ _ (Ne.symm ne.ik), getD_set_ne _ _ _ _ (Ne.symm ne.ij), getD_set_self _ _ _ (by rw [hn]; exact h)]
theorem put4_j {ys : List Int} {i j k l n : Nat} (hn : ys.length = n) (ne : Ne4 i j k l) (s : Q4) (h : j < n) : (put4 ys i j k l s).getD j 0 = s.b := by
  unfold put4
  rw [getD_set_ne _ _ _ _ (Ne.symm ne.jl), getD_set_ne _ _ _ _ (Ne.symm ne.jk), getD_set_self _ _ _ (by rw [List.length_set, hn]; exact h)]
theorem put4_k {ys : List Int} {i j k l n : Nat} (hn : ys.length = n) (ne : Ne4 i j k l) (s : Q4) (h : k < n) : (put4 ys i j k l s).getD k 0 = s.c := by
  unfold put4
  rw [getD_set_ne _ _ _ _ (Ne.symm ne.kl), getD_set_self _ _ _ (by rw [List.length_set, List.length_set, hn]; exact h)]
theorem put4_l {ys : List Int} {i j k l n : Nat} (hn : ys.length = n) (_ : Ne4 i j k l) (s : Q4) (h : l < n) : (put4 ys i j k l s).getD l 0 = s.d := by
  unfold put4
  rw [getD_set_self _ _ _ (by rw [List.length_set, List.length_set, List.length_set, hn]; exact h)]
theorem put4_self {ys : List Int} {i j k l : Nat} (ne : Ne4 i j k l) : put4 ys i j k l (get4 ys i j k l) = ys := by
  refine eq_of_getD (put4_len _ _ _ _ _ _) (fun m hm => ?_)
  rw [put4_len] at hm
  by_cases h1 : l = m
  · subst h1; exact put4_l rfl ne _ hm
  by_cases h2 : k = m
  · subst h2; exact put4_k rfl ne _ hm
  by_cases h3 : j = m
  · subst h3; exact put4_j rfl ne _ hm
  by_cases h4 : i = m
  · subst h4; exact put4_i rfl ne _ hm
  unfold put4
  rw [getD_set_ne _ _ _ _ h1, getD_set_ne _ _ _ _ h2, getD_set_ne _ _ _ _ h3, getD_set_ne _ _ _ _ h4]
end
set_option maxHeartbeats 1000000 in
theorem left_any (w : World) (x : Int) (h : W4 x) (n : Nat) (h0 : 0 < n) (h1 : n < 32) : Calls Try.prog 94 #[.int .u32 x, .int .u64 (n : Int)] w fun e w' => ∃ v, e = .returned v ∧ Below w.heap.size w w' ∧ v = .int .u32 (lf x n) := by
  obtain ⟨x0, x1⟩ := h
  go_enter Try.func94, Try.ntmps94
  go_wp2
  go_ret
  exact ⟨_, rfl, Below.refl _ _, rfl⟩
theorem info16 : (Try.prog.info? 58).map (·.size) = some 16 := by kernel_rfl
theorem und16 : Try.prog.underlying 58 = some (.array 16 57) := by kernel_rfl
set_option maxRecDepth 100000 in
set_option maxHeartbeats 8000000 in
theorem l8Quarter_any (w : World) (ys : List Int) (hw : Ws ys) (hl0 : ys.length = 16) (x1 x2 x3 x4 : Nat) (hi : x1 < 16) (hj : x2 < 16) (hk : x3 < 16) (hll : x4 < 16) (ne : Ne4 x1 x2 x3 x4) :
    Calls Try.prog 72 #[ag .u32 ys, .int .i64 (x1 : Int), .int .i64 (x2 : Int), .int .i64 (x3 : Int), .int .i64 (x4 : Int)] w fun e w' => e = .returned (ag .u32 (qrL ys x1 x2 x3 x4)) ∧ Below w.heap.size w w' := by
  have B0 := blk_alloc w .u32 58 ys
  have n0 : Below w.heap.size w (w.alloc (.cells (ys.map (Value.int .u32)).toArray 58)) := (Below.refl _ _).alloc (Nat.le_refl _) _
  have z0 : (w.alloc (.cells (ys.map (Value.int .u32)).toArray 58)).heap.size = w.heap.size + 1 := by simp
  have HL := hide hl0
  have hl := hll
  clear hl0 hll
  have pi : (x1 : Int) < 16 := by omega
  have pj : (x2 : Int) < 16 := by omega
  have pk : (x3 : Int) < 16 := by omega
  have pl : (x4 : Int) < 16 := by omega
  have so := hw.get4 x1 x2 x3 x4
  have so1 := qH_ok so 16 12
  have L1 := fun u => hide (left_any u _ (xor_w4 so.2.2.2 (qA_w (get4 ys x1 x2 x3 x4))) 16 (by decide) (by decide))
  have L2 := fun u => hide (left_any u _ (xor_w4 so.2.1 (qC_w (get4 ys x1 x2 x3 x4) 16)) 12 (by decide) (by decide))
  have L3 := fun u => hide (left_any u _ (xor_w4 so1.2.2.2 (qA_w (qH (get4 ys x1 x2 x3 x4) 16 12))) 8 (by decide) (by decide))
  have L4 := fun u => hide (left_any u _ (xor_w4 so1.2.1 (qC_w (qH (get4 ys x1 x2 x3 x4) 16 12) 8)) 7 (by decide) (by decide))
  have hB : Blk (w.alloc (.cells (ys.map (Value.int .u32)).toArray 58)) w.heap.size .u32 (put4 ys x1 x2 x3 x4 (get4 ys x1 x2 x3 x4)) := by rw [put4_self ne]; exact B0
  have QE : Hid (qrL ys x1 x2 x3 x4 = put4 ys x1 x2 x3 x4 (qr (get4 ys x1 x2 x3 x4))) := rfl
  rw [QE.out]
  clear QE so so1
  obtain ⟨s0, hs0⟩ : ∃ s, s = get4 ys x1 x2 x3 x4 := ⟨_, rfl⟩
  rw [← hs0] at hB ⊢
  simp only [← hs0] at L1 L2 L3 L4
  clear hs0 hw B0
  obtain ⟨A, B, C, D⟩ := s0
  have E0 : Hid (qr ⟨A, B, C, D⟩ = ⟨qA (qH ⟨A, B, C, D⟩ 16 12), qB (qH ⟨A, B, C, D⟩ 16 12) 8 7, qC (qH ⟨A, B, C, D⟩ 16 12) 8, qD (qH ⟨A, B, C, D⟩ 16 12) 8⟩) := rfl
  rw [E0.out]
  clear E0
  have f1 : Hid ((A + B) % 4294967296 = qA ⟨A, B, C, D⟩) := rfl
  have f3 : Hid ((C + qD ⟨A, B, C, D⟩ 16) % 4294967296 = qC ⟨A, B, C, D⟩ 16) := rfl
  have f5 : Hid ((qA ⟨A, B, C, D⟩ + qB ⟨A, B, C, D⟩ 16 12) % 4294967296 = qA (qH ⟨A, B, C, D⟩ 16 12)) := rfl
  have f7 : Hid ((qC ⟨A, B, C, D⟩ 16 + qD (qH ⟨A, B, C, D⟩ 16 12) 8) % 4294967296 = qC (qH ⟨A, B, C, D⟩ 16 12) 8) := rfl
  have L1 : ∀ u, Hid (Calls Try.prog 94 #[.int .u32 (bits BinOp.xor IntKind.u32 D (qA ⟨A, B, C, D⟩)), .int .u64 16] u fun e w' => ∃ v, e = .returned v ∧ Below u.heap.size u w' ∧ v = .int .u32 (qD ⟨A, B, C, D⟩ 16)) := L1
  have L2 : ∀ u, Hid (Calls Try.prog 94 #[.int .u32 (bits BinOp.xor IntKind.u32 B (qC ⟨A, B, C, D⟩ 16)), .int .u64 12] u fun e w' => ∃ v, e = .returned v ∧ Below u.heap.size u w' ∧ v = .int .u32 (qB ⟨A, B, C, D⟩ 16 12)) := L2
  have L3 : ∀ u, Hid (Calls Try.prog 94 #[.int .u32 (bits BinOp.xor IntKind.u32 (qD ⟨A, B, C, D⟩ 16) (qA (qH ⟨A, B, C, D⟩ 16 12))), .int .u64 8] u fun e w' => ∃ v, e = .returned v ∧ Below u.heap.size u w' ∧ v = .int .u32 (qD (qH ⟨A, B, C, D⟩ 16 12) 8)) := L3
  have L4 : ∀ u, Hid (Calls Try.prog 94 #[.int .u32 (bits BinOp.xor IntKind.u32 (qB ⟨A, B, C, D⟩ 16 12) (qC (qH ⟨A, B, C, D⟩ 16 12) 8)), .int .u64 7] u fun e w' => ∃ v, e = .returned v ∧ Below u.heap.size u w' ∧ v = .int .u32 (qB (qH ⟨A, B, C, D⟩ 16 12) 8 7)) := L4
  generalize qA (qH ⟨A, B, C, D⟩ 16 12) = A2 at *
  generalize qB (qH ⟨A, B, C, D⟩ 16 12) 8 7 = B2 at *
  generalize qC (qH ⟨A, B, C, D⟩ 16 12) 8 = C2 at *
  generalize qD (qH ⟨A, B, C, D⟩ 16 12) 8 = D2 at *
  generalize qA ⟨A, B, C, D⟩ = A1 at *
  generalize qD ⟨A, B, C, D⟩ 16 = D1 at *
  generalize qC ⟨A, B, C, D⟩ 16 = C1 at *
  generalize qB ⟨A, B, C, D⟩ 16 12 = B1 at *
  have VY : Hid (ag .u32 ys = Value.agg (ys.map (Value.int .u32)).toArray) := rfl
  rw [VY.out]
  obtain ⟨vs0, hvs0⟩ : ∃ vs, vs = ys.map (Value.int .u32) := ⟨_, rfl⟩
  rw [← hvs0] at hB n0 z0 ⊢
  clear hvs0 VY
  go_enter Try.func72, Try.ntmps72
  go_upto_region 1 with fail
  generalize w.alloc (.cells vs0.toArray 58) = wa at *
  have n1 : Below wa.heap.size wa (wa.alloc (.cells #[.int .u32 0, .int .u32 0, .int .u32 0, .int .u32 0, .int .u32 0, .int .u32 0, .int .u32 0, .int .u32 0, .int .u32 0, .int .u32 0, .int .u32 0, .int .u32 0, .int .u32 0, .int .u32 0, .int .u32 0, .int .u32 0] 58)) := (Below.refl _ _).alloc (Nat.le_refl _) _
  have hZ := blk_z16 wa 58
  generalize wa.alloc (.cells #[.int .u32 0, .int .u32 0, .int .u32 0, .int .u32 0, .int .u32 0, .int .u32 0, .int .u32 0, .int .u32 0, .int .u32 0, .int .u32 0, .int .u32 0, .int .u32 0, .int .u32 0, .int .u32 0, .int .u32 0, .int .u32 0] 58) = wr0 at *
  rw [z0] at hZ
  replace hB := hB.up n1
  have hN := nxt n0 n1
  clear n0 n1 z0
  have cx : ∀ u, Below wr0.heap.size wr0 u → u.cell? ⟨w.heap.size, x1, none⟩ = some (.int .u32 A) := fun u hu => by
    have := (hB.up hu).cell (i := x1) (by rw [put4_len, HL.out]; exact hi)
    rw [put4_i HL.out ne ⟨A, B, C, D⟩ hi] at this
    exact this
  have cy : ∀ u, Below wr0.heap.size wr0 u → u.cell? ⟨w.heap.size, x2, none⟩ = some (.int .u32 B) := fun u hu => by
    have := (hB.up hu).cell (i := x2) (by rw [put4_len, HL.out]; exact hj)
    rw [put4_j HL.out ne ⟨A, B, C, D⟩ hj] at this
    exact this
  go_wp2_with fail
  refine region_store 9 _ (fun i => [Fact.eq (.int .i64 (x1 : Int)), Fact.eq (.int .i64 (x1 : Int)), Fact.eq (.pointer (some ⟨w.heap.size, x1, none⟩)), Fact.eq (.int .u32 A), Fact.eq (.int .i64 (x2 : Int)), Fact.eq (.pointer (some ⟨w.heap.size, x2, none⟩)), Fact.eq (.int .u32 B), Fact.eq (.int .u32 A1), Fact.eq (.pointer (some ⟨w.heap.size, x1, none⟩))].getD i Fact.no) (by kernel_rfl) (by kernel_rfl) rfl rfl ?_ ?_
  · skip
    intro i hi
    obtain rfl | rfl | rfl | rfl | rfl | rfl | rfl | rfl | rfl : i = 0 ∨ i = 1 ∨ i = 2 ∨ i = 3 ∨ i = 4 ∨ i = 5 ∨ i = 6 ∨ i = 7 ∨ i = 8 := by omega
    · refine step_pure rfl fun a u hb hw hf => ?_
      have e1 : a.tmps[1]?.getD undef = .int .i64 (x1 : Int) := gdv (hb.2.2 1 (by kernel_rfl))
      exact ⟨.int .i64 (x1 : Int), by simp [go_sem, e1], rfl⟩
    · refine step_pure rfl fun a u hb hw hf => ?_
      have e1 : a.tmps[1]?.getD undef = .int .i64 (x1 : Int) := gdv (hb.2.2 1 (by kernel_rfl))
      exact ⟨.int .i64 (x1 : Int), by simp [go_sem, e1], rfl⟩
    · refine step_pure rfl fun a u hb hw hf => ?_
      have e5 : a.tmps[5]?.getD undef = .pointer (some ⟨w.heap.size, 0, none⟩) := gdv (hb.2.2 5 (by kernel_rfl))
      have e12 : a.tmps[12]?.getD undef = .int .i64 (x1 : Int) := gdv (hf 1 12 (by kernel_rfl))
      exact ⟨.pointer (some ⟨w.heap.size, x1, none⟩), by simp [go_sem, e5, e12, pi], rfl⟩
    · refine step_pure rfl fun a u hb hw hf => ?_
      have e13 : a.tmps[13]?.getD undef = .pointer (some ⟨w.heap.size, x1, none⟩) := gdv (hf 2 13 (by kernel_rfl))
      have hc := cx _ hw
      exact ⟨.int .u32 A, by simp [go_sem, e13, hc], rfl⟩
    · refine step_pure rfl fun a u hb hw hf => ?_
      have e2 : a.tmps[2]?.getD undef = .int .i64 (x2 : Int) := gdv (hb.2.2 2 (by kernel_rfl))
      exact ⟨.int .i64 (x2 : Int), by simp [go_sem, e2], rfl⟩
    · refine step_pure rfl fun a u hb hw hf => ?_
      have e5 : a.tmps[5]?.getD undef = .pointer (some ⟨w.heap.size, 0, none⟩) := gdv (hb.2.2 5 (by kernel_rfl))
      have e15 : a.tmps[15]?.getD undef = .int .i64 (x2 : Int) := gdv (hf 4 15 (by kernel_rfl))
      exact ⟨.pointer (some ⟨w.heap.size, x2, none⟩), by simp [go_sem, e5, e15, pj], rfl⟩
    · refine step_pure rfl fun a u hb hw hf => ?_
      have e16 : a.tmps[16]?.getD undef = .pointer (some ⟨w.heap.size, x2, none⟩) := gdv (hf 5 16 (by kernel_rfl))
      have hc := cy _ hw
      exact ⟨.int .u32 B, by simp [go_sem, e16, hc], rfl⟩
    · refine step_pure rfl fun a u hb hw hf => ?_
      have e14 : a.tmps[14]?.getD undef = .int .u32 A := gdv (hf 3 14 (by kernel_rfl))
      have e17 : a.tmps[17]?.getD undef = .int .u32 B := gdv (hf 6 17 (by kernel_rfl))
      exact ⟨.int .u32 A1, by simp [go_sem, e14, e17, IntKind.wrap_u32', f1.out], rfl⟩
    · refine step_pure rfl fun a u hb hw hf => ?_
      have e5 : a.tmps[5]?.getD undef = .pointer (some ⟨w.heap.size, 0, none⟩) := gdv (hb.2.2 5 (by kernel_rfl))
      have e11 : a.tmps[11]?.getD undef = .int .i64 (x1 : Int) := gdv (hf 0 11 (by kernel_rfl))
      exact ⟨.pointer (some ⟨w.heap.size, x1, none⟩), by simp [go_sem, e5, e11, pi], rfl⟩
  intro a u hb hw hf
  have ep : a.tmps[19]?.getD undef = .pointer (some ⟨w.heap.size, x1, none⟩) := gdv (hf 8 19 (by kernel_rfl))
  have ev : a.tmps[18]?.getD undef = .int .u32 A1 := gdv (hf 7 18 (by kernel_rfl))
  have hcc := cx u hw
  have hff := (hB.up hw).free x1
  have hB' := (hB.up hw).store x1 A1
  rw [set4_i ne ⟨A, B, C, D⟩] at hB'
  have O2 := Only.setCell u w.heap.size x1 (.int .u32 A1)
  have hZ' := (hZ.up hw).of_block (O2.block (w.heap.size + 1) (by omega))
  have hN' := hN.trans ((hw.mono hN.size).trans (O2.below (Nat.le_refl _)))
  obtain ⟨vs, hvs⟩ : ∃ vs : Nat → Value, ∀ d, a.tmps.getD d undef = vs d := ⟨_, fun _ => rfl⟩
  have ea := puts_of (md := .any) (n := 88) (k := 9) (by kernel_rfl) rfl hb vs hvs
  unfold Oper.wp
  simp [go_sem, ep, ev, hcc, hff]
  rw [ea]
  clear ea hvs ep ev hf hb hcc hff cx cy hB hZ hN hw
  simp only [puts, Act.put, List.setIfInBounds_toArray, List.set_cons_succ, List.set_cons_zero]
  generalize u.setCell ⟨w.heap.size, x1, none⟩ (.int .u32 A1) = wr1 at *
  have hB := hB'
  have hZ := hZ'
  have hN := hN'
  clear O2 hB' hZ' hN'
  have cx : ∀ u, Below wr1.heap.size wr1 u → u.cell? ⟨w.heap.size, x4, none⟩ = some (.int .u32 D) := fun u hu => by
    have := (hB.up hu).cell (i := x4) (by rw [put4_len, HL.out]; exact hl)
    rw [put4_l HL.out ne ⟨A1, B, C, D⟩ hl] at this
    exact this
  have cy : ∀ u, Below wr1.heap.size wr1 u → u.cell? ⟨w.heap.size, x1, none⟩ = some (.int .u32 A1) := fun u hu => by
    have := (hB.up hu).cell (i := x1) (by rw [put4_len, HL.out]; exact hi)
    rw [put4_i HL.out ne ⟨A1, B, C, D⟩ hi] at this
    exact this
  go_wp2_with fail
  refine region_store 10 _ (fun i => [Fact.eq (.int .i64 (x4 : Int)), Fact.eq (.int .i64 (x4 : Int)), Fact.eq (.pointer (some ⟨w.heap.size, x4, none⟩)), Fact.eq (.int .u32 D), Fact.eq (.int .i64 (x1 : Int)), Fact.eq (.pointer (some ⟨w.heap.size, x1, none⟩)), Fact.eq (.int .u32 A1), Fact.eq (.int .u32 (bits BinOp.xor IntKind.u32 D A1)), Fact.eq (.int .u32 D1), Fact.eq (.pointer (some ⟨w.heap.size, x4, none⟩))].getD i Fact.no) (by kernel_rfl) (by kernel_rfl) rfl rfl ?_ ?_
  · skip
    intro i hi
    obtain rfl | rfl | rfl | rfl | rfl | rfl | rfl | rfl | rfl | rfl : i = 0 ∨ i = 1 ∨ i = 2 ∨ i = 3 ∨ i = 4 ∨ i = 5 ∨ i = 6 ∨ i = 7 ∨ i = 8 ∨ i = 9 := by omega
    · refine step_pure rfl fun a u hb hw hf => ?_
      have e4 : a.tmps[4]?.getD undef = .int .i64 (x4 : Int) := gdv (hb.2.2 4 (by kernel_rfl))
      exact ⟨.int .i64 (x4 : Int), by simp [go_sem, e4], rfl⟩
    · refine step_pure rfl fun a u hb hw hf => ?_
      have e4 : a.tmps[4]?.getD undef = .int .i64 (x4 : Int) := gdv (hb.2.2 4 (by kernel_rfl))
      exact ⟨.int .i64 (x4 : Int), by simp [go_sem, e4], rfl⟩
    · refine step_pure rfl fun a u hb hw hf => ?_
      have e5 : a.tmps[5]?.getD undef = .pointer (some ⟨w.heap.size, 0, none⟩) := gdv (hb.2.2 5 (by kernel_rfl))
      have e21 : a.tmps[21]?.getD undef = .int .i64 (x4 : Int) := gdv (hf 1 21 (by kernel_rfl))
      exact ⟨.pointer (some ⟨w.heap.size, x4, none⟩), by simp [go_sem, e5, e21, pl], rfl⟩
    · refine step_pure rfl fun a u hb hw hf => ?_
      have e22 : a.tmps[22]?.getD undef = .pointer (some ⟨w.heap.size, x4, none⟩) := gdv (hf 2 22 (by kernel_rfl))
      have hc := cx _ hw
      exact ⟨.int .u32 D, by simp [go_sem, e22, hc], rfl⟩
    · refine step_pure rfl fun a u hb hw hf => ?_
      have e1 : a.tmps[1]?.getD undef = .int .i64 (x1 : Int) := gdv (hb.2.2 1 (by kernel_rfl))
      exact ⟨.int .i64 (x1 : Int), by simp [go_sem, e1], rfl⟩
    · refine step_pure rfl fun a u hb hw hf => ?_
      have e5 : a.tmps[5]?.getD undef = .pointer (some ⟨w.heap.size, 0, none⟩) := gdv (hb.2.2 5 (by kernel_rfl))
      have e24 : a.tmps[24]?.getD undef = .int .i64 (x1 : Int) := gdv (hf 4 24 (by kernel_rfl))
      exact ⟨.pointer (some ⟨w.heap.size, x1, none⟩), by simp [go_sem, e5, e24, pi], rfl⟩
    · refine step_pure rfl fun a u hb hw hf => ?_
      have e25 : a.tmps[25]?.getD undef = .pointer (some ⟨w.heap.size, x1, none⟩) := gdv (hf 5 25 (by kernel_rfl))
      have hc := cy _ hw
      exact ⟨.int .u32 A1, by simp [go_sem, e25, hc], rfl⟩
    · refine step_pure rfl fun a u hb hw hf => ?_
      have e23 : a.tmps[23]?.getD undef = .int .u32 D := gdv (hf 3 23 (by kernel_rfl))
      have e26 : a.tmps[26]?.getD undef = .int .u32 A1 := gdv (hf 6 26 (by kernel_rfl))
      exact ⟨.int .u32 (bits BinOp.xor IntKind.u32 D A1), by simp [go_sem, e23, e26], rfl⟩
    · refine step_callv rfl 94 _ _ rfl (by kernel_rfl) fun a u hb hw hf => ?_
      have e27 : a.tmps.getD 27 undef = .int .u32 (bits BinOp.xor IntKind.u32 D A1) := hf 7 27 (by kernel_rfl)
      show Calls Try.prog 94 #[a.tmps.getD 27 undef, .int .u64 16] u _
      rw [e27]
      exact (L1 u).out
    · refine step_pure rfl fun a u hb hw hf => ?_
      have e5 : a.tmps[5]?.getD undef = .pointer (some ⟨w.heap.size, 0, none⟩) := gdv (hb.2.2 5 (by kernel_rfl))
      have e20 : a.tmps[20]?.getD undef = .int .i64 (x4 : Int) := gdv (hf 0 20 (by kernel_rfl))
      exact ⟨.pointer (some ⟨w.heap.size, x4, none⟩), by simp [go_sem, e5, e20, pl], rfl⟩
  intro a u hb hw hf
  have ep : a.tmps[29]?.getD undef = .pointer (some ⟨w.heap.size, x4, none⟩) := gdv (hf 9 29 (by kernel_rfl))
  have ev : a.tmps[28]?.getD undef = .int .u32 D1 := gdv (hf 8 28 (by kernel_rfl))
  have hcc := cx u hw
  have hff := (hB.up hw).free x4
  have hB' := (hB.up hw).store x4 D1
  rw [set4_l ne ⟨A1, B, C, D⟩] at hB'
  have O2 := Only.setCell u w.heap.size x4 (.int .u32 D1)
  have hZ' := (hZ.up hw).of_block (O2.block (w.heap.size + 1) (by omega))
  have hN' := hN.trans ((hw.mono hN.size).trans (O2.below (Nat.le_refl _)))
  obtain ⟨vs, hvs⟩ : ∃ vs : Nat → Value, ∀ d, a.tmps.getD d undef = vs d := ⟨_, fun _ => rfl⟩
  have ea := puts_of (md := .any) (n := 88) (k := 10) (by kernel_rfl) rfl hb vs hvs
  unfold Oper.wp
  simp [go_sem, ep, ev, hcc, hff]
  rw [ea]
  clear ea hvs ep ev hf hb hcc hff cx cy hB hZ hN hw
  simp only [puts, Act.put, List.setIfInBounds_toArray, List.set_cons_succ, List.set_cons_zero]
  generalize u.setCell ⟨w.heap.size, x4, none⟩ (.int .u32 D1) = wr2 at *
  have hB := hB'
  have hZ := hZ'
  have hN := hN'
  clear O2 hB' hZ' hN'
  have cx : ∀ u, Below wr2.heap.size wr2 u → u.cell? ⟨w.heap.size, x3, none⟩ = some (.int .u32 C) := fun u hu => by
    have := (hB.up hu).cell (i := x3) (by rw [put4_len, HL.out]; exact hk)
    rw [put4_k HL.out ne ⟨A1, B, C, D1⟩ hk] at this
    exact this
  have cy : ∀ u, Below wr2.heap.size wr2 u → u.cell? ⟨w.heap.size, x4, none⟩ = some (.int .u32 D1) := fun u hu => by
    have := (hB.up hu).cell (i := x4) (by rw [put4_len, HL.out]; exact hl)
    rw [put4_l HL.out ne ⟨A1, B, C, D1⟩ hl] at this
    exact this
  go_wp2_with fail
  refine region_store 9 _ (fun i => [Fact.eq (.int .i64 (x3 : Int)), Fact.eq (.int .i64 (x3 : Int)), Fact.eq (.pointer (some ⟨w.heap.size, x3, none⟩)), Fact.eq (.int .u32 C), Fact.eq (.int .i64 (x4 : Int)), Fact.eq (.pointer (some ⟨w.heap.size, x4, none⟩)), Fact.eq (.int .u32 D1), Fact.eq (.int .u32 C1), Fact.eq (.pointer (some ⟨w.heap.size, x3, none⟩))].getD i Fact.no) (by kernel_rfl) (by kernel_rfl) rfl rfl ?_ ?_
  · skip
    intro i hi
    obtain rfl | rfl | rfl | rfl | rfl | rfl | rfl | rfl | rfl : i = 0 ∨ i = 1 ∨ i = 2 ∨ i = 3 ∨ i = 4 ∨ i = 5 ∨ i = 6 ∨ i = 7 ∨ i = 8 := by omega
    · refine step_pure rfl fun a u hb hw hf => ?_
      have e3 : a.tmps[3]?.getD undef = .int .i64 (x3 : Int) := gdv (hb.2.2 3 (by kernel_rfl))
      exact ⟨.int .i64 (x3 : Int), by simp [go_sem, e3], rfl⟩
    · refine step_pure rfl fun a u hb hw hf => ?_
      have e3 : a.tmps[3]?.getD undef = .int .i64 (x3 : Int) := gdv (hb.2.2 3 (by kernel_rfl))
      exact ⟨.int .i64 (x3 : Int), by simp [go_sem, e3], rfl⟩
    · refine step_pure rfl fun a u hb hw hf => ?_
      have e5 : a.tmps[5]?.getD undef = .pointer (some ⟨w.heap.size, 0, none⟩) := gdv (hb.2.2 5 (by kernel_rfl))
      have e31 : a.tmps[31]?.getD undef = .int .i64 (x3 : Int) := gdv (hf 1 31 (by kernel_rfl))
      exact ⟨.pointer (some ⟨w.heap.size, x3, none⟩), by simp [go_sem, e5, e31, pk], rfl⟩
    · refine step_pure rfl fun a u hb hw hf => ?_
      have e32 : a.tmps[32]?.getD undef = .pointer (some ⟨w.heap.size, x3, none⟩) := gdv (hf 2 32 (by kernel_rfl))
      have hc := cx _ hw
      exact ⟨.int .u32 C, by simp [go_sem, e32, hc], rfl⟩
    · refine step_pure rfl fun a u hb hw hf => ?_
      have e4 : a.tmps[4]?.getD undef = .int .i64 (x4 : Int) := gdv (hb.2.2 4 (by kernel_rfl))
      exact ⟨.int .i64 (x4 : Int), by simp [go_sem, e4], rfl⟩
    · refine step_pure rfl fun a u hb hw hf => ?_
      have e5 : a.tmps[5]?.getD undef = .pointer (some ⟨w.heap.size, 0, none⟩) := gdv (hb.2.2 5 (by kernel_rfl))
      have e34 : a.tmps[34]?.getD undef = .int .i64 (x4 : Int) := gdv (hf 4 34 (by kernel_rfl))
      exact ⟨.pointer (some ⟨w.heap.size, x4, none⟩), by simp [go_sem, e5, e34, pl], rfl⟩
    · refine step_pure rfl fun a u hb hw hf => ?_
      have e35 : a.tmps[35]?.getD undef = .pointer (some ⟨w.heap.size, x4, none⟩) := gdv (hf 5 35 (by kernel_rfl))
      have hc := cy _ hw
      exact ⟨.int .u32 D1, by simp [go_sem, e35, hc], rfl⟩
    · refine step_pure rfl fun a u hb hw hf => ?_
      have e33 : a.tmps[33]?.getD undef = .int .u32 C := gdv (hf 3 33 (by kernel_rfl))
      have e36 : a.tmps[36]?.getD undef = .int .u32 D1 := gdv (hf 6 36 (by kernel_rfl))
      exact ⟨.int .u32 C1, by simp [go_sem, e33, e36, IntKind.wrap_u32', f3.out], rfl⟩
    · refine step_pure rfl fun a u hb hw hf => ?_
      have e5 : a.tmps[5]?.getD undef = .pointer (some ⟨w.heap.size, 0, none⟩) := gdv (hb.2.2 5 (by kernel_rfl))
      have e30 : a.tmps[30]?.getD undef = .int .i64 (x3 : Int) := gdv (hf 0 30 (by kernel_rfl))
      exact ⟨.pointer (some ⟨w.heap.size, x3, none⟩), by simp [go_sem, e5, e30, pk], rfl⟩
  intro a u hb hw hf
  have ep : a.tmps[38]?.getD undef = .pointer (some ⟨w.heap.size, x3, none⟩) := gdv (hf 8 38 (by kernel_rfl))
  have ev : a.tmps[37]?.getD undef = .int .u32 C1 := gdv (hf 7 37 (by kernel_rfl))
  have hcc := cx u hw
  have hff := (hB.up hw).free x3
  have hB' := (hB.up hw).store x3 C1
  rw [set4_k ne ⟨A1, B, C, D1⟩] at hB'
  have O2 := Only.setCell u w.heap.size x3 (.int .u32 C1)
  have hZ' := (hZ.up hw).of_block (O2.block (w.heap.size + 1) (by omega))
  have hN' := hN.trans ((hw.mono hN.size).trans (O2.below (Nat.le_refl _)))
  obtain ⟨vs, hvs⟩ : ∃ vs : Nat → Value, ∀ d, a.tmps.getD d undef = vs d := ⟨_, fun _ => rfl⟩
  have ea := puts_of (md := .any) (n := 88) (k := 9) (by kernel_rfl) rfl hb vs hvs
  unfold Oper.wp
  simp [go_sem, ep, ev, hcc, hff]
  rw [ea]
  clear ea hvs ep ev hf hb hcc hff cx cy hB hZ hN hw
  simp only [puts, Act.put, List.setIfInBounds_toArray, List.set_cons_succ, List.set_cons_zero]
  generalize u.setCell ⟨w.heap.size, x3, none⟩ (.int .u32 C1) = wr3 at *
  have hB := hB'
  have hZ := hZ'
  have hN := hN'
  clear O2 hB' hZ' hN'
  have cx : ∀ u, Below wr3.heap.size wr3 u → u.cell? ⟨w.heap.size, x2, none⟩ = some (.int .u32 B) := fun u hu => by
    have := (hB.up hu).cell (i := x2) (by rw [put4_len, HL.out]; exact hj)
    rw [put4_j HL.out ne ⟨A1, B, C1, D1⟩ hj] at this
    exact this
  have cy : ∀ u, Below wr3.heap.size wr3 u → u.cell? ⟨w.heap.size, x3, none⟩ = some (.int .u32 C1) := fun u hu => by
    have := (hB.up hu).cell (i := x3) (by rw [put4_len, HL.out]; exact hk)
    rw [put4_k HL.out ne ⟨A1, B, C1, D1⟩ hk] at this
    exact this
  go_wp2_with fail
  refine region_store 10 _ (fun i => [Fact.eq (.int .i64 (x2 : Int)), Fact.eq (.int .i64 (x2 : Int)), Fact.eq (.pointer (some ⟨w.heap.size, x2, none⟩)), Fact.eq (.int .u32 B), Fact.eq (.int .i64 (x3 : Int)), Fact.eq (.pointer (some ⟨w.heap.size, x3, none⟩)), Fact.eq (.int .u32 C1), Fact.eq (.int .u32 (bits BinOp.xor IntKind.u32 B C1)), Fact.eq (.int .u32 B1), Fact.eq (.pointer (some ⟨w.heap.size, x2, none⟩))].getD i Fact.no) (by kernel_rfl) (by kernel_rfl) rfl rfl ?_ ?_
  · skip
    intro i hi
    obtain rfl | rfl | rfl | rfl | rfl | rfl | rfl | rfl | rfl | rfl : i = 0 ∨ i = 1 ∨ i = 2 ∨ i = 3 ∨ i = 4 ∨ i = 5 ∨ i = 6 ∨ i = 7 ∨ i = 8 ∨ i = 9 := by omega
    · refine step_pure rfl fun a u hb hw hf => ?_
      have e2 : a.tmps[2]?.getD undef = .int .i64 (x2 : Int) := gdv (hb.2.2 2 (by kernel_rfl))
      exact ⟨.int .i64 (x2 : Int), by simp [go_sem, e2], rfl⟩
    · refine step_pure rfl fun a u hb hw hf => ?_
      have e2 : a.tmps[2]?.getD undef = .int .i64 (x2 : Int) := gdv (hb.2.2 2 (by kernel_rfl))
      exact ⟨.int .i64 (x2 : Int), by simp [go_sem, e2], rfl⟩
    · refine step_pure rfl fun a u hb hw hf => ?_
      have e5 : a.tmps[5]?.getD undef = .pointer (some ⟨w.heap.size, 0, none⟩) := gdv (hb.2.2 5 (by kernel_rfl))
      have e40 : a.tmps[40]?.getD undef = .int .i64 (x2 : Int) := gdv (hf 1 40 (by kernel_rfl))
      exact ⟨.pointer (some ⟨w.heap.size, x2, none⟩), by simp [go_sem, e5, e40, pj], rfl⟩
    · refine step_pure rfl fun a u hb hw hf => ?_
      have e41 : a.tmps[41]?.getD undef = .pointer (some ⟨w.heap.size, x2, none⟩) := gdv (hf 2 41 (by kernel_rfl))
      have hc := cx _ hw
      exact ⟨.int .u32 B, by simp [go_sem, e41, hc], rfl⟩
    · refine step_pure rfl fun a u hb hw hf => ?_
      have e3 : a.tmps[3]?.getD undef = .int .i64 (x3 : Int) := gdv (hb.2.2 3 (by kernel_rfl))
      exact ⟨.int .i64 (x3 : Int), by simp [go_sem, e3], rfl⟩
    · refine step_pure rfl fun a u hb hw hf => ?_
      have e5 : a.tmps[5]?.getD undef = .pointer (some ⟨w.heap.size, 0, none⟩) := gdv (hb.2.2 5 (by kernel_rfl))
      have e43 : a.tmps[43]?.getD undef = .int .i64 (x3 : Int) := gdv (hf 4 43 (by kernel_rfl))
      exact ⟨.pointer (some ⟨w.heap.size, x3, none⟩), by simp [go_sem, e5, e43, pk], rfl⟩
    · refine step_pure rfl fun a u hb hw hf => ?_
      have e44 : a.tmps[44]?.getD undef = .pointer (some ⟨w.heap.size, x3, none⟩) := gdv (hf 5 44 (by kernel_rfl))
      have hc := cy _ hw
      exact ⟨.int .u32 C1, by simp [go_sem, e44, hc], rfl⟩
    · refine step_pure rfl fun a u hb hw hf => ?_
      have e42 : a.tmps[42]?.getD undef = .int .u32 B := gdv (hf 3 42 (by kernel_rfl))
      have e45 : a.tmps[45]?.getD undef = .int .u32 C1 := gdv (hf 6 45 (by kernel_rfl))
      exact ⟨.int .u32 (bits BinOp.xor IntKind.u32 B C1), by simp [go_sem, e42, e45], rfl⟩
    · refine step_callv rfl 94 _ _ rfl (by kernel_rfl) fun a u hb hw hf => ?_
      have e46 : a.tmps.getD 46 undef = .int .u32 (bits BinOp.xor IntKind.u32 B C1) := hf 7 46 (by kernel_rfl)
      show Calls Try.prog 94 #[a.tmps.getD 46 undef, .int .u64 12] u _
      rw [e46]
      exact (L2 u).out
    · refine step_pure rfl fun a u hb hw hf => ?_
      have e5 : a.tmps[5]?.getD undef = .pointer (some ⟨w.heap.size, 0, none⟩) := gdv (hb.2.2 5 (by kernel_rfl))
      have e39 : a.tmps[39]?.getD undef = .int .i64 (x2 : Int) := gdv (hf 0 39 (by kernel_rfl))
      exact ⟨.pointer (some ⟨w.heap.size, x2, none⟩), by simp [go_sem, e5, e39, pj], rfl⟩
  intro a u hb hw hf
  have ep : a.tmps[48]?.getD undef = .pointer (some ⟨w.heap.size, x2, none⟩) := gdv (hf 9 48 (by kernel_rfl))
  have ev : a.tmps[47]?.getD undef = .int .u32 B1 := gdv (hf 8 47 (by kernel_rfl))
  have hcc := cx u hw
  have hff := (hB.up hw).free x2
  have hB' := (hB.up hw).store x2 B1
  rw [set4_j ne ⟨A1, B, C1, D1⟩] at hB'
  have O2 := Only.setCell u w.heap.size x2 (.int .u32 B1)
  have hZ' := (hZ.up hw).of_block (O2.block (w.heap.size + 1) (by omega))
  have hN' := hN.trans ((hw.mono hN.size).trans (O2.below (Nat.le_refl _)))
  obtain ⟨vs, hvs⟩ : ∃ vs : Nat → Value, ∀ d, a.tmps.getD d undef = vs d := ⟨_, fun _ => rfl⟩
  have ea := puts_of (md := .any) (n := 88) (k := 10) (by kernel_rfl) rfl hb vs hvs
  unfold Oper.wp
  simp [go_sem, ep, ev, hcc, hff]
  rw [ea]
  clear ea hvs ep ev hf hb hcc hff cx cy hB hZ hN hw
  simp only [puts, Act.put, List.setIfInBounds_toArray, List.set_cons_succ, List.set_cons_zero]
  generalize u.setCell ⟨w.heap.size, x2, none⟩ (.int .u32 B1) = wr4 at *
  have hB := hB'
  have hZ := hZ'
  have hN := hN'
  clear O2 hB' hZ' hN'
  have cx : ∀ u, Below wr4.heap.size wr4 u → u.cell? ⟨w.heap.size, x1, none⟩ = some (.int .u32 A1) := fun u hu => by
    have := (hB.up hu).cell (i := x1) (by rw [put4_len, HL.out]; exact hi)
    rw [put4_i HL.out ne ⟨A1, B1, C1, D1⟩ hi] at this
    exact this
  have cy : ∀ u, Below wr4.heap.size wr4 u → u.cell? ⟨w.heap.size, x2, none⟩ = some (.int .u32 B1) := fun u hu => by
    have := (hB.up hu).cell (i := x2) (by rw [put4_len, HL.out]; exact hj)
    rw [put4_j HL.out ne ⟨A1, B1, C1, D1⟩ hj] at this
    exact this
  go_wp2_with fail
  refine region_store 9 _ (fun i => [Fact.eq (.int .i64 (x1 : Int)), Fact.eq (.int .i64 (x1 : Int)), Fact.eq (.pointer (some ⟨w.heap.size, x1, none⟩)), Fact.eq (.int .u32 A1), Fact.eq (.int .i64 (x2 : Int)), Fact.eq (.pointer (some ⟨w.heap.size, x2, none⟩)), Fact.eq (.int .u32 B1), Fact.eq (.int .u32 A2), Fact.eq (.pointer (some ⟨w.heap.size, x1, none⟩))].getD i Fact.no) (by kernel_rfl) (by kernel_rfl) rfl rfl ?_ ?_
  · skip
    intro i hi
    obtain rfl | rfl | rfl | rfl | rfl | rfl | rfl | rfl | rfl : i = 0 ∨ i = 1 ∨ i = 2 ∨ i = 3 ∨ i = 4 ∨ i = 5 ∨ i = 6 ∨ i = 7 ∨ i = 8 := by omega
    · refine step_pure rfl fun a u hb hw hf => ?_
      have e1 : a.tmps[1]?.getD undef = .int .i64 (x1 : Int) := gdv (hb.2.2 1 (by kernel_rfl))
      exact ⟨.int .i64 (x1 : Int), by simp [go_sem, e1], rfl⟩
    · refine step_pure rfl fun a u hb hw hf => ?_
      have e1 : a.tmps[1]?.getD undef = .int .i64 (x1 : Int) := gdv (hb.2.2 1 (by kernel_rfl))
      exact ⟨.int .i64 (x1 : Int), by simp [go_sem, e1], rfl⟩
    · refine step_pure rfl fun a u hb hw hf => ?_
      have e5 : a.tmps[5]?.getD undef = .pointer (some ⟨w.heap.size, 0, none⟩) := gdv (hb.2.2 5 (by kernel_rfl))
      have e50 : a.tmps[50]?.getD undef = .int .i64 (x1 : Int) := gdv (hf 1 50 (by kernel_rfl))
      exact ⟨.pointer (some ⟨w.heap.size, x1, none⟩), by simp [go_sem, e5, e50, pi], rfl⟩
    · refine step_pure rfl fun a u hb hw hf => ?_
      have e51 : a.tmps[51]?.getD undef = .pointer (some ⟨w.heap.size, x1, none⟩) := gdv (hf 2 51 (by kernel_rfl))
      have hc := cx _ hw
      exact ⟨.int .u32 A1, by simp [go_sem, e51, hc], rfl⟩
    · refine step_pure rfl fun a u hb hw hf => ?_
      have e2 : a.tmps[2]?.getD undef = .int .i64 (x2 : Int) := gdv (hb.2.2 2 (by kernel_rfl))
      exact ⟨.int .i64 (x2 : Int), by simp [go_sem, e2], rfl⟩
    · refine step_pure rfl fun a u hb hw hf => ?_
      have e5 : a.tmps[5]?.getD undef = .pointer (some ⟨w.heap.size, 0, none⟩) := gdv (hb.2.2 5 (by kernel_rfl))
      have e53 : a.tmps[53]?.getD undef = .int .i64 (x2 : Int) := gdv (hf 4 53 (by kernel_rfl))
      exact ⟨.pointer (some ⟨w.heap.size, x2, none⟩), by simp [go_sem, e5, e53, pj], rfl⟩
    · refine step_pure rfl fun a u hb hw hf => ?_
      have e54 : a.tmps[54]?.getD undef = .pointer (some ⟨w.heap.size, x2, none⟩) := gdv (hf 5 54 (by kernel_rfl))
      have hc := cy _ hw
      exact ⟨.int .u32 B1, by simp [go_sem, e54, hc], rfl⟩
    · refine step_pure rfl fun a u hb hw hf => ?_
      have e52 : a.tmps[52]?.getD undef = .int .u32 A1 := gdv (hf 3 52 (by kernel_rfl))
      have e55 : a.tmps[55]?.getD undef = .int .u32 B1 := gdv (hf 6 55 (by kernel_rfl))
      exact ⟨.int .u32 A2, by simp [go_sem, e52, e55, IntKind.wrap_u32', f5.out], rfl⟩
    · refine step_pure rfl fun a u hb hw hf => ?_
      have e5 : a.tmps[5]?.getD undef = .pointer (some ⟨w.heap.size, 0, none⟩) := gdv (hb.2.2 5 (by kernel_rfl))
      have e49 : a.tmps[49]?.getD undef = .int .i64 (x1 : Int) := gdv (hf 0 49 (by kernel_rfl))
      exact ⟨.pointer (some ⟨w.heap.size, x1, none⟩), by simp [go_sem, e5, e49, pi], rfl⟩
  intro a u hb hw hf
  have ep : a.tmps[57]?.getD undef = .pointer (some ⟨w.heap.size, x1, none⟩) := gdv (hf 8 57 (by kernel_rfl))
  have ev : a.tmps[56]?.getD undef = .int .u32 A2 := gdv (hf 7 56 (by kernel_rfl))
  have hcc := cx u hw
  have hff := (hB.up hw).free x1
  have hB' := (hB.up hw).store x1 A2
  rw [set4_i ne ⟨A1, B1, C1, D1⟩] at hB'
  have O2 := Only.setCell u w.heap.size x1 (.int .u32 A2)
  have hZ' := (hZ.up hw).of_block (O2.block (w.heap.size + 1) (by omega))
  have hN' := hN.trans ((hw.mono hN.size).trans (O2.below (Nat.le_refl _)))
  obtain ⟨vs, hvs⟩ : ∃ vs : Nat → Value, ∀ d, a.tmps.getD d undef = vs d := ⟨_, fun _ => rfl⟩
  have ea := puts_of (md := .any) (n := 88) (k := 9) (by kernel_rfl) rfl hb vs hvs
  unfold Oper.wp
  simp [go_sem, ep, ev, hcc, hff]
  rw [ea]
  clear ea hvs ep ev hf hb hcc hff cx cy hB hZ hN hw
  simp only [puts, Act.put, List.setIfInBounds_toArray, List.set_cons_succ, List.set_cons_zero]
  generalize u.setCell ⟨w.heap.size, x1, none⟩ (.int .u32 A2) = wr5 at *
  have hB := hB'
  have hZ := hZ'
  have hN := hN'
  clear O2 hB' hZ' hN'
  have cx : ∀ u, Below wr5.heap.size wr5 u → u.cell? ⟨w.heap.size, x4, none⟩ = some (.int .u32 D1) := fun u hu => by
    have := (hB.up hu).cell (i := x4) (by rw [put4_len, HL.out]; exact hl)
    rw [put4_l HL.out ne ⟨A2, B1, C1, D1⟩ hl] at this
    exact this
  have cy : ∀ u, Below wr5.heap.size wr5 u → u.cell? ⟨w.heap.size, x1, none⟩ = some (.int .u32 A2) := fun u hu => by
    have := (hB.up hu).cell (i := x1) (by rw [put4_len, HL.out]; exact hi)
    rw [put4_i HL.out ne ⟨A2, B1, C1, D1⟩ hi] at this
    exact this
  go_wp2_with fail
  refine region_store 10 _ (fun i => [Fact.eq (.int .i64 (x4 : Int)), Fact.eq (.int .i64 (x4 : Int)), Fact.eq (.pointer (some ⟨w.heap.size, x4, none⟩)), Fact.eq (.int .u32 D1), Fact.eq (.int .i64 (x1 : Int)), Fact.eq (.pointer (some ⟨w.heap.size, x1, none⟩)), Fact.eq (.int .u32 A2), Fact.eq (.int .u32 (bits BinOp.xor IntKind.u32 D1 A2)), Fact.eq (.int .u32 D2), Fact.eq (.pointer (some ⟨w.heap.size, x4, none⟩))].getD i Fact.no) (by kernel_rfl) (by kernel_rfl) rfl rfl ?_ ?_
  · skip
    intro i hi
    obtain rfl | rfl | rfl | rfl | rfl | rfl | rfl | rfl | rfl | rfl : i = 0 ∨ i = 1 ∨ i = 2 ∨ i = 3 ∨ i = 4 ∨ i = 5 ∨ i = 6 ∨ i = 7 ∨ i = 8 ∨ i = 9 := by omega
    · refine step_pure rfl fun a u hb hw hf => ?_
      have e4 : a.tmps[4]?.getD undef = .int .i64 (x4 : Int) := gdv (hb.2.2 4 (by kernel_rfl))
      exact ⟨.int .i64 (x4 : Int), by simp [go_sem, e4], rfl⟩
    · refine step_pure rfl fun a u hb hw hf => ?_
      have e4 : a.tmps[4]?.getD undef = .int .i64 (x4 : Int) := gdv (hb.2.2 4 (by kernel_rfl))
      exact ⟨.int .i64 (x4 : Int), by simp [go_sem, e4], rfl⟩
    · refine step_pure rfl fun a u hb hw hf => ?_
      have e5 : a.tmps[5]?.getD undef = .pointer (some ⟨w.heap.size, 0, none⟩) := gdv (hb.2.2 5 (by kernel_rfl))
      have e59 : a.tmps[59]?.getD undef = .int .i64 (x4 : Int) := gdv (hf 1 59 (by kernel_rfl))
      exact ⟨.pointer (some ⟨w.heap.size, x4, none⟩), by simp [go_sem, e5, e59, pl], rfl⟩
    · refine step_pure rfl fun a u hb hw hf => ?_
      have e60 : a.tmps[60]?.getD undef = .pointer (some ⟨w.heap.size, x4, none⟩) := gdv (hf 2 60 (by kernel_rfl))
      have hc := cx _ hw
      exact ⟨.int .u32 D1, by simp [go_sem, e60, hc], rfl⟩
    · refine step_pure rfl fun a u hb hw hf => ?_
      have e1 : a.tmps[1]?.getD undef = .int .i64 (x1 : Int) := gdv (hb.2.2 1 (by kernel_rfl))
      exact ⟨.int .i64 (x1 : Int), by simp [go_sem, e1], rfl⟩
    · refine step_pure rfl fun a u hb hw hf => ?_
      have e5 : a.tmps[5]?.getD undef = .pointer (some ⟨w.heap.size, 0, none⟩) := gdv (hb.2.2 5 (by kernel_rfl))
      have e62 : a.tmps[62]?.getD undef = .int .i64 (x1 : Int) := gdv (hf 4 62 (by kernel_rfl))
      exact ⟨.pointer (some ⟨w.heap.size, x1, none⟩), by simp [go_sem, e5, e62, pi], rfl⟩
    · refine step_pure rfl fun a u hb hw hf => ?_
      have e63 : a.tmps[63]?.getD undef = .pointer (some ⟨w.heap.size, x1, none⟩) := gdv (hf 5 63 (by kernel_rfl))
      have hc := cy _ hw
      exact ⟨.int .u32 A2, by simp [go_sem, e63, hc], rfl⟩
    · refine step_pure rfl fun a u hb hw hf => ?_
      have e61 : a.tmps[61]?.getD undef = .int .u32 D1 := gdv (hf 3 61 (by kernel_rfl))
      have e64 : a.tmps[64]?.getD undef = .int .u32 A2 := gdv (hf 6 64 (by kernel_rfl))
      exact ⟨.int .u32 (bits BinOp.xor IntKind.u32 D1 A2), by simp [go_sem, e61, e64], rfl⟩
    · refine step_callv rfl 94 _ _ rfl (by kernel_rfl) fun a u hb hw hf => ?_
      have e65 : a.tmps.getD 65 undef = .int .u32 (bits BinOp.xor IntKind.u32 D1 A2) := hf 7 65 (by kernel_rfl)
      show Calls Try.prog 94 #[a.tmps.getD 65 undef, .int .u64 8] u _
      rw [e65]
      exact (L3 u).out
    · refine step_pure rfl fun a u hb hw hf => ?_
      have e5 : a.tmps[5]?.getD undef = .pointer (some ⟨w.heap.size, 0, none⟩) := gdv (hb.2.2 5 (by kernel_rfl))
      have e58 : a.tmps[58]?.getD undef = .int .i64 (x4 : Int) := gdv (hf 0 58 (by kernel_rfl))
      exact ⟨.pointer (some ⟨w.heap.size, x4, none⟩), by simp [go_sem, e5, e58, pl], rfl⟩
  intro a u hb hw hf
  have ep : a.tmps[67]?.getD undef = .pointer (some ⟨w.heap.size, x4, none⟩) := gdv (hf 9 67 (by kernel_rfl))
  have ev : a.tmps[66]?.getD undef = .int .u32 D2 := gdv (hf 8 66 (by kernel_rfl))
  have hcc := cx u hw
  have hff := (hB.up hw).free x4
  have hB' := (hB.up hw).store x4 D2
  rw [set4_l ne ⟨A2, B1, C1, D1⟩] at hB'
  have O2 := Only.setCell u w.heap.size x4 (.int .u32 D2)
  have hZ' := (hZ.up hw).of_block (O2.block (w.heap.size + 1) (by omega))
  have hN' := hN.trans ((hw.mono hN.size).trans (O2.below (Nat.le_refl _)))
  obtain ⟨vs, hvs⟩ : ∃ vs : Nat → Value, ∀ d, a.tmps.getD d undef = vs d := ⟨_, fun _ => rfl⟩
  have ea := puts_of (md := .any) (n := 88) (k := 10) (by kernel_rfl) rfl hb vs hvs
  unfold Oper.wp
  simp [go_sem, ep, ev, hcc, hff]
  rw [ea]
  clear ea hvs ep ev hf hb hcc hff cx cy hB hZ hN hw
  simp only [puts, Act.put, List.setIfInBounds_toArray, List.set_cons_succ, List.set_cons_zero]
  generalize u.setCell ⟨w.heap.size, x4, none⟩ (.int .u32 D2) = wr6 at *
  have hB := hB'
  have hZ := hZ'
  have hN := hN'
  clear O2 hB' hZ' hN'
  have cx : ∀ u, Below wr6.heap.size wr6 u → u.cell? ⟨w.heap.size, x3, none⟩ = some (.int .u32 C1) := fun u hu => by
    have := (hB.up hu).cell (i := x3) (by rw [put4_len, HL.out]; exact hk)
    rw [put4_k HL.out ne ⟨A2, B1, C1, D2⟩ hk] at this
    exact this
  have cy : ∀ u, Below wr6.heap.size wr6 u → u.cell? ⟨w.heap.size, x4, none⟩ = some (.int .u32 D2) := fun u hu => by
    have := (hB.up hu).cell (i := x4) (by rw [put4_len, HL.out]; exact hl)
    rw [put4_l HL.out ne ⟨A2, B1, C1, D2⟩ hl] at this
    exact this
  go_wp2_with fail
  refine region_store 9 _ (fun i => [Fact.eq (.int .i64 (x3 : Int)), Fact.eq (.int .i64 (x3 : Int)), Fact.eq (.pointer (some ⟨w.heap.size, x3, none⟩)), Fact.eq (.int .u32 C1), Fact.eq (.int .i64 (x4 : Int)), Fact.eq (.pointer (some ⟨w.heap.size, x4, none⟩)), Fact.eq (.int .u32 D2), Fact.eq (.int .u32 C2), Fact.eq (.pointer (some ⟨w.heap.size, x3, none⟩))].getD i Fact.no) (by kernel_rfl) (by kernel_rfl) rfl rfl ?_ ?_
  · skip
    intro i hi
    obtain rfl | rfl | rfl | rfl | rfl | rfl | rfl | rfl | rfl : i = 0 ∨ i = 1 ∨ i = 2 ∨ i = 3 ∨ i = 4 ∨ i = 5 ∨ i = 6 ∨ i = 7 ∨ i = 8 := by omega
    · refine step_pure rfl fun a u hb hw hf => ?_
      have e3 : a.tmps[3]?.getD undef = .int .i64 (x3 : Int) := gdv (hb.2.2 3 (by kernel_rfl))
      exact ⟨.int .i64 (x3 : Int), by simp [go_sem, e3], rfl⟩
    · refine step_pure rfl fun a u hb hw hf => ?_
      have e3 : a.tmps[3]?.getD undef = .int .i64 (x3 : Int) := gdv (hb.2.2 3 (by kernel_rfl))
      exact ⟨.int .i64 (x3 : Int), by simp [go_sem, e3], rfl⟩
    · refine step_pure rfl fun a u hb hw hf => ?_
      have e5 : a.tmps[5]?.getD undef = .pointer (some ⟨w.heap.size, 0, none⟩) := gdv (hb.2.2 5 (by kernel_rfl))
      have e69 : a.tmps[69]?.getD undef = .int .i64 (x3 : Int) := gdv (hf 1 69 (by kernel_rfl))
      exact ⟨.pointer (some ⟨w.heap.size, x3, none⟩), by simp [go_sem, e5, e69, pk], rfl⟩
    · refine step_pure rfl fun a u hb hw hf => ?_
      have e70 : a.tmps[70]?.getD undef = .pointer (some ⟨w.heap.size, x3, none⟩) := gdv (hf 2 70 (by kernel_rfl))
      have hc := cx _ hw
      exact ⟨.int .u32 C1, by simp [go_sem, e70, hc], rfl⟩
    · refine step_pure rfl fun a u hb hw hf => ?_
      have e4 : a.tmps[4]?.getD undef = .int .i64 (x4 : Int) := gdv (hb.2.2 4 (by kernel_rfl))
      exact ⟨.int .i64 (x4 : Int), by simp [go_sem, e4], rfl⟩
    · refine step_pure rfl fun a u hb hw hf => ?_
      have e5 : a.tmps[5]?.getD undef = .pointer (some ⟨w.heap.size, 0, none⟩) := gdv (hb.2.2 5 (by kernel_rfl))
      have e72 : a.tmps[72]?.getD undef = .int .i64 (x4 : Int) := gdv (hf 4 72 (by kernel_rfl))
      exact ⟨.pointer (some ⟨w.heap.size, x4, none⟩), by simp [go_sem, e5, e72, pl], rfl⟩
    · refine step_pure rfl fun a u hb hw hf => ?_
      have e73 : a.tmps[73]?.getD undef = .pointer (some ⟨w.heap.size, x4, none⟩) := gdv (hf 5 73 (by kernel_rfl))
      have hc := cy _ hw
      exact ⟨.int .u32 D2, by simp [go_sem, e73, hc], rfl⟩
    · refine step_pure rfl fun a u hb hw hf => ?_
      have e71 : a.tmps[71]?.getD undef = .int .u32 C1 := gdv (hf 3 71 (by kernel_rfl))
      have e74 : a.tmps[74]?.getD undef = .int .u32 D2 := gdv (hf 6 74 (by kernel_rfl))
      exact ⟨.int .u32 C2, by simp [go_sem, e71, e74, IntKind.wrap_u32', f7.out], rfl⟩
    · refine step_pure rfl fun a u hb hw hf => ?_
      have e5 : a.tmps[5]?.getD undef = .pointer (some ⟨w.heap.size, 0, none⟩) := gdv (hb.2.2 5 (by kernel_rfl))
      have e68 : a.tmps[68]?.getD undef = .int .i64 (x3 : Int) := gdv (hf 0 68 (by kernel_rfl))
      exact ⟨.pointer (some ⟨w.heap.size, x3, none⟩), by simp [go_sem, e5, e68, pk], rfl⟩
  intro a u hb hw hf
  have ep : a.tmps[76]?.getD undef = .pointer (some ⟨w.heap.size, x3, none⟩) := gdv (hf 8 76 (by kernel_rfl))
  have ev : a.tmps[75]?.getD undef = .int .u32 C2 := gdv (hf 7 75 (by kernel_rfl))
  have hcc := cx u hw
  have hff := (hB.up hw).free x3
  have hB' := (hB.up hw).store x3 C2
  rw [set4_k ne ⟨A2, B1, C1, D2⟩] at hB'
  have O2 := Only.setCell u w.heap.size x3 (.int .u32 C2)
  have hZ' := (hZ.up hw).of_block (O2.block (w.heap.size + 1) (by omega))
  have hN' := hN.trans ((hw.mono hN.size).trans (O2.below (Nat.le_refl _)))
  obtain ⟨vs, hvs⟩ : ∃ vs : Nat → Value, ∀ d, a.tmps.getD d undef = vs d := ⟨_, fun _ => rfl⟩
  have ea := puts_of (md := .any) (n := 88) (k := 9) (by kernel_rfl) rfl hb vs hvs
  unfold Oper.wp
  simp [go_sem, ep, ev, hcc, hff]
  rw [ea]
  clear ea hvs ep ev hf hb hcc hff cx cy hB hZ hN hw
  simp only [puts, Act.put, List.setIfInBounds_toArray, List.set_cons_succ, List.set_cons_zero]
  generalize u.setCell ⟨w.heap.size, x3, none⟩ (.int .u32 C2) = wr7 at *
  have hB := hB'
  have hZ := hZ'
  have hN := hN'
  clear O2 hB' hZ' hN'
  have cx : ∀ u, Below wr7.heap.size wr7 u → u.cell? ⟨w.heap.size, x2, none⟩ = some (.int .u32 B1) := fun u hu => by
    have := (hB.up hu).cell (i := x2) (by rw [put4_len, HL.out]; exact hj)
    rw [put4_j HL.out ne ⟨A2, B1, C2, D2⟩ hj] at this
    exact this
  have cy : ∀ u, Below wr7.heap.size wr7 u → u.cell? ⟨w.heap.size, x3, none⟩ = some (.int .u32 C2) := fun u hu => by
    have := (hB.up hu).cell (i := x3) (by rw [put4_len, HL.out]; exact hk)
    rw [put4_k HL.out ne ⟨A2, B1, C2, D2⟩ hk] at this
    exact this
  go_wp2_with fail
  refine region_store 10 _ (fun i => [Fact.eq (.int .i64 (x2 : Int)), Fact.eq (.int .i64 (x2 : Int)), Fact.eq (.pointer (some ⟨w.heap.size, x2, none⟩)), Fact.eq (.int .u32 B1), Fact.eq (.int .i64 (x3 : Int)), Fact.eq (.pointer (some ⟨w.heap.size, x3, none⟩)), Fact.eq (.int .u32 C2), Fact.eq (.int .u32 (bits BinOp.xor IntKind.u32 B1 C2)), Fact.eq (.int .u32 B2), Fact.eq (.pointer (some ⟨w.heap.size, x2, none⟩))].getD i Fact.no) (by kernel_rfl) (by kernel_rfl) rfl rfl ?_ ?_
  · skip
    intro i hi
    obtain rfl | rfl | rfl | rfl | rfl | rfl | rfl | rfl | rfl | rfl : i = 0 ∨ i = 1 ∨ i = 2 ∨ i = 3 ∨ i = 4 ∨ i = 5 ∨ i = 6 ∨ i = 7 ∨ i = 8 ∨ i = 9 := by omega
    · refine step_pure rfl fun a u hb hw hf => ?_
      have e2 : a.tmps[2]?.getD undef = .int .i64 (x2 : Int) := gdv (hb.2.2 2 (by kernel_rfl))
      exact ⟨.int .i64 (x2 : Int), by simp [go_sem, e2], rfl⟩
    · refine step_pure rfl fun a u hb hw hf => ?_
      have e2 : a.tmps[2]?.getD undef = .int .i64 (x2 : Int) := gdv (hb.2.2 2 (by kernel_rfl))
      exact ⟨.int .i64 (x2 : Int), by simp [go_sem, e2], rfl⟩
    · refine step_pure rfl fun a u hb hw hf => ?_
      have e5 : a.tmps[5]?.getD undef = .pointer (some ⟨w.heap.size, 0, none⟩) := gdv (hb.2.2 5 (by kernel_rfl))
      have e78 : a.tmps[78]?.getD undef = .int .i64 (x2 : Int) := gdv (hf 1 78 (by kernel_rfl))
      exact ⟨.pointer (some ⟨w.heap.size, x2, none⟩), by simp [go_sem, e5, e78, pj], rfl⟩
    · refine step_pure rfl fun a u hb hw hf => ?_
      have e79 : a.tmps[79]?.getD undef = .pointer (some ⟨w.heap.size, x2, none⟩) := gdv (hf 2 79 (by kernel_rfl))
      have hc := cx _ hw
      exact ⟨.int .u32 B1, by simp [go_sem, e79, hc], rfl⟩
    · refine step_pure rfl fun a u hb hw hf => ?_
      have e3 : a.tmps[3]?.getD undef = .int .i64 (x3 : Int) := gdv (hb.2.2 3 (by kernel_rfl))
      exact ⟨.int .i64 (x3 : Int), by simp [go_sem, e3], rfl⟩
    · refine step_pure rfl fun a u hb hw hf => ?_
      have e5 : a.tmps[5]?.getD undef = .pointer (some ⟨w.heap.size, 0, none⟩) := gdv (hb.2.2 5 (by kernel_rfl))
      have e81 : a.tmps[81]?.getD undef = .int .i64 (x3 : Int) := gdv (hf 4 81 (by kernel_rfl))
      exact ⟨.pointer (some ⟨w.heap.size, x3, none⟩), by simp [go_sem, e5, e81, pk], rfl⟩
    · refine step_pure rfl fun a u hb hw hf => ?_
      have e82 : a.tmps[82]?.getD undef = .pointer (some ⟨w.heap.size, x3, none⟩) := gdv (hf 5 82 (by kernel_rfl))
      have hc := cy _ hw
      exact ⟨.int .u32 C2, by simp [go_sem, e82, hc], rfl⟩
    · refine step_pure rfl fun a u hb hw hf => ?_
      have e80 : a.tmps[80]?.getD undef = .int .u32 B1 := gdv (hf 3 80 (by kernel_rfl))
      have e83 : a.tmps[83]?.getD undef = .int .u32 C2 := gdv (hf 6 83 (by kernel_rfl))
      exact ⟨.int .u32 (bits BinOp.xor IntKind.u32 B1 C2), by simp [go_sem, e80, e83], rfl⟩
    · refine step_callv rfl 94 _ _ rfl (by kernel_rfl) fun a u hb hw hf => ?_
      have e84 : a.tmps.getD 84 undef = .int .u32 (bits BinOp.xor IntKind.u32 B1 C2) := hf 7 84 (by kernel_rfl)
      show Calls Try.prog 94 #[a.tmps.getD 84 undef, .int .u64 7] u _
      rw [e84]
      exact (L4 u).out
    · refine step_pure rfl fun a u hb hw hf => ?_
      have e5 : a.tmps[5]?.getD undef = .pointer (some ⟨w.heap.size, 0, none⟩) := gdv (hb.2.2 5 (by kernel_rfl))
      have e77 : a.tmps[77]?.getD undef = .int .i64 (x2 : Int) := gdv (hf 0 77 (by kernel_rfl))
      exact ⟨.pointer (some ⟨w.heap.size, x2, none⟩), by simp [go_sem, e5, e77, pj], rfl⟩
  intro a u hb hw hf
  have ep : a.tmps[86]?.getD undef = .pointer (some ⟨w.heap.size, x2, none⟩) := gdv (hf 9 86 (by kernel_rfl))
  have ev : a.tmps[85]?.getD undef = .int .u32 B2 := gdv (hf 8 85 (by kernel_rfl))
  have hcc := cx u hw
  have hff := (hB.up hw).free x2
  have hB' := (hB.up hw).store x2 B2
  rw [set4_j ne ⟨A2, B1, C2, D2⟩] at hB'
  have O2 := Only.setCell u w.heap.size x2 (.int .u32 B2)
  have hZ' := (hZ.up hw).of_block (O2.block (w.heap.size + 1) (by omega))
  have hN' := hN.trans ((hw.mono hN.size).trans (O2.below (Nat.le_refl _)))
  obtain ⟨vs, hvs⟩ : ∃ vs : Nat → Value, ∀ d, a.tmps.getD d undef = vs d := ⟨_, fun _ => rfl⟩
  have ea := puts_of (md := .any) (n := 88) (k := 10) (by kernel_rfl) rfl hb vs hvs
  unfold Oper.wp
  simp [go_sem, ep, ev, hcc, hff]
  rw [ea]
  clear ea hvs ep ev hf hb hcc hff cx cy hB hZ hN hw
  simp only [puts, Act.put, List.setIfInBounds_toArray, List.set_cons_succ, List.set_cons_zero]
  generalize u.setCell ⟨w.heap.size, x2, none⟩ (.int .u32 B2) = wr8 at *
  have hB := hB'
  have hZ := hZ'
  have hN := hN'
  clear O2 hB' hZ' hN'
  have RG := (Seg.blk hB).range
  have L : Hid (((put4 ys x1 x2 x3 x4 ⟨A2, B2, C2, D2⟩).map (Value.int .u32)).length = 16) := by show _ = _; rw [List.length_map, put4_len]; exact HL.out
  have O := one_ints .u32 (put4 ys x1 x2 x3 x4 ⟨A2, B2, C2, D2⟩)
  obtain ⟨t0, H0⟩ := hZ
  have SR := setRow_heap wr8 (w.heap.size + 1) _ ((put4 ys x1 x2 x3 x4 ⟨A2, B2, C2, D2⟩).map (Value.int .u32)).toArray _ _ H0
  have SN : Below w.heap.size w (wr8.setRow (w.heap.size + 1) ((put4 ys x1 x2 x3 x4 ⟨A2, B2, C2, D2⟩).map (Value.int .u32)).toArray) := hN.trans ((only_setRow wr8 (w.heap.size + 1) _).below (by omega))
  have V : Hid (ag .u32 (put4 ys x1 x2 x3 x4 ⟨A2, B2, C2, D2⟩) = Value.agg ((put4 ys x1 x2 x3 x4 ⟨A2, B2, C2, D2⟩).map (Value.int .u32)).toArray) := rfl
  obtain ⟨vs', hv⟩ : ∃ v, v = (put4 ys x1 x2 x3 x4 ⟨A2, B2, C2, D2⟩).map (Value.int .u32) := ⟨_, rfl⟩
  rw [← hv] at RG L O SR SN V
  clear hv hB
  go_wp2_with (first
    | (refine wpList_load_mid rfl 58 (.tmp 5) rfl w.heap.size 0 rfl vs' (.array 16 57) RG und16 rfl (by rw [L.out]; exact info16) ?_)
    | (refine wpList_store_row rfl 58 (.tmp 10) (.tmp 87) rfl (w.heap.size + 1) vs'.toArray rfl rfl t0 _ H0 (by rw [List.size_toArray, L.out]; exact info16) (by rw [List.size_toArray, List.size_toArray, L.out]; rfl) O ?_))
  exact bodyPost_ret (v := .agg vs'.toArray) (results_cell_row Try.results72 _ _ (w.heap.size + 1) t0 vs'.toArray (0, 0) (.array 16 57) rfl SR und16 rfl (by rw [List.size_toArray, L.out]; exact info16)) rfl ⟨by rw [V.out], SN⟩
end Go.Proofs.Ytcljoaknaegpmaa
