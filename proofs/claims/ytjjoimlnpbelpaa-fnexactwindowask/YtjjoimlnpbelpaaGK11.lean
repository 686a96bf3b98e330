import Derived.Test.YtjjoimlnpbelpaaGK1
import Derived.Test.YtjjoimlnpbelpaaRows
import Derived.WalkSpells
import Derived.Deep.QuietTactic
import Derived.BigQuiet
import Derived.Test.YtjjoimlnpbelpaaGK2
import Derived.Laws.BytesString
import Derived.Deep.MidRow

/-
  Numbers as lists of bytes (the highest first) and as lists of limbs (the lowest first): plain arithmetic.
-/
namespace Go.Proofs.Ytjjoimlnpbelpaa

def bval (xs : List Int) : Int := xs.foldl (fun v x => v * 256 + x) 0
def dig (xs : List Int) (i : Nat) : Int := if i < xs.length then xs.getD (xs.length - 1 - i) 0 else 0
def hi (xs : List Int) (i : Nat) : Int := bval (xs.take (xs.length - i))
def lo (xs : List Int) : Nat → Int
  | 0 => 0
  | i + 1 => lo xs i + dig xs i * 256 ^ i
def sg (x y : Int) : Int := if x < y then -1 else if y < x then 1 else 0

theorem bval_snoc (xs : List Int) (x : Int) : bval (xs ++ [x]) = bval xs * 256 + x := by simp [bval]
theorem bval_nil : bval [] = 0 := rfl
theorem hi_zero (xs : List Int) : hi xs 0 = bval xs := by simp [hi]
theorem hi_past (xs : List Int) (i : Nat) (h : xs.length ≤ i) : hi xs i = 0 := by
  unfold hi
  rw [show xs.length - i = 0 by omega]
  rfl
theorem hi_step (xs : List Int) (i : Nat) : hi xs i = hi xs (i + 1) * 256 + dig xs i := by
  by_cases h : i < xs.length
  · unfold hi dig
    rw [if_pos h, show xs.length - i = (xs.length - (i + 1)) + 1 by omega, List.take_succ_eq_append_getElem (by omega), bval_snoc]
    simp [show xs.length - 1 - i = xs.length - (i + 1) by omega, show xs.length - (i + 1) < xs.length by omega]
  · rw [hi_past xs i (by omega), hi_past xs (i + 1) (by omega)]
    simp [dig, h]
theorem dig_byt {xs : List Int} (hb : Byt xs) (i : Nat) : 0 ≤ dig xs i ∧ dig xs i ≤ 255 := by
  unfold dig
  split
  · have := hb (xs.length - 1 - i); omega
  · omega
theorem hi_lt {a b : List Int} (ha : Byt a) (hb : Byt b) : ∀ i, hi a i < hi b i → bval a < bval b
  | 0, h => by rwa [hi_zero, hi_zero] at h
  | i + 1, h => by
    refine hi_lt ha hb i ?_
    rw [hi_step a i, hi_step b i]
    have := dig_byt ha i
    have := dig_byt hb i
    omega
theorem bval_lo (xs : List Int) : ∀ i, bval xs = hi xs i * 256 ^ i + lo xs i
  | 0 => by rw [hi_zero]; simp [lo]
  | i + 1 => by
    rw [bval_lo xs i, hi_step xs i, lo, Int.pow_succ, Int.add_mul, Int.mul_assoc, Int.mul_comm 256]
    omega
theorem lo_all (xs : List Int) (i : Nat) (h : xs.length ≤ i) : lo xs i = bval xs := by
  rw [bval_lo xs i, hi_past xs i h]; omega
theorem p256_pos (i : Nat) : (0 : Int) < 256 ^ i := Int.pow_pos (by decide)
theorem lo_bd {xs : List Int} (hb : Byt xs) : ∀ i, 0 ≤ lo xs i ∧ lo xs i < 256 ^ i
  | 0 => by simp [lo]
  | i + 1 => by
    have h := lo_bd hb i
    have hd := dig_byt hb i
    have hp := p256_pos i
    rw [lo, Int.pow_succ]
    have h1 : 0 ≤ dig xs i * 256 ^ i := Int.mul_nonneg hd.1 (by omega)
    have h2 : dig xs i * 256 ^ i ≤ 255 * 256 ^ i := Int.mul_le_mul_of_nonneg_right hd.2 (by omega)
    omega
theorem bval_nonneg {xs : List Int} (hb : Byt xs) : 0 ≤ bval xs := by
  rw [← lo_all xs xs.length (Nat.le_refl _)]; exact (lo_bd hb _).1

/-! ### limbs -/
def lval : List Int → Int
  | [] => 0
  | z :: r => z + 4294967296 * lval r
def Lmb (zs : List Int) : Prop := ∀ i, 0 ≤ zs.getD i 0 ∧ zs.getD i 0 < 4294967296
def lhi (zs : List Int) (i : Nat) : Int := lval (zs.drop i)

theorem lhi_zero (zs : List Int) : lhi zs 0 = lval zs := rfl
theorem lhi_past (zs : List Int) (i : Nat) (h : zs.length ≤ i) : lhi zs i = 0 := by
  unfold lhi; rw [List.drop_of_length_le h]; rfl
theorem lhi_step (zs : List Int) (i : Nat) : lhi zs i = zs.getD i 0 + 4294967296 * lhi zs (i + 1) := by
  by_cases h : i < zs.length
  · unfold lhi
    rw [List.drop_eq_getElem_cons h, lval]
    simp [h]
  · rw [lhi_past zs i (by omega), lhi_past zs (i + 1) (by omega)]
    simp [show zs.length ≤ i by omega]
theorem lhi_lt {a b : List Int} (ha : Lmb a) (hb : Lmb b) : ∀ i, lhi a i < lhi b i → lval a < lval b
  | 0, h => h
  | i + 1, h => by
    refine lhi_lt ha hb i ?_
    rw [lhi_step a i, lhi_step b i]
    have := ha i
    have := hb i
    omega
theorem lmb_tail {z : Int} {r : List Int} (h : Lmb (z :: r)) : (0 ≤ z ∧ z < 4294967296) ∧ Lmb r :=
  ⟨by simpa using h 0, fun i => by simpa using h (i + 1)⟩
theorem p32_pos (i : Nat) : (0 : Int) < 4294967296 ^ i := Int.pow_pos (by decide)
theorem lval_bd : ∀ {zs : List Int}, Lmb zs → 0 ≤ lval zs ∧ lval zs < 4294967296 ^ zs.length
  | [], _ => by simp [lval]
  | z :: r, h => by
    obtain ⟨hz, hr⟩ := lmb_tail h
    have := lval_bd hr
    rw [lval, List.length_cons, Int.pow_succ]
    omega
theorem lval_set (v : Int) : ∀ (zs : List Int) (q : Nat), q < zs.length → lval (zs.set q v) = lval zs + (v - zs.getD q 0) * 4294967296 ^ q
  | z :: r, 0, _ => by simp [lval]; omega
  | z :: r, q + 1, h => by
    have := lval_set v r q (by simpa using h)
    simp only [List.set_cons_succ, lval, this, List.getD_cons_succ, Int.pow_succ]
    rw [Int.mul_add, ← Int.mul_assoc (v - r.getD q 0), Int.mul_comm 4294967296 ((v - r.getD q 0) * 4294967296 ^ q)]
    omega
theorem limb_le : ∀ {zs : List Int} (_ : Lmb zs) (q : Nat), zs.getD q 0 * 4294967296 ^ q ≤ lval zs
  | [], _, q => by simp [lval]
  | z :: r, h, 0 => by
    obtain ⟨hz, hr⟩ := lmb_tail h
    have := lval_bd hr
    simp [lval]; omega
  | z :: r, h, q + 1 => by
    obtain ⟨hz, hr⟩ := lmb_tail h
    have := limb_le hr q
    rw [List.getD_cons_succ, Int.pow_succ, lval, ← Int.mul_assoc]
    omega
theorem lmb_set {zs : List Int} (h : Lmb zs) (q : Nat) (v : Int) (h0 : 0 ≤ v) (h1 : v < 4294967296) : Lmb (zs.set q v) := by
  intro i
  by_cases e : q = i
  · subst e
    by_cases hq : q < zs.length
    · rw [getD_set_self _ _ _ hq]; exact ⟨h0, h1⟩
    · have := h q
      rwa [List.set_eq_of_length_le (by omega)]
  · rw [getD_set_ne _ _ _ _ e]; exact h i
theorem lmb_zeros (n : Nat) : Lmb (List.replicate n 0) := by
  intro i
  by_cases h : i < n <;> simp [h]
theorem lval_zeros : ∀ n, lval (List.replicate n 0) = 0
  | 0 => rfl
  | n + 1 => by rw [List.replicate_succ, lval, lval_zeros n]; rfl
theorem lmb_take {zs : List Int} (h : Lmb zs) (s : Nat) : Lmb (zs.take s) := by
  intro i
  by_cases e : i < s
  · have := h i
    simpa [List.getElem?_take, e] using this
  · simp [List.getElem?_take, e]
theorem lval_take : ∀ (zs : List Int) (s : Nat), (∀ j, s ≤ j → zs.getD j 0 = 0) → lval (zs.take s) = lval zs
  | [], s, _ => by simp
  | z :: r, 0, h => by
    have h0 := h 0 (by omega)
    have := lval_take r 0 (fun j _ => by simpa using h (j + 1) (by omega))
    simp at h0 this
    simp [lval, h0, ← this]
  | z :: r, s + 1, h => by
    have := lval_take r s (fun j hj => by simpa using h (j + 1) (by omega))
    simp [lval, this]
/-- No limb 0 at the end. -/
def Top (zs : List Int) : Prop := 0 < zs.length → zs.getD (zs.length - 1) 0 ≠ 0
theorem lval_ge {zs : List Int} (h : Lmb zs) (ht : Top zs) (h0 : 0 < zs.length) : 4294967296 ^ (zs.length - 1) ≤ lval zs := by
  have h1 := limb_le h (zs.length - 1)
  have h2 := ht h0
  have h3 := h (zs.length - 1)
  have hp := p32_pos (zs.length - 1)
  have : 1 * 4294967296 ^ (zs.length - 1) ≤ zs.getD (zs.length - 1) 0 * (4294967296 : Int) ^ (zs.length - 1) := Int.mul_le_mul_of_nonneg_right (by omega) (by omega)
  omega
theorem p32_mono {i j : Nat} (h : i ≤ j) : (4294967296 : Int) ^ i ≤ 4294967296 ^ j := by
  obtain ⟨d, rfl⟩ := Nat.le.dest h
  induction d with
  | zero => exact Int.le_refl _
  | succ d ih =>
    have := ih (by omega)
    have hp := p32_pos (i + d)
    rw [← Nat.add_assoc, Int.pow_succ]; omega
theorem lval_lt_of_len {a b : List Int} (ha : Lmb a) (hb : Lmb b) (ht : Top b) (h : a.length < b.length) : lval a < lval b := by
  have h1 := (lval_bd ha).2
  have h2 := lval_ge hb ht (by omega)
  have h3 := p32_mono (show a.length ≤ b.length - 1 by omega)
  omega

/-! ### the one form of a number -/
/-- No byte 0 ahead. -/
def Canon (ys : List Int) (v : Int) : Prop := Byt ys ∧ bval ys = v ∧ (0 < ys.length → ys.getD 0 0 ≠ 0)
theorem hi_same {a b : List Int} (ha : Byt a) (hb : Byt b) (h : bval a = bval b) : ∀ i, hi a i = hi b i
  | 0 => by rw [hi_zero, hi_zero, h]
  | i + 1 => by
    have h0 := hi_same ha hb h i
    rw [hi_step a i, hi_step b i] at h0
    have := dig_byt ha i
    have := dig_byt hb i
    omega
theorem dig_same {a b : List Int} (ha : Byt a) (hb : Byt b) (h : bval a = bval b) (i : Nat) : dig a i = dig b i := by
  have h0 := hi_same ha hb h i
  have h1 := hi_same ha hb h (i + 1)
  rw [hi_step a i, hi_step b i, h1] at h0
  omega
theorem dig_top (a : List Int) (h : 0 < a.length) : dig a (a.length - 1) = a.getD 0 0 := by
  unfold dig
  rw [if_pos (by omega), show a.length - 1 - (a.length - 1) = 0 by omega]
theorem canon_len {a b : List Int} {v : Int} (ha : Canon a v) (hb : Canon b v) : ¬ a.length < b.length := by
  intro h
  have h1 := dig_same ha.1 hb.1 (ha.2.1.trans hb.2.1.symm) (b.length - 1)
  rw [dig_top b (by omega)] at h1
  have h2 : dig a (b.length - 1) = 0 := by unfold dig; rw [if_neg (by omega)]
  exact hb.2.2 (by omega) (by omega)
theorem Canon.uniq {a b : List Int} {v : Int} (ha : Canon a v) (hb : Canon b v) : a = b := by
  have hl : a.length = b.length := by
    have h1 := canon_len ha hb
    have h2 := canon_len hb ha
    omega
  refine eq_of_getD hl (fun i hi => ?_)
  have h1 := dig_same ha.1 hb.1 (ha.2.1.trans hb.2.1.symm) (a.length - 1 - i)
  unfold dig at h1
  rw [if_pos (by omega), if_pos (by omega), show a.length - 1 - (a.length - 1 - i) = i by omega, show b.length - 1 - (a.length - 1 - i) = i by omega] at h1
  exact h1
theorem bval_cons0 (xs : List Int) : bval (0 :: xs) = bval xs := rfl
theorem bval_drop : ∀ (xs : List Int) (k : Nat), (∀ j, j < k → xs.getD j 0 = 0) → bval (xs.drop k) = bval xs
  | xs, 0, _ => by simp
  | [], k + 1, _ => by simp
  | x :: r, k + 1, h => by
    have h0 := h 0 (by omega)
    simp at h0
    subst h0
    rw [List.drop_succ_cons, bval_cons0]
    exact bval_drop r k (fun j hj => by simpa using h (j + 1) (by omega))
theorem byt_drop {xs : List Int} (h : Byt xs) (k : Nat) : Byt (xs.drop k) := fun i => by
  have := h (k + i)
  simpa [List.getElem?_drop] using this
theorem byt_nil : Byt [] := fun i => by simp
/-- The first k bytes are 0. -/
def ZeroTo (xs : List Int) (k : Nat) : Prop := ∀ j, j < k → xs.getD j 0 = 0
theorem ZeroTo.step {xs : List Int} {k : Nat} (h : ZeroTo xs k) (h0 : xs.getD k 0 = 0) : ZeroTo xs (k + 1) := fun j hj => by
  by_cases e : j = k
  · rw [e]; exact h0
  · exact h j (by omega)
theorem ZeroTo.canon {xs : List Int} {k : Nat} (h : ZeroTo xs k) (hb : Byt xs) (hk : k < xs.length → xs.getD k 0 ≠ 0) : Canon (xs.drop k) (bval xs) := by
  refine ⟨byt_drop hb k, bval_drop xs k h, fun h0 => ?_⟩
  have := hk (by rw [List.length_drop] at h0; omega)
  simpa [List.getElem?_drop] using this

theorem p256_4 (r : Nat) : ∀ q : Nat, (256 : Int) ^ (4 * q + r) = 4294967296 ^ q * 256 ^ r
  | 0 => by simp
  | q + 1 => by
    have := p256_4 r q
    rw [show 4 * (q + 1) + r = (4 * q + r) + 1 + 1 + 1 + 1 by omega, Int.pow_succ, Int.pow_succ, Int.pow_succ, Int.pow_succ, this, Int.pow_succ, Int.mul_right_comm (4294967296 ^ q) 4294967296 (256 ^ r)]
    omega

theorem sg_lt {x y : Int} (h : x < y) : sg x y = -1 := by simp [sg, h]
theorem sg_gt {x y : Int} (h : y < x) : sg x y = 1 := by simp [sg, h]; omega
theorem sg_eq {x y : Int} (h : x = y) : sg x y = 0 := by simp [sg, h]
end Go.Proofs.Ytjjoimlnpbelpaa

/-
  The contracts of the model's small functions of chapter 1: a digit, a comparison, the limit.
-/
namespace Go.Proofs.Ytjjoimlnpbelpaa
open Go.RowKit

/-- Above place k the two are one. -/
def HiEq (a b : List Int) (k : Nat) : Prop := hi a k = hi b k

end Go.Proofs.Ytjjoimlnpbelpaa

/-
  What is drawn: the source, its answers, bytes; the laws' own small helpers (Dr without the field's texts).
-/
namespace Go.Proofs.Ytjjoimlnpbelpaa
open Go.RowKit

/-- Of what was there nothing but block g has turned. -/
structure But (g : Nat) (w w' : World) : Prop where
  os : w'.os = w.os
  tape : w'.tape = w.tape
  output : w'.output = w.output
  size : w.heap.size ≤ w'.heap.size
  block : ∀ k, k < w.heap.size → k ≠ g → w'.heap[k]? = w.heap[k]?

theorem But.of {g : Nat} {a b c : World} (h : Below a.heap.size a b) (k : Only g b c) : But g a c :=
  ⟨k.os.trans h.os, k.tape.trans h.tape, k.output.trans h.output, by rw [k.size]; exact h.size, fun i hi hne => (k.block i hne).trans (h.block i hi)⟩

theorem But.below {g B : Nat} {w w' : World} (h : But g w w') (hB : B ≤ g) (hs : B ≤ w.heap.size) : Below B w w' := ⟨h.os, h.tape, h.output, h.size, fun k hk => h.block k (by omega) (by omega)⟩

theorem Own.but {w w' : World} {g g' : Nat} {a : Option Addr} {k : IntKind} {xs : List Int} (h : Own w g a k xs) (ho : But g' w w') (hne : 0 < xs.length → g ≠ g') : Own w' g a k xs := by
  by_cases h0 : 0 < xs.length
  · exact h.of_block (ho.block g (h.rd.lt h0) (hne h0))
  · exact fun h1 => absurd h1 h0

/-- The text of bytes. -/
def str (xs : List Int) : ByteArray := xs.foldl (fun r n => r.push (UInt8.ofNat n.toNat)) ByteArray.empty

theorem conv_run (w : World) (g : Nat) (a : Option Addr) (c : Nat) (xs : List Int) (hr : Rd w g a .u8 xs) : (convert 25 9 (.slice a xs.length c)).run Try.prog w = .ok (.string (str xs)) w := by
  rw [run_convert_bytes_string w 25 9 5 a xs.length c Try.underlying25 Try.underlying5 Try.underlying9]
  cases a with
  | none =>
    obtain rfl : xs = [] := by
      by_cases h0 : 0 < xs.length
      · obtain ⟨off, h, _⟩ := hr h0
        simp at h
      · exact List.eq_nil_of_length_eq_zero (by omega)
    simp [Conv.bytesToString, str]
  | some ad =>
    have hl := run_loadCells_list (P := Try.prog) w ad (xs.map (Value.int .u8)) (fun j v hj => by
      have hjl : j < xs.length := by
        have := (List.getElem?_eq_some_iff.1 hj).1
        simpa using this
      obtain ⟨off, ha, hcc⟩ := hr (by omega)
      simp only [Option.some.injEq] at ha
      subst ha
      rw [add_mid, hcc j hjl]
      simpa [hjl] using hj)
    rw [List.length_map] at hl
    exact run_bytesToString w ad xs.length c xs hl

/-- The source of what is drawn: its code, and how often it was asked. -/
structure Src (w : World) (s : Nat) (a : Option Addr) (n c : Nat) (at_ : Int) : Prop where
  code : w.cell? ⟨s, 0, none⟩ = some (.slice a n c)
  at_ : w.cell? ⟨s, 1, none⟩ = some (.int .i64 at_)
  free : w.frozen? ⟨s, 1, none⟩ = false

theorem Src.lt {w : World} {s : Nat} {a : Option Addr} {n c : Nat} {t : Int} (h : Src w s a n c t) : s < w.heap.size := block_lt_of_cell h.code

theorem Src.of_block {w w' : World} {s : Nat} {a : Option Addr} {n c : Nat} {t : Int} (h : Src w s a n c t) (hb : w'.heap[s]? = w.heap[s]?) : Src w' s a n c t :=
  ⟨(World.cell?_of_block (a := ⟨s, 0, none⟩) hb).trans h.code, (World.cell?_of_block (a := ⟨s, 1, none⟩) hb).trans h.at_, (World.frozen?_of_block (a := ⟨s, 1, none⟩) hb).trans h.free⟩

theorem Src.up {w w' : World} {s : Nat} {a : Option Addr} {n c : Nat} {t : Int} (h : Src w s a n c t) (hb : Below w.heap.size w w') : Src w' s a n c t := h.of_block (hb.block s h.lt)

theorem Src.step {w : World} {s : Nat} {a : Option Addr} {n c : Nat} {t : Int} (h : Src w s a n c t) (u : Int) (m : Nat) : Src ((w.setCell ⟨s, 1, none⟩ (.int .i64 u)).drewN m) s a n c u := by
  refine ⟨?_, ?_, ?_⟩
  · rw [World.cell?_drewN, World.cell?_setCell_other (h := by simp)]; exact h.code
  · rw [World.cell?_drewN, World.cell?_setCell_same _ _ _ h.at_]
  · rw [World.frozen?_drewN, World.frozen?_setCell]; exact h.free

theorem Only.step (w : World) (s : Nat) (u : Value) (m : Nat) : Only s w ((w.setCell ⟨s, 1, none⟩ u).drewN m) := (Only.setCell w s 1 u).trans (Only.drewN _ _ _)

theorem But.refl (g : Nat) (w : World) : But g w w := ⟨rfl, rfl, rfl, Nat.le_refl _, fun _ _ _ => rfl⟩

theorem But.only {g : Nat} {a b c : World} (h : But g a b) (k : Only g b c) : But g a c :=
  ⟨k.os.trans h.os, k.tape.trans h.tape, k.output.trans h.output, by rw [k.size]; exact h.size, fun i hi hne => (k.block i hne).trans (h.block i hi hne)⟩

theorem But.grown {g : Nat} {a b c : World} {row : Option Nat} (h : But g a b) (k : b.grownBy c row) (hr : ∀ i, row = some i → a.heap.size ≤ i) : But g a c :=
  ⟨k.os.trans h.os, k.tape.trans h.tape, k.output.trans h.output, Nat.le_trans h.size k.size, fun i hi hne => (k.block i (Nat.lt_of_lt_of_le hi h.size) (fun e => by have := hr i e.symm; omega)).trans (h.block i hi hne)⟩

theorem But.trans {g : Nat} {a b c : World} (h : But g a b) (k : But g b c) : But g a c :=
  ⟨k.os.trans h.os, k.tape.trans h.tape, k.output.trans h.output, Nat.le_trans h.size k.size, fun i hi hne => (k.block i (Nat.lt_of_lt_of_le hi h.size) hne).trans (h.block i hi hne)⟩

theorem But.ofBelow {g : Nat} {a b : World} (h : Below a.heap.size a b) : But g a b := ⟨h.os, h.tape, h.output, h.size, fun i hi _ => h.block i hi⟩

theorem But.ofOnly {g : Nat} {a b : World} (h : Only g a b) : But g a b := (But.refl g a).only h

theorem Rd.but {w w' : World} {g g' : Nat} {a : Option Addr} {k : IntKind} {xs : List Int} (h : Rd w g a k xs) (ho : But g' w w') (hne : 0 < xs.length → g ≠ g') : Rd w' g a k xs := by
  by_cases h0 : 0 < xs.length
  · exact h.of_block (ho.block g (h.lt h0) (hne h0))
  · exact fun h1 => absurd h1 h0

theorem Only.grown {g : Nat} {a b : World} (h : Only g a b) : a.grownBy b (some g) := ⟨h.os, h.tape, h.output, Nat.le_of_eq h.size.symm, fun k _ hne => h.block k (fun e => hne (by rw [e]))⟩

theorem byt_snoc {ys : List Int} (h : Byt ys) (x : Int) (h0 : 0 ≤ x) (h1 : x < 256) : Byt (ys ++ [x]) := by
  intro i
  by_cases hi : i < ys.length
  · have := h i
    simpa [List.getElem?_append, hi] using this
  · by_cases e : i = ys.length
    · subst e; simp; exact ⟨h0, h1⟩
    · rw [List.getD_eq_getElem?_getD, List.getElem?_eq_none (by simp; omega)]
      decide

theorem But.setCell {g b off : Nat} {a w : World} {u : Value} (h : But g a w) (hb : a.heap.size ≤ b) : But g a (w.setCell ⟨b, off, none⟩ u) :=
  ⟨h.os, h.tape, h.output, by simpa [World.setCell] using h.size, fun k hk hne => (heap_setCell_other w ⟨b, off, none⟩ k u (by show k ≠ b; omega)).trans (h.block k hk hne)⟩

/-- A row that the call made: where it lies, and that it may be read again. -/
def Row (w : World) (g : Nat) (a : Option Addr) (c : Nat) (xs : List Int) : Prop := Own w g a .u8 xs ∧ (a = none → c = 0) ∧ xs.length ≤ c

end Go.Proofs.Ytjjoimlnpbelpaa

/-
  Texts held against each other: cut out of DrS and Sa16.
-/
namespace Go.Proofs.Ytjjoimlnpbelpaa
open Go.RowKit

theorem str_data : ∀ (xs : List Int) (acc : ByteArray), (xs.foldl (fun r n => r.push (UInt8.ofNat n.toNat)) acc).data = acc.data ++ (xs.map (fun n => UInt8.ofNat n.toNat)).toArray
  | [], acc => by simp
  | x :: r, acc => by
    rw [List.foldl_cons, str_data r]
    simp [ByteArray.push]

theorem toList_inj {s t : ByteArray} (h : s.toList = t.toList) : s = t := by
  rw [ByteArray.toList_eq, ByteArray.toList_eq] at h
  have := Array.ext' h
  cases s; cases t; simp_all

theorem str_inj {xs ys : List Int} (hx : Byt xs) (hy : Byt ys) (h : str xs = str ys) : xs = ys := by
  have h1 : (xs.map (fun n => UInt8.ofNat n.toNat)) = (ys.map (fun n => UInt8.ofNat n.toNat)) := by
    have := congrArg ByteArray.data h
    unfold str at this
    rw [str_data, str_data] at this
    simpa using this
  have hl : xs.length = ys.length := by have := congrArg List.length h1; simpa using this
  refine eq_of_getD hl (fun i hi => ?_)
  have h2 : (xs.map (fun n => UInt8.ofNat n.toNat))[i]? = (ys.map (fun n => UInt8.ofNat n.toNat))[i]? := by rw [h1]
  have a := hx i
  have b := hy i
  have hi' : i < ys.length := by omega
  simp [hi, hi'] at h2 a b ⊢
  have h3 := congrArg UInt8.toNat h2
  simp at h3
  omega

set_option maxHeartbeats 400000 in
theorem l1Same_same (w : World) (g g' : Nat) (a b : Option Addr) (ca cb : Nat) (xs : List Int) (ha : Rd w g a .u8 xs) (hb : Rd w g' b .u8 xs) :
    Calls Try.prog 19 #[.slice a xs.length ca, .slice b xs.length cb] w fun e w' => e = .returned (.bool true) ∧ w' = w := by
  have h1 := conv_run w g a ca xs ha
  have h2 := conv_run w g' b cb xs hb
  generalize str xs = s at *
  go_enter Try.func19, Try.ntmps19
  go_wp2
  go_ret
  exact ⟨by simp, rfl⟩

set_option maxHeartbeats 1000000 in
theorem l1Same_diff (w : World) (g g' : Nat) (a b : Option Addr) (ca cb : Nat) (xs ys : List Int) (ha : Rd w g a .u8 xs) (hb : Rd w g' b .u8 ys) (hx : Byt xs) (hy : Byt ys) (hne : xs ≠ ys) :
    Calls Try.prog 19 #[.slice a xs.length ca, .slice b ys.length cb] w fun e w' => e = .returned (.bool false) ∧ w' = w := by
  have h1 := conv_run w g a ca xs ha
  have h2 := conv_run w g' b cb ys hb
  have h3 : str xs ≠ str ys := fun h => hne (str_inj hx hy h)
  clear hne
  generalize str xs = s at *
  generalize str ys = t at *
  have H3 := hide h3
  clear h3
  go_enter Try.func19, Try.ntmps19
  go_wp2
  go_ret
  have e : (s.toList == t.toList) = false := by
    cases h : (s.toList == t.toList)
    · rfl
    · exact absurd (toList_inj (beq_iff_eq.1 h)) H3.out
  exact ⟨by rw [← e]; rfl, rfl⟩

theorem l1Same_any (w : World) (g g' : Nat) (a b : Option Addr) (ca cb : Nat) (xs ys : List Int) (ha : Rd w g a .u8 xs) (hb : Rd w g' b .u8 ys) (hx : Byt xs) (hy : Byt ys) :
    Calls Try.prog 19 #[.slice a xs.length ca, .slice b ys.length cb] w fun e w' => e = .returned (.bool (decide (xs = ys))) ∧ w' = w := by
  by_cases h : xs = ys
  · subst h
    simpa using l1Same_same w g g' a b ca cb xs ha hb
  · have := l1Same_diff w g g' a b ca cb xs ys ha hb hx hy h
    simpa [h] using this

end Go.Proofs.Ytjjoimlnpbelpaa
