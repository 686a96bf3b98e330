
/-
  Hexadecimal digits read: numbers alone.
-/
import Derived.Test.YtdgbioekofmekaaHxI
namespace Go.Proofs.Ytdgbioekofmekaa
open Go Go.RowKit

/-- A digit's value, 0 for what is none. -/
def nbV (c : UInt8) : Int := if 48 ≤ c.toNat ∧ c.toNat ≤ 57 then (c.toNat : Int) - 48 else if 97 ≤ c.toNat ∧ c.toNat ≤ 102 then (c.toNat : Int) - 87 else 0
def isX (c : UInt8) : Bool := decide (48 ≤ c.toNat ∧ c.toNat ≤ 57) || decide (97 ≤ c.toNat ∧ c.toNat ≤ 102)
theorem nbV_bd (c : UInt8) : 0 ≤ nbV c ∧ nbV c < 16 := by
  unfold nbV
  split
  · omega
  · split <;> omega
theorem all_u8 {p : UInt8 → Prop} (h : ∀ n, n < 256 → p (UInt8.ofNat n)) (c : UInt8) : p c := by
  have := h c.toNat (UInt8.toNat_lt c)
  simpa using this
set_option maxRecDepth 100000 in
theorem idx_hx (c : UInt8) : Lib.indexByte hxS c = if isX c = true then nbV c else -1 := by
  refine all_u8 (p := fun c => Lib.indexByte hxS c = if isX c = true then nbV c else -1) ?_ c
  decide
set_option maxRecDepth 100000 in
theorem hx_nb (c : UInt8) : (UInt8.ofNat (hxB (nbV c)).toNat = c) ↔ isX c = true := by
  refine all_u8 (p := fun c => (UInt8.ofNat (hxB (nbV c)).toNat = c) ↔ isX c = true) ?_ c
  decide
/-- What pairs of digits tell. -/
def h2L : List UInt8 → List Int
  | a :: b :: t => (nbV a * 16 + nbV b) :: h2L t
  | _ => []
theorem h2L_len : ∀ l : List UInt8, (h2L l).length = l.length / 2
  | [] => by simp [h2L]
  | [_] => by simp [h2L]
  | a :: b :: t => by have := h2L_len t; simp only [h2L, List.length_cons]; omega
theorem h2L_get : ∀ (l : List UInt8) (j : Nat), j < l.length / 2 → (h2L l).getD j 0 = nbV (l.getD (2 * j) 0) * 16 + nbV (l.getD (2 * j + 1) 0)
  | [], j, h => by simp at h
  | [_], j, h => by simp at h
  | a :: b :: t, 0, _ => rfl
  | a :: b :: t, j + 1, h => by
    have := h2L_get t j (by simp only [List.length_cons] at h; omega)
    rw [show 2 * (j + 1) = 2 * j + 1 + 1 from by omega]
    simpa [h2L] using this
theorem h2L_byt (l : List UInt8) : Byt (h2L l) := by
  intro j
  by_cases h : j < l.length / 2
  · rw [h2L_get l j h]
    have := nbV_bd (l.getD (2 * j) 0)
    have := nbV_bd (l.getD (2 * j + 1) 0)
    omega
  · have e : (h2L l)[j]? = none := List.getElem?_eq_none (by rw [h2L_len]; omega)
    rw [List.getD_eq_getElem?_getD, e]
    simp
/-- Is it the text of some bytes? -/
def dhG (l : List UInt8) : Bool := decide (l = [45]) || (decide (l ≠ []) && decide (l.length % 2 = 0) && l.all isX)
def dhD (l : List UInt8) : List Int := if dhG l = true then h2L l else []
def txX (xs : List Int) : List UInt8 := xs.map fun n => UInt8.ofNat n.toNat
theorem str_isX (xs : List Int) : str xs = ⟨⟨txX xs⟩⟩ := by
  have h := str_data xs ByteArray.empty
  have e : (str xs).data = ⟨txX xs⟩ := by
    unfold str
    rw [h]
    show (#[] : Array UInt8) ++ (txX xs).toArray = _
    simp
  calc str xs = ⟨(str xs).data⟩ := rfl
    _ = _ := by rw [e]
theorem he_h2 : ∀ l : List UInt8, (txX (heL (h2L l)) = l) ↔ (l.length % 2 = 0 ∧ l.all isX = true)
  | [] => by simp [h2L, heL, txX]
  | [a] => by simp [h2L, heL, txX]
  | a :: b :: t => by
    have ih := he_h2 t
    have na := nbV_bd a
    have nb := nbV_bd b
    have e1 : (nbV a * 16 + nbV b) / 16 = nbV a := by omega
    have e2 : (nbV a * 16 + nbV b) % 16 = nbV b := by omega
    have e : txX (heL (h2L (a :: b :: t))) = UInt8.ofNat (hxB (nbV a)).toNat :: UInt8.ofNat (hxB (nbV b)).toNat :: txX (heL (h2L t)) := by
      simp [h2L, heL, hx2, txX, e1, e2]
    rw [e]
    simp only [List.cons.injEq, hx_nb, ih, List.length_cons, List.all_cons, Bool.and_eq_true]
    rw [show t.length + 1 + 1 = t.length + 2 from rfl, Nat.add_mod_right]
    constructor
    · rintro ⟨h1, h2, h3, h4⟩
      exact ⟨h3, h1, h2, h4⟩
    · rintro ⟨h3, h1, h2, h4⟩
      exact ⟨h1, h2, h3, h4⟩
theorem ehF_h2 (l : List UInt8) : (ehF (h2L l) = ⟨⟨l⟩⟩) ↔ dhG l = true := by
  have J : ∀ m : List UInt8, ((⟨⟨m⟩⟩ : ByteArray) = ⟨⟨l⟩⟩) ↔ m = l := fun m => ⟨fun h => by injection h with h; injection h, fun h => by rw [h]⟩
  match l, J with
  | [], J => exact (J [45]).trans (by simp [dhG])
  | [a], J => refine (J [45]).trans ?_; simp [dhG]; constructor <;> (intro h; exact h.symm)
  | a :: b :: t, J =>
    have : ehF (h2L (a :: b :: t)) = ⟨⟨txX (heL (h2L (a :: b :: t)))⟩⟩ := by
      unfold ehF
      rw [if_neg (by simp [h2L]), str_isX]
    rw [this, J, he_h2]
    simp [dhG]
/-- The bytes while the digits ahead of place i have been read. -/
def pV (l : List UInt8) (i j : Nat) : Int := if 2 * j + 1 < i then nbV (l.getD (2 * j) 0) * 16 + nbV (l.getD (2 * j + 1) 0) else if 2 * j < i then nbV (l.getD (2 * j) 0) else 0
theorem pV_zero (l : List UInt8) (j : Nat) : pV l 0 j = 0 := by simp [pV]
theorem pV_ne (l : List UInt8) (i j : Nat) (h : j ≠ i / 2) : pV l (i + 1) j = pV l i j := by
  unfold pV
  by_cases h1 : 2 * j + 1 < i
  · rw [if_pos h1, if_pos (by omega)]
  · rw [if_neg h1, if_neg (by omega)]
    by_cases h2 : 2 * j < i
    · rw [if_pos h2, if_pos (by omega)]
    · rw [if_neg h2, if_neg (by omega)]
theorem pV_at (l : List UInt8) (i : Nat) : pV l (i + 1) (i / 2) = pV l i (i / 2) * 16 + nbV (l.getD i 0) := by
  unfold pV
  rcases Nat.mod_two_eq_zero_or_one i with h | h
  · rw [if_neg (by omega), if_pos (by omega), if_neg (by omega), if_neg (by omega), show 2 * (i / 2) = i by omega]
    omega
  · rw [if_pos (by omega), if_neg (by omega), if_pos (by omega), show 2 * (i / 2) + 1 = i by omega]
theorem pV_bd (l : List UInt8) (i : Nat) : 0 ≤ pV l i (i / 2) ∧ pV l i (i / 2) < 16 := by
  unfold pV
  rw [if_neg (by omega)]
  split
  · exact nbV_bd _
  · omega
theorem pV_end (l : List UInt8) (j : Nat) (h : j < l.length / 2) : pV l l.length j = (h2L l).getD j 0 := by
  rw [h2L_get l j h]
  unfold pV
  rw [if_pos (by omega)]
end Go.Proofs.Ytdgbioekofmekaa
