
/-
  Items read from bytes: numbers alone.
-/
import Derived.Test.YtdgbioekofmekaaItN
namespace Go.Proofs.Ytdgbioekofmekaa

/-- A length at place i: how many bytes tell it, and what it is. -/
def lnA (xs : List Int) (i : Nat) : Option (Nat × Nat) :=
  if i < xs.length then
    if xs.getD i 0 < 128 then some (1, (xs.getD i 0).toNat)
    else if xs.getD i 0 = 129 then (if i + 1 < xs.length ∧ 128 ≤ xs.getD (i + 1) 0 then some (2, (xs.getD (i + 1) 0).toNat) else none)
    else if xs.getD i 0 = 130 then (if i + 2 < xs.length ∧ 256 ≤ 256 * xs.getD (i + 1) 0 + xs.getD (i + 2) 0 then some (3, (256 * xs.getD (i + 1) 0 + xs.getD (i + 2) 0).toNat) else none)
    else none
  else none
/-- An item at place i: its tag, where its body begins, and how long it is. -/
def itA (xs : List Int) (i : Nat) : Option (Int × Nat × Nat) :=
  if i < xs.length ∧ xs.getD i 0 ≠ 0 then
    match lnA xs (i + 1) with
    | some (m, n) => if i + 1 + m + n ≤ xs.length then some (xs.getD i 0, i + 1 + m, n) else none
    | none => none
  else none
theorem lnA_bd {xs : List Int} (hb : Byt xs) {i m n : Nat} (h : lnA xs i = some (m, n)) : 1 ≤ m ∧ m ≤ 3 ∧ n ≤ 65535 ∧ i + m ≤ xs.length := by
  unfold lnA at h
  have b0 := hb i
  have b1 := hb (i + 1)
  have b2 := hb (i + 2)
  split at h
  · split at h
    · simp only [Option.some.injEq, Prod.mk.injEq] at h; omega
    split at h
    · split at h
      · simp only [Option.some.injEq, Prod.mk.injEq] at h; omega
      · cases h
    split at h
    · split at h
      · simp only [Option.some.injEq, Prod.mk.injEq] at h; omega
      · cases h
    · cases h
  · cases h
theorem itA_bd {xs : List Int} (hb : Byt xs) {i s n : Nat} {t : Int} (h : itA xs i = some (t, s, n)) : t = xs.getD i 0 ∧ 1 ≤ t ∧ t ≤ 255 ∧ i + 2 ≤ s ∧ s ≤ i + 4 ∧ n ≤ 65535 ∧ s + n ≤ xs.length := by
  unfold itA at h
  have b0 := hb i
  split at h
  · rename_i h0
    cases hl : lnA xs (i + 1) with
    | none => rw [hl] at h; cases h
    | some p =>
      obtain ⟨m, k⟩ := p
      rw [hl] at h
      have := lnA_bd hb hl
      dsimp only at h
      split at h
      · simp only [Option.some.injEq, Prod.mk.injEq] at h; omega
      · cases h
  · cases h
/-- What DecodeItem answers. -/
def diT (o : Option (Int × Nat × Nat)) : Bool := o.isSome
def dtT (o : Option (Int × Nat × Nat)) : Int := match o with | some (t, _, _) => t | none => 0
def dbT (xs : List Int) (o : Option (Int × Nat × Nat)) : List Int := match o with | some (_, s, n) => (xs.drop s).take n | none => []
def dnT (o : Option (Int × Nat × Nat)) : Int := match o with | some (_, s, n) => ((s + n : Nat) : Int) | none => 0
/-- .. at any place. -/
def itZ (xs : List Int) (i : Int) : Option (Int × Nat × Nat) := if 0 ≤ i then itA xs i.toNat else none
theorem itZ_out {xs : List Int} {i : Int} (h : ¬ (0 ≤ i ∧ i < (xs.length : Int))) : itZ xs i = none := by
  unfold itZ
  split
  · unfold itA; rw [if_neg (by omega)]
  · rfl
theorem lnA_of {xs : List Int} {i n : Nat} (hl : i + (lenL n).length ≤ xs.length) (h : ∀ j, j < (lenL n).length → xs.getD (i + j) 0 = (lenL n).getD j 0) (hn : n ≤ 65535) : lnA xs i = some ((lenL n).length, n) := by
  unfold lnA
  unfold lenL at hl h ⊢
  split at hl
  · rename_i c
    rw [if_pos c] at h ⊢
    have h0 : xs.getD i 0 = (n : Int) := h 0 (by simp)
    simp at hl
    rw [if_pos (by omega), h0, if_pos (by omega)]
    simp
  · rename_i c
    rw [if_neg c] at h ⊢
    split at hl
    · rename_i c2
      rw [if_pos c2] at h ⊢
      have h0 : xs.getD i 0 = 129 := h 0 (by simp)
      have h1 : xs.getD (i + 1) 0 = (n : Int) := h 1 (by simp)
      simp at hl
      rw [if_pos (by omega), h0, if_neg (by omega), if_pos rfl, h1, if_pos (by omega)]
      simp
    · rename_i c2
      rw [if_neg c2] at h ⊢
      have h0 : xs.getD i 0 = 130 := h 0 (by simp)
      have h1 : xs.getD (i + 1) 0 = (n : Int) / 256 := h 1 (by simp)
      have h2 : xs.getD (i + 2) 0 = (n : Int) % 256 := h 2 (by simp)
      simp at hl
      rw [if_pos (by omega), h0, if_neg (by omega), if_neg (by decide), if_pos rfl, h1, h2, if_pos (by omega)]
      simp
      omega
/-- The form of a length that is read is its one form. -/
theorem lnA_form {xs : List Int} (hb : Byt xs) {i m n : Nat} (h : lnA xs i = some (m, n)) : (lenL n).length = m ∧ ∀ j, j < m → xs.getD (i + j) 0 = (lenL n).getD j 0 := by
  have b0 := hb i
  have b1 := hb (i + 1)
  have b2 := hb (i + 2)
  unfold lnA at h
  split at h
  · split at h
    · simp only [Option.some.injEq, Prod.mk.injEq] at h
      obtain ⟨rfl, rfl⟩ := h
      unfold lenL
      rw [if_pos (by omega)]
      refine ⟨rfl, fun j hj => ?_⟩
      obtain rfl : j = 0 := by omega
      show xs.getD i 0 = ((xs.getD i 0).toNat : Int)
      omega
    split at h
    · split at h
      · simp only [Option.some.injEq, Prod.mk.injEq] at h
        obtain ⟨rfl, rfl⟩ := h
        unfold lenL
        rw [if_neg (by omega), if_pos (by omega)]
        refine ⟨rfl, fun j hj => ?_⟩
        obtain rfl | rfl : j = 0 ∨ j = 1 := by omega
        · assumption
        · show xs.getD (i + 1) 0 = ((xs.getD (i + 1) 0).toNat : Int)
          omega
      · cases h
    split at h
    · split at h
      · simp only [Option.some.injEq, Prod.mk.injEq] at h
        obtain ⟨rfl, rfl⟩ := h
        unfold lenL
        rw [if_neg (by omega), if_neg (by omega)]
        refine ⟨rfl, fun j hj => ?_⟩
        obtain rfl | rfl | rfl : j = 0 ∨ j = 1 ∨ j = 2 := by omega
        · assumption
        · show xs.getD (i + 1) 0 = ((256 * xs.getD (i + 1) 0 + xs.getD (i + 2) 0).toNat : Int) / 256
          omega
        · show xs.getD (i + 2) 0 = ((256 * xs.getD (i + 1) 0 + xs.getD (i + 2) 0).toNat : Int) % 256
          omega
      · cases h
    · cases h
  · cases h
theorem lnA_out {xs : List Int} {i : Nat} (h : xs.length ≤ i) : lnA xs i = none := if_neg (by omega)
theorem lnA_1 {xs : List Int} {i n : Nat} (h : i < xs.length) (hx : xs.getD i 0 = (n : Int)) (hn : n < 128) : lnA xs i = some (1, n) := by
  unfold lnA
  rw [if_pos h, if_pos (by omega), hx]
  simp
theorem lnA_2y {xs : List Int} {i n : Nat} (h : i + 1 < xs.length) (hx : xs.getD i 0 = 129) (hx1 : xs.getD (i + 1) 0 = (n : Int)) (hn : 128 ≤ n) : lnA xs i = some (2, n) := by
  unfold lnA
  rw [if_pos (by omega), if_neg (by omega), if_pos hx, if_pos ⟨h, by omega⟩, hx1]
  simp
theorem lnA_2n {xs : List Int} {i : Nat} (hx : xs.getD i 0 = 129) (hn : xs.length ≤ i + 1 ∨ xs.getD (i + 1) 0 < 128) : lnA xs i = none := by
  unfold lnA
  by_cases c : i < xs.length
  · rw [if_pos c, if_neg (show ¬ xs.getD i 0 < 128 by omega), if_pos hx, if_neg (by omega)]
  · rw [if_neg c]
theorem lnA_3y {xs : List Int} {i n : Nat} (h : i + 2 < xs.length) (hx : xs.getD i 0 = 130) (hx1 : 256 * xs.getD (i + 1) 0 + xs.getD (i + 2) 0 = (n : Int)) (hn : 256 ≤ n) : lnA xs i = some (3, n) := by
  unfold lnA
  rw [if_pos (by omega), if_neg (by omega), if_neg (by omega), if_pos hx, if_pos ⟨h, by omega⟩, hx1]
  simp
theorem lnA_3n {xs : List Int} {i : Nat} (hx : xs.getD i 0 = 130) (hn : xs.length ≤ i + 2 ∨ 256 * xs.getD (i + 1) 0 + xs.getD (i + 2) 0 < 256) : lnA xs i = none := by
  unfold lnA
  by_cases c : i < xs.length
  · rw [if_pos c, if_neg (show ¬ xs.getD i 0 < 128 by omega), if_neg (show ¬ xs.getD i 0 = 129 by omega), if_pos hx, if_neg (by omega)]
  · rw [if_neg c]
theorem lnA_no {xs : List Int} {i : Nat} (hx : 128 ≤ xs.getD i 0) (h1 : xs.getD i 0 ≠ 129) (h2 : xs.getD i 0 ≠ 130) : lnA xs i = none := by
  unfold lnA
  by_cases c : i < xs.length
  · rw [if_pos c, if_neg (show ¬ xs.getD i 0 < 128 by omega), if_neg h1, if_neg h2]
  · rw [if_neg c]
end Go.Proofs.Ytdgbioekofmekaa
