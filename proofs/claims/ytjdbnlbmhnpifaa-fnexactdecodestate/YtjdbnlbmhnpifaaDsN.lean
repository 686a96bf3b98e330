
/-
  A ticket's state out of bytes: no Go.
-/
import Derived.Test.YtjdbnlbmhnpifaaSeI
import Derived.Test.YtjdbnlbmhnpifaaTkS
import Derived.Test.YtjdbnlbmhnpifaaSm8
namespace Go.Proofs.Ytjdbnlbmhnpifaa
open Go Go.RowKit

/-- Bytes as a text. -/
def txB (xs : List Int) : List UInt8 := xs.map fun n => UInt8.ofNat n.toNat
theorem txB_len (xs : List Int) : (txB xs).length = xs.length := by simp [txB]
theorem str_is (xs : List Int) : str xs = ⟨⟨txB xs⟩⟩ := by
  have h := str_data xs ByteArray.empty
  have e : (str xs).data = ⟨txB xs⟩ := by
    unfold str
    rw [h]
    show (#[] : Array UInt8) ++ (txB xs).toArray = _
    simp
  calc str xs = ⟨(str xs).data⟩ := rfl
    _ = _ := by rw [e]
theorem txL_txB {xs : List Int} (h : Byt xs) : txL (txB xs) = xs := by
  unfold txL txB
  rw [List.map_map]
  have : ∀ x ∈ xs, ((fun b : UInt8 => (b.toNat : Int)) ∘ fun n : Int => UInt8.ofNat n.toNat) x = x := fun x hx => by
    obtain ⟨i, hi, e⟩ := List.getElem_of_mem hx
    have b := h i
    rw [List.getD_eq_getElem?_getD, List.getElem?_eq_getElem hi, e] at b
    simp at b
    simp
    omega
  exact (List.map_congr_left this).trans (List.map_id _)
theorem tkB_take (xs : List Int) (i n : Nat) (h : i + n ≤ xs.length) : (xs.drop i).take n = tkB xs i n := by
  apply eq_of_getD
  · rw [List.length_take, List.length_drop, tkB_len]; omega
  · intro k hk
    rw [List.length_take, List.length_drop] at hk
    rw [tkB_get _ _ _ _ (by omega), List.getD_eq_getElem?_getD, List.getElem?_take, if_pos (by omega), List.getElem?_drop, ← List.getD_eq_getElem?_getD]
/-- What is read: the two texts' sizes, and all of it. -/
def dn1 (b : List Int) : Nat := (beN b 80 1).toNat
def dn2 (b : List Int) : Nat := (beN b (81 + dn1 b) 1).toNat
def dX (b : List Int) : List Int := tkB b 0 32
def dY (b : List Int) : List Int := tkB b 32 32
def dM (b : List Int) : Int := nmV b 64 8
def dL (b : List Int) : Int := nmV b 72 4
def dE (b : List Int) : Int := nmV b 76 4
def dH (b : List Int) : List UInt8 := txB (tkB b 81 (dn1 b))
def dP (b : List Int) : List UInt8 := txB (tkB b (82 + dn1 b) (dn2 b))
theorem dn1_is {b : List Int} (h : Byt b) : (dn1 b : Int) = beN b 80 1 ∧ dn1 b ≤ 255 := by
  have r := beN_rng h 80 1
  have r1 : beN b 80 1 < 256 := by have := r.2; simpa using this
  unfold dn1
  omega
theorem dn2_is {b : List Int} (h : Byt b) : (dn2 b : Int) = beN b (81 + dn1 b) 1 ∧ dn2 b ≤ 255 := by
  have r := beN_rng h (81 + dn1 b) 1
  have r1 : beN b (81 + dn1 b) 1 < 256 := by have := r.2; simpa using this
  unfold dn2
  omega
theorem dH_len (b : List Int) : (dH b).length = dn1 b := by unfold dH; rw [txB_len, tkB_len]
theorem dP_len (b : List Int) : (dP b).length = dn2 b := by unfold dP; rw [txB_len, tkB_len]
theorem dX_len (b : List Int) : (dX b).length = 32 := tkB_len _ _ _
theorem dY_len (b : List Int) : (dY b).length = 32 := tkB_len _ _ _
/-- Are these the bytes of a state? -/
def dsB (b : List Int) : Bool := decide (sfV (dX b).length (dY b).length (dM b) (dL b) (dH b) (dP b).length (dE b) = 0) && decide (esA (dX b) (dY b) (dM b) (dL b) (dH b) (dP b) (dE b) = b)
theorem dsB_len {b : List Int} (h : dsB b = true) : 82 + dn1 b + dn2 b = b.length := by
  unfold dsB at h
  simp only [Bool.and_eq_true, decide_eq_true_eq] at h
  obtain ⟨h0, h1⟩ := h
  unfold esA at h1
  rw [if_pos h0] at h1
  have := congrArg List.length h1
  rw [esL_len, dH_len, dP_len, dX_len, dY_len] at this
  omega
/-- Where the bytes do not lack, the form alone decides. -/
theorem dsB_form {b : List Int} (h : 82 + dn1 b + dn2 b ≤ b.length) : dsB b = decide (esA (dX b) (dY b) (dM b) (dL b) (dH b) (dP b) (dE b) = b) := by
  unfold dsB
  by_cases h0 : sfV (dX b).length (dY b).length (dM b) (dL b) (dH b) (dP b).length (dE b) = 0
  · simp [h0]
  · have e : esA (dX b) (dY b) (dM b) (dL b) (dH b) (dP b) (dE b) = [] := by unfold esA; rw [if_neg h0]
    rw [e]
    have : ¬ ([] : List Int) = b := fun q => by rw [← q] at h; simp at h
    simp [h0, this]
theorem dsB_short {b : List Int} (h : ¬ 82 + dn1 b + dn2 b ≤ b.length) : dsB b = false := by
  cases e : dsB b
  · rfl
  · exact absurd (dsB_len e) (by omega)
end Go.Proofs.Ytjdbnlbmhnpifaa
