
/-
  Names inside one another, and patterns that match: bytes alone.
-/
import Derived.Test.YtpbniihhpfbamaaDoorLpB
namespace Go.Proofs.YtpbniihhpfbamaaDoor
set_option maxRecDepth 100000
open Go

/-- Labels put together again. -/
def unl : List (List UInt8) → List UInt8
  | [] => []
  | [l] => l
  | l :: m :: ls => l ++ 46 :: unl (m :: ls)
theorem unl_cons (l : List UInt8) {Y : List (List UInt8)} (h : Y ≠ []) : unl (l :: Y) = l ++ 46 :: unl Y := by
  cases Y with
  | nil => exact absurd rfl h
  | cons m ls => rfl
theorem unl_app : ∀ (X Y : List (List UInt8)), X ≠ [] → Y ≠ [] → unl (X ++ Y) = unl X ++ 46 :: unl Y
  | [], _, h, _ => absurd rfl h
  | [x], Y, _, h => unl_cons x h
  | x :: y :: X, Y, _, h => by
    have ih := unl_app (y :: X) Y (by simp) h
    show x ++ 46 :: unl ((y :: X) ++ Y) = _
    rw [ih]
    show _ = (x ++ 46 :: unl (y :: X)) ++ 46 :: unl Y
    simp
theorem unl_grow (X : List (List UInt8)) (y : List UInt8) (c : UInt8) : unl (X ++ [y ++ [c]]) = unl (X ++ [y]) ++ [c] := by
  by_cases h : X = []
  · subst h
    rfl
  · rw [unl_app X _ h (by simp), unl_app X [y] h (by simp)]
    show _ ++ 46 :: (y ++ [c]) = (_ ++ 46 :: y) ++ [c]
    simp
theorem dot46 {c : UInt8} (h : (c.toNat : Int) = 46) : c = 46 := UInt8.toNat.inj (by
  have : c.toNat = 46 := by omega
  rw [this]; rfl)
theorem labs_ne (l : List UInt8) : labs l ≠ [] := by unfold labs; simp
theorem unl_labs (l : List UInt8) : unl (labs l) = l := by
  revert l
  refine snoc_ind rfl ?_
  intro l c ih
  rw [labs_snoc]
  split
  · rename_i h
    rw [unl_app _ _ (labs_ne l) (by simp), ih, dot46 h]
    rfl
  · rw [unl_grow]
    show unl (labs l) ++ [c] = _
    rw [ih]
theorem lst_cat (x a : List UInt8) : lst (x ++ 46 :: a) = (labs x ++ (lst a).1, (lst a).2) := by
  revert a
  refine snoc_ind ?_ ?_
  · rw [lst_dot x 46 (by decide)]
    simp [lst]
  · intro a c ih
    have e : x ++ 46 :: (a ++ [c]) = (x ++ 46 :: a) ++ [c] := by simp
    rw [e, lst_snoc, ih, lst_snoc]
    unfold stp
    split <;> simp
theorem labs_cat (x a : List UInt8) : labs (x ++ 46 :: a) = labs x ++ labs a := by
  unfold labs
  rw [lst_cat]
  simp [labs]
/-- Inside, by bytes. -/
def inS (n a : List UInt8) : Bool := decide (n = a) || (46 :: a).isSuffixOf n
theorem inS_labs (n a : List UInt8) : inS n a = true ↔ labs a <:+ labs n := by
  unfold inS
  rw [Bool.or_eq_true, decide_eq_true_eq, List.isSuffixOf_iff_suffix]
  constructor
  · rintro (rfl | ⟨x, rfl⟩)
    · exact List.suffix_refl _
    · rw [labs_cat]
      exact List.suffix_append _ _
  · rintro ⟨X, h⟩
    by_cases hX : X = []
    · subst hX
      left
      have := congrArg unl h
      simp only [List.nil_append, unl_labs] at this
      exact this.symm
    · right
      have := congrArg unl h
      rw [unl_app _ _ hX (labs_ne a), unl_labs, unl_labs] at this
      exact ⟨unl X, this⟩
/-- Labels held against each other from the end. -/
def tailEq (n a : List (List UInt8)) (k : Nat) : Prop := ∀ i, i < k → a.getD (a.length - 1 - i) [] = n.getD (n.length - 1 - i) []
theorem tail_suffix {n a : List (List UInt8)} (hl : a.length ≤ n.length) : tailEq n a a.length ↔ a <:+ n := by
  constructor
  · intro h
    refine ⟨n.take (n.length - a.length), ?_⟩
    have e : a = n.drop (n.length - a.length) := by
      apply List.ext_getElem
      · rw [List.length_drop]; omega
      · intro i h1 h2
        have := h (a.length - 1 - i) (by omega)
        rw [show a.length - 1 - (a.length - 1 - i) = i by omega, show n.length - 1 - (a.length - 1 - i) = n.length - a.length + i by omega] at this
        simp only [List.getD, List.getElem?_eq_getElem h1, Option.getD_some] at this
        rw [List.getElem_drop]
        rw [this, List.getElem?_eq_getElem (by omega), Option.getD_some]
    calc n.take (n.length - a.length) ++ a = n.take (n.length - a.length) ++ n.drop (n.length - a.length) := by rw [← e]
      _ = n := List.take_append_drop _ _
  · rintro ⟨X, rfl⟩ i hi
    rw [List.length_append] at *
    simp only [List.getD]
    rw [List.getElem?_append_right (by omega)]
    congr 2
    omega
theorem suffix_le {n a : List UInt8} (h : inS n a = true) : (labs a).length ≤ (labs n).length := ((inS_labs n a).1 h).length_le
/-- The first label, and what stands behind its point. -/
theorem dotless {l : List UInt8} (h : dot l = false) : labs l = [l] := by
  have h0 := (dot_lst l).2 h
  have h1 := unl_labs l
  unfold labs at h1 ⊢
  have h2 : (lst l).1 = [] := List.length_eq_zero_iff.1 h0
  rw [h2] at h1 ⊢
  show [(lst l).2] = [l]
  rw [show (lst l).2 = l from h1]
theorem idx_split : ∀ l : List UInt8, 0 ≤ Lib.indexByte l 46 → (Lib.indexByte l 46).toNat < l.length ∧ dot (l.take (Lib.indexByte l 46).toNat) = false ∧ l = l.take (Lib.indexByte l 46).toNat ++ 46 :: l.drop ((Lib.indexByte l 46).toNat + 1)
  | [], h => by simp [Lib.indexByte] at h
  | c :: l, h => by
    have ge := Lib.indexByte_ge l 46
    have ih := idx_split l
    unfold Lib.indexByte at h ⊢
    by_cases hc : c = 46
    · subst hc
      simp [dot]
    · have h2 : (c == 46) = false := by simpa using hc
      simp only [h2, Bool.false_eq_true, if_false] at h ⊢
      by_cases k : Lib.indexByte l 46 = -1
      · rw [k] at h
        simp at h
      · have k2 : (Lib.indexByte l 46 == -1) = false := by simpa using k
        simp only [k2, Bool.false_eq_true, if_false]
        obtain ⟨a, b, e⟩ := ih (by omega)
        have e2 : (Lib.indexByte l 46 + 1).toNat = (Lib.indexByte l 46).toNat + 1 := by omega
        rw [e2]
        refine ⟨by simpa using a, ?_, ?_⟩
        · have : dot (List.take ((Lib.indexByte l 46).toNat + 1) (c :: l)) = (decide ((c.toNat : Int) = 46) || dot (l.take (Lib.indexByte l 46).toNat)) := by simp [dot]
          rw [this, b, Bool.or_false]
          exact decide_eq_false fun q => hc (dot46 q)
        · show c :: l = c :: (l.take _ ++ 46 :: l.drop _)
          rw [← e]
/-- What stands behind the first point. -/
def beh (h : List UInt8) : List UInt8 := if 0 ≤ Lib.indexByte h 46 then h.drop ((Lib.indexByte h 46).toNat + 1) else []
/-- Matches, by bytes. -/
def mtS (p h : List UInt8) : Bool := if star p = true then decide ((labs h).getD 0 [] ++ 46 :: p.drop 2 = h) else decide (p = h)
theorem beh_mt {h n : List UInt8} (hn : n ≠ []) : decide ((labs h).getD 0 [] ++ 46 :: n = h) = decide (beh h = n) := by
  unfold beh
  by_cases k : 0 ≤ Lib.indexByte h 46
  · rw [if_pos k]
    obtain ⟨_, b, e⟩ := idx_split h k
    generalize (Lib.indexByte h 46).toNat = m at *
    have L : labs h = [h.take m] ++ labs (h.drop (m + 1)) := by
      rw [← dotless b, ← labs_cat, ← e]
    rw [L]
    have g : ([h.take m] ++ labs (h.drop (m + 1))).getD 0 [] = h.take m := rfl
    rw [g]
    congr 1
    apply propext
    constructor
    · intro q
      have q2 : h.take m ++ 46 :: n = h.take m ++ 46 :: h.drop (m + 1) := q.trans e
      exact ((List.cons.inj (List.append_cancel_left q2)).2).symm
    · intro q
      rw [← q]
      exact e.symm
  · rw [if_neg k]
    have d : dot h = false := (idx_dot h).1 (by omega)
    rw [dotless d]
    show decide (h ++ 46 :: n = h) = _
    rw [decide_eq_false, decide_eq_false]
    · exact fun q => hn q.symm
    · intro q
      have := congrArg List.length q
      simp at this
/-- NameMatches, NameInside, PatternOutside. -/
def nmB (p h : List UInt8) : Bool := decide (patF p = 0) && decide (nameF h = 0) && mtS p h
def niB (n a : List UInt8) : Bool := decide (nameF n = 0) && decide (nameF a = 0) && inS n a
def bas (p : List UInt8) : List UInt8 := if star p = true then p.drop 2 else p
def poB (p : List UInt8) (pm ex : List (List UInt8)) : Bool := decide (patF p ≠ 0) || (decide (pm ≠ []) && !pm.any (niB (bas p))) || ex.any fun a => niB (bas p) a || (star p && nmB p a)
theorem nameF_len {l : List UInt8} (h : nameF l = 0) : 1 ≤ l.length ∧ l.length ≤ 128 := by
  unfold nameF at h
  split at h
  · cases h
  · omega
theorem patF_name {p : List UInt8} (hs : star p = true) (h : patF p = 0) : nameF (p.drop 2) = 0 ∧ dot (p.drop 2) = true ∧ p.length ≤ 128 := by
  unfold patF at h
  rw [if_pos hs] at h
  split at h
  · cases h
  · split at h
    · rename_i _ q
      exact absurd h q
    · split at h
      · rename_i a b c
        exact ⟨by simpa using b, c, by omega⟩
      · cases h
theorem patF_plain {p : List UInt8} (hs : star p = false) : patF p = nameF p := by
  unfold patF
  rw [if_neg (by rw [hs]; decide)]
end Go.Proofs.YtpbniihhpfbamaaDoor
