
/-
  Names cut into labels, and what is wrong with them: bytes alone.
-/
import Derived.Test.YtpbniihhpfbamaaDoorBase
namespace Go.Proofs.YtpbniihhpfbamaaDoor
set_option maxRecDepth 100000

def okB (c : UInt8) : Bool := (decide (97 ≤ (c.toNat : Int)) && decide ((c.toNat : Int) ≤ 122)) || (decide (48 ≤ (c.toNat : Int)) && decide ((c.toNat : Int) ≤ 57)) || decide ((c.toNat : Int) = 45)
/-- A byte that no label has. -/
def bad (l : List UInt8) : Bool := l.any fun c => !okB c
/-- What is wrong with a label. -/
def lbFz (l : List UInt8) : Int := if l.length = 0 then 2 else if 63 < l.length then 3 else if bad l = true then 4 else if ((l.getD 0 0).toNat : Int) = 45 ∨ ((l.getD (l.length - 1) 0).toNat : Int) = 45 then 5 else 0
/-- The first of them. -/
def ff : List (List UInt8) → Int
  | [] => 0
  | l :: ls => if lbFz l = 0 then ff ls else lbFz l
def stp (p : List (List UInt8) × List UInt8) (c : UInt8) : List (List UInt8) × List UInt8 := if (c.toNat : Int) = 46 then (p.1 ++ [p.2], []) else (p.1, p.2 ++ [c])
/-- The labels that are whole, and the one that goes on. -/
def lst (l : List UInt8) : List (List UInt8) × List UInt8 := l.foldl stp ([], [])
def labs (l : List UInt8) : List (List UInt8) := (lst l).1 ++ [(lst l).2]
def nameF (l : List UInt8) : Int := if l.length < 1 ∨ 128 < l.length then 1 else ff (labs l)
theorem lst_snoc (l : List UInt8) (c : UInt8) : lst (l ++ [c]) = stp (lst l) c := by simp [lst]
theorem lst_dot (l : List UInt8) (c : UInt8) (h : (c.toNat : Int) = 46) : lst (l ++ [c]) = (labs l, []) := by
  rw [lst_snoc]
  exact if_pos h
theorem lst_in (l : List UInt8) (c : UInt8) (h : (c.toNat : Int) ≠ 46) : lst (l ++ [c]) = ((lst l).1, (lst l).2 ++ [c]) := by
  rw [lst_snoc]
  exact if_neg h
theorem ff_app (a b : List (List UInt8)) : ff (a ++ b) = if ff a = 0 then ff b else ff a := by
  induction a with
  | nil => simp [ff]
  | cons x a ih =>
    show (if lbFz x = 0 then ff (a ++ b) else lbFz x) = if (if lbFz x = 0 then ff a else lbFz x) = 0 then ff b else (if lbFz x = 0 then ff a else lbFz x)
    by_cases h : lbFz x = 0
    · simp only [if_pos h]
      exact ih
    · simp only [if_neg h]
theorem ff_one (l : List UInt8) : ff [l] = lbFz l := by
  show (if lbFz l = 0 then ff [] else lbFz l) = lbFz l
  split
  · rename_i h
    rw [h]
    rfl
  · rfl
theorem snoc_ind {P : List UInt8 → Prop} (h0 : P []) (hs : ∀ l c, P l → P (l ++ [c])) : ∀ l, P l := by
  intro l
  have : ∀ n, n ≤ l.length → P (l.take n) := by
    intro n
    induction n with
    | zero => intro _; simpa using h0
    | succ n ih =>
      intro hn
      have e : l.take (n + 1) = l.take n ++ [l[n]] := by rw [List.take_succ_eq_append_getElem]
      rw [e]
      exact hs _ _ (ih (by omega))
  have := this l.length (Nat.le_refl _)
  rwa [List.take_length] at this
theorem lst_pre (a b : List UInt8) : ∃ t, (lst (a ++ b)).1 = (lst a).1 ++ t := by
  revert b
  refine snoc_ind (P := fun b => ∃ t, (lst (a ++ b)).1 = (lst a).1 ++ t) ⟨[], by simp⟩ ?_
  rintro l c ⟨t, ih⟩
  rw [← List.append_assoc, lst_snoc]
  unfold stp
  split
  · exact ⟨t ++ [(lst (a ++ l)).2], by rw [ih, List.append_assoc]⟩
  · exact ⟨t, ih⟩
/-- The label that goes on ends the text. -/
theorem lst_cur : ∀ l : List UInt8, ∃ s, s + (lst l).2.length = l.length ∧ (lst l).2 = l.drop s := by
  refine snoc_ind ⟨0, rfl, rfl⟩ ?_
  rintro l c ⟨s, h1, h2⟩
  rw [lst_snoc]
  unfold stp
  split
  · exact ⟨l.length + 1, by simp, by simp⟩
  · refine ⟨s, by simp; omega, ?_⟩
    simp only
    rw [List.drop_append_of_le_length (by omega), ← h2]
/-- The answer, where a whole label is the first that is wrong. -/
theorem ff_cut {a b : List UInt8} (h : ff (lst a).1 ≠ 0) : ff (lst (a ++ b)).1 = ff (lst a).1 := by
  obtain ⟨t, e⟩ := lst_pre a b
  rw [e, ff_app, if_neg h]
theorem bad_snoc (l : List UInt8) (c : UInt8) : bad (l ++ [c]) = (bad l || !okB c) := by simp [bad]
/-- A text as a value. -/
def tx (l : List UInt8) : Value := .string ⟨⟨l⟩⟩
theorem tx_size (l : List UInt8) : (ByteArray.mk ⟨l⟩).size = l.length := rfl
theorem tx_at (l : List UInt8) (i : Nat) (h : i < l.length) : (ByteArray.mk ⟨l⟩)[i]'h = l.getD i 0 := by
  simp only [List.getD, List.getElem?_eq_getElem h, Option.getD_some]
  rfl
theorem run_tx {P : Program} (w : World) (t : TypeId) (l : List UInt8) (i : Nat) (hu : P.underlying t = some .string) (h : i < l.length) : (Instr.index t (.string ⟨⟨l⟩⟩) (.int .i64 (i : Int))).run P w = .ok (.int .u8 ((l.getD i 0).toNat : Int)) w := by
  have hi : 0 ≤ (i : Int) ∧ (i : Int) < ((ByteArray.mk ⟨l⟩).size : Int) := ⟨by omega, by rw [tx_size]; omega⟩
  rw [run_index_string w t _ .i64 i hu, dif_pos hi]
  have e : (i : Int).toNat = i := by omega
  have := tx_at l i h
  simp only [e, this]
theorem run_tx_cut {P : Program} (w : World) (t : TypeId) (l : List UInt8) (i j : Nat) (hu : P.underlying t = some .string) (h : i ≤ j) (hj : j ≤ l.length) : (Instr.slice t (.string ⟨⟨l⟩⟩) (some (.int .i64 (i : Int))) (some (.int .i64 (j : Int))) none).run P w = .ok (.string ⟨⟨(l.drop i).take (j - i)⟩⟩) w := by
  rw [run_slice_string w t _ .i64 .i64 i j hu (by omega) (by omega) (by rw [tx_size]; omega)]
  have := ByteArray.extract_mk l i j
  simp only [Int.toNat_natCast]
  rw [show (ByteArray.mk ⟨l⟩) = ByteArray.mk l.toArray from rfl, this]
end Go.Proofs.YtpbniihhpfbamaaDoor
