
/-
  Patterns: what is wrong with them; the program's and the model's PatternFault.
-/
import Derived.Test.YtpbniihhpfbamaaDoorLbT
import Derived.Lib.Bytealg
namespace Go.Proofs.YtpbniihhpfbamaaDoor
set_option maxRecDepth 100000
open Go Go.RowKit

def star (l : List UInt8) : Bool := decide (l.take 2 = [42, 46])
/-- A point, anywhere. -/
def dot (l : List UInt8) : Bool := l.any fun c => decide ((c.toNat : Int) = 46)
def patF (l : List UInt8) : Int := if star l = true then (if 128 < l.length then 1 else if nameF (l.drop 2) ≠ 0 then nameF (l.drop 2) else if dot (l.drop 2) = true then 0 else 6) else nameF l
theorem star_len {l : List UInt8} (h : star l = true) : 2 ≤ l.length := by
  unfold star at h
  have h := of_decide_eq_true h
  have := congrArg List.length h
  rw [List.length_take] at this
  simp at this
  omega
theorem dot_lst (l : List UInt8) : (lst l).1.length = 0 ↔ dot l = false := by
  revert l
  refine snoc_ind (by simp [lst, dot]) ?_
  intro l c ih
  rw [lst_snoc]
  unfold stp
  have e : dot (l ++ [c]) = (dot l || decide ((c.toNat : Int) = 46)) := by simp [dot]
  rw [e]
  split
  · rename_i h
    simp [h]
  · rename_i h
    simp only [decide_eq_false h, Bool.or_false]
    exact ih
theorem labs_two (l : List UInt8) : decide (((labs l).length : Int) < 2) = !dot l := by
  have h := dot_lst l
  unfold labs
  cases hd : dot l with
  | true =>
    have : ¬ (lst l).1.length = 0 := fun k => by rw [h.1 k] at hd; cases hd
    simp
    omega
  | false =>
    have := h.2 hd
    simp
    omega
end Go.Proofs.YtpbniihhpfbamaaDoor
