
/-
  A hash state told by the data that it has taken.
-/
import Derived.Test.YtnfciobpfiibcaaDoorHmN
namespace Go.Proofs.YtnfciobpfiibcaaDoor
set_option maxRecDepth 100000
open Go Go.RowKit

theorem left_left32 (l m : List Int) : left32 (left32 l ++ m) = left32 (l ++ m) := by
  induction h : l.length using Nat.strongRecOn generalizing l with
  | ind n ih =>
    by_cases c : l.length < 64
    · rw [left_short32 c]
    · have hl : (l.take 64).length = 64 := by rw [List.length_take]; omega
      have e : l = l.take 64 ++ l.drop 64 := (List.take_append_drop _ _).symm
      have r := ih (l.drop 64).length (by rw [List.length_drop]; omega) (l.drop 64) rfl
      rw [e, left_app32 _ _ hl, List.append_assoc, left_app32 _ _ hl]
      exact r
theorem left_is32 (l : List Int) : left32 l = l.drop (l.length - l.length % 64) := rfl
theorem left_byt32 {l : List Int} (h : Byt l) : Byt (left32 l) := by rw [left_is32]; exact byt_drop h _
/-- A state that has taken ys. -/
def SD (w : World) (v : Value) (B : Nat) (ys : List Int) : Prop := ST3 w v B ((ys.length : Nat) : Int) (tell32 (whole32 start32 ys)) (left32 ys)
theorem SD.up {w w' : World} {v : Value} {B : Nat} {ys : List Int} (h : SD w v B ys) (n : Below w.heap.size w w') : SD w' v B ys := ST3.up h n
theorem SD.le {w : World} {v : Value} {B B' : Nat} {ys : List Int} (h : SD w v B ys) (hB : B' ≤ B) : SD w v B' ys := by
  obtain ⟨a, a', c, c', g, g', e, o, o', h1, h2, h3, h4, h5, h6⟩ := h
  exact ⟨a, a', c, c', g, g', e, o, o', h1, h2, h3, h4, by omega, by omega⟩
end Go.Proofs.YtnfciobpfiibcaaDoor
