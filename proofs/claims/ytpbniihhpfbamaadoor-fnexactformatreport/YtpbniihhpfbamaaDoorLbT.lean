
/-
  The model's NameFault, and the law.
-/
import Derived.Test.YtpbniihhpfbamaaDoorLbS
namespace Go.Proofs.YtpbniihhpfbamaaDoor
set_option maxRecDepth 100000
open Go Go.RowKit

theorem ff_take {ls : List (List UInt8)} {k : Nat} (hk : k < ls.length) (h : ff (ls.take k) = 0) : ff (ls.take (k + 1)) = lbFz (ls.getD k []) ∧ (lbFz (ls.getD k []) ≠ 0 → ff ls = lbFz (ls.getD k [])) := by
  have e : ls.take (k + 1) = ls.take k ++ [ls.getD k []] := by
    rw [List.take_succ_eq_append_getElem hk]
    congr 2
    simp [hk]
  have e1 : ff (ls.take (k + 1)) = lbFz (ls.getD k []) := by rw [e, ff_app, if_pos h, ff_one]
  refine ⟨e1, fun hne => ?_⟩
  rw [← List.take_append_drop (k + 1) ls, ff_app, e1, if_neg hne]
  rw [List.take_append_drop]
theorem bad_take {l : List UInt8} {m : Nat} (hm : m < l.length) : bad (l.take (m + 1)) = (bad (l.take m) || !okB (l.getD m 0)) := by
  have e : l.take (m + 1) = l.take m ++ [l.getD m 0] := by
    rw [List.take_succ_eq_append_getElem hm]
    congr 2
    simp [hm]
  rw [e, bad_snoc]
theorem bad_of {l : List UInt8} {m : Nat} (hm : m < l.length) (h : okB (l.getD m 0) = false) : bad l = true := by
  unfold bad
  rw [List.any_eq_true]
  refine ⟨l.getD m 0, ?_, by rw [h]; rfl⟩
  simp [hm]

end Go.Proofs.YtpbniihhpfbamaaDoor
