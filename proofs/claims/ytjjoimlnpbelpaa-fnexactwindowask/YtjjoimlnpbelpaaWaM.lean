
/-
  Windows that are asked: what is answered, no walk.
-/
import Derived.Test.YtjjoimlnpbelpaaWaL
namespace Go.Proofs.Ytjjoimlnpbelpaa
open Go Go.RowKit Go.Maps

set_option maxRecDepth 100000 in
def tmO (t : Int) : Bool := decide (0 ≤ t) && decide (t ≤ 253402300799)
set_option maxRecDepth 100000 in
def kept (ms : List Mrk) (now : Int) : List Ent := (entsTo ms ms.length).filter fun e => decide (now ≤ e.un)
set_option maxRecDepth 100000 in
noncomputable def askE (wd : Int) (ms : List Mrk) (X : List Int) (now : Int) : List Ent := tkE (kept ms now) X (ms.length : Int) (now + 2 * wd)
set_option maxRecDepth 100000 in
def AskOk (wd : Int) (ms : List Mrk) (X : List Int) (now : Int) : Prop := wfV wd ms = 0 ∧ X.length = 32 ∧ tmO now = true
set_option maxRecDepth 100000 in
open Classical in
noncomputable def askC (wd : Int) (ms : List Mrk) (X : List Int) (now : Int) : Int := if AskOk wd ms X now then tkC (kept ms now) X else 3
set_option maxRecDepth 100000 in
open Classical in
noncomputable def askW (wd : Int) (ms : List Mrk) (X : List Int) (now : Int) : Int := if AskOk wd ms X now then wd else 0
set_option maxRecDepth 100000 in
open Classical in
noncomputable def askM (wd : Int) (ms : List Mrk) (X : List Int) (now : Int) : List (Int × List Int) := if AskOk wd ms X now then mkOf (askE wd ms X now) else []
set_option maxRecDepth 100000 in
theorem wfV_zero {wd : Int} {ms : List Mrk} (h : wfV wd ms = 0) : wdO wd = true ∧ ms.length ≤ 64 ∧ IdOk ms ∧ utA ms = false := by
  unfold wfV at h
  split at h
  · cases h
  · rename_i h1
    split at h
    · cases h
    · rename_i h2
      split at h
      · cases h
      · rename_i h3
        split at h
        · cases h
        · rename_i h4
          exact ⟨by simpa using h1, by omega, Classical.not_not.1 h3, by simpa using h4⟩
set_option maxRecDepth 100000 in
theorem entsTo_len (ms : List Mrk) (k : Nat) : (entsTo ms k).length = k := by simp [entsTo]
set_option maxRecDepth 100000 in
theorem entsTo_asc (ms : List Mrk) (k : Nat) : (entsTo ms k).Pairwise (fun x y => x.pl < y.pl) := by
  unfold entsTo
  refine List.pairwise_map.2 (List.pairwise_lt_range.imp fun {a b} h => ?_)
  show (a : Int) < (b : Int)
  omega
set_option maxRecDepth 100000 in
theorem entsTo_pl {ms : List Mrk} {k : Nat} {e : Ent} (h : e ∈ entsTo ms k) : e.pl < (k : Int) := by
  unfold entsTo at h
  obtain ⟨i, hi, rfl⟩ := List.mem_map.1 h
  have : i < k := by simpa using hi
  show (i : Int) < (k : Int)
  omega
set_option maxRecDepth 100000 in
theorem kept_len (ms : List Mrk) (now : Int) : (kept ms now).length ≤ ms.length := by
  unfold kept
  have := List.length_filter_le (fun e : Ent => decide (now ≤ e.un)) (entsTo ms ms.length)
  rw [entsTo_len] at this
  exact this
set_option maxRecDepth 100000 in
theorem askE_asc (wd : Int) (ms : List Mrk) (X : List Int) (now : Int) : (askE wd ms X now).Pairwise (fun x y => x.pl < y.pl) := by
  have h : (kept ms now).Pairwise (fun x y => x.pl < y.pl) := (entsTo_asc ms ms.length).filter _
  unfold askE tkE
  split
  · rw [List.pairwise_append]
    refine ⟨h, List.pairwise_singleton _ _, fun x hx y hy => ?_⟩
    simp at hy
    subst hy
    exact entsTo_pl (List.mem_filter.1 hx).1
  · exact h
set_option maxRecDepth 100000 in
theorem askE_pos (wd : Int) (ms : List Mrk) (X : List Int) (now : Int) : 0 < (askE wd ms X now).length := by
  unfold askE tkE
  split
  · simp
  · rename_i h
    unfold tkC at h
    split at h
    · rename_i h1
      obtain ⟨e, he, _⟩ := h1
      exact List.length_pos_of_mem he
    · split at h
      · omega
      · exact absurd rfl h
set_option maxRecDepth 100000 in
theorem askE_len (wd : Int) (ms : List Mrk) (X : List Int) (now : Int) : (askE wd ms X now).length ≤ ms.length + 1 := by
  have := kept_len ms now
  unfold askE tkE
  split
  · simp
    omega
  · omega
end Go.Proofs.Ytjjoimlnpbelpaa
