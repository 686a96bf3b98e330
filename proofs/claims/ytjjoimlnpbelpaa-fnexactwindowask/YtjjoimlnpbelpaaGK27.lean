import Derived.Test.YtjjoimlnpbelpaaGK26

/-
  Windows that are asked: numbers (written by gens/wav.py).
-/
namespace Go.Proofs.Ytjjoimlnpbelpaa
open Go Go.RowKit Go.Maps

set_option maxRecDepth 100000 in
theorem toM_ofM (ms : List Mrk) : toM (ofM ms) = ms := by
  unfold toM ofM
  rw [List.map_map]
  exact List.map_id' ms
set_option maxRecDepth 100000 in
theorem psI_ofM (ms : List Mrk) (n : Int) : ∀ k, k ≤ ms.length → psI (ofM ms) n k ≤ n + (k : Int) + (sumK (ms.take k) : Int)
  | 0, _ => by
    show n ≤ _
    omega
  | k + 1, h => by
    have ih := psI_ofM ms n k (by omega)
    rw [sumK_take (show k < ms.length by omega)]
    show psI (ofM ms) n k + (((ofM ms).getD k (0, [])).2.length : Int) + 1 ≤ _
    rw [ofM_get (show k < ms.length by omega)]
    simp only
    omega
set_option maxRecDepth 100000 in
theorem psI_all {its : List (Int × List Int)} {n : Int} (hn : ∀ i, i < its.length → (its.getD i (0, [])).2.length ≤ 32) : ∀ k, k ≤ its.length → psI its n k ≤ n + (k : Int) * 33
  | 0, _ => by
    show n ≤ _
    omega
  | k + 1, h => by
    have ih := psI_all (n := n) hn k (by omega)
    have := hn k (by omega)
    show psI its n k + ((its.getD k (0, [])).2.length : Int) + 1 ≤ _
    omega
set_option maxRecDepth 100000 in
theorem askM_len (wd : Int) (ms : List Mrk) (X : List Int) (now : Int) : (askM wd ms X now).length ≤ 65 := by
  unfold askM
  split
  · rename_i ok
    rw [mkOf_len]
    have := askE_len wd ms X now
    have := (wfV_zero ok.1).2.1
    omega
  · simp
set_option maxRecDepth 100000 in
theorem askM_id (wd : Int) (ms : List Mrk) (X : List Int) (now : Int) : ∀ i, i < (askM wd ms X now).length → ((askM wd ms X now).getD i (0, [])).2.length ≤ 32 := by
  intro i hi
  have hm : (askM wd ms X now).getD i (0, []) ∈ askM wd ms X now := by
    rw [List.getD_eq_getElem?_getD, List.getElem?_eq_getElem hi]
    exact List.getElem_mem hi
  generalize (askM wd ms X now).getD i (0, []) = x at *
  unfold askM at hm
  split at hm
  · rename_i ok
    unfold mkOf at hm
    obtain ⟨e, he, rfl⟩ := List.mem_map.1 hm
    have hk : ∀ e ∈ kept ms now, e.id.length = 32 := fun e he => by
      have h1 : e ∈ entsTo ms ms.length := (List.mem_filter.1 he).1
      unfold entsTo at h1
      obtain ⟨j, hj, rfl⟩ := List.mem_map.1 h1
      exact ((wfV_zero ok.1).2.2.1 j (by simpa using hj)).1
    unfold askE tkE at he
    split at he
    · rcases List.mem_append.1 he with h | h
      · exact Nat.le_of_eq (hk e h)
      · simp only [List.mem_singleton] at h
        rw [h]
        exact Nat.le_of_eq ok.2.1
    · exact Nat.le_of_eq (hk e he)
  · simp at hm
set_option maxRecDepth 100000 in
/-- The law's box of its argument, and what has turned since. -/
theorem IRow.rdM {w : World} {B : Nat} {g : Nat} {c : Nat} {ms : List Mrk} {bs : List Plc} (h : IRow w B (.slice (some ⟨g, 0, none⟩) ms.length c) (ofM ms) bs) : ∃ g', RdK w g' (some ⟨g, 0, none⟩) ms (toP bs) := by
  obtain ⟨g', a, c', e, r⟩ := h.kRow.rdK
  rw [toM_ofM] at r e
  simp only [Value.slice.injEq, true_and] at e
  rw [← e.1] at r
  exact ⟨g', r⟩
set_option maxRecDepth 100000 in
/-- An answer that may be read: its row's slice, and where it lies. -/
theorem KRow.rdA {w : World} {C B : Nat} {v : Value} {its : List (Int × List Int)} {bs : List Plc} (h : KRow w C B v its bs) : ∃ g a c, v = .slice a its.length c ∧ RdK w g a (toM its) (toP bs) := by
  obtain ⟨g, a, c, e, r⟩ := h.rdK
  rw [toM_len] at e
  exact ⟨g, a, c, e, r⟩
end Go.Proofs.Ytjjoimlnpbelpaa
