
/-
  Windows that are asked: the ids of the book in the order of their places (written by gens/waj.py).
-/
import Derived.Test.YtjjoimlnpbelpaaWaI
namespace Go.Proofs.Ytjjoimlnpbelpaa
open Go Go.RowKit Go.Maps Go.Sort Go.Shelf

set_option maxRecDepth 100000 in
theorem collect_any (w : World) (Bm b nn : Nat) (D : DataW Unit) (E : List Ent) (hB : Bk D E) (hBm : Bm < w.heap.size) (hm : w.cell? ⟨Bm, 0, none⟩ = some (.map (some b))) (own : w.ownsMap Try.prog 58 pmR b nn D) (hl : E.length ≤ 1000) :
    Calls Try.prog 45 #[.func (.func 47) #[] #[.pointer (some ⟨Bm, 0, none⟩)]] w fun e w' => (∃ v xs, e = .returned v ∧ (xs.map (fun x : Id32 => x.1)).Perm (E.map (·.id)) ∧ w'.ownsRow w.heap.size 58 32 v xs.length (fltI xs)) ∧ Below w.heap.size w w' := by
  have AS := hide (appendSeq_any w Bm b nn D E hB hBm hm own hl)
  go_enter Try.func45, Try.ntmps45
  go_wp2_with fail
  refine AS.out.mono ?_
  rintro e w1 ⟨⟨v, xs, rfl, hp, ho⟩, n1⟩
  have HP := hide hp
  have HO := hide ho
  clear hp ho AS
  go_wp2
  go_ret
  exact ⟨⟨v, xs, rfl, HP.out, HO.out⟩, n1⟩
set_option maxRecDepth 100000 in
theorem flt_get : ∀ (xs : List Id32) (j : Nat), j < xs.length * 32 → (fltI xs)[j]? = some ((encI (xs.toArray[j / 32]!))[j % 32]!)
  | [], j, h => by simp at h
  | x :: xs, j, h => by
    have e : fltI (x :: xs) = encI x ++ fltI xs := by simp [fltI]
    have l := encI_len x
    rw [e]
    by_cases hj : j < 32
    · rw [List.getElem?_append_left (by omega), show j / 32 = 0 by omega, show j % 32 = j by omega]
      simp [hj, l]
    · rw [List.getElem?_append_right (by omega), l, flt_get xs (j - 32) (by simp at h; omega)]
      have a1 : j / 32 = (j - 32) / 32 + 1 := by omega
      have a2 : (j - 32) % 32 = j % 32 := by omega
      rw [a1, a2]
      simp
set_option maxRecDepth 100000 in
def ent0 : Ent := ⟨[], 0, 0⟩
set_option maxRecDepth 100000 in
theorem sortedFunc_any (w : World) (Bm b nn s : Nat) (D : DataW Unit) (E : List Ent) (hB : Bk D E) (hBm : Bm < w.heap.size) (hm : w.cell? ⟨Bm, 0, none⟩ = some (.map (some b))) (own : w.ownsMap Try.prog 58 pmR b nn D) (hs : w.cell? ⟨s, 0, none⟩ = some (.map (some b))) (hl : E.length ≤ 1000) (h0 : 0 < E.length) (asc : E.Pairwise (fun x y => x.pl < y.pl)) :
    Calls Try.prog 37 #[.func (.func 47) #[] #[.pointer (some ⟨Bm, 0, none⟩)], .func (.func 35) #[] #[.pointer (some ⟨s, 0, none⟩)]] w fun e w' => (∃ g cap, e = .returned (.slice (some ⟨g, 0, none⟩) E.length cap) ∧ (∀ i, i < E.length → w'.rangeAt g (i * 32) ((E.getD i ent0).id.map (Value.int .u8)))) ∧ Below w.heap.size w w' := by
  have CO := hide (collect_any w Bm b nn D E hB hBm hm own hl)
  have hb := own.lt
  have hsl := block_lt_of_cell hs
  go_enter Try.func37, Try.ntmps37
  go_wp2_with fail
  refine CO.out.mono ?_
  rintro e w1 ⟨⟨v, xs, rfl, hp, ho⟩, n1⟩
  have xl : xs.length = E.length := by have := hp.length_eq; simpa using this
  obtain ⟨g, cap, cur, rfl, hbg, hg, hn, hmx, hcs, ht⟩ : ∃ g cap cur, v = .slice (some ⟨g, 0, none⟩) xs.length cap ∧ w.heap.size ≤ g ∧ w1.heap[g]? = some (.cells cur 58 (0, 0)) ∧ xs.length ≤ cap ∧ cap ≤ maxLen ∧ cur.size = cap * 32 ∧ cur.toList.take (xs.length * 32) = fltI xs := by
    rcases ho.2 with ⟨_, h'⟩ | h'
    · omega
    · exact h'
  have gl : g < w1.heap.size := (Array.getElem?_eq_some_iff.1 hg).1
  have H1 : HoldsK encI 32 w1 g 0 xs.toArray := by
    intro j hj
    rw [size_flatK] at hj
    have hj' : j < xs.length * 32 := by simpa using hj
    rw [get_flatK _ _ _ _ hj]
    refine ⟨?_, frozen_of_row w1 g _ cur 58 hg⟩
    rw [cell_of_row w1 g _ cur _ (0, 0) hg, Nat.zero_add]
    have e1 : (cur.toList.take (xs.length * 32))[j]? = (fltI xs)[j]? := by rw [ht]
    rw [List.getElem?_take, if_pos hj', flt_get xs j hj'] at e1
    simpa using e1
  have SO := hide (sortIds_any D s b nn g cap xs.toArray w1 ((n1.cell (block_lt_of_cell hs)).trans hs) (ownP own n1) (by omega) (by omega) H1 gl (by simp; omega))
  have XL := hide xl
  have HP := hide hp
  have N1 := hide n1
  have HB := hide hB
  have AS := hide asc
  have e2 : xs.toArray.size = E.length := by simpa using xl
  rw [e2] at SO
  rw [xl]
  clear hp ho ht H1 hn hmx hcs CO hg e2 xl hB asc n1
  go_wp2_with fail
  refine SO.out.mono ?_
  rintro e w2 ⟨rfl, d', pm, hso, hH, hgr⟩
  have PM := hide pm
  have SOR := hide hso
  have HH := hide hH
  have GR := hide hgr
  clear pm hso hH hgr SO
  go_wp2
  go_ret
  have dl : d'.size = E.length := by have := PM.out.length_eq; have := XL.out; simp at *; omega
  have pl : ∀ e ∈ E, plOf D e.id = e.pl := fun e he => by unfold plOf; rw [HB.out.at' e he]; rfl
  have q1 : (d'.toList.map (fun x : Id32 => x.1)).Perm (E.map (·.id)) := (PM.out.map _).trans (by simpa using HP.out)
  have EQ : d'.toList.map (fun x : Id32 => x.1) = E.map (·.id) := by
    refine List.Perm.eq_of_pairwise (le := fun a b => plOf D a ≤ plOf D b) (fun a b ha hb h1 h2 => ?_) ?_ ?_ q1
    · obtain ⟨e, he, rfl⟩ := List.mem_map.1 (q1.mem_iff.1 ha)
      obtain ⟨f, hf, rfl⟩ := List.mem_map.1 hb
      rw [pl e he, pl f hf] at h1 h2
      obtain ⟨i, hi, ei⟩ := List.getElem_of_mem he
      obtain ⟨j, hj, ej⟩ := List.getElem_of_mem hf
      rcases Nat.lt_trichotomy i j with l | l | l
      · have := List.pairwise_iff_getElem.1 AS.out i j hi hj l
        rw [ei, ej] at this
        omega
      · subst l
        rw [← ei, ej]
      · have := List.pairwise_iff_getElem.1 AS.out j i hj hi l
        rw [ei, ej] at this
        omega
    · refine List.pairwise_map.2 (List.pairwise_iff_getElem.2 fun i j hi hj hij => ?_)
      have := SOR.out i j hij (by simpa [dl] using hj)
      rw [getElem!_pos d' i (by simpa using hi), getElem!_pos d' j (by simpa using hj)] at this
      simpa using this
    · refine List.pairwise_map.2 (AS.out.imp_of_mem fun {x y} hx hy h => ?_)
      show plOf D x.id ≤ plOf D y.id
      rw [pl x hx, pl y hy]
      omega
  refine ⟨⟨g, cap, rfl, fun i hi => ?_⟩, N1.out.trans ((Below.refl w.heap.size w1).grown GR.out (by have := N1.out.size; omega) (fun k hk => by cases hk; omega))⟩
  intro c u hu
  have e3 : (E.getD i ent0).id = (d'[i]!).1 := by
    have a1 : (d'.toList.map (fun x : Id32 => x.1))[i]? = (E.map (·.id))[i]? := by rw [EQ]
    rw [List.getElem?_map, List.getElem?_map, List.getElem?_eq_getElem hi, Array.getElem?_toList, Array.getElem?_eq_getElem (by omega)] at a1
    rw [List.getD_eq_getElem?_getD, List.getElem?_eq_getElem hi, getElem!_pos d' i (by omega)]
    simpa using a1.symm
  rw [e3] at hu
  have hc : c < 32 := by
    have := (List.getElem?_eq_some_iff.1 hu).1
    rw [List.length_map, (d'[i]!).2.1] at this
    exact this
  have h9 := (HH.out.cell (i := i) (c := c) (by omega) hc).1
  rw [Nat.zero_add] at h9
  rw [h9]
  have : (encI (d'[i]!))[c]? = some u := hu
  rw [List.getElem!_eq_getElem?_getD, this]
  rfl
end Go.Proofs.Ytjjoimlnpbelpaa
