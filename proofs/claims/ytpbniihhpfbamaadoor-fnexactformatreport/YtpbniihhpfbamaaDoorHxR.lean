
/-
  Rows of bytes that a text was turned into: the cell behind their end is marked, all others are free.
-/
import Derived.Test.YtpbniihhpfbamaaDoorHelp
import Derived.Test.YtpbniihhpfbamaaDoorApd
import Derived.Test.YtpbniihhpfbamaaDoorRwB
import Derived.Lib.ConvBytes
import Derived.Lib.FrozenHead
namespace Go.Proofs.YtpbniihhpfbamaaDoor
set_option maxRecDepth 100000
open Go Go.RowKit

def RowS (w : World) (base : Nat) (v : Value) (xs : List Int) : Prop :=
  ∃ (g cap : Nat) (cur : Array Value) (fz : Nat × Nat), v = .slice (some ⟨g, 0, none⟩) xs.length cap ∧ base ≤ g ∧ w.heap[g]? = some (.cells cur 5 fz) ∧ (fz = (0, 0) ∨ cur.size ≤ fz.1) ∧ xs.length ≤ cap ∧ cap ≤ maxLen ∧ cur.size = cap ∧ cur.toList.take xs.length = xs.map (Value.int .u8)
theorem RowS.of_block {w w' : World} {base : Nat} {v : Value} {xs : List Int} (h : RowS w base v xs) (hb : ∀ g, base ≤ g → g < w.heap.size → w'.heap[g]? = w.heap[g]?) : RowS w' base v xs := by
  obtain ⟨g, cap, cur, fz, rfl, hbg, hg, r⟩ := h
  exact ⟨g, cap, cur, fz, rfl, hbg, by rw [hb g hbg ((Array.getElem?_eq_some_iff.1 hg).1)]; exact hg, r⟩
theorem RowS.up {w w' : World} {base : Nat} {v : Value} {xs : List Int} (h : RowS w base v xs) (hb : Below w.heap.size w w') : RowS w' base v xs := h.of_block fun g _ hg => hb.block g hg
theorem RowS.only {w w' : World} {base q : Nat} {v : Value} {xs : List Int} (h : RowS w base v xs) (hb : Only q w w') (hq : q < base) : RowS w' base v xs := h.of_block fun g h1 _ => hb.block g (by omega)
theorem frz {w : World} {g : Nat} {cur : Array Value} {e : TypeId} {fz : Nat × Nat} (hg : w.heap[g]? = some (.cells cur e fz)) (h : fz = (0, 0) ∨ cur.size ≤ fz.1) (i : Nat) (hi : i < cur.size) : w.frozen? ⟨g, i, none⟩ = false := by
  obtain ⟨lo, hi'⟩ := fz
  simp only [World.frozen?, hg, Bool.and_eq_false_iff, decide_eq_false_iff_not]
  rcases h with h | h
  · cases h
    right
    omega
  · left
    simp only at h
    omega
theorem RowS.rd {w : World} {base : Nat} {v : Value} {xs : List Int} (h : RowS w base v xs) : ∃ (a : Option Addr) (c g : Nat), v = .slice a xs.length c ∧ Rd w g a .u8 xs := by
  obtain ⟨g, cap, cur, fz, rfl, hb, hg, hf, hn, hm, hs, ht⟩ := h
  refine ⟨_, cap, g, rfl, fun _ => ⟨0, rfl, fun i hi => ?_⟩⟩
  have := congrArg (fun l => l[i]?) ht
  simp only [List.getElem?_take, if_pos hi, List.getElem?_map, Array.getElem?_toList] at this
  rw [Nat.zero_add]
  simp only [World.cell?, hg, this, List.getElem?_eq_getElem hi, List.getD_eq_getElem?_getD]
  rfl
theorem RowS.parts {w : World} {base : Nat} {v : Value} {xs : List Int} (h : RowS w base v xs) :
    ∃ (g cap : Nat), v = .slice (some ⟨g, 0, none⟩) xs.length cap ∧ base ≤ g ∧ xs.length ≤ cap ∧ (∀ i, i < xs.length → w.cell? ⟨g, i, none⟩ = some (.int .u8 (xs.getD i 0))) ∧ (∀ i, i < xs.length → w.frozen? ⟨g, i, none⟩ = false) ∧
      (∀ i z, i < xs.length → RowS (w.setCell ⟨g, i, none⟩ (.int .u8 z)) base v (xs.set i z)) ∧ (∀ n, n ≤ xs.length → RowS w base (.slice (some ⟨g, 0, none⟩) n cap) (xs.take n)) := by
  obtain ⟨a, c, g', e, hr⟩ := h.rd
  obtain ⟨g, cap, cur, fz, rfl, hb, hg, hf, hn, hm, hs, ht⟩ := h
  injection e with e1 e2 e3
  subst e1
  refine ⟨g, cap, rfl, hb, hn, fun i hi => ?_, fun i hi => frz hg hf i (by omega), fun i z hi => ⟨g, cap, cur.setIfInBounds i (.int .u8 z), fz, by simp, hb, ?_, by simpa using hf, by simpa using hn, hm, by simpa using hs, ?_⟩, fun n hn' => ⟨g, cap, cur, fz, by rw [List.length_take, Nat.min_eq_left hn'], hb, hg, hf, by rw [List.length_take]; omega, hm, hs, ?_⟩⟩
  · obtain ⟨o, eo, hc⟩ := hr (by omega)
    have := hc i hi
    cases eo
    simpa using this
  · show (w.heap.modify g _)[g]? = _
    rw [Array.getElem?_modify, if_pos rfl, hg]
    rfl
  · rw [List.length_set, Array.toList_setIfInBounds, List.take_set, ht, List.map_set]
  · rw [List.length_take, Nat.min_eq_left hn', List.map_take, ← ht, List.take_take, Nat.min_eq_left hn']
/-- One byte appended. -/
theorem append_S {P : Program} (w : World) (ty : TypeId) (i : TypeInfo) (ht : P.underlying 23 = some (.slice 5)) (hi : P.info? 5 = some i) (hz : i.zero = some (.int .u8 0)) (hsize : i.size = 1) (hby : i.bytes = 1)
    (base B : Nat) (v : Value) (xs : List Int) (hown : RowS w base v xs) (g2 c : Nat) (x : Int) (hx : w.cell? ⟨g2, 0, none⟩ = some (.int .u8 x)) (hl : xs.length ≤ 1048576) (hB : B ≤ base) (hbase : base ≤ w.heap.size) :
    ∃ v' w', (Builtin.append_ #[23, 23] ty #[v, .slice (some ⟨g2, 0, none⟩) 1 c]).run P w = .ok v' w' ∧ RowS w' base v' (xs ++ [x]) ∧ Below B w w' := by
  obtain ⟨g, cap, cur, fz, rfl, hb, hg, hf, hn, hm, hs, htk⟩ := hown
  have hnews : ∀ j u, [Value.int .u8 x][j]? = some u → w.cell? ((⟨g2, 0, none⟩ : Addr).add j) = some u := by
    intro j u hj
    have : j < 1 := (List.getElem?_eq_some_iff.1 hj).1
    obtain rfl : j = 0 := by omega
    simp at hj
    rw [← hj]
    exact hx
  by_cases hroom : xs.length + 1 ≤ cap
  · have hfr := frz hg hf xs.length (by omega)
    have hcl : xs.length < cur.size := by omega
    have hcell : w.cell? ⟨g, xs.length, none⟩ = some cur[xs.length] := by simp [World.cell?, hg, hcl]
    have hf2 := run_firstCells_some (P := P) w 1 1 ⟨g2, 0, none⟩ 1 c [Value.int .u8 x] (by simp) hnews
    have hst : (storeCells ⟨g, xs.length, none⟩ [Value.int .u8 x] 0).run P w = .ok () (w.setRow g (cur.setIfInBounds xs.length (.int .u8 x))) := by
      have hadd : (⟨g, xs.length, none⟩ : Addr).add 0 = ⟨g, xs.length, none⟩ := by unfold Addr.add; split <;> simp_all
      have h1 : (store ((⟨g, xs.length, none⟩ : Addr).add 0) (Value.int .u8 x)).run P w = .ok () (w.setRow g (cur.setIfInBounds xs.length (.int .u8 x))) := by
        rw [hadd, run_store P w _ (Value.int .u8 x) _ rfl, hcell]
        simp [hfr, setCell_eq_setRow w g xs.length cur 5 fz (Value.int .u8 x) hg]
      simp only [storeCells, Sem.run_bind, h1, Result.andThen_ok]
      rfl
    refine ⟨.slice (some ⟨g, 0, none⟩) (xs.length + 1) cap, w.setRow g (cur.setIfInBounds xs.length (.int .u8 x)), ?_, ⟨g, cap, _, fz, by simp, hb, setRow_heap w g cur _ 5 _ hg, by simpa using hf, by simpa using hroom, hm, by simpa using hs, ?_⟩, ⟨rfl, rfl, rfl, by simp, fun k hk => setRow_other w g k _ (by omega)⟩⟩
    · simp [Builtin.append_, run_underlying ht, sizeOf, typeInfo, hi, hsize, Builtin.lenOf, hroom, hf2, Addr.add_lit, hst]
    · have hl2 : xs.length < cur.toList.length := by simpa using hcl
      rw [Array.toList_setIfInBounds, List.length_append, List.length_singleton, List.take_add_one, List.take_set, htk, List.set_eq_of_length_le (by simp), List.map_append, List.getElem?_set_self hl2]
      rfl
  · have holds : ∀ j u, (xs.map (Value.int .u8))[j]? = some u → w.cell? ((⟨g, 0, none⟩ : Addr).add j) = some u := by
      intro j u hj
      have hadd : (⟨g, 0, none⟩ : Addr).add j = ⟨g, j, none⟩ := by unfold Addr.add; split <;> simp_all
      rw [hadd, cell_of_row w g j cur 5 fz hg]
      rw [← htk, List.getElem?_take] at hj
      split at hj
      · simpa using hj
      · cases hj
    have hml : maxLen = 9223372036854775807 := rfl
    have hr := run_append_grow (P := P) w 23 ty 5 i (.int .u8 0) ht hi hz ⟨g, 0, none⟩ xs.length cap (xs.map (Value.int .u8)) (by rw [hsize]; simp) holds ⟨g2, 0, none⟩ 1 c [Value.int .u8 x] (by rw [hsize]; rfl) hnews (by omega) (by omega) (by rw [hby]; exact growslice_fits (by omega) (by omega))
    have hge := grownCap_ge w (xs.length + 1) cap 5
    have hcm2 : grownCap w (xs.length + 1) cap 5 ≤ maxLen := grownCap_le_maxLen w (xs.length + 1) cap 5 (by omega)
    refine ⟨_, _, hr, ⟨w.heap.size, _, _, (0, 0), by simp, hbase, heap_alloc_new w.drew _, .inl rfl, by simpa using hge, hcm2, ?_, ?_⟩, ⟨rfl, rfl, rfl, by simp, fun k hk => by
      have hk' : k < w.drew.heap.size := by show k < w.heap.size; omega
      have hne : ¬ (k = w.drew.heap.size) := by omega
      show (w.drew.heap.push _)[k]? = _
      rw [Array.getElem?_push, if_neg hne]
      rfl⟩⟩
    · have hz1 : (Value.int IntKind.u8 0).cells.size = 1 := rfl
      simp only [Array.size_append, List.size_toArray, size_zeroCells, hz1, List.length_map, List.length_singleton]
      omega
    · simp only [Array.toList_append, List.append_assoc]
      rw [← List.append_assoc, List.map_append, List.length_append, List.length_singleton]
      have e : (xs.map (Value.int .u8) ++ [Value.int .u8 x]).length = xs.length + 1 := by simp
      rw [← e]
      exact List.take_left
/-- A text turned into bytes. -/
theorem convS (w : World) (l : List UInt8) (hl : l.length ≤ 1048576) : ∃ (v : Value) (w' : World), (convert 9 23 (.string ⟨⟨l⟩⟩)).run Tryd.prog w = .ok v w' ∧ RowS w' w.heap.size v (l.map fun b => (b.toNat : Int)) ∧ Below w.heap.size w w' := by
  have hml : maxLen = 9223372036854775807 := rfl
  have hge := grownCap_ge w l.length 0 5
  refine ⟨_, _, Lib.run_convert_string_bytes w 9 23 5 ⟨⟨l⟩⟩ Tryd.underlying9 Tryd.underlying23 Tryd.underlying5, ⟨w.heap.size, grownCap w l.length 0 5, _, _, by rw [List.length_map]; rfl, Nat.le_refl _, Lib.bytesWorld_at_new w 5 _, .inr (Nat.le_refl _), by simpa using hge, grownCap_le_maxLen w _ _ _ (by omega), ?_, ?_⟩, ⟨rfl, rfl, rfl, by rw [Lib.bytesWorld_size]; omega, fun b hb => Lib.bytesWorld_at_old w 5 _ b hb⟩⟩
  · have : (ByteArray.mk ⟨l⟩).size = l.length := rfl
    simp only [Lib.bytesCells, Array.size_append, Array.size_map, Array.size_replicate, this]
    show l.length + _ = _
    omega
  · rw [List.length_map]
    simp only [Lib.bytesCells, Array.toList_append, Array.toList_map]
    rw [List.take_append_of_le_length (by simp)]
    simp [List.take_of_length_le]
end Go.Proofs.YtpbniihhpfbamaaDoor
