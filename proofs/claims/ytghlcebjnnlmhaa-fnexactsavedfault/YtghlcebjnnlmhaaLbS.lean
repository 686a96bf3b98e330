
/-
  The model's labels.
-/
import Derived.Test.YtghlcebjnnlmhaaLbC
import Derived.Laws.AppendOwnNone
import Derived.Maps.AppendAt
import Derived.Lib.AppendZeros
namespace Go.Proofs.Ytghlcebjnnlmhaa
open Go Go.RowKit

/-- A row of texts that the walk owns. -/
def RowT (w : World) (base : Nat) (v : Value) (ls : List (List UInt8)) : Prop := w.ownsRow base 9 1 v ls.length (ls.map tx)
theorem tx_one (ls : List (List UInt8)) : ∀ u ∈ ls.map tx, u.oneCell' = true := by
  intro u hu
  obtain ⟨x, _, rfl⟩ := List.mem_map.1 hu
  rfl
set_option maxRecDepth 100000 in
theorem infoTx : (Try.prog.info? 9).map (fun i => (i.zero, i.size, i.bytes)) = some (some (.string ⟨#[]⟩), 1, 16) := by kernel_rfl
set_option maxRecDepth 100000 in
theorem undTx : Try.prog.underlying 37 = some (.slice 9) := Try.underlying37
theorem RowT.lit1 (w : World) (l : List UInt8) : RowT (w.alloc (.cells #[tx l] 9)) w.heap.size (.slice (some ⟨w.heap.size, 0, none⟩) 1 1) [l] :=
  World.ownsRow_lit w #[tx l] 1 (Nat.le_refl _) (by unfold maxLen; omega) (by simp)
set_option maxRecDepth 100000 in
/-- One text more. -/
theorem append_tx (w : World) (ty : TypeId) (base : Nat) (v : Value) (ls : List (List UInt8)) (hown : RowT w base v ls) (l : List UInt8) (hl : ls.length ≤ 1000000) (hbase : base ≤ w.heap.size) :
    ∃ v' w', (Builtin.append_ #[37, 37] ty #[v, .slice (some ⟨w.heap.size, 0, none⟩) 1 1]).run Try.prog (w.alloc (.cells #[tx l] 9)) = .ok v' w' ∧ RowT w' base v' (ls ++ [l]) ∧ Below base w w' := by
  obtain ⟨i, hi, hz, hs, hb⟩ := info_parts infoTx
  have h0 : RowT (w.alloc (.cells #[tx l] 9)) base v ls := World.ownsRow.alloc hown _
  have m1 : Below base w (w.alloc (.cells #[tx l] 9)) := (Below.refl _ _).alloc hbase _
  obtain ⟨v', w', h1, h2, h3, _⟩ := run_append_own (P := Try.prog) (w.alloc (.cells #[tx l] 9)) base 37 ty 9 i (.string ⟨#[]⟩) 1 16 undTx hi hz hs hb rfl (by decide) v ls.length (ls.map tx) h0 ⟨w.heap.size, 0, none⟩ 1 1 [tx l] (by simp) (cell_one_new w (tx l) 9) (by simp [tx, Value.oneCell']) (by unfold maxLen; omega) (by omega) (by simp; omega)
  refine ⟨v', w', h1, ?_, m1.grown h3 (by simp; omega) (fun k hk => by have := (World.ownsRow.lt h0 k hk).1; omega)⟩
  show w'.ownsRow base 9 1 v' (ls ++ [l]).length ((ls ++ [l]).map tx)
  rw [List.length_append, List.map_append]
  exact h2
theorem RowT.cells {w : World} {base : Nat} {v : Value} {ls : List (List UInt8)} (h : RowT w base v ls) (h0 : 0 < ls.length) : ∃ g c, v = .slice (some ⟨g, 0, none⟩) ls.length c ∧ base ≤ g ∧ g < w.heap.size ∧ (∀ i, i < ls.length → w.cell? ⟨g, i, none⟩ = some (tx (ls.getD i []))) ∧ ∀ i, w.frozen? ⟨g, i, none⟩ = false := by
  rcases h.2 with ⟨_, h'⟩ | ⟨g, cap, cur, rfl, hb, hg, hnc, hcm, hcs, ht⟩
  · omega
  · refine ⟨g, cap, rfl, hb, (Array.getElem?_eq_some_iff.1 hg).1, fun i hi => ?_, fun i => frozen_of_row w g i cur 9 hg⟩
    rw [cell_of_row w g i cur 9 (0, 0) hg]
    have : (cur.toList.take (ls.length * 1))[i]? = (ls.map tx)[i]? := by rw [ht]
    rw [List.getElem?_take, if_pos (by omega)] at this
    simpa [hi] using this
theorem set_snoc {α : Type} : ∀ (a : List α) (x y : α), (a ++ [x]).set a.length y = a ++ [y]
  | [], _, _ => rfl
  | b :: a, x, y => congrArg (List.cons b) (set_snoc a x y)
/-- The last text is replaced. -/
theorem RowT.setLast {w : World} {base g c : Nat} {ls : List (List UInt8)} {l : List UInt8} (h : RowT w base (.slice (some ⟨g, 0, none⟩) (ls.length + 1) c) (ls ++ [l])) (l' : List UInt8) (n : Nat) : RowT ((w.drewN n).setCell ⟨g, ls.length, none⟩ (tx l')) base (.slice (some ⟨g, 0, none⟩) (ls.length + 1) c) (ls ++ [l']) := by
  refine ⟨by simp, ?_⟩
  rcases h.2 with ⟨h', _⟩ | ⟨g', cap, cur, e, hb, hg, hnc, hcm, hcs, ht⟩
  · simp at h'
  · simp only [Value.slice.injEq, Option.some.injEq, Addr.mk.injEq, and_true] at e
    obtain ⟨rfl, e2, rfl⟩ := e
    refine .inr ⟨g, c, cur.setIfInBounds ls.length (tx l'), by simp, hb, ?_, by simpa using hnc, hcm, by simpa using hcs, ?_⟩
    · exact heap_setCell_same (w.drewN n) g ls.length cur 9 (tx l') hg
    · simp only [List.length_append, List.length_cons, List.length_nil, Nat.mul_one, List.map_append, List.map_cons, List.map_nil] at ht ⊢
      rw [Array.toList_setIfInBounds, List.take_set, ht]
      have e3 : ls.length = (ls.map tx).length := by simp
      rw [e3]
      exact set_snoc _ _ _
theorem RowT.up {w w' : World} {base : Nat} {v : Value} {ls : List (List UInt8)} (h : RowT w base v ls) (hb : Below w.heap.size w w') : RowT w' base v ls := by
  refine ⟨h.1, ?_⟩
  rcases h.2 with h' | ⟨g, cap, cur, rfl, hbg, hg, hnc, hcm, hcs, ht⟩
  · exact .inl h'
  · exact .inr ⟨g, cap, cur, rfl, hbg, by rw [hb.block g ((Array.getElem?_eq_some_iff.1 hg).1)]; exact hg, hnc, hcm, hcs, ht⟩

/-- A row of texts that the call made. -/
def NewT1 (B : Nat) (w' : World) (e : Ending) (ls : List (List UInt8)) : Prop := ∃ v, e = .returned v ∧ RowT w' B v ls
theorem labs_snoc (l : List UInt8) (c : UInt8) : labs (l ++ [c]) = if (c.toNat : Int) = 46 then labs l ++ [[]] else (lst l).1 ++ [(lst l).2 ++ [c]] := by
  unfold labs
  rw [lst_snoc]
  unfold stp
  split <;> simp
theorem lst_len (l : List UInt8) : (lst l).1.length ≤ l.length := by
  revert l
  refine snoc_ind (by simp [lst]) ?_
  intro l c ih
  rw [lst_snoc]
  unfold stp
  split
  · simp; omega
  · simp; omega
set_option maxRecDepth 100000 in
theorem buildT (w : World) (l : List UInt8) : (Instr.buildSlice 37 1 #[(0, .string ⟨⟨l⟩⟩)]).run Try.prog w = .ok (.slice (some ⟨w.heap.size, 0, none⟩) 1 1) (w.alloc (.cells #[tx l] 9)) := by kernel_rfl

set_option maxRecDepth 100000 in
set_option maxHeartbeats 4000000 in
theorem l11Labels_any (w : World) (t : List UInt8) (hl : t.length ≤ 128) :
    Calls Try.prog 17 #[.string ⟨⟨t⟩⟩] w fun e w' => NewT1 w.heap.size w' e (labs t) ∧ Below w.heap.size w w' := by
  have hsz := tx_size t
  have B0 := fun w => buildT w []
  have R0 := RowT.lit1 w []
  have n0 : Below w.heap.size w (w.alloc (.cells #[tx []] 9)) := (Below.refl _ _).alloc (Nat.le_refl _) _
  go_enter Try.func17, Try.ntmps17
  go_wp2
  have R0' : RowT (w.alloc (.cells #[Value.string ⟨#[]⟩] 9)) w.heap.size (.slice (some ⟨w.heap.size, 0, none⟩) 1 1) [[]] := R0
  have n0' : Below w.heap.size w (w.alloc (.cells #[Value.string ⟨#[]⟩] 9)) := n0
  clear R0 n0 B0
  generalize w.alloc (.cells #[Value.string ⟨#[]⟩] 9) = w1 at *
  go_loopw [3, 4] (fun o i wr => ∃ k : Nat, k ≤ t.length ∧ i = .int .i64 k ∧ RowT wr w.heap.size o (labs (t.take k)) ∧ Below w.heap.size w wr) (fun _ i _ => t.length - (intOf i).toNat)
  case atStart => exact ⟨0, by omega, rfl, R0', n0'⟩
  case round =>
    clear R0' n0'
    obtain ⟨k, hk, rfl, R, N⟩ := hrel
    by_cases hlt : k < t.length
    · have t1 : (k : Int) < (t.length : Int) := by omega
      have ix := fun w => run_tx (P := Try.prog) w 9 t k Try.underlying9 hlt
      have e : t.take (k + 1) = t.take k ++ [t.getD k 0] := by
        rw [List.take_succ_eq_append_getElem hlt]
        congr 2
        simp [hlt]
      have LS := labs_snoc (t.take k) (t.getD k 0)
      rw [← e] at LS
      have ll := lst_len (t.take k)
      rw [List.length_take, Nat.min_eq_left (by omega)] at ll
      have cut0 : (t.drop k).take (k + 1 - k) = [t.getD k 0] := by
        have eg : t.getD k 0 = t[k] := by simp [hlt]
        rw [eg, show k + 1 - k = 1 by omega, List.drop_eq_getElem_cons hlt]
        rfl
      obtain ⟨c, hc⟩ : ∃ c, c = t.getD k 0 := ⟨_, rfl⟩
      rw [← hc] at ix LS cut0
      clear hc e
      by_cases h46 : (c.toNat : Int) = 46
      · rw [if_pos h46] at LS
        have hL : (labs (t.take k)).length ≤ 1000000 := by unfold labs; simp; omega
        obtain ⟨v', w2, h1, R2, N2⟩ := append_tx wr 37 w.heap.size _ _ R [] hL (N.size)
        rw [← LS] at R2
        have h1' : (Builtin.append_ #[37, 37] 37 #[u3, .slice (some ⟨wr.heap.size, 0, none⟩) 1 1]).run Try.prog (wr.alloc (.cells #[Value.string ⟨#[]⟩] 9)) = .ok v' w2 := h1
        have RR := hide R2
        have NN := hide (N.trans N2)
        clear h1 R2 N2 R N LS hL cut0
        have b46 : ((c.toNat : Int) == 46) = true := by rw [h46]; rfl
        generalize (c.toNat : Int) = x at *
        subst h46
        go_wp2_with (at_builtin; refine Lib.wpList_append_run _ rfl _ _ 37 37 rfl _ _ rfl rfl _ _ h1' ?_)
        clear h1'
        go_wp2
        go_roundw
        case rel => exact ⟨k + 1, by omega, by go_num, RR.out, NN.out⟩
        case measure => simp [intOf]; omega
      · rw [if_neg h46] at LS
        have b46 : ((c.toNat : Int) == 46) = false := by simpa using h46
        generalize (c.toNat : Int) = x at *
        unfold labs at R
        obtain ⟨g, cp, rfl, hg, hgl, hc, hf⟩ := R.cells (by simp)
        have cl := hc (lst (t.take k)).1.length (by simp)
        have fl := hf (lst (t.take k)).1.length
        have eg : ((lst (t.take k)).1 ++ [(lst (t.take k)).2]).getD (lst (t.take k)).1.length [] = (lst (t.take k)).2 := by simp
        rw [eg] at cl
        have el : ((lst (t.take k)).1 ++ [(lst (t.take k)).2]).length = (lst (t.take k)).1.length + 1 := by simp
        rw [el] at R ⊢
        have RS := fun n => hide (RowT.setLast R ((lst (t.take k)).2 ++ [c]) n)
        rw [← LS] at RS
        have NS : ∀ n, Hid (Below w.heap.size w ((wr.drewN n).setCell ⟨g, (lst (t.take k)).1.length, none⟩ (tx ((lst (t.take k)).2 ++ [c])))) := fun n => (below_drewN N n).setCell hg _
        have ex : (ByteArray.mk ⟨t⟩).extract k (k + 1) = ByteArray.mk ⟨[c]⟩ := by
          have := ByteArray.extract_mk t k (k + 1)
          rw [cut0] at this
          exact this
        have lc : (lst (t.take k)).2.length ≤ 128 := by
          obtain ⟨s, h1, _⟩ := lst_cur (t.take k)
          rw [List.length_take] at h1
          omega
        have ap : ByteArray.mk ⟨(lst (t.take k)).2⟩ ++ ByteArray.mk ⟨[c]⟩ = ByteArray.mk ⟨(lst (t.take k)).2 ++ [c]⟩ := ByteArray.mk_append_mk (lst (t.take k)).2 [c]
        have sz1 : ¬ ((lst (t.take k)).2.length + 1 > 9223372036854775807) := by omega
        clear hc hf eg el R N LS cut0 hgl
        generalize (lst (t.take k)).2 = cur at *
        generalize (lst (t.take k)).1.length = m at *
        unfold tx at cl RS NS
        go_wp2
        go_region
        go_wp2
        go_roundw
        case rel => exact ⟨k + 1, by omega, by go_num, (RS _).out, (NS _).out⟩
        case measure => simp [intOf]; omega
    · obtain rfl : k = t.length := by omega
      rw [List.take_length] at R
      have RR := hide R
      have NN := hide N
      clear R N
      go_wp2
      go_ret
      exact ⟨⟨_, rfl, RR.out⟩, NN.out⟩
end Go.Proofs.Ytghlcebjnnlmhaa
