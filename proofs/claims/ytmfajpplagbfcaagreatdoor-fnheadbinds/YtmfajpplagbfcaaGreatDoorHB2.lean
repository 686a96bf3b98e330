import Derived.Test.YtmfajpplagbfcaaGreatDoorHB1
import Derived.Laws.AppendOwnNone
import Derived.Maps.AppendAt
import Derived.Lib.AppendZeros
import Derived.Lib.Bytealg
namespace Go.Proofs.YtmfajpplagbfcaaGreatDoor
set_option maxRecDepth 100000
open Go Go.RowKit
def RowT (w : World) (base : Nat) (v : Value) (ls : List (List UInt8)) : Prop := w.ownsRow base 9 1 v ls.length (ls.map tx)
theorem tx_one (ls : List (List UInt8)) : ∀ u ∈ ls.map tx, u.oneCell' = true := by
  intro u hu
  obtain ⟨x, _, rfl⟩ := List.mem_map.1 hu
  rfl
set_option maxRecDepth 100000 in
theorem infoTx : (Tryz.prog.info? 9).map (fun i => (i.zero, i.size, i.bytes)) = some (some (.string ⟨#[]⟩), 1, 16) := by kernel_rfl
set_option maxRecDepth 100000 in
theorem undTx : Tryz.prog.underlying 23 = some (.slice 9) := Tryz.underlying23
theorem RowT.lit1 (w : World) (l : List UInt8) : RowT (w.alloc (.cells #[tx l] 9)) w.heap.size (.slice (some ⟨w.heap.size, 0, none⟩) 1 1) [l] :=
  World.ownsRow_lit w #[tx l] 1 (Nat.le_refl _) (by unfold maxLen; omega) (by simp)
set_option maxRecDepth 100000 in
theorem append_tx (w : World) (ty : TypeId) (base : Nat) (v : Value) (ls : List (List UInt8)) (hown : RowT w base v ls) (l : List UInt8) (hl : ls.length ≤ 1000000) (hbase : base ≤ w.heap.size) :
    ∃ v' w', (Builtin.append_ #[23, 23] ty #[v, .slice (some ⟨w.heap.size, 0, none⟩) 1 1]).run Tryz.prog (w.alloc (.cells #[tx l] 9)) = .ok v' w' ∧ RowT w' base v' (ls ++ [l]) ∧ Below base w w' := by
  obtain ⟨i, hi, hz, hs, hb⟩ := info_parts infoTx
  have h0 : RowT (w.alloc (.cells #[tx l] 9)) base v ls := World.ownsRow.alloc hown _
  have m1 : Below base w (w.alloc (.cells #[tx l] 9)) := (Below.refl _ _).alloc hbase _
  obtain ⟨v', w', h1, h2, h3, _⟩ := run_append_own (P := Tryz.prog) (w.alloc (.cells #[tx l] 9)) base 23 ty 9 i (.string ⟨#[]⟩) 1 16 undTx hi hz hs hb rfl (by decide) v ls.length (ls.map tx) h0 ⟨w.heap.size, 0, none⟩ 1 1 [tx l] (by simp) (cell_one_new w (tx l) 9) (by simp [tx, Value.oneCell']) (by unfold maxLen; omega) (by omega) (by simp; omega)
  refine ⟨v', w', h1, ?_, m1.grown h3 (by simp; omega) (fun k hk => by have := (World.ownsRow.lt h0 k hk).1; omega)⟩
  show w'.ownsRow base 9 1 v' (ls ++ [l]).length ((ls ++ [l]).map tx)
  rw [List.length_append, List.map_append]
  exact h2
theorem RowT.cells {w : World} {base : Nat} {v : Value} {ls : List (List UInt8)} (h : RowT w base v ls) (h0 : 0 < ls.length) : ∃ g c, v = .slice (some ⟨g, 0, none⟩) ls.length c ∧ base ≤ g ∧ g < w.heap.size ∧ (∀ i, i < ls.length → w.cell? ⟨g, i, none⟩ = some (tx (ls.getD i []))) ∧ ∀ i, w.frozen? ⟨g, i, none⟩ = false := by
  rcases h.2 with ⟨_, h'⟩ | ⟨g, cap, cur, rfl, hb, hg, hnc, hcm, hcs, ht⟩
  · omega
  · refine ⟨g, cap, rfl, hb, (Array.getElem?_eq_some_iff.1 hg).1, fun i hi => ?_, fun i => frozen_of_row w g i cur 9 hg⟩
    rw [cell_of_row w g i cur 9 (0, 0) hg]
    have : (cur.toList.take (ls.length * 1))[i]? = (ls.map tx)[i]? := by rw [ht]
    rw [List.getElem?_take, if_pos (by omega)] at this
    simpa [hi] using this
theorem set_snoc {α : Type} : ∀ (a : List α) (x y : α), (a ++ [x]).set a.length y = a ++ [y]
  | [], _, _ => rfl
  | b :: a, x, y => congrArg (List.cons b) (set_snoc a x y)
theorem RowT.setLast {w : World} {base g c : Nat} {ls : List (List UInt8)} {l : List UInt8} (h : RowT w base (.slice (some ⟨g, 0, none⟩) (ls.length + 1) c) (ls ++ [l])) (l' : List UInt8) (n : Nat) : RowT ((w.drewN n).setCell ⟨g, ls.length, none⟩ (tx l')) base (.slice (some ⟨g, 0, none⟩) (ls.length + 1) c) (ls ++ [l']) := by
  refine ⟨by simp, ?_⟩
  rcases h.2 with ⟨h', _⟩ | ⟨g', cap, cur, e, hb, hg, hnc, hcm, hcs, ht⟩
  · simp at h'
  · simp only [Value.slice.injEq, Option.some.injEq, Addr.mk.injEq, and_true] at e
    obtain ⟨rfl, e2, rfl⟩ := e
    refine .inr ⟨g, c, cur.setIfInBounds ls.length (tx l'), by simp, hb, ?_, by simpa using hnc, hcm, by simpa using hcs, ?_⟩
    · exact heap_setCell_same (w.drewN n) g ls.length cur 9 (tx l') hg
    · simp only [List.length_append, List.length_cons, List.length_nil, Nat.mul_one, List.map_append, List.map_cons, List.map_nil] at ht ⊢
      rw [Array.toList_setIfInBounds, List.take_set, ht]
      have e3 : ls.length = (ls.map tx).length := by simp
      rw [e3]
      exact set_snoc _ _ _
theorem RowT.up {w w' : World} {base : Nat} {v : Value} {ls : List (List UInt8)} (h : RowT w base v ls) (hb : Below w.heap.size w w') : RowT w' base v ls := by
  refine ⟨h.1, ?_⟩
  rcases h.2 with h' | ⟨g, cap, cur, rfl, hbg, hg, hnc, hcm, hcs, ht⟩
  · exact .inl h'
  · exact .inr ⟨g, cap, cur, rfl, hbg, by rw [hb.block g ((Array.getElem?_eq_some_iff.1 hg).1)]; exact hg, hnc, hcm, hcs, ht⟩
def NewT1 (B : Nat) (w' : World) (e : Ending) (ls : List (List UInt8)) : Prop := ∃ v, e = .returned v ∧ RowT w' B v ls
theorem labs_snoc (l : List UInt8) (c : UInt8) : labs (l ++ [c]) = if (c.toNat : Int) = 46 then labs l ++ [[]] else (lst l).1 ++ [(lst l).2 ++ [c]] := by
  unfold labs
  rw [lst_snoc]
  unfold stp
  split <;> simp
theorem lst_len (l : List UInt8) : (lst l).1.length ≤ l.length := by
  revert l
  refine snoc_ind (by simp [lst]) ?_
  intro l c ih
  rw [lst_snoc]
  unfold stp
  split
  · simp; omega
  · simp; omega
set_option maxRecDepth 100000 in
theorem buildT (w : World) (l : List UInt8) : (Instr.buildSlice 23 1 #[(0, .string ⟨⟨l⟩⟩)]).run Tryz.prog w = .ok (.slice (some ⟨w.heap.size, 0, none⟩) 1 1) (w.alloc (.cells #[tx l] 9)) := by kernel_rfl
set_option maxRecDepth 100000 in
set_option maxHeartbeats 4000000 in
theorem l11Labels_any (w : World) (t : List UInt8) (hl : t.length ≤ 128) :
    Calls Tryz.prog 55 #[.string ⟨⟨t⟩⟩] w fun e w' => NewT1 w.heap.size w' e (labs t) ∧ Below w.heap.size w w' := by
  have hsz := tx_size t
  have B0 := fun w => buildT w []
  have R0 := RowT.lit1 w []
  have n0 : Below w.heap.size w (w.alloc (.cells #[tx []] 9)) := (Below.refl _ _).alloc (Nat.le_refl _) _
  go_enter Tryz.func55, Tryz.ntmps55
  go_wp2
  have R0' : RowT (w.alloc (.cells #[Value.string ⟨#[]⟩] 9)) w.heap.size (.slice (some ⟨w.heap.size, 0, none⟩) 1 1) [[]] := R0
  have n0' : Below w.heap.size w (w.alloc (.cells #[Value.string ⟨#[]⟩] 9)) := n0
  clear R0 n0 B0
  generalize w.alloc (.cells #[Value.string ⟨#[]⟩] 9) = w1 at *
  go_loopw [3, 4] (fun o i wr => ∃ k : Nat, k ≤ t.length ∧ i = .int .i64 k ∧ RowT wr w.heap.size o (labs (t.take k)) ∧ Below w.heap.size w wr) (fun _ i _ => t.length - (intOf i).toNat)
  case atStart => exact ⟨0, by omega, rfl, R0', n0'⟩
  case round =>
    clear R0' n0'
    obtain ⟨k, hk, rfl, R, N⟩ := hrel
    by_cases hlt : k < t.length
    · have t1 : (k : Int) < (t.length : Int) := by omega
      have ix := fun w => run_tx (P := Tryz.prog) w 9 t k Tryz.underlying9 hlt
      have e : t.take (k + 1) = t.take k ++ [t.getD k 0] := by
        rw [List.take_succ_eq_append_getElem hlt]
        congr 2
        simp [hlt]
      have LS := labs_snoc (t.take k) (t.getD k 0)
      rw [← e] at LS
      have ll := lst_len (t.take k)
      rw [List.length_take, Nat.min_eq_left (by omega)] at ll
      have cut0 : (t.drop k).take (k + 1 - k) = [t.getD k 0] := by
        have eg : t.getD k 0 = t[k] := by simp [hlt]
        rw [eg, show k + 1 - k = 1 by omega, List.drop_eq_getElem_cons hlt]
        rfl
      obtain ⟨c, hc⟩ : ∃ c, c = t.getD k 0 := ⟨_, rfl⟩
      rw [← hc] at ix LS cut0
      clear hc e
      by_cases h46 : (c.toNat : Int) = 46
      · rw [if_pos h46] at LS
        have hL : (labs (t.take k)).length ≤ 1000000 := by unfold labs; simp; omega
        obtain ⟨v', w2, h1, R2, N2⟩ := append_tx wr 23 w.heap.size _ _ R [] hL (N.size)
        rw [← LS] at R2
        have h1' : (Builtin.append_ #[23, 23] 23 #[u3, .slice (some ⟨wr.heap.size, 0, none⟩) 1 1]).run Tryz.prog (wr.alloc (.cells #[Value.string ⟨#[]⟩] 9)) = .ok v' w2 := h1
        have RR := hide R2
        have NN := hide (N.trans N2)
        clear h1 R2 N2 R N LS hL cut0
        have b46 : ((c.toNat : Int) == 46) = true := by rw [h46]; rfl
        generalize (c.toNat : Int) = x at *
        subst h46
        go_wp2_with (at_builtin; refine Lib.wpList_append_run _ rfl _ _ 23 23 rfl _ _ rfl rfl _ _ h1' ?_)
        clear h1'
        go_wp2
        go_roundw
        case rel => exact ⟨k + 1, by omega, by go_num, RR.out, NN.out⟩
        case measure => simp [intOf]; omega
      · rw [if_neg h46] at LS
        have b46 : ((c.toNat : Int) == 46) = false := by simpa using h46
        generalize (c.toNat : Int) = x at *
        unfold labs at R
        obtain ⟨g, cp, rfl, hg, hgl, hc, hf⟩ := R.cells (by simp)
        have cl := hc (lst (t.take k)).1.length (by simp)
        have fl := hf (lst (t.take k)).1.length
        have eg : ((lst (t.take k)).1 ++ [(lst (t.take k)).2]).getD (lst (t.take k)).1.length [] = (lst (t.take k)).2 := by simp
        rw [eg] at cl
        have el : ((lst (t.take k)).1 ++ [(lst (t.take k)).2]).length = (lst (t.take k)).1.length + 1 := by simp
        rw [el] at R ⊢
        have RS := fun n => hide (RowT.setLast R ((lst (t.take k)).2 ++ [c]) n)
        rw [← LS] at RS
        have NS : ∀ n, Hid (Below w.heap.size w ((wr.drewN n).setCell ⟨g, (lst (t.take k)).1.length, none⟩ (tx ((lst (t.take k)).2 ++ [c])))) := fun n => (below_drewN N n).setCell hg _
        have ex : (ByteArray.mk ⟨t⟩).extract k (k + 1) = ByteArray.mk ⟨[c]⟩ := by
          have := ByteArray.extract_mk t k (k + 1)
          rw [cut0] at this
          exact this
        have lc : (lst (t.take k)).2.length ≤ 128 := by
          obtain ⟨s, h1, _⟩ := lst_cur (t.take k)
          rw [List.length_take] at h1
          omega
        have ap : ByteArray.mk ⟨(lst (t.take k)).2⟩ ++ ByteArray.mk ⟨[c]⟩ = ByteArray.mk ⟨(lst (t.take k)).2 ++ [c]⟩ := ByteArray.mk_append_mk (lst (t.take k)).2 [c]
        have sz1 : ¬ ((lst (t.take k)).2.length + 1 > 9223372036854775807) := by omega
        clear hc hf eg el R N LS cut0 hgl
        generalize (lst (t.take k)).2 = cur at *
        generalize (lst (t.take k)).1.length = m at *
        unfold tx at cl RS NS
        go_wp2
        go_region
        go_wp2
        go_roundw
        case rel => exact ⟨k + 1, by omega, by go_num, (RS _).out, (NS _).out⟩
        case measure => simp [intOf]; omega
    · obtain rfl : k = t.length := by omega
      rw [List.take_length] at R
      have RR := hide R
      have NN := hide N
      clear R N
      go_wp2
      go_ret
      exact ⟨⟨_, rfl, RR.out⟩, NN.out⟩
end Go.Proofs.YtmfajpplagbfcaaGreatDoor
namespace Go.Proofs.YtmfajpplagbfcaaGreatDoor
set_option maxRecDepth 100000
open Go Go.RowKit
theorem ff_take {ls : List (List UInt8)} {k : Nat} (hk : k < ls.length) (h : ff (ls.take k) = 0) : ff (ls.take (k + 1)) = lbFz (ls.getD k []) ∧ (lbFz (ls.getD k []) ≠ 0 → ff ls = lbFz (ls.getD k [])) := by
  have e : ls.take (k + 1) = ls.take k ++ [ls.getD k []] := by
    rw [List.take_succ_eq_append_getElem hk]
    congr 2
    simp [hk]
  have e1 : ff (ls.take (k + 1)) = lbFz (ls.getD k []) := by rw [e, ff_app, if_pos h, ff_one]
  refine ⟨e1, fun hne => ?_⟩
  rw [← List.take_append_drop (k + 1) ls, ff_app, e1, if_neg hne]
  rw [List.take_append_drop]
theorem bad_take {l : List UInt8} {m : Nat} (hm : m < l.length) : bad (l.take (m + 1)) = (bad (l.take m) || !okB (l.getD m 0)) := by
  have e : l.take (m + 1) = l.take m ++ [l.getD m 0] := by
    rw [List.take_succ_eq_append_getElem hm]
    congr 2
    simp [hm]
  rw [e, bad_snoc]
theorem bad_of {l : List UInt8} {m : Nat} (hm : m < l.length) (h : okB (l.getD m 0) = false) : bad l = true := by
  unfold bad
  rw [List.any_eq_true]
  refine ⟨l.getD m 0, ?_, by rw [h]; rfl⟩
  simp [hm]
set_option maxRecDepth 100000 in
set_option maxHeartbeats 8000000 in
theorem specNameFault_any (w : World) (t : List UInt8) (hl : t.length ≤ 9223372036854775807) :
    Calls Tryz.prog 34 #[.string ⟨⟨t⟩⟩] w fun e w' => e = .returned (.int .i64 (nameF t)) ∧ Below w.heap.size w w' := by
  have hsz := tx_size t
  by_cases h0 : t.length < 1
  · have eN : Hid (nameF t = 1) := by show _ = _; unfold nameF; rw [if_pos (.inl h0)]
    have t0 : decide ((t.length : Int) < 1) = true := by simp; omega
    go_enter Tryz.func34, Tryz.ntmps34
    go_wp2
    go_ret
    exact ⟨by rw [eN.out]; rfl, Below.refl _ _⟩
  · have t0 : decide ((t.length : Int) < 1) = false := by simp; omega
    by_cases h1 : 128 < t.length
    · have eN : Hid (nameF t = 1) := by show _ = _; unfold nameF; rw [if_pos (.inr h1)]
      have t1 : decide ((128 : Int) < (t.length : Int)) = true := by simp; omega
      go_enter Tryz.func34, Tryz.ntmps34
      go_wp2
      go_ret
      exact ⟨by rw [eN.out]; rfl, Below.refl _ _⟩
    · have eN : Hid (nameF t = ff (labs t)) := by show _ = _; unfold nameF; rw [if_neg (by omega)]
      have t1 : decide ((128 : Int) < (t.length : Int)) = false := by simp; omega
      have LL := hide (fun w => l11Labels_any w t (by omega))
      have ln : (labs t).length ≤ 129 ∧ 0 < (labs t).length := by
        have := lst_len t
        unfold labs
        simp
        omega
      go_enter Tryz.func34, Tryz.ntmps34
      go_wp2_with fail
      refine (LL.out w).mono ?_
      rintro e W ⟨⟨v, rfl, R⟩, N⟩
      obtain ⟨g, cp, rfl, hg, hgl, hc, hf⟩ := R.cells ln.2
      clear LL R hf hgl hg
      have HN := hide N
      have HC := hide hc
      clear N hc
      generalize labs t = ls at *
      go_wp2
      go_loopw [4] (fun i wr => wr = W ∧ ∃ k : Nat, k ≤ ls.length ∧ i = .int .i64 k ∧ ff (ls.take k) = 0) (fun i _ => ls.length - (intOf i).toNat)
      case atStart => exact ⟨rfl, 0, by omega, rfl, rfl⟩
      case round =>
        obtain ⟨h1', k, hk, rfl, hff⟩ := hrel
        subst h1'
        by_cases hlt : k < ls.length
        · have t2 : (k : Int) < (ls.length : Int) := by omega
          have ck := HC.out k hlt
          obtain ⟨f1, f2⟩ := ff_take hlt hff
          generalize ls.getD k [] = l at *
          unfold tx at ck
          have lsz := tx_size l
          by_cases l0 : l.length = 0
          · have u0 : ((l.length : Int) == 0) = true := by simpa using l0
            have EQ : Hid (ff ls = 2) := by
              have e : lbFz l = 2 := by unfold lbFz; rw [if_pos l0]
              show _ = _
              rw [f2 (by rw [e]; decide), e]
            clear f1 f2 hff
            go_wp2
            go_ret
            exact ⟨by rw [eN.out, EQ.out]; rfl, HN.out⟩
          · have u0 : ((l.length : Int) == 0) = false := by simpa using l0
            by_cases l1 : 63 < l.length
            · have u1 : decide ((63 : Int) < (l.length : Int)) = true := by simp; omega
              have EQ : Hid (ff ls = 3) := by
                have e : lbFz l = 3 := by unfold lbFz; rw [if_neg l0, if_pos l1]
                show _ = _
                rw [f2 (by rw [e]; decide), e]
              clear f1 f2 hff
              go_wp2
              go_ret
              exact ⟨by rw [eN.out, EQ.out]; rfl, HN.out⟩
            · have u1 : decide ((63 : Int) < (l.length : Int)) = false := by simp; omega
              have F1 := hide f1
              have F2 := hide f2
              clear f1 f2 hff
              go_wp2
              go_loopw [6] (fun j w2 => w2 = wr ∧ ∃ m : Nat, m ≤ l.length ∧ j = .int .i64 m ∧ bad (l.take m) = false) (fun j _ => l.length - (intOf j).toNat)
              case atStart => exact ⟨rfl, 0, by omega, rfl, rfl⟩
              case round =>
                obtain ⟨h2', m, hm, rfl, hb⟩ := hrel
                subst h2'
                by_cases hml : m < l.length
                · have v1 : (m : Int) < (l.length : Int) := by omega
                  have ix := fun w => run_tx (P := Tryz.prog) w 9 l m Tryz.underlying9 hml
                  have BT := hide (bad_take hml)
                  have BO := hide (bad_of (m := m) hml)
                  have HB := hide (show okB (l.getD m 0) = ((decide (97 ≤ ((l.getD m 0).toNat : Int)) && decide (((l.getD m 0).toNat : Int) ≤ 122)) || (decide (48 ≤ ((l.getD m 0).toNat : Int)) && decide (((l.getD m 0).toNat : Int) ≤ 57)) || decide (((l.getD m 0).toNat : Int) = 45)) from rfl)
                  have hbH := hide hb
                  clear hb
                  generalize l.getD m 0 = c at *
                  generalize (c.toNat : Int) = x at *
                  by_cases hok : okB c = true
                  · have RL := hide (show bad (l.take (m + 1)) = false by rw [BT.out, hbH.out, hok]; rfl)
                    rw [hok] at HB
                    clear BT BO hbH hok
                    have hx : ((97 ≤ x ∧ x ≤ 122) ∨ (48 ≤ x ∧ x ≤ 57)) ∨ x = 45 := by
                      have h := HB.out
                      simpa using h.symm
                    clear HB
                    rcases hx with (⟨a1, a2⟩ | ⟨a1, a2⟩) | rfl
                    · skip
                      go_wp2
                      go_roundw
                      case rel => exact ⟨trivial, m + 1, by omega, by go_num, RL.out⟩
                      case measure => simp [intOf]; omega
                    · have a3 : decide (97 ≤ x) = false := by simp; omega
                      go_wp2
                      go_roundw
                      case rel => exact ⟨trivial, m + 1, by omega, by go_num, RL.out⟩
                      case measure => simp [intOf]; omega
                    · skip
                      go_wp2
                      go_roundw
                      case rel => exact ⟨trivial, m + 1, by omega, by go_num, RL.out⟩
                      case measure => simp [intOf]; omega
                  · have hok' : okB c = false := by simpa using hok
                    have EQ : Hid (ff ls = 4) := by
                      have e : lbFz l = 4 := by unfold lbFz; rw [if_neg l0, if_neg l1, if_pos (BO.out hok')]
                      show _ = _
                      rw [F2.out (by rw [e]; decide), e]
                    rw [hok'] at HB
                    clear BT BO hbH hok hok' F1 F2
                    have hx : ¬ (((97 ≤ x ∧ x ≤ 122) ∨ (48 ≤ x ∧ x ≤ 57)) ∨ x = 45) := by
                      have h := HB.out
                      intro k
                      have : (decide (97 ≤ x) && decide (x ≤ 122) || decide (48 ≤ x) && decide (x ≤ 57) || decide (x = 45)) = true := by simpa using k
                      rw [this] at h
                      cases h
                    clear HB
                    have b5 : (x == 45) = false := by
                      have : ¬ x = 45 := fun h => hx (.inr h)
                      simpa using this
                    by_cases a1 : 97 ≤ x
                    · have a2 : decide (x ≤ 122) = false := by simp; omega
                      have a4 : decide (x ≤ 57) = false := by simp; omega
                      have a3 : (48 : Int) ≤ x := by omega
                      clear hx
                      go_wp2
                      go_ret
                      exact ⟨by rw [eN.out, EQ.out]; rfl, HN.out⟩
                    · have a0 : decide (97 ≤ x) = false := by simp; omega
                      by_cases a3 : 48 ≤ x
                      · have a4 : decide (x ≤ 57) = false := by simp; omega
                        clear hx
                        go_wp2
                        go_ret
                        exact ⟨by rw [eN.out, EQ.out]; rfl, HN.out⟩
                      · have a4 : decide (48 ≤ x) = false := by simp; omega
                        clear hx
                        go_wp2
                        go_ret
                        exact ⟨by rw [eN.out, EQ.out]; rfl, HN.out⟩
                · obtain rfl : m = l.length := by omega
                  rw [List.take_length] at hb
                  have ix0 : ∀ w, (Instr.index 9 (.string ⟨⟨l⟩⟩) (.int .i64 0)).run Tryz.prog w = .ok (.int .u8 ((l.getD 0 0).toNat : Int)) w := fun w => run_tx (P := Tryz.prog) w 9 l 0 Tryz.underlying9 (by omega)
                  have ix1 := fun w => run_tx (P := Tryz.prog) w 9 l (l.length - 1) Tryz.underlying9 (by omega)
                  have e1 : ((l.length - 1 : Nat) : Int) = (l.length : Int) - 1 := by omega
                  rw [e1] at ix1
                  have e5 : lbFz l = if ((l.getD 0 0).toNat : Int) = 45 ∨ ((l.getD (l.length - 1) 0).toNat : Int) = 45 then 5 else 0 := by
                    unfold lbFz
                    rw [if_neg l0, if_neg l1, if_neg (by rw [hb]; decide)]
                  have E5 := hide e5
                  clear e5 hb e1
                  generalize ((l.getD 0 0).toNat : Int) = x at *
                  generalize ((l.getD (l.length - 1) 0).toNat : Int) = y at *
                  by_cases h3 : x = 45
                  · subst h3
                    have EQ : Hid (ff ls = 5) := by
                      have e : lbFz l = 5 := by rw [E5.out, if_pos (.inl rfl)]
                      show _ = _
                      rw [F2.out (by rw [e]; decide), e]
                    clear F1 F2 E5
                    go_wp2
                    go_ret
                    exact ⟨by rw [eN.out, EQ.out]; rfl, HN.out⟩
                  · have b1 : (x == 45) = false := by simpa using h3
                    by_cases h4 : y = 45
                    · subst h4
                      have EQ : Hid (ff ls = 5) := by
                        have e : lbFz l = 5 := by rw [E5.out, if_pos (.inr rfl)]
                        show _ = _
                        rw [F2.out (by rw [e]; decide), e]
                      clear F1 F2 E5
                      go_wp2
                      go_ret
                      exact ⟨by rw [eN.out, EQ.out]; rfl, HN.out⟩
                    · have b2 : (y == 45) = false := by simpa using h4
                      have RL := hide (show ff (ls.take (k + 1)) = 0 by rw [F1.out, E5.out, if_neg (by rintro (h | h) <;> contradiction)])
                      clear F1 F2 E5
                      go_wp2
                      go_roundw
                      case rel => exact ⟨trivial, k + 1, by omega, by go_num, RL.out⟩
                      case measure => simp [intOf]; omega
        · obtain rfl : k = ls.length := by omega
          rw [List.take_length] at hff
          have HF := hide hff
          clear hff
          go_wp2
          go_ret
          exact ⟨by rw [eN.out, HF.out]; rfl, HN.out⟩
end Go.Proofs.YtmfajpplagbfcaaGreatDoor
namespace Go.Proofs.YtmfajpplagbfcaaGreatDoor
set_option maxRecDepth 100000
open Go Go.RowKit
end Go.Proofs.YtmfajpplagbfcaaGreatDoor
namespace Go.Proofs.YtmfajpplagbfcaaGreatDoor
set_option maxRecDepth 100000
open Go Go.RowKit
end Go.Proofs.YtmfajpplagbfcaaGreatDoor
namespace Go.Proofs.YtmfajpplagbfcaaGreatDoor
set_option maxRecDepth 100000
open Go
end Go.Proofs.YtmfajpplagbfcaaGreatDoor
namespace Go.Proofs.YtmfajpplagbfcaaGreatDoor
set_option maxRecDepth 100000
open Go Go.RowKit
end Go.Proofs.YtmfajpplagbfcaaGreatDoor
namespace Go.Proofs.YtmfajpplagbfcaaGreatDoor
set_option maxRecDepth 100000
open Go Go.RowKit
end Go.Proofs.YtmfajpplagbfcaaGreatDoor
namespace Go.Proofs.YtmfajpplagbfcaaGreatDoor
set_option maxRecDepth 100000
open Go Go.RowKit
theorem tx_add (w : World) (a b : List UInt8) (h : a.length + b.length ≤ 9223372036854775807) : (Op.stringOp .add (ByteArray.mk ⟨a⟩) (ByteArray.mk ⟨b⟩)).run Tryz.prog w = .ok (.string ⟨⟨a ++ b⟩⟩) w := by
  rw [run_string_add_sum w _ _ (by rw [tx_size, tx_size]; exact h)]
  have := ByteArray.mk_append_mk a b
  exact congrArg (fun s => Result.ok (Value.string s) w) this
end Go.Proofs.YtmfajpplagbfcaaGreatDoor
namespace Go.Proofs.YtmfajpplagbfcaaGreatDoor
set_option maxRecDepth 100000
open Go Go.RowKit
end Go.Proofs.YtmfajpplagbfcaaGreatDoor
