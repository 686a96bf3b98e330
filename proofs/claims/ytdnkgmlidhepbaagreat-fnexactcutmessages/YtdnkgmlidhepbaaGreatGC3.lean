import Derived.Test.YtdnkgmlidhepbaaGreatGC2
import Derived.Test.YtdnkgmlidhepbaaGreatGC1
import Derived.Laws.AppendOwnNone
import Derived.Lib.AppendZeros
import Derived.Deep.MidRow
import Derived.Deep.Cut
import Derived.Deep.DeepCutAuto
namespace Go.Proofs.YtdnkgmlidhepbaaGreat
open Go Go.RowKit
theorem ff_take {ls : List (List UInt8)} {k : Nat} (hk : k < ls.length) (h : ff (ls.take k) = 0) : ff (ls.take (k + 1)) = lbF (ls.getD k []) ∧ (lbF (ls.getD k []) ≠ 0 → ff ls = lbF (ls.getD k [])) := by
  have e : ls.take (k + 1) = ls.take k ++ [ls.getD k []] := by
    rw [List.take_succ_eq_append_getElem hk]
    congr 2
    simp [hk]
  have e1 : ff (ls.take (k + 1)) = lbF (ls.getD k []) := by rw [e, ff_app, if_pos h, ff_one]
  refine ⟨e1, fun hne => ?_⟩
  rw [← List.take_append_drop (k + 1) ls, ff_app, e1, if_neg hne]
  rw [List.take_append_drop]
theorem bad_take {l : List UInt8} {m : Nat} (hm : m < l.length) : bad (l.take (m + 1)) = (bad (l.take m) || !okB (l.getD m 0)) := by
  have e : l.take (m + 1) = l.take m ++ [l.getD m 0] := by
    rw [List.take_succ_eq_append_getElem hm]
    congr 2
    simp [hm]
  rw [e, bad_snoc]
theorem bad_of {l : List UInt8} {m : Nat} (hm : m < l.length) (h : okB (l.getD m 0) = false) : bad l = true := by
  unfold bad
  rw [List.any_eq_true]
  refine ⟨l.getD m 0, ?_, by rw [h]; rfl⟩
  simp [hm]
set_option maxRecDepth 100000 in
set_option maxHeartbeats 8000000 in
theorem specNameFault_any (w : World) (t : List UInt8) (hl : t.length ≤ 9223372036854775807) :
    Calls Tryz.prog 40 #[.string ⟨⟨t⟩⟩] w fun e w' => e = .returned (.int .i64 (nameF t)) ∧ Below w.heap.size w w' := by
  have hsz := tx_size t
  by_cases h0 : t.length < 1
  · have eN : Hid (nameF t = 1) := by show _ = _; unfold nameF; rw [if_pos (.inl h0)]
    have t0 : decide ((t.length : Int) < 1) = true := by simp; omega
    go_enter Tryz.func40, Tryz.ntmps40
    go_wp2
    go_ret
    exact ⟨by rw [eN.out]; rfl, Below.refl _ _⟩
  · have t0 : decide ((t.length : Int) < 1) = false := by simp; omega
    by_cases h1 : 128 < t.length
    · have eN : Hid (nameF t = 1) := by show _ = _; unfold nameF; rw [if_pos (.inr h1)]
      have t1 : decide ((128 : Int) < (t.length : Int)) = true := by simp; omega
      go_enter Tryz.func40, Tryz.ntmps40
      go_wp2
      go_ret
      exact ⟨by rw [eN.out]; rfl, Below.refl _ _⟩
    · have eN : Hid (nameF t = ff (labs t)) := by show _ = _; unfold nameF; rw [if_neg (by omega)]
      have t1 : decide ((128 : Int) < (t.length : Int)) = false := by simp; omega
      have LL := hide (fun w => l11Labels_any w t (by omega))
      have ln : (labs t).length ≤ 129 ∧ 0 < (labs t).length := by
        have := lst_len t
        unfold labs
        simp
        omega
      go_enter Tryz.func40, Tryz.ntmps40
      go_wp2_with fail
      refine (LL.out w).mono ?_
      rintro e W ⟨⟨v, rfl, R⟩, N⟩
      obtain ⟨g, cp, rfl, hg, hgl, hc, hf⟩ := R.cells ln.2
      clear LL R hf hgl hg
      have HN := hide N
      have HC := hide hc
      clear N hc
      generalize labs t = ls at *
      go_wp2
      go_loopw [4] (fun i wr => wr = W ∧ ∃ k : Nat, k ≤ ls.length ∧ i = .int .i64 k ∧ ff (ls.take k) = 0) (fun i _ => ls.length - (intOf i).toNat)
      case atStart => exact ⟨rfl, 0, by omega, rfl, rfl⟩
      case round =>
        obtain ⟨h1', k, hk, rfl, hff⟩ := hrel
        subst h1'
        by_cases hlt : k < ls.length
        · have t2 : (k : Int) < (ls.length : Int) := by omega
          have ck := HC.out k hlt
          obtain ⟨f1, f2⟩ := ff_take hlt hff
          generalize ls.getD k [] = l at *
          unfold tx at ck
          have lsz := tx_size l
          by_cases l0 : l.length = 0
          · have u0 : ((l.length : Int) == 0) = true := by simpa using l0
            have EQ : Hid (ff ls = 2) := by
              have e : lbF l = 2 := by unfold lbF; rw [if_pos l0]
              show _ = _
              rw [f2 (by rw [e]; decide), e]
            clear f1 f2 hff
            go_wp2
            go_ret
            exact ⟨by rw [eN.out, EQ.out]; rfl, HN.out⟩
          · have u0 : ((l.length : Int) == 0) = false := by simpa using l0
            by_cases l1 : 63 < l.length
            · have u1 : decide ((63 : Int) < (l.length : Int)) = true := by simp; omega
              have EQ : Hid (ff ls = 3) := by
                have e : lbF l = 3 := by unfold lbF; rw [if_neg l0, if_pos l1]
                show _ = _
                rw [f2 (by rw [e]; decide), e]
              clear f1 f2 hff
              go_wp2
              go_ret
              exact ⟨by rw [eN.out, EQ.out]; rfl, HN.out⟩
            · have u1 : decide ((63 : Int) < (l.length : Int)) = false := by simp; omega
              have F1 := hide f1
              have F2 := hide f2
              clear f1 f2 hff
              go_wp2
              go_loopw [6] (fun j w2 => w2 = wr ∧ ∃ m : Nat, m ≤ l.length ∧ j = .int .i64 m ∧ bad (l.take m) = false) (fun j _ => l.length - (intOf j).toNat)
              case atStart => exact ⟨rfl, 0, by omega, rfl, rfl⟩
              case round =>
                obtain ⟨h2', m, hm, rfl, hb⟩ := hrel
                subst h2'
                by_cases hml : m < l.length
                · have v1 : (m : Int) < (l.length : Int) := by omega
                  have ix := fun w => run_tx (P := Tryz.prog) w 9 l m Tryz.underlying9 hml
                  have BT := hide (bad_take hml)
                  have BO := hide (bad_of (m := m) hml)
                  have HB := hide (show okB (l.getD m 0) = ((decide (97 ≤ ((l.getD m 0).toNat : Int)) && decide (((l.getD m 0).toNat : Int) ≤ 122)) || (decide (48 ≤ ((l.getD m 0).toNat : Int)) && decide (((l.getD m 0).toNat : Int) ≤ 57)) || decide (((l.getD m 0).toNat : Int) = 45)) from rfl)
                  have hbH := hide hb
                  clear hb
                  generalize l.getD m 0 = c at *
                  generalize (c.toNat : Int) = x at *
                  by_cases hok : okB c = true
                  · have RL := hide (show bad (l.take (m + 1)) = false by rw [BT.out, hbH.out, hok]; rfl)
                    rw [hok] at HB
                    clear BT BO hbH hok
                    have hx : ((97 ≤ x ∧ x ≤ 122) ∨ (48 ≤ x ∧ x ≤ 57)) ∨ x = 45 := by
                      have h := HB.out
                      simpa using h.symm
                    clear HB
                    rcases hx with (⟨a1, a2⟩ | ⟨a1, a2⟩) | rfl
                    · skip
                      go_wp2
                      go_roundw
                      case rel => exact ⟨trivial, m + 1, by omega, by go_num, RL.out⟩
                      case measure => simp [intOf]; omega
                    · have a3 : decide (97 ≤ x) = false := by simp; omega
                      go_wp2
                      go_roundw
                      case rel => exact ⟨trivial, m + 1, by omega, by go_num, RL.out⟩
                      case measure => simp [intOf]; omega
                    · skip
                      go_wp2
                      go_roundw
                      case rel => exact ⟨trivial, m + 1, by omega, by go_num, RL.out⟩
                      case measure => simp [intOf]; omega
                  · have hok' : okB c = false := by simpa using hok
                    have EQ : Hid (ff ls = 4) := by
                      have e : lbF l = 4 := by unfold lbF; rw [if_neg l0, if_neg l1, if_pos (BO.out hok')]
                      show _ = _
                      rw [F2.out (by rw [e]; decide), e]
                    rw [hok'] at HB
                    clear BT BO hbH hok hok' F1 F2
                    have hx : ¬ (((97 ≤ x ∧ x ≤ 122) ∨ (48 ≤ x ∧ x ≤ 57)) ∨ x = 45) := by
                      have h := HB.out
                      intro k
                      have : (decide (97 ≤ x) && decide (x ≤ 122) || decide (48 ≤ x) && decide (x ≤ 57) || decide (x = 45)) = true := by simpa using k
                      rw [this] at h
                      cases h
                    clear HB
                    have b5 : (x == 45) = false := by
                      have : ¬ x = 45 := fun h => hx (.inr h)
                      simpa using this
                    by_cases a1 : 97 ≤ x
                    · have a2 : decide (x ≤ 122) = false := by simp; omega
                      have a4 : decide (x ≤ 57) = false := by simp; omega
                      have a3 : (48 : Int) ≤ x := by omega
                      clear hx
                      go_wp2
                      go_ret
                      exact ⟨by rw [eN.out, EQ.out]; rfl, HN.out⟩
                    · have a0 : decide (97 ≤ x) = false := by simp; omega
                      by_cases a3 : 48 ≤ x
                      · have a4 : decide (x ≤ 57) = false := by simp; omega
                        clear hx
                        go_wp2
                        go_ret
                        exact ⟨by rw [eN.out, EQ.out]; rfl, HN.out⟩
                      · have a4 : decide (48 ≤ x) = false := by simp; omega
                        clear hx
                        go_wp2
                        go_ret
                        exact ⟨by rw [eN.out, EQ.out]; rfl, HN.out⟩
                · obtain rfl : m = l.length := by omega
                  rw [List.take_length] at hb
                  have ix0 : ∀ w, (Instr.index 9 (.string ⟨⟨l⟩⟩) (.int .i64 0)).run Tryz.prog w = .ok (.int .u8 ((l.getD 0 0).toNat : Int)) w := fun w => run_tx (P := Tryz.prog) w 9 l 0 Tryz.underlying9 (by omega)
                  have ix1 := fun w => run_tx (P := Tryz.prog) w 9 l (l.length - 1) Tryz.underlying9 (by omega)
                  have e1 : ((l.length - 1 : Nat) : Int) = (l.length : Int) - 1 := by omega
                  rw [e1] at ix1
                  have e5 : lbF l = if ((l.getD 0 0).toNat : Int) = 45 ∨ ((l.getD (l.length - 1) 0).toNat : Int) = 45 then 5 else 0 := by
                    unfold lbF
                    rw [if_neg l0, if_neg l1, if_neg (by rw [hb]; decide)]
                  have E5 := hide e5
                  clear e5 hb e1
                  generalize ((l.getD 0 0).toNat : Int) = x at *
                  generalize ((l.getD (l.length - 1) 0).toNat : Int) = y at *
                  by_cases h3 : x = 45
                  · subst h3
                    have EQ : Hid (ff ls = 5) := by
                      have e : lbF l = 5 := by rw [E5.out, if_pos (.inl rfl)]
                      show _ = _
                      rw [F2.out (by rw [e]; decide), e]
                    clear F1 F2 E5
                    go_wp2
                    go_ret
                    exact ⟨by rw [eN.out, EQ.out]; rfl, HN.out⟩
                  · have b1 : (x == 45) = false := by simpa using h3
                    by_cases h4 : y = 45
                    · subst h4
                      have EQ : Hid (ff ls = 5) := by
                        have e : lbF l = 5 := by rw [E5.out, if_pos (.inr rfl)]
                        show _ = _
                        rw [F2.out (by rw [e]; decide), e]
                      clear F1 F2 E5
                      go_wp2
                      go_ret
                      exact ⟨by rw [eN.out, EQ.out]; rfl, HN.out⟩
                    · have b2 : (y == 45) = false := by simpa using h4
                      have RL := hide (show ff (ls.take (k + 1)) = 0 by rw [F1.out, E5.out, if_neg (by rintro (h | h) <;> contradiction)])
                      clear F1 F2 E5
                      go_wp2
                      go_roundw
                      case rel => exact ⟨trivial, k + 1, by omega, by go_num, RL.out⟩
                      case measure => simp [intOf]; omega
        · obtain rfl : k = ls.length := by omega
          rw [List.take_length] at hff
          have HF := hide hff
          clear hff
          go_wp2
          go_ret
          exact ⟨by rw [eN.out, HF.out]; rfl, HN.out⟩
end Go.Proofs.YtdnkgmlidhepbaaGreat
namespace Go.Proofs.YtdnkgmlidhepbaaGreat
open Go.RowKit
def RowB (w : World) (base : Nat) (v : Value) (xs : List Int) : Prop := w.ownsRow base 5 1 v xs.length (xs.map (Value.int .u8))
theorem RowB.up {w w' : World} {base : Nat} {v : Value} {xs : List Int} (h : RowB w base v xs) (hb : Below w.heap.size w w') : RowB w' base v xs := by
  refine ⟨h.1, ?_⟩
  rcases h.2 with h' | ⟨g, cap, cur, rfl, hbg, hg, hnc, hcm, hcs, ht⟩
  · exact .inl h'
  · exact .inr ⟨g, cap, cur, rfl, hbg, by rw [hb.block g ((Array.getElem?_eq_some_iff.1 hg).1)]; exact hg, hnc, hcm, hcs, ht⟩
theorem RowB.only {w w' : World} {base q : Nat} {v : Value} {xs : List Int} (h : RowB w base v xs) (hb : Only q w w') (hq : q < base) : RowB w' base v xs := by
  refine ⟨h.1, ?_⟩
  rcases h.2 with h' | ⟨g, cap, cur, rfl, hbg, hg, hnc, hcm, hcs, ht⟩
  · exact .inl h'
  · exact .inr ⟨g, cap, cur, rfl, hbg, by rw [hb.block g (by omega)]; exact hg, hnc, hcm, hcs, ht⟩
theorem RowB.base {w : World} {base base' : Nat} {v : Value} {xs : List Int} (h : RowB w base v xs) (hb : base' ≤ base) : RowB w base' v xs := by
  refine ⟨h.1, ?_⟩
  rcases h.2 with h' | ⟨g, cap, cur, rfl, hbg, hg, hnc, hcm, hcs, ht⟩
  · exact .inl h'
  · exact .inr ⟨g, cap, cur, rfl, by omega, hg, hnc, hcm, hcs, ht⟩
theorem RowB.own {w : World} {base : Nat} {v : Value} {xs : List Int} (h : RowB w base v xs) :
    ∃ (a : Option Addr) (c g : Nat), v = .slice a xs.length c ∧ Own w g a .u8 xs ∧ (a = none → c = 0) ∧ xs.length ≤ c ∧ base ≤ g := Own.of_ownsRow h
theorem append_any {P : Program} (w : World) (ty : TypeId) (i : TypeInfo) (ht : P.underlying 22 = some (.slice 5)) (hi : P.info? 5 = some i) (hz : i.zero = some (.int .u8 0)) (hsize : i.size = 1) (hby : i.bytes = 1)
    (base B : Nat) (v : Value) (xs : List Int) (hown : RowB w base v xs) (g : Nat) (a : Option Addr) (c : Nat) (us : List Int) (hr : Rd w g a .u8 us) (hc : a = none → c = 0) (hl : xs.length + us.length ≤ 1099511627776) (hB : B ≤ base) (hbase : base ≤ w.heap.size) :
    ∃ v' w', (Builtin.append_ #[22, 22] ty #[v, .slice a us.length c]).run P w = .ok v' w' ∧ RowB w' base v' (xs ++ us) ∧ Below B w w' := by
  cases a with
  | none =>
    obtain rfl : us = [] := by
      by_cases h0 : 0 < us.length
      · obtain ⟨off, h, _⟩ := hr h0
        simp at h
      · exact List.eq_nil_of_length_eq_zero (by omega)
    obtain rfl := hc rfl
    exact ⟨v, w, run_append_owned_none (P := P) (w := w) base 22 ty 5 i 1 ht hi v _ _ hown, by rw [List.append_nil]; exact hown, Below.refl _ _⟩
  | some ad =>
    have hcell : ∀ j u, (us.map (Value.int .u8))[j]? = some u → w.cell? (ad.add j) = some u := by
      intro j u hj
      have hjl : j < us.length := by
        have := (List.getElem?_eq_some_iff.1 hj).1
        simpa using this
      obtain ⟨off, ha, hcc⟩ := hr (by omega)
      simp only [Option.some.injEq] at ha
      subst ha
      rw [Addr.add_mid, hcc j hjl]
      simpa [hjl] using hj
    have hone : ∀ u ∈ us.map (Value.int .u8), u.oneCell' = true := by
      intro u hu
      obtain ⟨x, _, rfl⟩ := List.mem_map.1 hu
      rfl
    obtain ⟨v', w', h1, h2, h3, _⟩ := run_append_own (P := P) w base 22 ty 5 i (.int .u8 0) 1 1 ht hi hz hsize hby rfl (by decide) v xs.length (xs.map (Value.int .u8)) hown ad us.length c (us.map (Value.int .u8)) (by simp) hcell hone (by unfold maxLen; omega) (by omega) hbase
    refine ⟨v', w', h1, ?_, (Below.refl B w).grown h3 (by omega) (fun k hk => by have := (World.ownsRow.lt hown k hk).1; omega)⟩
    show w'.ownsRow base 5 1 v' (xs ++ us).length ((xs ++ us).map (Value.int .u8))
    rw [List.length_append, List.map_append]
    exact h2
theorem RowB.lit0 (w : World) : RowB (w.alloc (.cells #[] 5)) w.heap.size (.slice (some ⟨w.heap.size, 0, none⟩) 0 0) [] :=
  World.ownsRow_lit w #[] 0 (Nat.le_refl _) (by unfold maxLen; omega) (by simp)
theorem RowB.lit1 (w : World) (x : Int) : RowB (w.alloc (.cells #[.int .u8 x] 5)) w.heap.size (.slice (some ⟨w.heap.size, 0, none⟩) 1 1) [x] :=
  World.ownsRow_lit w #[.int .u8 x] 1 (Nat.le_refl _) (by unfold maxLen; omega) (by simp)
theorem RowB.rd {w : World} {base : Nat} {v : Value} {xs : List Int} (h : RowB w base v xs) : ∃ (a : Option Addr) (c g : Nat), v = .slice a xs.length c ∧ Rd w g a .u8 xs ∧ (a = none → c = 0) ∧ xs.length ≤ c ∧ base ≤ g := by
  obtain ⟨a, c, g, h1, h2, h3⟩ := h.own
  exact ⟨a, c, g, h1, h2.rd, h3⟩
theorem blk_lit1 (w : World) (k : IntKind) (e : TypeId) (x : Int) : Blk (w.alloc (.cells #[.int k x] e)) w.heap.size k [x] := by
  refine ⟨e, ?_⟩
  show (w.heap.push _)[w.heap.size]? = _
  simp
end Go.Proofs.YtdnkgmlidhepbaaGreat
namespace Go.Proofs.YtdnkgmlidhepbaaGreat
open Go Go.RowKit
def RwC (w : World) (q : Nat) (cs : List Value) (t : TypeId) : Prop := w.heap[q]? = some (.cells cs.toArray t (0, 0))
theorem RwC.new (w : World) (cs : List Value) (t : TypeId) : RwC (w.alloc (.cells cs.toArray t)) w.heap.size cs t := heap_alloc_new w _
theorem RwC.lt {w : World} {q : Nat} {cs : List Value} {t : TypeId} (h : RwC w q cs t) : q < w.heap.size := (Array.getElem?_eq_some_iff.1 h).1
theorem RwC.up {w w' : World} {q : Nat} {cs : List Value} {t : TypeId} (h : RwC w q cs t) (n : Below w.heap.size w w') : RwC w' q cs t := (n.block q h.lt).trans h
theorem RwC.cell {w : World} {q : Nat} {cs : List Value} {t : TypeId} (h : RwC w q cs t) (i : Nat) : w.cell? ⟨q, i, none⟩ = cs[i]? := by
  rw [cell_of_row w q i _ _ (0, 0) h]
  simp
theorem RwC.free {w : World} {q : Nat} {cs : List Value} {t : TypeId} (h : RwC w q cs t) (i : Nat) : w.frozen? ⟨q, i, none⟩ = false := frozen_of_row w q i _ t h
theorem RwC.set {w : World} {q : Nat} {cs : List Value} {t : TypeId} (h : RwC w q cs t) (i : Nat) (v : Value) : RwC (w.setCell ⟨q, i, none⟩ v) q (cs.set i v) t := by
  show (w.heap.modify q _)[q]? = _
  rw [Array.getElem?_modify, if_pos rfl, show w.heap[q]? = _ from h]
  simp
theorem RwC.push {w : World} {q : Nat} {cs : List Value} {t : TypeId} (h : RwC w q cs t) (o : Obj) : RwC (w.alloc o) q cs t := h.up ((Below.refl _ _).alloc (Nat.le_refl _) o)
theorem RwC.drew1 {w : World} {q : Nat} {cs : List Value} {t : TypeId} (h : RwC w q cs t) : RwC w.drew q cs t := h
structure TMs (w W : World) (tL tM : TypeId) (src zer cs : List Value) : Prop where
  S : RwC W w.heap.size src tL
  U : RwC W (w.heap.size + 1) zer tM
  T : RwC W (w.heap.size + 1 + 1) cs tM
  N : Below w.heap.size w W
theorem TMs.new (w : World) (tL tM : TypeId) (src zer : List Value) : TMs w (((w.alloc (.cells src.toArray tL)).alloc (.cells zer.toArray tM)).alloc (.cells zer.toArray tM)) tL tM src zer zer := by
  have z1 : (w.alloc (.cells src.toArray tL)).heap.size = w.heap.size + 1 := by simp
  have n1 : Below w.heap.size w (w.alloc (.cells src.toArray tL)) := (Below.refl _ _).alloc (Nat.le_refl _) _
  have s1 := RwC.new w src tL
  generalize w.alloc (.cells src.toArray tL) = a at *
  have z2 : (a.alloc (.cells zer.toArray tM)).heap.size = a.heap.size + 1 := by simp
  have n2 : Below a.heap.size a (a.alloc (.cells zer.toArray tM)) := (Below.refl _ _).alloc (Nat.le_refl _) _
  have s2 := RwC.new a zer tM
  generalize a.alloc (.cells zer.toArray tM) = b at *
  have n3 : Below b.heap.size b (b.alloc (.cells zer.toArray tM)) := (Below.refl _ _).alloc (Nat.le_refl _) _
  have s3 := RwC.new b zer tM
  rw [z2, z1] at s3
  rw [z1] at s2
  exact ⟨(s1.up n2).up n3, s2.up n3, s3, nxt (nxt n1 n2) n3⟩
theorem TMs.up {w W W' : World} {tL tM : TypeId} {src zer cs : List Value} (h : TMs w W tL tM src zer cs) (m : Below W.heap.size W W') : TMs w W' tL tM src zer cs := ⟨h.S.up m, h.U.up m, h.T.up m, nxt h.N m⟩
theorem RwC.onl {w w' : World} {q r : Nat} {cs : List Value} {t : TypeId} (h : RwC w q cs t) (O : Only r w w') (hne : q ≠ r) : RwC w' q cs t := (O.block q hne).trans h
theorem TMs.set {w W : World} {tL tM : TypeId} {src zer cs : List Value} (h : TMs w W tL tM src zer cs) (i : Nat) (v : Value) : TMs w (W.setCell ⟨w.heap.size + 1 + 1, i, none⟩ v) tL tM src zer (cs.set i v) := by
  have O := Only.setCell W (w.heap.size + 1 + 1) i v
  exact ⟨h.S.onl O (by omega), h.U.onl O (by omega), h.T.set i v, h.N.trans (O.below (by omega))⟩
theorem only_setG (w : World) (q : Nat) : ∀ (vs : List Value) (o : Nat), Only q w (w.setCells q o vs)
  | [], _ => Only.refl _ _
  | v :: vs, o => (Only.setCell w q o v).trans (only_setG _ q vs (o + 1))
theorem RwC.thereG {w : World} {q : Nat} {cs : List Value} {t : TypeId} (h : RwC w q cs t) : w.there q 0 cs.length := fun j hj => by
  rw [Nat.zero_add, h.cell j, h.free j]
  exact ⟨by simp [hj], rfl⟩
theorem results_cellG {P : Program} {fn : Func} {p : Tmp} {ty : TypeId} (h : fn.results = #[.cell p ty]) (tmps : Array Value) (w : World) (g : Nat) (cs : List Value) (d : TypeDesc)
    (hp : tmps.getD p undef = .pointer (some ⟨g, 0, none⟩)) (hc : w.rangeAt g 0 cs) (hu : P.underlying ty = some d) (hd : d.isRow = true) (hi : (P.info? ty).map (·.size) = some cs.length) :
    (results fn tmps).run P w = .ok (.agg cs.toArray) w := by
  have hp' : tmps[p]?.getD undef = .pointer (some ⟨g, 0, none⟩) := by simpa using hp
  simp [results, h, hp', asAddr, run_loadVar_mid w g 0 ty cs d hc hu hd hi]
theorem RwC.rangeG {w : World} {q : Nat} {cs : List Value} {t : TypeId} (h : RwC w q cs t) : w.rangeAt q 0 cs := fun j v hj => by
  rw [Nat.zero_add]
  exact (h.cell j).trans hj
end Go.Proofs.YtdnkgmlidhepbaaGreat
namespace Go.Proofs.YtdnkgmlidhepbaaGreat
open Go Go.RowKit
structure Tch (S : List Nat) (w w' : World) : Prop where
  os : w'.os = w.os
  tape : w'.tape = w.tape
  output : w'.output = w.output
  size : w.heap.size ≤ w'.heap.size
  block : ∀ b, b < w.heap.size → b ∉ S → w'.heap[b]? = w.heap[b]?
theorem Tch.of_below {w w' : World} {S : List Nat} (h : Below w.heap.size w w') : Tch S w w' := ⟨h.os, h.tape, h.output, h.size, fun b hb _ => h.block b hb⟩
theorem Tch.of_only {w w' : World} {g : Nat} (h : Only g w w') : Tch [g] w w' := ⟨h.os, h.tape, h.output, Nat.le_of_eq h.size.symm, fun b _ hn => h.block b (by simpa using hn)⟩
theorem Tch.trans {a b c : World} {S T : List Nat} (h : Tch S a b) (k : Tch T b c) : Tch (S ++ T) a c :=
  ⟨k.os.trans h.os, k.tape.trans h.tape, k.output.trans h.output, Nat.le_trans h.size k.size, fun x hx hn => (k.block x (Nat.lt_of_lt_of_le hx h.size) (fun m => hn (List.mem_append_right _ m))).trans (h.block x hx (fun m => hn (List.mem_append_left _ m)))⟩
theorem Tch.below {w w' : World} {S : List Nat} {B : Nat} (h : Tch S w w') (hB : B ≤ w.heap.size) (hS : ∀ s ∈ S, B ≤ s) : Below B w w' := ⟨h.os, h.tape, h.output, h.size, fun k hk => h.block k (by omega) (fun m => by have := hS k m; omega)⟩
theorem Tch.mono {w w' : World} {S T : List Nat} (h : Tch S w w') (hs : ∀ s ∈ S, s ∈ T) : Tch T w w' := ⟨h.os, h.tape, h.output, h.size, fun b hb hn => h.block b hb (fun m => hn (hs b m))⟩
theorem Own.tch {w w' : World} {S : List Nat} {g : Nat} {a : Option Addr} {k : IntKind} {xs : List Int} (h : Own w g a k xs) (t : Tch S w w') (hne : 0 < xs.length → g ∉ S) : Own w' g a k xs := by
  by_cases h0 : 0 < xs.length
  · exact h.of_block (t.block g (h.rd.lt h0) (hne h0))
  · exact fun q => absurd q h0
theorem Blk.tch {w w' : World} {S : List Nat} {g : Nat} {k : IntKind} {ys : List Int} (h : Blk w g k ys) (t : Tch S w w') (hne : g ∉ S) : Blk w' g k ys := h.of_block (t.block g h.lt hne)
theorem RwC.tch {w w' : World} {S : List Nat} {q : Nat} {cs : List Value} {t : TypeId} (h : RwC w q cs t) (m : Tch S w w') (hne : q ∉ S) : RwC w' q cs t := (m.block q h.lt hne).trans h
theorem RwC.c0 {w : World} {q : Nat} {x : Value} {cs : List Value} {t : TypeId} (h : RwC w q (x :: cs) t) : w.cell? ⟨q, 0, none⟩ = some x := h.cell 0
theorem RwC.c1 {w : World} {q : Nat} {x y : Value} {cs : List Value} {t : TypeId} (h : RwC w q (x :: y :: cs) t) : w.cell? ⟨q, 1, none⟩ = some y := h.cell 1
theorem RwC.c2 {w : World} {q : Nat} {x y z : Value} {cs : List Value} {t : TypeId} (h : RwC w q (x :: y :: z :: cs) t) : w.cell? ⟨q, 2, none⟩ = some z := h.cell 2
end Go.Proofs.YtdnkgmlidhepbaaGreat
namespace Go.Proofs.YtdnkgmlidhepbaaGreat
open Go Go.RowKit
def isTm (n : Int) : Bool := decide (0 ≤ n) && decide (n ≤ 253402300799)
def isLi (n : Int) : Bool := decide (1 ≤ n) && decide (n ≤ 604800)
def sfV (n n' : Nat) (md li : Int) (ho : List UInt8) (p : Nat) (ea : Int) : Int :=
  if n ≠ 32 ∨ n' ≠ 32 then 1 else if isTm md = false then 2 else if isLi li = false then 3 else if nameF ho ≠ 0 then 4 else if 32 < p then 5 else if isAg ea = false then 6 else 0
end Go.Proofs.YtdnkgmlidhepbaaGreat
namespace Go.Proofs.YtdnkgmlidhepbaaGreat
def bval (xs : List Int) : Int := xs.foldl (fun v x => v * 256 + x) 0
def dig (xs : List Int) (i : Nat) : Int := if i < xs.length then xs.getD (xs.length - 1 - i) 0 else 0
def hi (xs : List Int) (i : Nat) : Int := bval (xs.take (xs.length - i))
def lo (xs : List Int) : Nat → Int
  | 0 => 0
  | i + 1 => lo xs i + dig xs i * 256 ^ i
theorem p256_pos (i : Nat) : (0 : Int) < 256 ^ i := Int.pow_pos (by decide)
theorem byt_drop {xs : List Int} (h : Byt xs) (k : Nat) : Byt (xs.drop k) := fun i => by
  have := h (k + i)
  simpa [List.getElem?_drop] using this
theorem byt_nil : Byt [] := fun i => by simp
def ZeroTo (xs : List Int) (k : Nat) : Prop := ∀ j, j < k → xs.getD j 0 = 0
theorem ZeroTo.step {xs : List Int} {k : Nat} (h : ZeroTo xs k) (h0 : xs.getD k 0 = 0) : ZeroTo xs (k + 1) := fun j hj => by
  by_cases e : j = k
  · rw [e]; exact h0
  · exact h j (by omega)
end Go.Proofs.YtdnkgmlidhepbaaGreat
