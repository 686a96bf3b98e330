
/-
  The model's NameFault, and the law.
-/
import Derived.Test.YtghlcebjnnlmhaaLbS
namespace Go.Proofs.Ytghlcebjnnlmhaa
open Go Go.RowKit

theorem ff_take {ls : List (List UInt8)} {k : Nat} (hk : k < ls.length) (h : ff (ls.take k) = 0) : ff (ls.take (k + 1)) = lbF (ls.getD k []) ∧ (lbF (ls.getD k []) ≠ 0 → ff ls = lbF (ls.getD k [])) := by
  have e : ls.take (k + 1) = ls.take k ++ [ls.getD k []] := by
    rw [List.take_succ_eq_append_getElem hk]
    congr 2
    simp [hk]
  have e1 : ff (ls.take (k + 1)) = lbF (ls.getD k []) := by rw [e, ff_app, if_pos h, ff_one]
  refine ⟨e1, fun hne => ?_⟩
  rw [← List.take_append_drop (k + 1) ls, ff_app, e1, if_neg hne]
  rw [List.take_append_drop]
theorem bad_take {l : List UInt8} {m : Nat} (hm : m < l.length) : bad (l.take (m + 1)) = (bad (l.take m) || !okB (l.getD m 0)) := by
  have e : l.take (m + 1) = l.take m ++ [l.getD m 0] := by
    rw [List.take_succ_eq_append_getElem hm]
    congr 2
    simp [hm]
  rw [e, bad_snoc]
theorem bad_of {l : List UInt8} {m : Nat} (hm : m < l.length) (h : okB (l.getD m 0) = false) : bad l = true := by
  unfold bad
  rw [List.any_eq_true]
  refine ⟨l.getD m 0, ?_, by rw [h]; rfl⟩
  simp [hm]

set_option maxRecDepth 100000 in
set_option maxHeartbeats 8000000 in
theorem specNameFault_any (w : World) (t : List UInt8) (hl : t.length ≤ 9223372036854775807) :
    Calls Try.prog 10 #[.string ⟨⟨t⟩⟩] w fun e w' => e = .returned (.int .i64 (nameF t)) ∧ Below w.heap.size w w' := by
  have hsz := tx_size t
  by_cases h0 : t.length < 1
  · have eN : Hid (nameF t = 1) := by show _ = _; unfold nameF; rw [if_pos (.inl h0)]
    have t0 : decide ((t.length : Int) < 1) = true := by simp; omega
    go_enter Try.func10, Try.ntmps10
    go_wp2
    go_ret
    exact ⟨by rw [eN.out]; rfl, Below.refl _ _⟩
  · have t0 : decide ((t.length : Int) < 1) = false := by simp; omega
    by_cases h1 : 128 < t.length
    · have eN : Hid (nameF t = 1) := by show _ = _; unfold nameF; rw [if_pos (.inr h1)]
      have t1 : decide ((128 : Int) < (t.length : Int)) = true := by simp; omega
      go_enter Try.func10, Try.ntmps10
      go_wp2
      go_ret
      exact ⟨by rw [eN.out]; rfl, Below.refl _ _⟩
    · have eN : Hid (nameF t = ff (labs t)) := by show _ = _; unfold nameF; rw [if_neg (by omega)]
      have t1 : decide ((128 : Int) < (t.length : Int)) = false := by simp; omega
      have LL := hide (fun w => l11Labels_any w t (by omega))
      have ln : (labs t).length ≤ 129 ∧ 0 < (labs t).length := by
        have := lst_len t
        unfold labs
        simp
        omega
      go_enter Try.func10, Try.ntmps10
      go_wp2_with fail
      refine (LL.out w).mono ?_
      rintro e W ⟨⟨v, rfl, R⟩, N⟩
      obtain ⟨g, cp, rfl, hg, hgl, hc, hf⟩ := R.cells ln.2
      clear LL R hf hgl hg
      have HN := hide N
      have HC := hide hc
      clear N hc
      generalize labs t = ls at *
      go_wp2
      go_loopw [4] (fun i wr => wr = W ∧ ∃ k : Nat, k ≤ ls.length ∧ i = .int .i64 k ∧ ff (ls.take k) = 0) (fun i _ => ls.length - (intOf i).toNat)
      case atStart => exact ⟨rfl, 0, by omega, rfl, rfl⟩
      case round =>
        obtain ⟨h1', k, hk, rfl, hff⟩ := hrel
        subst h1'
        by_cases hlt : k < ls.length
        · have t2 : (k : Int) < (ls.length : Int) := by omega
          have ck := HC.out k hlt
          obtain ⟨f1, f2⟩ := ff_take hlt hff
          generalize ls.getD k [] = l at *
          unfold tx at ck
          have lsz := tx_size l
          by_cases l0 : l.length = 0
          · have u0 : ((l.length : Int) == 0) = true := by simpa using l0
            have EQ : Hid (ff ls = 2) := by
              have e : lbF l = 2 := by unfold lbF; rw [if_pos l0]
              show _ = _
              rw [f2 (by rw [e]; decide), e]
            clear f1 f2 hff
            go_wp2
            go_ret
            exact ⟨by rw [eN.out, EQ.out]; rfl, HN.out⟩
          · have u0 : ((l.length : Int) == 0) = false := by simpa using l0
            by_cases l1 : 63 < l.length
            · have u1 : decide ((63 : Int) < (l.length : Int)) = true := by simp; omega
              have EQ : Hid (ff ls = 3) := by
                have e : lbF l = 3 := by unfold lbF; rw [if_neg l0, if_pos l1]
                show _ = _
                rw [f2 (by rw [e]; decide), e]
              clear f1 f2 hff
              go_wp2
              go_ret
              exact ⟨by rw [eN.out, EQ.out]; rfl, HN.out⟩
            · have u1 : decide ((63 : Int) < (l.length : Int)) = false := by simp; omega
              have F1 := hide f1
              have F2 := hide f2
              clear f1 f2 hff
              go_wp2
              go_loopw [6] (fun j w2 => w2 = wr ∧ ∃ m : Nat, m ≤ l.length ∧ j = .int .i64 m ∧ bad (l.take m) = false) (fun j _ => l.length - (intOf j).toNat)
              case atStart => exact ⟨rfl, 0, by omega, rfl, rfl⟩
              case round =>
                obtain ⟨h2', m, hm, rfl, hb⟩ := hrel
                subst h2'
                by_cases hml : m < l.length
                · have v1 : (m : Int) < (l.length : Int) := by omega
                  have ix := fun w => run_tx (P := Try.prog) w 9 l m Try.underlying9 hml
                  have BT := hide (bad_take hml)
                  have BO := hide (bad_of (m := m) hml)
                  have HB := hide (show okB (l.getD m 0) = ((decide (97 ≤ ((l.getD m 0).toNat : Int)) && decide (((l.getD m 0).toNat : Int) ≤ 122)) || (decide (48 ≤ ((l.getD m 0).toNat : Int)) && decide (((l.getD m 0).toNat : Int) ≤ 57)) || decide (((l.getD m 0).toNat : Int) = 45)) from rfl)
                  have hbH := hide hb
                  clear hb
                  generalize l.getD m 0 = c at *
                  generalize (c.toNat : Int) = x at *
                  by_cases hok : okB c = true
                  · have RL := hide (show bad (l.take (m + 1)) = false by rw [BT.out, hbH.out, hok]; rfl)
                    rw [hok] at HB
                    clear BT BO hbH hok
                    have hx : ((97 ≤ x ∧ x ≤ 122) ∨ (48 ≤ x ∧ x ≤ 57)) ∨ x = 45 := by
                      have h := HB.out
                      simpa using h.symm
                    clear HB
                    rcases hx with (⟨a1, a2⟩ | ⟨a1, a2⟩) | rfl
                    · skip
                      go_wp2
                      go_roundw
                      case rel => exact ⟨trivial, m + 1, by omega, by go_num, RL.out⟩
                      case measure => simp [intOf]; omega
                    · have a3 : decide (97 ≤ x) = false := by simp; omega
                      go_wp2
                      go_roundw
                      case rel => exact ⟨trivial, m + 1, by omega, by go_num, RL.out⟩
                      case measure => simp [intOf]; omega
                    · skip
                      go_wp2
                      go_roundw
                      case rel => exact ⟨trivial, m + 1, by omega, by go_num, RL.out⟩
                      case measure => simp [intOf]; omega
                  · have hok' : okB c = false := by simpa using hok
                    have EQ : Hid (ff ls = 4) := by
                      have e : lbF l = 4 := by unfold lbF; rw [if_neg l0, if_neg l1, if_pos (BO.out hok')]
                      show _ = _
                      rw [F2.out (by rw [e]; decide), e]
                    rw [hok'] at HB
                    clear BT BO hbH hok hok' F1 F2
                    have hx : ¬ (((97 ≤ x ∧ x ≤ 122) ∨ (48 ≤ x ∧ x ≤ 57)) ∨ x = 45) := by
                      have h := HB.out
                      intro k
                      have : (decide (97 ≤ x) && decide (x ≤ 122) || decide (48 ≤ x) && decide (x ≤ 57) || decide (x = 45)) = true := by simpa using k
                      rw [this] at h
                      cases h
                    clear HB
                    have b5 : (x == 45) = false := by
                      have : ¬ x = 45 := fun h => hx (.inr h)
                      simpa using this
                    by_cases a1 : 97 ≤ x
                    · have a2 : decide (x ≤ 122) = false := by simp; omega
                      have a4 : decide (x ≤ 57) = false := by simp; omega
                      have a3 : (48 : Int) ≤ x := by omega
                      clear hx
                      go_wp2
                      go_ret
                      exact ⟨by rw [eN.out, EQ.out]; rfl, HN.out⟩
                    · have a0 : decide (97 ≤ x) = false := by simp; omega
                      by_cases a3 : 48 ≤ x
                      · have a4 : decide (x ≤ 57) = false := by simp; omega
                        clear hx
                        go_wp2
                        go_ret
                        exact ⟨by rw [eN.out, EQ.out]; rfl, HN.out⟩
                      · have a4 : decide (48 ≤ x) = false := by simp; omega
                        clear hx
                        go_wp2
                        go_ret
                        exact ⟨by rw [eN.out, EQ.out]; rfl, HN.out⟩
                · obtain rfl : m = l.length := by omega
                  rw [List.take_length] at hb
                  have ix0 : ∀ w, (Instr.index 9 (.string ⟨⟨l⟩⟩) (.int .i64 0)).run Try.prog w = .ok (.int .u8 ((l.getD 0 0).toNat : Int)) w := fun w => run_tx (P := Try.prog) w 9 l 0 Try.underlying9 (by omega)
                  have ix1 := fun w => run_tx (P := Try.prog) w 9 l (l.length - 1) Try.underlying9 (by omega)
                  have e1 : ((l.length - 1 : Nat) : Int) = (l.length : Int) - 1 := by omega
                  rw [e1] at ix1
                  have e5 : lbF l = if ((l.getD 0 0).toNat : Int) = 45 ∨ ((l.getD (l.length - 1) 0).toNat : Int) = 45 then 5 else 0 := by
                    unfold lbF
                    rw [if_neg l0, if_neg l1, if_neg (by rw [hb]; decide)]
                  have E5 := hide e5
                  clear e5 hb e1
                  generalize ((l.getD 0 0).toNat : Int) = x at *
                  generalize ((l.getD (l.length - 1) 0).toNat : Int) = y at *
                  by_cases h3 : x = 45
                  · subst h3
                    have EQ : Hid (ff ls = 5) := by
                      have e : lbF l = 5 := by rw [E5.out, if_pos (.inl rfl)]
                      show _ = _
                      rw [F2.out (by rw [e]; decide), e]
                    clear F1 F2 E5
                    go_wp2
                    go_ret
                    exact ⟨by rw [eN.out, EQ.out]; rfl, HN.out⟩
                  · have b1 : (x == 45) = false := by simpa using h3
                    by_cases h4 : y = 45
                    · subst h4
                      have EQ : Hid (ff ls = 5) := by
                        have e : lbF l = 5 := by rw [E5.out, if_pos (.inr rfl)]
                        show _ = _
                        rw [F2.out (by rw [e]; decide), e]
                      clear F1 F2 E5
                      go_wp2
                      go_ret
                      exact ⟨by rw [eN.out, EQ.out]; rfl, HN.out⟩
                    · have b2 : (y == 45) = false := by simpa using h4
                      have RL := hide (show ff (ls.take (k + 1)) = 0 by rw [F1.out, E5.out, if_neg (by rintro (h | h) <;> contradiction)])
                      clear F1 F2 E5
                      go_wp2
                      go_roundw
                      case rel => exact ⟨trivial, k + 1, by omega, by go_num, RL.out⟩
                      case measure => simp [intOf]; omega
        · obtain rfl : k = ls.length := by omega
          rw [List.take_length] at hff
          have HF := hide hff
          clear hff
          go_wp2
          go_ret
          exact ⟨by rw [eN.out, HF.out]; rfl, HN.out⟩
end Go.Proofs.Ytghlcebjnnlmhaa
