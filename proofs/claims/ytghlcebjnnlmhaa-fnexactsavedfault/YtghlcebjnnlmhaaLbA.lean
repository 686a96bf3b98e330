
/-
  The program's labels: isLabelByte, labelFault, labelsFault, NameFault.
-/
import Derived.Test.YtghlcebjnnlmhaaLbN
import Derived.Test.YtghlcebjnnlmhaaRows
import Derived.WalkSpells
import Derived.Deep.QuietTactic
import Derived.BigQuiet
import Derived.WalkMore
namespace Go.Proofs.Ytghlcebjnnlmhaa
open Go Go.RowKit

set_option maxRecDepth 100000 in
set_option maxHeartbeats 1000000 in
theorem isLabelByte_any (w : World) (c : UInt8) :
    Calls Try.prog 20 #[.int .u8 (c.toNat : Int)] w fun e w' => e = .returned (.bool (okB c)) ∧ w' = w := by
  have hb : okB c = ((decide (97 ≤ (c.toNat : Int)) && decide ((c.toNat : Int) ≤ 122)) || (decide (48 ≤ (c.toNat : Int)) && decide ((c.toNat : Int) ≤ 57)) || decide ((c.toNat : Int) = 45)) := rfl
  generalize okB c = b at *
  generalize (c.toNat : Int) = x at *
  have HB := hide hb
  clear hb
  by_cases h1 : 97 ≤ x <;> by_cases h2 : x ≤ 122 <;> by_cases h3 : 48 ≤ x <;> by_cases h4 : x ≤ 57 <;> by_cases h5 : x = 45
  all_goals first | (exfalso; omega) | skip
  all_goals (
    go_enter Try.func20, Try.ntmps20
    go_wp2
    go_ret
    refine ⟨?_, rfl⟩
    rw [HB.out]
    show Ending.returned (Value.bool _) = Ending.returned (Value.bool _)
    congr 2
    rw [Bool.eq_iff_iff]
    first | (simp; done) | (simp; omega))
set_option maxRecDepth 100000 in
set_option maxHeartbeats 1000000 in
theorem labelFault_any (w : World) (l : List UInt8) (hl : l.length ≤ 1000000) :
    Calls Try.prog 19 #[.string ⟨⟨l⟩⟩, .bool (bad l)] w fun e w' => e = .returned (.int .i64 (lbF l)) ∧ w' = w := by
  have hsz := tx_size l
  have eq0 : l.isEmpty = decide (l.length = 0) := by cases l <;> simp
  unfold lbF
  by_cases h0 : l.length = 0
  · rw [if_pos h0]
    have t0 : decide (l.length = 0) = true := decide_eq_true h0
    rw [t0] at eq0
    go_enter Try.func19, Try.ntmps19
    go_wp2
    go_ret
    exact ⟨rfl, rfl⟩
  · rw [if_neg h0]
    have t0 : decide (l.length = 0) = false := decide_eq_false h0
    rw [t0] at eq0
    have ix0 : ∀ w, (Instr.index 9 (.string ⟨⟨l⟩⟩) (.int .i64 0)).run Try.prog w = .ok (.int .u8 ((l.getD 0 0).toNat : Int)) w := fun w => run_tx (P := Try.prog) w 9 l 0 Try.underlying9 (by omega)
    have ix1 := fun w => run_tx (P := Try.prog) w 9 l (l.length - 1) Try.underlying9 (by omega)
    have e1 : ((l.length - 1 : Nat) : Int) = (l.length : Int) - 1 := by omega
    rw [e1] at ix1
    by_cases h1 : 63 < l.length
    · rw [if_pos h1]
      have t1 : decide ((63 : Int) < (l.length : Int)) = true := by simp; omega
      go_enter Try.func19, Try.ntmps19
      go_wp2
      go_ret
      exact ⟨rfl, rfl⟩
    · rw [if_neg h1]
      have t1 : decide ((63 : Int) < (l.length : Int)) = false := by simp; omega
      by_cases h2 : bad l = true
      · rw [if_pos h2, h2]
        go_enter Try.func19, Try.ntmps19
        go_wp2
        go_ret
        exact ⟨rfl, rfl⟩
      · rw [if_neg h2, Bool.eq_false_iff.2 h2]
        generalize ((l.getD 0 0).toNat : Int) = x at *
        generalize ((l.getD (l.length - 1) 0).toNat : Int) = y at *
        by_cases h3 : x = 45
        · rw [if_pos (.inl h3)]
          subst h3
          go_enter Try.func19, Try.ntmps19
          go_wp2
          go_ret
          exact ⟨rfl, rfl⟩
        · by_cases h4 : y = 45
          · rw [if_pos (.inr h4)]
            subst h4
            go_enter Try.func19, Try.ntmps19
            go_wp2
            go_ret
            exact ⟨rfl, rfl⟩
          · rw [if_neg (by rintro (h | h) <;> contradiction)]
            have b1 : (x == 45) = false := by simpa using h3
            have b2 : (y == 45) = false := by simpa using h4
            go_enter Try.func19, Try.ntmps19
            go_wp2
            go_ret
            exact ⟨rfl, rfl⟩

set_option maxRecDepth 100000 in
set_option maxHeartbeats 4000000 in
theorem labelsFault_any (w : World) (t : List UInt8) (hl : t.length ≤ 1000000) :
    Calls Try.prog 18 #[.string ⟨⟨t⟩⟩] w fun e w' => e = .returned (.int .i64 (ff (lst t).1)) ∧ w' = w := by
  have hsz := tx_size t
  go_enter Try.func18, Try.ntmps18
  go_wp2
  go_step3
  go_wp2
  go_step3
  go_wp2
  go_loopw [3, 4, 5, 10] (fun f s b i wr => wr = w ∧ ∃ k s' : Nat, k ≤ t.length ∧ i = .int .i64 k ∧ f = .int .i64 0 ∧ s = .int .i64 s' ∧ b = .bool (bad (lst (t.take k)).2) ∧ ff (lst (t.take k)).1 = 0 ∧ s' + (lst (t.take k)).2.length = k) (fun _ _ _ i _ => t.length - (intOf i).toNat)
  case atStart => exact ⟨rfl, 0, 0, by omega, rfl, rfl, rfl, rfl, rfl, rfl⟩
  case round =>
    obtain ⟨rfl, k, s', hk, rfl, rfl, rfl, rfl, hff, hs⟩ := hrel
    by_cases hlt : k < t.length
    · have t1 : (k : Int) < (t.length : Int) := by omega
      have ix := fun w => run_tx (P := Try.prog) w 9 t k Try.underlying9 hlt
      have e : t.take (k + 1) = t.take k ++ [t.getD k 0] := by
        rw [List.take_succ_eq_append_getElem hlt]
        congr 2
        simp [hlt]
      obtain ⟨c, hc⟩ : ∃ c, c = t.getD k 0 := ⟨_, rfl⟩
      rw [← hc] at ix e
      clear hc
      have cur := lst_cur (t.take k)
      obtain ⟨s2, q1, q2⟩ := cur
      rw [List.length_take, Nat.min_eq_left (by omega)] at q1
      obtain rfl : s2 = s' := by omega
      have CU : (t.drop s2).take (k - s2) = (lst (t.take k)).2 := by
        rw [q2, List.drop_take]
      by_cases h46 : (c.toNat : Int) = 46
      · have L := lst_dot (t.take k) c h46
        rw [← e] at L
        have cut := fun w => run_tx_cut (P := Try.prog) w 9 t s2 k Try.underlying9 (by omega) (by omega)
        rw [CU] at cut
        have LF := hide (fun w => labelFault_any w (lst (t.take k)).2 (by omega))
        have FF : Hid (ff (lst (t.take (k + 1))).1 = lbF (lst (t.take k)).2) := by
          show _ = _
          rw [L]
          show ff (labs (t.take k)) = _
          unfold labs
          rw [ff_app, if_pos hff, ff_one]
        have E1 : Hid ((lst (t.take (k + 1))).2 = []) := by show _ = _; rw [L]
        have HC := hide (fun h => ff_cut (a := t.take (k + 1)) (b := t.drop (k + 1)) h)
        rw [List.take_append_drop] at HC
        clear L CU q1 q2 e hff
        generalize (lst (t.take k)).2 = cur at *
        have b46 : ((c.toNat : Int) == 46) = true := by rw [h46]; rfl
        generalize (c.toNat : Int) = x at *
        subst h46
        go_wp2_with fail
        refine (LF.out _).mono ?_
        rintro e w1 ⟨rfl, h1⟩
        have h1' := h1.symm
        subst h1'
        clear LF cut ix h1
        by_cases hf : lbF cur = 0
        · rw [hf] at FF ⊢
          clear HC hf hs
          go_wp2
          go_roundw
          case rel => exact ⟨trivial, k + 1, k + 1, by omega, by go_num, rfl, by go_num, by rw [E1.out]; rfl, FF.out, by rw [E1.out]; simp⟩
          case measure => simp [intOf]; omega
        · have b0 : (lbF cur != 0) = true := by simpa using hf
          have EQ : Hid (ff (lst t).1 = lbF cur) := by
            show _ = _
            rw [HC.out (by rw [FF.out]; exact hf), FF.out]
          clear FF E1 HC
          generalize lbF cur = z at *
          go_wp2
          rw [Exit.noGoto_ret]
          go_ret
          exact ⟨by rw [EQ.out]; rfl, rfl⟩
      · have L := lst_in (t.take k) c h46
        rw [← e] at L
        have IB := hide (fun w => isLabelByte_any w c)
        have b46 : ((c.toNat : Int) == 46) = false := by simpa using h46
        have R1 : Hid (bad (lst (t.take (k + 1))).2 = (bad (lst (t.take k)).2 || !okB c)) := by
          show _ = _
          rw [L]
          exact bad_snoc _ _
        have R2 : Hid (ff (lst (t.take (k + 1))).1 = 0) := by
          show _ = _
          rw [L]
          exact hff
        have R3 : Hid (s2 + (lst (t.take (k + 1))).2.length = k + 1) := by
          show _ = _
          rw [L]
          simp only [List.length_append, List.length_cons, List.length_nil]
          omega
        clear L CU q1 q2 e hff hs
        generalize bad (lst (t.take k)).2 = st at *
        generalize (c.toNat : Int) = x at *
        cases st with
        | true =>
          go_wp2
          go_roundw
          case rel => exact ⟨trivial, k + 1, s2, by omega, by go_num, rfl, rfl, by rw [R1.out]; rfl, R2.out, R3.out⟩
          case measure => simp [intOf]; omega
        | false =>
          go_wp2_with fail
          refine (IB.out _).mono ?_
          rintro e w1 ⟨rfl, h1⟩
          have h1' := h1.symm
          subst h1'
          clear h1
          go_wp2
          go_roundw
          case rel => exact ⟨trivial, k + 1, s2, by omega, by go_num, rfl, rfl, by rw [R1.out]; rfl, R2.out, R3.out⟩
          case measure => simp [intOf]; omega
    · obtain rfl : k = t.length := by omega
      rw [List.take_length] at hff
      have HF := hide hff
      clear hs hff
      go_wp2
      rw [Exit.noGoto_ret]
      go_ret
      exact ⟨by rw [HF.out]; rfl, rfl⟩
end Go.Proofs.Ytghlcebjnnlmhaa
