
/-
  The model's PatternFault, and the law.
-/
import Derived.Test.YtheggghidhjplaaLpB
namespace Go.Proofs.Ytheggghidhjplaa
open Go Go.RowKit

set_option maxHeartbeats 1000000 in
theorem l11Star_any (w : World) (l : List UInt8) (hl : l.length ≤ 9223372036854775807) :
    Calls Try.prog 56 #[.string ⟨⟨l⟩⟩] w fun e w' => e = .returned (.bool (star l)) ∧ w' = w := by
  have hsz := tx_size l
  by_cases h : 2 ≤ l.length
  · have t1 : decide ((2 : Int) ≤ (l.length : Int)) = true := by simp; omega
    have ex : (ByteArray.mk ⟨l⟩).extract 0 2 = ByteArray.mk (l.take 2).toArray := by
      have := ByteArray.extract_mk l 0 2
      simpa using this
    have hs : Hid (star l = ((l.take 2) == [42, 46])) := by
      show _ = _
      unfold star
      rw [Bool.eq_iff_iff]
      simp
    go_enter Try.func56, Try.ntmps56
    go_wp2
    go_ret
    refine ⟨?_, rfl⟩
    rw [hs.out]
    simp
  · have t1 : decide ((2 : Int) ≤ (l.length : Int)) = false := by simp; omega
    have hs : Hid (star l = false) := by
      show _ = _
      cases k : star l with
      | false => rfl
      | true => exact absurd (star_len k) h
    go_enter Try.func56, Try.ntmps56
    go_wp2
    go_ret
    exact ⟨by rw [hs.out]; rfl, rfl⟩
set_option maxHeartbeats 1000000 in
theorem l11Base_any (w : World) (l : List UInt8) (hl : l.length ≤ 9223372036854775807) (hs : star l = true) :
    Calls Try.prog 57 #[.string ⟨⟨l⟩⟩] w fun e w' => e = .returned (.string ⟨⟨l.drop 2⟩⟩) ∧ w' = w := by
  have hsz := tx_size l
  have SS := hide (l11Star_any w l hl)
  rw [hs] at SS
  have h2 := star_len hs
  have ex : (ByteArray.mk ⟨l⟩).extract 2 l.length = ByteArray.mk ⟨l.drop 2⟩ := by
    have := ByteArray.extract_mk l 2 l.length
    rw [List.take_of_length_le (by rw [List.length_drop]; omega)] at this
    exact this
  have t1 : (2 : Int) ≤ (l.length : Int) := by omega
  go_enter Try.func57, Try.ntmps57
  go_wp2_with fail
  refine SS.out.mono ?_
  rintro e w1 ⟨rfl, rfl⟩
  go_wp2
  go_ret
  exact ⟨rfl, rfl⟩

set_option maxHeartbeats 2000000 in
theorem specPatternFault_any (w : World) (l : List UInt8) (hl : l.length ≤ 9223372036854775807) :
    Calls Try.prog 42 #[.string ⟨⟨l⟩⟩] w fun e w' => e = .returned (.int .i64 (patF l)) ∧ Below w.heap.size w w' := by
  have hsz := tx_size l
  have SS := hide (l11Star_any w l hl)
  cases hs : star l with
  | false =>
    have EQ : Hid (patF l = nameF l) := by show _ = _; unfold patF; rw [if_neg (by rw [hs]; decide)]
    rw [hs] at SS
    have NF := hide (fun w => specNameFault_any w l hl)
    generalize nameF l = r at *
    go_enter Try.func42, Try.ntmps42
    go_wp2_with fail
    refine SS.out.mono ?_
    rintro e w1 ⟨rfl, h1⟩
    have h1' := h1.symm
    subst h1'
    go_wp2_with fail
    refine (NF.out w).mono ?_
    rintro e w1 ⟨rfl, n1⟩
    go_wp2
    go_ret
    exact ⟨by rw [EQ.out]; rfl, n1⟩
  | true =>
    rw [hs] at SS
    have BB := hide (fun w => l11Base_any w l hl hs)
    have NF := hide (fun w => specNameFault_any w (l.drop 2) (by rw [List.length_drop]; omega))
    have P0 : Hid (patF l = if 128 < l.length then 1 else if nameF (l.drop 2) ≠ 0 then nameF (l.drop 2) else if dot (l.drop 2) = true then 0 else 6) := by
      show _ = _
      unfold patF
      rw [if_pos hs]
    by_cases h1 : 128 < l.length
    · have t1 : decide ((128 : Int) < (l.length : Int)) = true := by simp; omega
      have EQ := hide (show patF l = 1 by rw [P0.out, if_pos h1])
      clear P0 BB NF hs
      go_enter Try.func42, Try.ntmps42
      go_wp2_with fail
      refine SS.out.mono ?_
      rintro e w1 ⟨rfl, h1⟩
      have h1' := h1.symm
      subst h1'
      go_wp2
      go_ret
      exact ⟨by rw [EQ.out]; rfl, Below.refl _ _⟩
    · have t1 : decide ((128 : Int) < (l.length : Int)) = false := by simp; omega
      have LL := hide (fun w => l11Labels_any w (l.drop 2) (by rw [List.length_drop]; omega))
      have L2 := hide (labs_two (l.drop 2))
      have P1 := hide (show patF l = if nameF (l.drop 2) ≠ 0 then nameF (l.drop 2) else if dot (l.drop 2) = true then 0 else 6 by rw [P0.out, if_neg h1])
      clear P0 hs h1
      generalize l.drop 2 = n at *
      go_enter Try.func42, Try.ntmps42
      go_wp2_with fail
      refine SS.out.mono ?_
      rintro e w1 ⟨rfl, h1⟩
      have h1' := h1.symm
      subst h1'
      go_wp2_with fail
      refine (BB.out w).mono ?_
      rintro e w1 ⟨rfl, h2⟩
      have h2' := h2.symm
      subst h2'
      go_wp2_with fail
      refine (NF.out w).mono ?_
      rintro e w1 ⟨rfl, n1⟩
      clear NF BB SS h1 h2
      by_cases h3 : nameF n = 0
      · rw [h3] at P1 ⊢
        have P2 := hide (show patF l = if dot n = true then 0 else 6 by rw [P1.out, if_neg (by decide)])
        clear P1 h3
        go_wp2_with fail
        refine (LL.out w1).mono ?_
        rintro e w2 ⟨⟨v, rfl, R⟩, n2⟩
        obtain ⟨g, c, rfl, _, _, _, _⟩ := R.cells (by unfold labs; simp)
        have NN := nxt n1 n2
        have l2 := L2.out
        clear LL R n1 n2 L2
        cases hd : dot n with
        | false =>
          rw [hd] at l2
          have EQ := hide (show patF l = 6 by rw [P2.out, if_neg (by rw [hd]; decide)])
          have t2 : decide (((labs n).length : Int) < 2) = true := l2
          clear P2 hd l2
          go_wp2
          go_ret
          exact ⟨by rw [EQ.out]; rfl, NN⟩
        | true =>
          rw [hd] at l2
          have EQ := hide (show patF l = 0 by rw [P2.out, if_pos hd])
          have t2 : decide (((labs n).length : Int) < 2) = false := l2
          clear P2 hd l2
          go_wp2
          go_ret
          exact ⟨by rw [EQ.out]; rfl, NN⟩
      · have EQ := hide (show patF l = nameF n by rw [P1.out, if_pos h3])
        have t2 : (nameF n == 0) = false := by simpa using h3
        have t3 : (nameF n != 0) = true := by simpa using h3
        clear P1 LL L2
        generalize nameF n = z at *
        go_wp2
        go_ret
        exact ⟨by rw [EQ.out]; rfl, n1⟩

end Go.Proofs.Ytheggghidhjplaa
