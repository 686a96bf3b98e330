
/-
  The program's and the model's NameInside, and the law.
-/
import Derived.Test.YtheggghidhjplaaNmB
namespace Go.Proofs.Ytheggghidhjplaa
open Go Go.RowKit

set_option maxHeartbeats 2000000 in
theorem implNameInside_any (w : World) (n a : List UInt8) (hn : n.length ≤ 9223372036854775807) (ha : a.length ≤ 9223372036854775807) :
    Calls Try.prog 14 #[.string ⟨⟨n⟩⟩, .string ⟨⟨a⟩⟩] w fun e w' => e = .returned (.bool (niB n a)) ∧ w' = w := by
  have NF := hide (fun w => implNameFault_any w n hn)
  have AF := hide (fun w => implNameFault_any w a ha)
  by_cases f1 : nameF n = 0
  · rw [f1] at NF
    by_cases f2 : nameF a = 0
    · rw [f2] at AF
      have al := (nameF_len f2).2
      have EQ : Hid (niB n a = inS n a) := by
        show _ = _
        unfold niB
        rw [decide_eq_true f1, decide_eq_true f2]
        rfl
      by_cases h : n = a
      · have e1 : (n == a) = true := by simpa using h
        have E2 : Hid (niB n a = true) := by
          show _ = _
          rw [EQ.out]
          unfold inS
          rw [decide_eq_true h]
          rfl
        clear EQ f1 f2 h
        go_enter Try.func14, Try.ntmps14
        go_wp2_with fail
        refine (NF.out w).mono ?_
        rintro e w1 ⟨rfl, h1⟩
        have h1' := h1.symm
        subst h1'
        go_wp2_with fail
        refine (AF.out w).mono ?_
        rintro e w1 ⟨rfl, h2⟩
        have h2' := h2.symm
        subst h2'
        go_wp2
        go_ret
        exact ⟨by rw [E2.out]; rfl, rfl⟩
      · have e1 : (n == a) = false := by simpa using h
        have HS := hide (fun w => hasSuffix_any w n (46 :: a) hn (by simp; omega))
        have ad : ∀ w : World, (Op.stringOp .add (ByteArray.mk #[46]) (ByteArray.mk ⟨a⟩)).run Try.prog w = .ok (.string ⟨⟨46 :: a⟩⟩) w := fun w => tx_add w [46] a (by simp; omega)
        have E2 : Hid (niB n a = (46 :: a).isSuffixOf n) := by
          show _ = _
          rw [EQ.out]
          unfold inS
          rw [decide_eq_false h, Bool.false_or]
        clear EQ f1 f2 h
        generalize (46 :: a).isSuffixOf n = z at *
        go_enter Try.func14, Try.ntmps14
        go_wp2_with fail
        refine (NF.out w).mono ?_
        rintro e w1 ⟨rfl, h1⟩
        have h1' := h1.symm
        subst h1'
        go_wp2_with fail
        refine (AF.out w).mono ?_
        rintro e w1 ⟨rfl, h2⟩
        have h2' := h2.symm
        subst h2'
        go_wp2_with fail
        refine (HS.out w).mono ?_
        rintro e w1 ⟨rfl, h3⟩
        have h3' := h3.symm
        subst h3'
        go_wp2
        go_ret
        exact ⟨by rw [E2.out]; rfl, rfl⟩
    · have EQ : Hid (niB n a = false) := by
        show _ = _
        unfold niB
        rw [decide_eq_false f2]
        simp
      have t2 : (nameF a == 0) = false := by simpa using f2
      have t3 : (nameF a != 0) = true := by simpa using f2
      generalize nameF a = z at *
      clear f1
      go_enter Try.func14, Try.ntmps14
      go_wp2_with fail
      refine (NF.out w).mono ?_
      rintro e w1 ⟨rfl, h1⟩
      have h1' := h1.symm
      subst h1'
      go_wp2_with fail
      refine (AF.out w).mono ?_
      rintro e w1 ⟨rfl, h2⟩
      have h2' := h2.symm
      subst h2'
      go_wp2
      go_ret
      exact ⟨by rw [EQ.out]; rfl, rfl⟩
  · have EQ : Hid (niB n a = false) := by
      show _ = _
      unfold niB
      rw [decide_eq_false f1]
      rfl
    have t2 : (nameF n == 0) = false := by simpa using f1
    have t3 : (nameF n != 0) = true := by simpa using f1
    generalize nameF n = z at *
    go_enter Try.func14, Try.ntmps14
    go_wp2_with fail
    refine (NF.out w).mono ?_
    rintro e w1 ⟨rfl, h1⟩
    have h1' := h1.symm
    subst h1'
    go_wp2
    go_ret
    exact ⟨by rw [EQ.out]; rfl, rfl⟩

theorem tail_step {n a : List (List UInt8)} {k : Nat} (h : tailEq n a k) (h1 : a.getD (a.length - 1 - k) [] = n.getD (n.length - 1 - k) []) : tailEq n a (k + 1) := by
  intro i hi
  by_cases e : i = k
  · subst e
    exact h1
  · exact h i (by omega)
set_option maxHeartbeats 4000000 in
theorem specNameInside_any (w : World) (n a : List UInt8) (hn : n.length ≤ 9223372036854775807) (ha : a.length ≤ 9223372036854775807) :
    Calls Try.prog 13 #[.string ⟨⟨n⟩⟩, .string ⟨⟨a⟩⟩] w fun e w' => e = .returned (.bool (niB n a)) ∧ Below w.heap.size w w' := by
  have NF := hide (fun w => specNameFault_any w n hn)
  have AF := hide (fun w => specNameFault_any w a ha)
  by_cases f1 : nameF n = 0
  · rw [f1] at NF
    by_cases f2 : nameF a = 0
    · rw [f2] at AF
      have nl := (nameF_len f1).2
      have al := (nameF_len f2).2
      have EQ : Hid (niB n a = inS n a) := by
        show _ = _
        unfold niB
        rw [decide_eq_true f1, decide_eq_true f2]
        rfl
      have LN := hide (fun w => l11Labels_any w n nl)
      have LA := hide (fun w => l11Labels_any w a al)
      have SU := hide (inS_labs n a)
      have p1 := List.length_pos_iff.2 (labs_ne n)
      have p2 := List.length_pos_iff.2 (labs_ne a)
      have q1 : (labs n).length ≤ 129 := by
        have := lst_len n
        unfold labs
        simp
        omega
      have q2 : (labs a).length ≤ 129 := by
        have := lst_len a
        unfold labs
        simp
        omega
      clear f1 f2 nl al
      generalize labs n = N at *
      generalize labs a = A at *
      go_enter Try.func13, Try.ntmps13
      go_wp2_with fail
      refine (NF.out w).mono ?_
      rintro e w1 ⟨rfl, n1⟩
      go_wp2_with fail
      refine (AF.out w1).mono ?_
      rintro e w2 ⟨rfl, n2⟩
      have n12 := nxt n1 n2
      clear n1 n2
      go_wp2_with fail
      refine (LN.out w2).mono ?_
      rintro e w3 ⟨⟨v, rfl, R1⟩, n3⟩
      go_wp2_with fail
      refine (LA.out w3).mono ?_
      rintro e w4 ⟨⟨v', rfl, R2⟩, n4⟩
      have R1' := R1.up n4
      obtain ⟨g, cp, rfl, _, _, hc, _⟩ := R1'.cells p1
      obtain ⟨g', cp', rfl, _, _, hc', _⟩ := R2.cells p2
      have NN := hide (nxt (nxt n12 n3) n4)
      have HC := hide hc
      have HC' := hide hc'
      clear R1 R1' R2 hc hc' n12 n3 n4 LN LA NF AF
      by_cases hl : A.length ≤ N.length
      · have t0 : decide ((N.length : Int) < (A.length : Int)) = false := by simp; omega
        go_wp2
        go_loopw [7] (fun i wr => Below w.heap.size w wr ∧ Below w4.heap.size w4 wr ∧ ∃ k : Nat, k ≤ A.length ∧ i = .int .i64 k ∧ Hid (tailEq N A k)) (fun i _ => A.length - (intOf i).toNat)
        case atStart => exact ⟨NN.out, Below.refl _ _, 0, by omega, rfl, fun i hi => by omega⟩
        case round =>
          clear t0
          obtain ⟨nb, nb4, k, hk, rfl, hT⟩ := hrel
          have N1 := hide nb
          have N4 := hide nb4
          clear nb nb4
          by_cases hlt : k < A.length
          · have t2 : (k : Int) < (A.length : Int) := by omega
            have c1 : wr.cell? ⟨g', A.length - 1 - k, none⟩ = some (tx (A.getD (A.length - 1 - k) [])) := by
              have := HC'.out (A.length - 1 - k) (by omega)
              exact (N4.out.cell (block_lt_of_cell this)).trans this
            have c2 : wr.cell? ⟨g, N.length - 1 - k, none⟩ = some (tx (N.getD (N.length - 1 - k) [])) := by
              have := HC.out (N.length - 1 - k) (by omega)
              exact (N4.out.cell (block_lt_of_cell this)).trans this
            have s1 : IntKind.i64.wrap ((A.length : Int) - 1) = (A.length : Int) - 1 := by rw [IntKind.wrap_i64]; omega
            have s2 : IntKind.i64.wrap ((A.length : Int) - 1 - (k : Int)) = ((A.length - 1 - k : Nat) : Int) := by rw [IntKind.wrap_i64]; omega
            have s3 : IntKind.i64.wrap ((N.length : Int) - 1) = (N.length : Int) - 1 := by rw [IntKind.wrap_i64]; omega
            have s4 : IntKind.i64.wrap ((N.length : Int) - 1 - (k : Int)) = ((N.length - 1 - k : Nat) : Int) := by rw [IntKind.wrap_i64]; omega
            have b1 : ((A.length - 1 - k : Nat) : Int) < (A.length : Int) := by omega
            have b2 : ((N.length - 1 - k : Nat) : Int) < (N.length : Int) := by omega
            have TS := hide (fun h => tail_step hT.out h)
            have TF : Hid (A.getD (A.length - 1 - k) [] ≠ N.getD (N.length - 1 - k) [] → inS n a = false) := by
              intro hne
              cases hb : inS n a with
              | false => rfl
              | true => exact absurd ((tail_suffix hl).2 (SU.out.1 hb) k hlt) hne
            unfold tx at c1 c2
            generalize A.getD (A.length - 1 - k) [] = x at *
            generalize N.getD (N.length - 1 - k) [] = y at *
            generalize A.length - 1 - k = i1 at *
            generalize N.length - 1 - k = i2 at *
            clear hT
            by_cases hxy : x = y
            · have e1 : (x == y) = true := by simpa using hxy
              go_wp2
              go_region
              go_wp2
              go_roundw
              case rel => exact ⟨below_drewN N1.out _, below_drewN N4.out _, k + 1, by omega, by go_num, TS.out hxy⟩
              case measure => simp [intOf]; omega
            · have e1 : (x == y) = false := by simpa using hxy
              have EF := hide (show niB n a = false by rw [EQ.out, TF.out hxy])
              clear TF TS
              go_wp2
              go_region
              go_wp2
              go_ret
              exact ⟨by rw [EF.out]; rfl, below_drewN N1.out _⟩
          · obtain rfl : k = A.length := by omega
            have EF : Hid (niB n a = true) := by
              show _ = _
              rw [EQ.out]
              exact SU.out.2 ((tail_suffix hl).1 hT.out)
            clear hT
            go_wp2
            go_ret
            exact ⟨by rw [EF.out]; rfl, N1.out⟩
      · have t0 : decide ((N.length : Int) < (A.length : Int)) = true := by simp; omega
        have EF : Hid (niB n a = false) := by
          show _ = _
          rw [EQ.out]
          cases hb : inS n a with
          | false => rfl
          | true => exact absurd (SU.out.1 hb).length_le hl
        go_wp2
        go_ret
        exact ⟨by rw [EF.out]; rfl, NN.out⟩
    · have EQ : Hid (niB n a = false) := by
        show _ = _
        unfold niB
        rw [decide_eq_false f2]
        simp
      have t2 : (nameF a == 0) = false := by simpa using f2
      have t3 : (nameF a != 0) = true := by simpa using f2
      generalize nameF a = z at *
      clear f1
      go_enter Try.func13, Try.ntmps13
      go_wp2_with fail
      refine (NF.out w).mono ?_
      rintro e w1 ⟨rfl, n1⟩
      go_wp2_with fail
      refine (AF.out w1).mono ?_
      rintro e w2 ⟨rfl, n2⟩
      go_wp2
      go_ret
      exact ⟨by rw [EQ.out]; rfl, nxt n1 n2⟩
  · have EQ : Hid (niB n a = false) := by
      show _ = _
      unfold niB
      rw [decide_eq_false f1]
      rfl
    have t2 : (nameF n == 0) = false := by simpa using f1
    have t3 : (nameF n != 0) = true := by simpa using f1
    generalize nameF n = z at *
    go_enter Try.func13, Try.ntmps13
    go_wp2_with fail
    refine (NF.out w).mono ?_
    rintro e w1 ⟨rfl, n1⟩
    go_wp2
    go_ret
    exact ⟨by rw [EQ.out]; rfl, n1⟩

set_option maxHeartbeats 2000000 in
theorem nameInside_law (w : World) (s : ByteArray) (hs : s.size ≤ 9223372036854775807) (t : ByteArray) (ht : t.size ≤ 9223372036854775807) :
    Calls Try.prog 3 #[.string s, .string t] w fun e w' => e = .returned (.bool true) ∧ Below w.heap.size w w' := by
  obtain ⟨⟨l⟩⟩ := s
  obtain ⟨⟨m⟩⟩ := t
  have hsz := tx_size l
  have hsm := tx_size m
  rw [hsz] at hs
  rw [hsm] at ht
  by_cases h : 1048576 < l.length
  · have t0 : decide ((1048576 : Int) < (l.length : Int)) = true := by simp; omega
    go_enter Try.func3, Try.ntmps3
    go_wp2
    go_ret
    exact ⟨rfl, Below.refl _ _⟩
  · have t0 : decide ((1048576 : Int) < (l.length : Int)) = false := by simp; omega
    by_cases h' : 1048576 < m.length
    · have t1 : decide ((1048576 : Int) < (m.length : Int)) = true := by simp; omega
      go_enter Try.func3, Try.ntmps3
      go_wp2
      go_ret
      exact ⟨rfl, Below.refl _ _⟩
    · have t1 : decide ((1048576 : Int) < (m.length : Int)) = false := by simp; omega
      have SP := hide (fun W => specNameInside_any W l m hs ht)
      have IM := hide (fun W => implNameInside_any W l m hs ht)
      generalize niB l m = r at *
      cases r
      all_goals
        go_enter Try.func3, Try.ntmps3
        go_wp2_with fail
        refine (SP.out w).mono ?_
        rintro e w1 ⟨rfl, n1⟩
        go_wp2_with fail
        refine (IM.out w1).mono ?_
        rintro e w2 ⟨rfl, h2⟩
        have h2' := h2.symm
        subst h2'
        go_wp2
        go_ret
        exact ⟨rfl, n1⟩
end Go.Proofs.Ytheggghidhjplaa
