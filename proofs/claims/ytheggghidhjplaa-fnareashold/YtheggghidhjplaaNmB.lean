
/-
  The program's and the model's NameMatches, and the law.
-/
import Derived.Test.YtheggghidhjplaaNmA
import Derived.Test.YtheggghidhjplaaLPat
namespace Go.Proofs.Ytheggghidhjplaa
open Go Go.RowKit

set_option maxHeartbeats 2000000 in
theorem implNameMatches_any (w : World) (p h : List UInt8) (hp : p.length ≤ 9223372036854775807) (hh : h.length ≤ 9223372036854775807) :
    Calls Try.prog 16 #[.string ⟨⟨p⟩⟩, .string ⟨⟨h⟩⟩] w fun e w' => e = .returned (.bool (nmB p h)) ∧ Below w.heap.size w w' := by
  have PF := hide (fun w => implPatternFault_any w p hp)
  have NF := hide (fun w => implNameFault_any w h hh)
  by_cases f1 : patF p = 0
  · rw [f1] at PF
    by_cases f2 : nameF h = 0
    · rw [f2] at NF
      have CP := hide (fun w => cutPrefix_any w p hp)
      have CU := hide (fun w => cut_any w h hh)
      have EQ : Hid (nmB p h = mtS p h) := by
        show _ = _
        unfold nmB
        rw [decide_eq_true f1, decide_eq_true f2]
        rfl
      cases hs : star p with
      | false =>
        rw [hs] at CP
        simp only [Bool.false_eq_true, if_false] at CP
        have E2 : Hid (nmB p h = (h == p)) := by
          show _ = _
          rw [EQ.out, beq_dec]
          unfold mtS
          rw [if_neg (by rw [hs]; decide)]
          congr 1
          exact propext ⟨Eq.symm, Eq.symm⟩
        clear EQ hs f1 f2 CU
        go_enter Try.func16, Try.ntmps16
        go_wp2_with fail
        refine (PF.out w).mono ?_
        rintro e w1 ⟨rfl, h1⟩
        have h1' := h1.symm
        subst h1'
        go_wp2_with fail
        refine (NF.out w).mono ?_
        rintro e w1 ⟨rfl, h2⟩
        have h2' := h2.symm
        subst h2'
        go_wp2_with fail
        refine (CP.out w).mono ?_
        rintro e w1 ⟨rfl, h3⟩
        have h3' := h3.symm
        subst h3'
        go_wp2
        go_ret
        exact ⟨by rw [E2.out]; simp, Below.refl _ _⟩
      | true =>
        rw [hs] at CP
        simp only [if_true] at CP
        have nn : p.drop 2 ≠ [] := by
          have := (nameF_len (patF_name hs f1).1).1
          intro k
          rw [k] at this
          simp at this
        have E2 : Hid (nmB p h = (beh h == p.drop 2)) := by
          show _ = _
          rw [EQ.out, beq_dec]
          unfold mtS
          rw [if_pos hs, beh_mt nn]
        clear EQ hs f1 f2 nn
        generalize p.drop 2 = n at *
        generalize beh h = b at *
        generalize ahd h = a at *
        generalize decide (0 ≤ Lib.indexByte h 46) = t at *
        go_enter Try.func16, Try.ntmps16
        go_wp2_with fail
        refine (PF.out w).mono ?_
        rintro e w1 ⟨rfl, h1⟩
        have h1' := h1.symm
        subst h1'
        go_wp2_with fail
        refine (NF.out w).mono ?_
        rintro e w1 ⟨rfl, h2⟩
        have h2' := h2.symm
        subst h2'
        go_wp2_with fail
        refine (CP.out w).mono ?_
        rintro e w1 ⟨rfl, h3⟩
        have h3' := h3.symm
        subst h3'
        go_wp2_with fail
        refine (CU.out w).mono ?_
        rintro e w1 ⟨rfl, n1⟩
        go_wp2
        go_ret
        exact ⟨by rw [E2.out]; simp, n1⟩
    · have EQ : Hid (nmB p h = false) := by
        show _ = _
        unfold nmB
        rw [decide_eq_false f2]
        simp
      have t2 : (nameF h == 0) = false := by simpa using f2
      have t3 : (nameF h != 0) = true := by simpa using f2
      generalize nameF h = z at *
      clear f1
      go_enter Try.func16, Try.ntmps16
      go_wp2_with fail
      refine (PF.out w).mono ?_
      rintro e w1 ⟨rfl, h1⟩
      have h1' := h1.symm
      subst h1'
      go_wp2_with fail
      refine (NF.out w).mono ?_
      rintro e w1 ⟨rfl, h2⟩
      have h2' := h2.symm
      subst h2'
      go_wp2
      go_ret
      exact ⟨by rw [EQ.out]; rfl, Below.refl _ _⟩
  · have EQ : Hid (nmB p h = false) := by
      show _ = _
      unfold nmB
      rw [decide_eq_false f1]
      rfl
    have t2 : (patF p == 0) = false := by simpa using f1
    have t3 : (patF p != 0) = true := by simpa using f1
    generalize patF p = z at *
    go_enter Try.func16, Try.ntmps16
    go_wp2_with fail
    refine (PF.out w).mono ?_
    rintro e w1 ⟨rfl, h1⟩
    have h1' := h1.symm
    subst h1'
    go_wp2
    go_ret
    exact ⟨by rw [EQ.out]; rfl, Below.refl _ _⟩

theorem tx_add (w : World) (a b : List UInt8) (h : a.length + b.length ≤ 9223372036854775807) : (Op.stringOp .add (ByteArray.mk ⟨a⟩) (ByteArray.mk ⟨b⟩)).run Try.prog w = .ok (.string ⟨⟨a ++ b⟩⟩) w := by
  rw [run_string_add_sum w _ _ (by rw [tx_size, tx_size]; exact h)]
  have := ByteArray.mk_append_mk a b
  exact congrArg (fun s => Result.ok (Value.string s) w) this
theorem lab_len (l x : List UInt8) (h : x ∈ labs l) : x.length ≤ l.length := by
  have aux : ∀ (ls : List (List UInt8)), x ∈ ls → x.length ≤ (unl ls).length := by
    intro ls
    induction ls with
    | nil => intro k; cases k
    | cons y ys ih =>
      intro k
      cases ys with
      | nil =>
        rcases List.mem_cons.1 k with rfl | k
        · exact Nat.le_refl _
        · cases k
      | cons z zs =>
        rw [unl_cons y (by simp)]
        rcases List.mem_cons.1 k with rfl | k
        · simp
        · have := ih k
          simp only [List.length_append, List.length_cons]
          omega
  have := aux _ h
  rwa [unl_labs] at this
set_option maxHeartbeats 2000000 in
theorem specNameMatches_any (w : World) (p h : List UInt8) (hp : p.length ≤ 9223372036854775807) (hh : h.length ≤ 9223372036854775807) :
    Calls Try.prog 15 #[.string ⟨⟨p⟩⟩, .string ⟨⟨h⟩⟩] w fun e w' => e = .returned (.bool (nmB p h)) ∧ Below w.heap.size w w' := by
  have PF := hide (fun w => specPatternFault_any w p hp)
  have NF := hide (fun w => specNameFault_any w h hh)
  by_cases f1 : patF p = 0
  · rw [f1] at PF
    by_cases f2 : nameF h = 0
    · rw [f2] at NF
      have SS := hide (fun w => l11Star_any w p hp)
      have EQ : Hid (nmB p h = mtS p h) := by
        show _ = _
        unfold nmB
        rw [decide_eq_true f1, decide_eq_true f2]
        rfl
      cases hs : star p with
      | false =>
        rw [hs] at SS
        have E2 : Hid (nmB p h = (p == h)) := by
          show _ = _
          rw [EQ.out, beq_dec]
          unfold mtS
          rw [if_neg (by rw [hs]; decide)]
        clear EQ hs f1 f2
        go_enter Try.func15, Try.ntmps15
        go_wp2_with fail
        refine (PF.out w).mono ?_
        rintro e w1 ⟨rfl, n1⟩
        go_wp2_with fail
        refine (NF.out w1).mono ?_
        rintro e w2 ⟨rfl, n2⟩
        have n12 := nxt n1 n2
        clear n1 n2
        go_wp2_with fail
        refine (SS.out w2).mono ?_
        rintro e w3 ⟨rfl, h3⟩
        have h3' := h3.symm
        subst h3'
        go_wp2
        go_ret
        exact ⟨by rw [E2.out]; simp, n12⟩
      | true =>
        rw [hs] at SS
        have BB := hide (fun w => l11Base_any w p hp hs)
        have hl : h.length ≤ 128 := (nameF_len f2).2
        have pl : p.length ≤ 128 := (patF_name hs f1).2.2
        have LL := hide (fun w => l11Labels_any w h hl)
        have E2 : Hid (nmB p h = ((labs h).getD 0 [] ++ [46] ++ p.drop 2 == h)) := by
          show _ = _
          rw [EQ.out, beq_dec]
          unfold mtS
          rw [if_pos hs]
          simp
        have ll : ((labs h).getD 0 []).length ≤ 128 := by
          refine Nat.le_trans (lab_len h _ ?_) hl
          have : 0 < (labs h).length := List.length_pos_iff.2 (labs_ne h)
          simp [List.getD, List.getElem?_eq_getElem this]
        have a1 : ∀ W : World, (Op.stringOp .add (ByteArray.mk ⟨(labs h).getD 0 []⟩) (ByteArray.mk ⟨[46]⟩)).run Try.prog W = .ok (.string ⟨⟨(labs h).getD 0 [] ++ [46]⟩⟩) W := fun W => tx_add W _ _ (by simp only [List.length_cons, List.length_nil]; omega)
        have a2 : ∀ W : World, (Op.stringOp .add (ByteArray.mk ⟨(labs h).getD 0 [] ++ [46]⟩) (ByteArray.mk ⟨p.drop 2⟩)).run Try.prog W = .ok (.string ⟨⟨(labs h).getD 0 [] ++ [46] ++ p.drop 2⟩⟩) W := fun W => tx_add W _ _ (by simp only [List.length_append, List.length_cons, List.length_nil, List.length_drop]; omega)
        have lp := List.length_pos_iff.2 (labs_ne h)
        clear EQ hs f1 f2 ll hl pl
        go_enter Try.func15, Try.ntmps15
        go_wp2_with fail
        refine (PF.out w).mono ?_
        rintro e w1 ⟨rfl, n1⟩
        go_wp2_with fail
        refine (NF.out w1).mono ?_
        rintro e w2 ⟨rfl, n2⟩
        have n12 := nxt n1 n2
        clear n1 n2
        go_wp2_with fail
        refine (SS.out w2).mono ?_
        rintro e w3 ⟨rfl, h3⟩
        have h3' := h3.symm
        subst h3'
        go_wp2_with fail
        refine (LL.out w2).mono ?_
        rintro e w4 ⟨⟨v, rfl, R⟩, n4⟩
        obtain ⟨g, cp, rfl, hg, hgl, hc, hf⟩ := R.cells lp
        have c0 := hc 0 lp
        have NN := hide (nxt n12 n4)
        clear R hf hc n12 n4 LL hg
        generalize (labs h).getD 0 [] = f at *
        generalize (labs h).length = m at *
        generalize p.drop 2 = n at *
        unfold tx at c0
        go_wp2
        go_region_with (refine (BB.out _).mono ?_; rintro e w9 ⟨rfl, rfl⟩)
        all_goals
          go_wp2
          go_ret
          exact ⟨by rw [E2.out]; simp [Act.put], below_drewN NN.out _⟩
    · have EQ : Hid (nmB p h = false) := by
        show _ = _
        unfold nmB
        rw [decide_eq_false f2]
        simp
      have t2 : (nameF h == 0) = false := by simpa using f2
      have t3 : (nameF h != 0) = true := by simpa using f2
      generalize nameF h = z at *
      clear f1
      go_enter Try.func15, Try.ntmps15
      go_wp2_with fail
      refine (PF.out w).mono ?_
      rintro e w1 ⟨rfl, n1⟩
      go_wp2_with fail
      refine (NF.out w1).mono ?_
      rintro e w2 ⟨rfl, n2⟩
      go_wp2
      go_ret
      exact ⟨by rw [EQ.out]; rfl, nxt n1 n2⟩
  · have EQ : Hid (nmB p h = false) := by
      show _ = _
      unfold nmB
      rw [decide_eq_false f1]
      rfl
    have t2 : (patF p == 0) = false := by simpa using f1
    have t3 : (patF p != 0) = true := by simpa using f1
    generalize patF p = z at *
    go_enter Try.func15, Try.ntmps15
    go_wp2_with fail
    refine (PF.out w).mono ?_
    rintro e w1 ⟨rfl, n1⟩
    go_wp2
    go_ret
    exact ⟨by rw [EQ.out]; rfl, n1⟩

set_option maxHeartbeats 2000000 in
theorem nameMatches_law (w : World) (s : ByteArray) (hs : s.size ≤ 9223372036854775807) (t : ByteArray) (ht : t.size ≤ 9223372036854775807) :
    Calls Try.prog 4 #[.string s, .string t] w fun e w' => e = .returned (.bool true) ∧ Below w.heap.size w w' := by
  obtain ⟨⟨l⟩⟩ := s
  obtain ⟨⟨m⟩⟩ := t
  have hsz := tx_size l
  have hsm := tx_size m
  rw [hsz] at hs
  rw [hsm] at ht
  by_cases h : 1048576 < l.length
  · have t0 : decide ((1048576 : Int) < (l.length : Int)) = true := by simp; omega
    go_enter Try.func4, Try.ntmps4
    go_wp2
    go_ret
    exact ⟨rfl, Below.refl _ _⟩
  · have t0 : decide ((1048576 : Int) < (l.length : Int)) = false := by simp; omega
    by_cases h' : 1048576 < m.length
    · have t1 : decide ((1048576 : Int) < (m.length : Int)) = true := by simp; omega
      go_enter Try.func4, Try.ntmps4
      go_wp2
      go_ret
      exact ⟨rfl, Below.refl _ _⟩
    · have t1 : decide ((1048576 : Int) < (m.length : Int)) = false := by simp; omega
      have SP := hide (fun W => specNameMatches_any W l m hs ht)
      have IM := hide (fun W => implNameMatches_any W l m hs ht)
      generalize nmB l m = r at *
      cases r
      all_goals
        go_enter Try.func4, Try.ntmps4
        go_wp2_with fail
        refine (SP.out w).mono ?_
        rintro e w1 ⟨rfl, n1⟩
        go_wp2_with fail
        refine (IM.out w1).mono ?_
        rintro e w2 ⟨rfl, n2⟩
        go_wp2
        go_ret
        exact ⟨rfl, nxt n1 n2⟩
end Go.Proofs.Ytheggghidhjplaa
