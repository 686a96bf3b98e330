
/-
  The cursor's length.
-/
import Derived.Test.YthkhfljoflffpaaCuA
import Derived.Test.YthkhfljoflffpaaIcA
import Derived.Test.YthkhfljoflffpaaItP
namespace Go.Proofs.Ythkhfljoflffpaa
open Go Go.RowKit

/-- take, whatever the place. -/
theorem take_any (w : World) (p g : Nat) (a : Option Addr) (c : Nat) (xs : List Int) (i : Nat) (hC : Cur w p (.slice a xs.length c) i) (hr : Rd w g a .u8 xs) (hn : xs.length ≤ 9223372036854775807) :
    Calls Try.prog 32 #[.pointer (some ⟨p, 0, none⟩)] w fun e w' => ((i < xs.length ∧ e = .returned (.int .u8 (xs.getD i 0)) ∧ Cur w' p (.slice a xs.length c) ((i + 1 : Nat) : Int)) ∨ (xs.length ≤ i ∧ Pan e)) ∧ Only p w w' := by
  by_cases h : i < xs.length
  · exact (take_ok w p g a c xs i hC hr h hn).mono fun e w' ⟨h1, h2, h3⟩ => ⟨.inl ⟨h, h1, h2⟩, h3⟩
  · exact (take_bad w p a _ c _ hC (by omega)).mono fun e w' ⟨h1, h2⟩ => ⟨.inr ⟨by omega, h1⟩, h2⟩
theorem Cur.only {w w' : World} {p q : Nat} {l : Value} {i : Int} (h : Cur w p l i) (n : Only q w w') (hne : p ≠ q) : Cur w' p l i := h.of_block (n.block p hne)
theorem Rd.only {w w' : World} {g q : Nat} {a : Option Addr} {k : IntKind} {xs : List Int} (h : Rd w g a k xs) (n : Only q w w') (hne : 0 < xs.length → g ≠ q) : Rd w' g a k xs := by
  by_cases h0 : 0 < xs.length
  · exact h.of_block (n.block g (hne h0))
  · obtain rfl : xs = [] := List.eq_nil_of_length_eq_zero (by omega)
    exact Rd.nil _ _ _ _

set_option maxHeartbeats 2000000 in
theorem length_any (w : World) (p g : Nat) (a : Option Addr) (c : Nat) (xs : List Int) (i : Nat) (hC : Cur w p (.slice a xs.length c) i) (hr : Rd w g a .u8 xs) (hb : Byt xs) (hg : 0 < xs.length → g ≠ p) (hn : xs.length ≤ 1048576) :
    Calls Try.prog 34 #[.pointer (some ⟨p, 0, none⟩)] w fun e w' => ((∃ m n : Nat, lnA xs i = some (m, n) ∧ e = .returned (.int .i64 (n : Int)) ∧ Cur w' p (.slice a xs.length c) ((i + m : Nat) : Int)) ∨ (lnA xs i = none ∧ Pan e)) ∧ Only p w w' := by
  have T1 := hide (take_any w p g a c xs i hC hr (by omega))
  have b0 := hb i
  have b1 := hb (i + 1)
  have b2 := hb (i + 2)
  generalize hx0 : xs.getD i 0 = x0 at *
  generalize hx1 : xs.getD (i + 1) 0 = x1 at *
  generalize hx2 : xs.getD (i + 2) 0 = x2 at *
  obtain ⟨n0, rfl⟩ := Int.eq_ofNat_of_zero_le b0.1
  obtain ⟨n1, rfl⟩ := Int.eq_ofNat_of_zero_le b1.1
  obtain ⟨n2, rfl⟩ := Int.eq_ofNat_of_zero_le b2.1
  have X0 := hide hx0
  have X1 := hide hx1
  have X2 := hide hx2
  clear hx0 hx1 hx2
  go_enter Try.func34, Try.ntmps34
  go_wp2_with fail
  refine T1.out.mono ?_
  rintro r w1 ⟨⟨h1, rfl, C1⟩ | ⟨h1, t, v, rfl⟩, O1⟩
  · have T2 := hide (take_any w1 p g a c xs (i + 1) C1 (hr.only O1 hg) (by omega))
    rw [X1.out] at T2
    clear T1
    by_cases c1 : n0 < 128
    · have LA := hide (lnA_1 h1 X0.out c1)
      have t1 : decide ((n0 : Int) = 130) = false := by simp; omega
      have t2 : decide ((n0 : Int) = 129) = false := by simp; omega
      have t3 : ((n0 : Int) == 130) = false := by simp; omega
      have t4 : ((n0 : Int) == 129) = false := by simp; omega
      have LS := hide (lengthStart_any w1 n0 (by omega))
      rw [show lenS n0 = n0 from if_pos c1] at LS
      go_wp2_with fail
      refine LS.out.mono ?_
      rintro r w2 ⟨rfl, h⟩
      have h := h.symm
      subst h
      go_wp2
      go_ret
      exact ⟨.inl ⟨1, n0, LA.out, rfl, C1⟩, O1⟩
    · by_cases c2 : n0 = 129
      · subst c2
        go_wp2_with fail
        refine T2.out.mono ?_
        rintro r w2 ⟨⟨h2, rfl, C2⟩ | ⟨h2, t, v, rfl⟩, O2⟩
        · have OO := O1.trans O2
          have LS := hide (lengthStart_any w2 n1 (by omega))
          by_cases c3 : n1 < 128
          · have LA := hide (lnA_2n (xs := xs) X0.out (.inr (by rw [X1.out]; omega)))
            rw [show lenS n1 = n1 from if_pos c3] at LS
            have t1 : ((129 : Int) == (n1 : Int)) = false := by simp; omega
            have t2 : decide ((129 : Int) = (n1 : Int)) = false := by simp; omega
            clear T2
            go_wp2_with fail
            refine LS.out.mono ?_
            rintro r w3 ⟨rfl, h⟩
            have h := h.symm
            subst h
            go_wp2
            exact ⟨rfl, .inr ⟨LA.out, _, _, rfl⟩, OO⟩
          · have LA := hide (lnA_2y h2 X0.out X1.out (by omega))
            rw [show lenS n1 = 129 from by unfold lenS; rw [if_neg c3, if_pos (by omega)]] at LS
            clear T2
            go_wp2_with fail
            refine LS.out.mono ?_
            rintro r w3 ⟨rfl, h⟩
            have h := h.symm
            subst h
            go_wp2
            go_ret
            exact ⟨.inl ⟨2, n1, LA.out, rfl, C2⟩, OO⟩
        · have LA := hide (lnA_2n (xs := xs) X0.out (.inl h2))
          go_wp2
          exact ⟨rfl, .inr ⟨LA.out, t, v, rfl⟩, O1.trans O2⟩
      · by_cases c4 : n0 = 130
        · subst c4
          go_wp2_with fail
          refine T2.out.mono ?_
          rintro r w2 ⟨⟨h2, rfl, C2⟩ | ⟨h2, t, v, rfl⟩, O2⟩
          · have OO := O1.trans O2
            have T3 := hide (take_any w2 p g a c xs (i + 1 + 1) C2 ((hr.only O1 hg).only O2 hg) (by omega))
            rw [show i + 1 + 1 = i + 2 from rfl, X2.out] at T3
            clear T2
            go_wp2_with fail
            refine T3.out.mono ?_
            rintro r w3 ⟨⟨h3, rfl, C3⟩ | ⟨h3, t, v, rfl⟩, O3⟩
            · have OO := OO.trans O3
              obtain ⟨n, hn⟩ : ∃ n, n = 256 * n1 + n2 := ⟨_, rfl⟩
              have en : (n1 : Int) * 256 + (n2 : Int) = (n : Int) := by omega
              have LS := hide (lengthStart_any w3 n (by omega))
              have hx3 : Hid (256 * xs.getD (i + 1) 0 + xs.getD (i + 2) 0 = (n : Int)) := by show _ = _; rw [X1.out, X2.out]; omega
              clear T3
              by_cases c5 : n < 256
              · have LA := hide (lnA_3n (xs := xs) X0.out (.inr (by rw [hx3.out]; omega)))
                have ne : lenS n ≠ 130 := by
                  unfold lenS
                  by_cases c6 : n < 128
                  · rw [if_pos c6]; omega
                  · rw [if_neg c6, if_pos c5]; decide
                generalize lenS n = s at *
                have t1 : ((130 : Int) == (s : Int)) = false := by simp; omega
                have t2 : decide ((130 : Int) = (s : Int)) = false := by simp; omega
                clear hn ne
                go_wp2_with fail
                refine LS.out.mono ?_
                rintro r w4 ⟨rfl, h⟩
                have h := h.symm
                subst h
                go_wp2
                exact ⟨rfl, .inr ⟨LA.out, _, _, rfl⟩, OO⟩
              · have LA := hide (lnA_3y h3 X0.out hx3.out (by omega))
                rw [show lenS n = 130 from by unfold lenS; rw [if_neg (by omega), if_neg c5]] at LS
                clear hn
                go_wp2_with fail
                refine LS.out.mono ?_
                rintro r w4 ⟨rfl, h⟩
                have h := h.symm
                subst h
                go_wp2
                go_ret
                exact ⟨.inl ⟨3, n, LA.out, rfl, C3⟩, OO⟩
            · have LA := hide (lnA_3n (xs := xs) X0.out (.inl h3))
              go_wp2
              exact ⟨rfl, .inr ⟨LA.out, t, v, rfl⟩, OO.trans O3⟩
          · have LA := hide (lnA_3n (xs := xs) X0.out (.inl (by omega)))
            go_wp2
            exact ⟨rfl, .inr ⟨LA.out, t, v, rfl⟩, O1.trans O2⟩
        · have LA := hide (lnA_no (xs := xs) (i := i) (by rw [X0.out]; omega) (by rw [X0.out]; omega) (by rw [X0.out]; omega))
          have t1 : decide ((n0 : Int) = 130) = false := by simp; omega
          have t2 : decide ((n0 : Int) = 129) = false := by simp; omega
          have t3 : ((n0 : Int) == 130) = false := by simp; omega
          have t4 : ((n0 : Int) == 129) = false := by simp; omega
          have LS := hide (lengthStart_any w1 n0 (by omega))
          rw [show lenS n0 = 129 from by unfold lenS; rw [if_neg c1, if_pos (by omega)]] at LS
          go_wp2_with fail
          refine LS.out.mono ?_
          rintro r w2 ⟨rfl, h⟩
          have h := h.symm
          subst h
          go_wp2
          exact ⟨rfl, .inr ⟨LA.out, _, _, rfl⟩, O1⟩
  · have LA := hide (lnA_out (xs := xs) h1)
    go_wp2
    exact ⟨rfl, .inr ⟨LA.out, t, v, rfl⟩, O1⟩
end Go.Proofs.Ythkhfljoflffpaa
