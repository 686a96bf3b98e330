
/-
  The laws' helpers on certificates, and the law of CertFault.
-/
import Derived.Test.YtheggghidhjplaaCfD
import Derived.Test.YtheggghidhjplaaHelp
namespace Go.Proofs.Ytheggghidhjplaa
open Go Go.RowKit

def leftN (L : Int) (n : Nat) : Int := if L < (n : Int) then -1 else L - n
set_option maxHeartbeats 1000000 in
theorem szByteS_any (w : World) (a : Option Addr) (c n : Nat) (L : Int) (hn : n ≤ 9223372036854775807) (h0 : 0 ≤ L) (h1 : L ≤ 1048576) :
    Calls Try.prog 88 #[.slice a n c, .int .i64 L] w fun e w' => e = .returned (.int .i64 (leftN L n)) ∧ w' = w := by
  have s1 : IntKind.i64.wrap (L - (n : Int)) = L - (n : Int) := by rw [IntKind.wrap_i64]; omega
  by_cases h : L < (n : Int)
  · have EQ : Hid (leftN L n = -1) := if_pos h
    have t1 : decide (L - (n : Int) < 0) = true := decide_eq_true (by omega)
    clear h
    go_enter Try.func88, Try.ntmps88
    go_wp2
    go_ret
    exact ⟨by rw [EQ.out]; rfl, rfl⟩
  · have EQ : Hid (leftN L n = L - n) := if_neg h
    have t1 : decide (L - (n : Int) < 0) = false := decide_eq_false (by omega)
    clear h
    go_enter Try.func88, Try.ntmps88
    go_wp2
    go_ret
    exact ⟨by rw [EQ.out]; rfl, rfl⟩
/-- All of a certificate's bytes and texts. -/
def sizC (C : Crt) : Int := C.ser.length + C.iss.length + C.sub.length + C.key.length + (C.hos.length + sumT C.hos) + (C.prm.length + sumT C.prm) + (C.exc.length + sumT C.exc) + C.sig.length
def leftC (L : Int) (C : Crt) : Int := if L < sizC C then -1 else L - sizC C
set_option maxHeartbeats 16000000 in
theorem szCert_any (w : World) (p : CP) (C : Crt) (hC : HasC w p C) (ok : OkC C) :
    Calls Try.prog 43 #[.agg (crt p C), .int .i64 1048576] w fun e w' => e = .returned (.int .i64 (leftC 1048576 C)) ∧ Below w.heap.size w w' := by
  obtain ⟨ser, iss, sub, frm, unt, key, hos, aut, lim, use, prm, exc, sig⟩ := C
  obtain ⟨a0, c0, g0, a5, c5, g5, a6, c6, g6, a10, c10, g10, a11, c11, g11, a12, c12, g12⟩ := p
  obtain ⟨q1, q2, q3, q4, q5, q6⟩ := hC
  obtain ⟨o1, o2, o3, o4, o5, o6, o7, o8, o9, o10, o11⟩ := ok
  simp only at q1 q2 q3 q4 q5 q6 o1 o2 o3 o4 o5 o6 o7 o8 o9 o10 o11
  have n1 : Hid (Below w.heap.size w (w.alloc (.cells #[.slice a0 ser.length c0, .string ⟨⟨iss⟩⟩, .string ⟨⟨sub⟩⟩, .int .i64 frm, .int .i64 unt, .slice a5 key.length c5, .slice a6 hos.length c6, .bool aut, .int .i64 lim, .int .i64 use, .slice a10 prm.length c10, .slice a11 exc.length c11, .slice a12 sig.length c12] 56))) := (Below.refl _ _).alloc (Nat.le_refl _) _
  have Q3 := hide (q3.up n1.out)
  have Q4 := hide (q4.up n1.out)
  have Q5 := hide (q5.up n1.out)
  have s1 := tx_size iss
  have s2 := tx_size sub
  simp only [crt]
  have EQ : Hid (leftC 1048576 ⟨ser, iss, sub, frm, unt, key, hos, aut, lim, use, prm, exc, sig⟩ = if (1048576 : Int) < (ser.length : Int) + (iss.length : Int) + (sub.length : Int) + (key.length : Int) + ((hos.length : Int) + (sumT hos : Int)) + ((prm.length : Int) + (sumT prm : Int)) + ((exc.length : Int) + (sumT exc : Int)) + (sig.length : Int) then -1 else 1048576 - ((ser.length : Int) + (iss.length : Int) + (sub.length : Int) + (key.length : Int) + ((hos.length : Int) + (sumT hos : Int)) + ((prm.length : Int) + (sumT prm : Int)) + ((exc.length : Int) + (sumT exc : Int)) + (sig.length : Int))) := rfl
  clear q1 q2 q3 q4 q5 q6
  have Z0 := hide (szByteS_any (w.alloc (.cells #[.slice a0 ser.length c0, .string ⟨⟨iss⟩⟩, .string ⟨⟨sub⟩⟩, .int .i64 frm, .int .i64 unt, .slice a5 key.length c5, .slice a6 hos.length c6, .bool aut, .int .i64 lim, .int .i64 use, .slice a10 prm.length c10, .slice a11 exc.length c11, .slice a12 sig.length c12] 56)) a0 c0 ser.length 1048576 o1 (by omega) (by omega))
  by_cases h0 : 1048576 < (ser.length : Int)
  · have v0 : leftN 1048576 ser.length = -1 := if_pos h0
    rw [v0] at Z0
    clear v0
    have E2 := hide (show leftC 1048576 ⟨ser, iss, sub, frm, unt, key, hos, aut, lim, use, prm, exc, sig⟩ = -1 by rw [EQ.out, if_pos (by omega)])
    clear EQ   h0
    go_enter Try.func43, Try.ntmps43
    go_wp2_with fail
    refine Z0.out.mono ?_
    rintro e w1 ⟨rfl, h1⟩
    subst h1
    go_wp2
    go_ret
    exact ⟨by rw [E2.out]; rfl, n1.out⟩
  · have v0 : leftN 1048576 ser.length = 1048576 - (ser.length : Int) := if_neg h0
    rw [v0] at Z0
    clear v0
    obtain ⟨L1, e1⟩ : ∃ x, x = 1048576 - (ser.length : Int) := ⟨_, rfl⟩
    rw [← e1] at Z0
    have g1 : 0 ≤ L1 ∧ L1 ≤ 1048576 := by omega
    have t0 : decide (L1 < 0) = false := decide_eq_false (by omega)
    have w1 : wrap64 (L1 - (iss.length : Int)) = L1 - (iss.length : Int) := by unfold wrap64; omega
    by_cases h1 : L1 < (iss.length : Int)
    · have t1 : decide (L1 - (iss.length : Int) < 0) = true := decide_eq_true (by omega)
      have E2 := hide (show leftC 1048576 ⟨ser, iss, sub, frm, unt, key, hos, aut, lim, use, prm, exc, sig⟩ = -1 by rw [EQ.out, if_pos (by omega)])
      clear EQ e1 g1 h0 h1
      go_enter Try.func43, Try.ntmps43
      go_wp2_with fail
      refine Z0.out.mono ?_
      rintro e w1 ⟨rfl, h1⟩
      subst h1
      go_wp2
      go_ret
      exact ⟨by rw [E2.out]; rfl, n1.out⟩
    · have t1 : decide (L1 - (iss.length : Int) < 0) = false := decide_eq_false (by omega)
      obtain ⟨L2, e2⟩ : ∃ x, x = L1 - (iss.length : Int) := ⟨_, rfl⟩
      have w1b := w1
      clear w1
      have w1 : wrap64 (L1 - (iss.length : Int)) = L2 := by rw [w1b, e2]
      clear w1b
      rw [← e2] at t1
      have g2 : 0 ≤ L2 ∧ L2 ≤ 1048576 := by omega
      have w2 : wrap64 (L2 - (sub.length : Int)) = L2 - (sub.length : Int) := by unfold wrap64; omega
      by_cases h2 : L2 < (sub.length : Int)
      · have t2 : decide (L2 - (sub.length : Int) < 0) = true := decide_eq_true (by omega)
        have E2 := hide (show leftC 1048576 ⟨ser, iss, sub, frm, unt, key, hos, aut, lim, use, prm, exc, sig⟩ = -1 by rw [EQ.out, if_pos (by omega)])
        clear EQ e1 e2 g1 g2 h0 h1 h2
        go_enter Try.func43, Try.ntmps43
        go_wp2_with fail
        refine Z0.out.mono ?_
        rintro e w1 ⟨rfl, h1⟩
        subst h1
        go_wp2
        go_ret
        exact ⟨by rw [E2.out]; rfl, n1.out⟩
      · have t2 : decide (L2 - (sub.length : Int) < 0) = false := decide_eq_false (by omega)
        obtain ⟨L3, e3⟩ : ∃ x, x = L2 - (sub.length : Int) := ⟨_, rfl⟩
        have w2b := w2
        clear w2
        have w2 : wrap64 (L2 - (sub.length : Int)) = L3 := by rw [w2b, e3]
        clear w2b
        rw [← e3] at t2
        have g3 : 0 ≤ L3 ∧ L3 ≤ 1048576 := by omega
        have Z3 := hide (szByteS_any (w.alloc (.cells #[.slice a0 ser.length c0, .string ⟨⟨iss⟩⟩, .string ⟨⟨sub⟩⟩, .int .i64 frm, .int .i64 unt, .slice a5 key.length c5, .slice a6 hos.length c6, .bool aut, .int .i64 lim, .int .i64 use, .slice a10 prm.length c10, .slice a11 exc.length c11, .slice a12 sig.length c12] 56)) a5 c5 key.length L3 o4 (by omega) (by omega))
        by_cases h3 : L3 < (key.length : Int)
        · have v3 : leftN L3 key.length = -1 := if_pos h3
          rw [v3] at Z3
          clear v3
          have E2 := hide (show leftC 1048576 ⟨ser, iss, sub, frm, unt, key, hos, aut, lim, use, prm, exc, sig⟩ = -1 by rw [EQ.out, if_pos (by omega)])
          clear EQ e1 e2 e3 g1 g2 g3 h0 h1 h2 h3
          go_enter Try.func43, Try.ntmps43
          go_wp2_with fail
          refine Z0.out.mono ?_
          rintro e w1 ⟨rfl, h1⟩
          subst h1
          go_wp2_with fail
          refine Z3.out.mono ?_
          rintro e w1 ⟨rfl, h1⟩
          subst h1
          go_wp2
          go_ret
          exact ⟨by rw [E2.out]; rfl, n1.out⟩
        · have v3 : leftN L3 key.length = L3 - (key.length : Int) := if_neg h3
          rw [v3] at Z3
          clear v3
          obtain ⟨L4, e4⟩ : ∃ x, x = L3 - (key.length : Int) := ⟨_, rfl⟩
          rw [← e4] at Z3
          have g4 : 0 ≤ L4 ∧ L4 ≤ 1048576 := by omega
          have t3 : decide (L4 < 0) = false := decide_eq_false (by omega)
          have Z4 := hide (szStringS_any (w.alloc (.cells #[.slice a0 ser.length c0, .string ⟨⟨iss⟩⟩, .string ⟨⟨sub⟩⟩, .int .i64 frm, .int .i64 unt, .slice a5 key.length c5, .slice a6 hos.length c6, .bool aut, .int .i64 lim, .int .i64 use, .slice a10 prm.length c10, .slice a11 exc.length c11, .slice a12 sig.length c12] 56)) g6 a6 c6 hos L4 Q3.out o5 o9 (by omega) (by omega))
          by_cases h4 : L4 < (hos.length : Int) + (sumT hos : Int)
          · have v4 : leftT L4 hos = -1 := if_pos h4
            rw [v4] at Z4
            clear v4
            have E2 := hide (show leftC 1048576 ⟨ser, iss, sub, frm, unt, key, hos, aut, lim, use, prm, exc, sig⟩ = -1 by rw [EQ.out, if_pos (by omega)])
            clear EQ e1 e2 e3 e4 g1 g2 g3 g4 h0 h1 h2 h3 h4
            go_enter Try.func43, Try.ntmps43
            go_wp2_with fail
            refine Z0.out.mono ?_
            rintro e w1 ⟨rfl, h1⟩
            subst h1
            go_wp2_with fail
            refine Z3.out.mono ?_
            rintro e w1 ⟨rfl, h1⟩
            subst h1
            go_wp2_with fail
            refine Z4.out.mono ?_
            rintro e w1 ⟨rfl, h1⟩
            subst h1
            go_wp2
            go_ret
            exact ⟨by rw [E2.out]; rfl, n1.out⟩
          · have v4 : leftT L4 hos = L4 - (hos.length : Int) - (sumT hos : Int) := if_neg h4
            rw [v4] at Z4
            clear v4
            obtain ⟨L5, e5⟩ : ∃ x, x = L4 - (hos.length : Int) - (sumT hos : Int) := ⟨_, rfl⟩
            rw [← e5] at Z4
            have g5 : 0 ≤ L5 ∧ L5 ≤ 1048576 := by omega
            have t4 : decide (L5 < 0) = false := decide_eq_false (by omega)
            have Z5 := hide (szStringS_any (w.alloc (.cells #[.slice a0 ser.length c0, .string ⟨⟨iss⟩⟩, .string ⟨⟨sub⟩⟩, .int .i64 frm, .int .i64 unt, .slice a5 key.length c5, .slice a6 hos.length c6, .bool aut, .int .i64 lim, .int .i64 use, .slice a10 prm.length c10, .slice a11 exc.length c11, .slice a12 sig.length c12] 56)) g10 a10 c10 prm L5 Q4.out o6 o10 (by omega) (by omega))
            by_cases h5 : L5 < (prm.length : Int) + (sumT prm : Int)
            · have v5 : leftT L5 prm = -1 := if_pos h5
              rw [v5] at Z5
              clear v5
              have E2 := hide (show leftC 1048576 ⟨ser, iss, sub, frm, unt, key, hos, aut, lim, use, prm, exc, sig⟩ = -1 by rw [EQ.out, if_pos (by omega)])
              clear EQ e1 e2 e3 e4 e5 g1 g2 g3 g4 g5 h0 h1 h2 h3 h4 h5
              go_enter Try.func43, Try.ntmps43
              go_wp2_with fail
              refine Z0.out.mono ?_
              rintro e w1 ⟨rfl, h1⟩
              subst h1
              go_wp2_with fail
              refine Z3.out.mono ?_
              rintro e w1 ⟨rfl, h1⟩
              subst h1
              go_wp2_with fail
              refine Z4.out.mono ?_
              rintro e w1 ⟨rfl, h1⟩
              subst h1
              go_wp2_with fail
              refine Z5.out.mono ?_
              rintro e w1 ⟨rfl, h1⟩
              subst h1
              go_wp2
              go_ret
              exact ⟨by rw [E2.out]; rfl, n1.out⟩
            · have v5 : leftT L5 prm = L5 - (prm.length : Int) - (sumT prm : Int) := if_neg h5
              rw [v5] at Z5
              clear v5
              obtain ⟨L6, e6⟩ : ∃ x, x = L5 - (prm.length : Int) - (sumT prm : Int) := ⟨_, rfl⟩
              rw [← e6] at Z5
              have g6 : 0 ≤ L6 ∧ L6 ≤ 1048576 := by omega
              have t5 : decide (L6 < 0) = false := decide_eq_false (by omega)
              have Z6 := hide (szStringS_any (w.alloc (.cells #[.slice a0 ser.length c0, .string ⟨⟨iss⟩⟩, .string ⟨⟨sub⟩⟩, .int .i64 frm, .int .i64 unt, .slice a5 key.length c5, .slice a6 hos.length c6, .bool aut, .int .i64 lim, .int .i64 use, .slice a10 prm.length c10, .slice a11 exc.length c11, .slice a12 sig.length c12] 56)) g11 a11 c11 exc L6 Q5.out o7 o11 (by omega) (by omega))
              by_cases h6 : L6 < (exc.length : Int) + (sumT exc : Int)
              · have v6 : leftT L6 exc = -1 := if_pos h6
                rw [v6] at Z6
                clear v6
                have E2 := hide (show leftC 1048576 ⟨ser, iss, sub, frm, unt, key, hos, aut, lim, use, prm, exc, sig⟩ = -1 by rw [EQ.out, if_pos (by omega)])
                clear EQ e1 e2 e3 e4 e5 e6 g1 g2 g3 g4 g5 g6 h0 h1 h2 h3 h4 h5 h6
                go_enter Try.func43, Try.ntmps43
                go_wp2_with fail
                refine Z0.out.mono ?_
                rintro e w1 ⟨rfl, h1⟩
                subst h1
                go_wp2_with fail
                refine Z3.out.mono ?_
                rintro e w1 ⟨rfl, h1⟩
                subst h1
                go_wp2_with fail
                refine Z4.out.mono ?_
                rintro e w1 ⟨rfl, h1⟩
                subst h1
                go_wp2_with fail
                refine Z5.out.mono ?_
                rintro e w1 ⟨rfl, h1⟩
                subst h1
                go_wp2_with fail
                refine Z6.out.mono ?_
                rintro e w1 ⟨rfl, h1⟩
                subst h1
                go_wp2
                go_ret
                exact ⟨by rw [E2.out]; rfl, n1.out⟩
              · have v6 : leftT L6 exc = L6 - (exc.length : Int) - (sumT exc : Int) := if_neg h6
                rw [v6] at Z6
                clear v6
                obtain ⟨L7, e7⟩ : ∃ x, x = L6 - (exc.length : Int) - (sumT exc : Int) := ⟨_, rfl⟩
                rw [← e7] at Z6
                have g7 : 0 ≤ L7 ∧ L7 ≤ 1048576 := by omega
                have t6 : decide (L7 < 0) = false := decide_eq_false (by omega)
                have Z7 := hide (szByteS_any (w.alloc (.cells #[.slice a0 ser.length c0, .string ⟨⟨iss⟩⟩, .string ⟨⟨sub⟩⟩, .int .i64 frm, .int .i64 unt, .slice a5 key.length c5, .slice a6 hos.length c6, .bool aut, .int .i64 lim, .int .i64 use, .slice a10 prm.length c10, .slice a11 exc.length c11, .slice a12 sig.length c12] 56)) a12 c12 sig.length L7 o8 (by omega) (by omega))
                by_cases h7 : L7 < (sig.length : Int)
                · have v7 : leftN L7 sig.length = -1 := if_pos h7
                  rw [v7] at Z7
                  clear v7
                  have E2 := hide (show leftC 1048576 ⟨ser, iss, sub, frm, unt, key, hos, aut, lim, use, prm, exc, sig⟩ = -1 by rw [EQ.out, if_pos (by omega)])
                  clear EQ e1 e2 e3 e4 e5 e6 e7 g1 g2 g3 g4 g5 g6 g7 h0 h1 h2 h3 h4 h5 h6 h7
                  go_enter Try.func43, Try.ntmps43
                  go_wp2_with fail
                  refine Z0.out.mono ?_
                  rintro e w1 ⟨rfl, h1⟩
                  subst h1
                  go_wp2_with fail
                  refine Z3.out.mono ?_
                  rintro e w1 ⟨rfl, h1⟩
                  subst h1
                  go_wp2_with fail
                  refine Z4.out.mono ?_
                  rintro e w1 ⟨rfl, h1⟩
                  subst h1
                  go_wp2_with fail
                  refine Z5.out.mono ?_
                  rintro e w1 ⟨rfl, h1⟩
                  subst h1
                  go_wp2_with fail
                  refine Z6.out.mono ?_
                  rintro e w1 ⟨rfl, h1⟩
                  subst h1
                  go_wp2_with fail
                  refine Z7.out.mono ?_
                  rintro e w1 ⟨rfl, h1⟩
                  subst h1
                  go_wp2
                  go_ret
                  exact ⟨by rw [E2.out]; rfl, n1.out⟩
                · have v7 : leftN L7 sig.length = L7 - (sig.length : Int) := if_neg h7
                  rw [v7] at Z7
                  clear v7
                  obtain ⟨L8, e8⟩ : ∃ x, x = L7 - (sig.length : Int) := ⟨_, rfl⟩
                  rw [← e8] at Z7
                  have g8 : 0 ≤ L8 ∧ L8 ≤ 1048576 := by omega
                  have t7 : decide (L8 < 0) = false := decide_eq_false (by omega)
                  have E2 := hide (show leftC 1048576 ⟨ser, iss, sub, frm, unt, key, hos, aut, lim, use, prm, exc, sig⟩ = L8 by rw [EQ.out, if_neg (by omega)]; omega)
                  clear EQ e1 e2 e3 e4 e5 e6 e7 e8 g1 g2 g3 g4 g5 g6 g7 g8 h0 h1 h2 h3 h4 h5 h6 h7
                  go_enter Try.func43, Try.ntmps43
                  go_wp2_with fail
                  refine Z0.out.mono ?_
                  rintro e w1 ⟨rfl, h1⟩
                  subst h1
                  go_wp2_with fail
                  refine Z3.out.mono ?_
                  rintro e w1 ⟨rfl, h1⟩
                  subst h1
                  go_wp2_with fail
                  refine Z4.out.mono ?_
                  rintro e w1 ⟨rfl, h1⟩
                  subst h1
                  go_wp2_with fail
                  refine Z5.out.mono ?_
                  rintro e w1 ⟨rfl, h1⟩
                  subst h1
                  go_wp2_with fail
                  refine Z6.out.mono ?_
                  rintro e w1 ⟨rfl, h1⟩
                  subst h1
                  go_wp2_with fail
                  refine Z7.out.mono ?_
                  rintro e w1 ⟨rfl, h1⟩
                  subst h1
                  go_wp2
                  go_ret
                  exact ⟨by rw [E2.out]; rfl, n1.out⟩
end Go.Proofs.Ytheggghidhjplaa
