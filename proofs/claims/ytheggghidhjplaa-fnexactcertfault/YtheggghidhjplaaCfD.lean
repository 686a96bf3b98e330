
/-
  The model's rules of a certificate, one by one, and its CertFault.
-/
import Derived.Test.YtheggghidhjplaaCfC
namespace Go.Proofs.Ytheggghidhjplaa
open Go Go.RowKit

set_option maxHeartbeats 4000000 in
theorem rule1_any (w : World) (p : CP) (C : Crt) (hC : HasC w p C) (ok : OkC C) :
    Calls Try.prog 115 #[.agg (crt p C), .int .i64 1] w fun e w' => e = .returned (.bool (rul C 1)) ∧ Below w.heap.size w w' := by
  obtain ⟨ser, iss, sub, frm, unt, key, hos, aut, lim, use, prm, exc, sig⟩ := C
  obtain ⟨a0, c0, g0, a5, c5, g5, a6, c6, g6, a10, c10, g10, a11, c11, g11, a12, c12, g12⟩ := p
  obtain ⟨q1, q2, q3, q4, q5, q6⟩ := hC
  simp only at q1 q2 q3 q4 q5 q6
  have n1 : Hid (Below w.heap.size w (w.alloc (.cells #[.slice a0 ser.length c0, .string ⟨⟨iss⟩⟩, .string ⟨⟨sub⟩⟩, .int .i64 frm, .int .i64 unt, .slice a5 key.length c5, .slice a6 hos.length c6, .bool aut, .int .i64 lim, .int .i64 use, .slice a10 prm.length c10, .slice a11 exc.length c11, .slice a12 sig.length c12] 59))) := (Below.refl _ _).alloc (Nat.le_refl _) _
  simp only [crt]
  by_cases h1 : 1 ≤ ser.length
  · have t1 : decide ((1 : Int) ≤ (ser.length : Int)) = true := decide_eq_true (by omega)
    by_cases h2 : ser.length ≤ 20
    · have t2 : decide ((ser.length : Int) ≤ 20) = true := decide_eq_true (by omega)
      obtain ⟨off, rfl, hc⟩ := (q1.up n1.out) (by omega)
      have c1 := hc 0 (by omega)
      have t3 : (0 : Int) < (ser.length : Int) := by omega
      rw [Nat.add_zero] at c1
      have EQ : Hid (rul ⟨ser, iss, sub, frm, unt, key, hos, aut, lim, use, prm, exc, sig⟩ 1 = (ser.getD 0 0 != 0)) := by
        show (decide (1 ≤ ser.length) && decide (ser.length ≤ 20) && decide (ser.getD 0 0 ≠ 0)) = _
        rw [decide_eq_true h1, decide_eq_true h2]
        generalize ser.getD 0 0 = x
        by_cases e : x = 0 <;> simp [e]
      clear hc h1 h2 q1 q2 q3 q4 q5 q6 ok
      generalize ser.getD 0 0 = x at *
      go_enter Try.func115, Try.ntmps115
      go_wp2
      go_ret
      exact ⟨by rw [EQ.out]; rfl, n1.out⟩
    · have t2 : decide ((ser.length : Int) ≤ 20) = false := decide_eq_false (by omega)
      have EQ : Hid (rul ⟨ser, iss, sub, frm, unt, key, hos, aut, lim, use, prm, exc, sig⟩ 1 = false) := by
        show (decide (1 ≤ ser.length) && decide (ser.length ≤ 20) && decide (ser.getD 0 0 ≠ 0)) = _
        rw [decide_eq_false h2]
        simp
      clear h1 h2 q1 q2 q3 q4 q5 q6 ok
      go_enter Try.func115, Try.ntmps115
      go_wp2
      go_ret
      exact ⟨by rw [EQ.out]; rfl, n1.out⟩
  · have t1 : decide ((1 : Int) ≤ (ser.length : Int)) = false := decide_eq_false (by omega)
    have EQ : Hid (rul ⟨ser, iss, sub, frm, unt, key, hos, aut, lim, use, prm, exc, sig⟩ 1 = false) := by
      show (decide (1 ≤ ser.length) && decide (ser.length ≤ 20) && decide (ser.getD 0 0 ≠ 0)) = _
      rw [decide_eq_false h1]
      rfl
    clear h1 q1 q2 q3 q4 q5 q6 ok
    go_enter Try.func115, Try.ntmps115
    go_wp2
    go_ret
    exact ⟨by rw [EQ.out]; rfl, n1.out⟩
set_option maxHeartbeats 4000000 in
theorem rule2_any (w : World) (p : CP) (C : Crt) (hC : HasC w p C) (ok : OkC C) :
    Calls Try.prog 115 #[.agg (crt p C), .int .i64 2] w fun e w' => e = .returned (.bool (rul C 2)) ∧ Below w.heap.size w w' := by
  obtain ⟨ser, iss, sub, frm, unt, key, hos, aut, lim, use, prm, exc, sig⟩ := C
  obtain ⟨a0, c0, g0, a5, c5, g5, a6, c6, g6, a10, c10, g10, a11, c11, g11, a12, c12, g12⟩ := p
  obtain ⟨q1, q2, q3, q4, q5, q6⟩ := hC
  simp only at q1 q2 q3 q4 q5 q6
  have n1 : Hid (Below w.heap.size w (w.alloc (.cells #[.slice a0 ser.length c0, .string ⟨⟨iss⟩⟩, .string ⟨⟨sub⟩⟩, .int .i64 frm, .int .i64 unt, .slice a5 key.length c5, .slice a6 hos.length c6, .bool aut, .int .i64 lim, .int .i64 use, .slice a10 prm.length c10, .slice a11 exc.length c11, .slice a12 sig.length c12] 59))) := (Below.refl _ _).alloc (Nat.le_refl _) _
  simp only [crt]
  have EQ : Hid (rul ⟨ser, iss, sub, frm, unt, key, hos, aut, lim, use, prm, exc, sig⟩ 2 = ttl iss) := rfl
  have TI := hide (l11Plain_any (w.alloc (.cells #[.slice a0 ser.length c0, .string ⟨⟨iss⟩⟩, .string ⟨⟨sub⟩⟩, .int .i64 frm, .int .i64 unt, .slice a5 key.length c5, .slice a6 hos.length c6, .bool aut, .int .i64 lim, .int .i64 use, .slice a10 prm.length c10, .slice a11 exc.length c11, .slice a12 sig.length c12] 59)) iss ok.iss)
  clear q1 q2 q3 q4 q5 q6 ok
  generalize ttl iss = z at *
  go_enter Try.func115, Try.ntmps115
  go_wp2_with fail
  refine TI.out.mono ?_
  rintro e w1 ⟨rfl, h1⟩
  subst h1
  go_wp2
  go_ret
  exact ⟨by rw [EQ.out]; rfl, n1.out⟩
set_option maxHeartbeats 4000000 in
theorem rule3_any (w : World) (p : CP) (C : Crt) (hC : HasC w p C) (ok : OkC C) :
    Calls Try.prog 115 #[.agg (crt p C), .int .i64 3] w fun e w' => e = .returned (.bool (rul C 3)) ∧ Below w.heap.size w w' := by
  obtain ⟨ser, iss, sub, frm, unt, key, hos, aut, lim, use, prm, exc, sig⟩ := C
  obtain ⟨a0, c0, g0, a5, c5, g5, a6, c6, g6, a10, c10, g10, a11, c11, g11, a12, c12, g12⟩ := p
  obtain ⟨q1, q2, q3, q4, q5, q6⟩ := hC
  simp only at q1 q2 q3 q4 q5 q6
  have n1 : Hid (Below w.heap.size w (w.alloc (.cells #[.slice a0 ser.length c0, .string ⟨⟨iss⟩⟩, .string ⟨⟨sub⟩⟩, .int .i64 frm, .int .i64 unt, .slice a5 key.length c5, .slice a6 hos.length c6, .bool aut, .int .i64 lim, .int .i64 use, .slice a10 prm.length c10, .slice a11 exc.length c11, .slice a12 sig.length c12] 59))) := (Below.refl _ _).alloc (Nat.le_refl _) _
  simp only [crt]
  have EQ : Hid (rul ⟨ser, iss, sub, frm, unt, key, hos, aut, lim, use, prm, exc, sig⟩ 3 = ttl sub) := rfl
  have TI := hide (l11Plain_any (w.alloc (.cells #[.slice a0 ser.length c0, .string ⟨⟨iss⟩⟩, .string ⟨⟨sub⟩⟩, .int .i64 frm, .int .i64 unt, .slice a5 key.length c5, .slice a6 hos.length c6, .bool aut, .int .i64 lim, .int .i64 use, .slice a10 prm.length c10, .slice a11 exc.length c11, .slice a12 sig.length c12] 59)) sub ok.sub)
  clear q1 q2 q3 q4 q5 q6 ok
  generalize ttl sub = z at *
  go_enter Try.func115, Try.ntmps115
  go_wp2_with fail
  refine TI.out.mono ?_
  rintro e w1 ⟨rfl, h1⟩
  subst h1
  go_wp2
  go_ret
  exact ⟨by rw [EQ.out]; rfl, n1.out⟩
set_option maxHeartbeats 4000000 in
theorem rule4_any (w : World) (p : CP) (C : Crt) (hC : HasC w p C) (ok : OkC C) :
    Calls Try.prog 115 #[.agg (crt p C), .int .i64 4] w fun e w' => e = .returned (.bool (rul C 4)) ∧ Below w.heap.size w w' := by
  obtain ⟨ser, iss, sub, frm, unt, key, hos, aut, lim, use, prm, exc, sig⟩ := C
  obtain ⟨a0, c0, g0, a5, c5, g5, a6, c6, g6, a10, c10, g10, a11, c11, g11, a12, c12, g12⟩ := p
  obtain ⟨q1, q2, q3, q4, q5, q6⟩ := hC
  simp only at q1 q2 q3 q4 q5 q6
  have n1 : Hid (Below w.heap.size w (w.alloc (.cells #[.slice a0 ser.length c0, .string ⟨⟨iss⟩⟩, .string ⟨⟨sub⟩⟩, .int .i64 frm, .int .i64 unt, .slice a5 key.length c5, .slice a6 hos.length c6, .bool aut, .int .i64 lim, .int .i64 use, .slice a10 prm.length c10, .slice a11 exc.length c11, .slice a12 sig.length c12] 59))) := (Below.refl _ _).alloc (Nat.le_refl _) _
  simp only [crt]
  clear q1 q2 q3 q4 q5 q6 ok
  have E0 : rul ⟨ser, iss, sub, frm, unt, key, hos, aut, lim, use, prm, exc, sig⟩ 4 = (decide (0 ≤ frm) && decide (frm ≤ unt) && decide (unt ≤ 253402300799)) := rfl
  by_cases h1 : 0 ≤ frm
  · have d1 : decide (0 ≤ frm) = true := decide_eq_true h1
    by_cases h2 : frm ≤ unt
    · have d2 : decide (frm ≤ unt) = true := decide_eq_true h2
      have EQ := hide (show rul ⟨ser, iss, sub, frm, unt, key, hos, aut, lim, use, prm, exc, sig⟩ 4 = decide (unt ≤ 253402300799) by rw [E0, d1, d2]; rfl)
      clear E0 h1 h2
      go_enter Try.func115, Try.ntmps115
      go_wp2
      go_ret
      exact ⟨by rw [EQ.out]; rfl, n1.out⟩
    · have d2 : decide (frm ≤ unt) = false := decide_eq_false h2
      have EQ := hide (show rul ⟨ser, iss, sub, frm, unt, key, hos, aut, lim, use, prm, exc, sig⟩ 4 = false by rw [E0, d1, d2]; rfl)
      clear E0 h1 h2
      go_enter Try.func115, Try.ntmps115
      go_wp2
      go_ret
      exact ⟨by rw [EQ.out]; rfl, n1.out⟩
  · have d1 : decide (0 ≤ frm) = false := decide_eq_false h1
    have EQ := hide (show rul ⟨ser, iss, sub, frm, unt, key, hos, aut, lim, use, prm, exc, sig⟩ 4 = false by rw [E0, d1]; rfl)
    clear E0 h1
    go_enter Try.func115, Try.ntmps115
    go_wp2
    go_ret
    exact ⟨by rw [EQ.out]; rfl, n1.out⟩
set_option maxHeartbeats 4000000 in
theorem rule5_any (w : World) (p : CP) (C : Crt) (hC : HasC w p C) (ok : OkC C) :
    Calls Try.prog 115 #[.agg (crt p C), .int .i64 5] w fun e w' => e = .returned (.bool (rul C 5)) ∧ Below w.heap.size w w' := by
  obtain ⟨ser, iss, sub, frm, unt, key, hos, aut, lim, use, prm, exc, sig⟩ := C
  obtain ⟨a0, c0, g0, a5, c5, g5, a6, c6, g6, a10, c10, g10, a11, c11, g11, a12, c12, g12⟩ := p
  obtain ⟨q1, q2, q3, q4, q5, q6⟩ := hC
  simp only at q1 q2 q3 q4 q5 q6
  have n1 : Hid (Below w.heap.size w (w.alloc (.cells #[.slice a0 ser.length c0, .string ⟨⟨iss⟩⟩, .string ⟨⟨sub⟩⟩, .int .i64 frm, .int .i64 unt, .slice a5 key.length c5, .slice a6 hos.length c6, .bool aut, .int .i64 lim, .int .i64 use, .slice a10 prm.length c10, .slice a11 exc.length c11, .slice a12 sig.length c12] 59))) := (Below.refl _ _).alloc (Nat.le_refl _) _
  simp only [crt]
  clear q1 q2 q3 q4 q5 q6 ok
  have EQ : Hid (rul ⟨ser, iss, sub, frm, unt, key, hos, aut, lim, use, prm, exc, sig⟩ 5 = ((key.length : Int) == 32)) := by
    show decide (key.length = 32) = _
    by_cases e : key.length = 32
    · rw [e]
      rfl
    · rw [decide_eq_false e]
      exact (len_ne e).symm
  go_enter Try.func115, Try.ntmps115
  go_wp2
  go_ret
  exact ⟨by rw [EQ.out]; rfl, n1.out⟩
set_option maxHeartbeats 4000000 in
theorem rule10_any (w : World) (p : CP) (C : Crt) (hC : HasC w p C) (ok : OkC C) :
    Calls Try.prog 115 #[.agg (crt p C), .int .i64 10] w fun e w' => e = .returned (.bool (rul C 10)) ∧ Below w.heap.size w w' := by
  obtain ⟨ser, iss, sub, frm, unt, key, hos, aut, lim, use, prm, exc, sig⟩ := C
  obtain ⟨a0, c0, g0, a5, c5, g5, a6, c6, g6, a10, c10, g10, a11, c11, g11, a12, c12, g12⟩ := p
  obtain ⟨q1, q2, q3, q4, q5, q6⟩ := hC
  simp only at q1 q2 q3 q4 q5 q6
  have n1 : Hid (Below w.heap.size w (w.alloc (.cells #[.slice a0 ser.length c0, .string ⟨⟨iss⟩⟩, .string ⟨⟨sub⟩⟩, .int .i64 frm, .int .i64 unt, .slice a5 key.length c5, .slice a6 hos.length c6, .bool aut, .int .i64 lim, .int .i64 use, .slice a10 prm.length c10, .slice a11 exc.length c11, .slice a12 sig.length c12] 59))) := (Below.refl _ _).alloc (Nat.le_refl _) _
  simp only [crt]
  clear q1 q2 q3 q4 q5 q6 ok
  have EQ : Hid (rul ⟨ser, iss, sub, frm, unt, key, hos, aut, lim, use, prm, exc, sig⟩ 10 = ((sig.length : Int) == 64)) := by
    show decide (sig.length = 64) = _
    by_cases e : sig.length = 64
    · rw [e]
      rfl
    · rw [decide_eq_false e]
      exact (len_ne e).symm
  go_enter Try.func115, Try.ntmps115
  go_wp2
  go_ret
  exact ⟨by rw [EQ.out]; rfl, n1.out⟩
set_option maxHeartbeats 4000000 in
theorem rule6_any (w : World) (p : CP) (C : Crt) (hC : HasC w p C) (ok : OkC C) :
    Calls Try.prog 115 #[.agg (crt p C), .int .i64 6] w fun e w' => e = .returned (.bool (rul C 6)) ∧ Below w.heap.size w w' := by
  obtain ⟨ser, iss, sub, frm, unt, key, hos, aut, lim, use, prm, exc, sig⟩ := C
  obtain ⟨a0, c0, g0, a5, c5, g5, a6, c6, g6, a10, c10, g10, a11, c11, g11, a12, c12, g12⟩ := p
  obtain ⟨q1, q2, q3, q4, q5, q6⟩ := hC
  simp only at q1 q2 q3 q4 q5 q6
  have n1 : Hid (Below w.heap.size w (w.alloc (.cells #[.slice a0 ser.length c0, .string ⟨⟨iss⟩⟩, .string ⟨⟨sub⟩⟩, .int .i64 frm, .int .i64 unt, .slice a5 key.length c5, .slice a6 hos.length c6, .bool aut, .int .i64 lim, .int .i64 use, .slice a10 prm.length c10, .slice a11 exc.length c11, .slice a12 sig.length c12] 59))) := (Below.refl _ _).alloc (Nat.le_refl _) _
  simp only [crt]
  have EQ : Hid (rul ⟨ser, iss, sub, frm, unt, key, hos, aut, lim, use, prm, exc, sig⟩ 6 = ris patF hos) := rfl
  have TI := hide (sisP_any (w.alloc (.cells #[.slice a0 ser.length c0, .string ⟨⟨iss⟩⟩, .string ⟨⟨sub⟩⟩, .int .i64 frm, .int .i64 unt, .slice a5 key.length c5, .slice a6 hos.length c6, .bool aut, .int .i64 lim, .int .i64 use, .slice a10 prm.length c10, .slice a11 exc.length c11, .slice a12 sig.length c12] 59)) g6 a6 c6 hos (q3.up n1.out) ok.hosM ok.hos)
  clear q1 q2 q3 q4 q5 q6 ok
  generalize ris patF hos = z at *
  go_enter Try.func115, Try.ntmps115
  go_wp2_with fail
  refine TI.out.mono ?_
  rintro e w1 ⟨rfl, n2⟩
  have n3 := hide (nxt n1.out n2)
  clear n2
  go_wp2
  go_ret
  exact ⟨by rw [EQ.out]; rfl, n3.out⟩
set_option maxHeartbeats 4000000 in
theorem rule7_any (w : World) (p : CP) (C : Crt) (hC : HasC w p C) (ok : OkC C) :
    Calls Try.prog 115 #[.agg (crt p C), .int .i64 7] w fun e w' => e = .returned (.bool (rul C 7)) ∧ Below w.heap.size w w' := by
  obtain ⟨ser, iss, sub, frm, unt, key, hos, aut, lim, use, prm, exc, sig⟩ := C
  obtain ⟨a0, c0, g0, a5, c5, g5, a6, c6, g6, a10, c10, g10, a11, c11, g11, a12, c12, g12⟩ := p
  obtain ⟨q1, q2, q3, q4, q5, q6⟩ := hC
  simp only at q1 q2 q3 q4 q5 q6
  have n1 : Hid (Below w.heap.size w (w.alloc (.cells #[.slice a0 ser.length c0, .string ⟨⟨iss⟩⟩, .string ⟨⟨sub⟩⟩, .int .i64 frm, .int .i64 unt, .slice a5 key.length c5, .slice a6 hos.length c6, .bool aut, .int .i64 lim, .int .i64 use, .slice a10 prm.length c10, .slice a11 exc.length c11, .slice a12 sig.length c12] 59))) := (Below.refl _ _).alloc (Nat.le_refl _) _
  simp only [crt]
  clear q1 q2 q3 q4 q5 q6 ok
  have E0 : rul ⟨ser, iss, sub, frm, unt, key, hos, aut, lim, use, prm, exc, sig⟩ 7 = (decide (-1 ≤ lim) && decide (lim ≤ 16) && (aut || (decide (lim = -1) && decide (prm.length = 0) && decide (exc.length = 0)))) := rfl
  by_cases h1 : lim < -1
  · have d1 : decide (lim < -1) = true := decide_eq_true h1
    have EQ := hide (show rul ⟨ser, iss, sub, frm, unt, key, hos, aut, lim, use, prm, exc, sig⟩ 7 = false by rw [E0, decide_eq_false (show ¬ -1 ≤ lim by omega)]; rfl)
    clear E0 h1
    go_enter Try.func115, Try.ntmps115
    go_wp2
    go_ret
    exact ⟨by rw [EQ.out]; rfl, n1.out⟩
  · have d1 : decide (lim < -1) = false := decide_eq_false h1
    rw [decide_eq_true (show -1 ≤ lim by omega)] at E0
    by_cases h2 : 16 < lim
    · have d2 : decide (16 < lim) = true := decide_eq_true h2
      have EQ := hide (show rul ⟨ser, iss, sub, frm, unt, key, hos, aut, lim, use, prm, exc, sig⟩ 7 = false by rw [E0, decide_eq_false (show ¬ lim ≤ 16 by omega)]; rfl)
      clear E0 h1 h2
      go_enter Try.func115, Try.ntmps115
      go_wp2
      go_ret
      exact ⟨by rw [EQ.out]; rfl, n1.out⟩
    · have d2 : decide (16 < lim) = false := decide_eq_false h2
      rw [decide_eq_true (show lim ≤ 16 by omega)] at E0
      cases aut with
      | true =>
        have EQ := hide (show rul ⟨ser, iss, sub, frm, unt, key, hos, true, lim, use, prm, exc, sig⟩ 7 = true by rw [E0]; rfl)
        clear E0 h1 h2
        go_enter Try.func115, Try.ntmps115
        go_wp2
        go_ret
        exact ⟨by rw [EQ.out]; rfl, n1.out⟩
      | false =>
        by_cases h3 : lim = -1
        · have d3 : (lim == -1) = true := by rw [h3]; rfl
          rw [decide_eq_true h3] at E0
          by_cases h4 : prm.length = 0
          · have d4 : ((prm.length : Int) == 0) = true := by rw [h4]; rfl
            rw [decide_eq_true h4] at E0
            have EQ := hide (show rul ⟨ser, iss, sub, frm, unt, key, hos, false, lim, use, prm, exc, sig⟩ 7 = ((exc.length : Int) == 0) by
              rw [E0]
              by_cases e : exc.length = 0
              · rw [e]
                rfl
              · rw [decide_eq_false e]
                exact (len_ne e).symm)
            clear E0 h1 h2 h3 h4
            go_enter Try.func115, Try.ntmps115
            go_wp2
            go_ret
            exact ⟨by rw [EQ.out]; rfl, n1.out⟩
          · have d4 : ((prm.length : Int) == 0) = false := len_ne h4
            have EQ := hide (show rul ⟨ser, iss, sub, frm, unt, key, hos, false, lim, use, prm, exc, sig⟩ 7 = false by rw [E0, decide_eq_false h4]; rfl)
            clear E0 h1 h2 h3 h4
            go_enter Try.func115, Try.ntmps115
            go_wp2
            go_ret
            exact ⟨by rw [EQ.out]; rfl, n1.out⟩
        · have d3 : (lim == -1) = false := by simpa using h3
          have EQ := hide (show rul ⟨ser, iss, sub, frm, unt, key, hos, false, lim, use, prm, exc, sig⟩ 7 = false by rw [E0, decide_eq_false h3]; rfl)
          clear E0 h1 h2 h3
          go_enter Try.func115, Try.ntmps115
          go_wp2
          go_ret
          exact ⟨by rw [EQ.out]; rfl, n1.out⟩
set_option maxHeartbeats 4000000 in
theorem rule8_any (w : World) (p : CP) (C : Crt) (hC : HasC w p C) (ok : OkC C) :
    Calls Try.prog 115 #[.agg (crt p C), .int .i64 8] w fun e w' => e = .returned (.bool (rul C 8)) ∧ Below w.heap.size w w' := by
  obtain ⟨ser, iss, sub, frm, unt, key, hos, aut, lim, use, prm, exc, sig⟩ := C
  obtain ⟨a0, c0, g0, a5, c5, g5, a6, c6, g6, a10, c10, g10, a11, c11, g11, a12, c12, g12⟩ := p
  obtain ⟨q1, q2, q3, q4, q5, q6⟩ := hC
  simp only at q1 q2 q3 q4 q5 q6
  have n1 : Hid (Below w.heap.size w (w.alloc (.cells #[.slice a0 ser.length c0, .string ⟨⟨iss⟩⟩, .string ⟨⟨sub⟩⟩, .int .i64 frm, .int .i64 unt, .slice a5 key.length c5, .slice a6 hos.length c6, .bool aut, .int .i64 lim, .int .i64 use, .slice a10 prm.length c10, .slice a11 exc.length c11, .slice a12 sig.length c12] 59))) := (Below.refl _ _).alloc (Nat.le_refl _) _
  simp only [crt]
  clear q1 q2 q3 q4 q5 q6 ok
  have E0 : rul ⟨ser, iss, sub, frm, unt, key, hos, aut, lim, use, prm, exc, sig⟩ 8 = (decide (1 ≤ use) && decide (use ≤ 7) && (decide (4 ≤ use) == aut)) := rfl
  by_cases h1 : 1 ≤ use
  · have d1 : decide (1 ≤ use) = true := decide_eq_true h1
    by_cases h2 : use ≤ 7
    · have d2 : decide (use ≤ 7) = true := decide_eq_true h2
      have EQ := hide (show rul ⟨ser, iss, sub, frm, unt, key, hos, aut, lim, use, prm, exc, sig⟩ 8 = (decide (4 ≤ use) == aut) by rw [E0, d1, d2]; rfl)
      clear E0 h1 h2
      go_enter Try.func115, Try.ntmps115
      go_wp2
      go_ret
      exact ⟨by rw [EQ.out]; rfl, n1.out⟩
    · have d2 : decide (use ≤ 7) = false := decide_eq_false h2
      have EQ := hide (show rul ⟨ser, iss, sub, frm, unt, key, hos, aut, lim, use, prm, exc, sig⟩ 8 = false by rw [E0, d1, d2]; rfl)
      clear E0 h1 h2
      go_enter Try.func115, Try.ntmps115
      go_wp2
      go_ret
      exact ⟨by rw [EQ.out]; rfl, n1.out⟩
  · have d1 : decide (1 ≤ use) = false := decide_eq_false h1
    have EQ := hide (show rul ⟨ser, iss, sub, frm, unt, key, hos, aut, lim, use, prm, exc, sig⟩ 8 = false by rw [E0, d1]; rfl)
    clear E0 h1
    go_enter Try.func115, Try.ntmps115
    go_wp2
    go_ret
    exact ⟨by rw [EQ.out]; rfl, n1.out⟩
set_option maxHeartbeats 4000000 in
theorem rule9_any (w : World) (p : CP) (C : Crt) (hC : HasC w p C) (ok : OkC C) :
    Calls Try.prog 115 #[.agg (crt p C), .int .i64 9] w fun e w' => e = .returned (.bool (rul C 9)) ∧ Below w.heap.size w w' := by
  obtain ⟨ser, iss, sub, frm, unt, key, hos, aut, lim, use, prm, exc, sig⟩ := C
  obtain ⟨a0, c0, g0, a5, c5, g5, a6, c6, g6, a10, c10, g10, a11, c11, g11, a12, c12, g12⟩ := p
  obtain ⟨q1, q2, q3, q4, q5, q6⟩ := hC
  simp only at q1 q2 q3 q4 q5 q6
  have n1 : Hid (Below w.heap.size w (w.alloc (.cells #[.slice a0 ser.length c0, .string ⟨⟨iss⟩⟩, .string ⟨⟨sub⟩⟩, .int .i64 frm, .int .i64 unt, .slice a5 key.length c5, .slice a6 hos.length c6, .bool aut, .int .i64 lim, .int .i64 use, .slice a10 prm.length c10, .slice a11 exc.length c11, .slice a12 sig.length c12] 59))) := (Below.refl _ _).alloc (Nat.le_refl _) _
  simp only [crt]
  have EQ : Hid (rul ⟨ser, iss, sub, frm, unt, key, hos, aut, lim, use, prm, exc, sig⟩ 9 = (ris nameF prm && ris nameF exc)) := rfl
  have T1 := hide (sisN_any (w.alloc (.cells #[.slice a0 ser.length c0, .string ⟨⟨iss⟩⟩, .string ⟨⟨sub⟩⟩, .int .i64 frm, .int .i64 unt, .slice a5 key.length c5, .slice a6 hos.length c6, .bool aut, .int .i64 lim, .int .i64 use, .slice a10 prm.length c10, .slice a11 exc.length c11, .slice a12 sig.length c12] 59)) g10 a10 c10 prm (q4.up n1.out) ok.prmM ok.prm)
  have T2 := hide (fun W (h : RdT W g11 a11 exc) => sisN_any W g11 a11 c11 exc h ok.excM ok.exc)
  have TH := hide (Thr.new w #[.slice a0 ser.length c0, .string ⟨⟨iss⟩⟩, .string ⟨⟨sub⟩⟩, .int .i64 frm, .int .i64 unt, .slice a5 key.length c5, .slice a6 hos.length c6, .bool aut, .int .i64 lim, .int .i64 use, .slice a10 prm.length c10, .slice a11 exc.length c11, .slice a12 sig.length c12] 59)
  have Q5 := hide (fun W (h : Below w.heap.size w W) => q5.up h)
  clear q1 q2 q3 q4 q5 q6 ok
  generalize ris nameF prm = y at *
  generalize ris nameF exc = z at *
  cases y with
  | false =>
    go_enter Try.func115, Try.ntmps115
    go_wp2_with fail
    refine T1.out.mono ?_
    rintro e w1 ⟨rfl, n2⟩
    have n3 := hide (nxt n1.out n2)
    clear n2
    go_wp2
    go_ret
    exact ⟨by rw [EQ.out]; rfl, n3.out⟩
  | true =>
    go_enter Try.func115, Try.ntmps115
    go_wp2_with fail
    refine T1.out.mono ?_
    rintro e w1 ⟨rfl, n2⟩
    have n3 := hide (nxt n1.out n2)
    have k11 := (TH.out.up n2).cell 11 _ rfl
    clear n2
    go_wp2_with fail
    refine (T2.out w1 (Q5.out w1 n3.out)).mono ?_
    rintro e w2 ⟨rfl, n4⟩
    have n5 := hide (nxt n3.out n4)
    clear n4
    go_wp2
    go_ret
    exact ⟨by rw [EQ.out]; rfl, n5.out⟩
theorem l11Rule_any (w : World) (p : CP) (C : Crt) (r : Nat) (h1 : 1 ≤ r) (h2 : r ≤ 10) (hC : HasC w p C) (ok : OkC C) :
    Calls Try.prog 115 #[.agg (crt p C), .int .i64 (r : Int)] w fun e w' => e = .returned (.bool (rul C r)) ∧ Below w.heap.size w w' := by
  have : r = 1 ∨ r = 2 ∨ r = 3 ∨ r = 4 ∨ r = 5 ∨ r = 6 ∨ r = 7 ∨ r = 8 ∨ r = 9 ∨ r = 10 := by omega
  rcases this with rfl | rfl | rfl | rfl | rfl | rfl | rfl | rfl | rfl | rfl
  · exact rule1_any w p C hC ok
  · exact rule2_any w p C hC ok
  · exact rule3_any w p C hC ok
  · exact rule4_any w p C hC ok
  · exact rule5_any w p C hC ok
  · exact rule6_any w p C hC ok
  · exact rule7_any w p C hC ok
  · exact rule8_any w p C hC ok
  · exact rule9_any w p C hC ok
  · exact rule10_any w p C hC ok
set_option maxHeartbeats 4000000 in
theorem l11First_any (w : World) (p : CP) (C : Crt) (most : Nat) (h2 : most ≤ 10) (hC : HasC w p C) (ok : OkC C) :
    Calls Try.prog 89 #[.agg (crt p C), .int .i64 (most : Int)] w fun e w' => e = .returned (.int .i64 (fstR C most 1)) ∧ Below w.heap.size w w' := by
  have n1 : Below w.heap.size w (w.alloc (.cells (crt p C) 59)) := (Below.refl _ _).alloc (Nat.le_refl _) _
  have TH := Thr.new w (crt p C) 59
  have RU := hide (fun W r h1 h2 (h : HasC W p C) => l11Rule_any W p C r h1 h2 h ok)
  have ST : Hid (∀ n r, fstR C (n + 1) r = if rul C r = true then fstR C n (r + 1) else (r : Int)) := fun n r => rfl
  have HC := hide (fun W (h : Below w.heap.size w W) => hC.up h)
  clear ok hC
  have N1 := hide n1
  have TT := hide TH
  clear n1 TH
  obtain ⟨c, hc⟩ : ∃ c, c = C := ⟨C, rfl⟩
  obtain ⟨ser, iss, sub, frm, unt, key, hos, aut, lim, use, prm, exc, sig⟩ := C
  obtain ⟨a0, c0, g0, a5, c5, g5, a6, c6, g6, a10, c10, g10, a11, c11, g11, a12, c12, g12⟩ := p
  rw [← hc] at RU HC ST ⊢
  have AG : Hid (crt ⟨a0, c0, g0, a5, c5, g5, a6, c6, g6, a10, c10, g10, a11, c11, g11, a12, c12, g12⟩ c = #[.slice a0 ser.length c0, .string ⟨⟨iss⟩⟩, .string ⟨⟨sub⟩⟩, .int .i64 frm, .int .i64 unt, .slice a5 key.length c5, .slice a6 hos.length c6, .bool aut, .int .i64 lim, .int .i64 use, .slice a10 prm.length c10, .slice a11 exc.length c11, .slice a12 sig.length c12]) := by
    show _ = _
    rw [hc]
    rfl
  rw [← hc] at TT N1
  rw [AG.out] at TT N1 RU ⊢
  clear hc AG
  go_enter Try.func89, Try.ntmps89
  go_wp2
  generalize w.alloc (.cells #[.slice a0 ser.length c0, .string ⟨⟨iss⟩⟩, .string ⟨⟨sub⟩⟩, .int .i64 frm, .int .i64 unt, .slice a5 key.length c5, .slice a6 hos.length c6, .bool aut, .int .i64 lim, .int .i64 use, .slice a10 prm.length c10, .slice a11 exc.length c11, .slice a12 sig.length c12] 59) = W1 at *
  go_loopw [5] (fun i wr => Below w.heap.size w wr ∧ Thr wr w.heap.size #[.slice a0 ser.length c0, .string ⟨⟨iss⟩⟩, .string ⟨⟨sub⟩⟩, .int .i64 frm, .int .i64 unt, .slice a5 key.length c5, .slice a6 hos.length c6, .bool aut, .int .i64 lim, .int .i64 use, .slice a10 prm.length c10, .slice a11 exc.length c11, .slice a12 sig.length c12] ∧ ∃ k : Nat, 1 ≤ k ∧ k ≤ most + 1 ∧ i = .int .i64 k ∧ Hid (fstR c most 1 = fstR c (most + 1 - k) k)) (fun i _ => most + 1 - (intOf i).toNat)
  case atStart => exact ⟨N1.out, TT.out, 1, by omega, by omega, rfl, by show _ = _; rw [show most + 1 - 1 = most by omega]⟩
  case round =>
    obtain ⟨nb, tb, k, hk1, hk, rfl, hF⟩ := hrel
    have HN := hide nb
    have TB := hide tb
    by_cases hlt : k ≤ most
    · have t2 : decide ((k : Int) ≤ (most : Int)) = true := decide_eq_true (by omega)
      have t2' : k ≤ most := hlt
      have R1 := hide (RU.out wr k hk1 (by omega) (HC.out wr nb))
      have E1 := hide (ST.out (most - k) k)
      rw [show most - k + 1 = most + 1 - k by omega, ← hF.out] at E1
      have k0 := tb.cell 0 _ rfl
      have k1 := tb.cell 1 _ rfl
      have k2 := tb.cell 2 _ rfl
      have k3 := tb.cell 3 _ rfl
      have k4 := tb.cell 4 _ rfl
      have k5 := tb.cell 5 _ rfl
      have k6 := tb.cell 6 _ rfl
      have k7 := tb.cell 7 _ rfl
      have k8 := tb.cell 8 _ rfl
      have k9 := tb.cell 9 _ rfl
      have k10 := tb.cell 10 _ rfl
      have k11 := tb.cell 11 _ rfl
      have k12 := tb.cell 12 _ rfl
      clear nb tb hF
      cases hz : rul c k with
      | true =>
        rw [hz] at R1 E1
        clear hz
        go_wp2_with fail
        refine R1.out.mono ?_
        rintro e w2 ⟨rfl, n2⟩
        have n3 := hide (nxt HN.out n2)
        have T3 := hide (TB.out.up n2)
        clear n2
        go_wp2
        go_roundw
        case rel => exact ⟨n3.out, T3.out, k + 1, by omega, by omega, by go_num, by show _ = _; rw [E1.out, show most + 1 - (k + 1) = most - k by omega]; simp⟩
        case measure => simp [intOf]; omega
      | false =>
        rw [hz] at R1 E1
        clear hz
        go_wp2_with fail
        refine R1.out.mono ?_
        rintro e w2 ⟨rfl, n2⟩
        have n3 := hide (nxt HN.out n2)
        clear n2
        go_wp2
        go_ret
        exact ⟨by rw [E1.out]; rfl, n3.out⟩
    · obtain rfl : k = most + 1 := by omega
      have t2 : decide (((most + 1 : Nat) : Int) ≤ (most : Int)) = false := decide_eq_false (by omega)
      have E1 := hide (show fstR c most 1 = 0 by rw [hF.out, show most + 1 - (most + 1) = 0 by omega]; rfl)
      clear nb tb hF
      go_wp2
      go_ret
      exact ⟨by rw [E1.out]; rfl, HN.out⟩
set_option maxHeartbeats 4000000 in
theorem specCertFault_any (w : World) (p : CP) (C : Crt) (hC : HasC w p C) (ok : OkC C) :
    Calls Try.prog 44 #[.agg (crt p C)] w fun e w' => e = .returned (.int .i64 (cerF C)) ∧ Below w.heap.size w w' := by
  have n1 : Below w.heap.size w (w.alloc (.cells (crt p C) 59)) := (Below.refl _ _).alloc (Nat.le_refl _) _
  have BF := hide (l11First_any (w.alloc (.cells (crt p C) 59)) p C 10 (by omega) (hC.up n1) ok)
  have EQ : Hid (cerF C = fstR C 10 1) := rfl
  have N1 := hide n1
  generalize fstR C 10 1 = z at *
  clear n1 hC ok
  obtain ⟨ser, iss, sub, frm, unt, key, hos, aut, lim, use, prm, exc, sig⟩ := C
  obtain ⟨a0, c0, g0, a5, c5, g5, a6, c6, g6, a10, c10, g10, a11, c11, g11, a12, c12, g12⟩ := p
  simp only [crt] at BF N1 ⊢
  rw [show ((10 : Nat) : Int) = 10 from rfl] at BF
  go_enter Try.func44, Try.ntmps44
  go_wp2_with fail
  refine BF.out.mono ?_
  rintro e w2 ⟨rfl, n2⟩
  have n3 := hide (nxt N1.out n2)
  clear n2
  go_wp2
  go_ret
  exact ⟨by rw [EQ.out]; rfl, n3.out⟩
end Go.Proofs.Ytheggghidhjplaa
