
/-
  A certificate as a value; what the program finds wrong with it.
-/
import Derived.Test.YtheggghidhjplaaCfA
namespace Go.Proofs.Ytheggghidhjplaa
open Go Go.RowKit

/-- Where a certificate's lists lie. -/
structure CP where
  (a0 : Option Addr) (c0 g0 : Nat) (a5 : Option Addr) (c5 g5 : Nat) (a6 : Option Addr) (c6 g6 : Nat) (a10 : Option Addr) (c10 g10 : Nat) (a11 : Option Addr) (c11 g11 : Nat) (a12 : Option Addr) (c12 g12 : Nat)
def crt (p : CP) (C : Crt) : Array Value := #[.slice p.a0 C.ser.length p.c0, .string ⟨⟨C.iss⟩⟩, .string ⟨⟨C.sub⟩⟩, .int .i64 C.frm, .int .i64 C.unt, .slice p.a5 C.key.length p.c5, .slice p.a6 C.hos.length p.c6, .bool C.aut, .int .i64 C.lim, .int .i64 C.use, .slice p.a10 C.prm.length p.c10, .slice p.a11 C.exc.length p.c11, .slice p.a12 C.sig.length p.c12]
structure HasC (w : World) (p : CP) (C : Crt) : Prop where
  ser : Rd w p.g0 p.a0 .u8 C.ser
  key : Rd w p.g5 p.a5 .u8 C.key
  hos : RdT w p.g6 p.a6 C.hos
  prm : RdT w p.g10 p.a10 C.prm
  exc : RdT w p.g11 p.a11 C.exc
  sig : Rd w p.g12 p.a12 .u8 C.sig
theorem HasC.up {w w' : World} {p : CP} {C : Crt} (h : HasC w p C) (n : Below w.heap.size w w') : HasC w' p C := ⟨h.ser.up n, h.key.up n, h.hos.up n, h.prm.up n, h.exc.up n, h.sig.up n⟩
/-- A block of thirteen cells. -/
def Thr (w : World) (b : Nat) (cs : Array Value) : Prop := ∃ t, w.heap[b]? = some (.cells cs t (0, 0))
theorem Thr.new (w : World) (cs : Array Value) (t : TypeId) : Thr (w.alloc (.cells cs t)) w.heap.size cs := ⟨t, heap_alloc_new w _⟩
theorem Thr.lt {w : World} {b : Nat} {cs : Array Value} (h : Thr w b cs) : b < w.heap.size := by
  obtain ⟨t, h⟩ := h
  exact (Array.getElem?_eq_some_iff.1 h).1
theorem Thr.up {w w' : World} {b : Nat} {cs : Array Value} (h : Thr w b cs) (n : Below w.heap.size w w') : Thr w' b cs := by
  have hl := h.lt
  obtain ⟨t, h⟩ := h
  exact ⟨t, (n.block b hl).trans h⟩
theorem Thr.cell {w : World} {b : Nat} {cs : Array Value} (h : Thr w b cs) (i : Nat) (v : Value) (hv : cs[i]? = some v) : w.cell? ⟨b, i, none⟩ = some v := by
  obtain ⟨t, h⟩ := h
  rw [cell_of_row w b i cs t (0, 0) h, hv]
theorem len_ne {n : Nat} {k : Nat} (h : n ≠ k) : ((n : Int) == (k : Int)) = false := by
  rw [beq_eq_false_iff_ne]
  omega
theorem band4 {u : Int} (h1 : 1 ≤ u) (h2 : u ≤ 7) : (bits .and .i64 u 4 != 0) = decide (4 ≤ u) := by
  have : u = 1 ∨ u = 2 ∨ u = 3 ∨ u = 4 ∨ u = 5 ∨ u = 6 ∨ u = 7 := by omega
  rcases this with rfl | rfl | rfl | rfl | rfl | rfl | rfl <;> rfl
theorem bodF_eq (C : Crt) : bodF C = if r1 C = true then (if ttl C.iss = true then (if ttl C.sub = true then (if r4 C = true then (if r5 C = true then (if ris patF C.hos = true then (if r7 C = true then (if r8 C = true then (if r9 C = true then 0 else 9) else 8) else 7) else 6) else 5) else 4) else 3) else 2) else 1 := rfl
set_option maxHeartbeats 4000000 in
theorem withinLimits_any (w : World) (p : CP) (C : Crt) :
    Calls Try.prog 120 #[.agg (crt p C)] w fun e w' => e = .returned (.bool (r7 C)) ∧ Below w.heap.size w w' := by
  obtain ⟨ser, iss, sub, frm, unt, key, hos, aut, lim, use, prm, exc, sig⟩ := C
  obtain ⟨a0, c0, g0, a5, c5, g5, a6, c6, g6, a10, c10, g10, a11, c11, g11, a12, c12, g12⟩ := p
  have n1 : Below w.heap.size w (w.alloc (.cells #[.slice a0 ser.length c0, .string ⟨⟨iss⟩⟩, .string ⟨⟨sub⟩⟩, .int .i64 frm, .int .i64 unt, .slice a5 key.length c5, .slice a6 hos.length c6, .bool aut, .int .i64 lim, .int .i64 use, .slice a10 prm.length c10, .slice a11 exc.length c11, .slice a12 sig.length c12] 59)) := (Below.refl _ _).alloc (Nat.le_refl _) _
  simp only [crt]
  cases aut with
  | true =>
    by_cases h1 : -1 ≤ lim
    · have d1 : decide (-1 ≤ lim) = true := decide_eq_true h1
      have EQ : Hid (r7 ⟨ser, iss, sub, frm, unt, key, hos, true, lim, use, prm, exc, sig⟩ = decide (lim ≤ 16)) := by
        show _ = _
        simp only [r7, d1, Bool.true_and, Bool.true_or, Bool.and_true]
      clear h1
      go_enter Try.func120, Try.ntmps120
      go_wp2
      go_ret
      exact ⟨by rw [EQ.out]; rfl, n1⟩
    · have d1 : decide (-1 ≤ lim) = false := decide_eq_false h1
      have EQ : Hid (r7 ⟨ser, iss, sub, frm, unt, key, hos, true, lim, use, prm, exc, sig⟩ = false) := by
        show _ = _
        simp only [r7, d1, Bool.false_and]
      clear h1
      go_enter Try.func120, Try.ntmps120
      go_wp2
      go_ret
      exact ⟨by rw [EQ.out]; rfl, n1⟩
  | false =>
    by_cases h1 : lim = -1
    · have d1 : (lim == -1) = true := by rw [h1]; rfl
      by_cases h2 : prm.length = 0
      · have d2 : ((prm.length : Int) == 0) = true := by rw [h2]; rfl
        have EQ : Hid (r7 ⟨ser, iss, sub, frm, unt, key, hos, false, lim, use, prm, exc, sig⟩ = ((exc.length : Int) == 0)) := by
          show _ = _
          simp only [r7, h1, h2]
          by_cases h3 : exc.length = 0
          · rw [h3]; rfl
          · have := len_ne h3
            rw [decide_eq_false h3, show ((0 : Nat) : Int) = 0 from rfl] at *
            rw [this]
            rfl
        clear h1 h2
        go_enter Try.func120, Try.ntmps120
        go_wp2
        go_ret
        exact ⟨by rw [EQ.out]; rfl, n1⟩
      · have d2 : ((prm.length : Int) == 0) = false := len_ne h2
        have EQ : Hid (r7 ⟨ser, iss, sub, frm, unt, key, hos, false, lim, use, prm, exc, sig⟩ = false) := by
          show _ = _
          simp only [r7, decide_eq_false h2, Bool.and_false, Bool.false_and, Bool.or_false]
        clear h1 h2
        go_enter Try.func120, Try.ntmps120
        go_wp2
        go_ret
        exact ⟨by rw [EQ.out]; rfl, n1⟩
    · have d1 : (lim == -1) = false := by simpa using h1
      have EQ : Hid (r7 ⟨ser, iss, sub, frm, unt, key, hos, false, lim, use, prm, exc, sig⟩ = false) := by
        show _ = _
        simp only [r7, decide_eq_false h1, Bool.and_false, Bool.false_and, Bool.or_false]
      clear h1
      go_enter Try.func120, Try.ntmps120
      go_wp2
      go_ret
      exact ⟨by rw [EQ.out]; rfl, n1⟩
set_option maxHeartbeats 16000000 in
theorem bodyFault_any (w : World) (p : CP) (C : Crt) (hC : HasC w p C) (ok : OkC C) :
    Calls Try.prog 90 #[.agg (crt p C)] w fun e w' => e = .returned (.int .i64 (bodF C)) ∧ Below w.heap.size w w' := by
  have EQ := hide (bodF_eq C)
  have WL0 := fun W => withinLimits_any W p C
  obtain ⟨ser, iss, sub, frm, unt, key, hos, aut, lim, use, prm, exc, sig⟩ := C
  obtain ⟨a0, c0, g0, a5, c5, g5, a6, c6, g6, a10, c10, g10, a11, c11, g11, a12, c12, g12⟩ := p
  simp only [crt] at WL0 ⊢
  obtain ⟨b1, hb1⟩ : ∃ b, b = r1 ⟨ser, iss, sub, frm, unt, key, hos, aut, lim, use, prm, exc, sig⟩ := ⟨_, rfl⟩
  obtain ⟨b4, hb4⟩ : ∃ b, b = r4 ⟨ser, iss, sub, frm, unt, key, hos, aut, lim, use, prm, exc, sig⟩ := ⟨_, rfl⟩
  obtain ⟨b5, hb5⟩ : ∃ b, b = r5 ⟨ser, iss, sub, frm, unt, key, hos, aut, lim, use, prm, exc, sig⟩ := ⟨_, rfl⟩
  obtain ⟨b7, hb7⟩ : ∃ b, b = r7 ⟨ser, iss, sub, frm, unt, key, hos, aut, lim, use, prm, exc, sig⟩ := ⟨_, rfl⟩
  obtain ⟨b8, hb8⟩ : ∃ b, b = r8 ⟨ser, iss, sub, frm, unt, key, hos, aut, lim, use, prm, exc, sig⟩ := ⟨_, rfl⟩
  obtain ⟨bn, hbn⟩ : ∃ b, b = r9 ⟨ser, iss, sub, frm, unt, key, hos, aut, lim, use, prm, exc, sig⟩ := ⟨_, rfl⟩
  rw [← hb1, ← hb4, ← hb5, ← hb7, ← hb8, ← hbn] at EQ
  have hbn' : bn = (ris nameF prm && ris nameF exc) := hbn
  clear hbn
  rw [← hb7] at WL0
  obtain ⟨q1, q2, q3, q4, q5, q6⟩ := hC
  have okH := ok.hosM
  have okP := ok.prmM
  have okE := ok.excM
  have lH := ok.hos
  have lP := ok.prm
  have lE := ok.exc
  have lI := ok.iss
  have lS := ok.sub
  simp only at q1 q2 q3 q4 q5 q6 okH okP okE lH lP lE lI lS EQ
  have n1 : Hid (Below w.heap.size w (w.alloc (.cells #[.slice a0 ser.length c0, .string ⟨⟨iss⟩⟩, .string ⟨⟨sub⟩⟩, .int .i64 frm, .int .i64 unt, .slice a5 key.length c5, .slice a6 hos.length c6, .bool aut, .int .i64 lim, .int .i64 use, .slice a10 prm.length c10, .slice a11 exc.length c11, .slice a12 sig.length c12] 59))) := (Below.refl _ _).alloc (Nat.le_refl _) _
  have TH := hide (Thr.new w #[.slice a0 ser.length c0, .string ⟨⟨iss⟩⟩, .string ⟨⟨sub⟩⟩, .int .i64 frm, .int .i64 unt, .slice a5 key.length c5, .slice a6 hos.length c6, .bool aut, .int .i64 lim, .int .i64 use, .slice a10 prm.length c10, .slice a11 exc.length c11, .slice a12 sig.length c12] 59)
  have IS := hide (isSerial_any (w.alloc (.cells #[.slice a0 ser.length c0, .string ⟨⟨iss⟩⟩, .string ⟨⟨sub⟩⟩, .int .i64 frm, .int .i64 unt, .slice a5 key.length c5, .slice a6 hos.length c6, .bool aut, .int .i64 lim, .int .i64 use, .slice a10 prm.length c10, .slice a11 exc.length c11, .slice a12 sig.length c12] 59)) g0 a0 c0 ser (q1.up n1.out))
  have IS' : Hid (Calls Try.prog 116 #[.slice a0 ser.length c0] (w.alloc (.cells #[.slice a0 ser.length c0, .string ⟨⟨iss⟩⟩, .string ⟨⟨sub⟩⟩, .int .i64 frm, .int .i64 unt, .slice a5 key.length c5, .slice a6 hos.length c6, .bool aut, .int .i64 lim, .int .i64 use, .slice a10 prm.length c10, .slice a11 exc.length c11, .slice a12 sig.length c12] 59)) fun e w' => e = .returned (.bool b1) ∧ w' = (w.alloc (.cells #[.slice a0 ser.length c0, .string ⟨⟨iss⟩⟩, .string ⟨⟨sub⟩⟩, .int .i64 frm, .int .i64 unt, .slice a5 key.length c5, .slice a6 hos.length c6, .bool aut, .int .i64 lim, .int .i64 use, .slice a10 prm.length c10, .slice a11 exc.length c11, .slice a12 sig.length c12] 59))) := by
    rw [hb1]
    exact IS.out
  have TI := hide (isTitle_any (w.alloc (.cells #[.slice a0 ser.length c0, .string ⟨⟨iss⟩⟩, .string ⟨⟨sub⟩⟩, .int .i64 frm, .int .i64 unt, .slice a5 key.length c5, .slice a6 hos.length c6, .bool aut, .int .i64 lim, .int .i64 use, .slice a10 prm.length c10, .slice a11 exc.length c11, .slice a12 sig.length c12] 59)) iss lI)
  have TS := hide (isTitle_any (w.alloc (.cells #[.slice a0 ser.length c0, .string ⟨⟨iss⟩⟩, .string ⟨⟨sub⟩⟩, .int .i64 frm, .int .i64 unt, .slice a5 key.length c5, .slice a6 hos.length c6, .bool aut, .int .i64 lim, .int .i64 use, .slice a10 prm.length c10, .slice a11 exc.length c11, .slice a12 sig.length c12] 59)) sub lS)
  have IK : Hid (Calls Try.prog 118 #[.slice a5 key.length c5] (w.alloc (.cells #[.slice a0 ser.length c0, .string ⟨⟨iss⟩⟩, .string ⟨⟨sub⟩⟩, .int .i64 frm, .int .i64 unt, .slice a5 key.length c5, .slice a6 hos.length c6, .bool aut, .int .i64 lim, .int .i64 use, .slice a10 prm.length c10, .slice a11 exc.length c11, .slice a12 sig.length c12] 59)) fun e w' => e = .returned (.bool b5) ∧ w' = (w.alloc (.cells #[.slice a0 ser.length c0, .string ⟨⟨iss⟩⟩, .string ⟨⟨sub⟩⟩, .int .i64 frm, .int .i64 unt, .slice a5 key.length c5, .slice a6 hos.length c6, .bool aut, .int .i64 lim, .int .i64 use, .slice a10 prm.length c10, .slice a11 exc.length c11, .slice a12 sig.length c12] 59))) := by
    rw [hb5]
    exact isField_any (w.alloc (.cells #[.slice a0 ser.length c0, .string ⟨⟨iss⟩⟩, .string ⟨⟨sub⟩⟩, .int .i64 frm, .int .i64 unt, .slice a5 key.length c5, .slice a6 hos.length c6, .bool aut, .int .i64 lim, .int .i64 use, .slice a10 prm.length c10, .slice a11 exc.length c11, .slice a12 sig.length c12] 59)) a5 c5 key.length
  have RH := hide (risP_any (w.alloc (.cells #[.slice a0 ser.length c0, .string ⟨⟨iss⟩⟩, .string ⟨⟨sub⟩⟩, .int .i64 frm, .int .i64 unt, .slice a5 key.length c5, .slice a6 hos.length c6, .bool aut, .int .i64 lim, .int .i64 use, .slice a10 prm.length c10, .slice a11 exc.length c11, .slice a12 sig.length c12] 59)) g6 a6 c6 hos (q3.up n1.out) okH lH)
  have WL := hide (WL0 (w.alloc (.cells #[.slice a0 ser.length c0, .string ⟨⟨iss⟩⟩, .string ⟨⟨sub⟩⟩, .int .i64 frm, .int .i64 unt, .slice a5 key.length c5, .slice a6 hos.length c6, .bool aut, .int .i64 lim, .int .i64 use, .slice a10 prm.length c10, .slice a11 exc.length c11, .slice a12 sig.length c12] 59)))
  have RP := hide (fun W (h : RdT W g10 a10 prm) => risN_any W g10 a10 c10 prm h okP lP)
  have RE := hide (fun W (h : RdT W g11 a11 exc) => risN_any W g11 a11 c11 exc h okE lE)
  have Q4 := hide (fun W (h : Below w.heap.size w W) => q4.up h)
  have Q5 := hide (fun W (h : Below w.heap.size w W) => q5.up h)
  generalize ttl iss = b2 at *
  generalize ttl sub = b3 at *
  generalize ris patF hos = b6 at *
  generalize ris nameF prm = b9 at *
  generalize ris nameF exc = b0 at *
  have HN9 := hide hbn'
  clear hbn'
  clear IS WL0 q1 q2 q3 q4 q5 q6 okH okP okE lH lP lE lI lS ok hb1 hb5 hb7
  cases b1 with
  | false =>
    go_enter Try.func90, Try.ntmps90
    go_wp2_with fail
    refine IS'.out.mono ?_
    rintro e w1 ⟨rfl, h1⟩
    subst h1
    go_wp2
    go_ret
    exact ⟨by rw [EQ.out]; rfl, n1.out⟩
  | true =>
    cases b2 with
    | false =>
      go_enter Try.func90, Try.ntmps90
      go_wp2_with fail
      refine IS'.out.mono ?_
      rintro e w1 ⟨rfl, h1⟩
      subst h1
      go_wp2_with fail
      refine TI.out.mono ?_
      rintro e w1 ⟨rfl, h1⟩
      subst h1
      go_wp2
      go_ret
      exact ⟨by rw [EQ.out]; rfl, n1.out⟩
    | true =>
      cases b3 with
      | false =>
        go_enter Try.func90, Try.ntmps90
        go_wp2_with fail
        refine IS'.out.mono ?_
        rintro e w1 ⟨rfl, h1⟩
        subst h1
        go_wp2_with fail
        refine TI.out.mono ?_
        rintro e w1 ⟨rfl, h1⟩
        subst h1
        go_wp2_with fail
        refine TS.out.mono ?_
        rintro e w1 ⟨rfl, h1⟩
        subst h1
        go_wp2
        go_ret
        exact ⟨by rw [EQ.out]; rfl, n1.out⟩
      | true =>
        cases b4 with
        | false =>
          have h4 : frm < 0 ∨ (¬ frm < 0 ∧ unt < frm) ∨ (¬ frm < 0 ∧ ¬ unt < frm ∧ 253402300799 < unt) := by
            have := hb4.symm
            simp only [r4, Bool.and_eq_false_iff, decide_eq_false_iff_not] at this
            omega
          clear hb4 hb8
          rcases h4 with h4 | ⟨h4, h5⟩ | ⟨h4, h5, h6⟩
          · have d1 : decide (frm < 0) = true := decide_eq_true h4
            clear h4
            go_enter Try.func90, Try.ntmps90
            go_wp2_with fail
            refine IS'.out.mono ?_
            rintro e w1 ⟨rfl, h1⟩
            subst h1
            go_wp2_with fail
            refine TI.out.mono ?_
            rintro e w1 ⟨rfl, h1⟩
            subst h1
            go_wp2_with fail
            refine TS.out.mono ?_
            rintro e w1 ⟨rfl, h1⟩
            subst h1
            go_wp2
            go_ret
            exact ⟨by rw [EQ.out]; rfl, n1.out⟩
          · have d1 : decide (frm < 0) = false := decide_eq_false h4
            have d2 : decide (unt < frm) = true := decide_eq_true h5
            clear h4 h5
            go_enter Try.func90, Try.ntmps90
            go_wp2_with fail
            refine IS'.out.mono ?_
            rintro e w1 ⟨rfl, h1⟩
            subst h1
            go_wp2_with fail
            refine TI.out.mono ?_
            rintro e w1 ⟨rfl, h1⟩
            subst h1
            go_wp2_with fail
            refine TS.out.mono ?_
            rintro e w1 ⟨rfl, h1⟩
            subst h1
            go_wp2
            go_ret
            exact ⟨by rw [EQ.out]; rfl, n1.out⟩
          · have d1 : decide (frm < 0) = false := decide_eq_false h4
            have d2 : decide (unt < frm) = false := decide_eq_false h5
            have d3 : decide (253402300799 < unt) = true := decide_eq_true h6
            clear h4 h5 h6
            go_enter Try.func90, Try.ntmps90
            go_wp2_with fail
            refine IS'.out.mono ?_
            rintro e w1 ⟨rfl, h1⟩
            subst h1
            go_wp2_with fail
            refine TI.out.mono ?_
            rintro e w1 ⟨rfl, h1⟩
            subst h1
            go_wp2_with fail
            refine TS.out.mono ?_
            rintro e w1 ⟨rfl, h1⟩
            subst h1
            go_wp2
            go_ret
            exact ⟨by rw [EQ.out]; rfl, n1.out⟩
        | true =>
          have h4 : ¬ frm < 0 ∧ ¬ unt < frm ∧ ¬ 253402300799 < unt := by
            have := hb4.symm
            simp only [r4, Bool.and_eq_true, decide_eq_true_eq] at this
            omega
          have d1 : decide (frm < 0) = false := decide_eq_false h4.1
          have d2 : decide (unt < frm) = false := decide_eq_false h4.2.1
          have d3 : decide (253402300799 < unt) = false := decide_eq_false h4.2.2
          clear hb4 h4
          cases b5 with
          | false =>
            go_enter Try.func90, Try.ntmps90
            go_wp2_with fail
            refine IS'.out.mono ?_
            rintro e w1 ⟨rfl, h1⟩
            subst h1
            go_wp2_with fail
            refine TI.out.mono ?_
            rintro e w1 ⟨rfl, h1⟩
            subst h1
            go_wp2_with fail
            refine TS.out.mono ?_
            rintro e w1 ⟨rfl, h1⟩
            subst h1
            go_wp2_with fail
            refine IK.out.mono ?_
            rintro e w1 ⟨rfl, h1⟩
            subst h1
            go_wp2
            go_ret
            exact ⟨by rw [EQ.out]; rfl, n1.out⟩
          | true =>
            cases b6 with
            | false =>
              go_enter Try.func90, Try.ntmps90
              go_wp2_with fail
              refine IS'.out.mono ?_
              rintro e w1 ⟨rfl, h1⟩
              subst h1
              go_wp2_with fail
              refine TI.out.mono ?_
              rintro e w1 ⟨rfl, h1⟩
              subst h1
              go_wp2_with fail
              refine TS.out.mono ?_
              rintro e w1 ⟨rfl, h1⟩
              subst h1
              go_wp2_with fail
              refine IK.out.mono ?_
              rintro e w1 ⟨rfl, h1⟩
              subst h1
              go_wp2_with fail
              refine RH.out.mono ?_
              rintro e w1 ⟨rfl, h1⟩
              subst h1
              go_wp2
              go_ret
              exact ⟨by rw [EQ.out]; rfl, n1.out⟩
            | true =>
              cases b7 with
              | false =>
                go_enter Try.func90, Try.ntmps90
                go_wp2_with fail
                refine IS'.out.mono ?_
                rintro e w1 ⟨rfl, h1⟩
                subst h1
                go_wp2_with fail
                refine TI.out.mono ?_
                rintro e w1 ⟨rfl, h1⟩
                subst h1
                go_wp2_with fail
                refine TS.out.mono ?_
                rintro e w1 ⟨rfl, h1⟩
                subst h1
                go_wp2_with fail
                refine IK.out.mono ?_
                rintro e w1 ⟨rfl, h1⟩
                subst h1
                go_wp2_with fail
                refine RH.out.mono ?_
                rintro e w1 ⟨rfl, h1⟩
                subst h1
                go_wp2_with fail
                refine WL.out.mono ?_
                rintro e w2 ⟨rfl, n2⟩
                have n3 := hide (nxt n1.out n2)
                have T2 := TH.out.up n2
                have k7 := T2.cell 7 _ rfl
                have k9 := T2.cell 9 _ rfl
                have k10 := T2.cell 10 _ rfl
                have k11 := T2.cell 11 _ rfl
                clear n2 T2
                go_wp2
                go_ret
                exact ⟨by rw [EQ.out]; rfl, n3.out⟩
              | true =>
                cases b8 with
                | false =>
                  have h8 : use < 1 ∨ (¬ use < 1 ∧ 7 < use) ∨ (¬ use < 1 ∧ ¬ 7 < use ∧ decide (4 ≤ use) = !aut) := by
                    have := hb8.symm
                    simp only [r8] at this
                    by_cases u1 : use < 1
                    · exact .inl u1
                    · by_cases u2 : 7 < use
                      · exact .inr (.inl ⟨u1, u2⟩)
                      · refine .inr (.inr ⟨u1, u2, ?_⟩)
                        rw [decide_eq_true (show 1 ≤ use by omega), decide_eq_true (show use ≤ 7 by omega)] at this
                        revert this
                        generalize decide (4 ≤ use) = x
                        cases x <;> cases aut <;> simp
                  clear hb8
                  rcases h8 with h8 | ⟨h8, h9⟩ | ⟨h8, h9, h10⟩
                  · have e1 : decide (use < 1) = true := decide_eq_true h8
                    clear h8
                    go_enter Try.func90, Try.ntmps90
                    go_wp2_with fail
                    refine IS'.out.mono ?_
                    rintro e w1 ⟨rfl, h1⟩
                    subst h1
                    go_wp2_with fail
                    refine TI.out.mono ?_
                    rintro e w1 ⟨rfl, h1⟩
                    subst h1
                    go_wp2_with fail
                    refine TS.out.mono ?_
                    rintro e w1 ⟨rfl, h1⟩
                    subst h1
                    go_wp2_with fail
                    refine IK.out.mono ?_
                    rintro e w1 ⟨rfl, h1⟩
                    subst h1
                    go_wp2_with fail
                    refine RH.out.mono ?_
                    rintro e w1 ⟨rfl, h1⟩
                    subst h1
                    go_wp2_with fail
                    refine WL.out.mono ?_
                    rintro e w2 ⟨rfl, n2⟩
                    have n3 := hide (nxt n1.out n2)
                    have T2 := TH.out.up n2
                    have k7 := T2.cell 7 _ rfl
                    have k9 := T2.cell 9 _ rfl
                    have k10 := T2.cell 10 _ rfl
                    have k11 := T2.cell 11 _ rfl
                    clear n2 T2
                    go_wp2
                    go_ret
                    exact ⟨by rw [EQ.out]; rfl, n3.out⟩
                  · have e1 : decide (use < 1) = false := decide_eq_false h8
                    have e2 : decide (7 < use) = true := decide_eq_true h9
                    clear h8 h9
                    go_enter Try.func90, Try.ntmps90
                    go_wp2_with fail
                    refine IS'.out.mono ?_
                    rintro e w1 ⟨rfl, h1⟩
                    subst h1
                    go_wp2_with fail
                    refine TI.out.mono ?_
                    rintro e w1 ⟨rfl, h1⟩
                    subst h1
                    go_wp2_with fail
                    refine TS.out.mono ?_
                    rintro e w1 ⟨rfl, h1⟩
                    subst h1
                    go_wp2_with fail
                    refine IK.out.mono ?_
                    rintro e w1 ⟨rfl, h1⟩
                    subst h1
                    go_wp2_with fail
                    refine RH.out.mono ?_
                    rintro e w1 ⟨rfl, h1⟩
                    subst h1
                    go_wp2_with fail
                    refine WL.out.mono ?_
                    rintro e w2 ⟨rfl, n2⟩
                    have n3 := hide (nxt n1.out n2)
                    have T2 := TH.out.up n2
                    have k7 := T2.cell 7 _ rfl
                    have k9 := T2.cell 9 _ rfl
                    have k10 := T2.cell 10 _ rfl
                    have k11 := T2.cell 11 _ rfl
                    clear n2 T2
                    go_wp2
                    go_ret
                    exact ⟨by rw [EQ.out]; rfl, n3.out⟩
                  · have e1 : decide (use < 1) = false := decide_eq_false h8
                    have e2 : decide (7 < use) = false := decide_eq_false h9
                    have e3 := band4 (u := use) (by omega) (by omega)
                    rw [h10] at e3
                    clear h8 h9 h10
                    cases aut
                    all_goals
                      go_enter Try.func90, Try.ntmps90
                      go_wp2_with fail
                      refine IS'.out.mono ?_
                      rintro e w1 ⟨rfl, h1⟩
                      subst h1
                      go_wp2_with fail
                      refine TI.out.mono ?_
                      rintro e w1 ⟨rfl, h1⟩
                      subst h1
                      go_wp2_with fail
                      refine TS.out.mono ?_
                      rintro e w1 ⟨rfl, h1⟩
                      subst h1
                      go_wp2_with fail
                      refine IK.out.mono ?_
                      rintro e w1 ⟨rfl, h1⟩
                      subst h1
                      go_wp2_with fail
                      refine RH.out.mono ?_
                      rintro e w1 ⟨rfl, h1⟩
                      subst h1
                      go_wp2_with fail
                      refine WL.out.mono ?_
                      rintro e w2 ⟨rfl, n2⟩
                      have n3 := hide (nxt n1.out n2)
                      have T2 := TH.out.up n2
                      have k7 := T2.cell 7 _ rfl
                      have k9 := T2.cell 9 _ rfl
                      have k10 := T2.cell 10 _ rfl
                      have k11 := T2.cell 11 _ rfl
                      clear n2 T2
                      go_wp2
                      go_ret
                      exact ⟨by rw [EQ.out]; rfl, n3.out⟩
                | true =>
                  have h8 : ¬ use < 1 ∧ ¬ 7 < use ∧ decide (4 ≤ use) = aut := by
                    have := hb8.symm
                    simp only [r8, Bool.and_eq_true, decide_eq_true_eq, beq_iff_eq] at this
                    exact ⟨by omega, by omega, this.2⟩
                  have e1 : decide (use < 1) = false := decide_eq_false h8.1
                  have e2 : decide (7 < use) = false := decide_eq_false h8.2.1
                  have e3 := band4 (u := use) (by omega) (by omega)
                  rw [h8.2.2] at e3
                  clear hb8 h8
                  cases b9 with
                  | false =>
                    obtain rfl : bn = false := HN9.out
                    cases aut
                    all_goals
                      go_enter Try.func90, Try.ntmps90
                      go_wp2_with fail
                      refine IS'.out.mono ?_
                      rintro e w1 ⟨rfl, h1⟩
                      subst h1
                      go_wp2_with fail
                      refine TI.out.mono ?_
                      rintro e w1 ⟨rfl, h1⟩
                      subst h1
                      go_wp2_with fail
                      refine TS.out.mono ?_
                      rintro e w1 ⟨rfl, h1⟩
                      subst h1
                      go_wp2_with fail
                      refine IK.out.mono ?_
                      rintro e w1 ⟨rfl, h1⟩
                      subst h1
                      go_wp2_with fail
                      refine RH.out.mono ?_
                      rintro e w1 ⟨rfl, h1⟩
                      subst h1
                      go_wp2_with fail
                      refine WL.out.mono ?_
                      rintro e w2 ⟨rfl, n2⟩
                      have n3 := hide (nxt n1.out n2)
                      have T2 := TH.out.up n2
                      have k7 := T2.cell 7 _ rfl
                      have k9 := T2.cell 9 _ rfl
                      have k10 := T2.cell 10 _ rfl
                      have k11 := T2.cell 11 _ rfl
                      clear n2 T2
                      go_wp2_with fail
                      refine (RP.out w2 (Q4.out w2 n3.out)).mono ?_
                      rintro e w1 ⟨rfl, h1⟩
                      have h1' := h1.symm
                      subst h1'
                      go_wp2
                      go_ret
                      exact ⟨by rw [EQ.out]; rfl, n3.out⟩
                  | true =>
                    cases b0 with
                    | false =>
                      obtain rfl : bn = false := HN9.out
                      cases aut
                      all_goals
                        go_enter Try.func90, Try.ntmps90
                        go_wp2_with fail
                        refine IS'.out.mono ?_
                        rintro e w1 ⟨rfl, h1⟩
                        subst h1
                        go_wp2_with fail
                        refine TI.out.mono ?_
                        rintro e w1 ⟨rfl, h1⟩
                        subst h1
                        go_wp2_with fail
                        refine TS.out.mono ?_
                        rintro e w1 ⟨rfl, h1⟩
                        subst h1
                        go_wp2_with fail
                        refine IK.out.mono ?_
                        rintro e w1 ⟨rfl, h1⟩
                        subst h1
                        go_wp2_with fail
                        refine RH.out.mono ?_
                        rintro e w1 ⟨rfl, h1⟩
                        subst h1
                        go_wp2_with fail
                        refine WL.out.mono ?_
                        rintro e w2 ⟨rfl, n2⟩
                        have n3 := hide (nxt n1.out n2)
                        have T2 := TH.out.up n2
                        have k7 := T2.cell 7 _ rfl
                        have k9 := T2.cell 9 _ rfl
                        have k10 := T2.cell 10 _ rfl
                        have k11 := T2.cell 11 _ rfl
                        clear n2 T2
                        go_wp2_with fail
                        refine (RP.out w2 (Q4.out w2 n3.out)).mono ?_
                        rintro e w1 ⟨rfl, h1⟩
                        have h1' := h1.symm
                        subst h1'
                        go_wp2_with fail
                        refine (RE.out w2 (Q5.out w2 n3.out)).mono ?_
                        rintro e w1 ⟨rfl, h1⟩
                        have h1' := h1.symm
                        subst h1'
                        go_wp2
                        go_ret
                        exact ⟨by rw [EQ.out]; rfl, n3.out⟩
                    | true =>
                      obtain rfl : bn = true := HN9.out
                      cases aut
                      all_goals
                        go_enter Try.func90, Try.ntmps90
                        go_wp2_with fail
                        refine IS'.out.mono ?_
                        rintro e w1 ⟨rfl, h1⟩
                        subst h1
                        go_wp2_with fail
                        refine TI.out.mono ?_
                        rintro e w1 ⟨rfl, h1⟩
                        subst h1
                        go_wp2_with fail
                        refine TS.out.mono ?_
                        rintro e w1 ⟨rfl, h1⟩
                        subst h1
                        go_wp2_with fail
                        refine IK.out.mono ?_
                        rintro e w1 ⟨rfl, h1⟩
                        subst h1
                        go_wp2_with fail
                        refine RH.out.mono ?_
                        rintro e w1 ⟨rfl, h1⟩
                        subst h1
                        go_wp2_with fail
                        refine WL.out.mono ?_
                        rintro e w2 ⟨rfl, n2⟩
                        have n3 := hide (nxt n1.out n2)
                        have T2 := TH.out.up n2
                        have k7 := T2.cell 7 _ rfl
                        have k9 := T2.cell 9 _ rfl
                        have k10 := T2.cell 10 _ rfl
                        have k11 := T2.cell 11 _ rfl
                        clear n2 T2
                        go_wp2_with fail
                        refine (RP.out w2 (Q4.out w2 n3.out)).mono ?_
                        rintro e w1 ⟨rfl, h1⟩
                        have h1' := h1.symm
                        subst h1'
                        go_wp2_with fail
                        refine (RE.out w2 (Q5.out w2 n3.out)).mono ?_
                        rintro e w1 ⟨rfl, h1⟩
                        have h1' := h1.symm
                        subst h1'
                        go_wp2
                        go_ret
                        exact ⟨by rw [EQ.out]; rfl, n3.out⟩
set_option maxHeartbeats 4000000 in
theorem implCertFault_any (w : World) (p : CP) (C : Crt) (hC : HasC w p C) (ok : OkC C) :
    Calls Try.prog 46 #[.agg (crt p C)] w fun e w' => e = .returned (.int .i64 (cerF C)) ∧ Below w.heap.size w w' := by
  have EQ := hide (cerF_eq C)
  have n1 : Below w.heap.size w (w.alloc (.cells (crt p C) 59)) := (Below.refl _ _).alloc (Nat.le_refl _) _
  have BF := hide (bodyFault_any (w.alloc (.cells (crt p C) 59)) p C (hC.up n1) ok)
  have TH := hide (Thr.new w (crt p C) 59)
  have N1 := hide n1
  generalize bodF C = z at *
  clear n1 hC ok
  obtain ⟨ser, iss, sub, frm, unt, key, hos, aut, lim, use, prm, exc, sig⟩ := C
  obtain ⟨a0, c0, g0, a5, c5, g5, a6, c6, g6, a10, c10, g10, a11, c11, g11, a12, c12, g12⟩ := p
  simp only [crt] at BF TH N1 ⊢
  by_cases hz : z = 0
  · subst hz
    have E2 : Hid (cerF ⟨ser, iss, sub, frm, unt, key, hos, aut, lim, use, prm, exc, sig⟩ = if sig.length = 64 then 0 else 10) := by
      show _ = _
      rw [EQ.out, if_pos rfl]
      simp only [r10, decide_eq_true_eq]
    by_cases h2 : sig.length = 64
    · rw [if_pos h2] at E2
      have d2 : ((sig.length : Int) == 64) = true := by rw [h2]; rfl
      have d3 : ((sig.length : Int) != 64) = false := by rw [h2]; rfl
      clear h2 EQ
      go_enter Try.func46, Try.ntmps46
      go_wp2_with fail
      refine BF.out.mono ?_
      rintro e w2 ⟨rfl, n2⟩
      have n3 := hide (nxt N1.out n2)
      have k12 := (TH.out.up n2).cell 12 _ rfl
      clear n2
      go_wp2
      go_ret
      exact ⟨by rw [E2.out]; rfl, n3.out⟩
    · rw [if_neg h2] at E2
      have d2 : ((sig.length : Int) == 64) = false := by simp; omega
      have d3 : ((sig.length : Int) != 64) = true := by simp; omega
      clear h2 EQ
      go_enter Try.func46, Try.ntmps46
      go_wp2_with fail
      refine BF.out.mono ?_
      rintro e w2 ⟨rfl, n2⟩
      have n3 := hide (nxt N1.out n2)
      have k12 := (TH.out.up n2).cell 12 _ rfl
      clear n2
      go_wp2
      go_ret
      exact ⟨by rw [E2.out]; rfl, n3.out⟩
  · rw [if_neg hz] at EQ
    have d2 : (z == 0) = false := by simpa using hz
    clear hz
    go_enter Try.func46, Try.ntmps46
    go_wp2_with fail
    refine BF.out.mono ?_
    rintro e w2 ⟨rfl, n2⟩
    have n3 := hide (nxt N1.out n2)
    clear n2
    go_wp2
    go_ret
    exact ⟨by rw [EQ.out]; rfl, n3.out⟩
end Go.Proofs.Ytheggghidhjplaa
