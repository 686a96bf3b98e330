
/-
  The law of FnNonces.
-/
import Derived.Test.YtickbedbdpccpaaNcA
namespace Go.Proofs.Ytickbedbdpccpaa
open Go Go.RowKit

set_option maxHeartbeats 8000000 in
theorem nonces_law (w : World) (g0 : Nat) (a0 : Option Addr) (c0 : Nat) (X0 : List Int) (hX0 : Rd w g0 a0 .u8 X0) (bX0 : Byt X0) (g1 : Nat) (a1 : Option Addr) (c1 : Nat) (X1 : List Int) (hX1 : Rd w g1 a1 .u8 X1) (bX1 : Byt X1) :
    Calls Try.prog 5 #[.slice a0 X0.length c0, .slice a1 X1.length c1] w fun e w' => e = .returned (.bool true) ∧ Below w.heap.size w w' := by
  by_cases q0 : X0.length ≤ 1048576
  · have u0 : decide ((1048576 : Int) < (X0.length : Int)) = false := by simp; omega
    by_cases q1 : X1.length ≤ 1048576
    · have u1 : decide ((1048576 : Int) < (X1.length : Int)) = false := by simp; omega
      have D0 := hide (drawRN_any w g0 a0 c0 X0 hX0 bX0 q0)
      have D1 := hide fun W (m : Below w.heap.size w W) => drawRN_any W g1 a1 c1 X1 (hX1.up m) bX1 q1
      clear hX0 hX1
      go_enter Try.func5, Try.ntmps5
      go_wp2_with fail
      refine D0.out.mono ?_
      rintro e w1 ⟨ys, q, ya, yc, yg, rfl, hq0, hq1, yb, yo, N⟩
      go_wp2_with fail
      refine (D1.out w1 N).mono ?_
      rintro e w2 ⟨ys', r, ya', yc', yg', rfl, hr0, hr1, -, -, m2⟩
      replace N := nxt N m2
      replace yo := yo.up m2
      clear m2 D0 D1
      go_wp2_with fail
      refine (lw32_any w2 yg ya yc ys yo.rd).mono ?_
      rintro e w3 ⟨rfl, B3, m3⟩
      replace N := nxt N m3
      have tb := to32_byt yb
      have tl := to32_len ys
      clear yo yb
      obtain ⟨V, hV⟩ : ∃ V, V = (to32 ys).take 12 := ⟨_, rfl⟩
      have vl : V.length = 12 := by rw [hV, List.length_take]; omega
      have vb : Byt V := by
        intro i
        rw [hV, List.getD_eq_getElem?_getD, List.getElem?_take]
        split
        · have := tb i; rwa [List.getD_eq_getElem?_getD] at this
        · simp
      have RV : Rd w3 w2.heap.size (some ⟨w2.heap.size, 0, none⟩) .u8 V := (B3.own (xs := V) 0 (by omega) (fun i hi => by
        rw [Nat.zero_add, hV, List.getD_eq_getElem?_getD, List.getD_eq_getElem?_getD, List.getElem?_take, if_pos (by omega)])).rd
      obtain ⟨bv, hbv⟩ : ∃ b, b = w2.heap.size := ⟨_, rfl⟩
      rw [← hbv] at RV ⊢
      clear B3 hV tb tl m3 hbv
      -- the two numbers
      have main : ∀ A B : Int, 0 ≤ A → A ≤ 4294967295 → 0 ≤ B → B ≤ 4294967295 → Hid ((rnA V A).length = 12 ∧ (rnA V B).length = 12 ∧ (rnA V A = rnA V B ↔ A = B)) := fun A B h1 h2 h3 h4 => by
        show _ ∧ _ ∧ _
        refine ⟨by rw [rnA_good vl h1 h2, nzT_len, vl], by rw [rnA_good vl h3 h4, nzT_len, vl], fun e => rnA_inj vl vb h1 h2 h3 h4 e, fun e => by rw [e]⟩
      have LC := hide fun W (m : Below w3.heap.size w3 W) => lwCopyO_any W bv (some ⟨bv, 0, none⟩) 32 V (RV.up m) (by simp) (by omega)
      have RZ := hide (rnA_zero vl vb)
      have BY := hide fun A h1 h2 => rnA_bytN vl vb (q := A) h1 h2
      have VL := hide vl
      rw [vl] at LC
      have RV2 := RV
      clear vl RV
      by_cases k0 : q < 0
      · have t0 : decide (q < 0) = true := by simpa using k0
        obtain ⟨pl, ql, pq⟩ := (main (255) (256) (by decide) (by decide) (by decide) (by decide)).out
        have bP := BY.out (255) (by decide) (by decide)
        have bQ := BY.out (256) (by decide) (by decide)
        have IA := hide fun W g a c (h : Rd W g a .u8 V) (z : a = none → c = 0) => implNonce_any W g a c V h z (255)
        have IB := hide fun W g a c (h : Rd W g a .u8 V) (z : a = none → c = 0) => implNonce_any W g a c V h z (256)
        have IZ := hide fun W g a c (h : Rd W g a .u8 V) (z : a = none → c = 0) => implNonce_any W g a c V h z 0
        simp only [RZ.out] at IZ
        clear main BY
        generalize rnA V (255) = P at *
        generalize rnA V (256) = Q at *
        have p12 : ((P.length : Int) == 12) = true := by rw [pl]; rfl
        have p12' : decide ((P.length : Int) = 12) = true := decide_eq_true (by rw [pl]; rfl)
        have q12 : ((Q.length : Int) == 12) = true := by rw [ql]; rfl
        have q12' : decide ((Q.length : Int) = 12) = true := decide_eq_true (by rw [ql]; rfl)
        have PQ := hide pq
        clear pl ql pq
        have N3 : Below w3.heap.size w3 w3 := Below.refl _ _
        go_wp2_with fail
        refine (LC.out w3 N3).mono ?_
        rintro e x4 ⟨v4, rfl, h4, m4⟩
        have R4 : RowB x4 w3.heap.size v4 V := by unfold RowB; rw [VL.out]; exact h4
        obtain ⟨a4, c4, s4, rfl, D4, z4, -, -⟩ := R4.rd
        clear h4 R4
        replace N3 := nxt N3 m4
        go_wp2_with fail
        refine (IA.out x4 s4 a4 c4 D4 z4).mono ?_
        rintro e x5 ⟨v5, rfl, R5, m5⟩
        obtain ⟨a5, c5, s5, rfl, D5, -, -, -⟩ := R5.rd
        replace N3 := nxt N3 m5
        clear R5 m4 m5 D4 z4 IA
        go_wp2_with fail
        refine (LC.out x5 N3).mono ?_
        rintro e x6 ⟨v6, rfl, h6, m6⟩
        have R6 : RowB x6 x5.heap.size v6 V := by unfold RowB; rw [VL.out]; exact h6
        obtain ⟨a6, c6, s6, rfl, D6, z6, -, -⟩ := R6.rd
        clear h6 R6
        replace N3 := nxt N3 m6
        replace D5 := D5.up m6
        go_wp2_with fail
        refine (IB.out x6 s6 a6 c6 D6 z6).mono ?_
        rintro e x7 ⟨v7, rfl, R7, m7⟩
        obtain ⟨a7, c7, s7, rfl, D7, -, -, -⟩ := R7.rd
        replace N3 := nxt N3 m7
        replace D5 := D5.up m7
        clear R7 m6 m7 D6 z6 IB
        by_cases hAB : (255 : Int) = 256
        · have e := PQ.out.2 hAB
          have ab : ((255 : Int) == 256) = true := beq_iff_eq.2 hAB
          have ab' : decide ((255 : Int) = 256) = true := decide_eq_true hAB
          rw [← e] at D7
          have LS := lwSame_same x7 s5 s7 a5 a7 c5 c7 P D5 D7
          rw [show P.length = Q.length by rw [e]] at LS
          have PL : Hid (P.length = Q.length) := by show _ = _; rw [e]
          rw [PL.out]
          replace LS := hide LS
          clear hAB e
          go_wp2_with fail
          refine LS.out.mono ?_
          rintro e y ⟨rfl, hx⟩
          have hx := hx.symm
          subst hx
          clear LS
          go_wp2_with fail
          refine (LC.out x7 N3).mono ?_
          rintro e x8 ⟨v8, rfl, h8, m8⟩
          have R8 : RowB x8 x7.heap.size v8 V := by unfold RowB; rw [VL.out]; exact h8
          obtain ⟨a8, c8, s8, rfl, D8, z8, -, -⟩ := R8.rd
          clear h8 R8
          replace N3 := nxt N3 m8
          go_wp2_with fail
          refine (IZ.out x8 s8 a8 c8 D8 z8).mono ?_
          rintro e x9 ⟨v9, rfl, R9, m9⟩
          obtain ⟨a9, c9, s9, rfl, D9, -, -, -⟩ := R9.rd
          replace N3 := nxt N3 m9
          have LS := lwSame_same x9 s9 bv a9 (some ⟨bv, 0, none⟩) c9 32 V D9 (RV2.up N3)
          rw [VL.out] at LS ⊢
          replace LS := hide LS
          clear R9 m8 m9 D8 z8 IZ LC D9
          go_wp2_with fail
          refine LS.out.mono ?_
          rintro e x10 ⟨rfl, hx⟩
          have hx := hx.symm
          subst hx
          go_wp2
          go_ret
          exact ⟨rfl, nxt N N3⟩
        · have ab : ((255 : Int) == 256) = false := beq_eq_false_iff_ne.2 hAB
          have ab' : decide ((255 : Int) = 256) = false := decide_eq_false hAB
          have hne : P ≠ Q := fun e => hAB (PQ.out.1 e)
          clear hAB
          go_wp2_with fail
          refine (lwSame_diff x7 s5 s7 a5 a7 c5 c7 P Q D5 D7 bP bQ hne).mono ?_
          rintro e y ⟨rfl, hx⟩
          have hx := hx.symm
          subst hx
          go_wp2_with fail
          refine (LC.out x7 N3).mono ?_
          rintro e x8 ⟨v8, rfl, h8, m8⟩
          have R8 : RowB x8 x7.heap.size v8 V := by unfold RowB; rw [VL.out]; exact h8
          obtain ⟨a8, c8, s8, rfl, D8, z8, -, -⟩ := R8.rd
          clear h8 R8
          replace N3 := nxt N3 m8
          go_wp2_with fail
          refine (IZ.out x8 s8 a8 c8 D8 z8).mono ?_
          rintro e x9 ⟨v9, rfl, R9, m9⟩
          obtain ⟨a9, c9, s9, rfl, D9, -, -, -⟩ := R9.rd
          replace N3 := nxt N3 m9
          have LS := lwSame_same x9 s9 bv a9 (some ⟨bv, 0, none⟩) c9 32 V D9 (RV2.up N3)
          rw [VL.out] at LS ⊢
          replace LS := hide LS
          clear R9 m8 m9 D8 z8 IZ LC D9
          go_wp2_with fail
          refine LS.out.mono ?_
          rintro e x10 ⟨rfl, hx⟩
          have hx := hx.symm
          subst hx
          go_wp2
          go_ret
          exact ⟨rfl, nxt N N3⟩
      have t0 : decide (q < 0) = false := by simpa using k0
      by_cases k1 : 4294967295 < q
      · have t1 : decide (4294967295 < q) = true := by simpa using k1
        obtain ⟨pl, ql, pq⟩ := (main (255) (256) (by decide) (by decide) (by decide) (by decide)).out
        have bP := BY.out (255) (by decide) (by decide)
        have bQ := BY.out (256) (by decide) (by decide)
        have IA := hide fun W g a c (h : Rd W g a .u8 V) (z : a = none → c = 0) => implNonce_any W g a c V h z (255)
        have IB := hide fun W g a c (h : Rd W g a .u8 V) (z : a = none → c = 0) => implNonce_any W g a c V h z (256)
        have IZ := hide fun W g a c (h : Rd W g a .u8 V) (z : a = none → c = 0) => implNonce_any W g a c V h z 0
        simp only [RZ.out] at IZ
        clear main BY
        generalize rnA V (255) = P at *
        generalize rnA V (256) = Q at *
        have p12 : ((P.length : Int) == 12) = true := by rw [pl]; rfl
        have p12' : decide ((P.length : Int) = 12) = true := decide_eq_true (by rw [pl]; rfl)
        have q12 : ((Q.length : Int) == 12) = true := by rw [ql]; rfl
        have q12' : decide ((Q.length : Int) = 12) = true := decide_eq_true (by rw [ql]; rfl)
        have PQ := hide pq
        clear pl ql pq
        have N3 : Below w3.heap.size w3 w3 := Below.refl _ _
        go_wp2_with fail
        refine (LC.out w3 N3).mono ?_
        rintro e x4 ⟨v4, rfl, h4, m4⟩
        have R4 : RowB x4 w3.heap.size v4 V := by unfold RowB; rw [VL.out]; exact h4
        obtain ⟨a4, c4, s4, rfl, D4, z4, -, -⟩ := R4.rd
        clear h4 R4
        replace N3 := nxt N3 m4
        go_wp2_with fail
        refine (IA.out x4 s4 a4 c4 D4 z4).mono ?_
        rintro e x5 ⟨v5, rfl, R5, m5⟩
        obtain ⟨a5, c5, s5, rfl, D5, -, -, -⟩ := R5.rd
        replace N3 := nxt N3 m5
        clear R5 m4 m5 D4 z4 IA
        go_wp2_with fail
        refine (LC.out x5 N3).mono ?_
        rintro e x6 ⟨v6, rfl, h6, m6⟩
        have R6 : RowB x6 x5.heap.size v6 V := by unfold RowB; rw [VL.out]; exact h6
        obtain ⟨a6, c6, s6, rfl, D6, z6, -, -⟩ := R6.rd
        clear h6 R6
        replace N3 := nxt N3 m6
        replace D5 := D5.up m6
        go_wp2_with fail
        refine (IB.out x6 s6 a6 c6 D6 z6).mono ?_
        rintro e x7 ⟨v7, rfl, R7, m7⟩
        obtain ⟨a7, c7, s7, rfl, D7, -, -, -⟩ := R7.rd
        replace N3 := nxt N3 m7
        replace D5 := D5.up m7
        clear R7 m6 m7 D6 z6 IB
        by_cases hAB : (255 : Int) = 256
        · have e := PQ.out.2 hAB
          have ab : ((255 : Int) == 256) = true := beq_iff_eq.2 hAB
          have ab' : decide ((255 : Int) = 256) = true := decide_eq_true hAB
          rw [← e] at D7
          have LS := lwSame_same x7 s5 s7 a5 a7 c5 c7 P D5 D7
          rw [show P.length = Q.length by rw [e]] at LS
          have PL : Hid (P.length = Q.length) := by show _ = _; rw [e]
          rw [PL.out]
          replace LS := hide LS
          clear hAB e
          go_wp2_with fail
          refine LS.out.mono ?_
          rintro e y ⟨rfl, hx⟩
          have hx := hx.symm
          subst hx
          clear LS
          go_wp2_with fail
          refine (LC.out x7 N3).mono ?_
          rintro e x8 ⟨v8, rfl, h8, m8⟩
          have R8 : RowB x8 x7.heap.size v8 V := by unfold RowB; rw [VL.out]; exact h8
          obtain ⟨a8, c8, s8, rfl, D8, z8, -, -⟩ := R8.rd
          clear h8 R8
          replace N3 := nxt N3 m8
          go_wp2_with fail
          refine (IZ.out x8 s8 a8 c8 D8 z8).mono ?_
          rintro e x9 ⟨v9, rfl, R9, m9⟩
          obtain ⟨a9, c9, s9, rfl, D9, -, -, -⟩ := R9.rd
          replace N3 := nxt N3 m9
          have LS := lwSame_same x9 s9 bv a9 (some ⟨bv, 0, none⟩) c9 32 V D9 (RV2.up N3)
          rw [VL.out] at LS ⊢
          replace LS := hide LS
          clear R9 m8 m9 D8 z8 IZ LC D9
          go_wp2_with fail
          refine LS.out.mono ?_
          rintro e x10 ⟨rfl, hx⟩
          have hx := hx.symm
          subst hx
          go_wp2
          go_ret
          exact ⟨rfl, nxt N N3⟩
        · have ab : ((255 : Int) == 256) = false := beq_eq_false_iff_ne.2 hAB
          have ab' : decide ((255 : Int) = 256) = false := decide_eq_false hAB
          have hne : P ≠ Q := fun e => hAB (PQ.out.1 e)
          clear hAB
          go_wp2_with fail
          refine (lwSame_diff x7 s5 s7 a5 a7 c5 c7 P Q D5 D7 bP bQ hne).mono ?_
          rintro e y ⟨rfl, hx⟩
          have hx := hx.symm
          subst hx
          go_wp2_with fail
          refine (LC.out x7 N3).mono ?_
          rintro e x8 ⟨v8, rfl, h8, m8⟩
          have R8 : RowB x8 x7.heap.size v8 V := by unfold RowB; rw [VL.out]; exact h8
          obtain ⟨a8, c8, s8, rfl, D8, z8, -, -⟩ := R8.rd
          clear h8 R8
          replace N3 := nxt N3 m8
          go_wp2_with fail
          refine (IZ.out x8 s8 a8 c8 D8 z8).mono ?_
          rintro e x9 ⟨v9, rfl, R9, m9⟩
          obtain ⟨a9, c9, s9, rfl, D9, -, -, -⟩ := R9.rd
          replace N3 := nxt N3 m9
          have LS := lwSame_same x9 s9 bv a9 (some ⟨bv, 0, none⟩) c9 32 V D9 (RV2.up N3)
          rw [VL.out] at LS ⊢
          replace LS := hide LS
          clear R9 m8 m9 D8 z8 IZ LC D9
          go_wp2_with fail
          refine LS.out.mono ?_
          rintro e x10 ⟨rfl, hx⟩
          have hx := hx.symm
          subst hx
          go_wp2
          go_ret
          exact ⟨rfl, nxt N N3⟩
      have t1 : decide (4294967295 < q) = false := by simpa using k1
      by_cases k2 : r < 0
      · have t2 : decide (r < 0) = true := by simpa using k2
        obtain ⟨pl, ql, pq⟩ := (main (255) (256) (by decide) (by decide) (by decide) (by decide)).out
        have bP := BY.out (255) (by decide) (by decide)
        have bQ := BY.out (256) (by decide) (by decide)
        have IA := hide fun W g a c (h : Rd W g a .u8 V) (z : a = none → c = 0) => implNonce_any W g a c V h z (255)
        have IB := hide fun W g a c (h : Rd W g a .u8 V) (z : a = none → c = 0) => implNonce_any W g a c V h z (256)
        have IZ := hide fun W g a c (h : Rd W g a .u8 V) (z : a = none → c = 0) => implNonce_any W g a c V h z 0
        simp only [RZ.out] at IZ
        clear main BY
        generalize rnA V (255) = P at *
        generalize rnA V (256) = Q at *
        have p12 : ((P.length : Int) == 12) = true := by rw [pl]; rfl
        have p12' : decide ((P.length : Int) = 12) = true := decide_eq_true (by rw [pl]; rfl)
        have q12 : ((Q.length : Int) == 12) = true := by rw [ql]; rfl
        have q12' : decide ((Q.length : Int) = 12) = true := decide_eq_true (by rw [ql]; rfl)
        have PQ := hide pq
        clear pl ql pq
        have N3 : Below w3.heap.size w3 w3 := Below.refl _ _
        go_wp2_with fail
        refine (LC.out w3 N3).mono ?_
        rintro e x4 ⟨v4, rfl, h4, m4⟩
        have R4 : RowB x4 w3.heap.size v4 V := by unfold RowB; rw [VL.out]; exact h4
        obtain ⟨a4, c4, s4, rfl, D4, z4, -, -⟩ := R4.rd
        clear h4 R4
        replace N3 := nxt N3 m4
        go_wp2_with fail
        refine (IA.out x4 s4 a4 c4 D4 z4).mono ?_
        rintro e x5 ⟨v5, rfl, R5, m5⟩
        obtain ⟨a5, c5, s5, rfl, D5, -, -, -⟩ := R5.rd
        replace N3 := nxt N3 m5
        clear R5 m4 m5 D4 z4 IA
        go_wp2_with fail
        refine (LC.out x5 N3).mono ?_
        rintro e x6 ⟨v6, rfl, h6, m6⟩
        have R6 : RowB x6 x5.heap.size v6 V := by unfold RowB; rw [VL.out]; exact h6
        obtain ⟨a6, c6, s6, rfl, D6, z6, -, -⟩ := R6.rd
        clear h6 R6
        replace N3 := nxt N3 m6
        replace D5 := D5.up m6
        go_wp2_with fail
        refine (IB.out x6 s6 a6 c6 D6 z6).mono ?_
        rintro e x7 ⟨v7, rfl, R7, m7⟩
        obtain ⟨a7, c7, s7, rfl, D7, -, -, -⟩ := R7.rd
        replace N3 := nxt N3 m7
        replace D5 := D5.up m7
        clear R7 m6 m7 D6 z6 IB
        by_cases hAB : (255 : Int) = 256
        · have e := PQ.out.2 hAB
          have ab : ((255 : Int) == 256) = true := beq_iff_eq.2 hAB
          have ab' : decide ((255 : Int) = 256) = true := decide_eq_true hAB
          rw [← e] at D7
          have LS := lwSame_same x7 s5 s7 a5 a7 c5 c7 P D5 D7
          rw [show P.length = Q.length by rw [e]] at LS
          have PL : Hid (P.length = Q.length) := by show _ = _; rw [e]
          rw [PL.out]
          replace LS := hide LS
          clear hAB e
          go_wp2_with fail
          refine LS.out.mono ?_
          rintro e y ⟨rfl, hx⟩
          have hx := hx.symm
          subst hx
          clear LS
          go_wp2_with fail
          refine (LC.out x7 N3).mono ?_
          rintro e x8 ⟨v8, rfl, h8, m8⟩
          have R8 : RowB x8 x7.heap.size v8 V := by unfold RowB; rw [VL.out]; exact h8
          obtain ⟨a8, c8, s8, rfl, D8, z8, -, -⟩ := R8.rd
          clear h8 R8
          replace N3 := nxt N3 m8
          go_wp2_with fail
          refine (IZ.out x8 s8 a8 c8 D8 z8).mono ?_
          rintro e x9 ⟨v9, rfl, R9, m9⟩
          obtain ⟨a9, c9, s9, rfl, D9, -, -, -⟩ := R9.rd
          replace N3 := nxt N3 m9
          have LS := lwSame_same x9 s9 bv a9 (some ⟨bv, 0, none⟩) c9 32 V D9 (RV2.up N3)
          rw [VL.out] at LS ⊢
          replace LS := hide LS
          clear R9 m8 m9 D8 z8 IZ LC D9
          go_wp2_with fail
          refine LS.out.mono ?_
          rintro e x10 ⟨rfl, hx⟩
          have hx := hx.symm
          subst hx
          go_wp2
          go_ret
          exact ⟨rfl, nxt N N3⟩
        · have ab : ((255 : Int) == 256) = false := beq_eq_false_iff_ne.2 hAB
          have ab' : decide ((255 : Int) = 256) = false := decide_eq_false hAB
          have hne : P ≠ Q := fun e => hAB (PQ.out.1 e)
          clear hAB
          go_wp2_with fail
          refine (lwSame_diff x7 s5 s7 a5 a7 c5 c7 P Q D5 D7 bP bQ hne).mono ?_
          rintro e y ⟨rfl, hx⟩
          have hx := hx.symm
          subst hx
          go_wp2_with fail
          refine (LC.out x7 N3).mono ?_
          rintro e x8 ⟨v8, rfl, h8, m8⟩
          have R8 : RowB x8 x7.heap.size v8 V := by unfold RowB; rw [VL.out]; exact h8
          obtain ⟨a8, c8, s8, rfl, D8, z8, -, -⟩ := R8.rd
          clear h8 R8
          replace N3 := nxt N3 m8
          go_wp2_with fail
          refine (IZ.out x8 s8 a8 c8 D8 z8).mono ?_
          rintro e x9 ⟨v9, rfl, R9, m9⟩
          obtain ⟨a9, c9, s9, rfl, D9, -, -, -⟩ := R9.rd
          replace N3 := nxt N3 m9
          have LS := lwSame_same x9 s9 bv a9 (some ⟨bv, 0, none⟩) c9 32 V D9 (RV2.up N3)
          rw [VL.out] at LS ⊢
          replace LS := hide LS
          clear R9 m8 m9 D8 z8 IZ LC D9
          go_wp2_with fail
          refine LS.out.mono ?_
          rintro e x10 ⟨rfl, hx⟩
          have hx := hx.symm
          subst hx
          go_wp2
          go_ret
          exact ⟨rfl, nxt N N3⟩
      have t2 : decide (r < 0) = false := by simpa using k2
      by_cases k3 : 4294967295 < r
      · have t3 : decide (4294967295 < r) = true := by simpa using k3
        obtain ⟨pl, ql, pq⟩ := (main (255) (256) (by decide) (by decide) (by decide) (by decide)).out
        have bP := BY.out (255) (by decide) (by decide)
        have bQ := BY.out (256) (by decide) (by decide)
        have IA := hide fun W g a c (h : Rd W g a .u8 V) (z : a = none → c = 0) => implNonce_any W g a c V h z (255)
        have IB := hide fun W g a c (h : Rd W g a .u8 V) (z : a = none → c = 0) => implNonce_any W g a c V h z (256)
        have IZ := hide fun W g a c (h : Rd W g a .u8 V) (z : a = none → c = 0) => implNonce_any W g a c V h z 0
        simp only [RZ.out] at IZ
        clear main BY
        generalize rnA V (255) = P at *
        generalize rnA V (256) = Q at *
        have p12 : ((P.length : Int) == 12) = true := by rw [pl]; rfl
        have p12' : decide ((P.length : Int) = 12) = true := decide_eq_true (by rw [pl]; rfl)
        have q12 : ((Q.length : Int) == 12) = true := by rw [ql]; rfl
        have q12' : decide ((Q.length : Int) = 12) = true := decide_eq_true (by rw [ql]; rfl)
        have PQ := hide pq
        clear pl ql pq
        have N3 : Below w3.heap.size w3 w3 := Below.refl _ _
        go_wp2_with fail
        refine (LC.out w3 N3).mono ?_
        rintro e x4 ⟨v4, rfl, h4, m4⟩
        have R4 : RowB x4 w3.heap.size v4 V := by unfold RowB; rw [VL.out]; exact h4
        obtain ⟨a4, c4, s4, rfl, D4, z4, -, -⟩ := R4.rd
        clear h4 R4
        replace N3 := nxt N3 m4
        go_wp2_with fail
        refine (IA.out x4 s4 a4 c4 D4 z4).mono ?_
        rintro e x5 ⟨v5, rfl, R5, m5⟩
        obtain ⟨a5, c5, s5, rfl, D5, -, -, -⟩ := R5.rd
        replace N3 := nxt N3 m5
        clear R5 m4 m5 D4 z4 IA
        go_wp2_with fail
        refine (LC.out x5 N3).mono ?_
        rintro e x6 ⟨v6, rfl, h6, m6⟩
        have R6 : RowB x6 x5.heap.size v6 V := by unfold RowB; rw [VL.out]; exact h6
        obtain ⟨a6, c6, s6, rfl, D6, z6, -, -⟩ := R6.rd
        clear h6 R6
        replace N3 := nxt N3 m6
        replace D5 := D5.up m6
        go_wp2_with fail
        refine (IB.out x6 s6 a6 c6 D6 z6).mono ?_
        rintro e x7 ⟨v7, rfl, R7, m7⟩
        obtain ⟨a7, c7, s7, rfl, D7, -, -, -⟩ := R7.rd
        replace N3 := nxt N3 m7
        replace D5 := D5.up m7
        clear R7 m6 m7 D6 z6 IB
        by_cases hAB : (255 : Int) = 256
        · have e := PQ.out.2 hAB
          have ab : ((255 : Int) == 256) = true := beq_iff_eq.2 hAB
          have ab' : decide ((255 : Int) = 256) = true := decide_eq_true hAB
          rw [← e] at D7
          have LS := lwSame_same x7 s5 s7 a5 a7 c5 c7 P D5 D7
          rw [show P.length = Q.length by rw [e]] at LS
          have PL : Hid (P.length = Q.length) := by show _ = _; rw [e]
          rw [PL.out]
          replace LS := hide LS
          clear hAB e
          go_wp2_with fail
          refine LS.out.mono ?_
          rintro e y ⟨rfl, hx⟩
          have hx := hx.symm
          subst hx
          clear LS
          go_wp2_with fail
          refine (LC.out x7 N3).mono ?_
          rintro e x8 ⟨v8, rfl, h8, m8⟩
          have R8 : RowB x8 x7.heap.size v8 V := by unfold RowB; rw [VL.out]; exact h8
          obtain ⟨a8, c8, s8, rfl, D8, z8, -, -⟩ := R8.rd
          clear h8 R8
          replace N3 := nxt N3 m8
          go_wp2_with fail
          refine (IZ.out x8 s8 a8 c8 D8 z8).mono ?_
          rintro e x9 ⟨v9, rfl, R9, m9⟩
          obtain ⟨a9, c9, s9, rfl, D9, -, -, -⟩ := R9.rd
          replace N3 := nxt N3 m9
          have LS := lwSame_same x9 s9 bv a9 (some ⟨bv, 0, none⟩) c9 32 V D9 (RV2.up N3)
          rw [VL.out] at LS ⊢
          replace LS := hide LS
          clear R9 m8 m9 D8 z8 IZ LC D9
          go_wp2_with fail
          refine LS.out.mono ?_
          rintro e x10 ⟨rfl, hx⟩
          have hx := hx.symm
          subst hx
          go_wp2
          go_ret
          exact ⟨rfl, nxt N N3⟩
        · have ab : ((255 : Int) == 256) = false := beq_eq_false_iff_ne.2 hAB
          have ab' : decide ((255 : Int) = 256) = false := decide_eq_false hAB
          have hne : P ≠ Q := fun e => hAB (PQ.out.1 e)
          clear hAB
          go_wp2_with fail
          refine (lwSame_diff x7 s5 s7 a5 a7 c5 c7 P Q D5 D7 bP bQ hne).mono ?_
          rintro e y ⟨rfl, hx⟩
          have hx := hx.symm
          subst hx
          go_wp2_with fail
          refine (LC.out x7 N3).mono ?_
          rintro e x8 ⟨v8, rfl, h8, m8⟩
          have R8 : RowB x8 x7.heap.size v8 V := by unfold RowB; rw [VL.out]; exact h8
          obtain ⟨a8, c8, s8, rfl, D8, z8, -, -⟩ := R8.rd
          clear h8 R8
          replace N3 := nxt N3 m8
          go_wp2_with fail
          refine (IZ.out x8 s8 a8 c8 D8 z8).mono ?_
          rintro e x9 ⟨v9, rfl, R9, m9⟩
          obtain ⟨a9, c9, s9, rfl, D9, -, -, -⟩ := R9.rd
          replace N3 := nxt N3 m9
          have LS := lwSame_same x9 s9 bv a9 (some ⟨bv, 0, none⟩) c9 32 V D9 (RV2.up N3)
          rw [VL.out] at LS ⊢
          replace LS := hide LS
          clear R9 m8 m9 D8 z8 IZ LC D9
          go_wp2_with fail
          refine LS.out.mono ?_
          rintro e x10 ⟨rfl, hx⟩
          have hx := hx.symm
          subst hx
          go_wp2
          go_ret
          exact ⟨rfl, nxt N N3⟩
      have t3 : decide (4294967295 < r) = false := by simpa using k3
      obtain ⟨pl, ql, pq⟩ := (main (q) (r) (by omega) (by omega) (by omega) (by omega)).out
      have bP := BY.out (q) (by omega) (by omega)
      have bQ := BY.out (r) (by omega) (by omega)
      have IA := hide fun W g a c (h : Rd W g a .u8 V) (z : a = none → c = 0) => implNonce_any W g a c V h z (q)
      have IB := hide fun W g a c (h : Rd W g a .u8 V) (z : a = none → c = 0) => implNonce_any W g a c V h z (r)
      have IZ := hide fun W g a c (h : Rd W g a .u8 V) (z : a = none → c = 0) => implNonce_any W g a c V h z 0
      simp only [RZ.out] at IZ
      clear main BY
      generalize rnA V (q) = P at *
      generalize rnA V (r) = Q at *
      have p12 : ((P.length : Int) == 12) = true := by rw [pl]; rfl
      have p12' : decide ((P.length : Int) = 12) = true := decide_eq_true (by rw [pl]; rfl)
      have q12 : ((Q.length : Int) == 12) = true := by rw [ql]; rfl
      have q12' : decide ((Q.length : Int) = 12) = true := decide_eq_true (by rw [ql]; rfl)
      have PQ := hide pq
      clear pl ql pq
      have N3 : Below w3.heap.size w3 w3 := Below.refl _ _
      go_wp2_with fail
      refine (LC.out w3 N3).mono ?_
      rintro e x4 ⟨v4, rfl, h4, m4⟩
      have R4 : RowB x4 w3.heap.size v4 V := by unfold RowB; rw [VL.out]; exact h4
      obtain ⟨a4, c4, s4, rfl, D4, z4, -, -⟩ := R4.rd
      clear h4 R4
      replace N3 := nxt N3 m4
      go_wp2_with fail
      refine (IA.out x4 s4 a4 c4 D4 z4).mono ?_
      rintro e x5 ⟨v5, rfl, R5, m5⟩
      obtain ⟨a5, c5, s5, rfl, D5, -, -, -⟩ := R5.rd
      replace N3 := nxt N3 m5
      clear R5 m4 m5 D4 z4 IA
      go_wp2_with fail
      refine (LC.out x5 N3).mono ?_
      rintro e x6 ⟨v6, rfl, h6, m6⟩
      have R6 : RowB x6 x5.heap.size v6 V := by unfold RowB; rw [VL.out]; exact h6
      obtain ⟨a6, c6, s6, rfl, D6, z6, -, -⟩ := R6.rd
      clear h6 R6
      replace N3 := nxt N3 m6
      replace D5 := D5.up m6
      go_wp2_with fail
      refine (IB.out x6 s6 a6 c6 D6 z6).mono ?_
      rintro e x7 ⟨v7, rfl, R7, m7⟩
      obtain ⟨a7, c7, s7, rfl, D7, -, -, -⟩ := R7.rd
      replace N3 := nxt N3 m7
      replace D5 := D5.up m7
      clear R7 m6 m7 D6 z6 IB
      by_cases hAB : (q : Int) = r
      · have e := PQ.out.2 hAB
        have ab : ((q : Int) == r) = true := beq_iff_eq.2 hAB
        have ab' : decide ((q : Int) = r) = true := decide_eq_true hAB
        rw [← e] at D7
        have LS := lwSame_same x7 s5 s7 a5 a7 c5 c7 P D5 D7
        rw [show P.length = Q.length by rw [e]] at LS
        have PL : Hid (P.length = Q.length) := by show _ = _; rw [e]
        rw [PL.out]
        replace LS := hide LS
        clear hAB e
        go_wp2_with fail
        refine LS.out.mono ?_
        rintro e y ⟨rfl, hx⟩
        have hx := hx.symm
        subst hx
        clear LS
        go_wp2_with fail
        refine (LC.out x7 N3).mono ?_
        rintro e x8 ⟨v8, rfl, h8, m8⟩
        have R8 : RowB x8 x7.heap.size v8 V := by unfold RowB; rw [VL.out]; exact h8
        obtain ⟨a8, c8, s8, rfl, D8, z8, -, -⟩ := R8.rd
        clear h8 R8
        replace N3 := nxt N3 m8
        go_wp2_with fail
        refine (IZ.out x8 s8 a8 c8 D8 z8).mono ?_
        rintro e x9 ⟨v9, rfl, R9, m9⟩
        obtain ⟨a9, c9, s9, rfl, D9, -, -, -⟩ := R9.rd
        replace N3 := nxt N3 m9
        have LS := lwSame_same x9 s9 bv a9 (some ⟨bv, 0, none⟩) c9 32 V D9 (RV2.up N3)
        rw [VL.out] at LS ⊢
        replace LS := hide LS
        clear R9 m8 m9 D8 z8 IZ LC D9
        go_wp2_with fail
        refine LS.out.mono ?_
        rintro e x10 ⟨rfl, hx⟩
        have hx := hx.symm
        subst hx
        go_wp2
        go_ret
        exact ⟨rfl, nxt N N3⟩
      · have ab : ((q : Int) == r) = false := beq_eq_false_iff_ne.2 hAB
        have ab' : decide ((q : Int) = r) = false := decide_eq_false hAB
        have hne : P ≠ Q := fun e => hAB (PQ.out.1 e)
        clear hAB
        go_wp2_with fail
        refine (lwSame_diff x7 s5 s7 a5 a7 c5 c7 P Q D5 D7 bP bQ hne).mono ?_
        rintro e y ⟨rfl, hx⟩
        have hx := hx.symm
        subst hx
        go_wp2_with fail
        refine (LC.out x7 N3).mono ?_
        rintro e x8 ⟨v8, rfl, h8, m8⟩
        have R8 : RowB x8 x7.heap.size v8 V := by unfold RowB; rw [VL.out]; exact h8
        obtain ⟨a8, c8, s8, rfl, D8, z8, -, -⟩ := R8.rd
        clear h8 R8
        replace N3 := nxt N3 m8
        go_wp2_with fail
        refine (IZ.out x8 s8 a8 c8 D8 z8).mono ?_
        rintro e x9 ⟨v9, rfl, R9, m9⟩
        obtain ⟨a9, c9, s9, rfl, D9, -, -, -⟩ := R9.rd
        replace N3 := nxt N3 m9
        have LS := lwSame_same x9 s9 bv a9 (some ⟨bv, 0, none⟩) c9 32 V D9 (RV2.up N3)
        rw [VL.out] at LS ⊢
        replace LS := hide LS
        clear R9 m8 m9 D8 z8 IZ LC D9
        go_wp2_with fail
        refine LS.out.mono ?_
        rintro e x10 ⟨rfl, hx⟩
        have hx := hx.symm
        subst hx
        go_wp2
        go_ret
        exact ⟨rfl, nxt N N3⟩
    · have u1 : decide ((1048576 : Int) < (X1.length : Int)) = true := by simp; omega
      go_enter Try.func5, Try.ntmps5
      go_wp2
      go_ret
      exact ⟨rfl, Below.refl _ _⟩
  · have u0 : decide ((1048576 : Int) < (X0.length : Int)) = true := by simp; omega
    go_enter Try.func5, Try.ntmps5
    go_wp2
    go_ret
    exact ⟨rfl, Below.refl _ _⟩
end Go.Proofs.Ytickbedbdpccpaa
