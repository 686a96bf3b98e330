
/-
  FnAgeFresh.
-/
import Derived.Test.YtopkbpclaeockaaAgI
import Derived.Test.YtopkbpclaeockaaDr16
import Derived.Test.YtopkbpclaeockaaLwA8
import Derived.Test.YtopkbpclaeockaaLwO
namespace Go.Proofs.Ytopkbpclaeockaa
open Go Go.RowKit

theorem ag_val {xs : List Int} (hl : xs.length = 32) {s : Int} (s0 : 0 ≤ s) (s1 : s ≤ 1000) : agV xs s = (s + beN xs 0 4) % 4294967296 := by
  unfold agV
  rw [if_pos ⟨hl, (isAg_iff s).2 ⟨by omega, by omega⟩⟩]
theorem fr_ag {xs : List Int} (hl : xs.length = 32) (hb : Byt xs) {mi sc wd : Int} (m0 : 0 ≤ mi) (m1 : mi ≤ 1000) (s0 : 0 ≤ sc) (s1 : sc < 100) (d0 : 0 ≤ wd) (d1 : wd ≤ 86400) :
    frV xs (agV xs mi) sc wd = (decide (mi - sc ≤ wd) && decide (sc - mi ≤ wd)) := by
  have r := beN_rng hb 0 4
  have r0 := r.1
  have r1 : beN xs 0 4 < 4294967296 := by have := r.2; simpa using this
  rw [ag_val hl m0 m1]
  unfold frV
  generalize beN xs 0 4 = m at *
  have e : ((mi + m) % 4294967296 - m) % 4294967296 = mi := by omega
  rw [e, (isAg_iff ((mi + m) % 4294967296)).2 ⟨by omega, by omega⟩, (isAg_iff sc).2 ⟨by omega, by omega⟩, (isWd_iff wd).2 ⟨d0, d1⟩, decide_eq_true hl]
  simp
set_option maxHeartbeats 8000000 in
theorem ageFresh_law (w : World) (g0 : Nat) (a0 : Option Addr) (c0 : Nat) (X0 : List Int) (hX0 : Rd w g0 a0 .u8 X0) (bX0 : Byt X0) (g1 : Nat) (a1 : Option Addr) (c1 : Nat) (X1 : List Int) (hX1 : Rd w g1 a1 .u8 X1) (bX1 : Byt X1) :
    Calls Try.prog 5 #[.slice a0 X0.length c0, .slice a1 X1.length c1] w fun e w' => e = .returned (.bool true) ∧ Below w.heap.size w w' := by
  by_cases q0 : X0.length ≤ 1048576
  · have u0 : decide ((1048576 : Int) < (X0.length : Int)) = false := by simp; omega
    by_cases q1 : X1.length ≤ 1048576
    · have u1 : decide ((1048576 : Int) < (X1.length : Int)) = false := by simp; omega
      go_enter Try.func5, Try.ntmps5
      go_wp2_with fail
      refine (drawFresh_any w g0 a0 c0 X0 hX0 bX0 q0).mono ?_
      rintro e w1 ⟨ks, ag, sc, wd, a2, c2, g2, rfl, ⟨sc0, sc1⟩, ⟨wd0, wd1⟩, kl, kb, o2, N1⟩
      have L32 := to32_len ks
      have B32 := to32_byt kb
      have LW := hide (lw32_any w1 g2 a2 c2 ks o2.rd)
      clear kl kb o2
      generalize to32 ks = Z at *
      by_cases hw : 86400 < wd
      · skip
        go_wp2_with fail
        refine LW.out.mono ?_
        rintro e w2 ⟨rfl, Z2, n2⟩
        have N2 := nxt N1 n2
        clear LW n2
        go_wp2_with fail
        refine (lwAt_any w2 g1 a1 c1 X1 0 50 (hX1.up N2) bX1 q1 (by decide) (by decide) (by decide) (by decide)).mono ?_
        rintro e w3 ⟨r, rfl, hr, mm, rfl⟩
        have N3 := below_drewN N2 mm
        have Z3 : Blk (w2.drewN mm) w1.heap.size .u8 Z := Z2
        clear Z2 N2
        generalize w2.drewN mm = w3 at *
        have CP := hide (lwCopyO_any w3 _ _ 32 Z Z3.own0.rd (fun h => nomatch h) (by omega))
        rw [L32] at CP
        by_cases hm : sc + (r : Int) - 25 < 0
        · skip
          by_cases ha : 0 - sc < 0
          · skip
            go_wp2_with fail
            refine CP.out.mono ?_
            rintro e w5 ⟨v5, rfl, R5, n5⟩
            obtain ⟨a5, c5, g5, rfl, D5, -, -, -⟩ := Own.of_ownsRow (show w5.ownsRow w3.heap.size 5 1 v5 Z.length (Z.map (Value.int .u8)) from by rw [L32]; exact R5)
            rw [L32]
            have N5 := nxt N3 n5
            have Z5 := Z3.up n5
            have TA := hide (implAge_any w5 g5 a5 c5 Z D5.rd B32 (0))
            rw [L32] at TA
            have AV := hide (ag_val L32 (s := 0) (by omega) (by omega))
            have A0 : 0 ≤ agV Z (0) := by rw [AV.out]; omega
            have A1 : agV Z (0) ≤ 4294967295 := by rw [AV.out]; omega
            have FR := hide (fr_ag L32 B32 (mi := 0) (sc := sc) (wd := 86400) (by omega) (by omega) (by omega) (by omega) (by omega) (by omega))
            have FA := hide (fun W (n : Below w5.heap.size w5 W) => implFresh_any W _ _ 32 Z (Z5.up n).own0.rd B32 (agV Z (0)) sc (86400))
            rw [L32, FR.out] at FA
            generalize agV Z (0) = A at *
            clear AV FR D5 R5 n5
            go_wp2_with fail
            refine TA.out.mono ?_
            rintro e w6 ⟨rfl, n6⟩
            go_wp2_with fail
            refine (FA.out w6 n6).mono ?_
            rintro e w7 ⟨rfl, n7⟩
            have N7 := nxt (nxt N5 n6) n7
            go_wp2
            go_ret
            refine ⟨?_, N7⟩
            show Ending.returned (.bool _) = _
            congr 2
            rw [Bool.eq_iff_iff]
            simp
            first
              | omega
              | (rw [Bool.eq_iff_iff]; simp only [Bool.and_eq_true, decide_eq_true_eq]; omega)
          · skip
            go_wp2_with fail
            refine CP.out.mono ?_
            rintro e w5 ⟨v5, rfl, R5, n5⟩
            obtain ⟨a5, c5, g5, rfl, D5, -, -, -⟩ := Own.of_ownsRow (show w5.ownsRow w3.heap.size 5 1 v5 Z.length (Z.map (Value.int .u8)) from by rw [L32]; exact R5)
            rw [L32]
            have N5 := nxt N3 n5
            have Z5 := Z3.up n5
            have TA := hide (implAge_any w5 g5 a5 c5 Z D5.rd B32 (0))
            rw [L32] at TA
            have AV := hide (ag_val L32 (s := 0) (by omega) (by omega))
            have A0 : 0 ≤ agV Z (0) := by rw [AV.out]; omega
            have A1 : agV Z (0) ≤ 4294967295 := by rw [AV.out]; omega
            have FR := hide (fr_ag L32 B32 (mi := 0) (sc := sc) (wd := 86400) (by omega) (by omega) (by omega) (by omega) (by omega) (by omega))
            have FA := hide (fun W (n : Below w5.heap.size w5 W) => implFresh_any W _ _ 32 Z (Z5.up n).own0.rd B32 (agV Z (0)) sc (86400))
            rw [L32, FR.out] at FA
            generalize agV Z (0) = A at *
            clear AV FR D5 R5 n5
            go_wp2_with fail
            refine TA.out.mono ?_
            rintro e w6 ⟨rfl, n6⟩
            go_wp2_with fail
            refine (FA.out w6 n6).mono ?_
            rintro e w7 ⟨rfl, n7⟩
            have N7 := nxt (nxt N5 n6) n7
            go_wp2
            go_ret
            refine ⟨?_, N7⟩
            show Ending.returned (.bool _) = _
            congr 2
            rw [Bool.eq_iff_iff]
            simp
            first
              | omega
              | (rw [Bool.eq_iff_iff]; simp only [Bool.and_eq_true, decide_eq_true_eq]; omega)
        · skip
          by_cases ha : sc + (r : Int) - 25 - sc < 0
          · skip
            go_wp2_with fail
            refine CP.out.mono ?_
            rintro e w5 ⟨v5, rfl, R5, n5⟩
            obtain ⟨a5, c5, g5, rfl, D5, -, -, -⟩ := Own.of_ownsRow (show w5.ownsRow w3.heap.size 5 1 v5 Z.length (Z.map (Value.int .u8)) from by rw [L32]; exact R5)
            rw [L32]
            have N5 := nxt N3 n5
            have Z5 := Z3.up n5
            have TA := hide (implAge_any w5 g5 a5 c5 Z D5.rd B32 (sc + (r : Int) - 25))
            rw [L32] at TA
            have AV := hide (ag_val L32 (s := sc + (r : Int) - 25) (by omega) (by omega))
            have A0 : 0 ≤ agV Z (sc + (r : Int) - 25) := by rw [AV.out]; omega
            have A1 : agV Z (sc + (r : Int) - 25) ≤ 4294967295 := by rw [AV.out]; omega
            have FR := hide (fr_ag L32 B32 (mi := sc + (r : Int) - 25) (sc := sc) (wd := 86400) (by omega) (by omega) (by omega) (by omega) (by omega) (by omega))
            have FA := hide (fun W (n : Below w5.heap.size w5 W) => implFresh_any W _ _ 32 Z (Z5.up n).own0.rd B32 (agV Z (sc + (r : Int) - 25)) sc (86400))
            rw [L32, FR.out] at FA
            generalize agV Z (sc + (r : Int) - 25) = A at *
            clear AV FR D5 R5 n5
            go_wp2_with fail
            refine TA.out.mono ?_
            rintro e w6 ⟨rfl, n6⟩
            go_wp2_with fail
            refine (FA.out w6 n6).mono ?_
            rintro e w7 ⟨rfl, n7⟩
            have N7 := nxt (nxt N5 n6) n7
            go_wp2
            go_ret
            refine ⟨?_, N7⟩
            show Ending.returned (.bool _) = _
            congr 2
            rw [Bool.eq_iff_iff]
            simp
            first
              | omega
              | (rw [Bool.eq_iff_iff]; simp only [Bool.and_eq_true, decide_eq_true_eq]; omega)
          · skip
            go_wp2_with fail
            refine CP.out.mono ?_
            rintro e w5 ⟨v5, rfl, R5, n5⟩
            obtain ⟨a5, c5, g5, rfl, D5, -, -, -⟩ := Own.of_ownsRow (show w5.ownsRow w3.heap.size 5 1 v5 Z.length (Z.map (Value.int .u8)) from by rw [L32]; exact R5)
            rw [L32]
            have N5 := nxt N3 n5
            have Z5 := Z3.up n5
            have TA := hide (implAge_any w5 g5 a5 c5 Z D5.rd B32 (sc + (r : Int) - 25))
            rw [L32] at TA
            have AV := hide (ag_val L32 (s := sc + (r : Int) - 25) (by omega) (by omega))
            have A0 : 0 ≤ agV Z (sc + (r : Int) - 25) := by rw [AV.out]; omega
            have A1 : agV Z (sc + (r : Int) - 25) ≤ 4294967295 := by rw [AV.out]; omega
            have FR := hide (fr_ag L32 B32 (mi := sc + (r : Int) - 25) (sc := sc) (wd := 86400) (by omega) (by omega) (by omega) (by omega) (by omega) (by omega))
            have FA := hide (fun W (n : Below w5.heap.size w5 W) => implFresh_any W _ _ 32 Z (Z5.up n).own0.rd B32 (agV Z (sc + (r : Int) - 25)) sc (86400))
            rw [L32, FR.out] at FA
            generalize agV Z (sc + (r : Int) - 25) = A at *
            clear AV FR D5 R5 n5
            go_wp2_with fail
            refine TA.out.mono ?_
            rintro e w6 ⟨rfl, n6⟩
            go_wp2_with fail
            refine (FA.out w6 n6).mono ?_
            rintro e w7 ⟨rfl, n7⟩
            have N7 := nxt (nxt N5 n6) n7
            go_wp2
            go_ret
            refine ⟨?_, N7⟩
            show Ending.returned (.bool _) = _
            congr 2
            rw [Bool.eq_iff_iff]
            simp
            first
              | omega
              | (rw [Bool.eq_iff_iff]; simp only [Bool.and_eq_true, decide_eq_true_eq]; omega)
      · skip
        go_wp2_with fail
        refine LW.out.mono ?_
        rintro e w2 ⟨rfl, Z2, n2⟩
        have N2 := nxt N1 n2
        clear LW n2
        go_wp2_with fail
        refine (lwAt_any w2 g1 a1 c1 X1 0 50 (hX1.up N2) bX1 q1 (by decide) (by decide) (by decide) (by decide)).mono ?_
        rintro e w3 ⟨r, rfl, hr, mm, rfl⟩
        have N3 := below_drewN N2 mm
        have Z3 : Blk (w2.drewN mm) w1.heap.size .u8 Z := Z2
        clear Z2 N2
        generalize w2.drewN mm = w3 at *
        have CP := hide (lwCopyO_any w3 _ _ 32 Z Z3.own0.rd (fun h => nomatch h) (by omega))
        rw [L32] at CP
        by_cases hm : sc + (r : Int) - 25 < 0
        · skip
          by_cases ha : 0 - sc < 0
          · skip
            go_wp2_with fail
            refine CP.out.mono ?_
            rintro e w5 ⟨v5, rfl, R5, n5⟩
            obtain ⟨a5, c5, g5, rfl, D5, -, -, -⟩ := Own.of_ownsRow (show w5.ownsRow w3.heap.size 5 1 v5 Z.length (Z.map (Value.int .u8)) from by rw [L32]; exact R5)
            rw [L32]
            have N5 := nxt N3 n5
            have Z5 := Z3.up n5
            have TA := hide (implAge_any w5 g5 a5 c5 Z D5.rd B32 (0))
            rw [L32] at TA
            have AV := hide (ag_val L32 (s := 0) (by omega) (by omega))
            have A0 : 0 ≤ agV Z (0) := by rw [AV.out]; omega
            have A1 : agV Z (0) ≤ 4294967295 := by rw [AV.out]; omega
            have FR := hide (fr_ag L32 B32 (mi := 0) (sc := sc) (wd := wd) (by omega) (by omega) (by omega) (by omega) (by omega) (by omega))
            have FA := hide (fun W (n : Below w5.heap.size w5 W) => implFresh_any W _ _ 32 Z (Z5.up n).own0.rd B32 (agV Z (0)) sc (wd))
            rw [L32, FR.out] at FA
            generalize agV Z (0) = A at *
            clear AV FR D5 R5 n5
            go_wp2_with fail
            refine TA.out.mono ?_
            rintro e w6 ⟨rfl, n6⟩
            go_wp2_with fail
            refine (FA.out w6 n6).mono ?_
            rintro e w7 ⟨rfl, n7⟩
            have N7 := nxt (nxt N5 n6) n7
            go_wp2
            go_ret
            refine ⟨?_, N7⟩
            show Ending.returned (.bool _) = _
            congr 2
            rw [Bool.eq_iff_iff]
            simp
            first
              | omega
              | (rw [Bool.eq_iff_iff]; simp only [Bool.and_eq_true, decide_eq_true_eq]; omega)
          · skip
            go_wp2_with fail
            refine CP.out.mono ?_
            rintro e w5 ⟨v5, rfl, R5, n5⟩
            obtain ⟨a5, c5, g5, rfl, D5, -, -, -⟩ := Own.of_ownsRow (show w5.ownsRow w3.heap.size 5 1 v5 Z.length (Z.map (Value.int .u8)) from by rw [L32]; exact R5)
            rw [L32]
            have N5 := nxt N3 n5
            have Z5 := Z3.up n5
            have TA := hide (implAge_any w5 g5 a5 c5 Z D5.rd B32 (0))
            rw [L32] at TA
            have AV := hide (ag_val L32 (s := 0) (by omega) (by omega))
            have A0 : 0 ≤ agV Z (0) := by rw [AV.out]; omega
            have A1 : agV Z (0) ≤ 4294967295 := by rw [AV.out]; omega
            have FR := hide (fr_ag L32 B32 (mi := 0) (sc := sc) (wd := wd) (by omega) (by omega) (by omega) (by omega) (by omega) (by omega))
            have FA := hide (fun W (n : Below w5.heap.size w5 W) => implFresh_any W _ _ 32 Z (Z5.up n).own0.rd B32 (agV Z (0)) sc (wd))
            rw [L32, FR.out] at FA
            generalize agV Z (0) = A at *
            clear AV FR D5 R5 n5
            go_wp2_with fail
            refine TA.out.mono ?_
            rintro e w6 ⟨rfl, n6⟩
            go_wp2_with fail
            refine (FA.out w6 n6).mono ?_
            rintro e w7 ⟨rfl, n7⟩
            have N7 := nxt (nxt N5 n6) n7
            go_wp2
            go_ret
            refine ⟨?_, N7⟩
            show Ending.returned (.bool _) = _
            congr 2
            rw [Bool.eq_iff_iff]
            simp
            first
              | omega
              | (rw [Bool.eq_iff_iff]; simp only [Bool.and_eq_true, decide_eq_true_eq]; omega)
        · skip
          by_cases ha : sc + (r : Int) - 25 - sc < 0
          · skip
            go_wp2_with fail
            refine CP.out.mono ?_
            rintro e w5 ⟨v5, rfl, R5, n5⟩
            obtain ⟨a5, c5, g5, rfl, D5, -, -, -⟩ := Own.of_ownsRow (show w5.ownsRow w3.heap.size 5 1 v5 Z.length (Z.map (Value.int .u8)) from by rw [L32]; exact R5)
            rw [L32]
            have N5 := nxt N3 n5
            have Z5 := Z3.up n5
            have TA := hide (implAge_any w5 g5 a5 c5 Z D5.rd B32 (sc + (r : Int) - 25))
            rw [L32] at TA
            have AV := hide (ag_val L32 (s := sc + (r : Int) - 25) (by omega) (by omega))
            have A0 : 0 ≤ agV Z (sc + (r : Int) - 25) := by rw [AV.out]; omega
            have A1 : agV Z (sc + (r : Int) - 25) ≤ 4294967295 := by rw [AV.out]; omega
            have FR := hide (fr_ag L32 B32 (mi := sc + (r : Int) - 25) (sc := sc) (wd := wd) (by omega) (by omega) (by omega) (by omega) (by omega) (by omega))
            have FA := hide (fun W (n : Below w5.heap.size w5 W) => implFresh_any W _ _ 32 Z (Z5.up n).own0.rd B32 (agV Z (sc + (r : Int) - 25)) sc (wd))
            rw [L32, FR.out] at FA
            generalize agV Z (sc + (r : Int) - 25) = A at *
            clear AV FR D5 R5 n5
            go_wp2_with fail
            refine TA.out.mono ?_
            rintro e w6 ⟨rfl, n6⟩
            go_wp2_with fail
            refine (FA.out w6 n6).mono ?_
            rintro e w7 ⟨rfl, n7⟩
            have N7 := nxt (nxt N5 n6) n7
            go_wp2
            go_ret
            refine ⟨?_, N7⟩
            show Ending.returned (.bool _) = _
            congr 2
            rw [Bool.eq_iff_iff]
            simp
            first
              | omega
              | (rw [Bool.eq_iff_iff]; simp only [Bool.and_eq_true, decide_eq_true_eq]; omega)
          · skip
            go_wp2_with fail
            refine CP.out.mono ?_
            rintro e w5 ⟨v5, rfl, R5, n5⟩
            obtain ⟨a5, c5, g5, rfl, D5, -, -, -⟩ := Own.of_ownsRow (show w5.ownsRow w3.heap.size 5 1 v5 Z.length (Z.map (Value.int .u8)) from by rw [L32]; exact R5)
            rw [L32]
            have N5 := nxt N3 n5
            have Z5 := Z3.up n5
            have TA := hide (implAge_any w5 g5 a5 c5 Z D5.rd B32 (sc + (r : Int) - 25))
            rw [L32] at TA
            have AV := hide (ag_val L32 (s := sc + (r : Int) - 25) (by omega) (by omega))
            have A0 : 0 ≤ agV Z (sc + (r : Int) - 25) := by rw [AV.out]; omega
            have A1 : agV Z (sc + (r : Int) - 25) ≤ 4294967295 := by rw [AV.out]; omega
            have FR := hide (fr_ag L32 B32 (mi := sc + (r : Int) - 25) (sc := sc) (wd := wd) (by omega) (by omega) (by omega) (by omega) (by omega) (by omega))
            have FA := hide (fun W (n : Below w5.heap.size w5 W) => implFresh_any W _ _ 32 Z (Z5.up n).own0.rd B32 (agV Z (sc + (r : Int) - 25)) sc (wd))
            rw [L32, FR.out] at FA
            generalize agV Z (sc + (r : Int) - 25) = A at *
            clear AV FR D5 R5 n5
            go_wp2_with fail
            refine TA.out.mono ?_
            rintro e w6 ⟨rfl, n6⟩
            go_wp2_with fail
            refine (FA.out w6 n6).mono ?_
            rintro e w7 ⟨rfl, n7⟩
            have N7 := nxt (nxt N5 n6) n7
            go_wp2
            go_ret
            refine ⟨?_, N7⟩
            show Ending.returned (.bool _) = _
            congr 2
            rw [Bool.eq_iff_iff]
            simp
            first
              | omega
              | (rw [Bool.eq_iff_iff]; simp only [Bool.and_eq_true, decide_eq_true_eq]; omega)
    · have u1 : decide ((1048576 : Int) < (X1.length : Int)) = true := by simp; omega
      go_enter Try.func5, Try.ntmps5
      go_wp2
      go_ret
      exact ⟨rfl, Below.refl _ _⟩
  · have u0 : decide ((1048576 : Int) < (X0.length : Int)) = true := by simp; omega
    go_enter Try.func5, Try.ntmps5
    go_wp2
    go_ret
    exact ⟨rfl, Below.refl _ _⟩
end Go.Proofs.Ytopkbpclaeockaa
