
/-
  What FnItemsBack draws: tags.
-/
import Derived.Test.YthkhfljoflffpaaDrN
namespace Go.Proofs.Ythkhfljoflffpaa
open Go Go.RowKit

set_option maxHeartbeats 1000000 in
theorem l10DrawTag_any (w : World) (s g : Nat) (a : Option Addr) (c : Nat) (xs : List Int) (t : Int) (hs : Src w s a xs.length c t) (hr : Rd w g a .u8 xs) (hne : 0 < xs.length → g ≠ s) (hb : Byt xs) (hl : xs.length ≤ 1048576)
    (t0 : 0 ≤ t) (t1 : t ≤ 1000) :
    Calls Try.prog 14 #[.pointer (some ⟨s, 0, none⟩)] w fun e w' => ∃ v, e = .returned (.int .i64 v) ∧ (0 ≤ v ∧ v ≤ 256) ∧ Src w' s a xs.length c (t + 2) ∧ But s w w' := by
  have N1 := hide (l1Next_any w s g a c xs t 12 hs hr hne hb hl t0 (by omega) (by decide) (by decide))
  go_enter Try.func14, Try.ntmps14
  go_wp2_with fail
  refine N1.out.mono ?_
  rintro e w1 ⟨r, rfl, hr1, S1, O1⟩
  have R1 := hr.src O1 hne
  have z1 : s < w1.heap.size := S1.lt
  clear N1 hs
  by_cases h0 : r = 0
  · subst h0
    have N2 := hide (l1Next_any w1 s g a c xs (t + 1) 2 S1 R1 hne hb hl (by omega) (by omega) (by decide) (by decide))
    go_wp2_with fail
    refine N2.out.mono ?_
    rintro e w2 ⟨q, rfl, hq, S2, O2⟩
    go_wp2
    go_ret
    exact ⟨_, rfl, by constructor <;> omega, by rwa [show t + 1 + 1 = t + 2 by omega] at S2, But.ofOnly (O1.trans O2)⟩
  · by_cases h1 : r = 1
    · subst h1
      have N2 := hide (l1Next_any w1 s g a c xs (t + 1) 2 S1 R1 hne hb hl (by omega) (by omega) (by decide) (by decide))
      go_wp2_with fail
      refine N2.out.mono ?_
      rintro e w2 ⟨q, rfl, hq, S2, O2⟩
      go_wp2
      go_ret
      exact ⟨_, rfl, by constructor <;> omega, by rwa [show t + 1 + 1 = t + 2 by omega] at S2, But.ofOnly (O1.trans O2)⟩
    · have b0 : (r == 0) = false := by simpa using h0
      have b1 : (r == 1) = false := by simpa using h1
      have d0 : decide (r = 0) = false := by simpa using h0
      have d1 : decide (r = 1) = false := by simpa using h1
      clear h0 h1
      go_wp2_with fail
      have n2 : Below w1.heap.size w1 (w1.alloc (.cells #[.int .i64 1, .int .i64 2, .int .i64 4, .int .i64 12, .int .i64 24, .int .i64 48] 2)) := (Below.refl _ _).alloc (Nat.le_refl _) _
      have B2 : Blk (w1.alloc (.cells #[.int .i64 1, .int .i64 2, .int .i64 4, .int .i64 12, .int .i64 24, .int .i64 48] 2)) w1.heap.size .i64 [1, 2, 4, 12, 24, 48] := ⟨_, heap_alloc_new w1 _⟩
      generalize w1.alloc (.cells #[.int .i64 1, .int .i64 2, .int .i64 4, .int .i64 12, .int .i64 24, .int .i64 48] 2) = w2 at *
      refine (l1Next_any w2 s g a c xs (t + 1) 6 (S1.up n2) (R1.up n2) hne hb hl (by omega) (by omega) (by decide) (by decide)).mono ?_
      rintro e w3 ⟨q, rfl, hq, S3, O3⟩
      have B3 := B2.of_block (O3.block w1.heap.size (by omega))
      have FIN := hide (And.intro S3 ((But.ofOnly O1).trans ((But.ofBelow (g := s) n2).trans (But.ofOnly O3))))
      rw [show t + 1 + 1 = t + 2 by omega] at FIN
      have e0 := B3.cell (i := 0) (by decide)
      have e1 := B3.cell (i := 1) (by decide)
      have e2 := B3.cell (i := 2) (by decide)
      have e3 := B3.cell (i := 3) (by decide)
      have e4 := B3.cell (i := 4) (by decide)
      have e5 := B3.cell (i := 5) (by decide)
      clear B2 B3 n2 S1 S3 O1 O3 R1
      obtain rfl | rfl | rfl | rfl | rfl | rfl : q = 0 ∨ q = 1 ∨ q = 2 ∨ q = 3 ∨ q = 4 ∨ q = 5 := by omega
      all_goals
        go_wp2
        go_ret
        exact ⟨_, rfl, by decide, FIN.out.1, FIN.out.2⟩
end Go.Proofs.Ythkhfljoflffpaa
