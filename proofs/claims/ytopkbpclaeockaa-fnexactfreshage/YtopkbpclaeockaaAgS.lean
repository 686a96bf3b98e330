
/-
  Ages of tickets; the model's.
-/
import Derived.Test.YtopkbpclaeockaaAgI
import Derived.Test.YtopkbpclaeockaaTkS
namespace Go.Proofs.Ytopkbpclaeockaa
open Go Go.RowKit

set_option maxHeartbeats 1000000 in
theorem l16Number_any (w : World) (g : Nat) (a : Option Addr) (c : Nat) (xs : List Int) (hr : Rd w g a .u8 xs) (hb : Byt xs) (hl : xs.length = 32) :
    Calls Try.prog 16 #[.slice a 32 c] w fun e w' => e = .returned (.int .i64 (beN xs 0 4)) ∧ Below w.heap.size w w' := by
  have n1 : Below w.heap.size w (w.alloc (.cells #[.slice a xs.length c, .int .i64 0] 43)) := (Below.refl _ _).alloc (Nat.le_refl _) _
  have C0 : Cur (w.alloc (.cells #[.slice a xs.length c, .int .i64 0] 43)) w.heap.size (.slice a xs.length c) ((0 : Nat) : Int) := ⟨43, heap_alloc_new w _⟩
  have NM := hide (l13Number_any (w.alloc (.cells #[.slice a xs.length c, .int .i64 0] 43)) w.heap.size g a c xs 0 4 C0 (hr.up n1) hb (by omega) (by omega) (by omega))
  rw [nmV_small hb 0 4 (by decide)] at NM
  clear C0 hr hb
  generalize beN xs 0 4 = m at *
  rw [hl] at *
  go_enter Try.func16, Try.ntmps16
  go_wp2_with fail
  refine NM.out.mono ?_
  rintro e w1 ⟨rfl, C1, O1⟩
  have N2 := n1.trans (O1.below (B := w.heap.size) (Nat.le_refl _) n1.size)
  clear NM C1 O1 n1
  go_wp2
  go_ret
  exact ⟨rfl, N2⟩
set_option maxHeartbeats 2000000 in
theorem specAge_any (w : World) (g : Nat) (a : Option Addr) (c : Nat) (xs : List Int) (hr : Rd w g a .u8 xs) (hb : Byt xs) (s : Int) :
    Calls Try.prog 6 #[.slice a xs.length c, .int .i64 s] w fun e w' => e = .returned (.int .i64 (agV xs s)) ∧ Below w.heap.size w w' := by
  have e : Hid (agV xs s = if xs.length = 32 ∧ isAg s = true then (s + beN xs 0 4) % 4294967296 else -1) := rfl
  have ia := isAg_iff s
  generalize agV xs s = R at *
  by_cases h0 : xs.length = 32
  · have S := l16Number_any w g a c xs hr hb h0
    have r := beN_rng hb 0 4
    have r0 := r.1
    have r1 : beN xs 0 4 < 4294967296 := by have := r.2; simpa using this
    clear r hr hb
    generalize beN xs 0 4 = m at *
    by_cases h1 : s < 0
    · have e' : Hid (R = -1) := by show _ = _; rw [e.out, if_neg (fun h => by have := ia.1 h.2; omega)]
      clear e S ia
      rw [h0] at *
      go_enter Try.func6, Try.ntmps6
      go_wp2
      go_ret
      exact ⟨by rw [e'.out]; rfl, Below.refl _ _⟩
    · by_cases h2 : 4294967295 < s
      · have e' : Hid (R = -1) := by show _ = _; rw [e.out, if_neg (fun h => by have := ia.1 h.2; omega)]
        clear e S ia
        rw [h0] at *
        go_enter Try.func6, Try.ntmps6
        go_wp2
        go_ret
        exact ⟨by rw [e'.out]; rfl, Below.refl _ _⟩
      · have e' : Hid (R = (s + m) % 4294967296) := by show _ = _; rw [e.out, if_pos ⟨h0, ia.2 ⟨by omega, by omega⟩⟩]
        have tm : Hid (Int.tmod (s + m) 4294967296 = (s + m) % 4294967296) := Int.tmod_eq_emod_of_nonneg (by omega)
        clear e ia
        rw [h0] at *
        go_enter Try.func6, Try.ntmps6
        go_wp2_with fail
        refine S.mono ?_
        rintro e w2 ⟨rfl, n2⟩
        go_wp2
        go_ret
        exact ⟨by rw [e'.out]; rfl, n2⟩
  · have hi : ¬ (xs.length : Int) = 32 := by omega
    have e' : Hid (R = -1) := by show _ = _; rw [e.out, if_neg (fun h => h0 h.1)]
    clear hr hb e h0 ia
    go_enter Try.func6, Try.ntmps6
    go_wp2
    go_ret
    exact ⟨by rw [e'.out]; rfl, Below.refl _ _⟩
set_option maxHeartbeats 4000000 in
theorem specFresh_any (w : World) (g : Nat) (a : Option Addr) (c : Nat) (xs : List Int) (hr : Rd w g a .u8 xs) (hb : Byt xs) (n s d : Int) :
    Calls Try.prog 10 #[.slice a xs.length c, .int .i64 n, .int .i64 s, .int .i64 d] w fun e w' => e = .returned (.bool (frV xs n s d)) ∧ Below w.heap.size w w' := by
  have e : Hid (frV xs n s d = (decide (xs.length = 32) && isAg n && isAg s && isWd d && decide ((n - beN xs 0 4) % 4294967296 - s ≤ d) && decide (s - (n - beN xs 0 4) % 4294967296 ≤ d))) := rfl
  unfold isAg isWd at e
  generalize frV xs n s d = R at *
  by_cases h0 : xs.length = 32
  · have S := l16Number_any w g a c xs hr hb h0
    have r := beN_rng hb 0 4
    have r0 := r.1
    have r1 : beN xs 0 4 < 4294967296 := by have := r.2; simpa using this
    clear r hr hb
    generalize beN xs 0 4 = m at *
    rw [h0] at *
    by_cases h1 : n < 0
    · have e' : Hid (R = false) := by show _ = _; rw [e.out]; simp; omega
      clear e S
      go_enter Try.func10, Try.ntmps10
      go_wp2
      go_ret
      exact ⟨by rw [e'.out]; rfl, Below.refl _ _⟩
    · skip
      by_cases h2 : 4294967295 < n
      · have e' : Hid (R = false) := by show _ = _; rw [e.out]; simp; omega
        clear e S
        go_enter Try.func10, Try.ntmps10
        go_wp2
        go_ret
        exact ⟨by rw [e'.out]; rfl, Below.refl _ _⟩
      · skip
        by_cases h3 : s < 0
        · have e' : Hid (R = false) := by show _ = _; rw [e.out]; simp; omega
          clear e S
          go_enter Try.func10, Try.ntmps10
          go_wp2
          go_ret
          exact ⟨by rw [e'.out]; rfl, Below.refl _ _⟩
        · skip
          by_cases h4 : 4294967295 < s
          · have e' : Hid (R = false) := by show _ = _; rw [e.out]; simp; omega
            clear e S
            go_enter Try.func10, Try.ntmps10
            go_wp2
            go_ret
            exact ⟨by rw [e'.out]; rfl, Below.refl _ _⟩
          · skip
            by_cases h5 : d < 0
            · have e' : Hid (R = false) := by show _ = _; rw [e.out]; simp; omega
              clear e S
              go_enter Try.func10, Try.ntmps10
              go_wp2
              go_ret
              exact ⟨by rw [e'.out]; rfl, Below.refl _ _⟩
            · skip
              by_cases h6 : 86400 < d
              · have e' : Hid (R = false) := by show _ = _; rw [e.out]; simp; omega
                clear e S
                go_enter Try.func10, Try.ntmps10
                go_wp2
                go_ret
                exact ⟨by rw [e'.out]; rfl, Below.refl _ _⟩
              · skip
                by_cases h7 : n - m < 0
                · have q : Hid ((n - m) % 4294967296 = n - m + 4294967296) := by show _ = _; omega
                  rw [q.out] at e
                  clear q
                  go_enter Try.func10, Try.ntmps10
                  go_wp2_with fail
                  refine S.mono ?_
                  rintro e1 w2 ⟨rfl, n2⟩
                  clear S
                  go_wp2
                  all_goals
                    go_ret
                    refine ⟨?_, n2⟩
                    rw [e.out]
                    show Ending.returned (.bool _) = _
                    congr 2
                    rw [Bool.eq_iff_iff]
                    simp
                    omega
                · have q : Hid ((n - m) % 4294967296 = n - m) := by show _ = _; omega
                  rw [q.out] at e
                  clear q
                  go_enter Try.func10, Try.ntmps10
                  go_wp2_with fail
                  refine S.mono ?_
                  rintro e1 w2 ⟨rfl, n2⟩
                  clear S
                  go_wp2
                  all_goals
                    go_ret
                    refine ⟨?_, n2⟩
                    rw [e.out]
                    show Ending.returned (.bool _) = _
                    congr 2
                    rw [Bool.eq_iff_iff]
                    simp
                    omega
  · have hi : ¬ (xs.length : Int) = 32 := by omega
    have e' : Hid (R = false) := by show _ = _; rw [e.out]; simp [h0]
    clear hr hb e h0
    go_enter Try.func10, Try.ntmps10
    go_wp2
    go_ret
    exact ⟨by rw [e'.out]; rfl, Below.refl _ _⟩
end Go.Proofs.Ytopkbpclaeockaa
