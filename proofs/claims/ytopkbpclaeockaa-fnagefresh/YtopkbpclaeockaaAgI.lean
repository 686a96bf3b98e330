
/-
  Ages of tickets; the program's.
-/
import Derived.Test.YtopkbpclaeockaaNmA
namespace Go.Proofs.Ytopkbpclaeockaa
open Go Go.RowKit

def isAg (n : Int) : Bool := decide (0 ≤ n) && decide (n ≤ 4294967295)
def isWd (n : Int) : Bool := decide (0 ≤ n) && decide (n ≤ 86400)
theorem isAg_iff (n : Int) : isAg n = true ↔ 0 ≤ n ∧ n ≤ 4294967295 := by simp [isAg]
theorem isWd_iff (n : Int) : isWd n = true ↔ 0 ≤ n ∧ n ≤ 86400 := by simp [isWd]
theorem isAge_any (w : World) (n : Int) : Calls Try.prog 17 #[.int .i64 n] w fun e w' => e = .returned (.bool (isAg n)) ∧ w' = w := by
  by_cases h : 0 ≤ n
  · have u : decide (0 ≤ n) = true := decide_eq_true h
    unfold isAg
    rw [u]
    go_enter Try.func17, Try.ntmps17
    go_wp2
    go_ret
    exact ⟨by simp, rfl⟩
  · have u : decide (0 ≤ n) = false := decide_eq_false h
    unfold isAg
    rw [u]
    go_enter Try.func17, Try.ntmps17
    go_wp2
    go_ret
    exact ⟨by simp, rfl⟩
theorem isWidth_any (w : World) (n : Int) : Calls Try.prog 19 #[.int .i64 n] w fun e w' => e = .returned (.bool (isWd n)) ∧ w' = w := by
  by_cases h : 0 ≤ n
  · have u : decide (0 ≤ n) = true := decide_eq_true h
    unfold isWd
    rw [u]
    go_enter Try.func19, Try.ntmps19
    go_wp2
    go_ret
    exact ⟨by simp, rfl⟩
  · have u : decide (0 ≤ n) = false := decide_eq_false h
    unfold isWd
    rw [u]
    go_enter Try.func19, Try.ntmps19
    go_wp2
    go_ret
    exact ⟨by simp, rfl⟩
set_option maxHeartbeats 1000000 in
theorem ageShift_any (w : World) (g : Nat) (a : Option Addr) (c : Nat) (xs : List Int) (hr : Rd w g a .u8 xs) (hb : Byt xs) (hl : xs.length = 32) :
    Calls Try.prog 18 #[.slice a 32 c] w fun e w' => e = .returned (.int .u32 (beN xs 0 4)) ∧ Below w.heap.size w w' := by
  have n1 : Below w.heap.size w (w.alloc (.cells #[.slice a xs.length c, .int .i64 0] 46)) := (Below.refl _ _).alloc (Nat.le_refl _) _
  have C0 : Cur (w.alloc (.cells #[.slice a xs.length c, .int .i64 0] 46)) w.heap.size (.slice a xs.length c) 0 := ⟨46, heap_alloc_new w _⟩
  have NM := hide (number_any (w.alloc (.cells #[.slice a xs.length c, .int .i64 0] 46)) w.heap.size g a c xs 0 4 C0 (hr.up n1) hb (fun h => by have := hr.lt h; omega) (by omega) (by omega) (by omega))
  have r := beN_rng hb 0 4
  have r0 := r.1
  have r1 : beN xs 0 4 < 4294967296 := by have := r.2; simpa using this
  have hw : IntKind.u32.wrap (beN xs 0 4) = beN xs 0 4 := by
    rw [IntKind.wrap_u32]; omega
  clear r C0 hr hb
  generalize beN xs 0 4 = m at *
  rw [hl] at *
  go_enter Try.func18, Try.ntmps18
  go_wp2_with fail
  refine NM.out.mono ?_
  rintro e w1 ⟨rfl, C1, O1⟩
  have N2 := n1.trans (O1.below (B := w.heap.size) (Nat.le_refl _))
  clear NM C1 O1 n1
  go_wp2
  go_ret
  exact ⟨by first | rfl | rw [hw], N2⟩
def agV (xs : List Int) (s : Int) : Int := if xs.length = 32 ∧ isAg s = true then (s + beN xs 0 4) % 4294967296 else -1
def frV (xs : List Int) (n s d : Int) : Bool := decide (xs.length = 32) && isAg n && isAg s && isWd d && decide ((n - beN xs 0 4) % 4294967296 - s ≤ d) && decide (s - (n - beN xs 0 4) % 4294967296 ≤ d)
set_option maxHeartbeats 1000000 in
theorem implAge_any (w : World) (g : Nat) (a : Option Addr) (c : Nat) (xs : List Int) (hr : Rd w g a .u8 xs) (hb : Byt xs) (s : Int) :
    Calls Try.prog 8 #[.slice a xs.length c, .int .i64 s] w fun e w' => e = .returned (.int .i64 (agV xs s)) ∧ Below w.heap.size w w' := by
  have A := isAge_any w s
  have e : Hid (agV xs s = if xs.length = 32 ∧ isAg s = true then (s + beN xs 0 4) % 4294967296 else -1) := rfl
  generalize agV xs s = R at *
  by_cases h0 : xs.length = 32
  · have S := ageShift_any w g a c xs hr hb h0
    have r := beN_rng hb 0 4
    have r0 := r.1
    have r1 : beN xs 0 4 < 4294967296 := by have := r.2; simpa using this
    by_cases h1 : isAg s = true
    · have e' : Hid (R = (s + beN xs 0 4) % 4294967296) := by show _ = _; rw [e.out, if_pos ⟨h0, h1⟩]
      have hs := (isAg_iff s).1 h1
      have s0 := hs.1
      have s1 := hs.2
      rw [h1] at A
      clear hr hb r e hs h1
      generalize beN xs 0 4 = m at *
      rw [h0] at *
      go_enter Try.func8, Try.ntmps8
      go_wp2_with fail
      refine A.mono ?_
      rintro e w1 ⟨rfl, rfl⟩
      go_wp2_with fail
      refine S.mono ?_
      rintro e w2 ⟨rfl, n2⟩
      go_wp2
      go_ret
      exact ⟨by rw [e'.out]; rfl, n2⟩
    · have h1 : isAg s = false := by simpa using h1
      have e' : Hid (R = -1) := by show _ = _; rw [e.out, if_neg (fun h => by rw [h1] at h; exact absurd h.2 (by decide))]
      rw [h1] at A
      clear hr hb r e S r0 r1 h1
      rw [h0] at *
      go_enter Try.func8, Try.ntmps8
      go_wp2_with fail
      refine A.mono ?_
      rintro e w1 ⟨rfl, rfl⟩
      go_wp2
      go_ret
      exact ⟨by rw [e'.out]; rfl, Below.refl _ _⟩
  · have u : decide ((xs.length : Int) = 32) = false := decide_eq_false (by omega)
    have u' : ((xs.length : Int) == 32) = false := beq_eq_false_iff_ne.2 (by omega)
    have e' : Hid (R = -1) := by show _ = _; rw [e.out, if_neg (fun h => h0 h.1)]
    have hi : ¬ (xs.length : Int) = 32 := by omega
    clear hr hb e A h0
    go_enter Try.func8, Try.ntmps8
    go_wp2
    go_ret
    exact ⟨by rw [e'.out]; rfl, Below.refl _ _⟩
set_option maxHeartbeats 2000000 in
theorem implFresh_any (w : World) (g : Nat) (a : Option Addr) (c : Nat) (xs : List Int) (hr : Rd w g a .u8 xs) (hb : Byt xs) (n s d : Int) :
    Calls Try.prog 11 #[.slice a xs.length c, .int .i64 n, .int .i64 s, .int .i64 d] w fun e w' => e = .returned (.bool (frV xs n s d)) ∧ Below w.heap.size w w' := by
  have A := isAge_any w n
  have B := isAge_any w s
  have D := isWidth_any w d
  have e : Hid (frV xs n s d = (decide (xs.length = 32) && isAg n && isAg s && isWd d && decide ((n - beN xs 0 4) % 4294967296 - s ≤ d) && decide (s - (n - beN xs 0 4) % 4294967296 ≤ d))) := rfl
  generalize frV xs n s d = R at *
  by_cases h0 : xs.length = 32
  · have S := ageShift_any w g a c xs hr hb h0
    have r := beN_rng hb 0 4
    have r0 := r.1
    have r1 : beN xs 0 4 < 4294967296 := by have := r.2; simpa using this
    clear r hr hb
    generalize beN xs 0 4 = m at *
    rw [h0] at *
    by_cases h1 : isAg n = true
    · have hn := (isAg_iff n).1 h1
      have x0 := hn.1
      have x1 := hn.2
      rw [h1] at A e
      by_cases h2 : isAg s = true
      · have hs := (isAg_iff s).1 h2
        have y0 := hs.1
        have y1 := hs.2
        rw [h2] at B e
        by_cases h3 : isWd d = true
        · have hd := (isWd_iff d).1 h3
          have z0 := hd.1
          have z1 := hd.2
          rw [h3] at D e
          clear hn hs hd h1 h2 h3
          have q0 : 0 ≤ (n - m) % 4294967296 := by omega
          have q1 : (n - m) % 4294967296 < 4294967296 := by omega
          go_enter Try.func11, Try.ntmps11
          go_wp2_with fail
          refine A.mono ?_
          rintro e1 w1 ⟨rfl, rfl⟩
          go_wp2_with fail
          refine B.mono ?_
          rintro e1 w1 ⟨rfl, rfl⟩
          go_wp2_with fail
          refine D.mono ?_
          rintro e1 w1 ⟨rfl, rfl⟩
          go_wp2_with fail
          refine S.mono ?_
          rintro e2 w2 ⟨rfl, n2⟩
          go_wp2
          all_goals
            go_ret
            refine ⟨?_, n2⟩
            rw [e.out]
            show Ending.returned (.bool _) = _
            congr 2
            rw [Bool.eq_iff_iff]
            simp
            omega
        · have e' : Hid (R = false) := by show _ = _; rw [e.out]; simp [h3]
          rw [show isWd d = false by simpa using h3] at D
          go_enter Try.func11, Try.ntmps11
          go_wp2_with fail
          refine A.mono ?_
          rintro e1 w1 ⟨rfl, rfl⟩
          go_wp2_with fail
          refine B.mono ?_
          rintro e1 w1 ⟨rfl, rfl⟩
          go_wp2_with fail
          refine D.mono ?_
          rintro e1 w1 ⟨rfl, rfl⟩
          go_wp2
          go_ret
          exact ⟨by rw [e'.out]; rfl, Below.refl _ _⟩
      · have e' : Hid (R = false) := by show _ = _; rw [e.out]; simp [h2]
        rw [show isAg s = false by simpa using h2] at B
        go_enter Try.func11, Try.ntmps11
        go_wp2_with fail
        refine A.mono ?_
        rintro e1 w1 ⟨rfl, rfl⟩
        go_wp2_with fail
        refine B.mono ?_
        rintro e1 w1 ⟨rfl, rfl⟩
        go_wp2
        go_ret
        exact ⟨by rw [e'.out]; rfl, Below.refl _ _⟩
    · have e' : Hid (R = false) := by show _ = _; rw [e.out]; simp [h1]
      rw [show isAg n = false by simpa using h1] at A
      go_enter Try.func11, Try.ntmps11
      go_wp2_with fail
      refine A.mono ?_
      rintro e1 w1 ⟨rfl, rfl⟩
      go_wp2
      go_ret
      exact ⟨by rw [e'.out]; rfl, Below.refl _ _⟩
  · have e' : Hid (R = false) := by show _ = _; rw [e.out]; simp [h0]
    have u : decide ((xs.length : Int) = 32) = false := decide_eq_false (by omega)
    have u' : ((xs.length : Int) == 32) = false := beq_eq_false_iff_ne.2 (by omega)
    go_enter Try.func11, Try.ntmps11
    go_wp2
    go_ret
    exact ⟨by rw [e'.out]; rfl, Below.refl _ _⟩
end Go.Proofs.Ytopkbpclaeockaa
