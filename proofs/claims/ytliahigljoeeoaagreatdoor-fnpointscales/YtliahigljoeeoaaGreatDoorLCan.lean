
/-
  FieldCanonical, the program's; the element of thirty-two bytes.
-/
import Derived.Test.YtliahigljoeeoaaGreatDoorSpF
import Derived.Test.YtliahigljoeeoaaGreatDoorElmB
namespace Go.Proofs.YtliahigljoeeoaaGreatDoor
set_option maxRecDepth 100000
open Go.RowKit

/-- What thirty-two bytes stand for. -/
abbrev num (xs : List Int) : Int := lsum (fun j => xs.getD j 0) xs.length

def canN (xs : List Int) : Bool := decide (xs.length = 32) && decide (num xs < PP)

theorem lsum_nonneg {a : Nat → Int} (h : Bt a) : ∀ k, 0 ≤ lsum a k
  | 0 => by simp [lsum]
  | k + 1 => by
    have ih := lsum_nonneg h k
    have := Int.mul_nonneg (h k).1 (Int.le_of_lt (p256_pos k))
    rw [lsum]; omega

/-- The element of thirty-two bytes. -/
def elt (xs : List Int) : Nat → Int := stl (rl (wv (fun j => xs.getD j 0) 32))

theorem elt_ok {xs : List Int} (hb : Byt xs) (hl : xs.length = 32) : Lm (elt xs) ∧ sv (elt xs) 5 = num xs % PP := by
  have hW : W4 (wv (fun j => xs.getD j 0) 32) := fun j _ => wv_lt hb 32 j
  obtain ⟨h1, h2⟩ := rl_ok hW
  obtain ⟨h3, h4⟩ := stl_ok h2
  refine ⟨h3, ?_⟩
  show sv (stl _) 5 = _
  rw [h4, h1, wv_sum _ 32 (by omega)]
  unfold num
  rw [hl]

set_option maxHeartbeats 1000000 in
theorem isFieldSize_any (w : World) (a : Option Addr) (c n : Nat) :
    Calls Tryz.prog 144 #[.slice a n c] w fun e w' => e = .returned (.bool (decide (n = 32))) ∧ w' = w := by
  by_cases h : n = 32
  · subst h
    go_enter Tryz.func144, Tryz.ntmps144
    go_wp2
    go_ret
    exact ⟨rfl, rfl⟩
  · have t : ((n : Int) == 32) = false := by simp; omega
    have R : Hid (decide (n = 32) = false) := by show _ = _; simp [h]
    clear h
    go_enter Tryz.func144, Tryz.ntmps144
    go_wp2
    go_ret
    exact ⟨by rw [R.out]; rfl, rfl⟩

set_option maxHeartbeats 4000000 in
theorem eqWords (a0 a1 a2 a3 b0 b1 b2 b3 : Int) (w : World) :
    (Op.equalIn 10000 52 (.agg #[.int .u64 a0, .int .u64 a1, .int .u64 a2, .int .u64 a3]) (.agg #[.int .u64 b0, .int .u64 b1, .int .u64 b2, .int .u64 b3])).run Tryz.prog w = .ok (a0 == b0 && a1 == b1 && a2 == b2 && a3 == b3) w := by
  have u3 := Tryz.underlying51
  have a3' := Tryz.isAgg51
  have z3 := Tryz.sizeOf51
  rw [show (10000 : Nat) = 9999 + 1 from rfl, Op.equalIn]
  simp only [Sem.run_bind, run_underlying Tryz.underlying52, Result.andThen_ok]
  simp only [Std.Legacy.Range.forIn_eq_forIn_range', Std.Legacy.Range.size, Nat.sub_zero, Nat.add_sub_cancel, Nat.div_one, List.range'_succ, List.range'_zero, List.forIn_cons, List.forIn_nil]
  go_simp
  by_cases h0 : a0 = b0 <;> by_cases h1 : a1 = b1 <;> by_cases h2 : a2 = b2 <;> by_cases h3 : a3 = b3 <;> simp [h0, h1, h2, h3]

set_option maxHeartbeats 2000000 in
theorem implFieldCanonical_any (w : World) (g : Nat) (a : Option Addr) (c : Nat) (xs : List Int) (hr : Rd w g a .u8 xs) (hb : Byt xs) :
    Calls Tryz.prog 111 #[.slice a xs.length c] w fun e w' => e = .returned (.bool (canN xs)) ∧ Below w.heap.size w w' := by
  by_cases hl : xs.length = 32
  · have T := isFieldSize_any w a c xs.length
    have E1 := elt_ok hb hl
    have R1 := fun w' n => readElement_any w' g a c xs (hr.up n) hb hl
    have R2 := fun w' n => readWords_any w' g a c xs (hr.up n) hb hl
    have K : canN xs = decide (num xs < PP) := by simp [canN, hl]
    have W1 : W4 (wv (fun j => xs.getD j 0) 32) := fun j _ => wv_lt hb 32 j
    have W2 : wval (wv (fun j => xs.getD j 0) 32) = num xs := by rw [wv_sum _ 32 (by omega)]; unfold num; rw [hl]
    have V0 : 0 ≤ num xs := lsum_nonneg hb _
    obtain ⟨k, hk⟩ : ∃ k, canN xs = k := ⟨_, rfl⟩
    have hK := hide K
    rw [hl] at T ⊢
    have hL := hide hl
    clear hl K
    go_enter Tryz.func111, Tryz.ntmps111
    go_wp2_with fail
    refine T.mono ?_
    rintro e w0 ⟨rfl, rfl⟩
    go_wp2_with fail
    refine (R1 w0 (Below.refl _ _)).mono ?_
    rintro e w1 ⟨rfl, n1⟩
    go_wp2_with fail
    refine (words_any w1 _ E1.1).mono ?_
    rintro e w2 ⟨rfl, n2⟩
    go_wp2_with fail
    refine (R2 w2 (nxt n1 n2)).mono ?_
    rintro e w3 ⟨rfl, n3⟩
    have Q : (lw (elt xs) 0 == wv (fun j => xs.getD j 0) 32 0 && lw (elt xs) 1 == wv (fun j => xs.getD j 0) 32 1 && lw (elt xs) 2 == wv (fun j => xs.getD j 0) 32 2 && lw (elt xs) 3 == wv (fun j => xs.getD j 0) 32 3) = canN xs := by
      obtain ⟨l1, l2⟩ := lw_ok E1.1
      rw [hK.out]
      by_cases hlt : num xs < PP
      · have e : wval (lw (elt xs)) = wval (wv (fun j => xs.getD j 0) 32) := by rw [l1, E1.2, W2, Int.emod_eq_of_lt V0 hlt]
        have h := l2.uniq W1 e
        rw [h 0 (by omega), h 1 (by omega), h 2 (by omega), h 3 (by omega)]
        simp [hlt]
      · by_cases h0 : lw (elt xs) 0 = wv (fun j => xs.getD j 0) 32 0 ∧ lw (elt xs) 1 = wv (fun j => xs.getD j 0) 32 1 ∧ lw (elt xs) 2 = wv (fun j => xs.getD j 0) 32 2 ∧ lw (elt xs) 3 = wv (fun j => xs.getD j 0) 32 3
        · exfalso
          obtain ⟨e0, e1, e2, e3⟩ := h0
          have e : wval (lw (elt xs)) = wval (wv (fun j => xs.getD j 0) 32) := by unfold wval; rw [e0, e1, e2, e3]
          rw [l1, E1.2, W2] at e
          have := Int.emod_lt_of_pos (num xs) (show (0 : Int) < PP by decide)
          omega
        · rw [decide_eq_false hlt]
          cases hq : (lw (elt xs) 0 == wv (fun j => xs.getD j 0) 32 0 && lw (elt xs) 1 == wv (fun j => xs.getD j 0) 32 1 && lw (elt xs) 2 == wv (fun j => xs.getD j 0) 32 2 && lw (elt xs) 3 == wv (fun j => xs.getD j 0) 32 3)
          · rfl
          · exfalso
            simp only [Bool.and_eq_true, beq_iff_eq] at hq
            exact h0 ⟨hq.1.1.1, hq.1.1.2, hq.1.2, hq.2⟩
    have N3 := nxt (nxt n1 n2) n3
    obtain ⟨U, hU⟩ : ∃ U, U = lw (elt xs) := ⟨_, rfl⟩
    obtain ⟨V, hV⟩ : ∃ V, V = wv (fun j => xs.getD j 0) 32 := ⟨_, rfl⟩
    have hU' : ag4 (lw (elt xs)) = ag4 U := by rw [hU]
    have hU2 : ag4 (lw (stl (rl (wv (fun j => xs.getD j 0) 32)))) = ag4 U := hU'
    have hV' : ag4 (wv (fun j => xs.getD j 0) 32) = ag4 V := by rw [hV]
    rw [← hU, ← hV] at Q
    first | rw [hU', hV'] | rw [hU2, hV']
    have eqw := eqWords (U 0) (U 1) (U 2) (U 3) (V 0) (V 1) (V 2) (V 3) w3
    rw [Q] at eqw
    clear hU' hU2 hV' hU hV R1 R2 E1 W1 W2 V0 Q hk k
    simp only [ag4]
    go_wp2
    go_ret
    exact ⟨rfl, N3⟩
  · have T := isFieldSize_any w a c xs.length
    have K : canN xs = false := by simp [canN, hl]
    have hK := hide K
    rw [decide_eq_false hl] at T
    clear K hl
    go_enter Tryz.func111, Tryz.ntmps111
    go_wp2_with fail
    refine T.mono ?_
    rintro e w0 ⟨rfl, rfl⟩
    go_wp2
    go_ret
    exact ⟨by rw [hK.out]; rfl, Below.refl _ _⟩

end Go.Proofs.YtliahigljoeeoaaGreatDoor
