
/-
  What FnIntegersBack draws.
-/
import Derived.Test.YtakcpkfofgiehaaDrB
import Derived.Test.YtakcpkfofgiehaaIeS
namespace Go.Proofs.Ytakcpkfofgiehaa
open Go Go.RowKit

theorem drawEncInt_any (w : World) (g : Nat) (a : Option Addr) (c : Nat) (xs : List Int) (hr : Rd w g a .u8 xs) (hb : Byt xs) (hl : xs.length ≤ 1048576) :
    Calls Try.prog 26 #[.slice a xs.length c] w fun e w' => ∃ v, e = .returned (.int .i64 v) ∧ (-9223372036854775808 ≤ v ∧ v < 9223372036854775808) ∧ Below w.heap.size w w' := by
  go_enter Try.func26, Try.ntmps26
  go_wp2_with fail
  refine (l1Source_any w a xs.length c hl).mono ?_
  rintro e w1 ⟨rfl, S1, n1⟩
  go_wp2_with fail
  refine (l10DrawInt_any w1 w.heap.size g a c xs 0 S1 (hr.up n1) (fun h => by have := hr.lt h; omega) hb hl (by decide) (by decide)).mono ?_
  rintro e w2 ⟨v, rfl, hv, O2⟩
  go_wp2
  go_ret
  exact ⟨v, rfl, hv, n1.trans (O2.below (Nat.le_refl _))⟩
theorem byt_set0 {ys : List Int} (h : Byt ys) (z : Int) (h0 : 0 ≤ z) (h1 : z < 256) : Byt (ys.set 0 z) := fun i => by
  by_cases e : 0 = i
  · subst e
    by_cases hl : 0 < ys.length
    · rw [getD_set_self _ _ _ hl]; exact ⟨h0, h1⟩
    · obtain rfl : ys = [] := List.eq_nil_of_length_eq_zero (by omega)
      simp
  · rw [getD_set_ne _ _ _ _ e]; exact h i

set_option maxHeartbeats 2000000 in
theorem drawDecInt_any (w : World) (g : Nat) (a : Option Addr) (c : Nat) (xs : List Int) (hr : Rd w g a .u8 xs) (hb : Byt xs) (hl : xs.length ≤ 1048576) :
    Calls Try.prog 28 #[.slice a xs.length c] w fun e w' => ∃ ys, Byt ys ∧ ys.length ≤ 9 ∧ NewRow w.heap.size w' e .u8 ys ∧ Below w.heap.size w w' := by
  have hne : 0 < xs.length → g ≠ w.heap.size := fun h => by have := hr.lt h; omega
  go_enter Try.func28, Try.ntmps28
  go_wp2_with fail
  refine (l1Source_any w a xs.length c hl).mono ?_
  rintro e w1 ⟨rfl, S1, n1⟩
  have R1 := hr.up n1
  go_wp2_with fail
  refine (l1Chance_any w1 w.heap.size g a c xs 0 3 S1 R1 hne hb hl (by decide) (by decide) (by decide) (by decide)).mono ?_
  rintro e w2 ⟨b1, rfl, S2, O2⟩
  have R2 := R1.but (But.ofOnly O2) hne
  have N2 : Below w.heap.size w w2 := n1.trans (O2.below (Nat.le_refl _))
  cases b1 with
  | false =>
    go_wp2_with fail
    refine (l10DrawInt_any w2 w.heap.size g a c xs _ S2 R2 hne hb hl (by decide) (by decide)).mono ?_
    rintro e w3 ⟨v, rfl, hv, O3⟩
    have N3 := N2.trans (O3.below (Nat.le_refl w.heap.size))
    have z3 := N3.size
    have hz := isz_bd v
    have EL := eiL_len v
    go_wp2_with fail
    refine (specEncodeInteger_any w3 v).mono ?_
    rintro e w4 ⟨⟨a4, c4, g4, rfl, o4, p4, q4, r4⟩, n4⟩
    have HEL := hide EL
    clear EL
    go_wp2
    go_ret
    exact ⟨eiL v, eiL_byt v, by rw [HEL.out]; omega, ⟨a4, c4, g4, rfl, o4, p4, q4, by omega⟩, nxt N3 n4⟩
  | true =>
    have z2 := N2.size
    go_wp2_with fail
    refine (l1Next_any w2 w.heap.size g a c xs _ 10 S2 R2 hne hb hl (by decide) (by decide) (by decide) (by decide)).mono ?_
    rintro e w3 ⟨n, rfl, hn, S3, O3⟩
    obtain ⟨n, rfl⟩ := Int.eq_ofNat_of_zero_le hn.1
    have R3 := R2.but (But.ofOnly O3) hne
    have N3 := N2.trans (O3.below (Nat.le_refl w.heap.size))
    go_wp2_with fail
    refine (l1DrawBytes_any w3 w.heap.size g a c xs _ n S3 R3 hne hb hl (by decide) (by omega)).mono ?_
    rintro e w4 ⟨ys, hys, yb, ⟨a4, c4, g4, rfl, o4, p4, q4, r4⟩, S4, B4⟩
    have z3 := N3.size
    have N4 := N3.trans (B4.below (B := w.heap.size) (Nat.le_refl _) (by omega))
    have R4 := R3.but B4 hne
    have sl := S4.lt
    have hyl : ys.length ≤ 9 := by omega
    have HYS := hide hys
    clear hys
    by_cases h0 : 0 < ys.length
    · have t0 : decide ((0 : Int) < (ys.length : Int)) = true := by simp; omega
      have t0' : (0 : Int) < (ys.length : Int) := by omega
      have C1 := hide (l1Chance_any w4 w.heap.size g a c xs _ 2 S4 R4 hne hb hl (by omega) (by omega) (by decide) (by decide))
      have g4s : g4 ≠ w.heap.size := by have := S3.lt; omega
      go_wp2_with fail
      refine C1.out.mono ?_
      rintro e w5 ⟨b2, rfl, S5, O5⟩
      have o5 := o4.only O5 (fun _ => g4s)
      have N5 := N4.trans (O5.below (Nat.le_refl w.heap.size))
      have R5 := R4.but (But.ofOnly O5) hne
      have C2 := hide (l1Chance_any w5 w.heap.size g a c xs _ 2 S5 R5 hne hb hl (by omega) (by omega) (by decide) (by decide))
      cases b2 with
      | true =>
        obtain ⟨off, rfl, hc⟩ := o5 h0
        obtain ⟨k1, k2⟩ := hc 0 h0
        rw [Nat.add_zero] at k1 k2
        have st := o5.store 0 h0 0
        rw [Nat.add_zero] at st
        have N9 : Below w.heap.size w (w5.setCell ⟨g4, off, none⟩ (.int .u8 0)) := N5.setCell (p := ⟨g4, off, none⟩) (by show w.heap.size ≤ g4; omega) _
        have yb' := byt_set0 yb 0 (by decide) (by decide)
        have yl : Hid ((ys.set 0 0).length = ys.length) := List.length_set ..
        clear hc
        generalize ys.getD 0 0 = y0 at *
        go_wp2
        go_ret
        exact ⟨ys.set 0 0, yb', by rw [yl.out]; exact hyl, ⟨_, c4, g4, by rw [yl.out]; rfl, st, p4, by rw [yl.out]; exact q4, by omega⟩, N9⟩
      | false =>
        go_wp2_with fail
        refine C2.out.mono ?_
        rintro e w6 ⟨b3, rfl, S6, O6⟩
        have o6 := o5.only O6 (fun _ => g4s)
        have N6 := N5.trans (O6.below (Nat.le_refl w.heap.size))
        cases b3 with
        | true =>
          obtain ⟨off, rfl, hc⟩ := o6 h0
          obtain ⟨k1, k2⟩ := hc 0 h0
          rw [Nat.add_zero] at k1 k2
          have st := o6.store 0 h0 255
          rw [Nat.add_zero] at st
          have N9 : Below w.heap.size w (w6.setCell ⟨g4, off, none⟩ (.int .u8 255)) := N6.setCell (p := ⟨g4, off, none⟩) (by show w.heap.size ≤ g4; omega) _
          have yb' := byt_set0 yb 255 (by decide) (by decide)
          have yl : Hid ((ys.set 0 255).length = ys.length) := List.length_set ..
          clear hc
          generalize ys.getD 0 0 = y0 at *
          go_wp2
          go_ret
          exact ⟨ys.set 0 255, yb', by rw [yl.out]; exact hyl, ⟨_, c4, g4, by rw [yl.out]; rfl, st, p4, by rw [yl.out]; exact q4, by omega⟩, N9⟩
        | false =>
          go_wp2
          go_ret
          exact ⟨ys, yb, hyl, ⟨a4, c4, g4, rfl, o6, p4, q4, by omega⟩, N6⟩
    · obtain rfl : ys = [] := List.eq_nil_of_length_eq_zero (by omega)
      go_wp2
      go_ret
      exact ⟨[], byt_nil, by simp, ⟨a4, c4, g4, rfl, o4, p4, q4, by omega⟩, N4⟩
end Go.Proofs.Ytakcpkfofgiehaa
