/-
  A number that is drawn.
-/
import Derived.Test.YthdjopkmlcdoeaaDraw
namespace Go.Proofs.Ythdjopkmlcdoeaa
open Go.RowKit

theorem But.setCell {g b off : Nat} {a w : World} {u : Value} (h : But g a w) (hb : a.heap.size ≤ b) : But g a (w.setCell ⟨b, off, none⟩ u) :=
  ⟨h.os, h.tape, h.output, by simpa [World.setCell] using h.size, fun k hk hne => (heap_setCell_other w ⟨b, off, none⟩ k u (by show k ≠ b; omega)).trans (h.block k hk hne)⟩

set_option maxHeartbeats 400000 in
theorem l1Source_any (w : World) (a : Option Addr) (n c : Nat) (hn : n ≤ 1048576) :
    Calls Try.prog 68 #[.slice a n c] w fun e w' => e = .returned (.pointer (some ⟨w.heap.size, 0, none⟩)) ∧ Src w' w.heap.size a n c 0 ∧ Below w.heap.size w w' := by
  by_cases h : 12 < (n : Int) / 16
  · have t1 : decide (12 < (n : Int) / 16) = true := by simp; omega
    go_enter Try.func68, Try.ntmps68
    go_wp2
    go_ret
    exact ⟨rfl, ⟨by simp [World.cell?_alloc_at], by simp [World.cell?_alloc_at], by simp [World.frozen?_alloc_at]⟩, (Below.refl _ _).alloc (Nat.le_refl _) _⟩
  · have t1 : decide (12 < (n : Int) / 16) = false := by simp; omega
    go_enter Try.func68, Try.ntmps68
    go_wp2
    go_ret
    exact ⟨rfl, ⟨by simp [World.cell?_alloc_at], by simp [World.cell?_alloc_at], by simp [World.frozen?_alloc_at]⟩, (Below.refl _ _).alloc (Nat.le_refl _) _⟩

set_option maxHeartbeats 400000 in
theorem l1Chance_any (w : World) (s g : Nat) (a : Option Addr) (c : Nat) (xs : List Int) (t n : Int) (hs : Src w s a xs.length c t) (hr : Rd w g a .u8 xs) (hne : 0 < xs.length → g ≠ s) (hb : Byt xs) (hl : xs.length ≤ 1048576)
    (t0 : 0 ≤ t) (t1 : t ≤ 1048576) (n0 : 1 ≤ n) (n1 : n ≤ 1048576) :
    Calls Try.prog 70 #[.pointer (some ⟨s, 0, none⟩), .int .i64 n] w fun e w' => ∃ b, e = .returned (.bool b) ∧ Src w' s a xs.length c (t + 1) ∧ Only s w w' := by
  go_enter Try.func70, Try.ntmps70
  go_wp2_with fail
  refine (l1Next_any w s g a c xs t n hs hr hne hb hl t0 t1 n0 n1).mono ?_
  rintro e w1 ⟨r, rfl, _, S1, O1⟩
  go_wp2
  go_ret
  exact ⟨_, rfl, S1, O1⟩

set_option maxHeartbeats 8000000 in
theorem l1DrawNum_any (w : World) (s g : Nat) (a : Option Addr) (c : Nat) (xs : List Int) (t most : Int) (hs : Src w s a xs.length c t) (hr : Rd w g a .u8 xs) (hne : 0 < xs.length → g ≠ s) (hb : Byt xs) (hl : xs.length ≤ 1048576)
    (t0 : 0 ≤ t) (t1 : t ≤ 500000) (m0 : 0 ≤ most) (m1 : most ≤ 1000) :
    Calls Try.prog 69 #[.pointer (some ⟨s, 0, none⟩), .int .i64 most] w fun e w' => ∃ ys t', Byt ys ∧ ys.length ≤ 2000 ∧ NewRow w.heap.size w' e .u8 ys ∧ Src w' s a xs.length c t' ∧ (0 ≤ t' ∧ t' ≤ t + 2000) ∧ But s w w' := by
  have sl := hs.lt
  go_enter Try.func69, Try.ntmps69
  go_wp2_with fail
  refine (l1Next_any w s g a c xs t (most + 1) hs hr hne hb hl t0 (by omega) (by omega) (by omega)).mono ?_
  rintro e w1 ⟨r1, rfl, ⟨ra, rb⟩, S1, O1⟩
  have N1 := But.ofOnly O1
  go_wp2_with fail
  refine (l1Chance_any w1 s g a c xs (t + 1) 3 S1 (hr.but N1 hne) hne hb hl (by omega) (by omega) (by decide) (by decide)).mono ?_
  rintro e w2 ⟨b1, rfl, S2, O2⟩
  have N2 := N1.only O2
  clear O1 O2 S1 N1
  cases b1
  · obtain ⟨m, rfl⟩ := Int.eq_ofNat_of_zero_le ra
    obtain ⟨t2, ht2⟩ : ∃ t2, t2 = t + 1 + 1 := ⟨_, rfl⟩
    rw [← ht2] at S2
    have T2 : t ≤ t2 ∧ t2 ≤ t + 3 := by omega
    have M2 : m ≤ 1000 := by omega
    clear ht2
    go_wp2_with fail
    obtain ⟨w3, hw3⟩ : ∃ w3, w3 = w2 := ⟨_, rfl⟩
    subst hw3
    refine (l1DrawBytes_any w3 s g a c xs t2 m S2 (hr.but N2 hne) hne hb hl (by omega) (by omega)).mono ?_
    rintro e w4 ⟨y0, hy0, hyb0, ⟨a1, c1, g1, rfl, o4, p4, q4, r4⟩, S4, N4⟩
    have N4' := N2.trans N4
    have gl : w.heap.size ≤ g1 := by have := N2.size; omega
    subst hy0
    clear N2 N4
    go_wp2_with fail
    refine (l1Next_any w4 s g a c xs (t2 + (y0.length : Int)) 12 S4 (hr.but N4' hne) hne hb hl (by omega) (by omega) (by decide) (by decide)).mono ?_
    rintro e w5 ⟨q, rfl, ⟨qa, qb⟩, S5, O5⟩
    have N5 := N4'.only O5
    have o5 := o4.only O5 (fun _ => by omega)
    obtain ⟨t3, ht3⟩ : ∃ t3, t3 = t2 + (y0.length : Int) + 1 := ⟨_, rfl⟩
    rw [← ht3] at S5
    have T3 : t ≤ t3 ∧ t3 ≤ t + 1004 := by omega
    clear ht3 S4 O5 o4 N4'
    go_wp2
    go_loopw [8] (fun i wr => ∃ (j : Nat) (ys : List Int), j ≤ y0.length ∧ i = .int .i64 j ∧ Hid (ys.length = y0.length) ∧ Byt ys ∧ Own wr g1 a1 .u8 ys ∧ Src wr s a xs.length c t3 ∧ But s w wr) (fun i _ => y0.length - (intOf i).toNat)
    case atStart => exact ⟨0, y0, Nat.zero_le _, rfl, rfl, hyb0, o5, S5, N5⟩
    case round =>
      obtain ⟨j, ys, hj, rfl, hyl, hyb, o5, S5, N5⟩ := hrel
      by_cases hlt : j < y0.length
      · have hjl : j < ys.length := by rw [hyl.out]; exact hlt
        obtain ⟨off, rfl, hcc⟩ := o5 (by omega)
        obtain ⟨hcy, hfy⟩ := hcc j hjl
        have oS := fun v => o5.store j hjl v
        have sS : ∀ v, Src (wr.setCell ⟨g1, off + j, none⟩ v) s a xs.length c t3 := fun v => S5.of_block (heap_setCell_other wr ⟨g1, off + j, none⟩ s v (by show s ≠ g1; omega))
        have nS : ∀ v, But s w (wr.setCell ⟨g1, off + j, none⟩ v) := fun v => N5.setCell gl
        have hyS : ∀ v, Hid ((ys.set j v).length = y0.length) := fun v => by show _ = _; rw [List.length_set]; exact hyl.out
        clear hcc
        rcases (show q = 0 ∨ q = 1 ∨ q = 2 ∨ q = 3 ∨ 3 < q by omega) with h | h | h | h | h
        · subst h
          go_wp2
          go_roundw
          case rel => exact ⟨j + 1, _, by omega, by go_num, hyS _, byt_set hyb j 255 (by decide) (by decide), oS _, sS _, nS _⟩
          case measure => simp [intOf]; omega
        · subst h
          by_cases h2 : 0 < (j : Int)
          · have u1 : decide (0 < (j : Int)) = true := by simp; omega
            go_wp2
            go_roundw
            case rel => exact ⟨j + 1, _, by omega, by go_num, hyS _, byt_set hyb j 0 (by decide) (by decide), oS _, sS _, nS _⟩
            case measure => simp [intOf]; omega
          · have u1 : decide (0 < (j : Int)) = false := by simp; omega
            go_wp2
            go_roundw
            case rel => exact ⟨j + 1, ys, by omega, by go_num, hyl, hyb, o5, S5, N5⟩
            case measure => simp [intOf]; omega
        · subst h
          by_cases h2 : (j : Int) < (y0.length : Int) / 2
          · have u1 : decide ((j : Int) < (y0.length : Int) / 2) = true := by simp; omega
            go_wp2
            go_roundw
            case rel => exact ⟨j + 1, _, by omega, by go_num, hyS _, byt_set hyb j 0 (by decide) (by decide), oS _, sS _, nS _⟩
            case measure => simp [intOf]; omega
          · have u1 : decide ((j : Int) < (y0.length : Int) / 2) = false := by simp; omega
            go_wp2
            go_roundw
            case rel => exact ⟨j + 1, ys, by omega, by go_num, hyl, hyb, o5, S5, N5⟩
            case measure => simp [intOf]; omega
        · subst h
          by_cases h2 : 1 < (j : Int)
          · have u1 : decide (1 < (j : Int)) = true := by simp; omega
            by_cases h3 : (j : Int) < (y0.length : Int) - 1
            · have u2 : decide ((j : Int) < (y0.length : Int) - 1) = true := by simp; omega
              go_wp2
              go_roundw
              case rel => exact ⟨j + 1, _, by omega, by go_num, hyS _, byt_set hyb j 255 (by decide) (by decide), oS _, sS _, nS _⟩
              case measure => simp [intOf]; omega
            · have u2 : decide ((j : Int) < (y0.length : Int) - 1) = false := by simp; omega
              go_wp2
              go_roundw
              case rel => exact ⟨j + 1, ys, by omega, by go_num, hyl, hyb, o5, S5, N5⟩
              case measure => simp [intOf]; omega
          · have u1 : decide (1 < (j : Int)) = false := by simp; omega
            go_wp2
            go_roundw
            case rel => exact ⟨j + 1, ys, by omega, by go_num, hyl, hyb, o5, S5, N5⟩
            case measure => simp [intOf]; omega
        · have v0 : (q == 0) = false := beq_eq_false_iff_ne.2 (by omega)
          have v1 : (q == 1) = false := beq_eq_false_iff_ne.2 (by omega)
          have v2 : (q == 2) = false := beq_eq_false_iff_ne.2 (by omega)
          have v3 : (q == 3) = false := beq_eq_false_iff_ne.2 (by omega)
          go_wp2
          go_roundw
          case rel => exact ⟨j + 1, ys, by omega, by go_num, hyl, hyb, o5, S5, N5⟩
          case measure => simp [intOf]; omega
      · obtain rfl : j = y0.length := by omega
        have hr6 := hr.but N5 hne
        go_wp2_with fail
        refine (l1Chance_any wr s g a c xs t3 25 S5 hr6 hne hb hl (by omega) (by omega) (by decide) (by decide)).mono ?_
        rintro e w6 ⟨b6, rfl, S6, O6⟩
        have N6 := N5.only O6
        have o6 := o5.only O6 (fun _ => by omega)
        cases b6
        · clear o5 S5 N5 O6
          go_wp2
          go_ret
          exact ⟨ys, t3 + 1, hyb, by rw [hyl.out]; omega, ⟨_, _, g1, ret_slice hyl.out.symm, o6, p4, by rw [hyl.out]; exact q4, gl⟩, S6, ⟨by omega, by omega⟩, N6⟩
        · clear o5 S5 N5 O6
          go_wp2_with fail
          refine (l1Next_any w6 s g a c xs (t3 + 1) 2 S6 (hr.but N6 hne) hne hb hl (by omega) (by omega) (by decide) (by decide)).mono ?_
          rintro e w7 ⟨r7, rfl, ⟨rx, ry⟩, S7, O7⟩
          have N7 := N6.only O7
          obtain ⟨m7, rfl⟩ := Int.eq_ofNat_of_zero_le rx
          have e7 : (128 : Int) + (m7 : Int) = ((128 + m7 : Nat) : Int) := by omega
          have E7 := hide e7
          clear e7 S6 N6 O7
          go_wp2_with fail
          rw [E7.out]
          refine (l1DrawBytes_any w7 s g a c xs (t3 + 1 + 1) (128 + m7) S7 (hr.but N7 hne) hne hb hl (by omega) (by omega)).mono ?_
          rintro e w8 ⟨y8, hy8, hyb8, ⟨a8, c8, g8, rfl, o8, p8, q8, r8⟩, S8, N8⟩
          have N9 := N7.trans N8
          have s7 := N7.size
          go_wp2
          go_ret
          exact ⟨y8, _, hyb8, by omega, ⟨_, _, g8, ret_slice hy8.symm, o8, p8, q8, by omega⟩, S8, ⟨by omega, by omega⟩, N9⟩
  · go_wp2_with fail
    refine (l1Next_any w2 s g a c xs (t + 1 + 1) 6 S2 (hr.but N2 hne) hne hb hl (by omega) (by omega) (by decide) (by decide)).mono ?_
    rintro e w3 ⟨r2, rfl, ⟨rc, rd⟩, S3, O3⟩
    have N3 := N2.only O3
    obtain ⟨m, rfl⟩ := Int.eq_ofNat_of_zero_le rc
    obtain ⟨t2, ht2⟩ : ∃ t2, t2 = t + 1 + 1 + 1 := ⟨_, rfl⟩
    rw [← ht2] at S3
    have T2 : t ≤ t2 ∧ t2 ≤ t + 3 := by omega
    have M2 : m ≤ 1000 := by omega
    clear ht2 N2 S2 O3
    have S2 := S3
    have N2 := N3
    clear S3 N3
    go_wp2_with fail
    refine (l1DrawBytes_any w3 s g a c xs t2 m S2 (hr.but N2 hne) hne hb hl (by omega) (by omega)).mono ?_
    rintro e w4 ⟨y0, hy0, hyb0, ⟨a1, c1, g1, rfl, o4, p4, q4, r4⟩, S4, N4⟩
    have N4' := N2.trans N4
    have gl : w.heap.size ≤ g1 := by have := N2.size; omega
    subst hy0
    clear N2 N4
    go_wp2_with fail
    refine (l1Next_any w4 s g a c xs (t2 + (y0.length : Int)) 12 S4 (hr.but N4' hne) hne hb hl (by omega) (by omega) (by decide) (by decide)).mono ?_
    rintro e w5 ⟨q, rfl, ⟨qa, qb⟩, S5, O5⟩
    have N5 := N4'.only O5
    have o5 := o4.only O5 (fun _ => by omega)
    obtain ⟨t3, ht3⟩ : ∃ t3, t3 = t2 + (y0.length : Int) + 1 := ⟨_, rfl⟩
    rw [← ht3] at S5
    have T3 : t ≤ t3 ∧ t3 ≤ t + 1004 := by omega
    clear ht3 S4 O5 o4 N4'
    go_wp2
    go_loopw [8] (fun i wr => ∃ (j : Nat) (ys : List Int), j ≤ y0.length ∧ i = .int .i64 j ∧ Hid (ys.length = y0.length) ∧ Byt ys ∧ Own wr g1 a1 .u8 ys ∧ Src wr s a xs.length c t3 ∧ But s w wr) (fun i _ => y0.length - (intOf i).toNat)
    case atStart => exact ⟨0, y0, Nat.zero_le _, rfl, rfl, hyb0, o5, S5, N5⟩
    case round =>
      obtain ⟨j, ys, hj, rfl, hyl, hyb, o5, S5, N5⟩ := hrel
      by_cases hlt : j < y0.length
      · have hjl : j < ys.length := by rw [hyl.out]; exact hlt
        obtain ⟨off, rfl, hcc⟩ := o5 (by omega)
        obtain ⟨hcy, hfy⟩ := hcc j hjl
        have oS := fun v => o5.store j hjl v
        have sS : ∀ v, Src (wr.setCell ⟨g1, off + j, none⟩ v) s a xs.length c t3 := fun v => S5.of_block (heap_setCell_other wr ⟨g1, off + j, none⟩ s v (by show s ≠ g1; omega))
        have nS : ∀ v, But s w (wr.setCell ⟨g1, off + j, none⟩ v) := fun v => N5.setCell gl
        have hyS : ∀ v, Hid ((ys.set j v).length = y0.length) := fun v => by show _ = _; rw [List.length_set]; exact hyl.out
        clear hcc
        rcases (show q = 0 ∨ q = 1 ∨ q = 2 ∨ q = 3 ∨ 3 < q by omega) with h | h | h | h | h
        · subst h
          go_wp2
          go_roundw
          case rel => exact ⟨j + 1, _, by omega, by go_num, hyS _, byt_set hyb j 255 (by decide) (by decide), oS _, sS _, nS _⟩
          case measure => simp [intOf]; omega
        · subst h
          by_cases h2 : 0 < (j : Int)
          · have u1 : decide (0 < (j : Int)) = true := by simp; omega
            go_wp2
            go_roundw
            case rel => exact ⟨j + 1, _, by omega, by go_num, hyS _, byt_set hyb j 0 (by decide) (by decide), oS _, sS _, nS _⟩
            case measure => simp [intOf]; omega
          · have u1 : decide (0 < (j : Int)) = false := by simp; omega
            go_wp2
            go_roundw
            case rel => exact ⟨j + 1, ys, by omega, by go_num, hyl, hyb, o5, S5, N5⟩
            case measure => simp [intOf]; omega
        · subst h
          by_cases h2 : (j : Int) < (y0.length : Int) / 2
          · have u1 : decide ((j : Int) < (y0.length : Int) / 2) = true := by simp; omega
            go_wp2
            go_roundw
            case rel => exact ⟨j + 1, _, by omega, by go_num, hyS _, byt_set hyb j 0 (by decide) (by decide), oS _, sS _, nS _⟩
            case measure => simp [intOf]; omega
          · have u1 : decide ((j : Int) < (y0.length : Int) / 2) = false := by simp; omega
            go_wp2
            go_roundw
            case rel => exact ⟨j + 1, ys, by omega, by go_num, hyl, hyb, o5, S5, N5⟩
            case measure => simp [intOf]; omega
        · subst h
          by_cases h2 : 1 < (j : Int)
          · have u1 : decide (1 < (j : Int)) = true := by simp; omega
            by_cases h3 : (j : Int) < (y0.length : Int) - 1
            · have u2 : decide ((j : Int) < (y0.length : Int) - 1) = true := by simp; omega
              go_wp2
              go_roundw
              case rel => exact ⟨j + 1, _, by omega, by go_num, hyS _, byt_set hyb j 255 (by decide) (by decide), oS _, sS _, nS _⟩
              case measure => simp [intOf]; omega
            · have u2 : decide ((j : Int) < (y0.length : Int) - 1) = false := by simp; omega
              go_wp2
              go_roundw
              case rel => exact ⟨j + 1, ys, by omega, by go_num, hyl, hyb, o5, S5, N5⟩
              case measure => simp [intOf]; omega
          · have u1 : decide (1 < (j : Int)) = false := by simp; omega
            go_wp2
            go_roundw
            case rel => exact ⟨j + 1, ys, by omega, by go_num, hyl, hyb, o5, S5, N5⟩
            case measure => simp [intOf]; omega
        · have v0 : (q == 0) = false := beq_eq_false_iff_ne.2 (by omega)
          have v1 : (q == 1) = false := beq_eq_false_iff_ne.2 (by omega)
          have v2 : (q == 2) = false := beq_eq_false_iff_ne.2 (by omega)
          have v3 : (q == 3) = false := beq_eq_false_iff_ne.2 (by omega)
          go_wp2
          go_roundw
          case rel => exact ⟨j + 1, ys, by omega, by go_num, hyl, hyb, o5, S5, N5⟩
          case measure => simp [intOf]; omega
      · obtain rfl : j = y0.length := by omega
        have hr6 := hr.but N5 hne
        go_wp2_with fail
        refine (l1Chance_any wr s g a c xs t3 25 S5 hr6 hne hb hl (by omega) (by omega) (by decide) (by decide)).mono ?_
        rintro e w6 ⟨b6, rfl, S6, O6⟩
        have N6 := N5.only O6
        have o6 := o5.only O6 (fun _ => by omega)
        cases b6
        · clear o5 S5 N5 O6
          go_wp2
          go_ret
          exact ⟨ys, t3 + 1, hyb, by rw [hyl.out]; omega, ⟨_, _, g1, ret_slice hyl.out.symm, o6, p4, by rw [hyl.out]; exact q4, gl⟩, S6, ⟨by omega, by omega⟩, N6⟩
        · clear o5 S5 N5 O6
          go_wp2_with fail
          refine (l1Next_any w6 s g a c xs (t3 + 1) 2 S6 (hr.but N6 hne) hne hb hl (by omega) (by omega) (by decide) (by decide)).mono ?_
          rintro e w7 ⟨r7, rfl, ⟨rx, ry⟩, S7, O7⟩
          have N7 := N6.only O7
          obtain ⟨m7, rfl⟩ := Int.eq_ofNat_of_zero_le rx
          have e7 : (128 : Int) + (m7 : Int) = ((128 + m7 : Nat) : Int) := by omega
          have E7 := hide e7
          clear e7 S6 N6 O7
          go_wp2_with fail
          rw [E7.out]
          refine (l1DrawBytes_any w7 s g a c xs (t3 + 1 + 1) (128 + m7) S7 (hr.but N7 hne) hne hb hl (by omega) (by omega)).mono ?_
          rintro e w8 ⟨y8, hy8, hyb8, ⟨a8, c8, g8, rfl, o8, p8, q8, r8⟩, S8, N8⟩
          have N9 := N7.trans N8
          have s7 := N7.size
          go_wp2
          go_ret
          exact ⟨y8, _, hyb8, by omega, ⟨_, _, g8, ret_slice hy8.symm, o8, p8, q8, by omega⟩, S8, ⟨by omega, by omega⟩, N9⟩
end Go.Proofs.Ythdjopkmlcdoeaa
