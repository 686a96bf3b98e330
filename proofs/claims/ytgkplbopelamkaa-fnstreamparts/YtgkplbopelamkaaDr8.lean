
/-
  What is drawn for the cipher: keys, nonces, counters, texts; DrawStreamXor (written by gens/dr8.py).
-/
import Derived.Test.YtgkplbopelamkaaDrL
namespace Go.Proofs.Ytgkplbopelamkaa
open Go.RowKit

set_option maxHeartbeats 2000000 in
theorem l8DrawKey_any (w : World) (s g : Nat) (a : Option Addr) (c : Nat) (xs : List Int) (t : Int) (hs : Src w s a xs.length c t) (hr : Rd w g a .u8 xs) (hne : 0 < xs.length → g ≠ s) (hb : Byt xs) (hl : xs.length ≤ 1048576)
    (t0 : 0 ≤ t) (t1 : t ≤ 100000) :
    Calls Try.prog 44 #[.pointer (some ⟨s, 0, none⟩)] w fun e w' => ∃ (ys : List Int) (t' : Int), ys.length ≤ 40 ∧ Byt ys ∧ NewRow w.heap.size w' e .u8 ys ∧ t ≤ t' ∧ t' ≤ t + 300 ∧ Src w' s a xs.length c t' ∧ But s w w' := by
  have NX := fun W t n h1 h2 => l1Next_any W s g a c xs t n h1 h2 hne hb hl
  have CH := fun W t n h1 h2 => l1Chance_any W s g a c xs t n h1 h2 hne hb hl
  have DB := fun W t n h1 h2 => l1DrawBytes_any W s g a c xs t n h1 h2 hne hb hl
  go_enter Try.func44, Try.ntmps44
  go_wp2_with fail
  refine (CH w t 25 hs hr t0 (by omega) (by decide) (by decide)).mono ?_
  rintro e w1 ⟨b, rfl, S1, O1⟩
  have r1 := hr.but (But.ofOnly O1) hne
  have B1 : But s w w1 := But.ofOnly O1
  have z1 := hide O1.size
  cases b with
  | true =>
    go_wp2_with fail
    refine (NX w1 (t + 1) 2 S1 r1 (by omega) (by omega) (by decide) (by decide)).mono ?_
    rintro e w2 ⟨r, rfl, ⟨h0, h1⟩, S2, O2⟩
    obtain ⟨n, hn⟩ := Int.eq_ofNat_of_zero_le (show 0 ≤ 31 + 2 * r by omega)
    have r2 := r1.but (But.ofOnly O2) hne
    have n9 : n < 36 := by omega
    have D := hide (DB w2 (t + 1 + 1) n S2 r2 (by omega) (by omega))
    rw [← hn] at D
    have z2 := hide O2.size
    have HN := hide hn
    clear hn
    go_wp2_with fail
    refine D.out.mono ?_
    rintro e w3 ⟨ys, hy, by', ⟨a3, c3, g3, rfl, o3, p3, q3, r3⟩, S3, B3⟩
    have HY := hide hy
    clear hy D
    go_wp2
    go_ret
    exact ⟨ys, t + 1 + 1 + (n : Int), by rw [HY.out]; omega, by', ⟨a3, c3, g3, rfl, o3, p3, q3, by have := z1.out; have := z2.out; omega⟩, by omega, by omega, by have := HN.out; rw [← this]; exact S3, (B1.only O2).trans B3⟩
  | false =>
    go_wp2_with fail
    refine (DB w1 (t + 1) 32 S1 r1 (by omega) (by omega)).mono ?_
    rintro e w4 ⟨ys, hy, by', ⟨a3, c3, g3, rfl, o3, p3, q3, r3⟩, S4, B4⟩
    have HY := hide hy
    clear hy
    go_wp2
    go_ret
    exact ⟨ys, t + 1 + 32, by rw [HY.out]; omega, by', ⟨a3, c3, g3, rfl, o3, p3, q3, by have := z1.out; omega⟩, by omega, by omega, S4, B1.trans B4⟩
set_option maxHeartbeats 2000000 in
theorem l8DrawNonce_any (w : World) (s g : Nat) (a : Option Addr) (c : Nat) (xs : List Int) (t : Int) (hs : Src w s a xs.length c t) (hr : Rd w g a .u8 xs) (hne : 0 < xs.length → g ≠ s) (hb : Byt xs) (hl : xs.length ≤ 1048576)
    (t0 : 0 ≤ t) (t1 : t ≤ 100000) :
    Calls Try.prog 46 #[.pointer (some ⟨s, 0, none⟩)] w fun e w' => ∃ (ys : List Int) (t' : Int), ys.length ≤ 40 ∧ Byt ys ∧ NewRow w.heap.size w' e .u8 ys ∧ t ≤ t' ∧ t' ≤ t + 300 ∧ Src w' s a xs.length c t' ∧ But s w w' := by
  have NX := fun W t n h1 h2 => l1Next_any W s g a c xs t n h1 h2 hne hb hl
  have CH := fun W t n h1 h2 => l1Chance_any W s g a c xs t n h1 h2 hne hb hl
  have DB := fun W t n h1 h2 => l1DrawBytes_any W s g a c xs t n h1 h2 hne hb hl
  go_enter Try.func46, Try.ntmps46
  go_wp2_with fail
  refine (CH w t 25 hs hr t0 (by omega) (by decide) (by decide)).mono ?_
  rintro e w1 ⟨b, rfl, S1, O1⟩
  have r1 := hr.but (But.ofOnly O1) hne
  have B1 : But s w w1 := But.ofOnly O1
  have z1 := hide O1.size
  cases b with
  | true =>
    go_wp2_with fail
    refine (NX w1 (t + 1) 2 S1 r1 (by omega) (by omega) (by decide) (by decide)).mono ?_
    rintro e w2 ⟨r, rfl, ⟨h0, h1⟩, S2, O2⟩
    obtain ⟨n, hn⟩ := Int.eq_ofNat_of_zero_le (show 0 ≤ 11 + 2 * r by omega)
    have r2 := r1.but (But.ofOnly O2) hne
    have n9 : n < 36 := by omega
    have D := hide (DB w2 (t + 1 + 1) n S2 r2 (by omega) (by omega))
    rw [← hn] at D
    have z2 := hide O2.size
    have HN := hide hn
    clear hn
    go_wp2_with fail
    refine D.out.mono ?_
    rintro e w3 ⟨ys, hy, by', ⟨a3, c3, g3, rfl, o3, p3, q3, r3⟩, S3, B3⟩
    have HY := hide hy
    clear hy D
    go_wp2
    go_ret
    exact ⟨ys, t + 1 + 1 + (n : Int), by rw [HY.out]; omega, by', ⟨a3, c3, g3, rfl, o3, p3, q3, by have := z1.out; have := z2.out; omega⟩, by omega, by omega, by have := HN.out; rw [← this]; exact S3, (B1.only O2).trans B3⟩
  | false =>
    go_wp2_with fail
    refine (DB w1 (t + 1) 12 S1 r1 (by omega) (by omega)).mono ?_
    rintro e w4 ⟨ys, hy, by', ⟨a3, c3, g3, rfl, o3, p3, q3, r3⟩, S4, B4⟩
    have HY := hide hy
    clear hy
    go_wp2
    go_ret
    exact ⟨ys, t + 1 + 12, by rw [HY.out]; omega, by', ⟨a3, c3, g3, rfl, o3, p3, q3, by have := z1.out; omega⟩, by omega, by omega, S4, B1.trans B4⟩
set_option maxHeartbeats 2000000 in
theorem l8DrawCounter_any (w : World) (s g : Nat) (a : Option Addr) (c : Nat) (xs : List Int) (t : Int) (hs : Src w s a xs.length c t) (hr : Rd w g a .u8 xs) (hne : 0 < xs.length → g ≠ s) (hb : Byt xs) (hl : xs.length ≤ 1048576)
    (t0 : 0 ≤ t) (t1 : t ≤ 100000) :
    Calls Try.prog 45 #[.pointer (some ⟨s, 0, none⟩)] w fun e w' => ∃ (v t' : Int), e = .returned (.int .i64 v) ∧ -1 ≤ v ∧ v ≤ 4294967300 ∧ t ≤ t' ∧ t' ≤ t + 2 ∧ Src w' s a xs.length c t' ∧ Only s w w' := by
  have NX := fun W t n h1 h2 => l1Next_any W s g a c xs t n h1 h2 hne hb hl
  go_enter Try.func45, Try.ntmps45
  go_wp2_with fail
  refine (NX w t 10 hs hr t0 (by omega) (by decide) (by decide)).mono ?_
  rintro e w1 ⟨k, rfl, ⟨k0, k1⟩, S1, O1⟩
  have r1 := hr.but (But.ofOnly O1) hne
  by_cases c0 : k = 0
  · subst c0
    go_wp2_with fail
    refine (NX w1 (t + 1) 3 S1 r1 (by omega) (by omega) (by decide) (by decide)).mono ?_
    rintro e w2 ⟨r, rfl, ⟨h0, h1⟩, S2, O2⟩
    go_wp2
    go_ret
    exact ⟨_, t + 1 + 1, rfl, by omega, by omega, by omega, by omega, S2, O1.trans O2⟩
  · have d0 : decide (k = 0) = false := by simpa using c0
    by_cases c1 : k = 1
    · subst c1
      go_wp2
      go_ret
      exact ⟨_, t + 1, rfl, by omega, by omega, by omega, by omega, S1, O1⟩
    · have d1 : decide (k = 1) = false := by simpa using c1
      by_cases c2 : k = 2
      · subst c2
        go_wp2_with fail
        refine (NX w1 (t + 1) 6 S1 r1 (by omega) (by omega) (by decide) (by decide)).mono ?_
        rintro e w2 ⟨r, rfl, ⟨h0, h1⟩, S2, O2⟩
        go_wp2
        go_ret
        exact ⟨_, t + 1 + 1, rfl, by omega, by omega, by omega, by omega, S2, O1.trans O2⟩
      · have d2 : decide (k = 2) = false := by simpa using c2
        go_wp2_with fail
        refine (NX w1 (t + 1) 100 S1 r1 (by omega) (by omega) (by decide) (by decide)).mono ?_
        rintro e w2 ⟨r, rfl, ⟨h0, h1⟩, S2, O2⟩
        go_wp2
        go_ret
        exact ⟨_, t + 1 + 1, rfl, by omega, by omega, by omega, by omega, S2, O1.trans O2⟩
set_option maxHeartbeats 4000000 in
theorem l8DrawText_any (w : World) (s g : Nat) (a : Option Addr) (c : Nat) (xs : List Int) (t : Int) (hs : Src w s a xs.length c t) (hr : Rd w g a .u8 xs) (hne : 0 < xs.length → g ≠ s) (hb : Byt xs) (hl : xs.length ≤ 1048576)
    (t0 : 0 ≤ t) (t1 : t ≤ 100000) :
    Calls Try.prog 47 #[.pointer (some ⟨s, 0, none⟩)] w fun e w' => ∃ (ys : List Int) (t' : Int), ys.length ≤ 5300 ∧ Byt ys ∧ NewRow w.heap.size w' e .u8 ys ∧ t ≤ t' ∧ t' ≤ t + 5400 ∧ Src w' s a xs.length c t' ∧ But s w w' := by
  have NX := fun W t n h1 h2 => l1Next_any W s g a c xs t n h1 h2 hne hb hl
  have DB := fun W t n h1 h2 => l1DrawBytes_any W s g a c xs t n h1 h2 hne hb hl
  go_enter Try.func47, Try.ntmps47
  go_wp2_with fail
  refine (NX w t 4 hs hr t0 (by omega) (by decide) (by decide)).mono ?_
  rintro e w1 ⟨k, rfl, ⟨k0, k1⟩, S1, O1⟩
  have r1 := hr.but (But.ofOnly O1) hne
  have B1 : But s w w1 := But.ofOnly O1
  have z1 := hide O1.size
  by_cases c0 : k = 0
  · subst c0
    go_wp2_with fail
    refine (NX w1 (t + 1) 20 S1 r1 (by omega) (by omega) (by decide) (by decide)).mono ?_
    rintro e w8 ⟨rr, rfl, ⟨h0, h1⟩, S8, O8⟩
    obtain ⟨n, hn⟩ := Int.eq_ofNat_of_zero_le (show 0 ≤ 16 * rr by omega)
    have r8 := r1.but (But.ofOnly O8) hne
    have n9 : n ≤ 5300 := by omega
    have D := hide (DB w8 (t + 1 + 1) n S8 r8 (by omega) (by omega))
    rw [← hn] at D
    have z8 := hide O8.size
    have HN := hide hn
    clear hn
    go_wp2_with fail
    refine D.out.mono ?_
    rintro e w9 ⟨ys, hy, by', ⟨a3, c3, g3, rfl, o3, p3, q3, r3⟩, S9, B9⟩
    have HY := hide hy
    clear hy D
    go_wp2
    go_ret
    exact ⟨ys, t + 1 + 1 + (n : Int), by rw [HY.out]; omega, by', ⟨a3, c3, g3, rfl, o3, p3, q3, by have := z8.out; have := z1.out; omega⟩, by omega, by omega, by have := HN.out; rw [← this]; exact S9, (B1.only O8).trans B9⟩
  · have d0 : decide (k = 0) = false := by simpa using c0
    by_cases c1 : k = 1
    · subst c1
      go_wp2_with fail
      refine (NX w1 (t + 1) 10 S1 r1 (by omega) (by omega) (by decide) (by decide)).mono ?_
      rintro e w8 ⟨rr, rfl, ⟨h0, h1⟩, S8, O8⟩
      obtain ⟨n, hn⟩ := Int.eq_ofNat_of_zero_le (show 0 ≤ 60 + rr by omega)
      have r8 := r1.but (But.ofOnly O8) hne
      have n9 : n ≤ 5300 := by omega
      have D := hide (DB w8 (t + 1 + 1) n S8 r8 (by omega) (by omega))
      rw [← hn] at D
      have z8 := hide O8.size
      have HN := hide hn
      clear hn
      go_wp2_with fail
      refine D.out.mono ?_
      rintro e w9 ⟨ys, hy, by', ⟨a3, c3, g3, rfl, o3, p3, q3, r3⟩, S9, B9⟩
      have HY := hide hy
      clear hy D
      go_wp2
      go_ret
      exact ⟨ys, t + 1 + 1 + (n : Int), by rw [HY.out]; omega, by', ⟨a3, c3, g3, rfl, o3, p3, q3, by have := z8.out; have := z1.out; omega⟩, by omega, by omega, by have := HN.out; rw [← this]; exact S9, (B1.only O8).trans B9⟩
    · have d1 : decide (k = 1) = false := by simpa using c1
      by_cases c2 : k = 2
      · subst c2
        go_wp2_with fail
        refine (NX w1 (t + 1) 9 S1 r1 (by omega) (by omega) (by decide) (by decide)).mono ?_
        rintro e w2 ⟨q, rfl, ⟨q0, q1⟩, S2, O2⟩
        have r2 := r1.but (But.ofOnly O2) hne
        have B2 := B1.only O2
        have z2 := hide O2.size
        by_cases c4 : q = 4
        · subst c4
          go_wp2_with fail
          refine (NX w2 (t + 1 + 1) 1200 S2 r2 (by omega) (by omega) (by decide) (by decide)).mono ?_
          rintro e w8 ⟨rr, rfl, ⟨h0, h1⟩, S8, O8⟩
          obtain ⟨n, hn⟩ := Int.eq_ofNat_of_zero_le (show 0 ≤ 4000 + rr by omega)
          have r8 := r2.but (But.ofOnly O8) hne
          have n9 : n ≤ 5300 := by omega
          have D := hide (DB w8 (t + 1 + 1 + 1) n S8 r8 (by omega) (by omega))
          rw [← hn] at D
          have z8 := hide O8.size
          have HN := hide hn
          clear hn
          go_wp2_with fail
          refine D.out.mono ?_
          rintro e w9 ⟨ys, hy, by', ⟨a3, c3, g3, rfl, o3, p3, q3, r3⟩, S9, B9⟩
          have HY := hide hy
          clear hy D
          go_wp2
          go_ret
          exact ⟨ys, t + 1 + 1 + 1 + (n : Int), by rw [HY.out]; omega, by', ⟨a3, c3, g3, rfl, o3, p3, q3, by have := z8.out; have := z1.out; have := z2.out; omega⟩, by omega, by omega, by have := HN.out; rw [← this]; exact S9, (B2.only O8).trans B9⟩
        · have d4 : decide (q = 4) = false := by simpa using c4
          go_wp2_with fail
          refine (NX w2 (t + 1 + 1) 300 S2 r2 (by omega) (by omega) (by decide) (by decide)).mono ?_
          rintro e w8 ⟨rr, rfl, ⟨h0, h1⟩, S8, O8⟩
          obtain ⟨n, hn⟩ := Int.eq_ofNat_of_zero_le (show 0 ≤ rr by omega)
          have r8 := r2.but (But.ofOnly O8) hne
          have n9 : n ≤ 5300 := by omega
          have D := hide (DB w8 (t + 1 + 1 + 1) n S8 r8 (by omega) (by omega))
          rw [← hn] at D
          have z8 := hide O8.size
          have HN := hide hn
          clear hn
          go_wp2_with fail
          refine D.out.mono ?_
          rintro e w9 ⟨ys, hy, by', ⟨a3, c3, g3, rfl, o3, p3, q3, r3⟩, S9, B9⟩
          have HY := hide hy
          clear hy D
          go_wp2
          go_ret
          exact ⟨ys, t + 1 + 1 + 1 + (n : Int), by rw [HY.out]; omega, by', ⟨a3, c3, g3, rfl, o3, p3, q3, by have := z8.out; have := z1.out; have := z2.out; omega⟩, by omega, by omega, by have := HN.out; rw [← this]; exact S9, (B2.only O8).trans B9⟩
      · have d2 : decide (k = 2) = false := by simpa using c2
        go_wp2_with fail
        refine (NX w1 (t + 1) 300 S1 r1 (by omega) (by omega) (by decide) (by decide)).mono ?_
        rintro e w8 ⟨rr, rfl, ⟨h0, h1⟩, S8, O8⟩
        obtain ⟨n, hn⟩ := Int.eq_ofNat_of_zero_le (show 0 ≤ rr by omega)
        have r8 := r1.but (But.ofOnly O8) hne
        have n9 : n ≤ 5300 := by omega
        have D := hide (DB w8 (t + 1 + 1) n S8 r8 (by omega) (by omega))
        rw [← hn] at D
        have z8 := hide O8.size
        have HN := hide hn
        clear hn
        go_wp2_with fail
        refine D.out.mono ?_
        rintro e w9 ⟨ys, hy, by', ⟨a3, c3, g3, rfl, o3, p3, q3, r3⟩, S9, B9⟩
        have HY := hide hy
        clear hy D
        go_wp2
        go_ret
        exact ⟨ys, t + 1 + 1 + (n : Int), by rw [HY.out]; omega, by', ⟨a3, c3, g3, rfl, o3, p3, q3, by have := z8.out; have := z1.out; omega⟩, by omega, by omega, by have := HN.out; rw [← this]; exact S9, (B1.only O8).trans B9⟩
set_option maxHeartbeats 2000000 in
theorem drawXor_any (w : World) (g : Nat) (a : Option Addr) (c : Nat) (xs : List Int) (hr : Rd w g a .u8 xs) (hb : Byt xs) (hl : xs.length ≤ 1048576) :
    Calls Try.prog 18 #[.slice a xs.length c] w fun e w' => ∃ (ks ns ds : List Int) (ct : Int) (a1 a2 a3 : Option Addr) (c1 c2 c3 g1 g2 g3 : Nat), e = .returned (.tuple #[.slice a1 ks.length c1, .int .i64 ct, .slice a2 ns.length c2, .slice a3 ds.length c3]) ∧ -1 ≤ ct ∧ ct ≤ 4294967300 ∧ ks.length ≤ 40 ∧ ns.length ≤ 40 ∧ ds.length ≤ 5300 ∧ Byt ks ∧ Byt ns ∧ Byt ds ∧ Own w' g1 a1 .u8 ks ∧ Own w' g2 a2 .u8 ns ∧ Own w' g3 a3 .u8 ds ∧ (a1 = none → c1 = 0) ∧ (a2 = none → c2 = 0) ∧ (a3 = none → c3 = 0) ∧ ks.length ≤ c1 ∧ ns.length ≤ c2 ∧ ds.length ≤ c3 ∧ Below w.heap.size w w' := by
  go_enter Try.func18, Try.ntmps18
  go_wp2_with fail
  refine (l1Source_any w a xs.length c hl).mono ?_
  rintro e w1 ⟨rfl, S1, n1⟩
  have hne : 0 < xs.length → g ≠ w.heap.size := fun h => by have := hr.lt h; omega
  have y1 : w.heap.size < w1.heap.size := S1.lt
  go_wp2_with fail
  refine (l8DrawKey_any w1 w.heap.size g a c xs 0 S1 (hr.up n1) hne hb hl (by omega) (by omega)).mono ?_
  rintro e w2 ⟨ks, t2, kl, kb, ⟨a2, c2, g2, rfl, o2, p2, q2, r2⟩, h0, h1, S2, B2⟩
  have N2 : Below w.heap.size w w2 := n1.trans (B2.below (Nat.le_refl _) n1.size)
  have y2 := B2.size
  go_wp2_with fail
  refine (l8DrawCounter_any w2 w.heap.size g a c xs t2 S2 (hr.up N2) hne hb hl (by omega) (by omega)).mono ?_
  rintro e w3 ⟨ct, t3, rfl, ct0, ct1, h2, h3, S3, O3⟩
  have N3 : Below w.heap.size w w3 := N2.trans (O3.below (Nat.le_refl _))
  have o3 := o2.but (But.ofOnly O3) (fun _ => by omega)
  have z3 := hide O3.size
  go_wp2_with fail
  refine (l8DrawNonce_any w3 w.heap.size g a c xs t3 S3 (hr.up N3) hne hb hl (by omega) (by omega)).mono ?_
  rintro e w4 ⟨ns, t4, nl, nb, ⟨a4, c4, g4, rfl, o4, p4, q4, r4⟩, h4, h5, S4, B4⟩
  have N4 : Below w.heap.size w w4 := N3.trans (B4.below (Nat.le_refl _) N3.size)
  have o5 := o3.but B4 (fun _ => by omega)
  have y4 := B4.size
  have y3 := N3.size
  clear O3 S1 S2 S3 B2 o2 o3
  go_wp2_with fail
  refine (l8DrawText_any w4 w.heap.size g a c xs t4 S4 (hr.up N4) hne hb hl (by omega) (by omega)).mono ?_
  rintro e w6 ⟨ds, t6, dl, db, ⟨a6, c6, g6, rfl, o6, p6, q6, r6⟩, h6, h7, S6, B6⟩
  have N6 : Below w.heap.size w w6 := N4.trans (B6.below (Nat.le_refl _) N4.size)
  have o7 := o5.but B6 (fun _ => by omega)
  have o8 := o4.but B6 (fun _ => by have := z3.out; omega)
  clear S4 S6 B6 B4 o5 o4
  go_wp2
  refine bodyPost_ret (v := .tuple #[.slice a2 ks.length c2, .int .i64 ct, .slice a4 ns.length c4, .slice a6 ds.length c6]) (by simp [results, Try.results18, go_sem]) rfl ?_
  exact ⟨ks, ns, ds, ct, a2, a4, a6, c2, c4, c6, g2, g4, g6, rfl, ct0, ct1, kl, nl, dl, kb, nb, db, o7, o8, o6, p2, p4, p6, q2, q4, q6, N6⟩
end Go.Proofs.Ytgkplbopelamkaa
