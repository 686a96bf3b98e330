import Derived.Test.YtljpjbojdekeiaaDoorDrL
import Derived.Test.YtljpjbojdekeiaaDoorApd
import Derived.Test.YtljpjbojdekeiaaDoorRows
import Derived.Test.YtljpjbojdekeiaaDoorHsT
import Derived.Lib.LaidTab
import Derived.Lib.LaidU8
import Derived.LaidMore
import Derived.Test.YtljpjbojdekeiaaDoorXcF

/-
  What is drawn as data of a hash: some bytes, not many.
-/
namespace Go.Proofs.YtljpjbojdekeiaaDoor
set_option maxRecDepth 100000
open Go.RowKit

set_option maxHeartbeats 2000000 in
theorem l6Length_any (w : World) (s g : Nat) (a : Option Addr) (c : Nat) (xs : List Int) (t : Int) (hs : Src w s a xs.length c t) (hr : Rd w g a .u8 xs) (hne : 0 < xs.length → g ≠ s) (hb : Byt xs) (hl : xs.length ≤ 1048576)
    (t0 : 0 ≤ t) (t1 : t ≤ 100000) :
    Calls Tryd.prog 49 #[.pointer (some ⟨s, 0, none⟩)] w fun e w' => ∃ (n : Nat) (t' : Int), e = .returned (.int .i64 (n : Int)) ∧ n ≤ 5000 ∧ t ≤ t' ∧ t' ≤ t + 4 ∧ Src w' s a xs.length c t' ∧ Only s w w' := by
  have NX := fun W t n h1 h2 => l1Next_any W s g a c xs t n h1 h2 hne hb hl
  have CH := fun W t n h1 h2 => l1Chance_any W s g a c xs t n h1 h2 hne hb hl
  go_enter Tryd.func49, Tryd.ntmps49
  go_wp2_with fail
  refine (CH w t 2 hs hr t0 (by omega) (by decide) (by decide)).mono ?_
  rintro e w1 ⟨b, rfl, S1, O1⟩
  have r1 := hr.but (But.ofOnly O1) hne
  cases b with
  | true =>
    go_wp2_with fail
    refine (NX w1 (t + 1) 40 S1 r1 (by omega) (by omega) (by decide) (by decide)).mono ?_
    rintro e w2 ⟨r, rfl, ⟨h0, h1⟩, S2, O2⟩
    obtain ⟨n, rfl⟩ := Int.eq_ofNat_of_zero_le h0
    go_wp2
    go_ret
    exact ⟨n, t + 1 + 1, rfl, by omega, by omega, by omega, S2, O1.trans O2⟩
  | false =>
    go_wp2_with fail
    refine (NX w1 (t + 1) 17 S1 r1 (by omega) (by omega) (by decide) (by decide)).mono ?_
    rintro e w2 ⟨r, rfl, -, S2, O2⟩
    have r2 := r1.but (But.ofOnly O2) hne
    by_cases h8 : r = 8
    · subst h8
      go_wp2_with fail
      refine (NX w2 (t + 1 + 1) 300 S2 r2 (by omega) (by omega) (by decide) (by decide)).mono ?_
      rintro e w3 ⟨r, rfl, ⟨h0, h1⟩, S3, O3⟩
      obtain ⟨n, rfl⟩ := Int.eq_ofNat_of_zero_le h0
      go_wp2
      go_ret
      exact ⟨4000 + n, t + 1 + 1 + 1, by rw [Int.natCast_add]; rfl, by omega, by omega, by omega, S3, (O1.trans O2).trans O3⟩
    · have k8 : (r == 8) = false := by simp [h8]
      go_wp2_with fail
      refine (NX w2 (t + 1 + 1) 5 S2 r2 (by omega) (by omega) (by decide) (by decide)).mono ?_
      rintro e w3 ⟨r3, rfl, ⟨h0, h1⟩, S3, O3⟩
      have r3' := r2.but (But.ofOnly O3) hne
      go_wp2_with fail
      refine (NX w3 (t + 1 + 1 + 1) 20 S3 r3' (by omega) (by omega) (by decide) (by decide)).mono ?_
      rintro e w4 ⟨r4, rfl, ⟨i0, i1⟩, S4, O4⟩
      obtain ⟨n, hn⟩ := Int.eq_ofNat_of_zero_le (show 0 ≤ 64 * r3 + 50 + r4 by omega)
      go_wp2
      go_ret
      exact ⟨n, t + 1 + 1 + 1 + 1, by rw [← hn]; rfl, by omega, by omega, by omega, S4, ((O1.trans O2).trans O3).trans O4⟩

set_option maxHeartbeats 1000000 in
theorem drawHash_any (w : World) (g : Nat) (a : Option Addr) (c : Nat) (xs : List Int) (hr : Rd w g a .u8 xs) (hb : Byt xs) (hl : xs.length ≤ 1048576) :
    Calls Tryd.prog 14 #[.slice a xs.length c] w fun e w' => ∃ ys, ys.length ≤ 5000 ∧ Byt ys ∧ NewRow w.heap.size w' e .u8 ys ∧ Below w.heap.size w w' := by
  go_enter Tryd.func14, Tryd.ntmps14
  go_wp2_with fail
  refine (l1Source_any w a xs.length c hl).mono ?_
  rintro e w1 ⟨rfl, S1, n1⟩
  have hne : 0 < xs.length → g ≠ w.heap.size := fun h => by have := hr.lt h; omega
  go_wp2_with fail
  refine (l6Length_any w1 w.heap.size g a c xs 0 S1 (hr.up n1) hne hb hl (by omega) (by omega)).mono ?_
  rintro e w2 ⟨n, t, rfl, hn, h0, h1, S2, O2⟩
  go_wp2_with fail
  refine (l1DrawBytes_any w2 w.heap.size g a c xs t n S2 ((hr.up n1).but (But.ofOnly O2) hne) hne hb hl h0 (by omega)).mono ?_
  rintro e w3 ⟨ys, hy, by', ⟨a3, c3, g3, rfl, o3, p3, q3, r3⟩, S3, B3⟩
  have N2 : Below w.heap.size w w2 := n1.trans (O2.below (Nat.le_refl _))
  have N3 : Below w.heap.size w w3 := N2.trans (B3.below (Nat.le_refl _) N2.size)
  have z2 := N2.size
  have HY := hide hy
  clear hy S1 S2 S3 O2 B3 n1
  go_wp2
  go_ret
  exact ⟨ys, by rw [HY.out]; exact hn, by', ⟨a3, c3, g3, rfl, o3, p3, q3, by omega⟩, N3⟩
end Go.Proofs.YtljpjbojdekeiaaDoor

/-
  What is drawn as a key; DrawMac.
-/
namespace Go.Proofs.YtljpjbojdekeiaaDoor
set_option maxRecDepth 100000
open Go.RowKit

set_option maxHeartbeats 2000000 in
theorem l7DrawKey_any (w : World) (s g : Nat) (a : Option Addr) (c : Nat) (xs : List Int) (t : Int) (hs : Src w s a xs.length c t) (hr : Rd w g a .u8 xs) (hne : 0 < xs.length → g ≠ s) (hb : Byt xs) (hl : xs.length ≤ 1048576)
    (t0 : 0 ≤ t) (t1 : t ≤ 100000) :
    Calls Tryd.prog 58 #[.pointer (some ⟨s, 0, none⟩)] w fun e w' => ∃ (ys : List Int) (t' : Int), ys.length ≤ 200 ∧ Byt ys ∧ NewRow w.heap.size w' e .u8 ys ∧ t ≤ t' ∧ t' ≤ t + 300 ∧ Src w' s a xs.length c t' ∧ But s w w' := by
  have NX := fun W t n h1 h2 => l1Next_any W s g a c xs t n h1 h2 hne hb hl
  have CH := fun W t n h1 h2 => l1Chance_any W s g a c xs t n h1 h2 hne hb hl
  have DB := fun W t n h1 h2 => l1DrawBytes_any W s g a c xs t n h1 h2 hne hb hl
  go_enter Tryd.func58, Tryd.ntmps58
  go_wp2_with fail
  refine (CH w t 3 hs hr t0 (by omega) (by decide) (by decide)).mono ?_
  rintro e w1 ⟨b, rfl, S1, O1⟩
  have r1 := hr.but (But.ofOnly O1) hne
  have B1 : But s w w1 := But.ofOnly O1
  have z1 := hide O1.size
  cases b with
  | true =>
    go_wp2_with fail
    refine (NX w1 (t + 1) 10 S1 r1 (by omega) (by omega) (by decide) (by decide)).mono ?_
    rintro e w2 ⟨r, rfl, ⟨h0, h1⟩, S2, O2⟩
    obtain ⟨n, hn⟩ := Int.eq_ofNat_of_zero_le (show 0 ≤ 60 + r by omega)
    have r2 := r1.but (But.ofOnly O2) hne
    have n9 : n < 70 := by omega
    have D := hide (DB w2 (t + 1 + 1) n S2 r2 (by omega) (by omega))
    rw [← hn] at D
    have z2 := hide O2.size
    have HN := hide hn
    clear hn
    go_wp2_with fail
    refine D.out.mono ?_
    rintro e w3 ⟨ys, hy, by', ⟨a3, c3, g3, rfl, o3, p3, q3, r3⟩, S3, B3⟩
    have HY := hide hy
    clear hy D
    go_wp2
    go_ret
    exact ⟨ys, t + 1 + 1 + (n : Int), by rw [HY.out]; omega, by', ⟨a3, c3, g3, rfl, o3, p3, q3, by have := z1.out; have := z2.out; omega⟩, by omega, by omega, by have := HN.out; rw [← this]; exact S3, (B1.only O2).trans B3⟩
  | false =>
    go_wp2_with fail
    refine (CH w1 (t + 1) 4 S1 r1 (by omega) (by omega) (by decide) (by decide)).mono ?_
    rintro e w2 ⟨b2, rfl, S2, O2⟩
    have r2 := r1.but (But.ofOnly O2) hne
    have z2 := hide O2.size
    cases b2 with
    | true =>
      go_wp2_with fail
      refine (NX w2 (t + 1 + 1) 140 S2 r2 (by omega) (by omega) (by decide) (by decide)).mono ?_
      rintro e w3 ⟨r, rfl, ⟨h0, h1⟩, S3, O3⟩
      obtain ⟨n, rfl⟩ := Int.eq_ofNat_of_zero_le h0
      have r3 := r2.but (But.ofOnly O3) hne
      have n9 : n < 140 := by omega
      have z3 := hide O3.size
      go_wp2_with fail
      refine (DB w3 (t + 1 + 1 + 1) n S3 r3 (by omega) (by omega)).mono ?_
      rintro e w4 ⟨ys, hy, by', ⟨a3, c3, g3, rfl, o3, p3, q3, r3⟩, S4, B4⟩
      have HY := hide hy
      clear hy
      go_wp2
      go_ret
      exact ⟨ys, t + 1 + 1 + 1 + (n : Int), by rw [HY.out]; omega, by', ⟨a3, c3, g3, rfl, o3, p3, q3, by have := z1.out; have := z2.out; have := z3.out; omega⟩, by omega, by omega, S4, ((B1.only O2).only O3).trans B4⟩
    | false =>
      go_wp2_with fail
      refine (DB w2 (t + 1 + 1) 32 S2 r2 (by omega) (by omega)).mono ?_
      rintro e w4 ⟨ys, hy, by', ⟨a3, c3, g3, rfl, o3, p3, q3, r3⟩, S4, B4⟩
      have HY := hide hy
      clear hy
      go_wp2
      go_ret
      exact ⟨ys, t + 1 + 1 + 32, by rw [HY.out]; omega, by', ⟨a3, c3, g3, rfl, o3, p3, q3, by have := z1.out; have := z2.out; omega⟩, by omega, by omega, S4, (B1.only O2).trans B4⟩
set_option maxHeartbeats 2000000 in
theorem drawMac_any (w : World) (g : Nat) (a : Option Addr) (c : Nat) (xs : List Int) (hr : Rd w g a .u8 xs) (hb : Byt xs) (hl : xs.length ≤ 1048576) :
    Calls Tryd.prog 26 #[.slice a xs.length c] w fun e w' => ∃ (ks ds : List Int) (a1 a2 : Option Addr) (c1 c2 g1 g2 : Nat), e = .returned (.tuple #[.slice a1 ks.length c1, .slice a2 ds.length c2]) ∧ ks.length ≤ 200 ∧ ds.length ≤ 5000 ∧ Byt ks ∧ Byt ds ∧ Own w' g1 a1 .u8 ks ∧ Own w' g2 a2 .u8 ds ∧ (a1 = none → c1 = 0) ∧ (a2 = none → c2 = 0) ∧ ks.length ≤ c1 ∧ ds.length ≤ c2 ∧ w.heap.size ≤ g1 ∧ w.heap.size ≤ g2 ∧ Below w.heap.size w w' := by
  go_enter Tryd.func26, Tryd.ntmps26
  go_wp2_with fail
  refine (l1Source_any w a xs.length c hl).mono ?_
  rintro e w1 ⟨rfl, S1, n1⟩
  have hne : 0 < xs.length → g ≠ w.heap.size := fun h => by have := hr.lt h; omega
  have y1 : w.heap.size < w1.heap.size := S1.lt
  go_wp2_with fail
  refine (l7DrawKey_any w1 w.heap.size g a c xs 0 S1 (hr.up n1) hne hb hl (by omega) (by omega)).mono ?_
  rintro e w2 ⟨ks, t2, kl, kb, ⟨a2, c2, g2, rfl, o2, p2, q2, r2⟩, h0, h1, S2, B2⟩
  have N2 : Below w.heap.size w w2 := n1.trans (B2.below (Nat.le_refl _) n1.size)
  go_wp2_with fail
  refine (l6Length_any w2 w.heap.size g a c xs t2 S2 (hr.up N2) hne hb hl (by omega) (by omega)).mono ?_
  rintro e w3 ⟨n, t, rfl, hn, h2, h3, S3, O3⟩
  have N3 : Below w.heap.size w w3 := N2.trans (O3.below (Nat.le_refl _))
  have o3 := o2.but (But.ofOnly O3) (fun _ => by omega)
  have y2 := B2.size
  have z3 := hide O3.size
  clear O3 S2 B2 S1 o2
  go_wp2_with fail
  refine (l1DrawBytes_any w3 w.heap.size g a c xs t n S3 (hr.up N3) hne hb hl (by omega) (by omega)).mono ?_
  rintro e w4 ⟨ys, hy, by', ⟨a4, c4, g4, rfl, o4, p4, q4, r4⟩, S4, B4⟩
  have N4 : Below w.heap.size w w4 := N3.trans (B4.below (Nat.le_refl _) N3.size)
  have o5 := o3.but B4 (fun _ => by omega)
  have y3 := N3.size
  have HY := hide hy
  clear hy S3 S4 B4 o3
  go_wp2
  refine bodyPost_ret (v := .tuple #[.slice a2 ks.length c2, .slice a4 ys.length c4]) (by simp [results, Tryd.results26, go_sem]) rfl ?_
  exact ⟨ks, ys, a2, a4, c2, c4, g2, g4, rfl, kl, by rw [HY.out]; exact hn, kb, by', o5, o4, p2, p4, q2, q4, by omega, by omega, N4⟩
end Go.Proofs.YtljpjbojdekeiaaDoor

/-
  What is drawn as rows that may be appended to; laws.lwAt (written by gens/drq.py).
-/
namespace Go.Proofs.YtljpjbojdekeiaaDoor
set_option maxRecDepth 100000
open Go.RowKit

set_option maxHeartbeats 2000000 in
theorem lwAt_any (w : World) (g : Nat) (a : Option Addr) (c : Nat) (xs : List Int) (i n : Int) (hr : Rd w g a .u8 xs) (hb : Byt xs) (hl : xs.length ≤ 1048576) (i0 : 0 ≤ i) (i1 : i ≤ 1000) (n0 : 2 ≤ n) (n1 : n ≤ 1048576) :
    Calls Tryd.prog 22 #[.slice a xs.length c, .int .i64 i, .int .i64 n] w fun e w' => ∃ r : Nat, e = .returned (.int .i64 (r : Int)) ∧ (r : Int) < n ∧ ∃ m, w' = w.drewN m := by
  have tn : decide (n ≤ 1) = false := by simp; omega
  by_cases h0 : xs.length = 0
  · have hk : ((xs.length : Int) == 0) = true := by simp [h0]
    obtain ⟨r, hr'⟩ := Int.eq_ofNat_of_zero_le (Int.emod_nonneg (i * 7) (show n ≠ 0 by omega))
    have r1 := Int.emod_lt_of_pos (i * 7) (show 0 < n by omega)
    rw [hr'] at r1
    have HR := hide hr'
    clear h0 hr'
    go_enter Tryd.func22, Tryd.ntmps22
    go_wp2
    go_ret
    exact ⟨r, congrArg (fun v => Ending.returned (.int .i64 v)) HR.out, r1, 0, rfl⟩
  · have hk : ((xs.length : Int) == 0) = false := beq_eq_false_iff_ne.2 (by omega)
    obtain ⟨off, rfl, hc⟩ := hr (by omega)
    obtain ⟨j1, hi1⟩ := Int.eq_ofNat_of_zero_le (Int.emod_nonneg i (show (xs.length : Int) ≠ 0 by omega))
    have li1 : (j1 : Int) < (xs.length : Int) := by rw [← hi1]; exact Int.emod_lt_of_pos _ (by omega)
    obtain ⟨j2, hi2⟩ := Int.eq_ofNat_of_zero_le (Int.emod_nonneg (i + 1) (show (xs.length : Int) ≠ 0 by omega))
    have li2 : (j2 : Int) < (xs.length : Int) := by rw [← hi2]; exact Int.emod_lt_of_pos _ (by omega)
    obtain ⟨q, hq⟩ : ∃ q, i / (xs.length : Int) = q := ⟨_, rfl⟩
    have q0 : 0 ≤ q := by rw [← hq]; exact Int.ediv_nonneg i0 (by omega)
    have q1 : q ≤ 1000 := by rw [← hq]; exact Int.le_trans (Int.ediv_le_self _ i0) i1
    have x1 := hc j1 (by omega)
    have x2 := hc j2 (by omega)
    have b1 := hb j1
    have b2 := hb j2
    generalize xs.getD j1 0 = x at *
    generalize xs.getD j2 0 = y at *
    clear hc hr h0
    by_cases hn : n ≤ 200
    · have tn2 : decide (200 < n) = false := by simp; omega
      obtain ⟨r, hr'⟩ := Int.eq_ofNat_of_zero_le (Int.emod_nonneg (x + q) (show n ≠ 0 by omega))
      have r1 := Int.emod_lt_of_pos (x + q) (show 0 < n by omega)
      rw [hr'] at r1
      have HR := hide hr'
      clear x2 hi2 li2 b2 hr'
      go_enter Tryd.func22, Tryd.ntmps22
      go_wp2
      go_quiet (fail)
      go_wp2
      go_ret
      exact ⟨r, congrArg (fun v => Ending.returned (.int .i64 v)) HR.out, r1, _, rfl⟩
    · have tn2 : decide (200 < n) = true := by simp; omega
      obtain ⟨r, hr'⟩ := Int.eq_ofNat_of_zero_le (Int.emod_nonneg ((x + q) * 37 + y) (show n ≠ 0 by omega))
      have r1 := Int.emod_lt_of_pos ((x + q) * 37 + y) (show 0 < n by omega)
      rw [hr'] at r1
      have HR := hide hr'
      clear hr'
      go_enter Tryd.func22, Tryd.ntmps22
      go_wp2
      go_quiet (fail)
      go_wp2
      go_ret
      exact ⟨r, congrArg (fun v => Ending.returned (.int .i64 v)) HR.out, r1, _, rfl⟩
set_option maxHeartbeats 2000000 in
theorem l1DrawBytesR_any (w : World) (s g : Nat) (a : Option Addr) (c : Nat) (xs : List Int) (t : Int) (n : Nat) (hs : Src w s a xs.length c t) (hr : Rd w g a .u8 xs) (hne : 0 < xs.length → g ≠ s) (hb : Byt xs) (hl : xs.length ≤ 1048576)
    (t0 : 0 ≤ t) (t1 : t + (n : Int) ≤ 1048576) :
    Calls Tryd.prog 48 #[.pointer (some ⟨s, 0, none⟩), .int .i64 n] w fun e w' => ∃ ys, ys.length = n ∧ Byt ys ∧ (∃ v, e = .returned v ∧ RowB w' w.heap.size v ys) ∧ Src w' s a xs.length c (t + (n : Int)) ∧ But s w w' := by
  obtain ⟨i0, hi, hz0, hz1, hz2⟩ := info_parts Tryd.info5
  have hown0 : (w.alloc (.cells #[] 5)).ownsRow w.heap.size 5 1 (.slice (some ⟨w.heap.size, 0, none⟩) 0 0) 0 [] := World.ownsRow_lit w #[] 0 (Nat.le_refl _) (by unfold maxLen; omega) (by simp)
  have hal : Below w.heap.size w (w.alloc (.cells #[] 5)) := (Below.refl _ _).alloc (Nat.le_refl _) _
  have hsl := hs.lt
  go_enter Tryd.func48, Tryd.ntmps48
  go_wp2
  go_loopw [5, 6] (fun v i wr => ∃ (k : Nat) (ys : List Int), k ≤ n ∧ i = .int .i64 k ∧ Hid (ys.length = k) ∧ Byt ys ∧ wr.ownsRow w.heap.size 5 1 v k (ys.map (Value.int .u8)) ∧ Src wr s a xs.length c (t + (k : Int)) ∧ But s w wr) (fun _ i _ => n - (intOf i).toNat)
  case atStart => exact ⟨0, [], Nat.zero_le _, rfl, rfl, byt_nil, hown0, by simpa using hs.up hal, But.ofBelow hal⟩
  case round =>
    obtain ⟨k, ys, hk, rfl, hyl, hyb, hown, hS, hN⟩ := hrel
    have hr' := hr.but hN hne
    by_cases hlt : k < n
    · have hob := hown.lt
      go_wp2_with fail
      refine (l1Next_any wr s g a c xs (t + (k : Int)) 256 hS hr' hne hb hl (by omega) (by omega) (by decide) (by decide)).mono ?_
      rintro e w1 ⟨r, rfl, ⟨r0, r1⟩, S1, O1⟩
      have N1 := hN.only O1
      have hown1 := hown.kept O1.grown (by
        cases hv : Value.ownBlock _ with
        | none => exact .inl rfl
        | some q => exact .inr (fun e => by have := (hob q hv).1; simp at e; omega))
      have m1 : r % 256 = r := by omega
      have sz := N1.size
      clear hown hS hN O1 hr'
      go_wp2_with (at_builtin; refine wpList_append_own _ rfl _ _ 22 rfl w.heap.size 5 i0 (.int .u8 0) 1 1 Tryd.underlying22 hi hz0 hz1 hz2 rfl (by decide) _ k (ys.map (Value.int .u8)) rfl (hown1.alloc _) ⟨w1.heap.size, 0, none⟩ 1 1 [.int .u8 r] rfl rfl ?c1 ?c2 ?c3 ?c4 ?c5 ?_)
      case c1 =>
        intro j u hj
        match j, hj with
        | 0, hj => simp at hj; subst hj; simp [Addr.add]
      case c2 => intro u hu; simp at hu; subst hu; rfl
      case c3 => unfold maxLen; omega
      case c4 => omega
      case c5 => simp; omega
      · intro v' w2 hown2 hgrow _
        have nA : But s w (w1.alloc (.cells #[.int .u8 r] 5)) := N1.trans (But.ofBelow ((Below.refl _ _).alloc (Nat.le_refl _) _))
        have N2 := nA.grown hgrow (fun i hi => (hob i hi).1)
        have S2 : Src w2 s a xs.length c (t + ((k + 1 : Nat) : Int)) := by
          have := (S1.up ((Below.refl _ _).alloc (Nat.le_refl _) (.cells #[.int .u8 r] 5))).of_block (hgrow.block s (by simp; omega) (fun e => by have := (hob s e.symm).1; omega))
          rw [show t + ((k + 1 : Nat) : Int) = t + (k : Int) + 1 by omega]
          exact this
        have hown3 : w2.ownsRow w.heap.size 5 1 v' (k + 1) ((ys ++ [r]).map (Value.int .u8)) := by simpa using hown2
        have hl3 : Hid ((ys ++ [r]).length = k + 1) := by show _ = _; have := hyl.out; simp; omega
        have hb3 := byt_snoc hyb r r0 r1
        clear hown1 hown2 hgrow N1 S1 nA hob
        go_wp2
        go_roundw
        case rel => exact ⟨k + 1, ys ++ [r], by omega, by go_num, hl3, hb3, hown3, S2, N2⟩
        case measure => simp [intOf]; omega
    · obtain rfl : k = n := by omega
      have hown' := hown
      rw [← hyl.out] at hown'
      have RB : RowB _ w.heap.size _ ys := hown'
      clear hown hown'
      go_wp2
      go_ret
      exact ⟨ys, hyl.out, hyb, ⟨_, rfl, RB⟩, hS, hN⟩
set_option maxHeartbeats 1000000 in
theorem drawHashR_any (w : World) (g : Nat) (a : Option Addr) (c : Nat) (xs : List Int) (hr : Rd w g a .u8 xs) (hb : Byt xs) (hl : xs.length ≤ 1048576) :
    Calls Tryd.prog 14 #[.slice a xs.length c] w fun e w' => ∃ ys, ys.length ≤ 5000 ∧ Byt ys ∧ (∃ v, e = .returned v ∧ RowB w' w.heap.size v ys) ∧ Below w.heap.size w w' := by
  go_enter Tryd.func14, Tryd.ntmps14
  go_wp2_with fail
  refine (l1Source_any w a xs.length c hl).mono ?_
  rintro e w1 ⟨rfl, S1, n1⟩
  have hne : 0 < xs.length → g ≠ w.heap.size := fun h => by have := hr.lt h; omega
  go_wp2_with fail
  refine (l6Length_any w1 w.heap.size g a c xs 0 S1 (hr.up n1) hne hb hl (by omega) (by omega)).mono ?_
  rintro e w2 ⟨n, t, rfl, hn, h0, h1, S2, O2⟩
  go_wp2_with fail
  refine (l1DrawBytesR_any w2 w.heap.size g a c xs t n S2 ((hr.up n1).but (But.ofOnly O2) hne) hne hb hl h0 (by omega)).mono ?_
  rintro e w3 ⟨ys, hy, by', ⟨v3, rfl, R3⟩, S3, B3⟩
  have N2 : Below w.heap.size w w2 := n1.trans (O2.below (Nat.le_refl _))
  have N3 : Below w.heap.size w w3 := N2.trans (B3.below (Nat.le_refl _) N2.size)
  have z2 := N2.size
  have HY := hide hy
  clear hy S1 S2 S3 O2 B3 n1
  go_wp2
  go_ret
  exact ⟨ys, by rw [HY.out]; exact hn, by', ⟨v3, rfl, R3.base z2⟩, N3⟩
end Go.Proofs.YtljpjbojdekeiaaDoor

/-
  What is drawn for Expand.
-/
namespace Go.Proofs.YtljpjbojdekeiaaDoor
set_option maxRecDepth 100000
open Go.RowKit

set_option maxHeartbeats 2000000 in
theorem lwAt_small (w : World) (a : Option Addr) (c m : Nat) (i n : Int) (n1 : n ≤ 1) : Calls Tryd.prog 22 #[.slice a m c, .int .i64 i, .int .i64 n] w fun e w' => e = .returned (.int .i64 0) ∧ w' = w := by
  have tn : decide (n ≤ 1) = true := by simpa using n1
  go_enter Tryd.func22, Tryd.ntmps22
  go_wp2
  go_ret
  exact ⟨rfl, rfl⟩
set_option maxHeartbeats 2000000 in
theorem l7DrawSize_any (w : World) (s g : Nat) (a : Option Addr) (c : Nat) (xs : List Int) (t : Int) (hs : Src w s a xs.length c t) (hr : Rd w g a .u8 xs) (hne : 0 < xs.length → g ≠ s) (hb : Byt xs) (hl : xs.length ≤ 1048576)
    (t0 : 0 ≤ t) (t1 : t ≤ 100000) :
    Calls Tryd.prog 60 #[.pointer (some ⟨s, 0, none⟩)] w fun e w' => ∃ (n : Int), e = .returned (.int .i64 n) ∧ -1 ≤ n ∧ n ≤ 8161 ∧ Only s w w' := by
  have NX := fun W t n h1 h2 => l1Next_any W s g a c xs t n h1 h2 hne hb hl
  go_enter Tryd.func60, Tryd.ntmps60
  go_wp2_with fail
  refine (NX w t 16 hs hr t0 (by omega) (by decide) (by decide)).mono ?_
  rintro e w1 ⟨k, rfl, ⟨k0, k1⟩, S1, O1⟩
  have r1 := hr.but (But.ofOnly O1) hne
  by_cases c0 : k = 0
  · subst c0
    go_wp2_with fail
    refine (NX w1 (t + 1) 3 S1 r1 (by omega) (by omega) (by decide) (by decide)).mono ?_
    rintro e w2 ⟨r, rfl, ⟨h0, h1⟩, S2, O2⟩
    go_wp2
    go_ret
    exact ⟨_, rfl, by omega, by omega, O1.trans O2⟩
  · have t0' : (k == 0) = false := by simp [c0]
    by_cases c1 : k = 1
    · subst c1
      go_wp2
      go_ret
      exact ⟨_, rfl, by omega, by omega, O1⟩
    · have t1' : (k == 1) = false := by simp [c1]
      by_cases c2 : k = 2
      · subst c2
        go_wp2_with fail
        refine (NX w1 (t + 1) 1000 S1 r1 (by omega) (by omega) (by decide) (by decide)).mono ?_
        rintro e w2 ⟨r, rfl, ⟨h0, h1⟩, S2, O2⟩
        go_wp2
        go_ret
        exact ⟨_, rfl, by omega, by omega, O1.trans O2⟩
      · have t2' : (k == 2) = false := by simp [c2]
        by_cases c3 : k < 8
        · have t3' : decide (k < 8) = true := by simpa using c3
          go_wp2_with fail
          refine (NX w1 (t + 1) 5 S1 r1 (by omega) (by omega) (by decide) (by decide)).mono ?_
          rintro e w2 ⟨r, rfl, ⟨h0, h1⟩, S2, O2⟩
          go_wp2
          go_ret
          exact ⟨_, rfl, by omega, by omega, O1.trans O2⟩
        · have t3' : decide (k < 8) = false := by simpa using c3
          go_wp2_with fail
          refine (NX w1 (t + 1) 100 S1 r1 (by omega) (by omega) (by decide) (by decide)).mono ?_
          rintro e w2 ⟨r, rfl, ⟨h0, h1⟩, S2, O2⟩
          go_wp2
          go_ret
          exact ⟨_, rfl, by omega, by omega, O1.trans O2⟩
set_option maxHeartbeats 2000000 in
theorem drawExpand_any (w : World) (g : Nat) (a : Option Addr) (c : Nat) (xs : List Int) (hr : Rd w g a .u8 xs) (hb : Byt xs) (hl : xs.length ≤ 1048576) :
    Calls Tryd.prog 24 #[.slice a xs.length c] w fun e w' => ∃ (ks ds : List Int) (m : Int) (a1 a2 : Option Addr) (c1 c2 g1 g2 : Nat), e = .returned (.tuple #[.slice a1 ks.length c1, .slice a2 ds.length c2, .int .i64 m]) ∧ -1 ≤ m ∧ m ≤ 8161 ∧ ks.length ≤ 200 ∧ ds.length ≤ 200 ∧ Byt ks ∧ Byt ds ∧ Own w' g1 a1 .u8 ks ∧ Own w' g2 a2 .u8 ds ∧ (a1 = none → c1 = 0) ∧ (a2 = none → c2 = 0) ∧ ks.length ≤ c1 ∧ ds.length ≤ c2 ∧ Below w.heap.size w w' := by
  go_enter Tryd.func24, Tryd.ntmps24
  go_wp2_with fail
  refine (l1Source_any w a xs.length c hl).mono ?_
  rintro e w1 ⟨rfl, S1, n1⟩
  have hne : 0 < xs.length → g ≠ w.heap.size := fun h => by have := hr.lt h; omega
  have y1 : w.heap.size < w1.heap.size := S1.lt
  go_wp2_with fail
  refine (l7DrawKey_any w1 w.heap.size g a c xs 0 S1 (hr.up n1) hne hb hl (by omega) (by omega)).mono ?_
  rintro e w2 ⟨ks, t2, kl, kb, ⟨a2, c2, g2, rfl, o2, p2, q2, r2⟩, h0, h1, S2, B2⟩
  have N2 : Below w.heap.size w w2 := n1.trans (B2.below (Nat.le_refl _) n1.size)
  go_wp2_with fail
  refine (l1Next_any w2 w.heap.size g a c xs t2 80 S2 (hr.up N2) hne hb hl (by omega) (by omega) (by decide) (by decide)).mono ?_
  rintro e w3 ⟨r, rfl, ⟨r0, r1'⟩, S3, O3⟩
  obtain ⟨n, rfl⟩ := Int.eq_ofNat_of_zero_le r0
  have N3 : Below w.heap.size w w3 := N2.trans (O3.below (Nat.le_refl _))
  have o3 := o2.but (But.ofOnly O3) (fun _ => by omega)
  have y2 := B2.size
  have z3 := hide O3.size
  clear O3 S2 B2 S1 o2
  go_wp2_with fail
  refine (l1DrawBytes_any w3 w.heap.size g a c xs (t2 + 1) n S3 (hr.up N3) hne hb hl (by omega) (by omega)).mono ?_
  rintro e w4 ⟨ys, hy, by', ⟨a4, c4, g4, rfl, o4, p4, q4, r4⟩, S4, B4⟩
  have N4 : Below w.heap.size w w4 := N3.trans (B4.below (Nat.le_refl _) N3.size)
  have o5 := o3.but B4 (fun _ => by omega)
  have y3 := N3.size
  have HY := hide hy
  clear hy S3 B4 o3
  go_wp2_with fail
  refine (l7DrawSize_any w4 w.heap.size g a c xs _ S4 (hr.up N4) hne hb hl (by omega) (by omega)).mono ?_
  rintro e w5 ⟨m, rfl, m0, m1, O5⟩
  have N5 : Below w.heap.size w w5 := N4.trans (O5.below (Nat.le_refl _))
  have o6 := o5.but (But.ofOnly O5) (fun _ => by omega)
  have o7 := o4.but (But.ofOnly O5) (fun _ => by have := z3.out; omega)
  clear S4 O5 o5 o4
  go_wp2
  refine bodyPost_ret (v := .tuple #[.slice a2 ks.length c2, .slice a4 ys.length c4, .int .i64 m]) (by simp [results, Tryd.results24, go_sem]) rfl ?_
  exact ⟨ks, ys, m, a2, a4, c2, c4, g2, g4, rfl, m0, m1, kl, by rw [HY.out]; omega, kb, by', o6, o7, p2, p4, q2, q4, N5⟩
end Go.Proofs.YtljpjbojdekeiaaDoor

/-
  What the listed words give the walks of the hashes (written by gens/lhash.py).
-/
namespace Go.Proofs.YtljpjbojdekeiaaDoor
set_option maxRecDepth 100000
open Go.RowKit

theorem gSt : Tryd.prog.globalNamed "loop.example/g00004/impl.startWords" = some 0 := by kernel_rfl
theorem tSt : (Tryd.prog.globals[0]?).map (·.type) = some 92 := by kernel_rfl
theorem gSp : Tryd.prog.globalNamed "loop.example/g00004/impl.stepWords" = some 1 := by kernel_rfl
theorem tSp : (Tryd.prog.globals[1]?).map (·.type) = some 108 := by kernel_rfl
theorem uSt : Tryd.prog.underlying 92 = some (.array 8 58) := by kernel_rfl
theorem uSp : Tryd.prog.underlying 108 = some (.array 80 58) := by kernel_rfl
theorem cSt : Tryd.prog.cellsOf 92 = 8 := by kernel_rfl
theorem cSp : Tryd.prog.cellsOf 108 = 80 := by kernel_rfl
theorem cUw : Tryd.prog.cellsOf 58 = 1 := by kernel_rfl
theorem uUw : Tryd.prog.underlying 58 = some (.int .u64) := by kernel_rfl
theorem hasT_of {W : World} {n : String} {g : Nat} {ty : TypeId} {N : Nat} {l : List Int} (hn : Tryd.prog.globalNamed n = some g) (ht : (Tryd.prog.globals[g]?).map (·.type) = some ty) (hu : Tryd.prog.underlying ty = some (.array N 58)) (hc : Tryd.prog.cellsOf ty = N)
    (h : Lib.VarReads Tryd.prog W n (.agg (l.map fun x => .lit (.int .u64 x)))) : HasT W g l := by
  obtain ⟨g', t, cs, fuel, p, hg, ht', hv, hd⟩ := h
  obtain rfl := Option.some.inj (hn.symm.trans hg)
  obtain rfl := Option.some.inj (ht.symm.trans ht')
  have hcs := Lib.cells_of_tab (zs := l) hu uUw cUw hc hd
  intro k hk
  rw [World.var?_cell hg hv k]
  obtain ⟨m⟩ := cs
  simp only at hcs
  subst hcs
  simp [hk]
theorem reads_ofH {l : List (String × DataW Unit)} {W : World} (h : laidMetH Tryd.prog l W) (hp : (l.all fun x => x.2.handleName?.isNone) = true) {n : String} {d : DataW Unit} (hm : (n, d) ∈ l) : Lib.VarReads Tryd.prog W n d := by
  rw [MakeChecks.laidMetH_plain _ _ _ hp] at h
  exact Lib.laidMet.reads h hm
theorem start_of {W : World} (h : Lib.VarReads Tryd.prog W "loop.example/g00004/impl.startWords" Rows.laid_loop_example_g00004_impl_startWords) : HasT W 0 stL := hasT_of gSt tSt uSt cSt h
theorem steps_of {W : World} (h : Lib.VarReads Tryd.prog W "loop.example/g00004/impl.stepWords" Rows.laid_loop_example_g00004_impl_stepWords) : HasT W 1 kL := hasT_of gSp tSp uSp cSp h
def HasH (W : World) : Prop := HasT W 0 stL ∧ HasT W 1 kL
theorem HasH.up {w w' : World} (h : HasH w) (n : Below w.heap.size w w') : HasH w' := ⟨h.1.up n, h.2.up n⟩
end Go.Proofs.YtljpjbojdekeiaaDoor

/-
  The law FnExpandBegins.
-/
namespace Go.Proofs.YtljpjbojdekeiaaDoor
set_option maxRecDepth 100000
open Go Go.RowKit

theorem laid_exb {W : World} (h : laidMetH Tryd.prog Rows.fnExpandBeginsRow.laid W) : HasH W := ⟨start_of (reads_ofH h (by kernel_rfl) (.head _)), steps_of (reads_ofH h (by kernel_rfl) (.tail _ (.head _)))⟩
set_option maxRecDepth 20000 in
set_option maxHeartbeats 8000000 in
theorem exb_law (w : World) (g0 : Nat) (a0 : Option Addr) (c0 : Nat) (X0 : List Int) (hX0 : Rd w g0 a0 .u8 X0) (bX0 : Byt X0) (g1 : Nat) (a1 : Option Addr) (c1 : Nat) (X1 : List Int) (hX1 : Rd w g1 a1 .u8 X1) (bX1 : Byt X1) (hL : HasH w) :
    Calls Tryd.prog 5 #[.slice a0 X0.length c0, .slice a1 X1.length c1] w fun e w' => e = .returned (.bool true) ∧ Below w.heap.size w w' := by
  by_cases q0 : X0.length ≤ 1048576
  · have u0 : decide ((1048576 : Int) < (X0.length : Int)) = false := by simp; omega
    by_cases q1 : X1.length ≤ 1048576
    · have u1 : decide ((1048576 : Int) < (X1.length : Int)) = false := by simp; omega
      go_enter Tryd.func5, Tryd.ntmps5
      go_wp2_with fail
      refine (drawExpand_any w g0 a0 c0 X0 hX0 bX0 q0).mono ?_
      rintro e w1 ⟨ks, ds, m, a2, a3, c2, c3, g2, g3, rfl, m0, m1, kl, dl, kb, db, ok, od, pk, pd, qk, qd, n1⟩
      have IM := fun W g a c h p g' a' c' h' p' n (b : Below w.heap.size w W) => implExpand_any W g a c ks h kb p (by omega) g' a' c' ds h' db p' (by omega) n (hL.1.up b) (hL.2.up b)
      have E32 : Hid ((expA ks ds 32).length = 32) := by show _ = _; rw [show (32 : Int) = ((32 : Nat) : Int) from rfl, expA_of ks ds (by omega), expL_len]
      by_cases hin : 0 ≤ m ∧ m ≤ 8160
      · have s0 : decide (m < 0) = false := by simp; omega
        have s1 : decide (8160 < m) = false := by simp; omega
        obtain ⟨M, rfl⟩ := Int.eq_ofNat_of_zero_le hin.1
        have hM : M ≤ 8160 := by omega
        have LM : Hid ((expA ks ds (M : Int)).length = M) := by show _ = _; rw [expA_of ks ds hM, expL_len]
        have AT : Calls Tryd.prog 22 #[.slice a1 X1.length c1, .int .i64 0, .int .i64 ((M : Int) + 1)] w1 fun e w' => ∃ r : Nat, e = .returned (.int .i64 (r : Int)) ∧ r ≤ M ∧ ∃ m, w' = w1.drewN m := by
          by_cases z : M = 0
          · subst z
            refine (lwAt_small w1 a1 c1 X1.length 0 _ (by omega)).mono ?_
            rintro e w' ⟨rfl, rfl⟩
            exact ⟨0, rfl, Nat.le_refl _, 0, rfl⟩
          · refine (lwAt_any w1 g1 a1 c1 X1 0 ((M : Int) + 1) (hX1.up n1) bX1 q1 (by omega) (by omega) (by omega) (by omega)).mono ?_
            rintro e w' ⟨r, rfl, hr, m, rfl⟩
            exact ⟨r, rfl, by omega, m, rfl⟩
        have ATH := hide AT
        clear AT
        go_wp2_with fail
        refine ATH.out.mono ?_
        rintro e w2 ⟨R, rfl, hR, mm, rfl⟩
        have nb : Below w1.heap.size w1 (w1.drewN mm) := below_drewN (Below.refl _ _) mm
        replace ok := ok.up nb
        replace od := od.up nb
        have N2 := nxt n1 nb
        generalize w1.drewN mm = w2 at *
        clear ATH nb n1
        have LR : Hid ((expA ks ds (R : Int)).length = R) := by show _ = _; rw [expA_of ks ds (by omega), expL_len]
        have PR : Hid (expA ks ds (R : Int) = (expA ks ds (M : Int)).take R) := by show _ = _; rw [expA_of ks ds (by omega), expA_of ks ds hM]; exact expL_pre ks ds hR
        have I1 := hide (fun W g a c h p g' a' c' h' p' b => IM W g a c h p g' a' c' h' p' (M : Int) b)
        have I2 := hide (fun W g a c h p g' a' c' h' p' b => IM W g a c h p g' a' c' h' p' (R : Int) b)
        have I3 := hide (fun W g a c h p g' a' c' h' p' b => IM W g a c h p g' a' c' h' p' 32 b)
        clear IM
        generalize expA ks ds (M : Int) = LL at *
        generalize expA ks ds (R : Int) = SS at *
        generalize expA ks ds 32 = TT at *
        go_wp2_with fail
        refine (lwCopy_any w2 g2 a2 c2 ks ok.rd pk (by omega)).mono ?_
        rintro e w3 ⟨⟨a4, c4, g4, rfl, o4, p4, q4, r4⟩, n3⟩
        go_wp2_with fail
        refine (lwCopy_any w3 g3 a3 c3 ds (od.up n3).rd pd (by omega)).mono ?_
        rintro e w4 ⟨⟨a5, c5, g5, rfl, o5, p5, q5, r5⟩, n4⟩
        have N4 := nxt (nxt N2 n3) n4
        go_wp2_with fail
        refine (I1.out w4 g4 a4 c4 (o4.up n4).rd q4 g5 a5 c5 o5.rd q5 N4).mono ?_
        rintro e w5 ⟨⟨a6, c6, g6, rfl, o6, p6, q6, r6⟩, n5⟩
        have N5 := nxt N4 n5
        have ok5 := ((ok.up n3).up n4).up n5
        have od5 := ((od.up n3).up n4).up n5
        clear n3 n4 n5 o4 o5 ok od I1
        go_wp2_with fail
        refine (lwCopy_any w5 g2 a2 c2 ks ok5.rd pk (by omega)).mono ?_
        rintro e w6 ⟨⟨a7, c7, g7, rfl, o7, p7, q7, r7⟩, n6⟩
        go_wp2_with fail
        refine (lwCopy_any w6 g3 a3 c3 ds (od5.up n6).rd pd (by omega)).mono ?_
        rintro e w7 ⟨⟨a8, c8, g8, rfl, o8, p8, q8, r8⟩, n7⟩
        have N7 := nxt (nxt N5 n6) n7
        go_wp2_with fail
        refine (I2.out w7 g7 a7 c7 (o7.up n7).rd q7 g8 a8 c8 o8.rd q8 N7).mono ?_
        rintro e w8 ⟨⟨a9, c9, g9, rfl, o9, p9, q9, r9⟩, n8⟩
        have N8 := nxt N7 n8
        have ok8 := ((ok5.up n6).up n7).up n8
        have od8 := ((od5.up n6).up n7).up n8
        have oL := ((o6.up n6).up n7).up n8
        clear n6 n7 n8 o7 o8 o6 ok5 od5 I2
        have oS := oL.take R
        rw [← PR.out] at oS
        have k1 : ((LL.length : Int) == (M : Int)) = true := by rw [LM.out]; simp
        have k2 : ((SS.length : Int) == (R : Int)) = true := by rw [LR.out]; simp
        have rc : (R : Int) ≤ (c6 : Int) := by have := LM.out; omega
        have SAME := lwSame_same w8 g9 g6 a9 a6 c9 c6 SS o9.rd oS.rd
        rw [LR.out] at SAME
        have SH := hide SAME
        have lr2 := LR.out
        have lm2 := LM.out
        rw [lr2, lm2]
        clear k1 k2 SAME
        have k1 : ((M : Int) == (M : Int)) = true := by simp
        have k2 : ((R : Int) == (R : Int)) = true := by simp
        clear lr2 lm2
        go_wp2_with fail
        refine SH.out.mono ?_
        rintro e w8' ⟨rfl, rfl⟩
        go_wp2_with fail
        refine (I3.out w8' g2 a2 c2 ok8.rd qk g3 a3 c3 od8.rd qd N8).mono ?_
        rintro e w9 ⟨⟨aA, cA, gA, rfl, oA, pA, qA, rA⟩, n9⟩
        rw [E32.out]
        go_wp2
        go_ret
        exact ⟨rfl, nxt N8 n9⟩
      · have EM : Hid (expA ks ds m = []) := by show _ = _; unfold expA; rw [if_neg hin]
        have I1 := IM w1 g2 a2 c2 ok.rd qk g3 a3 c3 od.rd qd m n1
        rw [EM.out] at I1
        have IH := hide I1
        have E0 : Hid ((expA [] [] 32).length = 32) := by show _ = _; rw [show (32 : Int) = ((32 : Nat) : Int) from rfl, expA_of [] [] (by omega), expL_len]
        have I2 := hide (fun W (b : Below w.heap.size w W) => implExpand_any W 0 none 0 [] (Rd.nil _ _ _ _) byt_nil (by simp) (by simp) 0 none 0 [] (Rd.nil _ _ _ _) byt_nil (by simp) (by simp) 32 (hL.1.up b) (hL.2.up b))
        clear I1 IM
        generalize expA [] [] 32 = TT at *
        have TAIL : decide (m < 0) = true ∨ (decide (m < 0) = false ∧ decide (8160 < m) = true) := by
          by_cases z : m < 0
          · exact .inl (by simpa using z)
          · exact .inr ⟨by simpa using z, by simp; omega⟩
        rcases TAIL with s0 | ⟨s0, s1⟩
        · go_wp2_with fail
          refine IH.out.mono ?_
          rintro e w2 ⟨⟨a5, c5, g5, rfl, o5, p5, q5, r5⟩, n2⟩
          go_wp2_with fail
          refine (I2.out w2 (nxt n1 n2)).mono ?_
          rintro e w3 ⟨⟨a6, c6, g6, rfl, o6, p6, q6, r6⟩, n3⟩
          rw [E0.out]
          go_wp2
          go_ret
          exact ⟨rfl, nxt (nxt n1 n2) n3⟩
        · go_wp2_with fail
          refine IH.out.mono ?_
          rintro e w2 ⟨⟨a5, c5, g5, rfl, o5, p5, q5, r5⟩, n2⟩
          go_wp2_with fail
          refine (I2.out w2 (nxt n1 n2)).mono ?_
          rintro e w3 ⟨⟨a6, c6, g6, rfl, o6, p6, q6, r6⟩, n3⟩
          rw [E0.out]
          go_wp2
          go_ret
          exact ⟨rfl, nxt (nxt n1 n2) n3⟩
    · have u1 : decide ((1048576 : Int) < (X1.length : Int)) = true := by simp; omega
      go_enter Tryd.func5, Tryd.ntmps5
      go_wp2
      go_ret
      exact ⟨rfl, Below.refl _ _⟩
  · have u0 : decide ((1048576 : Int) < (X0.length : Int)) = true := by simp; omega
    go_enter Tryd.func5, Tryd.ntmps5
    go_wp2
    go_ret
    exact ⟨rfl, Below.refl _ _⟩
end Go.Proofs.YtljpjbojdekeiaaDoor
