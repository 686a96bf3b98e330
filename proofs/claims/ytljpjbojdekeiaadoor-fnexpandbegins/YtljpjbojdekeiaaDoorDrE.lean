
/-
  What is drawn for Expand.
-/
import Derived.Test.YtljpjbojdekeiaaDoorDrK
import Derived.Test.YtljpjbojdekeiaaDoorDrQ
namespace Go.Proofs.YtljpjbojdekeiaaDoor
set_option maxRecDepth 100000
open Go.RowKit

set_option maxHeartbeats 2000000 in
theorem lwAt_small (w : World) (a : Option Addr) (c m : Nat) (i n : Int) (n1 : n ≤ 1) : Calls Tryd.prog 22 #[.slice a m c, .int .i64 i, .int .i64 n] w fun e w' => e = .returned (.int .i64 0) ∧ w' = w := by
  have tn : decide (n ≤ 1) = true := by simpa using n1
  go_enter Tryd.func22, Tryd.ntmps22
  go_wp2
  go_ret
  exact ⟨rfl, rfl⟩
set_option maxHeartbeats 2000000 in
theorem l7DrawSize_any (w : World) (s g : Nat) (a : Option Addr) (c : Nat) (xs : List Int) (t : Int) (hs : Src w s a xs.length c t) (hr : Rd w g a .u8 xs) (hne : 0 < xs.length → g ≠ s) (hb : Byt xs) (hl : xs.length ≤ 1048576)
    (t0 : 0 ≤ t) (t1 : t ≤ 100000) :
    Calls Tryd.prog 60 #[.pointer (some ⟨s, 0, none⟩)] w fun e w' => ∃ (n : Int), e = .returned (.int .i64 n) ∧ -1 ≤ n ∧ n ≤ 8161 ∧ Only s w w' := by
  have NX := fun W t n h1 h2 => l1Next_any W s g a c xs t n h1 h2 hne hb hl
  go_enter Tryd.func60, Tryd.ntmps60
  go_wp2_with fail
  refine (NX w t 16 hs hr t0 (by omega) (by decide) (by decide)).mono ?_
  rintro e w1 ⟨k, rfl, ⟨k0, k1⟩, S1, O1⟩
  have r1 := hr.but (But.ofOnly O1) hne
  by_cases c0 : k = 0
  · subst c0
    go_wp2_with fail
    refine (NX w1 (t + 1) 3 S1 r1 (by omega) (by omega) (by decide) (by decide)).mono ?_
    rintro e w2 ⟨r, rfl, ⟨h0, h1⟩, S2, O2⟩
    go_wp2
    go_ret
    exact ⟨_, rfl, by omega, by omega, O1.trans O2⟩
  · have t0' : (k == 0) = false := by simp [c0]
    by_cases c1 : k = 1
    · subst c1
      go_wp2
      go_ret
      exact ⟨_, rfl, by omega, by omega, O1⟩
    · have t1' : (k == 1) = false := by simp [c1]
      by_cases c2 : k = 2
      · subst c2
        go_wp2_with fail
        refine (NX w1 (t + 1) 1000 S1 r1 (by omega) (by omega) (by decide) (by decide)).mono ?_
        rintro e w2 ⟨r, rfl, ⟨h0, h1⟩, S2, O2⟩
        go_wp2
        go_ret
        exact ⟨_, rfl, by omega, by omega, O1.trans O2⟩
      · have t2' : (k == 2) = false := by simp [c2]
        by_cases c3 : k < 8
        · have t3' : decide (k < 8) = true := by simpa using c3
          go_wp2_with fail
          refine (NX w1 (t + 1) 5 S1 r1 (by omega) (by omega) (by decide) (by decide)).mono ?_
          rintro e w2 ⟨r, rfl, ⟨h0, h1⟩, S2, O2⟩
          go_wp2
          go_ret
          exact ⟨_, rfl, by omega, by omega, O1.trans O2⟩
        · have t3' : decide (k < 8) = false := by simpa using c3
          go_wp2_with fail
          refine (NX w1 (t + 1) 100 S1 r1 (by omega) (by omega) (by decide) (by decide)).mono ?_
          rintro e w2 ⟨r, rfl, ⟨h0, h1⟩, S2, O2⟩
          go_wp2
          go_ret
          exact ⟨_, rfl, by omega, by omega, O1.trans O2⟩
set_option maxHeartbeats 2000000 in
theorem drawExpand_any (w : World) (g : Nat) (a : Option Addr) (c : Nat) (xs : List Int) (hr : Rd w g a .u8 xs) (hb : Byt xs) (hl : xs.length ≤ 1048576) :
    Calls Tryd.prog 24 #[.slice a xs.length c] w fun e w' => ∃ (ks ds : List Int) (m : Int) (a1 a2 : Option Addr) (c1 c2 g1 g2 : Nat), e = .returned (.tuple #[.slice a1 ks.length c1, .slice a2 ds.length c2, .int .i64 m]) ∧ -1 ≤ m ∧ m ≤ 8161 ∧ ks.length ≤ 200 ∧ ds.length ≤ 200 ∧ Byt ks ∧ Byt ds ∧ Own w' g1 a1 .u8 ks ∧ Own w' g2 a2 .u8 ds ∧ (a1 = none → c1 = 0) ∧ (a2 = none → c2 = 0) ∧ ks.length ≤ c1 ∧ ds.length ≤ c2 ∧ Below w.heap.size w w' := by
  go_enter Tryd.func24, Tryd.ntmps24
  go_wp2_with fail
  refine (l1Source_any w a xs.length c hl).mono ?_
  rintro e w1 ⟨rfl, S1, n1⟩
  have hne : 0 < xs.length → g ≠ w.heap.size := fun h => by have := hr.lt h; omega
  have y1 : w.heap.size < w1.heap.size := S1.lt
  go_wp2_with fail
  refine (l7DrawKey_any w1 w.heap.size g a c xs 0 S1 (hr.up n1) hne hb hl (by omega) (by omega)).mono ?_
  rintro e w2 ⟨ks, t2, kl, kb, ⟨a2, c2, g2, rfl, o2, p2, q2, r2⟩, h0, h1, S2, B2⟩
  have N2 : Below w.heap.size w w2 := n1.trans (B2.below (Nat.le_refl _) n1.size)
  go_wp2_with fail
  refine (l1Next_any w2 w.heap.size g a c xs t2 80 S2 (hr.up N2) hne hb hl (by omega) (by omega) (by decide) (by decide)).mono ?_
  rintro e w3 ⟨r, rfl, ⟨r0, r1'⟩, S3, O3⟩
  obtain ⟨n, rfl⟩ := Int.eq_ofNat_of_zero_le r0
  have N3 : Below w.heap.size w w3 := N2.trans (O3.below (Nat.le_refl _))
  have o3 := o2.but (But.ofOnly O3) (fun _ => by omega)
  have y2 := B2.size
  have z3 := hide O3.size
  clear O3 S2 B2 S1 o2
  go_wp2_with fail
  refine (l1DrawBytes_any w3 w.heap.size g a c xs (t2 + 1) n S3 (hr.up N3) hne hb hl (by omega) (by omega)).mono ?_
  rintro e w4 ⟨ys, hy, by', ⟨a4, c4, g4, rfl, o4, p4, q4, r4⟩, S4, B4⟩
  have N4 : Below w.heap.size w w4 := N3.trans (B4.below (Nat.le_refl _) N3.size)
  have o5 := o3.but B4 (fun _ => by omega)
  have y3 := N3.size
  have HY := hide hy
  clear hy S3 B4 o3
  go_wp2_with fail
  refine (l7DrawSize_any w4 w.heap.size g a c xs _ S4 (hr.up N4) hne hb hl (by omega) (by omega)).mono ?_
  rintro e w5 ⟨m, rfl, m0, m1, O5⟩
  have N5 : Below w.heap.size w w5 := N4.trans (O5.below (Nat.le_refl _))
  have o6 := o5.but (But.ofOnly O5) (fun _ => by omega)
  have o7 := o4.but (But.ofOnly O5) (fun _ => by have := z3.out; omega)
  clear S4 O5 o5 o4
  go_wp2
  refine bodyPost_ret (v := .tuple #[.slice a2 ks.length c2, .slice a4 ys.length c4, .int .i64 m]) (by simp [results, Tryd.results24, go_sem]) rfl ?_
  exact ⟨ks, ys, m, a2, a4, c2, c4, g2, g4, rfl, m0, m1, kl, by rw [HY.out]; omega, kb, by', o6, o7, p2, p4, q2, q4, N5⟩
end Go.Proofs.YtljpjbojdekeiaaDoor
