
/-
  What is drawn as a key; DrawMac.
-/
import Derived.Test.YtljpjbojdekeiaaDoorDrH
namespace Go.Proofs.YtljpjbojdekeiaaDoor
set_option maxRecDepth 100000
open Go.RowKit

set_option maxHeartbeats 2000000 in
theorem l7DrawKey_any (w : World) (s g : Nat) (a : Option Addr) (c : Nat) (xs : List Int) (t : Int) (hs : Src w s a xs.length c t) (hr : Rd w g a .u8 xs) (hne : 0 < xs.length → g ≠ s) (hb : Byt xs) (hl : xs.length ≤ 1048576)
    (t0 : 0 ≤ t) (t1 : t ≤ 100000) :
    Calls Tryd.prog 58 #[.pointer (some ⟨s, 0, none⟩)] w fun e w' => ∃ (ys : List Int) (t' : Int), ys.length ≤ 200 ∧ Byt ys ∧ NewRow w.heap.size w' e .u8 ys ∧ t ≤ t' ∧ t' ≤ t + 300 ∧ Src w' s a xs.length c t' ∧ But s w w' := by
  have NX := fun W t n h1 h2 => l1Next_any W s g a c xs t n h1 h2 hne hb hl
  have CH := fun W t n h1 h2 => l1Chance_any W s g a c xs t n h1 h2 hne hb hl
  have DB := fun W t n h1 h2 => l1DrawBytes_any W s g a c xs t n h1 h2 hne hb hl
  go_enter Tryd.func58, Tryd.ntmps58
  go_wp2_with fail
  refine (CH w t 3 hs hr t0 (by omega) (by decide) (by decide)).mono ?_
  rintro e w1 ⟨b, rfl, S1, O1⟩
  have r1 := hr.but (But.ofOnly O1) hne
  have B1 : But s w w1 := But.ofOnly O1
  have z1 := hide O1.size
  cases b with
  | true =>
    go_wp2_with fail
    refine (NX w1 (t + 1) 10 S1 r1 (by omega) (by omega) (by decide) (by decide)).mono ?_
    rintro e w2 ⟨r, rfl, ⟨h0, h1⟩, S2, O2⟩
    obtain ⟨n, hn⟩ := Int.eq_ofNat_of_zero_le (show 0 ≤ 60 + r by omega)
    have r2 := r1.but (But.ofOnly O2) hne
    have n9 : n < 70 := by omega
    have D := hide (DB w2 (t + 1 + 1) n S2 r2 (by omega) (by omega))
    rw [← hn] at D
    have z2 := hide O2.size
    have HN := hide hn
    clear hn
    go_wp2_with fail
    refine D.out.mono ?_
    rintro e w3 ⟨ys, hy, by', ⟨a3, c3, g3, rfl, o3, p3, q3, r3⟩, S3, B3⟩
    have HY := hide hy
    clear hy D
    go_wp2
    go_ret
    exact ⟨ys, t + 1 + 1 + (n : Int), by rw [HY.out]; omega, by', ⟨a3, c3, g3, rfl, o3, p3, q3, by have := z1.out; have := z2.out; omega⟩, by omega, by omega, by have := HN.out; rw [← this]; exact S3, (B1.only O2).trans B3⟩
  | false =>
    go_wp2_with fail
    refine (CH w1 (t + 1) 4 S1 r1 (by omega) (by omega) (by decide) (by decide)).mono ?_
    rintro e w2 ⟨b2, rfl, S2, O2⟩
    have r2 := r1.but (But.ofOnly O2) hne
    have z2 := hide O2.size
    cases b2 with
    | true =>
      go_wp2_with fail
      refine (NX w2 (t + 1 + 1) 140 S2 r2 (by omega) (by omega) (by decide) (by decide)).mono ?_
      rintro e w3 ⟨r, rfl, ⟨h0, h1⟩, S3, O3⟩
      obtain ⟨n, rfl⟩ := Int.eq_ofNat_of_zero_le h0
      have r3 := r2.but (But.ofOnly O3) hne
      have n9 : n < 140 := by omega
      have z3 := hide O3.size
      go_wp2_with fail
      refine (DB w3 (t + 1 + 1 + 1) n S3 r3 (by omega) (by omega)).mono ?_
      rintro e w4 ⟨ys, hy, by', ⟨a3, c3, g3, rfl, o3, p3, q3, r3⟩, S4, B4⟩
      have HY := hide hy
      clear hy
      go_wp2
      go_ret
      exact ⟨ys, t + 1 + 1 + 1 + (n : Int), by rw [HY.out]; omega, by', ⟨a3, c3, g3, rfl, o3, p3, q3, by have := z1.out; have := z2.out; have := z3.out; omega⟩, by omega, by omega, S4, ((B1.only O2).only O3).trans B4⟩
    | false =>
      go_wp2_with fail
      refine (DB w2 (t + 1 + 1) 32 S2 r2 (by omega) (by omega)).mono ?_
      rintro e w4 ⟨ys, hy, by', ⟨a3, c3, g3, rfl, o3, p3, q3, r3⟩, S4, B4⟩
      have HY := hide hy
      clear hy
      go_wp2
      go_ret
      exact ⟨ys, t + 1 + 1 + 32, by rw [HY.out]; omega, by', ⟨a3, c3, g3, rfl, o3, p3, q3, by have := z1.out; have := z2.out; omega⟩, by omega, by omega, S4, (B1.only O2).trans B4⟩
set_option maxHeartbeats 2000000 in
theorem drawMac_any (w : World) (g : Nat) (a : Option Addr) (c : Nat) (xs : List Int) (hr : Rd w g a .u8 xs) (hb : Byt xs) (hl : xs.length ≤ 1048576) :
    Calls Tryd.prog 26 #[.slice a xs.length c] w fun e w' => ∃ (ks ds : List Int) (a1 a2 : Option Addr) (c1 c2 g1 g2 : Nat), e = .returned (.tuple #[.slice a1 ks.length c1, .slice a2 ds.length c2]) ∧ ks.length ≤ 200 ∧ ds.length ≤ 5000 ∧ Byt ks ∧ Byt ds ∧ Own w' g1 a1 .u8 ks ∧ Own w' g2 a2 .u8 ds ∧ (a1 = none → c1 = 0) ∧ (a2 = none → c2 = 0) ∧ ks.length ≤ c1 ∧ ds.length ≤ c2 ∧ w.heap.size ≤ g1 ∧ w.heap.size ≤ g2 ∧ Below w.heap.size w w' := by
  go_enter Tryd.func26, Tryd.ntmps26
  go_wp2_with fail
  refine (l1Source_any w a xs.length c hl).mono ?_
  rintro e w1 ⟨rfl, S1, n1⟩
  have hne : 0 < xs.length → g ≠ w.heap.size := fun h => by have := hr.lt h; omega
  have y1 : w.heap.size < w1.heap.size := S1.lt
  go_wp2_with fail
  refine (l7DrawKey_any w1 w.heap.size g a c xs 0 S1 (hr.up n1) hne hb hl (by omega) (by omega)).mono ?_
  rintro e w2 ⟨ks, t2, kl, kb, ⟨a2, c2, g2, rfl, o2, p2, q2, r2⟩, h0, h1, S2, B2⟩
  have N2 : Below w.heap.size w w2 := n1.trans (B2.below (Nat.le_refl _) n1.size)
  go_wp2_with fail
  refine (l6Length_any w2 w.heap.size g a c xs t2 S2 (hr.up N2) hne hb hl (by omega) (by omega)).mono ?_
  rintro e w3 ⟨n, t, rfl, hn, h2, h3, S3, O3⟩
  have N3 : Below w.heap.size w w3 := N2.trans (O3.below (Nat.le_refl _))
  have o3 := o2.but (But.ofOnly O3) (fun _ => by omega)
  have y2 := B2.size
  have z3 := hide O3.size
  clear O3 S2 B2 S1 o2
  go_wp2_with fail
  refine (l1DrawBytes_any w3 w.heap.size g a c xs t n S3 (hr.up N3) hne hb hl (by omega) (by omega)).mono ?_
  rintro e w4 ⟨ys, hy, by', ⟨a4, c4, g4, rfl, o4, p4, q4, r4⟩, S4, B4⟩
  have N4 : Below w.heap.size w w4 := N3.trans (B4.below (Nat.le_refl _) N3.size)
  have o5 := o3.but B4 (fun _ => by omega)
  have y3 := N3.size
  have HY := hide hy
  clear hy S3 S4 B4 o3
  go_wp2
  refine bodyPost_ret (v := .tuple #[.slice a2 ks.length c2, .slice a4 ys.length c4]) (by simp [results, Tryd.results26, go_sem]) rfl ?_
  exact ⟨ks, ys, a2, a4, c2, c4, g2, g4, rfl, kl, by rw [HY.out]; exact hn, kb, by', o5, o4, p2, p4, q2, q4, by omega, by omega, N4⟩
end Go.Proofs.YtljpjbojdekeiaaDoor
