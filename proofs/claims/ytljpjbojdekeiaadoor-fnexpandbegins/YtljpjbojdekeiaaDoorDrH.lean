
/-
  What is drawn as data of a hash: some bytes, not many.
-/
import Derived.Test.YtljpjbojdekeiaaDoorDrL
namespace Go.Proofs.YtljpjbojdekeiaaDoor
set_option maxRecDepth 100000
open Go.RowKit

set_option maxHeartbeats 2000000 in
theorem l6Length_any (w : World) (s g : Nat) (a : Option Addr) (c : Nat) (xs : List Int) (t : Int) (hs : Src w s a xs.length c t) (hr : Rd w g a .u8 xs) (hne : 0 < xs.length → g ≠ s) (hb : Byt xs) (hl : xs.length ≤ 1048576)
    (t0 : 0 ≤ t) (t1 : t ≤ 100000) :
    Calls Tryd.prog 49 #[.pointer (some ⟨s, 0, none⟩)] w fun e w' => ∃ (n : Nat) (t' : Int), e = .returned (.int .i64 (n : Int)) ∧ n ≤ 5000 ∧ t ≤ t' ∧ t' ≤ t + 4 ∧ Src w' s a xs.length c t' ∧ Only s w w' := by
  have NX := fun W t n h1 h2 => l1Next_any W s g a c xs t n h1 h2 hne hb hl
  have CH := fun W t n h1 h2 => l1Chance_any W s g a c xs t n h1 h2 hne hb hl
  go_enter Tryd.func49, Tryd.ntmps49
  go_wp2_with fail
  refine (CH w t 2 hs hr t0 (by omega) (by decide) (by decide)).mono ?_
  rintro e w1 ⟨b, rfl, S1, O1⟩
  have r1 := hr.but (But.ofOnly O1) hne
  cases b with
  | true =>
    go_wp2_with fail
    refine (NX w1 (t + 1) 40 S1 r1 (by omega) (by omega) (by decide) (by decide)).mono ?_
    rintro e w2 ⟨r, rfl, ⟨h0, h1⟩, S2, O2⟩
    obtain ⟨n, rfl⟩ := Int.eq_ofNat_of_zero_le h0
    go_wp2
    go_ret
    exact ⟨n, t + 1 + 1, rfl, by omega, by omega, by omega, S2, O1.trans O2⟩
  | false =>
    go_wp2_with fail
    refine (NX w1 (t + 1) 17 S1 r1 (by omega) (by omega) (by decide) (by decide)).mono ?_
    rintro e w2 ⟨r, rfl, -, S2, O2⟩
    have r2 := r1.but (But.ofOnly O2) hne
    by_cases h8 : r = 8
    · subst h8
      go_wp2_with fail
      refine (NX w2 (t + 1 + 1) 300 S2 r2 (by omega) (by omega) (by decide) (by decide)).mono ?_
      rintro e w3 ⟨r, rfl, ⟨h0, h1⟩, S3, O3⟩
      obtain ⟨n, rfl⟩ := Int.eq_ofNat_of_zero_le h0
      go_wp2
      go_ret
      exact ⟨4000 + n, t + 1 + 1 + 1, by rw [Int.natCast_add]; rfl, by omega, by omega, by omega, S3, (O1.trans O2).trans O3⟩
    · have k8 : (r == 8) = false := by simp [h8]
      go_wp2_with fail
      refine (NX w2 (t + 1 + 1) 5 S2 r2 (by omega) (by omega) (by decide) (by decide)).mono ?_
      rintro e w3 ⟨r3, rfl, ⟨h0, h1⟩, S3, O3⟩
      have r3' := r2.but (But.ofOnly O3) hne
      go_wp2_with fail
      refine (NX w3 (t + 1 + 1 + 1) 20 S3 r3' (by omega) (by omega) (by decide) (by decide)).mono ?_
      rintro e w4 ⟨r4, rfl, ⟨i0, i1⟩, S4, O4⟩
      obtain ⟨n, hn⟩ := Int.eq_ofNat_of_zero_le (show 0 ≤ 64 * r3 + 50 + r4 by omega)
      go_wp2
      go_ret
      exact ⟨n, t + 1 + 1 + 1 + 1, by rw [← hn]; rfl, by omega, by omega, by omega, S4, ((O1.trans O2).trans O3).trans O4⟩

set_option maxHeartbeats 1000000 in
theorem drawHash_any (w : World) (g : Nat) (a : Option Addr) (c : Nat) (xs : List Int) (hr : Rd w g a .u8 xs) (hb : Byt xs) (hl : xs.length ≤ 1048576) :
    Calls Tryd.prog 14 #[.slice a xs.length c] w fun e w' => ∃ ys, ys.length ≤ 5000 ∧ Byt ys ∧ NewRow w.heap.size w' e .u8 ys ∧ Below w.heap.size w w' := by
  go_enter Tryd.func14, Tryd.ntmps14
  go_wp2_with fail
  refine (l1Source_any w a xs.length c hl).mono ?_
  rintro e w1 ⟨rfl, S1, n1⟩
  have hne : 0 < xs.length → g ≠ w.heap.size := fun h => by have := hr.lt h; omega
  go_wp2_with fail
  refine (l6Length_any w1 w.heap.size g a c xs 0 S1 (hr.up n1) hne hb hl (by omega) (by omega)).mono ?_
  rintro e w2 ⟨n, t, rfl, hn, h0, h1, S2, O2⟩
  go_wp2_with fail
  refine (l1DrawBytes_any w2 w.heap.size g a c xs t n S2 ((hr.up n1).but (But.ofOnly O2) hne) hne hb hl h0 (by omega)).mono ?_
  rintro e w3 ⟨ys, hy, by', ⟨a3, c3, g3, rfl, o3, p3, q3, r3⟩, S3, B3⟩
  have N2 : Below w.heap.size w w2 := n1.trans (O2.below (Nat.le_refl _))
  have N3 : Below w.heap.size w w3 := N2.trans (B3.below (Nat.le_refl _) N2.size)
  have z2 := N2.size
  have HY := hide hy
  clear hy S1 S2 S3 O2 B3 n1
  go_wp2
  go_ret
  exact ⟨ys, by rw [HY.out]; exact hn, by', ⟨a3, c3, g3, rfl, o3, p3, q3, by omega⟩, N3⟩
end Go.Proofs.YtljpjbojdekeiaaDoor
