
/-
  What is drawn for the cipher: keys, nonces, counters, texts; DrawStreamXor (written by gens/dr8.py).
-/
import Derived.Test.YtickbedbdpccpaaDrL
namespace Go.Proofs.Ytickbedbdpccpaa
open Go.RowKit

set_option maxHeartbeats 2000000 in
theorem l8DrawNonce_any (w : World) (s g : Nat) (a : Option Addr) (c : Nat) (xs : List Int) (t : Int) (hs : Src w s a xs.length c t) (hr : Rd w g a .u8 xs) (hne : 0 < xs.length → g ≠ s) (hb : Byt xs) (hl : xs.length ≤ 1048576)
    (t0 : 0 ≤ t) (t1 : t ≤ 100000) :
    Calls Try.prog 28 #[.pointer (some ⟨s, 0, none⟩)] w fun e w' => ∃ (ys : List Int) (t' : Int), ys.length ≤ 40 ∧ Byt ys ∧ NewRow w.heap.size w' e .u8 ys ∧ t ≤ t' ∧ t' ≤ t + 300 ∧ Src w' s a xs.length c t' ∧ But s w w' := by
  have NX := fun W t n h1 h2 => l1Next_any W s g a c xs t n h1 h2 hne hb hl
  have CH := fun W t n h1 h2 => l1Chance_any W s g a c xs t n h1 h2 hne hb hl
  have DB := fun W t n h1 h2 => l1DrawBytes_any W s g a c xs t n h1 h2 hne hb hl
  go_enter Try.func28, Try.ntmps28
  go_wp2_with fail
  refine (CH w t 25 hs hr t0 (by omega) (by decide) (by decide)).mono ?_
  rintro e w1 ⟨b, rfl, S1, O1⟩
  have r1 := hr.but (But.ofOnly O1) hne
  have B1 : But s w w1 := But.ofOnly O1
  have z1 := hide O1.size
  cases b with
  | true =>
    go_wp2_with fail
    refine (NX w1 (t + 1) 2 S1 r1 (by omega) (by omega) (by decide) (by decide)).mono ?_
    rintro e w2 ⟨r, rfl, ⟨h0, h1⟩, S2, O2⟩
    obtain ⟨n, hn⟩ := Int.eq_ofNat_of_zero_le (show 0 ≤ 11 + 2 * r by omega)
    have r2 := r1.but (But.ofOnly O2) hne
    have n9 : n < 36 := by omega
    have D := hide (DB w2 (t + 1 + 1) n S2 r2 (by omega) (by omega))
    rw [← hn] at D
    have z2 := hide O2.size
    have HN := hide hn
    clear hn
    go_wp2_with fail
    refine D.out.mono ?_
    rintro e w3 ⟨ys, hy, by', ⟨a3, c3, g3, rfl, o3, p3, q3, r3⟩, S3, B3⟩
    have HY := hide hy
    clear hy D
    go_wp2
    go_ret
    exact ⟨ys, t + 1 + 1 + (n : Int), by rw [HY.out]; omega, by', ⟨a3, c3, g3, rfl, o3, p3, q3, by have := z1.out; have := z2.out; omega⟩, by omega, by omega, by have := HN.out; rw [← this]; exact S3, (B1.only O2).trans B3⟩
  | false =>
    go_wp2_with fail
    refine (DB w1 (t + 1) 12 S1 r1 (by omega) (by omega)).mono ?_
    rintro e w4 ⟨ys, hy, by', ⟨a3, c3, g3, rfl, o3, p3, q3, r3⟩, S4, B4⟩
    have HY := hide hy
    clear hy
    go_wp2
    go_ret
    exact ⟨ys, t + 1 + 12, by rw [HY.out]; omega, by', ⟨a3, c3, g3, rfl, o3, p3, q3, by have := z1.out; omega⟩, by omega, by omega, S4, B1.trans B4⟩
end Go.Proofs.Ytickbedbdpccpaa
