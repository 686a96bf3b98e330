
/-
  What is drawn for an age: l14Draw, DrawFreshAge.
-/
import Derived.Test.YtopkbpclaeockaaDrL
import Derived.Test.YtopkbpclaeockaaStC
import Derived.Test.YtopkbpclaeockaaTkS
import Derived.Deep.DeepCutAuto
namespace Go.Proofs.Ytopkbpclaeockaa
open Go Go.RowKit

set_option maxHeartbeats 4000000 in
theorem l14Draw_any (w : World) (s g : Nat) (a : Option Addr) (c : Nat) (xs : List Int) (t : Int) (hs : Src w s a xs.length c t) (hr : Rd w g a .u8 xs) (hne : 0 < xs.length → g ≠ s) (hb : Byt xs) (hl : xs.length ≤ 1048576)
    (t0 : 0 ≤ t) (t1 : t ≤ 100000) :
    Calls Try.prog 21 #[.pointer (some ⟨s, 0, none⟩)] w fun e w' => ∃ (ys : List Int) (t' : Int), ys.length ≤ 40 ∧ Byt ys ∧ NewRow w.heap.size w' e .u8 ys ∧ t ≤ t' ∧ t' ≤ t + 300 ∧ Src w' s a xs.length c t' ∧ But s w w' := by
  have NX := fun W t n h1 h2 => l1Next_any W s g a c xs t n h1 h2 hne hb hl
  have CH := fun W t n h1 h2 => l1Chance_any W s g a c xs t n h1 h2 hne hb hl
  have DB := fun W t n h1 h2 => l1DrawBytes_any W s g a c xs t n h1 h2 hne hb hl
  go_enter Try.func21, Try.ntmps21
  go_wp2_with fail
  refine (CH w t 15 hs hr t0 (by omega) (by decide) (by decide)).mono ?_
  rintro e w1 ⟨b, rfl, S1, O1⟩
  have r1 := hr.but (But.ofOnly O1) hne
  have B1 : But s w w1 := But.ofOnly O1
  have z1 := hide O1.size
  cases b with
  | true =>
    have n1 : Below w1.heap.size w1 (w1.alloc (.cells #[.int .i64 0, .int .i64 31, .int .i64 33] 2)) := (Below.refl _ _).alloc (Nat.le_refl _) _
    have P0 : RwC (w1.alloc (.cells #[.int .i64 0, .int .i64 31, .int .i64 33] 2)) w1.heap.size [.int .i64 0, .int .i64 31, .int .i64 33] 2 := RwC.new w1 _ _
    have S2 := S1.up n1
    have r2 := r1.up n1
    have B2 := B1.trans (But.ofBelow (g := s) n1)
    have ls := S1.lt
    have zz : w1.heap.size ≤ (w1.alloc (.cells #[.int .i64 0, .int .i64 31, .int .i64 33] 2)).heap.size := n1.size
    clear n1
    go_wp2_with fail
    generalize w1.alloc (.cells #[.int .i64 0, .int .i64 31, .int .i64 33] 2) = wa at *
    refine (NX wa (t + 1) 3 S2 r2 (by omega) (by omega) (by decide) (by decide)).mono ?_
    rintro e w2 ⟨r, rfl, ⟨h0, h1⟩, S3, O2⟩
    have r3 := r2.but (But.ofOnly O2) hne
    have P1 := P0.onl O2 (by omega)
    have z2 := hide O2.size
    obtain ⟨k, n, rfl, hc, hn⟩ : ∃ k n : Nat, r = (k : Int) ∧ w2.cell? ⟨w1.heap.size, k, none⟩ = some (.int .i64 (n : Int)) ∧ n ≤ 33 := by
      rcases (by omega : r = 0 ∨ r = 1 ∨ r = 2) with rfl | rfl | rfl
      · exact ⟨0, 0, rfl, P1.cell 0, by omega⟩
      · exact ⟨1, 31, rfl, P1.cell 1, by omega⟩
      · exact ⟨2, 33, rfl, P1.cell 2, by omega⟩
    have D := hide (DB w2 (t + 1 + 1) n S3 r3 (by omega) (by omega))
    clear P0 P1 NX CH DB
    go_wp2_with fail
    refine D.out.mono ?_
    rintro e w3 ⟨ys, hy, by', ⟨a3, c3, g3, rfl, o3, p3, q3, r3⟩, S4, B3⟩
    have HY := hide hy
    clear hy D
    go_wp2
    go_ret
    exact ⟨ys, t + 1 + 1 + (n : Int), by rw [HY.out]; omega, by', ⟨a3, c3, g3, rfl, o3, p3, q3, by have := z1.out; have := z2.out; omega⟩, by omega, by omega, S4, (B2.only O2).trans B3⟩
  | false =>
    go_wp2_with fail
    refine (DB w1 (t + 1) 32 S1 r1 (by omega) (by omega)).mono ?_
    rintro e w4 ⟨ys, hy, by', ⟨a3, c3, g3, rfl, o3, p3, q3, r3⟩, S4, B4⟩
    have HY := hide hy
    clear hy
    go_wp2
    go_ret
    exact ⟨ys, t + 1 + 32, by rw [HY.out]; omega, by', ⟨a3, c3, g3, rfl, o3, p3, q3, by have := z1.out; omega⟩, by omega, by omega, S4, B1.trans B4⟩
set_option maxHeartbeats 1000000 in
theorem l16NumberG_any (w : World) (g : Nat) (a : Option Addr) (c : Nat) (xs : List Int) (hr : Rd w g a .u8 xs) (hb : Byt xs) (hl : xs.length ≤ 1048576) :
    Calls Try.prog 16 #[.slice a xs.length c] w fun e w' => ∃ m, e = .returned (.int .i64 m) ∧ (0 ≤ m ∧ m < 4294967296) ∧ Below w.heap.size w w' := by
  have n1 : Below w.heap.size w (w.alloc (.cells #[.slice a xs.length c, .int .i64 0] 43)) := (Below.refl _ _).alloc (Nat.le_refl _) _
  have C0 : Cur (w.alloc (.cells #[.slice a xs.length c, .int .i64 0] 43)) w.heap.size (.slice a xs.length c) ((0 : Nat) : Int) := ⟨43, heap_alloc_new w _⟩
  have NM := hide (l13Number_any (w.alloc (.cells #[.slice a xs.length c, .int .i64 0] 43)) w.heap.size g a c xs 0 4 C0 (hr.up n1) hb (by omega) (by omega) (by omega))
  rw [nmV_small hb 0 4 (by decide)] at NM
  have r := beN_rng hb 0 4
  have r1 : beN xs 0 4 < 4294967296 := by have := r.2; simpa using this
  have r0 := r.1
  clear C0 hr hb r
  generalize beN xs 0 4 = m at *
  go_enter Try.func16, Try.ntmps16
  go_wp2_with fail
  refine NM.out.mono ?_
  rintro e w1 ⟨rfl, C1, O1⟩
  have N2 := n1.trans (O1.below (B := w.heap.size) (Nat.le_refl _) n1.size)
  clear NM C1 O1 n1
  go_wp2
  go_ret
  exact ⟨m, rfl, ⟨r0, r1⟩, N2⟩
set_option maxHeartbeats 4000000 in
theorem drawFresh_any (w : World) (g : Nat) (a : Option Addr) (c : Nat) (xs : List Int) (hr : Rd w g a .u8 xs) (hb : Byt xs) (hl : xs.length ≤ 1048576) :
    Calls Try.prog 12 #[.slice a xs.length c] w fun e w' => ∃ (ks : List Int) (ag sc wd : Int) (a1 : Option Addr) (c1 g1 : Nat), e = .returned (.tuple #[.slice a1 ks.length c1, .int .i64 ag, .int .i64 sc, .int .i64 wd]) ∧ (0 ≤ sc ∧ sc < 100) ∧ (0 ≤ wd ∧ wd ≤ 86401) ∧ ks.length ≤ 40 ∧ Byt ks ∧ Own w' g1 a1 .u8 ks ∧ Below w.heap.size w w' := by
  go_enter Try.func12, Try.ntmps12
  go_wp2_with fail
  refine (l1Source_any w a xs.length c hl).mono ?_
  rintro e w1 ⟨rfl, S1, n1⟩
  have hne : 0 < xs.length → g ≠ w.heap.size := fun h => by have := hr.lt h; omega
  have y1 : w.heap.size < w1.heap.size := S1.lt
  have NX := hide (fun W t n h1 (N : Below w.heap.size w W) => l1Next_any W w.heap.size g a c xs t n h1 (hr.up N) hne hb hl)
  have CH := hide (fun W t n h1 (N : Below w.heap.size w W) => l1Chance_any W w.heap.size g a c xs t n h1 (hr.up N) hne hb hl)
  go_wp2_with fail
  refine (l14Draw_any w1 w.heap.size g a c xs 0 S1 (hr.up n1) hne hb hl (by omega) (by omega)).mono ?_
  rintro e w2 ⟨ks, t2, kl, kb, ⟨a2, c2, g2, rfl, o2, p2, q2, r2⟩, h0, h1, S2, B2⟩
  have N2 : Below w.heap.size w w2 := n1.trans (B2.below (Nat.le_refl _) n1.size)
  have LG : g2 ≠ w.heap.size := by omega
  clear p2 q2 r2 B2 n1 S1
  go_wp2_with fail
  refine (NX.out w2 t2 100 S2 N2 (by omega) (by omega) (by decide) (by decide)).mono ?_
  rintro e w3 ⟨sc, rfl, ⟨sc0, sc1⟩, S3, O3⟩
  have N3 := N2.trans (O3.below (B := w.heap.size) (Nat.le_refl _))
  have o3 := o2.only O3 (fun _ => LG)
  clear O3 o2 N2 S2
  go_wp2_with fail
  refine (NX.out w3 (t2 + 1) 20 S3 N3 (by omega) (by omega) (by decide) (by decide)).mono ?_
  rintro e w4 ⟨wd, rfl, ⟨wd0, wd1⟩, S4, O4⟩
  have N4 := N3.trans (O4.below (B := w.heap.size) (Nat.le_refl _))
  have o4 := o3.only O4 (fun _ => LG)
  clear O4 o3 N3 S3
  go_wp2_with fail
  refine (CH.out w4 (t2 + 1 + 1) 8 S4 N4 (by omega) (by omega) (by decide) (by decide)).mono ?_
  rintro e w5 ⟨b, rfl, S5, O5⟩
  have N5 := N4.trans (O5.below (B := w.heap.size) (Nat.le_refl _))
  have o5 := o4.only O5 (fun _ => LG)
  clear O5 o4 N4 S4
  cases b with
  | true =>
    go_wp2_with fail
    refine (NX.out w5 (t2 + 1 + 1 + 1) 2 S5 N5 (by omega) (by omega) (by decide) (by decide)).mono ?_
    rintro e w6 ⟨dd, rfl, ⟨dd0, dd1⟩, S6, O6⟩
    have N6 := N5.trans (O6.below (B := w.heap.size) (Nat.le_refl _))
    have o6 := o5.only O6 (fun _ => LG)
    clear O6 o5 N5 S5
    go_wp2_with fail
    refine (l16NumberG_any w6 g2 a2 c2 ks o6.rd kb (by omega)).mono ?_
    rintro e v1 ⟨m, rfl, ⟨m0, m1⟩, nm⟩
    have M1 := nxt N6 nm
    have T1 := S6.up nm
    have q1 := o6.up nm
    clear nm N6 S6 o6
    go_wp2_with fail
    refine (NX.out v1 (t2 + 1 + 1 + 1 + 1) 3 T1 M1 (by omega) (by omega) (by decide) (by decide)).mono ?_
    rintro e v2 ⟨x, rfl, ⟨x0, x1⟩, T2, Q2⟩
    have M2 := M1.trans (Q2.below (B := w.heap.size) (Nat.le_refl _))
    have q2 := q1.only Q2 (fun _ => LG)
    clear Q2 q1 M1 T1
    go_wp2_with fail
    refine (NX.out v2 (t2 + 1 + 1 + 1 + 1 + 1) 3 T2 M2 (by omega) (by omega) (by decide) (by decide)).mono ?_
    rintro e v3 ⟨y, rfl, ⟨y0, y1⟩, T3, Q3⟩
    have M3 := M2.trans (Q3.below (B := w.heap.size) (Nat.le_refl _))
    have q3 := q2.only Q3 (fun _ => LG)
    clear Q3 q2 M2 T2
    go_wp2_with fail
    refine (CH.out v3 (t2 + 1 + 1 + 1 + 1 + 1 + 1) 10 T3 M3 (by omega) (by omega) (by decide) (by decide)).mono ?_
    rintro e v4 ⟨b, rfl, T4, Q4⟩
    have M4 := M3.trans (Q4.below (B := w.heap.size) (Nat.le_refl _))
    have q4 := q3.only Q4 (fun _ => LG)
    clear Q4 q3 M3 T3
    cases b with
    | true =>
      go_wp2_with fail
      refine (NX.out v4 (t2 + 1 + 1 + 1 + 1 + 1 + 1 + 1) 2 T4 M4 (by omega) (by omega) (by decide) (by decide)).mono ?_
      rintro e v5 ⟨z, rfl, ⟨z0, z1⟩, T5, Q5⟩
      have M5 := M4.trans (Q5.below (B := w.heap.size) (Nat.le_refl _))
      have q5 := q4.only Q5 (fun _ => LG)
      clear Q5 q4 M4 T4
      go_wp2
      refine bodyPost_ret (v := .tuple #[.slice a2 ks.length c2, .int .i64 _, .int .i64 sc, .int .i64 (86400 + dd)]) (by simp [results, Try.results12, go_sem]; rfl) rfl ?_
      exact ⟨ks, _, sc, _, a2, c2, g2, rfl, ⟨sc0, sc1⟩, ⟨by omega, by omega⟩, kl, kb, q5, M5⟩
    | false =>
      go_wp2
      refine bodyPost_ret (v := .tuple #[.slice a2 ks.length c2, .int .i64 _, .int .i64 sc, .int .i64 (86400 + dd)]) (by simp [results, Try.results12, go_sem]; rfl) rfl ?_
      exact ⟨ks, _, sc, _, a2, c2, g2, rfl, ⟨sc0, sc1⟩, ⟨by omega, by omega⟩, kl, kb, q4, M4⟩
  | false =>
    go_wp2_with fail
    refine (l16NumberG_any w5 g2 a2 c2 ks o5.rd kb (by omega)).mono ?_
    rintro e v1 ⟨m, rfl, ⟨m0, m1⟩, nm⟩
    have M1 := nxt N5 nm
    have T1 := S5.up nm
    have q1 := o5.up nm
    clear nm N5 S5 o5
    go_wp2_with fail
    refine (NX.out v1 (t2 + 1 + 1 + 1) 3 T1 M1 (by omega) (by omega) (by decide) (by decide)).mono ?_
    rintro e v2 ⟨x, rfl, ⟨x0, x1⟩, T2, Q2⟩
    have M2 := M1.trans (Q2.below (B := w.heap.size) (Nat.le_refl _))
    have q2 := q1.only Q2 (fun _ => LG)
    clear Q2 q1 M1 T1
    go_wp2_with fail
    refine (NX.out v2 (t2 + 1 + 1 + 1 + 1) 3 T2 M2 (by omega) (by omega) (by decide) (by decide)).mono ?_
    rintro e v3 ⟨y, rfl, ⟨y0, y1⟩, T3, Q3⟩
    have M3 := M2.trans (Q3.below (B := w.heap.size) (Nat.le_refl _))
    have q3 := q2.only Q3 (fun _ => LG)
    clear Q3 q2 M2 T2
    go_wp2_with fail
    refine (CH.out v3 (t2 + 1 + 1 + 1 + 1 + 1) 10 T3 M3 (by omega) (by omega) (by decide) (by decide)).mono ?_
    rintro e v4 ⟨b, rfl, T4, Q4⟩
    have M4 := M3.trans (Q4.below (B := w.heap.size) (Nat.le_refl _))
    have q4 := q3.only Q4 (fun _ => LG)
    clear Q4 q3 M3 T3
    cases b with
    | true =>
      go_wp2_with fail
      refine (NX.out v4 (t2 + 1 + 1 + 1 + 1 + 1 + 1) 2 T4 M4 (by omega) (by omega) (by decide) (by decide)).mono ?_
      rintro e v5 ⟨z, rfl, ⟨z0, z1⟩, T5, Q5⟩
      have M5 := M4.trans (Q5.below (B := w.heap.size) (Nat.le_refl _))
      have q5 := q4.only Q5 (fun _ => LG)
      clear Q5 q4 M4 T4
      go_wp2
      refine bodyPost_ret (v := .tuple #[.slice a2 ks.length c2, .int .i64 _, .int .i64 sc, .int .i64 (wd)]) (by simp [results, Try.results12, go_sem]; rfl) rfl ?_
      exact ⟨ks, _, sc, _, a2, c2, g2, rfl, ⟨sc0, sc1⟩, ⟨by omega, by omega⟩, kl, kb, q5, M5⟩
    | false =>
      go_wp2
      refine bodyPost_ret (v := .tuple #[.slice a2 ks.length c2, .int .i64 _, .int .i64 sc, .int .i64 (wd)]) (by simp [results, Try.results12, go_sem]; rfl) rfl ?_
      exact ⟨ks, _, sc, _, a2, c2, g2, rfl, ⟨sc0, sc1⟩, ⟨by omega, by omega⟩, kl, kb, q4, M4⟩
end Go.Proofs.Ytopkbpclaeockaa
