
/-
  What is drawn for a record: DrawEncodeRecord.
-/
import Derived.Test.YtjfggcefdobooaaDoorCaD
namespace Go.Proofs.YtjfggcefdobooaaDoor
set_option maxRecDepth 100000
open Go Go.RowKit

theorem iRd : (Tryd.prog.info? 25).map (·.size) = some 2 := by kernel_rfl
theorem rowRd : ∃ d, Tryd.prog.underlying 25 = some d ∧ d.isRow = true := ⟨_, Tryd.underlying25, rfl⟩
set_option maxHeartbeats 4000000 in
theorem drawEncR_any (w : World) (g : Nat) (a : Option Addr) (c : Nat) (xs : List Int) (hr : Rd w g a .u8 xs) (hb : Byt xs) (hl : xs.length ≤ 4194304) :
    Calls Tryd.prog 4 #[.slice a xs.length c] w fun e w' => (∃ kd ad cd ys, e = .returned (.agg #[.int .i64 kd, .slice ad ys.length cd]) ∧ (0 ≤ kd ∧ kd < 256) ∧ ys.length ≤ 2322 ∧ Byt ys ∧ RowB w' w.heap.size (.slice ad ys.length cd) ys) ∧ Below w.heap.size w w' := by
  obtain ⟨d1, hd1, hrow1⟩ := rowRd
  have n0 : Below w.heap.size w (w.alloc (.cells #[.int .i64 0, .slice none 0 0] 25)) := (Below.refl _ _).alloc (Nat.le_refl _) _
  have Z0 := RwC.new w [.int .i64 0, .slice none 0 0] 25
  have s0 : (w.alloc (.cells #[.int .i64 0, .slice none 0 0] 25)).heap.size = w.heap.size + 1 := by simp
  go_enter Tryd.func4, Tryd.ntmps4
  go_wp2_with fail
  generalize w.alloc (.cells #[.int .i64 0, .slice none 0 0] 25) = wa at *
  have SO := l1SourceX_any wa a xs.length c hl
  rw [s0] at SO
  refine SO.mono ?_
  rintro e w1 ⟨rfl, S1, m1⟩
  clear SO
  have N1 := hide (n0.trans (m1.mono (by omega)))
  have Z1 : Hid (RwC w1 w.heap.size [.int .i64 0, .slice none 0 0] 25) := (m1.block _ (by omega)).trans Z0
  have SZ : Hid (w.heap.size + 2 ≤ w1.heap.size) := by show _ ≤ _; have := S1.lt; omega
  have hne : 0 < xs.length → g ≠ w.heap.size + 1 := fun h => by have := hr.lt h; omega
  have r1 := hr.up N1.out
  have NX := hide fun W (T m : Int) (S : Src W (w.heap.size + 1) a xs.length c T) (O : But (w.heap.size + 1) w1 W) (T0 : 0 ≤ T) (T1 : T ≤ 1000) (m0 : 1 ≤ m) (m1 : m ≤ 1048576) => l1NextX_any W (w.heap.size + 1) g a c xs T m S (r1.but O hne) hne hb hl T0 (by omega) m0 m1
  have CH := hide fun W (T m : Int) (S : Src W (w.heap.size + 1) a xs.length c T) (O : But (w.heap.size + 1) w1 W) (T0 : 0 ≤ T) (T1 : T ≤ 1000) (m0 : 1 ≤ m) (m1 : m ≤ 1048576) => l1ChanceX_any W (w.heap.size + 1) g a c xs T m S (r1.but O hne) hne hb hl T0 (by omega) m0 m1
  have DK := hide fun W (T : Int) (S : Src W (w.heap.size + 1) a xs.length c T) (O : But (w.heap.size + 1) w1 W) (T0 : 0 ≤ T) (T1 : T ≤ 1000) => l15DrawKind_any W (w.heap.size + 1) g a c xs T S (r1.but O hne) hne hb hl T0 (by omega)
  have LB := hide fun W (T : Int) (n : Nat) (S : Src W (w.heap.size + 1) a xs.length c T) (O : But (w.heap.size + 1) w1 W) (T0 : 0 ≤ T) (T1 : T ≤ 1000) (hn : n ≤ 3000) => l11Bytes_any W (w.heap.size + 1) g a c xs T n S (r1.but O hne) hne hb hl T0 (by omega) hn
  clear hne r1 n0 Z0 s0 m1 hr
  go_wp2_with fail
  refine (NX.out w1 0 40 S1 (But.refl _ _) (by decide) (by decide) (by decide) (by decide)).mono ?_
  rintro e w2 ⟨r, rfl, ⟨r0, r1⟩, S2, O2⟩
  have B2 := But.ofOnly O2
  clear S1 O2
  go_wp2_with fail
  refine (CH.out w2 (0 + 1) 8 S2 B2 (by decide) (by decide) (by decide) (by decide)).mono ?_
  rintro e w3 ⟨b, rfl, S3, O3⟩
  have B3 := B2.trans (But.ofOnly O3)
  clear CH B2 S2 O3
  cases b
  · obtain ⟨n, en⟩ := Int.eq_ofNat_of_zero_le r0
    subst en
    clear NX
    go_wp2_with fail
    refine (DK.out w3 (0 + 1 + 1) S3 B3 (by omega) (by omega)).mono ?_
    rintro e w5 ⟨kd, rfl, kr, S5, B5⟩
    have B5' := B3.trans B5
    clear DK B3 B5 S3
    go_wp2_with fail
    refine (LB.out w5 ((0 + 1 + 1) + 1 + 1) n S5 B5' (by omega) (by omega) (by omega)).mono ?_
    rintro e w6 ⟨v6, ys, rfl, yl, yb, R6, S6, B6⟩
    obtain ⟨ad, cd, gd, ev, -⟩ := R6.own
    subst ev
    have B6' := B5'.trans B6
    have Z6 : RwC w6 w.heap.size [.int .i64 0, .slice none 0 0] 25 := (B6'.block _ (by have := SZ.out; omega) (by omega)).trans Z1.out
    have ZF : RwC ((w6.setCell ⟨w.heap.size, 0, none⟩ (.int .i64 kd)).setCell ⟨w.heap.size, 1, none⟩ (.slice ad ys.length cd)) w.heap.size [.int .i64 kd, .slice ad ys.length cd] 25 := (Z6.set 0 _).set 1 _
    have OF : Only w.heap.size w6 ((w6.setCell ⟨w.heap.size, 0, none⟩ (.int .i64 kd)).setCell ⟨w.heap.size, 1, none⟩ (.slice ad ys.length cd)) := (Only.setCell _ w.heap.size 0 _).trans (Only.setCell _ w.heap.size 1 _)
    have RR := ZF.rangeG
    have R9 := hide ((R6.only OF (by have := B5'.size; have := SZ.out; omega)).base (show w.heap.size ≤ w5.heap.size by have := B5'.size; have := SZ.out; omega))
    have NF := hide ((N1.out.trans (B6'.below (by omega) (by have := SZ.out; omega))).trans (OF.below (B := w.heap.size) (Nat.le_refl _)))
    have x0 := Z6.c0
    have x1 := Z6.c1
    have f0 := Z6.free 0
    have f1 := Z6.free 1
    have YL : Hid (ys.length ≤ 2322) := by show _ ≤ _; omega
    have YB := hide yb
    clear LB B5' B6 B6' S5 S6 R6 Z6 ZF OF yl yb
    go_wp2
    exact bodyPost_ret (v := .agg #[.int .i64 kd, .slice ad ys.length cd]) (results_cellG Tryd.results4 _ _ w.heap.size [.int .i64 kd, .slice ad ys.length cd] d1 rfl RR hd1 hrow1 iRd) rfl ⟨⟨kd, ad, cd, ys, rfl, kr, YL.out, YB.out, R9.out⟩, NF.out⟩
  · go_wp2_with fail
    refine (NX.out w3 (0 + 1 + 1) 3 S3 B3 (by decide) (by decide) (by decide) (by decide)).mono ?_
    rintro e w4 ⟨q, rfl, ⟨q0, q1⟩, S4, O4⟩
    have B4 := B3.trans (But.ofOnly O4)
    clear NX S3 B3 O4
    have S3 := S4
    have B3 := B4
    clear S4 B4
    obtain ⟨n, en⟩ := Int.eq_ofNat_of_zero_le (show 0 ≤ 2320 + q by omega)
    go_upto_region 5 with fail
    have nb : n ≤ 2322 := by omega
    clear en q0 q1
    go_wp2_with fail
    refine (DK.out w4 (0 + 1 + 1 + 1) S3 B3 (by omega) (by omega)).mono ?_
    rintro e w5 ⟨kd, rfl, kr, S5, B5⟩
    have B5' := B3.trans B5
    clear DK B3 B5 S3
    go_wp2_with fail
    refine (LB.out w5 ((0 + 1 + 1 + 1) + 1 + 1) n S5 B5' (by omega) (by omega) (by omega)).mono ?_
    rintro e w6 ⟨v6, ys, rfl, yl, yb, R6, S6, B6⟩
    obtain ⟨ad, cd, gd, ev, -⟩ := R6.own
    subst ev
    have B6' := B5'.trans B6
    have Z6 : RwC w6 w.heap.size [.int .i64 0, .slice none 0 0] 25 := (B6'.block _ (by have := SZ.out; omega) (by omega)).trans Z1.out
    have ZF : RwC ((w6.setCell ⟨w.heap.size, 0, none⟩ (.int .i64 kd)).setCell ⟨w.heap.size, 1, none⟩ (.slice ad ys.length cd)) w.heap.size [.int .i64 kd, .slice ad ys.length cd] 25 := (Z6.set 0 _).set 1 _
    have OF : Only w.heap.size w6 ((w6.setCell ⟨w.heap.size, 0, none⟩ (.int .i64 kd)).setCell ⟨w.heap.size, 1, none⟩ (.slice ad ys.length cd)) := (Only.setCell _ w.heap.size 0 _).trans (Only.setCell _ w.heap.size 1 _)
    have RR := ZF.rangeG
    have R9 := hide ((R6.only OF (by have := B5'.size; have := SZ.out; omega)).base (show w.heap.size ≤ w5.heap.size by have := B5'.size; have := SZ.out; omega))
    have NF := hide ((N1.out.trans (B6'.below (by omega) (by have := SZ.out; omega))).trans (OF.below (B := w.heap.size) (Nat.le_refl _)))
    have x0 := Z6.c0
    have x1 := Z6.c1
    have f0 := Z6.free 0
    have f1 := Z6.free 1
    have YL : Hid (ys.length ≤ 2322) := by show _ ≤ _; omega
    have YB := hide yb
    clear LB B5' B6 B6' S5 S6 R6 Z6 ZF OF yl yb
    go_wp2
    exact bodyPost_ret (v := .agg #[.int .i64 kd, .slice ad ys.length cd]) (results_cellG Tryd.results4 _ _ w.heap.size [.int .i64 kd, .slice ad ys.length cd] d1 rfl RR hd1 hrow1 iRd) rfl ⟨⟨kd, ad, cd, ys, rfl, kr, YL.out, YB.out, R9.out⟩, NF.out⟩
end Go.Proofs.YtjfggcefdobooaaDoor
