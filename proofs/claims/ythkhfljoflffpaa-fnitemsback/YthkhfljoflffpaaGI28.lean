import Derived.Test.YthkhfljoflffpaaGI27
import Derived.Test.YthkhfljoflffpaaCuA
import Derived.Test.YthkhfljoflffpaaApd
import Derived.Maps.AppendAt
import Derived.Test.YthkhfljoflffpaaCuT
import Derived.Defers
import Derived.Recover
import Derived.Deep.RegionWith
import Derived.Deep.DeepCutAuto

/-
  What FnItemsBack draws: bytes and a place in them.
-/
namespace Go.Proofs.Ythkhfljoflffpaa
open Go Go.RowKit

theorem append_zero0 {P : Program} (w : World) (t tn ty e : TypeId) (i : TypeInfo) (z : Value) (kq kn : IntKind) (ht : P.underlying t = some (.slice e)) (htn : P.underlying tn = some (.int kn)) (hi : P.info? e = some i) (hz : i.zero = some z)
    (g n cap : Nat) (hc : n ≤ cap) : (Builtin.append_ #[t, tn] ty #[.slice (some ⟨g, 0, none⟩) n cap, .int kq 0]).run P w = .ok (.slice (some ⟨g, 0, none⟩) n cap) w := by
  have hw : IntKind.i64.wrap (0 : Int) = 0 := by decide
  simp [Builtin.append_, run_underlying ht, run_underlying htn, sizeOf, typeInfo, zeroValue, hi, hz, asInt, asIntOf, hw, hc, storeCells]

theorem appZ_any {P : Program} (w : World) (ty : TypeId) (i : TypeInfo) (ht : P.underlying 22 = some (.slice 5)) (htn : P.underlying 2 = some (.int .i64)) (hi : P.info? 5 = some i) (hz : i.zero = some (.int .u8 0)) (hsize : i.size = 1) (hby : i.bytes = 1)
    (base B g n cap : Nat) (xs : List Int) (hown : RowB w base (.slice (some ⟨g, 0, none⟩) n cap) xs) (m : Nat) (hl : xs.length + m ≤ 1048576) (hB : B ≤ base) (hbase : base ≤ w.heap.size) :
    ∃ v' w', (Builtin.append_ #[22, 2] ty #[.slice (some ⟨g, 0, none⟩) n cap, .int .i64 m]).run P w = .ok v' w' ∧ RowB w' base v' (xs ++ List.replicate m 0) ∧ Below B w w' := by
  by_cases h0 : 0 < m
  · obtain ⟨v', w', h1, h2, h3, -⟩ := append_zeros_own (P := P) w 22 2 ty 5 i .i64 .i64 ht htn hi hz hsize hby base _ xs.length (xs.map (Value.int .u8)) hown (by simp) m h0 hl hbase
    refine ⟨v', w', h1, ?_, (Below.refl B w).grown h3 (by omega) (fun k hk => by have := (World.ownsRow.lt hown k hk).1; omega)⟩
    show w'.ownsRow base 5 1 v' (xs ++ List.replicate m 0).length ((xs ++ List.replicate m 0).map (Value.int .u8))
    rw [List.length_append, List.map_append, List.map_replicate, List.length_replicate]
    exact h2
  · obtain rfl : m = 0 := by omega
    have hc : n ≤ cap := by
      obtain ⟨a, c, g', e, -, -, hc, -⟩ := hown.own
      cases e
      exact hc
    exact ⟨_, w, append_zero0 (P := P) w 22 2 ty 5 i _ .i64 .i64 ht htn hi hz g n cap hc, by simpa using hown, Below.refl _ _⟩
theorem RowB.lit3 (w : World) (x y z : Int) : RowB (w.alloc (.cells #[.int .u8 x, .int .u8 y, .int .u8 z] 5)) w.heap.size (.slice (some ⟨w.heap.size, 0, none⟩) 3 3) [x, y, z] :=
  World.ownsRow_lit w #[.int .u8 x, .int .u8 y, .int .u8 z] 3 (Nat.le_refl _) (by unfold maxLen; omega) (by simp)
theorem RowB.lit4 (w : World) (x y z u : Int) : RowB (w.alloc (.cells #[.int .u8 x, .int .u8 y, .int .u8 z, .int .u8 u] 5)) w.heap.size (.slice (some ⟨w.heap.size, 0, none⟩) 4 4) [x, y, z, u] :=
  World.ownsRow_lit w #[.int .u8 x, .int .u8 y, .int .u8 z, .int .u8 u] 4 (Nat.le_refl _) (by unfold maxLen; omega) (by simp)
theorem byt_rep0 (m : Nat) : Byt (List.replicate m 0) := byt_zeros _

/-- Some bytes in a row of their own; the source; a place. -/
def DrI (w0 w : World) (base : Nat) (a : Option Addr) (n c : Nat) (v k : Value) : Prop :=
  ∃ zs t i, Byt zs ∧ zs.length ≤ 300000 ∧ RowB w base v zs ∧ k = .int .i64 i ∧ Src w w0.heap.size a n c t ∧ 0 ≤ t ∧ t ≤ 1400 ∧ base ≤ w.heap.size ∧ Below w0.heap.size w0 w

set_option maxHeartbeats 400000 in
theorem drawDecItem_any (w : World) (g : Nat) (a : Option Addr) (c : Nat) (xs : List Int) (hr : Rd w g a .u8 xs) (hb : Byt xs) (hl : xs.length ≤ 1048576) :
    Calls Try.prog 10 #[.slice a xs.length c] w fun e w' => ∃ ys v i, e = .returned (.tuple #[v, .int .i64 i]) ∧ Byt ys ∧ ys.length ≤ 310000 ∧ RowB w' w.heap.size v ys ∧ Below w.heap.size w w' := by
  have hne : 0 < xs.length → g ≠ w.heap.size := fun h => by have := hr.lt h; omega
  go_enter Try.func10, Try.ntmps10
  go_wp2_with fail
  refine (l1Source_any w a xs.length c hl).mono ?_
  rintro e w1 ⟨rfl, S1, n1⟩
  have R1 := hr.up n1
  have z1 : w.heap.size < w1.heap.size := S1.lt
  have D := hide (l10DrawItems_any w1 w.heap.size g a c xs 0 S1 R1 hne hb hl (by decide) (by decide))
  go_wp2_with fail
  refine D.out.mono ?_
  rintro e w2 ⟨ys, v, t, rfl, yb, yl, RY, ⟨t0, t1⟩, S2, O2⟩
  have N2 : Below w.heap.size w w2 := n1.trans (O2.below (Nat.le_refl _) (by omega))
  have z2 : w1.heap.size ≤ w2.heap.size := O2.size
  clear D n1 S1 R1 O2
  go_wp2_with fail
  refine (l1Chance_any w2 w.heap.size g a c xs t 2 S2 (hr.up N2) hne hb hl (by omega) (by omega) (by decide) (by decide)).mono ?_
  rintro e w3 ⟨b, rfl, S3, O3⟩
  have N3 := N2.trans (O3.below (Nat.le_refl w.heap.size))
  have RY3 := RY.only O3 z1
  have z3 : w1.heap.size ≤ w3.heap.size := by rw [O3.size]; exact z2
  clear N2 S2 RY O3 z2
  go_upto_if 16 with fail
  go_cut [5, 6] (fun v k wc => DrI w wc w1.heap.size a xs.length c v k)
  case first =>
    cases b with
    | false =>
      go_wp2_with fail
      go_meet
      exact ⟨ys, _, 0, yb, yl, RY3, rfl, S3, by omega, by omega, z3, N3⟩
    | true =>
      obtain ⟨ya, yc, yg, rfl, rY, nY, kY, bY⟩ := RY3.rd
      have SD := hide (specDecodeItem_any w3 yg ya yc ys 0 rY yb kY (by omega))
      go_wp2_with fail
      refine SD.out.mono ?_
      rintro e w4 ⟨T4, n4⟩
      obtain ⟨ra, rc, rg, rfl, oT, nT, lT, bT⟩ := T4
      obtain ⟨bb, hbb⟩ : ∃ b, b = diT (itZ ys 0) := ⟨_, rfl⟩
      obtain ⟨dd, hdd⟩ : ∃ b, b = dtT (itZ ys 0) := ⟨_, rfl⟩
      obtain ⟨ll, hll⟩ : ∃ b, b = dbT ys (itZ ys 0) := ⟨_, rfl⟩
      obtain ⟨nn, hnn⟩ : ∃ b, b = dnT (itZ ys 0) := ⟨_, rfl⟩
      rw [← hbb, ← hdd, ← hll, ← hnn]
      have T5 := Fo.new w4 (.bool bb) (.int .i64 dd) (.slice ra ll.length rc) (.int .i64 nn) 38
      have n5 : Below w4.heap.size w4 (w4.alloc (.cells #[.bool bb, .int .i64 dd, .slice ra ll.length rc, .int .i64 nn] 38)) := (Below.refl _ _).alloc (Nat.le_refl _) _
      have c3 := T5.c3
      have RY5 := hide ((RY3.up n4).up n5)
      have S5 := hide ((S3.up n4).up n5)
      have z5 := hide (show w1.heap.size ≤ (w4.alloc (.cells #[.bool bb, .int .i64 dd, .slice ra ll.length rc, .int .i64 nn] 38)).heap.size from Nat.le_trans z3 (Nat.le_trans n4.size n5.size))
      have N5 := hide ((N3.trans (n4.mono (by omega))).trans (n5.mono (by have := n4.size; omega)))
      clear T5 n4 n5 oT nT lT bT RY3 S3 z3 N3 hbb hdd hll hnn SD rY nY kY bY
      go_wp2_with fail
      go_meet
      exact ⟨ys, _, nn, yb, yl, RY5.out, rfl, S5.out, by omega, by omega, z5.out, N5.out⟩
  case rest =>
    clear RY3 S3 N3 yb yl z3 t0 t1 ys t
    obtain ⟨ys, t, i, yb, yl, RY, rfl, S, t0, t1, z, N⟩ := hcut
    have NK := hide (l1NextB_any wc w.heap.size g a c xs t 8 S (hr.up N) hne hb hl (by omega) (by omega) (by decide) (by decide))
    go_wp2_with fail
    refine NK.out.mono ?_
    rintro e w4 ⟨k, rfl, hk, S4, O4⟩
    have N4 := N.trans (O4.below (Nat.le_refl _))
    have RY4 := RY.only O4 z1
    have z4 : w1.heap.size ≤ w4.heap.size := by rw [O4.size]; exact z
    have u0 : 0 ≤ t + 1 := by omega
    have u1 : t + 1 ≤ 1500 := by omega
    generalize t + 1 = u at *
    clear NK RY S N O4 z t0 t1 t
    obtain ⟨i0, hi, hz0, hz1, hz2⟩ := info_parts Try.info5
    have hk' : k = 0 ∨ k = 1 ∨ k = 2 ∨ k = 3 ∨ k = 4 ∨ 4 < k := by omega
    rcases hk' with rfl | rfl | rfl | rfl | rfl | hk'
    · have SP := hide (l10Spoil_all w4 w.heap.size g a c xs _ S4 (hr.up N4) hne hb hl (by omega) (by omega) _ ys w1.heap.size RY4 z1 z4 yb (by omega))
      clear RY4 S4 hk
      go_wp2_with fail
      refine SP.out.mono ?_
      rintro e w5 ⟨zs, v5, rfl, zb, zl, RZ, n5⟩
      have zl' : zs.length ≤ 310000 := by omega
      have R5 := hide (RZ.base (base' := w.heap.size) (by omega))
      have N5 := hide (N4.trans n5)
      clear SP RZ n5 N4 zl
      go_wp2
      go_ret2
      exact ⟨zs, _, _, rfl, zb, zl', R5.out, N5.out⟩
    · obtain ⟨ya, yc, yg, rfl, rY, nY, kY, bY⟩ := RY4.rd
      have NX := hide (l1NextB_any w4 w.heap.size g a c xs u ((ys.length : Int) + 2) S4 (hr.up N4) hne hb hl (by omega) (by omega) (by omega) (by omega))
      clear hk rY nY kY bY
      go_wp2_with fail
      refine NX.out.mono ?_
      rintro e w5 ⟨r, rfl, h5, S5, O5⟩
      have R5 := hide ((RY4.only O5 z1).base (base' := w.heap.size) (by omega))
      have N5 := hide (N4.trans (O5.below (Nat.le_refl _)))
      have zl' : ys.length ≤ 310000 := by omega
      clear NX S4 S5 O5 RY4 N4 h5 yl
      go_wp2
      go_ret2
      exact ⟨ys, _, _, rfl, yb, zl', R5.out, N5.out⟩
    · have NX := hide (l1NextB_any w4 w.heap.size g a c xs u 130 S4 (hr.up N4) hne hb hl (by omega) (by omega) (by decide) (by decide))
      clear hk RY4
      go_wp2_with fail
      refine NX.out.mono ?_
      rintro e w5 ⟨r, rfl, h5, S5, O5⟩
      obtain ⟨m, rfl⟩ := Int.eq_ofNat_of_zero_le h5.1
      have N5 := N4.trans (O5.below (Nat.le_refl _))
      clear NX S4 S5 O5 N4
      have ht3 : Try.prog.underlying 2 = some (.int .i64) := by kernel_rfl
      have z5 : w.heap.size ≤ w5.heap.size := N5.size
      obtain ⟨v', w6, hap, R6, m6⟩ := appZ_any (w5.alloc (.cells #[.int .u8 4, .int .u8 129, .int .u8 m] 5)) 22 i0 Try.underlying22 ht3 hi hz0 hz1 hz2 w5.heap.size w5.heap.size _ _ _ [4, 129, m] (RowB.lit3 w5 4 129 m) m (by simp; omega) (Nat.le_refl _) (by simp)
      have R6' := hide (R6.base z5)
      have N6 := hide (N5.trans (((Below.refl w.heap.size w5).alloc z5 _).trans (m6.mono z5)))
      have B6 := hide (bytA (bytC (bytC (bytC byt_nil (show (0 : Int) ≤ m by omega) (by omega)) (show (0 : Int) ≤ 129 by decide) (by decide)) (show (0 : Int) ≤ 4 by decide) (by decide)) (byt_rep0 m))
      have L6 := hide (show ([4, 129, (m : Int)] ++ List.replicate m 0).length ≤ 310000 by simp; omega)
      clear R6 N5 m6 z5 yb yl
      go_wp2_with (at_builtin; refine Lib.wpList_append_run _ rfl _ _ 22 2 rfl _ _ rfl rfl _ _ hap ?_)
      clear hap
      go_wp2
      go_ret2
      exact ⟨_, _, _, rfl, B6.out, L6.out, R6'.out, N6.out⟩
    · have NX := hide (l1NextB_any w4 w.heap.size g a c xs u 260 S4 (hr.up N4) hne hb hl (by omega) (by omega) (by decide) (by decide))
      clear hk RY4
      go_wp2_with fail
      refine NX.out.mono ?_
      rintro e w5 ⟨r, rfl, h5, S5, O5⟩
      obtain ⟨m, rfl⟩ := Int.eq_ofNat_of_zero_le h5.1
      have N5 := N4.trans (O5.below (Nat.le_refl _))
      clear NX S4 S5 O5 N4
      have ht3 : Try.prog.underlying 2 = some (.int .i64) := by kernel_rfl
      have z5 : w.heap.size ≤ w5.heap.size := N5.size
      obtain ⟨v', w6, hap, R6, m6⟩ := appZ_any (w5.alloc (.cells #[.int .u8 4, .int .u8 130, .int .u8 (m / 256), .int .u8 (m % 256)] 5)) 22 i0 Try.underlying22 ht3 hi hz0 hz1 hz2 w5.heap.size w5.heap.size _ _ _ [4, 130, m / 256, m % 256] (RowB.lit4 w5 4 130 (m / 256) (m % 256)) m (by simp; omega) (Nat.le_refl _) (by simp)
      have R6' := hide (R6.base z5)
      have N6 := hide (N5.trans (((Below.refl w.heap.size w5).alloc z5 _).trans (m6.mono z5)))
      have B6 := hide (bytA (bytC (bytC (bytC (bytC byt_nil (show (0 : Int) ≤ m % 256 by omega) (by omega)) (show (0 : Int) ≤ m / 256 by omega) (by omega)) (show (0 : Int) ≤ 130 by decide) (by decide)) (show (0 : Int) ≤ 4 by decide) (by decide)) (byt_rep0 m))
      have L6 := hide (show ([4, 130, (m : Int) / 256, (m : Int) % 256] ++ List.replicate m 0).length ≤ 310000 by simp; omega)
      clear R6 N5 m6 z5 yb yl
      go_wp2_with (at_builtin; refine Lib.wpList_append_run _ rfl _ _ 22 2 rfl _ _ rfl rfl _ _ hap ?_)
      clear hap
      go_wp2
      go_ret2
      exact ⟨_, _, _, rfl, B6.out, L6.out, R6'.out, N6.out⟩
    · have NX := hide (l1NextB_any w4 w.heap.size g a c xs u 128 S4 (hr.up N4) hne hb hl (by omega) (by omega) (by decide) (by decide))
      clear hk
      obtain ⟨ya, yc, yg, rfl, rY, nY, kY, bY⟩ := RY4.rd
      go_wp2_with fail
      refine NX.out.mono ?_
      rintro e w5 ⟨r, rfl, h5, S5, O5⟩
      obtain ⟨m, rfl⟩ := Int.eq_ofNat_of_zero_le h5.1
      have N5 := N4.trans (O5.below (Nat.le_refl _))
      have z5 : w.heap.size ≤ w5.heap.size := N5.size
      have z15 : w1.heap.size ≤ w5.heap.size := by rw [O5.size]; exact z4
      obtain ⟨ya', yc', yg', e', rY', nY', kY', bY'⟩ := (RY4.only O5 z1).rd
      cases e'
      obtain ⟨v', w6, hap, R6, m6⟩ := append_any (w5.alloc (.cells #[.int .u8 4, .int .u8 (128 + m), .int .u8 1] 5)) 22 i0 Try.underlying22 hi hz0 hz1 hz2 w5.heap.size w5.heap.size _ [4, 128 + m, 1] (RowB.lit3 w5 4 (128 + m) 1) yg' ya yc ys (rY'.up ((Below.refl _ _).alloc (Nat.le_refl _) _)) nY' (by simp; omega) (Nat.le_refl _) (by simp)
      have R6' := hide (R6.base z5)
      have N6 := hide (N5.trans (((Below.refl w.heap.size w5).alloc z5 _).trans (m6.mono z5)))
      have B6 := hide (bytA (bytC (bytC (bytC byt_nil (show (0 : Int) ≤ 1 by decide) (by decide)) (show (0 : Int) ≤ 128 + m by omega) (by omega)) (show (0 : Int) ≤ 4 by decide) (by decide)) yb)
      have L6 := hide (show ([4, 128 + (m : Int), 1] ++ ys).length ≤ 310000 by simp; omega)
      clear R6 N5 m6 z5 yb yl rY nY kY bY rY' nY' kY' bY' z15 S5 O5 N4 NX S4 RY4
      go_wp2_with (at_builtin; refine Lib.wpList_append_run _ rfl _ _ 22 22 rfl _ _ rfl rfl _ _ hap ?_)
      clear hap
      go_wp2
      go_ret2
      exact ⟨_, _, _, rfl, B6.out, L6.out, R6'.out, N6.out⟩
    · have h0 : decide (k = 0) = false := by simp; omega
      have h1 : decide (k = 1) = false := by simp; omega
      have h2 : decide (k = 2) = false := by simp; omega
      have h3 : decide (k = 3) = false := by simp; omega
      have h4 : decide (k = 4) = false := by simp; omega
      have b0 : (k == 0) = false := by simp; omega
      have b1 : (k == 1) = false := by simp; omega
      have b2 : (k == 2) = false := by simp; omega
      have b3 : (k == 3) = false := by simp; omega
      have b4 : (k == 4) = false := by simp; omega
      have R5 := hide (RY4.base (base' := w.heap.size) (by omega))
      have zl' : ys.length ≤ 310000 := by omega
      clear hk hk' S4 RY4
      go_wp2
      go_ret2
      exact ⟨ys, _, _, rfl, yb, zl', R5.out, N4⟩
end Go.Proofs.Ythkhfljoflffpaa

/-
  Rows of items: a number and a list each, the list in a block of its own.
-/
namespace Go.Proofs.Ythkhfljoflffpaa
open Go Go.RowKit

/-- Where a list lies. -/
structure Plc where
  a : Option Addr
  c : Nat
  q : Nat
def plc0 : Plc := ⟨none, 0, 0⟩
/-- An item's two cells. -/
def itC (x : Int × List Int) (q : Plc) : List Value := [.int .i64 x.1, .slice q.a x.2.length q.c]
def itCs : List (Int × List Int) → List Plc → List Value
  | x :: xs, q :: qs => itC x q ++ itCs xs qs
  | _, _ => []
theorem itCs_snoc : ∀ (its : List (Int × List Int)) (bs : List Plc) (x : Int × List Int) (q : Plc), bs.length = its.length → itCs (its ++ [x]) (bs ++ [q]) = itCs its bs ++ itC x q
  | [], [], x, q, _ => rfl
  | [], _ :: _, _, _, h => by simp at h
  | _ :: _, [], _, _, h => by simp at h
  | y :: its, p :: bs, x, q, h => by
    show itC y p ++ itCs (its ++ [x]) (bs ++ [q]) = (itC y p ++ itCs its bs) ++ itC x q
    rw [itCs_snoc its bs x q (by simpa using h), List.append_assoc]
theorem itCs_len : ∀ (its : List (Int × List Int)) (bs : List Plc), bs.length = its.length → (itCs its bs).length = its.length * 2
  | [], [], _ => rfl
  | [], _ :: _, h => by simp at h
  | _ :: _, [], h => by simp at h
  | y :: its, p :: bs, h => by
    show (itC y p ++ itCs its bs).length = _
    rw [List.length_append, itCs_len its bs (by simpa using h)]
    simp [itC]
    omega
theorem itCs_at0 : ∀ (its : List (Int × List Int)) (bs : List Plc) (i : Nat), bs.length = its.length → i < its.length → (itCs its bs)[2 * i]? = some (.int .i64 (its.getD i (0, [])).1)
  | [], _, i, _, hi => by simp at hi
  | _ :: _, [], _, h, _ => by simp at h
  | y :: its, p :: bs, 0, h, hi => rfl
  | y :: its, p :: bs, i + 1, h, hi => by
    show (itC y p ++ itCs its bs)[2 * (i + 1)]? = _
    rw [List.getElem?_append_right (by simp [itC]; omega), show 2 * (i + 1) - (itC y p).length = 2 * i by simp [itC]; omega, itCs_at0 its bs i (by simpa using h) (by simpa using hi)]
    simp
theorem itCs_at1 : ∀ (its : List (Int × List Int)) (bs : List Plc) (i : Nat), bs.length = its.length → i < its.length → (itCs its bs)[2 * i + 1]? = some (.slice (bs.getD i plc0).a (its.getD i (0, [])).2.length (bs.getD i plc0).c)
  | [], _, i, _, hi => by simp at hi
  | _ :: _, [], _, h, _ => by simp at h
  | y :: its, p :: bs, 0, h, hi => rfl
  | y :: its, p :: bs, i + 1, h, hi => by
    show (itC y p ++ itCs its bs)[2 * (i + 1) + 1]? = _
    rw [List.getElem?_append_right (by simp [itC]; omega), show 2 * (i + 1) + 1 - (itC y p).length = 2 * i + 1 by simp [itC]; omega, itCs_at1 its bs i (by simpa using h) (by simpa using hi)]
    simp
/-- A list and its place. -/
structure Lie (w : World) (x : List Int) (p : Plc) : Prop where
  o : Own w p.q p.a .u8 x
  n : p.a = none → p.c = 0
  c : x.length ≤ p.c
theorem Lie.of {w w' : World} {x : List Int} {p : Plc} (h : Lie w x p) (hb : 0 < x.length → w'.heap[p.q]? = w.heap[p.q]?) : Lie w' x p := by
  refine ⟨?_, h.n, h.c⟩
  by_cases h0 : 0 < x.length
  · exact h.o.of_block (hb h0)
  · exact fun h1 => absurd h1 h0
/-- A row of items that the call made: the lists lie in blocks of their own, none of which is the row's. -/
structure IRow (w : World) (B : Nat) (v : Value) (its : List (Int × List Int)) (bs : List Plc) : Prop where
  o : w.ownsRow B 30 2 v its.length (itCs its bs)
  l : bs.length = its.length
  b : ∀ i, i < its.length → Lie w (its.getD i (0, [])).2 (bs.getD i plc0)
  h : ∀ i, i < its.length → 0 < (its.getD i (0, [])).2.length → B ≤ (bs.getD i plc0).q ∧ v.ownBlock ≠ some (bs.getD i plc0).q
  d : ∀ i j, i < its.length → j < its.length → i ≠ j → 0 < (its.getD i (0, [])).2.length → 0 < (its.getD j (0, [])).2.length → (bs.getD i plc0).q ≠ (bs.getD j plc0).q
theorem iInfo : (Try.prog.info? 30).map (fun i => (i.zero, i.size, i.bytes)) = some (some (.agg #[.int .i64 0, .slice none 0 0]), 2, 32) := by kernel_rfl
theorem iUnd : Try.prog.underlying 23 = some (.slice 30) := Try.underlying23
theorem IRow.nil (w : World) (B : Nat) : IRow w B (.slice none 0 0) [] [] :=
  ⟨⟨rfl, .inl ⟨rfl, rfl⟩⟩, rfl, fun i h => absurd h (by simp), fun i h => absurd h (by simp), fun i j h => absurd h (by simp)⟩
theorem IRow.lt {w : World} {B : Nat} {v : Value} {its : List (Int × List Int)} {bs : List Plc} (h : IRow w B v its bs) {i : Nat} (hi : i < its.length) (h0 : 0 < (its.getD i (0, [])).2.length) : (bs.getD i plc0).q < w.heap.size := (h.b i hi).o.rd.lt h0
/-- What else does not change, does not change such a row. -/
theorem IRow.of {w w' : World} {B : Nat} {v : Value} {its : List (Int × List Int)} {bs : List Plc} (h : IRow w B v its bs) (hb : ∀ k, k < w.heap.size → B ≤ k → w'.heap[k]? = w.heap[k]?) : IRow w' B v its bs := by
  refine ⟨⟨h.o.1, ?_⟩, h.l, fun i hi => ?_, h.h, h.d⟩
  · rcases h.o.2 with h' | ⟨g, cap, cur, rfl, hbg, hg, hnc, hcm, hcs, ht⟩
    · exact .inl h'
    · exact .inr ⟨g, cap, cur, rfl, hbg, by rw [hb g ((Array.getElem?_eq_some_iff.1 hg).1) hbg]; exact hg, hnc, hcm, hcs, ht⟩
  · exact (h.b i hi).of fun h0 => hb _ (h.lt hi h0) (h.h i hi h0).1
/-- One item more: its list was made behind M, the row and the others ahead of it. -/
theorem IRow.app {w : World} {B : Nat} {v : Value} {its : List (Int × List Int)} {bs : List Plc} (h : IRow w B v its bs) (x : Int × List Int) (q : Plc) (hB : B ≤ w.heap.size) (hq : Lie w x.2 q) (M : Nat) (hBM : B ≤ M) (hM1 : ∀ i, i < its.length → 0 < (its.getD i (0, [])).2.length → (bs.getD i plc0).q < M) (hM2 : ∀ k, v.ownBlock = some k → k < M) (hqM : M ≤ q.q) (hl : its.length ≤ 100000) :
    ∃ v' w', (Builtin.append_ #[23, 23] 23 #[v, .slice (some ⟨w.heap.size, 0, none⟩) 1 1]).run Try.prog (w.alloc (.cells #[.int .i64 x.1, .slice q.a x.2.length q.c] 30)) = .ok v' w' ∧ IRow w' B v' (its ++ [x]) (bs ++ [q]) ∧ (∀ k, k < w.heap.size → v.ownBlock ≠ some k → w'.heap[k]? = w.heap[k]?) ∧ Below B w w' := by
  obtain ⟨i, hi, hz, hs, hby⟩ := info_parts iInfo
  have na : Below w.heap.size w (w.alloc (.cells #[.int .i64 x.1, .slice q.a x.2.length q.c] 30)) := (Below.refl _ _).alloc (Nat.le_refl _) _
  have h0 : (w.alloc (.cells #[.int .i64 x.1, .slice q.a x.2.length q.c] 30)).ownsRow B 30 2 v its.length (itCs its bs) := h.o.alloc _
  have hcell : ∀ j u, (itC x q)[j]? = some u → (w.alloc (.cells #[.int .i64 x.1, .slice q.a x.2.length q.c] 30)).cell? ((⟨w.heap.size, 0, none⟩ : Addr).add j) = some u := by
    intro j u hj
    have e : (w.alloc (.cells #[.int .i64 x.1, .slice q.a x.2.length q.c] 30)).heap[w.heap.size]? = some (.cells #[.int .i64 x.1, .slice q.a x.2.length q.c] 30) := heap_alloc_new w _
    rw [Addr.add_mid, Nat.zero_add, cell_of_row _ _ j _ _ (0, 0) e]
    simpa [itC] using hj
  obtain ⟨v', w', h1, h2, h3, h4, h5⟩ := run_append_own_at (P := Try.prog) (w.alloc (.cells #[.int .i64 x.1, .slice q.a x.2.length q.c] 30)) B 23 23 30 i (.agg #[.int .i64 0, .slice none 0 0]) 2 32 iUnd hi hz hs hby rfl (by decide) v its.length (itCs its bs) h0 ⟨w.heap.size, 0, none⟩ 1 1 (itC x q) (by simp [itC]) hcell (fun u hu => by
    simp only [itC, List.mem_cons, List.not_mem_nil, or_false] at hu
    rcases hu with rfl | rfl <;> rfl) (by unfold maxLen; omega) (by omega) (Nat.le_trans hB na.size)
  have z : (w.alloc (.cells #[.int .i64 x.1, .slice q.a x.2.length q.c] 30)).heap.size = w.heap.size + 1 := by simp
  have keep : ∀ k, k < w.heap.size → v.ownBlock ≠ some k → w'.heap[k]? = w.heap[k]? := fun k hk hne => (h3.block k (by omega) (fun e => hne e.symm)).trans (na.block k hk)
  have ob := h.o.lt
  have A1 : ∀ j, j < its.length → (bs ++ [q]).getD j plc0 = bs.getD j plc0 := fun j hj => by
    have : j < bs.length := by rw [h.l]; exact hj
    simp [List.getD, List.getElem?_append_left this]
  have A2 : ∀ j, j < its.length → (its ++ [x]).getD j (0, []) = its.getD j (0, []) := fun j hj => by simp [List.getD, List.getElem?_append_left hj]
  have A3 : (bs ++ [q]).getD its.length plc0 = q := by rw [← h.l]; simp
  have A4 : (its ++ [x]).getD its.length (0, []) = x := by simp
  have hqr : v.ownBlock ≠ some q.q := fun e => by have := hM2 _ e; omega
  have LT : ∀ p, p < w.heap.size → v.ownBlock ≠ some p → v'.ownBlock ≠ some p := fun p hp hn => by
    rcases h5 with h5 | h5
    · rw [h5]; exact hn
    · rw [h5]
      intro e
      have e := Option.some.inj e
      omega
  refine ⟨v', w', h1, ⟨?_, by simp [h.l], fun j hj => ?_, fun j hj h0' => ?_, fun j k hj hk hne hj0 hk0 => ?_⟩, keep, ((Below.refl B w).alloc hB _).grown h3 (by omega) (fun k hk => (ob k hk).1)⟩
  · show w'.ownsRow B 30 2 v' (its ++ [x]).length (itCs (its ++ [x]) (bs ++ [q]))
    rw [itCs_snoc its bs x q h.l, List.length_append]
    exact h2
  · by_cases hj' : j < its.length
    · rw [A1 j hj', A2 j hj']
      exact (h.b j hj').of fun h0' => keep _ (h.lt hj' h0') (h.h j hj' h0').2
    · have ej : j = its.length := by simp at hj; omega
      subst ej
      rw [A3, A4]
      exact hq.of fun h0' => keep _ (hq.o.rd.lt h0') hqr
  · by_cases hj' : j < its.length
    · rw [A2 j hj'] at h0'
      rw [A1 j hj']
      exact ⟨(h.h j hj' h0').1, LT _ (h.lt hj' h0') (h.h j hj' h0').2⟩
    · have ej : j = its.length := by simp at hj; omega
      subst ej
      rw [A4] at h0'
      rw [A3]
      exact ⟨by omega, LT _ (hq.o.rd.lt h0') hqr⟩
  · by_cases hj' : j < its.length
    · rw [A2 j hj'] at hj0
      rw [A1 j hj']
      by_cases hk' : k < its.length
      · rw [A2 k hk'] at hk0
        rw [A1 k hk']
        exact h.d j k hj' hk' hne hj0 hk0
      · have ek : k = its.length := by simp at hk; omega
        subst ek
        rw [A3]
        have := hM1 j hj' hj0
        omega
    · have ej : j = its.length := by simp at hj; omega
      subst ej
      have hk' : k < its.length := by simp at hk; omega
      rw [A2 k hk'] at hk0
      rw [A1 k hk', A3]
      have := hM1 k hk' hk0
      omega
/-- The row's slice, and its cells. -/
theorem IRow.cells {w : World} {B : Nat} {v : Value} {its : List (Int × List Int)} {bs : List Plc} (h : IRow w B v its bs) (h0 : 0 < its.length) : ∃ g c, v = .slice (some ⟨g, 0, none⟩) its.length c ∧ B ≤ g ∧ g < w.heap.size ∧ v.ownBlock = some g ∧ (∀ i, i < its.length → w.cell? ⟨g, i * 2, none⟩ = some (.int .i64 (its.getD i (0, [])).1) ∧ w.cell? ⟨g, i * 2 + 1, none⟩ = some (.slice (bs.getD i plc0).a (its.getD i (0, [])).2.length (bs.getD i plc0).c)) ∧ (∀ i, w.frozen? ⟨g, i, none⟩ = false) := by
  rcases h.o.2 with ⟨_, h'⟩ | ⟨g, cap, cur, rfl, hb, hg, hnc, hcm, hcs, ht⟩
  · omega
  · refine ⟨g, cap, rfl, hb, (Array.getElem?_eq_some_iff.1 hg).1, rfl, fun i hi => ⟨?_, ?_⟩, fun i => frozen_of_row w g i cur _ hg⟩
    · rw [cell_of_row w g _ cur _ (0, 0) hg]
      have : (cur.toList.take (its.length * 2))[i * 2]? = (itCs its bs)[i * 2]? := by rw [ht]
      rw [List.getElem?_take, if_pos (by omega), show i * 2 = 2 * i from Nat.mul_comm _ _, itCs_at0 its bs i h.l hi] at this
      simpa [Nat.mul_comm] using this
    · rw [cell_of_row w g _ cur _ (0, 0) hg]
      have : (cur.toList.take (its.length * 2))[i * 2 + 1]? = (itCs its bs)[i * 2 + 1]? := by rw [ht]
      rw [List.getElem?_take, if_pos (by omega), show i * 2 = 2 * i from Nat.mul_comm _ _, itCs_at1 its bs i h.l hi] at this
      simpa [Nat.mul_comm] using this
theorem IRow.slice {w : World} {B : Nat} {v : Value} {its : List (Int × List Int)} {bs : List Plc} (h : IRow w B v its bs) : ∃ a c, v = .slice a its.length c ∧ (a = none → c = 0) := by
  rcases h.o.2 with ⟨h1, h'⟩ | ⟨g, cap, cur, rfl, hb, hg, hnc, hcm, hcs, ht⟩
  · exact ⟨none, 0, by rw [h1, h'], fun _ => rfl⟩
  · exact ⟨_, cap, rfl, fun e => by cases e⟩
end Go.Proofs.Ythkhfljoflffpaa

/-
  The cursor's takeList where nothing is left.
-/
namespace Go.Proofs.Ythkhfljoflffpaa
open Go Go.RowKit

set_option maxHeartbeats 2000000 in
theorem takeList_end (w : World) (p : Nat) (a : Option Addr) (m c : Nat) (hC : Cur w p (.slice a m c) (m : Int)) (hc0 : a = none → c = 0) (hc : m ≤ c) (hn : m ≤ 1048576) :
    Calls Try.prog 33 #[.pointer (some ⟨p, 0, none⟩), .int .i64 0] w fun e w' => e = .returned (.slice (some ⟨w.heap.size, 0, none⟩) 0 0) ∧ Blk w' w.heap.size .u8 [] ∧ Cur w' p (.slice a m c) (m : Int) ∧ Kp p w w' := by
  obtain ⟨i0, hi0, hz0, hz1, hz2⟩ := info_parts Try.info5
  have c0 := hC.c0
  have c1 := hC.c1
  have t1 : decide ((m : Int) - (m : Int) < 0) = false := by simp
  have q0 : (m : Int) ≤ 1048576 := by omega
  have j2 : (m : Int) ≤ (c : Int) := by omega
  have WR : IntKind.i64.wrap ((m : Int) + 0) = (m : Int) := by rw [wrap_i64]; omega
  have WR' : IntKind.i64.wrap (m : Int) = (m : Int) := by rw [wrap_i64]; omega
  have hcp := fun sp sc W => hide (run_copy_none (P := Try.prog) W 22 22 3 5 (some ⟨w.heap.size, 0, none⟩) sp 0 0 0 sc Try.underlying22 rowU8' (by simp))
  by_cases ha : a = none
  · subst ha
    obtain rfl := hc0 rfl
    obtain rfl : m = 0 := by omega
    go_enter Try.func33, Try.ntmps33
    go_wp2
    go_quiet (fail)
    go_upto_region 4 with (at_make; refine wpList_make_full _ rfl _ _ 22 rfl w.heap.size 5 i0 (.int .u8 0) 1 Try.underlying22 hi0 hz0 hz1 .i64 .i64 _ _ 0 rfl rfl rfl rfl (by rw [hz2]; omega) (by unfold maxLen; omega) (Nat.le_refl _) ?_; intro w3 hown hgrow)
    have B3 : Blk w3 w.heap.size .u8 [] := Blk.of_made hown
    have n3 : Below w.heap.size w w3 := (below_drewN (Below.refl _ _) nq).grown hgrow (Nat.le_refl _) (by simp)
    clear hown hgrow
    have C3 := hC.up n3
    have d0 := C3.c0
    have d1 := C3.c1
    have f1 := C3.f1
    have pl := hC.lt
    have C5 := C3.store (0)
    have N5 : Kp p w (w3.setCell ⟨p, 1, none⟩ (.int .i64 (0))) := (below_kp n3).trans (Only.setCell _ _ _ _).kp
    have B5 : Blk (w3.setCell ⟨p, 1, none⟩ (.int .i64 (0))) w.heap.size .u8 [] := B3.of_block ((Only.setCell w3 p 1 _).block _ (by omega))
    have HC := (hcp none 0 w3.drew).out
    go_region_with (first | (refine step_copy_ex rfl (.tmp 25) (.tmp 34) 22 22 rfl _ _ rfl rfl _ _ HC ?_) | fail)
    all_goals
      go_wp2
      go_ret
      exact ⟨rfl, B5, C5, ⟨N5.os, N5.tape, N5.output, N5.size, N5.block⟩⟩
  · obtain ⟨ad, rfl⟩ := Option.ne_none_iff_exists'.1 ha
    by_cases hcm : c = m
    · subst hcm
      go_enter Try.func33, Try.ntmps33
      go_wp2
      go_quiet (fail)
      go_upto_region 4 with (at_make; refine wpList_make_full _ rfl _ _ 22 rfl w.heap.size 5 i0 (.int .u8 0) 1 Try.underlying22 hi0 hz0 hz1 .i64 .i64 _ _ 0 rfl rfl rfl rfl (by rw [hz2]; omega) (by unfold maxLen; omega) (Nat.le_refl _) ?_; intro w3 hown hgrow)
      have B3 : Blk w3 w.heap.size .u8 [] := Blk.of_made hown
      have n3 : Below w.heap.size w w3 := (below_drewN (Below.refl _ _) nq).grown hgrow (Nat.le_refl _) (by simp)
      clear hown hgrow
      have C3 := hC.up n3
      have d0 := C3.c0
      have d1 := C3.c1
      have f1 := C3.f1
      have pl := hC.lt
      have C5 := C3.store ((c : Int))
      have N5 : Kp p w (w3.setCell ⟨p, 1, none⟩ (.int .i64 ((c : Int)))) := (below_kp n3).trans (Only.setCell _ _ _ _).kp
      have B5 : Blk (w3.setCell ⟨p, 1, none⟩ (.int .i64 ((c : Int)))) w.heap.size .u8 [] := B3.of_block ((Only.setCell w3 p 1 _).block _ (by omega))
      have HC := (hcp (some ad) 0 w3.drew).out
      go_region_with (first | (refine step_copy_ex rfl (.tmp 25) (.tmp 34) 22 22 rfl _ _ rfl rfl _ _ HC ?_) | fail)
      all_goals
        go_wp2
        go_ret
        exact ⟨rfl, B5, C5, ⟨N5.os, N5.tape, N5.output, N5.size, N5.block⟩⟩
    · go_enter Try.func33, Try.ntmps33
      go_wp2
      go_quiet (fail)
      go_upto_region 4 with (at_make; refine wpList_make_full _ rfl _ _ 22 rfl w.heap.size 5 i0 (.int .u8 0) 1 Try.underlying22 hi0 hz0 hz1 .i64 .i64 _ _ 0 rfl rfl rfl rfl (by rw [hz2]; omega) (by unfold maxLen; omega) (Nat.le_refl _) ?_; intro w3 hown hgrow)
      have B3 : Blk w3 w.heap.size .u8 [] := Blk.of_made hown
      have n3 : Below w.heap.size w w3 := (below_drewN (Below.refl _ _) nq).grown hgrow (Nat.le_refl _) (by simp)
      clear hown hgrow
      have C3 := hC.up n3
      have d0 := C3.c0
      have d1 := C3.c1
      have f1 := C3.f1
      have pl := hC.lt
      have C5 := C3.store ((m : Int))
      have N5 : Kp p w (w3.setCell ⟨p, 1, none⟩ (.int .i64 ((m : Int)))) := (below_kp n3).trans (Only.setCell _ _ _ _).kp
      have B5 : Blk (w3.setCell ⟨p, 1, none⟩ (.int .i64 ((m : Int)))) w.heap.size .u8 [] := B3.of_block ((Only.setCell w3 p 1 _).block _ (by omega))
      have HC := (hcp (some (ad.add m)) (c - m) w3.drew).out
      go_region_with (first | (refine step_copy_ex rfl (.tmp 25) (.tmp 34) 22 22 rfl _ _ rfl rfl _ _ HC ?_) | fail)
      all_goals
        go_wp2
        go_ret
        exact ⟨rfl, B5, C5, ⟨N5.os, N5.tape, N5.output, N5.size, N5.block⟩⟩
end Go.Proofs.Ythkhfljoflffpaa

/-
  The cursor's item.
-/
namespace Go.Proofs.Ythkhfljoflffpaa
open Go Go.RowKit

/-- takeList, whatever is left. -/
theorem takeList_any (w : World) (p g : Nat) (a : Option Addr) (c : Nat) (xs : List Int) (i n : Nat) (hC : Cur w p (.slice a xs.length c) i) (hr : Rd w g a .u8 xs) (hc0 : a = none → c = 0) (hc : xs.length ≤ c) (hn : xs.length ≤ 1048576) (hi : i ≤ xs.length) (hin : i + n ≤ xs.length) :
    Calls Try.prog 33 #[.pointer (some ⟨p, 0, none⟩), .int .i64 (n : Int)] w fun e w' => e = .returned (.slice (some ⟨w.heap.size, 0, none⟩) n n) ∧ Blk w' w.heap.size .u8 ((xs.drop i).take n) ∧ Cur w' p (.slice a xs.length c) ((i + n : Nat) : Int) ∧ Kp p w w' := by
  by_cases h : i < xs.length
  · exact takeList_mid w p g a c xs i n hC hr hc hn h hin
  · obtain rfl : i = xs.length := by omega
    obtain rfl : n = 0 := by omega
    have := takeList_end w p a xs.length c hC hc0 hc hn
    simpa using this
set_option maxHeartbeats 1000000 in
theorem takeList_bad (w : World) (p : Nat) (a : Option Addr) (m c i n : Nat) (hC : Cur w p (.slice a m c) i) (hin : m < i + n) (hm : m ≤ 1048576) (hi : i ≤ m) :
    Calls Try.prog 33 #[.pointer (some ⟨p, 0, none⟩), .int .i64 (n : Int)] w fun e w' => Pan e ∧ Only p w w' := by
  have c0 := hC.c0
  have c1 := hC.c1
  have t1 : decide ((m : Int) - (i : Int) < (n : Int)) = true := by simp; omega
  clear hC
  go_enter Try.func33, Try.ntmps33
  go_wp2
  go_quiet (fail)
  go_wp2
  exact ⟨rfl, ⟨_, _, rfl⟩, Only.drewN w p _⟩

theorem Kp.only_trans {p : Nat} {a b c : World} (h : Only p a b) (k : Kp p b c) : Kp p a c := h.kp.trans k

set_option maxHeartbeats 2000000 in
theorem item_any (w : World) (p g : Nat) (a : Option Addr) (c : Nat) (xs : List Int) (i : Nat) (hC : Cur w p (.slice a xs.length c) i) (hr : Rd w g a .u8 xs) (hb : Byt xs) (hg : 0 < xs.length → g ≠ p) (hc0 : a = none → c = 0) (hc : xs.length ≤ c) (hn : xs.length ≤ 1048576) :
    Calls Try.prog 24 #[.pointer (some ⟨p, 0, none⟩)] w fun e w' => ((∃ (t : Int) (s n q : Nat), itA xs i = some (t, s, n) ∧ e = .returned (.agg #[.int .i64 t, .slice (some ⟨q, 0, none⟩) n n]) ∧ w.heap.size ≤ q ∧ Blk w' q .u8 ((xs.drop s).take n) ∧ Cur w' p (.slice a xs.length c) ((s + n : Nat) : Int)) ∨ (itA xs i = none ∧ Pan e)) ∧ Kp p w w' := by
  have pl := hC.lt
  have n0 : Below w.heap.size w (w.alloc (.cells #[.int .i64 0, .slice none 0 0] 30)) := (Below.refl _ _).alloc (Nat.le_refl _) _
  have T0 := Tl.new w (.int .i64 0) (.slice none 0 0) 30
  have z0 : w.heap.size < (w.alloc (.cells #[.int .i64 0, .slice none 0 0] 30)).heap.size := by simp
  have b0 := hb i
  have C1 := hC.up n0
  have K1 : Kp p w (w.alloc (.cells #[.int .i64 0, .slice none 0 0] 30)) := below_kp n0
  have R1 := hr.up n0
  go_enter Try.func24, Try.ntmps24
  go_wp2_with fail
  generalize w.alloc (.cells #[.int .i64 0, .slice none 0 0] 30) = W1 at *
  refine (take_any W1 p g a c xs i C1 R1 (by omega)).mono ?_
  rintro r w2 ⟨⟨h1, rfl, C2⟩ | ⟨h1, t, v, rfl⟩, O2⟩
  · have R2 := R1.only O2 hg
    have T2 := T0.only O2 (by omega)
    have K2 := K1.trans O2.kp
    have z2 := Nat.le_of_eq O2.size.symm
    clear C1 R1 T0 K1 n0 O2
    by_cases hx : xs.getD i 0 = 0
    · have IA := hide (itA_zero (i := i) hx)
      rw [hx]
      go_wp2
      exact ⟨rfl, .inr ⟨IA.out, _, _, rfl⟩, K2⟩
    · have t1 : decide (xs.getD i 0 = 0) = false := decide_eq_false hx
      have t2 : (xs.getD i 0 == 0) = false := by simpa using hx
      have LN := hide (length_any w2 p g a c xs (i + 1) C2 R2 hb hg hn)
      have IY := fun m n h k => hide (itA_yes (m := m) (n := n) h1 hx h k)
      have HX := hide hx
      clear hx
      generalize hxi : xs.getD i 0 = x at *
      have HXI := hide hxi
      clear hxi
      go_wp2_with fail
      refine LN.out.mono ?_
      rintro r w3 ⟨⟨m, n, hl, rfl, C3⟩ | ⟨hl, t, v, rfl⟩, O3⟩
      · have bd := lnA_bd hb hl
        have T3 := T2.only O3 (by omega)
        have R3 := R2.only O3 hg
        have K3 := K2.trans O3.kp
        have z3 := Nat.le_of_eq O3.size.symm
        clear T2 R2 K2 O3 LN C2
        by_cases hin : i + 1 + m + n ≤ xs.length
        · have IA := IY m n hl hin
          have TL := hide (takeList_any w3 p g a c xs (i + 1 + m) n C3 R3 hc0 hc hn (by omega) hin)
          clear IY hl
          go_wp2_with fail
          refine TL.out.mono ?_
          rintro r w4 ⟨rfl, B4, C4, k4⟩
          have T4 := T3.kp k4 (by omega)
          have K4 := K3.trans k4
          have c0 := T4.c0
          have c1 := T4.c1
          have f0 := T4.fr 0
          have f1 := T4.fr 1
          have T5 := (T4.set0 (.int .i64 x)).set1 (.slice (some ⟨w3.heap.size, 0, none⟩) n n)
          have O5 : Only w.heap.size w4 ((w4.setCell ⟨w.heap.size, 0, none⟩ (.int .i64 x)).setCell ⟨w.heap.size, 1, none⟩ (.slice (some ⟨w3.heap.size, 0, none⟩) n n)) := (Only.setCell _ _ _ _).trans (Only.setCell _ _ _ _)
          have K5 : Kp p w ((w4.setCell ⟨w.heap.size, 0, none⟩ (.int .i64 x)).setCell ⟨w.heap.size, 1, none⟩ (.slice (some ⟨w3.heap.size, 0, none⟩) n n)) := ⟨O5.os.trans K4.os, O5.tape.trans K4.tape, O5.output.trans K4.output, by have := K4.size; have := O5.size; omega, fun k hk hp => (O5.block k (by omega)).trans (K4.block k hk hp)⟩
          have B5 := B4.of_block (O5.block w3.heap.size (by omega))
          have C5 := C4.of_block (O5.block p (by omega))
          clear T4 K4 O5 TL T3 B4 C4
          go_wp2
          generalize (w4.setCell ⟨w.heap.size, 0, none⟩ (.int .i64 x)).setCell ⟨w.heap.size, 1, none⟩ (.slice (some ⟨w3.heap.size, 0, none⟩) n n) = w5 at *
          refine bodyPost_ret (v := .agg #[.int .i64 x, .slice (some ⟨w3.heap.size, 0, none⟩) n n]) (by simp [results, Try.results24, go_sem, T5.c0, T5.c1]) rfl ⟨.inl ⟨x, i + 1 + m, n, w3.heap.size, IA.out, rfl, by omega, B5, C5⟩, K5⟩
        · have IA := hide (itA_short hl (by omega))
          have TL := hide (takeList_bad w3 p a xs.length c (i + 1 + m) n C3 (by omega) hn (by omega))
          clear IY hl
          go_wp2_with fail
          refine TL.out.mono ?_
          rintro r w4 ⟨⟨t, v, rfl⟩, O4⟩
          go_wp2
          exact ⟨rfl, .inr ⟨IA.out, t, v, rfl⟩, K3.trans O4.kp⟩
      · have IA := hide (itA_ln hl)
        clear IY hl
        go_wp2
        exact ⟨rfl, .inr ⟨IA.out, t, v, rfl⟩, K2.trans O3.kp⟩
  · have IA := hide (itA_out h1)
    go_wp2
    exact ⟨rfl, .inr ⟨IA.out, t, v, rfl⟩, K1.trans O2.kp⟩

set_option maxHeartbeats 1000000 in
theorem item_neg (w : World) (p : Nat) (a : Option Addr) (m c : Nat) (i : Int) (hC : Cur w p (.slice a m c) i) (hi : i < 0) :
    Calls Try.prog 24 #[.pointer (some ⟨p, 0, none⟩)] w fun e w' => Pan e ∧ Kp p w w' := by
  have n0 : Below w.heap.size w (w.alloc (.cells #[.int .i64 0, .slice none 0 0] 30)) := (Below.refl _ _).alloc (Nat.le_refl _) _
  have C1 := hC.up n0
  have K1 : Kp p w (w.alloc (.cells #[.int .i64 0, .slice none 0 0] 30)) := below_kp n0
  go_enter Try.func24, Try.ntmps24
  go_wp2_with fail
  generalize w.alloc (.cells #[.int .i64 0, .slice none 0 0] 30) = W1 at *
  refine (take_bad W1 p a m c i C1 (by omega)).mono ?_
  rintro r w2 ⟨⟨t, v, rfl⟩, O2⟩
  go_wp2
  exact ⟨rfl, ⟨t, v, rfl⟩, K1.trans O2.kp⟩
end Go.Proofs.Ythkhfljoflffpaa

/-
  The program's DecodeItem.
-/
namespace Go.Proofs.Ythkhfljoflffpaa
open Go Go.RowKit

/-- The deferred function, where the frame panics. -/
theorem dtCatch_pan (p : Nat) (u : TypeId) (pv x y z v : Value) (w : World) (hT : Fo w p x y z v) :
    CallsD Try.prog 23 #[.pointer (some ⟨p, 0, none⟩)] (.panicking [{ v := .iface u pv, recovered := false }]) w fun e u' w' =>
      e = .returned (.tuple #[]) ∧ u' = .panicking [{ v := .iface u pv, recovered := true }] ∧ Only p w w' ∧ Fo w' p (.bool false) (.int .i64 0) (.slice none 0 0) (.int .i64 0) := by
  have c0 := hT.c0
  have c1 := hT.c1
  have c2 := hT.c2
  have c3 := hT.c3
  have f0 := hT.fr 0
  have f1 := hT.fr 1
  have f2 := hT.fr 2
  have f3 := hT.fr 3
  have K := hide (hT.set (.bool false) (.int .i64 0) (.slice none 0 0) (.int .i64 0))
  have O := hide (only_set4 w p (.bool false) (.int .i64 0) (.slice none 0 0) (.int .i64 0))
  clear hT
  refine callsD_of_wpS Try.func23 rfl fun c₀ cs hu => ?_
  apply wpS_seq
  apply wpS_region
  simp [wpOpsS, go_sem, recoverD, hu, Try.ntmps23, Exit.thenS]
  refine wpS_cond (t := true) (by simp [Act.eval, Array.replicate]) ?_
  simp only [if_true]
  refine wpS_of_wp ?_
  go_wp2
  exact ⟨rfl, _, rfl, .tuple #[], by simp [results, Try.results23, go_sem], rfl, rfl, O.out, K.out⟩

theorem dtCatch_idle (p : Addr) (w : World) :
    CallsD Try.prog 23 #[.pointer (some p)] .returning w fun e u' w' => e = .returned (.tuple #[]) ∧ u' = .returning ∧ w' = w := by
  refine callsD_of_wpS Try.func23 rfl fun c₀ cs hu => ?_
  apply wpS_seq
  apply wpS_region
  simp [wpOpsS, go_sem, recoverD, hu, Try.ntmps23, Exit.thenS]
  refine wpS_cond (t := false) (by simp [Act.eval, Array.replicate]) ?_
  simp only [Bool.false_eq_true, if_false]
  refine wpS_of_wp (wp_skip ?_)
  cases c₀
  simp_all [bodyPostS, results, Try.results23]

theorem cur_new (w : World) (l : Value) (i : Int) (t : TypeId) : Cur (w.alloc (.cells #[l, .int .i64 i] t)) w.heap.size l i := Tl.new w l (.int .i64 i) t

set_option maxHeartbeats 2000000 in
theorem implDecodeItem_any (w : World) (g : Nat) (a : Option Addr) (c : Nat) (xs : List Int) (i : Int) (hr : Rd w g a .u8 xs) (hb : Byt xs) (hc0 : a = none → c = 0) (hc : xs.length ≤ c) (hn : xs.length ≤ 1048576) :
    Calls Try.prog 11 #[.slice a xs.length c, .int .i64 i] w fun e w' => NewT w.heap.size w' e (diT (itZ xs i)) (dtT (itZ xs i)) (dbT xs (itZ xs i)) (dnT (itZ xs i)) ∧ Below w.heap.size w w' := by
  have hmf : ∀ (fn : Fn) (first cap : Array Value) (w : World), (Instr.makeFunc fn first cap).run Try.prog w = .ok (.func fn first cap) w := fun _ _ _ _ => rfl
  have n0 : Below w.heap.size w (w.alloc (.cells #[.bool false, .int .i64 0, .slice none 0 0, .int .i64 0] 38)) := (Below.refl _ _).alloc (Nat.le_refl _) _
  have T0 := Fo.new w (.bool false) (.int .i64 0) (.slice none 0 0) (.int .i64 0) 38
  have z0 : (w.alloc (.cells #[.bool false, .int .i64 0, .slice none 0 0, .int .i64 0] 38)).heap.size = w.heap.size + 1 := by simp
  have n1 : Below w.heap.size w ((w.alloc (.cells #[.bool false, .int .i64 0, .slice none 0 0, .int .i64 0] 38)).alloc (.cells #[.slice a xs.length c, .int .i64 i] 47)) := n0.alloc (by simp) _
  have T1 := T0.up ((Below.refl _ _).alloc (Nat.le_refl _) (.cells #[.slice a xs.length c, .int .i64 i] 47))
  have C1 := cur_new (w.alloc (.cells #[.bool false, .int .i64 0, .slice none 0 0, .int .i64 0] 38)) (.slice a xs.length c) i 47
  rw [z0] at C1
  have z1 : w.heap.size + 1 < ((w.alloc (.cells #[.bool false, .int .i64 0, .slice none 0 0, .int .i64 0] 38)).alloc (.cells #[.slice a xs.length c, .int .i64 i] 47)).heap.size := by simp
  clear z0 n0 T0
  -- what item answers, at any place
  have IT : Hid (∀ W, Cur W (w.heap.size + 1) (.slice a xs.length c) i → Below w.heap.size w W → Calls Try.prog 24 #[.pointer (some ⟨w.heap.size + 1, 0, none⟩)] W fun e w' => ((∃ (t : Int) (s n q : Nat), itZ xs i = some (t, s, n) ∧ e = .returned (.agg #[.int .i64 t, .slice (some ⟨q, 0, none⟩) n n]) ∧ W.heap.size ≤ q ∧ Blk w' q .u8 ((xs.drop s).take n) ∧ n ≤ xs.length - s ∧ Cur w' (w.heap.size + 1) (.slice a xs.length c) ((s + n : Nat) : Int)) ∨ (itZ xs i = none ∧ Pan e)) ∧ Kp (w.heap.size + 1) W w') := fun W hC hN => by
    by_cases hi : 0 ≤ i
    · obtain ⟨k, rfl⟩ := Int.eq_ofNat_of_zero_le hi
      have e : itZ xs (k : Int) = itA xs k := by unfold itZ; rw [if_pos hi]; rfl
      rw [e]
      refine (item_any W (w.heap.size + 1) g a c xs k hC (hr.up hN) hb (fun h => by have := hr.lt h; omega) hc0 hc hn).mono ?_
      rintro e w' ⟨⟨t, s, n, q, h1, h2, h3, h4, h5⟩ | h, hk⟩
      · have bd := itA_bd hb h1
        exact ⟨.inl ⟨t, s, n, q, h1, h2, h3, h4, by omega, h5⟩, hk⟩
      · exact ⟨.inr h, hk⟩
    · have e : itZ xs i = none := by unfold itZ; rw [if_neg hi]
      rw [e]
      refine (item_neg W (w.heap.size + 1) a _ c i hC (by omega)).mono ?_
      rintro e w' ⟨h, hk⟩
      exact ⟨.inr ⟨rfl, h⟩, hk⟩
  go_enter_defers Try.func11, Try.ntmps11
  go_wp2_with fail
  generalize (w.alloc (.cells #[.bool false, .int .i64 0, .slice none 0 0, .int .i64 0] 38)).alloc (.cells #[.slice a xs.length c, .int .i64 i] 47) = W1 at *
  refine (IT.out W1 C1 n1).mono ?_
  rintro r w2 ⟨⟨t, s, n, q, h1, rfl, h3, B2, h5, C2⟩ | ⟨h1, t, v, rfl⟩, K2⟩
  · have N2 : Below w.heap.size w w2 := n1.trans (K2.below (by omega) (by omega))
    have T2 := T1.kp K2 (by omega)
    have z2 := K2.size
    have lq := B2.lt
    have n3 : Below w2.heap.size w2 (w2.alloc (.cells #[.int .i64 t, .slice (some ⟨q, 0, none⟩) n n] 30)) := (Below.refl _ _).alloc (Nat.le_refl _) _
    have I3 := Tl.new w2 (.int .i64 t) (.slice (some ⟨q, 0, none⟩) n n) 30
    have T3 := T2.up n3
    have C3 := C2.up n3
    have B3 := B2.up n3
    have N3 := nxt N2 n3
    have H1 := hide h1
    have H5 := hide h5
    clear h1 h5 T1 C1 IT T2 C2 B2 K2 n1
    go_wp2_with fail
    generalize w2.alloc (.cells #[.int .i64 t, .slice (some ⟨q, 0, none⟩) n n] 30) = w3 at *
    have i0 := I3.c0
    have i1 := I3.c1
    have d1 := C3.c1
    have c0 := T3.c0
    have c1 := T3.c1
    have c2 := T3.c2
    have c3 := T3.c3
    have f0 := T3.fr 0
    have f1 := T3.fr 1
    have f2 := T3.fr 2
    have f3 := T3.fr 3
    have T4 : Fo (World.drew ((((w3.setCell ⟨w.heap.size, 0, none⟩ (.bool true)).setCell ⟨w.heap.size, 1, none⟩ (.int .i64 t)).setCell ⟨w.heap.size, 2, none⟩ (.slice (some ⟨q, 0, none⟩) n n)).setCell ⟨w.heap.size, 3, none⟩ (.int .i64 ((s : Int) + (n : Int))))) w.heap.size (.bool true) (.int .i64 t) (.slice (some ⟨q, 0, none⟩) n n) (.int .i64 ((s : Int) + (n : Int))) := T3.set (.bool true) (.int .i64 t) (.slice (some ⟨q, 0, none⟩) n n) (.int .i64 ((s : Int) + (n : Int)))
    have O4 : Only w.heap.size w3 (World.drew ((((w3.setCell ⟨w.heap.size, 0, none⟩ (.bool true)).setCell ⟨w.heap.size, 1, none⟩ (.int .i64 t)).setCell ⟨w.heap.size, 2, none⟩ (.slice (some ⟨q, 0, none⟩) n n)).setCell ⟨w.heap.size, 3, none⟩ (.int .i64 ((s : Int) + (n : Int))))) := (only_set4 w3 w.heap.size (.bool true) (.int .i64 t) (.slice (some ⟨q, 0, none⟩) n n) (.int .i64 ((s : Int) + (n : Int)))).trans (Only.drewN _ _ 1)
    have N4 := N3.trans (O4.below (Nat.le_refl _))
    have B4 := B3.of_block (O4.block q (by omega))
    clear O4
    go_region
    go_wp2
    generalize World.drew ((((w3.setCell ⟨w.heap.size, 0, none⟩ (.bool true)).setCell ⟨w.heap.size, 1, none⟩ (.int .i64 t)).setCell ⟨w.heap.size, 2, none⟩ (.slice (some ⟨q, 0, none⟩) n n)).setCell ⟨w.heap.size, 3, none⟩ (.int .i64 ((s : Int) + (n : Int)))) = w4 at *
    refine leaves_cons (f := 23) (args := #[.pointer (some ⟨w.heap.size, 0, none⟩)]) (by simp) (by simp [go_sem]) ?_
    refine (dtCatch_idle _ _).mono ?_
    rintro e u' w5 ⟨rfl, rfl, h4⟩
    have h4 := h4.symm
    subst h4
    refine ⟨.agg #[.bool true, .int .i64 t, .slice (some ⟨q, 0, none⟩) n n, .int .i64 ((s : Int) + (n : Int))], ?_, ?_⟩
    · simp [results, Try.results11, go_sem, T4.c0, T4.c1, T4.c2, T4.c3]
    · have BL : ((xs.drop s).take n).length = n := by rw [List.length_take, List.length_drop]; have := H5.out; omega
      rw [H1.out]
      refine ⟨⟨_, n, q, ?_, B4.own0, by simp, by show ((xs.drop s).take n).length ≤ n; omega, by omega⟩, N4⟩
      show _ = Ending.returned (.agg #[.bool true, .int .i64 t, .slice _ ((xs.drop s).take n).length n, .int .i64 ((s + n : Nat) : Int)])
      rw [BL, show ((s + n : Nat) : Int) = (s : Int) + (n : Int) by omega]
  · have N2 : Below w.heap.size w w2 := n1.trans (K2.below (by omega) (by omega))
    have T2 := T1.kp K2 (by omega)
    have H1 := hide h1
    clear h1 IT
    go_wp2
    refine leaves_cons (f := 23) (args := #[.pointer (some ⟨w.heap.size, 0, none⟩)]) (by simp) (by simp [go_sem]) ?_
    refine (dtCatch_pan w.heap.size t v _ _ _ _ w2 T2).mono ?_
    rintro e u' w4 ⟨rfl, rfl, O4, T4⟩
    refine ⟨.agg #[.bool false, .int .i64 0, .slice none 0 0, .int .i64 0], ?_, ?_⟩
    · simp [results, Try.results11, go_sem, T4.c0, T4.c1, T4.c2, T4.c3]
    · rw [H1.out]
      exact ⟨⟨none, 0, w.heap.size, rfl, Own.nil _ _ _ _, fun _ => rfl, Nat.le_refl _, Nat.le_refl _⟩, N2.trans (O4.below (Nat.le_refl _))⟩
end Go.Proofs.Ythkhfljoflffpaa

/-
  The cursor's items.
-/
namespace Go.Proofs.Ythkhfljoflffpaa
open Go Go.RowKit

/-- The items from a place on, at most so many. -/
def itsF (xs : List Int) : Nat → Nat → Option (List (Int × List Int))
  | 0, i => if i = xs.length then some [] else none
  | f + 1, i => if i = xs.length then some [] else match itA xs i with
    | none => none
    | some (t, s, n) => (itsF xs f (s + n)).map (List.cons (t, (xs.drop s).take n))
theorem itsF_end (xs : List Int) (f : Nat) : itsF xs f xs.length = some [] := by cases f <;> simp [itsF]
theorem itsF_zero {xs : List Int} {i : Nat} (h : i ≠ xs.length) : itsF xs 0 i = none := by simp [itsF, h]
theorem itsF_bad {xs : List Int} {i : Nat} (f : Nat) (h : i ≠ xs.length) (hi : itA xs i = none) : itsF xs f i = none := by cases f <;> simp [itsF, h, hi]
theorem itsF_step {xs : List Int} {i f s n : Nat} {t : Int} (h : i ≠ xs.length) (hi : itA xs i = some (t, s, n)) : itsF xs (f + 1) i = (itsF xs f (s + n)).map (List.cons (t, (xs.drop s).take n)) := by simp [itsF, h, hi]
/-- These are the items ahead of this place. -/
def Ahd (xs : List Int) (its : List (Int × List Int)) (k : Nat) : Prop := itsF xs 1000 0 = (itsF xs (1000 - its.length) k).map (its ++ ·)
theorem Ahd.zero (xs : List Int) : Ahd xs [] 0 := by
  unfold Ahd
  show itsF xs 1000 0 = (itsF xs 1000 0).map _
  cases itsF xs 1000 0 <;> simp
theorem Ahd.end' {xs : List Int} {its : List (Int × List Int)} (h : Ahd xs its xs.length) : itsF xs 1000 0 = some its := by
  unfold Ahd at h
  rw [h, itsF_end]
  simp
theorem Ahd.full {xs : List Int} {its : List (Int × List Int)} {k : Nat} (h : Ahd xs its k) (hl : its.length = 1000) (hk : k ≠ xs.length) : itsF xs 1000 0 = none := by
  unfold Ahd at h
  rw [h, hl, itsF_zero hk]
  rfl
theorem Ahd.bad {xs : List Int} {its : List (Int × List Int)} {k : Nat} (h : Ahd xs its k) (hk : k ≠ xs.length) (hi : itA xs k = none) : itsF xs 1000 0 = none := by
  unfold Ahd at h
  rw [h, itsF_bad _ hk hi]
  rfl
theorem Ahd.step {xs : List Int} {its : List (Int × List Int)} {k s n : Nat} {t : Int} (h : Ahd xs its k) (hl : its.length < 1000) (hk : k ≠ xs.length) (hi : itA xs k = some (t, s, n)) : Ahd xs (its ++ [(t, (xs.drop s).take n)]) (s + n) := by
  unfold Ahd at h ⊢
  rw [h]
  obtain ⟨f, hf⟩ : ∃ f, 1000 - its.length = f + 1 := ⟨999 - its.length, by omega⟩
  rw [hf, itsF_step hk hi, show 1000 - (its ++ [(t, (xs.drop s).take n)]).length = f by simp; omega]
  cases itsF xs f (s + n) <;> simp
def curP (w : World) (p : Nat) : Nat := match w.cell? ⟨p, 1, none⟩ with | some (.int _ i) => i.toNat | _ => 0
theorem Cur.curP {w : World} {p : Nat} {l : Value} {i : Nat} (h : Cur w p l (i : Int)) : curP w p = i := by
  unfold Proofs.Ythkhfljoflffpaa.curP
  rw [h.c1]
  simp
theorem Kp.tail {p : Nat} {a b c : World} (h : Kp p a b) (k : Below a.heap.size b c) : Kp p a c :=
  ⟨k.os.trans h.os, k.tape.trans h.tape, k.output.trans h.output, Nat.le_trans h.size k.size, fun i hi hp => (k.block i hi).trans (h.block i hi hp)⟩

set_option maxHeartbeats 4000000 in
theorem items_any (w : World) (p g : Nat) (a : Option Addr) (c : Nat) (xs : List Int) (hC : Cur w p (.slice a xs.length c) ((0 : Nat) : Int)) (hr : Rd w g a .u8 xs) (hb : Byt xs) (hg : 0 < xs.length → g ≠ p) (hc0 : a = none → c = 0) (hc : xs.length ≤ c) (hn : xs.length ≤ 1048576) :
    Calls Try.prog 18 #[.pointer (some ⟨p, 0, none⟩)] w fun e w' => ((∃ its bs v, itsF xs 1000 0 = some its ∧ e = .returned v ∧ IRow w' w.heap.size v its bs) ∨ (itsF xs 1000 0 = none ∧ Pan e)) ∧ Kp p w w' := by
  have pl := hC.lt
  have HC := hide hC
  have HR := hide hr
  have HC0 := hide hc0
  have HN := hide (And.intro hc hn)
  have HG := hide hg
  have PL := hide pl
  clear hC hr hc0 hc hn hg pl
  go_enter Try.func18, Try.ntmps18
  go_wp2_with fail
  go_loopw [3] (fun q wr => ∃ (k : Nat) (its : List (Int × List Int)) (bs : List Plc), k ≤ xs.length ∧ its.length ≤ 1000 ∧ IRow wr w.heap.size q its bs ∧ Hid (Ahd xs its k) ∧ Cur wr p (.slice a xs.length c) (k : Int) ∧ Kp p w wr) (fun _ wr => xs.length - curP wr p)
  case atStart => exact ⟨0, [], [], Nat.zero_le _, by simp, IRow.nil _ _, Ahd.zero xs, HC.out, Kp.refl _ _⟩
  case round =>
    obtain ⟨k, its, bs, hk, hl, R, A, C, K⟩ := hrel
    have AE := atEnd_any wr p a xs.length c k C
    by_cases hlt : k < xs.length
    · rw [decide_eq_false (show ¬ k = xs.length by omega)] at AE
      obtain ⟨ra, rc, rfl, -⟩ := R.slice
      have SZ := hide K.size
      by_cases hf : its.length = 1000
      · have FU := hide (A.out.full hf (by omega))
        have t1 : ((its.length : Int) == 1000) = true := by simp; omega
        have t2 : decide ((its.length : Int) = 1000) = true := by simp; omega
        have KK := fun q => hide (show Kp p w (wr.drewN q) from K.trans (Only.drewN wr p q).kp)
        clear R A C K hl hf hk hlt
        generalize its.length = m at *
        generalize xs.length = n at *
        go_wp2_with fail
        refine AE.mono ?_
        rintro r w2 ⟨rfl, q, rfl⟩
        go_wp2
        exact ⟨rfl, .inr ⟨FU.out, _, _, rfl⟩, (KK q).out⟩
      · have t1 : ((its.length : Int) == 1000) = false := by simp; omega
        have t2 : decide ((its.length : Int) = 1000) = false := by simp; omega
        have IT := fun q => hide (item_any (wr.drewN q) p g a c xs k (C.drew q) ((HR.out.kp K HG.out).of_block rfl) hb HG.out HC0.out HN.out.1 HN.out.2)
        have M1 := hide C.curP
        have RL := hide R
        have KL := hide K
        have HL := hide hl
        have HF := hide hf
        have HLT := hide hlt
        clear R K C hl hf hk hlt
        go_wp2_with fail
        refine AE.mono ?_
        rintro r w2 ⟨rfl, q, rfl⟩
        clear AE
        go_wp2_with fail
        refine (IT q).out.mono ?_
        rintro r w3 ⟨⟨t, s, n, g2, h1, rfl, h3, B2, C3⟩ | ⟨h1, v1, v2, rfl⟩, K3⟩
        · have bd := itA_bd hb h1
          have BL : ((xs.drop s).take n).length = n := by rw [List.length_take, List.length_drop]; omega
          have PW : p < w.heap.size := PL.out
          have R3 : IRow w3 w.heap.size (.slice ra its.length rc) its bs := RL.out.of (fun i hi hB => K3.block i hi (by omega))
          have hs3 := K3.size
          have hsw := SZ.out
          have hsd : (wr.drewN q).heap.size = wr.heap.size := rfl
          have LI : Lie w3 ((xs.drop s).take n) ⟨some ⟨g2, 0, none⟩, n, g2⟩ := ⟨B2.own0, fun e => by (first | cases e | simp at e), by show _ ≤ n; omega⟩
          obtain ⟨v', w4, a1, a2, a3, a4⟩ := R3.app (t, (xs.drop s).take n) ⟨some ⟨g2, 0, none⟩, n, g2⟩ (by omega) LI wr.heap.size (by omega) (fun i hi h0 => RL.out.lt hi h0) (fun i hi => (RL.out.o.lt i hi).2) (by show _ ≤ g2; omega) (by have := HL.out; omega)
          have A4 := hide (A.out.step (by have := HL.out; have := HF.out; omega) (by have := HLT.out; omega) h1)
          have C4 : Cur w4 p (.slice a xs.length c) ((s + n : Nat) : Int) := C3.of_block (a4.block p PW)
          have K4 : Kp p w w4 := (KL.out.trans ((Only.drewN wr p q).kp.trans K3)).tail a4
          have M4 := hide C4.curP
          have MM : Hid (xs.length - curP w4 p < xs.length - curP wr p) := by show _ < _; rw [M1.out, M4.out]; have := HLT.out; omega
          have FIN := hide (And.intro a2 (And.intro A4 (And.intro C4 K4)))
          have BD := hide (show s + n ≤ xs.length by omega)
          have LE := hide (show (its ++ [(t, (xs.drop s).take n)]).length ≤ 1000 by simp; have := HL.out; have := HF.out; omega)
          simp only [BL] at a1
          have hap := a1
          clear a1 a2 a3 a4 C4 K4 A4 M4 LI R3 bd h1 h3 B2 C3 K3 BL hs3 hsw hsd PW IT
          go_wp2_with (at_builtin; refine Lib.wpList_append_run _ rfl _ _ 23 23 rfl _ _ rfl rfl _ _ hap ?_)
          clear hap
          go_wp2
          go_roundw
          case rel => exact ⟨s + n, _, _, BD.out, LE.out, FIN.out.1, FIN.out.2.1, FIN.out.2.2.1, FIN.out.2.2.2⟩
          case measure => exact MM.out
        · have FU := hide (A.out.bad (by have := HLT.out; omega) h1)
          have K4 := hide (KL.out.trans ((Only.drewN wr p q).kp.trans K3))
          clear K3 h1 IT
          go_wp2
          exact ⟨rfl, .inr ⟨FU.out, _, _, rfl⟩, K4.out⟩
    · obtain rfl : k = xs.length := by omega
      rw [decide_eq_true rfl] at AE
      have EN := hide A.out.end'
      have KK := fun q => hide (show Kp p w (wr.drewN q) from K.trans (Only.drewN wr p q).kp)
      have RR := fun q => hide (show IRow (wr.drewN q) w.heap.size _ its bs from R.of (fun _ _ _ => rfl))
      clear R A C K hk hlt hl
      go_wp2_with fail
      refine AE.mono ?_
      rintro r w2 ⟨rfl, q, rfl⟩
      go_wp2
      go_ret
      exact ⟨.inl ⟨its, bs, _, EN.out, rfl, (RR q).out⟩, (KK q).out⟩
end Go.Proofs.Ythkhfljoflffpaa

/-
  Items one behind the other, as numbers: what is written is read back, and what is read is written as it stood.
-/
namespace Go.Proofs.Ythkhfljoflffpaa
open Go Go.RowKit

/-- The items' bytes, one behind the other. -/
def itsB : List (Int × List Int) → List Int
  | [] => []
  | x :: its => itL x.1 x.2 ++ itsB its
theorem itsB_snoc (its : List (Int × List Int)) (x : Int × List Int) : itsB (its ++ [x]) = itsB its ++ itL x.1 x.2 := by
  induction its with
  | nil => simp [itsB]
  | cons y its ih => simp [itsB, ih]
theorem getD_app (pre l : List Int) (j : Nat) : (pre ++ l).getD (pre.length + j) 0 = l.getD j 0 := by
  simp [List.getD, List.getElem?_append_right]
theorem getD_appL (l r : List Int) (j : Nat) (h : j < l.length) : (l ++ r).getD j 0 = l.getD j 0 := by
  simp [List.getD, List.getElem?_append_left h]
/-- One item is read where it was written. -/
theorem itA_put (pre rest body : List Int) (t : Int) (h : itB t body.length = true) : itA (pre ++ (itL t body ++ rest)) pre.length = some (t, pre.length + 1 + (lenL body.length).length, body.length) := by
  have hb : 1 ≤ t ∧ t ≤ 255 ∧ body.length ≤ 65535 := by unfold itB at h; simpa using h
  have e : itL t body = t :: (lenL body.length ++ body) := by unfold itL; rw [if_pos h]
  rw [e]
  have E : pre ++ (t :: (lenL body.length ++ body) ++ rest) = pre ++ (t :: (lenL body.length ++ (body ++ rest))) := by simp
  rw [E]
  have l1 := lenL_len body.length
  have g0 : (pre ++ (t :: (lenL body.length ++ (body ++ rest)))).getD pre.length 0 = t := getD_app pre _ 0
  have hl : (pre ++ (t :: (lenL body.length ++ (body ++ rest)))).length = pre.length + 1 + (lenL body.length).length + body.length + rest.length := by simp; omega
  have ln : lnA (pre ++ (t :: (lenL body.length ++ (body ++ rest)))) (pre.length + 1) = some ((lenL body.length).length, body.length) := lnA_of (by omega) (fun j hj => by
    rw [show pre.length + 1 + j = pre.length + (j + 1) by omega, getD_app]
    show (lenL body.length ++ (body ++ rest)).getD j 0 = _
    exact getD_appL _ _ j hj) hb.2.2
  have := itA_yes (by omega) (by rw [g0]; omega) ln (by omega)
  rw [g0] at this
  exact this
theorem body_put (pre rest body : List Int) (t : Int) (h : itB t body.length = true) : ((pre ++ (itL t body ++ rest)).drop (pre.length + 1 + (lenL body.length).length)).take body.length = body := by
  have e : itL t body = t :: (lenL body.length ++ body) := by unfold itL; rw [if_pos h]
  rw [e, show pre ++ (t :: (lenL body.length ++ body) ++ rest) = (pre ++ (t :: lenL body.length)) ++ (body ++ rest) by simp, List.drop_append_of_le_length (by simp; omega), List.drop_eq_nil_of_le (by simp; omega)]
  simp
theorem itL_size (t : Int) (body : List Int) (h : itB t body.length = true) : (itL t body).length = 1 + (lenL body.length).length + body.length := by
  have e : itL t body = t :: (lenL body.length ++ body) := by unfold itL; rw [if_pos h]
  rw [e]
  simp
  omega
/-- All items are read back. -/
theorem its_back : ∀ (its : List (Int × List Int)) (pre : List Int) (f : Nat), (∀ x ∈ its, itB x.1 x.2.length = true) → its.length ≤ f → itsF (pre ++ itsB its) f pre.length = some its
  | [], pre, f, _, _ => by
    have := itsF_end (pre ++ itsB []) f
    simpa [itsB] using this
  | x :: its, pre, 0, _, hf => by simp at hf
  | x :: its, pre, f + 1, hx, hf => by
    have h0 := hx x (by simp)
    have hs := itL_size x.1 x.2 h0
    have l1 := lenL_len x.2.length
    have IT := itA_put pre (itsB its) x.2 x.1 h0
    have BP := body_put pre (itsB its) x.2 x.1 h0
    have ne : pre.length ≠ (pre ++ (itL x.1 x.2 ++ itsB its)).length := by rw [List.length_append, List.length_append, hs]; omega
    show itsF (pre ++ (itL x.1 x.2 ++ itsB its)) (f + 1) pre.length = _
    rw [itsF_step ne IT, BP]
    have IH := its_back its (pre ++ itL x.1 x.2) f (fun y hy => hx y (by simp [hy])) (by simpa using hf)
    rw [List.append_assoc, List.length_append, hs, show pre.length + (1 + (lenL x.2.length).length + x.2.length) = pre.length + 1 + (lenL x.2.length).length + x.2.length by omega] at IH
    rw [IH]
    rfl
theorem its_back0 (its : List (Int × List Int)) (h : ∀ x ∈ its, itB x.1 x.2.length = true) (hl : its.length ≤ 1000) : itsF (itsB its) 1000 0 = some its := its_back its [] 1000 h hl
/-- What is read is written as it stood. -/
theorem itA_form {xs : List Int} (hb : Byt xs) {i s n : Nat} {t : Int} (h : itA xs i = some (t, s, n)) : itL t ((xs.drop s).take n) = (xs.drop i).take (s + n - i) := by
  have bd := itA_bd hb h
  have BL : ((xs.drop s).take n).length = n := by rw [List.length_take, List.length_drop]; omega
  have hB : itB t ((xs.drop s).take n).length = true := by unfold itB; rw [BL]; simp; omega
  unfold itA at h
  split at h
  · rename_i h0
    cases hl : lnA xs (i + 1) with
    | none => rw [hl] at h; cases h
    | some o =>
      obtain ⟨m, n'⟩ := o
      rw [hl] at h
      simp only at h
      split at h
      · obtain ⟨e1, e2, e3⟩ : xs.getD i 0 = t ∧ i + 1 + m = s ∧ n' = n := by simpa using h
        subst e3
        subst e2
        obtain ⟨lm, lf⟩ := lnA_form hb hl
        have e : itL t ((xs.drop (i + 1 + m)).take n') = t :: (lenL n' ++ (xs.drop (i + 1 + m)).take n') := by unfold itL; rw [if_pos hB, BL]
        rw [e]
        have hlen : (t :: (lenL n' ++ (xs.drop (i + 1 + m)).take n')).length = ((xs.drop i).take (i + 1 + m + n' - i)).length := by simp [lm]; omega
        refine List.ext_getElem hlen (fun j h1 h2 => ?_)
        have hj : j < 1 + m + n' := by simp [lm] at h1; omega
        rw [List.getElem_take, List.getElem_drop]
        have gx : ∀ k (hk : k < xs.length), xs[k] = xs.getD k 0 := fun k hk => by simp [hk]
        rw [gx]
        cases j with
        | zero => simpa using e1.symm
        | succ j =>
          simp only [List.getElem_cons_succ]
          by_cases hjm : j < m
          · rw [List.getElem_append_left (by omega)]
            have := lf j hjm
            rw [show i + (j + 1) = i + 1 + j by omega, this]
            have hj' : j < (lenL n').length := by omega
            simp [hj']
          · rw [List.getElem_append_right (by omega), List.getElem_take, List.getElem_drop, gx]
            congr 1
            omega
      · cases h
  · cases h
end Go.Proofs.Ythkhfljoflffpaa

/-
  The program's DecodeItems.
-/
namespace Go.Proofs.Ythkhfljoflffpaa
open Go Go.RowKit

theorem only_set2 (w : World) (p : Nat) (x y : Value) : Only p w ((w.setCell ⟨p, 0, none⟩ x).setCell ⟨p, 1, none⟩ y) := (Only.setCell w p 0 x).trans (Only.setCell _ p 1 y)
/-- The deferred function, where the frame panics. -/
theorem dsCatch_pan (p : Nat) (u : TypeId) (pv x y : Value) (w : World) (hT : Tl w p x y) :
    CallsD Try.prog 17 #[.pointer (some ⟨p, 0, none⟩)] (.panicking [{ v := .iface u pv, recovered := false }]) w fun e u' w' =>
      e = .returned (.tuple #[]) ∧ u' = .panicking [{ v := .iface u pv, recovered := true }] ∧ Only p w w' ∧ Tl w' p (.bool false) (.slice none 0 0) := by
  have c0 := hT.c0
  have c1 := hT.c1
  have f0 := hT.fr 0
  have f1 := hT.fr 1
  have K := hide ((hT.set0 (.bool false)).set1 (.slice none 0 0))
  have O := hide (only_set2 w p (.bool false) (.slice none 0 0))
  clear hT
  refine callsD_of_wpS Try.func17 rfl fun c₀ cs hu => ?_
  apply wpS_seq
  apply wpS_region
  simp [wpOpsS, go_sem, recoverD, hu, Try.ntmps17, Exit.thenS]
  refine wpS_cond (t := true) (by simp [Act.eval, Array.replicate]) ?_
  simp only [if_true]
  refine wpS_of_wp ?_
  go_wp2
  exact ⟨rfl, _, rfl, .tuple #[], by simp [results, Try.results17, go_sem], rfl, rfl, O.out, K.out⟩

theorem dsCatch_idle (p : Addr) (w : World) :
    CallsD Try.prog 17 #[.pointer (some p)] .returning w fun e u' w' => e = .returned (.tuple #[]) ∧ u' = .returning ∧ w' = w := by
  refine callsD_of_wpS Try.func17 rfl fun c₀ cs hu => ?_
  apply wpS_seq
  apply wpS_region
  simp [wpOpsS, go_sem, recoverD, hu, Try.ntmps17, Exit.thenS]
  refine wpS_cond (t := false) (by simp [Act.eval, Array.replicate]) ?_
  simp only [Bool.false_eq_true, if_false]
  refine wpS_of_wp (wp_skip ?_)
  cases c₀
  simp_all [bodyPostS, results, Try.results17]

/-- A truth and a row of items that the call made. -/
def NewI (B : Nat) (w' : World) (e : Ending) (o : Option (List (Int × List Int))) : Prop :=
  ∃ v bs, e = .returned (.agg #[.bool o.isSome, v]) ∧ IRow w' B v (o.getD []) bs

set_option maxHeartbeats 2000000 in
theorem implDecodeItems_any (w : World) (g : Nat) (a : Option Addr) (c : Nat) (xs : List Int) (hr : Rd w g a .u8 xs) (hb : Byt xs) (hc0 : a = none → c = 0) (hc : xs.length ≤ c) (hn : xs.length ≤ 1048576) :
    Calls Try.prog 8 #[.slice a xs.length c] w fun e w' => NewI w.heap.size w' e (itsF xs 1000 0) ∧ Below w.heap.size w w' := by
  have hmf : ∀ (fn : Fn) (first cap : Array Value) (w : World), (Instr.makeFunc fn first cap).run Try.prog w = .ok (.func fn first cap) w := fun _ _ _ _ => rfl
  have n0 : Below w.heap.size w (w.alloc (.cells #[.bool false, .slice none 0 0] 32)) := (Below.refl _ _).alloc (Nat.le_refl _) _
  have T0 := Tl.new w (.bool false) (.slice none 0 0) 32
  have z0 : (w.alloc (.cells #[.bool false, .slice none 0 0] 32)).heap.size = w.heap.size + 1 := by simp
  have n1 : Below w.heap.size w ((w.alloc (.cells #[.bool false, .slice none 0 0] 32)).alloc (.cells #[.slice a xs.length c, .int .i64 0] 47)) := n0.alloc (by simp) _
  have T1 := T0.up ((Below.refl _ _).alloc (Nat.le_refl _) (.cells #[.slice a xs.length c, .int .i64 0] 47))
  have C1 := cur_new (w.alloc (.cells #[.bool false, .slice none 0 0] 32)) (.slice a xs.length c) 0 47
  rw [z0] at C1
  have z1 : w.heap.size + 1 < ((w.alloc (.cells #[.bool false, .slice none 0 0] 32)).alloc (.cells #[.slice a xs.length c, .int .i64 0] 47)).heap.size := by simp
  clear z0 n0 T0
  have IT : Hid (∀ W, Cur W (w.heap.size + 1) (.slice a xs.length c) 0 → Below w.heap.size w W → Calls Try.prog 18 #[.pointer (some ⟨w.heap.size + 1, 0, none⟩)] W fun e w' => ((∃ its bs v, itsF xs 1000 0 = some its ∧ e = .returned v ∧ IRow w' W.heap.size v its bs) ∨ (itsF xs 1000 0 = none ∧ Pan e)) ∧ Kp (w.heap.size + 1) W w') := fun W hC hN => items_any W (w.heap.size + 1) g a c xs hC (hr.up hN) hb (fun h => by have := hr.lt h; omega) hc0 hc hn
  go_enter_defers Try.func8, Try.ntmps8
  go_wp2_with fail
  generalize (w.alloc (.cells #[.bool false, .slice none 0 0] 32)).alloc (.cells #[.slice a xs.length c, .int .i64 0] 47) = W1 at *
  refine (IT.out W1 C1 n1).mono ?_
  rintro r w2 ⟨⟨its, bs, v, h1, rfl, R2⟩ | ⟨h1, t, v, rfl⟩, K2⟩
  · obtain ⟨ra, rc, ev, -⟩ := R2.slice
    have N2 : Below w.heap.size w w2 := n1.trans (K2.below (by omega) (by omega))
    have T2 := T1.kp K2 (by omega)
    have c0 := T2.c0
    have c1 := T2.c1
    have f0 := T2.fr 0
    have f1 := T2.fr 1
    have T4 := hide ((T2.set0 (.bool true)).set1 v)
    have O4 := only_set2 w2 w.heap.size (.bool true) v
    have N4 := hide (N2.trans (O4.below (Nat.le_refl _)))
    have R4 := hide (R2.of (w' := (w2.setCell ⟨w.heap.size, 0, none⟩ (.bool true)).setCell ⟨w.heap.size, 1, none⟩ v) (fun k hk hB => O4.block k (by omega)))
    have H1 := hide h1
    have NI : Hid (∀ W, IRow W W1.heap.size v its bs → NewI w.heap.size W (.returned (.agg #[.bool true, v])) (some its)) := fun W R => ⟨v, bs, rfl, ⟨⟨R.o.1, by
      rcases R.o.2 with h' | ⟨g, cap, cur, e1, hbg, h3⟩
      · exact .inl h'
      · exact .inr ⟨g, cap, cur, e1, by omega, h3⟩⟩, R.l, R.b, fun i hi h0 => ⟨by have := (R.h i hi h0).1; omega, (R.h i hi h0).2⟩, R.d⟩⟩
    clear h1 IT O4 R2 N2 T2 K2 T1 C1 n1
    generalize its.length = m at ev
    subst ev
    go_wp2
    refine leaves_cons (f := 17) (args := #[.pointer (some ⟨w.heap.size, 0, none⟩)]) (by simp) (by simp [go_sem]) ?_
    refine (dsCatch_idle _ _).mono ?_
    rintro e u' w5 ⟨rfl, rfl, h4⟩
    have h4 := h4.symm
    subst h4
    refine ⟨.agg #[.bool true, .slice ra m rc], ?_, ?_⟩
    · simp [results, Try.results8, go_sem, T4.out.c0, T4.out.c1]
    · rw [H1.out]
      exact ⟨NI.out _ R4.out, N4.out⟩
  · have N2 : Below w.heap.size w w2 := n1.trans (K2.below (by omega) (by omega))
    have T2 := T1.kp K2 (by omega)
    have H1 := hide h1
    clear h1 IT
    go_wp2
    refine leaves_cons (f := 17) (args := #[.pointer (some ⟨w.heap.size, 0, none⟩)]) (by simp) (by simp [go_sem]) ?_
    refine (dsCatch_pan w.heap.size t v _ _ w2 T2).mono ?_
    rintro e u' w4 ⟨rfl, rfl, O4, T4⟩
    refine ⟨.agg #[.bool false, .slice none 0 0], ?_, ?_⟩
    · simp [results, Try.results8, go_sem, T4.c0, T4.c1]
    · rw [H1.out]
      exact ⟨⟨_, [], rfl, IRow.nil _ _⟩, N2.trans (O4.below (Nat.le_refl _))⟩
end Go.Proofs.Ythkhfljoflffpaa

/-
  The model's DecodeItems.
-/
namespace Go.Proofs.Ythkhfljoflffpaa
open Go Go.RowKit

theorem itZ_nat (xs : List Int) (k : Nat) : itZ xs (k : Int) = itA xs k := by
  unfold itZ
  rw [if_pos (by omega)]
  rfl
theorem IRow.below {w w' : World} {B C : Nat} {v : Value} {its : List (Int × List Int)} {bs : List Plc} (h : IRow w B v its bs) (n : Below w.heap.size w w') (hC : C ≤ B) : IRow w' C v its bs := by
  have R := h.of (w' := w') (fun k hk _ => n.block k hk)
  exact ⟨⟨R.o.1, by
      rcases R.o.2 with h' | ⟨g, cap, cur, e1, hbg, h3⟩
      · exact .inl h'
      · exact .inr ⟨g, cap, cur, e1, by omega, h3⟩⟩, R.l, R.b, fun i hi h0 => ⟨by have := (R.h i hi h0).1; omega, (R.h i hi h0).2⟩, R.d⟩

end Go.Proofs.Ythkhfljoflffpaa

/-
  The laws' helpers on what DecodeItem answers.
-/
namespace Go.Proofs.Ythkhfljoflffpaa
open Go Go.RowKit

theorem NewT.at {B B' : Nat} {w : World} {e : Ending} {b : Bool} {t n : Int} {ys : List Int} (h : NewT B w e b t ys n) (h1 : B' ≤ B) (h2 : B' < w.heap.size) :
    ∃ (a : Option Addr) (c g : Nat), e = .returned (.agg #[.bool b, .int .i64 t, .slice a ys.length c, .int .i64 n]) ∧ Own w g a .u8 ys ∧ B' ≤ g ∧ g < w.heap.size ∧ (0 < ys.length → B ≤ g) := by
  obtain ⟨a, c, g, he, o, _, _, hg⟩ := h
  by_cases h0 : 0 < ys.length
  · exact ⟨a, c, g, he, o, by omega, o.rd.lt h0, fun _ => hg⟩
  · obtain rfl : ys = [] := List.eq_nil_of_length_eq_zero (by omega)
    exact ⟨a, c, B', he, Own.nil _ _ _ _, Nat.le_refl _, h2, fun h => absurd h (by simp)⟩
theorem dbT_len (xs : List Int) (o : Option (Int × Nat × Nat)) : (dbT xs o).length ≤ xs.length := by
  unfold dbT
  split
  · rw [List.length_take, List.length_drop]; omega
  · simp
end Go.Proofs.Ythkhfljoflffpaa

/-
  The law's own helpers on rows of items: eqItem, eqItemS, eqItemList.
-/
namespace Go.Proofs.Ythkhfljoflffpaa
open Go Go.RowKit

end Go.Proofs.Ythkhfljoflffpaa

/-
  The law's own helpers on rows of items: markItemS, heldItemS.
-/
namespace Go.Proofs.Ythkhfljoflffpaa
open Go Go.RowKit

/-- The number that an item's tag is marked with. -/
def psI (its : List (Int × List Int)) (n : Int) : Nat → Int
  | 0 => n
  | k + 1 => psI its n k + 1 + ((its.getD k (0, [])).2.length : Int)
theorem psI_bd {its : List (Int × List Int)} {n : Int} (h0 : 0 ≤ n) (hn : ∀ i, i < its.length → (its.getD i (0, [])).2.length ≤ 1048576) : ∀ k, k ≤ its.length → 0 ≤ psI its n k ∧ psI its n k ≤ n + (k : Int) * 1048577
  | 0, _ => by simp [psI, h0]
  | k + 1, h => by
    have := psI_bd h0 hn k (by omega)
    have := hn k (by omega)
    simp only [psI]
    omega
/-- What lies below B and from M on has not turned. -/
structure Btw (B M : Nat) (w w' : World) : Prop where
  os : w'.os = w.os
  tape : w'.tape = w.tape
  output : w'.output = w.output
  size : w'.heap.size = w.heap.size
  block : ∀ k, k < B ∨ M ≤ k → w'.heap[k]? = w.heap[k]?
theorem Btw.refl (B M : Nat) (w : World) : Btw B M w w := ⟨rfl, rfl, rfl, rfl, fun _ _ => rfl⟩
theorem Btw.trans {B M : Nat} {a b c : World} (h : Btw B M a b) (k : Btw B M b c) : Btw B M a c := ⟨k.os.trans h.os, k.tape.trans h.tape, k.output.trans h.output, k.size.trans h.size, fun i hi => (k.block i hi).trans (h.block i hi)⟩
theorem Btw.only {B M p : Nat} {a b c : World} (h : Btw B M a b) (k : Only p b c) (h1 : B ≤ p) (h2 : p < M) : Btw B M a c := h.trans ⟨k.os, k.tape, k.output, k.size, fun i hi => k.block i (by omega)⟩
theorem Btw.drew {B M : Nat} {a b : World} (h : Btw B M a b) (n : Nat) : Btw B M a (b.drewN n) := ⟨h.os, h.tape, h.output, h.size, h.block⟩
/-- One item as it is marked. -/
def MkP (w : World) (g : Nat) (its : List (Int × List Int)) (bs : List Plc) (n : Int) (i : Nat) : Prop :=
  w.cell? ⟨g, i * 2, none⟩ = some (.int .i64 (psI its n i)) ∧ w.cell? ⟨g, i * 2 + 1, none⟩ = some (.slice (bs.getD i plc0).a (its.getD i (0, [])).2.length (bs.getD i plc0).c) ∧ Own w (bs.getD i plc0).q (bs.getD i plc0).a .u8 (marks (psI its n i + 1) (its.getD i (0, [])).2.length)
/-- .. and as it is not yet. -/
def MkQ (w : World) (g : Nat) (its : List (Int × List Int)) (bs : List Plc) (i : Nat) : Prop :=
  w.cell? ⟨g, i * 2, none⟩ = some (.int .i64 (its.getD i (0, [])).1) ∧ w.cell? ⟨g, i * 2 + 1, none⟩ = some (.slice (bs.getD i plc0).a (its.getD i (0, [])).2.length (bs.getD i plc0).c) ∧ Own w (bs.getD i plc0).q (bs.getD i plc0).a .u8 (its.getD i (0, [])).2
theorem own_any {w w' : World} {g : Nat} {a : Option Addr} {xs : List Int} (h : Own w g a .u8 xs) (hb : 0 < xs.length → w'.heap[g]? = w.heap[g]?) : Own w' g a .u8 xs := fun h0 => h.of_block (hb h0) h0
theorem MkP.keep {w w' : World} {g : Nat} {its : List (Int × List Int)} {bs : List Plc} {n : Int} {i : Nat} (h : MkP w g its bs n i) (h1 : w'.cell? ⟨g, i * 2, none⟩ = w.cell? ⟨g, i * 2, none⟩) (h2 : w'.cell? ⟨g, i * 2 + 1, none⟩ = w.cell? ⟨g, i * 2 + 1, none⟩) (h3 : 0 < (its.getD i (0, [])).2.length → w'.heap[(bs.getD i plc0).q]? = w.heap[(bs.getD i plc0).q]?) : MkP w' g its bs n i :=
  ⟨h1.trans h.1, h2.trans h.2.1, own_any h.2.2 (fun h0 => h3 (by rwa [marks_len] at h0))⟩
theorem MkQ.keep {w w' : World} {g : Nat} {its : List (Int × List Int)} {bs : List Plc} {i : Nat} (h : MkQ w g its bs i) (h1 : w'.cell? ⟨g, i * 2, none⟩ = w.cell? ⟨g, i * 2, none⟩) (h2 : w'.cell? ⟨g, i * 2 + 1, none⟩ = w.cell? ⟨g, i * 2 + 1, none⟩) (h3 : 0 < (its.getD i (0, [])).2.length → w'.heap[(bs.getD i plc0).q]? = w.heap[(bs.getD i plc0).q]?) : MkQ w' g its bs i :=
  ⟨h1.trans h.1, h2.trans h.2.1, own_any h.2.2 h3⟩
/-- The whole row, marked. -/
def Mkd (w : World) (v : Value) (its : List (Int × List Int)) (bs : List Plc) (n : Int) : Prop := ∀ g c, v = .slice (some ⟨g, 0, none⟩) its.length c → ∀ i, i < its.length → MkP w g its bs n i
theorem Mkd.up {w w' : World} {v : Value} {its : List (Int × List Int)} {bs : List Plc} {n : Int} (h : Mkd w v its bs n) (N : Below w.heap.size w w') : Mkd w' v its bs n := fun g c e i hi => by
  have P := h g c e i hi
  have hg : g < w.heap.size := block_lt_of_cell P.1
  exact P.keep (World.cell?_of_block (a := ⟨g, i * 2, none⟩) (N.block g hg)) (World.cell?_of_block (a := ⟨g, i * 2 + 1, none⟩) (N.block g hg)) (fun h0 => N.block _ (P.2.2.rd.lt (by rw [marks_len]; exact h0)))

/-- A row's slice, as the marks' helpers want it. -/
theorem IRow.shape {w : World} {B : Nat} {v : Value} {its : List (Int × List Int)} {bs : List Plc} (h : IRow w B v its bs) : ∃ a c, v = .slice a its.length c ∧ (0 < its.length → ∃ g, a = some ⟨g, 0, none⟩) := by
  by_cases h0 : 0 < its.length
  · obtain ⟨g, c, e, -⟩ := h.cells h0
    exact ⟨_, c, e, fun _ => ⟨g, rfl⟩⟩
  · obtain ⟨a, c, e, -⟩ := h.slice
    exact ⟨a, c, e, fun h1 => absurd h1 h0⟩
end Go.Proofs.Ythkhfljoflffpaa

/-
  The law of DecodeItems (written by gens/irg.py).
-/
namespace Go.Proofs.Ythkhfljoflffpaa
open Go Go.RowKit

theorem itsF_bd {xs : List Int} : ∀ (f i : Nat) (its : List (Int × List Int)), itsF xs f i = some its → its.length ≤ f ∧ ∀ x ∈ its, x.2.length ≤ xs.length
  | 0, i, its, h => by
    unfold itsF at h
    split at h
    · obtain rfl := Option.some.inj h
      simp
    · cases h
  | f + 1, i, its, h => by
    unfold itsF at h
    split at h
    · obtain rfl := Option.some.inj h
      simp
    · split at h
      · cases h
      · rename_i t s n hi
        cases hr : itsF xs f (s + n) with
        | none => rw [hr] at h; cases h
        | some l =>
          rw [hr] at h
          obtain rfl := Option.some.inj h
          have := itsF_bd f (s + n) l hr
          refine ⟨by simp; omega, fun x hx => ?_⟩
          rcases List.mem_cons.1 hx with rfl | hx
          · show ((xs.drop s).take n).length ≤ _
            rw [List.length_take, List.length_drop]
            omega
          · exact this.2 x hx
theorem its_bd (xs : List Int) (hx : xs.length ≤ 1048576) : ((itsF xs 1000 0).getD []).length ≤ 1000 ∧ ∀ i, i < ((itsF xs 1000 0).getD []).length → (((itsF xs 1000 0).getD []).getD i (0, [])).2.length ≤ 1048576 := by
  cases h : itsF xs 1000 0 with
  | none => simp
  | some l =>
    have := itsF_bd 1000 0 l h
    refine ⟨this.1, fun i hi => ?_⟩
    have hi' : i < l.length := hi
    have hm : (l.getD i (0, [])) ∈ l := by simp [hi']
    exact Nat.le_trans (this.2 _ hm) hx
/-- A row between two places of memory. -/
structure IRm (w : World) (B M : Nat) (v : Value) (its : List (Int × List Int)) (bs : List Plc) : Prop where
  r : IRow w B v its bs
  o : ∀ k, v.ownBlock = some k → k < M
  q : ∀ i, i < its.length → 0 < (its.getD i (0, [])).2.length → (bs.getD i plc0).q < M
theorem IRow.m {w : World} {B : Nat} {v : Value} {its : List (Int × List Int)} {bs : List Plc} (h : IRow w B v its bs) : IRm w B w.heap.size v its bs := ⟨h, fun k hk => (h.o.lt k hk).2, fun _ hi h0 => h.lt hi h0⟩
theorem IRm.keep {w w' : World} {B M : Nat} {v : Value} {its : List (Int × List Int)} {bs : List Plc} (h : IRm w B M v its bs) (hb : ∀ k, B ≤ k → k < M → w'.heap[k]? = w.heap[k]?) : IRm w' B M v its bs := by
  refine ⟨⟨⟨h.r.o.1, ?_⟩, h.r.l, fun i hi => ?_, h.r.h, h.r.d⟩, h.o, h.q⟩
  · rcases h.r.o.2 with h' | ⟨g, cap, cur, rfl, hbg, hg, hnc, hcm, hcs, ht⟩
    · exact .inl h'
    · exact .inr ⟨g, cap, cur, rfl, hbg, by rw [hb g hbg (h.o g rfl)]; exact hg, hnc, hcm, hcs, ht⟩
  · exact (h.r.b i hi).of fun h0 => hb _ (h.r.h i hi h0).1 (h.q i hi h0)
theorem IRm.up {w w' : World} {B M : Nat} {v : Value} {its : List (Int × List Int)} {bs : List Plc} (h : IRm w B M v its bs) (n : Below w.heap.size w w') (hM : M ≤ w.heap.size) : IRm w' B M v its bs := h.keep (fun k _ hk => n.block k (by omega))
theorem NewI.at {B : Nat} {w : World} {e : Ending} {o : Option (List (Int × List Int))} (h : NewI B w e o) : ∃ a c bs, e = .returned (.agg #[.bool o.isSome, .slice a (o.getD []).length c]) ∧ IRm w B w.heap.size (.slice a (o.getD []).length c) (o.getD []) bs := by
  obtain ⟨v, bs, he, R⟩ := h
  obtain ⟨a, c, rfl, -⟩ := R.slice
  exact ⟨a, c, bs, he, R.m⟩
theorem Btw.tl {B M p : Nat} {w w' : World} {x y : Value} (n : Btw B M w w') (h : Tl w p x y) (hp : p < B ∨ M ≤ p) : Tl w' p x y := h.of_block (n.block p hp)
theorem Btw.below {B M C : Nat} {w w' : World} (n : Btw B M w w') (h : C ≤ B) : Below C w w' := ⟨n.os, n.tape, n.output, Nat.le_of_eq n.size.symm, fun k hk => n.block k (by omega)⟩

end Go.Proofs.Ythkhfljoflffpaa

/-
  A list of bytes and a row of items that grow side by side.
-/
namespace Go.Proofs.Ythkhfljoflffpaa
open Go Go.RowKit

theorem append_anyI {P : Program} (w : World) (ty : TypeId) (i : TypeInfo) (ht : P.underlying 22 = some (.slice 5)) (hi : P.info? 5 = some i) (hz : i.zero = some (.int .u8 0)) (hsize : i.size = 1) (hby : i.bytes = 1)
    (base : Nat) (v : Value) (xs : List Int) (hown : RowB w base v xs) (g o c : Nat) (us : List Int) (hr : Rd w g (some ⟨g, o, none⟩) .u8 us) (hl : xs.length + us.length ≤ 1099511627776) (hbase : base ≤ w.heap.size) :
    ∃ v' w', (Builtin.append_ #[22, 22] ty #[v, .slice (some ⟨g, o, none⟩) us.length c]).run P w = .ok v' w' ∧ RowB w' base v' (xs ++ us) ∧ w.grownBy w' v.ownBlock ∧ (v'.ownBlock = v.ownBlock ∨ v'.ownBlock = some w.heap.size) := by
  have hcell : ∀ j u, (us.map (Value.int .u8))[j]? = some u → w.cell? ((⟨g, o, none⟩ : Addr).add j) = some u := by
    intro j u hj
    have hjl : j < us.length := by
      have := (List.getElem?_eq_some_iff.1 hj).1
      simpa using this
    obtain ⟨off, ha, hcc⟩ := hr (by omega)
    simp only [Option.some.injEq, Addr.mk.injEq, and_true, true_and] at ha
    subst ha
    rw [Addr.add_mid, hcc j hjl]
    simpa [hjl] using hj
  have hone : ∀ u ∈ us.map (Value.int .u8), u.oneCell' = true := by
    intro u hu
    obtain ⟨x, _, rfl⟩ := List.mem_map.1 hu
    rfl
  obtain ⟨v', w', h1, h2, h3, _, h5⟩ := run_append_own_at (P := P) w base 22 ty 5 i (.int .u8 0) 1 1 ht hi hz hsize hby rfl (by decide) v xs.length (xs.map (Value.int .u8)) hown ⟨g, o, none⟩ us.length c (us.map (Value.int .u8)) (by simp) hcell hone (by unfold maxLen; omega) (by omega) hbase
  refine ⟨v', w', h1, ?_, h3, h5⟩
  show w'.ownsRow base 5 1 v' (xs ++ us).length ((xs ++ us).map (Value.int .u8))
  rw [List.length_append, List.map_append]
  exact h2

/-- Where the longer row of items lies. -/
theorem IRow.app_at {w : World} {B : Nat} {v : Value} {its : List (Int × List Int)} {bs : List Plc} (h : IRow w B v its bs) (x : Int × List Int) (q : Plc) (hB : B ≤ w.heap.size) (hl : its.length ≤ 100000) {v' : Value} {w' : World}
    (he : (Builtin.append_ #[23, 23] 23 #[v, .slice (some ⟨w.heap.size, 0, none⟩) 1 1]).run Try.prog (w.alloc (.cells #[.int .i64 x.1, .slice q.a x.2.length q.c] 30)) = .ok v' w') :
    v'.ownBlock = v.ownBlock ∨ v'.ownBlock = some (w.heap.size + 1) := by
  obtain ⟨i, hi, hz, hs, hby⟩ := info_parts iInfo
  have na : Below w.heap.size w (w.alloc (.cells #[.int .i64 x.1, .slice q.a x.2.length q.c] 30)) := (Below.refl _ _).alloc (Nat.le_refl _) _
  have h0 : (w.alloc (.cells #[.int .i64 x.1, .slice q.a x.2.length q.c] 30)).ownsRow B 30 2 v its.length (itCs its bs) := h.o.alloc _
  have hcell : ∀ j u, (itC x q)[j]? = some u → (w.alloc (.cells #[.int .i64 x.1, .slice q.a x.2.length q.c] 30)).cell? ((⟨w.heap.size, 0, none⟩ : Addr).add j) = some u := by
    intro j u hj
    have e : (w.alloc (.cells #[.int .i64 x.1, .slice q.a x.2.length q.c] 30)).heap[w.heap.size]? = some (.cells #[.int .i64 x.1, .slice q.a x.2.length q.c] 30) := heap_alloc_new w _
    rw [Addr.add_mid, Nat.zero_add, cell_of_row _ _ j _ _ (0, 0) e]
    simpa [itC] using hj
  obtain ⟨v2, w2, h1, -, -, -, h5⟩ := run_append_own_at (P := Try.prog) (w.alloc (.cells #[.int .i64 x.1, .slice q.a x.2.length q.c] 30)) B 23 23 30 i (.agg #[.int .i64 0, .slice none 0 0]) 2 32 iUnd hi hz hs hby rfl (by decide) v its.length (itCs its bs) h0 ⟨w.heap.size, 0, none⟩ 1 1 (itC x q) (by simp [itC]) hcell (fun u hu => by
    simp only [itC, List.mem_cons, List.not_mem_nil, or_false] at hu
    rcases hu with rfl | rfl <;> rfl) (by unfold maxLen; omega) (by omega) (Nat.le_trans hB na.size)
  have e := h1.symm.trans he
  injection e with e1 e2
  subst e1
  have z : (w.alloc (.cells #[.int .i64 x.1, .slice q.a x.2.length q.c] 30)).heap.size = w.heap.size + 1 := by simp
  rw [z] at h5
  exact h5
theorem IRow.lit0 (w : World) (B : Nat) (hB : B ≤ w.heap.size) : IRow (w.alloc (.cells #[] 30)) B (.slice (some ⟨w.heap.size, 0, none⟩) 0 0) [] [] :=
  ⟨World.ownsRow_lit w #[] 0 hB (by unfold maxLen; omega) (by simp), rfl, fun i h => absurd h (by simp), fun i h => absurd h (by simp), fun i j h => absurd h (by simp)⟩

structure Two (w : World) (B : Nat) (va : Value) (all : List Int) (vw : Value) (its : List (Int × List Int)) (bs : List Plc) : Prop where
  r : RowB w B va all
  i : IRow w B vw its bs
  s : ∀ k, va.ownBlock = some k → vw.ownBlock ≠ some k ∧ ∀ j, j < its.length → 0 < (its.getD j (0, [])).2.length → (bs.getD j plc0).q ≠ k
theorem Two.up {w w' : World} {B : Nat} {va vw : Value} {all : List Int} {its : List (Int × List Int)} {bs : List Plc} (h : Two w B va all vw its bs) (n : Below w.heap.size w w') : Two w' B va all vw its bs :=
  ⟨h.r.up n, h.i.of (fun k hk _ => n.block k hk), h.s⟩
theorem Two.all {w : World} {B : Nat} {va vw : Value} {all : List Int} {its : List (Int × List Int)} {bs : List Plc} (h : Two w B va all vw its bs) (ty : TypeId) (g o c : Nat) (us : List Int) (hr : Rd w g (some ⟨g, o, none⟩) .u8 us) (hl : all.length + us.length ≤ 1099511627776) (hB : B ≤ w.heap.size) :
    ∃ va' w', (Builtin.append_ #[22, 22] ty #[va, .slice (some ⟨g, o, none⟩) us.length c]).run Try.prog w = .ok va' w' ∧ Two w' B va' (all ++ us) vw its bs ∧ Below B w w' ∧ (∀ k, k < w.heap.size → va.ownBlock ≠ some k → w'.heap[k]? = w.heap[k]?) ∧ (va'.ownBlock = va.ownBlock ∨ va'.ownBlock = some w.heap.size) := by
  obtain ⟨i0, hi, hz0, hz1, hz2⟩ := info_parts Try.info5
  obtain ⟨va', w', h1, h2, h3, h4⟩ := append_anyI (P := Try.prog) w ty i0 Try.underlying22 hi hz0 hz1 hz2 B va all h.r g o c us hr hl hB
  have keep : ∀ k, k < w.heap.size → va.ownBlock ≠ some k → w'.heap[k]? = w.heap[k]? := fun k hk hne => h3.block k hk (fun e => hne e.symm)
  have hI : IRow w' B vw its bs := by
    refine ⟨⟨h.i.o.1, ?_⟩, h.i.l, fun i hi => ?_, h.i.h, h.i.d⟩
    · rcases h.i.o.2 with h' | ⟨g, cap, cur, rfl, hbg, hg, hnc, hcm, hcs, ht⟩
      · exact .inl h'
      · exact .inr ⟨g, cap, cur, rfl, hbg, by rw [keep g ((Array.getElem?_eq_some_iff.1 hg).1) (fun e => (h.s g e).1 rfl)]; exact hg, hnc, hcm, hcs, ht⟩
    · exact (h.i.b i hi).of fun h0 => keep _ (h.i.lt hi h0) (fun e => (h.s _ e).2 i hi h0 rfl)
  refine ⟨va', w', h1, ⟨h2, hI, fun k hk => ?_⟩, (Below.refl B w).grown h3 hB (fun k hk => (World.ownsRow.lt h.r k hk).1), keep, h4⟩
  rcases h4 with h4 | h4
  · exact h.s k (by rw [← h4]; exact hk)
  · have ek : k = w.heap.size := by rw [h4] at hk; exact (Option.some.inj hk).symm
    subst ek
    refine ⟨fun e => ?_, fun j hj h0 e => ?_⟩
    · have := (World.ownsRow.lt h.i.o _ e).2
      omega
    · have := h.i.lt hj h0
      omega
theorem Two.item {w : World} {B : Nat} {va vw : Value} {all : List Int} {its : List (Int × List Int)} {bs : List Plc} (h : Two w B va all vw its bs) (x : Int × List Int) (q : Plc) (hB : B ≤ w.heap.size) (hq : Lie w x.2 q) (M : Nat) (hBM : B ≤ M) (hM1 : ∀ i, i < its.length → 0 < (its.getD i (0, [])).2.length → (bs.getD i plc0).q < M) (hM2 : ∀ k, vw.ownBlock = some k → k < M) (hqM : M ≤ q.q) (hqa : va.ownBlock ≠ some q.q) (hl : its.length ≤ 1000) :
    ∃ vw' w', (Builtin.append_ #[23, 23] 23 #[vw, .slice (some ⟨w.heap.size, 0, none⟩) 1 1]).run Try.prog (w.alloc (.cells #[.int .i64 x.1, .slice q.a x.2.length q.c] 30)) = .ok vw' w' ∧ Two w' B va all vw' (its ++ [x]) (bs ++ [q]) ∧ Below B w w' := by
  obtain ⟨vw', w', h1, h2, h3, h4⟩ := h.i.app x q hB hq M hBM hM1 hM2 hqM (by omega)
  have h5 := h.i.app_at x q hB (by omega) h1
  have hR : RowB w' B va all := by
    refine ⟨h.r.1, ?_⟩
    rcases h.r.2 with h' | ⟨g, cap, cur, rfl, hbg, hg, hr⟩
    · exact .inl h'
    · exact .inr ⟨g, cap, cur, rfl, hbg, by rw [h3 g ((Array.getElem?_eq_some_iff.1 hg).1) (h.s g rfl).1]; exact hg, hr⟩
  refine ⟨vw', w', h1, ⟨hR, h2, fun k hk => ?_⟩, h4⟩
  have hk' := (World.ownsRow.lt h.r k hk).2
  refine ⟨fun e => ?_, fun j hj h0 e => ?_⟩
  · rcases h5 with h5 | h5
    · rw [h5] at e
      exact (h.s k hk).1 e
    · rw [h5] at e
      have := Option.some.inj e
      omega
  · by_cases hj' : j < its.length
    · have hb : j < bs.length := by rw [h.i.l]; exact hj'
      have A1 : (bs ++ [q]).getD j plc0 = bs.getD j plc0 := by simp [List.getD, List.getElem?_append_left hb]
      have A2 : (its ++ [x]).getD j (0, []) = its.getD j (0, []) := by simp [List.getD, List.getElem?_append_left hj']
      rw [A2] at h0
      rw [A1] at e
      exact (h.s k hk).2 j hj' h0 e
    · have ej : j = its.length := by simp at hj; omega
      subst ej
      have A3 : (bs ++ [q]).getD its.length plc0 = q := by rw [← h.i.l]; simp
      rw [A3] at e
      exact hqa (by rw [e]; exact hk)
end Go.Proofs.Ythkhfljoflffpaa

/-
  What is drawn out of a code with one byte more than a law takes (DrL, DrQ, IbD, IbE with a greater bound).
-/
namespace Go.Proofs.Ythkhfljoflffpaa
open Go Go.RowKit

set_option maxHeartbeats 2000000 in
theorem l1NextX_any (w : World) (s g : Nat) (a : Option Addr) (c : Nat) (xs : List Int) (t n : Int) (hs : Src w s a xs.length c t) (hr : Rd w g a .u8 xs) (hne : 0 < xs.length → g ≠ s) (hb : Byt xs) (hl : xs.length ≤ 4194304)
    (t0 : 0 ≤ t) (t1 : t ≤ 1048576) (n0 : 1 ≤ n) (n1 : n ≤ 1048576) :
    Calls Try.prog 21 #[.pointer (some ⟨s, 0, none⟩), .int .i64 n] w fun e w' => ∃ r, e = .returned (.int .i64 r) ∧ (0 ≤ r ∧ r < n) ∧ Src w' s a xs.length c (t + 1) ∧ Only s w w' := by
  have c0 := hs.code
  have c1 := hs.at_
  have f1 := hs.free
  have k1 : (w.setCell ⟨s, 1, none⟩ (.int .i64 (t + 1))).cell? ⟨s, 1, none⟩ = some (.int .i64 (t + 1)) := World.cell?_setCell_same _ _ _ hs.at_
  have k0 : (w.setCell ⟨s, 1, none⟩ (.int .i64 (t + 1))).cell? ⟨s, 0, none⟩ = some (.slice a xs.length c) := by rw [World.cell?_setCell_other (h := by simp)]; exact hs.code
  have tn : decide (n < 1) = false := by simp; omega
  by_cases h0 : xs.length = 0
  · have hk : ((xs.length : Int) == 0) = true := by simp [h0]
    have r0 := Int.emod_nonneg (t * 7) (show n ≠ 0 by omega)
    have r1 := Int.emod_lt_of_pos (t * 7) (show 0 < n by omega)
    have S := hs.step (t + 1) 0
    have O := Only.step w s (.int .i64 (t + 1)) 0
    clear h0
    go_enter Try.func21, Try.ntmps21
    go_wp2
    go_ret
    exact ⟨_, rfl, ⟨r0, r1⟩, S, O⟩
  · have hk : ((xs.length : Int) == 0) = false := beq_eq_false_iff_ne.2 (by omega)
    obtain ⟨off, rfl, hc⟩ := hr (by omega)
    have gs : g ≠ s := hne (by omega)
    obtain ⟨i1, hi1⟩ := Int.eq_ofNat_of_zero_le (Int.emod_nonneg t (show (xs.length : Int) ≠ 0 by omega))
    have li1 : (i1 : Int) < (xs.length : Int) := by rw [← hi1]; exact Int.emod_lt_of_pos _ (by omega)
    obtain ⟨i2, hi2⟩ := Int.eq_ofNat_of_zero_le (Int.emod_nonneg (t + 1) (show (xs.length : Int) ≠ 0 by omega))
    have li2 : (i2 : Int) < (xs.length : Int) := by rw [← hi2]; exact Int.emod_lt_of_pos _ (by omega)
    obtain ⟨q, hq⟩ : ∃ q, t / (xs.length : Int) = q := ⟨_, rfl⟩
    have q0 : 0 ≤ q := by rw [← hq]; exact Int.ediv_nonneg t0 (by omega)
    have q1 : q ≤ 1048576 := by rw [← hq]; exact Int.le_trans (Int.ediv_le_self _ t0) t1
    have x1 : (w.setCell ⟨s, 1, none⟩ (.int .i64 (t + 1))).cell? ⟨g, off + i1, none⟩ = some (.int .u8 (xs.getD i1 0)) := by rw [World.cell?_setCell_other (h := fun e => gs (by simpa using (congrArg Addr.block e).symm))]; exact hc i1 (by omega)
    have x2 : (w.setCell ⟨s, 1, none⟩ (.int .i64 (t + 1))).cell? ⟨g, off + i2, none⟩ = some (.int .u8 (xs.getD i2 0)) := by rw [World.cell?_setCell_other (h := fun e => gs (by simpa using (congrArg Addr.block e).symm))]; exact hc i2 (by omega)
    have b1 := hb i1
    have b2 := hb i2
    have S := fun m => hs.step (t + 1) m
    have O := fun m => Only.step w s (.int .i64 (t + 1)) m
    generalize xs.getD i1 0 = x at *
    generalize xs.getD i2 0 = y at *
    clear hc hs hr h0
    by_cases hn : n ≤ 200
    · have tn2 : decide (200 < n) = false := by simp; omega
      have r0 := Int.emod_nonneg (x + q * 37) (show n ≠ 0 by omega)
      have r1 := Int.emod_lt_of_pos (x + q * 37) (show 0 < n by omega)
      clear x2 hi2 li2 b2
      go_enter Try.func21, Try.ntmps21
      go_wp2
      go_quiet (fail)
      go_wp2
      go_ret
      exact ⟨_, rfl, ⟨r0, r1⟩, S _, O _⟩
    · have tn2 : decide (200 < n) = true := by simp; omega
      have r0 := Int.emod_nonneg ((x + q * 37) * 251 + y * 13 + t) (show n ≠ 0 by omega)
      have r1 := Int.emod_lt_of_pos ((x + q * 37) * 251 + y * 13 + t) (show 0 < n by omega)
      go_enter Try.func21, Try.ntmps21
      go_wp2
      go_quiet (fail)
      go_wp2
      go_quiet (fail)
      go_wp2
      go_ret
      exact ⟨_, rfl, ⟨r0, r1⟩, S _, O _⟩

set_option maxHeartbeats 400000 in
theorem l1SourceX_any (w : World) (a : Option Addr) (n c : Nat) (hn : n ≤ 4194304) :
    Calls Try.prog 13 #[.slice a n c] w fun e w' => e = .returned (.pointer (some ⟨w.heap.size, 0, none⟩)) ∧ Src w' w.heap.size a n c 0 ∧ Below w.heap.size w w' := by
  by_cases h : 12 < (n : Int) / 16
  · have t1 : decide (12 < (n : Int) / 16) = true := by simp; omega
    go_enter Try.func13, Try.ntmps13
    go_wp2
    go_ret
    exact ⟨rfl, ⟨by simp [World.cell?_alloc_at], by simp [World.cell?_alloc_at], by simp [World.frozen?_alloc_at]⟩, (Below.refl _ _).alloc (Nat.le_refl _) _⟩
  · have t1 : decide (12 < (n : Int) / 16) = false := by simp; omega
    go_enter Try.func13, Try.ntmps13
    go_wp2
    go_ret
    exact ⟨rfl, ⟨by simp [World.cell?_alloc_at], by simp [World.cell?_alloc_at], by simp [World.frozen?_alloc_at]⟩, (Below.refl _ _).alloc (Nat.le_refl _) _⟩

set_option maxHeartbeats 400000 in
theorem l1ChanceX_any (w : World) (s g : Nat) (a : Option Addr) (c : Nat) (xs : List Int) (t n : Int) (hs : Src w s a xs.length c t) (hr : Rd w g a .u8 xs) (hne : 0 < xs.length → g ≠ s) (hb : Byt xs) (hl : xs.length ≤ 4194304)
    (t0 : 0 ≤ t) (t1 : t ≤ 1048576) (n0 : 1 ≤ n) (n1 : n ≤ 1048576) :
    Calls Try.prog 20 #[.pointer (some ⟨s, 0, none⟩), .int .i64 n] w fun e w' => ∃ b, e = .returned (.bool b) ∧ Src w' s a xs.length c (t + 1) ∧ Only s w w' := by
  go_enter Try.func20, Try.ntmps20
  go_wp2_with fail
  refine (l1NextX_any w s g a c xs t n hs hr hne hb hl t0 t1 n0 n1).mono ?_
  rintro e w1 ⟨r, rfl, _, S1, O1⟩
  go_wp2
  go_ret
  exact ⟨_, rfl, S1, O1⟩

set_option maxHeartbeats 2000000 in
theorem l1DrawBytesRX_any (w : World) (s g : Nat) (a : Option Addr) (c : Nat) (xs : List Int) (t : Int) (n : Nat) (hs : Src w s a xs.length c t) (hr : Rd w g a .u8 xs) (hne : 0 < xs.length → g ≠ s) (hb : Byt xs) (hl : xs.length ≤ 4194304)
    (t0 : 0 ≤ t) (t1 : t + (n : Int) ≤ 1048576) :
    Calls Try.prog 28 #[.pointer (some ⟨s, 0, none⟩), .int .i64 n] w fun e w' => ∃ ys, ys.length = n ∧ Byt ys ∧ (∃ v, e = .returned v ∧ RowB w' w.heap.size v ys) ∧ Src w' s a xs.length c (t + (n : Int)) ∧ But s w w' := by
  obtain ⟨i0, hi, hz0, hz1, hz2⟩ := info_parts Try.info5
  have hown0 : (w.alloc (.cells #[] 5)).ownsRow w.heap.size 5 1 (.slice (some ⟨w.heap.size, 0, none⟩) 0 0) 0 [] := World.ownsRow_lit w #[] 0 (Nat.le_refl _) (by unfold maxLen; omega) (by simp)
  have hal : Below w.heap.size w (w.alloc (.cells #[] 5)) := (Below.refl _ _).alloc (Nat.le_refl _) _
  have hsl := hs.lt
  go_enter Try.func28, Try.ntmps28
  go_wp2
  go_loopw [5, 6] (fun v i wr => ∃ (k : Nat) (ys : List Int), k ≤ n ∧ i = .int .i64 k ∧ Hid (ys.length = k) ∧ Byt ys ∧ wr.ownsRow w.heap.size 5 1 v k (ys.map (Value.int .u8)) ∧ Src wr s a xs.length c (t + (k : Int)) ∧ But s w wr) (fun _ i _ => n - (intOf i).toNat)
  case atStart => exact ⟨0, [], Nat.zero_le _, rfl, rfl, byt_nil, hown0, by simpa using hs.up hal, But.ofBelow hal⟩
  case round =>
    obtain ⟨k, ys, hk, rfl, hyl, hyb, hown, hS, hN⟩ := hrel
    have hr' := hr.but hN hne
    by_cases hlt : k < n
    · have hob := hown.lt
      go_wp2_with fail
      refine (l1NextX_any wr s g a c xs (t + (k : Int)) 256 hS hr' hne hb hl (by omega) (by omega) (by decide) (by decide)).mono ?_
      rintro e w1 ⟨r, rfl, ⟨r0, r1⟩, S1, O1⟩
      have N1 := hN.only O1
      have hown1 := hown.kept O1.grown (by
        cases hv : Value.ownBlock _ with
        | none => exact .inl rfl
        | some q => exact .inr (fun e => by have := (hob q hv).1; simp at e; omega))
      have m1 : r % 256 = r := by omega
      have sz := N1.size
      clear hown hS hN O1 hr'
      go_wp2_with (at_builtin; refine wpList_append_own _ rfl _ _ 22 rfl w.heap.size 5 i0 (.int .u8 0) 1 1 Try.underlying22 hi hz0 hz1 hz2 rfl (by decide) _ k (ys.map (Value.int .u8)) rfl (hown1.alloc _) ⟨w1.heap.size, 0, none⟩ 1 1 [.int .u8 r] rfl rfl ?c1 ?c2 ?c3 ?c4 ?c5 ?_)
      case c1 =>
        intro j u hj
        match j, hj with
        | 0, hj => simp at hj; subst hj; simp [Addr.add]
      case c2 => intro u hu; simp at hu; subst hu; rfl
      case c3 => unfold maxLen; omega
      case c4 => omega
      case c5 => simp; omega
      · intro v' w2 hown2 hgrow _
        have nA : But s w (w1.alloc (.cells #[.int .u8 r] 5)) := N1.trans (But.ofBelow ((Below.refl _ _).alloc (Nat.le_refl _) _))
        have N2 := nA.grown hgrow (fun i hi => (hob i hi).1)
        have S2 : Src w2 s a xs.length c (t + ((k + 1 : Nat) : Int)) := by
          have := (S1.up ((Below.refl _ _).alloc (Nat.le_refl _) (.cells #[.int .u8 r] 5))).of_block (hgrow.block s (by simp; omega) (fun e => by have := (hob s e.symm).1; omega))
          rw [show t + ((k + 1 : Nat) : Int) = t + (k : Int) + 1 by omega]
          exact this
        have hown3 : w2.ownsRow w.heap.size 5 1 v' (k + 1) ((ys ++ [r]).map (Value.int .u8)) := by simpa using hown2
        have hl3 : Hid ((ys ++ [r]).length = k + 1) := by show _ = _; have := hyl.out; simp; omega
        have hb3 := byt_snoc hyb r r0 r1
        clear hown1 hown2 hgrow N1 S1 nA hob
        go_wp2
        go_roundw
        case rel => exact ⟨k + 1, ys ++ [r], by omega, by go_num, hl3, hb3, hown3, S2, N2⟩
        case measure => simp [intOf]; omega
    · obtain rfl : k = n := by omega
      have hown' := hown
      rw [← hyl.out] at hown'
      have RB : RowB _ w.heap.size _ ys := hown'
      clear hown hown'
      go_wp2
      go_ret
      exact ⟨ys, hyl.out, hyb, ⟨_, rfl, RB⟩, hS, hN⟩

set_option maxHeartbeats 1000000 in
theorem l10DrawTagX_any (w : World) (s g : Nat) (a : Option Addr) (c : Nat) (xs : List Int) (t : Int) (hs : Src w s a xs.length c t) (hr : Rd w g a .u8 xs) (hne : 0 < xs.length → g ≠ s) (hb : Byt xs) (hl : xs.length ≤ 4194304)
    (t0 : 0 ≤ t) (t1 : t ≤ 1000) :
    Calls Try.prog 14 #[.pointer (some ⟨s, 0, none⟩)] w fun e w' => ∃ v, e = .returned (.int .i64 v) ∧ (0 ≤ v ∧ v ≤ 256) ∧ Src w' s a xs.length c (t + 2) ∧ But s w w' := by
  have N1 := hide (l1NextX_any w s g a c xs t 12 hs hr hne hb hl t0 (by omega) (by decide) (by decide))
  go_enter Try.func14, Try.ntmps14
  go_wp2_with fail
  refine N1.out.mono ?_
  rintro e w1 ⟨r, rfl, hr1, S1, O1⟩
  have R1 := hr.src O1 hne
  have z1 : s < w1.heap.size := S1.lt
  clear N1 hs
  by_cases h0 : r = 0
  · subst h0
    have N2 := hide (l1NextX_any w1 s g a c xs (t + 1) 2 S1 R1 hne hb hl (by omega) (by omega) (by decide) (by decide))
    go_wp2_with fail
    refine N2.out.mono ?_
    rintro e w2 ⟨q, rfl, hq, S2, O2⟩
    go_wp2
    go_ret
    exact ⟨_, rfl, by constructor <;> omega, by rwa [show t + 1 + 1 = t + 2 by omega] at S2, But.ofOnly (O1.trans O2)⟩
  · by_cases h1 : r = 1
    · subst h1
      have N2 := hide (l1NextX_any w1 s g a c xs (t + 1) 2 S1 R1 hne hb hl (by omega) (by omega) (by decide) (by decide))
      go_wp2_with fail
      refine N2.out.mono ?_
      rintro e w2 ⟨q, rfl, hq, S2, O2⟩
      go_wp2
      go_ret
      exact ⟨_, rfl, by constructor <;> omega, by rwa [show t + 1 + 1 = t + 2 by omega] at S2, But.ofOnly (O1.trans O2)⟩
    · have b0 : (r == 0) = false := by simpa using h0
      have b1 : (r == 1) = false := by simpa using h1
      have d0 : decide (r = 0) = false := by simpa using h0
      have d1 : decide (r = 1) = false := by simpa using h1
      clear h0 h1
      go_wp2_with fail
      have n2 : Below w1.heap.size w1 (w1.alloc (.cells #[.int .i64 1, .int .i64 2, .int .i64 4, .int .i64 12, .int .i64 24, .int .i64 48] 2)) := (Below.refl _ _).alloc (Nat.le_refl _) _
      have B2 : Blk (w1.alloc (.cells #[.int .i64 1, .int .i64 2, .int .i64 4, .int .i64 12, .int .i64 24, .int .i64 48] 2)) w1.heap.size .i64 [1, 2, 4, 12, 24, 48] := ⟨_, heap_alloc_new w1 _⟩
      generalize w1.alloc (.cells #[.int .i64 1, .int .i64 2, .int .i64 4, .int .i64 12, .int .i64 24, .int .i64 48] 2) = w2 at *
      refine (l1NextX_any w2 s g a c xs (t + 1) 6 (S1.up n2) (R1.up n2) hne hb hl (by omega) (by omega) (by decide) (by decide)).mono ?_
      rintro e w3 ⟨q, rfl, hq, S3, O3⟩
      have B3 := B2.of_block (O3.block w1.heap.size (by omega))
      have FIN := hide (And.intro S3 ((But.ofOnly O1).trans ((But.ofBelow (g := s) n2).trans (But.ofOnly O3))))
      rw [show t + 1 + 1 = t + 2 by omega] at FIN
      have e0 := B3.cell (i := 0) (by decide)
      have e1 := B3.cell (i := 1) (by decide)
      have e2 := B3.cell (i := 2) (by decide)
      have e3 := B3.cell (i := 3) (by decide)
      have e4 := B3.cell (i := 4) (by decide)
      have e5 := B3.cell (i := 5) (by decide)
      clear B2 B3 n2 S1 S3 O1 O3 R1
      obtain rfl | rfl | rfl | rfl | rfl | rfl : q = 0 ∨ q = 1 ∨ q = 2 ∨ q = 3 ∨ q = 4 ∨ q = 5 := by omega
      all_goals
        go_wp2
        go_ret
        exact ⟨_, rfl, by decide, FIN.out.1, FIN.out.2⟩

set_option maxRecDepth 100000 in
set_option maxHeartbeats 1000000 in
theorem l10DrawBodyX_any (w : World) (s g : Nat) (a : Option Addr) (c : Nat) (xs : List Int) (t : Int) (hs : Src w s a xs.length c t) (hr : Rd w g a .u8 xs) (hne : 0 < xs.length → g ≠ s) (hb : Byt xs) (hl : xs.length ≤ 4194304)
    (t0 : 0 ≤ t) (t1 : t ≤ 1000) :
    Calls Try.prog 15 #[.pointer (some ⟨s, 0, none⟩)] w fun e w' => ∃ ys v t', e = .returned v ∧ Byt ys ∧ ys.length ≤ 65536 ∧ RowB w' w.heap.size v ys ∧ (t ≤ t' ∧ t' ≤ t + 300) ∧ Src w' s a xs.length c t' ∧ But s w w' := by
  have N1 := hide (l1NextX_any w s g a c xs t 14 hs hr hne hb hl t0 (by omega) (by decide) (by decide))
  go_enter Try.func15, Try.ntmps15
  go_wp2_with fail
  refine N1.out.mono ?_
  rintro e w1 ⟨r, rfl, hr1, S1, O1⟩
  have R1 := hr.src O1 hne
  have zs := S1.lt
  clear N1 hs
  have DRAW : Hid (∀ (W : World) (u : Int) (n : Nat), Src W s a xs.length c u → Rd W g a .u8 xs → 0 ≤ u → u ≤ 1010 → n ≤ 260 → t ≤ u → u ≤ t + 10 → But s w W → Calls Try.prog 28 #[.pointer (some ⟨s, 0, none⟩), .int .i64 n] W fun e w' => ∃ ys v, e = .returned v ∧ (∃ t', Byt ys ∧ ys.length ≤ 65536 ∧ RowB w' w.heap.size v ys ∧ (t ≤ t' ∧ t' ≤ t + 300) ∧ Src w' s a xs.length c t' ∧ But s w w')) := by
    intro W u n S R u0 u1 hn hu hu2 b
    refine (l1DrawBytesRX_any W s g a c xs u n S R hne hb hl u0 (by omega)).mono ?_
    rintro e w' ⟨ys, ly, by', ⟨v, rfl, rb⟩, S', b'⟩
    exact ⟨ys, v, rfl, _, by', by omega, rb.base b.size, ⟨by omega, by omega⟩, S', b.trans b'⟩
  by_cases h0 : r = 0
  · subst h0
    have N2 := hide (l1NextX_any w1 s g a c xs (t + 1) 4 S1 R1 hne hb hl (by omega) (by omega) (by decide) (by decide))
    go_wp2_with fail
    refine N2.out.mono ?_
    rintro e w2 ⟨q, rfl, hq, S2, O2⟩
    obtain ⟨q, rfl⟩ := Int.eq_ofNat_of_zero_le hq.1
    have D := hide (DRAW.out w2 (t + 1 + 1) (126 + q) S2 (R1.src O2 hne) (by omega) (by omega) (by omega) (by omega) (by omega) (But.ofOnly (O1.trans O2)))
    rw [show ((126 + q : Nat) : Int) = 126 + (q : Int) by omega] at D
    clear N2
    go_wp2_with fail
    refine D.out.mono ?_
    rintro e w3 ⟨ys, v, rfl, t', F⟩
    go_wp2
    go_ret
    exact ⟨ys, v, t', rfl, F⟩
  · by_cases h1 : r = 1
    · subst h1
      have N2 := hide (l1NextX_any w1 s g a c xs (t + 1) 4 S1 R1 hne hb hl (by omega) (by omega) (by decide) (by decide))
      go_wp2_with fail
      refine N2.out.mono ?_
      rintro e w2 ⟨q, rfl, hq, S2, O2⟩
      obtain ⟨q, rfl⟩ := Int.eq_ofNat_of_zero_le hq.1
      have D := hide (DRAW.out w2 (t + 1 + 1) (254 + q) S2 (R1.src O2 hne) (by omega) (by omega) (by omega) (by omega) (by omega) (But.ofOnly (O1.trans O2)))
      rw [show ((254 + q : Nat) : Int) = 254 + (q : Int) by omega] at D
      clear N2
      go_wp2_with fail
      refine D.out.mono ?_
      rintro e w3 ⟨ys, v, rfl, t', F⟩
      go_wp2
      go_ret
      exact ⟨ys, v, t', rfl, F⟩
    · have b0 : (r == 0) = false := by simpa using h0
      have b1 : (r == 1) = false := by simpa using h1
      have d0 : decide (r = 0) = false := by simpa using h0
      have d1 : decide (r = 1) = false := by simpa using h1
      by_cases h2 : r = 2
      · subst h2
        have CH := hide (l1ChanceX_any w1 s g a c xs (t + 1) 12 S1 R1 hne hb hl (by omega) (by omega) (by decide) (by decide))
        clear b0 b1 d0 d1 h0 h1
        go_wp2_with fail
        refine CH.out.mono ?_
        rintro e w2 ⟨b, rfl, S2, O2⟩
        have R2 := R1.src O2 hne
        have O12 := O1.trans O2
        clear CH
        cases b
        · skip
          have N3 := hide (l1NextX_any w2 s g a c xs (t + 1 + 1) 12 S2 R2 hne hb hl (by omega) (by omega) (by decide) (by decide))
          go_wp2_with fail
          refine N3.out.mono ?_
          rintro e w3 ⟨q, rfl, hq, S3, O3⟩
          obtain ⟨q, rfl⟩ := Int.eq_ofNat_of_zero_le hq.1
          have D := hide (DRAW.out w3 ((t + 1 + 1) + 1) q S3 ((R2).src O3 hne) (by omega) (by omega) (by omega) (by omega) (by omega) (But.ofOnly (O12.trans O3)))
          clear N3
          go_wp2_with fail
          refine D.out.mono ?_
          rintro e w4 ⟨ys, v, rfl, t', F⟩
          go_wp2
          go_ret
          exact ⟨ys, v, t', rfl, F⟩
        · have N3 := hide (l1NextX_any w2 s g a c xs (t + 1 + 1) 3 S2 R2 hne hb hl (by omega) (by omega) (by decide) (by decide))
          go_wp2_with fail
          refine N3.out.mono ?_
          rintro e w3 ⟨q, rfl, hq, S3, O3⟩
          obtain ⟨q, rfl⟩ := Int.eq_ofNat_of_zero_le hq.1
          have q3 : q < 3 := by omega
          obtain ⟨i0, hi, hz0, hz1, hz2⟩ := info_parts Try.info5
          have Z3 : Hid (w.heap.size ≤ w3.heap.size) := Nat.le_of_eq (O12.trans O3).size.symm
          obtain ⟨m, hm, hm2⟩ : ∃ m : Nat, wrap64 ((65534 : Int) + (q : Int)) = (m : Int) ∧ m ≤ 65536 := ⟨65534 + q, by unfold wrap64; omega, by omega⟩
          have HM := hide hm
          have HM2 := hide hm2
          clear N3 DRAW hm hm2 q3 hq
          go_wp2_with (at_make; rw [HM.out]; refine wpList_make_full _ rfl _ _ 22 rfl w3.heap.size 5 i0 (.int .u8 0) 1 Try.underlying22 hi hz0 hz1 .i64 .i64 _ _ m rfl rfl rfl rfl (by rw [hz2]; have := HM2.out; omega) (by unfold maxLen; have := HM2.out; omega) (Nat.le_refl _) ?_; intro w4 hown hgrow)
          have B4 := RowB.of_made hown
          have n4 : Below w3.heap.size w3 w4 := (Below.refl _ _).grown hgrow (Nat.le_refl _) (by simp)
          clear hown hgrow
          go_wp2
          go_ret
          exact ⟨_, _, t + 1 + 1 + 1, rfl, byt_zeros _, by rw [List.length_replicate]; exact HM2.out, B4.base Z3.out, ⟨by omega, by omega⟩, S3.up n4, (But.ofOnly (O12.trans O3)).trans (But.ofBelow n4)⟩
      · have b2 : (r == 2) = false := by simpa using h2
        have d2 : decide (r = 2) = false := by simpa using h2
        clear h0 h1 h2
        have N3 := hide (l1NextX_any w1 s g a c xs (t + 1) 12 S1 R1 hne hb hl (by omega) (by omega) (by decide) (by decide))
        go_wp2_with fail
        refine N3.out.mono ?_
        rintro e w3 ⟨q, rfl, hq, S3, O3⟩
        obtain ⟨q, rfl⟩ := Int.eq_ofNat_of_zero_le hq.1
        have D := hide (DRAW.out w3 ((t + 1) + 1) q S3 ((R1).src O3 hne) (by omega) (by omega) (by omega) (by omega) (by omega) (But.ofOnly (O1.trans O3)))
        clear N3
        go_wp2_with fail
        refine D.out.mono ?_
        rintro e w4 ⟨ys, v, rfl, t', F⟩
        go_wp2
        go_ret
        exact ⟨ys, v, t', rfl, F⟩

set_option maxHeartbeats 1000000 in
/-- A tag and a body. -/
theorem drawEncItemX_any (w : World) (g : Nat) (a : Option Addr) (c : Nat) (xs : List Int) (hr : Rd w g a .u8 xs) (hb : Byt xs) (hl : xs.length ≤ 4194304) :
    Calls Try.prog 5 #[.slice a xs.length c] w fun e w' => ∃ (u : Int) (ys : List Int) (v : Value), e = .returned (.tuple #[.int .i64 u, v]) ∧ (0 ≤ u ∧ u ≤ 256) ∧ Byt ys ∧ ys.length ≤ 65536 ∧ RowB w' w.heap.size v ys ∧ Below w.heap.size w w' := by
  go_enter Try.func5, Try.ntmps5
  go_wp2_with fail
  refine (l1SourceX_any w a xs.length c hl).mono ?_
  rintro e w1 ⟨rfl, S1, n1⟩
  have ne : 0 < xs.length → g ≠ w.heap.size := fun h => by have := hr.lt h; omega
  have l1 := S1.lt
  go_wp2_with fail
  refine (l10DrawTagX_any w1 w.heap.size g a c xs 0 S1 (hr.up n1) ne hb hl (by decide) (by decide)).mono ?_
  rintro e w2 ⟨u, rfl, hu, S2, b2⟩
  have Z2 : Hid (w.heap.size ≤ w2.heap.size) := by show _ ≤ _; have := b2.size; omega
  go_wp2_with fail
  refine (l10DrawBodyX_any w2 w.heap.size g a c xs (0 + 2) S2 ((hr.up n1).but b2 ne) ne hb hl (by decide) (by decide)).mono ?_
  rintro e w3 ⟨ys, v, t', rfl, by', ly, rb, -, S3, b3⟩
  have FIN := hide (And.intro (rb.base Z2.out) ((n1.trans (b2.below (Nat.le_refl _) (by omega))).trans (b3.below (Nat.le_refl _) Z2.out)))
  clear rb b2 b3 n1 S1 S2 S3
  go_wp2
  go_ret2
  exact ⟨u, ys, v, rfl, hu, by', ly, FIN.out.1, FIN.out.2⟩

end Go.Proofs.Ythkhfljoflffpaa

/-
  The law FnItemsBack.
-/
namespace Go.Proofs.Ythkhfljoflffpaa
open Go Go.RowKit

theorem Src0.below_drewN (w : World) (m : Nat) : Below w.heap.size w (w.drewN m) := ⟨rfl, rfl, rfl, Nat.le_refl _, fun _ _ => rfl⟩
theorem below_dr {B : Nat} {a b : World} (h : Below B a b) (m : Nat) : Below B a (b.drewN m) := h.trans ⟨rfl, rfl, rfl, Nat.le_refl _, fun _ _ => rfl⟩
theorem byt_mod (z : Int) : 0 ≤ z % 256 ∧ z % 256 < 256 := by omega
theorem byt_one {z : Int} (h0 : 0 ≤ z) (h1 : z < 256) : Byt [z] := bytC byt_nil h0 h1
theorem Own.drop1 {w : World} {g off : Nat} {xs : List Int} (h : Own w g (some ⟨g, off, none⟩) .u8 xs) : Own w g (some ⟨g, off + 1, none⟩) .u8 (xs.drop 1) := fun h0 => by
  rw [List.length_drop] at h0
  obtain ⟨o, e, hc⟩ := h (by omega)
  simp only [Option.some.injEq, Addr.mk.injEq, and_true, true_and] at e
  subst e
  refine ⟨_, rfl, fun i hi => ?_⟩
  rw [List.length_drop] at hi
  have := hc (i + 1) (by omega)
  rw [show off + 1 + i = off + (i + 1) by omega, show (xs.drop 1).getD i 0 = xs.getD (i + 1) 0 by simp [List.getD]]
  exact this
/-- A tag and a body that will be appended to. -/
def TgB (w : World) (M : Nat) (t v : Value) : Prop := ∃ (u : Int) (ys : List Int), t = .int .i64 u ∧ 1 ≤ u ∧ u ≤ 255 ∧ Byt ys ∧ ys.length ≤ 65535 ∧ RowB w M v ys
/-- The body. -/
def Bdy (w : World) (M : Nat) (v : Value) : Prop := ∃ (q : Plc) (ys : List Int), v = .slice q.a ys.length q.c ∧ Byt ys ∧ 0 < ys.length ∧ ys.length ≤ 65535 ∧ Lie w ys q ∧ M ≤ q.q
theorem itsB_byt : ∀ (its : List (Int × List Int)), (∀ x ∈ its, itB x.1 x.2.length = true ∧ Byt x.2) → Byt (itsB its)
  | [], _ => byt_nil
  | x :: its, h => by
    show Byt (itL x.1 x.2 ++ itsB its)
    exact bytA (itL_byt _ _ (h x (by simp)).2) (itsB_byt its (fun y hy => h y (by simp [hy])))
theorem back_form {zs : List Int} (hb : Byt zs) {i : Int} (h : diT (itZ zs i) = true) : ∃ (k n : Nat), i = (k : Int) ∧ dnT (itZ zs i) = (n : Int) ∧ k < n ∧ n ≤ zs.length ∧ itL (dtT (itZ zs i)) (dbT zs (itZ zs i)) = (zs.drop k).take (n - k) := by
  by_cases hi : 0 ≤ i
  · obtain ⟨k, rfl⟩ := Int.eq_ofNat_of_zero_le hi
    rw [itZ_nat] at *
    cases hA : itA zs k with
    | none => rw [hA] at h; simp [diT] at h
    | some x =>
      obtain ⟨t, s, n⟩ := x
      have bd := itA_bd hb hA
      refine ⟨k, s + n, rfl, rfl, by omega, by omega, ?_⟩
      exact itA_form hb hA
  · rw [itZ_out (by omega)] at h
    simp [diT] at h
theorem step_pickT {ops : Array Oper} {Q : Exit → Act → World → Prop} {md : Region.Mode} {F : Nat → Fact} {a0 : Act} {w0 : World} {i : Nat} {o : Oper} {P : Program} (hi : ops[i]? = some o) (p q j k : Nat) {v : Value} {x : Value} (hop : o.op = .pick (.tmp p) (.tmp q) (.const x)) (hj : waits md ops i j p = true) (hk : waits md ops i k q = true) (hFj : F j = Fact.eq (.bool true)) (hFk : F k = Fact.eq v) (hFi : F i = Fact.eq v) : StepOk P md ops Q F a0 w0 i := by
  refine step_pure hi fun a w _ _ hf => ⟨v, ?_, by rw [hFi]; exact rfl⟩
  have h1 := hf j p hj
  have h2 := hf k q hk
  rw [hFj] at h1
  rw [hFk] at h2
  have h1' : a.tmps[p]?.getD undef = .bool true := gdv h1
  have h2' : a.tmps[q]?.getD undef = v := gdv h2
  simp [execOp, hop, Act.eval, h1', h2', go_sem]
theorem fdT (b : Bool) (x : Int) (y : Value) (n : Int) (w : World) : (Instr.field 38 (.agg #[.bool b, .int .i64 x, y, .int .i64 n]) 0).run Try.prog w = .ok (.bool b) w := by kernel_rfl
/-- An answer of DecodeItem. -/
def RAg (b : Bool) : Fact := ⟨fun v _ => ∃ (x : Int) (y : Value) (n : Int), v = .agg #[.bool b, .int .i64 x, y, .int .i64 n], fun _ h => h⟩
/-- What the first loop keeps. -/
def LpI (w0 : World) (n : Nat) (va vw k : Value) (w : World) : Prop :=
  ∃ (j : Nat) (its : List (Int × List Int)) (bs : List Plc), k = .int .i64 j ∧ j ≤ n ∧ its.length = j ∧ (∀ x ∈ its, itB x.1 x.2.length = true ∧ Byt x.2) ∧ (itsB its).length ≤ j * 65540 ∧ Two w w0.heap.size va (itsB its) vw its bs ∧ Below w0.heap.size w0 w

set_option maxRecDepth 20000 in
set_option maxHeartbeats 1000000 in
theorem itemsBack_law (w : World) (g0 : Nat) (a0 : Option Addr) (c0 : Nat) (X0 : List Int) (hX0 : Rd w g0 a0 .u8 X0) (bX0 : Byt X0) (k0 : a0 = none → c0 = 0) (g1 : Nat) (a1 : Option Addr) (c1 : Nat) (X1 : List Int) (hX1 : Rd w g1 a1 .u8 X1) (bX1 : Byt X1) :
    Calls Try.prog 3 #[.slice a0 X0.length c0, .slice a1 X1.length c1] w fun e w' => e = .returned (.bool true) ∧ Below w.heap.size w w' := by
  by_cases q0 : X0.length ≤ 1048576
  · have u0 : decide ((1048576 : Int) < (X0.length : Int)) = false := by simp; omega
    by_cases q1 : X1.length ≤ 1048576
    · have u1 : decide ((1048576 : Int) < (X1.length : Int)) = false := by simp; omega
      obtain ⟨i0, hi, hz0, hz1, hz2⟩ := info_parts Try.info5
      have K0 := hide k0
      clear k0
      have n1 : Below w.heap.size w (w.alloc (.cells #[] 5)) := (Below.refl _ _).alloc (Nat.le_refl _) _
      have n2 : Below w.heap.size w ((w.alloc (.cells #[] 5)).alloc (.cells #[] 30)) := n1.alloc n1.size _
      have T2 : Two ((w.alloc (.cells #[] 5)).alloc (.cells #[] 30)) w.heap.size (.slice (some ⟨w.heap.size, 0, none⟩) 0 0) [] (.slice (some ⟨w.heap.size + 1, 0, none⟩) 0 0) [] [] := by
        rw [← show (w.alloc (.cells #[] 5)).heap.size = w.heap.size + 1 by simp]
        refine ⟨(RowB.lit0 w).up ((Below.refl _ _).alloc (Nat.le_refl _) _), IRow.lit0 _ _ n1.size, fun k hk => ⟨fun e => ?_, fun j hj => absurd hj (by simp)⟩⟩
        simp [Value.ownBlock] at hk e
        omega
      have AT := hide (lwAt_any _ g1 a1 c1 X1 0 8 (hX1.up n2) bX1 q1 (by decide) (by decide) (by decide) (by decide))
      go_enter Try.func3, Try.ntmps3
      clear n1
      go_wp2_with fail
      refine AT.out.mono ?_
      rintro e w2 ⟨r, rfl, hr8, m, rfl⟩
      have n3 := below_dr n2 m
      have T3 := T2.up (Src0.below_drewN _ m)
      generalize hw2 : ((w.alloc (.cells #[] 5)).alloc (.cells #[] 30)).drewN m = w2 at *
      clear AT n2 T2 hw2
      obtain ⟨n, hn, hn8⟩ : ∃ n : Nat, 1 + (r : Int) = (n : Int) ∧ n ≤ 8 := ⟨1 + r, by omega, by omega⟩
      go_wp2_with fail
      try rw [hn]
      go_loopw [5, 6, 8] (fun va vw k wr => LpI w n va vw k wr) (fun _ _ k _ => n - (intOf k).toNat)
      case atStart => exact ⟨0, [], [], rfl, Nat.zero_le _, rfl, fun x hx => absurd hx (by simp), by simp [itsB], T3, n3⟩
      case round =>
        obtain ⟨j, its, bs, rfl, hj, jl, hit, hal, T, N⟩ := hrel
        clear T3 n3
        by_cases hjn : j < n
        · have d1 : decide ((j : Int) < (n : Int)) = true := by simp; omega
          have hN := N.size
          have nA : Below wr.heap.size wr (wr.alloc (.cells #[.int .u8 ((j : Int) * 31)] 5)) := (Below.refl _ _).alloc (Nat.le_refl _) _
          obtain ⟨v', w3, hap, R3, m3⟩ := append_any (wr.alloc (.cells #[.int .u8 ((j : Int) * 31)] 5)) 22 i0 Try.underlying22 hi hz0 hz1 hz2 wr.heap.size wr.heap.size _ [(j : Int) * 31] (RowB.lit1 wr ((j : Int) * 31)) g0 a0 c0 X0 ((hX0.up N).up nA) K0.out (by simp; omega) (Nat.le_refl _) (by simp)
          have n3 := nA.trans m3
          have B3 : Byt ([(j : Int) * 31] ++ X0) := bytA (byt_one (by omega) (by omega)) bX0
          have l3 : ([(j : Int) * 31] ++ X0).length ≤ 4194304 := by simp; omega
          obtain ⟨ga, gc, gg, rfl, rG, -, -, -⟩ := R3.rd
          have DE := hide (drawEncItemX_any w3 gg ga gc ([(j : Int) * 31] ++ X0) rG B3 l3)
          clear R3 rG m3 nA B3 l3
          go_wp2_with (at_builtin; refine Lib.wpList_append_run _ rfl _ _ 22 22 rfl _ _ rfl rfl _ _ hap ?_)
          clear hap
          go_wp2_with fail
          refine DE.out.mono ?_
          rintro e w4 ⟨u, ys, v4, rfl, hu, yb, yl, R4, m4⟩
          have n4 := n3.trans (m4.mono n3.size)
          have R5 := R4.base (base' := wr.heap.size) n3.size
          clear DE n3 m4 R4
          obtain ⟨ya, yc, yg, rfl, rY, nY, kY, bY⟩ := R5.rd
          clear rY nY kY bY yg
          go_upto_region 10 with fail
          go_cut [54] (fun v wc => ∃ b : Bool, v = .bool b ∧ (b = false → 1 ≤ u ∧ u ≤ 255 ∧ ys.length ≤ 65535) ∧ wc = w4)
          case first =>
            clear R5 n4 T N
            by_cases c1 : u < 1
            · have e1 : decide (u < 1) = true := by simp; omega
              go_wp2_with fail
              go_meet
              exact ⟨true, rfl, fun h => absurd h (by simp), rfl⟩
            · have e1 : decide (u < 1) = false := by simp; omega
              by_cases c2 : 255 < u
              · have e2 : decide ((255 : Int) < u) = true := by simp; omega
                go_wp2_with fail
                go_meet
                exact ⟨true, rfl, fun h => absurd h (by simp), rfl⟩
              · have e2 : decide ((255 : Int) < u) = false := by simp; omega
                by_cases c3 : 65535 < ys.length
                · have e3 : decide ((65535 : Int) < (ys.length : Int)) = true := by simp; omega
                  go_wp2_with fail
                  go_meet
                  exact ⟨true, rfl, fun h => absurd h (by simp), rfl⟩
                · have e3 : decide ((65535 : Int) < (ys.length : Int)) = false := by simp; omega
                  go_wp2_with fail
                  go_meet
                  exact ⟨false, rfl, fun _ => ⟨by omega, by omega, by omega⟩, rfl⟩
          case rest =>
            obtain ⟨b, rfl, hbb, hw4⟩ := hcut
            subst hw4
            go_upto_if 54 with fail
            go_cut [9, 10] (fun t v wc => TgB wc wr.heap.size t v ∧ Below wr.heap.size wr wc)
            case first =>
              clear T N
              cases b with
              | true =>
                have L6 := hide ((RowB.lit1 wc (j : Int)).base n4.size)
                have n6 := hide (n4.alloc n4.size (.cells #[.int .u8 (j : Int)] 5))
                clear R5 n4 hbb yl yb
                go_wp2_with fail
                go_meet
                exact ⟨⟨4, [(j : Int)], rfl, by decide, by decide, byt_one (by omega) (by omega), by simp, L6.out⟩, n6.out⟩
              | false =>
                obtain ⟨h1, h2, h3⟩ := hbb rfl
                clear hbb
                go_wp2_with fail
                go_meet
                exact ⟨⟨u, ys, rfl, h1, h2, yb, h3, R5⟩, n4⟩
            case rest =>
              clear R5 n4 hbb yl yb hu
              obtain ⟨⟨u, ys, rfl, h1, h2, yb, yl, R5⟩, n5⟩ := hcut
              have AT := hide (lwAt_any wc g1 a1 c1 X1 j 256 ((hX1.up N).up n5) bX1 q1 (by omega) (by omega) (by decide) (by decide))
              go_wp2_with fail
              refine AT.out.mono ?_
              rintro e w6 ⟨z, rfl, hz, m, hw6⟩
              have n6 : Below wr.heap.size wr w6 := by rw [hw6]; exact below_dr n5 m
              have R6 := R5.up (Src0.below_drewN _ m)
              rw [← hw6] at R6
              clear hw6 R5 n5 AT
              have L6 := RowB.lit1 w6 (z : Int)
              have nA : Below w6.heap.size w6 (w6.alloc (.cells #[.int .u8 (z : Int)] 5)) := (Below.refl _ _).alloc (Nat.le_refl _) _
              obtain ⟨la, lc, lg, le, rL, nL, -, -⟩ := L6.rd
              cases le
              obtain ⟨v7, w7, hap, R7, m7⟩ := append_any (w6.alloc (.cells #[.int .u8 (z : Int)] 5)) 22 i0 Try.underlying22 hi hz0 hz1 hz2 wr.heap.size wr.heap.size _ ys (R6.up nA) _ _ _ [(z : Int)] rL nL (by simp; omega) (Nat.le_refl _) (Nat.le_trans n6.size nA.size)
              have n7 := (n6.trans (nA.mono n6.size)).trans m7
              have B7 := bytA yb (byt_one (z := (z : Int)) (by omega) (by omega))
              have l7 : (ys ++ [(z : Int)]).length = ys.length + 1 := by simp
              clear L6 nA rL nL n6 R6 m7 yb
              generalize ys ++ [(z : Int)] = zs at *
              have z0 : 0 < zs.length := by omega
              have z1 : zs.length ≤ 65536 := by omega
              clear l7 yl
              obtain ⟨ya, yc, yg, rfl, oY, nY, kY, bY⟩ := R7.own
              have NY := hide nY
              clear nY R7
              go_upto_if 67 with (at_builtin; refine Lib.wpList_append_run _ rfl _ _ 22 22 rfl _ _ rfl rfl _ _ hap ?_)
              clear hap hz
              go_cut [10] (fun v wc => Bdy wc wr.heap.size v ∧ Below wr.heap.size wr wc)
              case first =>
                clear T N
                by_cases c1 : 65535 < zs.length
                · have d2 : decide ((65535 : Int) < (zs.length : Int)) = true := by simp; omega
                  obtain ⟨off, rfl, -⟩ := id oY z0
                  have c21 : ¬ (yc = 1) := by omega
                  have l21 : (1 : Int) ≤ (zs.length : Int) := by omega
                  have l22 : (1 : Int) ≤ (yc : Int) := by omega
                  have FIN := hide (show Bdy w7 wr.heap.size (.slice (some ⟨yg, off + 1, none⟩) (zs.length - 1) (yc - 1)) from ⟨⟨some ⟨yg, off + 1, none⟩, yc - 1, yg⟩, zs.drop 1, by rw [List.length_drop], byt_drop B7 1, by rw [List.length_drop]; omega, by rw [List.length_drop]; omega, ⟨oY.drop1, fun h => absurd h (by simp), by rw [List.length_drop]; show _ ≤ yc - 1; omega⟩, bY⟩)
                  clear oY NY B7
                  go_wp2_with fail
                  go_meet
                  exact ⟨FIN.out, n7⟩
                · have d2 : decide ((65535 : Int) < (zs.length : Int)) = false := by simp; omega
                  go_wp2_with fail
                  go_meet
                  exact ⟨⟨⟨ya, yc, yg⟩, zs, rfl, B7, z0, by omega, ⟨oY, NY.out, kY⟩, bY⟩, n7⟩
              case rest =>
                clear n7 B7 z0 z1 oY NY kY bY
                obtain ⟨⟨q, zs, rfl, zb, z0, z1, LZ, hq⟩, n8⟩ := hcut
                have CP := hide (lwCopy_any wc q.q q.a q.c zs LZ.o.rd LZ.n (by omega))
                go_wp2_with fail
                refine CP.out.mono ?_
                rintro e w9 ⟨⟨a9, c9, g9, rfl, o9, p9, q9, r9⟩, n9⟩
                have N9 := n8.trans (n9.mono n8.size)
                have L9 := LZ.of fun h0 => n9.block _ (LZ.o.rd.lt h0)
                have EI := hide (implEncodeItem_any w9 u g9 a9 c9 zs o9.rd p9)
                have iB : itB u zs.length = true := by unfold itB; simp; omega
                have HB := hide iB
                have HL := hide (itL_short u zs)
                have HP := hide (show 0 < (itL u zs).length by rw [itL_size u zs iB]; omega)
                have HY := hide (itL_byt u zs zb)
                clear iB CP n8 n9 LZ o9 p9 q9 r9
                go_wp2_with fail
                refine EI.out.mono ?_
                rintro e wA ⟨⟨aA, cA, gA, rfl, oA, -, -, rA⟩, nA⟩
                have NA := N9.trans (nA.mono N9.size)
                have LA := L9.of fun h0 => nA.block _ (L9.o.rd.lt h0)
                have TA := T.up NA
                obtain ⟨off, rfl, -⟩ := id oA HP.out
                obtain ⟨vB, wB, hapB, TB, nB, keB, obB⟩ := TA.all 22 gA off cA (itL u zs) oA.rd (by have := HL.out; omega) (Nat.le_trans hN NA.size)
                have lq : q.q < wA.heap.size := LA.o.rd.lt z0
                have vaq : ∀ k, u5.ownBlock = some k → k < wr.heap.size := fun k hk => (World.ownsRow.lt T.r k hk).2
                have LB := LA.of fun _ => keB q.q lq (fun e => by have := vaq _ e; omega)
                have hqa : vB.ownBlock ≠ some q.q := fun e => by
                  rcases obB with h | h
                  · rw [h] at e
                    have := vaq _ e
                    omega
                  · rw [h] at e
                    have := Option.some.inj e
                    omega
                have zB : wr.heap.size ≤ wB.heap.size := Nat.le_trans NA.size nB.size
                obtain ⟨vC, wC, hapC, TC, nC⟩ := TB.item (u, zs) q (Nat.le_trans hN zB) LB wr.heap.size hN (fun i hi h0 => T.i.lt hi h0) (fun k hk => (World.ownsRow.lt T.i.o k hk).2) hq hqa (by omega)
                have NC := hide (((N.trans (NA.mono hN)).trans nB).trans nC)
                have HIT := hide (show ∀ x ∈ its ++ [(u, zs)], itB x.1 x.2.length = true ∧ Byt x.2 from fun x hx => by
                  rcases List.mem_append.1 hx with h | h
                  · exact hit x h
                  · rw [List.mem_singleton.1 h]
                    exact ⟨HB.out, zb⟩)
                have HAL := hide (show (itsB (its ++ [(u, zs)])).length ≤ (j + 1) * 65540 by rw [itsB_snoc, List.length_append]; have := HL.out; show _ + (itL u zs).length ≤ _; omega)
                rw [← show itsB (its ++ [(u, zs)]) = itsB its ++ itL u zs from itsB_snoc its (u, zs)] at TC
                have HT := hide TC
                have HJ := hide (show (its ++ [(u, zs)]).length = j + 1 by simp [jl])
                clear EI T TA TB TC LA LB L9 oA rA nA NA N9 keB obB vaq lq hqa nB nC zB hit hal jl HP HY HL zb hq
                go_wp2_with (at_builtin; first | refine Lib.wpList_append_run _ rfl _ _ 22 22 rfl _ _ rfl rfl _ _ hapB ?_ | refine Lib.wpList_append_run _ rfl _ _ 23 23 rfl _ _ rfl rfl _ _ hapC ?_)
                clear hapB hapC
                go_wp2
                go_roundw
                case rel => exact ⟨j + 1, its ++ [(u, zs)], bs ++ [q], by go_num, by omega, HJ.out, HIT.out, HAL.out, HT.out, NC.out⟩
                case measure => simp [intOf]; omega
        · obtain rfl : j = n := by omega
          have HO := its_back0 its (fun x hx => (hit x hx).1) (by omega)
          have BA := itsB_byt its hit
          have its0 : 0 < its.length := by omega
          have HN := hide (show ∀ i, i < its.length → (its.getD i (0, [])).2.length ≤ 1048576 from fun i hi => by
            have hm : its.getD i (0, []) ∈ its := by
              rw [List.getD, List.getElem?_eq_getElem hi]
              exact List.getElem_mem hi
            have := itB_yes (hit _ hm).1
            omega)
          obtain ⟨va, vc, vg, e5, rV, nV, -, -⟩ := T.r.rd
          obtain ⟨gw, cw, e6, -, hgw, -, hcw, -⟩ := T.i.cells its0
          subst e5
          subst e6
          have CP := hide (lwCopy_any wr vg va vc (itsB its) rV nV (by omega))
          have LA : (itsB its).length ≤ 1048576 := by omega
          have HCW := hide hcw
          have HBW := hide T.i.b
          clear hit hal rV nV T hcw K0 hX0 bX0 u0
          generalize hAA : itsB its = AA at *
          clear hAA
          go_wp2_with fail
          refine CP.out.mono ?_
          rintro e w3 ⟨⟨a3, c3, g3, rfl, o3, p3, q3, r3⟩, n3⟩
          have N3 := nxt N n3
          have DI := hide (implDecodeItems_any w3 g3 a3 c3 AA o3.rd BA p3 q3 LA)
          rw [HO] at DI
          clear CP HO o3 p3 q3 r3
          go_wp2_with fail
          refine DI.out.mono ?_
          rintro e w4 ⟨hNI, n4⟩
          have hNA := hNI.at
          simp only [Option.isSome_some, Option.getD_some] at hNA
          obtain ⟨a5, c5, bs5, rfl, RI⟩ := hNA
          obtain ⟨gi, ci, ei, -, hgi, -, hci, -⟩ := RI.r.cells its0
          cases ei
          have HCI := hide hci
          have HBI := hide RI.r.b
          have TL := Tl.new w4 (.bool true) (.slice (some ⟨gi, 0, none⟩) its.length c5) 32
          have n5 : Below w4.heap.size w4 (w4.alloc (.cells #[.bool true, .slice (some ⟨gi, 0, none⟩) its.length c5] 32)) := (Below.refl _ _).alloc (Nat.le_refl _) _
          have N4 := nxt N3 n4
          have N5 := nxt N4 n5
          have n35 := hide (nxt (nxt n3 n4) n5)
          have n45 := hide n5
          have j0 := TL.c0
          have j1 := TL.c1
          have HG := hide (And.intro hgw hgi)
          clear DI hNI RI hci n3 n4 n5 N3 N4 N hgw hgi
          generalize its.length = m at *
          subst jl
          go_wp2_with fail
          generalize w4.alloc (.cells #[.bool true, .slice (some ⟨gi, 0, none⟩) m c5] 32) = W at *
          clear j0 j1
          go_loopw [12] (fun i wq => ∃ (k : Nat), k ≤ m ∧ i = .int .i64 k ∧ Below W.heap.size W wq) (fun i _ => m - (intOf i).toNat)
          case atStart => exact ⟨0, Nat.zero_le _, rfl, Below.refl _ _⟩
          case round =>
            obtain ⟨k, hk, rfl, NQ⟩ := hrel
            by_cases hkm : k < m
            · have d1 : decide ((k : Int) < (m : Int)) = true := by simp; omega
              have TQ := TL.up NQ
              have NWQ := n35.out.trans (NQ.mono n35.out.size)
              have N4Q := n45.out.trans (NQ.mono n45.out.size)
              have t0 : (k : Int) < (m : Int) := by omega
              have s1 := (World.cell?_of_block (a := ⟨gi, k * 2, none⟩) (N4Q.block gi HG.out.2)).trans (HCI.out k hkm).1
              have s2 := (World.cell?_of_block (a := ⟨gi, k * 2 + 1, none⟩) (N4Q.block gi HG.out.2)).trans (HCI.out k hkm).2
              have r1 := (World.cell?_of_block (a := ⟨gw, k * 2, none⟩) (NWQ.block gw HG.out.1)).trans (HCW.out k hkm).1
              have r2 := (World.cell?_of_block (a := ⟨gw, k * 2 + 1, none⟩) (NWQ.block gw HG.out.1)).trans (HCW.out k hkm).2
              have SM := fun n => hide (lwSame_same (wr.drewN n) _ _ _ _ (bs5.getD k plc0).c (bs.getD k plc0).c (its.getD k (0, [])).2 (((HBI.out k hkm).o.rd.up N4Q).of_block rfl) (((HBW.out k hkm).o.rd.up NWQ).of_block rfl))
              have f0 := TQ.c0
              have f1 := TQ.c1
              generalize (its.getD k (0, [])).2.length = L at *
              generalize (its.getD k (0, [])).1 = G at *
              generalize (bs.getD k plc0).c = C1 at *
              generalize (bs.getD k plc0).a = A1 at *
              generalize (bs5.getD k plc0).c = C2 at *
              generalize (bs5.getD k plc0).a = A2 at *
              have NN := hide NQ
              have hG : (G == G) = true := by simp
              clear NQ NWQ N4Q TQ
              go_wp2
              go_quiet ((go_at_call 9; refine (SM _).out.mono ?_; rintro e w' ⟨rfl, rfl⟩; exact ⟨rfl, _, rfl⟩))
              have FIN := hide (below_drewN NN.out nq)
              clear NN SM
              go_wp2
              go_roundw
              case rel => exact ⟨k + 1, by omega, by go_num, FIN.out⟩
              case measure => simp [intOf]; omega
            · obtain rfl : k = m := by omega
              have NW := nxt N5 NQ
              have DD := hide (drawDecItem_any wr g1 a1 c1 X1 (hX1.up NW) bX1 q1)
              clear TL NQ N5 n35 n45 HCW HBW HCI HBI HG HN BA its0
              go_wp2_with fail
              refine DD.out.mono ?_
              rintro e y1 ⟨zs, v1, ip, rfl, zb, zl, RZ, m1⟩
              have M1 := nxt NW m1
              obtain ⟨a8, c8, g8, rfl, o8, p8, q8, r8⟩ := RZ.own
              have CP := hide (lwCopy_any y1 g8 a8 c8 zs o8.rd p8 (by omega))
              clear DD RZ m1 NW p8 r8
              go_wp2_with fail
              refine CP.out.mono ?_
              rintro e y2 ⟨⟨a9, c9, g9, rfl, o9, p9, q9, r9⟩, m2⟩
              have M2 := nxt M1 m2
              have o82 := o8.up m2
              have DZ := hide (implDecodeItem_any y2 g9 a9 c9 zs ip o9.rd zb p9 q9 (by omega))
              clear CP M1 m2 o8 o9 p9 q9 r9
              go_wp2_with fail
              refine DZ.out.mono ?_
              rintro e y3 ⟨⟨aA, cA, gA, rfl, oA3, pA, qA, rA⟩, m3⟩
              have M3 := nxt M2 m3
              have o83 := o82.up m3
              have SZ := fun W h => hide (specDecodeItem_any W g8 a8 c8 zs ip h zb q8 (by omega))
              have BF := hide (fun h => back_form zb (i := ip) h)
              generalize diT (itZ zs ip) = tb at *
              generalize dtT (itZ zs ip) = tt at *
              generalize dbT zs (itZ zs ip) = tl at *
              generalize dnT (itZ zs ip) = tq at *
              have TF3 := Fo.new y3 (.bool tb) (.int .i64 tt) (.slice aA tl.length cA) (.int .i64 tq) 38
              have m4 : Below y3.heap.size y3 (y3.alloc (.cells #[.bool tb, .int .i64 tt, .slice aA tl.length cA, .int .i64 tq] 38)) := (Below.refl _ _).alloc (Nat.le_refl _) _
              have M4a := nxt M3 m4
              have o84 := o83.up m4
              have oA4 := oA3.up m4
              have PA := hide pA
              clear DZ M2 M3 o82 o83 oA3 qA rA m3 pA
              go_upto_region 28 with fail
              generalize y3.alloc (.cells #[.bool tb, .int .i64 tt, .slice aA tl.length cA, .int .i64 tq] 38) = y4 at *
              clear m4
              refine region_end 7 (fun i => [Fact.eq (.pointer (some ⟨y3.heap.size, 0, none⟩)), Fact.eq (.bool tb), Fact.eq (.slice a8 zs.length c8), Fact.eq (.int .i64 ip), RAg tb, Fact.eq (.bool tb), Fact.eq (.bool false)].getD i Fact.no) (by kernel_rfl) (by kernel_rfl) rfl ?_ ?_
              · intro i hi
                obtain rfl | rfl | rfl | rfl | rfl | rfl | rfl : i = 0 ∨ i = 1 ∨ i = 2 ∨ i = 3 ∨ i = 4 ∨ i = 5 ∨ i = 6 := by omega
                · refine step_pure rfl fun A ww hb hw hf => ?_
                  have e1 : A.tmps[15]?.getD undef = .pointer (some ⟨y3.heap.size, 0, none⟩) := gdv (hb.2.2 15 (by kernel_rfl))
                  exact ⟨.pointer (some ⟨y3.heap.size, 0, none⟩), by simp [go_sem, e1], rfl⟩
                · refine step_pure rfl fun A ww hb hw hf => ?_
                  have e1 : A.tmps[138]?.getD undef = .pointer (some ⟨y3.heap.size, 0, none⟩) := gdv (hf 0 138 (by kernel_rfl))
                  have hc := (TF3.up hw).c0
                  exact ⟨.bool tb, by simp [go_sem, e1, hc], rfl⟩
                · refine step_pure rfl fun A ww hb hw hf => ?_
                  have e1 : A.tmps[13]?.getD undef = .slice a8 zs.length c8 := gdv (hb.2.2 13 (by kernel_rfl))
                  exact ⟨.slice a8 zs.length c8, by simp [go_sem, e1], rfl⟩
                · refine step_pure rfl fun A ww hb hw hf => ?_
                  have e1 : A.tmps[14]?.getD undef = .int .i64 ip := gdv (hb.2.2 14 (by kernel_rfl))
                  exact ⟨.int .i64 ip, by simp [go_sem, e1], rfl⟩
                · refine step_callv rfl 12 _ _ rfl (by kernel_rfl) fun A ww hb hw hf => ?_
                  have e1 : A.tmps.getD 140 undef = .slice a8 zs.length c8 := hf 2 140 (by kernel_rfl)
                  have e2 : A.tmps.getD 141 undef = .int .i64 ip := hf 3 141 (by kernel_rfl)
                  show Calls Try.prog 12 #[A.tmps.getD 140 undef, A.tmps.getD 141 undef] ww _
                  rw [e1, e2]
                  exact (SZ ww (o84.rd.up hw)).out.mono (by rintro r w' ⟨⟨a1, c1, g1, rfl, o1, p1, q1, r1⟩, n'⟩; exact ⟨_, rfl, n', _, _, _, rfl⟩)
                · refine step_pure rfl fun A ww hb hw hf => ?_
                  obtain ⟨x1, y1, n1, e1⟩ := hf 4 142 (by kernel_rfl)
                  have e1 := gdv e1
                  have h1 := fdT tb x1 y1 n1 ww
                  exact ⟨.bool tb, by simp [go_sem, e1, h1], rfl⟩
                · refine step_pure rfl fun A ww hb hw hf => ?_
                  have e1 : A.tmps[139]?.getD undef = .bool tb := gdv (hf 1 139 (by kernel_rfl))
                  have e2 : A.tmps[143]?.getD undef = .bool tb := gdv (hf 5 143 (by kernel_rfl))
                  exact ⟨.bool false, by cases tb <;> simp [go_sem, e1, e2], rfl⟩
              intro A y5 hb' hw hF
              have e2 := hF 6 144 (by kernel_rfl)
              obtain ⟨vs, hvs⟩ : ∃ vs : Nat → Value, ∀ d, A.tmps.getD d undef = vs d := ⟨_, fun _ => rfl⟩
              rw [hvs] at e2
              rw [puts_of (md := .any) (k := 7) (by kernel_rfl) rfl hb' vs hvs]
              clear hb' hF hvs
              have e3 : vs 144 = .bool false := e2
              clear e2
              simp only [puts, e3, Act.put, List.setIfInBounds_toArray, List.set_cons_succ, List.set_cons_zero]
              clear e3
              have M4 := nxt M4a hw
              have TF := TF3.up hw
              have o85 := o84.up hw
              have oA := oA4.up hw
              clear SZ M4a TF3 o84 oA4 hw
              cases tb with
              | false =>
                have f0 := TF.c0
                go_wp2
                go_quiet (fail)
                go_wp2
                go_ret
                exact ⟨rfl, below_drewN M4 _⟩
              | true =>
                obtain ⟨k, tn, rfl, rfl, kn, nz, bk⟩ := BF.out rfl
                have HBK := hide bk
                clear bk BF
                obtain ⟨off, rfl, -⟩ := id o85 (by omega)
                have R0 := rd_cutP o85.rd q8 k (tn - k)
                rw [show cutP g8 off c8 k = some ⟨g8, off + k, none⟩ by unfold cutP; rw [if_neg (by omega)]] at R0
                have LZ := hide (show ((zs.drop k).take (tn - k)).length = tn - k by rw [List.length_take, List.length_drop]; omega)
                have knt : (k : Int) ≤ (tn : Int) := by omega
                have nzt : (tn : Int) ≤ (zs.length : Int) := by omega
                have s1 : ¬ (c8 = k) := by omega
                have s2 : (tn : Int) ≤ (c8 : Int) := by omega
                have s3 : k ≤ tn := by omega
                have s4 : tn ≤ c8 := by omega
                have s5 : k ≤ c8 := by omega
                generalize (zs.drop k).take (tn - k) = Z at *
                have BK := HBK
                have RZ8 := hide (fun ww (hw : Below y5.heap.size y5 ww) => R0.up hw)
                clear R0 HBK
                go_upto_region 30 with fail
                refine region_guard (fun i => [Fact.eq (.pointer (some ⟨y3.heap.size, 0, none⟩)), Fact.eq (.bool true), Fact.eq (.bool false), Fact.eq (.bool false), Fact.eq (.int .i64 (k : Int)), Fact.eq (.bool true), Fact.eq (.bool true), Fact.eq (.pointer (some ⟨y3.heap.size, 3, none⟩)), Fact.eq (.int .i64 (tn : Int)), Fact.eq (.int .i64 (k : Int)), Fact.eq (.bool true), Fact.eq (.bool true), Fact.eq (.bool true), Fact.eq (.pointer (some ⟨y3.heap.size, 3, none⟩)), Fact.eq (.int .i64 (tn : Int)), Fact.eq (.slice (some ⟨g8, off, none⟩) zs.length c8), Fact.eq (.int .i64 (zs.length : Int)), Fact.eq (.bool true), Fact.eq (.bool true), Fact.eq (.bool true), Fact.eq (.pointer (some ⟨y3.heap.size, 1, none⟩)), Fact.eq (.int .i64 tt), Fact.eq (.pointer (some ⟨y3.heap.size, 2, none⟩)), Fact.eq (.slice aA tl.length cA), RDn Z, Fact.eq (.slice (some ⟨g8, off, none⟩) zs.length c8), Fact.eq (.int .i64 (k : Int)), Fact.eq (.pointer (some ⟨y3.heap.size, 3, none⟩)), Fact.eq (.int .i64 (tn : Int)), RDn Z, Fact.eq (.bool true), Fact.eq (.bool true), Fact.eq (.bool true), Fact.eq (.bool true)].getD i Fact.no) (by kernel_rfl) (by kernel_rfl) ?_ ?_ ?_
                · intro i hi
                  have hiN : i < 34 := hi
                  obtain rfl | rfl | rfl | rfl | rfl | rfl | rfl | rfl | rfl | rfl | rfl | rfl | rfl | rfl | rfl | rfl | rfl | rfl | rfl | rfl | rfl | rfl | rfl | rfl | rfl | rfl | rfl | rfl | rfl | rfl | rfl | rfl | rfl | rfl : i = 0 ∨ i = 1 ∨ i = 2 ∨ i = 3 ∨ i = 4 ∨ i = 5 ∨ i = 6 ∨ i = 7 ∨ i = 8 ∨ i = 9 ∨ i = 10 ∨ i = 11 ∨ i = 12 ∨ i = 13 ∨ i = 14 ∨ i = 15 ∨ i = 16 ∨ i = 17 ∨ i = 18 ∨ i = 19 ∨ i = 20 ∨ i = 21 ∨ i = 22 ∨ i = 23 ∨ i = 24 ∨ i = 25 ∨ i = 26 ∨ i = 27 ∨ i = 28 ∨ i = 29 ∨ i = 30 ∨ i = 31 ∨ i = 32 ∨ i = 33 := by omega
                  · refine step_pure rfl fun A ww hb hw hf => ?_
                    have e15 : A.tmps[15]?.getD undef = .pointer (some ⟨y3.heap.size, 0, none⟩) := gdv (hb.2.2 15 (by kernel_rfl))
                    exact ⟨.pointer (some ⟨y3.heap.size, 0, none⟩), by simp [go_sem, e15], rfl⟩
                  · refine step_pure rfl fun A ww hb hw hf => ?_
                    have e145 : A.tmps[145]?.getD undef = .pointer (some ⟨y3.heap.size, 0, none⟩) := gdv (hf 0 145 (by kernel_rfl))
                    have hc := (TF.up hw).c0
                    exact ⟨.bool true, by simp [go_sem, e145, hc], rfl⟩
                  · refine step_pure rfl fun A ww hb hw hf => ?_
                    have e146 : A.tmps[146]?.getD undef = .bool true := gdv (hf 1 146 (by kernel_rfl))
                    exact ⟨.bool false, by simp [go_sem, e146], rfl⟩
                  · refine step_pure rfl fun A ww hb hw hf => ?_
                    have e147 : A.tmps[147]?.getD undef = .bool false := gdv (hf 2 147 (by kernel_rfl))
                    exact ⟨.bool false, by simp [go_sem, e147], rfl⟩
                  · refine step_pure rfl fun A ww hb hw hf => ?_
                    have e14 : A.tmps[14]?.getD undef = .int .i64 (k : Int) := gdv (hb.2.2 14 (by kernel_rfl))
                    exact ⟨.int .i64 (k : Int), by simp [go_sem, e14], rfl⟩
                  · refine step_pure rfl fun A ww hb hw hf => ?_
                    have e149 : A.tmps[149]?.getD undef = .int .i64 (k : Int) := gdv (hf 4 149 (by kernel_rfl))
                    exact ⟨.bool true, by simp [go_sem, e149], rfl⟩
                  · refine step_pure rfl fun A ww hb hw hf => ?_
                    have e150 : A.tmps[150]?.getD undef = .bool true := gdv (hf 5 150 (by kernel_rfl))
                    exact ⟨.bool true, by simp [go_sem, e150], rfl⟩
                  · refine step_pure rfl fun A ww hb hw hf => ?_
                    have e15 : A.tmps[15]?.getD undef = .pointer (some ⟨y3.heap.size, 0, none⟩) := gdv (hb.2.2 15 (by kernel_rfl))
                    exact ⟨.pointer (some ⟨y3.heap.size, 3, none⟩), by simp [go_sem, e15], rfl⟩
                  · refine step_pure rfl fun A ww hb hw hf => ?_
                    have e152 : A.tmps[152]?.getD undef = .pointer (some ⟨y3.heap.size, 3, none⟩) := gdv (hf 7 152 (by kernel_rfl))
                    have hc := (TF.up hw).c3
                    exact ⟨.int .i64 (tn : Int), by simp [go_sem, e152, hc], rfl⟩
                  · refine step_pure rfl fun A ww hb hw hf => ?_
                    have e14 : A.tmps[14]?.getD undef = .int .i64 (k : Int) := gdv (hb.2.2 14 (by kernel_rfl))
                    exact ⟨.int .i64 (k : Int), by simp [go_sem, e14], rfl⟩
                  · refine step_pure rfl fun A ww hb hw hf => ?_
                    have e153 : A.tmps[153]?.getD undef = .int .i64 (tn : Int) := gdv (hf 8 153 (by kernel_rfl))
                    have e154 : A.tmps[154]?.getD undef = .int .i64 (k : Int) := gdv (hf 9 154 (by kernel_rfl))
                    exact ⟨.bool true, by simp [go_sem, e153, e154, knt], rfl⟩
                  · exact step_pickT rfl 151 155 6 10 rfl (by kernel_rfl) (by kernel_rfl) rfl rfl rfl
                  · refine step_pure rfl fun A ww hb hw hf => ?_
                    have e156 : A.tmps[156]?.getD undef = .bool true := gdv (hf 11 156 (by kernel_rfl))
                    exact ⟨.bool true, by simp [go_sem, e156], rfl⟩
                  · refine step_pure rfl fun A ww hb hw hf => ?_
                    have e15 : A.tmps[15]?.getD undef = .pointer (some ⟨y3.heap.size, 0, none⟩) := gdv (hb.2.2 15 (by kernel_rfl))
                    exact ⟨.pointer (some ⟨y3.heap.size, 3, none⟩), by simp [go_sem, e15], rfl⟩
                  · refine step_pure rfl fun A ww hb hw hf => ?_
                    have e158 : A.tmps[158]?.getD undef = .pointer (some ⟨y3.heap.size, 3, none⟩) := gdv (hf 13 158 (by kernel_rfl))
                    have hc := (TF.up hw).c3
                    exact ⟨.int .i64 (tn : Int), by simp [go_sem, e158, hc], rfl⟩
                  · refine step_pure rfl fun A ww hb hw hf => ?_
                    have e13 : A.tmps[13]?.getD undef = .slice (some ⟨g8, off, none⟩) zs.length c8 := gdv (hb.2.2 13 (by kernel_rfl))
                    exact ⟨.slice (some ⟨g8, off, none⟩) zs.length c8, by simp [go_sem, e13], rfl⟩
                  · refine step_pure rfl fun A ww hb hw hf => ?_
                    have e160 : A.tmps[160]?.getD undef = .slice (some ⟨g8, off, none⟩) zs.length c8 := gdv (hf 15 160 (by kernel_rfl))
                    exact ⟨.int .i64 (zs.length : Int), by simp [go_sem, e160], rfl⟩
                  · refine step_pure rfl fun A ww hb hw hf => ?_
                    have e159 : A.tmps[159]?.getD undef = .int .i64 (tn : Int) := gdv (hf 14 159 (by kernel_rfl))
                    have e161 : A.tmps[161]?.getD undef = .int .i64 (zs.length : Int) := gdv (hf 16 161 (by kernel_rfl))
                    exact ⟨.bool true, by simp [go_sem, e159, e161, nzt], rfl⟩
                  · exact step_pickT rfl 157 162 12 17 rfl (by kernel_rfl) (by kernel_rfl) rfl rfl rfl
                  · refine step_pure rfl fun A ww hb hw hf => ?_
                    have e163 : A.tmps[163]?.getD undef = .bool true := gdv (hf 18 163 (by kernel_rfl))
                    exact ⟨.bool true, by simp [go_sem, e163], rfl⟩
                  · refine step_pure rfl fun A ww hb hw hf => ?_
                    have e15 : A.tmps[15]?.getD undef = .pointer (some ⟨y3.heap.size, 0, none⟩) := gdv (hb.2.2 15 (by kernel_rfl))
                    exact ⟨.pointer (some ⟨y3.heap.size, 1, none⟩), by simp [go_sem, e15], rfl⟩
                  · refine step_pure rfl fun A ww hb hw hf => ?_
                    have e165 : A.tmps[165]?.getD undef = .pointer (some ⟨y3.heap.size, 1, none⟩) := gdv (hf 20 165 (by kernel_rfl))
                    have hc := (TF.up hw).c1
                    exact ⟨.int .i64 tt, by simp [go_sem, e165, hc], rfl⟩
                  · refine step_pure rfl fun A ww hb hw hf => ?_
                    have e15 : A.tmps[15]?.getD undef = .pointer (some ⟨y3.heap.size, 0, none⟩) := gdv (hb.2.2 15 (by kernel_rfl))
                    exact ⟨.pointer (some ⟨y3.heap.size, 2, none⟩), by simp [go_sem, e15], rfl⟩
                  · refine step_pure rfl fun A ww hb hw hf => ?_
                    have e167 : A.tmps[167]?.getD undef = .pointer (some ⟨y3.heap.size, 2, none⟩) := gdv (hf 22 167 (by kernel_rfl))
                    have hc := (TF.up hw).c2
                    exact ⟨.slice aA tl.length cA, by simp [go_sem, e167, hc], rfl⟩
                  · refine step_callv rfl 6 _ _ rfl (by kernel_rfl) fun A ww hb hw hf => ?_
                    have e6 : A.tmps.getD 166 undef = .int .i64 tt := hf 21 166 (by kernel_rfl)
                    have e8 : A.tmps.getD 168 undef = .slice aA tl.length cA := hf 23 168 (by kernel_rfl)
                    show Calls Try.prog 6 #[A.tmps.getD 166 undef, A.tmps.getD 168 undef] ww _
                    rw [e6, e8]
                    have IE := implEncodeItem_any ww tt gA aA cA tl (oA.up hw).rd PA.out
                    rw [BK.out] at IE
                    exact IE.mono (by rintro r w' ⟨⟨a1, c1, g1, rfl, o1, p1, q1, r1⟩, n⟩; exact ⟨_, rfl, n, a1, c1, g1, rfl, o1.rd⟩)
                  · refine step_pure rfl fun A ww hb hw hf => ?_
                    have e13 : A.tmps[13]?.getD undef = .slice (some ⟨g8, off, none⟩) zs.length c8 := gdv (hb.2.2 13 (by kernel_rfl))
                    exact ⟨.slice (some ⟨g8, off, none⟩) zs.length c8, by simp [go_sem, e13], rfl⟩
                  · refine step_pure rfl fun A ww hb hw hf => ?_
                    have e14 : A.tmps[14]?.getD undef = .int .i64 (k : Int) := gdv (hb.2.2 14 (by kernel_rfl))
                    exact ⟨.int .i64 (k : Int), by simp [go_sem, e14], rfl⟩
                  · refine step_pure rfl fun A ww hb hw hf => ?_
                    have e15 : A.tmps[15]?.getD undef = .pointer (some ⟨y3.heap.size, 0, none⟩) := gdv (hb.2.2 15 (by kernel_rfl))
                    exact ⟨.pointer (some ⟨y3.heap.size, 3, none⟩), by simp [go_sem, e15], rfl⟩
                  · refine step_pure rfl fun A ww hb hw hf => ?_
                    have e172 : A.tmps[172]?.getD undef = .pointer (some ⟨y3.heap.size, 3, none⟩) := gdv (hf 27 172 (by kernel_rfl))
                    have hc := (TF.up hw).c3
                    exact ⟨.int .i64 (tn : Int), by simp [go_sem, e172, hc], rfl⟩
                  · refine step_pure rfl fun A ww hb hw hf => ?_
                    have e170 : A.tmps[170]?.getD undef = .slice (some ⟨g8, off, none⟩) zs.length c8 := gdv (hf 25 170 (by kernel_rfl))
                    have e171 : A.tmps[171]?.getD undef = .int .i64 (k : Int) := gdv (hf 26 171 (by kernel_rfl))
                    have e173 : A.tmps[173]?.getD undef = .int .i64 (tn : Int) := gdv (hf 28 173 (by kernel_rfl))
                    refine ⟨.slice (some ⟨g8, off + k, none⟩) Z.length (c8 - k), ?_, _, _, g8, rfl, RZ8.out ww hw⟩
                    rw [LZ.out]
                    simp [go_sem, e170, e171, e173, s1, s2, s3, Addr.add]
                  · refine step_callv rfl 9 _ _ rfl (by kernel_rfl) fun A ww hb hw hf => ?_
                    obtain ⟨b1, d1, f1, e1, r1⟩ := hf 24 169 (by kernel_rfl)
                    obtain ⟨b2, d2, f2, e2, r2⟩ := hf 29 174 (by kernel_rfl)
                    show Calls Try.prog 9 #[A.tmps.getD 169 undef, A.tmps.getD 174 undef] ww _
                    rw [e1, e2]
                    exact (lwSame_same ww f1 f2 b1 b2 d1 d2 Z r1 r2).mono (by rintro r w' ⟨rfl, rfl⟩; exact ⟨_, rfl, Below.refl _ _, rfl⟩)
                  · exact step_pickT rfl 164 175 19 30 rfl (by kernel_rfl) (by kernel_rfl) rfl rfl rfl
                  · exact step_pickF rfl 148 176 3 31 rfl (by kernel_rfl) (by kernel_rfl) rfl rfl rfl
                  · refine step_pure rfl fun A ww hb hw hf => ?_
                    have e177 : A.tmps[177]?.getD undef = .bool true := gdv (hf 32 177 (by kernel_rfl))
                    exact ⟨.bool true, by simp [go_sem, e177], rfl⟩
                · intro i o ho A WW hf
                  have hiN : i < 34 := (Array.getElem?_eq_some_iff.1 ho).1
                  obtain rfl | rfl | rfl | rfl | rfl | rfl | rfl | rfl | rfl | rfl | rfl | rfl | rfl | rfl | rfl | rfl | rfl | rfl | rfl | rfl | rfl | rfl | rfl | rfl | rfl | rfl | rfl | rfl | rfl | rfl | rfl | rfl | rfl | rfl : i = 0 ∨ i = 1 ∨ i = 2 ∨ i = 3 ∨ i = 4 ∨ i = 5 ∨ i = 6 ∨ i = 7 ∨ i = 8 ∨ i = 9 ∨ i = 10 ∨ i = 11 ∨ i = 12 ∨ i = 13 ∨ i = 14 ∨ i = 15 ∨ i = 16 ∨ i = 17 ∨ i = 18 ∨ i = 19 ∨ i = 20 ∨ i = 21 ∨ i = 22 ∨ i = 23 ∨ i = 24 ∨ i = 25 ∨ i = 26 ∨ i = 27 ∨ i = 28 ∨ i = 29 ∨ i = 30 ∨ i = 31 ∨ i = 32 ∨ i = 33 := by omega
                  · cases ho; exact wanted_none rfl
                  · cases ho; exact wanted_none rfl
                  · cases ho; exact wanted_none rfl
                  · cases ho; exact wanted_none rfl
                  · cases ho; exact wanted_some rfl (by kernel_rfl) (hf 3 148 (by kernel_rfl))
                  · cases ho; exact wanted_some rfl (by kernel_rfl) (hf 3 148 (by kernel_rfl))
                  · cases ho; exact wanted_some rfl (by kernel_rfl) (hf 3 148 (by kernel_rfl))
                  · cases ho; exact wanted_some rfl (by kernel_rfl) (hf 6 151 (by kernel_rfl))
                  · cases ho; exact wanted_some rfl (by kernel_rfl) (hf 6 151 (by kernel_rfl))
                  · cases ho; exact wanted_some rfl (by kernel_rfl) (hf 6 151 (by kernel_rfl))
                  · cases ho; exact wanted_some rfl (by kernel_rfl) (hf 6 151 (by kernel_rfl))
                  · cases ho; exact wanted_some rfl (by kernel_rfl) (hf 3 148 (by kernel_rfl))
                  · cases ho; exact wanted_some rfl (by kernel_rfl) (hf 3 148 (by kernel_rfl))
                  · cases ho; exact wanted_some rfl (by kernel_rfl) (hf 12 157 (by kernel_rfl))
                  · cases ho; exact wanted_some rfl (by kernel_rfl) (hf 12 157 (by kernel_rfl))
                  · cases ho; exact wanted_some rfl (by kernel_rfl) (hf 12 157 (by kernel_rfl))
                  · cases ho; exact wanted_some rfl (by kernel_rfl) (hf 12 157 (by kernel_rfl))
                  · cases ho; exact wanted_some rfl (by kernel_rfl) (hf 12 157 (by kernel_rfl))
                  · cases ho; exact wanted_some rfl (by kernel_rfl) (hf 3 148 (by kernel_rfl))
                  · cases ho; exact wanted_some rfl (by kernel_rfl) (hf 3 148 (by kernel_rfl))
                  · cases ho; exact wanted_some rfl (by kernel_rfl) (hf 19 164 (by kernel_rfl))
                  · cases ho; exact wanted_some rfl (by kernel_rfl) (hf 19 164 (by kernel_rfl))
                  · cases ho; exact wanted_some rfl (by kernel_rfl) (hf 19 164 (by kernel_rfl))
                  · cases ho; exact wanted_some rfl (by kernel_rfl) (hf 19 164 (by kernel_rfl))
                  · cases ho; exact wanted_some rfl (by kernel_rfl) (hf 19 164 (by kernel_rfl))
                  · cases ho; exact wanted_some rfl (by kernel_rfl) (hf 19 164 (by kernel_rfl))
                  · cases ho; exact wanted_some rfl (by kernel_rfl) (hf 19 164 (by kernel_rfl))
                  · cases ho; exact wanted_some rfl (by kernel_rfl) (hf 19 164 (by kernel_rfl))
                  · cases ho; exact wanted_some rfl (by kernel_rfl) (hf 19 164 (by kernel_rfl))
                  · cases ho; exact wanted_some rfl (by kernel_rfl) (hf 19 164 (by kernel_rfl))
                  · cases ho; exact wanted_some rfl (by kernel_rfl) (hf 19 164 (by kernel_rfl))
                  · cases ho; exact wanted_some rfl (by kernel_rfl) (hf 3 148 (by kernel_rfl))
                  · cases ho; exact wanted_none rfl
                  · cases ho; exact wanted_none rfl
                intro A W4 hb' hw hF
                have e2 := hF 33 4 (by kernel_rfl)
                obtain ⟨vs, hvs⟩ : ∃ vs : Nat → Value, ∀ d, A.tmps.getD d undef = vs d := ⟨_, fun _ => rfl⟩
                rw [hvs] at e2
                rw [puts_guard (md := .any) (by kernel_rfl) rfl hb' vs hvs]
                clear hb' hF hvs
                have e3 : vs 4 = .bool true := e2
                clear e2
                simp only [puts, e3, Act.put, List.setIfInBounds_toArray, List.set_cons_succ, List.set_cons_zero]
                clear e3
                have NN := nxt M4 hw
                go_wp2
                go_ret
                exact ⟨rfl, NN⟩
    · have u1 : decide ((1048576 : Int) < (X1.length : Int)) = true := by simp; omega
      go_enter Try.func3, Try.ntmps3
      go_wp2
      go_ret
      exact ⟨rfl, Below.refl _ _⟩
  · have u0 : decide ((1048576 : Int) < (X0.length : Int)) = true := by simp; omega
    go_enter Try.func3, Try.ntmps3
    go_wp2
    go_ret
    exact ⟨rfl, Below.refl _ _⟩
end Go.Proofs.Ythkhfljoflffpaa
