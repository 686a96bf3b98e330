
/-
  What is drawn below a great number; integers that are drawn.
-/
import Derived.Test.YtakcpkfofgiehaaDrL
import Derived.Test.YtakcpkfofgiehaaNiA
namespace Go.Proofs.Ytakcpkfofgiehaa
open Go Go.RowKit

set_option maxHeartbeats 2000000 in
theorem l1NextB_any (w : World) (s g : Nat) (a : Option Addr) (c : Nat) (xs : List Int) (t n : Int) (hs : Src w s a xs.length c t) (hr : Rd w g a .u8 xs) (hne : 0 < xs.length → g ≠ s) (hb : Byt xs) (hl : xs.length ≤ 1048576)
    (t0 : 0 ≤ t) (t1 : t ≤ 1048576) (n0 : 1 ≤ n) (n1 : n ≤ 4611686018427387904) :
    Calls Try.prog 52 #[.pointer (some ⟨s, 0, none⟩), .int .i64 n] w fun e w' => ∃ r, e = .returned (.int .i64 r) ∧ (0 ≤ r ∧ r < n) ∧ Src w' s a xs.length c (t + 1) ∧ Only s w w' := by
  have c0 := hs.code
  have c1 := hs.at_
  have f1 := hs.free
  have k1 : (w.setCell ⟨s, 1, none⟩ (.int .i64 (t + 1))).cell? ⟨s, 1, none⟩ = some (.int .i64 (t + 1)) := World.cell?_setCell_same _ _ _ hs.at_
  have k0 : (w.setCell ⟨s, 1, none⟩ (.int .i64 (t + 1))).cell? ⟨s, 0, none⟩ = some (.slice a xs.length c) := by rw [World.cell?_setCell_other (h := by simp)]; exact hs.code
  have tn : decide (n < 1) = false := by simp; omega
  by_cases h0 : xs.length = 0
  · have hk : ((xs.length : Int) == 0) = true := by simp [h0]
    have r0 := Int.emod_nonneg (t * 7) (show n ≠ 0 by omega)
    have r1 := Int.emod_lt_of_pos (t * 7) (show 0 < n by omega)
    have S := hs.step (t + 1) 0
    have O := Only.step w s (.int .i64 (t + 1)) 0
    clear h0
    go_enter Try.func52, Try.ntmps52
    go_wp2
    go_ret
    exact ⟨_, rfl, ⟨r0, r1⟩, S, O⟩
  · have hk : ((xs.length : Int) == 0) = false := beq_eq_false_iff_ne.2 (by omega)
    obtain ⟨off, rfl, hc⟩ := hr (by omega)
    have gs : g ≠ s := hne (by omega)
    obtain ⟨i1, hi1⟩ := Int.eq_ofNat_of_zero_le (Int.emod_nonneg t (show (xs.length : Int) ≠ 0 by omega))
    have li1 : (i1 : Int) < (xs.length : Int) := by rw [← hi1]; exact Int.emod_lt_of_pos _ (by omega)
    obtain ⟨i2, hi2⟩ := Int.eq_ofNat_of_zero_le (Int.emod_nonneg (t + 1) (show (xs.length : Int) ≠ 0 by omega))
    have li2 : (i2 : Int) < (xs.length : Int) := by rw [← hi2]; exact Int.emod_lt_of_pos _ (by omega)
    obtain ⟨q, hq⟩ : ∃ q, t / (xs.length : Int) = q := ⟨_, rfl⟩
    have q0 : 0 ≤ q := by rw [← hq]; exact Int.ediv_nonneg t0 (by omega)
    have q1 : q ≤ 1048576 := by rw [← hq]; exact Int.le_trans (Int.ediv_le_self _ t0) t1
    have x1 : (w.setCell ⟨s, 1, none⟩ (.int .i64 (t + 1))).cell? ⟨g, off + i1, none⟩ = some (.int .u8 (xs.getD i1 0)) := by rw [World.cell?_setCell_other (h := fun e => gs (by simpa using (congrArg Addr.block e).symm))]; exact hc i1 (by omega)
    have x2 : (w.setCell ⟨s, 1, none⟩ (.int .i64 (t + 1))).cell? ⟨g, off + i2, none⟩ = some (.int .u8 (xs.getD i2 0)) := by rw [World.cell?_setCell_other (h := fun e => gs (by simpa using (congrArg Addr.block e).symm))]; exact hc i2 (by omega)
    have b1 := hb i1
    have b2 := hb i2
    have S := fun m => hs.step (t + 1) m
    have O := fun m => Only.step w s (.int .i64 (t + 1)) m
    generalize xs.getD i1 0 = x at *
    generalize xs.getD i2 0 = y at *
    clear hc hs hr h0
    by_cases hn : n ≤ 200
    · have tn2 : decide (200 < n) = false := by simp; omega
      have r0 := Int.emod_nonneg (x + q * 37) (show n ≠ 0 by omega)
      have r1 := Int.emod_lt_of_pos (x + q * 37) (show 0 < n by omega)
      clear x2 hi2 li2 b2
      go_enter Try.func52, Try.ntmps52
      go_wp2
      go_quiet (fail)
      go_wp2
      go_ret
      exact ⟨_, rfl, ⟨r0, r1⟩, S _, O _⟩
    · have tn2 : decide (200 < n) = true := by simp; omega
      have r0 := Int.emod_nonneg ((x + q * 37) * 251 + y * 13 + t) (show n ≠ 0 by omega)
      have r1 := Int.emod_lt_of_pos ((x + q * 37) * 251 + y * 13 + t) (show 0 < n by omega)
      go_enter Try.func52, Try.ntmps52
      go_wp2
      go_quiet (fail)
      go_wp2
      go_quiet (fail)
      go_wp2
      go_ret
      exact ⟨_, rfl, ⟨r0, r1⟩, S _, O _⟩

set_option maxHeartbeats 2000000 in
theorem l10DrawInt_any (w : World) (s g : Nat) (a : Option Addr) (c : Nat) (xs : List Int) (t : Int) (hs : Src w s a xs.length c t) (hr : Rd w g a .u8 xs) (hne : 0 < xs.length → g ≠ s) (hb : Byt xs) (hl : xs.length ≤ 1048576)
    (t0 : 0 ≤ t) (t1 : t ≤ 1000000) :
    Calls Try.prog 48 #[.pointer (some ⟨s, 0, none⟩)] w fun e w' => ∃ v, e = .returned (.int .i64 v) ∧ (-9223372036854775808 ≤ v ∧ v < 9223372036854775808) ∧ Only s w w' := by
  have N1 := hide (l1NextB_any w s g a c xs t 63 hs hr hne hb hl t0 (by omega) (by decide) (by decide))
  go_enter Try.func48, Try.ntmps48
  go_wp2_with fail
  refine N1.out.mono ?_
  rintro e w1 ⟨r, rfl, hr1, S1, O1⟩
  obtain ⟨k, rfl⟩ := Int.eq_ofNat_of_zero_le hr1.1
  have Rk : ∀ W, Only s w W → Rd W g a .u8 xs := fun W o => by
    by_cases h0 : 0 < xs.length
    · exact hr.of_block (o.block g (hne h0))
    · obtain rfl : xs = [] := List.eq_nil_of_length_eq_zero (by omega)
      exact Rd.nil _ _ _ _
  have N2 := hide (l1NextB_any w1 s g a c xs (t + 1) 6 S1 (Rk w1 O1) hne hb hl (by omega) (by omega) (by decide) (by decide))
  have p0 : (1 : Int) ≤ 2 ^ k := Int.pow_pos (by decide)
  have p1 : (2 : Int) ^ k ≤ 4611686018427387904 := by
    have : (2 : Int) ^ k ≤ 2 ^ 62 := by exact_mod_cast Nat.pow_le_pow_right (by decide) (by omega)
    simpa using this
  have wk : wrap64 (2 ^ k) = 2 ^ k := by unfold wrap64; omega
  go_wp2_with fail
  refine N2.out.mono ?_
  rintro e w2 ⟨q, rfl, hq, S2, O2⟩
  try rw [wk]
  have N3 := fun n h0 h1 => hide (l1NextB_any w2 s g a c xs (t + 1 + 1) n S2 (Rk w2 (O1.trans O2)) hne hb hl (by omega) (by omega) h0 h1)
  have O12 := O1.trans O2
  clear N1 N2 Rk S1 S2 O1 O2 wk
  generalize (2 : Int) ^ k = p at *
  obtain rfl | rfl | rfl | rfl | rfl | rfl : q = 0 ∨ q = 1 ∨ q = 2 ∨ q = 3 ∨ q = 4 ∨ q = 5 := by omega
  · go_wp2_with fail
    refine (N3 3 (by decide) (by decide)).out.mono ?_
    rintro e w3 ⟨r, rfl, h3, S3, O3⟩
    go_wp2
    go_ret
    exact ⟨_, rfl, by constructor <;> omega, O12.trans O3⟩
  · go_wp2_with fail
    refine (N3 3 (by decide) (by decide)).out.mono ?_
    rintro e w3 ⟨r, rfl, h3, S3, O3⟩
    go_wp2
    go_ret
    exact ⟨_, rfl, by constructor <;> omega, O12.trans O3⟩
  · go_wp2
    go_ret
    exact ⟨_, rfl, by constructor <;> omega, O12⟩
  · go_wp2_with fail
    refine (N3 300 (by decide) (by decide)).out.mono ?_
    rintro e w3 ⟨r, rfl, h3, S3, O3⟩
    go_wp2
    go_ret
    exact ⟨_, rfl, by constructor <;> omega, O12.trans O3⟩
  · go_wp2_with fail
    refine (N3 4611686018427387904 (by decide) (by decide)).out.mono ?_
    rintro e w3 ⟨r, rfl, h3, S3, O3⟩
    go_wp2
    go_ret
    exact ⟨_, rfl, by constructor <;> omega, O12.trans O3⟩
  · go_wp2_with fail
    refine (N3 3 (by decide) (by decide)).out.mono ?_
    rintro e w3 ⟨r, rfl, h3, S3, O3⟩
    go_wp2
    go_ret
    exact ⟨_, rfl, by constructor <;> omega, O12.trans O3⟩
end Go.Proofs.Ytakcpkfofgiehaa
