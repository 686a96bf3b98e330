
/-
  The laws lwAt and lw32.
-/
import Derived.Test.YtjfggcefdobooaaDoorDrL
namespace Go.Proofs.YtjfggcefdobooaaDoor
set_option maxRecDepth 100000
open Go.RowKit

set_option maxHeartbeats 2000000 in
theorem lwAt_any (w : World) (g : Nat) (a : Option Addr) (c : Nat) (xs : List Int) (i n : Int) (hr : Rd w g a .u8 xs) (hb : Byt xs) (hl : xs.length ≤ 1048576) (i0 : 0 ≤ i) (i1 : i ≤ 1000) (n0 : 2 ≤ n) (n1 : n ≤ 1048576) :
    Calls Tryd.prog 8 #[.slice a xs.length c, .int .i64 i, .int .i64 n] w fun e w' => ∃ r : Nat, e = .returned (.int .i64 (r : Int)) ∧ (r : Int) < n ∧ ∃ m, w' = w.drewN m := by
  have tn : decide (n ≤ 1) = false := by simp; omega
  by_cases h0 : xs.length = 0
  · have hk : ((xs.length : Int) == 0) = true := by simp [h0]
    obtain ⟨r, hr'⟩ := Int.eq_ofNat_of_zero_le (Int.emod_nonneg (i * 7) (show n ≠ 0 by omega))
    have r1 := Int.emod_lt_of_pos (i * 7) (show 0 < n by omega)
    rw [hr'] at r1
    have HR := hide hr'
    clear h0 hr'
    go_enter Tryd.func8, Tryd.ntmps8
    go_wp2
    go_ret
    exact ⟨r, congrArg (fun v => Ending.returned (.int .i64 v)) HR.out, r1, 0, rfl⟩
  · have hk : ((xs.length : Int) == 0) = false := beq_eq_false_iff_ne.2 (by omega)
    obtain ⟨off, rfl, hc⟩ := hr (by omega)
    obtain ⟨j1, hi1⟩ := Int.eq_ofNat_of_zero_le (Int.emod_nonneg i (show (xs.length : Int) ≠ 0 by omega))
    have li1 : (j1 : Int) < (xs.length : Int) := by rw [← hi1]; exact Int.emod_lt_of_pos _ (by omega)
    obtain ⟨j2, hi2⟩ := Int.eq_ofNat_of_zero_le (Int.emod_nonneg (i + 1) (show (xs.length : Int) ≠ 0 by omega))
    have li2 : (j2 : Int) < (xs.length : Int) := by rw [← hi2]; exact Int.emod_lt_of_pos _ (by omega)
    obtain ⟨q, hq⟩ : ∃ q, i / (xs.length : Int) = q := ⟨_, rfl⟩
    have q0 : 0 ≤ q := by rw [← hq]; exact Int.ediv_nonneg i0 (by omega)
    have q1 : q ≤ 1000 := by rw [← hq]; exact Int.le_trans (Int.ediv_le_self _ i0) i1
    have x1 := hc j1 (by omega)
    have x2 := hc j2 (by omega)
    have b1 := hb j1
    have b2 := hb j2
    generalize xs.getD j1 0 = x at *
    generalize xs.getD j2 0 = y at *
    clear hc hr h0
    by_cases hn : n ≤ 200
    · have tn2 : decide (200 < n) = false := by simp; omega
      obtain ⟨r, hr'⟩ := Int.eq_ofNat_of_zero_le (Int.emod_nonneg (x + q) (show n ≠ 0 by omega))
      have r1 := Int.emod_lt_of_pos (x + q) (show 0 < n by omega)
      rw [hr'] at r1
      have HR := hide hr'
      clear x2 hi2 li2 b2 hr'
      go_enter Tryd.func8, Tryd.ntmps8
      go_wp2
      go_quiet (fail)
      go_wp2
      go_ret
      exact ⟨r, congrArg (fun v => Ending.returned (.int .i64 v)) HR.out, r1, _, rfl⟩
    · have tn2 : decide (200 < n) = true := by simp; omega
      obtain ⟨r, hr'⟩ := Int.eq_ofNat_of_zero_le (Int.emod_nonneg ((x + q) * 37 + y) (show n ≠ 0 by omega))
      have r1 := Int.emod_lt_of_pos ((x + q) * 37 + y) (show 0 < n by omega)
      rw [hr'] at r1
      have HR := hide hr'
      clear hr'
      go_enter Tryd.func8, Tryd.ntmps8
      go_wp2
      go_quiet (fail)
      go_wp2
      go_ret
      exact ⟨r, congrArg (fun v => Ending.returned (.int .i64 v)) HR.out, r1, _, rfl⟩

set_option maxHeartbeats 2000000 in
theorem lwAt_small (w : World) (a : Option Addr) (c m : Nat) (i n : Int) (n1 : n ≤ 1) : Calls Tryd.prog 8 #[.slice a m c, .int .i64 i, .int .i64 n] w fun e w' => e = .returned (.int .i64 0) ∧ w' = w := by
  have tn : decide (n ≤ 1) = true := by simpa using n1
  go_enter Tryd.func8, Tryd.ntmps8
  go_wp2
  go_ret
  exact ⟨rfl, rfl⟩

/-- 'copy' into a block that is known whole, of as much as fits. -/
theorem copy_min {P : Program} (w : World) (ty rt e : TypeId) (hu : P.underlying ty = some (.slice e)) (hsz : (P.info? e).map (·.size) = some 1) {g : Nat} {k : IntKind} {zs : List Int} (hB : Blk w g k zs)
    (gs : Nat) (sp : Option Addr) (ys : List Int) (hr : Rd w gs sp k ys) (dc sc : Nat) :
    ∃ w2, (Builtin.copy_ #[ty, ty] rt #[.slice (some ⟨g, 0, none⟩) zs.length dc, .slice sp ys.length sc]).run P w = .ok (goInt (ys.take zs.length).length) w2 ∧ Blk w2 g k (ys.take zs.length ++ zs.drop (ys.take zs.length).length) ∧ Only g w w2 := by
  by_cases h0 : 0 < ys.length
  · obtain ⟨off, rfl, hc⟩ := hr h0
    obtain ⟨t, hB⟩ := hB
    have hrun := run_copy_row (P := P) w ty ty rt e g 0 zs.length dc ⟨gs, off, none⟩ ys.length sc _ t ((ys.take zs.length).map (Value.int k)) hu hsz hB (by simp [Nat.min_comm])
      (fun j v hj => by
        have hjl : j < (ys.take zs.length).length := by
          have := (List.getElem?_eq_some_iff.1 hj).1
          simpa using this
        have hj1 : j < ys.length := by simp at hjl; omega
        have hj2 : j < zs.length := by simp at hjl; omega
        rw [add_mid, hc j hj1]
        simpa [hj1, hj2, List.getElem?_take] using hj) (by simp; omega) (oneCells _ _)
    rw [List.length_map] at hrun
    refine ⟨_, hrun, ⟨t, ?_⟩, ⟨rfl, rfl, rfl, by simp, fun i hi => setRow_other w g i _ hi⟩⟩
    rw [setRow_heap w g _ _ t _ hB]
    simp
  · obtain rfl : ys = [] := List.eq_nil_of_length_eq_zero (by omega)
    exact ⟨w, by simpa using run_copy_none (P := P) w ty ty rt e _ _ _ _ _ _ hu hsz (by simp), by simpa using hB, Only.refl _ _⟩

/-- Thirty-two bytes of a list. -/
def to32 (xs : List Int) : List Int := xs.take 32 ++ (List.replicate 32 0).drop (xs.take 32).length

theorem to32_len (xs : List Int) : (to32 xs).length = 32 := by
  unfold to32
  rw [List.length_append, List.length_drop, List.length_replicate, List.length_take]
  omega

theorem to32_byt {xs : List Int} (h : Byt xs) : Byt (to32 xs) := by
  intro i
  unfold to32
  by_cases hi : i < (xs.take 32).length
  · have h1 := h i
    have h2 : i < 32 := by simp at hi; omega
    have e : (xs.take 32 ++ (List.replicate 32 (0 : Int)).drop (xs.take 32).length).getD i 0 = xs.getD i 0 := by
      rw [List.getD_eq_getElem?_getD, List.getElem?_append, if_pos hi, List.getElem?_take, if_pos h2, List.getD_eq_getElem?_getD]
    rw [e]; exact h1
  · rw [List.getD_eq_getElem?_getD, List.getElem?_append, if_neg hi, List.getElem?_drop, List.getElem?_replicate]
    split <;> simp

end Go.Proofs.YtjfggcefdobooaaDoor
