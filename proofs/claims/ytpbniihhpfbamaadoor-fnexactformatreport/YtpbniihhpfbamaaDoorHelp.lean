
/-
  The contracts of the laws' own helpers on bytes.
-/
import Derived.Test.YtpbniihhpfbamaaDoorRows
import Derived.Test.YtpbniihhpfbamaaDoorBase
import Derived.WalkSpells
import Derived.Deep.QuietTactic
import Derived.BigQuiet
namespace Go.Proofs.YtpbniihhpfbamaaDoor
set_option maxRecDepth 100000
open Go.RowKit

theorem Tryd.info5 : (Tryd.prog.info? 5).map (fun i => (i.zero, i.size, i.bytes)) = some (some (.int .u8 0), 1, 1) := by kernel_rfl

/-- The first k places of ys are those of xs. -/
def CopyTo (xs ys : List Int) (k : Nat) : Prop := ys.length = xs.length ∧ ∀ j, j < k → ys.getD j 0 = xs.getD j 0
theorem CopyTo.zero (xs : List Int) : CopyTo xs (List.replicate xs.length 0) 0 := ⟨by simp, fun j h => absurd h (by omega)⟩
theorem CopyTo.step {xs ys : List Int} {k : Nat} (h : CopyTo xs ys k) (hk : k < xs.length) : CopyTo xs (ys.set k (xs.getD k 0)) (k + 1) := by
  refine ⟨by simpa using h.1, fun j hj => ?_⟩
  by_cases e : k = j
  · subst e
    rw [getD_set_self _ _ _ (by rw [h.1]; exact hk)]
  · rw [getD_set_ne _ _ _ _ e]
    exact h.2 j (by omega)
theorem CopyTo.all {xs ys : List Int} (h : CopyTo xs ys xs.length) : ys = xs := eq_of_getD h.1 (fun i hi => h.2 i (by rw [← h.1]; exact hi))

set_option maxRecDepth 100000 in
set_option maxHeartbeats 400000 in
theorem toByteS_any (w : World) (g : Nat) (a : Option Addr) (cap : Nat) (xs : List Int) (hr : Rd w g a .u8 xs) (hn : xs.length ≤ 1048576) :
    Calls Tryd.prog 34 #[.slice a xs.length cap] w fun e w' => e = .returned (.slice (some ⟨w.heap.size, 0, none⟩) xs.length xs.length) ∧ Blk w' w.heap.size .u8 xs ∧ Below w.heap.size w w' := by
  obtain ⟨i0, hi, hz0, hz1, hz2⟩ := info_parts Tryd.info5
  go_enter Tryd.func34, Tryd.ntmps34
  go_wp2_with (at_make; refine wpList_make_full _ rfl _ _ 23 rfl w.heap.size 5 i0 (.int .u8 0) 1 Tryd.underlying23 hi hz0 hz1 .i64 .i64 _ _ xs.length rfl rfl rfl rfl (by rw [hz2]; omega) (by unfold maxLen; omega) (Nat.le_refl _) ?_; intro w1 hown hgrow)
  have hB0 := Blk.of_made hown
  have hN0 : Below w.heap.size w w1 := (Below.refl _ _).grown hgrow (Nat.le_refl _) (by simp)
  clear hown hgrow
  go_loopw [4] (fun i wr => ∃ (k : Nat) (ys : List Int), k ≤ xs.length ∧ i = .int .i64 k ∧ CopyTo xs ys k ∧ Blk wr w.heap.size .u8 ys ∧ Below w.heap.size w wr) (fun i _ => xs.length - (intOf i).toNat)
  case atStart => exact ⟨0, _, Nat.zero_le _, rfl, CopyTo.zero xs, hB0, hN0⟩
  case round =>
    obtain ⟨k, ys, hk, rfl, hcp, hB, hN⟩ := hrel
    by_cases hlt : k < xs.length
    · obtain ⟨off, rfl, hc⟩ := hr (by omega)
      have hg := hr.lt (by omega)
      have R : CopyTo xs (ys.set k (xs.getD k 0)) (k + 1) := hcp.step hlt
      have hcx : wr.cell? ⟨g, off + k, none⟩ = some (.int .u8 (xs.getD k 0)) := (hN.cell (p := ⟨g, off + k, none⟩) hg).trans (hc k hlt)
      have hcy : wr.cell? ⟨w.heap.size, k, none⟩ = some (.int .u8 (ys.getD k 0)) := hB.cell (by rw [hcp.1]; exact hlt)
      have hfy := hB.free k
      have hB' := hB.store k (xs.getD k 0)
      have hN' : Below w.heap.size w (wr.setCell ⟨w.heap.size, k, none⟩ (.int .u8 (xs.getD k 0))) := hN.setCell (Nat.le_refl _) _
      generalize xs.getD k 0 = x at *
      clear hB hN hc hcp
      go_wp2
      go_roundw
      case rel => exact ⟨k + 1, _, by omega, by go_num, R, hB', hN'⟩
      case measure => simp [intOf]; omega
    · obtain rfl : k = xs.length := by omega
      go_wp2
      go_ret
      refine ⟨rfl, ?_, hN⟩
      rw [← hcp.all]
      exact hB

set_option maxHeartbeats 400000 in
theorem eqByteS_same (w : World) (g g' : Nat) (a b : Option Addr) (ca cb : Nat) (xs : List Int) (ha : Rd w g a .u8 xs) (hb : Rd w g' b .u8 xs) (hn : xs.length ≤ 1048576) :
    Calls Tryd.prog 48 #[.slice a xs.length ca, .slice b xs.length cb] w fun e w' => e = .returned (.bool true) ∧ Below w.heap.size w w' := by
  go_enter Tryd.func48, Tryd.ntmps48
  go_wp2
  go_loopw [5] (fun i wr => ∃ (k n : Nat), k ≤ xs.length ∧ i = .int .i64 k ∧ wr = w.drewN n) (fun i _ => xs.length - (intOf i).toNat)
  case atStart => exact ⟨0, 0, Nat.zero_le _, rfl, rfl⟩
  case round =>
    obtain ⟨k, n, hk, rfl, rfl⟩ := hrel
    by_cases hlt : k < xs.length
    · obtain ⟨off, rfl, hc⟩ := ha (by omega)
      obtain ⟨off', rfl, hc'⟩ := hb (by omega)
      have h1 := hc k hlt
      have h2 := hc' k hlt
      have hlt' : (k : Int) < (xs.length : Int) := by omega
      generalize xs.getD k 0 = x at *
      clear hc hc'
      go_wp2
      go_quiet (fail)
      go_wp2
      go_roundw
      case rel => exact ⟨k + 1, _, by omega, by go_num, rfl⟩
      case measure => simp [intOf]; omega
    · obtain rfl : k = xs.length := by omega
      go_wp2
      go_ret
      exact ⟨rfl, below_drewN (Below.refl _ _) _⟩

/-- What is marked: k, k + 1, .. as bytes. -/
def marks (k : Int) (n : Nat) : List Int := (List.range n).map fun i : Nat => (k + (i : Int)) % 256
theorem marks_len (k : Int) (n : Nat) : (marks k n).length = n := by simp [marks]
theorem marks_get (k : Int) (n i : Nat) (h : i < n) : (marks k n).getD i 0 = (k + (i : Int)) % 256 := by simp [marks, h]

/-- The first j places of ys are marked. -/
def MarkTo (k : Int) (ys : List Int) (n j : Nat) : Prop := ys.length = n ∧ ∀ i, i < j → ys.getD i 0 = (k + (i : Int)) % 256
theorem MarkTo.step {k : Int} {ys : List Int} {n j : Nat} (h : MarkTo k ys n j) (hj : j < n) : MarkTo k (ys.set j ((k + (j : Int)) % 256)) n (j + 1) := by
  refine ⟨by simpa using h.1, fun i hi => ?_⟩
  by_cases e : j = i
  · subst e
    rw [getD_set_self _ _ _ (by rw [h.1]; exact hj)]
  · rw [getD_set_ne _ _ _ _ e]
    exact h.2 i (by omega)
theorem MarkTo.all {k : Int} {ys : List Int} {n : Nat} (h : MarkTo k ys n n) : ys = marks k n :=
  eq_of_getD (by rw [h.1, marks_len]) (fun i hi => by rw [h.1] at hi; rw [h.2 i hi, marks_get k n i hi])

end Go.Proofs.YtpbniihhpfbamaaDoor
