
/-
  Times that are drawn.
-/
import Derived.Test.YtakcpkfofgiehaaDoorDrB
import Derived.Test.YtakcpkfofgiehaaDoorRwB
import Derived.Test.YtakcpkfofgiehaaDoorTmS
import Derived.Test.YtakcpkfofgiehaaDoorDtS
import Derived.Deep.DeepCutAuto
namespace Go.Proofs.YtakcpkfofgiehaaDoor
set_option maxRecDepth 100000
open Go Go.RowKit

theorem Rd.src {w w' : World} {g q : Nat} {a : Option Addr} {k : IntKind} {xs : List Int} (h : Rd w g a k xs) (n : Only q w w') (hne : 0 < xs.length → g ≠ q) : Rd w' g a k xs := h.only n hne

set_option maxHeartbeats 400000 in
theorem l10DrawTime_any (w : World) (s g : Nat) (a : Option Addr) (c : Nat) (xs : List Int) (t : Int) (hs : Src w s a xs.length c t) (hr : Rd w g a .u8 xs) (hne : 0 < xs.length → g ≠ s) (hb : Byt xs) (hl : xs.length ≤ 1048576)
    (t0 : 0 ≤ t) (t1 : t ≤ 1000000) :
    Calls Tryd.prog 28 #[.pointer (some ⟨s, 0, none⟩)] w fun e w' => ∃ v, e = .returned (.int .i64 v) ∧ (-1 ≤ v ∧ v ≤ 253402300800) ∧ Src w' s a xs.length c (t + 1 + 1) ∧ Only s w w' := by
  have N1 := hide (l1NextB_any w s g a c xs t 8 hs hr hne hb hl t0 (by omega) (by decide) (by decide))
  go_enter Tryd.func28, Tryd.ntmps28
  go_wp2_with fail
  refine N1.out.mono ?_
  rintro e w1 ⟨q, rfl, hq, S1, O1⟩
  have N3 := fun n h0 h1 => hide (l1NextB_any w1 s g a c xs (t + 1) n S1 (hr.only O1 hne) hne hb hl (by omega) (by omega) h0 h1)
  clear N1
  obtain rfl | rfl | rfl | rfl | rfl | h5 : q = 0 ∨ q = 1 ∨ q = 2 ∨ q = 3 ∨ q = 4 ∨ 5 ≤ q := by omega
  · go_wp2_with fail
    refine (N3 3 (by decide) (by decide)).out.mono ?_
    rintro e w3 ⟨r, rfl, h3, S3, O3⟩
    go_wp2
    go_ret
    exact ⟨_, rfl, by constructor <;> omega, S3, O1.trans O3⟩
  · go_wp2_with fail
    refine (N3 3 (by decide) (by decide)).out.mono ?_
    rintro e w3 ⟨r, rfl, h3, S3, O3⟩
    go_wp2
    go_ret
    exact ⟨_, rfl, by constructor <;> omega, S3, O1.trans O3⟩
  · go_wp2_with fail
    refine (N3 6 (by decide) (by decide)).out.mono ?_
    rintro e w3 ⟨r, rfl, h3, S3, O3⟩
    go_wp2
    go_ret
    exact ⟨_, rfl, by constructor <;> omega, S3, O1.trans O3⟩
  · go_wp2_with fail
    refine (N3 8 (by decide) (by decide)).out.mono ?_
    rintro e w3 ⟨r, rfl, h3, S3, O3⟩
    go_wp2
    go_ret
    exact ⟨_, rfl, by constructor <;> omega, S3, O1.trans O3⟩
  · go_wp2_with fail
    refine (N3 2932896 (by decide) (by decide)).out.mono ?_
    rintro e w3 ⟨r, rfl, h3, S3, O3⟩
    go_wp2
    go_ret
    exact ⟨_, rfl, by constructor <;> omega, S3, O1.trans O3⟩
  · have a0 : (q == 0) = false := by simp; omega
    have a1 : (q == 1) = false := by simp; omega
    have a2 : (q == 2) = false := by simp; omega
    have a3 : (q == 3) = false := by simp; omega
    have a4 : (q == 4) = false := by simp; omega
    have b0 : decide (q = 0) = false := by simp; omega
    have b1 : decide (q = 1) = false := by simp; omega
    have b2 : decide (q = 2) = false := by simp; omega
    have b3 : decide (q = 3) = false := by simp; omega
    have b4 : decide (q = 4) = false := by simp; omega
    go_wp2_with fail
    refine (N3 253402300799 (by decide) (by decide)).out.mono ?_
    rintro e w3 ⟨r, rfl, h3, S3, O3⟩
    go_wp2
    go_ret
    exact ⟨_, rfl, by constructor <;> omega, S3, O1.trans O3⟩

theorem drawEncTime_any (w : World) (g : Nat) (a : Option Addr) (c : Nat) (xs : List Int) (hr : Rd w g a .u8 xs) (hb : Byt xs) (hl : xs.length ≤ 1048576) :
    Calls Tryd.prog 15 #[.slice a xs.length c] w fun e w' => ∃ v, e = .returned (.int .i64 v) ∧ (-1 ≤ v ∧ v ≤ 253402300800) ∧ Below w.heap.size w w' := by
  go_enter Tryd.func15, Tryd.ntmps15
  go_wp2_with fail
  refine (l1Source_any w a xs.length c hl).mono ?_
  rintro e w1 ⟨rfl, S1, n1⟩
  go_wp2_with fail
  refine (l10DrawTime_any w1 w.heap.size g a c xs 0 S1 (hr.up n1) (fun h => by have := hr.lt h; omega) hb hl (by decide) (by decide)).mono ?_
  rintro e w2 ⟨v, rfl, hv, S2, O2⟩
  go_wp2
  go_ret
  exact ⟨v, rfl, hv, n1.trans (O2.below (Nat.le_refl _))⟩

end Go.Proofs.YtakcpkfofgiehaaDoor
