
/-
  What is drawn for a record: l11Bytes, l15DrawKind, DrawEncodeRecord.
-/
import Derived.Test.YtjfggcefdobooaaDoorCaX
import Derived.Test.YtjfggcefdobooaaDoorNbS
import Derived.Test.YtjfggcefdobooaaDoorStC
import Derived.Test.YtjfggcefdobooaaDoorTcH
namespace Go.Proofs.YtjfggcefdobooaaDoor
set_option maxRecDepth 100000
open Go Go.RowKit

theorem byt_setC {ys : List Int} (h : Byt ys) (p : Nat) (x : Int) (h0 : 0 ≤ x) (h1 : x < 256) : Byt (ys.set p x) := by
  intro i
  rw [List.getD_eq_getElem?_getD, List.getElem?_set]
  by_cases hp : p = i
  · rw [if_pos hp]
    split
    · exact ⟨h0, h1⟩
    · exact ⟨by simp, by simp⟩
  · rw [if_neg hp]
    have := h i
    rw [List.getD_eq_getElem?_getD] at this
    exact this
set_option maxHeartbeats 2000000 in
theorem l11Bytes_any (w : World) (s g : Nat) (a : Option Addr) (c : Nat) (xs : List Int) (t : Int) (n : Nat) (hs : Src w s a xs.length c t) (hr : Rd w g a .u8 xs) (hne : 0 < xs.length → g ≠ s) (hb : Byt xs) (hl : xs.length ≤ 4194304)
    (t0 : 0 ≤ t) (t1 : t ≤ 1000000) (hn : n ≤ 3000) :
    Calls Tryd.prog 15 #[.pointer (some ⟨s, 0, none⟩), .int .i64 (n : Int)] w fun e w' => ∃ v ys, e = .returned v ∧ ys.length = n ∧ Byt ys ∧ RowB w' w.heap.size v ys ∧ Src w' s a xs.length c (t + 1) ∧ But s w w' := by
  obtain ⟨i0, hi, hz0, hz1, hz2⟩ := info_parts Tryd.info5
  have NX := hide (l1NextX_any w s g a c xs t 256 hs hr hne hb hl t0 (by omega) (by omega) (by omega))
  have sl := hs.lt
  clear hs hr hne
  go_enter Tryd.func15, Tryd.ntmps15
  go_wp2_with fail
  refine NX.out.mono ?_
  rintro e w0 ⟨r, rfl, ⟨r0, r1⟩, S0, O0⟩
  have z0 := hide O0.size
  clear NX
  go_wp2_with (at_make; refine wpList_make_full _ rfl _ _ 22 rfl w0.heap.size 5 i0 (.int .u8 0) 1 Tryd.underlying22 hi hz0 hz1 .i64 .i64 _ _ n rfl rfl rfl rfl (by rw [hz2]; omega) (by unfold maxLen; omega) (Nat.le_refl _) ?_; intro w1 hown hgrow)
  have hB0 := Blk.of_made hown
  have T0 := TyB.of_made hown
  have hN0 : Below w0.heap.size w0 w1 := (Below.refl _ _).grown hgrow (Nat.le_refl _) (by simp)
  have bz : Byt (List.replicate n (0 : Int)) := fun i => by
    rw [List.getD_eq_getElem?_getD, List.getElem?_replicate]
    split <;> exact ⟨by simp, by simp⟩
  clear hown hgrow
  go_loopw [7] (fun i wr => ∃ (k : Nat) (ys : List Int), k ≤ n ∧ i = .int .i64 (k : Int) ∧ Hid (ys.length = n) ∧ Hid (Byt ys) ∧ Blk wr w0.heap.size .u8 ys ∧ TyB wr w0.heap.size ∧ Below w0.heap.size w0 wr) (fun i _ => n - (intOf i).toNat)
  case atStart => exact ⟨0, _, Nat.zero_le _, rfl, by show _ = _; simp, bz, hB0, T0, hN0⟩
  case round =>
    clear hB0 T0 hN0 bz
    obtain ⟨k, ys, hk, rfl, yl, yb, B, T, N⟩ := hrel
    by_cases hlt : k < n
    · have k0 : (k : Int) < (n : Int) := by omega
      have k1 : decide ((k : Int) < (n : Int)) = true := by simp; omega
      have kk : (k : Int) * (k : Int) ≤ 9000000 := by
        have : (k : Int) ≤ 3000 := by omega
        calc (k : Int) * (k : Int) ≤ 3000 * 3000 := Int.mul_le_mul this this (by omega) (by omega)
          _ = 9000000 := by decide
      have kp : (0 : Int) ≤ (k : Int) * (k : Int) := Int.mul_nonneg (by omega) (by omega)
      have hl : k < ys.length := by rw [yl.out]; exact hlt
      have hcy := B.cell hl
      have hfy := B.free k
      have YL := yl
      have YB := yb
      have KN := hide kk
      go_wp2
      go_roundw
      case rel =>
        refine ⟨k + 1, _, by omega, by go_num, ?_, ?_, B.store k _, T.set k _, N.setCell (Nat.le_refl _) _⟩
        · show _ = _
          rw [List.length_set]
          exact YL.out
        · exact byt_setC YB.out k _ (by omega) (by omega)
      case measure => simp [intOf]; omega
    · obtain rfl : k = n := by omega
      have k1 : decide ((k : Int) < (k : Int)) = false := by simp
      have RB := hide (RowB.of_tyb (B := w.heap.size) B T (by have := z0.out; omega) (by rw [yl.out]; omega))
      rw [yl.out] at RB
      have BT := hide ((But.ofOnly O0).trans (But.ofBelow N))
      have SR := hide (S0.up N)
      have YL := yl
      have YB := yb
      clear B T N
      go_wp2
      go_ret
      exact ⟨_, ys, rfl, YL.out, YB.out, RB.out, SR.out, BT.out⟩
set_option maxHeartbeats 2000000 in
theorem l15DrawKind_any (w : World) (s g : Nat) (a : Option Addr) (c : Nat) (xs : List Int) (t : Int) (hs : Src w s a xs.length c t) (hr : Rd w g a .u8 xs) (hne : 0 < xs.length → g ≠ s) (hb : Byt xs) (hl : xs.length ≤ 4194304) (t0 : 0 ≤ t) (t1 : t ≤ 1000000) :
    Calls Tryd.prog 14 #[.pointer (some ⟨s, 0, none⟩)] w fun e w' => ∃ k, e = .returned (.int .i64 k) ∧ (0 ≤ k ∧ k < 256) ∧ Src w' s a xs.length c (t + 1 + 1) ∧ But s w w' := by
  have CH := hide (l1ChanceX_any w s g a c xs t 12 hs hr hne hb hl t0 (by omega) (by omega) (by omega))
  have NX := hide fun W (m : Int) (S : Src W s a xs.length c (t + 1)) (O : Only s w W) (m0 : 1 ≤ m) (m1 : m ≤ 1048576) => l1NextX_any W s g a c xs (t + 1) m S (hr.but (But.ofOnly O) hne) hne hb hl (by omega) (by omega) m0 m1
  clear hs hr hne
  go_enter Tryd.func14, Tryd.ntmps14
  go_wp2_with fail
  refine CH.out.mono ?_
  rintro e w1 ⟨b, rfl, S1, O1⟩
  clear CH
  cases b
  · go_wp2_with fail
    refine (NX.out w1 3 S1 O1 (by decide) (by decide)).mono ?_
    rintro e w2 ⟨r, rfl, ⟨r0, r1⟩, S2, O2⟩
    have BT := hide ((But.ofOnly O1).trans (But.ofOnly O2))
    clear NX O1 O2 S1
    go_wp2
    go_ret
    exact ⟨_, rfl, ⟨by omega, by omega⟩, S2, BT.out⟩
  · go_wp2_with fail
    refine (NX.out w1 6 S1 O1 (by decide) (by decide)).mono ?_
    rintro e w2 ⟨r, rfl, ⟨r0, r1⟩, S2, O2⟩
    have BT := hide ((But.ofOnly O1).trans (But.ofOnly O2))
    clear NX O1 O2 S1
    go_wp2
    go_ret
    exact ⟨_, rfl, ⟨by omega, by omega⟩, S2, BT.out⟩
end Go.Proofs.YtjfggcefdobooaaDoor
