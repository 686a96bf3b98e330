
/-
  Expand: the program's, and the model's.
-/
import Derived.Test.YtnfciobpfiibcaaDoorXcN
import Derived.Test.YtnfciobpfiibcaaDoorMkE
namespace Go.Proofs.YtnfciobpfiibcaaDoor
set_option maxRecDepth 100000
open Go Go.RowKit

theorem isExpandable_any (w : World) (n : Int) : Calls Tryd.prog 76 #[.int .i64 n] w fun e w' => e = .returned (.bool (decide (0 ≤ n ∧ n ≤ 8160))) ∧ w' = w := by
  by_cases c0 : 0 ≤ n
  · by_cases c1 : n ≤ 8160
    · have t0 : decide (0 ≤ n) = true := by simpa using c0
      have t1 : decide (n ≤ 8160) = true := by simpa using c1
      go_enter Tryd.func76, Tryd.ntmps76
      go_wp2
      go_ret
      exact ⟨by simp [c0, c1], rfl⟩
    · have t0 : decide (0 ≤ n) = true := by simpa using c0
      have t1 : decide (n ≤ 8160) = false := by simpa using c1
      go_enter Tryd.func76, Tryd.ntmps76
      go_wp2
      go_ret
      exact ⟨by simp, rfl⟩
  · have t0 : decide (0 ≤ n) = false := by simpa using c0
    go_enter Tryd.func76, Tryd.ntmps76
    go_wp2
    go_ret
    exact ⟨by simp, rfl⟩
theorem Own.take {w : World} {g : Nat} {a : Option Addr} {k : IntKind} {xs : List Int} (h : Own w g a k xs) (n : Nat) : Own w g a k (xs.take n) := by
  intro h0
  rw [List.length_take] at h0
  obtain ⟨off, e, hc⟩ := h (by omega)
  refine ⟨off, e, fun i hi => ?_⟩
  rw [List.length_take] at hi
  rw [List.getD_eq_getElem?_getD, List.getElem?_take, if_pos (by omega), ← List.getD_eq_getElem?_getD]
  exact hc i (by omega)
set_option maxHeartbeats 4000000 in
theorem l7Piece_one (w : World) (g : Nat) (a : Option Addr) (c : Nat) (ks : List Int) (hr : Rd w g a .u8 ks) (hk : Byt ks) (hc : a = none → c = 0) (hn : ks.length ≤ 1048576) (gd : Nat) (ad : Option Addr) (cd : Nat) (inf : List Int) (hd : Rd w gd ad .u8 inf) (hx : Byt inf) (hcd : ad = none → cd = 0) (hnd : inf.length ≤ 1048576) :
    Calls Tryd.prog 72 #[.slice a ks.length c, .slice ad inf.length cd, .int .i64 1] w fun e w' => NewRow w.heap.size w' e .u8 (tM ks inf 1) ∧ Below w.heap.size w w' := by
  obtain ⟨i0, hi, hz0, hz1, hz2⟩ := info_parts Tryd.info5
  have hal : Below w.heap.size w (w.alloc (.cells #[] 5)) := (Below.refl _ _).alloc (Nat.le_refl _) _
  have TE : Hid (tM ks inf 1 = macL ks (inf ++ [1])) := by show _ = _; rw [tM_succ, tM_zero, List.nil_append]; rfl
  obtain ⟨rs, hrs⟩ : ∃ l, l = tM ks inf 1 := ⟨_, rfl⟩
  rw [← hrs] at TE ⊢
  clear hrs
  go_enter Tryd.func72, Tryd.ntmps72
  go_wp2
  go_loopw [7, 8] (fun v i wr => (i = .int .i64 1 ∧ RowB wr w.heap.size v [] ∧ Below w.heap.size w wr) ∨ (i = .int .i64 2 ∧ NewRow w.heap.size wr (.returned v) .u8 rs ∧ Below w.heap.size w wr)) (fun _ i _ => 3 - (intOf i).toNat)
  case atStart => exact .inl ⟨rfl, RowB.lit0 w, hal⟩
  case round =>
    rcases hrel with ⟨rfl, R0, hN⟩ | ⟨rfl, NR, hN⟩
    · obtain ⟨v1, w1, hap1, R1, n1⟩ := append_any (P := Tryd.prog) wr 22 i0 Tryd.underlying22 hi hz0 hz1 hz2 w.heap.size w.heap.size _ [] R0 gd ad cd inf (hd.up hN) hcd (by simp; omega) (Nat.le_refl _) hN.size
      rw [List.nil_append] at R1
      have N1 := hN.trans n1
      have na : Below w1.heap.size w1 (w1.alloc (.cells #[.int .u8 1] 5)) := (Below.refl _ _).alloc (Nat.le_refl _) _
      obtain ⟨v2, w2, hap2, R2, n2⟩ := append_any (P := Tryd.prog) (w1.alloc (.cells #[.int .u8 1] 5)) 22 i0 Tryd.underlying22 hi hz0 hz1 hz2 w.heap.size w.heap.size _ inf (R1.up na) _ _ 1 [1] (blk_lit1 w1 .u8 5 1).own0.rd (by simp) (by simp; omega) (Nat.le_refl _) (nxt N1 na).size
      have N2 := (nxt N1 na).trans n2
      obtain ⟨zs, hzs⟩ : ∃ l, l = inf ++ [1] := ⟨_, rfl⟩
      have zl : zs.length ≤ 274877906944 := by rw [hzs]; simp; omega
      have zb : Byt zs := by rw [hzs]; exact byt_apd hx (byt_cons (by omega) (by omega) byt_nil)
      rw [← hzs] at R2
      have SE : Hid (macL ks zs = rs) := by show _ = _; rw [hzs]; exact TE.out.symm
      clear hzs
      obtain ⟨a3, c3, g3, rfl, o3, p3, q3, r3⟩ := R2.own
      have SM := specMac_any w2 g a c ks (hr.up N2) hk hc hn g3 a3 c3 zs o3.rd zb p3 zl
      rw [SE.out] at SM
      have SMH := hide SM
      clear SM R0 R1 R2 na n1 n2 N1 hN
      go_wp2_with (at_builtin; first | (refine Lib.wpList_append_run _ rfl _ _ 22 22 rfl _ _ rfl rfl _ _ hap1 ?_) | (refine Lib.wpList_append_run _ rfl _ _ 22 22 rfl _ _ rfl rfl _ _ hap2 ?_))
      refine SMH.out.mono ?_
      rintro r w4 ⟨⟨a4, c4, g4, rfl, o4, p4, q4, r4⟩, n4⟩
      have y2 := N2.size
      clear hap1 hap2
      go_wp2
      go_roundw
      case rel => exact .inr ⟨by go_num, ⟨a4, c4, g4, rfl, o4, p4, q4, by omega⟩, nxt N2 n4⟩
      case measure => simp [intOf]
    · obtain ⟨a4, c4, g4, ev, o4, p4, q4, r4⟩ := NR
      simp only [Ending.returned.injEq] at ev
      subst ev
      go_wp2
      go_ret
      exact ⟨⟨a4, c4, g4, rfl, o4, p4, q4, r4⟩, hN⟩
end Go.Proofs.YtnfciobpfiibcaaDoor
