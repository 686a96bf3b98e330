
/-
  What is drawn as rows that may be appended to; laws.lwAt (written by gens/drq.py).
-/
import Derived.Test.YtljpjbojdekeiaaDoorDrH
import Derived.Test.YtljpjbojdekeiaaDoorApd
namespace Go.Proofs.YtljpjbojdekeiaaDoor
set_option maxRecDepth 100000
open Go.RowKit

set_option maxHeartbeats 2000000 in
theorem lwAt_any (w : World) (g : Nat) (a : Option Addr) (c : Nat) (xs : List Int) (i n : Int) (hr : Rd w g a .u8 xs) (hb : Byt xs) (hl : xs.length ≤ 1048576) (i0 : 0 ≤ i) (i1 : i ≤ 1000) (n0 : 2 ≤ n) (n1 : n ≤ 1048576) :
    Calls Tryd.prog 22 #[.slice a xs.length c, .int .i64 i, .int .i64 n] w fun e w' => ∃ r : Nat, e = .returned (.int .i64 (r : Int)) ∧ (r : Int) < n ∧ ∃ m, w' = w.drewN m := by
  have tn : decide (n ≤ 1) = false := by simp; omega
  by_cases h0 : xs.length = 0
  · have hk : ((xs.length : Int) == 0) = true := by simp [h0]
    obtain ⟨r, hr'⟩ := Int.eq_ofNat_of_zero_le (Int.emod_nonneg (i * 7) (show n ≠ 0 by omega))
    have r1 := Int.emod_lt_of_pos (i * 7) (show 0 < n by omega)
    rw [hr'] at r1
    have HR := hide hr'
    clear h0 hr'
    go_enter Tryd.func22, Tryd.ntmps22
    go_wp2
    go_ret
    exact ⟨r, congrArg (fun v => Ending.returned (.int .i64 v)) HR.out, r1, 0, rfl⟩
  · have hk : ((xs.length : Int) == 0) = false := beq_eq_false_iff_ne.2 (by omega)
    obtain ⟨off, rfl, hc⟩ := hr (by omega)
    obtain ⟨j1, hi1⟩ := Int.eq_ofNat_of_zero_le (Int.emod_nonneg i (show (xs.length : Int) ≠ 0 by omega))
    have li1 : (j1 : Int) < (xs.length : Int) := by rw [← hi1]; exact Int.emod_lt_of_pos _ (by omega)
    obtain ⟨j2, hi2⟩ := Int.eq_ofNat_of_zero_le (Int.emod_nonneg (i + 1) (show (xs.length : Int) ≠ 0 by omega))
    have li2 : (j2 : Int) < (xs.length : Int) := by rw [← hi2]; exact Int.emod_lt_of_pos _ (by omega)
    obtain ⟨q, hq⟩ : ∃ q, i / (xs.length : Int) = q := ⟨_, rfl⟩
    have q0 : 0 ≤ q := by rw [← hq]; exact Int.ediv_nonneg i0 (by omega)
    have q1 : q ≤ 1000 := by rw [← hq]; exact Int.le_trans (Int.ediv_le_self _ i0) i1
    have x1 := hc j1 (by omega)
    have x2 := hc j2 (by omega)
    have b1 := hb j1
    have b2 := hb j2
    generalize xs.getD j1 0 = x at *
    generalize xs.getD j2 0 = y at *
    clear hc hr h0
    by_cases hn : n ≤ 200
    · have tn2 : decide (200 < n) = false := by simp; omega
      obtain ⟨r, hr'⟩ := Int.eq_ofNat_of_zero_le (Int.emod_nonneg (x + q) (show n ≠ 0 by omega))
      have r1 := Int.emod_lt_of_pos (x + q) (show 0 < n by omega)
      rw [hr'] at r1
      have HR := hide hr'
      clear x2 hi2 li2 b2 hr'
      go_enter Tryd.func22, Tryd.ntmps22
      go_wp2
      go_quiet (fail)
      go_wp2
      go_ret
      exact ⟨r, congrArg (fun v => Ending.returned (.int .i64 v)) HR.out, r1, _, rfl⟩
    · have tn2 : decide (200 < n) = true := by simp; omega
      obtain ⟨r, hr'⟩ := Int.eq_ofNat_of_zero_le (Int.emod_nonneg ((x + q) * 37 + y) (show n ≠ 0 by omega))
      have r1 := Int.emod_lt_of_pos ((x + q) * 37 + y) (show 0 < n by omega)
      rw [hr'] at r1
      have HR := hide hr'
      clear hr'
      go_enter Tryd.func22, Tryd.ntmps22
      go_wp2
      go_quiet (fail)
      go_wp2
      go_ret
      exact ⟨r, congrArg (fun v => Ending.returned (.int .i64 v)) HR.out, r1, _, rfl⟩
set_option maxHeartbeats 2000000 in
theorem l1DrawBytesR_any (w : World) (s g : Nat) (a : Option Addr) (c : Nat) (xs : List Int) (t : Int) (n : Nat) (hs : Src w s a xs.length c t) (hr : Rd w g a .u8 xs) (hne : 0 < xs.length → g ≠ s) (hb : Byt xs) (hl : xs.length ≤ 1048576)
    (t0 : 0 ≤ t) (t1 : t + (n : Int) ≤ 1048576) :
    Calls Tryd.prog 48 #[.pointer (some ⟨s, 0, none⟩), .int .i64 n] w fun e w' => ∃ ys, ys.length = n ∧ Byt ys ∧ (∃ v, e = .returned v ∧ RowB w' w.heap.size v ys) ∧ Src w' s a xs.length c (t + (n : Int)) ∧ But s w w' := by
  obtain ⟨i0, hi, hz0, hz1, hz2⟩ := info_parts Tryd.info5
  have hown0 : (w.alloc (.cells #[] 5)).ownsRow w.heap.size 5 1 (.slice (some ⟨w.heap.size, 0, none⟩) 0 0) 0 [] := World.ownsRow_lit w #[] 0 (Nat.le_refl _) (by unfold maxLen; omega) (by simp)
  have hal : Below w.heap.size w (w.alloc (.cells #[] 5)) := (Below.refl _ _).alloc (Nat.le_refl _) _
  have hsl := hs.lt
  go_enter Tryd.func48, Tryd.ntmps48
  go_wp2
  go_loopw [5, 6] (fun v i wr => ∃ (k : Nat) (ys : List Int), k ≤ n ∧ i = .int .i64 k ∧ Hid (ys.length = k) ∧ Byt ys ∧ wr.ownsRow w.heap.size 5 1 v k (ys.map (Value.int .u8)) ∧ Src wr s a xs.length c (t + (k : Int)) ∧ But s w wr) (fun _ i _ => n - (intOf i).toNat)
  case atStart => exact ⟨0, [], Nat.zero_le _, rfl, rfl, byt_nil, hown0, by simpa using hs.up hal, But.ofBelow hal⟩
  case round =>
    obtain ⟨k, ys, hk, rfl, hyl, hyb, hown, hS, hN⟩ := hrel
    have hr' := hr.but hN hne
    by_cases hlt : k < n
    · have hob := hown.lt
      go_wp2_with fail
      refine (l1Next_any wr s g a c xs (t + (k : Int)) 256 hS hr' hne hb hl (by omega) (by omega) (by decide) (by decide)).mono ?_
      rintro e w1 ⟨r, rfl, ⟨r0, r1⟩, S1, O1⟩
      have N1 := hN.only O1
      have hown1 := hown.kept O1.grown (by
        cases hv : Value.ownBlock _ with
        | none => exact .inl rfl
        | some q => exact .inr (fun e => by have := (hob q hv).1; simp at e; omega))
      have m1 : r % 256 = r := by omega
      have sz := N1.size
      clear hown hS hN O1 hr'
      go_wp2_with (at_builtin; refine wpList_append_own _ rfl _ _ 22 rfl w.heap.size 5 i0 (.int .u8 0) 1 1 Tryd.underlying22 hi hz0 hz1 hz2 rfl (by decide) _ k (ys.map (Value.int .u8)) rfl (hown1.alloc _) ⟨w1.heap.size, 0, none⟩ 1 1 [.int .u8 r] rfl rfl ?c1 ?c2 ?c3 ?c4 ?c5 ?_)
      case c1 =>
        intro j u hj
        match j, hj with
        | 0, hj => simp at hj; subst hj; simp [Addr.add]
      case c2 => intro u hu; simp at hu; subst hu; rfl
      case c3 => unfold maxLen; omega
      case c4 => omega
      case c5 => simp; omega
      · intro v' w2 hown2 hgrow _
        have nA : But s w (w1.alloc (.cells #[.int .u8 r] 5)) := N1.trans (But.ofBelow ((Below.refl _ _).alloc (Nat.le_refl _) _))
        have N2 := nA.grown hgrow (fun i hi => (hob i hi).1)
        have S2 : Src w2 s a xs.length c (t + ((k + 1 : Nat) : Int)) := by
          have := (S1.up ((Below.refl _ _).alloc (Nat.le_refl _) (.cells #[.int .u8 r] 5))).of_block (hgrow.block s (by simp; omega) (fun e => by have := (hob s e.symm).1; omega))
          rw [show t + ((k + 1 : Nat) : Int) = t + (k : Int) + 1 by omega]
          exact this
        have hown3 : w2.ownsRow w.heap.size 5 1 v' (k + 1) ((ys ++ [r]).map (Value.int .u8)) := by simpa using hown2
        have hl3 : Hid ((ys ++ [r]).length = k + 1) := by show _ = _; have := hyl.out; simp; omega
        have hb3 := byt_snoc hyb r r0 r1
        clear hown1 hown2 hgrow N1 S1 nA hob
        go_wp2
        go_roundw
        case rel => exact ⟨k + 1, ys ++ [r], by omega, by go_num, hl3, hb3, hown3, S2, N2⟩
        case measure => simp [intOf]; omega
    · obtain rfl : k = n := by omega
      have hown' := hown
      rw [← hyl.out] at hown'
      have RB : RowB _ w.heap.size _ ys := hown'
      clear hown hown'
      go_wp2
      go_ret
      exact ⟨ys, hyl.out, hyb, ⟨_, rfl, RB⟩, hS, hN⟩
set_option maxHeartbeats 1000000 in
theorem drawHashR_any (w : World) (g : Nat) (a : Option Addr) (c : Nat) (xs : List Int) (hr : Rd w g a .u8 xs) (hb : Byt xs) (hl : xs.length ≤ 1048576) :
    Calls Tryd.prog 14 #[.slice a xs.length c] w fun e w' => ∃ ys, ys.length ≤ 5000 ∧ Byt ys ∧ (∃ v, e = .returned v ∧ RowB w' w.heap.size v ys) ∧ Below w.heap.size w w' := by
  go_enter Tryd.func14, Tryd.ntmps14
  go_wp2_with fail
  refine (l1Source_any w a xs.length c hl).mono ?_
  rintro e w1 ⟨rfl, S1, n1⟩
  have hne : 0 < xs.length → g ≠ w.heap.size := fun h => by have := hr.lt h; omega
  go_wp2_with fail
  refine (l6Length_any w1 w.heap.size g a c xs 0 S1 (hr.up n1) hne hb hl (by omega) (by omega)).mono ?_
  rintro e w2 ⟨n, t, rfl, hn, h0, h1, S2, O2⟩
  go_wp2_with fail
  refine (l1DrawBytesR_any w2 w.heap.size g a c xs t n S2 ((hr.up n1).but (But.ofOnly O2) hne) hne hb hl h0 (by omega)).mono ?_
  rintro e w3 ⟨ys, hy, by', ⟨v3, rfl, R3⟩, S3, B3⟩
  have N2 : Below w.heap.size w w2 := n1.trans (O2.below (Nat.le_refl _))
  have N3 : Below w.heap.size w w3 := N2.trans (B3.below (Nat.le_refl _) N2.size)
  have z2 := N2.size
  have HY := hide hy
  clear hy S1 S2 S3 O2 B3 n1
  go_wp2
  go_ret
  exact ⟨ys, by rw [HY.out]; exact hn, by', ⟨v3, rfl, R3.base z2⟩, N3⟩
end Go.Proofs.YtljpjbojdekeiaaDoor
