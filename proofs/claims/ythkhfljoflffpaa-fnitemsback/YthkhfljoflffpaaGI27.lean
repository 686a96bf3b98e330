import Derived.Test.YthkhfljoflffpaaDrL
import Derived.Test.YthkhfljoflffpaaApd
import Derived.Test.YthkhfljoflffpaaIbD
import Derived.Test.YthkhfljoflffpaaIcA
import Derived.Test.YthkhfljoflffpaaItN
import Derived.Test.YthkhfljoflffpaaBase
import Derived.Lib.AppendZerosOnto
import Derived.Test.YthkhfljoflffpaaHelp
import Derived.Test.YthkhfljoflffpaaNiA
import Derived.Test.YthkhfljoflffpaaNum
import Derived.Laws.AppendOwnNone
import Derived.Deep.MidRow
import Derived.Test.YthkhfljoflffpaaSm8
import Derived.Test.YthkhfljoflffpaaRdT
import Derived.Test.YthkhfljoflffpaaItP
import Derived.Test.YthkhfljoflffpaaCuT
import Derived.RegionTactic

/-
  What is drawn as data of a hash: some bytes, not many.
-/
namespace Go.Proofs.Ythkhfljoflffpaa
open Go.RowKit

end Go.Proofs.Ythkhfljoflffpaa

/-
  What is drawn as rows that may be appended to; laws.lwAt (written by gens/drq.py).
-/
namespace Go.Proofs.Ythkhfljoflffpaa
open Go.RowKit

set_option maxHeartbeats 2000000 in
theorem lwAt_any (w : World) (g : Nat) (a : Option Addr) (c : Nat) (xs : List Int) (i n : Int) (hr : Rd w g a .u8 xs) (hb : Byt xs) (hl : xs.length ≤ 1048576) (i0 : 0 ≤ i) (i1 : i ≤ 1000) (n0 : 2 ≤ n) (n1 : n ≤ 1048576) :
    Calls Try.prog 4 #[.slice a xs.length c, .int .i64 i, .int .i64 n] w fun e w' => ∃ r : Nat, e = .returned (.int .i64 (r : Int)) ∧ (r : Int) < n ∧ ∃ m, w' = w.drewN m := by
  have tn : decide (n ≤ 1) = false := by simp; omega
  by_cases h0 : xs.length = 0
  · have hk : ((xs.length : Int) == 0) = true := by simp [h0]
    obtain ⟨r, hr'⟩ := Int.eq_ofNat_of_zero_le (Int.emod_nonneg (i * 7) (show n ≠ 0 by omega))
    have r1 := Int.emod_lt_of_pos (i * 7) (show 0 < n by omega)
    rw [hr'] at r1
    have HR := hide hr'
    clear h0 hr'
    go_enter Try.func4, Try.ntmps4
    go_wp2
    go_ret
    exact ⟨r, congrArg (fun v => Ending.returned (.int .i64 v)) HR.out, r1, 0, rfl⟩
  · have hk : ((xs.length : Int) == 0) = false := beq_eq_false_iff_ne.2 (by omega)
    obtain ⟨off, rfl, hc⟩ := hr (by omega)
    obtain ⟨j1, hi1⟩ := Int.eq_ofNat_of_zero_le (Int.emod_nonneg i (show (xs.length : Int) ≠ 0 by omega))
    have li1 : (j1 : Int) < (xs.length : Int) := by rw [← hi1]; exact Int.emod_lt_of_pos _ (by omega)
    obtain ⟨j2, hi2⟩ := Int.eq_ofNat_of_zero_le (Int.emod_nonneg (i + 1) (show (xs.length : Int) ≠ 0 by omega))
    have li2 : (j2 : Int) < (xs.length : Int) := by rw [← hi2]; exact Int.emod_lt_of_pos _ (by omega)
    obtain ⟨q, hq⟩ : ∃ q, i / (xs.length : Int) = q := ⟨_, rfl⟩
    have q0 : 0 ≤ q := by rw [← hq]; exact Int.ediv_nonneg i0 (by omega)
    have q1 : q ≤ 1000 := by rw [← hq]; exact Int.le_trans (Int.ediv_le_self _ i0) i1
    have x1 := hc j1 (by omega)
    have x2 := hc j2 (by omega)
    have b1 := hb j1
    have b2 := hb j2
    generalize xs.getD j1 0 = x at *
    generalize xs.getD j2 0 = y at *
    clear hc hr h0
    by_cases hn : n ≤ 200
    · have tn2 : decide (200 < n) = false := by simp; omega
      obtain ⟨r, hr'⟩ := Int.eq_ofNat_of_zero_le (Int.emod_nonneg (x + q) (show n ≠ 0 by omega))
      have r1 := Int.emod_lt_of_pos (x + q) (show 0 < n by omega)
      rw [hr'] at r1
      have HR := hide hr'
      clear x2 hi2 li2 b2 hr'
      go_enter Try.func4, Try.ntmps4
      go_wp2
      go_quiet (fail)
      go_wp2
      go_ret
      exact ⟨r, congrArg (fun v => Ending.returned (.int .i64 v)) HR.out, r1, _, rfl⟩
    · have tn2 : decide (200 < n) = true := by simp; omega
      obtain ⟨r, hr'⟩ := Int.eq_ofNat_of_zero_le (Int.emod_nonneg ((x + q) * 37 + y) (show n ≠ 0 by omega))
      have r1 := Int.emod_lt_of_pos ((x + q) * 37 + y) (show 0 < n by omega)
      rw [hr'] at r1
      have HR := hide hr'
      clear hr'
      go_enter Try.func4, Try.ntmps4
      go_wp2
      go_quiet (fail)
      go_wp2
      go_ret
      exact ⟨r, congrArg (fun v => Ending.returned (.int .i64 v)) HR.out, r1, _, rfl⟩
set_option maxHeartbeats 2000000 in
theorem l1DrawBytesR_any (w : World) (s g : Nat) (a : Option Addr) (c : Nat) (xs : List Int) (t : Int) (n : Nat) (hs : Src w s a xs.length c t) (hr : Rd w g a .u8 xs) (hne : 0 < xs.length → g ≠ s) (hb : Byt xs) (hl : xs.length ≤ 1048576)
    (t0 : 0 ≤ t) (t1 : t + (n : Int) ≤ 1048576) :
    Calls Try.prog 28 #[.pointer (some ⟨s, 0, none⟩), .int .i64 n] w fun e w' => ∃ ys, ys.length = n ∧ Byt ys ∧ (∃ v, e = .returned v ∧ RowB w' w.heap.size v ys) ∧ Src w' s a xs.length c (t + (n : Int)) ∧ But s w w' := by
  obtain ⟨i0, hi, hz0, hz1, hz2⟩ := info_parts Try.info5
  have hown0 : (w.alloc (.cells #[] 5)).ownsRow w.heap.size 5 1 (.slice (some ⟨w.heap.size, 0, none⟩) 0 0) 0 [] := World.ownsRow_lit w #[] 0 (Nat.le_refl _) (by unfold maxLen; omega) (by simp)
  have hal : Below w.heap.size w (w.alloc (.cells #[] 5)) := (Below.refl _ _).alloc (Nat.le_refl _) _
  have hsl := hs.lt
  go_enter Try.func28, Try.ntmps28
  go_wp2
  go_loopw [5, 6] (fun v i wr => ∃ (k : Nat) (ys : List Int), k ≤ n ∧ i = .int .i64 k ∧ Hid (ys.length = k) ∧ Byt ys ∧ wr.ownsRow w.heap.size 5 1 v k (ys.map (Value.int .u8)) ∧ Src wr s a xs.length c (t + (k : Int)) ∧ But s w wr) (fun _ i _ => n - (intOf i).toNat)
  case atStart => exact ⟨0, [], Nat.zero_le _, rfl, rfl, byt_nil, hown0, by simpa using hs.up hal, But.ofBelow hal⟩
  case round =>
    obtain ⟨k, ys, hk, rfl, hyl, hyb, hown, hS, hN⟩ := hrel
    have hr' := hr.but hN hne
    by_cases hlt : k < n
    · have hob := hown.lt
      go_wp2_with fail
      refine (l1Next_any wr s g a c xs (t + (k : Int)) 256 hS hr' hne hb hl (by omega) (by omega) (by decide) (by decide)).mono ?_
      rintro e w1 ⟨r, rfl, ⟨r0, r1⟩, S1, O1⟩
      have N1 := hN.only O1
      have hown1 := hown.kept O1.grown (by
        cases hv : Value.ownBlock _ with
        | none => exact .inl rfl
        | some q => exact .inr (fun e => by have := (hob q hv).1; simp at e; omega))
      have m1 : r % 256 = r := by omega
      have sz := N1.size
      clear hown hS hN O1 hr'
      go_wp2_with (at_builtin; refine wpList_append_own _ rfl _ _ 22 rfl w.heap.size 5 i0 (.int .u8 0) 1 1 Try.underlying22 hi hz0 hz1 hz2 rfl (by decide) _ k (ys.map (Value.int .u8)) rfl (hown1.alloc _) ⟨w1.heap.size, 0, none⟩ 1 1 [.int .u8 r] rfl rfl ?c1 ?c2 ?c3 ?c4 ?c5 ?_)
      case c1 =>
        intro j u hj
        match j, hj with
        | 0, hj => simp at hj; subst hj; simp [Addr.add]
      case c2 => intro u hu; simp at hu; subst hu; rfl
      case c3 => unfold maxLen; omega
      case c4 => omega
      case c5 => simp; omega
      · intro v' w2 hown2 hgrow _
        have nA : But s w (w1.alloc (.cells #[.int .u8 r] 5)) := N1.trans (But.ofBelow ((Below.refl _ _).alloc (Nat.le_refl _) _))
        have N2 := nA.grown hgrow (fun i hi => (hob i hi).1)
        have S2 : Src w2 s a xs.length c (t + ((k + 1 : Nat) : Int)) := by
          have := (S1.up ((Below.refl _ _).alloc (Nat.le_refl _) (.cells #[.int .u8 r] 5))).of_block (hgrow.block s (by simp; omega) (fun e => by have := (hob s e.symm).1; omega))
          rw [show t + ((k + 1 : Nat) : Int) = t + (k : Int) + 1 by omega]
          exact this
        have hown3 : w2.ownsRow w.heap.size 5 1 v' (k + 1) ((ys ++ [r]).map (Value.int .u8)) := by simpa using hown2
        have hl3 : Hid ((ys ++ [r]).length = k + 1) := by show _ = _; have := hyl.out; simp; omega
        have hb3 := byt_snoc hyb r r0 r1
        clear hown1 hown2 hgrow N1 S1 nA hob
        go_wp2
        go_roundw
        case rel => exact ⟨k + 1, ys ++ [r], by omega, by go_num, hl3, hb3, hown3, S2, N2⟩
        case measure => simp [intOf]; omega
    · obtain rfl : k = n := by omega
      have hown' := hown
      rw [← hyl.out] at hown'
      have RB : RowB _ w.heap.size _ ys := hown'
      clear hown hown'
      go_wp2
      go_ret
      exact ⟨ys, hyl.out, hyb, ⟨_, rfl, RB⟩, hS, hN⟩
end Go.Proofs.Ythkhfljoflffpaa

/-
  What FnItemsBack draws: bodies, items.
-/
namespace Go.Proofs.Ythkhfljoflffpaa
open Go Go.RowKit

theorem RowB.of_made {w : World} {base g n : Nat} (h : w.ownsRow base 5 1 (.slice (some ⟨g, 0, none⟩) n n) n (madeCells (Value.int .u8 0).cells (n * 1)).toList) : RowB w base (.slice (some ⟨g, 0, none⟩) n n) (List.replicate n 0) := by
  have e : (madeCells (Value.int .u8 0).cells (n * 1)).toList = (List.replicate n (0 : Int)).map (Value.int .u8) := by
    apply List.ext_getElem
    · simp [madeCells]
    · intro i h1 h2
      simp [madeCells, Value.cells, Nat.mod_one]
  unfold RowB
  rw [List.length_replicate, ← e]
  exact h
theorem byt_zeros (n : Nat) : Byt (List.replicate n 0) := fun i => by
  by_cases h : i < n
  · simp [h]
  · simp [h]
set_option maxRecDepth 100000 in
set_option maxHeartbeats 1000000 in
theorem l10DrawBody_any (w : World) (s g : Nat) (a : Option Addr) (c : Nat) (xs : List Int) (t : Int) (hs : Src w s a xs.length c t) (hr : Rd w g a .u8 xs) (hne : 0 < xs.length → g ≠ s) (hb : Byt xs) (hl : xs.length ≤ 1048576)
    (t0 : 0 ≤ t) (t1 : t ≤ 1000) :
    Calls Try.prog 15 #[.pointer (some ⟨s, 0, none⟩)] w fun e w' => ∃ ys v t', e = .returned v ∧ Byt ys ∧ ys.length ≤ 65536 ∧ RowB w' w.heap.size v ys ∧ (t ≤ t' ∧ t' ≤ t + 300) ∧ Src w' s a xs.length c t' ∧ But s w w' := by
  have N1 := hide (l1Next_any w s g a c xs t 14 hs hr hne hb hl t0 (by omega) (by decide) (by decide))
  go_enter Try.func15, Try.ntmps15
  go_wp2_with fail
  refine N1.out.mono ?_
  rintro e w1 ⟨r, rfl, hr1, S1, O1⟩
  have R1 := hr.src O1 hne
  have zs := S1.lt
  clear N1 hs
  have DRAW : Hid (∀ (W : World) (u : Int) (n : Nat), Src W s a xs.length c u → Rd W g a .u8 xs → 0 ≤ u → u ≤ 1010 → n ≤ 260 → t ≤ u → u ≤ t + 10 → But s w W → Calls Try.prog 28 #[.pointer (some ⟨s, 0, none⟩), .int .i64 n] W fun e w' => ∃ ys v, e = .returned v ∧ (∃ t', Byt ys ∧ ys.length ≤ 65536 ∧ RowB w' w.heap.size v ys ∧ (t ≤ t' ∧ t' ≤ t + 300) ∧ Src w' s a xs.length c t' ∧ But s w w')) := by
    intro W u n S R u0 u1 hn hu hu2 b
    refine (l1DrawBytesR_any W s g a c xs u n S R hne hb hl u0 (by omega)).mono ?_
    rintro e w' ⟨ys, ly, by', ⟨v, rfl, rb⟩, S', b'⟩
    exact ⟨ys, v, rfl, _, by', by omega, rb.base b.size, ⟨by omega, by omega⟩, S', b.trans b'⟩
  by_cases h0 : r = 0
  · subst h0
    have N2 := hide (l1Next_any w1 s g a c xs (t + 1) 4 S1 R1 hne hb hl (by omega) (by omega) (by decide) (by decide))
    go_wp2_with fail
    refine N2.out.mono ?_
    rintro e w2 ⟨q, rfl, hq, S2, O2⟩
    obtain ⟨q, rfl⟩ := Int.eq_ofNat_of_zero_le hq.1
    have D := hide (DRAW.out w2 (t + 1 + 1) (126 + q) S2 (R1.src O2 hne) (by omega) (by omega) (by omega) (by omega) (by omega) (But.ofOnly (O1.trans O2)))
    rw [show ((126 + q : Nat) : Int) = 126 + (q : Int) by omega] at D
    clear N2
    go_wp2_with fail
    refine D.out.mono ?_
    rintro e w3 ⟨ys, v, rfl, t', F⟩
    go_wp2
    go_ret
    exact ⟨ys, v, t', rfl, F⟩
  · by_cases h1 : r = 1
    · subst h1
      have N2 := hide (l1Next_any w1 s g a c xs (t + 1) 4 S1 R1 hne hb hl (by omega) (by omega) (by decide) (by decide))
      go_wp2_with fail
      refine N2.out.mono ?_
      rintro e w2 ⟨q, rfl, hq, S2, O2⟩
      obtain ⟨q, rfl⟩ := Int.eq_ofNat_of_zero_le hq.1
      have D := hide (DRAW.out w2 (t + 1 + 1) (254 + q) S2 (R1.src O2 hne) (by omega) (by omega) (by omega) (by omega) (by omega) (But.ofOnly (O1.trans O2)))
      rw [show ((254 + q : Nat) : Int) = 254 + (q : Int) by omega] at D
      clear N2
      go_wp2_with fail
      refine D.out.mono ?_
      rintro e w3 ⟨ys, v, rfl, t', F⟩
      go_wp2
      go_ret
      exact ⟨ys, v, t', rfl, F⟩
    · have b0 : (r == 0) = false := by simpa using h0
      have b1 : (r == 1) = false := by simpa using h1
      have d0 : decide (r = 0) = false := by simpa using h0
      have d1 : decide (r = 1) = false := by simpa using h1
      by_cases h2 : r = 2
      · subst h2
        have CH := hide (l1Chance_any w1 s g a c xs (t + 1) 12 S1 R1 hne hb hl (by omega) (by omega) (by decide) (by decide))
        clear b0 b1 d0 d1 h0 h1
        go_wp2_with fail
        refine CH.out.mono ?_
        rintro e w2 ⟨b, rfl, S2, O2⟩
        have R2 := R1.src O2 hne
        have O12 := O1.trans O2
        clear CH
        cases b
        · skip
          have N3 := hide (l1Next_any w2 s g a c xs (t + 1 + 1) 12 S2 R2 hne hb hl (by omega) (by omega) (by decide) (by decide))
          go_wp2_with fail
          refine N3.out.mono ?_
          rintro e w3 ⟨q, rfl, hq, S3, O3⟩
          obtain ⟨q, rfl⟩ := Int.eq_ofNat_of_zero_le hq.1
          have D := hide (DRAW.out w3 ((t + 1 + 1) + 1) q S3 ((R2).src O3 hne) (by omega) (by omega) (by omega) (by omega) (by omega) (But.ofOnly (O12.trans O3)))
          clear N3
          go_wp2_with fail
          refine D.out.mono ?_
          rintro e w4 ⟨ys, v, rfl, t', F⟩
          go_wp2
          go_ret
          exact ⟨ys, v, t', rfl, F⟩
        · have N3 := hide (l1Next_any w2 s g a c xs (t + 1 + 1) 3 S2 R2 hne hb hl (by omega) (by omega) (by decide) (by decide))
          go_wp2_with fail
          refine N3.out.mono ?_
          rintro e w3 ⟨q, rfl, hq, S3, O3⟩
          obtain ⟨q, rfl⟩ := Int.eq_ofNat_of_zero_le hq.1
          have q3 : q < 3 := by omega
          obtain ⟨i0, hi, hz0, hz1, hz2⟩ := info_parts Try.info5
          have Z3 : Hid (w.heap.size ≤ w3.heap.size) := Nat.le_of_eq (O12.trans O3).size.symm
          obtain ⟨m, hm, hm2⟩ : ∃ m : Nat, wrap64 ((65534 : Int) + (q : Int)) = (m : Int) ∧ m ≤ 65536 := ⟨65534 + q, by unfold wrap64; omega, by omega⟩
          have HM := hide hm
          have HM2 := hide hm2
          clear N3 DRAW hm hm2 q3 hq
          go_wp2_with (at_make; rw [HM.out]; refine wpList_make_full _ rfl _ _ 22 rfl w3.heap.size 5 i0 (.int .u8 0) 1 Try.underlying22 hi hz0 hz1 .i64 .i64 _ _ m rfl rfl rfl rfl (by rw [hz2]; have := HM2.out; omega) (by unfold maxLen; have := HM2.out; omega) (Nat.le_refl _) ?_; intro w4 hown hgrow)
          have B4 := RowB.of_made hown
          have n4 : Below w3.heap.size w3 w4 := (Below.refl _ _).grown hgrow (Nat.le_refl _) (by simp)
          clear hown hgrow
          go_wp2
          go_ret
          exact ⟨_, _, t + 1 + 1 + 1, rfl, byt_zeros _, by rw [List.length_replicate]; exact HM2.out, B4.base Z3.out, ⟨by omega, by omega⟩, S3.up n4, (But.ofOnly (O12.trans O3)).trans (But.ofBelow n4)⟩
      · have b2 : (r == 2) = false := by simpa using h2
        have d2 : decide (r = 2) = false := by simpa using h2
        clear h0 h1 h2
        have N3 := hide (l1Next_any w1 s g a c xs (t + 1) 12 S1 R1 hne hb hl (by omega) (by omega) (by decide) (by decide))
        go_wp2_with fail
        refine N3.out.mono ?_
        rintro e w3 ⟨q, rfl, hq, S3, O3⟩
        obtain ⟨q, rfl⟩ := Int.eq_ofNat_of_zero_le hq.1
        have D := hide (DRAW.out w3 ((t + 1) + 1) q S3 ((R1).src O3 hne) (by omega) (by omega) (by omega) (by omega) (by omega) (But.ofOnly (O1.trans O3)))
        clear N3
        go_wp2_with fail
        refine D.out.mono ?_
        rintro e w4 ⟨ys, v, rfl, t', F⟩
        go_wp2
        go_ret
        exact ⟨ys, v, t', rfl, F⟩

set_option maxHeartbeats 1000000 in
/-- A tag and a body. -/
theorem drawEncItem_any (w : World) (g : Nat) (a : Option Addr) (c : Nat) (xs : List Int) (hr : Rd w g a .u8 xs) (hb : Byt xs) (hl : xs.length ≤ 1048576) :
    Calls Try.prog 5 #[.slice a xs.length c] w fun e w' => ∃ (u : Int) (ys : List Int) (v : Value), e = .returned (.tuple #[.int .i64 u, v]) ∧ (0 ≤ u ∧ u ≤ 256) ∧ Byt ys ∧ ys.length ≤ 65536 ∧ RowB w' w.heap.size v ys ∧ Below w.heap.size w w' := by
  go_enter Try.func5, Try.ntmps5
  go_wp2_with fail
  refine (l1Source_any w a xs.length c hl).mono ?_
  rintro e w1 ⟨rfl, S1, n1⟩
  have ne : 0 < xs.length → g ≠ w.heap.size := fun h => by have := hr.lt h; omega
  have l1 := S1.lt
  go_wp2_with fail
  refine (l10DrawTag_any w1 w.heap.size g a c xs 0 S1 (hr.up n1) ne hb hl (by decide) (by decide)).mono ?_
  rintro e w2 ⟨u, rfl, hu, S2, b2⟩
  have Z2 : Hid (w.heap.size ≤ w2.heap.size) := by show _ ≤ _; have := b2.size; omega
  go_wp2_with fail
  refine (l10DrawBody_any w2 w.heap.size g a c xs (0 + 2) S2 ((hr.up n1).but b2 ne) ne hb hl (by decide) (by decide)).mono ?_
  rintro e w3 ⟨ys, v, t', rfl, by', ly, rb, -, S3, b3⟩
  have FIN := hide (And.intro (rb.base Z2.out) ((n1.trans (b2.below (Nat.le_refl _) (by omega))).trans (b3.below (Nat.le_refl _) Z2.out)))
  clear rb b2 b3 n1 S1 S2 S3
  go_wp2
  go_ret2
  exact ⟨u, ys, v, rfl, hu, by', ly, FIN.out.1, FIN.out.2⟩
end Go.Proofs.Ythkhfljoflffpaa

/-
  The model's l10Length and EncodeItem.
-/
namespace Go.Proofs.Ythkhfljoflffpaa
open Go Go.RowKit

set_option maxRecDepth 100000 in
set_option maxHeartbeats 1000000 in
theorem l10Length_any (w : World) (n : Nat) (h : n ≤ 65535) :
    Calls Try.prog 26 #[.int .i64 (n : Int)] w fun e w' => NewRow w.heap.size w' e .u8 (lenL n) ∧ Below w.heap.size w w' := by
  by_cases c1 : n < 128
  · have E : Hid (lenL n = [(n : Int)]) := by show lenL n = _; unfold lenL; rw [if_pos c1]
    have t1 : decide ((n : Int) < 128) = true := by simp; omega
    have na : Below w.heap.size w (w.alloc (.cells #[.int .u8 (n : Int)] 5)) := (Below.refl _ _).alloc (Nat.le_refl _) _
    have B1 : Blk (w.alloc (.cells #[.int .u8 (n : Int)] 5)) w.heap.size .u8 [(n : Int)] := blk_lit1 w .u8 5 _
    have m1 : (n : Int) % 256 = (n : Int) := by omega
    rw [E.out]
    go_enter Try.func26, Try.ntmps26
    go_wp2
    go_ret
    exact ⟨⟨_, 1, w.heap.size, rfl, B1.own0, by simp, by simp, Nat.le_refl _⟩, na⟩
  · by_cases c2 : n < 256
    · have E : Hid (lenL n = [129, (n : Int)]) := by show lenL n = _; unfold lenL; rw [if_neg c1, if_pos c2]
      have t1 : decide ((n : Int) < 128) = false := by simp; omega
      have t2 : decide ((n : Int) < 256) = true := by simp; omega
      have na : Below w.heap.size w (w.alloc (.cells #[.int .u8 129, .int .u8 (n : Int)] 5)) := (Below.refl _ _).alloc (Nat.le_refl _) _
      have B1 : Blk (w.alloc (.cells #[.int .u8 129, .int .u8 (n : Int)] 5)) w.heap.size .u8 [129, (n : Int)] := ⟨5, by show (w.heap.push _)[w.heap.size]? = _; simp⟩
      have m1 : (n : Int) % 256 = (n : Int) := by omega
      rw [E.out]
      go_enter Try.func26, Try.ntmps26
      go_wp2
      go_ret
      exact ⟨⟨_, 2, w.heap.size, rfl, B1.own0, by simp, by simp, Nat.le_refl _⟩, na⟩
    · have E : Hid (lenL n = [130, (n : Int) / 256, (n : Int) % 256]) := by show lenL n = _; unfold lenL; rw [if_neg c1, if_neg c2]
      have t1 : decide ((n : Int) < 128) = false := by simp; omega
      have t2 : decide ((n : Int) < 256) = false := by simp; omega
      have na : Below w.heap.size w (w.alloc (.cells #[.int .u8 130, .int .u8 ((n : Int) / 256), .int .u8 ((n : Int) % 256)] 5)) := (Below.refl _ _).alloc (Nat.le_refl _) _
      have B1 : Blk (w.alloc (.cells #[.int .u8 130, .int .u8 ((n : Int) / 256), .int .u8 ((n : Int) % 256)] 5)) w.heap.size .u8 [130, (n : Int) / 256, (n : Int) % 256] := ⟨5, by show (w.heap.push _)[w.heap.size]? = _; simp⟩
      have m1 : (n : Int) / 256 % 256 = (n : Int) / 256 := by omega
      rw [E.out]
      go_enter Try.func26, Try.ntmps26
      go_wp2
      go_ret
      exact ⟨⟨_, 3, w.heap.size, rfl, B1.own0, by simp, by simp, Nat.le_refl _⟩, na⟩

set_option maxRecDepth 100000 in
set_option maxHeartbeats 1000000 in
theorem specEncodeItem_any (w : World) (tag : Int) (g : Nat) (a : Option Addr) (c : Nat) (xs : List Int) (hr : Rd w g a .u8 xs) (hc : a = none → c = 0) :
    Calls Try.prog 31 #[.int .i64 tag, .slice a xs.length c] w fun e w' => NewRow w.heap.size w' e .u8 (itL tag xs) ∧ Below w.heap.size w w' := by
  obtain ⟨i0, hi, hz0, hz1, hz2⟩ := info_parts Try.info5
  cases hB : itB tag xs.length with
  | true =>
    obtain ⟨h1, h2, h3⟩ := itB_yes hB
    have E : Hid (itL tag xs = tag :: (lenL xs.length ++ xs)) := by show itL tag xs = _; unfold itL; rw [if_pos hB]
    have t1 : decide (tag < 1) = false := by simp; omega
    have t2 : decide (255 < tag) = false := by simp; omega
    have t3 : decide (65535 < (xs.length : Int)) = false := by simp; omega
    have na : Below w.heap.size w (w.alloc (.cells #[.int .u8 tag] 5)) := (Below.refl _ _).alloc (Nat.le_refl _) _
    have RL := RowB.lit1 w tag
    have LL := lenL_len xs.length
    have SL := hide (l10Length_any (w.alloc (.cells #[.int .u8 tag] 5)) xs.length h3)
    have m1 : tag % 256 = tag := by omega
    clear hB
    go_enter Try.func31, Try.ntmps31
    go_wp2_with fail
    generalize w.alloc (.cells #[.int .u8 tag] 5) = W at *
    refine SL.out.mono ?_
    rintro r w1 ⟨⟨a1, c1, g1, rfl, o1, p1, q1, r1⟩, n1⟩
    have N1 := na.trans (n1.mono na.size)
    obtain ⟨v2, w2, hap, o2, n2⟩ := append_any (P := Try.prog) w1 22 i0 Try.underlying22 hi hz0 hz1 hz2 w.heap.size w.heap.size _ _ (RL.up n1) g1 a1 c1 _ o1.rd p1 (by simp; omega) (Nat.le_refl _) N1.size
    have N2 := N1.trans n2
    obtain ⟨v3, w3, hap3, o3, n3⟩ := append_any (P := Try.prog) w2 22 i0 Try.underlying22 hi hz0 hz1 hz2 w.heap.size w.heap.size _ _ o2 g a c xs (hr.up N2) hc (by simp; omega) (Nat.le_refl _) N2.size
    have N3 := N2.trans n3
    clear o1 o2 SL na n1 n2 n3 N1 N2 RL
    go_wp2_with (at_builtin; first | (refine Lib.wpList_append_run _ rfl _ _ 22 22 rfl _ _ rfl rfl _ _ hap ?_) | (refine Lib.wpList_append_run _ rfl _ _ 22 22 rfl _ _ rfl rfl _ _ hap3 ?_))
    clear hap hap3
    rw [List.append_assoc, List.singleton_append, ← E.out] at o3
    obtain ⟨a3, c3, g3, rfl, o3, p3, q3, r3⟩ := o3.own
    go_wp2
    go_ret
    exact ⟨⟨a3, c3, g3, rfl, o3, p3, q3, r3⟩, N3⟩
  | false =>
    have E : Hid (itL tag xs = []) := by show itL tag xs = _; unfold itL; rw [if_neg (by rw [hB]; decide)]
    have hal : Below w.heap.size w (w.alloc (.cells #[] 5)) := (Below.refl _ _).alloc (Nat.le_refl _) _
    rw [E.out]
    by_cases h1 : tag < 1
    · have t1 : decide (tag < 1) = true := by simp; omega
      go_enter Try.func31, Try.ntmps31
      go_wp2
      go_ret
      exact ⟨newRow_e _ _, hal⟩
    · have t1 : decide (tag < 1) = false := by simp; omega
      by_cases h2 : 255 < tag
      · have t2 : decide (255 < tag) = true := by simp; omega
        go_enter Try.func31, Try.ntmps31
        go_wp2
        go_ret
        exact ⟨newRow_e _ _, hal⟩
      · have t2 : decide (255 < tag) = false := by simp; omega
        have t3 : decide (65535 < (xs.length : Int)) = true := by
          unfold itB at hB
          simp at hB ⊢
          have := hB (by omega) (by omega)
          omega
        go_enter Try.func31, Try.ntmps31
        go_wp2
        go_ret
        exact ⟨newRow_e _ _, hal⟩
end Go.Proofs.Ythkhfljoflffpaa

/-
  What FnItemsBack draws: several items' bytes.
-/
namespace Go.Proofs.Ythkhfljoflffpaa
open Go Go.RowKit

theorem RowB.butS {w w' : World} {base s : Nat} {v : Value} {xs : List Int} (h : RowB w base v xs) (ho : But s w w') (hs : s < base) : RowB w' base v xs := by
  refine ⟨h.1, ?_⟩
  rcases h.2 with h' | ⟨g, cap, cur, rfl, hbg, hg, hr⟩
  · exact .inl h'
  · exact .inr ⟨g, cap, cur, rfl, hbg, by rw [ho.block g ((Array.getElem?_eq_some_iff.1 hg).1) (by omega)]; exact hg, hr⟩
theorem But.tail {s : Nat} {a b c : World} (h : But s a b) (m : Below a.heap.size b c) : But s a c := ⟨m.os.trans h.os, m.tape.trans h.tape, m.output.trans h.output, Nat.le_trans h.size m.size, fun k hk hne => (m.block k hk).trans (h.block k hk hne)⟩
theorem bytC {x : Int} {l : List Int} (h : Byt l) (h0 : 0 ≤ x) (h1 : x < 256) : Byt (x :: l) := fun i => by
  cases i with
  | zero => exact ⟨h0, h1⟩
  | succ i => exact h i
theorem bytA {l r : List Int} (h : Byt l) (k : Byt r) : Byt (l ++ r) := by
  induction l with
  | nil => exact k
  | cons x l ih => exact bytC (ih (fun i => h (i + 1))) (h 0).1 (h 0).2
theorem itL_byt (t : Int) (b : List Int) (hb : Byt b) : Byt (itL t b) := by
  unfold itL
  split
  · rename_i h
    have hh : 1 ≤ t ∧ t ≤ 255 ∧ b.length ≤ 65535 := by unfold itB at h; simpa using h
    exact bytC (bytA (lenL_byt _ hh.2.2) hb) (by omega) (by omega)
  · exact fun i => by simp

set_option maxHeartbeats 1000000 in
theorem l10DrawItems_any (w : World) (s g : Nat) (a : Option Addr) (c : Nat) (xs : List Int) (t : Int) (hs : Src w s a xs.length c t) (hr : Rd w g a .u8 xs) (hne : 0 < xs.length → g ≠ s) (hb : Byt xs) (hl : xs.length ≤ 1048576)
    (t0 : 0 ≤ t) (t1 : t ≤ 10) :
    Calls Try.prog 19 #[.pointer (some ⟨s, 0, none⟩), .int .i64 4] w fun e w' => ∃ ys v t', e = .returned v ∧ Byt ys ∧ ys.length ≤ 300000 ∧ RowB w' w.heap.size v ys ∧ (t ≤ t' ∧ t' ≤ t + 1300) ∧ Src w' s a xs.length c t' ∧ But s w w' := by
  obtain ⟨i0, hi, hz0, hz1, hz2⟩ := info_parts Try.info5
  have n1 : Below w.heap.size w (w.alloc (.cells #[] 5)) := (Below.refl _ _).alloc (Nat.le_refl _) _
  have R1 := RowB.lit0 w
  have zs := hs.lt
  have N1 := hide (l1Next_any (w.alloc (.cells #[] 5)) s g a c xs t 5 (hs.up n1) (hr.up n1) hne hb hl t0 (by omega) (by decide) (by decide))
  go_enter Try.func19, Try.ntmps19
  go_wp2_with fail
  refine N1.out.mono ?_
  rintro e w2 ⟨q, rfl, hq, S2, O2⟩
  obtain ⟨q, rfl⟩ := Int.eq_ofNat_of_zero_le hq.1
  have q4 : q ≤ 4 := by omega
  have R2 := R1.butS (But.ofOnly O2) (show s < w.heap.size from zs)
  have b2 : But s w w2 := (But.ofBelow n1).trans (But.ofOnly O2)
  clear N1 R1 n1 O2 hq hs
  go_wp2_with fail
  go_loopw [5, 6] (fun v k wr => ∃ (j : Nat) (ys : List Int) (t' : Int), j ≤ 4 ∧ k = .int .i64 j ∧ Byt ys ∧ ys.length ≤ (4 - j) * 70000 ∧ RowB wr w.heap.size v ys ∧ (t ≤ t' ∧ t' ≤ t + 1 + (4 - (j : Int)) * 310) ∧ Src wr s a xs.length c t' ∧ But s w wr) (fun _ k _ => (intOf k).toNat)
  case atStart => exact ⟨q, [], t + 1, q4, rfl, fun i => by simp, by simp, R2, ⟨by omega, by omega⟩, S2, b2⟩
  case round =>
    obtain ⟨j, ys, t', hj, rfl, bys, lys, R, ⟨u0, u1⟩, S, b⟩ := hrel
    clear R2 S2 b2
    by_cases hj0 : 0 < j
    · have c1 : decide ((0 : Int) < (j : Int)) = true := by simp; omega
      have u2 : t' ≤ 1000 := by omega
      have DT := hide (l10DrawTag_any wr s g a c xs t' S (hr.but b hne) hne hb hl (by omega) (by omega))
      go_wp2_with fail
      refine DT.out.mono ?_
      rintro e w3 ⟨tg, rfl, htg, S3, b3⟩
      have R3 := R.butS b3 zs
      have b03 := b.trans b3
      have DB := hide (l10DrawBody_any w3 s g a c xs (t' + 2) S3 (hr.but b03 hne) hne hb hl (by omega) (by omega))
      clear DT R S b b3
      go_wp2_with fail
      refine DB.out.mono ?_
      rintro e w4 ⟨bd, v, t4, rfl, bbd, lbd, RB, ⟨u3, u4⟩, S4, b4⟩
      obtain ⟨ba, bc, bg, rfl, rB, nB, -, -⟩ := RB.rd
      have R4 := R3.butS b4 zs
      have b04 := b03.trans b4
      clear DB RB R3 S3 b03 b4
      go_wp2_with fail
      refine (specEncodeItem_any w4 (1 + tg % 255) bg ba bc bd rB nB).mono ?_
      rintro e w5 ⟨⟨ea, ec, eg, rfl, oE, nE, lE, kE⟩, m5⟩
      have R5 := R4.up m5
      have LI := itL_len (1 + tg % 255) bd
      have BI := itL_byt (1 + tg % 255) bd bbd
      have z5 : w.heap.size ≤ w5.heap.size := Nat.le_trans b04.size m5.size
      generalize itL (1 + tg % 255) bd = il at *
      obtain ⟨v', w6, hap, R6, m6⟩ := append_any w5 22 i0 Try.underlying22 hi hz0 hz1 hz2 w.heap.size w.heap.size _ ys R5 eg ea ec il oE.rd nE (by omega) (Nat.le_refl _) z5
      have S6 := hide ((S4.up m5).of_block (m6.block s zs))
      have B6 := hide ((b04.trans (But.ofBelow m5)).tail m6)
      have R6 := hide R6
      have BY := hide (bytA bys BI)
      have LY := hide (show (ys ++ il).length ≤ (4 - (j - 1)) * 70000 by rw [List.length_append]; omega)
      have TT := hide (show t ≤ t4 ∧ t4 ≤ t + 1 + (4 - ((j - 1 : Nat) : Int)) * 310 by constructor <;> omega)
      clear oE nE lE kE m5 m6 R4 R5 S4 b04 LI BI z5 bys lys rB nB lbd bbd u0 u1 u2 u3 u4 htg
      go_wp2_with (at_builtin; refine Lib.wpList_append_run _ rfl _ _ 22 22 rfl _ _ rfl rfl _ _ hap ?_)
      clear hap
      go_wp2
      go_roundw
      case rel => exact ⟨j - 1, _, t4, by omega, by go_num, BY.out, LY.out, R6.out, TT.out, S6.out, B6.out⟩
      case measure => simp [intOf]; omega
    · obtain rfl : j = 0 := by omega
      have FIN := hide (And.intro R (And.intro S b))
      have u5 : t' ≤ t + 1300 := by omega
      clear R S b
      go_wp2
      go_ret
      exact ⟨ys, _, t', rfl, bys, by omega, FIN.out.1, ⟨u0, u5⟩, FIN.out.2.1, FIN.out.2.2⟩
end Go.Proofs.Ythkhfljoflffpaa

/-
  Any list of bytes is spoilt, an empty one too.
-/
namespace Go.Proofs.Ythkhfljoflffpaa
open Go Go.RowKit

theorem RowB.shape0 {w : World} {base : Nat} {v : Value} (h : RowB w base v []) : ∃ a c, v = .slice a 0 c := by
  obtain ⟨a, c, g, e, -⟩ := h.rd
  exact ⟨a, c, e⟩
set_option maxHeartbeats 400000 in
theorem l10Spoil_all (w : World) (s g : Nat) (a : Option Addr) (c : Nat) (xs : List Int) (t : Int) (hs : Src w s a xs.length c t) (hr : Rd w g a .u8 xs) (hne : 0 < xs.length → g ≠ s) (hb : Byt xs) (hl : xs.length ≤ 1048576)
    (t0 : 0 ≤ t) (t1 : t ≤ 10000) (v : Value) (ys : List Int) (base : Nat) (hR : RowB w base v ys) (hsb : s < base) (hbw : base ≤ w.heap.size) (yb : Byt ys) (y1 : ys.length ≤ 1000000) :
    Calls Try.prog 22 #[.pointer (some ⟨s, 0, none⟩), v] w fun e w' => ∃ zs r, e = .returned r ∧ Byt zs ∧ zs.length ≤ ys.length + 1 ∧ RowB w' base r zs ∧ Below s w w' := by
  by_cases y0 : 0 < ys.length
  · exact l10Spoil_any w s g a c xs t hs hr hne hb hl t0 t1 v ys base hR hsb hbw yb y0 y1
  · obtain rfl : ys = [] := List.eq_nil_of_length_eq_zero (by omega)
    obtain ⟨va, vc, rfl⟩ := hR.shape0
    have L1 := hide ((RowB.lit1 w 0).base hbw)
    have N1 : Hid (Below s w (w.alloc (.cells #[.int .u8 0] 5))) := (Below.refl s w).alloc (by omega) _
    clear hR hs hr y0
    go_enter Try.func22, Try.ntmps22
    go_wp2
    go_ret
    exact ⟨[0], _, rfl, bytC byt_nil (by decide) (by decide), by simp, L1.out, N1.out⟩
end Go.Proofs.Ythkhfljoflffpaa

/-
  Zeros appended to an owned row of bytes ('append(s, make([]byte, m)...)'), in its room or in a new row. No program in sight.
-/
namespace Go.Proofs.Ythkhfljoflffpaa
open Go.RowKit

theorem zeroCells_one (v : Value) (m : Nat) : (Builtin.zeroCells #[v] m).toList = List.replicate m v := by
  apply List.ext_getElem
  · simp [Builtin.zeroCells]
  · intro i h1 h2
    simp [Builtin.zeroCells, Nat.mod_one]
theorem run_append_room_zeros {P : Program} (w : World) (t tn ty e : TypeId) (i : TypeInfo) (z : Value) (kq kn : IntKind) (ht : P.underlying t = some (.slice e)) (htn : P.underlying tn = some (.int kn)) (hi : P.info? e = some i) (hz : i.zero = some z)
    (g sLen sCap : Nat) (cur : Array Value) (hg : w.heap[g]? = some (.cells cur e (0, 0))) (m : Nat) (h0 : 0 < m) (hs : 0 < i.size) (h1 : ∀ u ∈ (Builtin.zeroCells z.cells m).toList, u.oneCell' = true)
    (h63 : (m : Int) ≤ 9223372036854775807) (h48 : m * i.bytes ≤ 281474976710656) (hroom : sLen + m ≤ sCap) (hfit : sLen * i.size + (Builtin.zeroCells z.cells m).toList.length ≤ cur.size) :
    (Builtin.append_ #[t, tn] ty #[.slice (some ⟨g, 0, none⟩) sLen sCap, .int kq m]).run P w =
      .ok (.slice (some ⟨g, 0, none⟩) (sLen + m) sCap) (w.setRow g (cur.toList.take (sLen * i.size) ++ (Builtin.zeroCells z.cells m).toList ++ cur.toList.drop (sLen * i.size + (Builtin.zeroCells z.cells m).toList.length)).toArray) := by
  have hst := run_storeCells_at P g (sLen * i.size) e (Builtin.zeroCells z.cells m).toList 0 cur w hg (by simpa using hfit) h1
  simp only [Nat.add_zero] at hst
  have hw : IntKind.i64.wrap (m : Int) = m := by rw [IntKind.wrap_i64]; omega
  have h48i : ¬ (281474976710656 < (m : Int) * (i.bytes : Int)) := by
    rw [← Int.natCast_mul]
    omega
  have hneg : ¬ ((m : Int) < 0) := by omega
  have hm : m ≠ 0 := by omega
  have hns : ¬ (m * i.size = 0) := Nat.mul_ne_zero hm (by omega)
  simp [Builtin.append_, run_underlying ht, run_underlying htn, sizeOf, typeInfo, zeroValue, hi, hz, asInt, asIntOf, hw, hneg, hns, h48i, hroom, Addr.add_lit, hst]
theorem append_zeros_own {P : Program} (w : World) (t tn ty e : TypeId) (i : TypeInfo) (kq kn : IntKind) (ht : P.underlying t = some (.slice e)) (htn : P.underlying tn = some (.int kn)) (hi : P.info? e = some i) (hz : i.zero = some (.int .u8 0)) (hsize : i.size = 1) (hby : i.bytes = 1)
    (base : Nat) (v : Value) (n : Nat) (xs : List Value) (hown : w.ownsRow base e 1 v n xs) (hv : v ≠ .slice none 0 0) (m : Nat) (h0 : 0 < m) (hsm : n + m ≤ 1048576) (hbase : base ≤ w.heap.size) :
    ∃ v' w', (Builtin.append_ #[t, tn] ty #[v, .int kq m]).run P w = .ok v' w' ∧ w'.ownsRow base e 1 v' (n + m) (xs ++ List.replicate m (.int .u8 0)) ∧ w.grownBy w' v.ownBlock ∧ v' ≠ .slice none 0 0 := by
  have hzc : (Value.int .u8 0).cells = #[.int .u8 0] := rfl
  have hzl := zeroCells_one (.int .u8 0) m
  have hlen : (xs ++ List.replicate m (Value.int .u8 0)).length = (n + m) * 1 := by rw [List.length_append, hown.1, List.length_replicate]; omega
  rcases hown.2 with ⟨rfl, rfl⟩ | ⟨g, cap, cur, rfl, hbg, hg, hnc, hcm, hcs, htake⟩
  · exact absurd rfl hv
  · by_cases hroom : n + m ≤ cap
    · have hr := run_append_room_zeros (P := P) w t tn ty e i (.int .u8 0) kq kn ht htn hi hz g n cap cur hg m h0 (by omega) (by rw [hzc, hzl]; intro u hu; rw [(List.mem_replicate.1 hu).2]; rfl) (by omega) (by rw [hby]; omega) hroom (by rw [hzc, hzl, hsize, List.length_replicate]; omega)
      rw [hzc, hzl, hsize, List.length_replicate] at hr
      refine ⟨_, _, hr, ⟨hlen, .inr ⟨g, cap, _, rfl, hbg, setRow_heap w g cur _ e _ hg, hroom, hcm, ?_, ?_⟩⟩, ⟨rfl, rfl, rfl, by simp, fun k _ hk => setRow_other w g k _ (fun e => hk (by simp [Value.ownBlock, e]))⟩, by simp⟩
      · simp only [List.size_toArray, List.length_append, List.length_take, List.length_drop, Array.length_toList, List.length_replicate]
        omega
      · rw [htake, ← hlen]
        exact List.take_left
    · have holds : ∀ j u, xs[j]? = some u → w.drew.cell? ((⟨g, 0, none⟩ : Addr).add j) = some u := hown.cells (g := g) rfl
      have hf := run_firstCells_some (P := P) w.drew i.size n ⟨g, 0, none⟩ n cap xs (by rw [hsize]; exact hown.1) holds
      have hr := Lib.run_append_grow_zeros (P := P) w t tn ty e i (.int .u8 0) kq kn ht htn hi hz (some ⟨g, 0, none⟩) n cap xs hf m h0 (by omega) (by omega) (by omega) (by rw [hby]; omega) (growslice_fits (by omega) (by rw [hby]; omega))
      have hge := grownCap_ge w (n + m) cap e
      have hcm' : grownCap w (n + m) cap e ≤ maxLen := grownCap_le_maxLen w (n + m) cap e (by unfold maxLen; omega)
      refine ⟨_, _, hr, ⟨hlen, .inr ⟨w.heap.size, _, _, rfl, hbase, _root_.Go.heap_alloc_new w.drew _, hge, hcm', ?_, ?_⟩⟩, ⟨rfl, rfl, rfl, by simp, fun k hk _ => _root_.Go.heap_alloc_old w.drew _ hk⟩, by simp⟩
      · have h1 := hown.1
        simp only [Array.size_append, List.size_toArray, size_zeroCells, hzc, h1]
        simp
        omega
      · simp only [Array.toList_append, List.append_assoc]
        rw [← List.append_assoc, ← hlen, hzc, hzl]
        exact List.take_left
end Go.Proofs.Ythkhfljoflffpaa

/-
  math/bits.Len64.
-/
namespace Go.Proofs.Ythkhfljoflffpaa
open Go.RowKit

/-- The table of Len64. -/
abbrev tb8 : ByteArray := { data := #[0, 1, 2, 2, 3, 3, 3, 3, 4, 4, 4, 4, 4, 4, 4, 4, 5, 5, 5, 5, 5, 5, 5, 5, 5, 5, 5, 5, 5, 5, 5, 5, 6, 6, 6, 6, 6, 6, 6, 6, 6, 6, 6, 6, 6, 6, 6, 6, 6, 6, 6, 6, 6, 6, 6, 6, 6, 6, 6, 6, 6, 6, 6, 6, 7, 7, 7, 7, 7, 7, 7, 7, 7, 7, 7, 7, 7, 7, 7, 7, 7, 7, 7, 7, 7, 7, 7, 7, 7, 7, 7, 7, 7, 7, 7, 7, 7, 7, 7, 7, 7, 7, 7, 7, 7, 7, 7, 7, 7, 7, 7, 7, 7, 7, 7, 7, 7, 7, 7, 7, 7, 7, 7, 7, 7, 7, 7, 7, 8, 8, 8, 8, 8, 8, 8, 8, 8, 8, 8, 8, 8, 8, 8, 8, 8, 8, 8, 8, 8, 8, 8, 8, 8, 8, 8, 8, 8, 8, 8, 8, 8, 8, 8, 8, 8, 8, 8, 8, 8, 8, 8, 8, 8, 8, 8, 8, 8, 8, 8, 8, 8, 8, 8, 8, 8, 8, 8, 8, 8, 8, 8, 8, 8, 8, 8, 8, 8, 8, 8, 8, 8, 8, 8, 8, 8, 8, 8, 8, 8, 8, 8, 8, 8, 8, 8, 8, 8, 8, 8, 8, 8, 8, 8, 8, 8, 8, 8, 8, 8, 8, 8, 8, 8, 8, 8, 8, 8, 8, 8, 8, 8, 8, 8, 8, 8, 8, 8, 8, 8, 8, 8, 8, 8, 8, 8, 8] }
set_option maxRecDepth 100000 in
theorem tb8_size : tb8.size = 256 := by decide +kernel
set_option maxRecDepth 100000 in
theorem tb8_all : ∀ f : Fin 256, f.val < 2 ^ (tb8[f.val]!).toNat ∧ (tb8[f.val]!).toNat ≤ 8 ∧ (1 ≤ f.val → 1 ≤ (tb8[f.val]!).toNat ∧ 2 ^ ((tb8[f.val]!).toNat - 1) ≤ f.val) ∧ (f.val = 0 → (tb8[f.val]!).toNat = 0) := by decide +kernel
theorem wrp {n : Int} (h0 : 0 ≤ n) (h1 : n ≤ 1000) : wrap64 n = n := by unfold wrap64; omega
set_option maxRecDepth 100000 in
theorem tb8_fin (n b : Nat) (h : n < tb8.size) (hn : n < 256) (hb : b ≤ 56) : wrap64 ((b : Int) + wrap64 ((tb8[n]'h).toNat : Int)) = ((b + tb8[n]!.toNat : Nat) : Int) := by
  have e : tb8[n]'h = tb8[n]! := (getElem!_pos tb8 n h).symm
  have F : tb8[n]!.toNat ≤ 8 := (tb8_all ⟨n, hn⟩).2.1
  have w1 : wrap64 (tb8[n]!.toNat : Int) = (tb8[n]!.toNat : Int) := wrp (by omega) (by omega)
  rw [e, w1, wrp (by omega) (by omega)]
  omega
theorem bts_up {x : Int} {n b L : Nat} (h0 : 0 ≤ x) (d : Int) (hd : d = 2 ^ b) (hx : x < ((n : Int) + 1) * d) (hx' : (n : Int) * d ≤ x) (hn : n < 2 ^ L) (hn' : 1 ≤ n ∨ b = 0) (hL : 1 ≤ n → 1 ≤ L ∧ 2 ^ (L - 1) ≤ n) (hz : n = 0 → L = 0) : Bts x (b + L) := by
  have p0 : (0 : Int) < 2 ^ b := Int.pow_pos (by decide)
  refine ⟨h0, ?_, ?_⟩
  · have h1 : (n : Int) + 1 ≤ 2 ^ L := by exact_mod_cast hn
    have h3 : ((n : Int) + 1) * d ≤ 2 ^ L * d := Int.mul_le_mul_of_nonneg_right h1 (by omega)
    rw [Int.pow_add, Int.mul_comm, ← hd]
    omega
  · by_cases c : 1 ≤ n
    · right
      obtain ⟨l1, l2⟩ := hL c
      have h1 : (2 : Int) ^ (L - 1) ≤ n := by exact_mod_cast l2
      have h3 : (2 : Int) ^ (L - 1) * d ≤ n * d := Int.mul_le_mul_of_nonneg_right h1 (by omega)
      rw [show b + L - 1 = b + (L - 1) by omega, Int.pow_add, Int.mul_comm, ← hd]
      omega
    · left
      have := hz (by omega)
      omega

end Go.Proofs.Ythkhfljoflffpaa

/-
  Bytes without zeros ahead: the model's and the program's.
-/
namespace Go.Proofs.Ythkhfljoflffpaa
open Go.RowKit

set_option maxHeartbeats 400000 in
theorem l1Copy_any (w : World) (g : Nat) (a : Option Addr) (cap : Nat) (xs : List Int) (hr : Rd w g a .u8 xs) (hc : a = none → cap = 0) (hn : xs.length ≤ 1048576) :
    Calls Try.prog 27 #[.slice a xs.length cap] w fun e w' => NewRow w.heap.size w' e .u8 xs ∧ Below w.heap.size w w' := by
  obtain ⟨i0, hi, hz0, hz1, hz2⟩ := info_parts Try.info5
  have hown : (w.alloc (.cells #[] 5)).ownsRow w.heap.size 5 1 (.slice (some ⟨w.heap.size, 0, none⟩) 0 0) 0 [] := World.ownsRow_lit w #[] 0 (Nat.le_refl _) (by unfold maxLen; omega) (by simp)
  have hal : Below w.heap.size w (w.alloc (.cells #[] 5)) := (Below.refl _ _).alloc (Nat.le_refl _) _
  cases a with
  | none =>
    obtain rfl : xs = [] := by
      by_cases h0 : 0 < xs.length
      · obtain ⟨off, h, _⟩ := hr h0
        simp at h
      · exact List.eq_nil_of_length_eq_zero (by omega)
    obtain rfl := hc rfl
    go_enter Try.func27, Try.ntmps27
    go_wp2_with (at_builtin; refine wpList_append_own_none rfl _ _ 22 rfl w.heap.size 5 i0 1 Try.underlying22 hi _ 0 [] rfl hown rfl ?_)
    go_ret
    exact ⟨⟨_, _, w.heap.size, rfl, Own.nil _ _ _ _, by simp, Nat.zero_le _, Nat.le_refl _⟩, hal⟩
  | some ad =>
    have hcell : ∀ j u, (xs.map (Value.int .u8))[j]? = some u → (w.alloc (.cells #[] 5)).cell? (ad.add j) = some u := by
      intro j u hj
      have hjl : j < xs.length := by
        have := (List.getElem?_eq_some_iff.1 hj).1
        simpa using this
      obtain ⟨off, ha, hcc⟩ := (hr.up hal) (by omega)
      simp only [Option.some.injEq] at ha
      subst ha
      rw [Addr.add_mid, hcc j hjl]
      simpa [hjl] using hj
    have hone : ∀ u ∈ xs.map (Value.int .u8), u.oneCell' = true := by
      intro u hu
      obtain ⟨x, _, rfl⟩ := List.mem_map.1 hu
      rfl
    go_enter Try.func27, Try.ntmps27
    go_wp2_with (at_builtin; refine wpList_append_own _ rfl _ _ 22 rfl w.heap.size 5 i0 (.int .u8 0) 1 1 Try.underlying22 hi hz0 hz1 hz2 rfl (by decide) (.slice (some ⟨w.heap.size, 0, none⟩) 0 0) 0 [] rfl hown ad xs.length cap (xs.map (Value.int .u8)) rfl (by simp) hcell hone (by unfold maxLen; omega) (by omega) (by simp) ?_; intro v' w1 hown' hgrow _)
    simp only [Nat.zero_add, List.nil_append] at hown'
    obtain ⟨a', c', g', rfl, h1, h2, h3, h4⟩ := Own.of_ownsRow hown'
    have hB : Below w.heap.size w w1 := hal.grown hgrow (by simp) (by intro k hk; simp [Value.ownBlock] at hk; omega)
    clear hown' hgrow hown
    go_wp2
    go_ret
    exact ⟨⟨_, _, g', rfl, h1, h2, h3, h4⟩, hB⟩

end Go.Proofs.Ythkhfljoflffpaa

/-
  The model's l10Signed, EncodeInteger and DecodeInteger.
-/
namespace Go.Proofs.Ythkhfljoflffpaa
open Go.RowKit

theorem sgB_take_succ (v : Int) (k : Nat) (hk : k < 8) : (sgB 8 v).take k ++ [v / 2 ^ (8 * (7 - k)) % 256] = (sgB 8 v).take (k + 1) := by
  have hl : k < (sgB 8 v).length := by rw [sgB_len]; exact hk
  rw [List.take_add_one, List.getElem?_eq_getElem hl]
  have e := sgB_get 8 v k hk
  rw [List.getD_eq_getElem?_getD, List.getElem?_eq_getElem hl] at e
  simp only [Option.getD_some] at e
  rw [e, show 8 - 1 - k = 7 - k by omega]
  rfl

end Go.Proofs.Ythkhfljoflffpaa

/-
  Items read from bytes, case by case: numbers alone.
-/
namespace Go.Proofs.Ythkhfljoflffpaa

theorem itA_out {xs : List Int} {i : Nat} (h : xs.length ≤ i) : itA xs i = none := if_neg (by omega)
theorem itA_zero {xs : List Int} {i : Nat} (h : xs.getD i 0 = 0) : itA xs i = none := if_neg (fun k => k.2 h)
theorem itA_ln {xs : List Int} {i : Nat} (h : lnA xs (i + 1) = none) : itA xs i = none := by
  unfold itA
  split
  · rw [h]
  · rfl
theorem itA_short {xs : List Int} {i m n : Nat} (h : lnA xs (i + 1) = some (m, n)) (hl : xs.length < i + 1 + m + n) : itA xs i = none := by
  unfold itA
  split
  · rw [h]
    exact if_neg (by omega)
  · rfl
theorem itA_yes {xs : List Int} {i m n : Nat} (h0 : i < xs.length) (hx : xs.getD i 0 ≠ 0) (h : lnA xs (i + 1) = some (m, n)) (hl : i + 1 + m + n ≤ xs.length) : itA xs i = some (xs.getD i 0, i + 1 + m, n) := by
  unfold itA
  rw [if_pos ⟨h0, hx⟩, h]
  exact if_pos hl
end Go.Proofs.Ythkhfljoflffpaa

/-
  Items by trial: the model's way, numbers alone.
-/
namespace Go.Proofs.Ythkhfljoflffpaa

/-- The length that k bytes ahead of the body tell. -/
def nK (R : List Int) (k : Nat) : Nat := if k = 2 then (R.getD 1 0).toNat else if k = 3 then (R.getD 2 0).toNat else (256 * R.getD 2 0 + R.getD 3 0).toNat
def mtK (R : List Int) (k : Nat) : Bool := decide (k + nK R k ≤ R.length) && decide (lenL (nK R k) = (R.drop 1).take (k - 1))
theorem getD_dropA (xs : List Int) (i j : Nat) : (xs.drop i).getD j 0 = xs.getD (i + j) 0 := by
  rw [List.getD_eq_getElem?_getD, List.getD_eq_getElem?_getD, List.getElem?_drop]
theorem getD_takeA (xs : List Int) (n j : Nat) (h : j < n) : (xs.take n).getD j 0 = xs.getD j 0 := by
  rw [List.getD_eq_getElem?_getD, List.getD_eq_getElem?_getD, List.getElem?_take, if_pos h]
theorem nK_bd {R : List Int} (hb : Byt R) (k : Nat) : nK R k ≤ 65535 := by
  have b1 := hb 1
  have b2 := hb 2
  have b3 := hb 3
  unfold nK
  repeat' split
  all_goals omega
theorem itA_mt {xs : List Int} (hb : Byt xs) {i k : Nat} (hi : i < xs.length) (hx : xs.getD i 0 ≠ 0) (h2 : 2 ≤ k) (hk : k ≤ (xs.drop i).length) (hm : mtK (xs.drop i) k = true) : itA xs i = some (xs.getD i 0, i + k, nK (xs.drop i) k) := by
  have hbR : Byt (xs.drop i) := fun j => by rw [getD_dropA]; exact hb _
  have hn := nK_bd hbR k
  unfold mtK at hm
  simp only [Bool.and_eq_true, decide_eq_true_eq] at hm
  generalize nK (xs.drop i) k = n at *
  rw [List.length_drop] at hk hm
  have hL : (lenL n).length = k - 1 := by rw [hm.2, List.length_take, List.length_drop, List.length_drop]; omega
  have hln := lnA_of (xs := xs) (i := i + 1) (n := n) (by omega) (fun j hj => by
    rw [hm.2, getD_takeA _ _ _ (by omega), getD_dropA, getD_dropA, Nat.add_assoc]) hn
  rw [hL] at hln
  have := itA_yes hi hx hln (by omega)
  rwa [show i + 1 + (k - 1) = i + k by omega] at this
theorem itA_no {xs : List Int} (hb : Byt xs) {i : Nat} (h : ∀ k, 2 ≤ k → k ≤ 4 → k ≤ (xs.drop i).length → mtK (xs.drop i) k = false) : itA xs i = none := by
  cases hl : lnA xs (i + 1) with
  | none => exact itA_ln hl
  | some p =>
    obtain ⟨m, n⟩ := p
    by_cases hs : i + 1 + m + n ≤ xs.length
    · exfalso
      have bd := lnA_bd hb hl
      obtain ⟨hL, hf⟩ := lnA_form hb hl
      have e : lenL n = ((xs.drop i).drop 1).take m := by
        refine eq_of_getD (by rw [hL, List.length_take, List.length_drop, List.length_drop]; omega) fun j hj => ?_
        rw [hL] at hj
        rw [getD_takeA _ _ _ hj, getD_dropA, getD_dropA, ← hf j hj]
        congr 1
        omega
      have hn : nK (xs.drop i) (m + 1) = n := by
        unfold nK
        simp only [getD_dropA]
        unfold lenL at hL hf
        split at hL
        · rename_i c
          rw [if_pos c] at hf
          obtain rfl : m = 1 := by simpa using hL.symm
          have h0 : xs.getD (i + 1) 0 = (n : Int) := hf 0 (by omega)
          rw [if_pos rfl, h0]
          simp
        · rename_i c
          rw [if_neg c] at hf
          split at hL
          · rename_i c2
            rw [if_pos c2] at hf
            obtain rfl : m = 2 := by simpa using hL.symm
            have h1 : xs.getD (i + 1 + 1) 0 = (n : Int) := hf 1 (by omega)
            rw [if_neg (by omega), if_pos rfl, show i + 2 = i + 1 + 1 by omega, h1]
            simp
          · rename_i c2
            rw [if_neg c2] at hf
            obtain rfl : m = 3 := by simpa using hL.symm
            have h1 : xs.getD (i + 1 + 1) 0 = (n : Int) / 256 := hf 1 (by omega)
            have h2 : xs.getD (i + 1 + 2) 0 = (n : Int) % 256 := hf 2 (by omega)
            rw [if_neg (by omega), if_neg (by omega), show i + 2 = i + 1 + 1 by omega, show i + 3 = i + 1 + 2 by omega, h1, h2]
            omega
      have := h (m + 1) (by omega) (by omega) (by rw [List.length_drop]; omega)
      unfold mtK at this
      rw [hn, show m + 1 - 1 = m by omega, decide_eq_true e, decide_eq_true (by rw [List.length_drop]; omega)] at this
      cases this
    · exact itA_short hl (by omega)
end Go.Proofs.Ythkhfljoflffpaa

/-
  Blocks of four cells; answers of four parts.
-/
namespace Go.Proofs.Ythkhfljoflffpaa
open Go Go.RowKit

/-- A block of four cells. -/
def Fo (w : World) (p : Nat) (x y z u : Value) : Prop := ∃ t, w.heap[p]? = some (.cells #[x, y, z, u] t (0, 0))
theorem Fo.c0 {w : World} {p : Nat} {x y z u : Value} (h : Fo w p x y z u) : w.cell? ⟨p, 0, none⟩ = some x := by
  obtain ⟨t, h⟩ := h
  simp [World.cell?, h]
theorem Fo.c1 {w : World} {p : Nat} {x y z u : Value} (h : Fo w p x y z u) : w.cell? ⟨p, 1, none⟩ = some y := by
  obtain ⟨t, h⟩ := h
  simp [World.cell?, h]
theorem Fo.c2 {w : World} {p : Nat} {x y z u : Value} (h : Fo w p x y z u) : w.cell? ⟨p, 2, none⟩ = some z := by
  obtain ⟨t, h⟩ := h
  simp [World.cell?, h]
theorem Fo.c3 {w : World} {p : Nat} {x y z u : Value} (h : Fo w p x y z u) : w.cell? ⟨p, 3, none⟩ = some u := by
  obtain ⟨t, h⟩ := h
  simp [World.cell?, h]
theorem Fo.fr {w : World} {p : Nat} {x y z u : Value} (h : Fo w p x y z u) (i : Nat) : w.frozen? ⟨p, i, none⟩ = false := by
  obtain ⟨t, h⟩ := h
  simp [World.frozen?, h]
theorem Fo.lt {w : World} {p : Nat} {x y z u : Value} (h : Fo w p x y z u) : p < w.heap.size := by
  obtain ⟨t, h⟩ := h
  exact (Array.getElem?_eq_some_iff.1 h).1
theorem Fo.of_block {w w' : World} {p : Nat} {x y z u : Value} (h : Fo w p x y z u) (hb : w'.heap[p]? = w.heap[p]?) : Fo w' p x y z u := by
  obtain ⟨t, h⟩ := h
  exact ⟨t, hb.trans h⟩
theorem Fo.up {w w' : World} {p : Nat} {x y z u : Value} (h : Fo w p x y z u) (n : Below w.heap.size w w') : Fo w' p x y z u := h.of_block (n.block p h.lt)
theorem Fo.only {w w' : World} {p q : Nat} {x y z u : Value} (h : Fo w p x y z u) (n : Only q w w') (hne : p ≠ q) : Fo w' p x y z u := h.of_block (n.block p hne)
theorem Fo.kp {w w' : World} {p q : Nat} {x y z u : Value} (h : Fo w p x y z u) (n : Kp q w w') (hne : p ≠ q) : Fo w' p x y z u := h.of_block (n.block p h.lt hne)
/-- All four set. -/
def set4 (w : World) (p : Nat) (x y z u : Value) : World := (((w.setCell ⟨p, 0, none⟩ x).setCell ⟨p, 1, none⟩ y).setCell ⟨p, 2, none⟩ z).setCell ⟨p, 3, none⟩ u
theorem set_row (w : World) (p i : Nat) (cs : Array Value) (t : TypeId) (v : Value) (h : w.heap[p]? = some (.cells cs t (0, 0))) : (w.setCell ⟨p, i, none⟩ v).heap[p]? = some (.cells (cs.setIfInBounds i v) t (0, 0)) := by
  show (w.heap.modify p _)[p]? = _
  rw [Array.getElem?_modify, if_pos rfl, h]
  rfl
theorem Fo.set {w : World} {p : Nat} {x y z u : Value} (h : Fo w p x y z u) (x' y' z' u' : Value) : Fo (set4 w p x' y' z' u') p x' y' z' u' := by
  obtain ⟨t, h⟩ := h
  refine ⟨t, ?_⟩
  have g := set_row _ p 3 _ t u' (set_row _ p 2 _ t z' (set_row _ p 1 _ t y' (set_row w p 0 _ t x' h)))
  simp only [List.setIfInBounds_toArray, List.set_cons_zero, List.set_cons_succ] at g
  exact g
theorem only_set4 (w : World) (p : Nat) (x y z u : Value) : Only p w (set4 w p x y z u) := (((Only.setCell _ _ _ _).trans (Only.setCell _ _ _ _)).trans (Only.setCell _ _ _ _)).trans (Only.setCell _ _ _ _)
theorem Fo.new (w : World) (x y z u : Value) (t : TypeId) : Fo (w.alloc (.cells #[x, y, z, u] t)) w.heap.size x y z u := by
  refine ⟨t, ?_⟩
  show (w.heap.push _)[w.heap.size]? = _
  simp

theorem Fo.there {w : World} {p : Nat} {x y z u : Value} (h : Fo w p x y z u) : w.there p 0 4 := fun j hj => by
  refine ⟨?_, h.fr _⟩
  rw [Nat.zero_add]
  obtain rfl | rfl | rfl | rfl : j = 0 ∨ j = 1 ∨ j = 2 ∨ j = 3 := by omega
  · rw [h.c0]; rfl
  · rw [h.c1]; rfl
  · rw [h.c2]; rfl
  · rw [h.c3]; rfl
/-- A truth, a tag, a list that the call made, and the next place. -/
def NewT (B : Nat) (w' : World) (e : Ending) (b : Bool) (t : Int) (ys : List Int) (n : Int) : Prop :=
  ∃ (a : Option Addr) (c g : Nat), e = .returned (.agg #[.bool b, .int .i64 t, .slice a ys.length c, .int .i64 n]) ∧ Own w' g a .u8 ys ∧ (a = none → c = 0) ∧ ys.length ≤ c ∧ B ≤ g
end Go.Proofs.Ythkhfljoflffpaa

/-
  A region that draws its order, by a fact for each of its operations: each operation is looked at once, in whatever world that has grown out of the first, with the facts of those that it waits for. No program in sight.
-/
namespace Go.Proofs.Ythkhfljoflffpaa
open Go Go.RowKit

/-- What is told of an operation's value; it lasts while the memory only grows. -/
structure Fact where
  p : Value → World → Prop
  up : ∀ {v : Value} {w w' : World}, Below w.heap.size w w' → p v w → p v w'

section
variable {P : Program} {ops : Array Oper} {Q : Exit → Act → World → Prop} {md : Region.Mode} {F : Nat → Fact} {a0 : Act} {w0 : World}

/-- No operation writes slot d. -/
def apart (ops : Array Oper) (d : Nat) : Bool := ops.all fun o => o.dst != some d
/-- All slots that no operation writes are as they were. -/
def Based (ops : Array Oper) (a0 a : Act) : Prop := a.defers = a0.defers ∧ a.tmps.size = a0.tmps.size ∧ ∀ d, apart ops d = true → a.tmps.getD d undef = a0.tmps.getD d undef
/-- Number i waits for number j, which writes slot d. -/
def waits (md : Region.Mode) (ops : Array Oper) (i j d : Nat) : Bool :=
  match ops[i]?, ops[j]? with
  | some o, some oj => o.after.any (fun e => Region.binds md e && e.on == j) && oj.dst == some d
  | _, _ => false
/-- What the law asks of the region's text; n: how many slots; k: the number of the one that is looked at last, or behind the end. -/
def textOk (md : Region.Mode) (ops : Array Oper) (n k : Nat) : Bool :=
  (ops.all fun o => o.guard.isNone && (match o.dst with | some d => decide (d < n) | none => true))
  && ((List.range ops.size).all fun i => match ops[i]? with
    | some o => o.after.all (fun e => !Region.binds md e || decide (e.on < i)) && (List.range i).all fun j => match ops[j]? with
      | some x => x.dst.isNone || o.dst != x.dst
      | none => true
    | none => true)
  && decide (k ≤ ops.size ∧ ops.size ≤ k + 1)
  && (k == ops.size || (List.range k).all fun j => (List.range (k + 1)).any fun m => decide (j < m) && match ops[m]? with
    | some o => o.after.any (fun e => Region.binds md e && e.on == j)
    | none => false)

/-- What holds while the region is under way. -/
structure Held (md : Region.Mode) (ops : Array Oper) (F : Nat → Fact) (a0 : Act) (w0 : World) (listed : Array Bool) (a : Act) (w : World) : Prop where
  b : Based ops a0 a
  n : Below w0.heap.size w0 w
  f : ∀ i o d, ops[i]? = some o → listed.getD i false = true → o.dst = some d → (F i).p (a.tmps.getD d undef) w
  c : ∀ i o, ops[i]? = some o → listed.getD i false = true → ∀ e ∈ o.after, Region.binds md e = true → listed.getD e.on false = true
  s : listed.size = ops.size

/-- One operation, with the facts of those that it waits for. -/
def StepOk (P : Program) (md : Region.Mode) (ops : Array Oper) (Q : Exit → Act → World → Prop) (F : Nat → Fact) (a0 : Act) (w0 : World) (i : Nat) : Prop :=
  ∀ o, ops[i]? = some o → ∀ a w, Based ops a0 a → Below w0.heap.size w0 w → (∀ j d, waits md ops i j d = true → (F j).p (a.tmps.getD d undef) w) →
    ∀ K : Act → World → Prop, (∀ v w', Below w.heap.size w w' → (F i).p v w' → K (a.put o.dst v) w') → o.wp P a w K Q

/-- How many have not come up. -/
def left (listed : Array Bool) : Nat → Nat
  | 0 => 0
  | n + 1 => left listed n + if listed.getD n true = false then 1 else 0
theorem left_zero {listed : Array Bool} : ∀ {n : Nat}, left listed n = 0 → ∀ i, i < n → listed.getD i true = true
  | 0, _, i, hi => by omega
  | n + 1, h, i, hi => by
    unfold left at h
    rcases Nat.lt_or_ge i n with h1 | h1
    · exact left_zero (by omega) i h1
    · obtain rfl : i = n := by omega
      cases hc : listed.getD i true
      · rw [hc] at h; simp at h
      · rfl
theorem getD_same {listed : Array Bool} {i : Nat} (h : i < listed.size) (d : Bool) : (listed.setIfInBounds i true).getD i d = true := by
  simp [Array.getD_eq_getD_getElem?, h]
theorem getD_off {listed : Array Bool} {i j : Nat} (h : i ≠ j) (d : Bool) : (listed.setIfInBounds i true).getD j d = listed.getD j d := by
  simp [Array.getD_eq_getD_getElem?, h]
theorem left_le {listed : Array Bool} {i : Nat} (hi : i < listed.size) : ∀ n, left (listed.setIfInBounds i true) n ≤ left listed n
  | 0 => Nat.le_refl _
  | n + 1 => by
    unfold left
    have h := left_le hi n
    by_cases e : i = n
    · subst e
      rw [getD_same hi]
      simp
      omega
    · rw [getD_off e]
      omega
theorem left_set {listed : Array Bool} {i : Nat} (hs : i < listed.size) (h : listed.getD i true = false) : ∀ n, i < n → left (listed.setIfInBounds i true) n + 1 ≤ left listed n
  | 0, hi => by omega
  | n + 1, hi => by
    unfold left
    by_cases e : i = n
    · subst e
      rw [getD_same hs, h]
      have := left_le hs i
      simp
      omega
    · rw [getD_off e]
      have := left_set hs h n (by omega)
      omega
theorem dflt {listed : Array Bool} {i : Nat} (h : i < listed.size) : listed.getD i true = listed.getD i false := by
  simp [Array.getD_eq_getD_getElem?, h]

theorem put_at {a : Act} {d : Nat} {v : Value} (h : d < a.tmps.size) : (a.put (some d) v).tmps.getD d undef = v := by
  simp [Act.put, Array.getD_eq_getD_getElem?, h]
theorem put_off {a : Act} {dst : Option Tmp} {d : Nat} {v : Value} (h : dst ≠ some d) : (a.put dst v).tmps.getD d undef = a.tmps.getD d undef := by
  cases dst with
  | none => rfl
  | some e =>
    have : e ≠ d := fun x => h (by rw [x])
    simp [Act.put, Array.getD_eq_getD_getElem?, this]
theorem put_size (a : Act) (dst : Option Tmp) (v : Value) : (a.put dst v).tmps.size = a.tmps.size := by
  cases dst <;> simp [Act.put]
theorem put_defers (a : Act) (dst : Option Tmp) (v : Value) : (a.put dst v).defers = a.defers := by
  cases dst <;> rfl

/-- What the look at the text gives. -/
structure Text (md : Region.Mode) (ops : Array Oper) (n k : Nat) : Prop where
  g : ∀ (i : Nat) o, ops[i]? = some o → o.guard = none
  d : ∀ (i : Nat) o d, ops[i]? = some o → o.dst = some d → d < n
  a : ∀ (i : Nat) o, ops[i]? = some o → ∀ e ∈ o.after, Region.binds md e = true → e.on < i
  x : ∀ (i j : Nat) o o' d, ops[i]? = some o → ops[j]? = some o' → i ≠ j → o.dst = some d → o'.dst ≠ some d
  k1 : k ≤ ops.size
  k2 : ops.size ≤ k + 1
  c : k < ops.size → ∀ j, j < k → ∃ (m : Nat) (o : Oper), j < m ∧ m ≤ k ∧ ops[m]? = some o ∧ ∃ e ∈ o.after, Region.binds md e = true ∧ e.on = j
theorem text_of {n k : Nat} (h : textOk md ops n k = true) : Text md ops n k := by
  unfold textOk at h
  simp only [Bool.and_eq_true, decide_eq_true_eq] at h
  obtain ⟨⟨⟨h1, h2⟩, h3⟩, h4⟩ := h
  rw [Array.all_eq_true_iff_forall_mem] at h1
  rw [List.all_eq_true] at h2
  have H : ∀ (i j : Nat) o o' d, j < i → ops[i]? = some o → ops[j]? = some o' → o.dst = some d → o'.dst ≠ some d := by
    intro i j o o' d hij hi hj hd hd'
    have q := h2 i (List.mem_range.2 (Array.getElem?_eq_some_iff.1 hi).1)
    simp only [hi, Bool.and_eq_true] at q
    have r := List.all_eq_true.1 q.2 j (List.mem_range.2 hij)
    simp only [hj, hd, hd'] at r
    simp at r
  refine ⟨?_, ?_, ?_, ?_, h3.1, h3.2, ?_⟩
  · intro i o ho
    have q := h1 o (Array.mem_of_getElem? ho)
    simp only [Bool.and_eq_true] at q
    exact Option.isNone_iff_eq_none.1 q.1
  · intro i o d ho hd
    have q := h1 o (Array.mem_of_getElem? ho)
    simp only [Bool.and_eq_true, hd, decide_eq_true_eq] at q
    exact q.2
  · intro i o ho e he hb
    have q := h2 i (List.mem_range.2 (Array.getElem?_eq_some_iff.1 ho).1)
    simp only [ho, Bool.and_eq_true] at q
    have r := (Array.all_eq_true_iff_forall_mem.1 q.1) e he
    rw [hb] at r
    simpa using r
  · intro i j o o' d hi hj hij hd hd'
    rcases Nat.lt_or_gt_of_ne hij with h | h
    · exact H j i o' o d h hj hi hd' hd
    · exact H i j o o' d h hi hj hd hd'
  · intro hk j hj
    have h4' : ((List.range k).all fun j => (List.range (k + 1)).any fun m => decide (j < m) && match ops[m]? with
        | some o => o.after.any (fun e => Region.binds md e && e.on == j)
        | none => false) = true := by
      rcases Bool.or_eq_true _ _ ▸ h4 with q | q
      · simp at q; omega
      · exact q
    have q := List.all_eq_true.1 h4' j (List.mem_range.2 hj)
    obtain ⟨m, hm, r⟩ := List.any_eq_true.1 q
    simp only [Bool.and_eq_true, decide_eq_true_eq] at r
    cases ho : ops[m]? with
    | none => rw [ho] at r; simp at r
    | some o =>
      rw [ho] at r
      obtain ⟨e, he, hb⟩ := Array.any_eq_true'.1 r.2
      simp only [Bool.and_eq_true, beq_iff_eq] at hb
      exact ⟨m, o, r.1, by have := List.mem_range.1 hm; omega, ho, e, he, hb.1, hb.2⟩

theorem all_listed {n k : Nat} (T : Text md ops n k) {listed : Array Bool} (hs : listed.size = ops.size) (h : Region.ready md ops listed = []) : ∀ m i, i < m → i < ops.size → listed.getD i false = true
  | 0, i, hi, _ => by omega
  | m + 1, i, hi, hl => by
    rcases Nat.lt_or_ge i m with h1 | h1
    · exact all_listed T hs h m i h1 hl
    · obtain rfl : i = m := by omega
      cases hc : listed.getD i false
      · exfalso
        obtain ⟨o, ho⟩ : ∃ o, ops[i]? = some o := ⟨ops[i], by simp [hl]⟩
        have hr : i ∈ Region.ready md ops listed := mem_ready.2 ⟨by rw [dflt (by omega)]; exact hc, o, ho, fun e he hb => all_listed T hs h i e.on (T.a i o ho e he hb) (by have := T.a i o ho e he hb; omega)⟩
        rw [h] at hr
        simp at hr
      · rfl
/-- Behind the one that is looked at last stand all others. -/
theorem all_ahead {n k : Nat} (T : Text md ops n k) (hk : k < ops.size) {listed : Array Bool} {a : Act} {w : World} (H : Held md ops F a0 w0 listed a w)
    (hr : k ∈ Region.ready md ops listed) : ∀ m j, k - j ≤ m → j < k → listed.getD j false = true
  | 0, j, hm, hj => by omega
  | m + 1, j, hm, hj => by
    obtain ⟨p, o, hjp, hpk, ho, e, he, hb, rfl⟩ := T.c hk j hj
    rcases Nat.lt_or_ge p k with h1 | h1
    · exact H.c p o ho (all_ahead T hk H hr m p (by omega) h1) e he hb
    · obtain rfl : p = k := by omega
      obtain ⟨_, o', ho', q⟩ := mem_ready.1 hr
      obtain rfl := Option.some.inj (ho.symm.trans ho')
      exact q e he hb

theorem Held.next {n k : Nat} (T : Text md ops n k) (hn : n ≤ a0.tmps.size) {listed : Array Bool} {a : Act} {w : World} (H : Held md ops F a0 w0 listed a w) {i : Nat} {o : Oper} (ho : ops[i]? = some o) (hr : i ∈ Region.ready md ops listed)
    {v : Value} {w' : World} (hw : Below w.heap.size w w') (hf : (F i).p v w') : Held md ops F a0 w0 (listed.setIfInBounds i true) (a.put o.dst v) w' := by
  have hi : i < ops.size := (Array.getElem?_eq_some_iff.1 ho).1
  have hz : a.tmps.size = a0.tmps.size := H.b.2.1
  refine ⟨⟨by rw [put_defers]; exact H.b.1, by rw [put_size]; exact hz, fun d hd => ?_⟩, nxt H.n hw, ?_, ?_, by simp [H.s]⟩
  · rw [put_off]
    · exact H.b.2.2 d hd
    · have q := Array.all_eq_true_iff_forall_mem.1 hd o (Array.mem_of_getElem? ho)
      simpa using q
  · intro j oj d hoj hj hd
    by_cases e : i = j
    · subst e
      obtain rfl := Option.some.inj (ho.symm.trans hoj)
      rw [hd, put_at (Nat.lt_of_lt_of_le (T.d i o d ho hd) (hz ▸ hn))]
      exact hf
    · rw [getD_off e] at hj
      rw [put_off (T.x j i oj o d hoj ho (Ne.symm e) hd)]
      exact (F j).up hw (H.f j oj d hoj hj hd)
  · intro j oj hoj hj e he hb
    obtain ⟨_, o', ho', q⟩ := mem_ready.1 hr
    by_cases c : i = e.on
    · rw [← c]
      exact getD_same (by rw [H.s]; exact hi) _
    · rw [getD_off c]
      by_cases e' : i = j
      · subst e'
        obtain rfl := Option.some.inj (ho'.symm.trans hoj)
        exact q e he hb
      · rw [getD_off e'] at hj
        exact H.c j oj hoj hj e he hb

theorem any_facts {n k : Nat} (T : Text md ops n k) (hn : n ≤ a0.tmps.size) (steps : ∀ i, i < k → StepOk P md ops Q F a0 w0 i)
    (fin : ∀ a w, Based ops a0 a → Below w0.heap.size w0 w → (∀ i o d, i < k → ops[i]? = some o → o.dst = some d → (F i).p (a.tmps.getD d undef) w) →
      match ops[k]? with
      | none => Q .normal a w
      | some o => o.wp P a w (fun a' w' => Q .normal a' w') Q) :
    ∀ (fuel : Nat) (listed : Array Bool) (a : Act) (w : World), left listed ops.size ≤ fuel → Held md ops F a0 w0 listed a w → listed.getD k false = false → wpAny P md ops Q fuel listed a w := by
  intro fuel
  induction fuel with
  | zero =>
    intro listed a w hl H hk
    have hall : ∀ i, i < ops.size → listed.getD i false = true := fun i hi => by
      rw [← dflt (by rw [H.s]; exact hi)]
      exact left_zero (n := ops.size) (by omega) i hi
    have hke : ops[k]? = none := by
      rcases Nat.lt_or_ge k ops.size with h | h
      · rw [hall k h] at hk; simp at hk
      · simp [h]
    have q := fin a w H.b H.n (fun i o d _ ho hd => H.f i o d ho (hall i (Array.getElem?_eq_some_iff.1 ho).1) hd)
    rw [hke] at q
    refine ⟨?_, q⟩
    cases hr : Region.ready md ops listed with
    | nil => rfl
    | cons i t =>
      have hi : i ∈ Region.ready md ops listed := by rw [hr]; simp
      obtain ⟨h0, o, ho, _⟩ := mem_ready.1 hi
      have hlt := (Array.getElem?_eq_some_iff.1 ho).1
      rw [dflt (by rw [H.s]; exact hlt), hall i hlt] at h0
      simp at h0
  | succ fuel ih =>
    intro listed a w hl H hk
    refine ⟨fun hr => ?_, fun i hi => ?_⟩
    · have hall : ∀ i, i < ops.size → listed.getD i false = true := fun i hi => all_listed T H.s hr (i + 1) i (by omega) hi
      have hke : ops[k]? = none := by
        rcases Nat.lt_or_ge k ops.size with h | h
        · rw [hall k h] at hk; simp at hk
        · simp [h]
      have q := fin a w H.b H.n (fun i o d _ ho hd => H.f i o d ho (hall i (Array.getElem?_eq_some_iff.1 ho).1) hd)
      rw [hke] at q
      exact q
    · obtain ⟨h0, o, ho, hall⟩ := mem_ready.1 hi
      have hlt := (Array.getElem?_eq_some_iff.1 ho).1
      have hwant : Region.wanted o (yielded ops a.tmps) = true := by simp [Region.wanted, T.g i o ho]
      refine wpOp_step ho fun K' hK => ?_
      rw [if_pos hwant]
      have hll := left_set (by rw [H.s]; exact hlt) h0 ops.size hlt
      rcases Nat.lt_or_ge i k with h1 | h1
      · refine steps i h1 o ho a w H.b H.n ?_ K' ?_
        · intro j d hjd
          unfold waits at hjd
          rw [ho] at hjd
          cases hoj : ops[j]? with
          | none => rw [hoj] at hjd; simp at hjd
          | some oj =>
            rw [hoj] at hjd
            simp only [Bool.and_eq_true, beq_iff_eq] at hjd
            obtain ⟨e, he, hb⟩ := Array.any_eq_true'.1 hjd.1
            simp only [Bool.and_eq_true, beq_iff_eq] at hb
            exact H.f j oj d hoj (by rw [← hb.2]; exact hall e he hb.1) hjd.2
        · intro v w' hw hf
          refine hK _ _ (ih _ _ _ (by omega) (H.next T hn ho hi hw hf) ?_)
          rw [getD_off (by omega)]
          exact hk
      · obtain rfl : i = k := by have := T.k2; omega
        have hahead := all_ahead T hlt H hi
        have q := fin a w H.b H.n (fun j oj d hj hoj hd => H.f j oj d hoj (hahead (i - j) j (Nat.le_refl _) hj) hd)
        rw [ho] at q
        refine Oper.wp_mono (fun a' w' h => hK _ _ (wpAny_done ?_ h fuel)) q
        cases hr : Region.ready md ops (listed.setIfInBounds i true) with
        | nil => rfl
        | cons j t =>
          exfalso
          have hj : j ∈ Region.ready md ops (listed.setIfInBounds i true) := by rw [hr]; simp
          obtain ⟨g0, oj, hoj, _⟩ := mem_ready.1 hj
          have hjl := (Array.getElem?_eq_some_iff.1 hoj).1
          by_cases e : i = j
          · subst e
            rw [getD_same (by rw [H.s]; exact hlt)] at g0
            simp at g0
          · rw [getD_off e, dflt (by rw [H.s]; exact hjl), hahead (i - j) j (Nat.le_refl _) (by have := T.k2; omega)] at g0
            simp at g0

/-- The same for a region that goes in its text's order. -/
theorem line_facts {n k : Nat} (T : Text md ops n k) (hn : n ≤ a0.tmps.size) (steps : ∀ i, i < k → StepOk P md ops Q F a0 w0 i)
    (fin : ∀ a w, Based ops a0 a → Below w0.heap.size w0 w → (∀ i o d, i < k → ops[i]? = some o → o.dst = some d → (F i).p (a.tmps.getD d undef) w) →
      match ops[k]? with
      | none => Q .normal a w
      | some o => o.wp P a w (fun a' w' => Q .normal a' w') Q) :
    ∀ (m i : Nat) (a : Act) (w : World), i + m = ops.size → i ≤ k → Based ops a0 a → Below w0.heap.size w0 w → (∀ j o d, j < i → ops[j]? = some o → o.dst = some d → (F j).p (a.tmps.getD d undef) w) →
      wpOps P ops Q (List.range' i m) a w := by
  intro m
  induction m with
  | zero =>
    intro i a w him hik hb hw hf
    obtain rfl : i = k := by have := T.k1; omega
    have q := fin a w hb hw hf
    rw [show ops[i]? = none by simp; omega] at q
    exact q
  | succ m ih =>
    intro i a w him hik hb hw hf
    have hlt : i < ops.size := by omega
    obtain ⟨o, ho⟩ : ∃ o, ops[i]? = some o := ⟨ops[i], by simp [hlt]⟩
    have hwant : Region.wanted o (yielded ops a.tmps) = true := by simp [Region.wanted, T.g i o ho]
    rw [List.range'_succ, wpOps_cons]
    refine wpOp_step ho fun K' hK => ?_
    rw [if_pos hwant]
    rcases Nat.lt_or_ge i k with h1 | h1
    · refine steps i h1 o ho a w hb hw ?_ K' ?_
      · intro j d hjd
        unfold waits at hjd
        rw [ho] at hjd
        cases hoj : ops[j]? with
        | none => rw [hoj] at hjd; simp at hjd
        | some oj =>
          rw [hoj] at hjd
          simp only [Bool.and_eq_true, beq_iff_eq] at hjd
          obtain ⟨e, he, hb⟩ := Array.any_eq_true'.1 hjd.1
          simp only [Bool.and_eq_true, beq_iff_eq] at hb
          exact hf j oj d (by rw [← hb.2]; exact T.a i o ho e he hb.1) hoj hjd.2
      · intro v w' hw' hfv
        refine hK _ _ (ih (i + 1) _ _ (by omega) (by omega) ⟨by rw [put_defers]; exact hb.1, by rw [put_size]; exact hb.2.1, fun d hd => ?_⟩ (nxt hw hw') ?_)
        · rw [put_off]
          · exact hb.2.2 d hd
          · have q := Array.all_eq_true_iff_forall_mem.1 hd o (Array.mem_of_getElem? ho)
            simpa using q
        · intro j oj d hj hoj hd
          by_cases e : i = j
          · subst e
            obtain rfl := Option.some.inj (ho.symm.trans hoj)
            rw [hd, put_at (Nat.lt_of_lt_of_le (T.d i o d ho hd) (by rw [hb.2.1]; exact hn))]
            exact hfv
          · rw [put_off (T.x j i oj o d hoj ho (Ne.symm e) hd)]
            exact (F j).up hw' (hf j oj d (by omega) hoj hd)
    · obtain rfl : i = k := by omega
      have q := fin a w hb hw hf
      rw [ho] at q
      refine Oper.wp_mono (fun a' w' h => hK _ _ ?_) q
      obtain rfl : m = 0 := by have := T.k2; omega
      exact h
/-- The law, whatever the region's kind. -/
theorem region_facts {id : Nat} {w : World} {draw : Bool} (k : Nat) (F : Nat → Fact) (hm : P.follows .mixedOrders = true) (hT : textOk .any ops a0.tmps.size k = true) (steps : ∀ i, i < k → StepOk P .any ops Q F a0 w i)
    (fin : ∀ a w', Based ops a0 a → Below w.heap.size w w' → (∀ i o d, i < k → ops[i]? = some o → o.dst = some d → (F i).p (a.tmps.getD d undef) w') →
      match ops[k]? with
      | none => Q .normal a w'
      | some o => o.wp P a w' (fun a' w'' => Q .normal a' w'') Q) : (Code.region id ops draw).wp P Q a0 w := by
  have T := text_of hT
  cases draw with
  | false =>
    refine wp_region ?_
    have h := line_facts (w0 := w) T (Nat.le_refl _) steps fin ops.size 0 a0 w (by omega) (by omega) ⟨rfl, rfl, fun _ _ => rfl⟩ (Below.refl _ _) (fun j o d hj => by omega)
    rw [List.range_eq_range']
    exact h
  | true =>
    refine wp_region_any hm ?_
    refine any_facts (w0 := w) T (Nat.le_refl _) steps fin ops.size _ a0 _ ?_ ⟨⟨rfl, rfl, fun _ _ => rfl⟩, (Below.refl _ _).drew, ?_, ?_, by simp⟩ ?_
    · have : ∀ m, left (Array.replicate ops.size false) m ≤ m := by
        intro m
        induction m with
        | zero => exact Nat.le_refl _
        | succ m ih => unfold left; split <;> omega
      exact this _
    · intro i o d ho hl _
      rw [Array.getD_eq_getD_getElem?, Array.getElem?_replicate] at hl
      split at hl <;> simp at hl
    · intro i o ho hl
      rw [Array.getD_eq_getD_getElem?, Array.getElem?_replicate] at hl
      split at hl <;> simp at hl
    · rw [Array.getD_eq_getD_getElem?, Array.getElem?_replicate]
      split <;> rfl
/-- Number i writes slot d. -/
def writes (ops : Array Oper) (i d : Nat) : Bool :=
  match ops[i]? with
  | some o => o.dst == some d
  | none => false
/-- What all of them have left. -/
def Full (ops : Array Oper) (F : Nat → Fact) (a : Act) (w : World) : Prop := ∀ i d, writes ops i d = true → (F i).p (a.tmps.getD d undef) w
/-- A region that ends with a store. -/
theorem region_store {id : Nat} {w : World} {draw : Bool} (k : Nat) (o : Oper) (F : Nat → Fact) (hm : P.follows .mixedOrders = true) (hT : textOk .any ops a0.tmps.size k = true) (hk : ops[k]? = some o) (hd : o.dst = none) (steps : ∀ i, i < k → StepOk P .any ops Q F a0 w i)
    (fin : ∀ a w', Based ops a0 a → Below w.heap.size w w' → Full ops F a w' → o.wp P a w' (fun a' w'' => Q .normal a' w'') Q) : (Code.region id ops draw).wp P Q a0 w := by
  refine region_facts k F hm hT steps fun a w' hb hw hf => ?_
  rw [hk]
  refine fin a w' hb hw fun i d hi => ?_
  unfold writes at hi
  cases ho : ops[i]? with
  | none => rw [ho] at hi; simp at hi
  | some oi =>
    rw [ho] at hi
    have hi' : oi.dst = some d := by simpa using hi
    have T := text_of hT
    refine hf i oi d ?_ ho hi'
    have h1 := (Array.getElem?_eq_some_iff.1 ho).1
    have h2 := T.k2
    rcases Nat.lt_or_ge i k with h | h
    · exact h
    · obtain rfl : i = k := by omega
      obtain rfl := Option.some.inj (hk.symm.trans ho)
      rw [hd] at hi'
      simp at hi'
/-- A region without one. -/
theorem region_end {id : Nat} {w : World} {draw : Bool} (k : Nat) (F : Nat → Fact) (hm : P.follows .mixedOrders = true) (hT : textOk .any ops a0.tmps.size k = true) (hk : ops[k]? = none) (steps : ∀ i, i < k → StepOk P .any ops Q F a0 w i)
    (fin : ∀ a w', Based ops a0 a → Below w.heap.size w w' → Full ops F a w' → Q .normal a w') : (Code.region id ops draw).wp P Q a0 w := by
  refine region_facts k F hm hT steps fun a w' hb hw hf => ?_
  rw [hk]
  refine fin a w' hb hw fun i d hi => ?_
  unfold writes at hi
  cases ho : ops[i]? with
  | none => rw [ho] at hi; simp at hi
  | some oi =>
    rw [ho] at hi
    have h1 := (Array.getElem?_eq_some_iff.1 ho).1
    have h2 : ops.size ≤ k := by simpa using hk
    exact hf i oi d (by omega) ho (by simpa using hi)

/-- The frame behind the region, written out. -/
def puts (vs : Nat → Value) (a0 : Act) : List Oper → Act
  | [] => a0
  | o :: rest => match o.dst with
    | some d => puts vs (a0.put (some d) (vs d)) rest
    | none => puts vs a0 rest
theorem puts_size (vs : Nat → Value) : ∀ (l : List Oper) (a : Act), (puts vs a l).tmps.size = a.tmps.size ∧ (puts vs a l).defers = a.defers
  | [], _ => ⟨rfl, rfl⟩
  | o :: rest, a => by
    unfold puts
    cases o.dst with
    | none => exact puts_size vs rest a
    | some d =>
      have := puts_size vs rest (a.put (some d) (vs d))
      exact ⟨this.1.trans (put_size _ _ _), this.2.trans (put_defers _ _ _)⟩
theorem puts_get (vs : Nat → Value) (d : Nat) : ∀ (l : List Oper) (a : Act), (∀ o ∈ l, ∀ e, o.dst = some e → e < a.tmps.size) → (puts vs a l).tmps.getD d undef = if l.any (fun o => o.dst == some d) then vs d else a.tmps.getD d undef
  | [], _, _ => by simp [puts]
  | o :: rest, a, h => by
    unfold puts
    cases ho : o.dst with
    | none =>
      rw [puts_get vs d rest a (fun o' h' => h o' (List.mem_cons_of_mem _ h'))]
      simp [ho]
    | some e =>
      have he := h o (List.mem_cons_self) e ho
      simp only
      rw [puts_get vs d rest _ (fun o' h' => by rw [put_size]; exact h o' (List.mem_cons_of_mem _ h'))]
      by_cases c : e = d
      · subst c
        rw [put_at he]
        simp [ho]
      · rw [put_off (by simpa using c)]
        simp [ho, c]
theorem puts_of {n k : Nat} (hT : textOk md ops n k = true) (hn : n = a0.tmps.size) {a : Act} (hb : Based ops a0 a) (vs : Nat → Value) (hv : ∀ d, a.tmps.getD d undef = vs d) : a = puts vs a0 ops.toList := by
  have T := text_of hT
  have hin : ∀ o ∈ ops.toList, ∀ e, o.dst = some e → e < a0.tmps.size := fun o ho e he => by
    obtain ⟨i, hi⟩ := List.getElem?_of_mem ho
    have := T.d i o e (by simpa using hi) he
    rw [hn] at this
    exact this
  obtain ⟨s1, s2⟩ := puts_size vs ops.toList a0
  obtain ⟨ta, da⟩ := a
  obtain ⟨h1, h2, h3⟩ := hb
  have e1 : ta = (puts vs a0 ops.toList).tmps := by
    apply Array.ext
    · rw [s1]; exact h2
    · intro i hi hi'
      have g := puts_get vs i ops.toList a0 hin
      have l : ta[i] = ta.getD i undef := by simp [Array.getD_eq_getD_getElem?, hi]
      have r : (puts vs a0 ops.toList).tmps[i] = (puts vs a0 ops.toList).tmps.getD i undef := by simp only [Array.getD_eq_getD_getElem?, Array.getElem?_eq_getElem hi', Option.getD_some]
      rw [l, r, g]
      by_cases c : ops.toList.any (fun o => o.dst == some i) = true
      · rw [if_pos c]; exact hv i
      · rw [if_neg c]
        refine h3 i ?_
        unfold apart
        rw [Array.all_eq_true_iff_forall_mem]
        intro o ho
        have hne : ¬ (o.dst == some i) = true := fun x => c (List.any_eq_true.2 ⟨o, by simpa using ho, x⟩)
        simpa using hne
  have e2 : da = (puts vs a0 ops.toList).defers := h1.trans s2.symm
  subst e1
  subst e2
  rfl
end
end Go.Proofs.Ythkhfljoflffpaa

/-
  The law by facts for a region that ends with two stores, one behind the other. No program in sight.
-/
namespace Go.Proofs.Ythkhfljoflffpaa
open Go Go.RowKit

section
variable {P : Program} {ops : Array Oper} {Q : Exit → Act → World → Prop} {md : Region.Mode} {F : Nat → Fact} {a0 : Act} {w0 : World}

/-- What this law asks of the region's text: number k waits for all others ahead of it, number k + 1, the last, for k; both write no slot. -/
def textTwo (md : Region.Mode) (ops : Array Oper) (n k : Nat) : Bool :=
  (ops.all fun o => o.guard.isNone && (match o.dst with | some d => decide (d < n) | none => true))
  && ((List.range ops.size).all fun i => match ops[i]? with
    | some o => o.after.all (fun e => !Region.binds md e || decide (e.on < i)) && (List.range i).all fun j => match ops[j]? with
      | some x => x.dst.isNone || o.dst != x.dst
      | none => true
    | none => true)
  && decide (ops.size = k + 2)
  && ((List.range k).all fun j => (List.range (k + 1)).any fun m => decide (j < m) && match ops[m]? with
    | some o => o.after.any (fun e => Region.binds md e && e.on == j)
    | none => false)
  && (match ops[k + 1]? with | some o => o.after.any (fun e => Region.binds md e && e.on == k) && o.dst.isNone | none => false)
  && (match ops[k]? with | some o => o.dst.isNone | none => false)

structure Text2 (md : Region.Mode) (ops : Array Oper) (n k : Nat) : Prop where
  g : ∀ (i : Nat) o, ops[i]? = some o → o.guard = none
  d : ∀ (i : Nat) o d, ops[i]? = some o → o.dst = some d → d < n
  a : ∀ (i : Nat) o, ops[i]? = some o → ∀ e ∈ o.after, Region.binds md e = true → e.on < i
  x : ∀ (i j : Nat) o o' d, ops[i]? = some o → ops[j]? = some o' → i ≠ j → o.dst = some d → o'.dst ≠ some d
  k2 : ops.size = k + 2
  c : ∀ j, j < k → ∃ (m : Nat) (o : Oper), j < m ∧ m ≤ k ∧ ops[m]? = some o ∧ ∃ e ∈ o.after, Region.binds md e = true ∧ e.on = j
  l : ∀ o, ops[k + 1]? = some o → ∃ e ∈ o.after, Region.binds md e = true ∧ e.on = k
  n1 : ∀ o, ops[k]? = some o → o.dst = none
  n2 : ∀ o, ops[k + 1]? = some o → o.dst = none
theorem text2_of {n k : Nat} (h : textTwo md ops n k = true) : Text2 md ops n k := by
  unfold textTwo at h
  simp only [Bool.and_eq_true, decide_eq_true_eq] at h
  obtain ⟨⟨⟨⟨⟨h1, h2⟩, h3⟩, h4⟩, h5⟩, h6⟩ := h
  rw [Array.all_eq_true_iff_forall_mem] at h1
  rw [List.all_eq_true] at h2
  have H : ∀ (i j : Nat) o o' d, j < i → ops[i]? = some o → ops[j]? = some o' → o.dst = some d → o'.dst ≠ some d := by
    intro i j o o' d hij hi hj hd hd'
    have q := h2 i (List.mem_range.2 (Array.getElem?_eq_some_iff.1 hi).1)
    simp only [hi, Bool.and_eq_true] at q
    have r := List.all_eq_true.1 q.2 j (List.mem_range.2 hij)
    simp only [hj, hd, hd'] at r
    simp at r
  refine ⟨?_, ?_, ?_, ?_, h3, ?_, ?_, ?_, ?_⟩
  · intro i o ho
    have q := h1 o (Array.mem_of_getElem? ho)
    simp only [Bool.and_eq_true] at q
    exact Option.isNone_iff_eq_none.1 q.1
  · intro i o d ho hd
    have q := h1 o (Array.mem_of_getElem? ho)
    simp only [Bool.and_eq_true, hd, decide_eq_true_eq] at q
    exact q.2
  · intro i o ho e he hb
    have q := h2 i (List.mem_range.2 (Array.getElem?_eq_some_iff.1 ho).1)
    simp only [ho, Bool.and_eq_true] at q
    have r := (Array.all_eq_true_iff_forall_mem.1 q.1) e he
    rw [hb] at r
    simpa using r
  · intro i j o o' d hi hj hij hd hd'
    rcases Nat.lt_or_gt_of_ne hij with h | h
    · exact H j i o' o d h hj hi hd' hd
    · exact H i j o o' d h hi hj hd hd'
  · intro j hj
    have q := List.all_eq_true.1 h4 j (List.mem_range.2 hj)
    obtain ⟨m, hm, r⟩ := List.any_eq_true.1 q
    simp only [Bool.and_eq_true, decide_eq_true_eq] at r
    cases ho : ops[m]? with
    | none => rw [ho] at r; simp at r
    | some o =>
      rw [ho] at r
      obtain ⟨e, he, hb⟩ := Array.any_eq_true'.1 r.2
      simp only [Bool.and_eq_true, beq_iff_eq] at hb
      exact ⟨m, o, r.1, by have := List.mem_range.1 hm; omega, ho, e, he, hb.1, hb.2⟩
  · intro o ho
    rw [ho] at h5
    simp only [Bool.and_eq_true] at h5
    obtain ⟨e, he, hb⟩ := Array.any_eq_true'.1 h5.1
    simp only [Bool.and_eq_true, beq_iff_eq] at hb
    exact ⟨e, he, hb.1, hb.2⟩
  · intro o ho
    rw [ho] at h6
    exact Option.isNone_iff_eq_none.1 h6
  · intro o ho
    rw [ho] at h5
    simp only [Bool.and_eq_true] at h5
    exact Option.isNone_iff_eq_none.1 h5.2

theorem all_ahead2 {n k : Nat} (T : Text2 md ops n k) {listed : Array Bool} {a : Act} {w : World} (H : Held md ops F a0 w0 listed a w)
    (hr : k ∈ Region.ready md ops listed) : ∀ m j, k - j ≤ m → j < k → listed.getD j false = true
  | 0, j, hm, hj => by omega
  | m + 1, j, hm, hj => by
    obtain ⟨p, o, hjp, hpk, ho, e, he, hb, rfl⟩ := T.c j hj
    rcases Nat.lt_or_ge p k with h1 | h1
    · exact H.c p o ho (all_ahead2 T H hr m p (by omega) h1) e he hb
    · obtain rfl : p = k := by omega
      obtain ⟨_, o', ho', q⟩ := mem_ready.1 hr
      obtain rfl := Option.some.inj (ho.symm.trans ho')
      exact q e he hb
theorem Held.next2 {n k : Nat} (T : Text2 md ops n k) (hn : n ≤ a0.tmps.size) {listed : Array Bool} {a : Act} {w : World} (H : Held md ops F a0 w0 listed a w) {i : Nat} {o : Oper} (ho : ops[i]? = some o) (hr : i ∈ Region.ready md ops listed)
    {v : Value} {w' : World} (hw : Below w.heap.size w w') (hf : (F i).p v w') : Held md ops F a0 w0 (listed.setIfInBounds i true) (a.put o.dst v) w' := by
  have hi : i < ops.size := (Array.getElem?_eq_some_iff.1 ho).1
  have hz : a.tmps.size = a0.tmps.size := H.b.2.1
  refine ⟨⟨by rw [put_defers]; exact H.b.1, by rw [put_size]; exact hz, fun d hd => ?_⟩, nxt H.n hw, ?_, ?_, by simp [H.s]⟩
  · rw [put_off]
    · exact H.b.2.2 d hd
    · have q := Array.all_eq_true_iff_forall_mem.1 hd o (Array.mem_of_getElem? ho)
      simpa using q
  · intro j oj d hoj hj hd
    by_cases e : i = j
    · subst e
      obtain rfl := Option.some.inj (ho.symm.trans hoj)
      rw [hd, put_at (Nat.lt_of_lt_of_le (T.d i o d ho hd) (hz ▸ hn))]
      exact hf
    · rw [getD_off e] at hj
      rw [put_off (T.x j i oj o d hoj ho (Ne.symm e) hd)]
      exact (F j).up hw (H.f j oj d hoj hj hd)
  · intro j oj hoj hj e he hb
    obtain ⟨_, o', ho', q⟩ := mem_ready.1 hr
    by_cases c : i = e.on
    · rw [← c]
      exact getD_same (by rw [H.s]; exact hi) _
    · rw [getD_off c]
      by_cases e' : i = j
      · subst e'
        obtain rfl := Option.some.inj (ho'.symm.trans hoj)
        exact q e he hb
      · rw [getD_off e'] at hj
        exact H.c j oj hoj hj e he hb

/-- One operation that makes a block and hands back its place. -/
def FreshOk (P : Program) (md : Region.Mode) (ops : Array Oper) (Q : Exit → Act → World → Prop) (F : Nat → Fact) (a0 : Act) (w0 : World) (i : Nat) : Prop :=
  ∀ o, ops[i]? = some o → ∀ a w, Based ops a0 a → Below w0.heap.size w0 w → (∀ j d, waits md ops i j d = true → (F j).p (a.tmps.getD d undef) w) →
    ∀ K : Act → World → Prop, (∀ v w', Below w.heap.size w w' → (F i).p v w' → v = .pointer (some ⟨w.heap.size, 0, none⟩) → w.heap.size < w'.heap.size → K (a.put o.dst v) w') → o.wp P a w K Q
theorem FreshOk.step {i : Nat} (h : FreshOk P md ops Q F a0 w0 i) : StepOk P md ops Q F a0 w0 i :=
  fun o ho a w hb hw hf K hK => h o ho a w hb hw hf K (fun v w' hn hv _ _ => hK v w' hn hv)
/-- Two that make a block are apart. -/
structure Sep (i1 i2 d1 d2 : Nat) (listed : Array Bool) (a : Act) (w : World) : Prop where
  l : listed.getD i1 false = true → ∃ q, a.tmps.getD d1 undef = .pointer (some ⟨q, 0, none⟩) ∧ q < w.heap.size
  r : listed.getD i2 false = true → ∃ q, a.tmps.getD d2 undef = .pointer (some ⟨q, 0, none⟩) ∧ q < w.heap.size
  n : listed.getD i1 false = true → listed.getD i2 false = true → a.tmps.getD d1 undef ≠ a.tmps.getD d2 undef
theorem Sep.flip {i1 i2 d1 d2 : Nat} {listed : Array Bool} {a : Act} {w : World} (h : Sep i1 i2 d1 d2 listed a w) : Sep i2 i1 d2 d1 listed a w := ⟨h.r, h.l, fun x y => (h.n y x).symm⟩
theorem Sep.other {i1 i2 d1 d2 : Nat} {listed : Array Bool} {a : Act} {w w' : World} (h : Sep i1 i2 d1 d2 listed a w) {i : Nat} {dst : Option Tmp} {v : Value} (h1 : i ≠ i1) (h2 : i ≠ i2) (e1 : dst ≠ some d1) (e2 : dst ≠ some d2) (hw : w.heap.size ≤ w'.heap.size) : Sep i1 i2 d1 d2 (listed.setIfInBounds i true) (a.put dst v) w' := by
  refine ⟨fun g => ?_, fun g => ?_, fun g g' => ?_⟩
  · rw [getD_off h1] at g
    obtain ⟨q, hq, hl⟩ := h.l g
    exact ⟨q, by rw [put_off e1]; exact hq, by omega⟩
  · rw [getD_off h2] at g
    obtain ⟨q, hq, hl⟩ := h.r g
    exact ⟨q, by rw [put_off e2]; exact hq, by omega⟩
  · rw [getD_off h1] at g
    rw [getD_off h2] at g'
    rw [put_off e1, put_off e2]
    exact h.n g g'
theorem Sep.this {i1 i2 d1 d2 : Nat} {listed : Array Bool} {a : Act} {w w' : World} (h : Sep i1 i2 d1 d2 listed a w) {v : Value} (hne : i1 ≠ i2) (hd : d1 ≠ d2) (hs : d1 < a.tmps.size) (hv : v = .pointer (some ⟨w.heap.size, 0, none⟩)) (hw : w.heap.size < w'.heap.size) :
    Sep i1 i2 d1 d2 (listed.setIfInBounds i1 true) (a.put (some d1) v) w' := by
  have e2 : (some d1 : Option Tmp) ≠ some d2 := by simpa using hd
  refine ⟨fun _ => ⟨w.heap.size, by rw [put_at hs, hv], hw⟩, fun g => ?_, fun _ g' => ?_⟩
  · rw [getD_off hne] at g
    obtain ⟨q, hq, hl⟩ := h.r g
    exact ⟨q, by rw [put_off e2]; exact hq, by omega⟩
  · rw [getD_off hne] at g'
    obtain ⟨q, hq, hl⟩ := h.r g'
    rw [put_at hs, put_off e2, hq, hv]
    intro x
    simp only [Value.pointer.injEq, Option.some.injEq, Addr.mk.injEq, and_true] at x
    omega

theorem writes_is {i d : Nat} (h : writes ops i d = true) : ∃ o, ops[i]? = some o ∧ o.dst = some d := by
  unfold writes at h
  cases ho : ops[i]? with
  | none => rw [ho] at h; simp at h
  | some o =>
    rw [ho] at h
    exact ⟨o, rfl, by simpa using h⟩
theorem any_two {n k : Nat} (T : Text2 md ops n k) (hn : n ≤ a0.tmps.size) (steps : ∀ i, i < k → StepOk P md ops Q F a0 w0 i) (o1 o2 : Oper) (hk1 : ops[k]? = some o1) (hk2 : ops[k + 1]? = some o2)
    (i1 i2 d1 d2 : Nat) (q1 : i1 < k) (q2 : i2 < k) (q3 : i1 ≠ i2) (w1 : writes ops i1 d1 = true) (w2 : writes ops i2 d2 = true) (f1 : FreshOk P md ops Q F a0 w0 i1) (f2' : FreshOk P md ops Q F a0 w0 i2)
    (fin : ∀ a w, Based ops a0 a → Below w0.heap.size w0 w → (∀ i o d, i < k → ops[i]? = some o → o.dst = some d → (F i).p (a.tmps.getD d undef) w) → a.tmps.getD d1 undef ≠ a.tmps.getD d2 undef →
      o1.wp P a w (fun a' w' => o2.wp P a' w' (fun a'' w'' => Q .normal a'' w'') Q) Q) :
    ∀ (fuel : Nat) (listed : Array Bool) (a : Act) (w : World), left listed ops.size ≤ fuel → Held md ops F a0 w0 listed a w → Sep i1 i2 d1 d2 listed a w → listed.getD k false = false → listed.getD (k + 1) false = false → wpAny P md ops Q fuel listed a w := by
  obtain ⟨p1, hp1, e1⟩ := writes_is w1
  obtain ⟨p2, hp2, e2⟩ := writes_is w2
  have hd : d1 ≠ d2 := fun e => T.x i1 i2 p1 p2 d1 hp1 hp2 q3 e1 (by rw [e]; exact e2)
  have hks : k < ops.size := by have := T.k2; omega
  have hks' : k + 1 < ops.size := by have := T.k2; omega
  intro fuel
  induction fuel with
  | zero =>
    intro listed a w hl H S hk hk'
    have := left_zero (listed := listed) (n := ops.size) (by omega) k hks
    rw [dflt (by rw [H.s]; exact hks), hk] at this
    simp at this
  | succ fuel ih =>
    intro listed a w hl H S hk hk'
    refine ⟨fun hr => ?_, fun i hi => ?_⟩
    · exfalso
      have hall : ∀ m i, i < m → i ≤ k → listed.getD i false = true := by
        intro m
        induction m with
        | zero => intro i hi; omega
        | succ m ihm =>
          intro i hi hik
          rcases Nat.lt_or_ge i m with h1 | h1
          · exact ihm i h1 hik
          · obtain rfl : i = m := by omega
            cases hc : listed.getD i false
            · exfalso
              obtain ⟨o, ho⟩ : ∃ o, ops[i]? = some o := ⟨ops[i], by simp [show i < ops.size by omega]⟩
              have hr' : i ∈ Region.ready md ops listed := mem_ready.2 ⟨by rw [dflt (by rw [H.s]; omega)]; exact hc, o, ho, fun e he hb => ihm e.on (T.a i o ho e he hb) (by have := T.a i o ho e he hb; omega)⟩
              rw [hr] at hr'
              simp at hr'
            · rfl
      rw [hall (k + 1) k (by omega) (Nat.le_refl _)] at hk
      simp at hk
    · obtain ⟨h0, o, ho, hall⟩ := mem_ready.1 hi
      have hlt := (Array.getElem?_eq_some_iff.1 ho).1
      have hwant : Region.wanted o (yielded ops a.tmps) = true := by simp [Region.wanted, T.g i o ho]
      refine wpOp_step ho fun K' hK => ?_
      rw [if_pos hwant]
      have hll := left_set (by rw [H.s]; exact hlt) h0 ops.size hlt
      rcases Nat.lt_or_ge i k with h1 | h1
      · have hfacts : ∀ j d, waits md ops i j d = true → (F j).p (a.tmps.getD d undef) w := by
          intro j d hjd
          unfold waits at hjd
          rw [ho] at hjd
          cases hoj : ops[j]? with
          | none => rw [hoj] at hjd; simp at hjd
          | some oj =>
            rw [hoj] at hjd
            simp only [Bool.and_eq_true, beq_iff_eq] at hjd
            obtain ⟨e, he, hb⟩ := Array.any_eq_true'.1 hjd.1
            simp only [Bool.and_eq_true, beq_iff_eq] at hb
            exact H.f j oj d hoj (by rw [← hb.2]; exact hall e he hb.1) hjd.2
        have go : ∀ v w', Below w.heap.size w w' → (F i).p v w' → Sep i1 i2 d1 d2 (listed.setIfInBounds i true) (a.put o.dst v) w' → K' (a.put o.dst v) w' := by
          intro v w' hw hf hS
          refine hK _ _ (ih _ _ _ (by omega) (H.next2 T hn ho hi hw hf) hS ?_ ?_)
          · rw [getD_off (by omega)]
            exact hk
          · rw [getD_off (by omega)]
            exact hk'
        by_cases c1 : i = i1
        · subst c1
          obtain rfl := Option.some.inj (hp1.symm.trans ho)
          refine f1 p1 ho a w H.b H.n hfacts K' fun v w' hw hf hv hz => go v w' hw hf ?_
          rw [e1]
          exact S.this q3 hd (by rw [H.b.2.1]; exact Nat.lt_of_lt_of_le (T.d i p1 d1 hp1 e1) hn) hv hz
        · by_cases c2 : i = i2
          · subst c2
            obtain rfl := Option.some.inj (hp2.symm.trans ho)
            refine f2' p2 ho a w H.b H.n hfacts K' fun v w' hw hf hv hz => go v w' hw hf ?_
            rw [e2]
            exact (S.flip.this (Ne.symm q3) (Ne.symm hd) (by rw [H.b.2.1]; exact Nat.lt_of_lt_of_le (T.d i p2 d2 hp2 e2) hn) hv hz).flip
          · refine steps i h1 o ho a w H.b H.n hfacts K' fun v w' hw hf => go v w' hw hf ?_
            refine S.other c1 c2 ?_ ?_ hw.size
            · exact T.x i1 i p1 o d1 hp1 ho (Ne.symm c1) e1
            · exact T.x i2 i p2 o d2 hp2 ho (Ne.symm c2) e2
      · rcases Nat.lt_or_ge k i with h2 | h2
        · exfalso
          obtain rfl : i = k + 1 := by have := T.k2; omega
          obtain ⟨e, he, hb, hq⟩ := T.l o ho
          have := hall e he hb
          rw [hq, hk] at this
          simp at this
        · obtain rfl : i = k := by omega
          obtain rfl := Option.some.inj (hk1.symm.trans ho)
          have hahead := all_ahead2 T H hi
          have q := fin a w H.b H.n (fun j oj d hj hoj hd => H.f j oj d hoj (hahead (i - j) j (Nat.le_refl _) hj) hd) (S.n (hahead (i - i1) i1 (Nat.le_refl _) q1) (hahead (i - i2) i2 (Nat.le_refl _) q2))
          refine Oper.wp_mono (fun a' w' h => hK _ _ ?_) q
          -- the second one alone is left
          have g1 : (listed.setIfInBounds i true).getD (i + 1) true = false := by
            rw [getD_off (by omega), dflt (by rw [H.s]; exact hks')]
            exact hk'
          have hall2 : ∀ j, j ≠ i + 1 → j < ops.size → (listed.setIfInBounds i true).getD j true = true := by
            intro j hj hjs
            by_cases e : i = j
            · subst e
              exact getD_same (by rw [H.s]; exact hlt) _
            · rw [getD_off e, dflt (by rw [H.s]; exact hjs)]
              exact hahead (i - j) j (Nat.le_refl _) (by have := T.k2; omega)
          have hs2 : (listed.setIfInBounds i true).size = ops.size := by simp [H.s]
          have l1 : 0 < left (listed.setIfInBounds i true) ops.size := by
            rcases Nat.eq_zero_or_pos (left (listed.setIfInBounds i true) ops.size) with z | z
            · have := left_zero (n := ops.size) z (i + 1) hks'
              rw [g1] at this
              simp at this
            · exact z
          obtain ⟨f2, rfl⟩ : ∃ f2, fuel = f2 + 1 := ⟨fuel - 1, by omega⟩
          generalize listed.setIfInBounds i true = l2 at *
          refine ⟨fun hr => ?_, fun j hj => ?_⟩
          · exfalso
            have hr' : i + 1 ∈ Region.ready md ops l2 := mem_ready.2 ⟨g1, o2, hk2, fun e he hb => by
              have := T.a (i + 1) o2 hk2 e he hb
              rw [← dflt (by rw [hs2]; omega)]
              exact hall2 e.on (by omega) (by omega)⟩
            rw [hr] at hr'
            simp at hr'
          · obtain ⟨g0, oj, hoj, _⟩ := mem_ready.1 hj
            have hjl := (Array.getElem?_eq_some_iff.1 hoj).1
            by_cases e : j = i + 1
            · subst e
              obtain rfl := Option.some.inj (hk2.symm.trans hoj)
              have hwant2 : Region.wanted o2 (yielded ops a'.tmps) = true := by simp [Region.wanted, T.g (i + 1) o2 hk2]
              refine wpOp_step hk2 fun K2 hK2 => ?_
              rw [if_pos hwant2]
              refine Oper.wp_mono (fun a2 w2 h2' => hK2 _ _ (wpAny_done ?_ h2' f2)) h
              cases hr : Region.ready md ops (l2.setIfInBounds (i + 1) true) with
              | nil => rfl
              | cons m t =>
                exfalso
                have hm : m ∈ Region.ready md ops (l2.setIfInBounds (i + 1) true) := by rw [hr]; simp
                obtain ⟨q0, om, hom, _⟩ := mem_ready.1 hm
                have hml := (Array.getElem?_eq_some_iff.1 hom).1
                by_cases e : i + 1 = m
                · subst e
                  rw [getD_same (by rw [hs2]; exact hks')] at q0
                  simp at q0
                · rw [getD_off e, hall2 m (by omega) hml] at q0
                  simp at q0
            · exfalso
              rw [hall2 j e hjl] at g0
              simp at g0

/-- A region that draws its order and ends with two stores. -/
theorem region_two {id : Nat} {w : World} (k : Nat) (o1 o2 : Oper) (F : Nat → Fact) (hm : P.follows .mixedOrders = true) (hT : textTwo .any ops a0.tmps.size k = true) (hk1 : ops[k]? = some o1) (hk2 : ops[k + 1]? = some o2) (steps : ∀ i, i < k → StepOk P .any ops Q F a0 w i)
    (i1 i2 d1 d2 : Nat) (q1 : i1 < k) (q2 : i2 < k) (q3 : i1 ≠ i2) (w1 : writes ops i1 d1 = true) (w2 : writes ops i2 d2 = true) (f1 : FreshOk P .any ops Q F a0 w i1) (f2 : FreshOk P .any ops Q F a0 w i2)
    (fin : ∀ a w', Based ops a0 a → Below w.heap.size w w' → Full ops F a w' → a.tmps.getD d1 undef ≠ a.tmps.getD d2 undef → o1.wp P a w' (fun a' w'' => o2.wp P a' w'' (fun a'' w3 => Q .normal a'' w3) Q) Q) : (Code.region id ops true).wp P Q a0 w := by
  have T := text2_of hT
  refine wp_region_any hm ?_
  refine any_two (w0 := w) T (Nat.le_refl _) steps o1 o2 hk1 hk2 i1 i2 d1 d2 q1 q2 q3 w1 w2 f1 f2 (fun a w' hb hw hf hne => fin a w' hb hw (fun i d hi => ?_) hne) ops.size _ a0 _ ?_ ⟨⟨rfl, rfl, fun _ _ => rfl⟩, (Below.refl _ _).drew, ?_, ?_, by simp⟩ ⟨fun h => ?_, fun h => ?_, fun h => ?_⟩ ?_ ?_
  · unfold writes at hi
    cases ho : ops[i]? with
    | none => rw [ho] at hi; simp at hi
    | some oi =>
      rw [ho] at hi
      have hi' : oi.dst = some d := by simpa using hi
      refine hf i oi d ?_ ho hi'
      have h1 := (Array.getElem?_eq_some_iff.1 ho).1
      have h2 := T.k2
      rcases Nat.lt_or_ge i k with h | h
      · exact h
      · exfalso
        by_cases e : i = k
        · subst e
          rw [T.n1 oi ho] at hi'
          simp at hi'
        · obtain rfl : i = k + 1 := by omega
          rw [T.n2 oi ho] at hi'
          simp at hi'
  · have : ∀ m, left (Array.replicate ops.size false) m ≤ m := by
      intro m
      induction m with
      | zero => exact Nat.le_refl _
      | succ m ih => unfold left; split <;> omega
    exact this _
  · intro i o d ho hl _
    rw [Array.getD_eq_getD_getElem?, Array.getElem?_replicate] at hl
    split at hl <;> simp at hl
  · intro i o ho hl
    rw [Array.getD_eq_getD_getElem?, Array.getElem?_replicate] at hl
    split at hl <;> simp at hl
  · rw [Array.getD_eq_getD_getElem?, Array.getElem?_replicate] at h
    split at h <;> simp at h
  · rw [Array.getD_eq_getD_getElem?, Array.getElem?_replicate] at h
    split at h <;> simp at h
  · rw [Array.getD_eq_getD_getElem?, Array.getElem?_replicate] at h
    split at h <;> simp at h
  · rw [Array.getD_eq_getD_getElem?, Array.getElem?_replicate]
    split <;> rfl
  · rw [Array.getD_eq_getD_getElem?, Array.getElem?_replicate]
    split <;> rfl
theorem puts_two {n k : Nat} (hT : textTwo md ops n k = true) (hn : n = a0.tmps.size) {a : Act} (hb : Based ops a0 a) (vs : Nat → Value) (hv : ∀ d, a.tmps.getD d undef = vs d) : a = puts vs a0 ops.toList := by
  have T := text2_of hT
  have hin : ∀ o ∈ ops.toList, ∀ e, o.dst = some e → e < a0.tmps.size := fun o ho e he => by
    obtain ⟨i, hi⟩ := List.getElem?_of_mem ho
    have := T.d i o e (by simpa using hi) he
    rw [hn] at this
    exact this
  obtain ⟨s1, s2⟩ := puts_size vs ops.toList a0
  obtain ⟨ta, da⟩ := a
  obtain ⟨h1, h2, h3⟩ := hb
  have e1 : ta = (puts vs a0 ops.toList).tmps := by
    apply Array.ext
    · rw [s1]; exact h2
    · intro i hi hi'
      have g := puts_get vs i ops.toList a0 hin
      have l : ta[i] = ta.getD i undef := by simp [Array.getD_eq_getD_getElem?, hi]
      have r : (puts vs a0 ops.toList).tmps[i] = (puts vs a0 ops.toList).tmps.getD i undef := by simp only [Array.getD_eq_getD_getElem?, Array.getElem?_eq_getElem hi', Option.getD_some]
      rw [l, r, g]
      by_cases c : ops.toList.any (fun o => o.dst == some i) = true
      · rw [if_pos c]; exact hv i
      · rw [if_neg c]
        refine h3 i ?_
        unfold apart
        rw [Array.all_eq_true_iff_forall_mem]
        intro o ho
        have hne : ¬ (o.dst == some i) = true := fun x => c (List.any_eq_true.2 ⟨o, by simpa using ho, x⟩)
        simpa using hne
  have e2 : da = (puts vs a0 ops.toList).defers := h1.trans s2.symm
  subst e1
  subst e2
  rfl
end
end Go.Proofs.Ythkhfljoflffpaa

/-
  The law by facts for a region that ends with a row of operations, each behind the one ahead of it. No program in sight.
-/
namespace Go.Proofs.Ythkhfljoflffpaa
open Go Go.RowKit

section
variable {P : Program} {ops : Array Oper} {Q : Exit → Act → World → Prop} {md : Region.Mode} {F : Nat → Fact} {a0 : Act} {w0 : World}

/-- The tail, one behind the other. -/
def tailWp (P : Program) (Q : Exit → Act → World → Prop) : List Oper → Act → World → Prop
  | [], a, w => Q .normal a w
  | o :: os, a, w => o.wp P a w (fun a' w' => tailWp P Q os a' w') Q
/-- What this law asks of the region's text: number k waits for all ahead of it, each behind k for the one ahead of it. -/
def textTail (md : Region.Mode) (draw : Bool) (ops : Array Oper) (n k : Nat) : Bool :=
  (ops.all fun o => o.guard.isNone && (match o.dst with | some d => decide (d < n) | none => true))
  && ((List.range ops.size).all fun i => match ops[i]? with
    | some o => o.after.all (fun e => !Region.binds md e || decide (e.on < i)) && (List.range i).all fun j => match ops[j]? with
      | some x => x.dst.isNone || o.dst != x.dst
      | none => true
    | none => true)
  && decide (k ≤ ops.size)
  && (!draw || k == ops.size || (List.range k).all fun j => (List.range (k + 1)).any fun m => decide (j < m) && match ops[m]? with
    | some o => o.after.any (fun e => Region.binds md e && e.on == j)
    | none => false)
  && (!draw || (List.range ops.size).all fun i => decide (i ≤ k) || match ops[i]? with
    | some o => o.after.any (fun e => Region.binds md e && e.on + 1 == i)
    | none => false)
structure TextT (md : Region.Mode) (draw : Bool) (ops : Array Oper) (n k : Nat) : Prop where
  g : ∀ (i : Nat) o, ops[i]? = some o → o.guard = none
  d : ∀ (i : Nat) o d, ops[i]? = some o → o.dst = some d → d < n
  a : ∀ (i : Nat) o, ops[i]? = some o → ∀ e ∈ o.after, Region.binds md e = true → e.on < i
  x : ∀ (i j : Nat) o o' d, ops[i]? = some o → ops[j]? = some o' → i ≠ j → o.dst = some d → o'.dst ≠ some d
  k1 : k ≤ ops.size
  c : draw = true → k < ops.size → ∀ j, j < k → ∃ (m : Nat) (o : Oper), j < m ∧ m ≤ k ∧ ops[m]? = some o ∧ ∃ e ∈ o.after, Region.binds md e = true ∧ e.on = j
  l : draw = true → ∀ i o, k < i → ops[i]? = some o → ∃ e ∈ o.after, Region.binds md e = true ∧ e.on + 1 = i
theorem textT_of {n k : Nat} {draw : Bool} (h : textTail md draw ops n k = true) : TextT md draw ops n k := by
  unfold textTail at h
  simp only [Bool.and_eq_true, decide_eq_true_eq] at h
  obtain ⟨⟨⟨⟨h1, h2⟩, h3⟩, h4⟩, h5⟩ := h
  rw [Array.all_eq_true_iff_forall_mem] at h1
  rw [List.all_eq_true] at h2
  have H : ∀ (i j : Nat) o o' d, j < i → ops[i]? = some o → ops[j]? = some o' → o.dst = some d → o'.dst ≠ some d := by
    intro i j o o' d hij hi hj hd hd'
    have q := h2 i (List.mem_range.2 (Array.getElem?_eq_some_iff.1 hi).1)
    simp only [hi, Bool.and_eq_true] at q
    have r := List.all_eq_true.1 q.2 j (List.mem_range.2 hij)
    simp only [hj, hd, hd'] at r
    simp at r
  refine ⟨?_, ?_, ?_, ?_, h3, ?_, ?_⟩
  · intro i o ho
    have q := h1 o (Array.mem_of_getElem? ho)
    simp only [Bool.and_eq_true] at q
    exact Option.isNone_iff_eq_none.1 q.1
  · intro i o d ho hd
    have q := h1 o (Array.mem_of_getElem? ho)
    simp only [Bool.and_eq_true, hd, decide_eq_true_eq] at q
    exact q.2
  · intro i o ho e he hb
    have q := h2 i (List.mem_range.2 (Array.getElem?_eq_some_iff.1 ho).1)
    simp only [ho, Bool.and_eq_true] at q
    have r := (Array.all_eq_true_iff_forall_mem.1 q.1) e he
    rw [hb] at r
    simpa using r
  · intro i j o o' d hi hj hij hd hd'
    rcases Nat.lt_or_gt_of_ne hij with h | h
    · exact H j i o' o d h hj hi hd' hd
    · exact H i j o o' d h hi hj hd hd'
  · intro hdr hk j hj
    rw [hdr] at h4
    have h4' : ((List.range k).all fun j => (List.range (k + 1)).any fun m => decide (j < m) && match ops[m]? with
      | some o => o.after.any (fun e => Region.binds md e && e.on == j)
      | none => false) = true := by
      simp only [Bool.not_true, Bool.false_or, Bool.or_eq_true] at h4
      rcases h4 with e | e
      · have : k = ops.size := by simpa using e
        omega
      · exact e
    have q := List.all_eq_true.1 h4' j (List.mem_range.2 hj)
    obtain ⟨m, hm, r⟩ := List.any_eq_true.1 q
    simp only [Bool.and_eq_true, decide_eq_true_eq] at r
    cases ho : ops[m]? with
    | none => rw [ho] at r; simp at r
    | some o =>
      rw [ho] at r
      obtain ⟨e, he, hb⟩ := Array.any_eq_true'.1 r.2
      simp only [Bool.and_eq_true, beq_iff_eq] at hb
      exact ⟨m, o, r.1, by have := List.mem_range.1 hm; omega, ho, e, he, hb.1, hb.2⟩
  · intro hdr i o hki ho
    rw [hdr] at h5
    simp only [Bool.not_true, Bool.false_or] at h5
    rw [List.all_eq_true] at h5
    have q := h5 i (List.mem_range.2 (Array.getElem?_eq_some_iff.1 ho).1)
    rw [ho] at q
    simp only [Bool.or_eq_true] at q
    rcases q with e | e
    · have : i ≤ k := by simpa using e
      omega
    · obtain ⟨e, he, hb⟩ := Array.any_eq_true'.1 e
      simp only [Bool.and_eq_true, beq_iff_eq] at hb
      exact ⟨e, he, hb.1, hb.2⟩
theorem Held.nextT {n k : Nat} {draw : Bool} (T : TextT md draw ops n k) (hn : n ≤ a0.tmps.size) {listed : Array Bool} {a : Act} {w : World} (H : Held md ops F a0 w0 listed a w) {i : Nat} {o : Oper} (ho : ops[i]? = some o) (hr : i ∈ Region.ready md ops listed)
    {v : Value} {w' : World} (hw : Below w.heap.size w w') (hf : (F i).p v w') : Held md ops F a0 w0 (listed.setIfInBounds i true) (a.put o.dst v) w' := by
  have hi : i < ops.size := (Array.getElem?_eq_some_iff.1 ho).1
  have hz : a.tmps.size = a0.tmps.size := H.b.2.1
  refine ⟨⟨by rw [put_defers]; exact H.b.1, by rw [put_size]; exact hz, fun d hd => ?_⟩, nxt H.n hw, ?_, ?_, by simp [H.s]⟩
  · rw [put_off]
    · exact H.b.2.2 d hd
    · have q := Array.all_eq_true_iff_forall_mem.1 hd o (Array.mem_of_getElem? ho)
      simpa using q
  · intro j oj d hoj hj hd
    by_cases e : i = j
    · subst e
      obtain rfl := Option.some.inj (ho.symm.trans hoj)
      rw [hd, put_at (Nat.lt_of_lt_of_le (T.d i o d ho hd) (hz ▸ hn))]
      exact hf
    · rw [getD_off e] at hj
      rw [put_off (T.x j i oj o d hoj ho (Ne.symm e) hd)]
      exact (F j).up hw (H.f j oj d hoj hj hd)
  · intro j oj hoj hj e he hb
    obtain ⟨_, o', ho', q⟩ := mem_ready.1 hr
    by_cases c : i = e.on
    · rw [← c]
      exact getD_same (by rw [H.s]; exact hi) _
    · rw [getD_off c]
      by_cases e' : i = j
      · subst e'
        obtain rfl := Option.some.inj (ho'.symm.trans hoj)
        exact q e he hb
      · rw [getD_off e'] at hj
        exact H.c j oj hoj hj e he hb

/-- The tail alone is left. -/
theorem tail_any {n k : Nat} (T : TextT md true ops n k) : ∀ (m t fuel : Nat) (listed : Array Bool) (a : Act) (w : World), t + m = ops.size → k ≤ t → listed.size = ops.size → (∀ j, j < t → listed.getD j false = true) → (∀ j, t ≤ j → listed.getD j false = false) → m ≤ fuel →
    tailWp P Q (ops.toList.drop t) a w → wpAny P md ops Q fuel listed a w := by
  intro m
  induction m with
  | zero =>
    intro t fuel listed a w ht hk hs h1 h2 hf hq
    obtain rfl : t = ops.size := by omega
    have e : ops.toList.drop ops.size = [] := by simp
    rw [e] at hq
    refine wpAny_done ?_ hq fuel
    cases hr : Region.ready md ops listed with
    | nil => rfl
    | cons i tl =>
      exfalso
      have hi : i ∈ Region.ready md ops listed := by rw [hr]; simp
      obtain ⟨h0, o, ho, _⟩ := mem_ready.1 hi
      have hlt := (Array.getElem?_eq_some_iff.1 ho).1
      rw [dflt (by rw [hs]; exact hlt), h1 i hlt] at h0
      simp at h0
  | succ m ih =>
    intro t fuel listed a w ht hk hs h1 h2 hf hq
    have hlt : t < ops.size := by omega
    obtain ⟨o, ho⟩ : ∃ o, ops[t]? = some o := ⟨ops[t], by simp [hlt]⟩
    have e : ops.toList.drop t = o :: ops.toList.drop (t + 1) := by
      rw [List.drop_eq_getElem_cons (by simpa using hlt)]
      congr 1
      have := (Array.getElem?_eq_some_iff.1 ho).2
      simpa using this
    rw [e] at hq
    obtain ⟨f2, rfl⟩ : ∃ f2, fuel = f2 + 1 := ⟨fuel - 1, by omega⟩
    refine ⟨fun hr => ?_, fun i hi => ?_⟩
    · exfalso
      have hr' : t ∈ Region.ready md ops listed := mem_ready.2 ⟨by rw [dflt (by rw [hs]; exact hlt)]; exact h2 t (Nat.le_refl _), o, ho, fun e he hb => h1 e.on (T.a t o ho e he hb)⟩
      rw [hr] at hr'
      simp at hr'
    · obtain ⟨h0, oi, hoi, hall⟩ := mem_ready.1 hi
      have hil := (Array.getElem?_eq_some_iff.1 hoi).1
      rw [dflt (by rw [hs]; exact hil)] at h0
      have hti : i = t := by
        rcases Nat.lt_trichotomy i t with c | c | c
        · rw [h1 i c] at h0; simp at h0
        · exact c
        · exfalso
          obtain ⟨e, he, hb, hq'⟩ := T.l rfl i oi (by omega) hoi
          have := hall e he hb
          rw [h2 e.on (by omega)] at this
          simp at this
      subst hti
      obtain rfl := Option.some.inj (ho.symm.trans hoi)
      have hwant : Region.wanted o (yielded ops a.tmps) = true := by simp [Region.wanted, T.g i o ho]
      refine wpOp_step ho fun K' hK => ?_
      rw [if_pos hwant]
      refine Oper.wp_mono (fun a' w' h => hK _ _ (ih (i + 1) f2 (listed.setIfInBounds i true) a' w' (by omega) (by omega) (by simp [hs]) (fun j hj => ?_) (fun j hj => ?_) (by omega) h)) hq
      · by_cases c : i = j
        · subst c
          exact getD_same (by rw [hs]; exact hlt) _
        · rw [getD_off c]
          exact h1 j (by omega)
      · rw [getD_off (by omega)]
        exact h2 j (by omega)

/-- The block that a value leads to. -/
def blkOf : Value → Option Nat
  | .pointer (some a) => some a.block
  | .slice (some a) _ _ => some a.block
  | _ => none
/-- One operation whose answer leads to a block of its own making. -/
def FreshG (P : Program) (md : Region.Mode) (ops : Array Oper) (Q : Exit → Act → World → Prop) (F : Nat → Fact) (a0 : Act) (w0 : World) (i : Nat) : Prop :=
  ∀ o, ops[i]? = some o → ∀ a w, Based ops a0 a → Below w0.heap.size w0 w → (∀ j d, waits md ops i j d = true → (F j).p (a.tmps.getD d undef) w) →
    ∀ K : Act → World → Prop, (∀ v w', Below w.heap.size w w' → (F i).p v w' → (∃ b, blkOf v = some b ∧ w.heap.size ≤ b ∧ b < w'.heap.size) → K (a.put o.dst v) w') → o.wp P a w K Q
theorem FreshOk.g {i : Nat} (h : FreshOk P md ops Q F a0 w0 i) : FreshG P md ops Q F a0 w0 i :=
  fun o ho a w hb hw hf K hK => h o ho a w hb hw hf K (fun v w' hn hv e hz => hK v w' hn hv ⟨w.heap.size, by rw [e]; rfl, Nat.le_refl _, hz⟩)
theorem FreshG.step {i : Nat} (h : FreshG P md ops Q F a0 w0 i) : StepOk P md ops Q F a0 w0 i :=
  fun o ho a w hb hw hf K hK => h o ho a w hb hw hf K (fun v w' hn hv _ => hK v w' hn hv)
/-- Those that make a block are apart from one another. -/
structure SepL (fr : List (Nat × Nat)) (listed : Array Bool) (a : Act) (w : World) : Prop where
  l : ∀ p ∈ fr, listed.getD p.1 false = true → ∃ q, blkOf (a.tmps.getD p.2 undef) = some q ∧ q < w.heap.size
  n : ∀ p ∈ fr, ∀ p' ∈ fr, p ≠ p' → listed.getD p.1 false = true → listed.getD p'.1 false = true → blkOf (a.tmps.getD p.2 undef) ≠ blkOf (a.tmps.getD p'.2 undef)
theorem SepL.other {fr : List (Nat × Nat)} {listed : Array Bool} {a : Act} {w w' : World} (h : SepL fr listed a w) {i : Nat} {dst : Option Tmp} {v : Value} (h1 : ∀ p ∈ fr, i ≠ p.1) (e1 : ∀ p ∈ fr, dst ≠ some p.2) (hw : w.heap.size ≤ w'.heap.size) : SepL fr (listed.setIfInBounds i true) (a.put dst v) w' := by
  refine ⟨fun p hp g => ?_, fun p hp p' hp' hne g g' => ?_⟩
  · rw [getD_off (h1 p hp)] at g
    obtain ⟨q, hq, hl⟩ := h.l p hp g
    exact ⟨q, by rw [put_off (e1 p hp)]; exact hq, by omega⟩
  · rw [getD_off (h1 p hp)] at g
    rw [getD_off (h1 p' hp')] at g'
    rw [put_off (e1 p hp), put_off (e1 p' hp')]
    exact h.n p hp p' hp' hne g g'
theorem SepL.this {fr : List (Nat × Nat)} {listed : Array Bool} {a : Act} {w w' : World} (h : SepL fr listed a w) {v : Value} {i d : Nat} (hi : ∀ p ∈ fr, p ≠ (i, d) → i ≠ p.1 ∧ d ≠ p.2) (hs : d < a.tmps.size) (hv : ∃ b, blkOf v = some b ∧ w.heap.size ≤ b ∧ b < w'.heap.size) :
    SepL fr (listed.setIfInBounds i true) (a.put (some d) v) w' := by
  obtain ⟨b, hb, hb1, hb2⟩ := hv
  have old : ∀ p ∈ fr, p ≠ (i, d) → (listed.setIfInBounds i true).getD p.1 false = true → ∃ q, blkOf ((a.put (some d) v).tmps.getD p.2 undef) = some q ∧ q < w.heap.size := by
    intro p hp c g
    obtain ⟨c1, c2⟩ := hi p hp c
    rw [getD_off c1] at g
    obtain ⟨q, hq, hl⟩ := h.l p hp g
    exact ⟨q, by rw [put_off (by simpa using c2)]; exact hq, hl⟩
  have new : blkOf ((a.put (some d) v).tmps.getD d undef) = some b := by rw [put_at hs, hb]
  have ne : ∀ q, q < w.heap.size → (some q : Option Nat) ≠ some b := by
    intro q hq x
    simp only [Option.some.injEq] at x
    omega
  refine ⟨fun p hp g => ?_, fun p hp p' hp' hne g g' => ?_⟩
  · by_cases c : p = (i, d)
    · subst c
      exact ⟨b, new, hb2⟩
    · obtain ⟨q, hq, hl⟩ := old p hp c g
      exact ⟨q, hq, by omega⟩
  · by_cases c : p = (i, d)
    · subst c
      obtain ⟨q, hq, hl⟩ := old p' hp' (Ne.symm hne) g'
      show blkOf ((a.put (some d) v).tmps.getD d undef) ≠ _
      rw [new, hq]
      exact (ne q hl).symm
    · obtain ⟨q, hq, hl⟩ := old p hp c g
      by_cases c' : p' = (i, d)
      · subst c'
        show _ ≠ blkOf ((a.put (some d) v).tmps.getD d undef)
        rw [new, hq]
        exact ne q hl
      · obtain ⟨c1, c2⟩ := hi p hp c
        obtain ⟨c1', c2'⟩ := hi p' hp' c'
        rw [getD_off c1] at g
        rw [getD_off c1'] at g'
        rw [put_off (by simpa using c2), put_off (by simpa using c2')]
        exact h.n p hp p' hp' hne g g'

/-- What is told behind the head. -/
abbrev HeadDone (P : Program) (ops : Array Oper) (Q : Exit → Act → World → Prop) (F : Nat → Fact) (a0 : Act) (w0 : World) (k : Nat) (fr : List (Nat × Nat)) : Prop :=
  ∀ a w, Based ops a0 a → Below w0.heap.size w0 w → (∀ i o d, i < k → ops[i]? = some o → o.dst = some d → (F i).p (a.tmps.getD d undef) w) → (∀ p ∈ fr, ∀ p' ∈ fr, p ≠ p' → blkOf (a.tmps.getD p.2 undef) ≠ blkOf (a.tmps.getD p'.2 undef)) → tailWp P Q (ops.toList.drop k) a w

theorem any_tail {n k : Nat} (T : TextT md true ops n k) (hn : n ≤ a0.tmps.size) (steps : ∀ i, i < k → StepOk P md ops Q F a0 w0 i) (fr : List (Nat × Nat)) (hfr : ∀ p ∈ fr, p.1 < k ∧ writes ops p.1 p.2 = true ∧ FreshG P md ops Q F a0 w0 p.1) (hnd : ∀ p ∈ fr, ∀ p' ∈ fr, p ≠ p' → p.1 ≠ p'.1)
    (fin : HeadDone P ops Q F a0 w0 k fr) :
    ∀ (fuel : Nat) (listed : Array Bool) (a : Act) (w : World), left listed ops.size ≤ fuel → Held md ops F a0 w0 listed a w → SepL fr listed a w → (∀ j, k ≤ j → listed.getD j false = false) → ops.size - k ≤ fuel → wpAny P md ops Q fuel listed a w := by
  intro fuel
  induction fuel with
  | zero =>
    intro listed a w hl H S hk hf
    have hks : k = ops.size := by have := T.k1; omega
    have hall : ∀ i, i < ops.size → listed.getD i false = true := fun i hi => by
      rw [← dflt (by rw [H.s]; exact hi)]
      exact left_zero (n := ops.size) (by omega) i hi
    exact tail_any T 0 ops.size 0 listed a w (by omega) (by omega) H.s (fun j hj => hall j hj) (fun j hj => hk j (by omega)) (Nat.le_refl _) (hks ▸ fin a w H.b H.n (fun i o d hi ho hd => H.f i o d ho (hall i (by omega)) hd) (fun p hp p' hp' hne => S.n p hp p' hp' hne (hall p.1 (by have := (hfr p hp).1; omega)) (hall p'.1 (by have := (hfr p' hp').1; omega))))
  | succ fuel ih =>
    intro listed a w hl H S hk hf
    by_cases hall : ∀ j, j < k → listed.getD j false = true
    · exact tail_any T (ops.size - k) k (fuel + 1) listed a w (by have := T.k1; omega) (Nat.le_refl _) H.s hall hk hf (fin a w H.b H.n (fun i o d hi ho hd => H.f i o d ho (hall i hi) hd) (fun p hp p' hp' hne => S.n p hp p' hp' hne (hall p.1 (hfr p hp).1) (hall p'.1 (hfr p' hp').1)))
    · refine ⟨fun hr => ?_, fun i hi => ?_⟩
      · exfalso
        refine hall fun j hj => ?_
        have : ∀ m i, i < m → i < k → listed.getD i false = true := by
          intro m
          induction m with
          | zero => intro i hi; omega
          | succ m ihm =>
            intro i hi hik
            rcases Nat.lt_or_ge i m with h1 | h1
            · exact ihm i h1 hik
            · obtain rfl : i = m := by omega
              cases hc : listed.getD i false
              · exfalso
                have hks : i < ops.size := by have := T.k1; omega
                obtain ⟨o, ho⟩ : ∃ o, ops[i]? = some o := ⟨ops[i], by simp [hks]⟩
                have hr' : i ∈ Region.ready md ops listed := mem_ready.2 ⟨by rw [dflt (by rw [H.s]; omega)]; exact hc, o, ho, fun e he hb => ihm e.on (T.a i o ho e he hb) (by have := T.a i o ho e he hb; omega)⟩
                rw [hr] at hr'
                simp at hr'
              · rfl
        exact this (j + 1) j (by omega) hj
      · obtain ⟨h0, o, ho, hready⟩ := mem_ready.1 hi
        have hlt := (Array.getElem?_eq_some_iff.1 ho).1
        have hik : i < k := by
          rcases Nat.lt_or_ge i k with h1 | h1
          · exact h1
          · exfalso
            rcases Nat.lt_or_ge k i with h2 | h2
            · obtain ⟨e, he, hb, hq⟩ := T.l rfl i o h2 ho
              have := hready e he hb
              rw [hk e.on (by omega)] at this
              simp at this
            · obtain rfl : i = k := by omega
              refine hall fun j hj => ?_
              have ah : ∀ m j, i - j ≤ m → j < i → listed.getD j false = true := by
                intro m
                induction m with
                | zero => intro j hm hj; omega
                | succ m ihm =>
                  intro j hm hj
                  obtain ⟨p, oo, hjp, hpk, hoo, e, he, hb, rfl⟩ := T.c rfl hlt j hj
                  rcases Nat.lt_or_ge p i with h1 | h1
                  · exact H.c p oo hoo (ihm p (by omega) h1) e he hb
                  · obtain rfl : p = i := by omega
                    obtain rfl := Option.some.inj (ho.symm.trans hoo)
                    exact hready e he hb
              exact ah (i - j) j (Nat.le_refl _) hj
        have hwant : Region.wanted o (yielded ops a.tmps) = true := by simp [Region.wanted, T.g i o ho]
        refine wpOp_step ho fun K' hK => ?_
        rw [if_pos hwant]
        have hll := left_set (by rw [H.s]; exact hlt) h0 ops.size hlt
        have hfacts : ∀ j d, waits md ops i j d = true → (F j).p (a.tmps.getD d undef) w := by
          intro j d hjd
          unfold waits at hjd
          rw [ho] at hjd
          cases hoj : ops[j]? with
          | none => rw [hoj] at hjd; simp at hjd
          | some oj =>
            rw [hoj] at hjd
            simp only [Bool.and_eq_true, beq_iff_eq] at hjd
            obtain ⟨e, he, hb⟩ := Array.any_eq_true'.1 hjd.1
            simp only [Bool.and_eq_true, beq_iff_eq] at hb
            exact H.f j oj d hoj (by rw [← hb.2]; exact hready e he hb.1) hjd.2
        have htail : ops.size - k ≤ fuel := by
          -- k and all behind it are still to come, and i besides
          have lk : ∀ m, m ≤ ops.size → k ≤ m → (m - k) + left listed k ≤ left listed m := by
            intro m
            induction m with
            | zero => intro _ hk0; have : k = 0 := by omega
                      subst this; simp
            | succ m ihm =>
              intro hm hkm
              rcases Nat.lt_or_ge m k with c | c
              · have : k = m + 1 := by omega
                subst this
                omega
              · have q := ihm (by omega) c
                rw [left, if_pos (by rw [dflt (by rw [H.s]; omega)]; exact hk m c)]
                omega
          have l1 : 1 ≤ left listed k := by
            have := left_set (by rw [H.s]; exact hlt) h0 k hik
            omega
          have := lk ops.size (Nat.le_refl _) T.k1
          omega
        have go : ∀ v w', Below w.heap.size w w' → (F i).p v w' → SepL fr (listed.setIfInBounds i true) (a.put o.dst v) w' → K' (a.put o.dst v) w' := by
          intro v w' hw hf' hS
          refine hK _ _ (ih _ _ _ (by omega) (H.nextT T hn ho hi hw hf') hS (fun j hj => ?_) htail)
          rw [getD_off (by omega)]
          exact hk j hj
        by_cases c : ∃ p ∈ fr, i = p.1
        · obtain ⟨p, hp, rfl⟩ := c
          obtain ⟨_, hw', f⟩ := hfr p hp
          obtain ⟨op, hop, hdp⟩ := writes_is hw'
          obtain rfl := Option.some.inj (hop.symm.trans ho)
          refine f op ho a w H.b H.n hfacts K' fun v w' hw hf' hv => go v w' hw hf' ?_
          rw [hdp]
          refine S.this (i := p.1) (d := p.2) (fun p' hp' hne => ?_) (by rw [H.b.2.1]; exact Nat.lt_of_lt_of_le (T.d p.1 op p.2 hop hdp) hn) hv
          have n1 := hnd p hp p' hp' (Ne.symm hne)
          obtain ⟨o', ho', hd'⟩ := writes_is (hfr p' hp').2.1
          exact ⟨n1, fun e => T.x p.1 p'.1 op o' p.2 hop ho' n1 hdp (by rw [e]; exact hd')⟩
        · refine steps i hik o ho a w H.b H.n hfacts K' fun v w' hw hf' => go v w' hw hf' ?_
          refine S.other (fun p hp e => c ⟨p, hp, e⟩) (fun p hp e => ?_) hw.size
          obtain ⟨o', ho', hd'⟩ := writes_is (hfr p hp).2.1
          exact T.x i p.1 o o' p.2 ho ho' (fun x => c ⟨p, hp, x⟩) e hd'

theorem tail_line {n k : Nat} {draw : Bool} (T : TextT md draw ops n k) : ∀ (m t : Nat) (a : Act) (w : World), t + m = ops.size → k ≤ t → tailWp P Q (ops.toList.drop t) a w → wpOps P ops Q (List.range' t m) a w := by
  intro m
  induction m with
  | zero =>
    intro t a w ht hk hq
    obtain rfl : t = ops.size := by omega
    have e : ops.toList.drop ops.size = [] := by simp
    rw [e] at hq
    exact hq
  | succ m ih =>
    intro t a w ht hk hq
    have hlt : t < ops.size := by omega
    obtain ⟨o, ho⟩ : ∃ o, ops[t]? = some o := ⟨ops[t], by simp [hlt]⟩
    have e : ops.toList.drop t = o :: ops.toList.drop (t + 1) := by
      rw [List.drop_eq_getElem_cons (by simpa using hlt)]
      congr 1
      have := (Array.getElem?_eq_some_iff.1 ho).2
      simpa using this
    rw [e] at hq
    have hwant : Region.wanted o (yielded ops a.tmps) = true := by simp [Region.wanted, T.g t o ho]
    rw [List.range'_succ, wpOps_cons]
    refine wpOp_step ho fun K' hK => ?_
    rw [if_pos hwant]
    exact Oper.wp_mono (fun a' w' h => hK _ _ (ih (t + 1) a' w' (by omega) (by omega) h)) hq
theorem line_tail {n k : Nat} {draw : Bool} (T : TextT md draw ops n k) (hn : n ≤ a0.tmps.size) (steps : ∀ i, i < k → StepOk P md ops Q F a0 w0 i) (fr : List (Nat × Nat)) (hfr : ∀ p ∈ fr, p.1 < k ∧ writes ops p.1 p.2 = true ∧ FreshG P md ops Q F a0 w0 p.1) (hnd : ∀ p ∈ fr, ∀ p' ∈ fr, p ≠ p' → p.1 ≠ p'.1)
    (fin : HeadDone P ops Q F a0 w0 k fr) :
    ∀ (m i : Nat) (listed : Array Bool) (a : Act) (w : World), i + m = ops.size → i ≤ k → Based ops a0 a → Below w0.heap.size w0 w → (∀ j o d, j < i → ops[j]? = some o → o.dst = some d → (F j).p (a.tmps.getD d undef) w) → listed.size = ops.size → (∀ j, j < i → listed.getD j false = true) → SepL fr listed a w →
      wpOps P ops Q (List.range' i m) a w := by
  intro m
  induction m with
  | zero =>
    intro i listed a w him hik hb hw hf hs hl S
    obtain rfl : i = k := by have := T.k1; omega
    exact tail_line T 0 i a w (by omega) (Nat.le_refl _) (fin a w hb hw hf (fun p hp p' hp' hne => S.n p hp p' hp' hne (hl p.1 (hfr p hp).1) (hl p'.1 (hfr p' hp').1)))
  | succ m ih =>
    intro i listed a w him hik hb hw hf hs hl S
    have hlt : i < ops.size := by omega
    obtain ⟨o, ho⟩ : ∃ o, ops[i]? = some o := ⟨ops[i], by simp [hlt]⟩
    rcases Nat.lt_or_ge i k with h1 | h1
    · have hwant : Region.wanted o (yielded ops a.tmps) = true := by simp [Region.wanted, T.g i o ho]
      rw [List.range'_succ, wpOps_cons]
      refine wpOp_step ho fun K' hK => ?_
      rw [if_pos hwant]
      have hfacts : ∀ j d, waits md ops i j d = true → (F j).p (a.tmps.getD d undef) w := by
        intro j d hjd
        unfold waits at hjd
        rw [ho] at hjd
        cases hoj : ops[j]? with
        | none => rw [hoj] at hjd; simp at hjd
        | some oj =>
          rw [hoj] at hjd
          simp only [Bool.and_eq_true, beq_iff_eq] at hjd
          obtain ⟨e, he, hb⟩ := Array.any_eq_true'.1 hjd.1
          simp only [Bool.and_eq_true, beq_iff_eq] at hb
          exact hf j oj d (by rw [← hb.2]; exact T.a i o ho e he hb.1) hoj hjd.2
      have go : ∀ v w', Below w.heap.size w w' → (F i).p v w' → SepL fr (listed.setIfInBounds i true) (a.put o.dst v) w' → K' (a.put o.dst v) w' := by
        intro v w' hw' hfv hS
        refine hK _ _ (ih (i + 1) (listed.setIfInBounds i true) _ _ (by omega) (by omega) ⟨by rw [put_defers]; exact hb.1, by rw [put_size]; exact hb.2.1, fun d hd => ?_⟩ (nxt hw hw') ?_ (by simp [hs]) (fun j hj => ?_) hS)
        · rw [put_off]
          · exact hb.2.2 d hd
          · have q := Array.all_eq_true_iff_forall_mem.1 hd o (Array.mem_of_getElem? ho)
            simpa using q
        · intro j oj d hj hoj hd
          by_cases e : i = j
          · subst e
            obtain rfl := Option.some.inj (ho.symm.trans hoj)
            rw [hd, put_at (Nat.lt_of_lt_of_le (T.d i o d ho hd) (hb.2.1 ▸ hn))]
            exact hfv
          · rw [put_off (T.x j i oj o d hoj ho (Ne.symm e) hd)]
            exact (F j).up hw' (hf j oj d (by omega) hoj hd)
        · by_cases c : i = j
          · subst c
            exact getD_same (by rw [hs]; exact hlt) _
          · rw [getD_off c]
            exact hl j (by omega)
      by_cases c : ∃ p ∈ fr, i = p.1
      · obtain ⟨p, hp, rfl⟩ := c
        obtain ⟨_, hw', f⟩ := hfr p hp
        obtain ⟨op, hop, hdp⟩ := writes_is hw'
        obtain rfl := Option.some.inj (hop.symm.trans ho)
        refine f op ho a w hb hw hfacts K' fun v w' hw' hf' hv => go v w' hw' hf' ?_
        rw [hdp]
        refine S.this (i := p.1) (d := p.2) (fun p' hp' hne => ?_) (by rw [hb.2.1]; exact Nat.lt_of_lt_of_le (T.d p.1 op p.2 hop hdp) hn) hv
        have n1 := hnd p hp p' hp' (Ne.symm hne)
        obtain ⟨o', ho', hd'⟩ := writes_is (hfr p' hp').2.1
        exact ⟨n1, fun e => T.x p.1 p'.1 op o' p.2 hop ho' n1 hdp (by rw [e]; exact hd')⟩
      · refine steps i h1 o ho a w hb hw hfacts K' fun v w' hw' hf' => go v w' hw' hf' ?_
        refine S.other (fun p hp e => c ⟨p, hp, e⟩) (fun p hp e => ?_) hw'.size
        obtain ⟨o', ho', hd'⟩ := writes_is (hfr p hp).2.1
        exact T.x i p.1 o o' p.2 ho ho' (fun x => c ⟨p, hp, x⟩) e hd'
    · obtain rfl : i = k := by omega
      exact tail_line T (m + 1) i a w him (Nat.le_refl _) (fin a w hb hw hf (fun p hp p' hp' hne => S.n p hp p' hp' hne (hl p.1 (hfr p hp).1) (hl p'.1 (hfr p' hp').1)))

/-- A region of any kind that ends with a row of operations. -/
theorem region_tail {id : Nat} {w : World} {draw : Bool} (k : Nat) (F : Nat → Fact) (hm : P.follows .mixedOrders = true) (hT : textTail .any draw ops a0.tmps.size k = true) (steps : ∀ i, i < k → StepOk P .any ops Q F a0 w i)
    (fr : List (Nat × Nat)) (hfr : ∀ p ∈ fr, p.1 < k ∧ writes ops p.1 p.2 = true ∧ FreshG P .any ops Q F a0 w p.1) (hnd : ∀ p ∈ fr, ∀ p' ∈ fr, p ≠ p' → p.1 ≠ p'.1)
    (fin : ∀ a w', Based ops a0 a → Below w.heap.size w w' → (∀ i d, decide (i < k) = true → writes ops i d = true → (F i).p (a.tmps.getD d undef) w') → (∀ p ∈ fr, ∀ p' ∈ fr, p ≠ p' → blkOf (a.tmps.getD p.2 undef) ≠ blkOf (a.tmps.getD p'.2 undef)) → tailWp P Q (ops.toList.drop k) a w') : (Code.region id ops draw).wp P Q a0 w := by
  have T := textT_of hT
  have fin' : HeadDone P ops Q F a0 w k fr := fun a w' hb hw hf hne => fin a w' hb hw (fun i d hi hd => by
    obtain ⟨o, ho, hd'⟩ := writes_is hd
    exact hf i o d (of_decide_eq_true hi) ho hd') hne
  have z : ∀ j, (Array.replicate ops.size false).getD j false = false := fun j => by
    rw [Array.getD_eq_getD_getElem?, Array.getElem?_replicate]
    split <;> rfl
  have S0 : ∀ w', SepL fr (Array.replicate ops.size false) a0 w' := fun w' => ⟨fun p hp g => by rw [z] at g; simp at g, fun p hp p' hp' hne g g' => by rw [z] at g; simp at g⟩
  cases draw with
  | false =>
    refine wp_region ?_
    have h := line_tail (w0 := w) T (Nat.le_refl _) steps fr hfr hnd fin' ops.size 0 (Array.replicate ops.size false) a0 w (by omega) (by omega) ⟨rfl, rfl, fun _ _ => rfl⟩ (Below.refl _ _) (fun j o d hj => by omega) (by simp) (fun j hj => by omega) (S0 w)
    rw [List.range_eq_range']
    exact h
  | true =>
    refine wp_region_any hm ?_
    refine any_tail (w0 := w) T (Nat.le_refl _) steps fr hfr hnd fin' ops.size _ a0 _ ?_ ⟨⟨rfl, rfl, fun _ _ => rfl⟩, (Below.refl _ _).drew, ?_, ?_, by simp⟩ (S0 _) (fun j _ => z j) (by omega)
    · have : ∀ m, left (Array.replicate ops.size false) m ≤ m := by
        intro m
        induction m with
        | zero => exact Nat.le_refl _
        | succ m ih => unfold left; split <;> omega
      exact this _
    · intro i o d ho hl _
      rw [z] at hl
      simp at hl
    · intro i o ho hl
      rw [z] at hl
      simp at hl
theorem puts_tail {n k : Nat} {draw : Bool} (hT : textTail md draw ops n k = true) (hn : n = a0.tmps.size) {a : Act} (hb : Based ops a0 a) (vs : Nat → Value) (hv : ∀ d, a.tmps.getD d undef = vs d) : a = puts vs a0 ops.toList := by
  have T := textT_of hT
  have hin : ∀ o ∈ ops.toList, ∀ e, o.dst = some e → e < a0.tmps.size := fun o ho e he => by
    obtain ⟨i, hi⟩ := List.getElem?_of_mem ho
    have := T.d i o e (by simpa using hi) he
    rw [hn] at this
    exact this
  obtain ⟨s1, s2⟩ := puts_size vs ops.toList a0
  obtain ⟨ta, da⟩ := a
  obtain ⟨h1, h2, h3⟩ := hb
  have e1 : ta = (puts vs a0 ops.toList).tmps := by
    apply Array.ext
    · rw [s1]; exact h2
    · intro i hi hi'
      have g := puts_get vs i ops.toList a0 hin
      have l : ta[i] = ta.getD i undef := by simp [Array.getD_eq_getD_getElem?, hi]
      have r : (puts vs a0 ops.toList).tmps[i] = (puts vs a0 ops.toList).tmps.getD i undef := by simp only [Array.getD_eq_getD_getElem?, Array.getElem?_eq_getElem hi', Option.getD_some]
      rw [l, r, g]
      by_cases c : ops.toList.any (fun o => o.dst == some i) = true
      · rw [if_pos c]; exact hv i
      · rw [if_neg c]
        refine h3 i ?_
        unfold apart
        rw [Array.all_eq_true_iff_forall_mem]
        intro o ho
        have hne : ¬ (o.dst == some i) = true := fun x => c (List.any_eq_true.2 ⟨o, by simpa using ho, x⟩)
        simpa using hne
  have e2 : da = (puts vs a0 ops.toList).defers := h1.trans s2.symm
  subst e1
  subst e2
  rfl
theorem Based.put {a : Act} (hb : Based ops a0 a) {o : Oper} {i : Nat} (ho : ops[i]? = some o) (v : Value) : Based ops a0 (a.put o.dst v) := by
  refine ⟨by rw [put_defers]; exact hb.1, by rw [put_size]; exact hb.2.1, fun d hd => ?_⟩
  rw [put_off]
  · exact hb.2.2 d hd
  · have q := Array.all_eq_true_iff_forall_mem.1 hd o (Array.mem_of_getElem? ho)
    simpa using q
end
end Go.Proofs.Ythkhfljoflffpaa

/-
  The law by facts for a region that draws its order, with guarded operations that all are wanted. No program in sight.
-/
namespace Go.Proofs.Ythkhfljoflffpaa
open Go Go.RowKit

section
variable {P : Program} {ops : Array Oper} {Q : Exit → Act → World → Prop} {md : Region.Mode} {F : Nat → Fact} {a0 : Act} {w0 : World}

def textEnd (md : Region.Mode) (ops : Array Oper) (n : Nat) : Bool :=
  (ops.all fun o => match o.dst with | some d => decide (d < n) | none => true)
  && ((List.range ops.size).all fun i => match ops[i]? with
    | some o => o.after.all (fun e => !Region.binds md e || decide (e.on < i)) && (List.range i).all fun j => match ops[j]? with
      | some x => x.dst.isNone || o.dst != x.dst
      | none => true
    | none => true)
structure TextE (md : Region.Mode) (ops : Array Oper) (n : Nat) : Prop where
  d : ∀ (i : Nat) o d, ops[i]? = some o → o.dst = some d → d < n
  a : ∀ (i : Nat) o, ops[i]? = some o → ∀ e ∈ o.after, Region.binds md e = true → e.on < i
  x : ∀ (i j : Nat) o o' d, ops[i]? = some o → ops[j]? = some o' → i ≠ j → o.dst = some d → o'.dst ≠ some d
theorem textE_of {n : Nat} (h : textEnd md ops n = true) : TextE md ops n := by
  unfold textEnd at h
  simp only [Bool.and_eq_true] at h
  obtain ⟨h1, h2⟩ := h
  rw [Array.all_eq_true_iff_forall_mem] at h1
  rw [List.all_eq_true] at h2
  have H : ∀ (i j : Nat) o o' d, j < i → ops[i]? = some o → ops[j]? = some o' → o.dst = some d → o'.dst ≠ some d := by
    intro i j o o' d hij hi hj hd hd'
    have q := h2 i (List.mem_range.2 (Array.getElem?_eq_some_iff.1 hi).1)
    simp only [hi, Bool.and_eq_true] at q
    have r := List.all_eq_true.1 q.2 j (List.mem_range.2 hij)
    simp only [hj, hd, hd'] at r
    simp at r
  refine ⟨?_, ?_, ?_⟩
  · intro i o d ho hd
    have q := h1 o (Array.mem_of_getElem? ho)
    simpa [hd] using q
  · intro i o ho e he hb
    have q := h2 i (List.mem_range.2 (Array.getElem?_eq_some_iff.1 ho).1)
    simp only [ho, Bool.and_eq_true] at q
    have r := (Array.all_eq_true_iff_forall_mem.1 q.1) e he
    rw [hb] at r
    simpa using r
  · intro i j o o' d hi hj hij hd hd'
    rcases Nat.lt_or_gt_of_ne hij with h | h
    · exact H j i o' o d h hj hi hd' hd
    · exact H i j o o' d h hi hj hd hd'
theorem Held.nextE {n : Nat} (T : TextE md ops n) (hn : n ≤ a0.tmps.size) {listed : Array Bool} {a : Act} {w : World} (H : Held md ops F a0 w0 listed a w) {i : Nat} {o : Oper} (ho : ops[i]? = some o) (hr : i ∈ Region.ready md ops listed)
    {v : Value} {w' : World} (hw : Below w.heap.size w w') (hf : (F i).p v w') : Held md ops F a0 w0 (listed.setIfInBounds i true) (a.put o.dst v) w' := by
  have hi : i < ops.size := (Array.getElem?_eq_some_iff.1 ho).1
  have hz : a.tmps.size = a0.tmps.size := H.b.2.1
  refine ⟨⟨by rw [put_defers]; exact H.b.1, by rw [put_size]; exact hz, fun d hd => ?_⟩, nxt H.n hw, ?_, ?_, by simp [H.s]⟩
  · rw [put_off]
    · exact H.b.2.2 d hd
    · have q := Array.all_eq_true_iff_forall_mem.1 hd o (Array.mem_of_getElem? ho)
      simpa using q
  · intro j oj d hoj hj hd
    by_cases e : i = j
    · subst e
      obtain rfl := Option.some.inj (ho.symm.trans hoj)
      rw [hd, put_at (Nat.lt_of_lt_of_le (T.d i o d ho hd) (hz ▸ hn))]
      exact hf
    · rw [getD_off e] at hj
      rw [put_off (T.x j i oj o d hoj ho (Ne.symm e) hd)]
      exact (F j).up hw (H.f j oj d hoj hj hd)
  · intro j oj hoj hj e he hb
    obtain ⟨_, o', ho', q⟩ := mem_ready.1 hr
    by_cases c : i = e.on
    · rw [← c]
      exact getD_same (by rw [H.s]; exact hi) _
    · rw [getD_off c]
      by_cases e' : i = j
      · subst e'
        obtain rfl := Option.some.inj (ho'.symm.trans hoj)
        exact q e he hb
      · rw [getD_off e'] at hj
        exact H.c j oj hoj hj e he hb
theorem any_end {n : Nat} (T : TextE md ops n) (hn : n ≤ a0.tmps.size) (steps : ∀ i, i < ops.size → StepOk P md ops Q F a0 w0 i)
    (hg : ∀ i o, ops[i]? = some o → ∀ (a : Act) (w : World), (∀ j d, waits md ops i j d = true → (F j).p (a.tmps.getD d undef) w) → Region.wanted o (yielded ops a.tmps) = true)
    (fin : ∀ a w, Based ops a0 a → Below w0.heap.size w0 w → (∀ i o d, ops[i]? = some o → o.dst = some d → (F i).p (a.tmps.getD d undef) w) → Q .normal a w) :
    ∀ (fuel : Nat) (listed : Array Bool) (a : Act) (w : World), left listed ops.size ≤ fuel → Held md ops F a0 w0 listed a w → wpAny P md ops Q fuel listed a w := by
  have done : ∀ (fuel : Nat) (listed : Array Bool) (a : Act) (w : World), Held md ops F a0 w0 listed a w → (∀ i, i < ops.size → listed.getD i false = true) → wpAny P md ops Q fuel listed a w := by
    intro fuel listed a w H hall
    refine wpAny_done ?_ (fin a w H.b H.n (fun i o d ho hd => H.f i o d ho (hall i (Array.getElem?_eq_some_iff.1 ho).1) hd)) fuel
    cases hr : Region.ready md ops listed with
    | nil => rfl
    | cons i t =>
      exfalso
      have hi : i ∈ Region.ready md ops listed := by rw [hr]; simp
      obtain ⟨h0, o, ho, _⟩ := mem_ready.1 hi
      have hlt := (Array.getElem?_eq_some_iff.1 ho).1
      rw [dflt (by rw [H.s]; exact hlt), hall i hlt] at h0
      simp at h0
  intro fuel
  induction fuel with
  | zero =>
    intro listed a w hl H
    exact done 0 listed a w H fun i hi => by
      rw [← dflt (by rw [H.s]; exact hi)]
      exact left_zero (n := ops.size) (by omega) i hi
  | succ fuel ih =>
    intro listed a w hl H
    by_cases hall : ∀ i, i < ops.size → listed.getD i false = true
    · exact done _ listed a w H hall
    · refine ⟨fun hr => ?_, fun i hi => ?_⟩
      · exfalso
        refine hall fun j hj => ?_
        have : ∀ m i, i < m → i < ops.size → listed.getD i false = true := by
          intro m
          induction m with
          | zero => intro i hi; omega
          | succ m ihm =>
            intro i hi hik
            rcases Nat.lt_or_ge i m with h1 | h1
            · exact ihm i h1 hik
            · obtain rfl : i = m := by omega
              cases hc : listed.getD i false
              · exfalso
                obtain ⟨o, ho⟩ : ∃ o, ops[i]? = some o := ⟨ops[i], by simp [hik]⟩
                have hr' : i ∈ Region.ready md ops listed := mem_ready.2 ⟨by rw [dflt (by rw [H.s]; omega)]; exact hc, o, ho, fun e he hb => ihm e.on (T.a i o ho e he hb) (by have := T.a i o ho e he hb; omega)⟩
                rw [hr] at hr'
                simp at hr'
              · rfl
        exact this (j + 1) j (by omega) hj
      · obtain ⟨h0, o, ho, hready⟩ := mem_ready.1 hi
        have hlt := (Array.getElem?_eq_some_iff.1 ho).1
        have hfacts : ∀ j d, waits md ops i j d = true → (F j).p (a.tmps.getD d undef) w := by
          intro j d hjd
          unfold waits at hjd
          rw [ho] at hjd
          cases hoj : ops[j]? with
          | none => rw [hoj] at hjd; simp at hjd
          | some oj =>
            rw [hoj] at hjd
            simp only [Bool.and_eq_true, beq_iff_eq] at hjd
            obtain ⟨e, he, hb⟩ := Array.any_eq_true'.1 hjd.1
            simp only [Bool.and_eq_true, beq_iff_eq] at hb
            exact H.f j oj d hoj (by rw [← hb.2]; exact hready e he hb.1) hjd.2
        have hwant := hg i o ho a w hfacts
        refine wpOp_step ho fun K' hK => ?_
        rw [if_pos hwant]
        have hll := left_set (by rw [H.s]; exact hlt) h0 ops.size hlt
        refine steps i hlt o ho a w H.b H.n hfacts K' fun v w' hw hf => ?_
        exact hK _ _ (ih _ _ _ (by omega) (H.nextE T hn ho hi hw hf))
/-- The same for the region. -/
theorem region_guard {id : Nat} {w : World} (F : Nat → Fact) (hm : P.follows .mixedOrders = true) (hT : textEnd .any ops a0.tmps.size = true) (steps : ∀ i, i < ops.size → StepOk P .any ops Q F a0 w i)
    (hg : ∀ i o, ops[i]? = some o → ∀ (a : Act) (w : World), (∀ j d, waits .any ops i j d = true → (F j).p (a.tmps.getD d undef) w) → Region.wanted o (yielded ops a.tmps) = true)
    (fin : ∀ a W, Based ops a0 a → Below w.heap.size w W → (∀ i d, writes ops i d = true → (F i).p (a.tmps.getD d undef) W) → Q .normal a W) : (Code.region id ops true).wp P Q a0 w := by
  have T := textE_of hT
  have z : ∀ j, (Array.replicate ops.size false).getD j false = false := fun j => by
    rw [Array.getD_eq_getD_getElem?, Array.getElem?_replicate]
    split <;> rfl
  refine wp_region_any hm ?_
  refine any_end (w0 := w) T (Nat.le_refl _) steps hg (fun a W hb hw hf => fin a W hb hw (fun i d hd => ?_)) ops.size _ a0 _ ?_ ⟨⟨rfl, rfl, fun _ _ => rfl⟩, (Below.refl _ _).drew, ?_, ?_, by simp⟩
  · obtain ⟨o, ho, hd'⟩ := writes_is hd
    exact hf i o d ho hd'
  · have : ∀ m, left (Array.replicate ops.size false) m ≤ m := by
      intro m
      induction m with
      | zero => exact Nat.le_refl _
      | succ m ih => unfold left; split <;> omega
    exact this _
  · intro i o d ho hl _
    rw [z] at hl
    simp at hl
  · intro i o ho hl
    rw [z] at hl
    simp at hl
theorem wanted_none {o : Oper} {a : Act} (h : o.guard = none) : Region.wanted o (yielded ops a.tmps) = true := by simp [Region.wanted, h]
theorem wanted_some {o : Oper} {a : Act} {g d : Nat} {v : Bool} (h : o.guard = some (g, v)) (hd : writes ops g d = true) (e : a.tmps.getD d undef = .bool v) : Region.wanted o (yielded ops a.tmps) = true := by
  obtain ⟨og, ho, hd'⟩ := writes_is hd
  have e1 : a.tmps[d]? = some (.bool v) := by
    rw [Array.getD_eq_getD_getElem?] at e
    cases hq : a.tmps[d]? with
    | none => rw [hq] at e; simp [undef] at e
    | some x => rw [hq] at e; simpa using e
  simp [Region.wanted, h, yielded, ho, hd', e1]
theorem puts_guard {n : Nat} (hT : textEnd md ops n = true) (hn : n = a0.tmps.size) {a : Act} (hb : Based ops a0 a) (vs : Nat → Value) (hv : ∀ d, a.tmps.getD d undef = vs d) : a = puts vs a0 ops.toList := by
  have T := textE_of hT
  have hin : ∀ o ∈ ops.toList, ∀ e, o.dst = some e → e < a0.tmps.size := fun o ho e he => by
    obtain ⟨i, hi⟩ := List.getElem?_of_mem ho
    have := T.d i o e (by simpa using hi) he
    rw [hn] at this
    exact this
  obtain ⟨s1, s2⟩ := puts_size vs ops.toList a0
  obtain ⟨ta, da⟩ := a
  obtain ⟨h1, h2, h3⟩ := hb
  have e1 : ta = (puts vs a0 ops.toList).tmps := by
    apply Array.ext
    · rw [s1]; exact h2
    · intro i hi hi'
      have g := puts_get vs i ops.toList a0 hin
      have l : ta[i] = ta.getD i undef := by simp [Array.getD_eq_getD_getElem?, hi]
      have r : (puts vs a0 ops.toList).tmps[i] = (puts vs a0 ops.toList).tmps.getD i undef := by simp only [Array.getD_eq_getD_getElem?, Array.getElem?_eq_getElem hi', Option.getD_some]
      rw [l, r, g]
      by_cases c : ops.toList.any (fun o => o.dst == some i) = true
      · rw [if_pos c]; exact hv i
      · rw [if_neg c]
        refine h3 i ?_
        unfold apart
        rw [Array.all_eq_true_iff_forall_mem]
        intro o ho
        have hne : ¬ (o.dst == some i) = true := fun x => c (List.any_eq_true.2 ⟨o, by simpa using ho, x⟩)
        simpa using hne
  have e2 : da = (puts vs a0 ops.toList).defers := h1.trans s2.symm
  subst e1
  subst e2
  rfl
end
end Go.Proofs.Ythkhfljoflffpaa

/-
  Regions by facts: values that are known, calls that only read. (The steps are written by regv.py.)
-/
namespace Go.Proofs.Ythkhfljoflffpaa
open Go Go.RowKit

def Fact.eq (v0 : Value) : Fact := ⟨fun v _ => v = v0, fun _ h => h⟩
def Fact.no : Fact := ⟨fun _ _ => True, fun _ h => h⟩
theorem gdv {a : Act} {p : Nat} {v : Value} (h : a.tmps.getD p undef = v) : a.tmps[p]?.getD undef = v := by rw [← h]; simp

section
variable {P : Program} {ops : Array Oper} {Q : Exit → Act → World → Prop} {md : Region.Mode} {F : Nat → Fact} {a0 : Act} {w0 : World}
def Facts (md : Region.Mode) (ops : Array Oper) (F : Nat → Fact) (i : Nat) (a : Act) (w : World) : Prop := ∀ j d, waits md ops i j d = true → (F j).p (a.tmps.getD d undef) w
theorem step_pure {i : Nat} {o : Oper} (hi : ops[i]? = some o)
    (G : ∀ a w, Based ops a0 a → Below w0.heap.size w0 w → Facts md ops F i a w → ∃ v, (execOp a.eval o).run P w = .ok (.value v) w ∧ (F i).p v w) : StepOk P md ops Q F a0 w0 i := by
  intro o' ho' a w hb hw hf K hK
  obtain rfl := Option.some.inj (hi.symm.trans ho')
  obtain ⟨v, hr, hv⟩ := G a w hb hw hf
  unfold Oper.wp
  rw [hr]
  exact hK v w (Below.refl _ _) hv
/-- Something is made. -/
theorem step_grow {i : Nat} {o : Oper} (hi : ops[i]? = some o)
    (G : ∀ a w, Based ops a0 a → Below w0.heap.size w0 w → Facts md ops F i a w → ∃ v w', (execOp a.eval o).run P w = .ok (.value v) w' ∧ Below w.heap.size w w' ∧ (F i).p v w') : StepOk P md ops Q F a0 w0 i := by
  intro o' ho' a w hb hw hf K hK
  obtain rfl := Option.some.inj (hi.symm.trans ho')
  obtain ⟨v, w', hr, hn, hv⟩ := G a w hb hw hf
  unfold Oper.wp
  rw [hr]
  exact hK v w' hn hv
theorem step_load {i : Nat} {o : Oper} (hi : ops[i]? = some o) (ty : TypeId) (x : Operand) (hop : o.op = .load ty x) (d : TypeDesc) (n : Nat) (hu : P.underlying ty = some d) (hd : d.isRow = true) (hs : (P.info? ty).map (·.size) = some n)
    (G : ∀ a w, Based ops a0 a → Below w0.heap.size w0 w → Facts md ops F i a w → ∃ b off cs, a.eval x = .pointer (some ⟨b, off, none⟩) ∧ w.rangeAt b off cs ∧ cs.length = n ∧ (F i).p (.agg cs.toArray) w) : StepOk P md ops Q F a0 w0 i := by
  intro o' ho' a w hb hw hf K hK
  obtain rfl := Option.some.inj (hi.symm.trans ho')
  obtain ⟨b, off, cs, hx, hc, hl, hv⟩ := G a w hb hw hf
  exact wp_load_mid ty x hop b off hx cs d hc hu hd (by rw [hl]; exact hs) (hK _ _ (Below.refl _ _) hv)
/-- A function of the program with a body. -/
def enters (P : Program) (n : FuncId) : Bool :=
  match P.funcs[n]? with
  | some fn => !(fn.name == "runtime.NumGoroutine") && fn.body.isSome
  | none => false
theorem run_enter {n : FuncId} (h : enters P n = true) (args : Array Value) (w : World) : (callFunc n args).run P w = .ok (.enter n args) w := by
  unfold enters at h
  cases hq : P.funcs[n]? with
  | none => rw [hq] at h; simp at h
  | some fn =>
    rw [hq] at h
    simp only [Bool.and_eq_true, Bool.not_eq_true'] at h
    have h2 : fn.body ≠ none := fun e => by rw [e] at h; simp at h
    have h1 : ¬ fn.name = "runtime.NumGoroutine" := by simpa using h.1
    simp [callFunc, hq, h1, h2]
theorem step_callv {i : Nat} {o : Oper} (hi : ops[i]? = some o) (n : FuncId) (args : Array Operand) (ts : Array TypeId) (hop : o.op = .call { callee := .value (.func n), args := args, argTypes := ts }) (he : enters P n = true)
    (G : ∀ a w, Based ops a0 a → Below w0.heap.size w0 w → Facts md ops F i a w → Calls P n (args.toList.map a.eval).toArray w fun e w' => ∃ v, e = .returned v ∧ Below w.heap.size w w' ∧ (F i).p v w') : StepOk P md ops Q F a0 w0 i := by
  intro o' ho' a w hb hw hf K hK
  obtain rfl := Option.some.inj (hi.symm.trans ho')
  have hr : (execOp a.eval o).run P w = .ok (.enter n (args.map a.eval)) w := by
    have h0 : (Deferred.ofValue (Value.func (Fn.func n) #[] #[]) (args.map a.eval)).run P w = .ok { target := .fn (.func n) #[], args := args.map a.eval } w := by simp [Deferred.ofValue]
    simp [execOp, hop, resolve, invoke, Act.eval, h0, run_enter he]
  have e : args.map a.eval = (args.toList.map a.eval).toArray := by cases args; simp
  unfold Oper.wp
  rw [hr, e, Oper.upon_enter]
  refine (G a w hb hw hf).mono ?_
  rintro e w' ⟨v, rfl, hn, hv⟩
  exact hK v w' hn hv
/-- A region that ends with the storing of a row of known cells, at a place that is known. -/
theorem region_put {id : Nat} {draw : Bool} {w : World} (k jD jV pD pV : Nat) (o : Oper) (F : Nat → Fact) (q off : Nat) (ty : TypeId) (cells : List Value) (hm : P.follows .mixedOrders = true) (hT : textOk .any ops a0.tmps.size k = true) (hk : ops[k]? = some o) (hd : o.dst = none)
    (hop : o.op = .store ty (.tmp pD) (.tmp pV)) (wD : writes ops jD pD = true) (FD : F jD = Fact.eq (.pointer (some ⟨q, off, none⟩))) (wV : writes ops jV pV = true) (FV : F jV = Fact.eq (.agg cells.toArray))
    (hth : ∀ W, Below w.heap.size w W → W.there q off cells.length) (hi : (P.info? ty).map (·.size) = some cells.length) (h1 : cells.toArray.all (·.oneCell') = true) (steps : ∀ i, i < k → StepOk P .any ops Q F a0 w i)
    (fin : ∀ (vs : Nat → Value) (W : World), Below w.heap.size w W → Q .normal (puts vs a0 ops.toList) (W.setCells q off cells)) : (Code.region id ops draw).wp P Q a0 w := by
  refine region_store k o F hm hT hk hd steps fun a W hb hw hF => ?_
  have e1 := hF jD pD wD
  have e2 := hF jV pV wV
  rw [FD] at e1
  rw [FV] at e2
  refine wp_store_mid ty (.tmp pD) (.tmp pV) hop q off cells.toArray e1 e2 (by rw [List.size_toArray]; exact hth W hw) (by rw [List.size_toArray]; exact hi) h1 ?_
  obtain ⟨vs, hvs⟩ : ∃ vs : Nat → Value, ∀ d, a.tmps.getD d undef = vs d := ⟨_, fun _ => rfl⟩
  rw [hd]
  show Q .normal a _
  rw [puts_of hT rfl hb vs hvs]
  exact fin vs W hw
theorem based_at {a : Act} (hb : Based ops a0 a) (p : Nat) (hp : apart ops p = true) : a.eval (.tmp p) = a0.tmps.getD p undef := hb.2.2 p hp
end
end Go.Proofs.Ythkhfljoflffpaa

/-
  Steps of regions by facts: picks, lists that may be read.
-/
namespace Go.Proofs.Ythkhfljoflffpaa
open Go Go.RowKit

theorem step_pickF {ops : Array Oper} {Q : Exit → Act → World → Prop} {md : Region.Mode} {F : Nat → Fact} {a0 : Act} {w0 : World} {i : Nat} {o : Oper} {P : Program} (hi : ops[i]? = some o) (p q j k : Nat) {v : Value} {x : Value} (hop : o.op = .pick (.tmp p) (.const x) (.tmp q)) (hj : waits md ops i j p = true) (hk : waits md ops i k q = true) (hFj : F j = Fact.eq (.bool false)) (hFk : F k = Fact.eq v) (hFi : F i = Fact.eq v) : StepOk P md ops Q F a0 w0 i := by
  refine step_pure hi fun a w _ _ hf => ⟨v, ?_, by rw [hFi]; exact rfl⟩
  have h1 := hf j p hj
  have h2 := hf k q hk
  rw [hFj] at h1
  rw [hFk] at h2
  have g1 : a.eval (.tmp p) = .bool false := h1
  have g2 : a.eval (.tmp q) = v := h2
  have g3 : a.eval (.const x) = x := rfl
  simp only [execOp, hop, g1, g2, g3]
  rfl
/-- A list that may be read. -/
def RDn (ys : List Int) : Fact := ⟨fun v w => ∃ (a : Option Addr) (c g : Nat), v = .slice a ys.length c ∧ Rd w g a .u8 ys, fun n h => by
  obtain ⟨a, c, g, e, r⟩ := h
  exact ⟨a, c, g, e, r.up n⟩⟩
/-- A list that was made from block B on. -/
def RWn (B : Nat) (ys : List Int) : Fact := ⟨fun v w => ∃ (a : Option Addr) (c g : Nat), v = .slice a ys.length c ∧ Own w g a .u8 ys ∧ (a = none → c = 0) ∧ ys.length ≤ c ∧ B ≤ g, fun n h => by
  obtain ⟨a, c, g, e, r, k⟩ := h
  exact ⟨a, c, g, e, r.up n, k⟩⟩
/-- Where a part of a list begins. -/
def cutP (g o c t : Nat) : Option Addr := if c = t then some ⟨g, o, none⟩ else some ⟨g, o + t, none⟩
theorem cutP_some (g o c t : Nat) : cutP g o c t ≠ none := by unfold cutP; split <;> simp
theorem rd_cutP {w : World} {g o c : Nat} {xs : List Int} (h : Rd w g (some ⟨g, o, none⟩) .u8 xs) (hc : xs.length ≤ c) (t n : Nat) : Rd w g (cutP g o c t) .u8 ((xs.drop t).take n) := by
  unfold cutP
  split
  · rw [List.drop_eq_nil_of_le (by omega), List.take_nil]
    exact Rd.nil _ _ _ _
  · by_cases hl : t < xs.length
    · obtain ⟨o', e, r⟩ := h.dropA t hl
      cases e
      exact r.takeA n
    · rw [List.drop_eq_nil_of_le (by omega), List.take_nil]
      exact Rd.nil _ _ _ _
section
variable {P : Program} {ops : Array Oper} {Q : Exit → Act → World → Prop} {a0 : Act}
/-- A region that ends with the storing of a row at a place that was known ahead of it. -/
theorem region_putB {id : Nat} {draw : Bool} {w : World} (k pD jV pV : Nat) (o : Oper) (F : Nat → Fact) (q N : Nat) (ty : TypeId) (R : List Value → World → Prop) (hm : P.follows .mixedOrders = true) (hT : textOk .any ops a0.tmps.size k = true) (hk : ops[k]? = some o) (hd : o.dst = none)
    (hop : o.op = .store ty (.tmp pD) (.tmp pV)) (aD : apart ops pD = true) (eD : a0.tmps.getD pD undef = .pointer (some ⟨q, 0, none⟩)) (wV : writes ops jV pV = true)
    (FV : ∀ v W, (F jV).p v W → ∃ cells : List Value, v = .agg cells.toArray ∧ cells.length = N ∧ cells.toArray.all (·.oneCell') = true ∧ R cells W)
    (hth : ∀ W, Below w.heap.size w W → W.there q 0 N) (hi : (P.info? ty).map (·.size) = some N) (steps : ∀ i, i < k → StepOk P .any ops Q F a0 w i)
    (fin : ∀ (vs : Nat → Value) (W : World) (cells : List Value), Below w.heap.size w W → R cells W → Q .normal (puts vs a0 ops.toList) (W.setCells q 0 cells)) : (Code.region id ops draw).wp P Q a0 w := by
  refine region_store k o F hm hT hk hd steps fun a W hb hw hF => ?_
  obtain ⟨cells, e2, hl, h1, hR⟩ := FV _ _ (hF jV pV wV)
  have e1 : a.eval (.tmp pD) = .pointer (some ⟨q, 0, none⟩) := (hb.2.2 pD aD).trans eD
  refine wp_store_mid ty (.tmp pD) (.tmp pV) hop q 0 cells.toArray e1 e2 (by rw [List.size_toArray, hl]; exact hth W hw) (by rw [List.size_toArray, hl]; exact hi) h1 ?_
  obtain ⟨vs, hvs⟩ : ∃ vs : Nat → Value, ∀ d, a.tmps.getD d undef = vs d := ⟨_, fun _ => rfl⟩
  rw [hd]
  show Q .normal a _
  rw [puts_of hT rfl hb vs hvs]
  exact fin vs W cells hw hR
end
end Go.Proofs.Ythkhfljoflffpaa

/-
  The model's DecodeItem.
-/
namespace Go.Proofs.Ythkhfljoflffpaa
open Go Go.RowKit

/-- What the answer is, where nothing was read. -/
theorem dit_none {xs : List Int} {i : Int} (h : itZ xs i = none) : diT (itZ xs i) = false ∧ dtT (itZ xs i) = 0 ∧ dbT xs (itZ xs i) = [] ∧ dnT (itZ xs i) = 0 := by rw [h]; exact ⟨rfl, rfl, rfl, rfl⟩
theorem newT_none (B : Nat) (w : World) {xs : List Int} {i : Int} (h : itZ xs i = none) : NewT B w (.returned (.agg #[.bool false, .int .i64 0, .slice none 0 0, .int .i64 0])) (diT (itZ xs i)) (dtT (itZ xs i)) (dbT xs (itZ xs i)) (dnT (itZ xs i)) := by
  rw [h]
  exact ⟨none, 0, B, rfl, Own.nil _ _ _ _, fun _ => rfl, Nat.le_refl _, Nat.le_refl _⟩

set_option maxHeartbeats 2000000 in
theorem specDecodeItem_any (w : World) (g : Nat) (a : Option Addr) (c : Nat) (xs : List Int) (i : Int) (hr : Rd w g a .u8 xs) (hb : Byt xs) (hc : xs.length ≤ c) (hn : xs.length ≤ 1048576) :
    Calls Try.prog 12 #[.slice a xs.length c, .int .i64 i] w fun e w' => NewT w.heap.size w' e (diT (itZ xs i)) (dtT (itZ xs i)) (dbT xs (itZ xs i)) (dnT (itZ xs i)) ∧ Below w.heap.size w w' := by
  have n0 : Below w.heap.size w (w.alloc (.cells #[.bool false, .int .i64 0, .slice none 0 0, .int .i64 0] 38)) := (Below.refl _ _).alloc (Nat.le_refl _) _
  have T0 := Fo.new w (.bool false) (.int .i64 0) (.slice none 0 0) (.int .i64 0) 38
  by_cases hi : i < 0
  · have IZ := hide (itZ_out (xs := xs) (i := i) (by omega))
    have t1 : decide (i < 0) = true := decide_eq_true hi
    go_enter Try.func12, Try.ntmps12
    go_wp2
    exact bodyPost_ret (v := .agg #[.bool false, .int .i64 0, .slice none 0 0, .int .i64 0]) (by simp [results, Try.results12, go_sem]) rfl ⟨newT_none _ _ IZ.out, n0⟩
  · have t1 : decide (i < 0) = false := decide_eq_false hi
    by_cases hl : (xs.length : Int) ≤ i
    · have IZ := hide (itZ_out (xs := xs) (i := i) (by omega))
      have t2 : decide ((xs.length : Int) ≤ i) = true := decide_eq_true hl
      go_enter Try.func12, Try.ntmps12
      go_wp2
      exact bodyPost_ret (v := .agg #[.bool false, .int .i64 0, .slice none 0 0, .int .i64 0]) (by simp [results, Try.results12, go_sem]) rfl ⟨newT_none _ _ IZ.out, n0⟩
    · have t2 : decide ((xs.length : Int) ≤ i) = false := decide_eq_false hl
      obtain ⟨k, rfl⟩ := Int.eq_ofNat_of_zero_le (show 0 ≤ i by omega)
      have ZA : Hid (itZ xs (k : Int) = itA xs k) := by show itZ xs (k : Int) = _; unfold itZ; rw [if_pos (by omega)]; rfl
      obtain ⟨off, rfl, hcell⟩ := hr (by omega)
      have hk : k < xs.length := by omega
      have gl := hr.lt (by omega)
      have ck := (n0.cell (p := ⟨g, off + k, none⟩) gl).trans (hcell k hk)
      have kl : (k : Int) < (xs.length : Int) := by omega
      by_cases hx : xs.getD k 0 = 0
      · have IZ : Hid (itZ xs (k : Int) = none) := by show itZ xs (k : Int) = none; rw [ZA.out]; exact itA_zero hx
        rw [hx] at ck
        clear hcell hx
        go_enter Try.func12, Try.ntmps12
        go_wp2
        exact bodyPost_ret (v := .agg #[.bool false, .int .i64 0, .slice none 0 0, .int .i64 0]) (by simp [results, Try.results12, go_sem]) rfl ⟨newT_none _ _ IZ.out, n0⟩
      · have b0 := hb k
        obtain ⟨R, hR⟩ : ∃ R, R = xs.drop k := ⟨_, rfl⟩
        have RB : Byt R := fun j => by rw [hR, getD_dropA]; exact hb _
        have RL : R.length = xs.length - k := by rw [hR, List.length_drop]
        have MT := fun j h2 hj hm => hide (itA_mt hb hk hx (k := j) h2 hj hm)
        have NO := fun h => hide (itA_no hb (i := k) h)
        simp only [← hR] at MT NO
        have RR : Rd w g (some ⟨g, off + k, none⟩) .u8 R := by
          obtain ⟨o, e, h⟩ := hr.dropA k hk
          cases e
          rw [hR]
          exact h
        have t3 : decide (xs.getD k 0 = 0) = false := decide_eq_false hx
        have t4 : (xs.getD k 0 == 0) = false := by simpa using hx
        have HX := hide hx
        have HR := hide hR
        clear hx hR hcell
        generalize hxk : xs.getD k 0 = x at *
        have HXK := hide hxk
        clear hxk
        have HX0 : Hid (R.getD 0 0 = x) := by show R.getD 0 0 = x; rw [HR.out, getD_dropA]; exact HXK.out
        obtain ⟨L, hL⟩ : ∃ L, L = R.length := ⟨_, rfl⟩
        have L1 : xs.length - k = L := by omega
        obtain ⟨D, hD⟩ : ∃ D, c - k = D := ⟨_, rfl⟩
        have LD : L ≤ D := by omega
        have kc : ¬ (c = k) := by omega
        have kcc : (k : Int) ≤ (c : Int) := by omega
        have kll : (k : Int) ≤ (xs.length : Int) := by omega
        have HL := hide hL
        have HRL := hide RL
        clear hL RL
        go_enter Try.func12, Try.ntmps12
        go_wp2
        go_loopw [6] (fun v wr => ∃ j : Nat, 2 ≤ j ∧ j ≤ 5 ∧ v = .int .i64 (j : Int) ∧ Hid (∀ m, 2 ≤ m → m < j → m ≤ R.length → mtK R m = false) ∧ Fo wr w.heap.size (.bool false) (.int .i64 0) (.slice none 0 0) (.int .i64 0) ∧ Below w.heap.size w wr) (fun v _ => 5 - (intOf v).toNat)
        case atStart => exact ⟨2, by omega, by omega, rfl, fun m h2 hm => absurd h2 (by omega), T0, n0⟩
        case round =>
          obtain ⟨j, j2, j5, rfl, hno, T, N⟩ := hrel
          have gw : g < wr.heap.size := by have := N.size; omega
          have c0 := T.c0
          have c1 := T.c1
          have c2 := T.c2
          have c3 := T.c3
          have f0 := T.fr 0
          have f1 := T.fr 1
          have f2 := T.fr 2
          have f3 := T.fr 3
          have cR : Hid (∀ m, m < L → wr.cell? ⟨g, off + k + m, none⟩ = some (.int .u8 (R.getD m 0))) := fun m hm => by
            obtain ⟨o, e, h⟩ := (RR.up N) (by rw [← HL.out]; omega)
            cases e
            exact h m (by rw [← HL.out]; exact hm)
          have TZ := T.set (.bool false) (.int .i64 0) (.slice none 0 0) (.int .i64 0)
          have NZ : Below w.heap.size w (set4 wr w.heap.size (.bool false) (.int .i64 0) (.slice none 0 0) (.int .i64 0)) := N.trans ((only_set4 _ _ _ _ _ _).below (Nat.le_refl _))
          obtain rfl | rfl | rfl | rfl : j = 2 ∨ j = 3 ∨ j = 4 ∨ j = 5 := by omega
          · rw [show ((2 : Nat) : Int) = 2 from rfl]
            by_cases hLj : L < 2
            · have IZ : Hid (itZ xs (k : Int) = none) := by show itZ xs (k : Int) = none; rw [ZA.out]; exact (NO fun m h2 h4 hm => by rw [← HL.out] at hm; exact hno.out m h2 (by omega) (by rw [← HL.out]; exact hm)).out
              have u1 : decide ((L : Int) < 2) = true := by simp; omega
              clear cR hno MT NO
              go_wp2
              change bodyPost _ _ _ _ _ (set4 wr w.heap.size (.bool false) (.int .i64 0) (.slice none 0 0) (.int .i64 0))
              exact bodyPost_ret (v := .agg #[.bool false, .int .i64 0, .slice none 0 0, .int .i64 0]) (by simp [results, Try.results12, go_sem, TZ.c0, TZ.c1, TZ.c2, TZ.c3]) rfl ⟨newT_none _ _ IZ.out, NZ⟩
            · have u1 : decide ((L : Int) < 2) = false := by simp; omega
              have lj : 2 ≤ L := by omega
              have r0 := cR.out 0 (by omega)
              rw [Nat.add_zero, HX0.out] at r0
              have r1 := cR.out 1 (by omega)
              have b1 := RB 1
              have i1 : (1 : Int) < (L : Int) := by omega
              have NE : nK R 2 = (R.getD 1 0).toNat := rfl
              have nb := nK_bd RB 2
              have MM : Hid (mtK R 2 = (decide (2 + nK R 2 ≤ R.length) && decide (lenL (nK R 2) = (R.drop 1).take 1))) := rfl
              have SL : Hid (((R.drop 1).take 1).length = 1) := by show _ = _; rw [List.length_take, List.length_drop, ← HL.out]; omega
              have SR : Rd wr g (some ⟨g, off + k + 1, none⟩) .u8 ((R.drop 1).take 1) := by
                obtain ⟨o, e, h⟩ := (RR.up N).dropA 1 (by rw [← HL.out]; omega)
                cases e
                exact h.takeA _
              have SB : Byt ((R.drop 1).take 1) := fun m => by
                by_cases hm : m < 1
                · rw [getD_takeA _ _ _ hm, getD_dropA]; exact RB _
                · rw [List.getD_eq_getElem?_getD, List.getElem?_eq_none (by rw [SL.out]; omega)]; decide
              have BW : Hid (dbT xs (some (x, k + 2, nK R 2)) = (R.drop 2).take (nK R 2)) := by show (xs.drop (k + 2)).take _ = _; rw [HR.out, List.drop_drop]
              obtain ⟨n, hnn⟩ : ∃ n, n = nK R 2 := ⟨_, rfl⟩
              rw [← hnn] at NE nb MM BW
              have MT' := fun h => hide (MT 2 (by omega) (by rw [← HL.out]; exact lj) h).out
              simp only [← hnn] at MT'
              have NN : R.getD 1 0 = (n : Int) := by omega
              rw [NN] at r1
              clear NE NN hnn b1
              have HNO : Hid (mtK R 2 = false → ∀ m, 2 ≤ m → m < 2 + 1 → m ≤ R.length → mtK R m = false) := fun h m h2 hm hl => by
                by_cases e : m = 2
                · rw [e]; exact h
                · exact hno.out m h2 (by omega) hl
              clear cR hno MT NO
              by_cases hin : 2 + n ≤ L
              · have v1 : decide ((L : Int) < 2 + (n : Int)) = false := by simp; omega
                have LN := fun W => hide (l10Length_any W n nb)
                have LB := lenL_byt n nb
                have SMH : Hid (∀ W g2 a2 c2 cc, Below wr.heap.size wr W → Rd W g2 a2 .u8 (lenL n) → Calls Try.prog 25 #[.slice a2 (lenL n).length c2, .slice (some ⟨g, off + k + 1, none⟩) 1 cc] W fun e w' => e = .returned (.bool (decide (lenL n = (R.drop 1).take 1))) ∧ w' = W) := fun W g2 a2 c2 cc hW h2 => by
                  have := l1Same_any W g2 g a2 (some ⟨g, off + k + 1, none⟩) c2 cc (lenL n) ((R.drop 1).take 1) h2 (SR.up hW) LB SB
                  rwa [SL.out] at this
                have w0 : IntKind.i64.wrap ((2 : Int) + (n : Int)) = (2 : Int) + (n : Int) := by rw [wrap_i64]; omega
                have e1 : (2 : Int) ≤ (L : Int) := by omega
                have ck1 : ¬ (D = 1) := by omega
                have ec : (2 : Int) ≤ (D : Int) := by omega
                by_cases he : lenL n = (R.drop 1).take 1
                · have MTT := MT' (by rw [MM.out, decide_eq_true he, decide_eq_true (by rw [← HL.out]; exact hin)]; rfl)
                  rw [decide_eq_true he] at SMH
                  have IS : Hid (itZ xs (k : Int) = some (x, k + 2, n)) := by show itZ xs (k : Int) = _; rw [ZA.out]; exact MTT.out
                  have BL : Hid (((R.drop 2).take n).length = n) := by show _ = _; rw [List.length_take, List.length_drop, ← HL.out]; omega
                  have RT := fun ww (m : Below wr.heap.size wr ww) => hide (rd_cutP (RR.up (nxt N m)) (c := D) (by rw [← HL.out]; exact LD) 2 n)
                  have CPH : Hid (∀ ww cc, Below wr.heap.size wr ww → Calls Try.prog 27 #[.slice (cutP g (off + k) D 2) n cc] ww fun e w' => NewRow ww.heap.size w' e .u8 ((R.drop 2).take n) ∧ Below ww.heap.size ww w') := fun ww cc m => by
                    have := l1Copy_any ww g _ cc _ (RT ww m).out (fun h => absurd h (cutP_some _ _ _ _)) (by rw [BL.out]; omega)
                    rwa [BL.out] at this
                  clear MT' HNO MM SR SB SL RR TZ NZ he LB RT c0 c1 c2 c3 f0 f1 f2 f3 MTT
                  generalize lenL n = ls at *
                  go_upto_region 13 with fail
                  refine region_guard (fun i => [Fact.eq (.int .i64 2), Fact.eq (.int .i64 (n : Int)), Fact.eq (.int .i64 (2 + (n : Int))), Fact.eq (.slice (some ⟨g, off + k, none⟩) L D), Fact.eq (.int .i64 (L : Int)), Fact.eq (.bool false), Fact.eq (.bool false), Fact.eq (.int .i64 (n : Int)), RDn ls, Fact.eq (.slice (some ⟨g, off + k, none⟩) L D), Fact.eq (.int .i64 2), Fact.eq (.slice (some ⟨g, off + k + 1, none⟩) 1 (D - 1)), Fact.eq (.bool true), Fact.eq (.bool false), Fact.eq (.bool false)].getD i Fact.no) (by kernel_rfl) (by kernel_rfl) ?_ ?_ ?_
                  · intro i hi
                    have hiN : i < 15 := hi
                    obtain rfl | rfl | rfl | rfl | rfl | rfl | rfl | rfl | rfl | rfl | rfl | rfl | rfl | rfl | rfl : i = 0 ∨ i = 1 ∨ i = 2 ∨ i = 3 ∨ i = 4 ∨ i = 5 ∨ i = 6 ∨ i = 7 ∨ i = 8 ∨ i = 9 ∨ i = 10 ∨ i = 11 ∨ i = 12 ∨ i = 13 ∨ i = 14 := by omega
                    · refine step_pure rfl fun a ww hb hw hf => ?_
                      have e6 : a.tmps[6]?.getD undef = .int .i64 2 := gdv (hb.2.2 6 (by kernel_rfl))
                      exact ⟨.int .i64 2, by simp [go_sem, e6], rfl⟩
                    · refine step_pure rfl fun a ww hb hw hf => ?_
                      have e7 : a.tmps[7]?.getD undef = .int .i64 (n : Int) := gdv (hb.2.2 7 (by kernel_rfl))
                      exact ⟨.int .i64 (n : Int), by simp [go_sem, e7], rfl⟩
                    · refine step_pure rfl fun a ww hb hw hf => ?_
                      have e57 : a.tmps[57]?.getD undef = .int .i64 2 := gdv (hf 0 57 (by kernel_rfl))
                      have e58 : a.tmps[58]?.getD undef = .int .i64 (n : Int) := gdv (hf 1 58 (by kernel_rfl))
                      exact ⟨.int .i64 (2 + (n : Int)), by simp [go_sem, e57, e58, w0], rfl⟩
                    · refine step_pure rfl fun a ww hb hw hf => ?_
                      have e5 : a.tmps[5]?.getD undef = .slice (some ⟨g, off + k, none⟩) L D := gdv (hb.2.2 5 (by kernel_rfl))
                      exact ⟨.slice (some ⟨g, off + k, none⟩) L D, by simp [go_sem, e5], rfl⟩
                    · refine step_pure rfl fun a ww hb hw hf => ?_
                      have e60 : a.tmps[60]?.getD undef = .slice (some ⟨g, off + k, none⟩) L D := gdv (hf 3 60 (by kernel_rfl))
                      exact ⟨.int .i64 (L : Int), by simp [go_sem, e60], rfl⟩
                    · refine step_pure rfl fun a ww hb hw hf => ?_
                      have e59 : a.tmps[59]?.getD undef = .int .i64 (2 + (n : Int)) := gdv (hf 2 59 (by kernel_rfl))
                      have e61 : a.tmps[61]?.getD undef = .int .i64 (L : Int) := gdv (hf 4 61 (by kernel_rfl))
                      exact ⟨.bool false, by simp [go_sem, e59, e61, v1], rfl⟩
                    · refine step_pure rfl fun a ww hb hw hf => ?_
                      have e62 : a.tmps[62]?.getD undef = .bool false := gdv (hf 5 62 (by kernel_rfl))
                      exact ⟨.bool false, by simp [go_sem, e62], rfl⟩
                    · refine step_pure rfl fun a ww hb hw hf => ?_
                      have e7 : a.tmps[7]?.getD undef = .int .i64 (n : Int) := gdv (hb.2.2 7 (by kernel_rfl))
                      exact ⟨.int .i64 (n : Int), by simp [go_sem, e7], rfl⟩
                    · refine step_callv rfl 26 _ _ rfl (by kernel_rfl) fun a ww hb hw hf => ?_
                      have e64 : a.tmps.getD 64 undef = .int .i64 (n : Int) := hf 7 64 (by kernel_rfl)
                      show Calls Try.prog 26 #[a.tmps.getD 64 undef] ww _
                      rw [e64]
                      exact (LN ww).out.mono (by rintro r w' ⟨⟨a2, c2, g2, rfl, o2, p2, q2, r2⟩, n2⟩; exact ⟨_, rfl, n2, a2, c2, g2, rfl, o2.rd⟩)
                    · refine step_pure rfl fun a ww hb hw hf => ?_
                      have e5 : a.tmps[5]?.getD undef = .slice (some ⟨g, off + k, none⟩) L D := gdv (hb.2.2 5 (by kernel_rfl))
                      exact ⟨.slice (some ⟨g, off + k, none⟩) L D, by simp [go_sem, e5], rfl⟩
                    · refine step_pure rfl fun a ww hb hw hf => ?_
                      have e6 : a.tmps[6]?.getD undef = .int .i64 2 := gdv (hb.2.2 6 (by kernel_rfl))
                      exact ⟨.int .i64 2, by simp [go_sem, e6], rfl⟩
                    · refine step_pure rfl fun a ww hb hw hf => ?_
                      have e66 : a.tmps[66]?.getD undef = .slice (some ⟨g, off + k, none⟩) L D := gdv (hf 9 66 (by kernel_rfl))
                      have e67 : a.tmps[67]?.getD undef = .int .i64 2 := gdv (hf 10 67 (by kernel_rfl))
                      exact ⟨.slice (some ⟨g, off + k + 1, none⟩) 1 (D - 1), by simp [go_sem, e66, e67, ec, ck1, Addr.add], rfl⟩
                    · refine step_callv rfl 25 _ _ rfl (by kernel_rfl) fun a ww hb hw hf => ?_
                      obtain ⟨a2, c2, g2, e65, r65⟩ := hf 8 65 (by kernel_rfl)
                      have e68 : a.tmps.getD 68 undef = .slice (some ⟨g, off + k + 1, none⟩) 1 (D - 1) := hf 11 68 (by kernel_rfl)
                      show Calls Try.prog 25 #[a.tmps.getD 65 undef, a.tmps.getD 68 undef] ww _
                      rw [e65, e68]
                      exact (SMH.out ww g2 a2 c2 _ ⟨hw.os, hw.tape, hw.output, hw.size, hw.block⟩ r65).mono (by rintro r w' ⟨rfl, rfl⟩; exact ⟨_, rfl, Below.refl _ _, rfl⟩)
                    · refine step_pure rfl fun a ww hb hw hf => ?_
                      have e69 : a.tmps[69]?.getD undef = .bool true := gdv (hf 12 69 (by kernel_rfl))
                      exact ⟨.bool false, by simp [go_sem, e69], rfl⟩
                    · exact step_pickF rfl 63 70 6 13 rfl (by kernel_rfl) (by kernel_rfl) rfl rfl rfl
                  · intro i o ho A W hf
                    have hiN : i < 15 := (Array.getElem?_eq_some_iff.1 ho).1
                    obtain rfl | rfl | rfl | rfl | rfl | rfl | rfl | rfl | rfl | rfl | rfl | rfl | rfl | rfl | rfl : i = 0 ∨ i = 1 ∨ i = 2 ∨ i = 3 ∨ i = 4 ∨ i = 5 ∨ i = 6 ∨ i = 7 ∨ i = 8 ∨ i = 9 ∨ i = 10 ∨ i = 11 ∨ i = 12 ∨ i = 13 ∨ i = 14 := by omega
                    · cases ho; exact wanted_none rfl
                    · cases ho; exact wanted_none rfl
                    · cases ho; exact wanted_none rfl
                    · cases ho; exact wanted_none rfl
                    · cases ho; exact wanted_none rfl
                    · cases ho; exact wanted_none rfl
                    · cases ho; exact wanted_none rfl
                    · cases ho; exact wanted_some rfl (by kernel_rfl) (hf 6 63 (by kernel_rfl))
                    · cases ho; exact wanted_some rfl (by kernel_rfl) (hf 6 63 (by kernel_rfl))
                    · cases ho; exact wanted_some rfl (by kernel_rfl) (hf 6 63 (by kernel_rfl))
                    · cases ho; exact wanted_some rfl (by kernel_rfl) (hf 6 63 (by kernel_rfl))
                    · cases ho; exact wanted_some rfl (by kernel_rfl) (hf 6 63 (by kernel_rfl))
                    · cases ho; exact wanted_some rfl (by kernel_rfl) (hf 6 63 (by kernel_rfl))
                    · cases ho; exact wanted_some rfl (by kernel_rfl) (hf 6 63 (by kernel_rfl))
                    · cases ho; exact wanted_none rfl
                  intro A W4 hb' hw hF
                  have e2 := hF 14 71 (by kernel_rfl)
                  obtain ⟨vs, hvs⟩ : ∃ vs : Nat → Value, ∀ d, A.tmps.getD d undef = vs d := ⟨_, fun _ => rfl⟩
                  rw [hvs] at e2
                  rw [puts_guard (md := .any) (by kernel_rfl) rfl hb' vs hvs]
                  clear hb' hF hvs
                  have e3 : vs 71 = .bool false := e2
                  clear e2
                  simp only [puts, e3, Act.put, List.setIfInBounds_toArray, List.set_cons_succ, List.set_cons_zero]
                  clear e3
                  have m2 : Below wr.heap.size wr W4 := ⟨hw.os, hw.tape, hw.output, hw.size, hw.block⟩
                  clear hw
                  have T4 := T.up m2
                  have N4 := nxt N m2
                  have TH : Hid (∀ W, Below W4.heap.size W4 W → W.there w.heap.size 0 4) := fun W h => (T4.up h).there
                  have x4 := (m2.cell (p := ⟨g, off + k, none⟩) gw).trans r0
                  have CX : Hid (∀ W, Below W4.heap.size W4 W → W.cell? ⟨g, off + k, none⟩ = some (.int .u8 x)) := fun W h => (h.cell (p := ⟨g, off + k, none⟩) (Nat.lt_of_lt_of_le gw m2.size)).trans x4
                  have w1 : IntKind.i64.wrap ((k : Int) + 2) = (k : Int) + 2 := by rw [wrap_i64]; omega
                  have w2 : IntKind.i64.wrap ((k : Int) + 2 + (n : Int)) = (k : Int) + 2 + (n : Int) := by rw [wrap_i64]; omega
                  have w3 : IntKind.i64.wrap x = x := by rw [wrap_i64]; omega
                  have L0 : ¬ (L = 0) := by omega
                  have s1 : (2 : Int) ≤ 2 + (n : Int) := by omega
                  have s2 : (2 : Int) + (n : Int) ≤ (D : Int) := by omega
                  have BLn := BL.out
                  clear r0 SMH LN v1 x4
                  go_upto_region 14 with fail
                  refine region_putB 17 4 16 88 _ (fun i => [Fact.eq (.slice (some ⟨g, off + k, none⟩) L D), Fact.eq (.pointer (some ⟨g, off + k, none⟩)), Fact.eq (.int .u8 x), Fact.eq (.int .i64 x), Fact.eq (.slice (some ⟨g, off + k, none⟩) L D), Fact.eq (.int .i64 2), Fact.eq (.int .i64 2), Fact.eq (.int .i64 (n : Int)), Fact.eq (.int .i64 (2 + (n : Int))), Fact.eq (.slice (cutP g (off + k) D 2) n (D - 2)), RWn (w.heap.size + 1) ((R.drop 2).take n), Fact.eq (.int .i64 (k : Int)), Fact.eq (.int .i64 2), Fact.eq (.int .i64 ((k : Int) + 2)), Fact.eq (.int .i64 (n : Int)), Fact.eq (.int .i64 ((k : Int) + 2 + (n : Int))), ⟨fun v W => ∃ (a : Option Addr) (c q : Nat), v = .agg #[.bool true, .int .i64 x, .slice a n c, .int .i64 ((k : Int) + 2 + (n : Int))] ∧ Own W q a .u8 ((R.drop 2).take n) ∧ (a = none → c = 0) ∧ n ≤ c ∧ w.heap.size + 1 ≤ q, fun m h => by obtain ⟨a, c, q, e, r, k⟩ := h; exact ⟨a, c, q, e, r.up m, k⟩⟩].getD i Fact.no) w.heap.size 4 38 (fun cells W => ∃ (a : Option Addr) (c q : Nat), cells = [.bool true, .int .i64 x, .slice a n c, .int .i64 ((k : Int) + 2 + (n : Int))] ∧ Own W q a .u8 ((R.drop 2).take n) ∧ (a = none → c = 0) ∧ n ≤ c ∧ w.heap.size + 1 ≤ q) (by kernel_rfl) (by kernel_rfl) rfl rfl rfl (by kernel_rfl) rfl (by kernel_rfl) ?_ TH.out (by kernel_rfl) ?_ ?_
                  · rintro v W ⟨a, c, q, rfl, h⟩
                    exact ⟨[.bool true, .int .i64 x, .slice a n c, .int .i64 ((k : Int) + 2 + (n : Int))], rfl, rfl, by kernel_rfl, a, c, q, rfl, h⟩
                  · intro i hi
                    obtain rfl | rfl | rfl | rfl | rfl | rfl | rfl | rfl | rfl | rfl | rfl | rfl | rfl | rfl | rfl | rfl | rfl : i = 0 ∨ i = 1 ∨ i = 2 ∨ i = 3 ∨ i = 4 ∨ i = 5 ∨ i = 6 ∨ i = 7 ∨ i = 8 ∨ i = 9 ∨ i = 10 ∨ i = 11 ∨ i = 12 ∨ i = 13 ∨ i = 14 ∨ i = 15 ∨ i = 16 := by omega
                    · refine step_pure rfl fun a ww hb hw hf => ?_
                      have e5 : a.tmps[5]?.getD undef = .slice (some ⟨g, off + k, none⟩) L D := gdv (hb.2.2 5 (by kernel_rfl))
                      exact ⟨.slice (some ⟨g, off + k, none⟩) L D, by simp [go_sem, e5], rfl⟩
                    · refine step_pure rfl fun a ww hb hw hf => ?_
                      have e72 : a.tmps[72]?.getD undef = .slice (some ⟨g, off + k, none⟩) L D := gdv (hf 0 72 (by kernel_rfl))
                      exact ⟨.pointer (some ⟨g, off + k, none⟩), by simp [go_sem, e72, L0], rfl⟩
                    · refine step_pure rfl fun a ww hb hw hf => ?_
                      have e73 : a.tmps[73]?.getD undef = .pointer (some ⟨g, off + k, none⟩) := gdv (hf 1 73 (by kernel_rfl))
                      have hc := CX.out ww hw
                      exact ⟨.int .u8 x, by simp [go_sem, e73, hc], rfl⟩
                    · refine step_pure rfl fun a ww hb hw hf => ?_
                      have e74 : a.tmps[74]?.getD undef = .int .u8 x := gdv (hf 2 74 (by kernel_rfl))
                      exact ⟨.int .i64 x, by simp [go_sem, e74, w3], rfl⟩
                    · refine step_pure rfl fun a ww hb hw hf => ?_
                      have e5 : a.tmps[5]?.getD undef = .slice (some ⟨g, off + k, none⟩) L D := gdv (hb.2.2 5 (by kernel_rfl))
                      exact ⟨.slice (some ⟨g, off + k, none⟩) L D, by simp [go_sem, e5], rfl⟩
                    · refine step_pure rfl fun a ww hb hw hf => ?_
                      have e6 : a.tmps[6]?.getD undef = .int .i64 2 := gdv (hb.2.2 6 (by kernel_rfl))
                      exact ⟨.int .i64 2, by simp [go_sem, e6], rfl⟩
                    · refine step_pure rfl fun a ww hb hw hf => ?_
                      have e6 : a.tmps[6]?.getD undef = .int .i64 2 := gdv (hb.2.2 6 (by kernel_rfl))
                      exact ⟨.int .i64 2, by simp [go_sem, e6], rfl⟩
                    · refine step_pure rfl fun a ww hb hw hf => ?_
                      have e7 : a.tmps[7]?.getD undef = .int .i64 (n : Int) := gdv (hb.2.2 7 (by kernel_rfl))
                      exact ⟨.int .i64 (n : Int), by simp [go_sem, e7], rfl⟩
                    · refine step_pure rfl fun a ww hb hw hf => ?_
                      have e78 : a.tmps[78]?.getD undef = .int .i64 2 := gdv (hf 6 78 (by kernel_rfl))
                      have e79 : a.tmps[79]?.getD undef = .int .i64 (n : Int) := gdv (hf 7 79 (by kernel_rfl))
                      exact ⟨.int .i64 (2 + (n : Int)), by simp [go_sem, e78, e79, w0], rfl⟩
                    · refine step_pure rfl fun a ww hb hw hf => ?_
                      have e76 : a.tmps[76]?.getD undef = .slice (some ⟨g, off + k, none⟩) L D := gdv (hf 4 76 (by kernel_rfl))
                      have e77 : a.tmps[77]?.getD undef = .int .i64 2 := gdv (hf 5 77 (by kernel_rfl))
                      have e80 : a.tmps[80]?.getD undef = .int .i64 (2 + (n : Int)) := gdv (hf 8 80 (by kernel_rfl))
                      refine ⟨.slice (cutP g (off + k) D 2) n (D - 2), ?_, rfl⟩
                      by_cases dj : D = 2
                      · have n0 : n = 0 := by omega
                        simp [go_sem, e76, e77, e80, dj, n0, cutP]
                      · have s3 : ((2 : Int) + (n : Int)).toNat = 2 + n := by omega
                        simp [go_sem, e76, e77, e80, s1, s2, s3, dj, cutP, Addr.add]
                    · refine step_callv rfl 27 _ _ rfl (by kernel_rfl) fun a ww hb hw hf => ?_
                      have e81 : a.tmps.getD 81 undef = .slice (cutP g (off + k) D 2) n (D - 2) := hf 9 81 (by kernel_rfl)
                      show Calls Try.prog 27 #[a.tmps.getD 81 undef] ww _
                      rw [e81]
                      exact (CPH.out ww _ (nxt m2 hw)).mono (by rintro r w' ⟨⟨a2, c2, g2, rfl, o2, p2, q2, r2⟩, n2⟩; exact ⟨_, rfl, n2, a2, c2, g2, rfl, o2, p2, q2, by have := hw.size; have := T4.lt; omega⟩)
                    · refine step_pure rfl fun a ww hb hw hf => ?_
                      have e1 : a.tmps[1]?.getD undef = .int .i64 (k : Int) := gdv (hb.2.2 1 (by kernel_rfl))
                      exact ⟨.int .i64 (k : Int), by simp [go_sem, e1], rfl⟩
                    · refine step_pure rfl fun a ww hb hw hf => ?_
                      have e6 : a.tmps[6]?.getD undef = .int .i64 2 := gdv (hb.2.2 6 (by kernel_rfl))
                      exact ⟨.int .i64 2, by simp [go_sem, e6], rfl⟩
                    · refine step_pure rfl fun a ww hb hw hf => ?_
                      have e83 : a.tmps[83]?.getD undef = .int .i64 (k : Int) := gdv (hf 11 83 (by kernel_rfl))
                      have e84 : a.tmps[84]?.getD undef = .int .i64 2 := gdv (hf 12 84 (by kernel_rfl))
                      exact ⟨.int .i64 ((k : Int) + 2), by simp [go_sem, e83, e84, w1], rfl⟩
                    · refine step_pure rfl fun a ww hb hw hf => ?_
                      have e7 : a.tmps[7]?.getD undef = .int .i64 (n : Int) := gdv (hb.2.2 7 (by kernel_rfl))
                      exact ⟨.int .i64 (n : Int), by simp [go_sem, e7], rfl⟩
                    · refine step_pure rfl fun a ww hb hw hf => ?_
                      have e85 : a.tmps[85]?.getD undef = .int .i64 ((k : Int) + 2) := gdv (hf 13 85 (by kernel_rfl))
                      have e86 : a.tmps[86]?.getD undef = .int .i64 (n : Int) := gdv (hf 14 86 (by kernel_rfl))
                      exact ⟨.int .i64 ((k : Int) + 2 + (n : Int)), by simp [go_sem, e85, e86, w2], rfl⟩
                    · refine step_pure rfl fun a ww hb hw hf => ?_
                      have e75 : a.tmps[75]?.getD undef = .int .i64 x := gdv (hf 3 75 (by kernel_rfl))
                      have e87 : a.tmps[87]?.getD undef = .int .i64 ((k : Int) + 2 + (n : Int)) := gdv (hf 15 87 (by kernel_rfl))
                      obtain ⟨a2, c2, g2, e82, o2, p2, q2, r2⟩ := hf 10 82 (by kernel_rfl)
                      rw [BLn] at e82 q2
                      have e82' : a.tmps[82]?.getD undef = .slice a2 n c2 := gdv e82
                      exact ⟨.agg #[.bool true, .int .i64 x, .slice a2 n c2, .int .i64 ((k : Int) + 2 + (n : Int))], by simp [go_sem, e75, e87, e82'], a2, c2, g2, rfl, o2, p2, q2, r2⟩
                  rintro vs W cells hw ⟨aF, cF, qF, rfl, oF, pF, kF, rF⟩
                  have T5 : Fo (W.setCells w.heap.size 0 [.bool true, .int .i64 x, .slice aF n cF, .int .i64 ((k : Int) + 2 + (n : Int))]) w.heap.size (.bool true) (.int .i64 x) (.slice aF n cF) (.int .i64 ((k : Int) + 2 + (n : Int))) := (T4.up hw).set _ _ _ _
                  have O5 : Only w.heap.size W (W.setCells w.heap.size 0 [.bool true, .int .i64 x, .slice aF n cF, .int .i64 ((k : Int) + 2 + (n : Int))]) := only_set4 W w.heap.size _ _ _ _
                  have N5 := (nxt N4 hw).trans (O5.below (B := w.heap.size) (Nat.le_refl _))
                  have o5 := oF.only O5 (fun _ => by omega)
                  clear O5 oF hw T4 N4 m2 TH CX CPH
                  simp only [puts, Act.put, List.setIfInBounds_toArray, List.set_cons_succ, List.set_cons_zero]
                  generalize W.setCells w.heap.size 0 [.bool true, .int .i64 x, .slice aF n cF, .int .i64 ((k : Int) + 2 + (n : Int))] = w5 at *
                  go_wp2
                  refine bodyPost_ret (v := .agg #[.bool true, .int .i64 x, .slice aF n cF, .int .i64 ((k : Int) + 2 + (n : Int))]) (by simp [results, Try.results12, go_sem, T5.c0, T5.c1, T5.c2, T5.c3]) rfl ⟨?_, N5⟩
                  rw [IS.out]
                  show NewT _ _ _ true x (dbT xs (some (x, k + 2, n))) ((k + 2 + n : Nat) : Int)
                  rw [BW.out]
                  exact ⟨aF, cF, qF, by rw [BL.out, show ((k + 2 + n : Nat) : Int) = (k : Int) + 2 + (n : Int) by omega], o5, pF, by rw [BL.out]; exact kF, by omega⟩
                · have NM : Hid (mtK R 2 = false) := by show mtK R 2 = false; rw [MM.out, decide_eq_false he]; simp
                  have NX : Hid (∀ m, 2 ≤ m → m < 2 + 1 → m ≤ R.length → mtK R m = false) := HNO.out NM.out
                  rw [decide_eq_false he] at SMH
                  clear MT' HNO NM MM SR SB SL BW RR TZ NZ he LB c0 c1 c2 c3 f0 f1 f2 f3
                  generalize lenL n = ls at *
                  go_upto_region 13 with fail
                  refine region_guard (fun i => [Fact.eq (.int .i64 2), Fact.eq (.int .i64 (n : Int)), Fact.eq (.int .i64 (2 + (n : Int))), Fact.eq (.slice (some ⟨g, off + k, none⟩) L D), Fact.eq (.int .i64 (L : Int)), Fact.eq (.bool false), Fact.eq (.bool false), Fact.eq (.int .i64 (n : Int)), RDn ls, Fact.eq (.slice (some ⟨g, off + k, none⟩) L D), Fact.eq (.int .i64 2), Fact.eq (.slice (some ⟨g, off + k + 1, none⟩) 1 (D - 1)), Fact.eq (.bool false), Fact.eq (.bool true), Fact.eq (.bool true)].getD i Fact.no) (by kernel_rfl) (by kernel_rfl) ?_ ?_ ?_
                  · intro i hi
                    have hiN : i < 15 := hi
                    obtain rfl | rfl | rfl | rfl | rfl | rfl | rfl | rfl | rfl | rfl | rfl | rfl | rfl | rfl | rfl : i = 0 ∨ i = 1 ∨ i = 2 ∨ i = 3 ∨ i = 4 ∨ i = 5 ∨ i = 6 ∨ i = 7 ∨ i = 8 ∨ i = 9 ∨ i = 10 ∨ i = 11 ∨ i = 12 ∨ i = 13 ∨ i = 14 := by omega
                    · refine step_pure rfl fun a ww hb hw hf => ?_
                      have e6 : a.tmps[6]?.getD undef = .int .i64 2 := gdv (hb.2.2 6 (by kernel_rfl))
                      exact ⟨.int .i64 2, by simp [go_sem, e6], rfl⟩
                    · refine step_pure rfl fun a ww hb hw hf => ?_
                      have e7 : a.tmps[7]?.getD undef = .int .i64 (n : Int) := gdv (hb.2.2 7 (by kernel_rfl))
                      exact ⟨.int .i64 (n : Int), by simp [go_sem, e7], rfl⟩
                    · refine step_pure rfl fun a ww hb hw hf => ?_
                      have e57 : a.tmps[57]?.getD undef = .int .i64 2 := gdv (hf 0 57 (by kernel_rfl))
                      have e58 : a.tmps[58]?.getD undef = .int .i64 (n : Int) := gdv (hf 1 58 (by kernel_rfl))
                      exact ⟨.int .i64 (2 + (n : Int)), by simp [go_sem, e57, e58, w0], rfl⟩
                    · refine step_pure rfl fun a ww hb hw hf => ?_
                      have e5 : a.tmps[5]?.getD undef = .slice (some ⟨g, off + k, none⟩) L D := gdv (hb.2.2 5 (by kernel_rfl))
                      exact ⟨.slice (some ⟨g, off + k, none⟩) L D, by simp [go_sem, e5], rfl⟩
                    · refine step_pure rfl fun a ww hb hw hf => ?_
                      have e60 : a.tmps[60]?.getD undef = .slice (some ⟨g, off + k, none⟩) L D := gdv (hf 3 60 (by kernel_rfl))
                      exact ⟨.int .i64 (L : Int), by simp [go_sem, e60], rfl⟩
                    · refine step_pure rfl fun a ww hb hw hf => ?_
                      have e59 : a.tmps[59]?.getD undef = .int .i64 (2 + (n : Int)) := gdv (hf 2 59 (by kernel_rfl))
                      have e61 : a.tmps[61]?.getD undef = .int .i64 (L : Int) := gdv (hf 4 61 (by kernel_rfl))
                      exact ⟨.bool false, by simp [go_sem, e59, e61, v1], rfl⟩
                    · refine step_pure rfl fun a ww hb hw hf => ?_
                      have e62 : a.tmps[62]?.getD undef = .bool false := gdv (hf 5 62 (by kernel_rfl))
                      exact ⟨.bool false, by simp [go_sem, e62], rfl⟩
                    · refine step_pure rfl fun a ww hb hw hf => ?_
                      have e7 : a.tmps[7]?.getD undef = .int .i64 (n : Int) := gdv (hb.2.2 7 (by kernel_rfl))
                      exact ⟨.int .i64 (n : Int), by simp [go_sem, e7], rfl⟩
                    · refine step_callv rfl 26 _ _ rfl (by kernel_rfl) fun a ww hb hw hf => ?_
                      have e64 : a.tmps.getD 64 undef = .int .i64 (n : Int) := hf 7 64 (by kernel_rfl)
                      show Calls Try.prog 26 #[a.tmps.getD 64 undef] ww _
                      rw [e64]
                      exact (LN ww).out.mono (by rintro r w' ⟨⟨a2, c2, g2, rfl, o2, p2, q2, r2⟩, n2⟩; exact ⟨_, rfl, n2, a2, c2, g2, rfl, o2.rd⟩)
                    · refine step_pure rfl fun a ww hb hw hf => ?_
                      have e5 : a.tmps[5]?.getD undef = .slice (some ⟨g, off + k, none⟩) L D := gdv (hb.2.2 5 (by kernel_rfl))
                      exact ⟨.slice (some ⟨g, off + k, none⟩) L D, by simp [go_sem, e5], rfl⟩
                    · refine step_pure rfl fun a ww hb hw hf => ?_
                      have e6 : a.tmps[6]?.getD undef = .int .i64 2 := gdv (hb.2.2 6 (by kernel_rfl))
                      exact ⟨.int .i64 2, by simp [go_sem, e6], rfl⟩
                    · refine step_pure rfl fun a ww hb hw hf => ?_
                      have e66 : a.tmps[66]?.getD undef = .slice (some ⟨g, off + k, none⟩) L D := gdv (hf 9 66 (by kernel_rfl))
                      have e67 : a.tmps[67]?.getD undef = .int .i64 2 := gdv (hf 10 67 (by kernel_rfl))
                      exact ⟨.slice (some ⟨g, off + k + 1, none⟩) 1 (D - 1), by simp [go_sem, e66, e67, ec, ck1, Addr.add], rfl⟩
                    · refine step_callv rfl 25 _ _ rfl (by kernel_rfl) fun a ww hb hw hf => ?_
                      obtain ⟨a2, c2, g2, e65, r65⟩ := hf 8 65 (by kernel_rfl)
                      have e68 : a.tmps.getD 68 undef = .slice (some ⟨g, off + k + 1, none⟩) 1 (D - 1) := hf 11 68 (by kernel_rfl)
                      show Calls Try.prog 25 #[a.tmps.getD 65 undef, a.tmps.getD 68 undef] ww _
                      rw [e65, e68]
                      exact (SMH.out ww g2 a2 c2 _ ⟨hw.os, hw.tape, hw.output, hw.size, hw.block⟩ r65).mono (by rintro r w' ⟨rfl, rfl⟩; exact ⟨_, rfl, Below.refl _ _, rfl⟩)
                    · refine step_pure rfl fun a ww hb hw hf => ?_
                      have e69 : a.tmps[69]?.getD undef = .bool false := gdv (hf 12 69 (by kernel_rfl))
                      exact ⟨.bool true, by simp [go_sem, e69], rfl⟩
                    · exact step_pickF rfl 63 70 6 13 rfl (by kernel_rfl) (by kernel_rfl) rfl rfl rfl
                  · intro i o ho A W hf
                    have hiN : i < 15 := (Array.getElem?_eq_some_iff.1 ho).1
                    obtain rfl | rfl | rfl | rfl | rfl | rfl | rfl | rfl | rfl | rfl | rfl | rfl | rfl | rfl | rfl : i = 0 ∨ i = 1 ∨ i = 2 ∨ i = 3 ∨ i = 4 ∨ i = 5 ∨ i = 6 ∨ i = 7 ∨ i = 8 ∨ i = 9 ∨ i = 10 ∨ i = 11 ∨ i = 12 ∨ i = 13 ∨ i = 14 := by omega
                    · cases ho; exact wanted_none rfl
                    · cases ho; exact wanted_none rfl
                    · cases ho; exact wanted_none rfl
                    · cases ho; exact wanted_none rfl
                    · cases ho; exact wanted_none rfl
                    · cases ho; exact wanted_none rfl
                    · cases ho; exact wanted_none rfl
                    · cases ho; exact wanted_some rfl (by kernel_rfl) (hf 6 63 (by kernel_rfl))
                    · cases ho; exact wanted_some rfl (by kernel_rfl) (hf 6 63 (by kernel_rfl))
                    · cases ho; exact wanted_some rfl (by kernel_rfl) (hf 6 63 (by kernel_rfl))
                    · cases ho; exact wanted_some rfl (by kernel_rfl) (hf 6 63 (by kernel_rfl))
                    · cases ho; exact wanted_some rfl (by kernel_rfl) (hf 6 63 (by kernel_rfl))
                    · cases ho; exact wanted_some rfl (by kernel_rfl) (hf 6 63 (by kernel_rfl))
                    · cases ho; exact wanted_some rfl (by kernel_rfl) (hf 6 63 (by kernel_rfl))
                    · cases ho; exact wanted_none rfl
                  intro A W4 hb' hw hF
                  have e2 := hF 14 71 (by kernel_rfl)
                  obtain ⟨vs, hvs⟩ : ∃ vs : Nat → Value, ∀ d, A.tmps.getD d undef = vs d := ⟨_, fun _ => rfl⟩
                  rw [hvs] at e2
                  rw [puts_guard (md := .any) (by kernel_rfl) rfl hb' vs hvs]
                  clear hb' hF hvs
                  have e3 : vs 71 = .bool true := e2
                  clear e2
                  simp only [puts, e3, Act.put, List.setIfInBounds_toArray, List.set_cons_succ, List.set_cons_zero]
                  clear e3
                  have m2 : Below wr.heap.size wr W4 := ⟨hw.os, hw.tape, hw.output, hw.size, hw.block⟩
                  clear hw
                  go_wp2
                  go_roundw
                  case rel => exact ⟨2 + 1, by omega, by omega, by go_num, NX, T.up m2, nxt N m2⟩
                  case measure => simp [intOf]
              · have v1 : decide ((L : Int) < 2 + (n : Int)) = true := by simp; omega
                have NM : Hid (mtK R 2 = false) := by show mtK R 2 = false; rw [MM.out, decide_eq_false (by rw [← HL.out]; exact hin)]; rfl
                have NX : Hid (∀ m, 2 ≤ m → m < 2 + 1 → m ≤ R.length → mtK R m = false) := HNO.out NM.out
                clear MT' HNO NM MM SR SB SL BW RR TZ NZ
                go_wp2
                go_quiet (fail)
                go_wp2
                go_roundw
                case rel => exact ⟨2 + 1, by omega, by omega, by go_num, NX, ⟨T.choose, T.choose_spec⟩, below_drewN N _⟩
                case measure => simp [intOf]
          · rw [show ((3 : Nat) : Int) = 3 from rfl]
            by_cases hLj : L < 3
            · have IZ : Hid (itZ xs (k : Int) = none) := by show itZ xs (k : Int) = none; rw [ZA.out]; exact (NO fun m h2 h4 hm => by rw [← HL.out] at hm; exact hno.out m h2 (by omega) (by rw [← HL.out]; exact hm)).out
              have u1 : decide ((L : Int) < 3) = true := by simp; omega
              clear cR hno MT NO
              go_wp2
              change bodyPost _ _ _ _ _ (set4 wr w.heap.size (.bool false) (.int .i64 0) (.slice none 0 0) (.int .i64 0))
              exact bodyPost_ret (v := .agg #[.bool false, .int .i64 0, .slice none 0 0, .int .i64 0]) (by simp [results, Try.results12, go_sem, TZ.c0, TZ.c1, TZ.c2, TZ.c3]) rfl ⟨newT_none _ _ IZ.out, NZ⟩
            · have u1 : decide ((L : Int) < 3) = false := by simp; omega
              have lj : 3 ≤ L := by omega
              have r0 := cR.out 0 (by omega)
              rw [Nat.add_zero, HX0.out] at r0
              have r1 := cR.out 1 (by omega)
              have b1 := RB 1
              have i1 : (1 : Int) < (L : Int) := by omega
              have r2 := cR.out 2 (by omega)
              have b2 := RB 2
              have i2 : (2 : Int) < (L : Int) := by omega
              have NE : nK R 3 = (R.getD 2 0).toNat := rfl
              have nb := nK_bd RB 3
              have MM : Hid (mtK R 3 = (decide (3 + nK R 3 ≤ R.length) && decide (lenL (nK R 3) = (R.drop 1).take 2))) := rfl
              have SL : Hid (((R.drop 1).take 2).length = 2) := by show _ = _; rw [List.length_take, List.length_drop, ← HL.out]; omega
              have SR : Rd wr g (some ⟨g, off + k + 1, none⟩) .u8 ((R.drop 1).take 2) := by
                obtain ⟨o, e, h⟩ := (RR.up N).dropA 1 (by rw [← HL.out]; omega)
                cases e
                exact h.takeA _
              have SB : Byt ((R.drop 1).take 2) := fun m => by
                by_cases hm : m < 2
                · rw [getD_takeA _ _ _ hm, getD_dropA]; exact RB _
                · rw [List.getD_eq_getElem?_getD, List.getElem?_eq_none (by rw [SL.out]; omega)]; decide
              have BW : Hid (dbT xs (some (x, k + 3, nK R 3)) = (R.drop 3).take (nK R 3)) := by show (xs.drop (k + 3)).take _ = _; rw [HR.out, List.drop_drop]
              obtain ⟨n, hnn⟩ : ∃ n, n = nK R 3 := ⟨_, rfl⟩
              rw [← hnn] at NE nb MM BW
              have MT' := fun h => hide (MT 3 (by omega) (by rw [← HL.out]; exact lj) h).out
              simp only [← hnn] at MT'
              have NN : R.getD 2 0 = (n : Int) := by omega
              rw [NN] at r2
              clear NE NN hnn b2
              generalize hr1 : R.getD 1 0 = x1 at r1 b1
              clear hr1
              have HNO : Hid (mtK R 3 = false → ∀ m, 2 ≤ m → m < 3 + 1 → m ≤ R.length → mtK R m = false) := fun h m h2 hm hl => by
                by_cases e : m = 3
                · rw [e]; exact h
                · exact hno.out m h2 (by omega) hl
              clear cR hno MT NO
              by_cases hin : 3 + n ≤ L
              · have v1 : decide ((L : Int) < 3 + (n : Int)) = false := by simp; omega
                have LN := fun W => hide (l10Length_any W n nb)
                have LB := lenL_byt n nb
                have SMH : Hid (∀ W g2 a2 c2 cc, Below wr.heap.size wr W → Rd W g2 a2 .u8 (lenL n) → Calls Try.prog 25 #[.slice a2 (lenL n).length c2, .slice (some ⟨g, off + k + 1, none⟩) 2 cc] W fun e w' => e = .returned (.bool (decide (lenL n = (R.drop 1).take 2))) ∧ w' = W) := fun W g2 a2 c2 cc hW h2 => by
                  have := l1Same_any W g2 g a2 (some ⟨g, off + k + 1, none⟩) c2 cc (lenL n) ((R.drop 1).take 2) h2 (SR.up hW) LB SB
                  rwa [SL.out] at this
                have w0 : IntKind.i64.wrap ((3 : Int) + (n : Int)) = (3 : Int) + (n : Int) := by rw [wrap_i64]; omega
                have e1 : (3 : Int) ≤ (L : Int) := by omega
                have ck1 : ¬ (D = 1) := by omega
                have ec : (3 : Int) ≤ (D : Int) := by omega
                by_cases he : lenL n = (R.drop 1).take 2
                · have MTT := MT' (by rw [MM.out, decide_eq_true he, decide_eq_true (by rw [← HL.out]; exact hin)]; rfl)
                  rw [decide_eq_true he] at SMH
                  have IS : Hid (itZ xs (k : Int) = some (x, k + 3, n)) := by show itZ xs (k : Int) = _; rw [ZA.out]; exact MTT.out
                  have BL : Hid (((R.drop 3).take n).length = n) := by show _ = _; rw [List.length_take, List.length_drop, ← HL.out]; omega
                  have RT := fun ww (m : Below wr.heap.size wr ww) => hide (rd_cutP (RR.up (nxt N m)) (c := D) (by rw [← HL.out]; exact LD) 3 n)
                  have CPH : Hid (∀ ww cc, Below wr.heap.size wr ww → Calls Try.prog 27 #[.slice (cutP g (off + k) D 3) n cc] ww fun e w' => NewRow ww.heap.size w' e .u8 ((R.drop 3).take n) ∧ Below ww.heap.size ww w') := fun ww cc m => by
                    have := l1Copy_any ww g _ cc _ (RT ww m).out (fun h => absurd h (cutP_some _ _ _ _)) (by rw [BL.out]; omega)
                    rwa [BL.out] at this
                  clear MT' HNO MM SR SB SL RR TZ NZ he LB RT c0 c1 c2 c3 f0 f1 f2 f3 MTT
                  generalize lenL n = ls at *
                  go_upto_region 13 with fail
                  refine region_guard (fun i => [Fact.eq (.int .i64 3), Fact.eq (.int .i64 (n : Int)), Fact.eq (.int .i64 (3 + (n : Int))), Fact.eq (.slice (some ⟨g, off + k, none⟩) L D), Fact.eq (.int .i64 (L : Int)), Fact.eq (.bool false), Fact.eq (.bool false), Fact.eq (.int .i64 (n : Int)), RDn ls, Fact.eq (.slice (some ⟨g, off + k, none⟩) L D), Fact.eq (.int .i64 3), Fact.eq (.slice (some ⟨g, off + k + 1, none⟩) 2 (D - 1)), Fact.eq (.bool true), Fact.eq (.bool false), Fact.eq (.bool false)].getD i Fact.no) (by kernel_rfl) (by kernel_rfl) ?_ ?_ ?_
                  · intro i hi
                    have hiN : i < 15 := hi
                    obtain rfl | rfl | rfl | rfl | rfl | rfl | rfl | rfl | rfl | rfl | rfl | rfl | rfl | rfl | rfl : i = 0 ∨ i = 1 ∨ i = 2 ∨ i = 3 ∨ i = 4 ∨ i = 5 ∨ i = 6 ∨ i = 7 ∨ i = 8 ∨ i = 9 ∨ i = 10 ∨ i = 11 ∨ i = 12 ∨ i = 13 ∨ i = 14 := by omega
                    · refine step_pure rfl fun a ww hb hw hf => ?_
                      have e6 : a.tmps[6]?.getD undef = .int .i64 3 := gdv (hb.2.2 6 (by kernel_rfl))
                      exact ⟨.int .i64 3, by simp [go_sem, e6], rfl⟩
                    · refine step_pure rfl fun a ww hb hw hf => ?_
                      have e7 : a.tmps[7]?.getD undef = .int .i64 (n : Int) := gdv (hb.2.2 7 (by kernel_rfl))
                      exact ⟨.int .i64 (n : Int), by simp [go_sem, e7], rfl⟩
                    · refine step_pure rfl fun a ww hb hw hf => ?_
                      have e57 : a.tmps[57]?.getD undef = .int .i64 3 := gdv (hf 0 57 (by kernel_rfl))
                      have e58 : a.tmps[58]?.getD undef = .int .i64 (n : Int) := gdv (hf 1 58 (by kernel_rfl))
                      exact ⟨.int .i64 (3 + (n : Int)), by simp [go_sem, e57, e58, w0], rfl⟩
                    · refine step_pure rfl fun a ww hb hw hf => ?_
                      have e5 : a.tmps[5]?.getD undef = .slice (some ⟨g, off + k, none⟩) L D := gdv (hb.2.2 5 (by kernel_rfl))
                      exact ⟨.slice (some ⟨g, off + k, none⟩) L D, by simp [go_sem, e5], rfl⟩
                    · refine step_pure rfl fun a ww hb hw hf => ?_
                      have e60 : a.tmps[60]?.getD undef = .slice (some ⟨g, off + k, none⟩) L D := gdv (hf 3 60 (by kernel_rfl))
                      exact ⟨.int .i64 (L : Int), by simp [go_sem, e60], rfl⟩
                    · refine step_pure rfl fun a ww hb hw hf => ?_
                      have e59 : a.tmps[59]?.getD undef = .int .i64 (3 + (n : Int)) := gdv (hf 2 59 (by kernel_rfl))
                      have e61 : a.tmps[61]?.getD undef = .int .i64 (L : Int) := gdv (hf 4 61 (by kernel_rfl))
                      exact ⟨.bool false, by simp [go_sem, e59, e61, v1], rfl⟩
                    · refine step_pure rfl fun a ww hb hw hf => ?_
                      have e62 : a.tmps[62]?.getD undef = .bool false := gdv (hf 5 62 (by kernel_rfl))
                      exact ⟨.bool false, by simp [go_sem, e62], rfl⟩
                    · refine step_pure rfl fun a ww hb hw hf => ?_
                      have e7 : a.tmps[7]?.getD undef = .int .i64 (n : Int) := gdv (hb.2.2 7 (by kernel_rfl))
                      exact ⟨.int .i64 (n : Int), by simp [go_sem, e7], rfl⟩
                    · refine step_callv rfl 26 _ _ rfl (by kernel_rfl) fun a ww hb hw hf => ?_
                      have e64 : a.tmps.getD 64 undef = .int .i64 (n : Int) := hf 7 64 (by kernel_rfl)
                      show Calls Try.prog 26 #[a.tmps.getD 64 undef] ww _
                      rw [e64]
                      exact (LN ww).out.mono (by rintro r w' ⟨⟨a2, c2, g2, rfl, o2, p2, q2, r2⟩, n2⟩; exact ⟨_, rfl, n2, a2, c2, g2, rfl, o2.rd⟩)
                    · refine step_pure rfl fun a ww hb hw hf => ?_
                      have e5 : a.tmps[5]?.getD undef = .slice (some ⟨g, off + k, none⟩) L D := gdv (hb.2.2 5 (by kernel_rfl))
                      exact ⟨.slice (some ⟨g, off + k, none⟩) L D, by simp [go_sem, e5], rfl⟩
                    · refine step_pure rfl fun a ww hb hw hf => ?_
                      have e6 : a.tmps[6]?.getD undef = .int .i64 3 := gdv (hb.2.2 6 (by kernel_rfl))
                      exact ⟨.int .i64 3, by simp [go_sem, e6], rfl⟩
                    · refine step_pure rfl fun a ww hb hw hf => ?_
                      have e66 : a.tmps[66]?.getD undef = .slice (some ⟨g, off + k, none⟩) L D := gdv (hf 9 66 (by kernel_rfl))
                      have e67 : a.tmps[67]?.getD undef = .int .i64 3 := gdv (hf 10 67 (by kernel_rfl))
                      exact ⟨.slice (some ⟨g, off + k + 1, none⟩) 2 (D - 1), by simp [go_sem, e66, e67, ec, ck1, Addr.add], rfl⟩
                    · refine step_callv rfl 25 _ _ rfl (by kernel_rfl) fun a ww hb hw hf => ?_
                      obtain ⟨a2, c2, g2, e65, r65⟩ := hf 8 65 (by kernel_rfl)
                      have e68 : a.tmps.getD 68 undef = .slice (some ⟨g, off + k + 1, none⟩) 2 (D - 1) := hf 11 68 (by kernel_rfl)
                      show Calls Try.prog 25 #[a.tmps.getD 65 undef, a.tmps.getD 68 undef] ww _
                      rw [e65, e68]
                      exact (SMH.out ww g2 a2 c2 _ ⟨hw.os, hw.tape, hw.output, hw.size, hw.block⟩ r65).mono (by rintro r w' ⟨rfl, rfl⟩; exact ⟨_, rfl, Below.refl _ _, rfl⟩)
                    · refine step_pure rfl fun a ww hb hw hf => ?_
                      have e69 : a.tmps[69]?.getD undef = .bool true := gdv (hf 12 69 (by kernel_rfl))
                      exact ⟨.bool false, by simp [go_sem, e69], rfl⟩
                    · exact step_pickF rfl 63 70 6 13 rfl (by kernel_rfl) (by kernel_rfl) rfl rfl rfl
                  · intro i o ho A W hf
                    have hiN : i < 15 := (Array.getElem?_eq_some_iff.1 ho).1
                    obtain rfl | rfl | rfl | rfl | rfl | rfl | rfl | rfl | rfl | rfl | rfl | rfl | rfl | rfl | rfl : i = 0 ∨ i = 1 ∨ i = 2 ∨ i = 3 ∨ i = 4 ∨ i = 5 ∨ i = 6 ∨ i = 7 ∨ i = 8 ∨ i = 9 ∨ i = 10 ∨ i = 11 ∨ i = 12 ∨ i = 13 ∨ i = 14 := by omega
                    · cases ho; exact wanted_none rfl
                    · cases ho; exact wanted_none rfl
                    · cases ho; exact wanted_none rfl
                    · cases ho; exact wanted_none rfl
                    · cases ho; exact wanted_none rfl
                    · cases ho; exact wanted_none rfl
                    · cases ho; exact wanted_none rfl
                    · cases ho; exact wanted_some rfl (by kernel_rfl) (hf 6 63 (by kernel_rfl))
                    · cases ho; exact wanted_some rfl (by kernel_rfl) (hf 6 63 (by kernel_rfl))
                    · cases ho; exact wanted_some rfl (by kernel_rfl) (hf 6 63 (by kernel_rfl))
                    · cases ho; exact wanted_some rfl (by kernel_rfl) (hf 6 63 (by kernel_rfl))
                    · cases ho; exact wanted_some rfl (by kernel_rfl) (hf 6 63 (by kernel_rfl))
                    · cases ho; exact wanted_some rfl (by kernel_rfl) (hf 6 63 (by kernel_rfl))
                    · cases ho; exact wanted_some rfl (by kernel_rfl) (hf 6 63 (by kernel_rfl))
                    · cases ho; exact wanted_none rfl
                  intro A W4 hb' hw hF
                  have e2 := hF 14 71 (by kernel_rfl)
                  obtain ⟨vs, hvs⟩ : ∃ vs : Nat → Value, ∀ d, A.tmps.getD d undef = vs d := ⟨_, fun _ => rfl⟩
                  rw [hvs] at e2
                  rw [puts_guard (md := .any) (by kernel_rfl) rfl hb' vs hvs]
                  clear hb' hF hvs
                  have e3 : vs 71 = .bool false := e2
                  clear e2
                  simp only [puts, e3, Act.put, List.setIfInBounds_toArray, List.set_cons_succ, List.set_cons_zero]
                  clear e3
                  have m2 : Below wr.heap.size wr W4 := ⟨hw.os, hw.tape, hw.output, hw.size, hw.block⟩
                  clear hw
                  have T4 := T.up m2
                  have N4 := nxt N m2
                  have TH : Hid (∀ W, Below W4.heap.size W4 W → W.there w.heap.size 0 4) := fun W h => (T4.up h).there
                  have x4 := (m2.cell (p := ⟨g, off + k, none⟩) gw).trans r0
                  have CX : Hid (∀ W, Below W4.heap.size W4 W → W.cell? ⟨g, off + k, none⟩ = some (.int .u8 x)) := fun W h => (h.cell (p := ⟨g, off + k, none⟩) (Nat.lt_of_lt_of_le gw m2.size)).trans x4
                  have w1 : IntKind.i64.wrap ((k : Int) + 3) = (k : Int) + 3 := by rw [wrap_i64]; omega
                  have w2 : IntKind.i64.wrap ((k : Int) + 3 + (n : Int)) = (k : Int) + 3 + (n : Int) := by rw [wrap_i64]; omega
                  have w3 : IntKind.i64.wrap x = x := by rw [wrap_i64]; omega
                  have L0 : ¬ (L = 0) := by omega
                  have s1 : (3 : Int) ≤ 3 + (n : Int) := by omega
                  have s2 : (3 : Int) + (n : Int) ≤ (D : Int) := by omega
                  have BLn := BL.out
                  clear r0 SMH LN v1 x4
                  go_upto_region 14 with fail
                  refine region_putB 17 4 16 88 _ (fun i => [Fact.eq (.slice (some ⟨g, off + k, none⟩) L D), Fact.eq (.pointer (some ⟨g, off + k, none⟩)), Fact.eq (.int .u8 x), Fact.eq (.int .i64 x), Fact.eq (.slice (some ⟨g, off + k, none⟩) L D), Fact.eq (.int .i64 3), Fact.eq (.int .i64 3), Fact.eq (.int .i64 (n : Int)), Fact.eq (.int .i64 (3 + (n : Int))), Fact.eq (.slice (cutP g (off + k) D 3) n (D - 3)), RWn (w.heap.size + 1) ((R.drop 3).take n), Fact.eq (.int .i64 (k : Int)), Fact.eq (.int .i64 3), Fact.eq (.int .i64 ((k : Int) + 3)), Fact.eq (.int .i64 (n : Int)), Fact.eq (.int .i64 ((k : Int) + 3 + (n : Int))), ⟨fun v W => ∃ (a : Option Addr) (c q : Nat), v = .agg #[.bool true, .int .i64 x, .slice a n c, .int .i64 ((k : Int) + 3 + (n : Int))] ∧ Own W q a .u8 ((R.drop 3).take n) ∧ (a = none → c = 0) ∧ n ≤ c ∧ w.heap.size + 1 ≤ q, fun m h => by obtain ⟨a, c, q, e, r, k⟩ := h; exact ⟨a, c, q, e, r.up m, k⟩⟩].getD i Fact.no) w.heap.size 4 38 (fun cells W => ∃ (a : Option Addr) (c q : Nat), cells = [.bool true, .int .i64 x, .slice a n c, .int .i64 ((k : Int) + 3 + (n : Int))] ∧ Own W q a .u8 ((R.drop 3).take n) ∧ (a = none → c = 0) ∧ n ≤ c ∧ w.heap.size + 1 ≤ q) (by kernel_rfl) (by kernel_rfl) rfl rfl rfl (by kernel_rfl) rfl (by kernel_rfl) ?_ TH.out (by kernel_rfl) ?_ ?_
                  · rintro v W ⟨a, c, q, rfl, h⟩
                    exact ⟨[.bool true, .int .i64 x, .slice a n c, .int .i64 ((k : Int) + 3 + (n : Int))], rfl, rfl, by kernel_rfl, a, c, q, rfl, h⟩
                  · intro i hi
                    obtain rfl | rfl | rfl | rfl | rfl | rfl | rfl | rfl | rfl | rfl | rfl | rfl | rfl | rfl | rfl | rfl | rfl : i = 0 ∨ i = 1 ∨ i = 2 ∨ i = 3 ∨ i = 4 ∨ i = 5 ∨ i = 6 ∨ i = 7 ∨ i = 8 ∨ i = 9 ∨ i = 10 ∨ i = 11 ∨ i = 12 ∨ i = 13 ∨ i = 14 ∨ i = 15 ∨ i = 16 := by omega
                    · refine step_pure rfl fun a ww hb hw hf => ?_
                      have e5 : a.tmps[5]?.getD undef = .slice (some ⟨g, off + k, none⟩) L D := gdv (hb.2.2 5 (by kernel_rfl))
                      exact ⟨.slice (some ⟨g, off + k, none⟩) L D, by simp [go_sem, e5], rfl⟩
                    · refine step_pure rfl fun a ww hb hw hf => ?_
                      have e72 : a.tmps[72]?.getD undef = .slice (some ⟨g, off + k, none⟩) L D := gdv (hf 0 72 (by kernel_rfl))
                      exact ⟨.pointer (some ⟨g, off + k, none⟩), by simp [go_sem, e72, L0], rfl⟩
                    · refine step_pure rfl fun a ww hb hw hf => ?_
                      have e73 : a.tmps[73]?.getD undef = .pointer (some ⟨g, off + k, none⟩) := gdv (hf 1 73 (by kernel_rfl))
                      have hc := CX.out ww hw
                      exact ⟨.int .u8 x, by simp [go_sem, e73, hc], rfl⟩
                    · refine step_pure rfl fun a ww hb hw hf => ?_
                      have e74 : a.tmps[74]?.getD undef = .int .u8 x := gdv (hf 2 74 (by kernel_rfl))
                      exact ⟨.int .i64 x, by simp [go_sem, e74, w3], rfl⟩
                    · refine step_pure rfl fun a ww hb hw hf => ?_
                      have e5 : a.tmps[5]?.getD undef = .slice (some ⟨g, off + k, none⟩) L D := gdv (hb.2.2 5 (by kernel_rfl))
                      exact ⟨.slice (some ⟨g, off + k, none⟩) L D, by simp [go_sem, e5], rfl⟩
                    · refine step_pure rfl fun a ww hb hw hf => ?_
                      have e6 : a.tmps[6]?.getD undef = .int .i64 3 := gdv (hb.2.2 6 (by kernel_rfl))
                      exact ⟨.int .i64 3, by simp [go_sem, e6], rfl⟩
                    · refine step_pure rfl fun a ww hb hw hf => ?_
                      have e6 : a.tmps[6]?.getD undef = .int .i64 3 := gdv (hb.2.2 6 (by kernel_rfl))
                      exact ⟨.int .i64 3, by simp [go_sem, e6], rfl⟩
                    · refine step_pure rfl fun a ww hb hw hf => ?_
                      have e7 : a.tmps[7]?.getD undef = .int .i64 (n : Int) := gdv (hb.2.2 7 (by kernel_rfl))
                      exact ⟨.int .i64 (n : Int), by simp [go_sem, e7], rfl⟩
                    · refine step_pure rfl fun a ww hb hw hf => ?_
                      have e78 : a.tmps[78]?.getD undef = .int .i64 3 := gdv (hf 6 78 (by kernel_rfl))
                      have e79 : a.tmps[79]?.getD undef = .int .i64 (n : Int) := gdv (hf 7 79 (by kernel_rfl))
                      exact ⟨.int .i64 (3 + (n : Int)), by simp [go_sem, e78, e79, w0], rfl⟩
                    · refine step_pure rfl fun a ww hb hw hf => ?_
                      have e76 : a.tmps[76]?.getD undef = .slice (some ⟨g, off + k, none⟩) L D := gdv (hf 4 76 (by kernel_rfl))
                      have e77 : a.tmps[77]?.getD undef = .int .i64 3 := gdv (hf 5 77 (by kernel_rfl))
                      have e80 : a.tmps[80]?.getD undef = .int .i64 (3 + (n : Int)) := gdv (hf 8 80 (by kernel_rfl))
                      refine ⟨.slice (cutP g (off + k) D 3) n (D - 3), ?_, rfl⟩
                      by_cases dj : D = 3
                      · have n0 : n = 0 := by omega
                        simp [go_sem, e76, e77, e80, dj, n0, cutP]
                      · have s3 : ((3 : Int) + (n : Int)).toNat = 3 + n := by omega
                        simp [go_sem, e76, e77, e80, s1, s2, s3, dj, cutP, Addr.add]
                    · refine step_callv rfl 27 _ _ rfl (by kernel_rfl) fun a ww hb hw hf => ?_
                      have e81 : a.tmps.getD 81 undef = .slice (cutP g (off + k) D 3) n (D - 3) := hf 9 81 (by kernel_rfl)
                      show Calls Try.prog 27 #[a.tmps.getD 81 undef] ww _
                      rw [e81]
                      exact (CPH.out ww _ (nxt m2 hw)).mono (by rintro r w' ⟨⟨a2, c2, g2, rfl, o2, p2, q2, r2⟩, n2⟩; exact ⟨_, rfl, n2, a2, c2, g2, rfl, o2, p2, q2, by have := hw.size; have := T4.lt; omega⟩)
                    · refine step_pure rfl fun a ww hb hw hf => ?_
                      have e1 : a.tmps[1]?.getD undef = .int .i64 (k : Int) := gdv (hb.2.2 1 (by kernel_rfl))
                      exact ⟨.int .i64 (k : Int), by simp [go_sem, e1], rfl⟩
                    · refine step_pure rfl fun a ww hb hw hf => ?_
                      have e6 : a.tmps[6]?.getD undef = .int .i64 3 := gdv (hb.2.2 6 (by kernel_rfl))
                      exact ⟨.int .i64 3, by simp [go_sem, e6], rfl⟩
                    · refine step_pure rfl fun a ww hb hw hf => ?_
                      have e83 : a.tmps[83]?.getD undef = .int .i64 (k : Int) := gdv (hf 11 83 (by kernel_rfl))
                      have e84 : a.tmps[84]?.getD undef = .int .i64 3 := gdv (hf 12 84 (by kernel_rfl))
                      exact ⟨.int .i64 ((k : Int) + 3), by simp [go_sem, e83, e84, w1], rfl⟩
                    · refine step_pure rfl fun a ww hb hw hf => ?_
                      have e7 : a.tmps[7]?.getD undef = .int .i64 (n : Int) := gdv (hb.2.2 7 (by kernel_rfl))
                      exact ⟨.int .i64 (n : Int), by simp [go_sem, e7], rfl⟩
                    · refine step_pure rfl fun a ww hb hw hf => ?_
                      have e85 : a.tmps[85]?.getD undef = .int .i64 ((k : Int) + 3) := gdv (hf 13 85 (by kernel_rfl))
                      have e86 : a.tmps[86]?.getD undef = .int .i64 (n : Int) := gdv (hf 14 86 (by kernel_rfl))
                      exact ⟨.int .i64 ((k : Int) + 3 + (n : Int)), by simp [go_sem, e85, e86, w2], rfl⟩
                    · refine step_pure rfl fun a ww hb hw hf => ?_
                      have e75 : a.tmps[75]?.getD undef = .int .i64 x := gdv (hf 3 75 (by kernel_rfl))
                      have e87 : a.tmps[87]?.getD undef = .int .i64 ((k : Int) + 3 + (n : Int)) := gdv (hf 15 87 (by kernel_rfl))
                      obtain ⟨a2, c2, g2, e82, o2, p2, q2, r2⟩ := hf 10 82 (by kernel_rfl)
                      rw [BLn] at e82 q2
                      have e82' : a.tmps[82]?.getD undef = .slice a2 n c2 := gdv e82
                      exact ⟨.agg #[.bool true, .int .i64 x, .slice a2 n c2, .int .i64 ((k : Int) + 3 + (n : Int))], by simp [go_sem, e75, e87, e82'], a2, c2, g2, rfl, o2, p2, q2, r2⟩
                  rintro vs W cells hw ⟨aF, cF, qF, rfl, oF, pF, kF, rF⟩
                  have T5 : Fo (W.setCells w.heap.size 0 [.bool true, .int .i64 x, .slice aF n cF, .int .i64 ((k : Int) + 3 + (n : Int))]) w.heap.size (.bool true) (.int .i64 x) (.slice aF n cF) (.int .i64 ((k : Int) + 3 + (n : Int))) := (T4.up hw).set _ _ _ _
                  have O5 : Only w.heap.size W (W.setCells w.heap.size 0 [.bool true, .int .i64 x, .slice aF n cF, .int .i64 ((k : Int) + 3 + (n : Int))]) := only_set4 W w.heap.size _ _ _ _
                  have N5 := (nxt N4 hw).trans (O5.below (B := w.heap.size) (Nat.le_refl _))
                  have o5 := oF.only O5 (fun _ => by omega)
                  clear O5 oF hw T4 N4 m2 TH CX CPH
                  simp only [puts, Act.put, List.setIfInBounds_toArray, List.set_cons_succ, List.set_cons_zero]
                  generalize W.setCells w.heap.size 0 [.bool true, .int .i64 x, .slice aF n cF, .int .i64 ((k : Int) + 3 + (n : Int))] = w5 at *
                  go_wp2
                  refine bodyPost_ret (v := .agg #[.bool true, .int .i64 x, .slice aF n cF, .int .i64 ((k : Int) + 3 + (n : Int))]) (by simp [results, Try.results12, go_sem, T5.c0, T5.c1, T5.c2, T5.c3]) rfl ⟨?_, N5⟩
                  rw [IS.out]
                  show NewT _ _ _ true x (dbT xs (some (x, k + 3, n))) ((k + 3 + n : Nat) : Int)
                  rw [BW.out]
                  exact ⟨aF, cF, qF, by rw [BL.out, show ((k + 3 + n : Nat) : Int) = (k : Int) + 3 + (n : Int) by omega], o5, pF, by rw [BL.out]; exact kF, by omega⟩
                · have NM : Hid (mtK R 3 = false) := by show mtK R 3 = false; rw [MM.out, decide_eq_false he]; simp
                  have NX : Hid (∀ m, 2 ≤ m → m < 3 + 1 → m ≤ R.length → mtK R m = false) := HNO.out NM.out
                  rw [decide_eq_false he] at SMH
                  clear MT' HNO NM MM SR SB SL BW RR TZ NZ he LB c0 c1 c2 c3 f0 f1 f2 f3
                  generalize lenL n = ls at *
                  go_upto_region 13 with fail
                  refine region_guard (fun i => [Fact.eq (.int .i64 3), Fact.eq (.int .i64 (n : Int)), Fact.eq (.int .i64 (3 + (n : Int))), Fact.eq (.slice (some ⟨g, off + k, none⟩) L D), Fact.eq (.int .i64 (L : Int)), Fact.eq (.bool false), Fact.eq (.bool false), Fact.eq (.int .i64 (n : Int)), RDn ls, Fact.eq (.slice (some ⟨g, off + k, none⟩) L D), Fact.eq (.int .i64 3), Fact.eq (.slice (some ⟨g, off + k + 1, none⟩) 2 (D - 1)), Fact.eq (.bool false), Fact.eq (.bool true), Fact.eq (.bool true)].getD i Fact.no) (by kernel_rfl) (by kernel_rfl) ?_ ?_ ?_
                  · intro i hi
                    have hiN : i < 15 := hi
                    obtain rfl | rfl | rfl | rfl | rfl | rfl | rfl | rfl | rfl | rfl | rfl | rfl | rfl | rfl | rfl : i = 0 ∨ i = 1 ∨ i = 2 ∨ i = 3 ∨ i = 4 ∨ i = 5 ∨ i = 6 ∨ i = 7 ∨ i = 8 ∨ i = 9 ∨ i = 10 ∨ i = 11 ∨ i = 12 ∨ i = 13 ∨ i = 14 := by omega
                    · refine step_pure rfl fun a ww hb hw hf => ?_
                      have e6 : a.tmps[6]?.getD undef = .int .i64 3 := gdv (hb.2.2 6 (by kernel_rfl))
                      exact ⟨.int .i64 3, by simp [go_sem, e6], rfl⟩
                    · refine step_pure rfl fun a ww hb hw hf => ?_
                      have e7 : a.tmps[7]?.getD undef = .int .i64 (n : Int) := gdv (hb.2.2 7 (by kernel_rfl))
                      exact ⟨.int .i64 (n : Int), by simp [go_sem, e7], rfl⟩
                    · refine step_pure rfl fun a ww hb hw hf => ?_
                      have e57 : a.tmps[57]?.getD undef = .int .i64 3 := gdv (hf 0 57 (by kernel_rfl))
                      have e58 : a.tmps[58]?.getD undef = .int .i64 (n : Int) := gdv (hf 1 58 (by kernel_rfl))
                      exact ⟨.int .i64 (3 + (n : Int)), by simp [go_sem, e57, e58, w0], rfl⟩
                    · refine step_pure rfl fun a ww hb hw hf => ?_
                      have e5 : a.tmps[5]?.getD undef = .slice (some ⟨g, off + k, none⟩) L D := gdv (hb.2.2 5 (by kernel_rfl))
                      exact ⟨.slice (some ⟨g, off + k, none⟩) L D, by simp [go_sem, e5], rfl⟩
                    · refine step_pure rfl fun a ww hb hw hf => ?_
                      have e60 : a.tmps[60]?.getD undef = .slice (some ⟨g, off + k, none⟩) L D := gdv (hf 3 60 (by kernel_rfl))
                      exact ⟨.int .i64 (L : Int), by simp [go_sem, e60], rfl⟩
                    · refine step_pure rfl fun a ww hb hw hf => ?_
                      have e59 : a.tmps[59]?.getD undef = .int .i64 (3 + (n : Int)) := gdv (hf 2 59 (by kernel_rfl))
                      have e61 : a.tmps[61]?.getD undef = .int .i64 (L : Int) := gdv (hf 4 61 (by kernel_rfl))
                      exact ⟨.bool false, by simp [go_sem, e59, e61, v1], rfl⟩
                    · refine step_pure rfl fun a ww hb hw hf => ?_
                      have e62 : a.tmps[62]?.getD undef = .bool false := gdv (hf 5 62 (by kernel_rfl))
                      exact ⟨.bool false, by simp [go_sem, e62], rfl⟩
                    · refine step_pure rfl fun a ww hb hw hf => ?_
                      have e7 : a.tmps[7]?.getD undef = .int .i64 (n : Int) := gdv (hb.2.2 7 (by kernel_rfl))
                      exact ⟨.int .i64 (n : Int), by simp [go_sem, e7], rfl⟩
                    · refine step_callv rfl 26 _ _ rfl (by kernel_rfl) fun a ww hb hw hf => ?_
                      have e64 : a.tmps.getD 64 undef = .int .i64 (n : Int) := hf 7 64 (by kernel_rfl)
                      show Calls Try.prog 26 #[a.tmps.getD 64 undef] ww _
                      rw [e64]
                      exact (LN ww).out.mono (by rintro r w' ⟨⟨a2, c2, g2, rfl, o2, p2, q2, r2⟩, n2⟩; exact ⟨_, rfl, n2, a2, c2, g2, rfl, o2.rd⟩)
                    · refine step_pure rfl fun a ww hb hw hf => ?_
                      have e5 : a.tmps[5]?.getD undef = .slice (some ⟨g, off + k, none⟩) L D := gdv (hb.2.2 5 (by kernel_rfl))
                      exact ⟨.slice (some ⟨g, off + k, none⟩) L D, by simp [go_sem, e5], rfl⟩
                    · refine step_pure rfl fun a ww hb hw hf => ?_
                      have e6 : a.tmps[6]?.getD undef = .int .i64 3 := gdv (hb.2.2 6 (by kernel_rfl))
                      exact ⟨.int .i64 3, by simp [go_sem, e6], rfl⟩
                    · refine step_pure rfl fun a ww hb hw hf => ?_
                      have e66 : a.tmps[66]?.getD undef = .slice (some ⟨g, off + k, none⟩) L D := gdv (hf 9 66 (by kernel_rfl))
                      have e67 : a.tmps[67]?.getD undef = .int .i64 3 := gdv (hf 10 67 (by kernel_rfl))
                      exact ⟨.slice (some ⟨g, off + k + 1, none⟩) 2 (D - 1), by simp [go_sem, e66, e67, ec, ck1, Addr.add], rfl⟩
                    · refine step_callv rfl 25 _ _ rfl (by kernel_rfl) fun a ww hb hw hf => ?_
                      obtain ⟨a2, c2, g2, e65, r65⟩ := hf 8 65 (by kernel_rfl)
                      have e68 : a.tmps.getD 68 undef = .slice (some ⟨g, off + k + 1, none⟩) 2 (D - 1) := hf 11 68 (by kernel_rfl)
                      show Calls Try.prog 25 #[a.tmps.getD 65 undef, a.tmps.getD 68 undef] ww _
                      rw [e65, e68]
                      exact (SMH.out ww g2 a2 c2 _ ⟨hw.os, hw.tape, hw.output, hw.size, hw.block⟩ r65).mono (by rintro r w' ⟨rfl, rfl⟩; exact ⟨_, rfl, Below.refl _ _, rfl⟩)
                    · refine step_pure rfl fun a ww hb hw hf => ?_
                      have e69 : a.tmps[69]?.getD undef = .bool false := gdv (hf 12 69 (by kernel_rfl))
                      exact ⟨.bool true, by simp [go_sem, e69], rfl⟩
                    · exact step_pickF rfl 63 70 6 13 rfl (by kernel_rfl) (by kernel_rfl) rfl rfl rfl
                  · intro i o ho A W hf
                    have hiN : i < 15 := (Array.getElem?_eq_some_iff.1 ho).1
                    obtain rfl | rfl | rfl | rfl | rfl | rfl | rfl | rfl | rfl | rfl | rfl | rfl | rfl | rfl | rfl : i = 0 ∨ i = 1 ∨ i = 2 ∨ i = 3 ∨ i = 4 ∨ i = 5 ∨ i = 6 ∨ i = 7 ∨ i = 8 ∨ i = 9 ∨ i = 10 ∨ i = 11 ∨ i = 12 ∨ i = 13 ∨ i = 14 := by omega
                    · cases ho; exact wanted_none rfl
                    · cases ho; exact wanted_none rfl
                    · cases ho; exact wanted_none rfl
                    · cases ho; exact wanted_none rfl
                    · cases ho; exact wanted_none rfl
                    · cases ho; exact wanted_none rfl
                    · cases ho; exact wanted_none rfl
                    · cases ho; exact wanted_some rfl (by kernel_rfl) (hf 6 63 (by kernel_rfl))
                    · cases ho; exact wanted_some rfl (by kernel_rfl) (hf 6 63 (by kernel_rfl))
                    · cases ho; exact wanted_some rfl (by kernel_rfl) (hf 6 63 (by kernel_rfl))
                    · cases ho; exact wanted_some rfl (by kernel_rfl) (hf 6 63 (by kernel_rfl))
                    · cases ho; exact wanted_some rfl (by kernel_rfl) (hf 6 63 (by kernel_rfl))
                    · cases ho; exact wanted_some rfl (by kernel_rfl) (hf 6 63 (by kernel_rfl))
                    · cases ho; exact wanted_some rfl (by kernel_rfl) (hf 6 63 (by kernel_rfl))
                    · cases ho; exact wanted_none rfl
                  intro A W4 hb' hw hF
                  have e2 := hF 14 71 (by kernel_rfl)
                  obtain ⟨vs, hvs⟩ : ∃ vs : Nat → Value, ∀ d, A.tmps.getD d undef = vs d := ⟨_, fun _ => rfl⟩
                  rw [hvs] at e2
                  rw [puts_guard (md := .any) (by kernel_rfl) rfl hb' vs hvs]
                  clear hb' hF hvs
                  have e3 : vs 71 = .bool true := e2
                  clear e2
                  simp only [puts, e3, Act.put, List.setIfInBounds_toArray, List.set_cons_succ, List.set_cons_zero]
                  clear e3
                  have m2 : Below wr.heap.size wr W4 := ⟨hw.os, hw.tape, hw.output, hw.size, hw.block⟩
                  clear hw
                  go_wp2
                  go_roundw
                  case rel => exact ⟨3 + 1, by omega, by omega, by go_num, NX, T.up m2, nxt N m2⟩
                  case measure => simp [intOf]
              · have v1 : decide ((L : Int) < 3 + (n : Int)) = true := by simp; omega
                have NM : Hid (mtK R 3 = false) := by show mtK R 3 = false; rw [MM.out, decide_eq_false (by rw [← HL.out]; exact hin)]; rfl
                have NX : Hid (∀ m, 2 ≤ m → m < 3 + 1 → m ≤ R.length → mtK R m = false) := HNO.out NM.out
                clear MT' HNO NM MM SR SB SL BW RR TZ NZ
                go_wp2
                go_quiet (fail)
                go_wp2
                go_roundw
                case rel => exact ⟨3 + 1, by omega, by omega, by go_num, NX, ⟨T.choose, T.choose_spec⟩, below_drewN N _⟩
                case measure => simp [intOf]
          · rw [show ((4 : Nat) : Int) = 4 from rfl]
            by_cases hLj : L < 4
            · have IZ : Hid (itZ xs (k : Int) = none) := by show itZ xs (k : Int) = none; rw [ZA.out]; exact (NO fun m h2 h4 hm => by rw [← HL.out] at hm; exact hno.out m h2 (by omega) (by rw [← HL.out]; exact hm)).out
              have u1 : decide ((L : Int) < 4) = true := by simp; omega
              clear cR hno MT NO
              go_wp2
              change bodyPost _ _ _ _ _ (set4 wr w.heap.size (.bool false) (.int .i64 0) (.slice none 0 0) (.int .i64 0))
              exact bodyPost_ret (v := .agg #[.bool false, .int .i64 0, .slice none 0 0, .int .i64 0]) (by simp [results, Try.results12, go_sem, TZ.c0, TZ.c1, TZ.c2, TZ.c3]) rfl ⟨newT_none _ _ IZ.out, NZ⟩
            · have u1 : decide ((L : Int) < 4) = false := by simp; omega
              have lj : 4 ≤ L := by omega
              have r0 := cR.out 0 (by omega)
              rw [Nat.add_zero, HX0.out] at r0
              have r1 := cR.out 1 (by omega)
              have b1 := RB 1
              have i1 : (1 : Int) < (L : Int) := by omega
              have r2 := cR.out 2 (by omega)
              have b2 := RB 2
              have i2 : (2 : Int) < (L : Int) := by omega
              have r3 := cR.out 3 (by omega)
              have b3 := RB 3
              have i3 : (3 : Int) < (L : Int) := by omega
              have NE : nK R 4 = (256 * R.getD 2 0 + R.getD 3 0).toNat := rfl
              have nb := nK_bd RB 4
              have MM : Hid (mtK R 4 = (decide (4 + nK R 4 ≤ R.length) && decide (lenL (nK R 4) = (R.drop 1).take 3))) := rfl
              have SL : Hid (((R.drop 1).take 3).length = 3) := by show _ = _; rw [List.length_take, List.length_drop, ← HL.out]; omega
              have SR : Rd wr g (some ⟨g, off + k + 1, none⟩) .u8 ((R.drop 1).take 3) := by
                obtain ⟨o, e, h⟩ := (RR.up N).dropA 1 (by rw [← HL.out]; omega)
                cases e
                exact h.takeA _
              have SB : Byt ((R.drop 1).take 3) := fun m => by
                by_cases hm : m < 3
                · rw [getD_takeA _ _ _ hm, getD_dropA]; exact RB _
                · rw [List.getD_eq_getElem?_getD, List.getElem?_eq_none (by rw [SL.out]; omega)]; decide
              have BW : Hid (dbT xs (some (x, k + 4, nK R 4)) = (R.drop 4).take (nK R 4)) := by show (xs.drop (k + 4)).take _ = _; rw [HR.out, List.drop_drop]
              obtain ⟨n, hnn⟩ : ∃ n, n = nK R 4 := ⟨_, rfl⟩
              rw [← hnn] at NE nb MM BW
              have MT' := fun h => hide (MT 4 (by omega) (by rw [← HL.out]; exact lj) h).out
              simp only [← hnn] at MT'
              have NN : 256 * R.getD 2 0 + R.getD 3 0 = (n : Int) := by omega
              clear NE hnn
              generalize hr2 : R.getD 2 0 = x2 at r2 b2 NN
              generalize hr3 : R.getD 3 0 = x3 at r3 b3 NN
              clear hr2 hr3
              generalize hr1 : R.getD 1 0 = x1 at r1 b1
              clear hr1
              have HNO : Hid (mtK R 4 = false → ∀ m, 2 ≤ m → m < 4 + 1 → m ≤ R.length → mtK R m = false) := fun h m h2 hm hl => by
                by_cases e : m = 4
                · rw [e]; exact h
                · exact hno.out m h2 (by omega) hl
              clear cR hno MT NO
              by_cases hin : 4 + n ≤ L
              · have v1 : decide ((L : Int) < 4 + (n : Int)) = false := by simp; omega
                have LN := fun W => hide (l10Length_any W n nb)
                have LB := lenL_byt n nb
                have SMH : Hid (∀ W g2 a2 c2 cc, Below wr.heap.size wr W → Rd W g2 a2 .u8 (lenL n) → Calls Try.prog 25 #[.slice a2 (lenL n).length c2, .slice (some ⟨g, off + k + 1, none⟩) 3 cc] W fun e w' => e = .returned (.bool (decide (lenL n = (R.drop 1).take 3))) ∧ w' = W) := fun W g2 a2 c2 cc hW h2 => by
                  have := l1Same_any W g2 g a2 (some ⟨g, off + k + 1, none⟩) c2 cc (lenL n) ((R.drop 1).take 3) h2 (SR.up hW) LB SB
                  rwa [SL.out] at this
                have w0 : IntKind.i64.wrap ((4 : Int) + (n : Int)) = (4 : Int) + (n : Int) := by rw [wrap_i64]; omega
                have e1 : (4 : Int) ≤ (L : Int) := by omega
                have ck1 : ¬ (D = 1) := by omega
                have ec : (4 : Int) ≤ (D : Int) := by omega
                by_cases he : lenL n = (R.drop 1).take 3
                · have MTT := MT' (by rw [MM.out, decide_eq_true he, decide_eq_true (by rw [← HL.out]; exact hin)]; rfl)
                  rw [decide_eq_true he] at SMH
                  have IS : Hid (itZ xs (k : Int) = some (x, k + 4, n)) := by show itZ xs (k : Int) = _; rw [ZA.out]; exact MTT.out
                  have BL : Hid (((R.drop 4).take n).length = n) := by show _ = _; rw [List.length_take, List.length_drop, ← HL.out]; omega
                  have RT := fun ww (m : Below wr.heap.size wr ww) => hide (rd_cutP (RR.up (nxt N m)) (c := D) (by rw [← HL.out]; exact LD) 4 n)
                  have CPH : Hid (∀ ww cc, Below wr.heap.size wr ww → Calls Try.prog 27 #[.slice (cutP g (off + k) D 4) n cc] ww fun e w' => NewRow ww.heap.size w' e .u8 ((R.drop 4).take n) ∧ Below ww.heap.size ww w') := fun ww cc m => by
                    have := l1Copy_any ww g _ cc _ (RT ww m).out (fun h => absurd h (cutP_some _ _ _ _)) (by rw [BL.out]; omega)
                    rwa [BL.out] at this
                  clear MT' HNO MM SR SB SL RR TZ NZ he LB RT c0 c1 c2 c3 f0 f1 f2 f3 MTT
                  generalize lenL n = ls at *
                  go_wp2
                  go_quiet (fail)
                  go_upto_region 13 with fail
                  refine region_guard (fun i => [Fact.eq (.int .i64 4), Fact.eq (.int .i64 (n : Int)), Fact.eq (.int .i64 (4 + (n : Int))), Fact.eq (.slice (some ⟨g, off + k, none⟩) L D), Fact.eq (.int .i64 (L : Int)), Fact.eq (.bool false), Fact.eq (.bool false), Fact.eq (.int .i64 (n : Int)), RDn ls, Fact.eq (.slice (some ⟨g, off + k, none⟩) L D), Fact.eq (.int .i64 4), Fact.eq (.slice (some ⟨g, off + k + 1, none⟩) 3 (D - 1)), Fact.eq (.bool true), Fact.eq (.bool false), Fact.eq (.bool false)].getD i Fact.no) (by kernel_rfl) (by kernel_rfl) ?_ ?_ ?_
                  · intro i hi
                    have hiN : i < 15 := hi
                    obtain rfl | rfl | rfl | rfl | rfl | rfl | rfl | rfl | rfl | rfl | rfl | rfl | rfl | rfl | rfl : i = 0 ∨ i = 1 ∨ i = 2 ∨ i = 3 ∨ i = 4 ∨ i = 5 ∨ i = 6 ∨ i = 7 ∨ i = 8 ∨ i = 9 ∨ i = 10 ∨ i = 11 ∨ i = 12 ∨ i = 13 ∨ i = 14 := by omega
                    · refine step_pure rfl fun a ww hb hw hf => ?_
                      have e6 : a.tmps[6]?.getD undef = .int .i64 4 := gdv (hb.2.2 6 (by kernel_rfl))
                      exact ⟨.int .i64 4, by simp [go_sem, e6], rfl⟩
                    · refine step_pure rfl fun a ww hb hw hf => ?_
                      have e7 : a.tmps[7]?.getD undef = .int .i64 (n : Int) := gdv (hb.2.2 7 (by kernel_rfl))
                      exact ⟨.int .i64 (n : Int), by simp [go_sem, e7], rfl⟩
                    · refine step_pure rfl fun a ww hb hw hf => ?_
                      have e57 : a.tmps[57]?.getD undef = .int .i64 4 := gdv (hf 0 57 (by kernel_rfl))
                      have e58 : a.tmps[58]?.getD undef = .int .i64 (n : Int) := gdv (hf 1 58 (by kernel_rfl))
                      exact ⟨.int .i64 (4 + (n : Int)), by simp [go_sem, e57, e58, w0], rfl⟩
                    · refine step_pure rfl fun a ww hb hw hf => ?_
                      have e5 : a.tmps[5]?.getD undef = .slice (some ⟨g, off + k, none⟩) L D := gdv (hb.2.2 5 (by kernel_rfl))
                      exact ⟨.slice (some ⟨g, off + k, none⟩) L D, by simp [go_sem, e5], rfl⟩
                    · refine step_pure rfl fun a ww hb hw hf => ?_
                      have e60 : a.tmps[60]?.getD undef = .slice (some ⟨g, off + k, none⟩) L D := gdv (hf 3 60 (by kernel_rfl))
                      exact ⟨.int .i64 (L : Int), by simp [go_sem, e60], rfl⟩
                    · refine step_pure rfl fun a ww hb hw hf => ?_
                      have e59 : a.tmps[59]?.getD undef = .int .i64 (4 + (n : Int)) := gdv (hf 2 59 (by kernel_rfl))
                      have e61 : a.tmps[61]?.getD undef = .int .i64 (L : Int) := gdv (hf 4 61 (by kernel_rfl))
                      exact ⟨.bool false, by simp [go_sem, e59, e61, v1], rfl⟩
                    · refine step_pure rfl fun a ww hb hw hf => ?_
                      have e62 : a.tmps[62]?.getD undef = .bool false := gdv (hf 5 62 (by kernel_rfl))
                      exact ⟨.bool false, by simp [go_sem, e62], rfl⟩
                    · refine step_pure rfl fun a ww hb hw hf => ?_
                      have e7 : a.tmps[7]?.getD undef = .int .i64 (n : Int) := gdv (hb.2.2 7 (by kernel_rfl))
                      exact ⟨.int .i64 (n : Int), by simp [go_sem, e7], rfl⟩
                    · refine step_callv rfl 26 _ _ rfl (by kernel_rfl) fun a ww hb hw hf => ?_
                      have e64 : a.tmps.getD 64 undef = .int .i64 (n : Int) := hf 7 64 (by kernel_rfl)
                      show Calls Try.prog 26 #[a.tmps.getD 64 undef] ww _
                      rw [e64]
                      exact (LN ww).out.mono (by rintro r w' ⟨⟨a2, c2, g2, rfl, o2, p2, q2, r2⟩, n2⟩; exact ⟨_, rfl, n2, a2, c2, g2, rfl, o2.rd⟩)
                    · refine step_pure rfl fun a ww hb hw hf => ?_
                      have e5 : a.tmps[5]?.getD undef = .slice (some ⟨g, off + k, none⟩) L D := gdv (hb.2.2 5 (by kernel_rfl))
                      exact ⟨.slice (some ⟨g, off + k, none⟩) L D, by simp [go_sem, e5], rfl⟩
                    · refine step_pure rfl fun a ww hb hw hf => ?_
                      have e6 : a.tmps[6]?.getD undef = .int .i64 4 := gdv (hb.2.2 6 (by kernel_rfl))
                      exact ⟨.int .i64 4, by simp [go_sem, e6], rfl⟩
                    · refine step_pure rfl fun a ww hb hw hf => ?_
                      have e66 : a.tmps[66]?.getD undef = .slice (some ⟨g, off + k, none⟩) L D := gdv (hf 9 66 (by kernel_rfl))
                      have e67 : a.tmps[67]?.getD undef = .int .i64 4 := gdv (hf 10 67 (by kernel_rfl))
                      exact ⟨.slice (some ⟨g, off + k + 1, none⟩) 3 (D - 1), by simp [go_sem, e66, e67, ec, ck1, Addr.add], rfl⟩
                    · refine step_callv rfl 25 _ _ rfl (by kernel_rfl) fun a ww hb hw hf => ?_
                      obtain ⟨a2, c2, g2, e65, r65⟩ := hf 8 65 (by kernel_rfl)
                      have e68 : a.tmps.getD 68 undef = .slice (some ⟨g, off + k + 1, none⟩) 3 (D - 1) := hf 11 68 (by kernel_rfl)
                      show Calls Try.prog 25 #[a.tmps.getD 65 undef, a.tmps.getD 68 undef] ww _
                      rw [e65, e68]
                      exact (SMH.out ww g2 a2 c2 _ ⟨hw.os, hw.tape, hw.output, hw.size, hw.block⟩ r65).mono (by rintro r w' ⟨rfl, rfl⟩; exact ⟨_, rfl, Below.refl _ _, rfl⟩)
                    · refine step_pure rfl fun a ww hb hw hf => ?_
                      have e69 : a.tmps[69]?.getD undef = .bool true := gdv (hf 12 69 (by kernel_rfl))
                      exact ⟨.bool false, by simp [go_sem, e69], rfl⟩
                    · exact step_pickF rfl 63 70 6 13 rfl (by kernel_rfl) (by kernel_rfl) rfl rfl rfl
                  · intro i o ho A W hf
                    have hiN : i < 15 := (Array.getElem?_eq_some_iff.1 ho).1
                    obtain rfl | rfl | rfl | rfl | rfl | rfl | rfl | rfl | rfl | rfl | rfl | rfl | rfl | rfl | rfl : i = 0 ∨ i = 1 ∨ i = 2 ∨ i = 3 ∨ i = 4 ∨ i = 5 ∨ i = 6 ∨ i = 7 ∨ i = 8 ∨ i = 9 ∨ i = 10 ∨ i = 11 ∨ i = 12 ∨ i = 13 ∨ i = 14 := by omega
                    · cases ho; exact wanted_none rfl
                    · cases ho; exact wanted_none rfl
                    · cases ho; exact wanted_none rfl
                    · cases ho; exact wanted_none rfl
                    · cases ho; exact wanted_none rfl
                    · cases ho; exact wanted_none rfl
                    · cases ho; exact wanted_none rfl
                    · cases ho; exact wanted_some rfl (by kernel_rfl) (hf 6 63 (by kernel_rfl))
                    · cases ho; exact wanted_some rfl (by kernel_rfl) (hf 6 63 (by kernel_rfl))
                    · cases ho; exact wanted_some rfl (by kernel_rfl) (hf 6 63 (by kernel_rfl))
                    · cases ho; exact wanted_some rfl (by kernel_rfl) (hf 6 63 (by kernel_rfl))
                    · cases ho; exact wanted_some rfl (by kernel_rfl) (hf 6 63 (by kernel_rfl))
                    · cases ho; exact wanted_some rfl (by kernel_rfl) (hf 6 63 (by kernel_rfl))
                    · cases ho; exact wanted_some rfl (by kernel_rfl) (hf 6 63 (by kernel_rfl))
                    · cases ho; exact wanted_none rfl
                  intro A W4 hb' hw hF
                  have e2 := hF 14 71 (by kernel_rfl)
                  obtain ⟨vs, hvs⟩ : ∃ vs : Nat → Value, ∀ d, A.tmps.getD d undef = vs d := ⟨_, fun _ => rfl⟩
                  rw [hvs] at e2
                  rw [puts_guard (md := .any) (by kernel_rfl) rfl hb' vs hvs]
                  clear hb' hF hvs
                  have e3 : vs 71 = .bool false := e2
                  clear e2
                  simp only [puts, e3, Act.put, List.setIfInBounds_toArray, List.set_cons_succ, List.set_cons_zero]
                  clear e3
                  have m2 : Below wr.heap.size wr W4 := ⟨hw.os, hw.tape, hw.output, hw.size, hw.block⟩
                  clear hw
                  have T4 := T.up m2
                  have N4 := nxt N m2
                  have TH : Hid (∀ W, Below W4.heap.size W4 W → W.there w.heap.size 0 4) := fun W h => (T4.up h).there
                  have x4 := (m2.cell (p := ⟨g, off + k, none⟩) gw).trans r0
                  have CX : Hid (∀ W, Below W4.heap.size W4 W → W.cell? ⟨g, off + k, none⟩ = some (.int .u8 x)) := fun W h => (h.cell (p := ⟨g, off + k, none⟩) (Nat.lt_of_lt_of_le gw m2.size)).trans x4
                  have w1 : IntKind.i64.wrap ((k : Int) + 4) = (k : Int) + 4 := by rw [wrap_i64]; omega
                  have w2 : IntKind.i64.wrap ((k : Int) + 4 + (n : Int)) = (k : Int) + 4 + (n : Int) := by rw [wrap_i64]; omega
                  have w3 : IntKind.i64.wrap x = x := by rw [wrap_i64]; omega
                  have L0 : ¬ (L = 0) := by omega
                  have s1 : (4 : Int) ≤ 4 + (n : Int) := by omega
                  have s2 : (4 : Int) + (n : Int) ≤ (D : Int) := by omega
                  have BLn := BL.out
                  clear r0 SMH LN v1 x4
                  go_upto_region 14 with fail
                  refine region_putB 17 4 16 88 _ (fun i => [Fact.eq (.slice (some ⟨g, off + k, none⟩) L D), Fact.eq (.pointer (some ⟨g, off + k, none⟩)), Fact.eq (.int .u8 x), Fact.eq (.int .i64 x), Fact.eq (.slice (some ⟨g, off + k, none⟩) L D), Fact.eq (.int .i64 4), Fact.eq (.int .i64 4), Fact.eq (.int .i64 (n : Int)), Fact.eq (.int .i64 (4 + (n : Int))), Fact.eq (.slice (cutP g (off + k) D 4) n (D - 4)), RWn (w.heap.size + 1) ((R.drop 4).take n), Fact.eq (.int .i64 (k : Int)), Fact.eq (.int .i64 4), Fact.eq (.int .i64 ((k : Int) + 4)), Fact.eq (.int .i64 (n : Int)), Fact.eq (.int .i64 ((k : Int) + 4 + (n : Int))), ⟨fun v W => ∃ (a : Option Addr) (c q : Nat), v = .agg #[.bool true, .int .i64 x, .slice a n c, .int .i64 ((k : Int) + 4 + (n : Int))] ∧ Own W q a .u8 ((R.drop 4).take n) ∧ (a = none → c = 0) ∧ n ≤ c ∧ w.heap.size + 1 ≤ q, fun m h => by obtain ⟨a, c, q, e, r, k⟩ := h; exact ⟨a, c, q, e, r.up m, k⟩⟩].getD i Fact.no) w.heap.size 4 38 (fun cells W => ∃ (a : Option Addr) (c q : Nat), cells = [.bool true, .int .i64 x, .slice a n c, .int .i64 ((k : Int) + 4 + (n : Int))] ∧ Own W q a .u8 ((R.drop 4).take n) ∧ (a = none → c = 0) ∧ n ≤ c ∧ w.heap.size + 1 ≤ q) (by kernel_rfl) (by kernel_rfl) rfl rfl rfl (by kernel_rfl) rfl (by kernel_rfl) ?_ TH.out (by kernel_rfl) ?_ ?_
                  · rintro v W ⟨a, c, q, rfl, h⟩
                    exact ⟨[.bool true, .int .i64 x, .slice a n c, .int .i64 ((k : Int) + 4 + (n : Int))], rfl, rfl, by kernel_rfl, a, c, q, rfl, h⟩
                  · intro i hi
                    obtain rfl | rfl | rfl | rfl | rfl | rfl | rfl | rfl | rfl | rfl | rfl | rfl | rfl | rfl | rfl | rfl | rfl : i = 0 ∨ i = 1 ∨ i = 2 ∨ i = 3 ∨ i = 4 ∨ i = 5 ∨ i = 6 ∨ i = 7 ∨ i = 8 ∨ i = 9 ∨ i = 10 ∨ i = 11 ∨ i = 12 ∨ i = 13 ∨ i = 14 ∨ i = 15 ∨ i = 16 := by omega
                    · refine step_pure rfl fun a ww hb hw hf => ?_
                      have e5 : a.tmps[5]?.getD undef = .slice (some ⟨g, off + k, none⟩) L D := gdv (hb.2.2 5 (by kernel_rfl))
                      exact ⟨.slice (some ⟨g, off + k, none⟩) L D, by simp [go_sem, e5], rfl⟩
                    · refine step_pure rfl fun a ww hb hw hf => ?_
                      have e72 : a.tmps[72]?.getD undef = .slice (some ⟨g, off + k, none⟩) L D := gdv (hf 0 72 (by kernel_rfl))
                      exact ⟨.pointer (some ⟨g, off + k, none⟩), by simp [go_sem, e72, L0], rfl⟩
                    · refine step_pure rfl fun a ww hb hw hf => ?_
                      have e73 : a.tmps[73]?.getD undef = .pointer (some ⟨g, off + k, none⟩) := gdv (hf 1 73 (by kernel_rfl))
                      have hc := CX.out ww hw
                      exact ⟨.int .u8 x, by simp [go_sem, e73, hc], rfl⟩
                    · refine step_pure rfl fun a ww hb hw hf => ?_
                      have e74 : a.tmps[74]?.getD undef = .int .u8 x := gdv (hf 2 74 (by kernel_rfl))
                      exact ⟨.int .i64 x, by simp [go_sem, e74, w3], rfl⟩
                    · refine step_pure rfl fun a ww hb hw hf => ?_
                      have e5 : a.tmps[5]?.getD undef = .slice (some ⟨g, off + k, none⟩) L D := gdv (hb.2.2 5 (by kernel_rfl))
                      exact ⟨.slice (some ⟨g, off + k, none⟩) L D, by simp [go_sem, e5], rfl⟩
                    · refine step_pure rfl fun a ww hb hw hf => ?_
                      have e6 : a.tmps[6]?.getD undef = .int .i64 4 := gdv (hb.2.2 6 (by kernel_rfl))
                      exact ⟨.int .i64 4, by simp [go_sem, e6], rfl⟩
                    · refine step_pure rfl fun a ww hb hw hf => ?_
                      have e6 : a.tmps[6]?.getD undef = .int .i64 4 := gdv (hb.2.2 6 (by kernel_rfl))
                      exact ⟨.int .i64 4, by simp [go_sem, e6], rfl⟩
                    · refine step_pure rfl fun a ww hb hw hf => ?_
                      have e7 : a.tmps[7]?.getD undef = .int .i64 (n : Int) := gdv (hb.2.2 7 (by kernel_rfl))
                      exact ⟨.int .i64 (n : Int), by simp [go_sem, e7], rfl⟩
                    · refine step_pure rfl fun a ww hb hw hf => ?_
                      have e78 : a.tmps[78]?.getD undef = .int .i64 4 := gdv (hf 6 78 (by kernel_rfl))
                      have e79 : a.tmps[79]?.getD undef = .int .i64 (n : Int) := gdv (hf 7 79 (by kernel_rfl))
                      exact ⟨.int .i64 (4 + (n : Int)), by simp [go_sem, e78, e79, w0], rfl⟩
                    · refine step_pure rfl fun a ww hb hw hf => ?_
                      have e76 : a.tmps[76]?.getD undef = .slice (some ⟨g, off + k, none⟩) L D := gdv (hf 4 76 (by kernel_rfl))
                      have e77 : a.tmps[77]?.getD undef = .int .i64 4 := gdv (hf 5 77 (by kernel_rfl))
                      have e80 : a.tmps[80]?.getD undef = .int .i64 (4 + (n : Int)) := gdv (hf 8 80 (by kernel_rfl))
                      refine ⟨.slice (cutP g (off + k) D 4) n (D - 4), ?_, rfl⟩
                      by_cases dj : D = 4
                      · have n0 : n = 0 := by omega
                        simp [go_sem, e76, e77, e80, dj, n0, cutP]
                      · have s3 : ((4 : Int) + (n : Int)).toNat = 4 + n := by omega
                        simp [go_sem, e76, e77, e80, s1, s2, s3, dj, cutP, Addr.add]
                    · refine step_callv rfl 27 _ _ rfl (by kernel_rfl) fun a ww hb hw hf => ?_
                      have e81 : a.tmps.getD 81 undef = .slice (cutP g (off + k) D 4) n (D - 4) := hf 9 81 (by kernel_rfl)
                      show Calls Try.prog 27 #[a.tmps.getD 81 undef] ww _
                      rw [e81]
                      exact (CPH.out ww _ (nxt m2 hw)).mono (by rintro r w' ⟨⟨a2, c2, g2, rfl, o2, p2, q2, r2⟩, n2⟩; exact ⟨_, rfl, n2, a2, c2, g2, rfl, o2, p2, q2, by have := hw.size; have := T4.lt; omega⟩)
                    · refine step_pure rfl fun a ww hb hw hf => ?_
                      have e1 : a.tmps[1]?.getD undef = .int .i64 (k : Int) := gdv (hb.2.2 1 (by kernel_rfl))
                      exact ⟨.int .i64 (k : Int), by simp [go_sem, e1], rfl⟩
                    · refine step_pure rfl fun a ww hb hw hf => ?_
                      have e6 : a.tmps[6]?.getD undef = .int .i64 4 := gdv (hb.2.2 6 (by kernel_rfl))
                      exact ⟨.int .i64 4, by simp [go_sem, e6], rfl⟩
                    · refine step_pure rfl fun a ww hb hw hf => ?_
                      have e83 : a.tmps[83]?.getD undef = .int .i64 (k : Int) := gdv (hf 11 83 (by kernel_rfl))
                      have e84 : a.tmps[84]?.getD undef = .int .i64 4 := gdv (hf 12 84 (by kernel_rfl))
                      exact ⟨.int .i64 ((k : Int) + 4), by simp [go_sem, e83, e84, w1], rfl⟩
                    · refine step_pure rfl fun a ww hb hw hf => ?_
                      have e7 : a.tmps[7]?.getD undef = .int .i64 (n : Int) := gdv (hb.2.2 7 (by kernel_rfl))
                      exact ⟨.int .i64 (n : Int), by simp [go_sem, e7], rfl⟩
                    · refine step_pure rfl fun a ww hb hw hf => ?_
                      have e85 : a.tmps[85]?.getD undef = .int .i64 ((k : Int) + 4) := gdv (hf 13 85 (by kernel_rfl))
                      have e86 : a.tmps[86]?.getD undef = .int .i64 (n : Int) := gdv (hf 14 86 (by kernel_rfl))
                      exact ⟨.int .i64 ((k : Int) + 4 + (n : Int)), by simp [go_sem, e85, e86, w2], rfl⟩
                    · refine step_pure rfl fun a ww hb hw hf => ?_
                      have e75 : a.tmps[75]?.getD undef = .int .i64 x := gdv (hf 3 75 (by kernel_rfl))
                      have e87 : a.tmps[87]?.getD undef = .int .i64 ((k : Int) + 4 + (n : Int)) := gdv (hf 15 87 (by kernel_rfl))
                      obtain ⟨a2, c2, g2, e82, o2, p2, q2, r2⟩ := hf 10 82 (by kernel_rfl)
                      rw [BLn] at e82 q2
                      have e82' : a.tmps[82]?.getD undef = .slice a2 n c2 := gdv e82
                      exact ⟨.agg #[.bool true, .int .i64 x, .slice a2 n c2, .int .i64 ((k : Int) + 4 + (n : Int))], by simp [go_sem, e75, e87, e82'], a2, c2, g2, rfl, o2, p2, q2, r2⟩
                  rintro vs W cells hw ⟨aF, cF, qF, rfl, oF, pF, kF, rF⟩
                  have T5 : Fo (W.setCells w.heap.size 0 [.bool true, .int .i64 x, .slice aF n cF, .int .i64 ((k : Int) + 4 + (n : Int))]) w.heap.size (.bool true) (.int .i64 x) (.slice aF n cF) (.int .i64 ((k : Int) + 4 + (n : Int))) := (T4.up hw).set _ _ _ _
                  have O5 : Only w.heap.size W (W.setCells w.heap.size 0 [.bool true, .int .i64 x, .slice aF n cF, .int .i64 ((k : Int) + 4 + (n : Int))]) := only_set4 W w.heap.size _ _ _ _
                  have N5 := (nxt N4 hw).trans (O5.below (B := w.heap.size) (Nat.le_refl _))
                  have o5 := oF.only O5 (fun _ => by omega)
                  clear O5 oF hw T4 N4 m2 TH CX CPH
                  simp only [puts, Act.put, List.setIfInBounds_toArray, List.set_cons_succ, List.set_cons_zero]
                  generalize W.setCells w.heap.size 0 [.bool true, .int .i64 x, .slice aF n cF, .int .i64 ((k : Int) + 4 + (n : Int))] = w5 at *
                  go_wp2
                  refine bodyPost_ret (v := .agg #[.bool true, .int .i64 x, .slice aF n cF, .int .i64 ((k : Int) + 4 + (n : Int))]) (by simp [results, Try.results12, go_sem, T5.c0, T5.c1, T5.c2, T5.c3]) rfl ⟨?_, N5⟩
                  rw [IS.out]
                  show NewT _ _ _ true x (dbT xs (some (x, k + 4, n))) ((k + 4 + n : Nat) : Int)
                  rw [BW.out]
                  exact ⟨aF, cF, qF, by rw [BL.out, show ((k + 4 + n : Nat) : Int) = (k : Int) + 4 + (n : Int) by omega], o5, pF, by rw [BL.out]; exact kF, by omega⟩
                · have NM : Hid (mtK R 4 = false) := by show mtK R 4 = false; rw [MM.out, decide_eq_false he]; simp
                  have NX : Hid (∀ m, 2 ≤ m → m < 4 + 1 → m ≤ R.length → mtK R m = false) := HNO.out NM.out
                  rw [decide_eq_false he] at SMH
                  clear MT' HNO NM MM SR SB SL BW RR TZ NZ he LB c0 c1 c2 c3 f0 f1 f2 f3
                  generalize lenL n = ls at *
                  go_wp2
                  go_quiet (fail)
                  go_upto_region 13 with fail
                  refine region_guard (fun i => [Fact.eq (.int .i64 4), Fact.eq (.int .i64 (n : Int)), Fact.eq (.int .i64 (4 + (n : Int))), Fact.eq (.slice (some ⟨g, off + k, none⟩) L D), Fact.eq (.int .i64 (L : Int)), Fact.eq (.bool false), Fact.eq (.bool false), Fact.eq (.int .i64 (n : Int)), RDn ls, Fact.eq (.slice (some ⟨g, off + k, none⟩) L D), Fact.eq (.int .i64 4), Fact.eq (.slice (some ⟨g, off + k + 1, none⟩) 3 (D - 1)), Fact.eq (.bool false), Fact.eq (.bool true), Fact.eq (.bool true)].getD i Fact.no) (by kernel_rfl) (by kernel_rfl) ?_ ?_ ?_
                  · intro i hi
                    have hiN : i < 15 := hi
                    obtain rfl | rfl | rfl | rfl | rfl | rfl | rfl | rfl | rfl | rfl | rfl | rfl | rfl | rfl | rfl : i = 0 ∨ i = 1 ∨ i = 2 ∨ i = 3 ∨ i = 4 ∨ i = 5 ∨ i = 6 ∨ i = 7 ∨ i = 8 ∨ i = 9 ∨ i = 10 ∨ i = 11 ∨ i = 12 ∨ i = 13 ∨ i = 14 := by omega
                    · refine step_pure rfl fun a ww hb hw hf => ?_
                      have e6 : a.tmps[6]?.getD undef = .int .i64 4 := gdv (hb.2.2 6 (by kernel_rfl))
                      exact ⟨.int .i64 4, by simp [go_sem, e6], rfl⟩
                    · refine step_pure rfl fun a ww hb hw hf => ?_
                      have e7 : a.tmps[7]?.getD undef = .int .i64 (n : Int) := gdv (hb.2.2 7 (by kernel_rfl))
                      exact ⟨.int .i64 (n : Int), by simp [go_sem, e7], rfl⟩
                    · refine step_pure rfl fun a ww hb hw hf => ?_
                      have e57 : a.tmps[57]?.getD undef = .int .i64 4 := gdv (hf 0 57 (by kernel_rfl))
                      have e58 : a.tmps[58]?.getD undef = .int .i64 (n : Int) := gdv (hf 1 58 (by kernel_rfl))
                      exact ⟨.int .i64 (4 + (n : Int)), by simp [go_sem, e57, e58, w0], rfl⟩
                    · refine step_pure rfl fun a ww hb hw hf => ?_
                      have e5 : a.tmps[5]?.getD undef = .slice (some ⟨g, off + k, none⟩) L D := gdv (hb.2.2 5 (by kernel_rfl))
                      exact ⟨.slice (some ⟨g, off + k, none⟩) L D, by simp [go_sem, e5], rfl⟩
                    · refine step_pure rfl fun a ww hb hw hf => ?_
                      have e60 : a.tmps[60]?.getD undef = .slice (some ⟨g, off + k, none⟩) L D := gdv (hf 3 60 (by kernel_rfl))
                      exact ⟨.int .i64 (L : Int), by simp [go_sem, e60], rfl⟩
                    · refine step_pure rfl fun a ww hb hw hf => ?_
                      have e59 : a.tmps[59]?.getD undef = .int .i64 (4 + (n : Int)) := gdv (hf 2 59 (by kernel_rfl))
                      have e61 : a.tmps[61]?.getD undef = .int .i64 (L : Int) := gdv (hf 4 61 (by kernel_rfl))
                      exact ⟨.bool false, by simp [go_sem, e59, e61, v1], rfl⟩
                    · refine step_pure rfl fun a ww hb hw hf => ?_
                      have e62 : a.tmps[62]?.getD undef = .bool false := gdv (hf 5 62 (by kernel_rfl))
                      exact ⟨.bool false, by simp [go_sem, e62], rfl⟩
                    · refine step_pure rfl fun a ww hb hw hf => ?_
                      have e7 : a.tmps[7]?.getD undef = .int .i64 (n : Int) := gdv (hb.2.2 7 (by kernel_rfl))
                      exact ⟨.int .i64 (n : Int), by simp [go_sem, e7], rfl⟩
                    · refine step_callv rfl 26 _ _ rfl (by kernel_rfl) fun a ww hb hw hf => ?_
                      have e64 : a.tmps.getD 64 undef = .int .i64 (n : Int) := hf 7 64 (by kernel_rfl)
                      show Calls Try.prog 26 #[a.tmps.getD 64 undef] ww _
                      rw [e64]
                      exact (LN ww).out.mono (by rintro r w' ⟨⟨a2, c2, g2, rfl, o2, p2, q2, r2⟩, n2⟩; exact ⟨_, rfl, n2, a2, c2, g2, rfl, o2.rd⟩)
                    · refine step_pure rfl fun a ww hb hw hf => ?_
                      have e5 : a.tmps[5]?.getD undef = .slice (some ⟨g, off + k, none⟩) L D := gdv (hb.2.2 5 (by kernel_rfl))
                      exact ⟨.slice (some ⟨g, off + k, none⟩) L D, by simp [go_sem, e5], rfl⟩
                    · refine step_pure rfl fun a ww hb hw hf => ?_
                      have e6 : a.tmps[6]?.getD undef = .int .i64 4 := gdv (hb.2.2 6 (by kernel_rfl))
                      exact ⟨.int .i64 4, by simp [go_sem, e6], rfl⟩
                    · refine step_pure rfl fun a ww hb hw hf => ?_
                      have e66 : a.tmps[66]?.getD undef = .slice (some ⟨g, off + k, none⟩) L D := gdv (hf 9 66 (by kernel_rfl))
                      have e67 : a.tmps[67]?.getD undef = .int .i64 4 := gdv (hf 10 67 (by kernel_rfl))
                      exact ⟨.slice (some ⟨g, off + k + 1, none⟩) 3 (D - 1), by simp [go_sem, e66, e67, ec, ck1, Addr.add], rfl⟩
                    · refine step_callv rfl 25 _ _ rfl (by kernel_rfl) fun a ww hb hw hf => ?_
                      obtain ⟨a2, c2, g2, e65, r65⟩ := hf 8 65 (by kernel_rfl)
                      have e68 : a.tmps.getD 68 undef = .slice (some ⟨g, off + k + 1, none⟩) 3 (D - 1) := hf 11 68 (by kernel_rfl)
                      show Calls Try.prog 25 #[a.tmps.getD 65 undef, a.tmps.getD 68 undef] ww _
                      rw [e65, e68]
                      exact (SMH.out ww g2 a2 c2 _ ⟨hw.os, hw.tape, hw.output, hw.size, hw.block⟩ r65).mono (by rintro r w' ⟨rfl, rfl⟩; exact ⟨_, rfl, Below.refl _ _, rfl⟩)
                    · refine step_pure rfl fun a ww hb hw hf => ?_
                      have e69 : a.tmps[69]?.getD undef = .bool false := gdv (hf 12 69 (by kernel_rfl))
                      exact ⟨.bool true, by simp [go_sem, e69], rfl⟩
                    · exact step_pickF rfl 63 70 6 13 rfl (by kernel_rfl) (by kernel_rfl) rfl rfl rfl
                  · intro i o ho A W hf
                    have hiN : i < 15 := (Array.getElem?_eq_some_iff.1 ho).1
                    obtain rfl | rfl | rfl | rfl | rfl | rfl | rfl | rfl | rfl | rfl | rfl | rfl | rfl | rfl | rfl : i = 0 ∨ i = 1 ∨ i = 2 ∨ i = 3 ∨ i = 4 ∨ i = 5 ∨ i = 6 ∨ i = 7 ∨ i = 8 ∨ i = 9 ∨ i = 10 ∨ i = 11 ∨ i = 12 ∨ i = 13 ∨ i = 14 := by omega
                    · cases ho; exact wanted_none rfl
                    · cases ho; exact wanted_none rfl
                    · cases ho; exact wanted_none rfl
                    · cases ho; exact wanted_none rfl
                    · cases ho; exact wanted_none rfl
                    · cases ho; exact wanted_none rfl
                    · cases ho; exact wanted_none rfl
                    · cases ho; exact wanted_some rfl (by kernel_rfl) (hf 6 63 (by kernel_rfl))
                    · cases ho; exact wanted_some rfl (by kernel_rfl) (hf 6 63 (by kernel_rfl))
                    · cases ho; exact wanted_some rfl (by kernel_rfl) (hf 6 63 (by kernel_rfl))
                    · cases ho; exact wanted_some rfl (by kernel_rfl) (hf 6 63 (by kernel_rfl))
                    · cases ho; exact wanted_some rfl (by kernel_rfl) (hf 6 63 (by kernel_rfl))
                    · cases ho; exact wanted_some rfl (by kernel_rfl) (hf 6 63 (by kernel_rfl))
                    · cases ho; exact wanted_some rfl (by kernel_rfl) (hf 6 63 (by kernel_rfl))
                    · cases ho; exact wanted_none rfl
                  intro A W4 hb' hw hF
                  have e2 := hF 14 71 (by kernel_rfl)
                  obtain ⟨vs, hvs⟩ : ∃ vs : Nat → Value, ∀ d, A.tmps.getD d undef = vs d := ⟨_, fun _ => rfl⟩
                  rw [hvs] at e2
                  rw [puts_guard (md := .any) (by kernel_rfl) rfl hb' vs hvs]
                  clear hb' hF hvs
                  have e3 : vs 71 = .bool true := e2
                  clear e2
                  simp only [puts, e3, Act.put, List.setIfInBounds_toArray, List.set_cons_succ, List.set_cons_zero]
                  clear e3
                  have m2 : Below wr.heap.size wr W4 := ⟨hw.os, hw.tape, hw.output, hw.size, hw.block⟩
                  clear hw
                  go_wp2
                  go_roundw
                  case rel => exact ⟨4 + 1, by omega, by omega, by go_num, NX, T.up m2, nxt N m2⟩
                  case measure => simp [intOf]
              · have v1 : decide ((L : Int) < 4 + (n : Int)) = true := by simp; omega
                have NM : Hid (mtK R 4 = false) := by show mtK R 4 = false; rw [MM.out, decide_eq_false (by rw [← HL.out]; exact hin)]; rfl
                have NX : Hid (∀ m, 2 ≤ m → m < 4 + 1 → m ≤ R.length → mtK R m = false) := HNO.out NM.out
                clear MT' HNO NM MM SR SB SL BW RR TZ NZ
                go_wp2
                go_quiet (fail)
                go_wp2
                go_quiet (fail)
                go_wp2
                go_roundw
                case rel => exact ⟨4 + 1, by omega, by omega, by go_num, NX, ⟨T.choose, T.choose_spec⟩, below_drewN N _⟩
                case measure => simp [intOf]
          · have IZ : Hid (itZ xs (k : Int) = none) := by show itZ xs (k : Int) = none; rw [ZA.out]; exact (NO fun m h2 h4 hm => hno.out m h2 (by omega) hm).out
            clear cR hno MT NO
            go_wp2
            change bodyPost _ _ _ _ _ (set4 wr w.heap.size (.bool false) (.int .i64 0) (.slice none 0 0) (.int .i64 0))
            exact bodyPost_ret (v := .agg #[.bool false, .int .i64 0, .slice none 0 0, .int .i64 0]) (by simp [results, Try.results12, go_sem, TZ.c0, TZ.c1, TZ.c2, TZ.c3]) rfl ⟨newT_none _ _ IZ.out, NZ⟩
end Go.Proofs.Ythkhfljoflffpaa
