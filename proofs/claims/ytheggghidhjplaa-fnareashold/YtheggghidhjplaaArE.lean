
/-
  DrawPatternOutside.
-/
import Derived.Test.YtheggghidhjplaaArD
import Derived.Deep.DeepCutAuto
namespace Go.Proofs.Ytheggghidhjplaa
open Go Go.RowKit

theorem bas_len (p : List UInt8) : (bas p).length ≤ p.length := by
  unfold bas
  split
  · rw [List.length_drop]; omega
  · omega
set_option maxRecDepth 100000 in
set_option maxHeartbeats 16000000 in
theorem drawOutside_any (w : World) (g : Nat) (a : Option Addr) (c : Nat) (xs : List Int) (hr : Rd w g a .u8 xs) (hb : Byt xs) (hl : xs.length ≤ 1048576) :
    Calls Try.prog 41 #[.slice a xs.length c] w fun e w' => (∃ (p : List UInt8) (v6 v7 : Value) (q6 q7 : Nat) (pm ex : List (List UInt8)), e = .returned (.tuple #[.string ⟨⟨p⟩⟩, v6, v7]) ∧ p.length ≤ 300 ∧ RowAt w' q6 v6 pm ∧ RowAt w' q7 v7 ex ∧ (∀ l ∈ pm, l.length ≤ 202) ∧ (∀ l ∈ ex, l.length ≤ 202) ∧ pm.length ≤ 8 ∧ ex.length ≤ 8) ∧ Below w.heap.size w w' := by
  have HR := hide hr
  have HB := hide hb
  go_enter Try.func41, Try.ntmps41
  go_wp2_with fail
  refine (l1Source_any w a xs.length c hl).mono ?_
  rintro e w1 ⟨rfl, S1, n1⟩
  have D1 : Hid (Dra w1 w.heap.size g a c xs 0) := ⟨S1, HR.out.up n1, fun h => by have := HR.out.lt h; omega, HB.out, hl, by omega⟩
  have U1 : Hid (But w.heap.size w w1) := But.ofBelow n1
  have FB := hide (fun W (h : But w.heap.size w W) => h.below (Nat.le_refl _) (Nat.le_refl _))
  have GL : Hid (0 < xs.length → g < w.heap.size) := fun h => HR.out.lt h
  have SL : Hid (w.heap.size < w1.heap.size) := S1.lt
  clear S1 n1 hr hb HR HB
  generalize hs : w.heap.size = s at D1 U1 ⊢
  have HS := hide hs
  clear hs
  go_wp2_with fail
  refine (drawPattern_D D1.out (by omega)).mono ?_
  rintro e w2 ⟨p, u2, rfl, hp, hu2, d2, b2⟩
  have D2 := hide d2
  have U2 := hide (U1.out.trans b2)
  have S2 : Hid (s < w2.heap.size) := d2.S.lt
  clear d2 b2 D1 U1
  go_wp2_with fail
  refine (drawList_D D2.out (by omega) 3 (by omega) (by omega)).mono ?_
  rintro e w3 ⟨v6, q6, pm, u3, rfl, r6, l6, b6, k6, hu3, d3, b3⟩
  have D3 := hide d3
  have U3 := hide (U2.out.trans b3)
  have R6 := hide r6
  have LT6 := hide r6.lt
  clear d3 b3 D2
  obtain ⟨c6, rfl⟩ := r6.e
  clear r6
  go_wp2_with fail
  refine (drawList_D D3.out (by omega) 2 (by omega) (by omega)).mono ?_
  rintro e w4 ⟨v7, q7, ex, u4, rfl, r7, l7, b7, k7, hu4, d4, b4⟩
  have PO4 : Hid (PO w s g a c xs 3 3 100 (.slice (some ⟨q6, 0, none⟩) pm.length c6) v7 w4 q6 q7 pm ex u4) := by
    have h1 := S2.out
    have h2 := LT6.out
    have h3 := GL.out
    have h4 := HS.out
    have h5 := U2.out.size
    exact { r6 := R6.out.but b4 (by omega), r7 := r7, ne := by omega, l6 := by omega, l7 := by have := U3.out.size; omega, b6 := fun l h => by have := b6 l h; omega, b7 := fun l h => by have := b7 l h; omega, k6 := k6, k7 := k7, hu := by omega, D := d4, U := U3.out.trans b4, sl := by omega, s6 := by omega, s7 := by omega, g6 := fun h => by have := h3 h; omega, g7 := fun h => by have := h3 h; omega }
  clear r7 l7 b7 k7 hu4 d4 b4 R6 LT6 D3 U3 l6 b6 k6 hu3 U2 S2 GL SL hu2
  generalize (Value.slice (some ⟨q6, 0, none⟩) pm.length c6) = v6 at *
  have BP := hide (fun W => l11Bas_any W p (by omega))
  have bl := bas_len p
  have bl2 : (bas p).length ≤ 72 := by omega
  go_wp2_with fail
  refine (chance_D PO4.out.D (by have := PO4.out.hu; omega) (by omega) (by omega)).mono ?_
  rintro e x1 ⟨t1, rfl, dd, bb⟩
  have A1 : Hid (PO w s g a c xs 3 3 101 v6 v7 x1 q6 q7 pm ex (u4 + 1)) := PO4.out.ask bb dd (by have := PO4.out.hu; omega)
  clear dd bb PO4
  go_upto_if 18 with fail
  go_cut [7] (fun v wc => ∃ q6 pm u, PO w s g a c xs 3 3 101 v v7 wc q6 q7 pm ex u)
  case first =>
    cases t1 with
    | true =>
      have R0 : RowAt (x1.alloc (.cells #[] 9)) x1.heap.size (.slice (some ⟨x1.heap.size, 0, none⟩) 0 0) [] := RowAt.new x1 [] (by simp)
      have n0 : Below x1.heap.size x1 (x1.alloc (.cells #[] 9)) := (Below.refl _ _).alloc (Nat.le_refl _) _
      have PN : Hid (PO w s g a c xs 3 3 101 (.slice (some ⟨x1.heap.size, 0, none⟩) 0 0) v7 (x1.alloc (.cells #[] 9)) x1.heap.size q7 [] ex (u4 + 1)) := by
        have h := A1.out.up n0
        have h1 := A1.out.r7.lt
        have h2 := A1.out.D.S.lt
        have h3 := A1.out.U.size
        have h4 := fun hl => A1.out.D.R.lt hl
        exact { h with r6 := R0, ne := by omega, l6 := h3, b6 := fun l hl => absurd hl (by simp), k6 := by simp, s6 := by omega, g6 := fun hl => by have := h4 hl; omega }
      clear R0 n0 A1
      go_wp2_with fail
      go_meet
      exact ⟨_, _, _, PN.out⟩
    | false =>
      go_wp2_with fail
      go_meet
      exact ⟨_, _, _, A1.out⟩
  case rest =>
    clear A1
    obtain ⟨q6, pm, i5, P5⟩ := hcut
    have PO5 := hide P5
    clear P5
    obtain ⟨va, hva⟩ : ∃ v, v = u7 := ⟨_, rfl⟩
    rw [← hva] at PO5 ⊢
    clear hva
    go_wp2_with fail
    refine (chance_D PO5.out.D (by have := PO5.out.hu; omega) (by omega) (by omega)).mono ?_
    rintro e x2 ⟨t2, rfl, dd, bb⟩
    have A2 : Hid (PO w s g a c xs 3 3 102 va v7 x2 q6 q7 pm ex (i5 + 1)) := PO5.out.ask bb dd (by have := PO5.out.hu; omega)
    clear dd bb PO5
    go_upto_if 21 with fail
    go_cut [8] (fun v wc => ∃ q7 ex u, PO w s g a c xs 3 4 102 va v wc q6 q7 pm ex u)
    case first =>
      cases t2 with
      | true =>
        have ad : ∀ W : World, (Op.stringOp .add (ByteArray.mk #[113, 46]) (ByteArray.mk ⟨bas p⟩)).run Try.prog W = .ok (.string ⟨⟨113 :: 46 :: bas p⟩⟩) W := fun W => tx_add W [113, 46] (bas p) (by simp; omega)
        obtain ⟨v', w', g', hap, PN⟩ := A2.out.app7 (113 :: 46 :: bas p) (by simp; omega) (by omega)
        have PH := hide PN
        clear PN A2
        go_wp2_with fail
        refine (BP.out x2).mono ?_
        rintro e z2 ⟨rfl, hz⟩
        have hz' := hz.symm
        subst hz'
        go_wp2_with (at_builtin; refine Lib.wpList_append_run _ rfl _ _ 28 28 rfl _ _ rfl rfl _ _ hap ?_)
        go_meet
        exact ⟨_, _, _, PH.out⟩
      | false =>
        have PH : Hid (PO w s g a c xs 3 4 102 va v7 x2 q6 q7 pm ex (i5 + 1)) := { A2.out with k7 := by have := A2.out.k7; omega }
        clear A2
        go_wp2_with fail
        go_meet
        exact ⟨_, _, _, PH.out⟩
    case rest =>
      clear A2
      obtain ⟨q7, ex, i6, P6⟩ := hcut
      have PO6 := hide P6
      clear P6
      obtain ⟨vb, hvb⟩ : ∃ v, v = u8 := ⟨_, rfl⟩
      rw [← hvb] at PO6 ⊢
      clear hvb
      go_wp2_with fail
      refine (chance_D PO6.out.D (by have := PO6.out.hu; omega) (by omega) (by omega)).mono ?_
      rintro e x3 ⟨t3, rfl, dd, bb⟩
      have A3 : Hid (PO w s g a c xs 3 4 103 va vb x3 q6 q7 pm ex (i6 + 1)) := PO6.out.ask bb dd (by have := PO6.out.hu; omega)
      clear dd bb PO6
      go_upto_if 29 with fail
      go_cut [7] (fun v wc => ∃ q6 pm u, PO w s g a c xs 4 4 103 v vb wc q6 q7 pm ex u)
      case first =>
        cases t3 with
        | true =>
          obtain ⟨v', w', g', hap, PN⟩ := A3.out.swap.app7 (bas p) (by omega) (by omega)
          have PH := hide PN.swap
          clear PN A3
          go_wp2_with fail
          refine (BP.out x3).mono ?_
          rintro e z2 ⟨rfl, hz⟩
          have hz' := hz.symm
          subst hz'
          go_wp2_with (at_builtin; refine Lib.wpList_append_run _ rfl _ _ 28 28 rfl _ _ rfl rfl _ _ hap ?_)
          go_meet
          exact ⟨_, _, _, PH.out⟩
        | false =>
          have PH : Hid (PO w s g a c xs 4 4 103 va vb x3 q6 q7 pm ex (i6 + 1)) := { A3.out with k6 := by have := A3.out.k6; omega }
          clear A3
          go_wp2_with fail
          go_meet
          exact ⟨_, _, _, PH.out⟩
      case rest =>
        clear A3
        obtain ⟨q6, pm, i7, P7⟩ := hcut
        have PO7 := hide P7
        clear P7
        obtain ⟨vc, hvc⟩ : ∃ v, v = u7 := ⟨_, rfl⟩
        rw [← hvc] at PO7 ⊢
        clear hvc
        go_wp2_with fail
        refine (chance_D PO7.out.D (by have := PO7.out.hu; omega) (by omega) (by omega)).mono ?_
        rintro e x4 ⟨t4, rfl, dd, bb⟩
        have A4 : Hid (PO w s g a c xs 4 4 104 vc vb x4 q6 q7 pm ex (i7 + 1)) := PO7.out.ask bb dd (by have := PO7.out.hu; omega)
        clear dd bb PO7
        cases t4 with
        | false =>
          have E6 := A4.out.r6
          have E7 := A4.out.r7
          obtain ⟨ca, rfl⟩ := E6.e
          obtain ⟨cb, rfl⟩ := E7.e
          clear E6 E7
          go_wp2
          exact bodyPost_ret (v := .tuple #[.string ⟨⟨p⟩⟩, .slice (some ⟨q6, 0, none⟩) pm.length ca, .slice (some ⟨q7, 0, none⟩) ex.length cb]) (by simp [results, Try.results41, go_sem]) rfl ⟨⟨p, _, _, q6, q7, pm, ex, rfl, by omega, A4.out.r6, A4.out.r7, A4.out.b6, A4.out.b7, by have := A4.out.k6; omega, by have := A4.out.k7; omega⟩, FB.out _ (by rw [HS.out]; exact A4.out.U)⟩
        | true =>
          go_wp2_with fail
          refine (drawAny_D A4.out.D (by have := A4.out.hu; omega)).mono ?_
          rintro e x5 ⟨y, i8, rfl, hy, hi8, dd, bb⟩
          have A5 : Hid (PO w s g a c xs 4 4 120 vc vb x5 q6 q7 pm ex i8) := A4.out.ask bb dd (by have := A4.out.hu; omega)
          clear dd bb A4
          obtain ⟨v', w', g', hap, PN⟩ := A5.out.app7 y (by omega) (by omega)
          have PH := hide PN
          clear PN A5
          go_wp2_with (at_builtin; refine Lib.wpList_append_run _ rfl _ _ 28 28 rfl _ _ rfl rfl _ _ hap ?_)
          clear hap
          go_wp2_with fail
          refine (drawAny_D PH.out.D (by have := PH.out.hu; omega)).mono ?_
          rintro e x6 ⟨z, i9, rfl, hz, hi9, dd, bb⟩
          have A6 : Hid (PO w s g a c xs 4 5 140 vc v' x6 q6 g' pm (ex ++ [y]) i9) := PH.out.ask bb dd (by have := PH.out.hu; omega)
          clear dd bb PH
          have ad : ∀ W : World, (Op.stringOp .add (ByteArray.mk #[42, 46]) (ByteArray.mk ⟨z⟩)).run Try.prog W = .ok (.string ⟨⟨42 :: 46 :: z⟩⟩) W := fun W => tx_add W [42, 46] z (by simp; omega)
          generalize ex ++ [y] = ey at *
          have E6 := A6.out.r6
          have E7 := A6.out.r7
          obtain ⟨ca, rfl⟩ := E6.e
          obtain ⟨cb, rfl⟩ := E7.e
          clear E6 E7
          go_wp2
          exact bodyPost_ret (v := .tuple #[.string ⟨⟨42 :: 46 :: z⟩⟩, .slice (some ⟨q6, 0, none⟩) pm.length ca, .slice (some ⟨g', 0, none⟩) ey.length cb]) (by simp [results, Try.results41, go_sem]) rfl ⟨⟨42 :: 46 :: z, _, _, q6, g', pm, ey, rfl, by simp; omega, A6.out.r6, A6.out.r7, A6.out.b6, A6.out.b7, by have := A6.out.k6; omega, by have := A6.out.k7; omega⟩, FB.out _ (by rw [HS.out]; exact A6.out.U)⟩
end Go.Proofs.Ytheggghidhjplaa
