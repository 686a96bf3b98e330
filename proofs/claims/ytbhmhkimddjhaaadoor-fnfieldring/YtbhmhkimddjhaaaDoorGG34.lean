import Derived.Test.YtbhmhkimddjhaaaDoorGG31
import Derived.Test.YtbhmhkimddjhaaaDoorGG33
/-
  What FnFieldRing draws: two elements, a ladder's key and u.
-/
namespace Go.Proofs.YtbhmhkimddjhaaaDoor
set_option maxRecDepth 100000
open Go Go.RowKit

set_option maxHeartbeats 2000000 in
theorem l1Int1_any (w : World) (v : Int) (v0 : 1 ≤ v) (v1 : v ≤ 255) :
    Calls Tryd.prog 98 #[.int .i64 v] w fun e w' => ∃ ys, ys = [v] ∧ NewRow w.heap.size w' e .u8 ys ∧ Below w.heap.size w w' := by
  obtain ⟨i0, hi, hz0, hz1, hz2⟩ := info_parts Tryd.info5
  have hown0 : (w.alloc (.cells #[] 5)).ownsRow w.heap.size 5 1 (.slice (some ⟨w.heap.size, 0, none⟩) 0 0) 0 [] := World.ownsRow_lit w #[] 0 (Nat.le_refl _) (by unfold maxLen; omega) (by simp)
  have hal : Below w.heap.size w (w.alloc (.cells #[] 5)) := (Below.refl _ _).alloc (Nat.le_refl _) _
  go_enter Tryd.func98, Tryd.ntmps98
  go_wp2
  go_loopw [0, 3] (fun q vv wr => ∃ (k : Nat) (t : Int) (ys : List Int), q = .int .i64 t ∧ 0 ≤ t ∧ t ≤ 255 ∧ k ≤ 1 ∧ (0 < t → k = 0) ∧ Hid ((0 < t → t = v) ∧ (t = 0 → ys = [v])) ∧ Hid (ys.length = k) ∧ Byt ys ∧ wr.ownsRow w.heap.size 5 1 vv k (ys.map (Value.int .u8)) ∧ Below w.heap.size w wr) (fun q _ _ => (intOf q).toNat)
  case atStart => exact ⟨0, v, [], rfl, by omega, v1, by omega, fun _ => rfl, ⟨fun _ => rfl, fun h => absurd h (by omega)⟩, rfl, byt_nil, hown0, hal⟩
  case round =>
    obtain ⟨k, t, ys, rfl, ht0, ht1, hk1, hk0, hvl, hyl, hyb, hown, hN⟩ := hrel
    have hob := hown.lt
    by_cases hlt : 0 < t
    · have hk := hk0 hlt
      subst hk
      have m1 : t % 256 = t := by omega
      have m2 : t / 256 = 0 := by omega
      clear hk0 hk1
      go_wp2_with (at_builtin; refine wpList_append_own _ rfl _ _ 22 rfl w.heap.size 5 i0 (.int .u8 0) 1 1 Tryd.underlying22 hi hz0 hz1 hz2 rfl (by decide) _ 0 (ys.map (Value.int .u8)) rfl (hown.alloc _) ⟨wr.heap.size, 0, none⟩ 1 1 [.int .u8 t] rfl rfl ?c1 ?c2 ?c3 ?c4 ?c5 ?_)
      case c1 =>
        intro j u hj
        match j, hj with
        | 0, hj => simp at hj; subst hj; simp [Addr.add]
      case c2 => intro u hu; simp at hu; subst hu; rfl
      case c3 => unfold maxLen; omega
      case c4 => omega
      case c5 => simp; have := hN.size; omega
      · intro v' w2 hown2 hgrow _
        have nA : Below w.heap.size w (wr.alloc (.cells #[.int .u8 t] 5)) := hN.alloc hN.size _
        have N2 : Below w.heap.size w w2 := nA.grown hgrow (by simp; have := hN.size; omega) (fun i hi => (hob i hi).1)
        have hown3 : w2.ownsRow w.heap.size 5 1 v' 1 ((ys ++ [t]).map (Value.int .u8)) := by simpa using hown2
        have hl3 : Hid ((ys ++ [t]).length = 1) := by show _ = _; have := hyl.out; simp; exact List.eq_nil_of_length_eq_zero this
        have hb3 := byt_snoc hyb t ht0 (by omega)
        have hv3 : Hid (ys ++ [t] = [v]) := by
          show _ = _
          rw [List.eq_nil_of_length_eq_zero hyl.out, hvl.out.1 hlt]
          rfl
        clear hown hown2 hgrow nA hob
        go_wp2
        go_roundw
        case rel => exact ⟨1, t / 256, ys ++ [t], rfl, by omega, by omega, by omega, fun h => absurd h (by omega), ⟨fun h => absurd h (by omega), fun _ => hv3.out⟩, hl3, hb3, hown3, N2⟩
        case measure => simp [intOf]; omega
    · obtain rfl : t = 0 := by omega
      have hown' := hown
      rw [← hyl.out] at hown'
      obtain ⟨a', c', g', hv, o1, o2, o3, o4⟩ := Own.of_ownsRow hown'
      subst hv
      have L : ys.length ≤ 1 := by rw [hyl.out]; exact hk1
      have T := l1Turn_any wr g' a' c' ys o1.rd hyb (by omega)
      have HT := hide T
      clear hown hown' hk0 T
      go_wp2_with fail
      refine (unhide HT).mono ?_
      rintro e w3 ⟨zs, zt, zb, ⟨a3, c3, g3, rfl, o31, o32, o33, o34⟩, n3⟩
      have zl := zt.1
      have ZV : Hid (zs = [v]) := by
        show _ = _
        have e := hvl.out.2 (by first | exact True.intro | rfl)
        have g := zt.2 0 (by rw [e]; simp)
        rw [e] at zl g
        match zs, zl, g with
        | [z], _, g => simpa using g
      clear zt
      have N3 := nxt hN n3
      have sz := hN.size
      have ZL : zs.length ≤ 1 := by omega
      clear zl
      go_wp2
      go_ret
      exact ⟨zs, ZV.out, ⟨_, _, g3, rfl, o31, o32, o33, by omega⟩, N3⟩

set_option maxHeartbeats 2000000 in
theorem drawFieldMul_any (w : World) (g : Nat) (a : Option Addr) (c : Nat) (code : List Int) (hr : Rd w g a .u8 code) (hb : Byt code) (hl : code.length ≤ 1048576) :
    Calls Tryd.prog 84 #[.slice a code.length c] w fun e w' => ∃ (a1 a2 : Option Addr) (c1 c2 g1 g2 : Nat) (xs ys : List Int), e = .returned (.tuple #[.slice a1 xs.length c1, .slice a2 ys.length c2]) ∧ Own w' g1 a1 .u8 xs ∧ Own w' g2 a2 .u8 ys ∧ Byt xs ∧ Byt ys ∧ Below w.heap.size w w' := by
  have hne : 0 < code.length → g ≠ w.heap.size := fun h => by have := hr.lt h; omega
  go_enter Tryd.func84, Tryd.ntmps84
  go_wp2_with fail
  refine (l1Source_any w a code.length c hl).mono ?_
  rintro e w1 ⟨rfl, S1, n1⟩
  have sl := S1.lt
  go_wp2_with fail
  refine (l2DrawT_any w1 w.heap.size g a c code 0 (by omega) (by omega) S1 (hr.up n1) hne hb hl).mono ?_
  rintro e w2 ⟨xs, xb, xl, ⟨a1, c1, g1, rfl, o1, p1, q1, r1⟩, N2, ⟨t2, t20, t21, S2⟩⟩
  have m2 := N2.size
  have n12 : Below w.heap.size w1 w2 := N2.below (Nat.le_refl _) (by omega)
  have K2 := n1.trans n12
  go_wp2_with fail
  refine (l2DrawT_any w2 w.heap.size g a c code t2 t20 (by omega) S2 (hr.up K2) hne hb hl).mono ?_
  rintro e w3 ⟨ys, yb, yl, ⟨a2, c2, g2, rfl, o2, p2, q2, r2⟩, N3, ⟨t3, t30, t31, S3⟩⟩
  have n23 : Below w.heap.size w2 w3 := N3.below (Nat.le_refl _) (by omega)
  have K3 := K2.trans n23
  have o1a := o1.but N3 (fun _ => by omega)
  clear N2 N3 S1 S2 S3 n1 n12 n23 K2 o1
  go_wp2
  go_ret2
  exact ⟨a1, a2, c1, c2, g1, g2, xs, ys, rfl, o1a, o2, xb, yb, K3⟩

set_option maxHeartbeats 2000000 in
theorem l4DrawKey_any (w : World) (s g : Nat) (a : Option Addr) (c : Nat) (xs : List Int) (t : Int) (t0 : 0 ≤ t) (t1 : t ≤ 5000) (hs : Src w s a xs.length c t) (hr : Rd w g a .u8 xs) (hne : 0 < xs.length → g ≠ s) (hb : Byt xs) (hl : xs.length ≤ 1048576) :
    Calls Tryd.prog 120 #[.pointer (some ⟨s, 0, none⟩)] w fun e w' => ∃ ys, Byt ys ∧ ys.length ≤ 64 ∧ NewRow w.heap.size w' e .u8 ys ∧ But s w w' ∧ SrcTo w' s a xs.length c (t + 400) := by
  have sl := hs.lt
  go_enter Tryd.func120, Tryd.ntmps120
  go_wp2_with fail
  refine (l1Chance_any w s g a c xs t 30 hs hr hne hb hl (by omega) (by omega) (by decide) (by decide)).mono ?_
  rintro e w1 ⟨b, rfl, S1, O1⟩
  have N1 : But s w w1 := But.ofOnly O1
  have z1 := hide O1.size
  cases b with
  | true =>
    go_wp2_with fail
    refine (l1Next_any w1 s g a c xs (t + 1) 2 S1 (hr.but N1 hne) hne hb hl (by omega) (by omega) (by decide) (by decide)).mono ?_
    rintro e w2 ⟨v, rfl, ⟨v0, v1⟩, S2, O2⟩
    have N2 := N1.only O2
    have z2 := hide O2.size
    obtain ⟨m, hm⟩ : ∃ m : Nat, (m : Int) = 31 + 2 * v := ⟨(31 + 2 * v).toNat, by omega⟩
    have e1 : IntKind.i64.wrap (2 * v) = 2 * v := by rw [IntKind.wrap_i64]; omega
    have e2 : IntKind.i64.wrap (31 + 2 * v) = 31 + 2 * v := by rw [IntKind.wrap_i64]; omega
    have DB := l1DrawBytes_any w2 s g a c xs (t + 1 + 1) m S2 (hr.but N2 hne) hne hb hl (by omega) (by omega)
    rw [hm] at DB
    have HM := hide hm
    clear hm
    go_wp2_with fail
    refine DB.mono ?_
    rintro e w3 ⟨ys, yl, yb, ⟨a3, c3, g3, rfl, o3, p3, q3, r3⟩, S3, N3⟩
    have N4 := N2.trans N3
    have YL := hide yl
    have zz := hide (show w.heap.size ≤ g3 by have := z1.out; have := z2.out; omega)
    clear DB yl
    go_wp2
    go_ret
    exact ⟨ys, yb, by have := YL.out; have := HM.out; omega, ⟨a3, c3, g3, rfl, o3, p3, q3, zz.out⟩, N4, ⟨_, by omega, by omega, S3⟩⟩
  | false =>
    go_wp2_with fail
    refine (l3Draw_any w1 s g a c xs (t + 1) (by omega) (by omega) S1 (hr.but N1 hne) hne hb hl).mono ?_
    rintro e w2 ⟨ys, yb, yl, ⟨a3, c3, g3, rfl, o3, p3, q3, r3⟩, N3, ⟨t3, t30, t31, S3⟩⟩
    have N4 := N1.trans N3
    have YL := hide yl
    have zz := hide (show w.heap.size ≤ g3 by have := z1.out; omega)
    clear yl
    go_wp2
    go_ret
    exact ⟨ys, yb, YL.out, ⟨a3, c3, g3, rfl, o3, p3, q3, zz.out⟩, N4, ⟨t3, t30, by omega, S3⟩⟩
end Go.Proofs.YtbhmhkimddjhaaaDoor
