
/-
  The model's DecodeHex and the law of DecodeHex.
-/
import Derived.Test.YtdgbioekofmekaaHxS
namespace Go.Proofs.Ytdgbioekofmekaa
open Go Go.RowKit

set_option maxRecDepth 100000 in
set_option maxHeartbeats 4000000 in
theorem specDecodeHex_any (w : World) (l : List UInt8) (hl : l.length ≤ 1048576) :
    Calls Try.prog 10 #[.string ⟨⟨l⟩⟩] w fun e w' => NewX w.heap.size w' e (dhG l) (dhD l) ∧ Below w.heap.size w w' := by
  have hal : Below w.heap.size w (w.alloc (.cells #[.bool false, .slice none 0 0] 28)) := (Below.refl _ _).alloc (Nat.le_refl _) _
  have TW := Two.new w (.bool false) (.slice none 0 0) 28
  have P0 : w.heap.size < (w.alloc (.cells #[.bool false, .slice none 0 0] 28)).heap.size := by simp
  have HX := fun W => hide (l20Hex_any W l hl)
  have HL : (h2L l).length ≤ 1048576 := by rw [h2L_len]; omega
  have EH := fun W g a c h => hide (specEncodeHex_any W g a c (h2L l) h (h2L_byt l) HL)
  have IFF := ehF_h2 l
  have DD : Hid (dhD l = if dhG l = true then h2L l else []) := rfl
  obtain ⟨t, ht⟩ : ∃ t, t = ehF (h2L l) := ⟨_, rfl⟩
  rw [← ht] at EH IFF
  obtain ⟨s, hs⟩ : ∃ s, s = ByteArray.mk ⟨l⟩ := ⟨_, rfl⟩
  rw [← hs] at HX IFF ⊢
  clear ht hs
  go_enter Try.func10, Try.ntmps10
  go_wp2_with fail
  generalize w.alloc (.cells #[.bool false, .slice none 0 0] 28) = wa at *
  refine (HX wa).out.mono ?_
  rintro e w1 ⟨v, rfl, R1, n1⟩
  obtain ⟨a1, c1, g1, rfl, o1, p1, q1, r1⟩ := R1.own
  have N1 := nxt hal n1
  have T1 := TW.up n1
  clear HX R1 TW hal
  go_wp2_with fail
  refine (EH w1 g1 a1 c1 o1.rd).out.mono ?_
  rintro e w2 ⟨rfl, n2⟩
  have N2 := nxt N1 n2
  have T2 := T1.up n2
  have o2 := o1.up n2
  have k0 := T2.c0
  have k1 := T2.c1
  have k2 := T2.f0
  have k3 := T2.f1
  clear EH o1 T1 N1 n1 n2
  by_cases h : t = s
  · subst h
    have E1 := hide (IFF.1 rfl)
    have d0 : (t.toList == t.toList) = true := by simp
    clear IFF
    go_wp2
    have OF := (Only.setCell w2 w.heap.size 0 (.bool true)).trans (Only.setCell _ w.heap.size 1 (.slice a1 (h2L l).length c1))
    have NF := N2.trans (OF.below (Nat.le_refl _))
    have BF := o2.only OF (fun _ => by omega)
    exact bodyPost_ret (v := .agg #[.bool true, .slice a1 (h2L l).length c1]) (by simp [results, Try.results10, go_sem, k0, k1]) rfl (by
      show NewX _ _ _ (dhG l) (dhD l) ∧ _
      rw [DD.out, E1.out, if_pos rfl]
      exact ⟨⟨a1, c1, g1, rfl, BF, p1, q1, by omega⟩, NF⟩)
  · have E1 : Hid (dhG l = false) := by
      show _ = _
      cases hd : dhG l with
      | false => rfl
      | true => exact absurd (IFF.2 hd) h
    have d1 : (t.toList == s.toList) = false := by
      rw [beq_eq_false_iff_ne]
      intro e
      rw [ByteArray.toList_eq, ByteArray.toList_eq] at e
      exact h (by
        obtain ⟨⟨t⟩⟩ := t
        obtain ⟨⟨s⟩⟩ := s
        simp only at e
        rw [e])
    clear IFF
    go_wp2
    exact bodyPost_ret (v := .agg #[.bool false, .slice none 0 0]) (by simp [results, Try.results10, go_sem, k0, k1]) rfl (by
      have NF := N2.trans (((Only.setCell w2 w.heap.size 0 (.bool false)).trans (Only.setCell _ w.heap.size 1 (.slice none 0 0))).below (Nat.le_refl _))
      show NewX _ _ _ (dhG l) (dhD l) ∧ _
      rw [DD.out, E1.out]
      exact ⟨NewX.none false NF.size, NF⟩)
set_option maxHeartbeats 4000000 in
theorem decHex_law (w : World) (s : ByteArray) (hs : s.size ≤ 9223372036854775807) :
    Calls Try.prog 4 #[.string s] w fun e w' => e = .returned (.bool true) ∧ Below w.heap.size w w' := by
  obtain ⟨⟨l⟩⟩ := s
  have hsz := tx_size l
  rw [hsz] at hs
  by_cases h : 1048576 < l.length
  · have t0 : decide ((1048576 : Int) < (l.length : Int)) = true := by simp; omega
    go_enter Try.func4, Try.ntmps4
    go_wp2
    go_ret
    exact ⟨rfl, Below.refl _ _⟩
  · have t0 : decide ((1048576 : Int) < (l.length : Int)) = false := by simp; omega
    have SP := hide (fun W => specDecodeHex_any W l (by omega))
    have IM := hide (fun W => implDecodeHex_any W l (by omega))
    have hy : (dhD l).length ≤ 1048576 := by
      unfold dhD
      split
      · rw [h2L_len]; omega
      · simp
    generalize dhG l = t at *
    generalize dhD l = ys at *
    go_enter Try.func4, Try.ntmps4
    go_wp2_with fail
    refine (SP.out w).mono ?_
    rintro e w3 ⟨NR, n3⟩
    obtain ⟨a3, c3, g3, rfl, o3, p3, q3, r3⟩ := NR
    have T5 := Two.new w3 (.bool t) (.slice a3 ys.length c3) 28
    have n4 : Below w3.heap.size w3 (w3.alloc (.cells #[.bool t, .slice a3 ys.length c3] 28)) := (Below.refl _ _).alloc (Nat.le_refl _) _
    clear SP
    go_wp2_with fail
    generalize w3.alloc (.cells #[.bool t, .slice a3 ys.length c3] 28) = w4 at *
    have N4 := nxt n3 n4
    have o4 := o3.up n4
    have l4 := T5.lt
    clear o3 n4
    refine (IM.out w4).mono ?_
    rintro e w7 ⟨NR, n7⟩
    obtain ⟨a7, c7, g7, rfl, o7, p7, q7, r7⟩ := NR
    have N7 := nxt N4 n7
    have T8 := Two.new w7 (.bool t) (.slice a7 ys.length c7) 28
    have n8 : Below w7.heap.size w7 (w7.alloc (.cells #[.bool t, .slice a7 ys.length c7] 28)) := (Below.refl _ _).alloc (Nat.le_refl _) _
    have T5a := T5.up n7
    have o7a := o4.up n7
    have T5b := T5a.up n8
    have c50 := T5b.c0
    have c51 := T5b.c1
    have c50' := T5a.c0
    have c51' := T5a.c1
    have l37 : w3.heap.size < w7.heap.size := T5a.lt
    have lg : 0 < ys.length → g3 < w4.heap.size := fun h => o4.rd.lt h
    have l47 := n7.size
    have s8 : w7.heap.size < (w7.alloc (.cells #[.bool t, .slice a7 ys.length c7] 28)).heap.size := by simp
    have lg7 : 0 < ys.length → g7 < w7.heap.size := fun h => o7.rd.lt h
    clear T5 o4
    go_wp2_with fail
    generalize w7.alloc (.cells #[.bool t, .slice a7 ys.length c7] 28) = w8 at *
    have N8 := nxt N7 n8
    have o3b := o7a.up n8
    have o7b := o7.up n8
    clear T5a o7a o7 n8 N7 c50 c51 c50' c51'
    refine (eqHexResult_same w8 t _ _ _ _ _ _ ys o7b.rd o3b.rd hy).mono ?_
    rintro e w9 ⟨rfl, n9⟩
    have N9 := nxt N8 n9
    have T5c := T5b.up n9
    have T8c := T8.up n9
    have o3c := o3b.up n9
    have o7c := o7b.up n9
    have l9 := n9.size
    have c80 := T8c.c0
    have c81 := T8c.c1
    have sN := n3.size
    clear T5b T8 o3b o7b n9 N8
    obtain ⟨G, oG, g1, g2, g3', g4⟩ : ∃ G, Own w9 G a7 .u8 ys ∧ w3.heap.size ≠ G ∧ w7.heap.size ≠ G ∧ (0 < ys.length → g3 ≠ G) ∧ w.heap.size ≤ G := by
      by_cases h0 : 0 < ys.length
      · exact ⟨g7, o7c, by omega, by have := lg7 h0; omega, fun _ => by have := lg h0; omega, by omega⟩
      · obtain rfl : ys = [] := List.eq_nil_of_length_eq_zero (by omega)
        exact ⟨w9.heap.size, Own.nil _ _ _ _, by omega, by omega, fun h => absurd h (by simp), by omega⟩
    clear o7c
    go_wp2_with fail
    refine (markHexResult_any w9 t _ _ _ ys 1 oG hy (by decide) (by decide)).mono ?_
    rintro e wE ⟨rfl, oE, OE⟩
    have t3 : decide ((1 : Int) + (ys.length : Int) < 0) = false := by simp; omega
    have NE : Below w.heap.size w wE := N9.trans (OE.below (by omega) (by have := N9.size; omega))
    have T5e := T5c.but OE g1
    have T8e := T8c.but OE g2
    have o3e := o3c.but OE g3'
    have c50 := T5e.c0
    have c51 := T5e.c1
    have c80 := T8e.c0
    have c81 := T8e.c1
    clear T5c T8c o3c OE N9 oG g1 g2 g3' g4
    go_wp2_with fail
    refine (heldHexResult_any wE t _ _ _ ys.length 1 oE.rd hy (by decide) (by decide)).mono ?_
    rintro e wF ⟨rfl, nF⟩
    have NF := nxt NE nF
    have T5f := T5e.up nF
    have T8f := T8e.up nF
    have o3f := o3e.up nF
    have oF := oE.up nF
    clear T5e T8e o3e oE NE nF c50 c51 c80 c81
    go_wp2_with fail
    refine (IM.out wF).mono ?_
    rintro e wG ⟨NR, nG⟩
    obtain ⟨aG, cG, gG, rfl, oG, pG, qG, rG⟩ := NR
    have NG := nxt NF nG
    have TG := Two.new wG (.bool t) (.slice aG ys.length cG) 28
    have nH : Below wG.heap.size wG (wG.alloc (.cells #[.bool t, .slice aG ys.length cG] 28)) := (Below.refl _ _).alloc (Nat.le_refl _) _
    have T5g := T5f.up nG
    have T8g := T8f.up nG
    have o3g := o3f.up nG
    have oFg := oF.up nG
    have T5h := T5g.up nH
    have T8h := T8g.up nH
    have c50 := T5h.c0
    have c51 := T5h.c1
    have c80 := T8h.c0
    have c81 := T8h.c1
    have d50 := T5g.c0
    have d51 := T5g.c1
    clear T5f T8f o3f oF nG NF
    go_wp2_with fail
    generalize wG.alloc (.cells #[.bool t, .slice aG ys.length cG] 28) = wH at *
    have NH := nxt NG nH
    have o3h := o3g.up nH
    have oGh := oG.up nH
    have oFh := oFg.up nH
    clear T5g T8g o3g oG oFg nH NG d50 d51
    refine (eqHexResult_same wH t _ _ _ _ _ _ ys oGh.rd o3h.rd hy).mono ?_
    rintro e wI ⟨rfl, nI⟩
    have NI := nxt NH nI
    have T8i := T8h.up nI
    have oFi := oFh.up nI
    have e80 := T8i.c0
    have e81 := T8i.c1
    clear c50 c51 c80 c81 T5h T8h o3h oGh oFh NH nI
    go_wp2_with fail
    refine (heldHexResult_any wI t _ _ _ ys.length 1 oFi.rd hy (by decide) (by decide)).mono ?_
    rintro e wJ ⟨rfl, nJ⟩
    go_wp2
    go_ret
    exact ⟨rfl, nxt NI nJ⟩
end Go.Proofs.Ytdgbioekofmekaa
