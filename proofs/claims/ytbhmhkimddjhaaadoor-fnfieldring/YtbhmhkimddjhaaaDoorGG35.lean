import Derived.Test.YtbhmhkimddjhaaaDoorGG34
/-
  The ladder's u, as it is drawn; DrawLadder.
-/
namespace Go.Proofs.YtbhmhkimddjhaaaDoor
set_option maxRecDepth 100000
open Go Go.RowKit

/-- A list of bytes that the drawing made. -/
def Drawn (w : World) (s : Nat) (a : Option Addr) (n c : Nat) (m : Int) (v : Value) (wc : World) : Prop :=
  ∃ (ys : List Int) (b : Option Addr) (d h : Nat), v = .slice b ys.length d ∧ Byt ys ∧ ys.length ≤ 64 ∧ Own wc h b .u8 ys ∧ (b = none → d = 0) ∧ ys.length ≤ d ∧ w.heap.size ≤ h ∧ But s w wc ∧ SrcTo wc s a n c m

theorem or128 : ∀ n : Fin 256, 0 ≤ bits BinOp.or IntKind.u8 (n.val : Int) 128 ∧ bits BinOp.or IntKind.u8 (n.val : Int) 128 < 256 := by decide +kernel
theorem or_bd {y : Int} (h : 0 ≤ y ∧ y < 256) : 0 ≤ bits BinOp.or IntKind.u8 y 128 ∧ bits BinOp.or IntKind.u8 y 128 < 256 := by
  have := or128 ⟨y.toNat, by omega⟩
  simp only [Int.toNat_of_nonneg h.1] at this
  exact this
theorem byt_set5 {ys : List Int} (h : Byt ys) (i : Nat) {v : Int} (hv : 0 ≤ v ∧ v < 256) : Byt (ys.set i v) := fun j => by
  rw [List.getD_eq_getElem?_getD, List.getElem?_set]
  split
  · split
    · exact hv
    · simp
  · rw [← List.getD_eq_getElem?_getD]; exact h j
theorem Drawn.only {w W W' : World} {s : Nat} {a : Option Addr} {n c : Nat} {m m' : Int} {v : Value} (h : Drawn w s a n c m v W) (o : Only s W W') (S : SrcTo W' s a n c m') (hs : s < w.heap.size := by omega) : Drawn w s a n c m' v W' := by
  obtain ⟨ys, b, d, g, rfl, yb, yl, oy, p, q, z, N, _⟩ := h
  exact ⟨ys, b, d, g, rfl, yb, yl, oy.only o (fun _ => by omega), p, q, z, N.only o, S⟩
theorem Drawn.le {w W : World} {s : Nat} {a : Option Addr} {n c : Nat} {m m' : Int} {v : Value} (h : Drawn w s a n c m v W) (hm : m ≤ m') : Drawn w s a n c m' v W := by
  obtain ⟨ys, b, d, g, e, yb, yl, oy, p, q, z, N, t, t0, t1, S⟩ := h
  exact ⟨ys, b, d, g, e, yb, yl, oy, p, q, z, N, t, t0, by omega, S⟩
theorem toLad_len (xs ys : List Int) : (toLad xs ys).length ≤ 64 := by
  unfold toLad
  split
  · rw [fill_len]; omega
  · simp
theorem toLad_byt (xs ys : List Int) : Byt (toLad xs ys) := by
  unfold toLad
  split
  · exact bytes_5 _ _
  · exact byt_nil
theorem drawn_little {w W W' : World} {s : Nat} {a : Option Addr} {n c : Nat} {m : Int} {xs : List Int} (hb : Byt xs) (B : Blk W' W.heap.size .u8 (fill (dig xs) 32)) (z : w.heap.size ≤ W.heap.size) (N : But s w W') (S : SrcTo W' s a n c m) :
    Drawn w s a n c m (.slice (some ⟨W.heap.size, 0, none⟩) 32 32) W' :=
  ⟨fill (dig xs) 32, _, 32, W.heap.size, by rw [fill_len], dig_bytes hb 32, by rw [fill_len]; omega, B.own0, by simp, by rw [fill_len]; omega, z, N, S⟩

set_option maxHeartbeats 4000000 in
theorem l4DrawU_any (w : World) (s g : Nat) (a : Option Addr) (c : Nat) (xs : List Int) (t : Int) (t0 : 0 ≤ t) (t1 : t ≤ 5000) (hs : Src w s a xs.length c t) (hr : Rd w g a .u8 xs) (hne : 0 < xs.length → g ≠ s) (hb : Byt xs) (hl : xs.length ≤ 1048576) :
    Calls Tryd.prog 121 #[.pointer (some ⟨s, 0, none⟩)] w fun e w' => ∃ ys, Byt ys ∧ ys.length ≤ 64 ∧ NewRow w.heap.size w' e .u8 ys ∧ But s w w' ∧ SrcTo w' s a xs.length c (t + 400) := by
  have sl := hs.lt
  go_enter Tryd.func121, Tryd.ntmps121
  go_wp2_with fail
  refine (l1Next_any w s g a c xs t 8 hs hr hne hb hl (by omega) (by omega) (by decide) (by decide)).mono ?_
  rintro e w1 ⟨r, rfl, ⟨r0, r1⟩, S1, O1⟩
  have N1 : But s w w1 := But.ofOnly O1
  have z1 := hide O1.size
  clear hs O1
  by_cases h0 : r = 0
  · subst h0
    clear r0 r1
    go_wp2_with fail
    refine (l2DrawT_any w1 s g a c xs (t + 1) (by omega) (by omega) S1 (hr.but N1 hne) hne hb hl).mono ?_
    rintro e w2 ⟨ys, yb, yl, ⟨a3, c3, g3, rfl, o3, p3, q3, r3⟩, N3, ⟨t3, t30, t31, S3⟩⟩
    have N4 := N1.trans N3
    have YL := hide yl
    have zz := hide (show w.heap.size ≤ g3 by have := z1.out; omega)
    clear yl
    go_wp2
    go_ret
    exact ⟨ys, yb, YL.out, ⟨a3, c3, g3, rfl, o3, p3, q3, zz.out⟩, N4, ⟨t3, t30, by omega, S3⟩⟩
  · have q0 : (r == 0) = false := by simp [h0]
    by_cases h1 : r = 1
    · subst h1
      clear r0 r1 h0 q0
      go_wp2_with fail
      refine (l1Next_any w1 s g a c xs (t + 1) 3 S1 (hr.but N1 hne) hne hb hl (by omega) (by omega) (by decide) (by decide)).mono ?_
      rintro e w2 ⟨v, rfl, ⟨v0, v1⟩, S2, O2⟩
      have N2 := N1.only O2
      have z2 := hide O2.size
      go_wp2_with fail
      refine (l1Int_any w2 v v0 (by omega)).mono ?_
      rintro e w3 ⟨us, ul, ub, ⟨a3, c3, g3, rfl, o3, p3, q3, r3⟩, n3⟩
      have N3 := N2.up n3
      have S3 := S2.up n3
      go_wp2_with fail
      refine (l1Little_any w3 g3 a3 c3 us 32 o3.rd ub (by omega) (by omega)).mono ?_
      rintro e w4 ⟨rfl, B4, n4⟩
      have N4 := N3.up n4
      have S4 := S3.up n4
      have D4 : Drawn w s a xs.length c (t + 10) (.slice (some ⟨w3.heap.size, 0, none⟩) 32 32) w4 := drawn_little ub B4 (by have := N3.size; omega) N4 ⟨_, by omega, by omega, S4⟩
      clear B4 n4 S3 N3 o3 p3 q3 r3 n3 S2 N2 O2 z2 v0 v1 S1 N1 z1
      go_wp2_with fail
      refine (l1Chance_any w4 s g a c xs (t + 1 + 1) 2 S4 (hr.but N4 hne) hne hb hl (by omega) (by omega) (by decide) (by decide)).mono ?_
      rintro e w5 ⟨b, rfl, S5, O5⟩
      have N5 := N4.only O5
      have D5 : Drawn w s a xs.length c (t + 10) (.slice (some ⟨w3.heap.size, 0, none⟩) 32 32) w5 := D4.only O5 ⟨_, by omega, by omega, S5⟩
      clear D4 O5 S4 N4
      go_upto_if 19 with fail
      go_cut [4] (fun v wc => Drawn w s a xs.length c (t + 20) v wc)
      case first =>
        cases b with
        | true =>
          go_wp2_with fail
          refine (l2Prime_any w5).mono ?_
          rintro e w6 ⟨rfl, B6, n6⟩
          have N6 := N5.up n6
          have S6 := S5.up n6
          have k6 := N5.size
          go_wp2_with fail
          refine (l1Next_any w6 s g a c xs (t + 1 + 1 + 1) 2 S6 (hr.but N6 hne) hne hb hl (by omega) (by omega) (by decide) (by decide)).mono ?_
          rintro e w7 ⟨v, rfl, ⟨v0, v1⟩, S7, O7⟩
          have N7 := N6.only O7
          have B7 := B6.own0.only O7 (fun _ => by omega)
          have e1 : IntKind.i64.wrap (v + 1) = v + 1 := by rw [IntKind.wrap_i64]; omega
          go_wp2_with fail
          refine (l1Int1_any w7 (v + 1) (by omega) (by omega)).mono ?_
          rintro e w8 ⟨vs, rfl, ⟨a8, c8, g8, rfl, o8, p8, q8, r8⟩, n8⟩
          have N8 := N7.up n8
          have S8 := S7.up n8
          have B8 := B7.up n8
          have n9 : Below w8.heap.size w8 (w8.alloc (.cells #[.int .u8 1] 5)) := (Below.refl _ _).alloc (Nat.le_refl _) _
          have B9 := one_a w8 1
          have bv := byt_one (d := v + 1) (by omega) (by omega)
          have ev : bval [v + 1] = v + 1 := by simp [bval]
          have e1' : bval [1] = 1 := by decide
          go_wp2_with fail
          generalize w8.alloc (.cells #[.int .u8 1] 5) = w9 at *
          refine (l1Sub_any w9 g8 _ a8 _ c8 1 [v + 1] [1] (o8.up n9).rd B9.own0.rd bv (byt_one (by omega) (by omega)) (by simp) (by simp) (by rw [ev, e1']; omega)).mono ?_
          rintro e wA ⟨ms, CA, ⟨aA, cA, gA, rfl, oA, pA, qA, rA⟩, nA⟩
          have NA := (N8.up n9).up nA
          have SA := (S8.up n9).up nA
          have BA := (B8.up n9).up nA
          rw [ev, e1'] at CA
          have LA : ms.length ≤ 1 := CA.len (n := 1) (by simp; omega)
          go_wp2_with fail
          refine (l1Add_any wA _ gA _ aA 32 cA pbytes ms BA.rd oA.rd pbytes_byt CA.1 (by decide) (by omega)).mono ?_
          rintro e wB ⟨hs', CB, ⟨aB, cB, gB, rfl, oB, pB, qB, rB⟩, nB⟩
          have NB' := NA.up nB
          have SB := SA.up nB
          have LB : hs'.length ≤ 64 := CB.len (n := 64) (by
            rw [pbytes_val, CA.2.1]
            have : PP + (v + 1 - 1) ≤ PP + 255 := by omega
            exact Int.lt_of_le_of_lt this (by decide))
          go_wp2_with fail
          refine (l1Little_any wB gB aB cB hs' 32 oB.rd CB.1 (by omega) (by omega)).mono ?_
          rintro e wC ⟨rfl, BC, nC⟩
          have DC : Drawn w s a xs.length c (t + 20) (.slice (some ⟨wB.heap.size, 0, none⟩) 32 32) wC := drawn_little CB.1 BC (by have := NB'.size; omega) (NB'.up nC) ⟨_, by omega, by omega, SB.up nC⟩
          clear D5
          go_wp2_with fail
          go_meet
          exact DC
        | false =>
          go_wp2_with fail
          go_meet
          exact D5.le (by omega)
      case rest =>
        clear D5 S5 N5
        obtain ⟨ys, b1, d1, h1, rfl, yb, yl, oy, py, qy, ry, N5, ⟨t5, t50, t51, S5⟩⟩ := hcut
        go_wp2_with fail
        refine (l1Chance_any wc s g a c xs t5 3 S5 (hr.but N5 hne) hne hb hl (by omega) (by omega) (by decide) (by decide)).mono ?_
        rintro e w6 ⟨b, rfl, S6, O6⟩
        have D6 : Drawn w s a xs.length c (t + 30) (.slice b1 ys.length d1) w6 := (show Drawn w s a xs.length c (t + 20) _ wc from ⟨ys, b1, d1, h1, rfl, yb, yl, oy, py, qy, ry, N5, ⟨t5, t50, t51, S5⟩⟩).only O6 ⟨_, by omega, by omega, S6⟩
        have N6 := N5.only O6
        clear oy py qy ry S5 N5 O6 yb yl
        go_upto_if 30 with fail
        go_cut [4] (fun v wc => Drawn w s a xs.length c (t + 40) v wc)
        case first =>
          cases b with
          | true =>
            go_wp2_with fail
            refine (l2Prime_any w6).mono ?_
            rintro e w7 ⟨rfl, B7, n7⟩
            have N7 := N6.up n7
            have S7 := S6.up n7
            have n9 : Below w7.heap.size w7 (w7.alloc (.cells #[.int .u8 1] 5)) := (Below.refl _ _).alloc (Nat.le_refl _) _
            have B9 := one_a w7 1
            have e1' : bval [1] = 1 := by decide
            go_wp2_with fail
            generalize w7.alloc (.cells #[.int .u8 1] 5) = w9 at *
            refine (l1Sub_any w9 _ _ _ _ 32 1 pbytes [1] (B7.up n9).own0.rd B9.own0.rd pbytes_byt (byt_one (by omega) (by omega)) (by decide) (by decide) (by rw [pbytes_val, e1']; decide)).mono ?_
            rintro e wA ⟨ms, CA, ⟨aA, cA, gA, rfl, oA, pA, qA, rA⟩, nA⟩
            have NA := (N7.up n9).up nA
            have SA := (S7.up n9).up nA
            rw [pbytes_val, e1'] at CA
            have LA : ms.length ≤ 64 := CA.len (n := 64) (by decide)
            go_wp2_with fail
            refine (l1Little_any wA gA aA cA ms 32 oA.rd CA.1 (by omega) (by omega)).mono ?_
            rintro e wC ⟨rfl, BC, nC⟩
            have DC : Drawn w s a xs.length c (t + 40) (.slice (some ⟨wA.heap.size, 0, none⟩) 32 32) wC := drawn_little CA.1 BC (by have := NA.size; omega) (NA.up nC) ⟨_, by omega, by omega, SA.up nC⟩
            clear D6
            go_wp2_with fail
            go_meet
            exact DC
          | false =>
            go_wp2_with fail
            go_meet
            exact D6.le (by omega)
        case rest =>
          clear D6 S6 N6 t50 t51
          obtain ⟨ys, b1, d1, h1, rfl, yb, yl, oy, py, qy, ry, N5, ⟨t5, t50, t51, S5⟩⟩ := hcut
          go_wp2_with fail
          refine (l1Chance_any wc s g a c xs t5 3 S5 (hr.but N5 hne) hne hb hl (by omega) (by omega) (by decide) (by decide)).mono ?_
          rintro e w6 ⟨b, rfl, S6, O6⟩
          have D6 : Drawn w s a xs.length c (t + 50) (.slice b1 ys.length d1) w6 := (show Drawn w s a xs.length c (t + 40) _ wc from ⟨ys, b1, d1, h1, rfl, yb, yl, oy, py, qy, ry, N5, ⟨t5, t50, t51, S5⟩⟩).only O6 ⟨_, by omega, by omega, S6⟩
          have N6 := N5.only O6
          clear oy py qy ry S5 N5 O6 yb yl
          go_upto_if 36 with fail
          go_cut [4] (fun v wc => Drawn w s a xs.length c (t + 60) v wc)
          case first =>
            cases b with
            | true =>
              go_wp2_with fail
              refine (l1Next_any w6 s g a c xs (t5 + 1) 8 S6 (hr.but N6 hne) hne hb hl (by omega) (by omega) (by decide) (by decide)).mono ?_
              rintro e w7 ⟨v, rfl, ⟨v0, v1⟩, S7, O7⟩
              have N7 := N6.only O7
              go_wp2_with fail
              refine (l5Small_any w7 v v0 (by omega)).mono ?_
              rintro e w8 ⟨px, py, ⟨a8, a9, c8, c9, g8, g9, rfl, o8, o9, r8, r9⟩, ⟨bx, -⟩, ⟨bY, -⟩, n8⟩
              have N8 := N7.up n8
              have S8 := S7.up n8
              go_wp2_with fail
              refine (pointToLadder_any w8 g8 g9 a8 a9 c8 c9 px py o8.rd o9.rd bx bY).mono ?_
              rintro e wC ⟨⟨aC, cC, gC, rfl, oC, pC, qC, rC⟩, nC⟩
              have DC : Drawn w s a xs.length c (t + 60) (.slice aC (toLad px py).length cC) wC := ⟨_, aC, cC, gC, rfl, toLad_byt px py, toLad_len px py, oC, pC, qC, by have := N8.size; omega, N8.up nC, ⟨_, by omega, by omega, S8.up nC⟩⟩
              clear D6 oC o8 o9
              generalize toLad px py = zs at *
              go_wp2_with fail
              go_meet
              exact DC
            | false =>
              go_wp2_with fail
              go_meet
              exact D6.le (by omega)
          case rest =>
            clear D6 S6 N6
            obtain ⟨zs, b2, d2, h2, rfl, zb, zl, oz, pz, qz, rz, N9, ⟨t9, t90, t91, S9⟩⟩ := hcut
            have ZL := hide zl
            clear zl
            go_wp2
            go_ret
            exact ⟨zs, zb, ZL.out, ⟨b2, d2, h2, rfl, oz, pz, qz, rz⟩, N9, ⟨t9, t90, by omega, S9⟩⟩
    · have q1 : (r == 1) = false := by simp [h1]
      have DB := l1DrawBytes_any w1 s g a c xs (t + 1) 32 S1 (hr.but N1 hne) hne hb hl (by omega) (by omega)
      go_wp2_with fail
      refine DB.mono ?_
      rintro e w2 ⟨ys, yl, yb, ⟨a3, c3, g3, rfl, o3, p3, q3, r3⟩, S3, N3⟩
      have N4 := N1.trans N3
      have zz := hide (show w.heap.size ≤ g3 by have := z1.out; omega)
      have zs := hide (show s < w1.heap.size by have := z1.out; omega)
      clear DB
      by_cases h2 : r = 2
      · subst h2
        have y31 : 31 < ys.length := by omega
        obtain ⟨off, rfl, hc⟩ := o3 (by omega)
        have c31 := (hc 31 y31).1
        have f31 := (hc 31 y31).2
        have yb31 := yb 31
        have OB := or_bd yb31
        have OS := o3.store 31 y31 (bits BinOp.or IntKind.u8 (ys.getD 31 0) 128)
        have SS := hide (byt_set5 yb 31 OB)
        have LS := hide (show (ys.set 31 (bits BinOp.or IntKind.u8 (ys.getD 31 0) 128)).length = ys.length from List.length_set)
        have ww : IntKind.u8.wrap (bits BinOp.or IntKind.u8 (ys.getD 31 0) 128) = bits BinOp.or IntKind.u8 (ys.getD 31 0) 128 := by rw [IntKind.wrap_u8]; omega
        have i31 : (31 : Int) < (ys.length : Int) := by omega
        have YL := hide yl
        have NS : But s w (w2.setCell ⟨g3, off + 31, none⟩ (.int .u8 (bits BinOp.or IntKind.u8 (ys.getD 31 0) 128))) := N4.setCell zz.out
        have SN := S3.of_block (w' := w2.setCell ⟨g3, off + 31, none⟩ (.int .u8 (bits BinOp.or IntKind.u8 (ys.getD 31 0) 128))) (heap_setCell_other w2 ⟨g3, off + 31, none⟩ s _ (by show s ≠ g3; have := zs.out; omega))
        clear hc yl o3 y31 q0 q1 h0 h1 r0 r1 S3 N3 N4
        generalize ys.set 31 (bits BinOp.or IntKind.u8 (ys.getD 31 0) 128) = ys' at *
        generalize ys.getD 31 0 = y at *
        go_wp2
        go_ret
        exact ⟨ys', SS.out, by have := LS.out; have := YL.out; omega, ⟨_, c3, g3, by rw [LS.out]; rfl, OS, by simp, by have := LS.out; omega, zz.out⟩, NS, ⟨_, by omega, by omega, SN⟩⟩
      · have q2 : (r == 2) = false := by simp [h2]
        have YL := hide yl
        clear yl
        go_wp2
        go_ret
        exact ⟨ys, yb, by have := YL.out; omega, ⟨a3, c3, g3, rfl, o3, p3, q3, zz.out⟩, N4, ⟨_, by omega, by omega, S3⟩⟩

set_option maxHeartbeats 2000000 in
theorem drawLadder_any (w : World) (g : Nat) (a : Option Addr) (c : Nat) (code : List Int) (hr : Rd w g a .u8 code) (hb : Byt code) (hl : code.length ≤ 1048576) :
    Calls Tryd.prog 85 #[.slice a code.length c] w fun e w' => ∃ (a1 a2 : Option Addr) (c1 c2 g1 g2 : Nat) (xs ys : List Int), e = .returned (.tuple #[.slice a1 xs.length c1, .slice a2 ys.length c2]) ∧ Own w' g1 a1 .u8 xs ∧ Own w' g2 a2 .u8 ys ∧ Byt xs ∧ Byt ys ∧ Below w.heap.size w w' := by
  have hne : 0 < code.length → g ≠ w.heap.size := fun h => by have := hr.lt h; omega
  go_enter Tryd.func85, Tryd.ntmps85
  go_wp2_with fail
  refine (l1Source_any w a code.length c hl).mono ?_
  rintro e w1 ⟨rfl, S1, n1⟩
  have sl := S1.lt
  go_wp2_with fail
  refine (l4DrawKey_any w1 w.heap.size g a c code 0 (by omega) (by omega) S1 (hr.up n1) hne hb hl).mono ?_
  rintro e w2 ⟨xs, xb, xl, ⟨a1, c1, g1, rfl, o1, p1, q1, r1⟩, N2, ⟨t2, t20, t21, S2⟩⟩
  have m2 := N2.size
  have n12 : Below w.heap.size w1 w2 := N2.below (Nat.le_refl _) (by omega)
  have K2 := n1.trans n12
  go_wp2_with fail
  refine (l4DrawU_any w2 w.heap.size g a c code t2 t20 (by omega) S2 (hr.up K2) hne hb hl).mono ?_
  rintro e w3 ⟨ys, yb, yl, ⟨a2, c2, g2, rfl, o2, p2, q2, r2⟩, N3, ⟨t3, t30, t31, S3⟩⟩
  have n23 : Below w.heap.size w2 w3 := N3.below (Nat.le_refl _) (by omega)
  have K3 := K2.trans n23
  have o1a := o1.but N3 (fun _ => by omega)
  clear N2 N3 S1 S2 S3 n1 n12 n23 K2 o1
  go_wp2
  go_ret2
  exact ⟨a1, a2, c1, c2, g1, g2, xs, ys, rfl, o1a, o2, xb, yb, K3⟩
end Go.Proofs.YtbhmhkimddjhaaaDoor
/-
  Six lists of thirty-two drawn bytes.
-/
namespace Go.Proofs.YtbhmhkimddjhaaaDoor
set_option maxRecDepth 100000
open Go Go.RowKit

theorem lw32M_any (w : World) (g : Nat) (a : Option Addr) (c : Nat) (xs : List Int) (ha : Rd w g a .u8 xs) :
    Calls Tryd.prog 24 #[.slice a xs.length c] w fun e w' => e = .returned (.slice (some ⟨w.heap.size, 0, none⟩) (to32 xs).length 32) ∧ Blk w' w.heap.size .u8 (to32 xs) ∧ Below w.heap.size w w' := by
  rw [to32_len]
  exact lw32_any w g a c xs ha
theorem cell_new (w : World) (cs : Array Value) (t : TypeId) (i : Nat) (v : Value) (h : cs[i]? = some v) : (w.alloc (.cells cs t)).cell? ⟨w.heap.size, i, none⟩ = some v := by
  have e : (w.alloc (.cells cs t)).heap[w.heap.size]? = some (.cells cs t) := heap_alloc_last _ _
  unfold World.cell?
  simp only
  rw [e]
  exact h
theorem Own.al {W : World} {g : Nat} {a : Option Addr} {k : IntKind} {xs : List Int} (h : Own W g a k xs) (o : Obj) : Own (W.alloc o) g a k xs := h.up ((Below.refl _ _).alloc (Nat.le_refl _) _)
/-- The first three of them. -/
def Six (w : World) (e : Ending) (w' : World) : Prop := ∃ (q g1 g2 g3 : Nat) (X Y Z : List Int), e = .returned (.slice (some ⟨q, 0, none⟩) 6 6) ∧ w'.cell? ⟨q, 0, none⟩ = some (.slice (some ⟨g1, 0, none⟩) X.length 32) ∧ w'.cell? ⟨q, 1, none⟩ = some (.slice (some ⟨g2, 0, none⟩) Y.length 32) ∧ w'.cell? ⟨q, 2, none⟩ = some (.slice (some ⟨g3, 0, none⟩) Z.length 32) ∧
  Own w' g1 (some ⟨g1, 0, none⟩) .u8 X ∧ Own w' g2 (some ⟨g2, 0, none⟩) .u8 Y ∧ Own w' g3 (some ⟨g3, 0, none⟩) .u8 Z ∧ Hid ((Byt X ∧ X.length = 32) ∧ (Byt Y ∧ Y.length = 32) ∧ (Byt Z ∧ Z.length = 32)) ∧ Below w.heap.size w w'

set_option maxHeartbeats 4000000 in
theorem lwSix_any (w : World) (g g' : Nat) (a b : Option Addr) (ca cb : Nat) (code more : List Int) (hc : Rd w g a .u8 code) (hm : Rd w g' b .u8 more) (bc : Byt code) (bm : Byt more) (lc : code.length ≤ 1048576) (lm : more.length ≤ 1048576) :
    Calls Tryd.prog 43 #[.slice a code.length ca, .slice b more.length cb] w fun e w' => Six w e w' := by
  go_enter Tryd.func43, Tryd.ntmps43
  go_wp2_with fail
  refine (drawFieldMul_any w g a ca code hc bc lc).mono ?_
  rintro e w1 ⟨a1, a2, c1, c2, g1, g2, x1, x2, rfl, o1, o2, b1, b2, n1⟩
  go_wp2_with fail
  refine (drawFieldMul_any w1 g' b cb more (hm.up n1) bm lm).mono ?_
  rintro e w2 ⟨a3, a4, c3, c4, g3, g4, x3, x4, rfl, o3, o4, b3, b4, n2⟩
  have N2 := nxt n1 n2
  go_wp2_with fail
  refine (drawLadder_any w2 g a ca code (hc.up N2) bc lc).mono ?_
  rintro e w3 ⟨a5, a6, c5, c6, g5, g6, x5, x6, rfl, o5, o6, b5, b6, n3⟩
  have N3 := nxt N2 n3
  replace o1 := (o1.up n2).up n3
  replace o2 := (o2.up n2).up n3
  replace o3 := o3.up n3
  replace o4 := o4.up n3
  clear n1 n2 n3 N2
  go_wp2_with fail
  refine (lw32M_any w3 g1 a1 c1 x1 o1.rd).mono ?_
  rintro e w4 ⟨rfl, B4, n4⟩
  go_wp2_with fail
  refine (lw32M_any w4 g2 a2 c2 x2 (o2.up n4).rd).mono ?_
  rintro e w5 ⟨rfl, B5, n5⟩
  go_wp2_with fail
  refine (lw32M_any w5 g3 a3 c3 x3 ((o3.up n4).up n5).rd).mono ?_
  rintro e w6 ⟨rfl, B6, n6⟩
  have M6 := nxt (nxt n4 n5) n6
  have P4 := (B4.up n5).up n6
  have P5 := B5.up n6
  have N6 := nxt N3 M6
  replace o4 := o4.up M6
  replace o5 := o5.up M6
  replace o6 := o6.up M6
  have HB := hide (show (Byt (to32 x1) ∧ (to32 x1).length = 32) ∧ (Byt (to32 x2) ∧ (to32 x2).length = 32) ∧ (Byt (to32 x3) ∧ (to32 x3).length = 32) from ⟨⟨to32_byt b1, to32_len _⟩, ⟨to32_byt b2, to32_len _⟩, to32_byt b3, to32_len _⟩)
  generalize to32 x1 = X at *
  generalize to32 x2 = Y at *
  generalize to32 x3 = Z at *
  clear o1 o2 o3 b1 b2 b3 B4 B5 n4 n5 n6 M6 N3
  obtain ⟨q1, h1⟩ : ∃ q, q = w3.heap.size := ⟨_, rfl⟩
  obtain ⟨q2, h2⟩ : ∃ q, q = w4.heap.size := ⟨_, rfl⟩
  obtain ⟨q3, h3⟩ : ∃ q, q = w5.heap.size := ⟨_, rfl⟩
  rw [← h1] at P4 ⊢
  rw [← h2] at P5 ⊢
  rw [← h3] at B6 ⊢
  clear h1 h2 h3
  go_wp2_with fail
  refine (lw32M_any w6 g4 a4 c4 x4 o4.rd).mono ?_
  rintro e w7 ⟨rfl, -, n7⟩
  go_wp2_with fail
  refine (lw32M_any w7 g5 a5 c5 x5 (o5.up n7).rd).mono ?_
  rintro e w8 ⟨rfl, -, n8⟩
  go_wp2_with fail
  refine (lw32M_any w8 g6 a6 c6 x6 ((o6.up n7).up n8).rd).mono ?_
  rintro e w9 ⟨rfl, -, n9⟩
  have M9 := nxt (nxt n7 n8) n9
  have O4 := (P4.up M9).own0
  have O5 := (P5.up M9).own0
  have O6 := (B6.up M9).own0
  have N9 := nxt N6 M9
  clear P4 P5 B6 N6 M9 n7 n8 n9 o4 o5 o6
  go_wp2
  go_ret
  exact ⟨w9.heap.size, q1, q2, q3, X, Y, Z, rfl, cell_new _ _ _ 0 _ rfl, cell_new _ _ _ 1 _ rfl, cell_new _ _ _ 2 _ rfl, O4.al _, O5.al _, O6.al _, HB, N9.alloc N9.size _⟩
end Go.Proofs.YtbhmhkimddjhaaaDoor
