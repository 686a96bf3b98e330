import Derived.Test.YtblkjpmkikhpbaaDoorGL46
import Derived.Test.YtblkjpmkikhpbaaDoorGL16
import Derived.Test.YtblkjpmkikhpbaaDoorGL12

/-
  The program's Ladder and LadderPublic.
-/
namespace Go.Proofs.YtblkjpmkikhpbaaDoor
set_option maxRecDepth 100000
open Go Go.RowKit

/-- The tables that the ladder reads. -/
structure HasL (w : World) : Prop where
  t : HasTw w 1
  s : HasSt w 2
  i : Has3 w 0 12 5 4
theorem HasL.up {w w' : World} (h : HasL w) (n : Below w.heap.size w w') : HasL w' := ⟨h.t.up n, h.s.up n, h.i.up n⟩

theorem lad_impl {ks : List Int} (hb : Byt ks) (hl : ks.length = 32) (X : Int) : ladE X (fun i => wbit (clw (wv (fun j => ks.getD j 0) 32)) (254 - i)) 255 % PP = ladS X (num (clampL ks)) % PP := by
  have hW : W4 (clw (wv (fun j => ks.getD j 0) 32)) := clw_ok (fun j _ => wv_lt hb 32 j)
  obtain ⟨k1, k2, _⟩ := clampL_bd hb hl
  have e : ladE X (fun i => wbit (clw (wv (fun j => ks.getD j 0) 32)) (254 - i)) 255 = ladE X (fun i => kbit (num (clampL ks)) (254 - i)) 255 := by
    unfold ladE
    rw [lrnds_congr X (fun i => wbit (clw (wv (fun j => ks.getD j 0) 32)) (254 - i)) (fun i => kbit (num (clampL ks)) (254 - i)) 255 (fun i hi => by rw [wbit_k hW (by omega), clw_num hb hl])]
  rw [e]
  unfold ladS
  refine (lad_same X (fun i => kbit (num (clampL ks)) (254 - i)) (fun i => kbit (num (clampL ks)) (255 - i)) ?_ (fun i => by rw [show 255 - (i + 1) = 254 - i by omega]) ?_ 254).symm
  · generalize num (clampL ks) = K at *
    unfold kbit
    have : K / 2 ^ (255 - 0) = 0 := Int.ediv_eq_zero_of_lt (by omega) (by simpa using k2)
    rw [this]
    rfl
  · generalize num (clampL ks) = K at *
    unfold kbit
    have : K / 2 ^ (254 - 0) = 1 := by
      have h : (2 : Int) ^ (254 - 0) = 28948022309329048855892746252171976963317496166410141009864396001978282409984 := by decide
      rw [h]
      omega
    rw [this]
    rfl
theorem is5_fill {t : Nat → Int} {A B : Int} (h : Is5 t A) (e : A % PP = B % PP) : fill (byt (sv t 5)) 32 = fill (byt (B % PP)) 32 := by rw [h.2, e]

set_option maxHeartbeats 4000000 in
theorem implLadder_any (w : World) (g g' : Nat) (a b : Option Addr) (c c' : Nat) (ks us : List Int) (hk : Rd w g a .u8 ks) (hu : Rd w g' b .u8 us) (bk : Byt ks) (bu : Byt us) (hL : HasL w) :
    Calls Tryd.prog 9 #[.slice a ks.length c, .slice b us.length c'] w fun e w' => NewRow w.heap.size w' e .u8 (ladA ks us) ∧ Below w.heap.size w w' := by
  have T1 := fun w => isFieldSize_any w a c ks.length
  have T2 := fun w => isFieldSize_any w b c' us.length
  by_cases h1 : ks.length = 32
  · by_cases h2 : us.length = 32
    · have RS := hide (readScalar_any w g a c ks hk bk h1)
      have CL := hide (fun w => clamp_any w _ (fun j _ => wv_lt bk 32 j))
      have RC := hide (fun w' n => readCoordinate_any w' g' b c' us (hu.up n) bu h2)
      have E1 := elt_ok (low7_byt bu) ((low7_len us).trans h2)
      have LD := hide (fun w' n => ladder_any w' _ (clw_ok (fun j _ => wv_lt bk 32 j)) _ (num (low7 us)) E1 (hL.up n).t (hL.up n).s (hL.up n).i)
      have KA : Hid (ladA ks us = fill (byt (ladE (num (low7 us)) (fun i => wbit (clw (wv (fun j => ks.getD j 0) 32)) (254 - i)) 255 % PP)) 32) := by show _ = _; unfold ladA; rw [if_pos ⟨h1, h2⟩, lad_impl bk h1]
      simp only [decide_eq_true h1] at T1
      simp only [decide_eq_true h2] at T2
      rw [h1] at T1 ⊢
      rw [h2] at T2 ⊢
      clear h1 h2 hk hu bk bu E1
      generalize ladE (num (low7 us)) (fun i => wbit (clw (wv (fun j => ks.getD j 0) 32)) (254 - i)) 255 = V at *
      generalize elt (low7 us) = x at *
      generalize clw (wv (fun j => ks.getD j 0) 32) = U at *
      generalize wv (fun j => ks.getD j 0) 32 = U0 at *
      simp only [ag5, ag4] at RS CL RC LD
      go_enter Tryd.func9, Tryd.ntmps9
      go_wp2_with (first
        | (go_at_call_of 35 (Value.slice a 32 c); refine (T1 _).mono ?_; rintro r w0 ⟨rfl, rfl⟩)
        | (go_at_call_of 35 (Value.slice b 32 c'); refine (T2 _).mono ?_; rintro r w0 ⟨rfl, rfl⟩))
      refine RS.out.mono ?_
      rintro r w1 ⟨rfl, n1⟩
      clear RS
      go_wp2_with fail
      refine (CL.out w1).mono ?_
      rintro r w2 ⟨rfl, n2⟩
      have N2 := nxt n1 n2
      clear CL n1 n2
      go_wp2_with fail
      refine (RC.out w2 N2).mono ?_
      rintro r w3 ⟨rfl, n3⟩
      have N3 := nxt N2 n3
      clear RC n3 N2
      go_wp2_with fail
      refine (LD.out w3 N3).mono ?_
      rintro r w4 ⟨t, rfl, IT, n4⟩
      have N4 := nxt N3 n4
      clear LD n4 N3
      have BY := hide (bytes_any w4 t IT.1)
      rw [IT.2, ← KA.out] at BY
      simp only [ag5] at BY
      have z4 := N4.size
      clear KA IT hL
      go_wp2_with fail
      refine BY.out.mono ?_
      rintro r w5 ⟨⟨a5, c5, g5, rfl, o5, p5, q5, r5⟩, n5⟩
      have N5 := nxt N4 n5
      clear BY N4 n5
      go_wp2
      go_ret
      exact ⟨⟨a5, c5, g5, rfl, o5, p5, q5, by omega⟩, N5⟩
    · have K : Hid (ladA ks us = []) := by show _ = _; unfold ladA; rw [if_neg (fun h => h2 h.2)]
      simp only [decide_eq_true h1] at T1
      simp only [decide_eq_false h2] at T2
      rw [h1] at T1 ⊢
      clear h1 h2
      go_enter Tryd.func9, Tryd.ntmps9
      go_wp2_with (first
        | (go_at_call_of 35 (Value.slice a 32 c); refine (T1 _).mono ?_; rintro r w0 ⟨rfl, rfl⟩)
        | (go_at_call_of 35 (Value.slice b us.length c'); refine (T2 _).mono ?_; rintro r w0 ⟨rfl, rfl⟩))
      go_ret
      rw [K.out]
      exact ⟨⟨none, 0, _, rfl, Own.nil _ _ _ _, by simp, by simp, Nat.le_refl _⟩, Below.refl _ _⟩
  · have K : Hid (ladA ks us = []) := by show _ = _; unfold ladA; rw [if_neg (fun h => h1 h.1)]
    simp only [decide_eq_false h1] at T1
    clear h1
    go_enter Tryd.func9, Tryd.ntmps9
    go_wp2_with (first
      | (go_at_call_of 35 (Value.slice a ks.length c); refine (T1 _).mono ?_; rintro r w0 ⟨rfl, rfl⟩))
    go_ret
    rw [K.out]
    exact ⟨⟨none, 0, _, rfl, Own.nil _ _ _ _, by simp, by simp, Nat.le_refl _⟩, Below.refl _ _⟩

/-- Thirty-two bytes of 9. -/
def nine : List Int := fill (dig [9]) 32
theorem nine_low : num (low7 nine) = 9 := by decide +kernel
theorem nine_len : nine.length = 32 := fill_len _ _
theorem nine_byt : Byt nine := fun i => by
  by_cases hi : i < 32
  · unfold nine
    rw [fill_get _ _ _ hi]
    have := dig_byt (xs := [9]) (fun j => by rcases j with _ | j <;> simp) i
    omega
  · rw [List.getD_eq_getElem?_getD, List.getElem?_eq_none (by rw [nine_len]; omega)]
    simp
def pubA (ks : List Int) : List Int := ladA ks nine

set_option maxHeartbeats 4000000 in
theorem implPublic_any (w : World) (g : Nat) (a : Option Addr) (c : Nat) (ks : List Int) (hk : Rd w g a .u8 ks) (bk : Byt ks) (hL : HasL w) :
    Calls Tryd.prog 14 #[.slice a ks.length c] w fun e w' => NewRow w.heap.size w' e .u8 (pubA ks) ∧ Below w.heap.size w w' := by
  have T1 := fun w => isFieldSize_any w a c ks.length
  by_cases h1 : ks.length = 32
  · have RS := hide (readScalar_any w g a c ks hk bk h1)
    have CL := hide (fun w => clamp_any w _ (fun j _ => wv_lt bk 32 j))
    have LD := hide (fun w' n => ladder_any w' _ (clw_ok (fun j _ => wv_lt bk 32 j)) _ 9 (sm5_ok (n := 9) (by decide) (by decide)) (hL.up n).t (hL.up n).s (hL.up n).i)
    have KA : Hid (pubA ks = fill (byt (ladE 9 (fun i => wbit (clw (wv (fun j => ks.getD j 0) 32)) (254 - i)) 255 % PP)) 32) := by show _ = _; unfold pubA ladA; rw [if_pos ⟨h1, nine_len⟩, lad_impl bk h1, nine_low]
    simp only [decide_eq_true h1] at T1
    rw [h1] at T1 ⊢
    clear h1 hk bk
    generalize ladE 9 (fun i => wbit (clw (wv (fun j => ks.getD j 0) 32)) (254 - i)) 255 = V at *
    generalize clw (wv (fun j => ks.getD j 0) 32) = U at *
    generalize wv (fun j => ks.getD j 0) 32 = U0 at *
    have LD' : Hid (∀ w', Below w.heap.size w w' → Calls Tryd.prog 38 #[ag4 U, .agg #[.int .u64 9, .int .u64 0, .int .u64 0, .int .u64 0, .int .u64 0]] w' fun r w'' => ∃ t, r = .returned (ag5 t) ∧ Is5 t V ∧ Below w'.heap.size w' w'') := LD
    clear LD
    simp only [ag5, ag4] at RS CL LD'
    go_enter Tryd.func14, Tryd.ntmps14
    go_wp2_with fail
    refine (T1 w).mono ?_
    rintro r w0 ⟨rfl, rfl⟩
    clear T1
    go_wp2_with fail
    refine RS.out.mono ?_
    rintro r w1 ⟨rfl, n1⟩
    clear RS
    go_wp2_with fail
    refine (CL.out w1).mono ?_
    rintro r w2 ⟨rfl, n2⟩
    have N2 := nxt n1 n2
    clear CL n1 n2
    go_wp2_with fail
    refine (LD'.out w2 N2).mono ?_
    rintro r w4 ⟨t, rfl, IT, n4⟩
    have N4 := nxt N2 n4
    clear LD' n4 N2
    have BY := hide (bytes_any w4 t IT.1)
    rw [IT.2, ← KA.out] at BY
    simp only [ag5] at BY
    have z4 := N4.size
    clear KA IT hL
    go_wp2_with fail
    refine BY.out.mono ?_
    rintro r w5 ⟨⟨a5, c5, g5, rfl, o5, p5, q5, r5⟩, n5⟩
    have N5 := nxt N4 n5
    clear BY N4 n5
    go_wp2
    go_ret
    exact ⟨⟨a5, c5, g5, rfl, o5, p5, q5, by omega⟩, N5⟩
  · have K : Hid (pubA ks = []) := by show _ = _; unfold pubA ladA; rw [if_neg (fun h => h1 h.1)]
    simp only [decide_eq_false h1] at T1
    clear h1
    go_enter Tryd.func14, Tryd.ntmps14
    go_wp2_with fail
    refine (T1 w).mono ?_
    rintro r w0 ⟨rfl, rfl⟩
    clear T1
    go_wp2
    go_ret
    rw [K.out]
    exact ⟨⟨none, 0, _, rfl, Own.nil _ _ _ _, by simp, by simp, Nat.le_refl _⟩, Below.refl _ _⟩

set_option maxHeartbeats 4000000 in
theorem specPublic_any (w : World) (g : Nat) (a : Option Addr) (c : Nat) (ks : List Int) (hk : Rd w g a .u8 ks) (bk : Byt ks) (ck : a = none → c = 0) :
    Calls Tryd.prog 13 #[.slice a ks.length c] w fun e w' => NewRow w.heap.size w' e .u8 (pubA ks) ∧ Below w.heap.size w w' := by
  have B0 : Blk (w.alloc (.cells #[.int .u8 9] 5)) w.heap.size .u8 [9] := ⟨5, by rw [heap_alloc_last]; rfl⟩
  have n0 : Below w.heap.size w (w.alloc (.cells #[.int .u8 9] 5)) := (Below.refl _ _).alloc (Nat.le_refl _) _
  go_enter Tryd.func13, Tryd.ntmps13
  go_wp2_with fail
  generalize w.alloc (.cells #[.int .u8 9] 5) = wa at *
  have LT := l1Little_any wa w.heap.size (some ⟨w.heap.size, 0, none⟩) 1 [9] 32 B0.own0.rd (fun j => by rcases j with _ | j <;> simp) (by decide) (by decide)
  refine LT.mono ?_
  rintro r w2 ⟨rfl, B2, n2⟩
  have N2 := nxt n0 n2
  have SL := hide (specLadder_any w2 g wa.heap.size a (some ⟨wa.heap.size, 0, none⟩) c 32 ks nine (hk.up N2) B2.own0.rd bk nine_byt ck (by simp))
  rw [nine_len] at SL
  have z := N2.size
  clear LT B0 n0 B2 n2 hk
  go_wp2_with fail
  refine SL.out.mono ?_
  rintro r w5 ⟨⟨a5, c5, g5, rfl, o5, p5, q5, r5⟩, n5⟩
  have N5 := nxt N2 n5
  clear SL N2 n5
  go_wp2
  go_ret
  exact ⟨⟨a5, c5, g5, rfl, o5, p5, q5, by omega⟩, N5⟩
end Go.Proofs.YtblkjpmkikhpbaaDoor

/-
  What the listed package-level variables give the ladder.
-/
namespace Go.Proofs.YtblkjpmkikhpbaaDoor
set_option maxRecDepth 100000
open Go.RowKit

theorem hasL_of {l : List (String × DataW Unit)} {W : World} (h : laidMetH Tryd.prog l W) (hp : (l.all fun x => x.2.handleName?.isNone) = true)
    (h1 : ("loop.example/g00004/impl.chainSteps", Rows.laid_loop_example_g00004_impl_chainSteps) ∈ l) (h2 : ("loop.example/g00004/impl.inverseStep", Rows.laid_loop_example_g00004_impl_inverseStep) ∈ l)
    (h3 : ("loop.example/g00004/impl.twiceP", Rows.laid_loop_example_g00004_impl_twiceP) ∈ l) : HasL W :=
  ⟨tw_of_reads (reads_of h hp h3), st_of_reads (reads_of h hp h1), three_of_reads gIn tIn (reads_of h hp h2)⟩
theorem laid_ladder {W : World} (h : laidMetH Tryd.prog Rows.fnExactLadderRow.laid W) : HasL W := hasL_of h (by kernel_rfl) (.head _) (.tail _ (.head _)) (.tail _ (.tail _ (.head _)))
theorem laid_public {W : World} (h : laidMetH Tryd.prog Rows.fnExactLadderPublicRow.laid W) : HasL W := hasL_of h (by kernel_rfl) (.head _) (.tail _ (.head _)) (.tail _ (.tail _ (.head _)))
theorem laid_shared {W : World} (h : laidMetH Tryd.prog Rows.fnExactLadderSharedRow.laid W) : HasL W := hasL_of h (by kernel_rfl) (.head _) (.tail _ (.head _)) (.tail _ (.tail _ (.head _)))
theorem laid_shares {W : World} (h : laidMetH Tryd.prog Rows.fnLadderSharesRow.laid W) : HasL W := hasL_of h (by kernel_rfl) (.head _) (.tail _ (.head _)) (.tail _ (.tail _ (.head _)))
end Go.Proofs.YtblkjpmkikhpbaaDoor

/-
  The law of Ladder.
-/
namespace Go.Proofs.YtblkjpmkikhpbaaDoor
set_option maxRecDepth 100000
open Go.RowKit

theorem ladA_len (xs us : List Int) : (ladA xs us).length ≤ 32 := by
  unfold ladA
  split
  · rw [fill_len]; omega
  · simp
set_option maxHeartbeats 4000000 in
theorem ladder_law (w : World) (g : Nat) (a : Option Addr) (ca : Nat) (xs : List Int) (ha : Rd w g a .u8 xs) (hx : Byt xs) (g' : Nat) (b : Option Addr) (cb : Nat) (us : List Int) (hb : Rd w g' b .u8 us) (hu : Byt us) (hL : HasL w) :
    Calls Tryd.prog 3 #[.slice a xs.length ca, .slice b us.length cb] w fun e w' => e = .returned (.bool true) ∧ Below w.heap.size w w' := by
  by_cases h1 : xs.length ≤ 1048576
  · have t1 : decide ((1048576 : Int) < (xs.length : Int)) = false := by simp; omega
    by_cases h2 : us.length ≤ 1048576
    · have t2 : decide ((1048576 : Int) < (us.length : Int)) = false := by simp; omega
      have hy : (ladA xs us).length ≤ 1048576 := by have := ladA_len xs us; omega
      obtain ⟨ys, hys⟩ : ∃ ys, ys = ladA xs us := ⟨_, rfl⟩
      have SP := fun w g g' a b ca cb h h' p p' => specLadder_any w g g' a b ca cb xs us h h' hx hu p p'
      have IM := fun W n g g' a b ca cb h h' => implLadder_any W g g' a b ca cb xs us h h' hx hu (hL.up n)
      simp only [← hys] at SP IM hy
      clear hys
      go_enter Tryd.func3, Tryd.ntmps3
      go_wp2_with fail
      refine (toByteS_any w g a ca xs ha h1).mono ?_
      rintro e w1 ⟨rfl, B1, n1⟩
      go_wp2_with fail
      refine (toByteS_any w1 g' b cb us (hb.up n1) h2).mono ?_
      rintro e w1' ⟨rfl, B1', n1'⟩
      have N1 := nxt n1 n1'
      go_wp2_with fail
      refine (SP w1' _ _ _ _ _ _ (B1.up n1').own0.rd B1'.own0.rd (by simp) (by simp)).mono ?_
      rintro e w2 ⟨⟨a2, c2, g2, rfl, o2, p2, q2, r2⟩, n2⟩
      have N2 := nxt N1 n2
      have l2 := o2.rd.lt
      clear B1 B1' N1 n1 n1' n2
      go_wp2_with fail
      refine (toByteS_any w2 g a ca xs (ha.up N2) h1).mono ?_
      rintro e w3 ⟨rfl, B3, n3⟩
      have N3 := nxt N2 n3
      go_wp2_with fail
      refine (toByteS_any w3 g' b cb us (hb.up N3) h2).mono ?_
      rintro e w3' ⟨rfl, B3', n3'⟩
      have N3' := nxt N3 n3'
      have l3 := B3.lt
      have l3' := B3'.lt
      have z3 := n3.size
      have B3a := B3.up n3'
      have o2a := (o2.up n3).up n3'
      clear B3 o2 n3 n3' N3
      go_wp2_with fail
      refine (IM w3' N3' _ _ _ _ _ _ B3a.own0.rd B3'.own0.rd).mono ?_
      rintro e w4 ⟨⟨a4, c4, g4, rfl, o4, p4, q4, r4⟩, n4⟩
      have N4 := nxt N3' n4
      have o2b := o2a.up n4
      have B4 := B3a.up n4
      have B4' := B3'.up n4
      clear B3a B3' o2a N3' n4
      go_wp2_with fail
      refine (eqByteS_same w4 _ _ _ _ _ _ ys o4.rd o2b.rd hy).mono ?_
      rintro e w5 ⟨rfl, n5⟩
      have N5 := nxt N4 n5
      have o2c := o2b.up n5
      have o4a := o4.up n5
      have B5 := B4.up n5
      have B5' := B4'.up n5
      clear B4 B4' o2b o4 N4 n5
      go_wp2_with fail
      refine (toByteS_any w5 g a ca xs (ha.up N5) h1).mono ?_
      rintro e w6 ⟨rfl, B6, n6⟩
      go_wp2_with fail
      refine (eqByteS_same w6 _ _ _ _ _ _ xs (B5.up n6).own0.rd B6.own0.rd h1).mono ?_
      rintro e w7 ⟨rfl, n7⟩
      have N7 := nxt (nxt N5 n6) n7
      have o2d := (o2c.up n6).up n7
      have o4b := (o4a.up n6).up n7
      have B7 := (B5.up n6).up n7
      have B7' := (B5'.up n6).up n7
      clear B5 B5' B6 o2c o4a N5 n6 n7
      go_wp2_with fail
      refine (toByteS_any w7 g' b cb us (hb.up N7) h2).mono ?_
      rintro e w8 ⟨rfl, B8, n8⟩
      go_wp2_with fail
      refine (eqByteS_same w8 _ _ _ _ _ _ us (B7'.up n8).own0.rd B8.own0.rd h2).mono ?_
      rintro e w9 ⟨rfl, n9⟩
      have N9 := nxt (nxt N7 n8) n9
      have o2e := (o2d.up n8).up n9
      have o4c := (o4b.up n8).up n9
      have B9 := (B7.up n8).up n9
      have B9' := (B7'.up n8).up n9
      clear B7 B7' B8 o2d o4b N7 n8 n9
      go_wp2_with fail
      refine (markByteS_any w9 _ _ _ xs 1 B9.own0 h1 (by decide) (by decide)).mono ?_
      rintro e wA ⟨rfl, _, OA⟩
      have NA := N9.trans (OA.below (B := w.heap.size) N2.size)
      have o2f := o2e.only OA (fun h => by have := l2 h; omega)
      have o4d := o4c.only OA (fun h => by omega)
      have BA' := B9'.own0.only OA (fun h => by omega)
      clear B9 B9' o2e o4c N9 OA
      go_wp2_with fail
      refine (markByteS_any wA _ _ _ us (1 + (xs.length : Int)) BA' h2 (by omega) (by omega)).mono ?_
      rintro e wB ⟨rfl, _, OB⟩
      have NB := NA.trans (OB.below (B := w.heap.size) (by have := N2.size; omega))
      have o2g := o2f.only OB (fun h => by have := l2 h; omega)
      have o4e := o4d.only OB (fun h => by omega)
      have t3 : decide ((1 : Int) + (xs.length : Int) + (us.length : Int) < 0) = false := by simp; omega
      clear BA' o2f o4d NA OB
      go_wp2_with fail
      refine (eqByteS_same wB _ _ _ _ _ _ ys o4e.rd o2g.rd hy).mono ?_
      rintro e wC ⟨rfl, nC⟩
      have NC := nxt NB nC
      have o2h := o2g.up nC
      have o4f := o4e.up nC
      clear o2g o4e NB nC
      go_wp2_with fail
      refine (markByteS_any wC _ _ _ ys 1 o4f hy (by decide) (by decide)).mono ?_
      rintro e wD ⟨rfl, oD, OD⟩
      have ND := NC.trans (OD.below (B := w.heap.size) (by have := N2.size; omega))
      have o2i := o2h.only OD (fun h => by have := l2 h; omega)
      have t4 : decide ((1 : Int) + (ys.length : Int) < 0) = false := by simp; omega
      clear o2h o4f NC OD
      go_wp2_with fail
      refine (heldByteS_any wD _ _ _ ys.length 1 oD.rd hy (by decide) (by decide)).mono ?_
      rintro e wD' ⟨rfl, rfl⟩
      go_wp2_with fail
      refine (toByteS_any wD' g a ca xs (ha.up ND) h1).mono ?_
      rintro e wE ⟨rfl, BE, nE⟩
      have NE := nxt ND nE
      go_wp2_with fail
      refine (toByteS_any wE g' b cb us (hb.up NE) h2).mono ?_
      rintro e wF ⟨rfl, BF, nF⟩
      go_wp2_with fail
      refine (IM wF (nxt NE nF) _ _ _ _ _ _ (BE.up nF).own0.rd BF.own0.rd).mono ?_
      rintro e wG ⟨⟨aG, cG, gG, rfl, oG, pG, qG, rG⟩, nG⟩
      have o2j := ((o2i.up nE).up nF).up nG
      have oDg := ((oD.up nE).up nF).up nG
      go_wp2_with fail
      refine (eqByteS_same wG _ _ _ _ _ _ ys oG.rd o2j.rd hy).mono ?_
      rintro e wH ⟨rfl, nH⟩
      go_wp2_with fail
      refine (heldByteS_any wH _ _ _ ys.length 1 (oDg.up nH).rd hy (by decide) (by decide)).mono ?_
      rintro e wH' ⟨rfl, rfl⟩
      go_wp2
      go_ret
      exact ⟨rfl, nxt (nxt (nxt NE nF) nG) nH⟩
    · have t2 : decide ((1048576 : Int) < (us.length : Int)) = true := by simp; omega
      go_enter Tryd.func3, Tryd.ntmps3
      go_wp2
      go_ret
      exact ⟨rfl, Below.refl _ _⟩
  · have t1 : decide ((1048576 : Int) < (xs.length : Int)) = true := by simp; omega
    go_enter Tryd.func3, Tryd.ntmps3
    go_wp2
    go_ret
    exact ⟨rfl, Below.refl _ _⟩
end Go.Proofs.YtblkjpmkikhpbaaDoor

/-
  Elements held against each other.
-/
namespace Go.Proofs.YtblkjpmkikhpbaaDoor
set_option maxRecDepth 100000
open Go.RowKit

set_option maxHeartbeats 4000000 in
theorem eqElem (a0 a1 a2 a3 a4 b0 b1 b2 b3 b4 : Int) (w : World) :
    (Op.equalIn 10000 49 (.agg #[.int .u64 a0, .int .u64 a1, .int .u64 a2, .int .u64 a3, .int .u64 a4]) (.agg #[.int .u64 b0, .int .u64 b1, .int .u64 b2, .int .u64 b3, .int .u64 b4])).run Tryd.prog w = .ok (a0 == b0 && a1 == b1 && a2 == b2 && a3 == b3 && a4 == b4) w := by
  have u3 := Tryd.underlying47
  have a3' := Tryd.isAgg47
  have z3 := Tryd.sizeOf47
  rw [show (10000 : Nat) = 9999 + 1 from rfl, Op.equalIn]
  simp only [Sem.run_bind, run_underlying Tryd.underlying49, Result.andThen_ok]
  simp only [Std.Legacy.Range.forIn_eq_forIn_range', Std.Legacy.Range.size, Nat.sub_zero, Nat.add_sub_cancel, Nat.div_one, List.range'_succ, List.range'_zero, List.forIn_cons, List.forIn_nil]
  go_simp
  by_cases h0 : a0 = b0 <;> by_cases h1 : a1 = b1 <;> by_cases h2 : a2 = b2 <;> by_cases h3 : a3 = b3 <;> by_cases h4 : a4 = b4 <;> simp [h0, h1, h2, h3, h4]
theorem eq_Lm {U V : Nat → Int} (hU : Lm U) (hV : Lm V) : (U 0 == V 0 && U 1 == V 1 && U 2 == V 2 && U 3 == V 3 && U 4 == V 4) = decide (sv U 5 = sv V 5) := by
  by_cases h : sv U 5 = sv V 5
  · have e := hU.uniq hV h
    rw [e 0 (by omega), e 1 (by omega), e 2 (by omega), e 3 (by omega), e 4 (by omega)]
    simp [h]
  · rw [decide_eq_false h]
    cases hq : (U 0 == V 0 && U 1 == V 1 && U 2 == V 2 && U 3 == V 3 && U 4 == V 4)
    · rfl
    · exfalso
      simp only [Bool.and_eq_true, beq_iff_eq] at hq
      exact h (by simp only [sv]; rw [hq.1.1.1.1, hq.1.1.1.2, hq.1.1.2, hq.1.2, hq.2])
end Go.Proofs.YtblkjpmkikhpbaaDoor
