import Derived.Test.YtblkjpmkikhpbaaDoorGL47
import Derived.Test.YtblkjpmkikhpbaaDoorGL48

/-
  LadderShared, the program's and the model's.
-/
namespace Go.Proofs.YtblkjpmkikhpbaaDoor
set_option maxRecDepth 100000
open Go Go.RowKit

def shB (ks us : List Int) : Bool := decide (ks.length = 32 ∧ us.length = 32) && !decide (ladS (num (low7 us)) (num (clampL ks)) % PP = 0)
def shL (ks us : List Int) : List Int := if shB ks us = true then ladA ks us else []
theorem z5L : Lm (fun _ => 0) := fun j _ => by show (0 : Int) ≤ 0 ∧ (0 : Int) < 2251799813685248; omega

set_option maxHeartbeats 8000000 in
theorem implShared_any (w : World) (g g' : Nat) (a b : Option Addr) (c c' : Nat) (ks us : List Int) (hk : Rd w g a .u8 ks) (hu : Rd w g' b .u8 us) (bk : Byt ks) (bu : Byt us) (hL : HasL w) :
    Calls Tryd.prog 16 #[.slice a ks.length c, .slice b us.length c'] w fun e w' => NewRes w.heap.size w' e (shB ks us) (shL ks us) ∧ Below w.heap.size w w' := by
  have hal : Below w.heap.size w (w.alloc (.cells #[.bool false, .slice none 0 0] 29)) := (Below.refl _ _).alloc (Nat.le_refl _) _
  have T0 := Two.new w (.bool false) (.slice none 0 0) 29
  have s0 : (w.alloc (.cells #[.bool false, .slice none 0 0] 29)).heap.size = w.heap.size + 1 := by simp
  have T1 := fun w => isFieldSize_any w a c ks.length
  have T2 := fun w => isFieldSize_any w b c' us.length
  by_cases h1 : ks.length = 32
  · by_cases h2 : us.length = 32
    · have RS := hide (fun w' n => readScalar_any w' g a c ks (hk.up n) bk h1)
      have CL := hide (fun w => clamp_any w _ (fun j _ => wv_lt bk 32 j))
      have RC := hide (fun w' n => readCoordinate_any w' g' b c' us (hu.up n) bu h2)
      have E1 := elt_ok (low7_byt bu) ((low7_len us).trans h2)
      have LD := hide (fun w' n => ladder_any w' _ (clw_ok (fun j _ => wv_lt bk 32 j)) _ (num (low7 us)) E1 (hL.up n).t (hL.up n).s (hL.up n).i)
      have HI := hide (lad_impl bk h1 (num (low7 us)))
      have KA : Hid (ladA ks us = fill (byt (ladE (num (low7 us)) (fun i => wbit (clw (wv (fun j => ks.getD j 0) 32)) (254 - i)) 255 % PP)) 32) := by show _ = _; unfold ladA; rw [if_pos ⟨h1, h2⟩, lad_impl bk h1]
      have KB : Hid (shB ks us = !decide (ladE (num (low7 us)) (fun i => wbit (clw (wv (fun j => ks.getD j 0) 32)) (254 - i)) 255 % PP = 0)) := by show _ = _; unfold shB; rw [decide_eq_true ⟨h1, h2⟩, HI.out]; rfl
      simp only [decide_eq_true h1] at T1
      simp only [decide_eq_true h2] at T2
      rw [h1] at T1 ⊢
      rw [h2] at T2 ⊢
      clear h1 h2 hk hu bk bu E1 HI
      generalize ladE (num (low7 us)) (fun i => wbit (clw (wv (fun j => ks.getD j 0) 32)) (254 - i)) 255 = V at *
      generalize elt (low7 us) = x at *
      generalize clw (wv (fun j => ks.getD j 0) 32) = U at *
      generalize wv (fun j => ks.getD j 0) 32 = U0 at *
      simp only [ag5, ag4] at RS CL RC LD
      go_enter Tryd.func16, Tryd.ntmps16
      go_upto_region 1 with fail
      generalize w.alloc (.cells #[.bool false, .slice none 0 0] 29) = wa at *
      go_wp2_with (first
        | (go_at_call_of 35 (Value.slice a 32 c); refine (T1 _).mono ?_; rintro r wz ⟨rfl, rfl⟩)
        | (go_at_call_of 35 (Value.slice b 32 c'); refine (T2 _).mono ?_; rintro r wz ⟨rfl, rfl⟩))
      refine (RS.out _ hal).mono ?_
      rintro r w1 ⟨rfl, n1⟩
      have N1 := nxt hal n1
      replace T0 := T0.up n1
      clear RS n1
      go_wp2_with fail
      refine (CL.out w1).mono ?_
      rintro r w2 ⟨rfl, n2⟩
      have N2 := nxt N1 n2
      replace T0 := T0.up n2
      clear CL N1 n2
      go_wp2_with fail
      refine (RC.out w2 N2).mono ?_
      rintro r w3 ⟨rfl, n3⟩
      have N3 := nxt N2 n3
      replace T0 := T0.up n3
      clear RC n3 N2
      go_wp2_with fail
      refine (LD.out w3 N3).mono ?_
      rintro r w4 ⟨t, rfl, IT, n4⟩
      have N4 := nxt N3 n4
      replace T0 := T0.up n4
      clear LD n4 N3
      have n5 : Below w4.heap.size w4 (w4.alloc (.cells #[.int .u64 (t 0), .int .u64 (t 1), .int .u64 (t 2), .int .u64 (t 3), .int .u64 (t 4)] 49)) := (Below.refl _ _).alloc (Nat.le_refl _) _
      have X5 := blk_box w4 .u64 49 (t 0) (t 1) (t 2) (t 3) (t 4)
      have EQ := fun w => eqElem (t 0) (t 1) (t 2) (t 3) (t 4) 0 0 0 0 0 w
      have EL' : (t 0 == 0 && t 1 == 0 && t 2 == 0 && t 3 == 0 && t 4 == 0) = decide (V % PP = 0) := by
        have e := eq_Lm IT.1 z5L
        rw [IT.2] at e
        exact e
      rw [EL'] at EQ
      clear EL'
      have BY := hide (fun w => bytes_any w t IT.1)
      rw [IT.2, ← KA.out] at BY
      simp only [ag5] at BY
      have z0 := T0.lt
      have z4 := N4.size
      clear IT hL T1 T2
      by_cases hz : V % PP = 0
      · have KB' : Hid (shB ks us = false) := by show _ = _; rw [KB.out, decide_eq_true hz]; rfl
        have KL : Hid (shL ks us = []) := by show _ = _; unfold shL; rw [if_neg (by rw [KB'.out]; simp)]
        simp only [decide_eq_true hz] at EQ
        clear hz KA KB BY
        go_upto_region 4 with fail
        generalize w4.alloc (.cells #[.int .u64 (t 0), .int .u64 (t 1), .int .u64 (t 2), .int .u64 (t 3), .int .u64 (t 4)] 49) = w5 at *
        obtain ⟨⟨x0, x1, x2, x3, x4⟩, _⟩ := X5.f5
        obtain ⟨c0, c1, f0, f1⟩ := T0.up n5
        have N5 := nxt N4 n5
        have z5 := N5.size
        clear X5 T0 n5 N4
        go_wp2
        refine bodyPost_ret (v := .agg #[.bool false, .slice none 0 0]) (by simp [results, Tryd.results16, go_sem, c0, c1]) rfl ⟨?_, ?_⟩
        · rw [KB'.out, KL.out]
          exact NewRes.none (by simp [World.setCell]; omega)
        · exact (N5.setCell (Nat.le_refl _) _).setCell (Nat.le_refl _) _
      · have KB' : Hid (shB ks us = true) := by show _ = _; rw [KB.out, decide_eq_false hz]; rfl
        have KL : Hid (shL ks us = ladA ks us) := by show _ = _; unfold shL; rw [if_pos KB'.out]
        simp only [decide_eq_false hz] at EQ
        clear hz KA KB
        go_upto_region 4 with fail
        generalize w4.alloc (.cells #[.int .u64 (t 0), .int .u64 (t 1), .int .u64 (t 2), .int .u64 (t 3), .int .u64 (t 4)] 49) = w5 at *
        obtain ⟨⟨x0, x1, x2, x3, x4⟩, _⟩ := X5.f5
        have T5 := T0.up n5
        have N5 := nxt N4 n5
        have z5 := N5.size
        have z45 := n5.size
        clear X5 T0 n5 N4
        go_wp2_with fail
        refine (BY.out w5).mono ?_
        rintro r w6 ⟨⟨a6, c6, g6, rfl, o6, p6, q6, r6⟩, n6⟩
        have N6 := nxt N5 n6
        obtain ⟨c0, c1, f0, f1⟩ := T5.up n6
        have O := (Only.setCell w6 w.heap.size 0 (.bool true)).trans (Only.setCell _ w.heap.size 1 (.slice a6 (ladA ks us).length c6))
        have o7 := o6.only O (fun _ => by omega)
        have N7 := N6.trans (O.below (Nat.le_refl _))
        clear BY T5 N5 N6 n6 O o6 x0 x1 x2 x3 x4 EQ
        generalize ladA ks us = ys at *
        go_wp2
        refine bodyPost_ret (v := .agg #[.bool true, .slice a6 ys.length c6]) (by simp [results, Tryd.results16, go_sem, c0, c1]) rfl ⟨?_, N7⟩
        rw [KB'.out, KL.out]
        exact ⟨a6, c6, g6, rfl, o7, p6, q6, by omega⟩
    · have KB : Hid (shB ks us = false) := by show _ = _; unfold shB; rw [decide_eq_false (fun h => h2 h.2)]; rfl
      have KL : Hid (shL ks us = []) := by show _ = _; unfold shL; rw [if_neg (by rw [KB.out]; simp)]
      simp only [decide_eq_true h1] at T1
      simp only [decide_eq_false h2] at T2
      rw [h1] at T1 ⊢
      obtain ⟨c0, c1, f0, f1⟩ := T0
      clear h1 h2
      go_enter Tryd.func16, Tryd.ntmps16
      go_upto_region 1 with fail
      generalize w.alloc (.cells #[.bool false, .slice none 0 0] 29) = wa at *
      go_wp2_with (first
        | (go_at_call_of 35 (Value.slice a 32 c); refine (T1 _).mono ?_; rintro r wz ⟨rfl, rfl⟩)
        | (go_at_call_of 35 (Value.slice b us.length c'); refine (T2 _).mono ?_; rintro r wz ⟨rfl, rfl⟩))
      refine bodyPost_ret (v := .agg #[.bool false, .slice none 0 0]) (by simp [results, Tryd.results16, go_sem, c0, c1]) rfl ⟨?_, ?_⟩
      · rw [KB.out, KL.out]
        exact NewRes.none (by simp [World.setCell]; omega)
      · exact (hal.setCell (Nat.le_refl _) _).setCell (Nat.le_refl _) _
  · have KB : Hid (shB ks us = false) := by show _ = _; unfold shB; rw [decide_eq_false (fun h => h1 h.1)]; rfl
    have KL : Hid (shL ks us = []) := by show _ = _; unfold shL; rw [if_neg (by rw [KB.out]; simp)]
    simp only [decide_eq_false h1] at T1
    obtain ⟨c0, c1, f0, f1⟩ := T0
    clear h1
    go_enter Tryd.func16, Tryd.ntmps16
    go_upto_region 1 with fail
    generalize w.alloc (.cells #[.bool false, .slice none 0 0] 29) = wa at *
    go_wp2_with (first
      | (go_at_call_of 35 (Value.slice a ks.length c); refine (T1 _).mono ?_; rintro r wz ⟨rfl, rfl⟩))
    refine bodyPost_ret (v := .agg #[.bool false, .slice none 0 0]) (by simp [results, Tryd.results16, go_sem, c0, c1]) rfl ⟨?_, ?_⟩
    · rw [KB.out, KL.out]
      exact NewRes.none (by simp [World.setCell]; omega)
    · exact (hal.setCell (Nat.le_refl _) _).setCell (Nat.le_refl _) _

theorem bval_zero_all {xs : List Int} (h : Byt xs) (hb : bval xs = 0) : ∀ j, xs.getD j 0 = 0 := by
  intro j
  by_cases hj : j < xs.length
  · have e : dig xs (xs.length - 1 - j) = xs.getD j 0 := by
      unfold dig
      rw [if_pos (by omega), show xs.length - 1 - (xs.length - 1 - j) = j by omega]
    have d : dig xs (xs.length - 1 - j) = dig [] (xs.length - 1 - j) := dig_same (b := []) h (fun i => by simp) (hb.trans rfl) _
    rw [← e, d]
    rfl
  · rw [List.getD_eq_getElem?_getD, List.getElem?_eq_none (by omega)]
    rfl
theorem lsum_all0 {a : Nat → Int} : ∀ n, (∀ j, j < n → a j = 0) → lsum a n = 0
  | 0, _ => rfl
  | n + 1, h => by rw [lsum, lsum_all0 n (fun j hj => h j (by omega)), h n (by omega)]; omega
theorem canon_pos' {zs : List Int} {v : Int} (h : Canon zs v) (hl : 0 < zs.length) : v ≠ 0 := fun e => by
  have := bval_zero_all h.1 (h.2.1.trans e) 0
  exact h.2.2 hl this
theorem num_zero {ks us : List Int} (h1 : ks.length = 32) (h2 : us.length = 32) : shB ks us = !decide (bval (ladA ks us) = 0) := by
  have e : ladA ks us = fill (byt (ladS (num (low7 us)) (num (clampL ks)) % PP)) 32 := by unfold ladA; rw [if_pos ⟨h1, h2⟩]
  unfold shB
  rw [decide_eq_true ⟨h1, h2⟩]
  congr 1
  rw [e]
  generalize ladS (num (low7 us)) (num (clampL ks)) = V
  have v0 := Int.emod_nonneg V (show PP ≠ 0 by decide)
  have v1 := Int.emod_lt_of_pos V (show (0 : Int) < PP by decide)
  by_cases hz : V % PP = 0
  · rw [hz]
    decide +kernel
  · suffices hb : ¬ bval (fill (byt (V % PP)) 32) = 0 by
      rw [decide_eq_false hz, decide_eq_false hb]
      rfl
    intro hb
    have h0 := bval_zero_all (bytes_L (V % PP) 32) hb
    have n0 := num_modS V
    have : num (fill (byt (V % PP)) 32) = 0 := by
      unfold num
      rw [fill_len]
      exact lsum_all0 32 (fun j _ => h0 j)
    omega

set_option maxHeartbeats 4000000 in
theorem specShared_any (w : World) (g g' : Nat) (a b : Option Addr) (c c' : Nat) (ks us : List Int) (hk : Rd w g a .u8 ks) (hu : Rd w g' b .u8 us) (bk : Byt ks) (bu : Byt us) (ck : a = none → c = 0) (cu : b = none → c' = 0) :
    Calls Tryd.prog 15 #[.slice a ks.length c, .slice b us.length c'] w fun e w' => NewRes w.heap.size w' e (shB ks us) (shL ks us) ∧ Below w.heap.size w w' := by
  have hal : Below w.heap.size w (w.alloc (.cells #[.bool false, .slice none 0 0] 29)) := (Below.refl _ _).alloc (Nat.le_refl _) _
  have T0 := Two.new w (.bool false) (.slice none 0 0) 29
  have s0 : (w.alloc (.cells #[.bool false, .slice none 0 0] 29)).heap.size = w.heap.size + 1 := by simp
  have SL := hide (fun w' n => specLadder_any w' g g' a b c c' ks us (hk.up n) (hu.up n) bk bu ck cu)
  have LY : Byt (ladA ks us) := by
    unfold ladA
    split
    · exact bytes_L _ _
    · exact fun i => by simp
  have LN : (ladA ks us).length ≤ 32 := by
    unfold ladA
    split
    · rw [fill_len]; omega
    · simp
  have KS : Hid (shB ks us = !decide (bval (ladA ks us) = 0)) := by
    show _ = _
    by_cases h : ks.length = 32 ∧ us.length = 32
    · exact num_zero h.1 h.2
    · unfold shB ladA
      rw [decide_eq_false h, if_neg h]
      rfl
  have KL : Hid (shL ks us = if shB ks us = true then ladA ks us else []) := by show _ = _; rfl
  go_enter Tryd.func15, Tryd.ntmps15
  go_wp2_with fail
  generalize w.alloc (.cells #[.bool false, .slice none 0 0] 29) = wa at *
  refine (SL.out wa hal).mono ?_
  rintro r w1 ⟨⟨a1, c1, g1, rfl, o1, p1, q1, r1⟩, n1⟩
  have N1 := nxt hal n1
  have T1 := T0.up n1
  clear SL T0 n1 hal hk hu
  obtain ⟨ys, hys⟩ : ∃ ys, ys = ladA ks us := ⟨_, rfl⟩
  rw [← hys] at o1 q1 LY LN KS KL ⊢
  clear hys
  have TM := hide (l1Trim_any w1 g1 a1 c1 ys o1.rd LY p1 q1 (by omega))
  go_wp2_with fail
  refine TM.out.mono ?_
  rintro r w2 ⟨zs, CZ, lz, ⟨a2, c2, g2, rfl, o2, p2, q2, r2⟩, n2⟩
  have N2 := nxt N1 n2
  obtain ⟨c0, c1', f0, f1⟩ := T1.up n2
  have oy := o1.up n2
  have zz := T1.lt
  clear TM T1 N1 o1 n2 o2 p2 q2 r2
  by_cases hz : zs.length = 0
  · have tz : ((zs.length : Int) == 0) = true := by simp [hz]
    have bz : bval ys = 0 := by
      have : zs = [] := List.eq_nil_of_length_eq_zero hz
      rw [← CZ.2.1, this]
      rfl
    have KB : Hid (shB ks us = false) := by show _ = _; rw [KS.out, decide_eq_true bz]; rfl
    have KK : Hid (shL ks us = []) := by show _ = _; rw [KL.out, if_neg (by rw [KB.out]; simp)]
    have z2 := N2.size
    clear hz bz CZ KS KL
    go_wp2
    refine bodyPost_ret (v := .agg #[.bool false, .slice none 0 0]) (by simp [results, Tryd.results15, go_sem, c0, c1']) rfl ⟨?_, ?_⟩
    · rw [KB.out, KK.out]
      exact NewRes.none (by simp [World.setCell]; omega)
    · exact (N2.setCell (Nat.le_refl _) _).setCell (Nat.le_refl _) _
  · have tz : ((zs.length : Int) == 0) = false := by simp; intro h; exact hz (by rw [h]; rfl)
    have bz : ¬ bval ys = 0 := fun h => by
      have := canon_pos' CZ (by omega)
      omega
    have KB : Hid (shB ks us = true) := by show _ = _; rw [KS.out, decide_eq_false bz]; rfl
    have KK : Hid (shL ks us = ys) := by show _ = _; rw [KL.out, if_pos KB.out]
    have O := (Only.setCell w2 w.heap.size 0 (.bool true)).trans (Only.setCell _ w.heap.size 1 (.slice a1 ys.length c1))
    have o7 := oy.only O (fun _ => by omega)
    have N7 := N2.trans (O.below (Nat.le_refl _))
    clear hz bz CZ KS KL O oy N2
    go_wp2
    refine bodyPost_ret (v := .agg #[.bool true, .slice a1 ys.length c1]) (by simp [results, Tryd.results15, go_sem, c0, c1']) rfl ⟨?_, N7⟩
    rw [KB.out, KK.out]
    exact ⟨a1, c1, g1, rfl, o7, p1, q1, by omega⟩
end Go.Proofs.YtblkjpmkikhpbaaDoor
