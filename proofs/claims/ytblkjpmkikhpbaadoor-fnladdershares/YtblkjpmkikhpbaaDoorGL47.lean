import Derived.Test.YtblkjpmkikhpbaaDoorGL46
import Derived.Test.YtblkjpmkikhpbaaDoorGL16
import Derived.Test.YtblkjpmkikhpbaaDoorGL12
import Derived.Test.YtblkjpmkikhpbaaDoorGL2
import Derived.Laws.AppendOwnNone
import Derived.Deep.MidRow
import Derived.Test.YtblkjpmkikhpbaaDoorGL3
import Derived.Test.YtblkjpmkikhpbaaDoorGL25
import Derived.Test.YtblkjpmkikhpbaaDoorGL37
import Derived.Test.YtblkjpmkikhpbaaDoorGL38

/-
  The program's Ladder and LadderPublic.
-/
namespace Go.Proofs.YtblkjpmkikhpbaaDoor
set_option maxRecDepth 100000
open Go Go.RowKit

/-- The tables that the ladder reads. -/
structure HasL (w : World) : Prop where
  t : HasTw w 1
  s : HasSt w 2
  i : Has3 w 0 12 5 4
theorem HasL.up {w w' : World} (h : HasL w) (n : Below w.heap.size w w') : HasL w' := ⟨h.t.up n, h.s.up n, h.i.up n⟩

theorem lad_impl {ks : List Int} (hb : Byt ks) (hl : ks.length = 32) (X : Int) : ladE X (fun i => wbit (clw (wv (fun j => ks.getD j 0) 32)) (254 - i)) 255 % PP = ladS X (num (clampL ks)) % PP := by
  have hW : W4 (clw (wv (fun j => ks.getD j 0) 32)) := clw_ok (fun j _ => wv_lt hb 32 j)
  obtain ⟨k1, k2, _⟩ := clampL_bd hb hl
  have e : ladE X (fun i => wbit (clw (wv (fun j => ks.getD j 0) 32)) (254 - i)) 255 = ladE X (fun i => kbit (num (clampL ks)) (254 - i)) 255 := by
    unfold ladE
    rw [lrnds_congr X (fun i => wbit (clw (wv (fun j => ks.getD j 0) 32)) (254 - i)) (fun i => kbit (num (clampL ks)) (254 - i)) 255 (fun i hi => by rw [wbit_k hW (by omega), clw_num hb hl])]
  rw [e]
  unfold ladS
  refine (lad_same X (fun i => kbit (num (clampL ks)) (254 - i)) (fun i => kbit (num (clampL ks)) (255 - i)) ?_ (fun i => by rw [show 255 - (i + 1) = 254 - i by omega]) ?_ 254).symm
  · generalize num (clampL ks) = K at *
    unfold kbit
    have : K / 2 ^ (255 - 0) = 0 := Int.ediv_eq_zero_of_lt (by omega) (by simpa using k2)
    rw [this]
    rfl
  · generalize num (clampL ks) = K at *
    unfold kbit
    have : K / 2 ^ (254 - 0) = 1 := by
      have h : (2 : Int) ^ (254 - 0) = 28948022309329048855892746252171976963317496166410141009864396001978282409984 := by decide
      rw [h]
      omega
    rw [this]
    rfl
theorem is5_fill {t : Nat → Int} {A B : Int} (h : Is5 t A) (e : A % PP = B % PP) : fill (byt (sv t 5)) 32 = fill (byt (B % PP)) 32 := by rw [h.2, e]

set_option maxHeartbeats 4000000 in
theorem implLadder_any (w : World) (g g' : Nat) (a b : Option Addr) (c c' : Nat) (ks us : List Int) (hk : Rd w g a .u8 ks) (hu : Rd w g' b .u8 us) (bk : Byt ks) (bu : Byt us) (hL : HasL w) :
    Calls Tryd.prog 9 #[.slice a ks.length c, .slice b us.length c'] w fun e w' => NewRow w.heap.size w' e .u8 (ladA ks us) ∧ Below w.heap.size w w' := by
  have T1 := fun w => isFieldSize_any w a c ks.length
  have T2 := fun w => isFieldSize_any w b c' us.length
  by_cases h1 : ks.length = 32
  · by_cases h2 : us.length = 32
    · have RS := hide (readScalar_any w g a c ks hk bk h1)
      have CL := hide (fun w => clamp_any w _ (fun j _ => wv_lt bk 32 j))
      have RC := hide (fun w' n => readCoordinate_any w' g' b c' us (hu.up n) bu h2)
      have E1 := elt_ok (low7_byt bu) ((low7_len us).trans h2)
      have LD := hide (fun w' n => ladder_any w' _ (clw_ok (fun j _ => wv_lt bk 32 j)) _ (num (low7 us)) E1 (hL.up n).t (hL.up n).s (hL.up n).i)
      have KA : Hid (ladA ks us = fill (byt (ladE (num (low7 us)) (fun i => wbit (clw (wv (fun j => ks.getD j 0) 32)) (254 - i)) 255 % PP)) 32) := by show _ = _; unfold ladA; rw [if_pos ⟨h1, h2⟩, lad_impl bk h1]
      simp only [decide_eq_true h1] at T1
      simp only [decide_eq_true h2] at T2
      rw [h1] at T1 ⊢
      rw [h2] at T2 ⊢
      clear h1 h2 hk hu bk bu E1
      generalize ladE (num (low7 us)) (fun i => wbit (clw (wv (fun j => ks.getD j 0) 32)) (254 - i)) 255 = V at *
      generalize elt (low7 us) = x at *
      generalize clw (wv (fun j => ks.getD j 0) 32) = U at *
      generalize wv (fun j => ks.getD j 0) 32 = U0 at *
      simp only [ag5, ag4] at RS CL RC LD
      go_enter Tryd.func9, Tryd.ntmps9
      go_wp2_with (first
        | (go_at_call_of 35 (Value.slice a 32 c); refine (T1 _).mono ?_; rintro r w0 ⟨rfl, rfl⟩)
        | (go_at_call_of 35 (Value.slice b 32 c'); refine (T2 _).mono ?_; rintro r w0 ⟨rfl, rfl⟩))
      refine RS.out.mono ?_
      rintro r w1 ⟨rfl, n1⟩
      clear RS
      go_wp2_with fail
      refine (CL.out w1).mono ?_
      rintro r w2 ⟨rfl, n2⟩
      have N2 := nxt n1 n2
      clear CL n1 n2
      go_wp2_with fail
      refine (RC.out w2 N2).mono ?_
      rintro r w3 ⟨rfl, n3⟩
      have N3 := nxt N2 n3
      clear RC n3 N2
      go_wp2_with fail
      refine (LD.out w3 N3).mono ?_
      rintro r w4 ⟨t, rfl, IT, n4⟩
      have N4 := nxt N3 n4
      clear LD n4 N3
      have BY := hide (bytes_any w4 t IT.1)
      rw [IT.2, ← KA.out] at BY
      simp only [ag5] at BY
      have z4 := N4.size
      clear KA IT hL
      go_wp2_with fail
      refine BY.out.mono ?_
      rintro r w5 ⟨⟨a5, c5, g5, rfl, o5, p5, q5, r5⟩, n5⟩
      have N5 := nxt N4 n5
      clear BY N4 n5
      go_wp2
      go_ret
      exact ⟨⟨a5, c5, g5, rfl, o5, p5, q5, by omega⟩, N5⟩
    · have K : Hid (ladA ks us = []) := by show _ = _; unfold ladA; rw [if_neg (fun h => h2 h.2)]
      simp only [decide_eq_true h1] at T1
      simp only [decide_eq_false h2] at T2
      rw [h1] at T1 ⊢
      clear h1 h2
      go_enter Tryd.func9, Tryd.ntmps9
      go_wp2_with (first
        | (go_at_call_of 35 (Value.slice a 32 c); refine (T1 _).mono ?_; rintro r w0 ⟨rfl, rfl⟩)
        | (go_at_call_of 35 (Value.slice b us.length c'); refine (T2 _).mono ?_; rintro r w0 ⟨rfl, rfl⟩))
      go_ret
      rw [K.out]
      exact ⟨⟨none, 0, _, rfl, Own.nil _ _ _ _, by simp, by simp, Nat.le_refl _⟩, Below.refl _ _⟩
  · have K : Hid (ladA ks us = []) := by show _ = _; unfold ladA; rw [if_neg (fun h => h1 h.1)]
    simp only [decide_eq_false h1] at T1
    clear h1
    go_enter Tryd.func9, Tryd.ntmps9
    go_wp2_with (first
      | (go_at_call_of 35 (Value.slice a ks.length c); refine (T1 _).mono ?_; rintro r w0 ⟨rfl, rfl⟩))
    go_ret
    rw [K.out]
    exact ⟨⟨none, 0, _, rfl, Own.nil _ _ _ _, by simp, by simp, Nat.le_refl _⟩, Below.refl _ _⟩

/-- Thirty-two bytes of 9. -/
def nine : List Int := fill (dig [9]) 32
theorem nine_low : num (low7 nine) = 9 := by decide +kernel
theorem nine_len : nine.length = 32 := fill_len _ _
theorem nine_byt : Byt nine := fun i => by
  by_cases hi : i < 32
  · unfold nine
    rw [fill_get _ _ _ hi]
    have := dig_byt (xs := [9]) (fun j => by rcases j with _ | j <;> simp) i
    omega
  · rw [List.getD_eq_getElem?_getD, List.getElem?_eq_none (by rw [nine_len]; omega)]
    simp
def pubA (ks : List Int) : List Int := ladA ks nine

set_option maxHeartbeats 4000000 in
theorem implPublic_any (w : World) (g : Nat) (a : Option Addr) (c : Nat) (ks : List Int) (hk : Rd w g a .u8 ks) (bk : Byt ks) (hL : HasL w) :
    Calls Tryd.prog 14 #[.slice a ks.length c] w fun e w' => NewRow w.heap.size w' e .u8 (pubA ks) ∧ Below w.heap.size w w' := by
  have T1 := fun w => isFieldSize_any w a c ks.length
  by_cases h1 : ks.length = 32
  · have RS := hide (readScalar_any w g a c ks hk bk h1)
    have CL := hide (fun w => clamp_any w _ (fun j _ => wv_lt bk 32 j))
    have LD := hide (fun w' n => ladder_any w' _ (clw_ok (fun j _ => wv_lt bk 32 j)) _ 9 (sm5_ok (n := 9) (by decide) (by decide)) (hL.up n).t (hL.up n).s (hL.up n).i)
    have KA : Hid (pubA ks = fill (byt (ladE 9 (fun i => wbit (clw (wv (fun j => ks.getD j 0) 32)) (254 - i)) 255 % PP)) 32) := by show _ = _; unfold pubA ladA; rw [if_pos ⟨h1, nine_len⟩, lad_impl bk h1, nine_low]
    simp only [decide_eq_true h1] at T1
    rw [h1] at T1 ⊢
    clear h1 hk bk
    generalize ladE 9 (fun i => wbit (clw (wv (fun j => ks.getD j 0) 32)) (254 - i)) 255 = V at *
    generalize clw (wv (fun j => ks.getD j 0) 32) = U at *
    generalize wv (fun j => ks.getD j 0) 32 = U0 at *
    have LD' : Hid (∀ w', Below w.heap.size w w' → Calls Tryd.prog 38 #[ag4 U, .agg #[.int .u64 9, .int .u64 0, .int .u64 0, .int .u64 0, .int .u64 0]] w' fun r w'' => ∃ t, r = .returned (ag5 t) ∧ Is5 t V ∧ Below w'.heap.size w' w'') := LD
    clear LD
    simp only [ag5, ag4] at RS CL LD'
    go_enter Tryd.func14, Tryd.ntmps14
    go_wp2_with fail
    refine (T1 w).mono ?_
    rintro r w0 ⟨rfl, rfl⟩
    clear T1
    go_wp2_with fail
    refine RS.out.mono ?_
    rintro r w1 ⟨rfl, n1⟩
    clear RS
    go_wp2_with fail
    refine (CL.out w1).mono ?_
    rintro r w2 ⟨rfl, n2⟩
    have N2 := nxt n1 n2
    clear CL n1 n2
    go_wp2_with fail
    refine (LD'.out w2 N2).mono ?_
    rintro r w4 ⟨t, rfl, IT, n4⟩
    have N4 := nxt N2 n4
    clear LD' n4 N2
    have BY := hide (bytes_any w4 t IT.1)
    rw [IT.2, ← KA.out] at BY
    simp only [ag5] at BY
    have z4 := N4.size
    clear KA IT hL
    go_wp2_with fail
    refine BY.out.mono ?_
    rintro r w5 ⟨⟨a5, c5, g5, rfl, o5, p5, q5, r5⟩, n5⟩
    have N5 := nxt N4 n5
    clear BY N4 n5
    go_wp2
    go_ret
    exact ⟨⟨a5, c5, g5, rfl, o5, p5, q5, by omega⟩, N5⟩
  · have K : Hid (pubA ks = []) := by show _ = _; unfold pubA ladA; rw [if_neg (fun h => h1 h.1)]
    simp only [decide_eq_false h1] at T1
    clear h1
    go_enter Tryd.func14, Tryd.ntmps14
    go_wp2_with fail
    refine (T1 w).mono ?_
    rintro r w0 ⟨rfl, rfl⟩
    clear T1
    go_wp2
    go_ret
    rw [K.out]
    exact ⟨⟨none, 0, _, rfl, Own.nil _ _ _ _, by simp, by simp, Nat.le_refl _⟩, Below.refl _ _⟩

set_option maxHeartbeats 4000000 in
theorem specPublic_any (w : World) (g : Nat) (a : Option Addr) (c : Nat) (ks : List Int) (hk : Rd w g a .u8 ks) (bk : Byt ks) (ck : a = none → c = 0) :
    Calls Tryd.prog 13 #[.slice a ks.length c] w fun e w' => NewRow w.heap.size w' e .u8 (pubA ks) ∧ Below w.heap.size w w' := by
  have B0 : Blk (w.alloc (.cells #[.int .u8 9] 5)) w.heap.size .u8 [9] := ⟨5, by rw [heap_alloc_last]; rfl⟩
  have n0 : Below w.heap.size w (w.alloc (.cells #[.int .u8 9] 5)) := (Below.refl _ _).alloc (Nat.le_refl _) _
  go_enter Tryd.func13, Tryd.ntmps13
  go_wp2_with fail
  generalize w.alloc (.cells #[.int .u8 9] 5) = wa at *
  have LT := l1Little_any wa w.heap.size (some ⟨w.heap.size, 0, none⟩) 1 [9] 32 B0.own0.rd (fun j => by rcases j with _ | j <;> simp) (by decide) (by decide)
  refine LT.mono ?_
  rintro r w2 ⟨rfl, B2, n2⟩
  have N2 := nxt n0 n2
  have SL := hide (specLadder_any w2 g wa.heap.size a (some ⟨wa.heap.size, 0, none⟩) c 32 ks nine (hk.up N2) B2.own0.rd bk nine_byt ck (by simp))
  rw [nine_len] at SL
  have z := N2.size
  clear LT B0 n0 B2 n2 hk
  go_wp2_with fail
  refine SL.out.mono ?_
  rintro r w5 ⟨⟨a5, c5, g5, rfl, o5, p5, q5, r5⟩, n5⟩
  have N5 := nxt N2 n5
  clear SL N2 n5
  go_wp2
  go_ret
  exact ⟨⟨a5, c5, g5, rfl, o5, p5, q5, by omega⟩, N5⟩
end Go.Proofs.YtblkjpmkikhpbaaDoor

/-
  What the listed package-level variables give the ladder.
-/
namespace Go.Proofs.YtblkjpmkikhpbaaDoor
set_option maxRecDepth 100000
open Go.RowKit

theorem hasL_of {l : List (String × DataW Unit)} {W : World} (h : laidMetH Tryd.prog l W) (hp : (l.all fun x => x.2.handleName?.isNone) = true)
    (h1 : ("loop.example/g00004/impl.chainSteps", Rows.laid_loop_example_g00004_impl_chainSteps) ∈ l) (h2 : ("loop.example/g00004/impl.inverseStep", Rows.laid_loop_example_g00004_impl_inverseStep) ∈ l)
    (h3 : ("loop.example/g00004/impl.twiceP", Rows.laid_loop_example_g00004_impl_twiceP) ∈ l) : HasL W :=
  ⟨tw_of_reads (reads_of h hp h3), st_of_reads (reads_of h hp h1), three_of_reads gIn tIn (reads_of h hp h2)⟩
theorem laid_ladder {W : World} (h : laidMetH Tryd.prog Rows.fnExactLadderRow.laid W) : HasL W := hasL_of h (by kernel_rfl) (.head _) (.tail _ (.head _)) (.tail _ (.tail _ (.head _)))
theorem laid_public {W : World} (h : laidMetH Tryd.prog Rows.fnExactLadderPublicRow.laid W) : HasL W := hasL_of h (by kernel_rfl) (.head _) (.tail _ (.head _)) (.tail _ (.tail _ (.head _)))
theorem laid_shared {W : World} (h : laidMetH Tryd.prog Rows.fnExactLadderSharedRow.laid W) : HasL W := hasL_of h (by kernel_rfl) (.head _) (.tail _ (.head _)) (.tail _ (.tail _ (.head _)))
theorem laid_shares {W : World} (h : laidMetH Tryd.prog Rows.fnLadderSharesRow.laid W) : HasL W := hasL_of h (by kernel_rfl) (.head _) (.tail _ (.head _)) (.tail _ (.tail _ (.head _)))
end Go.Proofs.YtblkjpmkikhpbaaDoor

/-
  Elements held against each other.
-/
namespace Go.Proofs.YtblkjpmkikhpbaaDoor
set_option maxRecDepth 100000
open Go.RowKit

set_option maxHeartbeats 4000000 in
theorem eqElem (a0 a1 a2 a3 a4 b0 b1 b2 b3 b4 : Int) (w : World) :
    (Op.equalIn 10000 49 (.agg #[.int .u64 a0, .int .u64 a1, .int .u64 a2, .int .u64 a3, .int .u64 a4]) (.agg #[.int .u64 b0, .int .u64 b1, .int .u64 b2, .int .u64 b3, .int .u64 b4])).run Tryd.prog w = .ok (a0 == b0 && a1 == b1 && a2 == b2 && a3 == b3 && a4 == b4) w := by
  have u3 := Tryd.underlying47
  have a3' := Tryd.isAgg47
  have z3 := Tryd.sizeOf47
  rw [show (10000 : Nat) = 9999 + 1 from rfl, Op.equalIn]
  simp only [Sem.run_bind, run_underlying Tryd.underlying49, Result.andThen_ok]
  simp only [Std.Legacy.Range.forIn_eq_forIn_range', Std.Legacy.Range.size, Nat.sub_zero, Nat.add_sub_cancel, Nat.div_one, List.range'_succ, List.range'_zero, List.forIn_cons, List.forIn_nil]
  go_simp
  by_cases h0 : a0 = b0 <;> by_cases h1 : a1 = b1 <;> by_cases h2 : a2 = b2 <;> by_cases h3 : a3 = b3 <;> by_cases h4 : a4 = b4 <;> simp [h0, h1, h2, h3, h4]
theorem eq_Lm {U V : Nat → Int} (hU : Lm U) (hV : Lm V) : (U 0 == V 0 && U 1 == V 1 && U 2 == V 2 && U 3 == V 3 && U 4 == V 4) = decide (sv U 5 = sv V 5) := by
  by_cases h : sv U 5 = sv V 5
  · have e := hU.uniq hV h
    rw [e 0 (by omega), e 1 (by omega), e 2 (by omega), e 3 (by omega), e 4 (by omega)]
    simp [h]
  · rw [decide_eq_false h]
    cases hq : (U 0 == V 0 && U 1 == V 1 && U 2 == V 2 && U 3 == V 3 && U 4 == V 4)
    · rfl
    · exfalso
      simp only [Bool.and_eq_true, beq_iff_eq] at hq
      exact h (by simp only [sv]; rw [hq.1.1.1.1, hq.1.1.1.2, hq.1.1.2, hq.1.2, hq.2])
end Go.Proofs.YtblkjpmkikhpbaaDoor

/-
  Bytes without zeros ahead: the model's and the program's.
-/
namespace Go.Proofs.YtblkjpmkikhpbaaDoor
set_option maxRecDepth 100000
open Go.RowKit

set_option maxHeartbeats 400000 in
theorem l1Copy_any1 (w : World) (g : Nat) (a : Option Addr) (cap : Nat) (xs : List Int) (hr : Rd w g a .u8 xs) (hc : a = none → cap = 0) (hn : xs.length ≤ 1048576) :
    Calls Tryd.prog 26 #[.slice a xs.length cap] w fun e w' => NewRow w.heap.size w' e .u8 xs ∧ Below w.heap.size w w' := by
  obtain ⟨i0, hi, hz0, hz1, hz2⟩ := info_parts Tryd.info5
  have hown : (w.alloc (.cells #[] 5)).ownsRow w.heap.size 5 1 (.slice (some ⟨w.heap.size, 0, none⟩) 0 0) 0 [] := World.ownsRow_lit w #[] 0 (Nat.le_refl _) (by unfold maxLen; omega) (by simp)
  have hal : Below w.heap.size w (w.alloc (.cells #[] 5)) := (Below.refl _ _).alloc (Nat.le_refl _) _
  cases a with
  | none =>
    obtain rfl : xs = [] := by
      by_cases h0 : 0 < xs.length
      · obtain ⟨off, h, _⟩ := hr h0
        simp at h
      · exact List.eq_nil_of_length_eq_zero (by omega)
    obtain rfl := hc rfl
    go_enter Tryd.func26, Tryd.ntmps26
    go_wp2_with (at_builtin; refine wpList_append_own_none rfl _ _ 22 rfl w.heap.size 5 i0 1 Tryd.underlying22 hi _ 0 [] rfl hown rfl ?_)
    go_ret
    exact ⟨⟨_, _, w.heap.size, rfl, Own.nil _ _ _ _, by simp, Nat.zero_le _, Nat.le_refl _⟩, hal⟩
  | some ad =>
    have hcell : ∀ j u, (xs.map (Value.int .u8))[j]? = some u → (w.alloc (.cells #[] 5)).cell? (ad.add j) = some u := by
      intro j u hj
      have hjl : j < xs.length := by
        have := (List.getElem?_eq_some_iff.1 hj).1
        simpa using this
      obtain ⟨off, ha, hcc⟩ := (hr.up hal) (by omega)
      simp only [Option.some.injEq] at ha
      subst ha
      rw [Addr.add_mid, hcc j hjl]
      simpa [hjl] using hj
    have hone : ∀ u ∈ xs.map (Value.int .u8), u.oneCell' = true := by
      intro u hu
      obtain ⟨x, _, rfl⟩ := List.mem_map.1 hu
      rfl
    go_enter Tryd.func26, Tryd.ntmps26
    go_wp2_with (at_builtin; refine wpList_append_own _ rfl _ _ 22 rfl w.heap.size 5 i0 (.int .u8 0) 1 1 Tryd.underlying22 hi hz0 hz1 hz2 rfl (by decide) (.slice (some ⟨w.heap.size, 0, none⟩) 0 0) 0 [] rfl hown ad xs.length cap (xs.map (Value.int .u8)) rfl (by simp) hcell hone (by unfold maxLen; omega) (by omega) (by simp) ?_; intro v' w1 hown' hgrow _)
    simp only [Nat.zero_add, List.nil_append] at hown'
    obtain ⟨a', c', g', rfl, h1, h2, h3, h4⟩ := Own.of_ownsRow hown'
    have hB : Below w.heap.size w w1 := hal.grown hgrow (by simp) (by intro k hk; simp [Value.ownBlock] at hk; omega)
    clear hown' hgrow hown
    go_wp2
    go_ret
    exact ⟨⟨_, _, g', rfl, h1, h2, h3, h4⟩, hB⟩

set_option maxHeartbeats 400000 in
theorem l1Trim_any1 (w : World) (g : Nat) (a : Option Addr) (cap : Nat) (xs : List Int) (hr : Rd w g a .u8 xs) (hb : Byt xs) (hc : a = none → cap = 0) (hcap : xs.length ≤ cap) (hn : xs.length ≤ 1048576) :
    Calls Tryd.prog 42 #[.slice a xs.length cap] w fun e w' => ∃ ys, Canon ys (bval xs) ∧ ys.length ≤ xs.length ∧ NewRow w.heap.size w' e .u8 ys ∧ Below w.heap.size w w' := by
  go_enter Tryd.func42, Tryd.ntmps42
  go_wp2
  go_loop [3] (fun i => ∃ k : Nat, k ≤ xs.length ∧ i = .int .i64 k ∧ ZeroTo xs k) (fun i => xs.length - (intOf i).toNat)
  case atStart => exact ⟨0, Nat.zero_le _, rfl, fun j hj => absurd hj (by omega)⟩
  case round =>
    obtain ⟨k, hk, rfl, hz⟩ := hrel
    by_cases hlt : k < xs.length
    · obtain ⟨off, rfl, hcc⟩ := hr (by omega)
      have hcx := hcc k hlt
      have R := hz.step
      obtain ⟨x, hx⟩ : ∃ x, x = xs.getD k 0 := ⟨_, rfl⟩
      rw [← hx] at hcx R
      have Hx : Hid (x = xs.getD k 0) := hx
      clear hx
      by_cases h0 : x = 0
      · have R' := R h0
        subst h0
        clear R hcc Hx hz
        go_wp2
        go_round
        case rel => exact ⟨k + 1, by omega, by go_num, R'⟩
        case measure => simp [intOf]; omega
      · have h1 : (x == 0) = false := by simp [h0]
        have C := hz.canon hb (fun _ => by rw [← Hx.out]; exact h0)
        have hr' : Rd w g (some ⟨g, off + k, none⟩) .u8 (xs.drop k) := by
          intro _
          refine ⟨off + k, rfl, fun i hi => ?_⟩
          rw [List.length_drop] at hi
          rw [Nat.add_assoc, hcc (k + i) (by omega)]
          simp [List.getElem?_drop]
        have K := l1Copy_any1 w g (some ⟨g, off + k, none⟩) (cap - k) (xs.drop k) hr' (by simp) (by rw [List.length_drop]; omega)
        rw [List.length_drop] at K
        have HK := hide K
        clear R hcc Hx hz K
        go_wp2_with fail
        refine (unhide HK).mono ?_
        rintro e w1 ⟨⟨a1, c1, g1, rfl, o1, q1, q2, q3⟩, n1⟩
        go_wp2
        go_ret
        exact ⟨_, C, by rw [List.length_drop]; omega, ⟨_, _, _, ret_slice (List.length_drop).symm, o1, q1, q2, q3⟩, n1⟩
    · obtain rfl : k = xs.length := by omega
      have C := hz.canon hb (fun h => absurd h (by omega))
      rw [List.drop_length] at C
      go_wp2_with fail
      · have K := l1Copy_any1 w 0 a 0 [] (Rd.nil _ _ _ _) (fun _ => rfl) (by simp)
        refine K.mono ?_
        rintro e w1 ⟨⟨a1, c1, g1, rfl, o1, q1, q2, q3⟩, n1⟩
        go_wp2
        go_ret
        exact ⟨_, C, Nat.zero_le _, ⟨_, _, _, rfl, o1, q1, q2, q3⟩, n1⟩
      · have K := l1Copy_any1 w 0 (Option.map (fun x => x.add xs.length) a) (cap - xs.length) [] (Rd.nil _ _ _ _) (fun h => by simp at h; rw [hc h]; omega) (by simp)
        refine K.mono ?_
        rintro e w1 ⟨⟨a1, c1, g1, rfl, o1, q1, q2, q3⟩, n1⟩
        go_wp2
        go_ret
        exact ⟨_, C, Nat.zero_le _, ⟨_, _, _, rfl, o1, q1, q2, q3⟩, n1⟩

end Go.Proofs.YtblkjpmkikhpbaaDoor

/-
  Results that are told as a struct: good, and a value.
-/
namespace Go.Proofs.YtblkjpmkikhpbaaDoor
set_option maxRecDepth 100000
open Go.RowKit

/-- What is answered for a number: its one form, if it has at most 128 bytes. -/
def ResOf (v : Int) (b : Bool) (ys : List Int) : Prop := ∃ c, Canon c v ∧ ((c.length ≤ 128 ∧ b = true ∧ ys = c) ∨ (128 < c.length ∧ b = false ∧ ys = []))
/-- .. where A holds; else nothing. -/
def NumOf (A : Prop) (v : Int) (b : Bool) (ys : List Int) : Prop := (A ∧ ResOf v b ys) ∨ (¬ A ∧ b = false ∧ ys = [])
theorem ResOf.uniq {v : Int} {b d : Bool} {ys zs : List Int} (h : ResOf v b ys) (k : ResOf v d zs) : b = d ∧ ys = zs := by
  obtain ⟨c, hc, h⟩ := h
  obtain ⟨c', hc', k⟩ := k
  obtain rfl := hc.uniq hc'
  rcases h with ⟨h1, rfl, rfl⟩ | ⟨h1, rfl, rfl⟩
  · rcases k with ⟨k1, rfl, rfl⟩ | ⟨k1, rfl, rfl⟩
    · exact ⟨rfl, rfl⟩
    · omega
  · rcases k with ⟨k1, rfl, rfl⟩ | ⟨k1, rfl, rfl⟩
    · omega
    · exact ⟨rfl, rfl⟩
theorem NumOf.uniq {A : Prop} {v : Int} {b d : Bool} {ys zs : List Int} (h : NumOf A v b ys) (k : NumOf A v d zs) : b = d ∧ ys = zs := by
  rcases h with ⟨h1, h2⟩ | ⟨h1, rfl, rfl⟩
  · rcases k with ⟨k1, k2⟩ | ⟨k1, rfl, rfl⟩
    · exact h2.uniq k2
    · exact absurd h1 k1
  · rcases k with ⟨k1, k2⟩ | ⟨k1, rfl, rfl⟩
    · exact absurd k1 h1
    · exact ⟨rfl, rfl⟩
theorem NumOf.len {A : Prop} {v : Int} {b : Bool} {ys : List Int} (h : NumOf A v b ys) : ys.length ≤ 128 := by
  rcases h with ⟨_, c, _, ⟨h1, _, rfl⟩ | ⟨_, _, rfl⟩⟩ | ⟨_, _, rfl⟩
  · exact h1
  · simp
  · simp

/-- A struct of a truth and a slice that the call made is handed back. -/
def NewRes (B : Nat) (w' : World) (e : Ending) (b : Bool) (ys : List Int) : Prop :=
  ∃ (a : Option Addr) (c g : Nat), e = .returned (.agg #[.bool b, .slice a ys.length c]) ∧ Own w' g a .u8 ys ∧ (a = none → c = 0) ∧ ys.length ≤ c ∧ B ≤ g
theorem NewRes.none {B : Nat} {w : World} (h : B ≤ w.heap.size) : NewRes B w (.returned (.agg #[.bool false, .slice none 0 0])) false [] :=
  ⟨_, 0, w.heap.size, rfl, Own.nil _ _ _ _, by simp, Nat.zero_le _, h⟩

set_option maxHeartbeats 2000000 in
theorem l1Add_any1 (w : World) (g g' : Nat) (a b : Option Addr) (ca cb : Nat) (xs us : List Int) (ha : Rd w g a .u8 xs) (hb : Rd w g' b .u8 us) (hx : Byt xs) (hu : Byt us)
    (hn : xs.length ≤ 4096) (hm : us.length ≤ 4096) :
    Calls Tryd.prog 71 #[.slice a xs.length ca, .slice b us.length cb] w fun e w' => ∃ ys, Canon ys (bval xs + bval us) ∧ NewRow w.heap.size w' e .u8 ys ∧ Below w.heap.size w w' := by
  obtain ⟨i0, hi, hz0, hz1, hz2⟩ := info_parts Tryd.info5
  by_cases hlen : xs.length < us.length
  · have t0 : decide ((xs.length : Int) < (us.length : Int)) = true := by simp; omega
    go_enter Tryd.func71, Tryd.ntmps71
    go_wp2_with (at_make; refine wpList_make_full _ rfl _ _ 22 rfl w.heap.size 5 i0 (.int .u8 0) 1 Tryd.underlying22 hi hz0 hz1 .i64 .i64 _ _ (us.length + 1) rfl rfl (by omega) (by omega) (by rw [hz2]; omega) (by unfold maxLen; omega) (Nat.le_refl _) ?_; intro w1 hown hgrow)
    have hB0 := Blk.of_made hown
    have hN0 : Below w.heap.size w w1 := (Below.refl _ _).grown hgrow (Nat.le_refl _) (by simp)
    clear hown hgrow
    go_loopw [7, 8] (fun q i wr => ∃ (k : Nat) (c : Int) (ys : List Int), k ≤ us.length + 1 ∧ i = .int .i64 k ∧ q = .int .i64 c ∧ (0 ≤ c ∧ c ≤ 1) ∧ (us.length < k → c = 0) ∧ AddTo xs us ys us.length k c ∧ Blk wr w.heap.size .u8 ys ∧ Below w.heap.size w wr) (fun _ i _ => us.length + 1 - (intOf i).toNat)
    case atStart => exact ⟨0, 0, _, Nat.zero_le _, rfl, rfl, ⟨by omega, by omega⟩, fun _ => rfl, ⟨by simp, byt_zeros _, ⟨by omega, by omega⟩, rfl⟩, hB0, hN0⟩
    case round =>
      obtain ⟨k, c, ys, hk, rfl, rfl, hc, hc0, hA, hB, hN⟩ := hrel
      by_cases hlt : k ≤ us.length
      · have R := hA.step hx hu hlt
        have hl : ys.length = us.length + 1 := hA.1
        have hcy : wr.cell? ⟨w.heap.size, us.length - k, none⟩ = some (.int .u8 (ys.getD (us.length - k) 0)) := hB.cell (by omega)
        have hfy := hB.free (us.length - k)
        have hB' := hB.store (us.length - k) ((dig xs k + dig us k + c) % 256)
        have hN' : Below w.heap.size w (wr.setCell ⟨w.heap.size, us.length - k, none⟩ (.int .u8 ((dig xs k + dig us k + c) % 256))) := hN.setCell (Nat.le_refl _) _
        have d1 := dig_byt hx k
        have d2 := dig_byt hu k
        have z1 : us.length < k + 1 → (dig xs k + dig us k + c) / 256 = 0 := fun h => by rw [dig_past xs k (by omega), dig_past us k (by omega)]; omega
        obtain ⟨p, hp⟩ : ∃ p : Nat, us.length - k = p := ⟨_, rfl⟩
        rw [hp] at hcy hfy hB' hN' R
        have p1 : (us.length : Int) - (k : Int) = (p : Int) := by omega
        have p2 : (p : Int) < (us.length : Int) + 1 := by omega
        have ha' := ha.up hN
        have hb' := hb.up hN
        clear hB hN hA hl hp hc0
        go_wp2_with fail
        refine (l1Digit_any wr g a ca xs _ ha' hx (by omega) (by omega) (by omega)).mono ?_
        rintro e w' ⟨rfl, rfl⟩
        rw [Int.toNat_natCast]
        go_wp2_with fail
        refine (l1Digit_any w' g' b cb us _ hb' hu (by omega) (by omega) (by omega)).mono ?_
        rintro e w'' ⟨rfl, rfl⟩
        rw [Int.toNat_natCast]
        generalize dig xs k = x at *
        generalize dig us k = y at *
        have m1 : (x + y + c) % 256 % 256 = (x + y + c) % 256 := by omega
        have R' := hide R
        have z1' := hide z1
        clear R z1
        go_wp2
        go_roundw
        case rel => exact ⟨k + 1, _, _, by omega, by go_num, rfl, ⟨by omega, by omega⟩, z1'.out, R'.out, hB', hN'⟩
        case measure => simp [intOf]; omega
      · obtain rfl : k = us.length + 1 := by omega
        have v := hA.done (Nat.le_of_lt_succ (by omega)) (Nat.le_of_lt_succ (by omega)) (hc0 (by omega))
        have hl : us.length + 1 = ys.length := hA.1.symm
        have V := hide v
        have L := hide hl
        have hyb := hA.2.1
        clear v hl hA hc0
        go_wp2_with fail
        rw [L.out]
        refine (l1Trim_any1 wr _ _ _ ys hB.own0.rd hyb (by simp) (Nat.le_refl _) (by rw [← L.out]; omega)).mono ?_
        rintro e w2 ⟨zs, C, _, ⟨a1, c1, g1, rfl, o1, q1, q2, q3⟩, n2⟩
        rw [V.out] at C
        go_wp2
        go_ret
        exact ⟨zs, C, ⟨_, _, _, rfl, o1, q1, q2, by have := hN.size; omega⟩, nxt hN n2⟩
  · have t0 : decide ((xs.length : Int) < (us.length : Int)) = false := by simp; omega
    go_enter Tryd.func71, Tryd.ntmps71
    go_wp2_with (at_make; refine wpList_make_full _ rfl _ _ 22 rfl w.heap.size 5 i0 (.int .u8 0) 1 Tryd.underlying22 hi hz0 hz1 .i64 .i64 _ _ (xs.length + 1) rfl rfl (by omega) (by omega) (by rw [hz2]; omega) (by unfold maxLen; omega) (Nat.le_refl _) ?_; intro w1 hown hgrow)
    have hB0 := Blk.of_made hown
    have hN0 : Below w.heap.size w w1 := (Below.refl _ _).grown hgrow (Nat.le_refl _) (by simp)
    clear hown hgrow
    go_loopw [7, 8] (fun q i wr => ∃ (k : Nat) (c : Int) (ys : List Int), k ≤ xs.length + 1 ∧ i = .int .i64 k ∧ q = .int .i64 c ∧ (0 ≤ c ∧ c ≤ 1) ∧ (xs.length < k → c = 0) ∧ AddTo xs us ys xs.length k c ∧ Blk wr w.heap.size .u8 ys ∧ Below w.heap.size w wr) (fun _ i _ => xs.length + 1 - (intOf i).toNat)
    case atStart => exact ⟨0, 0, _, Nat.zero_le _, rfl, rfl, ⟨by omega, by omega⟩, fun _ => rfl, ⟨by simp, byt_zeros _, ⟨by omega, by omega⟩, rfl⟩, hB0, hN0⟩
    case round =>
      obtain ⟨k, c, ys, hk, rfl, rfl, hc, hc0, hA, hB, hN⟩ := hrel
      by_cases hlt : k ≤ xs.length
      · have R := hA.step hx hu hlt
        have hl : ys.length = xs.length + 1 := hA.1
        have hcy : wr.cell? ⟨w.heap.size, xs.length - k, none⟩ = some (.int .u8 (ys.getD (xs.length - k) 0)) := hB.cell (by omega)
        have hfy := hB.free (xs.length - k)
        have hB' := hB.store (xs.length - k) ((dig xs k + dig us k + c) % 256)
        have hN' : Below w.heap.size w (wr.setCell ⟨w.heap.size, xs.length - k, none⟩ (.int .u8 ((dig xs k + dig us k + c) % 256))) := hN.setCell (Nat.le_refl _) _
        have d1 := dig_byt hx k
        have d2 := dig_byt hu k
        have z1 : xs.length < k + 1 → (dig xs k + dig us k + c) / 256 = 0 := fun h => by rw [dig_past xs k (by omega), dig_past us k (by omega)]; omega
        obtain ⟨p, hp⟩ : ∃ p : Nat, xs.length - k = p := ⟨_, rfl⟩
        rw [hp] at hcy hfy hB' hN' R
        have p1 : (xs.length : Int) - (k : Int) = (p : Int) := by omega
        have p2 : (p : Int) < (xs.length : Int) + 1 := by omega
        have ha' := ha.up hN
        have hb' := hb.up hN
        clear hB hN hA hl hp hc0
        go_wp2_with fail
        refine (l1Digit_any wr g a ca xs _ ha' hx (by omega) (by omega) (by omega)).mono ?_
        rintro e w' ⟨rfl, rfl⟩
        rw [Int.toNat_natCast]
        go_wp2_with fail
        refine (l1Digit_any w' g' b cb us _ hb' hu (by omega) (by omega) (by omega)).mono ?_
        rintro e w'' ⟨rfl, rfl⟩
        rw [Int.toNat_natCast]
        generalize dig xs k = x at *
        generalize dig us k = y at *
        have m1 : (x + y + c) % 256 % 256 = (x + y + c) % 256 := by omega
        have R' := hide R
        have z1' := hide z1
        clear R z1
        go_wp2
        go_roundw
        case rel => exact ⟨k + 1, _, _, by omega, by go_num, rfl, ⟨by omega, by omega⟩, z1'.out, R'.out, hB', hN'⟩
        case measure => simp [intOf]; omega
      · obtain rfl : k = xs.length + 1 := by omega
        have v := hA.done (Nat.le_of_lt_succ (by omega)) (Nat.le_of_lt_succ (by omega)) (hc0 (by omega))
        have hl : xs.length + 1 = ys.length := hA.1.symm
        have V := hide v
        have L := hide hl
        have hyb := hA.2.1
        clear v hl hA hc0
        go_wp2_with fail
        rw [L.out]
        refine (l1Trim_any1 wr _ _ _ ys hB.own0.rd hyb (by simp) (Nat.le_refl _) (by rw [← L.out]; omega)).mono ?_
        rintro e w2 ⟨zs, C, _, ⟨a1, c1, g1, rfl, o1, q1, q2, q3⟩, n2⟩
        rw [V.out] at C
        go_wp2
        go_ret
        exact ⟨zs, C, ⟨_, _, _, rfl, o1, q1, q2, by have := hN.size; omega⟩, nxt hN n2⟩
end Go.Proofs.YtblkjpmkikhpbaaDoor

/-
  spec.NumAdd.
-/
namespace Go.Proofs.YtblkjpmkikhpbaaDoor
set_option maxRecDepth 100000
open Go.RowKit

/-- A cell of a new block of two, behind calls that keep what was there. -/
theorem two_kept {w w1 : World} {x y : Value} {t : TypeId} (n : Below (w.alloc (.cells #[x, y] t)).heap.size (w.alloc (.cells #[x, y] t)) w1) :
    w1.cell? ⟨w.heap.size, 0, none⟩ = some x ∧ w1.cell? ⟨w.heap.size, 1, none⟩ = some y ∧ w1.frozen? ⟨w.heap.size, 0, none⟩ = false ∧ w1.frozen? ⟨w.heap.size, 1, none⟩ = false ∧ w.heap.size < w1.heap.size := by
  have hs : w.heap.size < (w.alloc (.cells #[x, y] t)).heap.size := by simp
  refine ⟨?_, ?_, ?_, ?_, by have := n.size; omega⟩
  · rw [n.cell (p := ⟨w.heap.size, 0, none⟩) hs]; simp [World.cell?_alloc_at]
  · rw [n.cell (p := ⟨w.heap.size, 1, none⟩) hs]; simp [World.cell?_alloc_at]
  · rw [n.frozen (p := ⟨w.heap.size, 0, none⟩) hs]; simp [World.frozen?_alloc_at]
  · rw [n.frozen (p := ⟨w.heap.size, 1, none⟩) hs]; simp [World.frozen?_alloc_at]

/-- A block of two cells, known and free. -/
structure Two (w : World) (p : Nat) (x y : Value) : Prop where
  c0 : w.cell? ⟨p, 0, none⟩ = some x
  c1 : w.cell? ⟨p, 1, none⟩ = some y
  f0 : w.frozen? ⟨p, 0, none⟩ = false
  f1 : w.frozen? ⟨p, 1, none⟩ = false
theorem Two.lt {w : World} {p : Nat} {x y : Value} (h : Two w p x y) : p < w.heap.size := block_lt_of_cell h.c0
theorem Two.of_block {w w' : World} {p : Nat} {x y : Value} (h : Two w p x y) (hb : w'.heap[p]? = w.heap[p]?) : Two w' p x y :=
  ⟨(World.cell?_of_block (a := ⟨p, 0, none⟩) hb).trans h.c0, (World.cell?_of_block (a := ⟨p, 1, none⟩) hb).trans h.c1, (World.frozen?_of_block (a := ⟨p, 0, none⟩) hb).trans h.f0, (World.frozen?_of_block (a := ⟨p, 1, none⟩) hb).trans h.f1⟩
theorem Two.up {w w' : World} {p : Nat} {x y : Value} (h : Two w p x y) (n : Below w.heap.size w w') : Two w' p x y := h.of_block (n.block p h.lt)
theorem Two.only {w w' : World} {p g : Nat} {x y : Value} (h : Two w p x y) (n : Only g w w') (hne : p ≠ g) : Two w' p x y := h.of_block (n.block p hne)
theorem Two.new (w : World) (x y : Value) (t : TypeId) : Two (w.alloc (.cells #[x, y] t)) w.heap.size x y := by
  obtain ⟨k1, k2, k3, k4, _⟩ := two_kept (Below.refl (w.alloc (.cells #[x, y] t)).heap.size (w.alloc (.cells #[x, y] t)))
  exact ⟨k1, k2, k3, k4⟩

/-- The result is laid into its cell: all else stands. -/
theorem two_laid {w w2 : World} {g : Nat} {a : Option Addr} {zs : List Int} {u v : Value} (n : Below w.heap.size w w2) (o : Own w2 g a .u8 zs) (hg : w.heap.size < g) :
    Own ((w2.setCell ⟨w.heap.size, 0, none⟩ u).setCell ⟨w.heap.size, 1, none⟩ v) g a .u8 zs ∧ Below w.heap.size w ((w2.setCell ⟨w.heap.size, 0, none⟩ u).setCell ⟨w.heap.size, 1, none⟩ v) := by
  have h1 := Only.setCell w2 w.heap.size 0 u
  have h2 := Only.setCell (w2.setCell ⟨w.heap.size, 0, none⟩ u) w.heap.size 1 v
  have h3 := h1.trans h2
  exact ⟨o.only h3 (fun _ => by omega), n.trans (h3.below (Nat.le_refl _))⟩

end Go.Proofs.YtblkjpmkikhpbaaDoor

/-
  The laws' helpers on the struct that LadderShared answers.
-/
namespace Go.Proofs.YtblkjpmkikhpbaaDoor
set_option maxRecDepth 100000
open Go.RowKit

theorem Two.but {w w' : World} {p g : Nat} {x y : Value} (h : Two w p x y) (n : But g w w') (hne : p ≠ g) : Two w' p x y := h.of_block (n.block p h.lt hne)
/-- A row that is not read may be said to lie anywhere. -/
theorem NewRes.at {B B' : Nat} {w : World} {e : Ending} {b : Bool} {ys : List Int} (h : NewRes B w e b ys) (h1 : B' ≤ B) (h2 : B' < w.heap.size) :
    ∃ (a : Option Addr) (c g : Nat), e = .returned (.agg #[.bool b, .slice a ys.length c]) ∧ Own w g a .u8 ys ∧ B' ≤ g ∧ g < w.heap.size ∧ (0 < ys.length → B ≤ g) := by
  obtain ⟨a, c, g, he, o, _, _, hg⟩ := h
  by_cases h0 : 0 < ys.length
  · exact ⟨a, c, g, he, o, by omega, o.rd.lt h0, fun _ => hg⟩
  · obtain rfl : ys = [] := List.eq_nil_of_length_eq_zero (by omega)
    exact ⟨a, c, B', he, Own.nil _ _ _ _, Nat.le_refl _, h2, fun h => absurd h (by simp)⟩

set_option maxHeartbeats 1000000 in
theorem eqSharedResult_same (w : World) (t : Bool) (g g' : Nat) (a b : Option Addr) (ca cb : Nat) (ys : List Int) (ha : Rd w g a .u8 ys) (hb : Rd w g' b .u8 ys) (hn : ys.length ≤ 1048576) :
    Calls Tryd.prog 17 #[.agg #[.bool t, .slice a ys.length ca], .agg #[.bool t, .slice b ys.length cb]] w fun e w' => e = .returned (.bool true) ∧ Below w.heap.size w w' := by
  have n1 : Below w.heap.size w (w.alloc (.cells #[.bool t, .slice a ys.length ca] 29)) := (Below.refl _ _).alloc (Nat.le_refl _) _
  have n2 : Below w.heap.size w ((w.alloc (.cells #[.bool t, .slice a ys.length ca] 29)).alloc (.cells #[.bool t, .slice b ys.length cb] 29)) := n1.alloc (by simp) _
  cases t
  all_goals
    go_enter Tryd.func17, Tryd.ntmps17
    go_wp2_with fail
    refine (eqByteS_same _ g g' a b ca cb ys (ha.up n2) (hb.up n2) hn).mono ?_
    rintro e w3 ⟨rfl, n3⟩
    go_wp2
    go_ret
    exact ⟨rfl, nxt n2 n3⟩

set_option maxHeartbeats 1000000 in
theorem markSharedResult_any (w : World) (t : Bool) (g : Nat) (a : Option Addr) (ca : Nat) (ys : List Int) (k : Int) (ha : Own w g a .u8 ys) (hn : ys.length ≤ 1048576) (k0 : 0 ≤ k) (k1 : k ≤ 1099511627776) :
    Calls Tryd.prog 18 #[.agg #[.bool t, .slice a ys.length ca], .int .i64 k] w fun e w' => e = .returned (.int .i64 (k + (ys.length : Int))) ∧ Own w' g a .u8 (marks k ys.length) ∧ But g w w' := by
  have n1 : Below w.heap.size w (w.alloc (.cells #[.bool t, .slice a ys.length ca] 29)) := (Below.refl _ _).alloc (Nat.le_refl _) _
  go_enter Tryd.func18, Tryd.ntmps18
  go_wp2_with fail
  refine (markByteS_any _ g a ca ys k (ha.up n1) hn k0 k1).mono ?_
  rintro e w2 ⟨rfl, o2, O2⟩
  go_wp2
  go_ret
  exact ⟨rfl, o2, But.of n1 O2⟩

set_option maxHeartbeats 1000000 in
theorem heldSharedResult_any (w : World) (t : Bool) (g : Nat) (a : Option Addr) (ca n : Nat) (k : Int) (ha : Rd w g a .u8 (marks k n)) (hn : n ≤ 1048576) (k0 : 0 ≤ k) (k1 : k ≤ 1099511627776) :
    Calls Tryd.prog 19 #[.agg #[.bool t, .slice a n ca], .int .i64 k] w fun e w' => e = .returned (.int .i64 (k + (n : Int))) ∧ Below w.heap.size w w' := by
  have n1 : Below w.heap.size w (w.alloc (.cells #[.bool t, .slice a n ca] 29)) := (Below.refl _ _).alloc (Nat.le_refl _) _
  have t1 : decide (k + (n : Int) < 0) = false := by simp; omega
  go_enter Tryd.func19, Tryd.ntmps19
  go_wp2_with fail
  refine (heldByteS_any _ g a ca n k (ha.up n1) hn k0 k1).mono ?_
  rintro e w2 ⟨rfl, rfl⟩
  go_wp2
  go_ret
  exact ⟨rfl, n1⟩
end Go.Proofs.YtblkjpmkikhpbaaDoor

/-
  LadderShared, the program's and the model's.
-/
namespace Go.Proofs.YtblkjpmkikhpbaaDoor
set_option maxRecDepth 100000
open Go Go.RowKit

def shB (ks us : List Int) : Bool := decide (ks.length = 32 ∧ us.length = 32) && !decide (ladS (num (low7 us)) (num (clampL ks)) % PP = 0)
def shL (ks us : List Int) : List Int := if shB ks us = true then ladA ks us else []
theorem z5L : Lm (fun _ => 0) := fun j _ => by show (0 : Int) ≤ 0 ∧ (0 : Int) < 2251799813685248; omega

set_option maxHeartbeats 8000000 in
theorem implShared_any (w : World) (g g' : Nat) (a b : Option Addr) (c c' : Nat) (ks us : List Int) (hk : Rd w g a .u8 ks) (hu : Rd w g' b .u8 us) (bk : Byt ks) (bu : Byt us) (hL : HasL w) :
    Calls Tryd.prog 16 #[.slice a ks.length c, .slice b us.length c'] w fun e w' => NewRes w.heap.size w' e (shB ks us) (shL ks us) ∧ Below w.heap.size w w' := by
  have hal : Below w.heap.size w (w.alloc (.cells #[.bool false, .slice none 0 0] 29)) := (Below.refl _ _).alloc (Nat.le_refl _) _
  have T0 := Two.new w (.bool false) (.slice none 0 0) 29
  have s0 : (w.alloc (.cells #[.bool false, .slice none 0 0] 29)).heap.size = w.heap.size + 1 := by simp
  have T1 := fun w => isFieldSize_any w a c ks.length
  have T2 := fun w => isFieldSize_any w b c' us.length
  by_cases h1 : ks.length = 32
  · by_cases h2 : us.length = 32
    · have RS := hide (fun w' n => readScalar_any w' g a c ks (hk.up n) bk h1)
      have CL := hide (fun w => clamp_any w _ (fun j _ => wv_lt bk 32 j))
      have RC := hide (fun w' n => readCoordinate_any w' g' b c' us (hu.up n) bu h2)
      have E1 := elt_ok (low7_byt bu) ((low7_len us).trans h2)
      have LD := hide (fun w' n => ladder_any w' _ (clw_ok (fun j _ => wv_lt bk 32 j)) _ (num (low7 us)) E1 (hL.up n).t (hL.up n).s (hL.up n).i)
      have HI := hide (lad_impl bk h1 (num (low7 us)))
      have KA : Hid (ladA ks us = fill (byt (ladE (num (low7 us)) (fun i => wbit (clw (wv (fun j => ks.getD j 0) 32)) (254 - i)) 255 % PP)) 32) := by show _ = _; unfold ladA; rw [if_pos ⟨h1, h2⟩, lad_impl bk h1]
      have KB : Hid (shB ks us = !decide (ladE (num (low7 us)) (fun i => wbit (clw (wv (fun j => ks.getD j 0) 32)) (254 - i)) 255 % PP = 0)) := by show _ = _; unfold shB; rw [decide_eq_true ⟨h1, h2⟩, HI.out]; rfl
      simp only [decide_eq_true h1] at T1
      simp only [decide_eq_true h2] at T2
      rw [h1] at T1 ⊢
      rw [h2] at T2 ⊢
      clear h1 h2 hk hu bk bu E1 HI
      generalize ladE (num (low7 us)) (fun i => wbit (clw (wv (fun j => ks.getD j 0) 32)) (254 - i)) 255 = V at *
      generalize elt (low7 us) = x at *
      generalize clw (wv (fun j => ks.getD j 0) 32) = U at *
      generalize wv (fun j => ks.getD j 0) 32 = U0 at *
      simp only [ag5, ag4] at RS CL RC LD
      go_enter Tryd.func16, Tryd.ntmps16
      go_upto_region 1 with fail
      generalize w.alloc (.cells #[.bool false, .slice none 0 0] 29) = wa at *
      go_wp2_with (first
        | (go_at_call_of 35 (Value.slice a 32 c); refine (T1 _).mono ?_; rintro r wz ⟨rfl, rfl⟩)
        | (go_at_call_of 35 (Value.slice b 32 c'); refine (T2 _).mono ?_; rintro r wz ⟨rfl, rfl⟩))
      refine (RS.out _ hal).mono ?_
      rintro r w1 ⟨rfl, n1⟩
      have N1 := nxt hal n1
      replace T0 := T0.up n1
      clear RS n1
      go_wp2_with fail
      refine (CL.out w1).mono ?_
      rintro r w2 ⟨rfl, n2⟩
      have N2 := nxt N1 n2
      replace T0 := T0.up n2
      clear CL N1 n2
      go_wp2_with fail
      refine (RC.out w2 N2).mono ?_
      rintro r w3 ⟨rfl, n3⟩
      have N3 := nxt N2 n3
      replace T0 := T0.up n3
      clear RC n3 N2
      go_wp2_with fail
      refine (LD.out w3 N3).mono ?_
      rintro r w4 ⟨t, rfl, IT, n4⟩
      have N4 := nxt N3 n4
      replace T0 := T0.up n4
      clear LD n4 N3
      have n5 : Below w4.heap.size w4 (w4.alloc (.cells #[.int .u64 (t 0), .int .u64 (t 1), .int .u64 (t 2), .int .u64 (t 3), .int .u64 (t 4)] 49)) := (Below.refl _ _).alloc (Nat.le_refl _) _
      have X5 := blk_box w4 .u64 49 (t 0) (t 1) (t 2) (t 3) (t 4)
      have EQ := fun w => eqElem (t 0) (t 1) (t 2) (t 3) (t 4) 0 0 0 0 0 w
      have EL' : (t 0 == 0 && t 1 == 0 && t 2 == 0 && t 3 == 0 && t 4 == 0) = decide (V % PP = 0) := by
        have e := eq_Lm IT.1 z5L
        rw [IT.2] at e
        exact e
      rw [EL'] at EQ
      clear EL'
      have BY := hide (fun w => bytes_any w t IT.1)
      rw [IT.2, ← KA.out] at BY
      simp only [ag5] at BY
      have z0 := T0.lt
      have z4 := N4.size
      clear IT hL T1 T2
      by_cases hz : V % PP = 0
      · have KB' : Hid (shB ks us = false) := by show _ = _; rw [KB.out, decide_eq_true hz]; rfl
        have KL : Hid (shL ks us = []) := by show _ = _; unfold shL; rw [if_neg (by rw [KB'.out]; simp)]
        simp only [decide_eq_true hz] at EQ
        clear hz KA KB BY
        go_upto_region 4 with fail
        generalize w4.alloc (.cells #[.int .u64 (t 0), .int .u64 (t 1), .int .u64 (t 2), .int .u64 (t 3), .int .u64 (t 4)] 49) = w5 at *
        obtain ⟨⟨x0, x1, x2, x3, x4⟩, _⟩ := X5.f5
        obtain ⟨c0, c1, f0, f1⟩ := T0.up n5
        have N5 := nxt N4 n5
        have z5 := N5.size
        clear X5 T0 n5 N4
        go_wp2
        refine bodyPost_ret (v := .agg #[.bool false, .slice none 0 0]) (by simp [results, Tryd.results16, go_sem, c0, c1]) rfl ⟨?_, ?_⟩
        · rw [KB'.out, KL.out]
          exact NewRes.none (by simp [World.setCell]; omega)
        · exact (N5.setCell (Nat.le_refl _) _).setCell (Nat.le_refl _) _
      · have KB' : Hid (shB ks us = true) := by show _ = _; rw [KB.out, decide_eq_false hz]; rfl
        have KL : Hid (shL ks us = ladA ks us) := by show _ = _; unfold shL; rw [if_pos KB'.out]
        simp only [decide_eq_false hz] at EQ
        clear hz KA KB
        go_upto_region 4 with fail
        generalize w4.alloc (.cells #[.int .u64 (t 0), .int .u64 (t 1), .int .u64 (t 2), .int .u64 (t 3), .int .u64 (t 4)] 49) = w5 at *
        obtain ⟨⟨x0, x1, x2, x3, x4⟩, _⟩ := X5.f5
        have T5 := T0.up n5
        have N5 := nxt N4 n5
        have z5 := N5.size
        have z45 := n5.size
        clear X5 T0 n5 N4
        go_wp2_with fail
        refine (BY.out w5).mono ?_
        rintro r w6 ⟨⟨a6, c6, g6, rfl, o6, p6, q6, r6⟩, n6⟩
        have N6 := nxt N5 n6
        obtain ⟨c0, c1, f0, f1⟩ := T5.up n6
        have O := (Only.setCell w6 w.heap.size 0 (.bool true)).trans (Only.setCell _ w.heap.size 1 (.slice a6 (ladA ks us).length c6))
        have o7 := o6.only O (fun _ => by omega)
        have N7 := N6.trans (O.below (Nat.le_refl _))
        clear BY T5 N5 N6 n6 O o6 x0 x1 x2 x3 x4 EQ
        generalize ladA ks us = ys at *
        go_wp2
        refine bodyPost_ret (v := .agg #[.bool true, .slice a6 ys.length c6]) (by simp [results, Tryd.results16, go_sem, c0, c1]) rfl ⟨?_, N7⟩
        rw [KB'.out, KL.out]
        exact ⟨a6, c6, g6, rfl, o7, p6, q6, by omega⟩
    · have KB : Hid (shB ks us = false) := by show _ = _; unfold shB; rw [decide_eq_false (fun h => h2 h.2)]; rfl
      have KL : Hid (shL ks us = []) := by show _ = _; unfold shL; rw [if_neg (by rw [KB.out]; simp)]
      simp only [decide_eq_true h1] at T1
      simp only [decide_eq_false h2] at T2
      rw [h1] at T1 ⊢
      obtain ⟨c0, c1, f0, f1⟩ := T0
      clear h1 h2
      go_enter Tryd.func16, Tryd.ntmps16
      go_upto_region 1 with fail
      generalize w.alloc (.cells #[.bool false, .slice none 0 0] 29) = wa at *
      go_wp2_with (first
        | (go_at_call_of 35 (Value.slice a 32 c); refine (T1 _).mono ?_; rintro r wz ⟨rfl, rfl⟩)
        | (go_at_call_of 35 (Value.slice b us.length c'); refine (T2 _).mono ?_; rintro r wz ⟨rfl, rfl⟩))
      refine bodyPost_ret (v := .agg #[.bool false, .slice none 0 0]) (by simp [results, Tryd.results16, go_sem, c0, c1]) rfl ⟨?_, ?_⟩
      · rw [KB.out, KL.out]
        exact NewRes.none (by simp [World.setCell]; omega)
      · exact (hal.setCell (Nat.le_refl _) _).setCell (Nat.le_refl _) _
  · have KB : Hid (shB ks us = false) := by show _ = _; unfold shB; rw [decide_eq_false (fun h => h1 h.1)]; rfl
    have KL : Hid (shL ks us = []) := by show _ = _; unfold shL; rw [if_neg (by rw [KB.out]; simp)]
    simp only [decide_eq_false h1] at T1
    obtain ⟨c0, c1, f0, f1⟩ := T0
    clear h1
    go_enter Tryd.func16, Tryd.ntmps16
    go_upto_region 1 with fail
    generalize w.alloc (.cells #[.bool false, .slice none 0 0] 29) = wa at *
    go_wp2_with (first
      | (go_at_call_of 35 (Value.slice a ks.length c); refine (T1 _).mono ?_; rintro r wz ⟨rfl, rfl⟩))
    refine bodyPost_ret (v := .agg #[.bool false, .slice none 0 0]) (by simp [results, Tryd.results16, go_sem, c0, c1]) rfl ⟨?_, ?_⟩
    · rw [KB.out, KL.out]
      exact NewRes.none (by simp [World.setCell]; omega)
    · exact (hal.setCell (Nat.le_refl _) _).setCell (Nat.le_refl _) _

theorem bval_zero_all {xs : List Int} (h : Byt xs) (hb : bval xs = 0) : ∀ j, xs.getD j 0 = 0 := by
  intro j
  by_cases hj : j < xs.length
  · have e : dig xs (xs.length - 1 - j) = xs.getD j 0 := by
      unfold dig
      rw [if_pos (by omega), show xs.length - 1 - (xs.length - 1 - j) = j by omega]
    have d : dig xs (xs.length - 1 - j) = dig [] (xs.length - 1 - j) := dig_same (b := []) h (fun i => by simp) (hb.trans rfl) _
    rw [← e, d]
    rfl
  · rw [List.getD_eq_getElem?_getD, List.getElem?_eq_none (by omega)]
    rfl
theorem lsum_all0 {a : Nat → Int} : ∀ n, (∀ j, j < n → a j = 0) → lsum a n = 0
  | 0, _ => rfl
  | n + 1, h => by rw [lsum, lsum_all0 n (fun j hj => h j (by omega)), h n (by omega)]; omega
theorem canon_pos' {zs : List Int} {v : Int} (h : Canon zs v) (hl : 0 < zs.length) : v ≠ 0 := fun e => by
  have := bval_zero_all h.1 (h.2.1.trans e) 0
  exact h.2.2 hl this
theorem num_zero {ks us : List Int} (h1 : ks.length = 32) (h2 : us.length = 32) : shB ks us = !decide (bval (ladA ks us) = 0) := by
  have e : ladA ks us = fill (byt (ladS (num (low7 us)) (num (clampL ks)) % PP)) 32 := by unfold ladA; rw [if_pos ⟨h1, h2⟩]
  unfold shB
  rw [decide_eq_true ⟨h1, h2⟩]
  congr 1
  rw [e]
  generalize ladS (num (low7 us)) (num (clampL ks)) = V
  have v0 := Int.emod_nonneg V (show PP ≠ 0 by decide)
  have v1 := Int.emod_lt_of_pos V (show (0 : Int) < PP by decide)
  by_cases hz : V % PP = 0
  · rw [hz]
    decide +kernel
  · suffices hb : ¬ bval (fill (byt (V % PP)) 32) = 0 by
      rw [decide_eq_false hz, decide_eq_false hb]
      rfl
    intro hb
    have h0 := bval_zero_all (bytes_L (V % PP) 32) hb
    have n0 := num_modS V
    have : num (fill (byt (V % PP)) 32) = 0 := by
      unfold num
      rw [fill_len]
      exact lsum_all0 32 (fun j _ => h0 j)
    omega

set_option maxHeartbeats 4000000 in
theorem specShared_any (w : World) (g g' : Nat) (a b : Option Addr) (c c' : Nat) (ks us : List Int) (hk : Rd w g a .u8 ks) (hu : Rd w g' b .u8 us) (bk : Byt ks) (bu : Byt us) (ck : a = none → c = 0) (cu : b = none → c' = 0) :
    Calls Tryd.prog 15 #[.slice a ks.length c, .slice b us.length c'] w fun e w' => NewRes w.heap.size w' e (shB ks us) (shL ks us) ∧ Below w.heap.size w w' := by
  have hal : Below w.heap.size w (w.alloc (.cells #[.bool false, .slice none 0 0] 29)) := (Below.refl _ _).alloc (Nat.le_refl _) _
  have T0 := Two.new w (.bool false) (.slice none 0 0) 29
  have s0 : (w.alloc (.cells #[.bool false, .slice none 0 0] 29)).heap.size = w.heap.size + 1 := by simp
  have SL := hide (fun w' n => specLadder_any w' g g' a b c c' ks us (hk.up n) (hu.up n) bk bu ck cu)
  have LY : Byt (ladA ks us) := by
    unfold ladA
    split
    · exact bytes_L _ _
    · exact fun i => by simp
  have LN : (ladA ks us).length ≤ 32 := by
    unfold ladA
    split
    · rw [fill_len]; omega
    · simp
  have KS : Hid (shB ks us = !decide (bval (ladA ks us) = 0)) := by
    show _ = _
    by_cases h : ks.length = 32 ∧ us.length = 32
    · exact num_zero h.1 h.2
    · unfold shB ladA
      rw [decide_eq_false h, if_neg h]
      rfl
  have KL : Hid (shL ks us = if shB ks us = true then ladA ks us else []) := by show _ = _; rfl
  go_enter Tryd.func15, Tryd.ntmps15
  go_wp2_with fail
  generalize w.alloc (.cells #[.bool false, .slice none 0 0] 29) = wa at *
  refine (SL.out wa hal).mono ?_
  rintro r w1 ⟨⟨a1, c1, g1, rfl, o1, p1, q1, r1⟩, n1⟩
  have N1 := nxt hal n1
  have T1 := T0.up n1
  clear SL T0 n1 hal hk hu
  obtain ⟨ys, hys⟩ : ∃ ys, ys = ladA ks us := ⟨_, rfl⟩
  rw [← hys] at o1 q1 LY LN KS KL ⊢
  clear hys
  have TM := hide (l1Trim_any w1 g1 a1 c1 ys o1.rd LY p1 q1 (by omega))
  go_wp2_with fail
  refine TM.out.mono ?_
  rintro r w2 ⟨zs, CZ, lz, ⟨a2, c2, g2, rfl, o2, p2, q2, r2⟩, n2⟩
  have N2 := nxt N1 n2
  obtain ⟨c0, c1', f0, f1⟩ := T1.up n2
  have oy := o1.up n2
  have zz := T1.lt
  clear TM T1 N1 o1 n2 o2 p2 q2 r2
  by_cases hz : zs.length = 0
  · have tz : ((zs.length : Int) == 0) = true := by simp [hz]
    have bz : bval ys = 0 := by
      have : zs = [] := List.eq_nil_of_length_eq_zero hz
      rw [← CZ.2.1, this]
      rfl
    have KB : Hid (shB ks us = false) := by show _ = _; rw [KS.out, decide_eq_true bz]; rfl
    have KK : Hid (shL ks us = []) := by show _ = _; rw [KL.out, if_neg (by rw [KB.out]; simp)]
    have z2 := N2.size
    clear hz bz CZ KS KL
    go_wp2
    refine bodyPost_ret (v := .agg #[.bool false, .slice none 0 0]) (by simp [results, Tryd.results15, go_sem, c0, c1']) rfl ⟨?_, ?_⟩
    · rw [KB.out, KK.out]
      exact NewRes.none (by simp [World.setCell]; omega)
    · exact (N2.setCell (Nat.le_refl _) _).setCell (Nat.le_refl _) _
  · have tz : ((zs.length : Int) == 0) = false := by simp; intro h; exact hz (by rw [h]; rfl)
    have bz : ¬ bval ys = 0 := fun h => by
      have := canon_pos' CZ (by omega)
      omega
    have KB : Hid (shB ks us = true) := by show _ = _; rw [KS.out, decide_eq_false bz]; rfl
    have KK : Hid (shL ks us = ys) := by show _ = _; rw [KL.out, if_pos KB.out]
    have O := (Only.setCell w2 w.heap.size 0 (.bool true)).trans (Only.setCell _ w.heap.size 1 (.slice a1 ys.length c1))
    have o7 := oy.only O (fun _ => by omega)
    have N7 := N2.trans (O.below (Nat.le_refl _))
    clear hz bz CZ KS KL O oy N2
    go_wp2
    refine bodyPost_ret (v := .agg #[.bool true, .slice a1 ys.length c1]) (by simp [results, Tryd.results15, go_sem, c0, c1']) rfl ⟨?_, N7⟩
    rw [KB.out, KK.out]
    exact ⟨a1, c1, g1, rfl, o7, p1, q1, by omega⟩
end Go.Proofs.YtblkjpmkikhpbaaDoor

/-
  The ladder over first coordinates, on an Edwards curve and on its twist: numbers alone.
-/
namespace Go.Proofs.YtblkjpmkikhpbaaDoor
set_option maxRecDepth 100000

section
variable {P a d b s k : Int} {inv : Int → Int}

/-- The pair (u : v) stands for the points with this y; s is 1 or -1. -/
def Rep (P s : Int) (w : Int × Int) (y : Int) : Prop := P ∣ w.1 * (1 - y) - s * w.2 * (1 + y) ∧ ¬ (P ∣ w.1 ∧ P ∣ w.2)
def ldbl (k : Int) (w : Int × Int) : Int × Int :=
  ((w.1 + w.2) * (w.1 + w.2) * ((w.1 - w.2) * (w.1 - w.2)), ((w.1 + w.2) * (w.1 + w.2) - (w.1 - w.2) * (w.1 - w.2)) * ((w.1 + w.2) * (w.1 + w.2) + k * ((w.1 + w.2) * (w.1 + w.2) - (w.1 - w.2) * (w.1 - w.2))))
def lsum2 (p q : Int × Int) (x : Int) : Int × Int :=
  (((q.1 - q.2) * (p.1 + p.2) + (q.1 + q.2) * (p.1 - p.2)) * ((q.1 - q.2) * (p.1 + p.2) + (q.1 + q.2) * (p.1 - p.2)), x * (((q.1 - q.2) * (p.1 + p.2) - (q.1 + q.2) * (p.1 - p.2)) * ((q.1 - q.2) * (p.1 + p.2) - (q.1 + q.2) * (p.1 - p.2))))

/-- With a factor. -/
theorem Rep.fac (hP : Pri P) (hi : ∀ c, ¬ P ∣ c → P ∣ inv c * c - 1) (hs : s * s = 1) {w : Int × Int} {y : Int} (h : Rep P s w y) : ∃ c, ¬ P ∣ c ∧ P ∣ w.1 - s * c * (1 + y) ∧ P ∣ w.2 - c * (1 - y) := by
  have h2 := hi 2 hP.two
  obtain ⟨h1, hn⟩ := h
  refine ⟨(s * w.1 + w.2) * inv 2, fun hc => hn ?_, ?_, ?_⟩
  · have e1 : P ∣ w.1 - s * ((s * w.1 + w.2) * inv 2) * (1 + y) := dv2 h1 h2 (c1 := inv 2) (c2 := -w.1) (by grind)
    have e2 : P ∣ w.2 - ((s * w.1 + w.2) * inv 2) * (1 - y) := dv2 h1 h2 (c1 := -(s * inv 2)) (c2 := -w.2) (by grind)
    exact ⟨dv2 e1 hc (c1 := 1) (c2 := s * (1 + y)) (by grind), dv2 e2 hc (c1 := 1) (c2 := 1 - y) (by grind)⟩
  · exact dv2 h1 h2 (c1 := inv 2) (c2 := -w.1) (by grind)
  · exact dv2 h1 h2 (c1 := -(s * inv 2)) (c2 := -w.2) (by grind)
theorem Rep.st (hP : Pri P) (hs : s = 1 ∨ s = -1) {w : Int × Int} {y : Int} (h : Rep P s w y) : P ∣ (w.1 - s * w.2) - y * (w.1 + s * w.2) ∧ ¬ P ∣ w.1 + s * w.2 := by
  have t : P ∣ (w.1 - s * w.2) - y * (w.1 + s * w.2) := dv2 h.1 h.1 (c1 := 1) (c2 := 0) (by grind)
  refine ⟨t, fun hS => h.2 ?_⟩
  have hT : P ∣ w.1 - s * w.2 := dv2 t hS (c1 := 1) (c2 := y) (by grind)
  have u : P ∣ 2 * w.1 := dv2 hS hT (c1 := 1) (c2 := 1) (by grind)
  have v : P ∣ 2 * w.2 := dv2 hS hT (c1 := s) (c2 := -s) (by rcases hs with rfl | rfl <;> grind)
  exact ⟨(hP.mul u).resolve_left hP.two, (hP.mul v).resolve_left hP.two⟩
/-- What the doubling needs of the curve's numbers. -/
structure Mon (P a d b s k : Int) : Prop where
  s1 : s = 1 ∨ s = -1
  bd : P ∣ b * (a - d) - d
  kb : 2 * k + 1 = s * (2 * b + 1)
  ad : ¬ P ∣ a - d
  a0 : ¬ P ∣ a
theorem Rep.dbl (hP : Pri P) (hC : Cpl P a d) (M : Mon P a d b s k) {w : Int × Int} {x y x2 y2 : Int} (h : Rep P s w y) (ho : On P a d x y) (hm : Sm P a d x y x y x2 y2) : Rep P s (ldbl k w) y2 := by
  obtain ⟨t, hS⟩ := h.st hP M.s1
  have E1 : P ∣ y ^ 2 - (1 + b * (1 - y ^ 2)) * (1 - a * x ^ 2) := cancel hP M.ad (dv2 ho M.bd (c1 := a) (c2 := -((1 - y ^ 2) * (1 - a * x ^ 2))) (by grind))
  have hq := hC.q ho ho
  have my := hm.y
  obtain ⟨U, V⟩ := w
  simp only at t hS
  have ST : ∃ S T, P ∣ T - y * S ∧ ¬ P ∣ S ∧ (ldbl k (U, V)).1 = S ^ 2 * T ^ 2 ∧ (ldbl k (U, V)).2 = s * (S ^ 2 - T ^ 2) * (S ^ 2 + b * (S ^ 2 - T ^ 2)) := by
    refine ⟨U + s * V, U - s * V, t, hS, ?_, ?_⟩
    · unfold ldbl
      rcases M.s1 with e | e <;> subst e <;> grind
    · unfold ldbl
      have kb := M.kb
      rcases M.s1 with e | e
      · subst e
        obtain rfl : k = b := by omega
        grind
      · subst e
        obtain rfl : k = -1 - b := by omega
        grind
  obtain ⟨S, T, hT, hS, e1, e2⟩ := ST
  have tau : P ∣ T ^ 2 - y ^ 2 * S ^ 2 := dv2 hT hT (c1 := T + y * S) (c2 := 0) (by grind)
  have ss : s * s = 1 := by rcases M.s1 with e | e <;> subst e <;> decide
  unfold Rep
  rw [e1, e2]
  constructor
  · have g1 : P ∣ S ^ 2 * T ^ 2 * (1 - y ^ 2) - (S ^ 2 - T ^ 2) * (S ^ 2 + b * (S ^ 2 - T ^ 2)) * (1 - a * x ^ 2) :=
      dv2 E1 tau (c1 := S ^ 4 * (1 - y ^ 2)) (c2 := S ^ 2 * (1 - y ^ 2) + (1 - a * x ^ 2) * (S ^ 2 * (1 + b * (1 - y ^ 2)) + b * (S ^ 2 * (1 - y ^ 2) - (T ^ 2 - y ^ 2 * S ^ 2)))) (by grind)
    refine cancel hP hq (dv3 g1 ho my (c1 := 2) (c2 := S ^ 2 * T ^ 2 - (S ^ 2 - T ^ 2) * (S ^ 2 + b * (S ^ 2 - T ^ 2))) (c3 := -(S ^ 2 * T ^ 2 + (S ^ 2 - T ^ 2) * (S ^ 2 + b * (S ^ 2 - T ^ 2)))) ?_)
    grind
  · rintro ⟨z1, z2⟩
    have zT : P ∣ T := by
      have h1 : P ∣ (S * T) * (S * T) := dv2 z1 z1 (c1 := 1) (c2 := 0) (by grind)
      rcases hP.mul h1 with h | h <;> exact (hP.mul h).resolve_left hS
    have z3 : P ∣ (1 + b) * (S ^ 2 * S ^ 2) := dv2 z2 zT (c1 := s) (c2 := T * (S ^ 2 + b * (S ^ 2 - T ^ 2)) + S ^ 2 * b * T) (by grind)
    have n2 : ¬ P ∣ S ^ 2 * S ^ 2 := by
      have n1 : ¬ P ∣ S ^ 2 := by rw [show S ^ 2 = S * S by grind]; exact nz_mul hP hS hS
      exact nz_mul hP n1 n1
    have z4 := cancel hP n2 z3
    exact M.a0 (dv2 z4 M.bd (c1 := a - d) (c2 := -1) (by grind))
theorem Rep.sum (hP : Pri P) (hC : Cpl P a d) (hs : s = 1 ∨ s = -1) {p q : Int × Int} {x x1 y1 x2 y2 xs ys xd yd : Int} (h1 : Rep P s p y1) (h2 : Rep P s q y2) (o1 : On P a d x1 y1) (o2 : On P a d x2 y2)
    (hm : Sm P a d x1 y1 x2 y2 xs ys) (hd : Sm P a d x1 y1 (-x2) y2 xd yd) (hx : P ∣ x * (1 - yd) - s * (1 + yd)) (hn : ¬ P ∣ 1 - yd) (h0 : ¬ P ∣ x) : Rep P s (lsum2 p q x) ys := by
  obtain ⟨t1, n1⟩ := h1.st hP hs
  obtain ⟨t2, n2⟩ := h2.st hP hs
  have hp := hC.p o1 o2
  have hq := hC.q o1 o2
  have D := dv2 o1 o2 (ed_diff x1 y1 x2 y2 a d)
  have dy : P ∣ yd * (1 + d * x1 * x2 * y1 * y2) - (y1 * y2 + a * x1 * x2) := dv2 hd.y hd.y (c1 := 1) (c2 := 0) (by grind)
  have sy := hm.y
  have ss : s * s = 1 := by rcases hs with e | e <;> subst e <;> decide
  have K : P ∣ (1 + ys) * (1 + yd) * (y1 - y2) ^ 2 - (1 - ys) * (1 - yd) * (y1 + y2) ^ 2 := by
    have g1 : P ∣ ((1 - d * x1 * x2 * y1 * y2) * (1 + ys)) * ((1 + d * x1 * x2 * y1 * y2) * (1 + yd)) * (y1 - y2) ^ 2 - ((1 - d * x1 * x2 * y1 * y2) * (1 - ys)) * ((1 + d * x1 * x2 * y1 * y2) * (1 - yd)) * (y1 + y2) ^ 2 := by
      generalize 1 - d * x1 * x2 * y1 * y2 = Q at *
      generalize 1 + d * x1 * x2 * y1 * y2 = R at *
      generalize y1 * y2 - a * x1 * x2 = X at *
      generalize y1 * y2 + a * x1 * x2 = Y at *
      refine dv3 D sy dy (c1 := 1) (c2 := R * (1 + yd) * (y1 - y2) ^ 2 + R * (1 - yd) * (y1 + y2) ^ 2) (c3 := (Q + X) * (y1 - y2) ^ 2 + (Q - X) * (y1 + y2) ^ 2) ?_
      grind
    refine cancel hP (nz_mul hP hq hp) (dv2 g1 g1 (c1 := 1) (c2 := 0) ?_)
    grind
  have M : P ∣ x * (1 + ys) * (y1 - y2) ^ 2 - s * (1 - ys) * (y1 + y2) ^ 2 := by
    refine cancel hP hn (dv2 K hx (c1 := s) (c2 := (1 + ys) * (y1 - y2) ^ 2) ?_)
    grind
  obtain ⟨U1, V1⟩ := p
  obtain ⟨U2, V2⟩ := q
  simp only at t1 n1 t2 n2
  have ST : ∃ S1 T1 S2 T2, P ∣ T1 - y1 * S1 ∧ ¬ P ∣ S1 ∧ P ∣ T2 - y2 * S2 ∧ ¬ P ∣ S2 ∧ (lsum2 (U1, V1) (U2, V2) x).1 = (S1 * T2 + S2 * T1) ^ 2 ∧ (lsum2 (U1, V1) (U2, V2) x).2 = x * (S1 * T2 - S2 * T1) ^ 2 := by
    refine ⟨U1 + s * V1, U1 - s * V1, U2 + s * V2, U2 - s * V2, t1, n1, t2, n2, ?_, ?_⟩
    · unfold lsum2
      rcases hs with e | e <;> subst e <;> grind
    · unfold lsum2
      rcases hs with e | e <;> subst e <;> grind
  obtain ⟨S1, T1, S2, T2, k1, m1, k2, m2, e1, e2⟩ := ST
  have f1 : P ∣ (S1 * T2 + S2 * T1) - S1 * S2 * (y1 + y2) := dv2 k1 k2 (c1 := S2) (c2 := S1) (by grind)
  have f2 : P ∣ (S1 * T2 - S2 * T1) - S1 * S2 * (y2 - y1) := dv2 k1 k2 (c1 := -S2) (c2 := S1) (by grind)
  unfold Rep
  rw [e1, e2]
  constructor
  · refine dv3 M f1 f2 (c1 := -(s * (S1 * S2) ^ 2)) (c2 := (1 - ys) * (S1 * T2 + S2 * T1 + S1 * S2 * (y1 + y2))) (c3 := -(s * x * (1 + ys) * (S1 * T2 - S2 * T1 + S1 * S2 * (y2 - y1)))) ?_
    grind
  · rintro ⟨z1, z2⟩
    have sq : ∀ z : Int, P ∣ z ^ 2 → P ∣ z := fun z hz => by
      rw [show z ^ 2 = z * z by grind] at hz
      exact (hP.mul hz).elim id id
    have z1' := sq _ z1
    have z2' := sq _ ((hP.mul z2).resolve_left h0)
    have y1z : P ∣ y1 := by
      have g : P ∣ y1 * (2 * (S1 * S2)) := dv3 z1' z2' k1 (c1 := 1) (c2 := -1) (c3 := -(2 * S2)) (by grind)
      exact cancel hP (nz_mul hP hP.two (nz_mul hP m1 m2)) g
    have y2z : P ∣ y2 := by
      have g : P ∣ y2 * (2 * (S1 * S2)) := dv3 z1' z2' k2 (c1 := 1) (c2 := 1) (c3 := -(2 * S1)) (by grind)
      exact cancel hP (nz_mul hP hP.two (nz_mul hP m1 m2)) g
    have a1 : P ∣ a * x1 ^ 2 - 1 := dv2 o1 y1z (c1 := 1) (c2 := -(y1 - d * x1 ^ 2 * y1)) (by grind)
    have a2 : P ∣ a * x2 ^ 2 - 1 := dv2 o2 y2z (c1 := 1) (c2 := -(y2 - d * x2 ^ 2 * y2)) (by grind)
    have ydv : P ∣ yd - a * x1 * x2 := dv2 dy y1z (c1 := 1) (c2 := y2 - yd * d * x1 * x2 * y2) (by grind)
    have yd1 : P ∣ (1 - yd) * (1 + yd) := dv3 ydv a1 a2 (c1 := -(yd + a * x1 * x2)) (c2 := -(a * x2 ^ 2)) (c3 := -1) (by grind)
    have yd2 : P ∣ 1 + yd := (hP.mul yd1).resolve_left hn
    have yx : P ∣ x * (1 - yd) := dv2 hx yd2 (c1 := 1) (c2 := s) (by grind)
    rcases hP.mul yx with h | h
    · exact h0 h
    · exact hn h
end
end Go.Proofs.YtblkjpmkikhpbaaDoor

/-
  The two curves of the ladder as numbers: squares and none, inverses, the group of each.
-/
namespace Go.Proofs.YtblkjpmkikhpbaaDoor
set_option maxRecDepth 100000

abbrev d0 : Int := 37095705934669439343138083508754565189542113879843219016388785533085940283555
abbrev i0 : Int := 19681161376707505956807079304988542015446066515923890162744021073123829784752
abbrev r0 : Int := 55487632915927625549282413919184614932259505768049324239291840100650878933168
theorem eI_H : eInv + 1 = 2 * eH := by decide +kernel
theorem fer2 {l : Int} (h : ¬ PP ∣ l) : l ^ (2 * eH) % PP = 1 := by rw [← eI_H]; exact fer h
def einv (c : Int) : Int := c ^ eInv
theorem einv_ok : ∀ c, ¬ PP ∣ c → PP ∣ einv c * c - 1 := fun c h => by
  have f := fer h
  unfold einv
  rw [← Int.pow_succ]
  refine PP_dvd.2 ?_
  rw [Int.sub_emod, f]
  rfl
theorem cong_dvd {x y : Int} (h : PP ∣ x - y) : x % PP = y % PP := Int.emod_eq_emod_iff_emod_sub_eq_zero.2 (PP_dvd.1 h)
theorem dvd_cong {x y : Int} (h : x % PP = y % PP) : PP ∣ x - y := PP_dvd.2 (Int.emod_eq_emod_iff_emod_sub_eq_zero.1 h)
/-- No square, by Euler's number. -/
theorem nsq_of {d : Int} (h : d ^ eH % PP = PP - 1) : NSq PP d := by
  intro r t hrt
  by_cases ht : PP ∣ t
  · exact ht
  exfalso
  have e := pow_mod (cong_dvd hrt) eH
  have et : (d * t ^ 2) ^ eH % PP = PP - 1 := by
    rw [Int.mul_pow, ← Int.pow_mul, Int.mul_emod, h, fer2 ht]
    decide
  rw [et] at e
  by_cases hr : PP ∣ r
  · have z : PP ∣ r ^ 2 := by rw [Int.pow_succ]; exact Int.dvd_mul_of_dvd_right hr
    have z2 : (r ^ 2) ^ eH % PP = 0 := by
      rw [show eH = eH - 1 + 1 from rfl, Int.pow_succ]
      exact PP_dvd.1 (Int.dvd_mul_of_dvd_right z)
    rw [z2] at e
    exact absurd e (by decide)
  · rw [← Int.pow_mul, fer2 hr] at e
    exact absurd e (by decide)
theorem nsq2 : NSq PP 2 := nsq_of two_half
theorem i0_sq : PP ∣ i0 ^ 2 - (-1) := by decide +kernel
theorem i0_nz : ¬ PP ∣ i0 := by decide +kernel
theorem nsqm2 : NSq PP (-2) := by
  intro r t h
  have k : PP ∣ r ^ 2 - 2 * (i0 * t) ^ 2 := dv2 h i0_sq (c1 := 1) (c2 := -(2 * t ^ 2)) (by grind)
  exact (pri_PP.mul (nsq2 r (i0 * t) k)).resolve_left i0_nz
theorem d0_half : d0 ^ eH % PP = PP - 1 := by
  have h : pm P25519 255 37095705934669439343138083508754565189542113879843219016388785533085940283555 eH = P25519 - 1 := by decide +kernel
  rw [pm_eq _ _ _ _ (by decide +kernel)] at h
  have h' : (((37095705934669439343138083508754565189542113879843219016388785533085940283555 : Nat) ^ eH % P25519 : Nat) : Int) = ((P25519 - 1 : Nat) : Int) := by rw [h]
  rw [Int.natCast_emod, Int.natCast_pow] at h'
  rw [PP_nat]
  exact h'
theorem nsqd : NSq PP d0 := nsq_of d0_half
theorem r0_sq : PP ∣ r0 ^ 2 - 2 * d0 := by decide +kernel
/-- The curve itself, and its twist. -/
theorem crv1 : Crv PP (-1) d0 einv := ⟨pri_PP, cpl_of pri_PP i0_sq nsqd, einv_ok⟩
theorem crv2 : Crv PP (2 * d0) (-2) einv := ⟨pri_PP, cpl_of pri_PP r0_sq nsqm2, einv_ok⟩
theorem mon1 : Mon PP (-1) d0 121665 1 121665 := ⟨Or.inl rfl, by decide +kernel, by decide, by decide +kernel, by decide +kernel⟩
theorem mon2 : Mon PP (2 * d0) (-2) (-121666) (-1) 121665 := ⟨Or.inr rfl, by decide +kernel, by decide, by decide +kernel, by decide +kernel⟩
/-- Of a number and its double just one is a square. -/
theorem sq_or {z : Int} (hz : ¬ PP ∣ z) : (∃ v, PP ∣ v ^ 2 - z) ∨ ∃ v, PP ∣ v ^ 2 - 2 * z := by
  have h1 : 0 < z % PP := by
    have := Int.emod_nonneg z (show PP ≠ 0 by decide)
    rcases Int.lt_or_eq_of_le this with k | k
    · exact k
    · exact absurd (PP_dvd.2 k.symm) hz
  have h2 := Int.emod_lt_of_pos z (show (0 : Int) < PP by decide)
  have sq : ∀ A : Int, 0 < A → A < PP → A ^ eH % PP = 1 → ∃ v, PP ∣ v ^ 2 - A := fun A a0 a1 ha => by
    refine ⟨r1I A, dvd_cong ?_⟩
    rw [show r1I A ^ 2 = r1I A * r1I A by rw [Int.pow_succ, Int.pow_succ, Int.pow_zero, Int.one_mul], has_of a0 a1 ha, Int.emod_eq_of_lt (Int.le_of_lt a0) a1]
  have back : ∀ {v A B : Int}, PP ∣ v ^ 2 - A → A % PP = B % PP → PP ∣ v ^ 2 - B := fun {v A B} h e => by
    have := Int.dvd_add h (dvd_cong e)
    rwa [show v ^ 2 - A + (A - B) = v ^ 2 - B by omega] at this
  rcases half_one h1 h2 with k | k
  · obtain ⟨v, hv⟩ := sq _ h1 h2 k
    exact Or.inl ⟨v, back hv (Int.emod_emod_of_dvd _ (Int.dvd_refl _))⟩
  · have e : (2 * z) ^ eH % PP = 1 := by
      rw [Int.mul_pow, Int.mul_emod, two_half, ← pwm z, k]
      decide +kernel
    have g1 : 0 < 2 * z % PP := by
      have := Int.emod_nonneg (2 * z) (show PP ≠ 0 by decide)
      rcases Int.lt_or_eq_of_le this with q | q
      · exact q
      · exact absurd (PP_dvd.2 q.symm) (nz_mul pri_PP (by decide) hz)
    obtain ⟨v, hv⟩ := sq _ g1 (Int.emod_lt_of_pos _ (by decide)) (by rw [pwm]; exact e)
    exact Or.inr ⟨v, back hv (Int.emod_emod_of_dvd _ (Int.dvd_refl _))⟩
end Go.Proofs.YtblkjpmkikhpbaaDoor

/-
  Every first coordinate but 0 belongs to a point of one of the two curves.
-/
namespace Go.Proofs.YtblkjpmkikhpbaaDoor
set_option maxRecDepth 100000

section
variable {P d i x D X y v : Int}
theorem on_one (hD : D = d * (x - 1) ^ 2 + (x + 1) ^ 2) (hi : P ∣ i ^ 2 - (-1)) (hX : P ∣ X * D - 2 * i * v) (hy : P ∣ y * (x + 1) - (x - 1)) (hv : P ∣ v ^ 2 - x * D) : P ∣ ((-1) * X ^ 2 + y ^ 2 - 1 - d * X ^ 2 * y ^ 2) * ((x + 1) ^ 2 * D ^ 2) := by
  have S1 : P ∣ (X * D) ^ 2 + 4 * x * D := dv3 hX hi hv (c1 := X * D + 2 * i * v) (c2 := 4 * v ^ 2) (c3 := -4) (by grind)
  have S2 : P ∣ (y * (x + 1)) ^ 2 - (x - 1) ^ 2 := dv2 hy hy (c1 := y * (x + 1) + (x - 1)) (c2 := 0) (by grind)
  refine dv2 S1 S2 (c1 := -(x + 1) ^ 2 - d * (y * (x + 1)) ^ 2) (c2 := D ^ 2 + 4 * x * D * d) ?_
  subst hD
  grind
theorem on_two (hD : D = d * (x - 1) ^ 2 + (x + 1) ^ 2) (hi : P ∣ i ^ 2 - (-1)) (hX : P ∣ X * D - i * v) (hy : P ∣ y * (x - 1) - (x + 1)) (hv : P ∣ v ^ 2 - 2 * (x * D)) : P ∣ (2 * d * X ^ 2 + y ^ 2 - 1 - (-2) * X ^ 2 * y ^ 2) * ((x - 1) ^ 2 * D ^ 2) := by
  have S1 : P ∣ (X * D) ^ 2 + 2 * x * D := dv3 hX hi hv (c1 := X * D + i * v) (c2 := v ^ 2) (c3 := -1) (by grind)
  have S2 : P ∣ (y * (x - 1)) ^ 2 - (x + 1) ^ 2 := dv2 hy hy (c1 := y * (x - 1) + (x + 1)) (c2 := 0) (by grind)
  refine dv2 S1 S2 (c1 := 2 * d * (x - 1) ^ 2 + 2 * (y * (x - 1)) ^ 2) (c2 := D ^ 2 - 4 * x * D) ?_
  subst hD
  grind
theorem D_nz (hP : Pri P) (hd : NSq P d) (hi : P ∣ i ^ 2 - (-1)) (hD : D = d * (x - 1) ^ 2 + (x + 1) ^ 2) (hin : ¬ P ∣ i) : ¬ P ∣ D := fun h => by
  have k : P ∣ (x + 1) ^ 2 - d * (i * (x - 1)) ^ 2 := dv2 h hi (c1 := 1) (c2 := -(d * (x - 1) ^ 2)) (by subst hD; grind)
  have h1 : P ∣ x - 1 := (hP.mul (hd _ _ k)).resolve_left hin
  have h2 : P ∣ (x + 1) * (x + 1) := dv2 h h1 (c1 := 1) (c2 := -(d * (x - 1))) (by subst hD; grind)
  have h3 : P ∣ x + 1 := (hP.mul h2).elim id id
  exact hP.two (dv2 h3 h1 (c1 := 1) (c2 := -1) (by omega))
theorem x1_nz (hP : Pri P) (hd : NSq P d) (hi : P ∣ i ^ 2 - (-1)) (hD : D = d * (x - 1) ^ 2 + (x + 1) ^ 2) (hin : ¬ P ∣ i) (hv : P ∣ v ^ 2 - x * D) : ¬ P ∣ x + 1 := fun h => by
  have k : P ∣ v ^ 2 - d * (2 * i) ^ 2 := dv3 hv h hi (c1 := 1) (c2 := d * (x + 1) ^ 2 - 5 * d * (x + 1) + 8 * d + (x + 1) ^ 2 - (x + 1)) (c3 := -(4 * d)) (by subst hD; grind)
  exact nz_mul hP hP.two hin (hd _ _ k)
theorem x2_nz (hP : Pri P) (h2 : NSq P 2) (hD : D = d * (x - 1) ^ 2 + (x + 1) ^ 2) (hv : P ∣ v ^ 2 - 2 * (x * D)) : ¬ P ∣ x - 1 := fun h => by
  have k : P ∣ v ^ 2 - 2 * 2 ^ 2 := dv2 hv h (c1 := 1) (c2 := 2 * (d * (x - 1) ^ 2 + (x - 1) ^ 2 + 5 * (x - 1) + 8 + d * (x - 1))) (by subst hD; grind)
  exact hP.two (h2 _ _ k)
end
theorem point_of {x : Int} (hx : ¬ PP ∣ x) : (∃ p, OnP PP (-1) d0 p ∧ Rep PP 1 (x, 1) p.2) ∨ ∃ p, OnP PP (2 * d0) (-2) p ∧ Rep PP (-1) (x, 1) p.2 := by
  obtain ⟨D, hD⟩ : ∃ D, D = d0 * (x - 1) ^ 2 + (x + 1) ^ 2 := ⟨_, rfl⟩
  have nD := D_nz pri_PP nsqd i0_sq hD i0_nz
  have hf := einv_ok D nD
  have hi := i0_sq
  have hin := i0_nz
  have hd := nsqd
  have n1 := pri_PP.one
  rcases sq_or (nz_mul pri_PP hx nD) with ⟨v, hv⟩ | ⟨v, hv⟩
  · left
    have n := x1_nz pri_PP hd hi hD hin hv
    have he := einv_ok _ n
    refine ⟨(2 * i0 * v * einv D, (x - 1) * einv (x + 1)), ?_, ?_, fun h => n1 h.2⟩
    · generalize i0 = i at *
      generalize d0 = d at *
      generalize einv D = f at *
      generalize einv (x + 1) = e at *
      have hX : PP ∣ 2 * i * v * f * D - 2 * i * v := dv2 hf hf (c1 := 2 * i * v) (c2 := 0) (by grind)
      have hy : PP ∣ (x - 1) * e * (x + 1) - (x - 1) := dv2 he he (c1 := x - 1) (c2 := 0) (by grind)
      have G := on_one hD hi hX hy hv
      have nn : ¬ PP ∣ (x + 1) ^ 2 * D ^ 2 := nz_mul pri_PP (nz_pow pri_PP n 2) (nz_pow pri_PP nD 2)
      exact cancel pri_PP nn G
    · generalize einv (x + 1) = e at *
      exact dv2 he he (c1 := -(x - 1)) (c2 := 0) (by grind)
  · right
    have n := x2_nz pri_PP nsq2 hD hv
    have he := einv_ok _ n
    refine ⟨(i0 * v * einv D, (x + 1) * einv (x - 1)), ?_, ?_, fun h => n1 h.2⟩
    · show PP ∣ _
      generalize i0 = i at *
      generalize d0 = d at *
      generalize einv D = f at *
      generalize einv (x - 1) = e at *
      have hX : PP ∣ i * v * f * D - i * v := dv2 hf hf (c1 := i * v) (c2 := 0) (by grind)
      have hy : PP ∣ (x + 1) * e * (x - 1) - (x + 1) := dv2 he he (c1 := x + 1) (c2 := 0) (by grind)
      have G := on_two hD hi hX hy hv
      have nn : ¬ PP ∣ (x - 1) ^ 2 * D ^ 2 := nz_mul pri_PP (nz_pow pri_PP n 2) (nz_pow pri_PP nD 2)
      exact cancel pri_PP nn G
    · generalize einv (x - 1) = e at *
      exact dv2 he he (c1 := -(x + 1)) (c2 := 0) (by grind)
end Go.Proofs.YtblkjpmkikhpbaaDoor

/-
  The ladder climbs a point: the pairs stand for its multiples; what it answers at the end.
-/
namespace Go.Proofs.YtblkjpmkikhpbaaDoor
set_option maxRecDepth 100000

section
variable {P a d b s : Int} {inv : Int → Int}
theorem Rep.cg {w : Int × Int} {y y' : Int} (h : Rep P s w y) (e : P ∣ y - y') : Rep P s w y' :=
  ⟨dv2 h.1 e (c1 := 1) (c2 := w.1 + s * w.2) (by grind), h.2⟩
theorem Sm.res {x1 y1 x2 y2 x3 y3 x4 y4 : Int} (h : Sm P a d x1 y1 x2 y2 x3 y3) (hx : P ∣ x3 - x4) (hy : P ∣ y3 - y4) : Sm P a d x1 y1 x2 y2 x4 y4 :=
  ⟨dv2 h.x hx (c1 := 1) (c2 := -(1 + d * x1 * x2 * y1 * y2)) (by grind), dv2 h.y hy (c1 := 1) (c2 := -(1 - d * x1 * x2 * y1 * y2)) (by grind)⟩
def eneg (p : Int × Int) : Int × Int := (-p.1, p.2)
theorem eadd_negs (p q : Int × Int) : eadd a d inv (eneg p) (eneg q) = eneg (eadd a d inv p q) := by
  unfold eadd eneg
  have e1 : 1 + d * -p.1 * -q.1 * p.2 * q.2 = 1 + d * p.1 * q.1 * p.2 * q.2 := by grind
  have e2 : 1 - d * -p.1 * -q.1 * p.2 * q.2 = 1 - d * p.1 * q.1 * p.2 * q.2 := by grind
  simp only [e1, e2]
  congr 1
  · grind
  · grind
theorem Pe.neg {p q : Int × Int} (h : Pe P p q) : Pe P (eneg p) (eneg q) := ⟨dv2 h.1 h.1 (c1 := -1) (c2 := 0) (by show -p.1 - -q.1 = _; grind), h.2⟩
/-- N p less (N + 1) p is -p. -/
theorem step_back (H : Crv P a d inv) {A p : Int × Int} (hA : OnP P a d A) (hp : OnP P a d p) : Pe P (eadd a d inv A (eneg (eadd a d inv A p))) (eneg p) := by
  rw [← eadd_negs]
  have nA : OnP P a d (eneg A) := neg_on hA
  have np : OnP P a d (eneg p) := neg_on hp
  have e1 := (eadd_assoc H hA nA np).symm
  have e2 := eadd_cg H (eadd_on H hA nA) np (eadd_neg H hA) (Pe.refl (eneg p))
  have e3 := eadd_comm H (p := (0, 1)) (q := eneg p) zero_on np
  exact e1.trans (e2.trans (e3.trans (eadd_zero H np)))
end

/-- The two pairs stand for n p and (n + 1) p. -/
structure Up (a d s : Int) (p : Int × Int) (n : Nat) (t : Two4) : Prop where
  l : Rep PP s (t.a, t.b) (emul a d einv n p).2
  r : Rep PP s (t.c, t.d) (emul a d einv (n + 1) p).2
section
variable {a d b s x : Int} {p : Int × Int}
theorem Up.zero (H : Crv PP a d einv) (hp : OnP PP a d p) (hr : Rep PP s (x, 1) p.2) : Up a d s p 0 ⟨1, 0, x, 1⟩ := by
  refine ⟨⟨⟨0, ?_⟩, fun h => pri_PP.one h.1⟩, ?_⟩
  · show 1 * (1 - 1) - s * 0 * (1 + 1) = PP * 0
    grind
  · have e : Pe PP (eadd a d einv (0, 1) p) p := (eadd_comm H zero_on hp).trans (eadd_zero H hp)
    exact hr.cg (e.symm.2)
theorem Up.step (H : Crv PP a d einv) (M : Mon PP a d b s 121665) (hp : OnP PP a d p) (hr : Rep PP s (x, 1) p.2) (hx : ¬ PP ∣ x) {n : Nat} {t : Two4} (h : Up a d s p n t) (bit : Bool) : Up a d s p (2 * n + bit.toNat) (lrnd x bit t) := by
  have hA := emul_on H hp n
  have hB := emul_on H hp (n + 1)
  have hs := M.s1
  -- the double of any multiple
  have D : ∀ (m : Nat) (u v : Int), Rep PP s (u, v) (emul a d einv m p).2 → Rep PP s (dU u v, dV u v) (emul a d einv (2 * m) p).2 := fun m u v hw => by
    have hm := emul_on H hp m
    have g := Rep.dbl H.pri H.cpl M hw hm (eadd_sm H hm hm)
    have e : Pe PP (eadd a d einv (emul a d einv m p) (emul a d einv m p)) (emul a d einv (2 * m) p) := by
      rw [Nat.two_mul]
      exact (emul_add H hp m m).symm
    have k : ldbl 121665 (u, v) = (dU u v, dV u v) := by
      unfold ldbl dU dV dW
      simp only [Prod.mk.injEq, true_and]
      grind
    rw [k] at g
    exact g.cg e.2
  -- the sum of both
  have S : Rep PP s (sU t.a t.b t.c t.d, sV x t.a t.b t.c t.d) (emul a d einv (2 * n + 1) p).2 := by
    have hd := (eadd_sm H hA (neg_on hB)).res (step_back H hA hp).1 (step_back H hA hp).2
    have hxr : PP ∣ x * (1 - p.2) - s * (1 + p.2) := dv2 hr.1 hr.1 (c1 := 1) (c2 := 0) (by grind)
    have hn : ¬ PP ∣ 1 - p.2 := fun k => by
      have h2 : PP ∣ 2 := by
        have q : PP ∣ s * 2 := dv2 hxr k (c1 := -1) (c2 := x + s) (by grind)
        rcases hs with e | e
        · rw [e] at q; simpa using q
        · rw [e] at q
          exact dv2 q q (c1 := -1) (c2 := 0) (by grind)
      exact pri_PP.two h2
    have g := Rep.sum H.pri H.cpl hs h.l h.r hA hB (eadd_sm H hA hB) hd hxr hn hx
    have e : Pe PP (eadd a d einv (emul a d einv n p) (emul a d einv (n + 1) p)) (emul a d einv (2 * n + 1) p) := by
      rw [show 2 * n + 1 = n + (n + 1) by omega]
      exact (emul_add H hp n (n + 1)).symm
    exact g.cg e.2
  cases bit
  · exact ⟨D n _ _ h.l, S⟩
  · refine ⟨S, ?_⟩
    have g := D (n + 1) _ _ h.r
    rw [show 2 * (n + 1) = 2 * n + 1 + 1 by omega] at g
    exact g
/-- The number of n bits, the highest first. -/
def bnum (bit : Nat → Bool) : Nat → Nat
  | 0 => 0
  | n + 1 => 2 * bnum bit n + (bit n).toNat
theorem up_all (H : Crv PP a d einv) (M : Mon PP a d b s 121665) (hp : OnP PP a d p) (hr : Rep PP s (x, 1) p.2) (hx : ¬ PP ∣ x) (bit : Nat → Bool) : ∀ n, Up a d s p (bnum bit n) (lrnds x bit n)
  | 0 => Up.zero H hp hr
  | n + 1 => Up.step H M hp hr hx (up_all H M hp hr hx bit n) (bit n)
theorem bnum_k (K : Nat) (m : Nat) : ∀ n, n ≤ m → bnum (fun i => kbit (K : Int) (m - 1 - i)) n = K / 2 ^ (m - n) % 2 ^ n
  | 0, _ => by simp [bnum, Nat.mod_one]
  | n + 1, h => by
    have ih := bnum_k K m n (by omega)
    show 2 * bnum _ n + (kbit (K : Int) (m - 1 - n)).toNat = _
    rw [ih]
    have e1 : m - n = (m - (n + 1)) + 1 := by omega
    have e2 : m - 1 - n = m - (n + 1) := by omega
    rw [e1, e2]
    generalize m - (n + 1) = j
    have b : (kbit (K : Int) j).toNat = K / 2 ^ j % 2 := by
      unfold kbit
      have c : (K : Int) / 2 ^ j % 2 = ((K / 2 ^ j % 2 : Nat) : Int) := by simp
      rw [c]
      rcases (show K / 2 ^ j % 2 = 0 ∨ K / 2 ^ j % 2 = 1 by omega) with z | z
      · rw [z]; rfl
      · rw [z]; rfl
    rw [b, Nat.pow_succ, ← Nat.div_div_eq_div_mul]
    generalize K / 2 ^ j = q
    rw [Nat.pow_succ, Nat.mul_comm (2 ^ n) 2, Nat.mod_mul]
    omega
/-- What the ladder says at its end. -/
theorem end_zero {u v y : Int} (hs : s = 1 ∨ s = -1) (h : Rep PP s (u, v) y) (hz : (u * v ^ eInv) % PP = 0) : PP ∣ 1 - y ∨ PP ∣ 1 + y := by
  have h1 : PP ∣ u * (1 - y) - s * v * (1 + y) := h.1
  rcases pri_PP.mul (PP_dvd.2 hz) with k | k
  · right
    have nv : ¬ PP ∣ v := fun q => h.2 ⟨k, q⟩
    have g : PP ∣ (1 + y) * v := by
      rcases hs with e | e <;> subst e
      · exact dv2 h1 k (c1 := -1) (c2 := 1 - y) (by grind)
      · exact dv2 h1 k (c1 := 1) (c2 := -(1 - y)) (by grind)
    exact cancel pri_PP nv g
  · left
    have hv : PP ∣ v := by
      by_cases q : PP ∣ v
      · exact q
      · exact absurd k (nz_pow pri_PP q _)
    have nu : ¬ PP ∣ u := fun q => h.2 ⟨q, hv⟩
    exact cancel pri_PP nu (dv2 h1 hv (c1 := 1) (c2 := s * (1 + y)) (by grind))
theorem end_some {u v y : Int} (h : Rep PP s (u, v) y) (hz : ¬ (u * v ^ eInv) % PP = 0) : Rep PP s (u * v ^ eInv % PP, 1) y := by
  refine ⟨?_, fun k => pri_PP.one k.2⟩
  have h1 : PP ∣ u * (1 - y) - s * v * (1 + y) := h.1
  have nv : ¬ PP ∣ v := fun q => hz (by rw [Int.mul_emod, zpow q]; simp)
  have hi := einv_ok v nv
  have hm : PP ∣ u * v ^ eInv % PP - u * einv v := dvd_cong (Int.emod_emod_of_dvd _ (Int.dvd_refl _))
  show PP ∣ u * v ^ eInv % PP * (1 - y) - s * 1 * (1 + y)
  generalize u * v ^ eInv % PP = m at *
  generalize einv v = f at *
  exact dv3 h1 hi hm (c1 := f) (c2 := s * (1 + y)) (c3 := 1 - y) (by grind)
theorem end_one {u v y : Int} (hs : s = 1 ∨ s = -1) (h : Rep PP s (u, v) y) (hy : PP ∣ 1 - y) : u * v ^ eInv % PP = 0 := by
  have h1 : PP ∣ u * (1 - y) - s * v * (1 + y) := h.1
  have g : PP ∣ 2 * v := by
    rcases hs with e | e <;> subst e
    · exact dv2 h1 hy (c1 := -1) (c2 := u + v) (by grind)
    · exact dv2 h1 hy (c1 := 1) (c2 := v - u) (by grind)
  have hv : PP ∣ v := (pri_PP.mul g).resolve_left pri_PP.two
  rw [Int.mul_emod, zpow hv]
  simp
theorem end_same {u v u' v' y y' : Int} (hs : s = 1 ∨ s = -1) (h : Rep PP s (u, v) y) (h' : Rep PP s (u', v') y') (e : PP ∣ y - y') : u * v ^ eInv % PP = u' * v' ^ eInv % PP := by
  have h2 : Rep PP s (u', v') y := h'.cg (dv2 e e (c1 := -1) (c2 := 0) (by grind))
  by_cases hy : PP ∣ 1 - y
  · rw [end_one hs h hy, end_one hs h2 hy]
  · have h1 : PP ∣ u * (1 - y) - s * v * (1 + y) := h.1
    have h3 : PP ∣ u' * (1 - y) - s * v' * (1 + y) := h2.1
    have nv : ¬ PP ∣ v := fun q => h.2 ⟨cancel pri_PP hy (dv2 h1 q (c1 := 1) (c2 := s * (1 + y)) (by grind)), q⟩
    have nv' : ¬ PP ∣ v' := fun q => h2.2 ⟨cancel pri_PP hy (dv2 h3 q (c1 := 1) (c2 := s * (1 + y)) (by grind)), q⟩
    have i1 := einv_ok v nv
    have i2 := einv_ok v' nv'
    refine cong_dvd ?_
    show PP ∣ u * einv v - u' * einv v'
    generalize einv v = f at *
    generalize einv v' = g at *
    refine cancel pri_PP hy ?_
    have g1 : PP ∣ u * f * (1 - y) - s * (1 + y) := dv2 h1 i1 (c1 := f) (c2 := s * (1 + y)) (by grind)
    have g2 : PP ∣ u' * g * (1 - y) - s * (1 + y) := dv2 h3 i2 (c1 := g) (c2 := s * (1 + y)) (by grind)
    exact dv2 g1 g2 (c1 := 1) (c2 := -1) (by grind)
end
end Go.Proofs.YtblkjpmkikhpbaaDoor
