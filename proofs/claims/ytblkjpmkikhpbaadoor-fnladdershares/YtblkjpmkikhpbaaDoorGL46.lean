import Derived.Test.YtblkjpmkikhpbaaDoorGL39
import Derived.Test.YtblkjpmkikhpbaaDoorGL42
import Derived.Test.YtblkjpmkikhpbaaDoorGL45

/-
  The model's Ladder.
-/
namespace Go.Proofs.YtblkjpmkikhpbaaDoor
set_option maxRecDepth 100000
open Go Go.RowKit

theorem Own.but4 {W W' : World} {g q : Nat} {a : Option Addr} {k : IntKind} {xs : List Int} (h : Own W g a k xs) (b : ButQ q W W') (hne : 0 < xs.length → g ≠ q) : Own W' g a k xs := fun h0 => h.of_block (b.1 g (hne h0) (h.rd.lt h0)) h0
theorem lsum_bytS (v : Int) (h0 : 0 ≤ v) : ∀ n, lsum (byt v) n = v % 256 ^ n
  | 0 => by simp [lsum]
  | n + 1 => by
    have ih := lsum_bytS v h0 n
    have hp := p256_pos n
    rw [lsum, ih, byt, Int.pow_succ]
    have e1 := Int.emod_add_mul_ediv v (256 ^ n)
    have e2 := Int.emod_add_mul_ediv v (256 ^ n * 256)
    rw [← Int.ediv_ediv_of_nonneg (Int.le_of_lt hp)] at e2
    have e3 := Int.emod_add_mul_ediv (v / 256 ^ n) 256
    generalize v / 256 ^ n = q at *
    generalize v % 256 ^ n = r at *
    generalize v % (256 ^ n * 256) = s at *
    generalize (256 : Int) ^ n = p at *
    generalize q / 256 = a at *
    generalize q % 256 = b at *
    subst e3
    have : (b + 256 * a) * p = b * p + 256 * a * p := Int.add_mul _ _ _
    have h1 : p * (b + 256 * a) = b * p + 256 * a * p := by rw [Int.mul_comm, this]
    have h2 : p * 256 * a = 256 * a * p := by rw [Int.mul_assoc, Int.mul_comm]
    omega
theorem num_modS (v : Int) : num (fill (byt (v % PP)) 32) = v % PP := by
  have h0 := Int.emod_nonneg v (show PP ≠ 0 by decide)
  have h1 := Int.emod_lt_of_pos v (show (0 : Int) < PP by decide)
  unfold num
  rw [fill_len, lsum_congr (b := byt (v % PP)) 32 (fun j hj => fill_get _ _ _ hj), lsum_bytS _ h0, Int.emod_eq_of_lt h0 (Int.lt_trans h1 (by decide))]
theorem bytes_L (v : Int) (n : Nat) : Byt (fill (byt v) n) := fun i => by
  rcases Nat.lt_or_ge i n with h | h
  · rw [fill_get _ _ _ h]
    unfold byt
    omega
  · rw [List.getD_eq_getElem?_getD, List.getElem?_eq_none (by rw [fill_len]; omega)]
    simp
theorem en_dbl : enters Tryd.prog 31 = true := by kernel_rfl
theorem en_lsum : enters Tryd.prog 30 = true := by kernel_rfl
theorem en_fred : enters Tryd.prog 28 = true := by kernel_rfl
/-- What is read of thirty-two bytes. -/
def FrOk (W : World) (a : Option Addr) (ys : List Int) : Prop := ∃ g, Rd W g a .u8 ys ∧ Byt ys ∧ ys.length = 32
section
variable {ops : Array Oper} {Q : Exit → Act → World → Prop} {md : Region.Mode} {F : Nat → Fact} {a0 : Act} {w0 : World} {i : Nat} {o : Oper} {ts : Array TypeId}
theorem step_fred (hi : ops[i]? = some o) (p j : Nat) {a : Option Addr} {c : Nat} {ys : List Int} (hop : o.op = .call { callee := .value (.func 28), args := #[.tmp p], argTypes := ts })
    (hj : waits md ops i j p = true) (hO : FrOk w0 a ys) (hFj : F j = Fact.eq (.slice a 32 c)) (hFi : F i = RN w0 (fun xs => xs = fill (byt (num ys % PP)) 32)) : StepOk Tryd.prog md ops Q F a0 w0 i := by
  obtain ⟨g, hr, hb, hl⟩ := hO
  refine step_call hi _ _ ts hop en_fred fun A w _ hw hF => ?_
  have ea := hF j p hj
  rw [hFj] at ea
  have e1 : A.tmps.getD p undef = .slice a ys.length c := by rw [hl]; exact ea
  show Calls Tryd.prog 28 #[A.tmps.getD p undef] w _
  rw [e1]
  refine (specFieldReduce_any w g a c ys (hr.up hw) hb).mono ?_
  rintro r w' ⟨⟨b, c', g', rfl, ow, k1, k2, hg⟩, hn⟩
  rw [hFi]
  exact ⟨_, rfl, hn, _, b, c', g', rfl, ow, Nat.le_trans hw.size hg, by unfold fred; rw [if_pos (by omega)], k1, k2⟩
theorem step_ofn (hi : ops[i]? = some o) (p j : Nat) {A : Int} (hop : o.op = .call { callee := .value (.func 27), args := #[.tmp p], argTypes := ts })
    (hj : waits md ops i j p = true) (hFj : F j = RN w0 (fun xs => xs = fill (byt (A % PP)) 32)) (hFi : F i = EL A) : StepOk Tryd.prog md ops Q F a0 w0 i := by
  refine step_call hi _ _ ts hop en_of fun B w _ hw hF => ?_
  have ea := hF j p hj
  rw [hFj] at ea
  obtain ⟨xs, b, c, g, e1, ow, _, rfl, _, _⟩ := ea
  have hl : (fill (byt (A % PP)) 32).length = 32 := fill_len _ _
  have hb : Byt (fill (byt (A % PP)) 32) := bytes_L _ _
  rw [hl] at e1
  show Calls Tryd.prog 27 #[B.tmps.getD p undef] w _
  rw [e1]
  refine (l2Of_any w g b c _ ow.rd hb hl).mono ?_
  rintro r w' ⟨rfl, hn⟩
  rw [hFi]
  refine ⟨_, rfl, hn, _, rfl, of16_ok hb, ?_⟩
  have e := of16_val (fun j => (fill (byt (A % PP)) 32).getD j 0) 16
  rw [e]
  have e2 := num_modS A
  unfold num at e2
  rw [hl] at e2
  rw [e2, Int.emod_emod_of_dvd _ (Int.dvd_refl _)]
theorem step_dbl (hi : ops[i]? = some o) (p j : Nat) (A B : Int) (hop : o.op = .call { callee := .value (.func 31), args := #[.tmp p], argTypes := ts })
    (hj : waits md ops i j p = true) (hFj : F j = EP A B) (hFi : F i = EP (dU A B) (dV A B)) : StepOk Tryd.prog md ops Q F a0 w0 i := by
  refine step_call hi _ _ ts hop en_dbl fun a w _ _ hF => ?_
  have ea := hF j p hj
  rw [hFj] at ea
  obtain ⟨x, y, e1, hx, hy⟩ := ea
  show Calls Tryd.prog 31 #[a.tmps.getD p undef] w _
  rw [e1]
  refine (l4Double_any w x y A B hx hy).mono ?_
  rintro r w' ⟨u, v, rfl, hu, hv, hn⟩
  exact ⟨_, rfl, hn, by rw [hFi]; exact ⟨u, v, rfl, hu, hv⟩⟩
theorem step_lsum (hi : ops[i]? = some o) (p q r j k l : Nat) (A B C D X : Int) (hop : o.op = .call { callee := .value (.func 30), args := #[.tmp p, .tmp q, .tmp r], argTypes := ts })
    (hj : waits md ops i j p = true) (hk : waits md ops i k q = true) (hl : waits md ops i l r = true) (hFj : F j = EP A B) (hFk : F k = EP C D) (hFl : F l = EL X) (hFi : F i = EP (sU A B C D) (sV X A B C D)) : StepOk Tryd.prog md ops Q F a0 w0 i := by
  refine step_call hi _ _ ts hop en_lsum fun a w _ _ hF => ?_
  have ea := hF j p hj
  have eb := hF k q hk
  have ec := hF l r hl
  rw [hFj] at ea
  rw [hFk] at eb
  rw [hFl] at ec
  obtain ⟨x, y, e1, hx, hy⟩ := ea
  obtain ⟨x', y', e2, hx', hy'⟩ := eb
  obtain ⟨z, e3, hz⟩ := ec
  show Calls Tryd.prog 30 #[a.tmps.getD p undef, a.tmps.getD q undef, a.tmps.getD r undef] w _
  rw [e1, e2, e3]
  refine (l4Sum_any w x y x' y' z A B C D X hx hy hx' hy' hz).mono ?_
  rintro r w' ⟨u, v, rfl, hu, hv, hn⟩
  exact ⟨_, rfl, hn, by rw [hFi]; exact ⟨u, v, rfl, hu, hv⟩⟩
end
/-- What the model answers. -/
def ladS (x K : Int) : Int := ladE x (fun i => kbit K (255 - i)) 256
def ladA (ks us : List Int) : List Int := if ks.length = 32 ∧ us.length = 32 then fill (byt (ladS (num (low7 us)) (num (clampL ks)) % PP)) 32 else []
theorem and1_8 : ∀ n : Fin 256, bits BinOp.and IntKind.u8 (n.val : Int) 1 = (n.val : Int) % 2 := by decide +kernel
theorem and1u (x : Int) (h0 : 0 ≤ x) (h1 : x < 256) : bits BinOp.and IntKind.u8 x 1 = x % 2 := by
  obtain ⟨n, rfl⟩ := Int.eq_ofNat_of_zero_le h0
  exact and1_8 ⟨n, by omega⟩
theorem top_len {top : List Int} {K : Int} (h : Canon top K) (hl : top.length ≤ 32) (hK : 28948022309329048855892746252171976963317496166410141009864396001978282409984 ≤ K) : top.length = 32 := by
  have h1 := bval_lt h.1
  rw [h.2.1] at h1
  rcases Nat.lt_or_ge top.length 32 with c | c
  · have h2 : (256 : Int) ^ top.length ≤ 256 ^ 31 := p256_le (by omega)
    have h3 : (256 : Int) ^ 31 = 452312848583266388373324160190187140051835877600158453279131187530910662656 := by decide
    omega
  · omega

set_option maxHeartbeats 8000000 in
theorem specLadder_any (w : World) (g g' : Nat) (a b : Option Addr) (c c' : Nat) (ks us : List Int) (hk : Rd w g a .u8 ks) (hu : Rd w g' b .u8 us) (bk : Byt ks) (bu : Byt us) (ck : a = none → c = 0) (cu : b = none → c' = 0) :
    Calls Tryd.prog 7 #[.slice a ks.length c, .slice b us.length c'] w fun e w' => NewRow w.heap.size w' e .u8 (ladA ks us) ∧ Below w.heap.size w w' := by
  have hal : Below w.heap.size w (w.alloc (.cells #[] 5)) := (Below.refl _ _).alloc (Nat.le_refl _) _
  by_cases h1 : ks.length = 32
  · by_cases h2 : us.length = 32
    · have t1 : ((ks.length : Int) != 32) = false := by simp [h1]
      have t2 : ((us.length : Int) != 32) = false := by simp [h2]
      have LK := hide h1
      have LU := hide h2
      have CK := hide (specClamp_any w g a c ks hk bk ck)
      have CPu := hide (fun w' n => l1Copy_any w' g' b c' us (hu.up n) cu (by omega))
      have KA : Hid (ladA ks us = fill (byt (ladS (num (low7 us)) (num (clampL ks)) % PP)) 32) := by show _ = _; unfold ladA; rw [if_pos ⟨h1, h2⟩]
      have CB := hide (clampL_byt bk h1)
      have CD := hide (clampL_bd bk h1)
      have CL := hide ((clampL_len ks).trans h1)
      have CA : Hid (clampA ks = clampL ks) := by show _ = _; unfold clampA; rw [if_pos h1]
      clear h1 h2 hk
      go_enter Tryd.func7, Tryd.ntmps7
      go_wp2_with fail
      refine CK.out.mono ?_
      rintro r w1 ⟨⟨a1, c1, g1, rfl, o1, p1, q1, r1⟩, n1⟩
      rw [CA.out] at o1 q1 ⊢
      clear CK CA
      go_wp2_with fail
      refine (l2Num_any w1 g1 a1 c1 (clampL ks) o1.rd CB.out (by rw [CL.out]; decide)).mono ?_
      rintro r w2 ⟨top, CT, lt', ⟨aT, cT, gT, rfl, oT, pT, qT, hT⟩, n2⟩
      have tl := hide (top_len CT (by rw [← CL.out]; exact lt') CD.out.1)
      have TB : Byt top := CT.1
      have TV : Hid (bval top = num (clampL ks)) := CT.2.1
      have N := nxt n1 n2
      clear CT lt' o1 p1 q1 r1 CB CL
      have hT' : w.heap.size ≤ gT := Nat.le_trans n1.size hT
      clear hT n1 n2
      rw [tl.out]
      go_wp2_with fail
      refine (CPu.out w2 N).mono ?_
      rintro r w3 ⟨⟨a6, c6, g6, rfl, o6, p6, q6, r6⟩, n3⟩
      have oT3 := oT.up n3
      replace N := nxt N n3
      have gl := oT.rd.lt (by rw [tl.out]; decide)
      have g6' : gT < g6 := Nat.lt_of_lt_of_le gl r6
      clear CPu n3 hu oT
      rw [LU.out] at q6 ⊢
      obtain ⟨off, rfl, oc⟩ := id o6 (by rw [LU.out]; decide)
      have x31 := (oc 31 (by rw [LU.out]; decide)).1
      have f31 := (oc 31 (by rw [LU.out]; decide)).2
      have b31 := bu 31
      have S6 := o6.store 31 (by rw [LU.out]; decide) (us.getD 31 0 % 128)
      have N6 : Below w.heap.size w (w3.setCell ⟨g6, off + 31, none⟩ (.int .u8 (us.getD 31 0 % 128))) := N.setCell (by show w.heap.size ≤ g6; omega) _
      have oT6 : Own (w3.setCell ⟨g6, off + 31, none⟩ (.int .u8 (us.getD 31 0 % 128))) gT aT .u8 top := fun h0 => oT3.of_block (heap_setCell_other _ ⟨g6, off + 31, none⟩ gT _ (by show gT ≠ g6; omega)) h0
      have FO : Hid (FrOk (w3.setCell ⟨g6, off + 31, none⟩ (.int .u8 (us.getD 31 0 % 128))) (some ⟨g6, off, none⟩) (low7 us)) := ⟨g6, S6.rd, low7_byt bu, (low7_len us).trans LU.out⟩
      clear oc o6 oT3 N S6
      generalize us.getD 31 0 = y31 at *
      obtain ⟨ys, hys⟩ : ∃ ys, ys = low7 us := ⟨_, rfl⟩
      rw [← hys] at FO KA
      clear hys
      go_upto_region 6 with fail
      generalize w3.setCell ⟨g6, off + 31, none⟩ (.int .u8 (y31 % 128)) = w6 at *
      clear x31 f31 b31
      refine region_new16 4 3 2 7 34 _ (fun i => [Fact.eq (.slice (some ⟨g6, off, none⟩) 32 c6), RN w6 (fun xs => xs = fill (byt (num ys % PP)) 32), EL (num ys), NB w6 16].getD i Fact.no) (num ys) (by kernel_rfl) rfl rfl rfl (by kernel_rfl) (by kernel_rfl) rfl rfl ?_ ?_
      · intro i hi
        obtain rfl | rfl | rfl | rfl : i = 0 ∨ i = 1 ∨ i = 2 ∨ i = 3 := by omega
        · exact step_mv rfl 6 rfl (by kernel_rfl) rfl rfl
        · exact step_fred rfl 32 0 rfl (by kernel_rfl) FO.out rfl rfl
        · exact step_ofn rfl 33 1 rfl (by kernel_rfl) rfl rfl
        · exact step_new16 rfl rfl rfl
      intro vs6 q7 W7 v7 l7 n E7 T7
      have g7 : gT < q7 := by
        have := oT6.rd.lt (by rw [tl.out]; decide)
        omega
      replace oT6 := oT6.up n
      replace N6 := nxt N6 n
      have z7 := there_lt (by omega) T7
      clear n FO T7
      simp only [puts, v7, Act.put, List.setIfInBounds_toArray, List.set_cons_succ, List.set_cons_zero]
      clear v7
      obtain ⟨X, hX⟩ : ∃ X, X = num ys := ⟨_, rfl⟩
      rw [← hX] at E7 KA
      clear hX
      go_upto_region 7 with fail
      refine region_new32 4 3 2 8 37 _ (fun i => [EL 1, EL 0, EP (1) (0), NB W7 32].getD i Fact.no) (1) (0) (by kernel_rfl) rfl rfl rfl (by kernel_rfl) (by kernel_rfl) rfl rfl ?_ ?_
      · intro i hi
        obtain rfl | rfl | rfl | rfl : i = 0 ∨ i = 1 ∨ i = 2 ∨ i = 3 := by omega
        · exact step_small rfl 1 (by omega) rfl rfl
        · exact step_small rfl 0 (by omega) rfl rfl
        · exact step_b32 rfl 35 36 0 1 _ _ rfl (by kernel_rfl) (by kernel_rfl) rfl rfl rfl
        · exact step_new32 rfl rfl rfl
      intro vs7 q8 W8 v8 l8 n E8 T8
      replace oT6 := oT6.up n
      replace E7 := E7.up n
      replace N6 := nxt N6 n
      have z8 := there_lt (by omega) T8
      clear n
      simp only [puts, v8, Act.put, List.setIfInBounds_toArray, List.set_cons_succ, List.set_cons_zero]
      clear v8
      go_upto_region 8 with fail
      refine region_new32 4 3 2 9 40 _ (fun i => [EL (X), EL 1, EP (X) (1), NB W8 32].getD i Fact.no) (X) (1) (by kernel_rfl) rfl rfl rfl (by kernel_rfl) (by kernel_rfl) rfl rfl ?_ ?_
      · intro i hi
        obtain rfl | rfl | rfl | rfl : i = 0 ∨ i = 1 ∨ i = 2 ∨ i = 3 := by omega
        · exact step_el rfl 36 7 rfl Go.Proofs.YtblkjpmkikhpbaaDoor.u50 i50 (by kernel_rfl) _ _ rfl _ E7 rfl
        · exact step_small rfl 1 (by omega) rfl rfl
        · exact step_b32 rfl 38 39 0 1 _ _ rfl (by kernel_rfl) (by kernel_rfl) rfl rfl rfl
        · exact step_new32 rfl rfl rfl
      intro vs8 q9 W9 v9 l9 n E9 T9
      replace oT6 := oT6.up n
      replace E7 := E7.up n
      replace E8 := E8.up n
      replace T8 := there_up (by omega) T8 n
      replace N6 := nxt N6 n
      clear n
      simp only [puts, v9, Act.put, List.setIfInBounds_toArray, List.set_cons_succ, List.set_cons_zero]
      clear v9
      have g8 : q7 < q8 := by omega
      have g9 : q8 < q9 := by omega
      have gw : w.heap.size < q7 := by omega
      clear l7 z7 l8 z8 l9 r6 q6 p6 hT'
      go_wp2
      go_loopw [10] (fun i wr => ∃ k : Nat, k ≤ 256 ∧ i = .int .i64 k ∧ Elt2 wr q8 (lrnds X (sbit top) k).a (lrnds X (sbit top) k).b ∧ wr.there q8 0 32 ∧ Elt2 wr q9 (lrnds X (sbit top) k).c (lrnds X (sbit top) k).d ∧ wr.there q9 0 32 ∧ Elt wr q7 0 X ∧ Own wr gT aT .u8 top ∧ Below w.heap.size w wr) (fun i _ => 256 - (intOf i).toNat)
      case atStart => exact ⟨0, by omega, rfl, E8, T8, E9, T9, E7, oT6, N6⟩
      case round =>
        clear E8 T8 E9 T9 E7 oT6 N6
        obtain ⟨k, hk, rfl, E8, T8, E9, T9, E7, oT, N⟩ := hrel
        by_cases hlt : k < 256
        · have k5 : (k : Int) < 256 := by omega
          have ST := hide (show lrnds X (sbit top) (k + 1) = lrnd X (sbit top k) (lrnds X (sbit top) k) from rfl)
          obtain ⟨s, hs⟩ : ∃ s, s = lrnds X (sbit top) k := ⟨_, rfl⟩
          rw [← hs] at E8 E9 ST
          clear hs
          go_upto_region 12 with fail
          refine region_new32 5 4 3 11 48 _ (fun i => [EP (s.a) (s.b), EP (s.c) (s.d), EL (X), EP (sU (s.a) (s.b) (s.c) (s.d)) (sV (X) (s.a) (s.b) (s.c) (s.d)), NB wr 32].getD i Fact.no) (sU (s.a) (s.b) (s.c) (s.d)) (sV (X) (s.a) (s.b) (s.c) (s.d)) (by kernel_rfl) rfl rfl rfl (by kernel_rfl) (by kernel_rfl) rfl rfl ?_ ?_
          · intro i hi
            obtain rfl | rfl | rfl | rfl | rfl : i = 0 ∨ i = 1 ∨ i = 2 ∨ i = 3 ∨ i = 4 := by omega
            · exact step_e2 rfl 8 rfl (by kernel_rfl) _ rfl E8 rfl
            · exact step_e2 rfl 9 rfl (by kernel_rfl) _ rfl E9 rfl
            · exact step_el rfl 36 7 rfl Go.Proofs.YtblkjpmkikhpbaaDoor.u50 i50 (by kernel_rfl) _ _ rfl _ E7 rfl
            · exact step_lsum rfl 45 46 47 0 1 2 _ _ _ _ _ rfl (by kernel_rfl) (by kernel_rfl) (by kernel_rfl) rfl rfl rfl rfl
            · exact step_new32 rfl rfl rfl
          intro vs12 q11 W12 v11 l11 n E11 T11
          have z9 := there_lt (by omega) T9
          replace oT := oT.up n
          replace E7 := E7.up n
          replace E8 := E8.up n
          replace T8 := there_up (by omega) T8 n
          replace E9 := E9.up n
          replace T9 := there_up (by omega) T9 n
          replace N := nxt N n
          have g11 : q9 < q11 := by omega
          clear n T11 z9 l11
          simp only [puts, v11, Act.put, List.setIfInBounds_toArray, List.set_cons_succ, List.set_cons_zero]
          clear v11
          obtain ⟨off2, hoff, oc⟩ := id oT (by rw [tl.out]; decide)
          obtain ⟨j, hj⟩ : ∃ j : Nat, k / 8 = j := ⟨_, rfl⟩
          obtain ⟨m, hm⟩ : ∃ m : Nat, 7 - k % 8 = m := ⟨_, rfl⟩
          have p1 : (k : Int) / 8 = (j : Int) := by omega
          have p3 : 7 - (k : Int) % 8 = (m : Int) := by omega
          have p4 : m ≤ 7 := by omega
          have j32 : j < 32 := by omega
          have cj := (oc j (by rw [tl.out]; exact j32)).1
          have BT : Hid (sbit top k = decide (top.getD j 0 / 2 ^ m % 2 = 1)) := by show _ = _; unfold sbit; rw [hj, hm]
          have xb := TB j
          have pm : (0 : Int) < 2 ^ m := Int.pow_pos (by decide)
          have v0 : 0 ≤ top.getD j 0 / 2 ^ m := Int.ediv_nonneg xb.1 (Int.le_of_lt pm)
          have v1 : top.getD j 0 / 2 ^ m < 256 := Int.lt_of_le_of_lt (Int.ediv_le_self _ xb.1) xb.2
          have e1 := and1u _ v0 v1
          clear hj hm oc
          generalize top.getD j 0 = x at *
          subst hoff
          by_cases hbit : x / 2 ^ m % 2 = 1
          · have tb1 : (x / 2 ^ m % 2 == 1) = true := by simp [hbit]
            have AC := hide (ST.out.trans (by rw [BT.out, decide_eq_true hbit]))
            clear ST BT hbit
            go_upto_region 14 with fail
            refine region_put32 1 0 8 61 _ (fun i => [EP (sU (s.a) (s.b) (s.c) (s.d)) (sV (X) (s.a) (s.b) (s.c) (s.d))].getD i Fact.no) (sU (s.a) (s.b) (s.c) (s.d)) (sV (X) (s.a) (s.b) (s.c) (s.d)) _ (by kernel_rfl) rfl rfl rfl (by kernel_rfl) rfl T8 (by kernel_rfl) rfl ?_ ?_
            · intro i hi
              obtain rfl : i = 0 := by omega
              exact step_e2 rfl 11 rfl (by kernel_rfl) _ rfl E11 rfl
            intro vs14 Wa W14 na bq E8n T8n nb
            replace N := nb w w.heap.size (nxt N na) (by omega)
            replace E9 := E9.but bq (by omega)
            replace T9 := there_but (by omega) T9 bq (by omega)
            replace E7 := E7.but bq (by omega)
            replace oT := oT.but4 bq (fun _ => by omega)
            clear na bq nb E8 T8 E11
            simp only [puts, Act.put, List.setIfInBounds_toArray, List.set_cons_succ, List.set_cons_zero]
            go_upto_region 15 with fail
            refine region_put32 2 1 9 63 _ (fun i => [EP (s.c) (s.d), EP (dU (s.c) (s.d)) (dV (s.c) (s.d))].getD i Fact.no) (dU (s.c) (s.d)) (dV (s.c) (s.d)) _ (by kernel_rfl) rfl rfl rfl (by kernel_rfl) rfl T9 (by kernel_rfl) rfl ?_ ?_
            · intro i hi
              obtain rfl | rfl : i = 0 ∨ i = 1 := by omega
              · exact step_e2 rfl 9 rfl (by kernel_rfl) _ rfl E9 rfl
              · exact step_dbl rfl 62 0 _ _ rfl (by kernel_rfl) rfl rfl
            intro vs15 Wb W15 na bq E9n T9n nb
            replace N := nb w w.heap.size (nxt N na) (by omega)
            replace E8n := E8n.but bq (by omega)
            replace T8n := there_but (by omega) T8n bq (by omega)
            replace E7 := E7.but bq (by omega)
            replace oT := oT.but4 bq (fun _ => by omega)
            clear na bq nb E9 T9
            simp only [puts, Act.put, List.setIfInBounds_toArray, List.set_cons_succ, List.set_cons_zero]
            go_wp2
            go_roundw
            case rel => exact ⟨k + 1, by omega, by go_num, by rw [AC.out]; exact E8n, T8n, by rw [AC.out]; exact E9n, T9n, E7, oT, N⟩
            case measure => simp [intOf]; omega
          · have tb1 : (x / 2 ^ m % 2 == 1) = false := by simp [hbit]
            have AC := hide (ST.out.trans (by rw [BT.out, decide_eq_false hbit]))
            clear ST BT hbit
            go_upto_region 16 with fail
            refine region_put32 2 1 8 65 _ (fun i => [EP (s.a) (s.b), EP (dU (s.a) (s.b)) (dV (s.a) (s.b))].getD i Fact.no) (dU (s.a) (s.b)) (dV (s.a) (s.b)) _ (by kernel_rfl) rfl rfl rfl (by kernel_rfl) rfl T8 (by kernel_rfl) rfl ?_ ?_
            · intro i hi
              obtain rfl | rfl : i = 0 ∨ i = 1 := by omega
              · exact step_e2 rfl 8 rfl (by kernel_rfl) _ rfl E8 rfl
              · exact step_dbl rfl 64 0 _ _ rfl (by kernel_rfl) rfl rfl
            intro vs16 Wa W16 na bq E8n T8n nb
            replace N := nb w w.heap.size (nxt N na) (by omega)
            replace E9 := E9.but bq (by omega)
            replace T9 := there_but (by omega) T9 bq (by omega)
            replace E7 := E7.but bq (by omega)
            replace E11 := E11.but bq (by omega)
            replace oT := oT.but4 bq (fun _ => by omega)
            clear na bq nb E8 T8
            simp only [puts, Act.put, List.setIfInBounds_toArray, List.set_cons_succ, List.set_cons_zero]
            go_upto_region 17 with fail
            refine region_put32 1 0 9 66 _ (fun i => [EP (sU (s.a) (s.b) (s.c) (s.d)) (sV (X) (s.a) (s.b) (s.c) (s.d))].getD i Fact.no) (sU (s.a) (s.b) (s.c) (s.d)) (sV (X) (s.a) (s.b) (s.c) (s.d)) _ (by kernel_rfl) rfl rfl rfl (by kernel_rfl) rfl T9 (by kernel_rfl) rfl ?_ ?_
            · intro i hi
              obtain rfl : i = 0 := by omega
              exact step_e2 rfl 11 rfl (by kernel_rfl) _ rfl E11 rfl
            intro vs17 Wb W17 na bq E9n T9n nb
            replace N := nb w w.heap.size (nxt N na) (by omega)
            replace E8n := E8n.but bq (by omega)
            replace T8n := there_but (by omega) T8n bq (by omega)
            replace E7 := E7.but bq (by omega)
            replace oT := oT.but4 bq (fun _ => by omega)
            clear na bq nb E9 T9
            simp only [puts, Act.put, List.setIfInBounds_toArray, List.set_cons_succ, List.set_cons_zero]
            go_wp2
            go_roundw
            case rel => exact ⟨k + 1, by omega, by go_num, by rw [AC.out]; exact E8n, T8n, by rw [AC.out]; exact E9n, T9n, E7, oT, N⟩
            case measure => simp [intOf]; omega
        · obtain rfl : k = 256 := by omega
          have EE : Hid (ladS X (num (clampL ks)) = (lrnds X (sbit top) 256).a * iv (lrnds X (sbit top) 256).b) := by
            show _ = _
            unfold ladS ladE
            rw [show lrnds X (fun i => kbit (num (clampL ks)) (255 - i)) 256 = lrnds X (sbit top) 256 from lrnds_congr X _ _ 256 (fun i hi => by rw [sbit_k TB tl.out hi, TV.out])]
            rfl
          obtain ⟨s, hs⟩ : ∃ s, s = lrnds X (sbit top) 256 := ⟨_, rfl⟩
          rw [← hs] at E8 E9 EE
          clear hs
          go_upto_region 18 with fail
          refine region_end 8 (fun i => [Fact.eq (.pointer (some ⟨q8, 0, none⟩)), EL (s.a), Fact.eq (.pointer (some ⟨q8, 16, none⟩)), EL (s.b), EL (iv (s.b)), EL ((s.a) * (iv (s.b))), RN wr (fun xs => xs = fill (byt (((s.a) * (iv (s.b))) % PP)) 32), RN wr (fun xs => xs = fill (byt (((s.a) * (iv (s.b))) % PP)) 32)].getD i Fact.no) (by kernel_rfl) (by kernel_rfl) rfl ?_ ?_
          · intro i hi
            obtain rfl | rfl | rfl | rfl | rfl | rfl | rfl | rfl : i = 0 ∨ i = 1 ∨ i = 2 ∨ i = 3 ∨ i = 4 ∨ i = 5 ∨ i = 6 ∨ i = 7 := by omega
            · exact step_fld rfl 40 8 0 rfl (by kernel_rfl) _ _ rfl (fx32 _) rfl
            · exact step_elf rfl 36 67 0 rfl Go.Proofs.YtblkjpmkikhpbaaDoor.u50 i50 (by kernel_rfl) _ _ rfl _ E8.x rfl
            · exact step_fld rfl 40 8 1 rfl (by kernel_rfl) _ _ rfl (fy32 _) rfl
            · exact step_elf rfl 36 69 2 rfl Go.Proofs.YtblkjpmkikhpbaaDoor.u50 i50 (by kernel_rfl) _ _ rfl _ E8.y rfl
            · exact step_inv rfl 70 3 _ rfl (by kernel_rfl) rfl rfl
            · exact step_mul rfl 68 71 1 4 _ _ rfl (by kernel_rfl) (by kernel_rfl) rfl rfl rfl
            · exact step_bytes rfl 72 5 _ rfl (by kernel_rfl) rfl rfl
            · exact step_move rfl 73 6 (by exact Or.inr rfl) (by kernel_rfl) rfl
          intro aa W18 hb hw hF
          have e2 := hF 7 4 (by kernel_rfl)
          obtain ⟨vs, hvs⟩ : ∃ vs : Nat → Value, ∀ d, aa.tmps.getD d undef = vs d := ⟨_, fun _ => rfl⟩
          rw [hvs] at e2
          rw [puts_of (md := .any) (k := 8) (by kernel_rfl) rfl hb vs hvs]
          have N9 := nxt N hw
          have z := N.size
          clear hb hF hvs hw
          obtain ⟨zs, bb, dd, hh, e3, o3, l3, rfl, k1, k2⟩ := e2
          simp only [puts, e3, Act.put, List.setIfInBounds_toArray, List.set_cons_succ, List.set_cons_zero]
          rw [← EE.out] at o3 k2 e3 ⊢
          rw [← KA.out] at o3 k2 e3 ⊢
          clear E7 E8 E9 T8 T9 oT N EE KA e3
          go_wp2
          go_ret
          exact ⟨⟨bb, dd, hh, rfl, o3, k1, k2, by omega⟩, N9⟩
    · have t1 : ((ks.length : Int) != 32) = false := by simp [h1]
      have t2 : ((us.length : Int) != 32) = true := by simp; omega
      have K : Hid (ladA ks us = []) := by show _ = _; unfold ladA; rw [if_neg (fun h => h2 h.2)]
      clear h1 h2
      go_enter Tryd.func7, Tryd.ntmps7
      go_wp2
      go_ret
      rw [K.out]
      exact ⟨newRow_lit _ _, hal⟩
  · have t1 : ((ks.length : Int) != 32) = true := by simp; omega
    have K : Hid (ladA ks us = []) := by show _ = _; unfold ladA; rw [if_neg (fun h => h1 h.1)]
    clear h1
    go_enter Tryd.func7, Tryd.ntmps7
    go_wp2
    go_ret
    rw [K.out]
    exact ⟨newRow_lit _ _, hal⟩
end Go.Proofs.YtblkjpmkikhpbaaDoor
