import Derived.Test.YtbhmhkimddjhaaaDoorGR31
import Derived.Test.YtbhmhkimddjhaaaDoorGR37
import Derived.Test.YtbhmhkimddjhaaaDoorGR13
/-
  The model's FieldRoot.
-/
namespace Go.Proofs.YtbhmhkimddjhaaaDoor
set_option maxRecDepth 100000
open Go.RowKit

abbrev Z16 : Obj := .cells #[.int .i64 0, .int .i64 0, .int .i64 0, .int .i64 0, .int .i64 0, .int .i64 0, .int .i64 0, .int .i64 0, .int .i64 0, .int .i64 0, .int .i64 0, .int .i64 0, .int .i64 0, .int .i64 0, .int .i64 0, .int .i64 0] 70
theorem blkZ (W : World) : Blk (W.alloc Z16) W.heap.size .i64 (ls16 (fun _ => 0)) := by
  have h := blk16 W 70 (fun _ => 0)
  exact h
theorem thZ (W : World) : (W.alloc Z16).there W.heap.size 0 16 := there16 (blkZ W)
/-- What the model's root answers. -/
def RootS (A : Int) (r : Ending) : Prop := (r1S A * r1S A % PP = A ∧ ∃ t, r = .returned (.tuple #[.bool true, ag16 t]) ∧ L16 t ∧ s16 t 16 % PP = fin2 (r1S A)) ∨ (¬ r1S A * r1S A % PP = A ∧ ∃ t, r = .returned (.tuple #[.bool false, ag16 t]))
theorem l2Root_any (w : World) (f : Nat → Int) (hf : L16 f) :
    Calls Tryd.prog 70 #[ag16 f] w fun r w' => RootS (s16 f 16 % PP) r ∧ Below w.heap.size w w' := by
  refine (l2RootF_any w f hf (s16 f 16) rfl).mono ?_
  rintro r w' ⟨t, rfl, L, V, n⟩
  refine ⟨?_, n⟩
  have bd := r1S_bd (s16 f 16 % PP)
  by_cases h : r1S (s16 f 16 % PP) * r1S (s16 f 16 % PP) % PP = s16 f 16 % PP
  · have e : rootB (s16 f 16) = true := decide_eq_true h
    refine .inl ⟨h, t, by rw [e], L, ?_⟩
    rw [V, rootV, if_pos e]
    unfold fin2
    split
    · exact Int.emod_eq_of_lt bd.1 bd.2
    · exact Int.emod_emod_of_dvd _ (Int.dvd_refl _)
  · have e : rootB (s16 f 16) = false := decide_eq_false h
    exact .inr ⟨h, t, by rw [e]⟩
theorem rootS_tells {xs : List Int} (hl : xs.length = 32) {r : Ending} (h : RootS (num xs % PP) r) :
    (frB xs = true ∧ ∃ t, r = .returned (.tuple #[.bool true, ag16 t]) ∧ L16 t ∧ fill (byt (s16 t 16 % PP)) 32 = frL xs) ∨ (frB xs = false ∧ frL xs = [] ∧ ∃ t, r = .returned (.tuple #[.bool false, ag16 t])) := by
  have h0 : 0 ≤ num xs % PP := Int.emod_nonneg _ (by decide)
  have h1 : num xs % PP < PP := Int.emod_lt_of_pos _ (by decide)
  have S := same_root h0 h1
  rcases h with ⟨gg, t, rfl, L, V⟩ | ⟨gg, t, rfl⟩
  · have KB : frB xs = true := by unfold frB; rw [decide_eq_true hl, decide_eq_true (S.1.mpr gg)]; rfl
    refine .inl ⟨KB, t, rfl, L, ?_⟩
    rw [V, frL, if_pos KB, S.2 gg]
  · have KB : frB xs = false := by unfold frB; rw [decide_eq_true hl, decide_eq_false (fun e => gg (S.1.mp e))]; rfl
    exact .inr ⟨KB, by rw [frL, if_neg (by rw [KB]; simp)], t, rfl⟩

set_option maxHeartbeats 4000000 in
theorem specFieldRoot_any (w : World) (g : Nat) (a : Option Addr) (c : Nat) (xs : List Int) (hr : Rd w g a .u8 xs) (hb : Byt xs) :
    Calls Tryd.prog 32 #[.slice a xs.length c] w fun e w' => NewRes w.heap.size w' e (frB xs) (frL xs) ∧ Below w.heap.size w w' := by
  have hal : Below w.heap.size w (w.alloc (.cells #[.bool false, .slice none 0 0] 41)) := (Below.refl _ _).alloc (Nat.le_refl _) _
  have T0 := Two.new w (.bool false) (.slice none 0 0) 41
  by_cases hl : xs.length = 32
  · have t0 : ((xs.length : Int) != 32) = false := by simp; omega
    have hbt : Bt (fun j => xs.getD j 0) := hb
    have LO := of16_ok hbt
    have VO : s16 (of16 (fun j => xs.getD j 0)) 16 % PP = num xs % PP := by rw [of16_val, num, hl]
    have OF := fun W n => l2Of_any W g a c xs (hr.up n) hb hl
    have RT := fun W => l2Root_any W (of16 (fun j => xs.getD j 0)) LO
    rw [VO] at RT
    have TL := fun r (h : RootS (num xs % PP) r) => rootS_tells hl h
    simp only [show ∀ f, ag16 f = .agg (a16 f) from fun _ => rfl] at OF RT TL
    generalize a16 (of16 (fun j => xs.getD j 0)) = F at *
    rw [hl] at t0 ⊢
    have HL := hide hl
    clear hl hb hr LO VO hbt
    have u50' := Go.Proofs.YtbhmhkimddjhaaaDoor.u50
    go_enter Tryd.func32, Tryd.ntmps32
    go_wp2_with fail
    generalize w.alloc (.cells #[.bool false, .slice none 0 0] 41) = wa at *
    refine (OF wa hal).mono ?_
    rintro r w1 ⟨rfl, n1⟩
    have N1 := nxt hal n1
    go_wp2_with fail
    refine (RT w1).mono ?_
    rintro r w2 ⟨RO, n2⟩
    have N2 := nxt N1 n2
    have T2 := (T0.up n1).up n2
    have R := TL r RO
    clear OF RT TL RO T0 n1 n2 N1 hal
    have B3 := blkZ w2
    have n3 : Below w2.heap.size w2 (w2.alloc Z16) := (Below.refl _ _).alloc (Nat.le_refl _) _
    rcases R with ⟨KB, t, rfl, LT, FL⟩ | ⟨KB, KL, t, rfl⟩
    · have R3 := R16.set t (thZ w2)
      have iT : (Tryd.prog.info? 70).map (·.size) = some (a16 t).toList.length := by
        have : (a16 t).toList.length = 16 := by simp [ls16]
        rw [this]; exact i50
      have len : Hid ((a16 t).size = 16) := a16_size t
      have one := a16_one t
      have n4 : Below w2.heap.size w2 ((w2.alloc Z16).setCells w2.heap.size 0 (a16 t).toList) := below_setCells (Nat.le_refl _) _ _ _ n3
      have rng := R3.1
      have th := thZ w2
      have BY := fun W => l2Bytes_any W t LT
      rw [FL] at BY
      simp only [show ag16 t = .agg (a16 t) from rfl] at BY
      generalize a16 t = T at *
      clear FL LT R3 B3 n3
      go_wp2_with (first
        | (refine wpList_store_mid rfl 70 (.tmp 4) (.tmp 14) rfl w2.heap.size 0 T rfl rfl (by rw [len.out]; exact th) (by rw [len.out]; exact i50) one ?_)
        | (refine wpList_load_mid rfl 70 (.tmp 4) rfl w2.heap.size 0 rfl T.toList (.array 16 2) rng u50' rfl iT ?_)
        | fail)
      generalize (w2.alloc Z16).setCells w2.heap.size 0 T.toList = w3 at *
      refine (BY w3).mono ?_
      rintro r w4 ⟨⟨a4, c4, g4, rfl, o4, p4, q4, r4⟩, n5⟩
      have N4 := nxt (nxt N2 n4) n5
      obtain ⟨c0, c1, f0, f1⟩ := (T2.up n4).up n5
      have z4 := (nxt N2 n4).size
      have z2 := T2.lt
      have z3 := n4.size
      have O := (Only.setCell w4 w.heap.size 0 (.bool true)).trans (Only.setCell _ w.heap.size 1 (.slice a4 (frL xs).length c4))
      have o5 := o4.only O (fun _ => by omega)
      have N5 := N4.trans (O.below (Nat.le_refl _))
      clear BY n4 n5 T2 N2 O o4 N4
      go_wp2
      refine bodyPost_ret (v := .agg #[.bool true, .slice a4 (frL xs).length c4]) (by simp [results, Tryd.results32, go_sem, c0, c1]) rfl ⟨?_, N5⟩
      rw [KB]
      exact ⟨a4, c4, g4, rfl, o5, p4, q4, by omega⟩
    · have th := thZ w2
      have n4 : Below w2.heap.size w2 ((w2.alloc Z16).setCells w2.heap.size 0 (a16 t).toList) := below_setCells (Nat.le_refl _) _ _ _ n3
      have len : Hid ((a16 t).size = 16) := a16_size t
      have one := a16_one t
      generalize a16 t = T at *
      have N3 := nxt N2 n4
      obtain ⟨c0, c1, f0, f1⟩ := T2.up n4
      clear B3 n3
      go_wp2_with (first
        | (refine wpList_store_mid rfl 70 (.tmp 4) (.tmp 14) rfl w2.heap.size 0 T rfl rfl (by rw [len.out]; exact th) (by rw [len.out]; exact i50) one ?_)
        | fail)
      generalize (w2.alloc Z16).setCells w2.heap.size 0 T.toList = w3 at *
      refine bodyPost_ret (v := .agg #[.bool false, .slice none 0 0]) (by simp [results, Tryd.results32, go_sem, c0, c1]) rfl ⟨?_, ?_⟩
      · rw [KB, KL]
        exact NewRes.none (by simp [World.setCell]; have := N3.size; omega)
      · exact (N3.setCell (Nat.le_refl _) _).setCell (Nat.le_refl _) _
  · have KB : Hid (frB xs = false) := by show _ = _; unfold frB; rw [decide_eq_false hl]; rfl
    have KL : Hid (frL xs = []) := by show _ = _; rw [frL, if_neg (by rw [KB.out]; simp)]
    have t0 : ((xs.length : Int) != 32) = true := by simp; omega
    obtain ⟨c0, c1, f0, f1⟩ := T0
    clear hl
    go_enter Tryd.func32, Tryd.ntmps32
    go_upto_region 1 with fail
    generalize w.alloc (.cells #[.bool false, .slice none 0 0] 41) = wa at *
    go_wp2
    refine bodyPost_ret (v := .agg #[.bool false, .slice none 0 0]) (by simp [results, Tryd.results32, go_sem, c0, c1]) rfl ⟨?_, ?_⟩
    · rw [KB.out, KL.out]
      exact NewRes.none (by simp [World.setCell]; have := hal.size; omega)
    · exact (hal.setCell (Nat.le_refl _) _).setCell (Nat.le_refl _) _
end Go.Proofs.YtbhmhkimddjhaaaDoor
/-
  The law of FieldRoot.
-/
namespace Go.Proofs.YtbhmhkimddjhaaaDoor
set_option maxRecDepth 100000
open Go.RowKit

set_option maxHeartbeats 4000000 in
theorem fieldRoot_law (w : World) (g : Nat) (a : Option Addr) (ca : Nat) (xs : List Int) (ha : Rd w g a .u8 xs) (hx : Byt xs) (hR : HasR w) :
    Calls Tryd.prog 8 #[.slice a xs.length ca] w fun e w' => e = .returned (.bool true) ∧ Below w.heap.size w w' := by
  by_cases h1 : xs.length ≤ 1048576
  · have t1 : decide ((1048576 : Int) < (xs.length : Int)) = false := by simp; omega
    have hy : (frL xs).length ≤ 1048576 := by have := frL_len xs; omega
    have SP := fun w g a c h => specFieldRoot_any w g a c xs h hx
    have IM := fun w g a c h s => implFieldRoot_any w g a c xs h hx s
    obtain ⟨t, ht⟩ : ∃ t, t = frB xs := ⟨_, rfl⟩
    obtain ⟨ys, hys⟩ : ∃ ys, ys = frL xs := ⟨_, rfl⟩
    simp only [← hys, ← ht] at SP IM hy
    clear hys ht
    go_enter Tryd.func8, Tryd.ntmps8
    go_wp2_with fail
    refine (toByteS_any w g a ca xs ha h1).mono ?_
    rintro e w1 ⟨rfl, B1, n1⟩
    have l1 := B1.lt
    go_wp2_with fail
    refine (SP w1 _ _ _ B1.own0.rd).mono ?_
    rintro e w3 ⟨NR, n3⟩
    obtain ⟨a3, c3, g3, rfl, o3, p3, q3, r3⟩ := NR.at (B' := w.heap.size) (by omega) (by have := n3.size; omega)
    have N3 := nxt n1 n3
    have T5 := Two.new w3 (.bool t) (.slice a3 ys.length c3) 41
    have n4 : Below w3.heap.size w3 (w3.alloc (.cells #[.bool t, .slice a3 ys.length c3] 41)) := (Below.refl _ _).alloc (Nat.le_refl _) _
    have z4 : (w3.alloc (.cells #[.bool t, .slice a3 ys.length c3] 41)).heap.size = w3.heap.size + 1 := by simp
    clear B1 n1 n3 NR
    go_wp2_with fail
    generalize w3.alloc (.cells #[.bool t, .slice a3 ys.length c3] 41) = w4 at *
    have N4 := nxt N3 n4
    have o4 := o3.up n4
    have Z4 := hide z4
    clear z4 o3 n4
    refine (toByteS_any w4 g a ca xs (ha.up N4) h1).mono ?_
    rintro e w5 ⟨rfl, B5, n5⟩
    have N5 := nxt N4 n5
    have l5 := B5.lt
    go_wp2_with fail
    refine (IM w5 _ _ _ B5.own0.rd (hR.up N5)).mono ?_
    rintro e w7 ⟨NR, n7⟩
    obtain ⟨a7, c7, g7, rfl, o7, p7, q7, r7⟩ := NR.at (B' := w4.heap.size) (by have := n5.size; omega) (by have := n7.size; have := n5.size; omega)
    have N7 := nxt N5 n7
    have T8 := Two.new w7 (.bool t) (.slice a7 ys.length c7) 41
    have n8 : Below w7.heap.size w7 (w7.alloc (.cells #[.bool t, .slice a7 ys.length c7] 41)) := (Below.refl _ _).alloc (Nat.le_refl _) _
    have s5 := n5.size
    have s7 := n7.size
    have n47 := nxt n5 n7
    have o7a := o4.up n47
    have T5a := T5.up n47
    have B7x := B5.up n7
    clear o4 T5 B5 n5 n7 n47 N4 N5 NR
    have T5b := T5a.up n8
    have c50 := T5b.c0
    have c51 := T5b.c1
    have c50' := T5a.c0
    have c51' := T5a.c1
    have l37 : w3.heap.size < w7.heap.size := T5a.lt
    go_wp2_with fail
    generalize w7.alloc (.cells #[.bool t, .slice a7 ys.length c7] 41) = w8 at *
    have N8 := nxt N7 n8
    have o3b := o7a.up n8
    have o7b := o7.up n8
    have Bx := B7x.up n8
    have lp8 := T8.lt
    clear T5a o7a o7 B7x n8 N7 c50 c51 c50' c51'
    refine (eqRootResult_same w8 t _ _ _ _ _ _ ys o7b.rd o3b.rd hy).mono ?_
    rintro e w9 ⟨rfl, n9⟩
    have N9 := nxt N8 n9
    go_wp2_with fail
    refine (toByteS_any w9 g a ca xs (ha.up N9) h1).mono ?_
    rintro e wA ⟨rfl, BA, nA⟩
    have n8A := nxt n9 nA
    go_wp2_with fail
    refine (eqByteS_same wA _ _ _ _ _ _ xs (Bx.up n8A).own0.rd BA.own0.rd h1).mono ?_
    rintro e wB ⟨rfl, nB⟩
    have n8B := nxt n8A nB
    have ND := nxt N8 n8B
    have T5d := T5b.up n8B
    have T8d := T8.up n8B
    have o3d := o3b.up n8B
    have o7d := o7b.up n8B
    have Bxd := Bx.up n8B
    clear BA n9 nA nB n8A N9 n8B N8 T5b T8 o3b o7b Bx
    have sN := N3.size
    go_wp2_with fail
    have z4 := Z4.out
    refine (markByteS_any wB _ _ _ xs 1 Bxd.own0 h1 (by decide) (by decide)).mono ?_
    rintro e wF ⟨rfl, _, OF⟩
    have NF := ND.trans (OF.below (B := w.heap.size) (by omega))
    have T5f := T5d.only OF (by omega)
    have T8f := T8d.only OF (by omega)
    have o3f := o3d.only OF (fun _ => by omega)
    have o7f := o7d.only OF (fun h => by have := r7 h; omega)
    have t3 : decide ((1 : Int) + (xs.length : Int) < 0) = false := by simp; omega
    have c50 := T5f.c0
    have c51 := T5f.c1
    have c80 := T8f.c0
    have c81 := T8f.c1
    clear Bxd T5d T8d o3d o7d ND OF z4
    go_wp2_with fail
    refine (eqRootResult_same wF t _ _ _ _ _ _ ys o7f.rd o3f.rd hy).mono ?_
    rintro e wG ⟨rfl, nG⟩
    have NG := nxt NF nG
    have T5g := T5f.up nG
    have T8g := T8f.up nG
    have o3g := o3f.up nG
    have o7g := o7f.up nG
    clear c50 c51 c80 c81 T5f T8f o3f o7f NF nG
    have c80 := T8g.c0
    have c81 := T8g.c1
    go_wp2_with fail
    refine (markRootResult_any wG t g7 _ _ ys 1 o7g hy (by decide) (by decide)).mono ?_
    rintro e wH ⟨rfl, oH, OH⟩
    have z4 := Z4.out
    have sG := NG.size
    have NH := NG.trans (OH.below (B := w.heap.size) (by omega) (by omega))
    have T5h := T5g.but OH (by omega)
    have T8h := T8g.but OH (by omega)
    have o3h := o3g.but OH (fun _ => by omega)
    clear c80 c81 T5g T8g o3g o7g NG OH z4 sG
    have c80 := T8h.c0
    have c81 := T8h.c1
    have t4 : decide ((1 : Int) + (ys.length : Int) < 0) = false := by simp; omega
    go_wp2_with fail
    refine (heldRootResult_any wH t g7 _ _ ys.length 1 oH.rd hy (by decide) (by decide)).mono ?_
    rintro e wI ⟨rfl, nI⟩
    have NI := nxt NH nI
    clear c80 c81
    go_wp2_with fail
    refine (toByteS_any wI g a ca xs (ha.up NI) h1).mono ?_
    rintro e wJ ⟨rfl, BJ, nJ⟩
    have NJ := nxt NI nJ
    go_wp2_with fail
    refine (IM wJ _ _ _ BJ.own0.rd (hR.up NJ)).mono ?_
    rintro e wL ⟨⟨aL, cL, gL, rfl, oL, _, _, _⟩, nL⟩
    have NL := nxt NJ nL
    have nHL := nxt (nxt nI nJ) nL
    have T5l := T5h.up nHL
    have T8l := T8h.up nHL
    have o3l := o3h.up nHL
    have oHl := oH.up nHL
    clear BJ T5h T8h o3h oH nI nJ nL nHL NI NJ NH
    have nM : Below wL.heap.size wL (wL.alloc (.cells #[.bool t, .slice aL ys.length cL] 41)) := (Below.refl _ _).alloc (Nat.le_refl _) _
    have T5m := T5l.up nM
    have c50 := T5m.c0
    have c51 := T5m.c1
    have c50' := T5l.c0
    have c51' := T5l.c1
    have l3L : w3.heap.size < wL.heap.size := T5l.lt
    go_wp2_with fail
    have NM := nxt NL nM
    have T8m := T8l.up nM
    have o3m := o3l.up nM
    have oLm := oL.up nM
    have oHm := oHl.up nM
    generalize wL.alloc (.cells #[.bool t, .slice aL ys.length cL] 41) = wM at *
    clear T5l T8l o3l oL oHl nM NL c50 c51 c50' c51'
    refine (eqRootResult_same wM t _ _ _ _ _ _ ys oLm.rd o3m.rd hy).mono ?_
    rintro e wN ⟨rfl, nN⟩
    have T8n := T8m.up nN
    have c80 := T8n.c0
    have c81 := T8n.c1
    go_wp2_with fail
    refine (heldRootResult_any wN t g7 _ _ ys.length 1 (oHm.up nN).rd hy (by decide) (by decide)).mono ?_
    rintro e wO ⟨rfl, nO⟩
    go_wp2
    go_ret
    exact ⟨rfl, nxt (nxt NM nN) nO⟩
  · have t1 : decide ((1048576 : Int) < (xs.length : Int)) = true := by simp; omega
    go_enter Tryd.func8, Tryd.ntmps8
    go_wp2
    go_ret
    exact ⟨rfl, Below.refl _ _⟩
end Go.Proofs.YtbhmhkimddjhaaaDoor
