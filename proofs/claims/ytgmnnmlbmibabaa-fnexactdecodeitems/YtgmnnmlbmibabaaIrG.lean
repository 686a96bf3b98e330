
/-
  The law of DecodeItems (written by gens/irg.py).
-/
import Derived.Test.YtgmnnmlbmibabaaIrF
namespace Go.Proofs.Ytgmnnmlbmibabaa
open Go Go.RowKit

theorem itsF_bd {xs : List Int} : ∀ (f i : Nat) (its : List (Int × List Int)), itsF xs f i = some its → its.length ≤ f ∧ ∀ x ∈ its, x.2.length ≤ xs.length
  | 0, i, its, h => by
    unfold itsF at h
    split at h
    · obtain rfl := Option.some.inj h
      simp
    · cases h
  | f + 1, i, its, h => by
    unfold itsF at h
    split at h
    · obtain rfl := Option.some.inj h
      simp
    · split at h
      · cases h
      · rename_i t s n hi
        cases hr : itsF xs f (s + n) with
        | none => rw [hr] at h; cases h
        | some l =>
          rw [hr] at h
          obtain rfl := Option.some.inj h
          have := itsF_bd f (s + n) l hr
          refine ⟨by simp; omega, fun x hx => ?_⟩
          rcases List.mem_cons.1 hx with rfl | hx
          · show ((xs.drop s).take n).length ≤ _
            rw [List.length_take, List.length_drop]
            omega
          · exact this.2 x hx
theorem its_bd (xs : List Int) (hx : xs.length ≤ 1048576) : ((itsF xs 1000 0).getD []).length ≤ 1000 ∧ ∀ i, i < ((itsF xs 1000 0).getD []).length → (((itsF xs 1000 0).getD []).getD i (0, [])).2.length ≤ 1048576 := by
  cases h : itsF xs 1000 0 with
  | none => simp
  | some l =>
    have := itsF_bd 1000 0 l h
    refine ⟨this.1, fun i hi => ?_⟩
    have hi' : i < l.length := hi
    have hm : (l.getD i (0, [])) ∈ l := by simp [hi']
    exact Nat.le_trans (this.2 _ hm) hx
/-- A row between two places of memory. -/
structure IRm (w : World) (B M : Nat) (v : Value) (its : List (Int × List Int)) (bs : List Plc) : Prop where
  r : IRow w B v its bs
  o : ∀ k, v.ownBlock = some k → k < M
  q : ∀ i, i < its.length → 0 < (its.getD i (0, [])).2.length → (bs.getD i plc0).q < M
theorem IRow.m {w : World} {B : Nat} {v : Value} {its : List (Int × List Int)} {bs : List Plc} (h : IRow w B v its bs) : IRm w B w.heap.size v its bs := ⟨h, fun k hk => (h.o.lt k hk).2, fun _ hi h0 => h.lt hi h0⟩
theorem IRm.keep {w w' : World} {B M : Nat} {v : Value} {its : List (Int × List Int)} {bs : List Plc} (h : IRm w B M v its bs) (hb : ∀ k, B ≤ k → k < M → w'.heap[k]? = w.heap[k]?) : IRm w' B M v its bs := by
  refine ⟨⟨⟨h.r.o.1, ?_⟩, h.r.l, fun i hi => ?_, h.r.h, h.r.d⟩, h.o, h.q⟩
  · rcases h.r.o.2 with h' | ⟨g, cap, cur, rfl, hbg, hg, hnc, hcm, hcs, ht⟩
    · exact .inl h'
    · exact .inr ⟨g, cap, cur, rfl, hbg, by rw [hb g hbg (h.o g rfl)]; exact hg, hnc, hcm, hcs, ht⟩
  · exact (h.r.b i hi).of fun h0 => hb _ (h.r.h i hi h0).1 (h.q i hi h0)
theorem IRm.up {w w' : World} {B M : Nat} {v : Value} {its : List (Int × List Int)} {bs : List Plc} (h : IRm w B M v its bs) (n : Below w.heap.size w w') (hM : M ≤ w.heap.size) : IRm w' B M v its bs := h.keep (fun k _ hk => n.block k (by omega))
theorem NewI.at {B : Nat} {w : World} {e : Ending} {o : Option (List (Int × List Int))} (h : NewI B w e o) : ∃ a c bs, e = .returned (.agg #[.bool o.isSome, .slice a (o.getD []).length c]) ∧ IRm w B w.heap.size (.slice a (o.getD []).length c) (o.getD []) bs := by
  obtain ⟨v, bs, he, R⟩ := h
  obtain ⟨a, c, rfl, -⟩ := R.slice
  exact ⟨a, c, bs, he, R.m⟩
theorem Btw.tl {B M p : Nat} {w w' : World} {x y : Value} (n : Btw B M w w') (h : Tl w p x y) (hp : p < B ∨ M ≤ p) : Tl w' p x y := h.of_block (n.block p hp)
theorem Btw.below {B M C : Nat} {w w' : World} (n : Btw B M w w') (h : C ≤ B) : Below C w w' := ⟨n.os, n.tape, n.output, Nat.le_of_eq n.size.symm, fun k hk => n.block k (by omega)⟩

set_option maxHeartbeats 1000000 in
theorem markItemList_any (w : World) (t : Bool) (B M : Nat) (a : Option Addr) (c : Nat) (its : List (Int × List Int)) (bs : List Plc) (h : IRm w B M (.slice a its.length c) its bs) (hM : M ≤ w.heap.size) (hl : its.length ≤ 1000) (hn : ∀ i, i < its.length → (its.getD i (0, [])).2.length ≤ 1048576) :
    Calls Try.prog 11 #[.agg #[.bool t, .slice a its.length c], .int .i64 1] w fun e w' => e = .returned (.int .i64 (psI its 1 its.length)) ∧ Mkd w' (.slice a its.length c) its bs 1 ∧ ∃ w1, Below w.heap.size w w1 ∧ Btw B M w1 w' := by
  have n1 : Below w.heap.size w (w.alloc (.cells #[.bool t, .slice a its.length c] 25)) := (Below.refl _ _).alloc (Nat.le_refl _) _
  have R1 := h.up n1 hM
  have MK := hide (markItemS_any _ B M _ its bs 1 R1.r hl hn R1.o R1.q (by decide) (by decide))
  clear h hM hl hn R1
  go_enter Try.func11, Try.ntmps11
  go_wp2_with fail
  refine MK.out.mono ?_
  rintro e w2 ⟨rfl, o2, O2⟩
  go_wp2
  go_ret
  exact ⟨rfl, o2, _, n1, O2⟩
set_option maxHeartbeats 1000000 in
theorem heldItemList_any (w : World) (t : Bool) (a : Option Addr) (c : Nat) (its : List (Int × List Int)) (bs : List Plc) (hs : 0 < its.length → ∃ g, a = some ⟨g, 0, none⟩) (h : Mkd w (.slice a its.length c) its bs 1) (hl : its.length ≤ 1000) (hn : ∀ i, i < its.length → (its.getD i (0, [])).2.length ≤ 1048576) :
    Calls Try.prog 12 #[.agg #[.bool t, .slice a its.length c], .int .i64 1] w fun e w' => e = .returned (.int .i64 (psI its 1 its.length)) ∧ Below w.heap.size w w' := by
  have n1 : Below w.heap.size w (w.alloc (.cells #[.bool t, .slice a its.length c] 25)) := (Below.refl _ _).alloc (Nat.le_refl _) _
  have HE := hide (heldItemS_any _ _ its bs 1 ⟨a, c, rfl, hs⟩ (h.up n1) hl hn (by decide) (by decide))
  have t1 : decide (psI its 1 its.length < 0) = false := by have := (psI_bd (n := 1) (by decide) hn its.length (Nat.le_refl _)).1; simp; omega
  clear h hl hn hs
  go_enter Try.func12, Try.ntmps12
  go_wp2_with fail
  refine HE.out.mono ?_
  rintro e w2 ⟨rfl, hw⟩
  have hw := hw.symm
  subst hw
  go_wp2
  go_ret
  exact ⟨rfl, n1⟩

set_option maxRecDepth 100000 in
set_option maxHeartbeats 8000000 in
theorem decItems_law (w : World) (g0 : Nat) (a0 : Option Addr) (c0 : Nat) (X0 : List Int) (hX0 : Rd w g0 a0 .u8 X0) (bX0 : Byt X0) :
    Calls Try.prog 3 #[.slice a0 X0.length c0] w fun e w' => e = .returned (.bool true) ∧ Below w.heap.size w w' := by
  by_cases q0 : X0.length ≤ 1048576
  · have u0 : decide ((1048576 : Int) < (X0.length : Int)) = false := by simp; omega
    have SP := fun W g a c h (k : X0.length ≤ c) => specDecodeItems_any W g a c X0 h bX0 k q0
    have IM := fun W g a c h (p : a = none → c = 0) (k : X0.length ≤ c) => implDecodeItems_any W g a c X0 h bX0 p k q0
    obtain ⟨hl, hy⟩ := its_bd X0 q0
    have Z0 := (psI_bd (n := 1) (by decide) hy _ (Nat.le_refl _)).1
    obtain ⟨o, ho⟩ : ∃ o, o = itsF X0 1000 0 := ⟨_, rfl⟩
    simp only [← ho] at SP IM hl hy Z0
    clear ho
    obtain ⟨its, hi⟩ : ∃ its, its = o.getD [] := ⟨_, rfl⟩
    have NA : ∀ {B : Nat} {w : World} {e : Ending}, NewI B w e o → ∃ a c bs, e = .returned (.agg #[.bool o.isSome, .slice a its.length c]) ∧ IRm w B w.heap.size (.slice a its.length c) its bs := by rw [hi]; exact fun h => h.at
    rw [← hi] at hl hy Z0
    clear hi
    obtain ⟨tb, htb⟩ : ∃ b, b = o.isSome := ⟨_, rfl⟩
    simp only [← htb] at NA
    clear htb
    have HL := hide hl
    have HY := hide hy
    have v2 : decide (psI its 1 its.length < 0) = false := by simp; omega
    clear hl hy Z0
    go_enter Try.func3, Try.ntmps3
    have N : Below w.heap.size w w := Below.refl _ _
    go_wp2_with fail
    refine (toByteS_any w g0 a0 c0 X0 (hX0.up N) q0).mono ?_
    rintro e w1 ⟨rfl, A0, m1⟩
    have lA0 := A0.lt
    have zm1 := m1.size
    replace N := nxt N m1
    clear m1
    go_wp2_with fail
    refine (SP w1 _ _ _ A0.own0.rd (Nat.le_refl _)).mono ?_
    rintro e w2 ⟨NR, m2⟩
    obtain ⟨aS, cS, bS, rfl, RS⟩ := NA NR
    clear NR
    have zm2 := m2.size
    replace A0 := A0.up m2
    replace N := nxt N m2
    clear m2
    clear A0
    have TS := Tl.new w2 (.bool tb) (.slice aS its.length cS) 25
    have m3 : Below w2.heap.size w2 (w2.alloc (.cells #[.bool tb, .slice aS its.length cS] 25)) := (Below.refl _ _).alloc (Nat.le_refl _) _
    have lS := TS.lt
    have zm3 := m3.size
    replace RS := RS.up m3 (by omega)
    replace N := nxt N m3
    go_wp2_with fail
    generalize w2.alloc (.cells #[.bool tb, .slice aS its.length cS] 25) = w3 at *
    clear m3
    refine (toByteS_any w3 g0 a0 c0 X0 (hX0.up N) q0).mono ?_
    rintro e w4 ⟨rfl, B0, m4⟩
    have lB0 := B0.lt
    have zm4 := m4.size
    replace RS := RS.up m4 (by omega)
    replace TS := TS.up m4
    replace N := nxt N m4
    clear m4
    go_wp2_with fail
    refine (IM w4 _ _ _ B0.own0.rd (by simp) (Nat.le_refl _)).mono ?_
    rintro e w5 ⟨NR, m5⟩
    obtain ⟨aI, cI, bI, rfl, RI⟩ := NA NR
    clear NR
    have zm5 := m5.size
    replace RS := RS.up m5 (by omega)
    replace TS := TS.up m5
    replace B0 := B0.up m5
    replace N := nxt N m5
    clear m5
    have TI := Tl.new w5 (.bool tb) (.slice aI its.length cI) 25
    have m6 : Below w5.heap.size w5 (w5.alloc (.cells #[.bool tb, .slice aI its.length cI] 25)) := (Below.refl _ _).alloc (Nat.le_refl _) _
    have lI := TI.lt
    have zm6 := m6.size
    replace RS := RS.up m6 (by omega)
    replace TS := TS.up m6
    replace B0 := B0.up m6
    replace RI := RI.up m6 (by omega)
    replace N := nxt N m6
    have TSc0 := TS.c0
    have TSc1 := TS.c1
    have TIc0 := TI.c0
    have TIc1 := TI.c1
    go_wp2_with fail
    generalize w5.alloc (.cells #[.bool tb, .slice aI its.length cI] 25) = w6 at *
    clear m6
    clear TSc0 TSc1 TIc0 TIc1
    refine (eqItemList_same w6 tb _ _ _ _ its _ _ RI.r RS.r HL.out HY.out).mono ?_
    rintro e w7 ⟨rfl, m7⟩
    have zm7 := m7.size
    replace RS := RS.up m7 (by omega)
    replace TS := TS.up m7
    replace B0 := B0.up m7
    replace RI := RI.up m7 (by omega)
    replace TI := TI.up m7
    replace N := nxt N m7
    clear m7
    go_wp2_with fail
    refine (toByteS_any w7 g0 a0 c0 X0 (hX0.up N) q0).mono ?_
    rintro e w8 ⟨rfl, E0, m8⟩
    have lE0 := E0.lt
    have zm8 := m8.size
    replace RS := RS.up m8 (by omega)
    replace TS := TS.up m8
    replace B0 := B0.up m8
    replace RI := RI.up m8 (by omega)
    replace TI := TI.up m8
    replace N := nxt N m8
    clear m8
    go_wp2_with fail
    refine (eqByteS_same w8 _ _ _ _ _ _ X0 B0.own0.rd E0.own0.rd q0).mono ?_
    rintro e w9 ⟨rfl, m9⟩
    have zm9 := m9.size
    replace RS := RS.up m9 (by omega)
    replace TS := TS.up m9
    replace B0 := B0.up m9
    replace RI := RI.up m9 (by omega)
    replace TI := TI.up m9
    replace E0 := E0.up m9
    replace N := nxt N m9
    clear m9 E0
    go_wp2_with fail
    refine (markByteS_any w9 _ _ _ X0 (1) B0.own0 q0 (by omega) (by omega)).mono ?_
    rintro e w10 ⟨rfl, -, O0⟩
    replace RS := RS.keep (fun k _ hk => O0.block k (by omega))
    replace RI := RI.keep (fun k hk _ => O0.block k (by omega))
    replace TS := TS.only O0 (by omega)
    replace TI := TI.only O0 (by omega)
    replace N := N.trans (O0.below (B := w.heap.size) (by omega))
    have z10 : w9.heap.size ≤ w10.heap.size := Nat.le_of_eq O0.size.symm
    clear O0 B0
    have v1 : decide (1 + (X0.length : Int) < 0) = false := by simp; omega
    have TSc0 := TS.c0
    have TSc1 := TS.c1
    have TIc0 := TI.c0
    have TIc1 := TI.c1
    go_wp2_with fail
    clear TSc0 TSc1 TIc0 TIc1
    refine (eqItemList_same w10 tb _ _ _ _ its _ _ RI.r RS.r HL.out HY.out).mono ?_
    rintro e w11 ⟨rfl, m11⟩
    have zm11 := m11.size
    replace RS := RS.up m11 (by omega)
    replace TS := TS.up m11
    replace RI := RI.up m11 (by omega)
    replace TI := TI.up m11
    replace N := nxt N m11
    clear m11
    have TSc0 := TS.c0
    have TSc1 := TS.c1
    have TIc0 := TI.c0
    have TIc1 := TI.c1
    go_wp2_with fail
    clear TSc0 TSc1 TIc0 TIc1
    refine (markItemList_any w11 tb _ _ _ _ its bI RI (by omega) HL.out HY.out).mono ?_
    rintro e w12 ⟨rfl, MK, wA, nA, OA⟩
    have zA := nA.size
    have yA := OA.size
    have HSH : Hid (0 < its.length → ∃ g, aI = some ⟨g, 0, none⟩) := by obtain ⟨x, y, eS, SH⟩ := RI.r.shape; injection eS with e1 e2 e3; rw [e1]; exact SH
    replace RS := (RS.up nA (by omega)).keep (fun k _ hk => OA.block k (Or.inl (by omega)))
    replace TS := OA.tl (TS.up nA) (Or.inl (by omega))
    replace TI := OA.tl (TI.up nA) (Or.inr (by omega))
    replace N := (nxt N nA).trans (OA.below (by omega))
    have z12 : w11.heap.size ≤ w12.heap.size := by omega
    clear OA nA RI zA yA
    have TSc0 := TS.c0
    have TSc1 := TS.c1
    have TIc0 := TI.c0
    have TIc1 := TI.c1
    go_wp2_with fail
    clear TSc0 TSc1 TIc0 TIc1
    refine (heldItemList_any w12 tb _ _ its bI HSH.out MK HL.out HY.out).mono ?_
    rintro e w13 ⟨rfl, m13⟩
    have zm13 := m13.size
    replace RS := RS.up m13 (by omega)
    replace TS := TS.up m13
    replace TI := TI.up m13
    replace MK := MK.up m13
    replace N := nxt N m13
    clear m13
    go_wp2_with fail
    refine (toByteS_any w13 g0 a0 c0 X0 (hX0.up N) q0).mono ?_
    rintro e w14 ⟨rfl, D0, m14⟩
    have lD0 := D0.lt
    have zm14 := m14.size
    replace RS := RS.up m14 (by omega)
    replace TS := TS.up m14
    replace TI := TI.up m14
    replace MK := MK.up m14
    replace N := nxt N m14
    clear m14
    go_wp2_with fail
    refine (IM w14 _ _ _ D0.own0.rd (by simp) (Nat.le_refl _)).mono ?_
    rintro e w15 ⟨NR, m15⟩
    obtain ⟨aJ, cJ, bJ, rfl, RJ⟩ := NA NR
    clear NR
    have zm15 := m15.size
    replace RS := RS.up m15 (by omega)
    replace TS := TS.up m15
    replace TI := TI.up m15
    replace MK := MK.up m15
    replace D0 := D0.up m15
    replace N := nxt N m15
    clear m15
    have TJ := Tl.new w15 (.bool tb) (.slice aJ its.length cJ) 25
    have m16 : Below w15.heap.size w15 (w15.alloc (.cells #[.bool tb, .slice aJ its.length cJ] 25)) := (Below.refl _ _).alloc (Nat.le_refl _) _
    have lJ := TJ.lt
    have zm16 := m16.size
    replace RS := RS.up m16 (by omega)
    replace TS := TS.up m16
    replace TI := TI.up m16
    replace MK := MK.up m16
    replace D0 := D0.up m16
    replace RJ := RJ.up m16 (by omega)
    replace N := nxt N m16
    have TSc0 := TS.c0
    have TSc1 := TS.c1
    have TIc0 := TI.c0
    have TIc1 := TI.c1
    have TJc0 := TJ.c0
    have TJc1 := TJ.c1
    go_wp2_with fail
    generalize w15.alloc (.cells #[.bool tb, .slice aJ its.length cJ] 25) = w16 at *
    clear m16
    clear TSc0 TSc1 TIc0 TIc1 TJc0 TJc1
    refine (eqItemList_same w16 tb _ _ _ _ its _ _ RJ.r RS.r HL.out HY.out).mono ?_
    rintro e w17 ⟨rfl, m17⟩
    have zm17 := m17.size
    replace RS := RS.up m17 (by omega)
    replace TS := TS.up m17
    replace TI := TI.up m17
    replace MK := MK.up m17
    replace D0 := D0.up m17
    replace RJ := RJ.up m17 (by omega)
    replace TJ := TJ.up m17
    replace N := nxt N m17
    clear m17
    have TSc0 := TS.c0
    have TSc1 := TS.c1
    have TIc0 := TI.c0
    have TIc1 := TI.c1
    have TJc0 := TJ.c0
    have TJc1 := TJ.c1
    go_wp2_with fail
    clear TSc0 TSc1 TIc0 TIc1 TJc0 TJc1
    refine (heldItemList_any w17 tb _ _ its bI HSH.out MK HL.out HY.out).mono ?_
    rintro e w18 ⟨rfl, m18⟩
    have zm18 := m18.size
    replace RS := RS.up m18 (by omega)
    replace TS := TS.up m18
    replace TI := TI.up m18
    replace MK := MK.up m18
    replace D0 := D0.up m18
    replace RJ := RJ.up m18 (by omega)
    replace TJ := TJ.up m18
    replace N := nxt N m18
    clear m18
    go_wp2
    go_ret
    exact ⟨rfl, N⟩
  · have u0 : decide ((1048576 : Int) < (X0.length : Int)) = true := by simp; omega
    go_enter Try.func3, Try.ntmps3
    go_wp2
    go_ret
    exact ⟨rfl, Below.refl _ _⟩
end Go.Proofs.Ytgmnnmlbmibabaa
