
/-
  The model's DecodeItems.
-/
import Derived.Test.YtgmnnmlbmibabaaIrC
import Derived.Test.YtgmnnmlbmibabaaDiS
namespace Go.Proofs.Ytgmnnmlbmibabaa
open Go Go.RowKit

theorem itZ_nat (xs : List Int) (k : Nat) : itZ xs (k : Int) = itA xs k := by
  unfold itZ
  rw [if_pos (by omega)]
  rfl
theorem IRow.below {w w' : World} {B C : Nat} {v : Value} {its : List (Int × List Int)} {bs : List Plc} (h : IRow w B v its bs) (n : Below w.heap.size w w') (hC : C ≤ B) : IRow w' C v its bs := by
  have R := h.of (w' := w') (fun k hk _ => n.block k hk)
  exact ⟨⟨R.o.1, by
      rcases R.o.2 with h' | ⟨g, cap, cur, e1, hbg, h3⟩
      · exact .inl h'
      · exact .inr ⟨g, cap, cur, e1, by omega, h3⟩⟩, R.l, R.b, fun i hi h0 => ⟨by have := (R.h i hi h0).1; omega, (R.h i hi h0).2⟩, R.d⟩

set_option maxHeartbeats 400000 in
theorem specDecodeItems_any (w : World) (g : Nat) (a : Option Addr) (c : Nat) (xs : List Int) (hr : Rd w g a .u8 xs) (hb : Byt xs) (hc : xs.length ≤ c) (hn : xs.length ≤ 1048576) :
    Calls Try.prog 5 #[.slice a xs.length c] w fun e w' => NewI w.heap.size w' e (itsF xs 1000 0) ∧ Below w.heap.size w w' := by
  have n0 : Below w.heap.size w (w.alloc (.cells #[.bool false, .slice none 0 0] 25)) := (Below.refl _ _).alloc (Nat.le_refl _) _
  have T0 := Tl.new w (.bool false) (.slice none 0 0) 25
  have z0 : (w.alloc (.cells #[.bool false, .slice none 0 0] 25)).heap.size = w.heap.size + 1 := by simp
  have T2 := hide (T0.up ((Below.refl _ _).alloc (Nat.le_refl _) (.cells #[.bool true, .slice none 0 0] 25)))
  have V1 := Tl.new (w.alloc (.cells #[.bool false, .slice none 0 0] 25)) (.bool true) (.slice none 0 0) 25
  have N2 : Hid (Below w.heap.size w ((w.alloc (.cells #[.bool false, .slice none 0 0] 25)).alloc (.cells #[.bool true, .slice none 0 0] 25))) := n0.alloc (by simp) _
  rw [z0] at V1
  have V2 := hide V1
  have Z2 : Hid (w.heap.size + 2 ≤ ((w.alloc (.cells #[.bool false, .slice none 0 0] 25)).alloc (.cells #[.bool true, .slice none 0 0] 25)).heap.size) := by show _ ≤ _; simp
  have HR := hide hr
  have HN := hide (And.intro hc hn)
  clear n0 T0 z0 V1 hr hc hn
  go_enter Try.func5, Try.ntmps5
  go_wp2_with fail
  generalize (w.alloc (.cells #[.bool false, .slice none 0 0] 25)).alloc (.cells #[.bool true, .slice none 0 0] 25) = W2 at *
  go_loopw [4] (fun q wr => ∃ (k : Nat) (its : List (Int × List Int)) (bs : List Plc) (v : Value), q = .int .i64 k ∧ k ≤ xs.length ∧ its.length ≤ 1000 ∧ IRow wr (w.heap.size + 2) v its bs ∧ Hid (Ahd xs its k) ∧ Tl wr (w.heap.size + 1) (.bool true) v ∧ Tl wr w.heap.size (.bool false) (.slice none 0 0) ∧ Below w.heap.size w wr ∧ w.heap.size + 2 ≤ wr.heap.size) (fun i _ => xs.length - (intOf i).toNat)
  case atStart => exact ⟨0, [], [], _, rfl, Nat.zero_le _, by simp, IRow.nil _ _, Ahd.zero xs, V2.out, T2.out, N2.out, Z2.out⟩
  case round =>
    clear V2 T2 N2 Z2
    obtain ⟨k, its, bs, v, rfl, hk, hl, R, A, V, T, N, Z⟩ := hrel
    obtain ⟨ra, rc, rfl, -⟩ := R.slice
    by_cases hlt : k < xs.length
    · have t0 : decide ((k : Int) < (xs.length : Int)) = true := by simp; omega
      have DI := hide (specDecodeItem_any wr g a c xs k (HR.out.up N) hb HN.out.1 HN.out.2)
      have HL := hide hl
      have HLT := hide hlt
      have RL := hide R
      have VL := hide V
      have TL := hide T
      have NL := hide N
      have ZL := hide Z
      clear R V T N Z hl hlt hk
      go_wp2_with fail
      refine DI.out.mono ?_
      rintro r w2 ⟨⟨ba, bc, bq, rfl, O2, O3, O4, O5⟩, n2⟩
      clear DI
      have s2 := n2.size
      have hZ := ZL.out
      rw [itZ_nat] at *
      cases hit : itA xs k with
      | none =>
        have FU := hide (A.out.bad (by have := HLT.out; omega) hit)
        have n3 : Below w2.heap.size w2 (w2.alloc (.cells #[.bool false, .int .i64 0, .slice ba 0 bc, .int .i64 0] 42)) := (Below.refl _ _).alloc (Nat.le_refl _) _
        have F3 := Fo.new w2 (.bool false) (.int .i64 0) (.slice ba 0 bc) (.int .i64 0) 42
        have c0 := F3.c0
        have T3 := (TL.out.up n2).up n3
        have d0 := T3.c0
        have d1 := T3.c1
        have g0 := T3.fr 0
        have g1 := T3.fr 1
        have T4 := hide ((T3.set0 (.bool false)).set1 (.slice none 0 0))
        have O4' := only_set2 (w2.alloc (.cells #[.bool false, .int .i64 0, .slice ba 0 bc, .int .i64 0] 42)) w.heap.size (.bool false) (.slice none 0 0)
        have N4 := hide ((nxt (nxt NL.out n2) n3).trans (O4'.below (Nat.le_refl _)))
        clear O4' F3 T3 n3 O2 O3 O4 O5 n2 hit
        simp only [diT, dtT, dbT, dnT, Option.isSome_none, List.length_nil]
        go_wp2
        exact bodyPost_ret (v := .agg #[.bool false, .slice none 0 0]) (by simp [results, Try.results5, go_sem, T4.out.c0, T4.out.c1]) rfl ⟨by rw [FU.out]; exact ⟨_, [], rfl, IRow.nil _ _⟩, N4.out⟩
      | some o =>
        obtain ⟨t, s, n⟩ := o
        have bd := itA_bd hb hit
        have BL : ((xs.drop s).take n).length = n := by rw [List.length_take, List.length_drop]; omega
        have O2' : Lie w2 ((xs.drop s).take n) ⟨ba, bc, bq⟩ := by
          rw [hit] at O2 O4
          exact ⟨O2, O3, O4⟩
        obtain ⟨H, eH⟩ : ∃ H : Int, H = ((s + n : Nat) : Int) := ⟨_, rfl⟩
        have n3 : Below w2.heap.size w2 (w2.alloc (.cells #[.bool true, .int .i64 t, .slice ba n bc, .int .i64 H] 42)) := (Below.refl _ _).alloc (Nat.le_refl _) _
        have F3 := Fo.new w2 (.bool true) (.int .i64 t) (.slice ba n bc) (.int .i64 H) 42
        have z3 : (w2.alloc (.cells #[.bool true, .int .i64 t, .slice ba n bc, .int .i64 H] 42)).heap.size = w2.heap.size + 1 := by simp
        have c0 := F3.c0
        have T3 := (TL.out.up n2).up n3
        have V3 := (VL.out.up n2).up n3
        have N3 := nxt (nxt NL.out n2) n3
        have k3 : ∀ i, i < wr.heap.size → (w2.alloc (.cells #[.bool true, .int .i64 t, .slice ba n bc, .int .i64 H] 42)).heap[i]? = wr.heap[i]? := fun i hi => (n3.block i (by omega)).trans (n2.block i hi)
        have R3 := RL.out.of (w' := w2.alloc (.cells #[.bool true, .int .i64 t, .slice ba n bc, .int .i64 H] 42)) (fun i hi _ => k3 i hi)
        have L3 := O2'.of (w' := w2.alloc (.cells #[.bool true, .int .i64 t, .slice ba n bc, .int .i64 H] 42)) (fun h0 => n3.block _ (O2'.o.rd.lt h0))
        have v1 := V3.c1
        simp only [diT, dtT, dbT, dnT, Option.isSome_some, BL]
        rw [← eH]
        have EH := hide eH
        clear eH
        by_cases hf : its.length = 1000
        · have FU := hide (A.out.full hf (by have := HLT.out; omega))
          have t1 : ((its.length : Int) == 1000) = true := by simp; omega
          have t2 : decide ((its.length : Int) = 1000) = true := by simp; omega
          have d0 := T3.c0
          have d1 := T3.c1
          have g0 := T3.fr 0
          have g1 := T3.fr 1
          have T4 := hide ((T3.set0 (.bool false)).set1 (.slice none 0 0))
          have O4' := only_set2 (w2.alloc (.cells #[.bool true, .int .i64 t, .slice ba n bc, .int .i64 H] 42)) w.heap.size (.bool false) (.slice none 0 0)
          have N4 := hide (N3.trans (O4'.below (Nat.le_refl _)))
          clear O4' F3 T3 n3 O2 O3 O4 O5 n2 hit bd BL O2' V3 N3 R3 L3 hf k3 z3 s2 hZ
          generalize its.length = m at *
          go_upto_region 5 with fail
          generalize w2.alloc (.cells #[.bool true, .int .i64 t, .slice ba n bc, .int .i64 H] 42) = w3 at *
          go_wp2
          exact bodyPost_ret (v := .agg #[.bool false, .slice none 0 0]) (by simp [results, Try.results5, go_sem, T4.out.c0, T4.out.c1]) rfl ⟨by rw [FU.out]; exact ⟨_, [], rfl, IRow.nil _ _⟩, N4.out⟩
        · have t1 : ((its.length : Int) == 1000) = false := by simp; omega
          have t2 : decide ((its.length : Int) = 1000) = false := by simp; omega
          have c1 := F3.c1
          have c2 := F3.c2
          have hl := HL.out
          obtain ⟨v', w4, a1, a2, a3, a4⟩ := R3.app (t, (xs.drop s).take n) ⟨ba, bc, bq⟩ (by omega) L3 wr.heap.size (by omega) (fun i hi h0 => RL.out.lt hi h0) (fun i hi => (RL.out.o.lt i hi).2) O5 (by omega)
          obtain ⟨ra', rc', ev, -⟩ := a2.slice
          have F4 := F3.of_block (a3 w2.heap.size (by omega) (fun e => by have := (RL.out.o.lt _ e).2; omega))
          have V4 := V3.of_block (a4.block (w.heap.size + 1) (by omega))
          have T4 := T3.of_block (a4.block w.heap.size (by omega))
          have N4 := N3.trans (a4.mono (show w.heap.size ≤ w.heap.size + 2 by omega))
          have s4 := a4.size
          have x1 := V4.c1
          have y1 := V4.fr 1
          have V5 := V4.set1 v'
          have O5' := Only.setCell w4 (w.heap.size + 1) 1 v'
          have T5 := T4.only O5' (by omega)
          have F5 := F4.only O5' (by omega)
          have N5 := N4.trans (O5'.below (by omega))
          have R5 := a2.of (w' := w4.setCell ⟨w.heap.size + 1, 1, none⟩ v') (fun i hi hB => O5'.block i (by omega))
          have s5 : w.heap.size + 2 ≤ (w4.setCell ⟨w.heap.size + 1, 1, none⟩ v').heap.size := by have := O5'.size; omega
          have c5 := F5.c3
          have A5 := hide (A.out.step (by omega) (by have := HLT.out; omega) hit)
          have LE := hide (show (its ++ [(t, (xs.drop s).take n)]).length ≤ 1000 by simp; omega)
          have FIN := hide (And.intro R5 (And.intro V5 (And.intro T5 (And.intro N5 s5))))
          have BD := hide (show s + n ≤ xs.length by omega)
          have MM := hide (show xs.length - (s + n) < xs.length - k by have := HLT.out; omega)
          simp only [BL] at a1
          clear a2 a3 a4 F4 V4 T4 N4 s4 V5 O5' T5 F5 N5 R5 s5 F3 V3 T3 N3 R3 L3 n3 n2 O2 O3 O4 O5 O2' bd BL k3 hit hf hl s2 hZ z3
          generalize (its ++ [(t, (xs.drop s).take n)]).length = m' at ev
          subst ev
          generalize its.length = m at *
          go_upto_region 5 with fail
          generalize w2.alloc (.cells #[.bool true, .int .i64 t, .slice ba n bc, .int .i64 H] 42) = w3 at *
          go_wp2_with (at_builtin; refine Lib.wpList_append_run _ rfl _ _ 23 23 rfl _ _ rfl rfl _ _ a1 ?_)
          clear a1
          go_wp2
          go_roundw
          case rel => exact ⟨s + n, _, _, _, by rw [EH.out], BD.out, LE.out, FIN.out.1, A5, FIN.out.2.1, FIN.out.2.2.1, FIN.out.2.2.2.1, FIN.out.2.2.2.2⟩
          case measure => simp [intOf, EH.out]; have := MM.out; omega
    · obtain rfl : k = xs.length := by omega
      have t0 : decide ((xs.length : Int) < (xs.length : Int)) = false := by simp
      have EN := hide A.out.end'
      have v0 := V.c0
      have v1 := V.c1
      have d0 := T.c0
      have d1 := T.c1
      have g0 := T.fr 0
      have g1 := T.fr 1
      have T4 := hide ((T.set0 (.bool true)).set1 (.slice ra its.length rc))
      have O4 := only_set2 wr w.heap.size (.bool true) (.slice ra its.length rc)
      have N4 := hide (N.trans (O4.below (Nat.le_refl _)))
      have R4 := hide ((R.of (w' := (wr.setCell ⟨w.heap.size, 0, none⟩ (.bool true)).setCell ⟨w.heap.size, 1, none⟩ (.slice ra its.length rc)) (fun i hi hB => O4.block i (by omega))).below (Below.refl _ _) (show w.heap.size ≤ w.heap.size + 2 by omega))
      clear O4 R N T V Z hk hl hlt A
      go_wp2
      exact bodyPost_ret (v := .agg #[.bool true, .slice ra its.length rc]) (by simp [results, Try.results5, go_sem, T4.out.c0, T4.out.c1]) rfl ⟨by rw [EN.out]; exact ⟨_, bs, rfl, R4.out⟩, N4.out⟩
end Go.Proofs.Ytgmnnmlbmibabaa
