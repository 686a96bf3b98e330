
/-
  The model's CutRecords (written by gens/crs.py).
-/
import Derived.Test.YtcempddbcfigbaaDoorCrQ
import Derived.Test.YtcempddbcfigbaaDoorNbS
import Derived.Test.YtcempddbcfigbaaDoorCrU
namespace Go.Proofs.YtcempddbcfigbaaDoor
set_option maxRecDepth 100000
open Go Go.RowKit

/-- Where the model's loop stands. -/
structure SSt (w wr : World) (xs : List Int) (k : Nat) (its : List (Int × List Int)) (bs : List Plc) (v : Value) : Prop where
  A : Ahc xs its k
  R : IRow wr (w.heap.size + 2) v its bs
  T : RwC wr (w.heap.size + 1) [.int .i64 0, v, .slice none 0 0] 36
  U : RwC wr w.heap.size [.int .i64 0, .slice none 0 0, .slice none 0 0] 36
  N : Below w.heap.size w wr
theorem SSt.up {w wr w' : World} {xs : List Int} {k : Nat} {its : List (Int × List Int)} {bs : List Plc} {v : Value} (h : SSt w wr xs k its bs v) (n : Below wr.heap.size wr w') : SSt w w' xs k its bs v :=
  ⟨h.A, h.R.of (fun i hi _ => n.block i hi), h.T.up n, h.U.up n, nxt h.N n⟩
theorem SSt.app {w wr w9 : World} {xs : List Int} {k : Nat} {its : List (Int × List Int)} {bs : List Plc} {v : Value} {ad : Option Addr} {cd p0 : Nat} (h : SSt w wr xs k its bs v) (hb : Byt xs) (hn : xs.length ≤ 1048576) (ht : rcT (xs.drop k) = 0) (b9 : Below wr.heap.size wr w9) (hp : RwC w9 p0 [.int .i64 (rcK (xs.drop k)), .slice ad (rcB (xs.drop k)).length cd] 27) (hR : RowB w9 wr.heap.size (.slice ad (rcB (xs.drop k)).length cd) (rcB (xs.drop k))) :
    ∃ v' w4, (Builtin.append_ #[34, 34] 34 #[v, .slice (some ⟨p0, 0, none⟩) 1 1]).run Tryd.prog w9 = .ok v' w4 ∧ w4.cell? ⟨w.heap.size + 1, 1, none⟩ = some v ∧ w4.frozen? ⟨w.heap.size + 1, 1, none⟩ = false ∧
      ∃ its' bs', SSt w (w4.setCell ⟨w.heap.size + 1, 1, none⟩ v') xs (k + (3 + rcN (xs.drop k))) its' bs' v' := by
  have L := rcT_len (byt_drop hb k) ht
  have Al := h.A.l
  have Ak := h.A.k
  obtain ⟨a, c, gd, ev', O1, O2, O3, O4⟩ := hR.own
  simp only [Value.slice.injEq, true_and] at ev'
  obtain ⟨rfl, rfl⟩ := ev'
  have LI : Lie w9 (rcB (xs.drop k)) ⟨ad, cd, gd⟩ := ⟨O1, O2, O3⟩
  have h9 := h.up b9
  have z9 := b9.size
  have zT := h.T.lt
  obtain ⟨v', w4, r1, r2, r3, r4, -⟩ := h9.R.appQ (rcK (xs.drop k), rcB (xs.drop k)) ⟨ad, cd, gd⟩ p0 hp (by omega) LI wr.heap.size (by omega) (fun i hi h0 => h.R.lt hi h0) (fun i hi => (h.R.o.lt i hi).2) O4 (by omega)
  have T4 : RwC w4 (w.heap.size + 1) [.int .i64 0, v, .slice none 0 0] 36 := (r4.block _ (by omega)).trans h9.T
  have U4 : RwC w4 w.heap.size [.int .i64 0, .slice none 0 0, .slice none 0 0] 36 := (r4.block _ (by omega)).trans h9.U
  have O5 := Only.setCell w4 (w.heap.size + 1) 1 v'
  exact ⟨v', w4, r1, T4.c1, T4.free 1, _, _, ⟨h.A.step hb ht, r2.of (fun i hi hB => O5.block i (by omega)), T4.set 1 v', U4.onl O5 (by omega), (h9.N.trans (r4.mono (show w.heap.size ≤ w.heap.size + 2 by omega))).trans (O5.below (by omega))⟩⟩
/-- A row of one record. -/
def NBr (b : Nat) (x : Int) (D : List Int) : Fact := ⟨fun v w => ∃ p a c, v = .slice (some ⟨p, 0, none⟩) 1 1 ∧ RwC w p [.int .i64 x, .slice a D.length c] 27 ∧ RowB w b (.slice a D.length c) D, fun n h => by
  obtain ⟨p, a, c, e, r, q⟩ := h
  exact ⟨p, a, c, e, r.up n, q.up n⟩⟩
set_option maxHeartbeats 8000000 in
theorem specCut_any (w : World) (g off c : Nat) (xs : List Int) (hr : Rd w g (some ⟨g, off, none⟩) .u8 xs) (hb : Byt xs) (hc : xs.length ≤ c) (hn : xs.length ≤ 1048576) :
    Calls Tryd.prog 15 #[.slice (some ⟨g, off, none⟩) xs.length c] w fun e w' => NewC w.heap.size w' e xs ∧ Below w.heap.size w w' := by
  obtain ⟨d1, hd1, hrow1⟩ := rowRl
  have n0 : Below w.heap.size w (w.alloc (.cells #[.int .i64 0, .slice none 0 0, .slice none 0 0] 36)) := (Below.refl _ _).alloc (Nat.le_refl _) _
  have U0 : RwC (w.alloc (.cells #[.int .i64 0, .slice none 0 0, .slice none 0 0] 36)) w.heap.size [.int .i64 0, .slice none 0 0, .slice none 0 0] 36 := RwC.new w _ _
  have z0 : (w.alloc (.cells #[.int .i64 0, .slice none 0 0, .slice none 0 0] 36)).heap.size = w.heap.size + 1 := by simp
  have n1 : Below w.heap.size w ((w.alloc (.cells #[.int .i64 0, .slice none 0 0, .slice none 0 0] 36)).alloc (.cells #[.int .i64 0, .slice none 0 0, .slice none 0 0] 36)) := n0.alloc (by simp) _
  have U1 := U0.push (.cells #[.int .i64 0, .slice none 0 0, .slice none 0 0] 36)
  have T1 : RwC ((w.alloc (.cells #[.int .i64 0, .slice none 0 0, .slice none 0 0] 36)).alloc (.cells #[.int .i64 0, .slice none 0 0, .slice none 0 0] 36)) (w.heap.size + 1) [.int .i64 0, .slice none 0 0, .slice none 0 0] 36 := by
    have := RwC.new (w.alloc (.cells #[.int .i64 0, .slice none 0 0, .slice none 0 0] 36)) [.int .i64 0, .slice none 0 0, .slice none 0 0] 36
    rw [z0] at this
    exact this
  have ST : Hid (SSt w ((w.alloc (.cells #[.int .i64 0, .slice none 0 0, .slice none 0 0] 36)).alloc (.cells #[.int .i64 0, .slice none 0 0, .slice none 0 0] 36)) xs 0 [] [] (.slice none 0 0)) := ⟨Ahc.zero xs, IRow.nil _ _, T1, U1, n1⟩
  have HB := hide (And.intro hb (And.intro hn hc))
  have HR := hide hr
  clear n0 U0 z0 n1 U1 T1 hb hn hr hc
  go_enter Tryd.func15, Tryd.ntmps15
  go_upto_region 3 with fail
  generalize (w.alloc (.cells #[.int .i64 0, .slice none 0 0, .slice none 0 0] 36)).alloc (.cells #[.int .i64 0, .slice none 0 0, .slice none 0 0] 36) = W1 at *
  go_loopw [4, 5, 6] (fun s _ _ wr => ∃ (k : Nat) (its : List (Int × List Int)) (bs : List Plc) (v : Value), s = .int .i64 k ∧ Hid (SSt w wr xs k its bs v)) (fun s _ _ _ => xs.length - (intOf s).toNat)
  case atStart => exact ⟨0, _, _, _, rfl, ST⟩
  case round =>
    clear ST
    obtain ⟨k, its, bs, v, rfl, S⟩ := hrel
    have kx : k ≤ xs.length := S.out.A.k
    have k0 : (0 : Int) ≤ (k : Int) := by omega
    have kl : (k : Int) ≤ (xs.length : Int) := by omega
    have kc : (k : Int) ≤ (c : Int) := by have := HB.out.2.2; omega
    obtain ⟨ra, rc, ev, -⟩ := S.out.R.slice
    obtain ⟨p1, hp1⟩ : ∃ p1, p1 = its.length := ⟨_, rfl⟩
    rw [← hp1] at ev
    subst ev
    clear hp1
    have HM : Hid ((xs.drop k).length = xs.length - k) := List.length_drop
    have RN : Hid (∀ a'' : Option Addr, ((xs.drop k).length = 0 ∨ a'' = some ⟨g, off + k, none⟩) → Rd w g a'' .u8 (xs.drop k)) := fun a'' hh h0 => by
      rcases hh with hh | rfl
      · omega
      · obtain ⟨off', e1, hcc⟩ := HR.out (by have := HM.out; omega)
        simp only [Option.some.injEq, Addr.mk.injEq, true_and, and_true] at e1
        subst e1
        refine ⟨off + k, rfl, fun i hi => ?_⟩
        rw [Nat.add_assoc, hcc (k + i) (by have := HM.out; omega), List.getD_eq_getElem?_getD, List.getD_eq_getElem?_getD, List.getElem?_drop]
    go_upto_region 4 with fail
    obtain ⟨a', ha'⟩ : ∃ a' : Option Addr, a' = (if c = k then some ⟨g, off, none⟩ else some ⟨g, off + k, none⟩) := ⟨_, rfl⟩
    have Z : Hid (a' = none → c - k = 0) := fun h => by rw [ha'] at h; split at h <;> cases h
    have RD : Hid (Rd w g a' .u8 (xs.drop k)) := RN.out _ (by
      by_cases hck : c = k
      · exact .inl (by rw [HM.out]; have := HB.out.2.2; omega)
      · exact .inr (by rw [ha', if_neg hck]))
    have P0 : Hid (0 < xs.length - k → a' = some ⟨g, off + k, none⟩) := fun h => by rw [ha', if_neg (by have := HB.out.2.2; omega)]
    have mc : xs.length - k ≤ c - k := by have := HB.out.2.2; omega
    have m1 : xs.length - k ≤ 1048576 := by have := HB.out.2.1; omega
    have BY := hide (byt_drop HB.out.1 k)
    rw [← ha']
    clear ha' RN kl kc k0
    obtain ⟨m, hm⟩ : ∃ m, m = xs.length - k := ⟨_, rfl⟩
    obtain ⟨c', hc'⟩ : ∃ c', c' = c - k := ⟨_, rfl⟩
    simp only [← hm, ← hc'] at *
    have HK := hide (And.intro hm kx)
    clear hm hc' kx
    have b0 := BY.out 0
    have b1 := BY.out 1
    have b2 := BY.out 2
    by_cases h0 : m = 0
    · subst h0
      have hT : rcT (xs.drop k) = 1 := by unfold rcT; rw [if_pos HM.out]
      obtain ⟨D1, D2⟩ := S.out.A.done (by rw [hT]; decide)
      have eC : Hid (cutC xs = 0) := by show _ = _; unfold cutC; rw [D2, hT]; rfl
      have eL : Hid (cutL xs = xs.drop k) := by show _ = _; unfold cutL; rw [D2, hT]; rfl
      have eI := hide D1.symm
      clear D1 D2 hT
      clear b0 b1 b2
      have CL := hide (l1CopyN_any wr g a' c' (xs.drop k) ((RD.out).up S.out.N) (by first | exact Z.out | simp) (by rw [HM.out]; omega))
      rw [HM.out] at CL
      go_wp2_with fail
      refine CL.out.mono ?_
      rintro e w8 ⟨vr, rfl, R8, b8⟩
      obtain ⟨av, cv, gv, ev, -⟩ := R8.own
      rw [HM.out] at ev
      subst ev
      have T8 := S.out.T.up b8
      have U8 := S.out.U.up b8
      have s8 := b8.size
      have sT := S.out.T.lt
      have O9 := Only.setCell w8 (w.heap.size + 1) 2 (.slice av 0 cv)
      have T9 : RwC (w8.setCell ⟨w.heap.size + 1, 2, none⟩ (.slice av 0 cv)) (w.heap.size + 1) [.int .i64 0, .slice ra p1 rc, .slice av 0 cv] 36 := T8.set 2 _
      have U9 := U8.onl O9 (by omega)
      have R9 := (S.out.R.of (w' := w8) (fun i hi _ => b8.block i hi)).of (w' := w8.setCell ⟨w.heap.size + 1, 2, none⟩ (.slice av 0 cv)) (fun i hi hB => O9.block i (by omega))
      have B9 : RowB (w8.setCell ⟨w.heap.size + 1, 2, none⟩ (.slice av 0 cv)) wr.heap.size (.slice av 0 cv) (cutL xs) := by
        rw [eL.out]
        exact R8.only O9 (by omega)
      have NP9 := noP_of S.out.R R8
      have N9 := (nxt S.out.N b8).trans (O9.below (B := w.heap.size) (by omega))
      have t2 := T8.c2
      have tf2 := T8.free 2
      clear T8 U8 R8 b8 O9 CL S
      go_upto_region 15 with fail
      generalize w8.setCell ⟨w.heap.size + 1, 2, none⟩ (.slice av 0 cv) = W9 at *
      have t0 := T9.c0
      have t1 := T9.c1
      have t2 := T9.c2
      have u0 := U9.c0
      have u1 := U9.c1
      have u2 := U9.c2
      have uf0 := U9.free 0
      have uf1 := U9.free 1
      have uf2 := U9.free 2
      have U11 : RwC (((W9.setCell ⟨w.heap.size, 0, none⟩ (.int .i64 0)).setCell ⟨w.heap.size, 1, none⟩ (.slice ra p1 rc)).setCell ⟨w.heap.size, 2, none⟩ (.slice av 0 cv)) w.heap.size [.int .i64 0, .slice ra p1 rc, (.slice av 0 cv)] 36 := ((U9.set 0 _).set 1 _).set 2 _
      have O11 : Only w.heap.size W9 (((W9.setCell ⟨w.heap.size, 0, none⟩ (.int .i64 0)).setCell ⟨w.heap.size, 1, none⟩ (.slice ra p1 rc)).setCell ⟨w.heap.size, 2, none⟩ (.slice av 0 cv)) := ((Only.setCell _ w.heap.size 0 _).trans (Only.setCell _ w.heap.size 1 _)).trans (Only.setCell _ w.heap.size 2 _)
      have R11 := R9.of (w' := ((W9.setCell ⟨w.heap.size, 0, none⟩ (.int .i64 0)).setCell ⟨w.heap.size, 1, none⟩ (.slice ra p1 rc)).setCell ⟨w.heap.size, 2, none⟩ (.slice av 0 cv)) (fun i hi hB => O11.block i (by omega))
      have B11 := B9.only O11 (by omega)
      have N11 := N9.trans (O11.below (B := w.heap.size) (Nat.le_refl _))
      have RR := U11.rangeG
      clear U9 T9 R9 B9 N9 U11 O11
      go_wp2
      exact bodyPost_ret (v := .agg #[.int .i64 0, .slice ra p1 rc, (.slice av 0 cv)]) (results_cellG Tryd.results15 _ _ w.heap.size [.int .i64 0, .slice ra p1 rc, (.slice av 0 cv)] d1 rfl RR hd1 hrow1 iRl) rfl ⟨⟨_, bs, _, by rw [eC.out], eI.out ▸ R11.base (by omega), B11.base (by omega), eI.out ▸ NP9⟩, N11⟩
    · have h1 : 1 ≤ m := by omega
      have ea := P0.out (by omega)
      subst ea
      obtain ⟨off', e1, hcell⟩ := RD.out (by rw [HM.out]; omega)
      simp only [Option.some.injEq, Addr.mk.injEq, true_and, and_true] at e1
      subst e1
      have y0 := hcell 0 (by rw [HM.out]; omega)
      rw [Nat.add_zero] at y0
      have lg := block_lt_of_cell y0
      have YY := hide fun (W : World) (N : Below w.heap.size w W) (i : Nat) (hi : i < (xs.drop k).length) => (World.cell?_of_block (a := ⟨g, off + k + i, none⟩) (N.block g lg)).trans (hcell i hi)
      clear hcell
      have y0 := (World.cell?_of_block (a := ⟨g, off + k, none⟩) (S.out.N.block g lg)).trans y0
      have eK : Hid (rcK (xs.drop k) = (xs.drop k).getD 0 0) := by show _ = _; unfold rcK beN beN; simp
      have eN : Hid (beN (xs.drop k) 1 2 = (xs.drop k).getD 1 0 * 256 + (xs.drop k).getD 2 0) := by show _ = _; unfold beN beN beN; simp
      have i1 : (1 : Int) ≤ (m : Int) := by omega
      have j1 : decide ((1 : Int) ≤ (m : Int)) = true := by simp; omega
      have j0 : decide (1 ≤ m) = true := by simp; omega
      have i2 : (0 : Int) < (m : Int) := by omega
      have wb : IntKind.i64.wrap ((xs.drop k).getD 0 0) = (xs.drop k).getD 0 0 := by rw [IntKind.wrap_i64]; omega
      have KN := hide (known_any wr ((xs.drop k).getD 0 0))
      by_cases hk : isK ((xs.drop k).getD 0 0) = true
      · rw [hk] at KN
        by_cases h3 : m < 3
        · have hT : rcT (xs.drop k) = 1 := by unfold rcT; rw [if_neg (by rw [HM.out]; omega), eK.out, if_pos hk, if_pos (by rw [HM.out]; exact h3)]
          have j3 : decide ((3 : Int) ≤ (m : Int)) = false := by simp; omega
          have j4 : decide (3 ≤ m) = false := by simp; omega
          have j5 : decide ((m : Int) < 3) = true := by simp; omega
          have j6 : decide (m < 3) = true := by simp; omega
          obtain ⟨D1, D2⟩ := S.out.A.done (by rw [hT]; decide)
          have eC : Hid (cutC xs = 0) := by show _ = _; unfold cutC; rw [D2, hT]; rfl
          have eL : Hid (cutL xs = xs.drop k) := by show _ = _; unfold cutL; rw [D2, hT]; rfl
          have eI := hide D1.symm
          clear D1 D2 hT
          clear b1 b2 eN eK P0 hk h0
          obtain ⟨a', ha'⟩ : ∃ a' : Option Addr, a' = some ⟨g, off + k, none⟩ := ⟨_, rfl⟩
          generalize (xs.drop k).getD 0 0 = x0 at *
          go_wp2_with fail
          refine KN.out.mono ?_
          rintro e w' ⟨rfl, hw⟩
          have hw := hw.symm
          subst hw
          clear KN y0 wb
          rw [← ha'] at RD Z ⊢
          clear ha'
          have CL := hide (l1CopyN_any wr g a' c' (xs.drop k) ((RD.out).up S.out.N) (by first | exact Z.out | simp) (by rw [HM.out]; omega))
          rw [HM.out] at CL
          go_wp2_with fail
          refine CL.out.mono ?_
          rintro e w8 ⟨vr, rfl, R8, b8⟩
          obtain ⟨av, cv, gv, ev, -⟩ := R8.own
          rw [HM.out] at ev
          subst ev
          have T8 := S.out.T.up b8
          have U8 := S.out.U.up b8
          have s8 := b8.size
          have sT := S.out.T.lt
          have O9 := Only.setCell w8 (w.heap.size + 1) 2 (.slice av m cv)
          have T9 : RwC (w8.setCell ⟨w.heap.size + 1, 2, none⟩ (.slice av m cv)) (w.heap.size + 1) [.int .i64 0, .slice ra p1 rc, .slice av m cv] 36 := T8.set 2 _
          have U9 := U8.onl O9 (by omega)
          have R9 := (S.out.R.of (w' := w8) (fun i hi _ => b8.block i hi)).of (w' := w8.setCell ⟨w.heap.size + 1, 2, none⟩ (.slice av m cv)) (fun i hi hB => O9.block i (by omega))
          have B9 : RowB (w8.setCell ⟨w.heap.size + 1, 2, none⟩ (.slice av m cv)) wr.heap.size (.slice av m cv) (cutL xs) := by
            rw [eL.out]
            exact R8.only O9 (by omega)
          have NP9 := noP_of S.out.R R8
          have N9 := (nxt S.out.N b8).trans (O9.below (B := w.heap.size) (by omega))
          have t2 := T8.c2
          have tf2 := T8.free 2
          clear T8 U8 R8 b8 O9 CL S
          go_upto_region 15 with fail
          generalize w8.setCell ⟨w.heap.size + 1, 2, none⟩ (.slice av m cv) = W9 at *
          have t0 := T9.c0
          have t1 := T9.c1
          have t2 := T9.c2
          have u0 := U9.c0
          have u1 := U9.c1
          have u2 := U9.c2
          have uf0 := U9.free 0
          have uf1 := U9.free 1
          have uf2 := U9.free 2
          have U11 : RwC (((W9.setCell ⟨w.heap.size, 0, none⟩ (.int .i64 0)).setCell ⟨w.heap.size, 1, none⟩ (.slice ra p1 rc)).setCell ⟨w.heap.size, 2, none⟩ (.slice av m cv)) w.heap.size [.int .i64 0, .slice ra p1 rc, (.slice av m cv)] 36 := ((U9.set 0 _).set 1 _).set 2 _
          have O11 : Only w.heap.size W9 (((W9.setCell ⟨w.heap.size, 0, none⟩ (.int .i64 0)).setCell ⟨w.heap.size, 1, none⟩ (.slice ra p1 rc)).setCell ⟨w.heap.size, 2, none⟩ (.slice av m cv)) := ((Only.setCell _ w.heap.size 0 _).trans (Only.setCell _ w.heap.size 1 _)).trans (Only.setCell _ w.heap.size 2 _)
          have R11 := R9.of (w' := ((W9.setCell ⟨w.heap.size, 0, none⟩ (.int .i64 0)).setCell ⟨w.heap.size, 1, none⟩ (.slice ra p1 rc)).setCell ⟨w.heap.size, 2, none⟩ (.slice av m cv)) (fun i hi hB => O11.block i (by omega))
          have B11 := B9.only O11 (by omega)
          have N11 := N9.trans (O11.below (B := w.heap.size) (Nat.le_refl _))
          have RR := U11.rangeG
          clear U9 T9 R9 B9 N9 U11 O11
          go_wp2
          exact bodyPost_ret (v := .agg #[.int .i64 0, .slice ra p1 rc, (.slice av m cv)]) (results_cellG Tryd.results15 _ _ w.heap.size [.int .i64 0, .slice ra p1 rc, (.slice av m cv)] d1 rfl RR hd1 hrow1 iRl) rfl ⟨⟨_, bs, _, by rw [eC.out], eI.out ▸ R11.base (by omega), B11.base (by omega), eI.out ▸ NP9⟩, N11⟩
        · have Y1 := hide (YY.out wr S.out.N 1 (by rw [HM.out]; omega))
          have Y2 := hide (YY.out wr S.out.N 2 (by rw [HM.out]; omega))
          have G3 : Hid (rcT (xs.drop k) = if 1 ≤ beN (xs.drop k) 1 2 ∧ beN (xs.drop k) 1 2 ≤ 2321 then (if (m : Int) - 3 < beN (xs.drop k) 1 2 then 1 else 0) else 3) := by show _ = _; unfold rcT; rw [if_neg (by rw [HM.out]; omega), eK.out, if_pos hk, if_neg (by rw [HM.out]; exact h3), HM.out]
          have BB := hide (And.intro b1 b2)
          rw [eN.out] at G3
          generalize (xs.drop k).getD 0 0 = x0 at *
          generalize (xs.drop k).getD 1 0 = x1 at *
          generalize (xs.drop k).getD 2 0 = x2 at *
          have H3 := hide h3
          have B0 := hide b0
          clear b1 b2 h3 hk YY
          have HY := hide y0
          go_wp2_with fail
          refine KN.out.mono ?_
          rintro e w' ⟨rfl, hw⟩
          have hw := hw.symm
          subst hw
          clear KN wb y0 b0
          have h3 : 3 ≤ m := by have := H3.out; omega
          have j3 : decide ((3 : Int) ≤ (m : Int)) = true := by simp; omega
          have j4 : decide (3 ≤ m) = true := by simp; omega
          go_upto_region 9 with fail
          clear j3 j4
          have i4 : (1 : Int) < (m : Int) := by omega
          have i5 : (2 : Int) < (m : Int) := by omega
          have y1 := Y1.out
          have y2 := Y2.out
          obtain ⟨b1, b2⟩ := BB.out
          go_quiet (fail)
          have S9 := hide (S.out.up (show Below wr.heap.size wr (wr.drewN nq) from below_drewN (Below.refl _ _) _))
          have nz0 : 0 ≤ x1 * 256 + x2 := by omega
          have nz1 : x1 * 256 + x2 ≤ 65535 := by omega
          clear S y1 y2 b1 b2 Y1 Y2 BB i4 i5
          have HYd : Hid ((wr.drewN nq).cell? ⟨g, off + k, none⟩ = some (.int .u8 x0)) := HY.out
          generalize wr.drewN nq = wd at *
          generalize x1 * 256 + x2 = nz at *
          obtain ⟨n, en⟩ := Int.eq_ofNat_of_zero_le nz0
          subst en
          clear nz0
          have S := S9
          clear S9
          by_cases hs : 1 ≤ (n : Int) ∧ (n : Int) ≤ 2321
          · have q0 : ((n : Int) == 0) = false := by simp; omega
            have q1 : decide ((n : Int) = 0) = false := by simp; omega
            have q2 : decide ((2321 : Int) < (n : Int)) = false := by simp; omega
            have q3 : decide (n = 0) = false := by simp; omega
            have q4 : decide (2321 < n) = false := by simp; omega
            have j5 : decide ((m : Int) < 3) = false := by simp; omega
            have j6 : decide (m < 3) = false := by simp; omega
            by_cases hw : (m : Int) - 3 < (n : Int)
            · have hT : rcT (xs.drop k) = 1 := by rw [G3.out, if_pos hs, if_pos hw]
              have q5 : decide ((m : Int) < 3 + (n : Int)) = true := by simp; omega
              have q6 : decide (m < 3 + n) = true := by simp; omega
              obtain ⟨D1, D2⟩ := S.out.A.done (by rw [hT]; decide)
              have eC : Hid (cutC xs = 0) := by show _ = _; unfold cutC; rw [D2, hT]; rfl
              have eL : Hid (cutL xs = xs.drop k) := by show _ = _; unfold cutL; rw [D2, hT]; rfl
              have eI := hide D1.symm
              clear D1 D2 hT
              clear eN eK P0 h0 HY G3 hs hw HYd
              obtain ⟨a', ha'⟩ : ∃ a' : Option Addr, a' = some ⟨g, off + k, none⟩ := ⟨_, rfl⟩
              rw [← ha'] at RD Z ⊢
              clear ha'
              have CL := hide (l1CopyN_any wd g a' c' (xs.drop k) ((RD.out).up S.out.N) (by first | exact Z.out | simp) (by rw [HM.out]; omega))
              rw [HM.out] at CL
              go_wp2_with fail
              refine CL.out.mono ?_
              rintro e w8 ⟨vr, rfl, R8, b8⟩
              obtain ⟨av, cv, gv, ev, -⟩ := R8.own
              rw [HM.out] at ev
              subst ev
              have T8 := S.out.T.up b8
              have U8 := S.out.U.up b8
              have s8 := b8.size
              have sT := S.out.T.lt
              have O9 := Only.setCell w8 (w.heap.size + 1) 2 (.slice av m cv)
              have T9 : RwC (w8.setCell ⟨w.heap.size + 1, 2, none⟩ (.slice av m cv)) (w.heap.size + 1) [.int .i64 0, .slice ra p1 rc, .slice av m cv] 36 := T8.set 2 _
              have U9 := U8.onl O9 (by omega)
              have R9 := (S.out.R.of (w' := w8) (fun i hi _ => b8.block i hi)).of (w' := w8.setCell ⟨w.heap.size + 1, 2, none⟩ (.slice av m cv)) (fun i hi hB => O9.block i (by omega))
              have B9 : RowB (w8.setCell ⟨w.heap.size + 1, 2, none⟩ (.slice av m cv)) wd.heap.size (.slice av m cv) (cutL xs) := by
                rw [eL.out]
                exact R8.only O9 (by omega)
              have NP9 := noP_of S.out.R R8
              have N9 := (nxt S.out.N b8).trans (O9.below (B := w.heap.size) (by omega))
              have t2 := T8.c2
              have tf2 := T8.free 2
              clear T8 U8 R8 b8 O9 CL S
              go_upto_region 15 with fail
              generalize w8.setCell ⟨w.heap.size + 1, 2, none⟩ (.slice av m cv) = W9 at *
              have t0 := T9.c0
              have t1 := T9.c1
              have t2 := T9.c2
              have u0 := U9.c0
              have u1 := U9.c1
              have u2 := U9.c2
              have uf0 := U9.free 0
              have uf1 := U9.free 1
              have uf2 := U9.free 2
              have U11 : RwC (((W9.setCell ⟨w.heap.size, 0, none⟩ (.int .i64 0)).setCell ⟨w.heap.size, 1, none⟩ (.slice ra p1 rc)).setCell ⟨w.heap.size, 2, none⟩ (.slice av m cv)) w.heap.size [.int .i64 0, .slice ra p1 rc, (.slice av m cv)] 36 := ((U9.set 0 _).set 1 _).set 2 _
              have O11 : Only w.heap.size W9 (((W9.setCell ⟨w.heap.size, 0, none⟩ (.int .i64 0)).setCell ⟨w.heap.size, 1, none⟩ (.slice ra p1 rc)).setCell ⟨w.heap.size, 2, none⟩ (.slice av m cv)) := ((Only.setCell _ w.heap.size 0 _).trans (Only.setCell _ w.heap.size 1 _)).trans (Only.setCell _ w.heap.size 2 _)
              have R11 := R9.of (w' := ((W9.setCell ⟨w.heap.size, 0, none⟩ (.int .i64 0)).setCell ⟨w.heap.size, 1, none⟩ (.slice ra p1 rc)).setCell ⟨w.heap.size, 2, none⟩ (.slice av m cv)) (fun i hi hB => O11.block i (by omega))
              have B11 := B9.only O11 (by omega)
              have N11 := N9.trans (O11.below (B := w.heap.size) (Nat.le_refl _))
              have RR := U11.rangeG
              clear U9 T9 R9 B9 N9 U11 O11
              go_wp2
              exact bodyPost_ret (v := .agg #[.int .i64 0, .slice ra p1 rc, (.slice av m cv)]) (results_cellG Tryd.results15 _ _ w.heap.size [.int .i64 0, .slice ra p1 rc, (.slice av m cv)] d1 rfl RR hd1 hrow1 iRl) rfl ⟨⟨_, bs, _, by rw [eC.out], eI.out ▸ R11.base (by omega), B11.base (by omega), eI.out ▸ NP9⟩, N11⟩
            · have hT : rcT (xs.drop k) = 0 := by rw [G3.out, if_pos hs, if_neg hw]
              have q5 : decide ((m : Int) < 3 + (n : Int)) = false := by simp; omega
              have q6 : decide (m < 3 + n) = false := by simp; omega
              have bl : Hid ((rcB (xs.drop k)).length = n) := by show _ = _; rw [(rcT_len (byt_drop HB.out.1 k) hT).2.2.2]; unfold rcN; rw [eN.out]; simp
              have rN : Hid (rcN (xs.drop k) = n) := by show _ = _; unfold rcN; rw [eN.out]; simp
              have lg : g < w.heap.size := RD.out.lt (by rw [HM.out]; omega)
              have sw := S.out.N.size
              have yq := S.out.T.c1
              have y0 := HYd.out
              have lq := S.out.T.lt
              have RB : Hid (Rd w g (some ⟨g, off + k + 3, none⟩) .u8 (rcB (xs.drop k))) := fun _ => ⟨off + k + 3, rfl, fun i hi => by
                obtain ⟨off', e1, hcc⟩ := RD.out (by rw [HM.out]; omega)
                simp only [Option.some.injEq, Addr.mk.injEq, true_and, and_true] at e1
                subst e1
                rw [bl.out] at hi
                rw [Nat.add_assoc (off + k), hcc (3 + i) (by rw [HM.out]; omega)]
                unfold rcB
                rw [List.getD_eq_getElem?_getD, List.getD_eq_getElem?_getD, List.getElem?_take, if_pos (by rw [rN.out]; exact hi), List.getElem?_drop, List.getElem?_drop, List.getElem?_drop]⟩
              have CL : Hid (∀ W, Below wd.heap.size wd W → Calls Tryd.prog 30 #[.slice (some ⟨g, off + k + 3, none⟩) n (c' - 3)] W fun e w' => ∃ a9 c9, e = .returned (.slice a9 n c9) ∧ RowB w' wd.heap.size (.slice a9 n c9) (rcB (xs.drop k)) ∧ Below W.heap.size W w') := fun W b => by
                have := l1CopyN_any W g (some ⟨g, off + k + 3, none⟩) (c' - 3) (rcB (xs.drop k)) (RB.out.up (nxt S.out.N b)) (by simp) (by rw [bl.out]; omega)
                rw [bl.out] at this
                refine this.mono ?_
                rintro e w' ⟨v, rfl, R, l⟩
                obtain ⟨a9, c9, g9, ev, -⟩ := R.own
                rw [bl.out] at ev
                subst ev
                exact ⟨a9, c9, rfl, R.base b.size, l⟩
              have AP : Hid (∀ W vS, Below wd.heap.size wd W → (NBr wd.heap.size x0 (rcB (xs.drop k))).p vS W → ∃ v' w', (Builtin.append_ #[34, 34] 34 #[.slice ra p1 rc, vS]).run Tryd.prog W = .ok v' w' ∧
                  (∃ ra2 p2 rc2, v' = .slice ra2 p2 rc2 ∧ w'.cell? ⟨w.heap.size + 1, 1, none⟩ = some (.slice ra p1 rc) ∧ w'.frozen? ⟨w.heap.size + 1, 1, none⟩ = false ∧ Hid (∃ its' bs', SSt w (w'.setCell ⟨w.heap.size + 1, 1, none⟩ v') xs (k + (3 + n)) its' bs' v'))) := fun W vS b hG => by
                obtain ⟨p0, a9, c9, rfl, hp, hR⟩ := hG
                rw [← eK.out] at hp
                have := S.out.app HB.out.1 HB.out.2.1 hT b hp hR
                rw [rN.out] at this
                obtain ⟨v', w', r1, r2, r3, its', bs', r5⟩ := this
                obtain ⟨ra2, rc2, ev, -⟩ := r5.R.slice
                exact ⟨_, w', r1, ra2, _, rc2, ev, r2, r3, its', bs', r5⟩
              have i1 : (0 : Int) < (m : Int) := by omega
              have i3 : (3 : Int) ≤ 3 + (n : Int) := by omega
              have i6 : (3 : Int) + (n : Int) ≤ (c' : Int) := by omega
              have i7 : ¬ c' = 3 := by omega
              have i8 : (3 + (n : Int)).toNat - 3 = n := by omega
              have i9 : IntKind.i64.wrap (3 + (n : Int)) = 3 + (n : Int) := by rw [IntKind.wrap_i64]; omega
              have i10 : 0 < m := by omega
              have i11 : (3 : Int) ≤ (c' : Int) := by omega
              have i12 : ¬ m = 0 := by omega
              have wx : IntKind.i64.wrap x0 = x0 := by have := B0.out; rw [IntKind.wrap_i64]; omega
              have hkx : k + (3 + n) ≤ xs.length := by have := HM.out; rw [List.length_drop] at this; omega
              have k20 : k + (3 + n) ≤ 1048576 := by have := HB.out.2.1; omega
              clear RB RD Z P0 G3 h0 h3 hs hw HY eN BY
              go_upto_region 16 with fail
              refine region_appS 13 1 12 60 71 72 73 34 _ _ _ (fun i => [Fact.eq (.pointer (some ⟨w.heap.size + 1, 1, none⟩)), Fact.eq (.slice ra p1 rc), Fact.eq (.slice (some ⟨g, off + k, none⟩) m c'), Fact.eq (.pointer (some ⟨g, off + k, none⟩)), Fact.eq (.int .u8 x0), Fact.eq (.int .i64 x0), Fact.eq (.slice (some ⟨g, off + k, none⟩) m c'), Fact.eq (.int .i64 (n : Int)), Fact.eq (.int .i64 (3 + (n : Int))), Fact.eq (.slice (some ⟨g, off + k + 3, none⟩) n (c' - 3)), CRb wd.heap.size (rcB (xs.drop k)), CKd wd.heap.size x0 (rcB (xs.drop k)), NBr wd.heap.size x0 (rcB (xs.drop k))].getD i Fact.no) (NBr wd.heap.size x0 (rcB (xs.drop k))) (.slice ra p1 rc) (w.heap.size + 1) 1 (fun v' w' => ∃ ra2 p2 rc2, v' = .slice ra2 p2 rc2 ∧ w'.cell? ⟨w.heap.size + 1, 1, none⟩ = some (.slice ra p1 rc) ∧ w'.frozen? ⟨w.heap.size + 1, 1, none⟩ = false ∧ Hid (∃ its' bs', SSt w (w'.setCell ⟨w.heap.size + 1, 1, none⟩ v') xs (k + (3 + n)) its' bs' v')) (by kernel_rfl) (by kernel_rfl) rfl rfl rfl rfl rfl rfl rfl (by decide) (by simp) (by simp) ?_ ?_ ⟨by kernel_rfl, by kernel_rfl⟩ rfl ⟨by kernel_rfl, by kernel_rfl⟩ rfl ?_ AP.out ?_
              · intro A W hb
                have e0 : A.tmps[3]?.getD undef = .pointer (some ⟨w.heap.size + 1, 0, none⟩) := gdv (hb.2.2 3 (by kernel_rfl))
                simp [go_sem, e0]
              · rintro A W v' e0 e1 ⟨ra2, p2, rc2, rfl, c1, f1, -⟩ hQ
                have e0 : A.tmps[73]?.getD undef = .pointer (some ⟨w.heap.size + 1, 1, none⟩) := gdv e0
                have e1 : A.tmps[72]?.getD undef = .slice ra2 p2 rc2 := gdv e1
                unfold Oper.wp
                simp [go_sem, e0, e1, c1, f1]
                exact hQ
              · intro i hi
                obtain rfl | rfl | rfl | rfl | rfl | rfl | rfl | rfl | rfl | rfl | rfl | rfl | rfl : i = 0 ∨ i = 1 ∨ i = 2 ∨ i = 3 ∨ i = 4 ∨ i = 5 ∨ i = 6 ∨ i = 7 ∨ i = 8 ∨ i = 9 ∨ i = 10 ∨ i = 11 ∨ i = 12 := by omega
                · refine step_pure rfl fun A ww hb hw hf => ?_
                  have e0 : A.tmps[3]?.getD undef = .pointer (some ⟨w.heap.size + 1, 0, none⟩) := gdv (hb.2.2 3 (by kernel_rfl))
                  exact ⟨.pointer (some ⟨w.heap.size + 1, 1, none⟩), by simp [go_sem, e0], rfl⟩
                · refine step_pure rfl fun A ww hb hw hf => ?_
                  have e0 : A.tmps[59]?.getD undef = .pointer (some ⟨w.heap.size + 1, 1, none⟩) := gdv (hf 0 59 (by kernel_rfl))
                  have hc : ww.cell? ⟨w.heap.size + 1, 1, none⟩ = some (.slice ra p1 rc) := (World.cell?_of_block (a := ⟨w.heap.size + 1, 1, none⟩) (hw.block (w.heap.size + 1) lq)).trans yq
                  exact ⟨.slice ra p1 rc, by simp [go_sem, e0, hc], rfl⟩
                · refine step_pure rfl fun A ww hb hw hf => ?_
                  have e0 : A.tmps[5]?.getD undef = .slice (some ⟨g, off + k, none⟩) m c' := gdv (hb.2.2 5 (by kernel_rfl))
                  exact ⟨_, by simp [go_sem, e0], rfl⟩
                · refine step_pure rfl fun A ww hb hw hf => ?_
                  have e0 : A.tmps[61]?.getD undef = .slice (some ⟨g, off + k, none⟩) m c' := gdv (hf 2 61 (by kernel_rfl))
                  exact ⟨.pointer (some ⟨g, off + k, none⟩), by simp [go_sem, e0]; first | done | omega, rfl⟩
                · refine step_pure rfl fun A ww hb hw hf => ?_
                  have e0 : A.tmps[62]?.getD undef = .pointer (some ⟨g, off + k, none⟩) := gdv (hf 3 62 (by kernel_rfl))
                  have hc : ww.cell? ⟨g, off + k, none⟩ = some (.int .u8 x0) := (World.cell?_of_block (a := ⟨g, off + k, none⟩) (hw.block g (by omega))).trans y0
                  exact ⟨.int .u8 x0, by simp [go_sem, e0, hc], rfl⟩
                · refine step_pure rfl fun A ww hb hw hf => ?_
                  have e0 : A.tmps[63]?.getD undef = .int .u8 x0 := gdv (hf 4 63 (by kernel_rfl))
                  exact ⟨.int .i64 x0, by simp [go_sem, e0, wx], rfl⟩
                · refine step_pure rfl fun A ww hb hw hf => ?_
                  have e0 : A.tmps[5]?.getD undef = .slice (some ⟨g, off + k, none⟩) m c' := gdv (hb.2.2 5 (by kernel_rfl))
                  exact ⟨_, by simp [go_sem, e0], rfl⟩
                · refine step_pure rfl fun A ww hb hw hf => ?_
                  have e0 : A.tmps[6]?.getD undef = .int .i64 (n : Int) := gdv (hb.2.2 6 (by kernel_rfl))
                  exact ⟨_, by simp [go_sem, e0], rfl⟩
                · refine step_pure rfl fun A ww hb hw hf => ?_
                  have e0 : A.tmps[66]?.getD undef = .int .i64 (n : Int) := gdv (hf 7 66 (by kernel_rfl))
                  exact ⟨.int .i64 (3 + (n : Int)), by simp [go_sem, e0, i9], rfl⟩
                · refine step_pure rfl fun A ww hb hw hf => ?_
                  have e0 : A.tmps[65]?.getD undef = .slice (some ⟨g, off + k, none⟩) m c' := gdv (hf 6 65 (by kernel_rfl))
                  have e1 : A.tmps[67]?.getD undef = .int .i64 (3 + (n : Int)) := gdv (hf 8 67 (by kernel_rfl))
                  exact ⟨.slice (some ⟨g, off + k + 3, none⟩) n (c' - 3), by simp [go_sem, e0, e1, i6, i7, i8]; rw [if_pos (by omega), if_pos (by omega)], rfl⟩
                · refine step_callv rfl 30 _ _ rfl (by kernel_rfl) fun A ww hb hw hf => ?_
                  have e6 : A.tmps.getD 68 undef = .slice (some ⟨g, off + k + 3, none⟩) n (c' - 3) := hf 9 68 (by kernel_rfl)
                  show Calls Tryd.prog 30 #[A.tmps.getD 68 undef] ww _
                  rw [e6]
                  refine (CL.out ww hw).mono ?_
                  rintro r w' ⟨a9, c9, rfl, R, l⟩
                  exact ⟨_, rfl, l, R⟩
                · refine step_pure rfl fun A ww hb hw hf => ?_
                  have e0 : A.tmps[64]?.getD undef = .int .i64 x0 := gdv (hf 5 64 (by kernel_rfl))
                  have r8 : RowB ww wd.heap.size (A.tmps.getD 69 undef) (rcB (xs.drop k)) := hf 10 69 (by kernel_rfl)
                  obtain ⟨ad, cd, gd, ev, -⟩ := r8.own
                  rw [ev] at r8
                  have e1 : A.tmps[69]?.getD undef = .slice ad (rcB (xs.drop k)).length cd := gdv ev
                  refine ⟨.agg #[.int .i64 x0, .slice ad (rcB (xs.drop k)).length cd], ?_, ad, cd, rfl, r8⟩
                  simp [go_sem, e0, e1]
                · refine step_grow rfl fun A ww hb hw hf => ?_
                  obtain ⟨ad, cd, ev, r8⟩ : ∃ ad cd, A.tmps.getD 70 undef = .agg #[.int .i64 x0, .slice ad (rcB (xs.drop k)).length cd] ∧ RowB ww wd.heap.size (.slice ad (rcB (xs.drop k)).length cd) (rcB (xs.drop k)) := hf 11 70 (by kernel_rfl)
                  have e1 : A.tmps[70]?.getD undef = .agg #[.int .i64 x0, .slice ad (rcB (xs.drop k)).length cd] := gdv ev
                  have na : Below ww.heap.size ww (ww.alloc (.cells #[.int .i64 x0, .slice ad (rcB (xs.drop k)).length cd] 27)) := (Below.refl _ _).alloc (Nat.le_refl _) _
                  refine ⟨.slice (some ⟨ww.heap.size, 0, none⟩) 1 1, ww.alloc (.cells #[.int .i64 x0, .slice ad (rcB (xs.drop k)).length cd] 27), ?_, na, ww.heap.size, ad, cd, rfl, RwC.new ww _ _, r8.up na⟩
                  simp [go_sem, e1]
              · rintro vs W v' ⟨ra2, p2, rc2, rfl, -, -, F72⟩
                have i20 : (k : Int) + 3 + (n : Int) ≤ 1048576 := by omega
                simp only [puts, Act.put, List.setIfInBounds_toArray, List.set_cons_succ, List.set_cons_zero]
                go_wp2
                go_roundw
                case rel =>
                  obtain ⟨its', bs', F9⟩ := F72.out
                  exact ⟨k + (3 + n), its', bs', _, by first | rfl | (congr 1; omega), F9⟩
                case measure => simp [intOf]; omega
          · have hT : rcT (xs.drop k) = 3 := by rw [G3.out, if_neg hs]
            obtain ⟨D1, D2⟩ := S.out.A.done (by rw [hT]; decide)
            have eC : Hid (cutC xs = 2) := by show _ = _; unfold cutC; rw [D2, hT]; rfl
            have eL : Hid (cutL xs = []) := by show _ = _; unfold cutL; rw [D2, hT]; rfl
            have eI := hide D1.symm
            clear D1 D2 hT
            clear eN eK P0 h0 HY G3 RD Z HYd
            rcases (by omega : n = 0 ∨ 2321 < n) with rfl | hgt
            · skip
              have T9 := S.out.T
              have U9 := S.out.U
              have R9 := S.out.R
              have sT := S.out.T.lt
              have B9 : RowB wd wd.heap.size (.slice none 0 0) (cutL xs) := by
                rw [eL.out]
                exact RowB.nilN _ _
              have NP9 := noP_of S.out.R B9
              have N9 := S.out.N
              clear S
              have t0 := T9.c0
              have t1 := T9.c1
              have t2 := T9.c2
              have tf0 := T9.free 0
              have u0 := U9.c0
              have u1 := U9.c1
              have u2 := U9.c2
              have uf0 := U9.free 0
              have uf1 := U9.free 1
              have uf2 := U9.free 2
              have O10 := Only.setCell wd (w.heap.size + 1) 0 (.int .i64 2)
              have U10 := U9.onl O10 (by omega)
              have R10 := R9.of (w' := wd.setCell ⟨w.heap.size + 1, 0, none⟩ (.int .i64 2)) (fun i hi hB => O10.block i (by omega))
              have B10 := B9.only O10 (by omega)
              have N10 := N9.trans (O10.below (B := w.heap.size) (by omega))
              have U11 : RwC ((((wd.setCell ⟨w.heap.size + 1, 0, none⟩ (.int .i64 2)).setCell ⟨w.heap.size, 0, none⟩ (.int .i64 2)).setCell ⟨w.heap.size, 1, none⟩ (.slice ra p1 rc)).setCell ⟨w.heap.size, 2, none⟩ (.slice none 0 0)) w.heap.size [.int .i64 2, .slice ra p1 rc, (.slice none 0 0)] 36 := ((U10.set 0 _).set 1 _).set 2 _
              have O11 : Only w.heap.size (wd.setCell ⟨w.heap.size + 1, 0, none⟩ (.int .i64 2)) ((((wd.setCell ⟨w.heap.size + 1, 0, none⟩ (.int .i64 2)).setCell ⟨w.heap.size, 0, none⟩ (.int .i64 2)).setCell ⟨w.heap.size, 1, none⟩ (.slice ra p1 rc)).setCell ⟨w.heap.size, 2, none⟩ (.slice none 0 0)) := ((Only.setCell _ w.heap.size 0 _).trans (Only.setCell _ w.heap.size 1 _)).trans (Only.setCell _ w.heap.size 2 _)
              have R11 := R10.of (w' := (((wd.setCell ⟨w.heap.size + 1, 0, none⟩ (.int .i64 2)).setCell ⟨w.heap.size, 0, none⟩ (.int .i64 2)).setCell ⟨w.heap.size, 1, none⟩ (.slice ra p1 rc)).setCell ⟨w.heap.size, 2, none⟩ (.slice none 0 0)) (fun i hi hB => O11.block i (by omega))
              have B11 := B10.only O11 (by omega)
              have N11 := N10.trans (O11.below (B := w.heap.size) (Nat.le_refl _))
              have RR := U11.rangeG
              clear U9 T9 R9 B9 N9 O10 U10 R10 B10 N10 U11 O11
              go_wp2
              exact bodyPost_ret (v := .agg #[.int .i64 2, .slice ra p1 rc, (.slice none 0 0)]) (results_cellG Tryd.results15 _ _ w.heap.size [.int .i64 2, .slice ra p1 rc, (.slice none 0 0)] d1 rfl RR hd1 hrow1 iRl) rfl ⟨⟨_, bs, _, by rw [eC.out], eI.out ▸ R11.base (by omega), B11.base (by omega), eI.out ▸ NP9⟩, N11⟩
            · have q0 : ((n : Int) == 0) = false := by simp; omega
              have q1 : decide ((n : Int) = 0) = false := by simp; omega
              have q2 : decide ((2321 : Int) < (n : Int)) = true := by simp; omega
              have q3 : decide (n = 0) = false := by simp; omega
              have q4 : decide (2321 < n) = true := by simp; omega
              clear hs hgt
              have T9 := S.out.T
              have U9 := S.out.U
              have R9 := S.out.R
              have sT := S.out.T.lt
              have B9 : RowB wd wd.heap.size (.slice none 0 0) (cutL xs) := by
                rw [eL.out]
                exact RowB.nilN _ _
              have NP9 := noP_of S.out.R B9
              have N9 := S.out.N
              clear S
              have t0 := T9.c0
              have t1 := T9.c1
              have t2 := T9.c2
              have tf0 := T9.free 0
              have u0 := U9.c0
              have u1 := U9.c1
              have u2 := U9.c2
              have uf0 := U9.free 0
              have uf1 := U9.free 1
              have uf2 := U9.free 2
              have O10 := Only.setCell wd (w.heap.size + 1) 0 (.int .i64 2)
              have U10 := U9.onl O10 (by omega)
              have R10 := R9.of (w' := wd.setCell ⟨w.heap.size + 1, 0, none⟩ (.int .i64 2)) (fun i hi hB => O10.block i (by omega))
              have B10 := B9.only O10 (by omega)
              have N10 := N9.trans (O10.below (B := w.heap.size) (by omega))
              have U11 : RwC ((((wd.setCell ⟨w.heap.size + 1, 0, none⟩ (.int .i64 2)).setCell ⟨w.heap.size, 0, none⟩ (.int .i64 2)).setCell ⟨w.heap.size, 1, none⟩ (.slice ra p1 rc)).setCell ⟨w.heap.size, 2, none⟩ (.slice none 0 0)) w.heap.size [.int .i64 2, .slice ra p1 rc, (.slice none 0 0)] 36 := ((U10.set 0 _).set 1 _).set 2 _
              have O11 : Only w.heap.size (wd.setCell ⟨w.heap.size + 1, 0, none⟩ (.int .i64 2)) ((((wd.setCell ⟨w.heap.size + 1, 0, none⟩ (.int .i64 2)).setCell ⟨w.heap.size, 0, none⟩ (.int .i64 2)).setCell ⟨w.heap.size, 1, none⟩ (.slice ra p1 rc)).setCell ⟨w.heap.size, 2, none⟩ (.slice none 0 0)) := ((Only.setCell _ w.heap.size 0 _).trans (Only.setCell _ w.heap.size 1 _)).trans (Only.setCell _ w.heap.size 2 _)
              have R11 := R10.of (w' := (((wd.setCell ⟨w.heap.size + 1, 0, none⟩ (.int .i64 2)).setCell ⟨w.heap.size, 0, none⟩ (.int .i64 2)).setCell ⟨w.heap.size, 1, none⟩ (.slice ra p1 rc)).setCell ⟨w.heap.size, 2, none⟩ (.slice none 0 0)) (fun i hi hB => O11.block i (by omega))
              have B11 := B10.only O11 (by omega)
              have N11 := N10.trans (O11.below (B := w.heap.size) (Nat.le_refl _))
              have RR := U11.rangeG
              clear U9 T9 R9 B9 N9 O10 U10 R10 B10 N10 U11 O11
              go_wp2
              exact bodyPost_ret (v := .agg #[.int .i64 2, .slice ra p1 rc, (.slice none 0 0)]) (results_cellG Tryd.results15 _ _ w.heap.size [.int .i64 2, .slice ra p1 rc, (.slice none 0 0)] d1 rfl RR hd1 hrow1 iRl) rfl ⟨⟨_, bs, _, by rw [eC.out], eI.out ▸ R11.base (by omega), B11.base (by omega), eI.out ▸ NP9⟩, N11⟩
      · have hk' : isK ((xs.drop k).getD 0 0) = false := by simpa using hk
        rw [hk'] at KN
        have hT : rcT (xs.drop k) = 2 := by unfold rcT; rw [if_neg (by rw [HM.out]; omega), eK.out, if_neg hk]
        obtain ⟨D1, D2⟩ := S.out.A.done (by rw [hT]; decide)
        have eC : Hid (cutC xs = 1) := by show _ = _; unfold cutC; rw [D2, hT]; rfl
        have eL : Hid (cutL xs = []) := by show _ = _; unfold cutL; rw [D2, hT]; rfl
        have eI := hide D1.symm
        clear D1 D2 hT
        clear b1 b2 eN eK YY RD P0 Z hk hk' h0 h1
        generalize (xs.drop k).getD 0 0 = x0 at *
        go_wp2_with fail
        refine KN.out.mono ?_
        rintro e w' ⟨rfl, hw⟩
        have hw := hw.symm
        subst hw
        clear KN
        have T9 := S.out.T
        have U9 := S.out.U
        have R9 := S.out.R
        have sT := S.out.T.lt
        have B9 : RowB wr wr.heap.size (.slice none 0 0) (cutL xs) := by
          rw [eL.out]
          exact RowB.nilN _ _
        have NP9 := noP_of S.out.R B9
        have N9 := S.out.N
        clear S
        have t0 := T9.c0
        have t1 := T9.c1
        have t2 := T9.c2
        have tf0 := T9.free 0
        have u0 := U9.c0
        have u1 := U9.c1
        have u2 := U9.c2
        have uf0 := U9.free 0
        have uf1 := U9.free 1
        have uf2 := U9.free 2
        have O10 := Only.setCell wr (w.heap.size + 1) 0 (.int .i64 1)
        have U10 := U9.onl O10 (by omega)
        have R10 := R9.of (w' := wr.setCell ⟨w.heap.size + 1, 0, none⟩ (.int .i64 1)) (fun i hi hB => O10.block i (by omega))
        have B10 := B9.only O10 (by omega)
        have N10 := N9.trans (O10.below (B := w.heap.size) (by omega))
        have U11 : RwC ((((wr.setCell ⟨w.heap.size + 1, 0, none⟩ (.int .i64 1)).setCell ⟨w.heap.size, 0, none⟩ (.int .i64 1)).setCell ⟨w.heap.size, 1, none⟩ (.slice ra p1 rc)).setCell ⟨w.heap.size, 2, none⟩ (.slice none 0 0)) w.heap.size [.int .i64 1, .slice ra p1 rc, (.slice none 0 0)] 36 := ((U10.set 0 _).set 1 _).set 2 _
        have O11 : Only w.heap.size (wr.setCell ⟨w.heap.size + 1, 0, none⟩ (.int .i64 1)) ((((wr.setCell ⟨w.heap.size + 1, 0, none⟩ (.int .i64 1)).setCell ⟨w.heap.size, 0, none⟩ (.int .i64 1)).setCell ⟨w.heap.size, 1, none⟩ (.slice ra p1 rc)).setCell ⟨w.heap.size, 2, none⟩ (.slice none 0 0)) := ((Only.setCell _ w.heap.size 0 _).trans (Only.setCell _ w.heap.size 1 _)).trans (Only.setCell _ w.heap.size 2 _)
        have R11 := R10.of (w' := (((wr.setCell ⟨w.heap.size + 1, 0, none⟩ (.int .i64 1)).setCell ⟨w.heap.size, 0, none⟩ (.int .i64 1)).setCell ⟨w.heap.size, 1, none⟩ (.slice ra p1 rc)).setCell ⟨w.heap.size, 2, none⟩ (.slice none 0 0)) (fun i hi hB => O11.block i (by omega))
        have B11 := B10.only O11 (by omega)
        have N11 := N10.trans (O11.below (B := w.heap.size) (Nat.le_refl _))
        have RR := U11.rangeG
        clear U9 T9 R9 B9 N9 O10 U10 R10 B10 N10 U11 O11
        go_wp2
        exact bodyPost_ret (v := .agg #[.int .i64 1, .slice ra p1 rc, (.slice none 0 0)]) (results_cellG Tryd.results15 _ _ w.heap.size [.int .i64 1, .slice ra p1 rc, (.slice none 0 0)] d1 rfl RR hd1 hrow1 iRl) rfl ⟨⟨_, bs, _, by rw [eC.out], eI.out ▸ R11.base (by omega), B11.base (by omega), eI.out ▸ NP9⟩, N11⟩
end Go.Proofs.YtcempddbcfigbaaDoor
