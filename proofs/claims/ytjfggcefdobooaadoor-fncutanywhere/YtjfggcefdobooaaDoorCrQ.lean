
/-
  The program's CutRecords.
-/
import Derived.Test.YtjfggcefdobooaaDoorCrP
namespace Go.Proofs.YtjfggcefdobooaaDoor
set_option maxRecDepth 100000
open Go Go.RowKit

theorem iRl : (Tryd.prog.info? 31).map (·.size) = some 3 := by kernel_rfl
theorem rowRl : ∃ d, Tryd.prog.underlying 31 = some d ∧ d.isRow = true := ⟨_, Tryd.underlying31, rfl⟩
/-- The answer: the code, a row of records, the rest; all of it made by the call, no two lists in one block. -/
def NewC (B : Nat) (w' : World) (e : Ending) (xs : List Int) : Prop :=
  ∃ v bs vr, e = .returned (.agg #[.int .i64 (cutC xs), v, vr]) ∧ IRow w' B v (cutR xs) bs ∧ RowB w' B vr (cutL xs) ∧ (∀ p, vr.ownBlock = some p → NoP p v (cutR xs) bs)
def slL : Value → Nat
  | .slice _ n _ => n
  | _ => 0
theorem rcX_code {a0 a1 a2 : Addr} (d01 : a0 ≠ a1) (d02 : a0 ≠ a2) (d12 : a1 ≠ a2) {t : Nat} {x : Addr} (h : rcX a0 a1 a2 t = some x) (h3 : t ≤ 3) : ccN a1 a2 (some x) = (t : Int) - 1 ∧ (decide (some x = some a0) = true ↔ t = 1) := by
  match t, h, h3 with
  | 1, h, _ =>
    obtain rfl := Option.some.inj h
    refine ⟨?_, by simp⟩
    unfold ccN
    rw [if_neg (fun e => d01 (Option.some.inj e)), if_neg (fun e => d02 (Option.some.inj e))]
    rfl
  | 2, h, _ =>
    obtain rfl := Option.some.inj h
    refine ⟨?_, by simp [Ne.symm d01]⟩
    unfold ccN
    rw [if_pos rfl]
    rfl
  | 3, h, _ =>
    obtain rfl := Option.some.inj h
    refine ⟨?_, by simp [Ne.symm d02]⟩
    unfold ccN
    rw [if_neg (fun e => d12 (Option.some.inj e).symm), if_pos rfl]
    rfl
theorem rcT_le (ys : List Int) : rcT ys ≤ 3 := by
  unfold rcT
  repeat' split
  all_goals omega
theorem rcX_sen {w : World} {a0 a1 a2 : Addr} (h0 : Sen w 0 a0) (h1 : Sen w 1 a1) (h2 : Sen w 2 a2) {t : Nat} {x : Addr} (h : rcX a0 a1 a2 t = some x) : ∀ a, some x = some a → ∃ ca ta, w.heap[a.block]? = some (.cells ca ta (0, 0)) := by
  rintro a e
  obtain rfl := Option.some.inj e
  match t, h with
  | 1, h =>
    obtain rfl := Option.some.inj h
    exact h0.b
  | 2, h =>
    obtain rfl := Option.some.inj h
    exact h1.b
  | t + 3, h =>
    obtain rfl := Option.some.inj h
    exact h2.b
theorem noP_of {w w' : World} {B : Nat} {v vr : Value} {its : List (Int × List Int)} {bs : List Plc} {ys : List Int} (R : IRow w B v its bs) (h : RowB w' w.heap.size vr ys) : ∀ p, vr.ownBlock = some p → NoP p v its bs := fun p hp => by
  have := (World.ownsRow.lt h p hp).1
  exact ⟨fun e => by have := (R.o.lt p e).2; omega, fun i hi h0 => by have := R.lt hi h0; omega⟩
set_option maxHeartbeats 8000000 in
theorem implCut_any (w : World) (g : Nat) (a : Option Addr) (c : Nat) (xs : List Int) (hr : Rd w g a .u8 xs) (hb : Byt xs) (hc0 : a = none → c = 0) (hc : xs.length ≤ c) (hn : xs.length ≤ 1048576) (a0 a1 a2 : Addr) (h0 : Sen w 0 a0) (h1 : Sen w 1 a1) (h2 : Sen w 2 a2) (d01 : a0 ≠ a1) (d02 : a0 ≠ a2) (d12 : a1 ≠ a2) :
    Calls Tryd.prog 9 #[.slice a xs.length c] w fun e w' => NewC w.heap.size w' e xs ∧ Below w.heap.size w w' := by
  obtain ⟨d1, hd1, hrow1⟩ := rowRl
  have n0 : Below w.heap.size w (w.alloc (.cells #[.int .i64 0, .slice none 0 0, .slice none 0 0] 31)) := (Below.refl _ _).alloc (Nat.le_refl _) _
  have U0 : RwC (w.alloc (.cells #[.int .i64 0, .slice none 0 0, .slice none 0 0] 31)) w.heap.size [.int .i64 0, .slice none 0 0, .slice none 0 0] 31 := RwC.new w _ _
  have z0 : (w.alloc (.cells #[.int .i64 0, .slice none 0 0, .slice none 0 0] 31)).heap.size = w.heap.size + 1 := by simp
  have n1 : Below w.heap.size w ((w.alloc (.cells #[.int .i64 0, .slice none 0 0, .slice none 0 0] 31)).alloc (.cells #[.int .i64 0, .slice none 0 0, .slice none 0 0] 31)) := n0.alloc (by simp) _
  have U1 := U0.push (.cells #[.int .i64 0, .slice none 0 0, .slice none 0 0] 31)
  have T1 : RwC ((w.alloc (.cells #[.int .i64 0, .slice none 0 0, .slice none 0 0] 31)).alloc (.cells #[.int .i64 0, .slice none 0 0, .slice none 0 0] 31)) (w.heap.size + 1) [.int .i64 0, .slice none 0 0, .slice none 0 0] 31 := by
    have := RwC.new (w.alloc (.cells #[.int .i64 0, .slice none 0 0, .slice none 0 0] 31)) [.int .i64 0, .slice none 0 0, .slice none 0 0] 31
    rw [z0] at this
    exact this
  have Z1 : Hid (w.heap.size + 2 ≤ ((w.alloc (.cells #[.int .i64 0, .slice none 0 0, .slice none 0 0] 31)).alloc (.cells #[.int .i64 0, .slice none 0 0, .slice none 0 0] 31)).heap.size) := by show _ ≤ _; simp
  have FR := hide fun W a m c k hm hr hc N => firstR_any w W g a c m k xs hm hr hb hc hn a0 a1 a2 h0 h1 h2 N
  have HB := hide (And.intro hb hn)
  have HS := hide (And.intro h0 (And.intro h1 h2))
  have HD := hide (And.intro d01 (And.intro d02 d12))
  have HR := hide (And.intro hr (And.intro hc0 hc))
  clear n0 U0 z0 hb hn h0 h1 h2 d01 d02 d12 hr hc0 hc
  have er1 := er_eq
  have er2 := nil_eq
  go_enter Tryd.func9, Tryd.ntmps9
  go_wp2_with fail
  generalize (w.alloc (.cells #[.int .i64 0, .slice none 0 0, .slice none 0 0] 31)).alloc (.cells #[.int .i64 0, .slice none 0 0, .slice none 0 0] 31) = W1 at *
  refine (FR.out W1 a xs.length c 0 (by simp) HR.out.1 HR.out.2.2 n1).mono ?_
  rintro e w2 ⟨b2, K, ad, n, cd, ev, rfl, S2⟩
  have V3 := RwC.new w2 [.int .i64 K, .slice ad n cd] 25
  have n3 : Below w2.heap.size w2 (w2.alloc (.cells #[.int .i64 K, .slice ad n cd] 25)) := (Below.refl _ _).alloc (Nat.le_refl _) _
  have N3 := nxt (nxt n1 b2) n3
  have U3 := (U1.up b2).up n3
  have T3 := (T1.up b2).up n3
  have S3 := S2.up n3
  have q3 : Hid (w.heap.size + 2 ≤ w2.heap.size) := by show _ ≤ _; have := b2.size; have := Z1.out; omega
  have ST : Hid (CSt w (w2.alloc (.cells #[.int .i64 K, .slice ad n cd] 25)) g w2.heap.size xs a0 a1 a2 0 xs.length a c [] [] (.slice none 0 0) K ad n cd ev W1.heap.size) := ⟨by simp, HR.out.2.2, HR.out.2.1, HR.out.1, Ahc.zero xs, IRow.nil _ _, NoP.nil _, T3, U3, V3, S3, Z1.out, fun i h => absurd h (by simp), (fun k h => nomatch h), N3, q3.out⟩
  clear V3 n3 N3 U3 T3 S3 S2 b2 U1 T1 n1 Z1
  go_upto_region 3 with fail
  generalize w2.alloc (.cells #[.int .i64 K, .slice ad n cd] 25) = W3 at *
  go_loopw [0, 5] (fun s e wr => ∃ (k m : Nat) (a' : Option Addr) (c' : Nat) (its : List (Int × List Int)) (bs : List Plc) (v : Value) (K : Int) (ad : Option Addr) (n cd M : Nat) (ev : Value), s = .slice a' m c' ∧ ev = e ∧ Hid (CSt w wr g w2.heap.size xs a0 a1 a2 k m a' c' its bs v K ad n cd ev M)) (fun s _ _ => slL s)
  case atStart => exact ⟨_, _, _, _, _, _, _, _, _, _, _, _, _, rfl, rfl, ST⟩
  case round =>
    clear ST
    obtain ⟨k, m, a', c', its, bs, v, K, ad, n, cd, M, e, rfl, rfl, C⟩ := hrel
    by_cases ht : rcT (xs.drop k) = 0
    · obtain ⟨v', w4, ap, x1, f1, its', bs', CM, hl', h3⟩ := C.out.app HB.out.1 HB.out.2 ht
      have he : e = .nilIface := by
        rcases C.out.S with ⟨-, he, -⟩ | ⟨hx, -⟩
        · exact he
        · exact absurd ht hx
      subst he
      have r0 := C.out.T.c1
      have r1 := C.out.V.c0
      have r2 := C.out.V.c1
      have r3 := CM.V.c1
      have hm := C.out.hm
      have mc := C.out.mc
      have m5 : m ≤ 1048576 := by rw [hm, List.length_drop]; have := HB.out.2; omega
      obtain ⟨off, ha, -⟩ := C.out.rd (by omega)
      subst ha
      obtain ⟨ra, rc, ev, -⟩ := C.out.R.slice
      obtain ⟨ra', rc', ev', -⟩ := CM.R.slice
      have CH := hide CM
      have FX := hide (FR.out (w4.setCell ⟨w.heap.size + 1, 1, none⟩ v'))
      have HL : Hid (its'.length ≤ 1048576) := hl'
      have HM := hide hm
      clear hm hl' CM
      generalize its.length = p1 at ev
      generalize its'.length = p2 at ev'
      subst ev ev'
      have i3 : (3 : Int) + (n : Int) ≤ (m : Int) := by omega
      have i4 : (3 : Int) + (n : Int) ≤ (c' : Int) := by omega
      have RN : Hid (∀ a'' : Option Addr, ((xs.drop (k + (3 + n))).length = 0 ∨ a'' = some ⟨g, off + (3 + n), none⟩) → Rd w g a'' .u8 (xs.drop (k + (3 + n)))) := fun a'' hh h0 => by
        rcases hh with hh | rfl
        · omega
        · obtain ⟨off', e1, hc⟩ := C.out.rd (by have := HM.out; omega)
          simp only [Option.some.injEq, Addr.mk.injEq, true_and, and_true] at e1
          subst e1
          refine ⟨off + (3 + n), rfl, fun i hi => ?_⟩
          rw [Nat.add_assoc, hc (3 + n + i) (by rw [List.length_drop] at hi ⊢; omega), List.getD_eq_getElem?_getD, List.getD_eq_getElem?_getD, List.getElem?_drop, List.getElem?_drop, show k + (3 + n) + i = k + (3 + n + i) by omega]
      have LN : Hid ((xs.drop (k + (3 + n))).length = m - (3 + n)) := by
        show _ = _
        have := HM.out
        rw [List.length_drop] at this ⊢
        omega
      clear C
      go_wp2_with (at_builtin; refine Lib.wpList_append_run _ rfl _ _ 23 23 rfl _ _ rfl rfl _ _ ap ?_)
      all_goals
        clear ap
        go_wp2_with fail
      all_goals
        refine (FX.out _ _ _ (k + (3 + n)) (by rw [LN.out]; try omega) (by first | exact RN.out _ (.inr rfl) | exact RN.out _ (.inl (by rw [LN.out]; omega))) (by omega) CH.out.N).mono ?_
        rintro e w6 ⟨b6, K', ad', n', cd', ev', rfl, S6⟩
        have V6 := CH.out.V.up b6
        have V7 : RwC ((w6.setCell ⟨w2.heap.size, 0, none⟩ (.int .i64 K')).setCell ⟨w2.heap.size, 1, none⟩ (.slice ad' n' cd')) w2.heap.size [.int .i64 K', .slice ad' n' cd'] 25 := (V6.set 0 _).set 1 _
        have O7 : Only w2.heap.size w6 ((w6.setCell ⟨w2.heap.size, 0, none⟩ (.int .i64 K')).setCell ⟨w2.heap.size, 1, none⟩ (.slice ad' n' cd')) := (Only.setCell _ w2.heap.size 0 _).trans (Only.setCell _ w2.heap.size 1 _)
        have ST := hide fun a'' c'' mc z rd => CSm.next (m := m - (3 + n)) (a' := a'') (c' := c'') (g := g) CH.out q3.out b6 S6 O7 V7 LN.out.symm mc z rd
        have x0 := V6.c0
        have x1 := V6.c1
        have f0 := V6.free 0
        have f1 := V6.free 1
        clear V6 V7 O7 S6 b6
        go_wp2
        go_roundw
        case rel => exact ⟨k + (3 + n), _, _, _, _, _, _, _, _, _, _, _, _, by first | rfl | (congr 1; omega), rfl, ST.out _ _ (by omega) (by simp) (by first | exact RN.out _ (.inr rfl) | exact RN.out _ (.inl (by rw [LN.out]; omega)))⟩
        case measure => simp [slL]; omega
    · obtain ⟨x, hx, he⟩ : ∃ x, rcX a0 a1 a2 (rcT (xs.drop k)) = some x ∧ e = erV x := by
        rcases C.out.S with ⟨h, -⟩ | ⟨-, h⟩
        · exact absurd h ht
        · exact h
      subst he
      obtain ⟨D1, D2⟩ := C.out.A.done ht
      obtain ⟨E1, E2⟩ := rcX_code HD.out.1 HD.out.2.1 HD.out.2.2 hx (rcT_le _)
      have eC' : cutC xs = ccN a1 a2 (some x) := by unfold cutC; rw [D2, E1]
      have eL' : cutL xs = if rcT (xs.drop k) = 1 then xs.drop k else [] := by unfold cutL; rw [D2]
      have I0 := hide (isErr_any (some x) a0 wr (rcX_sen (HS.out.1.up C.out.N) (HS.out.2.1.up C.out.N) (HS.out.2.2.up C.out.N) hx) (HS.out.1.up C.out.N).b)
      have CC := hide fun W (N : Below w.heap.size w W) => cutCode_any W (some x) a1 a2 (rcX_sen (HS.out.1.up N) (HS.out.2.1.up N) (HS.out.2.2.up N) hx) (HS.out.2.1.up N) (HS.out.2.2.up N)
      have cg := (HS.out.1.up C.out.N).c
      obtain ⟨cN, hcN⟩ : ∃ cN, cN = ccN a1 a2 (some x) := ⟨_, rfl⟩
      rw [← hcN] at CC eC'
      have eC := hide eC'
      have eI := hide D1.symm
      clear hcN eC' D1 D2 E1 FR
      obtain ⟨ra, rc, ev, -⟩ := C.out.R.slice
      obtain ⟨p1, hp1⟩ : ∃ p1, p1 = its.length := ⟨_, rfl⟩
      rw [← hp1] at ev
      subst ev
      clear hp1
      simp only [Option.elim_some, erV] at I0 CC cg
      unfold erV
      by_cases h1 : rcT (xs.drop k) = 1
      · rw [E2.2 h1] at I0
        rw [if_pos h1] at eL'
        have eL := hide eL'
        clear eL' E2 hx ht h1
        have CL := hide (cloneR_any wr g a' c' (xs.drop k) (C.out.rd.up C.out.N) C.out.z (by rw [← C.out.hm]; have := HB.out.2; rw [C.out.hm, List.length_drop]; omega))
        rw [← C.out.hm] at CL
        go_wp2_with fail
        refine I0.out.mono ?_
        rintro e w' ⟨rfl, hw⟩
        have hw := hw.symm
        subst hw
        have C8 := C
        clear I0 C
        go_wp2_with fail
        refine CL.out.mono ?_
        rintro e w8 ⟨vr, rfl, R8, b8⟩
        obtain ⟨av, cv, gv, ev, -⟩ := R8.own
        rw [← C8.out.hm] at ev
        subst ev
        have T8 := C8.out.T.up b8
        have U8 := C8.out.U.up b8
        have s8 := b8.size
        have sT := C8.out.T.lt
        have O9 := Only.setCell w8 (w.heap.size + 1) 2 (.slice av m cv)
        have T9 : RwC (w8.setCell ⟨w.heap.size + 1, 2, none⟩ (.slice av m cv)) (w.heap.size + 1) [.int .i64 0, .slice ra p1 rc, .slice av m cv] 31 := T8.set 2 _
        have U9 := U8.onl O9 (by omega)
        have R9 := (C8.out.R.of (w' := w8) (fun i hi _ => b8.block i hi)).of (w' := w8.setCell ⟨w.heap.size + 1, 2, none⟩ (.slice av m cv)) (fun i hi hB => O9.block i (by omega))
        have B9 : RowB (w8.setCell ⟨w.heap.size + 1, 2, none⟩ (.slice av m cv)) wr.heap.size (.slice av m cv) (cutL xs) := by
          rw [eL.out]
          exact R8.only O9 (by omega)
        have NP9 := noP_of C8.out.R R8
        have N9 := (nxt C8.out.N b8).trans (O9.below (B := w.heap.size) (by omega))
        have t2 := T8.c2
        have tf2 := T8.free 2
        clear T8 U8 R8 b8 O9 CL C8
        go_wp2_with fail
        generalize w8.setCell ⟨w.heap.size + 1, 2, none⟩ (.slice av m cv) = W9 at *
        refine (CC.out W9 N9).mono ?_
        rintro e w' ⟨rfl, hw⟩
        have hw := hw.symm
        subst hw
        clear CC
        have t0 := T9.c0
        have t1 := T9.c1
        have t2 := T9.c2
        have tf0 := T9.free 0
        have u0 := U9.c0
        have u1 := U9.c1
        have u2 := U9.c2
        have uf0 := U9.free 0
        have uf1 := U9.free 1
        have uf2 := U9.free 2
        have O10 := Only.setCell W9 (w.heap.size + 1) 0 (.int .i64 cN)
        have U10 := U9.onl O10 (by omega)
        have R10 := R9.of (w' := W9.setCell ⟨w.heap.size + 1, 0, none⟩ (.int .i64 cN)) (fun i hi hB => O10.block i (by omega))
        have B10 := B9.only O10 (by omega)
        have N10 := N9.trans (O10.below (B := w.heap.size) (by omega))
        have U11 : RwC ((((W9.setCell ⟨w.heap.size + 1, 0, none⟩ (.int .i64 cN)).setCell ⟨w.heap.size, 0, none⟩ (.int .i64 cN)).setCell ⟨w.heap.size, 1, none⟩ (.slice ra p1 rc)).setCell ⟨w.heap.size, 2, none⟩ (.slice av m cv)) w.heap.size [.int .i64 cN, .slice ra p1 rc, (.slice av m cv)] 31 := ((U10.set 0 _).set 1 _).set 2 _
        have O11 : Only w.heap.size (W9.setCell ⟨w.heap.size + 1, 0, none⟩ (.int .i64 cN)) ((((W9.setCell ⟨w.heap.size + 1, 0, none⟩ (.int .i64 cN)).setCell ⟨w.heap.size, 0, none⟩ (.int .i64 cN)).setCell ⟨w.heap.size, 1, none⟩ (.slice ra p1 rc)).setCell ⟨w.heap.size, 2, none⟩ (.slice av m cv)) := ((Only.setCell _ w.heap.size 0 _).trans (Only.setCell _ w.heap.size 1 _)).trans (Only.setCell _ w.heap.size 2 _)
        have R11 := R10.of (w' := (((W9.setCell ⟨w.heap.size + 1, 0, none⟩ (.int .i64 cN)).setCell ⟨w.heap.size, 0, none⟩ (.int .i64 cN)).setCell ⟨w.heap.size, 1, none⟩ (.slice ra p1 rc)).setCell ⟨w.heap.size, 2, none⟩ (.slice av m cv)) (fun i hi hB => O11.block i (by omega))
        have B11 := B10.only O11 (by omega)
        have N11 := N10.trans (O11.below (B := w.heap.size) (Nat.le_refl _))
        have RR := U11.rangeG
        clear U9 T9 R9 B9 N9 O10 U10 R10 B10 N10 U11 O11
        go_wp2
        exact bodyPost_ret (v := .agg #[.int .i64 cN, .slice ra p1 rc, (.slice av m cv)]) (results_cellG Tryd.results9 _ _ w.heap.size [.int .i64 cN, .slice ra p1 rc, (.slice av m cv)] d1 rfl RR hd1 hrow1 iRl) rfl ⟨⟨_, bs, _, by rw [eC.out], eI.out ▸ R11.base (by omega), B11.base (by omega), eI.out ▸ NP9⟩, N11⟩
      · rw [Bool.eq_false_iff.2 (fun h => h1 (E2.1 h))] at I0
        rw [if_neg h1] at eL'
        have eL := hide eL'
        clear eL' E2 hx ht h1
        have C8 := C
        have T9 := C8.out.T
        have U9 := C8.out.U
        have R9 := C8.out.R
        have sT := C8.out.T.lt
        have B9 : RowB wr wr.heap.size (.slice none 0 0) (cutL xs) := by
          rw [eL.out]
          exact RowB.nilN _ _
        have NP9 := noP_of C8.out.R B9
        have N9 := C8.out.N
        clear C C8
        go_wp2_with fail
        refine I0.out.mono ?_
        rintro e w' ⟨rfl, hw⟩
        have hw := hw.symm
        subst hw
        clear I0
        go_wp2_with fail
        obtain ⟨W9, hW9⟩ : ∃ W, W = wr := ⟨_, rfl⟩
        rw [← hW9] at T9 U9 R9 N9 ⊢
        have B9' : RowB W9 wr.heap.size (.slice none 0 0) (cutL xs) := by rw [hW9]; exact B9
        replace B9 := B9'
        clear B9' hW9
        refine (CC.out W9 N9).mono ?_
        rintro e w' ⟨rfl, hw⟩
        have hw := hw.symm
        subst hw
        clear CC
        have t0 := T9.c0
        have t1 := T9.c1
        have t2 := T9.c2
        have tf0 := T9.free 0
        have u0 := U9.c0
        have u1 := U9.c1
        have u2 := U9.c2
        have uf0 := U9.free 0
        have uf1 := U9.free 1
        have uf2 := U9.free 2
        have O10 := Only.setCell W9 (w.heap.size + 1) 0 (.int .i64 cN)
        have U10 := U9.onl O10 (by omega)
        have R10 := R9.of (w' := W9.setCell ⟨w.heap.size + 1, 0, none⟩ (.int .i64 cN)) (fun i hi hB => O10.block i (by omega))
        have B10 := B9.only O10 (by omega)
        have N10 := N9.trans (O10.below (B := w.heap.size) (by omega))
        have U11 : RwC ((((W9.setCell ⟨w.heap.size + 1, 0, none⟩ (.int .i64 cN)).setCell ⟨w.heap.size, 0, none⟩ (.int .i64 cN)).setCell ⟨w.heap.size, 1, none⟩ (.slice ra p1 rc)).setCell ⟨w.heap.size, 2, none⟩ (.slice none 0 0)) w.heap.size [.int .i64 cN, .slice ra p1 rc, (.slice none 0 0)] 31 := ((U10.set 0 _).set 1 _).set 2 _
        have O11 : Only w.heap.size (W9.setCell ⟨w.heap.size + 1, 0, none⟩ (.int .i64 cN)) ((((W9.setCell ⟨w.heap.size + 1, 0, none⟩ (.int .i64 cN)).setCell ⟨w.heap.size, 0, none⟩ (.int .i64 cN)).setCell ⟨w.heap.size, 1, none⟩ (.slice ra p1 rc)).setCell ⟨w.heap.size, 2, none⟩ (.slice none 0 0)) := ((Only.setCell _ w.heap.size 0 _).trans (Only.setCell _ w.heap.size 1 _)).trans (Only.setCell _ w.heap.size 2 _)
        have R11 := R10.of (w' := (((W9.setCell ⟨w.heap.size + 1, 0, none⟩ (.int .i64 cN)).setCell ⟨w.heap.size, 0, none⟩ (.int .i64 cN)).setCell ⟨w.heap.size, 1, none⟩ (.slice ra p1 rc)).setCell ⟨w.heap.size, 2, none⟩ (.slice none 0 0)) (fun i hi hB => O11.block i (by omega))
        have B11 := B10.only O11 (by omega)
        have N11 := N10.trans (O11.below (B := w.heap.size) (Nat.le_refl _))
        have RR := U11.rangeG
        clear U9 T9 R9 B9 N9 O10 U10 R10 B10 N10 U11 O11
        go_wp2
        exact bodyPost_ret (v := .agg #[.int .i64 cN, .slice ra p1 rc, (.slice none 0 0)]) (results_cellG Tryd.results9 _ _ w.heap.size [.int .i64 cN, .slice ra p1 rc, (.slice none 0 0)] d1 rfl RR hd1 hrow1 iRl) rfl ⟨⟨_, bs, _, by rw [eC.out], eI.out ▸ R11.base (by omega), B11.base (by omega), eI.out ▸ NP9⟩, N11⟩
end Go.Proofs.YtjfggcefdobooaaDoor
