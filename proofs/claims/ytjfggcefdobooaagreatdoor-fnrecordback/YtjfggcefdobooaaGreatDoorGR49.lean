import Derived.Test.YtjfggcefdobooaaGreatDoorGR48
import Derived.Test.YtjfggcefdobooaaGreatDoorRows
import Derived.Test.YtjfggcefdobooaaGreatDoorGR47
import Derived.Test.YtjfggcefdobooaaGreatDoorGR43
import Derived.Deep.RegionHeld3
namespace Go.Proofs.YtjfggcefdobooaaGreatDoor
set_option maxRecDepth 100000
open Go Go.RowKit
theorem iRl : (Tryz.prog.info? 34).map (·.size) = some 3 := by kernel_rfl
theorem rowRl : ∃ d, Tryz.prog.underlying 34 = some d ∧ d.isRow = true := ⟨_, Tryz.underlying34, rfl⟩
def NewC (B : Nat) (w' : World) (e : Ending) (xs : List Int) : Prop :=
  ∃ v bs vr, e = .returned (.agg #[.int .i64 (cutC xs), v, vr]) ∧ IRow w' B v (cutR xs) bs ∧ RowB w' B vr (cutL xs) ∧ (∀ p, vr.ownBlock = some p → NoP p v (cutR xs) bs)
def slL : Value → Nat
  | .slice _ n _ => n
  | _ => 0
theorem rcX_code {a0 a1 a2 : Addr} (d01 : a0 ≠ a1) (d02 : a0 ≠ a2) (d12 : a1 ≠ a2) {t : Nat} {x : Addr} (h : rcX a0 a1 a2 t = some x) (h3 : t ≤ 3) : ccN a1 a2 (some x) = (t : Int) - 1 ∧ (decide (some x = some a0) = true ↔ t = 1) := by
  match t, h, h3 with
  | 1, h, _ =>
    obtain rfl := Option.some.inj h
    refine ⟨?_, by simp⟩
    unfold ccN
    rw [if_neg (fun e => d01 (Option.some.inj e)), if_neg (fun e => d02 (Option.some.inj e))]
    rfl
  | 2, h, _ =>
    obtain rfl := Option.some.inj h
    refine ⟨?_, by simp [Ne.symm d01]⟩
    unfold ccN
    rw [if_pos rfl]
    rfl
  | 3, h, _ =>
    obtain rfl := Option.some.inj h
    refine ⟨?_, by simp [Ne.symm d02]⟩
    unfold ccN
    rw [if_neg (fun e => d12 (Option.some.inj e).symm), if_pos rfl]
    rfl
theorem rcT_le (ys : List Int) : rcT ys ≤ 3 := by
  unfold rcT
  repeat' split
  all_goals omega
theorem rcX_sen {w : World} {a0 a1 a2 : Addr} (h0 : Sen w 0 a0) (h1 : Sen w 1 a1) (h2 : Sen w 5 a2) {t : Nat} {x : Addr} (h : rcX a0 a1 a2 t = some x) : ∀ a, some x = some a → ∃ ca ta, w.heap[a.block]? = some (.cells ca ta (0, 0)) := by
  rintro a e
  obtain rfl := Option.some.inj e
  match t, h with
  | 1, h =>
    obtain rfl := Option.some.inj h
    exact h0.b
  | 2, h =>
    obtain rfl := Option.some.inj h
    exact h1.b
  | t + 3, h =>
    obtain rfl := Option.some.inj h
    exact h2.b
theorem noP_of {w w' : World} {B : Nat} {v vr : Value} {its : List (Int × List Int)} {bs : List Plc} {ys : List Int} (R : IRow w B v its bs) (h : RowB w' w.heap.size vr ys) : ∀ p, vr.ownBlock = some p → NoP p v its bs := fun p hp => by
  have := (World.ownsRow.lt h p hp).1
  exact ⟨fun e => by have := (R.o.lt p e).2; omega, fun i hi h0 => by have := R.lt hi h0; omega⟩
set_option maxHeartbeats 8000000 in
theorem implCut_any (w : World) (g : Nat) (a : Option Addr) (c : Nat) (xs : List Int) (hr : Rd w g a .u8 xs) (hb : Byt xs) (hc0 : a = none → c = 0) (hc : xs.length ≤ c) (hn : xs.length ≤ 1048576) (a0 a1 a2 : Addr) (h0 : Sen w 0 a0) (h1 : Sen w 1 a1) (h2 : Sen w 5 a2) (d01 : a0 ≠ a1) (d02 : a0 ≠ a2) (d12 : a1 ≠ a2) :
    Calls Tryz.prog 9 #[.slice a xs.length c] w fun e w' => NewC w.heap.size w' e xs ∧ Below w.heap.size w w' := by
  obtain ⟨d1, hd1, hrow1⟩ := rowRl
  have n0 : Below w.heap.size w (w.alloc (.cells #[.int .i64 0, .slice none 0 0, .slice none 0 0] 34)) := (Below.refl _ _).alloc (Nat.le_refl _) _
  have U0 : RwC (w.alloc (.cells #[.int .i64 0, .slice none 0 0, .slice none 0 0] 34)) w.heap.size [.int .i64 0, .slice none 0 0, .slice none 0 0] 34 := RwC.new w _ _
  have z0 : (w.alloc (.cells #[.int .i64 0, .slice none 0 0, .slice none 0 0] 34)).heap.size = w.heap.size + 1 := by simp
  have n1 : Below w.heap.size w ((w.alloc (.cells #[.int .i64 0, .slice none 0 0, .slice none 0 0] 34)).alloc (.cells #[.int .i64 0, .slice none 0 0, .slice none 0 0] 34)) := n0.alloc (by simp) _
  have U1 := U0.push (.cells #[.int .i64 0, .slice none 0 0, .slice none 0 0] 34)
  have T1 : RwC ((w.alloc (.cells #[.int .i64 0, .slice none 0 0, .slice none 0 0] 34)).alloc (.cells #[.int .i64 0, .slice none 0 0, .slice none 0 0] 34)) (w.heap.size + 1) [.int .i64 0, .slice none 0 0, .slice none 0 0] 34 := by
    have := RwC.new (w.alloc (.cells #[.int .i64 0, .slice none 0 0, .slice none 0 0] 34)) [.int .i64 0, .slice none 0 0, .slice none 0 0] 34
    rw [z0] at this
    exact this
  have Z1 : Hid (w.heap.size + 2 ≤ ((w.alloc (.cells #[.int .i64 0, .slice none 0 0, .slice none 0 0] 34)).alloc (.cells #[.int .i64 0, .slice none 0 0, .slice none 0 0] 34)).heap.size) := by show _ ≤ _; simp
  have FR := hide fun W a m c k hm hr hc N => firstR_any w W g a c m k xs hm hr hb hc hn a0 a1 a2 h0 h1 h2 N
  have HB := hide (And.intro hb hn)
  have HS := hide (And.intro h0 (And.intro h1 h2))
  have HD := hide (And.intro d01 (And.intro d02 d12))
  have HR := hide (And.intro hr (And.intro hc0 hc))
  clear n0 U0 z0 hb hn h0 h1 h2 d01 d02 d12 hr hc0 hc
  have er1 := er_eq
  have er2 := nil_eq
  go_enter Tryz.func9, Tryz.ntmps9
  go_wp2_with fail
  generalize (w.alloc (.cells #[.int .i64 0, .slice none 0 0, .slice none 0 0] 34)).alloc (.cells #[.int .i64 0, .slice none 0 0, .slice none 0 0] 34) = W1 at *
  refine (FR.out W1 a xs.length c 0 (by simp) HR.out.1 HR.out.2.2 n1).mono ?_
  rintro e w2 ⟨b2, K, ad, n, cd, ev, rfl, S2⟩
  have V3 := RwC.new w2 [.int .i64 K, .slice ad n cd] 31
  have n3 : Below w2.heap.size w2 (w2.alloc (.cells #[.int .i64 K, .slice ad n cd] 31)) := (Below.refl _ _).alloc (Nat.le_refl _) _
  have N3 := nxt (nxt n1 b2) n3
  have U3 := (U1.up b2).up n3
  have T3 := (T1.up b2).up n3
  have S3 := S2.up n3
  have q3 : Hid (w.heap.size + 2 ≤ w2.heap.size) := by show _ ≤ _; have := b2.size; have := Z1.out; omega
  have ST : Hid (CSt w (w2.alloc (.cells #[.int .i64 K, .slice ad n cd] 31)) g w2.heap.size xs a0 a1 a2 0 xs.length a c [] [] (.slice none 0 0) K ad n cd ev W1.heap.size) := ⟨by simp, HR.out.2.2, HR.out.2.1, HR.out.1, Ahc.zero xs, IRow.nil _ _, NoP.nil _, T3, U3, V3, S3, Z1.out, fun i h => absurd h (by simp), (fun k h => nomatch h), N3, q3.out⟩
  clear V3 n3 N3 U3 T3 S3 S2 b2 U1 T1 n1 Z1
  go_upto_region 3 with fail
  generalize w2.alloc (.cells #[.int .i64 K, .slice ad n cd] 31) = W3 at *
  go_loopw [0, 5] (fun s e wr => ∃ (k m : Nat) (a' : Option Addr) (c' : Nat) (its : List (Int × List Int)) (bs : List Plc) (v : Value) (K : Int) (ad : Option Addr) (n cd M : Nat) (ev : Value), s = .slice a' m c' ∧ ev = e ∧ Hid (CSt w wr g w2.heap.size xs a0 a1 a2 k m a' c' its bs v K ad n cd ev M)) (fun s _ _ => slL s)
  case atStart => exact ⟨_, _, _, _, _, _, _, _, _, _, _, _, _, rfl, rfl, ST⟩
  case round =>
    clear ST
    obtain ⟨k, m, a', c', its, bs, v, K, ad, n, cd, M, e, rfl, rfl, C⟩ := hrel
    by_cases ht : rcT (xs.drop k) = 0
    · obtain ⟨v', w4, ap, x1, f1, its', bs', CM, hl', h3⟩ := C.out.app HB.out.1 HB.out.2 ht
      have he : e = .nilIface := by
        rcases C.out.S with ⟨-, he, -⟩ | ⟨hx, -⟩
        · exact he
        · exact absurd ht hx
      subst he
      have r0 := C.out.T.c1
      have r1 := C.out.V.c0
      have r2 := C.out.V.c1
      have r3 := CM.V.c1
      have hm := C.out.hm
      have mc := C.out.mc
      have m5 : m ≤ 1048576 := by rw [hm, List.length_drop]; have := HB.out.2; omega
      obtain ⟨off, ha, -⟩ := C.out.rd (by omega)
      subst ha
      obtain ⟨ra, rc, ev, -⟩ := C.out.R.slice
      obtain ⟨ra', rc', ev', -⟩ := CM.R.slice
      have CH := hide CM
      have FX := hide (FR.out (w4.setCell ⟨w.heap.size + 1, 1, none⟩ v'))
      have HL : Hid (its'.length ≤ 1048576) := hl'
      have HM := hide hm
      clear hm hl' CM
      generalize its.length = p1 at ev
      generalize its'.length = p2 at ev'
      subst ev ev'
      have i3 : (3 : Int) + (n : Int) ≤ (m : Int) := by omega
      have i4 : (3 : Int) + (n : Int) ≤ (c' : Int) := by omega
      have RN : Hid (∀ a'' : Option Addr, ((xs.drop (k + (3 + n))).length = 0 ∨ a'' = some ⟨g, off + (3 + n), none⟩) → Rd w g a'' .u8 (xs.drop (k + (3 + n)))) := fun a'' hh h0 => by
        rcases hh with hh | rfl
        · omega
        · obtain ⟨off', e1, hc⟩ := C.out.rd (by have := HM.out; omega)
          simp only [Option.some.injEq, Addr.mk.injEq, true_and, and_true] at e1
          subst e1
          refine ⟨off + (3 + n), rfl, fun i hi => ?_⟩
          rw [Nat.add_assoc, hc (3 + n + i) (by rw [List.length_drop] at hi ⊢; omega), List.getD_eq_getElem?_getD, List.getD_eq_getElem?_getD, List.getElem?_drop, List.getElem?_drop, show k + (3 + n) + i = k + (3 + n + i) by omega]
      have LN : Hid ((xs.drop (k + (3 + n))).length = m - (3 + n)) := by
        show _ = _
        have := HM.out
        rw [List.length_drop] at this ⊢
        omega
      clear C
      go_wp2_with (at_builtin; refine Lib.wpList_append_run _ rfl _ _ 32 32 rfl _ _ rfl rfl _ _ ap ?_)
      all_goals
        clear ap
        go_wp2_with fail
      all_goals
        refine (FX.out _ _ _ (k + (3 + n)) (by rw [LN.out]; try omega) (by first | exact RN.out _ (.inr rfl) | exact RN.out _ (.inl (by rw [LN.out]; omega))) (by omega) CH.out.N).mono ?_
        rintro e w6 ⟨b6, K', ad', n', cd', ev', rfl, S6⟩
        have V6 := CH.out.V.up b6
        have V7 : RwC ((w6.setCell ⟨w2.heap.size, 0, none⟩ (.int .i64 K')).setCell ⟨w2.heap.size, 1, none⟩ (.slice ad' n' cd')) w2.heap.size [.int .i64 K', .slice ad' n' cd'] 31 := (V6.set 0 _).set 1 _
        have O7 : Only w2.heap.size w6 ((w6.setCell ⟨w2.heap.size, 0, none⟩ (.int .i64 K')).setCell ⟨w2.heap.size, 1, none⟩ (.slice ad' n' cd')) := (Only.setCell _ w2.heap.size 0 _).trans (Only.setCell _ w2.heap.size 1 _)
        have ST := hide fun a'' c'' mc z rd => CSm.next (m := m - (3 + n)) (a' := a'') (c' := c'') (g := g) CH.out q3.out b6 S6 O7 V7 LN.out.symm mc z rd
        have x0 := V6.c0
        have x1 := V6.c1
        have f0 := V6.free 0
        have f1 := V6.free 1
        clear V6 V7 O7 S6 b6
        go_wp2
        go_roundw
        case rel => exact ⟨k + (3 + n), _, _, _, _, _, _, _, _, _, _, _, _, by first | rfl | (congr 1; omega), rfl, ST.out _ _ (by omega) (by simp) (by first | exact RN.out _ (.inr rfl) | exact RN.out _ (.inl (by rw [LN.out]; omega)))⟩
        case measure => simp [slL]; omega
    · obtain ⟨x, hx, he⟩ : ∃ x, rcX a0 a1 a2 (rcT (xs.drop k)) = some x ∧ e = erV x := by
        rcases C.out.S with ⟨h, -⟩ | ⟨-, h⟩
        · exact absurd h ht
        · exact h
      subst he
      obtain ⟨D1, D2⟩ := C.out.A.done ht
      obtain ⟨E1, E2⟩ := rcX_code HD.out.1 HD.out.2.1 HD.out.2.2 hx (rcT_le _)
      have eC' : cutC xs = ccN a1 a2 (some x) := by unfold cutC; rw [D2, E1]
      have eL' : cutL xs = if rcT (xs.drop k) = 1 then xs.drop k else [] := by unfold cutL; rw [D2]
      have I0 := hide (isErr_any (some x) a0 wr (rcX_sen (HS.out.1.up C.out.N) (HS.out.2.1.up C.out.N) (HS.out.2.2.up C.out.N) hx) (HS.out.1.up C.out.N).b)
      have CC := hide fun W (N : Below w.heap.size w W) => cutCode_any W (some x) a1 a2 (rcX_sen (HS.out.1.up N) (HS.out.2.1.up N) (HS.out.2.2.up N) hx) (HS.out.2.1.up N) (HS.out.2.2.up N)
      have cg := (HS.out.1.up C.out.N).c
      obtain ⟨cN, hcN⟩ : ∃ cN, cN = ccN a1 a2 (some x) := ⟨_, rfl⟩
      rw [← hcN] at CC eC'
      have eC := hide eC'
      have eI := hide D1.symm
      clear hcN eC' D1 D2 E1 FR
      obtain ⟨ra, rc, ev, -⟩ := C.out.R.slice
      obtain ⟨p1, hp1⟩ : ∃ p1, p1 = its.length := ⟨_, rfl⟩
      rw [← hp1] at ev
      subst ev
      clear hp1
      simp only [Option.elim_some, erV] at I0 CC cg
      unfold erV
      by_cases h1 : rcT (xs.drop k) = 1
      · rw [E2.2 h1] at I0
        rw [if_pos h1] at eL'
        have eL := hide eL'
        clear eL' E2 hx ht h1
        have CL := hide (cloneR_any wr g a' c' (xs.drop k) (C.out.rd.up C.out.N) C.out.z (by rw [← C.out.hm]; have := HB.out.2; rw [C.out.hm, List.length_drop]; omega))
        rw [← C.out.hm] at CL
        go_wp2_with fail
        refine I0.out.mono ?_
        rintro e w' ⟨rfl, hw⟩
        have hw := hw.symm
        subst hw
        have C8 := C
        clear I0 C
        go_wp2_with fail
        refine CL.out.mono ?_
        rintro e w8 ⟨vr, rfl, R8, b8⟩
        obtain ⟨av, cv, gv, ev, -⟩ := R8.own
        rw [← C8.out.hm] at ev
        subst ev
        have T8 := C8.out.T.up b8
        have U8 := C8.out.U.up b8
        have s8 := b8.size
        have sT := C8.out.T.lt
        have O9 := Only.setCell w8 (w.heap.size + 1) 2 (.slice av m cv)
        have T9 : RwC (w8.setCell ⟨w.heap.size + 1, 2, none⟩ (.slice av m cv)) (w.heap.size + 1) [.int .i64 0, .slice ra p1 rc, .slice av m cv] 34 := T8.set 2 _
        have U9 := U8.onl O9 (by omega)
        have R9 := (C8.out.R.of (w' := w8) (fun i hi _ => b8.block i hi)).of (w' := w8.setCell ⟨w.heap.size + 1, 2, none⟩ (.slice av m cv)) (fun i hi hB => O9.block i (by omega))
        have B9 : RowB (w8.setCell ⟨w.heap.size + 1, 2, none⟩ (.slice av m cv)) wr.heap.size (.slice av m cv) (cutL xs) := by
          rw [eL.out]
          exact R8.only O9 (by omega)
        have NP9 := noP_of C8.out.R R8
        have N9 := (nxt C8.out.N b8).trans (O9.below (B := w.heap.size) (by omega))
        have t2 := T8.c2
        have tf2 := T8.free 2
        clear T8 U8 R8 b8 O9 CL C8
        go_wp2_with fail
        generalize w8.setCell ⟨w.heap.size + 1, 2, none⟩ (.slice av m cv) = W9 at *
        refine (CC.out W9 N9).mono ?_
        rintro e w' ⟨rfl, hw⟩
        have hw := hw.symm
        subst hw
        clear CC
        have t0 := T9.c0
        have t1 := T9.c1
        have t2 := T9.c2
        have tf0 := T9.free 0
        have u0 := U9.c0
        have u1 := U9.c1
        have u2 := U9.c2
        have uf0 := U9.free 0
        have uf1 := U9.free 1
        have uf2 := U9.free 2
        have O10 := Only.setCell W9 (w.heap.size + 1) 0 (.int .i64 cN)
        have U10 := U9.onl O10 (by omega)
        have R10 := R9.of (w' := W9.setCell ⟨w.heap.size + 1, 0, none⟩ (.int .i64 cN)) (fun i hi hB => O10.block i (by omega))
        have B10 := B9.only O10 (by omega)
        have N10 := N9.trans (O10.below (B := w.heap.size) (by omega))
        have U11 : RwC ((((W9.setCell ⟨w.heap.size + 1, 0, none⟩ (.int .i64 cN)).setCell ⟨w.heap.size, 0, none⟩ (.int .i64 cN)).setCell ⟨w.heap.size, 1, none⟩ (.slice ra p1 rc)).setCell ⟨w.heap.size, 2, none⟩ (.slice av m cv)) w.heap.size [.int .i64 cN, .slice ra p1 rc, (.slice av m cv)] 34 := ((U10.set 0 _).set 1 _).set 2 _
        have O11 : Only w.heap.size (W9.setCell ⟨w.heap.size + 1, 0, none⟩ (.int .i64 cN)) ((((W9.setCell ⟨w.heap.size + 1, 0, none⟩ (.int .i64 cN)).setCell ⟨w.heap.size, 0, none⟩ (.int .i64 cN)).setCell ⟨w.heap.size, 1, none⟩ (.slice ra p1 rc)).setCell ⟨w.heap.size, 2, none⟩ (.slice av m cv)) := ((Only.setCell _ w.heap.size 0 _).trans (Only.setCell _ w.heap.size 1 _)).trans (Only.setCell _ w.heap.size 2 _)
        have R11 := R10.of (w' := (((W9.setCell ⟨w.heap.size + 1, 0, none⟩ (.int .i64 cN)).setCell ⟨w.heap.size, 0, none⟩ (.int .i64 cN)).setCell ⟨w.heap.size, 1, none⟩ (.slice ra p1 rc)).setCell ⟨w.heap.size, 2, none⟩ (.slice av m cv)) (fun i hi hB => O11.block i (by omega))
        have B11 := B10.only O11 (by omega)
        have N11 := N10.trans (O11.below (B := w.heap.size) (Nat.le_refl _))
        have RR := U11.rangeG
        clear U9 T9 R9 B9 N9 O10 U10 R10 B10 N10 U11 O11
        go_wp2
        exact bodyPost_ret (v := .agg #[.int .i64 cN, .slice ra p1 rc, (.slice av m cv)]) (results_cellG Tryz.results9 _ _ w.heap.size [.int .i64 cN, .slice ra p1 rc, (.slice av m cv)] d1 rfl RR hd1 hrow1 iRl) rfl ⟨⟨_, bs, _, by rw [eC.out], eI.out ▸ R11.base (by omega), B11.base (by omega), eI.out ▸ NP9⟩, N11⟩
      · rw [Bool.eq_false_iff.2 (fun h => h1 (E2.1 h))] at I0
        rw [if_neg h1] at eL'
        have eL := hide eL'
        clear eL' E2 hx ht h1
        have C8 := C
        have T9 := C8.out.T
        have U9 := C8.out.U
        have R9 := C8.out.R
        have sT := C8.out.T.lt
        have B9 : RowB wr wr.heap.size (.slice none 0 0) (cutL xs) := by
          rw [eL.out]
          exact RowB.nilN _ _
        have NP9 := noP_of C8.out.R B9
        have N9 := C8.out.N
        clear C C8
        go_wp2_with fail
        refine I0.out.mono ?_
        rintro e w' ⟨rfl, hw⟩
        have hw := hw.symm
        subst hw
        clear I0
        go_wp2_with fail
        obtain ⟨W9, hW9⟩ : ∃ W, W = wr := ⟨_, rfl⟩
        rw [← hW9] at T9 U9 R9 N9 ⊢
        have B9' : RowB W9 wr.heap.size (.slice none 0 0) (cutL xs) := by rw [hW9]; exact B9
        replace B9 := B9'
        clear B9' hW9
        refine (CC.out W9 N9).mono ?_
        rintro e w' ⟨rfl, hw⟩
        have hw := hw.symm
        subst hw
        clear CC
        have t0 := T9.c0
        have t1 := T9.c1
        have t2 := T9.c2
        have tf0 := T9.free 0
        have u0 := U9.c0
        have u1 := U9.c1
        have u2 := U9.c2
        have uf0 := U9.free 0
        have uf1 := U9.free 1
        have uf2 := U9.free 2
        have O10 := Only.setCell W9 (w.heap.size + 1) 0 (.int .i64 cN)
        have U10 := U9.onl O10 (by omega)
        have R10 := R9.of (w' := W9.setCell ⟨w.heap.size + 1, 0, none⟩ (.int .i64 cN)) (fun i hi hB => O10.block i (by omega))
        have B10 := B9.only O10 (by omega)
        have N10 := N9.trans (O10.below (B := w.heap.size) (by omega))
        have U11 : RwC ((((W9.setCell ⟨w.heap.size + 1, 0, none⟩ (.int .i64 cN)).setCell ⟨w.heap.size, 0, none⟩ (.int .i64 cN)).setCell ⟨w.heap.size, 1, none⟩ (.slice ra p1 rc)).setCell ⟨w.heap.size, 2, none⟩ (.slice none 0 0)) w.heap.size [.int .i64 cN, .slice ra p1 rc, (.slice none 0 0)] 34 := ((U10.set 0 _).set 1 _).set 2 _
        have O11 : Only w.heap.size (W9.setCell ⟨w.heap.size + 1, 0, none⟩ (.int .i64 cN)) ((((W9.setCell ⟨w.heap.size + 1, 0, none⟩ (.int .i64 cN)).setCell ⟨w.heap.size, 0, none⟩ (.int .i64 cN)).setCell ⟨w.heap.size, 1, none⟩ (.slice ra p1 rc)).setCell ⟨w.heap.size, 2, none⟩ (.slice none 0 0)) := ((Only.setCell _ w.heap.size 0 _).trans (Only.setCell _ w.heap.size 1 _)).trans (Only.setCell _ w.heap.size 2 _)
        have R11 := R10.of (w' := (((W9.setCell ⟨w.heap.size + 1, 0, none⟩ (.int .i64 cN)).setCell ⟨w.heap.size, 0, none⟩ (.int .i64 cN)).setCell ⟨w.heap.size, 1, none⟩ (.slice ra p1 rc)).setCell ⟨w.heap.size, 2, none⟩ (.slice none 0 0)) (fun i hi hB => O11.block i (by omega))
        have B11 := B10.only O11 (by omega)
        have N11 := N10.trans (O11.below (B := w.heap.size) (Nat.le_refl _))
        have RR := U11.rangeG
        clear U9 T9 R9 B9 N9 O10 U10 R10 B10 N10 U11 O11
        go_wp2
        exact bodyPost_ret (v := .agg #[.int .i64 cN, .slice ra p1 rc, (.slice none 0 0)]) (results_cellG Tryz.results9 _ _ w.heap.size [.int .i64 cN, .slice ra p1 rc, (.slice none 0 0)] d1 rfl RR hd1 hrow1 iRl) rfl ⟨⟨_, bs, _, by rw [eC.out], eI.out ▸ R11.base (by omega), B11.base (by omega), eI.out ▸ NP9⟩, N11⟩
end Go.Proofs.YtjfggcefdobooaaGreatDoor
namespace Go.Proofs.YtjfggcefdobooaaGreatDoor
set_option maxRecDepth 100000
open Go Go.RowKit
def HasR8 (W : World) : Prop := ∃ a0 a1 a2 a3 a4 a5 a6 a7, Sen W 0 a0 ∧ Sen W 1 a1 ∧ Sen W 5 a2 ∧ Sen W 4 a3 ∧ Sen W 6 a4 ∧ Sen W 7 a5 ∧ Sen W 2 a6 ∧ Sen W 3 a7 ∧ Dst a1 a2 a3 a4 a5 a6 a7 ∧ a0 ≠ a1 ∧ a0 ≠ a2
theorem HasR8.up {w w' : World} (h : HasR8 w) (n : Below w.heap.size w w') : HasR8 w' := by
  obtain ⟨a0, a1, a2, a3, a4, a5, a6, a7, h0, h1, h2, h3, h4, h5, h6, h7, r⟩ := h
  exact ⟨a0, a1, a2, a3, a4, a5, a6, a7, h0.up n, h1.up n, h2.up n, h3.up n, h4.up n, h5.up n, h6.up n, h7.up n, r⟩
theorem laid_rbk {W : World} (h : laidMetH Tryz.prog Rows.fnRecordBackRow.laid W) : HasR8 W := by
  obtain ⟨x0, y0, h0, k0, e0⟩ := sen_pair h (by kernel_rfl) (n0 := "loop.example/g00004/impl.errNotWhole") (n1 := "loop.example/g00004/impl.errNoKind") (.cons _ (.cons_cons _ (.cons_cons _ (.cons _ (.cons _ (.cons _ (.cons _ (.cons _ (.cons _ (.cons _ (.slnil))))))))))) (g0 := 0) (g1 := 1) (by kernel_rfl) (by kernel_rfl) (by kernel_rfl) (by kernel_rfl)
  obtain ⟨x1, y1, h1, k1, e1⟩ := sen_pair h (by kernel_rfl) (n0 := "loop.example/g00004/impl.errNotWhole") (n1 := "loop.example/g00004/impl.errWrongSize") (.cons _ (.cons_cons _ (.cons _ (.cons_cons _ (.cons _ (.cons _ (.cons _ (.cons _ (.cons _ (.cons _ (.slnil))))))))))) (g0 := 0) (g1 := 5) (by kernel_rfl) (by kernel_rfl) (by kernel_rfl) (by kernel_rfl)
  obtain rfl := Sen.same h0 h1
  obtain ⟨x2, y2, h2, k2, e2⟩ := sen_pair h (by kernel_rfl) (n0 := "loop.example/g00004/impl.errNoKind") (n1 := "loop.example/g00004/impl.errWrongSize") (.cons _ (.cons _ (.cons_cons _ (.cons_cons _ (.cons _ (.cons _ (.cons _ (.cons _ (.cons _ (.cons _ (.slnil))))))))))) (g0 := 1) (g1 := 5) (by kernel_rfl) (by kernel_rfl) (by kernel_rfl) (by kernel_rfl)
  obtain rfl := Sen.same k0 h2
  obtain rfl := Sen.same k1 k2
  obtain ⟨x3, y3, h3, k3, e3⟩ := sen_pair h (by kernel_rfl) (n0 := "loop.example/g00004/impl.errNoKind") (n1 := "loop.example/g00004/impl.errWrongKeys") (.cons _ (.cons _ (.cons_cons _ (.cons _ (.cons_cons _ (.cons _ (.cons _ (.cons _ (.cons _ (.cons _ (.slnil))))))))))) (g0 := 1) (g1 := 4) (by kernel_rfl) (by kernel_rfl) (by kernel_rfl) (by kernel_rfl)
  obtain rfl := Sen.same k0 h3
  obtain ⟨x4, y4, h4, k4, e4⟩ := sen_pair h (by kernel_rfl) (n0 := "loop.example/g00004/impl.errNoKind") (n1 := "loop.example/g00004/impl.errNotOpened") (.cons _ (.cons _ (.cons_cons _ (.cons _ (.cons _ (.cons_cons _ (.cons _ (.cons _ (.cons _ (.cons _ (.slnil))))))))))) (g0 := 1) (g1 := 6) (by kernel_rfl) (by kernel_rfl) (by kernel_rfl) (by kernel_rfl)
  obtain rfl := Sen.same k0 h4
  obtain ⟨x5, y5, h5, k5, e5⟩ := sen_pair h (by kernel_rfl) (n0 := "loop.example/g00004/impl.errNoKind") (n1 := "loop.example/g00004/impl.errAllPad") (.cons _ (.cons _ (.cons_cons _ (.cons _ (.cons _ (.cons _ (.cons_cons _ (.cons _ (.cons _ (.cons _ (.slnil))))))))))) (g0 := 1) (g1 := 7) (by kernel_rfl) (by kernel_rfl) (by kernel_rfl) (by kernel_rfl)
  obtain rfl := Sen.same k0 h5
  obtain ⟨x6, y6, h6, k6, e6⟩ := sen_pair h (by kernel_rfl) (n0 := "loop.example/g00004/impl.errNoKind") (n1 := "loop.example/g00004/impl.errMuchData") (.cons _ (.cons _ (.cons_cons _ (.cons _ (.cons _ (.cons _ (.cons _ (.cons_cons _ (.cons _ (.cons _ (.slnil))))))))))) (g0 := 1) (g1 := 2) (by kernel_rfl) (by kernel_rfl) (by kernel_rfl) (by kernel_rfl)
  obtain rfl := Sen.same k0 h6
  obtain ⟨x7, y7, h7, k7, e7⟩ := sen_pair h (by kernel_rfl) (n0 := "loop.example/g00004/impl.errNoKind") (n1 := "loop.example/g00004/impl.errNoData") (.cons _ (.cons _ (.cons_cons _ (.cons _ (.cons _ (.cons _ (.cons _ (.cons _ (.cons_cons _ (.cons _ (.slnil))))))))))) (g0 := 1) (g1 := 3) (by kernel_rfl) (by kernel_rfl) (by kernel_rfl) (by kernel_rfl)
  obtain rfl := Sen.same k0 h7
  obtain ⟨x8, y8, h8, k8, e8⟩ := sen_pair h (by kernel_rfl) (n0 := "loop.example/g00004/impl.errWrongSize") (n1 := "loop.example/g00004/impl.errWrongKeys") (.cons _ (.cons _ (.cons _ (.cons_cons _ (.cons_cons _ (.cons _ (.cons _ (.cons _ (.cons _ (.cons _ (.slnil))))))))))) (g0 := 5) (g1 := 4) (by kernel_rfl) (by kernel_rfl) (by kernel_rfl) (by kernel_rfl)
  obtain rfl := Sen.same k1 h8
  obtain rfl := Sen.same k3 k8
  obtain ⟨x9, y9, h9, k9, e9⟩ := sen_pair h (by kernel_rfl) (n0 := "loop.example/g00004/impl.errWrongSize") (n1 := "loop.example/g00004/impl.errNotOpened") (.cons _ (.cons _ (.cons _ (.cons_cons _ (.cons _ (.cons_cons _ (.cons _ (.cons _ (.cons _ (.cons _ (.slnil))))))))))) (g0 := 5) (g1 := 6) (by kernel_rfl) (by kernel_rfl) (by kernel_rfl) (by kernel_rfl)
  obtain rfl := Sen.same k1 h9
  obtain rfl := Sen.same k4 k9
  obtain ⟨x10, y10, h10, k10, e10⟩ := sen_pair h (by kernel_rfl) (n0 := "loop.example/g00004/impl.errWrongSize") (n1 := "loop.example/g00004/impl.errAllPad") (.cons _ (.cons _ (.cons _ (.cons_cons _ (.cons _ (.cons _ (.cons_cons _ (.cons _ (.cons _ (.cons _ (.slnil))))))))))) (g0 := 5) (g1 := 7) (by kernel_rfl) (by kernel_rfl) (by kernel_rfl) (by kernel_rfl)
  obtain rfl := Sen.same k1 h10
  obtain rfl := Sen.same k5 k10
  obtain ⟨x11, y11, h11, k11, e11⟩ := sen_pair h (by kernel_rfl) (n0 := "loop.example/g00004/impl.errWrongSize") (n1 := "loop.example/g00004/impl.errMuchData") (.cons _ (.cons _ (.cons _ (.cons_cons _ (.cons _ (.cons _ (.cons _ (.cons_cons _ (.cons _ (.cons _ (.slnil))))))))))) (g0 := 5) (g1 := 2) (by kernel_rfl) (by kernel_rfl) (by kernel_rfl) (by kernel_rfl)
  obtain rfl := Sen.same k1 h11
  obtain rfl := Sen.same k6 k11
  obtain ⟨x12, y12, h12, k12, e12⟩ := sen_pair h (by kernel_rfl) (n0 := "loop.example/g00004/impl.errWrongSize") (n1 := "loop.example/g00004/impl.errNoData") (.cons _ (.cons _ (.cons _ (.cons_cons _ (.cons _ (.cons _ (.cons _ (.cons _ (.cons_cons _ (.cons _ (.slnil))))))))))) (g0 := 5) (g1 := 3) (by kernel_rfl) (by kernel_rfl) (by kernel_rfl) (by kernel_rfl)
  obtain rfl := Sen.same k1 h12
  obtain rfl := Sen.same k7 k12
  obtain ⟨x13, y13, h13, k13, e13⟩ := sen_pair h (by kernel_rfl) (n0 := "loop.example/g00004/impl.errWrongKeys") (n1 := "loop.example/g00004/impl.errNotOpened") (.cons _ (.cons _ (.cons _ (.cons _ (.cons_cons _ (.cons_cons _ (.cons _ (.cons _ (.cons _ (.cons _ (.slnil))))))))))) (g0 := 4) (g1 := 6) (by kernel_rfl) (by kernel_rfl) (by kernel_rfl) (by kernel_rfl)
  obtain rfl := Sen.same k3 h13
  obtain rfl := Sen.same k4 k13
  obtain ⟨x14, y14, h14, k14, e14⟩ := sen_pair h (by kernel_rfl) (n0 := "loop.example/g00004/impl.errWrongKeys") (n1 := "loop.example/g00004/impl.errAllPad") (.cons _ (.cons _ (.cons _ (.cons _ (.cons_cons _ (.cons _ (.cons_cons _ (.cons _ (.cons _ (.cons _ (.slnil))))))))))) (g0 := 4) (g1 := 7) (by kernel_rfl) (by kernel_rfl) (by kernel_rfl) (by kernel_rfl)
  obtain rfl := Sen.same k3 h14
  obtain rfl := Sen.same k5 k14
  obtain ⟨x15, y15, h15, k15, e15⟩ := sen_pair h (by kernel_rfl) (n0 := "loop.example/g00004/impl.errWrongKeys") (n1 := "loop.example/g00004/impl.errMuchData") (.cons _ (.cons _ (.cons _ (.cons _ (.cons_cons _ (.cons _ (.cons _ (.cons_cons _ (.cons _ (.cons _ (.slnil))))))))))) (g0 := 4) (g1 := 2) (by kernel_rfl) (by kernel_rfl) (by kernel_rfl) (by kernel_rfl)
  obtain rfl := Sen.same k3 h15
  obtain rfl := Sen.same k6 k15
  obtain ⟨x16, y16, h16, k16, e16⟩ := sen_pair h (by kernel_rfl) (n0 := "loop.example/g00004/impl.errWrongKeys") (n1 := "loop.example/g00004/impl.errNoData") (.cons _ (.cons _ (.cons _ (.cons _ (.cons_cons _ (.cons _ (.cons _ (.cons _ (.cons_cons _ (.cons _ (.slnil))))))))))) (g0 := 4) (g1 := 3) (by kernel_rfl) (by kernel_rfl) (by kernel_rfl) (by kernel_rfl)
  obtain rfl := Sen.same k3 h16
  obtain rfl := Sen.same k7 k16
  obtain ⟨x17, y17, h17, k17, e17⟩ := sen_pair h (by kernel_rfl) (n0 := "loop.example/g00004/impl.errNotOpened") (n1 := "loop.example/g00004/impl.errAllPad") (.cons _ (.cons _ (.cons _ (.cons _ (.cons _ (.cons_cons _ (.cons_cons _ (.cons _ (.cons _ (.cons _ (.slnil))))))))))) (g0 := 6) (g1 := 7) (by kernel_rfl) (by kernel_rfl) (by kernel_rfl) (by kernel_rfl)
  obtain rfl := Sen.same k4 h17
  obtain rfl := Sen.same k5 k17
  obtain ⟨x18, y18, h18, k18, e18⟩ := sen_pair h (by kernel_rfl) (n0 := "loop.example/g00004/impl.errNotOpened") (n1 := "loop.example/g00004/impl.errMuchData") (.cons _ (.cons _ (.cons _ (.cons _ (.cons _ (.cons_cons _ (.cons _ (.cons_cons _ (.cons _ (.cons _ (.slnil))))))))))) (g0 := 6) (g1 := 2) (by kernel_rfl) (by kernel_rfl) (by kernel_rfl) (by kernel_rfl)
  obtain rfl := Sen.same k4 h18
  obtain rfl := Sen.same k6 k18
  obtain ⟨x19, y19, h19, k19, e19⟩ := sen_pair h (by kernel_rfl) (n0 := "loop.example/g00004/impl.errNotOpened") (n1 := "loop.example/g00004/impl.errNoData") (.cons _ (.cons _ (.cons _ (.cons _ (.cons _ (.cons_cons _ (.cons _ (.cons _ (.cons_cons _ (.cons _ (.slnil))))))))))) (g0 := 6) (g1 := 3) (by kernel_rfl) (by kernel_rfl) (by kernel_rfl) (by kernel_rfl)
  obtain rfl := Sen.same k4 h19
  obtain rfl := Sen.same k7 k19
  obtain ⟨x20, y20, h20, k20, e20⟩ := sen_pair h (by kernel_rfl) (n0 := "loop.example/g00004/impl.errAllPad") (n1 := "loop.example/g00004/impl.errMuchData") (.cons _ (.cons _ (.cons _ (.cons _ (.cons _ (.cons _ (.cons_cons _ (.cons_cons _ (.cons _ (.cons _ (.slnil))))))))))) (g0 := 7) (g1 := 2) (by kernel_rfl) (by kernel_rfl) (by kernel_rfl) (by kernel_rfl)
  obtain rfl := Sen.same k5 h20
  obtain rfl := Sen.same k6 k20
  obtain ⟨x21, y21, h21, k21, e21⟩ := sen_pair h (by kernel_rfl) (n0 := "loop.example/g00004/impl.errAllPad") (n1 := "loop.example/g00004/impl.errNoData") (.cons _ (.cons _ (.cons _ (.cons _ (.cons _ (.cons _ (.cons_cons _ (.cons _ (.cons_cons _ (.cons _ (.slnil))))))))))) (g0 := 7) (g1 := 3) (by kernel_rfl) (by kernel_rfl) (by kernel_rfl) (by kernel_rfl)
  obtain rfl := Sen.same k5 h21
  obtain rfl := Sen.same k7 k21
  obtain ⟨x22, y22, h22, k22, e22⟩ := sen_pair h (by kernel_rfl) (n0 := "loop.example/g00004/impl.errMuchData") (n1 := "loop.example/g00004/impl.errNoData") (.cons _ (.cons _ (.cons _ (.cons _ (.cons _ (.cons _ (.cons _ (.cons_cons _ (.cons_cons _ (.cons _ (.slnil))))))))))) (g0 := 2) (g1 := 3) (by kernel_rfl) (by kernel_rfl) (by kernel_rfl) (by kernel_rfl)
  obtain rfl := Sen.same k6 h22
  obtain rfl := Sen.same k7 k22
  exact ⟨_, _, _, _, _, _, _, _, h0, k0, k1, k3, k4, k5, k6, k7, ⟨⟨e2, e3, e4, e5, e6, e7⟩, ⟨e8, e9, e10, e11, e12⟩, ⟨e13, e14, e15, e16⟩, ⟨e17, e18, e19⟩, ⟨e20, e21⟩, e22⟩, e0, e1⟩
def KD (w : World) (ax : Option Addr) (cx : Nat) (X : List Int) (ay : Option Addr) (cy : Nat) (Y : List Int) : Prop := ∃ gx gy, Rd w gx ax .u8 X ∧ Byt X ∧ X.length ≤ cx ∧ Rd w gy ay .u8 Y ∧ Byt Y ∧ (ay = none → cy = 0)
theorem KD.up {w w' : World} {ax : Option Addr} {cx : Nat} {X : List Int} {ay : Option Addr} {cy : Nat} {Y : List Int} (h : KD w ax cx X ay cy Y) (n : Below w.heap.size w w') : KD w' ax cx X ay cy Y := by
  obtain ⟨gx, gy, h1, h2, h3, h4, h5, h6⟩ := h
  exact ⟨gx, gy, h1.up n, h2, h3, h4.up n, h5, h6⟩
theorem ptC (w : World) (ax : Option Addr) (cx : Nat) (X : List Int) (ay : Option Addr) (cy : Nat) (Y : List Int) (hK : KD w ax cx X ay cy Y) (q k : Int) (v : Value) (ys : List Int) (hd : DR w v ys) (yb : Byt ys) (pad : Int) (hL : HasR8 w) :
    Calls Tryz.prog 5 #[.agg #[.slice ax X.length cx, .slice ay Y.length cy], .int .i64 q, .int .i64 k, v, .int .i64 pad] w fun e w' => ∃ v', e = .returned v' ∧ DR w' v' (prA X Y q k ys pad) ∧ Below w.heap.size w w' := by
  obtain ⟨a, c, g, rfl, r, z, l⟩ := hd
  obtain ⟨gx, gy, x1, x2, x3, y1, y2, y3⟩ := hK
  obtain ⟨a0, a1, a2, a3, a4, a5, a6, a7, h0, h1, h2, h3, h4, h5, h6, h7, -⟩ := hL
  refine (implProtect_any w gx ax cx X x1 x2 x3 gy ay cy Y y1 y2 y3 q k g a c ys r yb z pad a1 a2 a3 a6 a7 h1 h2 h3 h6 h7).mono ?_
  rintro e w' ⟨v, rfl, R, n⟩
  obtain ⟨a, c, g, rfl, r, z, l, -⟩ := R.rd
  exact ⟨_, rfl, ⟨a, c, g, rfl, r, z, l⟩, n⟩
theorem specPtC (w : World) (ax : Option Addr) (cx : Nat) (X : List Int) (ay : Option Addr) (cy : Nat) (Y : List Int) (hK : KD w ax cx X ay cy Y) (q k : Int) (v : Value) (ys : List Int) (hd : DR w v ys) (yb : Byt ys) (pad : Int) :
    Calls Tryz.prog 7 #[.agg #[.slice ax X.length cx, .slice ay Y.length cy], .int .i64 q, .int .i64 k, v, .int .i64 pad] w fun e w' => ∃ a c, e = .returned (.slice a (prA X Y q k ys pad).length c) ∧ Below w.heap.size w w' := by
  obtain ⟨a, c, g, rfl, r, z, l⟩ := hd
  obtain ⟨gx, gy, x1, x2, x3, y1, y2, y3⟩ := hK
  refine (specProtect_any w gx ax cx X x1 x2 x3 gy ay cy Y y1 y2 y3 q k g a c ys r yb z pad).mono ?_
  rintro e w' ⟨v, rfl, R, n⟩
  obtain ⟨a, c, g, rfl, r, z, l, -⟩ := R.rd
  exact ⟨a, c, rfl, n⟩
theorem upC (w : World) (ax : Option Addr) (cx : Nat) (X : List Int) (ay : Option Addr) (cy : Nat) (Y : List Int) (hK : KD w ax cx X ay cy Y) (q : Int) (v : Value) (zs : List Int) (hd : DR w v zs) (zb : Byt zs) (lz : zs.length ≤ 1048576) (hL : HasR8 w) :
    Calls Tryz.prog 10 #[.agg #[.slice ax X.length cx, .slice ay Y.length cy], .int .i64 q, v] w fun e w' => ∃ a c, e = .returned (.agg #[.int .i64 (upN X Y q zs), .int .i64 (upK X Y q zs), .slice a (upD X Y q zs).length c]) ∧ DR w' (.slice a (upD X Y q zs).length c) (upD X Y q zs) ∧ Below w.heap.size w w' := by
  obtain ⟨a, c, g, rfl, r, z, l⟩ := hd
  obtain ⟨gx, gy, x1, x2, x3, y1, y2, y3⟩ := hK
  obtain ⟨a0, a1, a2, a3, a4, a5, a6, a7, h0, h1, h2, h3, h4, h5, h6, h7, hD, -⟩ := hL
  refine (implUnprotect_any w gx ax cx X x1 x2 x3 gy ay cy Y y1 y2 y3 q g a c zs r zb l lz a1 a2 a3 a4 a5 a6 a7 h1 h2 h3 h4 h5 h6 h7 hD).mono ?_
  rintro e w' ⟨⟨a, c, g, rfl, o, z, l, -⟩, n⟩
  exact ⟨a, c, rfl, ⟨a, c, g, rfl, o.rd, z, l⟩, n⟩
theorem ctC (w : World) (v : Value) (zs : List Int) (hd : DR w v zs) (zb : Byt zs) (lz : zs.length ≤ 1048576) (hL : HasR8 w) :
    Calls Tryz.prog 9 #[v] w fun e w' => NewC w.heap.size w' e zs ∧ Below w.heap.size w w' := by
  obtain ⟨a, c, g, rfl, r, z, l⟩ := hd
  obtain ⟨a0, a1, a2, a3, a4, a5, a6, a7, h0, h1, h2, h3, h4, h5, h6, h7, ⟨⟨d12, -⟩, -⟩, d01, d02⟩ := hL
  exact implCut_any w g a c zs r zb z l lz a0 a1 a2 h0 h1 h2 d01 d02 d12
theorem rd_ne3 {w : World} {g q : Nat} {a : Option Addr} {xs : List Int} {t : TypeId} (h : Rd w g a .u8 xs) (hq : RwC w q [.int .i64 0, .int .i64 0, .slice none 0 0] t) (h0 : 0 < xs.length) : g ≠ q := fun e => by
  subst e
  obtain ⟨off, -, hc⟩ := h h0
  have h1 := hc 0 h0
  have e : w.heap[g]? = some (.cells #[.int .i64 0, .int .i64 0, .slice none 0 0] t) := hq
  rw [cell_of_row w g _ _ _ (0, 0) e] at h1
  match off, h1 with
  | 0, h1 => simp at h1
  | 1, h1 => simp at h1
  | 2, h1 => simp at h1
  | n + 3, h1 => simp at h1
def C10 (wa : World) (k : Int) (ys : List Int) (v : Value) (wc : World) : Prop := ∃ p a c, v = .pointer (some ⟨p, 0, none⟩) ∧ RwC wc p [.int .i64 0, .int .i64 k, .slice a ys.length c] 37 ∧ DR wc (.slice a ys.length c) ys ∧ Below wa.heap.size wa wc
theorem c10_1 {wa wm : World} {k : Int} {ys : List Int} {a : Option Addr} {c : Nat} (n : Below wa.heap.size wa wm) (D : DR wm (.slice a ys.length c) ys) : C10 wa k ys (.pointer (some ⟨wm.heap.size, 0, none⟩)) (wm.alloc (.cells #[.int .i64 0, .int .i64 k, .slice a ys.length c] 37)) := by
  have na : Below wm.heap.size wm (wm.alloc (.cells #[.int .i64 0, .int .i64 k, .slice a ys.length c] 37)) := (Below.refl _ _).alloc (Nat.le_refl _) _
  exact ⟨_, a, c, rfl, RwC.new wm _ _, D.up na, nxt n na⟩
theorem c10_2 {wa wm : World} {k : Int} {ys : List Int} {a : Option Addr} {c q : Nat} (n : Below wa.heap.size wa wm) (D : DR wm (.slice a ys.length c) ys) (Z : RwC wm q [.int .i64 0, .int .i64 0, .slice none 0 0] 37) (hq : wa.heap.size ≤ q) :
    C10 wa k ys (.pointer (some ⟨q, 0, none⟩)) (((wm.setCell ⟨q, 0, none⟩ (.int .i64 0)).setCell ⟨q, 1, none⟩ (.int .i64 k)).setCell ⟨q, 2, none⟩ (.slice a ys.length c)) := by
  have O : Only q wm (((wm.setCell ⟨q, 0, none⟩ (.int .i64 0)).setCell ⟨q, 1, none⟩ (.int .i64 k)).setCell ⟨q, 2, none⟩ (.slice a ys.length c)) := ((Only.setCell _ q 0 _).trans (Only.setCell _ q 1 _)).trans (Only.setCell _ q 2 _)
  have Z' : RwC (((wm.setCell ⟨q, 0, none⟩ (.int .i64 0)).setCell ⟨q, 1, none⟩ (.int .i64 k)).setCell ⟨q, 2, none⟩ (.slice a ys.length c)) q [.int .i64 0, .int .i64 k, .slice a ys.length c] 37 := ((Z.set 0 _).set 1 _).set 2 _
  obtain ⟨a', c', g, e, r, z, l⟩ := D
  injection e with e1 _ e3
  subst e1 e3
  exact ⟨q, a, c, rfl, Z', ⟨a, c, g, rfl, rd_onlyK r O (fun h => rd_ne3 r Z h), z, l⟩, n.trans (O.below hq)⟩
theorem RwC.newDk (w : World) (zs : List Value) (t : TypeId) : RwC (w.drew.alloc (.cells zs.toArray t)) w.heap.size zs t := RwC.new w.drew zs t
set_option maxRecDepth 100000 in
set_option maxHeartbeats 16000000 in
theorem recBack_law (w : World) (g0 : Nat) (a0 : Option Addr) (c0 : Nat) (X0 : List Int) (hX0 : Rd w g0 a0 .u8 X0) (bX0 : Byt X0) (hL : HasR8 w) :
    Calls Tryz.prog 3 #[.slice a0 X0.length c0] w fun e w' => e = .returned (.bool true) ∧ Below w.heap.size w w' := by
  by_cases q0 : X0.length ≤ 1048576
  · have u0 : decide ((1048576 : Int) < (X0.length : Int)) = false := by simp; omega
    have DS := hide (drawProtect_any w g0 a0 c0 X0 hX0 bX0 q0)
    have HL := hide (fun W (m : Below w.heap.size w W) => hL.up m)
    clear hL
    go_enter Tryz.func3, Tryz.ntmps3
    go_wp2_with fail
    refine DS.out.mono ?_
    rintro e w1 ⟨v, q, k, vd, ys, pad, rfl, ⟨ax, cx, gx, X, ay, cy, gy, Y, rfl, ⟨oX, zX, kX, -, bX, -⟩, ⟨oY, zY, kY, -, bY, -⟩⟩, RD, yb, yl, lp, N1⟩
    have K1 : KD w1 ax cx X ay cy Y := ⟨gx, gy, oX.rd, bX, kX, oY.rd, bY, zY⟩
    obtain ⟨ad, cd, gd, rfl, rd, zd, kd, -⟩ := RD.rd
    have D1 : DR w1 (.slice ad ys.length cd) ys := ⟨ad, cd, gd, rfl, rd, zd, kd⟩
    have nA : Below w1.heap.size w1 (w1.alloc (.cells #[.slice ax X.length cx, .slice ay Y.length cy] 24)) := (Below.refl _ _).alloc (Nat.le_refl _) _
    have T3 : RwC (w1.alloc (.cells #[.slice ax X.length cx, .slice ay Y.length cy] 24)) w1.heap.size [.slice ax X.length cx, .slice ay Y.length cy] 24 := RwC.new w1 _ _
    replace K1 := K1.up nA
    replace D1 := D1.up nA
    replace N1 := nxt N1 nA
    obtain ⟨p3, hp3⟩ : ∃ q, q = w1.heap.size := ⟨_, rfl⟩
    rw [← hp3] at T3
    clear DS RD rd oX oY zX kX zY kY bX bY
    go_upto_region 4 with fail
    rw [← hp3]
    clear hp3 nA
    generalize w1.alloc (.cells #[.slice ax X.length cx, .slice ay Y.length cy] 24) = w2 at *
    have CY : Hid (∀ W, Below w2.heap.size w2 W → (W.cell? ⟨p3, 0, none⟩ = some (.slice ax X.length cx) ∧ W.cell? ⟨p3, 1, none⟩ = some (.slice ay Y.length cy))) := fun W m => ⟨(T3.up m).c0, (T3.up m).c1⟩
    have nd : Below w2.heap.size w2 w2.drew := (Below.refl _ _).drew
    have C26 := hide (copyC w2.drew _ ys (D1.up nd) (by omega))
    have PT : Hid (∀ W va, Below w2.heap.size w2 W → DR W va ys → Calls Tryz.prog 5 #[.agg #[.slice ax X.length cx, .slice ay Y.length cy], .int .i64 q, .int .i64 k, va, .int .i64 (pad : Int)] W fun e w' => ∃ v', e = .returned v' ∧ DR w' v' (prA X Y q k ys (pad : Int)) ∧ Below W.heap.size W w') := fun W va m h => ptC W ax cx X ay cy Y (K1.up m) q k va ys h yb (pad : Int) (HL.out W (nxt N1 m))
    go_region_held3 (fun W => W.cell? ⟨p3, 0, none⟩ = some (.slice ax X.length cx) ∧ W.cell? ⟨p3, 1, none⟩ = some (.slice ay Y.length cy))
      (first | exact (unhide CY) _ nd | exact (unhide CY) _ b26 | exact (unhide CY) _ b28)
      (first
        | (go_at_call 6; refine C26.out.mono ?_; rintro rr w26 ⟨v26, rfl, D26, n26⟩; (have b26 := nxt nd n26); (have C28 := hide ((unhide PT) w26 v26 b26 D26)))
        | (go_at_call 5; refine C28.out.mono ?_; rintro rr w28 ⟨v28, rfl, D28, n28⟩; (have b28 := nxt b26 n28))
        | fail)
    clear CY C26 C28 PT nd n26 D26 n28 b26
    replace K1 := K1.up b28
    replace D1 := D1.up b28
    replace T3 := T3.up b28
    replace N1 := nxt N1 b28
    clear b28
    obtain ⟨ar, cr, gr, rfl, rr, zr, kr⟩ := D28
    have SP := hide (specPtC w28 ax cx X ay cy Y K1 q k _ ys D1 yb (pad : Int))
    have t0 := T3.c0
    have t1 := T3.c1
    by_cases ok : okP X Y q k ys.length (pad : Int)
    · obtain ⟨h1, h2, h3, h4, h5, h6, h7, h8, h9, h10⟩ := rec_back ok yb
      have LR := hide h1
      have HC := hide (And.intro h2 (And.intro h3 h4))
      have HU := hide (And.intro h5 (And.intro h6 h7))
      have BS := hide (And.intro h8 h9)
      have BR := hide h10
      clear h1 h2 h3 h4 h5 h6 h7 h8 h9 h10 ok
      obtain ⟨RR, hRR⟩ : ∃ l, l = prA X Y q k ys (pad : Int) := ⟨_, rfl⟩
      rw [← hRR] at SP LR HC BR rr kr ⊢
      clear hRR
      obtain ⟨SS, hSS⟩ : ∃ l, l = sdP X Y q k ys (pad : Int) := ⟨_, rfl⟩
      rw [← hSS] at HC HU BS
      clear hSS
      have l0 : decide ((RR.length : Int) = 0) = false := decide_eq_false (by have := LR.out; omega)
      have l1 : ((RR.length : Int) == 0) = false := beq_eq_false_iff_ne.2 (by have := LR.out; omega)
      go_wp2_with fail
      refine SP.out.mono ?_
      rintro e w34 ⟨a34, c34, rfl, n34⟩
      replace K1 := K1.up n34
      replace D1 := D1.up n34
      replace T3 := T3.up n34
      replace N1 := nxt N1 n34
      have DRR : DR w34 (.slice ar RR.length cr) RR := ⟨ar, cr, gr, rfl, rr.up n34, zr, kr⟩
      have CR := hide (copyC w34 _ RR DRR (by have := LR.out; omega))
      clear SP n34 t0 t1 rr
      go_wp2_with fail
      refine CR.out.mono ?_
      rintro e w48 ⟨v48, rfl, D48, n48⟩
      replace K1 := K1.up n48
      replace D1 := D1.up n48
      replace T3 := T3.up n48
      replace N1 := nxt N1 n48
      have CT := hide (ctC w48 v48 RR D48 BR.out (by have := LR.out; omega) (HL.out w48 N1))
      clear CR n48 D48 DRR
      go_wp2_with fail
      refine CT.out.mono ?_
      rintro e w49 ⟨⟨vr, bs, vl, rfl, IR, RL, -⟩, n49⟩
      replace K1 := K1.up n49
      replace D1 := D1.up n49
      replace T3 := T3.up n49
      replace N1 := nxt N1 n49
      rw [HC.out.2.2] at IR
      rw [HC.out.2.1] at RL
      obtain ⟨gv, cv, ev, -, hgv, -, hcv, -⟩ := IR.cells Nat.zero_lt_one
      obtain ⟨al, cl, gl, el, -, -, -, -⟩ := RL.rd
      have c0v : w49.cell? ⟨gv, 0, none⟩ = some (.int .i64 23) := (hcv 0 Nat.zero_lt_one).1
      have c1v : w49.cell? ⟨gv, 1, none⟩ = some (.slice (bs.getD 0 plc0).a SS.length (bs.getD 0 plc0).c) := (hcv 0 Nat.zero_lt_one).2
      have LS : Lie w49 SS (bs.getD 0 plc0) := IR.b 0 Nat.zero_lt_one
      have DS : DR w49 (.slice (bs.getD 0 plc0).a SS.length (bs.getD 0 plc0).c) SS := ⟨_, _, _, rfl, LS.o.rd, LS.n, LS.c⟩
      generalize (bs.getD 0 plc0).a = aS at *
      generalize (bs.getD 0 plc0).c = cS at *
      have ev' : vr = .slice (some ⟨gv, 0, none⟩) 1 cv := ev
      have el' : vl = .slice al 0 cl := el
      subst ev' el'
      rw [HC.out.1]
      have nB : Below w49.heap.size w49 (w49.alloc (.cells #[.int .i64 0, .slice (some ⟨gv, 0, none⟩) 1 cv, .slice al 0 cl] 34)) := (Below.refl _ _).alloc (Nat.le_refl _) _
      have T9 : RwC (w49.alloc (.cells #[.int .i64 0, .slice (some ⟨gv, 0, none⟩) 1 cv, .slice al 0 cl] 34)) w49.heap.size [.int .i64 0, .slice (some ⟨gv, 0, none⟩) 1 cv, .slice al 0 cl] 34 := RwC.new w49 _ _
      replace K1 := K1.up nB
      replace D1 := D1.up nB
      replace T3 := T3.up nB
      replace N1 := nxt N1 nB
      replace DS := DS.up nB
      have c0w := (World.cell?_of_block (a := ⟨gv, 0, none⟩) (nB.block gv hgv)).trans c0v
      have c1w := (World.cell?_of_block (a := ⟨gv, 1, none⟩) (nB.block gv hgv)).trans c1v
      have hgw : gv < (w49.alloc (.cells #[.int .i64 0, .slice (some ⟨gv, 0, none⟩) 1 cv, .slice al 0 cl] 34)).heap.size := Nat.lt_of_lt_of_le hgv nB.size
      obtain ⟨p9, hp9⟩ : ∃ q, q = w49.heap.size := ⟨_, rfl⟩
      rw [← hp9] at T9
      have sm : Hid ((RR.length : Int) = (ys.length : Int) + (pad : Int) + 1 + 16 + 3) := by show _ = _; have := LR.out; simp at this; omega
      have lq : RR.length = ys.length + pad + 20 := by have := LR.out; simpa using this
      have sm1 : decide ((RR.length : Int) = (ys.length : Int) + (pad : Int) + 1 + 16 + 3) = true := decide_eq_true sm.out
      have sm2 : ((RR.length : Int) == (ys.length : Int) + (pad : Int) + 1 + 16 + 3) = true := by simpa using sm.out
      have sm3 : ((RR.length : Int) != (ys.length : Int) + (pad : Int) + 1 + 16 + 3) = false := by rw [bne, sm2]; rfl
      have x0 := T9.c0
      have x1 := T9.c1
      have x2 := T9.c2
      clear CT n49 IR RL hcv LS c0v c1v hgv lq el ev
      go_upto_region 8 with fail
      rw [← hp9]
      clear hp9 nB
      generalize w49.alloc (.cells #[.int .i64 0, .slice (some ⟨gv, 0, none⟩) 1 cv, .slice al 0 cl] 34) = wa at *
      have UP : Hid (∀ W, Below wa.heap.size wa W → Calls Tryz.prog 10 #[.agg #[.slice ax X.length cx, .slice ay Y.length cy], .int .i64 q, .slice aS SS.length cS] W fun e w' => ∃ a c, e = .returned (.agg #[.int .i64 0, .int .i64 k, .slice a ys.length c]) ∧ DR w' (.slice a ys.length c) ys ∧ Below wa.heap.size wa w' ∧ Below W.heap.size W w') := fun W m => by
        have h := upC W ax cx X ay cy Y (K1.up m) q _ SS (DS.up m) BS.out.1 (by have := BS.out.2; omega) (HL.out W (nxt N1 m))
        rw [HU.out.1, HU.out.2.1, HU.out.2.2] at h
        exact h.mono (by rintro e w' ⟨a, c, rfl, d, n⟩; exact ⟨a, c, rfl, d, nxt m n, n⟩)
      have CY : Hid (∀ W, Below wa.heap.size wa W → (W.cell? ⟨p3, 0, none⟩ = some (.slice ax X.length cx) ∧ W.cell? ⟨p3, 1, none⟩ = some (.slice ay Y.length cy) ∧ W.cell? ⟨p9, 1, none⟩ = some (.slice (some ⟨gv, 0, none⟩) 1 cv) ∧ W.cell? ⟨gv, 1, none⟩ = some (.slice aS SS.length cS))) := fun W m => ⟨(T3.up m).c0, (T3.up m).c1, (T9.up m).c1, (World.cell?_of_block (a := ⟨gv, 1, none⟩) (m.block gv hgw)).trans c1w⟩
      have nd : Below wa.heap.size wa wa.drew := (Below.refl _ _).drew
      have bA : ∀ {W : World}, Below wa.heap.size wa W → ∀ o, Below wa.heap.size wa (W.alloc o) := fun n o => n.alloc n.size o
      go_upto_region 10 with fail
      clear x0 x1 x2 c0w c1w
      go_cut [10] (fun v wc => C10 wa k ys v wc)
      case first =>
        have U0 := hide ((unhide UP) wa.drew nd)
        have U1 := hide ((unhide UP) (wa.drew.alloc (.cells #[.int .i64 0, .int .i64 0, .slice none 0 0] 37)) (bA nd _))
        clear UP
        go_region_held3 (fun W => W.cell? ⟨p3, 0, none⟩ = some (.slice ax X.length cx) ∧ W.cell? ⟨p3, 1, none⟩ = some (.slice ay Y.length cy) ∧ W.cell? ⟨p9, 1, none⟩ = some (.slice (some ⟨gv, 0, none⟩) 1 cv) ∧ W.cell? ⟨gv, 1, none⟩ = some (.slice aS SS.length cS))
          (first | exact (unhide CY) _ nd | exact (unhide CY) _ (bA nd _) | exact (unhide CY) _ nm | exact (unhide CY) _ (bA nm _) | exact (unhide CY) _ (nm.setCell (Nat.le_refl _) _) | exact (unhide CY) _ ((nm.setCell (Nat.le_refl _) _).setCell (Nat.le_refl _) _) | exact (unhide CY) _ (((nm.setCell (Nat.le_refl _) _).setCell (Nat.le_refl _) _).setCell (Nat.le_refl _) _))
          (first
            | (go_at_call 10; refine U0.out.mono ?_; rintro rr wm ⟨am, cm, rfl, DM, nm, nm'⟩)
            | (go_at_call 10; refine U1.out.mono ?_; rintro rr wm ⟨am, cm, rfl, DM, nm, nm'⟩; (have Z3 := (RwC.newDk wa [.int .i64 0, .int .i64 0, .slice none 0 0] 37).up nm'); (have z0 := Z3.c0); (have f0 := Z3.free 0); (have z1 := Z3.c1); (have f1 := Z3.free 1); (have z2 := Z3.c2); (have f2 := Z3.free 2))
            | fail)
        all_goals
          go_wp2_with fail
          go_meet
          first
          | (with_reducible exact c10_2 nm DM Z3 (Nat.le_refl _))
          | (with_reducible exact c10_1 nm DM)
      case rest =>
        obtain ⟨p10, aO, cO, rfl, T10, DO, nO⟩ := hcut
        have NF := hide (nxt N1 nO)
        have SM := hide (sameC wc _ _ ys DO (D1.up nO))
        have y0 := T10.c0
        have y1 := T10.c1
        have y2 := T10.c2
        have kk : (k == k) = true := by simp
        clear UP CY nd bA DO
        go_wp2_with fail
        refine SM.out.mono ?_
        rintro e w106 ⟨rfl, rfl⟩
        go_wp2
        go_ret
        exact ⟨rfl, NF.out⟩
    · have e0 : Hid (prA X Y q k ys (pad : Int) = []) := by show _ = _; unfold prA; rw [if_neg ok]
      rw [e0.out] at SP rr kr ⊢
      clear ok
      go_wp2_with fail
      refine SP.out.mono ?_
      rintro e w34 ⟨a34, c34, rfl, n34⟩
      replace N1 := nxt N1 n34
      have nB : Below w34.heap.size w34 (w34.alloc (.cells #[.int .u8 1] 5)) := (Below.refl _ _).alloc (Nat.le_refl _) _
      have RB := (blk_lit1 w34 .u8 5 1).own0.rd
      have N5 := nxt N1 nB
      have EN := HL.out _ N5
      obtain ⟨x0, x1, x2, x3, x4, x5, x6, x7, h0, h1, h2, -⟩ := EN
      have EC := hide (implEncode_any (w34.alloc (.cells #[.int .u8 1] 5)) 21 w34.heap.size (some ⟨w34.heap.size, 0, none⟩) 1 [1] RB (fun h => nomatch h) x1 x2 h1 h2)
      have el : Hid ((enA 21 [1]).length = 4) := by show _ = _; decide
      clear SP RB n34 nB h0 h1 h2
      go_wp2_with fail
      refine EC.out.mono ?_
      rintro e w43 ⟨v43, rfl, R43, n43⟩
      obtain ⟨a43, c43, g43, rfl, -, -, -, -⟩ := R43.rd
      have NF := hide (nxt N5 n43)
      rw [el.out]
      clear EC R43
      go_wp2
      go_ret
      exact ⟨rfl, NF.out⟩
  · have u0 : decide ((1048576 : Int) < (X0.length : Int)) = true := by simp; omega
    go_enter Tryz.func3, Tryz.ntmps3
    go_wp2
    go_ret
    exact ⟨rfl, Below.refl _ _⟩
end Go.Proofs.YtjfggcefdobooaaGreatDoor
