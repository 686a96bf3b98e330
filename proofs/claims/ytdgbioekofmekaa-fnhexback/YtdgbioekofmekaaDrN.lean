
/-
  Texts that are spoilt.
-/
import Derived.Test.YtdgbioekofmekaaDrM
namespace Go.Proofs.Ytdgbioekofmekaa
open Go Go.RowKit

set_option maxHeartbeats 400000 in
theorem l10Spoil_any (w : World) (s g : Nat) (a : Option Addr) (c : Nat) (xs : List Int) (t : Int) (hs : Src w s a xs.length c t) (hr : Rd w g a .u8 xs) (hne : 0 < xs.length → g ≠ s) (hb : Byt xs) (hl : xs.length ≤ 1048576)
    (t0 : 0 ≤ t) (t1 : t ≤ 10000) (v : Value) (ys : List Int) (base : Nat) (hR : RowB w base v ys) (hsb : s < base) (hbw : base ≤ w.heap.size) (yb : Byt ys) (y0 : 0 < ys.length) (y1 : ys.length ≤ 1000000) :
    Calls Try.prog 27 #[.pointer (some ⟨s, 0, none⟩), v] w fun e w' => ∃ zs r, e = .returned r ∧ Byt zs ∧ zs.length ≤ ys.length + 1 ∧ RowB w' base r zs ∧ Below s w w' := by
  obtain ⟨i0, hi, hz0, hz1, hz2⟩ := info_parts Try.info5
  obtain ⟨g2, cap, rfl, hg2, hcap, -⟩ := hR.parts y0
  have e0 : ((ys.length : Int) == 0) = false := beq_eq_false_iff_ne.2 (by omega)
  have e0' : decide ((ys.length : Int) = 0) = false := decide_eq_false (by omega)
  have N1 := hide (l1NextB_any w s g a c xs t 4 hs hr hne hb hl t0 (by omega) (by decide) (by decide))
  go_enter Try.func27, Try.ntmps27
  go_wp2_with fail
  refine N1.out.mono ?_
  rintro e w1 ⟨q, rfl, hq, S1, O1⟩
  have R1 := hr.only O1 hne
  have W1 := hR.only O1 hsb
  have NX := fun n h0 h1 => hide (l1NextB_any w1 s g a c xs (t + 1) n S1 R1 hne hb hl (by omega) (by omega) h0 h1)
  clear N1
  obtain rfl | rfl | h5 : q = 0 ∨ q = 1 ∨ 2 ≤ q := by omega
  · go_wp2_with fail
    refine (NX 256 (by decide) (by decide)).out.mono ?_
    rintro e w2 ⟨r, rfl, h2, S2, O2⟩
    have W2 := W1.only O2 hsb
    have z1 := O1.size
    have z2 := O2.size
    have NB : Below s w w2 := ((Below.refl s w).trans (O1.below (Nat.le_refl _))).trans (O2.below (Nat.le_refl _))
    have na : Below w2.heap.size w2 (w2.alloc (.cells #[.int .u8 r] 5)) := (Below.refl _ _).alloc (Nat.le_refl _) _
    have B1 : Blk (w2.alloc (.cells #[.int .u8 r] 5)) w2.heap.size .u8 [r] := blk_lit1 w2 .u8 5 r
    obtain ⟨v9, w9, hap, o9, n9⟩ := append_any (P := Try.prog) (w2.alloc (.cells #[.int .u8 r] 5)) 22 i0 Try.underlying22 hi hz0 hz1 hz2 base s _ _ (W2.up na) _ _ 1 [r] B1.own0.rd (by simp) (by simp; omega) (by omega) (by have := na.size; omega)
    have N9 := (NB.trans (na.mono (by omega))).trans n9
    have yb' := byt_app1R yb r h2.1 h2.2
    have yl : Hid ((ys ++ [r]).length = ys.length + 1) := by show _ = _; simp
    clear na B1 n9 W1 W2 NX z1 z2
    go_wp2_with (at_builtin; refine Lib.wpList_append_run _ rfl _ _ 22 22 rfl _ _ rfl rfl _ _ hap ?_)
    clear hap
    go_wp2
    go_ret
    exact ⟨_, _, rfl, yb', by rw [yl.out]; exact Nat.le_refl _, o9, N9⟩
  · go_wp2_with fail
    refine (NX (ys.length : Int) (by omega) (by omega)).out.mono ?_
    rintro e w2 ⟨r, rfl, h2, S2, O2⟩
    obtain ⟨n, rfl⟩ := Int.eq_ofNat_of_zero_le h2.1
    have W2 := W1.only O2 hsb
    have NB : Below s w w2 := ((Below.refl s w).trans (O1.below (Nat.le_refl _))).trans (O2.below (Nat.le_refl _))
    obtain ⟨g3, cap3, e3, -, -, -, -, -, CUT⟩ := W2.parts y0
    cases e3
    have CU := hide (CUT n (by omega))
    have yb' := byt_takeR yb n
    have yl : Hid ((ys.take n).length = n) := by show _ = _; rw [List.length_take]; omega
    have k1 : (n : Int) ≤ (cap : Int) := by omega
    clear CUT W1 W2 NX
    go_wp2
    go_ret
    exact ⟨_, _, rfl, yb', by rw [yl.out]; omega, CU.out, NB⟩
  · have a0 : (q == 0) = false := by simp; omega
    have a1 : (q == 1) = false := by simp; omega
    have b0 : decide (q = 0) = false := by simp; omega
    have b1 : decide (q = 1) = false := by simp; omega
    go_wp2_with fail
    refine (NX (ys.length : Int) (by omega) (by omega)).out.mono ?_
    rintro e w2 ⟨k, rfl, hk, S2, O2⟩
    have OO2 := O1.trans O2
    have C3 := hide (l1Chance_any w2 s g a c xs (t + 1 + 1) 2 S2 (hr.only OO2 hne) hne hb hl (by omega) (by omega) (by decide) (by decide))
    clear NX a0 a1 b0 b1 S1 R1 W1
    go_wp2_with fail
    refine C3.out.mono ?_
    rintro e w3 ⟨b3, rfl, S3, O3⟩
    have OO3 := OO2.trans O3
    have N4 := hide (l1NextB_any w3 s g a c xs (t + 1 + 1 + 1) 6 S3 (hr.only OO3 hne) hne hb hl (by omega) (by omega) (by decide) (by decide))
    clear C3 O2 O3 OO2 S2
    cases b3 with
    | false =>
      obtain ⟨kn, rfl⟩ := Int.eq_ofNat_of_zero_le (hk).1
      have kl : kn < ys.length := by have := (hk).2; omega
      have kl' : (kn : Int) < (ys.length : Int) := by omega
      have C5 := hide (l1Chance_any w3 s g a c xs (t + 1 + 1 + 1) 2 S3 (hr.only OO3 hne) hne hb hl (by omega) (by omega) (by decide) (by decide))
      go_wp2_with fail
      refine C5.out.mono ?_
      rintro e w5 ⟨b5, rfl, S5, O5⟩
      have OO5 := OO3.trans O5
      clear C5
      cases b5 with
      | true =>
        have W5 := hR.only OO5 hsb
        obtain ⟨g3, cap3, e3, -, -, CE, FR, ST, -⟩ := W5.parts y0
        cases e3
        have ce := CE kn kl
        have fr := FR kn
        have bz := yb kn
        have wz : Hid (IntKind.u8.wrap (ys.getD kn 0 + 1) = (ys.getD kn 0 + 1) % 256) := by show _ = _; simp [IntKind.wrap, IntKind.signed, IntKind.bits]
        generalize ys.getD kn 0 = x at *
        have st := fun z => hide (ST kn z kl)
        have yb' := byt_setR yb kn ((x + 1) % 256) (by omega) (by omega)
        have yl : Hid ((ys.set kn ((x + 1) % 256)).length = ys.length) := List.length_set ..
        have NB : Below s w (w5.setCell ⟨g2, kn, none⟩ (.int .u8 ((x + 1) % 256))) := ((Below.refl s w).trans (OO5.below (Nat.le_refl _))).setCell (p := ⟨g2, kn, none⟩) (by show s ≤ g2; omega) _
        clear CE FR ST W5
        go_wp2
        go_ret
        exact ⟨_, _, rfl, yb', by rw [yl.out]; omega, (st _).out, NB⟩
      | false =>
        have N6 := hide (l1NextB_any w5 s g a c xs (t + 1 + 1 + 1 + 1) 256 S5 (hr.only OO5 hne) hne hb hl (by omega) (by omega) (by decide) (by decide))
        go_wp2_with fail
        refine N6.out.mono ?_
        rintro e w6 ⟨z, rfl, h6, S6, O6⟩
        have OO6 := OO5.trans O6
        have W6 := hR.only OO6 hsb
        obtain ⟨g3, cap3, e3, -, -, CE, FR, ST, -⟩ := W6.parts y0
        cases e3
        have ce := CE kn kl
        have fr := FR kn
        have st := hide (ST kn z kl)
        have yb' := byt_setR yb kn z h6.1 h6.2
        have yl : Hid ((ys.set kn z).length = ys.length) := List.length_set ..
        have NB : Below s w (w6.setCell ⟨g2, kn, none⟩ (.int .u8 z)) := ((Below.refl s w).trans (OO6.below (Nat.le_refl _))).setCell (p := ⟨g2, kn, none⟩) (by show s ≤ g2; omega) _
        clear CE FR ST W6 N6
        generalize ys.getD kn 0 = x at *
        go_wp2
        go_ret
        exact ⟨_, _, rfl, yb', by rw [yl.out]; omega, st.out, NB⟩
    | true =>
      by_cases c6 : 6 < k
      · have t6 : decide (6 < k) = true := by simp; omega
        go_wp2_with fail
        refine N4.out.mono ?_
        rintro e w4 ⟨k2, rfl, hk2, S4, O4⟩
        have OO4 := OO3.trans O4
        have hk3 : 0 ≤ k2 ∧ k2 < (ys.length : Int) := by omega
        clear N4 S3 t6
        obtain ⟨kn, rfl⟩ := Int.eq_ofNat_of_zero_le (hk3).1
        have kl : kn < ys.length := by have := (hk3).2; omega
        have kl' : (kn : Int) < (ys.length : Int) := by omega
        have C5 := hide (l1Chance_any w4 s g a c xs (t + 1 + 1 + 1 + 1) 2 S4 (hr.only OO4 hne) hne hb hl (by omega) (by omega) (by decide) (by decide))
        go_wp2_with fail
        refine C5.out.mono ?_
        rintro e w5 ⟨b5, rfl, S5, O5⟩
        have OO5 := OO4.trans O5
        clear C5
        cases b5 with
        | true =>
          have W5 := hR.only OO5 hsb
          obtain ⟨g3, cap3, e3, -, -, CE, FR, ST, -⟩ := W5.parts y0
          cases e3
          have ce := CE kn kl
          have fr := FR kn
          have bz := yb kn
          have wz : Hid (IntKind.u8.wrap (ys.getD kn 0 + 1) = (ys.getD kn 0 + 1) % 256) := by show _ = _; simp [IntKind.wrap, IntKind.signed, IntKind.bits]
          generalize ys.getD kn 0 = x at *
          have st := fun z => hide (ST kn z kl)
          have yb' := byt_setR yb kn ((x + 1) % 256) (by omega) (by omega)
          have yl : Hid ((ys.set kn ((x + 1) % 256)).length = ys.length) := List.length_set ..
          have NB : Below s w (w5.setCell ⟨g2, kn, none⟩ (.int .u8 ((x + 1) % 256))) := ((Below.refl s w).trans (OO5.below (Nat.le_refl _))).setCell (p := ⟨g2, kn, none⟩) (by show s ≤ g2; omega) _
          clear CE FR ST W5
          go_wp2
          go_ret
          exact ⟨_, _, rfl, yb', by rw [yl.out]; omega, (st _).out, NB⟩
        | false =>
          have N6 := hide (l1NextB_any w5 s g a c xs (t + 1 + 1 + 1 + 1 + 1) 256 S5 (hr.only OO5 hne) hne hb hl (by omega) (by omega) (by decide) (by decide))
          go_wp2_with fail
          refine N6.out.mono ?_
          rintro e w6 ⟨z, rfl, h6, S6, O6⟩
          have OO6 := OO5.trans O6
          have W6 := hR.only OO6 hsb
          obtain ⟨g3, cap3, e3, -, -, CE, FR, ST, -⟩ := W6.parts y0
          cases e3
          have ce := CE kn kl
          have fr := FR kn
          have st := hide (ST kn z kl)
          have yb' := byt_setR yb kn z h6.1 h6.2
          have yl : Hid ((ys.set kn z).length = ys.length) := List.length_set ..
          have NB : Below s w (w6.setCell ⟨g2, kn, none⟩ (.int .u8 z)) := ((Below.refl s w).trans (OO6.below (Nat.le_refl _))).setCell (p := ⟨g2, kn, none⟩) (by show s ≤ g2; omega) _
          clear CE FR ST W6 N6
          generalize ys.getD kn 0 = x at *
          go_wp2
          go_ret
          exact ⟨_, _, rfl, yb', by rw [yl.out]; omega, st.out, NB⟩
      · have t6 : decide (6 < k) = false := by simp; omega
        clear N4
        obtain ⟨kn, rfl⟩ := Int.eq_ofNat_of_zero_le (hk).1
        have kl : kn < ys.length := by have := (hk).2; omega
        have kl' : (kn : Int) < (ys.length : Int) := by omega
        have C5 := hide (l1Chance_any w3 s g a c xs (t + 1 + 1 + 1) 2 S3 (hr.only OO3 hne) hne hb hl (by omega) (by omega) (by decide) (by decide))
        go_wp2_with fail
        refine C5.out.mono ?_
        rintro e w5 ⟨b5, rfl, S5, O5⟩
        have OO5 := OO3.trans O5
        clear C5
        cases b5 with
        | true =>
          have W5 := hR.only OO5 hsb
          obtain ⟨g3, cap3, e3, -, -, CE, FR, ST, -⟩ := W5.parts y0
          cases e3
          have ce := CE kn kl
          have fr := FR kn
          have bz := yb kn
          have wz : Hid (IntKind.u8.wrap (ys.getD kn 0 + 1) = (ys.getD kn 0 + 1) % 256) := by show _ = _; simp [IntKind.wrap, IntKind.signed, IntKind.bits]
          generalize ys.getD kn 0 = x at *
          have st := fun z => hide (ST kn z kl)
          have yb' := byt_setR yb kn ((x + 1) % 256) (by omega) (by omega)
          have yl : Hid ((ys.set kn ((x + 1) % 256)).length = ys.length) := List.length_set ..
          have NB : Below s w (w5.setCell ⟨g2, kn, none⟩ (.int .u8 ((x + 1) % 256))) := ((Below.refl s w).trans (OO5.below (Nat.le_refl _))).setCell (p := ⟨g2, kn, none⟩) (by show s ≤ g2; omega) _
          clear CE FR ST W5
          go_wp2
          go_ret
          exact ⟨_, _, rfl, yb', by rw [yl.out]; omega, (st _).out, NB⟩
        | false =>
          have N6 := hide (l1NextB_any w5 s g a c xs (t + 1 + 1 + 1 + 1) 256 S5 (hr.only OO5 hne) hne hb hl (by omega) (by omega) (by decide) (by decide))
          go_wp2_with fail
          refine N6.out.mono ?_
          rintro e w6 ⟨z, rfl, h6, S6, O6⟩
          have OO6 := OO5.trans O6
          have W6 := hR.only OO6 hsb
          obtain ⟨g3, cap3, e3, -, -, CE, FR, ST, -⟩ := W6.parts y0
          cases e3
          have ce := CE kn kl
          have fr := FR kn
          have st := hide (ST kn z kl)
          have yb' := byt_setR yb kn z h6.1 h6.2
          have yl : Hid ((ys.set kn z).length = ys.length) := List.length_set ..
          have NB : Below s w (w6.setCell ⟨g2, kn, none⟩ (.int .u8 z)) := ((Below.refl s w).trans (OO6.below (Nat.le_refl _))).setCell (p := ⟨g2, kn, none⟩) (by show s ≤ g2; omega) _
          clear CE FR ST W6 N6
          generalize ys.getD kn 0 = x at *
          go_wp2
          go_ret
          exact ⟨_, _, rfl, yb', by rw [yl.out]; omega, st.out, NB⟩
end Go.Proofs.Ytdgbioekofmekaa
