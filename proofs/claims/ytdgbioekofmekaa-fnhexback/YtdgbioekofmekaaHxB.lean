
/-
  The law FnHexBack: what it draws, and the walk (its first part is DrN's, over RowS).
-/
import Derived.Test.YtdgbioekofmekaaDrN
import Derived.Test.YtdgbioekofmekaaHxR
import Derived.Test.YtdgbioekofmekaaLDeX
namespace Go.Proofs.Ytdgbioekofmekaa
open Go Go.RowKit

set_option maxHeartbeats 400000 in
theorem l10SpoilS_any (w : World) (s g : Nat) (a : Option Addr) (c : Nat) (xs : List Int) (t : Int) (hs : Src w s a xs.length c t) (hr : Rd w g a .u8 xs) (hne : 0 < xs.length → g ≠ s) (hb : Byt xs) (hl : xs.length ≤ 1048576)
    (t0 : 0 ≤ t) (t1 : t ≤ 10000) (v : Value) (ys : List Int) (base : Nat) (hR : RowS w base v ys) (hsb : s < base) (hbw : base ≤ w.heap.size) (yb : Byt ys) (y0 : 0 < ys.length) (y1 : ys.length ≤ 1000000) :
    Calls Try.prog 27 #[.pointer (some ⟨s, 0, none⟩), v] w fun e w' => ∃ zs r, e = .returned r ∧ Byt zs ∧ zs.length ≤ ys.length + 1 ∧ RowS w' base r zs ∧ Below s w w' := by
  obtain ⟨i0, hi, hz0, hz1, hz2⟩ := info_parts Try.info5
  obtain ⟨g2, cap, rfl, hg2, hcap, -⟩ := hR.parts
  have e0 : ((ys.length : Int) == 0) = false := beq_eq_false_iff_ne.2 (by omega)
  have e0' : decide ((ys.length : Int) = 0) = false := decide_eq_false (by omega)
  have N1 := hide (l1NextB_any w s g a c xs t 4 hs hr hne hb hl t0 (by omega) (by decide) (by decide))
  go_enter Try.func27, Try.ntmps27
  go_wp2_with fail
  refine N1.out.mono ?_
  rintro e w1 ⟨q, rfl, hq, S1, O1⟩
  have R1 := hr.only O1 hne
  have W1 := hR.only O1 hsb
  have NX := fun n h0 h1 => hide (l1NextB_any w1 s g a c xs (t + 1) n S1 R1 hne hb hl (by omega) (by omega) h0 h1)
  clear N1
  obtain rfl | rfl | h5 : q = 0 ∨ q = 1 ∨ 2 ≤ q := by omega
  · go_wp2_with fail
    refine (NX 256 (by decide) (by decide)).out.mono ?_
    rintro e w2 ⟨r, rfl, h2, S2, O2⟩
    have W2 := W1.only O2 hsb
    have z1 := O1.size
    have z2 := O2.size
    have NB : Below s w w2 := ((Below.refl s w).trans (O1.below (Nat.le_refl _))).trans (O2.below (Nat.le_refl _))
    have na : Below w2.heap.size w2 (w2.alloc (.cells #[.int .u8 r] 5)) := (Below.refl _ _).alloc (Nat.le_refl _) _
    have B1 : Blk (w2.alloc (.cells #[.int .u8 r] 5)) w2.heap.size .u8 [r] := blk_lit1 w2 .u8 5 r
    obtain ⟨v9, w9, hap, o9, n9⟩ := append_S (P := Try.prog) (w2.alloc (.cells #[.int .u8 r] 5)) 22 i0 Try.underlying22 hi hz0 hz1 hz2 base s _ _ (W2.up na) _ 1 r (B1.cell (i := 0) (by simp)) (by omega) (by omega) (by have := na.size; omega)
    have N9 := (NB.trans (na.mono (by omega))).trans n9
    have yb' := byt_app1R yb r h2.1 h2.2
    have yl : Hid ((ys ++ [r]).length = ys.length + 1) := by show _ = _; simp
    clear na B1 n9 W1 W2 NX z1 z2
    go_wp2_with (at_builtin; refine Lib.wpList_append_run _ rfl _ _ 22 22 rfl _ _ rfl rfl _ _ hap ?_)
    clear hap
    go_wp2
    go_ret
    exact ⟨_, _, rfl, yb', by rw [yl.out]; exact Nat.le_refl _, o9, N9⟩
  · go_wp2_with fail
    refine (NX (ys.length : Int) (by omega) (by omega)).out.mono ?_
    rintro e w2 ⟨r, rfl, h2, S2, O2⟩
    obtain ⟨n, rfl⟩ := Int.eq_ofNat_of_zero_le h2.1
    have W2 := W1.only O2 hsb
    have NB : Below s w w2 := ((Below.refl s w).trans (O1.below (Nat.le_refl _))).trans (O2.below (Nat.le_refl _))
    obtain ⟨g3, cap3, e3, -, -, -, -, -, CUT⟩ := W2.parts
    cases e3
    have CU := hide (CUT n (by omega))
    have yb' := byt_takeR yb n
    have yl : Hid ((ys.take n).length = n) := by show _ = _; rw [List.length_take]; omega
    have k1 : (n : Int) ≤ (cap : Int) := by omega
    clear CUT W1 W2 NX
    go_wp2
    go_ret
    exact ⟨_, _, rfl, yb', by rw [yl.out]; omega, CU.out, NB⟩
  · have a0 : (q == 0) = false := by simp; omega
    have a1 : (q == 1) = false := by simp; omega
    have b0 : decide (q = 0) = false := by simp; omega
    have b1 : decide (q = 1) = false := by simp; omega
    go_wp2_with fail
    refine (NX (ys.length : Int) (by omega) (by omega)).out.mono ?_
    rintro e w2 ⟨k, rfl, hk, S2, O2⟩
    have OO2 := O1.trans O2
    have C3 := hide (l1Chance_any w2 s g a c xs (t + 1 + 1) 2 S2 (hr.only OO2 hne) hne hb hl (by omega) (by omega) (by decide) (by decide))
    clear NX a0 a1 b0 b1 S1 R1 W1
    go_wp2_with fail
    refine C3.out.mono ?_
    rintro e w3 ⟨b3, rfl, S3, O3⟩
    have OO3 := OO2.trans O3
    have N4 := hide (l1NextB_any w3 s g a c xs (t + 1 + 1 + 1) 6 S3 (hr.only OO3 hne) hne hb hl (by omega) (by omega) (by decide) (by decide))
    clear C3 O2 O3 OO2 S2
    cases b3 with
    | false =>
      obtain ⟨kn, rfl⟩ := Int.eq_ofNat_of_zero_le (hk).1
      have kl : kn < ys.length := by have := (hk).2; omega
      have kl' : (kn : Int) < (ys.length : Int) := by omega
      have C5 := hide (l1Chance_any w3 s g a c xs (t + 1 + 1 + 1) 2 S3 (hr.only OO3 hne) hne hb hl (by omega) (by omega) (by decide) (by decide))
      go_wp2_with fail
      refine C5.out.mono ?_
      rintro e w5 ⟨b5, rfl, S5, O5⟩
      have OO5 := OO3.trans O5
      clear C5
      cases b5 with
      | true =>
        have W5 := hR.only OO5 hsb
        obtain ⟨g3, cap3, e3, -, -, CE, FR, ST, -⟩ := W5.parts
        cases e3
        have ce := CE kn kl
        have fr := FR kn kl
        have bz := yb kn
        have wz : Hid (IntKind.u8.wrap (ys.getD kn 0 + 1) = (ys.getD kn 0 + 1) % 256) := by show _ = _; simp [IntKind.wrap, IntKind.signed, IntKind.bits]
        generalize ys.getD kn 0 = x at *
        have st := fun z => hide (ST kn z kl)
        have yb' := byt_setR yb kn ((x + 1) % 256) (by omega) (by omega)
        have yl : Hid ((ys.set kn ((x + 1) % 256)).length = ys.length) := List.length_set ..
        have NB : Below s w (w5.setCell ⟨g2, kn, none⟩ (.int .u8 ((x + 1) % 256))) := ((Below.refl s w).trans (OO5.below (Nat.le_refl _))).setCell (p := ⟨g2, kn, none⟩) (by show s ≤ g2; omega) _
        clear CE FR ST W5
        go_wp2
        go_ret
        exact ⟨_, _, rfl, yb', by rw [yl.out]; omega, (st _).out, NB⟩
      | false =>
        have N6 := hide (l1NextB_any w5 s g a c xs (t + 1 + 1 + 1 + 1) 256 S5 (hr.only OO5 hne) hne hb hl (by omega) (by omega) (by decide) (by decide))
        go_wp2_with fail
        refine N6.out.mono ?_
        rintro e w6 ⟨z, rfl, h6, S6, O6⟩
        have OO6 := OO5.trans O6
        have W6 := hR.only OO6 hsb
        obtain ⟨g3, cap3, e3, -, -, CE, FR, ST, -⟩ := W6.parts
        cases e3
        have ce := CE kn kl
        have fr := FR kn kl
        have st := hide (ST kn z kl)
        have yb' := byt_setR yb kn z h6.1 h6.2
        have yl : Hid ((ys.set kn z).length = ys.length) := List.length_set ..
        have NB : Below s w (w6.setCell ⟨g2, kn, none⟩ (.int .u8 z)) := ((Below.refl s w).trans (OO6.below (Nat.le_refl _))).setCell (p := ⟨g2, kn, none⟩) (by show s ≤ g2; omega) _
        clear CE FR ST W6 N6
        generalize ys.getD kn 0 = x at *
        go_wp2
        go_ret
        exact ⟨_, _, rfl, yb', by rw [yl.out]; omega, st.out, NB⟩
    | true =>
      by_cases c6 : 6 < k
      · have t6 : decide (6 < k) = true := by simp; omega
        go_wp2_with fail
        refine N4.out.mono ?_
        rintro e w4 ⟨k2, rfl, hk2, S4, O4⟩
        have OO4 := OO3.trans O4
        have hk3 : 0 ≤ k2 ∧ k2 < (ys.length : Int) := by omega
        clear N4 S3 t6
        obtain ⟨kn, rfl⟩ := Int.eq_ofNat_of_zero_le (hk3).1
        have kl : kn < ys.length := by have := (hk3).2; omega
        have kl' : (kn : Int) < (ys.length : Int) := by omega
        have C5 := hide (l1Chance_any w4 s g a c xs (t + 1 + 1 + 1 + 1) 2 S4 (hr.only OO4 hne) hne hb hl (by omega) (by omega) (by decide) (by decide))
        go_wp2_with fail
        refine C5.out.mono ?_
        rintro e w5 ⟨b5, rfl, S5, O5⟩
        have OO5 := OO4.trans O5
        clear C5
        cases b5 with
        | true =>
          have W5 := hR.only OO5 hsb
          obtain ⟨g3, cap3, e3, -, -, CE, FR, ST, -⟩ := W5.parts
          cases e3
          have ce := CE kn kl
          have fr := FR kn kl
          have bz := yb kn
          have wz : Hid (IntKind.u8.wrap (ys.getD kn 0 + 1) = (ys.getD kn 0 + 1) % 256) := by show _ = _; simp [IntKind.wrap, IntKind.signed, IntKind.bits]
          generalize ys.getD kn 0 = x at *
          have st := fun z => hide (ST kn z kl)
          have yb' := byt_setR yb kn ((x + 1) % 256) (by omega) (by omega)
          have yl : Hid ((ys.set kn ((x + 1) % 256)).length = ys.length) := List.length_set ..
          have NB : Below s w (w5.setCell ⟨g2, kn, none⟩ (.int .u8 ((x + 1) % 256))) := ((Below.refl s w).trans (OO5.below (Nat.le_refl _))).setCell (p := ⟨g2, kn, none⟩) (by show s ≤ g2; omega) _
          clear CE FR ST W5
          go_wp2
          go_ret
          exact ⟨_, _, rfl, yb', by rw [yl.out]; omega, (st _).out, NB⟩
        | false =>
          have N6 := hide (l1NextB_any w5 s g a c xs (t + 1 + 1 + 1 + 1 + 1) 256 S5 (hr.only OO5 hne) hne hb hl (by omega) (by omega) (by decide) (by decide))
          go_wp2_with fail
          refine N6.out.mono ?_
          rintro e w6 ⟨z, rfl, h6, S6, O6⟩
          have OO6 := OO5.trans O6
          have W6 := hR.only OO6 hsb
          obtain ⟨g3, cap3, e3, -, -, CE, FR, ST, -⟩ := W6.parts
          cases e3
          have ce := CE kn kl
          have fr := FR kn kl
          have st := hide (ST kn z kl)
          have yb' := byt_setR yb kn z h6.1 h6.2
          have yl : Hid ((ys.set kn z).length = ys.length) := List.length_set ..
          have NB : Below s w (w6.setCell ⟨g2, kn, none⟩ (.int .u8 z)) := ((Below.refl s w).trans (OO6.below (Nat.le_refl _))).setCell (p := ⟨g2, kn, none⟩) (by show s ≤ g2; omega) _
          clear CE FR ST W6 N6
          generalize ys.getD kn 0 = x at *
          go_wp2
          go_ret
          exact ⟨_, _, rfl, yb', by rw [yl.out]; omega, st.out, NB⟩
      · have t6 : decide (6 < k) = false := by simp; omega
        clear N4
        obtain ⟨kn, rfl⟩ := Int.eq_ofNat_of_zero_le (hk).1
        have kl : kn < ys.length := by have := (hk).2; omega
        have kl' : (kn : Int) < (ys.length : Int) := by omega
        have C5 := hide (l1Chance_any w3 s g a c xs (t + 1 + 1 + 1) 2 S3 (hr.only OO3 hne) hne hb hl (by omega) (by omega) (by decide) (by decide))
        go_wp2_with fail
        refine C5.out.mono ?_
        rintro e w5 ⟨b5, rfl, S5, O5⟩
        have OO5 := OO3.trans O5
        clear C5
        cases b5 with
        | true =>
          have W5 := hR.only OO5 hsb
          obtain ⟨g3, cap3, e3, -, -, CE, FR, ST, -⟩ := W5.parts
          cases e3
          have ce := CE kn kl
          have fr := FR kn kl
          have bz := yb kn
          have wz : Hid (IntKind.u8.wrap (ys.getD kn 0 + 1) = (ys.getD kn 0 + 1) % 256) := by show _ = _; simp [IntKind.wrap, IntKind.signed, IntKind.bits]
          generalize ys.getD kn 0 = x at *
          have st := fun z => hide (ST kn z kl)
          have yb' := byt_setR yb kn ((x + 1) % 256) (by omega) (by omega)
          have yl : Hid ((ys.set kn ((x + 1) % 256)).length = ys.length) := List.length_set ..
          have NB : Below s w (w5.setCell ⟨g2, kn, none⟩ (.int .u8 ((x + 1) % 256))) := ((Below.refl s w).trans (OO5.below (Nat.le_refl _))).setCell (p := ⟨g2, kn, none⟩) (by show s ≤ g2; omega) _
          clear CE FR ST W5
          go_wp2
          go_ret
          exact ⟨_, _, rfl, yb', by rw [yl.out]; omega, (st _).out, NB⟩
        | false =>
          have N6 := hide (l1NextB_any w5 s g a c xs (t + 1 + 1 + 1 + 1) 256 S5 (hr.only OO5 hne) hne hb hl (by omega) (by omega) (by decide) (by decide))
          go_wp2_with fail
          refine N6.out.mono ?_
          rintro e w6 ⟨z, rfl, h6, S6, O6⟩
          have OO6 := OO5.trans O6
          have W6 := hR.only OO6 hsb
          obtain ⟨g3, cap3, e3, -, -, CE, FR, ST, -⟩ := W6.parts
          cases e3
          have ce := CE kn kl
          have fr := FR kn kl
          have st := hide (ST kn z kl)
          have yb' := byt_setR yb kn z h6.1 h6.2
          have yl : Hid ((ys.set kn z).length = ys.length) := List.length_set ..
          have NB : Below s w (w6.setCell ⟨g2, kn, none⟩ (.int .u8 z)) := ((Below.refl s w).trans (OO6.below (Nat.le_refl _))).setCell (p := ⟨g2, kn, none⟩) (by show s ≤ g2; omega) _
          clear CE FR ST W6 N6
          generalize ys.getD kn 0 = x at *
          go_wp2
          go_ret
          exact ⟨_, _, rfl, yb', by rw [yl.out]; omega, st.out, NB⟩
theorem wpList_convX {P : Program} (w : World) {ops : Array Oper} {rest : List Oper} {o : Oper} {a : Act} {Q : Exit → Act → World → Prop} (hgd : o.guard = none) (src dst : TypeId) (x : Operand) (ho : o.op = .convert src dst x) (v : Value) (hx : a.eval x = v)
    (v' : Value) (w' : World) (hr : (convert src dst v).run P w = .ok v' w') (h : wpList P ops Q rest (a.put o.dst v') w') : wpList P ops Q (o :: rest) a w :=
  wpList_plain hgd fun _ hK => by
    unfold Oper.wp execOp
    simp only [ho, hx]
    rw [Sem.run_bind, hr]
    exact hK _ _ h
set_option maxHeartbeats 2000000 in
theorem drawEncHex_any (w : World) (g : Nat) (a : Option Addr) (c : Nat) (xs : List Int) (hr : Rd w g a .u8 xs) (hb : Byt xs) (hl : xs.length ≤ 1048576) :
    Calls Try.prog 15 #[.slice a xs.length c] w fun e w' => ∃ ys, Byt ys ∧ ys.length ≤ 30 ∧ NewRow w.heap.size w' e .u8 ys ∧ Below w.heap.size w w' := by
  have hne : 0 < xs.length → g ≠ w.heap.size := fun h => by have := hr.lt h; omega
  go_enter Try.func15, Try.ntmps15
  go_wp2_with fail
  refine (l1Source_any w a xs.length c hl).mono ?_
  rintro e w1 ⟨rfl, S1, n1⟩
  have R1 := hr.up n1
  go_wp2_with fail
  refine (l1Next_any w1 w.heap.size g a c xs 0 30 S1 R1 hne hb hl (by decide) (by decide) (by decide) (by decide)).mono ?_
  rintro e w2 ⟨n, rfl, hn, S2, O2⟩
  obtain ⟨n, rfl⟩ := Int.eq_ofNat_of_zero_le hn.1
  have R2 := R1.but (But.ofOnly O2) hne
  have N2 : Below w.heap.size w w2 := n1.trans (O2.below (Nat.le_refl _))
  go_wp2_with fail
  refine (l1DrawBytes_any w2 w.heap.size g a c xs _ n S2 R2 hne hb hl (by decide) (by omega)).mono ?_
  rintro e w4 ⟨ys, hys, yb, ⟨a4, c4, g4, rfl, o4, p4, q4, r4⟩, S4, B4⟩
  have z2 := N2.size
  have N4 := N2.trans (B4.below (B := w.heap.size) (Nat.le_refl _) (by omega))
  have yl : ys.length ≤ 30 := by omega
  clear hys
  go_wp2
  go_ret
  exact ⟨ys, yb, yl, ⟨a4, c4, g4, rfl, o4, p4, q4, by omega⟩, N4⟩
theorem ehF_list (xs : List Int) : ∃ l : List UInt8, ehF xs = ⟨⟨l⟩⟩ ∧ 0 < l.length ∧ l.length ≤ 2 * xs.length + 1 := by
  unfold ehF
  split
  · exact ⟨[45], rfl, by simp, by simp⟩
  · rename_i h
    refine ⟨txX (heL xs), str_isX _, ?_, ?_⟩
    · have : 0 < xs.length := List.length_pos_iff.2 h
      simp [txX, heL_len]
      omega
    · simp [txX, heL_len]
theorem byt_u8 (l : List UInt8) : Byt (l.map fun b => (b.toNat : Int)) := fun i => by
  rw [List.getD_eq_getElem?_getD, List.getElem?_map]
  cases l[i]? with
  | none => simp
  | some b => have := UInt8.toNat_lt b; simp; omega
set_option maxHeartbeats 4000000 in
theorem drawDecHex_any (w : World) (g : Nat) (a : Option Addr) (c : Nat) (xs : List Int) (hr : Rd w g a .u8 xs) (hb : Byt xs) (hl : xs.length ≤ 1048576) :
    Calls Try.prog 18 #[.slice a xs.length c] w fun e w' => ∃ l : List UInt8, e = .returned (.string ⟨⟨l⟩⟩) ∧ l.length ≤ 100 ∧ Below w.heap.size w w' := by
  have hne : 0 < xs.length → g ≠ w.heap.size := fun h => by have := hr.lt h; omega
  go_enter Try.func18, Try.ntmps18
  go_wp2_with fail
  refine (l1Source_any w a xs.length c hl).mono ?_
  rintro e w1 ⟨rfl, S1, n1⟩
  have R1 := hr.up n1
  go_wp2_with fail
  refine (l1Next_any w1 w.heap.size g a c xs 0 20 S1 R1 hne hb hl (by decide) (by decide) (by decide) (by decide)).mono ?_
  rintro e w2 ⟨n, rfl, hn, S2, O2⟩
  obtain ⟨n, rfl⟩ := Int.eq_ofNat_of_zero_le hn.1
  have R2 := R1.but (But.ofOnly O2) hne
  have N2 : Below w.heap.size w w2 := n1.trans (O2.below (Nat.le_refl _))
  go_wp2_with fail
  refine (l1DrawBytes_any w2 w.heap.size g a c xs _ n S2 R2 hne hb hl (by decide) (by omega)).mono ?_
  rintro e w4 ⟨ys, hys, yb, ⟨a4, c4, g4, rfl, o4, p4, q4, r4⟩, S4, B4⟩
  have z2 := N2.size
  have N4 := N2.trans (B4.below (B := w.heap.size) (Nat.le_refl _) (by omega))
  have R4 := R2.but B4 hne
  have s4 := S4.lt
  obtain ⟨l, el, l0, l1⟩ := ehF_list ys
  have yl : ys.length ≤ 20 := by omega
  have q4' : (0 : Int) + 1 + (n : Int) ≤ 21 := by omega
  clear hys hn
  go_wp2_with fail
  refine (specEncodeHex_any w4 g4 a4 c4 ys o4.rd yb (by omega)).mono ?_
  rintro e w5 ⟨rfl, n5⟩
  rw [el]
  have N5 := nxt N4 n5
  have S5 := S4.up n5
  have R5 := R4.up n5
  have l2 : l.length ≤ 41 := by omega
  clear el l1 o4 p4 q4 B4 yb S4 R4 n5 S2 R2 S1 R1 O2
  obtain ⟨q, hq⟩ : ∃ q : Int, q = 0 + 1 + (n : Int) := ⟨_, rfl⟩
  rw [← hq] at S5
  have q0 : 0 ≤ q ∧ q ≤ 21 := by rw [hq]; exact ⟨by omega, q4'⟩
  clear q4'
  clear hq
  go_wp2_with fail
  refine (l1Chance_any w5 w.heap.size g a c xs q 3 S5 R5 hne hb hl (by omega) (by omega) (by decide) (by decide)).mono ?_
  rintro e w6 ⟨b6, rfl, S6, O6⟩
  have R6 := R5.but (But.ofOnly O6) hne
  have N6 := N5.trans (O6.below (Nat.le_refl w.heap.size))
  cases b6 with
  | true =>
    obtain ⟨v7, w7, cv, RS, n7⟩ := convS w6 l (by omega)
    have S7 := S6.up n7
    have R7 := R6.up n7
    have N7 := nxt N6 n7
    have z6 := S6.lt
    have SPL := hide (l10SpoilS_any w7 w.heap.size g a c xs (q + 1) S7 R7 hne hb hl (by omega) (by omega) v7 _ w6.heap.size RS z6 n7.size (byt_u8 l) (by simpa using l0) (by rw [List.length_map]; omega))
    clear S5 R5 N5 O6 S6 R6 N6 n7
    have CV := hide cv
    clear cv RS
    go_upto_region 4 with fail
    go_wp2_with (first | (refine wpList_convX _ rfl 9 22 (.tmp 15) rfl (.string ⟨⟨l⟩⟩) rfl _ _ CV.out ?_) | fail)
    refine SPL.out.mono ?_
    rintro e w8 ⟨zs, r, rfl, zb, zl, RZ, nz⟩
    obtain ⟨a8, c8, g8, rfl, r8⟩ := RZ.rd
    clear SPL CV
    have CR := hide (conv_run w8 g8 a8 c8 zs r8)
    clear RZ r8
    have N8 := N7.trans nz
    have sx : Hid (str zs = ⟨⟨txX zs⟩⟩) := str_isX zs
    have zl' : (txX zs).length ≤ 100 := by unfold txX; rw [List.length_map]; rw [List.length_map] at zl; omega
    go_wp2_with (first | (refine wpList_convX _ rfl 22 9 (.tmp 17) rfl (.slice a8 zs.length c8) rfl _ _ CR.out ?_) | fail)
    go_ret
    exact ⟨txX zs, by rw [← sx.out]; rfl, zl', N8⟩
  | false =>
    go_wp2_with fail
    refine (l1Chance_any w6 w.heap.size g a c xs (q + 1) 10 S6 R6 hne hb hl (by omega) (by omega) (by decide) (by decide)).mono ?_
    rintro e w7 ⟨b7, rfl, S7, O7⟩
    have N7 := N6.trans (O7.below (Nat.le_refl w.heap.size))
    cases b7 with
    | true =>
      go_wp2
      go_ret
      exact ⟨[], rfl, by simp, N7⟩
    | false =>
      go_wp2
      go_ret
      exact ⟨l, rfl, by omega, N7⟩
end Go.Proofs.Ytdgbioekofmekaa
