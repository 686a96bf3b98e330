import Derived.Test.YtccnhdicibjbaaaGreatGB53
import Derived.Maps.AppendAt
import Derived.Test.YtccnhdicibjbaaaGreatGB51
import Derived.Test.YtccnhdicibjbaaaGreatGB48
namespace Go.Proofs.YtccnhdicibjbaaaGreat
open Go Go.RowKit
theorem append_anyZ {P : Program} (w : World) (ty : TypeId) (i : TypeInfo) (ht : P.underlying 22 = some (.slice 5)) (hi : P.info? 5 = some i) (hz : i.zero = some (.int .u8 0)) (hsize : i.size = 1) (hby : i.bytes = 1)
    (base : Nat) (v : Value) (xs : List Int) (hown : RowB w base v xs) (g : Nat) (a : Option Addr) (c : Nat) (us : List Int) (hr : Rd w g a .u8 us) (hc : a = none → c = 0) (hl : xs.length + us.length ≤ 1099511627776) (hbase : base ≤ w.heap.size) :
    ∃ v' w', (Builtin.append_ #[22, 22] ty #[v, .slice a us.length c]).run P w = .ok v' w' ∧ RowB w' base v' (xs ++ us) ∧ w.grownBy w' v.ownBlock := by
  cases a with
  | none =>
    obtain rfl : us = [] := by
      by_cases h0 : 0 < us.length
      · obtain ⟨off, h, _⟩ := hr h0
        simp at h
      · exact List.eq_nil_of_length_eq_zero (by omega)
    obtain rfl := hc rfl
    exact ⟨v, w, run_append_owned_none (P := P) (w := w) base 22 ty 5 i 1 ht hi v _ _ hown, by simpa using hown, ⟨rfl, rfl, rfl, Nat.le_refl _, fun _ _ _ => rfl⟩⟩
  | some ad =>
    have hcell : ∀ j u, (us.map (Value.int .u8))[j]? = some u → w.cell? (ad.add j) = some u := by
      intro j u hj
      have hjl : j < us.length := by
        have := (List.getElem?_eq_some_iff.1 hj).1
        simpa using this
      obtain ⟨off, ha, hcc⟩ := hr (by omega)
      simp only [Option.some.injEq] at ha
      subst ha
      rw [Addr.add_mid, hcc j hjl]
      simpa [hjl] using hj
    have hone : ∀ u ∈ us.map (Value.int .u8), u.oneCell' = true := by
      intro u hu
      obtain ⟨x, _, rfl⟩ := List.mem_map.1 hu
      rfl
    obtain ⟨v', w', h1, h2, h3, -, -⟩ := run_append_own_at (P := P) w base 22 ty 5 i (.int .u8 0) 1 1 ht hi hz hsize hby rfl (by decide) v xs.length (xs.map (Value.int .u8)) hown ad us.length c (us.map (Value.int .u8)) (by simp) hcell hone (by unfold maxLen; omega) (by omega) hbase
    refine ⟨v', w', h1, ?_, h3⟩
    show w'.ownsRow base 5 1 v' (xs ++ us).length ((xs ++ us).map (Value.int .u8))
    rw [List.length_append, List.map_append]
    exact h2
set_option maxRecDepth 100000 in
set_option maxHeartbeats 800000 in
theorem l10SpoilK_any (w : World) (s g : Nat) (a : Option Addr) (c : Nat) (xs : List Int) (t : Int) (hs : Src w s a xs.length c t) (hr : Rd w g a .u8 xs) (hne : 0 < xs.length → g ≠ s) (hb : Byt xs) (hl : xs.length ≤ 1048576)
    (t0 : 0 ≤ t) (t1 : t ≤ 10000) (v : Value) (ys : List Int) (base : Nat) (hR : RowB w base v ys) (hsb : s < base) (hbw : base ≤ w.heap.size) (yb : Byt ys) (y1 : ys.length ≤ 1000000) :
    Calls Tryz.prog 29 #[.pointer (some ⟨s, 0, none⟩), v] w fun e w' => ∃ zs r, e = .returned r ∧ Byt zs ∧ zs.length ≤ ys.length + 1 ∧ RowB w' base r zs ∧ Below s w w' ∧ (∀ k, k < w.heap.size → k ≠ s → v.ownBlock ≠ some k → w'.heap[k]? = w.heap[k]?) := by
  by_cases y0 : 0 < ys.length
  case neg =>
    have e : ys = [] := List.eq_nil_of_length_eq_zero (by omega)
    subst e
    obtain ⟨a9, c9, g9, rfl, -, -, -, -⟩ := hR.rd
    have na : Below w.heap.size w (w.alloc (.cells #[.int .u8 0] 5)) := (Below.refl _ _).alloc (Nat.le_refl _) _
    have ls := hs.lt
    have o9 := hide ((RowB.lit1 w 0).base hbw)
    go_enter Tryz.func29, Tryz.ntmps29
    go_wp2
    go_ret
    exact ⟨[0], _, rfl, fun i => by match i with | 0 => exact ⟨by decide, by decide⟩ | n + 1 => exact ⟨by simp, by simp⟩, by simp, o9.out, na.mono (by omega), fun k hk _ _ => na.block k hk⟩
  obtain ⟨i0, hi, hz0, hz1, hz2⟩ := info_parts Tryz.info5
  obtain ⟨g2, cap, rfl, hg2, hcap, -⟩ := hR.parts y0
  have e0 : ((ys.length : Int) == 0) = false := beq_eq_false_iff_ne.2 (by omega)
  have e0' : decide ((ys.length : Int) = 0) = false := decide_eq_false (by omega)
  have N1 := hide (l1NextB_any w s g a c xs t 4 hs hr hne hb hl t0 (by omega) (by decide) (by decide))
  go_enter Tryz.func29, Tryz.ntmps29
  go_wp2_with fail
  refine N1.out.mono ?_
  rintro e w1 ⟨q, rfl, hq, S1, O1⟩
  have R1 := hr.only O1 hne
  have W1 := hR.only O1 hsb
  have NX := fun n h0 h1 => hide (l1NextB_any w1 s g a c xs (t + 1) n S1 R1 hne hb hl (by omega) (by omega) h0 h1)
  clear N1
  obtain rfl | rfl | h5 : q = 0 ∨ q = 1 ∨ 2 ≤ q := by omega
  · go_wp2_with fail
    refine (NX 256 (by decide) (by decide)).out.mono ?_
    rintro e w2 ⟨r, rfl, h2, S2, O2⟩
    have W2 := W1.only O2 hsb
    have z1 := O1.size
    have z2 := O2.size
    have NB : Below s w w2 := ((Below.refl s w).trans (O1.below (Nat.le_refl _))).trans (O2.below (Nat.le_refl _))
    have na : Below w2.heap.size w2 (w2.alloc (.cells #[.int .u8 r] 5)) := (Below.refl _ _).alloc (Nat.le_refl _) _
    have B1 : Blk (w2.alloc (.cells #[.int .u8 r] 5)) w2.heap.size .u8 [r] := blk_lit1 w2 .u8 5 r
    obtain ⟨v9, w9, hap, o9, gr9⟩ := append_anyZ (P := Tryz.prog) (w2.alloc (.cells #[.int .u8 r] 5)) 22 i0 Tryz.underlying22 hi hz0 hz1 hz2 base _ _ (W2.up na) _ _ 1 [r] B1.own0.rd (by simp) (by simp; omega) (by have := na.size; omega)
    have n9 : Below s (w2.alloc (.cells #[.int .u8 r] 5)) w9 := Below.grown (Below.refl s _) gr9 (by have := na.size; omega) (fun k hk => Nat.le_trans (by omega) (World.ownsRow.lt (W2.up na) k hk).1)
    have KP := hide (show ∀ k, k < w.heap.size → k ≠ s → k ≠ g2 → w9.heap[k]? = w.heap[k]? from fun k hk h1 h2 => (gr9.block k (by have := na.size; omega) (fun e => h2 (by simpa [Value.ownBlock] using e))).trans ((na.block k (by omega)).trans ((O2.block k h1).trans (O1.block k h1))))
    have N9 := (NB.trans (na.mono (by omega))).trans n9
    have yb' := byt_app1R yb r h2.1 h2.2
    have yl : Hid ((ys ++ [r]).length = ys.length + 1) := by show _ = _; simp
    clear na B1 n9 gr9 W1 W2 NX z1 z2
    go_wp2_with (at_builtin; refine Lib.wpList_append_run _ rfl _ _ 22 22 rfl _ _ rfl rfl _ _ hap ?_)
    clear hap
    go_wp2
    go_ret
    exact ⟨_, _, rfl, yb', by rw [yl.out]; exact Nat.le_refl _, o9, N9, fun k h1 h2 h3 => KP.out k h1 h2 (fun e => h3 (by rw [e]; rfl))⟩
  · go_wp2_with fail
    refine (NX (ys.length : Int) (by omega) (by omega)).out.mono ?_
    rintro e w2 ⟨r, rfl, h2, S2, O2⟩
    obtain ⟨n, rfl⟩ := Int.eq_ofNat_of_zero_le h2.1
    have W2 := W1.only O2 hsb
    have NB : Below s w w2 := ((Below.refl s w).trans (O1.below (Nat.le_refl _))).trans (O2.below (Nat.le_refl _))
    have KP := hide (show ∀ k, k < w.heap.size → k ≠ s → k ≠ g2 → w2.heap[k]? = w.heap[k]? from fun k _ h1 _ => (O2.block k h1).trans (O1.block k h1))
    obtain ⟨g3, cap3, e3, -, -, -, -, -, CUT⟩ := W2.parts y0
    cases e3
    have CU := hide (CUT n (by omega))
    have yb' := byt_takeR yb n
    have yl : Hid ((ys.take n).length = n) := by show _ = _; rw [List.length_take]; omega
    have k1 : (n : Int) ≤ (cap : Int) := by omega
    clear CUT W1 W2 NX
    go_wp2
    go_ret
    exact ⟨_, _, rfl, yb', by rw [yl.out]; omega, CU.out, NB, fun k h1 h2 h3 => KP.out k h1 h2 (fun e => h3 (by rw [e]; rfl))⟩
  · have a0 : (q == 0) = false := by simp; omega
    have a1 : (q == 1) = false := by simp; omega
    have b0 : decide (q = 0) = false := by simp; omega
    have b1 : decide (q = 1) = false := by simp; omega
    go_wp2_with fail
    refine (NX (ys.length : Int) (by omega) (by omega)).out.mono ?_
    rintro e w2 ⟨k, rfl, hk, S2, O2⟩
    have OO2 := O1.trans O2
    have C3 := hide (l1Chance_any w2 s g a c xs (t + 1 + 1) 2 S2 (hr.only OO2 hne) hne hb hl (by omega) (by omega) (by decide) (by decide))
    clear NX a0 a1 b0 b1 S1 R1 W1
    go_wp2_with fail
    refine C3.out.mono ?_
    rintro e w3 ⟨b3, rfl, S3, O3⟩
    have OO3 := OO2.trans O3
    have N4 := hide (l1NextB_any w3 s g a c xs (t + 1 + 1 + 1) 6 S3 (hr.only OO3 hne) hne hb hl (by omega) (by omega) (by decide) (by decide))
    clear C3 O2 O3 OO2 S2
    cases b3 with
    | false =>
      obtain ⟨kn, rfl⟩ := Int.eq_ofNat_of_zero_le (hk).1
      have kl : kn < ys.length := by have := (hk).2; omega
      have kl' : (kn : Int) < (ys.length : Int) := by omega
      have C5 := hide (l1Chance_any w3 s g a c xs (t + 1 + 1 + 1) 2 S3 (hr.only OO3 hne) hne hb hl (by omega) (by omega) (by decide) (by decide))
      go_wp2_with fail
      refine C5.out.mono ?_
      rintro e w5 ⟨b5, rfl, S5, O5⟩
      have OO5 := OO3.trans O5
      clear C5
      cases b5 with
      | true =>
        have W5 := hR.only OO5 hsb
        obtain ⟨g3, cap3, e3, -, -, CE, FR, ST, -⟩ := W5.parts y0
        cases e3
        have ce := CE kn kl
        have fr := FR kn
        have bz := yb kn
        have wz : Hid (IntKind.u8.wrap (ys.getD kn 0 + 1) = (ys.getD kn 0 + 1) % 256) := by show _ = _; simp [IntKind.wrap, IntKind.signed, IntKind.bits]
        generalize ys.getD kn 0 = x at *
        have st := fun z => hide (ST kn z kl)
        have yb' := byt_setR yb kn ((x + 1) % 256) (by omega) (by omega)
        have yl : Hid ((ys.set kn ((x + 1) % 256)).length = ys.length) := List.length_set ..
        have NB : Below s w (w5.setCell ⟨g2, kn, none⟩ (.int .u8 ((x + 1) % 256))) := ((Below.refl s w).trans (OO5.below (Nat.le_refl _))).setCell (p := ⟨g2, kn, none⟩) (by show s ≤ g2; omega) _
        have KP := hide (show ∀ k, k < w.heap.size → k ≠ s → k ≠ g2 → (w5.setCell ⟨g2, kn, none⟩ (.int .u8 ((x + 1) % 256))).heap[k]? = w.heap[k]? from fun k _ h1 h2 => ((Only.setCell w5 g2 kn _).block k h2).trans (OO5.block k h1))
        clear CE FR ST W5
        go_wp2
        go_ret
        exact ⟨_, _, rfl, yb', by rw [yl.out]; omega, (st _).out, NB, fun k h1 h2 h3 => KP.out k h1 h2 (fun e => h3 (by rw [e]; rfl))⟩
      | false =>
        have N6 := hide (l1NextB_any w5 s g a c xs (t + 1 + 1 + 1 + 1) 256 S5 (hr.only OO5 hne) hne hb hl (by omega) (by omega) (by decide) (by decide))
        go_wp2_with fail
        refine N6.out.mono ?_
        rintro e w6 ⟨z, rfl, h6, S6, O6⟩
        have OO6 := OO5.trans O6
        have W6 := hR.only OO6 hsb
        obtain ⟨g3, cap3, e3, -, -, CE, FR, ST, -⟩ := W6.parts y0
        cases e3
        have ce := CE kn kl
        have fr := FR kn
        have st := hide (ST kn z kl)
        have yb' := byt_setR yb kn z h6.1 h6.2
        have yl : Hid ((ys.set kn z).length = ys.length) := List.length_set ..
        have NB : Below s w (w6.setCell ⟨g2, kn, none⟩ (.int .u8 z)) := ((Below.refl s w).trans (OO6.below (Nat.le_refl _))).setCell (p := ⟨g2, kn, none⟩) (by show s ≤ g2; omega) _
        have KP := hide (show ∀ k, k < w.heap.size → k ≠ s → k ≠ g2 → (w6.setCell ⟨g2, kn, none⟩ (.int .u8 z)).heap[k]? = w.heap[k]? from fun k _ h1 h2 => ((Only.setCell w6 g2 kn _).block k h2).trans (OO6.block k h1))
        clear CE FR ST W6 N6
        generalize ys.getD kn 0 = x at *
        go_wp2
        go_ret
        exact ⟨_, _, rfl, yb', by rw [yl.out]; omega, st.out, NB, fun k h1 h2 h3 => KP.out k h1 h2 (fun e => h3 (by rw [e]; rfl))⟩
    | true =>
      by_cases c6 : 6 < k
      · have t6 : decide (6 < k) = true := by simp; omega
        go_wp2_with fail
        refine N4.out.mono ?_
        rintro e w4 ⟨k2, rfl, hk2, S4, O4⟩
        have OO4 := OO3.trans O4
        have hk3 : 0 ≤ k2 ∧ k2 < (ys.length : Int) := by omega
        clear N4 S3 t6
        obtain ⟨kn, rfl⟩ := Int.eq_ofNat_of_zero_le (hk3).1
        have kl : kn < ys.length := by have := (hk3).2; omega
        have kl' : (kn : Int) < (ys.length : Int) := by omega
        have C5 := hide (l1Chance_any w4 s g a c xs (t + 1 + 1 + 1 + 1) 2 S4 (hr.only OO4 hne) hne hb hl (by omega) (by omega) (by decide) (by decide))
        go_wp2_with fail
        refine C5.out.mono ?_
        rintro e w5 ⟨b5, rfl, S5, O5⟩
        have OO5 := OO4.trans O5
        clear C5
        cases b5 with
        | true =>
          have W5 := hR.only OO5 hsb
          obtain ⟨g3, cap3, e3, -, -, CE, FR, ST, -⟩ := W5.parts y0
          cases e3
          have ce := CE kn kl
          have fr := FR kn
          have bz := yb kn
          have wz : Hid (IntKind.u8.wrap (ys.getD kn 0 + 1) = (ys.getD kn 0 + 1) % 256) := by show _ = _; simp [IntKind.wrap, IntKind.signed, IntKind.bits]
          generalize ys.getD kn 0 = x at *
          have st := fun z => hide (ST kn z kl)
          have yb' := byt_setR yb kn ((x + 1) % 256) (by omega) (by omega)
          have yl : Hid ((ys.set kn ((x + 1) % 256)).length = ys.length) := List.length_set ..
          have NB : Below s w (w5.setCell ⟨g2, kn, none⟩ (.int .u8 ((x + 1) % 256))) := ((Below.refl s w).trans (OO5.below (Nat.le_refl _))).setCell (p := ⟨g2, kn, none⟩) (by show s ≤ g2; omega) _
          have KP := hide (show ∀ k, k < w.heap.size → k ≠ s → k ≠ g2 → (w5.setCell ⟨g2, kn, none⟩ (.int .u8 ((x + 1) % 256))).heap[k]? = w.heap[k]? from fun k _ h1 h2 => ((Only.setCell w5 g2 kn _).block k h2).trans (OO5.block k h1))
          clear CE FR ST W5
          go_wp2
          go_ret
          exact ⟨_, _, rfl, yb', by rw [yl.out]; omega, (st _).out, NB, fun k h1 h2 h3 => KP.out k h1 h2 (fun e => h3 (by rw [e]; rfl))⟩
        | false =>
          have N6 := hide (l1NextB_any w5 s g a c xs (t + 1 + 1 + 1 + 1 + 1) 256 S5 (hr.only OO5 hne) hne hb hl (by omega) (by omega) (by decide) (by decide))
          go_wp2_with fail
          refine N6.out.mono ?_
          rintro e w6 ⟨z, rfl, h6, S6, O6⟩
          have OO6 := OO5.trans O6
          have W6 := hR.only OO6 hsb
          obtain ⟨g3, cap3, e3, -, -, CE, FR, ST, -⟩ := W6.parts y0
          cases e3
          have ce := CE kn kl
          have fr := FR kn
          have st := hide (ST kn z kl)
          have yb' := byt_setR yb kn z h6.1 h6.2
          have yl : Hid ((ys.set kn z).length = ys.length) := List.length_set ..
          have NB : Below s w (w6.setCell ⟨g2, kn, none⟩ (.int .u8 z)) := ((Below.refl s w).trans (OO6.below (Nat.le_refl _))).setCell (p := ⟨g2, kn, none⟩) (by show s ≤ g2; omega) _
          have KP := hide (show ∀ k, k < w.heap.size → k ≠ s → k ≠ g2 → (w6.setCell ⟨g2, kn, none⟩ (.int .u8 z)).heap[k]? = w.heap[k]? from fun k _ h1 h2 => ((Only.setCell w6 g2 kn _).block k h2).trans (OO6.block k h1))
          clear CE FR ST W6 N6
          generalize ys.getD kn 0 = x at *
          go_wp2
          go_ret
          exact ⟨_, _, rfl, yb', by rw [yl.out]; omega, st.out, NB, fun k h1 h2 h3 => KP.out k h1 h2 (fun e => h3 (by rw [e]; rfl))⟩
      · have t6 : decide (6 < k) = false := by simp; omega
        clear N4
        obtain ⟨kn, rfl⟩ := Int.eq_ofNat_of_zero_le (hk).1
        have kl : kn < ys.length := by have := (hk).2; omega
        have kl' : (kn : Int) < (ys.length : Int) := by omega
        have C5 := hide (l1Chance_any w3 s g a c xs (t + 1 + 1 + 1) 2 S3 (hr.only OO3 hne) hne hb hl (by omega) (by omega) (by decide) (by decide))
        go_wp2_with fail
        refine C5.out.mono ?_
        rintro e w5 ⟨b5, rfl, S5, O5⟩
        have OO5 := OO3.trans O5
        clear C5
        cases b5 with
        | true =>
          have W5 := hR.only OO5 hsb
          obtain ⟨g3, cap3, e3, -, -, CE, FR, ST, -⟩ := W5.parts y0
          cases e3
          have ce := CE kn kl
          have fr := FR kn
          have bz := yb kn
          have wz : Hid (IntKind.u8.wrap (ys.getD kn 0 + 1) = (ys.getD kn 0 + 1) % 256) := by show _ = _; simp [IntKind.wrap, IntKind.signed, IntKind.bits]
          generalize ys.getD kn 0 = x at *
          have st := fun z => hide (ST kn z kl)
          have yb' := byt_setR yb kn ((x + 1) % 256) (by omega) (by omega)
          have yl : Hid ((ys.set kn ((x + 1) % 256)).length = ys.length) := List.length_set ..
          have NB : Below s w (w5.setCell ⟨g2, kn, none⟩ (.int .u8 ((x + 1) % 256))) := ((Below.refl s w).trans (OO5.below (Nat.le_refl _))).setCell (p := ⟨g2, kn, none⟩) (by show s ≤ g2; omega) _
          have KP := hide (show ∀ k, k < w.heap.size → k ≠ s → k ≠ g2 → (w5.setCell ⟨g2, kn, none⟩ (.int .u8 ((x + 1) % 256))).heap[k]? = w.heap[k]? from fun k _ h1 h2 => ((Only.setCell w5 g2 kn _).block k h2).trans (OO5.block k h1))
          clear CE FR ST W5
          go_wp2
          go_ret
          exact ⟨_, _, rfl, yb', by rw [yl.out]; omega, (st _).out, NB, fun k h1 h2 h3 => KP.out k h1 h2 (fun e => h3 (by rw [e]; rfl))⟩
        | false =>
          have N6 := hide (l1NextB_any w5 s g a c xs (t + 1 + 1 + 1 + 1) 256 S5 (hr.only OO5 hne) hne hb hl (by omega) (by omega) (by decide) (by decide))
          go_wp2_with fail
          refine N6.out.mono ?_
          rintro e w6 ⟨z, rfl, h6, S6, O6⟩
          have OO6 := OO5.trans O6
          have W6 := hR.only OO6 hsb
          obtain ⟨g3, cap3, e3, -, -, CE, FR, ST, -⟩ := W6.parts y0
          cases e3
          have ce := CE kn kl
          have fr := FR kn
          have st := hide (ST kn z kl)
          have yb' := byt_setR yb kn z h6.1 h6.2
          have yl : Hid ((ys.set kn z).length = ys.length) := List.length_set ..
          have NB : Below s w (w6.setCell ⟨g2, kn, none⟩ (.int .u8 z)) := ((Below.refl s w).trans (OO6.below (Nat.le_refl _))).setCell (p := ⟨g2, kn, none⟩) (by show s ≤ g2; omega) _
          have KP := hide (show ∀ k, k < w.heap.size → k ≠ s → k ≠ g2 → (w6.setCell ⟨g2, kn, none⟩ (.int .u8 z)).heap[k]? = w.heap[k]? from fun k _ h1 h2 => ((Only.setCell w6 g2 kn _).block k h2).trans (OO6.block k h1))
          clear CE FR ST W6 N6
          generalize ys.getD kn 0 = x at *
          go_wp2
          go_ret
          exact ⟨_, _, rfl, yb', by rw [yl.out]; omega, st.out, NB, fun k h1 h2 h3 => KP.out k h1 h2 (fun e => h3 (by rw [e]; rfl))⟩
end Go.Proofs.YtccnhdicibjbaaaGreat
namespace Go.Proofs.YtccnhdicibjbaaaGreat
open Go Go.RowKit
theorem rb_of {w w' : World} {base : Nat} {v : Value} {xs : List Int} (h : RowB w base v xs) (hk : ∀ k, k < w.heap.size → base ≤ k → v.ownBlock = some k → w'.heap[k]? = w.heap[k]?) : RowB w' base v xs := by
  refine ⟨h.1, ?_⟩
  rcases h.2 with h' | ⟨g, cap, cur, rfl, hbg, hg, hnc, hcm, hcs, ht⟩
  · exact .inl h'
  · exact .inr ⟨g, cap, cur, rfl, hbg, (hk g (Array.getElem?_eq_some_iff.1 hg).1 hbg rfl).trans hg, hnc, hcm, hcs, ht⟩
theorem slA_byt {key non E : List Int} (hn : Byt non) (hE : Byt E) : Byt (slA key non E) := by
  unfold slA
  split
  · exact byt_app hn (seA_byt hE)
  · exact fun i => ⟨by simp, by simp⟩
def KTk (B : Nat) (w' : World) (v1 v2 : Value) : Prop := ∃ (K T : List Int), RowB w' B v1 K ∧ RowB w' B v2 T ∧ Byt K ∧ Byt T ∧ K.length ≤ 40 ∧ T.length ≤ 400
set_option maxRecDepth 100000 in
set_option maxHeartbeats 8000000 in
theorem drawOpenTicket_any (w : World) (g : Nat) (a : Option Addr) (c : Nat) (xs : List Int) (hr : Rd w g a .u8 xs) (hb : Byt xs) (hl : xs.length ≤ 1048576) :
    Calls Tryz.prog 11 #[.slice a xs.length c] w fun e w' => ∃ (v1 v2 : Value), e = .returned (.tuple #[v1, v2]) ∧ KTk w.heap.size w' v1 v2 ∧ Below w.heap.size w w' := by
  obtain ⟨i0, hi, hz0, hz1, hz2⟩ := info_parts Tryz.info5
  have lg := hr.lt
  go_enter Tryz.func11, Tryz.ntmps11
  go_wp2_with fail
  refine (l1Source_any w a xs.length c hl).mono ?_
  rintro e w1 ⟨rfl, S1, m1⟩
  obtain ⟨s, hs⟩ : ∃ s, s = w.heap.size := ⟨_, rfl⟩
  have ls : w.heap.size < w1.heap.size := S1.lt
  have S1s : Src w1 s a xs.length c 0 := by rw [hs]; exact S1
  have d1 : Dra w1 s g a c xs 0 := ⟨S1s, hr.up m1, fun h => by have := lg h; omega, hb, hl, by omega⟩
  rw [← hs]
  have hs0 : w.heap.size ≤ s := Nat.le_of_eq hs.symm
  have hs1 : s < w1.heap.size := by omega
  have b1 : Below w.heap.size w w1 := m1
  clear S1 S1s m1 hs ls hr
  go_wp2_with fail
  refine (l1DrawBytesR_any w1 s g a c xs 0 32 d1.S d1.R d1.ne d1.hb d1.hl (by omega) (by omega)).mono ?_
  rintro e w2 ⟨K, lK, bK, ⟨v2, rfl, R2⟩, S2, B2⟩
  have d2 : Dra w2 s g a c xs 32 := ⟨S2, d1.R.but B2 d1.ne, d1.ne, d1.hb, d1.hl, by omega⟩
  have y2 := B2.size
  have b2 : Below w.heap.size w w2 := b1.trans (B2.below (by omega) (by omega))
  clear S2 B2 d1 b1
  go_wp2_with fail
  refine (l1DrawBytesR_any w2 s g a c xs 32 12 d2.S d2.R d2.ne d2.hb d2.hl (by omega) (by omega)).mono ?_
  rintro e w3 ⟨N, lN, bN, ⟨v3, rfl, R3⟩, S3, B3⟩
  have d3 : Dra w3 s g a c xs 44 := ⟨S3, d2.R.but B3 d2.ne, d2.ne, d2.hb, d2.hl, by omega⟩
  have y3 := B3.size
  have o2 : ∀ k, v2.ownBlock = some k → k < w2.heap.size := fun k hk => (World.ownsRow.lt R2 k hk).2
  have o3 : ∀ k, v3.ownBlock = some k → w2.heap.size ≤ k ∧ k < w3.heap.size := fun k hk => World.ownsRow.lt R3 k hk
  replace R2 := R2.but B3 (fun k hk => by have := (World.ownsRow.lt R2 k hk).1; omega)
  have b3 : Below w.heap.size w w3 := b2.trans (B3.below (by omega) (by omega))
  clear S3 B3 d2 b2
  go_wp2_with fail
  refine (drawState_D d3 (by omega)).mono ?_
  rintro e w4 ⟨vs, u4, rfl, ⟨ax, cx, gx, X, ay, cy, gy, Y, md, li, ho, pr, ea, rfl, ⟨oX, zX, -, -, bX, -⟩, ⟨oY, zY, -, -, bY, -⟩, lh, lp⟩, h4, d4, B4⟩
  have y4 := B4.size
  replace R2 := R2.but B4 (fun k hk => by have := (World.ownsRow.lt R2 k hk).1; omega)
  replace R3 := R3.but B4 (fun k hk => by have := (World.ownsRow.lt R3 k hk).1; omega)
  have b4 : Below w.heap.size w w4 := b3.trans (B4.below (by omega) (by omega))
  obtain ⟨a2, c2, g2, rfl, D2, z2, k2, -⟩ := R2.rd
  obtain ⟨a3, c3, g3, rfl, D3, z3, k3, -⟩ := R3.rd
  have SL := hide (specSl_any w4 g2 a2 c2 K D2 bK k2 g3 a3 c3 N D3 bN z3 k3 md li ho pr ea gx ax cx X oX.rd bX zX gy ay cy Y oY.rd bY zY (by omega) (by omega))
  have LK := hide lK
  have LN := hide lN
  clear B4 d3 b3 D2 D3 oX oY zX zY lh lp
  rw [LK.out, LN.out] at SL
  rw [LK.out, LN.out]
  go_wp2_with fail
  refine SL.out.mono ?_
  rintro e w5 ⟨v5, rfl, R5, m5⟩
  have bT := hide (slA_byt (key := K) bN (byt_esA bX bY md li ho pr ea))
  have lT := hide (slA_len K N _ (esA_len X Y md li ho pr ea))
  generalize slA K N (esA X Y md li ho pr ea) = T at *
  have y5 := m5.size
  have d5 := d4.up m5
  replace R2 := R2.up m5
  replace R3 := R3.up m5
  have b5 : Below w.heap.size w w5 := nxt b4 m5
  clear SL m5 d4 b4 bX bY
  obtain ⟨a5, c5, g5, rfl, D5, z5, k5, -⟩ := R5.rd
  have o5 : ∀ k, (Value.slice a5 T.length c5).ownBlock = some k → w4.heap.size ≤ k ∧ k < w5.heap.size := fun k hk => World.ownsRow.lt R5 k hk
  clear D5
  go_wp2_with fail
  refine (next_D d5 (n := 8) (by omega) (by decide) (by decide)).mono ?_
  rintro e w6 ⟨k, rfl, hk, d6, B6⟩
  have y6 := B6.size
  replace R2 := R2.but B6 (fun k hk => by have := (World.ownsRow.lt R2 k hk).1; omega)
  replace R3 := R3.but B6 (fun k hk => by have := (World.ownsRow.lt R3 k hk).1; omega)
  replace R5 := R5.but B6 (fun k hk => by have := (World.ownsRow.lt R5 k hk).1; omega)
  have b6 : Below w.heap.size w w6 := b5.trans (B6.below (by omega) (by omega))
  clear B6 d5 b5
  obtain rfl | rfl | rfl | h3 : k = 0 ∨ k = 1 ∨ k = 2 ∨ 3 ≤ k := by omega
  · have SP := hide (l10SpoilK_any w6 s g a c xs _ d6.S d6.R d6.ne d6.hb d6.hl d6.t0 (by omega) (.slice a5 T.length c5) T w4.heap.size R5 (by omega) (by omega) bT.out (by have := lT.out; omega))
    go_wp2_with fail
    refine SP.out.mono ?_
    rintro e w7 ⟨Z, vz, rfl, bZ, lZ, RZ, n7, kp⟩
    have RK := rb_of R2 (w' := w7) (fun k hk h1 h2 => kp k hk (by omega) (fun e => by have := o2 k h2; have := (o5 k e).1; omega))
    have FIN := hide (show KTk w.heap.size w7 (.slice a2 32 c2) vz from ⟨K, Z, by rw [← LK.out]; exact RK.base (by omega), RZ.base (by omega), bK, bZ, by have := LK.out; omega, by have := lT.out; omega⟩)
    have NF := hide (b6.trans (n7.mono hs0))
    clear SP kp RK RZ R2 R3 R5
    go_wp2
    go_ret2
    exact ⟨_, _, rfl, FIN.out, NF.out⟩
  · go_wp2_with fail
    refine (next_D d6 (n := 32) (by omega) (by decide) (by decide)).mono ?_
    rintro e w7 ⟨i, rfl, hi7, d7, B7⟩
    have y7 := B7.size
    replace R2 := R2.but B7 (fun k hk => by have := (World.ownsRow.lt R2 k hk).1; omega)
    replace R5 := R5.but B7 (fun k hk => by have := (World.ownsRow.lt R5 k hk).1; omega)
    have b7 : Below w.heap.size w w7 := b6.trans (B7.below (by omega) (by omega))
    clear B7 d6 b6 R3
    go_wp2_with fail
    refine (next_D d7 (n := 256) (by omega) (by decide) (by decide)).mono ?_
    rintro e w8 ⟨z, rfl, hz8, d8, B8⟩
    have y8 := B8.size
    replace R2 := R2.but B8 (fun k hk => by have := (World.ownsRow.lt R2 k hk).1; omega)
    replace R5 := R5.but B8 (fun k hk => by have := (World.ownsRow.lt R5 k hk).1; omega)
    have b8 : Below w.heap.size w w8 := b7.trans (B8.below (by omega) (by omega))
    clear B8 d7 b7 d8
    obtain ⟨gk, ck, ek, hbk, hck, CE, FR, ST, -⟩ := R2.parts (by have := LK.out; omega)
    injection ek with ek1 ek2 ek3
    subst ek1 ek3
    have kl : i < K.length := by have := LK.out; omega
    have kl' : (i : Int) < 32 := by omega
    have ce := CE i kl
    have fr := FR i
    have st := hide (ST i (z : Int) kl)
    have bz : Hid (Byt (K.set i (z : Int))) := byt_setR bK i (z : Int) (by omega) (by omega)
    have lz : Hid ((K.set i (z : Int)).length = 32) := by show _ = _; rw [List.length_set]; exact LK.out
    have gl : gk < w2.heap.size := o2 gk rfl
    have R5' := hide (rb_of R5 (w' := w8.setCell ⟨gk, i, none⟩ (.int .u8 (z : Int))) (fun k hk h1 h2 => (Only.setCell w8 gk i _).block k (fun e => by have := (o5 k h2).1; omega)))
    have NF := hide (b8.trans ((Only.setCell w8 gk i (.int .u8 (z : Int))).below (B := w.heap.size) (by omega)))
    have hz9 : (z : Int) < 256 := hz8
    clear CE FR ST R2 R5
    go_wp2
    go_ret2
    exact ⟨_, _, rfl, ⟨K.set i (z : Int), T, by have h := st.out; rw [LK.out] at h; exact h.base (by omega), R5'.out.base (by omega), bz.out, bT.out, by have := lz.out; omega, by have := lT.out; omega⟩, NF.out⟩
  · obtain ⟨a3', c3', g3', e3', D3, z3', k3', -⟩ := R3.rd
    injection e3' with e31 _ e33
    subst e31 e33
    have CP := hide (l1CopyN_any w6 g3' a3 c3 N D3 z3 (by have := LN.out; omega))
    rw [LN.out] at CP
    clear D3 z3' k3' R5
    go_wp2_with fail
    refine CP.out.mono ?_
    rintro e w7 ⟨v7, rfl, R7, m7⟩
    have y7 := m7.size
    have o7 : ∀ k, v7.ownBlock = some k → w6.heap.size ≤ k ∧ k < w7.heap.size := fun k hk => World.ownsRow.lt R7 k hk
    have nA : Below w7.heap.size w7 (w7.alloc (.cells #[.int .u8 116, .int .u8 105, .int .u8 99, .int .u8 107, .int .u8 101, .int .u8 116] 5 (6, 7))) := (Below.refl _ _).alloc (Nat.le_refl _) _
    have kc := Lib.run_convert_bytes_const (P := Tryz.prog) w7 22 5 #[.int .u8 116, .int .u8 105, .int .u8 99, .int .u8 107, .int .u8 101, .int .u8 116] 6 6 Tryz.underlying22 Tryz.underlying5
    have BM := rd_tkM w7 5 (6, 7)
    have zA : (w7.alloc (.cells #[.int .u8 116, .int .u8 105, .int .u8 99, .int .u8 107, .int .u8 101, .int .u8 116] 5 (6, 7))).heap.size = w7.heap.size + 1 := by simp
    have d8 := (d6.up m7).up nA
    replace R2 := (R2.up m7).up nA
    replace R3 := (R3.up m7).up nA
    replace R7 := R7.up nA
    have b8 := nxt (nxt b6 m7) nA
    obtain ⟨gm, hgm⟩ : ∃ q, q = w7.heap.size := ⟨_, rfl⟩
    rw [← hgm] at BM
    have lgm : w7.heap.size ≤ gm := Nat.le_of_eq hgm.symm
    have y8 : gm < (w7.alloc (.cells #[.int .u8 116, .int .u8 105, .int .u8 99, .int .u8 107, .int .u8 101, .int .u8 116] 5 (6, 7))).heap.size := by omega
    have y8' := nA.size
    clear CP m7 nA d6 b6 zA
    go_wp2_with fail
    clear kc
    rw [← hgm]
    clear hgm
    generalize w7.alloc (.cells #[.int .u8 116, .int .u8 105, .int .u8 99, .int .u8 107, .int .u8 101, .int .u8 116] 5 (6, 7)) = w8 at *
    refine (drawState_D d8 (by omega)).mono ?_
    rintro e w9 ⟨vs, u9, rfl, ⟨ax, cx, gx, X, ay, cy, gy, Y, md, li, ho, pr, ea, rfl, ⟨oX, zX, -, -, bX, -⟩, ⟨oY, zY, -, -, bY, -⟩, lh, lp⟩, h9, d9, B9⟩
    have y9 := B9.size
    replace R2 := R2.but B9 (fun k hk => by have := (World.ownsRow.lt R2 k hk).1; omega)
    replace R3 := R3.but B9 (fun k hk => by have := (World.ownsRow.lt R3 k hk).1; omega)
    replace R7 := R7.but B9 (fun k hk => by have := (World.ownsRow.lt R7 k hk).1; omega)
    replace BM := BM.but B9 (fun _ => by omega)
    have b9 : Below w.heap.size w w9 := b8.trans (B9.below (by omega) (by omega))
    have ES := hide (specEnS_any w9 md li ho pr ea gx ax cx X oX.rd zX gy ay cy Y oY.rd zY (by omega) (by omega))
    have bE := hide (byt_esA bX bY md li ho pr ea)
    have lE := hide (esA_len X Y md li ho pr ea)
    clear B9 d8 b8 oX oY zX zY lh lp bX bY
    generalize esA X Y md li ho pr ea = E at *
    go_wp2_with fail
    refine ES.out.mono ?_
    rintro e w10 ⟨v10, rfl, R10, m10⟩
    have y10 := m10.size
    have d10 := d9.up m10
    replace R2 := R2.up m10
    replace R3 := R3.up m10
    replace R7 := R7.up m10
    replace BM := BM.up m10
    have b10 := nxt b9 m10
    have o10 : ∀ k, v10.ownBlock = some k → w9.heap.size ≤ k ∧ k < w10.heap.size := fun k hk => World.ownsRow.lt R10 k hk
    have SP := hide (l10SpoilK_any w10 s g a c xs _ d10.S d10.R d10.ne d10.hb d10.hl d10.t0 (by omega) v10 E w9.heap.size R10 (by omega) m10.size bE.out (by have := lE.out; omega))
    clear ES m10 d9 b9 d10 R10
    go_wp2_with fail
    refine SP.out.mono ?_
    rintro e w11 ⟨Z, vz, rfl, bZ, lZ, RZ, n11, kp⟩
    have y11 := n11.size
    have keep : ∀ k, k < w9.heap.size → k ≠ s → w11.heap[k]? = w10.heap[k]? := fun k h1 h2 => kp k (by omega) h2 (fun e => by have := (o10 k e).1; omega)
    replace R2 := rb_of R2 (w' := w11) (fun k hk h1 h2 => keep k (by have := o2 k h2; omega) (by omega))
    replace R3 := rb_of R3 (w' := w11) (fun k hk h1 h2 => keep k (by have := (o3 k h2).2; omega) (by omega))
    replace R7 := rb_of R7 (w' := w11) (fun k hk h1 h2 => keep k (by have := (o7 k h2).2; omega) (by omega))
    replace BM : Rd w11 gm (some ⟨gm, 0, none⟩) .u8 tkM := BM.of_block (keep gm (by omega) (by omega))
    have b11 : Below w.heap.size w w11 := b10.trans (n11.mono hs0)
    obtain ⟨aK, cK, gK, eK, DK, zK, kK, -⟩ := R2.rd
    injection eK with eK1 _ eK3
    subst eK1 eK3
    obtain ⟨aN, cN, gN, eN, DN, zN, kN, -⟩ := R3.rd
    injection eN with eN1 _ eN3
    subst eN1 eN3
    obtain ⟨aZ, cZ, gZ, rfl, DZ, zZ, kZ, -⟩ := RZ.rd
    have SE := hide (specSeal_any w11 gK a2 c2 K DK bK kK gN a3 c3 N DN bN kN gm (some ⟨gm, 0, none⟩) 6 tkM BM tkM_byt (fun h => nomatch h) gZ aZ cZ Z DZ bZ (by show 6 + _ ≤ _; have := lE.out; omega))
    rw [LK.out, LN.out, show tkM.length = 6 from rfl] at SE
    have lS := hide (seA_len K N tkM Z)
    have bS := hide (seA_byt (key := K) (non := N) (ex := tkM) bZ)
    generalize seA K N tkM Z = Q at *
    clear SP kp keep DK DN DZ BM RZ n11 b10
    go_wp2_with fail
    refine SE.out.mono ?_
    rintro e w12 ⟨⟨v12, rfl, R12⟩, m12⟩
    have y12 := m12.size
    replace R2 := R2.up m12
    replace R7 := R7.up m12
    have b12 := nxt b11 m12
    obtain ⟨a12, c12, g12, rfl, D12, z12, -, -⟩ := R12.rd
    obtain ⟨v13, w13, hap, R13, gr⟩ := append_anyZ (P := Tryz.prog) w12 22 i0 Tryz.underlying22 hi hz0 hz1 hz2 w6.heap.size v7 N R7 g12 a12 c12 Q D12 z12 (by have := LN.out; have := lS.out; have := lE.out; omega) (by omega)
    have RK := hide (rb_of R2 (w' := w13) (fun k hk h1 h2 => gr.block k hk (fun e => by have := o2 k h2; have := (o7 k e.symm).1; omega)))
    have NF := hide (b12.trans (Below.grown (Below.refl w.heap.size w12) gr (by omega) (fun k hk => by have := (o7 k hk).1; omega)))
    have bF : Hid (Byt (N ++ Q)) := byt_app bN bS.out
    have lF : Hid ((N ++ Q).length ≤ 400) := by show _ ≤ _; rw [List.length_append]; have := LN.out; have := lS.out; have := lE.out; omega
    clear SE R2 R7 R12 D12 m12 b11 gr
    go_wp2_with (at_builtin; refine Lib.wpList_append_run _ rfl _ _ 22 22 rfl _ _ rfl rfl _ _ hap ?_)
    clear hap
    go_wp2
    go_ret2
    exact ⟨_, _, rfl, ⟨K, N ++ Q, by have h := RK.out; rw [LK.out] at h; exact h.base (by omega), R13.base (by omega), bK, bF.out, by have := LK.out; omega, lF.out⟩, NF.out⟩
  · have e0 : decide ((k : Int) = 0) = false := by simp; omega
    have e1 : decide ((k : Int) = 1) = false := by simp; omega
    have e2 : decide ((k : Int) = 2) = false := by simp; omega
    have f0 : ((k : Int) == 0) = false := by simp; omega
    have f1 : ((k : Int) == 1) = false := by simp; omega
    have f2 : ((k : Int) == 2) = false := by simp; omega
    have FIN := hide (show KTk w.heap.size w6 (.slice a2 32 c2) (.slice a5 T.length c5) from ⟨K, T, by rw [← LK.out]; exact R2.base (by omega), R5.base (by omega), bK, bT.out, by have := LK.out; omega, by have := lT.out; omega⟩)
    clear R2 R3 R5
    go_wp2
    go_ret2
    exact ⟨_, _, rfl, FIN.out, b6⟩
end Go.Proofs.YtccnhdicibjbaaaGreat
namespace Go.Proofs.YtccnhdicibjbaaaGreat.Mk
open Go Go.RowKit
section
variable {P : Program} {ops : Array Oper} {Q : Exit → Act → World → Prop} {md : Region.Mode} {F : Nat → Fact} {a0 : Act} {w0 : World}
def textEnd (md : Region.Mode) (ops : Array Oper) (n : Nat) : Bool :=
  (ops.all fun o => match o.dst with | some d => decide (d < n) | none => true)
  && ((List.range ops.size).all fun i => match ops[i]? with
    | some o => o.after.all (fun e => !Region.binds md e || decide (e.on < i)) && (List.range i).all fun j => match ops[j]? with
      | some x => x.dst.isNone || o.dst != x.dst
      | none => true
    | none => true)
structure TextE (md : Region.Mode) (ops : Array Oper) (n : Nat) : Prop where
  d : ∀ (i : Nat) o d, ops[i]? = some o → o.dst = some d → d < n
  a : ∀ (i : Nat) o, ops[i]? = some o → ∀ e ∈ o.after, Region.binds md e = true → e.on < i
  x : ∀ (i j : Nat) o o' d, ops[i]? = some o → ops[j]? = some o' → i ≠ j → o.dst = some d → o'.dst ≠ some d
theorem textE_of {n : Nat} (h : textEnd md ops n = true) : TextE md ops n := by
  unfold textEnd at h
  simp only [Bool.and_eq_true] at h
  obtain ⟨h1, h2⟩ := h
  rw [Array.all_eq_true_iff_forall_mem] at h1
  rw [List.all_eq_true] at h2
  have H : ∀ (i j : Nat) o o' d, j < i → ops[i]? = some o → ops[j]? = some o' → o.dst = some d → o'.dst ≠ some d := by
    intro i j o o' d hij hi hj hd hd'
    have q := h2 i (List.mem_range.2 (Array.getElem?_eq_some_iff.1 hi).1)
    simp only [hi, Bool.and_eq_true] at q
    have r := List.all_eq_true.1 q.2 j (List.mem_range.2 hij)
    simp only [hj, hd, hd'] at r
    simp at r
  refine ⟨?_, ?_, ?_⟩
  · intro i o d ho hd
    have q := h1 o (Array.mem_of_getElem? ho)
    simpa [hd] using q
  · intro i o ho e he hb
    have q := h2 i (List.mem_range.2 (Array.getElem?_eq_some_iff.1 ho).1)
    simp only [ho, Bool.and_eq_true] at q
    have r := (Array.all_eq_true_iff_forall_mem.1 q.1) e he
    rw [hb] at r
    simpa using r
  · intro i j o o' d hi hj hij hd hd'
    rcases Nat.lt_or_gt_of_ne hij with h | h
    · exact H j i o' o d h hj hi hd' hd
    · exact H i j o o' d h hi hj hd hd'
theorem Held.nextE {n : Nat} (T : TextE md ops n) (hn : n ≤ a0.tmps.size) {listed : Array Bool} {a : Act} {w : World} (H : Held md ops F a0 w0 listed a w) {i : Nat} {o : Oper} (ho : ops[i]? = some o) (hr : i ∈ Region.ready md ops listed)
    {v : Value} {w' : World} (hw : Gm w0.heap.size w w') (hf : (F i).p v w') : Held md ops F a0 w0 (listed.setIfInBounds i true) (a.put o.dst v) w' := by
  have hi : i < ops.size := (Array.getElem?_eq_some_iff.1 ho).1
  have hz : a.tmps.size = a0.tmps.size := H.b.2.1
  refine ⟨⟨by rw [put_defers]; exact H.b.1, by rw [put_size]; exact hz, fun d hd => ?_⟩, Gm.trans H.n hw, ?_, ?_, by simp [H.s]⟩
  · rw [put_off]
    · exact H.b.2.2 d hd
    · have q := Array.all_eq_true_iff_forall_mem.1 hd o (Array.mem_of_getElem? ho)
      simpa using q
  · intro j oj d hoj hj hd
    by_cases e : i = j
    · subst e
      obtain rfl := Option.some.inj (ho.symm.trans hoj)
      rw [hd, put_at (Nat.lt_of_lt_of_le (T.d i o d ho hd) (hz ▸ hn))]
      exact hf
    · rw [getD_off e] at hj
      rw [put_off (T.x j i oj o d hoj ho (Ne.symm e) hd)]
      exact (F j).up hw (H.f j oj d hoj hj hd)
  · intro j oj hoj hj e he hb
    obtain ⟨_, o', ho', q⟩ := mem_ready.1 hr
    by_cases c : i = e.on
    · rw [← c]
      exact getD_same (by rw [H.s]; exact hi) _
    · rw [getD_off c]
      by_cases e' : i = j
      · subst e'
        obtain rfl := Option.some.inj (ho'.symm.trans hoj)
        exact q e he hb
      · rw [getD_off e'] at hj
        exact H.c j oj hoj hj e he hb
theorem any_end {n : Nat} (T : TextE md ops n) (hn : n ≤ a0.tmps.size) (steps : ∀ i, i < ops.size → StepOk P md ops Q F a0 w0 i)
    (hg : ∀ i o, ops[i]? = some o → ∀ (a : Act) (w : World), (∀ j d, waits md ops i j d = true → (F j).p (a.tmps.getD d undef) w) → Region.wanted o (yielded ops a.tmps) = true)
    (fin : ∀ a w, Based ops a0 a → Gm w0.heap.size w0 w → (∀ i o d, ops[i]? = some o → o.dst = some d → (F i).p (a.tmps.getD d undef) w) → Q .normal a w) :
    ∀ (fuel : Nat) (listed : Array Bool) (a : Act) (w : World), left listed ops.size ≤ fuel → Held md ops F a0 w0 listed a w → wpAny P md ops Q fuel listed a w := by
  have done : ∀ (fuel : Nat) (listed : Array Bool) (a : Act) (w : World), Held md ops F a0 w0 listed a w → (∀ i, i < ops.size → listed.getD i false = true) → wpAny P md ops Q fuel listed a w := by
    intro fuel listed a w H hall
    refine wpAny_done ?_ (fin a w H.b H.n (fun i o d ho hd => H.f i o d ho (hall i (Array.getElem?_eq_some_iff.1 ho).1) hd)) fuel
    cases hr : Region.ready md ops listed with
    | nil => rfl
    | cons i t =>
      exfalso
      have hi : i ∈ Region.ready md ops listed := by rw [hr]; simp
      obtain ⟨h0, o, ho, _⟩ := mem_ready.1 hi
      have hlt := (Array.getElem?_eq_some_iff.1 ho).1
      rw [dflt (by rw [H.s]; exact hlt), hall i hlt] at h0
      simp at h0
  intro fuel
  induction fuel with
  | zero =>
    intro listed a w hl H
    exact done 0 listed a w H fun i hi => by
      rw [← dflt (by rw [H.s]; exact hi)]
      exact left_zero (n := ops.size) (by omega) i hi
  | succ fuel ih =>
    intro listed a w hl H
    by_cases hall : ∀ i, i < ops.size → listed.getD i false = true
    · exact done _ listed a w H hall
    · refine ⟨fun hr => ?_, fun i hi => ?_⟩
      · exfalso
        refine hall fun j hj => ?_
        have : ∀ m i, i < m → i < ops.size → listed.getD i false = true := by
          intro m
          induction m with
          | zero => intro i hi; omega
          | succ m ihm =>
            intro i hi hik
            rcases Nat.lt_or_ge i m with h1 | h1
            · exact ihm i h1 hik
            · obtain rfl : i = m := by omega
              cases hc : listed.getD i false
              · exfalso
                obtain ⟨o, ho⟩ : ∃ o, ops[i]? = some o := ⟨ops[i], by simp [hik]⟩
                have hr' : i ∈ Region.ready md ops listed := mem_ready.2 ⟨by rw [dflt (by rw [H.s]; omega)]; exact hc, o, ho, fun e he hb => ihm e.on (T.a i o ho e he hb) (by have := T.a i o ho e he hb; omega)⟩
                rw [hr] at hr'
                simp at hr'
              · rfl
        exact this (j + 1) j (by omega) hj
      · obtain ⟨h0, o, ho, hready⟩ := mem_ready.1 hi
        have hlt := (Array.getElem?_eq_some_iff.1 ho).1
        have hfacts : ∀ j d, waits md ops i j d = true → (F j).p (a.tmps.getD d undef) w := by
          intro j d hjd
          unfold waits at hjd
          rw [ho] at hjd
          cases hoj : ops[j]? with
          | none => rw [hoj] at hjd; simp at hjd
          | some oj =>
            rw [hoj] at hjd
            simp only [Bool.and_eq_true, beq_iff_eq] at hjd
            obtain ⟨e, he, hb⟩ := Array.any_eq_true'.1 hjd.1
            simp only [Bool.and_eq_true, beq_iff_eq] at hb
            exact H.f j oj d hoj (by rw [← hb.2]; exact hready e he hb.1) hjd.2
        have hwant := hg i o ho a w hfacts
        refine wpOp_step ho fun K' hK => ?_
        rw [if_pos hwant]
        have hll := left_set (by rw [H.s]; exact hlt) h0 ops.size hlt
        refine steps i hlt o ho a w H.b H.n hfacts K' fun v w' hw hf => ?_
        exact hK _ _ (ih _ _ _ (by omega) (H.nextE T hn ho hi hw hf))
theorem region_guard {id : Nat} {w : World} (F : Nat → Fact) (hm : P.follows .mixedOrders = true) (hT : textEnd .any ops a0.tmps.size = true) (steps : ∀ i, i < ops.size → StepOk P .any ops Q F a0 w i)
    (hg : ∀ i o, ops[i]? = some o → ∀ (a : Act) (w : World), (∀ j d, waits .any ops i j d = true → (F j).p (a.tmps.getD d undef) w) → Region.wanted o (yielded ops a.tmps) = true)
    (fin : ∀ a W, Based ops a0 a → Gm w.heap.size w W → (∀ i d, writes ops i d = true → (F i).p (a.tmps.getD d undef) W) → Q .normal a W) : (Code.region id ops true).wp P Q a0 w := by
  have T := textE_of hT
  have z : ∀ j, (Array.replicate ops.size false).getD j false = false := fun j => by
    rw [Array.getD_eq_getD_getElem?, Array.getElem?_replicate]
    split <;> rfl
  refine wp_region_any hm ?_
  refine any_end (w0 := w) T (Nat.le_refl _) steps hg (fun a W hb hw hf => fin a W hb hw (fun i d hd => ?_)) ops.size _ a0 _ ?_ ⟨⟨rfl, rfl, fun _ _ => rfl⟩, (Gm.refl _ _).drew, ?_, ?_, by simp⟩
  · obtain ⟨o, ho, hd'⟩ := writes_is hd
    exact hf i o d ho hd'
  · have : ∀ m, left (Array.replicate ops.size false) m ≤ m := by
      intro m
      induction m with
      | zero => exact Nat.le_refl _
      | succ m ih => unfold left; split <;> omega
    exact this _
  · intro i o d ho hl _
    rw [z] at hl
    simp at hl
  · intro i o ho hl
    rw [z] at hl
    simp at hl
theorem wanted_none {o : Oper} {a : Act} (h : o.guard = none) : Region.wanted o (yielded ops a.tmps) = true := by simp [Region.wanted, h]
theorem wanted_some {o : Oper} {a : Act} {g d : Nat} {v : Bool} (h : o.guard = some (g, v)) (hd : writes ops g d = true) (e : a.tmps.getD d undef = .bool v) : Region.wanted o (yielded ops a.tmps) = true := by
  obtain ⟨og, ho, hd'⟩ := writes_is hd
  have e1 : a.tmps[d]? = some (.bool v) := by
    rw [Array.getD_eq_getD_getElem?] at e
    cases hq : a.tmps[d]? with
    | none => rw [hq] at e; simp [undef] at e
    | some x => rw [hq] at e; simpa using e
  simp [Region.wanted, h, yielded, ho, hd', e1]
theorem puts_guard {n : Nat} (hT : textEnd md ops n = true) (hn : n = a0.tmps.size) {a : Act} (hb : Based ops a0 a) (vs : Nat → Value) (hv : ∀ d, a.tmps.getD d undef = vs d) : a = puts vs a0 ops.toList := by
  have T := textE_of hT
  have hin : ∀ o ∈ ops.toList, ∀ e, o.dst = some e → e < a0.tmps.size := fun o ho e he => by
    obtain ⟨i, hi⟩ := List.getElem?_of_mem ho
    have := T.d i o e (by simpa using hi) he
    rw [hn] at this
    exact this
  obtain ⟨s1, s2⟩ := puts_size vs ops.toList a0
  obtain ⟨ta, da⟩ := a
  obtain ⟨h1, h2, h3⟩ := hb
  have e1 : ta = (puts vs a0 ops.toList).tmps := by
    apply Array.ext
    · rw [s1]; exact h2
    · intro i hi hi'
      have g := puts_get vs i ops.toList a0 hin
      have l : ta[i] = ta.getD i undef := by simp [Array.getD_eq_getD_getElem?, hi]
      have r : (puts vs a0 ops.toList).tmps[i] = (puts vs a0 ops.toList).tmps.getD i undef := by simp only [Array.getD_eq_getD_getElem?, Array.getElem?_eq_getElem hi', Option.getD_some]
      rw [l, r, g]
      by_cases c : ops.toList.any (fun o => o.dst == some i) = true
      · rw [if_pos c]; exact hv i
      · rw [if_neg c]
        refine h3 i ?_
        unfold apart
        rw [Array.all_eq_true_iff_forall_mem]
        intro o ho
        have hne : ¬ (o.dst == some i) = true := fun x => c (List.any_eq_true.2 ⟨o, by simpa using ho, x⟩)
        simpa using hne
  have e2 : da = (puts vs a0 ops.toList).defers := h1.trans s2.symm
  subst e1
  subst e2
  rfl
end
section
variable {P : Program} {ops : Array Oper} {Q : Exit → Act → World → Prop} {md : Region.Mode} {F : Nat → Fact} {a0 : Act} {w0 : World}
theorem any_endW {n : Nat} {wn : Nat → Bool} (T : TextE md ops n) (hn : n ≤ a0.tmps.size) (steps : ∀ i, i < ops.size → wn i = true → StepOk P md ops Q F a0 w0 i)
    (hg : ∀ i o, ops[i]? = some o → ∀ (a : Act) (w : World), (∀ j d, waits md ops i j d = true → (F j).p (a.tmps.getD d undef) w) → (wn i = true ∧ Region.wanted o (yielded ops a.tmps) = true) ∨ (Region.wanted o (yielded ops a.tmps) = false ∧ (F i).p undef w))
    (fin : ∀ a w, Based ops a0 a → Gm w0.heap.size w0 w → (∀ i o d, ops[i]? = some o → o.dst = some d → (F i).p (a.tmps.getD d undef) w) → Q .normal a w) :
    ∀ (fuel : Nat) (listed : Array Bool) (a : Act) (w : World), left listed ops.size ≤ fuel → Held md ops F a0 w0 listed a w → wpAny P md ops Q fuel listed a w := by
  have done : ∀ (fuel : Nat) (listed : Array Bool) (a : Act) (w : World), Held md ops F a0 w0 listed a w → (∀ i, i < ops.size → listed.getD i false = true) → wpAny P md ops Q fuel listed a w := by
    intro fuel listed a w H hall
    refine wpAny_done ?_ (fin a w H.b H.n (fun i o d ho hd => H.f i o d ho (hall i (Array.getElem?_eq_some_iff.1 ho).1) hd)) fuel
    cases hr : Region.ready md ops listed with
    | nil => rfl
    | cons i t =>
      exfalso
      have hi : i ∈ Region.ready md ops listed := by rw [hr]; simp
      obtain ⟨h0, o, ho, _⟩ := mem_ready.1 hi
      have hlt := (Array.getElem?_eq_some_iff.1 ho).1
      rw [dflt (by rw [H.s]; exact hlt), hall i hlt] at h0
      simp at h0
  intro fuel
  induction fuel with
  | zero =>
    intro listed a w hl H
    exact done 0 listed a w H fun i hi => by
      rw [← dflt (by rw [H.s]; exact hi)]
      exact left_zero (n := ops.size) (by omega) i hi
  | succ fuel ih =>
    intro listed a w hl H
    by_cases hall : ∀ i, i < ops.size → listed.getD i false = true
    · exact done _ listed a w H hall
    · refine ⟨fun hr => ?_, fun i hi => ?_⟩
      · exfalso
        refine hall fun j hj => ?_
        have : ∀ m i, i < m → i < ops.size → listed.getD i false = true := by
          intro m
          induction m with
          | zero => intro i hi; omega
          | succ m ihm =>
            intro i hi hik
            rcases Nat.lt_or_ge i m with h1 | h1
            · exact ihm i h1 hik
            · obtain rfl : i = m := by omega
              cases hc : listed.getD i false
              · exfalso
                obtain ⟨o, ho⟩ : ∃ o, ops[i]? = some o := ⟨ops[i], by simp [hik]⟩
                have hr' : i ∈ Region.ready md ops listed := mem_ready.2 ⟨by rw [dflt (by rw [H.s]; omega)]; exact hc, o, ho, fun e he hb => ihm e.on (T.a i o ho e he hb) (by have := T.a i o ho e he hb; omega)⟩
                rw [hr] at hr'
                simp at hr'
              · rfl
        exact this (j + 1) j (by omega) hj
      · obtain ⟨h0, o, ho, hready⟩ := mem_ready.1 hi
        have hlt := (Array.getElem?_eq_some_iff.1 ho).1
        have hfacts : ∀ j d, waits md ops i j d = true → (F j).p (a.tmps.getD d undef) w := by
          intro j d hjd
          unfold waits at hjd
          rw [ho] at hjd
          cases hoj : ops[j]? with
          | none => rw [hoj] at hjd; simp at hjd
          | some oj =>
            rw [hoj] at hjd
            simp only [Bool.and_eq_true, beq_iff_eq] at hjd
            obtain ⟨e, he, hb⟩ := Array.any_eq_true'.1 hjd.1
            simp only [Bool.and_eq_true, beq_iff_eq] at hb
            exact H.f j oj d hoj (by rw [← hb.2]; exact hready e he hb.1) hjd.2
        have hll := left_set (by rw [H.s]; exact hlt) h0 ops.size hlt
        refine wpOp_step ho fun K' hK => ?_
        rcases hg i o ho a w hfacts with ⟨hwn, hwant⟩ | ⟨hwant, hu⟩
        · rw [if_pos hwant]
          refine steps i hlt hwn o ho a w H.b H.n hfacts K' fun v w' hw hf => ?_
          exact hK _ _ (ih _ _ _ (by omega) (H.nextE T hn ho hi hw hf))
        · rw [if_neg (by rw [hwant]; decide)]
          exact hK _ _ (ih _ _ _ (by omega) (H.nextE T hn ho hi (Gm.refl _ _) hu))
theorem region_guardW {id : Nat} {w : World} (wn : Nat → Bool) (F : Nat → Fact) (hm : P.follows .mixedOrders = true) (hT : textEnd .any ops a0.tmps.size = true) (steps : ∀ i, i < ops.size → wn i = true → StepOk P .any ops Q F a0 w i)
    (hg : ∀ i o, ops[i]? = some o → ∀ (a : Act) (w : World), (∀ j d, waits .any ops i j d = true → (F j).p (a.tmps.getD d undef) w) → (wn i = true ∧ Region.wanted o (yielded ops a.tmps) = true) ∨ (Region.wanted o (yielded ops a.tmps) = false ∧ (F i).p undef w))
    (fin : ∀ a W, Based ops a0 a → Gm w.heap.size w W → (∀ i d, writes ops i d = true → (F i).p (a.tmps.getD d undef) W) → Q .normal a W) : (Code.region id ops true).wp P Q a0 w := by
  have T := textE_of hT
  have z : ∀ j, (Array.replicate ops.size false).getD j false = false := fun j => by
    rw [Array.getD_eq_getD_getElem?, Array.getElem?_replicate]
    split <;> rfl
  refine wp_region_any hm ?_
  refine any_endW (wn := wn) (w0 := w) T (Nat.le_refl _) steps hg (fun a W hb hw hf => fin a W hb hw (fun i d hd => ?_)) ops.size _ a0 _ ?_ ⟨⟨rfl, rfl, fun _ _ => rfl⟩, (Gm.refl _ _).drew, ?_, ?_, by simp⟩
  · obtain ⟨o, ho, hd'⟩ := writes_is hd
    exact hf i o d ho hd'
  · have : ∀ m, left (Array.replicate ops.size false) m ≤ m := by
      intro m
      induction m with
      | zero => exact Nat.le_refl _
      | succ m ih => unfold left; split <;> omega
    exact this _
  · intro i o d ho hl _
    rw [z] at hl
    simp at hl
  · intro i o ho hl
    rw [z] at hl
    simp at hl
theorem wanted_off {o : Oper} {a : Act} {g d : Nat} {v b : Bool} (h : o.guard = some (g, v)) (hd : writes ops g d = true) (e : a.tmps.getD d undef = .bool b) (hne : b ≠ v) : Region.wanted o (yielded ops a.tmps) = false := by
  obtain ⟨og, ho, hd'⟩ := writes_is hd
  have e1 : a.tmps[d]? = some (.bool b) := by
    rw [Array.getD_eq_getD_getElem?] at e
    cases hq : a.tmps[d]? with
    | none => rw [hq] at e; simp [undef] at e
    | some x => rw [hq] at e; simpa using e
  cases b <;> cases v <;> simp_all [Region.wanted, yielded]
end
end Go.Proofs.YtccnhdicibjbaaaGreat.Mk
