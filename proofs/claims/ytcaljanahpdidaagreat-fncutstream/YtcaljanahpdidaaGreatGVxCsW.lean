import Derived.Test.YtcaljanahpdidaaGreatGV24
import Derived.Test.YtcaljanahpdidaaGreatGV23
import Derived.Test.YtcaljanahpdidaaGreatGV19
namespace Go.Proofs.YtcaljanahpdidaaGreat
open Go Go.RowKit
theorem Cst.start {w W : World} {N : Nat} {va vw vl : Value} (n : Below w.heap.size w W) (a : RowB W w.heap.size va []) (r : W.ownsRow w.heap.size 28 13 vw 0 []) (y : RowB W w.heap.size vl []) (d : ∀ g, vl.ownBlock = some g → va.ownBlock ≠ some g) (hN : 0 < N) : Cst w W N 0 va vw vl [] [] [] :=
  ⟨n, a, ⟨r, rfl, fun i hi => absurd hi (by simp), fun i hi => absurd hi (by simp)⟩, y, d, fun m hm => absurd hm (by simp), by rw [if_pos hN]; rfl, fun h => absurd h (by omega), fun m hm => absurd hm (by simp)⟩
theorem few_M {m : Msg} (h : mfF m = 0) : m.pr.length < 256 ∧ m.ce.length < 256 := by
  rcases mf_kind h with k | k | k | k | k | k | k | k | k
  · have kf : kfF m = some (helloM m, heF m.v m.r.length m.s.length m.ho m.pr m.ti.length m.bi.length m.ag m.ea) := by unfold kfF; rw [if_pos k]
    have sm := mf_same kf h
    have f0 := mf_zero kf h
    exact ⟨by have := he_pr f0; omega, by rw [← sm]; show ([] : List (List Int)).length < 256; decide⟩
  · have kf : kfF m = some (answerM m, fpF m.v m.r.length m.s.length) := by unfold kfF; rw [if_neg (by omega)]; rw [if_pos k]
    have sm := mf_same kf h
    exact ⟨by rw [← sm]; show ([] : List (List UInt8)).length < 256; decide, by rw [← sm]; show ([] : List (List Int)).length < 256; decide⟩
  · have kf : kfF m = some (ticketM m, tiF m.ag m.ea m.r.length m.ti.length) := by unfold kfF; rw [if_neg (by omega)]; rw [if_neg (by omega)]; rw [if_pos k]
    have sm := mf_same kf h
    exact ⟨by rw [← sm]; show ([] : List (List UInt8)).length < 256; decide, by rw [← sm]; show ([] : List (List Int)).length < 256; decide⟩
  · have kf : kfF m = some (endM m, 0) := by unfold kfF; rw [if_neg (by omega)]; rw [if_neg (by omega)]; rw [if_neg (by omega)]; rw [if_pos k]
    have sm := mf_same kf h
    exact ⟨by rw [← sm]; show ([] : List (List UInt8)).length < 256; decide, by rw [← sm]; show ([] : List (List Int)).length < 256; decide⟩
  · have kf : kfF m = some (extrasM m, exF m.pr m.ea) := by unfold kfF; rw [if_neg (by omega)]; rw [if_neg (by omega)]; rw [if_neg (by omega)]; rw [if_neg (by omega)]; rw [if_pos k]
    have sm := mf_same kf h
    have f0 := mf_zero kf h
    exact ⟨by have := ex_pr f0; omega, by rw [← sm]; show ([] : List (List Int)).length < 256; decide⟩
  · have kf : kfF m = some (certsM m, ceF m.ce) := by unfold kfF; rw [if_neg (by omega)]; rw [if_neg (by omega)]; rw [if_neg (by omega)]; rw [if_neg (by omega)]; rw [if_neg (by omega)]; rw [if_pos k]
    have sm := mf_same kf h
    have f0 := mf_zero kf h
    exact ⟨by rw [← sm]; show ([] : List (List UInt8)).length < 256; decide, by have := ce_n f0; omega⟩
  · have kf : kfF m = some (proofM m, pfF 64 m.pf.length) := by unfold kfF; rw [if_neg (by omega)]; rw [if_neg (by omega)]; rw [if_neg (by omega)]; rw [if_neg (by omega)]; rw [if_neg (by omega)]; rw [if_neg (by omega)]; rw [if_pos k]
    have sm := mf_same kf h
    exact ⟨by rw [← sm]; show ([] : List (List UInt8)).length < 256; decide, by rw [← sm]; show ([] : List (List Int)).length < 256; decide⟩
  · have kf : kfF m = some (finishedM m, pfF 32 m.pf.length) := by unfold kfF; rw [if_neg (by omega)]; rw [if_neg (by omega)]; rw [if_neg (by omega)]; rw [if_neg (by omega)]; rw [if_neg (by omega)]; rw [if_neg (by omega)]; rw [if_neg (by omega)]; rw [if_pos k]
    have sm := mf_same kf h
    exact ⟨by rw [← sm]; show ([] : List (List UInt8)).length < 256; decide, by rw [← sm]; show ([] : List (List Int)).length < 256; decide⟩
  · have kf : kfF m = some (updateM m, upF m.ea) := by unfold kfF; rw [if_neg (by omega)]; rw [if_neg (by omega)]; rw [if_neg (by omega)]; rw [if_neg (by omega)]; rw [if_neg (by omega)]; rw [if_neg (by omega)]; rw [if_neg (by omega)]; rw [if_neg (by omega)]; rw [if_pos k]
    have sm := mf_same kf h
    exact ⟨by rw [← sm]; show ([] : List (List UInt8)).length < 256; decide, by rw [← sm]; show ([] : List (List Int)).length < 256; decide⟩
theorem enc_bytM {m : Msg} (h : mfF m = 0) (i : IsM m) : Byt (encF m) := by
  have k := mf_kind h
  exact byt_enc (by omega) (by omega) (byt_bod i (few_M h).1 (few_M h).2)
theorem slA_zero (a : Option Addr) (c : Nat) : slA a 0 c = a := by
  unfold slA
  split
  · rfl
  · cases a with
    | none => rfl
    | some x => simp [Addr.add]
theorem Rd.takeH {w : World} {g : Nat} {a : Option Addr} {k : IntKind} {xs : List Int} (h : Rd w g a k xs) (n : Nat) : Rd w g a k (xs.take n) := fun h0 => by
  rw [List.length_take] at h0
  obtain ⟨o, e, hc⟩ := h (by omega)
  refine ⟨o, e, fun i hi => ?_⟩
  rw [List.length_take] at hi
  rw [hc i (by omega), List.getD_eq_getElem?_getD, List.getD_eq_getElem?_getD, List.getElem?_take, if_pos (by omega)]
theorem Cst.drew {w W : World} {N k : Nat} {va vw vl : Value} {L : List Msg} {es : List El} {Y : List Int} (h : Cst w W N k va vw vl L es Y) (m : Nat) : Cst w (W.drewN m) N k va vw vl L es Y := by
  have n : Below W.heap.size W (W.drewN m) := below_drewN (Below.refl _ _) _
  exact ⟨nxt h.n n, own_keep h.a fun g hg _ => n.block g hg, h.r.up n, own_keep h.y fun g hg _ => n.block g hg, h.d, h.f, h.c, h.e, h.i⟩
set_option maxRecDepth 100000 in
set_option maxHeartbeats 16000000 in
theorem cutStream_law (w : World) (g0 : Nat) (a0 : Option Addr) (c0 : Nat) (X0 : List Int) (hX0 : Rd w g0 a0 .u8 X0) (bX0 : Byt X0) (k0 : a0 = none → c0 = 0) (g1 : Nat) (a1 : Option Addr) (c1 : Nat) (X1 : List Int) (hX1 : Rd w g1 a1 .u8 X1) (bX1 : Byt X1) :
    Calls Tryz.prog 3 #[.slice a0 X0.length c0, .slice a1 X1.length c1] w fun e w' => e = .returned (.bool true) ∧ Below w.heap.size w w' := by
  by_cases q0 : X0.length ≤ 1048576
  · have u0 : decide ((1048576 : Int) < (X0.length : Int)) = false := by simp; omega
    by_cases q1 : X1.length ≤ 1048576
    · have u1 : decide ((1048576 : Int) < (X1.length : Int)) = false := by simp; omega
      obtain ⟨dR, hdR, hrowR⟩ := rowM
      obtain ⟨i0, hi, hz0, hz1, hz2⟩ := info_parts Tryz.info5
      have z1 : (w.alloc (.cells #[] 5)).heap.size = w.heap.size + 1 := by simp
      have z2 : ((w.alloc (.cells #[] 5)).alloc (.cells #[] 28)).heap.size = w.heap.size + 2 := by simp
      have m1 : Below w.heap.size w (w.alloc (.cells #[] 5)) := (Below.refl _ _).alloc (Nat.le_refl _) _
      have m2 : Below w.heap.size w ((w.alloc (.cells #[] 5)).alloc (.cells #[] 28)) := m1.alloc (by omega) _
      have m3 : Below w.heap.size w (((w.alloc (.cells #[] 5)).alloc (.cells #[] 28)).alloc (.cells #[] 5)) := m2.alloc (by omega) _
      have ST : Hid (∀ N, 0 < N → Cst w (((w.alloc (.cells #[] 5)).alloc (.cells #[] 28)).alloc (.cells #[] 5)) N 0 (.slice (some ⟨w.heap.size, 0, none⟩) 0 0) (.slice (some ⟨w.heap.size + 1, 0, none⟩) 0 0) (.slice (some ⟨w.heap.size + 2, 0, none⟩) 0 0) [] [] []) := fun N hN => by
        have r1 : RowB (w.alloc (.cells #[] 5)) w.heap.size (.slice (some ⟨w.heap.size, 0, none⟩) 0 0) [] := World.ownsRow_lit w #[] 0 (Nat.le_refl _) (by unfold maxLen; omega) (by simp)
        have r2 : ((w.alloc (.cells #[] 5)).alloc (.cells #[] 28)).ownsRow (w.alloc (.cells #[] 5)).heap.size 28 13 (.slice (some ⟨(w.alloc (.cells #[] 5)).heap.size, 0, none⟩) 0 0) 0 [] := World.ownsRow_lit _ #[] 0 (Nat.le_refl _) (by unfold maxLen; omega) (by simp)
        have r3 : RowB (((w.alloc (.cells #[] 5)).alloc (.cells #[] 28)).alloc (.cells #[] 5)) ((w.alloc (.cells #[] 5)).alloc (.cells #[] 28)).heap.size (.slice (some ⟨((w.alloc (.cells #[] 5)).alloc (.cells #[] 28)).heap.size, 0, none⟩) 0 0) [] := World.ownsRow_lit _ #[] 0 (Nat.le_refl _) (by unfold maxLen; omega) (by simp)
        rw [z1] at r2
        rw [z2] at r3
        exact Cst.start m3 ((r1.alloc _).alloc _) (own_base (r2.alloc _) (by omega)) (own_base r3 (by omega)) (fun g e1 e2 => by
          simp only [Value.ownBlock, Option.some.injEq] at e1 e2
          omega) hN
      have HC := hide hX0
      have HO := hide hX1
      have N3 := hide m3
      clear hX0 hX1 m1 m2 m3
      go_enter Tryz.func3, Tryz.ntmps3
      go_upto_region 6 with fail
      try rw [z1]
      try rw [z2]
      clear z1 z2
      generalize ((w.alloc (.cells #[] 5)).alloc (.cells #[] 28)).alloc (.cells #[] 5) = W1 at *
      go_wp2_with fail
      refine (lwAt_any W1 g1 a1 c1 X1 0 6 (HO.out.up N3.out) bX1 q1 (by decide) (by decide) (by decide) (by decide)).mono ?_
      rintro e W2 ⟨r, rfl, hr, dm, rfl⟩
      obtain ⟨N, hN⟩ : ∃ N : Nat, N = 2 + r := ⟨_, rfl⟩
      have N2 : 2 ≤ N ∧ N ≤ 7 := by omega
      have wN : IntKind.i64.wrap (2 + (r : Int)) = (N : Int) := by rw [IntKind.wrap_i64]; omega
      have C0 := hide ((ST.out N (by omega)).drew dm)
      clear hr hN ST N3
      go_upto_region 8 with fail
      go_loopw [5, 6, 7, 9] (fun va vw vl i wr => ∃ (k : Nat) (L : List Msg) (es : List El) (Y : List Int), i = .int .i64 (k : Int) ∧ k ≤ N ∧ Cst w wr N k va vw vl L es Y) (fun _ _ _ i _ => N - (intOf i).toNat)
      case atStart => exact ⟨0, [], [], [], rfl, by omega, C0.out⟩
      case round =>
        clear C0 wN
        obtain ⟨k, L, es, Y, rfl, hk, C⟩ := hrel
        by_cases hlt : k < N
        · have t0 : (k : Int) < (N : Int) := by omega
          have CH := hide C
          have Cn := C.n
          clear C
          go_wp2_with fail
          refine (lwAt_any wr g1 a1 c1 X1 k 256 (HO.out.up Cn) bX1 q1 (by omega) (by omega) (by decide) (by decide)).mono ?_
          rintro e V0' ⟨y, rfl, hy, dm2, rfl⟩
          have C0 := CH.out.drew dm2
          clear CH Cn
          generalize wr.drewN dm2 = V0 at *
          have CH := hide C0
          have n0 := C0.n
          have s0 := n0.size
          clear C0
          have b0 : 0 ≤ (k : Int) * 17 ∧ (k : Int) * 17 < 256 := by omega
          have nA : Below V0.heap.size V0 (V0.alloc (.cells #[.int .u8 ((k : Int) * 17), .int .u8 (y : Int)] 5)) := (Below.refl _ _).alloc (Nat.le_refl _) _
          have RA : RowB (V0.alloc (.cells #[.int .u8 ((k : Int) * 17), .int .u8 (y : Int)] 5)) V0.heap.size (.slice (some ⟨V0.heap.size, 0, none⟩) 2 2) [(k : Int) * 17, (y : Int)] := World.ownsRow_lit V0 #[.int .u8 ((k : Int) * 17), .int .u8 (y : Int)] 2 (Nat.le_refl _) (by unfold maxLen; omega) (by simp)
          obtain ⟨vc, V2, h1, R2, n2⟩ := append_any (P := Tryz.prog) (V0.alloc (.cells #[.int .u8 ((k : Int) * 17), .int .u8 (y : Int)] 5)) 22 i0 Tryz.underlying22 hi hz0 hz1 hz2 V0.heap.size V0.heap.size _ [(k : Int) * 17, (y : Int)] RA g0 a0 c0 X0 ((HC.out.up n0).up nA) k0 (by simp; omega) (Nat.le_refl _) nA.size
          obtain ⟨av, cv, gv, rfl, ov, _⟩ := R2.own
          have n02 := nA.trans n2
          have bX : Byt ([(k : Int) * 17, (y : Int)] ++ X0) := by
            refine byt_apd (byt_cons b0.1 b0.2 (byt_cons (by omega) (by omega) byt_nil)) bX0
          have DE := hide (drawEnc_any V2 gv av cv ([(k : Int) * 17, (y : Int)] ++ X0) ov.rd bX (by simp; omega))
          obtain ⟨lv, hlv⟩ : ∃ lv, lv = ([(k : Int) * 17, (y : Int)] ++ X0).length := ⟨_, rfl⟩
          rw [← hlv] at h1 DE
          have N02 := hide n02
          have s2 := n02.size
          clear hlv bX ov R2 n2 RA nA n02 n0
          go_wp2_with (first | (at_builtin; refine Lib.wpList_append_run _ rfl _ _ 22 22 rfl _ _ rfl rfl _ _ h1 ?_) | fail)
          refine DE.out.mono ?_
          rintro e V3 ⟨⟨v0, v1, v2, v3, v4, v5, v6, v7, v8, v9, v10, v11, v12, rfl, MF⟩, n3⟩
          obtain ⟨p, m, em, HM, IM, HZ, US⟩ := MF.msgU
          rw [em]
          unfold mgV
          have nb : Below V3.heap.size V3 (V3.alloc (.cells #[.int .i64 m.k, .int .i64 m.v, .slice p.a2 m.r.length p.c2, .slice p.a3 m.s.length p.c3, .string ⟨⟨m.ho⟩⟩, .slice p.a5 m.pr.length p.c5, .slice p.a6 m.ti.length p.c6, .int .i64 m.ag, .int .i64 m.ea, .slice p.a9 m.bi.length p.c9, .bool m.rs, .slice p.a11 m.ce.length p.c11, .slice p.a12 m.pf.length p.c12] 28)) := (Below.refl _ _).alloc (Nat.le_refl _) _
          have T4 : RwC (V3.alloc (.cells #[.int .i64 m.k, .int .i64 m.v, .slice p.a2 m.r.length p.c2, .slice p.a3 m.s.length p.c3, .string ⟨⟨m.ho⟩⟩, .slice p.a5 m.pr.length p.c5, .slice p.a6 m.ti.length p.c6, .int .i64 m.ag, .int .i64 m.ea, .slice p.a9 m.bi.length p.c9, .bool m.rs, .slice p.a11 m.ce.length p.c11, .slice p.a12 m.pf.length p.c12] 28)) V3.heap.size [.int .i64 m.k, .int .i64 m.v, .slice p.a2 m.r.length p.c2, .slice p.a3 m.s.length p.c3, .string ⟨⟨m.ho⟩⟩, .slice p.a5 m.pr.length p.c5, .slice p.a6 m.ti.length p.c6, .int .i64 m.ag, .int .i64 m.ea, .slice p.a9 m.bi.length p.c9, .bool m.rs, .slice p.a11 m.ce.length p.c11, .slice p.a12 m.pf.length p.c12] 28 := RwC.new _ _ _
          have s3 := n3.size
          have s4 : V3.heap.size < (V3.alloc (.cells #[.int .i64 m.k, .int .i64 m.v, .slice p.a2 m.r.length p.c2, .slice p.a3 m.s.length p.c3, .string ⟨⟨m.ho⟩⟩, .slice p.a5 m.pr.length p.c5, .slice p.a6 m.ti.length p.c6, .int .i64 m.ag, .int .i64 m.ea, .slice p.a9 m.bi.length p.c9, .bool m.rs, .slice p.a11 m.ce.length p.c11, .slice p.a12 m.pf.length p.c12] 28)).heap.size := by simp
          have N04 := hide (show Below V0.heap.size V0 (V3.alloc (.cells #[.int .i64 m.k, .int .i64 m.v, .slice p.a2 m.r.length p.c2, .slice p.a3 m.s.length p.c3, .string ⟨⟨m.ho⟩⟩, .slice p.a5 m.pr.length p.c5, .slice p.a6 m.ti.length p.c6, .int .i64 m.ag, .int .i64 m.ea, .slice p.a9 m.bi.length p.c9, .bool m.rs, .slice p.a11 m.ce.length p.c11, .slice p.a12 m.pf.length p.c12] 28)) from (N02.out.trans (n3.mono s2)).trans (nb.mono (by omega)))
          have HM4 := HM.up nb
          have U4 : UsM p m (fun g => V0.heap.size ≤ g ∧ g < (V3.alloc (.cells #[.int .i64 m.k, .int .i64 m.v, .slice p.a2 m.r.length p.c2, .slice p.a3 m.s.length p.c3, .string ⟨⟨m.ho⟩⟩, .slice p.a5 m.pr.length p.c5, .slice p.a6 m.ti.length p.c6, .int .i64 m.ag, .int .i64 m.ea, .slice p.a9 m.bi.length p.c9, .bool m.rs, .slice p.a11 m.ce.length p.c11, .slice p.a12 m.pf.length p.c12] 28)).heap.size) := US.mono fun g ⟨g1, g2⟩ => ⟨by omega, by omega⟩
          have IH := hide IM
          have ZH := hide HZ
          clear n3 nb DE h1 N02 HM US IM HZ MF em
          go_upto_region 11 with fail
          generalize V3.alloc (.cells #[.int .i64 m.k, .int .i64 m.v, .slice p.a2 m.r.length p.c2, .slice p.a3 m.s.length p.c3, .string ⟨⟨m.ho⟩⟩, .slice p.a5 m.pr.length p.c5, .slice p.a6 m.ti.length p.c6, .int .i64 m.ag, .int .i64 m.ea, .slice p.a9 m.bi.length p.c9, .bool m.rs, .slice p.a11 m.ce.length p.c11, .slice p.a12 m.pf.length p.c12] 28) = V4 at *
          have SM := hide (specMF_any V4 p m HM4 IH.out)
          have RG := T4.rangeG
          have TT := hide T4
          have HM := hide HM4
          have US := hide U4
          clear T4 HM4 U4
          go_wp2_with (first | (refine wpList_load_mid rfl 28 (.tmp 10) rfl (V3.heap.size) 0 rfl [.int .i64 m.k, .int .i64 m.v, .slice p.a2 m.r.length p.c2, .slice p.a3 m.s.length p.c3, .string ⟨⟨m.ho⟩⟩, .slice p.a5 m.pr.length p.c5, .slice p.a6 m.ti.length p.c6, .int .i64 m.ag, .int .i64 m.ea, .slice p.a9 m.bi.length p.c9, .bool m.rs, .slice p.a11 m.ce.length p.c11, .slice p.a12 m.pf.length p.c12] dR RG hdR hrowR iM ?_) | fail)
          refine SM.out.mono ?_
          rintro e V5 ⟨rfl, n5⟩
          have s5 := n5.size
          have T := TT.out.up n5
          have HX := hide (HM.out.up n5)
          have UX := hide (US.out.mono fun g ⟨g1, g2⟩ => (⟨g1, by omega⟩ : V0.heap.size ≤ g ∧ g < V5.heap.size))
          have N05 := hide (N04.out.trans (n5.mono (by have := N04.out.size; omega)))
          clear SM RG TT HM US n5 N04
          by_cases mz : mfF m = 0
          · have e0 : (mfF m != 0) = false := by simp [mz]
            have MZ := hide mz
            clear mz
            generalize mfF m = fm at e0 ⊢
            have RG := T.rangeG
            have EN := hide (implEnc_any V5 p m HX.out IH.out ZH.out)
            go_wp2_with (first | (refine wpList_load_mid rfl 28 (.tmp 10) rfl (V3.heap.size) 0 rfl [.int .i64 m.k, .int .i64 m.v, .slice p.a2 m.r.length p.c2, .slice p.a3 m.s.length p.c3, .string ⟨⟨m.ho⟩⟩, .slice p.a5 m.pr.length p.c5, .slice p.a6 m.ti.length p.c6, .int .i64 m.ag, .int .i64 m.ea, .slice p.a9 m.bi.length p.c9, .bool m.rs, .slice p.a11 m.ce.length p.c11, .slice p.a12 m.pf.length p.c12] dR RG hdR hrowR iM ?_) | fail)
            refine EN.out.mono ?_
            rintro e V6 ⟨⟨vb, rfl, Rb⟩, n6⟩
            have s6 := n6.size
            have N06 := N05.out.trans (n6.mono N05.out.size)
            have el := enc_le (m)
            have fw := CH.out.few (by omega)
            have fl := flM_le L
            have N05s := N05.out.size
            by_cases hl : k + 1 = N
            · have t1 : ((k : Int) == (N : Int) - 1) = true := by simp; omega
              have CL := hide (CH.out.last N06 (m) MZ.out IH.out (own_base Rb N05s) hl)
              clear RG EN HX UX T CH N05 N06 Rb n6 ZH
              go_wp2
              go_roundw
              case rel => exact ⟨k + 1, L, es, encF (m), by first | rfl | go_num, by omega, CL.out⟩
              case measure => simp [intOf]; omega
            · have t1 : ((k : Int) == (N : Int) - 1) = false := by simp; omega
              obtain ⟨ab, cb, gb, rfl, ob, zb, kb, lb⟩ := Rb.own
              obtain ⟨va', V7, h1, T7, vw', V8, h2, C8⟩ := CH.out.next N06 (p) (m) (HX.out.up n6) IH.out ZH.out MZ.out (UX.out.mono fun g ⟨g1, g2⟩ => ⟨g1, by omega⟩) gb ab cb ob.rd zb V3.heap.size (T.up n6) (by omega) (by omega) (by omega) (by omega) i0 hi hz0 hz1 hz2
              have RG7 := T7.rangeG
              have CL := hide C8
              clear RG EN HX UX T CH N05 N06 Rb n6 ob T7 C8 kb lb
              go_wp2_with (first | (at_builtin; refine Lib.wpList_append_run _ rfl _ _ 22 22 rfl _ _ rfl rfl _ _ h1 ?_) | (at_builtin; refine Lib.wpList_append_run _ rfl _ _ 23 23 rfl _ _ rfl rfl _ _ h2 ?_) | (refine wpList_load_mid rfl 28 (.tmp 10) rfl (V3.heap.size) 0 rfl [.int .i64 m.k, .int .i64 m.v, .slice p.a2 m.r.length p.c2, .slice p.a3 m.s.length p.c3, .string ⟨⟨m.ho⟩⟩, .slice p.a5 m.pr.length p.c5, .slice p.a6 m.ti.length p.c6, .int .i64 m.ag, .int .i64 m.ea, .slice p.a9 m.bi.length p.c9, .bool m.rs, .slice p.a11 m.ce.length p.c11, .slice p.a12 m.pf.length p.c12] dR RG7 hdR hrowR iM ?_) | fail)
              go_roundw
              case rel => exact ⟨k + 1, L ++ [m], _, Y, by first | rfl | go_num, by omega, CL.out⟩
              case measure => simp [intOf]; omega
          · have e0 : (mfF m != 0) = true := by simp [mz]
            clear mz
            generalize mfF m = fm at e0 ⊢
            obtain ⟨ev, hev⟩ : ∃ ev : Int, ev = (k : Int) % 2 := ⟨_, rfl⟩
            have evr : ev = 0 ∨ ev = 1 := by omega
            have MZ := hide (upM_ok evr)
            have tm1 : Int.tmod (k : Int) 2 = ev := by rw [Int.tmod_eq_emod_of_nonneg (by omega), hev]
            have tm2 : (k : Int) % 2 = ev := hev.symm
            clear hev evr
            clear HX IH ZH UX
            have ONE : (#[.int .i64 24, .int .i64 0, .slice none 0 0, .slice none 0 0, .string ⟨#[]⟩, .slice none 0 0, .slice none 0 0, .int .i64 0, .int .i64 (ev), .slice none 0 0, .bool false, .slice none 0 0, .slice none 0 0] : Array Value).all (·.oneCell') = true := by simp [Value.oneCell']
            have THR := T.thereG
            have OS := only_setG V5 V3.heap.size [.int .i64 24, .int .i64 0, .slice none 0 0, .slice none 0 0, .string ⟨#[]⟩, .slice none 0 0, .slice none 0 0, .int .i64 0, .int .i64 (ev), .slice none 0 0, .bool false, .slice none 0 0, .slice none 0 0] 0
            have TU : RwC (V5.setCells V3.heap.size 0 [.int .i64 24, .int .i64 0, .slice none 0 0, .slice none 0 0, .string ⟨#[]⟩, .slice none 0 0, .slice none 0 0, .int .i64 0, .int .i64 (ev), .slice none 0 0, .bool false, .slice none 0 0, .slice none 0 0]) V3.heap.size [.int .i64 24, .int .i64 0, .slice none 0 0, .slice none 0 0, .string ⟨#[]⟩, .slice none 0 0, .slice none 0 0, .int .i64 0, .int .i64 (ev), .slice none 0 0, .bool false, .slice none 0 0, .slice none 0 0] 28 := RwC.all13 T
            have NU := hide (N05.out.trans (OS.below (show V0.heap.size ≤ V3.heap.size by omega)))
            have su := OS.size
            clear T OS N05
            go_upto_region 13 with (first | (refine wpList_store_mid rfl 28 (.tmp 10) (.tmp 51) rfl (V3.heap.size) 0 #[.int .i64 24, .int .i64 0, .slice none 0 0, .slice none 0 0, .string ⟨#[]⟩, .slice none 0 0, .slice none 0 0, .int .i64 0, .int .i64 (ev), .slice none 0 0, .bool false, .slice none 0 0, .slice none 0 0] rfl rfl THR iM ONE ?_) | fail)
            clear tm1 tm2 ONE
            generalize V5.setCells V3.heap.size 0 [.int .i64 24, .int .i64 0, .slice none 0 0, .slice none 0 0, .string ⟨#[]⟩, .slice none 0 0, .slice none 0 0, .int .i64 0, .int .i64 (ev), .slice none 0 0, .bool false, .slice none 0 0, .slice none 0 0] = Vu at *
            clear THR
            have T := TU
            have N05 := NU
            have HX := hide (upM_has Vu (ev))
            have IH := hide (upM_is (ev))
            have ZH := hide (upM_z (ev))
            have UX := hide (upM_us (ev) (fun g => V0.heap.size ≤ g ∧ g < Vu.heap.size))
            clear TU NU
            have RG := T.rangeG
            have EN := hide (implEnc_any Vu mq0 (upM (ev)) HX.out IH.out ZH.out)
            go_wp2_with (first | (refine wpList_load_mid rfl 28 (.tmp 10) rfl (V3.heap.size) 0 rfl [.int .i64 24, .int .i64 0, .slice none 0 0, .slice none 0 0, .string ⟨#[]⟩, .slice none 0 0, .slice none 0 0, .int .i64 0, .int .i64 (ev), .slice none 0 0, .bool false, .slice none 0 0, .slice none 0 0] dR RG hdR hrowR iM ?_) | fail)
            refine EN.out.mono ?_
            rintro e V6 ⟨⟨vb, rfl, Rb⟩, n6⟩
            have s6 := n6.size
            have N06 := N05.out.trans (n6.mono N05.out.size)
            have el := enc_le (upM (ev))
            have fw := CH.out.few (by omega)
            have fl := flM_le L
            have N05s := N05.out.size
            by_cases hl : k + 1 = N
            · have t1 : ((k : Int) == (N : Int) - 1) = true := by simp; omega
              have CL := hide (CH.out.last N06 (upM (ev)) MZ.out IH.out (own_base Rb N05s) hl)
              clear RG EN HX UX T CH N05 N06 Rb n6 ZH
              go_wp2
              go_roundw
              case rel => exact ⟨k + 1, L, es, encF (upM (ev)), by first | rfl | go_num, by omega, CL.out⟩
              case measure => simp [intOf]; omega
            · have t1 : ((k : Int) == (N : Int) - 1) = false := by simp; omega
              obtain ⟨ab, cb, gb, rfl, ob, zb, kb, lb⟩ := Rb.own
              obtain ⟨va', V7, h1, T7, vw', V8, h2, C8⟩ := CH.out.next N06 mq0 (upM (ev)) (HX.out.up n6) IH.out ZH.out MZ.out (UX.out.mono fun g ⟨g1, g2⟩ => ⟨g1, by omega⟩) gb ab cb ob.rd zb V3.heap.size (T.up n6) (by omega) (by omega) (by omega) (by omega) i0 hi hz0 hz1 hz2
              have RG7 := T7.rangeG
              have CL := hide C8
              clear RG EN HX UX T CH N05 N06 Rb n6 ob T7 C8 kb lb
              go_wp2_with (first | (at_builtin; refine Lib.wpList_append_run _ rfl _ _ 22 22 rfl _ _ rfl rfl _ _ h1 ?_) | (at_builtin; refine Lib.wpList_append_run _ rfl _ _ 23 23 rfl _ _ rfl rfl _ _ h2 ?_) | (refine wpList_load_mid rfl 28 (.tmp 10) rfl (V3.heap.size) 0 rfl [.int .i64 24, .int .i64 0, .slice none 0 0, .slice none 0 0, .string ⟨#[]⟩, .slice none 0 0, .slice none 0 0, .int .i64 0, .int .i64 (ev), .slice none 0 0, .bool false, .slice none 0 0, .slice none 0 0] dR RG7 hdR hrowR iM ?_) | fail)
              go_roundw
              case rel => exact ⟨k + 1, L ++ [upM (ev)], _, Y, by first | rfl | go_num, by omega, CL.out⟩
              case measure => simp [intOf]; omega
        · obtain rfl : k = N := by omega
          obtain ⟨mm, mz, im, rfl⟩ := C.e rfl
          obtain ⟨aa, ca, ga, rfl, oa, za, ka, la⟩ := C.a.own
          obtain ⟨al, cl, gl, rfl, ol, zl, kl, ll⟩ := C.y.own
          have l0 : 0 < L.length := by have := C.c; rw [if_neg (by omega)] at this; omega
          obtain ⟨gw, cw, rfl, -, hcw⟩ := C.r.cells l0
          have HCW := hide hcw
          clear hcw
          have l4 := enc_len mz
          have el := enc_le mm
          have fl := flM_le L
          have fw := C.few (Nat.le_refl _)
          have MZ := hide mz
          have IM := hide im
          have Cn := C.n
          have OA := hide oa
          have OL := hide ol
          have CR := hide C.r
          have CF := hide C.f
          have CI := hide C.i
          have LA := hide (World.ownsRow.lt C.a)
          have LL := hide (World.ownsRow.lt C.y)
          obtain ⟨ln, hln⟩ : ∃ ln : Nat, ln = (encF mm).length := ⟨_, rfl⟩
          have LN := hide hln
          have ln4 : 4 ≤ ln ∧ ln ≤ 10000 := by omega
          obtain ⟨fn, hfn⟩ : ∃ fn : Nat, fn = (flM L).length := ⟨_, rfl⟩
          have FN := hide hfn
          have fn1 : fn ≤ 70000 := by omega
          rw [← hln, ← hfn]
          clear C mz im oa ol hln hfn l4 el fl
          have t4 : decide ((ln : Int) < 4) = false := by simp; omega
          go_wp2_with fail
          refine (lwAt_any wr g1 a1 c1 X1 1 (ln : Int) (HO.out.up Cn) bX1 q1 (by decide) (by decide) (by omega) (by omega)).mono ?_
          rintro e V1' ⟨kk, rfl, hkk, dm3, rfl⟩
          have nd : Below wr.heap.size wr (wr.drewN dm3) := below_drewN (Below.refl _ _) _
          replace OA := hide (OA.out.up nd)
          replace OL := hide (OL.out.up nd)
          replace CR := hide (CR.out.up nd)
          replace HCW := hide (fun i hi => rangeU (HCW.out i hi) nd)
          replace Cn := nxt Cn nd
          have sz : wr.heap.size = (wr.drewN dm3).heap.size := rfl
          rw [sz] at LA LL
          clear nd sz t4
          generalize wr.drewN dm3 = V1 at *
          have LN2 := LN.out
          have FN2 := FN.out
          have BY : Hid (Byt (flM L ++ (encF mm).take kk)) := by
            show Byt _
            refine byt_apd ?_ (byt_takeQ ?_ kk)
            · refine byt_flat fun l hl => ?_
              obtain ⟨x, hx, rfl⟩ := List.mem_map.1 hl
              exact enc_bytM (CF.out x hx) (CI.out x hx)
            · exact enc_bytM MZ.out IM.out
          have CUT := hide (cut_fl CF.out MZ.out (k := kk) (by omega) BY.out)
          have TK : Hid (((encF mm).take kk).length = kk) := by show _ = _; rw [List.length_take]; omega
          have SL : ∀ W, (Instr.sliceAt 22 (.slice al ln cl) none (some (.int .i64 (kk : Int))) none).run Tryz.prog W = .ok (.slice al kk cl) W := fun W => by
            have h := sl_high W al ln cl kk (by omega)
            rw [slA_zero] at h
            exact h
          obtain ⟨ZZ, hZZ⟩ : ∃ l, l = (encF mm).take kk := ⟨_, rfl⟩
          obtain ⟨XS, hXS⟩ : ∃ l, l = flM L ++ ZZ := ⟨_, rfl⟩
          have RT := OL.out.rd.takeH kk
          have GT : 0 < ((encF mm).take kk).length → gl < V1.heap.size := fun h => OL.out.rd.lt (by rw [TK.out] at h; omega)
          rw [← hZZ] at BY CUT TK RT GT
          rw [← hXS] at BY CUT
          have XL : Hid (XS.length ≤ 100000) := by show _ ≤ _; rw [hXS, List.length_append, TK.out]; omega
          have CP : Hid (∀ W, Below V1.heap.size V1 W → Calls Tryz.prog 9 #[.slice aa fn ca] W fun e w' => ∃ v, e = .returned v ∧ RowB w' V1.heap.size v (flM L) ∧ (∀ q, q < W.heap.size → v.ownBlock ≠ some q) ∧ Below V1.heap.size V1 w' ∧ Below W.heap.size W w') := by
            have h := fun W m => csCP OA.out.rd za (by omega) W m
            rw [← FN2] at h
            exact h
          have AP : Hid (∀ W v, RowB W V1.heap.size v (flM L) → Below V1.heap.size V1 W → ∃ v' w', (Builtin.append_ #[22, 22] 22 #[v, .slice al kk cl]).run Tryz.prog W = .ok v' w' ∧ (RowB w' V1.heap.size v' XS ∧ Below V1.heap.size V1 w' ∧ W.heap.size ≤ w'.heap.size ∧ (∀ q, q < W.heap.size → v.ownBlock ≠ some q → w'.heap[q]? = W.heap[q]?))) := by
            have h := fun W v R m => csAP (xs := flM L) (B := V1.heap.size) RT GT zl (by rw [TK.out]; omega) (Nat.le_refl _) i0 hi hz0 hz1 hz2 W v R m (Below.size m)
            rw [TK.out, ← hXS] at h
            exact h
          have CT : Hid (∀ W v, RowB W V1.heap.size v XS → Below V1.heap.size V1 W → Calls Tryz.prog 8 #[v] W fun e w' => ∃ vm es vx, e = .returned (.agg #[.int .i64 0, vm, vx]) ∧ MRow w' W.heap.size vm L es ∧ RowB w' W.heap.size vx ZZ ∧ Below V1.heap.size V1 w' ∧ Below W.heap.size W w') := fun W v R m => csCT BY.out (by have := XL.out; omega) CUT.out.1 CUT.out.2.1 CUT.out.2.2 W v R m m.size
          have nd : Below V1.heap.size V1 V1.drew := (Below.refl _ _).drew
          have bA : ∀ {W : World}, Below V1.heap.size V1 W → ∀ o, Below V1.heap.size V1 (W.alloc o) := fun n o => n.alloc n.size o
          have HXS := hide hXS
          have HZZ := hide hZZ
          clear LN2 FN2 RT GT hXS hZZ
          go_upto_region 21 with fail
          go_cut [13] (fun v wc => C21 V1.heap.size V1 L ZZ v wc)
          case first =>
            have CP0 := hide ((unhide CP) V1.drew nd)
            have CP1 := hide ((unhide CP) (V1.drew.alloc (.cells #[.int .i64 0, .slice none 0 0, .slice none 0 0] 33)) (bA nd _))
            go_region_law (first
              | (go_simp; go_at_call 9; refine CP0.out.mono ?_; rintro rr ws ⟨vS, rfl, RS, hS, ns, ns'⟩; (have A72 := hide ((unhide AP) ws vS RS ns)); (have A72b := hide ((unhide AP) (ws.alloc (.cells #[.int .i64 0, .slice none 0 0, .slice none 0 0] 33)) vS (RS.up ((Below.refl _ _).alloc (Nat.le_refl _) _)) (bA ns _))))
              | (go_simp; go_at_call 9; refine CP1.out.mono ?_; rintro rr ws ⟨vS, rfl, RS, hS, ns, ns'⟩; (have Z1 := (RwC.newD V1 [.int .i64 0, .slice none 0 0, .slice none 0 0] 33).up ns'); (have k1 := hS V1.heap.size (RwC.newD V1 [.int .i64 0, .slice none 0 0, .slice none 0 0] 33).lt); (have A72 := hide ((unhide AP) ws vS RS ns)))
              | (refine step_append_exM rfl (.tmp 74) (.tmp 77) 22 22 rfl vS (.slice al kk cl) rfl rfl _ A72.out ?_; rintro v72 wp ⟨R72, np, sp, kp⟩; (have Z2 := (kp _ Z1.lt k1).trans Z1); (have hq2 := Nat.le_refl V1.heap.size); (have C73 := hide ((unhide CT) wp v72 R72 np)))
              | (refine step_append_exM rfl (.tmp 74) (.tmp 77) 22 22 rfl vS (.slice al kk cl) rfl rfl _ A72.out ?_; rintro v72 wp ⟨R72, np, sp, kp⟩; (have C73 := hide ((unhide CT) wp v72 R72 np)); (have C73b := hide ((unhide CT) (wp.alloc (.cells #[.int .i64 0, .slice none 0 0, .slice none 0 0] 33)) v72 (R72.up ((Below.refl _ _).alloc (Nat.le_refl _) _)) (bA np _))))
              | (refine step_append_exM rfl (.tmp 74) (.tmp 77) 22 22 rfl vS (.slice al kk cl) rfl rfl _ A72b.out ?_; rintro v72 wp ⟨R72, np, sp, kp⟩; (have Z2 := (kp ws.heap.size (RwC.new ws [.int .i64 0, .slice none 0 0, .slice none 0 0] 33).lt (fun e => absurd (World.ownsRow.lt RS _ e).2 (Nat.lt_irrefl _))).trans (RwC.new ws [.int .i64 0, .slice none 0 0, .slice none 0 0] 33)); (have hq2 := ns.size); (have C73 := hide ((unhide CT) wp v72 R72 np)))
              | (go_simp; go_at_call 8; refine C73.out.mono ?_; rintro rr wm ⟨vr, esm, vl2, rfl, IM2, RM, nm, nm'⟩; obtain ⟨ax, cx, rfl, -⟩ := IM2.slice; obtain ⟨ay, cy, gy, rfl, -⟩ := RM.rd; (have Z3 := RwC.up Z2 nm'); (have hg := RwC.lt Z2); (have z0 := Z3.c0); (have f0 := Z3.free 0); (have z1 := Z3.c1); (have f1 := Z3.free 1); (have z2 := Z3.c2); (have f2 := Z3.free 2))
              | (go_simp; go_at_call 8; refine C73.out.mono ?_; rintro rr wm ⟨vr, esm, vl2, rfl, IM2, RM, nm, nm'⟩; obtain ⟨ax, cx, rfl, -⟩ := IM2.slice; obtain ⟨ay, cy, gy, rfl, -⟩ := RM.rd)
              | (go_simp; go_at_call 8; refine C73b.out.mono ?_; rintro rr wm ⟨vr, esm, vl2, rfl, IM2, RM, nm, nm'⟩; obtain ⟨ax, cx, rfl, -⟩ := IM2.slice; obtain ⟨ay, cy, gy, rfl, -⟩ := RM.rd; (have Z3 := (RwC.new wp [.int .i64 0, .slice none 0 0, .slice none 0 0] 33).up nm'); (have hg := (RwC.new wp [.int .i64 0, .slice none 0 0, .slice none 0 0] 33).lt); (have hq2 := np.size); (have z0 := Z3.c0); (have f0 := Z3.free 0); (have z1 := Z3.c1); (have f1 := Z3.free 1); (have z2 := Z3.c2); (have f2 := Z3.free 2))
              | fail)
            all_goals
              go_wp2_with fail
              go_meet
              first
              | (with_reducible exact c21_2 nm IM2 RM Z3 (Nat.le_refl _) hq2 hg)
              | (with_reducible exact c21_1 nm np.size nm'.size (Nat.le_refl _) IM2 RM)
          case rest =>
            obtain ⟨q13, vm, es2, vx, rfl, T13, M13, R13, n13, hq13⟩ := hcut
            obtain ⟨gm, cm, rfl, -, -, -, hcm, -⟩ := M13.cells l0
            obtain ⟨ax, cx, gx, rfl, ox, zx, kx, lx⟩ := R13.own
            rw [TK.out] at T13 R13 kx
            have c0 := T13.c0
            have c1 := T13.c1
            have c2 := T13.c2
            have RT := OL.out.rd.takeH kk
            rw [← HZZ.out] at RT
            have SM : ∀ n, Hid (Calls Tryz.prog 10 #[.slice ax kk cx, .slice al kk cl] (wc.drewN n) fun e w' => e = .returned (.bool true) ∧ w' = wc.drewN n) := fun n => by
              have h := lwSame_same (wc.drewN n) gx gl ax al cx cl ZZ (ox.rd.of_block rfl) ((RT.up n13).of_block rfl)
              rw [TK.out] at h
              exact h
            have ll1 : ((L.length : Int) != (L.length : Int)) = false := by simp
            have HT := hide T13
            have HM := hide M13
            have HCM := hide hcm
            have HR := hide R13
            have HN := hide n13
            clear T13 M13 hcm R13 n13 RT CP AP CT ox
            go_upto_region 22 with fail
            go_quiet ((go_at_call 10; refine (SM _).out.mono ?_; rintro e w' ⟨rfl, rfl⟩; exact ⟨rfl, _, rfl⟩))
            clear SM c0 c1 c2 ll1
            have ndq := below_drewN (Below.refl wc.heap.size wc) nq
            replace HT := hide (HT.out.up ndq)
            replace HM := hide (HM.out.up ndq)
            replace HR := hide (HR.out.up ndq)
            replace HCM := hide (fun i hi => rangeU (HCM.out i hi) ndq)
            replace HN := hide (nxt HN.out ndq)
            clear ndq
            generalize wc.drewN nq = wd at *
            go_wp2
            go_loopw [14] (fun i wq => ∃ (k : Nat), k ≤ L.length ∧ i = .int .i64 k ∧ Below wd.heap.size wd wq) (fun i _ => L.length - (intOf i).toNat)
            case atStart => exact ⟨0, Nat.zero_le _, rfl, Below.refl _ _⟩
            case round =>
              obtain ⟨k, hk, rfl, NQ⟩ := hrel
              by_cases hlt : k < L.length
              · have t0 : (k : Int) < (L.length : Int) := by omega
                have N1q := nxt HN.out NQ
                have TQ := HT.out.up NQ
                have r1 := rangeU (HCM.out k hlt) NQ
                have r2 := rangeU (HCW.out k hlt) N1q
                have h1 := (HM.out.up NQ).b k hlt
                have h2 := (CR.out.up N1q).b k hlt
                have im := h2.2.1
                have NB := hide NQ
                go_upto_region 27 with fail
                refine region_end 11 (fun i => [Fact.eq (.pointer (some ⟨q13, 1, none⟩)), Fact.eq (.slice (some ⟨gm, 0, none⟩) L.length cm), Fact.eq (.int .i64 (k : Int)), Fact.eq (.pointer (some ⟨gm, k * 13, none⟩)), FMq (L.getD k msg0), Fact.eq (.slice (some ⟨gw, 0, none⟩) L.length cw), Fact.eq (.int .i64 (k : Int)), Fact.eq (.pointer (some ⟨gw, k * 13, none⟩)), FMq (L.getD k msg0), Fact.eq (.bool true), Fact.eq (.bool (!true))].getD i Fact.no) (by kernel_rfl) (by kernel_rfl) rfl ?_ ?_
                · intro i hi
                  obtain rfl | rfl | rfl | rfl | rfl | rfl | rfl | rfl | rfl | rfl | rfl : i = 0 ∨ i = 1 ∨ i = 2 ∨ i = 3 ∨ i = 4 ∨ i = 5 ∨ i = 6 ∨ i = 7 ∨ i = 8 ∨ i = 9 ∨ i = 10 := by omega
                  · refine step_pure rfl fun A ww hb hw hf => ?_
                    have e1 : A.tmps[13]?.getD undef = .pointer (some ⟨q13, 0, none⟩) := gdv (hb.2.2 13 (by kernel_rfl))
                    exact ⟨.pointer (some ⟨q13, 1, none⟩), by simp [go_sem, e1], rfl⟩
                  · refine step_pure rfl fun A ww hb hw hf => ?_
                    have e1 : A.tmps[106]?.getD undef = .pointer (some ⟨q13, 1, none⟩) := gdv (hf 0 106 (by kernel_rfl))
                    have hc := (TQ.up hw).c1
                    exact ⟨.slice (some ⟨gm, 0, none⟩) L.length cm, by simp [go_sem, e1, hc], rfl⟩
                  · refine step_pure rfl fun A ww hb hw hf => ?_
                    have e1 : A.tmps[14]?.getD undef = .int .i64 (k : Int) := gdv (hb.2.2 14 (by kernel_rfl))
                    exact ⟨.int .i64 (k : Int), by simp [go_sem, e1], rfl⟩
                  · refine step_pure rfl fun A ww hb hw hf => ?_
                    have e1 : A.tmps[107]?.getD undef = .slice (some ⟨gm, 0, none⟩) L.length cm := gdv (hf 1 107 (by kernel_rfl))
                    have e2 : A.tmps[108]?.getD undef = .int .i64 (k : Int) := gdv (hf 2 108 (by kernel_rfl))
                    exact ⟨.pointer (some ⟨gm, k * 13, none⟩), by simp [go_sem, e1, e2, hlt], rfl⟩
                  · exact step_lMq rfl 109 3 rfl (by kernel_rfl) rfl r1 h1.has rfl
                  · refine step_pure rfl fun A ww hb hw hf => ?_
                    have e1 : A.tmps[6]?.getD undef = .slice (some ⟨gw, 0, none⟩) L.length cw := gdv (hb.2.2 6 (by kernel_rfl))
                    exact ⟨.slice (some ⟨gw, 0, none⟩) L.length cw, by simp [go_sem, e1], rfl⟩
                  · refine step_pure rfl fun A ww hb hw hf => ?_
                    have e1 : A.tmps[14]?.getD undef = .int .i64 (k : Int) := gdv (hb.2.2 14 (by kernel_rfl))
                    exact ⟨.int .i64 (k : Int), by simp [go_sem, e1], rfl⟩
                  · refine step_pure rfl fun A ww hb hw hf => ?_
                    have e1 : A.tmps[111]?.getD undef = .slice (some ⟨gw, 0, none⟩) L.length cw := gdv (hf 5 111 (by kernel_rfl))
                    have e2 : A.tmps[112]?.getD undef = .int .i64 (k : Int) := gdv (hf 6 112 (by kernel_rfl))
                    exact ⟨.pointer (some ⟨gw, k * 13, none⟩), by simp [go_sem, e1, e2, hlt], rfl⟩
                  · exact step_lMq rfl 113 7 rfl (by kernel_rfl) rfl r2 h2.1 rfl
                  · exact step_smq rfl 110 114 4 8 rfl (by kernel_rfl) (by kernel_rfl) im rfl rfl rfl
                  · exact step_notq rfl 115 9 rfl (by kernel_rfl) rfl rfl
                intro A W hb' hw hF
                have e2 := hF 10 116 (by kernel_rfl)
                obtain ⟨vs, hvs⟩ : ∃ vs : Nat → Value, ∀ d, A.tmps.getD d undef = vs d := ⟨_, fun _ => rfl⟩
                rw [hvs] at e2
                rw [puts_of (md := .any) (k := 11) (by kernel_rfl) rfl hb' vs hvs]
                have e3 : vs 116 = .bool false := e2
                have NW := hide (nxt NB.out hw)
                clear hb' hF hvs e2 hw NB N1q TQ r1 r2 h1 h2 im NQ
                simp only [puts, e3, Act.put, List.setIfInBounds_toArray, List.set_cons_succ, List.set_cons_zero]
                clear e3
                go_wp2
                go_roundw
                case rel => exact ⟨k + 1, by omega, by go_num, NW.out⟩
                case measure => simp [intOf]; omega
              · obtain rfl : k = L.length := by omega
                clear hlt hk
                have N1q := nxt HN.out NQ
                have T13 := HT.out.up NQ
                have R13 := HR.out.up NQ
                have RLq := OL.out.rd.up N1q
                have s1 := N1q.size
                have gl1 : Hid (gl < V1.heap.size) := OL.out.rd.lt (by have := LN.out; omega)
                have B9 := hide (enc_bytM MZ.out IM.out)
                have C1 := hide (cut_one MZ.out B9.out)
                obtain ⟨pD, hpD⟩ : ∃ p, p = slA al kk cl := ⟨_, rfl⟩
                obtain ⟨cD, hcD⟩ : ∃ c, c = cl - kk := ⟨_, rfl⟩
                obtain ⟨lD, hlD⟩ : ∃ c, c = ln - kk := ⟨_, rfl⟩
                have SLL : ∀ W, (Instr.sliceAt 22 (.slice al ln cl) (some (.int .i64 (kk : Int))) none none).run Tryz.prog W = .ok (.slice pD lD cD) W := fun W => by rw [hpD, hcD]; exact sl_low W al ln cl kk lD (by omega) (by have := LN.out; omega) hlD
                have RD : Hid (Rd wr gl pD .u8 ((encF mm).drop kk)) := by rw [hpD]; exact RLq.slD kl kk
                have ZD : Hid (pD = none → cD = 0) := fun h => by rw [hpD] at h; rw [hcD]; exact slA_none zl h
                have LD : Hid (((encF mm).drop kk).length = lD) := by show _ = _; rw [List.length_drop, ← LN.out, hlD]
                have XE : Hid (ZZ ++ (encF mm).drop kk = encF mm) := by show _ = _; rw [HZZ.out, List.take_append_drop]
                have AP : Hid (∀ W, RowB W V1.heap.size (.slice ax kk cx) ZZ → Below V1.heap.size wr W → wr.heap.size ≤ W.heap.size → ∃ v' w', (Builtin.append_ #[22, 22] 22 #[.slice ax kk cx, .slice pD lD cD]).run Tryz.prog W = .ok v' w' ∧ (RowB w' V1.heap.size v' (encF mm) ∧ Below V1.heap.size wr w' ∧ W.heap.size ≤ w'.heap.size ∧ (∀ q, q < W.heap.size → (Value.slice ax kk cx).ownBlock ≠ some q → w'.heap[q]? = W.heap[q]?))) := by
                  have h := fun W R m s => csAP (xs := ZZ) (B := V1.heap.size) RD.out (fun _ => gl1.out) ZD.out (by rw [LD.out, TK.out]; omega) s1 i0 hi hz0 hz1 hz2 W (.slice ax kk cx) R m s
                  rw [LD.out, XE.out] at h
                  exact h
                have CT : Hid (∀ W v, RowB W V1.heap.size v (encF mm) → Below V1.heap.size wr W → V1.heap.size ≤ W.heap.size → Calls Tryz.prog 8 #[v] W fun e w' => ∃ vm es vx, e = .returned (.agg #[.int .i64 0, vm, vx]) ∧ MRow w' W.heap.size vm [mm] es ∧ RowB w' W.heap.size vx [] ∧ Below V1.heap.size wr w' ∧ Below W.heap.size W w') := fun W v R m s => csCT B9.out (by have := LN.out; omega) C1.out.1 C1.out.2.1 C1.out.2.2 W v R m s
                have n13 := R13.neT T13 (by decide)
                have nW : (Value.slice ax kk cx).ownBlock ≠ some wr.heap.size := fun e => absurd (World.ownsRow.lt R13 _ e).2 (Nat.lt_irrefl _)
                have nd : Below V1.heap.size wr wr.drew := (Below.refl _ _).drew
                have l13 := T13.lt
                have A0 := hide ((unhide AP) wr.drew (R13.up (Below.refl _ _).drew) nd (Nat.le_refl _))
                have A1 := hide ((unhide AP) (wr.alloc (.cells #[.int .i64 0, .slice none 0 0, .slice none 0 0] 33)).drew ((R13.up ((Below.refl _ _).alloc (Nat.le_refl _) _)).up (Below.refl _ _).drew) (((Below.refl _ _).alloc s1 _).drew) (World.size_allocLe wr _))
                have T0 := T13.drew1
                have T1 := (T13.push (.cells #[.int .i64 0, .slice none 0 0, .slice none 0 0] 33)).drew1
                have n13' := hide n13
                have nW' := hide nW
                have HRL := hide RLq
                have HN1 := hide N1q
                clear HT HM HR HCM HN NQ CR HCW T13 R13 RLq AP RD ZD LD XE hpD hcD hlD N1q n13 nW
                go_upto_region 29 with fail
                go_cut [15] (fun v wc => C21 V1.heap.size wr [mm] [] v wc)
                case first =>
                  go_region_held3 (fun W => W.cell? ⟨q13, 2, none⟩ = some (.slice ax kk cx))
                    (first | with_reducible exact T0.c2 | with_reducible exact T1.c2 | with_reducible exact Tp.c2 | with_reducible exact (Tp.push _).c2 | with_reducible exact Tm.c2 | with_reducible exact (Tm.push _).c2 | with_reducible exact (Tm.onl (Only.setCell _ _ _ _) hne).c2 | with_reducible exact ((Tm.onl (Only.setCell _ _ _ _) hne).onl (Only.setCell _ _ _ _) hne).c2 | with_reducible exact (((Tm.onl (Only.setCell _ _ _ _) hne).onl (Only.setCell _ _ _ _) hne).onl (Only.setCell _ _ _ _) hne).c2)
                    (first
                      | (refine step_append_exM rfl (.tmp 118) (.tmp 121) 22 22 rfl (.slice ax kk cx) (.slice pD lD cD) rfl rfl _ A0.out ?_; rintro v72 wp ⟨R72, np, sp, kp⟩; (have Tp : RwC wp q13 [.int .i64 0, .slice (some ⟨gm, 0, none⟩) L.length cm, .slice ax kk cx] 33 := (kp q13 l13 n13'.out).trans T0); (have C73 := hide ((unhide CT) wp v72 R72 np (Nat.le_trans s1 sp))); (have C73b := hide ((unhide CT) (wp.alloc (.cells #[.int .i64 0, .slice none 0 0, .slice none 0 0] 33)) v72 (R72.up ((Below.refl _ _).alloc (Nat.le_refl _) _)) (np.alloc (Nat.le_trans s1 sp) _) (Nat.le_trans (Nat.le_trans s1 sp) (World.size_allocLe wp (.cells #[.int .i64 0, .slice none 0 0, .slice none 0 0] 33))))))
                      | (refine step_append_exM rfl (.tmp 118) (.tmp 121) 22 22 rfl (.slice ax kk cx) (.slice pD lD cD) rfl rfl _ A1.out ?_; rintro v72 wp ⟨R72, np, sp, kp⟩; (have Tp : RwC wp q13 [.int .i64 0, .slice (some ⟨gm, 0, none⟩) L.length cm, .slice ax kk cx] 33 := (kp q13 T1.lt n13'.out).trans T1); (have Z2 := (kp wr.heap.size (RwC.newE wr [.int .i64 0, .slice none 0 0, .slice none 0 0] 33).lt nW'.out).trans (RwC.newE wr [.int .i64 0, .slice none 0 0, .slice none 0 0] 33)); (have hq2 := Nat.le_refl wr.heap.size); (have sq := Nat.le_trans (World.size_allocLe wr (.cells #[.int .i64 0, .slice none 0 0, .slice none 0 0] 33)) sp); (have C73 := hide ((unhide CT) wp v72 R72 np (Nat.le_trans s1 sq))))
                      | (go_at_call 8; refine C73.out.mono ?_; rintro rr wm ⟨vr, esm, vl2, rfl, IM2, RM, nm, nm'⟩; obtain ⟨ay, cy, rfl, -⟩ := IM2.slice; obtain ⟨az, cz, gz, rfl, -⟩ := RM.rd; (replace RM : RowB wm _ (Value.slice az 0 cz) [] := RM); (replace IM2 : MRow wm _ (Value.slice ay 1 cy) [mm] esm := IM2); (have Tm := RwC.up Tp nm'); (have Z3 := RwC.up Z2 nm'); (have hg := RwC.lt Z2); (have hne : q13 ≠ wr.heap.size := Nat.ne_of_lt l13); (have z0 := Z3.c0); (have f0 := Z3.free 0); (have z1 := Z3.c1); (have f1 := Z3.free 1); (have z2 := Z3.c2); (have f2 := Z3.free 2))
                      | (go_at_call 8; refine C73.out.mono ?_; rintro rr wm ⟨vr, esm, vl2, rfl, IM2, RM, nm, nm'⟩; obtain ⟨ay, cy, rfl, -⟩ := IM2.slice; obtain ⟨az, cz, gz, rfl, -⟩ := RM.rd; (replace RM : RowB wm _ (Value.slice az 0 cz) [] := RM); (replace IM2 : MRow wm _ (Value.slice ay 1 cy) [mm] esm := IM2); (have Tm := RwC.up Tp nm'); (have hB : wr.heap.size ≤ wp.heap.size := sp))
                      | (go_at_call 8; refine C73b.out.mono ?_; rintro rr wm ⟨vr, esm, vl2, rfl, IM2, RM, nm, nm'⟩; obtain ⟨ay, cy, rfl, -⟩ := IM2.slice; obtain ⟨az, cz, gz, rfl, -⟩ := RM.rd; (replace RM : RowB wm _ (Value.slice az 0 cz) [] := RM); (replace IM2 : MRow wm _ (Value.slice ay 1 cy) [mm] esm := IM2); (have Tm := RwC.up (Tp.push (.cells #[.int .i64 0, .slice none 0 0, .slice none 0 0] 33)) nm'); (have Z3 := (RwC.new wp [.int .i64 0, .slice none 0 0, .slice none 0 0] 33).up nm'); (have hg := (RwC.new wp [.int .i64 0, .slice none 0 0, .slice none 0 0] 33).lt); (have hq2 : wr.heap.size ≤ wp.heap.size := sp); (have hne : q13 ≠ wp.heap.size := Nat.ne_of_lt Tp.lt); (have z0 := Z3.c0); (have f0 := Z3.free 0); (have z1 := Z3.c1); (have f1 := Z3.free 1); (have z2 := Z3.c2); (have f2 := Z3.free 2))
                      | fail)
                  all_goals
                    go_wp2_with fail
                    go_meet
                    first
                    | (with_reducible exact c21_2 nm IM2 RM Z3 s1 hq2 hg)
                    | (with_reducible exact c21_1 nm hB nm'.size s1 IM2 RM)
                case rest =>
                  obtain ⟨q15, vm, es3, vx, rfl, T15, M15, R15, n15, hq15⟩ := hcut
                  obtain ⟨g5, c5, rfl, -, -, -, hc5, -⟩ := M15.cells (by simp)
                  obtain ⟨a9, c9, g9, rfl, -, -, -, -⟩ := R15.own
                  have T15 : RwC wc q15 [.int .i64 0, .slice (some ⟨g5, 0, none⟩) 1 c5, .slice a9 0 c9] 33 := T15
                  have b0 := M15.b 0 (by simp)
                  have H5 : HasM wc (es3.getD 0 el0).p mm := b0.has
                  have Z5 : HasZ (es3.getD 0 el0).p mm := b0.z
                  have RG : wc.rangeAt g5 0 (mgV (es3.getD 0 el0).p mm).toList := by
                    have h := hc5 0 (by simp)
                    rw [Nat.zero_mul] at h
                    exact h
                  have EN := hide (implEnc_any wc (es3.getD 0 el0).p mm H5 IM.out Z5)
                  generalize (es3.getD 0 el0).p = p5 at *
                  have d0 := T15.c0
                  have d1 := T15.c1
                  have d2 := T15.c2
                  have RL9 := hide (rd_ofU HRL.out fun _ => n15.block gl gl1.out)
                  have NF := hide ((nxt Cn HN1.out).trans (n15.mono Cn.size))
                  have s15 := NF.out.size
                  unfold mgV at EN
                  clear M15 R15 T15 b0 H5 Z5 hc5 A0 A1 CT T0 HRL HN1 n15
                  go_wp2_with (first | (refine wpList_load_midQ rfl 28 (.tmp 142) rfl g5 0 rfl [.int .i64 mm.k, .int .i64 mm.v, .slice p5.a2 mm.r.length p5.c2, .slice p5.a3 mm.s.length p5.c3, .string ⟨⟨mm.ho⟩⟩, .slice p5.a5 mm.pr.length p5.c5, .slice p5.a6 mm.ti.length p5.c6, .int .i64 mm.ag, .int .i64 mm.ea, .slice p5.a9 mm.bi.length p5.c9, .bool mm.rs, .slice p5.a11 mm.ce.length p5.c11, .slice p5.a12 mm.pf.length p5.c12] dR RG hdR hrowR iM ?_) | fail)
                  refine EN.out.mono ?_
                  rintro e V9 ⟨⟨vb, rfl, Rb⟩, n9⟩
                  obtain ⟨ab, cb, gb, rfl, ob, zb, kb, lb⟩ := Rb.own
                  have LS := hide (lwSame_same V9 gb gl ab al cb cl (encF mm) ob.rd (RL9.out.up n9))
                  have NG := hide (NF.out.trans (n9.mono s15))
                  rw [← LN.out] at LS
                  rw [← LN.out]
                  clear Rb ob EN RG d0 d1 d2 n9 kb lb
                  go_wp2_with fail
                  refine LS.out.mono ?_
                  rintro e V10 ⟨rfl, rfl⟩
                  go_wp2
                  go_ret
                  exact ⟨rfl, NG.out⟩
    · have u1 : decide ((1048576 : Int) < (X1.length : Int)) = true := by simp; omega
      go_enter Tryz.func3, Tryz.ntmps3
      go_wp2
      go_ret
      exact ⟨rfl, Below.refl _ _⟩
  · have u0 : decide ((1048576 : Int) < (X0.length : Int)) = true := by simp; omega
    go_enter Tryz.func3, Tryz.ntmps3
    go_wp2
    go_ret
    exact ⟨rfl, Below.refl _ _⟩
end Go.Proofs.YtcaljanahpdidaaGreat
