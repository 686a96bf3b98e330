import Derived.Test.YtmfajpplagbfcaaGreatDoorHC21
import Derived.Test.YtmfajpplagbfcaaGreatDoorHC20
import Derived.Test.YtmfajpplagbfcaaGreatDoorHC19
import Derived.BigRegion
import Derived.Deep.DeepCutAuto
import Derived.Test.YtmfajpplagbfcaaGreatDoorHC8
import Derived.Deep.QuietTactic
import Derived.BigQuiet
namespace Go.Proofs.YtmfajpplagbfcaaGreatDoor
set_option maxRecDepth 100000
open Go Go.RowKit
set_option maxHeartbeats 8000000 in
theorem takeO_32 (w : World) (q o L : Nat) (C : S8) (R : List Int) (hH : HBo .u32 w q o (L : Int) C R) (hC : Ok32 C) (hR : Byt R) (g : Nat) (a : Option Addr) (c : Nat) (xs : List Int) (hr : Rd w g a .u8 xs) (hx : Byt xs) (hc : xs.length ≤ c)
    (hg : 0 < xs.length → g ≠ q) (hL : L + xs.length ≤ 1152921504606846976) (hT : HasT w 1 kL) (hq : 1 ≠ q) :
    Calls Tryz.prog 47 #[.pointer (some ⟨q, o, none⟩), .slice a xs.length c] w fun e w' => e = .returned (.tuple #[]) ∧ ∃ R', HBo .u32 w' q o ((L + xs.length : Nat) : Int) (whole32 C (R.take (L % 64) ++ xs)) R' ∧ Byt R' ∧ R'.take ((L + xs.length) % 64) = left32 (R.take (L % 64) ++ xs) ∧ Bx q o w w' := by
  obtain ⟨Lt, hLt⟩ : ∃ n, n = L + xs.length := ⟨_, rfl⟩
  obtain ⟨Wt, hWt⟩ : ∃ s, s = whole32 C (R.take (L % 64) ++ xs) := ⟨_, rfl⟩
  obtain ⟨Lf, hLf⟩ : ∃ l, l = left32 (R.take (L % 64) ++ xs) := ⟨_, rfl⟩
  rw [← hLt, ← hWt, ← hLf]
  rw [← hLt] at hL
  have HLt := hide hLt.symm
  have HWt := hide hWt.symm
  have HLf := hide hLf.symm
  clear hLt hWt hLf
  go_enter Tryz.func47, Tryz.ntmps47
  go_wp2_with fail
  go_quiet ((go_at_call 75; exact Calls.quiet_of_same (blockSize_32 _)))
  go_wp2_with fail
  have B0 : Bx q o w (w.drewN nq) := Bx.drewN _ _ _ _
  have H0 : HBo .u32 (w.drewN nq) q o (L : Int) C R := hH.of_block rfl
  have T0 : HasT (w.drewN nq) 1 kL := hT
  have R0 : Rd (w.drewN nq) g a .u8 xs := hr
  generalize w.drewN nq = w0 at *
  go_loopw [1] (fun v wr => ∃ (L1 c1 : Nat) (C1 : S8) (R1 xs1 : List Int) (a1 : Option Addr), v = .slice a1 xs1.length c1 ∧ HBo .u32 wr q o (L1 : Int) C1 R1 ∧ Ok32 C1 ∧ Byt R1 ∧ Rd wr g a1 .u8 xs1 ∧ Byt xs1 ∧ xs1.length ≤ c1 ∧ xs1.length ≤ xs.length ∧ Hid (L1 + xs1.length = Lt) ∧ Hid (whole32 C1 (R1.take (L1 % 64) ++ xs1) = Wt) ∧ Hid (left32 (R1.take (L1 % 64) ++ xs1) = Lf) ∧ HasT wr 1 kL ∧ Bx q o w wr) (fun v _ => vlen v)
  case atStart => exact ⟨L, c, C, R, xs, a, rfl, H0, hC, hR, R0, hx, hc, Nat.le_refl _, HLt, HWt, HLf, T0, B0⟩
  case round =>
    obtain ⟨L1, c1, C1, R1, xs1, a1, rfl, hH1, hC1, hR1, hr1, hx1, hc1, hle, hL1, hW1, hF1, hT1, hB1⟩ := hrel
    clear H0 R0 T0 B0 hH hC hR hr hx hT HLt HWt HLf
    by_cases hlt : 0 < xs1.length
    · have hgq := hg (by omega)
      obtain ⟨o1, rfl, hcc⟩ := id hr1 hlt
      obtain ⟨r, er⟩ : ∃ r, r = L1 % 64 := ⟨_, rfl⟩
      have rl : r < 64 := by omega
      have rz : (L1 : Int) % 64 = (r : Int) := by omega
      have rl2 : (r : Int) ≤ 64 := by omega
      have ER := hide er
      clear er
      obtain ⟨n1, hn1⟩ : ∃ n, xs1.length = n := ⟨_, rfl⟩
      have l1 : (0 : Int) < (n1 : Int) := by omega
      have RG := hH1.range
      have RS := restSize_32 wr (L1 : Int) C1 R1 hH1.len (by omega)
      rw [rz] at RS
      have RSH := hide RS
      have LH := hide (hcl_len .u32 (L1 : Int) C1 hH1.len)
      have RN := hide hH1.len
      clear RS
      obtain ⟨d, hd, hrow⟩ : ∃ d, Tryz.prog.underlying 76 = some d ∧ d.isRow = true := by
        have h := undH_32
        cases hq : Tryz.prog.underlying 76 with
        | none => rw [hq] at h; simp at h
        | some d => rw [hq] at h; exact ⟨d, rfl, by simpa using h⟩
      generalize hcl .u32 (L1 : Int) C1 R1 = vs at *
      rw [hn1]
      have HN := hide hn1
      clear hn1
      go_wp2_with (refine wpList_load_mid rfl 76 (.tmp 16) rfl q o rfl vs d RG hd hrow (by rw [LH.out]; exact infoH_32) ?_)
      refine RSH.out.mono ?_
      rintro x w2 ⟨rfl, n2⟩
      clear RSH
      go_wp2_with fail
      obtain ⟨t, ht⟩ : ∃ t, t = min (64 - r) n1 := ⟨_, rfl⟩
      obtain ⟨tk, htk⟩ : ∃ l, l = xs1.take t := ⟨_, rfl⟩
      have tl : tk.length = t := by rw [htk, List.length_take, HN.out]; omega
      have H2 := hH1.up n2
      have hrun := run_copy_cells (P := Tryz.prog) w2 22 22 3 5 q (o + 9 + r) (64 - r) (128 - r) ⟨g, o1, none⟩ n1 c1 (tk.map (Value.int .u8)) und22h s5 (by rw [List.length_map, tl, ht]; exact Nat.min_comm _ _)
        (fun j v hj => by
          have hjl : j < tk.length := by have := (List.getElem?_eq_some_iff.1 hj).1; simpa using this
          have e : tk.getD j 0 = xs1.getD j 0 := by rw [htk, List.getD_eq_getElem?_getD, List.getD_eq_getElem?_getD, List.getElem?_take, if_pos (by omega)]
          have hc' := (hr1.up n2) hlt
          obtain ⟨o', e', hcc'⟩ := hc'
          simp only [Option.some.injEq, Addr.mk.injEq, true_and, and_true] at e'
          subst e'
          rw [Addr.add_mid, hcc' j (by rw [HN.out]; omega), ← e]
          simpa [hjl] using hj)
        (fun j hj => by
          rw [List.length_map, tl] at hj
          have := H2.rs (r + j) (by rw [H2.len]; omega)
          rw [show o + 9 + (r + j) = o + 9 + r + j by omega] at this
          rw [this.1]; rfl)
        (fun j hj => by
          rw [List.length_map, tl] at hj
          have := H2.rs (r + j) (by rw [H2.len]; omega)
          rw [show o + 9 + (r + j) = o + 9 + r + j by omega] at this
          exact this.2)
        (fun v hv => by obtain ⟨x, _, rfl⟩ := List.mem_map.1 hv; rfl)
      rw [List.length_map, tl] at hrun
      have H3 := H2.setR r tk (by omega)
      have Q3 := only_setCells w2 q (tk.map (Value.int .u8)) (o + 9 + r)
      have B3 : Bx q o w (w2.setCells q (o + 9 + r) (tk.map (Value.int .u8))) := (hB1.trans (Bx.of_below n2 hH1.lt)).trans (Bx.cells w2 _ _ (by omega) (by rw [List.length_map, tl]; omega))
      have T3 : HasT (w2.setCells q (o + 9 + r) (tk.map (Value.int .u8))) 1 kL := (hT1.up n2).of_block (Q3.block _ hq)
      have r3 : Rd (w2.setCells q (o + 9 + r) (tk.map (Value.int .u8))) g (some ⟨g, o1, none⟩) .u8 xs1 := (hr1.up n2).of_block (Q3.block _ hgq)
      have c3 := H3.c0
      have f3 := H3.f0
      have H4 := H3.setL ((L1 : Int) + (t : Int))
      have Q4 := Only.setCell (w2.setCells q (o + 9 + r) (tk.map (Value.int .u8))) q o (.int .i64 ((L1 : Int) + (t : Int)))
      have B4 := B3.trans (Bx.setL _ (.int .i64 ((L1 : Int) + (t : Int))))
      have T4 := T3.of_block (Q4.block _ hq)
      have r4 := r3.of_block (Q4.block _ hgq)
      have t0 : 0 < t := by omega
      have tn : t ≤ n1 := by omega
      have tr : r + t ≤ 64 := by omega
      have tn' : (t : Int) ≤ (n1 : Int) := by omega
      have nc' : (n1 : Int) ≤ (c1 : Int) := by have := HN.out; omega
      have nb' : (L1 : Int) + (n1 : Int) ≤ 1152921504606846976 := by have := hL1.out; have := HN.out; omega
      have TT : Hid (t = min (64 - r) n1) := ht
      have TK := hide htk
      have TL := hide tl
      clear ht htk tl hH1 RG LH H2 H3 B3 T3 r3 Q3 Q4 hB1 hT1 hr1 hcc n2
      rw [hrun]
      clear hrun
      generalize w2.setCells q (o + 9 + r) (tk.map (Value.int .u8)) = w3 at *
      have ly := lay_byt (r := r) hR1 (show Byt tk by rw [TK.out]; exact byt_takeh hx1 t)
      have mk : Hid ((lay R1 r tk).take (r + t) = R1.take r ++ tk) := by show _ = _; rw [← TL.out]; exact take_more (by rw [RN.out]; omega)
      have RG := H4.range
      have L4 := H4.len
      have RS := restSize_32 (w3.setCell ⟨q, o, none⟩ (.int .i64 ((L1 : Int) + (t : Int)))) ((L1 : Int) + (t : Int)) C1 (lay R1 r tk) L4 (by omega)
      have LH := hide (hcl_len .u32 ((L1 : Int) + (t : Int)) C1 L4)
      generalize hcl .u32 ((L1 : Int) + (t : Int)) C1 (lay R1 r tk) = vs4 at *
      have RSH := hide RS
      have L4H := hide L4
      clear RS L4
      by_cases hct : c1 = t
      · have hct2 := hct.symm
        subst hct2
        go_wp2_with (refine wpList_load_mid rfl 76 (.tmp 34) rfl q o rfl vs4 d RG hd hrow (by rw [LH.out]; exact infoH_32) ?_)
        generalize w3.setCell ⟨q, o, none⟩ (.int .i64 ((L1 : Int) + (t : Int))) = w4 at *
        refine RSH.out.mono ?_
        rintro x w5 ⟨rfl, n5⟩
        have H5 := H4.up n5
        have B5 := B4.trans (Bx.of_below n5 H4.lt)
        have T5 := T4.up n5
        have r5 : Rd w5 g (some ⟨g, o1, none⟩) .u8 (xs1.drop t) := by rw [List.drop_eq_nil_of_le (by have := HN.out; omega)]; exact Rd.nil _ _ _ _
        have dl : Hid ((xs1.drop t).length = n1 - t) := by show _ = _; rw [List.length_drop, HN.out]
        clear RSH RG LH H4 B4 T4 r4 n5 c3 f3
        by_cases hf : r + t = 64
        · have z5 : ((L1 : Int) + (t : Int)) % 64 = 0 := by have := ER.out; omega
          have bl : ((lay R1 r tk).take 64).length = 64 := by rw [List.length_take, L4H.out]; omega
          have bb : Byt ((lay R1 r tk).take 64) := byt_takeh ly _
          have be : (lay R1 r tk).take 64 = R1.take r ++ tk := by rw [← hf]; exact mk.out
          have rb : ∀ W, Below w5.heap.size w5 W → Rd W q (some ⟨q, o + 9, none⟩) .u8 ((lay R1 r tk).take 64) := fun W n _ => ⟨o + 9, rfl, fun i hi => by
            have h := ((H5.up n).rs i (by rw [L4H.out]; omega)).1
            rw [List.getD_eq_getElem?_getD, List.getElem?_take, if_pos (by omega), ← List.getD_eq_getElem?_getD]
            exact h⟩
          obtain ⟨C2, hC2⟩ : ∃ s, s = blk32 C1 (wd 4 ((lay R1 r tk).take 64)) := ⟨_, rfl⟩
          have oC2 : Ok32 C2 := by rw [hC2]; exact blk_ok32 _ _
          have HC2 := hide hC2
          go_wp2_with fail
          refine region_put 10 9 7 47 45 _ (fun i => [Fact.eq (.pointer (some ⟨q, o, none⟩)), Fact.eq (.pointer (some ⟨q, o, none⟩)), Fact.eq (.pointer (some ⟨q, o, none⟩)), Fact.eq (.pointer (some ⟨q, o + 1, none⟩)), Fact.eq (ag8 .u32 C1), Fact.eq (.slice (some ⟨q, o + 9, none⟩) 64 128), Fact.eq (agw .u32 (wd 4 ((lay R1 r tk).take 64))), Fact.eq (ag8 .u32 C2), Fact.eq (.pointer (some ⟨q, o, none⟩)), Fact.eq (.pointer (some ⟨q, o + 1, none⟩))].getD i Fact.no) q (o + 1) 73 (C2.l.map (Value.int .u32)) (by kernel_rfl) (by kernel_rfl) rfl rfl rfl (by kernel_rfl) rfl (by kernel_rfl) rfl ?_ (by rw [List.length_map]; kernel_rfl) (one_ints _ _) ?_ ?_
          · intro W n j hj
            rw [List.length_map] at hj
            have h := (H5.up n).ch j hj
            exact ⟨by rw [h.1]; rfl, h.2⟩
          · skip
            intro i hi
            obtain rfl | rfl | rfl | rfl | rfl | rfl | rfl | rfl | rfl | rfl : i = 0 ∨ i = 1 ∨ i = 2 ∨ i = 3 ∨ i = 4 ∨ i = 5 ∨ i = 6 ∨ i = 7 ∨ i = 8 ∨ i = 9 := by omega
            · refine step_pure rfl fun a w hb hw hf => ?_
              have e0 : a.tmps[0]?.getD undef = .pointer (some ⟨q, o, none⟩) := gdv (hb.2.2 0 (by kernel_rfl))
              exact ⟨.pointer (some ⟨q, o, none⟩), by simp [go_sem, e0], rfl⟩
            · refine step_pure rfl fun a w hb hw hf => ?_
              have e0 : a.tmps[0]?.getD undef = .pointer (some ⟨q, o, none⟩) := gdv (hb.2.2 0 (by kernel_rfl))
              exact ⟨.pointer (some ⟨q, o, none⟩), by simp [go_sem, e0], rfl⟩
            · refine step_pure rfl fun a w hb hw hf => ?_
              have e39 : a.tmps[39]?.getD undef = .pointer (some ⟨q, o, none⟩) := gdv (hf 1 39 (by kernel_rfl))
              exact ⟨.pointer (some ⟨q, o, none⟩), by simp [go_sem, e39], rfl⟩
            · refine step_pure rfl fun a w hb hw hf => ?_
              have e40 : a.tmps[40]?.getD undef = .pointer (some ⟨q, o, none⟩) := gdv (hf 2 40 (by kernel_rfl))
              exact ⟨.pointer (some ⟨q, o + 1, none⟩), by simp [go_sem, e40], rfl⟩
            · refine step_load rfl 73 (.tmp 41) rfl (.array 8 71) 8 (by kernel_rfl) rfl (by kernel_rfl) fun a w hb hw hf => ⟨q, o + 1, C1.l.map (Value.int .u32), hf 3 41 (by kernel_rfl), (H5.up hw).ch.range, by rw [List.length_map]; rfl, rfl⟩
            · refine step_pure rfl fun a w hb hw hf => ?_
              have e4 : a.tmps[4]?.getD undef = .slice (some ⟨q, o + 9, none⟩) 64 128 := gdv (hb.2.2 4 (by kernel_rfl))
              exact ⟨.slice (some ⟨q, o + 9, none⟩) 64 128, by simp [go_sem, e4], rfl⟩
            · refine step_callv rfl 78 _ _ rfl (by kernel_rfl) fun a w hb hw hf => ?_
              have e43 : a.tmps.getD 43 undef = .slice (some ⟨q, o + 9, none⟩) 64 128 := hf 5 43 (by kernel_rfl)
              show Calls Tryz.prog 78 #[a.tmps.getD 43 undef] w _
              rw [e43]
              exact (readBlock_32 w q (some ⟨q, o + 9, none⟩) 128 _ (rb w hw) bb bl).mono (by rintro r w' ⟨rfl, n⟩; exact ⟨_, rfl, n, rfl⟩)
            · refine step_callv rfl 77 _ _ rfl (by kernel_rfl) fun a w hb hw hf => ?_
              have e42 : a.tmps.getD 42 undef = ag8 .u32 C1 := hf 4 42 (by kernel_rfl)
              have e44 : a.tmps.getD 44 undef = agw .u32 (wd 4 ((lay R1 r tk).take 64)) := hf 6 44 (by kernel_rfl)
              show Calls Tryz.prog 77 #[a.tmps.getD 42 undef, a.tmps.getD 44 undef] w _
              rw [e42, e44]
              rw [HC2.out]; exact (behind_32 w C1 hC1 _ (fun i _ => wd_32 bb i) (T5.up hw)).mono (by rintro r w' ⟨rfl, n⟩; exact ⟨_, rfl, n, rfl⟩)
            · refine step_pure rfl fun a w hb hw hf => ?_
              have e38 : a.tmps[38]?.getD undef = .pointer (some ⟨q, o, none⟩) := gdv (hf 0 38 (by kernel_rfl))
              exact ⟨.pointer (some ⟨q, o, none⟩), by simp [go_sem, e38], rfl⟩
            · refine step_pure rfl fun a w hb hw hf => ?_
              have e46 : a.tmps[46]?.getD undef = .pointer (some ⟨q, o, none⟩) := gdv (hf 8 46 (by kernel_rfl))
              exact ⟨.pointer (some ⟨q, o + 1, none⟩), by simp [go_sem, e46], rfl⟩
          intro vs6 W n6
          have H6 := (H5.up n6).setC C2
          have Q6 := only_setCells W q (C2.l.map (Value.int .u32)) (o + 1)
          have B6 := (B5.trans (Bx.of_below n6 H5.lt)).trans (Bx.cells W (o + 1) (C2.l.map (Value.int .u32)) (by omega) (by rw [List.length_map, S8.l_len]; omega))
          have T6 := (T5.up n6).of_block (Q6.block _ hq)
          have r6 := (r5.up n6).of_block (Q6.block _ hgq)
          simp only [puts, Act.put, List.setIfInBounds_toArray, List.set_cons_succ, List.set_cons_zero]
          generalize W.setCells q (o + 1) (C2.l.map (Value.int .u32)) = w6 at *
          have lf : (L1 + t) % 64 = 0 := by have := ER.out; omega
          have whx : xs1 = tk ++ xs1.drop t := by rw [TK.out]; exact (List.take_append_drop t xs1).symm
          have KW : Hid (whole32 C2 ((lay R1 r tk).take ((L1 + t) % 64) ++ xs1.drop t) = Wt) := by
            show _ = _
            rw [lf, List.take_zero, List.nil_append, ← hW1.out, ← ER.out]
            conv => rhs; rw [whx, ← List.append_assoc, ← be, whole_app32 _ _ _ bl, ← HC2.out]
          have KF : Hid (left32 ((lay R1 r tk).take ((L1 + t) % 64) ++ xs1.drop t) = Lf) := by
            show _ = _
            rw [lf, List.take_zero, List.nil_append, ← hF1.out, ← ER.out]
            conv => rhs; rw [whx, ← List.append_assoc, ← be, left_app32 _ _ bl]
          clear mk bl bb be rb lf whx
          go_wp2
          go_roundw
          case rel => exact ⟨L1 + t, 0, C2, lay R1 r tk, xs1.drop t, _, by rw [dl.out], by rw [Int.natCast_add]; exact H6, oC2, ly, r6, byt_drop hx1 t, by rw [dl.out]; have := HN.out; omega, by rw [dl.out]; have := HN.out; omega, by show _ = _; rw [dl.out]; have := hL1.out; have := HN.out; omega, KW, KF, T6, B6⟩
          case measure => simp only [vlen_slice]; omega
        · have z5 : (((L1 : Int) + (t : Int)) % 64 == 0) = false := by have := ER.out; simp; omega
          obtain rfl : t = n1 := by have := TT.out; omega
          have lf : (L1 + t) % 64 = r + t := by have := ER.out; omega
          have dn : xs1.drop t = [] := List.drop_eq_nil_of_le (by rw [HN.out]; exact Nat.le_refl _)
          have tx : tk = xs1 := by rw [TK.out]; exact List.take_of_length_le (by rw [HN.out]; exact Nat.le_refl _)
          have KW : Hid (whole32 C1 ((lay R1 r tk).take ((L1 + t) % 64) ++ xs1.drop t) = Wt) := by
            show _ = _
            rw [lf, mk.out, dn, List.append_nil, tx, ER.out]
            exact hW1.out
          have KF : Hid (left32 ((lay R1 r tk).take ((L1 + t) % 64) ++ xs1.drop t) = Lf) := by
            show _ = _
            rw [lf, mk.out, dn, List.append_nil, tx, ER.out]
            exact hF1.out
          clear mk lf dn tx
          go_wp2
          go_roundw
          case rel => exact ⟨L1 + t, 0, C1, lay R1 r tk, xs1.drop t, _, by rw [dl.out, Nat.sub_self], by rw [Int.natCast_add]; exact H5, hC1, ly, r5, byt_drop hx1 t, by rw [dl.out]; have := HN.out; omega, by rw [dl.out]; have := HN.out; omega, by show _ = _; rw [dl.out]; have := hL1.out; have := HN.out; omega, KW, KF, T5, B5⟩
          case measure => simp only [vlen_slice]; omega
      · have hct' : ¬ ((c1 : Int) = (t : Int)) := by omega
        go_wp2_with (refine wpList_load_mid rfl 76 (.tmp 34) rfl q o rfl vs4 d RG hd hrow (by rw [LH.out]; exact infoH_32) ?_)
        generalize w3.setCell ⟨q, o, none⟩ (.int .i64 ((L1 : Int) + (t : Int))) = w4 at *
        refine RSH.out.mono ?_
        rintro x w5 ⟨rfl, n5⟩
        have H5 := H4.up n5
        have B5 := B4.trans (Bx.of_below n5 H4.lt)
        have T5 := T4.up n5
        have r5 : Rd w5 g (some ⟨g, o1 + t, none⟩) .u8 (xs1.drop t) := rd_drop (t := t) (r4.up n5)
        have dl : Hid ((xs1.drop t).length = n1 - t) := by show _ = _; rw [List.length_drop, HN.out]
        clear RSH RG LH H4 B4 T4 r4 n5 c3 f3
        by_cases hf : r + t = 64
        · have z5 : ((L1 : Int) + (t : Int)) % 64 = 0 := by have := ER.out; omega
          have bl : ((lay R1 r tk).take 64).length = 64 := by rw [List.length_take, L4H.out]; omega
          have bb : Byt ((lay R1 r tk).take 64) := byt_takeh ly _
          have be : (lay R1 r tk).take 64 = R1.take r ++ tk := by rw [← hf]; exact mk.out
          have rb : ∀ W, Below w5.heap.size w5 W → Rd W q (some ⟨q, o + 9, none⟩) .u8 ((lay R1 r tk).take 64) := fun W n _ => ⟨o + 9, rfl, fun i hi => by
            have h := ((H5.up n).rs i (by rw [L4H.out]; omega)).1
            rw [List.getD_eq_getElem?_getD, List.getElem?_take, if_pos (by omega), ← List.getD_eq_getElem?_getD]
            exact h⟩
          obtain ⟨C2, hC2⟩ : ∃ s, s = blk32 C1 (wd 4 ((lay R1 r tk).take 64)) := ⟨_, rfl⟩
          have oC2 : Ok32 C2 := by rw [hC2]; exact blk_ok32 _ _
          have HC2 := hide hC2
          go_wp2_with fail
          refine region_put 10 9 7 47 45 _ (fun i => [Fact.eq (.pointer (some ⟨q, o, none⟩)), Fact.eq (.pointer (some ⟨q, o, none⟩)), Fact.eq (.pointer (some ⟨q, o, none⟩)), Fact.eq (.pointer (some ⟨q, o + 1, none⟩)), Fact.eq (ag8 .u32 C1), Fact.eq (.slice (some ⟨q, o + 9, none⟩) 64 128), Fact.eq (agw .u32 (wd 4 ((lay R1 r tk).take 64))), Fact.eq (ag8 .u32 C2), Fact.eq (.pointer (some ⟨q, o, none⟩)), Fact.eq (.pointer (some ⟨q, o + 1, none⟩))].getD i Fact.no) q (o + 1) 73 (C2.l.map (Value.int .u32)) (by kernel_rfl) (by kernel_rfl) rfl rfl rfl (by kernel_rfl) rfl (by kernel_rfl) rfl ?_ (by rw [List.length_map]; kernel_rfl) (one_ints _ _) ?_ ?_
          · intro W n j hj
            rw [List.length_map] at hj
            have h := (H5.up n).ch j hj
            exact ⟨by rw [h.1]; rfl, h.2⟩
          · skip
            intro i hi
            obtain rfl | rfl | rfl | rfl | rfl | rfl | rfl | rfl | rfl | rfl : i = 0 ∨ i = 1 ∨ i = 2 ∨ i = 3 ∨ i = 4 ∨ i = 5 ∨ i = 6 ∨ i = 7 ∨ i = 8 ∨ i = 9 := by omega
            · refine step_pure rfl fun a w hb hw hf => ?_
              have e0 : a.tmps[0]?.getD undef = .pointer (some ⟨q, o, none⟩) := gdv (hb.2.2 0 (by kernel_rfl))
              exact ⟨.pointer (some ⟨q, o, none⟩), by simp [go_sem, e0], rfl⟩
            · refine step_pure rfl fun a w hb hw hf => ?_
              have e0 : a.tmps[0]?.getD undef = .pointer (some ⟨q, o, none⟩) := gdv (hb.2.2 0 (by kernel_rfl))
              exact ⟨.pointer (some ⟨q, o, none⟩), by simp [go_sem, e0], rfl⟩
            · refine step_pure rfl fun a w hb hw hf => ?_
              have e39 : a.tmps[39]?.getD undef = .pointer (some ⟨q, o, none⟩) := gdv (hf 1 39 (by kernel_rfl))
              exact ⟨.pointer (some ⟨q, o, none⟩), by simp [go_sem, e39], rfl⟩
            · refine step_pure rfl fun a w hb hw hf => ?_
              have e40 : a.tmps[40]?.getD undef = .pointer (some ⟨q, o, none⟩) := gdv (hf 2 40 (by kernel_rfl))
              exact ⟨.pointer (some ⟨q, o + 1, none⟩), by simp [go_sem, e40], rfl⟩
            · refine step_load rfl 73 (.tmp 41) rfl (.array 8 71) 8 (by kernel_rfl) rfl (by kernel_rfl) fun a w hb hw hf => ⟨q, o + 1, C1.l.map (Value.int .u32), hf 3 41 (by kernel_rfl), (H5.up hw).ch.range, by rw [List.length_map]; rfl, rfl⟩
            · refine step_pure rfl fun a w hb hw hf => ?_
              have e4 : a.tmps[4]?.getD undef = .slice (some ⟨q, o + 9, none⟩) 64 128 := gdv (hb.2.2 4 (by kernel_rfl))
              exact ⟨.slice (some ⟨q, o + 9, none⟩) 64 128, by simp [go_sem, e4], rfl⟩
            · refine step_callv rfl 78 _ _ rfl (by kernel_rfl) fun a w hb hw hf => ?_
              have e43 : a.tmps.getD 43 undef = .slice (some ⟨q, o + 9, none⟩) 64 128 := hf 5 43 (by kernel_rfl)
              show Calls Tryz.prog 78 #[a.tmps.getD 43 undef] w _
              rw [e43]
              exact (readBlock_32 w q (some ⟨q, o + 9, none⟩) 128 _ (rb w hw) bb bl).mono (by rintro r w' ⟨rfl, n⟩; exact ⟨_, rfl, n, rfl⟩)
            · refine step_callv rfl 77 _ _ rfl (by kernel_rfl) fun a w hb hw hf => ?_
              have e42 : a.tmps.getD 42 undef = ag8 .u32 C1 := hf 4 42 (by kernel_rfl)
              have e44 : a.tmps.getD 44 undef = agw .u32 (wd 4 ((lay R1 r tk).take 64)) := hf 6 44 (by kernel_rfl)
              show Calls Tryz.prog 77 #[a.tmps.getD 42 undef, a.tmps.getD 44 undef] w _
              rw [e42, e44]
              rw [HC2.out]; exact (behind_32 w C1 hC1 _ (fun i _ => wd_32 bb i) (T5.up hw)).mono (by rintro r w' ⟨rfl, n⟩; exact ⟨_, rfl, n, rfl⟩)
            · refine step_pure rfl fun a w hb hw hf => ?_
              have e38 : a.tmps[38]?.getD undef = .pointer (some ⟨q, o, none⟩) := gdv (hf 0 38 (by kernel_rfl))
              exact ⟨.pointer (some ⟨q, o, none⟩), by simp [go_sem, e38], rfl⟩
            · refine step_pure rfl fun a w hb hw hf => ?_
              have e46 : a.tmps[46]?.getD undef = .pointer (some ⟨q, o, none⟩) := gdv (hf 8 46 (by kernel_rfl))
              exact ⟨.pointer (some ⟨q, o + 1, none⟩), by simp [go_sem, e46], rfl⟩
          intro vs6 W n6
          have H6 := (H5.up n6).setC C2
          have Q6 := only_setCells W q (C2.l.map (Value.int .u32)) (o + 1)
          have B6 := (B5.trans (Bx.of_below n6 H5.lt)).trans (Bx.cells W (o + 1) (C2.l.map (Value.int .u32)) (by omega) (by rw [List.length_map, S8.l_len]; omega))
          have T6 := (T5.up n6).of_block (Q6.block _ hq)
          have r6 := (r5.up n6).of_block (Q6.block _ hgq)
          simp only [puts, Act.put, List.setIfInBounds_toArray, List.set_cons_succ, List.set_cons_zero]
          generalize W.setCells q (o + 1) (C2.l.map (Value.int .u32)) = w6 at *
          have lf : (L1 + t) % 64 = 0 := by have := ER.out; omega
          have whx : xs1 = tk ++ xs1.drop t := by rw [TK.out]; exact (List.take_append_drop t xs1).symm
          have KW : Hid (whole32 C2 ((lay R1 r tk).take ((L1 + t) % 64) ++ xs1.drop t) = Wt) := by
            show _ = _
            rw [lf, List.take_zero, List.nil_append, ← hW1.out, ← ER.out]
            conv => rhs; rw [whx, ← List.append_assoc, ← be, whole_app32 _ _ _ bl, ← HC2.out]
          have KF : Hid (left32 ((lay R1 r tk).take ((L1 + t) % 64) ++ xs1.drop t) = Lf) := by
            show _ = _
            rw [lf, List.take_zero, List.nil_append, ← hF1.out, ← ER.out]
            conv => rhs; rw [whx, ← List.append_assoc, ← be, left_app32 _ _ bl]
          clear mk bl bb be rb lf whx
          go_wp2
          go_roundw
          case rel => exact ⟨L1 + t, c1 - t, C2, lay R1 r tk, xs1.drop t, _, by rw [dl.out], by rw [Int.natCast_add]; exact H6, oC2, ly, r6, byt_drop hx1 t, by rw [dl.out]; have := HN.out; omega, by rw [dl.out]; have := HN.out; omega, by show _ = _; rw [dl.out]; have := hL1.out; have := HN.out; omega, KW, KF, T6, B6⟩
          case measure => simp only [vlen_slice]; omega
        · have z5 : (((L1 : Int) + (t : Int)) % 64 == 0) = false := by have := ER.out; simp; omega
          obtain rfl : t = n1 := by have := TT.out; omega
          have lf : (L1 + t) % 64 = r + t := by have := ER.out; omega
          have dn : xs1.drop t = [] := List.drop_eq_nil_of_le (by rw [HN.out]; exact Nat.le_refl _)
          have tx : tk = xs1 := by rw [TK.out]; exact List.take_of_length_le (by rw [HN.out]; exact Nat.le_refl _)
          have KW : Hid (whole32 C1 ((lay R1 r tk).take ((L1 + t) % 64) ++ xs1.drop t) = Wt) := by
            show _ = _
            rw [lf, mk.out, dn, List.append_nil, tx, ER.out]
            exact hW1.out
          have KF : Hid (left32 ((lay R1 r tk).take ((L1 + t) % 64) ++ xs1.drop t) = Lf) := by
            show _ = _
            rw [lf, mk.out, dn, List.append_nil, tx, ER.out]
            exact hF1.out
          clear mk lf dn tx
          go_wp2
          go_roundw
          case rel => exact ⟨L1 + t, c1 - t, C1, lay R1 r tk, xs1.drop t, _, by rw [dl.out, Nat.sub_self], by rw [Int.natCast_add]; exact H5, hC1, ly, r5, byt_drop hx1 t, by rw [dl.out]; have := HN.out; omega, by rw [dl.out]; have := HN.out; omega, by show _ = _; rw [dl.out]; have := hL1.out; have := HN.out; omega, KW, KF, T5, B5⟩
          case measure => simp only [vlen_slice]; omega
    · obtain rfl : xs1 = [] := List.eq_nil_of_length_eq_zero (by omega)
      have e1 : L1 = Lt := by have := hL1.out; simpa using this
      have sh : (R1.take (L1 % 64)).length < 64 := by rw [List.length_take]; omega
      have e2 : C1 = Wt := by have := hW1.out; rw [List.append_nil, whole_short32 _ sh] at this; exact this
      have e3 : R1.take (L1 % 64) = Lf := by have := hF1.out; rw [List.append_nil, left_short32 sh] at this; exact this
      have E := hide (And.intro e1 (And.intro e2 e3))
      clear e1 e2 e3 sh hL1 hW1 hF1
      go_wp2
      obtain ⟨e1, e2, e3⟩ := E.out
      subst e1 e2
      exact bodyPost_end (v := .tuple #[]) (by simp [results, Tryz.results47, go_sem]) rfl ⟨rfl, R1, hH1, hR1, e3, hB1⟩
end Go.Proofs.YtmfajpplagbfcaaGreatDoor
namespace Go.Proofs.YtmfajpplagbfcaaGreatDoor
set_option maxRecDepth 100000
open Go Go.RowKit
theorem rowH_32 : ∃ d, Tryz.prog.underlying 76 = some d ∧ d.isRow = true := by
  have h := undH_32
  cases hq : Tryz.prog.underlying 76 with
  | none => rw [hq] at h; simp at h
  | some d => rw [hq] at h; exact ⟨d, rfl, by simpa using h⟩
theorem row8_32 : Tryz.prog.underlying 73 = some (.array 8 71) := by kernel_rfl
theorem info8_32 : (Tryz.prog.info? 73).map (·.size) = some 8 := by kernel_rfl
def endL32 (L : Nat) (C : S8) (R : List Int) : List Int := tell32 (whole32 C (R.take (L % 64) ++ padL (L : Int) 64 8))
set_option maxHeartbeats 4000000 in
theorem end_32 (w : World) (L : Nat) (C : S8) (R : List Int) (hl : R.length = 128) (hC : Ok32 C) (hR : Byt R) (hL : L ≤ 1099511627776) (hT : HasT w 1 kL) :
    Calls Tryz.prog 48 #[.agg (hcl .u32 (L : Int) C R).toArray] w fun e w' => NewRow w.heap.size w' e .u8 (endL32 L C R) ∧ Below w.heap.size w w' := by
  have n0 : Below w.heap.size w (w.alloc (.cells (hcl .u32 (L : Int) C R).toArray 76)) := (Below.refl _ _).alloc (Nat.le_refl _) _
  have H0 := HB.alloc .u32 w 76 (L : Int) C hl
  have z0 : (w.alloc (.cells (hcl .u32 (L : Int) C R).toArray 76)).heap.size = w.heap.size + 1 := by simp
  have gl : 1 < w.heap.size := block_lt_of_cell (hT 0 (by decide))
  have PD := fun w => hide (padding_32 w (L : Int) (by omega) (by omega))
  have PB := padL_byt (L : Int) 64 8
  have PL : (padL (L : Int) 64 8).length ≤ 512 := by rw [padL_len]; have := padZ_lt (L : Int) (B := 64) (t := 8) (by decide); omega
  generalize hv : hcl .u32 (L : Int) C R = vs at *
  unfold endL32
  generalize padL (L : Int) 64 8 = pl at *
  obtain ⟨C2, hC2⟩ : ∃ s, s = whole32 C (R.take (L % 64) ++ pl) := ⟨_, rfl⟩
  have oC : Ok32 C2 := by rw [hC2]; exact whole_ok32 hC _
  rw [← hC2]
  have TK0 := fun w1 q H1 g1 a1 c1 o1 q1 h1 h2 h3 h4 => take_32 w1 q L C R H1 hC hR g1 a1 c1 pl o1 PB q1 h1 h2 h3 h4
  rw [← hC2] at TK0
  clear hC2
  go_enter Tryz.func48, Tryz.ntmps48
  go_upto_region 1 with fail
  generalize w.alloc (.cells vs.toArray 76) = wa at *
  have c0 := H0.c0
  go_wp2_with fail
  refine (PD wa).out.mono ?_
  rintro r w1 ⟨⟨a1, c1, g1, rfl, o1, p1, q1, r1⟩, n1⟩
  have H1 := H0.up n1
  have N1 := nxt n0 n1
  have TK := TK0 w1 w.heap.size H1 g1 a1 c1 o1.rd q1 (fun _ => by omega) (by omega) (hT.up N1) (by omega)
  have TKH := hide TK
  clear TK PD H0 n1 c0 H1
  go_wp2_with fail
  refine TKH.out.mono ?_
  rintro r w2 ⟨rfl, R2, H2, b2, e2, B2⟩
  have N2 : Below w.heap.size w w2 := N1.trans (B2.below (by omega) N1.size)
  have RG := H2.ch.range
  have BY := hide (bytes_32 w2 C2 oC)
  clear TKH H2 b2 e2 B2 N1 o1 TK0
  go_wp2_with (refine wpList_load_mid rfl 73 (.tmp 7) rfl w.heap.size 1 rfl (C2.l.map (Value.int .u32)) (.array 8 71) RG row8_32 rfl (by rw [List.length_map]; exact info8_32) ?_)
  refine BY.out.mono ?_
  rintro r w3 ⟨⟨a3, c3, g3, rfl, o3, p3, q3, r3⟩, n3⟩
  have z2 := N2.size
  go_wp2
  go_ret
  exact ⟨⟨a3, c3, g3, rfl, o3, p3, q3, by omega⟩, nxt N2 n3⟩
theorem whole_left32 (s : S8) (l m : List Int) : whole32 (whole32 s l) (left32 l ++ m) = whole32 s (l ++ m) := by
  induction h : l.length using Nat.strongRecOn generalizing s l with
  | ind n ih =>
    by_cases c : l.length < 64
    · rw [whole_short32 s c, left_short32 c]
    · have hl : (l.take 64).length = 64 := by rw [List.length_take]; omega
      have e : l = l.take 64 ++ l.drop 64 := (List.take_append_drop _ _).symm
      have r := ih (l.drop 64).length (by rw [List.length_drop]; omega) (blk32 s (wd 4 (l.take 64))) (l.drop 64) rfl
      rw [e, whole_app32 _ _ _ hl, left_app32 _ _ hl, List.append_assoc, whole_app32 _ _ _ hl]
      exact r
def hashL32 (xs : List Int) : List Int := tell32 (whole32 start32 (xs ++ padL (xs.length : Int) 64 8))
theorem hash_is32 {R xs : List Int} (e : R.take (xs.length % 64) = left32 xs) : endL32 xs.length (whole32 start32 xs) R = hashL32 xs := by
  unfold endL32 hashL32
  rw [e, whole_left32]
set_option maxRecDepth 20000 in
set_option maxHeartbeats 8000000 in
theorem implHash_32 (w : World) (g : Nat) (a : Option Addr) (c : Nat) (xs : List Int) (hr : Rd w g a .u8 xs) (hx : Byt xs) (hc : xs.length ≤ c) (hn : xs.length ≤ 1099511627776) (hS : HasT w 0 stLh) (hT : HasT w 1 kL) :
    Calls Tryz.prog 23 #[.slice a xs.length c] w fun e w' => NewRow w.heap.size w' e .u8 (hashL32 xs) ∧ Below w.heap.size w w' := by
  have NH := hide (newHashing_32 w hS)
  have gl : 1 < w.heap.size := block_lt_of_cell (hT 0 (by decide))
  have L1 := hide (hcl_len .u32 0 start32 (R := List.replicate 128 0) (by simp))
  have O1 := hcl_one .u32 0 start32 (List.replicate 128 0)
  have HO : Hid (∀ W q, W.rangeAt q 0 (hcl .u32 0 start32 (List.replicate 128 0)) → W.there q 0 137 → HB .u32 W q ((0 : Nat) : Int) start32 (List.replicate 128 0)) := fun W q h1 h2 => HB.of_range (by simp) h1 h2
  obtain ⟨d, hd, hrow⟩ := rowH_32
  generalize hcl .u32 0 start32 (List.replicate 128 0) = vs at *
  have gr : 0 < xs.length → g < w.heap.size := fun h => hr.lt h
  go_enter Tryz.func23, Tryz.ntmps23
  go_wp2_with fail
  refine NH.out.mono ?_
  rintro r w1 ⟨rfl, n1⟩
  clear NH
  have z1 := n1.size
  have HZ := HB.zero32 w1
  have TH := HZ.there
  have na : Below w1.heap.size w1 (w1.alloc zH32) := (Below.refl _ _).alloc (Nat.le_refl _) _
  have sm := World.rangeAt_setCells_same (w1.alloc zH32) w1.heap.size 0 vs (by rw [L1.out]; exact TH)
  have th2 := World.there_setCells TH w1.heap.size 0 vs
  have O2 := only_setCells (w1.alloc zH32) w1.heap.size vs 0
  have H2 := HO.out _ _ sm th2
  have N2 : Below w.heap.size w ((w1.alloc zH32).setCells w1.heap.size 0 vs) := (nxt n1 na).trans (O2.below (by omega))
  go_wp2_with (refine wpList_store_mid rfl 76 (.tmp 3) (.tmp 4) rfl w1.heap.size 0 vs.toArray rfl rfl ?hth ?hin ?hon ?_)
  case hth => exact (show (w1.alloc zH32).there w1.heap.size 0 vs.length by rw [L1.out]; exact TH)
  case hin => show _ = some vs.length; rw [L1.out]; exact infoH_32
  case hon => exact O1
  have TK := take_32 ((w1.alloc zH32).setCells w1.heap.size 0 vs) w1.heap.size 0 start32 (List.replicate 128 0) H2 start_ok32 (byt_rep0 _) g a c xs (hr.up N2) hx hc (fun h => by have := gr h; omega) (by omega) (hT.up N2) (by omega)
  rw [Nat.zero_add, Nat.zero_mod, List.take_zero, List.nil_append] at TK
  have TKH := hide TK
  clear TK HZ TH sm th2 O2 H2 na HO
  change Calls _ _ _ ((w1.alloc zH32).setCells w1.heap.size 0 vs) _
  generalize hw2 : (w1.alloc zH32).setCells w1.heap.size 0 vs = w2 at *
  refine TKH.out.mono ?_
  rintro r w3 ⟨rfl, R3, H3, b3, e3, B3⟩
  have N3 : Below w.heap.size w w3 := N2.trans (B3.below (by omega) N2.size)
  have RG := H3.range
  have L3 := hide (hcl_len .u32 (xs.length : Int) (whole32 start32 xs) H3.len)
  have EN := end_32 w3 xs.length (whole32 start32 xs) R3 H3.len (whole_ok32 start_ok32 xs) b3 hn (hT.up N3)
  rw [hash_is32 e3] at EN
  have ENH := hide EN
  generalize hcl .u32 (xs.length : Int) (whole32 start32 xs) R3 = v3 at *
  clear EN TKH H3 b3 e3 B3 hw2 N2
  go_wp2_with (refine wpList_load_mid rfl 76 (.tmp 3) rfl w1.heap.size 0 rfl v3 d RG hd hrow (by rw [L3.out]; exact infoH_32) ?_)
  refine ENH.out.mono ?_
  rintro r w4 ⟨⟨a4, c4, g4, rfl, o4, p4, q4, r4⟩, n4⟩
  have z3 := N3.size
  go_wp2
  go_ret
  exact ⟨⟨a4, c4, g4, rfl, o4, p4, q4, by omega⟩, nxt N3 n4⟩
end Go.Proofs.YtmfajpplagbfcaaGreatDoor
namespace Go.Proofs.YtmfajpplagbfcaaGreatDoor
set_option maxRecDepth 100000
open Go Go.RowKit
end Go.Proofs.YtmfajpplagbfcaaGreatDoor
namespace Go.Proofs.YtmfajpplagbfcaaGreatDoor
set_option maxRecDepth 100000
open Go Go.RowKit
def WTo32 (b : Nat → Int) (ys : List Int) (i : Nat) : Prop := ys.length = 64 ∧ ∀ j, j < i → ys.getD j 0 = wS32 b j
theorem WTo32.step {b : Nat → Int} {ys : List Int} {i : Nat} (h : WTo32 b ys i) (hi : i < 64) : WTo32 b (ys.set i (wS32 b i)) (i + 1) := by
  refine ⟨by rw [List.length_set]; exact h.1, fun j hj => ?_⟩
  by_cases e : i = j
  · subst e
    rw [getD_set_self _ _ _ (by rw [h.1]; exact hi)]
  · rw [getD_set_ne _ _ _ _ e]
    exact h.2 j (by omega)
end Go.Proofs.YtmfajpplagbfcaaGreatDoor
namespace Go.Proofs.YtmfajpplagbfcaaGreatDoor
set_option maxRecDepth 100000
open Go Go.RowKit
end Go.Proofs.YtmfajpplagbfcaaGreatDoor
namespace Go.Proofs.YtmfajpplagbfcaaGreatDoor
set_option maxRecDepth 100000
open Go Go.RowKit
def RNh (B : Nat) (ys : List Int) : Fact := ⟨fun v w => ∃ (a : Option Addr) (c g : Nat), v = .slice a ys.length c ∧ Own w g a .u8 ys ∧ (a = none → c = 0) ∧ ys.length ≤ c ∧ B ≤ g, fun n h => by
  obtain ⟨a, c, g, e, o, q⟩ := h
  exact ⟨a, c, g, e, o.up n, q⟩⟩
def ST3 (w : World) (v : Value) (B : Nat) (L : Int) (ws rs : List Int) : Prop :=
  ∃ (a a' : Option Addr) (c c' g g' : Nat), v = .agg #[.int .i64 L, .slice a ws.length c, .slice a' rs.length c'] ∧ Own w g a .u8 ws ∧ Own w g' a' .u8 rs ∧ (a = none → c = 0) ∧ (a' = none → c' = 0) ∧ ws.length ≤ c ∧ rs.length ≤ c' ∧ B ≤ g ∧ B ≤ g'
theorem ST3.up {w w' : World} {v : Value} {B : Nat} {L : Int} {ws rs : List Int} (h : ST3 w v B L ws rs) (n : Below w.heap.size w w') : ST3 w' v B L ws rs := by
  obtain ⟨a, a', c, c', g, g', e, o, o', q⟩ := h
  exact ⟨a, a', c, c', g, g', e, o.up n, o'.up n, q⟩
theorem there_upn {W W' : World} {q n : Nat} (hn : 0 < n) (h : W.there q 0 n) (k : Below W.heap.size W W') : W'.there q 0 n := by
  have h0 := (h 0 hn).1
  rw [Option.isSome_iff_exists] at h0
  obtain ⟨v, hv⟩ := h0
  have l := block_lt_of_cell hv
  intro j hj
  rw [World.cell?_of_block (a := ⟨q, 0 + j, none⟩) (k.block q l), World.frozen?_of_block (a := ⟨q, 0 + j, none⟩) (k.block q l)]
  exact h j hj
theorem region_putF {P : Program} {ops : Array Oper} {Q : Exit → Act → World → Prop} {a0 : Act} {id : Nat} {draw : Bool} {w : World} (k jV pD pV : Nat) (o : Oper) (F : Nat → Fact) (q off : Nat) (ty : TypeId) (hm : P.follows .mixedOrders = true) (hT : textOk .any ops a0.tmps.size k = true) (hk : ops[k]? = some o) (hd : o.dst = none)
    (hop : o.op = .store ty (.tmp pD) (.tmp pV)) (hp : apart ops pD = true) (h0 : a0.tmps.getD pD undef = .pointer (some ⟨q, off, none⟩)) (wV : writes ops jV pV = true) (steps : ∀ i, i < k → StepOk P .any ops Q F a0 w i)
    (fin : ∀ (vs : Nat → Value) (W : World) (v : Value), Below w.heap.size w W → (F jV).p v W → ∃ cells : List Value, v = .agg cells.toArray ∧ W.there q off cells.length ∧ (P.info? ty).map (·.size) = some cells.length ∧ cells.toArray.all (·.oneCell') = true ∧ Q .normal (puts vs a0 ops.toList) (W.setCells q off cells)) : (Code.region id ops draw).wp P Q a0 w := by
  refine region_store k o F hm hT hk hd steps fun a W hb hw hF => ?_
  obtain ⟨vs, hvs⟩ : ∃ vs : Nat → Value, ∀ d, a.tmps.getD d undef = vs d := ⟨_, fun _ => rfl⟩
  obtain ⟨cells, hc, ht, hi, h1, hQ⟩ := fin vs W (a.tmps.getD pV undef) hw (hF jV pV wV)
  refine wp_store_mid ty (.tmp pD) (.tmp pV) hop q off cells.toArray ((based_at hb pD hp).trans h0) hc (by rw [List.size_toArray]; exact ht) (by rw [List.size_toArray]; exact hi) h1 ?_
  rw [hd]
  show Q .normal a _
  rw [puts_of hT rfl hb vs hvs]
  exact hQ
end Go.Proofs.YtmfajpplagbfcaaGreatDoor
namespace Go.Proofs.YtmfajpplagbfcaaGreatDoor
set_option maxRecDepth 100000
open Go Go.RowKit
section
variable {P : Program} {ops : Array Oper} {Q : Exit → Act → World → Prop} {a0 : Act}
end
end Go.Proofs.YtmfajpplagbfcaaGreatDoor
namespace Go.Proofs.YtmfajpplagbfcaaGreatDoor
set_option maxRecDepth 100000
open Go Go.RowKit
structure C3 (w : World) (p : Nat) (x y z : Value) : Prop where
  c0 : w.cell? ⟨p, 0, none⟩ = some x
  c1 : w.cell? ⟨p, 1, none⟩ = some y
  c2 : w.cell? ⟨p, 2, none⟩ = some z
theorem C3.lt {w : World} {p : Nat} {x y z : Value} (h : C3 w p x y z) : p < w.heap.size := block_lt_of_cell h.c0
theorem C3.of_block {w w' : World} {p : Nat} {x y z : Value} (h : C3 w p x y z) (hb : w'.heap[p]? = w.heap[p]?) : C3 w' p x y z :=
  ⟨(World.cell?_of_block (a := ⟨p, 0, none⟩) hb).trans h.c0, (World.cell?_of_block (a := ⟨p, 1, none⟩) hb).trans h.c1, (World.cell?_of_block (a := ⟨p, 2, none⟩) hb).trans h.c2⟩
theorem C3.up {w w' : World} {p : Nat} {x y z : Value} (h : C3 w p x y z) (n : Below w.heap.size w w') : C3 w' p x y z := h.of_block (n.block p h.lt)
theorem C3.new (w : World) (x y z : Value) (t : TypeId) : C3 (w.alloc (.cells #[x, y, z] t)) w.heap.size x y z :=
  ⟨by simp [World.cell?_alloc_at], by simp [World.cell?_alloc_at], by simp [World.cell?_alloc_at]⟩
end Go.Proofs.YtmfajpplagbfcaaGreatDoor
namespace Go.Proofs.YtmfajpplagbfcaaGreatDoor
set_option maxRecDepth 100000
open Go Go.RowKit
end Go.Proofs.YtmfajpplagbfcaaGreatDoor
namespace Go.Proofs.YtmfajpplagbfcaaGreatDoor
set_option maxRecDepth 100000
open Go Go.RowKit
end Go.Proofs.YtmfajpplagbfcaaGreatDoor
namespace Go.Proofs.YtmfajpplagbfcaaGreatDoor
set_option maxRecDepth 100000
open Go Go.RowKit
theorem left_left32 (l m : List Int) : left32 (left32 l ++ m) = left32 (l ++ m) := by
  induction h : l.length using Nat.strongRecOn generalizing l with
  | ind n ih =>
    by_cases c : l.length < 64
    · rw [left_short32 c]
    · have hl : (l.take 64).length = 64 := by rw [List.length_take]; omega
      have e : l = l.take 64 ++ l.drop 64 := (List.take_append_drop _ _).symm
      have r := ih (l.drop 64).length (by rw [List.length_drop]; omega) (l.drop 64) rfl
      rw [e, left_app32 _ _ hl, List.append_assoc, left_app32 _ _ hl]
      exact r
def SD (w : World) (v : Value) (B : Nat) (ys : List Int) : Prop := ST3 w v B ((ys.length : Nat) : Int) (tell32 (whole32 start32 ys)) (left32 ys)
theorem SD.up {w w' : World} {v : Value} {B : Nat} {ys : List Int} (h : SD w v B ys) (n : Below w.heap.size w w') : SD w' v B ys := ST3.up h n
theorem SD.le {w : World} {v : Value} {B B' : Nat} {ys : List Int} (h : SD w v B ys) (hB : B' ≤ B) : SD w v B' ys := by
  obtain ⟨a, a', c, c', g, g', e, o, o', h1, h2, h3, h4, h5, h6⟩ := h
  exact ⟨a, a', c, c', g, g', e, o, o', h1, h2, h3, h4, by omega, by omega⟩
end Go.Proofs.YtmfajpplagbfcaaGreatDoor
