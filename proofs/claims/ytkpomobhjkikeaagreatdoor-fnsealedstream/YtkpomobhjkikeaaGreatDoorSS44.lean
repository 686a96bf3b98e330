import Derived.Test.YtkpomobhjkikeaaGreatDoorSS42
import Derived.Test.YtkpomobhjkikeaaGreatDoorSS43
import Derived.Test.YtkpomobhjkikeaaGreatDoorSS3
import Derived.Test.YtkpomobhjkikeaaGreatDoorSS2
import Derived.Test.YtkpomobhjkikeaaGreatDoorSS21
import Derived.ChangeKeysEq
import Derived.Test.YtkpomobhjkikeaaGreatDoorSS31
namespace Go.Proofs.YtkpomobhjkikeaaGreatDoor
set_option maxRecDepth 100000
open Go Go.RowKit
def xrB (a b : Int) : Int := bits BinOp.xor IntKind.u8 a b
def nzT (zs B : List Int) : Nat → List Int
  | 0 => zs
  | j + 1 => (nzT zs B j).set (4 + j) (xrB ((nzT zs B j).getD (4 + j) 0) (B.getD j 0))
theorem nzT_len (zs B : List Int) : ∀ j, (nzT zs B j).length = zs.length
  | 0 => rfl
  | j + 1 => by rw [nzT, List.length_set]; exact nzT_len zs B j
def rnA (iv : List Int) (n : Int) : List Int := if iv.length = 12 ∧ 0 ≤ n ∧ n ≤ 4294967295 then nzT iv (bigL n 8) 8 else []
theorem ownBlock_lt {w : World} {base g cap : Nat} {n : Nat} {xs : List Int} (h : RowB w base (.slice (some ⟨g, 0, none⟩) n cap) xs) : g < w.heap.size := (World.ownsRow.lt h g rfl).2
set_option maxRecDepth 100000 in
set_option maxHeartbeats 4000000 in
theorem implNonce_any (w : World) (g : Nat) (a : Option Addr) (c : Nat) (iv : List Int) (hr : Rd w g a .u8 iv) (hc : a = none → c = 0) (n : Int) :
    Calls Tryz.prog 38 #[.slice a iv.length c, .int .i64 n] w fun e w' => ∃ v', e = .returned v' ∧ RowB w' w.heap.size v' (rnA iv n) ∧ Below w.heap.size w w' := by
  by_cases h12 : iv.length = 12
  · by_cases hn0 : n < 0
    · have q0 : rnA iv n = [] := by unfold rnA; rw [if_neg (by omega)]
      rw [q0, h12]
      clear h12 hr q0
      have q1 : decide (n < 0) = true := by simpa using hn0
      go_enter Tryz.func38, Tryz.ntmps38
      go_wp2
      go_ret
      exact ⟨_, rfl, RowB.nilN _ _, Below.refl _ _⟩
    · by_cases hn1 : 4294967295 < n
      · have q0 : rnA iv n = [] := by unfold rnA; rw [if_neg (by omega)]
        rw [q0, h12]
        clear h12 hr q0
        have q1 : decide (n < 0) = false := by simpa using hn0
        have q2 : decide (4294967295 < n) = true := by simpa using hn1
        go_enter Tryz.func38, Tryz.ntmps38
        go_wp2
        go_ret
        exact ⟨_, rfl, RowB.nilN _ _, Below.refl _ _⟩
      · have q0 : Hid (rnA iv n = nzT iv (bigL n 8) 8) := by show _ = _; unfold rnA; rw [if_pos (by omega)]
        have q1 : decide (n < 0) = false := by simpa using hn0
        have q2 : decide (4294967295 < n) = false := by simpa using hn1
        have CL := hide (cloneR_any w g a c iv hr hc (by omega))
        have AN := fun W => hide (appendNum_any W W.heap.size (.slice none 0 0) [] (RowB.nilN W _) (Nat.le_refl _) n 8 (by decide) (by simp))
        rw [h12] at CL ⊢
        have H12 := hide h12
        clear h12 hr hn0 hn1
        have BL : Hid ((bigL n 8).length = 8) := bigL_len n 8
        simp only [List.nil_append] at AN
        obtain ⟨B, hB⟩ : ∃ B, B = bigL n 8 := ⟨_, rfl⟩
        simp only [← hB] at AN BL q0
        clear hB
        go_enter Tryz.func38, Tryz.ntmps38
        go_wp2_with fail
        refine CL.out.mono ?_
        rintro e w1 ⟨v1, rfl, R1, n1⟩
        clear CL
        obtain ⟨g1, cap, rfl, hg1, hcap, -⟩ := R1.parts (by rw [H12.out]; decide)
        rw [H12.out] at R1 hcap ⊢
        have l1 := ownBlock_lt R1
        have AN1 := AN w1
        go_wp2_with fail
        refine AN1.out.mono ?_
        rintro e w2 ⟨v2, rfl, R2, n2⟩
        clear AN AN1
        obtain ⟨a2, c2, g2, rfl, D2, -, hc2, hg2⟩ := R2.rd
        obtain ⟨o2, rfl, D2c⟩ := D2 (by rw [BL.out]; decide)
        have D2l := D2.lt (by rw [BL.out]; decide)
        have CB : Hid (∀ k, k < 8 → w2.cell? ⟨g2, o2 + k, none⟩ = some (.int .u8 (B.getD k 0))) := fun k hk => D2c k (by rw [BL.out]; exact hk)
        rw [BL.out]
        have R1' := R1.up n2
        have N2 := nxt n1 n2
        clear R1 R2 D2 D2c n1 n2 BL
        go_wp2
        go_loopw [6, 7, 24] (fun _ _ i wr => ∃ k : Nat, k ≤ 8 ∧ i = .int .i64 k ∧ RowB wr w.heap.size (.slice (some ⟨g1, 0, none⟩) 12 cap) (nzT iv B k) ∧ Hid (wr.heap[g2]? = w2.heap[g2]?) ∧ Below w.heap.size w wr) (fun _ _ i _ => 8 - (intOf i).toNat)
        case atStart => exact ⟨0, Nat.zero_le _, rfl, R1', rfl, N2⟩
        case round =>
          obtain ⟨k, hk, rfl, R, hbk, hN⟩ := hrel
          by_cases hlt : k < 8
          · have cb := (World.cell?_of_block (a := ⟨g2, o2 + k, none⟩) hbk.out).trans (CB.out k hlt)
            have hL : Hid ((nzT iv B k).length = 12) := by show _ = _; rw [nzT_len]; exact H12.out
            obtain ⟨g1', cap', e1, -, -, cz, fz, sz, -⟩ := R.parts (by rw [hL.out]; decide)
            simp only [Value.slice.injEq, Option.some.injEq, Addr.mk.injEq, and_true] at e1
            obtain ⟨e1, -, e2⟩ := e1
            subst e1 e2
            have cz1 := cz (4 + k) (by rw [hL.out]; omega)
            have fz1 := fz (4 + k)
            have R' := sz (4 + k) (xrB ((nzT iv B k).getD (4 + k) 0) (B.getD k 0)) (by rw [hL.out]; omega)
            have hR : RowB (wr.setCell ⟨g1, 4 + k, none⟩ (.int .u8 (xrB ((nzT iv B k).getD (4 + k) 0) (B.getD k 0)))) w.heap.size (.slice (some ⟨g1, 0, none⟩) 12 cap) (nzT iv B (k + 1)) := R'
            have hbk' : Hid ((wr.setCell ⟨g1, 4 + k, none⟩ (.int .u8 (xrB ((nzT iv B k).getD (4 + k) 0) (B.getD k 0)))).heap[g2]? = w2.heap[g2]?) := ((Only.setCell wr g1 (4 + k) _).block g2 (by omega)).trans hbk.out
            have hN' : Below w.heap.size w (wr.setCell ⟨g1, 4 + k, none⟩ (.int .u8 (xrB ((nzT iv B k).getD (4 + k) 0) (B.getD k 0)))) := hN.setCell hg1 _
            unfold xrB at hR hbk' hN'
            clear R R' cz fz sz hN hbk hL
            have k1 : (k : Int) < 8 := by omega
            have e4 : (4 : Int) + (k : Int) = ((4 + k : Nat) : Int) := by omega
            have i4 : ((4 + k : Nat) : Int) < 12 := by omega
            generalize (nzT iv B k).getD (4 + k) 0 = x at *
            generalize B.getD k 0 = y at *
            obtain ⟨m, hm⟩ : ∃ m, m = 4 + k := ⟨_, rfl⟩
            rw [← hm] at cz1 fz1 hR hbk' hN' e4 i4
            clear hm
            go_wp2
            go_roundw
            case rel => exact ⟨k + 1, by omega, by go_num, hR, hbk', hN'⟩
            case measure => simp [intOf]; omega
          · obtain rfl : k = 8 := by omega
            rw [show (((8 : Nat) : Int)) = 8 from rfl]
            go_wp2
            go_ret
            exact ⟨_, rfl, by rw [q0.out]; exact R, hN⟩
  · have q0 : rnA iv n = [] := by unfold rnA; rw [if_neg (by omega)]
    rw [q0]
    have q1 : decide ((iv.length : Int) = 12) = false := by simp; omega
    have q3 : ((iv.length : Int) != 12) = true := by simp; omega
    clear h12 hr q0
    go_enter Tryz.func38, Tryz.ntmps38
    go_wp2
    go_ret
    exact ⟨_, rfl, RowB.nilN _ _, Below.refl _ _⟩
end Go.Proofs.YtkpomobhjkikeaaGreatDoor
namespace Go.Proofs.YtkpomobhjkikeaaGreatDoor
set_option maxRecDepth 100000
open Go Go.RowKit
theorem results_twoN {P : Program} {fn : Func} {p t : Tmp} {ty : TypeId} (h : fn.results = #[.cell p ty, .tmp t]) (tmps : Array Value) (w : World) (g : Nat) (cs : List Value) (d : TypeDesc) (v : Value)
    (hp : tmps.getD p undef = .pointer (some ⟨g, 0, none⟩)) (ht : tmps.getD t undef = v) (hc : w.rangeAt g 0 cs) (hu : P.underlying ty = some d) (hd : d.isRow = true) (hi : (P.info? ty).map (·.size) = some cs.length) :
    (results fn tmps).run P w = .ok (.tuple #[.agg cs.toArray, v]) w := by
  have hp' : tmps[p]?.getD undef = .pointer (some ⟨g, 0, none⟩) := by simpa using hp
  have ht' : tmps[t]?.getD undef = v := by simpa using ht
  simp [results, h, hp', ht', asAddr, run_loadVar_mid w g 0 ty cs d hc hu hd hi]
theorem iSr : (Tryz.prog.info? 63).map (·.size) = some 4 := by kernel_rfl
theorem rowSr : ∃ d, Tryz.prog.underlying 63 = some d ∧ d.isRow = true := ⟨_, Tryz.underlying63, rfl⟩
abbrev srZ : List Value := [.int .i64 0, .int .i64 0, .slice none 0 0, .slice none 0 0]
set_option maxHeartbeats 4000000 in
theorem newSealed_any (w : World) (ak : Option Addr) (kl ck : Nat) (gi : Nat) (ai : Option Addr) (ci : Nat) (V : List Int) (hi : Rd w gi ai .u8 V) (zi : ai = none → ci = 0) (q n : Int) (a2 a3 : Addr) (h2 : Sen w 5 a2) (h3 : Sen w 4 a3) :
    Calls Tryz.prog 24 #[.agg #[.slice ak kl ck, .slice ai V.length ci], .int .i64 q, .int .i64 n] w fun e w' => Below w.heap.size w w' ∧
      ((kl = 32 ∧ (rnA V q).length = 12 ∧ 17 ≤ n ∧ n ≤ 2321 ∧ ∃ an cn, e = .returned (.tuple #[.agg #[.int .i64 23, .int .i64 n, .slice ak kl ck, .slice an (rnA V q).length cn], .nilIface]) ∧ RowB w' w.heap.size (.slice an (rnA V q).length cn) (rnA V q))
       ∨ (¬ (kl = 32 ∧ (rnA V q).length = 12) ∧ e = .returned (.tuple #[.agg srZ.toArray, erV a3]))
       ∨ ((kl = 32 ∧ (rnA V q).length = 12) ∧ ¬ (17 ≤ n ∧ n ≤ 2321) ∧ e = .returned (.tuple #[.agg srZ.toArray, erV a2]))) := by
  obtain ⟨d1, hd1, hrow1⟩ := rowSr
  have NC := hide fun W (m : Below w.heap.size w W) => implNonce_any W gi ai ci V (hi.up m) zi q
  clear hi
  obtain ⟨R, hR⟩ : ∃ R, R = rnA V q := ⟨_, rfl⟩
  rw [← hR] at NC ⊢
  clear hR
  have n1 : Below w.heap.size w (w.alloc (.cells #[.slice ak kl ck, .slice ai V.length ci] 28)) := (Below.refl _ _).alloc (Nat.le_refl _) _
  have B0 : RwC (w.alloc (.cells #[.slice ak kl ck, .slice ai V.length ci] 28)) w.heap.size [.slice ak kl ck, .slice ai V.length ci] 28 := RwC.new w _ _
  have z1 : (w.alloc (.cells #[.slice ak kl ck, .slice ai V.length ci] 28)).heap.size = w.heap.size + 1 := by simp
  go_enter Tryz.func24, Tryz.ntmps24
  go_upto_region 1 with fail
  generalize w.alloc (.cells #[.slice ak kl ck, .slice ai V.length ci] 28) = wa at *
  have n2 : Below wa.heap.size wa (wa.alloc (.cells #[.int .i64 0, .int .i64 0, .slice none 0 0, .slice none 0 0] 63)) := (Below.refl _ _).alloc (Nat.le_refl _) _
  have Z0 : RwC (wa.alloc (.cells #[.int .i64 0, .int .i64 0, .slice none 0 0, .slice none 0 0] 63)) wa.heap.size srZ 63 := RwC.new wa _ _
  replace B0 := B0.up n2
  have N := nxt n1 n2
  generalize wa.alloc (.cells #[.int .i64 0, .int .i64 0, .slice none 0 0, .slice none 0 0] 63) = wb at *
  rw [z1] at Z0
  clear n1 n2 z1
  have lZ := Z0.lt
  have b0 := B0.c0
  have b1 := B0.c1
  go_wp2_with fail
  refine (NC.out wb N).mono ?_
  rintro e w1 ⟨v1, rfl, R1, m1⟩
  clear b0 b1
  replace B0 := B0.up m1
  replace Z0 := Z0.up m1
  replace N := nxt N m1
  have zm := m1.size
  obtain ⟨an, cn, gn, rfl, o1, _, _, gn1⟩ := R1.own
  have KD := hide (isKey_any w1 ak an kl R.length ck cn)
  have b0 := B0.c0
  have b1 := B0.c1
  go_wp2_with fail
  refine KD.out.mono ?_
  rintro e w2 ⟨rfl, hw⟩
  have hw := hw.symm
  subst hw
  have z0 : w1.cell? ⟨w.heap.size + 1, 0, none⟩ = some (.int .i64 0) := Z0.cell 0
  have z1 : w1.cell? ⟨w.heap.size + 1, 1, none⟩ = some (.int .i64 0) := Z0.cell 1
  have z2 : w1.cell? ⟨w.heap.size + 1, 2, none⟩ = some (.slice none 0 0) := Z0.cell 2
  have z3 : w1.cell? ⟨w.heap.size + 1, 3, none⟩ = some (.slice none 0 0) := Z0.cell 3
  have f0 := Z0.free 0
  have f1 := Z0.free 1
  have f2 := Z0.free 2
  have f3 := Z0.free 3
  have c2 := (h2.up N).c
  have c3 := (h3.up N).c
  unfold erV at c2 c3
  by_cases hg : kl = 32 ∧ R.length = 12
  · have hkd : (decide (kl = 32) && decide (R.length = 12)) = true := by simp [hg]
    have HG := hide hg
    clear hg
    rw [hkd]
    clear hkd
    by_cases hn : 17 ≤ n ∧ n ≤ 2321
    · have q1 : decide (n < 17) = false := by simp; omega
      have q2 : decide (2321 < n) = false := by simp; omega
      have HN := hide hn
      clear hn
      have ZF : RwC ((((w1.setCell ⟨w.heap.size + 1, 0, none⟩ (.int .i64 23)).setCell ⟨w.heap.size + 1, 1, none⟩ (.int .i64 n)).setCell ⟨w.heap.size + 1, 2, none⟩ (.slice ak kl ck)).setCell ⟨w.heap.size + 1, 3, none⟩ (.slice an R.length cn)) (w.heap.size + 1) [.int .i64 23, .int .i64 n, .slice ak kl ck, .slice an R.length cn] 63 := (((Z0.set 0 _).set 1 _).set 2 _).set 3 _
      have OF : Only (w.heap.size + 1) w1 ((((w1.setCell ⟨w.heap.size + 1, 0, none⟩ (.int .i64 23)).setCell ⟨w.heap.size + 1, 1, none⟩ (.int .i64 n)).setCell ⟨w.heap.size + 1, 2, none⟩ (.slice ak kl ck)).setCell ⟨w.heap.size + 1, 3, none⟩ (.slice an R.length cn)) := (((Only.setCell w1 (w.heap.size + 1) 0 _).trans (Only.setCell _ (w.heap.size + 1) 1 _)).trans (Only.setCell _ (w.heap.size + 1) 2 _)).trans (Only.setCell _ (w.heap.size + 1) 3 _)
      have RR := ZF.rangeG
      have NF := N.trans (OF.below (B := w.heap.size) (by omega))
      have RF := (R1.only OF (by omega)).base (show w.heap.size ≤ wb.heap.size by omega)
      clear OF ZF R1 o1
      go_wp2
      exact bodyPost_ret (v := .tuple #[.agg #[.int .i64 23, .int .i64 n, .slice ak kl ck, .slice an R.length cn], .nilIface]) (results_twoN Tryz.results24 _ _ (w.heap.size + 1) [.int .i64 23, .int .i64 n, .slice ak kl ck, .slice an R.length cn] d1 .nilIface rfl rfl RR hd1 hrow1 iSr) rfl ⟨NF, .inl ⟨HG.out.1, HG.out.2, HN.out.1, HN.out.2, an, cn, rfl, RF⟩⟩
    · have HN := hide hn
      rcases (by omega : n < 17 ∨ 2321 < n) with h | h
      · have q1 : decide (n < 17) = true := by simpa using h
        clear hn h
        have ZF : RwC ((((w1.setCell ⟨w.heap.size + 1, 0, none⟩ (.int .i64 0)).setCell ⟨w.heap.size + 1, 1, none⟩ (.int .i64 0)).setCell ⟨w.heap.size + 1, 2, none⟩ (.slice none 0 0)).setCell ⟨w.heap.size + 1, 3, none⟩ (.slice none 0 0)) (w.heap.size + 1) [.int .i64 0, .int .i64 0, .slice none 0 0, .slice none 0 0] 63 := (((Z0.set 0 _).set 1 _).set 2 _).set 3 _
        have OF : Only (w.heap.size + 1) w1 ((((w1.setCell ⟨w.heap.size + 1, 0, none⟩ (.int .i64 0)).setCell ⟨w.heap.size + 1, 1, none⟩ (.int .i64 0)).setCell ⟨w.heap.size + 1, 2, none⟩ (.slice none 0 0)).setCell ⟨w.heap.size + 1, 3, none⟩ (.slice none 0 0)) := (((Only.setCell w1 (w.heap.size + 1) 0 _).trans (Only.setCell _ (w.heap.size + 1) 1 _)).trans (Only.setCell _ (w.heap.size + 1) 2 _)).trans (Only.setCell _ (w.heap.size + 1) 3 _)
        have kg : ((((w1.setCell ⟨w.heap.size + 1, 0, none⟩ (.int .i64 0)).setCell ⟨w.heap.size + 1, 1, none⟩ (.int .i64 0)).setCell ⟨w.heap.size + 1, 2, none⟩ (.slice none 0 0)).setCell ⟨w.heap.size + 1, 3, none⟩ (.slice none 0 0)).cell? ⟨5, 0, none⟩ = some (.iface 189 (.pointer (some a2))) := (World.cell?_of_block (a := ⟨5, 0, none⟩) (OF.block 5 (by have : 5 < w.heap.size := block_lt_of_cell h2.c; omega))).trans c2
        have RR := ZF.rangeG
        have NF := N.trans (OF.below (B := w.heap.size) (by omega))
        clear OF ZF
        go_wp2
        go_region
        all_goals
          go_wp2
          exact bodyPost_ret (v := .tuple #[.agg srZ.toArray, erV a2]) (results_twoN Tryz.results24 _ _ (w.heap.size + 1) srZ d1 (erV a2) rfl rfl RR hd1 hrow1 iSr) rfl ⟨NF.drew, .inr (.inr ⟨HG.out, HN.out, rfl⟩)⟩
      · have q1 : decide (n < 17) = false := by simp; omega
        have q2 : decide (2321 < n) = true := by simpa using h
        clear hn h
        have ZF : RwC ((((w1.setCell ⟨w.heap.size + 1, 0, none⟩ (.int .i64 0)).setCell ⟨w.heap.size + 1, 1, none⟩ (.int .i64 0)).setCell ⟨w.heap.size + 1, 2, none⟩ (.slice none 0 0)).setCell ⟨w.heap.size + 1, 3, none⟩ (.slice none 0 0)) (w.heap.size + 1) [.int .i64 0, .int .i64 0, .slice none 0 0, .slice none 0 0] 63 := (((Z0.set 0 _).set 1 _).set 2 _).set 3 _
        have OF : Only (w.heap.size + 1) w1 ((((w1.setCell ⟨w.heap.size + 1, 0, none⟩ (.int .i64 0)).setCell ⟨w.heap.size + 1, 1, none⟩ (.int .i64 0)).setCell ⟨w.heap.size + 1, 2, none⟩ (.slice none 0 0)).setCell ⟨w.heap.size + 1, 3, none⟩ (.slice none 0 0)) := (((Only.setCell w1 (w.heap.size + 1) 0 _).trans (Only.setCell _ (w.heap.size + 1) 1 _)).trans (Only.setCell _ (w.heap.size + 1) 2 _)).trans (Only.setCell _ (w.heap.size + 1) 3 _)
        have kg : ((((w1.setCell ⟨w.heap.size + 1, 0, none⟩ (.int .i64 0)).setCell ⟨w.heap.size + 1, 1, none⟩ (.int .i64 0)).setCell ⟨w.heap.size + 1, 2, none⟩ (.slice none 0 0)).setCell ⟨w.heap.size + 1, 3, none⟩ (.slice none 0 0)).cell? ⟨5, 0, none⟩ = some (.iface 189 (.pointer (some a2))) := (World.cell?_of_block (a := ⟨5, 0, none⟩) (OF.block 5 (by have : 5 < w.heap.size := block_lt_of_cell h2.c; omega))).trans c2
        have RR := ZF.rangeG
        have NF := N.trans (OF.below (B := w.heap.size) (by omega))
        clear OF ZF
        go_wp2
        go_region
        all_goals
          go_wp2
          exact bodyPost_ret (v := .tuple #[.agg srZ.toArray, erV a2]) (results_twoN Tryz.results24 _ _ (w.heap.size + 1) srZ d1 (erV a2) rfl rfl RR hd1 hrow1 iSr) rfl ⟨NF.drew, .inr (.inr ⟨HG.out, HN.out, rfl⟩)⟩
  · have hkd : (decide (kl = 32) && decide (R.length = 12)) = false := by simpa using hg
    have HG := hide hg
    clear hg
    rw [hkd]
    clear hkd
    have ZF : RwC ((((w1.setCell ⟨w.heap.size + 1, 0, none⟩ (.int .i64 0)).setCell ⟨w.heap.size + 1, 1, none⟩ (.int .i64 0)).setCell ⟨w.heap.size + 1, 2, none⟩ (.slice none 0 0)).setCell ⟨w.heap.size + 1, 3, none⟩ (.slice none 0 0)) (w.heap.size + 1) [.int .i64 0, .int .i64 0, .slice none 0 0, .slice none 0 0] 63 := (((Z0.set 0 _).set 1 _).set 2 _).set 3 _
    have OF : Only (w.heap.size + 1) w1 ((((w1.setCell ⟨w.heap.size + 1, 0, none⟩ (.int .i64 0)).setCell ⟨w.heap.size + 1, 1, none⟩ (.int .i64 0)).setCell ⟨w.heap.size + 1, 2, none⟩ (.slice none 0 0)).setCell ⟨w.heap.size + 1, 3, none⟩ (.slice none 0 0)) := (((Only.setCell w1 (w.heap.size + 1) 0 _).trans (Only.setCell _ (w.heap.size + 1) 1 _)).trans (Only.setCell _ (w.heap.size + 1) 2 _)).trans (Only.setCell _ (w.heap.size + 1) 3 _)
    have kg : ((((w1.setCell ⟨w.heap.size + 1, 0, none⟩ (.int .i64 0)).setCell ⟨w.heap.size + 1, 1, none⟩ (.int .i64 0)).setCell ⟨w.heap.size + 1, 2, none⟩ (.slice none 0 0)).setCell ⟨w.heap.size + 1, 3, none⟩ (.slice none 0 0)).cell? ⟨4, 0, none⟩ = some (.iface 189 (.pointer (some a3))) := (World.cell?_of_block (a := ⟨4, 0, none⟩) (OF.block 4 (by have : 4 < w.heap.size := block_lt_of_cell h3.c; omega))).trans c3
    have RR := ZF.rangeG
    have NF := N.trans (OF.below (B := w.heap.size) (by omega))
    clear OF ZF
    go_wp2
    go_region
    all_goals
      go_wp2
      exact bodyPost_ret (v := .tuple #[.agg srZ.toArray, erV a3]) (results_twoN Tryz.results24 _ _ (w.heap.size + 1) srZ d1 (erV a3) rfl rfl RR hd1 hrow1 iSr) rfl ⟨NF.drew, .inr (.inl ⟨HG.out, rfl⟩)⟩
theorem lsts_twoN (w : World) (t : TypeId) (a b : Lst) : Lsts (w.alloc (.cells #[.slice a.a a.xs.length a.c, .slice b.a b.xs.length b.c] t)) w.heap.size [a, b] := by
  intro j x hj
  match j, hj with
  | 0, hj => simp at hj; subst hj; simp [World.cell?_alloc_at]
  | 1, hj => simp at hj; subst hj; simp [World.cell?_alloc_at]
theorem cat2N (a b : Lst) : cat [a, b] = a.xs ++ b.xs := by simp [cat]
set_option maxHeartbeats 4000000 in
theorem seal_any (w : World) (n : Int) (gk : Nat) (ak : Option Addr) (ck : Nat) (K : List Int) (hk : Rd w gk ak .u8 K) (bk : Byt K) (kk : K.length ≤ ck) (gn : Nat) (an : Option Addr) (cn : Nat) (M : List Int) (hm : Rd w gn an .u8 M) (bm : Byt M) (km : M.length ≤ cn)
    (gx : Nat) (ax : Option Addr) (cx : Nat) (xs : List Int) (hx : Rd w gx ax .u8 xs) (bx : Byt xs) (lx : xs.length ≤ 1048576) :
    Calls Tryz.prog 25 #[.agg #[.int .i64 23, .int .i64 n, .slice ak K.length ck, .slice an M.length cn], .slice ax xs.length cx] w fun e w' => ∃ v, e = .returned v ∧ RowB w' w.heap.size v (hdL 23 n ++ seA K M (hdL 23 n) xs) ∧ Below w.heap.size w w' := by
  have N : Below w.heap.size w (w.alloc (.cells #[.int .i64 23, .int .i64 n, .slice ak K.length ck, .slice an M.length cn] 63)) := (Below.refl _ _).alloc (Nat.le_refl _) _
  have B0 : RwC (w.alloc (.cells #[.int .i64 23, .int .i64 n, .slice ak K.length ck, .slice an M.length cn] 63)) w.heap.size [.int .i64 23, .int .i64 n, .slice ak K.length ck, .slice an M.length cn] 63 := RwC.new w _ _
  have HB := fun W => hide (headBytes_any W 23 n)
  have hdb : Byt (hdL 23 n) := byt_apd (bigL_byt _ _) (bigL_byt _ _)
  have hdl := hdL_len 23 n
  generalize hdL 23 n = H at *
  have SE := hide fun W (m : Below w.heap.size w W) ge ae ce (he : Rd W ge ae .u8 H) (en : ae = none → ce = 0) => implSeal_any W gk ak ck K (hk.up m) bk kk gn an cn M (hm.up m) bm km ge ae ce H he hdb en gx ax cx xs (hx.up m) bx (by omega)
  have SL : Hid ((seA K M H xs).length ≤ 1048592) := Nat.le_trans (seA_len _ _ _ _) (by omega)
  generalize seA K M H xs = T at *
  have HDL := hide hdl
  clear hk hm hx bk bm bx kk km lx hdl hdb
  go_enter Tryz.func25, Tryz.ntmps25
  go_wp2_with fail
  generalize w.alloc (.cells #[.int .i64 23, .int .i64 n, .slice ak K.length ck, .slice an M.length cn] 63) = wa at *
  refine (HB _).out.mono ?_
  rintro e w1 ⟨v1, rfl, R1, m1⟩
  replace N := nxt N m1
  replace B0 := B0.up m1
  obtain ⟨a1, c1, g1, rfl, D1, z1, -, -⟩ := R1.rd
  have b2 : w1.cell? ⟨w.heap.size, 2, none⟩ = some (.slice ak K.length ck) := B0.cell 2
  have b3 : w1.cell? ⟨w.heap.size, 3, none⟩ = some (.slice an M.length cn) := B0.cell 3
  go_wp2_with fail
  refine (SE.out w1 N g1 a1 c1 D1 z1).mono ?_
  rintro e w2 ⟨⟨v2, rfl, R2⟩, m2⟩
  replace N := nxt N m2
  replace D1 := D1.up m2
  obtain ⟨a2, c2, g2, rfl, D2, z2, -, -⟩ := R2.rd
  clear b2 b3 B0 R1 R2 SE HB m1 m2
  have n3 : Below w2.heap.size w2 (w2.alloc (.cells #[.slice a1 H.length c1, .slice a2 T.length c2] 22)) := (Below.refl _ _).alloc (Nat.le_refl _) _
  have LS := lsts_twoN w2 22 ⟨g1, a1, c1, H⟩ ⟨g2, a2, c2, T⟩
  have CC := concatB_any (w2.alloc (.cells #[.slice a1 H.length c1, .slice a2 T.length c2] 22)) w2.heap.size 2 2 [⟨g1, a1, c1, H⟩, ⟨g2, a2, c2, T⟩] rfl (by omega) LS (by
    intro x hx
    simp only [List.mem_cons, List.not_mem_nil, or_false] at hx
    rcases hx with rfl | rfl
    · exact ⟨D1.up n3, z1⟩
    · exact ⟨D2.up n3, z2⟩) (by rw [cat2N, List.length_append]; have := HDL.out; show 0 < H.length + T.length; omega) (by rw [cat2N, List.length_append]; have := HDL.out; have := SL.out; show H.length + T.length ≤ _; omega)
  rw [cat2N] at CC
  replace CC := hide CC
  replace N := nxt N n3
  clear D1 D2 LS n3
  go_wp2_with fail
  refine CC.out.mono ?_
  rintro e w3 ⟨⟨v3, rfl, R3⟩, m3⟩
  go_wp2
  go_ret
  exact ⟨_, rfl, R3.base N.size, nxt N m3⟩
end Go.Proofs.YtkpomobhjkikeaaGreatDoor
namespace Go.Proofs.YtkpomobhjkikeaaGreatDoor
set_option maxRecDepth 100000
open Go Go.RowKit
theorem xrB_byt {a b : Int} (h1 : 0 ≤ a ∧ a < 256) (h2 : 0 ≤ b ∧ b < 256) : 0 ≤ xrB a b ∧ xrB a b < 256 := xr_byt h1 h2
theorem byt_setN {zs : List Int} (h : Byt zs) (i : Nat) (z : Int) (hz : 0 ≤ z ∧ z < 256) : Byt (zs.set i z) := fun j => by
  by_cases e : i = j
  · subst e
    by_cases l : i < zs.length
    · rw [getD_set_self _ _ _ l]; exact hz
    · rw [List.getD_eq_getElem?_getD, List.getElem?_eq_none (by rw [List.length_set]; omega)]; simp
  · rw [getD_set_ne _ _ _ _ e]; exact h j
theorem nzT_byt {zs B : List Int} (h : Byt zs) (hb : Byt B) : ∀ j, Byt (nzT zs B j)
  | 0 => h
  | j + 1 => byt_setN (nzT_byt h hb j) _ _ (xrB_byt (nzT_byt h hb j _) (hb j))
theorem rnA_byt {V : List Int} (h : Byt V) (q : Int) : Byt (rnA V q) := by
  unfold rnA
  split
  · exact nzT_byt h (bigL_byt _ _) 8
  · intro i; simp
theorem inL_byt (k : Int) {xs : List Int} (h : Byt xs) (pad : Nat) : Byt (inL k xs pad) := byt_apd h (byt_apd (bigL_byt _ _) (byt_rep0 _))
def okI (k : Int) (n : Nat) : Prop := isK k = true ∧ n ≤ 2048 ∧ ¬ (n = 0 ∧ k ≠ 23)
def okP (K V : List Int) (q k : Int) (n : Nat) (pad : Int) : Prop := (K.length = 32 ∧ (rnA V q).length = 12) ∧ okI k n ∧ 0 ≤ pad ∧ pad ≤ 256
def szP (n : Nat) (pad : Int) : Int := (n : Int) + 1 + pad + 16
def prL (K M : List Int) (k : Int) (xs : List Int) (pad : Int) : List Int := hdL 23 (szP xs.length pad) ++ seA K M (hdL 23 (szP xs.length pad)) (inL k xs pad.toNat)
def okD (K V : List Int) (q k : Int) (n : Nat) (pad : Int) : Decidable (okP K V q k n pad) := by unfold okP okI; infer_instance
def prA (K V : List Int) (q k : Int) (xs : List Int) (pad : Int) : List Int := @ite _ (okP K V q k xs.length pad) (okD K V q k xs.length pad) (prL K (rnA V q) k xs pad) []
theorem ifV_ok {a1 a6 a7 : Addr} {k : Int} {n : Nat} (h : okI k n) : ifV a1 a6 a7 k n = .nilIface := by
  unfold ifV
  rw [if_pos h.1, if_neg (by have := h.2.1; omega), if_neg h.2.2]
theorem ifV_bad {a1 a6 a7 : Addr} {k : Int} {n : Nat} (h : ¬ okI k n) : ∃ a', ifV a1 a6 a7 k n = .iface 189 (.pointer (some a')) := by
  unfold ifV
  by_cases hk : isK k = true
  · rw [if_pos hk]
    by_cases hm : 2048 < n
    · rw [if_pos hm]; exact ⟨a6, rfl⟩
    · rw [if_neg hm, if_pos (Classical.byContradiction fun c => h ⟨hk, by omega, c⟩)]
      exact ⟨a7, rfl⟩
  · rw [if_neg hk]; exact ⟨a1, rfl⟩
set_option maxHeartbeats 4000000 in
theorem implProtect_any (w : World) (gk : Nat) (ak : Option Addr) (ck : Nat) (K : List Int) (hk : Rd w gk ak .u8 K) (bk : Byt K) (kk : K.length ≤ ck) (gi : Nat) (ai : Option Addr) (ci : Nat) (V : List Int) (hi : Rd w gi ai .u8 V) (bi : Byt V) (zi : ai = none → ci = 0) (q k : Int)
    (gx : Nat) (ax : Option Addr) (cx : Nat) (xs : List Int) (hx : Rd w gx ax .u8 xs) (bx : Byt xs) (zx : ax = none → cx = 0) (pad : Int) (a1 a2 a3 a6 a7 : Addr) (h1 : Sen w 1 a1) (h2 : Sen w 5 a2) (h3 : Sen w 4 a3) (h6 : Sen w 2 a6) (h7 : Sen w 3 a7) :
    Calls Tryz.prog 9 #[.agg #[.slice ak K.length ck, .slice ai V.length ci], .int .i64 q, .int .i64 k, .slice ax xs.length cx, .int .i64 pad] w fun e w' => ∃ v, e = .returned v ∧ RowB w' w.heap.size v (prA K V q k xs pad) ∧ Below w.heap.size w w' := by
  have n1 : Below w.heap.size w (w.alloc (.cells #[.slice ak K.length ck, .slice ai V.length ci] 28)) := (Below.refl _ _).alloc (Nat.le_refl _) _
  have B0 : RwC (w.alloc (.cells #[.slice ak K.length ck, .slice ai V.length ci] 28)) w.heap.size [.slice ak K.length ck, .slice ai V.length ci] 28 := RwC.new w _ _
  have FA := hide fun W (m : Below w.heap.size w W) => partFault_any W k ax xs.length cx a1 a6 a7 (h1.up m) (h6.up m) (h7.up m)
  have PD := hide fun W (m : Below w.heap.size w W) (hp : 0 ≤ pad ∧ pad ≤ 256) (l : xs.length ≤ 2048) => padded_any W k ⟨gx, ax, cx, xs⟩ (hx.up m) zx (by show xs.length ≤ _; omega) pad.toNat (by omega)
  have NS := hide fun W (m : Below w.heap.size w W) n => newSealed_any W ak K.length ck gi ai ci V (hi.up m) zi q n a2 a3 (h2.up m) (h3.up m)
  have SL := hide fun W (m : Below w.heap.size w W) n gn an cn (hm : Rd W gn an .u8 (rnA V q)) (km : (rnA V q).length ≤ cn) gy ay cy ys (hy : Rd W gy ay .u8 ys) (by' : Byt ys) (ly : ys.length ≤ 1048576) => seal_any W n gk ak ck K (hk.up m) bk kk gn an cn (rnA V q) hm (rnA_byt bi q) km gy ay cy ys hy by' ly
  have IB := hide (inL_byt k bx)
  clear hk bk kk hi bi hx bx zx h1 h2 h3 h6 h7 zi
  by_cases hI : okI k xs.length
  · rw [ifV_ok hI] at FA
    by_cases hp : 0 ≤ pad ∧ pad ≤ 256
    · have q1 : decide (pad < 0) = false := by simp; omega
      have q2 : decide (256 < pad) = false := by simp; omega
      have hq := nil_neq
      have ep : Hid ((pad.toNat : Int) = pad) := by show _ = _; omega
      have HI := hide hI
      have HP := hide hp
      clear hI hp
      go_enter Tryz.func9, Tryz.ntmps9
      go_upto_region 1 with fail
      generalize w.alloc (.cells #[.slice ak K.length ck, .slice ai V.length ci] 28) = wa at *
      have n2 : Below wa.heap.size wa (wa.alloc (.cells #[.int .i64 k, .slice ax xs.length cx] 55)) := (Below.refl _ _).alloc (Nat.le_refl _) _
      have P0 : RwC (wa.alloc (.cells #[.int .i64 k, .slice ax xs.length cx] 55)) wa.heap.size [.int .i64 k, .slice ax xs.length cx] 55 := RwC.new wa _ _
      replace B0 := B0.up n2
      have N := nxt n1 n2
      clear n1 n2
      go_wp2_with fail
      generalize wa.alloc (.cells #[.int .i64 k, .slice ax xs.length cx] 55) = wb at *
      refine (FA.out wb N).mono ?_
      rintro e w1 ⟨rfl, m1⟩
      replace N := nxt N m1
      replace B0 := B0.up m1
      replace P0 := P0.up m1
      have p0 := P0.c0
      have p1 := P0.c1
      have PD1 := PD.out w1 N HP.out HI.out.2.1
      rw [ep.out] at PD1
      replace PD1 := hide PD1
      go_wp2_with fail
      refine PD1.out.mono ?_
      rintro e w2 ⟨v2, rfl, R2, m2⟩
      replace N := nxt N m2
      replace B0 := B0.up m2
      clear p0 p1 P0 PD1 m1 m2 FA PD
      have IL : Hid ((inL k xs pad.toNat).length = xs.length + 1 + pad.toNat) := inL_len k xs pad.toNat
      have IBy := hide (IB.out pad.toNat)
      have eA : Hid (prL K (rnA V q) k xs pad = hdL 23 (szP xs.length pad) ++ seA K (rnA V q) (hdL 23 (szP xs.length pad)) (inL k xs pad.toNat)) := rfl
      obtain ⟨a2', c2', g2', ev, D2, z2, -, -⟩ := R2.rd
      subst ev
      have eS : Hid (((inL k xs pad.toNat).length : Int) + 16 = szP xs.length pad) := by
        show _ = _
        unfold szP
        have := IL.out
        have := ep.out
        omega
      obtain ⟨Y, hY⟩ : ∃ Y, Y = inL k xs pad.toNat := ⟨_, rfl⟩
      rw [← hY] at R2 IL IBy eA D2 eS ⊢
      clear hY
      have b0 := B0.c0
      have b1 := B0.c1
      have NS1 := NS.out w2 N ((Y.length : Int) + 16)
      replace NS1 := hide NS1
      have sb : (Y.length : Int) ≤ 10000 := by have := IL.out; have := HI.out.2.1; have := HP.out; omega
      have n3 : ∀ vs : List Value, Below w2.heap.size w2 w2 := fun _ => Below.refl _ _
      clear n3
      go_wp2_with fail
      refine NS1.out.mono ?_
      rintro e w3 ⟨m3, hc⟩
      have N3 := nxt N m3
      have D3 := D2.up m3
      clear b0 b1 B0 NS1 NS sb
      rcases hc with ⟨g1, g2, g3, g4, an, cn, rfl, R3⟩ | ⟨hb, rfl⟩ | ⟨hg, hb, rfl⟩
      · have eP : Hid (prA K V q k xs pad = prL K (rnA V q) k xs pad) := by show _ = _; rw [prA, if_pos ⟨⟨g1, g2⟩, HI.out, HP.out⟩]
        obtain ⟨an', cn', gn, ev, D4, z4, k4, -⟩ := R3.rd
        simp only [Value.slice.injEq] at ev
        obtain ⟨rfl, -, rfl⟩ := ev
        have G := hide (⟨g1, g2, g3, g4⟩ : _ ∧ _ ∧ _ ∧ _)
        clear g1 g2 g3 g4
        obtain ⟨s, hs⟩ : ∃ s, s = (Y.length : Int) + 16 := ⟨_, rfl⟩
        rw [← hs] at eS ⊢
        clear hs
        have n4 : Below w3.heap.size w3 (w3.alloc (.cells #[.int .i64 23, .int .i64 s, .slice ak K.length ck, .slice an (rnA V q).length cn] 63)) := (Below.refl _ _).alloc (Nat.le_refl _) _
        have S0 : RwC (w3.alloc (.cells #[.int .i64 23, .int .i64 s, .slice ak K.length ck, .slice an (rnA V q).length cn] 63)) w3.heap.size [.int .i64 23, .int .i64 s, .slice ak K.length ck, .slice an (rnA V q).length cn] 63 := RwC.new w3 _ _
        have N4 := nxt N3 n4
        have SL4 := hide (SL.out _ N4 s gn an cn (D4.up n4) k4 g2' a2' c2' Y (D3.up n4) IBy.out (by have := IL.out; have := HI.out.2.1; have := HP.out; omega))
        rw [eS.out] at SL4
        clear D3 D4 R3 R2 D2 SL n4
        have s0 := S0.c0
        have s1 := S0.c1
        have s2 := S0.c2
        have s3 : (w3.alloc (.cells #[.int .i64 23, .int .i64 s, .slice ak K.length ck, .slice an (rnA V q).length cn] 63)).cell? ⟨w3.heap.size, 3, none⟩ = some (.slice an (rnA V q).length cn) := S0.cell 3
        rw [eS.out] at *
        go_wp2_with fail
        refine SL4.out.mono ?_
        rintro e w5 ⟨v5, rfl, R5, m5⟩
        go_wp2
        go_ret
        exact ⟨_, rfl, by rw [eP.out, eA.out]; exact R5.base N4.size, nxt N4 m5⟩
      · have eP : Hid (prA K V q k xs pad = []) := by show _ = _; rw [prA, if_neg (fun h => hb h.1)]
        have he := er_neq a3
        have n4 : Below w3.heap.size w3 (w3.alloc (.cells #[.int .i64 0, .int .i64 0, .slice none 0 0, .slice none 0 0] 63)) := (Below.refl _ _).alloc (Nat.le_refl _) _
        clear D3 R2 D2 SL hb
        unfold erV
        go_wp2
        go_ret
        exact ⟨_, rfl, by rw [eP.out]; exact RowB.nilN _ _, nxt N3 n4⟩
      · exfalso
        have := IL.out
        have := HI.out.2.1
        have := HP.out
        omega
    · have eP : Hid (prA K V q k xs pad = []) := by show _ = _; rw [prA, if_neg (fun h => hp h.2.2)]
      have hq := nil_neq
      clear PD NS SL IB
      rcases (by omega : pad < 0 ∨ 256 < pad) with h | h
      · have q1 : decide (pad < 0) = true := by simpa using h
        clear hp h hI
        go_enter Tryz.func9, Tryz.ntmps9
        go_upto_region 1 with fail
        generalize w.alloc (.cells #[.slice ak K.length ck, .slice ai V.length ci] 28) = wa at *
        have n2 : Below wa.heap.size wa (wa.alloc (.cells #[.int .i64 k, .slice ax xs.length cx] 55)) := (Below.refl _ _).alloc (Nat.le_refl _) _
        have N := nxt n1 n2
        clear n1 n2 B0
        go_wp2_with fail
        generalize wa.alloc (.cells #[.int .i64 k, .slice ax xs.length cx] 55) = wb at *
        refine (FA.out wb N).mono ?_
        rintro e w1 ⟨rfl, m1⟩
        go_wp2
        go_ret
        exact ⟨_, rfl, by rw [eP.out]; exact RowB.nilN _ _, nxt N m1⟩
      · have q1 : decide (pad < 0) = false := by simp; omega
        have q2 : decide (256 < pad) = true := by simpa using h
        clear hp h hI
        go_enter Tryz.func9, Tryz.ntmps9
        go_upto_region 1 with fail
        generalize w.alloc (.cells #[.slice ak K.length ck, .slice ai V.length ci] 28) = wa at *
        have n2 : Below wa.heap.size wa (wa.alloc (.cells #[.int .i64 k, .slice ax xs.length cx] 55)) := (Below.refl _ _).alloc (Nat.le_refl _) _
        have N := nxt n1 n2
        clear n1 n2 B0
        go_wp2_with fail
        generalize wa.alloc (.cells #[.int .i64 k, .slice ax xs.length cx] 55) = wb at *
        refine (FA.out wb N).mono ?_
        rintro e w1 ⟨rfl, m1⟩
        go_wp2
        go_ret
        exact ⟨_, rfl, by rw [eP.out]; exact RowB.nilN _ _, nxt N m1⟩
  · have eP : Hid (prA K V q k xs pad = []) := by show _ = _; rw [prA, if_neg (fun h => hI h.2.1)]
    obtain ⟨a', e1⟩ := ifV_bad (a1 := a1) (a6 := a6) (a7 := a7) hI
    rw [e1] at FA
    have hq := er_neq a'
    clear PD NS SL IB hI e1
    go_enter Tryz.func9, Tryz.ntmps9
    go_upto_region 1 with fail
    generalize w.alloc (.cells #[.slice ak K.length ck, .slice ai V.length ci] 28) = wa at *
    have n2 : Below wa.heap.size wa (wa.alloc (.cells #[.int .i64 k, .slice ax xs.length cx] 55)) := (Below.refl _ _).alloc (Nat.le_refl _) _
    have N := nxt n1 n2
    clear n1 n2 B0
    go_wp2_with fail
    generalize wa.alloc (.cells #[.int .i64 k, .slice ax xs.length cx] 55) = wb at *
    refine (FA.out wb N).mono ?_
    rintro e w1 ⟨rfl, m1⟩
    go_wp2
    go_ret
    exact ⟨_, rfl, by rw [eP.out]; exact RowB.nilN _ _, nxt N m1⟩
end Go.Proofs.YtkpomobhjkikeaaGreatDoor
namespace Go.Proofs.YtkpomobhjkikeaaGreatDoor
set_option maxRecDepth 100000
open Go Go.RowKit
def tz (xs : List Int) : Nat → Nat
  | 0 => 0
  | n + 1 => if xs.getD n 0 = 0 then tz xs n else n + 1
theorem tz_le (xs : List Int) : ∀ n, tz xs n ≤ n
  | 0 => Nat.le_refl _
  | n + 1 => by
    rw [tz]
    split
    · exact Nat.le_succ_of_le (tz_le xs n)
    · exact Nat.le_refl _
set_option maxHeartbeats 1000000 in
theorem trimByte_any (w : World) (g : Nat) (a : Option Addr) (c : Nat) (xs : List Int) (hr : Rd w g a .u8 xs) (hc : xs.length ≤ c) (hn : xs.length ≤ 4194304) :
    Calls Tryz.prog 91 #[.slice a xs.length c, .int .u8 0] w fun e w' => e = .returned (.slice a (tz xs xs.length) c) ∧ w' = w := by
  obtain ⟨N, hN⟩ : ∃ N, N = xs.length := ⟨_, rfl⟩
  rw [← hN] at hc hn ⊢
  have HN := hide hN
  clear hN
  go_enter Tryz.func91, Tryz.ntmps91
  go_wp2
  go_loopw [0] (fun v wr => ∃ m : Nat, m ≤ N ∧ v = .slice a m c ∧ Hid (tz xs m = tz xs N) ∧ wr = w) (fun v _ => (match v with | .slice _ m _ => m | _ => 0))
  case atStart => exact ⟨N, Nat.le_refl _, rfl, rfl, rfl⟩
  case round =>
    obtain ⟨m, hm, rfl, ht, rfl⟩ := hrel
    by_cases h0 : 0 < m
    · obtain ⟨off, ha, hcell⟩ := hr (by rw [← HN.out]; omega)
      subst ha
      obtain ⟨k, rfl⟩ : ∃ k, m = k + 1 := ⟨m - 1, by omega⟩
      have hc1 := hcell k (by rw [← HN.out]; omega)
      have kb : (k : Int) ≤ 4194304 := by omega
      have q0 : (0 : Int) < (k : Int) + 1 := by omega
      have k1 : (k : Int) < (k : Int) + 1 := by omega
      have k2 : (k : Int) ≤ (c : Int) := by omega
      have k3 : (0 : Int) ≤ (k : Int) := by omega
      by_cases hz : xs.getD k 0 = 0
      · have ht' : Hid (tz xs k = tz xs N) := by
          show _ = _
          rw [← ht.out, tz, if_pos hz]
        rw [hz] at hc1
        clear hz ht hcell
        go_wp2
        go_roundw
        case rel => exact ⟨k, by omega, rfl, ht', trivial⟩
        case measure => simp
      · have ht' : Hid (tz xs N = k + 1) := by
          show _ = _
          rw [← ht.out, tz, if_neg hz]
        obtain ⟨x, hx⟩ : ∃ x, x = xs.getD k 0 := ⟨_, rfl⟩
        rw [← hx] at hc1 hz
        have hz1 : (x == 0) = false := by simp [hz]
        have hz2 : decide (x = 0) = false := by simp [hz]
        clear hx ht hcell
        go_wp2
        go_ret
        exact ⟨by rw [ht'.out]; rfl, rfl⟩
    · obtain rfl : m = 0 := by omega
      have ht' : Hid (tz xs N = 0) := by show _ = _; rw [← ht.out]; rfl
      clear ht
      go_wp2
      go_ret
      exact ⟨by rw [ht'.out]; rfl, rfl⟩
set_option maxHeartbeats 1000000 in
theorem trimRight_any (w : World) (g : Nat) (a : Option Addr) (c : Nat) (xs : List Int) (hr : Rd w g a .u8 xs) (hc : xs.length ≤ c) (hn : xs.length ≤ 4194304) :
    Calls Tryz.prog 65 #[.slice a xs.length c, .string ⟨#[0]⟩] w fun e w' => e = .returned (.slice a (tz xs xs.length) c) ∧ w' = w := by
  have TB := hide (trimByte_any w g a c xs hr hc hn)
  by_cases h0 : xs.length = 0
  · have hl : Hid (tz xs xs.length = 0) := by show _ = _; rw [h0]; rfl
    rw [h0] at hl ⊢
    clear TB hr hc h0 hn
    go_enter Tryz.func65, Tryz.ntmps65
    go_wp2
    go_ret
    exact ⟨by rw [hl.out]; rfl, rfl⟩
  · have q0 : ((xs.length : Int) == 0) = false := beq_eq_false_iff_ne.2 (by omega)
    have q1 : decide ((xs.length : Int) = 0) = false := decide_eq_false (by omega)
    clear hr hc h0 hn
    go_enter Tryz.func65, Tryz.ntmps65
    go_wp2_with fail
    refine TB.out.mono ?_
    rintro e w' ⟨rfl, rfl⟩
    go_wp2
    go_ret
    exact ⟨rfl, rfl⟩
end Go.Proofs.YtkpomobhjkikeaaGreatDoor
namespace Go.Proofs.YtkpomobhjkikeaaGreatDoor
set_option maxRecDepth 100000
open Go Go.RowKit
def inK (xs : List Int) : Int := xs.getD (tz xs xs.length - 1) 0
def inD (xs : List Int) : List Int := xs.take (tz xs xs.length - 1)
def riE (a1 a5 a6 a7 : Addr) (xs : List Int) : Option Addr :=
  if tz xs xs.length = 0 then some a5 else if isK (inK xs) = true then (if 2048 < (inD xs).length then some a6 else if (inD xs).length = 0 ∧ inK xs ≠ 23 then some a7 else none) else some a1
theorem ifV_E (a1 a6 a7 : Addr) (k : Int) (n : Nat) : ifV a1 a6 a7 k n = (if isK k = true then (if 2048 < n then some a6 else if n = 0 ∧ k ≠ 23 then some a7 else none) else some a1).elim .nilIface erV := by
  unfold ifV
  split
  · split
    · rfl
    · split
      · rfl
      · rfl
  · rfl
theorem iIp : (Tryz.prog.info? 55).map (·.size) = some 2 := by kernel_rfl
theorem rowIp : ∃ d, Tryz.prog.underlying 55 = some d ∧ d.isRow = true := ⟨_, Tryz.underlying55, rfl⟩
theorem oneIp (k : Int) (a : Option Addr) (n c : Nat) : ([.int .i64 k, .slice a n c] : List Value).toArray.all (·.oneCell') = true := all_oneCell_toArray fun v hv => by
  simp only [List.mem_cons, List.not_mem_nil, or_false] at hv
  rcases hv with rfl | rfl
  all_goals rfl
def Kdf (b : Nat) (k : Int) (D : List Int) : Fact := ⟨fun v w => ∃ a c, v = .agg #[.int .i64 k, .slice a D.length c] ∧ RowB w b (.slice a D.length c) D, fun n h => by
  obtain ⟨a, c, e, r⟩ := h
  exact ⟨a, c, e, r.up n⟩⟩
theorem step_newIp {ops : Array Oper} {Q : Exit → Act → World → Prop} {md : Region.Mode} {F : Nat → Fact} {a0 : Act} {w0 : World} {i : Nat} {o : Oper} (hi : ops[i]? = some o) (hop : o.op = .alloc 55) (hF : F i = NBt w0.heap.size 55 [.int .i64 0, .slice none 0 0]) : StepOk Tryz.prog md ops Q F a0 w0 i := by
  refine step_grow hi fun a w _ hw _ => ⟨.pointer (some ⟨w.heap.size, 0, none⟩), w.alloc (.cells #[.int .i64 0, .slice none 0 0] 55), ?_, (Below.refl _ _).alloc (Nat.le_refl _) _, ?_⟩
  · simp only [execOp, hop]
    kernel_rfl
  · rw [hF]
    exact ⟨_, rfl, hw.size, RwC.new w _ _⟩
set_option maxHeartbeats 4000000 in
theorem readInside_any (w : World) (g : Nat) (a : Option Addr) (c : Nat) (xs : List Int) (hr : Rd w g a .u8 xs) (hb : Byt xs) (hc : xs.length ≤ c) (hn : xs.length ≤ 1048576) (a1 a5 a6 a7 : Addr) (h1 : Sen w 1 a1) (h5 : Sen w 7 a5) (h6 : Sen w 2 a6) (h7 : Sen w 3 a7) :
    Calls Tryz.prog 47 #[.slice a xs.length c] w fun e w' => Below w.heap.size w w' ∧
      ((riE a1 a5 a6 a7 xs = none ∧ ∃ ad cd, e = .returned (.tuple #[.agg #[.int .i64 (inK xs), .slice ad (inD xs).length cd], .nilIface]) ∧ RowB w' w.heap.size (.slice ad (inD xs).length cd) (inD xs))
       ∨ (∃ x, riE a1 a5 a6 a7 xs = some x ∧ e = .returned (.tuple #[.agg #[.int .i64 0, .slice none 0 0], erV x]))) := by
  obtain ⟨d1, hd1, hrow1⟩ := rowIp
  have TR := hide fun W (m : Below w.heap.size w W) => trimRight_any W g a c xs (hr.up m) hc (by omega)
  have n0 : Below w.heap.size w (w.alloc (.cells #[.int .i64 0, .slice none 0 0] 55)) := (Below.refl _ _).alloc (Nat.le_refl _) _
  have Z0 : RwC (w.alloc (.cells #[.int .i64 0, .slice none 0 0] 55)) w.heap.size [.int .i64 0, .slice none 0 0] 55 := RwC.new w _ _
  have r1 := hr.up n0
  have c5 := (h5.up n0).c
  have FA := hide fun W (m : Below w.heap.size w W) ad cd => partFault_any W (inK xs) ad (inD xs).length cd a1 a6 a7 (h1.up m) (h6.up m) (h7.up m)
  have s5 := h5.c
  have tl := tz_le xs xs.length
  obtain ⟨M, hM⟩ : ∃ M, M = tz xs xs.length := ⟨_, rfl⟩
  have eR : Hid (riE a1 a5 a6 a7 xs = if M = 0 then some a5 else if isK (inK xs) = true then (if 2048 < (inD xs).length then some a6 else if (inD xs).length = 0 ∧ inK xs ≠ 23 then some a7 else none) else some a1) := by show _ = _; rw [hM]; rfl
  have eK : Hid (inK xs = xs.getD (M - 1) 0) := by show _ = _; rw [hM]; rfl
  have eD : Hid (inD xs = xs.take (M - 1)) := by show _ = _; rw [hM]; rfl
  rw [← hM] at TR tl
  clear hM hr
  by_cases hm : M = 0
  · subst hm
    unfold erV at c5
    have ZF : RwC (((w.alloc (.cells #[.int .i64 0, .slice none 0 0] 55)).setCell ⟨w.heap.size, 0, none⟩ (.int .i64 0)).setCell ⟨w.heap.size, 1, none⟩ (.slice none 0 0)) w.heap.size [.int .i64 0, .slice none 0 0] 55 := (Z0.set 0 _).set 1 _
    have OF : Only w.heap.size (w.alloc (.cells #[.int .i64 0, .slice none 0 0] 55)) (((w.alloc (.cells #[.int .i64 0, .slice none 0 0] 55)).setCell ⟨w.heap.size, 0, none⟩ (.int .i64 0)).setCell ⟨w.heap.size, 1, none⟩ (.slice none 0 0)) := (Only.setCell _ w.heap.size 0 _).trans (Only.setCell _ w.heap.size 1 _)
    have kg : (((w.alloc (.cells #[.int .i64 0, .slice none 0 0] 55)).setCell ⟨w.heap.size, 0, none⟩ (.int .i64 0)).setCell ⟨w.heap.size, 1, none⟩ (.slice none 0 0)).cell? ⟨7, 0, none⟩ = some (.iface 189 (.pointer (some a5))) := (World.cell?_of_block (a := ⟨7, 0, none⟩) (OF.block 7 (by have : 7 < w.heap.size := block_lt_of_cell s5; omega))).trans c5
    have RR := ZF.rangeG
    have NF := n0.trans (OF.below (B := w.heap.size) (Nat.le_refl _))
    have x0 := Z0.c0
    have x1 := Z0.c1
    have f0 := Z0.free 0
    have f1 := Z0.free 1
    clear OF ZF
    go_enter Tryz.func47, Tryz.ntmps47
    go_wp2_with fail
    generalize w.alloc (.cells #[.int .i64 0, .slice none 0 0] 55) = wa at *
    refine (TR.out wa n0).mono ?_
    rintro e w1 ⟨rfl, hw⟩
    have hw := hw.symm
    subst hw
    go_wp2
    go_region
    all_goals
      go_wp2
      exact bodyPost_ret (v := .tuple #[.agg #[.int .i64 0, .slice none 0 0], erV a5]) (results_twoN Tryz.results47 _ _ w.heap.size [.int .i64 0, .slice none 0 0] d1 (erV a5) rfl rfl RR hd1 hrow1 iIp) rfl ⟨NF.drew, .inr ⟨a5, by rw [eR.out, if_pos trivial], rfl⟩⟩
  · obtain ⟨m, rfl⟩ : ∃ m, M = m + 1 := ⟨M - 1, by omega⟩
    rw [Nat.add_sub_cancel] at eK eD
    obtain ⟨off, ha, hcell⟩ := r1 (by omega)
    subst ha
    have dl : Hid ((inD xs).length = m) := by show _ = _; rw [eD.out, List.length_take]; omega
    have hk8 : 0 ≤ inK xs ∧ inK xs < 256 := by rw [eK.out]; exact hb m
    have kc := hcell m (by omega)
    rw [← eK.out] at kc
    have RD : Rd (w.alloc (.cells #[.int .i64 0, .slice none 0 0] 55)) g (some ⟨g, off, none⟩) .u8 (inD xs) := fun h => ⟨off, rfl, fun i hi => by
      rw [hcell i (by rw [dl.out] at hi; omega), eD.out, List.getD_eq_getElem?_getD, List.getD_eq_getElem?_getD, List.getElem?_take, if_pos (by rw [dl.out] at hi; exact hi)]⟩
    obtain ⟨K, hK⟩ : ∃ K, K = inK xs := ⟨_, rfl⟩
    obtain ⟨D, hD⟩ : ∃ D, D = inD xs := ⟨_, rfl⟩
    rw [← hK] at FA kc hk8 ⊢
    rw [← hD] at FA dl RD ⊢
    rw [← hK, ← hD] at eR
    have er1 := er_neq
    have er2 := nil_neq
    have mb : (m : Int) ≤ 1048576 := by omega
    have m0 : ((m : Int) + 1 == 0) = false := beq_eq_false_iff_ne.2 (by omega)
    have m0' : decide ((m : Int) + 1 = 0) = false := decide_eq_false (by omega)
    clear hK hD hcell eK eD c5 h1 h5 h6 h7 hb
    go_enter Tryz.func47, Tryz.ntmps47
    go_wp2_with fail
    generalize w.alloc (.cells #[.int .i64 0, .slice none 0 0] 55) = wa at *
    refine (TR.out wa n0).mono ?_
    rintro e w1 ⟨rfl, hw⟩
    have hw := hw.symm
    subst hw
    clear TR
    go_upto_region 5 with fail
    have gl := block_lt_of_cell kc
    refine region_newT 11 10 9 6 27 _ (fun i => [Fact.eq (.slice (some ⟨g, off, none⟩) (m + 1) c), Fact.eq (.int .i64 (m : Int)), Fact.eq (.pointer (some ⟨g, off + m, none⟩)), Fact.eq (.int .u8 K), Fact.eq (.int .i64 K), Fact.eq (.slice (some ⟨g, off, none⟩) (m + 1) c), Fact.eq (.int .i64 (m : Int)), Fact.eq (.slice (some ⟨g, off, none⟩) m c), Rbg wa.heap.size D, Kdf wa.heap.size K D, NBt wa.heap.size 55 [.int .i64 0, .slice none 0 0]].getD i Fact.no) 55 [.int .i64 0, .slice none 0 0] (Kdf wa.heap.size K D) (by kernel_rfl) (by kernel_rfl) rfl rfl rfl iIp (by kernel_rfl) rfl (by kernel_rfl) rfl ?_ ?_ ?_
    · rintro v W ⟨ad, cd, rfl, -⟩
      exact ⟨[.int .i64 K, .slice ad D.length cd], rfl, rfl, oneIp _ _ _ _⟩
    · intro i hi
      obtain rfl | rfl | rfl | rfl | rfl | rfl | rfl | rfl | rfl | rfl | rfl : i = 0 ∨ i = 1 ∨ i = 2 ∨ i = 3 ∨ i = 4 ∨ i = 5 ∨ i = 6 ∨ i = 7 ∨ i = 8 ∨ i = 9 ∨ i = 10 := by omega
      · refine step_pure rfl fun A ww hb hw hf => ?_
        have e0 : A.tmps[4]?.getD undef = .slice (some ⟨g, off, none⟩) (m + 1) c := gdv (hb.2.2 4 (by kernel_rfl))
        exact ⟨_, by simp [go_sem, e0], rfl⟩
      · refine step_pure rfl fun A ww hb hw hf => ?_
        have e0 : A.tmps[5]?.getD undef = .int .i64 (m : Int) := gdv (hb.2.2 5 (by kernel_rfl))
        exact ⟨_, by simp [go_sem, e0], rfl⟩
      · refine step_pure rfl fun A ww hb hw hf => ?_
        have e0 : A.tmps[18]?.getD undef = .slice (some ⟨g, off, none⟩) (m + 1) c := gdv (hf 0 18 (by kernel_rfl))
        have e1 : A.tmps[19]?.getD undef = .int .i64 (m : Int) := gdv (hf 1 19 (by kernel_rfl))
        have m1 : (m : Int) < (m : Int) + 1 := by omega
        exact ⟨.pointer (some ⟨g, off + m, none⟩), by simp [go_sem, e0, e1]; intro h; omega, rfl⟩
      · refine step_pure rfl fun A ww hb hw hf => ?_
        have e0 : A.tmps[20]?.getD undef = .pointer (some ⟨g, off + m, none⟩) := gdv (hf 2 20 (by kernel_rfl))
        have hc : ww.cell? ⟨g, off + m, none⟩ = some (.int .u8 K) := (World.cell?_of_block (a := ⟨g, off + m, none⟩) (hw.block g gl)).trans kc
        exact ⟨.int .u8 K, by simp [go_sem, e0, hc], rfl⟩
      · refine step_pure rfl fun A ww hb hw hf => ?_
        have e0 : A.tmps[21]?.getD undef = .int .u8 K := gdv (hf 3 21 (by kernel_rfl))
        have hwr : IntKind.i64.wrap K = K := by rw [IntKind.wrap_i64]; omega
        exact ⟨.int .i64 K, by simp [go_sem, e0, hwr], rfl⟩
      · refine step_pure rfl fun A ww hb hw hf => ?_
        have e0 : A.tmps[4]?.getD undef = .slice (some ⟨g, off, none⟩) (m + 1) c := gdv (hb.2.2 4 (by kernel_rfl))
        exact ⟨_, by simp [go_sem, e0], rfl⟩
      · refine step_pure rfl fun A ww hb hw hf => ?_
        have e0 : A.tmps[5]?.getD undef = .int .i64 (m : Int) := gdv (hb.2.2 5 (by kernel_rfl))
        exact ⟨_, by simp [go_sem, e0], rfl⟩
      · refine step_pure rfl fun A ww hb hw hf => ?_
        have e0 : A.tmps[23]?.getD undef = .slice (some ⟨g, off, none⟩) (m + 1) c := gdv (hf 5 23 (by kernel_rfl))
        have e1 : A.tmps[24]?.getD undef = .int .i64 (m : Int) := gdv (hf 6 24 (by kernel_rfl))
        exact ⟨.slice (some ⟨g, off, none⟩) m c, by simp [go_sem, e0, e1]; intro h; omega, rfl⟩
      · refine step_callv rfl 21 _ _ rfl (by kernel_rfl) fun A ww hb hw hf => ?_
        have e6 : A.tmps.getD 25 undef = .slice (some ⟨g, off, none⟩) m c := hf 7 25 (by kernel_rfl)
        show Calls Tryz.prog 21 #[A.tmps.getD 25 undef] ww _
        rw [e6]
        have CL := cloneR_any ww g (some ⟨g, off, none⟩) c D (RD.up hw) (by simp) (by rw [dl.out]; omega)
        rw [dl.out] at CL
        refine CL.mono ?_
        rintro r w' ⟨x, rfl, R, n⟩
        exact ⟨x, rfl, n, R.base hw.size⟩
      · refine step_pure rfl fun A ww hb hw hf => ?_
        have e0 : A.tmps[22]?.getD undef = .int .i64 K := gdv (hf 4 22 (by kernel_rfl))
        have r8 : RowB ww wa.heap.size (A.tmps.getD 26 undef) D := hf 8 26 (by kernel_rfl)
        obtain ⟨ad, cd, gd, ev, -⟩ := r8.own
        rw [ev] at r8
        have e1 : A.tmps[26]?.getD undef = .slice ad D.length cd := gdv ev
        refine ⟨.agg #[.int .i64 K, .slice ad D.length cd], ?_, ad, cd, rfl, r8⟩
        simp [go_sem, e0, e1]
      · exact step_newIp rfl rfl rfl
    · intro vs W W5 q cs vq hq hw rq hG OQ rc hW
      obtain ⟨ad, cd, ec, rd⟩ := hG
      simp only [Value.agg.injEq, Array.mk.injEq] at ec
      subst ec
      have R5 := rd.onlyT OQ rq (by decide)
      have wl : w.heap.size < wa.heap.size := Z0.lt
      have Z5 := (Z0.up hw).onl OQ (by omega)
      have N5 := nxt n0 hW
      simp only [puts, vq, Act.put, List.setIfInBounds_toArray, List.set_cons_succ, List.set_cons_zero]
      have qc0 := rc.c0
      have qc1 := rc.c1
      generalize vs 18 = y18 at *
      generalize vs 19 = y19 at *
      generalize vs 20 = y20 at *
      generalize vs 21 = y21 at *
      generalize vs 22 = y22 at *
      generalize vs 23 = y23 at *
      generalize vs 24 = y24 at *
      generalize vs 25 = y25 at *
      generalize vs 26 = y26 at *
      generalize vs 27 = y27 at *
      have FA5 := FA.out W5 N5 ad cd
      rw [ifV_E] at FA5
      obtain ⟨E, hE⟩ : ∃ E, E = (if isK K = true then (if 2048 < D.length then some a6 else if D.length = 0 ∧ K ≠ 23 then some a7 else none) else some a1) := ⟨_, rfl⟩
      have eR3 : Hid (riE a1 a5 a6 a7 xs = E) := by show _ = _; rw [eR.out, if_neg (by omega), hE]
      rw [← hE] at FA5
      replace FA5 := hide FA5
      clear rd OQ rq hw Z0 RD r1 kc FA eR hE vq
      cases E with
      | none =>
        replace FA5 : Hid (Calls Tryz.prog 22 #[.agg #[.int .i64 K, .slice ad D.length cd]] W5 fun e w' => e = .returned .nilIface ∧ Below W5.heap.size W5 w') := FA5
        go_wp2_with fail
        refine FA5.out.mono ?_
        rintro e W6 ⟨rfl, m6⟩
        have N6 := nxt N5 m6
        have Z6 := Z5.up m6
        have R6 := R5.up m6
        have C6 := rc.up m6
        clear FA5 qc0 qc1 rc R5 Z5 N5 m6 hW
        have x0 := Z6.c0
        have x1 := Z6.c1
        have f0 := Z6.free 0
        have f1 := Z6.free 1
        have y0 := C6.c0
        have y1 := C6.c1
        have hqw : q ≠ w.heap.size := by omega
        have ZF : RwC ((W6.setCell ⟨w.heap.size, 0, none⟩ (.int .i64 K)).setCell ⟨w.heap.size, 1, none⟩ (.slice ad D.length cd)) w.heap.size [.int .i64 K, .slice ad D.length cd] 55 := (Z6.set 0 _).set 1 _
        have OF : Only w.heap.size W6 ((W6.setCell ⟨w.heap.size, 0, none⟩ (.int .i64 K)).setCell ⟨w.heap.size, 1, none⟩ (.slice ad D.length cd)) := (Only.setCell _ w.heap.size 0 _).trans (Only.setCell _ w.heap.size 1 _)
        have RR := ZF.rangeG
        have NF := N6.trans (OF.below (B := w.heap.size) (Nat.le_refl _))
        have R7 := R6.only OF (by omega)
        clear OF ZF
        go_wp2
        exact bodyPost_ret (v := .tuple #[.agg #[.int .i64 K, .slice ad D.length cd], .nilIface]) (results_twoN Tryz.results47 _ _ w.heap.size [.int .i64 K, .slice ad D.length cd] d1 .nilIface rfl rfl RR hd1 hrow1 iIp) rfl ⟨NF, .inl ⟨eR3.out, ad, cd, rfl, R7.base (by omega)⟩⟩
      | some x =>
        replace FA5 : Hid (Calls Tryz.prog 22 #[.agg #[.int .i64 K, .slice ad D.length cd]] W5 fun e w' => e = .returned (.iface 189 (.pointer (some x))) ∧ Below W5.heap.size W5 w') := FA5
        go_wp2_with fail
        refine FA5.out.mono ?_
        rintro e W6 ⟨rfl, m6⟩
        have N6 := nxt N5 m6
        have Z6 := Z5.up m6
        have R6 := R5.up m6
        have C6 := rc.up m6
        clear FA5 qc0 qc1 rc R5 Z5 N5 m6 hW
        have x0 := Z6.c0
        have x1 := Z6.c1
        have f0 := Z6.free 0
        have f1 := Z6.free 1
        have y0 := C6.c0
        have y1 := C6.c1
        have hqw : q ≠ w.heap.size := by omega
        have ZF : RwC ((W6.setCell ⟨w.heap.size, 0, none⟩ (.int .i64 0)).setCell ⟨w.heap.size, 1, none⟩ (.slice none 0 0)) w.heap.size [.int .i64 0, .slice none 0 0] 55 := (Z6.set 0 _).set 1 _
        have OF : Only w.heap.size W6 ((W6.setCell ⟨w.heap.size, 0, none⟩ (.int .i64 0)).setCell ⟨w.heap.size, 1, none⟩ (.slice none 0 0)) := (Only.setCell _ w.heap.size 0 _).trans (Only.setCell _ w.heap.size 1 _)
        have RR := ZF.rangeG
        have NF := N6.trans (OF.below (B := w.heap.size) (Nat.le_refl _))
        clear OF ZF
        go_wp2
        exact bodyPost_ret (v := .tuple #[.agg #[.int .i64 0, .slice none 0 0], erV x]) (results_twoN Tryz.results47 _ _ w.heap.size [.int .i64 0, .slice none 0 0] d1 (erV x) rfl rfl RR hd1 hrow1 iIp) rfl ⟨NF, .inr ⟨x, eR3.out, rfl⟩⟩
end Go.Proofs.YtkpomobhjkikeaaGreatDoor
namespace Go.Proofs.YtkpomobhjkikeaaGreatDoor
set_option maxRecDepth 100000
open Go Go.RowKit
theorem cells8 : Tryz.prog.cellsOf 5 = 1 := by kernel_rfl
theorem part8 (w : World) (xs : List Int) (i : Nat) (h : i < xs.length) : (part 5 (xs.map (Value.int .u8)).toArray (i * 1)).run Tryz.prog w = .ok (.int .u8 (xs.getD i 0)) w := by
  have u3 := Tryz.underlying5
  have a3' := Tryz.isAgg5
  have z3 := Tryz.sizeOf5
  rw [Nat.mul_one]
  go_simp
theorem eqItems8 (w : World) (d : Nat) (xs ys : List Int) : ∀ is : List Nat, (∀ i ∈ is, i < xs.length ∧ i < ys.length) →
    (Op.eqItems (d + 1) 5 1 (xs.map (Value.int .u8)).toArray (ys.map (Value.int .u8)).toArray is).run Tryz.prog w = .ok (is.all fun i => xs.getD i 0 == ys.getD i 0) w
  | [], _ => by simp [Op.eqItems]
  | i :: is, h => by
    have h1 := h i (by simp)
    have ih := eqItems8 w d xs ys is (fun j hj => h j (by simp [hj]))
    simp only [Op.eqItems, Sem.run_bind, part8 w xs i h1.1, part8 w ys i h1.2, Result.andThen_ok, run_equalIn_int w d 5 .u8 .u8 _ _ Tryz.underlying5]
    rw [List.all_cons]
    cases (xs.getD i 0 == ys.getD i 0)
    · simp only [Bool.not_false, if_true, Sem.run_pure, Bool.false_and]
    · simp only [Bool.not_true, Bool.false_eq_true, if_false, Bool.true_and]
      exact ih
set_option maxRecDepth 100000 in
theorem eq16 (w : World) (xs ys : List Int) (hx : xs.length = 16) (hy : ys.length = 16) :
    (Op.equalIn 10000 104 (.agg (xs.map (Value.int .u8)).toArray) (.agg (ys.map (Value.int .u8)).toArray)).run Tryz.prog w = .ok (decide (xs = ys)) w := by
  obtain ⟨i0, hi, _⟩ := info_parts Tryz.info5
  rw [show (10000 : Nat) = 9999 + 1 from rfl, run_equalIn_array w 9999 _ _ undP16 hi, cells8, show (9999 : Nat) = 9998 + 1 from rfl, eqItems8 w 9998 xs ys (List.range 16) (fun i hi => by rw [hx, hy]; have := List.mem_range.1 hi; exact ⟨this, this⟩)]
  congr 1
  by_cases e : xs = ys
  · subst e; simp
  · rw [decide_eq_false e]
    cases hq : (List.range 16).all fun i => xs.getD i 0 == ys.getD i 0
    · rfl
    · exfalso
      rw [List.all_eq_true] at hq
      exact e (eq_of_getD (by rw [hx, hy]) (fun i hi => by have := hq i (List.mem_range.2 (by omega)); simpa using this))
end Go.Proofs.YtkpomobhjkikeaaGreatDoor
namespace Go.Proofs.YtkpomobhjkikeaaGreatDoor
set_option maxRecDepth 100000
open Go Go.RowKit
section
variable {P : Program} {ops : Array Oper} {Q : Exit → Act → World → Prop} {a0 : Act}
theorem region_run {id : Nat} {w : World} {draw : Bool} (k : Nat) (o : Oper) (F : Nat → Fact) (hm : P.follows .mixedOrders = true) (hT : textOk .any ops a0.tmps.size k = true) (hk : ops[k]? = some o) (dd : Nat) (hdd : o.dst = some dd) (steps : ∀ i, i < k → StepOk P .any ops Q F a0 w i)
    (fin : ∀ a w', Based ops a0 a → Below w.heap.size w w' → (∀ i o d, i < k → ops[i]? = some o → o.dst = some d → (F i).p (a.tmps.getD d undef) w') →
      ∃ v w'', (execOp a.eval o).run P w' = .ok (.value v) w'' ∧ Q .normal (a.put (some dd) v) w'') : (Code.region id ops draw).wp P Q a0 w := by
  refine region_facts k F hm hT steps fun a w' hb hw hf => ?_
  rw [hk]
  show o.wp P a w' (fun a' w'' => Q .normal a' w'') Q
  obtain ⟨v, w'', hr, hq⟩ := fin a w' hb hw hf
  unfold Oper.wp
  rw [hr]
  rw [← hdd] at hq
  exact hq
theorem region_copy {id : Nat} {w : World} {draw : Bool} (k : Nat) (o : Oper) (F : Nat → Fact) (hm : P.follows .mixedOrders = true) (hT : textOk .any ops a0.tmps.size k = true) (hk : ops[k]? = some o) (dd : Nat) (hdd : o.dst = some dd) (steps : ∀ i, i < k → StepOk P .any ops Q F a0 w i)
    (s x : Operand) (t tn ty : TypeId) (hop : o.op = .call { callee := .builtin .copy, args := #[s, x], argTypes := #[t, tn] }) (hty : o.type = ty)
    (fin : ∀ a w', Based ops a0 a → Below w.heap.size w w' → (∀ i o d, i < k → ops[i]? = some o → o.dst = some d → (F i).p (a.tmps.getD d undef) w') →
      ∃ v w'', (Builtin.copy_ #[t, tn] ty #[a.eval s, a.eval x]).run P w' = .ok v w'' ∧ Q .normal (a.put (some dd) v) w'') : (Code.region id ops draw).wp P Q a0 w := by
  refine region_run k o F hm hT hk dd hdd steps fun a w' hb hw hf => ?_
  obtain ⟨v, w'', hr, hq⟩ := fin a w' hb hw hf
  refine ⟨v, w'', ?_, hq⟩
  unfold execOp
  simp only [hop, hty, resolve, invoke, builtin, Sem.run_bind, Sem.run_pure, Result.andThen_ok, List.map_toArray, List.map_cons, List.map_nil, hr]
end
end Go.Proofs.YtkpomobhjkikeaaGreatDoor
namespace Go.Proofs.YtkpomobhjkikeaaGreatDoor
set_option maxRecDepth 100000
open Go Go.RowKit
def opT (sd : List Int) : List Int := sd.take (sd.length - 16)
def opS (sd : List Int) : List Int := sd.drop (sd.length - 16)
def opB (key non ex sd : List Int) : Bool := fitK key non && (decide (16 ≤ sd.length) && decide (ssB (nsW key non) ex (opT sd) = opS sd))
def opL (key non ex sd : List Int) : List Int := if opB key non ex sd = true then xt key non (opT sd) else []
theorem opL_len (key non ex sd : List Int) : (opL key non ex sd).length ≤ sd.length := by
  unfold opL
  split
  · rw [xt_len, opT, List.length_take]; omega
  · simp
def NewO (B : Nat) (w' : World) (e : Ending) (b : Bool) (ys : List Int) : Prop :=
  ∃ (a : Option Addr) (c g : Nat), e = .returned (.agg #[.bool b, .slice a ys.length c]) ∧ Own w' g a .u8 ys ∧ (a = none → c = 0) ∧ ys.length ≤ c ∧ B ≤ g
theorem newO_bad (w : World) (B : Nat) : NewO B w (.returned (.agg #[.bool false, .slice none 0 0])) false [] := ⟨none, 0, B, rfl, Own.nil _ _ _ _, fun _ => rfl, Nat.le_refl _, Nat.le_refl _⟩
set_option maxRecDepth 100000 in
theorem ne16 (xs ys : List Int) (hx : xs.length = 16) (hy : ys.length = 16) (x y : Nat) (w : World) : (do eqGuard .neq 104 (.tmp x) (.tmp y) (ag .u8 xs) (ag .u8 ys); binOp .neq 104 (ag .u8 xs) (ag .u8 ys) : Sem Value).run Tryz.prog w = .ok (.bool (!decide (xs = ys))) w := by
  have h : (eqGuard .neq 104 (.tmp x) (.tmp y) (ag .u8 xs) (ag .u8 ys)).run Tryz.prog w = .ok () w := by kernel_rfl
  have h2 : (binOp .neq 104 (ag .u8 xs) (ag .u8 ys)).run Tryz.prog w = .ok (.bool (!decide (xs = ys))) w := by
    have k := eq16 w xs ys hx hy
    show (do pure (.bool (!(← Op.equal 104 (ag .u8 xs) (ag .u8 ys)))) : Sem Value).run Tryz.prog w = _
    rw [Sem.run_bind]
    have k' : (Op.equal 104 (ag .u8 xs) (ag .u8 ys)).run Tryz.prog w = _ := k
    rw [k']
    rfl
  rw [Sem.run_bind, h]
  exact h2
theorem Rd.drop {w : World} {g : Nat} {a : Option Addr} {k : IntKind} {xs : List Int} (h : Rd w g a k xs) (n : Nat) (hn : n < xs.length) : ∃ o, a = some ⟨g, o, none⟩ ∧ Rd w g (some ⟨g, o + n, none⟩) k (xs.drop n) := by
  obtain ⟨o, rfl, hc⟩ := h (by omega)
  refine ⟨o, rfl, fun _ => ⟨o + n, rfl, fun i hi => ?_⟩⟩
  rw [List.length_drop] at hi
  rw [Nat.add_assoc, hc (n + i) (by omega), List.getD_eq_getElem?_getD, List.getD_eq_getElem?_getD, List.getElem?_drop]
theorem Rd.take {w : World} {g : Nat} {a : Option Addr} {k : IntKind} {xs : List Int} (h : Rd w g a k xs) (n : Nat) : Rd w g a k (xs.take n) := fun h0 => by
  rw [List.length_take] at h0
  obtain ⟨o, e, hc⟩ := h (by omega)
  refine ⟨o, e, fun i hi => ?_⟩
  rw [List.length_take] at hi
  rw [hc i (by omega), List.getD_eq_getElem?_getD, List.getD_eq_getElem?_getD, List.getElem?_take, if_pos (by omega)]
theorem blk_two {w : World} {g : Nat} {t : TypeId} {b : Bool} {v : Value} (h : w.heap[g]? = some (.cells #[.bool b, v] t (0, 0))) : w.cell? ⟨g, 0, none⟩ = some (.bool b) ∧ w.cell? ⟨g, 1, none⟩ = some v ∧ w.frozen? ⟨g, 0, none⟩ = false ∧ w.frozen? ⟨g, 1, none⟩ = false :=
  ⟨by rw [cell_of_row w g 0 _ t (0, 0) h]; rfl, by rw [cell_of_row w g 1 _ t (0, 0) h]; rfl, frozen_of_row w g 0 _ t h, frozen_of_row w g 1 _ t h⟩
set_option maxRecDepth 100000 in
set_option maxHeartbeats 16000000 in
theorem implOpen_any (w : World) (g : Nat) (a : Option Addr) (c : Nat) (key : List Int) (hr : Rd w g a .u8 key) (hb : Byt key) (hc : key.length ≤ c) (g' : Nat) (a' : Option Addr) (c' : Nat) (non : List Int) (hr' : Rd w g' a' .u8 non) (hb' : Byt non) (hc' : non.length ≤ c')
    (ge : Nat) (ae : Option Addr) (ce : Nat) (ex : List Int) (he : Rd w ge ae .u8 ex) (eb : Byt ex) (en : ae = none → ce = 0)
    (g2 : Nat) (a2 : Option Addr) (c2 : Nat) (sd : List Int) (hr2 : Rd w g2 a2 .u8 sd) (db : Byt sd) (dc : sd.length ≤ c2) (hs : ex.length + sd.length ≤ 4000000) :
    Calls Tryz.prog 64 #[.slice a key.length c, .slice a' non.length c', .slice ae ex.length ce, .slice a2 sd.length c2] w fun e w' => NewO w.heap.size w' e (opB key non ex sd) (opL key non ex sd) ∧ Below w.heap.size w w' := by
  have n0 : Below w.heap.size w (w.alloc (.cells #[.bool false, .slice none 0 0] 121)) := (Below.refl _ _).alloc (Nat.le_refl _) _
  have H0 : (w.alloc (.cells #[.bool false, .slice none 0 0] 121)).heap[w.heap.size]? = some (.cells #[.bool false, .slice none 0 0] 121 (0, 0)) := heap_alloc_last w _
  have z0 : (w.alloc (.cells #[.bool false, .slice none 0 0] 121)).heap.size = w.heap.size + 1 := by simp
  have IK := fun W => hide (isKey_any W a a' key.length non.length c c')
  by_cases h1 : (decide (key.length = 32) && decide (non.length = 12)) = true
  · simp only [h1] at IK
    have hk : fitK key non = true := h1
    by_cases h16 : 16 ≤ sd.length
    · have OB : Hid (opB key non ex sd = decide (ssB (nsW key non) ex (opT sd) = opS sd)) := by show _ = _; unfold opB; rw [hk, decide_eq_true h16]; rfl
      have OLt : Hid (opL key non ex sd = if decide (ssB (nsW key non) ex (opT sd) = opS sd) = true then xt key non (opT sd) else []) := by show _ = _; unfold opL; rw [OB.out]
      rw [OLt.out, OB.out]
      simp only [Bool.and_eq_true, decide_eq_true_eq] at h1
      obtain ⟨od, ea2, RS⟩ := hr2.drop (sd.length - 16) (by omega)
      have TL : Hid ((opT sd).length = sd.length - 16) := by show _ = _; unfold opT; rw [List.length_take]; omega
      have SL : Hid ((opS sd).length = 16) := by show _ = _; unfold opS; rw [List.length_drop]; omega
      have RT : Rd w g2 a2 .u8 (opT sd) := hr2.take _
      have RS : Rd w g2 (some ⟨g2, od + (sd.length - 16), none⟩) .u8 (opS sd) := RS
      have TB : Byt (opT sd) := byt_take db _
      have a2n : a2 = none → c2 = 0 := fun h => by rw [h] at ea2; cases ea2
      have HC := fun W => hide (hasC_any W 1 (by omega) (by omega) a2 (sd.length - 16) c2)
      simp only [hasC_short (sd.length - 16) (by omega)] at HC
      have NW := fun W (n : Below w.heap.size w W) => hide (newWords_any W g a c key (hr.up n) hb h1.1 hc g' a' c' non (hr'.up n) hb' h1.2 hc')
      have LY := fun W (n : Below w.heap.size w W) => hide (layOverR_any W _ (nsW_ws hb hb') (nsW_len key non) 1 (by omega) g2 a2 c2 (opT sd) (RT.up n) (by rw [TL.out]; omega) (by rw [TL.out]; omega))
      have XT : Hid (xt key non (opT sd) = xoG (nsW key non) 1 (opT sd) (((opT sd).length + 63) / 64)) := rfl
      simp only [← XT.out] at LY
      have SS := fun W (n : Below w.heap.size w W) => hide (sealSum_any W _ (nsW_ws hb hb') (nsW_len key non) ge ae ce ex (he.up n) eb en g2 a2 c2 (opT sd) (RT.up n) TB a2n (by rw [TL.out]; omega))
      have ML := hide (ssB_len (nsW key non) ex (opT sd))
      simp only [TL.out] at LY SS
      have NE := fun W x y => hide (ne16 (ssB (nsW key non) ex (opT sd)) (opS sd) ML.out SL.out x y W)
      have W16 : Hid (((nsW key non).map (Value.int .u32)).length = 16) := by show _ = _; rw [List.length_map]; exact nsW_len key non
      have OW := one_ints .u32 (nsW key non)
      have VW : Hid (ag .u32 (nsW key non) = Value.agg ((nsW key non).map (Value.int .u32)).toArray) := rfl
      simp only [VW.out] at LY SS NW
      generalize xt key non (opT sd) = T at *
      generalize ssB (nsW key non) ex (opT sd) = M at *
      generalize opS sd = S at *
      obtain ⟨ob, hob⟩ : ∃ b, b = decide (M = S) := ⟨_, rfl⟩
      rw [← hob]
      obtain ⟨ol, hol⟩ : ∃ l, l = if ob = true then T else [] := ⟨_, rfl⟩
      rw [← hol]
      have HOB := hide hob
      have HOL := hide hol
      clear hob hol
      obtain ⟨nw, hnw⟩ : ∃ l, l = nsW key non := ⟨_, rfl⟩
      rw [← hnw] at W16 OW
      simp only [← hnw] at LY SS NW
      have n16 : (16 : Int) ≤ (sd.length : Int) := by omega
      have m16 : (sd.length : Int) - 16 = ((sd.length - 16 : Nat) : Int) := by omega
      have mle : ((sd.length - 16 : Nat) : Int) ≤ (sd.length : Int) := by omega
      have mc : ((sd.length - 16 : Nat) : Int) ≤ (c2 : Int) := by omega
      have m0 : (0 : Int) ≤ ((sd.length - 16 : Nat) : Int) := by omega
      have dif : sd.length - (sd.length - 16) = 16 := by omega
      have ne : ¬ (c2 = sd.length - 16) := by omega
      have nlt : ¬ (sd.length : Int) < 16 := by omega
      have big : (sd.length : Int) ≤ 4000000 := by omega
      subst ea2
      clear hnw VW h1 hk OB OLt XT TB RT hr2 db dc hs a2n
      generalize hm : sd.length - 16 = m at *
      generalize hsl : sd.length = n at *
      have HM := hide hm
      clear hm hsl
      go_enter Tryz.func64, Tryz.ntmps64
      go_upto_region 1 with fail
      generalize w.alloc (.cells #[.bool false, .slice none 0 0] 121) = w1 at *
      go_wp2_with fail
      refine (IK w1).out.mono ?_
      rintro e w2 ⟨rfl, h⟩
      have h := h.symm
      subst h
      go_wp2_with fail
      refine (HC w1).out.mono ?_
      rintro e w2 ⟨rfl, h⟩
      have h := h.symm
      subst h
      clear IK HC
      have B3 := blk_y16 w1 104
      have n3 : Below w1.heap.size w1 (w1.alloc (.cells #[.int .u8 0, .int .u8 0, .int .u8 0, .int .u8 0, .int .u8 0, .int .u8 0, .int .u8 0, .int .u8 0, .int .u8 0, .int .u8 0, .int .u8 0, .int .u8 0, .int .u8 0, .int .u8 0, .int .u8 0, .int .u8 0] 104)) := (Below.refl _ _).alloc (Nat.le_refl _) _
      have z3 : (w1.alloc (.cells #[.int .u8 0, .int .u8 0, .int .u8 0, .int .u8 0, .int .u8 0, .int .u8 0, .int .u8 0, .int .u8 0, .int .u8 0, .int .u8 0, .int .u8 0, .int .u8 0, .int .u8 0, .int .u8 0, .int .u8 0, .int .u8 0] 104)).heap.size = w.heap.size + 1 + 1 := by simp [z0]
      go_upto_region 7 with fail
      generalize w1.alloc (.cells #[.int .u8 0, .int .u8 0, .int .u8 0, .int .u8 0, .int .u8 0, .int .u8 0, .int .u8 0, .int .u8 0, .int .u8 0, .int .u8 0, .int .u8 0, .int .u8 0, .int .u8 0, .int .u8 0, .int .u8 0, .int .u8 0] 104) = w3 at *
      rw [z0] at B3
      try rw [z0]
      have H3 := (n3.block w.heap.size (by omega)).trans H0
      have N3 := nxt n0 n3
      have RS3 := RS.up N3
      clear n0 n3 H0
      refine region_copy 5 _ (fun i => [Fact.eq (.slice (some ⟨w.heap.size + 1, 0, none⟩) 16 16), Fact.eq (.slice (some ⟨g2, od, none⟩) n c2), Fact.eq (.slice (some ⟨g2, od, none⟩) m c2), Fact.eq (.int .i64 (m : Int)), Fact.eq (.slice (some ⟨g2, od + m, none⟩) 16 (c2 - m))].getD i Fact.no) (by kernel_rfl) (by kernel_rfl) rfl 36 rfl ?_ (.tmp 31) (.tmp 35) 22 22 3 rfl rfl ?_
      · intro i hi
        obtain rfl | rfl | rfl | rfl | rfl : i = 0 ∨ i = 1 ∨ i = 2 ∨ i = 3 ∨ i = 4 := by omega
        · refine step_pure rfl fun f u hb hw hf => ?_
          have e10 : f.tmps[10]?.getD undef = .pointer (some ⟨w.heap.size + 1, 0, none⟩) := gdv (hb.2.2 10 (by kernel_rfl))
          exact ⟨.slice (some ⟨w.heap.size + 1, 0, none⟩) 16 16, by simp [go_sem, e10], rfl⟩
        · refine step_pure rfl fun f u hb hw hf => ?_
          have e3 : f.tmps[3]?.getD undef = .slice (some ⟨g2, od, none⟩) n c2 := gdv (hb.2.2 3 (by kernel_rfl))
          exact ⟨.slice (some ⟨g2, od, none⟩) n c2, by simp [go_sem, e3], rfl⟩
        · refine step_pure rfl fun f u hb hw hf => ?_
          have e9 : f.tmps[9]?.getD undef = .slice (some ⟨g2, od, none⟩) m c2 := gdv (hb.2.2 9 (by kernel_rfl))
          exact ⟨.slice (some ⟨g2, od, none⟩) m c2, by simp [go_sem, e9], rfl⟩
        · refine step_pure rfl fun f u hb hw hf => ?_
          have e33 : f.tmps[33]?.getD undef = .slice (some ⟨g2, od, none⟩) m c2 := gdv (hf 2 33 (by kernel_rfl))
          exact ⟨.int .i64 (m : Int), by simp [go_sem, e33], rfl⟩
        · refine step_pure rfl fun f u hb hw hf => ?_
          have e32 : f.tmps[32]?.getD undef = .slice (some ⟨g2, od, none⟩) n c2 := gdv (hf 1 32 (by kernel_rfl))
          have e34 : f.tmps[34]?.getD undef = .int .i64 (m : Int) := gdv (hf 3 34 (by kernel_rfl))
          exact ⟨.slice (some ⟨g2, od + m, none⟩) 16 (c2 - m), by simp [go_sem, e32, e34, mle, dif, ne], rfl⟩
      intro A w4 hb4 n4 hF
      have e31 : A.eval (.tmp 31) = .slice (some ⟨w.heap.size + 1, 0, none⟩) 16 16 := hF 0 _ 31 (by omega) rfl rfl
      have e35 : A.eval (.tmp 35) = .slice (some ⟨g2, od + m, none⟩) 16 (c2 - m) := hF 4 _ 35 (by omega) rfl rfl
      obtain ⟨w5, hcp, B5', O5⟩ := copy_blk (P := Tryz.prog) w4 22 3 5 Tryz.underlying22 rowB8 (B3.up n4) g2 (some ⟨g2, od + m, none⟩) S (RS3.up n4) (by rw [SL.out, List.length_replicate]; omega) 16 (c2 - m)
      rw [List.length_replicate, SL.out] at hcp
      have ES : S ++ (List.replicate 16 (0 : Int)).drop S.length = S := by rw [SL.out]; simp
      rw [SL.out] at B5'
      rw [SL.out] at ES
      rw [ES] at B5'
      refine ⟨_, w5, by rw [e31, e35]; exact hcp, ?_⟩
      obtain ⟨vs4, hvs⟩ : ∃ vs4 : Nat → Value, ∀ d, A.tmps.getD d undef = vs4 d := ⟨_, fun _ => rfl⟩
      rw [puts_of (md := .any) (k := 5) (by kernel_rfl) rfl hb4 vs4 hvs]
      have H5 := (O5.block w.heap.size (by omega)).trans ((n4.block w.heap.size (by omega)).trans H3)
      have N5 : Below w.heap.size w w5 := (nxt N3 n4).trans (O5.below (by omega))
      have z5 : w.heap.size + 1 + 1 ≤ w5.heap.size := by have := O5.size; have := n4.size; omega
      clear hb4 hF hvs e31 e35 hcp O5 n4 N3 H3 RS3 B3 ES z3
      simp only [puts, Act.put, List.setIfInBounds_toArray, List.set_cons_succ, List.set_cons_zero]
      go_wp2_with fail
      refine (NW w5 N5).out.mono ?_
      rintro e w6 ⟨rfl, n6⟩
      have n7 : Below w6.heap.size w6 (w6.alloc (.cells #[.int .u32 0, .int .u32 0, .int .u32 0, .int .u32 0, .int .u32 0, .int .u32 0, .int .u32 0, .int .u32 0, .int .u32 0, .int .u32 0, .int .u32 0, .int .u32 0, .int .u32 0, .int .u32 0, .int .u32 0, .int .u32 0] 101)) := (Below.refl _ _).alloc (Nat.le_refl _) _
      obtain ⟨t7, H7⟩ := blk_z16 w6 101
      have SR := blk_setRow (zs := nw) ⟨t7, H7⟩
      have OR := only_setRow (w6.alloc (.cells #[.int .u32 0, .int .u32 0, .int .u32 0, .int .u32 0, .int .u32 0, .int .u32 0, .int .u32 0, .int .u32 0, .int .u32 0, .int .u32 0, .int .u32 0, .int .u32 0, .int .u32 0, .int .u32 0, .int .u32 0, .int .u32 0] 101)) w6.heap.size (nw.map (Value.int .u32)).toArray
      obtain ⟨vw, hvw⟩ : ∃ v, v = nw.map (Value.int .u32) := ⟨_, rfl⟩
      have RGf : ∀ W q, Blk W q .u32 nw → W.rangeAt q 0 vw := fun W q h => by rw [hvw]; exact (Seg.blk h).range
      rw [← hvw] at W16 OW SR OR ⊢
      simp only [← hvw] at LY SS
      clear hvw NW
      have s6 := n6.size
      have U7 : ∀ b, b < w5.heap.size → ((w6.alloc (.cells #[.int .u32 0, .int .u32 0, .int .u32 0, .int .u32 0, .int .u32 0, .int .u32 0, .int .u32 0, .int .u32 0, .int .u32 0, .int .u32 0, .int .u32 0, .int .u32 0, .int .u32 0, .int .u32 0, .int .u32 0, .int .u32 0] 101)).setRow w6.heap.size vw.toArray).heap[b]? = w5.heap[b]? := fun b hb => (OR.block b (by omega)).trans ((n7.block b (by omega)).trans (n6.block b hb))
      have N7 : Below w.heap.size w ((w6.alloc (.cells #[.int .u32 0, .int .u32 0, .int .u32 0, .int .u32 0, .int .u32 0, .int .u32 0, .int .u32 0, .int .u32 0, .int .u32 0, .int .u32 0, .int .u32 0, .int .u32 0, .int .u32 0, .int .u32 0, .int .u32 0, .int .u32 0] 101)).setRow w6.heap.size vw.toArray) := (N5.trans (n6.mono N5.size)).trans ((n7.mono (by have := N5.size; omega)).trans (OR.below (B := w.heap.size) (by have := N5.size; omega)))
      go_upto_region 9 with (refine wpList_store_row rfl 101 (.tmp 11) (.tmp 39) rfl w6.heap.size vw.toArray rfl rfl t7 _ H7 (by rw [List.size_toArray, W16.out]; exact infoS) (by rw [List.size_toArray, List.size_toArray, W16.out]; rfl) OW ?_)
      have H8 := (U7 w.heap.size (by omega)).trans H5
      have B8 := B5'.of_block (U7 (w.heap.size + 1) (by omega))
      generalize (w6.alloc (.cells #[.int .u32 0, .int .u32 0, .int .u32 0, .int .u32 0, .int .u32 0, .int .u32 0, .int .u32 0, .int .u32 0, .int .u32 0, .int .u32 0, .int .u32 0, .int .u32 0, .int .u32 0, .int .u32 0, .int .u32 0, .int .u32 0] 101)).setRow w6.heap.size vw.toArray = w7 at *
      generalize w6.heap.size = q at *
      clear n7 OR H7 OW U7 H5 B5' n6 N5
      refine region_end 6 (fun i => [Fact.eq (.agg vw.toArray), Fact.eq (.slice ae ex.length ce), Fact.eq (.slice (some ⟨g2, od, none⟩) m c2), Fact.eq (ag .u8 M), Fact.eq (ag .u8 S), Fact.eq (.bool (!decide (M = S)))].getD i Fact.no) (by kernel_rfl) (by kernel_rfl) rfl ?_ ?_
      · intro i hi
        obtain rfl | rfl | rfl | rfl | rfl | rfl : i = 0 ∨ i = 1 ∨ i = 2 ∨ i = 3 ∨ i = 4 ∨ i = 5 := by omega
        · refine step_load rfl 101 (.tmp 11) rfl (.array 16 99) 16 undS rfl infoS fun f u hb hw hf => ?_
          exact ⟨q, 0, vw, hb.2.2 11 (by kernel_rfl), RGf u q (SR.up hw), W16.out, rfl⟩
        · refine step_pure rfl fun f u hb hw hf => ?_
          have e2 : f.tmps[2]?.getD undef = .slice ae ex.length ce := gdv (hb.2.2 2 (by kernel_rfl))
          exact ⟨.slice ae ex.length ce, by simp [go_sem, e2], rfl⟩
        · refine step_pure rfl fun f u hb hw hf => ?_
          have e9 : f.tmps[9]?.getD undef = .slice (some ⟨g2, od, none⟩) m c2 := gdv (hb.2.2 9 (by kernel_rfl))
          exact ⟨.slice (some ⟨g2, od, none⟩) m c2, by simp [go_sem, e9], rfl⟩
        · refine step_callv rfl 62 _ _ rfl (by kernel_rfl) fun f u hb hw hf => ?_
          have e40 : f.tmps.getD 40 undef = .agg vw.toArray := hf 0 40 (by kernel_rfl)
          have e41 : f.tmps.getD 41 undef = .slice ae ex.length ce := hf 1 41 (by kernel_rfl)
          have e42 : f.tmps.getD 42 undef = .slice (some ⟨g2, od, none⟩) m c2 := hf 2 42 (by kernel_rfl)
          show Calls Tryz.prog 62 #[f.tmps.getD 40 undef, f.tmps.getD 41 undef, f.tmps.getD 42 undef] u _
          rw [e40, e41, e42]
          exact (SS u (nxt N7 hw)).out.mono (by rintro e w' ⟨rfl, n⟩; exact ⟨_, rfl, n, rfl⟩)
        · refine step_load rfl 104 (.tmp 10) rfl (.array 16 5) 16 undP16 rfl infoP16 fun f u hb hw hf => ?_
          exact ⟨w.heap.size + 1, 0, S.map (Value.int .u8), hb.2.2 10 (by kernel_rfl), (Seg.blk (B8.up hw)).range, by rw [List.length_map]; exact SL.out, rfl⟩
        · refine step_pure rfl fun f u hb hw hf => ⟨.bool (!decide (M = S)), ?_, rfl⟩
          have e43 : f.eval (.tmp 43) = ag .u8 M := hf 3 43 (by kernel_rfl)
          have e44 : f.eval (.tmp 44) = ag .u8 S := hf 4 44 (by kernel_rfl)
          have k := (NE u 43 44).out
          show (execOp f.eval { dst := some 45, op := .binOp .neq 104 (.tmp 43) (.tmp 44) 104, type := _, pos := _, after := _, guard := _ }).run Tryz.prog u = _
          simp only [execOp, e43, e44]
          rw [Sem.run_bind, k]
          rfl
      intro A w8 hb8 n8 hF
      have e45 := hF 5 45 (by kernel_rfl)
      obtain ⟨vs8, hvs⟩ : ∃ vs8 : Nat → Value, ∀ d, A.tmps.getD d undef = vs8 d := ⟨_, fun _ => rfl⟩
      have v45 : vs8 45 = .bool (!decide (M = S)) := (hvs 45).symm.trans e45
      rw [puts_of (md := .any) (n := 51) (k := 6) (by kernel_rfl) rfl hb8 vs8 hvs]
      have H9 := (n8.block w.heap.size (by have := N7.size; have := H8; exact (Array.getElem?_eq_some_iff.1 H8).1)).trans H8
      have N8 := nxt N7 n8
      have SR8 := SR.up n8
      obtain ⟨c80, c81, f80, f81⟩ := blk_two H9
      clear hb8 hF hvs e45 SS NE B8 SR
      simp only [puts, v45, Act.put, List.setIfInBounds_toArray, List.set_cons_succ, List.set_cons_zero]
      by_cases hMS : M = S
      · have d1 : decide (M = S) = true := decide_eq_true hMS
        have EB : Hid (ob = true) := HOB.out.trans d1
        have EL : Hid (ol = T) := by show _ = _; rw [HOL.out, EB.out, if_pos rfl]
        rw [d1]
        clear HOB HOL
        have RG := RGf w8 q SR8
        clear hMS d1 ML
        go_wp2_with (refine wpList_load_mid rfl 101 (.tmp 11) rfl q 0 rfl vw (.array 16 99) RG undS rfl (by rw [W16.out]; exact infoS) ?_)
        refine (LY w8 N8).out.mono ?_
        rintro e w9 ⟨⟨v9, rfl, R9⟩, n9⟩
        obtain ⟨a9, c9, g9, rfl, o9, p9, q9, r9⟩ := R9.own
        have l8 := (Array.getElem?_eq_some_iff.1 H9).1
        have H10 := (n9.block w.heap.size l8).trans H9
        obtain ⟨c90, c91, f90, f91⟩ := blk_two H10
        have N9 := nxt N8 n9
        have O1 := (Only.setCell w9 w.heap.size 0 (.bool true)).trans (Only.setCell _ w.heap.size 1 (.slice a9 T.length c9))
        have o10 := o9.only O1 (fun _ => by omega)
        have N10 := N9.trans (O1.below (Nat.le_refl _))
        clear LY RGf SR8 RG n9 c80 c81 f80 f81 H10 R9 o9 O1
        go_wp2
        exact bodyPost_ret (v := .agg #[.bool true, .slice a9 T.length c9]) (by simp [results, Tryz.results64, go_sem, c90, c91]) rfl ⟨by rw [EB.out, EL.out]; exact ⟨a9, c9, g9, rfl, o10, p9, q9, by omega⟩, N10⟩
      · have d1 : decide (M = S) = false := decide_eq_false hMS
        have EB : Hid (ob = false) := HOB.out.trans d1
        have EL : Hid (ol = []) := by show _ = _; rw [HOL.out, EB.out, if_neg (by decide)]
        rw [d1]
        clear HOB HOL
        have O1 := (Only.setCell w8 w.heap.size 0 (.bool false)).trans (Only.setCell _ w.heap.size 1 (.slice none 0 0))
        have N10 := N8.trans (O1.below (Nat.le_refl _))
        clear hMS d1 ML LY RGf SR8 O1
        go_wp2
        exact bodyPost_ret (v := .agg #[.bool false, .slice none 0 0]) (by simp [results, Tryz.results64, go_sem, c80, c81]) rfl ⟨by rw [EB.out, EL.out]; exact newO_bad _ _, N10⟩
    · have OB : Hid (opB key non ex sd = false) := by show _ = _; unfold opB; rw [decide_eq_false h16]; simp
      have OLt : Hid (opL key non ex sd = []) := by show _ = _; unfold opL; rw [if_neg (by rw [OB.out]; decide)]
      rw [OLt.out, OB.out]
      have lt : (sd.length : Int) < 16 := by omega
      clear OB OLt
      go_enter Tryz.func64, Tryz.ntmps64
      go_upto_region 1 with fail
      generalize w.alloc (.cells #[.bool false, .slice none 0 0] 121) = w1 at *
      go_wp2_with fail
      refine (IK w1).out.mono ?_
      rintro e w2 ⟨rfl, h⟩
      have h := h.symm
      subst h
      obtain ⟨c10, c11, f10, f11⟩ := blk_two H0
      have O1 := (Only.setCell w1 w.heap.size 0 (.bool false)).trans (Only.setCell _ w.heap.size 1 (.slice none 0 0))
      have N10 := n0.trans (O1.below (Nat.le_refl _))
      clear IK O1
      go_wp2
      exact bodyPost_ret (v := .agg #[.bool false, .slice none 0 0]) (by simp [results, Tryz.results64, go_sem, c10, c11]) rfl ⟨newO_bad _ _, N10⟩
  · have h1' : (decide (key.length = 32) && decide (non.length = 12)) = false := by simpa using h1
    simp only [h1'] at IK
    have OB : Hid (opB key non ex sd = false) := by show _ = _; unfold opB fitK; rw [h1']; rfl
    have OLt : Hid (opL key non ex sd = []) := by show _ = _; unfold opL; rw [if_neg (by rw [OB.out]; decide)]
    rw [OLt.out, OB.out]
    clear OB OLt h1 h1'
    go_enter Tryz.func64, Tryz.ntmps64
    go_upto_region 1 with fail
    generalize w.alloc (.cells #[.bool false, .slice none 0 0] 121) = w1 at *
    go_wp2_with fail
    refine (IK w1).out.mono ?_
    rintro e w2 ⟨rfl, h⟩
    have h := h.symm
    subst h
    obtain ⟨c10, c11, f10, f11⟩ := blk_two H0
    have O1 := (Only.setCell w1 w.heap.size 0 (.bool false)).trans (Only.setCell _ w.heap.size 1 (.slice none 0 0))
    have N10 := n0.trans (O1.below (Nat.le_refl _))
    clear IK O1
    go_wp2
    exact bodyPost_ret (v := .agg #[.bool false, .slice none 0 0]) (by simp [results, Tryz.results64, go_sem, c10, c11]) rfl ⟨newO_bad _ _, N10⟩
end Go.Proofs.YtkpomobhjkikeaaGreatDoor
namespace Go.Proofs.YtkpomobhjkikeaaGreatDoor
set_option maxRecDepth 100000
open Go Go.RowKit
theorem iOr : (Tryz.prog.info? 121).map (·.size) = some 2 := by kernel_rfl
theorem oneOr (b : Bool) (a : Option Addr) (n c : Nat) : ([.bool b, .slice a n c] : List Value).toArray.all (·.oneCell') = true := all_oneCell_toArray fun v hv => by
  simp only [List.mem_cons, List.not_mem_nil, or_false] at hv
  rcases hv with rfl | rfl
  all_goals rfl
def Opf (b : Nat) (t : Bool) (L : List Int) : Fact := ⟨fun v w => ∃ (a : Option Addr) (c g : Nat), v = .agg #[.bool t, .slice a L.length c] ∧ Own w g a .u8 L ∧ L.length ≤ c ∧ b ≤ g, fun n h => by
  obtain ⟨a, c, g, e, o, k, l⟩ := h
  exact ⟨a, c, g, e, o.up n, k, l⟩⟩
theorem step_newOr {ops : Array Oper} {Q : Exit → Act → World → Prop} {md : Region.Mode} {F : Nat → Fact} {a0 : Act} {w0 : World} {i : Nat} {o : Oper} (hi : ops[i]? = some o) (hop : o.op = .alloc 121) (hF : F i = NBt w0.heap.size 121 [.bool false, .slice none 0 0]) : StepOk Tryz.prog md ops Q F a0 w0 i := by
  refine step_grow hi fun a w _ hw _ => ⟨.pointer (some ⟨w.heap.size, 0, none⟩), w.alloc (.cells #[.bool false, .slice none 0 0] 121), ?_, (Below.refl _ _).alloc (Nat.le_refl _) _, ?_⟩
  · simp only [execOp, hop]
    kernel_rfl
  · rw [hF]
    exact ⟨_, rfl, hw.size, RwC.new w _ _⟩
theorem own_ne {w : World} {g q : Nat} {a : Option Addr} {xs : List Int} {b : Bool} {t : TypeId} (h : Own w g a .u8 xs) (hq : RwC w q [.bool b, .slice none 0 0] t) : 0 < xs.length → g ≠ q := fun h0 e => by
  subst e
  obtain ⟨off, ha, hc⟩ := h h0
  have h1 := (hc 0 h0).1
  rw [Nat.add_zero, hq.cell off] at h1
  match off, h1 with
  | 0, h1 => simp at h1
  | 1, h1 => simp at h1
  | n + 2, h1 => simp at h1
set_option maxHeartbeats 4000000 in
theorem open_any (w : World) (n : Int) (gk : Nat) (ak : Option Addr) (ck : Nat) (K : List Int) (hk : Rd w gk ak .u8 K) (bk : Byt K) (kk : K.length ≤ ck) (gn : Nat) (an : Option Addr) (cn : Nat) (M : List Int) (hm : Rd w gn an .u8 M) (bm : Byt M) (km : M.length ≤ cn)
    (gx : Nat) (ax : Option Addr) (cx : Nat) (xs : List Int) (hx : Rd w gx ax .u8 xs) (bx : Byt xs) (kx : xs.length ≤ cx) (lx : xs.length ≤ 1048576) (a4 : Addr) (h4 : Sen w 6 a4) :
    Calls Tryz.prog 46 #[.agg #[.int .i64 23, .int .i64 n, .slice ak K.length ck, .slice an M.length cn], .slice ax xs.length cx] w fun e w' => Below w.heap.size w w' ∧
      ((opB K M (hdL 23 n) xs = true ∧ ∃ a c g, e = .returned (.tuple #[.slice a (opL K M (hdL 23 n) xs).length c, .nilIface]) ∧ Own w' g a .u8 (opL K M (hdL 23 n) xs) ∧ (opL K M (hdL 23 n) xs).length ≤ c ∧ w.heap.size ≤ g)
       ∨ (opB K M (hdL 23 n) xs = false ∧ e = .returned (.tuple #[.slice none 0 0, erV a4]))) := by
  have N : Below w.heap.size w (w.alloc (.cells #[.int .i64 23, .int .i64 n, .slice ak K.length ck, .slice an M.length cn] 63)) := (Below.refl _ _).alloc (Nat.le_refl _) _
  have B0 : RwC (w.alloc (.cells #[.int .i64 23, .int .i64 n, .slice ak K.length ck, .slice an M.length cn] 63)) w.heap.size [.int .i64 23, .int .i64 n, .slice ak K.length ck, .slice an M.length cn] 63 := RwC.new w _ _
  have HB := fun W => hide (headBytes_any W 23 n)
  have hdb : Byt (hdL 23 n) := byt_apd (bigL_byt _ _) (bigL_byt _ _)
  have hdl := hdL_len 23 n
  generalize hdL 23 n = H at *
  have OP := hide fun W (m : Below w.heap.size w W) ge ae ce (he : Rd W ge ae .u8 H) (en : ae = none → ce = 0) => implOpen_any W gk ak ck K (hk.up m) bk kk gn an cn M (hm.up m) bm km ge ae ce H he hdb en gx ax cx xs (hx.up m) bx kx (by omega)
  generalize opL K M H xs = L at *
  generalize opB K M H xs = t at *
  have HDL := hide hdl
  clear hk hm hx bk bm bx kk km kx lx hdl hdb
  go_enter Tryz.func46, Tryz.ntmps46
  go_upto_region 1 with fail
  generalize w.alloc (.cells #[.int .i64 23, .int .i64 n, .slice ak K.length ck, .slice an M.length cn] 63) = wa at *
  refine region_newT 10 9 8 6 15 _ (fun i => [Fact.eq (.pointer (some ⟨w.heap.size, 2, none⟩)), Fact.eq (.slice ak K.length ck), Fact.eq (.pointer (some ⟨w.heap.size, 3, none⟩)), Fact.eq (.slice an M.length cn), Fact.eq (.pointer (some ⟨w.heap.size, 0, none⟩)), Fact.eq (.agg #[.int .i64 23, .int .i64 n]), Rbg wa.heap.size H, Fact.eq (.slice ax xs.length cx), Opf wa.heap.size t L, NBt wa.heap.size 121 [.bool false, .slice none 0 0]].getD i Fact.no) 121 [.bool false, .slice none 0 0] (Opf wa.heap.size t L) (by kernel_rfl) (by kernel_rfl) rfl rfl rfl iOr (by kernel_rfl) rfl (by kernel_rfl) rfl ?_ ?_ ?_
  · rintro v W ⟨a, c, g, rfl, -⟩
    exact ⟨[.bool t, .slice a L.length c], rfl, rfl, oneOr _ _ _ _⟩
  · intro i hi
    obtain rfl | rfl | rfl | rfl | rfl | rfl | rfl | rfl | rfl | rfl : i = 0 ∨ i = 1 ∨ i = 2 ∨ i = 3 ∨ i = 4 ∨ i = 5 ∨ i = 6 ∨ i = 7 ∨ i = 8 ∨ i = 9 := by omega
    · refine step_pure rfl fun A ww hb hw hf => ?_
      have e0 : A.tmps[2]?.getD undef = .pointer (some ⟨w.heap.size, 0, none⟩) := gdv (hb.2.2 2 (by kernel_rfl))
      exact ⟨.pointer (some ⟨w.heap.size, 2, none⟩), by simp [go_sem, e0], rfl⟩
    · refine step_pure rfl fun A ww hb hw hf => ?_
      have e0 : A.tmps[7]?.getD undef = .pointer (some ⟨w.heap.size, 2, none⟩) := gdv (hf 0 7 (by kernel_rfl))
      have hc : ww.cell? ⟨w.heap.size, 2, none⟩ = some (.slice ak K.length ck) := (B0.up hw).cell 2
      exact ⟨_, by simp [go_sem, e0, hc], rfl⟩
    · refine step_pure rfl fun A ww hb hw hf => ?_
      have e0 : A.tmps[2]?.getD undef = .pointer (some ⟨w.heap.size, 0, none⟩) := gdv (hb.2.2 2 (by kernel_rfl))
      exact ⟨.pointer (some ⟨w.heap.size, 3, none⟩), by simp [go_sem, e0], rfl⟩
    · refine step_pure rfl fun A ww hb hw hf => ?_
      have e0 : A.tmps[9]?.getD undef = .pointer (some ⟨w.heap.size, 3, none⟩) := gdv (hf 2 9 (by kernel_rfl))
      have hc : ww.cell? ⟨w.heap.size, 3, none⟩ = some (.slice an M.length cn) := (B0.up hw).cell 3
      exact ⟨_, by simp [go_sem, e0, hc], rfl⟩
    · refine step_pure rfl fun A ww hb hw hf => ?_
      have e0 : A.tmps[2]?.getD undef = .pointer (some ⟨w.heap.size, 0, none⟩) := gdv (hb.2.2 2 (by kernel_rfl))
      exact ⟨.pointer (some ⟨w.heap.size, 0, none⟩), by simp [go_sem, e0], rfl⟩
    · refine step_pure rfl fun A ww hb hw hf => ?_
      have e0 : A.tmps[11]?.getD undef = .pointer (some ⟨w.heap.size, 0, none⟩) := gdv (hf 4 11 (by kernel_rfl))
      have hc0 : ww.cell? ⟨w.heap.size, 0, none⟩ = some (.int .i64 23) := (B0.up hw).cell 0
      have hc1 : ww.cell? ⟨w.heap.size, 1, none⟩ = some (.int .i64 n) := (B0.up hw).cell 1
      exact ⟨.agg #[.int .i64 23, .int .i64 n], by simp [go_sem, e0, hc0, hc1], rfl⟩
    · refine step_callv rfl 40 _ _ rfl (by kernel_rfl) fun A ww hb hw hf => ?_
      have e6 : A.tmps.getD 12 undef = .agg #[.int .i64 23, .int .i64 n] := hf 5 12 (by kernel_rfl)
      show Calls Tryz.prog 40 #[A.tmps.getD 12 undef] ww _
      rw [e6]
      refine (HB ww).out.mono ?_
      rintro r w' ⟨x, rfl, R, n⟩
      exact ⟨x, rfl, n, R.base hw.size⟩
    · refine step_pure rfl fun A ww hb hw hf => ?_
      have e0 : A.tmps[1]?.getD undef = .slice ax xs.length cx := gdv (hb.2.2 1 (by kernel_rfl))
      exact ⟨_, by simp [go_sem, e0], rfl⟩
    · refine step_callv rfl 64 _ _ rfl (by kernel_rfl) fun A ww hb hw hf => ?_
      have e8 : A.tmps.getD 8 undef = .slice ak K.length ck := hf 1 8 (by kernel_rfl)
      have e10 : A.tmps.getD 10 undef = .slice an M.length cn := hf 3 10 (by kernel_rfl)
      have e14 : A.tmps.getD 14 undef = .slice ax xs.length cx := hf 7 14 (by kernel_rfl)
      have r13 : RowB ww wa.heap.size (A.tmps.getD 13 undef) H := hf 6 13 (by kernel_rfl)
      obtain ⟨a7, c7, g7, e13, D7, z7, -, -⟩ := r13.rd
      show Calls Tryz.prog 64 #[A.tmps.getD 8 undef, A.tmps.getD 10 undef, A.tmps.getD 13 undef, A.tmps.getD 14 undef] ww _
      rw [e8, e10, e13, e14]
      refine (OP.out ww (nxt N hw) g7 a7 c7 D7 z7).mono ?_
      rintro r w' ⟨⟨a, c, g, rfl, o1, o2, o3, o4⟩, n⟩
      exact ⟨_, rfl, n, a, c, g, rfl, o1, o3, Nat.le_trans hw.size o4⟩
    · exact step_newOr rfl rfl rfl
  · intro vs W W5 q cs vq hq hw rq hG OQ rc hW
    obtain ⟨a, c, g, ec, o1, o2, o3⟩ := hG
    simp only [Value.agg.injEq, Array.mk.injEq] at ec
    subst ec
    have O5 := o1.only OQ (own_ne o1 rq)
    have N5 := nxt N hW
    have s4 := (h4.up N5).c
    unfold erV at s4
    simp only [puts, vq, Act.put, List.setIfInBounds_toArray, List.set_cons_succ, List.set_cons_zero]
    have qc0 := rc.c0
    have qc1 := rc.c1
    generalize vs 7 = y7 at *
    generalize vs 8 = y8 at *
    generalize vs 9 = y9 at *
    generalize vs 10 = y10 at *
    generalize vs 11 = y11 at *
    generalize vs 12 = y12 at *
    generalize vs 13 = y13 at *
    generalize vs 14 = y14 at *
    generalize vs 15 = y15 at *
    have wl := B0.lt
    clear OQ rq hw B0 OP HB vq rc o1 hW
    cases t with
    | true =>
      go_wp2
      go_ret2
      exact ⟨N5, a, c, rfl, g, O5, o2, by omega⟩
    | false =>
      go_wp2
      go_region
      all_goals
        go_wp2
        go_ret2
        exact ⟨N5.drew, rfl⟩
end Go.Proofs.YtkpomobhjkikeaaGreatDoor
namespace Go.Proofs.YtkpomobhjkikeaaGreatDoor
set_option maxRecDepth 100000
open Go Go.RowKit
theorem opL_bytN {K M H xs : List Int} (h : Byt xs) : Byt (opL K M H xs) := by
  unfold opL
  split
  · exact xt_byt _ _ (byt_take h _)
  · intro i; simp
def upL (K V : List Int) (q : Int) (xs : List Int) : List Int := opL K (rnA V q) (hdL 23 (xs.length : Int)) xs
def upE (a1 a2 a3 a4 a5 a6 a7 : Addr) (K V : List Int) (q : Int) (xs : List Int) : Option Addr :=
  if K.length = 32 ∧ (rnA V q).length = 12 then (if 17 ≤ (xs.length : Int) ∧ (xs.length : Int) ≤ 2321 then (if opB K (rnA V q) (hdL 23 (xs.length : Int)) xs = true then riE a1 a5 a6 a7 (upL K V q xs) else some a4) else some a2) else some a3
set_option maxHeartbeats 8000000 in
theorem openRecord_any (w : World) (gk : Nat) (ak : Option Addr) (ck : Nat) (K : List Int) (hk : Rd w gk ak .u8 K) (bk : Byt K) (kk : K.length ≤ ck) (gi : Nat) (ai : Option Addr) (ci : Nat) (V : List Int) (hi : Rd w gi ai .u8 V) (bi : Byt V) (zi : ai = none → ci = 0) (q : Int)
    (gx : Nat) (ax : Option Addr) (cx : Nat) (xs : List Int) (hx : Rd w gx ax .u8 xs) (bx : Byt xs) (kx : xs.length ≤ cx) (lx : xs.length ≤ 1048576) (a1 a2 a3 a4 a5 a6 a7 : Addr)
    (h1 : Sen w 1 a1) (h2 : Sen w 5 a2) (h3 : Sen w 4 a3) (h4 : Sen w 6 a4) (h5 : Sen w 7 a5) (h6 : Sen w 2 a6) (h7 : Sen w 3 a7) :
    Calls Tryz.prog 29 #[.agg #[.slice ak K.length ck, .slice ai V.length ci], .int .i64 q, .slice ax xs.length cx] w fun e w' => Below w.heap.size w w' ∧
      ((upE a1 a2 a3 a4 a5 a6 a7 K V q xs = none ∧ ∃ ad cd, e = .returned (.tuple #[.agg #[.int .i64 (inK (upL K V q xs)), .slice ad (inD (upL K V q xs)).length cd], .nilIface]) ∧ RowB w' w.heap.size (.slice ad (inD (upL K V q xs)).length cd) (inD (upL K V q xs)))
       ∨ (∃ x, upE a1 a2 a3 a4 a5 a6 a7 K V q xs = some x ∧ e = .returned (.tuple #[.agg #[.int .i64 0, .slice none 0 0], erV x]))) := by
  obtain ⟨d1, hd1, hrow1⟩ := rowIp
  have NS := hide fun W (m : Below w.heap.size w W) => newSealed_any W ak K.length ck gi ai ci V (hi.up m) zi q (xs.length : Int) a2 a3 (h2.up m) (h3.up m)
  have OP := hide fun W (m : Below w.heap.size w W) gn an cn (hm : Rd W gn an .u8 (rnA V q)) (km : (rnA V q).length ≤ cn) => open_any W (xs.length : Int) gk ak ck K (hk.up m) bk kk gn an cn (rnA V q) hm (rnA_byt bi q) km gx ax cx xs (hx.up m) bx kx lx a4 (h4.up m)
  have UB : Byt (upL K V q xs) := opL_bytN bx
  have UL : (upL K V q xs).length ≤ 1048576 := Nat.le_trans (opL_len _ _ _ _) lx
  have RI := hide fun W (m : Below w.heap.size w W) g a c (h : Rd W g a .u8 (upL K V q xs)) (k : (upL K V q xs).length ≤ c) => readInside_any W g a c (upL K V q xs) h UB k UL a1 a5 a6 a7 (h1.up m) (h5.up m) (h6.up m) (h7.up m)
  have eU : Hid (upE a1 a2 a3 a4 a5 a6 a7 K V q xs = if K.length = 32 ∧ (rnA V q).length = 12 then (if 17 ≤ (xs.length : Int) ∧ (xs.length : Int) ≤ 2321 then (if opB K (rnA V q) (hdL 23 (xs.length : Int)) xs = true then riE a1 a5 a6 a7 (upL K V q xs) else some a4) else some a2) else some a3) := rfl
  have eL : Hid (opL K (rnA V q) (hdL 23 (xs.length : Int)) xs = upL K V q xs) := rfl
  simp only [eL.out] at OP
  generalize upE a1 a2 a3 a4 a5 a6 a7 K V q xs = U at *
  generalize riE a1 a5 a6 a7 (upL K V q xs) = E at *
  generalize inK (upL K V q xs) = IK at *
  generalize inD (upL K V q xs) = ID at *
  generalize upL K V q xs = L at *
  generalize opB K (rnA V q) (hdL 23 (xs.length : Int)) xs = t at *
  have n1 : Below w.heap.size w (w.alloc (.cells #[.slice ak K.length ck, .slice ai V.length ci] 28)) := (Below.refl _ _).alloc (Nat.le_refl _) _
  have B0 : RwC (w.alloc (.cells #[.slice ak K.length ck, .slice ai V.length ci] 28)) w.heap.size [.slice ak K.length ck, .slice ai V.length ci] 28 := RwC.new w _ _
  have z1 : (w.alloc (.cells #[.slice ak K.length ck, .slice ai V.length ci] 28)).heap.size = w.heap.size + 1 := by simp
  clear hk bk kk hi bi zi hx bx kx lx h1 h2 h3 h4 h5 h6 h7 UB UL eL
  go_enter Tryz.func29, Tryz.ntmps29
  go_upto_region 1 with fail
  generalize w.alloc (.cells #[.slice ak K.length ck, .slice ai V.length ci] 28) = wa at *
  have n2 : Below wa.heap.size wa (wa.alloc (.cells #[.int .i64 0, .slice none 0 0] 55)) := (Below.refl _ _).alloc (Nat.le_refl _) _
  have Z0 : RwC (wa.alloc (.cells #[.int .i64 0, .slice none 0 0] 55)) wa.heap.size [.int .i64 0, .slice none 0 0] 55 := RwC.new wa _ _
  replace B0 := B0.up n2
  have N := nxt n1 n2
  generalize wa.alloc (.cells #[.int .i64 0, .slice none 0 0] 55) = wb at *
  rw [z1] at Z0
  clear n1 n2 z1
  have lZ := Z0.lt
  have b0 := B0.c0
  have b1 := B0.c1
  go_wp2_with fail
  refine (NS.out wb N).mono ?_
  rintro e w1 ⟨m1, hc⟩
  have z1 := m1.size
  replace N := nxt N m1
  replace Z0 := Z0.up m1
  clear b0 b1 B0 NS m1
  rcases hc with ⟨g1, g2, g3, g4, an, cn, rfl, R1⟩ | ⟨hb, rfl⟩ | ⟨hg, hb, rfl⟩
  · obtain ⟨an', cn', gn, ev, D4, z4, k4, -⟩ := R1.rd
    simp only [Value.slice.injEq] at ev
    obtain ⟨rfl, -, rfl⟩ := ev
    have eU2 : Hid (U = if t = true then E else some a4) := by show _ = _; rw [eU.out, if_pos ⟨g1, g2⟩, if_pos ⟨g3, g4⟩]
    clear g1 g2 g3 g4 eU R1
    have n4 : Below w1.heap.size w1 (w1.alloc (.cells #[.int .i64 23, .int .i64 (xs.length : Int), .slice ak K.length ck, .slice an (rnA V q).length cn] 63)) := (Below.refl _ _).alloc (Nat.le_refl _) _
    have S0 : RwC (w1.alloc (.cells #[.int .i64 23, .int .i64 (xs.length : Int), .slice ak K.length ck, .slice an (rnA V q).length cn] 63)) w1.heap.size [.int .i64 23, .int .i64 (xs.length : Int), .slice ak K.length ck, .slice an (rnA V q).length cn] 63 := RwC.new w1 _ _
    replace N := nxt N n4
    replace Z0 := Z0.up n4
    have OP4 := hide (OP.out _ N gn an cn (D4.up n4) k4)
    have hn := nil_neq
    have s0 := S0.c0
    have s1 := S0.c1
    have s2 := S0.c2
    have s3 : (w1.alloc (.cells #[.int .i64 23, .int .i64 (xs.length : Int), .slice ak K.length ck, .slice an (rnA V q).length cn] 63)).cell? ⟨w1.heap.size, 3, none⟩ = some (.slice an (rnA V q).length cn) := S0.cell 3
    clear D4 OP n4
    go_wp2_with fail
    generalize w1.alloc (.cells #[.int .i64 23, .int .i64 (xs.length : Int), .slice ak K.length ck, .slice an (rnA V q).length cn] 63) = w2 at *
    refine OP4.out.mono ?_
    rintro e w3 ⟨m3, hc⟩
    replace N := nxt N m3
    replace Z0 := Z0.up m3
    clear s0 s1 s2 s3 S0 OP4 m3
    rcases hc with ⟨ht, a, c, g, rfl, o1, o2, o3⟩ | ⟨ht, rfl⟩
    · have eU3 : Hid (U = E) := by show _ = _; rw [eU2.out, if_pos ht]
      have RI5 := hide (RI.out w3 N g a c o1.rd o2)
      clear eU2 ht o1 RI
      go_wp2_with fail
      refine RI5.out.mono ?_
      rintro e w4 ⟨m4, hc⟩
      have N4 := nxt N m4
      have Z4 := Z0.up m4
      have zz := Z0.lt
      clear RI5 N Z0 m4
      rcases hc with ⟨hE, ad, cd, rfl, R4⟩ | ⟨x, hE, rfl⟩
      · have eU4 : Hid (U = none) := by show _ = _; rw [eU3.out, hE]
        clear eU3 hE
        have ZF : RwC ((w4.setCell ⟨w.heap.size + 1, 0, none⟩ (.int .i64 IK)).setCell ⟨w.heap.size + 1, 1, none⟩ (.slice ad ID.length cd)) (w.heap.size + 1) [.int .i64 IK, .slice ad ID.length cd] 55 := (Z4.set 0 _).set 1 _
        have OF : Only (w.heap.size + 1) w4 ((w4.setCell ⟨w.heap.size + 1, 0, none⟩ (.int .i64 IK)).setCell ⟨w.heap.size + 1, 1, none⟩ (.slice ad ID.length cd)) := (Only.setCell _ (w.heap.size + 1) 0 _).trans (Only.setCell _ (w.heap.size + 1) 1 _)
        have RR := ZF.rangeG
        have NF := N4.trans (OF.below (B := w.heap.size) (by omega))
        have x0 := Z4.c0
        have x1 := Z4.c1
        have f0 := Z4.free 0
        have f1 := Z4.free 1
        have R5 := R4.only OF (by omega)
        clear OF ZF R4
        go_wp2
        exact bodyPost_ret (v := .tuple #[.agg #[.int .i64 IK, .slice ad ID.length cd], .nilIface]) (results_twoN Tryz.results29 _ _ (w.heap.size + 1) [.int .i64 IK, .slice ad ID.length cd] d1 .nilIface rfl rfl RR hd1 hrow1 iIp) rfl ⟨NF, .inl ⟨eU4.out, ad, cd, rfl, R5.base (by omega)⟩⟩
      · have eU4 : Hid (U = some x) := by show _ = _; rw [eU3.out, hE]
        clear eU3 hE
        have ZF : RwC ((w4.setCell ⟨w.heap.size + 1, 0, none⟩ (.int .i64 0)).setCell ⟨w.heap.size + 1, 1, none⟩ (.slice none 0 0)) (w.heap.size + 1) [.int .i64 0, .slice none 0 0] 55 := (Z4.set 0 _).set 1 _
        have OF : Only (w.heap.size + 1) w4 ((w4.setCell ⟨w.heap.size + 1, 0, none⟩ (.int .i64 0)).setCell ⟨w.heap.size + 1, 1, none⟩ (.slice none 0 0)) := (Only.setCell _ (w.heap.size + 1) 0 _).trans (Only.setCell _ (w.heap.size + 1) 1 _)
        have RR := ZF.rangeG
        have NF := N4.trans (OF.below (B := w.heap.size) (by omega))
        have x0 := Z4.c0
        have x1 := Z4.c1
        have f0 := Z4.free 0
        have f1 := Z4.free 1
        have he := er_neq x
        clear OF ZF
        unfold erV
        go_wp2
        exact bodyPost_ret (v := .tuple #[.agg #[.int .i64 0, .slice none 0 0], erV x]) (results_twoN Tryz.results29 _ _ (w.heap.size + 1) [.int .i64 0, .slice none 0 0] d1 (erV x) rfl rfl RR hd1 hrow1 iIp) rfl ⟨NF, .inr ⟨x, eU4.out, rfl⟩⟩
    · have eU3 : Hid (U = some a4) := by show _ = _; rw [eU2.out, if_neg (by rw [ht]; simp)]
      clear eU2 ht RI
      have ZF : RwC ((w3.setCell ⟨w.heap.size + 1, 0, none⟩ (.int .i64 0)).setCell ⟨w.heap.size + 1, 1, none⟩ (.slice none 0 0)) (w.heap.size + 1) [.int .i64 0, .slice none 0 0] 55 := (Z0.set 0 _).set 1 _
      have OF : Only (w.heap.size + 1) w3 ((w3.setCell ⟨w.heap.size + 1, 0, none⟩ (.int .i64 0)).setCell ⟨w.heap.size + 1, 1, none⟩ (.slice none 0 0)) := (Only.setCell _ (w.heap.size + 1) 0 _).trans (Only.setCell _ (w.heap.size + 1) 1 _)
      have RR := ZF.rangeG
      have NF := N.trans (OF.below (B := w.heap.size) (by omega))
      have x0 := Z0.c0
      have x1 := Z0.c1
      have f0 := Z0.free 0
      have f1 := Z0.free 1
      have he := er_neq a4
      clear OF ZF
      unfold erV
      go_wp2
      exact bodyPost_ret (v := .tuple #[.agg #[.int .i64 0, .slice none 0 0], erV a4]) (results_twoN Tryz.results29 _ _ (w.heap.size + 1) [.int .i64 0, .slice none 0 0] d1 (erV a4) rfl rfl RR hd1 hrow1 iIp) rfl ⟨NF, .inr ⟨a4, eU3.out, rfl⟩⟩
  · have eU3 : Hid (U = some a3) := by show _ = _; rw [eU.out, if_neg hb]
    clear eU hb RI OP
    have n4 : Below w1.heap.size w1 (w1.alloc (.cells #[.int .i64 0, .int .i64 0, .slice none 0 0, .slice none 0 0] 63)) := (Below.refl _ _).alloc (Nat.le_refl _) _
    replace N := nxt N n4
    replace Z0 := Z0.up n4
    clear n4
    have he := er_neq a3
    unfold erV
    go_upto_region 3 with fail
    generalize w1.alloc (.cells #[.int .i64 0, .int .i64 0, .slice none 0 0, .slice none 0 0] 63) = w2 at *
    have ZF : RwC ((w2.setCell ⟨w.heap.size + 1, 0, none⟩ (.int .i64 0)).setCell ⟨w.heap.size + 1, 1, none⟩ (.slice none 0 0)) (w.heap.size + 1) [.int .i64 0, .slice none 0 0] 55 := (Z0.set 0 _).set 1 _
    have OF : Only (w.heap.size + 1) w2 ((w2.setCell ⟨w.heap.size + 1, 0, none⟩ (.int .i64 0)).setCell ⟨w.heap.size + 1, 1, none⟩ (.slice none 0 0)) := (Only.setCell _ (w.heap.size + 1) 0 _).trans (Only.setCell _ (w.heap.size + 1) 1 _)
    have RR := ZF.rangeG
    have NF := N.trans (OF.below (B := w.heap.size) (by omega))
    have x0 := Z0.c0
    have x1 := Z0.c1
    have f0 := Z0.free 0
    have f1 := Z0.free 1
    clear OF ZF
    go_wp2
    exact bodyPost_ret (v := .tuple #[.agg #[.int .i64 0, .slice none 0 0], erV a3]) (results_twoN Tryz.results29 _ _ (w.heap.size + 1) [.int .i64 0, .slice none 0 0] d1 (erV a3) rfl rfl RR hd1 hrow1 iIp) rfl ⟨NF, .inr ⟨a3, eU3.out, rfl⟩⟩
  · have eU3 : Hid (U = some a2) := by show _ = _; rw [eU.out, if_pos hg, if_neg hb]
    clear eU hb hg RI OP
    have n4 : Below w1.heap.size w1 (w1.alloc (.cells #[.int .i64 0, .int .i64 0, .slice none 0 0, .slice none 0 0] 63)) := (Below.refl _ _).alloc (Nat.le_refl _) _
    replace N := nxt N n4
    replace Z0 := Z0.up n4
    clear n4
    have he := er_neq a2
    unfold erV
    go_upto_region 3 with fail
    generalize w1.alloc (.cells #[.int .i64 0, .int .i64 0, .slice none 0 0, .slice none 0 0] 63) = w2 at *
    have ZF : RwC ((w2.setCell ⟨w.heap.size + 1, 0, none⟩ (.int .i64 0)).setCell ⟨w.heap.size + 1, 1, none⟩ (.slice none 0 0)) (w.heap.size + 1) [.int .i64 0, .slice none 0 0] 55 := (Z0.set 0 _).set 1 _
    have OF : Only (w.heap.size + 1) w2 ((w2.setCell ⟨w.heap.size + 1, 0, none⟩ (.int .i64 0)).setCell ⟨w.heap.size + 1, 1, none⟩ (.slice none 0 0)) := (Only.setCell _ (w.heap.size + 1) 0 _).trans (Only.setCell _ (w.heap.size + 1) 1 _)
    have RR := ZF.rangeG
    have NF := N.trans (OF.below (B := w.heap.size) (by omega))
    have x0 := Z0.c0
    have x1 := Z0.c1
    have f0 := Z0.free 0
    have f1 := Z0.free 1
    clear OF ZF
    go_wp2
    exact bodyPost_ret (v := .tuple #[.agg #[.int .i64 0, .slice none 0 0], erV a2]) (results_twoN Tryz.results29 _ _ (w.heap.size + 1) [.int .i64 0, .slice none 0 0] d1 (erV a2) rfl rfl RR hd1 hrow1 iIp) rfl ⟨NF, .inr ⟨a2, eU3.out, rfl⟩⟩
end Go.Proofs.YtkpomobhjkikeaaGreatDoor
