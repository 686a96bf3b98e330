import Derived.Test.YtkpomobhjkikeaaGreatDoorSS41
import Derived.Test.YtkpomobhjkikeaaGreatDoorSS1
import Derived.Test.YtkpomobhjkikeaaGreatDoorRows
import Derived.Stop.LaidTwo
import Derived.LaidMore
import Derived.Test.YtkpomobhjkikeaaGreatDoorSS5
import Derived.Test.YtkpomobhjkikeaaGreatDoorSS2
import Derived.Test.YtkpomobhjkikeaaGreatDoorSS3
import Derived.Deep.RegionHeld3
import Derived.Deep.DeepCutAuto
import Derived.WalkLawsBesides
import Derived.Laws.Bits64b
import Derived.Deep.Cut
import Derived.Deep.MidRow
import Derived.Test.YtkpomobhjkikeaaGreatDoorSS7
namespace Go.Proofs.YtkpomobhjkikeaaGreatDoor
set_option maxRecDepth 100000
open Go Go.RowKit
theorem xr_byt {d b : Int} (hd : 0 ≤ d ∧ d < 256) (hb : 0 ≤ b ∧ b < 256) : 0 ≤ xr d b ∧ xr d b < 256 := by
  unfold xr
  obtain ⟨n, rfl⟩ := Int.eq_ofNat_of_zero_le hd.1
  obtain ⟨m, rfl⟩ := Int.eq_ofNat_of_zero_le hb.1
  have h1 := hd.2
  have h2 := hb.2
  rw [u8_xor_nat n m (by omega) (by omega)]
  have : n ^^^ m < 2 ^ 8 := Nat.xor_lt_two_pow (by omega) (by omega)
  exact ⟨by omega, by omega⟩
theorem xr_xr {d b : Int} (hd : 0 ≤ d ∧ d < 256) (hb : 0 ≤ b ∧ b < 256) : xr (xr d b) b = d := by
  unfold xr
  obtain ⟨n, rfl⟩ := Int.eq_ofNat_of_zero_le hd.1
  obtain ⟨m, rfl⟩ := Int.eq_ofNat_of_zero_le hb.1
  have h1 := hd.2
  have h2 := hb.2
  have h3 : n ^^^ m < 2 ^ 8 := Nat.xor_lt_two_pow (by omega) (by omega)
  rw [u8_xor_nat n m (by omega) (by omega), u8_xor_nat (n ^^^ m) m (by omega) (by omega), Nat.xor_assoc, Nat.xor_self, Nat.xor_zero]
theorem xoG_byt (ys : List Int) (c : Int) {data : List Int} (hb : Byt data) (k : Nat) : Byt (xoG ys c data k) := by
  intro i
  by_cases hi : i < data.length
  · rw [xoG_get _ _ _ _ hi]
    split
    · exact xr_byt (hb i) (stB_byt _ _)
    · exact hb i
  · rw [List.getD_eq_getElem?_getD, List.getElem?_eq_none (by rw [xoG_len]; omega)]; decide
theorem xoG_xoG (ys : List Int) (c : Int) {data : List Int} (hb : Byt data) : xoG ys c (xoG ys c data ((data.length + 63) / 64)) ((data.length + 63) / 64) = data := by
  refine eq_of_getD (by rw [xoG_len, xoG_len]) (fun i hi => ?_)
  rw [xoG_len, xoG_len] at hi
  rw [xoG_get _ _ _ _ (by rw [xoG_len]; exact hi), if_pos (by omega), xoG_get _ _ _ _ hi, if_pos (by omega)]
  exact xr_xr (hb i) (stB_byt _ _)
end Go.Proofs.YtkpomobhjkikeaaGreatDoor
namespace Go.Proofs.YtkpomobhjkikeaaGreatDoor
set_option maxRecDepth 100000
open Go Go.RowKit
def fitK (key non : List Int) : Bool := decide (key.length = 32) && decide (non.length = 12)
def xt (key non data : List Int) : List Int := xoG (nsW key non) 1 data ((data.length + 63) / 64)
theorem xt_len (key non data : List Int) : (xt key non data).length = data.length := xoG_len _ _ _ _
theorem xt_byt (key non : List Int) {data : List Int} (h : Byt data) : Byt (xt key non data) := xoG_byt _ _ h _
theorem xt_xt (key non : List Int) {data : List Int} (h : Byt data) : xt key non (xt key non data) = data := by
  show xoG _ _ (xt key non data) (((xt key non data).length + 63) / 64) = _
  rw [xt_len]
  exact xoG_xoG _ _ h
def seA (key non ex plain : List Int) : List Int := if fitK key non = true then xt key non plain ++ ssB (nsW key non) ex (xt key non plain) else []
theorem seA_len (key non ex plain : List Int) : (seA key non ex plain).length ≤ plain.length + 16 := by
  unfold seA
  split
  · rw [List.length_append, xt_len, ssB_len]; exact Nat.le_refl _
  · simp
theorem seA_byt {key non ex plain : List Int} (h : Byt plain) : Byt (seA key non ex plain) := by
  unfold seA
  split
  · exact byt_app (xt_byt _ _ h) (ssB_byt _ _ _)
  · exact byt_nil
theorem hasC_short (n : Nat) (h : n ≤ 4194304) : hasC 1 n = true := by unfold hasC; simp; omega
theorem RowB.of_block5 {w w' : World} {base q : Nat} {v : Value} {xs : List Int} (h : RowB w base v xs) (ho : Only q w w') (hq : ∀ k, v.ownBlock = some k → k ≠ q) : RowB w' base v xs := by
  refine ⟨h.1, ?_⟩
  rcases h.2 with h' | ⟨g, cap, cur, rfl, hbg, hg, hnc, hcm, hcs, ht⟩
  · exact .inl h'
  · exact .inr ⟨g, cap, cur, rfl, hbg, by rw [ho.block g (hq g rfl)]; exact hg, hnc, hcm, hcs, ht⟩
set_option maxRecDepth 100000 in
set_option maxHeartbeats 8000000 in
theorem implSeal_any (w : World) (g : Nat) (a : Option Addr) (c : Nat) (key : List Int) (hr : Rd w g a .u8 key) (hb : Byt key) (hc : key.length ≤ c) (g' : Nat) (a' : Option Addr) (c' : Nat) (non : List Int) (hr' : Rd w g' a' .u8 non) (hb' : Byt non) (hc' : non.length ≤ c')
    (ge : Nat) (ae : Option Addr) (ce : Nat) (ex : List Int) (he : Rd w ge ae .u8 ex) (eb : Byt ex) (en : ae = none → ce = 0)
    (g2 : Nat) (a2 : Option Addr) (c2 : Nat) (data : List Int) (hr2 : Rd w g2 a2 .u8 data) (db : Byt data) (hs : ex.length + data.length ≤ 4000000) :
    Calls Tryz.prog 41 #[.slice a key.length c, .slice a' non.length c', .slice ae ex.length ce, .slice a2 data.length c2] w fun e w' => (∃ v, e = .returned v ∧ RowB w' w.heap.size v (seA key non ex data)) ∧ Below w.heap.size w w' := by
  obtain ⟨i0, hi, hz0, hz1, hz2⟩ := info_parts Tryz.info5
  have IK := isKey_any w a a' key.length non.length c c'
  by_cases h1 : (decide (key.length = 32) && decide (non.length = 12)) = true
  · rw [h1] at IK
    have HC := hasC_any w 1 (by omega) (by omega) a2 data.length c2
    rw [hasC_short data.length (by omega)] at HC
    have RS : Hid (seA key non ex data = xt key non data ++ ssB (nsW key non) ex (xt key non data)) := by show _ = _; unfold seA fitK; rw [if_pos h1]
    rw [RS.out]
    simp only [Bool.and_eq_true, decide_eq_true_eq] at h1
    have NW := hide (newWords_any w g a c key hr hb h1.1 hc g' a' c' non hr' hb' h1.2 hc')
    have LY := fun W (n : Below w.heap.size w W) => hide (layOverR_any W _ (nsW_ws hb hb') (nsW_len key non) 1 (by omega) g2 a2 c2 data (hr2.up n) (by omega) (by omega))
    have XB := hide (xt_byt key non db)
    have XL := hide (xt_len key non data)
    have XT : Hid (xt key non data = xoG (nsW key non) 1 data ((data.length + 63) / 64)) := rfl
    simp only [← XT.out] at LY
    generalize xt key non data = T at *
    have SS := fun W (n : Below w.heap.size w W) gt at' ct (h : Rd W gt at' .u8 T) (p : at' = none → ct = 0) => hide (sealSum_any W _ (nsW_ws hb hb') (nsW_len key non) ge ae ce ex (he.up n) eb en gt at' ct T h XB.out p (by rw [XL.out]; exact hs))
    have SL := hide (ssB_len (nsW key non) ex T)
    have W16 : Hid (((nsW key non).map (Value.int .u32)).length = 16) := by show _ = _; rw [List.length_map]; exact nsW_len key non
    have OW := one_ints .u32 (nsW key non)
    have VW : Hid (ag .u32 (nsW key non) = Value.agg ((nsW key non).map (Value.int .u32)).toArray) := rfl
    have TL : T.length ≤ 4000000 := by rw [XL.out]; omega
    have HTL := hide TL
    clear RS h1 XT XB XL TL
    generalize ssB (nsW key non) ex T = sm at *
    rw [VW.out] at NW
    simp only [VW.out] at LY SS
    obtain ⟨nw, hnw⟩ : ∃ l, l = nsW key non := ⟨_, rfl⟩
    rw [← hnw] at W16 OW NW
    simp only [← hnw] at LY SS
    clear hnw VW
    go_enter Tryz.func41, Tryz.ntmps41
    go_wp2_with fail
    refine IK.mono ?_
    rintro e w1 ⟨rfl, h⟩
    have h := h.symm
    subst h
    go_wp2_with fail
    refine HC.mono ?_
    rintro e w1 ⟨rfl, h⟩
    have h := h.symm
    subst h
    go_wp2_with fail
    refine NW.out.mono ?_
    rintro e w2 ⟨rfl, n2⟩
    have n3 : Below w2.heap.size w2 (w2.alloc (.cells #[.int .u32 0, .int .u32 0, .int .u32 0, .int .u32 0, .int .u32 0, .int .u32 0, .int .u32 0, .int .u32 0, .int .u32 0, .int .u32 0, .int .u32 0, .int .u32 0, .int .u32 0, .int .u32 0, .int .u32 0, .int .u32 0] 101)) := (Below.refl _ _).alloc (Nat.le_refl _) _
    obtain ⟨t3, H3⟩ := blk_z16 w2 101
    have SR := blk_setRow (zs := nw) ⟨t3, H3⟩
    have OR := only_setRow (w2.alloc (.cells #[.int .u32 0, .int .u32 0, .int .u32 0, .int .u32 0, .int .u32 0, .int .u32 0, .int .u32 0, .int .u32 0, .int .u32 0, .int .u32 0, .int .u32 0, .int .u32 0, .int .u32 0, .int .u32 0, .int .u32 0, .int .u32 0] 101)) w2.heap.size (nw.map (Value.int .u32)).toArray
    obtain ⟨vw, hvw⟩ : ∃ v, v = nw.map (Value.int .u32) := ⟨_, rfl⟩
    have RGf : ∀ W q, Blk W q .u32 nw → W.rangeAt q 0 vw := fun W q h => by rw [hvw]; exact (Seg.blk h).range
    rw [← hvw] at W16 OW SR OR ⊢
    simp only [← hvw] at LY SS
    clear hvw NW IK HC
    have s2 := n2.size
    have N3 : Below w.heap.size w ((w2.alloc (.cells #[.int .u32 0, .int .u32 0, .int .u32 0, .int .u32 0, .int .u32 0, .int .u32 0, .int .u32 0, .int .u32 0, .int .u32 0, .int .u32 0, .int .u32 0, .int .u32 0, .int .u32 0, .int .u32 0, .int .u32 0, .int .u32 0] 101)).setRow w2.heap.size vw.toArray) := n2.trans ((n3.mono s2).trans (OR.below (B := w.heap.size) s2))
    have z3 : ((w2.alloc (.cells #[.int .u32 0, .int .u32 0, .int .u32 0, .int .u32 0, .int .u32 0, .int .u32 0, .int .u32 0, .int .u32 0, .int .u32 0, .int .u32 0, .int .u32 0, .int .u32 0, .int .u32 0, .int .u32 0, .int .u32 0, .int .u32 0] 101)).setRow w2.heap.size vw.toArray).heap.size = w2.heap.size + 1 := OR.size.trans (by simp)
    go_upto_region 4 with (refine wpList_store_row rfl 101 (.tmp 9) (.tmp 23) rfl w2.heap.size vw.toArray rfl rfl t3 _ H3 (by rw [List.size_toArray, W16.out]; exact infoS) (by rw [List.size_toArray, List.size_toArray, W16.out]; rfl) OW ?_)
    generalize (w2.alloc (.cells #[.int .u32 0, .int .u32 0, .int .u32 0, .int .u32 0, .int .u32 0, .int .u32 0, .int .u32 0, .int .u32 0, .int .u32 0, .int .u32 0, .int .u32 0, .int .u32 0, .int .u32 0, .int .u32 0, .int .u32 0, .int .u32 0] 101)).setRow w2.heap.size vw.toArray = w3 at *
    generalize w2.heap.size = q at *
    have RG := RGf w3 q SR
    clear n3 OR H3 OW
    go_wp2_with (refine wpList_load_mid rfl 101 (.tmp 9) rfl q 0 rfl vw (.array 16 99) RG undS rfl (by rw [W16.out]; exact infoS) ?_)
    refine (LY w3 N3).out.mono ?_
    rintro e w4 ⟨⟨v4, rfl, R4⟩, n4⟩
    obtain ⟨a4, c4, g4, rfl, o4, p4, q4, r4⟩ := R4.own
    have N4 := nxt N3 n4
    have SR4 := SR.up n4
    have RG4 := RGf w4 q SR4
    have SM := SS w4 N4 g4 a4 c4 o4.rd p4
    have s3 := N3.size
    have R4 := R4.base (base' := w.heap.size) s3
    clear LY SS SR RG n4
    go_wp2_with (refine wpList_load_mid rfl 101 (.tmp 9) rfl q 0 rfl vw (.array 16 99) RG4 undS rfl (by rw [W16.out]; exact infoS) ?_)
    refine SM.out.mono ?_
    rintro e w5 ⟨rfl, n5⟩
    have N5 := nxt N4 n5
    have R5 := R4.up n5
    clear SM RG4 SR4 RGf N4 n5 R4 o4
    have n6 : Below w5.heap.size w5 (w5.alloc (.cells #[.int .u8 0, .int .u8 0, .int .u8 0, .int .u8 0, .int .u8 0, .int .u8 0, .int .u8 0, .int .u8 0, .int .u8 0, .int .u8 0, .int .u8 0, .int .u8 0, .int .u8 0, .int .u8 0, .int .u8 0, .int .u8 0] 104)) := (Below.refl _ _).alloc (Nat.le_refl _) _
    obtain ⟨t6, H6⟩ := blk_y16 w5 104
    have SR6 := blk_setRow (zs := sm) ⟨t6, H6⟩
    have OR6 := only_setRow (w5.alloc (.cells #[.int .u8 0, .int .u8 0, .int .u8 0, .int .u8 0, .int .u8 0, .int .u8 0, .int .u8 0, .int .u8 0, .int .u8 0, .int .u8 0, .int .u8 0, .int .u8 0, .int .u8 0, .int .u8 0, .int .u8 0, .int .u8 0] 104)) w5.heap.size (sm.map (Value.int .u8)).toArray
    have L6 : Hid ((sm.map (Value.int .u8)).length = 16) := by show _ = _; rw [List.length_map]; exact SL.out
    have O6 := one_ints .u8 sm
    have V6 : Hid (ag .u8 sm = Value.agg (sm.map (Value.int .u8)).toArray) := rfl
    rw [V6.out]
    obtain ⟨v6, hv6⟩ : ∃ v, v = sm.map (Value.int .u8) := ⟨_, rfl⟩
    rw [← hv6] at SR6 OR6 L6 O6 ⊢
    clear hv6 V6
    have s5 := N5.size
    have N6 : Below w.heap.size w ((w5.alloc (.cells #[.int .u8 0, .int .u8 0, .int .u8 0, .int .u8 0, .int .u8 0, .int .u8 0, .int .u8 0, .int .u8 0, .int .u8 0, .int .u8 0, .int .u8 0, .int .u8 0, .int .u8 0, .int .u8 0, .int .u8 0, .int .u8 0] 104)).setRow w5.heap.size v6.toArray) := N5.trans ((n6.mono s5).trans (OR6.below (B := w.heap.size) s5))
    have z6 : ((w5.alloc (.cells #[.int .u8 0, .int .u8 0, .int .u8 0, .int .u8 0, .int .u8 0, .int .u8 0, .int .u8 0, .int .u8 0, .int .u8 0, .int .u8 0, .int .u8 0, .int .u8 0, .int .u8 0, .int .u8 0, .int .u8 0, .int .u8 0] 104)).setRow w5.heap.size v6.toArray).heap.size = w5.heap.size + 1 := OR6.size.trans (by simp)
    have R6 := RowB.of_block5 (R5.up n6) OR6 (fun k hk => by have := (World.ownsRow.lt R5 k hk).2; omega)
    go_upto_region 6 with (refine wpList_store_row rfl 104 (.tmp 11) (.tmp 30) rfl w5.heap.size v6.toArray rfl rfl t6 _ H6 (by rw [List.size_toArray, L6.out]; exact infoP16) (by rw [List.size_toArray, List.size_toArray, L6.out]; rfl) O6 ?_)
    generalize (w5.alloc (.cells #[.int .u8 0, .int .u8 0, .int .u8 0, .int .u8 0, .int .u8 0, .int .u8 0, .int .u8 0, .int .u8 0, .int .u8 0, .int .u8 0, .int .u8 0, .int .u8 0, .int .u8 0, .int .u8 0, .int .u8 0, .int .u8 0] 104)).setRow w5.heap.size v6.toArray = w6 at *
    obtain ⟨v7, w7, hap, o7, n7⟩ := append_any (P := Tryz.prog) w6 22 i0 Tryz.underlying22 hi hz0 hz1 hz2 w.heap.size w.heap.size _ T R6 w5.heap.size (some ⟨w5.heap.size, 0, none⟩) 16 sm SR6.own0.rd (by simp) (by have := HTL.out; have := SL.out; omega) (Nat.le_refl _) N6.size
    rw [SL.out] at hap
    have N7 := N6.trans n7
    clear n6 OR6 H6 O6 L6 N5 R5 R6 SR6 z6
    go_wp2_with (at_builtin; refine Lib.wpList_append_run _ rfl _ _ 22 22 rfl _ _ rfl rfl _ _ hap ?_)
    go_ret
    exact ⟨⟨_, rfl, o7⟩, N7⟩
  · have h1' : (decide (key.length = 32) && decide (non.length = 12)) = false := by simpa using h1
    rw [h1'] at IK
    have RS : Hid (seA key non ex data = []) := by show _ = _; unfold seA fitK; rw [if_neg h1]
    rw [RS.out]
    clear h1 h1' RS
    go_enter Tryz.func41, Tryz.ntmps41
    go_wp2_with fail
    refine IK.mono ?_
    rintro e w1 ⟨rfl, h⟩
    have h := h.symm
    subst h
    go_wp2
    go_ret
    exact ⟨⟨_, rfl, ⟨rfl, .inl ⟨rfl, rfl⟩⟩⟩, Below.refl _ _⟩
end Go.Proofs.YtkpomobhjkikeaaGreatDoor
namespace Go.Proofs.YtkpomobhjkikeaaGreatDoor
set_option maxRecDepth 100000
open Go Go.RowKit
def erV (a : Addr) : Value := .iface 189 (.pointer (some a))
structure Sen (W : World) (g : Nat) (a : Addr) : Prop where
  c : W.cell? ⟨g, 0, none⟩ = some (erV a)
  b : ∃ cs t, W.heap[a.block]? = some (.cells cs t (0, 0))
theorem Sen.up {w w' : World} {g : Nat} {a : Addr} (h : Sen w g a) (n : Below w.heap.size w w') : Sen w' g a := by
  refine ⟨(World.cell?_of_block (a := ⟨g, 0, none⟩) (n.block g (block_lt_of_cell h.c))).trans h.c, ?_⟩
  obtain ⟨cs, t, hb⟩ := h.b
  exact ⟨cs, t, (n.block a.block (Array.getElem?_eq_some_iff.1 hb).1).trans hb⟩
theorem laidVars_sub {P : Program} {W : World} {l l' : List (String × DataW Unit)} (hs : l'.Sublist l) : ∀ ps, DataW.LaidVars P W l ps → ∃ ps', DataW.LaidVars P W l' ps' ∧ ps'.Sublist ps := by
  induction hs with
  | slnil => exact fun ps h => ⟨ps, h, List.Sublist.refl _⟩
  | cons x _ ih =>
    rintro ps ⟨g, t, cs, fuel, p, q, _, _, _, _, hq, rfl⟩
    obtain ⟨q', h1, h2⟩ := ih q hq
    exact ⟨q', h1, h2.trans (List.sublist_append_right _ _)⟩
  | cons_cons x _ ih =>
    rintro ps ⟨g, t, cs, fuel, p, q, a1, a2, a3, a4, hq, rfl⟩
    obtain ⟨q', h1, h2⟩ := ih q hq
    exact ⟨_, ⟨g, t, cs, fuel, p, q', a1, a2, a3, a4, h1, rfl⟩, (List.Sublist.refl _).append h2⟩
theorem laidMet_sub {P : Program} {W : World} {l l' : List (String × DataW Unit)} (h : laidMet P l W) (hs : l'.Sublist l) : laidMet P l' W := by
  obtain ⟨ps, hv, hnd, hrows⟩ := h
  obtain ⟨ps', h1, h2⟩ := laidVars_sub hs ps hv
  exact ⟨ps', h1, hnd.sublist h2, fun b off hm => hrows b off (h2.subset hm)⟩
def erD (text : List UInt8) : DataW Unit := .iface "*errors.errorString" (.ptr (.agg [.lit (.string text)]))
theorem erStar : "*" ++ "errors.errorString" = "*errors.errorString" := by decide
theorem erRow (u : TypeId) (h : Tryz.prog.typeName? 3 u = some "*errors.errorString") : u = 189 :=
  typeName_ptr_named (nm := "errors.errorString") (by rw [erStar]; kernel_rfl) (by kernel_rfl) (by decide) u (by rw [erStar]; exact h)
theorem erCs : Tryz.prog.cellsOf 214 = 1 := by kernel_rfl
theorem erCt : Tryz.prog.cellsOf 9 = 1 := by kernel_rfl
theorem sen_of_var {W : World} {n : String} {g : Nat} {a : Addr} (hg : Tryz.prog.globalNamed n = some g) (hv : W.var? Tryz.prog n = some #[.iface 189 (.pointer (some a))]) (hb : ∃ cs t, W.heap[a.block]? = some (.cells cs t (0, 0))) : Sen W g a :=
  ⟨by have := World.var?_cell hg hv 0; simpa [erV] using this, hb⟩
theorem sen_pair {W : World} {l : List (String × DataW Unit)} (h : laidMetH Tryz.prog l W) (hp : (l.all fun x => x.2.handleName?.isNone) = true) {n0 n1 : String} {x0 x1 : List UInt8} {g0 g1 : Nat} (hs : [(n0, erD x0), (n1, erD x1)].Sublist l)
    (hg0 : Tryz.prog.globalNamed n0 = some g0) (ht0 : (Tryz.prog.globals[g0]?).map (·.type) = some 57) (hg1 : Tryz.prog.globalNamed n1 = some g1) (ht1 : (Tryz.prog.globals[g1]?).map (·.type) = some 57) :
    ∃ a0 a1, Sen W g0 a0 ∧ Sen W g1 a1 ∧ a0 ≠ a1 := by
  rw [MakeChecks.laidMetH_plain _ _ _ hp] at h
  obtain ⟨a0, a1, s0, s1, c0, c1, t0, t1, hv0, hv1, -, -, -, -, -, -, hne, hb0, hb1⟩ := laid_sentinels2 (laidMet_sub h hs) hg0 ht0 hg1 ht1 Tryz.underlying57 erRow Tryz.underlying189 Tryz.underlying214 rfl rfl Tryz.underlying9 erCs erCt
  exact ⟨a0, a1, sen_of_var hg0 hv0 ⟨_, _, hb0⟩, sen_of_var hg1 hv1 ⟨_, _, hb1⟩, hne⟩
theorem Sen.same {W : World} {g : Nat} {a a' : Addr} (h : Sen W g a) (h' : Sen W g a') : a = a' := by
  have := h.c.symm.trans h'.c
  simpa [erV] using this
theorem er_neq (a : Addr) (W : World) : (binOp BinOp.neq 57 (.iface 189 (.pointer (some a))) .nilIface).run Tryz.prog W = .ok (.bool true) W := by kernel_rfl
theorem er_eq (a : Addr) (W : World) : (binOp BinOp.eql 57 (.iface 189 (.pointer (some a))) .nilIface).run Tryz.prog W = .ok (.bool false) W := by kernel_rfl
theorem nil_neq (W : World) : (binOp BinOp.neq 57 .nilIface .nilIface).run Tryz.prog W = .ok (.bool false) W := by kernel_rfl
theorem nil_eq (W : World) : (binOp BinOp.eql 57 .nilIface .nilIface).run Tryz.prog W = .ok (.bool true) W := by kernel_rfl
end Go.Proofs.YtkpomobhjkikeaaGreatDoor
namespace Go.Proofs.YtkpomobhjkikeaaGreatDoor
set_option maxRecDepth 100000
open Go.RowKit
def bigL (v : Int) (t : Nat) : List Int := (List.range t).map fun j => v / 256 ^ (t - 1 - j) % 256
theorem bigL_len (v : Int) (t : Nat) : (bigL v t).length = t := by simp [bigL]
theorem bigL_get (v : Int) (t j : Nat) (h : j < t) : (bigL v t).getD j 0 = v / 256 ^ (t - 1 - j) % 256 := by simp [bigL, h]
theorem bigL_byt (v : Int) (t : Nat) : Byt (bigL v t) := by
  intro j
  by_cases h : j < t
  · rw [bigL_get v t j h]
    omega
  · have : (bigL v t).getD j 0 = 0 := by
      rw [List.getD_eq_getElem?_getD, List.getElem?_eq_none (by rw [bigL_len]; omega)]
      rfl
    rw [this]
    omega
def BigTo (v : Int) (t : Nat) (ys : List Int) (k : Nat) : Prop := ys.length = t ∧ ∀ j, t - k ≤ j → j < t → ys.getD j 0 = v / 256 ^ (t - 1 - j) % 256
theorem BigTo.zero (v : Int) (t : Nat) : BigTo v t (List.replicate t 0) 0 := ⟨by simp, fun j h h' => absurd h (by omega)⟩
theorem BigTo.step {v : Int} {t : Nat} {ys : List Int} {k : Nat} (h : BigTo v t ys k) (hk : k < t) : BigTo v t (ys.set (t - 1 - k) (v / 256 ^ k % 256)) (k + 1) := by
  refine ⟨by simpa using h.1, fun j hj hj' => ?_⟩
  by_cases e : t - 1 - k = j
  · subst e
    rw [getD_set_self _ _ _ (by rw [h.1]; omega), show t - 1 - (t - 1 - k) = k by omega]
  · rw [getD_set_ne _ _ _ _ e]
    exact h.2 j (by omega) hj'
theorem BigTo.all {v : Int} {t : Nat} {ys : List Int} (h : BigTo v t ys t) : ys = bigL v t :=
  eq_of_getD (by rw [h.1, bigL_len]) (fun i hi => by rw [h.1] at hi; rw [h.2 i (by omega) hi, bigL_get v t i hi])
theorem getD_apd_right (xs ys : List Int) (i : Nat) (h : xs.length ≤ i) : (xs ++ ys).getD i 0 = ys.getD (i - xs.length) 0 := by
  rw [List.getD_eq_getElem?_getD, List.getElem?_append_right h, ← List.getD_eq_getElem?_getD]
def padZ (n : Int) (B t : Nat) : Nat := (((B : Int) - (n + 1 + (t : Int)) % (B : Int)) % (B : Int)).toNat
def padL (n : Int) (B t : Nat) : List Int := 128 :: (List.replicate (padZ n B t) 0 ++ bigL (8 * n) t)
theorem padL_len (n : Int) (B t : Nat) : (padL n B t).length = 1 + padZ n B t + t := by
  unfold padL
  simp [bigL_len]
  omega
theorem byt_apd {xs ys : List Int} (h : Byt xs) (k : Byt ys) : Byt (xs ++ ys) := by
  intro j
  rw [List.getD_eq_getElem?_getD]
  by_cases c : j < xs.length
  · rw [List.getElem?_append_left c, ← List.getD_eq_getElem?_getD]
    exact h j
  · rw [List.getElem?_append_right (by omega), ← List.getD_eq_getElem?_getD]
    exact k _
theorem byt_rep0 (n : Nat) : Byt (List.replicate n 0) := by
  intro j
  rw [List.getD_eq_getElem?_getD, List.getElem?_replicate]
  split <;> simp
def padS (n : Int) (B t : Nat) : Nat := 1 + padZ n B t + t
def PadTo (n : Int) (s : Nat) (ys : List Int) (k : Nat) : Prop :=
  ys.length = s ∧ ys.getD 0 0 = 128 ∧ (∀ j, 0 < j → j < s - k → ys.getD j 0 = 0) ∧ ∀ j, s - k ≤ j → j < s → ys.getD j 0 = 8 * n / 256 ^ (s - 1 - j) % 256
theorem PadTo.zero (n : Int) (s : Nat) (h : 0 < s) : PadTo n s ((List.replicate s 0).set 0 128) 0 := by
  refine ⟨by simp, ?_, fun j h0 hj => ?_, fun j hj hj' => absurd hj (by omega)⟩
  · rw [getD_set_self _ _ _ (by simpa using h)]
  · rw [getD_set_ne _ _ _ _ (by omega)]
    rw [List.getD_eq_getElem?_getD, List.getElem?_replicate]
    split <;> rfl
theorem PadTo.step {n : Int} {s : Nat} {ys : List Int} {k : Nat} (h : PadTo n s ys k) (hk : k + 1 < s) : PadTo n s (ys.set (s - 1 - k) (8 * n / 256 ^ k % 256)) (k + 1) := by
  obtain ⟨h1, h2, h3, h4⟩ := h
  refine ⟨by simpa using h1, ?_, fun j h0 hj => ?_, fun j hj hj' => ?_⟩
  · rw [getD_set_ne _ _ _ _ (by omega)]
    exact h2
  · rw [getD_set_ne _ _ _ _ (by omega)]
    exact h3 j h0 (by omega)
  · by_cases e : s - 1 - k = j
    · subst e
      rw [getD_set_self _ _ _ (by rw [h1]; omega), show s - 1 - (s - 1 - k) = k by omega]
    · rw [getD_set_ne _ _ _ _ e]
      exact h4 j (by omega) hj'
theorem PadTo.all {n : Int} {B t : Nat} {ys : List Int} (h0 : 0 ≤ n) (h1 : n ≤ 1099511627776) (ht : t = 8 ∨ t = 16) (h : PadTo n (padS n B t) ys 8) : ys = padL n B t := by
  obtain ⟨a1, a2, a3, a4⟩ := h
  refine eq_of_getD (by rw [a1, padL_len]; rfl) (fun i hi => ?_)
  rw [a1] at hi
  have hs : padS n B t = 1 + padZ n B t + t := rfl
  unfold padL
  cases i with
  | zero => rw [a2]; rfl
  | succ i =>
    rw [List.getD_cons_succ]
    by_cases c : i < padZ n B t
    · rw [a3 _ (by omega) (by omega), List.getD_eq_getElem?_getD, List.getElem?_append_left (by simpa using c), List.getElem?_replicate, if_pos c]
      rfl
    · rw [getD_apd_right (List.replicate (padZ n B t) 0) _ i (by simpa using c), List.length_replicate, bigL_get _ _ _ (by omega)]
      by_cases d : padS n B t - 8 ≤ i + 1
      · rw [a4 _ d hi, show padS n B t - 1 - (i + 1) = t - 1 - (i - padZ n B t) by omega]
      · rw [a3 _ (by omega) (by omega)]
        obtain ⟨e, he⟩ : ∃ e, t - 1 - (i - padZ n B t) = 8 + e := ⟨t - 1 - (i - padZ n B t) - 8, by omega⟩
        rw [he, Int.pow_add]
        have hp := p256_pos e
        have hz : 8 * n / ((256 : Int) ^ 8 * 256 ^ e) = 0 := by
          refine Int.ediv_eq_zero_of_lt (by omega) ?_
          have : (256 : Int) ^ 8 * 1 ≤ 256 ^ 8 * 256 ^ e := Int.mul_le_mul_of_nonneg_left (by omega) (by decide)
          have : (256 : Int) ^ 8 = 18446744073709551616 := by decide
          omega
        rw [hz]
        rfl
end Go.Proofs.YtkpomobhjkikeaaGreatDoor
namespace Go.Proofs.YtkpomobhjkikeaaGreatDoor
set_option maxRecDepth 100000
open Go Go.RowKit
theorem bigL_takeN (n : Int) (t k : Nat) (h : k < t) : (bigL n t).take (k + 1) = (bigL n t).take k ++ [n / 256 ^ (t - 1 - k) % 256] := by
  rw [List.take_add_one]
  simp [bigL, h]
theorem RowB.nilN (w : World) (base : Nat) : RowB w base (.slice none 0 0) [] := ⟨rfl, .inl ⟨rfl, rfl⟩⟩
set_option maxHeartbeats 4000000 in
theorem appendNum_any (w : World) (base : Nat) (v : Value) (xs : List Int) (R0 : RowB w base v xs) (hb : base ≤ w.heap.size) (n : Int) (t : Nat) (ht : t ≤ 8) (hl : xs.length ≤ 1073741824) :
    Calls Tryz.prog 37 #[v, .int .i64 n, .int .i64 (t : Int)] w fun e w' => ∃ v', e = .returned v' ∧ RowB w' base v' (xs ++ bigL n t) ∧ Below base w w' := by
  obtain ⟨i0, hi, hz0, hz1, hz2⟩ := info_parts Tryz.info5
  go_enter Tryz.func37, Tryz.ntmps37
  go_wp2
  go_loopw [0, 7, 9] (fun l _ i wr => ∃ k : Nat, k ≤ t ∧ i = .int .i64 k ∧ RowB wr base l (xs ++ (bigL n t).take k) ∧ Below base w wr) (fun _ _ i _ => t - (intOf i).toNat)
  case atStart => exact ⟨0, Nat.zero_le _, rfl, by simpa using R0, Below.refl _ _⟩
  case round =>
    obtain ⟨k, hk, rfl, R, hN⟩ := hrel
    by_cases hlt : k < t
    · have hs := hN.size
      have bt := bigL_takeN n t k hlt
      obtain ⟨x, hx⟩ : ∃ x, x = n / 256 ^ (t - 1 - k) % 256 := ⟨_, rfl⟩
      rw [← hx] at bt
      have BT := hide bt
      clear bt
      have n2 : Below wr.heap.size wr (wr.alloc (.cells #[.int .u8 x] 5)) := (Below.refl _ _).alloc (Nat.le_refl _) _
      obtain ⟨v3, w3, hap3, R3, n3⟩ := append_any (P := Tryz.prog) (wr.alloc (.cells #[.int .u8 x] 5)) 22 i0 Tryz.underlying22 hi hz0 hz1 hz2 base base _ _ (R.up n2) _ _ 1 [x] (blk_lit1 wr .u8 5 x).own0.rd (by simp) (by simp; omega) (Nat.le_refl _) (by simp; omega)
      rw [List.append_assoc, ← BT.out] at R3
      have N3 := (hN.trans (n2.mono (by omega))).trans n3
      clear R n2 n3 hN BT
      have k1 : (k : Int) < (t : Int) := by omega
      obtain ⟨d, hd⟩ : ∃ d, d = t - 1 - k := ⟨_, rfl⟩
      rw [← hd] at hx
      rcases (by omega : d = 0 ∨ d = 1 ∨ d = 2 ∨ d = 3 ∨ d = 4 ∨ d = 5 ∨ d = 6 ∨ d = 7) with rfl | rfl | rfl | rfl | rfl | rfl | rfl | rfl
      · have he : (t : Int) - 1 - (k : Int) = 0 := by omega
        clear hd
        simp at hx
        replace hx := hx.symm
        go_wp2_with (at_builtin; refine Lib.wpList_append_run _ rfl _ _ 22 22 rfl _ _ rfl rfl _ _ hap3 ?_)
        clear hap3
        go_roundw
        case rel => exact ⟨k + 1, by omega, by go_num, R3, N3⟩
        case measure => simp [intOf]; omega
      · have he : (t : Int) - 1 - (k : Int) = 1 := by omega
        clear hd
        simp at hx
        replace hx := hx.symm
        go_wp2_with (at_builtin; refine Lib.wpList_append_run _ rfl _ _ 22 22 rfl _ _ rfl rfl _ _ hap3 ?_)
        clear hap3
        go_roundw
        case rel => exact ⟨k + 1, by omega, by go_num, R3, N3⟩
        case measure => simp [intOf]; omega
      · have he : (t : Int) - 1 - (k : Int) = 2 := by omega
        clear hd
        simp at hx
        replace hx := hx.symm
        go_wp2_with (at_builtin; refine Lib.wpList_append_run _ rfl _ _ 22 22 rfl _ _ rfl rfl _ _ hap3 ?_)
        clear hap3
        go_roundw
        case rel => exact ⟨k + 1, by omega, by go_num, R3, N3⟩
        case measure => simp [intOf]; omega
      · have he : (t : Int) - 1 - (k : Int) = 3 := by omega
        clear hd
        simp at hx
        replace hx := hx.symm
        go_wp2_with (at_builtin; refine Lib.wpList_append_run _ rfl _ _ 22 22 rfl _ _ rfl rfl _ _ hap3 ?_)
        clear hap3
        go_roundw
        case rel => exact ⟨k + 1, by omega, by go_num, R3, N3⟩
        case measure => simp [intOf]; omega
      · have he : (t : Int) - 1 - (k : Int) = 4 := by omega
        clear hd
        simp at hx
        replace hx := hx.symm
        go_wp2_with (at_builtin; refine Lib.wpList_append_run _ rfl _ _ 22 22 rfl _ _ rfl rfl _ _ hap3 ?_)
        clear hap3
        go_roundw
        case rel => exact ⟨k + 1, by omega, by go_num, R3, N3⟩
        case measure => simp [intOf]; omega
      · have he : (t : Int) - 1 - (k : Int) = 5 := by omega
        clear hd
        simp at hx
        replace hx := hx.symm
        go_wp2_with (at_builtin; refine Lib.wpList_append_run _ rfl _ _ 22 22 rfl _ _ rfl rfl _ _ hap3 ?_)
        clear hap3
        go_roundw
        case rel => exact ⟨k + 1, by omega, by go_num, R3, N3⟩
        case measure => simp [intOf]; omega
      · have he : (t : Int) - 1 - (k : Int) = 6 := by omega
        clear hd
        simp at hx
        replace hx := hx.symm
        go_wp2_with (at_builtin; refine Lib.wpList_append_run _ rfl _ _ 22 22 rfl _ _ rfl rfl _ _ hap3 ?_)
        clear hap3
        go_roundw
        case rel => exact ⟨k + 1, by omega, by go_num, R3, N3⟩
        case measure => simp [intOf]; omega
      · have he : (t : Int) - 1 - (k : Int) = 7 := by omega
        clear hd
        simp at hx
        replace hx := hx.symm
        go_wp2_with (at_builtin; refine Lib.wpList_append_run _ rfl _ _ 22 22 rfl _ _ rfl rfl _ _ hap3 ?_)
        clear hap3
        go_roundw
        case rel => exact ⟨k + 1, by omega, by go_num, R3, N3⟩
        case measure => simp [intOf]; omega
    · obtain rfl : k = t := by omega
      rw [List.take_of_length_le (by rw [bigL_len]; exact Nat.le_refl _)] at R
      go_wp2
      go_ret
      exact ⟨_, rfl, R, hN⟩
set_option maxRecDepth 100000 in
set_option maxHeartbeats 1000000 in
theorem cloneR_any (w : World) (g : Nat) (a : Option Addr) (c : Nat) (xs : List Int) (h : Rd w g a .u8 xs) (hz : a = none → c = 0) (m : xs.length ≤ 1099511627776) : Calls Tryz.prog 21 #[.slice a xs.length c] w fun e w' => ∃ v', e = .returned v' ∧ RowB w' w.heap.size v' xs ∧ Below w.heap.size w w' := by
  obtain ⟨i0, hi, hz0, hz1, hz2⟩ := info_parts Tryz.info5
  cases a with
  | none =>
    obtain rfl : xs = [] := by
      by_cases h0 : 0 < xs.length
      · obtain ⟨off, e, _⟩ := h h0
        simp at e
      · exact List.eq_nil_of_length_eq_zero (by omega)
    obtain rfl := hz rfl
    have b0 : ∀ W, (binOp BinOp.eql 22 (.slice none 0 0) (.slice none 0 0)).run Tryz.prog W = .ok (.bool true) W := fun W => by kernel_rfl
    go_enter Tryz.func21, Tryz.ntmps21
    go_wp2
    go_ret
    exact ⟨_, rfl, RowB.nilN _ _, Below.refl _ _⟩
  | some ad =>
    have n0 : Below w.heap.size w (w.alloc (.cells #[] 5)) := (Below.refl _ _).alloc (Nat.le_refl _) _
    have r := h.up n0
    obtain ⟨v1, w1, hap, R1, n1⟩ := append_any (P := Tryz.prog) (w.alloc (.cells #[] 5)) 22 i0 Tryz.underlying22 hi hz0 hz1 hz2 w.heap.size w.heap.size _ _ (RowB.lit0 w) g (some ad) c xs r (by simp) (by simp; omega) (Nat.le_refl _) n0.size
    have N1 := n0.trans n1
    rw [List.nil_append] at R1
    have b0 : ∀ W, (binOp BinOp.eql 22 (.slice (some ad) xs.length c) (.slice none 0 0)).run Tryz.prog W = .ok (.bool false) W := fun W => by kernel_rfl
    clear n0 n1 r m h
    go_enter Tryz.func21, Tryz.ntmps21
    go_wp2_with (at_builtin; refine Lib.wpList_append_run _ rfl _ _ 22 22 rfl _ _ rfl rfl _ _ hap ?_)
    go_ret
    exact ⟨_, rfl, R1, N1⟩
end Go.Proofs.YtkpomobhjkikeaaGreatDoor
namespace Go.Proofs.YtkpomobhjkikeaaGreatDoor
set_option maxRecDepth 100000
open Go Go.RowKit
def isK (k : Int) : Bool := k == 21 || k == 22 || k == 23
theorem isKind_any (w : World) (k : Int) : Calls Tryz.prog 35 #[.int .i64 k] w fun e w' => e = .returned (.bool (isK k)) ∧ w' = w := by
  by_cases h0 : k = 21
  · subst h0
    go_enter Tryz.func35, Tryz.ntmps35
    go_wp2
    go_ret
    exact ⟨rfl, rfl⟩
  by_cases h1 : k = 22
  · subst h1
    go_enter Tryz.func35, Tryz.ntmps35
    go_wp2
    go_ret
    exact ⟨rfl, rfl⟩
  by_cases h2 : k = 23
  · subst h2
    go_enter Tryz.func35, Tryz.ntmps35
    go_wp2
    go_ret
    exact ⟨rfl, rfl⟩
  have e : isK k = false := by simp [isK, h0, h1, h2]
  have q0 : (k == 21) = false := by simp [h0]
  have q1 : (k == 22) = false := by simp [h1]
  have q2 : (k == 23) = false := by simp [h2]
  have q3 : Hid ((k == 21 || k == 22 || k == 23) = false) := by show _ = _; rw [q0, q1, q2]; rfl
  rw [e]
  go_enter Tryz.func35, Tryz.ntmps35
  go_wp2
  go_ret
  exact ⟨by first | rfl | (rw [show false = (k == 21 || k == 22 || k == 23) from q3.out.symm]; rfl), rfl⟩
def hfV (a1 a2 : Addr) (k n : Int) : Value := if isK k = true then (if 1 ≤ n ∧ n ≤ 2321 then .nilIface else erV a2) else erV a1
set_option maxHeartbeats 1000000 in
theorem fault_any (w : World) (k n : Int) (a1 a2 : Addr) (h1 : Sen w 1 a1) (h2 : Sen w 5 a2) :
    Calls Tryz.prog 43 #[.agg #[.int .i64 k, .int .i64 n]] w fun e w' => e = .returned (hfV a1 a2 k n) ∧ Below w.heap.size w w' := by
  have n0 : Below w.heap.size w (w.alloc (.cells #[.int .i64 k, .int .i64 n] 61)) := (Below.refl _ _).alloc (Nat.le_refl _) _
  have c1 := (h1.up n0).c
  have c2 := (h2.up n0).c
  have KD := fun W => hide (isKind_any W k)
  obtain ⟨v, hv⟩ : ∃ v, v = hfV a1 a2 k n := ⟨_, rfl⟩
  rw [← hv]
  unfold erV at c1 c2
  by_cases hk : isK k = true
  · by_cases hlo : n < 1
    · have e : Hid (v = .iface 189 (.pointer (some a2))) := by show _ = _; rw [hv, hfV, if_pos hk, if_neg (by omega)]; rfl
      have q1 : decide (n < 1) = true := by simpa using hlo
      rw [hk] at KD
      clear hv h1 h2 hk
      go_enter Tryz.func43, Tryz.ntmps43
      go_wp2_with fail
      refine (KD _).out.mono ?_
      rintro e w' ⟨rfl, rfl⟩
      go_wp2
      go_ret
      exact ⟨by rw [e.out]; rfl, n0⟩
    · by_cases hhi : 2321 < n
      · have e : Hid (v = .iface 189 (.pointer (some a2))) := by show _ = _; rw [hv, hfV, if_pos hk, if_neg (by omega)]; rfl
        have q1 : decide (n < 1) = false := by simpa using hlo
        have q2 : decide (2321 < n) = true := by simpa using hhi
        rw [hk] at KD
        clear hv h1 h2 hk
        go_enter Tryz.func43, Tryz.ntmps43
        go_wp2_with fail
        refine (KD _).out.mono ?_
        rintro e w' ⟨rfl, rfl⟩
        go_wp2
        go_ret
        exact ⟨by rw [e.out]; rfl, n0⟩
      · have e : Hid (v = .nilIface) := by show _ = _; rw [hv, hfV, if_pos hk, if_pos (by omega)]
        have q1 : decide (n < 1) = false := by simpa using hlo
        have q2 : decide (2321 < n) = false := by simpa using hhi
        rw [hk] at KD
        clear hv h1 h2 hk
        go_enter Tryz.func43, Tryz.ntmps43
        go_wp2_with fail
        refine (KD _).out.mono ?_
        rintro e w' ⟨rfl, rfl⟩
        go_wp2
        go_ret
        exact ⟨by rw [e.out]; rfl, n0⟩
  · have e : Hid (v = .iface 189 (.pointer (some a1))) := by show _ = _; rw [hv, hfV, if_neg hk]; rfl
    have hk' : isK k = false := by simpa using hk
    rw [hk'] at KD
    clear hv h1 h2 hk hk'
    go_enter Tryz.func43, Tryz.ntmps43
    go_wp2_with fail
    refine (KD _).out.mono ?_
    rintro e w' ⟨rfl, rfl⟩
    go_wp2
    go_ret
    exact ⟨by rw [e.out]; rfl, n0⟩
def hdL (k n : Int) : List Int := bigL k 1 ++ bigL n 2
theorem hdL_len (k n : Int) : (hdL k n).length = 3 := by rw [hdL, List.length_append, bigL_len, bigL_len]
set_option maxHeartbeats 1000000 in
theorem headBytes_any (w : World) (k n : Int) :
    Calls Tryz.prog 40 #[.agg #[.int .i64 k, .int .i64 n]] w fun e w' => ∃ v, e = .returned v ∧ RowB w' w.heap.size v (hdL k n) ∧ Below w.heap.size w w' := by
  have n0 : Below w.heap.size w (w.alloc (.cells #[.int .i64 k, .int .i64 n] 61)) := (Below.refl _ _).alloc (Nat.le_refl _) _
  have k0 : (w.alloc (.cells #[.int .i64 k, .int .i64 n] 61)).cell? ⟨w.heap.size, 0, none⟩ = some (.int .i64 k) := by simp [World.cell?_alloc_at]
  have k1 : (w.alloc (.cells #[.int .i64 k, .int .i64 n] 61)).cell? ⟨w.heap.size, 1, none⟩ = some (.int .i64 n) := by simp [World.cell?_alloc_at]
  go_enter Tryz.func40, Tryz.ntmps40
  go_upto_region 1 with fail
  generalize w.alloc (.cells #[.int .i64 k, .int .i64 n] 61) = wb at *
  have CY : Hid (∀ W, Below wb.heap.size wb W → W.cell? ⟨w.heap.size, 0, none⟩ = some (.int .i64 k) ∧ W.cell? ⟨w.heap.size, 1, none⟩ = some (.int .i64 n)) := fun W m =>
    ⟨(World.cell?_of_block (a := ⟨w.heap.size, 0, none⟩) (m.block _ (block_lt_of_cell k0))).trans k0, (World.cell?_of_block (a := ⟨w.heap.size, 1, none⟩) (m.block _ (block_lt_of_cell k1))).trans k1⟩
  have A1 : Hid (∀ W, Below wb.heap.size wb W → Calls Tryz.prog 37 #[.slice none 0 0, .int .i64 k, .int .i64 1] W fun e w' => ∃ v', e = .returned v' ∧ RowB w' wb.heap.size v' (bigL k 1) ∧ Below wb.heap.size wb w') := fun W m => (appendNum_any W wb.heap.size _ _ (RowB.nilN W _) m.size k 1 (by decide) (by simp)).mono (by
    rintro e w' ⟨v, rfl, R, l⟩
    exact ⟨v, rfl, by simpa using R, m.trans l⟩)
  have A2 : Hid (∀ W v, Below wb.heap.size wb W → RowB W wb.heap.size v (bigL k 1) → Calls Tryz.prog 37 #[v, .int .i64 n, .int .i64 2] W fun e w' => ∃ v', e = .returned v' ∧ RowB w' wb.heap.size v' (hdL k n) ∧ Below wb.heap.size wb w') := fun W v m R => (appendNum_any W wb.heap.size _ _ R m.size n 2 (by decide) (by rw [bigL_len]; decide)).mono (by
    rintro e w' ⟨v, rfl, R, l⟩
    exact ⟨v, rfl, R, m.trans l⟩)
  have nd : Below wb.heap.size wb wb.drew := (Below.refl _ _).drew
  clear k0 k1
  go_region_held3 (fun W => W.cell? ⟨w.heap.size, 0, none⟩ = some (.int .i64 k) ∧ W.cell? ⟨w.heap.size, 1, none⟩ = some (.int .i64 n))
    (first | exact (unhide CY) _ b8 | exact (unhide CY) _ b5 | exact (unhide CY) _ nd)
    (first
      | (go_at_call 37; refine ((unhide A2) _ _ b5 R5).mono ?_; rintro r w8 ⟨v8, rfl, R8, b8⟩)
      | (go_at_call 37; refine ((unhide A1) _ nd).mono ?_; rintro r w5 ⟨v5, rfl, R5, b5⟩)
      | fail)
  all_goals
    go_wp2
    go_ret
    exact ⟨_, rfl, R8.base n0.size, nxt n0 b8⟩
def enA (k : Int) (xs : List Int) : List Int := if isK k = true ∧ 1 ≤ xs.length ∧ xs.length ≤ 2321 then hdL k (xs.length : Int) ++ xs else []
end Go.Proofs.YtkpomobhjkikeaaGreatDoor
namespace Go.Proofs.YtkpomobhjkikeaaGreatDoor
set_option maxRecDepth 100000
open Go.RowKit
end Go.Proofs.YtkpomobhjkikeaaGreatDoor
namespace Go.Proofs.YtkpomobhjkikeaaGreatDoor
set_option maxRecDepth 100000
open Go Go.RowKit
def Cur (w : World) (p : Nat) (l : Value) (i : Int) : Prop := ∃ t, w.heap[p]? = some (.cells #[l, .int .i64 i] t (0, 0))
theorem Cur.c0 {w : World} {p : Nat} {l : Value} {i : Int} (h : Cur w p l i) : w.cell? ⟨p, 0, none⟩ = some l := by
  obtain ⟨t, h⟩ := h
  simp [World.cell?, h]
theorem Cur.c1 {w : World} {p : Nat} {l : Value} {i : Int} (h : Cur w p l i) : w.cell? ⟨p, 1, none⟩ = some (.int .i64 i) := by
  obtain ⟨t, h⟩ := h
  simp [World.cell?, h]
theorem Cur.f1 {w : World} {p : Nat} {l : Value} {i : Int} (h : Cur w p l i) : w.frozen? ⟨p, 1, none⟩ = false := by
  obtain ⟨t, h⟩ := h
  simp [World.frozen?, h]
theorem Cur.lt {w : World} {p : Nat} {l : Value} {i : Int} (h : Cur w p l i) : p < w.heap.size := by
  obtain ⟨t, h⟩ := h
  exact (Array.getElem?_eq_some_iff.1 h).1
theorem Cur.of_block {w w' : World} {p : Nat} {l : Value} {i : Int} (h : Cur w p l i) (hb : w'.heap[p]? = w.heap[p]?) : Cur w' p l i := by
  obtain ⟨t, h⟩ := h
  exact ⟨t, hb.trans h⟩
theorem Cur.up {w w' : World} {p : Nat} {l : Value} {i : Int} (h : Cur w p l i) (n : Below w.heap.size w w') : Cur w' p l i := h.of_block (n.block p h.lt)
theorem Cur.drew {w : World} {p : Nat} {l : Value} {i : Int} (h : Cur w p l i) (n : Nat) : Cur (w.drewN n) p l i := h
theorem Cur.store {w : World} {p : Nat} {l : Value} {i : Int} (h : Cur w p l i) (j : Int) : Cur (w.setCell ⟨p, 1, none⟩ (.int .i64 j)) p l j := by
  obtain ⟨t, h⟩ := h
  refine ⟨t, ?_⟩
  show (w.heap.modify p _)[p]? = _
  rw [Array.getElem?_modify, if_pos rfl, h]
  rfl
def Tl (w : World) (p : Nat) (x y : Value) : Prop := ∃ t, w.heap[p]? = some (.cells #[x, y] t (0, 0))
theorem Tl.c0 {w : World} {p : Nat} {x y : Value} (h : Tl w p x y) : w.cell? ⟨p, 0, none⟩ = some x := by
  obtain ⟨t, h⟩ := h
  simp [World.cell?, h]
theorem Tl.c1 {w : World} {p : Nat} {x y : Value} (h : Tl w p x y) : w.cell? ⟨p, 1, none⟩ = some y := by
  obtain ⟨t, h⟩ := h
  simp [World.cell?, h]
theorem Tl.fr {w : World} {p : Nat} {x y : Value} (h : Tl w p x y) (i : Nat) : w.frozen? ⟨p, i, none⟩ = false := by
  obtain ⟨t, h⟩ := h
  simp [World.frozen?, h]
theorem Tl.lt {w : World} {p : Nat} {x y : Value} (h : Tl w p x y) : p < w.heap.size := by
  obtain ⟨t, h⟩ := h
  exact (Array.getElem?_eq_some_iff.1 h).1
theorem Tl.of_block {w w' : World} {p : Nat} {x y : Value} (h : Tl w p x y) (hb : w'.heap[p]? = w.heap[p]?) : Tl w' p x y := by
  obtain ⟨t, h⟩ := h
  exact ⟨t, hb.trans h⟩
theorem Tl.up {w w' : World} {p : Nat} {x y : Value} (h : Tl w p x y) (n : Below w.heap.size w w') : Tl w' p x y := h.of_block (n.block p h.lt)
theorem Tl.only {w w' : World} {p q : Nat} {x y : Value} (h : Tl w p x y) (n : Only q w w') (hne : p ≠ q) : Tl w' p x y := h.of_block (n.block p hne)
theorem Tl.new (w : World) (x y : Value) (t : TypeId) : Tl (w.alloc (.cells #[x, y] t)) w.heap.size x y := by
  refine ⟨t, ?_⟩
  show (w.heap.push _)[w.heap.size]? = _
  simp
set_option maxHeartbeats 1000000 in
theorem take_ok (w : World) (p g : Nat) (a : Option Addr) (c : Nat) (xs : List Int) (i : Nat) (hC : Cur w p (.slice a xs.length c) i) (hr : Rd w g a .u8 xs) (hi : i < xs.length) (hn : xs.length ≤ 9223372036854775807) :
    Calls Tryz.prog 90 #[.pointer (some ⟨p, 0, none⟩)] w fun e w' => e = .returned (.int .u8 (xs.getD i 0)) ∧ Cur w' p (.slice a xs.length c) ((i + 1 : Nat) : Int) ∧ Only p w w' := by
  obtain ⟨off, rfl, hc⟩ := hr (by omega)
  have h1 := hc i hi
  have c0 := hC.c0
  have c1 := hC.c1
  have f1 := hC.f1
  have t1 : decide ((i : Int) < 0) = false := by simp
  have t2 : decide ((xs.length : Int) ≤ (i : Int)) = false := by simp; omega
  have t3 : (i : Int) < (xs.length : Int) := by omega
  have K := fun k => hide (show Cur ((w.drewN k).setCell ⟨p, 1, none⟩ (.int .i64 ((i : Int) + 1))) p (.slice (some ⟨g, off, none⟩) xs.length c) ((i + 1 : Nat) : Int) from by have := (hC.drew k).store ((i : Int) + 1); rwa [show ((i : Int) + 1) = ((i + 1 : Nat) : Int) by omega] at this ⊢)
  generalize xs.getD i 0 = x at *
  generalize xs.length = n at *
  clear hc hC
  go_enter Tryz.func90, Tryz.ntmps90
  go_wp2
  go_quiet (fail)
  go_wp2
  go_quiet (fail)
  go_wp2
  go_ret
  exact ⟨rfl, (K _).out, (Only.drewN w p _).trans (Only.setCell _ _ _ _)⟩
end Go.Proofs.YtkpomobhjkikeaaGreatDoor
namespace Go.Proofs.YtkpomobhjkikeaaGreatDoor
set_option maxRecDepth 100000
def Bts (x : Int) (L : Nat) : Prop := 0 ≤ x ∧ x < 2 ^ L ∧ (L = 0 ∨ 2 ^ (L - 1) ≤ x)
theorem Bts.le {x : Int} {L k : Nat} (h : Bts x L) (hx : x < 2 ^ k) : L ≤ k := by
  by_cases c : L ≤ k
  · exact c
  · rcases h.2.2 with h0 | h0
    · omega
    · have : (2 : Int) ^ k ≤ 2 ^ (L - 1) := by exact_mod_cast Nat.pow_le_pow_right (by decide) (by omega)
      omega
end Go.Proofs.YtkpomobhjkikeaaGreatDoor
namespace Go.Proofs.YtkpomobhjkikeaaGreatDoor
set_option maxRecDepth 100000
open Go Go.RowKit
theorem ofInt64 (v : Int) : ((BitVec.ofInt 64 v).toNat : Int) = v % 18446744073709551616 := by
  rw [BitVec.toNat_ofInt]
  rw [Int.toNat_of_nonneg (Int.emod_nonneg _ (by decide))]
  rfl
theorem wrap_i64 (n : Int) : IntKind.i64.wrap n = (n + 9223372036854775808) % 18446744073709551616 - 9223372036854775808 := by
  simp [IntKind.wrap, IntKind.signed, IntKind.bits]
  omega
theorem or_byte (v x : Int) (h0 : -9223372036854775808 ≤ v * 256) (h1 : v * 256 < 9223372036854775808) (x0 : 0 ≤ x) (x1 : x < 256) : bits .or .i64 (v * 256) x = v * 256 + x := by
  have e : bits .or .i64 (v * 256) x = IntKind.i64.wrap ((BitVec.ofInt 64 (v * 256) ||| BitVec.ofInt 64 x).toNat : Int) := rfl
  rw [e, wrap_i64, BitVec.toNat_or]
  have a := ofInt64 (v * 256)
  have b := ofInt64 x
  obtain ⟨m, hm⟩ : ∃ m, (BitVec.ofInt 64 (v * 256)).toNat = 2 ^ 8 * m := ⟨(BitVec.ofInt 64 (v * 256)).toNat / 256, by omega⟩
  obtain ⟨y, hy⟩ : ∃ y, (BitVec.ofInt 64 x).toNat = y := ⟨_, rfl⟩
  rw [hm, hy, ← Nat.two_pow_add_eq_or_of_lt (by omega)]
  rw [hm] at a
  rw [hy] at b
  omega
end Go.Proofs.YtkpomobhjkikeaaGreatDoor
namespace Go.Proofs.YtkpomobhjkikeaaGreatDoor
set_option maxRecDepth 100000
open Go Go.RowKit
def beN (xs : List Int) (i : Nat) : Nat → Int
  | 0 => 0
  | k + 1 => beN xs i k * 256 + xs.getD (i + k) 0
theorem beN_rng {xs : List Int} (h : Byt xs) (i : Nat) : ∀ k, 0 ≤ beN xs i k ∧ beN xs i k < 256 ^ k
  | 0 => ⟨Int.le_refl _, by simp [beN]⟩
  | k + 1 => by
    have ih := beN_rng h i k
    have b := h (i + k)
    rw [beN, Int.pow_succ]
    omega
theorem Rd.of_block' {w w' : World} {g : Nat} {a : Option Addr} {k : IntKind} {xs : List Int} (h : Rd w g a k xs) (hb : 0 < xs.length → w'.heap[g]? = w.heap[g]?) : Rd w' g a k xs := by
  by_cases h0 : 0 < xs.length
  · exact h.of_block (hb h0)
  · exact fun q => absurd q h0
set_option maxHeartbeats 1000000 in
theorem curNum_any (w : World) (p g : Nat) (a : Option Addr) (c : Nat) (xs : List Int) (i t : Nat) (hC : Cur w p (.slice a xs.length c) i) (hr : Rd w g a .u8 xs) (hb : Byt xs) (hgp : 0 < xs.length → g ≠ p) (hi : i + t ≤ xs.length) (ht : t ≤ 4) (hn : xs.length ≤ 4194304) :
    Calls Tryz.prog 63 #[.pointer (some ⟨p, 0, none⟩), .int .i64 (t : Int)] w fun e w' => e = .returned (.int .i64 (beN xs i t)) ∧ Cur w' p (.slice a xs.length c) ((i + t : Nat) : Int) ∧ Only p w w' := by
  go_enter Tryz.func63, Tryz.ntmps63
  go_wp2
  go_loopw [5, 7] (fun v j wr => ∃ k : Nat, k ≤ t ∧ v = .int .i64 (beN xs i k) ∧ j = .int .i64 k ∧ Cur wr p (.slice a xs.length c) ((i + k : Nat) : Int) ∧ Only p w wr) (fun _ j _ => t - (intOf j).toNat)
  case atStart => exact ⟨0, Nat.zero_le _, rfl, rfl, hC, Only.refl _ _⟩
  case round =>
    obtain ⟨k, hk, rfl, rfl, C, O⟩ := hrel
    by_cases hlt : k < t
    · have TK := hide (take_ok wr p g a c xs (i + k) C (hr.of_block' (fun h => O.block g (hgp h))) (by omega) (by omega))
      have R := beN_rng hb i k
      have bx := hb (i + k)
      have p4 : beN xs i k < 16777216 := by
        rcases (by omega : k = 0 ∨ k = 1 ∨ k = 2 ∨ k = 3) with rfl | rfl | rfl | rfl
        all_goals (have := R.2; simp at this; omega)
      have OR := or_byte (beN xs i k) (xs.getD (i + k) 0) (by omega) (by omega) bx.1 bx.2
      have e : Hid (beN xs i (k + 1) = beN xs i k * 256 + xs.getD (i + k) 0) := rfl
      generalize beN xs i k = m at *
      generalize xs.getD (i + k) 0 = x at *
      have R0 := R.1
      have x0 := bx.1
      have x1 := bx.2
      have k1 : (k : Int) < (t : Int) := by omega
      clear R bx C
      go_wp2_with fail
      refine TK.out.mono ?_
      rintro r w' ⟨rfl, C', O'⟩
      clear TK
      go_wp2
      go_roundw
      case rel => exact ⟨k + 1, by omega, by rw [e.out], by go_num, C', O.trans O'⟩
      case measure => simp [intOf]; omega
    · obtain rfl : k = t := by omega
      go_wp2
      go_ret
      exact ⟨rfl, C, O⟩
end Go.Proofs.YtkpomobhjkikeaaGreatDoor
namespace Go.Proofs.YtkpomobhjkikeaaGreatDoor
set_option maxRecDepth 100000
open Go Go.RowKit
def RwC (w : World) (q : Nat) (cs : List Value) (t : TypeId) : Prop := w.heap[q]? = some (.cells cs.toArray t (0, 0))
theorem RwC.new (w : World) (cs : List Value) (t : TypeId) : RwC (w.alloc (.cells cs.toArray t)) w.heap.size cs t := heap_alloc_new w _
theorem RwC.lt {w : World} {q : Nat} {cs : List Value} {t : TypeId} (h : RwC w q cs t) : q < w.heap.size := (Array.getElem?_eq_some_iff.1 h).1
theorem RwC.up {w w' : World} {q : Nat} {cs : List Value} {t : TypeId} (h : RwC w q cs t) (n : Below w.heap.size w w') : RwC w' q cs t := (n.block q h.lt).trans h
theorem RwC.cell {w : World} {q : Nat} {cs : List Value} {t : TypeId} (h : RwC w q cs t) (i : Nat) : w.cell? ⟨q, i, none⟩ = cs[i]? := by
  rw [cell_of_row w q i _ _ (0, 0) h]
  simp
theorem RwC.free {w : World} {q : Nat} {cs : List Value} {t : TypeId} (h : RwC w q cs t) (i : Nat) : w.frozen? ⟨q, i, none⟩ = false := frozen_of_row w q i _ t h
theorem RwC.set {w : World} {q : Nat} {cs : List Value} {t : TypeId} (h : RwC w q cs t) (i : Nat) (v : Value) : RwC (w.setCell ⟨q, i, none⟩ v) q (cs.set i v) t := by
  show (w.heap.modify q _)[q]? = _
  rw [Array.getElem?_modify, if_pos rfl, show w.heap[q]? = _ from h]
  simp
theorem RwC.push {w : World} {q : Nat} {cs : List Value} {t : TypeId} (h : RwC w q cs t) (o : Obj) : RwC (w.alloc o) q cs t := h.up ((Below.refl _ _).alloc (Nat.le_refl _) o)
structure TMs (w W : World) (tL tM : TypeId) (src zer cs : List Value) : Prop where
  S : RwC W w.heap.size src tL
  U : RwC W (w.heap.size + 1) zer tM
  T : RwC W (w.heap.size + 1 + 1) cs tM
  N : Below w.heap.size w W
theorem TMs.new (w : World) (tL tM : TypeId) (src zer : List Value) : TMs w (((w.alloc (.cells src.toArray tL)).alloc (.cells zer.toArray tM)).alloc (.cells zer.toArray tM)) tL tM src zer zer := by
  have z1 : (w.alloc (.cells src.toArray tL)).heap.size = w.heap.size + 1 := by simp
  have n1 : Below w.heap.size w (w.alloc (.cells src.toArray tL)) := (Below.refl _ _).alloc (Nat.le_refl _) _
  have s1 := RwC.new w src tL
  generalize w.alloc (.cells src.toArray tL) = a at *
  have z2 : (a.alloc (.cells zer.toArray tM)).heap.size = a.heap.size + 1 := by simp
  have n2 : Below a.heap.size a (a.alloc (.cells zer.toArray tM)) := (Below.refl _ _).alloc (Nat.le_refl _) _
  have s2 := RwC.new a zer tM
  generalize a.alloc (.cells zer.toArray tM) = b at *
  have n3 : Below b.heap.size b (b.alloc (.cells zer.toArray tM)) := (Below.refl _ _).alloc (Nat.le_refl _) _
  have s3 := RwC.new b zer tM
  rw [z2, z1] at s3
  rw [z1] at s2
  exact ⟨(s1.up n2).up n3, s2.up n3, s3, nxt (nxt n1 n2) n3⟩
theorem TMs.up {w W W' : World} {tL tM : TypeId} {src zer cs : List Value} (h : TMs w W tL tM src zer cs) (m : Below W.heap.size W W') : TMs w W' tL tM src zer cs := ⟨h.S.up m, h.U.up m, h.T.up m, nxt h.N m⟩
theorem RwC.onl {w w' : World} {q r : Nat} {cs : List Value} {t : TypeId} (h : RwC w q cs t) (O : Only r w w') (hne : q ≠ r) : RwC w' q cs t := (O.block q hne).trans h
theorem TMs.set {w W : World} {tL tM : TypeId} {src zer cs : List Value} (h : TMs w W tL tM src zer cs) (i : Nat) (v : Value) : TMs w (W.setCell ⟨w.heap.size + 1 + 1, i, none⟩ v) tL tM src zer (cs.set i v) := by
  have O := Only.setCell W (w.heap.size + 1 + 1) i v
  exact ⟨h.S.onl O (by omega), h.U.onl O (by omega), h.T.set i v, h.N.trans (O.below (by omega))⟩
theorem only_setG (w : World) (q : Nat) : ∀ (vs : List Value) (o : Nat), Only q w (w.setCells q o vs)
  | [], _ => Only.refl _ _
  | v :: vs, o => (Only.setCell w q o v).trans (only_setG _ q vs (o + 1))
theorem RwC.thereG {w : World} {q : Nat} {cs : List Value} {t : TypeId} (h : RwC w q cs t) : w.there q 0 cs.length := fun j hj => by
  rw [Nat.zero_add, h.cell j, h.free j]
  exact ⟨by simp [hj], rfl⟩
theorem results_cellG {P : Program} {fn : Func} {p : Tmp} {ty : TypeId} (h : fn.results = #[.cell p ty]) (tmps : Array Value) (w : World) (g : Nat) (cs : List Value) (d : TypeDesc)
    (hp : tmps.getD p undef = .pointer (some ⟨g, 0, none⟩)) (hc : w.rangeAt g 0 cs) (hu : P.underlying ty = some d) (hd : d.isRow = true) (hi : (P.info? ty).map (·.size) = some cs.length) :
    (results fn tmps).run P w = .ok (.agg cs.toArray) w := by
  have hp' : tmps[p]?.getD undef = .pointer (some ⟨g, 0, none⟩) := by simpa using hp
  simp [results, h, hp', asAddr, run_loadVar_mid w g 0 ty cs d hc hu hd hi]
theorem RwC.rangeG {w : World} {q : Nat} {cs : List Value} {t : TypeId} (h : RwC w q cs t) : w.rangeAt q 0 cs := fun j v hj => by
  rw [Nat.zero_add]
  exact (h.cell j).trans hj
end Go.Proofs.YtkpomobhjkikeaaGreatDoor
namespace Go.Proofs.YtkpomobhjkikeaaGreatDoor
set_option maxRecDepth 100000
open Go Go.RowKit
structure Tch (S : List Nat) (w w' : World) : Prop where
  os : w'.os = w.os
  tape : w'.tape = w.tape
  output : w'.output = w.output
  size : w.heap.size ≤ w'.heap.size
  block : ∀ b, b < w.heap.size → b ∉ S → w'.heap[b]? = w.heap[b]?
theorem Tch.trans {a b c : World} {S T : List Nat} (h : Tch S a b) (k : Tch T b c) : Tch (S ++ T) a c :=
  ⟨k.os.trans h.os, k.tape.trans h.tape, k.output.trans h.output, Nat.le_trans h.size k.size, fun x hx hn => (k.block x (Nat.lt_of_lt_of_le hx h.size) (fun m => hn (List.mem_append_right _ m))).trans (h.block x hx (fun m => hn (List.mem_append_left _ m)))⟩
theorem Tch.below {w w' : World} {S : List Nat} {B : Nat} (h : Tch S w w') (hB : B ≤ w.heap.size) (hS : ∀ s ∈ S, B ≤ s) : Below B w w' := ⟨h.os, h.tape, h.output, h.size, fun k hk => h.block k (by omega) (fun m => by have := hS k m; omega)⟩
theorem Tch.mono {w w' : World} {S T : List Nat} (h : Tch S w w') (hs : ∀ s ∈ S, s ∈ T) : Tch T w w' := ⟨h.os, h.tape, h.output, h.size, fun b hb hn => h.block b hb (fun m => hn (hs b m))⟩
theorem RwC.c0 {w : World} {q : Nat} {x : Value} {cs : List Value} {t : TypeId} (h : RwC w q (x :: cs) t) : w.cell? ⟨q, 0, none⟩ = some x := h.cell 0
theorem RwC.c1 {w : World} {q : Nat} {x y : Value} {cs : List Value} {t : TypeId} (h : RwC w q (x :: y :: cs) t) : w.cell? ⟨q, 1, none⟩ = some y := h.cell 1
theorem RwC.c2 {w : World} {q : Nat} {x y z : Value} {cs : List Value} {t : TypeId} (h : RwC w q (x :: y :: z :: cs) t) : w.cell? ⟨q, 2, none⟩ = some z := h.cell 2
end Go.Proofs.YtkpomobhjkikeaaGreatDoor
namespace Go.Proofs.YtkpomobhjkikeaaGreatDoor
set_option maxRecDepth 100000
open Go Go.RowKit
theorem results_twoC {P : Program} {fn : Func} {p t : Tmp} {ty : TypeId} (h : fn.results = #[.cell p ty, .tmp t]) (tmps : Array Value) (w : World) (g : Nat) (cs : List Value) (d : TypeDesc) (v : Value)
    (hp : tmps.getD p undef = .pointer (some ⟨g, 0, none⟩)) (ht : tmps.getD t undef = v) (hc : w.rangeAt g 0 cs) (hu : P.underlying ty = some d) (hd : d.isRow = true) (hi : (P.info? ty).map (·.size) = some cs.length) :
    (results fn tmps).run P w = .ok (.tuple #[.agg cs.toArray, v]) w := by
  have hp' : tmps[p]?.getD undef = .pointer (some ⟨g, 0, none⟩) := by simpa using hp
  have ht' : tmps[t]?.getD undef = v := by simpa using ht
  simp [results, h, hp', ht', asAddr, run_loadVar_mid w g 0 ty cs d hc hu hd hi]
theorem iRh : (Tryz.prog.info? 61).map (·.size) = some 2 := by kernel_rfl
theorem rowRh : ∃ d, Tryz.prog.underlying 61 = some d ∧ d.isRow = true := ⟨_, Tryz.underlying61, rfl⟩
def rhE (a0 a1 : Addr) (xs : List Int) : Option Addr := if xs.length = 0 then some a0 else if isK (beN xs 0 1) = true then (if xs.length < 3 then some a0 else none) else some a1
set_option maxHeartbeats 4000000 in
theorem readHead_any (w : World) (g : Nat) (a : Option Addr) (c : Nat) (xs : List Int) (hr : Rd w g a .u8 xs) (hb : Byt xs) (hn : xs.length ≤ 1048576) (a0 a1 : Addr) (h0 : Sen w 0 a0) (h1 : Sen w 1 a1) :
    Calls Tryz.prog 42 #[.slice a xs.length c] w fun e w' => Below w.heap.size w w' ∧
      ((rhE a0 a1 xs = none ∧ e = .returned (.tuple #[.agg #[.int .i64 (beN xs 0 1), .int .i64 (beN xs 1 2)], .nilIface])) ∨ (∃ x, rhE a0 a1 xs = some x ∧ e = .returned (.tuple #[.agg #[.int .i64 0, .int .i64 0], erV x]))) := by
  obtain ⟨d1, hd1, hrow1⟩ := rowRh
  have n0 : Below w.heap.size w (w.alloc (.cells #[.int .i64 0, .int .i64 0] 61)) := (Below.refl _ _).alloc (Nat.le_refl _) _
  have Z0 : RwC (w.alloc (.cells #[.int .i64 0, .int .i64 0] 61)) w.heap.size [.int .i64 0, .int .i64 0] 61 := RwC.new w _ _
  have eR : Hid (rhE a0 a1 xs = if xs.length = 0 then some a0 else if isK (beN xs 0 1) = true then (if xs.length < 3 then some a0 else none) else some a1) := rfl
  generalize rhE a0 a1 xs = E at *
  by_cases hz : xs.length = 0
  · have u0 : ((xs.length : Int) == 0) = true := by rw [hz]; rfl
    have u1 : decide ((xs.length : Int) = 0) = true := decide_eq_true (by omega)
    have e1 : Hid (E = some a0) := by show _ = _; rw [eR.out, if_pos hz]
    clear eR hz hr
    go_enter Tryz.func42, Tryz.ntmps42
    go_upto_region 1 with fail
    generalize w.alloc (.cells #[.int .i64 0, .int .i64 0] 61) = wa at *
    have ZF : RwC ((wa.setCell ⟨w.heap.size, 0, none⟩ (.int .i64 0)).setCell ⟨w.heap.size, 1, none⟩ (.int .i64 0)) (w.heap.size) [.int .i64 0, .int .i64 0] 61 := (Z0.set 0 _).set 1 _
    have OF : Only (w.heap.size) wa ((wa.setCell ⟨w.heap.size, 0, none⟩ (.int .i64 0)).setCell ⟨w.heap.size, 1, none⟩ (.int .i64 0)) := (Only.setCell _ (w.heap.size) 0 _).trans (Only.setCell _ (w.heap.size) 1 _)
    have cg := (h0.up n0).c
    unfold erV at cg
    have kg : ((wa.setCell ⟨w.heap.size, 0, none⟩ (.int .i64 0)).setCell ⟨w.heap.size, 1, none⟩ (.int .i64 0)).cell? ⟨0, 0, none⟩ = some (.iface 189 (.pointer (some a0))) := (World.cell?_of_block (a := ⟨0, 0, none⟩) (OF.block 0 (by have : 0 < w.heap.size := block_lt_of_cell h0.c; omega))).trans cg
    have RR := ZF.rangeG
    have NF := n0.trans (OF.below (B := w.heap.size) (by omega))
    have x0 := Z0.c0
    have x1 := Z0.c1
    have f0 := Z0.free 0
    have f1 := Z0.free 1
    clear OF ZF
    go_wp2
    go_region
    all_goals
      go_wp2
      exact bodyPost_ret (v := .tuple #[.agg #[.int .i64 0, .int .i64 0], erV a0]) (results_twoC Tryz.results42 _ _ (w.heap.size) [.int .i64 0, .int .i64 0] d1 (erV a0) rfl rfl RR hd1 hrow1 iRh) rfl ⟨NF.drew, .inr ⟨a0, e1.out, rfl⟩⟩
  · have u0 : ((xs.length : Int) == 0) = false := beq_eq_false_iff_ne.2 (by omega)
    have u1 : decide ((xs.length : Int) = 0) = false := decide_eq_false (by omega)
    have gl := hr.lt (by omega)
    have KN := hide fun W => isKind_any W (beN xs 0 1)
    go_enter Tryz.func42, Tryz.ntmps42
    go_upto_region 1 with fail
    generalize w.alloc (.cells #[.int .i64 0, .int .i64 0] 61) = wa at *
    have n1 : Below wa.heap.size wa (wa.alloc (.cells #[.slice a xs.length c, .int .i64 0] 108)) := (Below.refl _ _).alloc (Nat.le_refl _) _
    have C0 : Cur (wa.alloc (.cells #[.slice a xs.length c, .int .i64 0] 108)) wa.heap.size (.slice a xs.length c) 0 := ⟨108, heap_alloc_new wa _⟩
    have lZ := Z0.lt
    have NM := hide (curNum_any (wa.alloc (.cells #[.slice a xs.length c, .int .i64 0] 108)) wa.heap.size g a c xs 0 1 C0 ((hr.up n0).up n1) hb (fun _ => by omega) (by omega) (by omega) (by omega))
    have N1 := nxt n0 n1
    have Z1 := Z0.up n1
    clear C0 n1
    go_wp2_with fail
    generalize wa.alloc (.cells #[.slice a xs.length c, .int .i64 0] 108) = wb at *
    refine NM.out.mono ?_
    rintro e w1 ⟨rfl, C1, O1⟩
    have N2 := N1.trans (O1.below (B := w.heap.size) (by have := n0.size; omega))
    have Z2 := Z1.onl O1 (by omega)
    clear NM N1 Z1
    go_wp2_with fail
    refine (KN.out w1).mono ?_
    rintro e w2 ⟨rfl, hw⟩
    have hw := hw.symm
    subst hw
    by_cases hk : isK (beN xs 0 1) = true
    · rw [hk]
      by_cases h3 : xs.length < 3
      · have u3 : decide ((xs.length : Int) < 3) = true := by simp; omega
        have e1 : Hid (E = some a0) := by show _ = _; rw [eR.out, if_neg hz, if_pos hk, if_pos h3]
        clear eR hz hr hk KN C1 O1
        have ZF : RwC ((w1.setCell ⟨w.heap.size, 0, none⟩ (.int .i64 0)).setCell ⟨w.heap.size, 1, none⟩ (.int .i64 0)) (w.heap.size) [.int .i64 0, .int .i64 0] 61 := (Z2.set 0 _).set 1 _
        have OF : Only (w.heap.size) w1 ((w1.setCell ⟨w.heap.size, 0, none⟩ (.int .i64 0)).setCell ⟨w.heap.size, 1, none⟩ (.int .i64 0)) := (Only.setCell _ (w.heap.size) 0 _).trans (Only.setCell _ (w.heap.size) 1 _)
        have cg := (h0.up N2).c
        unfold erV at cg
        have kg : ((w1.setCell ⟨w.heap.size, 0, none⟩ (.int .i64 0)).setCell ⟨w.heap.size, 1, none⟩ (.int .i64 0)).cell? ⟨0, 0, none⟩ = some (.iface 189 (.pointer (some a0))) := (World.cell?_of_block (a := ⟨0, 0, none⟩) (OF.block 0 (by have : 0 < w.heap.size := block_lt_of_cell h0.c; omega))).trans cg
        have RR := ZF.rangeG
        have NF := N2.trans (OF.below (B := w.heap.size) (by omega))
        have x0 := Z2.c0
        have x1 := Z2.c1
        have f0 := Z2.free 0
        have f1 := Z2.free 1
        clear OF ZF
        go_wp2
        go_region
        all_goals
          go_wp2
          exact bodyPost_ret (v := .tuple #[.agg #[.int .i64 0, .int .i64 0], erV a0]) (results_twoC Tryz.results42 _ _ (w.heap.size) [.int .i64 0, .int .i64 0] d1 (erV a0) rfl rfl RR hd1 hrow1 iRh) rfl ⟨NF.drew, .inr ⟨a0, e1.out, rfl⟩⟩
      · have u3 : decide ((xs.length : Int) < 3) = false := by simp; omega
        have e1 : Hid (E = none) := by show _ = _; rw [eR.out, if_neg hz, if_pos hk, if_neg h3]
        have NM := hide (curNum_any w1 wa.heap.size g a c xs 1 2 C1 (hr.up N2) hb (fun _ => by have := n0.size; omega) (by omega) (by omega) (by omega))
        clear eR hz hk KN C1
        go_wp2_with fail
        refine NM.out.mono ?_
        rintro e w3 ⟨rfl, C3, O3⟩
        have N3 := N2.trans (O3.below (B := w.heap.size) (by have := n0.size; omega))
        have Z3 := Z2.onl O3 (by omega)
        have ZF : RwC ((w3.setCell ⟨w.heap.size, 0, none⟩ (.int .i64 (beN xs 0 1))).setCell ⟨w.heap.size, 1, none⟩ (.int .i64 (beN xs 1 2))) w.heap.size [.int .i64 (beN xs 0 1), .int .i64 (beN xs 1 2)] 61 := (Z3.set 0 _).set 1 _
        have OF : Only w.heap.size w3 ((w3.setCell ⟨w.heap.size, 0, none⟩ (.int .i64 (beN xs 0 1))).setCell ⟨w.heap.size, 1, none⟩ (.int .i64 (beN xs 1 2))) := (Only.setCell _ w.heap.size 0 _).trans (Only.setCell _ w.heap.size 1 _)
        have RR := ZF.rangeG
        have NF := N3.trans (OF.below (B := w.heap.size) (by omega))
        have x0 := Z3.c0
        have x1 := Z3.c1
        have f0 := Z3.free 0
        have f1 := Z3.free 1
        clear OF ZF NM C3 O3 O1 hr
        go_wp2
        exact bodyPost_ret (v := .tuple #[.agg #[.int .i64 (beN xs 0 1), .int .i64 (beN xs 1 2)], .nilIface]) (results_twoC Tryz.results42 _ _ w.heap.size [.int .i64 (beN xs 0 1), .int .i64 (beN xs 1 2)] d1 .nilIface rfl rfl RR hd1 hrow1 iRh) rfl ⟨NF, .inl ⟨e1.out, rfl⟩⟩
    · have hk2 : isK (beN xs 0 1) = false := by simpa using hk
      rw [hk2]
      have e1 : Hid (E = some a1) := by show _ = _; rw [eR.out, if_neg hz, if_neg hk]
      clear eR hz hr hk hk2 KN C1 O1
      have ZF : RwC ((w1.setCell ⟨w.heap.size, 0, none⟩ (.int .i64 0)).setCell ⟨w.heap.size, 1, none⟩ (.int .i64 0)) (w.heap.size) [.int .i64 0, .int .i64 0] 61 := (Z2.set 0 _).set 1 _
      have OF : Only (w.heap.size) w1 ((w1.setCell ⟨w.heap.size, 0, none⟩ (.int .i64 0)).setCell ⟨w.heap.size, 1, none⟩ (.int .i64 0)) := (Only.setCell _ (w.heap.size) 0 _).trans (Only.setCell _ (w.heap.size) 1 _)
      have cg := (h1.up N2).c
      unfold erV at cg
      have kg : ((w1.setCell ⟨w.heap.size, 0, none⟩ (.int .i64 0)).setCell ⟨w.heap.size, 1, none⟩ (.int .i64 0)).cell? ⟨1, 0, none⟩ = some (.iface 189 (.pointer (some a1))) := (World.cell?_of_block (a := ⟨1, 0, none⟩) (OF.block 1 (by have : 1 < w.heap.size := block_lt_of_cell h1.c; omega))).trans cg
      have RR := ZF.rangeG
      have NF := N2.trans (OF.below (B := w.heap.size) (by omega))
      have x0 := Z2.c0
      have x1 := Z2.c1
      have f0 := Z2.free 0
      have f1 := Z2.free 1
      clear OF ZF
      go_wp2
      go_region
      all_goals
        go_wp2
        exact bodyPost_ret (v := .tuple #[.agg #[.int .i64 0, .int .i64 0], erV a1]) (results_twoC Tryz.results42 _ _ (w.heap.size) [.int .i64 0, .int .i64 0] d1 (erV a1) rfl rfl RR hd1 hrow1 iRh) rfl ⟨NF.drew, .inr ⟨a1, e1.out, rfl⟩⟩
end Go.Proofs.YtkpomobhjkikeaaGreatDoor
namespace Go.Proofs.YtkpomobhjkikeaaGreatDoor
set_option maxRecDepth 100000
open Go Go.RowKit
def TyB (w : World) (g : Nat) : Prop := ∃ cur, w.heap[g]? = some (.cells cur 5 (0, 0))
theorem TyB.of_made {w : World} {base g n : Nat} {xs : List Value} (h : w.ownsRow base 5 1 (.slice (some ⟨g, 0, none⟩) n n) n xs) : TyB w g := by
  rcases h.2 with ⟨h', _⟩ | ⟨g', cap', cur, h', _, hg, _⟩
  · simp at h'
  · simp only [Value.slice.injEq, Option.some.injEq, Addr.mk.injEq, and_true, true_and] at h'
    obtain ⟨rfl, rfl⟩ := h'
    exact ⟨cur, hg⟩
theorem TyB.set {w : World} {g : Nat} (h : TyB w g) (i : Nat) (v : Value) : TyB (w.setCell ⟨g, i, none⟩ v) g := by
  obtain ⟨cur, h⟩ := h
  exact ⟨_, heap_setCell_same w g i _ 5 _ h⟩
theorem RowB.of_tyb {w : World} {g B : Nat} {ys : List Int} (h : Blk w g .u8 ys) (t : TyB w g) (hB : B ≤ g) (hl : ys.length ≤ 1048576) : RowB w B (.slice (some ⟨g, 0, none⟩) ys.length ys.length) ys := by
  obtain ⟨e, h⟩ := h
  obtain ⟨cur, t⟩ := t
  rw [t] at h
  simp only [Option.some.injEq, Obj.cells.injEq, and_true] at h
  obtain ⟨rfl, rfl⟩ := h
  refine ⟨by simp, .inr ⟨g, ys.length, _, rfl, hB, t, Nat.le_refl _, by unfold maxLen; omega, by simp, ?_⟩⟩
  show List.take (ys.length * 1) (List.map (Value.int .u8) ys) = _
  exact List.take_of_length_le (by simp)
end Go.Proofs.YtkpomobhjkikeaaGreatDoor
namespace Go.Proofs.YtkpomobhjkikeaaGreatDoor
set_option maxRecDepth 100000
open Go Go.RowKit
end Go.Proofs.YtkpomobhjkikeaaGreatDoor
namespace Go.Proofs.YtkpomobhjkikeaaGreatDoor
set_option maxRecDepth 100000
open Go Go.RowKit
structure PrC (w : World) (p : Nat) (x y : Value) : Prop where
  c0 : w.cell? ⟨p, 0, none⟩ = some x
  c1 : w.cell? ⟨p, 1, none⟩ = some y
theorem PrC.up {w w' : World} {p : Nat} {x y : Value} (h : PrC w p x y) (n : Below w.heap.size w w') : PrC w' p x y :=
  ⟨(World.cell?_of_block (a := ⟨p, 0, none⟩) (n.block p (block_lt_of_cell h.c0))).trans h.c0, (World.cell?_of_block (a := ⟨p, 1, none⟩) (n.block p (block_lt_of_cell h.c0))).trans h.c1⟩
theorem PrC.lt {w : World} {p : Nat} {x y : Value} (h : PrC w p x y) : p < w.heap.size := block_lt_of_cell h.c0
theorem PrC.new (w : World) (x y : Value) (t : TypeId) : PrC (w.alloc (.cells #[x, y] t)) w.heap.size x y := ⟨by simp [World.cell?_alloc_at], by simp [World.cell?_alloc_at]⟩
end Go.Proofs.YtkpomobhjkikeaaGreatDoor
