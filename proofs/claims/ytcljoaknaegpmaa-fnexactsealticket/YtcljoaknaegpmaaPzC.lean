
/-
  The program's Seal (written by gens/pzc.py).
-/
import Derived.Test.YtcljoaknaegpmaaPzB
import Derived.Test.YtcljoaknaegpmaaCcR
import Derived.Test.YtcljoaknaegpmaaPtN
namespace Go.Proofs.Ytcljoaknaegpmaa
open Go Go.RowKit

/-- Key and nonce have their lengths. -/
def fitK (key non : List Int) : Bool := decide (key.length = 32) && decide (non.length = 12)
/-- The stream from the first block on, laid over a text. -/
def xt (key non data : List Int) : List Int := xoG (nsW key non) 1 data ((data.length + 63) / 64)
theorem xt_len (key non data : List Int) : (xt key non data).length = data.length := xoG_len _ _ _ _
theorem xt_byt (key non : List Int) {data : List Int} (h : Byt data) : Byt (xt key non data) := xoG_byt _ _ h _
theorem xt_xt (key non : List Int) {data : List Int} (h : Byt data) : xt key non (xt key non data) = data := by
  show xoG _ _ (xt key non data) (((xt key non data).length + 63) / 64) = _
  rw [xt_len]
  exact xoG_xoG _ _ h
/-- What Seal answers. -/
def seA (key non ex plain : List Int) : List Int := if fitK key non = true then xt key non plain ++ ssB (nsW key non) ex (xt key non plain) else []
theorem seA_len (key non ex plain : List Int) : (seA key non ex plain).length ≤ plain.length + 16 := by
  unfold seA
  split
  · rw [List.length_append, xt_len, ssB_len]; exact Nat.le_refl _
  · simp
theorem seA_byt {key non ex plain : List Int} (h : Byt plain) : Byt (seA key non ex plain) := by
  unfold seA
  split
  · exact byt_app (xt_byt _ _ h) (ssB_byt _ _ _)
  · exact byt_nil
theorem hasC_short (n : Nat) (h : n ≤ 4194304) : hasC 1 n = true := by unfold hasC; simp; omega

theorem RowB.of_block5 {w w' : World} {base q : Nat} {v : Value} {xs : List Int} (h : RowB w base v xs) (ho : Only q w w') (hq : ∀ k, v.ownBlock = some k → k ≠ q) : RowB w' base v xs := by
  refine ⟨h.1, ?_⟩
  rcases h.2 with h' | ⟨g, cap, cur, rfl, hbg, hg, hnc, hcm, hcs, ht⟩
  · exact .inl h'
  · exact .inr ⟨g, cap, cur, rfl, hbg, by rw [ho.block g (hq g rfl)]; exact hg, hnc, hcm, hcs, ht⟩
set_option maxRecDepth 100000 in
set_option maxHeartbeats 8000000 in
theorem implSeal_any (w : World) (g : Nat) (a : Option Addr) (c : Nat) (key : List Int) (hr : Rd w g a .u8 key) (hb : Byt key) (hc : key.length ≤ c) (g' : Nat) (a' : Option Addr) (c' : Nat) (non : List Int) (hr' : Rd w g' a' .u8 non) (hb' : Byt non) (hc' : non.length ≤ c')
    (ge : Nat) (ae : Option Addr) (ce : Nat) (ex : List Int) (he : Rd w ge ae .u8 ex) (eb : Byt ex) (en : ae = none → ce = 0)
    (g2 : Nat) (a2 : Option Addr) (c2 : Nat) (data : List Int) (hr2 : Rd w g2 a2 .u8 data) (db : Byt data) (hs : ex.length + data.length ≤ 4000000) :
    Calls Try.prog 28 #[.slice a key.length c, .slice a' non.length c', .slice ae ex.length ce, .slice a2 data.length c2] w fun e w' => (∃ v, e = .returned v ∧ RowB w' w.heap.size v (seA key non ex data)) ∧ Below w.heap.size w w' := by
  obtain ⟨i0, hi, hz0, hz1, hz2⟩ := info_parts Try.info5
  have IK := isKey_any w a a' key.length non.length c c'
  by_cases h1 : (decide (key.length = 32) && decide (non.length = 12)) = true
  · rw [h1] at IK
    have HC := hasC_any w 1 (by omega) (by omega) a2 data.length c2
    rw [hasC_short data.length (by omega)] at HC
    have RS : Hid (seA key non ex data = xt key non data ++ ssB (nsW key non) ex (xt key non data)) := by show _ = _; unfold seA fitK; rw [if_pos h1]
    rw [RS.out]
    simp only [Bool.and_eq_true, decide_eq_true_eq] at h1
    have NW := hide (newWords_any w g a c key hr hb h1.1 hc g' a' c' non hr' hb' h1.2 hc')
    have LY := fun W (n : Below w.heap.size w W) => hide (layOverR_any W _ (nsW_ws hb hb') (nsW_len key non) 1 (by omega) g2 a2 c2 data (hr2.up n) (by omega) (by omega))
    have XB := hide (xt_byt key non db)
    have XL := hide (xt_len key non data)
    have XT : Hid (xt key non data = xoG (nsW key non) 1 data ((data.length + 63) / 64)) := rfl
    simp only [← XT.out] at LY
    generalize xt key non data = T at *
    have SS := fun W (n : Below w.heap.size w W) gt at' ct (h : Rd W gt at' .u8 T) (p : at' = none → ct = 0) => hide (sealSum_any W _ (nsW_ws hb hb') (nsW_len key non) ge ae ce ex (he.up n) eb en gt at' ct T h XB.out p (by rw [XL.out]; exact hs))
    have SL := hide (ssB_len (nsW key non) ex T)
    have W16 : Hid (((nsW key non).map (Value.int .u32)).length = 16) := by show _ = _; rw [List.length_map]; exact nsW_len key non
    have OW := one_ints .u32 (nsW key non)
    have VW : Hid (ag .u32 (nsW key non) = Value.agg ((nsW key non).map (Value.int .u32)).toArray) := rfl
    have TL : T.length ≤ 4000000 := by rw [XL.out]; omega
    have HTL := hide TL
    clear RS h1 XT XB XL TL
    generalize ssB (nsW key non) ex T = sm at *
    rw [VW.out] at NW
    simp only [VW.out] at LY SS
    obtain ⟨nw, hnw⟩ : ∃ l, l = nsW key non := ⟨_, rfl⟩
    rw [← hnw] at W16 OW NW
    simp only [← hnw] at LY SS
    clear hnw VW
    go_enter Try.func28, Try.ntmps28
    go_wp2_with fail
    refine IK.mono ?_
    rintro e w1 ⟨rfl, h⟩
    have h := h.symm
    subst h
    go_wp2_with fail
    refine HC.mono ?_
    rintro e w1 ⟨rfl, h⟩
    have h := h.symm
    subst h
    go_wp2_with fail
    refine NW.out.mono ?_
    rintro e w2 ⟨rfl, n2⟩
    have n3 : Below w2.heap.size w2 (w2.alloc (.cells #[.int .u32 0, .int .u32 0, .int .u32 0, .int .u32 0, .int .u32 0, .int .u32 0, .int .u32 0, .int .u32 0, .int .u32 0, .int .u32 0, .int .u32 0, .int .u32 0, .int .u32 0, .int .u32 0, .int .u32 0, .int .u32 0] 59)) := (Below.refl _ _).alloc (Nat.le_refl _) _
    obtain ⟨t3, H3⟩ := blk_z16 w2 59
    have SR := blk_setRow (zs := nw) ⟨t3, H3⟩
    have OR := only_setRow (w2.alloc (.cells #[.int .u32 0, .int .u32 0, .int .u32 0, .int .u32 0, .int .u32 0, .int .u32 0, .int .u32 0, .int .u32 0, .int .u32 0, .int .u32 0, .int .u32 0, .int .u32 0, .int .u32 0, .int .u32 0, .int .u32 0, .int .u32 0] 59)) w2.heap.size (nw.map (Value.int .u32)).toArray
    obtain ⟨vw, hvw⟩ : ∃ v, v = nw.map (Value.int .u32) := ⟨_, rfl⟩
    have RGf : ∀ W q, Blk W q .u32 nw → W.rangeAt q 0 vw := fun W q h => by rw [hvw]; exact (Seg.blk h).range
    rw [← hvw] at W16 OW SR OR ⊢
    simp only [← hvw] at LY SS
    clear hvw NW IK HC
    have s2 := n2.size
    have N3 : Below w.heap.size w ((w2.alloc (.cells #[.int .u32 0, .int .u32 0, .int .u32 0, .int .u32 0, .int .u32 0, .int .u32 0, .int .u32 0, .int .u32 0, .int .u32 0, .int .u32 0, .int .u32 0, .int .u32 0, .int .u32 0, .int .u32 0, .int .u32 0, .int .u32 0] 59)).setRow w2.heap.size vw.toArray) := n2.trans ((n3.mono s2).trans (OR.below (B := w.heap.size) s2))
    have z3 : ((w2.alloc (.cells #[.int .u32 0, .int .u32 0, .int .u32 0, .int .u32 0, .int .u32 0, .int .u32 0, .int .u32 0, .int .u32 0, .int .u32 0, .int .u32 0, .int .u32 0, .int .u32 0, .int .u32 0, .int .u32 0, .int .u32 0, .int .u32 0] 59)).setRow w2.heap.size vw.toArray).heap.size = w2.heap.size + 1 := OR.size.trans (by simp)
    go_upto_region 4 with (refine wpList_store_row rfl 59 (.tmp 9) (.tmp 23) rfl w2.heap.size vw.toArray rfl rfl t3 _ H3 (by rw [List.size_toArray, W16.out]; exact infoS) (by rw [List.size_toArray, List.size_toArray, W16.out]; rfl) OW ?_)
    generalize (w2.alloc (.cells #[.int .u32 0, .int .u32 0, .int .u32 0, .int .u32 0, .int .u32 0, .int .u32 0, .int .u32 0, .int .u32 0, .int .u32 0, .int .u32 0, .int .u32 0, .int .u32 0, .int .u32 0, .int .u32 0, .int .u32 0, .int .u32 0] 59)).setRow w2.heap.size vw.toArray = w3 at *
    generalize w2.heap.size = q at *
    have RG := RGf w3 q SR
    clear n3 OR H3 OW
    go_wp2_with (refine wpList_load_mid rfl 59 (.tmp 9) rfl q 0 rfl vw (.array 16 57) RG undS rfl (by rw [W16.out]; exact infoS) ?_)
    refine (LY w3 N3).out.mono ?_
    rintro e w4 ⟨⟨v4, rfl, R4⟩, n4⟩
    obtain ⟨a4, c4, g4, rfl, o4, p4, q4, r4⟩ := R4.own
    have N4 := nxt N3 n4
    have SR4 := SR.up n4
    have RG4 := RGf w4 q SR4
    have SM := SS w4 N4 g4 a4 c4 o4.rd p4
    have s3 := N3.size
    have R4 := R4.base (base' := w.heap.size) s3
    clear LY SS SR RG n4
    go_wp2_with (refine wpList_load_mid rfl 59 (.tmp 9) rfl q 0 rfl vw (.array 16 57) RG4 undS rfl (by rw [W16.out]; exact infoS) ?_)
    refine SM.out.mono ?_
    rintro e w5 ⟨rfl, n5⟩
    have N5 := nxt N4 n5
    have R5 := R4.up n5
    clear SM RG4 SR4 RGf N4 n5 R4 o4
    have n6 : Below w5.heap.size w5 (w5.alloc (.cells #[.int .u8 0, .int .u8 0, .int .u8 0, .int .u8 0, .int .u8 0, .int .u8 0, .int .u8 0, .int .u8 0, .int .u8 0, .int .u8 0, .int .u8 0, .int .u8 0, .int .u8 0, .int .u8 0, .int .u8 0, .int .u8 0] 62)) := (Below.refl _ _).alloc (Nat.le_refl _) _
    obtain ⟨t6, H6⟩ := blk_y16 w5 62
    have SR6 := blk_setRow (zs := sm) ⟨t6, H6⟩
    have OR6 := only_setRow (w5.alloc (.cells #[.int .u8 0, .int .u8 0, .int .u8 0, .int .u8 0, .int .u8 0, .int .u8 0, .int .u8 0, .int .u8 0, .int .u8 0, .int .u8 0, .int .u8 0, .int .u8 0, .int .u8 0, .int .u8 0, .int .u8 0, .int .u8 0] 62)) w5.heap.size (sm.map (Value.int .u8)).toArray
    have L6 : Hid ((sm.map (Value.int .u8)).length = 16) := by show _ = _; rw [List.length_map]; exact SL.out
    have O6 := one_ints .u8 sm
    have V6 : Hid (ag .u8 sm = Value.agg (sm.map (Value.int .u8)).toArray) := rfl
    rw [V6.out]
    obtain ⟨v6, hv6⟩ : ∃ v, v = sm.map (Value.int .u8) := ⟨_, rfl⟩
    rw [← hv6] at SR6 OR6 L6 O6 ⊢
    clear hv6 V6
    have s5 := N5.size
    have N6 : Below w.heap.size w ((w5.alloc (.cells #[.int .u8 0, .int .u8 0, .int .u8 0, .int .u8 0, .int .u8 0, .int .u8 0, .int .u8 0, .int .u8 0, .int .u8 0, .int .u8 0, .int .u8 0, .int .u8 0, .int .u8 0, .int .u8 0, .int .u8 0, .int .u8 0] 62)).setRow w5.heap.size v6.toArray) := N5.trans ((n6.mono s5).trans (OR6.below (B := w.heap.size) s5))
    have z6 : ((w5.alloc (.cells #[.int .u8 0, .int .u8 0, .int .u8 0, .int .u8 0, .int .u8 0, .int .u8 0, .int .u8 0, .int .u8 0, .int .u8 0, .int .u8 0, .int .u8 0, .int .u8 0, .int .u8 0, .int .u8 0, .int .u8 0, .int .u8 0] 62)).setRow w5.heap.size v6.toArray).heap.size = w5.heap.size + 1 := OR6.size.trans (by simp)
    have R6 := RowB.of_block5 (R5.up n6) OR6 (fun k hk => by have := (World.ownsRow.lt R5 k hk).2; omega)
    go_upto_region 6 with (refine wpList_store_row rfl 62 (.tmp 11) (.tmp 30) rfl w5.heap.size v6.toArray rfl rfl t6 _ H6 (by rw [List.size_toArray, L6.out]; exact infoP16) (by rw [List.size_toArray, List.size_toArray, L6.out]; rfl) O6 ?_)
    generalize (w5.alloc (.cells #[.int .u8 0, .int .u8 0, .int .u8 0, .int .u8 0, .int .u8 0, .int .u8 0, .int .u8 0, .int .u8 0, .int .u8 0, .int .u8 0, .int .u8 0, .int .u8 0, .int .u8 0, .int .u8 0, .int .u8 0, .int .u8 0] 62)).setRow w5.heap.size v6.toArray = w6 at *
    obtain ⟨v7, w7, hap, o7, n7⟩ := append_any (P := Try.prog) w6 22 i0 Try.underlying22 hi hz0 hz1 hz2 w.heap.size w.heap.size _ T R6 w5.heap.size (some ⟨w5.heap.size, 0, none⟩) 16 sm SR6.own0.rd (by simp) (by have := HTL.out; have := SL.out; omega) (Nat.le_refl _) N6.size
    rw [SL.out] at hap
    have N7 := N6.trans n7
    clear n6 OR6 H6 O6 L6 N5 R5 R6 SR6 z6
    go_wp2_with (at_builtin; refine Lib.wpList_append_run _ rfl _ _ 22 22 rfl _ _ rfl rfl _ _ hap ?_)
    go_ret
    exact ⟨⟨_, rfl, o7⟩, N7⟩
  · have h1' : (decide (key.length = 32) && decide (non.length = 12)) = false := by simpa using h1
    rw [h1'] at IK
    have RS : Hid (seA key non ex data = []) := by show _ = _; unfold seA fitK; rw [if_neg h1]
    rw [RS.out]
    clear h1 h1' RS
    go_enter Try.func28, Try.ntmps28
    go_wp2_with fail
    refine IK.mono ?_
    rintro e w1 ⟨rfl, h⟩
    have h := h.symm
    subst h
    go_wp2
    go_ret
    exact ⟨⟨_, rfl, ⟨rfl, .inl ⟨rfl, rfl⟩⟩⟩, Below.refl _ _⟩
end Go.Proofs.Ytcljoaknaegpmaa
