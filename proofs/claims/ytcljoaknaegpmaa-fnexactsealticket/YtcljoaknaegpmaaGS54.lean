import Derived.Test.YtcljoaknaegpmaaGS53
import Derived.Test.YtcljoaknaegpmaaCcF
import Derived.Test.YtcljoaknaegpmaaApd
import Derived.Test.YtcljoaknaegpmaaCcH
import Derived.Maps.AppendAt
import Derived.Deep.RegionHeld3
import Derived.Test.YtcljoaknaegpmaaPzC
import Derived.RegionTactic
import Derived.Test.YtcljoaknaegpmaaBase
import Derived.Deep.MidRow
import Derived.Deep.Cut
import Derived.Test.YtcljoaknaegpmaaRgV
import Derived.Test.YtcljoaknaegpmaaHelp

/-
  The model's StreamBlock (written by gens/ccf.py).
-/
namespace Go.Proofs.Ytcljoaknaegpmaa
open Go Go.RowKit

set_option maxHeartbeats 1000000 in
theorem fits_any (w : World) (a a' : Option Addr) (c c' : Nat) (key non : List Int) (ct : Int) : Calls Try.prog 35 #[.slice a key.length c, .int .i64 ct, .slice a' non.length c'] w fun e w' => e = .returned (.bool (fitB key ct non)) ∧ w' = w := by
  unfold fitB
  generalize key.length = n at *
  generalize non.length = m at *
  by_cases h : n = 32
  · subst h
    by_cases h' : m = 12
    · subst h'
      by_cases h1 : 0 ≤ ct
      · by_cases h2 : ct ≤ 4294967295
        · go_enter Try.func35, Try.ntmps35
          go_wp2
          go_ret
          exact ⟨by simp [h1, h2], rfl⟩
        · have q : decide (ct ≤ 4294967295) = false := by simpa using h2
          go_enter Try.func35, Try.ntmps35
          go_wp2
          go_ret
          exact ⟨by simp, rfl⟩
      · have q : decide (0 ≤ ct) = false := by simpa using h1
        go_enter Try.func35, Try.ntmps35
        go_wp2
        go_ret
        exact ⟨by simp, rfl⟩
    · have q : decide ((m : Int) = 12) = false := by simp; omega
      go_enter Try.func35, Try.ntmps35
      go_wp2
      go_ret
      exact ⟨by simp [h'] <;> omega, rfl⟩
  · have q : decide ((n : Int) = 32) = false := by simp; omega
    go_enter Try.func35, Try.ntmps35
    go_wp2
    go_ret
    exact ⟨by simp [h], rfl⟩
/-- The columns, and the slanting lines, one behind the other. -/
def clA (ys : List Int) : Nat → List Int
  | 0 => ys
  | i + 1 => qrL (clA ys i) i (4 + i) (8 + i) (12 + i)
def clB (ys : List Int) : Nat → List Int
  | 0 => ys
  | i + 1 => qrL (clB ys i) i (4 + (i + 1) % 4) (8 + (i + 2) % 4) (12 + (i + 3) % 4)
theorem clA_len (ys : List Int) : ∀ i, (clA ys i).length = ys.length
  | 0 => rfl
  | i + 1 => by rw [clA, qrL_len]; exact clA_len ys i
theorem clB_len (ys : List Int) : ∀ i, (clB ys i).length = ys.length
  | 0 => rfl
  | i + 1 => by rw [clB, qrL_len]; exact clB_len ys i
theorem clA_ws {ys : List Int} (h : Ws ys) : ∀ i, Ws (clA ys i)
  | 0 => h
  | i + 1 => (clA_ws h i).qr _ _ _ _
theorem clB_ws {ys : List Int} (h : Ws ys) : ∀ i, Ws (clB ys i)
  | 0 => h
  | i + 1 => (clB_ws h i).qr _ _ _ _
theorem dbl_cl (ys : List Int) : clB (clA ys 4) 4 = dbl ys := by
  unfold dbl
  simp only [clA, clB, Nat.zero_add, Nat.reduceAdd, Nat.reduceMod, Nat.add_zero]
/-- The bytes of n words. -/
def oW (v : Int) : List Int := [v % 256, v / 256 % 256, v / 65536 % 256, v / 16777216]
def oL (st rs : List Int) : Nat → List Int
  | 0 => []
  | n + 1 => oL st rs n ++ oW ((rs.getD n 0 + st.getD n 0) % 4294967296)
theorem oL_len (st rs : List Int) : ∀ n, (oL st rs n).length = 4 * n
  | 0 => rfl
  | n + 1 => by rw [oL, List.length_append, oL_len st rs n]; rfl
theorem fill_succ (f : Nat → Int) (n : Nat) : fill f (n + 1) = fill f n ++ [f n] := by unfold fill; rw [List.range_succ, List.map_append]; rfl
theorem oL_fill (st rs : List Int) : ∀ n, oL st rs n = fill (stF st rs) (4 * n)
  | 0 => rfl
  | n + 1 => by
    rw [oL, oL_fill st rs n, show 4 * (n + 1) = 4 * n + 1 + 1 + 1 + 1 by omega, fill_succ, fill_succ, fill_succ, fill_succ]
    have e : ∀ j, j < 4 → stF st rs (4 * n + j) = (rs.getD n 0 + st.getD n 0) % 4294967296 / 2 ^ (8 * j) % 256 := fun j hj => by
      unfold stF
      rw [show (4 * n + j) / 4 = n by omega, show (4 * n + j) % 4 = j by omega, Int.add_comm]
    have e0 := e 0 (by decide)
    have e1 := e 1 (by decide)
    have e2 := e 2 (by decide)
    have e3 := e 3 (by decide)
    rw [Nat.add_zero] at e0
    rw [show 4 * n + 1 + 1 = 4 * n + 2 by omega, show 4 * n + 2 + 1 = 4 * n + 3 by omega, e0, e1, e2, e3]
    have v0 : 0 ≤ (rs.getD n 0 + st.getD n 0) % 4294967296 ∧ (rs.getD n 0 + st.getD n 0) % 4294967296 < 4294967296 := ⟨by omega, by omega⟩
    generalize (rs.getD n 0 + st.getD n 0) % 4294967296 = v at *
    have e4 : v / 16777216 % 256 = v / 16777216 := by omega
    unfold oW
    simp [e4]
theorem wsF_set (ys : List Int) (c : Int) (xs : List Int) (pl : Nat) (h : 12 < pl) : ∀ k, wsF (ys.set 12 c) pl xs k = (wsF ys pl xs k).set 12 c
  | 0 => rfl
  | k + 1 => by rw [wsF, wsF, wsF_set ys c xs pl h k, List.set_comm _ _ (by omega)]
set_option maxRecDepth 100000 in
set_option maxHeartbeats 8000000 in
theorem specBlock_core (w : World) (g : Nat) (a : Option Addr) (c : Nat) (key : List Int) (hr : Rd w g a .u8 key) (hb : Byt key) (hl : key.length = 32) (hc : key.length ≤ c) (ct : Int) (h0 : 0 ≤ ct) (h1 : ct < 4294967296) (g' : Nat) (a' : Option Addr) (c' : Nat) (non : List Int) (hr' : Rd w g' a' .u8 non) (hb' : Byt non) (hl' : non.length = 12) (hc' : non.length ≤ c')
    (hf : fitB key ct non = true) (rn : Nat) (hrn : rn = 10) :
    Calls Try.prog 55 #[.slice a key.length c, .int .i64 ct, .slice a' non.length c'] w fun e w' => NewRow w.heap.size w' e .u8 (fill (stF ((nsW key non).set 12 ct) (rds rn ((nsW key non).set 12 ct))) 64) ∧ Below w.heap.size w w' := by
  have HRN := hide hrn
  clear hrn
  obtain ⟨i0, hi, hz0, hz1, hz2⟩ := info_parts Try.info5
  have FT := fits_any w a a' c c' key non ct
  rw [hf] at FT
  clear hf
  have gl := hr.lt (by omega)
  have gl' := hr'.lt (by omega)
  obtain ⟨o, ea, -⟩ := hr (by omega)
  obtain ⟨o', ea', -⟩ := hr' (by omega)
  subst ea
  subst ea'
  have HL := hide hl
  have HL' := hide hl'
  have hcI : (key.length : Int) ≤ (c : Int) := by omega
  have hcI' : (non.length : Int) ≤ (c' : Int) := by omega
  have cw : ct % 4294967296 = ct := by omega
  have n1 : Below w.heap.size w (w.alloc (.cells #[.int .u32 1634760805, .int .u32 857760878, .int .u32 2036477234, .int .u32 1797285236, .int .u32 0, .int .u32 0, .int .u32 0, .int .u32 0, .int .u32 0, .int .u32 0, .int .u32 0, .int .u32 0, .int .u32 0, .int .u32 0, .int .u32 0, .int .u32 0] 58)) := (Below.refl _ _).alloc (Nat.le_refl _) _
  have B1 : Blk (w.alloc (.cells #[.int .u32 1634760805, .int .u32 857760878, .int .u32 2036477234, .int .u32 1797285236, .int .u32 0, .int .u32 0, .int .u32 0, .int .u32 0, .int .u32 0, .int .u32 0, .int .u32 0, .int .u32 0, .int .u32 0, .int .u32 0, .int .u32 0, .int .u32 0] 58)) w.heap.size .u32 st0 := blk_alloc w .u32 58 st0
  have z1 : (w.alloc (.cells #[.int .u32 1634760805, .int .u32 857760878, .int .u32 2036477234, .int .u32 1797285236, .int .u32 0, .int .u32 0, .int .u32 0, .int .u32 0, .int .u32 0, .int .u32 0, .int .u32 0, .int .u32 0, .int .u32 0, .int .u32 0, .int .u32 0, .int .u32 0] 58)).heap.size = w.heap.size + 1 := by simp
  generalize hkl : key.length = kl at *
  generalize hnl : non.length = nl at *
  have HK := hide hkl
  have HN := hide hnl
  clear hkl hnl
  subst hl
  subst hl'
  go_enter Try.func55, Try.ntmps55
  go_wp2_with fail
  refine FT.mono ?_
  rintro e w1 ⟨rfl, rfl⟩
  clear FT
  go_wp2
  generalize w1.alloc (.cells #[.int .u32 1634760805, .int .u32 857760878, .int .u32 2036477234, .int .u32 1797285236, .int .u32 0, .int .u32 0, .int .u32 0, .int .u32 0, .int .u32 0, .int .u32 0, .int .u32 0, .int .u32 0, .int .u32 0, .int .u32 0, .int .u32 0, .int .u32 0] 58) = wa at *
  go_loopw [8] (fun v wr => ∃ (i : Nat), i ≤ 8 ∧ v = .int .i64 i ∧ Blk wr w1.heap.size .u32 (wsF st0 4 key i) ∧ Below w1.heap.size w1 wr) (fun v _ => 8 - (intOf v).toNat)
  case atStart => exact ⟨0, Nat.zero_le _, rfl, B1, n1⟩
  case round =>
    obtain ⟨i, hi8, rfl, hB, hN⟩ := hrel
    clear B1 n1 z1
    by_cases hlt : i < 8
    · have LWc := l8Word_any wr g (some ⟨g, o + 4 * i, none⟩) (c - 4 * i) _ (rd_part (hr.up hN) (4 * i) (32 - 4 * i) (by rw [HK.out]; omega)) (byt_part hb _ _) (by rw [part_len _ _ _ (by rw [HK.out]; omega)]; omega)
      rw [part_len _ _ _ (by rw [HK.out]; omega)] at LWc
      have lv : lw ((key.drop (4 * i)).take (32 - 4 * i)) 0 = lw key (4 * i) := by
        unfold lw
        rw [part_get key _ _ 0 (by omega), part_get key _ _ (0 + 1) (by omega), part_get key _ _ (0 + 2) (by omega), part_get key _ _ (0 + 3) (by omega)]
        simp only [Nat.zero_add, Nat.add_zero]
      rw [lv] at LWc
      have HC := hide LWc
      have e1 := hB.cell (i := 4 + i) (by rw [wsF_len]; show _ < 16; omega)
      have f1 := hB.free (4 + i)
      have B' := hB.store (4 + i) (lw key (4 * i))
      have WS : Hid ((wsF st0 4 key i).set (4 + i) (lw key (4 * i)) = wsF st0 4 key (i + 1)) := rfl
      have d1 : (4 : Int) + (i : Int) = ((4 + i : Nat) : Int) := by omega
      have d2 : (4 : Int) * (i : Int) = ((4 * i : Nat) : Int) := by omega
      have d3 : ((4 + i : Nat) : Int) < 16 := by omega
      have d4 : ((4 * i : Nat) : Int) ≤ 32 := by omega
      have d5 : 4 * i ≤ 32 := by omega
      have d6 : ¬ (4 * i = c) := by omega
      have d7 : 4 * i < c := by omega
      clear LWc lv B'
      generalize (wsF st0 4 key i).getD (4 + i) 0 = y0 at *
      generalize lw key (4 * i) = lv at *
      generalize 4 + i = p4 at *
      generalize h4 : 4 * i = q4 at *
      go_wp2_with fail
      refine HC.out.mono ?_
      rintro e w2 ⟨rfl, m, rfl⟩
      have hB2 : Blk (wr.drewN m) w1.heap.size .u32 (wsF st0 4 key i) := hB
      have B2 := hB2.store p4 lv
      rw [WS.out] at B2
      have N2 := (below_drewN hN m).trans ((Only.setCell (wr.drewN m) w1.heap.size p4 (.int .u32 lv)).below (Nat.le_refl _))
      clear HC WS hB hB2 hN
      go_wp2
      go_roundw
      case rel => exact ⟨i + 1, by omega, by go_num, B2, N2⟩
      case measure => simp [intOf]; omega
    · obtain rfl : i = 8 := by omega
      rw [show ((8 : Nat) : Int) = 8 from rfl]
      have e12 := hB.cell (i := 12) (by rw [wsF_len]; decide)
      have f12 := hB.free 12
      have B2 := hB.store 12 ct
      have N2 := hN.trans ((Only.setCell wr w1.heap.size 12 (.int .u32 ct)).below (Nat.le_refl _))
      have yl : ((wsF st0 4 key 8).set 12 ct).length = 16 := by rw [List.length_set, wsF_len]; rfl
      have SW : wsF ((wsF st0 4 key 8).set 12 ct) 13 non 3 = (nsW key non).set 12 ct := wsF_set _ ct non 13 (by decide) 3
      generalize (wsF st0 4 key 8).getD 12 0 = y12 at *
      generalize (wsF st0 4 key 8).set 12 ct = yk at *
      have YL := hide yl
      have SWH := hide SW
      clear hB hN yl SW
      go_wp2
      generalize wr.setCell ⟨w1.heap.size, 12, none⟩ (.int .u32 ct) = wb at *
      go_loopw [9] (fun v wr => ∃ (i : Nat), i ≤ 3 ∧ v = .int .i64 i ∧ Blk wr w1.heap.size .u32 (wsF yk 13 non i) ∧ Below w1.heap.size w1 wr) (fun v _ => 3 - (intOf v).toNat)
      case atStart => exact ⟨0, Nat.zero_le _, rfl, B2, N2⟩
      case round =>
        obtain ⟨i, hi3, rfl, hB, hN⟩ := hrel
        clear B2 N2 e12 f12
        by_cases hlt : i < 3
        · have LWc := l8Word_any wr g' (some ⟨g', o' + 4 * i, none⟩) (c' - 4 * i) _ (rd_part (hr'.up hN) (4 * i) (12 - 4 * i) (by rw [HN.out]; omega)) (byt_part hb' _ _) (by rw [part_len _ _ _ (by rw [HN.out]; omega)]; omega)
          rw [part_len _ _ _ (by rw [HN.out]; omega)] at LWc
          have lv : lw ((non.drop (4 * i)).take (12 - 4 * i)) 0 = lw non (4 * i) := by
            unfold lw
            rw [part_get non _ _ 0 (by omega), part_get non _ _ (0 + 1) (by omega), part_get non _ _ (0 + 2) (by omega), part_get non _ _ (0 + 3) (by omega)]
            simp only [Nat.zero_add, Nat.add_zero]
          rw [lv] at LWc
          have HC := hide LWc
          have e1 := hB.cell (i := 13 + i) (by rw [wsF_len, YL.out]; omega)
          have f1 := hB.free (13 + i)
          have WS : Hid ((wsF yk 13 non i).set (13 + i) (lw non (4 * i)) = wsF yk 13 non (i + 1)) := rfl
          have d1 : (13 : Int) + (i : Int) = ((13 + i : Nat) : Int) := by omega
          have d2 : (4 : Int) * (i : Int) = ((4 * i : Nat) : Int) := by omega
          have d3 : ((13 + i : Nat) : Int) < 16 := by omega
          have d4 : ((4 * i : Nat) : Int) ≤ 12 := by omega
          have d5 : 4 * i ≤ 12 := by omega
          have d6 : ¬ (4 * i = c') := by omega
          have d7 : 4 * i < c' := by omega
          clear LWc lv
          generalize (wsF yk 13 non i).getD (13 + i) 0 = y0 at *
          generalize lw non (4 * i) = lv at *
          generalize 13 + i = p4 at *
          generalize h4 : 4 * i = q4 at *
          go_wp2_with fail
          refine HC.out.mono ?_
          rintro e w2 ⟨rfl, m, rfl⟩
          have hB2 : Blk (wr.drewN m) w1.heap.size .u32 (wsF yk 13 non i) := hB
          have B2 := hB2.store p4 lv
          rw [WS.out] at B2
          have N2 := (below_drewN hN m).trans ((Only.setCell (wr.drewN m) w1.heap.size p4 (.int .u32 lv)).below (Nat.le_refl _))
          clear HC WS hB hB2 hN
          go_wp2
          go_roundw
          case rel => exact ⟨i + 1, by omega, by go_num, B2, N2⟩
          case measure => simp [intOf]; omega
        · obtain rfl : i = 3 := by omega
          rw [show ((3 : Nat) : Int) = 3 from rfl]
          rw [SWH.out] at hB
          have sww : Ws ((nsW key non).set 12 ct) := (nsW_ws hb hb').set 12 ⟨h0, h1⟩
          have swl : ((nsW key non).set 12 ct).length = 16 := by rw [List.length_set]; exact nsW_len key non
          clear SWH hr hr' hb hb' HL HL' HK HN YL
          obtain ⟨sw, hsw⟩ : ∃ s, s = (nsW key non).set 12 ct := ⟨_, rfl⟩
          have OUT : Hid (∀ k, k = 16 → fill (stF ((nsW key non).set 12 ct) (rds rn ((nsW key non).set 12 ct))) 64 = oL sw (rds rn sw) k) := fun k hk => by
            rw [oL_fill, hsw, hk]
          rw [← hsw] at hB sww swl
          have SWL := hide swl
          clear hsw swl
          have RG := (Seg.blk hB).range
          have L : Hid ((sw.map (Value.int .u32)).length = 16) := by show _ = _; rw [List.length_map]; exact SWL.out
          have O := one_ints .u32 sw
          have n4 : Below wr.heap.size wr (wr.alloc (.cells #[.int .u32 0, .int .u32 0, .int .u32 0, .int .u32 0, .int .u32 0, .int .u32 0, .int .u32 0, .int .u32 0, .int .u32 0, .int .u32 0, .int .u32 0, .int .u32 0, .int .u32 0, .int .u32 0, .int .u32 0, .int .u32 0] 58)) := (Below.refl _ _).alloc (Nat.le_refl _) _
          have B4 := blk_z16 wr 58
          obtain ⟨t4, H4⟩ := B4
          have SR := blk_setRow (zs := sw) ⟨t4, H4⟩
          have OR := only_setRow (wr.alloc (.cells #[.int .u32 0, .int .u32 0, .int .u32 0, .int .u32 0, .int .u32 0, .int .u32 0, .int .u32 0, .int .u32 0, .int .u32 0, .int .u32 0, .int .u32 0, .int .u32 0, .int .u32 0, .int .u32 0, .int .u32 0, .int .u32 0] 58)) wr.heap.size (sw.map (Value.int .u32)).toArray
          have hB' := (hB.up n4).of_block (OR.block w1.heap.size (by have := hB.lt; omega))
          have N4 := (hN.trans (n4.mono hN.size)).trans (OR.below (B := w1.heap.size) hN.size)
          have qq := hB.lt
          obtain ⟨vy, hvy⟩ : ∃ v, v = sw.map (Value.int .u32) := ⟨_, rfl⟩
          rw [← hvy] at RG L O SR OR hB' N4
          clear hvy hB hN n4
          go_wp2_with (first
            | (refine wpList_load_mid rfl 58 (.tmp 7) rfl w1.heap.size 0 rfl vy (.array 16 57) RG und16 rfl (by rw [L.out]; exact info16) ?_)
            | (refine wpList_store_row rfl 58 (.tmp 10) (.tmp 51) rfl wr.heap.size vy.toArray rfl rfl t4 _ H4 (by rw [List.size_toArray, L.out]; exact info16) (by rw [List.size_toArray, List.size_toArray, L.out]; rfl) O ?_))
          have zz := OR.size
          generalize wr.heap.size = q2 at *
          generalize (wr.alloc (.cells #[.int .u32 0, .int .u32 0, .int .u32 0, .int .u32 0, .int .u32 0, .int .u32 0, .int .u32 0, .int .u32 0, .int .u32 0, .int .u32 0, .int .u32 0, .int .u32 0, .int .u32 0, .int .u32 0, .int .u32 0, .int .u32 0] 58)).setRow q2 vy.toArray = wd at *
          clear H4 OR RG L O zz
          go_loopw [11] (fun v wr => ∃ (r : Nat), r ≤ 10 ∧ v = .int .i64 r ∧ Blk wr w1.heap.size .u32 sw ∧ Blk wr q2 .u32 (rds r sw) ∧ Below w1.heap.size w1 wr) (fun v _ => 10 - (intOf v).toNat)
          case atStart => exact ⟨0, Nat.zero_le _, rfl, hB', SR, N4⟩
          case round =>
            obtain ⟨r, hr10, rfl, hS, hR, hN⟩ := hrel
            clear hB' SR N4
            by_cases rlt : r < 10
            · have yl : (rds r sw).length = 16 := (rds_len sw r).trans SWL.out
              have yw := rds_ws sww r
              have r10 : (r : Int) < 10 := by omega
              have DB : Hid (∀ z, z = dbl (rds r sw) → z = rds (r + 1) sw) := fun z h => h
              generalize rds r sw = y0 at *
              have YL := hide yl
              clear yl
              go_wp2
              go_loopw [12] (fun v wr => ∃ (i : Nat), i ≤ 4 ∧ v = .int .i64 i ∧ Blk wr w1.heap.size .u32 sw ∧ Blk wr q2 .u32 (clA y0 i) ∧ Below w1.heap.size w1 wr) (fun v _ => 4 - (intOf v).toNat)
              case atStart => exact ⟨0, Nat.zero_le _, rfl, hS, hR, hN⟩
              case round =>
                obtain ⟨i, hi4, rfl, gS, gR, gN⟩ := hrel
                clear hS hR hN
                by_cases ilt : i < 4
                · have QC := fun W => hide (l8Quarter_any W (clA y0 i) (clA_ws yw i) ((clA_len y0 i).trans YL.out) i (4 + i) (8 + i) (12 + i) (by omega) (by omega) (by omega) (by omega) ⟨by omega, by omega, by omega, by omega, by omega, by omega⟩)
                  have CA : Hid (qrL (clA y0 i) i (4 + i) (8 + i) (12 + i) = clA y0 (i + 1)) := rfl
                  simp only [CA.out] at QC
                  have RG := (Seg.blk gR).range
                  have L : Hid (((clA y0 i).map (Value.int .u32)).length = 16) := by show _ = _; rw [List.length_map, clA_len]; exact YL.out
                  have LO : Hid (((clA y0 i).map (Value.int .u32)).length = 16) := L
                  have L2 : Hid (((clA y0 (i + 1)).map (Value.int .u32)).length = 16) := by show _ = _; rw [List.length_map, clA_len]; exact YL.out
                  have O2 := one_ints .u32 (clA y0 (i + 1))
                  have V1 : Hid (ag .u32 (clA y0 i) = Value.agg ((clA y0 i).map (Value.int .u32)).toArray) := rfl
                  have V2 : Hid (ag .u32 (clA y0 (i + 1)) = Value.agg ((clA y0 (i + 1)).map (Value.int .u32)).toArray) := rfl
                  simp only [V1.out, V2.out] at QC
                  obtain ⟨v1, hv1⟩ : ∃ v, v = (clA y0 i).map (Value.int .u32) := ⟨_, rfl⟩
                  obtain ⟨v2, hv2⟩ : ∃ v, v = (clA y0 (i + 1)).map (Value.int .u32) := ⟨_, rfl⟩
                  simp only [← hv1, ← hv2] at QC
                  rw [← hv1] at RG L
                  rw [← hv2] at L2 O2
                  have HV2 := hide hv2
                  clear hv1 hv2 V1 V2 CA
                  have d1 : (4 : Int) + (i : Int) = ((4 + i : Nat) : Int) := by omega
                  have d2 : (8 : Int) + (i : Int) = ((8 + i : Nat) : Int) := by omega
                  have d3 : (12 : Int) + (i : Int) = ((12 + i : Nat) : Int) := by omega
                  have i4 : (i : Int) < 4 := by omega
                  generalize 4 + i = x2 at *
                  generalize 8 + i = x3 at *
                  generalize 12 + i = x4 at *
                  go_wp2_with (refine wpList_load_mid rfl 58 (.tmp 10) rfl q2 0 rfl v1 (.array 16 57) RG und16 rfl (by rw [L.out]; exact info16) ?_)
                  refine (QC wr).out.mono ?_
                  rintro e w3 ⟨rfl, n3⟩
                  obtain ⟨t5, H5⟩ := gR.up n3
                  have SR := blk_setRow (zs := clA y0 (i + 1)) ⟨t5, H5⟩
                  rw [← HV2.out] at SR
                  have OR := only_setRow w3 q2 v2.toArray
                  have S3 := (gS.up n3).of_block (OR.block w1.heap.size (by omega))
                  have N3 := (gN.trans (n3.mono gN.size)).trans (OR.below (B := w1.heap.size) (by omega))
                  clear QC RG gS gR gN n3 OR
                  go_wp2_with (refine wpList_store_row rfl 58 (.tmp 10) (.tmp 68) rfl q2 v2.toArray rfl rfl t5 _ H5 (by rw [List.size_toArray, L2.out]; exact info16) (by have a1 := L2.out; have a2 := LO.out; simp only [List.size_toArray]; omega) O2 ?_)
                  go_roundw
                  case rel => exact ⟨i + 1, by omega, by go_num, S3, SR, N3⟩
                  case measure => simp [intOf]; omega
                · obtain rfl : i = 4 := by omega
                  try rw [show ((4 : Nat) : Int) = 4 from rfl]
                  have yw1 := clA_ws yw 4
                  have YL1 := hide ((clA_len y0 4).trans YL.out)
                  have EY : Hid (∃ y, y = clA y0 4) := ⟨_, rfl⟩
                  obtain ⟨y1, hy1⟩ := EY.out
                  rw [← hy1] at gR yw1 YL1
                  have EY := hide hy1
                  clear hy1
                  go_wp2
                  go_loopw [13] (fun v wr => ∃ (i : Nat), i ≤ 4 ∧ v = .int .i64 i ∧ Blk wr w1.heap.size .u32 sw ∧ Blk wr q2 .u32 (clB y1 i) ∧ Below w1.heap.size w1 wr) (fun v _ => 4 - (intOf v).toNat)
                  case atStart => exact ⟨0, Nat.zero_le _, rfl, gS, gR, gN⟩
                  case round =>
                    obtain ⟨i, hi4, rfl, gS, gR, gN⟩ := hrel
                    by_cases ilt : i < 4
                    · have QC := fun W => hide (l8Quarter_any W (clB y1 i) (clB_ws yw1 i) ((clB_len y1 i).trans YL1.out) i (4 + (i + 1) % 4) (8 + (i + 2) % 4) (12 + (i + 3) % 4) (by omega) (by omega) (by omega) (by omega) ⟨by omega, by omega, by omega, by omega, by omega, by omega⟩)
                      have CA : Hid (qrL (clB y1 i) i (4 + (i + 1) % 4) (8 + (i + 2) % 4) (12 + (i + 3) % 4) = clB y1 (i + 1)) := rfl
                      simp only [CA.out] at QC
                      have RG := (Seg.blk gR).range
                      have L : Hid (((clB y1 i).map (Value.int .u32)).length = 16) := by show _ = _; rw [List.length_map, clB_len]; exact YL1.out
                      have LO : Hid (((clB y1 i).map (Value.int .u32)).length = 16) := L
                      have L2 : Hid (((clB y1 (i + 1)).map (Value.int .u32)).length = 16) := by show _ = _; rw [List.length_map, clB_len]; exact YL1.out
                      have O2 := one_ints .u32 (clB y1 (i + 1))
                      have V1 : Hid (ag .u32 (clB y1 i) = Value.agg ((clB y1 i).map (Value.int .u32)).toArray) := rfl
                      have V2 : Hid (ag .u32 (clB y1 (i + 1)) = Value.agg ((clB y1 (i + 1)).map (Value.int .u32)).toArray) := rfl
                      simp only [V1.out, V2.out] at QC
                      obtain ⟨v1, hv1⟩ : ∃ v, v = (clB y1 i).map (Value.int .u32) := ⟨_, rfl⟩
                      obtain ⟨v2, hv2⟩ : ∃ v, v = (clB y1 (i + 1)).map (Value.int .u32) := ⟨_, rfl⟩
                      simp only [← hv1, ← hv2] at QC
                      rw [← hv1] at RG L
                      rw [← hv2] at L2 O2
                      have HV2 := hide hv2
                      clear hv1 hv2 V1 V2 CA
                      obtain ⟨a1, ha1⟩ : ∃ a, a = (i + 1) % 4 := ⟨_, rfl⟩
                      obtain ⟨a2, ha2⟩ : ∃ a, a = (i + 2) % 4 := ⟨_, rfl⟩
                      obtain ⟨a3, ha3⟩ : ∃ a, a = (i + 3) % 4 := ⟨_, rfl⟩
                      simp only [← ha1, ← ha2, ← ha3] at QC
                      have m1 : ((i : Int) + 1) % 4 = (a1 : Int) := by omega
                      have m2 : ((i : Int) + 2) % 4 = (a2 : Int) := by omega
                      have m3 : ((i : Int) + 3) % 4 = (a3 : Int) := by omega
                      have d1 : (4 : Int) + (a1 : Int) = ((4 + a1 : Nat) : Int) := by omega
                      have d2 : (8 : Int) + (a2 : Int) = ((8 + a2 : Nat) : Int) := by omega
                      have d3 : (12 : Int) + (a3 : Int) = ((12 + a3 : Nat) : Int) := by omega
                      have i4 : (i : Int) < 4 := by omega
                      have s1 : 4 + a1 ≤ 15 := by omega
                      have s2 : 8 + a2 ≤ 15 := by omega
                      have s3 : 12 + a3 ≤ 15 := by omega
                      clear ha1 ha2 ha3
                      generalize 4 + a1 = x2 at *
                      generalize 8 + a2 = x3 at *
                      generalize 12 + a3 = x4 at *
                      go_wp2_with (refine wpList_load_mid rfl 58 (.tmp 10) rfl q2 0 rfl v1 (.array 16 57) RG und16 rfl (by rw [L.out]; exact info16) ?_)
                      refine (QC wr).out.mono ?_
                      rintro e w3 ⟨rfl, n3⟩
                      obtain ⟨t5, H5⟩ := gR.up n3
                      have SR := blk_setRow (zs := clB y1 (i + 1)) ⟨t5, H5⟩
                      rw [← HV2.out] at SR
                      have OR := only_setRow w3 q2 v2.toArray
                      have S3 := (gS.up n3).of_block (OR.block w1.heap.size (by omega))
                      have N3 := (gN.trans (n3.mono gN.size)).trans (OR.below (B := w1.heap.size) (by omega))
                      clear QC RG gS gR gN n3 OR
                      go_wp2_with (refine wpList_store_row rfl 58 (.tmp 10) (.tmp 87) rfl q2 v2.toArray rfl rfl t5 _ H5 (by rw [List.size_toArray, L2.out]; exact info16) (by have a1 := L2.out; have a2 := LO.out; simp only [List.size_toArray]; omega) O2 ?_)
                      go_roundw
                      case rel => exact ⟨i + 1, by omega, by go_num, S3, SR, N3⟩
                      case measure => simp [intOf]; omega
                    · obtain rfl : i = 4 := by omega
                      try rw [show ((4 : Nat) : Int) = 4 from rfl]
                      have D8 := DB.out _ (show clB y1 4 = dbl y0 by rw [EY.out]; exact dbl_cl y0)
                      rw [D8] at gR
                      clear D8
                      go_wp2
                      go_roundw
                      case rel => exact ⟨r + 1, by omega, by go_num, gS, gR, gN⟩
                      case measure => simp [intOf]; omega
            · obtain rfl : r = rn := by have := HRN.out; omega
              have RL := hide ((rds_len sw r).trans SWL.out)
              generalize rds r sw = rs at *
              have n5 : Below wr.heap.size wr (wr.alloc (.cells #[] 5)) := (Below.refl _ _).alloc (Nat.le_refl _) _
              have R5 := RowB.lit0 wr
              have ql := hR.lt
              have z5 : (wr.alloc (.cells #[] 5)).heap.size = wr.heap.size + 1 := by simp
              go_wp2
              have S5 := hS.up n5
              have T5 := hR.up n5
              have N5 := hN.trans (n5.mono hN.size)
              have R5 := R5.base (base' := q2 + 1) (by omega)
              generalize wr.alloc (.cells #[] 5) = wf at *
              clear hS hR hN n5
              go_loopw [14, 15] (fun v u wr => ∃ (n : Nat), n ≤ 16 ∧ u = .int .i64 n ∧ RowB wr (q2 + 1) v (oL sw rs n) ∧ Blk wr w1.heap.size .u32 sw ∧ Blk wr q2 .u32 rs ∧ q2 + 1 ≤ wr.heap.size ∧ Below w1.heap.size w1 wr) (fun _ u _ => 16 - (intOf u).toNat)
              case atStart => exact ⟨0, Nat.zero_le _, rfl, R5, S5, T5, by omega, N5⟩
              case round =>
                obtain ⟨n, hn, rfl, hV, hS, hR, hz, hN⟩ := hrel
                clear R5 S5 T5 N5 z5
                by_cases nlt : n < 16
                · have c1 := hS.cell (i := n) (by rw [SWL.out]; exact nlt)
                  have c2 := hR.cell (i := n) (by rw [RL.out]; exact nlt)
                  have n16 : (n : Int) < 16 := by omega
                  have OE : Hid (oL sw rs (n + 1) = oL sw rs n ++ oW ((rs.getD n 0 + sw.getD n 0) % 4294967296)) := rfl
                  have OLn := hide (oL_len sw rs n)
                  generalize sw.getD n 0 = s1 at *
                  generalize rs.getD n 0 = s2 at *
                  go_wp2_with fail
                  go_quiet (fail)
                  obtain ⟨v, hv⟩ : ∃ v, v = (s2 + s1) % 4294967296 := ⟨_, rfl⟩
                  simp only [← hv] at OE ⊢
                  have v0 : 0 ≤ v := by omega
                  have v1 : v < 4294967296 := by omega
                  have hV' : RowB (wr.drewN nq) (q2 + 1) _ (oL sw rs n) := hV
                  have hS' : Blk (wr.drewN nq) w1.heap.size .u32 sw := hS
                  have hR' : Blk (wr.drewN nq) q2 .u32 rs := hR
                  have hN' := below_drewN hN nq
                  have hz' : q2 + 1 ≤ (wr.drewN nq).heap.size := hz
                  clear hv c1 c2 hV hS hR hN hz
                  generalize wr.drewN nq = ws at *
                  have n6 : Below ws.heap.size ws (ws.alloc (.cells #[.int .u8 (v % 256), .int .u8 (v / 256 % 256), .int .u8 (v / 65536 % 256), .int .u8 (v / 16777216)] 5)) := (Below.refl _ _).alloc (Nat.le_refl _) _
                  have B6 : Blk (ws.alloc (.cells #[.int .u8 (v % 256), .int .u8 (v / 256 % 256), .int .u8 (v / 65536 % 256), .int .u8 (v / 16777216)] 5)) ws.heap.size .u8 (oW v) := blk_alloc ws .u8 5 (oW v)
                  have hap := append_any (P := Try.prog) (ws.alloc (.cells #[.int .u8 (v % 256), .int .u8 (v / 256 % 256), .int .u8 (v / 65536 % 256), .int .u8 (v / 16777216)] 5)) 22 i0 Try.underlying22 hi hz0 hz1 hz2 (q2 + 1) (q2 + 1) _ _ (hV'.up n6) _ _ 4 (oW v) B6.own0.rd (by simp) (by rw [OLn.out]; show _ + 4 ≤ _; omega) (Nat.le_refl _) (Nat.le_trans hz' n6.size)
                  rw [show (oW v).length = 4 from rfl] at hap
                  obtain ⟨v', w7, hap, o7, n7⟩ := hap
                  have S7 := (hS'.up n6).of_block (n7.block w1.heap.size (by omega))
                  have R7 := (hR'.up n6).of_block (n7.block q2 (by omega))
                  have N7 := (hN'.trans (n6.mono hN'.size)).trans (n7.mono (by omega))
                  have z7 := Nat.le_trans (Nat.le_trans hz' n6.size) n7.size
                  rw [← OE.out] at o7
                  clear B6 hV' hS' hR' hN' n6 n7 OE hz'
                  go_wp2_with (at_builtin; refine Lib.wpList_append_run _ rfl _ _ 22 22 rfl _ _ rfl rfl _ _ hap ?_)
                  clear hap
                  go_roundw
                  case rel => exact ⟨n + 1, by omega, by go_num, o7, S7, R7, z7, N7⟩
                  case measure => simp [intOf]; omega
                · have H16 := hide (show n = 16 by omega)
                  have nn : ¬ ((n : Int) < 16) := by omega
                  obtain ⟨a3, c3, g3, rfl, o3, p3, q3, r3⟩ := hV.own
                  go_wp2
                  go_ret
                  rw [OUT.out n H16.out]
                  exact ⟨⟨a3, c3, g3, rfl, o3, p3, q3, by omega⟩, hN⟩
theorem specBlock_any (w : World) (g : Nat) (a : Option Addr) (c : Nat) (key : List Int) (hr : Rd w g a .u8 key) (hb : Byt key) (hc : key.length ≤ c) (ct : Int) (g' : Nat) (a' : Option Addr) (c' : Nat) (non : List Int) (hr' : Rd w g' a' .u8 non) (hb' : Byt non) (hc' : non.length ≤ c') :
    Calls Try.prog 55 #[.slice a key.length c, .int .i64 ct, .slice a' non.length c'] w fun e w' => NewRow w.heap.size w' e .u8 (sbA key ct non) ∧ Below w.heap.size w w' := by
  by_cases hf : fitB key ct non = true
  · have h := hf
    unfold fitB at h
    simp only [Bool.and_eq_true, decide_eq_true_eq] at h
    have RS : sbA key ct non = fill (stF ((nsW key non).set 12 ct) (rds 10 ((nsW key non).set 12 ct))) 64 := by unfold sbA; rw [if_pos hf]; unfold strB stB; rfl
    rw [RS]
    exact specBlock_core w g a c key hr hb h.1.1 hc ct h.2.1 (by omega) g' a' c' non hr' hb' h.1.2 hc' hf 10 rfl
  · have RS : Hid (sbA key ct non = []) := by show _ = _; unfold sbA; rw [if_neg hf]
    rw [RS.out]
    have FT := fits_any w a a' c c' key non ct
    rw [show fitB key ct non = false by simpa using hf] at FT
    clear hf RS
    go_enter Try.func55, Try.ntmps55
    go_wp2_with fail
    refine FT.mono ?_
    rintro e w1 ⟨rfl, rfl⟩
    go_wp2
    go_ret
    exact ⟨newRow_e _ _, (Below.refl _ _).alloc (Nat.le_refl _) _⟩
end Go.Proofs.Ytcljoaknaegpmaa

/-
  The model's StreamXor (written by gens/spe.py).
-/
namespace Go.Proofs.Ytcljoaknaegpmaa
open Go Go.RowKit

theorem step_append_ex {P : Program} {ops : Array Oper} {o : Oper} {a : Act} {w : World} {K : Act → World → Prop} {Q : Exit → Act → World → Prop} {E : Prop} (hg : o.guard = none) (s x : Operand) (t tn : TypeId)
    (ho : o.op = .call { callee := .builtin .append, args := #[s, x], argTypes := #[t, tn] }) (vs vx : Value) (hs : a.eval s = vs) (hx : a.eval x = vx) (R : Value → World → Prop)
    (H : ∃ v' w', (Builtin.append_ #[t, tn] o.type #[vs, vx]).run P w = .ok v' w' ∧ R v' w') (hK : ∀ v' w', R v' w' → K (a.put o.dst v') w') :
    if Region.wanted o (yielded ops a.tmps) = true then Oper.wp P o a w K Q else E := by
  have hw : Region.wanted o (yielded ops a.tmps) = true := by simp [Region.wanted, hg]
  rw [if_pos hw]
  obtain ⟨v', w', hr, hR⟩ := H
  exact Lib.wp_append_run w s x t tn ho vs vx hs hx v' w' hr (hK v' w' hR)
/-- An append, that it turns its own row alone, and where the new one lies. -/
theorem append_anyH {P : Program} (w : World) (ty : TypeId) (i : TypeInfo) (ht : P.underlying 22 = some (.slice 5)) (hi : P.info? 5 = some i) (hz : i.zero = some (.int .u8 0)) (hsize : i.size = 1) (hby : i.bytes = 1)
    (base : Nat) (v : Value) (xs : List Int) (hown : RowB w base v xs) (g o c : Nat) (us : List Int) (hr : Rd w g (some ⟨g, o, none⟩) .u8 us) (hl : xs.length + us.length ≤ 1099511627776) (hbase : base ≤ w.heap.size) :
    ∃ v' w', (Builtin.append_ #[22, 22] ty #[v, .slice (some ⟨g, o, none⟩) us.length c]).run P w = .ok v' w' ∧ RowB w' base v' (xs ++ us) ∧ w.grownBy w' v.ownBlock ∧ (v'.ownBlock = v.ownBlock ∨ v'.ownBlock = some w.heap.size) := by
  have hcell : ∀ j u, (us.map (Value.int .u8))[j]? = some u → w.cell? ((⟨g, o, none⟩ : Addr).add j) = some u := by
    intro j u hj
    have hjl : j < us.length := by
      have := (List.getElem?_eq_some_iff.1 hj).1
      simpa using this
    obtain ⟨off, ha, hcc⟩ := hr (by omega)
    simp only [Option.some.injEq] at ha
    rw [ha, Addr.add_mid, hcc j hjl]
    simpa [hjl] using hj
  have hone : ∀ u ∈ us.map (Value.int .u8), u.oneCell' = true := by
    intro u hu
    obtain ⟨x, _, rfl⟩ := List.mem_map.1 hu
    rfl
  obtain ⟨v', w', h1, h2, h3, _, h5⟩ := run_append_own_at (P := P) w base 22 ty 5 i (.int .u8 0) 1 1 ht hi hz hsize hby rfl (by decide) v xs.length (xs.map (Value.int .u8)) hown ⟨g, o, none⟩ us.length c (us.map (Value.int .u8)) (by simp) hcell hone (by unfold maxLen; omega) (by omega) hbase
  refine ⟨v', w', h1, ?_, h3, h5⟩
  show w'.ownsRow base 5 1 v' (xs ++ us).length ((xs ++ us).map (Value.int .u8))
  rw [List.length_append, List.map_append]
  exact h2
/-- A byte with the stream laid over it. -/
def sxF (key : List Int) (c : Int) (non data : List Int) (i : Nat) : Int := xr (data.getD i 0) ((strB key (c + ((i / 64 : Nat) : Int)) non).getD (i % 64) 0)
theorem sx_fill (key : List Int) (c : Int) (non data : List Int) : xoG (nsW key non) c data ((data.length + 63) / 64) = fill (sxF key c non data) data.length := by
  refine eq_of_getD (by rw [xoG_len, fill_len]) (fun i hi => ?_)
  rw [xoG_len] at hi
  rw [xoG_get _ _ _ _ hi, if_pos (by omega), fill_get _ _ _ hi]
  rfl
theorem sbA_fit {key : List Int} {c c' : Int} {non : List Int} (h : fitB key c non = true) (h0 : 0 ≤ c') (h1 : c' ≤ 4294967295) : sbA key c' non = strB key c' non := by
  unfold sbA
  rw [if_pos]
  unfold fitB at h ⊢
  simp only [Bool.and_eq_true, decide_eq_true_eq] at h ⊢
  exact ⟨h.1, h0, h1⟩
set_option maxRecDepth 100000 in
set_option maxHeartbeats 8000000 in
theorem specXor_core (w : World) (g : Nat) (a : Option Addr) (c : Nat) (key : List Int) (hr : Rd w g a .u8 key) (hb : Byt key) (hc : key.length ≤ c) (ct : Int) (h0 : 0 ≤ ct) (h1 : ct ≤ 4294967295) (g' : Nat) (a' : Option Addr) (c' : Nat) (non : List Int) (hr' : Rd w g' a' .u8 non) (hb' : Byt non) (hc' : non.length ≤ c')
    (g2 : Nat) (a2 : Option Addr) (c2 : Nat) (data : List Int) (hr2 : Rd w g2 a2 .u8 data) (hn : data.length ≤ 4194304) (hf : fitB key ct non = true) (h3 : (data.length : Int) ≤ (4294967296 - ct) * 64) :
    Calls Try.prog 36 #[.slice a key.length c, .int .i64 ct, .slice a' non.length c', .slice a2 data.length c2] w fun e w' => NewRow w.heap.size w' e .u8 (fill (sxF key ct non data) data.length) ∧ Below w.heap.size w w' := by
  obtain ⟨i0, hi, hz0, hz1, hz2⟩ := info_parts Try.info5
  have FT := fits_any w a a' c c' key non ct
  rw [hf] at FT
  have SB := fun W (k : Nat) (n : Below w.heap.size w W) => hide (specBlock_any W g a c key (hr.up n) hb hc (ct + ((k / 64 : Nat) : Int)) g' a' c' non (hr'.up n) hb' hc')
  have SA : ∀ k, k < data.length → Hid (sbA key (ct + ((k / 64 : Nat) : Int)) non = strB key (ct + ((k / 64 : Nat) : Int)) non) := fun k hk => sbA_fit hf (by omega) (by omega)
  have BLl : ∀ c, (strB key c non).length = 64 := fun c => stB_len _
  have FS : ∀ i, fill (sxF key ct non data) (i + 1) = fill (sxF key ct non data) i ++ [bits BinOp.xor IntKind.u8 (data.getD i 0) ((strB key (ct + ((i / 64 : Nat) : Int)) non).getD (i % 64) 0)] := fun i => fill_succ _ _
  have FLn : ∀ i, (fill (sxF key ct non data) i).length = i := fun i => fill_len _ _
  have q1 : decide ((4294967295 : Int) < ct + ((data.length : Int) + 63) / 64 - 1) = false := by simp; omega
  have dn : (data.length : Int) ≤ 4194304 := by omega
  have hq1 := hide q1
  clear hf hr hr' hb hb' h3
  generalize sxF key ct non data = f at *
  generalize hlen : data.length = n at *
  have HN := hide hlen
  have cb0 : (0 : Int) ≤ ((n : Int) + 63) / 64 := by omega
  have cb1 : ((n : Int) + 63) / 64 ≤ 65537 := by omega
  go_enter Try.func36, Try.ntmps36
  go_wp2_with fail
  refine FT.mono ?_
  rintro e w1 ⟨rfl, rfl⟩
  clear FT
  have n1 : Below w1.heap.size w1 (w1.alloc (.cells #[] 5)) := (Below.refl _ _).alloc (Nat.le_refl _) _
  have R1 := RowB.lit0 w1
  have z1 : (w1.alloc (.cells #[] 5)).heap.size = w1.heap.size + 1 := by simp
  have n2 : Below (w1.alloc (.cells #[] 5)).heap.size (w1.alloc (.cells #[] 5)) ((w1.alloc (.cells #[] 5)).alloc (.cells #[] 5)) := (Below.refl _ _).alloc (Nat.le_refl _) _
  go_wp2
  have R2 := R1.up n2
  have N2 := nxt n1 n2
  generalize (w1.alloc (.cells #[] 5)).alloc (.cells #[] 5) = wa at *
  clear n1 n2 R1 z1
  go_loopw [9, 10, 11] (fun v b u wr => ∃ (i : Nat), i ≤ n ∧ u = .int .i64 i ∧ RowB wr w1.heap.size v (fill f i) ∧ (i % 64 ≠ 0 → ∃ (bo bc bg : Nat), b = .slice (some ⟨bg, bo, none⟩) 64 bc ∧ Rd wr bg (some ⟨bg, bo, none⟩) .u8 (strB key (ct + ((i / 64 : Nat) : Int)) non) ∧ v.ownBlock ≠ some bg ∧ bg < wr.heap.size) ∧ Below w1.heap.size w1 wr) (fun _ _ u _ => n - (intOf u).toNat)
  case atStart => exact ⟨0, Nat.zero_le _, rfl, R2, fun h => absurd rfl h, N2⟩
  case round =>
    obtain ⟨i, hin, rfl, hV, hBk, hN⟩ := hrel
    clear R2 N2
    by_cases hlt : i < n
    · have iI : (i : Int) < (n : Int) := by omega
      by_cases h64 : i % 64 = 0
      · have e64 : (i : Int) % 64 = 0 := by omega
        have SBi := SB wr i hN
        rw [(SA i hlt).out] at SBi
        have BL := hide (BLl (ct + ((i / 64 : Nat) : Int)))
        obtain ⟨Bk, hBk'⟩ : ∃ b, b = strB key (ct + ((i / 64 : Nat) : Int)) non := ⟨_, rfl⟩
        rw [← hBk'] at SBi BL
        obtain ⟨kq, hkq⟩ : ∃ k, k = i / 64 := ⟨_, rfl⟩
        rw [← hkq] at SBi
        have d64 : (i : Int) / 64 = (kq : Int) := by omega
        have b64 : (kq : Int) ≤ 65537 := by omega
        have b65 : 0 ≤ ct + (kq : Int) := by omega
        have b66 : ct + (kq : Int) ≤ 4295032833 := by omega
        clear hkq
        have HBk := hide hBk'.symm
        clear hBk' hBk SB SA
        go_wp2_with fail
        refine SBi.out.mono ?_
        rintro e w3 ⟨⟨ba, bc, bg, rfl, bO, bp, bq, br⟩, n3⟩
        obtain ⟨bo, eb, -⟩ := bO.rd (by rw [BL.out]; decide)
        subst eb
        have bR := bO.rd
        rw [BL.out]
        have sV := hV.up n3
        have sN := nxt hN n3
        have bl := bR.lt (by rw [BL.out]; decide)
        have bN : Value.ownBlock u9 ≠ some bg := fun e => by have := (World.ownsRow.lt hV bg e).2; omega
        clear SBi bO bp bq hV hN n3
        go_wp2_with fail
        clear e64 d64
        obtain ⟨im, him⟩ : ∃ m, m = i % 64 := ⟨_, rfl⟩
        have m64 : (i : Int) % 64 = (im : Int) := by omega
        have l64 : (im : Int) < 64 := by omega
        have k64 : (0 : Int) ≤ (im : Int) := by omega
        have mt : Int.tmod (i : Int) 64 = (im : Int) := by rw [Int.tmod_eq_emod_of_nonneg (by omega)]; exact m64
        have i00 : (0 : Int) ≤ (i : Int) := by omega
        have im64 : im < 64 := by omega
        have FE : Hid (fill f (i + 1) = fill f i ++ [bits BinOp.xor IntKind.u8 (data.getD i 0) (Bk.getD im 0)]) := by show _ = _; rw [FS i, HBk.out, him]
        obtain ⟨o2, ea2, hc2⟩ := hr2 (by rw [HN.out]; omega)
        subst ea2
        have gl2 := hr2.lt (by rw [HN.out]; omega)
        have CD : ∀ W, Below w1.heap.size w1 W → W.cell? ⟨g2, o2 + i, none⟩ = some (.int .u8 (data.getD i 0)) := fun W h => (World.cell?_of_block (a := ⟨g2, o2 + i, none⟩) (h.block g2 gl2)).trans (hc2 i (by rw [HN.out]; exact hlt))
        have CB : ∀ W, Rd W bg (some ⟨bg, bo, none⟩) .u8 Bk → W.cell? ⟨bg, bo + im, none⟩ = some (.int .u8 (Bk.getD im 0)) := fun W h => by
          obtain ⟨o3, e3, hc3⟩ := h (by rw [BL.out]; decide)
          simp only [Option.some.injEq, Addr.mk.injEq, true_and, and_true] at e3
          subst e3
          exact hc3 im (by rw [BL.out]; exact im64)
        clear him hc2
        generalize data.getD i 0 = dv at *
        generalize Bk.getD im 0 = bv at *
        have cd0 := CD w3 sN
        have cb0 := CB w3 bR
        have A0 : Hid (∃ v' w7, (Builtin.append_ #[22, 22] 22 #[u9, .slice (some ⟨w3.heap.size, 0, none⟩) 1 1]).run Try.prog (w3.drew.alloc (.cells #[.int .u8 (bits BinOp.xor IntKind.u8 dv bv)] 5)) = .ok v' w7 ∧ (RowB w7 w1.heap.size v' (fill f (i + 1)) ∧ Below w1.heap.size w1 w7 ∧ Rd w7 bg (some ⟨bg, bo, none⟩) .u8 Bk ∧ v'.ownBlock ≠ some bg ∧ bg < w7.heap.size ∧ (w7.cell? ⟨g2, o2 + i, none⟩ = some (.int .u8 dv) ∧ w7.cell? ⟨bg, bo + im, none⟩ = some (.int .u8 bv)))) := by
          have n6 : Below w3.heap.size w3 (w3.drew.alloc (.cells #[.int .u8 (bits BinOp.xor IntKind.u8 dv bv)] 5)) := ((Below.refl _ _).drew).alloc (Nat.le_refl _) _
          have B6 : Blk (w3.drew.alloc (.cells #[.int .u8 (bits BinOp.xor IntKind.u8 dv bv)] 5)) w3.heap.size .u8 [bits BinOp.xor IntKind.u8 dv bv] := blk_lit1 w3.drew .u8 5 _
          have z6 : (w3.drew.alloc (.cells #[.int .u8 (bits BinOp.xor IntKind.u8 dv bv)] 5)).heap.size = w3.heap.size + 1 := by simp
          generalize w3.drew.alloc (.cells #[.int .u8 (bits BinOp.xor IntKind.u8 dv bv)] 5) = wz at *
          have sz := sN.size
          obtain ⟨v', w7, hap, o7, G7, W7⟩ := append_anyH (P := Try.prog) wz 22 i0 Try.underlying22 hi hz0 hz1 hz2 w1.heap.size _ _ (sV.up n6) w3.heap.size 0 1 [bits BinOp.xor IntKind.u8 dv bv] B6.own0.rd (by rw [FLn]; simp; omega) (by omega)
          have lo := fun k h => World.ownsRow.lt sV k h
          have N7 : Below w1.heap.size w1 w7 := (sN.trans (n6.mono sz)).trans ⟨G7.os, G7.tape, G7.output, G7.size, fun k hk => G7.block k (by omega) (fun e => by have := (lo k e.symm).1; omega)⟩
          have bR7 := (bR.up n6).of_block (G7.block bg (by omega) (fun e => bN e.symm))
          have s7 := G7.size
          refine ⟨v', w7, hap, by rw [FE.out]; exact o7, N7, bR7, ?_, by omega, CD _ N7, CB _ bR7⟩
          rcases W7 with h | h
          · rw [h]; exact bN
          · rw [h]; intro e; simp only [Option.some.injEq] at e; omega
        clear CD CB FE FS
        go_region_held3 (fun W => W.cell? ⟨g2, o2 + i, none⟩ = some (.int .u8 dv) ∧ W.cell? ⟨bg, bo + im, none⟩ = some (.int .u8 bv))
          (first | go_keep | exact S7)
          (first | (refine step_append_ex rfl (.tmp 46) (.tmp 57) 22 22 rfl _ (.slice (some ⟨w3.heap.size, 0, none⟩) 1 1) rfl rfl _ A0.out ?_; rintro v' w7 ⟨o7, N7, bR7, bN7, bl7, S7⟩) | fail)
        clear A0
        go_wp2
        go_roundw
        case rel => exact ⟨i + 1, by omega, by go_num, o7, fun h => ⟨bo, bc, bg, rfl, by rw [show (i + 1) / 64 = i / 64 by omega, HBk.out]; exact bR7, bN7, bl7⟩, N7⟩
        case measure => simp [intOf]; omega
      · obtain ⟨bo, bc, bg, rfl, bR, bN, bl⟩ := hBk h64
        have e64 : ¬ ((i : Int) % 64 = 0) := by omega
        have BL := hide (BLl (ct + ((i / 64 : Nat) : Int)))
        obtain ⟨Bk, hBk'⟩ : ∃ b, b = strB key (ct + ((i / 64 : Nat) : Int)) non := ⟨_, rfl⟩
        rw [← hBk'] at bR BL
        have HBk := hide hBk'.symm
        clear hBk' hBk SB SA
        have sV := hV
        have sN := hN
        clear hV hN
        go_wp2_with fail
        clear e64
        obtain ⟨im, him⟩ : ∃ m, m = i % 64 := ⟨_, rfl⟩
        have m64 : (i : Int) % 64 = (im : Int) := by omega
        have l64 : (im : Int) < 64 := by omega
        have k64 : (0 : Int) ≤ (im : Int) := by omega
        have mt : Int.tmod (i : Int) 64 = (im : Int) := by rw [Int.tmod_eq_emod_of_nonneg (by omega)]; exact m64
        have i00 : (0 : Int) ≤ (i : Int) := by omega
        have im64 : im < 64 := by omega
        have FE : Hid (fill f (i + 1) = fill f i ++ [bits BinOp.xor IntKind.u8 (data.getD i 0) (Bk.getD im 0)]) := by show _ = _; rw [FS i, HBk.out, him]
        obtain ⟨o2, ea2, hc2⟩ := hr2 (by rw [HN.out]; omega)
        subst ea2
        have gl2 := hr2.lt (by rw [HN.out]; omega)
        have CD : ∀ W, Below w1.heap.size w1 W → W.cell? ⟨g2, o2 + i, none⟩ = some (.int .u8 (data.getD i 0)) := fun W h => (World.cell?_of_block (a := ⟨g2, o2 + i, none⟩) (h.block g2 gl2)).trans (hc2 i (by rw [HN.out]; exact hlt))
        have CB : ∀ W, Rd W bg (some ⟨bg, bo, none⟩) .u8 Bk → W.cell? ⟨bg, bo + im, none⟩ = some (.int .u8 (Bk.getD im 0)) := fun W h => by
          obtain ⟨o3, e3, hc3⟩ := h (by rw [BL.out]; decide)
          simp only [Option.some.injEq, Addr.mk.injEq, true_and, and_true] at e3
          subst e3
          exact hc3 im (by rw [BL.out]; exact im64)
        clear him hc2
        generalize data.getD i 0 = dv at *
        generalize Bk.getD im 0 = bv at *
        have cd0 := CD wr sN
        have cb0 := CB wr bR
        have A0 : Hid (∃ v' w7, (Builtin.append_ #[22, 22] 22 #[u9, .slice (some ⟨wr.heap.size, 0, none⟩) 1 1]).run Try.prog (wr.drew.alloc (.cells #[.int .u8 (bits BinOp.xor IntKind.u8 dv bv)] 5)) = .ok v' w7 ∧ (RowB w7 w1.heap.size v' (fill f (i + 1)) ∧ Below w1.heap.size w1 w7 ∧ Rd w7 bg (some ⟨bg, bo, none⟩) .u8 Bk ∧ v'.ownBlock ≠ some bg ∧ bg < w7.heap.size ∧ (w7.cell? ⟨g2, o2 + i, none⟩ = some (.int .u8 dv) ∧ w7.cell? ⟨bg, bo + im, none⟩ = some (.int .u8 bv)))) := by
          have n6 : Below wr.heap.size wr (wr.drew.alloc (.cells #[.int .u8 (bits BinOp.xor IntKind.u8 dv bv)] 5)) := ((Below.refl _ _).drew).alloc (Nat.le_refl _) _
          have B6 : Blk (wr.drew.alloc (.cells #[.int .u8 (bits BinOp.xor IntKind.u8 dv bv)] 5)) wr.heap.size .u8 [bits BinOp.xor IntKind.u8 dv bv] := blk_lit1 wr.drew .u8 5 _
          have z6 : (wr.drew.alloc (.cells #[.int .u8 (bits BinOp.xor IntKind.u8 dv bv)] 5)).heap.size = wr.heap.size + 1 := by simp
          generalize wr.drew.alloc (.cells #[.int .u8 (bits BinOp.xor IntKind.u8 dv bv)] 5) = wz at *
          have sz := sN.size
          obtain ⟨v', w7, hap, o7, G7, W7⟩ := append_anyH (P := Try.prog) wz 22 i0 Try.underlying22 hi hz0 hz1 hz2 w1.heap.size _ _ (sV.up n6) wr.heap.size 0 1 [bits BinOp.xor IntKind.u8 dv bv] B6.own0.rd (by rw [FLn]; simp; omega) (by omega)
          have lo := fun k h => World.ownsRow.lt sV k h
          have N7 : Below w1.heap.size w1 w7 := (sN.trans (n6.mono sz)).trans ⟨G7.os, G7.tape, G7.output, G7.size, fun k hk => G7.block k (by omega) (fun e => by have := (lo k e.symm).1; omega)⟩
          have bR7 := (bR.up n6).of_block (G7.block bg (by omega) (fun e => bN e.symm))
          have s7 := G7.size
          refine ⟨v', w7, hap, by rw [FE.out]; exact o7, N7, bR7, ?_, by omega, CD _ N7, CB _ bR7⟩
          rcases W7 with h | h
          · rw [h]; exact bN
          · rw [h]; intro e; simp only [Option.some.injEq] at e; omega
        clear CD CB FE FS
        go_region_held3 (fun W => W.cell? ⟨g2, o2 + i, none⟩ = some (.int .u8 dv) ∧ W.cell? ⟨bg, bo + im, none⟩ = some (.int .u8 bv))
          (first | go_keep | exact S7)
          (first | (refine step_append_ex rfl (.tmp 46) (.tmp 57) 22 22 rfl _ (.slice (some ⟨wr.heap.size, 0, none⟩) 1 1) rfl rfl _ A0.out ?_; rintro v' w7 ⟨o7, N7, bR7, bN7, bl7, S7⟩) | fail)
        clear A0
        go_wp2
        go_roundw
        case rel => exact ⟨i + 1, by omega, by go_num, o7, fun h => ⟨bo, bc, bg, rfl, by rw [show (i + 1) / 64 = i / 64 by omega, HBk.out]; exact bR7, bN7, bl7⟩, N7⟩
        case measure => simp [intOf]; omega
    · obtain rfl : i = n := by omega
      obtain ⟨a3, c3, g3, rfl, o3, p3, q3, r3⟩ := hV.own
      have FL := hide (FLn i)
      go_wp2
      go_ret
      exact ⟨⟨a3, c3, g3, rfl, o3, p3, q3, r3⟩, hN⟩
set_option maxHeartbeats 1000000 in
theorem specXor_any (w : World) (g : Nat) (a : Option Addr) (c : Nat) (key : List Int) (hr : Rd w g a .u8 key) (hb : Byt key) (hc : key.length ≤ c) (ct : Int) (g' : Nat) (a' : Option Addr) (c' : Nat) (non : List Int) (hr' : Rd w g' a' .u8 non) (hb' : Byt non) (hc' : non.length ≤ c')
    (g2 : Nat) (a2 : Option Addr) (c2 : Nat) (data : List Int) (hr2 : Rd w g2 a2 .u8 data) (hn : data.length ≤ 4194304) :
    Calls Try.prog 36 #[.slice a key.length c, .int .i64 ct, .slice a' non.length c', .slice a2 data.length c2] w fun e w' => NewRow w.heap.size w' e .u8 (sxA key ct non data) ∧ Below w.heap.size w w' := by
  by_cases hf : fitB key ct non = true
  · have h := hf
    unfold fitB at h
    simp only [Bool.and_eq_true, decide_eq_true_eq] at h
    by_cases h3 : hasC ct data.length = true
    · have h3' := h3
      unfold hasC at h3'
      simp only [decide_eq_true_eq] at h3'
      have RS : sxA key ct non data = fill (sxF key ct non data) data.length := by unfold sxA; rw [if_pos ⟨hf, h3⟩]; exact sx_fill key ct non data
      rw [RS]
      exact specXor_core w g a c key hr hb hc ct h.2.1 h.2.2 g' a' c' non hr' hb' hc' g2 a2 c2 data hr2 hn hf h3'
    · have RS : Hid (sxA key ct non data = []) := by show _ = _; unfold sxA; rw [if_neg (fun h => h3 h.2)]
      rw [RS.out]
      unfold hasC at h3
      simp only [decide_eq_true_eq] at h3
      have FT := fits_any w a a' c c' key non ct
      rw [hf] at FT
      have h0 := h.2.1
      have h1 := h.2.2
      have q1 : decide ((4294967295 : Int) < ct + ((data.length : Int) + 63) / 64 - 1) = true := by simp; omega
      have cb0 : (0 : Int) ≤ ((data.length : Int) + 63) / 64 := by omega
      have cb1 : ((data.length : Int) + 63) / 64 ≤ 65537 := by omega
      clear hf RS h h3
      go_enter Try.func36, Try.ntmps36
      go_wp2_with fail
      refine FT.mono ?_
      rintro e w1 ⟨rfl, rfl⟩
      go_wp2
      go_ret
      exact ⟨newRow_e _ _, (Below.refl _ _).alloc (Nat.le_refl _) _⟩
  · have RS : Hid (sxA key ct non data = []) := by show _ = _; unfold sxA; rw [if_neg (fun h => hf h.1)]
    rw [RS.out]
    have FT := fits_any w a a' c c' key non ct
    rw [show fitB key ct non = false by simpa using hf] at FT
    clear hf RS
    go_enter Try.func36, Try.ntmps36
    go_wp2_with fail
    refine FT.mono ?_
    rintro e w1 ⟨rfl, rfl⟩
    go_wp2
    go_ret
    exact ⟨newRow_e _ _, (Below.refl _ _).alloc (Nat.le_refl _) _⟩
end Go.Proofs.Ytcljoaknaegpmaa

/-
  The model's StreamXor answers a row that may be appended to (written by gens/spr.py).
-/
namespace Go.Proofs.Ytcljoaknaegpmaa
open Go Go.RowKit

set_option maxRecDepth 100000 in
set_option maxHeartbeats 8000000 in
theorem specXorR_core (w : World) (g : Nat) (a : Option Addr) (c : Nat) (key : List Int) (hr : Rd w g a .u8 key) (hb : Byt key) (hc : key.length ≤ c) (ct : Int) (h0 : 0 ≤ ct) (h1 : ct ≤ 4294967295) (g' : Nat) (a' : Option Addr) (c' : Nat) (non : List Int) (hr' : Rd w g' a' .u8 non) (hb' : Byt non) (hc' : non.length ≤ c')
    (g2 : Nat) (a2 : Option Addr) (c2 : Nat) (data : List Int) (hr2 : Rd w g2 a2 .u8 data) (hn : data.length ≤ 4194304) (hf : fitB key ct non = true) (h3 : (data.length : Int) ≤ (4294967296 - ct) * 64) :
    Calls Try.prog 36 #[.slice a key.length c, .int .i64 ct, .slice a' non.length c', .slice a2 data.length c2] w fun e w' => (∃ v, e = .returned v ∧ RowB w' w.heap.size v (fill (sxF key ct non data) data.length)) ∧ Below w.heap.size w w' := by
  obtain ⟨i0, hi, hz0, hz1, hz2⟩ := info_parts Try.info5
  have FT := fits_any w a a' c c' key non ct
  rw [hf] at FT
  have SB := fun W (k : Nat) (n : Below w.heap.size w W) => hide (specBlock_any W g a c key (hr.up n) hb hc (ct + ((k / 64 : Nat) : Int)) g' a' c' non (hr'.up n) hb' hc')
  have SA : ∀ k, k < data.length → Hid (sbA key (ct + ((k / 64 : Nat) : Int)) non = strB key (ct + ((k / 64 : Nat) : Int)) non) := fun k hk => sbA_fit hf (by omega) (by omega)
  have BLl : ∀ c, (strB key c non).length = 64 := fun c => stB_len _
  have FS : ∀ i, fill (sxF key ct non data) (i + 1) = fill (sxF key ct non data) i ++ [bits BinOp.xor IntKind.u8 (data.getD i 0) ((strB key (ct + ((i / 64 : Nat) : Int)) non).getD (i % 64) 0)] := fun i => fill_succ _ _
  have FLn : ∀ i, (fill (sxF key ct non data) i).length = i := fun i => fill_len _ _
  have q1 : decide ((4294967295 : Int) < ct + ((data.length : Int) + 63) / 64 - 1) = false := by simp; omega
  have dn : (data.length : Int) ≤ 4194304 := by omega
  have hq1 := hide q1
  clear hf hr hr' hb hb' h3
  generalize sxF key ct non data = f at *
  generalize hlen : data.length = n at *
  have HN := hide hlen
  have cb0 : (0 : Int) ≤ ((n : Int) + 63) / 64 := by omega
  have cb1 : ((n : Int) + 63) / 64 ≤ 65537 := by omega
  go_enter Try.func36, Try.ntmps36
  go_wp2_with fail
  refine FT.mono ?_
  rintro e w1 ⟨rfl, rfl⟩
  clear FT
  have n1 : Below w1.heap.size w1 (w1.alloc (.cells #[] 5)) := (Below.refl _ _).alloc (Nat.le_refl _) _
  have R1 := RowB.lit0 w1
  have z1 : (w1.alloc (.cells #[] 5)).heap.size = w1.heap.size + 1 := by simp
  have n2 : Below (w1.alloc (.cells #[] 5)).heap.size (w1.alloc (.cells #[] 5)) ((w1.alloc (.cells #[] 5)).alloc (.cells #[] 5)) := (Below.refl _ _).alloc (Nat.le_refl _) _
  go_wp2
  have R2 := R1.up n2
  have N2 := nxt n1 n2
  generalize (w1.alloc (.cells #[] 5)).alloc (.cells #[] 5) = wa at *
  clear n1 n2 R1 z1
  go_loopw [9, 10, 11] (fun v b u wr => ∃ (i : Nat), i ≤ n ∧ u = .int .i64 i ∧ RowB wr w1.heap.size v (fill f i) ∧ (i % 64 ≠ 0 → ∃ (bo bc bg : Nat), b = .slice (some ⟨bg, bo, none⟩) 64 bc ∧ Rd wr bg (some ⟨bg, bo, none⟩) .u8 (strB key (ct + ((i / 64 : Nat) : Int)) non) ∧ v.ownBlock ≠ some bg ∧ bg < wr.heap.size) ∧ Below w1.heap.size w1 wr) (fun _ _ u _ => n - (intOf u).toNat)
  case atStart => exact ⟨0, Nat.zero_le _, rfl, R2, fun h => absurd rfl h, N2⟩
  case round =>
    obtain ⟨i, hin, rfl, hV, hBk, hN⟩ := hrel
    clear R2 N2
    by_cases hlt : i < n
    · have iI : (i : Int) < (n : Int) := by omega
      by_cases h64 : i % 64 = 0
      · have e64 : (i : Int) % 64 = 0 := by omega
        have SBi := SB wr i hN
        rw [(SA i hlt).out] at SBi
        have BL := hide (BLl (ct + ((i / 64 : Nat) : Int)))
        obtain ⟨Bk, hBk'⟩ : ∃ b, b = strB key (ct + ((i / 64 : Nat) : Int)) non := ⟨_, rfl⟩
        rw [← hBk'] at SBi BL
        obtain ⟨kq, hkq⟩ : ∃ k, k = i / 64 := ⟨_, rfl⟩
        rw [← hkq] at SBi
        have d64 : (i : Int) / 64 = (kq : Int) := by omega
        have b64 : (kq : Int) ≤ 65537 := by omega
        have b65 : 0 ≤ ct + (kq : Int) := by omega
        have b66 : ct + (kq : Int) ≤ 4295032833 := by omega
        clear hkq
        have HBk := hide hBk'.symm
        clear hBk' hBk SB SA
        go_wp2_with fail
        refine SBi.out.mono ?_
        rintro e w3 ⟨⟨ba, bc, bg, rfl, bO, bp, bq, br⟩, n3⟩
        obtain ⟨bo, eb, -⟩ := bO.rd (by rw [BL.out]; decide)
        subst eb
        have bR := bO.rd
        rw [BL.out]
        have sV := hV.up n3
        have sN := nxt hN n3
        have bl := bR.lt (by rw [BL.out]; decide)
        have bN : Value.ownBlock u9 ≠ some bg := fun e => by have := (World.ownsRow.lt hV bg e).2; omega
        clear SBi bO bp bq hV hN n3
        go_wp2_with fail
        clear e64 d64
        obtain ⟨im, him⟩ : ∃ m, m = i % 64 := ⟨_, rfl⟩
        have m64 : (i : Int) % 64 = (im : Int) := by omega
        have l64 : (im : Int) < 64 := by omega
        have k64 : (0 : Int) ≤ (im : Int) := by omega
        have mt : Int.tmod (i : Int) 64 = (im : Int) := by rw [Int.tmod_eq_emod_of_nonneg (by omega)]; exact m64
        have i00 : (0 : Int) ≤ (i : Int) := by omega
        have im64 : im < 64 := by omega
        have FE : Hid (fill f (i + 1) = fill f i ++ [bits BinOp.xor IntKind.u8 (data.getD i 0) (Bk.getD im 0)]) := by show _ = _; rw [FS i, HBk.out, him]
        obtain ⟨o2, ea2, hc2⟩ := hr2 (by rw [HN.out]; omega)
        subst ea2
        have gl2 := hr2.lt (by rw [HN.out]; omega)
        have CD : ∀ W, Below w1.heap.size w1 W → W.cell? ⟨g2, o2 + i, none⟩ = some (.int .u8 (data.getD i 0)) := fun W h => (World.cell?_of_block (a := ⟨g2, o2 + i, none⟩) (h.block g2 gl2)).trans (hc2 i (by rw [HN.out]; exact hlt))
        have CB : ∀ W, Rd W bg (some ⟨bg, bo, none⟩) .u8 Bk → W.cell? ⟨bg, bo + im, none⟩ = some (.int .u8 (Bk.getD im 0)) := fun W h => by
          obtain ⟨o3, e3, hc3⟩ := h (by rw [BL.out]; decide)
          simp only [Option.some.injEq, Addr.mk.injEq, true_and, and_true] at e3
          subst e3
          exact hc3 im (by rw [BL.out]; exact im64)
        clear him hc2
        generalize data.getD i 0 = dv at *
        generalize Bk.getD im 0 = bv at *
        have cd0 := CD w3 sN
        have cb0 := CB w3 bR
        have A0 : Hid (∃ v' w7, (Builtin.append_ #[22, 22] 22 #[u9, .slice (some ⟨w3.heap.size, 0, none⟩) 1 1]).run Try.prog (w3.drew.alloc (.cells #[.int .u8 (bits BinOp.xor IntKind.u8 dv bv)] 5)) = .ok v' w7 ∧ (RowB w7 w1.heap.size v' (fill f (i + 1)) ∧ Below w1.heap.size w1 w7 ∧ Rd w7 bg (some ⟨bg, bo, none⟩) .u8 Bk ∧ v'.ownBlock ≠ some bg ∧ bg < w7.heap.size ∧ (w7.cell? ⟨g2, o2 + i, none⟩ = some (.int .u8 dv) ∧ w7.cell? ⟨bg, bo + im, none⟩ = some (.int .u8 bv)))) := by
          have n6 : Below w3.heap.size w3 (w3.drew.alloc (.cells #[.int .u8 (bits BinOp.xor IntKind.u8 dv bv)] 5)) := ((Below.refl _ _).drew).alloc (Nat.le_refl _) _
          have B6 : Blk (w3.drew.alloc (.cells #[.int .u8 (bits BinOp.xor IntKind.u8 dv bv)] 5)) w3.heap.size .u8 [bits BinOp.xor IntKind.u8 dv bv] := blk_lit1 w3.drew .u8 5 _
          have z6 : (w3.drew.alloc (.cells #[.int .u8 (bits BinOp.xor IntKind.u8 dv bv)] 5)).heap.size = w3.heap.size + 1 := by simp
          generalize w3.drew.alloc (.cells #[.int .u8 (bits BinOp.xor IntKind.u8 dv bv)] 5) = wz at *
          have sz := sN.size
          obtain ⟨v', w7, hap, o7, G7, W7⟩ := append_anyH (P := Try.prog) wz 22 i0 Try.underlying22 hi hz0 hz1 hz2 w1.heap.size _ _ (sV.up n6) w3.heap.size 0 1 [bits BinOp.xor IntKind.u8 dv bv] B6.own0.rd (by rw [FLn]; simp; omega) (by omega)
          have lo := fun k h => World.ownsRow.lt sV k h
          have N7 : Below w1.heap.size w1 w7 := (sN.trans (n6.mono sz)).trans ⟨G7.os, G7.tape, G7.output, G7.size, fun k hk => G7.block k (by omega) (fun e => by have := (lo k e.symm).1; omega)⟩
          have bR7 := (bR.up n6).of_block (G7.block bg (by omega) (fun e => bN e.symm))
          have s7 := G7.size
          refine ⟨v', w7, hap, by rw [FE.out]; exact o7, N7, bR7, ?_, by omega, CD _ N7, CB _ bR7⟩
          rcases W7 with h | h
          · rw [h]; exact bN
          · rw [h]; intro e; simp only [Option.some.injEq] at e; omega
        clear CD CB FE FS
        go_region_held3 (fun W => W.cell? ⟨g2, o2 + i, none⟩ = some (.int .u8 dv) ∧ W.cell? ⟨bg, bo + im, none⟩ = some (.int .u8 bv))
          (first | go_keep | exact S7)
          (first | (refine step_append_ex rfl (.tmp 46) (.tmp 57) 22 22 rfl _ (.slice (some ⟨w3.heap.size, 0, none⟩) 1 1) rfl rfl _ A0.out ?_; rintro v' w7 ⟨o7, N7, bR7, bN7, bl7, S7⟩) | fail)
        clear A0
        go_wp2
        go_roundw
        case rel => exact ⟨i + 1, by omega, by go_num, o7, fun h => ⟨bo, bc, bg, rfl, by rw [show (i + 1) / 64 = i / 64 by omega, HBk.out]; exact bR7, bN7, bl7⟩, N7⟩
        case measure => simp [intOf]; omega
      · obtain ⟨bo, bc, bg, rfl, bR, bN, bl⟩ := hBk h64
        have e64 : ¬ ((i : Int) % 64 = 0) := by omega
        have BL := hide (BLl (ct + ((i / 64 : Nat) : Int)))
        obtain ⟨Bk, hBk'⟩ : ∃ b, b = strB key (ct + ((i / 64 : Nat) : Int)) non := ⟨_, rfl⟩
        rw [← hBk'] at bR BL
        have HBk := hide hBk'.symm
        clear hBk' hBk SB SA
        have sV := hV
        have sN := hN
        clear hV hN
        go_wp2_with fail
        clear e64
        obtain ⟨im, him⟩ : ∃ m, m = i % 64 := ⟨_, rfl⟩
        have m64 : (i : Int) % 64 = (im : Int) := by omega
        have l64 : (im : Int) < 64 := by omega
        have k64 : (0 : Int) ≤ (im : Int) := by omega
        have mt : Int.tmod (i : Int) 64 = (im : Int) := by rw [Int.tmod_eq_emod_of_nonneg (by omega)]; exact m64
        have i00 : (0 : Int) ≤ (i : Int) := by omega
        have im64 : im < 64 := by omega
        have FE : Hid (fill f (i + 1) = fill f i ++ [bits BinOp.xor IntKind.u8 (data.getD i 0) (Bk.getD im 0)]) := by show _ = _; rw [FS i, HBk.out, him]
        obtain ⟨o2, ea2, hc2⟩ := hr2 (by rw [HN.out]; omega)
        subst ea2
        have gl2 := hr2.lt (by rw [HN.out]; omega)
        have CD : ∀ W, Below w1.heap.size w1 W → W.cell? ⟨g2, o2 + i, none⟩ = some (.int .u8 (data.getD i 0)) := fun W h => (World.cell?_of_block (a := ⟨g2, o2 + i, none⟩) (h.block g2 gl2)).trans (hc2 i (by rw [HN.out]; exact hlt))
        have CB : ∀ W, Rd W bg (some ⟨bg, bo, none⟩) .u8 Bk → W.cell? ⟨bg, bo + im, none⟩ = some (.int .u8 (Bk.getD im 0)) := fun W h => by
          obtain ⟨o3, e3, hc3⟩ := h (by rw [BL.out]; decide)
          simp only [Option.some.injEq, Addr.mk.injEq, true_and, and_true] at e3
          subst e3
          exact hc3 im (by rw [BL.out]; exact im64)
        clear him hc2
        generalize data.getD i 0 = dv at *
        generalize Bk.getD im 0 = bv at *
        have cd0 := CD wr sN
        have cb0 := CB wr bR
        have A0 : Hid (∃ v' w7, (Builtin.append_ #[22, 22] 22 #[u9, .slice (some ⟨wr.heap.size, 0, none⟩) 1 1]).run Try.prog (wr.drew.alloc (.cells #[.int .u8 (bits BinOp.xor IntKind.u8 dv bv)] 5)) = .ok v' w7 ∧ (RowB w7 w1.heap.size v' (fill f (i + 1)) ∧ Below w1.heap.size w1 w7 ∧ Rd w7 bg (some ⟨bg, bo, none⟩) .u8 Bk ∧ v'.ownBlock ≠ some bg ∧ bg < w7.heap.size ∧ (w7.cell? ⟨g2, o2 + i, none⟩ = some (.int .u8 dv) ∧ w7.cell? ⟨bg, bo + im, none⟩ = some (.int .u8 bv)))) := by
          have n6 : Below wr.heap.size wr (wr.drew.alloc (.cells #[.int .u8 (bits BinOp.xor IntKind.u8 dv bv)] 5)) := ((Below.refl _ _).drew).alloc (Nat.le_refl _) _
          have B6 : Blk (wr.drew.alloc (.cells #[.int .u8 (bits BinOp.xor IntKind.u8 dv bv)] 5)) wr.heap.size .u8 [bits BinOp.xor IntKind.u8 dv bv] := blk_lit1 wr.drew .u8 5 _
          have z6 : (wr.drew.alloc (.cells #[.int .u8 (bits BinOp.xor IntKind.u8 dv bv)] 5)).heap.size = wr.heap.size + 1 := by simp
          generalize wr.drew.alloc (.cells #[.int .u8 (bits BinOp.xor IntKind.u8 dv bv)] 5) = wz at *
          have sz := sN.size
          obtain ⟨v', w7, hap, o7, G7, W7⟩ := append_anyH (P := Try.prog) wz 22 i0 Try.underlying22 hi hz0 hz1 hz2 w1.heap.size _ _ (sV.up n6) wr.heap.size 0 1 [bits BinOp.xor IntKind.u8 dv bv] B6.own0.rd (by rw [FLn]; simp; omega) (by omega)
          have lo := fun k h => World.ownsRow.lt sV k h
          have N7 : Below w1.heap.size w1 w7 := (sN.trans (n6.mono sz)).trans ⟨G7.os, G7.tape, G7.output, G7.size, fun k hk => G7.block k (by omega) (fun e => by have := (lo k e.symm).1; omega)⟩
          have bR7 := (bR.up n6).of_block (G7.block bg (by omega) (fun e => bN e.symm))
          have s7 := G7.size
          refine ⟨v', w7, hap, by rw [FE.out]; exact o7, N7, bR7, ?_, by omega, CD _ N7, CB _ bR7⟩
          rcases W7 with h | h
          · rw [h]; exact bN
          · rw [h]; intro e; simp only [Option.some.injEq] at e; omega
        clear CD CB FE FS
        go_region_held3 (fun W => W.cell? ⟨g2, o2 + i, none⟩ = some (.int .u8 dv) ∧ W.cell? ⟨bg, bo + im, none⟩ = some (.int .u8 bv))
          (first | go_keep | exact S7)
          (first | (refine step_append_ex rfl (.tmp 46) (.tmp 57) 22 22 rfl _ (.slice (some ⟨wr.heap.size, 0, none⟩) 1 1) rfl rfl _ A0.out ?_; rintro v' w7 ⟨o7, N7, bR7, bN7, bl7, S7⟩) | fail)
        clear A0
        go_wp2
        go_roundw
        case rel => exact ⟨i + 1, by omega, by go_num, o7, fun h => ⟨bo, bc, bg, rfl, by rw [show (i + 1) / 64 = i / 64 by omega, HBk.out]; exact bR7, bN7, bl7⟩, N7⟩
        case measure => simp [intOf]; omega
    · obtain rfl : i = n := by omega
      obtain ⟨a3, c3, g3, rfl, -, -, -, -⟩ := hV.own
      clear FLn
      go_wp2
      go_ret
      exact ⟨⟨_, rfl, hV⟩, hN⟩
end Go.Proofs.Ytcljoaknaegpmaa

/-
  The model's l8Summed, l8Sum and Seal (written by gens/pzd.py).
-/
namespace Go.Proofs.Ytcljoaknaegpmaa
open Go Go.RowKit

/-- A row that may be read. -/
def Fact.ro (xs : List Int) : Fact := ⟨fun v W => ∃ (a : Option Addr) (c g : Nat), v = .slice a xs.length c ∧ Rd W g a .u8 xs ∧ xs.length ≤ c ∧ (a = none → c = 0), fun h ⟨a, c, g, e, r, l, p⟩ => ⟨a, c, g, e, r.up h, l, p⟩⟩
set_option maxHeartbeats 1000000 in
theorem l1CopyR_any (w : World) (g : Nat) (a : Option Addr) (c : Nat) (xs : List Int) (hr : Rd w g a .u8 xs) (hc : a = none → c = 0) (hn : xs.length ≤ 4194304) :
    Calls Try.prog 22 #[.slice a xs.length c] w fun e w' => (∃ v, e = .returned v ∧ RowB w' w.heap.size v xs) ∧ Below w.heap.size w w' := by
  obtain ⟨i0, hi, hz0, hz1, hz2⟩ := info_parts Try.info5
  have hal : Below w.heap.size w (w.alloc (.cells #[] 5)) := (Below.refl _ _).alloc (Nat.le_refl _) _
  obtain ⟨v', w2, hap, o2, n2⟩ := append_any (P := Try.prog) (w.alloc (.cells #[] 5)) 22 i0 Try.underlying22 hi hz0 hz1 hz2 w.heap.size w.heap.size _ [] (RowB.lit0 w) g a c xs (hr.up hal) hc (by simp; omega) (Nat.le_refl _) (by simp)
  rw [List.nil_append] at o2
  go_enter Try.func22, Try.ntmps22
  go_wp2_with (at_builtin; refine Lib.wpList_append_run _ rfl _ _ 22 22 rfl _ _ rfl rfl _ _ hap ?_)
  go_ret
  exact ⟨⟨_, rfl, o2⟩, hal.trans n2⟩
theorem len_bval {ys : List Int} {n : Int} (_ : Byt ys) (_ : bval ys = n) (h : ys.length ≤ 1048576) : ys.length ≤ 1048576 := h
theorem little_len (ys : List Int) (n : Nat) (h : Byt ys) (v : bval ys = (n : Int)) : fill (dig ys) 8 = len8 n := fill_congr fun i _ => by rw [dig_of h, v]
set_option maxRecDepth 100000 in
set_option maxHeartbeats 8000000 in
theorem l8Summed_any (w : World) (ge : Nat) (ae : Option Addr) (ce : Nat) (ex : List Int) (he : Rd w ge ae .u8 ex) (en : ae = none → ce = 0)
    (gt : Nat) (at' : Option Addr) (ct : Nat) (tx : List Int) (ht : Rd w gt at' .u8 tx) (tn : at' = none → ct = 0) (hs : ex.length + tx.length ≤ 4000000) :
    Calls Try.prog 57 #[.slice ae ex.length ce, .slice at' tx.length ct] w fun e w' => NewRow w.heap.size w' e .u8 (smd ex tx) ∧ Below w.heap.size w w' := by
  obtain ⟨i0, hi, hz0, hz1, hz2⟩ := info_parts Try.info5
  have z1 := zpad_len ex.length
  have z2 := zpad_len tx.length
  have l1 := len8_len ex.length
  have l2 := len8_len tx.length
  have ZZ := hide (show (zpad ex.length).length < 16 ∧ (zpad tx.length).length < 16 ∧ (len8 ex.length).length = 8 ∧ (len8 tx.length).length = 8 from ⟨z1, z2, l1, l2⟩)
  have HS := hide hs
  have SMD : Hid (smd ex tx = ex ++ zpad ex.length ++ tx ++ zpad tx.length ++ len8 ex.length ++ len8 tx.length) := rfl
  have eL : ex.length ≤ 4194304 := by omega
  have tL : tx.length ≤ 4194304 := by omega
  clear z1 z2 l1 l2 hs
  go_enter Try.func57, Try.ntmps57
  go_wp2_with fail
  refine (l1CopyR_any w ge ae ce ex he en eL).mono ?_
  rintro e w1 ⟨⟨v1, rfl, R1⟩, N1⟩
  go_wp2_with fail
  refine (l8Zeros_any w1 ex.length eL).mono ?_
  rintro e w2 ⟨⟨a2, c2, g2, rfl, o2, p2, q2, r2⟩, n2⟩
  have N2 := nxt N1 n2
  obtain ⟨v3, w3, hap3, R3, n3⟩ := append_any (P := Try.prog) w2 22 i0 Try.underlying22 hi hz0 hz1 hz2 w.heap.size w.heap.size _ _ (R1.up n2) g2 a2 c2 _ o2.rd p2 (by have := ZZ.out; omega) (Nat.le_refl _) N2.size
  have N3 := N2.trans n3
  clear R1 o2 n2 n3 N1 N2
  go_upto_region 2 with (at_builtin; refine Lib.wpList_append_run _ rfl _ _ 22 22 rfl _ _ rfl rfl _ _ hap3 ?_)
  clear hap3
  obtain ⟨v4, w4, hap4, R4, n4⟩ := append_any (P := Try.prog) w3 22 i0 Try.underlying22 hi hz0 hz1 hz2 w.heap.size w.heap.size _ _ R3 gt at' ct tx (ht.up N3) tn (by rw [List.length_append]; have := ZZ.out; have := HS.out; omega) (Nat.le_refl _) N3.size
  have N4 := N3.trans n4
  clear R3 n4 N3
  go_upto_region 3 with (at_builtin; refine Lib.wpList_append_run _ rfl _ _ 22 22 rfl _ _ rfl rfl _ _ hap4 ?_)
  clear hap4
  go_wp2_with fail
  refine (l8Zeros_any w4 tx.length tL).mono ?_
  rintro e w5 ⟨⟨a5, c5, g5, rfl, o5, p5, q5, r5'⟩, n5⟩
  have N5 := nxt N4 n5
  obtain ⟨v6, w6, hap6, R6, n6⟩ := append_any (P := Try.prog) w5 22 i0 Try.underlying22 hi hz0 hz1 hz2 w.heap.size w.heap.size _ _ (R4.up n5) g5 a5 c5 _ o5.rd p5 (by rw [List.length_append, List.length_append]; have := ZZ.out; have := HS.out; omega) (Nat.le_refl _) N5.size
  have N6 := N5.trans n6
  clear R4 o5 n5 n6 N4 N5
  go_upto_region 4 with (at_builtin; refine Lib.wpList_append_run _ rfl _ _ 22 22 rfl _ _ rfl rfl _ _ hap6 ?_)
  clear hap6
  go_wp2_with fail
  refine (l1Int_any w6 ex.length eL).mono ?_
  rintro e w7 ⟨ns, hns, ⟨a7, c7, g7, rfl, o7, p7, q7, r7⟩, n7⟩
  have LL := hide (l1Little_any w7 g7 a7 c7 ns 8 o7.rd hns.1 (by have := len_bval hns.1 hns.2.1 hns.2.2; omega) (by omega))
  rw [little_len ns ex.length hns.1 hns.2.1] at LL
  go_wp2_with fail
  refine LL.out.mono ?_
  rintro e w8 ⟨rfl, B8, n8⟩
  have N8 := nxt (nxt N6 n7) n8
  obtain ⟨v9, w9, hap9, R9, n9⟩ := append_any (P := Try.prog) w8 22 i0 Try.underlying22 hi hz0 hz1 hz2 w.heap.size w.heap.size _ _ ((R6.up n7).up n8) w7.heap.size (some ⟨w7.heap.size, 0, none⟩) 8 _ B8.own0.rd (by simp) (by rw [List.length_append, List.length_append, List.length_append]; have := ZZ.out; have := HS.out; omega) (Nat.le_refl _) N8.size
  rw [ZZ.out.2.2.1] at hap9
  have N9 := N8.trans n9
  clear R6 o7 n7 n8 B8 n9 N6 N8 LL hns
  go_upto_region 5 with (at_builtin; refine Lib.wpList_append_run _ rfl _ _ 22 22 rfl _ _ rfl rfl _ _ hap9 ?_)
  clear hap9
  go_wp2_with fail
  refine (l1Int_any w9 tx.length tL).mono ?_
  rintro e wa ⟨ms, hms, ⟨aa, ca, ga, rfl, oa, pa, qa, ra⟩, na⟩
  have LL := hide (l1Little_any wa ga aa ca ms 8 oa.rd hms.1 (by have := len_bval hms.1 hms.2.1 hms.2.2; omega) (by omega))
  rw [little_len ms tx.length hms.1 hms.2.1] at LL
  go_wp2_with fail
  refine LL.out.mono ?_
  rintro e wb ⟨rfl, Bb, nb⟩
  have Nb := nxt (nxt N9 na) nb
  obtain ⟨vc, wc, hapc, Rc, nc⟩ := append_any (P := Try.prog) wb 22 i0 Try.underlying22 hi hz0 hz1 hz2 w.heap.size w.heap.size _ _ ((R9.up na).up nb) wa.heap.size (some ⟨wa.heap.size, 0, none⟩) 8 _ Bb.own0.rd (by simp) (by rw [List.length_append, List.length_append, List.length_append, List.length_append]; have := ZZ.out; have := HS.out; omega) (Nat.le_refl _) Nb.size
  rw [ZZ.out.2.2.2] at hapc
  have Nc := Nb.trans nc
  rw [← SMD.out] at Rc
  clear R9 oa na nb Bb nc N9 Nb LL hms
  go_wp2_with (at_builtin; refine Lib.wpList_append_run _ rfl _ _ 22 22 rfl _ _ rfl rfl _ _ hapc ?_)
  go_ret
  obtain ⟨ad, cd, gd, rfl, od, pd, qd, rd⟩ := Rc.own
  exact ⟨⟨ad, cd, gd, rfl, od, pd, qd, rd⟩, Nc⟩

end Go.Proofs.Ytcljoaknaegpmaa

/-
  The model's l8Sum and Seal (written by gens/pze.py).
-/
namespace Go.Proofs.Ytcljoaknaegpmaa
open Go Go.RowKit

theorem fit0 {key non : List Int} (h : fitK key non = true) : fitB key 0 non = true := by
  unfold fitK at h
  unfold fitB
  rw [h]
  rfl
theorem fit0' {key non : List Int} (h : fitK key non = false) : fitB key 0 non = false := by
  unfold fitK at h
  unfold fitB
  rw [h]
  rfl
theorem fit1 {key non : List Int} (h : fitK key non = true) : fitB key 1 non = true := by
  unfold fitK at h
  unfold fitB
  rw [h]
  rfl
set_option maxRecDepth 100000 in
set_option maxHeartbeats 8000000 in
theorem l8Sum_any (w : World) (g : Nat) (a : Option Addr) (c : Nat) (key : List Int) (hr : Rd w g a .u8 key) (hb : Byt key) (hc : key.length ≤ c) (g' : Nat) (a' : Option Addr) (c' : Nat) (non : List Int) (hr' : Rd w g' a' .u8 non) (hb' : Byt non) (hc' : non.length ≤ c') (hf : fitK key non = true)
    (ge : Nat) (ae : Option Addr) (ce : Nat) (ex : List Int) (he : Rd w ge ae .u8 ex) (eb : Byt ex) (en : ae = none → ce = 0)
    (gt : Nat) (at' : Option Addr) (ct : Nat) (tx : List Int) (ht : Rd w gt at' .u8 tx) (tb : Byt tx) (tn : at' = none → ct = 0) (hs : ex.length + tx.length ≤ 4000000) :
    Calls Try.prog 37 #[.slice a key.length c, .slice a' non.length c', .slice ae ex.length ce, .slice at' tx.length ct] w fun e w' => ∃ (x : Option Addr) (y z : Nat), e = .returned (.slice x 16 y) ∧ Rd w' z x .u8 (ssB (nsW key non) ex tx) ∧ (x = none → y = 0) ∧ Below w.heap.size w w' := by
  have SBv : Hid (sbA key 0 non = strB key 0 non) := by show _ = _; unfold sbA; rw [if_pos (fit0 hf)]
  have BL : Hid ((strB key 0 non).length = 64) := stB_len _
  have BB : Hid (Byt (strB key 0 non)) := stB_byt _
  have SSB : Hid (ssB (nsW key non) ex tx = otB ((strB key 0 non).take 32) (smd ex tx)) := rfl
  have SB := fun W (n : Below w.heap.size w W) => hide (specBlock_any W g a c key (hr.up n) hb hc 0 g' a' c' non (hr'.up n) hb' hc')
  simp only [SBv.out] at SB
  have SMl := smd_len ex tx
  have SMB := hide (smd_byt eb tb)
  have SM := fun W (n : Below w.heap.size w W) => hide (l8Summed_any W ge ae ce ex (he.up n) en gt at' ct tx (ht.up n) tn hs)
  have SL := hide (ssB_len (nsW key non) ex tx)
  generalize strB key 0 non = ks at *
  have TL : Hid ((ks.take 32).length = 32) := by show _ = _; rw [List.length_take, BL.out]; rfl
  have OT : Hid (otA (ks.take 32) (smd ex tx) = ssB (nsW key non) ex tx) := by show _ = _; unfold otA; rw [if_pos TL.out, SSB.out]
  have SML : Hid ((smd ex tx).length ≤ 4194304) := by show _ ≤ _; omega
  generalize smd ex tx = sm at *
  clear hf SBv SMl
  go_enter Try.func37, Try.ntmps37
  go_wp2_with fail
  refine region_end 9 (fun i => [Fact.eq (.slice a key.length c), Fact.eq (.slice a' non.length c'), Fact.ro ks, Fact.ro (ks.take 32), Fact.eq (.slice ae ex.length ce), Fact.eq (.slice at' tx.length ct), Fact.ro sm, Fact.ro (ssB (nsW key non) ex tx), Fact.ro (ssB (nsW key non) ex tx)].getD i Fact.no) (by kernel_rfl) (by kernel_rfl) rfl ?_ ?_
  · intro i hi
    obtain rfl | rfl | rfl | rfl | rfl | rfl | rfl | rfl | rfl : i = 0 ∨ i = 1 ∨ i = 2 ∨ i = 3 ∨ i = 4 ∨ i = 5 ∨ i = 6 ∨ i = 7 ∨ i = 8 := by omega
    · refine step_pure rfl fun f u hb hw hf => ?_
      have e0 : f.tmps[0]?.getD undef = .slice a key.length c := gdv (hb.2.2 0 (by kernel_rfl))
      exact ⟨.slice a key.length c, by simp [go_sem, e0], rfl⟩
    · refine step_pure rfl fun f u hb hw hf => ?_
      have e1 : f.tmps[1]?.getD undef = .slice a' non.length c' := gdv (hb.2.2 1 (by kernel_rfl))
      exact ⟨.slice a' non.length c', by simp [go_sem, e1], rfl⟩
    · refine step_callv rfl 55 _ _ rfl (by kernel_rfl) fun f u hb hw hf => ?_
      have e9 : f.tmps.getD 9 undef = .slice a key.length c := hf 0 9 (by kernel_rfl)
      have e10 : f.tmps.getD 10 undef = .slice a' non.length c' := hf 1 10 (by kernel_rfl)
      show Calls Try.prog 55 #[f.tmps.getD 9 undef, .int .i64 0, f.tmps.getD 10 undef] u _
      rw [e9, e10]
      exact (SB u hw).out.mono (by rintro e w' ⟨⟨x, y, z, rfl, o, p, q, r⟩, n⟩; exact ⟨_, rfl, n, x, y, z, rfl, o.rd, q, p⟩)
    · refine step_pure rfl fun f u hb hw hf => ?_
      obtain ⟨x, y, z, e11, R, l, p⟩ := hf 2 11 (by kernel_rfl)
      obtain ⟨o, rfl, hcc⟩ := R (by rw [BL.out]; omega)
      have e11' : f.tmps[11]?.getD undef = .slice (some ⟨z, o, none⟩) 64 y := (gdv e11).trans (by rw [BL.out])
      have y1 : (32 : Int) ≤ (y : Int) := by have := BL.out; omega
      refine ⟨.slice (some ⟨z, o, none⟩) 32 y, by simp [go_sem, e11', y1], some ⟨z, o, none⟩, y, z, by rw [TL.out], fun _ => ⟨o, rfl, fun j hj => ?_⟩, by rw [TL.out]; omega, by simp⟩
      rw [TL.out] at hj
      rw [hcc j (by rw [BL.out]; omega), List.getD_eq_getElem?_getD, List.getD_eq_getElem?_getD, List.getElem?_take, if_pos hj]
    · refine step_pure rfl fun f u hb hw hf => ?_
      have e2 : f.tmps[2]?.getD undef = .slice ae ex.length ce := gdv (hb.2.2 2 (by kernel_rfl))
      exact ⟨.slice ae ex.length ce, by simp [go_sem, e2], rfl⟩
    · refine step_pure rfl fun f u hb hw hf => ?_
      have e3 : f.tmps[3]?.getD undef = .slice at' tx.length ct := gdv (hb.2.2 3 (by kernel_rfl))
      exact ⟨.slice at' tx.length ct, by simp [go_sem, e3], rfl⟩
    · refine step_callv rfl 57 _ _ rfl (by kernel_rfl) fun f u hb hw hf => ?_
      have e13 : f.tmps.getD 13 undef = .slice ae ex.length ce := hf 4 13 (by kernel_rfl)
      have e14 : f.tmps.getD 14 undef = .slice at' tx.length ct := hf 5 14 (by kernel_rfl)
      show Calls Try.prog 57 #[f.tmps.getD 13 undef, f.tmps.getD 14 undef] u _
      rw [e13, e14]
      exact (SM u hw).out.mono (by rintro e w' ⟨⟨x, y, z, rfl, o, p, q, r⟩, n⟩; exact ⟨_, rfl, n, x, y, z, rfl, o.rd, q, p⟩)
    · refine step_callv rfl 56 _ _ rfl (by kernel_rfl) fun f u hb hw hf => ?_
      obtain ⟨x1, y1, z1, e12, R1, l1, -⟩ := hf 3 12 (by kernel_rfl)
      obtain ⟨x2, y2, z2, e15, R2, l2, -⟩ := hf 6 15 (by kernel_rfl)
      show Calls Try.prog 56 #[f.tmps.getD 12 undef, f.tmps.getD 15 undef] u _
      rw [e12, e15]
      have h := specOneTime_any u z1 x1 y1 (ks.take 32) R1 (byt_take BB.out 32) l1 z2 x2 y2 sm R2 SMB.out SML.out
      rw [OT.out] at h
      exact h.mono (by rintro e w' ⟨⟨x, y, z, rfl, o, p, q, r⟩, n⟩; exact ⟨_, rfl, n, x, y, z, rfl, o.rd, q, p⟩)
    · refine step_pure rfl fun f u hb hw hf => ?_
      obtain ⟨x, y, z, e16, R, l, p⟩ := hf 7 16 (by kernel_rfl)
      have e16' : f.tmps[16]?.getD undef = .slice x (ssB (nsW key non) ex tx).length y := gdv e16
      exact ⟨.slice x (ssB (nsW key non) ex tx).length y, by simp [go_sem, e16'], x, y, z, rfl, R, l, p⟩
  · intro f w8 hb K8 hF
    obtain ⟨x, y, z, e8, R8, -, p8⟩ := hF 8 8 (by kernel_rfl)
    obtain ⟨vs', hvs'⟩ : ∃ vs : Nat → Value, ∀ d, f.tmps.getD d undef = vs d := ⟨_, fun _ => rfl⟩
    have ea := puts_of (md := .any) (n := 17) (k := 9) (by kernel_rfl) rfl hb vs' hvs'
    have v8 : vs' 8 = .slice x 16 y := (hvs' 8).symm.trans (e8.trans (by rw [SL.out]))
    rw [ea]
    clear ea hvs' hF hb e8
    simp only [puts, v8, Act.put, List.setIfInBounds_toArray, List.set_cons_succ, List.set_cons_zero]
    go_wp2
    go_ret
    exact ⟨x, y, z, rfl, R8, p8, K8⟩
set_option maxRecDepth 100000 in
set_option maxHeartbeats 8000000 in
theorem specSeal_any (w : World) (g : Nat) (a : Option Addr) (c : Nat) (key : List Int) (hr : Rd w g a .u8 key) (hb : Byt key) (hc : key.length ≤ c) (g' : Nat) (a' : Option Addr) (c' : Nat) (non : List Int) (hr' : Rd w g' a' .u8 non) (hb' : Byt non) (hc' : non.length ≤ c')
    (ge : Nat) (ae : Option Addr) (ce : Nat) (ex : List Int) (he : Rd w ge ae .u8 ex) (eb : Byt ex) (en : ae = none → ce = 0)
    (g2 : Nat) (a2 : Option Addr) (c2 : Nat) (data : List Int) (hr2 : Rd w g2 a2 .u8 data) (db : Byt data) (hs : ex.length + data.length ≤ 4000000) :
    Calls Try.prog 23 #[.slice a key.length c, .slice a' non.length c', .slice ae ex.length ce, .slice a2 data.length c2] w fun e w' => (∃ v, e = .returned v ∧ RowB w' w.heap.size v (seA key non ex data)) ∧ Below w.heap.size w w' := by
  obtain ⟨i0, hi, hz0, hz1, hz2⟩ := info_parts Try.info5
  have FT := fits_any w a a' c c' key non 0
  by_cases h1 : fitK key non = true
  · rw [fit0 h1] at FT
    have RS : Hid (seA key non ex data = xt key non data ++ ssB (nsW key non) ex (xt key non data)) := by show _ = _; unfold seA; rw [if_pos h1]
    rw [RS.out]
    have XS := hide (specXorR_core w g a c key hr hb hc 1 (by omega) (by omega) g' a' c' non hr' hb' hc' g2 a2 c2 data hr2 (by omega) (fit1 h1) (by omega))
    have XT : Hid (fill (sxF key 1 non data) data.length = xt key non data) := (sx_fill key 1 non data).symm
    rw [XT.out] at XS
    have XB := hide (xt_byt key non db)
    have XL := hide (xt_len key non data)
    generalize xt key non data = T at *
    have HS := hide (show ex.length + T.length ≤ 4000000 by rw [XL.out]; exact hs)
    have SL := hide (ssB_len (nsW key non) ex T)
    have LS := fun W (n : Below w.heap.size w W) gt at' ct (h : Rd W gt at' .u8 T) (p : at' = none → ct = 0) => hide (l8Sum_any W g a c key (hr.up n) hb hc g' a' c' non (hr'.up n) hb' hc' h1 ge ae ce ex (he.up n) eb en gt at' ct T h XB.out p HS.out)
    clear RS h1 XT XB XL hs
    generalize ssB (nsW key non) ex T = sm at *
    go_enter Try.func23, Try.ntmps23
    go_wp2_with fail
    refine FT.mono ?_
    rintro e w1 ⟨rfl, h⟩
    have h := h.symm
    subst h
    go_wp2_with fail
    refine XS.out.mono ?_
    rintro e w2 ⟨⟨v2, rfl, R2⟩, N2⟩
    obtain ⟨a3, c3, g3, rfl, o3, p3, q3, r3⟩ := R2.own
    have LS := LS w2 N2 g3 a3 c3 o3.rd p3
    clear XS FT
    go_wp2_with fail
    refine LS.out.mono ?_
    rintro e w4 ⟨x, y, z, rfl, R4, p4, n4⟩
    have N4 := nxt N2 n4
    obtain ⟨v5, w5, hap, o5, n5⟩ := append_any (P := Try.prog) w4 22 i0 Try.underlying22 hi hz0 hz1 hz2 w.heap.size w.heap.size _ T (R2.up n4) z x y sm R4 p4 (by have := HS.out; have := SL.out; omega) (Nat.le_refl _) N4.size
    rw [SL.out] at hap
    have N5 := N4.trans n5
    clear LS R2 o3 n4 n5 N4
    go_wp2_with (at_builtin; refine Lib.wpList_append_run _ rfl _ _ 22 22 rfl _ _ rfl rfl _ _ hap ?_)
    go_ret
    exact ⟨⟨_, rfl, o5⟩, N5⟩
  · have h1' : fitK key non = false := by simpa using h1
    rw [fit0' h1'] at FT
    have RS : Hid (seA key non ex data = []) := by show _ = _; unfold seA; rw [if_neg h1]
    rw [RS.out]
    clear h1 h1' RS
    go_enter Try.func23, Try.ntmps23
    go_wp2_with fail
    refine FT.mono ?_
    rintro e w1 ⟨rfl, h⟩
    have h := h.symm
    subst h
    go_wp2
    go_ret
    exact ⟨⟨_, rfl, RowB.lit0 w⟩, (Below.refl _ _).alloc (Nat.le_refl _) _⟩
end Go.Proofs.Ytcljoaknaegpmaa

/-
  Regions by facts where a literal's row may get its mark: RegF, RgU, RgV over Gm (written by gens/rem.py).
-/
namespace Go.Proofs.Ytcljoaknaegpmaa.Mk
open Go Go.RowKit

/-- How many cells the literal's row has. -/
def LN : Nat := 6
/-- Memory grows; behind B a row of so many cells may get its mark. -/
structure Gm (B : Nat) (w w' : World) : Prop where
  os : w'.os = w.os
  tape : w'.tape = w.tape
  output : w'.output = w.output
  size : w.heap.size ≤ w'.heap.size
  block : ∀ k, k < w.heap.size → w'.heap[k]? = w.heap[k]? ∨ (B ≤ k ∧ ∃ cs t m m', cs.size = LN ∧ w.heap[k]? = some (.cells cs t m) ∧ w'.heap[k]? = some (.cells cs t m'))
theorem Gm.refl (B : Nat) (w : World) : Gm B w w := ⟨rfl, rfl, rfl, Nat.le_refl _, fun _ _ => .inl rfl⟩
theorem Gm.trans {B : Nat} {a b c : World} (h : Gm B a b) (k : Gm B b c) : Gm B a c := by
  refine ⟨k.os.trans h.os, k.tape.trans h.tape, k.output.trans h.output, Nat.le_trans h.size k.size, fun x hx => ?_⟩
  rcases h.block x hx with e | ⟨hB, cs, t, m, m', hs, e1, e2⟩
  · rcases k.block x (Nat.lt_of_lt_of_le hx h.size) with f | ⟨hB, cs, t, m, m', hs, f1, f2⟩
    · exact .inl (f.trans e)
    · exact .inr ⟨hB, cs, t, m, m', hs, e.symm.trans f1, f2⟩
  · rcases k.block x (Nat.lt_of_lt_of_le hx h.size) with f | ⟨_, cs', t', m1, m2, hs', f1, f2⟩
    · exact .inr ⟨hB, cs, t, m, m', hs, e1, f.trans e2⟩
    · rw [e2] at f1
      injection f1 with f1
      injection f1 with g1 g2 g3
      subst g1 g2
      exact .inr ⟨hB, cs, t, m, m2, hs, e1, f2⟩
theorem Gm.of_below {B : Nat} {w w' : World} (h : Below w.heap.size w w') : Gm B w w' := ⟨h.os, h.tape, h.output, h.size, fun k hk => .inl (h.block k hk)⟩
theorem Gm.drew {B : Nat} {a w : World} (h : Gm B a w) : Gm B a w.drew := h.trans (Gm.of_below (Below.refl _ _).drew)
theorem Gm.below {B : Nat} {w w' : World} (h : Gm B w w') (hB : B ≤ w.heap.size) : Below B w w' := ⟨h.os, h.tape, h.output, h.size, fun k hk => by
  rcases h.block k (by omega) with e | ⟨hB, _⟩
  · exact e
  · omega⟩
theorem Gm.below0 {w w' : World} (h : Gm w.heap.size w w') : Below w.heap.size w w' := h.below (Nat.le_refl _)
theorem Gm.cell {B : Nat} {w w' : World} (h : Gm B w w') {a : Addr} {v : Value} (hc : w.cell? a = some v) : w'.cell? a = some v := by
  have hl := block_lt_of_cell hc
  rcases h.block a.block hl with e | ⟨_, cs, t, m, m', _, e1, e2⟩
  · exact (World.cell?_of_block e).trans hc
  · simp only [World.cell?, e1] at hc
    simp only [World.cell?, e2]
    exact hc
theorem rd_gm {B : Nat} {w w' : World} {g : Nat} {a : Option Addr} {k : IntKind} {xs : List Int} (h : Rd w g a k xs) (n : Gm B w w') : Rd w' g a k xs := fun h0 => by
  obtain ⟨off, e, hc⟩ := h h0
  exact ⟨off, e, fun i hi => n.cell (hc i hi)⟩
/-- What is told of an operation's value; it lasts while the memory only grows. -/
structure Fact where
  p : Value → World → Prop
  up : ∀ {B : Nat} {v : Value} {w w' : World}, Gm B w w' → p v w → p v w'

section
variable {P : Program} {ops : Array Oper} {Q : Exit → Act → World → Prop} {md : Region.Mode} {F : Nat → Fact} {a0 : Act} {w0 : World}

/-- No operation writes slot d. -/
def apart (ops : Array Oper) (d : Nat) : Bool := ops.all fun o => o.dst != some d
/-- All slots that no operation writes are as they were. -/
def Based (ops : Array Oper) (a0 a : Act) : Prop := a.defers = a0.defers ∧ a.tmps.size = a0.tmps.size ∧ ∀ d, apart ops d = true → a.tmps.getD d undef = a0.tmps.getD d undef
/-- Number i waits for number j, which writes slot d. -/
def waits (md : Region.Mode) (ops : Array Oper) (i j d : Nat) : Bool :=
  match ops[i]?, ops[j]? with
  | some o, some oj => o.after.any (fun e => Region.binds md e && e.on == j) && oj.dst == some d
  | _, _ => false
/-- What the law asks of the region's text; n: how many slots; k: the number of the one that is looked at last, or behind the end. -/
def textOk (md : Region.Mode) (ops : Array Oper) (n k : Nat) : Bool :=
  (ops.all fun o => o.guard.isNone && (match o.dst with | some d => decide (d < n) | none => true))
  && ((List.range ops.size).all fun i => match ops[i]? with
    | some o => o.after.all (fun e => !Region.binds md e || decide (e.on < i)) && (List.range i).all fun j => match ops[j]? with
      | some x => x.dst.isNone || o.dst != x.dst
      | none => true
    | none => true)
  && decide (k ≤ ops.size ∧ ops.size ≤ k + 1)
  && (k == ops.size || (List.range k).all fun j => (List.range (k + 1)).any fun m => decide (j < m) && match ops[m]? with
    | some o => o.after.any (fun e => Region.binds md e && e.on == j)
    | none => false)

/-- What holds while the region is under way. -/
structure Held (md : Region.Mode) (ops : Array Oper) (F : Nat → Fact) (a0 : Act) (w0 : World) (listed : Array Bool) (a : Act) (w : World) : Prop where
  b : Based ops a0 a
  n : Gm w0.heap.size w0 w
  f : ∀ i o d, ops[i]? = some o → listed.getD i false = true → o.dst = some d → (F i).p (a.tmps.getD d undef) w
  c : ∀ i o, ops[i]? = some o → listed.getD i false = true → ∀ e ∈ o.after, Region.binds md e = true → listed.getD e.on false = true
  s : listed.size = ops.size

/-- One operation, with the facts of those that it waits for. -/
def StepOk (P : Program) (md : Region.Mode) (ops : Array Oper) (Q : Exit → Act → World → Prop) (F : Nat → Fact) (a0 : Act) (w0 : World) (i : Nat) : Prop :=
  ∀ o, ops[i]? = some o → ∀ a w, Based ops a0 a → Gm w0.heap.size w0 w → (∀ j d, waits md ops i j d = true → (F j).p (a.tmps.getD d undef) w) →
    ∀ K : Act → World → Prop, (∀ v w', Gm w0.heap.size w w' → (F i).p v w' → K (a.put o.dst v) w') → o.wp P a w K Q

/-- How many have not come up. -/
def left (listed : Array Bool) : Nat → Nat
  | 0 => 0
  | n + 1 => left listed n + if listed.getD n true = false then 1 else 0
theorem left_zero {listed : Array Bool} : ∀ {n : Nat}, left listed n = 0 → ∀ i, i < n → listed.getD i true = true
  | 0, _, i, hi => by omega
  | n + 1, h, i, hi => by
    unfold left at h
    rcases Nat.lt_or_ge i n with h1 | h1
    · exact left_zero (by omega) i h1
    · obtain rfl : i = n := by omega
      cases hc : listed.getD i true
      · rw [hc] at h; simp at h
      · rfl
theorem getD_same {listed : Array Bool} {i : Nat} (h : i < listed.size) (d : Bool) : (listed.setIfInBounds i true).getD i d = true := by
  simp [Array.getD_eq_getD_getElem?, h]
theorem getD_off {listed : Array Bool} {i j : Nat} (h : i ≠ j) (d : Bool) : (listed.setIfInBounds i true).getD j d = listed.getD j d := by
  simp [Array.getD_eq_getD_getElem?, h]
theorem left_le {listed : Array Bool} {i : Nat} (hi : i < listed.size) : ∀ n, left (listed.setIfInBounds i true) n ≤ left listed n
  | 0 => Nat.le_refl _
  | n + 1 => by
    unfold left
    have h := left_le hi n
    by_cases e : i = n
    · subst e
      rw [getD_same hi]
      simp
      omega
    · rw [getD_off e]
      omega
theorem left_set {listed : Array Bool} {i : Nat} (hs : i < listed.size) (h : listed.getD i true = false) : ∀ n, i < n → left (listed.setIfInBounds i true) n + 1 ≤ left listed n
  | 0, hi => by omega
  | n + 1, hi => by
    unfold left
    by_cases e : i = n
    · subst e
      rw [getD_same hs, h]
      have := left_le hs i
      simp
      omega
    · rw [getD_off e]
      have := left_set hs h n (by omega)
      omega
theorem dflt {listed : Array Bool} {i : Nat} (h : i < listed.size) : listed.getD i true = listed.getD i false := by
  simp [Array.getD_eq_getD_getElem?, h]

theorem put_at {a : Act} {d : Nat} {v : Value} (h : d < a.tmps.size) : (a.put (some d) v).tmps.getD d undef = v := by
  simp [Act.put, Array.getD_eq_getD_getElem?, h]
theorem put_off {a : Act} {dst : Option Tmp} {d : Nat} {v : Value} (h : dst ≠ some d) : (a.put dst v).tmps.getD d undef = a.tmps.getD d undef := by
  cases dst with
  | none => rfl
  | some e =>
    have : e ≠ d := fun x => h (by rw [x])
    simp [Act.put, Array.getD_eq_getD_getElem?, this]
theorem put_size (a : Act) (dst : Option Tmp) (v : Value) : (a.put dst v).tmps.size = a.tmps.size := by
  cases dst <;> simp [Act.put]
theorem put_defers (a : Act) (dst : Option Tmp) (v : Value) : (a.put dst v).defers = a.defers := by
  cases dst <;> rfl

/-- What the look at the text gives. -/
structure Text (md : Region.Mode) (ops : Array Oper) (n k : Nat) : Prop where
  g : ∀ (i : Nat) o, ops[i]? = some o → o.guard = none
  d : ∀ (i : Nat) o d, ops[i]? = some o → o.dst = some d → d < n
  a : ∀ (i : Nat) o, ops[i]? = some o → ∀ e ∈ o.after, Region.binds md e = true → e.on < i
  x : ∀ (i j : Nat) o o' d, ops[i]? = some o → ops[j]? = some o' → i ≠ j → o.dst = some d → o'.dst ≠ some d
  k1 : k ≤ ops.size
  k2 : ops.size ≤ k + 1
  c : k < ops.size → ∀ j, j < k → ∃ (m : Nat) (o : Oper), j < m ∧ m ≤ k ∧ ops[m]? = some o ∧ ∃ e ∈ o.after, Region.binds md e = true ∧ e.on = j
theorem text_of {n k : Nat} (h : textOk md ops n k = true) : Text md ops n k := by
  unfold textOk at h
  simp only [Bool.and_eq_true, decide_eq_true_eq] at h
  obtain ⟨⟨⟨h1, h2⟩, h3⟩, h4⟩ := h
  rw [Array.all_eq_true_iff_forall_mem] at h1
  rw [List.all_eq_true] at h2
  have H : ∀ (i j : Nat) o o' d, j < i → ops[i]? = some o → ops[j]? = some o' → o.dst = some d → o'.dst ≠ some d := by
    intro i j o o' d hij hi hj hd hd'
    have q := h2 i (List.mem_range.2 (Array.getElem?_eq_some_iff.1 hi).1)
    simp only [hi, Bool.and_eq_true] at q
    have r := List.all_eq_true.1 q.2 j (List.mem_range.2 hij)
    simp only [hj, hd, hd'] at r
    simp at r
  refine ⟨?_, ?_, ?_, ?_, h3.1, h3.2, ?_⟩
  · intro i o ho
    have q := h1 o (Array.mem_of_getElem? ho)
    simp only [Bool.and_eq_true] at q
    exact Option.isNone_iff_eq_none.1 q.1
  · intro i o d ho hd
    have q := h1 o (Array.mem_of_getElem? ho)
    simp only [Bool.and_eq_true, hd, decide_eq_true_eq] at q
    exact q.2
  · intro i o ho e he hb
    have q := h2 i (List.mem_range.2 (Array.getElem?_eq_some_iff.1 ho).1)
    simp only [ho, Bool.and_eq_true] at q
    have r := (Array.all_eq_true_iff_forall_mem.1 q.1) e he
    rw [hb] at r
    simpa using r
  · intro i j o o' d hi hj hij hd hd'
    rcases Nat.lt_or_gt_of_ne hij with h | h
    · exact H j i o' o d h hj hi hd' hd
    · exact H i j o o' d h hi hj hd hd'
  · intro hk j hj
    have h4' : ((List.range k).all fun j => (List.range (k + 1)).any fun m => decide (j < m) && match ops[m]? with
        | some o => o.after.any (fun e => Region.binds md e && e.on == j)
        | none => false) = true := by
      rcases Bool.or_eq_true _ _ ▸ h4 with q | q
      · simp at q; omega
      · exact q
    have q := List.all_eq_true.1 h4' j (List.mem_range.2 hj)
    obtain ⟨m, hm, r⟩ := List.any_eq_true.1 q
    simp only [Bool.and_eq_true, decide_eq_true_eq] at r
    cases ho : ops[m]? with
    | none => rw [ho] at r; simp at r
    | some o =>
      rw [ho] at r
      obtain ⟨e, he, hb⟩ := Array.any_eq_true'.1 r.2
      simp only [Bool.and_eq_true, beq_iff_eq] at hb
      exact ⟨m, o, r.1, by have := List.mem_range.1 hm; omega, ho, e, he, hb.1, hb.2⟩

theorem all_listed {n k : Nat} (T : Text md ops n k) {listed : Array Bool} (hs : listed.size = ops.size) (h : Region.ready md ops listed = []) : ∀ m i, i < m → i < ops.size → listed.getD i false = true
  | 0, i, hi, _ => by omega
  | m + 1, i, hi, hl => by
    rcases Nat.lt_or_ge i m with h1 | h1
    · exact all_listed T hs h m i h1 hl
    · obtain rfl : i = m := by omega
      cases hc : listed.getD i false
      · exfalso
        obtain ⟨o, ho⟩ : ∃ o, ops[i]? = some o := ⟨ops[i], by simp [hl]⟩
        have hr : i ∈ Region.ready md ops listed := mem_ready.2 ⟨by rw [dflt (by omega)]; exact hc, o, ho, fun e he hb => all_listed T hs h i e.on (T.a i o ho e he hb) (by have := T.a i o ho e he hb; omega)⟩
        rw [h] at hr
        simp at hr
      · rfl
/-- Behind the one that is looked at last stand all others. -/
theorem all_ahead {n k : Nat} (T : Text md ops n k) (hk : k < ops.size) {listed : Array Bool} {a : Act} {w : World} (H : Held md ops F a0 w0 listed a w)
    (hr : k ∈ Region.ready md ops listed) : ∀ m j, k - j ≤ m → j < k → listed.getD j false = true
  | 0, j, hm, hj => by omega
  | m + 1, j, hm, hj => by
    obtain ⟨p, o, hjp, hpk, ho, e, he, hb, rfl⟩ := T.c hk j hj
    rcases Nat.lt_or_ge p k with h1 | h1
    · exact H.c p o ho (all_ahead T hk H hr m p (by omega) h1) e he hb
    · obtain rfl : p = k := by omega
      obtain ⟨_, o', ho', q⟩ := mem_ready.1 hr
      obtain rfl := Option.some.inj (ho.symm.trans ho')
      exact q e he hb

theorem Held.next {n k : Nat} (T : Text md ops n k) (hn : n ≤ a0.tmps.size) {listed : Array Bool} {a : Act} {w : World} (H : Held md ops F a0 w0 listed a w) {i : Nat} {o : Oper} (ho : ops[i]? = some o) (hr : i ∈ Region.ready md ops listed)
    {v : Value} {w' : World} (hw : Gm w0.heap.size w w') (hf : (F i).p v w') : Held md ops F a0 w0 (listed.setIfInBounds i true) (a.put o.dst v) w' := by
  have hi : i < ops.size := (Array.getElem?_eq_some_iff.1 ho).1
  have hz : a.tmps.size = a0.tmps.size := H.b.2.1
  refine ⟨⟨by rw [put_defers]; exact H.b.1, by rw [put_size]; exact hz, fun d hd => ?_⟩, Gm.trans H.n hw, ?_, ?_, by simp [H.s]⟩
  · rw [put_off]
    · exact H.b.2.2 d hd
    · have q := Array.all_eq_true_iff_forall_mem.1 hd o (Array.mem_of_getElem? ho)
      simpa using q
  · intro j oj d hoj hj hd
    by_cases e : i = j
    · subst e
      obtain rfl := Option.some.inj (ho.symm.trans hoj)
      rw [hd, put_at (Nat.lt_of_lt_of_le (T.d i o d ho hd) (hz ▸ hn))]
      exact hf
    · rw [getD_off e] at hj
      rw [put_off (T.x j i oj o d hoj ho (Ne.symm e) hd)]
      exact (F j).up hw (H.f j oj d hoj hj hd)
  · intro j oj hoj hj e he hb
    obtain ⟨_, o', ho', q⟩ := mem_ready.1 hr
    by_cases c : i = e.on
    · rw [← c]
      exact getD_same (by rw [H.s]; exact hi) _
    · rw [getD_off c]
      by_cases e' : i = j
      · subst e'
        obtain rfl := Option.some.inj (ho'.symm.trans hoj)
        exact q e he hb
      · rw [getD_off e'] at hj
        exact H.c j oj hoj hj e he hb

theorem any_facts {n k : Nat} (T : Text md ops n k) (hn : n ≤ a0.tmps.size) (steps : ∀ i, i < k → StepOk P md ops Q F a0 w0 i)
    (fin : ∀ a w, Based ops a0 a → Gm w0.heap.size w0 w → (∀ i o d, i < k → ops[i]? = some o → o.dst = some d → (F i).p (a.tmps.getD d undef) w) →
      match ops[k]? with
      | none => Q .normal a w
      | some o => o.wp P a w (fun a' w' => Q .normal a' w') Q) :
    ∀ (fuel : Nat) (listed : Array Bool) (a : Act) (w : World), left listed ops.size ≤ fuel → Held md ops F a0 w0 listed a w → listed.getD k false = false → wpAny P md ops Q fuel listed a w := by
  intro fuel
  induction fuel with
  | zero =>
    intro listed a w hl H hk
    have hall : ∀ i, i < ops.size → listed.getD i false = true := fun i hi => by
      rw [← dflt (by rw [H.s]; exact hi)]
      exact left_zero (n := ops.size) (by omega) i hi
    have hke : ops[k]? = none := by
      rcases Nat.lt_or_ge k ops.size with h | h
      · rw [hall k h] at hk; simp at hk
      · simp [h]
    have q := fin a w H.b H.n (fun i o d _ ho hd => H.f i o d ho (hall i (Array.getElem?_eq_some_iff.1 ho).1) hd)
    rw [hke] at q
    refine ⟨?_, q⟩
    cases hr : Region.ready md ops listed with
    | nil => rfl
    | cons i t =>
      have hi : i ∈ Region.ready md ops listed := by rw [hr]; simp
      obtain ⟨h0, o, ho, _⟩ := mem_ready.1 hi
      have hlt := (Array.getElem?_eq_some_iff.1 ho).1
      rw [dflt (by rw [H.s]; exact hlt), hall i hlt] at h0
      simp at h0
  | succ fuel ih =>
    intro listed a w hl H hk
    refine ⟨fun hr => ?_, fun i hi => ?_⟩
    · have hall : ∀ i, i < ops.size → listed.getD i false = true := fun i hi => all_listed T H.s hr (i + 1) i (by omega) hi
      have hke : ops[k]? = none := by
        rcases Nat.lt_or_ge k ops.size with h | h
        · rw [hall k h] at hk; simp at hk
        · simp [h]
      have q := fin a w H.b H.n (fun i o d _ ho hd => H.f i o d ho (hall i (Array.getElem?_eq_some_iff.1 ho).1) hd)
      rw [hke] at q
      exact q
    · obtain ⟨h0, o, ho, hall⟩ := mem_ready.1 hi
      have hlt := (Array.getElem?_eq_some_iff.1 ho).1
      have hwant : Region.wanted o (yielded ops a.tmps) = true := by simp [Region.wanted, T.g i o ho]
      refine wpOp_step ho fun K' hK => ?_
      rw [if_pos hwant]
      have hll := left_set (by rw [H.s]; exact hlt) h0 ops.size hlt
      rcases Nat.lt_or_ge i k with h1 | h1
      · refine steps i h1 o ho a w H.b H.n ?_ K' ?_
        · intro j d hjd
          unfold waits at hjd
          rw [ho] at hjd
          cases hoj : ops[j]? with
          | none => rw [hoj] at hjd; simp at hjd
          | some oj =>
            rw [hoj] at hjd
            simp only [Bool.and_eq_true, beq_iff_eq] at hjd
            obtain ⟨e, he, hb⟩ := Array.any_eq_true'.1 hjd.1
            simp only [Bool.and_eq_true, beq_iff_eq] at hb
            exact H.f j oj d hoj (by rw [← hb.2]; exact hall e he hb.1) hjd.2
        · intro v w' hw hf
          refine hK _ _ (ih _ _ _ (by omega) (H.next T hn ho hi hw hf) ?_)
          rw [getD_off (by omega)]
          exact hk
      · obtain rfl : i = k := by have := T.k2; omega
        have hahead := all_ahead T hlt H hi
        have q := fin a w H.b H.n (fun j oj d hj hoj hd => H.f j oj d hoj (hahead (i - j) j (Nat.le_refl _) hj) hd)
        rw [ho] at q
        refine Oper.wp_mono (fun a' w' h => hK _ _ (wpAny_done ?_ h fuel)) q
        cases hr : Region.ready md ops (listed.setIfInBounds i true) with
        | nil => rfl
        | cons j t =>
          exfalso
          have hj : j ∈ Region.ready md ops (listed.setIfInBounds i true) := by rw [hr]; simp
          obtain ⟨g0, oj, hoj, _⟩ := mem_ready.1 hj
          have hjl := (Array.getElem?_eq_some_iff.1 hoj).1
          by_cases e : i = j
          · subst e
            rw [getD_same (by rw [H.s]; exact hlt)] at g0
            simp at g0
          · rw [getD_off e, dflt (by rw [H.s]; exact hjl), hahead (i - j) j (Nat.le_refl _) (by have := T.k2; omega)] at g0
            simp at g0

/-- The same for a region that goes in its text's order. -/
theorem line_facts {n k : Nat} (T : Text md ops n k) (hn : n ≤ a0.tmps.size) (steps : ∀ i, i < k → StepOk P md ops Q F a0 w0 i)
    (fin : ∀ a w, Based ops a0 a → Gm w0.heap.size w0 w → (∀ i o d, i < k → ops[i]? = some o → o.dst = some d → (F i).p (a.tmps.getD d undef) w) →
      match ops[k]? with
      | none => Q .normal a w
      | some o => o.wp P a w (fun a' w' => Q .normal a' w') Q) :
    ∀ (m i : Nat) (a : Act) (w : World), i + m = ops.size → i ≤ k → Based ops a0 a → Gm w0.heap.size w0 w → (∀ j o d, j < i → ops[j]? = some o → o.dst = some d → (F j).p (a.tmps.getD d undef) w) →
      wpOps P ops Q (List.range' i m) a w := by
  intro m
  induction m with
  | zero =>
    intro i a w him hik hb hw hf
    obtain rfl : i = k := by have := T.k1; omega
    have q := fin a w hb hw hf
    rw [show ops[i]? = none by simp; omega] at q
    exact q
  | succ m ih =>
    intro i a w him hik hb hw hf
    have hlt : i < ops.size := by omega
    obtain ⟨o, ho⟩ : ∃ o, ops[i]? = some o := ⟨ops[i], by simp [hlt]⟩
    have hwant : Region.wanted o (yielded ops a.tmps) = true := by simp [Region.wanted, T.g i o ho]
    rw [List.range'_succ, wpOps_cons]
    refine wpOp_step ho fun K' hK => ?_
    rw [if_pos hwant]
    rcases Nat.lt_or_ge i k with h1 | h1
    · refine steps i h1 o ho a w hb hw ?_ K' ?_
      · intro j d hjd
        unfold waits at hjd
        rw [ho] at hjd
        cases hoj : ops[j]? with
        | none => rw [hoj] at hjd; simp at hjd
        | some oj =>
          rw [hoj] at hjd
          simp only [Bool.and_eq_true, beq_iff_eq] at hjd
          obtain ⟨e, he, hb⟩ := Array.any_eq_true'.1 hjd.1
          simp only [Bool.and_eq_true, beq_iff_eq] at hb
          exact hf j oj d (by rw [← hb.2]; exact T.a i o ho e he hb.1) hoj hjd.2
      · intro v w' hw' hfv
        refine hK _ _ (ih (i + 1) _ _ (by omega) (by omega) ⟨by rw [put_defers]; exact hb.1, by rw [put_size]; exact hb.2.1, fun d hd => ?_⟩ (Gm.trans hw hw') ?_)
        · rw [put_off]
          · exact hb.2.2 d hd
          · have q := Array.all_eq_true_iff_forall_mem.1 hd o (Array.mem_of_getElem? ho)
            simpa using q
        · intro j oj d hj hoj hd
          by_cases e : i = j
          · subst e
            obtain rfl := Option.some.inj (ho.symm.trans hoj)
            rw [hd, put_at (Nat.lt_of_lt_of_le (T.d i o d ho hd) (by rw [hb.2.1]; exact hn))]
            exact hfv
          · rw [put_off (T.x j i oj o d hoj ho (Ne.symm e) hd)]
            exact (F j).up hw' (hf j oj d (by omega) hoj hd)
    · obtain rfl : i = k := by omega
      have q := fin a w hb hw hf
      rw [ho] at q
      refine Oper.wp_mono (fun a' w' h => hK _ _ ?_) q
      obtain rfl : m = 0 := by have := T.k2; omega
      exact h
/-- The law, whatever the region's kind. -/
theorem region_facts {id : Nat} {w : World} {draw : Bool} (k : Nat) (F : Nat → Fact) (hm : P.follows .mixedOrders = true) (hT : textOk .any ops a0.tmps.size k = true) (steps : ∀ i, i < k → StepOk P .any ops Q F a0 w i)
    (fin : ∀ a w', Based ops a0 a → Gm w.heap.size w w' → (∀ i o d, i < k → ops[i]? = some o → o.dst = some d → (F i).p (a.tmps.getD d undef) w') →
      match ops[k]? with
      | none => Q .normal a w'
      | some o => o.wp P a w' (fun a' w'' => Q .normal a' w'') Q) : (Code.region id ops draw).wp P Q a0 w := by
  have T := text_of hT
  cases draw with
  | false =>
    refine wp_region ?_
    have h := line_facts (w0 := w) T (Nat.le_refl _) steps fin ops.size 0 a0 w (by omega) (by omega) ⟨rfl, rfl, fun _ _ => rfl⟩ (Gm.refl _ _) (fun j o d hj => by omega)
    rw [List.range_eq_range']
    exact h
  | true =>
    refine wp_region_any hm ?_
    refine any_facts (w0 := w) T (Nat.le_refl _) steps fin ops.size _ a0 _ ?_ ⟨⟨rfl, rfl, fun _ _ => rfl⟩, (Gm.refl _ _).drew, ?_, ?_, by simp⟩ ?_
    · have : ∀ m, left (Array.replicate ops.size false) m ≤ m := by
        intro m
        induction m with
        | zero => exact Nat.le_refl _
        | succ m ih => unfold left; split <;> omega
      exact this _
    · intro i o d ho hl _
      rw [Array.getD_eq_getD_getElem?, Array.getElem?_replicate] at hl
      split at hl <;> simp at hl
    · intro i o ho hl
      rw [Array.getD_eq_getD_getElem?, Array.getElem?_replicate] at hl
      split at hl <;> simp at hl
    · rw [Array.getD_eq_getD_getElem?, Array.getElem?_replicate]
      split <;> rfl
/-- Number i writes slot d. -/
def writes (ops : Array Oper) (i d : Nat) : Bool :=
  match ops[i]? with
  | some o => o.dst == some d
  | none => false
/-- What all of them have left. -/
def Full (ops : Array Oper) (F : Nat → Fact) (a : Act) (w : World) : Prop := ∀ i d, writes ops i d = true → (F i).p (a.tmps.getD d undef) w
/-- A region that ends with a store. -/
theorem region_store {id : Nat} {w : World} {draw : Bool} (k : Nat) (o : Oper) (F : Nat → Fact) (hm : P.follows .mixedOrders = true) (hT : textOk .any ops a0.tmps.size k = true) (hk : ops[k]? = some o) (hd : o.dst = none) (steps : ∀ i, i < k → StepOk P .any ops Q F a0 w i)
    (fin : ∀ a w', Based ops a0 a → Gm w.heap.size w w' → Full ops F a w' → o.wp P a w' (fun a' w'' => Q .normal a' w'') Q) : (Code.region id ops draw).wp P Q a0 w := by
  refine region_facts k F hm hT steps fun a w' hb hw hf => ?_
  rw [hk]
  refine fin a w' hb hw fun i d hi => ?_
  unfold writes at hi
  cases ho : ops[i]? with
  | none => rw [ho] at hi; simp at hi
  | some oi =>
    rw [ho] at hi
    have hi' : oi.dst = some d := by simpa using hi
    have T := text_of hT
    refine hf i oi d ?_ ho hi'
    have h1 := (Array.getElem?_eq_some_iff.1 ho).1
    have h2 := T.k2
    rcases Nat.lt_or_ge i k with h | h
    · exact h
    · obtain rfl : i = k := by omega
      obtain rfl := Option.some.inj (hk.symm.trans ho)
      rw [hd] at hi'
      simp at hi'
/-- A region without one. -/
theorem region_end {id : Nat} {w : World} {draw : Bool} (k : Nat) (F : Nat → Fact) (hm : P.follows .mixedOrders = true) (hT : textOk .any ops a0.tmps.size k = true) (hk : ops[k]? = none) (steps : ∀ i, i < k → StepOk P .any ops Q F a0 w i)
    (fin : ∀ a w', Based ops a0 a → Gm w.heap.size w w' → Full ops F a w' → Q .normal a w') : (Code.region id ops draw).wp P Q a0 w := by
  refine region_facts k F hm hT steps fun a w' hb hw hf => ?_
  rw [hk]
  refine fin a w' hb hw fun i d hi => ?_
  unfold writes at hi
  cases ho : ops[i]? with
  | none => rw [ho] at hi; simp at hi
  | some oi =>
    rw [ho] at hi
    have h1 := (Array.getElem?_eq_some_iff.1 ho).1
    have h2 : ops.size ≤ k := by simpa using hk
    exact hf i oi d (by omega) ho (by simpa using hi)

/-- The frame behind the region, written out. -/
def puts (vs : Nat → Value) (a0 : Act) : List Oper → Act
  | [] => a0
  | o :: rest => match o.dst with
    | some d => puts vs (a0.put (some d) (vs d)) rest
    | none => puts vs a0 rest
theorem puts_size (vs : Nat → Value) : ∀ (l : List Oper) (a : Act), (puts vs a l).tmps.size = a.tmps.size ∧ (puts vs a l).defers = a.defers
  | [], _ => ⟨rfl, rfl⟩
  | o :: rest, a => by
    unfold puts
    cases o.dst with
    | none => exact puts_size vs rest a
    | some d =>
      have := puts_size vs rest (a.put (some d) (vs d))
      exact ⟨this.1.trans (put_size _ _ _), this.2.trans (put_defers _ _ _)⟩
theorem puts_get (vs : Nat → Value) (d : Nat) : ∀ (l : List Oper) (a : Act), (∀ o ∈ l, ∀ e, o.dst = some e → e < a.tmps.size) → (puts vs a l).tmps.getD d undef = if l.any (fun o => o.dst == some d) then vs d else a.tmps.getD d undef
  | [], _, _ => by simp [puts]
  | o :: rest, a, h => by
    unfold puts
    cases ho : o.dst with
    | none =>
      rw [puts_get vs d rest a (fun o' h' => h o' (List.mem_cons_of_mem _ h'))]
      simp [ho]
    | some e =>
      have he := h o (List.mem_cons_self) e ho
      simp only
      rw [puts_get vs d rest _ (fun o' h' => by rw [put_size]; exact h o' (List.mem_cons_of_mem _ h'))]
      by_cases c : e = d
      · subst c
        rw [put_at he]
        simp [ho]
      · rw [put_off (by simpa using c)]
        simp [ho, c]
theorem puts_of {n k : Nat} (hT : textOk md ops n k = true) (hn : n = a0.tmps.size) {a : Act} (hb : Based ops a0 a) (vs : Nat → Value) (hv : ∀ d, a.tmps.getD d undef = vs d) : a = puts vs a0 ops.toList := by
  have T := text_of hT
  have hin : ∀ o ∈ ops.toList, ∀ e, o.dst = some e → e < a0.tmps.size := fun o ho e he => by
    obtain ⟨i, hi⟩ := List.getElem?_of_mem ho
    have := T.d i o e (by simpa using hi) he
    rw [hn] at this
    exact this
  obtain ⟨s1, s2⟩ := puts_size vs ops.toList a0
  obtain ⟨ta, da⟩ := a
  obtain ⟨h1, h2, h3⟩ := hb
  have e1 : ta = (puts vs a0 ops.toList).tmps := by
    apply Array.ext
    · rw [s1]; exact h2
    · intro i hi hi'
      have g := puts_get vs i ops.toList a0 hin
      have l : ta[i] = ta.getD i undef := by simp [Array.getD_eq_getD_getElem?, hi]
      have r : (puts vs a0 ops.toList).tmps[i] = (puts vs a0 ops.toList).tmps.getD i undef := by simp only [Array.getD_eq_getD_getElem?, Array.getElem?_eq_getElem hi', Option.getD_some]
      rw [l, r, g]
      by_cases c : ops.toList.any (fun o => o.dst == some i) = true
      · rw [if_pos c]; exact hv i
      · rw [if_neg c]
        refine h3 i ?_
        unfold apart
        rw [Array.all_eq_true_iff_forall_mem]
        intro o ho
        have hne : ¬ (o.dst == some i) = true := fun x => c (List.any_eq_true.2 ⟨o, by simpa using ho, x⟩)
        simpa using hne
  have e2 : da = (puts vs a0 ops.toList).defers := h1.trans s2.symm
  subst e1
  subst e2
  rfl
end
def Fact.eq (v0 : Value) : Fact := ⟨fun v _ => v = v0, fun _ h => h⟩
def Fact.no : Fact := ⟨fun _ _ => True, fun _ h => h⟩

section
variable {P : Program} {ops : Array Oper} {Q : Exit → Act → World → Prop} {md : Region.Mode} {F : Nat → Fact} {a0 : Act} {w0 : World}
def Facts (md : Region.Mode) (ops : Array Oper) (F : Nat → Fact) (i : Nat) (a : Act) (w : World) : Prop := ∀ j d, waits md ops i j d = true → (F j).p (a.tmps.getD d undef) w
theorem step_pure {i : Nat} {o : Oper} (hi : ops[i]? = some o)
    (G : ∀ a w, Based ops a0 a → Gm w0.heap.size w0 w → Facts md ops F i a w → ∃ v, (execOp a.eval o).run P w = .ok (.value v) w ∧ (F i).p v w) : StepOk P md ops Q F a0 w0 i := by
  intro o' ho' a w hb hw hf K hK
  obtain rfl := Option.some.inj (hi.symm.trans ho')
  obtain ⟨v, hr, hv⟩ := G a w hb hw hf
  unfold Oper.wp
  rw [hr]
  exact hK v w (Gm.refl _ _) hv
/-- Something is made. -/
theorem step_grow {i : Nat} {o : Oper} (hi : ops[i]? = some o)
    (G : ∀ a w, Based ops a0 a → Gm w0.heap.size w0 w → Facts md ops F i a w → ∃ v w', (execOp a.eval o).run P w = .ok (.value v) w' ∧ Gm w0.heap.size w w' ∧ (F i).p v w') : StepOk P md ops Q F a0 w0 i := by
  intro o' ho' a w hb hw hf K hK
  obtain rfl := Option.some.inj (hi.symm.trans ho')
  obtain ⟨v, w', hr, hn, hv⟩ := G a w hb hw hf
  unfold Oper.wp
  rw [hr]
  exact hK v w' hn hv
theorem step_load {i : Nat} {o : Oper} (hi : ops[i]? = some o) (ty : TypeId) (x : Operand) (hop : o.op = .load ty x) (d : TypeDesc) (n : Nat) (hu : P.underlying ty = some d) (hd : d.isRow = true) (hs : (P.info? ty).map (·.size) = some n)
    (G : ∀ a w, Based ops a0 a → Gm w0.heap.size w0 w → Facts md ops F i a w → ∃ b off cs, a.eval x = .pointer (some ⟨b, off, none⟩) ∧ w.rangeAt b off cs ∧ cs.length = n ∧ (F i).p (.agg cs.toArray) w) : StepOk P md ops Q F a0 w0 i := by
  intro o' ho' a w hb hw hf K hK
  obtain rfl := Option.some.inj (hi.symm.trans ho')
  obtain ⟨b, off, cs, hx, hc, hl, hv⟩ := G a w hb hw hf
  exact wp_load_mid ty x hop b off hx cs d hc hu hd (by rw [hl]; exact hs) (hK _ _ (Gm.refl _ _) hv)
/-- A function of the program with a body. -/
def enters (P : Program) (n : FuncId) : Bool :=
  match P.funcs[n]? with
  | some fn => !(fn.name == "runtime.NumGoroutine") && fn.body.isSome
  | none => false
theorem run_enter {n : FuncId} (h : enters P n = true) (args : Array Value) (w : World) : (callFunc n args).run P w = .ok (.enter n args) w := by
  unfold enters at h
  cases hq : P.funcs[n]? with
  | none => rw [hq] at h; simp at h
  | some fn =>
    rw [hq] at h
    simp only [Bool.and_eq_true, Bool.not_eq_true'] at h
    have h2 : fn.body ≠ none := fun e => by rw [e] at h; simp at h
    have h1 : ¬ fn.name = "runtime.NumGoroutine" := by simpa using h.1
    simp [callFunc, hq, h1, h2]
theorem based_at {a : Act} (hb : Based ops a0 a) (p : Nat) (hp : apart ops p = true) : a.eval (.tmp p) = a0.tmps.getD p undef := hb.2.2 p hp
end
theorem gdv {a : Act} {p : Nat} {v : Value} (h : a.tmps.getD p undef = v) : a.tmps[p]?.getD undef = v := by rw [← h]; simp

section
variable {P : Program} {ops : Array Oper} {Q : Exit → Act → World → Prop} {md : Region.Mode} {F : Nat → Fact} {a0 : Act} {w0 : World}
theorem step_callv {i : Nat} {o : Oper} (hi : ops[i]? = some o) (n : FuncId) (args : Array Operand) (ts : Array TypeId) (hop : o.op = .call { callee := .value (.func n), args := args, argTypes := ts }) (he : enters P n = true)
    (G : ∀ a w, Based ops a0 a → Gm w0.heap.size w0 w → Facts md ops F i a w → Calls P n (args.toList.map a.eval).toArray w fun e w' => ∃ v, e = .returned v ∧ Gm w0.heap.size w w' ∧ (F i).p v w') : StepOk P md ops Q F a0 w0 i := by
  intro o' ho' a w hb hw hf K hK
  obtain rfl := Option.some.inj (hi.symm.trans ho')
  have hr : (execOp a.eval o).run P w = .ok (.enter n (args.map a.eval)) w := by
    have h0 : (Deferred.ofValue (Value.func (Fn.func n) #[] #[]) (args.map a.eval)).run P w = .ok { target := .fn (.func n) #[], args := args.map a.eval } w := by simp [Deferred.ofValue]
    simp [execOp, hop, resolve, invoke, Act.eval, h0, run_enter he]
  have e : args.map a.eval = (args.toList.map a.eval).toArray := by cases args; simp
  unfold Oper.wp
  rw [hr, e, Oper.upon_enter]
  refine (G a w hb hw hf).mono ?_
  rintro e w' ⟨v, rfl, hn, hv⟩
  exact hK v w' hn hv
end
end Go.Proofs.Ytcljoaknaegpmaa.Mk

/-
  Regions by facts that end with a row of operations, over Gm (written by gens/rem.py).
-/
namespace Go.Proofs.Ytcljoaknaegpmaa.Mk
open Go Go.RowKit

section
variable {P : Program} {ops : Array Oper} {Q : Exit → Act → World → Prop} {md : Region.Mode} {F : Nat → Fact} {a0 : Act} {w0 : World}
theorem writes_is {i d : Nat} (h : writes ops i d = true) : ∃ o, ops[i]? = some o ∧ o.dst = some d := by
  unfold writes at h
  cases ho : ops[i]? with
  | none => rw [ho] at h; simp at h
  | some o =>
    rw [ho] at h
    exact ⟨o, rfl, by simpa using h⟩

/-- The tail, one behind the other. -/
def tailWp (P : Program) (Q : Exit → Act → World → Prop) : List Oper → Act → World → Prop
  | [], a, w => Q .normal a w
  | o :: os, a, w => o.wp P a w (fun a' w' => tailWp P Q os a' w') Q
/-- What this law asks of the region's text: number k waits for all ahead of it, each behind k for the one ahead of it. -/
def textTail (md : Region.Mode) (draw : Bool) (ops : Array Oper) (n k : Nat) : Bool :=
  (ops.all fun o => o.guard.isNone && (match o.dst with | some d => decide (d < n) | none => true))
  && ((List.range ops.size).all fun i => match ops[i]? with
    | some o => o.after.all (fun e => !Region.binds md e || decide (e.on < i)) && (List.range i).all fun j => match ops[j]? with
      | some x => x.dst.isNone || o.dst != x.dst
      | none => true
    | none => true)
  && decide (k ≤ ops.size)
  && (!draw || k == ops.size || (List.range k).all fun j => (List.range (k + 1)).any fun m => decide (j < m) && match ops[m]? with
    | some o => o.after.any (fun e => Region.binds md e && e.on == j)
    | none => false)
  && (!draw || (List.range ops.size).all fun i => decide (i ≤ k) || match ops[i]? with
    | some o => o.after.any (fun e => Region.binds md e && e.on + 1 == i)
    | none => false)
structure TextT (md : Region.Mode) (draw : Bool) (ops : Array Oper) (n k : Nat) : Prop where
  g : ∀ (i : Nat) o, ops[i]? = some o → o.guard = none
  d : ∀ (i : Nat) o d, ops[i]? = some o → o.dst = some d → d < n
  a : ∀ (i : Nat) o, ops[i]? = some o → ∀ e ∈ o.after, Region.binds md e = true → e.on < i
  x : ∀ (i j : Nat) o o' d, ops[i]? = some o → ops[j]? = some o' → i ≠ j → o.dst = some d → o'.dst ≠ some d
  k1 : k ≤ ops.size
  c : draw = true → k < ops.size → ∀ j, j < k → ∃ (m : Nat) (o : Oper), j < m ∧ m ≤ k ∧ ops[m]? = some o ∧ ∃ e ∈ o.after, Region.binds md e = true ∧ e.on = j
  l : draw = true → ∀ i o, k < i → ops[i]? = some o → ∃ e ∈ o.after, Region.binds md e = true ∧ e.on + 1 = i
theorem textT_of {n k : Nat} {draw : Bool} (h : textTail md draw ops n k = true) : TextT md draw ops n k := by
  unfold textTail at h
  simp only [Bool.and_eq_true, decide_eq_true_eq] at h
  obtain ⟨⟨⟨⟨h1, h2⟩, h3⟩, h4⟩, h5⟩ := h
  rw [Array.all_eq_true_iff_forall_mem] at h1
  rw [List.all_eq_true] at h2
  have H : ∀ (i j : Nat) o o' d, j < i → ops[i]? = some o → ops[j]? = some o' → o.dst = some d → o'.dst ≠ some d := by
    intro i j o o' d hij hi hj hd hd'
    have q := h2 i (List.mem_range.2 (Array.getElem?_eq_some_iff.1 hi).1)
    simp only [hi, Bool.and_eq_true] at q
    have r := List.all_eq_true.1 q.2 j (List.mem_range.2 hij)
    simp only [hj, hd, hd'] at r
    simp at r
  refine ⟨?_, ?_, ?_, ?_, h3, ?_, ?_⟩
  · intro i o ho
    have q := h1 o (Array.mem_of_getElem? ho)
    simp only [Bool.and_eq_true] at q
    exact Option.isNone_iff_eq_none.1 q.1
  · intro i o d ho hd
    have q := h1 o (Array.mem_of_getElem? ho)
    simp only [Bool.and_eq_true, hd, decide_eq_true_eq] at q
    exact q.2
  · intro i o ho e he hb
    have q := h2 i (List.mem_range.2 (Array.getElem?_eq_some_iff.1 ho).1)
    simp only [ho, Bool.and_eq_true] at q
    have r := (Array.all_eq_true_iff_forall_mem.1 q.1) e he
    rw [hb] at r
    simpa using r
  · intro i j o o' d hi hj hij hd hd'
    rcases Nat.lt_or_gt_of_ne hij with h | h
    · exact H j i o' o d h hj hi hd' hd
    · exact H i j o o' d h hi hj hd hd'
  · intro hdr hk j hj
    rw [hdr] at h4
    have h4' : ((List.range k).all fun j => (List.range (k + 1)).any fun m => decide (j < m) && match ops[m]? with
      | some o => o.after.any (fun e => Region.binds md e && e.on == j)
      | none => false) = true := by
      simp only [Bool.not_true, Bool.false_or, Bool.or_eq_true] at h4
      rcases h4 with e | e
      · have : k = ops.size := by simpa using e
        omega
      · exact e
    have q := List.all_eq_true.1 h4' j (List.mem_range.2 hj)
    obtain ⟨m, hm, r⟩ := List.any_eq_true.1 q
    simp only [Bool.and_eq_true, decide_eq_true_eq] at r
    cases ho : ops[m]? with
    | none => rw [ho] at r; simp at r
    | some o =>
      rw [ho] at r
      obtain ⟨e, he, hb⟩ := Array.any_eq_true'.1 r.2
      simp only [Bool.and_eq_true, beq_iff_eq] at hb
      exact ⟨m, o, r.1, by have := List.mem_range.1 hm; omega, ho, e, he, hb.1, hb.2⟩
  · intro hdr i o hki ho
    rw [hdr] at h5
    simp only [Bool.not_true, Bool.false_or] at h5
    rw [List.all_eq_true] at h5
    have q := h5 i (List.mem_range.2 (Array.getElem?_eq_some_iff.1 ho).1)
    rw [ho] at q
    simp only [Bool.or_eq_true] at q
    rcases q with e | e
    · have : i ≤ k := by simpa using e
      omega
    · obtain ⟨e, he, hb⟩ := Array.any_eq_true'.1 e
      simp only [Bool.and_eq_true, beq_iff_eq] at hb
      exact ⟨e, he, hb.1, hb.2⟩
theorem Held.nextT {n k : Nat} {draw : Bool} (T : TextT md draw ops n k) (hn : n ≤ a0.tmps.size) {listed : Array Bool} {a : Act} {w : World} (H : Held md ops F a0 w0 listed a w) {i : Nat} {o : Oper} (ho : ops[i]? = some o) (hr : i ∈ Region.ready md ops listed)
    {v : Value} {w' : World} (hw : Gm w0.heap.size w w') (hf : (F i).p v w') : Held md ops F a0 w0 (listed.setIfInBounds i true) (a.put o.dst v) w' := by
  have hi : i < ops.size := (Array.getElem?_eq_some_iff.1 ho).1
  have hz : a.tmps.size = a0.tmps.size := H.b.2.1
  refine ⟨⟨by rw [put_defers]; exact H.b.1, by rw [put_size]; exact hz, fun d hd => ?_⟩, Gm.trans H.n hw, ?_, ?_, by simp [H.s]⟩
  · rw [put_off]
    · exact H.b.2.2 d hd
    · have q := Array.all_eq_true_iff_forall_mem.1 hd o (Array.mem_of_getElem? ho)
      simpa using q
  · intro j oj d hoj hj hd
    by_cases e : i = j
    · subst e
      obtain rfl := Option.some.inj (ho.symm.trans hoj)
      rw [hd, put_at (Nat.lt_of_lt_of_le (T.d i o d ho hd) (hz ▸ hn))]
      exact hf
    · rw [getD_off e] at hj
      rw [put_off (T.x j i oj o d hoj ho (Ne.symm e) hd)]
      exact (F j).up hw (H.f j oj d hoj hj hd)
  · intro j oj hoj hj e he hb
    obtain ⟨_, o', ho', q⟩ := mem_ready.1 hr
    by_cases c : i = e.on
    · rw [← c]
      exact getD_same (by rw [H.s]; exact hi) _
    · rw [getD_off c]
      by_cases e' : i = j
      · subst e'
        obtain rfl := Option.some.inj (ho'.symm.trans hoj)
        exact q e he hb
      · rw [getD_off e'] at hj
        exact H.c j oj hoj hj e he hb

/-- The tail alone is left. -/
theorem tail_any {n k : Nat} (T : TextT md true ops n k) : ∀ (m t fuel : Nat) (listed : Array Bool) (a : Act) (w : World), t + m = ops.size → k ≤ t → listed.size = ops.size → (∀ j, j < t → listed.getD j false = true) → (∀ j, t ≤ j → listed.getD j false = false) → m ≤ fuel →
    tailWp P Q (ops.toList.drop t) a w → wpAny P md ops Q fuel listed a w := by
  intro m
  induction m with
  | zero =>
    intro t fuel listed a w ht hk hs h1 h2 hf hq
    obtain rfl : t = ops.size := by omega
    have e : ops.toList.drop ops.size = [] := by simp
    rw [e] at hq
    refine wpAny_done ?_ hq fuel
    cases hr : Region.ready md ops listed with
    | nil => rfl
    | cons i tl =>
      exfalso
      have hi : i ∈ Region.ready md ops listed := by rw [hr]; simp
      obtain ⟨h0, o, ho, _⟩ := mem_ready.1 hi
      have hlt := (Array.getElem?_eq_some_iff.1 ho).1
      rw [dflt (by rw [hs]; exact hlt), h1 i hlt] at h0
      simp at h0
  | succ m ih =>
    intro t fuel listed a w ht hk hs h1 h2 hf hq
    have hlt : t < ops.size := by omega
    obtain ⟨o, ho⟩ : ∃ o, ops[t]? = some o := ⟨ops[t], by simp [hlt]⟩
    have e : ops.toList.drop t = o :: ops.toList.drop (t + 1) := by
      rw [List.drop_eq_getElem_cons (by simpa using hlt)]
      congr 1
      have := (Array.getElem?_eq_some_iff.1 ho).2
      simpa using this
    rw [e] at hq
    obtain ⟨f2, rfl⟩ : ∃ f2, fuel = f2 + 1 := ⟨fuel - 1, by omega⟩
    refine ⟨fun hr => ?_, fun i hi => ?_⟩
    · exfalso
      have hr' : t ∈ Region.ready md ops listed := mem_ready.2 ⟨by rw [dflt (by rw [hs]; exact hlt)]; exact h2 t (Nat.le_refl _), o, ho, fun e he hb => h1 e.on (T.a t o ho e he hb)⟩
      rw [hr] at hr'
      simp at hr'
    · obtain ⟨h0, oi, hoi, hall⟩ := mem_ready.1 hi
      have hil := (Array.getElem?_eq_some_iff.1 hoi).1
      rw [dflt (by rw [hs]; exact hil)] at h0
      have hti : i = t := by
        rcases Nat.lt_trichotomy i t with c | c | c
        · rw [h1 i c] at h0; simp at h0
        · exact c
        · exfalso
          obtain ⟨e, he, hb, hq'⟩ := T.l rfl i oi (by omega) hoi
          have := hall e he hb
          rw [h2 e.on (by omega)] at this
          simp at this
      subst hti
      obtain rfl := Option.some.inj (ho.symm.trans hoi)
      have hwant : Region.wanted o (yielded ops a.tmps) = true := by simp [Region.wanted, T.g i o ho]
      refine wpOp_step ho fun K' hK => ?_
      rw [if_pos hwant]
      refine Oper.wp_mono (fun a' w' h => hK _ _ (ih (i + 1) f2 (listed.setIfInBounds i true) a' w' (by omega) (by omega) (by simp [hs]) (fun j hj => ?_) (fun j hj => ?_) (by omega) h)) hq
      · by_cases c : i = j
        · subst c
          exact getD_same (by rw [hs]; exact hlt) _
        · rw [getD_off c]
          exact h1 j (by omega)
      · rw [getD_off (by omega)]
        exact h2 j (by omega)

/-- The block that a value leads to. -/
def blkOf : Value → Option Nat
  | .pointer (some a) => some a.block
  | .slice (some a) _ _ => some a.block
  | _ => none
/-- One operation whose answer leads to a block of its own making. -/
def FreshG (P : Program) (md : Region.Mode) (ops : Array Oper) (Q : Exit → Act → World → Prop) (F : Nat → Fact) (a0 : Act) (w0 : World) (i : Nat) : Prop :=
  ∀ o, ops[i]? = some o → ∀ a w, Based ops a0 a → Gm w0.heap.size w0 w → (∀ j d, waits md ops i j d = true → (F j).p (a.tmps.getD d undef) w) →
    ∀ K : Act → World → Prop, (∀ v w', Gm w0.heap.size w w' → (F i).p v w' → (∃ b, blkOf v = some b ∧ w.heap.size ≤ b ∧ b < w'.heap.size) → K (a.put o.dst v) w') → o.wp P a w K Q
theorem FreshG.step {i : Nat} (h : FreshG P md ops Q F a0 w0 i) : StepOk P md ops Q F a0 w0 i :=
  fun o ho a w hb hw hf K hK => h o ho a w hb hw hf K (fun v w' hn hv _ => hK v w' hn hv)
/-- Those that make a block are apart from one another. -/
structure SepL (fr : List (Nat × Nat)) (listed : Array Bool) (a : Act) (w : World) : Prop where
  l : ∀ p ∈ fr, listed.getD p.1 false = true → ∃ q, blkOf (a.tmps.getD p.2 undef) = some q ∧ q < w.heap.size
  n : ∀ p ∈ fr, ∀ p' ∈ fr, p ≠ p' → listed.getD p.1 false = true → listed.getD p'.1 false = true → blkOf (a.tmps.getD p.2 undef) ≠ blkOf (a.tmps.getD p'.2 undef)
theorem SepL.other {fr : List (Nat × Nat)} {listed : Array Bool} {a : Act} {w w' : World} (h : SepL fr listed a w) {i : Nat} {dst : Option Tmp} {v : Value} (h1 : ∀ p ∈ fr, i ≠ p.1) (e1 : ∀ p ∈ fr, dst ≠ some p.2) (hw : w.heap.size ≤ w'.heap.size) : SepL fr (listed.setIfInBounds i true) (a.put dst v) w' := by
  refine ⟨fun p hp g => ?_, fun p hp p' hp' hne g g' => ?_⟩
  · rw [getD_off (h1 p hp)] at g
    obtain ⟨q, hq, hl⟩ := h.l p hp g
    exact ⟨q, by rw [put_off (e1 p hp)]; exact hq, by omega⟩
  · rw [getD_off (h1 p hp)] at g
    rw [getD_off (h1 p' hp')] at g'
    rw [put_off (e1 p hp), put_off (e1 p' hp')]
    exact h.n p hp p' hp' hne g g'
theorem SepL.this {fr : List (Nat × Nat)} {listed : Array Bool} {a : Act} {w w' : World} (h : SepL fr listed a w) {v : Value} {i d : Nat} (hi : ∀ p ∈ fr, p ≠ (i, d) → i ≠ p.1 ∧ d ≠ p.2) (hs : d < a.tmps.size) (hv : ∃ b, blkOf v = some b ∧ w.heap.size ≤ b ∧ b < w'.heap.size) :
    SepL fr (listed.setIfInBounds i true) (a.put (some d) v) w' := by
  obtain ⟨b, hb, hb1, hb2⟩ := hv
  have old : ∀ p ∈ fr, p ≠ (i, d) → (listed.setIfInBounds i true).getD p.1 false = true → ∃ q, blkOf ((a.put (some d) v).tmps.getD p.2 undef) = some q ∧ q < w.heap.size := by
    intro p hp c g
    obtain ⟨c1, c2⟩ := hi p hp c
    rw [getD_off c1] at g
    obtain ⟨q, hq, hl⟩ := h.l p hp g
    exact ⟨q, by rw [put_off (by simpa using c2)]; exact hq, hl⟩
  have new : blkOf ((a.put (some d) v).tmps.getD d undef) = some b := by rw [put_at hs, hb]
  have ne : ∀ q, q < w.heap.size → (some q : Option Nat) ≠ some b := by
    intro q hq x
    simp only [Option.some.injEq] at x
    omega
  refine ⟨fun p hp g => ?_, fun p hp p' hp' hne g g' => ?_⟩
  · by_cases c : p = (i, d)
    · subst c
      exact ⟨b, new, hb2⟩
    · obtain ⟨q, hq, hl⟩ := old p hp c g
      exact ⟨q, hq, by omega⟩
  · by_cases c : p = (i, d)
    · subst c
      obtain ⟨q, hq, hl⟩ := old p' hp' (Ne.symm hne) g'
      show blkOf ((a.put (some d) v).tmps.getD d undef) ≠ _
      rw [new, hq]
      exact (ne q hl).symm
    · obtain ⟨q, hq, hl⟩ := old p hp c g
      by_cases c' : p' = (i, d)
      · subst c'
        show _ ≠ blkOf ((a.put (some d) v).tmps.getD d undef)
        rw [new, hq]
        exact ne q hl
      · obtain ⟨c1, c2⟩ := hi p hp c
        obtain ⟨c1', c2'⟩ := hi p' hp' c'
        rw [getD_off c1] at g
        rw [getD_off c1'] at g'
        rw [put_off (by simpa using c2), put_off (by simpa using c2')]
        exact h.n p hp p' hp' hne g g'

/-- What is told behind the head. -/
abbrev HeadDone (P : Program) (ops : Array Oper) (Q : Exit → Act → World → Prop) (F : Nat → Fact) (a0 : Act) (w0 : World) (k : Nat) (fr : List (Nat × Nat)) : Prop :=
  ∀ a w, Based ops a0 a → Gm w0.heap.size w0 w → (∀ i o d, i < k → ops[i]? = some o → o.dst = some d → (F i).p (a.tmps.getD d undef) w) → (∀ p ∈ fr, ∀ p' ∈ fr, p ≠ p' → blkOf (a.tmps.getD p.2 undef) ≠ blkOf (a.tmps.getD p'.2 undef)) → tailWp P Q (ops.toList.drop k) a w

theorem any_tail {n k : Nat} (T : TextT md true ops n k) (hn : n ≤ a0.tmps.size) (steps : ∀ i, i < k → StepOk P md ops Q F a0 w0 i) (fr : List (Nat × Nat)) (hfr : ∀ p ∈ fr, p.1 < k ∧ writes ops p.1 p.2 = true ∧ FreshG P md ops Q F a0 w0 p.1) (hnd : ∀ p ∈ fr, ∀ p' ∈ fr, p ≠ p' → p.1 ≠ p'.1)
    (fin : HeadDone P ops Q F a0 w0 k fr) :
    ∀ (fuel : Nat) (listed : Array Bool) (a : Act) (w : World), left listed ops.size ≤ fuel → Held md ops F a0 w0 listed a w → SepL fr listed a w → (∀ j, k ≤ j → listed.getD j false = false) → ops.size - k ≤ fuel → wpAny P md ops Q fuel listed a w := by
  intro fuel
  induction fuel with
  | zero =>
    intro listed a w hl H S hk hf
    have hks : k = ops.size := by have := T.k1; omega
    have hall : ∀ i, i < ops.size → listed.getD i false = true := fun i hi => by
      rw [← dflt (by rw [H.s]; exact hi)]
      exact left_zero (n := ops.size) (by omega) i hi
    exact tail_any T 0 ops.size 0 listed a w (by omega) (by omega) H.s (fun j hj => hall j hj) (fun j hj => hk j (by omega)) (Nat.le_refl _) (hks ▸ fin a w H.b H.n (fun i o d hi ho hd => H.f i o d ho (hall i (by omega)) hd) (fun p hp p' hp' hne => S.n p hp p' hp' hne (hall p.1 (by have := (hfr p hp).1; omega)) (hall p'.1 (by have := (hfr p' hp').1; omega))))
  | succ fuel ih =>
    intro listed a w hl H S hk hf
    by_cases hall : ∀ j, j < k → listed.getD j false = true
    · exact tail_any T (ops.size - k) k (fuel + 1) listed a w (by have := T.k1; omega) (Nat.le_refl _) H.s hall hk hf (fin a w H.b H.n (fun i o d hi ho hd => H.f i o d ho (hall i hi) hd) (fun p hp p' hp' hne => S.n p hp p' hp' hne (hall p.1 (hfr p hp).1) (hall p'.1 (hfr p' hp').1)))
    · refine ⟨fun hr => ?_, fun i hi => ?_⟩
      · exfalso
        refine hall fun j hj => ?_
        have : ∀ m i, i < m → i < k → listed.getD i false = true := by
          intro m
          induction m with
          | zero => intro i hi; omega
          | succ m ihm =>
            intro i hi hik
            rcases Nat.lt_or_ge i m with h1 | h1
            · exact ihm i h1 hik
            · obtain rfl : i = m := by omega
              cases hc : listed.getD i false
              · exfalso
                have hks : i < ops.size := by have := T.k1; omega
                obtain ⟨o, ho⟩ : ∃ o, ops[i]? = some o := ⟨ops[i], by simp [hks]⟩
                have hr' : i ∈ Region.ready md ops listed := mem_ready.2 ⟨by rw [dflt (by rw [H.s]; omega)]; exact hc, o, ho, fun e he hb => ihm e.on (T.a i o ho e he hb) (by have := T.a i o ho e he hb; omega)⟩
                rw [hr] at hr'
                simp at hr'
              · rfl
        exact this (j + 1) j (by omega) hj
      · obtain ⟨h0, o, ho, hready⟩ := mem_ready.1 hi
        have hlt := (Array.getElem?_eq_some_iff.1 ho).1
        have hik : i < k := by
          rcases Nat.lt_or_ge i k with h1 | h1
          · exact h1
          · exfalso
            rcases Nat.lt_or_ge k i with h2 | h2
            · obtain ⟨e, he, hb, hq⟩ := T.l rfl i o h2 ho
              have := hready e he hb
              rw [hk e.on (by omega)] at this
              simp at this
            · obtain rfl : i = k := by omega
              refine hall fun j hj => ?_
              have ah : ∀ m j, i - j ≤ m → j < i → listed.getD j false = true := by
                intro m
                induction m with
                | zero => intro j hm hj; omega
                | succ m ihm =>
                  intro j hm hj
                  obtain ⟨p, oo, hjp, hpk, hoo, e, he, hb, rfl⟩ := T.c rfl hlt j hj
                  rcases Nat.lt_or_ge p i with h1 | h1
                  · exact H.c p oo hoo (ihm p (by omega) h1) e he hb
                  · obtain rfl : p = i := by omega
                    obtain rfl := Option.some.inj (ho.symm.trans hoo)
                    exact hready e he hb
              exact ah (i - j) j (Nat.le_refl _) hj
        have hwant : Region.wanted o (yielded ops a.tmps) = true := by simp [Region.wanted, T.g i o ho]
        refine wpOp_step ho fun K' hK => ?_
        rw [if_pos hwant]
        have hll := left_set (by rw [H.s]; exact hlt) h0 ops.size hlt
        have hfacts : ∀ j d, waits md ops i j d = true → (F j).p (a.tmps.getD d undef) w := by
          intro j d hjd
          unfold waits at hjd
          rw [ho] at hjd
          cases hoj : ops[j]? with
          | none => rw [hoj] at hjd; simp at hjd
          | some oj =>
            rw [hoj] at hjd
            simp only [Bool.and_eq_true, beq_iff_eq] at hjd
            obtain ⟨e, he, hb⟩ := Array.any_eq_true'.1 hjd.1
            simp only [Bool.and_eq_true, beq_iff_eq] at hb
            exact H.f j oj d hoj (by rw [← hb.2]; exact hready e he hb.1) hjd.2
        have htail : ops.size - k ≤ fuel := by
          -- k and all behind it are still to come, and i besides
          have lk : ∀ m, m ≤ ops.size → k ≤ m → (m - k) + left listed k ≤ left listed m := by
            intro m
            induction m with
            | zero => intro _ hk0; have : k = 0 := by omega
                      subst this; simp
            | succ m ihm =>
              intro hm hkm
              rcases Nat.lt_or_ge m k with c | c
              · have : k = m + 1 := by omega
                subst this
                omega
              · have q := ihm (by omega) c
                rw [left, if_pos (by rw [dflt (by rw [H.s]; omega)]; exact hk m c)]
                omega
          have l1 : 1 ≤ left listed k := by
            have := left_set (by rw [H.s]; exact hlt) h0 k hik
            omega
          have := lk ops.size (Nat.le_refl _) T.k1
          omega
        have go : ∀ v w', Gm w0.heap.size w w' → (F i).p v w' → SepL fr (listed.setIfInBounds i true) (a.put o.dst v) w' → K' (a.put o.dst v) w' := by
          intro v w' hw hf' hS
          refine hK _ _ (ih _ _ _ (by omega) (H.nextT T hn ho hi hw hf') hS (fun j hj => ?_) htail)
          rw [getD_off (by omega)]
          exact hk j hj
        by_cases c : ∃ p ∈ fr, i = p.1
        · obtain ⟨p, hp, rfl⟩ := c
          obtain ⟨_, hw', f⟩ := hfr p hp
          obtain ⟨op, hop, hdp⟩ := writes_is hw'
          obtain rfl := Option.some.inj (hop.symm.trans ho)
          refine f op ho a w H.b H.n hfacts K' fun v w' hw hf' hv => go v w' hw hf' ?_
          rw [hdp]
          refine S.this (i := p.1) (d := p.2) (fun p' hp' hne => ?_) (by rw [H.b.2.1]; exact Nat.lt_of_lt_of_le (T.d p.1 op p.2 hop hdp) hn) hv
          have n1 := hnd p hp p' hp' (Ne.symm hne)
          obtain ⟨o', ho', hd'⟩ := writes_is (hfr p' hp').2.1
          exact ⟨n1, fun e => T.x p.1 p'.1 op o' p.2 hop ho' n1 hdp (by rw [e]; exact hd')⟩
        · refine steps i hik o ho a w H.b H.n hfacts K' fun v w' hw hf' => go v w' hw hf' ?_
          refine S.other (fun p hp e => c ⟨p, hp, e⟩) (fun p hp e => ?_) hw.size
          obtain ⟨o', ho', hd'⟩ := writes_is (hfr p hp).2.1
          exact T.x i p.1 o o' p.2 ho ho' (fun x => c ⟨p, hp, x⟩) e hd'

theorem tail_line {n k : Nat} {draw : Bool} (T : TextT md draw ops n k) : ∀ (m t : Nat) (a : Act) (w : World), t + m = ops.size → k ≤ t → tailWp P Q (ops.toList.drop t) a w → wpOps P ops Q (List.range' t m) a w := by
  intro m
  induction m with
  | zero =>
    intro t a w ht hk hq
    obtain rfl : t = ops.size := by omega
    have e : ops.toList.drop ops.size = [] := by simp
    rw [e] at hq
    exact hq
  | succ m ih =>
    intro t a w ht hk hq
    have hlt : t < ops.size := by omega
    obtain ⟨o, ho⟩ : ∃ o, ops[t]? = some o := ⟨ops[t], by simp [hlt]⟩
    have e : ops.toList.drop t = o :: ops.toList.drop (t + 1) := by
      rw [List.drop_eq_getElem_cons (by simpa using hlt)]
      congr 1
      have := (Array.getElem?_eq_some_iff.1 ho).2
      simpa using this
    rw [e] at hq
    have hwant : Region.wanted o (yielded ops a.tmps) = true := by simp [Region.wanted, T.g t o ho]
    rw [List.range'_succ, wpOps_cons]
    refine wpOp_step ho fun K' hK => ?_
    rw [if_pos hwant]
    exact Oper.wp_mono (fun a' w' h => hK _ _ (ih (t + 1) a' w' (by omega) (by omega) h)) hq
theorem line_tail {n k : Nat} {draw : Bool} (T : TextT md draw ops n k) (hn : n ≤ a0.tmps.size) (steps : ∀ i, i < k → StepOk P md ops Q F a0 w0 i) (fr : List (Nat × Nat)) (hfr : ∀ p ∈ fr, p.1 < k ∧ writes ops p.1 p.2 = true ∧ FreshG P md ops Q F a0 w0 p.1) (hnd : ∀ p ∈ fr, ∀ p' ∈ fr, p ≠ p' → p.1 ≠ p'.1)
    (fin : HeadDone P ops Q F a0 w0 k fr) :
    ∀ (m i : Nat) (listed : Array Bool) (a : Act) (w : World), i + m = ops.size → i ≤ k → Based ops a0 a → Gm w0.heap.size w0 w → (∀ j o d, j < i → ops[j]? = some o → o.dst = some d → (F j).p (a.tmps.getD d undef) w) → listed.size = ops.size → (∀ j, j < i → listed.getD j false = true) → SepL fr listed a w →
      wpOps P ops Q (List.range' i m) a w := by
  intro m
  induction m with
  | zero =>
    intro i listed a w him hik hb hw hf hs hl S
    obtain rfl : i = k := by have := T.k1; omega
    exact tail_line T 0 i a w (by omega) (Nat.le_refl _) (fin a w hb hw hf (fun p hp p' hp' hne => S.n p hp p' hp' hne (hl p.1 (hfr p hp).1) (hl p'.1 (hfr p' hp').1)))
  | succ m ih =>
    intro i listed a w him hik hb hw hf hs hl S
    have hlt : i < ops.size := by omega
    obtain ⟨o, ho⟩ : ∃ o, ops[i]? = some o := ⟨ops[i], by simp [hlt]⟩
    rcases Nat.lt_or_ge i k with h1 | h1
    · have hwant : Region.wanted o (yielded ops a.tmps) = true := by simp [Region.wanted, T.g i o ho]
      rw [List.range'_succ, wpOps_cons]
      refine wpOp_step ho fun K' hK => ?_
      rw [if_pos hwant]
      have hfacts : ∀ j d, waits md ops i j d = true → (F j).p (a.tmps.getD d undef) w := by
        intro j d hjd
        unfold waits at hjd
        rw [ho] at hjd
        cases hoj : ops[j]? with
        | none => rw [hoj] at hjd; simp at hjd
        | some oj =>
          rw [hoj] at hjd
          simp only [Bool.and_eq_true, beq_iff_eq] at hjd
          obtain ⟨e, he, hb⟩ := Array.any_eq_true'.1 hjd.1
          simp only [Bool.and_eq_true, beq_iff_eq] at hb
          exact hf j oj d (by rw [← hb.2]; exact T.a i o ho e he hb.1) hoj hjd.2
      have go : ∀ v w', Gm w0.heap.size w w' → (F i).p v w' → SepL fr (listed.setIfInBounds i true) (a.put o.dst v) w' → K' (a.put o.dst v) w' := by
        intro v w' hw' hfv hS
        refine hK _ _ (ih (i + 1) (listed.setIfInBounds i true) _ _ (by omega) (by omega) ⟨by rw [put_defers]; exact hb.1, by rw [put_size]; exact hb.2.1, fun d hd => ?_⟩ (Gm.trans hw hw') ?_ (by simp [hs]) (fun j hj => ?_) hS)
        · rw [put_off]
          · exact hb.2.2 d hd
          · have q := Array.all_eq_true_iff_forall_mem.1 hd o (Array.mem_of_getElem? ho)
            simpa using q
        · intro j oj d hj hoj hd
          by_cases e : i = j
          · subst e
            obtain rfl := Option.some.inj (ho.symm.trans hoj)
            rw [hd, put_at (Nat.lt_of_lt_of_le (T.d i o d ho hd) (hb.2.1 ▸ hn))]
            exact hfv
          · rw [put_off (T.x j i oj o d hoj ho (Ne.symm e) hd)]
            exact (F j).up hw' (hf j oj d (by omega) hoj hd)
        · by_cases c : i = j
          · subst c
            exact getD_same (by rw [hs]; exact hlt) _
          · rw [getD_off c]
            exact hl j (by omega)
      by_cases c : ∃ p ∈ fr, i = p.1
      · obtain ⟨p, hp, rfl⟩ := c
        obtain ⟨_, hw', f⟩ := hfr p hp
        obtain ⟨op, hop, hdp⟩ := writes_is hw'
        obtain rfl := Option.some.inj (hop.symm.trans ho)
        refine f op ho a w hb hw hfacts K' fun v w' hw' hf' hv => go v w' hw' hf' ?_
        rw [hdp]
        refine S.this (i := p.1) (d := p.2) (fun p' hp' hne => ?_) (by rw [hb.2.1]; exact Nat.lt_of_lt_of_le (T.d p.1 op p.2 hop hdp) hn) hv
        have n1 := hnd p hp p' hp' (Ne.symm hne)
        obtain ⟨o', ho', hd'⟩ := writes_is (hfr p' hp').2.1
        exact ⟨n1, fun e => T.x p.1 p'.1 op o' p.2 hop ho' n1 hdp (by rw [e]; exact hd')⟩
      · refine steps i h1 o ho a w hb hw hfacts K' fun v w' hw' hf' => go v w' hw' hf' ?_
        refine S.other (fun p hp e => c ⟨p, hp, e⟩) (fun p hp e => ?_) hw'.size
        obtain ⟨o', ho', hd'⟩ := writes_is (hfr p hp).2.1
        exact T.x i p.1 o o' p.2 ho ho' (fun x => c ⟨p, hp, x⟩) e hd'
    · obtain rfl : i = k := by omega
      exact tail_line T (m + 1) i a w him (Nat.le_refl _) (fin a w hb hw hf (fun p hp p' hp' hne => S.n p hp p' hp' hne (hl p.1 (hfr p hp).1) (hl p'.1 (hfr p' hp').1)))

/-- A region of any kind that ends with a row of operations. -/
theorem region_tail {id : Nat} {w : World} {draw : Bool} (k : Nat) (F : Nat → Fact) (hm : P.follows .mixedOrders = true) (hT : textTail .any draw ops a0.tmps.size k = true) (steps : ∀ i, i < k → StepOk P .any ops Q F a0 w i)
    (fr : List (Nat × Nat)) (hfr : ∀ p ∈ fr, p.1 < k ∧ writes ops p.1 p.2 = true ∧ FreshG P .any ops Q F a0 w p.1) (hnd : ∀ p ∈ fr, ∀ p' ∈ fr, p ≠ p' → p.1 ≠ p'.1)
    (fin : ∀ a w', Based ops a0 a → Gm w.heap.size w w' → (∀ i d, decide (i < k) = true → writes ops i d = true → (F i).p (a.tmps.getD d undef) w') → (∀ p ∈ fr, ∀ p' ∈ fr, p ≠ p' → blkOf (a.tmps.getD p.2 undef) ≠ blkOf (a.tmps.getD p'.2 undef)) → tailWp P Q (ops.toList.drop k) a w') : (Code.region id ops draw).wp P Q a0 w := by
  have T := textT_of hT
  have fin' : HeadDone P ops Q F a0 w k fr := fun a w' hb hw hf hne => fin a w' hb hw (fun i d hi hd => by
    obtain ⟨o, ho, hd'⟩ := writes_is hd
    exact hf i o d (of_decide_eq_true hi) ho hd') hne
  have z : ∀ j, (Array.replicate ops.size false).getD j false = false := fun j => by
    rw [Array.getD_eq_getD_getElem?, Array.getElem?_replicate]
    split <;> rfl
  have S0 : ∀ w', SepL fr (Array.replicate ops.size false) a0 w' := fun w' => ⟨fun p hp g => by rw [z] at g; simp at g, fun p hp p' hp' hne g g' => by rw [z] at g; simp at g⟩
  cases draw with
  | false =>
    refine wp_region ?_
    have h := line_tail (w0 := w) T (Nat.le_refl _) steps fr hfr hnd fin' ops.size 0 (Array.replicate ops.size false) a0 w (by omega) (by omega) ⟨rfl, rfl, fun _ _ => rfl⟩ (Gm.refl _ _) (fun j o d hj => by omega) (by simp) (fun j hj => by omega) (S0 w)
    rw [List.range_eq_range']
    exact h
  | true =>
    refine wp_region_any hm ?_
    refine any_tail (w0 := w) T (Nat.le_refl _) steps fr hfr hnd fin' ops.size _ a0 _ ?_ ⟨⟨rfl, rfl, fun _ _ => rfl⟩, (Gm.refl _ _).drew, ?_, ?_, by simp⟩ (S0 _) (fun j _ => z j) (by omega)
    · have : ∀ m, left (Array.replicate ops.size false) m ≤ m := by
        intro m
        induction m with
        | zero => exact Nat.le_refl _
        | succ m ih => unfold left; split <;> omega
      exact this _
    · intro i o d ho hl _
      rw [z] at hl
      simp at hl
    · intro i o ho hl
      rw [z] at hl
      simp at hl
theorem puts_tail {n k : Nat} {draw : Bool} (hT : textTail md draw ops n k = true) (hn : n = a0.tmps.size) {a : Act} (hb : Based ops a0 a) (vs : Nat → Value) (hv : ∀ d, a.tmps.getD d undef = vs d) : a = puts vs a0 ops.toList := by
  have T := textT_of hT
  have hin : ∀ o ∈ ops.toList, ∀ e, o.dst = some e → e < a0.tmps.size := fun o ho e he => by
    obtain ⟨i, hi⟩ := List.getElem?_of_mem ho
    have := T.d i o e (by simpa using hi) he
    rw [hn] at this
    exact this
  obtain ⟨s1, s2⟩ := puts_size vs ops.toList a0
  obtain ⟨ta, da⟩ := a
  obtain ⟨h1, h2, h3⟩ := hb
  have e1 : ta = (puts vs a0 ops.toList).tmps := by
    apply Array.ext
    · rw [s1]; exact h2
    · intro i hi hi'
      have g := puts_get vs i ops.toList a0 hin
      have l : ta[i] = ta.getD i undef := by simp [Array.getD_eq_getD_getElem?, hi]
      have r : (puts vs a0 ops.toList).tmps[i] = (puts vs a0 ops.toList).tmps.getD i undef := by simp only [Array.getD_eq_getD_getElem?, Array.getElem?_eq_getElem hi', Option.getD_some]
      rw [l, r, g]
      by_cases c : ops.toList.any (fun o => o.dst == some i) = true
      · rw [if_pos c]; exact hv i
      · rw [if_neg c]
        refine h3 i ?_
        unfold apart
        rw [Array.all_eq_true_iff_forall_mem]
        intro o ho
        have hne : ¬ (o.dst == some i) = true := fun x => c (List.any_eq_true.2 ⟨o, by simpa using ho, x⟩)
        simpa using hne
  have e2 : da = (puts vs a0 ops.toList).defers := h1.trans s2.symm
  subst e1
  subst e2
  rfl
theorem Based.put {a : Act} (hb : Based ops a0 a) {o : Oper} {i : Nat} (ho : ops[i]? = some o) (v : Value) : Based ops a0 (a.put o.dst v) := by
  refine ⟨by rw [put_defers]; exact hb.1, by rw [put_size]; exact hb.2.1, fun d hd => ?_⟩
  rw [put_off]
  · exact hb.2.2 d hd
  · have q := Array.all_eq_true_iff_forall_mem.1 hd o (Array.mem_of_getElem? ho)
    simpa using q
end
end Go.Proofs.Ytcljoaknaegpmaa.Mk

/-
  Regions that end with a struct stored into a new block, or into one that was there; steps for them. No program in sight.
-/
namespace Go.Proofs.Ytcljoaknaegpmaa
open Go Go.RowKit

/-- A new block of a struct's zero cells. -/
def NBt (b : Nat) (t : TypeId) (zs : List Value) : Fact := ⟨fun v w => ∃ q, v = .pointer (some ⟨q, 0, none⟩) ∧ b ≤ q ∧ RwC w q zs t, fun n h => by
  obtain ⟨q, e, l, r⟩ := h
  exact ⟨q, e, l, r.up n⟩⟩
theorem RowB.onlyT {w w' : World} {base q : Nat} {v : Value} {xs : List Int} {zs : List Value} {t : TypeId} (h : RowB w base v xs) (O : Only q w w') (hq : RwC w q zs t) (ht : t ≠ 5) : RowB w' base v xs := by
  refine ⟨h.1, ?_⟩
  rcases h.2 with h' | ⟨g, cap, cur, rfl, hbg, hg, hnc, hcm, hcs, hT⟩
  · exact .inl h'
  · refine .inr ⟨g, cap, cur, rfl, hbg, ?_, hnc, hcm, hcs, hT⟩
    rw [O.block g ?_]
    · exact hg
    · rintro rfl
      unfold RwC at hq
      rw [hg] at hq
      simp only [Option.some.injEq, Obj.cells.injEq] at hq
      exact ht hq.2.1.symm
def putAt : List Value → Nat → List Value → List Value
  | zs, _, [] => zs
  | zs, o, v :: vs => putAt (zs.set o v) (o + 1) vs
theorem putAt_get : ∀ (vs zs : List Value) (o i : Nat), o + vs.length ≤ zs.length → (putAt zs o vs)[i]? = if o ≤ i ∧ i < o + vs.length then vs[i - o]? else zs[i]?
  | [], zs, o, i, _ => by
    rw [if_neg (by simp only [List.length_nil]; omega)]
    rfl
  | v :: vs, zs, o, i, h => by
    simp only [List.length_cons] at h ⊢
    rw [putAt, putAt_get vs (zs.set o v) (o + 1) i (by rw [List.length_set]; omega)]
    by_cases e : o = i
    · subst e
      rw [if_neg (by omega), if_pos (by omega), List.getElem?_set_self (by omega), Nat.sub_self]
      rfl
    · by_cases h2 : o + 1 ≤ i ∧ i < o + 1 + vs.length
      · rw [if_pos h2, if_pos (by omega), show i - o = (i - (o + 1)) + 1 by omega]
        rfl
      · rw [if_neg h2, if_neg (by omega), List.getElem?_set_ne e]
theorem putAt_all {zs cs : List Value} (h : cs.length = zs.length) : putAt zs 0 cs = cs := by
  apply List.ext_getElem?
  intro i
  rw [putAt_get cs zs 0 i (by omega)]
  by_cases hi : i < cs.length
  · rw [if_pos (by omega)]
    rfl
  · rw [if_neg (by omega), List.getElem?_eq_none (by omega), List.getElem?_eq_none (by omega)]
theorem RwC.puts {t : TypeId} {q : Nat} : ∀ (vs zs : List Value) (w : World) (o : Nat), RwC w q zs t → RwC (w.setCells q o vs) q (putAt zs o vs) t
  | [], _, _, _, h => h
  | v :: vs, zs, w, o, h => RwC.puts vs (zs.set o v) (w.setCell ⟨q, o, none⟩ v) (o + 1) (h.set o v)
theorem RwC.put {w : World} {q : Nat} {zs cs : List Value} {t : TypeId} (h : RwC w q zs t) (hl : cs.length = zs.length) : RwC (w.setCells q 0 cs) q cs t := by
  have := RwC.puts cs zs w 0 h
  rwa [putAt_all hl] at this
section
variable {P : Program} {ops : Array Oper} {Q : Exit → Act → World → Prop}
theorem region_newT {a0 : Act} {id : Nat} {draw : Bool} {w : World} (k jA jV pA pV : Nat) (o : Oper) (F : Nat → Fact) (t : TypeId) (zs : List Value) (G : Fact) (hm : P.follows .mixedOrders = true) (hT : textOk .any ops a0.tmps.size k = true) (hk : ops[k]? = some o) (hd : o.dst = none)
    (hop : o.op = .store t (.tmp pA) (.tmp pV)) (hi : (P.info? t).map (·.size) = some zs.length) (wA : writes ops jA pA = true) (FA : F jA = NBt w.heap.size t zs) (wV : writes ops jV pV = true) (FV : F jV = G)
    (hG : ∀ v W, G.p v W → ∃ cs : List Value, v = .agg cs.toArray ∧ cs.length = zs.length ∧ cs.toArray.all (·.oneCell') = true) (steps : ∀ i, i < k → StepOk P .any ops Q F a0 w i)
    (fin : ∀ (vs : Nat → Value) (W W' : World) (q : Nat) (cs : List Value), vs pA = .pointer (some ⟨q, 0, none⟩) → w.heap.size ≤ q → Below w.heap.size w W → RwC W q zs t → G.p (.agg cs.toArray) W → Only q W W' → RwC W' q cs t → Below w.heap.size w W' → Q .normal (puts vs a0 ops.toList) W') : (Code.region id ops draw).wp P Q a0 w := by
  refine region_store k o F hm hT hk hd steps fun a W hb hw hF => ?_
  have e1 := hF jA pA wA
  have e2 := hF jV pV wV
  rw [FA] at e1
  rw [FV] at e2
  obtain ⟨q, e1, hB, hq⟩ := e1
  obtain ⟨cs, ev, hl, h1⟩ := hG _ _ e2
  have TH : W.there q 0 cs.length := by rw [hl]; exact hq.thereG
  refine wp_store_mid _ (.tmp pA) (.tmp pV) hop q 0 cs.toArray e1 ev (by simpa using TH) (by rw [hi]; simp [hl]) h1 ?_
  obtain ⟨vs, hvs⟩ : ∃ vs : Nat → Value, ∀ d, a.tmps.getD d undef = vs d := ⟨_, fun _ => rfl⟩
  rw [hd]
  show Q .normal a _
  rw [puts_of hT rfl hb vs hvs]
  have OQ := only_setG W q cs 0
  have e2' : G.p (.agg cs.toArray) W := by rw [← ev]; exact e2
  exact fin vs W _ q cs ((hvs pA).symm.trans e1) hB hw hq e2' OQ (RwC.put hq hl) (hw.trans (OQ.below hB))
theorem region_putT {a0 : Act} {id : Nat} {draw : Bool} {w : World} (k jV pA pV : Nat) (o : Oper) (F : Nat → Fact) (t : TypeId) (zs : List Value) (q : Nat) (G : Fact) (hm : P.follows .mixedOrders = true) (hT : textOk .any ops a0.tmps.size k = true) (hk : ops[k]? = some o) (hd : o.dst = none)
    (hop : o.op = .store t (.tmp pA) (.tmp pV)) (hi : (P.info? t).map (·.size) = some zs.length) (hA : ∀ a, Based ops a0 a → a.tmps.getD pA undef = .pointer (some ⟨q, 0, none⟩)) (hq : RwC w q zs t) (wV : writes ops jV pV = true) (FV : F jV = G)
    (hG : ∀ v W, G.p v W → ∃ cs : List Value, v = .agg cs.toArray ∧ cs.length = zs.length ∧ cs.toArray.all (·.oneCell') = true) (steps : ∀ i, i < k → StepOk P .any ops Q F a0 w i)
    (fin : ∀ (vs : Nat → Value) (W W' : World) (cs : List Value), Below w.heap.size w W → RwC W q zs t → G.p (.agg cs.toArray) W → Only q W W' → RwC W' q cs t → Q .normal (puts vs a0 ops.toList) W') : (Code.region id ops draw).wp P Q a0 w := by
  refine region_store k o F hm hT hk hd steps fun a W hb hw hF => ?_
  have e1 := hA a hb
  have e2 := hF jV pV wV
  rw [FV] at e2
  obtain ⟨cs, ev, hl, h1⟩ := hG _ _ e2
  have hq' := hq.up hw
  have TH : W.there q 0 cs.length := by rw [hl]; exact hq'.thereG
  refine wp_store_mid _ (.tmp pA) (.tmp pV) hop q 0 cs.toArray e1 ev (by simpa using TH) (by rw [hi]; simp [hl]) h1 ?_
  obtain ⟨vs, hvs⟩ : ∃ vs : Nat → Value, ∀ d, a.tmps.getD d undef = vs d := ⟨_, fun _ => rfl⟩
  rw [hd]
  show Q .normal a _
  rw [puts_of hT rfl hb vs hvs]
  have OQ := only_setG W q cs 0
  have e2' : G.p (.agg cs.toArray) W := by rw [← ev]; exact e2
  exact fin vs W _ cs hw hq' e2' OQ (RwC.put hq' hl)
end
end Go.Proofs.Ytcljoaknaegpmaa

/-
  Regions by facts with a constant text turned into bytes: its steps; regions that end with an append, or with a struct stored into a new block.
-/
namespace Go.Proofs.Ytcljoaknaegpmaa.Mk
open Go Go.RowKit

/-- A row to append to, longer than the literal. -/
def RoF (b : Nat) (xs : List Int) (hx : LN < xs.length) : Fact := ⟨fun v w => RowB w b v xs, fun n h => by
  refine ⟨h.1, ?_⟩
  rcases h.2 with h' | ⟨g, cap, cur, rfl, hbg, hg, hnc, hcm, hcs, hT⟩
  · exact .inl h'
  · refine .inr ⟨g, cap, cur, rfl, hbg, ?_, hnc, hcm, hcs, hT⟩
    have hl : g < _ := (Array.getElem?_eq_some_iff.1 hg).1
    rcases n.block g hl with e | ⟨_, cs, t, m, m', hs, e1, _⟩
    · exact e.trans hg
    · rw [hg] at e1
      injection e1 with e1
      injection e1 with e1 _ _
      rw [← e1] at hs
      omega⟩
/-- A list that may be read. -/
def DrF (xs : List Int) : Fact := ⟨fun v w => ∃ (a : Option Addr) (c g : Nat), v = .slice a xs.length c ∧ Rd w g a .u8 xs ∧ (a = none → c = 0) ∧ xs.length ≤ c, fun n h => by
  obtain ⟨a, c, g, e, r, z, l⟩ := h
  exact ⟨a, c, g, e, rd_gm r n, z, l⟩⟩
theorem DrF.of_row {b : Nat} {xs : List Int} {v : Value} {w : World} (h : RowB w b v xs) : (DrF xs).p v w := by
  obtain ⟨a, c, g, e, r, z, l, -⟩ := h.rd
  exact ⟨a, c, g, e, r, z, l⟩
/-- A literal's row, marked or not. -/
def LitF (b : Nat) (ys : List Int) : Fact := ⟨fun v w => ∃ g m, v = .slice (some ⟨g, 0, none⟩) ys.length ys.length ∧ b ≤ g ∧ w.heap[g]? = some (.cells (ys.map (Value.int .u8)).toArray 5 m), fun n h => by
  obtain ⟨g, m, e, hb, hg⟩ := h
  have hl : g < _ := (Array.getElem?_eq_some_iff.1 hg).1
  rcases n.block g hl with f | ⟨_, cs, t, m1, m2, hs, f1, f2⟩
  · exact ⟨g, m, e, hb, f.trans hg⟩
  · rw [hg] at f1
    injection f1 with f1
    injection f1 with g1 g2 _
    rw [← g1, ← g2] at f2
    exact ⟨g, m2, e, hb, f2⟩⟩
theorem rd_lit {w : World} {g : Nat} {ys : List Int} {m : Nat × Nat} (h : w.heap[g]? = some (.cells (ys.map (Value.int .u8)).toArray 5 m)) : Rd w g (some ⟨g, 0, none⟩) .u8 ys := fun _ => ⟨0, rfl, fun i hi => by
  rw [Nat.zero_add]
  simp only [World.cell?, h]
  simp [hi]⟩
/-- The mark of a constant text's bytes. -/
theorem conv_mark {P : Program} (t : TypeId) (ht : P.underlying t = some (.slice 5)) (he : P.underlying 5 = some (.int .u8)) {w : World} {g n c : Nat} {cs : Array Value} {e : TypeId} {m : Nat × Nat} (h : w.heap[g]? = some (.cells cs e m)) :
    (convert t t (.slice (some ⟨g, 0, none⟩) n c)).run P w = .ok (.slice (some ⟨g, 0, none⟩) n c) (w.freeze ⟨g, cs.size, none⟩ 1) := by
  have hsh : w.shape? g = some (e, cs.size) := by
    unfold World.shape?
    rw [h]
  simp [convert, run_underlying ht, run_underlying he, markStringish, hsh]
theorem freeze_at {w : World} {g k : Nat} {cs : Array Value} {e : TypeId} {m : Nat × Nat} (h : w.heap[g]? = some (.cells cs e m)) : ∃ m', (w.freeze ⟨g, k, none⟩ 1).heap[g]? = some (.cells cs e m') := by
  unfold World.freeze
  rw [if_neg (by decide)]
  obtain ⟨lo, hi⟩ := m
  refine ⟨if (lo == hi) = true then (k, k + 1) else (min lo k, max hi (k + 1)), ?_⟩
  show (w.heap.modify g _)[g]? = _
  rw [Array.getElem?_modify, if_pos rfl, h]
  rfl
theorem freeze_off {w : World} {g k b : Nat} (hb : b ≠ g) : (w.freeze ⟨g, k, none⟩ 1).heap[b]? = w.heap[b]? := by
  unfold World.freeze
  rw [if_neg (by decide)]
  show (w.heap.modify g _)[b]? = _
  rw [Array.getElem?_modify, if_neg (Ne.symm hb)]
theorem freeze_gm {w : World} {B g k : Nat} {cs : Array Value} {e : TypeId} {m : Nat × Nat} (h : w.heap[g]? = some (.cells cs e m)) (hs : cs.size = LN) (hB : B ≤ g) : Gm B w (w.freeze ⟨g, k, none⟩ 1) := by
  obtain ⟨m', h'⟩ := freeze_at (k := k) h
  have hz : (w.freeze ⟨g, k, none⟩ 1).heap.size = w.heap.size := by
    unfold World.freeze
    rw [if_neg (by decide)]
    show (w.heap.modify g _).size = _
    simp
  refine ⟨?_, ?_, ?_, Nat.le_of_eq hz.symm, fun b _ => ?_⟩
  · unfold World.freeze; rw [if_neg (by decide)]
  · unfold World.freeze; rw [if_neg (by decide)]
  · unfold World.freeze; rw [if_neg (by decide)]
  · by_cases hb : b = g
    · subst hb
      exact .inr ⟨hB, cs, e, m, m', hs, h, h'⟩
    · exact .inl (freeze_off hb)
section
variable {P : Program} {ops : Array Oper} {Q : Exit → Act → World → Prop} {md : Region.Mode} {F : Nat → Fact} {a0 : Act} {w0 : World}
theorem step_lit {i : Nat} {o : Oper} (hi : ops[i]? = some o) (ys : List Int) (hr : ∀ (a : Act) (w : World), (execOp a.eval o).run P w = .ok (.value (.slice (some ⟨w.heap.size, 0, none⟩) ys.length ys.length)) (w.alloc (.cells (ys.map (Value.int .u8)).toArray 5))) (hF : F i = LitF w0.heap.size ys) : StepOk P md ops Q F a0 w0 i := by
  refine step_grow hi fun a w _ hw _ => ⟨_, _, hr a w, Gm.of_below ((Below.refl _ _).alloc (Nat.le_refl _) _), ?_⟩
  rw [hF]
  exact ⟨w.heap.size, (0, 0), rfl, hw.size, heap_alloc_new w _⟩
theorem step_mark {i : Nat} {o : Oper} (hi : ops[i]? = some o) (t : TypeId) (ht : P.underlying t = some (.slice 5)) (he : P.underlying 5 = some (.int .u8)) (ys : List Int) (hy : ys.length = LN) (j p : Nat) (hop : o.op = .convert t t (.tmp p)) (hj : F j = LitF w0.heap.size ys) (hp : waits md ops i j p = true) (hF : F i = DrF ys) : StepOk P md ops Q F a0 w0 i := by
  refine step_grow hi fun a w _ hw hf => ?_
  have f := hf j p hp
  rw [hj] at f
  obtain ⟨g, m, e, hb, hg⟩ := f
  have cv := conv_mark (P := P) t ht he (n := ys.length) (c := ys.length) hg
  have hs : (ys.map (Value.int .u8)).toArray.size = LN := by simp [hy]
  have GM := freeze_gm (B := w0.heap.size) (k := (ys.map (Value.int .u8)).toArray.size) hg hs hb
  obtain ⟨m', h'⟩ := freeze_at (k := (ys.map (Value.int .u8)).toArray.size) hg
  refine ⟨.slice (some ⟨g, 0, none⟩) ys.length ys.length, _, ?_, GM, ?_⟩
  · have e' : a.eval (.tmp p) = .slice (some ⟨g, 0, none⟩) ys.length ys.length := e
    simp only [execOp, hop, e', Sem.run_bind, cv, Result.andThen_ok]
    rfl
  · rw [hF]
    exact ⟨_, _, g, rfl, rd_lit h', (fun h => nomatch h), Nat.le_refl _⟩
end
section
variable {P : Program} {ops : Array Oper} {Q : Exit → Act → World → Prop} {a0 : Act}
theorem region_appA {id : Nat} {draw : Bool} {w : World} (k jR jS pR pS dA d2 : Nat) (t : TypeId) (o o2 : Oper) (F : Nat → Fact) (GR GS : Fact) (R : Value → World → Prop) (hm : P.follows .mixedOrders = true) (hT : textTail .any draw ops a0.tmps.size k = true) (hk : ops.toList.drop k = [o, o2]) (ho : ops[k]? = some o) (ho2 : ops[k + 1]? = some o2)
    (hop : o.op = .call { callee := .builtin .append, args := #[.tmp pR, .tmp pS], argTypes := #[t, t] }) (hty : o.type = t) (hd : o.dst = some dA) (hd2 : o2.dst = some d2) (hop2 : o2.op = .assign (.tmp dA)) (sA : dA < a0.tmps.size) (s2 : d2 < a0.tmps.size)
    (wR : decide (jR < k) = true ∧ writes ops jR pR = true) (FR : F jR = GR) (wS : decide (jS < k) = true ∧ writes ops jS pS = true) (FS : F jS = GS) (steps : ∀ i, i < k → StepOk P .any ops Q F a0 w i)
    (hA : ∀ W vR vS, Gm w.heap.size w W → GR.p vR W → GS.p vS W → ∃ v' w', (Builtin.append_ #[t, t] t #[vR, vS]).run P W = .ok v' w' ∧ R v' w')
    (fin : ∀ (vs : Nat → Value) (W : World) (v' : Value), vs d2 = v' → R v' W → Q .normal (puts vs a0 ops.toList) W) : (Code.region id ops draw).wp P Q a0 w := by
  refine region_tail k F hm hT steps [] (by simp) (by simp) fun a W hb hw hf _ => ?_
  rw [hk]
  show o.wp P a W (fun a' w'' => o2.wp P a' w'' (fun a'' w3 => Q .normal a'' w3) Q) Q
  have e1 := hf jR pR wR.1 wR.2
  rw [FR] at e1
  have e2 := hf jS pS wS.1 wS.2
  rw [FS] at e2
  obtain ⟨v', w', hr, hR⟩ := hA W _ _ hw e1 e2
  refine Lib.wp_append_run W (.tmp pR) (.tmp pS) t t hop _ _ rfl rfl v' w' (by rw [hty]; exact hr) ?_
  have hb1 := Based.put hb ho v'
  have ea : (a.put o.dst v').eval (.tmp dA) = v' := by
    rw [hd]
    exact put_at (by rw [hb.2.1]; exact sA)
  have hr2 : (execOp (a.put o.dst v').eval o2).run P w' = .ok (.value v') w' := by
    simp [execOp, hop2, ea]
  have hb2 := Based.put hb1 ho2 v'
  have e3 : ((a.put o.dst v').put o2.dst v').tmps.getD d2 undef = v' := by
    rw [hd2]
    exact put_at (by rw [hb1.2.1]; exact s2)
  show o2.upon P (a.put o.dst v') (fun a'' w3 => Q .normal a'' w3) Q ((execOp (a.put o.dst v').eval o2).run P w')
  rw [hr2, Oper.upon_value]
  show Q .normal ((a.put o.dst v').put o2.dst v') w'
  obtain ⟨vs, hvs⟩ : ∃ vs : Nat → Value, ∀ d, ((a.put o.dst v').put o2.dst v').tmps.getD d undef = vs d := ⟨_, fun _ => rfl⟩
  rw [puts_tail hT rfl hb2 vs hvs]
  exact fin vs w' v' (by rw [← hvs, e3]) hR
/-- A new block of a struct's zero cells. -/
def NBt (b : Nat) (t : TypeId) (zs : List Value) (hz : zs.length ≠ LN) : Fact := ⟨fun v w => ∃ q, v = .pointer (some ⟨q, 0, none⟩) ∧ b ≤ q ∧ RwC w q zs t, fun n h => by
  obtain ⟨q, e, l, r⟩ := h
  refine ⟨q, e, l, ?_⟩
  rcases n.block q r.lt with f | ⟨_, cs, t', m1, m2, hs, f1, f2⟩
  · exact f.trans r
  · have r' : _ = _ := r
    rw [r'] at f1
    injection f1 with f1
    injection f1 with g1 _ _
    rw [← g1] at hs
    exact absurd (by simpa using hs) hz⟩
theorem region_newM {id : Nat} {draw : Bool} {w : World} (k jA jV pA pV : Nat) (o : Oper) (F : Nat → Fact) (t : TypeId) (zs : List Value) (hz : zs.length ≠ LN) (G : Fact) (hm : P.follows .mixedOrders = true) (hT : textOk .any ops a0.tmps.size k = true) (hk : ops[k]? = some o) (hd : o.dst = none)
    (hop : o.op = .store t (.tmp pA) (.tmp pV)) (hi : (P.info? t).map (·.size) = some zs.length) (wA : writes ops jA pA = true) (FA : F jA = NBt w.heap.size t zs hz) (wV : writes ops jV pV = true) (FV : F jV = G)
    (hG : ∀ v W, G.p v W → ∃ cs : List Value, v = .agg cs.toArray ∧ cs.length = zs.length ∧ cs.toArray.all (·.oneCell') = true) (steps : ∀ i, i < k → StepOk P .any ops Q F a0 w i)
    (fin : ∀ (vs : Nat → Value) (W W' : World) (q : Nat) (cs : List Value), vs pA = .pointer (some ⟨q, 0, none⟩) → w.heap.size ≤ q → Below w.heap.size w W → RwC W q zs t → G.p (.agg cs.toArray) W → Only q W W' → RwC W' q cs t → Below w.heap.size w W' → Q .normal (puts vs a0 ops.toList) W') : (Code.region id ops draw).wp P Q a0 w := by
  refine region_store k o F hm hT hk hd steps fun a W hb hw hF => ?_
  have e1 := hF jA pA wA
  have e2 := hF jV pV wV
  rw [FA] at e1
  rw [FV] at e2
  obtain ⟨q, e1, hB, hq⟩ := e1
  obtain ⟨cs, ev, hl, h1⟩ := hG _ _ e2
  have TH : W.there q 0 cs.length := by rw [hl]; exact hq.thereG
  refine wp_store_mid _ (.tmp pA) (.tmp pV) hop q 0 cs.toArray e1 ev (by simpa using TH) (by rw [hi]; simp [hl]) h1 ?_
  obtain ⟨vs, hvs⟩ : ∃ vs : Nat → Value, ∀ d, a.tmps.getD d undef = vs d := ⟨_, fun _ => rfl⟩
  rw [hd]
  show Q .normal a _
  rw [puts_of hT rfl hb vs hvs]
  have OQ := only_setG W q cs 0
  have e2' : G.p (.agg cs.toArray) W := by rw [← ev]; exact e2
  exact fin vs W _ q cs ((hvs pA).symm.trans e1) hB hw.below0 hq e2' OQ (RwC.put hq hl) (hw.below0.trans (OQ.below hB))
end
end Go.Proofs.Ytcljoaknaegpmaa.Mk

/-
  A ticket sealed; the model's (written by gens/sls.py).
-/
namespace Go.Proofs.Ytcljoaknaegpmaa
open Go Go.RowKit

set_option maxRecDepth 100000 in
set_option maxHeartbeats 1600000 in
theorem specSl_any (w : World) (g : Nat) (a : Option Addr) (c : Nat) (key : List Int) (hr : Rd w g a .u8 key) (hb : Byt key) (hc : key.length ≤ c) (g' : Nat) (a' : Option Addr) (c' : Nat) (non : List Int) (hr' : Rd w g' a' .u8 non) (hb' : Byt non) (hz' : a' = none → c' = 0) (hc' : non.length ≤ c')
    (md li : Int) (ho pr : List UInt8) (ea : Int) (gx : Nat) (ax : Option Addr) (cx : Nat) (X : List Int) (hx : Rd w gx ax .u8 X) (bx : Byt X) (zx : ax = none → cx = 0) (gy : Nat) (ay : Option Addr) (cy : Nat) (Y : List Int) (hy : Rd w gy ay .u8 Y) (bY : Byt Y) (zy : ay = none → cy = 0) (hh : ho.length ≤ 1048576) (hp : pr.length ≤ 1048576) :
    Calls Try.prog 6 #[.slice a key.length c, .slice a' non.length c', .agg #[.slice ax X.length cx, .slice ay Y.length cy, .int .i64 md, .int .i64 li, .string ⟨⟨ho⟩⟩, .string ⟨⟨pr⟩⟩, .int .i64 ea]] w fun e w' => ∃ v, e = .returned v ∧ RowB w' w.heap.size v (slA key non (esA X Y md li ho pr ea)) ∧ Below w.heap.size w w' := by
  obtain ⟨i0, hi0, hz0, hz1, hz2⟩ := info_parts Try.info5
  have n1 : Below w.heap.size w (w.alloc (.cells #[.slice ax X.length cx, .slice ay Y.length cy, .int .i64 md, .int .i64 li, .string ⟨⟨ho⟩⟩, .string ⟨⟨pr⟩⟩, .int .i64 ea] 28)) := (Below.refl _ _).alloc (Nat.le_refl _) _
  have P0 : RwC (w.alloc (.cells #[.slice ax X.length cx, .slice ay Y.length cy, .int .i64 md, .int .i64 li, .string ⟨⟨ho⟩⟩, .string ⟨⟨pr⟩⟩, .int .i64 ea] 28)) w.heap.size [.slice ax X.length cx, .slice ay Y.length cy, .int .i64 md, .int .i64 li, .string ⟨⟨ho⟩⟩, .string ⟨⟨pr⟩⟩, .int .i64 ea] 28 := RwC.new w _ _
  have SF := hide (specState_any (w.alloc (.cells #[.slice ax X.length cx, .slice ay Y.length cy, .int .i64 md, .int .i64 li, .string ⟨⟨ho⟩⟩, .string ⟨⟨pr⟩⟩, .int .i64 ea] 28)) md li ho pr ea ax X.length cx ay Y.length cy hh hp)
  have EN := hide (fun W (n : Below w.heap.size w W) => specEnS_any W md li ho pr ea gx ax cx X (hx.up n) zx gy ay cy Y (hy.up n) zy hh hp)
  have BE : Hid (Byt (esA X Y md li ho pr ea)) := byt_esA bx bY _ _ _ _ _
  have EL := hide (esA_len X Y md li ho pr ea)
  have EP := hide (esA_pos X Y md li ho pr ea)
  generalize esA X Y md li ho pr ea = E at *
  clear hx hy bx bY zx zy hh hp
  have e1 : Hid (slA key non E = if 0 < E.length ∧ key.length = 32 ∧ non.length = 12 then non ++ seA key non tkM E else []) := rfl
  by_cases h0 : sfV X.length Y.length md li ho pr.length ea = 0
  · rw [h0] at SF
    have H0 := hide (EP.out.2 h0)
    clear EP h0
    by_cases h1 : key.length = 32
    · have i1 : (key.length : Int) = 32 := by omega
      by_cases h2 : non.length = 12
      · have i2 : (non.length : Int) = 12 := by omega
        have e2 : Hid (slA key non E = non ++ seA key non tkM E) := by show _ = _; rw [e1.out, if_pos ⟨H0.out, h1, h2⟩]
        rw [e2.out]
        clear e1 e2
        have H1 : Hid (key.length = 32 ∧ non.length = 12) := ⟨h1, h2⟩
        have H12 : Mk.LN < non.length := by rw [h2]; decide
        have SE := hide (fun W (n : Below w.heap.size w W) ge ae ce he en g2 a2 c2 h2 => specSeal_any W g a c key (hr.up n) hb hc g' a' c' non (hr'.up n) hb' hc' ge ae ce tkM he tkM_byt en g2 a2 c2 E h2 BE.out (by have := EL.out; show 6 + _ ≤ _; omega))
        have SL := hide (seA_len key non tkM E)
        generalize seA key non tkM E = T at *
        have SLT : Hid (Mk.LN < non.length) := H12
        clear h1 h2
        go_enter Try.func6, Try.ntmps6
        go_wp2_with fail
        generalize w.alloc (.cells #[.slice ax X.length cx, .slice ay Y.length cy, .int .i64 md, .int .i64 li, .string ⟨⟨ho⟩⟩, .string ⟨⟨pr⟩⟩, .int .i64 ea] 28) = wa at *
        refine SF.out.mono ?_
        rintro e w1 ⟨rfl, m1⟩
        have N := nxt n1 m1
        replace P0 := P0.up m1
        clear SF n1 m1
        go_upto_region 3 with fail
        clear i1 i2
        refine Mk.region_appA 9 1 8 22 29 30 6 22 _ _ (fun i => [Mk.Fact.eq (.slice a' non.length c'), Mk.RoF w1.heap.size non H12, Mk.Fact.eq (.slice a key.length c), Mk.Fact.eq (.slice a' non.length c'), Mk.LitF w1.heap.size tkM, Mk.DrF tkM, Mk.Fact.eq (.agg #[.slice ax X.length cx, .slice ay Y.length cy, .int .i64 md, .int .i64 li, .string ⟨⟨ho⟩⟩, .string ⟨⟨pr⟩⟩, .int .i64 ea]), Mk.DrF E, Mk.DrF T].getD i Mk.Fact.no) (Mk.RoF w1.heap.size non H12) (Mk.DrF T) (fun v W => RowB W w1.heap.size v (non ++ T) ∧ Below w1.heap.size w1 W) (by kernel_rfl) (by kernel_rfl) rfl rfl rfl rfl rfl rfl rfl rfl (of_decide_eq_true (by kernel_rfl)) (of_decide_eq_true (by kernel_rfl)) ⟨rfl, by kernel_rfl⟩ rfl ⟨rfl, by kernel_rfl⟩ rfl ?_ ?_ ?_
        · intro i hi
          obtain rfl | rfl | rfl | rfl | rfl | rfl | rfl | rfl | rfl : i = 0 ∨ i = 1 ∨ i = 2 ∨ i = 3 ∨ i = 4 ∨ i = 5 ∨ i = 6 ∨ i = 7 ∨ i = 8 := by omega
          · refine Mk.step_pure rfl fun A ww hb hw hf => ?_
            have e0 : A.tmps[1]?.getD undef = .slice a' non.length c' := gdv (hb.2.2 1 (by kernel_rfl))
            exact ⟨_, by simp [go_sem, e0], rfl⟩
          · refine Mk.step_callv rfl 22 _ _ rfl (by kernel_rfl) fun A ww hb hw hf => ?_
            have e0 : A.tmps.getD 21 undef = .slice a' non.length c' := hf 0 21 (by kernel_rfl)
            show Calls Try.prog 22 #[A.tmps.getD 21 undef] ww _
            rw [e0]
            refine (l1CopyN_any ww g' a' c' non ((hr'.up N).up hw.below0) hz' (by have := H1.out; omega)).mono ?_
            rintro r w' ⟨x, rfl, R, n⟩
            exact ⟨x, rfl, Mk.Gm.of_below n, R.base hw.size⟩
          · refine Mk.step_pure rfl fun A ww hb hw hf => ?_
            have e0 : A.tmps[0]?.getD undef = .slice a key.length c := gdv (hb.2.2 0 (by kernel_rfl))
            exact ⟨_, by simp [go_sem, e0], rfl⟩
          · refine Mk.step_pure rfl fun A ww hb hw hf => ?_
            have e0 : A.tmps[1]?.getD undef = .slice a' non.length c' := gdv (hb.2.2 1 (by kernel_rfl))
            exact ⟨_, by simp [go_sem, e0], rfl⟩
          · refine Mk.step_lit rfl tkM (fun A ww => ?_) rfl
            simp only [execOp]
            kernel_rfl
          · exact Mk.step_mark rfl 22 Try.underlying22 Try.underlying5 tkM rfl 4 25 rfl rfl (by kernel_rfl) rfl
          · refine Mk.step_pure rfl fun A ww hb hw hf => ?_
            have e0 : A.tmps[5]?.getD undef = .pointer (some ⟨w.heap.size, 0, none⟩) := gdv (hb.2.2 5 (by kernel_rfl))
            have hc0 : ww.cell? ⟨w.heap.size, 0, none⟩ = some (.slice ax X.length cx) := (P0.up hw.below0).cell 0
            have hc1 : ww.cell? ⟨w.heap.size, 1, none⟩ = some (.slice ay Y.length cy) := (P0.up hw.below0).cell 1
            have hc2 : ww.cell? ⟨w.heap.size, 2, none⟩ = some (.int .i64 md) := (P0.up hw.below0).cell 2
            have hc3 : ww.cell? ⟨w.heap.size, 3, none⟩ = some (.int .i64 li) := (P0.up hw.below0).cell 3
            have hc4 : ww.cell? ⟨w.heap.size, 4, none⟩ = some (.string ⟨⟨ho⟩⟩) := (P0.up hw.below0).cell 4
            have hc5 : ww.cell? ⟨w.heap.size, 5, none⟩ = some (.string ⟨⟨pr⟩⟩) := (P0.up hw.below0).cell 5
            have hc6 : ww.cell? ⟨w.heap.size, 6, none⟩ = some (.int .i64 ea) := (P0.up hw.below0).cell 6
            exact ⟨.agg #[.slice ax X.length cx, .slice ay Y.length cy, .int .i64 md, .int .i64 li, .string ⟨⟨ho⟩⟩, .string ⟨⟨pr⟩⟩, .int .i64 ea], by simp [go_sem, e0, hc0, hc1, hc2, hc3, hc4, hc5, hc6], rfl⟩
          · refine Mk.step_callv rfl 24 _ _ rfl (by kernel_rfl) fun A ww hb hw hf => ?_
            have e0 : A.tmps.getD 27 undef = .agg #[.slice ax X.length cx, .slice ay Y.length cy, .int .i64 md, .int .i64 li, .string ⟨⟨ho⟩⟩, .string ⟨⟨pr⟩⟩, .int .i64 ea] := hf 6 27 (by kernel_rfl)
            show Calls Try.prog 24 #[A.tmps.getD 27 undef] ww _
            rw [e0]
            refine (EN.out ww (nxt N hw.below0)).mono ?_
            rintro r w' ⟨x, rfl, R, n⟩
            exact ⟨x, rfl, Mk.Gm.of_below n, Mk.DrF.of_row R⟩
          · refine Mk.step_callv rfl 23 _ _ rfl (by kernel_rfl) fun A ww hb hw hf => ?_
            have e0 : A.tmps.getD 23 undef = .slice a key.length c := hf 2 23 (by kernel_rfl)
            have e1 : A.tmps.getD 24 undef = .slice a' non.length c' := hf 3 24 (by kernel_rfl)
            obtain ⟨x1, x2, x3, e2, x5, x6, x7⟩ : (Mk.DrF tkM).p (A.tmps.getD 26 undef) ww := hf 5 26 (by kernel_rfl)
            obtain ⟨y1, y2, y3, e3, y5, y6, y7⟩ : (Mk.DrF E).p (A.tmps.getD 28 undef) ww := hf 7 28 (by kernel_rfl)
            show Calls Try.prog 23 #[A.tmps.getD 23 undef, A.tmps.getD 24 undef, A.tmps.getD 26 undef, A.tmps.getD 28 undef] ww _
            rw [e0, e1, e2, e3]
            refine (SE.out ww (nxt N hw.below0) x3 x1 x2 x5 x6 y3 y1 y2 y5).mono ?_
            rintro r w' ⟨⟨x, rfl, R⟩, n⟩
            exact ⟨x, rfl, Mk.Gm.of_below n, Mk.DrF.of_row R⟩
        · rintro W vR vS hw RR ⟨s1, s2, s3, rfl, s5, s6, s7⟩
          obtain ⟨v', w', h1, h2, h3⟩ := append_any (P := Try.prog) W 22 i0 Try.underlying22 hi0 hz0 hz1 hz2 w1.heap.size w1.heap.size vR non RR s3 s1 s2 T s5 s6 (by have := SL.out; have := H1.out; have := EL.out; omega) (Nat.le_refl _) hw.size
          exact ⟨v', w', h1, h2, hw.below0.trans h3⟩
        · intro vs W v' hv hR
          obtain ⟨R6, N6⟩ := hR
          simp only [Mk.puts, hv, Act.put, List.setIfInBounds_toArray, List.set_cons_succ, List.set_cons_zero]
          have zz := N.size
          have NF := nxt N N6
          clear EN SE hr hr' P0 hv
          generalize hv21 : vs 21 = y21 at *
          generalize vs 22 = y22 at *
          generalize vs 23 = y23 at *
          generalize vs 24 = y24 at *
          generalize vs 25 = y25 at *
          generalize vs 26 = y26 at *
          generalize vs 27 = y27 at *
          generalize vs 28 = y28 at *
          generalize vs 29 = y29 at *
          generalize vs 30 = y30 at *
          go_wp2
          go_ret
          exact ⟨_, rfl, R6.base zz, NF⟩
      · have i2 : ¬ (non.length : Int) = 12 := by omega
        have e2 : Hid (slA key non E = []) := by show _ = _; rw [e1.out, if_neg (fun q => h2 q.2.2)]
        rw [e2.out]
        clear e1 e2
        go_enter Try.func6, Try.ntmps6
        go_wp2_with fail
        generalize w.alloc (.cells #[.slice ax X.length cx, .slice ay Y.length cy, .int .i64 md, .int .i64 li, .string ⟨⟨ho⟩⟩, .string ⟨⟨pr⟩⟩, .int .i64 ea] 28) = wa at *
        refine SF.out.mono ?_
        rintro e w1 ⟨rfl, m1⟩
        have N := nxt n1 m1
        go_wp2
        go_ret
        exact ⟨_, rfl, (RowB.lit0 w1).base N.size, N.trans (((Below.refl _ _).alloc (Nat.le_refl _) _).mono N.size)⟩
    · have i1 : ¬ (key.length : Int) = 32 := by omega
      have e2 : Hid (slA key non E = []) := by show _ = _; rw [e1.out, if_neg (fun q => h1 q.2.1)]
      rw [e2.out]
      clear e1 e2
      go_enter Try.func6, Try.ntmps6
      go_wp2_with fail
      generalize w.alloc (.cells #[.slice ax X.length cx, .slice ay Y.length cy, .int .i64 md, .int .i64 li, .string ⟨⟨ho⟩⟩, .string ⟨⟨pr⟩⟩, .int .i64 ea] 28) = wa at *
      refine SF.out.mono ?_
      rintro e w1 ⟨rfl, m1⟩
      have N := nxt n1 m1
      go_wp2
      go_ret
      exact ⟨_, rfl, (RowB.lit0 w1).base N.size, N.trans (((Below.refl _ _).alloc (Nat.le_refl _) _).mono N.size)⟩
  · have e2 : Hid (slA key non E = []) := by show _ = _; rw [e1.out, if_neg (fun q => h0 (EP.out.1 q.1))]
    generalize sfV X.length Y.length md li ho pr.length ea = R at *
    rw [e2.out]
    clear e1 e2
    go_enter Try.func6, Try.ntmps6
    go_wp2_with fail
    generalize w.alloc (.cells #[.slice ax X.length cx, .slice ay Y.length cy, .int .i64 md, .int .i64 li, .string ⟨⟨ho⟩⟩, .string ⟨⟨pr⟩⟩, .int .i64 ea] 28) = wa at *
    refine SF.out.mono ?_
    rintro e w1 ⟨rfl, m1⟩
    have N := nxt n1 m1
    go_wp2
    go_ret
    exact ⟨_, rfl, (RowB.lit0 w1).base N.size, N.trans (((Below.refl _ _).alloc (Nat.le_refl _) _).mono N.size)⟩
end Go.Proofs.Ytcljoaknaegpmaa

/-
  What a list of bytes in a statement's frame gives, with its length's bound.
-/
namespace Go.Proofs.Ytcljoaknaegpmaa
open Go Go.RowKit

theorem rd_of_row3 {w : World} {a : Option Addr} {len cap : Nat} {zs : List Int}
    (h : (a = none ∧ len = 0 ∧ cap = 0 ∧ zs = []) ∨ ∃ x, a = some x ∧ len ≤ cap ∧ cap ≤ maxLen ∧ zs.length = cap ∧ (∀ i, i < zs.length → w.cell? (x.add i) = some (.int .u8 (zs.getD i 0))) ∧ ∀ n ∈ zs, (Lit.int .u8 n).wf = true) :
    ∃ (g : Nat) (xs : List Int), xs.length = len ∧ Rd w g a .u8 xs ∧ Byt xs ∧ xs.length < 9223372036854775808 := by
  obtain ⟨g, xs, hl, r, b⟩ := rd_of_row h
  refine ⟨g, xs, hl, r, b, ?_⟩
  rcases h with ⟨_, h, _⟩ | ⟨_, _, h1, h2, _⟩
  · omega
  · have : maxLen = 9223372036854775807 := rfl
    omega
end Go.Proofs.Ytcljoaknaegpmaa

/-
  The law of SealTicket (written by gens/lx.py).
-/
namespace Go.Proofs.Ytcljoaknaegpmaa
open Go Go.RowKit

set_option maxHeartbeats 8000000 in
theorem slt_law (w : World) (g0 : Nat) (a0 : Option Addr) (c0 : Nat) (X0 : List Int) (hX0 : Rd w g0 a0 .u8 X0) (bX0 : Byt X0) (lX0 : X0.length < 9223372036854775808) (g1 : Nat) (a1 : Option Addr) (c1 : Nat) (X1 : List Int) (hX1 : Rd w g1 a1 .u8 X1) (bX1 : Byt X1) (lX1 : X1.length < 9223372036854775808) (g2 : Nat) (a2 : Option Addr) (c2 : Nat) (X2 : List Int) (hX2 : Rd w g2 a2 .u8 X2) (bX2 : Byt X2) (lX2 : X2.length < 9223372036854775808) (g2' : Nat) (a2' : Option Addr) (c2' : Nat) (X2' : List Int) (hX2' : Rd w g2' a2' .u8 X2') (bX2' : Byt X2') (lX2' : X2'.length < 9223372036854775808) (n2 : Int) (_bn2 : (Lit.int .i64 n2).wf = true) (n2' : Int) (_bn2' : (Lit.int .i64 n2').wf = true) (t2 : ByteArray) (wt2 : t2.size ≤ maxLen) (t2' : ByteArray) (wt2' : t2'.size ≤ maxLen) (n2'' : Int) (_bn2'' : (Lit.int .i64 n2'').wf = true) :
    Calls Try.prog 3 #[.slice a0 X0.length c0, .slice a1 X1.length c1, .agg #[.slice a2 X2.length c2, .slice a2' X2'.length c2', .int .i64 n2, .int .i64 n2', .string t2, .string t2', .int .i64 n2'']] w fun e w' => e = .returned (.bool true) ∧ Below w.heap.size w w' := by
  have lt2 : t2.size < 9223372036854775808 := by unfold maxLen at wt2; omega
  clear wt2
  have lt2' : t2'.size < 9223372036854775808 := by unfold maxLen at wt2'; omega
  clear wt2'
  by_cases q0 : X0.length ≤ 1048576
  · have u0 : decide ((1048576 : Int) < (X0.length : Int)) = false := by simp; omega
    by_cases q1 : X1.length ≤ 1048576
    · have u1 : decide ((1048576 : Int) < (X1.length : Int)) = false := by simp; omega
      by_cases qs : X2.length + X2'.length + t2.size + t2'.size ≤ 1048576
      · skip
        have SZ := fun W => hide (szTicketState_any W n2 n2' t2 t2' n2'' a2 X2.length c2 a2' X2'.length c2' 1048576 lX2 lX2' lt2 lt2' (by decide) (by decide))
        simp only [if_neg (show ¬ ((1048576 : Int) < (X2.length : Int) + (X2'.length : Int) + (t2.size : Int) + (t2'.size : Int)) by omega)] at SZ
        have us : decide ((1048576 : Int) - (X2.length : Int) - (X2'.length : Int) - (t2.size : Int) - (t2'.size : Int) < 0) = false := by simp; omega
        have h4 : t2.data.toList.length ≤ 1048576 := by show t2.size ≤ _; omega
        have h5 : t2'.data.toList.length ≤ 1048576 := by show t2'.size ≤ _; omega
        have SP : ∀ W g a c, Rd W g a .u8 X0 → (a = none → c = 0) → X0.length ≤ c → ∀ g' a' c', Rd W g' a' .u8 X1 → (a' = none → c' = 0) → X1.length ≤ c' → ∀ gx ax cx, Rd W gx ax .u8 X2 → (ax = none → cx = 0) → X2.length ≤ cx → ∀ gy ay cy, Rd W gy ay .u8 X2' → (ay = none → cy = 0) → X2'.length ≤ cy → Calls Try.prog 6 #[.slice a X0.length c, .slice a' X1.length c', .agg #[.slice ax X2.length cx, .slice ay X2'.length cy, .int .i64 n2, .int .i64 n2', .string t2, .string t2', .int .i64 n2'']] W fun e w' => NewRow W.heap.size w' e .u8 (slA X0 X1 (esA X2 X2' n2 n2' t2.data.toList t2'.data.toList n2'')) ∧ Below W.heap.size W w' := fun W g a c h _ k g' a' c' h' p' k' gx ax cx hx px _ gy ay cy hy py _ => (specSl_any W g a c X0 h bX0 k g' a' c' X1 h' bX1 p' k' n2 n2' t2.data.toList t2'.data.toList n2'' gx ax cx X2 hx bX2 px gy ay cy X2' hy bX2' py h4 h5).mono (by rintro e w' ⟨v, rfl, R, n⟩; obtain ⟨x1, x2, x3, rfl, x4⟩ := R.own; exact ⟨⟨x1, x2, x3, rfl, x4⟩, n⟩)
        have IM : ∀ W g a c, Rd W g a .u8 X0 → (a = none → c = 0) → X0.length ≤ c → ∀ g' a' c', Rd W g' a' .u8 X1 → (a' = none → c' = 0) → X1.length ≤ c' → ∀ gx ax cx, Rd W gx ax .u8 X2 → (ax = none → cx = 0) → X2.length ≤ cx → ∀ gy ay cy, Rd W gy ay .u8 X2' → (ay = none → cy = 0) → X2'.length ≤ cy → Below w.heap.size w W → Calls Try.prog 9 #[.slice a X0.length c, .slice a' X1.length c', .agg #[.slice ax X2.length cx, .slice ay X2'.length cy, .int .i64 n2, .int .i64 n2', .string t2, .string t2', .int .i64 n2'']] W fun e w' => NewRow W.heap.size w' e .u8 (slA X0 X1 (esA X2 X2' n2 n2' t2.data.toList t2'.data.toList n2'')) ∧ Below W.heap.size W w' := fun W g a c h _ k g' a' c' h' p' k' gx ax cx hx px _ gy ay cy hy py _ _ => (implSl_any W g a c X0 h bX0 k g' a' c' X1 h' bX1 p' k' n2 n2' t2.data.toList t2'.data.toList n2'' gx ax cx X2 hx bX2 px gy ay cy X2' hy bX2' py h4 h5).mono (by rintro e w' ⟨v, rfl, R, n⟩; obtain ⟨x1, x2, x3, rfl, x4⟩ := R.own; exact ⟨⟨x1, x2, x3, rfl, x4⟩, n⟩)
        clear h4 h5
        have hy : (slA X0 X1 (esA X2 X2' n2 n2' t2.data.toList t2'.data.toList n2'')).length ≤ 1048576 := Nat.le_trans (slA_len _ _ _ (esA_len _ _ _ _ _ _ _)) (by decide)
        obtain ⟨ys, hys⟩ : ∃ ys, ys = slA X0 X1 (esA X2 X2' n2 n2' t2.data.toList t2'.data.toList n2'') := ⟨_, rfl⟩
        simp only [← hys] at SP IM hy
        clear hys
        go_enter Try.func3, Try.ntmps3
        go_upto_region 1 with fail
        have B : RwC (w.alloc (.cells #[.slice a2 X2.length c2, .slice a2' X2'.length c2', .int .i64 n2, .int .i64 n2', .string t2, .string t2', .int .i64 n2''] 24)) w.heap.size [.slice a2 X2.length c2, .slice a2' X2'.length c2', .int .i64 n2, .int .i64 n2', .string t2, .string t2', .int .i64 n2''] 24 := RwC.new w _ _
        have N : Below w.heap.size w (w.alloc (.cells #[.slice a2 X2.length c2, .slice a2' X2'.length c2', .int .i64 n2, .int .i64 n2', .string t2, .string t2', .int .i64 n2''] 24)) := (Below.refl _ _).alloc (Nat.le_refl _) _
        have zN : (w.alloc (.cells #[.slice a2 X2.length c2, .slice a2' X2'.length c2', .int .i64 n2, .int .i64 n2', .string t2, .string t2', .int .i64 n2''] 24)).heap.size = w.heap.size + 1 := by simp
        generalize w.alloc (.cells #[.slice a2 X2.length c2, .slice a2' X2'.length c2', .int .i64 n2, .int .i64 n2', .string t2, .string t2', .int .i64 n2''] 24) = w0 at *
        have lB : w.heap.size < w0.heap.size := by omega
        clear zN
        have Bc0 := B.cell 0
        have Bc1 := B.cell 1
        have Bc2 := B.cell 2
        have Bc3 := B.cell 3
        have Bc4 := B.cell 4
        have Bc5 := B.cell 5
        have Bc6 := B.cell 6
        go_wp2_with fail
        refine ((SZ w0).out).mono ?_
        rintro e w1 ⟨rfl, m1⟩
        have zm1 := m1.size
        clear Bc0 Bc1 Bc2 Bc3 Bc4 Bc5 Bc6
        replace B := B.up m1
        replace N := nxt N m1
        clear m1
        go_upto_region 9 with fail
        have CY : Hid (∀ W, Below w1.heap.size w1 W → (W.cell? ⟨w.heap.size, 0, none⟩ = some (.slice a2 X2.length c2) ∧ W.cell? ⟨w.heap.size, 1, none⟩ = some (.slice a2' X2'.length c2') ∧ W.cell? ⟨w.heap.size, 2, none⟩ = some (.int .i64 n2) ∧ W.cell? ⟨w.heap.size, 3, none⟩ = some (.int .i64 n2') ∧ W.cell? ⟨w.heap.size, 4, none⟩ = some (.string t2) ∧ W.cell? ⟨w.heap.size, 5, none⟩ = some (.string t2') ∧ W.cell? ⟨w.heap.size, 6, none⟩ = some (.int .i64 n2''))) := fun W m => ⟨(B.up m).cell 0, (B.up m).cell 1, (B.up m).cell 2, (B.up m).cell 3, (B.up m).cell 4, (B.up m).cell 5, (B.up m).cell 6⟩
        have nd : Below w1.heap.size w1 w1.drew := (Below.refl _ _).drew
        have TB0 : Hid (∀ W, Below w1.heap.size w1 W → Calls Try.prog 7 #[.slice a0 X0.length c0] W fun e w' => ∃ q, e = .returned (.slice (some ⟨q, 0, none⟩) X0.length X0.length) ∧ Blk w' q .u8 X0 ∧ Below W.heap.size W w') := fun W m => (toByteS_any W g0 a0 c0 X0 ((hX0.up N).up m) q0).mono (by
          rintro e w' ⟨rfl, k, l⟩
          exact ⟨_, rfl, k, l⟩)
        have TB1 : Hid (∀ W, Below w1.heap.size w1 W → Calls Try.prog 7 #[.slice a1 X1.length c1] W fun e w' => ∃ q, e = .returned (.slice (some ⟨q, 0, none⟩) X1.length X1.length) ∧ Blk w' q .u8 X1 ∧ Below W.heap.size W w') := fun W m => (toByteS_any W g1 a1 c1 X1 ((hX1.up N).up m) q1).mono (by
          rintro e w' ⟨rfl, k, l⟩
          exact ⟨_, rfl, k, l⟩)
        have TT : Hid (∀ W, Below w1.heap.size w1 W → Calls Try.prog 8 #[.agg #[.slice a2 X2.length c2, .slice a2' X2'.length c2', .int .i64 n2, .int .i64 n2', .string t2, .string t2', .int .i64 n2'']] W fun e w' => ∃ f2 f2', e = .returned (.agg #[.slice (some ⟨f2, 0, none⟩) X2.length X2.length, .slice (some ⟨f2', 0, none⟩) X2'.length X2'.length, .int .i64 n2, .int .i64 n2', .string t2, .string t2', .int .i64 n2'']) ∧ Blk w' f2 .u8 X2 ∧ Blk w' f2' .u8 X2' ∧ Below W.heap.size W w') := fun W m => (toTicketState_any W n2 n2' t2 t2' n2'' g2 a2 c2 X2 g2' a2' c2' X2' ((hX2.up N).up m) ((hX2'.up N).up m) (by omega) (by omega)).mono (by
          rintro e w' ⟨f2, f2', rfl, h2, h2', _, _, l⟩
          exact ⟨f2, f2', rfl, h2, h2', l⟩)
        go_region_held3 (fun W => W.cell? ⟨w.heap.size, 0, none⟩ = some (.slice a2 X2.length c2) ∧ W.cell? ⟨w.heap.size, 1, none⟩ = some (.slice a2' X2'.length c2') ∧ W.cell? ⟨w.heap.size, 2, none⟩ = some (.int .i64 n2) ∧ W.cell? ⟨w.heap.size, 3, none⟩ = some (.int .i64 n2') ∧ W.cell? ⟨w.heap.size, 4, none⟩ = some (.string t2) ∧ W.cell? ⟨w.heap.size, 5, none⟩ = some (.string t2') ∧ W.cell? ⟨w.heap.size, 6, none⟩ = some (.int .i64 n2''))
          (first | exact (unhide CY) _ m2 | exact (unhide CY) _ b3 | exact (unhide CY) _ b2 | exact (unhide CY) _ b1 | exact (unhide CY) _ nd)
          (first
            | (go_at_call 6; refine (SP v3 _ _ _ mB0.own0.rd (by simp) (Nat.le_refl _) _ _ _ mB1.own0.rd (by simp) (Nat.le_refl _) _ _ _ mB2.own0.rd (by simp) (Nat.le_refl _) _ _ _ mB2'.own0.rd (by simp) (Nat.le_refl _)).mono ?_; rintro r w2 ⟨⟨aoS, coS, goS, rfl, oS, poS, koS, roS⟩, l4⟩; (have m2 := nxt b3 l4))
            | (go_at_call 8; refine ((unhide TT) _ b2).mono ?_; rintro r v3 ⟨m2, m2', rfl, mB2, mB2', l3⟩; (have b3 := nxt b2 l3); (replace mB0 := mB0.up l3); (replace mB1 := mB1.up l3))
            | (go_at_call 7; refine ((unhide TB1) _ b1).mono ?_; rintro r v2 ⟨m1, rfl, mB1, l2⟩; (have b2 := nxt b1 l2); (replace mB0 := mB0.up l2))
            | (go_at_call 7; refine ((unhide TB0) _ nd).mono ?_; rintro r v1 ⟨m0, rfl, mB0, l1⟩; (have b1 := nxt nd l1))
            | fail)
        have zm2 := m2.size
        have zbm2 := b3.size
        have loS := oS.rd.lt
        clear poS koS nd CY b1 b2 b3 l1 l2 l3 l4 mB0 mB1 mB2 mB2' TB0 TB1 TT
        replace B := B.up m2
        replace N := nxt N m2
        clear m2
        go_wp2_with fail
        refine (toByteS_any w2 g0 a0 c0 X0 (hX0.up N) q0).mono ?_
        rintro e w3 ⟨rfl, xB0, m3⟩
        have zm3 := m3.size
        replace B := B.up m3
        replace oS := oS.up m3
        replace N := nxt N m3
        clear m3
        obtain ⟨x0, ex0⟩ : ∃ b, b = w2.heap.size := ⟨_, rfl⟩
        rw [← ex0] at xB0 ⊢
        have lxB0 := xB0.lt
        have yxB0 : w2.heap.size ≤ x0 := Nat.le_of_eq ex0.symm
        clear ex0
        go_wp2_with fail
        refine (toByteS_any w3 g1 a1 c1 X1 (hX1.up N) q1).mono ?_
        rintro e w4 ⟨rfl, xB1, m4⟩
        have zm4 := m4.size
        replace B := B.up m4
        replace oS := oS.up m4
        replace xB0 := xB0.up m4
        replace N := nxt N m4
        clear m4
        obtain ⟨x1, ex1⟩ : ∃ b, b = w3.heap.size := ⟨_, rfl⟩
        rw [← ex1] at xB1 ⊢
        have lxB1 := xB1.lt
        have yxB1 : w3.heap.size ≤ x1 := Nat.le_of_eq ex1.symm
        clear ex1
        have Bc0 := B.cell 0
        have Bc1 := B.cell 1
        have Bc2 := B.cell 2
        have Bc3 := B.cell 3
        have Bc4 := B.cell 4
        have Bc5 := B.cell 5
        have Bc6 := B.cell 6
        go_wp2_with fail
        refine (toTicketState_any w4 n2 n2' t2 t2' n2'' g2 a2 c2 X2 g2' a2' c2' X2' (hX2.up N) (hX2'.up N) (by omega) (by omega)).mono ?_
        rintro e w5 ⟨x2, x2', rfl, xB2, xB2', yxB2, yxB2', m5⟩
        have zm5 := m5.size
        clear Bc0 Bc1 Bc2 Bc3 Bc4 Bc5 Bc6
        replace B := B.up m5
        replace oS := oS.up m5
        replace xB0 := xB0.up m5
        replace xB1 := xB1.up m5
        replace N := nxt N m5
        clear m5
        have lxB2 := xB2.lt
        have lxB2' := xB2'.lt
        have Tx : RwC (w5.alloc (.cells #[.slice (some ⟨x2, 0, none⟩) X2.length X2.length, .slice (some ⟨x2', 0, none⟩) X2'.length X2'.length, .int .i64 n2, .int .i64 n2', .string t2, .string t2', .int .i64 n2''] 28)) w5.heap.size [.slice (some ⟨x2, 0, none⟩) X2.length X2.length, .slice (some ⟨x2', 0, none⟩) X2'.length X2'.length, .int .i64 n2, .int .i64 n2', .string t2, .string t2', .int .i64 n2''] 28 := RwC.new w5 _ _
        have m6 : Below w5.heap.size w5 (w5.alloc (.cells #[.slice (some ⟨x2, 0, none⟩) X2.length X2.length, .slice (some ⟨x2', 0, none⟩) X2'.length X2'.length, .int .i64 n2, .int .i64 n2', .string t2, .string t2', .int .i64 n2''] 28)) := (Below.refl _ _).alloc (Nat.le_refl _) _
        have zm6 := m6.size
        obtain ⟨pTx, eTx⟩ : ∃ b, b = w5.heap.size := ⟨_, rfl⟩
        have yTx : w5.heap.size ≤ pTx := Nat.le_of_eq eTx.symm
        replace B := B.up m6
        replace oS := oS.up m6
        replace xB0 := xB0.up m6
        replace xB1 := xB1.up m6
        replace xB2 := xB2.up m6
        replace xB2' := xB2'.up m6
        replace N := nxt N m6
        clear m6
        have Txc0 := Tx.cell 0
        have Txc1 := Tx.cell 1
        have Txc2 := Tx.cell 2
        have Txc3 := Tx.cell 3
        have Txc4 := Tx.cell 4
        have Txc5 := Tx.cell 5
        have Txc6 := Tx.cell 6
        go_wp2_with fail
        generalize w5.alloc (.cells #[.slice (some ⟨x2, 0, none⟩) X2.length X2.length, .slice (some ⟨x2', 0, none⟩) X2'.length X2'.length, .int .i64 n2, .int .i64 n2', .string t2, .string t2', .int .i64 n2''] 28) = w6 at *
        rw [← eTx] at Tx ⊢
        have lTx := Tx.lt
        clear eTx
        refine (IM w6 _ _ _ xB0.own0.rd (by simp) (Nat.le_refl _) _ _ _ xB1.own0.rd (by simp) (Nat.le_refl _) _ _ _ xB2.own0.rd (by simp) (Nat.le_refl _) _ _ _ xB2'.own0.rd (by simp) (Nat.le_refl _) N).mono ?_
        rintro e w7 ⟨⟨aoI, coI, goI, rfl, oI, poI, koI, roI⟩, m7⟩
        have zm7 := m7.size
        clear Txc0 Txc1 Txc2 Txc3 Txc4 Txc5 Txc6
        replace B := B.up m7
        replace oS := oS.up m7
        replace xB0 := xB0.up m7
        replace xB1 := xB1.up m7
        replace xB2 := xB2.up m7
        replace xB2' := xB2'.up m7
        replace Tx := Tx.up m7
        replace N := nxt N m7
        clear m7
        have loI := oI.rd.lt
        clear poI koI
        go_wp2_with fail
        refine (eqByteS_same w7 _ _ _ _ _ _ ys oI.rd oS.rd hy).mono ?_
        rintro e w8 ⟨rfl, m8⟩
        have zm8 := m8.size
        replace B := B.up m8
        replace oS := oS.up m8
        replace xB0 := xB0.up m8
        replace xB1 := xB1.up m8
        replace xB2 := xB2.up m8
        replace xB2' := xB2'.up m8
        replace Tx := Tx.up m8
        replace oI := oI.up m8
        replace N := nxt N m8
        clear m8
        go_wp2_with fail
        refine (toByteS_any w8 g0 a0 c0 X0 (hX0.up N) q0).mono ?_
        rintro e w9 ⟨rfl, eB0, m9⟩
        have zm9 := m9.size
        replace B := B.up m9
        replace oS := oS.up m9
        replace xB0 := xB0.up m9
        replace xB1 := xB1.up m9
        replace xB2 := xB2.up m9
        replace xB2' := xB2'.up m9
        replace Tx := Tx.up m9
        replace oI := oI.up m9
        replace N := nxt N m9
        clear m9
        obtain ⟨e0, ee0⟩ : ∃ b, b = w8.heap.size := ⟨_, rfl⟩
        rw [← ee0] at eB0 ⊢
        have leB0 := eB0.lt
        have yeB0 : w8.heap.size ≤ e0 := Nat.le_of_eq ee0.symm
        clear ee0
        go_wp2_with fail
        refine (eqByteS_same w9 _ _ _ _ _ _ X0 xB0.own0.rd eB0.own0.rd q0).mono ?_
        rintro e w10 ⟨rfl, m10⟩
        have zm10 := m10.size
        replace B := B.up m10
        replace oS := oS.up m10
        replace xB0 := xB0.up m10
        replace xB1 := xB1.up m10
        replace xB2 := xB2.up m10
        replace xB2' := xB2'.up m10
        replace Tx := Tx.up m10
        replace oI := oI.up m10
        replace eB0 := eB0.up m10
        replace N := nxt N m10
        clear m10
        clear eB0
        go_wp2_with fail
        refine (toByteS_any w10 g1 a1 c1 X1 (hX1.up N) q1).mono ?_
        rintro e w11 ⟨rfl, eB1, m11⟩
        have zm11 := m11.size
        replace B := B.up m11
        replace oS := oS.up m11
        replace xB0 := xB0.up m11
        replace xB1 := xB1.up m11
        replace xB2 := xB2.up m11
        replace xB2' := xB2'.up m11
        replace Tx := Tx.up m11
        replace oI := oI.up m11
        replace N := nxt N m11
        clear m11
        obtain ⟨e1, ee1⟩ : ∃ b, b = w10.heap.size := ⟨_, rfl⟩
        rw [← ee1] at eB1 ⊢
        have leB1 := eB1.lt
        have yeB1 : w10.heap.size ≤ e1 := Nat.le_of_eq ee1.symm
        clear ee1
        go_wp2_with fail
        refine (eqByteS_same w11 _ _ _ _ _ _ X1 xB1.own0.rd eB1.own0.rd q1).mono ?_
        rintro e w12 ⟨rfl, m12⟩
        have zm12 := m12.size
        replace B := B.up m12
        replace oS := oS.up m12
        replace xB0 := xB0.up m12
        replace xB1 := xB1.up m12
        replace xB2 := xB2.up m12
        replace xB2' := xB2'.up m12
        replace Tx := Tx.up m12
        replace oI := oI.up m12
        replace eB1 := eB1.up m12
        replace N := nxt N m12
        clear m12
        clear eB1
        go_upto_region 20 with fail
        have CY : Hid (∀ W, Below w12.heap.size w12 W → (W.cell? ⟨pTx, 0, none⟩ = some (.slice (some ⟨x2, 0, none⟩) X2.length X2.length) ∧ W.cell? ⟨pTx, 1, none⟩ = some (.slice (some ⟨x2', 0, none⟩) X2'.length X2'.length) ∧ W.cell? ⟨pTx, 2, none⟩ = some (.int .i64 n2) ∧ W.cell? ⟨pTx, 3, none⟩ = some (.int .i64 n2') ∧ W.cell? ⟨pTx, 4, none⟩ = some (.string t2) ∧ W.cell? ⟨pTx, 5, none⟩ = some (.string t2') ∧ W.cell? ⟨pTx, 6, none⟩ = some (.int .i64 n2'') ∧ W.cell? ⟨w.heap.size, 0, none⟩ = some (.slice a2 X2.length c2) ∧ W.cell? ⟨w.heap.size, 1, none⟩ = some (.slice a2' X2'.length c2') ∧ W.cell? ⟨w.heap.size, 2, none⟩ = some (.int .i64 n2) ∧ W.cell? ⟨w.heap.size, 3, none⟩ = some (.int .i64 n2') ∧ W.cell? ⟨w.heap.size, 4, none⟩ = some (.string t2) ∧ W.cell? ⟨w.heap.size, 5, none⟩ = some (.string t2') ∧ W.cell? ⟨w.heap.size, 6, none⟩ = some (.int .i64 n2''))) := fun W m => ⟨(Tx.up m).cell 0, (Tx.up m).cell 1, (Tx.up m).cell 2, (Tx.up m).cell 3, (Tx.up m).cell 4, (Tx.up m).cell 5, (Tx.up m).cell 6, (B.up m).cell 0, (B.up m).cell 1, (B.up m).cell 2, (B.up m).cell 3, (B.up m).cell 4, (B.up m).cell 5, (B.up m).cell 6⟩
        have TO : Hid (∀ W, Below w12.heap.size w12 W → Calls Try.prog 8 #[.agg #[.slice a2 X2.length c2, .slice a2' X2'.length c2', .int .i64 n2, .int .i64 n2', .string t2, .string t2', .int .i64 n2'']] W fun e w' => ∃ f2 f2', e = .returned (.agg #[.slice (some ⟨f2, 0, none⟩) X2.length X2.length, .slice (some ⟨f2', 0, none⟩) X2'.length X2'.length, .int .i64 n2, .int .i64 n2', .string t2, .string t2', .int .i64 n2'']) ∧ Blk w' f2 .u8 X2 ∧ Blk w' f2' .u8 X2' ∧ Below w12.heap.size w12 w') := fun W m => (toTicketState_any W n2 n2' t2 t2' n2'' g2 a2 c2 X2 g2' a2' c2' X2' ((hX2.up N).up m) ((hX2'.up N).up m) (by omega) (by omega)).mono (by
          rintro e w' ⟨f2, f2', rfl, h2, h2', _, _, l⟩
          exact ⟨f2, f2', rfl, h2, h2', nxt m l⟩)
        have EQ : Hid (∀ W f2 f2', Below w12.heap.size w12 W → Blk W f2 .u8 X2 → Blk W f2' .u8 X2' → Calls Try.prog 11 #[.agg #[.slice (some ⟨x2, 0, none⟩) X2.length X2.length, .slice (some ⟨x2', 0, none⟩) X2'.length X2'.length, .int .i64 n2, .int .i64 n2', .string t2, .string t2', .int .i64 n2''], .agg #[.slice (some ⟨f2, 0, none⟩) X2.length X2.length, .slice (some ⟨f2', 0, none⟩) X2'.length X2'.length, .int .i64 n2, .int .i64 n2', .string t2, .string t2', .int .i64 n2'']] W fun e w' => e = .returned (.bool true) ∧ Below w12.heap.size w12 w') := fun W f2 f2' m h2 h2' => (eqTicketState_same W n2 n2' t2 t2' n2'' _ _ _ _ _ _ X2 (xB2.up m).own0.rd h2.own0.rd (by omega) _ _ _ _ _ _ X2' (xB2'.up m).own0.rd h2'.own0.rd (by omega)).mono (by
          rintro e w' ⟨rfl, l⟩
          exact ⟨rfl, nxt m l⟩)
        have nd : Below w12.heap.size w12 w12.drew := (Below.refl _ _).drew
        go_region_held3 (fun W => W.cell? ⟨pTx, 0, none⟩ = some (.slice (some ⟨x2, 0, none⟩) X2.length X2.length) ∧ W.cell? ⟨pTx, 1, none⟩ = some (.slice (some ⟨x2', 0, none⟩) X2'.length X2'.length) ∧ W.cell? ⟨pTx, 2, none⟩ = some (.int .i64 n2) ∧ W.cell? ⟨pTx, 3, none⟩ = some (.int .i64 n2') ∧ W.cell? ⟨pTx, 4, none⟩ = some (.string t2) ∧ W.cell? ⟨pTx, 5, none⟩ = some (.string t2') ∧ W.cell? ⟨pTx, 6, none⟩ = some (.int .i64 n2'') ∧ W.cell? ⟨w.heap.size, 0, none⟩ = some (.slice a2 X2.length c2) ∧ W.cell? ⟨w.heap.size, 1, none⟩ = some (.slice a2' X2'.length c2') ∧ W.cell? ⟨w.heap.size, 2, none⟩ = some (.int .i64 n2) ∧ W.cell? ⟨w.heap.size, 3, none⟩ = some (.int .i64 n2') ∧ W.cell? ⟨w.heap.size, 4, none⟩ = some (.string t2) ∧ W.cell? ⟨w.heap.size, 5, none⟩ = some (.string t2') ∧ W.cell? ⟨w.heap.size, 6, none⟩ = some (.int .i64 n2''))
          (first | exact (unhide CY) _ m13 | exact (unhide CY) _ bt | exact (unhide CY) _ nd)
          (first
            | (go_at_call 11; refine ((unhide EQ) _ _ _ bt ft2 ft2').mono ?_; rintro r w13 ⟨rfl, m13⟩)
            | (go_at_call 8; refine ((unhide TO) _ nd).mono ?_; rintro r wt ⟨f2, f2', rfl, ft2, ft2', bt⟩)
            | fail)
        have zm13 := m13.size
        clear bt nd CY TO EQ ft2 ft2'
        replace B := B.up m13
        replace oS := oS.up m13
        replace xB0 := xB0.up m13
        replace xB1 := xB1.up m13
        replace xB2 := xB2.up m13
        replace xB2' := xB2'.up m13
        replace Tx := Tx.up m13
        replace oI := oI.up m13
        replace N := nxt N m13
        clear m13
        go_wp2_with fail
        refine (markByteS_any w13 _ _ _ X0 (1) xB0.own0 q0 (by omega) (by omega)).mono ?_
        rintro e w14 ⟨rfl, _, O⟩
        have O := Tch.of_only O
        clear xB0
        replace B := B.tch O (by simp; omega)
        replace oS := oS.tch O (fun h => by have := loS h; simp; omega)
        replace xB1 := xB1.tch O (by simp; omega)
        replace xB2 := xB2.tch O (by simp; omega)
        replace xB2' := xB2'.tch O (by simp; omega)
        replace Tx := Tx.tch O (by simp; omega)
        replace oI := oI.tch O (fun h => by have := loI h; simp; omega)
        have NN := N.size
        replace N := N.trans (O.below (B := w.heap.size) (by omega) (by simp; omega))
        have zm14 := O.size
        clear O NN
        go_wp2_with fail
        refine (markByteS_any w14 _ _ _ X1 (1 + (X0.length : Int)) xB1.own0 q1 (by omega) (by omega)).mono ?_
        rintro e w15 ⟨rfl, _, O⟩
        have O := Tch.of_only O
        clear xB1
        replace B := B.tch O (by simp; omega)
        replace oS := oS.tch O (fun h => by have := loS h; simp; omega)
        replace xB2 := xB2.tch O (by simp; omega)
        replace xB2' := xB2'.tch O (by simp; omega)
        replace Tx := Tx.tch O (by simp; omega)
        replace oI := oI.tch O (fun h => by have := loI h; simp; omega)
        have NN := N.size
        replace N := N.trans (O.below (B := w.heap.size) (by omega) (by simp; omega))
        have zm15 := O.size
        clear O NN
        have Txc0 := Tx.cell 0
        have Txc1 := Tx.cell 1
        have Txc2 := Tx.cell 2
        have Txc3 := Tx.cell 3
        have Txc4 := Tx.cell 4
        have Txc5 := Tx.cell 5
        have Txc6 := Tx.cell 6
        go_wp2_with fail
        refine (markTicketState_any w15 n2 n2' t2 t2' n2'' _ _ _ X2 _ _ _ X2' (1 + (X0.length : Int) + (X1.length : Int)) xB2.own0 xB2'.own0 (by omega) (by omega) (by omega) (by omega) (by omega)).mono ?_
        rintro e w16 ⟨rfl, -, -, O⟩
        clear Txc0 Txc1 Txc2 Txc3 Txc4 Txc5 Txc6
        clear xB2 xB2'
        clear Tx
        replace B := B.tch O (by simp; omega)
        replace oS := oS.tch O (fun h => by have := loS h; simp; omega)
        replace oI := oI.tch O (fun h => by have := loI h; simp; omega)
        have NN := N.size
        replace N := N.trans (O.below (B := w.heap.size) (by omega) (by simp; omega))
        have zm16 := O.size
        clear O NN
        have v1 : decide (1 + (X0.length : Int) + (X1.length : Int) + (X2.length : Int) + (X2'.length : Int) < 0) = false := by simp; omega
        go_wp2_with fail
        refine (eqByteS_same w16 _ _ _ _ _ _ ys oI.rd oS.rd hy).mono ?_
        rintro e w17 ⟨rfl, m17⟩
        have zm17 := m17.size
        replace B := B.up m17
        replace oS := oS.up m17
        replace oI := oI.up m17
        replace N := nxt N m17
        clear m17
        go_wp2_with fail
        refine (markByteS_any w17 _ _ _ ys 1 oI hy (by decide) (by decide)).mono ?_
        rintro e w18 ⟨rfl, oA, O⟩
        have O := Tch.of_only O
        clear oI
        replace B := B.tch O (by simp; omega)
        replace oS := oS.tch O (fun h => by have := loS h; simp; omega)
        have NN := N.size
        replace N := N.trans (O.below (B := w.heap.size) (by omega) (by simp; omega))
        have zm18 := O.size
        clear O NN
        have loA := oA.rd.lt
        have v2 : decide ((1 : Int) + (ys.length : Int) < 0) = false := by simp; omega
        go_wp2_with fail
        refine (heldByteS_any w18 _ _ _ ys.length 1 oA.rd hy (by decide) (by decide)).mono ?_
        rintro e w19 ⟨rfl, rfl⟩
        go_upto_region 36 with fail
        have CY : Hid (∀ W, Below w19.heap.size w19 W → (W.cell? ⟨w.heap.size, 0, none⟩ = some (.slice a2 X2.length c2) ∧ W.cell? ⟨w.heap.size, 1, none⟩ = some (.slice a2' X2'.length c2') ∧ W.cell? ⟨w.heap.size, 2, none⟩ = some (.int .i64 n2) ∧ W.cell? ⟨w.heap.size, 3, none⟩ = some (.int .i64 n2') ∧ W.cell? ⟨w.heap.size, 4, none⟩ = some (.string t2) ∧ W.cell? ⟨w.heap.size, 5, none⟩ = some (.string t2') ∧ W.cell? ⟨w.heap.size, 6, none⟩ = some (.int .i64 n2''))) := fun W m => ⟨(B.up m).cell 0, (B.up m).cell 1, (B.up m).cell 2, (B.up m).cell 3, (B.up m).cell 4, (B.up m).cell 5, (B.up m).cell 6⟩
        have nd : Below w19.heap.size w19 w19.drew := (Below.refl _ _).drew
        have TB0 : Hid (∀ W, Below w19.heap.size w19 W → Calls Try.prog 7 #[.slice a0 X0.length c0] W fun e w' => ∃ q, e = .returned (.slice (some ⟨q, 0, none⟩) X0.length X0.length) ∧ Blk w' q .u8 X0 ∧ Below W.heap.size W w') := fun W m => (toByteS_any W g0 a0 c0 X0 ((hX0.up N).up m) q0).mono (by
          rintro e w' ⟨rfl, k, l⟩
          exact ⟨_, rfl, k, l⟩)
        have TB1 : Hid (∀ W, Below w19.heap.size w19 W → Calls Try.prog 7 #[.slice a1 X1.length c1] W fun e w' => ∃ q, e = .returned (.slice (some ⟨q, 0, none⟩) X1.length X1.length) ∧ Blk w' q .u8 X1 ∧ Below W.heap.size W w') := fun W m => (toByteS_any W g1 a1 c1 X1 ((hX1.up N).up m) q1).mono (by
          rintro e w' ⟨rfl, k, l⟩
          exact ⟨_, rfl, k, l⟩)
        have TT : Hid (∀ W, Below w19.heap.size w19 W → Calls Try.prog 8 #[.agg #[.slice a2 X2.length c2, .slice a2' X2'.length c2', .int .i64 n2, .int .i64 n2', .string t2, .string t2', .int .i64 n2'']] W fun e w' => ∃ f2 f2', e = .returned (.agg #[.slice (some ⟨f2, 0, none⟩) X2.length X2.length, .slice (some ⟨f2', 0, none⟩) X2'.length X2'.length, .int .i64 n2, .int .i64 n2', .string t2, .string t2', .int .i64 n2'']) ∧ Blk w' f2 .u8 X2 ∧ Blk w' f2' .u8 X2' ∧ Below W.heap.size W w') := fun W m => (toTicketState_any W n2 n2' t2 t2' n2'' g2 a2 c2 X2 g2' a2' c2' X2' ((hX2.up N).up m) ((hX2'.up N).up m) (by omega) (by omega)).mono (by
          rintro e w' ⟨f2, f2', rfl, h2, h2', _, _, l⟩
          exact ⟨f2, f2', rfl, h2, h2', l⟩)
        go_region_held3 (fun W => W.cell? ⟨w.heap.size, 0, none⟩ = some (.slice a2 X2.length c2) ∧ W.cell? ⟨w.heap.size, 1, none⟩ = some (.slice a2' X2'.length c2') ∧ W.cell? ⟨w.heap.size, 2, none⟩ = some (.int .i64 n2) ∧ W.cell? ⟨w.heap.size, 3, none⟩ = some (.int .i64 n2') ∧ W.cell? ⟨w.heap.size, 4, none⟩ = some (.string t2) ∧ W.cell? ⟨w.heap.size, 5, none⟩ = some (.string t2') ∧ W.cell? ⟨w.heap.size, 6, none⟩ = some (.int .i64 n2''))
          (first | exact (unhide CY) _ m20 | exact (unhide CY) _ b3 | exact (unhide CY) _ b2 | exact (unhide CY) _ b1 | exact (unhide CY) _ nd)
          (first
            | (go_at_call 9; refine (IM v3 _ _ _ dB0.own0.rd (by simp) (Nat.le_refl _) _ _ _ dB1.own0.rd (by simp) (Nat.le_refl _) _ _ _ dB2.own0.rd (by simp) (Nat.le_refl _) _ _ _ dB2'.own0.rd (by simp) (Nat.le_refl _) (nxt N b3)).mono ?_; rintro r w20 ⟨⟨aoJ, coJ, goJ, rfl, oJ, poJ, koJ, roJ⟩, l4⟩; (have m20 := nxt b3 l4))
            | (go_at_call 8; refine ((unhide TT) _ b2).mono ?_; rintro r v3 ⟨d2, d2', rfl, dB2, dB2', l3⟩; (have b3 := nxt b2 l3); (replace dB0 := dB0.up l3); (replace dB1 := dB1.up l3))
            | (go_at_call 7; refine ((unhide TB1) _ b1).mono ?_; rintro r v2 ⟨d1, rfl, dB1, l2⟩; (have b2 := nxt b1 l2); (replace dB0 := dB0.up l2))
            | (go_at_call 7; refine ((unhide TB0) _ nd).mono ?_; rintro r v1 ⟨d0, rfl, dB0, l1⟩; (have b1 := nxt nd l1))
            | fail)
        have zm20 := m20.size
        have zbm20 := b3.size
        have loJ := oJ.rd.lt
        clear poJ koJ nd CY b1 b2 b3 l1 l2 l3 l4 dB0 dB1 dB2 dB2' TB0 TB1 TT
        replace B := B.up m20
        replace oS := oS.up m20
        replace oA := oA.up m20
        replace N := nxt N m20
        clear m20
        go_wp2_with fail
        refine (eqByteS_same w20 _ _ _ _ _ _ ys oJ.rd oS.rd hy).mono ?_
        rintro e w21 ⟨rfl, m21⟩
        have zm21 := m21.size
        replace B := B.up m21
        replace oS := oS.up m21
        replace oA := oA.up m21
        replace oJ := oJ.up m21
        replace N := nxt N m21
        clear m21
        go_wp2_with fail
        refine (heldByteS_any w21 _ _ _ ys.length 1 oA.rd hy (by decide) (by decide)).mono ?_
        rintro e w22 ⟨rfl, rfl⟩
        go_wp2
        go_ret
        exact ⟨rfl, N⟩
      · skip
        have SZ := fun W => hide (szTicketState_any W n2 n2' t2 t2' n2'' a2 X2.length c2 a2' X2'.length c2' 1048576 lX2 lX2' lt2 lt2' (by decide) (by decide))
        simp only [if_pos (show ((1048576 : Int) < (X2.length : Int) + (X2'.length : Int) + (t2.size : Int) + (t2'.size : Int)) by omega)] at SZ
        go_enter Try.func3, Try.ntmps3
        go_upto_region 1 with fail
        have B : RwC (w.alloc (.cells #[.slice a2 X2.length c2, .slice a2' X2'.length c2', .int .i64 n2, .int .i64 n2', .string t2, .string t2', .int .i64 n2''] 24)) w.heap.size [.slice a2 X2.length c2, .slice a2' X2'.length c2', .int .i64 n2, .int .i64 n2', .string t2, .string t2', .int .i64 n2''] 24 := RwC.new w _ _
        have N : Below w.heap.size w (w.alloc (.cells #[.slice a2 X2.length c2, .slice a2' X2'.length c2', .int .i64 n2, .int .i64 n2', .string t2, .string t2', .int .i64 n2''] 24)) := (Below.refl _ _).alloc (Nat.le_refl _) _
        have zN : (w.alloc (.cells #[.slice a2 X2.length c2, .slice a2' X2'.length c2', .int .i64 n2, .int .i64 n2', .string t2, .string t2', .int .i64 n2''] 24)).heap.size = w.heap.size + 1 := by simp
        generalize w.alloc (.cells #[.slice a2 X2.length c2, .slice a2' X2'.length c2', .int .i64 n2, .int .i64 n2', .string t2, .string t2', .int .i64 n2''] 24) = w0 at *
        have lB : w.heap.size < w0.heap.size := by omega
        clear zN
        have Bc0 := B.cell 0
        have Bc1 := B.cell 1
        have Bc2 := B.cell 2
        have Bc3 := B.cell 3
        have Bc4 := B.cell 4
        have Bc5 := B.cell 5
        have Bc6 := B.cell 6
        go_wp2_with fail
        refine ((SZ w0).out).mono ?_
        rintro e w1 ⟨rfl, m1⟩
        have zm1 := m1.size
        clear Bc0 Bc1 Bc2 Bc3 Bc4 Bc5 Bc6
        replace B := B.up m1
        replace N := nxt N m1
        clear m1
        go_wp2
        go_ret
        exact ⟨rfl, N⟩
    · have u1 : decide ((1048576 : Int) < (X1.length : Int)) = true := by simp; omega
      go_enter Try.func3, Try.ntmps3
      go_upto_region 1 with fail
      have B : RwC (w.alloc (.cells #[.slice a2 X2.length c2, .slice a2' X2'.length c2', .int .i64 n2, .int .i64 n2', .string t2, .string t2', .int .i64 n2''] 24)) w.heap.size [.slice a2 X2.length c2, .slice a2' X2'.length c2', .int .i64 n2, .int .i64 n2', .string t2, .string t2', .int .i64 n2''] 24 := RwC.new w _ _
      have N : Below w.heap.size w (w.alloc (.cells #[.slice a2 X2.length c2, .slice a2' X2'.length c2', .int .i64 n2, .int .i64 n2', .string t2, .string t2', .int .i64 n2''] 24)) := (Below.refl _ _).alloc (Nat.le_refl _) _
      have zN : (w.alloc (.cells #[.slice a2 X2.length c2, .slice a2' X2'.length c2', .int .i64 n2, .int .i64 n2', .string t2, .string t2', .int .i64 n2''] 24)).heap.size = w.heap.size + 1 := by simp
      generalize w.alloc (.cells #[.slice a2 X2.length c2, .slice a2' X2'.length c2', .int .i64 n2, .int .i64 n2', .string t2, .string t2', .int .i64 n2''] 24) = w0 at *
      have lB : w.heap.size < w0.heap.size := by omega
      clear zN
      go_wp2
      go_ret
      exact ⟨rfl, N⟩
  · have u0 : decide ((1048576 : Int) < (X0.length : Int)) = true := by simp; omega
    go_enter Try.func3, Try.ntmps3
    go_upto_region 1 with fail
    have B : RwC (w.alloc (.cells #[.slice a2 X2.length c2, .slice a2' X2'.length c2', .int .i64 n2, .int .i64 n2', .string t2, .string t2', .int .i64 n2''] 24)) w.heap.size [.slice a2 X2.length c2, .slice a2' X2'.length c2', .int .i64 n2, .int .i64 n2', .string t2, .string t2', .int .i64 n2''] 24 := RwC.new w _ _
    have N : Below w.heap.size w (w.alloc (.cells #[.slice a2 X2.length c2, .slice a2' X2'.length c2', .int .i64 n2, .int .i64 n2', .string t2, .string t2', .int .i64 n2''] 24)) := (Below.refl _ _).alloc (Nat.le_refl _) _
    have zN : (w.alloc (.cells #[.slice a2 X2.length c2, .slice a2' X2'.length c2', .int .i64 n2, .int .i64 n2', .string t2, .string t2', .int .i64 n2''] 24)).heap.size = w.heap.size + 1 := by simp
    generalize w.alloc (.cells #[.slice a2 X2.length c2, .slice a2' X2'.length c2', .int .i64 n2, .int .i64 n2', .string t2, .string t2', .int .i64 n2''] 24) = w0 at *
    have lB : w.heap.size < w0.heap.size := by omega
    clear zN
    go_wp2
    go_ret
    exact ⟨rfl, N⟩
end Go.Proofs.Ytcljoaknaegpmaa
