
/-
  The model's StreamBlock (written by gens/ccf.py).
-/
import Derived.Test.YthfbchkonklmkaaSpC
import Derived.Test.YthfbchkonklmkaaCcF
import Derived.Test.YthfbchkonklmkaaApd
namespace Go.Proofs.Ythfbchkonklmkaa
open Go Go.RowKit

set_option maxHeartbeats 1000000 in
theorem fits_any (w : World) (a a' : Option Addr) (c c' : Nat) (key non : List Int) (ct : Int) : Calls Try.prog 34 #[.slice a key.length c, .int .i64 ct, .slice a' non.length c'] w fun e w' => e = .returned (.bool (fitB key ct non)) ∧ w' = w := by
  unfold fitB
  generalize key.length = n at *
  generalize non.length = m at *
  by_cases h : n = 32
  · subst h
    by_cases h' : m = 12
    · subst h'
      by_cases h1 : 0 ≤ ct
      · by_cases h2 : ct ≤ 4294967295
        · go_enter Try.func34, Try.ntmps34
          go_wp2
          go_ret
          exact ⟨by simp [h1, h2], rfl⟩
        · have q : decide (ct ≤ 4294967295) = false := by simpa using h2
          go_enter Try.func34, Try.ntmps34
          go_wp2
          go_ret
          exact ⟨by simp, rfl⟩
      · have q : decide (0 ≤ ct) = false := by simpa using h1
        go_enter Try.func34, Try.ntmps34
        go_wp2
        go_ret
        exact ⟨by simp, rfl⟩
    · have q : decide ((m : Int) = 12) = false := by simp; omega
      go_enter Try.func34, Try.ntmps34
      go_wp2
      go_ret
      exact ⟨by simp [h'] <;> omega, rfl⟩
  · have q : decide ((n : Int) = 32) = false := by simp; omega
    go_enter Try.func34, Try.ntmps34
    go_wp2
    go_ret
    exact ⟨by simp [h], rfl⟩
/-- The columns, and the slanting lines, one behind the other. -/
def clA (ys : List Int) : Nat → List Int
  | 0 => ys
  | i + 1 => qrL (clA ys i) i (4 + i) (8 + i) (12 + i)
def clB (ys : List Int) : Nat → List Int
  | 0 => ys
  | i + 1 => qrL (clB ys i) i (4 + (i + 1) % 4) (8 + (i + 2) % 4) (12 + (i + 3) % 4)
theorem clA_len (ys : List Int) : ∀ i, (clA ys i).length = ys.length
  | 0 => rfl
  | i + 1 => by rw [clA, qrL_len]; exact clA_len ys i
theorem clB_len (ys : List Int) : ∀ i, (clB ys i).length = ys.length
  | 0 => rfl
  | i + 1 => by rw [clB, qrL_len]; exact clB_len ys i
theorem clA_ws {ys : List Int} (h : Ws ys) : ∀ i, Ws (clA ys i)
  | 0 => h
  | i + 1 => (clA_ws h i).qr _ _ _ _
theorem clB_ws {ys : List Int} (h : Ws ys) : ∀ i, Ws (clB ys i)
  | 0 => h
  | i + 1 => (clB_ws h i).qr _ _ _ _
theorem dbl_cl (ys : List Int) : clB (clA ys 4) 4 = dbl ys := by
  unfold dbl
  simp only [clA, clB, Nat.zero_add, Nat.reduceAdd, Nat.reduceMod, Nat.add_zero]
/-- The bytes of n words. -/
def oW (v : Int) : List Int := [v % 256, v / 256 % 256, v / 65536 % 256, v / 16777216]
def oL (st rs : List Int) : Nat → List Int
  | 0 => []
  | n + 1 => oL st rs n ++ oW ((rs.getD n 0 + st.getD n 0) % 4294967296)
theorem oL_len (st rs : List Int) : ∀ n, (oL st rs n).length = 4 * n
  | 0 => rfl
  | n + 1 => by rw [oL, List.length_append, oL_len st rs n]; rfl
theorem fill_succ (f : Nat → Int) (n : Nat) : fill f (n + 1) = fill f n ++ [f n] := by unfold fill; rw [List.range_succ, List.map_append]; rfl
theorem oL_fill (st rs : List Int) : ∀ n, oL st rs n = fill (stF st rs) (4 * n)
  | 0 => rfl
  | n + 1 => by
    rw [oL, oL_fill st rs n, show 4 * (n + 1) = 4 * n + 1 + 1 + 1 + 1 by omega, fill_succ, fill_succ, fill_succ, fill_succ]
    have e : ∀ j, j < 4 → stF st rs (4 * n + j) = (rs.getD n 0 + st.getD n 0) % 4294967296 / 2 ^ (8 * j) % 256 := fun j hj => by
      unfold stF
      rw [show (4 * n + j) / 4 = n by omega, show (4 * n + j) % 4 = j by omega, Int.add_comm]
    have e0 := e 0 (by decide)
    have e1 := e 1 (by decide)
    have e2 := e 2 (by decide)
    have e3 := e 3 (by decide)
    rw [Nat.add_zero] at e0
    rw [show 4 * n + 1 + 1 = 4 * n + 2 by omega, show 4 * n + 2 + 1 = 4 * n + 3 by omega, e0, e1, e2, e3]
    have v0 : 0 ≤ (rs.getD n 0 + st.getD n 0) % 4294967296 ∧ (rs.getD n 0 + st.getD n 0) % 4294967296 < 4294967296 := ⟨by omega, by omega⟩
    generalize (rs.getD n 0 + st.getD n 0) % 4294967296 = v at *
    have e4 : v / 16777216 % 256 = v / 16777216 := by omega
    unfold oW
    simp [e4]
theorem wsF_set (ys : List Int) (c : Int) (xs : List Int) (pl : Nat) (h : 12 < pl) : ∀ k, wsF (ys.set 12 c) pl xs k = (wsF ys pl xs k).set 12 c
  | 0 => rfl
  | k + 1 => by rw [wsF, wsF, wsF_set ys c xs pl h k, List.set_comm _ _ (by omega)]
set_option maxRecDepth 100000 in
set_option maxHeartbeats 8000000 in
theorem specBlock_core (w : World) (g : Nat) (a : Option Addr) (c : Nat) (key : List Int) (hr : Rd w g a .u8 key) (hb : Byt key) (hl : key.length = 32) (hc : key.length ≤ c) (ct : Int) (h0 : 0 ≤ ct) (h1 : ct < 4294967296) (g' : Nat) (a' : Option Addr) (c' : Nat) (non : List Int) (hr' : Rd w g' a' .u8 non) (hb' : Byt non) (hl' : non.length = 12) (hc' : non.length ≤ c')
    (hf : fitB key ct non = true) (rn : Nat) (hrn : rn = 10) :
    Calls Try.prog 63 #[.slice a key.length c, .int .i64 ct, .slice a' non.length c'] w fun e w' => NewRow w.heap.size w' e .u8 (fill (stF ((nsW key non).set 12 ct) (rds rn ((nsW key non).set 12 ct))) 64) ∧ Below w.heap.size w w' := by
  have HRN := hide hrn
  clear hrn
  obtain ⟨i0, hi, hz0, hz1, hz2⟩ := info_parts Try.info5
  have FT := fits_any w a a' c c' key non ct
  rw [hf] at FT
  clear hf
  have gl := hr.lt (by omega)
  have gl' := hr'.lt (by omega)
  obtain ⟨o, ea, -⟩ := hr (by omega)
  obtain ⟨o', ea', -⟩ := hr' (by omega)
  subst ea
  subst ea'
  have HL := hide hl
  have HL' := hide hl'
  have hcI : (key.length : Int) ≤ (c : Int) := by omega
  have hcI' : (non.length : Int) ≤ (c' : Int) := by omega
  have cw : ct % 4294967296 = ct := by omega
  have n1 : Below w.heap.size w (w.alloc (.cells #[.int .u32 1634760805, .int .u32 857760878, .int .u32 2036477234, .int .u32 1797285236, .int .u32 0, .int .u32 0, .int .u32 0, .int .u32 0, .int .u32 0, .int .u32 0, .int .u32 0, .int .u32 0, .int .u32 0, .int .u32 0, .int .u32 0, .int .u32 0] 46)) := (Below.refl _ _).alloc (Nat.le_refl _) _
  have B1 : Blk (w.alloc (.cells #[.int .u32 1634760805, .int .u32 857760878, .int .u32 2036477234, .int .u32 1797285236, .int .u32 0, .int .u32 0, .int .u32 0, .int .u32 0, .int .u32 0, .int .u32 0, .int .u32 0, .int .u32 0, .int .u32 0, .int .u32 0, .int .u32 0, .int .u32 0] 46)) w.heap.size .u32 st0 := blk_alloc w .u32 46 st0
  have z1 : (w.alloc (.cells #[.int .u32 1634760805, .int .u32 857760878, .int .u32 2036477234, .int .u32 1797285236, .int .u32 0, .int .u32 0, .int .u32 0, .int .u32 0, .int .u32 0, .int .u32 0, .int .u32 0, .int .u32 0, .int .u32 0, .int .u32 0, .int .u32 0, .int .u32 0] 46)).heap.size = w.heap.size + 1 := by simp
  generalize hkl : key.length = kl at *
  generalize hnl : non.length = nl at *
  have HK := hide hkl
  have HN := hide hnl
  clear hkl hnl
  subst hl
  subst hl'
  go_enter Try.func63, Try.ntmps63
  go_wp2_with fail
  refine FT.mono ?_
  rintro e w1 ⟨rfl, rfl⟩
  clear FT
  go_wp2
  generalize w1.alloc (.cells #[.int .u32 1634760805, .int .u32 857760878, .int .u32 2036477234, .int .u32 1797285236, .int .u32 0, .int .u32 0, .int .u32 0, .int .u32 0, .int .u32 0, .int .u32 0, .int .u32 0, .int .u32 0, .int .u32 0, .int .u32 0, .int .u32 0, .int .u32 0] 46) = wa at *
  go_loopw [8] (fun v wr => ∃ (i : Nat), i ≤ 8 ∧ v = .int .i64 i ∧ Blk wr w1.heap.size .u32 (wsF st0 4 key i) ∧ Below w1.heap.size w1 wr) (fun v _ => 8 - (intOf v).toNat)
  case atStart => exact ⟨0, Nat.zero_le _, rfl, B1, n1⟩
  case round =>
    obtain ⟨i, hi8, rfl, hB, hN⟩ := hrel
    clear B1 n1 z1
    by_cases hlt : i < 8
    · have LWc := l8Word_any wr g (some ⟨g, o + 4 * i, none⟩) (c - 4 * i) _ (rd_part (hr.up hN) (4 * i) (32 - 4 * i) (by rw [HK.out]; omega)) (byt_part hb _ _) (by rw [part_len _ _ _ (by rw [HK.out]; omega)]; omega)
      rw [part_len _ _ _ (by rw [HK.out]; omega)] at LWc
      have lv : lw ((key.drop (4 * i)).take (32 - 4 * i)) 0 = lw key (4 * i) := by
        unfold lw
        rw [part_get key _ _ 0 (by omega), part_get key _ _ (0 + 1) (by omega), part_get key _ _ (0 + 2) (by omega), part_get key _ _ (0 + 3) (by omega)]
        simp only [Nat.zero_add, Nat.add_zero]
      rw [lv] at LWc
      have HC := hide LWc
      have e1 := hB.cell (i := 4 + i) (by rw [wsF_len]; show _ < 16; omega)
      have f1 := hB.free (4 + i)
      have B' := hB.store (4 + i) (lw key (4 * i))
      have WS : Hid ((wsF st0 4 key i).set (4 + i) (lw key (4 * i)) = wsF st0 4 key (i + 1)) := rfl
      have d1 : (4 : Int) + (i : Int) = ((4 + i : Nat) : Int) := by omega
      have d2 : (4 : Int) * (i : Int) = ((4 * i : Nat) : Int) := by omega
      have d3 : ((4 + i : Nat) : Int) < 16 := by omega
      have d4 : ((4 * i : Nat) : Int) ≤ 32 := by omega
      have d5 : 4 * i ≤ 32 := by omega
      have d6 : ¬ (4 * i = c) := by omega
      have d7 : 4 * i < c := by omega
      clear LWc lv B'
      generalize (wsF st0 4 key i).getD (4 + i) 0 = y0 at *
      generalize lw key (4 * i) = lv at *
      generalize 4 + i = p4 at *
      generalize h4 : 4 * i = q4 at *
      go_wp2_with fail
      refine HC.out.mono ?_
      rintro e w2 ⟨rfl, m, rfl⟩
      have hB2 : Blk (wr.drewN m) w1.heap.size .u32 (wsF st0 4 key i) := hB
      have B2 := hB2.store p4 lv
      rw [WS.out] at B2
      have N2 := (below_drewN hN m).trans ((Only.setCell (wr.drewN m) w1.heap.size p4 (.int .u32 lv)).below (Nat.le_refl _))
      clear HC WS hB hB2 hN
      go_wp2
      go_roundw
      case rel => exact ⟨i + 1, by omega, by go_num, B2, N2⟩
      case measure => simp [intOf]; omega
    · obtain rfl : i = 8 := by omega
      rw [show ((8 : Nat) : Int) = 8 from rfl]
      have e12 := hB.cell (i := 12) (by rw [wsF_len]; decide)
      have f12 := hB.free 12
      have B2 := hB.store 12 ct
      have N2 := hN.trans ((Only.setCell wr w1.heap.size 12 (.int .u32 ct)).below (Nat.le_refl _))
      have yl : ((wsF st0 4 key 8).set 12 ct).length = 16 := by rw [List.length_set, wsF_len]; rfl
      have SW : wsF ((wsF st0 4 key 8).set 12 ct) 13 non 3 = (nsW key non).set 12 ct := wsF_set _ ct non 13 (by decide) 3
      generalize (wsF st0 4 key 8).getD 12 0 = y12 at *
      generalize (wsF st0 4 key 8).set 12 ct = yk at *
      have YL := hide yl
      have SWH := hide SW
      clear hB hN yl SW
      go_wp2
      generalize wr.setCell ⟨w1.heap.size, 12, none⟩ (.int .u32 ct) = wb at *
      go_loopw [9] (fun v wr => ∃ (i : Nat), i ≤ 3 ∧ v = .int .i64 i ∧ Blk wr w1.heap.size .u32 (wsF yk 13 non i) ∧ Below w1.heap.size w1 wr) (fun v _ => 3 - (intOf v).toNat)
      case atStart => exact ⟨0, Nat.zero_le _, rfl, B2, N2⟩
      case round =>
        obtain ⟨i, hi3, rfl, hB, hN⟩ := hrel
        clear B2 N2 e12 f12
        by_cases hlt : i < 3
        · have LWc := l8Word_any wr g' (some ⟨g', o' + 4 * i, none⟩) (c' - 4 * i) _ (rd_part (hr'.up hN) (4 * i) (12 - 4 * i) (by rw [HN.out]; omega)) (byt_part hb' _ _) (by rw [part_len _ _ _ (by rw [HN.out]; omega)]; omega)
          rw [part_len _ _ _ (by rw [HN.out]; omega)] at LWc
          have lv : lw ((non.drop (4 * i)).take (12 - 4 * i)) 0 = lw non (4 * i) := by
            unfold lw
            rw [part_get non _ _ 0 (by omega), part_get non _ _ (0 + 1) (by omega), part_get non _ _ (0 + 2) (by omega), part_get non _ _ (0 + 3) (by omega)]
            simp only [Nat.zero_add, Nat.add_zero]
          rw [lv] at LWc
          have HC := hide LWc
          have e1 := hB.cell (i := 13 + i) (by rw [wsF_len, YL.out]; omega)
          have f1 := hB.free (13 + i)
          have WS : Hid ((wsF yk 13 non i).set (13 + i) (lw non (4 * i)) = wsF yk 13 non (i + 1)) := rfl
          have d1 : (13 : Int) + (i : Int) = ((13 + i : Nat) : Int) := by omega
          have d2 : (4 : Int) * (i : Int) = ((4 * i : Nat) : Int) := by omega
          have d3 : ((13 + i : Nat) : Int) < 16 := by omega
          have d4 : ((4 * i : Nat) : Int) ≤ 12 := by omega
          have d5 : 4 * i ≤ 12 := by omega
          have d6 : ¬ (4 * i = c') := by omega
          have d7 : 4 * i < c' := by omega
          clear LWc lv
          generalize (wsF yk 13 non i).getD (13 + i) 0 = y0 at *
          generalize lw non (4 * i) = lv at *
          generalize 13 + i = p4 at *
          generalize h4 : 4 * i = q4 at *
          go_wp2_with fail
          refine HC.out.mono ?_
          rintro e w2 ⟨rfl, m, rfl⟩
          have hB2 : Blk (wr.drewN m) w1.heap.size .u32 (wsF yk 13 non i) := hB
          have B2 := hB2.store p4 lv
          rw [WS.out] at B2
          have N2 := (below_drewN hN m).trans ((Only.setCell (wr.drewN m) w1.heap.size p4 (.int .u32 lv)).below (Nat.le_refl _))
          clear HC WS hB hB2 hN
          go_wp2
          go_roundw
          case rel => exact ⟨i + 1, by omega, by go_num, B2, N2⟩
          case measure => simp [intOf]; omega
        · obtain rfl : i = 3 := by omega
          rw [show ((3 : Nat) : Int) = 3 from rfl]
          rw [SWH.out] at hB
          have sww : Ws ((nsW key non).set 12 ct) := (nsW_ws hb hb').set 12 ⟨h0, h1⟩
          have swl : ((nsW key non).set 12 ct).length = 16 := by rw [List.length_set]; exact nsW_len key non
          clear SWH hr hr' hb hb' HL HL' HK HN YL
          obtain ⟨sw, hsw⟩ : ∃ s, s = (nsW key non).set 12 ct := ⟨_, rfl⟩
          have OUT : Hid (∀ k, k = 16 → fill (stF ((nsW key non).set 12 ct) (rds rn ((nsW key non).set 12 ct))) 64 = oL sw (rds rn sw) k) := fun k hk => by
            rw [oL_fill, hsw, hk]
          rw [← hsw] at hB sww swl
          have SWL := hide swl
          clear hsw swl
          have RG := (Seg.blk hB).range
          have L : Hid ((sw.map (Value.int .u32)).length = 16) := by show _ = _; rw [List.length_map]; exact SWL.out
          have O := one_ints .u32 sw
          have n4 : Below wr.heap.size wr (wr.alloc (.cells #[.int .u32 0, .int .u32 0, .int .u32 0, .int .u32 0, .int .u32 0, .int .u32 0, .int .u32 0, .int .u32 0, .int .u32 0, .int .u32 0, .int .u32 0, .int .u32 0, .int .u32 0, .int .u32 0, .int .u32 0, .int .u32 0] 46)) := (Below.refl _ _).alloc (Nat.le_refl _) _
          have B4 := blk_z16 wr 46
          obtain ⟨t4, H4⟩ := B4
          have SR := blk_setRow (zs := sw) ⟨t4, H4⟩
          have OR := only_setRow (wr.alloc (.cells #[.int .u32 0, .int .u32 0, .int .u32 0, .int .u32 0, .int .u32 0, .int .u32 0, .int .u32 0, .int .u32 0, .int .u32 0, .int .u32 0, .int .u32 0, .int .u32 0, .int .u32 0, .int .u32 0, .int .u32 0, .int .u32 0] 46)) wr.heap.size (sw.map (Value.int .u32)).toArray
          have hB' := (hB.up n4).of_block (OR.block w1.heap.size (by have := hB.lt; omega))
          have N4 := (hN.trans (n4.mono hN.size)).trans (OR.below (B := w1.heap.size) hN.size)
          have qq := hB.lt
          obtain ⟨vy, hvy⟩ : ∃ v, v = sw.map (Value.int .u32) := ⟨_, rfl⟩
          rw [← hvy] at RG L O SR OR hB' N4
          clear hvy hB hN n4
          go_wp2_with (first
            | (refine wpList_load_mid rfl 46 (.tmp 7) rfl w1.heap.size 0 rfl vy (.array 16 45) RG und16 rfl (by rw [L.out]; exact info16) ?_)
            | (refine wpList_store_row rfl 46 (.tmp 10) (.tmp 51) rfl wr.heap.size vy.toArray rfl rfl t4 _ H4 (by rw [List.size_toArray, L.out]; exact info16) (by rw [List.size_toArray, List.size_toArray, L.out]; rfl) O ?_))
          have zz := OR.size
          generalize wr.heap.size = q2 at *
          generalize (wr.alloc (.cells #[.int .u32 0, .int .u32 0, .int .u32 0, .int .u32 0, .int .u32 0, .int .u32 0, .int .u32 0, .int .u32 0, .int .u32 0, .int .u32 0, .int .u32 0, .int .u32 0, .int .u32 0, .int .u32 0, .int .u32 0, .int .u32 0] 46)).setRow q2 vy.toArray = wd at *
          clear H4 OR RG L O zz
          go_loopw [11] (fun v wr => ∃ (r : Nat), r ≤ 10 ∧ v = .int .i64 r ∧ Blk wr w1.heap.size .u32 sw ∧ Blk wr q2 .u32 (rds r sw) ∧ Below w1.heap.size w1 wr) (fun v _ => 10 - (intOf v).toNat)
          case atStart => exact ⟨0, Nat.zero_le _, rfl, hB', SR, N4⟩
          case round =>
            obtain ⟨r, hr10, rfl, hS, hR, hN⟩ := hrel
            clear hB' SR N4
            by_cases rlt : r < 10
            · have yl : (rds r sw).length = 16 := (rds_len sw r).trans SWL.out
              have yw := rds_ws sww r
              have r10 : (r : Int) < 10 := by omega
              have DB : Hid (∀ z, z = dbl (rds r sw) → z = rds (r + 1) sw) := fun z h => h
              generalize rds r sw = y0 at *
              have YL := hide yl
              clear yl
              go_wp2
              go_loopw [12] (fun v wr => ∃ (i : Nat), i ≤ 4 ∧ v = .int .i64 i ∧ Blk wr w1.heap.size .u32 sw ∧ Blk wr q2 .u32 (clA y0 i) ∧ Below w1.heap.size w1 wr) (fun v _ => 4 - (intOf v).toNat)
              case atStart => exact ⟨0, Nat.zero_le _, rfl, hS, hR, hN⟩
              case round =>
                obtain ⟨i, hi4, rfl, gS, gR, gN⟩ := hrel
                clear hS hR hN
                by_cases ilt : i < 4
                · have QC := fun W => hide (l8Quarter_any W (clA y0 i) (clA_ws yw i) ((clA_len y0 i).trans YL.out) i (4 + i) (8 + i) (12 + i) (by omega) (by omega) (by omega) (by omega) ⟨by omega, by omega, by omega, by omega, by omega, by omega⟩)
                  have CA : Hid (qrL (clA y0 i) i (4 + i) (8 + i) (12 + i) = clA y0 (i + 1)) := rfl
                  simp only [CA.out] at QC
                  have RG := (Seg.blk gR).range
                  have L : Hid (((clA y0 i).map (Value.int .u32)).length = 16) := by show _ = _; rw [List.length_map, clA_len]; exact YL.out
                  have LO : Hid (((clA y0 i).map (Value.int .u32)).length = 16) := L
                  have L2 : Hid (((clA y0 (i + 1)).map (Value.int .u32)).length = 16) := by show _ = _; rw [List.length_map, clA_len]; exact YL.out
                  have O2 := one_ints .u32 (clA y0 (i + 1))
                  have V1 : Hid (ag .u32 (clA y0 i) = Value.agg ((clA y0 i).map (Value.int .u32)).toArray) := rfl
                  have V2 : Hid (ag .u32 (clA y0 (i + 1)) = Value.agg ((clA y0 (i + 1)).map (Value.int .u32)).toArray) := rfl
                  simp only [V1.out, V2.out] at QC
                  obtain ⟨v1, hv1⟩ : ∃ v, v = (clA y0 i).map (Value.int .u32) := ⟨_, rfl⟩
                  obtain ⟨v2, hv2⟩ : ∃ v, v = (clA y0 (i + 1)).map (Value.int .u32) := ⟨_, rfl⟩
                  simp only [← hv1, ← hv2] at QC
                  rw [← hv1] at RG L
                  rw [← hv2] at L2 O2
                  have HV2 := hide hv2
                  clear hv1 hv2 V1 V2 CA
                  have d1 : (4 : Int) + (i : Int) = ((4 + i : Nat) : Int) := by omega
                  have d2 : (8 : Int) + (i : Int) = ((8 + i : Nat) : Int) := by omega
                  have d3 : (12 : Int) + (i : Int) = ((12 + i : Nat) : Int) := by omega
                  have i4 : (i : Int) < 4 := by omega
                  generalize 4 + i = x2 at *
                  generalize 8 + i = x3 at *
                  generalize 12 + i = x4 at *
                  go_wp2_with (refine wpList_load_mid rfl 46 (.tmp 10) rfl q2 0 rfl v1 (.array 16 45) RG und16 rfl (by rw [L.out]; exact info16) ?_)
                  refine (QC wr).out.mono ?_
                  rintro e w3 ⟨rfl, n3⟩
                  obtain ⟨t5, H5⟩ := gR.up n3
                  have SR := blk_setRow (zs := clA y0 (i + 1)) ⟨t5, H5⟩
                  rw [← HV2.out] at SR
                  have OR := only_setRow w3 q2 v2.toArray
                  have S3 := (gS.up n3).of_block (OR.block w1.heap.size (by omega))
                  have N3 := (gN.trans (n3.mono gN.size)).trans (OR.below (B := w1.heap.size) (by omega))
                  clear QC RG gS gR gN n3 OR
                  go_wp2_with (refine wpList_store_row rfl 46 (.tmp 10) (.tmp 68) rfl q2 v2.toArray rfl rfl t5 _ H5 (by rw [List.size_toArray, L2.out]; exact info16) (by have a1 := L2.out; have a2 := LO.out; simp only [List.size_toArray]; omega) O2 ?_)
                  go_roundw
                  case rel => exact ⟨i + 1, by omega, by go_num, S3, SR, N3⟩
                  case measure => simp [intOf]; omega
                · obtain rfl : i = 4 := by omega
                  try rw [show ((4 : Nat) : Int) = 4 from rfl]
                  have yw1 := clA_ws yw 4
                  have YL1 := hide ((clA_len y0 4).trans YL.out)
                  have EY : Hid (∃ y, y = clA y0 4) := ⟨_, rfl⟩
                  obtain ⟨y1, hy1⟩ := EY.out
                  rw [← hy1] at gR yw1 YL1
                  have EY := hide hy1
                  clear hy1
                  go_wp2
                  go_loopw [13] (fun v wr => ∃ (i : Nat), i ≤ 4 ∧ v = .int .i64 i ∧ Blk wr w1.heap.size .u32 sw ∧ Blk wr q2 .u32 (clB y1 i) ∧ Below w1.heap.size w1 wr) (fun v _ => 4 - (intOf v).toNat)
                  case atStart => exact ⟨0, Nat.zero_le _, rfl, gS, gR, gN⟩
                  case round =>
                    obtain ⟨i, hi4, rfl, gS, gR, gN⟩ := hrel
                    by_cases ilt : i < 4
                    · have QC := fun W => hide (l8Quarter_any W (clB y1 i) (clB_ws yw1 i) ((clB_len y1 i).trans YL1.out) i (4 + (i + 1) % 4) (8 + (i + 2) % 4) (12 + (i + 3) % 4) (by omega) (by omega) (by omega) (by omega) ⟨by omega, by omega, by omega, by omega, by omega, by omega⟩)
                      have CA : Hid (qrL (clB y1 i) i (4 + (i + 1) % 4) (8 + (i + 2) % 4) (12 + (i + 3) % 4) = clB y1 (i + 1)) := rfl
                      simp only [CA.out] at QC
                      have RG := (Seg.blk gR).range
                      have L : Hid (((clB y1 i).map (Value.int .u32)).length = 16) := by show _ = _; rw [List.length_map, clB_len]; exact YL1.out
                      have LO : Hid (((clB y1 i).map (Value.int .u32)).length = 16) := L
                      have L2 : Hid (((clB y1 (i + 1)).map (Value.int .u32)).length = 16) := by show _ = _; rw [List.length_map, clB_len]; exact YL1.out
                      have O2 := one_ints .u32 (clB y1 (i + 1))
                      have V1 : Hid (ag .u32 (clB y1 i) = Value.agg ((clB y1 i).map (Value.int .u32)).toArray) := rfl
                      have V2 : Hid (ag .u32 (clB y1 (i + 1)) = Value.agg ((clB y1 (i + 1)).map (Value.int .u32)).toArray) := rfl
                      simp only [V1.out, V2.out] at QC
                      obtain ⟨v1, hv1⟩ : ∃ v, v = (clB y1 i).map (Value.int .u32) := ⟨_, rfl⟩
                      obtain ⟨v2, hv2⟩ : ∃ v, v = (clB y1 (i + 1)).map (Value.int .u32) := ⟨_, rfl⟩
                      simp only [← hv1, ← hv2] at QC
                      rw [← hv1] at RG L
                      rw [← hv2] at L2 O2
                      have HV2 := hide hv2
                      clear hv1 hv2 V1 V2 CA
                      obtain ⟨a1, ha1⟩ : ∃ a, a = (i + 1) % 4 := ⟨_, rfl⟩
                      obtain ⟨a2, ha2⟩ : ∃ a, a = (i + 2) % 4 := ⟨_, rfl⟩
                      obtain ⟨a3, ha3⟩ : ∃ a, a = (i + 3) % 4 := ⟨_, rfl⟩
                      simp only [← ha1, ← ha2, ← ha3] at QC
                      have m1 : ((i : Int) + 1) % 4 = (a1 : Int) := by omega
                      have m2 : ((i : Int) + 2) % 4 = (a2 : Int) := by omega
                      have m3 : ((i : Int) + 3) % 4 = (a3 : Int) := by omega
                      have d1 : (4 : Int) + (a1 : Int) = ((4 + a1 : Nat) : Int) := by omega
                      have d2 : (8 : Int) + (a2 : Int) = ((8 + a2 : Nat) : Int) := by omega
                      have d3 : (12 : Int) + (a3 : Int) = ((12 + a3 : Nat) : Int) := by omega
                      have i4 : (i : Int) < 4 := by omega
                      have s1 : 4 + a1 ≤ 15 := by omega
                      have s2 : 8 + a2 ≤ 15 := by omega
                      have s3 : 12 + a3 ≤ 15 := by omega
                      clear ha1 ha2 ha3
                      generalize 4 + a1 = x2 at *
                      generalize 8 + a2 = x3 at *
                      generalize 12 + a3 = x4 at *
                      go_wp2_with (refine wpList_load_mid rfl 46 (.tmp 10) rfl q2 0 rfl v1 (.array 16 45) RG und16 rfl (by rw [L.out]; exact info16) ?_)
                      refine (QC wr).out.mono ?_
                      rintro e w3 ⟨rfl, n3⟩
                      obtain ⟨t5, H5⟩ := gR.up n3
                      have SR := blk_setRow (zs := clB y1 (i + 1)) ⟨t5, H5⟩
                      rw [← HV2.out] at SR
                      have OR := only_setRow w3 q2 v2.toArray
                      have S3 := (gS.up n3).of_block (OR.block w1.heap.size (by omega))
                      have N3 := (gN.trans (n3.mono gN.size)).trans (OR.below (B := w1.heap.size) (by omega))
                      clear QC RG gS gR gN n3 OR
                      go_wp2_with (refine wpList_store_row rfl 46 (.tmp 10) (.tmp 87) rfl q2 v2.toArray rfl rfl t5 _ H5 (by rw [List.size_toArray, L2.out]; exact info16) (by have a1 := L2.out; have a2 := LO.out; simp only [List.size_toArray]; omega) O2 ?_)
                      go_roundw
                      case rel => exact ⟨i + 1, by omega, by go_num, S3, SR, N3⟩
                      case measure => simp [intOf]; omega
                    · obtain rfl : i = 4 := by omega
                      try rw [show ((4 : Nat) : Int) = 4 from rfl]
                      have D8 := DB.out _ (show clB y1 4 = dbl y0 by rw [EY.out]; exact dbl_cl y0)
                      rw [D8] at gR
                      clear D8
                      go_wp2
                      go_roundw
                      case rel => exact ⟨r + 1, by omega, by go_num, gS, gR, gN⟩
                      case measure => simp [intOf]; omega
            · obtain rfl : r = rn := by have := HRN.out; omega
              have RL := hide ((rds_len sw r).trans SWL.out)
              generalize rds r sw = rs at *
              have n5 : Below wr.heap.size wr (wr.alloc (.cells #[] 5)) := (Below.refl _ _).alloc (Nat.le_refl _) _
              have R5 := RowB.lit0 wr
              have ql := hR.lt
              have z5 : (wr.alloc (.cells #[] 5)).heap.size = wr.heap.size + 1 := by simp
              go_wp2
              have S5 := hS.up n5
              have T5 := hR.up n5
              have N5 := hN.trans (n5.mono hN.size)
              have R5 := R5.base (base' := q2 + 1) (by omega)
              generalize wr.alloc (.cells #[] 5) = wf at *
              clear hS hR hN n5
              go_loopw [14, 15] (fun v u wr => ∃ (n : Nat), n ≤ 16 ∧ u = .int .i64 n ∧ RowB wr (q2 + 1) v (oL sw rs n) ∧ Blk wr w1.heap.size .u32 sw ∧ Blk wr q2 .u32 rs ∧ q2 + 1 ≤ wr.heap.size ∧ Below w1.heap.size w1 wr) (fun _ u _ => 16 - (intOf u).toNat)
              case atStart => exact ⟨0, Nat.zero_le _, rfl, R5, S5, T5, by omega, N5⟩
              case round =>
                obtain ⟨n, hn, rfl, hV, hS, hR, hz, hN⟩ := hrel
                clear R5 S5 T5 N5 z5
                by_cases nlt : n < 16
                · have c1 := hS.cell (i := n) (by rw [SWL.out]; exact nlt)
                  have c2 := hR.cell (i := n) (by rw [RL.out]; exact nlt)
                  have n16 : (n : Int) < 16 := by omega
                  have OE : Hid (oL sw rs (n + 1) = oL sw rs n ++ oW ((rs.getD n 0 + sw.getD n 0) % 4294967296)) := rfl
                  have OLn := hide (oL_len sw rs n)
                  generalize sw.getD n 0 = s1 at *
                  generalize rs.getD n 0 = s2 at *
                  go_wp2_with fail
                  go_quiet (fail)
                  obtain ⟨v, hv⟩ : ∃ v, v = (s2 + s1) % 4294967296 := ⟨_, rfl⟩
                  simp only [← hv] at OE ⊢
                  have v0 : 0 ≤ v := by omega
                  have v1 : v < 4294967296 := by omega
                  have hV' : RowB (wr.drewN nq) (q2 + 1) _ (oL sw rs n) := hV
                  have hS' : Blk (wr.drewN nq) w1.heap.size .u32 sw := hS
                  have hR' : Blk (wr.drewN nq) q2 .u32 rs := hR
                  have hN' := below_drewN hN nq
                  have hz' : q2 + 1 ≤ (wr.drewN nq).heap.size := hz
                  clear hv c1 c2 hV hS hR hN hz
                  generalize wr.drewN nq = ws at *
                  have n6 : Below ws.heap.size ws (ws.alloc (.cells #[.int .u8 (v % 256), .int .u8 (v / 256 % 256), .int .u8 (v / 65536 % 256), .int .u8 (v / 16777216)] 5)) := (Below.refl _ _).alloc (Nat.le_refl _) _
                  have B6 : Blk (ws.alloc (.cells #[.int .u8 (v % 256), .int .u8 (v / 256 % 256), .int .u8 (v / 65536 % 256), .int .u8 (v / 16777216)] 5)) ws.heap.size .u8 (oW v) := blk_alloc ws .u8 5 (oW v)
                  have hap := append_any (P := Try.prog) (ws.alloc (.cells #[.int .u8 (v % 256), .int .u8 (v / 256 % 256), .int .u8 (v / 65536 % 256), .int .u8 (v / 16777216)] 5)) 22 i0 Try.underlying22 hi hz0 hz1 hz2 (q2 + 1) (q2 + 1) _ _ (hV'.up n6) _ _ 4 (oW v) B6.own0.rd (by simp) (by rw [OLn.out]; show _ + 4 ≤ _; omega) (Nat.le_refl _) (Nat.le_trans hz' n6.size)
                  rw [show (oW v).length = 4 from rfl] at hap
                  obtain ⟨v', w7, hap, o7, n7⟩ := hap
                  have S7 := (hS'.up n6).of_block (n7.block w1.heap.size (by omega))
                  have R7 := (hR'.up n6).of_block (n7.block q2 (by omega))
                  have N7 := (hN'.trans (n6.mono hN'.size)).trans (n7.mono (by omega))
                  have z7 := Nat.le_trans (Nat.le_trans hz' n6.size) n7.size
                  rw [← OE.out] at o7
                  clear B6 hV' hS' hR' hN' n6 n7 OE hz'
                  go_wp2_with (at_builtin; refine Lib.wpList_append_run _ rfl _ _ 22 22 rfl _ _ rfl rfl _ _ hap ?_)
                  clear hap
                  go_roundw
                  case rel => exact ⟨n + 1, by omega, by go_num, o7, S7, R7, z7, N7⟩
                  case measure => simp [intOf]; omega
                · have H16 := hide (show n = 16 by omega)
                  have nn : ¬ ((n : Int) < 16) := by omega
                  obtain ⟨a3, c3, g3, rfl, o3, p3, q3, r3⟩ := hV.own
                  go_wp2
                  go_ret
                  rw [OUT.out n H16.out]
                  exact ⟨⟨a3, c3, g3, rfl, o3, p3, q3, by omega⟩, hN⟩
theorem specBlock_any (w : World) (g : Nat) (a : Option Addr) (c : Nat) (key : List Int) (hr : Rd w g a .u8 key) (hb : Byt key) (hc : key.length ≤ c) (ct : Int) (g' : Nat) (a' : Option Addr) (c' : Nat) (non : List Int) (hr' : Rd w g' a' .u8 non) (hb' : Byt non) (hc' : non.length ≤ c') :
    Calls Try.prog 63 #[.slice a key.length c, .int .i64 ct, .slice a' non.length c'] w fun e w' => NewRow w.heap.size w' e .u8 (sbA key ct non) ∧ Below w.heap.size w w' := by
  by_cases hf : fitB key ct non = true
  · have h := hf
    unfold fitB at h
    simp only [Bool.and_eq_true, decide_eq_true_eq] at h
    have RS : sbA key ct non = fill (stF ((nsW key non).set 12 ct) (rds 10 ((nsW key non).set 12 ct))) 64 := by unfold sbA; rw [if_pos hf]; unfold strB stB; rfl
    rw [RS]
    exact specBlock_core w g a c key hr hb h.1.1 hc ct h.2.1 (by omega) g' a' c' non hr' hb' h.1.2 hc' hf 10 rfl
  · have RS : Hid (sbA key ct non = []) := by show _ = _; unfold sbA; rw [if_neg hf]
    rw [RS.out]
    have FT := fits_any w a a' c c' key non ct
    rw [show fitB key ct non = false by simpa using hf] at FT
    clear hf RS
    go_enter Try.func63, Try.ntmps63
    go_wp2_with fail
    refine FT.mono ?_
    rintro e w1 ⟨rfl, rfl⟩
    go_wp2
    go_ret
    exact ⟨newRow_e _ _, (Below.refl _ _).alloc (Nat.le_refl _) _⟩
end Go.Proofs.Ythfbchkonklmkaa
