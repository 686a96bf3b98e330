
/-
  The hash answers a row that may be appended to (written by gens/her.py).
-/
import Derived.Test.YtnfciobpfiibcaaDoorHe32
import Derived.Test.YtnfciobpfiibcaaDoorApd
namespace Go.Proofs.YtnfciobpfiibcaaDoor
set_option maxRecDepth 100000
open Go Go.RowKit

/-- A block of bytes. -/
def Ty5 (w : World) (g : Nat) : Prop := ∃ cur, w.heap[g]? = some (.cells cur 5 (0, 0))
theorem Ty5.of_made {w : World} {base g n : Nat} {xs : List Value} (h : w.ownsRow base 5 1 (.slice (some ⟨g, 0, none⟩) n n) n xs) : Ty5 w g := by
  rcases h.2 with ⟨h', _⟩ | ⟨g', cap', cur, h', _, hg, _⟩
  · simp at h'
  · simp only [Value.slice.injEq, Option.some.injEq, Addr.mk.injEq, and_true, true_and] at h'
    obtain ⟨rfl, rfl⟩ := h'
    exact ⟨cur, hg⟩
theorem Ty5.set {w : World} {g : Nat} (h : Ty5 w g) (i : Nat) (v : Value) : Ty5 (w.setCell ⟨g, i, none⟩ v) g := by
  obtain ⟨cur, h⟩ := h
  exact ⟨_, heap_setCell_same w g i _ 5 _ h⟩
theorem RowB.of_blk {w : World} {g B : Nat} {ys : List Int} (h : Blk w g .u8 ys) (t : Ty5 w g) (hB : B ≤ g) (hl : ys.length ≤ 1048576) : RowB w B (.slice (some ⟨g, 0, none⟩) ys.length ys.length) ys := by
  obtain ⟨e, h⟩ := h
  obtain ⟨cur, t⟩ := t
  rw [t] at h
  simp only [Option.some.injEq, Obj.cells.injEq, and_true] at h
  obtain ⟨rfl, rfl⟩ := h
  refine ⟨by simp, .inr ⟨g, ys.length, _, rfl, hB, t, Nat.le_refl _, by unfold maxLen; omega, by simp, ?_⟩⟩
  show List.take (ys.length * 1) (List.map (Value.int .u8) ys) = _
  exact List.take_of_length_le (by simp)
set_option maxHeartbeats 4000000 in
theorem bytesR_32 (w : World) (s : S8) (hs : Ok32 s) :
    Calls Tryd.prog 88 #[ag8 .u32 s] w fun e w' => (∃ v, e = .returned v ∧ RowB w' w.heap.size v (tell32 s)) ∧ Below w.heap.size w w' := by
  obtain ⟨i0, hi, hz0, hz1, hz2⟩ := info_parts Tryd.info5
  have n0 : Below w.heap.size w (w.alloc (.cells #[.int .u32 s.a, .int .u32 s.b, .int .u32 s.c, .int .u32 s.d, .int .u32 s.e, .int .u32 s.f, .int .u32 s.g, .int .u32 s.h] 52)) := (Below.refl _ _).alloc (Nat.le_refl _) _
  have B0 := blk_ag8 w .u32 52 s
  have z0 : (w.alloc (.cells #[.int .u32 s.a, .int .u32 s.b, .int .u32 s.c, .int .u32 s.d, .int .u32 s.e, .int .u32 s.f, .int .u32 s.g, .int .u32 s.h] 52)).heap.size = w.heap.size + 1 := by simp
  have TL := hide (tell_len32 s)
  have TG := fun i h => hide (tell_get32 s i h)
  have SW : ∀ p, p < 8 → Wd32 (s.l.getD p 0) := by
    obtain ⟨h1, h2, h3, h4, h5, h6, h7, h8⟩ := hs
    intro p hp
    obtain rfl | rfl | rfl | rfl | rfl | rfl | rfl | rfl : p = 0 ∨ p = 1 ∨ p = 2 ∨ p = 3 ∨ p = 4 ∨ p = 5 ∨ p = 6 ∨ p = 7 := by omega
    all_goals assumption
  simp only [ag8]
  go_enter Tryd.func88, Tryd.ntmps88
  go_wp2_with fail
  generalize w.alloc (.cells #[.int .u32 s.a, .int .u32 s.b, .int .u32 s.c, .int .u32 s.d, .int .u32 s.e, .int .u32 s.f, .int .u32 s.g, .int .u32 s.h] 52) = wa at *
  refine (wordSize_32 wa).mono ?_
  rintro r wa' ⟨rfl, rfl⟩
  go_wp2_with (at_make; refine wpList_make_full _ rfl _ _ 22 rfl wa'.heap.size 5 i0 (.int .u8 0) 1 Tryd.underlying22 hi hz0 hz1 .i64 .i64 _ _ 32 rfl rfl rfl rfl (by rw [hz2]; decide) (by unfold maxLen; decide) (Nat.le_refl _) ?_; intro w5 hown hgrow)
  have hB0 := Blk.of_made hown
  have T0 := Ty5.of_made hown
  have hN0 : Below wa'.heap.size wa' w5 := (Below.refl _ _).grown hgrow (Nat.le_refl _) (by simp)
  have B0 := B0.up hN0
  have N := nxt n0 hN0
  rw [z0] at hB0 T0
  have CP : CopyTo (tell32 s) (List.replicate 32 0) 0 := ⟨by rw [TL.out]; simp, fun j h => absurd h (by omega)⟩
  clear hown hgrow hN0 n0
  go_loopw [12] (fun i wr => ∃ (j : Nat) (ys : List Int), j ≤ 32 ∧ i = .int .i64 j ∧ CopyTo (tell32 s) ys j ∧ Blk wr (w.heap.size + 1) .u8 ys ∧ Ty5 wr (w.heap.size + 1) ∧ Blk wr w.heap.size .u32 s.l ∧ Below w.heap.size w wr) (fun i _ => 32 - (intOf i).toNat)
  case atStart => exact ⟨0, _, Nat.zero_le _, rfl, CP, hB0, T0, B0, N⟩
  case round =>
    obtain ⟨j, ys, hj, rfl, hC, hY, hT, hS, hN⟩ := hrel
    clear CP hB0 T0 B0 N
    by_cases hlt : j < 32
    · have R := hC.step (by rw [TL.out]; exact hlt)
      have tg := (TG j hlt).out
      have yl : ys.length = 32 := hC.1.trans TL.out
      have cs := hS.cell (i := j / 4) (by rw [S8.l_len]; omega)
      have cy := hY.cell (i := j) (by omega)
      have fy := hY.free j
      have sw := SW (j / 4) (by omega)
      have T' := hT.set j (.int .u8 ((tell32 s).getD j 0))
      have Y' := hY.store j ((tell32 s).getD j 0)
      have S' := hS.of_block (w' := wr.setCell ⟨w.heap.size + 1, j, none⟩ (.int .u8 ((tell32 s).getD j 0))) (heap_setCell_other _ ⟨w.heap.size + 1, j, none⟩ _ _ (by show w.heap.size ≠ w.heap.size + 1; omega))
      have N' : Below w.heap.size w (wr.setCell ⟨w.heap.size + 1, j, none⟩ (.int .u8 ((tell32 s).getD j 0))) := hN.setCell (by show w.heap.size ≤ w.heap.size + 1; omega) _
      rw [tg] at R Y' S' N' T'
      have d1 : (j : Int) / 4 = ((j / 4 : Nat) : Int) := by omega
      have d2 : ((j / 4 : Nat) : Int) < 8 := by omega
      have d3 : (j : Int) % 4 = ((j % 4 : Nat) : Int) := by omega
      have d4 : (3 : Int) - ((j % 4 : Nat) : Int) = ((4 - 1 - j % 4 : Nat) : Int) := by omega
      have d5 : 4 - 1 - j % 4 ≤ 3 := by omega
      have d6 : (j : Int) < 32 := by omega
      generalize ys.getD j 0 = y0 at *
      generalize j / 4 = p at *
      generalize s.l.getD p 0 = v at *
      generalize 4 - 1 - j % 4 = sh at *
      generalize j % 4 = rm at *
      obtain ⟨v0, v1⟩ := sw
      clear hC hY hS hN tg TG SW yl
      go_wp2_with fail
      go_region
      go_wp2
      go_roundw
      case rel => exact ⟨j + 1, _, by omega, by go_num, R, Y'.drew, T', S'.drew, N'.drew⟩
      case measure => simp [intOf]; omega
    · obtain rfl : j = 32 := by omega
      have K := show ys = tell32 s from CopyTo.all (by rw [TL.out]; exact hC)
      have RB := RowB.of_blk (B := w.heap.size) hY hT (by omega) (by rw [K, TL.out]; decide)
      rw [K, TL.out] at RB
      clear hC hY K
      go_wp2
      go_ret
      exact ⟨⟨_, rfl, RB⟩, hN⟩
set_option maxHeartbeats 4000000 in
theorem endR_32 (w : World) (L : Nat) (C : S8) (R : List Int) (hl : R.length = 128) (hC : Ok32 C) (hR : Byt R) (hL : L ≤ 1099511627776) (hT : HasT w 1 kL) :
    Calls Tryd.prog 70 #[.agg (hcl .u32 (L : Int) C R).toArray] w fun e w' => (∃ v, e = .returned v ∧ RowB w' w.heap.size v (endL32 L C R)) ∧ Below w.heap.size w w' := by
  have n0 : Below w.heap.size w (w.alloc (.cells (hcl .u32 (L : Int) C R).toArray 55)) := (Below.refl _ _).alloc (Nat.le_refl _) _
  have H0 := HB.alloc .u32 w 55 (L : Int) C hl
  have z0 : (w.alloc (.cells (hcl .u32 (L : Int) C R).toArray 55)).heap.size = w.heap.size + 1 := by simp
  have gl : 1 < w.heap.size := block_lt_of_cell (hT 0 (by decide))
  have PD := fun w => hide (padding_32 w (L : Int) (by omega) (by omega))
  have PB := padL_byt (L : Int) 64 8
  have PL : (padL (L : Int) 64 8).length ≤ 512 := by rw [padL_len]; have := padZ_lt (L : Int) (B := 64) (t := 8) (by decide); omega
  generalize hv : hcl .u32 (L : Int) C R = vs at *
  unfold endL32
  generalize padL (L : Int) 64 8 = pl at *
  obtain ⟨C2, hC2⟩ : ∃ s, s = whole32 C (R.take (L % 64) ++ pl) := ⟨_, rfl⟩
  have oC : Ok32 C2 := by rw [hC2]; exact whole_ok32 hC _
  rw [← hC2]
  have TK0 := fun w1 q H1 g1 a1 c1 o1 q1 h1 h2 h3 h4 => take_32 w1 q L C R H1 hC hR g1 a1 c1 pl o1 PB q1 h1 h2 h3 h4
  rw [← hC2] at TK0
  clear hC2
  go_enter Tryd.func70, Tryd.ntmps70
  go_upto_region 1 with fail
  generalize w.alloc (.cells vs.toArray 55) = wa at *
  have c0 := H0.c0
  go_wp2_with fail
  refine (PD wa).out.mono ?_
  rintro r w1 ⟨⟨a1, c1, g1, rfl, o1, p1, q1, r1⟩, n1⟩
  have H1 := H0.up n1
  have N1 := nxt n0 n1
  have TK := TK0 w1 w.heap.size H1 g1 a1 c1 o1.rd q1 (fun _ => by omega) (by omega) (hT.up N1) (by omega)
  have TKH := hide TK
  clear TK PD H0 n1 c0 H1
  go_wp2_with fail
  refine TKH.out.mono ?_
  rintro r w2 ⟨rfl, R2, H2, b2, e2, B2⟩
  have N2 : Below w.heap.size w w2 := N1.trans (B2.below (by omega) N1.size)
  have RG := H2.ch.range
  have BY := hide (bytesR_32 w2 C2 oC)
  clear TKH H2 b2 e2 B2 N1 o1 TK0
  go_wp2_with (refine wpList_load_mid rfl 52 (.tmp 7) rfl w.heap.size 1 rfl (C2.l.map (Value.int .u32)) (.array 8 47) RG row8_32 rfl (by rw [List.length_map]; exact info8_32) ?_)
  refine BY.out.mono ?_
  rintro r w3 ⟨⟨v3, rfl, R3⟩, n3⟩
  have z2 := N2.size
  go_wp2
  go_ret
  exact ⟨⟨v3, rfl, R3.base (by omega)⟩, nxt N2 n3⟩

set_option maxRecDepth 20000 in
set_option maxHeartbeats 8000000 in
theorem implHashR_32 (w : World) (g : Nat) (a : Option Addr) (c : Nat) (xs : List Int) (hr : Rd w g a .u8 xs) (hx : Byt xs) (hc : xs.length ≤ c) (hn : xs.length ≤ 1099511627776) (hS : HasT w 0 stLh) (hT : HasT w 1 kL) :
    Calls Tryd.prog 51 #[.slice a xs.length c] w fun e w' => (∃ v, e = .returned v ∧ RowB w' w.heap.size v (hashL32 xs)) ∧ Below w.heap.size w w' := by
  have NH := hide (newHashing_32 w hS)
  have gl : 1 < w.heap.size := block_lt_of_cell (hT 0 (by decide))
  have L1 := hide (hcl_len .u32 0 start32 (R := List.replicate 128 0) (by simp))
  have O1 := hcl_one .u32 0 start32 (List.replicate 128 0)
  have HO : Hid (∀ W q, W.rangeAt q 0 (hcl .u32 0 start32 (List.replicate 128 0)) → W.there q 0 137 → HB .u32 W q ((0 : Nat) : Int) start32 (List.replicate 128 0)) := fun W q h1 h2 => HB.of_range (by simp) h1 h2
  obtain ⟨d, hd, hrow⟩ := rowH_32
  generalize hcl .u32 0 start32 (List.replicate 128 0) = vs at *
  have gr : 0 < xs.length → g < w.heap.size := fun h => hr.lt h
  go_enter Tryd.func51, Tryd.ntmps51
  go_wp2_with fail
  refine NH.out.mono ?_
  rintro r w1 ⟨rfl, n1⟩
  clear NH
  have z1 := n1.size
  have HZ := HB.zero32 w1
  have TH := HZ.there
  have na : Below w1.heap.size w1 (w1.alloc zH32) := (Below.refl _ _).alloc (Nat.le_refl _) _
  have sm := World.rangeAt_setCells_same (w1.alloc zH32) w1.heap.size 0 vs (by rw [L1.out]; exact TH)
  have th2 := World.there_setCells TH w1.heap.size 0 vs
  have O2 := only_setCells (w1.alloc zH32) w1.heap.size vs 0
  have H2 := HO.out _ _ sm th2
  have N2 : Below w.heap.size w ((w1.alloc zH32).setCells w1.heap.size 0 vs) := (nxt n1 na).trans (O2.below (by omega))
  go_wp2_with (refine wpList_store_mid rfl 55 (.tmp 3) (.tmp 4) rfl w1.heap.size 0 vs.toArray rfl rfl ?hth ?hin ?hon ?_)
  case hth => exact (show (w1.alloc zH32).there w1.heap.size 0 vs.length by rw [L1.out]; exact TH)
  case hin => show _ = some vs.length; rw [L1.out]; exact infoH_32
  case hon => exact O1
  have TK := take_32 ((w1.alloc zH32).setCells w1.heap.size 0 vs) w1.heap.size 0 start32 (List.replicate 128 0) H2 start_ok32 (byt_rep0 _) g a c xs (hr.up N2) hx hc (fun h => by have := gr h; omega) (by omega) (hT.up N2) (by omega)
  rw [Nat.zero_add, Nat.zero_mod, List.take_zero, List.nil_append] at TK
  have TKH := hide TK
  clear TK HZ TH sm th2 O2 H2 na HO
  change Calls _ _ _ ((w1.alloc zH32).setCells w1.heap.size 0 vs) _
  generalize hw2 : (w1.alloc zH32).setCells w1.heap.size 0 vs = w2 at *
  refine TKH.out.mono ?_
  rintro r w3 ⟨rfl, R3, H3, b3, e3, B3⟩
  have N3 : Below w.heap.size w w3 := N2.trans (B3.below (by omega) N2.size)
  have RG := H3.range
  have L3 := hide (hcl_len .u32 (xs.length : Int) (whole32 start32 xs) H3.len)
  have EN := endR_32 w3 xs.length (whole32 start32 xs) R3 H3.len (whole_ok32 start_ok32 xs) b3 hn (hT.up N3)
  rw [hash_is32 e3] at EN
  have ENH := hide EN
  generalize hcl .u32 (xs.length : Int) (whole32 start32 xs) R3 = v3 at *
  clear EN TKH H3 b3 e3 B3 hw2 N2
  go_wp2_with (refine wpList_load_mid rfl 55 (.tmp 3) rfl w1.heap.size 0 rfl v3 d RG hd hrow (by rw [L3.out]; exact infoH_32) ?_)
  refine ENH.out.mono ?_
  rintro r w4 ⟨⟨v4, rfl, R4⟩, n4⟩
  have z3 := N3.size
  go_wp2
  go_ret
  exact ⟨⟨v4, rfl, R4.base (by omega)⟩, nxt N3 n4⟩
end Go.Proofs.YtnfciobpfiibcaaDoor
