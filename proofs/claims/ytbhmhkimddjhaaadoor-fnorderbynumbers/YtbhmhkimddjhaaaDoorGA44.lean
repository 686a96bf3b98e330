import Derived.Test.YtbhmhkimddjhaaaDoorGA42
import Derived.Test.YtbhmhkimddjhaaaDoorGA43
import Derived.Deep.MidRow
/-
  The program's reduction of eight words.
-/
namespace Go.Proofs.YtbhmhkimddjhaaaDoor
set_option maxRecDepth 100000
open Go.RowKit

/-- The words of the folds, one behind the other. -/
def fdL : List Int := (List.range 16).map (fun k => fw (k / 4) (k % 4))
def fdA : Array Value := (fdL.map (Value.int .u64)).toArray
theorem u91 : Tryd.prog.underlying 91 = some (.array 4 51) := by kernel_rfl
theorem i91 : (Tryd.prog.info? 91).map (·.size) = some fdA.toList.length := by kernel_rfl
theorem fd_range {W : World} {g : Nat} (h : HasW W g (fun k => fw (k / 4) (k % 4)) 16) : W.rangeAt g 0 fdA.toList := by
  intro j v hv
  have hj : j < 16 := by
    have := (List.getElem?_eq_some_iff.1 hv).1
    simpa [fdA, fdL] using this
  have e : fdA.toList[j]? = some (Value.int .u64 (fw (j / 4) (j % 4))) := by
    simp [fdA, fdL, hj]
  rw [Nat.zero_add, h j hj, ← e]; exact hv
theorem fd_idx (k : Nat) (hk : k < 4) (W : World) : (Instr.index 91 (.agg fdA) (.int .i64 (k : Int))).run Tryd.prog W = .ok (.agg #[.int .u64 (fw k 0), .int .u64 (fw k 1), .int .u64 (fw k 2), .int .u64 (fw k 3)]) W := by
  obtain rfl | rfl | rfl | rfl : k = 0 ∨ k = 1 ∨ k = 2 ∨ k = 3 := by omega
  all_goals kernel_rfl
abbrev set8 (W : World) (q : Nat) (u : Nat → Int) : World :=
  (((((((W.setCell ⟨q, 0, none⟩ (.int .u64 (u 0))).setCell ⟨q, 1, none⟩ (.int .u64 (u 1))).setCell ⟨q, 2, none⟩ (.int .u64 (u 2))).setCell ⟨q, 3, none⟩ (.int .u64 (u 3))).setCell ⟨q, 4, none⟩ (.int .u64 (u 4))).setCell ⟨q, 5, none⟩ (.int .u64 (u 5))).setCell ⟨q, 6, none⟩ (.int .u64 (u 6))).setCell ⟨q, 7, none⟩ (.int .u64 (u 7))
theorem set8_same {W : World} {q : Nat} {a b c d e f g h : Int} (u : Nat → Int) (B : Blk W q .u64 [a, b, c, d, e, f, g, h]) : Blk (set8 W q u) q .u64 (c8 u) :=
  (((((((B.store 0 _).store 1 _).store 2 _).store 3 _).store 4 _).store 5 _).store 6 _).store 7 _
theorem blk_set {W : World} {g p i : Nat} {k : IntKind} {ys : List Int} {v : Value} (h : Blk W g k ys) (hne : g ≠ p) : Blk (W.setCell ⟨p, i, none⟩ v) g k ys := h.of_block (heap_setCell_other W ⟨p, i, none⟩ g v hne)
theorem set8_keep {W : World} {q g : Nat} {k : IntKind} {ys : List Int} {u : Nat → Int} (B : Blk W g k ys) (hne : g ≠ q) : Blk (set8 W q u) g k ys :=
  blk_set (blk_set (blk_set (blk_set (blk_set (blk_set (blk_set (blk_set B hne) hne) hne) hne) hne) hne) hne) hne

set_option maxHeartbeats 8000000 in
theorem doubleReduce_any (w : World) (D : Nat → Int) (hD : W8 D) (hO : HasO w) :
    Calls Tryd.prog 56 #[ag8 D] w fun r w' => r = .returned (ag4 (rdD D)) ∧ Below w.heap.size w w' := by
  obtain ⟨hov, hw8, _, _, _, _⟩ := fd_all hD
  have B0 := blk_box8 w .u64 56 (D 0) (D 1) (D 2) (D 3) (D 4) (D 5) (D 6) (D 7)
  have n0 : Below w.heap.size w (w.alloc (.cells #[.int .u64 (D 0), .int .u64 (D 1), .int .u64 (D 2), .int .u64 (D 3), .int .u64 (D 4), .int .u64 (D 5), .int .u64 (D 6), .int .u64 (D 7)] 56)) := (Below.refl _ _).alloc (Nat.le_refl _) _
  have s0 : (w.alloc (.cells #[.int .u64 (D 0), .int .u64 (D 1), .int .u64 (D 2), .int .u64 (D 3), .int .u64 (D 4), .int .u64 (D 5), .int .u64 (D 6), .int .u64 (D 7)] 56)).heap.size = w.heap.size + 1 := by simp
  simp only [ag8]
  go_enter Tryd.func56, Tryd.ntmps56
  go_upto_region 1 with fail
  generalize w.alloc (.cells #[.int .u64 (D 0), .int .u64 (D 1), .int .u64 (D 2), .int .u64 (D 3), .int .u64 (D 4), .int .u64 (D 5), .int .u64 (D 6), .int .u64 (D 7)] 56) = wa at *
  have B1 := blk_box4 wa .u64 51 0 0 0 0
  have n1 : Below wa.heap.size wa (wa.alloc (.cells #[.int .u64 0, .int .u64 0, .int .u64 0, .int .u64 0] 51)) := (Below.refl _ _).alloc (Nat.le_refl _) _
  have s1 : (wa.alloc (.cells #[.int .u64 0, .int .u64 0, .int .u64 0, .int .u64 0] 51)).heap.size = w.heap.size + 1 + 1 := by simp [s0]
  generalize wa.alloc (.cells #[.int .u64 0, .int .u64 0, .int .u64 0, .int .u64 0] 51) = wb at *
  have B0' := (B0.up n1).f8.1
  obtain ⟨p0, p1, p2, p3, _, _, _, _⟩ := B0'
  have B2 := blk_box8 wb .u64 56 (D 0) (D 1) (D 2) (D 3) 0 0 0 0
  have n2 : Below wb.heap.size wb (wb.alloc (.cells #[.int .u64 (D 0), .int .u64 (D 1), .int .u64 (D 2), .int .u64 (D 3), .int .u64 0, .int .u64 0, .int .u64 0, .int .u64 0] 56)) := (Below.refl _ _).alloc (Nat.le_refl _) _
  have hR := hide (fd_range (hO.2.2.up (nxt (nxt n0 n1) n2)))
  go_upto_region 2 with fail
  go_wp2_with (refine wpList_load_mid rfl 91 (Operand.global 1) rfl 1 0 rfl fdA.toList (.array 4 51) hR.out u91 rfl i91 ?_)
  clear hR
  generalize wb.alloc (.cells #[.int .u64 (D 0), .int .u64 (D 1), .int .u64 (D 2), .int .u64 (D 3), .int .u64 0, .int .u64 0, .int .u64 0, .int .u64 0] 56) = wc at *
  rw [s0] at B1
  rw [s1] at B2
  have E0 := (B0.up n1).up n2
  have E1 := B1.up n2
  have N := nxt (nxt n0 n1) n2
  have E2 : Blk wc (w.heap.size + 1 + 1) .u64 (c8 (fd D 0)) := B2
  clear B0 B1 B2 n0 n1 n2 s0 s1 p0 p1 p2 p3
  go_loopw [17] (fun i wr => ∃ k : Nat, k ≤ 4 ∧ i = .int .i64 k ∧ Blk wr w.heap.size .u64 (c8 D) ∧ Blk wr (w.heap.size + 1) .u64 [0, 0, 0, 0] ∧ Blk wr (w.heap.size + 1 + 1) .u64 (c8 (fd D k)) ∧ Below w.heap.size w wr) (fun i _ => 4 - (intOf i).toNat)
  case atStart => exact ⟨0, by omega, rfl, E0, E1, E2, N⟩
  case round =>
    clear E0 E1 E2 N
    obtain ⟨k, hk, rfl, hB, hR, hF, hN⟩ := hrel
    by_cases hlt : k < 4
    · have IX := fd_idx k hlt
      have dk := hD (4 + k) (by omega)
      have e1 : adT 0 (D (4 + k)) (fw k) (fd D k) = fd D (k + 1) := rfl
      have AT0 := fun W => addTimes_any W (fd D k) (fw k) 0 (D (4 + k)) (by omega) dk (fw_W4 k hlt) (hw8 k hk) (by simpa using hov k hlt)
      rw [e1] at AT0
      have cd0 : (c8 D).getD (4 + k) 0 = D (4 + k) := c8_get _ _ (by omega)
      have yl : (c8 D).length = 8 := rfl
      have T0 := blk_box4 wr .u64 51 (fw k 0) (fw k 1) (fw k 2) (fw k 3)
      have n0 : Below wr.heap.size wr (wr.alloc (.cells #[.int .u64 (fw k 0), .int .u64 (fw k 1), .int .u64 (fw k 2), .int .u64 (fw k 3)] 51)) := (Below.refl _ _).alloc (Nat.le_refl _) _
      have sn : (wr.alloc (.cells #[.int .u64 (fw k 0), .int .u64 (fw k 1), .int .u64 (fw k 2), .int .u64 (fw k 3)] 51)).heap.size = wr.heap.size + 1 := by simp
      have hB1 := hB.up n0
      have hR1 := hR.up n0
      have hF1 := hF.up n0
      have hN1 := nxt hN n0
      have ll := hF.lt
      clear hB hR hF hN
      generalize fw k = t at *
      obtain ⟨f, hf⟩ : ∃ f, f = fd D (k + 1) := ⟨_, rfl⟩
      have HF : Hid (f = fd D (k + 1)) := hf
      rw [← hf] at AT0
      clear hf e1
      generalize fd D k = F at *
      obtain ⟨yd, hyd⟩ : ∃ yd, yd = c8 D := ⟨_, rfl⟩
      have HYD : Hid (yd = c8 D) := hyd
      rw [← hyd] at hB1 cd0 yl
      generalize D (4 + k) = dv at *
      have k2 : (k : Int) < 4 := by omega
      go_upto_region 5 with fail
      generalize wr.alloc (.cells #[.int .u64 (t 0), .int .u64 (t 1), .int .u64 (t 2), .int .u64 (t 3)] 51) = wn at *
      obtain ⟨G, hG⟩ : ∃ G, G = wr.heap.size := ⟨_, rfl⟩
      rw [← hG] at T0 sn ll ⊢
      clear n0 hG hyd
      have kk : IntKind.i64.wrap (4 + (k : Int)) = 4 + (k : Int) := by rw [IntKind.wrap_i64]; omega
      have kl : (4 : Int) + (k : Int) < 8 := by omega
      have k0 : (0 : Int) ≤ 4 + (k : Int) := by omega
      have kt : ((4 : Int) + (k : Int)).toNat = 4 + k := by omega
      have SB : Hid (∀ W, Below wn.heap.size wn W → W.cell? ⟨w.heap.size, 4 + k, none⟩ = some (.int .u64 dv) ∧ W.cell? ⟨G, 0, none⟩ = some (.int .u64 (t 0)) ∧ W.cell? ⟨G, 1, none⟩ = some (.int .u64 (t 1)) ∧ W.cell? ⟨G, 2, none⟩ = some (.int .u64 (t 2)) ∧ W.cell? ⟨G, 3, none⟩ = some (.int .u64 (t 3))) := by
        intro W n
        obtain ⟨x0, x1, x2, x3⟩ := (T0.up n).f4.1
        exact ⟨by rw [(hB1.up n).cell (by omega), cd0], x0, x1, x2, x3⟩
      have SS : Hid (∀ W, Below wn.heap.size wn W → (fun W => W.cell? ⟨w.heap.size, 4 + k, none⟩ = some (.int .u64 dv) ∧ W.cell? ⟨G, 0, none⟩ = some (.int .u64 (t 0)) ∧ W.cell? ⟨G, 1, none⟩ = some (.int .u64 (t 1)) ∧ W.cell? ⟨G, 2, none⟩ = some (.int .u64 (t 2)) ∧ W.cell? ⟨G, 3, none⟩ = some (.int .u64 (t 3))) (set8 W (w.heap.size + 1 + 1) f)) := by
        intro W n
        obtain ⟨x0, x1, x2, x3⟩ := (set8_keep (q := w.heap.size + 1 + 1) (u := f) (T0.up n) (by omega)).f4.1
        exact ⟨by rw [(set8_keep (q := w.heap.size + 1 + 1) (u := f) (hB1.up n) (by omega)).cell (by omega), cd0], x0, x1, x2, x3⟩
      have AT : Hid (∀ W, Below wn.heap.size wn W → Calls Tryd.prog 95 #[.agg #[.int .u64 (F 0), .int .u64 (F 1), .int .u64 (F 2), .int .u64 (F 3), .int .u64 (F 4), .int .u64 (F 5), .int .u64 (F 6), .int .u64 (F 7)], .int .i64 0, .int .u64 dv, .agg #[.int .u64 (t 0), .int .u64 (t 1), .int .u64 (t 2), .int .u64 (t 3)]] W fun r w' => r = .returned (.agg #[.int .u64 (f 0), .int .u64 (f 1), .int .u64 (f 2), .int .u64 (f 3), .int .u64 (f 4), .int .u64 (f 5), .int .u64 (f 6), .int .u64 (f 7)]) ∧ Below wn.heap.size wn w') := by
        intro W n
        refine (AT0 W).mono ?_
        rintro r w' ⟨rfl, n'⟩
        exact ⟨rfl, nxt n n'⟩
      have FB : Hid (∀ W, Below wn.heap.size wn W → Blk W (w.heap.size + 1 + 1) .u64 [F 0, F 1, F 2, F 3, F 4, F 5, F 6, F 7]) := fun W n => hF1.up n
      have nd : Below wn.heap.size wn wn.drew := (Below.refl _ _).drew
      obtain ⟨⟨y0, y1, y2, y3, y4, y5, y6, y7⟩, _⟩ := ((unhide FB) wn (Below.refl _ _)).f8
      clear AT0 IX T0
      obtain ⟨xd, x0, x1, x2, x3⟩ := (unhide SB) wn (Below.refl _ _)
      clear SB SS
      go_region_with
        (first
          | (go_at_call 95; refine ((unhide AT) _ nd).mono ?_; rintro r wm ⟨rfl, nm⟩; obtain ⟨⟨z0, z1, z2, z3, z4, z5, z6, z7⟩, ⟨g0, g1, g2, g3, g4, g5, g6, g7⟩⟩ := ((unhide FB) wm nm).f8))
      all_goals
        have S0 := set8_keep (q := w.heap.size + 1 + 1) (u := f) (hB1.up nm) (by omega)
        have S1 := set8_keep (q := w.heap.size + 1 + 1) (u := f) (hR1.up nm) (by omega)
        have S2 := set8_same f ((unhide FB) wm nm)
        have S3 : Below w.heap.size w (set8 wm (w.heap.size + 1 + 1) f) := below_set8 (nxt hN1 nm) (by omega) _ _ _ _ _ _ _ _
        rw [HYD.out] at S0
        rw [HF.out] at S2
        have HS2 := hide S2
        clear AT FB nd hB1 hR1 hF1 hN1 y0 y1 y2 y3 y4 y5 y6 y7 z0 z1 z2 z3 z4 z5 z6 z7 g0 g1 g2 g3 g4 g5 g6 g7 S2 HYD cd0 yl xd x0 x1 x2 x3
        go_wp2
        go_roundw
        case rel => exact ⟨k + 1, by omega, by go_num, S0, S1, by rw [HF.out]; exact HS2.out, S3⟩
        case measure => simp [intOf]; omega
    · obtain rfl : k = 4 := by omega
      have w8 := hw8 4 (by omega)
      have LT0 := fun W (h : Below w.heap.size w W) => lessTimes_any W (fd D 4) q16 (fd D 4 4) (w8 4 (by omega)) (fun j hj => w8 j (by omega)) q16_W4 (hO.1.up h)
      have RD0 := fun W (h : Below w.heap.size w W) => scalarReduce_any W (lsT (fd D 4 4) (fd D 4) q16) (lsT_fd hD).1 (hO.1.up h)
      have HF : Hid (rdD D = rdS (lsT (fd D 4 4) (fd D 4) q16)) := rfl
      have T0 := blk_box4 wr .u64 51 (fd D 4 0) (fd D 4 1) (fd D 4 2) (fd D 4 3)
      have n0 : Below wr.heap.size wr (wr.alloc (.cells #[.int .u64 (fd D 4 0), .int .u64 (fd D 4 1), .int .u64 (fd D 4 2), .int .u64 (fd D 4 3)] 51)) := (Below.refl _ _).alloc (Nat.le_refl _) _
      have hN1 := nxt hN n0
      have hR1 := hR.up n0
      obtain ⟨⟨y0, y1, y2, y3, y4, _, _, _⟩, _⟩ := hF.f8
      obtain ⟨⟨_, _, _, _, v4, _, _, _⟩, _⟩ := (hF.up n0).f8
      obtain ⟨q0, q1, q2, q3⟩ := (hO.2.1.up hN1).f4
      generalize lsT (fd D 4 4) (fd D 4) q16 = l at *
      generalize fd D 4 = F at *
      obtain ⟨f, hf⟩ : ∃ f, f = rdS l := ⟨_, rfl⟩
      have HF2 : Hid (f = rdS l) := hf
      rw [← hf] at RD0
      obtain ⟨q, hq⟩ : ∃ q, q = q16 := ⟨_, rfl⟩
      rw [← hq] at LT0 q0 q1 q2 q3
      clear hf hq hB hF hN n0 hov hw8 w8 hO hR
      simp only [ag4] at LT0 RD0
      go_wp2_with fail
      generalize wr.alloc (.cells #[.int .u64 (F 0), .int .u64 (F 1), .int .u64 (F 2), .int .u64 (F 3)] 51) = wn at *
      refine (LT0 wn hN1).mono ?_
      rintro r w1 ⟨rfl, n1⟩
      have N1 := nxt hN1 n1
      go_wp2_with fail
      refine (RD0 w1 N1).mono ?_
      rintro r w2 ⟨rfl, n2⟩
      have N2 := nxt N1 n2
      have R2 := (hR1.up n1).up n2
      obtain ⟨⟨r0, r1, r2, r3⟩, ⟨g0, g1, g2, g3⟩⟩ := R2.f4
      clear LT0 RD0 N1 hN1 hR1 n1 n2 T0 y0 y1 y2 y3 y4 v4 q0 q1 q2 q3
      go_wp2
      refine bodyPost_ret (v := ag4 f) (by simp [ag4, results, Tryd.results56, go_sem, r0, r1, r2, r3]) rfl ⟨by rw [HF.out, HF2.out], ?_⟩
      exact below_set4 N2 (by omega) _ _ _ _
end Go.Proofs.YtbhmhkimddjhaaaDoor
