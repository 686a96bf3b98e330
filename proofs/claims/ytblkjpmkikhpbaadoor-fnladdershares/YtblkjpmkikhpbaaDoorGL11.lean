import Derived.Test.YtblkjpmkikhpbaaDoorGL10
import Derived.Test.YtblkjpmkikhpbaaDoorGL8

/-
  The program's wordsBytes, bytes.
-/
namespace Go.Proofs.YtblkjpmkikhpbaaDoor
set_option maxRecDepth 100000
open Go.RowKit

set_option maxHeartbeats 4000000 in
set_option maxRecDepth 100000 in
theorem wordsBytes_any (w : World) (W : Nat → Int) (hW : W4 W) :
    Calls Tryd.prog 62 #[ag4 W] w fun e w' => e = .returned (.slice (some ⟨w.heap.size + 1, 0, none⟩) 32 32) ∧ Blk w' (w.heap.size + 1) .u8 (fill (byt (wval W)) 32) ∧ Below w.heap.size w w' := by
  obtain ⟨i0, hi, hz0, hz1, hz2⟩ := info_parts Tryd.info5
  have hal : Below w.heap.size w (w.alloc (.cells #[.int .u64 (W 0), .int .u64 (W 1), .int .u64 (W 2), .int .u64 (W 3)] 50)) := (Below.refl _ _).alloc (Nat.le_refl _) _
  have T0 := blk_box4 w .u64 50 (W 0) (W 1) (W 2) (W 3)
  have sz0 : (w.alloc (.cells #[.int .u64 (W 0), .int .u64 (W 1), .int .u64 (W 2), .int .u64 (W 3)] 50)).heap.size = w.heap.size + 1 := by simp
  simp only [ag4]
  go_enter Tryd.func62, Tryd.ntmps62
  go_wp2_with (at_make; refine wpList_make_full _ rfl _ _ 22 rfl (w.heap.size + 1) 5 i0 (.int .u8 0) 1 Tryd.underlying22 hi hz0 hz1 .i64 .i64 _ _ 32 rfl rfl rfl rfl (by rw [hz2]; omega) (by unfold maxLen; omega) (by rw [sz0]; exact Nat.le_refl _) ?_; intro w1 hown hgrow)
  have hB0 := Blk.of_made hown
  rw [sz0] at hB0
  have hN1 : Below (w.heap.size + 1) (w.alloc (.cells #[.int .u64 (W 0), .int .u64 (W 1), .int .u64 (W 2), .int .u64 (W 3)] 50)) w1 := by
    have h := (Below.refl _ _).grown hgrow (Nat.le_refl _) (by simp)
    rw [sz0] at h
    exact h
  have T1 := T0.of_block (hN1.block w.heap.size (by omega))
  have N1 : Below w.heap.size w w1 := hal.trans (hN1.mono (by omega))
  clear hown hgrow T0 hN1 hal sz0
  go_loopw [8] (fun i wr => ∃ (k : Nat) (ys : List Int), k ≤ 32 ∧ i = .int .i64 k ∧ FillTo (byt (wval W)) ys 32 k ∧ Blk wr w.heap.size .u64 [W 0, W 1, W 2, W 3] ∧ Blk wr (w.heap.size + 1) .u8 ys ∧ Below w.heap.size w wr) (fun i _ => 32 - (intOf i).toNat)
  case atStart => exact ⟨0, _, by omega, rfl, ⟨by simp, fun j hj => absurd hj (by omega)⟩, T1, hB0, N1⟩
  case round =>
    clear T1 hB0 N1
    obtain ⟨k, ys, hk, rfl, hF, hT, hB, hN⟩ := hrel
    by_cases hlt : k < 32
    · have hwb := word_byte hW k hlt
      have hst := hF.step hlt
      obtain ⟨q, hq⟩ : ∃ q : Nat, k / 8 = q := ⟨_, rfl⟩
      rw [hq] at hwb
      have hq4 : q < 4 := by omega
      have hz := hW q hq4
      have hcx : wr.cell? ⟨w.heap.size, q, none⟩ = some (.int .u64 (W q)) := by
        rw [hT.cell hq4]
        obtain rfl | rfl | rfl | rfl : q = 0 ∨ q = 1 ∨ q = 2 ∨ q = 3 := by omega
        all_goals rfl
      have hcy := hB.cell (i := k) (by rw [hF.1]; exact hlt)
      have hfy := hB.free k
      have q1 : (k : Int) / 8 = (q : Int) := by omega
      have q2 : (q : Int) < 4 := by omega
      have k2 : (k : Int) < 32 := by omega
      have S := hB.store k (byt (wval W) k)
      have S0 := hT.of_block (w' := wr.setCell ⟨w.heap.size + 1, k, none⟩ (.int .u8 (byt (wval W) k))) (heap_setCell_other wr ⟨w.heap.size + 1, k, none⟩ w.heap.size _ (by show w.heap.size ≠ w.heap.size + 1; omega))
      have Sn : Below w.heap.size w (wr.setCell ⟨w.heap.size + 1, k, none⟩ (.int .u8 (byt (wval W) k))) := hN.setCell (by show w.heap.size ≤ w.heap.size + 1; omega) _
      generalize byt (wval W) k = b at *
      have hS0 := hide S0
      generalize W q = z at *
      clear hT hB hN hF S0
      rcases (show k % 8 = 0 ∨ k % 8 = 1 ∨ k % 8 = 2 ∨ k % 8 = 3 ∨ k % 8 = 4 ∨ k % 8 = 5 ∨ k % 8 = 6 ∨ k % 8 = 7 by omega) with h4 | h4 | h4 | h4 | h4 | h4 | h4 | h4
      · have r1 : (k : Int) % 8 = 0 := by omega
        rw [h4] at hwb
        have e' : z % 256 = b := by simpa using hwb
        clear hwb
        go_wp2
        go_roundw
        case rel => exact ⟨k + 1, _, by omega, by go_num, hst, hS0.out, S, Sn⟩
        case measure => simp [intOf]; omega
      · have r1 : (k : Int) % 8 = 1 := by omega
        rw [h4] at hwb
        have e' : z / 256 % 256 = b := by simpa using hwb
        clear hwb
        go_wp2
        go_roundw
        case rel => exact ⟨k + 1, _, by omega, by go_num, hst, hS0.out, S, Sn⟩
        case measure => simp [intOf]; omega
      · have r1 : (k : Int) % 8 = 2 := by omega
        rw [h4] at hwb
        have e' : z / 65536 % 256 = b := by simpa using hwb
        clear hwb
        go_wp2
        go_roundw
        case rel => exact ⟨k + 1, _, by omega, by go_num, hst, hS0.out, S, Sn⟩
        case measure => simp [intOf]; omega
      · have r1 : (k : Int) % 8 = 3 := by omega
        rw [h4] at hwb
        have e' : z / 16777216 % 256 = b := by simpa using hwb
        clear hwb
        go_wp2
        go_roundw
        case rel => exact ⟨k + 1, _, by omega, by go_num, hst, hS0.out, S, Sn⟩
        case measure => simp [intOf]; omega
      · have r1 : (k : Int) % 8 = 4 := by omega
        rw [h4] at hwb
        have e' : z / 4294967296 % 256 = b := by simpa using hwb
        clear hwb
        go_wp2
        go_roundw
        case rel => exact ⟨k + 1, _, by omega, by go_num, hst, hS0.out, S, Sn⟩
        case measure => simp [intOf]; omega
      · have r1 : (k : Int) % 8 = 5 := by omega
        rw [h4] at hwb
        have e' : z / 1099511627776 % 256 = b := by simpa using hwb
        clear hwb
        go_wp2
        go_roundw
        case rel => exact ⟨k + 1, _, by omega, by go_num, hst, hS0.out, S, Sn⟩
        case measure => simp [intOf]; omega
      · have r1 : (k : Int) % 8 = 6 := by omega
        rw [h4] at hwb
        have e' : z / 281474976710656 % 256 = b := by simpa using hwb
        clear hwb
        go_wp2
        go_roundw
        case rel => exact ⟨k + 1, _, by omega, by go_num, hst, hS0.out, S, Sn⟩
        case measure => simp [intOf]; omega
      · have r1 : (k : Int) % 8 = 7 := by omega
        rw [h4] at hwb
        have e'' : z / 72057594037927936 % 256 = b := by simpa using hwb
        have e' : z / 72057594037927936 = b := by omega
        clear e''
        clear hwb
        go_wp2
        go_roundw
        case rel => exact ⟨k + 1, _, by omega, by go_num, hst, hS0.out, S, Sn⟩
        case measure => simp [intOf]; omega
    · obtain rfl : k = 32 := by omega
      go_wp2
      go_ret
      refine ⟨rfl, ?_, hN⟩
      rw [← hF.all]
      exact hB

set_option maxHeartbeats 4000000 in
set_option maxRecDepth 100000 in
theorem bytes_any (w : World) (e : Nat → Int) (he : Lm e) :
    Calls Tryd.prog 40 #[ag5 e] w fun r w' => NewRow w.heap.size w' r .u8 (fill (byt (sv e 5)) 32) ∧ Below w.heap.size w w' := by
  have hal : Below w.heap.size w (w.alloc (.cells #[.int .u64 (e 0), .int .u64 (e 1), .int .u64 (e 2), .int .u64 (e 3), .int .u64 (e 4)] 49)) := (Below.refl _ _).alloc (Nat.le_refl _) _
  simp only [ag5]
  go_enter Tryd.func40, Tryd.ntmps40
  go_wp2_with fail
  generalize w.alloc (.cells #[.int .u64 (e 0), .int .u64 (e 1), .int .u64 (e 2), .int .u64 (e 3), .int .u64 (e 4)] 49) = wa at *
  refine (words_any wa e he).mono ?_
  rintro r w1 ⟨rfl, n1⟩
  have N1 := nxt hal n1
  go_wp2_with fail
  refine (wordsBytes_any w1 (lw e) (lw_ok he).2).mono ?_
  rintro r w2 ⟨rfl, B, n2⟩
  rw [(lw_ok he).1] at B
  have N2 := nxt N1 n2
  go_wp2
  go_ret
  refine ⟨⟨_, 32, w1.heap.size + 1, by rw [fill_len]; rfl, B.own0, by simp, by rw [fill_len]; omega, ?_⟩, N2⟩
  have := N1.size
  omega
end Go.Proofs.YtblkjpmkikhpbaaDoor

/-
  FieldCanonical, the program's; the element of thirty-two bytes.
-/
namespace Go.Proofs.YtblkjpmkikhpbaaDoor
set_option maxRecDepth 100000
open Go.RowKit

/-- What thirty-two bytes stand for. -/
abbrev num (xs : List Int) : Int := lsum (fun j => xs.getD j 0) xs.length

def canN (xs : List Int) : Bool := decide (xs.length = 32) && decide (num xs < PP)

theorem lsum_nonneg {a : Nat → Int} (h : Bt a) : ∀ k, 0 ≤ lsum a k
  | 0 => by simp [lsum]
  | k + 1 => by
    have ih := lsum_nonneg h k
    have := Int.mul_nonneg (h k).1 (Int.le_of_lt (p256_pos k))
    rw [lsum]; omega

/-- The element of thirty-two bytes. -/
def elt (xs : List Int) : Nat → Int := stl (rl (wv (fun j => xs.getD j 0) 32))

theorem elt_ok {xs : List Int} (hb : Byt xs) (hl : xs.length = 32) : Lm (elt xs) ∧ sv (elt xs) 5 = num xs % PP := by
  have hW : W4 (wv (fun j => xs.getD j 0) 32) := fun j _ => wv_lt hb 32 j
  obtain ⟨h1, h2⟩ := rl_ok hW
  obtain ⟨h3, h4⟩ := stl_ok h2
  refine ⟨h3, ?_⟩
  show sv (stl _) 5 = _
  rw [h4, h1, wv_sum _ 32 (by omega)]
  unfold num
  rw [hl]

set_option maxHeartbeats 1000000 in
theorem isFieldSize_any (w : World) (a : Option Addr) (c n : Nat) :
    Calls Tryd.prog 35 #[.slice a n c] w fun e w' => e = .returned (.bool (decide (n = 32))) ∧ w' = w := by
  by_cases h : n = 32
  · subst h
    go_enter Tryd.func35, Tryd.ntmps35
    go_wp2
    go_ret
    exact ⟨rfl, rfl⟩
  · have t : ((n : Int) == 32) = false := by simp; omega
    have R : Hid (decide (n = 32) = false) := by show _ = _; simp [h]
    clear h
    go_enter Tryd.func35, Tryd.ntmps35
    go_wp2
    go_ret
    exact ⟨by rw [R.out]; rfl, rfl⟩

set_option maxHeartbeats 4000000 in
theorem eqWords (a0 a1 a2 a3 b0 b1 b2 b3 : Int) (w : World) :
    (Op.equalIn 10000 50 (.agg #[.int .u64 a0, .int .u64 a1, .int .u64 a2, .int .u64 a3]) (.agg #[.int .u64 b0, .int .u64 b1, .int .u64 b2, .int .u64 b3])).run Tryd.prog w = .ok (a0 == b0 && a1 == b1 && a2 == b2 && a3 == b3) w := by
  have u3 := Tryd.underlying47
  have a3' := Tryd.isAgg47
  have z3 := Tryd.sizeOf47
  rw [show (10000 : Nat) = 9999 + 1 from rfl, Op.equalIn]
  simp only [Sem.run_bind, run_underlying Tryd.underlying50, Result.andThen_ok]
  simp only [Std.Legacy.Range.forIn_eq_forIn_range', Std.Legacy.Range.size, Nat.sub_zero, Nat.add_sub_cancel, Nat.div_one, List.range'_succ, List.range'_zero, List.forIn_cons, List.forIn_nil]
  go_simp
  by_cases h0 : a0 = b0 <;> by_cases h1 : a1 = b1 <;> by_cases h2 : a2 = b2 <;> by_cases h3 : a3 = b3 <;> simp [h0, h1, h2, h3]

end Go.Proofs.YtblkjpmkikhpbaaDoor

/-
  The program's sum of two elements.
-/
namespace Go.Proofs.YtblkjpmkikhpbaaDoor
set_option maxRecDepth 100000
open Go.RowKit

/-- Two sums of limbs. -/
def addU (e f : Nat → Int) (j : Nat) : Int := if j < 5 then e j + f j else 0
theorem add_ok {e f : Nat → Int} (he : Lm e) (hf : Lm f) : (∀ j, 0 ≤ addU e f j ∧ addU e f j < 9223372036854775808) ∧ sv (stl (addU e f)) 5 = (sv e 5 + sv f 5) % PP ∧ Lm (stl (addU e f)) := by
  have b : ∀ j, 0 ≤ addU e f j ∧ addU e f j < 9223372036854775808 := fun j => by
    unfold addU
    split
    · have := he j (by omega); have := hf j (by omega); omega
    · omega
  obtain ⟨h1, h2⟩ := stl_ok b
  refine ⟨b, ?_, h1⟩
  rw [h2]
  congr 1
  simp [sv, addU]
  omega

theorem Blk.at5 {w : World} {g : Nat} {u : Nat → Int} (h : Blk w g .u64 [u 0, u 1, u 2, u 3, u 4]) {k : Nat} (hk : k < 5) : w.cell? ⟨g, k, none⟩ = some (.int .u64 (u k)) := by
  rw [h.cell hk, (Upd.zero u u).2.2 k (by omega) hk]
theorem Blk.keep {w : World} {g g' k : Nat} {kk : IntKind} {ys : List Int} {v : Value} (h : Blk w g kk ys) (hne : g ≠ g') : Blk (w.setCell ⟨g', k, none⟩ v) g kk ys :=
  h.of_block (heap_setCell_other w ⟨g', k, none⟩ g v hne)

set_option maxHeartbeats 4000000 in
set_option maxRecDepth 100000 in
theorem add_any (w : World) (e f : Nat → Int) (he : Lm e) (hf : Lm f) :
    Calls Tryd.prog 76 #[ag5 e, ag5 f] w fun r w' => r = .returned (ag5 (stl (addU e f))) ∧ Below w.heap.size w w' := by
  have B0 := blk_box w .u64 49 (e 0) (e 1) (e 2) (e 3) (e 4)
  have n0 : Below w.heap.size w (w.alloc (.cells #[.int .u64 (e 0), .int .u64 (e 1), .int .u64 (e 2), .int .u64 (e 3), .int .u64 (e 4)] 49)) := (Below.refl _ _).alloc (Nat.le_refl _) _
  have s0 : (w.alloc (.cells #[.int .u64 (e 0), .int .u64 (e 1), .int .u64 (e 2), .int .u64 (e 3), .int .u64 (e 4)] 49)).heap.size = w.heap.size + 1 := by simp
  simp only [ag5]
  go_enter Tryd.func76, Tryd.ntmps76
  go_wp2
  generalize w.alloc (.cells #[.int .u64 (e 0), .int .u64 (e 1), .int .u64 (e 2), .int .u64 (e 3), .int .u64 (e 4)] 49) = wa at *
  have B1 := blk_box wa .u64 49 (f 0) (f 1) (f 2) (f 3) (f 4)
  have n1 : Below wa.heap.size wa (wa.alloc (.cells #[.int .u64 (f 0), .int .u64 (f 1), .int .u64 (f 2), .int .u64 (f 3), .int .u64 (f 4)] 49)) := (Below.refl _ _).alloc (Nat.le_refl _) _
  have s1 : (wa.alloc (.cells #[.int .u64 (f 0), .int .u64 (f 1), .int .u64 (f 2), .int .u64 (f 3), .int .u64 (f 4)] 49)).heap.size = w.heap.size + 1 + 1 := by simp [s0]
  generalize wa.alloc (.cells #[.int .u64 (f 0), .int .u64 (f 1), .int .u64 (f 2), .int .u64 (f 3), .int .u64 (f 4)] 49) = wb at *
  have B2 := blk_box wb .u64 49 0 0 0 0 0
  have n2 : Below wb.heap.size wb (wb.alloc (.cells #[.int .u64 0, .int .u64 0, .int .u64 0, .int .u64 0, .int .u64 0] 49)) := (Below.refl _ _).alloc (Nat.le_refl _) _
  have s2 : (wb.alloc (.cells #[.int .u64 0, .int .u64 0, .int .u64 0, .int .u64 0, .int .u64 0] 49)).heap.size = w.heap.size + 1 + 1 + 1 := by simp [s1]
  generalize wb.alloc (.cells #[.int .u64 0, .int .u64 0, .int .u64 0, .int .u64 0, .int .u64 0] 49) = wc at *
  have B3 := blk_box wc .u64 89 0 0 0 0 0
  have n3 : Below wc.heap.size wc (wc.alloc (.cells #[.int .u64 0, .int .u64 0, .int .u64 0, .int .u64 0, .int .u64 0] 89)) := (Below.refl _ _).alloc (Nat.le_refl _) _
  generalize wc.alloc (.cells #[.int .u64 0, .int .u64 0, .int .u64 0, .int .u64 0, .int .u64 0] 89) = wd at *
  have E0 := ((B0.up n1).up n2).up n3
  have E1 := (B1.up n2).up n3
  have E2 := B2.up n3
  have N := nxt (nxt (nxt n0 n1) n2) n3
  rw [s0] at E1
  rw [s1] at E2
  rw [s2] at B3
  clear B0 B1 B2 n0 n1 n2 n3 s0 s1 s2
  go_loopw [7] (fun i wr => ∃ (k : Nat) (ys : List Int), k ≤ 5 ∧ i = .int .i64 k ∧ Upd (addU e f) (fun _ => 0) ys k ∧ Blk wr w.heap.size .u64 [e 0, e 1, e 2, e 3, e 4] ∧ Blk wr (w.heap.size + 1) .u64 [f 0, f 1, f 2, f 3, f 4] ∧ Blk wr (w.heap.size + 1 + 1) .u64 [0, 0, 0, 0, 0] ∧ Blk wr (w.heap.size + 1 + 1 + 1) .u64 ys ∧ Below w.heap.size w wr) (fun i _ => 5 - (intOf i).toNat)
  case atStart => exact ⟨0, _, by omega, rfl, Upd.zero _ (fun _ => 0), E0, E1, E2, B3, N⟩
  case round =>
    clear E0 E1 E2 B3 N
    obtain ⟨k, ys, hk, rfl, hU, hE, hF, hR, hB, hN⟩ := hrel
    by_cases hlt : k < 5
    · have R := hU.step hlt
      have ce := hE.at5 hlt
      have cf := hF.at5 hlt
      have hcy := hB.cell (i := k) (by rw [hU.1]; exact hlt)
      have hfy := hB.free k
      have eb := he k hlt
      have fb := hf k hlt
      have k2 : (k : Int) < 5 := by omega
      have E : addU e f k = e k + f k := by unfold addU; rw [if_pos hlt]
      have S := hB.store k (e k + f k)
      have SE := hide (hE.keep (g' := w.heap.size + 1 + 1 + 1) (k := k) (v := .int .u64 (e k + f k)) (by omega))
      have SF := hide (hF.keep (g' := w.heap.size + 1 + 1 + 1) (k := k) (v := .int .u64 (e k + f k)) (by omega))
      have SR := hR.keep (g' := w.heap.size + 1 + 1 + 1) (k := k) (v := .int .u64 (e k + f k)) (by omega)
      have Sn : Below w.heap.size w (wr.setCell ⟨w.heap.size + 1 + 1 + 1, k, none⟩ (.int .u64 (e k + f k))) := hN.setCell (by show w.heap.size ≤ w.heap.size + 1 + 1 + 1; omega) _
      rw [E] at R
      clear hU hE hF hR hB hN he hf E
      generalize e k = x at *
      generalize f k = y at *
      go_wp2
      go_region
      go_wp2
      go_roundw
      case rel => exact ⟨k + 1, _, by omega, by go_num, R, SE.out.drew, SF.out.drew, SR.drew, S.drew, Sn.drew⟩
      case measure => simp [intOf]; omega
    · obtain rfl : k = 5 := by omega
      have hy := hU.all
      subst hy
      have A := add_ok he hf
      obtain ⟨⟨q0, q1, q2, q3, q4⟩, _⟩ := hB.f5
      go_wp2_with fail
      refine (settle_any wr (addU e f) A.1).mono ?_
      rintro r w1 ⟨rfl, n1⟩
      obtain ⟨⟨p0, p1, p2, p3, p4⟩, ⟨g0, g1, g2, g3, g4⟩⟩ := (hR.up n1).f5
      have N1 := nxt hN n1
      obtain ⟨t, ht⟩ : ∃ t, t = stl (addU e f) := ⟨_, rfl⟩
      have hT : Hid (t = stl (addU e f)) := ht
      rw [← ht]
      clear hU hE hF hR hB hN A n1 q0 q1 q2 q3 q4 ht
      simp only [ag5]
      go_wp2
      exact bodyPost_ret (v := ag5 t) (by simp [ag5, results, Tryd.results76, go_sem, p0, p1, p2, p3, p4]) rfl ⟨by rw [hT.out]; rfl, below_set5 N1 (by omega) _ _ _ _ _⟩
end Go.Proofs.YtblkjpmkikhpbaaDoor
