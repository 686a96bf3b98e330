import Derived.Test.YthapcapiiknjdaaDoorGB5
import Derived.Test.YthapcapiiknjdaaDoorRows
import Derived.Lib.LaidTab
import Derived.Lib.LaidU8
import Derived.LaidMore

/-
  The program's readElement, words, wordsBytes, bytes.
-/
namespace Go.Proofs.YthapcapiiknjdaaDoor
set_option maxRecDepth 100000
open Go.RowKit

theorem Blk.f5 {w : World} {g : Nat} {k : IntKind} {a b c d e : Int} (h : Blk w g k [a, b, c, d, e]) :
    (w.cell? ⟨g, 0, none⟩ = some (.int k a) ∧ w.cell? ⟨g, 1, none⟩ = some (.int k b) ∧ w.cell? ⟨g, 2, none⟩ = some (.int k c) ∧ w.cell? ⟨g, 3, none⟩ = some (.int k d) ∧ w.cell? ⟨g, 4, none⟩ = some (.int k e)) ∧
    (w.frozen? ⟨g, 0, none⟩ = false ∧ w.frozen? ⟨g, 1, none⟩ = false ∧ w.frozen? ⟨g, 2, none⟩ = false ∧ w.frozen? ⟨g, 3, none⟩ = false ∧ w.frozen? ⟨g, 4, none⟩ = false) :=
  ⟨⟨h.cell (i := 0) (by simp), h.cell (i := 1) (by simp), h.cell (i := 2) (by simp), h.cell (i := 3) (by simp), h.cell (i := 4) (by simp)⟩, h.free 0, h.free 1, h.free 2, h.free 3, h.free 4⟩
theorem Blk.f4 {w : World} {g : Nat} {k : IntKind} {a b c d : Int} (h : Blk w g k [a, b, c, d]) :
    (w.cell? ⟨g, 0, none⟩ = some (.int k a) ∧ w.cell? ⟨g, 1, none⟩ = some (.int k b) ∧ w.cell? ⟨g, 2, none⟩ = some (.int k c) ∧ w.cell? ⟨g, 3, none⟩ = some (.int k d)) ∧
    (w.frozen? ⟨g, 0, none⟩ = false ∧ w.frozen? ⟨g, 1, none⟩ = false ∧ w.frozen? ⟨g, 2, none⟩ = false ∧ w.frozen? ⟨g, 3, none⟩ = false) :=
  ⟨⟨h.cell (i := 0) (by simp), h.cell (i := 1) (by simp), h.cell (i := 2) (by simp), h.cell (i := 3) (by simp)⟩, h.free 0, h.free 1, h.free 2, h.free 3⟩
theorem below_set5 {B : Nat} {w w' : World} (h : Below B w w') {g : Nat} (hg : B ≤ g) (a b c d e : Value) :
    Below B w (((((w'.setCell ⟨g, 0, none⟩ a).setCell ⟨g, 1, none⟩ b).setCell ⟨g, 2, none⟩ c).setCell ⟨g, 3, none⟩ d).setCell ⟨g, 4, none⟩ e) :=
  ((((h.setCell hg _).setCell hg _).setCell hg _).setCell hg _).setCell hg _

set_option maxHeartbeats 4000000 in
set_option maxRecDepth 100000 in
theorem readElement_any (w : World) (g : Nat) (a : Option Addr) (cap : Nat) (xs : List Int) (hr : Rd w g a .u8 xs) (hb : Byt xs) (hl : xs.length = 32) :
    Calls Tryd.prog 97 #[.slice a 32 cap] w fun e w' => e = .returned (ag5 (stl (rl (wv (fun j => xs.getD j 0) 32)))) ∧ Below w.heap.size w w' := by
  have hal : Below w.heap.size w (w.alloc (.cells #[.int .u64 0, .int .u64 0, .int .u64 0, .int .u64 0, .int .u64 0] 56)) := (Below.refl _ _).alloc (Nat.le_refl _) _
  have T0 := blk_box w .u64 56 0 0 0 0 0
  have sz0 : (w.alloc (.cells #[.int .u64 0, .int .u64 0, .int .u64 0, .int .u64 0, .int .u64 0] 56)).heap.size = w.heap.size + 1 := by simp
  have hW : W4 (wv (fun j => xs.getD j 0) 32) := fun j _ => wv_lt hb 32 j
  go_enter Tryd.func97, Tryd.ntmps97
  go_wp2_with fail
  generalize w.alloc (.cells #[.int .u64 0, .int .u64 0, .int .u64 0, .int .u64 0, .int .u64 0] 56) = wa at *
  refine (readWords_any wa g a cap xs (hr.up hal) hb hl).mono ?_
  rintro e w1 ⟨rfl, n1⟩
  have T1 := T0.up n1
  have N1 := nxt hal n1
  have l1 : w.heap.size + 1 ≤ w1.heap.size := by have := n1.size; omega
  obtain ⟨W, hWe⟩ : ∃ W, W = wv (fun j => xs.getD j 0) 32 := ⟨_, rfl⟩
  have hE : Hid (W = wv (fun j => xs.getD j 0) 32) := hWe
  rw [← hWe] at hW ⊢
  clear hal T0 sz0 n1 hb hr hWe
  have h0 := hW 0 (by omega); have h1 := hW 1 (by omega); have h2 := hW 2 (by omega); have h3 := hW 3 (by omega)
  have m0 := mask51 (W 0) h0.1 h0.2
  have o1 : bits BinOp.or IntKind.u64 (W 0 / 2251799813685248) (IntKind.u64.wrap (W 1 * 8192)) = W 0 / 2251799813685248 + W 1 * 8192 % 18446744073709551616 := by
    rw [IntKind.wrap_u64]; exact or64w (W 0 / 2251799813685248) (W 1) 13 8192 (by decide) (by decide) (by omega) (by omega)
  have o2 : bits BinOp.or IntKind.u64 (W 1 / 274877906944) (IntKind.u64.wrap (W 2 * 67108864)) = W 1 / 274877906944 + W 2 * 67108864 % 18446744073709551616 := by
    rw [IntKind.wrap_u64]; exact or64w (W 1 / 274877906944) (W 2) 26 67108864 (by decide) (by decide) (by omega) (by omega)
  have o3 : bits BinOp.or IntKind.u64 (W 2 / 33554432) (IntKind.u64.wrap (W 3 * 549755813888)) = W 2 / 33554432 + W 3 * 549755813888 % 18446744073709551616 := by
    rw [IntKind.wrap_u64]; exact or64w (W 2 / 33554432) (W 3) 39 549755813888 (by decide) (by decide) (by omega) (by omega)
  have m1 := mask51 (W 0 / 2251799813685248 + W 1 * 8192 % 18446744073709551616) (by omega) (by omega)
  have m2 := mask51 (W 1 / 274877906944 + W 2 * 67108864 % 18446744073709551616) (by omega) (by omega)
  have m3 := mask51 (W 2 / 33554432 + W 3 * 549755813888 % 18446744073709551616) (by omega) (by omega)
  simp only [ag4]
  go_wp2_with fail
  have n2 : Below w1.heap.size w1 (w1.alloc (.cells #[.int .u64 (W 0), .int .u64 (W 1), .int .u64 (W 2), .int .u64 (W 3)] 68)) := (Below.refl _ _).alloc (Nat.le_refl _) _
  generalize w1.alloc (.cells #[.int .u64 (W 0), .int .u64 (W 1), .int .u64 (W 2), .int .u64 (W 3)] 68) = w2 at *
  refine (settle_any w2 (rl W) (rl_ok hW).2).mono ?_
  rintro e w3 ⟨rfl, n3⟩
  have T3 := (T1.up n2).up n3
  have N3 := nxt (nxt N1 n2) n3
  obtain ⟨f, hf⟩ : ∃ f, f = stl (rl W) := ⟨_, rfl⟩
  have hF : Hid (f = stl (rl W)) := hf
  rw [← hf]
  obtain ⟨⟨p0, p1, p2, p3, p4⟩, ⟨g0, g1, g2, g3, g4⟩⟩ := T3.f5
  clear T1 n2 n3 T3 N1 m0 m1 m2 m3 o1 o2 o3 hf h0 h1 h2 h3 hW
  simp only [ag5]
  go_wp2
  refine bodyPost_ret (v := ag5 f) (by simp [ag5, results, Tryd.results97, go_sem, p0, p1, p2, p3, p4]) rfl ⟨by rw [hF.out, hE.out], ?_⟩
  exact below_set5 N3 (Nat.le_refl _) _ _ _ _ _

set_option maxHeartbeats 4000000 in
set_option maxRecDepth 100000 in
theorem words_any (w : World) (e : Nat → Int) (he : Lm e) :
    Calls Tryd.prog 102 #[ag5 e] w fun r w' => r = .returned (ag4 (lw e)) ∧ Below w.heap.size w w' := by
  have h0 := he 0 (by omega); have h1 := he 1 (by omega); have h2 := he 2 (by omega); have h3 := he 3 (by omega); have h4 := he 4 (by omega)
  have o0 : bits BinOp.or IntKind.u64 (e 0) (IntKind.u64.wrap (e 1 * 2251799813685248)) = e 0 + e 1 * 2251799813685248 % 18446744073709551616 := by
    rw [IntKind.wrap_u64]; exact or64w (e 0) (e 1) 51 2251799813685248 (by decide) (by decide) (by omega) (by omega)
  have o1 : bits BinOp.or IntKind.u64 (e 1 / 8192) (IntKind.u64.wrap (e 2 * 274877906944)) = e 1 / 8192 + e 2 * 274877906944 % 18446744073709551616 := by
    rw [IntKind.wrap_u64]; exact or64w (e 1 / 8192) (e 2) 38 274877906944 (by decide) (by decide) (by omega) (by omega)
  have o2 : bits BinOp.or IntKind.u64 (e 2 / 67108864) (IntKind.u64.wrap (e 3 * 33554432)) = e 2 / 67108864 + e 3 * 33554432 % 18446744073709551616 := by
    rw [IntKind.wrap_u64]; exact or64w (e 2 / 67108864) (e 3) 25 33554432 (by decide) (by decide) (by omega) (by omega)
  have o3 : bits BinOp.or IntKind.u64 (e 3 / 549755813888) (e 4 * 4096) = e 3 / 549755813888 + e 4 * 4096 := 
    or64 (e 3 / 549755813888) (e 4) 12 4096 (by decide) (by omega) (by omega) (by omega) (by omega) (by decide)
  have z3 : Hid (e 4 * 4096 % 18446744073709551616 = e 4 * 4096) := by show _ = _; omega
  simp only [ag5]
  go_enter Tryd.func102, Tryd.ntmps102
  go_wp2
  refine bodyPost_ret (v := .agg #[.int .u64 (e 0 + e 1 * 2251799813685248 % 18446744073709551616), .int .u64 (e 1 / 8192 + e 2 * 274877906944 % 18446744073709551616), .int .u64 (e 2 / 67108864 + e 3 * 33554432 % 18446744073709551616), .int .u64 (e 3 / 549755813888 + e 4 * 4096)])
    (by simp [results, Tryd.results102, go_sem]) rfl ⟨?_, ((Below.refl _ _).alloc (Nat.le_refl _) _).alloc (by simp) _⟩
  simp only [ag4, lw]
  rw [z3.out]

end Go.Proofs.YthapcapiiknjdaaDoor

/-
  The program's wordsBytes, bytes.
-/
namespace Go.Proofs.YthapcapiiknjdaaDoor
set_option maxRecDepth 100000
open Go.RowKit

set_option maxHeartbeats 4000000 in
set_option maxRecDepth 100000 in
theorem wordsBytes_any (w : World) (W : Nat → Int) (hW : W4 W) :
    Calls Tryd.prog 104 #[ag4 W] w fun e w' => e = .returned (.slice (some ⟨w.heap.size + 1, 0, none⟩) 32 32) ∧ Blk w' (w.heap.size + 1) .u8 (fill (byt (wval W)) 32) ∧ Below w.heap.size w w' := by
  obtain ⟨i0, hi, hz0, hz1, hz2⟩ := info_parts Tryd.info5
  have hal : Below w.heap.size w (w.alloc (.cells #[.int .u64 (W 0), .int .u64 (W 1), .int .u64 (W 2), .int .u64 (W 3)] 68)) := (Below.refl _ _).alloc (Nat.le_refl _) _
  have T0 := blk_box4 w .u64 68 (W 0) (W 1) (W 2) (W 3)
  have sz0 : (w.alloc (.cells #[.int .u64 (W 0), .int .u64 (W 1), .int .u64 (W 2), .int .u64 (W 3)] 68)).heap.size = w.heap.size + 1 := by simp
  simp only [ag4]
  go_enter Tryd.func104, Tryd.ntmps104
  go_wp2_with (at_make; refine wpList_make_full _ rfl _ _ 22 rfl (w.heap.size + 1) 5 i0 (.int .u8 0) 1 Tryd.underlying22 hi hz0 hz1 .i64 .i64 _ _ 32 rfl rfl rfl rfl (by rw [hz2]; omega) (by unfold maxLen; omega) (by rw [sz0]; exact Nat.le_refl _) ?_; intro w1 hown hgrow)
  have hB0 := Blk.of_made hown
  rw [sz0] at hB0
  have hN1 : Below (w.heap.size + 1) (w.alloc (.cells #[.int .u64 (W 0), .int .u64 (W 1), .int .u64 (W 2), .int .u64 (W 3)] 68)) w1 := by
    have h := (Below.refl _ _).grown hgrow (Nat.le_refl _) (by simp)
    rw [sz0] at h
    exact h
  have T1 := T0.of_block (hN1.block w.heap.size (by omega))
  have N1 : Below w.heap.size w w1 := hal.trans (hN1.mono (by omega))
  clear hown hgrow T0 hN1 hal sz0
  go_loopw [8] (fun i wr => ∃ (k : Nat) (ys : List Int), k ≤ 32 ∧ i = .int .i64 k ∧ FillTo (byt (wval W)) ys 32 k ∧ Blk wr w.heap.size .u64 [W 0, W 1, W 2, W 3] ∧ Blk wr (w.heap.size + 1) .u8 ys ∧ Below w.heap.size w wr) (fun i _ => 32 - (intOf i).toNat)
  case atStart => exact ⟨0, _, by omega, rfl, ⟨by simp, fun j hj => absurd hj (by omega)⟩, T1, hB0, N1⟩
  case round =>
    clear T1 hB0 N1
    obtain ⟨k, ys, hk, rfl, hF, hT, hB, hN⟩ := hrel
    by_cases hlt : k < 32
    · have hwb := word_byte hW k hlt
      have hst := hF.step hlt
      obtain ⟨q, hq⟩ : ∃ q : Nat, k / 8 = q := ⟨_, rfl⟩
      rw [hq] at hwb
      have hq4 : q < 4 := by omega
      have hz := hW q hq4
      have hcx : wr.cell? ⟨w.heap.size, q, none⟩ = some (.int .u64 (W q)) := by
        rw [hT.cell hq4]
        obtain rfl | rfl | rfl | rfl : q = 0 ∨ q = 1 ∨ q = 2 ∨ q = 3 := by omega
        all_goals rfl
      have hcy := hB.cell (i := k) (by rw [hF.1]; exact hlt)
      have hfy := hB.free k
      have q1 : (k : Int) / 8 = (q : Int) := by omega
      have q2 : (q : Int) < 4 := by omega
      have k2 : (k : Int) < 32 := by omega
      have S := hB.store k (byt (wval W) k)
      have S0 := hT.of_block (w' := wr.setCell ⟨w.heap.size + 1, k, none⟩ (.int .u8 (byt (wval W) k))) (heap_setCell_other wr ⟨w.heap.size + 1, k, none⟩ w.heap.size _ (by show w.heap.size ≠ w.heap.size + 1; omega))
      have Sn : Below w.heap.size w (wr.setCell ⟨w.heap.size + 1, k, none⟩ (.int .u8 (byt (wval W) k))) := hN.setCell (by show w.heap.size ≤ w.heap.size + 1; omega) _
      generalize byt (wval W) k = b at *
      have hS0 := hide S0
      generalize W q = z at *
      clear hT hB hN hF S0
      rcases (show k % 8 = 0 ∨ k % 8 = 1 ∨ k % 8 = 2 ∨ k % 8 = 3 ∨ k % 8 = 4 ∨ k % 8 = 5 ∨ k % 8 = 6 ∨ k % 8 = 7 by omega) with h4 | h4 | h4 | h4 | h4 | h4 | h4 | h4
      · have r1 : (k : Int) % 8 = 0 := by omega
        rw [h4] at hwb
        have e' : z % 256 = b := by simpa using hwb
        clear hwb
        go_wp2
        go_roundw
        case rel => exact ⟨k + 1, _, by omega, by go_num, hst, hS0.out, S, Sn⟩
        case measure => simp [intOf]; omega
      · have r1 : (k : Int) % 8 = 1 := by omega
        rw [h4] at hwb
        have e' : z / 256 % 256 = b := by simpa using hwb
        clear hwb
        go_wp2
        go_roundw
        case rel => exact ⟨k + 1, _, by omega, by go_num, hst, hS0.out, S, Sn⟩
        case measure => simp [intOf]; omega
      · have r1 : (k : Int) % 8 = 2 := by omega
        rw [h4] at hwb
        have e' : z / 65536 % 256 = b := by simpa using hwb
        clear hwb
        go_wp2
        go_roundw
        case rel => exact ⟨k + 1, _, by omega, by go_num, hst, hS0.out, S, Sn⟩
        case measure => simp [intOf]; omega
      · have r1 : (k : Int) % 8 = 3 := by omega
        rw [h4] at hwb
        have e' : z / 16777216 % 256 = b := by simpa using hwb
        clear hwb
        go_wp2
        go_roundw
        case rel => exact ⟨k + 1, _, by omega, by go_num, hst, hS0.out, S, Sn⟩
        case measure => simp [intOf]; omega
      · have r1 : (k : Int) % 8 = 4 := by omega
        rw [h4] at hwb
        have e' : z / 4294967296 % 256 = b := by simpa using hwb
        clear hwb
        go_wp2
        go_roundw
        case rel => exact ⟨k + 1, _, by omega, by go_num, hst, hS0.out, S, Sn⟩
        case measure => simp [intOf]; omega
      · have r1 : (k : Int) % 8 = 5 := by omega
        rw [h4] at hwb
        have e' : z / 1099511627776 % 256 = b := by simpa using hwb
        clear hwb
        go_wp2
        go_roundw
        case rel => exact ⟨k + 1, _, by omega, by go_num, hst, hS0.out, S, Sn⟩
        case measure => simp [intOf]; omega
      · have r1 : (k : Int) % 8 = 6 := by omega
        rw [h4] at hwb
        have e' : z / 281474976710656 % 256 = b := by simpa using hwb
        clear hwb
        go_wp2
        go_roundw
        case rel => exact ⟨k + 1, _, by omega, by go_num, hst, hS0.out, S, Sn⟩
        case measure => simp [intOf]; omega
      · have r1 : (k : Int) % 8 = 7 := by omega
        rw [h4] at hwb
        have e'' : z / 72057594037927936 % 256 = b := by simpa using hwb
        have e' : z / 72057594037927936 = b := by omega
        clear e''
        clear hwb
        go_wp2
        go_roundw
        case rel => exact ⟨k + 1, _, by omega, by go_num, hst, hS0.out, S, Sn⟩
        case measure => simp [intOf]; omega
    · obtain rfl : k = 32 := by omega
      go_wp2
      go_ret
      refine ⟨rfl, ?_, hN⟩
      rw [← hF.all]
      exact hB

set_option maxHeartbeats 4000000 in
set_option maxRecDepth 100000 in
theorem bytes_any (w : World) (e : Nat → Int) (he : Lm e) :
    Calls Tryd.prog 67 #[ag5 e] w fun r w' => NewRow w.heap.size w' r .u8 (fill (byt (sv e 5)) 32) ∧ Below w.heap.size w w' := by
  have hal : Below w.heap.size w (w.alloc (.cells #[.int .u64 (e 0), .int .u64 (e 1), .int .u64 (e 2), .int .u64 (e 3), .int .u64 (e 4)] 56)) := (Below.refl _ _).alloc (Nat.le_refl _) _
  simp only [ag5]
  go_enter Tryd.func67, Tryd.ntmps67
  go_wp2_with fail
  generalize w.alloc (.cells #[.int .u64 (e 0), .int .u64 (e 1), .int .u64 (e 2), .int .u64 (e 3), .int .u64 (e 4)] 56) = wa at *
  refine (words_any wa e he).mono ?_
  rintro r w1 ⟨rfl, n1⟩
  have N1 := nxt hal n1
  go_wp2_with fail
  refine (wordsBytes_any w1 (lw e) (lw_ok he).2).mono ?_
  rintro r w2 ⟨rfl, B, n2⟩
  rw [(lw_ok he).1] at B
  have N2 := nxt N1 n2
  go_wp2
  go_ret
  refine ⟨⟨_, 32, w1.heap.size + 1, by rw [fill_len]; rfl, B.own0, by simp, by rw [fill_len]; omega, ?_⟩, N2⟩
  have := N1.size
  omega
end Go.Proofs.YthapcapiiknjdaaDoor

/-
  FieldCanonical, the program's; the element of thirty-two bytes.
-/
namespace Go.Proofs.YthapcapiiknjdaaDoor
set_option maxRecDepth 100000
open Go.RowKit

/-- What thirty-two bytes stand for. -/
abbrev num (xs : List Int) : Int := lsum (fun j => xs.getD j 0) xs.length

def canN (xs : List Int) : Bool := decide (xs.length = 32) && decide (num xs < PP)

theorem lsum_nonneg {a : Nat → Int} (h : Bt a) : ∀ k, 0 ≤ lsum a k
  | 0 => by simp [lsum]
  | k + 1 => by
    have ih := lsum_nonneg h k
    have := Int.mul_nonneg (h k).1 (Int.le_of_lt (p256_pos k))
    rw [lsum]; omega

/-- The element of thirty-two bytes. -/
def elt (xs : List Int) : Nat → Int := stl (rl (wv (fun j => xs.getD j 0) 32))

theorem elt_ok {xs : List Int} (hb : Byt xs) (hl : xs.length = 32) : Lm (elt xs) ∧ sv (elt xs) 5 = num xs % PP := by
  have hW : W4 (wv (fun j => xs.getD j 0) 32) := fun j _ => wv_lt hb 32 j
  obtain ⟨h1, h2⟩ := rl_ok hW
  obtain ⟨h3, h4⟩ := stl_ok h2
  refine ⟨h3, ?_⟩
  show sv (stl _) 5 = _
  rw [h4, h1, wv_sum _ 32 (by omega)]
  unfold num
  rw [hl]

set_option maxHeartbeats 1000000 in
theorem isFieldSize_any (w : World) (a : Option Addr) (c n : Nat) :
    Calls Tryd.prog 76 #[.slice a n c] w fun e w' => e = .returned (.bool (decide (n = 32))) ∧ w' = w := by
  by_cases h : n = 32
  · subst h
    go_enter Tryd.func76, Tryd.ntmps76
    go_wp2
    go_ret
    exact ⟨rfl, rfl⟩
  · have t : ((n : Int) == 32) = false := by simp; omega
    have R : Hid (decide (n = 32) = false) := by show _ = _; simp [h]
    clear h
    go_enter Tryd.func76, Tryd.ntmps76
    go_wp2
    go_ret
    exact ⟨by rw [R.out]; rfl, rfl⟩

set_option maxHeartbeats 4000000 in
theorem eqWords (a0 a1 a2 a3 b0 b1 b2 b3 : Int) (w : World) :
    (Op.equalIn 10000 68 (.agg #[.int .u64 a0, .int .u64 a1, .int .u64 a2, .int .u64 a3]) (.agg #[.int .u64 b0, .int .u64 b1, .int .u64 b2, .int .u64 b3])).run Tryd.prog w = .ok (a0 == b0 && a1 == b1 && a2 == b2 && a3 == b3) w := by
  have u3 := Tryd.underlying54
  have a3' := Tryd.isAgg54
  have z3 := Tryd.sizeOf54
  rw [show (10000 : Nat) = 9999 + 1 from rfl, Op.equalIn]
  simp only [Sem.run_bind, run_underlying Tryd.underlying68, Result.andThen_ok]
  simp only [Std.Legacy.Range.forIn_eq_forIn_range', Std.Legacy.Range.size, Nat.sub_zero, Nat.add_sub_cancel, Nat.div_one, List.range'_succ, List.range'_zero, List.forIn_cons, List.forIn_nil]
  go_simp
  by_cases h0 : a0 = b0 <;> by_cases h1 : a1 = b1 <;> by_cases h2 : a2 = b2 <;> by_cases h3 : a3 = b3 <;> simp [h0, h1, h2, h3]

set_option maxHeartbeats 2000000 in
theorem implFieldCanonical_any (w : World) (g : Nat) (a : Option Addr) (c : Nat) (xs : List Int) (hr : Rd w g a .u8 xs) (hb : Byt xs) :
    Calls Tryd.prog 96 #[.slice a xs.length c] w fun e w' => e = .returned (.bool (canN xs)) ∧ Below w.heap.size w w' := by
  by_cases hl : xs.length = 32
  · have T := isFieldSize_any w a c xs.length
    have E1 := elt_ok hb hl
    have R1 := fun w' n => readElement_any w' g a c xs (hr.up n) hb hl
    have R2 := fun w' n => readWords_any w' g a c xs (hr.up n) hb hl
    have K : canN xs = decide (num xs < PP) := by simp [canN, hl]
    have W1 : W4 (wv (fun j => xs.getD j 0) 32) := fun j _ => wv_lt hb 32 j
    have W2 : wval (wv (fun j => xs.getD j 0) 32) = num xs := by rw [wv_sum _ 32 (by omega)]; unfold num; rw [hl]
    have V0 : 0 ≤ num xs := lsum_nonneg hb _
    obtain ⟨k, hk⟩ : ∃ k, canN xs = k := ⟨_, rfl⟩
    have hK := hide K
    rw [hl] at T ⊢
    have hL := hide hl
    clear hl K
    go_enter Tryd.func96, Tryd.ntmps96
    go_wp2_with fail
    refine T.mono ?_
    rintro e w0 ⟨rfl, rfl⟩
    go_wp2_with fail
    refine (R1 w0 (Below.refl _ _)).mono ?_
    rintro e w1 ⟨rfl, n1⟩
    go_wp2_with fail
    refine (words_any w1 _ E1.1).mono ?_
    rintro e w2 ⟨rfl, n2⟩
    go_wp2_with fail
    refine (R2 w2 (nxt n1 n2)).mono ?_
    rintro e w3 ⟨rfl, n3⟩
    have Q : (lw (elt xs) 0 == wv (fun j => xs.getD j 0) 32 0 && lw (elt xs) 1 == wv (fun j => xs.getD j 0) 32 1 && lw (elt xs) 2 == wv (fun j => xs.getD j 0) 32 2 && lw (elt xs) 3 == wv (fun j => xs.getD j 0) 32 3) = canN xs := by
      obtain ⟨l1, l2⟩ := lw_ok E1.1
      rw [hK.out]
      by_cases hlt : num xs < PP
      · have e : wval (lw (elt xs)) = wval (wv (fun j => xs.getD j 0) 32) := by rw [l1, E1.2, W2, Int.emod_eq_of_lt V0 hlt]
        have h := l2.uniq W1 e
        rw [h 0 (by omega), h 1 (by omega), h 2 (by omega), h 3 (by omega)]
        simp [hlt]
      · by_cases h0 : lw (elt xs) 0 = wv (fun j => xs.getD j 0) 32 0 ∧ lw (elt xs) 1 = wv (fun j => xs.getD j 0) 32 1 ∧ lw (elt xs) 2 = wv (fun j => xs.getD j 0) 32 2 ∧ lw (elt xs) 3 = wv (fun j => xs.getD j 0) 32 3
        · exfalso
          obtain ⟨e0, e1, e2, e3⟩ := h0
          have e : wval (lw (elt xs)) = wval (wv (fun j => xs.getD j 0) 32) := by unfold wval; rw [e0, e1, e2, e3]
          rw [l1, E1.2, W2] at e
          have := Int.emod_lt_of_pos (num xs) (show (0 : Int) < PP by decide)
          omega
        · rw [decide_eq_false hlt]
          cases hq : (lw (elt xs) 0 == wv (fun j => xs.getD j 0) 32 0 && lw (elt xs) 1 == wv (fun j => xs.getD j 0) 32 1 && lw (elt xs) 2 == wv (fun j => xs.getD j 0) 32 2 && lw (elt xs) 3 == wv (fun j => xs.getD j 0) 32 3)
          · rfl
          · exfalso
            simp only [Bool.and_eq_true, beq_iff_eq] at hq
            exact h0 ⟨hq.1.1.1, hq.1.1.2, hq.1.2, hq.2⟩
    have N3 := nxt (nxt n1 n2) n3
    obtain ⟨U, hU⟩ : ∃ U, U = lw (elt xs) := ⟨_, rfl⟩
    obtain ⟨V, hV⟩ : ∃ V, V = wv (fun j => xs.getD j 0) 32 := ⟨_, rfl⟩
    have hU' : ag4 (lw (elt xs)) = ag4 U := by rw [hU]
    have hU2 : ag4 (lw (stl (rl (wv (fun j => xs.getD j 0) 32)))) = ag4 U := hU'
    have hV' : ag4 (wv (fun j => xs.getD j 0) 32) = ag4 V := by rw [hV]
    rw [← hU, ← hV] at Q
    first | rw [hU', hV'] | rw [hU2, hV']
    have eqw := eqWords (U 0) (U 1) (U 2) (U 3) (V 0) (V 1) (V 2) (V 3) w3
    rw [Q] at eqw
    clear hU' hU2 hV' hU hV R1 R2 E1 W1 W2 V0 Q hk k
    simp only [ag4]
    go_wp2
    go_ret
    exact ⟨rfl, N3⟩
  · have T := isFieldSize_any w a c xs.length
    have K : canN xs = false := by simp [canN, hl]
    have hK := hide K
    rw [decide_eq_false hl] at T
    clear K hl
    go_enter Tryd.func96, Tryd.ntmps96
    go_wp2_with fail
    refine T.mono ?_
    rintro e w0 ⟨rfl, rfl⟩
    go_wp2
    go_ret
    exact ⟨by rw [hK.out]; rfl, Below.refl _ _⟩

end Go.Proofs.YthapcapiiknjdaaDoor

/-
  The program's sum of two elements.
-/
namespace Go.Proofs.YthapcapiiknjdaaDoor
set_option maxRecDepth 100000
open Go.RowKit

/-- Two sums of limbs. -/
def addU (e f : Nat → Int) (j : Nat) : Int := if j < 5 then e j + f j else 0
theorem add_ok {e f : Nat → Int} (he : Lm e) (hf : Lm f) : (∀ j, 0 ≤ addU e f j ∧ addU e f j < 9223372036854775808) ∧ sv (stl (addU e f)) 5 = (sv e 5 + sv f 5) % PP ∧ Lm (stl (addU e f)) := by
  have b : ∀ j, 0 ≤ addU e f j ∧ addU e f j < 9223372036854775808 := fun j => by
    unfold addU
    split
    · have := he j (by omega); have := hf j (by omega); omega
    · omega
  obtain ⟨h1, h2⟩ := stl_ok b
  refine ⟨b, ?_, h1⟩
  rw [h2]
  congr 1
  simp [sv, addU]
  omega

theorem Blk.at5 {w : World} {g : Nat} {u : Nat → Int} (h : Blk w g .u64 [u 0, u 1, u 2, u 3, u 4]) {k : Nat} (hk : k < 5) : w.cell? ⟨g, k, none⟩ = some (.int .u64 (u k)) := by
  rw [h.cell hk, (Upd.zero u u).2.2 k (by omega) hk]
theorem Blk.keep {w : World} {g g' k : Nat} {kk : IntKind} {ys : List Int} {v : Value} (h : Blk w g kk ys) (hne : g ≠ g') : Blk (w.setCell ⟨g', k, none⟩ v) g kk ys :=
  h.of_block (heap_setCell_other w ⟨g', k, none⟩ g v hne)

set_option maxHeartbeats 4000000 in
set_option maxRecDepth 100000 in
theorem add_any (w : World) (e f : Nat → Int) (he : Lm e) (hf : Lm f) :
    Calls Tryd.prog 105 #[ag5 e, ag5 f] w fun r w' => r = .returned (ag5 (stl (addU e f))) ∧ Below w.heap.size w w' := by
  have B0 := blk_box w .u64 56 (e 0) (e 1) (e 2) (e 3) (e 4)
  have n0 : Below w.heap.size w (w.alloc (.cells #[.int .u64 (e 0), .int .u64 (e 1), .int .u64 (e 2), .int .u64 (e 3), .int .u64 (e 4)] 56)) := (Below.refl _ _).alloc (Nat.le_refl _) _
  have s0 : (w.alloc (.cells #[.int .u64 (e 0), .int .u64 (e 1), .int .u64 (e 2), .int .u64 (e 3), .int .u64 (e 4)] 56)).heap.size = w.heap.size + 1 := by simp
  simp only [ag5]
  go_enter Tryd.func105, Tryd.ntmps105
  go_wp2
  generalize w.alloc (.cells #[.int .u64 (e 0), .int .u64 (e 1), .int .u64 (e 2), .int .u64 (e 3), .int .u64 (e 4)] 56) = wa at *
  have B1 := blk_box wa .u64 56 (f 0) (f 1) (f 2) (f 3) (f 4)
  have n1 : Below wa.heap.size wa (wa.alloc (.cells #[.int .u64 (f 0), .int .u64 (f 1), .int .u64 (f 2), .int .u64 (f 3), .int .u64 (f 4)] 56)) := (Below.refl _ _).alloc (Nat.le_refl _) _
  have s1 : (wa.alloc (.cells #[.int .u64 (f 0), .int .u64 (f 1), .int .u64 (f 2), .int .u64 (f 3), .int .u64 (f 4)] 56)).heap.size = w.heap.size + 1 + 1 := by simp [s0]
  generalize wa.alloc (.cells #[.int .u64 (f 0), .int .u64 (f 1), .int .u64 (f 2), .int .u64 (f 3), .int .u64 (f 4)] 56) = wb at *
  have B2 := blk_box wb .u64 56 0 0 0 0 0
  have n2 : Below wb.heap.size wb (wb.alloc (.cells #[.int .u64 0, .int .u64 0, .int .u64 0, .int .u64 0, .int .u64 0] 56)) := (Below.refl _ _).alloc (Nat.le_refl _) _
  have s2 : (wb.alloc (.cells #[.int .u64 0, .int .u64 0, .int .u64 0, .int .u64 0, .int .u64 0] 56)).heap.size = w.heap.size + 1 + 1 + 1 := by simp [s1]
  generalize wb.alloc (.cells #[.int .u64 0, .int .u64 0, .int .u64 0, .int .u64 0, .int .u64 0] 56) = wc at *
  have B3 := blk_box wc .u64 130 0 0 0 0 0
  have n3 : Below wc.heap.size wc (wc.alloc (.cells #[.int .u64 0, .int .u64 0, .int .u64 0, .int .u64 0, .int .u64 0] 130)) := (Below.refl _ _).alloc (Nat.le_refl _) _
  generalize wc.alloc (.cells #[.int .u64 0, .int .u64 0, .int .u64 0, .int .u64 0, .int .u64 0] 130) = wd at *
  have E0 := ((B0.up n1).up n2).up n3
  have E1 := (B1.up n2).up n3
  have E2 := B2.up n3
  have N := nxt (nxt (nxt n0 n1) n2) n3
  rw [s0] at E1
  rw [s1] at E2
  rw [s2] at B3
  clear B0 B1 B2 n0 n1 n2 n3 s0 s1 s2
  go_loopw [7] (fun i wr => ∃ (k : Nat) (ys : List Int), k ≤ 5 ∧ i = .int .i64 k ∧ Upd (addU e f) (fun _ => 0) ys k ∧ Blk wr w.heap.size .u64 [e 0, e 1, e 2, e 3, e 4] ∧ Blk wr (w.heap.size + 1) .u64 [f 0, f 1, f 2, f 3, f 4] ∧ Blk wr (w.heap.size + 1 + 1) .u64 [0, 0, 0, 0, 0] ∧ Blk wr (w.heap.size + 1 + 1 + 1) .u64 ys ∧ Below w.heap.size w wr) (fun i _ => 5 - (intOf i).toNat)
  case atStart => exact ⟨0, _, by omega, rfl, Upd.zero _ (fun _ => 0), E0, E1, E2, B3, N⟩
  case round =>
    clear E0 E1 E2 B3 N
    obtain ⟨k, ys, hk, rfl, hU, hE, hF, hR, hB, hN⟩ := hrel
    by_cases hlt : k < 5
    · have R := hU.step hlt
      have ce := hE.at5 hlt
      have cf := hF.at5 hlt
      have hcy := hB.cell (i := k) (by rw [hU.1]; exact hlt)
      have hfy := hB.free k
      have eb := he k hlt
      have fb := hf k hlt
      have k2 : (k : Int) < 5 := by omega
      have E : addU e f k = e k + f k := by unfold addU; rw [if_pos hlt]
      have S := hB.store k (e k + f k)
      have SE := hide (hE.keep (g' := w.heap.size + 1 + 1 + 1) (k := k) (v := .int .u64 (e k + f k)) (by omega))
      have SF := hide (hF.keep (g' := w.heap.size + 1 + 1 + 1) (k := k) (v := .int .u64 (e k + f k)) (by omega))
      have SR := hR.keep (g' := w.heap.size + 1 + 1 + 1) (k := k) (v := .int .u64 (e k + f k)) (by omega)
      have Sn : Below w.heap.size w (wr.setCell ⟨w.heap.size + 1 + 1 + 1, k, none⟩ (.int .u64 (e k + f k))) := hN.setCell (by show w.heap.size ≤ w.heap.size + 1 + 1 + 1; omega) _
      rw [E] at R
      clear hU hE hF hR hB hN he hf E
      generalize e k = x at *
      generalize f k = y at *
      go_wp2
      go_region
      go_wp2
      go_roundw
      case rel => exact ⟨k + 1, _, by omega, by go_num, R, SE.out.drew, SF.out.drew, SR.drew, S.drew, Sn.drew⟩
      case measure => simp [intOf]; omega
    · obtain rfl : k = 5 := by omega
      have hy := hU.all
      subst hy
      have A := add_ok he hf
      obtain ⟨⟨q0, q1, q2, q3, q4⟩, _⟩ := hB.f5
      go_wp2_with fail
      refine (settle_any wr (addU e f) A.1).mono ?_
      rintro r w1 ⟨rfl, n1⟩
      obtain ⟨⟨p0, p1, p2, p3, p4⟩, ⟨g0, g1, g2, g3, g4⟩⟩ := (hR.up n1).f5
      have N1 := nxt hN n1
      obtain ⟨t, ht⟩ : ∃ t, t = stl (addU e f) := ⟨_, rfl⟩
      have hT : Hid (t = stl (addU e f)) := ht
      rw [← ht]
      clear hU hE hF hR hB hN A n1 q0 q1 q2 q3 q4 ht
      simp only [ag5]
      go_wp2
      exact bodyPost_ret (v := ag5 t) (by simp [ag5, results, Tryd.results105, go_sem, p0, p1, p2, p3, p4]) rfl ⟨by rw [hT.out]; rfl, below_set5 N1 (by omega) _ _ _ _ _⟩
end Go.Proofs.YthapcapiiknjdaaDoor

/-
  The program's difference of two elements.
-/
namespace Go.Proofs.YthapcapiiknjdaaDoor
set_option maxRecDepth 100000
open Go.RowKit

/-- Twice the prime, in limbs. -/
def twP (j : Nat) : Int := if j = 0 then 4503599627370458 else 4503599627370494
/-- Limbs of a difference. -/
def subU (e f : Nat → Int) (j : Nat) : Int := if j < 5 then e j + twP j - f j else 0
theorem sub_ok {e f : Nat → Int} (he : Lm e) (hf : Lm f) : (∀ j, 0 ≤ subU e f j ∧ subU e f j < 9223372036854775808) ∧ sv (stl (subU e f)) 5 = (sv e 5 - sv f 5) % PP ∧ Lm (stl (subU e f)) := by
  have b : ∀ j, 0 ≤ subU e f j ∧ subU e f j < 9223372036854775808 := fun j => by
    unfold subU twP
    split
    · have := he j (by omega); have := hf j (by omega)
      split <;> omega
    · omega
  obtain ⟨h1, h2⟩ := stl_ok b
  refine ⟨b, ?_, h1⟩
  rw [h2]
  have e1 : sv (subU e f) 5 = sv e 5 - sv f 5 + 57896044618658097711785492504343953926634992332820282019728792003956564819949 * 2 := by
    simp [sv, subU, twP]
    omega
  rw [e1]
  exact Int.add_mul_emod_self_left _ _ _

/-- Block g holds the package's twice-the-prime. -/
def HasTw (w : World) (g : Nat) : Prop := ∀ k, k < 5 → w.cell? ⟨g, k, none⟩ = some (.int .u64 (twP k))
theorem HasTw.of_block {w w' : World} {g : Nat} (h : HasTw w g) (hb : w'.heap[g]? = w.heap[g]?) : HasTw w' g := fun k hk => (World.cell?_of_block (a := ⟨g, k, none⟩) hb).trans (h k hk)
theorem HasTw.lt {w : World} {g : Nat} (h : HasTw w g) : g < w.heap.size := block_lt_of_cell (h 0 (by omega))
theorem HasTw.up {w w' : World} {g : Nat} (h : HasTw w g) (n : Below w.heap.size w w') : HasTw w' g := h.of_block (n.block g h.lt)

set_option maxHeartbeats 4000000 in
theorem sub_any (w : World) (e f : Nat → Int) (he : Lm e) (hf : Lm f) (hT : HasTw w 3) :
    Calls Tryd.prog 107 #[ag5 e, ag5 f] w fun r w' => r = .returned (ag5 (stl (subU e f))) ∧ Below w.heap.size w w' := by
  have tl := hT.lt
  have B0 := blk_box w .u64 56 (e 0) (e 1) (e 2) (e 3) (e 4)
  have n0 : Below w.heap.size w (w.alloc (.cells #[.int .u64 (e 0), .int .u64 (e 1), .int .u64 (e 2), .int .u64 (e 3), .int .u64 (e 4)] 56)) := (Below.refl _ _).alloc (Nat.le_refl _) _
  have s0 : (w.alloc (.cells #[.int .u64 (e 0), .int .u64 (e 1), .int .u64 (e 2), .int .u64 (e 3), .int .u64 (e 4)] 56)).heap.size = w.heap.size + 1 := by simp
  simp only [ag5]
  go_enter Tryd.func107, Tryd.ntmps107
  go_wp2
  generalize w.alloc (.cells #[.int .u64 (e 0), .int .u64 (e 1), .int .u64 (e 2), .int .u64 (e 3), .int .u64 (e 4)] 56) = wa at *
  have B1 := blk_box wa .u64 56 (f 0) (f 1) (f 2) (f 3) (f 4)
  have n1 : Below wa.heap.size wa (wa.alloc (.cells #[.int .u64 (f 0), .int .u64 (f 1), .int .u64 (f 2), .int .u64 (f 3), .int .u64 (f 4)] 56)) := (Below.refl _ _).alloc (Nat.le_refl _) _
  have s1 : (wa.alloc (.cells #[.int .u64 (f 0), .int .u64 (f 1), .int .u64 (f 2), .int .u64 (f 3), .int .u64 (f 4)] 56)).heap.size = w.heap.size + 1 + 1 := by simp [s0]
  generalize wa.alloc (.cells #[.int .u64 (f 0), .int .u64 (f 1), .int .u64 (f 2), .int .u64 (f 3), .int .u64 (f 4)] 56) = wb at *
  have B2 := blk_box wb .u64 56 0 0 0 0 0
  have n2 : Below wb.heap.size wb (wb.alloc (.cells #[.int .u64 0, .int .u64 0, .int .u64 0, .int .u64 0, .int .u64 0] 56)) := (Below.refl _ _).alloc (Nat.le_refl _) _
  have s2 : (wb.alloc (.cells #[.int .u64 0, .int .u64 0, .int .u64 0, .int .u64 0, .int .u64 0] 56)).heap.size = w.heap.size + 1 + 1 + 1 := by simp [s1]
  generalize wb.alloc (.cells #[.int .u64 0, .int .u64 0, .int .u64 0, .int .u64 0, .int .u64 0] 56) = wc at *
  have B3 := blk_box wc .u64 130 0 0 0 0 0
  have n3 : Below wc.heap.size wc (wc.alloc (.cells #[.int .u64 0, .int .u64 0, .int .u64 0, .int .u64 0, .int .u64 0] 130)) := (Below.refl _ _).alloc (Nat.le_refl _) _
  generalize wc.alloc (.cells #[.int .u64 0, .int .u64 0, .int .u64 0, .int .u64 0, .int .u64 0] 130) = wd at *
  have E0 := ((B0.up n1).up n2).up n3
  have E1 := (B1.up n2).up n3
  have E2 := B2.up n3
  have N := nxt (nxt (nxt n0 n1) n2) n3
  have T0 := hT.up N
  rw [s0] at E1
  rw [s1] at E2
  rw [s2] at B3
  clear B0 B1 B2 n0 n1 n2 n3 s0 s1 s2 hT
  go_loopw [7] (fun i wr => ∃ (k : Nat) (ys : List Int), k ≤ 5 ∧ i = .int .i64 k ∧ Upd (subU e f) (fun _ => 0) ys k ∧ Blk wr w.heap.size .u64 [e 0, e 1, e 2, e 3, e 4] ∧ Blk wr (w.heap.size + 1) .u64 [f 0, f 1, f 2, f 3, f 4] ∧ Blk wr (w.heap.size + 1 + 1) .u64 [0, 0, 0, 0, 0] ∧ Blk wr (w.heap.size + 1 + 1 + 1) .u64 ys ∧ HasTw wr 3 ∧ Below w.heap.size w wr) (fun i _ => 5 - (intOf i).toNat)
  case atStart => exact ⟨0, _, by omega, rfl, Upd.zero _ (fun _ => 0), E0, E1, E2, B3, T0, N⟩
  case round =>
    clear E0 E1 E2 B3 N T0
    obtain ⟨k, ys, hk, rfl, hU, hE, hF, hR, hB, hT, hN⟩ := hrel
    by_cases hlt : k < 5
    · have R := hU.step hlt
      have ce := hE.at5 hlt
      have cf := hF.at5 hlt
      have ct := hT k hlt
      have hcy := hB.cell (i := k) (by rw [hU.1]; exact hlt)
      have hfy := hB.free k
      have eb := he k hlt
      have fb := hf k hlt
      have tb : 4503599627370458 ≤ twP k ∧ twP k ≤ 4503599627370494 := by unfold twP; split <;> omega
      have k2 : (k : Int) < 5 := by omega
      have E : subU e f k = e k + twP k - f k := by unfold subU; rw [if_pos hlt]
      have S := hB.store k (e k + twP k - f k)
      have SE := hide (hE.keep (g' := w.heap.size + 1 + 1 + 1) (k := k) (v := .int .u64 (e k + twP k - f k)) (by omega))
      have SF := hide (hF.keep (g' := w.heap.size + 1 + 1 + 1) (k := k) (v := .int .u64 (e k + twP k - f k)) (by omega))
      have SR := hR.keep (g' := w.heap.size + 1 + 1 + 1) (k := k) (v := .int .u64 (e k + twP k - f k)) (by omega)
      have ST := hide (hT.of_block (w' := wr.setCell ⟨w.heap.size + 1 + 1 + 1, k, none⟩ (.int .u64 (e k + twP k - f k))) (heap_setCell_other wr ⟨w.heap.size + 1 + 1 + 1, k, none⟩ 3 _ (by show 3 ≠ w.heap.size + 1 + 1 + 1; omega)))
      have Sn : Below w.heap.size w (wr.setCell ⟨w.heap.size + 1 + 1 + 1, k, none⟩ (.int .u64 (e k + twP k - f k))) := hN.setCell (by show w.heap.size ≤ w.heap.size + 1 + 1 + 1; omega) _
      rw [E] at R
      have x1 : IntKind.u64.wrap (e k + twP k) = e k + twP k := by rw [IntKind.wrap_u64]; omega
      have x2 : IntKind.u64.wrap (e k + twP k - f k) = e k + twP k - f k := by rw [IntKind.wrap_u64]; omega
      clear hU hE hF hR hB hN he hf E hT
      generalize e k = x at *
      generalize f k = y at *
      generalize twP k = t at *
      go_wp2
      go_region
      go_wp2
      go_roundw
      case rel => exact ⟨k + 1, _, by omega, by go_num, R, SE.out.drew, SF.out.drew, SR.drew, S.drew, ST.out, Sn.drew⟩
      case measure => simp [intOf]; omega
    · obtain rfl : k = 5 := by omega
      have hy := hU.all
      subst hy
      have A := sub_ok he hf
      obtain ⟨⟨q0, q1, q2, q3, q4⟩, _⟩ := hB.f5
      go_wp2_with fail
      refine (settle_any wr (subU e f) A.1).mono ?_
      rintro r w1 ⟨rfl, n1⟩
      obtain ⟨⟨p0, p1, p2, p3, p4⟩, ⟨g0, g1, g2, g3, g4⟩⟩ := (hR.up n1).f5
      have N1 := nxt hN n1
      obtain ⟨t, ht⟩ : ∃ t, t = stl (subU e f) := ⟨_, rfl⟩
      have hT' : Hid (t = stl (subU e f)) := ht
      rw [← ht]
      clear hU hE hF hR hB hN A n1 q0 q1 q2 q3 q4 ht hT
      simp only [ag5]
      go_wp2
      exact bodyPost_ret (v := ag5 t) (by simp [ag5, results, Tryd.results107, go_sem, p0, p1, p2, p3, p4]) rfl ⟨by rw [hT'.out]; rfl, below_set5 N1 (by omega) _ _ _ _ _⟩
theorem subE_any (w : World) (e f : Nat → Int) (he : Lm e) (hf : Lm f) (hT : HasTw w 3) :
    Calls Tryd.prog 107 #[ag5 e, ag5 f] w fun r w' => ∃ t, r = .returned (ag5 t) ∧ Lm t ∧ sv t 5 = (sv e 5 - sv f 5) % PP ∧ Below w.heap.size w w' := by
  refine (sub_any w e f he hf hT).mono ?_
  rintro r w' ⟨rfl, n⟩
  obtain ⟨_, h2, h3⟩ := sub_ok he hf
  exact ⟨_, rfl, h3, h2, n⟩
end Go.Proofs.YthapcapiiknjdaaDoor

/-
  What the listed package-level variables give the walks: their cells.
-/
namespace Go.Proofs.YthapcapiiknjdaaDoor
set_option maxRecDepth 100000
open Go.RowKit

theorem gTw : Tryd.prog.globalNamed "loop.example/g00004/impl.twiceP" = some 3 := by kernel_rfl
theorem tTw : (Tryd.prog.globals[3]?).map (·.type) = some 130 := by kernel_rfl
theorem uTw : Tryd.prog.underlying 130 = some (.array 5 54) := by kernel_rfl
theorem cTw : Tryd.prog.cellsOf 130 = 5 := by kernel_rfl
theorem cU64 : Tryd.prog.cellsOf 54 = 1 := by kernel_rfl
theorem tw_of_reads {W : World} (h : Lib.VarReads Tryd.prog W "loop.example/g00004/impl.twiceP" Rows.laid_loop_example_g00004_impl_twiceP) : HasTw W 3 := by
  obtain ⟨g, t, cs, fuel, p, hg, ht, hv, hd⟩ := h
  obtain rfl := Option.some.inj (gTw.symm.trans hg)
  obtain rfl := Option.some.inj (tTw.symm.trans ht)
  have hcs := Lib.cells_of_tab (zs := [4503599627370458, 4503599627370494, 4503599627370494, 4503599627370494, 4503599627370494]) uTw Tryd.underlying54 cU64 cTw hd
  intro k hk
  rw [World.var?_cell hg hv k]
  obtain ⟨l⟩ := cs
  simp only at hcs
  subst hcs
  obtain rfl | rfl | rfl | rfl | rfl : k = 0 ∨ k = 1 ∨ k = 2 ∨ k = 3 ∨ k = 4 := by omega
  all_goals rfl
/-- A listed variable reads as it is listed (the list bears plain data alone). -/
theorem reads_of {l : List (String × DataW Unit)} {W : World} (h : laidMetH Tryd.prog l W) (hp : (l.all fun x => x.2.handleName?.isNone) = true) {n : String} {d : DataW Unit} (hm : (n, d) ∈ l) : Lib.VarReads Tryd.prog W n d := by
  rw [MakeChecks.laidMetH_plain _ _ _ hp] at h
  exact Lib.laidMet.reads h hm
end Go.Proofs.YthapcapiiknjdaaDoor
