import Derived.Test.YtkpomobhjkikeaaGreatDoorSS13
import Derived.Test.YtkpomobhjkikeaaGreatDoorSS3
import Derived.WalkSpells
import Derived.Deep.QuietTactic
import Derived.BigQuiet
import Derived.Deep.WholeRow
import Derived.Laws.Bits64b
namespace Go.Proofs.YtkpomobhjkikeaaGreatDoor
set_option maxRecDepth 100000
open Go.RowKit
def ag5 (u : Nat → Int) : Value := .agg #[.int .u64 (u 0), .int .u64 (u 1), .int .u64 (u 2), .int .u64 (u 3), .int .u64 (u 4)]
theorem wraps_u64 (n : Int) (h₀ : 0 ≤ n) (h₁ : n < 2 ^ 64) : IntKind.u64.wrap n = n := by
  simp [IntKind.wrap, IntKind.bits, IntKind.signed]
  omega
def Upd (f u : Nat → Int) (ys : List Int) (k : Nat) : Prop := ys.length = 5 ∧ (∀ j, j < k → ys.getD j 0 = f j) ∧ ∀ j, k ≤ j → j < 5 → ys.getD j 0 = u j
theorem Upd.step {f u : Nat → Int} {ys : List Int} {k : Nat} (h : Upd f u ys k) (hk : k < 5) : Upd f u (ys.set k (f k)) (k + 1) := by
  refine ⟨by simpa using h.1, fun j hj => ?_, fun j hj hj5 => ?_⟩
  · by_cases e : k = j
    · subst e
      rw [getD_set_self _ _ _ (by rw [h.1]; exact hk)]
    · rw [getD_set_ne _ _ _ _ e]
      exact h.2.1 j (by omega)
  · rw [getD_set_ne _ _ _ _ (by omega)]
    exact h.2.2 j (by omega) hj5
theorem Upd.all {f u : Nat → Int} {ys : List Int} (h : Upd f u ys 5) : ys = [f 0, f 1, f 2, f 3, f 4] := by
  refine eq_of_getD (by rw [h.1]; rfl) (fun i hi => ?_)
  rw [h.1] at hi
  rw [h.2.1 i hi]
  obtain rfl | rfl | rfl | rfl | rfl : i = 0 ∨ i = 1 ∨ i = 2 ∨ i = 3 ∨ i = 4 := by omega
  all_goals rfl
theorem Upd.zero (f u : Nat → Int) : Upd f u [u 0, u 1, u 2, u 3, u 4] 0 := by
  refine ⟨rfl, fun j hj => absurd hj (by omega), fun i _ hi => ?_⟩
  obtain rfl | rfl | rfl | rfl | rfl : i = 0 ∨ i = 1 ∨ i = 2 ∨ i = 3 ∨ i = 4 := by omega
  all_goals rfl
theorem blk_box (w : World) (k : IntKind) (t : TypeId) (a b c d e : Int) : Blk (w.alloc (.cells #[.int k a, .int k b, .int k c, .int k d, .int k e] t)) w.heap.size k [a, b, c, d, e] :=
  ⟨t, by rw [heap_alloc_last]; rfl⟩
def ag4 (u : Nat → Int) : Value := .agg #[.int .u64 (u 0), .int .u64 (u 1), .int .u64 (u 2), .int .u64 (u 3)]
theorem or_mul (a b i m : Nat) (hm : m = 2 ^ i) (h : a < m) : a ||| (b * m) = b * m + a := by
  subst hm
  rw [Nat.or_comm, ← Nat.shiftLeft_eq, Nat.shiftLeft_add_eq_or_of_lt h]
theorem or64 (z x : Int) (i m : Nat) (hm : m = 2 ^ i) (z0 : 0 ≤ z) (z1 : z < (m : Int)) (x0 : 0 ≤ x) (x1 : x * (m : Int) < 18446744073709551616) (m1 : m ≤ 18446744073709551616) :
    bits BinOp.or IntKind.u64 z (x * (m : Int)) = z + x * (m : Int) := by
  obtain ⟨a, rfl⟩ := Int.eq_ofNat_of_zero_le z0
  obtain ⟨b, rfl⟩ := Int.eq_ofNat_of_zero_le x0
  have e : (b : Int) * (m : Int) = ((b * m : Nat) : Int) := by simp
  rw [e] at x1 ⊢
  rw [bits_or_u64_nat a (b * m) (by omega) (by omega), or_mul a b i m hm (by omega)]
  omega
theorem or64w (z y : Int) (i m : Nat) (hm : m = 2 ^ i) (hi : i ≤ 64) (z0 : 0 ≤ z) (z1 : z < (m : Int)) :
    bits BinOp.or IntKind.u64 z (y * (m : Int) % 18446744073709551616) = z + y * (m : Int) % 18446744073709551616 := by
  have hd : m * 2 ^ (64 - i) = 18446744073709551616 := by rw [hm, ← Nat.pow_add, show i + (64 - i) = 64 by omega]
  have h1 : (18446744073709551616 : Int) = (m : Int) * ((2 ^ (64 - i) : Nat) : Int) := by
    rw [← Int.natCast_mul, hd]; rfl
  have h2 : y * (m : Int) % 18446744073709551616 = y % ((2 ^ (64 - i) : Nat) : Int) * (m : Int) := by
    rw [h1, Int.mul_comm y, Int.mul_emod_mul_of_pos _ _ (by omega), Int.mul_comm]
  have h3 := Int.emod_lt_of_pos (y * (m : Int)) (show (0 : Int) < 18446744073709551616 by decide)
  have hp : (0 : Int) < ((2 ^ (64 - i) : Nat) : Int) := by have := Nat.two_pow_pos (64 - i); omega
  rw [h2] at h3 ⊢
  exact or64 z _ i m hm z0 z1 (Int.emod_nonneg _ (by omega)) h3 (by have := Nat.two_pow_pos (64 - i); have := Nat.le_mul_of_pos_right m this; omega)
def At4 (f : Nat → Int) (ys : List Int) : Prop := ys.length = 4 ∧ ∀ j, j < 4 → ys.getD j 0 = f j
theorem At4.all {f : Nat → Int} {ys : List Int} (h : At4 f ys) : ys = [f 0, f 1, f 2, f 3] := by
  refine eq_of_getD (by rw [h.1]; rfl) (fun i hi => ?_)
  rw [h.1] at hi
  rw [h.2 i hi]
  obtain rfl | rfl | rfl | rfl : i = 0 ∨ i = 1 ∨ i = 2 ∨ i = 3 := by omega
  all_goals rfl
theorem At4.wv {a : Nat → Int} {k : Nat} {ys : List Int} (h : At4 (wv a k) ys) (v : Int) (hv : v = Go.Proofs.YtkpomobhjkikeaaGreatDoor.wv a k (k / 8) + a k * 256 ^ (k % 8)) : At4 (Go.Proofs.YtkpomobhjkikeaaGreatDoor.wv a (k + 1)) (ys.set (k / 8) v) := by
  refine ⟨by simpa using h.1, fun j hj => ?_⟩
  rw [Go.Proofs.YtkpomobhjkikeaaGreatDoor.wv]
  by_cases e : k / 8 = j
  · subst e
    rw [getD_set_self _ _ _ (by rw [h.1]; exact hj), if_pos rfl, hv]
  · rw [getD_set_ne _ _ _ _ e, if_neg e, h.2 j hj]; omega
theorem At4.zero (a : Nat → Int) : At4 (Go.Proofs.YtkpomobhjkikeaaGreatDoor.wv a 0) [0, 0, 0, 0] := by
  refine ⟨rfl, fun j hj => ?_⟩
  obtain rfl | rfl | rfl | rfl : j = 0 ∨ j = 1 ∨ j = 2 ∨ j = 3 := by omega
  all_goals rfl
theorem blk_box4 (w : World) (k : IntKind) (t : TypeId) (a b c d : Int) : Blk (w.alloc (.cells #[.int k a, .int k b, .int k c, .int k d] t)) w.heap.size k [a, b, c, d] :=
  ⟨t, by rw [heap_alloc_last]; rfl⟩
set_option maxHeartbeats 4000000 in
set_option maxRecDepth 100000 in
theorem readWords_any (w : World) (g : Nat) (a : Option Addr) (cap : Nat) (xs : List Int) (hr : Rd w g a .u8 xs) (hb : Byt xs) (hl : xs.length = 32) :
    Calls Tryz.prog 109 #[.slice a 32 cap] w fun e w' => e = .returned (ag4 (wv (fun j => xs.getD j 0) 32)) ∧ Below w.heap.size w w' := by
  obtain ⟨off, rfl, hc⟩ := hr (by omega)
  have hg := hr.lt (by omega)
  have hA : Bt (fun j => xs.getD j 0) := hb
  go_enter Tryz.func109, Tryz.ntmps109
  go_wp2
  have B0 := (blk_box4 w .u64 168 0 0 0 0).up ((Below.refl _ _).alloc (Nat.le_refl _) (.cells #[.int .u64 0, .int .u64 0, .int .u64 0, .int .u64 0] 168))
  have B1 : Blk ((w.alloc (.cells #[.int .u64 0, .int .u64 0, .int .u64 0, .int .u64 0] 168)).alloc (.cells #[.int .u64 0, .int .u64 0, .int .u64 0, .int .u64 0] 168)) (w.heap.size + 1) .u64 [0, 0, 0, 0] := by
    have := blk_box4 (w.alloc (.cells #[.int .u64 0, .int .u64 0, .int .u64 0, .int .u64 0] 168)) .u64 168 0 0 0 0
    simpa using this
  have N0 : Below w.heap.size w ((w.alloc (.cells #[.int .u64 0, .int .u64 0, .int .u64 0, .int .u64 0] 168)).alloc (.cells #[.int .u64 0, .int .u64 0, .int .u64 0, .int .u64 0] 168)) :=
    ((Below.refl _ _).alloc (Nat.le_refl _) _).alloc (by simp) _
  generalize ((w.alloc (.cells #[.int .u64 0, .int .u64 0, .int .u64 0, .int .u64 0] 168)).alloc (.cells #[.int .u64 0, .int .u64 0, .int .u64 0, .int .u64 0] 168)) = wa at *
  go_loopw [5] (fun i wr => ∃ (k : Nat) (ys : List Int), k ≤ 32 ∧ i = .int .i64 k ∧ At4 (wv (fun j => xs.getD j 0) k) ys ∧ Blk wr w.heap.size .u64 [0, 0, 0, 0] ∧ Blk wr (w.heap.size + 1) .u64 ys ∧ Below w.heap.size w wr) (fun i _ => 32 - (intOf i).toNat)
  case atStart => exact ⟨0, _, by omega, rfl, At4.zero _, B0, B1, N0⟩
  case round =>
    clear B0 B1 N0
    obtain ⟨k, ys, hk, rfl, hcp, hB0, hB, hN⟩ := hrel
    by_cases hlt : k < 32
    · have hsm := wv_cur hA k
      have hst : ∀ v, v = wv (fun j => xs.getD j 0) k (k / 8) + xs.getD k 0 * 256 ^ (k % 8) → At4 (wv (fun j => xs.getD j 0) (k + 1)) (ys.set (k / 8) v) := fun v hv => hcp.wv v hv
      obtain ⟨q, hq⟩ : ∃ q : Nat, k / 8 = q := ⟨_, rfl⟩
      rw [hq] at hsm hst
      have hq4 : q < 4 := by omega
      have hz := (wv_lt hA k q)
      have hcx : wr.cell? ⟨g, off + k, none⟩ = some (.int .u8 (xs.getD k 0)) := (hN.cell (p := ⟨g, off + k, none⟩) hg).trans (hc k (by omega))
      have hcy : wr.cell? ⟨w.heap.size + 1, q, none⟩ = some (.int .u64 (wv (fun j => xs.getD j 0) k q)) := by rw [hB.cell (by rw [hcp.1]; exact hq4), hcp.2 q hq4]
      have hfy := hB.free q
      have hd := hb k
      have q1 : (k : Int) / 8 = (q : Int) := by omega
      have q2 : (q : Int) < 4 := by omega
      have k2 : (k : Int) < 32 := by omega
      have hSt := fun v => hB.store q v
      have hS0 := fun v => hB0.of_block (w' := wr.setCell ⟨w.heap.size + 1, q, none⟩ (.int .u64 v)) (heap_setCell_other wr ⟨w.heap.size + 1, q, none⟩ w.heap.size _ (by show w.heap.size ≠ w.heap.size + 1; omega))
      have hSn : ∀ v, Below w.heap.size w (wr.setCell ⟨w.heap.size + 1, q, none⟩ v) := fun v => hN.setCell (by show w.heap.size ≤ w.heap.size + 1; omega) v
      generalize xs.getD k 0 = x at *
      generalize wv (fun j => xs.getD j 0) k q = z at *
      clear hc hcp hB0 hB hN hb hr hA hg
      rcases (show k % 8 = 0 ∨ k % 8 = 1 ∨ k % 8 = 2 ∨ k % 8 = 3 ∨ k % 8 = 4 ∨ k % 8 = 5 ∨ k % 8 = 6 ∨ k % 8 = 7 by omega) with h4 | h4 | h4 | h4 | h4 | h4 | h4 | h4
      · have r1 : (k : Int) % 8 = 0 := by omega
        rw [h4] at hsm hst
        have e := or64 z x 0 1 (by decide) hz.1 (by simpa using hsm) hd.1 (by omega) (by decide)
        simp only [Int.natCast_one, Int.mul_one] at e
        have e' : bits BinOp.or IntKind.u64 z x = z + x := e
        have R := hst (bits BinOp.or IntKind.u64 z x) (by rw [e']; simp)
        have S := hSt (bits BinOp.or IntKind.u64 z x)
        have S0 := hS0 (bits BinOp.or IntKind.u64 z x)
        clear hst hSt hS0 e hsm e'
        go_wp2
        go_region
        go_wp2
        go_roundw
        case rel => exact ⟨k + 1, _, by omega, by go_num, R, S0.drew, S.drew, (hSn _).drew⟩
        case measure => simp [intOf]; omega
      · have r1 : (k : Int) % 8 = 1 := by omega
        rw [h4] at hsm hst
        have e := or64 z x 8 256 (by decide) hz.1 (by simpa using hsm) hd.1 (by omega) (by decide)
        have e' : bits BinOp.or IntKind.u64 z (x * 256) = z + x * 256 := e
        have R := hst (bits BinOp.or IntKind.u64 z (x * 256)) (by rw [e']; simp)
        have S := hSt (bits BinOp.or IntKind.u64 z (x * 256))
        have S0 := hS0 (bits BinOp.or IntKind.u64 z (x * 256))
        clear hst hSt hS0 e hsm e'
        go_wp2
        go_region
        go_wp2
        go_roundw
        case rel => exact ⟨k + 1, _, by omega, by go_num, R, S0.drew, S.drew, (hSn _).drew⟩
        case measure => simp [intOf]; omega
      · have r1 : (k : Int) % 8 = 2 := by omega
        rw [h4] at hsm hst
        have e := or64 z x 16 65536 (by decide) hz.1 (by simpa using hsm) hd.1 (by omega) (by decide)
        have e' : bits BinOp.or IntKind.u64 z (x * 65536) = z + x * 65536 := e
        have R := hst (bits BinOp.or IntKind.u64 z (x * 65536)) (by rw [e']; simp)
        have S := hSt (bits BinOp.or IntKind.u64 z (x * 65536))
        have S0 := hS0 (bits BinOp.or IntKind.u64 z (x * 65536))
        clear hst hSt hS0 e hsm e'
        go_wp2
        go_region
        go_wp2
        go_roundw
        case rel => exact ⟨k + 1, _, by omega, by go_num, R, S0.drew, S.drew, (hSn _).drew⟩
        case measure => simp [intOf]; omega
      · have r1 : (k : Int) % 8 = 3 := by omega
        rw [h4] at hsm hst
        have e := or64 z x 24 16777216 (by decide) hz.1 (by simpa using hsm) hd.1 (by omega) (by decide)
        have e' : bits BinOp.or IntKind.u64 z (x * 16777216) = z + x * 16777216 := e
        have R := hst (bits BinOp.or IntKind.u64 z (x * 16777216)) (by rw [e']; simp)
        have S := hSt (bits BinOp.or IntKind.u64 z (x * 16777216))
        have S0 := hS0 (bits BinOp.or IntKind.u64 z (x * 16777216))
        clear hst hSt hS0 e hsm e'
        go_wp2
        go_region
        go_wp2
        go_roundw
        case rel => exact ⟨k + 1, _, by omega, by go_num, R, S0.drew, S.drew, (hSn _).drew⟩
        case measure => simp [intOf]; omega
      · have r1 : (k : Int) % 8 = 4 := by omega
        rw [h4] at hsm hst
        have e := or64 z x 32 4294967296 (by decide) hz.1 (by simpa using hsm) hd.1 (by omega) (by decide)
        have e' : bits BinOp.or IntKind.u64 z (x * 4294967296) = z + x * 4294967296 := e
        have R := hst (bits BinOp.or IntKind.u64 z (x * 4294967296)) (by rw [e']; simp)
        have S := hSt (bits BinOp.or IntKind.u64 z (x * 4294967296))
        have S0 := hS0 (bits BinOp.or IntKind.u64 z (x * 4294967296))
        clear hst hSt hS0 e hsm e'
        go_wp2
        go_region
        go_wp2
        go_roundw
        case rel => exact ⟨k + 1, _, by omega, by go_num, R, S0.drew, S.drew, (hSn _).drew⟩
        case measure => simp [intOf]; omega
      · have r1 : (k : Int) % 8 = 5 := by omega
        rw [h4] at hsm hst
        have e := or64 z x 40 1099511627776 (by decide) hz.1 (by simpa using hsm) hd.1 (by omega) (by decide)
        have e' : bits BinOp.or IntKind.u64 z (x * 1099511627776) = z + x * 1099511627776 := e
        have R := hst (bits BinOp.or IntKind.u64 z (x * 1099511627776)) (by rw [e']; simp)
        have S := hSt (bits BinOp.or IntKind.u64 z (x * 1099511627776))
        have S0 := hS0 (bits BinOp.or IntKind.u64 z (x * 1099511627776))
        clear hst hSt hS0 e hsm e'
        go_wp2
        go_region
        go_wp2
        go_roundw
        case rel => exact ⟨k + 1, _, by omega, by go_num, R, S0.drew, S.drew, (hSn _).drew⟩
        case measure => simp [intOf]; omega
      · have r1 : (k : Int) % 8 = 6 := by omega
        rw [h4] at hsm hst
        have e := or64 z x 48 281474976710656 (by decide) hz.1 (by simpa using hsm) hd.1 (by omega) (by decide)
        have e' : bits BinOp.or IntKind.u64 z (x * 281474976710656) = z + x * 281474976710656 := e
        have R := hst (bits BinOp.or IntKind.u64 z (x * 281474976710656)) (by rw [e']; simp)
        have S := hSt (bits BinOp.or IntKind.u64 z (x * 281474976710656))
        have S0 := hS0 (bits BinOp.or IntKind.u64 z (x * 281474976710656))
        clear hst hSt hS0 e hsm e'
        go_wp2
        go_region
        go_wp2
        go_roundw
        case rel => exact ⟨k + 1, _, by omega, by go_num, R, S0.drew, S.drew, (hSn _).drew⟩
        case measure => simp [intOf]; omega
      · have r1 : (k : Int) % 8 = 7 := by omega
        rw [h4] at hsm hst
        have e := or64 z x 56 72057594037927936 (by decide) hz.1 (by simpa using hsm) hd.1 (by omega) (by decide)
        have e' : bits BinOp.or IntKind.u64 z (x * 72057594037927936) = z + x * 72057594037927936 := e
        have R := hst (bits BinOp.or IntKind.u64 z (x * 72057594037927936)) (by rw [e']; simp)
        have S := hSt (bits BinOp.or IntKind.u64 z (x * 72057594037927936))
        have S0 := hS0 (bits BinOp.or IntKind.u64 z (x * 72057594037927936))
        clear hst hSt hS0 e hsm e'
        go_wp2
        go_region
        go_wp2
        go_roundw
        case rel => exact ⟨k + 1, _, by omega, by go_num, R, S0.drew, S.drew, (hSn _).drew⟩
        case measure => simp [intOf]; omega
    · obtain rfl : k = 32 := by omega
      have hy := hcp.all
      subst hy
      obtain ⟨f, hf⟩ : ∃ f, f = wv (fun j => xs.getD j 0) 32 := ⟨_, rfl⟩
      rw [← hf] at hB
      have q0 : wr.cell? ⟨w.heap.size + 1, 0, none⟩ = some (.int .u64 (f 0)) := hB.cell (i := 0) (by simp)
      have q1 : wr.cell? ⟨w.heap.size + 1, 1, none⟩ = some (.int .u64 (f 1)) := hB.cell (i := 1) (by simp)
      have q2 : wr.cell? ⟨w.heap.size + 1, 2, none⟩ = some (.int .u64 (f 2)) := hB.cell (i := 2) (by simp)
      have q3 : wr.cell? ⟨w.heap.size + 1, 3, none⟩ = some (.int .u64 (f 3)) := hB.cell (i := 3) (by simp)
      have p0 : wr.cell? ⟨w.heap.size, 0, none⟩ = some (.int .u64 0) := hB0.cell (i := 0) (by simp)
      have p1 : wr.cell? ⟨w.heap.size, 1, none⟩ = some (.int .u64 0) := hB0.cell (i := 1) (by simp)
      have p2 : wr.cell? ⟨w.heap.size, 2, none⟩ = some (.int .u64 0) := hB0.cell (i := 2) (by simp)
      have p3 : wr.cell? ⟨w.heap.size, 3, none⟩ = some (.int .u64 0) := hB0.cell (i := 3) (by simp)
      have g0 := hB0.free 0
      have g1 := hB0.free 1
      have g2 := hB0.free 2
      have g3 := hB0.free 3
      have hE : Hid (ag4 (wv (fun j => xs.getD j 0) 32) = ag4 f) := by show _ = _; rw [hf]
      clear hcp hB0 hB hf hb hr hA hg hc
      go_wp2
      refine bodyPost_ret (v := .agg #[.int .u64 (f 0), .int .u64 (f 1), .int .u64 (f 2), .int .u64 (f 3)]) (by simp [results, Tryz.results109, go_sem, p0, p1, p2, p3]) rfl ⟨by rw [hE.out]; rfl, ?_⟩
      have hsz : w.heap.size ≤ w.heap.size := Nat.le_refl _
      exact (((hN.setCell hsz _).setCell hsz _).setCell hsz _).setCell hsz _
theorem Blk.f5 {w : World} {g : Nat} {k : IntKind} {a b c d e : Int} (h : Blk w g k [a, b, c, d, e]) :
    (w.cell? ⟨g, 0, none⟩ = some (.int k a) ∧ w.cell? ⟨g, 1, none⟩ = some (.int k b) ∧ w.cell? ⟨g, 2, none⟩ = some (.int k c) ∧ w.cell? ⟨g, 3, none⟩ = some (.int k d) ∧ w.cell? ⟨g, 4, none⟩ = some (.int k e)) ∧
    (w.frozen? ⟨g, 0, none⟩ = false ∧ w.frozen? ⟨g, 1, none⟩ = false ∧ w.frozen? ⟨g, 2, none⟩ = false ∧ w.frozen? ⟨g, 3, none⟩ = false ∧ w.frozen? ⟨g, 4, none⟩ = false) :=
  ⟨⟨h.cell (i := 0) (by simp), h.cell (i := 1) (by simp), h.cell (i := 2) (by simp), h.cell (i := 3) (by simp), h.cell (i := 4) (by simp)⟩, h.free 0, h.free 1, h.free 2, h.free 3, h.free 4⟩
theorem Blk.f4 {w : World} {g : Nat} {k : IntKind} {a b c d : Int} (h : Blk w g k [a, b, c, d]) :
    (w.cell? ⟨g, 0, none⟩ = some (.int k a) ∧ w.cell? ⟨g, 1, none⟩ = some (.int k b) ∧ w.cell? ⟨g, 2, none⟩ = some (.int k c) ∧ w.cell? ⟨g, 3, none⟩ = some (.int k d)) ∧
    (w.frozen? ⟨g, 0, none⟩ = false ∧ w.frozen? ⟨g, 1, none⟩ = false ∧ w.frozen? ⟨g, 2, none⟩ = false ∧ w.frozen? ⟨g, 3, none⟩ = false) :=
  ⟨⟨h.cell (i := 0) (by simp), h.cell (i := 1) (by simp), h.cell (i := 2) (by simp), h.cell (i := 3) (by simp)⟩, h.free 0, h.free 1, h.free 2, h.free 3⟩
theorem below_set5 {B : Nat} {w w' : World} (h : Below B w w') {g : Nat} (hg : B ≤ g) (a b c d e : Value) :
    Below B w (((((w'.setCell ⟨g, 0, none⟩ a).setCell ⟨g, 1, none⟩ b).setCell ⟨g, 2, none⟩ c).setCell ⟨g, 3, none⟩ d).setCell ⟨g, 4, none⟩ e) :=
  ((((h.setCell hg _).setCell hg _).setCell hg _).setCell hg _).setCell hg _
end Go.Proofs.YtkpomobhjkikeaaGreatDoor
