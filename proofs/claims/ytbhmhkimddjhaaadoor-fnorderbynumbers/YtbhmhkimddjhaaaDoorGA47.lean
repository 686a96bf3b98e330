import Derived.Test.YtbhmhkimddjhaaaDoorGA42
import Derived.Test.YtbhmhkimddjhaaaDoorGA44
/-
  The program's reading of up to sixty-four bytes as eight words.
-/
namespace Go.Proofs.YtbhmhkimddjhaaaDoor
set_option maxRecDepth 100000
open Go.RowKit

/-- Eight cells that hold f. -/
def At8 (f : Nat → Int) (ys : List Int) : Prop := ys.length = 8 ∧ ∀ j, j < 8 → ys.getD j 0 = f j
theorem At8.all {f : Nat → Int} {ys : List Int} (h : At8 f ys) : ys = c8 f := by
  refine eq_of_getD (by rw [h.1]; rfl) (fun i hi => ?_)
  rw [h.1] at hi
  rw [h.2 i hi, c8_get f i hi]
theorem At8.wv {a : Nat → Int} {k : Nat} {ys : List Int} (h : At8 (wv a k) ys) (v : Int) (hv : v = Go.Proofs.YtbhmhkimddjhaaaDoor.wv a k (k / 8) + a k * 256 ^ (k % 8)) : At8 (Go.Proofs.YtbhmhkimddjhaaaDoor.wv a (k + 1)) (ys.set (k / 8) v) := by
  refine ⟨by simpa using h.1, fun j hj => ?_⟩
  rw [Go.Proofs.YtbhmhkimddjhaaaDoor.wv]
  by_cases e : k / 8 = j
  · subst e
    rw [getD_set_self _ _ _ (by rw [h.1]; exact hj), if_pos rfl, hv]
  · rw [getD_set_ne _ _ _ _ e, if_neg e, h.2 j hj]; omega
theorem At8.zero (a : Nat → Int) : At8 (Go.Proofs.YtbhmhkimddjhaaaDoor.wv a 0) [0, 0, 0, 0, 0, 0, 0, 0] := by
  refine ⟨rfl, fun j hj => ?_⟩
  obtain rfl | rfl | rfl | rfl | rfl | rfl | rfl | rfl : j = 0 ∨ j = 1 ∨ j = 2 ∨ j = 3 ∨ j = 4 ∨ j = 5 ∨ j = 6 ∨ j = 7 := by omega
  all_goals rfl

set_option maxHeartbeats 4000000 in
set_option maxRecDepth 100000 in
theorem readDouble_any (w : World) (g : Nat) (a : Option Addr) (cap : Nat) (xs : List Int) (hr : Rd w g a .u8 xs) (hb : Byt xs) (hl : xs.length ≤ 64) (h0 : 0 < xs.length) :
    Calls Tryd.prog 55 #[.slice a xs.length cap] w fun e w' => e = .returned (ag8 (wv (fun j => xs.getD j 0) xs.length)) ∧ Below w.heap.size w w' := by
  obtain ⟨off, rfl, hc⟩ := hr h0
  have hg := hr.lt h0
  have hA : Bt (fun j => xs.getD j 0) := hb
  have B0 := (blk_box8 w .u64 56 0 0 0 0 0 0 0 0).up ((Below.refl _ _).alloc (Nat.le_refl _) (.cells #[.int .u64 0, .int .u64 0, .int .u64 0, .int .u64 0, .int .u64 0, .int .u64 0, .int .u64 0, .int .u64 0] 56))
  have B1 : Blk ((w.alloc (.cells #[.int .u64 0, .int .u64 0, .int .u64 0, .int .u64 0, .int .u64 0, .int .u64 0, .int .u64 0, .int .u64 0] 56)).alloc (.cells #[.int .u64 0, .int .u64 0, .int .u64 0, .int .u64 0, .int .u64 0, .int .u64 0, .int .u64 0, .int .u64 0] 56)) (w.heap.size + 1) .u64 [0, 0, 0, 0, 0, 0, 0, 0] := by
    have := blk_box8 (w.alloc (.cells #[.int .u64 0, .int .u64 0, .int .u64 0, .int .u64 0, .int .u64 0, .int .u64 0, .int .u64 0, .int .u64 0] 56)) .u64 56 0 0 0 0 0 0 0 0
    simpa using this
  have N0 : Below w.heap.size w ((w.alloc (.cells #[.int .u64 0, .int .u64 0, .int .u64 0, .int .u64 0, .int .u64 0, .int .u64 0, .int .u64 0, .int .u64 0] 56)).alloc (.cells #[.int .u64 0, .int .u64 0, .int .u64 0, .int .u64 0, .int .u64 0, .int .u64 0, .int .u64 0, .int .u64 0] 56)) :=
    ((Below.refl _ _).alloc (Nat.le_refl _) _).alloc (by simp) _
  go_enter Tryd.func55, Tryd.ntmps55
  go_wp2
  generalize ((w.alloc (.cells #[.int .u64 0, .int .u64 0, .int .u64 0, .int .u64 0, .int .u64 0, .int .u64 0, .int .u64 0, .int .u64 0] 56)).alloc (.cells #[.int .u64 0, .int .u64 0, .int .u64 0, .int .u64 0, .int .u64 0, .int .u64 0, .int .u64 0, .int .u64 0] 56)) = wa at *
  go_loopw [8] (fun i wr => ∃ (k : Nat) (ys : List Int), k ≤ xs.length ∧ i = .int .i64 k ∧ At8 (wv (fun j => xs.getD j 0) k) ys ∧ Blk wr w.heap.size .u64 [0, 0, 0, 0, 0, 0, 0, 0] ∧ Blk wr (w.heap.size + 1) .u64 ys ∧ Below w.heap.size w wr) (fun i _ => xs.length - (intOf i).toNat)
  case atStart => exact ⟨0, _, by omega, rfl, At8.zero _, B0, B1, N0⟩
  case round =>
    clear B0 B1 N0
    obtain ⟨k, ys, hk, rfl, hcp, hB0, hB, hN⟩ := hrel
    by_cases hlt : k < xs.length
    · have hsm := wv_cur hA k
      have hst : ∀ v, v = wv (fun j => xs.getD j 0) k (k / 8) + xs.getD k 0 * 256 ^ (k % 8) → At8 (wv (fun j => xs.getD j 0) (k + 1)) (ys.set (k / 8) v) := fun v hv => hcp.wv v hv
      obtain ⟨q, hq⟩ : ∃ q : Nat, k / 8 = q := ⟨_, rfl⟩
      rw [hq] at hsm hst
      have hq4 : q < 8 := by omega
      have hz := (wv_lt hA k q)
      have hcx : wr.cell? ⟨g, off + k, none⟩ = some (.int .u8 (xs.getD k 0)) := (hN.cell (p := ⟨g, off + k, none⟩) hg).trans (hc k hlt)
      have hcy : wr.cell? ⟨w.heap.size + 1, q, none⟩ = some (.int .u64 (wv (fun j => xs.getD j 0) k q)) := by rw [hB.cell (by rw [hcp.1]; exact hq4), hcp.2 q hq4]
      have hfy := hB.free q
      have hd := hb k
      have q1 : (k : Int) / 8 = (q : Int) := by omega
      have q2 : (q : Int) < 8 := by omega
      have k2 : (k : Int) < (xs.length : Int) := by omega
      have hSt := fun v => hB.store q v
      have hS0 := fun v => hB0.of_block (w' := wr.setCell ⟨w.heap.size + 1, q, none⟩ (.int .u64 v)) (heap_setCell_other wr ⟨w.heap.size + 1, q, none⟩ w.heap.size _ (by show w.heap.size ≠ w.heap.size + 1; omega))
      have hSn : ∀ v, Below w.heap.size w (wr.setCell ⟨w.heap.size + 1, q, none⟩ v) := fun v => hN.setCell (by show w.heap.size ≤ w.heap.size + 1; omega) v
      generalize xs.getD k 0 = x at *
      generalize wv (fun j => xs.getD j 0) k q = z at *
      clear hc hcp hB0 hB hN hb hr hA hg
      rcases (show k % 8 = 0 ∨ k % 8 = 1 ∨ k % 8 = 2 ∨ k % 8 = 3 ∨ k % 8 = 4 ∨ k % 8 = 5 ∨ k % 8 = 6 ∨ k % 8 = 7 by omega) with h4 | h4 | h4 | h4 | h4 | h4 | h4 | h4
      · have r1 : (k : Int) % 8 = 0 := by omega
        rw [h4] at hsm hst
        have e := or64 z x 0 1 (by decide) hz.1 (by simpa using hsm) hd.1 (by omega) (by decide)
        simp only [Int.natCast_one, Int.mul_one] at e
        have e' : bits BinOp.or IntKind.u64 z x = z + x := e
        have R := hst (bits BinOp.or IntKind.u64 z x) (by rw [e']; simp)
        have S := hSt (bits BinOp.or IntKind.u64 z x)
        have S0 := hS0 (bits BinOp.or IntKind.u64 z x)
        clear hst hSt hS0 e hsm e'
        go_wp2
        go_region
        go_wp2
        go_roundw
        case rel => exact ⟨k + 1, _, by omega, by go_num, R, S0.drew, S.drew, (hSn _).drew⟩
        case measure => simp [intOf]; omega
      · have r1 : (k : Int) % 8 = 1 := by omega
        rw [h4] at hsm hst
        have e := or64 z x 8 256 (by decide) hz.1 (by simpa using hsm) hd.1 (by omega) (by decide)
        have e' : bits BinOp.or IntKind.u64 z (x * 256) = z + x * 256 := e
        have R := hst (bits BinOp.or IntKind.u64 z (x * 256)) (by rw [e']; simp)
        have S := hSt (bits BinOp.or IntKind.u64 z (x * 256))
        have S0 := hS0 (bits BinOp.or IntKind.u64 z (x * 256))
        clear hst hSt hS0 e hsm e'
        go_wp2
        go_region
        go_wp2
        go_roundw
        case rel => exact ⟨k + 1, _, by omega, by go_num, R, S0.drew, S.drew, (hSn _).drew⟩
        case measure => simp [intOf]; omega
      · have r1 : (k : Int) % 8 = 2 := by omega
        rw [h4] at hsm hst
        have e := or64 z x 16 65536 (by decide) hz.1 (by simpa using hsm) hd.1 (by omega) (by decide)
        have e' : bits BinOp.or IntKind.u64 z (x * 65536) = z + x * 65536 := e
        have R := hst (bits BinOp.or IntKind.u64 z (x * 65536)) (by rw [e']; simp)
        have S := hSt (bits BinOp.or IntKind.u64 z (x * 65536))
        have S0 := hS0 (bits BinOp.or IntKind.u64 z (x * 65536))
        clear hst hSt hS0 e hsm e'
        go_wp2
        go_region
        go_wp2
        go_roundw
        case rel => exact ⟨k + 1, _, by omega, by go_num, R, S0.drew, S.drew, (hSn _).drew⟩
        case measure => simp [intOf]; omega
      · have r1 : (k : Int) % 8 = 3 := by omega
        rw [h4] at hsm hst
        have e := or64 z x 24 16777216 (by decide) hz.1 (by simpa using hsm) hd.1 (by omega) (by decide)
        have e' : bits BinOp.or IntKind.u64 z (x * 16777216) = z + x * 16777216 := e
        have R := hst (bits BinOp.or IntKind.u64 z (x * 16777216)) (by rw [e']; simp)
        have S := hSt (bits BinOp.or IntKind.u64 z (x * 16777216))
        have S0 := hS0 (bits BinOp.or IntKind.u64 z (x * 16777216))
        clear hst hSt hS0 e hsm e'
        go_wp2
        go_region
        go_wp2
        go_roundw
        case rel => exact ⟨k + 1, _, by omega, by go_num, R, S0.drew, S.drew, (hSn _).drew⟩
        case measure => simp [intOf]; omega
      · have r1 : (k : Int) % 8 = 4 := by omega
        rw [h4] at hsm hst
        have e := or64 z x 32 4294967296 (by decide) hz.1 (by simpa using hsm) hd.1 (by omega) (by decide)
        have e' : bits BinOp.or IntKind.u64 z (x * 4294967296) = z + x * 4294967296 := e
        have R := hst (bits BinOp.or IntKind.u64 z (x * 4294967296)) (by rw [e']; simp)
        have S := hSt (bits BinOp.or IntKind.u64 z (x * 4294967296))
        have S0 := hS0 (bits BinOp.or IntKind.u64 z (x * 4294967296))
        clear hst hSt hS0 e hsm e'
        go_wp2
        go_region
        go_wp2
        go_roundw
        case rel => exact ⟨k + 1, _, by omega, by go_num, R, S0.drew, S.drew, (hSn _).drew⟩
        case measure => simp [intOf]; omega
      · have r1 : (k : Int) % 8 = 5 := by omega
        rw [h4] at hsm hst
        have e := or64 z x 40 1099511627776 (by decide) hz.1 (by simpa using hsm) hd.1 (by omega) (by decide)
        have e' : bits BinOp.or IntKind.u64 z (x * 1099511627776) = z + x * 1099511627776 := e
        have R := hst (bits BinOp.or IntKind.u64 z (x * 1099511627776)) (by rw [e']; simp)
        have S := hSt (bits BinOp.or IntKind.u64 z (x * 1099511627776))
        have S0 := hS0 (bits BinOp.or IntKind.u64 z (x * 1099511627776))
        clear hst hSt hS0 e hsm e'
        go_wp2
        go_region
        go_wp2
        go_roundw
        case rel => exact ⟨k + 1, _, by omega, by go_num, R, S0.drew, S.drew, (hSn _).drew⟩
        case measure => simp [intOf]; omega
      · have r1 : (k : Int) % 8 = 6 := by omega
        rw [h4] at hsm hst
        have e := or64 z x 48 281474976710656 (by decide) hz.1 (by simpa using hsm) hd.1 (by omega) (by decide)
        have e' : bits BinOp.or IntKind.u64 z (x * 281474976710656) = z + x * 281474976710656 := e
        have R := hst (bits BinOp.or IntKind.u64 z (x * 281474976710656)) (by rw [e']; simp)
        have S := hSt (bits BinOp.or IntKind.u64 z (x * 281474976710656))
        have S0 := hS0 (bits BinOp.or IntKind.u64 z (x * 281474976710656))
        clear hst hSt hS0 e hsm e'
        go_wp2
        go_region
        go_wp2
        go_roundw
        case rel => exact ⟨k + 1, _, by omega, by go_num, R, S0.drew, S.drew, (hSn _).drew⟩
        case measure => simp [intOf]; omega
      · have r1 : (k : Int) % 8 = 7 := by omega
        rw [h4] at hsm hst
        have e := or64 z x 56 72057594037927936 (by decide) hz.1 (by simpa using hsm) hd.1 (by omega) (by decide)
        have e' : bits BinOp.or IntKind.u64 z (x * 72057594037927936) = z + x * 72057594037927936 := e
        have R := hst (bits BinOp.or IntKind.u64 z (x * 72057594037927936)) (by rw [e']; simp)
        have S := hSt (bits BinOp.or IntKind.u64 z (x * 72057594037927936))
        have S0 := hS0 (bits BinOp.or IntKind.u64 z (x * 72057594037927936))
        clear hst hSt hS0 e hsm e'
        go_wp2
        go_region
        go_wp2
        go_roundw
        case rel => exact ⟨k + 1, _, by omega, by go_num, R, S0.drew, S.drew, (hSn _).drew⟩
        case measure => simp [intOf]; omega
    · obtain rfl : k = xs.length := by omega
      have hY := hcp.all
      subst hY
      obtain ⟨f, hf⟩ : ∃ f, f = wv (fun j => xs.getD j 0) xs.length := ⟨_, rfl⟩
      have HF : Hid (f = wv (fun j => xs.getD j 0) xs.length) := hf
      rw [← hf] at hB
      obtain ⟨⟨p0, p1, p2, p3, p4, p5, p6, p7⟩, _⟩ := hB.f8
      obtain ⟨⟨r0, r1, r2, r3, r4, r5, r6, r7⟩, ⟨g0, g1, g2, g3, g4, g5, g6, g7⟩⟩ := hB0.f8
      clear hf hcp
      go_wp2
      refine bodyPost_ret (v := ag8 f) (by simp [ag8, results, Tryd.results55, go_sem, r0, r1, r2, r3, r4, r5, r6, r7]) rfl ⟨by rw [HF.out], ?_⟩
      exact below_set8 hN (Nat.le_refl _) _ _ _ _ _ _ _ _
end Go.Proofs.YtbhmhkimddjhaaaDoor
/-
  The program's OrderReduce.
-/
namespace Go.Proofs.YtbhmhkimddjhaaaDoor
set_option maxRecDepth 100000
open Go.RowKit

set_option maxHeartbeats 2000000 in
theorem implOrderReduce_any (w : World) (g : Nat) (a : Option Addr) (c : Nat) (xs : List Int) (hr : Rd w g a .u8 xs) (hb : Byt xs) (hO : HasO w) :
    Calls Tryd.prog 20 #[.slice a xs.length c] w fun e w' => NewRow w.heap.size w' e .u8 (ored xs) ∧ Below w.heap.size w w' := by
  by_cases h : 1 ≤ xs.length ∧ xs.length ≤ 64
  · have R1 := readDouble_any w g a c xs hr hb h.2 h.1
    have hW : W8 (wv (fun j => xs.getD j 0) xs.length) := fun j _ => wv_lt hb _ j
    have hv : dval (wv (fun j => xs.getD j 0) xs.length) = num xs := by rw [wv_dval _ _ h.2]
    have K : Hid (ored xs = fill (byt (num xs % QQ)) 32) := by show _ = _; rw [ored, if_pos h]
    have t1 : decide ((xs.length : Int) < 1) = false := by simp; omega
    have t2 : decide ((64 : Int) < (xs.length : Int)) = false := by simp; omega
    generalize wv (fun j => xs.getD j 0) xs.length = D at *
    obtain ⟨r1, r2⟩ := rdD_ok hW
    have DR := fun W (h : Below w.heap.size w W) => doubleReduce_any W D hW (hO.up h)
    have SB := fun W => scalarBytes_any W (rdD D) r1
    rw [r2, hv, ← K.out] at SB
    clear h hr hb
    go_enter Tryd.func20, Tryd.ntmps20
    go_wp2_with fail
    refine R1.mono ?_
    rintro e w1 ⟨rfl, n1⟩
    go_wp2_with fail
    refine (DR w1 n1).mono ?_
    rintro e w2 ⟨rfl, n2⟩
    have N2 := nxt n1 n2
    go_wp2_with fail
    refine (SB w2).mono ?_
    rintro e w3 ⟨⟨a3, c3, g3, rfl, o3, p3, q3, r3⟩, n3⟩
    have N3 := nxt N2 n3
    have z := N2.size
    clear R1 DR SB hv r1 r2 hW
    go_wp2
    go_ret
    exact ⟨⟨a3, c3, g3, rfl, o3, p3, q3, by omega⟩, N3⟩
  · have K : Hid (ored xs = []) := by show _ = _; rw [ored, if_neg h]
    by_cases h1 : xs.length < 1
    · have t1 : decide ((xs.length : Int) < 1) = true := by simp; omega
      clear h h1
      go_enter Tryd.func20, Tryd.ntmps20
      go_wp2
      go_ret
      rw [K.out]
      exact ⟨newRow_nil _ _, Below.refl _ _⟩
    · have t1 : decide ((xs.length : Int) < 1) = false := by simp; omega
      have t2 : decide ((64 : Int) < (xs.length : Int)) = true := by simp; omega
      clear h h1
      go_enter Tryd.func20, Tryd.ntmps20
      go_wp2
      go_ret
      rw [K.out]
      exact ⟨newRow_nil _ _, Below.refl _ _⟩
end Go.Proofs.YtbhmhkimddjhaaaDoor
