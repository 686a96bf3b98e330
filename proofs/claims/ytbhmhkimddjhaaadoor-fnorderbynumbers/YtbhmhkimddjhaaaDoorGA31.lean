import Derived.Test.YtbhmhkimddjhaaaDoorGA30
import Derived.Test.YtbhmhkimddjhaaaDoorGA26
/-
  Shifts of limbs, and division by one limb.
-/
namespace Go.Proofs.YtbhmhkimddjhaaaDoor
set_option maxRecDepth 100000
open Go.RowKit

theorem p2_pos (s : Nat) : (0 : Int) < 2 ^ s := Int.pow_pos (by decide)
theorem p2_le {s : Nat} (hs : s ≤ 31) : (2 : Int) ^ s ≤ 2147483648 := by
  have h1 : 2 ^ s ≤ 2147483648 := Nat.pow_le_pow_right (n := 2) (by decide) hs
  have h2 : ((2 ^ s : Nat) : Int) ≤ 2147483648 := by omega
  rw [Int.natCast_pow] at h2
  exact h2
theorem or_comm64 (x y : Int) : bits BinOp.or IntKind.u64 x y = bits BinOp.or IntKind.u64 y x := by
  unfold bits
  simp only []
  rw [BitVec.or_comm]
theorem or_low (c v : Int) (s : Nat) (hs : s ≤ 31) (c0 : 0 ≤ c) (c1 : c < 2 ^ s) (v0 : 0 ≤ v) (v1 : v < 4294967296) : bits BinOp.or IntKind.u64 c (v * 2 ^ s) = c + v * 2 ^ s := by
  have p := p2_pos s
  have p2 := p2_le hs
  have m0 : 0 ≤ v * 2 ^ s := Int.mul_nonneg v0 (by omega)
  have m1 : v * 2 ^ s ≤ 4294967295 * 2147483648 := Int.le_trans (Int.mul_le_mul_of_nonneg_right (show v ≤ 4294967295 by omega) (by omega)) (Int.mul_le_mul_of_nonneg_left p2 (by decide))
  have := bits_join .u64 64 (by decide) wraps_u641 s (v * 2 ^ s) c m0 (Int.mul_emod_left _ _) (by omega) c0 c1 (by omega)
  rw [or_comm64, this]
  omega

set_option maxHeartbeats 2000000 in
theorem shiftLeft_any (w : World) (g : Nat) (a : Option Addr) (ca : Nat) (zs : List Int) (s : Nat) (ha : Rd w g a .u32 zs) (hz : Lmb zs) (hn : zs.length ≤ 4096) (hs : s ≤ 31) :
    Calls Tryd.prog 129 #[.slice a zs.length ca, .int .i64 s] w fun e w' => ∃ ys : List Int, e = .returned (.slice (some ⟨w.heap.size, 0, none⟩) (zs.length + 1) (zs.length + 1)) ∧ ys.length = zs.length + 1 ∧ Lmb ys ∧ lval ys = lval zs * 2 ^ s ∧ Blk w' w.heap.size .u32 ys ∧ Below w.heap.size w w' := by
  obtain ⟨i0, hi, hz0, hz1, hz2⟩ := info_parts Tryd.info99
  have p := p2_pos s
  have p2 := p2_le hs
  go_enter Tryd.func129, Tryd.ntmps129
  go_wp2_with (at_make; refine wpList_make_full _ rfl _ _ 63 rfl w.heap.size 99 i0 (.int .u32 0) 1 Tryd.underlying63 hi hz0 hz1 .i64 .i64 _ _ (zs.length + 1) rfl rfl (by omega) (by omega) (by rw [hz2]; omega) (by unfold maxLen; omega) (Nat.le_refl _) ?_; intro w1 hown hgrow)
  have hB0 := Blk.of_made hown
  have hN0 : Below w.heap.size w w1 := (Below.refl _ _).grown hgrow (Nat.le_refl _) (by simp)
  clear hown hgrow
  go_loopw [6, 14] (fun q i wr => ∃ (k : Nat) (c : Int) (ys : List Int), k ≤ zs.length ∧ i = .int .i64 k ∧ q = .int .u64 c ∧ ShlTo zs ys (2 ^ s) k c ∧ Blk wr w.heap.size .u32 ys ∧ Below w.heap.size w wr) (fun _ i _ => zs.length - (intOf i).toNat)
  case atStart => exact ⟨0, 0, _, Nat.zero_le _, rfl, rfl, ⟨by simp, lmb_zeros _, ⟨by omega, by omega⟩, by simp [llo]⟩, hB0, hN0⟩
  case round =>
    obtain ⟨k, c, ys, hk, rfl, rfl, hA, hB, hN⟩ := hrel
    have hcb := hA.2.2.1
    have hyl := hA.1
    by_cases hlt : k < zs.length
    · obtain ⟨off, rfl, hc⟩ := ha (by omega)
      have R := hide (hA.step hz hlt (by omega))
      have zb := hz k
      have c1 : wr.cell? ⟨g, off + k, none⟩ = some (.int .u32 (zs.getD k 0)) := (hN.cell (p := ⟨g, off + k, none⟩) (ha.lt (by omega))).trans (hc k hlt)
      have c2 : wr.cell? ⟨w.heap.size, k, none⟩ = some (.int .u32 (ys.getD k 0)) := hB.cell (by omega)
      have f2 := hB.free k
      have S := hB.store k ((c + zs.getD k 0 * 2 ^ s) % 4294967296)
      have Sn : Below w.heap.size w (wr.setCell ⟨w.heap.size, k, none⟩ (.int .u32 ((c + zs.getD k 0 * 2 ^ s) % 4294967296))) := hN.setCell (Nat.le_refl _) _
      have m0 : 0 ≤ zs.getD k 0 * 2 ^ s := Int.mul_nonneg zb.1 (by omega)
      have m1 : zs.getD k 0 * 2 ^ s ≤ 4294967295 * 2147483648 := Int.le_trans (Int.mul_le_mul_of_nonneg_right (show zs.getD k 0 ≤ 4294967295 by omega) (by omega)) (Int.mul_le_mul_of_nonneg_left p2 (by decide))
      have e1 := or_low c (zs.getD k 0) s hs hcb.1 hcb.2 zb.1 zb.2
      generalize zs.getD k 0 = z at *
      clear hA hB hN hc hyl hcb
      go_wp2
      go_roundw
      case rel => exact ⟨k + 1, _, _, by omega, by go_num, rfl, R.out, S, Sn⟩
      case measure => simp [intOf]; omega
    · obtain rfl : k = zs.length := by omega
      have D := hide (hA.done (by omega))
      have c2 : wr.cell? ⟨w.heap.size, zs.length, none⟩ = some (.int .u32 (ys.getD zs.length 0)) := hB.cell (by omega)
      have f2 := hB.free zs.length
      have S := hB.store zs.length c
      have Sn : Below w.heap.size w (wr.setCell ⟨w.heap.size, zs.length, none⟩ (.int .u32 c)) := hN.setCell (Nat.le_refl _) _
      have m1 : c % 4294967296 = c := by omega
      have L := hide hyl
      clear hA hB hN hyl
      go_wp2
      go_ret
      exact ⟨ys.set zs.length c, rfl, by rw [List.length_set]; exact L.out, D.out.2, D.out.1, S, Sn⟩

set_option maxHeartbeats 2000000 in
theorem shiftRight_any (w : World) (g : Nat) (a : Option Addr) (ca : Nat) (zs : List Int) (s : Nat) (ha : Rd w g a .u32 zs) (hz : Lmb zs) (hn : zs.length ≤ 4096) (hs : s ≤ 31) :
    Calls Tryd.prog 132 #[.slice a zs.length ca, .int .i64 s] w fun e w' => ∃ ys : List Int, e = .returned (.slice (some ⟨w.heap.size, 0, none⟩) zs.length zs.length) ∧ ys.length = zs.length ∧ Lmb ys ∧ lval ys = lval zs / 2 ^ s ∧ Blk w' w.heap.size .u32 ys ∧ Below w.heap.size w w' := by
  obtain ⟨i0, hi, hz0, hz1, hz2⟩ := info_parts Tryd.info99
  have p := p2_pos s
  have p2 := p2_le hs
  have hBC : (4294967296 : Int) = 2 ^ s * 2 ^ (32 - s) := by rw [← Int.pow_add, show s + (32 - s) = 32 by omega]; rfl
  have HBC := hide hBC
  clear hBC
  go_enter Tryd.func132, Tryd.ntmps132
  go_wp2_with (at_make; refine wpList_make_full _ rfl _ _ 63 rfl w.heap.size 99 i0 (.int .u32 0) 1 Tryd.underlying63 hi hz0 hz1 .i64 .i64 _ _ zs.length rfl rfl rfl rfl (by rw [hz2]; omega) (by unfold maxLen; omega) (Nat.le_refl _) ?_; intro w1 hown hgrow)
  have hB0 := Blk.of_made hown
  have hN0 : Below w.heap.size w w1 := (Below.refl _ _).grown hgrow (Nat.le_refl _) (by simp)
  clear hown hgrow
  go_loopw [6, 7] (fun q i wr => ∃ (t : Int) (ys : List Int), i = .int .i64 t ∧ q = .int .u64 (zs.getD (t + 1).toNat 0) ∧ -1 ≤ t ∧ t < (zs.length : Int) ∧ ShrTo zs ys (2 ^ s) (t + 1).toNat ∧ Blk wr w.heap.size .u32 ys ∧ Below w.heap.size w wr) (fun _ i _ => (intOf i + 1).toNat)
  case atStart =>
    refine ⟨(zs.length : Int) - 1, _, rfl, ?_, by omega, by omega, ⟨by simp, lmb_zeros _, ?_⟩, hB0, hN0⟩
    · rw [show ((zs.length : Int) - 1 + 1).toNat = zs.length by omega, List.getD_eq_getElem?_getD, List.getElem?_eq_none (Nat.le_refl _)]
      rfl
    · rw [lhi_past _ _ (by simp), lhi_past _ _ (by omega)]
      simp
  case round =>
    obtain ⟨t, ys, rfl, rfl, ht0, ht1, hA, hB, hN⟩ := hrel
    by_cases ht : 0 ≤ t
    · obtain ⟨j, rfl⟩ := Int.eq_ofNat_of_zero_le ht
      have hj : j < zs.length := by omega
      rw [show ((j : Int) + 1).toNat = j + 1 by omega] at hA ⊢
      obtain ⟨off, rfl, hc⟩ := ha (by omega)
      have R := hide (hA.step hz hj HBC.out p)
      have hyl := hA.1
      have zb := hz j
      have yb := hz (j + 1)
      have c1 : wr.cell? ⟨g, off + j, none⟩ = some (.int .u32 (zs.getD j 0)) := (hN.cell (p := ⟨g, off + j, none⟩) (ha.lt (by omega))).trans (hc j hj)
      have c2 : wr.cell? ⟨w.heap.size, j, none⟩ = some (.int .u32 (ys.getD j 0)) := hB.cell (by omega)
      have f2 := hB.free j
      have S := hB.store j ((zs.getD (j + 1) 0 * 4294967296 + zs.getD j 0) / 2 ^ s % 4294967296)
      have Sn : Below w.heap.size w (wr.setCell ⟨w.heap.size, j, none⟩ (.int .u32 ((zs.getD (j + 1) 0 * 4294967296 + zs.getD j 0) / 2 ^ s % 4294967296))) := hN.setCell (Nat.le_refl _) _
      have e1 := or641 (zs.getD (j + 1) 0) (zs.getD j 0) yb.1 yb.2 zb.1 zb.2
      have c3 : ∀ v, (wr.setCell ⟨w.heap.size, j, none⟩ v).cell? ⟨g, off + j, none⟩ = some (.int .u32 (zs.getD j 0)) := fun v => by
        rw [World.cell?_of_block (a := ⟨g, off + j, none⟩) (heap_setCell_other wr ⟨w.heap.size, j, none⟩ g v (by have := ha.lt (by omega); show g ≠ w.heap.size; omega))]
        exact c1
      have Hz : Hid (zs.getD ((j : Int) - 1 + 1).toNat 0 = zs.getD j 0) := by show _ = _; rw [show ((j : Int) - 1 + 1).toNat = j by omega]
      generalize hy : zs.getD (j + 1) 0 = y at *
      generalize hx : zs.getD j 0 = z at *
      clear hA hB hN hc hyl hy hx
      have d1 : (j : Int) < (zs.length : Int) := by omega
      go_wp2
      go_roundw
      case rel => exact ⟨(j : Int) - 1, _, rfl, by rw [Hz.out], by omega, by omega, by rw [show ((j : Int) - 1 + 1).toNat = j by omega]; exact R.out, S, Sn⟩
      case measure => simp [intOf]
    · obtain rfl : t = -1 := by omega
      have D := hide (ShrTo.done hA)
      have L := hide hA.1
      have hl := hA.2.1
      clear hA
      go_wp2
      go_ret
      exact ⟨rfl, ys, L.out, hl, D.out, hB, hN⟩
end Go.Proofs.YtbhmhkimddjhaaaDoor
/-
  spec.NumAdd.
-/
namespace Go.Proofs.YtbhmhkimddjhaaaDoor
set_option maxRecDepth 100000
open Go.RowKit

/-- A cell of a new block of two, behind calls that keep what was there. -/
theorem two_kept {w w1 : World} {x y : Value} {t : TypeId} (n : Below (w.alloc (.cells #[x, y] t)).heap.size (w.alloc (.cells #[x, y] t)) w1) :
    w1.cell? ⟨w.heap.size, 0, none⟩ = some x ∧ w1.cell? ⟨w.heap.size, 1, none⟩ = some y ∧ w1.frozen? ⟨w.heap.size, 0, none⟩ = false ∧ w1.frozen? ⟨w.heap.size, 1, none⟩ = false ∧ w.heap.size < w1.heap.size := by
  have hs : w.heap.size < (w.alloc (.cells #[x, y] t)).heap.size := by simp
  refine ⟨?_, ?_, ?_, ?_, by have := n.size; omega⟩
  · rw [n.cell (p := ⟨w.heap.size, 0, none⟩) hs]; simp [World.cell?_alloc_at]
  · rw [n.cell (p := ⟨w.heap.size, 1, none⟩) hs]; simp [World.cell?_alloc_at]
  · rw [n.frozen (p := ⟨w.heap.size, 0, none⟩) hs]; simp [World.frozen?_alloc_at]
  · rw [n.frozen (p := ⟨w.heap.size, 1, none⟩) hs]; simp [World.frozen?_alloc_at]

/-- A block of two cells, known and free. -/
structure Two (w : World) (p : Nat) (x y : Value) : Prop where
  c0 : w.cell? ⟨p, 0, none⟩ = some x
  c1 : w.cell? ⟨p, 1, none⟩ = some y
  f0 : w.frozen? ⟨p, 0, none⟩ = false
  f1 : w.frozen? ⟨p, 1, none⟩ = false
theorem Two.lt {w : World} {p : Nat} {x y : Value} (h : Two w p x y) : p < w.heap.size := block_lt_of_cell h.c0
theorem Two.of_block {w w' : World} {p : Nat} {x y : Value} (h : Two w p x y) (hb : w'.heap[p]? = w.heap[p]?) : Two w' p x y :=
  ⟨(World.cell?_of_block (a := ⟨p, 0, none⟩) hb).trans h.c0, (World.cell?_of_block (a := ⟨p, 1, none⟩) hb).trans h.c1, (World.frozen?_of_block (a := ⟨p, 0, none⟩) hb).trans h.f0, (World.frozen?_of_block (a := ⟨p, 1, none⟩) hb).trans h.f1⟩
theorem Two.up {w w' : World} {p : Nat} {x y : Value} (h : Two w p x y) (n : Below w.heap.size w w') : Two w' p x y := h.of_block (n.block p h.lt)
theorem Two.only {w w' : World} {p g : Nat} {x y : Value} (h : Two w p x y) (n : Only g w w') (hne : p ≠ g) : Two w' p x y := h.of_block (n.block p hne)
theorem Two.new (w : World) (x y : Value) (t : TypeId) : Two (w.alloc (.cells #[x, y] t)) w.heap.size x y := by
  obtain ⟨k1, k2, k3, k4, _⟩ := two_kept (Below.refl (w.alloc (.cells #[x, y] t)).heap.size (w.alloc (.cells #[x, y] t)))
  exact ⟨k1, k2, k3, k4⟩

/-- The result is laid into its cell: all else stands. -/
theorem two_laid {w w2 : World} {g : Nat} {a : Option Addr} {zs : List Int} {u v : Value} (n : Below w.heap.size w w2) (o : Own w2 g a .u8 zs) (hg : w.heap.size < g) :
    Own ((w2.setCell ⟨w.heap.size, 0, none⟩ u).setCell ⟨w.heap.size, 1, none⟩ v) g a .u8 zs ∧ Below w.heap.size w ((w2.setCell ⟨w.heap.size, 0, none⟩ u).setCell ⟨w.heap.size, 1, none⟩ v) := by
  have h1 := Only.setCell w2 w.heap.size 0 u
  have h2 := Only.setCell (w2.setCell ⟨w.heap.size, 0, none⟩ u) w.heap.size 1 v
  have h3 := h1.trans h2
  exact ⟨o.only h3 (fun _ => by omega), n.trans (h3.below (Nat.le_refl _))⟩

end Go.Proofs.YtbhmhkimddjhaaaDoor
