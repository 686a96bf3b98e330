
/-
  A part of a block that holds integers, and what is left alone. No program in sight (written by gens/hf.py).
-/
import Derived.Test.YtnfciobpfiibcaaDoorHsW
import Derived.Test.YtnfciobpfiibcaaDoorHsB
namespace Go.Proofs.YtnfciobpfiibcaaDoor
set_option maxRecDepth 100000
open Go Go.RowKit

def Seg (w : World) (q off : Nat) (k : IntKind) (ys : List Int) : Prop := ∀ i, i < ys.length → w.cell? ⟨q, off + i, none⟩ = some (.int k (ys.getD i 0)) ∧ w.frozen? ⟨q, off + i, none⟩ = false
/-- All but n cells of block q from off on are as they were. -/
structure SegX (q off n : Nat) (w w' : World) : Prop where
  only : Only q w w'
  out : ∀ j, (j < off ∨ off + n ≤ j) → w'.cell? ⟨q, j, none⟩ = w.cell? ⟨q, j, none⟩ ∧ w'.frozen? ⟨q, j, none⟩ = w.frozen? ⟨q, j, none⟩
theorem SegX.refl (q off n : Nat) (w : World) : SegX q off n w w := ⟨Only.refl _ _, fun _ _ => ⟨rfl, rfl⟩⟩
theorem SegX.trans {q off n : Nat} {a b c : World} (h : SegX q off n a b) (k : SegX q off n b c) : SegX q off n a c :=
  ⟨h.only.trans k.only, fun j hj => ⟨(k.out j hj).1.trans (h.out j hj).1, (k.out j hj).2.trans (h.out j hj).2⟩⟩
theorem SegX.drew {q off n : Nat} {a b : World} (h : SegX q off n a b) : SegX q off n a b.drew := h.trans ⟨⟨rfl, rfl, rfl, rfl, fun _ _ => rfl⟩, fun _ _ => ⟨rfl, rfl⟩⟩
theorem SegX.drewN {q off n : Nat} {a b : World} (h : SegX q off n a b) (m : Nat) : SegX q off n a (b.drewN m) := h.trans ⟨⟨rfl, rfl, rfl, rfl, fun _ _ => rfl⟩, fun _ _ => ⟨rfl, rfl⟩⟩
theorem frozen_setCell (w : World) (p r : Addr) (v : Value) : (w.setCell p v).frozen? r = w.frozen? r := by simp
theorem SegX.set (w : World) (q off n i : Nat) (hi : i < n) (v : Value) : SegX q off n w (w.setCell ⟨q, off + i, none⟩ v) := by
  refine ⟨Only.setCell w q (off + i) v, fun j hj => ⟨?_, frozen_setCell _ _ _ _⟩⟩
  rw [World.cell?_setCell_other (h := fun h => by simp only [Addr.mk.injEq, true_and, and_true] at h; omega)]
theorem Seg.store {w : World} {q off : Nat} {k : IntKind} {ys : List Int} (h : Seg w q off k ys) (i : Nat) (hi : i < ys.length) (z : Int) : Seg (w.setCell ⟨q, off + i, none⟩ (.int k z)) q off k (ys.set i z) := by
  intro j hj
  rw [List.length_set] at hj
  refine ⟨?_, by rw [frozen_setCell]; exact (h j hj).2⟩
  by_cases e : i = j
  · subst e
    rw [getD_set_self _ _ _ hi, World.cell?_setCell_same _ _ _ (h i hi).1]
  · rw [getD_set_ne _ _ _ _ e, World.cell?_setCell_other (h := fun h => by simp only [Addr.mk.injEq, true_and, and_true] at h; omega)]
    exact (h j hj).1
theorem Seg.up {w w' : World} {q off : Nat} {k : IntKind} {ys : List Int} (h : Seg w q off k ys) (n : Below w.heap.size w w') : Seg w' q off k ys := by
  intro i hi
  have l := block_lt_of_cell (h i hi).1
  exact ⟨(World.cell?_of_block (a := ⟨q, off + i, none⟩) (n.block q l)).trans (h i hi).1, (World.frozen?_of_block (a := ⟨q, off + i, none⟩) (n.block q l)).trans (h i hi).2⟩
theorem p256_leh {m n : Nat} (h : m ≤ n) : (256 : Int) ^ m ≤ 256 ^ n := by
  obtain ⟨d, rfl⟩ := Nat.exists_eq_add_of_le h
  rw [Int.pow_add]
  have h1 := p256_pos d
  have h2 := p256_pos m
  have : (256 : Int) ^ m * 1 ≤ 256 ^ m * 256 ^ d := Int.mul_le_mul_of_nonneg_left (by omega) (by omega)
  omega
theorem Seg.range {w : World} {q off : Nat} {k : IntKind} {ys : List Int} (h : Seg w q off k ys) : w.rangeAt q off (ys.map (Value.int k)) := fun j v hv => by
  have hj : j < ys.length := by have := (List.getElem?_eq_some_iff.1 hv).1; simpa using this
  rw [(h j hj).1]
  simpa [hj] using hv
theorem one_ints (k : IntKind) (ys : List Int) : (ys.map (Value.int k)).toArray.all (·.oneCell') = true := all_oneCell_toArray fun v hv => by
  obtain ⟨x, _, rfl⟩ := List.mem_map.1 hv
  rfl
theorem Seg.blk {w : World} {q : Nat} {k : IntKind} {ys : List Int} (h : Blk w q k ys) : Seg w q 0 k ys := fun i hi => ⟨by rw [Nat.zero_add]; exact h.cell hi, h.free _⟩
theorem orb32 (x b : Int) (h0 : 0 ≤ x) (h1 : x < 16777216) (b0 : 0 ≤ b) (b1 : b < 256) : bits BinOp.or IntKind.u32 (x * 256 % 4294967296) b = x * 256 + b := by
  obtain ⟨n, rfl⟩ := Int.eq_ofNat_of_zero_le h0
  obtain ⟨m, rfl⟩ := Int.eq_ofNat_of_zero_le b0
  rw [Int.emod_eq_of_lt (by omega) (by omega), show (n : Int) * 256 = ((n * 256 : Nat) : Int) by omega, u32_or_nat (n * 256) m (by omega) (by omega), nat_join 8 (n * 256) m (by omega) (by omega)]
  omega
theorem orb64 (x b : Int) (h0 : 0 ≤ x) (h1 : x < 72057594037927936) (b0 : 0 ≤ b) (b1 : b < 256) : bits BinOp.or IntKind.u64 (x * 256 % 18446744073709551616) b = x * 256 + b := by
  obtain ⟨n, rfl⟩ := Int.eq_ofNat_of_zero_le h0
  obtain ⟨m, rfl⟩ := Int.eq_ofNat_of_zero_le b0
  rw [Int.emod_eq_of_lt (by omega) (by omega), show (n : Int) * 256 = ((n * 256 : Nat) : Int) by omega, u64_or_nat (n * 256) m (by omega) (by omega), nat_join 8 (n * 256) m (by omega) (by omega)]
  omega
end Go.Proofs.YtnfciobpfiibcaaDoor
