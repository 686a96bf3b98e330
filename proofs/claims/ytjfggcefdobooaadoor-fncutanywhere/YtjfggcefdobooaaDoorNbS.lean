
/-
  The model's l1Big and l1Copy as owned rows.
-/
import Derived.Test.YtjfggcefdobooaaDoorNbA
import Derived.Test.YtjfggcefdobooaaDoorSpecA
namespace Go.Proofs.YtjfggcefdobooaaDoor
set_option maxRecDepth 100000
open Go Go.RowKit

def TyB (w : World) (g : Nat) : Prop := ∃ cur, w.heap[g]? = some (.cells cur 5 (0, 0))
theorem TyB.of_made {w : World} {base g n : Nat} {xs : List Value} (h : w.ownsRow base 5 1 (.slice (some ⟨g, 0, none⟩) n n) n xs) : TyB w g := by
  rcases h.2 with ⟨h', _⟩ | ⟨g', cap', cur, h', _, hg, _⟩
  · simp at h'
  · simp only [Value.slice.injEq, Option.some.injEq, Addr.mk.injEq, and_true, true_and] at h'
    obtain ⟨rfl, rfl⟩ := h'
    exact ⟨cur, hg⟩
theorem TyB.set {w : World} {g : Nat} (h : TyB w g) (i : Nat) (v : Value) : TyB (w.setCell ⟨g, i, none⟩ v) g := by
  obtain ⟨cur, h⟩ := h
  exact ⟨_, heap_setCell_same w g i _ 5 _ h⟩
theorem RowB.of_tyb {w : World} {g B : Nat} {ys : List Int} (h : Blk w g .u8 ys) (t : TyB w g) (hB : B ≤ g) (hl : ys.length ≤ 1048576) : RowB w B (.slice (some ⟨g, 0, none⟩) ys.length ys.length) ys := by
  obtain ⟨e, h⟩ := h
  obtain ⟨cur, t⟩ := t
  rw [t] at h
  simp only [Option.some.injEq, Obj.cells.injEq, and_true] at h
  obtain ⟨rfl, rfl⟩ := h
  refine ⟨by simp, .inr ⟨g, ys.length, _, rfl, hB, t, Nat.le_refl _, by unfold maxLen; omega, by simp, ?_⟩⟩
  show List.take (ys.length * 1) (List.map (Value.int .u8) ys) = _
  exact List.take_of_length_le (by simp)
set_option maxHeartbeats 1000000 in
theorem l1BigB_any (w : World) (v : Int) (t : Nat) (h0 : 0 ≤ v) (h1 : v < 9223372036854775808) (ht : t ≤ 1048576) :
    Calls Tryd.prog 24 #[.int .i64 v, .int .i64 (t : Int)] w fun e w' => e = .returned (.slice (some ⟨w.heap.size, 0, none⟩) t t) ∧ RowB w' w.heap.size (.slice (some ⟨w.heap.size, 0, none⟩) t t) (bigL v t) ∧ Below w.heap.size w w' := by
  obtain ⟨i0, hi, hz0, hz1, hz2⟩ := info_parts Tryd.info5
  go_enter Tryd.func24, Tryd.ntmps24
  go_wp2_with (at_make; refine wpList_make_full _ rfl _ _ 22 rfl w.heap.size 5 i0 (.int .u8 0) 1 Tryd.underlying22 hi hz0 hz1 .i64 .i64 _ _ t rfl rfl rfl rfl (by rw [hz2]; omega) (by unfold maxLen; omega) (Nat.le_refl _) ?_; intro w1 hown hgrow)
  have hB0 := Blk.of_made hown
  have T0 := TyB.of_made hown
  have hN0 : Below w.heap.size w w1 := (Below.refl _ _).grown hgrow (Nat.le_refl _) (by simp)
  clear hown hgrow
  go_loopw [0, 6] (fun q i wr => ∃ (k : Nat) (u j : Int) (ys : List Int), k ≤ t ∧ q = .int .i64 u ∧ i = .int .i64 j ∧ j + (k : Int) + 1 = (t : Int) ∧ 0 ≤ u ∧ u < 9223372036854775808 ∧ Hid (u = v / 256 ^ k) ∧ BigTo v t ys k ∧ Blk wr w.heap.size .u8 ys ∧ TyB wr w.heap.size ∧ Below w.heap.size w wr) (fun _ i _ => (intOf i + 1).toNat)
  case atStart => exact ⟨0, v, (t : Int) - 1, _, Nat.zero_le _, rfl, by go_num, by omega, h0, h1, by show _ = _; simp, BigTo.zero v t, hB0, T0, hN0⟩
  case round =>
    obtain ⟨k, u, j, ys, hk, rfl, rfl, hj, u0, u1, hu, hT, hB, hTy, hN⟩ := hrel
    by_cases hlt : 0 ≤ j
    · obtain ⟨p, rfl⟩ := Int.eq_ofNat_of_zero_le hlt
      have R := hT.step (by omega)
      rw [show t - 1 - k = p by omega, ← hu.out] at R
      have hl : p < ys.length := by rw [hT.1]; omega
      have hcy := hB.cell hl
      have hfy := hB.free p
      have hB' := hB.store p (u % 256)
      have hTy' := hTy.set p (.int .u8 (u % 256))
      have hN' : Below w.heap.size w (wr.setCell ⟨w.heap.size, p, none⟩ (.int .u8 (u % 256))) := hN.setCell (Nat.le_refl _) _
      have hu' : Hid (u / 256 = v / 256 ^ (k + 1)) := by show _ = _; rw [hu.out, div256]
      have p1 : (p : Int) < (t : Int) := by omega
      have HJ := hide hj
      clear hB hN hu hT hj
      go_wp2
      go_roundw
      case rel => exact ⟨k + 1, u / 256, (p : Int) - 1, _, by have := HJ.out; omega, by go_num, by go_num, by have := HJ.out; omega, by omega, by omega, hu', R, hB', hTy', hN'⟩
      case measure => simp [intOf]
    · obtain rfl : k = t := by omega
      have K := hide hT.all
      obtain rfl : j = -1 := by omega
      clear hj hu hT
      go_wp2
      go_ret
      have RB := RowB.of_tyb (B := w.heap.size) hB hTy (Nat.le_refl _) (by rw [K.out, bigL_len]; exact ht)
      rw [K.out, bigL_len] at RB
      exact ⟨rfl, RB, hN⟩
end Go.Proofs.YtjfggcefdobooaaDoor
