/-
  Division by one limb.
-/
import Derived.Test.YthdjopkmlcdoeaaShift
import Derived.Test.YthdjopkmlcdoeaaSubI
import Derived.Test.YthdjopkmlcdoeaaTakeB
namespace Go.Proofs.Ythdjopkmlcdoeaa
open Go.RowKit

/-- A row of limbs of the call's own, without a limb 0 at its end. -/
def NRow (w : World) (g : Nat) (a : Option Addr) (c : Nat) (zs : List Int) : Prop := Own w g a .u32 zs ∧ Lmb zs ∧ Top zs ∧ zs.length ≤ c ∧ c ≤ 4096
/-- Quotient and rest. -/
def DivRes (w' : World) (e : Ending) (A D : Int) : Prop :=
  ∃ (qs rs : List Int) (a1 a2 : Option Addr) (c1 c2 g1 g2 : Nat), e = .returned (.tuple #[.slice a1 qs.length c1, .slice a2 rs.length c2]) ∧ NRow w' g1 a1 c1 qs ∧ NRow w' g2 a2 c2 rs ∧ lval qs = A / D ∧ lval rs = A % D
theorem NRow.up {w w' : World} {g : Nat} {a : Option Addr} {c : Nat} {zs : List Int} (h : NRow w g a c zs) (n : Below w.heap.size w w') : NRow w' g a c zs := ⟨h.1.up n, h.2⟩
theorem NRow.of_trim {w : World} {g : Nat} {ys : List Int} {s c : Nat} (o : Own w g (some ⟨g, 0, none⟩) .u32 ys) (hs : s ≤ ys.length) (ht : 0 < s → ys.getD (s - 1) 0 ≠ 0) (hl : Lmb ys) (hc : ys.length ≤ c) (hn : c ≤ 4096) :
    (ys.take s).length = s ∧ NRow w g (some ⟨g, 0, none⟩) c (ys.take s) := by
  have hlen : (ys.take s).length = s := by simp; omega
  refine ⟨hlen, ?_, lmb_take hl s, ?_, by omega, hn⟩
  · intro h0
    rw [hlen] at h0
    obtain ⟨off, ha, hc⟩ := o (by omega)
    refine ⟨off, ha, fun i hi => ?_⟩
    rw [hlen] at hi
    obtain ⟨c1, c2⟩ := hc i (by omega)
    refine ⟨?_, c2⟩
    rw [c1]
    simp [hi]
  · intro h0
    rw [hlen] at h0 ⊢
    have := ht h0
    simpa [List.getElem?_take, show s - 1 < s by omega] using this
theorem ret2_slice {a b : Option Addr} {n m c n' m' c' : Nat} (h : n = m) (h' : n' = m') : Ending.returned (.tuple #[.slice a n c, .slice b n' c']) = .returned (.tuple #[.slice a m c, .slice b m' c']) := by rw [h, h']
theorem div_of {A D q r : Int} (h : A = q * D + r) (r0 : 0 ≤ r) (r1 : r < D) : q = A / D ∧ r = A % D := by
  have h1 : A / D = q := by
    rw [h, Int.add_comm, Int.add_mul_ediv_right _ _ (by omega), Int.ediv_eq_zero_of_lt r0 r1]
    omega
  have h2 : A % D = r := by
    rw [h, Int.add_comm, Int.add_mul_emod_self_right, Int.emod_eq_of_lt r0 r1]
  exact ⟨h1.symm, h2.symm⟩

set_option maxHeartbeats 2000000 in
theorem divideByLimb_any (w : World) (g : Nat) (a : Option Addr) (ca : Nat) (zs : List Int) (d : Int) (ha : Rd w g a .u32 zs) (hz : Lmb zs) (hn : zs.length ≤ 4096) (d0 : 1 ≤ d) (d1 : d < 4294967296) :
    Calls Try.prog 80 #[.slice a zs.length ca, .int .u32 d] w fun e w' => DivRes w' e (lval zs) d ∧ Below w.heap.size w w' := by
  obtain ⟨i0, hi, hz0, hz1, hz2⟩ := info_parts Try.info69
  have dz : (d == 0) = false := beq_eq_false_iff_ne.2 (by omega)
  go_enter Try.func80, Try.ntmps80
  go_wp2_with (at_make; refine wpList_make_full _ rfl _ _ 48 rfl w.heap.size 69 i0 (.int .u32 0) 1 Try.underlying48 hi hz0 hz1 .i64 .i64 _ _ zs.length rfl rfl rfl rfl (by rw [hz2]; omega) (by unfold maxLen; omega) (Nat.le_refl _) ?_; intro w1 hown hgrow)
  have hB0 := Blk.of_made hown
  have hN0 : Below w.heap.size w w1 := (Below.refl _ _).grown hgrow (Nat.le_refl _) (by simp)
  clear hown hgrow
  go_loopw [7, 8] (fun q i wr => ∃ (t r : Int) (ys : List Int), i = .int .i64 t ∧ q = .int .u64 r ∧ -1 ≤ t ∧ t < (zs.length : Int) ∧ DlTo zs ys d (t + 1).toNat r ∧ Blk wr w.heap.size .u32 ys ∧ Below w.heap.size w wr) (fun _ i _ => (intOf i + 1).toNat)
  case atStart =>
    refine ⟨(zs.length : Int) - 1, 0, _, rfl, rfl, by omega, by omega, ⟨by simp, lmb_zeros _, ⟨by omega, by omega⟩, ?_⟩, hB0, hN0⟩
    rw [lhi_past _ _ (by omega), lhi_past _ _ (by simp)]
    omega
  case round =>
    obtain ⟨t, r, ys, rfl, rfl, ht0, ht1, hA, hB, hN⟩ := hrel
    have rb := hA.2.2.1
    by_cases ht : 0 ≤ t
    · obtain ⟨j, rfl⟩ := Int.eq_ofNat_of_zero_le ht
      have hj : j < zs.length := by omega
      rw [show ((j : Int) + 1).toNat = j + 1 by omega] at hA
      obtain ⟨off, rfl, hc⟩ := ha (by omega)
      obtain ⟨R0, q0, q1⟩ := hA.step hz hj (by omega)
      have R := hide R0
      have hyl := hA.1
      have zb := hz j
      have c1 : wr.cell? ⟨g, off + j, none⟩ = some (.int .u32 (zs.getD j 0)) := (hN.cell (p := ⟨g, off + j, none⟩) (ha.lt (by omega))).trans (hc j hj)
      have c2 : wr.cell? ⟨w.heap.size, j, none⟩ = some (.int .u32 (ys.getD j 0)) := hB.cell (by omega)
      have f2 := hB.free j
      have S := hB.store j ((r * 4294967296 + zs.getD j 0) / d)
      have Sn : Below w.heap.size w (wr.setCell ⟨w.heap.size, j, none⟩ (.int .u32 ((r * 4294967296 + zs.getD j 0) / d))) := hN.setCell (Nat.le_refl _) _
      have e1 := or64 r (zs.getD j 0) rb.1 (by omega) zb.1 zb.2
      have m1 : (r * 4294967296 + zs.getD j 0) / d % 4294967296 = (r * 4294967296 + zs.getD j 0) / d := Int.emod_eq_of_lt q0 q1
      generalize zs.getD j 0 = z at *
      clear hA hB hN hc hyl R0
      have d1 : (j : Int) < (zs.length : Int) := by omega
      go_wp2
      go_roundw
      case rel => exact ⟨(j : Int) - 1, _, _, rfl, rfl, by omega, by omega, by rw [show ((j : Int) - 1 + 1).toNat = j by omega]; exact R.out, S, Sn⟩
      case measure => simp [intOf]
    · obtain rfl : t = -1 := by omega
      obtain ⟨y1, y2, y3, y4⟩ := hA
      have V := hide (div_of y4 y3.1 y3.2)
      have L := hide y1
      clear y1 y4
      go_wp2_with fail
      rw [← L.out]
      refine (trim_any wr w.heap.size 0 ys.length ys hB.own0.rd (Nat.le_refl _) (by rw [L.out]; omega)).mono ?_
      rintro e wr' ⟨s, hs, rfl, hzf, htop, rfl⟩
      have hal : Below wr'.heap.size wr' (wr'.alloc (.cells #[.int .u32 r] 69)) := (Below.refl _ _).alloc (Nat.le_refl _) _
      have hR : Blk (wr'.alloc (.cells #[.int .u32 r] 69)) wr'.heap.size .u32 [r] := ⟨69, heap_alloc_new wr' _⟩
      have m2 : r % 4294967296 = r := by omega
      go_wp2_with fail
      refine (trim_any _ wr'.heap.size 0 1 [r] hR.own0.rd (by simp) (by simp)).mono ?_
      rintro e w4 ⟨s2, hs2, rfl, hzf2, htop2, rfl⟩
      obtain ⟨k1, k2⟩ := NRow.of_trim (hB.up hal).own0 hs htop y2 (Nat.le_refl _) (by rw [L.out]; omega)
      have lr : Lmb [r] := fun i => by
        by_cases h : i = 0
        · subst h; simp; omega
        · rw [List.getD_eq_getElem?_getD, List.getElem?_eq_none (by simp; omega)]; decide
      obtain ⟨k3, k4⟩ := NRow.of_trim hR.own0 hs2 htop2 lr (c := 1) (by simp) (by decide)
      have z1 := lval_take ys s hzf
      have z2 := lval_take [r] s2 hzf2
      have hN2 := nxt hN hal
      go_wp2
      go_ret2
      have v1 := V.out.1
      have v2 := V.out.2
      refine ⟨⟨ys.take s, [r].take s2, _, _, _, _, _, _, ret2_slice k1.symm k3.symm, k2, k4, ?_, ?_⟩, hN2⟩
      · rw [z1]; exact v1
      · rw [z2, show lval [r] = r by simp [lval]]; exact v2
end Go.Proofs.Ythdjopkmlcdoeaa
