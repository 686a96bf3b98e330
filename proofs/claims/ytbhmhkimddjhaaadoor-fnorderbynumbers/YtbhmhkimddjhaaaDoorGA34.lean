import Derived.Test.YtbhmhkimddjhaaaDoorGA31
import Derived.Test.YtbhmhkimddjhaaaDoorGA33
import Derived.Test.YtbhmhkimddjhaaaDoorGA30
/-
  Division by one limb.
-/
namespace Go.Proofs.YtbhmhkimddjhaaaDoor
set_option maxRecDepth 100000
open Go.RowKit

/-- A row of limbs of the call's own, without a limb 0 at its end. -/
def NRow (w : World) (g : Nat) (a : Option Addr) (c : Nat) (zs : List Int) : Prop := Own w g a .u32 zs ∧ Lmb zs ∧ Top zs ∧ zs.length ≤ c ∧ c ≤ 4096
/-- Quotient and rest. -/
def DivRes (w' : World) (e : Ending) (A D : Int) : Prop :=
  ∃ (qs rs : List Int) (a1 a2 : Option Addr) (c1 c2 g1 g2 : Nat), e = .returned (.tuple #[.slice a1 qs.length c1, .slice a2 rs.length c2]) ∧ NRow w' g1 a1 c1 qs ∧ NRow w' g2 a2 c2 rs ∧ lval qs = A / D ∧ lval rs = A % D
theorem NRow.up {w w' : World} {g : Nat} {a : Option Addr} {c : Nat} {zs : List Int} (h : NRow w g a c zs) (n : Below w.heap.size w w') : NRow w' g a c zs := ⟨h.1.up n, h.2⟩
theorem NRow.of_trim {w : World} {g : Nat} {ys : List Int} {s c : Nat} (o : Own w g (some ⟨g, 0, none⟩) .u32 ys) (hs : s ≤ ys.length) (ht : 0 < s → ys.getD (s - 1) 0 ≠ 0) (hl : Lmb ys) (hc : ys.length ≤ c) (hn : c ≤ 4096) :
    (ys.take s).length = s ∧ NRow w g (some ⟨g, 0, none⟩) c (ys.take s) := by
  have hlen : (ys.take s).length = s := by simp; omega
  refine ⟨hlen, ?_, lmb_take hl s, ?_, by omega, hn⟩
  · intro h0
    rw [hlen] at h0
    obtain ⟨off, ha, hc⟩ := o (by omega)
    refine ⟨off, ha, fun i hi => ?_⟩
    rw [hlen] at hi
    obtain ⟨c1, c2⟩ := hc i (by omega)
    refine ⟨?_, c2⟩
    rw [c1]
    simp [hi]
  · intro h0
    rw [hlen] at h0 ⊢
    have := ht h0
    simpa [List.getElem?_take, show s - 1 < s by omega] using this
theorem ret2_slice {a b : Option Addr} {n m c n' m' c' : Nat} (h : n = m) (h' : n' = m') : Ending.returned (.tuple #[.slice a n c, .slice b n' c']) = .returned (.tuple #[.slice a m c, .slice b m' c']) := by rw [h, h']
theorem div_of1 {A D q r : Int} (h : A = q * D + r) (r0 : 0 ≤ r) (r1 : r < D) : q = A / D ∧ r = A % D := by
  have h1 : A / D = q := by
    rw [h, Int.add_comm, Int.add_mul_ediv_right _ _ (by omega), Int.ediv_eq_zero_of_lt r0 r1]
    omega
  have h2 : A % D = r := by
    rw [h, Int.add_comm, Int.add_mul_emod_self_right, Int.emod_eq_of_lt r0 r1]
  exact ⟨h1.symm, h2.symm⟩

set_option maxHeartbeats 2000000 in
theorem divideByLimb_any (w : World) (g : Nat) (a : Option Addr) (ca : Nat) (zs : List Int) (d : Int) (ha : Rd w g a .u32 zs) (hz : Lmb zs) (hn : zs.length ≤ 4096) (d0 : 1 ≤ d) (d1 : d < 4294967296) :
    Calls Tryd.prog 104 #[.slice a zs.length ca, .int .u32 d] w fun e w' => DivRes w' e (lval zs) d ∧ Below w.heap.size w w' := by
  obtain ⟨i0, hi, hz0, hz1, hz2⟩ := info_parts Tryd.info99
  have dz : (d == 0) = false := beq_eq_false_iff_ne.2 (by omega)
  go_enter Tryd.func104, Tryd.ntmps104
  go_wp2_with (at_make; refine wpList_make_full _ rfl _ _ 63 rfl w.heap.size 99 i0 (.int .u32 0) 1 Tryd.underlying63 hi hz0 hz1 .i64 .i64 _ _ zs.length rfl rfl rfl rfl (by rw [hz2]; omega) (by unfold maxLen; omega) (Nat.le_refl _) ?_; intro w1 hown hgrow)
  have hB0 := Blk.of_made hown
  have hN0 : Below w.heap.size w w1 := (Below.refl _ _).grown hgrow (Nat.le_refl _) (by simp)
  clear hown hgrow
  go_loopw [7, 8] (fun q i wr => ∃ (t r : Int) (ys : List Int), i = .int .i64 t ∧ q = .int .u64 r ∧ -1 ≤ t ∧ t < (zs.length : Int) ∧ DlTo zs ys d (t + 1).toNat r ∧ Blk wr w.heap.size .u32 ys ∧ Below w.heap.size w wr) (fun _ i _ => (intOf i + 1).toNat)
  case atStart =>
    refine ⟨(zs.length : Int) - 1, 0, _, rfl, rfl, by omega, by omega, ⟨by simp, lmb_zeros _, ⟨by omega, by omega⟩, ?_⟩, hB0, hN0⟩
    rw [lhi_past _ _ (by omega), lhi_past _ _ (by simp)]
    omega
  case round =>
    obtain ⟨t, r, ys, rfl, rfl, ht0, ht1, hA, hB, hN⟩ := hrel
    have rb := hA.2.2.1
    by_cases ht : 0 ≤ t
    · obtain ⟨j, rfl⟩ := Int.eq_ofNat_of_zero_le ht
      have hj : j < zs.length := by omega
      rw [show ((j : Int) + 1).toNat = j + 1 by omega] at hA
      obtain ⟨off, rfl, hc⟩ := ha (by omega)
      obtain ⟨R0, q0, q1⟩ := hA.step hz hj (by omega)
      have R := hide R0
      have hyl := hA.1
      have zb := hz j
      have c1 : wr.cell? ⟨g, off + j, none⟩ = some (.int .u32 (zs.getD j 0)) := (hN.cell (p := ⟨g, off + j, none⟩) (ha.lt (by omega))).trans (hc j hj)
      have c2 : wr.cell? ⟨w.heap.size, j, none⟩ = some (.int .u32 (ys.getD j 0)) := hB.cell (by omega)
      have f2 := hB.free j
      have S := hB.store j ((r * 4294967296 + zs.getD j 0) / d)
      have Sn : Below w.heap.size w (wr.setCell ⟨w.heap.size, j, none⟩ (.int .u32 ((r * 4294967296 + zs.getD j 0) / d))) := hN.setCell (Nat.le_refl _) _
      have e1 := or641 r (zs.getD j 0) rb.1 (by omega) zb.1 zb.2
      have m1 : (r * 4294967296 + zs.getD j 0) / d % 4294967296 = (r * 4294967296 + zs.getD j 0) / d := Int.emod_eq_of_lt q0 q1
      generalize zs.getD j 0 = z at *
      clear hA hB hN hc hyl R0
      have d1 : (j : Int) < (zs.length : Int) := by omega
      go_wp2
      go_roundw
      case rel => exact ⟨(j : Int) - 1, _, _, rfl, rfl, by omega, by omega, by rw [show ((j : Int) - 1 + 1).toNat = j by omega]; exact R.out, S, Sn⟩
      case measure => simp [intOf]
    · obtain rfl : t = -1 := by omega
      obtain ⟨y1, y2, y3, y4⟩ := hA
      have V := hide (div_of1 y4 y3.1 y3.2)
      have L := hide y1
      clear y1 y4
      go_wp2_with fail
      rw [← L.out]
      refine (trim_any wr w.heap.size 0 ys.length ys hB.own0.rd (Nat.le_refl _) (by rw [L.out]; omega)).mono ?_
      rintro e wr' ⟨s, hs, rfl, hzf, htop, rfl⟩
      have hal : Below wr'.heap.size wr' (wr'.alloc (.cells #[.int .u32 r] 99)) := (Below.refl _ _).alloc (Nat.le_refl _) _
      have hR : Blk (wr'.alloc (.cells #[.int .u32 r] 99)) wr'.heap.size .u32 [r] := ⟨99, heap_alloc_new wr' _⟩
      have m2 : r % 4294967296 = r := by omega
      go_wp2_with fail
      refine (trim_any _ wr'.heap.size 0 1 [r] hR.own0.rd (by simp) (by simp)).mono ?_
      rintro e w4 ⟨s2, hs2, rfl, hzf2, htop2, rfl⟩
      obtain ⟨k1, k2⟩ := NRow.of_trim (hB.up hal).own0 hs htop y2 (Nat.le_refl _) (by rw [L.out]; omega)
      have lr : Lmb [r] := fun i => by
        by_cases h : i = 0
        · subst h; simp; omega
        · rw [List.getD_eq_getElem?_getD, List.getElem?_eq_none (by simp; omega)]; decide
      obtain ⟨k3, k4⟩ := NRow.of_trim hR.own0 hs2 htop2 lr (c := 1) (by simp) (by decide)
      have z1 := lval_take ys s hzf
      have z2 := lval_take [r] s2 hzf2
      have hN2 := nxt hN hal
      go_wp2
      go_ret2
      have v1 := V.out.1
      have v2 := V.out.2
      refine ⟨⟨ys.take s, [r].take s2, _, _, _, _, _, _, ret2_slice k1.symm k3.symm, k2, k4, ?_, ?_⟩, hN2⟩
      · rw [z1]; exact v1
      · rw [z2, show lval [r] = r by simp [lval]]; exact v2
end Go.Proofs.YtbhmhkimddjhaaaDoor
/-
  Long division, a limb at a time: plain arithmetic.
-/
namespace Go.Proofs.YtbhmhkimddjhaaaDoor
set_option maxRecDepth 100000

theorem llo_bd {zs : List Int} (h : Lmb zs) : ∀ i, 0 ≤ llo zs i ∧ llo zs i < 4294967296 ^ i
  | 0 => by simp [llo]
  | i + 1 => by
    have ih := llo_bd h i
    have hz := h i
    have hp := p32_pos i
    rw [llo, Int.pow_succ]
    have h1 : 0 ≤ zs.getD i 0 * 4294967296 ^ i := Int.mul_nonneg hz.1 (by omega)
    have h2 : zs.getD i 0 * 4294967296 ^ i ≤ 4294967295 * 4294967296 ^ i := Int.mul_le_mul_of_nonneg_right (by omega) (by omega)
    omega
theorem lmb_drop {zs : List Int} (h : Lmb zs) (i : Nat) : Lmb (zs.drop i) := fun j => by
  have := h (i + j)
  simpa [List.getElem?_drop] using this
/-- Limbs by their two highest. -/
theorem lval_two {vs : List Int} {n : Nat} (hl : vs.length = n + 2) : lval vs = (vs.getD (n + 1) 0 * 4294967296 + vs.getD n 0) * 4294967296 ^ n + llo vs n := by
  rw [← llo_all vs (n + 2) (by omega), show llo vs (n + 2) = llo vs n + vs.getD n 0 * 4294967296 ^ n + vs.getD (n + 1) 0 * 4294967296 ^ (n + 1) from rfl, Int.pow_succ, Int.add_mul, Int.mul_assoc, Int.mul_comm 4294967296 (4294967296 ^ n)]
  omega
/-- Limbs by their three highest. -/
theorem lval_three {ws : List Int} {n : Nat} (hl : ws.length = n + 3) : lval ws = ((ws.getD (n + 2) 0 * 4294967296 + ws.getD (n + 1) 0) * 4294967296 + ws.getD n 0) * 4294967296 ^ n + llo ws n := by
  rw [← llo_all ws (n + 3) (by omega), show llo ws (n + 3) = llo ws n + ws.getD n 0 * 4294967296 ^ n + ws.getD (n + 1) 0 * 4294967296 ^ (n + 1) + ws.getD (n + 2) 0 * 4294967296 ^ (n + 2) from rfl]
  have e1 : (4294967296 : Int) ^ (n + 1) = 4294967296 * 4294967296 ^ n := by rw [Int.pow_succ, Int.mul_comm]
  have e2 : (4294967296 : Int) ^ (n + 2) = 4294967296 * (4294967296 * 4294967296 ^ n) := by rw [Int.pow_succ, e1, Int.mul_comm]
  rw [e1, e2]
  generalize (4294967296 : Int) ^ n = p
  rw [Int.add_mul, Int.add_mul, Int.add_mul, Int.mul_assoc (ws.getD (n + 1) 0), Int.mul_assoc (ws.getD (n + 2) 0 * 4294967296), Int.mul_assoc (ws.getD (n + 2) 0)]
  omega
/-- A window whose limbs above are 0 tells all from its place on. -/
theorem win_val {XS : List Int} {off len : Nat} (hz : ∀ j, off + len ≤ j → XS.getD j 0 = 0) : lval (win XS off len) = lhi XS off := by
  unfold win lhi
  refine lval_take _ _ (fun j hj => ?_)
  have := hz (off + j) (by omega)
  simpa [List.getElem?_drop] using this
/-- What is less than a power has no limb from there on. -/
theorem limbs_zero {XS : List Int} (h : Lmb XS) {i m : Nat} (hlt : lhi XS i < 4294967296 ^ m) : ∀ j, i + m ≤ j → XS.getD j 0 = 0 := by
  intro j hj
  have l := limb_le (lmb_drop h i) (j - i)
  have e : (XS.drop i).getD (j - i) 0 = XS.getD j 0 := by simp [List.getElem?_drop, show i + (j - i) = j by omega]
  rw [e] at l
  have hb := h j
  by_cases c : XS.getD j 0 = 0
  · exact c
  · have p := p32_mono (show m ≤ j - i by omega)
    have q : 1 * (4294967296 : Int) ^ (j - i) ≤ XS.getD j 0 * 4294967296 ^ (j - i) := Int.mul_le_mul_of_nonneg_right (by omega) (by have := p32_pos (j - i); omega)
    unfold lhi at hlt
    omega
/-- The guess's premise: the window is less than a limb times the divisor. -/
theorem guess_fits {ws vs : List Int} {n : Nat} (hw : Lmb ws) (hv : Lmb vs) (l1 : vs.length = n + 2) (l2 : ws.length = n + 3) (hlt : lval ws < lval vs * 4294967296) :
    ws.getD (n + 2) 0 * 4294967296 + ws.getD (n + 1) 0 ≤ vs.getD (n + 1) 0 * 4294967296 + vs.getD n 0 := by
  rw [lval_two l1, lval_three l2] at hlt
  have b1 := (llo_bd hw n).1
  have b2 := (llo_bd hv n).2
  have b3 := (hw n).1
  have p := p32_pos n
  generalize ws.getD (n + 2) 0 * 4294967296 + ws.getD (n + 1) 0 = h at *
  generalize vs.getD (n + 1) 0 * 4294967296 + vs.getD n 0 = V at *
  by_cases c : h ≤ V
  · exact c
  · have e1 : (V + 1) * 4294967296 * 4294967296 ^ n ≤ (h * 4294967296 + ws.getD n 0) * 4294967296 ^ n := Int.mul_le_mul_of_nonneg_right (by omega) (by omega)
    rw [Int.mul_right_comm, Int.add_mul, Int.one_mul] at e1
    omega
/-- The quotient's limb and what is left, out of the guess. -/
theorem guess_near {ws vs : List Int} {n : Nat} {G : Int} (hw : Lmb ws) (hv : Lmb vs) (l1 : vs.length = n + 2) (l2 : ws.length = n + 3) (hf : 1 ≤ vs.getD (n + 1) 0) (hlt : lval ws < lval vs * 4294967296)
    (hG : Guess (vs.getD (n + 1) 0 * 4294967296 + vs.getD n 0) ((ws.getD (n + 2) 0 * 4294967296 + ws.getD (n + 1) 0) * 4294967296 + ws.getD n 0) G) :
    ∃ q, (0 ≤ q ∧ q ≤ 4294967295) ∧ (q * lval vs ≤ lval ws ∧ lval ws < q * lval vs + lval vs) ∧ (G = q ∨ G = q + 1) := by
  have a1 := hw (n + 2)
  have a2 := hw (n + 1)
  have a3 := hw n
  have a4 := hv n
  have := hG.near (P := 4294967296 ^ n) (vl := llo vs n) (wl := llo ws n) (p32_pos n) (by omega) (llo_bd hv n).1 (llo_bd hv n).2 (llo_bd hw n).1 (llo_bd hw n).2 (by omega) (by rw [← lval_two l1, ← lval_three l2]; exact hlt)
  rw [← lval_two l1, ← lval_three l2] at this
  exact this

/-- The long division's way down: above place i the quotient stands, and what is left from there on is less than the divisor. -/
def LongTo (N v : Int) (qs xs : List Int) (K ln i : Nat) : Prop :=
  (qs.length = K ∧ Lmb qs) ∧ (xs.length = ln ∧ Lmb xs) ∧ N = lhi qs i * 4294967296 ^ i * v + lval xs ∧ lhi xs i < v
theorem LongTo.step {N v : Int} {qs xs xs' : List Int} {K ln i len : Nat} {q : Int} (h : LongTo N v qs xs K ln (i + 1)) (hi : i < K) (q0 : 0 ≤ q ∧ q ≤ 4294967295) (hs : Same xs' xs i len) (hl : Lmb xs') (hv : lhi xs' i = lhi xs i - q * v) (hr : lhi xs' i < v) :
    LongTo N v (qs.set i q) xs' K ln i := by
  obtain ⟨⟨h1, h2⟩, ⟨h3, h4⟩, h5, h6⟩ := h
  refine ⟨⟨by simpa using h1, lmb_set h2 _ _ q0.1 (by omega)⟩, ⟨by rw [hs.1]; exact h3, hl⟩, ?_, hr⟩
  have e1 := lval_llo xs i
  have e2 := lval_llo xs' i
  rw [llo_congr (fun j hj => hs.2 j (.inl hj)), hv] at e2
  rw [h5, lhi_set qs i q (by omega), e1, e2, Int.pow_succ, Int.sub_mul, Int.add_mul, Int.add_mul]
  have f1 : q * v * 4294967296 ^ i = q * 4294967296 ^ i * v := Int.mul_right_comm _ _ _
  have f2 : lhi qs (i + 1) * (4294967296 ^ i * 4294967296) * v = 4294967296 * lhi qs (i + 1) * 4294967296 ^ i * v := by
    congr 1
    rw [Int.mul_comm (4294967296 ^ i) 4294967296, ← Int.mul_assoc, Int.mul_comm (lhi qs (i + 1)) 4294967296]
  rw [f1, f2]
  omega
end Go.Proofs.YtbhmhkimddjhaaaDoor
