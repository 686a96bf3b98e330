/-
  Long division, a limb at a time: plain arithmetic.
-/
import Derived.Test.YthdjopkmlcdoeaaNum6
import Derived.Test.YthdjopkmlcdoeaaTakeB
namespace Go.Proofs.Ythdjopkmlcdoeaa

theorem llo_bd {zs : List Int} (h : Lmb zs) : ∀ i, 0 ≤ llo zs i ∧ llo zs i < 4294967296 ^ i
  | 0 => by simp [llo]
  | i + 1 => by
    have ih := llo_bd h i
    have hz := h i
    have hp := p32_pos i
    rw [llo, Int.pow_succ]
    have h1 : 0 ≤ zs.getD i 0 * 4294967296 ^ i := Int.mul_nonneg hz.1 (by omega)
    have h2 : zs.getD i 0 * 4294967296 ^ i ≤ 4294967295 * 4294967296 ^ i := Int.mul_le_mul_of_nonneg_right (by omega) (by omega)
    omega
theorem lmb_drop {zs : List Int} (h : Lmb zs) (i : Nat) : Lmb (zs.drop i) := fun j => by
  have := h (i + j)
  simpa [List.getElem?_drop] using this
/-- Limbs by their two highest. -/
theorem lval_two {vs : List Int} {n : Nat} (hl : vs.length = n + 2) : lval vs = (vs.getD (n + 1) 0 * 4294967296 + vs.getD n 0) * 4294967296 ^ n + llo vs n := by
  rw [← llo_all vs (n + 2) (by omega), show llo vs (n + 2) = llo vs n + vs.getD n 0 * 4294967296 ^ n + vs.getD (n + 1) 0 * 4294967296 ^ (n + 1) from rfl, Int.pow_succ, Int.add_mul, Int.mul_assoc, Int.mul_comm 4294967296 (4294967296 ^ n)]
  omega
/-- Limbs by their three highest. -/
theorem lval_three {ws : List Int} {n : Nat} (hl : ws.length = n + 3) : lval ws = ((ws.getD (n + 2) 0 * 4294967296 + ws.getD (n + 1) 0) * 4294967296 + ws.getD n 0) * 4294967296 ^ n + llo ws n := by
  rw [← llo_all ws (n + 3) (by omega), show llo ws (n + 3) = llo ws n + ws.getD n 0 * 4294967296 ^ n + ws.getD (n + 1) 0 * 4294967296 ^ (n + 1) + ws.getD (n + 2) 0 * 4294967296 ^ (n + 2) from rfl]
  have e1 : (4294967296 : Int) ^ (n + 1) = 4294967296 * 4294967296 ^ n := by rw [Int.pow_succ, Int.mul_comm]
  have e2 : (4294967296 : Int) ^ (n + 2) = 4294967296 * (4294967296 * 4294967296 ^ n) := by rw [Int.pow_succ, e1, Int.mul_comm]
  rw [e1, e2]
  generalize (4294967296 : Int) ^ n = p
  rw [Int.add_mul, Int.add_mul, Int.add_mul, Int.mul_assoc (ws.getD (n + 1) 0), Int.mul_assoc (ws.getD (n + 2) 0 * 4294967296), Int.mul_assoc (ws.getD (n + 2) 0)]
  omega
/-- A window whose limbs above are 0 tells all from its place on. -/
theorem win_val {XS : List Int} {off len : Nat} (hz : ∀ j, off + len ≤ j → XS.getD j 0 = 0) : lval (win XS off len) = lhi XS off := by
  unfold win lhi
  refine lval_take _ _ (fun j hj => ?_)
  have := hz (off + j) (by omega)
  simpa [List.getElem?_drop] using this
/-- What is less than a power has no limb from there on. -/
theorem limbs_zero {XS : List Int} (h : Lmb XS) {i m : Nat} (hlt : lhi XS i < 4294967296 ^ m) : ∀ j, i + m ≤ j → XS.getD j 0 = 0 := by
  intro j hj
  have l := limb_le (lmb_drop h i) (j - i)
  have e : (XS.drop i).getD (j - i) 0 = XS.getD j 0 := by simp [List.getElem?_drop, show i + (j - i) = j by omega]
  rw [e] at l
  have hb := h j
  by_cases c : XS.getD j 0 = 0
  · exact c
  · have p := p32_mono (show m ≤ j - i by omega)
    have q : 1 * (4294967296 : Int) ^ (j - i) ≤ XS.getD j 0 * 4294967296 ^ (j - i) := Int.mul_le_mul_of_nonneg_right (by omega) (by have := p32_pos (j - i); omega)
    unfold lhi at hlt
    omega
/-- The guess's premise: the window is less than a limb times the divisor. -/
theorem guess_fits {ws vs : List Int} {n : Nat} (hw : Lmb ws) (hv : Lmb vs) (l1 : vs.length = n + 2) (l2 : ws.length = n + 3) (hlt : lval ws < lval vs * 4294967296) :
    ws.getD (n + 2) 0 * 4294967296 + ws.getD (n + 1) 0 ≤ vs.getD (n + 1) 0 * 4294967296 + vs.getD n 0 := by
  rw [lval_two l1, lval_three l2] at hlt
  have b1 := (llo_bd hw n).1
  have b2 := (llo_bd hv n).2
  have b3 := (hw n).1
  have p := p32_pos n
  generalize ws.getD (n + 2) 0 * 4294967296 + ws.getD (n + 1) 0 = h at *
  generalize vs.getD (n + 1) 0 * 4294967296 + vs.getD n 0 = V at *
  by_cases c : h ≤ V
  · exact c
  · have e1 : (V + 1) * 4294967296 * 4294967296 ^ n ≤ (h * 4294967296 + ws.getD n 0) * 4294967296 ^ n := Int.mul_le_mul_of_nonneg_right (by omega) (by omega)
    rw [Int.mul_right_comm, Int.add_mul, Int.one_mul] at e1
    omega
/-- The quotient's limb and what is left, out of the guess. -/
theorem guess_near {ws vs : List Int} {n : Nat} {G : Int} (hw : Lmb ws) (hv : Lmb vs) (l1 : vs.length = n + 2) (l2 : ws.length = n + 3) (hf : 1 ≤ vs.getD (n + 1) 0) (hlt : lval ws < lval vs * 4294967296)
    (hG : Guess (vs.getD (n + 1) 0 * 4294967296 + vs.getD n 0) ((ws.getD (n + 2) 0 * 4294967296 + ws.getD (n + 1) 0) * 4294967296 + ws.getD n 0) G) :
    ∃ q, (0 ≤ q ∧ q ≤ 4294967295) ∧ (q * lval vs ≤ lval ws ∧ lval ws < q * lval vs + lval vs) ∧ (G = q ∨ G = q + 1) := by
  have a1 := hw (n + 2)
  have a2 := hw (n + 1)
  have a3 := hw n
  have a4 := hv n
  have := hG.near (P := 4294967296 ^ n) (vl := llo vs n) (wl := llo ws n) (p32_pos n) (by omega) (llo_bd hv n).1 (llo_bd hv n).2 (llo_bd hw n).1 (llo_bd hw n).2 (by omega) (by rw [← lval_two l1, ← lval_three l2]; exact hlt)
  rw [← lval_two l1, ← lval_three l2] at this
  exact this

/-- The long division's way down: above place i the quotient stands, and what is left from there on is less than the divisor. -/
def LongTo (N v : Int) (qs xs : List Int) (K ln i : Nat) : Prop :=
  (qs.length = K ∧ Lmb qs) ∧ (xs.length = ln ∧ Lmb xs) ∧ N = lhi qs i * 4294967296 ^ i * v + lval xs ∧ lhi xs i < v
theorem LongTo.step {N v : Int} {qs xs xs' : List Int} {K ln i len : Nat} {q : Int} (h : LongTo N v qs xs K ln (i + 1)) (hi : i < K) (q0 : 0 ≤ q ∧ q ≤ 4294967295) (hs : Same xs' xs i len) (hl : Lmb xs') (hv : lhi xs' i = lhi xs i - q * v) (hr : lhi xs' i < v) :
    LongTo N v (qs.set i q) xs' K ln i := by
  obtain ⟨⟨h1, h2⟩, ⟨h3, h4⟩, h5, h6⟩ := h
  refine ⟨⟨by simpa using h1, lmb_set h2 _ _ q0.1 (by omega)⟩, ⟨by rw [hs.1]; exact h3, hl⟩, ?_, hr⟩
  have e1 := lval_llo xs i
  have e2 := lval_llo xs' i
  rw [llo_congr (fun j hj => hs.2 j (.inl hj)), hv] at e2
  rw [h5, lhi_set qs i q (by omega), e1, e2, Int.pow_succ, Int.sub_mul, Int.add_mul, Int.add_mul]
  have f1 : q * v * 4294967296 ^ i = q * 4294967296 ^ i * v := Int.mul_right_comm _ _ _
  have f2 : lhi qs (i + 1) * (4294967296 ^ i * 4294967296) * v = 4294967296 * lhi qs (i + 1) * 4294967296 ^ i * v := by
    congr 1
    rw [Int.mul_comm (4294967296 ^ i) 4294967296, ← Int.mul_assoc, Int.mul_comm (lhi qs (i + 1)) 4294967296]
  rw [f1, f2]
  omega
end Go.Proofs.Ythdjopkmlcdoeaa
