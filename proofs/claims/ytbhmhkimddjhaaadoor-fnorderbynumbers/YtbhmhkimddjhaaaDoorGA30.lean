import Derived.Test.YtbhmhkimddjhaaaDoorGA29
/-
  impl.guessLimb.
-/
namespace Go.Proofs.YtbhmhkimddjhaaaDoor
set_option maxRecDepth 100000
open Go.RowKit

theorem or641 (x y : Int) (x0 : 0 ≤ x) (x1 : x < 4294967296) (y0 : 0 ≤ y) (y1 : y < 4294967296) : bits BinOp.or IntKind.u64 (x * 4294967296) y = x * 4294967296 + y :=
  bits_join .u64 64 (by decide) wraps_u641 32 (x * 4294967296) y (by omega) (by omega) (by omega) y0 (by omega) (by omega)

set_option maxHeartbeats 2000000 in
theorem guessLimb_any (w : World) (g g' : Nat) (a b : Option Addr) (ca cb n : Nat) (ws vs : List Int) (ha : Rd w g a .u32 ws) (hb : Rd w g' b .u32 vs) (hw : Lmb ws) (hv : Lmb vs) (l1 : vs.length = n + 2) (l2 : ws.length = n + 3) (l3 : n ≤ 4096)
    (hf : 1 ≤ vs.getD (n + 1) 0) (hle : ws.getD (n + 2) 0 * 4294967296 + ws.getD (n + 1) 0 ≤ vs.getD (n + 1) 0 * 4294967296 + vs.getD n 0) :
    Calls Tryd.prog 130 #[.slice a (n + 3) ca, .slice b (n + 2) cb] w fun e w' => ∃ G, e = .returned (.int .u64 G) ∧ Guess (vs.getD (n + 1) 0 * 4294967296 + vs.getD n 0) ((ws.getD (n + 2) 0 * 4294967296 + ws.getD (n + 1) 0) * 4294967296 + ws.getD n 0) G ∧ Below w.heap.size w w' := by
  obtain ⟨off, rfl, hc⟩ := ha (by omega)
  obtain ⟨off', rfl, hc'⟩ := hb (by omega)
  have c1 := hc (n + 2) (by omega)
  have c2 := hc (n + 1) (by omega)
  have c3 := hc n (by omega)
  have d1 := hc' (n + 1) (by omega)
  have d2 := hc' n (by omega)
  have b1 := hw (n + 2)
  have b2 := hw (n + 1)
  have b3 := hw n
  have b4 := hv (n + 1)
  have b5 := hv n
  generalize ws.getD (n + 2) 0 = t at *
  generalize ws.getD (n + 1) 0 = w1 at *
  generalize ws.getD n 0 = w2 at *
  generalize vs.getD (n + 1) 0 = f at *
  generalize vs.getD n 0 = s at *
  have e1 := or641 t w1 b1.1 b1.2 b2.1 b2.2
  have St := GTo.start (w2 := w2) (h := t * 4294967296 + w1) (s := s) hf (by omega) b5.1 b3.2
  have r0 := Int.emod_nonneg (t * 4294967296 + w1) (show f ≠ 0 by omega)
  have r1 := Int.emod_lt_of_pos (t * 4294967296 + w1) (show 0 < f by omega)
  have g0 : (t * 4294967296 + w1) / f ≤ 8589934592 := by
    have : t * 4294967296 + w1 ≤ 8589934592 * f := by omega
    have := Int.ediv_le_of_le_mul (show 0 < f by omega) this
    omega
  have g1 := St.2.1
  have i1 : (n : Int) + 2 - 1 = (n : Int) + 1 := by omega
  have i2 : (n : Int) + 2 - 2 = (n : Int) := by omega
  have j1 : ((n : Int) + 1).toNat = n + 1 := by omega
  have j2 : ((n : Int) + 2).toNat = n + 2 := by omega
  have fz : (f == 0) = false := beq_eq_false_iff_ne.2 (by omega)
  have HS := hide St
  clear hc hc' ha hb hw hv l1 l2 St
  go_enter Tryd.func130, Tryd.ntmps130
  go_wp2
  go_quiet (fail)
  go_wp2
  go_quiet (fail)
  go_wp2
  go_quiet (fail)
  go_wp2
  go_loop [9, 10] (fun q r => ∃ G R : Int, q = .int .u64 G ∧ r = .int .u64 R ∧ (0 ≤ G ∧ G ≤ 8589934592) ∧ (0 ≤ R ∧ R < 4294967296) ∧ GTo f s (t * 4294967296 + w1) w2 G R) (fun q _ => (intOf q).toNat)
  case atStart => exact ⟨_, _, rfl, rfl, ⟨g1, g0⟩, ⟨r0, by omega⟩, HS.out⟩
  case round =>
    obtain ⟨G, R, rfl, rfl, ⟨G0, G1⟩, ⟨R0, R1⟩, hT⟩ := hrel
    clear e1 r0 r1 g0 g1 HS
    by_cases hG : 4294967295 < G
    · have tG : decide (4294967295 < G) = true := by simp; omega
      have D := hT.down b4.1 (by omega) (.inl hG)
      have N := hT.near rfl hf hle b5.2 b2.1 b2.2 hG
      by_cases hR : 4294967295 < R + f
      · have tR : decide (4294967295 < R + f) = true := by simp; omega
        have hE : G = 4294967296 := by
          by_cases h : 4294967296 < G
          · have := N.2 h; omega
          · omega
        have F := hide (D.far (by omega) b5.2 b5.1 b3.1 hR)
        clear D N hE
        go_wp2
        go_ret
        exact ⟨_, rfl, F.out, below_drewN (Below.refl _ _) _⟩
      · have tR : decide (4294967295 < R + f) = false := by simp; omega
        have D' := hide D
        clear N D
        go_wp2
        go_round
        case rel => repeat' (first | exact D'.out | omega | apply And.intro)
        case measure => simp [intOf]; omega
    · have tG : decide (4294967295 < G) = false := by simp; omega
      have e2 := or641 R w2 R0 R1 b3.1 b3.2
      have u0 : 0 ≤ G * s := Int.mul_nonneg G0 b5.1
      have u1 : G * s ≤ 18446744065119617025 := Int.le_trans (Int.mul_le_mul_of_nonneg_right (show G ≤ 4294967295 by omega) b5.1) (Int.mul_le_mul_of_nonneg_left (show s ≤ 4294967295 by omega) (by decide))
      by_cases hc : R * 4294967296 + w2 < G * s
      · have tc : decide (R * 4294967296 + w2 < G * s) = true := by simp; omega
        have hG1 : 1 ≤ G := by
          by_cases h : G = 0
          · rw [h] at hc; omega
          · omega
        have D := hT.down b4.1 hG1 (.inr hc)
        by_cases hR : 4294967295 < R + f
        · have tR : decide (4294967295 < R + f) = true := by simp; omega
          have F := hide (D.far (by omega) b5.2 b5.1 b3.1 hR)
          clear D hc
          go_wp2
          go_ret
          exact ⟨_, rfl, F.out, below_drewN (Below.refl _ _) _⟩
        · have tR : decide (4294967295 < R + f) = false := by simp; omega
          have D' := hide D
          clear hc D
          go_wp2
          go_round
          case rel => repeat' (first | exact D'.out | omega | apply And.intro)
          case measure => simp [intOf]; omega
      · have tc : decide (R * 4294967296 + w2 < G * s) = false := by simp; omega
        have F := hide (hT.stop (by omega) (by omega))
        clear hc
        go_wp2
        go_ret
        exact ⟨_, rfl, F.out, below_drewN (Below.refl _ _) _⟩
end Go.Proofs.YtbhmhkimddjhaaaDoor
/-
  Shifts, and division by one limb: plain arithmetic.
-/
namespace Go.Proofs.YtbhmhkimddjhaaaDoor
set_option maxRecDepth 100000

/-- Limbs times P, from below. -/
def ShlTo (zs ys : List Int) (P : Int) (i : Nat) (c : Int) : Prop := ys.length = zs.length + 1 ∧ Lmb ys ∧ (0 ≤ c ∧ c < P) ∧ llo ys i + c * 4294967296 ^ i = llo zs i * P
theorem ShlTo.step {zs ys : List Int} {P : Int} {i : Nat} {c : Int} (h : ShlTo zs ys P i c) (hz : Lmb zs) (hi : i < zs.length) (hP : P ≤ 4294967296) :
    ShlTo zs (ys.set i ((c + zs.getD i 0 * P) % 4294967296)) P (i + 1) ((c + zs.getD i 0 * P) / 4294967296) := by
  obtain ⟨h1, h2, h3, h4⟩ := h
  have d1 := hz i
  have m0 : 0 ≤ zs.getD i 0 * P := Int.mul_nonneg d1.1 (by omega)
  have m1 : zs.getD i 0 * P ≤ 4294967295 * P := Int.mul_le_mul_of_nonneg_right (by omega) (by omega)
  refine ⟨by simpa using h1, lmb_set h2 _ _ (by omega) (by omega), ⟨by omega, by omega⟩, ?_⟩
  rw [llo_set ys i _ (by omega), show llo zs (i + 1) = llo zs i + zs.getD i 0 * 4294967296 ^ i from rfl, Int.pow_succ, Int.add_mul, ← h4, Int.mul_right_comm (zs.getD i 0)]
  generalize zs.getD i 0 * P = zp at *
  generalize hQ : (4294967296 : Int) ^ i = Q at *
  generalize hv : c + zp = v at *
  have e : v = v % 4294967296 + v / 4294967296 * 4294967296 := by omega
  have e2 : v * Q = (v % 4294967296) * Q + v / 4294967296 * (Q * 4294967296) := by
    conv => lhs; rw [e]
    rw [Int.add_mul, Int.mul_assoc, Int.mul_comm 4294967296 Q]
  have e3 : v * Q = c * Q + zp * Q := by rw [← hv, Int.add_mul]
  omega
theorem ShlTo.done {zs ys : List Int} {P c : Int} (h : ShlTo zs ys P zs.length c) (hP : P ≤ 4294967296) : lval (ys.set zs.length c) = lval zs * P ∧ Lmb (ys.set zs.length c) := by
  obtain ⟨h1, h2, h3, h4⟩ := h
  refine ⟨?_, lmb_set h2 _ _ (by omega) (by omega)⟩
  rw [← llo_all _ (zs.length + 1) (by simp; omega), llo_set ys _ _ (by omega), h4, llo_all zs _ (Nat.le_refl _)]

/-- Limbs divided by P, from above. -/
def ShrTo (zs ys : List Int) (P : Int) (i : Nat) : Prop := ys.length = zs.length ∧ Lmb ys ∧ lhi ys i = lhi zs i / P
theorem lhi_congr {xs ys : List Int} (hl : xs.length = ys.length) {i : Nat} (h : ∀ j, i ≤ j → xs.getD j 0 = ys.getD j 0) : lhi xs i = lhi ys i := by
  unfold lhi
  congr 1
  apply eq_of_getD (by simp [hl])
  intro j hj
  have := h (i + j) (by omega)
  simpa [List.getElem?_drop] using this
theorem lhi_set (ys : List Int) (i : Nat) (v : Int) (h : i < ys.length) : lhi (ys.set i v) i = v + 4294967296 * lhi ys (i + 1) := by
  rw [lhi_step, getD_set_self _ _ _ h, lhi_congr (by simp) (fun j hj => getD_set_ne _ _ _ _ (by omega))]
theorem shr_limb (z y H C P : Int) (hB : 4294967296 = P * C) (hP : 0 < P) (z0 : 0 ≤ z) (z1 : z < 4294967296) (hy : H % P = y % P) :
    (z + 4294967296 * H) / P = (y * 4294967296 + z) / P % 4294967296 + 4294967296 * (H / P) := by
  have e1 : (z + 4294967296 * H) / P = z / P + C * H := by rw [hB, Int.mul_assoc]; exact Int.add_mul_ediv_left z (C * H) (by omega)
  have e2 : (y * 4294967296 + z) / P = z / P + C * y := by rw [hB, Int.mul_comm y, Int.mul_assoc, Int.add_comm]; exact Int.add_mul_ediv_left z (C * y) (by omega)
  have h1 : H = P * (H / P) + H % P := (Int.mul_ediv_add_emod H P).symm
  have h2 : y = P * (y / P) + y % P := (Int.mul_ediv_add_emod y P).symm
  have e3 : C * H = 4294967296 * (H / P) + C * (H % P) := by
    conv => lhs; rw [h1]
    rw [Int.mul_add, ← Int.mul_assoc, Int.mul_comm C P, ← hB]
  have e4 : C * y = 4294967296 * (y / P) + C * (y % P) := by
    conv => lhs; rw [h2]
    rw [Int.mul_add, ← Int.mul_assoc, Int.mul_comm C P, ← hB]
  have r0 := Int.emod_nonneg y (show P ≠ 0 by omega)
  have r1 := Int.emod_lt_of_pos y hP
  have C0 : 0 < C := by
    by_cases h : 0 < C
    · exact h
    · have : P * C ≤ P * 0 := Int.mul_le_mul_of_nonneg_left (by omega) (by omega)
      omega
  have c0 : 0 ≤ C * (y % P) := Int.mul_nonneg (by omega) r0
  have c1 : C * (y % P) ≤ C * (P - 1) := Int.mul_le_mul_of_nonneg_left (by omega) (by omega)
  rw [Int.mul_sub, Int.mul_comm C P, ← hB, Int.mul_one] at c1
  have q0 : 0 ≤ z / P := Int.ediv_nonneg z0 (by omega)
  have q1 : z / P < C := Int.ediv_lt_of_lt_mul hP (by rw [Int.mul_comm, ← hB]; exact z1)
  rw [e1, e2, e3, e4, hy]
  generalize C * (y % P) = k at *
  generalize z / P = q at *
  generalize y / P = m at *
  omega
theorem lhi_mod (zs : List Int) (i : Nat) (P C : Int) (hB : 4294967296 = P * C) : lhi zs i % P = zs.getD i 0 % P := by
  rw [lhi_step, hB, Int.mul_assoc, Int.add_mul_emod_self_left]
theorem lhi_nonneg {zs : List Int} (hz : Lmb zs) (i : Nat) : 0 ≤ lhi zs i := by
  unfold lhi
  refine (lval_bd (fun j => ?_)).1
  have := hz (i + j)
  simpa [List.getElem?_drop] using this
theorem ShrTo.step {zs ys : List Int} {P C : Int} {i : Nat} (h : ShrTo zs ys P (i + 1)) (hz : Lmb zs) (hi : i < zs.length) (hB : 4294967296 = P * C) (hP : 0 < P) :
    ShrTo zs (ys.set i ((zs.getD (i + 1) 0 * 4294967296 + zs.getD i 0) / P % 4294967296)) P i := by
  obtain ⟨h1, h2, h3⟩ := h
  refine ⟨by simpa using h1, lmb_set h2 _ _ (by omega) (by omega), ?_⟩
  rw [lhi_set ys i _ (by omega), h3, lhi_step zs i]
  exact (shr_limb (zs.getD i 0) (zs.getD (i + 1) 0) (lhi zs (i + 1)) C P hB hP (hz i).1 (hz i).2 (lhi_mod zs _ P C hB)).symm
theorem ShrTo.done {zs ys : List Int} {P : Int} (h : ShrTo zs ys P 0) : lval ys = lval zs / P := h.2.2

/-- Division by one limb, from above. -/
def DlTo (zs qs : List Int) (d : Int) (i : Nat) (r : Int) : Prop := qs.length = zs.length ∧ Lmb qs ∧ (0 ≤ r ∧ r < d) ∧ lhi zs i = lhi qs i * d + r
theorem DlTo.step {zs qs : List Int} {d : Int} {i : Nat} {r : Int} (h : DlTo zs qs d (i + 1) r) (hz : Lmb zs) (hi : i < zs.length) (hd : 0 < d) :
    DlTo zs (qs.set i ((r * 4294967296 + zs.getD i 0) / d)) d i ((r * 4294967296 + zs.getD i 0) % d) ∧ (0 ≤ (r * 4294967296 + zs.getD i 0) / d ∧ (r * 4294967296 + zs.getD i 0) / d < 4294967296) := by
  obtain ⟨h1, h2, h3, h4⟩ := h
  have zb := hz i
  have q0 : 0 ≤ (r * 4294967296 + zs.getD i 0) / d := Int.ediv_nonneg (by omega) (by omega)
  have q1 : (r * 4294967296 + zs.getD i 0) / d < 4294967296 := Int.ediv_lt_of_lt_mul hd (by omega)
  refine ⟨⟨by simpa using h1, lmb_set h2 _ _ q0 q1, ⟨Int.emod_nonneg _ (by omega), Int.emod_lt_of_pos _ hd⟩, ?_⟩, q0, q1⟩
  rw [lhi_set qs i _ (by omega), lhi_step zs i, h4, Int.add_mul, Int.mul_assoc]
  have := Int.mul_ediv_add_emod (r * 4294967296 + zs.getD i 0) d
  rw [Int.mul_comm d] at this
  generalize lhi qs (i + 1) * d = k at *
  omega
end Go.Proofs.YtbhmhkimddjhaaaDoor
