/-
  impl.guessLimb.
-/
import Derived.Test.YthdjopkmlcdoeaaTake
import Derived.Test.YthdjopkmlcdoeaaNum5
namespace Go.Proofs.Ythdjopkmlcdoeaa
open Go.RowKit

theorem or64 (x y : Int) (x0 : 0 ≤ x) (x1 : x < 4294967296) (y0 : 0 ≤ y) (y1 : y < 4294967296) : bits BinOp.or IntKind.u64 (x * 4294967296) y = x * 4294967296 + y :=
  bits_join .u64 64 (by decide) wraps_u64 32 (x * 4294967296) y (by omega) (by omega) (by omega) y0 (by omega) (by omega)

set_option maxHeartbeats 2000000 in
theorem guessLimb_any (w : World) (g g' : Nat) (a b : Option Addr) (ca cb n : Nat) (ws vs : List Int) (ha : Rd w g a .u32 ws) (hb : Rd w g' b .u32 vs) (hw : Lmb ws) (hv : Lmb vs) (l1 : vs.length = n + 2) (l2 : ws.length = n + 3) (l3 : n ≤ 4096)
    (hf : 1 ≤ vs.getD (n + 1) 0) (hle : ws.getD (n + 2) 0 * 4294967296 + ws.getD (n + 1) 0 ≤ vs.getD (n + 1) 0 * 4294967296 + vs.getD n 0) :
    Calls Try.prog 89 #[.slice a (n + 3) ca, .slice b (n + 2) cb] w fun e w' => ∃ G, e = .returned (.int .u64 G) ∧ Guess (vs.getD (n + 1) 0 * 4294967296 + vs.getD n 0) ((ws.getD (n + 2) 0 * 4294967296 + ws.getD (n + 1) 0) * 4294967296 + ws.getD n 0) G ∧ Below w.heap.size w w' := by
  obtain ⟨off, rfl, hc⟩ := ha (by omega)
  obtain ⟨off', rfl, hc'⟩ := hb (by omega)
  have c1 := hc (n + 2) (by omega)
  have c2 := hc (n + 1) (by omega)
  have c3 := hc n (by omega)
  have d1 := hc' (n + 1) (by omega)
  have d2 := hc' n (by omega)
  have b1 := hw (n + 2)
  have b2 := hw (n + 1)
  have b3 := hw n
  have b4 := hv (n + 1)
  have b5 := hv n
  generalize ws.getD (n + 2) 0 = t at *
  generalize ws.getD (n + 1) 0 = w1 at *
  generalize ws.getD n 0 = w2 at *
  generalize vs.getD (n + 1) 0 = f at *
  generalize vs.getD n 0 = s at *
  have e1 := or64 t w1 b1.1 b1.2 b2.1 b2.2
  have St := GTo.start (w2 := w2) (h := t * 4294967296 + w1) (s := s) hf (by omega) b5.1 b3.2
  have r0 := Int.emod_nonneg (t * 4294967296 + w1) (show f ≠ 0 by omega)
  have r1 := Int.emod_lt_of_pos (t * 4294967296 + w1) (show 0 < f by omega)
  have g0 : (t * 4294967296 + w1) / f ≤ 8589934592 := by
    have : t * 4294967296 + w1 ≤ 8589934592 * f := by omega
    have := Int.ediv_le_of_le_mul (show 0 < f by omega) this
    omega
  have g1 := St.2.1
  have i1 : (n : Int) + 2 - 1 = (n : Int) + 1 := by omega
  have i2 : (n : Int) + 2 - 2 = (n : Int) := by omega
  have j1 : ((n : Int) + 1).toNat = n + 1 := by omega
  have j2 : ((n : Int) + 2).toNat = n + 2 := by omega
  have fz : (f == 0) = false := beq_eq_false_iff_ne.2 (by omega)
  have HS := hide St
  clear hc hc' ha hb hw hv l1 l2 St
  go_enter Try.func89, Try.ntmps89
  go_wp2
  go_quiet (fail)
  go_wp2
  go_quiet (fail)
  go_wp2
  go_quiet (fail)
  go_wp2
  go_loop [9, 10] (fun q r => ∃ G R : Int, q = .int .u64 G ∧ r = .int .u64 R ∧ (0 ≤ G ∧ G ≤ 8589934592) ∧ (0 ≤ R ∧ R < 4294967296) ∧ GTo f s (t * 4294967296 + w1) w2 G R) (fun q _ => (intOf q).toNat)
  case atStart => exact ⟨_, _, rfl, rfl, ⟨g1, g0⟩, ⟨r0, by omega⟩, HS.out⟩
  case round =>
    obtain ⟨G, R, rfl, rfl, ⟨G0, G1⟩, ⟨R0, R1⟩, hT⟩ := hrel
    clear e1 r0 r1 g0 g1 HS
    by_cases hG : 4294967295 < G
    · have tG : decide (4294967295 < G) = true := by simp; omega
      have D := hT.down b4.1 (by omega) (.inl hG)
      have N := hT.near rfl hf hle b5.2 b2.1 b2.2 hG
      by_cases hR : 4294967295 < R + f
      · have tR : decide (4294967295 < R + f) = true := by simp; omega
        have hE : G = 4294967296 := by
          by_cases h : 4294967296 < G
          · have := N.2 h; omega
          · omega
        have F := hide (D.far (by omega) b5.2 b5.1 b3.1 hR)
        clear D N hE
        go_wp2
        go_ret
        exact ⟨_, rfl, F.out, below_drewN (Below.refl _ _) _⟩
      · have tR : decide (4294967295 < R + f) = false := by simp; omega
        have D' := hide D
        clear N D
        go_wp2
        go_round
        case rel => repeat' (first | exact D'.out | omega | apply And.intro)
        case measure => simp [intOf]; omega
    · have tG : decide (4294967295 < G) = false := by simp; omega
      have e2 := or64 R w2 R0 R1 b3.1 b3.2
      have u0 : 0 ≤ G * s := Int.mul_nonneg G0 b5.1
      have u1 : G * s ≤ 18446744065119617025 := Int.le_trans (Int.mul_le_mul_of_nonneg_right (show G ≤ 4294967295 by omega) b5.1) (Int.mul_le_mul_of_nonneg_left (show s ≤ 4294967295 by omega) (by decide))
      by_cases hc : R * 4294967296 + w2 < G * s
      · have tc : decide (R * 4294967296 + w2 < G * s) = true := by simp; omega
        have hG1 : 1 ≤ G := by
          by_cases h : G = 0
          · rw [h] at hc; omega
          · omega
        have D := hT.down b4.1 hG1 (.inr hc)
        by_cases hR : 4294967295 < R + f
        · have tR : decide (4294967295 < R + f) = true := by simp; omega
          have F := hide (D.far (by omega) b5.2 b5.1 b3.1 hR)
          clear D hc
          go_wp2
          go_ret
          exact ⟨_, rfl, F.out, below_drewN (Below.refl _ _) _⟩
        · have tR : decide (4294967295 < R + f) = false := by simp; omega
          have D' := hide D
          clear hc D
          go_wp2
          go_round
          case rel => repeat' (first | exact D'.out | omega | apply And.intro)
          case measure => simp [intOf]; omega
      · have tc : decide (R * 4294967296 + w2 < G * s) = false := by simp; omega
        have F := hide (hT.stop (by omega) (by omega))
        clear hc
        go_wp2
        go_ret
        exact ⟨_, rfl, F.out, below_drewN (Below.refl _ _) _⟩
end Go.Proofs.Ythdjopkmlcdoeaa
