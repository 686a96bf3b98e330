/-
  Two numbers that are drawn for a quotient.
-/
import Derived.Test.YthdjopkmlcdoeaaDrawA
import Derived.Test.YthdjopkmlcdoeaaDrawB
import Derived.Test.YthdjopkmlcdoeaaMulS
import Derived.Test.YthdjopkmlcdoeaaSubS
import Derived.Test.YthdjopkmlcdoeaaNum9
namespace Go.Proofs.Ythdjopkmlcdoeaa
open Go.RowKit

theorem p256_mono {n m : Nat} (h : n ≤ m) : (256 : Int) ^ n ≤ 256 ^ m := by
  rw [show m = n + (m - n) by omega, Int.pow_add]
  have p := p256_pos n
  have q := p256_pos (m - n)
  have := Int.mul_le_mul_of_nonneg_left (show (1 : Int) ≤ 256 ^ (m - n) by omega) (show (0 : Int) ≤ 256 ^ n by omega)
  omega
theorem mul_blen2 {xs ys ps : List Int} (hx : Byt xs) (hy : Byt ys) (h : Canon ps (bval xs * bval ys)) : ps.length ≤ xs.length + ys.length :=
  h.len (mul_lt_pow (by decide) (bval_nonneg hx) (bval_lt hx) (bval_nonneg hy) (bval_lt hy))
theorem add_blen {xs us ys : List Int} {n : Nat} (hx : Byt xs) (hu : Byt us) (h : Canon ys (bval xs + bval us)) (lx : xs.length ≤ n) (lu : us.length ≤ n) : ys.length ≤ n + 1 := by
  refine h.len ?_
  have a := bval_lt hx
  have b := bval_lt hu
  have c := p256_mono lx
  have d := p256_mono lu
  have e := p256_pos n
  rw [Int.pow_succ]
  omega
theorem sub_blen {xs us ys : List Int} (hx : Byt xs) (hu : Byt us) (h : Canon ys (bval xs - bval us)) : ys.length ≤ xs.length := by
  by_cases k : xs.length < ys.length
  · have := canon_lt hx h k
    have := h.2.1
    have := bval_nonneg hu
    omega
  · omega

/-- A row that the call made, not where the source lies. -/
def DRow (s : Nat) (w : World) (g : Nat) (a : Option Addr) (c : Nat) (xs : List Int) : Prop := Row w g a c xs ∧ s < g
theorem DRow.up {s : Nat} {w w' : World} {g : Nat} {a : Option Addr} {c : Nat} {xs : List Int} (h : DRow s w g a c xs) (n : Below w.heap.size w w') : DRow s w' g a c xs := ⟨⟨h.1.1.up n, h.1.2⟩, h.2⟩
theorem DRow.but {s : Nat} {w w' : World} {g : Nat} {a : Option Addr} {c : Nat} {xs : List Int} (h : DRow s w g a c xs) (n : But s w w') : DRow s w' g a c xs := ⟨⟨h.1.1.but n (fun _ => by have := h.2; omega), h.1.2⟩, h.2⟩
theorem DRow.only {s : Nat} {w w' : World} {g : Nat} {a : Option Addr} {c : Nat} {xs : List Int} (h : DRow s w g a c xs) (n : Only s w w') : DRow s w' g a c xs := h.but (But.ofOnly n)

set_option maxHeartbeats 4000000 in
theorem drawNumDivide_any (w : World) (g : Nat) (a : Option Addr) (c : Nat) (code : List Int) (hr : Rd w g a .u8 code) (hb : Byt code) (hl : code.length ≤ 1048576) :
    Calls Try.prog 43 #[.slice a code.length c] w fun e w' => ∃ xs us a1 c1 g1 a2 c2 g2, e = .returned (.tuple #[.slice a1 xs.length c1, .slice a2 us.length c2]) ∧ (Byt xs ∧ xs.length ≤ 5000) ∧ (Byt us ∧ us.length ≤ 5000) ∧ Row w' g1 a1 c1 xs ∧ Row w' g2 a2 c2 us ∧ Below w.heap.size w w' := by
  have hne : 0 < code.length → g ≠ w.heap.size := fun h => by have := hr.lt h; omega
  go_enter Try.func43, Try.ntmps43
  go_wp2_with fail
  refine (l1Source_any w a code.length c hl).mono ?_
  rintro e w1 ⟨rfl, S1, n1⟩
  have sl := S1.lt
  go_wp2_with fail
  refine (l1DrawNum_any w1 w.heap.size g a c code 0 100 S1 (hr.up n1) hne hb hl (by decide) (by decide) (by decide) (by decide)).mono ?_
  rintro e w2 ⟨xs, t2, hx, lx, ⟨a1, c1, g1, rfl, o1, p1, q1, r1⟩, S2, T2, N2⟩
  have n2 := n1.trans (N2.below (B := w.heap.size) (Nat.le_refl _) (by omega))
  have X2 : DRow w.heap.size w2 g1 a1 c1 xs := ⟨⟨o1, p1, q1⟩, by omega⟩
  have sl2 := S2.lt
  clear o1 p1 q1 r1 N2 n1 S1 sl
  go_wp2_with fail
  refine (l1DrawNum_any w2 w.heap.size g a c code t2 50 S2 (hr.up n2) hne hb hl T2.1 (by omega) (by decide) (by decide)).mono ?_
  rintro e w3 ⟨us, t3, hu, lu, ⟨a2, c2, g2, rfl, o2, p2, q2, r2⟩, S3, T3, N3⟩
  have n3 := n2.trans (N3.below (B := w.heap.size) (Nat.le_refl _) (by omega))
  have X3 := X2.but N3
  have U3 : DRow w.heap.size w3 g2 a2 c2 us := ⟨⟨o2, p2, q2⟩, by omega⟩
  have sl3 := S3.lt
  have T3' : 0 ≤ t3 ∧ t3 ≤ 4000 := by omega
  clear o2 p2 q2 r2 N3 n2 S2 sl2 X2 T2 T3
  go_wp2_with fail
  refine (l1Chance_any w3 w.heap.size g a c code t3 4 S3 (hr.up n3) hne hb hl T3'.1 (by omega) (by decide) (by decide)).mono ?_
  rintro e w4 ⟨b1, rfl, S4, O4⟩
  have n4 := n3.trans (O4.below (B := w.heap.size) (Nat.le_refl _))
  have X4 := X3.only O4
  have U4 := U3.only O4
  have sl4 := S4.lt
  clear O4 n3 X3 U3 S3 sl3
  cases b1
  case' true =>
    go_wp2_with fail
    refine (l1DrawBytes_any w4 w.heap.size g a c code (t3 + 1) 1 S4 (hr.up n4) hne hb hl (by omega) (by omega)).mono ?_
    rintro e w5 ⟨us5, l5, hu5, ⟨a5, c5, g5, rfl, o5, p5, q5, r5⟩, S5, N5⟩
    have n5 := n4.trans (N5.below (B := w.heap.size) (Nat.le_refl _) (by omega))
    have X5 := X4.but N5
    have U5 : DRow w.heap.size w5 g5 a5 c5 us5 := ⟨⟨o5, p5, q5⟩, by omega⟩
    have lu5 : us5.length ≤ 2000 := by omega
    obtain ⟨t5, ht5⟩ : ∃ t5 : Int, t5 = t3 + 1 + ((1 : Nat) : Int) := ⟨_, rfl⟩
    rw [← ht5] at S5
    have T5 : 0 ≤ t5 ∧ t5 ≤ 4100 := by omega
    have sl5 := S5.lt
    clear o5 p5 q5 r5 N5 n4 X4 U4 S4 sl4 l5 ht5 hu lu
  case' false =>
    obtain ⟨us5, e5⟩ : ∃ q, q = us := ⟨_, rfl⟩
    obtain ⟨a5, e6⟩ : ∃ q, q = a2 := ⟨_, rfl⟩
    obtain ⟨c5, e7⟩ : ∃ q, q = c2 := ⟨_, rfl⟩
    obtain ⟨g5, e8⟩ : ∃ q, q = g2 := ⟨_, rfl⟩
    obtain ⟨w5, e9⟩ : ∃ q, q = w4 := ⟨_, rfl⟩
    obtain ⟨t5, ht5⟩ : ∃ t5 : Int, t5 = t3 + 1 := ⟨_, rfl⟩
    have T5 : 0 ≤ t5 ∧ t5 ≤ 4100 := by omega
    subst e5 e6 e7 e8 e9
    rw [← ht5] at S4
    have hu5 := hu
    have lu5 := lu
    have n5 := n4
    have X5 := X4
    have U5 := U4
    have S5 := S4
    have sl5 := sl4
    clear n4 X4 U4 S4 sl4 ht5 hu lu
  all_goals
    go_wp2_with fail
    refine (l1Chance_any _ w.heap.size g a c code t5 4 S5 (hr.up n5) hne hb hl (by omega) (by omega) (by decide) (by decide)).mono ?_
    rintro e w6 ⟨b2, rfl, S6, O6⟩
    have n6 := n5.trans (O6.below (B := w.heap.size) (Nat.le_refl _))
    have X6 := X5.only O6
    have U6 := U5.only O6
    have sl6 := S6.lt
    clear O6 n5 X5 U5 S5 sl5
    cases b2
    case false =>
      go_wp2
      go_ret2
      exact ⟨xs, us5, a1, c1, g1, a5, c5, g5, rfl, ⟨hx, by omega⟩, ⟨hu5, by omega⟩, X6.1, U6.1, n6⟩
    case true =>
      clear X6 hx lx
      go_wp2_with fail
      refine (l1DrawNum_any w6 w.heap.size g a c code (t5 + 1) 20 S6 (hr.up n6) hne hb hl (by omega) (by omega) (by decide) (by decide)).mono ?_
      rintro e w7 ⟨ns, t7, hn7, ln7, ⟨a7, c7, g7, rfl, o7, p7, q7, r7⟩, S7, T7, N7⟩
      have n7 := n6.trans (N7.below (B := w.heap.size) (Nat.le_refl _) (by omega))
      have U7 := U6.but N7
      have sl7 := S7.lt
      clear N7 n6 U6 S6 sl6
      go_wp2_with fail
      refine (l1Mul_any w7 _ _ _ _ c5 c7 us5 ns U7.1.1.rd o7.rd hu5 hn7 (by omega) (by omega)).mono ?_
      rintro e w8 ⟨ps, C8, ⟨a8, c8, g8, rfl, o8, p8, q8, r8⟩, m8⟩
      have l8 := mul_blen2 hu5 hn7 C8
      have hp8 := C8.1
      have top8 := C8.2.2
      have n8 := nxt n7 m8
      have S8 := S7.up m8
      have U8 := U7.up m8
      have sl8 := S8.lt
      have z8 := m8.size
      have y8 : w.heap.size < g8 := by omega
      have P8 : DRow w.heap.size w8 g8 a8 c8 ps := ⟨⟨o8, p8, q8⟩, y8⟩
      have pos8 : 0 < ps.length → 1 ≤ bval ps := fun h => by
        have := C8.ge h
        have := p256_pos (ps.length - 1)
        have := C8.2.1
        omega
      have HP := hide pos8
      clear C8 o7 p7 q7 r7 o8 p8 q8 r8 n7 U7 S7 sl7 m8 z8 pos8 top8
      go_wp2_with fail
      refine (l1Chance_any w8 w.heap.size g a c code t7 2 S8 (hr.up n8) hne hb hl (by omega) (by omega) (by decide) (by decide)).mono ?_
      rintro e w9 ⟨b3, rfl, S9, O9⟩
      have n9 := n8.trans (O9.below (B := w.heap.size) (Nat.le_refl _))
      have P9 := P8.only O9
      have U9 := U8.only O9
      have sl9 := S9.lt
      clear O9 n8 P8 U8 S8 sl8
      cases b3
      case true =>
        go_wp2_with fail
        refine (l1Next_any w9 w.heap.size g a c code (t7 + 1) 3 S9 (hr.up n9) hne hb hl (by omega) (by omega) (by decide) (by decide)).mono ?_
        rintro e wA ⟨r, rfl, rr, SA, OA⟩
        have nA := n9.trans (OA.below (B := w.heap.size) (Nat.le_refl _))
        have PA := P9.only OA
        have UA := U9.only OA
        go_wp2_with fail
        refine (l1Int_any wA r rr.1 (by omega)).mono ?_
        rintro e wB ⟨is, lB, iB, ⟨aB, cB, gB, rfl, oB, pB, qB, rB⟩, mB⟩
        have nB := nxt nA mB
        have PB := PA.up mB
        have UB := UA.up mB
        clear OA n9 P9 U9 S9 sl9 nA PA UA SA mB
        go_wp2_with fail
        refine (l1Add_any wB _ _ _ _ c8 cB ps is PB.1.1.rd oB.rd hp8 iB (by omega) (by omega)).mono ?_
        rintro e wC ⟨ys, CC, ⟨aC, cC, gC, rfl, oC, pC, qC, rC⟩, mC⟩
        have nC := nxt nB mC
        have UC := UB.up mC
        have lC := add_blen (n := 4000) hp8 iB CC (by omega) (by omega)
        have bC := CC.1
        clear CC
        go_wp2
        go_ret2
        exact ⟨ys, us5, aC, cC, gC, a5, c5, g5, rfl, ⟨bC, by omega⟩, ⟨hu5, by omega⟩, ⟨oC, pC, qC⟩, UC.1, nC⟩
      case false =>
        by_cases h0 : 0 < ps.length
        · have t0 : decide ((0 : Int) < (ps.length : Int)) = true := by simp; omega
          have al : Below w9.heap.size w9 (w9.alloc (.cells #[.int .u8 1] 5)) := (Below.refl _ _).alloc (Nat.le_refl _) _
          have hO : Blk (w9.alloc (.cells #[.int .u8 1] 5)) w9.heap.size .u8 [1] := ⟨5, heap_alloc_new w9 _⟩
          go_wp2_with fail
          generalize w9.alloc (.cells #[.int .u8 1] 5) = wA at *
          have nA := nxt n9 al
          have PA := P9.up al
          have UA := U9.up al
          have b1 : Byt [1] := fun i => by match i with | 0 => simp | i + 1 => simp
          refine (l1Sub_any wA _ _ _ _ c8 1 ps [1] PA.1.1.rd hO.own0.rd hp8 b1 (by omega) (by simp; omega) (by simpa [bval] using HP.out h0)).mono ?_
          rintro e wC ⟨ys, CC, ⟨aC, cC, gC, rfl, oC, pC, qC, rC⟩, mC⟩
          have nC := nxt nA mC
          have UC := UA.up mC
          have lC := sub_blen hp8 b1 CC
          have bC := CC.1
          clear CC
          go_wp2
          go_ret2
          exact ⟨ys, us5, aC, cC, gC, a5, c5, g5, rfl, ⟨bC, by omega⟩, ⟨hu5, by omega⟩, ⟨oC, pC, qC⟩, UC.1, nC⟩
        · obtain rfl : ps = [] := List.eq_nil_of_length_eq_zero (by omega)
          clear h0 HP
          go_wp2
          go_ret2
          exact ⟨[], us5, a8, c8, g8, a5, c5, g5, rfl, ⟨hp8, by simp⟩, ⟨hu5, by omega⟩, P9.1, U9.1, n9⟩
end Go.Proofs.Ythdjopkmlcdoeaa
