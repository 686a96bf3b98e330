/-
  impl.NumPower.
-/
import Derived.Test.YthdjopkmlcdoeaaPowI
namespace Go.Proofs.Ythdjopkmlcdoeaa
open Go.RowKit

set_option maxHeartbeats 4000000 in
theorem implNumPower_any (w : World) (g g' g'' : Nat) (a b d : Option Addr) (ca cb cd : Nat) (xs us ms : List Int) (ha : Rd w g a .u8 xs) (hb : Rd w g' b .u8 us) (hd : Rd w g'' d .u8 ms) (hx : Byt xs) (hu : Byt us) (hm : Byt ms) :
    Calls Try.prog 39 #[.slice a xs.length ca, .slice b us.length cb, .slice d ms.length cd] w fun e w' => ∃ t zs, NumOf (xs.length ≤ 40 ∧ us.length ≤ 40 ∧ ms.length ≤ 40 ∧ 0 < bval ms) (bval xs ^ (bval us).toNat % bval ms) t zs ∧ NewRes w.heap.size w' e t zs ∧ Below w.heap.size w w' := by
  have hal : Below w.heap.size w (w.alloc (.cells #[.bool false, .slice none 0 0] 31)) := (Below.refl _ _).alloc (Nat.le_refl _) _
  by_cases h1 : xs.length ≤ 40
  · have t1 : decide ((40 : Int) < (xs.length : Int)) = false := by simp; omega
    by_cases h2 : us.length ≤ 40
    · have t2 : decide ((40 : Int) < (us.length : Int)) = false := by simp; omega
      by_cases h3 : ms.length ≤ 40
      · have t3 : decide ((40 : Int) < (ms.length : Int)) = false := by simp; omega
        go_enter Try.func39, Try.ntmps39
        go_wp2_with fail
        have T0 := Two.new w (.bool false) (.slice none 0 0) 31
        have s0 : (w.alloc (.cells #[.bool false, .slice none 0 0] 31)).heap.size = w.heap.size + 1 := by simp
        generalize w.alloc (.cells #[.bool false, .slice none 0 0] 31) = wa at *
        have S0 := hide s0
        clear s0
        refine (readNatural_any wa g'' d cd ms (hd.up hal) hm (by omega)).mono ?_
        rintro e w1 ⟨ds, c1, l1, m1, rfl, o1, b1, p1, v1, n1, s1⟩
        have V1 := hide v1
        have N1 := nxt hal n1
        have T1 := T0.up n1
        clear v1
        by_cases h4 : 0 < bval ms
        · have dp : 0 < ds.length := by
            by_cases k : 0 < ds.length
            · exact k
            · have e0 : ds = [] := List.eq_nil_of_length_eq_zero (by omega)
              have := V1.out
              rw [e0] at this
              simp [lval] at this
              omega
          have t4 : ((ds.length : Int) == 0) = false := beq_eq_false_iff_ne.2 (by omega)
          go_wp2_with fail
          refine (readNatural_any w1 g a ca xs (ha.up N1) hx (by omega)).mono ?_
          rintro e w2 ⟨zs, c2, l2, m2, rfl, o2, b2, p2, v2, n2, s2⟩
          have V2 := hide v2
          have N2 := nxt N1 n2
          clear v2
          go_wp2_with fail
          refine (readNatural_any w2 g' b cb us (hb.up N2) hu (by omega)).mono ?_
          rintro e w3 ⟨es, c3, l3, m3, rfl, o3, b3, p3, v3, n3, s3⟩
          have E3 : ((bval us).toNat : Int) = lval es := by rw [v3]; exact Int.toNat_of_nonneg (bval_nonneg hu)
          have HE3 := hide E3
          clear v3 E3
          have o1a := (o1.up n2).up n3
          have o2a := o2.up n3
          go_wp2_with fail
          refine (power_any w3 _ _ _ _ _ _ c2 c3 c1 zs es ds o2a.rd o3.rd o1a.rd b2 b3 b1 p2 p1 (by omega) (by omega) (by omega) dp (bval us).toNat HE3.out).mono ?_
          rintro e w4 ⟨⟨ss, a4, c4, g4, rfl, R4, v4⟩, n4⟩
          have V4 := hide v4
          have cl := R4.2.2.2
          clear v4 o1 o1a o2 o2a o3
          go_wp2_with fail
          refine (result_any w4 g4 a4 c4 ss R4.1.rd R4.2.1 (by omega)).mono ?_
          rintro e w5 ⟨t, rs, R, ⟨a5, c5, g5, rfl, o5, q5, r5, s5⟩, n5⟩
          rw [V4.out, V1.out, V2.out] at R
          have n15 := nxt (nxt (nxt (nxt n1 n2) n3) n4) n5
          obtain ⟨k1, k2, k3, k4⟩ := T0.up n15
          have z0 := S0.out
          have z1 := n1.size
          have z2 := n2.size
          have z3 := n3.size
          have z4 := n4.size
          have N5 := nxt hal n15
          have y5 : w.heap.size < g5 := by omega
          clear n1 n2 n3 n4 n5 n15 N1 N2 T0 T1 z0 s1 s2 s3 R4 cl
          go_wp2
          obtain ⟨o6, N6⟩ := two_laid (u := .bool t) (v := .slice a5 rs.length c5) N5 o5 y5
          exact bodyPost_ret (v := .agg #[.bool t, .slice a5 rs.length c5]) (by simp [results, Try.results39, go_sem, k1, k2]) rfl ⟨t, rs, .inl ⟨⟨h1, h2, h3, h4⟩, R⟩, ⟨a5, c5, g5, rfl, o6, q5, r5, by omega⟩, N6⟩
        · have h0 : bval ms = 0 := by have := bval_nonneg hm; omega
          have d0 := lval_zero b1 p1 (by rw [V1.out, h0])
          have t4 : ((ds.length : Int) == 0) = true := by simp [d0]
          obtain ⟨k1, k2, k3, k4⟩ := T1
          clear h0 d0
          go_wp2
          have O := (Only.setCell w1 w.heap.size 0 (.bool false)).trans (Only.setCell _ w.heap.size 1 (.slice none 0 0))
          exact bodyPost_ret (v := .agg #[.bool false, .slice none 0 0]) (by simp [results, Try.results39, go_sem, k1, k2]) rfl ⟨false, [], .inr ⟨by omega, rfl, rfl⟩, NewRes.none (by have := N1.size; simpa using this), N1.trans (O.below (Nat.le_refl _))⟩
      · have t3 : decide ((40 : Int) < (ms.length : Int)) = true := by simp; omega
        go_enter Try.func39, Try.ntmps39
        go_wp2
        exact bodyPost_ret (v := .agg #[.bool false, .slice none 0 0]) (by simp [results, Try.results39, go_sem]) rfl ⟨false, [], .inr ⟨by omega, rfl, rfl⟩, NewRes.none (by simp), hal⟩
    · have t2 : decide ((40 : Int) < (us.length : Int)) = true := by simp; omega
      go_enter Try.func39, Try.ntmps39
      go_wp2
      exact bodyPost_ret (v := .agg #[.bool false, .slice none 0 0]) (by simp [results, Try.results39, go_sem]) rfl ⟨false, [], .inr ⟨by omega, rfl, rfl⟩, NewRes.none (by simp), hal⟩
  · have t1 : decide ((40 : Int) < (xs.length : Int)) = true := by simp; omega
    go_enter Try.func39, Try.ntmps39
    go_wp2
    exact bodyPost_ret (v := .agg #[.bool false, .slice none 0 0]) (by simp [results, Try.results39, go_sem]) rfl ⟨false, [], .inr ⟨by omega, rfl, rfl⟩, NewRes.none (by simp), hal⟩
end Go.Proofs.Ythdjopkmlcdoeaa
