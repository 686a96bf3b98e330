/-
  impl.NumAdd.
-/
import Derived.Test.YthdjopkmlcdoeaaAddS
import Derived.Test.YthdjopkmlcdoeaaLimb
namespace Go.Proofs.Ythdjopkmlcdoeaa
open Go.RowKit

set_option maxHeartbeats 2000000 in
theorem result_any (w : World) (g : Nat) (a : Option Addr) (cap : Nat) (zs : List Int) (hr : Rd w g a .u32 zs) (hz : Lmb zs) (hn : zs.length ≤ 4096) :
    Calls Try.prog 57 #[.slice a zs.length cap] w fun e w' => ∃ t ys, ResOf (lval zs) t ys ∧ NewRes w.heap.size w' e t ys ∧ Below w.heap.size w w' := by
  have hal : Below w.heap.size w (w.alloc (.cells #[.bool false, .slice none 0 0] 31)) := (Below.refl _ _).alloc (Nat.le_refl _) _
  go_enter Try.func57, Try.ntmps57
  go_wp2_with fail
  refine (bytes_any _ g a cap zs (hr.up hal) hz hn).mono ?_
  rintro e w1 ⟨ys, C, ⟨a1, c1, g1, rfl, o1, q1, q2, q3⟩, n1⟩
  have q3' : w.heap.size + 1 ≤ g1 := by simpa using q3
  obtain ⟨k1, k2, k3, k4, k5⟩ := two_kept n1
  have N1 := nxt hal n1
  by_cases h : ys.length ≤ 128
  · have t1 : decide ((ys.length : Int) ≤ 128) = true := by simp; omega
    clear q3 n1
    go_wp2
    obtain ⟨o3, N3⟩ := two_laid (u := .bool true) (v := .slice a1 ys.length c1) N1 o1 (by omega)
    exact bodyPost_ret (v := .agg #[.bool true, .slice a1 ys.length c1]) (by simp [results, Try.results57, go_sem, k1, k2]) rfl ⟨true, ys, ⟨ys, C, .inl ⟨h, rfl, rfl⟩⟩, ⟨a1, c1, g1, rfl, o3, q1, q2, by omega⟩, N3⟩
  · have t1 : decide ((ys.length : Int) ≤ 128) = false := by simp; omega
    clear q3 n1
    go_wp2
    obtain ⟨o3, N3⟩ := two_laid (u := .bool false) (v := .slice none 0 0) N1 o1 (by omega)
    exact bodyPost_ret (v := .agg #[.bool false, .slice none 0 0]) (by simp [results, Try.results57, go_sem, k1, k2]) rfl ⟨false, [], ⟨ys, C, .inr ⟨by omega, rfl, rfl⟩⟩, NewRes.none N3.size, N3⟩

set_option maxHeartbeats 2000000 in
theorem implNumAdd_any (w : World) (g g' : Nat) (a b : Option Addr) (ca cb : Nat) (xs us : List Int) (ha : Rd w g a .u8 xs) (hb : Rd w g' b .u8 us) (hx : Byt xs) (hu : Byt us) :
    Calls Try.prog 25 #[.slice a xs.length ca, .slice b us.length cb] w fun e w' => ∃ t zs, NumOf (xs.length ≤ 128 ∧ us.length ≤ 128) (bval xs + bval us) t zs ∧ NewRes w.heap.size w' e t zs ∧ Below w.heap.size w w' := by
  have hal : Below w.heap.size w (w.alloc (.cells #[.bool false, .slice none 0 0] 31)) := (Below.refl _ _).alloc (Nat.le_refl _) _
  by_cases h1 : xs.length ≤ 128
  · have t1 : decide ((xs.length : Int) ≤ 128) = true := by simp; omega
    by_cases h2 : us.length ≤ 128
    · have t2 : decide ((us.length : Int) ≤ 128) = true := by simp; omega
      go_enter Try.func25, Try.ntmps25
      go_wp2_with (go_at_call 48; go_in)
      have T0 := Two.new w (.bool false) (.slice none 0 0) 31
      generalize w.alloc (.cells #[.bool false, .slice none 0 0] 31) = wa at *
      refine (readNatural_any wa g a ca xs (ha.up hal) hx h1).mono ?_
      rintro e w1 ⟨zs, c1, l1, m1, rfl, o1, b1, p1, v1, n1, s1⟩
      have V1 := hide v1
      have N1 := nxt hal n1
      clear v1
      go_wp2_with fail
      refine (readNatural_any w1 g' b cb us (hb.up N1) hu h2).mono ?_
      rintro e w2 ⟨ms, c2, l2, m2, rfl, o2, b2, p2, v2, n2, s2⟩
      have V2 := hide v2
      clear v2
      go_wp2_with fail
      refine (add_any w2 _ _ _ _ c1 c2 zs ms (o1.up n2).rd o2.rd b1 b2 (by omega) (by omega)).mono ?_
      rintro e w3 ⟨⟨ss, c3, l3, m3, rfl, o3, b3, p3, v3⟩, n3⟩
      have V3 := hide v3
      clear v3
      go_wp2_with fail
      refine (result_any w3 _ _ c3 ss o3.rd b3 (by omega)).mono ?_
      rintro e w4 ⟨t, rs, R, ⟨a4, c4, g4, rfl, o4, q4, r4, s4⟩, n4⟩
      rw [V3.out, V1.out, V2.out] at R
      have n14 := nxt (nxt (nxt n1 n2) n3) n4
      have t0 := T0.lt
      obtain ⟨k1, k2, k3, k4⟩ := T0.up n14
      have N4 := nxt hal n14
      have e1 := n1.size
      have e2 := n2.size
      have e3 := n3.size
      clear o1 o2 o3 n1 n2 n3 n4 n14 N1 s1 s2
      go_wp2
      obtain ⟨o5, N5⟩ := two_laid (u := .bool t) (v := .slice a4 rs.length c4) N4 o4 (by omega)
      exact bodyPost_ret (v := .agg #[.bool t, .slice a4 rs.length c4]) (by simp [results, Try.results25, go_sem, k1, k2]) rfl ⟨t, rs, .inl ⟨⟨h1, h2⟩, R⟩, ⟨a4, c4, g4, rfl, o5, q4, r4, by omega⟩, N5⟩
    · have t2 : decide ((us.length : Int) ≤ 128) = false := by simp; omega
      go_enter Try.func25, Try.ntmps25
      go_wp2
      exact bodyPost_ret (v := .agg #[.bool false, .slice none 0 0]) (by simp [results, Try.results25, go_sem]) rfl ⟨false, [], .inr ⟨by omega, rfl, rfl⟩, NewRes.none (by simp), hal⟩
  · have t1 : decide ((xs.length : Int) ≤ 128) = false := by simp; omega
    go_enter Try.func25, Try.ntmps25
    go_wp2
    exact bodyPost_ret (v := .agg #[.bool false, .slice none 0 0]) (by simp [results, Try.results25, go_sem]) rfl ⟨false, [], .inr ⟨by omega, rfl, rfl⟩, NewRes.none (by simp), hal⟩
end Go.Proofs.Ythdjopkmlcdoeaa
