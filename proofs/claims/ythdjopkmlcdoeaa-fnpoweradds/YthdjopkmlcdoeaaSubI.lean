/-
  impl.NumSub.
-/
import Derived.Test.YthdjopkmlcdoeaaSubS
import Derived.Test.YthdjopkmlcdoeaaAddI
import Derived.Test.YthdjopkmlcdoeaaTake
import Derived.Test.YthdjopkmlcdoeaaCmp
namespace Go.Proofs.Ythdjopkmlcdoeaa
open Go.RowKit

set_option maxHeartbeats 1000000 in
theorem clone_any (w : World) (g : Nat) (a : Option Addr) (ca : Nat) (zs : List Int) (ha : Rd w g a .u32 zs) (hn : zs.length ≤ 8192) :
    Calls Try.prog 79 #[.slice a zs.length ca] w fun e w' => e = .returned (.slice (some ⟨w.heap.size, 0, none⟩) zs.length zs.length) ∧ Blk w' w.heap.size .u32 zs ∧ Below w.heap.size w w' := by
  obtain ⟨i0, hi, hz0, hz1, hz2⟩ := info_parts Try.info69
  have hsz : (Try.prog.info? 69).map (·.size) = some 1 := by rw [hi]; simp [hz1]
  go_enter Try.func79, Try.ntmps79
  go_wp2_with (at_make; refine wpList_make_full _ rfl _ _ 48 rfl w.heap.size 69 i0 (.int .u32 0) 1 Try.underlying48 hi hz0 hz1 .i64 .i64 _ _ zs.length rfl rfl rfl rfl (by rw [hz2]; omega) (by unfold maxLen; omega) (Nat.le_refl _) ?_; intro w1 hown hgrow)
  have hB0 := Blk.of_made hown
  have hN0 : Below w.heap.size w w1 := (Below.refl _ _).grown hgrow (Nat.le_refl _) (by simp)
  obtain ⟨w2, hrun, hB2, hO⟩ := copy_blk (P := Try.prog) w1 48 3 69 Try.underlying48 hsz hB0 g a zs (ha.up hN0) (by simp) zs.length ca
  rw [List.length_replicate] at hrun
  have hN2 := hN0.trans (hO.below (Nat.le_refl _))
  rw [hrun]
  clear hown hgrow hB0 hN0 hO hrun
  go_wp2
  go_ret
  exact ⟨rfl, by simpa using hB2, hN2⟩

set_option maxHeartbeats 1000000 in
theorem sub_any (w : World) (g g' : Nat) (a b : Option Addr) (ca cb : Nat) (zs us : List Int) (ha : Rd w g a .u32 zs) (hb : Rd w g' b .u32 us) (hz : Lmb zs) (hu : Lmb us) (hn : zs.length ≤ 2048) (hm : us.length ≤ zs.length) (hle : lval us ≤ lval zs) :
    Calls Try.prog 64 #[.slice a zs.length ca, .slice b us.length cb] w fun e w' => NewNat w w' e (lval zs - lval us) ∧ Below w.heap.size w w' := by
  go_enter Try.func64, Try.ntmps64
  go_wp2_with fail
  refine (clone_any w g a ca zs ha (by omega)).mono ?_
  rintro e w1 ⟨rfl, B1, n1⟩
  go_wp2_with fail
  refine (takeTimes_any w1 w.heap.size _ _ zs g' b cb us 1 B1.own0 (hb.up n1) (fun h => by have := hb.lt h; omega) hz hu (by omega) (by omega) (by decide) (by decide)).mono ?_
  rintro e w2 ⟨ys, bo, c, rfl, hA, o2, O2⟩
  have hN2 := n1.trans (O2.below (Nat.le_refl _))
  have hD := hA.done hm
  have hl : ys.length = zs.length := hA.1
  have hyl := hA.2.1
  have hv : lval ys = lval zs - lval us := by
    have b1 := (lval_bd hyl).2
    rw [hl] at b1
    have h3 := hA.2.2.1
    have h4 := hA.2.2.2.1
    have p := p32_pos zs.length
    by_cases h0 : bo + c = 0
    · rw [h0] at hD; omega
    · have : 1 * 4294967296 ^ zs.length ≤ (bo + c) * (4294967296 : Int) ^ zs.length := Int.mul_le_mul_of_nonneg_right (by omega) (by omega)
      omega
  have HY := hide hl
  have HV := hide hv
  clear hD hA hl hv
  generalize (c + bo != 0) = t
  go_wp2_with fail
  rw [← HY.out]
  refine (trim_any w2 w.heap.size 0 ys.length ys o2.rd (Nat.le_refl _) (by rw [HY.out]; omega)).mono ?_
  rintro e w4 ⟨s, hs, rfl, hzf, htop, rfl⟩
  go_wp2
  go_ret
  exact trimmed o2 hs hzf htop hyl HV.out (by rw [HY.out]; omega) hN2

set_option maxHeartbeats 2000000 in
theorem implNumSub_any (w : World) (g g' : Nat) (a b : Option Addr) (ca cb : Nat) (xs us : List Int) (ha : Rd w g a .u8 xs) (hb : Rd w g' b .u8 us) (hx : Byt xs) (hu : Byt us) :
    Calls Try.prog 37 #[.slice a xs.length ca, .slice b us.length cb] w fun e w' => ∃ t zs, NumOf (xs.length ≤ 128 ∧ us.length ≤ 128 ∧ bval us ≤ bval xs) (bval xs - bval us) t zs ∧ NewRes w.heap.size w' e t zs ∧ Below w.heap.size w w' := by
  have hal : Below w.heap.size w (w.alloc (.cells #[.bool false, .slice none 0 0] 31)) := (Below.refl _ _).alloc (Nat.le_refl _) _
  by_cases h1 : xs.length ≤ 128
  · have t1 : decide ((xs.length : Int) ≤ 128) = true := by simp; omega
    by_cases h2 : us.length ≤ 128
    · have t2 : decide ((us.length : Int) ≤ 128) = true := by simp; omega
      go_enter Try.func37, Try.ntmps37
      go_wp2_with (go_at_call 48; go_in)
      have T0 := Two.new w (.bool false) (.slice none 0 0) 31
      generalize w.alloc (.cells #[.bool false, .slice none 0 0] 31) = wa at *
      refine (readNatural_any wa g a ca xs (ha.up hal) hx h1).mono ?_
      rintro e w1 ⟨zs, c1, l1, m1, rfl, o1, b1, p1, v1, n1, s1⟩
      have V1 := hide v1
      have N1 := nxt hal n1
      clear v1
      go_wp2_with fail
      refine (readNatural_any w1 g' b cb us (hb.up N1) hu h2).mono ?_
      rintro e w2 ⟨ms, c2, l2, m2, rfl, o2, b2, p2, v2, n2, s2⟩
      have V2 := hide v2
      clear v2
      go_wp2_with fail
      refine (compare_any w2 _ _ _ _ c1 c2 zs ms (o1.up n2).rd o2.rd b1 b2 p1 p2 (by omega) (by omega)).mono ?_
      rintro e w3 ⟨rfl, n3⟩
      have t0 := T0.lt
      have e1 := n1.size
      have e2 := n2.size
      have e3 := n3.size
      by_cases hle : bval us ≤ bval xs
      · have hle' : lval ms ≤ lval zs := by rw [V1.out, V2.out]; exact hle
        have t3 : decide (sg (lval zs) (lval ms) < 0) = false := by unfold sg; simp; split <;> (try split) <;> omega
        have hlen : ms.length ≤ zs.length := by
          by_cases h : zs.length < ms.length
          · have := lval_lt_of_len b1 b2 p2 h
            omega
          · omega
        generalize sg (lval zs) (lval ms) = s at *
        have o1' := (o1.up n2).up n3
        have o2' := o2.up n3
        clear o1 o2
        go_wp2_with fail
        refine (sub_any w3 _ _ _ _ c1 c2 zs ms o1'.rd o2'.rd b1 b2 (by omega) hlen hle').mono ?_
        rintro e w4 ⟨⟨ss, c4, l4, m4, rfl, o4, b4, p4, v4⟩, n4⟩
        have V4 := hide v4
        have e4 := n4.size
        clear v4
        go_wp2_with fail
        refine (result_any w4 _ _ c4 ss o4.rd b4 (by omega)).mono ?_
        rintro e w5 ⟨t, rs, R, ⟨a5, c5, g5, rfl, o5, q5, r5, s5⟩, n5⟩
        rw [V4.out, V1.out, V2.out] at R
        have n15 := nxt (nxt (nxt (nxt n1 n2) n3) n4) n5
        obtain ⟨k1, k2, k3, k4⟩ := T0.up n15
        have N5 := nxt hal n15
        clear o1' o2' o4 n1 n2 n3 n4 n5 n15 N1 s1 s2
        go_wp2
        obtain ⟨o6, N6⟩ := two_laid (u := .bool t) (v := .slice a5 rs.length c5) N5 o5 (by omega)
        exact bodyPost_ret (v := .agg #[.bool t, .slice a5 rs.length c5]) (by simp [results, Try.results37, go_sem, k1, k2]) rfl ⟨t, rs, .inl ⟨⟨h1, h2, hle⟩, R⟩, ⟨a5, c5, g5, rfl, o6, q5, r5, by omega⟩, N6⟩
      · have t3 : decide (sg (lval zs) (lval ms) < 0) = true := by rw [V1.out, V2.out, sg_lt (by omega)]; decide
        generalize sg (lval zs) (lval ms) = s at *
        have n13 := nxt (nxt n1 n2) n3
        obtain ⟨k1, k2, k3, k4⟩ := T0.up n13
        have N3 := nxt hal n13
        clear o1 o2 n1 n2 n3 n13 N1 s1 s2
        go_wp2
        obtain ⟨o6, N6⟩ := two_laid (g := w.heap.size + 1) (u := .bool false) (v := .slice none 0 0) N3 (Own.nil _ _ none _) (by omega)
        exact bodyPost_ret (v := .agg #[.bool false, .slice none 0 0]) (by simp [results, Try.results37, go_sem, k1, k2]) rfl ⟨false, [], .inr ⟨by omega, rfl, rfl⟩, NewRes.none N6.size, N6⟩
    · have t2 : decide ((us.length : Int) ≤ 128) = false := by simp; omega
      go_enter Try.func37, Try.ntmps37
      go_wp2
      exact bodyPost_ret (v := .agg #[.bool false, .slice none 0 0]) (by simp [results, Try.results37, go_sem]) rfl ⟨false, [], .inr ⟨by omega, rfl, rfl⟩, NewRes.none (by simp), hal⟩
  · have t1 : decide ((xs.length : Int) ≤ 128) = false := by simp; omega
    go_enter Try.func37, Try.ntmps37
    go_wp2
    exact bodyPost_ret (v := .agg #[.bool false, .slice none 0 0]) (by simp [results, Try.results37, go_sem]) rfl ⟨false, [], .inr ⟨by omega, rfl, rfl⟩, NewRes.none (by simp), hal⟩
end Go.Proofs.Ythdjopkmlcdoeaa
