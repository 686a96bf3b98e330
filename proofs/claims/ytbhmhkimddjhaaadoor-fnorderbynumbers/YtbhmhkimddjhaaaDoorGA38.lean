import Derived.Test.YtbhmhkimddjhaaaDoorGA32
import Derived.Test.YtbhmhkimddjhaaaDoorGA6
/-
  impl.NumMul.
-/
namespace Go.Proofs.YtbhmhkimddjhaaaDoor
set_option maxRecDepth 100000
open Go.RowKit

set_option maxHeartbeats 4000000 in
theorem mul_any (w : World) (g g' : Nat) (a b : Option Addr) (ca cb : Nat) (zs ms : List Int) (ha : Rd w g a .u32 zs) (hb : Rd w g' b .u32 ms) (hz : Lmb zs) (hm : Lmb ms) (hn : zs.length ≤ 1024) (hk : ms.length ≤ 1024) :
    Calls Tryd.prog 64 #[.slice a zs.length ca, .slice b ms.length cb] w fun e w' => NewNat w w' e (lval zs * lval ms) ∧ Below w.heap.size w w' := by
  obtain ⟨i0, hi, hz0, hz1, hz2⟩ := info_parts Tryd.info99
  go_enter Tryd.func64, Tryd.ntmps64
  go_wp2_with (at_make; refine wpList_make_full _ rfl _ _ 63 rfl w.heap.size 99 i0 (.int .u32 0) 1 Tryd.underlying63 hi hz0 hz1 .i64 .i64 _ _ (zs.length + ms.length) rfl rfl (by omega) (by omega) (by rw [hz2]; omega) (by unfold maxLen; omega) (Nat.le_refl _) ?_; intro w1 hown hgrow)
  have hB0 := Blk.of_made hown
  have hN0 : Below w.heap.size w w1 := (Below.refl _ _).grown hgrow (Nat.le_refl _) (by simp)
  clear hown hgrow
  go_loopw [17] (fun i wr => ∃ (k : Nat) (ps : List Int), k ≤ zs.length ∧ i = .int .i64 k ∧ LMulTo zs ms ps k 0 0 ∧ Blk wr w.heap.size .u32 ps ∧ Below w.heap.size w wr) (fun i _ => zs.length - (intOf i).toNat)
  case atStart => exact ⟨0, _, Nat.zero_le _, rfl, LMulTo.zero zs ms, hB0, hN0⟩
  case round =>
    obtain ⟨k, ps, hk', rfl, hA, hB, hN⟩ := hrel
    by_cases hlt : k < zs.length
    · obtain ⟨off, rfl, hc⟩ := ha (by omega)
      have hg := ha.lt (by omega)
      have hcz := hc k hlt
      have zb := hz k
      go_wp2
      go_loopw [7, 22] (fun q i wq => ∃ (j : Nat) (c : Int) (qs : List Int), j ≤ ms.length ∧ i = .int .i64 j ∧ q = .int .u64 c ∧ (0 ≤ c ∧ c < 4294967296) ∧ LMulTo zs ms qs k j c ∧ Blk wq w.heap.size .u32 qs ∧ Below w.heap.size w wq) (fun _ i _ => ms.length - (intOf i).toNat)
      case atStart => exact ⟨0, 0, ps, Nat.zero_le _, rfl, rfl, ⟨by omega, by omega⟩, hA, hB, hN⟩
      case round =>
        obtain ⟨j, c, qs, hj', rfl, rfl, hcb, hA2, hB2, hN2⟩ := hrel
        by_cases hjl : j < ms.length
        · obtain ⟨off', rfl, hc'⟩ := hb (by omega)
          have hg' := hb.lt (by omega)
          have R := hA2.step hz hm hlt hjl
          have hl := hA2.1
          have mb := hm j
          have pb := hA2.2.1 (k + j)
          have u0 : 0 ≤ zs.getD k 0 * ms.getD j 0 := Int.mul_nonneg zb.1 mb.1
          have u1 : zs.getD k 0 * ms.getD j 0 ≤ 18446744065119617025 := Int.le_trans (Int.mul_le_mul_of_nonneg_right (show zs.getD k 0 ≤ 4294967295 by omega) mb.1) (Int.mul_le_mul_of_nonneg_left (show ms.getD j 0 ≤ 4294967295 by omega) (by decide))
          have c1 : wr.cell? ⟨g, off + k, none⟩ = some (.int .u32 (zs.getD k 0)) := (hN2.cell (p := ⟨g, off + k, none⟩) hg).trans hcz
          have c2 : wr.cell? ⟨g', off' + j, none⟩ = some (.int .u32 (ms.getD j 0)) := (hN2.cell (p := ⟨g', off' + j, none⟩) hg').trans (hc' j hjl)
          have c3 : wr.cell? ⟨w.heap.size, k + j, none⟩ = some (.int .u32 (qs.getD (k + j) 0)) := hB2.cell (by omega)
          have f3 := hB2.free (k + j)
          have S := hB2.store (k + j) ((c + (zs.getD k 0 * ms.getD j 0 + qs.getD (k + j) 0)) % 4294967296)
          have Sn : ∀ n v, Below w.heap.size w ((wr.drewN n).setCell ⟨w.heap.size, k + j, none⟩ v) := fun n v => (below_drewN hN2 n).setCell (Nat.le_refl _) v
          have i1 : (k : Int) + (j : Int) < (zs.length : Int) + (ms.length : Int) := by omega
          have i2 : ((k : Int) + (j : Int)).toNat = k + j := by omega
          have i3 : (j : Int) < (ms.length : Int) := by omega
          have i4 : (k : Int) < (zs.length : Int) := by omega
          have R' := hide R
          generalize zs.getD k 0 = z at *
          generalize ms.getD j 0 = m at *
          generalize qs.getD (k + j) 0 = p at *
          clear hA hB hN hA2 hB2 hN2 hc hc' R hl hcz
          go_wp2
          go_quiet (fail)
          go_wp2
          go_roundw
          case rel => exact ⟨j + 1, _, _, by omega, by go_num, rfl, ⟨by omega, by omega⟩, R'.out, S, Sn _ _⟩
          case measure => simp [intOf]; omega
        · obtain rfl : j = ms.length := by omega
          have R := hA2.row hlt
          have hl := hA2.1
          have c3 : wr.cell? ⟨w.heap.size, k + ms.length, none⟩ = some (.int .u32 (qs.getD (k + ms.length) 0)) := hB2.cell (by omega)
          have f3 := hB2.free (k + ms.length)
          have S := hB2.store (k + ms.length) c
          have Sn : Below w.heap.size w (wr.setCell ⟨w.heap.size, k + ms.length, none⟩ (.int .u32 c)) := hN2.setCell (Nat.le_refl _) _
          have i1 : (k : Int) + (ms.length : Int) < (zs.length : Int) + (ms.length : Int) := by omega
          have i2 : ((k : Int) + (ms.length : Int)).toNat = k + ms.length := by omega
          have m1 : c % 4294967296 = c := by omega
          have R' := hide R
          clear hA hB hN hA2 hB2 hN2 hc R hl hcz
          go_wp2
          go_roundw
          case rel => exact ⟨k + 1, _, by omega, by go_num, R'.out, S, Sn⟩
          case measure => simp [intOf]; omega
    · obtain rfl : k = zs.length := by omega
      have V := hide hA.done
      have L := hide hA.1
      have hpl := hA.2.1
      clear hA
      go_wp2_with fail
      rw [← L.out]
      refine (trim_any wr w.heap.size 0 ps.length ps hB.own0.rd (Nat.le_refl _) (by rw [L.out]; omega)).mono ?_
      rintro e w4 ⟨s, hs, rfl, hzf, htop, rfl⟩
      go_wp2
      go_ret
      exact trimmed hB.own0 hs hzf htop hpl V.out (by rw [L.out]; omega) hN
set_option maxHeartbeats 2000000 in
theorem implNumMul_any (w : World) (g g' : Nat) (a b : Option Addr) (ca cb : Nat) (xs us : List Int) (ha : Rd w g a .u8 xs) (hb : Rd w g' b .u8 us) (hx : Byt xs) (hu : Byt us) :
    Calls Tryd.prog 26 #[.slice a xs.length ca, .slice b us.length cb] w fun e w' => ∃ t zs, NumOf (xs.length ≤ 128 ∧ us.length ≤ 128) (bval xs * bval us) t zs ∧ NewRes w.heap.size w' e t zs ∧ Below w.heap.size w w' := by
  have hal : Below w.heap.size w (w.alloc (.cells #[.bool false, .slice none 0 0] 34)) := (Below.refl _ _).alloc (Nat.le_refl _) _
  by_cases h1 : xs.length ≤ 128
  · have t1 : decide ((xs.length : Int) ≤ 128) = true := by simp; omega
    by_cases h2 : us.length ≤ 128
    · have t2 : decide ((us.length : Int) ≤ 128) = true := by simp; omega
      go_enter Tryd.func26, Tryd.ntmps26
      go_wp2_with (go_at_call 62; go_in)
      have T0 := Two.new w (.bool false) (.slice none 0 0) 34
      generalize w.alloc (.cells #[.bool false, .slice none 0 0] 34) = wa at *
      refine (readNatural_any wa g a ca xs (ha.up hal) hx h1).mono ?_
      rintro e w1 ⟨zs, c1, l1, m1, rfl, o1, b1, p1, v1, n1, s1⟩
      have V1 := hide v1
      have N1 := nxt hal n1
      clear v1
      go_wp2_with fail
      refine (readNatural_any w1 g' b cb us (hb.up N1) hu h2).mono ?_
      rintro e w2 ⟨ms, c2, l2, m2, rfl, o2, b2, p2, v2, n2, s2⟩
      have V2 := hide v2
      clear v2
      go_wp2_with fail
      refine (mul_any w2 _ _ _ _ c1 c2 zs ms (o1.up n2).rd o2.rd b1 b2 (by omega) (by omega)).mono ?_
      rintro e w3 ⟨⟨ss, c3, l3, m3, rfl, o3, b3, p3, v3⟩, n3⟩
      have V3 := hide v3
      clear v3
      go_wp2_with fail
      refine (result_any w3 _ _ c3 ss o3.rd b3 (by omega)).mono ?_
      rintro e w4 ⟨t, rs, R, ⟨a4, c4, g4, rfl, o4, q4, r4, s4⟩, n4⟩
      rw [V3.out, V1.out, V2.out] at R
      have n14 := nxt (nxt (nxt n1 n2) n3) n4
      have t0 := T0.lt
      obtain ⟨k1, k2, k3, k4⟩ := T0.up n14
      have N4 := nxt hal n14
      have e1 := n1.size
      have e2 := n2.size
      have e3 := n3.size
      clear o1 o2 o3 n1 n2 n3 n4 n14 N1 s1 s2
      go_wp2
      obtain ⟨o5, N5⟩ := two_laid (u := .bool t) (v := .slice a4 rs.length c4) N4 o4 (by omega)
      exact bodyPost_ret (v := .agg #[.bool t, .slice a4 rs.length c4]) (by simp [results, Tryd.results26, go_sem, k1, k2]) rfl ⟨t, rs, .inl ⟨⟨h1, h2⟩, R⟩, ⟨a4, c4, g4, rfl, o5, q4, r4, by omega⟩, N5⟩
    · have t2 : decide ((us.length : Int) ≤ 128) = false := by simp; omega
      go_enter Tryd.func26, Tryd.ntmps26
      go_wp2
      exact bodyPost_ret (v := .agg #[.bool false, .slice none 0 0]) (by simp [results, Tryd.results26, go_sem]) rfl ⟨false, [], .inr ⟨by omega, rfl, rfl⟩, NewRes.none (by simp), hal⟩
  · have t1 : decide ((xs.length : Int) ≤ 128) = false := by simp; omega
    go_enter Tryd.func26, Tryd.ntmps26
    go_wp2
    exact bodyPost_ret (v := .agg #[.bool false, .slice none 0 0]) (by simp [results, Tryd.results26, go_sem]) rfl ⟨false, [], .inr ⟨by omega, rfl, rfl⟩, NewRes.none (by simp), hal⟩
end Go.Proofs.YtbhmhkimddjhaaaDoor
