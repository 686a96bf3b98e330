import Derived.Test.YtbhmhkimddjhaaaDoorGA31
import Derived.Test.YtbhmhkimddjhaaaDoorGA6
import Derived.Test.YtbhmhkimddjhaaaDoorGA28
import Derived.Test.YtbhmhkimddjhaaaDoorGA2
import Derived.Test.YtbhmhkimddjhaaaDoorGA4
import Derived.Test.YtbhmhkimddjhaaaDoorGA27
/-
  spec.NumSub.
-/
namespace Go.Proofs.YtbhmhkimddjhaaaDoor
set_option maxRecDepth 100000
open Go.RowKit

set_option maxHeartbeats 2000000 in
theorem l1Sub_any1 (w : World) (g g' : Nat) (a b : Option Addr) (ca cb : Nat) (xs us : List Int) (ha : Rd w g a .u8 xs) (hb : Rd w g' b .u8 us) (hx : Byt xs) (hu : Byt us)
    (hn : xs.length ≤ 4096) (hm : us.length ≤ xs.length) (hle : bval us ≤ bval xs) :
    Calls Tryd.prog 97 #[.slice a xs.length ca, .slice b us.length cb] w fun e w' => ∃ ys, Canon ys (bval xs - bval us) ∧ NewRow w.heap.size w' e .u8 ys ∧ Below w.heap.size w w' := by
  obtain ⟨i0, hi, hz0, hz1, hz2⟩ := info_parts Tryd.info5
  go_enter Tryd.func97, Tryd.ntmps97
  go_wp2_with (at_make; refine wpList_make_full _ rfl _ _ 22 rfl w.heap.size 5 i0 (.int .u8 0) 1 Tryd.underlying22 hi hz0 hz1 .i64 .i64 _ _ xs.length rfl rfl rfl rfl (by rw [hz2]; omega) (by unfold maxLen; omega) (Nat.le_refl _) ?_; intro w1 hown hgrow)
  have hB0 := Blk.of_made hown
  have hN0 : Below w.heap.size w w1 := (Below.refl _ _).grown hgrow (Nat.le_refl _) (by simp)
  clear hown hgrow
  go_loopw [7, 8] (fun q i wr => ∃ (k : Nat) (c : Int) (ys : List Int), k ≤ xs.length ∧ i = .int .i64 k ∧ q = .int .i64 c ∧ (0 ≤ c ∧ c ≤ 1) ∧ SubTo xs us ys k c ∧ Blk wr w.heap.size .u8 ys ∧ Below w.heap.size w wr) (fun _ i _ => xs.length - (intOf i).toNat)
  case atStart => exact ⟨0, 0, _, Nat.zero_le _, rfl, rfl, ⟨by omega, by omega⟩, ⟨by simp, byt_zeros _, ⟨by omega, by omega⟩, rfl⟩, hB0, hN0⟩
  case round =>
    obtain ⟨k, c, ys, hk, rfl, rfl, hc, hA, hB, hN⟩ := hrel
    by_cases hlt : k < xs.length
    · have R := hA.step hlt
      have hl : ys.length = xs.length := hA.1
      have hS := fun v => hB.store (xs.length - 1 - k) v
      have hSn : ∀ v, Below w.heap.size w (wr.setCell ⟨w.heap.size, xs.length - 1 - k, none⟩ v) := fun v => hN.setCell (Nat.le_refl _) v
      have hcy : wr.cell? ⟨w.heap.size, xs.length - 1 - k, none⟩ = some (.int .u8 (ys.getD (xs.length - 1 - k) 0)) := hB.cell (by omega)
      have hfy := hB.free (xs.length - 1 - k)
      have d1 := dig_byt hx k
      have d2 := dig_byt hu k
      obtain ⟨p, hp⟩ : ∃ p : Nat, xs.length - 1 - k = p := ⟨_, rfl⟩
      rw [hp] at hcy hfy R
      simp only [hp] at hS hSn
      have p1 : (xs.length : Int) - 1 - (k : Int) = (p : Int) := by omega
      have p2 : (p : Int) < (xs.length : Int) := by omega
      have ha' := ha.up hN
      have hb' := hb.up hN
      have R' := hide R
      clear hB hN hA hl hp R
      go_wp2_with fail
      refine (l1Digit_any wr g a ca xs _ ha' hx (by omega) (by omega) (by omega)).mono ?_
      rintro e w' ⟨rfl, rfl⟩
      rw [Int.toNat_natCast]
      go_wp2_with fail
      refine (l1Digit_any w' g' b cb us _ hb' hu (by omega) (by omega) (by omega)).mono ?_
      rintro e w'' ⟨rfl, rfl⟩
      rw [Int.toNat_natCast]
      generalize dig xs k = x at *
      generalize dig us k = y at *
      by_cases hv : x - y - c < 0
      · have tv : decide (x - y - c < 0) = true := by simp; omega
        have m1 : (x - y - c + 256) % 256 = x - y - c + 256 := by omega
        go_wp2
        go_roundw
        case rel => exact ⟨k + 1, _, _, by omega, by go_num, rfl, ⟨by omega, by omega⟩, R'.out (x - y - c + 256) 1 (by omega) (by omega) (by omega) ⟨by omega, by omega⟩, hS _, hSn _⟩
        case measure => simp [intOf]; omega
      · have tv : decide (x - y - c < 0) = false := by simp; omega
        have m1 : (x - y - c) % 256 = x - y - c := by omega
        go_wp2
        go_roundw
        case rel => exact ⟨k + 1, _, _, by omega, by go_num, rfl, ⟨by omega, by omega⟩, R'.out (x - y - c) 0 (by omega) (by omega) (by omega) ⟨by omega, by omega⟩, hS _, hSn _⟩
        case measure => simp [intOf]; omega
    · obtain rfl : k = xs.length := by omega
      have V := hide (hA.done hm hle)
      have L := hide hA.1
      have hyb := hA.2.1
      clear hA
      go_wp2_with fail
      rw [← L.out]
      refine (l1Trim_any1 wr _ _ _ ys hB.own0.rd hyb (by simp) (Nat.le_refl _) (by rw [L.out]; omega)).mono ?_
      rintro e w2 ⟨zs, C, _, ⟨a1, c1, g1, rfl, o1, q1, q2, q3⟩, n2⟩
      rw [V.out] at C
      go_wp2
      go_ret
      exact ⟨zs, C, ⟨_, _, _, rfl, o1, q1, q2, by have := hN.size; omega⟩, nxt hN n2⟩

end Go.Proofs.YtbhmhkimddjhaaaDoor
/-
  impl.NumAdd.
-/
namespace Go.Proofs.YtbhmhkimddjhaaaDoor
set_option maxRecDepth 100000
open Go.RowKit

set_option maxHeartbeats 2000000 in
theorem result_any (w : World) (g : Nat) (a : Option Addr) (cap : Nat) (zs : List Int) (hr : Rd w g a .u32 zs) (hz : Lmb zs) (hn : zs.length ≤ 4096) :
    Calls Tryd.prog 65 #[.slice a zs.length cap] w fun e w' => ∃ t ys, ResOf (lval zs) t ys ∧ NewRes w.heap.size w' e t ys ∧ Below w.heap.size w w' := by
  have hal : Below w.heap.size w (w.alloc (.cells #[.bool false, .slice none 0 0] 34)) := (Below.refl _ _).alloc (Nat.le_refl _) _
  go_enter Tryd.func65, Tryd.ntmps65
  go_wp2_with fail
  refine (bytes_any1 _ g a cap zs (hr.up hal) hz hn).mono ?_
  rintro e w1 ⟨ys, C, ⟨a1, c1, g1, rfl, o1, q1, q2, q3⟩, n1⟩
  have q3' : w.heap.size + 1 ≤ g1 := by simpa using q3
  obtain ⟨k1, k2, k3, k4, k5⟩ := two_kept n1
  have N1 := nxt hal n1
  by_cases h : ys.length ≤ 128
  · have t1 : decide ((ys.length : Int) ≤ 128) = true := by simp; omega
    clear q3 n1
    go_wp2
    obtain ⟨o3, N3⟩ := two_laid (u := .bool true) (v := .slice a1 ys.length c1) N1 o1 (by omega)
    exact bodyPost_ret (v := .agg #[.bool true, .slice a1 ys.length c1]) (by simp [results, Tryd.results65, go_sem, k1, k2]) rfl ⟨true, ys, ⟨ys, C, .inl ⟨h, rfl, rfl⟩⟩, ⟨a1, c1, g1, rfl, o3, q1, q2, by omega⟩, N3⟩
  · have t1 : decide ((ys.length : Int) ≤ 128) = false := by simp; omega
    clear q3 n1
    go_wp2
    obtain ⟨o3, N3⟩ := two_laid (u := .bool false) (v := .slice none 0 0) N1 o1 (by omega)
    exact bodyPost_ret (v := .agg #[.bool false, .slice none 0 0]) (by simp [results, Tryd.results65, go_sem, k1, k2]) rfl ⟨false, [], ⟨ys, C, .inr ⟨by omega, rfl, rfl⟩⟩, NewRes.none N3.size, N3⟩

set_option maxHeartbeats 2000000 in
theorem implNumAdd_any (w : World) (g g' : Nat) (a b : Option Addr) (ca cb : Nat) (xs us : List Int) (ha : Rd w g a .u8 xs) (hb : Rd w g' b .u8 us) (hx : Byt xs) (hu : Byt us) :
    Calls Tryd.prog 28 #[.slice a xs.length ca, .slice b us.length cb] w fun e w' => ∃ t zs, NumOf (xs.length ≤ 128 ∧ us.length ≤ 128) (bval xs + bval us) t zs ∧ NewRes w.heap.size w' e t zs ∧ Below w.heap.size w w' := by
  have hal : Below w.heap.size w (w.alloc (.cells #[.bool false, .slice none 0 0] 34)) := (Below.refl _ _).alloc (Nat.le_refl _) _
  by_cases h1 : xs.length ≤ 128
  · have t1 : decide ((xs.length : Int) ≤ 128) = true := by simp; omega
    by_cases h2 : us.length ≤ 128
    · have t2 : decide ((us.length : Int) ≤ 128) = true := by simp; omega
      go_enter Tryd.func28, Tryd.ntmps28
      go_wp2_with (go_at_call 62; go_in)
      have T0 := Two.new w (.bool false) (.slice none 0 0) 34
      generalize w.alloc (.cells #[.bool false, .slice none 0 0] 34) = wa at *
      refine (readNatural_any wa g a ca xs (ha.up hal) hx h1).mono ?_
      rintro e w1 ⟨zs, c1, l1, m1, rfl, o1, b1, p1, v1, n1, s1⟩
      have V1 := hide v1
      have N1 := nxt hal n1
      clear v1
      go_wp2_with fail
      refine (readNatural_any w1 g' b cb us (hb.up N1) hu h2).mono ?_
      rintro e w2 ⟨ms, c2, l2, m2, rfl, o2, b2, p2, v2, n2, s2⟩
      have V2 := hide v2
      clear v2
      go_wp2_with fail
      refine (add_any1 w2 _ _ _ _ c1 c2 zs ms (o1.up n2).rd o2.rd b1 b2 (by omega) (by omega)).mono ?_
      rintro e w3 ⟨⟨ss, c3, l3, m3, rfl, o3, b3, p3, v3⟩, n3⟩
      have V3 := hide v3
      clear v3
      go_wp2_with fail
      refine (result_any w3 _ _ c3 ss o3.rd b3 (by omega)).mono ?_
      rintro e w4 ⟨t, rs, R, ⟨a4, c4, g4, rfl, o4, q4, r4, s4⟩, n4⟩
      rw [V3.out, V1.out, V2.out] at R
      have n14 := nxt (nxt (nxt n1 n2) n3) n4
      have t0 := T0.lt
      obtain ⟨k1, k2, k3, k4⟩ := T0.up n14
      have N4 := nxt hal n14
      have e1 := n1.size
      have e2 := n2.size
      have e3 := n3.size
      clear o1 o2 o3 n1 n2 n3 n4 n14 N1 s1 s2
      go_wp2
      obtain ⟨o5, N5⟩ := two_laid (u := .bool t) (v := .slice a4 rs.length c4) N4 o4 (by omega)
      exact bodyPost_ret (v := .agg #[.bool t, .slice a4 rs.length c4]) (by simp [results, Tryd.results28, go_sem, k1, k2]) rfl ⟨t, rs, .inl ⟨⟨h1, h2⟩, R⟩, ⟨a4, c4, g4, rfl, o5, q4, r4, by omega⟩, N5⟩
    · have t2 : decide ((us.length : Int) ≤ 128) = false := by simp; omega
      go_enter Tryd.func28, Tryd.ntmps28
      go_wp2
      exact bodyPost_ret (v := .agg #[.bool false, .slice none 0 0]) (by simp [results, Tryd.results28, go_sem]) rfl ⟨false, [], .inr ⟨by omega, rfl, rfl⟩, NewRes.none (by simp), hal⟩
  · have t1 : decide ((xs.length : Int) ≤ 128) = false := by simp; omega
    go_enter Tryd.func28, Tryd.ntmps28
    go_wp2
    exact bodyPost_ret (v := .agg #[.bool false, .slice none 0 0]) (by simp [results, Tryd.results28, go_sem]) rfl ⟨false, [], .inr ⟨by omega, rfl, rfl⟩, NewRes.none (by simp), hal⟩
end Go.Proofs.YtbhmhkimddjhaaaDoor
/-
  Comparison: limbs against limbs, and the law of NumCompare.
-/
namespace Go.Proofs.YtbhmhkimddjhaaaDoor
set_option maxRecDepth 100000
open Go.RowKit

set_option maxHeartbeats 400000 in
theorem cmpInt_any (x y : Int) (w : World) :
    Calls Tryd.prog 126 #[.int .i64 x, .int .i64 y] w fun e w' => e = .returned (.int .i64 (sg x y)) ∧ w' = w := by
  rcases Int.lt_trichotomy x y with h | h | h
  · rw [sg_lt h]
    have h1 : decide (x < y) = true := by simp [h]
    go_enter Tryd.func126, Tryd.ntmps126
    go_wp2
    go_ret
    exact ⟨rfl, rfl⟩
  · subst h
    rw [sg_eq rfl]
    go_enter Tryd.func126, Tryd.ntmps126
    go_wp2
    go_ret
    exact ⟨rfl, rfl⟩
  · rw [sg_gt h]
    have h1 : decide (x < y) = false := by simp; omega
    have h2 : decide (y < x) = true := by simp [h]
    go_enter Tryd.func126, Tryd.ntmps126
    go_wp2
    go_ret
    exact ⟨rfl, rfl⟩

set_option maxHeartbeats 400000 in
theorem cmpU32_any (x y : Int) (w : World) :
    Calls Tryd.prog 127 #[.int .u32 x, .int .u32 y] w fun e w' => e = .returned (.int .i64 (sg x y)) ∧ w' = w := by
  rcases Int.lt_trichotomy x y with h | h | h
  · rw [sg_lt h]
    have h1 : decide (x < y) = true := by simp [h]
    go_enter Tryd.func127, Tryd.ntmps127
    go_wp2
    go_ret
    exact ⟨rfl, rfl⟩
  · subst h
    rw [sg_eq rfl]
    go_enter Tryd.func127, Tryd.ntmps127
    go_wp2
    go_ret
    exact ⟨rfl, rfl⟩
  · rw [sg_gt h]
    have h1 : decide (x < y) = false := by simp; omega
    have h2 : decide (y < x) = true := by simp [h]
    go_enter Tryd.func127, Tryd.ntmps127
    go_wp2
    go_ret
    exact ⟨rfl, rfl⟩

/-- Above place k the two are one. -/
def LhEq (a b : List Int) (k : Nat) : Prop := lhi a k = lhi b k

set_option maxHeartbeats 1000000 in
theorem compare_any (w : World) (g g' : Nat) (a b : Option Addr) (ca cb : Nat) (xs ys : List Int) (ha : Rd w g a .u32 xs) (hb : Rd w g' b .u32 ys) (hx : Lmb xs) (hy : Lmb ys) (tx : Top xs) (ty : Top ys)
    (hn : xs.length ≤ 4096) (hm : ys.length ≤ 4096) :
    Calls Tryd.prog 102 #[.slice a xs.length ca, .slice b ys.length cb] w fun e w' => e = .returned (.int .i64 (sg (lval xs) (lval ys))) ∧ Below w.heap.size w w' := by
  by_cases hlen : xs.length = ys.length
  · have h1 : ((xs.length : Int) != (ys.length : Int)) = false := by simp [hlen]
    have hL : Hid (xs.length = ys.length) := hlen
    clear hlen
    go_enter Tryd.func102, Tryd.ntmps102
    go_wp2
    go_loopw [5] (fun i wr => ∃ (t : Int) (n : Nat), i = .int .i64 t ∧ -1 ≤ t ∧ t < (xs.length : Int) ∧ LhEq xs ys (t + 1).toNat ∧ wr = w.drewN n) (fun i _ => (intOf i + 1).toNat)
    case atStart =>
      refine ⟨_, 0, rfl, by omega, by omega, ?_, rfl⟩
      unfold LhEq
      rw [lhi_past _ _ (by omega), lhi_past _ _ (by have := hL.out; omega)]
    case round =>
      obtain ⟨t, n, rfl, ht0, ht1, he, rfl⟩ := hrel
      by_cases ht : 0 ≤ t
      · obtain ⟨j, rfl⟩ := Int.eq_ofNat_of_zero_le ht
        have he' : LhEq xs ys (j + 1) := he
        have hj1 : j < xs.length := by omega
        have hj2 : j < ys.length := by have := hL.out; omega
        have hj3 : (j : Int) < (ys.length : Int) := by omega
        clear he ht0
        have s1 := lhi_step xs j
        have s2 := lhi_step ys j
        obtain ⟨off, rfl, hc⟩ := ha (by omega)
        obtain ⟨off', rfl, hc'⟩ := hb (by omega)
        have c1 := hc j hj1
        have c2 := hc' j hj2
        have R1 : xs.getD j 0 < ys.getD j 0 → sg (lval xs) (lval ys) = sg (xs.getD j 0) (ys.getD j 0) := fun h => by rw [sg_lt h]; exact sg_lt (lhi_lt hx hy j (by unfold LhEq at he'; omega))
        have R2 : ys.getD j 0 < xs.getD j 0 → sg (lval xs) (lval ys) = sg (xs.getD j 0) (ys.getD j 0) := fun h => by rw [sg_gt h]; exact sg_gt (lhi_lt hy hx j (by unfold LhEq at he'; omega))
        have R3 : xs.getD j 0 = ys.getD j 0 → LhEq xs ys j := fun h => by unfold LhEq at he' ⊢; omega
        clear s1 s2 he' hc hc'
        generalize xs.getD j 0 = x at *
        generalize ys.getD j 0 = y at *
        by_cases hxy : x = y
        · have R := R3 hxy
          subst hxy
          clear R1 R2 R3
          go_wp2
          go_quiet (fail)
          go_wp2
          go_roundw
          case rel => exact ⟨_, _, rfl, by omega, by omega, by simpa using R, rfl⟩
          case measure => simp [intOf]
        · have R : Hid (sg (lval xs) (lval ys) = sg x y) := by
            rcases Int.lt_or_gt_of_ne hxy with h | h
            · exact R1 h
            · exact R2 h
          have hne : (x != y) = true := by simp [hxy]
          clear R1 R2 R3 hxy
          go_wp2
          go_quiet (fail)
          go_wp2
          go_quiet ((go_at_call 127; refine (cmpU32_any _ _ _).mono ?_; rintro e w' ⟨rfl, rfl⟩; exact ⟨rfl, _, rfl⟩))
          go_wp2
          go_ret
          exact ⟨ret_int R.out.symm, below_drewN (below_drewN (below_drewN (Below.refl _ _) _) _) _⟩
      · obtain rfl : t = -1 := by omega
        have R : Hid (sg (lval xs) (lval ys) = 0) := sg_eq (by simpa [LhEq, lhi_zero] using he)
        go_wp2
        go_ret
        exact ⟨ret_int R.out.symm, below_drewN (Below.refl _ _) _⟩
  · have h1 : ((xs.length : Int) != (ys.length : Int)) = true := by simp; omega
    have R : Hid (sg (lval xs) (lval ys) = sg (xs.length : Int) (ys.length : Int)) := by
      rcases Nat.lt_or_gt_of_ne hlen with h | h
      · show _ = _
        rw [sg_lt (lval_lt_of_len hx hy ty h), sg_lt (by omega)]
      · show _ = _
        rw [sg_gt (lval_lt_of_len hy hx tx h), sg_gt (by omega)]
    clear hlen
    go_enter Tryd.func102, Tryd.ntmps102
    go_wp2_with fail
    refine (cmpInt_any _ _ _).mono ?_
    rintro e w' ⟨rfl, rfl⟩
    go_wp2
    go_ret
    exact ⟨ret_int R.out.symm, Below.refl _ _⟩

/-- What both answer. -/
def cmpN (xs ys : List Int) : Int := if xs.length ≤ 128 ∧ ys.length ≤ 128 then sg (bval xs) (bval ys) else 2

end Go.Proofs.YtbhmhkimddjhaaaDoor
