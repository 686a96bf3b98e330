/-
  spec.NumSub.
-/
import Derived.Test.YthdjopkmlcdoeaaAddS
import Derived.Test.YthdjopkmlcdoeaaNum3
namespace Go.Proofs.Ythdjopkmlcdoeaa
open Go.RowKit

set_option maxHeartbeats 2000000 in
theorem l1Sub_any (w : World) (g g' : Nat) (a b : Option Addr) (ca cb : Nat) (xs us : List Int) (ha : Rd w g a .u8 xs) (hb : Rd w g' b .u8 us) (hx : Byt xs) (hu : Byt us)
    (hn : xs.length ≤ 4096) (hm : us.length ≤ xs.length) (hle : bval us ≤ bval xs) :
    Calls Try.prog 63 #[.slice a xs.length ca, .slice b us.length cb] w fun e w' => ∃ ys, Canon ys (bval xs - bval us) ∧ NewRow w.heap.size w' e .u8 ys ∧ Below w.heap.size w w' := by
  obtain ⟨i0, hi, hz0, hz1, hz2⟩ := info_parts Try.info5
  go_enter Try.func63, Try.ntmps63
  go_wp2_with (at_make; refine wpList_make_full _ rfl _ _ 22 rfl w.heap.size 5 i0 (.int .u8 0) 1 Try.underlying22 hi hz0 hz1 .i64 .i64 _ _ xs.length rfl rfl rfl rfl (by rw [hz2]; omega) (by unfold maxLen; omega) (Nat.le_refl _) ?_; intro w1 hown hgrow)
  have hB0 := Blk.of_made hown
  have hN0 : Below w.heap.size w w1 := (Below.refl _ _).grown hgrow (Nat.le_refl _) (by simp)
  clear hown hgrow
  go_loopw [7, 8] (fun q i wr => ∃ (k : Nat) (c : Int) (ys : List Int), k ≤ xs.length ∧ i = .int .i64 k ∧ q = .int .i64 c ∧ (0 ≤ c ∧ c ≤ 1) ∧ SubTo xs us ys k c ∧ Blk wr w.heap.size .u8 ys ∧ Below w.heap.size w wr) (fun _ i _ => xs.length - (intOf i).toNat)
  case atStart => exact ⟨0, 0, _, Nat.zero_le _, rfl, rfl, ⟨by omega, by omega⟩, ⟨by simp, byt_zeros _, ⟨by omega, by omega⟩, rfl⟩, hB0, hN0⟩
  case round =>
    obtain ⟨k, c, ys, hk, rfl, rfl, hc, hA, hB, hN⟩ := hrel
    by_cases hlt : k < xs.length
    · have R := hA.step hlt
      have hl : ys.length = xs.length := hA.1
      have hS := fun v => hB.store (xs.length - 1 - k) v
      have hSn : ∀ v, Below w.heap.size w (wr.setCell ⟨w.heap.size, xs.length - 1 - k, none⟩ v) := fun v => hN.setCell (Nat.le_refl _) v
      have hcy : wr.cell? ⟨w.heap.size, xs.length - 1 - k, none⟩ = some (.int .u8 (ys.getD (xs.length - 1 - k) 0)) := hB.cell (by omega)
      have hfy := hB.free (xs.length - 1 - k)
      have d1 := dig_byt hx k
      have d2 := dig_byt hu k
      obtain ⟨p, hp⟩ : ∃ p : Nat, xs.length - 1 - k = p := ⟨_, rfl⟩
      rw [hp] at hcy hfy R
      simp only [hp] at hS hSn
      have p1 : (xs.length : Int) - 1 - (k : Int) = (p : Int) := by omega
      have p2 : (p : Int) < (xs.length : Int) := by omega
      have ha' := ha.up hN
      have hb' := hb.up hN
      have R' := hide R
      clear hB hN hA hl hp R
      go_wp2_with fail
      refine (l1Digit_any wr g a ca xs _ ha' hx (by omega) (by omega) (by omega)).mono ?_
      rintro e w' ⟨rfl, rfl⟩
      rw [Int.toNat_natCast]
      go_wp2_with fail
      refine (l1Digit_any w' g' b cb us _ hb' hu (by omega) (by omega) (by omega)).mono ?_
      rintro e w'' ⟨rfl, rfl⟩
      rw [Int.toNat_natCast]
      generalize dig xs k = x at *
      generalize dig us k = y at *
      by_cases hv : x - y - c < 0
      · have tv : decide (x - y - c < 0) = true := by simp; omega
        have m1 : (x - y - c + 256) % 256 = x - y - c + 256 := by omega
        go_wp2
        go_roundw
        case rel => exact ⟨k + 1, _, _, by omega, by go_num, rfl, ⟨by omega, by omega⟩, R'.out (x - y - c + 256) 1 (by omega) (by omega) (by omega) ⟨by omega, by omega⟩, hS _, hSn _⟩
        case measure => simp [intOf]; omega
      · have tv : decide (x - y - c < 0) = false := by simp; omega
        have m1 : (x - y - c) % 256 = x - y - c := by omega
        go_wp2
        go_roundw
        case rel => exact ⟨k + 1, _, _, by omega, by go_num, rfl, ⟨by omega, by omega⟩, R'.out (x - y - c) 0 (by omega) (by omega) (by omega) ⟨by omega, by omega⟩, hS _, hSn _⟩
        case measure => simp [intOf]; omega
    · obtain rfl : k = xs.length := by omega
      have V := hide (hA.done hm hle)
      have L := hide hA.1
      have hyb := hA.2.1
      clear hA
      go_wp2_with fail
      rw [← L.out]
      refine (l1Trim_any wr _ _ _ ys hB.own0.rd hyb (by simp) (Nat.le_refl _) (by rw [L.out]; omega)).mono ?_
      rintro e w2 ⟨zs, C, _, ⟨a1, c1, g1, rfl, o1, q1, q2, q3⟩, n2⟩
      rw [V.out] at C
      go_wp2
      go_ret
      exact ⟨zs, C, ⟨_, _, _, rfl, o1, q1, q2, by have := hN.size; omega⟩, nxt hN n2⟩

set_option maxHeartbeats 2000000 in
theorem specNumSub_any (w : World) (g g' : Nat) (a b : Option Addr) (ca cb : Nat) (xs us : List Int) (ha : Rd w g a .u8 xs) (hb : Rd w g' b .u8 us) (hx : Byt xs) (hu : Byt us)
    (ha0 : a = none → ca = 0) (hac : xs.length ≤ ca) (hb0 : b = none → cb = 0) (hbc : us.length ≤ cb) :
    Calls Try.prog 36 #[.slice a xs.length ca, .slice b us.length cb] w fun e w' => ∃ t zs, NumOf (xs.length ≤ 128 ∧ us.length ≤ 128 ∧ bval us ≤ bval xs) (bval xs - bval us) t zs ∧ NewRes w.heap.size w' e t zs ∧ Below w.heap.size w w' := by
  have hal : Below w.heap.size w (w.alloc (.cells #[.bool false, .slice none 0 0] 31)) := (Below.refl _ _).alloc (Nat.le_refl _) _
  by_cases h1 : xs.length ≤ 128
  · have t1 : decide ((xs.length : Int) ≤ 128) = true := by simp; omega
    by_cases h2 : us.length ≤ 128
    · have t2 : decide ((us.length : Int) ≤ 128) = true := by simp; omega
      go_enter Try.func36, Try.ntmps36
      go_wp2_with (go_at_call 46; go_in)
      have T0 := Two.new w (.bool false) (.slice none 0 0) 31
      generalize w.alloc (.cells #[.bool false, .slice none 0 0] 31) = wa at *
      refine (l1Cmp_any wa g g' a b ca cb xs us (ha.up hal) (hb.up hal) hx hu (by omega) (by omega)).mono ?_
      rintro e wa' ⟨rfl, rfl⟩
      by_cases hle : bval us ≤ bval xs
      · have t3 : decide (sg (bval xs) (bval us) < 0) = false := by unfold sg; simp; split <;> (try split) <;> omega
        generalize sg (bval xs) (bval us) = s at *
        go_wp2_with fail
        refine (l1Trim_any wa' g a ca xs (ha.up hal) hx ha0 hac (by omega)).mono ?_
        rintro e w1 ⟨cs, C1, hl1, ⟨a1, c1, g1, rfl, o1, q1, q2, q3⟩, n1⟩
        have N1 := nxt hal n1
        go_wp2_with fail
        refine (l1Trim_any w1 g' b cb us (hb.up N1) hu hb0 hbc (by omega)).mono ?_
        rintro e w2 ⟨ds, C2, hl2, ⟨a2, c2, g2, rfl, o2, r1, r2, r3⟩, n2⟩
        have hlen : ds.length ≤ cs.length := by
          by_cases h : cs.length < ds.length
          · have := canon_lt C1.1 C2 h
            have := C1.2.1
            have := C2.2.1
            omega
          · omega
        go_wp2_with fail
        refine (l1Sub_any w2 _ _ _ _ c1 c2 cs ds (o1.up n2).rd o2.rd C1.1 C2.1 (by omega) hlen (by rw [C1.2.1, C2.2.1]; exact hle)).mono ?_
        rintro e w3 ⟨ys, C, ⟨a3, c3, g3, rfl, o3, s1, s2, s3⟩, n3⟩
        rw [C1.2.1, C2.2.1] at C
        have t0 := T0.lt
        have e1 := n1.size
        have e2 := n2.size
        have e3 := n3.size
        clear o1 o2 C1 C2
        go_wp2_with fail
        refine (l1Answer_any w3 a3 c3 g3 (w.heap.size + 1) ys _ C o3 s1 s2 (by omega) (by omega)).mono ?_
        rintro e w4 ⟨t, zs, R, ⟨a4, c4, g4, rfl, o4, p1, p2, p3⟩, n4⟩
        have n14 := nxt (nxt (nxt n1 n2) n3) n4
        obtain ⟨k1, k2, k3, k4⟩ := T0.up n14
        have N4 := nxt hal n14
        clear o3 n1 n2 n3 n4 n14 N1 C
        go_wp2
        obtain ⟨o5, N5⟩ := two_laid (u := .bool t) (v := .slice a4 zs.length c4) N4 o4 (by omega)
        exact bodyPost_ret (v := .agg #[.bool t, .slice a4 zs.length c4]) (by simp [results, Try.results36, go_sem, k1, k2]) rfl ⟨t, zs, .inl ⟨⟨h1, h2, hle⟩, R⟩, ⟨a4, c4, g4, rfl, o5, p1, p2, by omega⟩, N5⟩
      · have t3 : decide (sg (bval xs) (bval us) < 0) = true := by rw [sg_lt (by omega)]; decide
        generalize sg (bval xs) (bval us) = s at *
        obtain ⟨k1, k2, k3, k4⟩ := T0
        go_wp2
        obtain ⟨o5, N5⟩ := two_laid (g := w.heap.size + 1) (u := .bool false) (v := .slice none 0 0) hal (Own.nil _ _ none _) (by omega)
        exact bodyPost_ret (v := .agg #[.bool false, .slice none 0 0]) (by simp [results, Try.results36, go_sem, k1, k2]) rfl ⟨false, [], .inr ⟨by omega, rfl, rfl⟩, NewRes.none N5.size, N5⟩
    · have t2 : decide ((us.length : Int) ≤ 128) = false := by simp; omega
      go_enter Try.func36, Try.ntmps36
      go_wp2
      exact bodyPost_ret (v := .agg #[.bool false, .slice none 0 0]) (by simp [results, Try.results36, go_sem]) rfl ⟨false, [], .inr ⟨by omega, rfl, rfl⟩, NewRes.none (by simp), hal⟩
  · have t1 : decide ((xs.length : Int) ≤ 128) = false := by simp; omega
    go_enter Try.func36, Try.ntmps36
    go_wp2
    exact bodyPost_ret (v := .agg #[.bool false, .slice none 0 0]) (by simp [results, Try.results36, go_sem]) rfl ⟨false, [], .inr ⟨by omega, rfl, rfl⟩, NewRes.none (by simp), hal⟩
end Go.Proofs.Ythdjopkmlcdoeaa
