import Derived.Test.YtjfggcefdobooaaGreatDoorGR4
import Derived.Test.YtjfggcefdobooaaGreatDoorGR14
import Derived.Test.YtjfggcefdobooaaGreatDoorGR22
namespace Go.Proofs.YtjfggcefdobooaaGreatDoor
set_option maxRecDepth 100000
open Go Go.RowKit
def zpad (n : Nat) : List Int := List.replicate ((16 - n % 16) % 16) 0
theorem zpad_byt (n : Nat) : Byt (zpad n) := fun i => by
  unfold zpad
  rw [List.getD_eq_getElem?_getD, List.getElem?_replicate]
  split <;> decide
theorem zpad_len (n : Nat) : (zpad n).length < 16 := by unfold zpad; rw [List.length_replicate]; omega
def len8 (n : Nat) : List Int := fill (byt (n : Int)) 8
theorem len8_len (n : Nat) : (len8 n).length = 8 := fill_len _ _
theorem len8_byt (n : Nat) : Byt (len8 n) := fun i => by
  unfold len8
  by_cases h : i < 8
  · rw [fill_get _ _ _ h]; unfold byt; exact ⟨by omega, by omega⟩
  · rw [List.getD_eq_getElem?_getD, List.getElem?_eq_none (by rw [fill_len]; omega)]; decide
def smd (extra text : List Int) : List Int := extra ++ zpad extra.length ++ text ++ zpad text.length ++ len8 extra.length ++ len8 text.length
set_option maxRecDepth 100000 in
set_option maxHeartbeats 1000000 in
theorem zerosBehind_any (w : World) (a : Option Addr) (n c : Nat) (hn : n ≤ 4194304) :
    Calls Tryz.prog 70 #[.slice a n c] w fun e w' => NewRow w.heap.size w' e .u8 (zpad n) ∧ Below w.heap.size w w' := by
  obtain ⟨i0, hi, hz0, hz1, hz2⟩ := info_parts Tryz.info5
  have t1 : (n : Int).tmod 16 = ((n % 16 : Nat) : Int) := by rw [Int.tmod_eq_emod_of_nonneg (by omega)]; omega
  by_cases h : n % 16 = 0
  · have Z : Hid (zpad n = []) := by show _ = _; unfold zpad; rw [h]; rfl
    rw [Z.out]
    rw [h] at t1
    have t2 : (n : Int) % 16 = 0 := by omega
    go_enter Tryz.func70, Tryz.ntmps70
    go_wp2
    go_ret
    exact ⟨newRow_z _ _, Below.refl _ _⟩
  · obtain ⟨m, hm⟩ : ∃ m, m = 16 - n % 16 := ⟨_, rfl⟩
    have Z : Hid (zpad n = List.replicate m 0) := by show _ = _; unfold zpad; rw [hm]; congr 1; omega
    rw [Z.out]
    have t3 : (16 : Int) - ((n % 16 : Nat) : Int) = (m : Int) := by omega
    have t2 : (n : Int) % 16 = ((n % 16 : Nat) : Int) := by omega
    have t4 : ¬ ((n % 16 : Nat) : Int) = 0 := by omega
    have m16 : m ≤ 16 := by omega
    clear hm Z
    generalize n % 16 = r at *
    go_enter Tryz.func70, Tryz.ntmps70
    go_wp2_with (at_make; refine wpList_make_full _ rfl _ _ 22 rfl w.heap.size 5 i0 (.int .u8 0) 1 Tryz.underlying22 hi hz0 hz1 .i64 .i64 _ _ m rfl rfl rfl rfl (by rw [hz2]; omega) (by unfold maxLen; omega) (Nat.le_refl _) ?_; intro w1 hown hgrow)
    have B := Blk.of_made hown
    have N : Below w.heap.size w w1 := (Below.refl _ _).grown hgrow (Nat.le_refl _) (by simp)
    go_wp2
    go_ret
    exact ⟨⟨some ⟨w.heap.size, 0, none⟩, m, w.heap.size, by rw [List.length_replicate]; rfl, B.own0, by simp, by rw [List.length_replicate]; exact Nat.le_refl _, Nat.le_refl _⟩, N⟩
set_option maxHeartbeats 1000000 in
theorem l8Zeros_any (w : World) (n : Nat) (hn : n ≤ 4194304) :
    Calls Tryz.prog 82 #[.int .i64 (n : Int)] w fun e w' => NewRow w.heap.size w' e .u8 (zpad n) ∧ Below w.heap.size w w' := by
  obtain ⟨i0, hi, hz0, hz1, hz2⟩ := info_parts Tryz.info5
  obtain ⟨m, hm⟩ : ∃ m, m = (16 - n % 16) % 16 := ⟨_, rfl⟩
  have Z : Hid (zpad n = List.replicate m 0) := by show _ = _; unfold zpad; rw [hm]
  rw [Z.out]
  have t1 : (n : Int).tmod 16 = (n : Int) % 16 := Int.tmod_eq_emod_of_nonneg (by omega)
  have t2 : ((16 : Int) - (n : Int) % 16).tmod 16 = (m : Int) := by rw [Int.tmod_eq_emod_of_nonneg (by omega)]; omega
  have t3 : ((16 : Int) - (n : Int) % 16) % 16 = (m : Int) := by omega
  have m16 : m ≤ 16 := by omega
  clear hm Z
  go_enter Tryz.func82, Tryz.ntmps82
  go_wp2_with (at_make; refine wpList_make_full _ rfl _ _ 22 rfl w.heap.size 5 i0 (.int .u8 0) 1 Tryz.underlying22 hi hz0 hz1 .i64 .i64 _ _ m rfl rfl rfl rfl (by rw [hz2]; omega) (by unfold maxLen; omega) (Nat.le_refl _) ?_; intro w1 hown hgrow)
  have B := Blk.of_made hown
  have N : Below w.heap.size w w1 := (Below.refl _ _).grown hgrow (Nat.le_refl _) (by simp)
  go_wp2
  go_ret
  exact ⟨⟨some ⟨w.heap.size, 0, none⟩, m, w.heap.size, by rw [List.length_replicate]; rfl, B.own0, by simp, by rw [List.length_replicate]; exact Nat.le_refl _, Nat.le_refl _⟩, N⟩
set_option maxHeartbeats 1000000 in
theorem lengthBytes_any (w : World) (a : Option Addr) (n c : Nat) (hn : n ≤ 4194304) :
    Calls Tryz.prog 71 #[.slice a n c] w fun e w' => NewRow w.heap.size w' e .u8 (len8 n) ∧ Below w.heap.size w w' := by
  obtain ⟨i0, hi, hz0, hz1, hz2⟩ := info_parts Tryz.info5
  go_enter Tryz.func71, Tryz.ntmps71
  go_wp2_with (at_make; refine wpList_make_full _ rfl _ _ 22 rfl w.heap.size 5 i0 (.int .u8 0) 1 Tryz.underlying22 hi hz0 hz1 .i64 .i64 _ _ 8 rfl rfl rfl rfl (by rw [hz2]; omega) (by unfold maxLen; omega) (Nat.le_refl _) ?_; intro w1 hown hgrow)
  have B := Blk.of_made hown
  have N : Below w.heap.size w w1 := (Below.refl _ _).grown hgrow (Nat.le_refl _) (by simp)
  clear hown hgrow
  go_wp2
  go_loopw [8] (fun i wr => ∃ (k : Nat) (ys : List Int), k ≤ 8 ∧ i = .int .i64 k ∧ Hid (FillTo (byt (n : Int)) ys 8 k) ∧ Blk wr w.heap.size .u8 ys ∧ Below w.heap.size w wr) (fun i _ => 8 - (intOf i).toNat)
  case atStart => exact ⟨0, _, Nat.zero_le _, rfl, ⟨by simp, fun j h => absurd h (by omega)⟩, B, N⟩
  case round =>
    obtain ⟨k, ys, hk, rfl, hF, hB, hN⟩ := hrel
    clear B N
    by_cases hlt : k < 8
    · have R := hide (hF.out.step hlt)
      have cz := hB.cell (i := k) (by rw [hF.out.1]; exact hlt)
      have fz := hB.free k
      have S := hB.store k (byt (n : Int) k)
      have Sn : Below w.heap.size w (wr.setCell ⟨w.heap.size, k, none⟩ (.int .u8 (byt (n : Int) k))) := hN.setCell (Nat.le_refl _) _
      have E : Hid (byt (n : Int) k = (n : Int) / 2 ^ (8 * k) % 256) := by show _ = _; unfold byt; rw [pow_8]
      rw [E.out] at R S Sn
      have d1 : 8 * (k : Int) = ((8 * k : Nat) : Int) := by omega
      have d2 : 8 * k ≤ 56 := by omega
      have d3 : (k : Int) < 8 := by omega
      have dv : 0 ≤ (n : Int) / 2 ^ (8 * k) ∧ (n : Int) / 2 ^ (8 * k) ≤ 4194304 := by
        have hp : (0 : Int) < 2 ^ (8 * k) := Int.pow_pos (by decide)
        exact ⟨Int.ediv_nonneg (by omega) (Int.le_of_lt hp), Int.le_trans (Int.ediv_le_self _ (by omega)) (by omega)⟩
      clear hF hB hN E
      generalize ys.getD k 0 = y at *
      generalize ys.set k ((n : Int) / 2 ^ (8 * k) % 256) = zs at *
      generalize 8 * k = sh at *
      go_wp2
      go_roundw
      case rel => exact ⟨k + 1, zs, by omega, by go_num, R, S, Sn⟩
      case measure => simp [intOf]; omega
    · obtain rfl : k = 8 := by omega
      obtain rfl := hF.out.all
      clear hF
      go_wp2
      go_ret
      exact ⟨⟨some ⟨w.heap.size, 0, none⟩, 8, w.heap.size, by rw [len8_len]; rfl, hB.own0, by simp, by rw [len8_len]; exact Nat.le_refl _, Nat.le_refl _⟩, hN⟩
set_option maxRecDepth 100000 in
set_option maxHeartbeats 2000000 in
theorem l1Int_any (w : World) (n : Nat) (hn : n ≤ 4194304) :
    Calls Tryz.prog 83 #[.int .i64 (n : Int)] w fun e w' => ∃ ys, (Byt ys ∧ bval ys = (n : Int) ∧ ys.length ≤ 1048576) ∧ NewRow w.heap.size w' e .u8 ys ∧ Below w.heap.size w w' := by
  obtain ⟨i0, hi, hz0, hz1, hz2⟩ := info_parts Tryz.info5
  have hown0 : (w.alloc (.cells #[] 5)).ownsRow w.heap.size 5 1 (.slice (some ⟨w.heap.size, 0, none⟩) 0 0) 0 [] := World.ownsRow_lit w #[] 0 (Nat.le_refl _) (by unfold maxLen; omega) (by simp)
  have hal : Below w.heap.size w (w.alloc (.cells #[] 5)) := (Below.refl _ _).alloc (Nat.le_refl _) _
  go_enter Tryz.func83, Tryz.ntmps83
  go_wp2
  go_loopw [0, 3] (fun x v wr => ∃ (t : Nat) (ys : List Int), x = .int .i64 (t : Int) ∧ Hid (Byt ys ∧ lsum (fun j => ys.getD j 0) ys.length + (t : Int) * 256 ^ ys.length = (n : Int)) ∧ Hid ((1 ≤ t → 8 * ys.length + t ≤ n + 3) ∧ (t = 0 → 8 * ys.length ≤ n + 16)) ∧ t ≤ 4194304 ∧ wr.ownsRow w.heap.size 5 1 v ys.length (ys.map (Value.int .u8)) ∧ Below w.heap.size w wr) (fun x _ _ => (intOf x).toNat)
  case atStart => exact ⟨n, [], rfl, ⟨byt_nil, by simp [lsum]⟩, ⟨fun _ => by simp, fun _ => by simp⟩, hn, hown0, hal⟩
  case round =>
    clear hown0 hal
    obtain ⟨t, ys, rfl, hV, hT, ht, hown, hN⟩ := hrel
    have hob := hown.lt
    by_cases hlt : 0 < t
    · obtain ⟨x, hx⟩ : ∃ x : Int, x = (t : Int) % 256 := ⟨_, rfl⟩
      obtain ⟨t', ht'⟩ : ∃ t' : Nat, t' = t / 256 := ⟨_, rfl⟩
      have xb : 0 ≤ x ∧ x < 256 := by omega
      have hv : Hid (Byt (ys ++ [x]) ∧ lsum (fun j => (ys ++ [x]).getD j 0) (ys ++ [x]).length + (t' : Int) * 256 ^ (ys ++ [x]).length = (n : Int)) := by
        refine ⟨byt_app1 hV.out.1 x xb.1 xb.2, ?_⟩
        have e0 : (ys ++ [x]).length = ys.length + 1 := by simp
        have e1 : lsum (fun j => (ys ++ [x]).getD j 0) ys.length = lsum (fun j => ys.getD j 0) ys.length := lsum_congr _ (fun j hj => by simp only [List.getD_eq_getElem?_getD, List.getElem?_append, if_pos hj])
        have e2 : (ys ++ [x]).getD ys.length 0 = x := by simp [List.getD_eq_getElem?_getD]
        rw [e0, lsum, e1, e2, ← hV.out.2, Int.pow_succ]
        have e3 : (t : Int) = x + 256 * (t' : Int) := by omega
        rw [e3, Int.add_mul, Int.mul_comm (256 ^ ys.length) 256, ← Int.mul_assoc, Int.mul_comm (t' : Int) 256]
        omega
      have L2 : Hid ((1 ≤ t' → 8 * (ys ++ [x]).length + t' ≤ n + 3) ∧ (t' = 0 → 8 * (ys ++ [x]).length ≤ n + 16)) := by
        have := hT.out.1 hlt
        have e0 : (ys ++ [x]).length = ys.length + 1 := by simp
        rw [e0]
        exact ⟨fun _ => by omega, fun _ => by omega⟩
      have t0 : (0 : Int) < (t : Int) := by omega
      have m1 : (t : Int).tmod 256 = x := by rw [Int.tmod_eq_emod_of_nonneg (by omega)]; omega
      have m2 : (t : Int).tdiv 256 = (t' : Int) := by rw [Int.tdiv_eq_ediv_of_nonneg (by omega)]; omega
      have m3 : (t : Int) % 256 = x := hx.symm
      have m4 : (t : Int) / 256 = (t' : Int) := by omega
      have xm : x % 256 = x := by omega
      have HM := hide (show t' < t by omega)
      have H4 := hide (show t' ≤ 4194304 by omega)
      have YL := hide (show ys.length ≤ 4194304 by have := hT.out.1 hlt; omega)
      clear hV hx ht' hT
      generalize hyl : ys.length = k at *
      have HY := hide hyl
      clear hyl
      go_wp2_with (at_builtin; refine wpList_append_own _ rfl _ _ 22 rfl w.heap.size 5 i0 (.int .u8 0) 1 1 Tryz.underlying22 hi hz0 hz1 hz2 rfl (by decide) _ k (ys.map (Value.int .u8)) rfl (hown.alloc _) ⟨wr.heap.size, 0, none⟩ 1 1 [.int .u8 x] rfl rfl ?c1 ?c2 ?c3 ?c4 ?c5 ?_)
      case c1 =>
        intro j u hj
        match j, hj with
        | 0, hj => simp at hj; subst hj; simp [Addr.add]
      case c2 => intro u hu; simp at hu; subst hu; rfl
      case c3 => unfold maxLen; have := YL.out; omega
      case c4 => have := YL.out; omega
      case c5 => simp; have := hN.size; omega
      · intro v' w2 hown2 hgrow _
        have nA : Below w.heap.size w (wr.alloc (.cells #[.int .u8 x] 5)) := hN.alloc hN.size _
        have N2 : Below w.heap.size w w2 := nA.grown hgrow (by simp; have := hN.size; omega) (fun i hi => (hob i hi).1)
        have hown3 : w2.ownsRow w.heap.size 5 1 v' (ys ++ [x]).length ((ys ++ [x]).map (Value.int .u8)) := by
          have e : (ys ++ [x]).length = k + 1 := by simp; exact HY.out
          rw [e]
          simpa using hown2
        clear hown hown2 hgrow nA hob
        go_wp2
        go_roundw
        case rel => exact ⟨t', ys ++ [x], rfl, hv, L2, H4.out, hown3, N2⟩
        case measure => have := HM.out; simp [intOf]; omega
    · obtain rfl : t = 0 := by omega
      obtain ⟨a1, c1, g1, hv, o1, p1, q1, r1⟩ := Own.of_ownsRow hown
      subst hv
      have LT := hide (l1Turn_any wr g1 a1 c1 ys o1.rd hV.out.1 (by have := hT.out.2 rfl; omega))
      have VV : Hid (lsum (fun j => ys.getD j 0) ys.length = (n : Int)) := by show _ = _; have := hV.out.2; simpa using this
      have YL := hide (show ys.length ≤ 1048576 by have := hT.out.2 rfl; omega)
      clear hown hV hob hT
      go_wp2_with fail
      refine LT.out.mono ?_
      rintro e w2 ⟨zs, T, zb, ⟨a2, c2, g2, rfl, o2, p2, q2, r2⟩, n2⟩
      have TV := hide T.val
      have TL := hide T.1
      clear T
      go_wp2
      go_ret
      exact ⟨zs, ⟨zb, by rw [TV.out, VV.out], by rw [TL.out]; exact YL.out⟩, ⟨a2, c2, g2, rfl, o2, p2, q2, Nat.le_trans hN.size r2⟩, nxt hN n2⟩
end Go.Proofs.YtjfggcefdobooaaGreatDoor
