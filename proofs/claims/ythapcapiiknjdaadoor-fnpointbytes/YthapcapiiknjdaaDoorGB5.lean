import Derived.Test.YthapcapiiknjdaaDoorGB3
import Derived.Test.YthapcapiiknjdaaDoorGB4
import Derived.Test.YthapcapiiknjdaaDoorGB1
import Derived.WalkSpells
import Derived.Deep.QuietTactic
import Derived.BigQuiet
import Derived.Deep.WholeRow
import Derived.Laws.Bits64b

/-
  The model's small functions of chapter 2: turning, the prime, a number of bytes, telling.
-/
namespace Go.Proofs.YthapcapiiknjdaaDoor
set_option maxRecDepth 100000
open Go.RowKit

theorem byt_app1 {ys : List Int} (h : Byt ys) (x : Int) (h0 : 0 ≤ x) (h1 : x < 256) : Byt (ys ++ [x]) := by
  intro i
  rcases Nat.lt_trichotomy i ys.length with e | e | e
  · have := h i
    simpa [List.getElem?_append, e] using this
  · subst e
    simp [h0, h1]
  · rw [List.getD_eq_getElem?_getD, List.getElem?_eq_none (by simp; omega)]
    decide
/-- What has been turned so far. -/
def TurnTo (xs ys : List Int) (k : Nat) : Prop := ys.length = k ∧ ∀ i, i < k → ys.getD i 0 = xs.getD (xs.length - 1 - i) 0
theorem TurnTo.step {xs ys : List Int} {k : Nat} (h : TurnTo xs ys k) : TurnTo xs (ys ++ [xs.getD (xs.length - 1 - k) 0]) (k + 1) := by
  refine ⟨by simp [h.1], fun i hi => ?_⟩
  by_cases e : i < k
  · rw [← h.2 i e]
    simp [List.getElem?_append, h.1, e]
  · obtain rfl : i = k := by omega
    simp [h.1]
theorem lo_lsum {ys : List Int} {a : Nat → Int} : ∀ n, (∀ i, i < n → dig ys i = a i) → lo ys n = lsum a n
  | 0, _ => rfl
  | n + 1, h => by rw [lo, lsum, lo_lsum n (fun i hi => h i (by omega)), h n (by omega)]
theorem TurnTo.val {xs ys : List Int} (h : TurnTo xs ys xs.length) : bval ys = lsum (fun j => xs.getD j 0) xs.length := by
  rw [← lo_all ys xs.length (by rw [h.1]; exact Nat.le_refl _)]
  refine lo_lsum _ (fun i hi => ?_)
  unfold dig
  rw [if_pos (by rw [h.1]; exact hi), h.2 _ (by rw [h.1]; omega), h.1]
  congr 1
  omega
theorem hi_div {xs : List Int} (hb : Byt xs) : ∀ i, hi xs i = bval xs / 256 ^ i
  | 0 => by rw [hi_zero]; simp
  | i + 1 => by
    have h := hi_step xs i
    have hd := dig_byt hb i
    rw [Int.pow_succ, ← Int.ediv_ediv_of_nonneg (Int.le_of_lt (p256_pos i)), ← hi_div hb i]
    omega
theorem dig_of {xs : List Int} (hb : Byt xs) (i : Nat) : dig xs i = byt (bval xs) i := by
  have h := hi_step xs i
  have hd := dig_byt hb i
  unfold byt
  rw [← hi_div hb i]
  omega
theorem fill_congr {f g : Nat → Int} {n : Nat} (h : ∀ i, i < n → f i = g i) : fill f n = fill g n :=
  eq_of_getD (by rw [fill_len, fill_len]) (fun i hi => by rw [fill_len] at hi; rw [fill_get f n i hi, fill_get g n i hi, h i hi])

set_option maxHeartbeats 2000000 in
theorem l1Turn_any (w : World) (g : Nat) (a : Option Addr) (c : Nat) (xs : List Int) (hr : Rd w g a .u8 xs) (hb : Byt xs) (hl : xs.length ≤ 1048576) :
    Calls Tryd.prog 93 #[.slice a xs.length c] w fun e w' => ∃ ys, TurnTo xs ys xs.length ∧ Byt ys ∧ NewRow w.heap.size w' e .u8 ys ∧ Below w.heap.size w w' := by
  obtain ⟨i0, hi, hz0, hz1, hz2⟩ := info_parts Tryd.info5
  have hown0 : (w.alloc (.cells #[] 5)).ownsRow w.heap.size 5 1 (.slice (some ⟨w.heap.size, 0, none⟩) 0 0) 0 [] := World.ownsRow_lit w #[] 0 (Nat.le_refl _) (by unfold maxLen; omega) (by simp)
  have hal : Below w.heap.size w (w.alloc (.cells #[] 5)) := (Below.refl _ _).alloc (Nat.le_refl _) _
  go_enter Tryd.func93, Tryd.ntmps93
  go_wp2
  go_loopw [3, 4] (fun v i wr => ∃ (k : Nat) (t : Int) (ys : List Int), i = .int .i64 t ∧ t + (k : Int) + 1 = (xs.length : Int) ∧ -1 ≤ t ∧ TurnTo xs ys k ∧ Byt ys ∧ wr.ownsRow w.heap.size 5 1 v k (ys.map (Value.int .u8)) ∧ Below w.heap.size w wr) (fun _ i _ => (intOf i + 1).toNat)
  case atStart => exact ⟨0, (xs.length : Int) - 1, [], rfl, by omega, by omega, ⟨rfl, fun i h => absurd h (by omega)⟩, byt_nil, hown0, hal⟩
  case round =>
    obtain ⟨k, t, ys, rfl, ht, ht0, hT, hyb, hown, hN⟩ := hrel
    have hob := hown.lt
    by_cases hlt : 0 ≤ t
    · obtain ⟨j, rfl⟩ := Int.eq_ofNat_of_zero_le hlt
      obtain ⟨off, rfl, hc⟩ := (hr.up hN) (by omega)
      have cx := hc j (by omega)
      have xb := hb j
      have hT' := hT.step
      rw [show xs.length - 1 - k = j by omega] at hT'
      generalize xs.getD j 0 = x at *
      have j1 : (j : Int) < (xs.length : Int) := by omega
      have HT := hide ht
      clear hc ht
      go_wp2_with (at_builtin; refine wpList_append_own _ rfl _ _ 22 rfl w.heap.size 5 i0 (.int .u8 0) 1 1 Tryd.underlying22 hi hz0 hz1 hz2 rfl (by decide) _ k (ys.map (Value.int .u8)) rfl (hown.alloc _) ⟨wr.heap.size, 0, none⟩ 1 1 [.int .u8 x] rfl rfl ?c1 ?c2 ?c3 ?c4 ?c5 ?_)
      case c1 =>
        intro j u hj
        match j, hj with
        | 0, hj => simp at hj; subst hj; simp [Addr.add]
      case c2 => intro u hu; simp at hu; subst hu; rfl
      case c3 => unfold maxLen; have := HT.out; omega
      case c4 => have := HT.out; omega
      case c5 => simp; have := hN.size; omega
      · intro v' w2 hown2 hgrow _
        have nA : Below w.heap.size w (wr.alloc (.cells #[.int .u8 x] 5)) := hN.alloc hN.size _
        have N2 : Below w.heap.size w w2 := nA.grown hgrow (by simp; have := hN.size; omega) (fun i hi => (hob i hi).1)
        have hown3 : w2.ownsRow w.heap.size 5 1 v' (k + 1) ((ys ++ [x]).map (Value.int .u8)) := by simpa using hown2
        have hb3 := byt_app1 hyb x xb.1 (by omega)
        clear hown hown2 hgrow nA hob
        go_wp2
        go_roundw
        case rel => exact ⟨k + 1, (j : Int) - 1, ys ++ [x], rfl, by have := HT.out; omega, by omega, hT', hb3, hown3, N2⟩
        case measure => simp [intOf]
    · obtain rfl : t = -1 := by omega
      obtain rfl : k = xs.length := by omega
      have hown' := hown
      rw [← hT.1] at hown'
      obtain ⟨a', c', g', hv, o1, o2, o3, o4⟩ := Own.of_ownsRow hown'
      subst hv
      have L := hide hT
      clear hown hown' ht hT
      go_wp2
      go_ret
      exact ⟨ys, L.out, hyb, ⟨_, _, g', rfl, o1, o2, o3, o4⟩, hN⟩

set_option maxHeartbeats 1000000 in
theorem l2Num_any (w : World) (g : Nat) (a : Option Addr) (c : Nat) (xs : List Int) (hr : Rd w g a .u8 xs) (hb : Byt xs) (hl : xs.length ≤ 1048576) :
    Calls Tryd.prog 94 #[.slice a xs.length c] w fun e w' => ∃ ys, Canon ys (lsum (fun j => xs.getD j 0) xs.length) ∧ ys.length ≤ xs.length ∧ NewRow w.heap.size w' e .u8 ys ∧ Below w.heap.size w w' := by
  go_enter Tryd.func94, Tryd.ntmps94
  go_wp2_with fail
  refine (l1Turn_any w g a c xs hr hb hl).mono ?_
  rintro e w1 ⟨ys, T, yb, ⟨a1, c1, g1, rfl, o1, p1, p2, p3⟩, n1⟩
  have V := hide T.val
  have L := hide T.1
  clear T
  go_wp2_with fail
  refine (l1Trim_any w1 g1 a1 c1 ys o1.rd yb p1 p2 (by have := L.out; omega)).mono ?_
  rintro e w2 ⟨zs, C, l2, ⟨a2, c2, g2, rfl, o2, q1, q2, q3⟩, n2⟩
  go_wp2
  go_ret
  exact ⟨zs, by rw [← V.out]; exact C, by have := L.out; omega, ⟨_, _, g2, rfl, o2, q1, q2, Nat.le_trans n1.size q3⟩, nxt n1 n2⟩

/-- The bytes of the prime, the highest first. -/
def pbytes : List Int := [127, 255, 255, 255, 255, 255, 255, 255, 255, 255, 255, 255, 255, 255, 255, 255, 255, 255, 255, 255, 255, 255, 255, 255, 255, 255, 255, 255, 255, 255, 255, 237]
theorem pbytes_val : bval pbytes = PP := by decide +kernel
theorem pbytes_len : pbytes.length = 32 := rfl
theorem pbytes_byt : Byt pbytes := by
  intro i
  by_cases h : i < 32
  · have : ∀ i, i < 32 → 0 ≤ pbytes.getD i 0 ∧ pbytes.getD i 0 < 256 := by decide
    exact this i h
  · rw [List.getD_eq_getElem?_getD, List.getElem?_eq_none (by rw [pbytes_len]; omega)]
    simp
theorem pbytes_made : ((fill (fun _ => 255) 32).set 0 127).set 31 237 = pbytes := by decide

set_option maxHeartbeats 1000000 in
theorem l2Prime_any (w : World) :
    Calls Tryd.prog 89 #[] w fun e w' => e = .returned (.slice (some ⟨w.heap.size, 0, none⟩) pbytes.length 32) ∧ Blk w' w.heap.size .u8 pbytes ∧ Below w.heap.size w w' := by
  obtain ⟨i0, hi, hz0, hz1, hz2⟩ := info_parts Tryd.info5
  go_enter Tryd.func89, Tryd.ntmps89
  go_wp2_with (at_make; refine wpList_make_full _ rfl _ _ 22 rfl w.heap.size 5 i0 (.int .u8 0) 1 Tryd.underlying22 hi hz0 hz1 .i64 .i64 _ _ 32 rfl rfl rfl rfl (by rw [hz2]; omega) (by unfold maxLen; omega) (Nat.le_refl _) ?_; intro w1 hown hgrow)
  have hB0 := Blk.of_made hown
  have hN0 : Below w.heap.size w w1 := (Below.refl _ _).grown hgrow (Nat.le_refl _) (by simp)
  clear hown hgrow
  go_loopw [2] (fun i wr => ∃ (k : Nat) (ys : List Int), k ≤ 32 ∧ i = .int .i64 k ∧ FillTo (fun _ => 255) ys 32 k ∧ Blk wr w.heap.size .u8 ys ∧ Below w.heap.size w wr) (fun i _ => 32 - (intOf i).toNat)
  case atStart => exact ⟨0, _, by omega, rfl, ⟨by simp, fun j hj => absurd hj (by omega)⟩, hB0, hN0⟩
  case round =>
    clear hB0 hN0
    obtain ⟨k, ys, hk, rfl, hF, hB, hN⟩ := hrel
    by_cases hlt : k < 32
    · have hst := hF.step hlt
      have hcy := hB.cell (i := k) (by rw [hF.1]; exact hlt)
      have hfy := hB.free k
      have k2 : (k : Int) < 32 := by omega
      have S := hB.store k 255
      have Sn : Below w.heap.size w (wr.setCell ⟨w.heap.size, k, none⟩ (.int .u8 255)) := hN.setCell (Nat.le_refl _) _
      clear hB hN hF
      go_wp2
      go_roundw
      case rel => exact ⟨k + 1, _, by omega, by go_num, hst, S, Sn⟩
      case measure => simp [intOf]; omega
    · obtain rfl : k = 32 := by omega
      have hy := hF.all
      subst hy
      have c0 : wr.cell? ⟨w.heap.size, 0, none⟩ = some (.int .u8 255) := hB.cell (i := 0) (by rw [fill_len]; omega)
      have f0 := hB.free 0
      have S := hB.store 0 127
      have c1 : wr.cell? ⟨w.heap.size, 31, none⟩ = some (.int .u8 255) := hB.cell (i := 31) (by rw [fill_len]; omega)
      have f1 := hB.free 31
      have S2 := S.store 31 237
      rw [pbytes_made] at S2
      have Sn : Below w.heap.size w ((wr.setCell ⟨w.heap.size, 0, none⟩ (.int .u8 127)).setCell ⟨w.heap.size, 31, none⟩ (.int .u8 237)) := (hN.setCell (Nat.le_refl _) _).setCell (Nat.le_refl _) _
      clear hB hN hF S
      go_wp2
      go_ret
      exact ⟨rfl, S2, Sn⟩

end Go.Proofs.YthapcapiiknjdaaDoor

/-
  The program's settle: five limbs brought to the one form of an element.
-/
namespace Go.Proofs.YthapcapiiknjdaaDoor
set_option maxRecDepth 100000
open Go.RowKit

/-- Five limbs as the value of an array. -/
def ag5 (u : Nat → Int) : Value := .agg #[.int .u64 (u 0), .int .u64 (u 1), .int .u64 (u 2), .int .u64 (u 3), .int .u64 (u 4)]
theorem wraps_u64 (n : Int) (h₀ : 0 ≤ n) (h₁ : n < 2 ^ 64) : IntKind.u64.wrap n = n := by
  simp [IntKind.wrap, IntKind.bits, IntKind.signed]
  omega
theorem mask51 (x : Int) (h0 : 0 ≤ x) (h1 : x < 18446744073709551616) : bits BinOp.and IntKind.u64 x 2251799813685247 = x % 2251799813685248 :=
  bits_mask .u64 64 (by decide) wraps_u64 51 (by decide) x h0 h1

/-- The first k limbs are f's, the others u's. -/
def Upd (f u : Nat → Int) (ys : List Int) (k : Nat) : Prop := ys.length = 5 ∧ (∀ j, j < k → ys.getD j 0 = f j) ∧ ∀ j, k ≤ j → j < 5 → ys.getD j 0 = u j
theorem Upd.step {f u : Nat → Int} {ys : List Int} {k : Nat} (h : Upd f u ys k) (hk : k < 5) : Upd f u (ys.set k (f k)) (k + 1) := by
  refine ⟨by simpa using h.1, fun j hj => ?_, fun j hj hj5 => ?_⟩
  · by_cases e : k = j
    · subst e
      rw [getD_set_self _ _ _ (by rw [h.1]; exact hk)]
    · rw [getD_set_ne _ _ _ _ e]
      exact h.2.1 j (by omega)
  · rw [getD_set_ne _ _ _ _ (by omega)]
    exact h.2.2 j (by omega) hj5
theorem Upd.all {f u : Nat → Int} {ys : List Int} (h : Upd f u ys 5) : ys = [f 0, f 1, f 2, f 3, f 4] := by
  refine eq_of_getD (by rw [h.1]; rfl) (fun i hi => ?_)
  rw [h.1] at hi
  rw [h.2.1 i hi]
  obtain rfl | rfl | rfl | rfl | rfl : i = 0 ∨ i = 1 ∨ i = 2 ∨ i = 3 ∨ i = 4 := by omega
  all_goals rfl
theorem Upd.zero (f u : Nat → Int) : Upd f u [u 0, u 1, u 2, u 3, u 4] 0 := by
  refine ⟨rfl, fun j hj => absurd hj (by omega), fun i _ hi => ?_⟩
  obtain rfl | rfl | rfl | rfl | rfl : i = 0 ∨ i = 1 ∨ i = 2 ∨ i = 3 ∨ i = 4 := by omega
  all_goals rfl
theorem blk_box (w : World) (k : IntKind) (t : TypeId) (a b c d e : Int) : Blk (w.alloc (.cells #[.int k a, .int k b, .int k c, .int k d, .int k e] t)) w.heap.size k [a, b, c, d, e] :=
  ⟨t, by rw [heap_alloc_last]; rfl⟩

set_option maxHeartbeats 4000000 in
set_option maxRecDepth 100000 in
theorem settle_any (w : World) (u : Nat → Int) (hu : ∀ j, 0 ≤ u j ∧ u j < 9223372036854775808) :
    Calls Tryd.prog 125 #[ag5 u] w fun e w' => e = .returned (ag5 (stl u)) ∧ Below w.heap.size w w' := by
  unfold ag5
  go_enter Tryd.func125, Tryd.ntmps125
  go_wp2
  have B0 : Blk ((w.alloc (.cells #[.int .u64 (u 0), .int .u64 (u 1), .int .u64 (u 2), .int .u64 (u 3), .int .u64 (u 4)] 130)).alloc (.cells #[.int .u64 0, .int .u64 0, .int .u64 0, .int .u64 0, .int .u64 0] 56)) w.heap.size .u64 [u 0, u 1, u 2, u 3, u 4] :=
    (blk_box w .u64 130 (u 0) (u 1) (u 2) (u 3) (u 4)).up ((Below.refl _ _).alloc (Nat.le_refl _) _)
  have B1 : Blk ((w.alloc (.cells #[.int .u64 (u 0), .int .u64 (u 1), .int .u64 (u 2), .int .u64 (u 3), .int .u64 (u 4)] 130)).alloc (.cells #[.int .u64 0, .int .u64 0, .int .u64 0, .int .u64 0, .int .u64 0] 56)) (w.heap.size + 1) .u64 [0, 0, 0, 0, 0] := by
    have := blk_box (w.alloc (.cells #[.int .u64 (u 0), .int .u64 (u 1), .int .u64 (u 2), .int .u64 (u 3), .int .u64 (u 4)] 130)) .u64 56 0 0 0 0 0
    simpa using this
  have N0 : Below w.heap.size w ((w.alloc (.cells #[.int .u64 (u 0), .int .u64 (u 1), .int .u64 (u 2), .int .u64 (u 3), .int .u64 (u 4)] 130)).alloc (.cells #[.int .u64 0, .int .u64 0, .int .u64 0, .int .u64 0, .int .u64 0] 56)) :=
    ((Below.refl _ _).alloc (Nat.le_refl _) _).alloc (by simp) _
  have s0 : ((w.alloc (.cells #[.int .u64 (u 0), .int .u64 (u 1), .int .u64 (u 2), .int .u64 (u 3), .int .u64 (u 4)] 130)).alloc (.cells #[.int .u64 0, .int .u64 0, .int .u64 0, .int .u64 0, .int .u64 0] 56)).heap.size = w.heap.size + 2 := by simp
  generalize ((w.alloc (.cells #[.int .u64 (u 0), .int .u64 (u 1), .int .u64 (u 2), .int .u64 (u 3), .int .u64 (u 4)] 130)).alloc (.cells #[.int .u64 0, .int .u64 0, .int .u64 0, .int .u64 0, .int .u64 0] 56)) = wa at *
  have c0 : ∀ k, 0 ≤ cr 0 u k ∧ cr 0 u k ≤ 4097 := fun k => cr_bd (M := 4097) (by omega) (by omega) (by omega) (fun j => by have := hu j; omega) k
  go_loopw [3, 10] (fun q i wr => ∃ (k : Nat) (ys : List Int), k ≤ 5 ∧ i = .int .i64 k ∧ q = .int .u64 (cr 0 u k) ∧ Upd (lf 0 u) u ys k ∧ Blk wr w.heap.size .u64 ys ∧ Blk wr (w.heap.size + 1) .u64 [0, 0, 0, 0, 0] ∧ wr.heap.size = w.heap.size + 2 ∧ Below w.heap.size w wr) (fun _ i _ => 5 - (intOf i).toNat)
  case atStart => exact ⟨0, _, by omega, rfl, rfl, Upd.zero _ u, B0, B1, s0, N0⟩
  case round =>
    clear B0 B1 N0 s0
    obtain ⟨k, ys, hk, rfl, rfl, hU, hB, hB1, hs, hN⟩ := hrel
    by_cases hlt : k < 5
    · have R := hU.step hlt
      have hcy := hB.cell (i := k) (by rw [hU.1]; exact hlt)
      rw [hU.2.2 k (Nat.le_refl _) hlt] at hcy
      have hfy := hB.free k
      have ub := hu k
      have cb := c0 k
      have e1 := mask51 (cr 0 u k + u k) (by omega) (by omega)
      have S := hB.store k (lf 0 u k)
      have S1 := hB1.of_block (w' := wr.setCell ⟨w.heap.size, k, none⟩ (.int .u64 (lf 0 u k))) (heap_setCell_other wr ⟨w.heap.size, k, none⟩ (w.heap.size + 1) _ (by show w.heap.size + 1 ≠ w.heap.size; omega))
      have Sn : Below w.heap.size w (wr.setCell ⟨w.heap.size, k, none⟩ (.int .u64 (lf 0 u k))) := hN.setCell (Nat.le_refl _) _
      have hs' : (wr.setCell ⟨w.heap.size, k, none⟩ (.int .u64 (lf 0 u k))).heap.size = w.heap.size + 2 := by simp [World.setCell, hs]
      have E : Hid (lf 0 u k = (cr 0 u k + u k) % 2251799813685248) := by show _ = _; rfl
      have F : Hid (cr 0 u (k + 1) = (cr 0 u k + u k) / 2251799813685248) := by show _ = _; rfl
      rw [E.out] at R S S1 Sn hs'
      clear hU hB hB1 hN c0 hu E hs
      generalize u k = z at *
      generalize cr 0 u k = c at *
      go_wp2
      go_roundw
      case rel => exact ⟨k + 1, _, by omega, by go_num, by rw [F.out], R, S, S1, hs', Sn⟩
      case measure => simp [intOf]; omega
    · obtain rfl : k = 5 := by omega
      have hy := hU.all
      subst hy
      have b0 := lf_bd 0 u 0
      have cb := c0 5
      have q0 : wr.cell? ⟨w.heap.size, 0, none⟩ = some (.int .u64 (lf 0 u 0)) := hB.cell (i := 0) (by simp)
      have f0 := hB.free 0
      have S := hB.store 0 (lf 0 u 0 + 19 * cr 0 u 5)
      have S1 := hB1.of_block (w' := wr.setCell ⟨w.heap.size, 0, none⟩ (.int .u64 (lf 0 u 0 + 19 * cr 0 u 5))) (heap_setCell_other wr ⟨w.heap.size, 0, none⟩ (w.heap.size + 1) _ (by show w.heap.size + 1 ≠ w.heap.size; omega))
      have Sn : Below w.heap.size w (wr.setCell ⟨w.heap.size, 0, none⟩ (.int .u64 (lf 0 u 0 + 19 * cr 0 u 5))) := hN.setCell (Nat.le_refl _) _
      have hs' : (wr.setCell ⟨w.heap.size, 0, none⟩ (.int .u64 (lf 0 u 0 + 19 * cr 0 u 5))).heap.size = w.heap.size + 2 := by simp [World.setCell, hs]
      have S' : Blk (wr.setCell ⟨w.heap.size, 0, none⟩ (.int .u64 (lf 0 u 0 + 19 * cr 0 u 5))) w.heap.size .u64 [st1 u 0, st1 u 1, st1 u 2, st1 u 3, st1 u 4] := S
      have v0 : ∀ j, 0 ≤ st1 u j ∧ st1 u j ≤ 2251799813763091 := fun j => by
        have := lf_bd 0 u j
        unfold st1
        split <;> omega
      clear hU hB hB1 hN hs S c0
      generalize lf 0 u 0 = l0 at *
      generalize cr 0 u 5 = ov at *
      go_wp2
      generalize wr.setCell ⟨w.heap.size, 0, none⟩ (.int .u64 (l0 + 19 * ov)) = wb at *
      clear q0 f0 b0 cb
      have c1 : ∀ k, 0 ≤ cr 19 (st1 u) k ∧ cr 19 (st1 u) k ≤ 19 := fun k => cr_bd (M := 19) (by omega) (by omega) (by omega) (fun j => by have := v0 j; omega) k
      go_loop [5, 31] (fun q i => ∃ (k : Nat), k ≤ 5 ∧ i = .int .i64 k ∧ q = .int .u64 (cr 19 (st1 u) k)) (fun _ i => 5 - (intOf i).toNat)
      case atStart => exact ⟨0, by omega, rfl, rfl⟩
      case round =>
        obtain ⟨k, hk, rfl, rfl⟩ := hrel
        by_cases hlt : k < 5
        · have hcy := S'.cell (i := k) hlt
          have hgk : [st1 u 0, st1 u 1, st1 u 2, st1 u 3, st1 u 4].getD k 0 = st1 u k := (Upd.zero (st1 u) (st1 u)).2.2 k (by omega) hlt
          rw [hgk] at hcy
          have ub := v0 k
          have cb := c1 k
          have F : Hid (cr 19 (st1 u) (k + 1) = (cr 19 (st1 u) k + st1 u k) / 2251799813685248) := by show _ = _; rfl
          clear hgk S' S1 Sn hs' v0 c1 hu
          generalize st1 u k = z at *
          generalize cr 19 (st1 u) k = c at *
          go_wp2
          go_round
          case rel => exact ⟨k + 1, by omega, by go_num, by rw [F.out]⟩
          case measure => simp [intOf]; omega
        · obtain rfl : k = 5 := by omega
          have cb := c1 5
          have hE : Hid (stl u = lf (19 * cr 19 (st1 u) 5) (st1 u)) := by show _ = _; rfl
          generalize cr 19 (st1 u) 5 = r at *
          clear c1
          go_wp2
          have T0 : Blk (wb.alloc (.cells #[.int .u64 0, .int .u64 0, .int .u64 0, .int .u64 0, .int .u64 0] 56)) (w.heap.size + 2) .u64 [0, 0, 0, 0, 0] := hs' ▸ blk_box wb .u64 56 0 0 0 0 0
          have n1 : Below wb.heap.size wb (wb.alloc (.cells #[.int .u64 0, .int .u64 0, .int .u64 0, .int .u64 0, .int .u64 0] 56)) := (Below.refl _ _).alloc (Nat.le_refl _) _
          have A0 := S'.up n1
          have A1 := S1.up n1
          have An := Sn.trans (n1.mono Sn.size)
          generalize wb.alloc (.cells #[.int .u64 0, .int .u64 0, .int .u64 0, .int .u64 0, .int .u64 0] 56) = wc at *
          clear S' S1 Sn hs' n1
          have c2 : ∀ k, 0 ≤ cr (19 * r) (st1 u) k ∧ cr (19 * r) (st1 u) k ≤ 361 := fun k => cr_bd (M := 361) (by omega) (by omega) (by omega) (fun j => by have := v0 j; omega) k
          go_loopw [8, 43] (fun q i wr => ∃ (k : Nat) (ys : List Int), k ≤ 5 ∧ i = .int .i64 k ∧ q = .int .u64 (cr (19 * r) (st1 u) k) ∧ Upd (lf (19 * r) (st1 u)) (fun _ => 0) ys k ∧ Blk wr w.heap.size .u64 [st1 u 0, st1 u 1, st1 u 2, st1 u 3, st1 u 4] ∧ Blk wr (w.heap.size + 1) .u64 [0, 0, 0, 0, 0] ∧ Blk wr (w.heap.size + 2) .u64 ys ∧ Below w.heap.size w wr) (fun _ i _ => 5 - (intOf i).toNat)
          case atStart => exact ⟨0, _, by omega, rfl, rfl, Upd.zero _ (fun _ => 0), A0, A1, T0, An⟩
          case round =>
            clear A0 A1 T0 An
            obtain ⟨k, ys, hk, rfl, rfl, hU, hB, hB1, hB2, hN⟩ := hrel
            by_cases hlt : k < 5
            · have R := hU.step hlt
              have hcz := hB2.cell (i := k) (by rw [hU.1]; exact hlt)
              have hfz := hB2.free k
              have hcy := hB.cell (i := k) hlt
              have hgk : [st1 u 0, st1 u 1, st1 u 2, st1 u 3, st1 u 4].getD k 0 = st1 u k := (Upd.zero (st1 u) (st1 u)).2.2 k (by omega) hlt
              rw [hgk] at hcy
              have ub := v0 k
              have cb := c2 k
              have e1 := mask51 (cr (19 * r) (st1 u) k + st1 u k) (by omega) (by omega)
              have S := hB2.store k (lf (19 * r) (st1 u) k)
              have S0 := hB.of_block (w' := wr.setCell ⟨w.heap.size + 2, k, none⟩ (.int .u64 (lf (19 * r) (st1 u) k))) (heap_setCell_other wr ⟨w.heap.size + 2, k, none⟩ w.heap.size _ (by show w.heap.size ≠ w.heap.size + 2; omega))
              have S1 := hB1.of_block (w' := wr.setCell ⟨w.heap.size + 2, k, none⟩ (.int .u64 (lf (19 * r) (st1 u) k))) (heap_setCell_other wr ⟨w.heap.size + 2, k, none⟩ (w.heap.size + 1) _ (by show w.heap.size + 1 ≠ w.heap.size + 2; omega))
              have Sn : Below w.heap.size w (wr.setCell ⟨w.heap.size + 2, k, none⟩ (.int .u64 (lf (19 * r) (st1 u) k))) := hN.setCell (by show w.heap.size ≤ w.heap.size + 2; omega) _
              have E : Hid (lf (19 * r) (st1 u) k = (cr (19 * r) (st1 u) k + st1 u k) % 2251799813685248) := by show _ = _; rfl
              have F : Hid (cr (19 * r) (st1 u) (k + 1) = (cr (19 * r) (st1 u) k + st1 u k) / 2251799813685248) := by show _ = _; rfl
              have S0' := hide S0
              rw [E.out] at R S S0 S1 Sn
              have S0' := hide S0
              clear hU hB hB1 hB2 hN c2 v0 hu E hgk S0
              generalize st1 u k = z at *
              generalize cr (19 * r) (st1 u) k = c at *
              go_wp2
              go_roundw
              case rel => exact ⟨k + 1, _, by omega, by go_num, by rw [F.out], R, S0'.out, S1, S, Sn⟩
              case measure => simp [intOf]; omega
            · obtain rfl : k = 5 := by omega
              have hy := hU.all
              subst hy
              obtain ⟨f, hf⟩ : ∃ f, f = lf (19 * r) (st1 u) := ⟨_, rfl⟩
              have hE' : Hid (stl u = f) := by show _ = _; rw [hf]; exact hE.out
              rw [← hf] at hB2
              clear hE hf
              have q0 : wr.cell? ⟨w.heap.size + 2, 0, none⟩ = some (.int .u64 (f 0)) := hB2.cell (i := 0) (by simp)
              have q1 : wr.cell? ⟨w.heap.size + 2, 1, none⟩ = some (.int .u64 (f 1)) := hB2.cell (i := 1) (by simp)
              have q2 : wr.cell? ⟨w.heap.size + 2, 2, none⟩ = some (.int .u64 (f 2)) := hB2.cell (i := 2) (by simp)
              have q3 : wr.cell? ⟨w.heap.size + 2, 3, none⟩ = some (.int .u64 (f 3)) := hB2.cell (i := 3) (by simp)
              have q4 : wr.cell? ⟨w.heap.size + 2, 4, none⟩ = some (.int .u64 (f 4)) := hB2.cell (i := 4) (by simp)
              have p0 : wr.cell? ⟨w.heap.size + 1, 0, none⟩ = some (.int .u64 0) := hB1.cell (i := 0) (by simp)
              have p1 : wr.cell? ⟨w.heap.size + 1, 1, none⟩ = some (.int .u64 0) := hB1.cell (i := 1) (by simp)
              have p2 : wr.cell? ⟨w.heap.size + 1, 2, none⟩ = some (.int .u64 0) := hB1.cell (i := 2) (by simp)
              have p3 : wr.cell? ⟨w.heap.size + 1, 3, none⟩ = some (.int .u64 0) := hB1.cell (i := 3) (by simp)
              have p4 : wr.cell? ⟨w.heap.size + 1, 4, none⟩ = some (.int .u64 0) := hB1.cell (i := 4) (by simp)
              have g0 := hB1.free 0
              have g1 := hB1.free 1
              have g2 := hB1.free 2
              have g3 := hB1.free 3
              have g4 := hB1.free 4
              clear hU hB hB1 hB2 c2 v0 hu
              go_wp2
              refine bodyPost_ret (v := .agg #[.int .u64 (f 0), .int .u64 (f 1), .int .u64 (f 2), .int .u64 (f 3), .int .u64 (f 4)]) (by simp [results, Tryd.results125, go_sem, p0, p1, p2, p3, p4]) rfl ⟨by rw [hE'.out], ?_⟩
              have hsz : w.heap.size ≤ w.heap.size + 1 := by omega
              exact ((((hN.setCell hsz _).setCell hsz _).setCell hsz _).setCell hsz _).setCell hsz _
end Go.Proofs.YthapcapiiknjdaaDoor

/-
  The program's words and limbs of thirty-two bytes: readWords, readElement, words, wordsBytes.
-/
namespace Go.Proofs.YthapcapiiknjdaaDoor
set_option maxRecDepth 100000
open Go.RowKit

/-- Four words as the value of an array. -/
def ag4 (u : Nat → Int) : Value := .agg #[.int .u64 (u 0), .int .u64 (u 1), .int .u64 (u 2), .int .u64 (u 3)]
theorem or_mul (a b i m : Nat) (hm : m = 2 ^ i) (h : a < m) : a ||| (b * m) = b * m + a := by
  subst hm
  rw [Nat.or_comm, ← Nat.shiftLeft_eq, Nat.shiftLeft_add_eq_or_of_lt h]
theorem or64 (z x : Int) (i m : Nat) (hm : m = 2 ^ i) (z0 : 0 ≤ z) (z1 : z < (m : Int)) (x0 : 0 ≤ x) (x1 : x * (m : Int) < 18446744073709551616) (m1 : m ≤ 18446744073709551616) :
    bits BinOp.or IntKind.u64 z (x * (m : Int)) = z + x * (m : Int) := by
  obtain ⟨a, rfl⟩ := Int.eq_ofNat_of_zero_le z0
  obtain ⟨b, rfl⟩ := Int.eq_ofNat_of_zero_le x0
  have e : (b : Int) * (m : Int) = ((b * m : Nat) : Int) := by simp
  rw [e] at x1 ⊢
  rw [bits_or_u64_nat a (b * m) (by omega) (by omega), or_mul a b i m hm (by omega)]
  omega
/-- The same where the shifted one may lose its upper bits. -/
theorem or64w (z y : Int) (i m : Nat) (hm : m = 2 ^ i) (hi : i ≤ 64) (z0 : 0 ≤ z) (z1 : z < (m : Int)) :
    bits BinOp.or IntKind.u64 z (y * (m : Int) % 18446744073709551616) = z + y * (m : Int) % 18446744073709551616 := by
  have hd : m * 2 ^ (64 - i) = 18446744073709551616 := by rw [hm, ← Nat.pow_add, show i + (64 - i) = 64 by omega]
  have h1 : (18446744073709551616 : Int) = (m : Int) * ((2 ^ (64 - i) : Nat) : Int) := by
    rw [← Int.natCast_mul, hd]; rfl
  have h2 : y * (m : Int) % 18446744073709551616 = y % ((2 ^ (64 - i) : Nat) : Int) * (m : Int) := by
    rw [h1, Int.mul_comm y, Int.mul_emod_mul_of_pos _ _ (by omega), Int.mul_comm]
  have h3 := Int.emod_lt_of_pos (y * (m : Int)) (show (0 : Int) < 18446744073709551616 by decide)
  have hp : (0 : Int) < ((2 ^ (64 - i) : Nat) : Int) := by have := Nat.two_pow_pos (64 - i); omega
  rw [h2] at h3 ⊢
  exact or64 z _ i m hm z0 z1 (Int.emod_nonneg _ (by omega)) h3 (by have := Nat.two_pow_pos (64 - i); have := Nat.le_mul_of_pos_right m this; omega)

/-- Four cells that hold f. -/
def At4 (f : Nat → Int) (ys : List Int) : Prop := ys.length = 4 ∧ ∀ j, j < 4 → ys.getD j 0 = f j
theorem At4.all {f : Nat → Int} {ys : List Int} (h : At4 f ys) : ys = [f 0, f 1, f 2, f 3] := by
  refine eq_of_getD (by rw [h.1]; rfl) (fun i hi => ?_)
  rw [h.1] at hi
  rw [h.2 i hi]
  obtain rfl | rfl | rfl | rfl : i = 0 ∨ i = 1 ∨ i = 2 ∨ i = 3 := by omega
  all_goals rfl
theorem At4.wv {a : Nat → Int} {k : Nat} {ys : List Int} (h : At4 (wv a k) ys) (v : Int) (hv : v = Go.Proofs.YthapcapiiknjdaaDoor.wv a k (k / 8) + a k * 256 ^ (k % 8)) : At4 (Go.Proofs.YthapcapiiknjdaaDoor.wv a (k + 1)) (ys.set (k / 8) v) := by
  refine ⟨by simpa using h.1, fun j hj => ?_⟩
  rw [Go.Proofs.YthapcapiiknjdaaDoor.wv]
  by_cases e : k / 8 = j
  · subst e
    rw [getD_set_self _ _ _ (by rw [h.1]; exact hj), if_pos rfl, hv]
  · rw [getD_set_ne _ _ _ _ e, if_neg e, h.2 j hj]; omega
theorem At4.zero (a : Nat → Int) : At4 (Go.Proofs.YthapcapiiknjdaaDoor.wv a 0) [0, 0, 0, 0] := by
  refine ⟨rfl, fun j hj => ?_⟩
  obtain rfl | rfl | rfl | rfl : j = 0 ∨ j = 1 ∨ j = 2 ∨ j = 3 := by omega
  all_goals rfl
theorem blk_box4 (w : World) (k : IntKind) (t : TypeId) (a b c d : Int) : Blk (w.alloc (.cells #[.int k a, .int k b, .int k c, .int k d] t)) w.heap.size k [a, b, c, d] :=
  ⟨t, by rw [heap_alloc_last]; rfl⟩

set_option maxHeartbeats 4000000 in
set_option maxRecDepth 100000 in
theorem readWords_any (w : World) (g : Nat) (a : Option Addr) (cap : Nat) (xs : List Int) (hr : Rd w g a .u8 xs) (hb : Byt xs) (hl : xs.length = 32) :
    Calls Tryd.prog 113 #[.slice a 32 cap] w fun e w' => e = .returned (ag4 (wv (fun j => xs.getD j 0) 32)) ∧ Below w.heap.size w w' := by
  obtain ⟨off, rfl, hc⟩ := hr (by omega)
  have hg := hr.lt (by omega)
  have hA : Bt (fun j => xs.getD j 0) := hb
  go_enter Tryd.func113, Tryd.ntmps113
  go_wp2
  have B0 := (blk_box4 w .u64 68 0 0 0 0).up ((Below.refl _ _).alloc (Nat.le_refl _) (.cells #[.int .u64 0, .int .u64 0, .int .u64 0, .int .u64 0] 68))
  have B1 : Blk ((w.alloc (.cells #[.int .u64 0, .int .u64 0, .int .u64 0, .int .u64 0] 68)).alloc (.cells #[.int .u64 0, .int .u64 0, .int .u64 0, .int .u64 0] 68)) (w.heap.size + 1) .u64 [0, 0, 0, 0] := by
    have := blk_box4 (w.alloc (.cells #[.int .u64 0, .int .u64 0, .int .u64 0, .int .u64 0] 68)) .u64 68 0 0 0 0
    simpa using this
  have N0 : Below w.heap.size w ((w.alloc (.cells #[.int .u64 0, .int .u64 0, .int .u64 0, .int .u64 0] 68)).alloc (.cells #[.int .u64 0, .int .u64 0, .int .u64 0, .int .u64 0] 68)) :=
    ((Below.refl _ _).alloc (Nat.le_refl _) _).alloc (by simp) _
  generalize ((w.alloc (.cells #[.int .u64 0, .int .u64 0, .int .u64 0, .int .u64 0] 68)).alloc (.cells #[.int .u64 0, .int .u64 0, .int .u64 0, .int .u64 0] 68)) = wa at *
  go_loopw [5] (fun i wr => ∃ (k : Nat) (ys : List Int), k ≤ 32 ∧ i = .int .i64 k ∧ At4 (wv (fun j => xs.getD j 0) k) ys ∧ Blk wr w.heap.size .u64 [0, 0, 0, 0] ∧ Blk wr (w.heap.size + 1) .u64 ys ∧ Below w.heap.size w wr) (fun i _ => 32 - (intOf i).toNat)
  case atStart => exact ⟨0, _, by omega, rfl, At4.zero _, B0, B1, N0⟩
  case round =>
    clear B0 B1 N0
    obtain ⟨k, ys, hk, rfl, hcp, hB0, hB, hN⟩ := hrel
    by_cases hlt : k < 32
    · have hsm := wv_cur hA k
      have hst : ∀ v, v = wv (fun j => xs.getD j 0) k (k / 8) + xs.getD k 0 * 256 ^ (k % 8) → At4 (wv (fun j => xs.getD j 0) (k + 1)) (ys.set (k / 8) v) := fun v hv => hcp.wv v hv
      obtain ⟨q, hq⟩ : ∃ q : Nat, k / 8 = q := ⟨_, rfl⟩
      rw [hq] at hsm hst
      have hq4 : q < 4 := by omega
      have hz := (wv_lt hA k q)
      have hcx : wr.cell? ⟨g, off + k, none⟩ = some (.int .u8 (xs.getD k 0)) := (hN.cell (p := ⟨g, off + k, none⟩) hg).trans (hc k (by omega))
      have hcy : wr.cell? ⟨w.heap.size + 1, q, none⟩ = some (.int .u64 (wv (fun j => xs.getD j 0) k q)) := by rw [hB.cell (by rw [hcp.1]; exact hq4), hcp.2 q hq4]
      have hfy := hB.free q
      have hd := hb k
      have q1 : (k : Int) / 8 = (q : Int) := by omega
      have q2 : (q : Int) < 4 := by omega
      have k2 : (k : Int) < 32 := by omega
      have hSt := fun v => hB.store q v
      have hS0 := fun v => hB0.of_block (w' := wr.setCell ⟨w.heap.size + 1, q, none⟩ (.int .u64 v)) (heap_setCell_other wr ⟨w.heap.size + 1, q, none⟩ w.heap.size _ (by show w.heap.size ≠ w.heap.size + 1; omega))
      have hSn : ∀ v, Below w.heap.size w (wr.setCell ⟨w.heap.size + 1, q, none⟩ v) := fun v => hN.setCell (by show w.heap.size ≤ w.heap.size + 1; omega) v
      generalize xs.getD k 0 = x at *
      generalize wv (fun j => xs.getD j 0) k q = z at *
      clear hc hcp hB0 hB hN hb hr hA hg
      rcases (show k % 8 = 0 ∨ k % 8 = 1 ∨ k % 8 = 2 ∨ k % 8 = 3 ∨ k % 8 = 4 ∨ k % 8 = 5 ∨ k % 8 = 6 ∨ k % 8 = 7 by omega) with h4 | h4 | h4 | h4 | h4 | h4 | h4 | h4
      · have r1 : (k : Int) % 8 = 0 := by omega
        rw [h4] at hsm hst
        have e := or64 z x 0 1 (by decide) hz.1 (by simpa using hsm) hd.1 (by omega) (by decide)
        simp only [Int.natCast_one, Int.mul_one] at e
        have e' : bits BinOp.or IntKind.u64 z x = z + x := e
        have R := hst (bits BinOp.or IntKind.u64 z x) (by rw [e']; simp)
        have S := hSt (bits BinOp.or IntKind.u64 z x)
        have S0 := hS0 (bits BinOp.or IntKind.u64 z x)
        clear hst hSt hS0 e hsm e'
        go_wp2
        go_region
        go_wp2
        go_roundw
        case rel => exact ⟨k + 1, _, by omega, by go_num, R, S0.drew, S.drew, (hSn _).drew⟩
        case measure => simp [intOf]; omega
      · have r1 : (k : Int) % 8 = 1 := by omega
        rw [h4] at hsm hst
        have e := or64 z x 8 256 (by decide) hz.1 (by simpa using hsm) hd.1 (by omega) (by decide)
        have e' : bits BinOp.or IntKind.u64 z (x * 256) = z + x * 256 := e
        have R := hst (bits BinOp.or IntKind.u64 z (x * 256)) (by rw [e']; simp)
        have S := hSt (bits BinOp.or IntKind.u64 z (x * 256))
        have S0 := hS0 (bits BinOp.or IntKind.u64 z (x * 256))
        clear hst hSt hS0 e hsm e'
        go_wp2
        go_region
        go_wp2
        go_roundw
        case rel => exact ⟨k + 1, _, by omega, by go_num, R, S0.drew, S.drew, (hSn _).drew⟩
        case measure => simp [intOf]; omega
      · have r1 : (k : Int) % 8 = 2 := by omega
        rw [h4] at hsm hst
        have e := or64 z x 16 65536 (by decide) hz.1 (by simpa using hsm) hd.1 (by omega) (by decide)
        have e' : bits BinOp.or IntKind.u64 z (x * 65536) = z + x * 65536 := e
        have R := hst (bits BinOp.or IntKind.u64 z (x * 65536)) (by rw [e']; simp)
        have S := hSt (bits BinOp.or IntKind.u64 z (x * 65536))
        have S0 := hS0 (bits BinOp.or IntKind.u64 z (x * 65536))
        clear hst hSt hS0 e hsm e'
        go_wp2
        go_region
        go_wp2
        go_roundw
        case rel => exact ⟨k + 1, _, by omega, by go_num, R, S0.drew, S.drew, (hSn _).drew⟩
        case measure => simp [intOf]; omega
      · have r1 : (k : Int) % 8 = 3 := by omega
        rw [h4] at hsm hst
        have e := or64 z x 24 16777216 (by decide) hz.1 (by simpa using hsm) hd.1 (by omega) (by decide)
        have e' : bits BinOp.or IntKind.u64 z (x * 16777216) = z + x * 16777216 := e
        have R := hst (bits BinOp.or IntKind.u64 z (x * 16777216)) (by rw [e']; simp)
        have S := hSt (bits BinOp.or IntKind.u64 z (x * 16777216))
        have S0 := hS0 (bits BinOp.or IntKind.u64 z (x * 16777216))
        clear hst hSt hS0 e hsm e'
        go_wp2
        go_region
        go_wp2
        go_roundw
        case rel => exact ⟨k + 1, _, by omega, by go_num, R, S0.drew, S.drew, (hSn _).drew⟩
        case measure => simp [intOf]; omega
      · have r1 : (k : Int) % 8 = 4 := by omega
        rw [h4] at hsm hst
        have e := or64 z x 32 4294967296 (by decide) hz.1 (by simpa using hsm) hd.1 (by omega) (by decide)
        have e' : bits BinOp.or IntKind.u64 z (x * 4294967296) = z + x * 4294967296 := e
        have R := hst (bits BinOp.or IntKind.u64 z (x * 4294967296)) (by rw [e']; simp)
        have S := hSt (bits BinOp.or IntKind.u64 z (x * 4294967296))
        have S0 := hS0 (bits BinOp.or IntKind.u64 z (x * 4294967296))
        clear hst hSt hS0 e hsm e'
        go_wp2
        go_region
        go_wp2
        go_roundw
        case rel => exact ⟨k + 1, _, by omega, by go_num, R, S0.drew, S.drew, (hSn _).drew⟩
        case measure => simp [intOf]; omega
      · have r1 : (k : Int) % 8 = 5 := by omega
        rw [h4] at hsm hst
        have e := or64 z x 40 1099511627776 (by decide) hz.1 (by simpa using hsm) hd.1 (by omega) (by decide)
        have e' : bits BinOp.or IntKind.u64 z (x * 1099511627776) = z + x * 1099511627776 := e
        have R := hst (bits BinOp.or IntKind.u64 z (x * 1099511627776)) (by rw [e']; simp)
        have S := hSt (bits BinOp.or IntKind.u64 z (x * 1099511627776))
        have S0 := hS0 (bits BinOp.or IntKind.u64 z (x * 1099511627776))
        clear hst hSt hS0 e hsm e'
        go_wp2
        go_region
        go_wp2
        go_roundw
        case rel => exact ⟨k + 1, _, by omega, by go_num, R, S0.drew, S.drew, (hSn _).drew⟩
        case measure => simp [intOf]; omega
      · have r1 : (k : Int) % 8 = 6 := by omega
        rw [h4] at hsm hst
        have e := or64 z x 48 281474976710656 (by decide) hz.1 (by simpa using hsm) hd.1 (by omega) (by decide)
        have e' : bits BinOp.or IntKind.u64 z (x * 281474976710656) = z + x * 281474976710656 := e
        have R := hst (bits BinOp.or IntKind.u64 z (x * 281474976710656)) (by rw [e']; simp)
        have S := hSt (bits BinOp.or IntKind.u64 z (x * 281474976710656))
        have S0 := hS0 (bits BinOp.or IntKind.u64 z (x * 281474976710656))
        clear hst hSt hS0 e hsm e'
        go_wp2
        go_region
        go_wp2
        go_roundw
        case rel => exact ⟨k + 1, _, by omega, by go_num, R, S0.drew, S.drew, (hSn _).drew⟩
        case measure => simp [intOf]; omega
      · have r1 : (k : Int) % 8 = 7 := by omega
        rw [h4] at hsm hst
        have e := or64 z x 56 72057594037927936 (by decide) hz.1 (by simpa using hsm) hd.1 (by omega) (by decide)
        have e' : bits BinOp.or IntKind.u64 z (x * 72057594037927936) = z + x * 72057594037927936 := e
        have R := hst (bits BinOp.or IntKind.u64 z (x * 72057594037927936)) (by rw [e']; simp)
        have S := hSt (bits BinOp.or IntKind.u64 z (x * 72057594037927936))
        have S0 := hS0 (bits BinOp.or IntKind.u64 z (x * 72057594037927936))
        clear hst hSt hS0 e hsm e'
        go_wp2
        go_region
        go_wp2
        go_roundw
        case rel => exact ⟨k + 1, _, by omega, by go_num, R, S0.drew, S.drew, (hSn _).drew⟩
        case measure => simp [intOf]; omega
    · obtain rfl : k = 32 := by omega
      have hy := hcp.all
      subst hy
      obtain ⟨f, hf⟩ : ∃ f, f = wv (fun j => xs.getD j 0) 32 := ⟨_, rfl⟩
      rw [← hf] at hB
      have q0 : wr.cell? ⟨w.heap.size + 1, 0, none⟩ = some (.int .u64 (f 0)) := hB.cell (i := 0) (by simp)
      have q1 : wr.cell? ⟨w.heap.size + 1, 1, none⟩ = some (.int .u64 (f 1)) := hB.cell (i := 1) (by simp)
      have q2 : wr.cell? ⟨w.heap.size + 1, 2, none⟩ = some (.int .u64 (f 2)) := hB.cell (i := 2) (by simp)
      have q3 : wr.cell? ⟨w.heap.size + 1, 3, none⟩ = some (.int .u64 (f 3)) := hB.cell (i := 3) (by simp)
      have p0 : wr.cell? ⟨w.heap.size, 0, none⟩ = some (.int .u64 0) := hB0.cell (i := 0) (by simp)
      have p1 : wr.cell? ⟨w.heap.size, 1, none⟩ = some (.int .u64 0) := hB0.cell (i := 1) (by simp)
      have p2 : wr.cell? ⟨w.heap.size, 2, none⟩ = some (.int .u64 0) := hB0.cell (i := 2) (by simp)
      have p3 : wr.cell? ⟨w.heap.size, 3, none⟩ = some (.int .u64 0) := hB0.cell (i := 3) (by simp)
      have g0 := hB0.free 0
      have g1 := hB0.free 1
      have g2 := hB0.free 2
      have g3 := hB0.free 3
      have hE : Hid (ag4 (wv (fun j => xs.getD j 0) 32) = ag4 f) := by show _ = _; rw [hf]
      clear hcp hB0 hB hf hb hr hA hg hc
      go_wp2
      refine bodyPost_ret (v := .agg #[.int .u64 (f 0), .int .u64 (f 1), .int .u64 (f 2), .int .u64 (f 3)]) (by simp [results, Tryd.results113, go_sem, p0, p1, p2, p3]) rfl ⟨by rw [hE.out]; rfl, ?_⟩
      have hsz : w.heap.size ≤ w.heap.size := Nat.le_refl _
      exact (((hN.setCell hsz _).setCell hsz _).setCell hsz _).setCell hsz _
end Go.Proofs.YthapcapiiknjdaaDoor
