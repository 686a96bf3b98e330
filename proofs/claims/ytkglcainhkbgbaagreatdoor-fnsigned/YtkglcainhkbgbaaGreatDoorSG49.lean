import Derived.Test.YtkglcainhkbgbaaGreatDoorSG39
import Derived.Test.YtkglcainhkbgbaaGreatDoorSG38
import Derived.Deep.RegionWith
import Derived.Deep.RegionHeld3
import Derived.Deep.DeepCutAuto
import Derived.Test.YtkglcainhkbgbaaGreatDoorSG24
import Derived.Test.YtkglcainhkbgbaaGreatDoorSG25
import Derived.Test.YtkglcainhkbgbaaGreatDoorRows
import Derived.Lib.LaidTab
import Derived.Lib.LaidU8
import Derived.LaidMore
import Derived.Deep.MidRow
import Derived.Test.YtkglcainhkbgbaaGreatDoorSG48
import Derived.Test.YtkglcainhkbgbaaGreatDoorSG1
import Derived.Deep.Cut
namespace Go.Proofs.YtkglcainhkbgbaaGreatDoor
set_option maxRecDepth 100000
open Go.RowKit
def sub64Entry : Array Value → Sem Value := fun args => do
  let (x, y, b) ← Extern.MathBitsCarry.three "Sub64" args
  pure (Extern.MathBitsCarry.pair ((x + Extern.MathBitsCarry.m64 - y - b) % Extern.MathBitsCarry.m64) (if x < y + b then 1 else 0))
theorem run_sub64 {P : Program} (x y c : Int) (hx : 0 ≤ x ∧ x < 18446744073709551616) (hy : 0 ≤ y ∧ y < 18446744073709551616) (hc : c = 0 ∨ c = 1) (w : World) :
    (sub64Entry #[.int .u64 x, .int .u64 y, .int .u64 c]).run P w =
      .ok (.tuple #[.int .u64 ((x - y - c) % 18446744073709551616), .int .u64 (if x - y - c < 0 then 1 else 0)]) w := by
  have key : ∀ k : Nat, k ≤ 1 → (sub64Entry #[.int .u64 x, .int .u64 y, .int .u64 (k : Int)]).run P w =
      .ok (Extern.MathBitsCarry.pair ((x.toNat + Extern.MathBitsCarry.m64 - y.toNat - k) % Extern.MathBitsCarry.m64) (if x.toNat < y.toNat + k then 1 else 0)) w := by
    intro k hk
    have : k = 0 ∨ k = 1 := by omega
    rcases this with rfl | rfl <;> rfl
  obtain ⟨k, rfl⟩ := Int.eq_ofNat_of_zero_le (show 0 ≤ c by omega)
  rw [key k (by omega)]
  obtain ⟨X, rfl⟩ := Int.eq_ofNat_of_zero_le hx.1
  obtain ⟨Y, rfl⟩ := Int.eq_ofNat_of_zero_le hy.1
  simp only [Extern.MathBitsCarry.pair, Extern.MathBitsCarry.m64, Int.toNat_natCast]
  have e1 : Int.ofNat ((X + 2 ^ 64 - Y - k) % 2 ^ 64) = ((X : Int) - Y - k) % 18446744073709551616 := by
    show (((X + 2 ^ 64 - Y - k) % 2 ^ 64 : Nat) : Int) = _
    omega
  have e2 : Int.ofNat (if X < Y + k then 1 else 0) = (if (X : Int) - Y - k < 0 then 1 else 0 : Int) := by
    by_cases h : X < Y + k
    · rw [if_pos h, if_pos (by omega)]; rfl
    · rw [if_neg h, if_neg (by omega)]; rfl
  rw [e1, e2]
theorem sub64_run (x y c : Int) (hx : 0 ≤ x ∧ x < 18446744073709551616) (hy : 0 ≤ y ∧ y < 18446744073709551616) (hc : c = 0 ∨ c = 1) (w : World) :
    (callFunc 69 #[.int .u64 x, .int .u64 y, .int .u64 c]).run Tryz.prog w =
      .ok (.value (.tuple #[.int .u64 ((x - y - c) % 18446744073709551616), .int .u64 (if x - y - c < 0 then 1 else 0)])) w := by
  rw [run_callFunc_extern Tryz.func69 (by kernel_rfl) (by kernel_rfl) (by kernel_rfl) (e := sub64Entry) (by kernel_rfl), run_sub64 x y c hx hy hc]
  simp only [Result.andThen]
theorem add64c_run (x y c : Int) (hx : 0 ≤ x) (hy : 0 ≤ y) (hc : c = 0 ∨ c = 1) (w : World) :
    (callFunc 70 #[.int .u64 x, .int .u64 y, .int .u64 c]).run Tryz.prog w =
      .ok (.value (.tuple #[.int .u64 ((x + y + c) % 18446744073709551616), .int .u64 ((x + y + c) / 18446744073709551616)])) w := by
  rw [run_callFunc_extern Tryz.func70 (by kernel_rfl) (by kernel_rfl) (by kernel_rfl) (e := add64Entry) (by kernel_rfl), run_add64 x y c hx hy (by omega) (by omega)]
  simp only [Result.andThen]
theorem addProduct0 (w : World) (l a b : Int) (hl : 0 ≤ l ∧ l < 18446744073709551616) (ha : 0 ≤ a ∧ a < 18446744073709551616) (hb : 0 ≤ b ∧ b < 18446744073709551616) :
    Calls Tryz.prog 68 #[.agg #[.int .u64 0, .int .u64 l], .int .u64 a, .int .u64 b] w fun e w' =>
      e = .returned (.agg #[.int .u64 ((l + a * b) / 18446744073709551616), .int .u64 ((l + a * b) % 18446744073709551616)]) ∧ Below w.heap.size w w' := by
  have h := addProduct_any w 0 l a b (by omega) hl ha hb (by have := (mul_word ha hb).2; omega)
  simp only [ag2, Int.zero_mul, Int.zero_add] at h
  exact h
theorem idx4 (t : Nat → Int) (k : Nat) (hk : k < 4) (W : World) :
    (Instr.index 41 (.agg #[.int .u64 (t 0), .int .u64 (t 1), .int .u64 (t 2), .int .u64 (t 3)]) (.int .i64 (k : Int))).run Tryz.prog W = .ok (.int .u64 (t k)) W := by
  obtain rfl | rfl | rfl | rfl : k = 0 ∨ k = 1 ∨ k = 2 ∨ k = 3 := by omega
  all_goals kernel_rfl
theorem and_mask (q b : Int) (hq : 0 ≤ q ∧ q < 18446744073709551616) (hb : b = 0 ∨ b = 1) : bits BinOp.and .u64 q (b * 18446744073709551615) = q * b := by
  obtain ⟨m, rfl⟩ := Int.eq_ofNat_of_zero_le hq.1
  rcases hb with rfl | rfl
  · have h := bits_and_u64_nat m 0 (by omega) (by omega)
    rw [Nat.and_zero] at h
    simpa using h
  · have h := bits_and_u64_nat m 18446744073709551615 (by omega) (by omega)
    have e : m &&& 18446744073709551615 = m % 18446744073709551616 := Nat.and_two_pow_sub_one_eq_mod m 64
    rw [e, Nat.mod_eq_of_lt (by omega)] at h
    simpa using h
def mix (f s : Nat → Int) (k j : Nat) : Int := if j < k then f j else s j
abbrev c4 (u : Nat → Int) : List Int := [u 0, u 1, u 2, u 3]
theorem mix_set (f s : Nat → Int) (k : Nat) (hk : k < 4) : (c4 (mix f s k)).set k (f k) = c4 (mix f s (k + 1)) := by
  obtain rfl | rfl | rfl | rfl : k = 0 ∨ k = 1 ∨ k = 2 ∨ k = 3 := by omega
  all_goals simp [mix, c4]
theorem mix_allO (f s : Nat → Int) : c4 (mix f s 4) = c4 f := by simp [mix, c4]
theorem mix_zero (f s : Nat → Int) : c4 (mix f s 0) = c4 s := by simp [mix, c4]
theorem mix_at (f s : Nat → Int) (k : Nat) (hk : k < 4) : (c4 (mix f s k)).getD k 0 = s k := by
  obtain rfl | rfl | rfl | rfl : k = 0 ∨ k = 1 ∨ k = 2 ∨ k = 3 := by omega
  all_goals simp [mix, c4]
theorem mix_len (f s : Nat → Int) (k : Nat) : (c4 (mix f s k)).length = 4 := rfl
theorem blk_box2O (w : World) (k : IntKind) (t : TypeId) (a b : Int) : Blk (w.alloc (.cells #[.int k a, .int k b] t)) w.heap.size k [a, b] :=
  ⟨t, by rw [heap_alloc_last]; rfl⟩
set_option maxHeartbeats 8000000 in
theorem lessTimes_any (w : World) (s t : Nat → Int) (n : Int) (hn : 0 ≤ n ∧ n < 18446744073709551616) (hs : W4 s) (ht : W4 t) (hQ : HasW w 0 qw 4) :
    Calls Tryz.prog 46 #[ag4 s, .int .u64 n, ag4 t] w fun r w' => r = .returned (ag4 (lsT n s t)) ∧ Below w.heap.size w w' := by
  have gq := hQ.lt (by omega)
  have B0 := blk_box4 w .u64 41 (s 0) (s 1) (s 2) (s 3)
  have n0 : Below w.heap.size w (w.alloc (.cells #[.int .u64 (s 0), .int .u64 (s 1), .int .u64 (s 2), .int .u64 (s 3)] 41)) := (Below.refl _ _).alloc (Nat.le_refl _) _
  have s0 : (w.alloc (.cells #[.int .u64 (s 0), .int .u64 (s 1), .int .u64 (s 2), .int .u64 (s 3)] 41)).heap.size = w.heap.size + 1 := by simp
  simp only [ag4]
  go_enter Tryz.func46, Tryz.ntmps46
  go_wp2
  generalize w.alloc (.cells #[.int .u64 (s 0), .int .u64 (s 1), .int .u64 (s 2), .int .u64 (s 3)] 41) = wa at *
  have n1 : Below wa.heap.size wa (wa.alloc (.cells #[.int .u64 (t 0), .int .u64 (t 1), .int .u64 (t 2), .int .u64 (t 3)] 41)) := (Below.refl _ _).alloc (Nat.le_refl _) _
  have s1 : (wa.alloc (.cells #[.int .u64 (t 0), .int .u64 (t 1), .int .u64 (t 2), .int .u64 (t 3)] 41)).heap.size = w.heap.size + 1 + 1 := by simp [s0]
  generalize wa.alloc (.cells #[.int .u64 (t 0), .int .u64 (t 1), .int .u64 (t 2), .int .u64 (t 3)] 41) = wb at *
  have B2 := blk_box4 wb .u64 41 0 0 0 0
  have n2 : Below wb.heap.size wb (wb.alloc (.cells #[.int .u64 0, .int .u64 0, .int .u64 0, .int .u64 0] 41)) := (Below.refl _ _).alloc (Nat.le_refl _) _
  have s2 : (wb.alloc (.cells #[.int .u64 0, .int .u64 0, .int .u64 0, .int .u64 0] 41)).heap.size = w.heap.size + 1 + 1 + 1 := by simp [s1]
  generalize wb.alloc (.cells #[.int .u64 0, .int .u64 0, .int .u64 0, .int .u64 0] 41) = wc at *
  have E0 := (B0.up n1).up n2
  rw [s1] at B2
  have N := nxt (nxt n0 n1) n2
  clear B0 n0 n1 n2 s0 s1 s2
  go_loopw [7, 8, 17] (fun o b i wr => ∃ k : Nat, k ≤ 4 ∧ i = .int .i64 k ∧ o = .int .u64 (lo4 n t k) ∧ b = .int .u64 (lb4 n s t k) ∧ Blk wr w.heap.size .u64 (c4 (mix (ls4 n s t) s k)) ∧ Blk wr (w.heap.size + 1 + 1) .u64 [0, 0, 0, 0] ∧ Below w.heap.size w wr) (fun _ _ i _ => 4 - (intOf i).toNat)
  case atStart => exact ⟨0, by omega, rfl, rfl, rfl, by rw [mix_zero]; exact E0, B2, N⟩
  case round =>
    clear E0 B2 N
    obtain ⟨k, hk, rfl, rfl, rfl, hB, hR, hN⟩ := hrel
    by_cases hlt : k < 4
    · have IX := idx4 t k hlt
      have tk := ht k hlt
      have sk := hs k hlt
      have ok := lo4_bd hn ht k hk
      have bk := lb4_bd n s t k
      have e1 : lo4 n t (k + 1) = (lo4 n t k + n * t k) / 18446744073709551616 := rfl
      have e2 : lb4 n s t (k + 1) = if s k - (lo4 n t k + n * t k) % 18446744073709551616 - lb4 n s t k < 0 then 1 else 0 := rfl
      have e3 : ls4 n s t k = (s k - (lo4 n t k + n * t k) % 18446744073709551616 - lb4 n s t k) % 18446744073709551616 := rfl
      have SU := sub64_run (s k) ((lo4 n t k + n * t k) % 18446744073709551616) (lb4 n s t k) sk (by omega) bk
      rw [← e2, ← e3] at SU
      have AP := fun W => addProduct0 W (lo4 n t k) n (t k) ok hn tk
      rw [← e1] at AP
      have k2 : (k : Int) < 4 := by omega
      have hcs : (c4 (mix (ls4 n s t) s k)).getD k 0 = s k := mix_at _ _ _ hlt
      have hst := mix_set (ls4 n s t) s k hlt
      generalize (lo4 n t k + n * t k) % 18446744073709551616 = d at *
      obtain ⟨o1, ho1⟩ : ∃ o1, o1 = lo4 n t (k + 1) := ⟨_, rfl⟩
      obtain ⟨b1, hb1⟩ : ∃ b1, b1 = lb4 n s t (k + 1) := ⟨_, rfl⟩
      have E1 : Hid (Value.int IntKind.u64 o1 = .int .u64 (lo4 n t (k + 1))) := by show _ = _; rw [ho1]
      have E2 : Hid (Value.int IntKind.u64 b1 = .int .u64 (lb4 n s t (k + 1))) := by show _ = _; rw [hb1]
      rw [← ho1] at AP e1
      rw [← hb1] at SU e2
      clear ho1 hb1 e1 e2 e3
      generalize lo4 n t k = o0 at *
      generalize lb4 n s t k = b0 at *
      generalize ls4 n s t k = l at *
      generalize t k = tv at *
      obtain ⟨ys, hys⟩ : ∃ ys, ys = c4 (mix (ls4 n s t) s k) := ⟨_, rfl⟩
      rw [← hys] at hB hcs hst
      go_wp2_with fail
      refine (AP wr).mono ?_
      rintro r w1 ⟨rfl, n1⟩
      have D := blk_box2O w1 .u64 130 o1 d
      have n2 : Below w1.heap.size w1 (w1.alloc (.cells #[.int .u64 o1, .int .u64 d] 130)) := (Below.refl _ _).alloc (Nat.le_refl _) _
      have hN2 := nxt (nxt hN n1) n2
      have hB2 := (hB.up n1).up n2
      have hR2 := (hR.up n1).up n2
      have yl : ys.length = 4 := by rw [← mix_len (ls4 n s t) s k]; exact congrArg List.length hys
      have cy : (w1.alloc (.cells #[.int .u64 o1, .int .u64 d] 130)).cell? ⟨w.heap.size, k, none⟩ = some (.int .u64 (s k)) := by rw [hB2.cell (by omega), hcs]
      have fy := hB2.free k
      have d0 := D.cell (i := 0) (by simp)
      have d1 := D.cell (i := 1) (by simp)
      simp only [List.getD_cons_zero, List.getD_cons_succ] at d0 d1
      have S0 := hB2.store k l
      rw [hst] at S0
      have S1 := hR2.of_block (w' := (w1.alloc (.cells #[.int .u64 o1, .int .u64 d] 130)).setCell ⟨w.heap.size, k, none⟩ (.int .u64 l)) (heap_setCell_other _ ⟨w.heap.size, k, none⟩ _ _ (by show w.heap.size + 1 + 1 ≠ w.heap.size; omega))
      have S2 : Below w.heap.size w ((w1.alloc (.cells #[.int .u64 o1, .int .u64 d] 130)).setCell ⟨w.heap.size, k, none⟩ (.int .u64 l)) := hN2.setCell (Nat.le_refl _) _
      clear hB2 hR2 hN2 n2 n1 D hB hR hN AP hst yl hcs
      go_wp2
      generalize w1.alloc (.cells #[.int .u64 o1, .int .u64 d] 130) = w2 at *
      go_region
      go_wp2
      go_roundw
      case rel => exact ⟨k + 1, by omega, by go_num, E1.out, E2.out, S0.drew, S1.drew, S2.drew⟩
      case measure => simp [intOf]; omega
    · obtain rfl : k = 4 := by omega
      rw [mix_allO] at hB
      have hL := ls4_W4 n s t
      have bk := lb4_bd n s t 4
      have hT : lsT n s t = qs4 (ls4 n s t) qw (lb4 n s t 4) := rfl
      have HT := hide hT
      obtain ⟨q0, q1, q2, q3⟩ := (hQ.up hN).f4
      generalize ls4 n s t = L at *
      generalize lb4 n s t 4 = b at *
      generalize lo4 n t 4 = o at *
      obtain ⟨m, hm⟩ : ∃ m, m = b * 18446744073709551615 := ⟨_, rfl⟩
      have hneg : IntKind.u64.wrap (-b) = m := by rw [IntKind.wrap_u64]; omega
      have AN : Hid (∀ k, k < 4 → bits BinOp.and .u64 (qw k) m = qw k * b) := by
        intro k hk
        have hq := qw_W4 k hk
        rw [hm]
        exact and_mask _ _ hq bk
      clear hT hm
      obtain ⟨qf, hqf⟩ : ∃ qf, qf = qw := ⟨_, rfl⟩
      have hq4 : W4 qf := by rw [hqf]; exact qw_W4
      rw [← hqf] at q0 q1 q2 q3 AN HT
      clear hQ hqf
      go_wp2
      go_loopw [13, 44] (fun c i wr => ∃ k : Nat, k ≤ 4 ∧ i = .int .i64 k ∧ c = .int .u64 (qc4 L qf b k) ∧ Blk wr w.heap.size .u64 (c4 (mix (qs4 L qf b) L k)) ∧ Blk wr (w.heap.size + 1 + 1) .u64 [0, 0, 0, 0] ∧ Below w.heap.size w wr) (fun _ i _ => 4 - (intOf i).toNat)
      case atStart => exact ⟨0, by omega, rfl, rfl, by rw [mix_zero]; exact hB, hR, hN⟩
      case round =>
        clear hB hR hN q0 q1 q2 q3
        obtain ⟨k, hk, rfl, rfl, hB, hR, hN⟩ := hrel
        by_cases hlt : k < 4
        · have IX := idx4 qf k hlt
          have lk := hL k hlt
          have qk := hq4 k hlt
          have qb0 : 0 ≤ qf k * b := Int.mul_nonneg qk.1 (by omega)
          have an := AN.out k hlt
          have ck := qc4_bd hL hq4 bk k hk
          have AD := add64c_run (L k) (qf k * b) (qc4 L qf b k) lk.1 qb0 ck
          have e1 : qc4 L qf b (k + 1) = (L k + qf k * b + qc4 L qf b k) / 18446744073709551616 := rfl
          have e2 : qs4 L qf b k = (L k + qf k * b + qc4 L qf b k) % 18446744073709551616 := rfl
          rw [← e1, ← e2] at AD
          have k2 : (k : Int) < 4 := by omega
          have hcs : (c4 (mix (qs4 L qf b) L k)).getD k 0 = L k := mix_at _ _ _ hlt
          have cy : wr.cell? ⟨w.heap.size, k, none⟩ = some (.int .u64 (L k)) := by rw [hB.cell (by rw [mix_len]; exact hlt), hcs]
          have fy := hB.free k
          have S0 := hB.store k (qs4 L qf b k)
          rw [mix_set _ _ _ hlt] at S0
          have S1 := hR.of_block (w' := wr.setCell ⟨w.heap.size, k, none⟩ (.int .u64 (qs4 L qf b k))) (heap_setCell_other _ ⟨w.heap.size, k, none⟩ _ _ (by show w.heap.size + 1 + 1 ≠ w.heap.size; omega))
          have S2 : Below w.heap.size w (wr.setCell ⟨w.heap.size, k, none⟩ (.int .u64 (qs4 L qf b k))) := hN.setCell (Nat.le_refl _) _
          obtain ⟨c1, hc1⟩ : ∃ c1, c1 = qc4 L qf b (k + 1) := ⟨_, rfl⟩
          have E1 : Hid (Value.int IntKind.u64 c1 = .int .u64 (qc4 L qf b (k + 1))) := by show _ = _; rw [hc1]
          rw [← hc1] at AD
          clear hB hR hN e1 e2 hcs hc1
          generalize qs4 L qf b k = l at *
          generalize qc4 L qf b k = c0 at *
          generalize qf k * b = qm at *
          generalize qf k = qv at *
          generalize L k = lv at *
          go_wp2
          go_roundw
          case rel => exact ⟨k + 1, by omega, by go_num, E1.out, S0, S1, S2⟩
          case measure => simp [intOf]; omega
        · obtain rfl : k = 4 := by omega
          rw [mix_allO] at hB
          have hE : Hid (lsT n s t = qs4 L qf b) := HT
          generalize qs4 L qf b = f at *
          obtain ⟨⟨p0, p1, p2, p3⟩, _⟩ := hB.f4
          obtain ⟨⟨r0, r1, r2, r3⟩, ⟨g0, g1, g2, g3⟩⟩ := hR.f4
          go_wp2
          refine bodyPost_ret (v := ag4 f) (by simp [ag4, results, Tryz.results46, go_sem, r0, r1, r2, r3]) rfl ⟨by rw [hE.out]; rfl, ?_⟩
          exact below_set4 hN (by omega) _ _ _ _
end Go.Proofs.YtkglcainhkbgbaaGreatDoor
namespace Go.Proofs.YtkglcainhkbgbaaGreatDoor
set_option maxRecDepth 100000
open Go.RowKit
def ag8O (u : Nat → Int) : Value := .agg #[.int .u64 (u 0), .int .u64 (u 1), .int .u64 (u 2), .int .u64 (u 3), .int .u64 (u 4), .int .u64 (u 5), .int .u64 (u 6), .int .u64 (u 7)]
abbrev c8 (u : Nat → Int) : List Int := [u 0, u 1, u 2, u 3, u 4, u 5, u 6, u 7]
theorem blk_box8 (w : World) (k : IntKind) (t : TypeId) (a b c d e f g h : Int) : Blk (w.alloc (.cells #[.int k a, .int k b, .int k c, .int k d, .int k e, .int k f, .int k g, .int k h] t)) w.heap.size k [a, b, c, d, e, f, g, h] :=
  ⟨t, by rw [heap_alloc_last]; rfl⟩
theorem c8_get (u : Nat → Int) (j : Nat) (hj : j < 8) : (c8 u).getD j 0 = u j := by
  obtain rfl | rfl | rfl | rfl | rfl | rfl | rfl | rfl : j = 0 ∨ j = 1 ∨ j = 2 ∨ j = 3 ∨ j = 4 ∨ j = 5 ∨ j = 6 ∨ j = 7 := by omega
  all_goals rfl
theorem c8_len (u : Nat → Int) : (c8 u).length = 8 := rfl
theorem c8_set (u v : Nat → Int) (k : Nat) (x : Int) (hk : k < 8) (h : ∀ j, j < 8 → v j = if j = k then x else u j) : (c8 u).set k x = c8 v := by
  refine eq_of_getD (by simp) (fun i hi => ?_)
  rw [List.length_set, c8_len] at hi
  rw [c8_get v i hi, h i hi]
  by_cases e : i = k
  · subst e
    rw [getD_set_self _ _ _ (by rw [c8_len]; exact hk), if_pos rfl]
  · rw [getD_set_ne _ _ _ _ (fun h => e h.symm), if_neg e, c8_get u i hi]
theorem Blk.f8O {w : World} {g : Nat} {k : IntKind} {a b c d e f g' h : Int} (B : Blk w g k [a, b, c, d, e, f, g', h]) :
    (w.cell? ⟨g, 0, none⟩ = some (.int k a) ∧ w.cell? ⟨g, 1, none⟩ = some (.int k b) ∧ w.cell? ⟨g, 2, none⟩ = some (.int k c) ∧ w.cell? ⟨g, 3, none⟩ = some (.int k d) ∧ w.cell? ⟨g, 4, none⟩ = some (.int k e) ∧ w.cell? ⟨g, 5, none⟩ = some (.int k f) ∧ w.cell? ⟨g, 6, none⟩ = some (.int k g') ∧ w.cell? ⟨g, 7, none⟩ = some (.int k h)) ∧
    (w.frozen? ⟨g, 0, none⟩ = false ∧ w.frozen? ⟨g, 1, none⟩ = false ∧ w.frozen? ⟨g, 2, none⟩ = false ∧ w.frozen? ⟨g, 3, none⟩ = false ∧ w.frozen? ⟨g, 4, none⟩ = false ∧ w.frozen? ⟨g, 5, none⟩ = false ∧ w.frozen? ⟨g, 6, none⟩ = false ∧ w.frozen? ⟨g, 7, none⟩ = false) :=
  ⟨⟨B.cell (i := 0) (by simp), B.cell (i := 1) (by simp), B.cell (i := 2) (by simp), B.cell (i := 3) (by simp), B.cell (i := 4) (by simp), B.cell (i := 5) (by simp), B.cell (i := 6) (by simp), B.cell (i := 7) (by simp)⟩, B.free 0, B.free 1, B.free 2, B.free 3, B.free 4, B.free 5, B.free 6, B.free 7⟩
theorem below_set8O {B : Nat} {w w' : World} (h : Below B w w') {g : Nat} (hg : B ≤ g) (a b c d e f g' i : Value) :
    Below B w ((((((((w'.setCell ⟨g, 0, none⟩ a).setCell ⟨g, 1, none⟩ b).setCell ⟨g, 2, none⟩ c).setCell ⟨g, 3, none⟩ d).setCell ⟨g, 4, none⟩ e).setCell ⟨g, 5, none⟩ f).setCell ⟨g, 6, none⟩ g').setCell ⟨g, 7, none⟩ i) :=
  (((((((h.setCell hg _).setCell hg _).setCell hg _).setCell hg _).setCell hg _).setCell hg _).setCell hg _).setCell hg _
theorem Blk.f2 {w : World} {g : Nat} {k : IntKind} {a b : Int} (h : Blk w g k [a, b]) : (w.cell? ⟨g, 0, none⟩ = some (.int k a) ∧ w.cell? ⟨g, 1, none⟩ = some (.int k b)) ∧ (w.frozen? ⟨g, 0, none⟩ = false ∧ w.frozen? ⟨g, 1, none⟩ = false) :=
  ⟨⟨h.cell (i := 0) (by simp), h.cell (i := 1) (by simp)⟩, h.free 0, h.free 1⟩
theorem upb' {w w' : World} (n : Below w.heap.size w w') {g : Nat} {k : IntKind} {ys : List Int} (h : Blk w g k ys) : Blk w' g k ys := h.up n
theorem bA {w W : World} (h : Below w.heap.size w W) (o : Obj) : Below w.heap.size w (W.alloc o) := h.alloc h.size _
set_option maxHeartbeats 4000000 in
theorem wideAdd_any (w : World) (h l n : Int) (hh : 0 ≤ h) (hl : 0 ≤ l ∧ l < 18446744073709551616) (hn : 0 ≤ n ∧ n < 18446744073709551616) (hs : h * 18446744073709551616 + l + n < 340282366920938463463374607431768211456) :
    Calls Tryz.prog 87 #[.agg #[.int .u64 h, .int .u64 l], .int .u64 n] w fun e w' =>
      e = .returned (.agg #[.int .u64 ((h * 18446744073709551616 + l + n) / 18446744073709551616), .int .u64 ((h * 18446744073709551616 + l + n) % 18446744073709551616)]) ∧ Below w.heap.size w w' := by
  have AD := add64_run l n hl.1 hn.1
  have K1 : Hid ((h * 18446744073709551616 + l + n) / 18446744073709551616 = h + (l + n) / 18446744073709551616) := by show _ = _; omega
  have K2 : Hid ((h * 18446744073709551616 + l + n) % 18446744073709551616 = (l + n) % 18446744073709551616) := by show _ = _; omega
  have b1 : 0 ≤ (l + n) / 18446744073709551616 := by omega
  have b3 : h + (l + n) / 18446744073709551616 < 18446744073709551616 := by omega
  generalize (l + n) % 18446744073709551616 = s at *
  generalize (l + n) / 18446744073709551616 = c at *
  clear hs
  go_enter Tryz.func87, Tryz.ntmps87
  go_wp2
  refine bodyPost_ret (v := ag2 (h + c) s) (by simp [ag2, results, Tryz.results87, go_sem]) rfl ⟨by rw [K1.out, K2.out]; rfl, ?_⟩
  exact ((Below.refl _ _).alloc (Nat.le_refl _) _).alloc (by simp) _
def InBox (wr : World) (h l : Int) (v : Value) (wc : World) : Prop := ∃ q, v = .pointer (some ⟨q, 0, none⟩) ∧ wr.heap.size ≤ q ∧ Blk wc q .u64 [h, l] ∧ Below wr.heap.size wr wc
theorem inBox1 {wr wm : World} (n : Below wr.heap.size wr wm) (h l : Int) : InBox wr h l (.pointer (some ⟨wm.heap.size, 0, none⟩)) (wm.alloc (.cells #[.int .u64 h, .int .u64 l] 130)) :=
  ⟨_, rfl, n.size, blk_box2O wm .u64 _ h l, bA n _⟩
theorem inBox2 {wr wm : World} (n : Below wr.heap.size wr wm) (h l : Int) {q : Nat} (B : Blk wm q .u64 [0, 0]) (hq : wr.heap.size ≤ q) : InBox wr h l (.pointer (some ⟨q, 0, none⟩)) ((wm.setCell ⟨q, 0, none⟩ (.int .u64 h)).setCell ⟨q, 1, none⟩ (.int .u64 l)) :=
  ⟨_, rfl, hq, (B.store 0 h).store 1 l, (n.setCell hq _).setCell hq _⟩
theorem at8_step (p : Nat) (n : Int) (s D : Nat → Int) (k : Nat) (hp : p ≤ 3) (hk : k < 4) :
    (c8 (at8 p n s D k)).set (p + k) ((ac n s (fun i => D (p + i)) k + n * s k + D (p + k)) % 18446744073709551616) = c8 (at8 p n s D (k + 1)) := by
  refine c8_set _ _ _ _ (by omega) (fun j hj => ?_)
  unfold at8
  by_cases e : j = p + k
  · subst e
    rw [if_pos (by omega), if_pos rfl, show p + k - p = k by omega]
  · rw [if_neg e]
    by_cases h : p ≤ j ∧ j < p + k
    · rw [if_pos (by omega), if_pos h]
    · rw [if_neg (by omega), if_neg h]
theorem at8_zero (p : Nat) (n : Int) (s D : Nat → Int) : c8 (at8 p n s D 0) = c8 D := by
  have : at8 p n s D 0 = D := by
    funext j
    unfold at8
    rw [if_neg (by omega)]
  rw [this]
theorem at8_at (p : Nat) (n : Int) (s D : Nat → Int) (k j : Nat) (h : p + k ≤ j) : at8 p n s D k j = D j := by
  unfold at8
  rw [if_neg (by omega)]
set_option maxHeartbeats 8000000 in
theorem addTimes_any (w : World) (D s : Nat → Int) (p : Nat) (n : Int) (hp : p ≤ 3) (hn : 0 ≤ n ∧ n < 18446744073709551616) (hs : W4 s) (hD : W8 D) (ho : D (p + 4) + ac n s (fun i => D (p + i)) 4 < 18446744073709551616) :
    Calls Tryz.prog 60 #[ag8O D, .int .i64 p, .int .u64 n, ag4 s] w fun r w' => r = .returned (ag8O (adT p n s D)) ∧ Below w.heap.size w w' := by
  have B0 := blk_box8 w .u64 64 (D 0) (D 1) (D 2) (D 3) (D 4) (D 5) (D 6) (D 7)
  have n0 : Below w.heap.size w (w.alloc (.cells #[.int .u64 (D 0), .int .u64 (D 1), .int .u64 (D 2), .int .u64 (D 3), .int .u64 (D 4), .int .u64 (D 5), .int .u64 (D 6), .int .u64 (D 7)] 64)) := (Below.refl _ _).alloc (Nat.le_refl _) _
  have s0 : (w.alloc (.cells #[.int .u64 (D 0), .int .u64 (D 1), .int .u64 (D 2), .int .u64 (D 3), .int .u64 (D 4), .int .u64 (D 5), .int .u64 (D 6), .int .u64 (D 7)] 64)).heap.size = w.heap.size + 1 := by simp
  simp only [ag8O, ag4]
  go_enter Tryz.func60, Tryz.ntmps60
  go_wp2
  generalize w.alloc (.cells #[.int .u64 (D 0), .int .u64 (D 1), .int .u64 (D 2), .int .u64 (D 3), .int .u64 (D 4), .int .u64 (D 5), .int .u64 (D 6), .int .u64 (D 7)] 64) = wa at *
  have n1 : Below wa.heap.size wa (wa.alloc (.cells #[.int .u64 (s 0), .int .u64 (s 1), .int .u64 (s 2), .int .u64 (s 3)] 41)) := (Below.refl _ _).alloc (Nat.le_refl _) _
  have s1 : (wa.alloc (.cells #[.int .u64 (s 0), .int .u64 (s 1), .int .u64 (s 2), .int .u64 (s 3)] 41)).heap.size = w.heap.size + 1 + 1 := by simp [s0]
  generalize wa.alloc (.cells #[.int .u64 (s 0), .int .u64 (s 1), .int .u64 (s 2), .int .u64 (s 3)] 41) = wb at *
  have B2 := blk_box8 wb .u64 64 0 0 0 0 0 0 0 0
  have n2 : Below wb.heap.size wb (wb.alloc (.cells #[.int .u64 0, .int .u64 0, .int .u64 0, .int .u64 0, .int .u64 0, .int .u64 0, .int .u64 0, .int .u64 0] 64)) := (Below.refl _ _).alloc (Nat.le_refl _) _
  have s2 : (wb.alloc (.cells #[.int .u64 0, .int .u64 0, .int .u64 0, .int .u64 0, .int .u64 0, .int .u64 0, .int .u64 0, .int .u64 0] 64)).heap.size = w.heap.size + 1 + 1 + 1 := by simp [s1]
  generalize wb.alloc (.cells #[.int .u64 0, .int .u64 0, .int .u64 0, .int .u64 0, .int .u64 0, .int .u64 0, .int .u64 0, .int .u64 0] 64) = wc at *
  have E0 := (B0.up n1).up n2
  rw [s1] at B2
  have N := nxt (nxt n0 n1) n2
  have hac := fun k (hk : k ≤ 4) => ac_bd (d := fun i => D (p + i)) hn hs k hk (fun j hj => hD (p + j) (by omega))
  clear B0 n0 n1 n2 s0 s1 s2
  go_loopw [9, 14] (fun c i wr => ∃ k : Nat, k ≤ 4 ∧ i = .int .i64 k ∧ c = .int .u64 (ac n s (fun i => D (p + i)) k) ∧ Blk wr w.heap.size .u64 (c8 (at8 p n s D k)) ∧ Blk wr (w.heap.size + 1 + 1) .u64 [0, 0, 0, 0, 0, 0, 0, 0] ∧ Below w.heap.size w wr) (fun _ i _ => 4 - (intOf i).toNat)
  case atStart => exact ⟨0, by omega, rfl, rfl, by rw [at8_zero]; exact E0, B2, N⟩
  case round =>
    clear E0 B2 N
    obtain ⟨k, hk, rfl, rfl, hB, hR, hN⟩ := hrel
    by_cases hlt : k < 4
    · have IX := idx4 s k hlt
      have sk := hs k hlt
      have dk := hD (p + k) (by omega)
      have ck := hac k hk
      have ml := mul_word hn sk
      have e1 : ac n s (fun i => D (p + i)) (k + 1) = (ac n s (fun i => D (p + i)) k + n * s k + D (p + k)) / 18446744073709551616 := rfl
      have hst := at8_step p n s D k hp hlt
      have cy0 : (c8 (at8 p n s D k)).getD (p + k) 0 = D (p + k) := by rw [c8_get _ _ (by omega), at8_at _ _ _ _ _ _ (Nat.le_refl _)]
      have yl : (c8 (at8 p n s D k)).length = 8 := c8_len _
      obtain ⟨h2, hh2⟩ : ∃ h2, h2 = ac n s (fun i => D (p + i)) (k + 1) := ⟨_, rfl⟩
      obtain ⟨l2, hl2⟩ : ∃ l2, l2 = (ac n s (fun i => D (p + i)) k + n * s k + D (p + k)) % 18446744073709551616 := ⟨_, rfl⟩
      have E1 : Hid (Value.int IntKind.u64 h2 = .int .u64 (ac n s (fun i => D (p + i)) (k + 1))) := by show _ = _; rw [hh2]
      rw [← hl2] at hst
      obtain ⟨ys, hys⟩ : ∃ ys, ys = c8 (at8 p n s D k) := ⟨_, rfl⟩
      rw [← hys] at hst cy0 hB yl
      have hst' := hide hst
      generalize ac n s (fun i => D (p + i)) k = c0 at *
      have AP0 := fun W => addProduct0 W c0 n (s k) ck hn sk
      have AA0 := fun W => wideAdd_any W ((c0 + n * s k) / 18446744073709551616) ((c0 + n * s k) % 18446744073709551616) (D (p + k)) (by omega) (by omega) dk (by omega)
      have x1 : ((c0 + n * s k) / 18446744073709551616 * 18446744073709551616 + (c0 + n * s k) % 18446744073709551616 + D (p + k)) = c0 + n * s k + D (p + k) := by omega
      simp only [x1] at AA0
      rw [← e1, ← hh2, ← hl2] at AA0
      have cy : ∀ W, Below wr.heap.size wr W → W.cell? ⟨w.heap.size, p + k, none⟩ = some (.int .u64 (D (p + k))) := fun W n => by rw [(hB.up n).cell (by omega), cy0]
      generalize (c0 + n * s k) / 18446744073709551616 = hi at *
      generalize (c0 + n * s k) % 18446744073709551616 = lo at *
      generalize s k = sv at *
      generalize D (p + k) = dv at *
      have CY := hide cy
      have AP : Hid (∀ W, Below wr.heap.size wr W → Calls Tryz.prog 68 #[.agg #[.int .u64 0, .int .u64 c0], .int .u64 n, .int .u64 sv] W fun r w' => r = .returned (.agg #[.int .u64 hi, .int .u64 lo]) ∧ Below wr.heap.size wr w' ∧ Below W.heap.size W w') := by
        intro W n
        refine (AP0 W).mono ?_
        rintro r w' ⟨rfl, n'⟩
        exact ⟨rfl, nxt n n', n'⟩
      have AA : Hid (∀ W, Below wr.heap.size wr W → Calls Tryz.prog 87 #[.agg #[.int .u64 hi, .int .u64 lo], .int .u64 dv] W fun r w' => r = .returned (.agg #[.int .u64 h2, .int .u64 l2]) ∧ Below wr.heap.size wr w' ∧ Below W.heap.size W w') := by
        intro W n
        refine (AA0 W).mono ?_
        rintro r w' ⟨rfl, n'⟩
        exact ⟨rfl, nxt n n', n'⟩
      have k2 : (k : Int) < 4 := by omega
      have kk : IntKind.i64.wrap ((p : Int) + (k : Int)) = (p : Int) + (k : Int) := by rw [IntKind.wrap_i64]; omega
      have kl : (p : Int) + (k : Int) < 8 := by omega
      have k0 : (0 : Int) ≤ (p : Int) + (k : Int) := by omega
      have kt : ((p : Int) + (k : Int)).toNat = p + k := by omega
      have nd : Below wr.heap.size wr wr.drew := (Below.refl _ _).drew
      clear AP0 AA0 e1 hst x1 hh2 hl2 ml cy cy0
      go_upto_region 5 with fail
      go_cut [12] from 15 to 37 (fun v wc => InBox wr h2 l2 v wc)
      case first =>
        go_region_held3 (fun W => W.cell? ⟨w.heap.size, p + k, none⟩ = some (.int .u64 dv))
          (first | exact (unhide CY) _ nd | exact (unhide CY) _ (bA nd _) | exact (unhide CY) _ ns | exact (unhide CY) _ (bA ns _) | exact (unhide CY) _ nm | exact (unhide CY) _ (bA nm _) | exact (unhide CY) _ (nm.setCell hq _) | exact (unhide CY) _ ((nm.setCell hq _).setCell hq _))
          (first
            | (go_at_call 68; refine ((unhide AP) _ (by first | exact nd | exact bA nd _)).mono ?_; rintro r ws ⟨rfl, ns, ns'⟩; (try (have Z1 : Blk ws wr.heap.size .u64 [0, 0] := upb' ns' (blk_box2O _ _ _ 0 0))))
            | (go_at_call 87; refine ((unhide AA) _ (by first | exact ns | exact bA ns _)).mono ?_; rintro r wm ⟨rfl, nm, nm'⟩; (try first | (have Z2 : Blk wm wr.heap.size .u64 [0, 0] := upb' nm' Z1; (have hq : wr.heap.size ≤ wr.heap.size := Nat.le_refl _); obtain ⟨⟨z0, z1⟩, ⟨f0, f1⟩⟩ := Z2.f2) | (have Z2 : Blk wm ws.heap.size .u64 [0, 0] := upb' nm' (blk_box2O _ _ _ 0 0); (have hq : wr.heap.size ≤ ws.heap.size := ns.size); obtain ⟨⟨z0, z1⟩, ⟨f0, f1⟩⟩ := Z2.f2))))
        all_goals
          go_wp2_with fail
          go_meet
          first
            | (with_reducible refine inBox1 nm h2 l2)
            | (with_reducible refine inBox2 nm h2 l2 Z2 hq)
      case rest =>
        obtain ⟨q, rfl, hq, Bq, nc⟩ := hcut
        have hBc := hB.up nc
        have hRc := hR.up nc
        have hNc := nxt hN nc
        have hlt' := hB.lt
        obtain ⟨⟨z0, z1⟩, _⟩ := Bq.f2
        have cy := (unhide CY) wc nc
        have fy := hBc.free (p + k)
        have S0 := hBc.store (p + k) l2
        rw [hst'.out] at S0
        have S1 := hRc.of_block (w' := wc.setCell ⟨w.heap.size, p + k, none⟩ (.int .u64 l2)) (heap_setCell_other _ ⟨w.heap.size, p + k, none⟩ _ _ (by show w.heap.size + 1 + 1 ≠ w.heap.size; omega))
        have S2 : Below w.heap.size w (wc.setCell ⟨w.heap.size, p + k, none⟩ (.int .u64 l2)) := hNc.setCell (Nat.le_refl _) _
        clear hBc hRc hNc hB hR hN Bq nc AP AA CY nd hst'
        go_wp2
        go_region
        go_wp2
        go_roundw
        case rel => exact ⟨k + 1, by omega, by go_num, E1.out, S0.drew, S1.drew, S2.drew⟩
        case measure => simp [intOf]; omega
    · obtain rfl : k = 4 := by omega
      have d4 := hD (p + 4) (by omega)
      have c4b := hac 4 (by omega)
      have cy : wr.cell? ⟨w.heap.size, p + 4, none⟩ = some (.int .u64 (D (p + 4))) := by rw [hB.cell (by rw [c8_len]; omega), c8_get _ _ (by omega), at8_at _ _ _ _ _ _ (Nat.le_refl _)]
      have fy := hB.free (p + 4)
      have S0 := hB.store (p + 4) (D (p + 4) + ac n s (fun i => D (p + i)) 4)
      rw [c8_set (at8 p n s D 4) (adT p n s D) (p + 4) _ (by omega) (fun j hj => by unfold adT; by_cases e : j = p + 4 <;> simp [e])] at S0
      have S1 := hR.of_block (w' := wr.setCell ⟨w.heap.size, p + 4, none⟩ (.int .u64 (D (p + 4) + ac n s (fun i => D (p + i)) 4))) (heap_setCell_other _ ⟨w.heap.size, p + 4, none⟩ _ _ (by show w.heap.size + 1 + 1 ≠ w.heap.size; omega))
      have S2 : Below w.heap.size w (wr.setCell ⟨w.heap.size, p + 4, none⟩ (.int .u64 (D (p + 4) + ac n s (fun i => D (p + i)) 4))) := hN.setCell (Nat.le_refl _) _
      have kk : IntKind.i64.wrap ((p : Int) + 4) = (p : Int) + 4 := by rw [IntKind.wrap_i64]; omega
      have kl : (p : Int) + 4 < 8 := by omega
      have k0 : (0 : Int) ≤ (p : Int) + 4 := by omega
      have kt : ((p : Int) + 4).toNat = p + 4 := by omega
      obtain ⟨f, hf⟩ : ∃ f, f = adT p n s D := ⟨_, rfl⟩
      have HF : Hid (f = adT p n s D) := hf
      rw [← hf] at S0
      clear hf
      generalize ac n s (fun i => D (p + i)) 4 = c at *
      generalize D (p + 4) = dv at *
      have ww : IntKind.u64.wrap (dv + c) = dv + c := by rw [IntKind.wrap_u64]; omega
      obtain ⟨⟨p0, p1, p2, p3, p4, p5, p6, p7⟩, _⟩ := S0.f8O
      obtain ⟨⟨r0, r1, r2, r3, r4, r5, r6, r7⟩, ⟨g0, g1, g2, g3, g4, g5, g6, g7⟩⟩ := S1.f8O
      clear hB hR hN S0 S1 hac
      go_wp2
      refine bodyPost_ret (v := ag8O f) (by simp [ag8O, results, Tryz.results60, go_sem, r0, r1, r2, r3, r4, r5, r6, r7]) rfl ⟨by rw [HF.out]; rfl, ?_⟩
      exact below_set8O S2 (by omega) _ _ _ _ _ _ _ _
end Go.Proofs.YtkglcainhkbgbaaGreatDoor
namespace Go.Proofs.YtkglcainhkbgbaaGreatDoor
set_option maxRecDepth 100000
open Go.RowKit
def At8 (f : Nat → Int) (ys : List Int) : Prop := ys.length = 8 ∧ ∀ j, j < 8 → ys.getD j 0 = f j
theorem At8.all {f : Nat → Int} {ys : List Int} (h : At8 f ys) : ys = c8 f := by
  refine eq_of_getD (by rw [h.1]; rfl) (fun i hi => ?_)
  rw [h.1] at hi
  rw [h.2 i hi, c8_get f i hi]
theorem At8.wv {a : Nat → Int} {k : Nat} {ys : List Int} (h : At8 (wv a k) ys) (v : Int) (hv : v = Go.Proofs.YtkglcainhkbgbaaGreatDoor.wv a k (k / 8) + a k * 256 ^ (k % 8)) : At8 (Go.Proofs.YtkglcainhkbgbaaGreatDoor.wv a (k + 1)) (ys.set (k / 8) v) := by
  refine ⟨by simpa using h.1, fun j hj => ?_⟩
  rw [Go.Proofs.YtkglcainhkbgbaaGreatDoor.wv]
  by_cases e : k / 8 = j
  · subst e
    rw [getD_set_self _ _ _ (by rw [h.1]; exact hj), if_pos rfl, hv]
  · rw [getD_set_ne _ _ _ _ e, if_neg e, h.2 j hj]; omega
theorem At8.zero (a : Nat → Int) : At8 (Go.Proofs.YtkglcainhkbgbaaGreatDoor.wv a 0) [0, 0, 0, 0, 0, 0, 0, 0] := by
  refine ⟨rfl, fun j hj => ?_⟩
  obtain rfl | rfl | rfl | rfl | rfl | rfl | rfl | rfl : j = 0 ∨ j = 1 ∨ j = 2 ∨ j = 3 ∨ j = 4 ∨ j = 5 ∨ j = 6 ∨ j = 7 := by omega
  all_goals rfl
set_option maxHeartbeats 4000000 in
set_option maxRecDepth 100000 in
theorem readDouble_any (w : World) (g : Nat) (a : Option Addr) (cap : Nat) (xs : List Int) (hr : Rd w g a .u8 xs) (hb : Byt xs) (hl : xs.length ≤ 64) (h0 : 0 < xs.length) :
    Calls Tryz.prog 58 #[.slice a xs.length cap] w fun e w' => e = .returned (ag8O (wv (fun j => xs.getD j 0) xs.length)) ∧ Below w.heap.size w w' := by
  obtain ⟨off, rfl, hc⟩ := hr h0
  have hg := hr.lt h0
  have hA : Bt (fun j => xs.getD j 0) := hb
  have B0 := (blk_box8 w .u64 64 0 0 0 0 0 0 0 0).up ((Below.refl _ _).alloc (Nat.le_refl _) (.cells #[.int .u64 0, .int .u64 0, .int .u64 0, .int .u64 0, .int .u64 0, .int .u64 0, .int .u64 0, .int .u64 0] 64))
  have B1 : Blk ((w.alloc (.cells #[.int .u64 0, .int .u64 0, .int .u64 0, .int .u64 0, .int .u64 0, .int .u64 0, .int .u64 0, .int .u64 0] 64)).alloc (.cells #[.int .u64 0, .int .u64 0, .int .u64 0, .int .u64 0, .int .u64 0, .int .u64 0, .int .u64 0, .int .u64 0] 64)) (w.heap.size + 1) .u64 [0, 0, 0, 0, 0, 0, 0, 0] := by
    have := blk_box8 (w.alloc (.cells #[.int .u64 0, .int .u64 0, .int .u64 0, .int .u64 0, .int .u64 0, .int .u64 0, .int .u64 0, .int .u64 0] 64)) .u64 64 0 0 0 0 0 0 0 0
    simpa using this
  have N0 : Below w.heap.size w ((w.alloc (.cells #[.int .u64 0, .int .u64 0, .int .u64 0, .int .u64 0, .int .u64 0, .int .u64 0, .int .u64 0, .int .u64 0] 64)).alloc (.cells #[.int .u64 0, .int .u64 0, .int .u64 0, .int .u64 0, .int .u64 0, .int .u64 0, .int .u64 0, .int .u64 0] 64)) :=
    ((Below.refl _ _).alloc (Nat.le_refl _) _).alloc (by simp) _
  go_enter Tryz.func58, Tryz.ntmps58
  go_wp2
  generalize ((w.alloc (.cells #[.int .u64 0, .int .u64 0, .int .u64 0, .int .u64 0, .int .u64 0, .int .u64 0, .int .u64 0, .int .u64 0] 64)).alloc (.cells #[.int .u64 0, .int .u64 0, .int .u64 0, .int .u64 0, .int .u64 0, .int .u64 0, .int .u64 0, .int .u64 0] 64)) = wa at *
  go_loopw [8] (fun i wr => ∃ (k : Nat) (ys : List Int), k ≤ xs.length ∧ i = .int .i64 k ∧ At8 (wv (fun j => xs.getD j 0) k) ys ∧ Blk wr w.heap.size .u64 [0, 0, 0, 0, 0, 0, 0, 0] ∧ Blk wr (w.heap.size + 1) .u64 ys ∧ Below w.heap.size w wr) (fun i _ => xs.length - (intOf i).toNat)
  case atStart => exact ⟨0, _, by omega, rfl, At8.zero _, B0, B1, N0⟩
  case round =>
    clear B0 B1 N0
    obtain ⟨k, ys, hk, rfl, hcp, hB0, hB, hN⟩ := hrel
    by_cases hlt : k < xs.length
    · have hsm := wv_cur hA k
      have hst : ∀ v, v = wv (fun j => xs.getD j 0) k (k / 8) + xs.getD k 0 * 256 ^ (k % 8) → At8 (wv (fun j => xs.getD j 0) (k + 1)) (ys.set (k / 8) v) := fun v hv => hcp.wv v hv
      obtain ⟨q, hq⟩ : ∃ q : Nat, k / 8 = q := ⟨_, rfl⟩
      rw [hq] at hsm hst
      have hq4 : q < 8 := by omega
      have hz := (wv_lt hA k q)
      have hcx : wr.cell? ⟨g, off + k, none⟩ = some (.int .u8 (xs.getD k 0)) := (hN.cell (p := ⟨g, off + k, none⟩) hg).trans (hc k hlt)
      have hcy : wr.cell? ⟨w.heap.size + 1, q, none⟩ = some (.int .u64 (wv (fun j => xs.getD j 0) k q)) := by rw [hB.cell (by rw [hcp.1]; exact hq4), hcp.2 q hq4]
      have hfy := hB.free q
      have hd := hb k
      have q1 : (k : Int) / 8 = (q : Int) := by omega
      have q2 : (q : Int) < 8 := by omega
      have k2 : (k : Int) < (xs.length : Int) := by omega
      have hSt := fun v => hB.store q v
      have hS0 := fun v => hB0.of_block (w' := wr.setCell ⟨w.heap.size + 1, q, none⟩ (.int .u64 v)) (heap_setCell_other wr ⟨w.heap.size + 1, q, none⟩ w.heap.size _ (by show w.heap.size ≠ w.heap.size + 1; omega))
      have hSn : ∀ v, Below w.heap.size w (wr.setCell ⟨w.heap.size + 1, q, none⟩ v) := fun v => hN.setCell (by show w.heap.size ≤ w.heap.size + 1; omega) v
      generalize xs.getD k 0 = x at *
      generalize wv (fun j => xs.getD j 0) k q = z at *
      clear hc hcp hB0 hB hN hb hr hA hg
      rcases (show k % 8 = 0 ∨ k % 8 = 1 ∨ k % 8 = 2 ∨ k % 8 = 3 ∨ k % 8 = 4 ∨ k % 8 = 5 ∨ k % 8 = 6 ∨ k % 8 = 7 by omega) with h4 | h4 | h4 | h4 | h4 | h4 | h4 | h4
      · have r1 : (k : Int) % 8 = 0 := by omega
        rw [h4] at hsm hst
        have e := or64 z x 0 1 (by decide) hz.1 (by simpa using hsm) hd.1 (by omega) (by decide)
        simp only [Int.natCast_one, Int.mul_one] at e
        have e' : bits BinOp.or IntKind.u64 z x = z + x := e
        have R := hst (bits BinOp.or IntKind.u64 z x) (by rw [e']; simp)
        have S := hSt (bits BinOp.or IntKind.u64 z x)
        have S0 := hS0 (bits BinOp.or IntKind.u64 z x)
        clear hst hSt hS0 e hsm e'
        go_wp2
        go_region
        go_wp2
        go_roundw
        case rel => exact ⟨k + 1, _, by omega, by go_num, R, S0.drew, S.drew, (hSn _).drew⟩
        case measure => simp [intOf]; omega
      · have r1 : (k : Int) % 8 = 1 := by omega
        rw [h4] at hsm hst
        have e := or64 z x 8 256 (by decide) hz.1 (by simpa using hsm) hd.1 (by omega) (by decide)
        have e' : bits BinOp.or IntKind.u64 z (x * 256) = z + x * 256 := e
        have R := hst (bits BinOp.or IntKind.u64 z (x * 256)) (by rw [e']; simp)
        have S := hSt (bits BinOp.or IntKind.u64 z (x * 256))
        have S0 := hS0 (bits BinOp.or IntKind.u64 z (x * 256))
        clear hst hSt hS0 e hsm e'
        go_wp2
        go_region
        go_wp2
        go_roundw
        case rel => exact ⟨k + 1, _, by omega, by go_num, R, S0.drew, S.drew, (hSn _).drew⟩
        case measure => simp [intOf]; omega
      · have r1 : (k : Int) % 8 = 2 := by omega
        rw [h4] at hsm hst
        have e := or64 z x 16 65536 (by decide) hz.1 (by simpa using hsm) hd.1 (by omega) (by decide)
        have e' : bits BinOp.or IntKind.u64 z (x * 65536) = z + x * 65536 := e
        have R := hst (bits BinOp.or IntKind.u64 z (x * 65536)) (by rw [e']; simp)
        have S := hSt (bits BinOp.or IntKind.u64 z (x * 65536))
        have S0 := hS0 (bits BinOp.or IntKind.u64 z (x * 65536))
        clear hst hSt hS0 e hsm e'
        go_wp2
        go_region
        go_wp2
        go_roundw
        case rel => exact ⟨k + 1, _, by omega, by go_num, R, S0.drew, S.drew, (hSn _).drew⟩
        case measure => simp [intOf]; omega
      · have r1 : (k : Int) % 8 = 3 := by omega
        rw [h4] at hsm hst
        have e := or64 z x 24 16777216 (by decide) hz.1 (by simpa using hsm) hd.1 (by omega) (by decide)
        have e' : bits BinOp.or IntKind.u64 z (x * 16777216) = z + x * 16777216 := e
        have R := hst (bits BinOp.or IntKind.u64 z (x * 16777216)) (by rw [e']; simp)
        have S := hSt (bits BinOp.or IntKind.u64 z (x * 16777216))
        have S0 := hS0 (bits BinOp.or IntKind.u64 z (x * 16777216))
        clear hst hSt hS0 e hsm e'
        go_wp2
        go_region
        go_wp2
        go_roundw
        case rel => exact ⟨k + 1, _, by omega, by go_num, R, S0.drew, S.drew, (hSn _).drew⟩
        case measure => simp [intOf]; omega
      · have r1 : (k : Int) % 8 = 4 := by omega
        rw [h4] at hsm hst
        have e := or64 z x 32 4294967296 (by decide) hz.1 (by simpa using hsm) hd.1 (by omega) (by decide)
        have e' : bits BinOp.or IntKind.u64 z (x * 4294967296) = z + x * 4294967296 := e
        have R := hst (bits BinOp.or IntKind.u64 z (x * 4294967296)) (by rw [e']; simp)
        have S := hSt (bits BinOp.or IntKind.u64 z (x * 4294967296))
        have S0 := hS0 (bits BinOp.or IntKind.u64 z (x * 4294967296))
        clear hst hSt hS0 e hsm e'
        go_wp2
        go_region
        go_wp2
        go_roundw
        case rel => exact ⟨k + 1, _, by omega, by go_num, R, S0.drew, S.drew, (hSn _).drew⟩
        case measure => simp [intOf]; omega
      · have r1 : (k : Int) % 8 = 5 := by omega
        rw [h4] at hsm hst
        have e := or64 z x 40 1099511627776 (by decide) hz.1 (by simpa using hsm) hd.1 (by omega) (by decide)
        have e' : bits BinOp.or IntKind.u64 z (x * 1099511627776) = z + x * 1099511627776 := e
        have R := hst (bits BinOp.or IntKind.u64 z (x * 1099511627776)) (by rw [e']; simp)
        have S := hSt (bits BinOp.or IntKind.u64 z (x * 1099511627776))
        have S0 := hS0 (bits BinOp.or IntKind.u64 z (x * 1099511627776))
        clear hst hSt hS0 e hsm e'
        go_wp2
        go_region
        go_wp2
        go_roundw
        case rel => exact ⟨k + 1, _, by omega, by go_num, R, S0.drew, S.drew, (hSn _).drew⟩
        case measure => simp [intOf]; omega
      · have r1 : (k : Int) % 8 = 6 := by omega
        rw [h4] at hsm hst
        have e := or64 z x 48 281474976710656 (by decide) hz.1 (by simpa using hsm) hd.1 (by omega) (by decide)
        have e' : bits BinOp.or IntKind.u64 z (x * 281474976710656) = z + x * 281474976710656 := e
        have R := hst (bits BinOp.or IntKind.u64 z (x * 281474976710656)) (by rw [e']; simp)
        have S := hSt (bits BinOp.or IntKind.u64 z (x * 281474976710656))
        have S0 := hS0 (bits BinOp.or IntKind.u64 z (x * 281474976710656))
        clear hst hSt hS0 e hsm e'
        go_wp2
        go_region
        go_wp2
        go_roundw
        case rel => exact ⟨k + 1, _, by omega, by go_num, R, S0.drew, S.drew, (hSn _).drew⟩
        case measure => simp [intOf]; omega
      · have r1 : (k : Int) % 8 = 7 := by omega
        rw [h4] at hsm hst
        have e := or64 z x 56 72057594037927936 (by decide) hz.1 (by simpa using hsm) hd.1 (by omega) (by decide)
        have e' : bits BinOp.or IntKind.u64 z (x * 72057594037927936) = z + x * 72057594037927936 := e
        have R := hst (bits BinOp.or IntKind.u64 z (x * 72057594037927936)) (by rw [e']; simp)
        have S := hSt (bits BinOp.or IntKind.u64 z (x * 72057594037927936))
        have S0 := hS0 (bits BinOp.or IntKind.u64 z (x * 72057594037927936))
        clear hst hSt hS0 e hsm e'
        go_wp2
        go_region
        go_wp2
        go_roundw
        case rel => exact ⟨k + 1, _, by omega, by go_num, R, S0.drew, S.drew, (hSn _).drew⟩
        case measure => simp [intOf]; omega
    · obtain rfl : k = xs.length := by omega
      have hY := hcp.all
      subst hY
      obtain ⟨f, hf⟩ : ∃ f, f = wv (fun j => xs.getD j 0) xs.length := ⟨_, rfl⟩
      have HF : Hid (f = wv (fun j => xs.getD j 0) xs.length) := hf
      rw [← hf] at hB
      obtain ⟨⟨p0, p1, p2, p3, p4, p5, p6, p7⟩, _⟩ := hB.f8O
      obtain ⟨⟨r0, r1, r2, r3, r4, r5, r6, r7⟩, ⟨g0, g1, g2, g3, g4, g5, g6, g7⟩⟩ := hB0.f8O
      clear hf hcp
      go_wp2
      refine bodyPost_ret (v := ag8O f) (by simp [ag8O, results, Tryz.results58, go_sem, r0, r1, r2, r3, r4, r5, r6, r7]) rfl ⟨by rw [HF.out], ?_⟩
      exact below_set8O hN (Nat.le_refl _) _ _ _ _ _ _ _ _
end Go.Proofs.YtkglcainhkbgbaaGreatDoor
namespace Go.Proofs.YtkglcainhkbgbaaGreatDoor
set_option maxRecDepth 100000
open Go.RowKit
end Go.Proofs.YtkglcainhkbgbaaGreatDoor
namespace Go.Proofs.YtkglcainhkbgbaaGreatDoor
set_option maxRecDepth 100000
open Go.RowKit
def ovalid (xs : List Int) : Bool := decide (xs.length = 32) && decide (num xs < QQ)
end Go.Proofs.YtkglcainhkbgbaaGreatDoor
namespace Go.Proofs.YtkglcainhkbgbaaGreatDoor
set_option maxRecDepth 100000
open Go.RowKit
set_option maxHeartbeats 4000000 in
theorem scalarReduce_any (w : World) (s : Nat → Int) (hs : W4 s) (hQ : HasW w 0 qw 4) :
    Calls Tryz.prog 24 #[ag4 s] w fun r w' => r = .returned (ag4 (rdS s)) ∧ Below w.heap.size w w' := by
  have h3 := hs 3 (by omega)
  have n0 : Below w.heap.size w (w.alloc (.cells #[.int .u64 (s 0), .int .u64 (s 1), .int .u64 (s 2), .int .u64 (s 3)] 41)) := (Below.refl _ _).alloc (Nat.le_refl _) _
  have n1 : Below w.heap.size w ((w.alloc (.cells #[.int .u64 (s 0), .int .u64 (s 1), .int .u64 (s 2), .int .u64 (s 3)] 41)).alloc (.cells #[.int .u64 0, .int .u64 0, .int .u64 0, .int .u64 0] 41)) := n0.alloc (by simp) _
  have B1 : Blk ((w.alloc (.cells #[.int .u64 (s 0), .int .u64 (s 1), .int .u64 (s 2), .int .u64 (s 3)] 41)).alloc (.cells #[.int .u64 0, .int .u64 0, .int .u64 0, .int .u64 0] 41)) (w.heap.size + 1) .u64 [0, 0, 0, 0] := by
    have := blk_box4 (w.alloc (.cells #[.int .u64 (s 0), .int .u64 (s 1), .int .u64 (s 2), .int .u64 (s 3)] 41)) .u64 41 0 0 0 0
    simpa using this
  have LT := fun W (h : Below w.heap.size w W) => lessTimes_any W s qw (s 3 / 1152921504606846976) (by omega) hs qw_W4 (hQ.up h)
  have E : Hid (lsT (s 3 / 1152921504606846976) s qw = rdS s) := rfl
  obtain ⟨q0, q1, q2, q3⟩ := (hQ.up n1).f4
  obtain ⟨q, hq⟩ : ∃ q, q = qw := ⟨_, rfl⟩
  rw [← hq] at q0 q1 q2 q3 LT E
  clear hQ hq
  simp only [ag4] at LT ⊢
  go_enter Tryz.func24, Tryz.ntmps24
  go_wp2_with fail
  refine (LT _ n1).mono ?_
  rintro r w2 ⟨rfl, n2⟩
  have N2 := nxt n1 n2
  have B2 := B1.up n2
  generalize lsT (s 3 / 1152921504606846976) s q = f at *
  obtain ⟨⟨r0, r1, r2, r3⟩, ⟨g0, g1, g2, g3⟩⟩ := B2.f4
  clear B1 n0 n1 LT q0 q1 q2 q3
  go_wp2
  refine bodyPost_ret (v := ag4 f) (by simp [ag4, results, Tryz.results24, go_sem, r0, r1, r2, r3]) rfl ⟨by rw [E.out]; rfl, ?_⟩
  exact below_set4 N2 (by omega) _ _ _ _
set_option maxHeartbeats 4000000 in
theorem readScalarO_any (w : World) (g : Nat) (a : Option Addr) (cap : Nat) (xs : List Int) (hr : Rd w g a .u8 xs) (hb : Byt xs) (hl : xs.length = 32) :
    Calls Tryz.prog 23 #[.slice a 32 cap] w fun r w' => r = .returned (ag4 (wv (fun j => xs.getD j 0) 32)) ∧ Below w.heap.size w w' := by
  have n0 : Below w.heap.size w (w.alloc (.cells #[.int .u64 0, .int .u64 0, .int .u64 0, .int .u64 0] 41)) := (Below.refl _ _).alloc (Nat.le_refl _) _
  have B0 := blk_box4 w .u64 41 0 0 0 0
  have RW := fun W h => readWords_any W g a cap xs (hr.up h) hb hl
  clear hl hb hr
  generalize wv (fun j => xs.getD j 0) 32 = f at *
  simp only [ag4] at RW ⊢
  go_enter Tryz.func23, Tryz.ntmps23
  go_wp2_with fail
  refine (RW _ n0).mono ?_
  rintro r w2 ⟨rfl, n2⟩
  have N2 := nxt n0 n2
  have B2 := B0.up n2
  obtain ⟨⟨r0, r1, r2, r3⟩, ⟨g0, g1, g2, g3⟩⟩ := B2.f4
  clear B0 n0 RW
  go_wp2
  refine bodyPost_ret (v := ag4 f) (by simp [ag4, results, Tryz.results23, go_sem, r0, r1, r2, r3]) rfl ⟨rfl, ?_⟩
  exact below_set4 N2 (Nat.le_refl _) _ _ _ _
set_option maxHeartbeats 4000000 in
theorem eqScalar (a0 a1 a2 a3 b0 b1 b2 b3 : Int) (w : World) :
    (Op.equalIn 10000 41 (.agg #[.int .u64 a0, .int .u64 a1, .int .u64 a2, .int .u64 a3]) (.agg #[.int .u64 b0, .int .u64 b1, .int .u64 b2, .int .u64 b3])).run Tryz.prog w = .ok (a0 == b0 && a1 == b1 && a2 == b2 && a3 == b3) w := by
  have u3 := Tryz.underlying39
  have a3' := Tryz.isAgg39
  have z3 := Tryz.sizeOf39
  rw [show (10000 : Nat) = 9999 + 1 from rfl, Op.equalIn]
  simp only [Sem.run_bind, run_underlying Tryz.underlying41, Result.andThen_ok]
  simp only [Std.Legacy.Range.forIn_eq_forIn_range', Std.Legacy.Range.size, Nat.sub_zero, Nat.add_sub_cancel, Nat.div_one, List.range'_succ, List.range'_zero, List.forIn_cons, List.forIn_nil]
  go_simp
  by_cases h0 : a0 = b0 <;> by_cases h1 : a1 = b1 <;> by_cases h2 : a2 = b2 <;> by_cases h3 : a3 = b3 <;> simp [h0, h1, h2, h3]
theorem eq_W4 {U V : Nat → Int} (hU : W4 U) (hV : W4 V) : (U 0 == V 0 && U 1 == V 1 && U 2 == V 2 && U 3 == V 3) = decide (wval U = wval V) := by
  by_cases h : wval U = wval V
  · have e := hU.uniq hV h
    rw [e 0 (by omega), e 1 (by omega), e 2 (by omega), e 3 (by omega)]
    simp [h]
  · rw [decide_eq_false h]
    cases hq : (U 0 == V 0 && U 1 == V 1 && U 2 == V 2 && U 3 == V 3)
    · rfl
    · exfalso
      simp only [Bool.and_eq_true, beq_iff_eq] at hq
      exact h (by unfold wval; rw [hq.1.1.1, hq.1.1.2, hq.1.2, hq.2])
theorem num_nonneg {xs : List Int} (hb : Byt xs) : 0 ≤ num xs := by
  have : ∀ k, 0 ≤ lsum (fun j => xs.getD j 0) k := by
    intro k
    induction k with
    | zero => simp [lsum]
    | succ k ih =>
      have h1 := Int.mul_nonneg (hb k).1 (Int.le_of_lt (p256_pos k))
      rw [lsum]; omega
  exact this _
set_option maxHeartbeats 4000000 in
theorem implOrderValid_any (w : World) (g : Nat) (a : Option Addr) (c : Nat) (xs : List Int) (hr : Rd w g a .u8 xs) (hb : Byt xs) (hQ : HasW w 0 qw 4) :
    Calls Tryz.prog 10 #[.slice a xs.length c] w fun e w' => e = .returned (.bool (ovalid xs)) ∧ Below w.heap.size w w' := by
  by_cases hl : xs.length = 32
  · have R1 := readScalarO_any w g a c xs hr hb hl
    have hW : W4 (wv (fun j => xs.getD j 0) 32) := fun j _ => wv_lt hb 32 j
    have hv : wval (wv (fun j => xs.getD j 0) 32) = num xs := by rw [wv_sum _ 32 (by omega)]; unfold num; rw [hl]
    have h0 := num_nonneg hb
    have K : Hid (ovalid xs = decide (num xs < QQ)) := by show _ = _; simp [ovalid, hl]
    rw [hl]
    clear hl hr hb
    generalize wv (fun j => xs.getD j 0) 32 = f at *
    obtain ⟨r1, r2⟩ := rdS_ok hW
    have RD := fun W (h : Below w.heap.size w W) => scalarReduce_any W f hW (hQ.up h)
    have V : Hid ((rdS f 0 == f 0 && rdS f 1 == f 1 && rdS f 2 == f 2 && rdS f 3 == f 3) = ovalid xs) := by
      show _ = _
      rw [eq_W4 r1 hW, r2, hv, K.out]
      by_cases h : num xs < QQ
      · rw [decide_eq_true h, Int.emod_eq_of_lt h0 h]; simp
      · rw [decide_eq_false h, decide_eq_false]
        have := Int.emod_lt_of_pos (num xs) (show (0 : Int) < QQ by decide)
        omega
    have EQ := fun W => eqScalar (rdS f 0) (rdS f 1) (rdS f 2) (rdS f 3) (f 0) (f 1) (f 2) (f 3) W
    rw [V.out] at EQ
    generalize rdS f = u at *
    clear V K hv h0 r1 r2 hW
    simp only [ag4] at R1 RD
    go_enter Tryz.func10, Tryz.ntmps10
    go_wp2_with fail
    refine R1.mono ?_
    rintro e w1 ⟨rfl, n1⟩
    have n2 : Below w1.heap.size w1 (w1.alloc (.cells #[.int .u64 (f 0), .int .u64 (f 1), .int .u64 (f 2), .int .u64 (f 3)] 41)) := (Below.refl _ _).alloc (Nat.le_refl _) _
    have B2 := blk_box4 w1 .u64 41 (f 0) (f 1) (f 2) (f 3)
    have N2 := nxt n1 n2
    clear R1 n1 n2
    go_wp2
    generalize w1.alloc (.cells #[.int .u64 (f 0), .int .u64 (f 1), .int .u64 (f 2), .int .u64 (f 3)] 41) = w2 at *
    have CE : Hid (∀ W, Below w2.heap.size w2 W → W.cell? ⟨w1.heap.size, 0, none⟩ = some (.int .u64 (f 0)) ∧ W.cell? ⟨w1.heap.size, 1, none⟩ = some (.int .u64 (f 1)) ∧ W.cell? ⟨w1.heap.size, 2, none⟩ = some (.int .u64 (f 2)) ∧ W.cell? ⟨w1.heap.size, 3, none⟩ = some (.int .u64 (f 3))) := fun W n => (B2.up n).f4.1
    have RE : Hid (∀ W, Below w2.heap.size w2 W → Calls Tryz.prog 24 #[.agg #[.int .u64 (f 0), .int .u64 (f 1), .int .u64 (f 2), .int .u64 (f 3)]] W fun r w' => r = .returned (.agg #[.int .u64 (u 0), .int .u64 (u 1), .int .u64 (u 2), .int .u64 (u 3)]) ∧ Below w2.heap.size w2 w') := by
      intro W n
      refine (RD W (nxt N2 n)).mono ?_
      rintro r w' ⟨rfl, n'⟩
      exact ⟨rfl, nxt n n'⟩
    have nd : Below w2.heap.size w2 w2.drew := (Below.refl _ _).drew
    clear RD B2
    go_region_held3 (fun W => W.cell? ⟨w1.heap.size, 0, none⟩ = some (.int .u64 (f 0)) ∧ W.cell? ⟨w1.heap.size, 1, none⟩ = some (.int .u64 (f 1)) ∧ W.cell? ⟨w1.heap.size, 2, none⟩ = some (.int .u64 (f 2)) ∧ W.cell? ⟨w1.heap.size, 3, none⟩ = some (.int .u64 (f 3)))
      (first | exact (unhide CE) _ nd | exact (unhide CE) _ ns)
      (first
        | (go_at_call 24; refine ((unhide RE) _ nd).mono ?_; rintro r ws ⟨rfl, ns⟩))
    all_goals
      have NS := nxt N2 ns
      go_wp2
      go_ret
      exact ⟨rfl, NS⟩
  · have K : ovalid xs = false := by simp [ovalid, hl]
    have hK := hide K
    have t : ((xs.length : Int) == 32) = false := by simp; omega
    clear K hl
    go_enter Tryz.func10, Tryz.ntmps10
    go_wp2
    go_ret
    exact ⟨by rw [hK.out]; rfl, Below.refl _ _⟩
end Go.Proofs.YtkglcainhkbgbaaGreatDoor
namespace Go.Proofs.YtkglcainhkbgbaaGreatDoor
set_option maxRecDepth 100000
open Go.RowKit
theorem gOg : Tryz.prog.globalNamed "loop.example/g00004/impl.orderOfGroup" = some 0 := by kernel_rfl
theorem tOg : (Tryz.prog.globals[0]?).map (·.type) = some 41 := by kernel_rfl
theorem gOs : Tryz.prog.globalNamed "loop.example/g00004/impl.orderSixteenfold" = some 4 := by kernel_rfl
theorem tOs : (Tryz.prog.globals[4]?).map (·.type) = some 41 := by kernel_rfl
theorem gOf : Tryz.prog.globalNamed "loop.example/g00004/impl.orderFolds" = some 3 := by kernel_rfl
theorem tOf : (Tryz.prog.globals[3]?).map (·.type) = some 112 := by kernel_rfl
theorem uSc : Tryz.prog.underlying 41 = some (.array 4 39) := by kernel_rfl
theorem uOf : Tryz.prog.underlying 112 = some (.array 4 41) := by kernel_rfl
theorem cSc : Tryz.prog.cellsOf 41 = 4 := by kernel_rfl
theorem cW : Tryz.prog.cellsOf 39 = 1 := by kernel_rfl
theorem four_of_reads {W : World} {n : String} {g : Nat} {x y z u : Int} (hn : Tryz.prog.globalNamed n = some g) (ht : (Tryz.prog.globals[g]?).map (·.type) = some 41)
    (h : Lib.VarReads Tryz.prog W n (.agg [.lit (.int .u64 x), .lit (.int .u64 y), .lit (.int .u64 z), .lit (.int .u64 u)])) (f : Nat → Int) (hf : f 0 = x ∧ f 1 = y ∧ f 2 = z ∧ f 3 = u) : HasW W g f 4 := by
  obtain ⟨g', t, cs, fuel, p, hg, ht', hv, hd⟩ := h
  obtain rfl := Option.some.inj (hn.symm.trans hg)
  obtain rfl := Option.some.inj (ht.symm.trans ht')
  have hcs := Lib.cells_of_tab (zs := [x, y, z, u]) uSc Tryz.underlying39 cW cSc hd
  obtain ⟨rfl, rfl, rfl, rfl⟩ := hf
  intro k hk
  rw [World.var?_cell hg hv k]
  obtain ⟨l⟩ := cs
  simp only at hcs
  subst hcs
  obtain rfl | rfl | rfl | rfl : k = 0 ∨ k = 1 ∨ k = 2 ∨ k = 3 := by omega
  all_goals rfl
theorem folds_of_reads {W : World} (h : Lib.VarReads Tryz.prog W "loop.example/g00004/impl.orderFolds" Rows.laid_loop_example_g00004_impl_orderFolds) : HasW W 3 (fun k => fw (k / 4) (k % 4)) 16 := by
  obtain ⟨g, t, cs, fuel, p, hg, ht, hv, hd⟩ := h
  obtain rfl := Option.some.inj (gOf.symm.trans hg)
  obtain rfl := Option.some.inj (tOf.symm.trans ht)
  have key : ∀ j, j < 4 → (cs.toList.drop (j * 4)).take 4 = [.int .u64 (fw j 0), .int .u64 (fw j 1), .int .u64 (fw j 2), .int .u64 (fw j 3)] := by
    intro j hj
    obtain ⟨f', d, q, h1, h2⟩ := Lib.array_elem uOf hd j hj
    rw [cSc] at h2
    obtain rfl | rfl | rfl | rfl : j = 0 ∨ j = 1 ∨ j = 2 ∨ j = 3 := by omega
    all_goals
      cases h1
      exact Lib.cells_of_tab (zs := [_, _, _, _]) uSc Tryz.underlying39 cW cSc h2
  intro i hi
  rw [World.var?_cell hg hv i]
  have k := key (i / 4) (by omega)
  have e : cs[i]? = ((cs.toList.drop (i / 4 * 4)).take 4)[i % 4]? := by
    rw [List.getElem?_take, if_pos (by omega), List.getElem?_drop, show i / 4 * 4 + i % 4 = i by omega]
    simp
  rw [e, k]
  show _ = some (Value.int .u64 (fw (i / 4) (i % 4)))
  rcases (show i % 4 = 0 ∨ i % 4 = 1 ∨ i % 4 = 2 ∨ i % 4 = 3 by omega) with r | r | r | r
  all_goals
    rw [r]
    rfl
theorem reads_ofq {l : List (String × DataW Unit)} {W : World} (h : laidMetH Tryz.prog l W) (hp : (l.all fun x => x.2.handleName?.isNone) = true) {n : String} {d : DataW Unit} (hm : (n, d) ∈ l) : Lib.VarReads Tryz.prog W n d := by
  rw [MakeChecks.laidMetH_plain _ _ _ hp] at h
  exact Lib.laidMet.reads h hm
theorem q_of_reads {W : World} (h : Lib.VarReads Tryz.prog W "loop.example/g00004/impl.orderOfGroup" Rows.laid_loop_example_g00004_impl_orderOfGroup) : HasW W 0 qw 4 := four_of_reads gOg tOg h qw ⟨rfl, rfl, rfl, rfl⟩
theorem s_of_reads {W : World} (h : Lib.VarReads Tryz.prog W "loop.example/g00004/impl.orderSixteenfold" Rows.laid_loop_example_g00004_impl_orderSixteenfold) : HasW W 4 q16 4 := four_of_reads gOs tOs h q16 ⟨rfl, rfl, rfl, rfl⟩
def HasO (W : World) : Prop := HasW W 0 qw 4 ∧ HasW W 4 q16 4 ∧ HasW W 3 (fun k => fw (k / 4) (k % 4)) 16
theorem HasO.up {W W' : World} (h : HasO W) (n : Below W.heap.size W W') : HasO W' := ⟨h.1.up n, h.2.1.up n, h.2.2.up n⟩
end Go.Proofs.YtkglcainhkbgbaaGreatDoor
namespace Go.Proofs.YtkglcainhkbgbaaGreatDoor
set_option maxRecDepth 100000
open Go.RowKit
def fdL : List Int := (List.range 16).map (fun k => fw (k / 4) (k % 4))
def fdA : Array Value := (fdL.map (Value.int .u64)).toArray
theorem u91 : Tryz.prog.underlying 112 = some (.array 4 41) := by kernel_rfl
theorem i91 : (Tryz.prog.info? 112).map (·.size) = some fdA.toList.length := by kernel_rfl
theorem fd_range {W : World} {g : Nat} (h : HasW W g (fun k => fw (k / 4) (k % 4)) 16) : W.rangeAt g 0 fdA.toList := by
  intro j v hv
  have hj : j < 16 := by
    have := (List.getElem?_eq_some_iff.1 hv).1
    simpa [fdA, fdL] using this
  have e : fdA.toList[j]? = some (Value.int .u64 (fw (j / 4) (j % 4))) := by
    simp [fdA, fdL, hj]
  rw [Nat.zero_add, h j hj, ← e]; exact hv
theorem fd_idx (k : Nat) (hk : k < 4) (W : World) : (Instr.index 112 (.agg fdA) (.int .i64 (k : Int))).run Tryz.prog W = .ok (.agg #[.int .u64 (fw k 0), .int .u64 (fw k 1), .int .u64 (fw k 2), .int .u64 (fw k 3)]) W := by
  obtain rfl | rfl | rfl | rfl : k = 0 ∨ k = 1 ∨ k = 2 ∨ k = 3 := by omega
  all_goals kernel_rfl
abbrev set8 (W : World) (q : Nat) (u : Nat → Int) : World :=
  (((((((W.setCell ⟨q, 0, none⟩ (.int .u64 (u 0))).setCell ⟨q, 1, none⟩ (.int .u64 (u 1))).setCell ⟨q, 2, none⟩ (.int .u64 (u 2))).setCell ⟨q, 3, none⟩ (.int .u64 (u 3))).setCell ⟨q, 4, none⟩ (.int .u64 (u 4))).setCell ⟨q, 5, none⟩ (.int .u64 (u 5))).setCell ⟨q, 6, none⟩ (.int .u64 (u 6))).setCell ⟨q, 7, none⟩ (.int .u64 (u 7))
theorem set8_same {W : World} {q : Nat} {a b c d e f g h : Int} (u : Nat → Int) (B : Blk W q .u64 [a, b, c, d, e, f, g, h]) : Blk (set8 W q u) q .u64 (c8 u) :=
  (((((((B.store 0 _).store 1 _).store 2 _).store 3 _).store 4 _).store 5 _).store 6 _).store 7 _
theorem blk_set {W : World} {g p i : Nat} {k : IntKind} {ys : List Int} {v : Value} (h : Blk W g k ys) (hne : g ≠ p) : Blk (W.setCell ⟨p, i, none⟩ v) g k ys := h.of_block (heap_setCell_other W ⟨p, i, none⟩ g v hne)
theorem set8_keep {W : World} {q g : Nat} {k : IntKind} {ys : List Int} {u : Nat → Int} (B : Blk W g k ys) (hne : g ≠ q) : Blk (set8 W q u) g k ys :=
  blk_set (blk_set (blk_set (blk_set (blk_set (blk_set (blk_set (blk_set B hne) hne) hne) hne) hne) hne) hne) hne
set_option maxHeartbeats 8000000 in
theorem doubleReduce_any (w : World) (D : Nat → Int) (hD : W8 D) (hO : HasO w) :
    Calls Tryz.prog 38 #[ag8O D] w fun r w' => r = .returned (ag4 (rdD D)) ∧ Below w.heap.size w w' := by
  obtain ⟨hov, hw8, _, _, _, _⟩ := fd_all hD
  have B0 := blk_box8 w .u64 64 (D 0) (D 1) (D 2) (D 3) (D 4) (D 5) (D 6) (D 7)
  have n0 : Below w.heap.size w (w.alloc (.cells #[.int .u64 (D 0), .int .u64 (D 1), .int .u64 (D 2), .int .u64 (D 3), .int .u64 (D 4), .int .u64 (D 5), .int .u64 (D 6), .int .u64 (D 7)] 64)) := (Below.refl _ _).alloc (Nat.le_refl _) _
  have s0 : (w.alloc (.cells #[.int .u64 (D 0), .int .u64 (D 1), .int .u64 (D 2), .int .u64 (D 3), .int .u64 (D 4), .int .u64 (D 5), .int .u64 (D 6), .int .u64 (D 7)] 64)).heap.size = w.heap.size + 1 := by simp
  simp only [ag8O]
  go_enter Tryz.func38, Tryz.ntmps38
  go_upto_region 1 with fail
  generalize w.alloc (.cells #[.int .u64 (D 0), .int .u64 (D 1), .int .u64 (D 2), .int .u64 (D 3), .int .u64 (D 4), .int .u64 (D 5), .int .u64 (D 6), .int .u64 (D 7)] 64) = wa at *
  have B1 := blk_box4 wa .u64 41 0 0 0 0
  have n1 : Below wa.heap.size wa (wa.alloc (.cells #[.int .u64 0, .int .u64 0, .int .u64 0, .int .u64 0] 41)) := (Below.refl _ _).alloc (Nat.le_refl _) _
  have s1 : (wa.alloc (.cells #[.int .u64 0, .int .u64 0, .int .u64 0, .int .u64 0] 41)).heap.size = w.heap.size + 1 + 1 := by simp [s0]
  generalize wa.alloc (.cells #[.int .u64 0, .int .u64 0, .int .u64 0, .int .u64 0] 41) = wb at *
  have B0' := (B0.up n1).f8O.1
  obtain ⟨p0, p1, p2, p3, _, _, _, _⟩ := B0'
  have B2 := blk_box8 wb .u64 64 (D 0) (D 1) (D 2) (D 3) 0 0 0 0
  have n2 : Below wb.heap.size wb (wb.alloc (.cells #[.int .u64 (D 0), .int .u64 (D 1), .int .u64 (D 2), .int .u64 (D 3), .int .u64 0, .int .u64 0, .int .u64 0, .int .u64 0] 64)) := (Below.refl _ _).alloc (Nat.le_refl _) _
  have hR := hide (fd_range (hO.2.2.up (nxt (nxt n0 n1) n2)))
  go_upto_region 2 with fail
  go_wp2_with (refine wpList_load_mid rfl 112 (Operand.global 3) rfl 3 0 rfl fdA.toList (.array 4 41) hR.out u91 rfl i91 ?_)
  clear hR
  generalize wb.alloc (.cells #[.int .u64 (D 0), .int .u64 (D 1), .int .u64 (D 2), .int .u64 (D 3), .int .u64 0, .int .u64 0, .int .u64 0, .int .u64 0] 64) = wc at *
  rw [s0] at B1
  rw [s1] at B2
  have E0 := (B0.up n1).up n2
  have E1 := B1.up n2
  have N := nxt (nxt n0 n1) n2
  have E2 : Blk wc (w.heap.size + 1 + 1) .u64 (c8 (fd D 0)) := B2
  clear B0 B1 B2 n0 n1 n2 s0 s1 p0 p1 p2 p3
  go_loopw [17] (fun i wr => ∃ k : Nat, k ≤ 4 ∧ i = .int .i64 k ∧ Blk wr w.heap.size .u64 (c8 D) ∧ Blk wr (w.heap.size + 1) .u64 [0, 0, 0, 0] ∧ Blk wr (w.heap.size + 1 + 1) .u64 (c8 (fd D k)) ∧ Below w.heap.size w wr) (fun i _ => 4 - (intOf i).toNat)
  case atStart => exact ⟨0, by omega, rfl, E0, E1, E2, N⟩
  case round =>
    clear E0 E1 E2 N
    obtain ⟨k, hk, rfl, hB, hR, hF, hN⟩ := hrel
    by_cases hlt : k < 4
    · have IX := fd_idx k hlt
      have dk := hD (4 + k) (by omega)
      have e1 : adT 0 (D (4 + k)) (fw k) (fd D k) = fd D (k + 1) := rfl
      have AT0 := fun W => addTimes_any W (fd D k) (fw k) 0 (D (4 + k)) (by omega) dk (fw_W4 k hlt) (hw8 k hk) (by simpa using hov k hlt)
      rw [e1] at AT0
      have cd0 : (c8 D).getD (4 + k) 0 = D (4 + k) := c8_get _ _ (by omega)
      have yl : (c8 D).length = 8 := rfl
      have T0 := blk_box4 wr .u64 41 (fw k 0) (fw k 1) (fw k 2) (fw k 3)
      have n0 : Below wr.heap.size wr (wr.alloc (.cells #[.int .u64 (fw k 0), .int .u64 (fw k 1), .int .u64 (fw k 2), .int .u64 (fw k 3)] 41)) := (Below.refl _ _).alloc (Nat.le_refl _) _
      have sn : (wr.alloc (.cells #[.int .u64 (fw k 0), .int .u64 (fw k 1), .int .u64 (fw k 2), .int .u64 (fw k 3)] 41)).heap.size = wr.heap.size + 1 := by simp
      have hB1 := hB.up n0
      have hR1 := hR.up n0
      have hF1 := hF.up n0
      have hN1 := nxt hN n0
      have ll := hF.lt
      clear hB hR hF hN
      generalize fw k = t at *
      obtain ⟨f, hf⟩ : ∃ f, f = fd D (k + 1) := ⟨_, rfl⟩
      have HF : Hid (f = fd D (k + 1)) := hf
      rw [← hf] at AT0
      clear hf e1
      generalize fd D k = F at *
      obtain ⟨yd, hyd⟩ : ∃ yd, yd = c8 D := ⟨_, rfl⟩
      have HYD : Hid (yd = c8 D) := hyd
      rw [← hyd] at hB1 cd0 yl
      generalize D (4 + k) = dv at *
      have k2 : (k : Int) < 4 := by omega
      go_upto_region 5 with fail
      generalize wr.alloc (.cells #[.int .u64 (t 0), .int .u64 (t 1), .int .u64 (t 2), .int .u64 (t 3)] 41) = wn at *
      obtain ⟨G, hG⟩ : ∃ G, G = wr.heap.size := ⟨_, rfl⟩
      rw [← hG] at T0 sn ll ⊢
      clear n0 hG hyd
      have kk : IntKind.i64.wrap (4 + (k : Int)) = 4 + (k : Int) := by rw [IntKind.wrap_i64]; omega
      have kl : (4 : Int) + (k : Int) < 8 := by omega
      have k0 : (0 : Int) ≤ 4 + (k : Int) := by omega
      have kt : ((4 : Int) + (k : Int)).toNat = 4 + k := by omega
      have SB : Hid (∀ W, Below wn.heap.size wn W → W.cell? ⟨w.heap.size, 4 + k, none⟩ = some (.int .u64 dv) ∧ W.cell? ⟨G, 0, none⟩ = some (.int .u64 (t 0)) ∧ W.cell? ⟨G, 1, none⟩ = some (.int .u64 (t 1)) ∧ W.cell? ⟨G, 2, none⟩ = some (.int .u64 (t 2)) ∧ W.cell? ⟨G, 3, none⟩ = some (.int .u64 (t 3))) := by
        intro W n
        obtain ⟨x0, x1, x2, x3⟩ := (T0.up n).f4.1
        exact ⟨by rw [(hB1.up n).cell (by omega), cd0], x0, x1, x2, x3⟩
      have SS : Hid (∀ W, Below wn.heap.size wn W → (fun W => W.cell? ⟨w.heap.size, 4 + k, none⟩ = some (.int .u64 dv) ∧ W.cell? ⟨G, 0, none⟩ = some (.int .u64 (t 0)) ∧ W.cell? ⟨G, 1, none⟩ = some (.int .u64 (t 1)) ∧ W.cell? ⟨G, 2, none⟩ = some (.int .u64 (t 2)) ∧ W.cell? ⟨G, 3, none⟩ = some (.int .u64 (t 3))) (set8 W (w.heap.size + 1 + 1) f)) := by
        intro W n
        obtain ⟨x0, x1, x2, x3⟩ := (set8_keep (q := w.heap.size + 1 + 1) (u := f) (T0.up n) (by omega)).f4.1
        exact ⟨by rw [(set8_keep (q := w.heap.size + 1 + 1) (u := f) (hB1.up n) (by omega)).cell (by omega), cd0], x0, x1, x2, x3⟩
      have AT : Hid (∀ W, Below wn.heap.size wn W → Calls Tryz.prog 60 #[.agg #[.int .u64 (F 0), .int .u64 (F 1), .int .u64 (F 2), .int .u64 (F 3), .int .u64 (F 4), .int .u64 (F 5), .int .u64 (F 6), .int .u64 (F 7)], .int .i64 0, .int .u64 dv, .agg #[.int .u64 (t 0), .int .u64 (t 1), .int .u64 (t 2), .int .u64 (t 3)]] W fun r w' => r = .returned (.agg #[.int .u64 (f 0), .int .u64 (f 1), .int .u64 (f 2), .int .u64 (f 3), .int .u64 (f 4), .int .u64 (f 5), .int .u64 (f 6), .int .u64 (f 7)]) ∧ Below wn.heap.size wn w') := by
        intro W n
        refine (AT0 W).mono ?_
        rintro r w' ⟨rfl, n'⟩
        exact ⟨rfl, nxt n n'⟩
      have FB : Hid (∀ W, Below wn.heap.size wn W → Blk W (w.heap.size + 1 + 1) .u64 [F 0, F 1, F 2, F 3, F 4, F 5, F 6, F 7]) := fun W n => hF1.up n
      have nd : Below wn.heap.size wn wn.drew := (Below.refl _ _).drew
      obtain ⟨⟨y0, y1, y2, y3, y4, y5, y6, y7⟩, _⟩ := ((unhide FB) wn (Below.refl _ _)).f8O
      clear AT0 IX T0
      obtain ⟨xd, x0, x1, x2, x3⟩ := (unhide SB) wn (Below.refl _ _)
      clear SB SS
      go_region_with
        (first
          | (go_at_call 60; refine ((unhide AT) _ nd).mono ?_; rintro r wm ⟨rfl, nm⟩; obtain ⟨⟨z0, z1, z2, z3, z4, z5, z6, z7⟩, ⟨g0, g1, g2, g3, g4, g5, g6, g7⟩⟩ := ((unhide FB) wm nm).f8O))
      all_goals
        have S0 := set8_keep (q := w.heap.size + 1 + 1) (u := f) (hB1.up nm) (by omega)
        have S1 := set8_keep (q := w.heap.size + 1 + 1) (u := f) (hR1.up nm) (by omega)
        have S2 := set8_same f ((unhide FB) wm nm)
        have S3 : Below w.heap.size w (set8 wm (w.heap.size + 1 + 1) f) := below_set8O (nxt hN1 nm) (by omega) _ _ _ _ _ _ _ _
        rw [HYD.out] at S0
        rw [HF.out] at S2
        have HS2 := hide S2
        clear AT FB nd hB1 hR1 hF1 hN1 y0 y1 y2 y3 y4 y5 y6 y7 z0 z1 z2 z3 z4 z5 z6 z7 g0 g1 g2 g3 g4 g5 g6 g7 S2 HYD cd0 yl xd x0 x1 x2 x3
        go_wp2
        go_roundw
        case rel => exact ⟨k + 1, by omega, by go_num, S0, S1, by rw [HF.out]; exact HS2.out, S3⟩
        case measure => simp [intOf]; omega
    · obtain rfl : k = 4 := by omega
      have w8 := hw8 4 (by omega)
      have LT0 := fun W (h : Below w.heap.size w W) => lessTimes_any W (fd D 4) q16 (fd D 4 4) (w8 4 (by omega)) (fun j hj => w8 j (by omega)) q16_W4 (hO.1.up h)
      have RD0 := fun W (h : Below w.heap.size w W) => scalarReduce_any W (lsT (fd D 4 4) (fd D 4) q16) (lsT_fd hD).1 (hO.1.up h)
      have HF : Hid (rdD D = rdS (lsT (fd D 4 4) (fd D 4) q16)) := rfl
      have T0 := blk_box4 wr .u64 41 (fd D 4 0) (fd D 4 1) (fd D 4 2) (fd D 4 3)
      have n0 : Below wr.heap.size wr (wr.alloc (.cells #[.int .u64 (fd D 4 0), .int .u64 (fd D 4 1), .int .u64 (fd D 4 2), .int .u64 (fd D 4 3)] 41)) := (Below.refl _ _).alloc (Nat.le_refl _) _
      have hN1 := nxt hN n0
      have hR1 := hR.up n0
      obtain ⟨⟨y0, y1, y2, y3, y4, _, _, _⟩, _⟩ := hF.f8O
      obtain ⟨⟨_, _, _, _, v4, _, _, _⟩, _⟩ := (hF.up n0).f8O
      obtain ⟨q0, q1, q2, q3⟩ := (hO.2.1.up hN1).f4
      generalize lsT (fd D 4 4) (fd D 4) q16 = l at *
      generalize fd D 4 = F at *
      obtain ⟨f, hf⟩ : ∃ f, f = rdS l := ⟨_, rfl⟩
      have HF2 : Hid (f = rdS l) := hf
      rw [← hf] at RD0
      obtain ⟨q, hq⟩ : ∃ q, q = q16 := ⟨_, rfl⟩
      rw [← hq] at LT0 q0 q1 q2 q3
      clear hf hq hB hF hN n0 hov hw8 w8 hO hR
      simp only [ag4] at LT0 RD0
      go_wp2_with fail
      generalize wr.alloc (.cells #[.int .u64 (F 0), .int .u64 (F 1), .int .u64 (F 2), .int .u64 (F 3)] 41) = wn at *
      refine (LT0 wn hN1).mono ?_
      rintro r w1 ⟨rfl, n1⟩
      have N1 := nxt hN1 n1
      go_wp2_with fail
      refine (RD0 w1 N1).mono ?_
      rintro r w2 ⟨rfl, n2⟩
      have N2 := nxt N1 n2
      have R2 := (hR1.up n1).up n2
      obtain ⟨⟨r0, r1, r2, r3⟩, ⟨g0, g1, g2, g3⟩⟩ := R2.f4
      clear LT0 RD0 N1 hN1 hR1 n1 n2 T0 y0 y1 y2 y3 y4 v4 q0 q1 q2 q3
      go_wp2
      refine bodyPost_ret (v := ag4 f) (by simp [ag4, results, Tryz.results38, go_sem, r0, r1, r2, r3]) rfl ⟨by rw [HF.out, HF2.out], ?_⟩
      exact below_set4 N2 (by omega) _ _ _ _
end Go.Proofs.YtkglcainhkbgbaaGreatDoor
namespace Go.Proofs.YtkglcainhkbgbaaGreatDoor
set_option maxRecDepth 100000
open Go.RowKit
set_option maxHeartbeats 8000000 in
theorem mulAdd_any (w : World) (s t u : Nat → Int) (hs : W4 s) (ht : W4 t) (hu : W4 u) :
    Calls Tryz.prog 37 #[ag4 s, ag4 t, ag4 u] w fun r w' => r = .returned (ag8O (ma s t u 4)) ∧ Below w.heap.size w w' := by
  obtain ⟨hov, hw8, _⟩ := ma_all hs ht hu
  have n0 : Below w.heap.size w (w.alloc (.cells #[.int .u64 (s 0), .int .u64 (s 1), .int .u64 (s 2), .int .u64 (s 3)] 41)) := (Below.refl _ _).alloc (Nat.le_refl _) _
  have B0 := blk_box4 w .u64 41 (s 0) (s 1) (s 2) (s 3)
  have s0 : (w.alloc (.cells #[.int .u64 (s 0), .int .u64 (s 1), .int .u64 (s 2), .int .u64 (s 3)] 41)).heap.size = w.heap.size + 1 := by simp
  simp only [ag4]
  go_enter Tryz.func37, Tryz.ntmps37
  go_upto_region 1 with fail
  generalize w.alloc (.cells #[.int .u64 (s 0), .int .u64 (s 1), .int .u64 (s 2), .int .u64 (s 3)] 41) = wa at *
  have B1 := blk_box4 wa .u64 41 (t 0) (t 1) (t 2) (t 3)
  have n1 : Below wa.heap.size wa (wa.alloc (.cells #[.int .u64 (t 0), .int .u64 (t 1), .int .u64 (t 2), .int .u64 (t 3)] 41)) := (Below.refl _ _).alloc (Nat.le_refl _) _
  have s1 : (wa.alloc (.cells #[.int .u64 (t 0), .int .u64 (t 1), .int .u64 (t 2), .int .u64 (t 3)] 41)).heap.size = w.heap.size + 1 + 1 := by simp [s0]
  generalize wa.alloc (.cells #[.int .u64 (t 0), .int .u64 (t 1), .int .u64 (t 2), .int .u64 (t 3)] 41) = wb at *
  have B2 := blk_box4 wb .u64 41 (u 0) (u 1) (u 2) (u 3)
  have n2 : Below wb.heap.size wb (wb.alloc (.cells #[.int .u64 (u 0), .int .u64 (u 1), .int .u64 (u 2), .int .u64 (u 3)] 41)) := (Below.refl _ _).alloc (Nat.le_refl _) _
  have s2 : (wb.alloc (.cells #[.int .u64 (u 0), .int .u64 (u 1), .int .u64 (u 2), .int .u64 (u 3)] 41)).heap.size = w.heap.size + 1 + 1 + 1 := by simp [s1]
  generalize wb.alloc (.cells #[.int .u64 (u 0), .int .u64 (u 1), .int .u64 (u 2), .int .u64 (u 3)] 41) = wc at *
  have B3 := blk_box8 wc .u64 64 0 0 0 0 0 0 0 0
  have n3 : Below wc.heap.size wc (wc.alloc (.cells #[.int .u64 0, .int .u64 0, .int .u64 0, .int .u64 0, .int .u64 0, .int .u64 0, .int .u64 0, .int .u64 0] 64)) := (Below.refl _ _).alloc (Nat.le_refl _) _
  have s3 : (wc.alloc (.cells #[.int .u64 0, .int .u64 0, .int .u64 0, .int .u64 0, .int .u64 0, .int .u64 0, .int .u64 0, .int .u64 0] 64)).heap.size = w.heap.size + 1 + 1 + 1 + 1 := by simp [s2]
  generalize wc.alloc (.cells #[.int .u64 0, .int .u64 0, .int .u64 0, .int .u64 0, .int .u64 0, .int .u64 0, .int .u64 0, .int .u64 0] 64) = wd at *
  rw [s0] at B1
  rw [s1] at B2
  rw [s2] at B3
  obtain ⟨⟨p0, p1, p2, p3⟩, _⟩ := (B2.up n3).f4
  have B4 := blk_box8 wd .u64 64 (u 0) (u 1) (u 2) (u 3) 0 0 0 0
  have n4 : Below wd.heap.size wd (wd.alloc (.cells #[.int .u64 (u 0), .int .u64 (u 1), .int .u64 (u 2), .int .u64 (u 3), .int .u64 0, .int .u64 0, .int .u64 0, .int .u64 0] 64)) := (Below.refl _ _).alloc (Nat.le_refl _) _
  rw [s3] at B4
  obtain ⟨⟨v0, v1, v2, v3⟩, _⟩ := ((((B0.up n1).up n2).up n3).up n4).f4
  have E1 := ((B1.up n2).up n3).up n4
  have E3 := B3.up n4
  have N := nxt (nxt (nxt (nxt n0 n1) n2) n3) n4
  go_wp2
  generalize wd.alloc (.cells #[.int .u64 (u 0), .int .u64 (u 1), .int .u64 (u 2), .int .u64 (u 3), .int .u64 0, .int .u64 0, .int .u64 0, .int .u64 0] 64) = we at *
  have E4 : Blk we (w.heap.size + 1 + 1 + 1 + 1) .u64 (c8 (ma s t u 0)) := B4
  clear B0 B1 B2 B3 B4 n0 n1 n2 n3 n4 s0 s1 s2 s3 p0 p1 p2 p3 v0 v1 v2 v3
  go_loopw [20] (fun i wr => ∃ k : Nat, k ≤ 4 ∧ i = .int .i64 k ∧ Blk wr (w.heap.size + 1) .u64 [t 0, t 1, t 2, t 3] ∧ Blk wr (w.heap.size + 1 + 1 + 1) .u64 [0, 0, 0, 0, 0, 0, 0, 0] ∧ Blk wr (w.heap.size + 1 + 1 + 1 + 1) .u64 (c8 (ma s t u k)) ∧ Below w.heap.size w wr) (fun i _ => 4 - (intOf i).toNat)
  case atStart => exact ⟨0, by omega, rfl, E1, E3, E4, N⟩
  case round =>
    clear E1 E3 E4 N
    obtain ⟨k, hk, rfl, hT, hR, hF, hN⟩ := hrel
    by_cases hlt : k < 4
    · have IX := idx4 s k hlt
      have e1 : adT k (s k) t (ma s t u k) = ma s t u (k + 1) := rfl
      have AT := fun W => addTimes_any W (ma s t u k) t k (s k) (by omega) (hs k hlt) ht (hw8 k hk) (hov k hlt)
      rw [e1] at AT
      have k2 : (k : Int) < 4 := by omega
      obtain ⟨f, hf⟩ : ∃ f, f = ma s t u (k + 1) := ⟨_, rfl⟩
      have HF : Hid (f = ma s t u (k + 1)) := hf
      rw [← hf] at AT
      clear hf e1
      generalize ma s t u k = F at *
      generalize s k = sv at *
      obtain ⟨⟨t0, t1, t2, t3⟩, _⟩ := hT.f4
      obtain ⟨⟨y0, y1, y2, y3, y4, y5, y6, y7⟩, _⟩ := hF.f8O
      simp only [ag8O, ag4] at AT
      go_wp2_with fail
      refine (AT _).mono ?_
      rintro r wm ⟨rfl, nm⟩
      have hFm := hF.up nm
      obtain ⟨⟨z0, z1, z2, z3, z4, z5, z6, z7⟩, ⟨g0, g1, g2, g3, g4, g5, g6, g7⟩⟩ := hFm.f8O
      have S0 := set8_keep (q := w.heap.size + 1 + 1 + 1 + 1) (u := f) (hT.up nm) (by omega)
      have S1 := set8_keep (q := w.heap.size + 1 + 1 + 1 + 1) (u := f) (hR.up nm) (by omega)
      have S2 := set8_same f hFm
      have S3 : Below w.heap.size w (set8 wm (w.heap.size + 1 + 1 + 1 + 1) f) := below_set8O (nxt hN nm) (by omega) _ _ _ _ _ _ _ _
      have HS2 : Hid (Blk (set8 wm (w.heap.size + 1 + 1 + 1 + 1) f) (w.heap.size + 1 + 1 + 1 + 1) .u64 (c8 (ma s t u (k + 1)))) := by rw [← HF.out]; exact S2
      clear AT hT hR hF hN hFm nm S2 t0 t1 t2 t3 y0 y1 y2 y3 y4 y5 y6 y7 hov hw8
      go_wp2
      go_roundw
      case rel => exact ⟨k + 1, by omega, by go_num, S0, S1, HS2.out, S3⟩
      case measure => simp [intOf]; omega
    · obtain rfl : k = 4 := by omega
      obtain ⟨f, hf⟩ : ∃ f, f = ma s t u 4 := ⟨_, rfl⟩
      have HF : Hid (f = ma s t u 4) := hf
      rw [← hf] at hF
      obtain ⟨⟨p0, p1, p2, p3, p4, p5, p6, p7⟩, _⟩ := hF.f8O
      obtain ⟨⟨r0, r1, r2, r3, r4, r5, r6, r7⟩, ⟨g0, g1, g2, g3, g4, g5, g6, g7⟩⟩ := hR.f8O
      clear hf hov hw8
      go_wp2
      refine bodyPost_ret (v := ag8O f) (by simp [ag8O, results, Tryz.results37, go_sem, r0, r1, r2, r3, r4, r5, r6, r7]) rfl ⟨by rw [HF.out], ?_⟩
      exact below_set8O hN (by omega) _ _ _ _ _ _ _ _
end Go.Proofs.YtkglcainhkbgbaaGreatDoor
namespace Go.Proofs.YtkglcainhkbgbaaGreatDoor
set_option maxRecDepth 100000
open Go Go.RowKit
def hsW (ys : List Int) : Nat → Int := rdD (wv (fun j => (hashL64 ys).getD j 0) 64)
theorem hsW_ok (ys : List Int) : W4 (hsW ys) ∧ wval (hsW ys) = num (hashL64 ys) % QQ := by
  have hW : W8 (wv (fun j => (hashL64 ys).getD j 0) 64) := fun j _ => wv_lt (hash64_byt ys) _ j
  have hv : dval (wv (fun j => (hashL64 ys).getD j 0) 64) = num (hashL64 ys) := by
    have e := hash64_len ys
    unfold num
    rw [e, wv_dval _ _ (by omega)]
  obtain ⟨r1, r2⟩ := rdD_ok hW
  exact ⟨r1, by rw [← hv]; exact r2⟩
def hsN (ys : List Int) : Nat := (num (hashL64 ys) % QQ).toNat
theorem hsN_val (ys : List Int) : wval (hsW ys) = (hsN ys : Int) := by
  rw [(hsW_ok ys).2]
  unfold hsN
  have := Int.emod_nonneg (num (hashL64 ys)) (show QQ ≠ 0 by decide)
  omega
set_option maxRecDepth 20000 in
set_option maxHeartbeats 8000000 in
theorem hashedScalar_any (w : World) (b n c : Nat) (ls : List Lst) (hn : ls.length = n) (n0 : 0 < n) (hm : n ≤ 1000) (hs : Lsts w b ls) (hl : ∀ l ∈ ls, Rd w l.g l.a .u8 l.xs ∧ Byt l.xs ∧ l.xs.length ≤ l.c) (hL : (cat ls).length ≤ 1099511627776) (hS : HasT w 5 stLh) (hT : HasT w 7 kL) (hO : HasO w) :
    Calls Tryz.prog 35 #[.slice (some ⟨b, 0, none⟩) n c] w fun r w' => r = .returned (ag4 (hsW (cat ls))) ∧ Below w.heap.size w w' := by
  have gb : b < w.heap.size := by
    have := hs 0 (ls[0]'(by omega)) (List.getElem?_eq_getElem _)
    exact block_lt_of_cell this
  have gl : 7 < w.heap.size := block_lt_of_cell (hT 0 (by decide))
  have m0 : Below w.heap.size w (w.alloc (.cells #[.int .u64 0, .int .u64 0, .int .u64 0, .int .u64 0] 41)) := (Below.refl _ _).alloc (Nat.le_refl _) _
  have B0 := blk_box4 w .u64 41 0 0 0 0
  have NH := hide (newHashing_64 _ (hS.up m0))
  have L1 := hide (hcl_len .u64 0 start64 (R := List.replicate 128 0) (by simp))
  have O1 := hcl_one .u64 0 start64 (List.replicate 128 0)
  have HO : Hid (∀ W q, W.rangeAt q 0 (hcl .u64 0 start64 (List.replicate 128 0)) → W.there q 0 137 → HD W q []) := fun W q h1 h2 => HV.start.at h1 h2
  obtain ⟨d, hd, hrow⟩ := rowH_64
  generalize hcl .u64 0 start64 (List.replicate 128 0) = vs at *
  have HL := hide hl
  have HLT := hide (fun l h (h0 : 0 < l.xs.length) => (hl l h).1.lt h0)
  have HN := hide hn
  clear hl hn
  go_enter Tryz.func35, Tryz.ntmps35
  go_wp2_with fail
  generalize w.alloc (.cells #[.int .u64 0, .int .u64 0, .int .u64 0, .int .u64 0] 41) = wa at *
  refine NH.out.mono ?_
  rintro r w1 ⟨rfl, n1⟩
  clear NH
  have M1 := nxt m0 n1
  have z1 : w.heap.size < w1.heap.size := by have := B0.lt; have := n1.size; omega
  have HZ := HB.zero64 w1
  have TH := HZ.there
  have na : Below w1.heap.size w1 (w1.alloc zH64) := (Below.refl _ _).alloc (Nat.le_refl _) _
  have sm := World.rangeAt_setCells_same (w1.alloc zH64) w1.heap.size 0 vs (by rw [L1.out]; exact TH)
  have th2 := World.there_setCells TH w1.heap.size 0 vs
  have O2 := only_setCells (w1.alloc zH64) w1.heap.size vs 0
  have H2 := HO.out _ _ sm th2
  have N2 : Below w.heap.size w ((w1.alloc zH64).setCells w1.heap.size 0 vs) := (nxt M1 na).trans (O2.below (by omega))
  have B2 := ((B0.up n1).up na).of_block (O2.block w.heap.size (by omega))
  go_wp2_with (refine wpList_store_mid rfl 100 (.tmp 3) (.tmp 4) rfl w1.heap.size 0 vs.toArray rfl rfl ?hth ?hin ?hon ?_)
  case hth => exact (show (w1.alloc zH64).there w1.heap.size 0 vs.length by rw [L1.out]; exact TH)
  case hin => show _ = some vs.length; rw [L1.out]; exact infoH_64
  case hon => exact O1
  have TK := takeAllD ((w1.alloc zH64).setCells w1.heap.size 0 vs) w1.heap.size [] H2 b n c ls HN.out hm (hs.up N2) (fun l h => ⟨(HL.out l h).1.up N2, (HL.out l h).2.1, (HL.out l h).2.2, fun h0 => by have := HLT.out l h h0; omega⟩) (by omega) (by simp; omega) (hT.up N2) (by omega)
  rw [List.nil_append] at TK
  have TKH := hide TK
  clear TK HZ TH sm th2 O2 H2 na HO
  change Calls _ _ _ ((w1.alloc zH64).setCells w1.heap.size 0 vs) _
  generalize hw2 : (w1.alloc zH64).setCells w1.heap.size 0 vs = w2 at *
  refine TKH.out.mono ?_
  rintro r w3 ⟨rfl, H3, B3⟩
  have N3 : Below w.heap.size w w3 := N2.trans (B3.below (by omega) N2.size)
  have C3 := B2.of_block (B3.block w.heap.size B2.lt (by omega))
  obtain ⟨v3, V3, RG, -⟩ := H3.val
  have L3 := hide V3.len
  have EN := hide (endV w3 v3 (cat ls) V3 hL (hT.up N3))
  have KL := hide (hash64_len (cat ls))
  have KB := hide (hash64_byt (cat ls))
  have KW : W8 (wv (fun j => (hashL64 (cat ls)).getD j 0) 64) := fun j _ => wv_lt (hash64_byt _) _ j
  have DR := hide (fun W (h : Below w.heap.size w W) => doubleReduce_any W _ KW (hO.up h))
  have EW := hide (show hsW (cat ls) = rdD (wv (fun j => (hashL64 (cat ls)).getD j 0) 64) from rfl)
  clear TKH H3 B3 hw2 N2 V3 KW B2
  generalize hashL64 (cat ls) = hh at *
  go_wp2_with (refine wpList_load_mid rfl 100 (.tmp 3) rfl w1.heap.size 0 rfl v3 d RG hd hrow (by rw [L3.out]; exact infoH_64) ?_)
  refine EN.out.mono ?_
  rintro r w4 ⟨⟨a4, c4, g4, rfl, o4, p4, q4, r4⟩, n4⟩
  have N4 := nxt N3 n4
  have C4 := C3.up n4
  have RD := hide (readDouble_any w4 g4 a4 c4 hh o4.rd KB.out (by rw [KL.out]; omega) (by rw [KL.out]; omega))
  rw [KL.out] at RD ⊢
  clear EN o4 p4 q4 r4 n4 N3 C3 RG L3
  go_wp2_with fail
  refine RD.out.mono ?_
  rintro r w5 ⟨rfl, n5⟩
  have N5 := nxt N4 n5
  have C5 := C4.up n5
  have DR5 := hide (DR.out w5 N5)
  clear RD DR n5 N4 C4
  go_wp2_with fail
  refine DR5.out.mono ?_
  rintro r w6 ⟨rfl, n6⟩
  have N6 := nxt N5 n6
  have C6 := C5.up n6
  generalize rdD (wv (fun j => hh.getD j 0) 64) = f at *
  simp only [ag4]
  obtain ⟨⟨r0, r1, r2, r3⟩, ⟨g0, g1, g2, g3⟩⟩ := C6.f4
  clear DR5 n6 N5 C5 C6
  go_wp2
  refine bodyPost_ret (v := ag4 f) (by simp [ag4, results, Tryz.results35, go_sem, r0, r1, r2, r3]) rfl ⟨by rw [EW.out], ?_⟩
  exact below_set4 N6 (by omega) _ _ _ _
end Go.Proofs.YtkglcainhkbgbaaGreatDoor
namespace Go.Proofs.YtkglcainhkbgbaaGreatDoor
set_option maxRecDepth 100000
open Go Go.RowKit
def RwC (w : World) (q : Nat) (cs : List Value) (t : TypeId) : Prop := w.heap[q]? = some (.cells cs.toArray t (0, 0))
theorem RwC.new (w : World) (cs : List Value) (t : TypeId) : RwC (w.alloc (.cells cs.toArray t)) w.heap.size cs t := heap_alloc_new w _
theorem RwC.lt {w : World} {q : Nat} {cs : List Value} {t : TypeId} (h : RwC w q cs t) : q < w.heap.size := (Array.getElem?_eq_some_iff.1 h).1
theorem RwC.up {w w' : World} {q : Nat} {cs : List Value} {t : TypeId} (h : RwC w q cs t) (n : Below w.heap.size w w') : RwC w' q cs t := (n.block q h.lt).trans h
theorem RwC.cell {w : World} {q : Nat} {cs : List Value} {t : TypeId} (h : RwC w q cs t) (i : Nat) : w.cell? ⟨q, i, none⟩ = cs[i]? := by
  rw [cell_of_row w q i _ _ (0, 0) h]
  simp
theorem RwC.free {w : World} {q : Nat} {cs : List Value} {t : TypeId} (h : RwC w q cs t) (i : Nat) : w.frozen? ⟨q, i, none⟩ = false := frozen_of_row w q i _ t h
theorem RwC.set {w : World} {q : Nat} {cs : List Value} {t : TypeId} (h : RwC w q cs t) (i : Nat) (v : Value) : RwC (w.setCell ⟨q, i, none⟩ v) q (cs.set i v) t := by
  show (w.heap.modify q _)[q]? = _
  rw [Array.getElem?_modify, if_pos rfl, show w.heap[q]? = _ from h]
  simp
theorem RwC.push {w : World} {q : Nat} {cs : List Value} {t : TypeId} (h : RwC w q cs t) (o : Obj) : RwC (w.alloc o) q cs t := h.up ((Below.refl _ _).alloc (Nat.le_refl _) o)
structure TMs (w W : World) (tL tM : TypeId) (src zer cs : List Value) : Prop where
  S : RwC W w.heap.size src tL
  U : RwC W (w.heap.size + 1) zer tM
  T : RwC W (w.heap.size + 1 + 1) cs tM
  N : Below w.heap.size w W
theorem TMs.new (w : World) (tL tM : TypeId) (src zer : List Value) : TMs w (((w.alloc (.cells src.toArray tL)).alloc (.cells zer.toArray tM)).alloc (.cells zer.toArray tM)) tL tM src zer zer := by
  have z1 : (w.alloc (.cells src.toArray tL)).heap.size = w.heap.size + 1 := by simp
  have n1 : Below w.heap.size w (w.alloc (.cells src.toArray tL)) := (Below.refl _ _).alloc (Nat.le_refl _) _
  have s1 := RwC.new w src tL
  generalize w.alloc (.cells src.toArray tL) = a at *
  have z2 : (a.alloc (.cells zer.toArray tM)).heap.size = a.heap.size + 1 := by simp
  have n2 : Below a.heap.size a (a.alloc (.cells zer.toArray tM)) := (Below.refl _ _).alloc (Nat.le_refl _) _
  have s2 := RwC.new a zer tM
  generalize a.alloc (.cells zer.toArray tM) = b at *
  have n3 : Below b.heap.size b (b.alloc (.cells zer.toArray tM)) := (Below.refl _ _).alloc (Nat.le_refl _) _
  have s3 := RwC.new b zer tM
  rw [z2, z1] at s3
  rw [z1] at s2
  exact ⟨(s1.up n2).up n3, s2.up n3, s3, nxt (nxt n1 n2) n3⟩
theorem TMs.up {w W W' : World} {tL tM : TypeId} {src zer cs : List Value} (h : TMs w W tL tM src zer cs) (m : Below W.heap.size W W') : TMs w W' tL tM src zer cs := ⟨h.S.up m, h.U.up m, h.T.up m, nxt h.N m⟩
theorem RwC.onl {w w' : World} {q r : Nat} {cs : List Value} {t : TypeId} (h : RwC w q cs t) (O : Only r w w') (hne : q ≠ r) : RwC w' q cs t := (O.block q hne).trans h
theorem TMs.set {w W : World} {tL tM : TypeId} {src zer cs : List Value} (h : TMs w W tL tM src zer cs) (i : Nat) (v : Value) : TMs w (W.setCell ⟨w.heap.size + 1 + 1, i, none⟩ v) tL tM src zer (cs.set i v) := by
  have O := Only.setCell W (w.heap.size + 1 + 1) i v
  exact ⟨h.S.onl O (by omega), h.U.onl O (by omega), h.T.set i v, h.N.trans (O.below (by omega))⟩
end Go.Proofs.YtkglcainhkbgbaaGreatDoor
