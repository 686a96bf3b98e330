import Derived.Test.YtbhmhkimddjhaaaDoorGA39
import Derived.Test.YtbhmhkimddjhaaaDoorGA40
import Derived.Deep.RegionWith
import Derived.Deep.RegionHeld3
/-
  The program's lessTimes: four words less a product with a word, with the order added if that is below 0.
-/
namespace Go.Proofs.YtbhmhkimddjhaaaDoor
set_option maxRecDepth 100000
open Go.RowKit

def sub64Entry : Array Value → Sem Value := fun args => do
  let (x, y, b) ← Extern.MathBitsCarry.three "Sub64" args
  pure (Extern.MathBitsCarry.pair ((x + Extern.MathBitsCarry.m64 - y - b) % Extern.MathBitsCarry.m64) (if x < y + b then 1 else 0))
theorem run_sub64 {P : Program} (x y c : Int) (hx : 0 ≤ x ∧ x < 18446744073709551616) (hy : 0 ≤ y ∧ y < 18446744073709551616) (hc : c = 0 ∨ c = 1) (w : World) :
    (sub64Entry #[.int .u64 x, .int .u64 y, .int .u64 c]).run P w =
      .ok (.tuple #[.int .u64 ((x - y - c) % 18446744073709551616), .int .u64 (if x - y - c < 0 then 1 else 0)]) w := by
  have key : ∀ k : Nat, k ≤ 1 → (sub64Entry #[.int .u64 x, .int .u64 y, .int .u64 (k : Int)]).run P w =
      .ok (Extern.MathBitsCarry.pair ((x.toNat + Extern.MathBitsCarry.m64 - y.toNat - k) % Extern.MathBitsCarry.m64) (if x.toNat < y.toNat + k then 1 else 0)) w := by
    intro k hk
    have : k = 0 ∨ k = 1 := by omega
    rcases this with rfl | rfl <;> rfl
  obtain ⟨k, rfl⟩ := Int.eq_ofNat_of_zero_le (show 0 ≤ c by omega)
  rw [key k (by omega)]
  obtain ⟨X, rfl⟩ := Int.eq_ofNat_of_zero_le hx.1
  obtain ⟨Y, rfl⟩ := Int.eq_ofNat_of_zero_le hy.1
  simp only [Extern.MathBitsCarry.pair, Extern.MathBitsCarry.m64, Int.toNat_natCast]
  have e1 : Int.ofNat ((X + 2 ^ 64 - Y - k) % 2 ^ 64) = ((X : Int) - Y - k) % 18446744073709551616 := by
    show (((X + 2 ^ 64 - Y - k) % 2 ^ 64 : Nat) : Int) = _
    omega
  have e2 : Int.ofNat (if X < Y + k then 1 else 0) = (if (X : Int) - Y - k < 0 then 1 else 0 : Int) := by
    by_cases h : X < Y + k
    · rw [if_pos h, if_pos (by omega)]; rfl
    · rw [if_neg h, if_neg (by omega)]; rfl
  rw [e1, e2]
theorem sub64_run (x y c : Int) (hx : 0 ≤ x ∧ x < 18446744073709551616) (hy : 0 ≤ y ∧ y < 18446744073709551616) (hc : c = 0 ∨ c = 1) (w : World) :
    (callFunc 123 #[.int .u64 x, .int .u64 y, .int .u64 c]).run Tryd.prog w =
      .ok (.value (.tuple #[.int .u64 ((x - y - c) % 18446744073709551616), .int .u64 (if x - y - c < 0 then 1 else 0)])) w := by
  rw [run_callFunc_extern Tryd.func123 (by kernel_rfl) (by kernel_rfl) (by kernel_rfl) (e := sub64Entry) (by kernel_rfl), run_sub64 x y c hx hy hc]
  simp only [Result.andThen]
theorem add64c_run (x y c : Int) (hx : 0 ≤ x) (hy : 0 ≤ y) (hc : c = 0 ∨ c = 1) (w : World) :
    (callFunc 124 #[.int .u64 x, .int .u64 y, .int .u64 c]).run Tryd.prog w =
      .ok (.value (.tuple #[.int .u64 ((x + y + c) % 18446744073709551616), .int .u64 ((x + y + c) / 18446744073709551616)])) w := by
  rw [run_callFunc_extern Tryd.func124 (by kernel_rfl) (by kernel_rfl) (by kernel_rfl) (e := add64Entry) (by kernel_rfl), run_add64 x y c hx hy (by omega) (by omega)]
  simp only [Result.andThen]
theorem addProduct0 (w : World) (l a b : Int) (hl : 0 ≤ l ∧ l < 18446744073709551616) (ha : 0 ≤ a ∧ a < 18446744073709551616) (hb : 0 ≤ b ∧ b < 18446744073709551616) :
    Calls Tryd.prog 119 #[.agg #[.int .u64 0, .int .u64 l], .int .u64 a, .int .u64 b] w fun e w' =>
      e = .returned (.agg #[.int .u64 ((l + a * b) / 18446744073709551616), .int .u64 ((l + a * b) % 18446744073709551616)]) ∧ Below w.heap.size w w' := by
  have h := addProduct_any w 0 l a b (by omega) hl ha hb (by have := (mul_word ha hb).2; omega)
  simp only [ag2, Int.zero_mul, Int.zero_add] at h
  exact h
/-- A word of four, by its place. -/
theorem idx4 (t : Nat → Int) (k : Nat) (hk : k < 4) (W : World) :
    (Instr.index 51 (.agg #[.int .u64 (t 0), .int .u64 (t 1), .int .u64 (t 2), .int .u64 (t 3)]) (.int .i64 (k : Int))).run Tryd.prog W = .ok (.int .u64 (t k)) W := by
  obtain rfl | rfl | rfl | rfl : k = 0 ∨ k = 1 ∨ k = 2 ∨ k = 3 := by omega
  all_goals kernel_rfl

theorem and_mask (q b : Int) (hq : 0 ≤ q ∧ q < 18446744073709551616) (hb : b = 0 ∨ b = 1) : bits BinOp.and .u64 q (b * 18446744073709551615) = q * b := by
  obtain ⟨m, rfl⟩ := Int.eq_ofNat_of_zero_le hq.1
  rcases hb with rfl | rfl
  · have h := bits_and_u64_nat m 0 (by omega) (by omega)
    rw [Nat.and_zero] at h
    simpa using h
  · have h := bits_and_u64_nat m 18446744073709551615 (by omega) (by omega)
    have e : m &&& 18446744073709551615 = m % 18446744073709551616 := Nat.and_two_pow_sub_one_eq_mod m 64
    rw [e, Nat.mod_eq_of_lt (by omega)] at h
    simpa using h
/-- Words of which the first k are done. -/
def mix (f s : Nat → Int) (k j : Nat) : Int := if j < k then f j else s j
abbrev c4 (u : Nat → Int) : List Int := [u 0, u 1, u 2, u 3]
theorem mix_set (f s : Nat → Int) (k : Nat) (hk : k < 4) : (c4 (mix f s k)).set k (f k) = c4 (mix f s (k + 1)) := by
  obtain rfl | rfl | rfl | rfl : k = 0 ∨ k = 1 ∨ k = 2 ∨ k = 3 := by omega
  all_goals simp [mix, c4]
theorem mix_all (f s : Nat → Int) : c4 (mix f s 4) = c4 f := by simp [mix, c4]
theorem mix_zero (f s : Nat → Int) : c4 (mix f s 0) = c4 s := by simp [mix, c4]
theorem mix_at (f s : Nat → Int) (k : Nat) (hk : k < 4) : (c4 (mix f s k)).getD k 0 = s k := by
  obtain rfl | rfl | rfl | rfl : k = 0 ∨ k = 1 ∨ k = 2 ∨ k = 3 := by omega
  all_goals simp [mix, c4]
theorem mix_len (f s : Nat → Int) (k : Nat) : (c4 (mix f s k)).length = 4 := rfl
theorem blk_box2 (w : World) (k : IntKind) (t : TypeId) (a b : Int) : Blk (w.alloc (.cells #[.int k a, .int k b] t)) w.heap.size k [a, b] :=
  ⟨t, by rw [heap_alloc_last]; rfl⟩

set_option maxHeartbeats 8000000 in
theorem lessTimes_any (w : World) (s t : Nat → Int) (n : Int) (hn : 0 ≤ n ∧ n < 18446744073709551616) (hs : W4 s) (ht : W4 t) (hQ : HasW w 0 qw 4) :
    Calls Tryd.prog 93 #[ag4 s, .int .u64 n, ag4 t] w fun r w' => r = .returned (ag4 (lsT n s t)) ∧ Below w.heap.size w w' := by
  have gq := hQ.lt (by omega)
  have B0 := blk_box4 w .u64 51 (s 0) (s 1) (s 2) (s 3)
  have n0 : Below w.heap.size w (w.alloc (.cells #[.int .u64 (s 0), .int .u64 (s 1), .int .u64 (s 2), .int .u64 (s 3)] 51)) := (Below.refl _ _).alloc (Nat.le_refl _) _
  have s0 : (w.alloc (.cells #[.int .u64 (s 0), .int .u64 (s 1), .int .u64 (s 2), .int .u64 (s 3)] 51)).heap.size = w.heap.size + 1 := by simp
  simp only [ag4]
  go_enter Tryd.func93, Tryd.ntmps93
  go_wp2
  generalize w.alloc (.cells #[.int .u64 (s 0), .int .u64 (s 1), .int .u64 (s 2), .int .u64 (s 3)] 51) = wa at *
  have n1 : Below wa.heap.size wa (wa.alloc (.cells #[.int .u64 (t 0), .int .u64 (t 1), .int .u64 (t 2), .int .u64 (t 3)] 51)) := (Below.refl _ _).alloc (Nat.le_refl _) _
  have s1 : (wa.alloc (.cells #[.int .u64 (t 0), .int .u64 (t 1), .int .u64 (t 2), .int .u64 (t 3)] 51)).heap.size = w.heap.size + 1 + 1 := by simp [s0]
  generalize wa.alloc (.cells #[.int .u64 (t 0), .int .u64 (t 1), .int .u64 (t 2), .int .u64 (t 3)] 51) = wb at *
  have B2 := blk_box4 wb .u64 51 0 0 0 0
  have n2 : Below wb.heap.size wb (wb.alloc (.cells #[.int .u64 0, .int .u64 0, .int .u64 0, .int .u64 0] 51)) := (Below.refl _ _).alloc (Nat.le_refl _) _
  have s2 : (wb.alloc (.cells #[.int .u64 0, .int .u64 0, .int .u64 0, .int .u64 0] 51)).heap.size = w.heap.size + 1 + 1 + 1 := by simp [s1]
  generalize wb.alloc (.cells #[.int .u64 0, .int .u64 0, .int .u64 0, .int .u64 0] 51) = wc at *
  have E0 := (B0.up n1).up n2
  rw [s1] at B2
  have N := nxt (nxt n0 n1) n2
  clear B0 n0 n1 n2 s0 s1 s2
  go_loopw [7, 8, 17] (fun o b i wr => ∃ k : Nat, k ≤ 4 ∧ i = .int .i64 k ∧ o = .int .u64 (lo4 n t k) ∧ b = .int .u64 (lb4 n s t k) ∧ Blk wr w.heap.size .u64 (c4 (mix (ls4 n s t) s k)) ∧ Blk wr (w.heap.size + 1 + 1) .u64 [0, 0, 0, 0] ∧ Below w.heap.size w wr) (fun _ _ i _ => 4 - (intOf i).toNat)
  case atStart => exact ⟨0, by omega, rfl, rfl, rfl, by rw [mix_zero]; exact E0, B2, N⟩
  case round =>
    clear E0 B2 N
    obtain ⟨k, hk, rfl, rfl, rfl, hB, hR, hN⟩ := hrel
    by_cases hlt : k < 4
    · have IX := idx4 t k hlt
      have tk := ht k hlt
      have sk := hs k hlt
      have ok := lo4_bd hn ht k hk
      have bk := lb4_bd n s t k
      have e1 : lo4 n t (k + 1) = (lo4 n t k + n * t k) / 18446744073709551616 := rfl
      have e2 : lb4 n s t (k + 1) = if s k - (lo4 n t k + n * t k) % 18446744073709551616 - lb4 n s t k < 0 then 1 else 0 := rfl
      have e3 : ls4 n s t k = (s k - (lo4 n t k + n * t k) % 18446744073709551616 - lb4 n s t k) % 18446744073709551616 := rfl
      have SU := sub64_run (s k) ((lo4 n t k + n * t k) % 18446744073709551616) (lb4 n s t k) sk (by omega) bk
      rw [← e2, ← e3] at SU
      have AP := fun W => addProduct0 W (lo4 n t k) n (t k) ok hn tk
      rw [← e1] at AP
      have k2 : (k : Int) < 4 := by omega
      have hcs : (c4 (mix (ls4 n s t) s k)).getD k 0 = s k := mix_at _ _ _ hlt
      have hst := mix_set (ls4 n s t) s k hlt
      generalize (lo4 n t k + n * t k) % 18446744073709551616 = d at *
      obtain ⟨o1, ho1⟩ : ∃ o1, o1 = lo4 n t (k + 1) := ⟨_, rfl⟩
      obtain ⟨b1, hb1⟩ : ∃ b1, b1 = lb4 n s t (k + 1) := ⟨_, rfl⟩
      have E1 : Hid (Value.int IntKind.u64 o1 = .int .u64 (lo4 n t (k + 1))) := by show _ = _; rw [ho1]
      have E2 : Hid (Value.int IntKind.u64 b1 = .int .u64 (lb4 n s t (k + 1))) := by show _ = _; rw [hb1]
      rw [← ho1] at AP e1
      rw [← hb1] at SU e2
      clear ho1 hb1 e1 e2 e3
      generalize lo4 n t k = o0 at *
      generalize lb4 n s t k = b0 at *
      generalize ls4 n s t k = l at *
      generalize t k = tv at *
      obtain ⟨ys, hys⟩ : ∃ ys, ys = c4 (mix (ls4 n s t) s k) := ⟨_, rfl⟩
      rw [← hys] at hB hcs hst
      go_wp2_with fail
      refine (AP wr).mono ?_
      rintro r w1 ⟨rfl, n1⟩
      have D := blk_box2 w1 .u64 117 o1 d
      have n2 : Below w1.heap.size w1 (w1.alloc (.cells #[.int .u64 o1, .int .u64 d] 117)) := (Below.refl _ _).alloc (Nat.le_refl _) _
      have hN2 := nxt (nxt hN n1) n2
      have hB2 := (hB.up n1).up n2
      have hR2 := (hR.up n1).up n2
      have yl : ys.length = 4 := by rw [← mix_len (ls4 n s t) s k]; exact congrArg List.length hys
      have cy : (w1.alloc (.cells #[.int .u64 o1, .int .u64 d] 117)).cell? ⟨w.heap.size, k, none⟩ = some (.int .u64 (s k)) := by rw [hB2.cell (by omega), hcs]
      have fy := hB2.free k
      have d0 := D.cell (i := 0) (by simp)
      have d1 := D.cell (i := 1) (by simp)
      simp only [List.getD_cons_zero, List.getD_cons_succ] at d0 d1
      have S0 := hB2.store k l
      rw [hst] at S0
      have S1 := hR2.of_block (w' := (w1.alloc (.cells #[.int .u64 o1, .int .u64 d] 117)).setCell ⟨w.heap.size, k, none⟩ (.int .u64 l)) (heap_setCell_other _ ⟨w.heap.size, k, none⟩ _ _ (by show w.heap.size + 1 + 1 ≠ w.heap.size; omega))
      have S2 : Below w.heap.size w ((w1.alloc (.cells #[.int .u64 o1, .int .u64 d] 117)).setCell ⟨w.heap.size, k, none⟩ (.int .u64 l)) := hN2.setCell (Nat.le_refl _) _
      clear hB2 hR2 hN2 n2 n1 D hB hR hN AP hst yl hcs
      go_wp2
      generalize w1.alloc (.cells #[.int .u64 o1, .int .u64 d] 117) = w2 at *
      go_region
      go_wp2
      go_roundw
      case rel => exact ⟨k + 1, by omega, by go_num, E1.out, E2.out, S0.drew, S1.drew, S2.drew⟩
      case measure => simp [intOf]; omega
    · obtain rfl : k = 4 := by omega
      rw [mix_all] at hB
      have hL := ls4_W4 n s t
      have bk := lb4_bd n s t 4
      have hT : lsT n s t = qs4 (ls4 n s t) qw (lb4 n s t 4) := rfl
      have HT := hide hT
      obtain ⟨q0, q1, q2, q3⟩ := (hQ.up hN).f4
      generalize ls4 n s t = L at *
      generalize lb4 n s t 4 = b at *
      generalize lo4 n t 4 = o at *
      obtain ⟨m, hm⟩ : ∃ m, m = b * 18446744073709551615 := ⟨_, rfl⟩
      have hneg : IntKind.u64.wrap (-b) = m := by rw [IntKind.wrap_u64]; omega
      have AN : Hid (∀ k, k < 4 → bits BinOp.and .u64 (qw k) m = qw k * b) := by
        intro k hk
        have hq := qw_W4 k hk
        rw [hm]
        exact and_mask _ _ hq bk
      clear hT hm
      obtain ⟨qf, hqf⟩ : ∃ qf, qf = qw := ⟨_, rfl⟩
      have hq4 : W4 qf := by rw [hqf]; exact qw_W4
      rw [← hqf] at q0 q1 q2 q3 AN HT
      clear hQ hqf
      go_wp2
      go_loopw [13, 44] (fun c i wr => ∃ k : Nat, k ≤ 4 ∧ i = .int .i64 k ∧ c = .int .u64 (qc4 L qf b k) ∧ Blk wr w.heap.size .u64 (c4 (mix (qs4 L qf b) L k)) ∧ Blk wr (w.heap.size + 1 + 1) .u64 [0, 0, 0, 0] ∧ Below w.heap.size w wr) (fun _ i _ => 4 - (intOf i).toNat)
      case atStart => exact ⟨0, by omega, rfl, rfl, by rw [mix_zero]; exact hB, hR, hN⟩
      case round =>
        clear hB hR hN q0 q1 q2 q3
        obtain ⟨k, hk, rfl, rfl, hB, hR, hN⟩ := hrel
        by_cases hlt : k < 4
        · have IX := idx4 qf k hlt
          have lk := hL k hlt
          have qk := hq4 k hlt
          have qb0 : 0 ≤ qf k * b := Int.mul_nonneg qk.1 (by omega)
          have an := AN.out k hlt
          have ck := qc4_bd hL hq4 bk k hk
          have AD := add64c_run (L k) (qf k * b) (qc4 L qf b k) lk.1 qb0 ck
          have e1 : qc4 L qf b (k + 1) = (L k + qf k * b + qc4 L qf b k) / 18446744073709551616 := rfl
          have e2 : qs4 L qf b k = (L k + qf k * b + qc4 L qf b k) % 18446744073709551616 := rfl
          rw [← e1, ← e2] at AD
          have k2 : (k : Int) < 4 := by omega
          have hcs : (c4 (mix (qs4 L qf b) L k)).getD k 0 = L k := mix_at _ _ _ hlt
          have cy : wr.cell? ⟨w.heap.size, k, none⟩ = some (.int .u64 (L k)) := by rw [hB.cell (by rw [mix_len]; exact hlt), hcs]
          have fy := hB.free k
          have S0 := hB.store k (qs4 L qf b k)
          rw [mix_set _ _ _ hlt] at S0
          have S1 := hR.of_block (w' := wr.setCell ⟨w.heap.size, k, none⟩ (.int .u64 (qs4 L qf b k))) (heap_setCell_other _ ⟨w.heap.size, k, none⟩ _ _ (by show w.heap.size + 1 + 1 ≠ w.heap.size; omega))
          have S2 : Below w.heap.size w (wr.setCell ⟨w.heap.size, k, none⟩ (.int .u64 (qs4 L qf b k))) := hN.setCell (Nat.le_refl _) _
          obtain ⟨c1, hc1⟩ : ∃ c1, c1 = qc4 L qf b (k + 1) := ⟨_, rfl⟩
          have E1 : Hid (Value.int IntKind.u64 c1 = .int .u64 (qc4 L qf b (k + 1))) := by show _ = _; rw [hc1]
          rw [← hc1] at AD
          clear hB hR hN e1 e2 hcs hc1
          generalize qs4 L qf b k = l at *
          generalize qc4 L qf b k = c0 at *
          generalize qf k * b = qm at *
          generalize qf k = qv at *
          generalize L k = lv at *
          go_wp2
          go_roundw
          case rel => exact ⟨k + 1, by omega, by go_num, E1.out, S0, S1, S2⟩
          case measure => simp [intOf]; omega
        · obtain rfl : k = 4 := by omega
          rw [mix_all] at hB
          have hE : Hid (lsT n s t = qs4 L qf b) := HT
          generalize qs4 L qf b = f at *
          obtain ⟨⟨p0, p1, p2, p3⟩, _⟩ := hB.f4
          obtain ⟨⟨r0, r1, r2, r3⟩, ⟨g0, g1, g2, g3⟩⟩ := hR.f4
          go_wp2
          refine bodyPost_ret (v := ag4 f) (by simp [ag4, results, Tryd.results93, go_sem, r0, r1, r2, r3]) rfl ⟨by rw [hE.out]; rfl, ?_⟩
          exact below_set4 hN (by omega) _ _ _ _
end Go.Proofs.YtbhmhkimddjhaaaDoor
