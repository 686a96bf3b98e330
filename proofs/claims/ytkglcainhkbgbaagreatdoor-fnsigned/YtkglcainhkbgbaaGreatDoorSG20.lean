import Derived.Test.YtkglcainhkbgbaaGreatDoorSG5
import Derived.Test.YtkglcainhkbgbaaGreatDoorSG17
import Derived.WalkSpells
import Derived.Deep.QuietTactic
import Derived.BigQuiet
import Derived.Deep.WholeRow
namespace Go.Proofs.YtkglcainhkbgbaaGreatDoor
set_option maxRecDepth 100000
open Go.RowKit
def ag5 (u : Nat → Int) : Value := .agg #[.int .u64 (u 0), .int .u64 (u 1), .int .u64 (u 2), .int .u64 (u 3), .int .u64 (u 4)]
theorem wraps_u64 (n : Int) (h₀ : 0 ≤ n) (h₁ : n < 2 ^ 64) : IntKind.u64.wrap n = n := by
  simp [IntKind.wrap, IntKind.bits, IntKind.signed]
  omega
theorem mask51 (x : Int) (h0 : 0 ≤ x) (h1 : x < 18446744073709551616) : bits BinOp.and IntKind.u64 x 2251799813685247 = x % 2251799813685248 :=
  bits_mask .u64 64 (by decide) wraps_u64 51 (by decide) x h0 h1
def Upd (f u : Nat → Int) (ys : List Int) (k : Nat) : Prop := ys.length = 5 ∧ (∀ j, j < k → ys.getD j 0 = f j) ∧ ∀ j, k ≤ j → j < 5 → ys.getD j 0 = u j
theorem Upd.step {f u : Nat → Int} {ys : List Int} {k : Nat} (h : Upd f u ys k) (hk : k < 5) : Upd f u (ys.set k (f k)) (k + 1) := by
  refine ⟨by simpa using h.1, fun j hj => ?_, fun j hj hj5 => ?_⟩
  · by_cases e : k = j
    · subst e
      rw [getD_set_self _ _ _ (by rw [h.1]; exact hk)]
    · rw [getD_set_ne _ _ _ _ e]
      exact h.2.1 j (by omega)
  · rw [getD_set_ne _ _ _ _ (by omega)]
    exact h.2.2 j (by omega) hj5
theorem Upd.all {f u : Nat → Int} {ys : List Int} (h : Upd f u ys 5) : ys = [f 0, f 1, f 2, f 3, f 4] := by
  refine eq_of_getD (by rw [h.1]; rfl) (fun i hi => ?_)
  rw [h.1] at hi
  rw [h.2.1 i hi]
  obtain rfl | rfl | rfl | rfl | rfl : i = 0 ∨ i = 1 ∨ i = 2 ∨ i = 3 ∨ i = 4 := by omega
  all_goals rfl
theorem Upd.zero (f u : Nat → Int) : Upd f u [u 0, u 1, u 2, u 3, u 4] 0 := by
  refine ⟨rfl, fun j hj => absurd hj (by omega), fun i _ hi => ?_⟩
  obtain rfl | rfl | rfl | rfl | rfl : i = 0 ∨ i = 1 ∨ i = 2 ∨ i = 3 ∨ i = 4 := by omega
  all_goals rfl
theorem blk_box (w : World) (k : IntKind) (t : TypeId) (a b c d e : Int) : Blk (w.alloc (.cells #[.int k a, .int k b, .int k c, .int k d, .int k e] t)) w.heap.size k [a, b, c, d, e] :=
  ⟨t, by rw [heap_alloc_last]; rfl⟩
set_option maxHeartbeats 4000000 in
set_option maxRecDepth 100000 in
theorem settle_any (w : World) (u : Nat → Int) (hu : ∀ j, 0 ≤ u j ∧ u j < 9223372036854775808) :
    Calls Tryz.prog 116 #[ag5 u] w fun e w' => e = .returned (ag5 (stl u)) ∧ Below w.heap.size w w' := by
  unfold ag5
  go_enter Tryz.func116, Tryz.ntmps116
  go_wp2
  have B0 : Blk ((w.alloc (.cells #[.int .u64 (u 0), .int .u64 (u 1), .int .u64 (u 2), .int .u64 (u 3), .int .u64 (u 4)] 179)).alloc (.cells #[.int .u64 0, .int .u64 0, .int .u64 0, .int .u64 0, .int .u64 0] 80)) w.heap.size .u64 [u 0, u 1, u 2, u 3, u 4] :=
    (blk_box w .u64 179 (u 0) (u 1) (u 2) (u 3) (u 4)).up ((Below.refl _ _).alloc (Nat.le_refl _) _)
  have B1 : Blk ((w.alloc (.cells #[.int .u64 (u 0), .int .u64 (u 1), .int .u64 (u 2), .int .u64 (u 3), .int .u64 (u 4)] 179)).alloc (.cells #[.int .u64 0, .int .u64 0, .int .u64 0, .int .u64 0, .int .u64 0] 80)) (w.heap.size + 1) .u64 [0, 0, 0, 0, 0] := by
    have := blk_box (w.alloc (.cells #[.int .u64 (u 0), .int .u64 (u 1), .int .u64 (u 2), .int .u64 (u 3), .int .u64 (u 4)] 179)) .u64 80 0 0 0 0 0
    simpa using this
  have N0 : Below w.heap.size w ((w.alloc (.cells #[.int .u64 (u 0), .int .u64 (u 1), .int .u64 (u 2), .int .u64 (u 3), .int .u64 (u 4)] 179)).alloc (.cells #[.int .u64 0, .int .u64 0, .int .u64 0, .int .u64 0, .int .u64 0] 80)) :=
    ((Below.refl _ _).alloc (Nat.le_refl _) _).alloc (by simp) _
  have s0 : ((w.alloc (.cells #[.int .u64 (u 0), .int .u64 (u 1), .int .u64 (u 2), .int .u64 (u 3), .int .u64 (u 4)] 179)).alloc (.cells #[.int .u64 0, .int .u64 0, .int .u64 0, .int .u64 0, .int .u64 0] 80)).heap.size = w.heap.size + 2 := by simp
  generalize ((w.alloc (.cells #[.int .u64 (u 0), .int .u64 (u 1), .int .u64 (u 2), .int .u64 (u 3), .int .u64 (u 4)] 179)).alloc (.cells #[.int .u64 0, .int .u64 0, .int .u64 0, .int .u64 0, .int .u64 0] 80)) = wa at *
  have c0 : ∀ k, 0 ≤ cr 0 u k ∧ cr 0 u k ≤ 4097 := fun k => cr_bd (M := 4097) (by omega) (by omega) (by omega) (fun j => by have := hu j; omega) k
  go_loopw [3, 10] (fun q i wr => ∃ (k : Nat) (ys : List Int), k ≤ 5 ∧ i = .int .i64 k ∧ q = .int .u64 (cr 0 u k) ∧ Upd (lf 0 u) u ys k ∧ Blk wr w.heap.size .u64 ys ∧ Blk wr (w.heap.size + 1) .u64 [0, 0, 0, 0, 0] ∧ wr.heap.size = w.heap.size + 2 ∧ Below w.heap.size w wr) (fun _ i _ => 5 - (intOf i).toNat)
  case atStart => exact ⟨0, _, by omega, rfl, rfl, Upd.zero _ u, B0, B1, s0, N0⟩
  case round =>
    clear B0 B1 N0 s0
    obtain ⟨k, ys, hk, rfl, rfl, hU, hB, hB1, hs, hN⟩ := hrel
    by_cases hlt : k < 5
    · have R := hU.step hlt
      have hcy := hB.cell (i := k) (by rw [hU.1]; exact hlt)
      rw [hU.2.2 k (Nat.le_refl _) hlt] at hcy
      have hfy := hB.free k
      have ub := hu k
      have cb := c0 k
      have e1 := mask51 (cr 0 u k + u k) (by omega) (by omega)
      have S := hB.store k (lf 0 u k)
      have S1 := hB1.of_block (w' := wr.setCell ⟨w.heap.size, k, none⟩ (.int .u64 (lf 0 u k))) (heap_setCell_other wr ⟨w.heap.size, k, none⟩ (w.heap.size + 1) _ (by show w.heap.size + 1 ≠ w.heap.size; omega))
      have Sn : Below w.heap.size w (wr.setCell ⟨w.heap.size, k, none⟩ (.int .u64 (lf 0 u k))) := hN.setCell (Nat.le_refl _) _
      have hs' : (wr.setCell ⟨w.heap.size, k, none⟩ (.int .u64 (lf 0 u k))).heap.size = w.heap.size + 2 := by simp [World.setCell, hs]
      have E : Hid (lf 0 u k = (cr 0 u k + u k) % 2251799813685248) := by show _ = _; rfl
      have F : Hid (cr 0 u (k + 1) = (cr 0 u k + u k) / 2251799813685248) := by show _ = _; rfl
      rw [E.out] at R S S1 Sn hs'
      clear hU hB hB1 hN c0 hu E hs
      generalize u k = z at *
      generalize cr 0 u k = c at *
      go_wp2
      go_roundw
      case rel => exact ⟨k + 1, _, by omega, by go_num, by rw [F.out], R, S, S1, hs', Sn⟩
      case measure => simp [intOf]; omega
    · obtain rfl : k = 5 := by omega
      have hy := hU.all
      subst hy
      have b0 := lf_bd 0 u 0
      have cb := c0 5
      have q0 : wr.cell? ⟨w.heap.size, 0, none⟩ = some (.int .u64 (lf 0 u 0)) := hB.cell (i := 0) (by simp)
      have f0 := hB.free 0
      have S := hB.store 0 (lf 0 u 0 + 19 * cr 0 u 5)
      have S1 := hB1.of_block (w' := wr.setCell ⟨w.heap.size, 0, none⟩ (.int .u64 (lf 0 u 0 + 19 * cr 0 u 5))) (heap_setCell_other wr ⟨w.heap.size, 0, none⟩ (w.heap.size + 1) _ (by show w.heap.size + 1 ≠ w.heap.size; omega))
      have Sn : Below w.heap.size w (wr.setCell ⟨w.heap.size, 0, none⟩ (.int .u64 (lf 0 u 0 + 19 * cr 0 u 5))) := hN.setCell (Nat.le_refl _) _
      have hs' : (wr.setCell ⟨w.heap.size, 0, none⟩ (.int .u64 (lf 0 u 0 + 19 * cr 0 u 5))).heap.size = w.heap.size + 2 := by simp [World.setCell, hs]
      have S' : Blk (wr.setCell ⟨w.heap.size, 0, none⟩ (.int .u64 (lf 0 u 0 + 19 * cr 0 u 5))) w.heap.size .u64 [st1 u 0, st1 u 1, st1 u 2, st1 u 3, st1 u 4] := S
      have v0 : ∀ j, 0 ≤ st1 u j ∧ st1 u j ≤ 2251799813763091 := fun j => by
        have := lf_bd 0 u j
        unfold st1
        split <;> omega
      clear hU hB hB1 hN hs S c0
      generalize lf 0 u 0 = l0 at *
      generalize cr 0 u 5 = ov at *
      go_wp2
      generalize wr.setCell ⟨w.heap.size, 0, none⟩ (.int .u64 (l0 + 19 * ov)) = wb at *
      clear q0 f0 b0 cb
      have c1 : ∀ k, 0 ≤ cr 19 (st1 u) k ∧ cr 19 (st1 u) k ≤ 19 := fun k => cr_bd (M := 19) (by omega) (by omega) (by omega) (fun j => by have := v0 j; omega) k
      go_loop [5, 31] (fun q i => ∃ (k : Nat), k ≤ 5 ∧ i = .int .i64 k ∧ q = .int .u64 (cr 19 (st1 u) k)) (fun _ i => 5 - (intOf i).toNat)
      case atStart => exact ⟨0, by omega, rfl, rfl⟩
      case round =>
        obtain ⟨k, hk, rfl, rfl⟩ := hrel
        by_cases hlt : k < 5
        · have hcy := S'.cell (i := k) hlt
          have hgk : [st1 u 0, st1 u 1, st1 u 2, st1 u 3, st1 u 4].getD k 0 = st1 u k := (Upd.zero (st1 u) (st1 u)).2.2 k (by omega) hlt
          rw [hgk] at hcy
          have ub := v0 k
          have cb := c1 k
          have F : Hid (cr 19 (st1 u) (k + 1) = (cr 19 (st1 u) k + st1 u k) / 2251799813685248) := by show _ = _; rfl
          clear hgk S' S1 Sn hs' v0 c1 hu
          generalize st1 u k = z at *
          generalize cr 19 (st1 u) k = c at *
          go_wp2
          go_round
          case rel => exact ⟨k + 1, by omega, by go_num, by rw [F.out]⟩
          case measure => simp [intOf]; omega
        · obtain rfl : k = 5 := by omega
          have cb := c1 5
          have hE : Hid (stl u = lf (19 * cr 19 (st1 u) 5) (st1 u)) := by show _ = _; rfl
          generalize cr 19 (st1 u) 5 = r at *
          clear c1
          go_wp2
          have T0 : Blk (wb.alloc (.cells #[.int .u64 0, .int .u64 0, .int .u64 0, .int .u64 0, .int .u64 0] 80)) (w.heap.size + 2) .u64 [0, 0, 0, 0, 0] := hs' ▸ blk_box wb .u64 80 0 0 0 0 0
          have n1 : Below wb.heap.size wb (wb.alloc (.cells #[.int .u64 0, .int .u64 0, .int .u64 0, .int .u64 0, .int .u64 0] 80)) := (Below.refl _ _).alloc (Nat.le_refl _) _
          have A0 := S'.up n1
          have A1 := S1.up n1
          have An := Sn.trans (n1.mono Sn.size)
          generalize wb.alloc (.cells #[.int .u64 0, .int .u64 0, .int .u64 0, .int .u64 0, .int .u64 0] 80) = wc at *
          clear S' S1 Sn hs' n1
          have c2 : ∀ k, 0 ≤ cr (19 * r) (st1 u) k ∧ cr (19 * r) (st1 u) k ≤ 361 := fun k => cr_bd (M := 361) (by omega) (by omega) (by omega) (fun j => by have := v0 j; omega) k
          go_loopw [8, 43] (fun q i wr => ∃ (k : Nat) (ys : List Int), k ≤ 5 ∧ i = .int .i64 k ∧ q = .int .u64 (cr (19 * r) (st1 u) k) ∧ Upd (lf (19 * r) (st1 u)) (fun _ => 0) ys k ∧ Blk wr w.heap.size .u64 [st1 u 0, st1 u 1, st1 u 2, st1 u 3, st1 u 4] ∧ Blk wr (w.heap.size + 1) .u64 [0, 0, 0, 0, 0] ∧ Blk wr (w.heap.size + 2) .u64 ys ∧ Below w.heap.size w wr) (fun _ i _ => 5 - (intOf i).toNat)
          case atStart => exact ⟨0, _, by omega, rfl, rfl, Upd.zero _ (fun _ => 0), A0, A1, T0, An⟩
          case round =>
            clear A0 A1 T0 An
            obtain ⟨k, ys, hk, rfl, rfl, hU, hB, hB1, hB2, hN⟩ := hrel
            by_cases hlt : k < 5
            · have R := hU.step hlt
              have hcz := hB2.cell (i := k) (by rw [hU.1]; exact hlt)
              have hfz := hB2.free k
              have hcy := hB.cell (i := k) hlt
              have hgk : [st1 u 0, st1 u 1, st1 u 2, st1 u 3, st1 u 4].getD k 0 = st1 u k := (Upd.zero (st1 u) (st1 u)).2.2 k (by omega) hlt
              rw [hgk] at hcy
              have ub := v0 k
              have cb := c2 k
              have e1 := mask51 (cr (19 * r) (st1 u) k + st1 u k) (by omega) (by omega)
              have S := hB2.store k (lf (19 * r) (st1 u) k)
              have S0 := hB.of_block (w' := wr.setCell ⟨w.heap.size + 2, k, none⟩ (.int .u64 (lf (19 * r) (st1 u) k))) (heap_setCell_other wr ⟨w.heap.size + 2, k, none⟩ w.heap.size _ (by show w.heap.size ≠ w.heap.size + 2; omega))
              have S1 := hB1.of_block (w' := wr.setCell ⟨w.heap.size + 2, k, none⟩ (.int .u64 (lf (19 * r) (st1 u) k))) (heap_setCell_other wr ⟨w.heap.size + 2, k, none⟩ (w.heap.size + 1) _ (by show w.heap.size + 1 ≠ w.heap.size + 2; omega))
              have Sn : Below w.heap.size w (wr.setCell ⟨w.heap.size + 2, k, none⟩ (.int .u64 (lf (19 * r) (st1 u) k))) := hN.setCell (by show w.heap.size ≤ w.heap.size + 2; omega) _
              have E : Hid (lf (19 * r) (st1 u) k = (cr (19 * r) (st1 u) k + st1 u k) % 2251799813685248) := by show _ = _; rfl
              have F : Hid (cr (19 * r) (st1 u) (k + 1) = (cr (19 * r) (st1 u) k + st1 u k) / 2251799813685248) := by show _ = _; rfl
              have S0' := hide S0
              rw [E.out] at R S S0 S1 Sn
              have S0' := hide S0
              clear hU hB hB1 hB2 hN c2 v0 hu E hgk S0
              generalize st1 u k = z at *
              generalize cr (19 * r) (st1 u) k = c at *
              go_wp2
              go_roundw
              case rel => exact ⟨k + 1, _, by omega, by go_num, by rw [F.out], R, S0'.out, S1, S, Sn⟩
              case measure => simp [intOf]; omega
            · obtain rfl : k = 5 := by omega
              have hy := hU.all
              subst hy
              obtain ⟨f, hf⟩ : ∃ f, f = lf (19 * r) (st1 u) := ⟨_, rfl⟩
              have hE' : Hid (stl u = f) := by show _ = _; rw [hf]; exact hE.out
              rw [← hf] at hB2
              clear hE hf
              have q0 : wr.cell? ⟨w.heap.size + 2, 0, none⟩ = some (.int .u64 (f 0)) := hB2.cell (i := 0) (by simp)
              have q1 : wr.cell? ⟨w.heap.size + 2, 1, none⟩ = some (.int .u64 (f 1)) := hB2.cell (i := 1) (by simp)
              have q2 : wr.cell? ⟨w.heap.size + 2, 2, none⟩ = some (.int .u64 (f 2)) := hB2.cell (i := 2) (by simp)
              have q3 : wr.cell? ⟨w.heap.size + 2, 3, none⟩ = some (.int .u64 (f 3)) := hB2.cell (i := 3) (by simp)
              have q4 : wr.cell? ⟨w.heap.size + 2, 4, none⟩ = some (.int .u64 (f 4)) := hB2.cell (i := 4) (by simp)
              have p0 : wr.cell? ⟨w.heap.size + 1, 0, none⟩ = some (.int .u64 0) := hB1.cell (i := 0) (by simp)
              have p1 : wr.cell? ⟨w.heap.size + 1, 1, none⟩ = some (.int .u64 0) := hB1.cell (i := 1) (by simp)
              have p2 : wr.cell? ⟨w.heap.size + 1, 2, none⟩ = some (.int .u64 0) := hB1.cell (i := 2) (by simp)
              have p3 : wr.cell? ⟨w.heap.size + 1, 3, none⟩ = some (.int .u64 0) := hB1.cell (i := 3) (by simp)
              have p4 : wr.cell? ⟨w.heap.size + 1, 4, none⟩ = some (.int .u64 0) := hB1.cell (i := 4) (by simp)
              have g0 := hB1.free 0
              have g1 := hB1.free 1
              have g2 := hB1.free 2
              have g3 := hB1.free 3
              have g4 := hB1.free 4
              clear hU hB hB1 hB2 c2 v0 hu
              go_wp2
              refine bodyPost_ret (v := .agg #[.int .u64 (f 0), .int .u64 (f 1), .int .u64 (f 2), .int .u64 (f 3), .int .u64 (f 4)]) (by simp [results, Tryz.results116, go_sem, p0, p1, p2, p3, p4]) rfl ⟨by rw [hE'.out], ?_⟩
              have hsz : w.heap.size ≤ w.heap.size + 1 := by omega
              exact ((((hN.setCell hsz _).setCell hsz _).setCell hsz _).setCell hsz _).setCell hsz _
end Go.Proofs.YtkglcainhkbgbaaGreatDoor
