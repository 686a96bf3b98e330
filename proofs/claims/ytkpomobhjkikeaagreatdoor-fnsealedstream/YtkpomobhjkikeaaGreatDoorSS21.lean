import Derived.Test.YtkpomobhjkikeaaGreatDoorSS20
import Derived.Laws.Externs
namespace Go.Proofs.YtkpomobhjkikeaaGreatDoor
set_option maxRecDepth 100000
open Go Go.RowKit
set_option maxRecDepth 100000 in
set_option maxHeartbeats 4000000 in
theorem ksettle_any (w : World) (u : Nat → Int) (hu : ∀ j, 0 ≤ u j ∧ u j < 1073741824) :
    Calls Tryz.prog 110 #[ag5 u] w fun e w' => e = .returned (ag5 (ktl u)) ∧ Below w.heap.size w w' := by
  have B0 := blk_box w .u64 165 (u 0) (u 1) (u 2) (u 3) (u 4)
  have n0 : Below w.heap.size w (w.alloc (.cells #[.int .u64 (u 0), .int .u64 (u 1), .int .u64 (u 2), .int .u64 (u 3), .int .u64 (u 4)] 165)) := (Below.refl _ _).alloc (Nat.le_refl _) _
  have s0 : (w.alloc (.cells #[.int .u64 (u 0), .int .u64 (u 1), .int .u64 (u 2), .int .u64 (u 3), .int .u64 (u 4)] 165)).heap.size = w.heap.size + 1 := by simp
  simp only [ag5]
  go_enter Tryz.func110, Tryz.ntmps110
  go_wp2
  generalize w.alloc (.cells #[.int .u64 (u 0), .int .u64 (u 1), .int .u64 (u 2), .int .u64 (u 3), .int .u64 (u 4)] 165) = wa at *
  have B1 := blk_box wa .u64 165 0 0 0 0 0
  have n1 : Below wa.heap.size wa (wa.alloc (.cells #[.int .u64 0, .int .u64 0, .int .u64 0, .int .u64 0, .int .u64 0] 165)) := (Below.refl _ _).alloc (Nat.le_refl _) _
  rw [s0] at B1
  generalize wa.alloc (.cells #[.int .u64 0, .int .u64 0, .int .u64 0, .int .u64 0, .int .u64 0] 165) = wb at *
  have B0 := B0.up n1
  have N0 := nxt n0 n1
  clear n0 n1 s0
  have c0 : ∀ k, 0 ≤ kr 0 u k ∧ kr 0 u k ≤ 17 := fun k => kr_bd (M := 17) (by omega) (by omega) (by omega) (fun j => by have := hu j; omega) k
  go_loopw [3, 9] (fun q i wr => ∃ (k : Nat) (ys : List Int), k ≤ 5 ∧ i = .int .i64 k ∧ q = .int .u64 (kr 0 u k) ∧ Upd (kf 0 u) u ys k ∧ Blk wr w.heap.size .u64 ys ∧ Blk wr (w.heap.size + 1) .u64 [0, 0, 0, 0, 0] ∧ Below w.heap.size w wr) (fun _ i _ => 5 - (intOf i).toNat)
  case atStart => exact ⟨0, _, by omega, rfl, rfl, Upd.zero _ u, B0, B1, N0⟩
  case round =>
    clear B0 B1 N0
    obtain ⟨k, ys, hk, rfl, rfl, hU, hB, hB1, hN⟩ := hrel
    by_cases hlt : k < 5
    · have R := hide (hU.step hlt)
      have hcy := hB.cell (i := k) (by rw [hU.1]; exact hlt)
      rw [hU.2.2 k (Nat.le_refl _) hlt] at hcy
      have hfy := hB.free k
      have ub := hu k
      have cb := c0 k
      have e1 := mask26 (kr 0 u k + u k) (by omega) (by omega)
      have S := hB.store k (kf 0 u k)
      have S1 := hB1.keep (h := w.heap.size) (i := k) (v := .int .u64 (kf 0 u k)) (by omega)
      have Sn : Below w.heap.size w (wr.setCell ⟨w.heap.size, k, none⟩ (.int .u64 (kf 0 u k))) := hN.setCell (Nat.le_refl _) _
      have E : Hid (kf 0 u k = (kr 0 u k + u k) % 67108864) := rfl
      have F : Hid (kr 0 u (k + 1) = (kr 0 u k + u k) / 67108864) := rfl
      rw [E.out] at R S S1 Sn
      clear hU hB hB1 hN c0 hu E
      have k2 : (k : Int) < 5 := by omega
      generalize u k = z at *
      generalize kr 0 u k = c at *
      go_wp2
      go_roundw
      case rel => exact ⟨k + 1, _, by omega, by go_num, by rw [F.out], R.out, S, S1, Sn⟩
      case measure => simp [intOf]; omega
    · obtain rfl : k = 5 := by omega
      have hy := hU.all
      subst hy
      have b0 := kf_bd 0 u 0
      have cb := c0 5
      have q0 : wr.cell? ⟨w.heap.size, 0, none⟩ = some (.int .u64 (kf 0 u 0)) := hB.cell (i := 0) (by simp)
      have f0 := hB.free 0
      have S := hB.store 0 (kf 0 u 0 + 5 * kr 0 u 5)
      have S1 := hB1.keep (h := w.heap.size) (i := 0) (v := .int .u64 (kf 0 u 0 + 5 * kr 0 u 5)) (by omega)
      have Sn : Below w.heap.size w (wr.setCell ⟨w.heap.size, 0, none⟩ (.int .u64 (kf 0 u 0 + 5 * kr 0 u 5))) := hN.setCell (Nat.le_refl _) _
      have S' : Blk (wr.setCell ⟨w.heap.size, 0, none⟩ (.int .u64 (kf 0 u 0 + 5 * kr 0 u 5))) w.heap.size .u64 [kt1 u 0, kt1 u 1, kt1 u 2, kt1 u 3, kt1 u 4] := S
      have v0 : ∀ j, 0 ≤ kt1 u j ∧ kt1 u j ≤ 67108948 := fun j => by
        have := kf_bd 0 u j
        unfold kt1
        split <;> omega
      clear hU hB hB1 hN S c0
      generalize kf 0 u 0 = l0 at *
      generalize kr 0 u 5 = ov at *
      go_wp2
      generalize wr.setCell ⟨w.heap.size, 0, none⟩ (.int .u64 (l0 + 5 * ov)) = wb at *
      clear q0 f0 b0 cb
      have c1 : ∀ k, 0 ≤ kr 5 (kt1 u) k ∧ kr 5 (kt1 u) k ≤ 5 := fun k => kr_bd (M := 5) (by omega) (by omega) (by omega) (fun j => by have := v0 j; omega) k
      go_loop [5, 30] (fun q i => ∃ (k : Nat), k ≤ 5 ∧ i = .int .i64 k ∧ q = .int .u64 (kr 5 (kt1 u) k)) (fun _ i => 5 - (intOf i).toNat)
      case atStart => exact ⟨0, by omega, rfl, rfl⟩
      case round =>
        obtain ⟨k, hk, rfl, rfl⟩ := hrel
        by_cases hlt : k < 5
        · have hcy := S'.at5 hlt
          have ub := v0 k
          have cb := c1 k
          have F : Hid (kr 5 (kt1 u) (k + 1) = (kr 5 (kt1 u) k + kt1 u k) / 67108864) := rfl
          clear S' S1 Sn v0 c1 hu
          generalize kt1 u k = z at *
          generalize kr 5 (kt1 u) k = c at *
          go_wp2
          go_round
          case rel => exact ⟨k + 1, by omega, by go_num, by rw [F.out]⟩
          case measure => simp [intOf]; omega
        · obtain rfl : k = 5 := by omega
          have cb := c1 5
          have hE : Hid (ktl u = kf (5 * kr 5 (kt1 u) 5) (kt1 u)) := rfl
          generalize kr 5 (kt1 u) 5 = r at *
          clear c1
          go_wp2
          have c2 : ∀ k, 0 ≤ kr (5 * r) (kt1 u) k ∧ kr (5 * r) (kt1 u) k ≤ 25 := fun k => kr_bd (M := 25) (by omega) (by omega) (by omega) (fun j => by have := v0 j; omega) k
          go_loopw [7, 42] (fun q i wr => ∃ (k : Nat) (ys : List Int), k ≤ 5 ∧ i = .int .i64 k ∧ q = .int .u64 (kr (5 * r) (kt1 u) k) ∧ Upd (kf (5 * r) (kt1 u)) (kt1 u) ys k ∧ Blk wr w.heap.size .u64 ys ∧ Blk wr (w.heap.size + 1) .u64 [0, 0, 0, 0, 0] ∧ Below w.heap.size w wr) (fun _ i _ => 5 - (intOf i).toNat)
          case atStart => exact ⟨0, _, by omega, rfl, rfl, Upd.zero _ (kt1 u), S', S1, Sn⟩
          case round =>
            clear S' S1 Sn
            obtain ⟨k, ys, hk, rfl, rfl, hU, hB, hB1, hN⟩ := hrel
            by_cases hlt : k < 5
            · have R := hide (hU.step hlt)
              have hcy := hB.cell (i := k) (by rw [hU.1]; exact hlt)
              rw [hU.2.2 k (Nat.le_refl _) hlt] at hcy
              have hfy := hB.free k
              have ub := v0 k
              have cb := c2 k
              have e1 := mask26 (kr (5 * r) (kt1 u) k + kt1 u k) (by omega) (by omega)
              have S := hB.store k (kf (5 * r) (kt1 u) k)
              have S1 := hB1.keep (h := w.heap.size) (i := k) (v := .int .u64 (kf (5 * r) (kt1 u) k)) (by omega)
              have Sn : Below w.heap.size w (wr.setCell ⟨w.heap.size, k, none⟩ (.int .u64 (kf (5 * r) (kt1 u) k))) := hN.setCell (Nat.le_refl _) _
              have E : Hid (kf (5 * r) (kt1 u) k = (kr (5 * r) (kt1 u) k + kt1 u k) % 67108864) := rfl
              have F : Hid (kr (5 * r) (kt1 u) (k + 1) = (kr (5 * r) (kt1 u) k + kt1 u k) / 67108864) := rfl
              rw [E.out] at R S S1 Sn
              clear hU hB hB1 hN c2 hu E v0
              have k2 : (k : Int) < 5 := by omega
              generalize kt1 u k = z at *
              generalize kr (5 * r) (kt1 u) k = c at *
              go_wp2
              go_roundw
              case rel => exact ⟨k + 1, _, by omega, by go_num, by rw [F.out], R.out, S, S1, Sn⟩
              case measure => simp [intOf]; omega
            · obtain rfl : k = 5 := by omega
              have hy := hU.all
              subst hy
              obtain ⟨f, hf⟩ : ∃ f, f = kf (5 * r) (kt1 u) := ⟨_, rfl⟩
              have hE' : Hid (ktl u = f) := by show _ = _; rw [hf]; exact hE.out
              rw [← hf] at hB
              obtain ⟨⟨q0, q1, q2, q3, q4⟩, _⟩ := hB.f5
              obtain ⟨⟨p0, p1, p2, p3, p4⟩, ⟨g0, g1, g2, g3, g4⟩⟩ := hB1.f5
              clear hE hf hU hB hB1 c2 v0 hu
              go_wp2
              exact bodyPost_ret (v := ag5 f) (by simp [ag5, results, Tryz.results110, go_sem, p0, p1, p2, p3, p4]) rfl ⟨by rw [hE'.out]; rfl, below_set5 hN (by omega) _ _ _ _ _⟩
theorem add64_go (x y : Int) (hx : 0 ≤ x) (hy : 0 ≤ y) (w : World) :
    (callFunc 118 #[.int .u64 x, .int .u64 y, .int .u64 0]).run Tryz.prog w =
      .ok (.value (.tuple #[.int .u64 ((x + y) % 18446744073709551616), .int .u64 ((x + y) / 18446744073709551616)])) w := by
  rw [run_callFunc_extern Tryz.func118 (by kernel_rfl) (by kernel_rfl) (by kernel_rfl) (e := add64Entry) (by kernel_rfl), run_add64 x y 0 hx hy (by omega) (by omega)]
  simp only [Result.andThen, Int.add_zero]
theorem blk_y16 (w : World) (t : TypeId) : Blk (w.alloc (.cells #[.int .u8 0, .int .u8 0, .int .u8 0, .int .u8 0, .int .u8 0, .int .u8 0, .int .u8 0, .int .u8 0, .int .u8 0, .int .u8 0, .int .u8 0, .int .u8 0, .int .u8 0, .int .u8 0, .int .u8 0, .int .u8 0] t)) w.heap.size .u8 (List.replicate 16 0) := ⟨t, by show (w.heap.push _)[w.heap.size]? = _; rw [Array.getElem?_push_size]; rfl⟩
def Lay2 (lo hi : Int) (ys : List Int) (k : Nat) : Prop := ys.length = 16 ∧ ∀ i, (i < k ∨ (8 ≤ i ∧ i < 8 + k)) → ys.getD i 0 = b16 lo hi i
theorem Lay2.step {lo hi : Int} {ys : List Int} {k : Nat} (h : Lay2 lo hi ys k) (hk : k < 8) : Lay2 lo hi ((ys.set k (lo / 256 ^ k % 256)).set (8 + k) (hi / 256 ^ k % 256)) (k + 1) := by
  refine ⟨by simpa using h.1, fun i hi' => ?_⟩
  have hl := h.1
  by_cases e : 8 + k = i
  · subst e
    rw [getD_set_self _ _ _ (by rw [List.length_set, hl]; omega)]
    unfold b16
    rw [if_neg (by omega), show 8 + k - 8 = k by omega]
  · rw [getD_set_ne _ _ _ _ e]
    by_cases e' : k = i
    · subst e'
      rw [getD_set_self _ _ _ (by rw [hl]; omega)]
      unfold b16
      rw [if_pos (by omega)]
    · rw [getD_set_ne _ _ _ _ e']
      exact h.2 i (by omega)
theorem Lay2.all {lo hi : Int} {ys : List Int} (h : Lay2 lo hi ys 8) : ys = fill (b16 lo hi) 16 :=
  eq_of_getD (by rw [h.1, fill_len]) (fun i hi' => by rw [h.1] at hi'; rw [h.2 i (by omega), fill_get _ _ _ hi'])
theorem infoP16 : (Tryz.prog.info? 104).map (·.size) = some 16 := by kernel_rfl
theorem undP16 : Tryz.prog.underlying 104 = some (.array 16 5) := by kernel_rfl
theorem pow_8 (k : Nat) : (2 : Int) ^ (8 * k) = 256 ^ k := by rw [Int.pow_mul]; rfl
set_option maxRecDepth 100000 in
set_option maxHeartbeats 8000000 in
theorem ksum_any (w : World) (u : Nat → Int) (hu : Km u) (l h : Int) (hl : 0 ≤ l ∧ l < 18446744073709551616) :
    Calls Tryz.prog 111 #[ag5 u, .int .u64 l, .int .u64 h] w fun e w' => e = .returned (ag .u8 (fill (b16 (slo u l) (shi u l h)) 16)) ∧ Below w.heap.size w w' := by
  have h0 := hu 0 (by omega); have h1 := hu 1 (by omega); have h2 := hu 2 (by omega); have h3 := hu 3 (by omega); have h4 := hu 4 (by omega)
  have kb := klo_bd hu
  have hb := khi_bd hu
  have o1 : bits BinOp.or IntKind.u64 (u 0) (u 1 * 67108864) = u 0 + u 1 * 67108864 := or64 (u 0) (u 1) 26 67108864 (by decide) (by omega) (by omega) (by omega) (by omega) (by decide)
  have o2 : bits BinOp.or IntKind.u64 (u 0 + u 1 * 67108864) (IntKind.u64.wrap (u 2 * 4503599627370496)) = klo u := by
    rw [IntKind.wrap_u64]; exact or64w (u 0 + u 1 * 67108864) (u 2) 52 4503599627370496 (by decide) (by decide) (by omega) (by omega)
  have o3 : bits BinOp.or IntKind.u64 (u 2 / 4096) (u 3 * 16384) = u 2 / 4096 + u 3 * 16384 := or64 (u 2 / 4096) (u 3) 14 16384 (by decide) (by omega) (by omega) (by omega) (by omega) (by decide)
  have o4 : bits BinOp.or IntKind.u64 (u 2 / 4096 + u 3 * 16384) (IntKind.u64.wrap (u 4 * 1099511627776)) = khi u := by
    rw [IntKind.wrap_u64]; exact or64w (u 2 / 4096 + u 3 * 16384) (u 4) 40 1099511627776 (by decide) (by decide) (by omega) (by omega)
  obtain ⟨lo, hlo⟩ : ∃ v, v = slo u l := ⟨_, rfl⟩
  obtain ⟨hi, hhi⟩ : ∃ v, v = shi u l h := ⟨_, rfl⟩
  rw [← hlo, ← hhi]
  have AD := add64_go l (klo u) hl.1 kb.1
  have l1 : 0 ≤ lo ∧ lo < 18446744073709551616 := by rw [hlo]; unfold slo; omega
  have g1 : 0 ≤ hi ∧ hi < 18446744073709551616 := by rw [hhi]; unfold shi; omega
  unfold slo at hlo
  unfold shi at hhi
  rw [← hlo] at AD
  obtain ⟨cy, hcy⟩ : ∃ v, v = (l + klo u) / 18446744073709551616 := ⟨_, rfl⟩
  rw [← hcy] at AD hhi
  obtain ⟨mi, hmi⟩ : ∃ v, v = IntKind.u64.wrap (h + khi u) := ⟨_, rfl⟩
  have w1 : IntKind.u64.wrap (h + khi u) = mi := hmi.symm
  have w2 : IntKind.u64.wrap (mi + cy) = hi := by rw [hmi, hhi, IntKind.wrap_u64, IntKind.wrap_u64]; omega
  have cy0 : 0 ≤ cy := by rw [hcy]; omega
  have mi0 : 0 ≤ mi := by rw [hmi, IntKind.wrap_u64]; omega
  clear hlo hhi hcy hmi
  generalize klo u = kl at *
  generalize khi u = kh at *
  have B0 := blk_box w .u64 165 (u 0) (u 1) (u 2) (u 3) (u 4)
  have n0 : Below w.heap.size w (w.alloc (.cells #[.int .u64 (u 0), .int .u64 (u 1), .int .u64 (u 2), .int .u64 (u 3), .int .u64 (u 4)] 165)) := (Below.refl _ _).alloc (Nat.le_refl _) _
  have s0 : (w.alloc (.cells #[.int .u64 (u 0), .int .u64 (u 1), .int .u64 (u 2), .int .u64 (u 3), .int .u64 (u 4)] 165)).heap.size = w.heap.size + 1 := by simp
  obtain ⟨⟨q0, q1, q2, q3, q4⟩, _⟩ := B0.f5
  simp only [ag5]
  go_enter Tryz.func111, Tryz.ntmps111
  go_upto_region 1 with fail
  generalize w.alloc (.cells #[.int .u64 (u 0), .int .u64 (u 1), .int .u64 (u 2), .int .u64 (u 3), .int .u64 (u 4)] 165) = wa at *
  have B1 := blk_y16 wa 104
  have n1 : Below wa.heap.size wa (wa.alloc (.cells #[.int .u8 0, .int .u8 0, .int .u8 0, .int .u8 0, .int .u8 0, .int .u8 0, .int .u8 0, .int .u8 0, .int .u8 0, .int .u8 0, .int .u8 0, .int .u8 0, .int .u8 0, .int .u8 0, .int .u8 0, .int .u8 0] 104)) := (Below.refl _ _).alloc (Nat.le_refl _) _
  have s1 : (wa.alloc (.cells #[.int .u8 0, .int .u8 0, .int .u8 0, .int .u8 0, .int .u8 0, .int .u8 0, .int .u8 0, .int .u8 0, .int .u8 0, .int .u8 0, .int .u8 0, .int .u8 0, .int .u8 0, .int .u8 0, .int .u8 0, .int .u8 0] 104)).heap.size = w.heap.size + 1 + 1 := by simp [s0]
  generalize wa.alloc (.cells #[.int .u8 0, .int .u8 0, .int .u8 0, .int .u8 0, .int .u8 0, .int .u8 0, .int .u8 0, .int .u8 0, .int .u8 0, .int .u8 0, .int .u8 0, .int .u8 0, .int .u8 0, .int .u8 0, .int .u8 0, .int .u8 0] 104) = wb at *
  rw [s0] at B1
  obtain ⟨⟨q0, q1, q2, q3, q4⟩, _⟩ := (B0.up n1).f5
  have N1 := nxt n0 n1
  clear B0 n0 n1 s0
  go_upto_region 4 with fail
  have B2 := blk_y16 wb 104
  have n2 : Below wb.heap.size wb (wb.alloc (.cells #[.int .u8 0, .int .u8 0, .int .u8 0, .int .u8 0, .int .u8 0, .int .u8 0, .int .u8 0, .int .u8 0, .int .u8 0, .int .u8 0, .int .u8 0, .int .u8 0, .int .u8 0, .int .u8 0, .int .u8 0, .int .u8 0] 104)) := (Below.refl _ _).alloc (Nat.le_refl _) _
  rw [s1] at B2
  have B1 := B1.up n2
  have N2 := nxt N1 n2
  go_upto_region 5 with fail
  generalize wb.alloc (.cells #[.int .u8 0, .int .u8 0, .int .u8 0, .int .u8 0, .int .u8 0, .int .u8 0, .int .u8 0, .int .u8 0, .int .u8 0, .int .u8 0, .int .u8 0, .int .u8 0, .int .u8 0, .int .u8 0, .int .u8 0, .int .u8 0] 104) = wc at *
  clear n2 s1 N1 q0 q1 q2 q3 q4 AD o1 o2 o3 o4 w1 w2 hb kb
  have L0 : Lay2 lo hi (List.replicate 16 0) 0 := ⟨by simp, fun i h => absurd h (by omega)⟩
  go_wp2
  go_loopw [41] (fun i wr => ∃ (k : Nat) (ys : List Int), k ≤ 8 ∧ i = .int .i64 k ∧ Hid (Lay2 lo hi ys k) ∧ Blk wr (w.heap.size + 1 + 1) .u8 ys ∧ Blk wr (w.heap.size + 1) .u8 (List.replicate 16 0) ∧ Below w.heap.size w wr) (fun i _ => 8 - (intOf i).toNat)
  case atStart => exact ⟨0, _, by omega, rfl, L0, B2, B1, N2⟩
  case round =>
    clear B1 B2 N2 L0
    obtain ⟨k, ys, hk, rfl, hL, hB, hB1, hN⟩ := hrel
    by_cases hlt : k < 8
    · have R := hide (hL.out.step hlt)
      have yl := hL.out.1
      have c1 := hB.cell (i := k) (by rw [yl]; omega)
      have f1 := hB.free k
      have S1 := hB.store k (lo / 256 ^ k % 256)
      have c2 := S1.cell (i := 8 + k) (by rw [List.length_set, yl]; omega)
      have f2 := S1.free (8 + k)
      have S2 := S1.store (8 + k) (hi / 256 ^ k % 256)
      have K2 := (hB1.keep (h := w.heap.size + 1 + 1) (i := k) (v := .int .u8 (lo / 256 ^ k % 256)) (by omega)).keep (h := w.heap.size + 1 + 1) (i := 8 + k) (v := .int .u8 (hi / 256 ^ k % 256)) (by omega)
      have N2 := (hN.setCell (p := ⟨w.heap.size + 1 + 1, k, none⟩) (by show w.heap.size ≤ w.heap.size + 1 + 1; omega) (.int .u8 (lo / 256 ^ k % 256))).setCell (p := ⟨w.heap.size + 1 + 1, 8 + k, none⟩) (by show w.heap.size ≤ w.heap.size + 1 + 1; omega) (.int .u8 (hi / 256 ^ k % 256))
      have PW := pow_8 k
      rw [← PW] at R S1 S2 K2 N2 c2 f2
      have d1 : (8 : Int) + (k : Int) = ((8 + k : Nat) : Int) := by omega
      have d2 : ((8 + k : Nat) : Int) < 16 := by omega
      have d3 : 8 * (k : Int) = ((8 * k : Nat) : Int) := by omega
      have d4 : 8 * k ≤ 56 := by omega
      have d5 : (k : Int) < 8 := by omega
      have d6 : (k : Int) < 16 := by omega
      have dv : 0 ≤ lo / 2 ^ (8 * k) ∧ lo / 2 ^ (8 * k) < 18446744073709551616 := by
        have hp : (0 : Int) < 2 ^ (8 * k) := Int.pow_pos (by decide)
        exact ⟨Int.ediv_nonneg l1.1 (Int.le_of_lt hp), Int.lt_of_le_of_lt (Int.ediv_le_self _ l1.1) l1.2⟩
      have ev : 0 ≤ hi / 2 ^ (8 * k) ∧ hi / 2 ^ (8 * k) < 18446744073709551616 := by
        have hp : (0 : Int) < 2 ^ (8 * k) := Int.pow_pos (by decide)
        exact ⟨Int.ediv_nonneg g1.1 (Int.le_of_lt hp), Int.lt_of_le_of_lt (Int.ediv_le_self _ g1.1) g1.2⟩
      clear hL hB hB1 hN PW S1 yl
      generalize ys.getD k 0 = y0 at *
      generalize (ys.set k (lo / 2 ^ (8 * k) % 256)).getD (8 + k) 0 = y1 at *
      generalize (ys.set k (lo / 2 ^ (8 * k) % 256)).set (8 + k) (hi / 2 ^ (8 * k) % 256) = zs at *
      generalize 8 + k = pk at *
      generalize 8 * k = sh at *
      go_wp2
      go_roundw
      case rel => exact ⟨k + 1, zs, by omega, by go_num, R, S2, K2, N2⟩
      case measure => simp [intOf]; omega
    · obtain rfl : k = 8 := by omega
      obtain rfl := hL.out.all
      clear hL
      have RG := (Seg.blk hB).range
      have L : Hid (((fill (b16 lo hi) 16).map (Value.int .u8)).length = 16) := by show _ = _; rw [List.length_map, fill_len]
      have O := one_ints .u8 (fill (b16 lo hi) 16)
      obtain ⟨t0, H0⟩ := hB1
      have SR := setRow_heap wr (w.heap.size + 1) _ ((fill (b16 lo hi) 16).map (Value.int .u8)).toArray _ _ H0
      have SN : Below w.heap.size w (wr.setRow (w.heap.size + 1) ((fill (b16 lo hi) 16).map (Value.int .u8)).toArray) := hN.trans ((only_setRow wr (w.heap.size + 1) _).below (by omega))
      have V : Hid (ag .u8 (fill (b16 lo hi) 16) = Value.agg ((fill (b16 lo hi) 16).map (Value.int .u8)).toArray) := rfl
      obtain ⟨vs', hv⟩ : ∃ v, v = (fill (b16 lo hi) 16).map (Value.int .u8) := ⟨_, rfl⟩
      rw [← hv] at RG L O SR SN V
      clear hv hB hN
      go_wp2_with (first
        | (refine wpList_load_mid rfl 104 (.tmp 8) rfl (w.heap.size + 1 + 1) 0 rfl vs' (.array 16 5) RG undP16 rfl (by rw [L.out]; exact infoP16) ?_)
        | (refine wpList_store_row rfl 104 (.tmp 6) (.tmp 60) rfl (w.heap.size + 1) vs'.toArray rfl rfl t0 _ H0 (by rw [List.size_toArray, L.out]; exact infoP16) (by rw [List.size_toArray, List.size_toArray, L.out]; rfl) O ?_))
      exact bodyPost_ret (v := .agg vs'.toArray) (results_cell_row Tryz.results111 _ _ (w.heap.size + 1) t0 vs'.toArray (0, 0) (.array 16 5) rfl SR undP16 rfl (by rw [List.size_toArray, L.out]; exact infoP16)) rfl ⟨by rw [V.out], SN⟩
end Go.Proofs.YtkpomobhjkikeaaGreatDoor
