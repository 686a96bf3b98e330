
/-
  The program's chain of powers.
-/
import Derived.Test.YtnaaanefndeafaaDoorSqT
import Derived.Deep.RegionWith
import Derived.Deep.MidRow
import Derived.Deep.RegionHeld3
import Derived.Deep.DeepCutAuto
namespace Go.Proofs.YtnaaanefndeafaaDoor
set_option maxRecDepth 100000
open Go.RowKit

/-- The steps of the chain, three numbers each. -/
def stL : List Int := [1, 1, 0, 2, 2, 1, 3, 0, 2, 4, 1, 3, 5, 5, 5, 6, 10, 6, 7, 20, 7, 8, 10, 6, 9, 50, 9, 10, 100, 10, 11, 50, 9]
def HasSt (w : World) (g : Nat) : Prop := ∀ i, i < 33 → w.cell? ⟨g, i, none⟩ = some (.int .i64 (stL.getD i 0))
theorem HasSt.lt {w : World} {g : Nat} (h : HasSt w g) : g < w.heap.size := block_lt_of_cell (h 0 (by omega))
theorem HasSt.up {w w' : World} {g : Nat} (h : HasSt w g) (n : Below w.heap.size w w') : HasSt w' g := fun i hi => (World.cell?_of_block (a := ⟨g, i, none⟩) (n.block g h.lt)).trans (h i hi)

/-- The steps, as cells. -/
def stA : Array Value := (stL.map (Value.int .i64)).toArray
theorem u86 : Tryd.prog.underlying 142 = some (.array 11 136) := by kernel_rfl
theorem i86 : (Tryd.prog.info? 142).map (·.size) = some stA.toList.length := by kernel_rfl
theorem HasSt.range {W : World} {g : Nat} (h : HasSt W g) : W.rangeAt g 0 stA.toList := by
  intro j v hv
  have hj : j < 33 := by
    have := (List.getElem?_eq_some_iff.1 hv).1
    simpa [stA, stL] using this
  have e : stA.toList[j]? = some (Value.int .i64 (stL.getD j 0)) := by
    have hl : j < stL.length := hj
    simp [stA, hl]
  rw [Nat.zero_add, h j hj, ← e]; exact hv
/-- The table of powers at its beginning: 1, the element, zeros. -/
def pw0 (e : Nat → Int) : List Int := [1, 0, 0, 0, 0, e 0, e 1, e 2, e 3, e 4] ++ List.replicate 55 0
theorem z85 : Tryd.zeroCells141 = ((List.replicate 65 0).map (Value.int .u64)).toArray := by kernel_rfl
theorem i85 : (Tryd.prog.info? 141).map (·.size) = some 65 := by kernel_rfl
theorem blk_box3 (w : World) (k : IntKind) (t : TypeId) (a b c : Int) : Blk (w.alloc (.cells #[.int k a, .int k b, .int k c] t)) w.heap.size k [a, b, c] :=
  ⟨t, by rw [heap_alloc_last]; rfl⟩
theorem pw0_laid (w : World) (e : Nat → Int) : (storeCells ⟨w.heap.size, 0, none⟩ ((((((((((Tryd.zeroCells141.toList.set 0 (Value.int IntKind.u64 1)).set 1 (Value.int IntKind.u64 0)).set 2 (Value.int IntKind.u64 0)).set 3 (Value.int IntKind.u64 0)).set 4 (Value.int IntKind.u64 0)).set 5 (Value.int IntKind.u64 (e 0))).set 6 (Value.int IntKind.u64 (e 1))).set 7 (Value.int IntKind.u64 (e 2))).set 8 (Value.int IntKind.u64 (e 3))).set 9 (Value.int IntKind.u64 (e 4))) 0).run Tryd.prog (w.alloc (.cells Tryd.zeroCells141 141)) =
    .ok () (w.alloc (.cells ((pw0 e).map (Value.int .u64)).toArray 141)) := by
  have h := run_storeCells_new (P := Tryd.prog) w 141 Tryd.zeroCells141 ((pw0 e).map (Value.int .u64)).toArray (by rw [i85]; rfl) (by rw [z85]; rfl) (by simp [pw0, Value.oneCell'])
  rw [← h]
  congr 2

/-- The exponents of the table. -/
def exL : List Nat := [0, 1, 2, 9, 11, 31, 1023, 1048575, 1099511627775, 1125899906842623, 1267650600228229401496703205375, 1606938044258990275541962092341162602522202993782792835301375, 1809251394333065553493296640760748560207343510400633813116524750123642650623]
/-- The first m powers stand in the table. -/
def PwTo (e : Nat → Int) (ys : List Int) (m : Nat) : Prop := ys.length = 65 ∧ ∀ j, j < m → ∃ t, (Lm t ∧ sv t 5 = sv e 5 ^ exL.getD j 0 % PP) ∧ ∀ i, i < 5 → ys.getD (5 * j + i) 0 = t i
theorem PwTo.zero {e : Nat → Int} (he : Elm e) : PwTo e (pw0 e) (0 + 2) := by
  refine ⟨rfl, fun j hj => ?_⟩
  obtain rfl | rfl : j = 0 ∨ j = 1 := by omega
  · refine ⟨fun i => if i = 0 then 1 else 0, ⟨fun i _ => by dsimp only; split <;> omega, ?_⟩, fun i hi => ?_⟩
    · show _ = sv e 5 ^ 0 % PP
      rw [Int.pow_zero]
      decide
    · obtain rfl | rfl | rfl | rfl | rfl : i = 0 ∨ i = 1 ∨ i = 2 ∨ i = 3 ∨ i = 4 := by omega
      all_goals rfl
  · refine ⟨e, ⟨he.1, ?_⟩, fun i hi => ?_⟩
    · show _ = sv e 5 ^ 1 % PP
      rw [Int.pow_one, he.mod]
    · obtain rfl | rfl | rfl | rfl | rfl : i = 0 ∨ i = 1 ∨ i = 2 ∨ i = 3 ∨ i = 4 := by omega
      all_goals rfl

theorem st_tab : ∀ k, k < 11 → ∃ a b c : Nat, a < k + 2 ∧ b ≤ 100 ∧ c < k + 2 ∧ exL.getD (k + 2) 0 = exL.getD a 0 * 2 ^ b + exL.getD c 0 ∧
    ∀ W, (Instr.index 142 (.agg stA) (.int .i64 (k : Int))).run Tryd.prog W = .ok (.agg #[.int .i64 (a : Int), .int .i64 (b : Int), .int .i64 (c : Int)]) W := by
  intro k hk
  obtain rfl | rfl | rfl | rfl | rfl | rfl | rfl | rfl | rfl | rfl | rfl : k = 0 ∨ k = 1 ∨ k = 2 ∨ k = 3 ∨ k = 4 ∨ k = 5 ∨ k = 6 ∨ k = 7 ∨ k = 8 ∨ k = 9 ∨ k = 10 := by omega
  · exact ⟨1, 1, 0, by decide, by decide, by decide, by decide +kernel, fun W => by kernel_rfl⟩
  · exact ⟨2, 2, 1, by decide, by decide, by decide, by decide +kernel, fun W => by kernel_rfl⟩
  · exact ⟨3, 0, 2, by decide, by decide, by decide, by decide +kernel, fun W => by kernel_rfl⟩
  · exact ⟨4, 1, 3, by decide, by decide, by decide, by decide +kernel, fun W => by kernel_rfl⟩
  · exact ⟨5, 5, 5, by decide, by decide, by decide, by decide +kernel, fun W => by kernel_rfl⟩
  · exact ⟨6, 10, 6, by decide, by decide, by decide, by decide +kernel, fun W => by kernel_rfl⟩
  · exact ⟨7, 20, 7, by decide, by decide, by decide, by decide +kernel, fun W => by kernel_rfl⟩
  · exact ⟨8, 10, 6, by decide, by decide, by decide, by decide +kernel, fun W => by kernel_rfl⟩
  · exact ⟨9, 50, 9, by decide, by decide, by decide, by decide +kernel, fun W => by kernel_rfl⟩
  · exact ⟨10, 100, 10, by decide, by decide, by decide, by decide +kernel, fun W => by kernel_rfl⟩
  · exact ⟨11, 50, 9, by decide, by decide, by decide, by decide +kernel, fun W => by kernel_rfl⟩

/-- Five cells of a block, from place o on. -/
theorem Blk.mid5 {w : World} {g : Nat} {k : IntKind} {ys : List Int} (h : Blk w g k ys) (o : Nat) (ho : o + 5 ≤ ys.length) :
    (w.cell? ⟨g, o, none⟩ = some (.int k (ys.getD o 0)) ∧ w.cell? ⟨g, o + 1, none⟩ = some (.int k (ys.getD (o + 1) 0)) ∧ w.cell? ⟨g, o + 2, none⟩ = some (.int k (ys.getD (o + 2) 0)) ∧ w.cell? ⟨g, o + 3, none⟩ = some (.int k (ys.getD (o + 3) 0)) ∧ w.cell? ⟨g, o + 4, none⟩ = some (.int k (ys.getD (o + 4) 0))) ∧
    (w.frozen? ⟨g, o, none⟩ = false ∧ w.frozen? ⟨g, o + 1, none⟩ = false ∧ w.frozen? ⟨g, o + 2, none⟩ = false ∧ w.frozen? ⟨g, o + 3, none⟩ = false ∧ w.frozen? ⟨g, o + 4, none⟩ = false) :=
  ⟨⟨h.cell (by omega), h.cell (by omega), h.cell (by omega), h.cell (by omega), h.cell (by omega)⟩, h.free _, h.free _, h.free _, h.free _, h.free _⟩
theorem Blk.at5o {w : World} {g : Nat} {ys : List Int} {t : Nat → Int} {a : Nat} (h : Blk w g .u64 ys) (ha : a * 5 + 5 ≤ ys.length) (hy : ∀ i, i < 5 → ys.getD (5 * a + i) 0 = t i) :
    w.cell? ⟨g, a * 5, none⟩ = some (.int .u64 (t 0)) ∧ w.cell? ⟨g, a * 5 + 1, none⟩ = some (.int .u64 (t 1)) ∧ w.cell? ⟨g, a * 5 + 2, none⟩ = some (.int .u64 (t 2)) ∧ w.cell? ⟨g, a * 5 + 3, none⟩ = some (.int .u64 (t 3)) ∧ w.cell? ⟨g, a * 5 + 4, none⟩ = some (.int .u64 (t 4)) := by
  obtain ⟨h0, h1, h2, h3, h4⟩ := (h.mid5 (a * 5) ha).1
  rw [Nat.mul_comm a 5] at *
  rw [h0, h1, h2, h3, h4, ← hy 0 (by omega), ← hy 1 (by omega), ← hy 2 (by omega), ← hy 3 (by omega), ← hy 4 (by omega)]
  exact ⟨rfl, rfl, rfl, rfl, rfl⟩

/-- Five limbs laid at place o. -/
def sety (ys : List Int) (o : Nat) (u : Nat → Int) : List Int := ((((ys.set o (u 0)).set (o + 1) (u 1)).set (o + 2) (u 2)).set (o + 3) (u 3)).set (o + 4) (u 4)
theorem sety_other (ys : List Int) (o : Nat) (u : Nat → Int) (j : Nat) (h : j < o ∨ o + 5 ≤ j) : (sety ys o u).getD j 0 = ys.getD j 0 := by
  unfold sety
  rw [getD_set_ne _ _ _ _ (by omega), getD_set_ne _ _ _ _ (by omega), getD_set_ne _ _ _ _ (by omega), getD_set_ne _ _ _ _ (by omega), getD_set_ne _ _ _ _ (by omega)]
theorem sety_same (ys : List Int) (o : Nat) (u : Nat → Int) (ho : o + 5 ≤ ys.length) : ∀ i, i < 5 → (sety ys o u).getD (o + i) 0 = u i := by
  intro i hi
  unfold sety
  obtain rfl | rfl | rfl | rfl | rfl : i = 0 ∨ i = 1 ∨ i = 2 ∨ i = 3 ∨ i = 4 := by omega
  · rw [getD_set_ne _ _ _ _ (by omega), getD_set_ne _ _ _ _ (by omega), getD_set_ne _ _ _ _ (by omega), getD_set_ne _ _ _ _ (by omega), Nat.add_zero, getD_set_self _ _ _ (by omega)]
  · rw [getD_set_ne _ _ _ _ (by omega), getD_set_ne _ _ _ _ (by omega), getD_set_ne _ _ _ _ (by omega), getD_set_self _ _ _ (by simp; omega)]
  · rw [getD_set_ne _ _ _ _ (by omega), getD_set_ne _ _ _ _ (by omega), getD_set_self _ _ _ (by simp; omega)]
  · rw [getD_set_ne _ _ _ _ (by omega), getD_set_self _ _ _ (by simp; omega)]
  · rw [getD_set_self _ _ _ (by simp; omega)]
theorem emod_pow (x P : Int) : ∀ n : Nat, (x % P) ^ n % P = x ^ n % P
  | 0 => by rw [Int.pow_zero, Int.pow_zero]
  | n + 1 => by rw [Int.pow_succ, Int.pow_succ, Int.mul_emod, emod_pow x P n, Int.emod_emod, ← Int.mul_emod]
theorem pow_step {x : Int} {ea eb ec : Nat} {p q t : Int} (h : q = p ^ 2 ^ eb % PP) (hp : p = x ^ ea % PP) (ht : t = x ^ ec % PP) : q * t % PP = x ^ (ea * 2 ^ eb + ec) % PP := by
  rw [h, ht, hp, emod_pow, ← Int.mul_emod, ← Int.pow_mul, ← Int.pow_add]
theorem PwTo.set {e : Nat → Int} {ys : List Int} {k a b c : Nat} {ta tc u : Nat → Int} {q : Int} (h : PwTo e ys (k + 2)) (_ : a < k + 2) (_ : b ≤ 100) (_ : c < k + 2) (hx : exL.getD (k + 2) 0 = exL.getD a 0 * 2 ^ b + exL.getD c 0)
    (Va : sv ta 5 = sv e 5 ^ exL.getD a 0 % PP) (Vc : sv tc 5 = sv e 5 ^ exL.getD c 0 % PP) (hq : q = sv ta 5 ^ 2 ^ b % PP) (hu : Lm u ∧ sv u 5 = q * sv tc 5 % PP) (hk : k < 11) : PwTo e (sety ys ((k + 2) * 5) u) (k + 1 + 2) := by
  refine ⟨by simp [sety, h.1], fun j hj => ?_⟩
  by_cases ej : j < k + 2
  · obtain ⟨t, ht, hy⟩ := h.2 j ej
    exact ⟨t, ht, fun i hi => by rw [sety_other _ _ _ _ (by omega)]; exact hy i hi⟩
  · obtain rfl : j = k + 2 := by omega
    refine ⟨u, ⟨hu.1, ?_⟩, fun i hi => ?_⟩
    · rw [hu.2, pow_step hq Va Vc, hx]
    · rw [Nat.mul_comm 5]; exact sety_same ys _ u (by rw [h.1]; omega) i hi

set_option maxHeartbeats 8000000 in
theorem chain_any (w : World) (e : Nat → Int) (he : Elm e) (a b c : Nat) (ha : a < 13) (hb : b ≤ 100) (hc : c < 13) (hS : HasSt w 6) :
    Calls Tryd.prog 109 #[ag5 e, .agg #[.int .i64 (a : Int), .int .i64 (b : Int), .int .i64 (c : Int)]] w fun r w' => ∃ t, r = .returned (ag5 t) ∧ Lm t ∧ sv t 5 = sv e 5 ^ (exL.getD a 0 * 2 ^ b + exL.getD c 0) % PP ∧ Below w.heap.size w w' := by
  obtain ⟨l0, h0⟩ : ∃ l : Int, l = (a : Int) := ⟨_, rfl⟩
  obtain ⟨l1, h1⟩ : ∃ l : Int, l = (b : Int) := ⟨_, rfl⟩
  obtain ⟨l2, h2⟩ : ∃ l : Int, l = (c : Int) := ⟨_, rfl⟩
  have H0 := hide h0
  have H1 := hide h1
  have H2 := hide h2
  have HA := hide ha
  have HB := hide hb
  have HC := hide hc
  rw [← h0, ← h1, ← h2]
  clear h0 h1 h2 ha hb hc
  have B0 := blk_box w .u64 49 (e 0) (e 1) (e 2) (e 3) (e 4)
  have n0 : Below w.heap.size w (w.alloc (.cells #[.int .u64 (e 0), .int .u64 (e 1), .int .u64 (e 2), .int .u64 (e 3), .int .u64 (e 4)] 49)) := (Below.refl _ _).alloc (Nat.le_refl _) _
  have s0 : (w.alloc (.cells #[.int .u64 (e 0), .int .u64 (e 1), .int .u64 (e 2), .int .u64 (e 3), .int .u64 (e 4)] 49)).heap.size = w.heap.size + 1 := by simp
  simp only [ag5]
  go_enter Tryd.func109, Tryd.ntmps109
  go_wp2
  generalize w.alloc (.cells #[.int .u64 (e 0), .int .u64 (e 1), .int .u64 (e 2), .int .u64 (e 3), .int .u64 (e 4)] 49) = wa at *
  have B1 := blk_box3 wa .i64 136 l0 l1 l2
  have n1 : Below wa.heap.size wa (wa.alloc (.cells #[.int .i64 l0, .int .i64 l1, .int .i64 l2] 136)) := (Below.refl _ _).alloc (Nat.le_refl _) _
  have s1 : (wa.alloc (.cells #[.int .i64 l0, .int .i64 l1, .int .i64 l2] 136)).heap.size = w.heap.size + 1 + 1 := by simp [s0]
  generalize wa.alloc (.cells #[.int .i64 l0, .int .i64 l1, .int .i64 l2] 136) = wb at *
  have B2 := blk_box wb .u64 49 0 0 0 0 0
  have n2 : Below wb.heap.size wb (wb.alloc (.cells #[.int .u64 0, .int .u64 0, .int .u64 0, .int .u64 0, .int .u64 0] 49)) := (Below.refl _ _).alloc (Nat.le_refl _) _
  have s2 : (wb.alloc (.cells #[.int .u64 0, .int .u64 0, .int .u64 0, .int .u64 0, .int .u64 0] 49)).heap.size = w.heap.size + 1 + 1 + 1 := by simp [s1]
  generalize wb.alloc (.cells #[.int .u64 0, .int .u64 0, .int .u64 0, .int .u64 0, .int .u64 0] 49) = wc at *
  have LS := pw0_laid wc e
  rw [s2] at LS
  rw [LS]
  have B3 : Blk (wc.alloc (.cells ((pw0 e).map (Value.int .u64)).toArray 141)) (w.heap.size + 1 + 1 + 1) .u64 (pw0 e) := ⟨141, by rw [← s2, heap_alloc_last]⟩
  have n3 : Below wc.heap.size wc (wc.alloc (.cells ((pw0 e).map (Value.int .u64)).toArray 141)) := (Below.refl _ _).alloc (Nat.le_refl _) _
  have s3 : (wc.alloc (.cells ((pw0 e).map (Value.int .u64)).toArray 141)).heap.size = w.heap.size + 1 + 1 + 1 + 1 := by simp [s2]
  generalize wc.alloc (.cells ((pw0 e).map (Value.int .u64)).toArray 141) = wd at *
  have E0 := ((B0.up n1).up n2).up n3
  have N := nxt (nxt (nxt n0 n1) n2) n3
  have hSd := hS.up N
  rw [s0] at B1
  rw [s1] at B2
  have E1 := (B1.up n2).up n3
  have E2 := B2.up n3
  clear B0 B1 B2 n0 n1 n2 n3 s0 s1 s2 LS hS
  obtain ⟨⟨p0, p1, p2, p3, p4⟩, _⟩ := E0.f5
  have hR := hide hSd.range
  clear hSd
  go_upto_region 2 with fail
  go_wp2_with (refine wpList_load_mid rfl 142 (Operand.global 6) rfl 6 0 rfl stA.toList (.array 11 136) hR.out u86 rfl i86 ?_)
  clear hR
  go_loopw [12] (fun i wr => ∃ (k : Nat) (ys : List Int), k ≤ 11 ∧ i = .int .i64 k ∧ PwTo e ys (k + 2) ∧ Blk wr (w.heap.size + 1 + 1 + 1) .u64 ys ∧ Blk wr (w.heap.size + 1) .i64 [l0, l1, l2] ∧ Blk wr (w.heap.size + 1 + 1) .u64 [0, 0, 0, 0, 0] ∧ Below w.heap.size w wr) (fun i _ => 11 - (intOf i).toNat)
  case atStart => exact ⟨0, _, by omega, rfl, PwTo.zero he, B3, E1, E2, N⟩
  case round =>
    clear B3 E0 E1 E2 N s3 p0 p1 p2 p3 p4
    obtain ⟨k, ys, hk, rfl, hP, hB, hL, hR, hN⟩ := hrel
    have hsz := hB.lt
    by_cases hlt : k < 11
    · have k2 : (k : Int) < 11 := by omega
      obtain ⟨a, b, c, ha, hb, hc, hx, hI⟩ := st_tab k hlt
      obtain ⟨ta, ⟨La, Va⟩, Ya⟩ := hP.2 a (by omega)
      obtain ⟨tc, ⟨Lc, Vc⟩, Yc⟩ := hP.2 c (by omega)
      have T0 := blk_box3 wr .i64 136 (a : Int) (b : Int) (c : Int)
      have n0 : Below wr.heap.size wr (wr.alloc (.cells #[.int .i64 (a : Int), .int .i64 (b : Int), .int .i64 (c : Int)] 136)) := (Below.refl _ _).alloc (Nat.le_refl _) _
      have hB1 := hB.up n0
      have hL1 := hL.up n0
      have hR1 := hR.up n0
      have hN1 := nxt hN n0
      have zn : (wr.alloc (.cells #[.int .i64 (a : Int), .int .i64 (b : Int), .int .i64 (c : Int)] 136)).heap.size = wr.heap.size + 1 := by simp
      clear hB hL hR hN
      go_upto_region 5 with fail
      generalize wr.alloc (.cells #[.int .i64 (a : Int), .int .i64 (b : Int), .int .i64 (c : Int)] 136) = wn at *
      obtain ⟨G, hG⟩ : ∃ G, G = wr.heap.size := ⟨_, rfl⟩
      rw [← hG] at T0 zn hsz ⊢
      clear n0 hG wr
      have hyl := hP.1
      have a1 : (a : Int) < 13 := by omega
      have c1 : (c : Int) < 13 := by omega
      have kk : IntKind.i64.wrap ((2 : Int) + (k : Int)) = 2 + (k : Int) := by rw [IntKind.wrap_i64]; omega
      have k0 : (0 : Int) ≤ 2 + (k : Int) := by omega
      have kl : (2 : Int) + (k : Int) < 13 := by omega
      have kt : ((2 : Int) + (k : Int)).toNat = k + 2 := by omega
      have FB : Hid (∀ W, Below wn.heap.size wn W → Blk W G .i64 [(a : Int), (b : Int), (c : Int)] ∧ Blk W (w.heap.size + 1 + 1 + 1) .u64 ys) := fun W n => ⟨T0.up n, hB1.up n⟩
      have SQ : Hid (∀ W, Below wn.heap.size wn W → Calls Tryd.prog 112 #[.agg #[.int .u64 (ta 0), .int .u64 (ta 1), .int .u64 (ta 2), .int .u64 (ta 3), .int .u64 (ta 4)], .int .i64 (b : Int)] W fun r w' => ∃ t, r = .returned (ag5 t) ∧ (Lm t ∧ sv t 5 = sv ta 5 ^ 2 ^ b % PP) ∧ Below wn.heap.size wn w') := by
        intro W n
        refine (squareTimes_any W ta (Elm.of La Va) b (by omega)).mono ?_
        rintro r w' ⟨t, rfl, L, V, n'⟩
        exact ⟨t, rfl, ⟨L, V⟩, nxt n n'⟩
      have MU : Hid (∀ W t, Below wn.heap.size wn W → Lm t → Calls Tryd.prog 100 #[ag5 t, .agg #[.int .u64 (tc 0), .int .u64 (tc 1), .int .u64 (tc 2), .int .u64 (tc 3), .int .u64 (tc 4)]] W fun r w' => ∃ u, r = .returned (.agg #[.int .u64 (u 0), .int .u64 (u 1), .int .u64 (u 2), .int .u64 (u 3), .int .u64 (u 4)]) ∧ (Lm u ∧ sv u 5 = sv t 5 * sv tc 5 % PP) ∧ Below wn.heap.size wn w') := by
        intro W t n ht
        refine (mulE_any W t tc ht Lc).mono ?_
        rintro r w' ⟨u, rfl, L, V, n'⟩
        exact ⟨u, rfl, ⟨L, V⟩, nxt n n'⟩
      have SB : Hid (∀ W, Below wn.heap.size wn W → W.cell? ⟨G, 0, none⟩ = some (.int .i64 (a : Int)) ∧ W.cell? ⟨G, 1, none⟩ = some (.int .i64 (b : Int)) ∧ W.cell? ⟨G, 2, none⟩ = some (.int .i64 (c : Int)) ∧ W.cell? ⟨w.heap.size + 1 + 1 + 1, a * 5, none⟩ = some (.int .u64 (ta 0)) ∧ W.cell? ⟨w.heap.size + 1 + 1 + 1, a * 5 + 1, none⟩ = some (.int .u64 (ta 1)) ∧ W.cell? ⟨w.heap.size + 1 + 1 + 1, a * 5 + 2, none⟩ = some (.int .u64 (ta 2)) ∧ W.cell? ⟨w.heap.size + 1 + 1 + 1, a * 5 + 3, none⟩ = some (.int .u64 (ta 3)) ∧ W.cell? ⟨w.heap.size + 1 + 1 + 1, a * 5 + 4, none⟩ = some (.int .u64 (ta 4)) ∧ W.cell? ⟨w.heap.size + 1 + 1 + 1, c * 5, none⟩ = some (.int .u64 (tc 0)) ∧ W.cell? ⟨w.heap.size + 1 + 1 + 1, c * 5 + 1, none⟩ = some (.int .u64 (tc 1)) ∧ W.cell? ⟨w.heap.size + 1 + 1 + 1, c * 5 + 2, none⟩ = some (.int .u64 (tc 2)) ∧ W.cell? ⟨w.heap.size + 1 + 1 + 1, c * 5 + 3, none⟩ = some (.int .u64 (tc 3)) ∧ W.cell? ⟨w.heap.size + 1 + 1 + 1, c * 5 + 4, none⟩ = some (.int .u64 (tc 4))) := by
        intro W n
        obtain ⟨x0, x1, x2, x3, x4⟩ := (hB1.up n).at5o (by omega) Ya
        obtain ⟨y0, y1, y2, y3, y4⟩ := (hB1.up n).at5o (by omega) Yc
        exact ⟨(T0.up n).cell (i := 0) (by simp), (T0.up n).cell (i := 1) (by simp), (T0.up n).cell (i := 2) (by simp), x0, x1, x2, x3, x4, y0, y1, y2, y3, y4⟩
      have SC : Hid (∀ W (u : Nat → Int), Below wn.heap.size wn W → Blk (((((W.setCell ⟨w.heap.size + 1 + 1 + 1, (k + 2) * 5, none⟩ (.int .u64 (u 0))).setCell ⟨w.heap.size + 1 + 1 + 1, (k + 2) * 5 + 1, none⟩ (.int .u64 (u 1))).setCell ⟨w.heap.size + 1 + 1 + 1, (k + 2) * 5 + 2, none⟩ (.int .u64 (u 2))).setCell ⟨w.heap.size + 1 + 1 + 1, (k + 2) * 5 + 3, none⟩ (.int .u64 (u 3))).setCell ⟨w.heap.size + 1 + 1 + 1, (k + 2) * 5 + 4, none⟩ (.int .u64 (u 4))) (w.heap.size + 1 + 1 + 1) .u64 (sety ys ((k + 2) * 5) u) ∧ Below wn.heap.size wn W) := by
        intro W u n
        exact ⟨(((((hB1.up n).store _ _).store _ _).store _ _).store _ _).store _ _, n⟩
      have SS : Hid (∀ W (u : Nat → Int), Below wn.heap.size wn W → (fun W => W.cell? ⟨G, 0, none⟩ = some (.int .i64 (a : Int)) ∧ W.cell? ⟨G, 1, none⟩ = some (.int .i64 (b : Int)) ∧ W.cell? ⟨G, 2, none⟩ = some (.int .i64 (c : Int)) ∧ W.cell? ⟨w.heap.size + 1 + 1 + 1, a * 5, none⟩ = some (.int .u64 (ta 0)) ∧ W.cell? ⟨w.heap.size + 1 + 1 + 1, a * 5 + 1, none⟩ = some (.int .u64 (ta 1)) ∧ W.cell? ⟨w.heap.size + 1 + 1 + 1, a * 5 + 2, none⟩ = some (.int .u64 (ta 2)) ∧ W.cell? ⟨w.heap.size + 1 + 1 + 1, a * 5 + 3, none⟩ = some (.int .u64 (ta 3)) ∧ W.cell? ⟨w.heap.size + 1 + 1 + 1, a * 5 + 4, none⟩ = some (.int .u64 (ta 4)) ∧ W.cell? ⟨w.heap.size + 1 + 1 + 1, c * 5, none⟩ = some (.int .u64 (tc 0)) ∧ W.cell? ⟨w.heap.size + 1 + 1 + 1, c * 5 + 1, none⟩ = some (.int .u64 (tc 1)) ∧ W.cell? ⟨w.heap.size + 1 + 1 + 1, c * 5 + 2, none⟩ = some (.int .u64 (tc 2)) ∧ W.cell? ⟨w.heap.size + 1 + 1 + 1, c * 5 + 3, none⟩ = some (.int .u64 (tc 3)) ∧ W.cell? ⟨w.heap.size + 1 + 1 + 1, c * 5 + 4, none⟩ = some (.int .u64 (tc 4))) (((((W.setCell ⟨w.heap.size + 1 + 1 + 1, (k + 2) * 5, none⟩ (.int .u64 (u 0))).setCell ⟨w.heap.size + 1 + 1 + 1, (k + 2) * 5 + 1, none⟩ (.int .u64 (u 1))).setCell ⟨w.heap.size + 1 + 1 + 1, (k + 2) * 5 + 2, none⟩ (.int .u64 (u 2))).setCell ⟨w.heap.size + 1 + 1 + 1, (k + 2) * 5 + 3, none⟩ (.int .u64 (u 3))).setCell ⟨w.heap.size + 1 + 1 + 1, (k + 2) * 5 + 4, none⟩ (.int .u64 (u 4)))) := by
        intro W u n
        obtain ⟨B, _⟩ := (unhide SC) W u n
        have hl : (sety ys ((k + 2) * 5) u).length = 65 := by simp [sety, hyl]
        obtain ⟨x0, x1, x2, x3, x4⟩ := B.at5o (a := a) (t := ta) (by omega) (fun i hi => by rw [sety_other _ _ _ _ (by omega)]; exact Ya i hi)
        obtain ⟨y0, y1, y2, y3, y4⟩ := B.at5o (a := c) (t := tc) (by omega) (fun i hi => by rw [sety_other _ _ _ _ (by omega)]; exact Yc i hi)
        have T1 := T0.up n
        have hne : G ≠ w.heap.size + 1 + 1 + 1 := by omega
        have T2 := ((((T1.keep (k := (k + 2) * 5) (v := .int .u64 (u 0)) hne).keep (k := (k + 2) * 5 + 1) (v := .int .u64 (u 1)) hne).keep (k := (k + 2) * 5 + 2) (v := .int .u64 (u 2)) hne).keep (k := (k + 2) * 5 + 3) (v := .int .u64 (u 3)) hne).keep (k := (k + 2) * 5 + 4) (v := .int .u64 (u 4)) hne
        exact ⟨T2.cell (i := 0) (by simp), T2.cell (i := 1) (by simp), T2.cell (i := 2) (by simp), x0, x1, x2, x3, x4, y0, y1, y2, y3, y4⟩
      have PWn : Hid (∀ (q : Int) (u : Nat → Int), q = sv ta 5 ^ 2 ^ b % PP → Lm u ∧ sv u 5 = q * sv tc 5 % PP → PwTo e (sety ys ((k + 2) * 5) u) (k + 1 + 2)) := fun q u h1 h2 => hP.set ha hb hc hx Va Vc h1 h2 hlt
      have nd : Below wn.heap.size wn wn.drew := (Below.refl _ _).drew
      have HYL := hide hyl
      clear Ya Yc hI hyl hx Va Vc
      go_region_held3 (fun W => W.cell? ⟨G, 0, none⟩ = some (.int .i64 (a : Int)) ∧ W.cell? ⟨G, 1, none⟩ = some (.int .i64 (b : Int)) ∧ W.cell? ⟨G, 2, none⟩ = some (.int .i64 (c : Int)) ∧ W.cell? ⟨w.heap.size + 1 + 1 + 1, a * 5, none⟩ = some (.int .u64 (ta 0)) ∧ W.cell? ⟨w.heap.size + 1 + 1 + 1, a * 5 + 1, none⟩ = some (.int .u64 (ta 1)) ∧ W.cell? ⟨w.heap.size + 1 + 1 + 1, a * 5 + 2, none⟩ = some (.int .u64 (ta 2)) ∧ W.cell? ⟨w.heap.size + 1 + 1 + 1, a * 5 + 3, none⟩ = some (.int .u64 (ta 3)) ∧ W.cell? ⟨w.heap.size + 1 + 1 + 1, a * 5 + 4, none⟩ = some (.int .u64 (ta 4)) ∧ W.cell? ⟨w.heap.size + 1 + 1 + 1, c * 5, none⟩ = some (.int .u64 (tc 0)) ∧ W.cell? ⟨w.heap.size + 1 + 1 + 1, c * 5 + 1, none⟩ = some (.int .u64 (tc 1)) ∧ W.cell? ⟨w.heap.size + 1 + 1 + 1, c * 5 + 2, none⟩ = some (.int .u64 (tc 2)) ∧ W.cell? ⟨w.heap.size + 1 + 1 + 1, c * 5 + 3, none⟩ = some (.int .u64 (tc 3)) ∧ W.cell? ⟨w.heap.size + 1 + 1 + 1, c * 5 + 4, none⟩ = some (.int .u64 (tc 4))) (first | exact (unhide SB) _ nd | exact (unhide SB) _ ns | exact (unhide SB) _ nm | exact (unhide SS) _ _ nm)
        (first
          | (go_at_call 112; refine ((unhide SQ) _ nd).mono ?_; rintro r ws ⟨t, rfl, LT, ns⟩)
          | (go_at_call 100; refine ((unhide MU) _ _ ns LT.1).mono ?_; rintro r wm ⟨u, rfl, LU, nm⟩; obtain ⟨Tm, Bm⟩ := (unhide FB) wm nm; obtain ⟨⟨_, _, _, _, _⟩, ⟨_, _, _, _, _⟩⟩ := Bm.mid5 ((k + 2) * 5) (by have := HYL.out; omega)))
      all_goals
        have F1 := ((unhide SC) wm u nm).1
        have F2 : Blk (((((wm.setCell ⟨w.heap.size + 1 + 1 + 1, (k + 2) * 5, none⟩ (.int .u64 (u 0))).setCell ⟨w.heap.size + 1 + 1 + 1, (k + 2) * 5 + 1, none⟩ (.int .u64 (u 1))).setCell ⟨w.heap.size + 1 + 1 + 1, (k + 2) * 5 + 2, none⟩ (.int .u64 (u 2))).setCell ⟨w.heap.size + 1 + 1 + 1, (k + 2) * 5 + 3, none⟩ (.int .u64 (u 3))).setCell ⟨w.heap.size + 1 + 1 + 1, (k + 2) * 5 + 4, none⟩ (.int .u64 (u 4))) (w.heap.size + 1) .i64 [l0, l1, l2] := (((((hL1.up nm).keep (by omega)).keep (by omega)).keep (by omega)).keep (by omega)).keep (by omega)
        have F3 : Blk (((((wm.setCell ⟨w.heap.size + 1 + 1 + 1, (k + 2) * 5, none⟩ (.int .u64 (u 0))).setCell ⟨w.heap.size + 1 + 1 + 1, (k + 2) * 5 + 1, none⟩ (.int .u64 (u 1))).setCell ⟨w.heap.size + 1 + 1 + 1, (k + 2) * 5 + 2, none⟩ (.int .u64 (u 2))).setCell ⟨w.heap.size + 1 + 1 + 1, (k + 2) * 5 + 3, none⟩ (.int .u64 (u 3))).setCell ⟨w.heap.size + 1 + 1 + 1, (k + 2) * 5 + 4, none⟩ (.int .u64 (u 4))) (w.heap.size + 1 + 1) .u64 [0, 0, 0, 0, 0] := (((((hR1.up nm).keep (by omega)).keep (by omega)).keep (by omega)).keep (by omega)).keep (by omega)
        have hsz' : w.heap.size ≤ w.heap.size + 1 + 1 + 1 := by omega
        have F4 : Below w.heap.size w (((((wm.setCell ⟨w.heap.size + 1 + 1 + 1, (k + 2) * 5, none⟩ (.int .u64 (u 0))).setCell ⟨w.heap.size + 1 + 1 + 1, (k + 2) * 5 + 1, none⟩ (.int .u64 (u 1))).setCell ⟨w.heap.size + 1 + 1 + 1, (k + 2) * 5 + 2, none⟩ (.int .u64 (u 2))).setCell ⟨w.heap.size + 1 + 1 + 1, (k + 2) * 5 + 3, none⟩ (.int .u64 (u 3))).setCell ⟨w.heap.size + 1 + 1 + 1, (k + 2) * 5 + 4, none⟩ (.int .u64 (u 4))) := (((((nxt hN1 nm).setCell hsz' _).setCell hsz' _).setCell hsz' _).setCell hsz' _).setCell hsz' _
        have F5 := hide ((unhide PWn) _ _ LT.2 LU)
        generalize ((((wm.setCell ⟨w.heap.size + 1 + 1 + 1, (k + 2) * 5, none⟩ (.int .u64 (u 0))).setCell ⟨w.heap.size + 1 + 1 + 1, (k + 2) * 5 + 1, none⟩ (.int .u64 (u 1))).setCell ⟨w.heap.size + 1 + 1 + 1, (k + 2) * 5 + 2, none⟩ (.int .u64 (u 2))).setCell ⟨w.heap.size + 1 + 1 + 1, (k + 2) * 5 + 3, none⟩ (.int .u64 (u 3))).setCell ⟨w.heap.size + 1 + 1 + 1, (k + 2) * 5 + 4, none⟩ (.int .u64 (u 4)) = wz at *
        clear SB SC SS SQ MU FB PWn hB1 hL1 hR1 hN1 T0 LT LU Tm Bm nm ns nd kk k0 kl kt a1 c1 La Lc hP
        go_wp2
        go_roundw
        case rel => exact ⟨k + 1, _, by omega, by go_num, F5.out, F1, F2, F3, F4⟩
        case measure => simp [intOf]; omega
    · obtain rfl : k = 11 := by omega
      rw [H0.out, H1.out, H2.out] at hL
      have ha := HA.out
      have hb := HB.out
      have hc := HC.out
      obtain ⟨ta, ⟨La, Va⟩, Ya⟩ := hP.2 a ha
      obtain ⟨tc, ⟨Lc, Vc⟩, Yc⟩ := hP.2 c hc
      have hyl := hP.1
      have a1 : (a : Int) < 13 := by omega
      have c1 : (c : Int) < 13 := by omega
      have SQ : Hid (∀ W, Below wr.heap.size wr W → Calls Tryd.prog 112 #[.agg #[.int .u64 (ta 0), .int .u64 (ta 1), .int .u64 (ta 2), .int .u64 (ta 3), .int .u64 (ta 4)], .int .i64 (b : Int)] W fun r w' => ∃ t, r = .returned (ag5 t) ∧ (Lm t ∧ sv t 5 = sv ta 5 ^ 2 ^ b % PP) ∧ Below wr.heap.size wr w') := by
        intro W n
        refine (squareTimes_any W ta (Elm.of La Va) b (by omega)).mono ?_
        rintro r w' ⟨t, rfl, L, V, n'⟩
        exact ⟨t, rfl, ⟨L, V⟩, nxt n n'⟩
      have MU : Hid (∀ W t, Below wr.heap.size wr W → Lm t → Calls Tryd.prog 100 #[ag5 t, .agg #[.int .u64 (tc 0), .int .u64 (tc 1), .int .u64 (tc 2), .int .u64 (tc 3), .int .u64 (tc 4)]] W fun r w' => ∃ u, r = .returned (.agg #[.int .u64 (u 0), .int .u64 (u 1), .int .u64 (u 2), .int .u64 (u 3), .int .u64 (u 4)]) ∧ (Lm u ∧ sv u 5 = sv t 5 * sv tc 5 % PP) ∧ Below wr.heap.size wr w') := by
        intro W t n ht
        refine (mulE_any W t tc ht Lc).mono ?_
        rintro r w' ⟨u, rfl, L, V, n'⟩
        exact ⟨u, rfl, ⟨L, V⟩, nxt n n'⟩
      have SB : Hid (∀ W, Below wr.heap.size wr W → W.cell? ⟨w.heap.size + 1, 0, none⟩ = some (.int .i64 (a : Int)) ∧ W.cell? ⟨w.heap.size + 1, 1, none⟩ = some (.int .i64 (b : Int)) ∧ W.cell? ⟨w.heap.size + 1, 2, none⟩ = some (.int .i64 (c : Int)) ∧ W.cell? ⟨w.heap.size + 1 + 1 + 1, a * 5, none⟩ = some (.int .u64 (ta 0)) ∧ W.cell? ⟨w.heap.size + 1 + 1 + 1, a * 5 + 1, none⟩ = some (.int .u64 (ta 1)) ∧ W.cell? ⟨w.heap.size + 1 + 1 + 1, a * 5 + 2, none⟩ = some (.int .u64 (ta 2)) ∧ W.cell? ⟨w.heap.size + 1 + 1 + 1, a * 5 + 3, none⟩ = some (.int .u64 (ta 3)) ∧ W.cell? ⟨w.heap.size + 1 + 1 + 1, a * 5 + 4, none⟩ = some (.int .u64 (ta 4)) ∧ W.cell? ⟨w.heap.size + 1 + 1 + 1, c * 5, none⟩ = some (.int .u64 (tc 0)) ∧ W.cell? ⟨w.heap.size + 1 + 1 + 1, c * 5 + 1, none⟩ = some (.int .u64 (tc 1)) ∧ W.cell? ⟨w.heap.size + 1 + 1 + 1, c * 5 + 2, none⟩ = some (.int .u64 (tc 2)) ∧ W.cell? ⟨w.heap.size + 1 + 1 + 1, c * 5 + 3, none⟩ = some (.int .u64 (tc 3)) ∧ W.cell? ⟨w.heap.size + 1 + 1 + 1, c * 5 + 4, none⟩ = some (.int .u64 (tc 4))) := by
        intro W n
        obtain ⟨x0, x1, x2, x3, x4⟩ := (hB.up n).at5o (by omega) Ya
        obtain ⟨y0, y1, y2, y3, y4⟩ := (hB.up n).at5o (by omega) Yc
        exact ⟨(hL.up n).cell (i := 0) (by simp), (hL.up n).cell (i := 1) (by simp), (hL.up n).cell (i := 2) (by simp), x0, x1, x2, x3, x4, y0, y1, y2, y3, y4⟩
      have SS : Hid (∀ W (u : Nat → Int), Below wr.heap.size wr W → (fun W => W.cell? ⟨w.heap.size + 1, 0, none⟩ = some (.int .i64 (a : Int)) ∧ W.cell? ⟨w.heap.size + 1, 1, none⟩ = some (.int .i64 (b : Int)) ∧ W.cell? ⟨w.heap.size + 1, 2, none⟩ = some (.int .i64 (c : Int)) ∧ W.cell? ⟨w.heap.size + 1 + 1 + 1, a * 5, none⟩ = some (.int .u64 (ta 0)) ∧ W.cell? ⟨w.heap.size + 1 + 1 + 1, a * 5 + 1, none⟩ = some (.int .u64 (ta 1)) ∧ W.cell? ⟨w.heap.size + 1 + 1 + 1, a * 5 + 2, none⟩ = some (.int .u64 (ta 2)) ∧ W.cell? ⟨w.heap.size + 1 + 1 + 1, a * 5 + 3, none⟩ = some (.int .u64 (ta 3)) ∧ W.cell? ⟨w.heap.size + 1 + 1 + 1, a * 5 + 4, none⟩ = some (.int .u64 (ta 4)) ∧ W.cell? ⟨w.heap.size + 1 + 1 + 1, c * 5, none⟩ = some (.int .u64 (tc 0)) ∧ W.cell? ⟨w.heap.size + 1 + 1 + 1, c * 5 + 1, none⟩ = some (.int .u64 (tc 1)) ∧ W.cell? ⟨w.heap.size + 1 + 1 + 1, c * 5 + 2, none⟩ = some (.int .u64 (tc 2)) ∧ W.cell? ⟨w.heap.size + 1 + 1 + 1, c * 5 + 3, none⟩ = some (.int .u64 (tc 3)) ∧ W.cell? ⟨w.heap.size + 1 + 1 + 1, c * 5 + 4, none⟩ = some (.int .u64 (tc 4))) (((((W.setCell ⟨w.heap.size + 1 + 1, 0, none⟩ (.int .u64 (u 0))).setCell ⟨w.heap.size + 1 + 1, 1, none⟩ (.int .u64 (u 1))).setCell ⟨w.heap.size + 1 + 1, 2, none⟩ (.int .u64 (u 2))).setCell ⟨w.heap.size + 1 + 1, 3, none⟩ (.int .u64 (u 3))).setCell ⟨w.heap.size + 1 + 1, 4, none⟩ (.int .u64 (u 4)))) := by
        intro W u n
        have n1 : w.heap.size + 1 + 1 + 1 ≠ w.heap.size + 1 + 1 := by omega
        have n2 : w.heap.size + 1 ≠ w.heap.size + 1 + 1 := by omega
        have B := (((((hB.up n).keep (k := 0) (v := .int .u64 (u 0)) n1).keep (k := 1) (v := .int .u64 (u 1)) n1).keep (k := 2) (v := .int .u64 (u 2)) n1).keep (k := 3) (v := .int .u64 (u 3)) n1).keep (k := 4) (v := .int .u64 (u 4)) n1
        have T2 := (((((hL.up n).keep (k := 0) (v := .int .u64 (u 0)) n2).keep (k := 1) (v := .int .u64 (u 1)) n2).keep (k := 2) (v := .int .u64 (u 2)) n2).keep (k := 3) (v := .int .u64 (u 3)) n2).keep (k := 4) (v := .int .u64 (u 4)) n2
        obtain ⟨x0, x1, x2, x3, x4⟩ := B.at5o (by omega) Ya
        obtain ⟨y0, y1, y2, y3, y4⟩ := B.at5o (by omega) Yc
        exact ⟨T2.cell (i := 0) (by simp), T2.cell (i := 1) (by simp), T2.cell (i := 2) (by simp), x0, x1, x2, x3, x4, y0, y1, y2, y3, y4⟩
      have RB : Hid (∀ W, Below wr.heap.size wr W → Blk W (w.heap.size + 1 + 1) .u64 [0, 0, 0, 0, 0]) := fun W n => hR.up n
      have PW : Hid (∀ (q : Int) (u : Nat → Int), q = sv ta 5 ^ 2 ^ b % PP → sv u 5 = q * sv tc 5 % PP → sv u 5 = sv e 5 ^ (exL.getD a 0 * 2 ^ b + exL.getD c 0) % PP) := fun q u h1 h2 => by rw [h2, pow_step h1 Va Vc]
      have nd : Below wr.heap.size wr wr.drew := (Below.refl _ _).drew
      clear Ya Yc Va Vc hP hyl ha hb hc
      go_upto_region 7 with fail
      go_region_held3 (fun W => W.cell? ⟨w.heap.size + 1, 0, none⟩ = some (.int .i64 (a : Int)) ∧ W.cell? ⟨w.heap.size + 1, 1, none⟩ = some (.int .i64 (b : Int)) ∧ W.cell? ⟨w.heap.size + 1, 2, none⟩ = some (.int .i64 (c : Int)) ∧ W.cell? ⟨w.heap.size + 1 + 1 + 1, a * 5, none⟩ = some (.int .u64 (ta 0)) ∧ W.cell? ⟨w.heap.size + 1 + 1 + 1, a * 5 + 1, none⟩ = some (.int .u64 (ta 1)) ∧ W.cell? ⟨w.heap.size + 1 + 1 + 1, a * 5 + 2, none⟩ = some (.int .u64 (ta 2)) ∧ W.cell? ⟨w.heap.size + 1 + 1 + 1, a * 5 + 3, none⟩ = some (.int .u64 (ta 3)) ∧ W.cell? ⟨w.heap.size + 1 + 1 + 1, a * 5 + 4, none⟩ = some (.int .u64 (ta 4)) ∧ W.cell? ⟨w.heap.size + 1 + 1 + 1, c * 5, none⟩ = some (.int .u64 (tc 0)) ∧ W.cell? ⟨w.heap.size + 1 + 1 + 1, c * 5 + 1, none⟩ = some (.int .u64 (tc 1)) ∧ W.cell? ⟨w.heap.size + 1 + 1 + 1, c * 5 + 2, none⟩ = some (.int .u64 (tc 2)) ∧ W.cell? ⟨w.heap.size + 1 + 1 + 1, c * 5 + 3, none⟩ = some (.int .u64 (tc 3)) ∧ W.cell? ⟨w.heap.size + 1 + 1 + 1, c * 5 + 4, none⟩ = some (.int .u64 (tc 4))) (first | exact (unhide SB) _ nd | exact (unhide SB) _ ns | exact (unhide SB) _ nm | exact (unhide SS) _ _ nm)
        (first
          | (go_at_call 112; refine ((unhide SQ) _ nd).mono ?_; rintro r ws ⟨t, rfl, LT, ns⟩)
          | (go_at_call 100; refine ((unhide MU) _ _ ns LT.1).mono ?_; rintro r wm ⟨u, rfl, LU, nm⟩; (have Rm := (unhide RB) wm nm); obtain ⟨⟨p0, p1, p2, p3, p4⟩, ⟨_, _, _, _, _⟩⟩ := Rm.f5))
      all_goals
        have N2 := nxt hN nm
        have F5 := hide ((unhide PW) _ _ LT.2 LU.2)
        go_wp2
        exact bodyPost_ret (v := ag5 u) (by simp [ag5, results, Tryd.results109, go_sem, p0, p1, p2, p3, p4]) rfl ⟨u, rfl, LU.1, F5.out, below_set5 N2 (by omega) _ _ _ _ _⟩
end Go.Proofs.YtnaaanefndeafaaDoor
