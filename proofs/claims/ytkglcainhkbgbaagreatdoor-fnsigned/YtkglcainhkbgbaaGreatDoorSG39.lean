import Derived.Test.YtkglcainhkbgbaaGreatDoorSG38
import Derived.Deep.RegionWith
import Derived.Deep.MidRow
import Derived.Deep.RegionHeld3
import Derived.Deep.DeepCutAuto
import Derived.Test.YtkglcainhkbgbaaGreatDoorSG25
import Derived.Test.YtkglcainhkbgbaaGreatDoorSG3
import Derived.Test.YtkglcainhkbgbaaGreatDoorSG1
import Derived.Laws.Bits64
import Derived.Laws.Bits64b
import Derived.Test.YtkglcainhkbgbaaGreatDoorSG23
namespace Go.Proofs.YtkglcainhkbgbaaGreatDoor
set_option maxRecDepth 100000
open Go.RowKit
def stL : List Int := [1, 1, 0, 2, 2, 1, 3, 0, 2, 4, 1, 3, 5, 5, 5, 6, 10, 6, 7, 20, 7, 8, 10, 6, 9, 50, 9, 10, 100, 10, 11, 50, 9]
def HasSt (w : World) (g : Nat) : Prop := ∀ i, i < 33 → w.cell? ⟨g, i, none⟩ = some (.int .i64 (stL.getD i 0))
theorem HasSt.lt {w : World} {g : Nat} (h : HasSt w g) : g < w.heap.size := block_lt_of_cell (h 0 (by omega))
theorem HasSt.up {w w' : World} {g : Nat} (h : HasSt w g) (n : Below w.heap.size w w') : HasSt w' g := fun i hi => (World.cell?_of_block (a := ⟨g, i, none⟩) (n.block g h.lt)).trans (h i hi)
def stA : Array Value := (stL.map (Value.int .i64)).toArray
theorem u86 : Tryz.prog.underlying 186 = some (.array 11 184) := by kernel_rfl
theorem i86 : (Tryz.prog.info? 186).map (·.size) = some stA.toList.length := by kernel_rfl
theorem HasSt.range {W : World} {g : Nat} (h : HasSt W g) : W.rangeAt g 0 stA.toList := by
  intro j v hv
  have hj : j < 33 := by
    have := (List.getElem?_eq_some_iff.1 hv).1
    simpa [stA, stL] using this
  have e : stA.toList[j]? = some (Value.int .i64 (stL.getD j 0)) := by
    have hl : j < stL.length := hj
    simp [stA, hl]
  rw [Nat.zero_add, h j hj, ← e]; exact hv
def pw0 (e : Nat → Int) : List Int := [1, 0, 0, 0, 0, e 0, e 1, e 2, e 3, e 4] ++ List.replicate 55 0
theorem z85 : Tryz.zeroCells185 = ((List.replicate 65 0).map (Value.int .u64)).toArray := by kernel_rfl
theorem i85 : (Tryz.prog.info? 185).map (·.size) = some 65 := by kernel_rfl
theorem blk_box3 (w : World) (k : IntKind) (t : TypeId) (a b c : Int) : Blk (w.alloc (.cells #[.int k a, .int k b, .int k c] t)) w.heap.size k [a, b, c] :=
  ⟨t, by rw [heap_alloc_last]; rfl⟩
theorem pw0_laid (w : World) (e : Nat → Int) : (storeCells ⟨w.heap.size, 0, none⟩ ((((((((((Tryz.zeroCells185.toList.set 0 (Value.int IntKind.u64 1)).set 1 (Value.int IntKind.u64 0)).set 2 (Value.int IntKind.u64 0)).set 3 (Value.int IntKind.u64 0)).set 4 (Value.int IntKind.u64 0)).set 5 (Value.int IntKind.u64 (e 0))).set 6 (Value.int IntKind.u64 (e 1))).set 7 (Value.int IntKind.u64 (e 2))).set 8 (Value.int IntKind.u64 (e 3))).set 9 (Value.int IntKind.u64 (e 4))) 0).run Tryz.prog (w.alloc (.cells Tryz.zeroCells185 185)) =
    .ok () (w.alloc (.cells ((pw0 e).map (Value.int .u64)).toArray 185)) := by
  have h := run_storeCells_new (P := Tryz.prog) w 185 Tryz.zeroCells185 ((pw0 e).map (Value.int .u64)).toArray (by rw [i85]; rfl) (by rw [z85]; rfl) (by simp [pw0, Value.oneCell'])
  rw [← h]
  congr 2
def exL : List Nat := [0, 1, 2, 9, 11, 31, 1023, 1048575, 1099511627775, 1125899906842623, 1267650600228229401496703205375, 1606938044258990275541962092341162602522202993782792835301375, 1809251394333065553493296640760748560207343510400633813116524750123642650623]
def PwTo (e : Nat → Int) (ys : List Int) (m : Nat) : Prop := ys.length = 65 ∧ ∀ j, j < m → ∃ t, (Lm t ∧ sv t 5 = sv e 5 ^ exL.getD j 0 % PP) ∧ ∀ i, i < 5 → ys.getD (5 * j + i) 0 = t i
theorem PwTo.zero {e : Nat → Int} (he : Elm e) : PwTo e (pw0 e) (0 + 2) := by
  refine ⟨rfl, fun j hj => ?_⟩
  obtain rfl | rfl : j = 0 ∨ j = 1 := by omega
  · refine ⟨fun i => if i = 0 then 1 else 0, ⟨fun i _ => by dsimp only; split <;> omega, ?_⟩, fun i hi => ?_⟩
    · show _ = sv e 5 ^ 0 % PP
      rw [Int.pow_zero]
      decide
    · obtain rfl | rfl | rfl | rfl | rfl : i = 0 ∨ i = 1 ∨ i = 2 ∨ i = 3 ∨ i = 4 := by omega
      all_goals rfl
  · refine ⟨e, ⟨he.1, ?_⟩, fun i hi => ?_⟩
    · show _ = sv e 5 ^ 1 % PP
      rw [Int.pow_one, he.mod]
    · obtain rfl | rfl | rfl | rfl | rfl : i = 0 ∨ i = 1 ∨ i = 2 ∨ i = 3 ∨ i = 4 := by omega
      all_goals rfl
theorem st_tab : ∀ k, k < 11 → ∃ a b c : Nat, a < k + 2 ∧ b ≤ 100 ∧ c < k + 2 ∧ exL.getD (k + 2) 0 = exL.getD a 0 * 2 ^ b + exL.getD c 0 ∧
    ∀ W, (Instr.index 186 (.agg stA) (.int .i64 (k : Int))).run Tryz.prog W = .ok (.agg #[.int .i64 (a : Int), .int .i64 (b : Int), .int .i64 (c : Int)]) W := by
  intro k hk
  obtain rfl | rfl | rfl | rfl | rfl | rfl | rfl | rfl | rfl | rfl | rfl : k = 0 ∨ k = 1 ∨ k = 2 ∨ k = 3 ∨ k = 4 ∨ k = 5 ∨ k = 6 ∨ k = 7 ∨ k = 8 ∨ k = 9 ∨ k = 10 := by omega
  · exact ⟨1, 1, 0, by decide, by decide, by decide, by decide +kernel, fun W => by kernel_rfl⟩
  · exact ⟨2, 2, 1, by decide, by decide, by decide, by decide +kernel, fun W => by kernel_rfl⟩
  · exact ⟨3, 0, 2, by decide, by decide, by decide, by decide +kernel, fun W => by kernel_rfl⟩
  · exact ⟨4, 1, 3, by decide, by decide, by decide, by decide +kernel, fun W => by kernel_rfl⟩
  · exact ⟨5, 5, 5, by decide, by decide, by decide, by decide +kernel, fun W => by kernel_rfl⟩
  · exact ⟨6, 10, 6, by decide, by decide, by decide, by decide +kernel, fun W => by kernel_rfl⟩
  · exact ⟨7, 20, 7, by decide, by decide, by decide, by decide +kernel, fun W => by kernel_rfl⟩
  · exact ⟨8, 10, 6, by decide, by decide, by decide, by decide +kernel, fun W => by kernel_rfl⟩
  · exact ⟨9, 50, 9, by decide, by decide, by decide, by decide +kernel, fun W => by kernel_rfl⟩
  · exact ⟨10, 100, 10, by decide, by decide, by decide, by decide +kernel, fun W => by kernel_rfl⟩
  · exact ⟨11, 50, 9, by decide, by decide, by decide, by decide +kernel, fun W => by kernel_rfl⟩
theorem Blk.mid5 {w : World} {g : Nat} {k : IntKind} {ys : List Int} (h : Blk w g k ys) (o : Nat) (ho : o + 5 ≤ ys.length) :
    (w.cell? ⟨g, o, none⟩ = some (.int k (ys.getD o 0)) ∧ w.cell? ⟨g, o + 1, none⟩ = some (.int k (ys.getD (o + 1) 0)) ∧ w.cell? ⟨g, o + 2, none⟩ = some (.int k (ys.getD (o + 2) 0)) ∧ w.cell? ⟨g, o + 3, none⟩ = some (.int k (ys.getD (o + 3) 0)) ∧ w.cell? ⟨g, o + 4, none⟩ = some (.int k (ys.getD (o + 4) 0))) ∧
    (w.frozen? ⟨g, o, none⟩ = false ∧ w.frozen? ⟨g, o + 1, none⟩ = false ∧ w.frozen? ⟨g, o + 2, none⟩ = false ∧ w.frozen? ⟨g, o + 3, none⟩ = false ∧ w.frozen? ⟨g, o + 4, none⟩ = false) :=
  ⟨⟨h.cell (by omega), h.cell (by omega), h.cell (by omega), h.cell (by omega), h.cell (by omega)⟩, h.free _, h.free _, h.free _, h.free _, h.free _⟩
theorem Blk.at5o {w : World} {g : Nat} {ys : List Int} {t : Nat → Int} {a : Nat} (h : Blk w g .u64 ys) (ha : a * 5 + 5 ≤ ys.length) (hy : ∀ i, i < 5 → ys.getD (5 * a + i) 0 = t i) :
    w.cell? ⟨g, a * 5, none⟩ = some (.int .u64 (t 0)) ∧ w.cell? ⟨g, a * 5 + 1, none⟩ = some (.int .u64 (t 1)) ∧ w.cell? ⟨g, a * 5 + 2, none⟩ = some (.int .u64 (t 2)) ∧ w.cell? ⟨g, a * 5 + 3, none⟩ = some (.int .u64 (t 3)) ∧ w.cell? ⟨g, a * 5 + 4, none⟩ = some (.int .u64 (t 4)) := by
  obtain ⟨h0, h1, h2, h3, h4⟩ := (h.mid5 (a * 5) ha).1
  rw [Nat.mul_comm a 5] at *
  rw [h0, h1, h2, h3, h4, ← hy 0 (by omega), ← hy 1 (by omega), ← hy 2 (by omega), ← hy 3 (by omega), ← hy 4 (by omega)]
  exact ⟨rfl, rfl, rfl, rfl, rfl⟩
def sety (ys : List Int) (o : Nat) (u : Nat → Int) : List Int := ((((ys.set o (u 0)).set (o + 1) (u 1)).set (o + 2) (u 2)).set (o + 3) (u 3)).set (o + 4) (u 4)
theorem sety_other (ys : List Int) (o : Nat) (u : Nat → Int) (j : Nat) (h : j < o ∨ o + 5 ≤ j) : (sety ys o u).getD j 0 = ys.getD j 0 := by
  unfold sety
  rw [getD_set_ne _ _ _ _ (by omega), getD_set_ne _ _ _ _ (by omega), getD_set_ne _ _ _ _ (by omega), getD_set_ne _ _ _ _ (by omega), getD_set_ne _ _ _ _ (by omega)]
theorem sety_same (ys : List Int) (o : Nat) (u : Nat → Int) (ho : o + 5 ≤ ys.length) : ∀ i, i < 5 → (sety ys o u).getD (o + i) 0 = u i := by
  intro i hi
  unfold sety
  obtain rfl | rfl | rfl | rfl | rfl : i = 0 ∨ i = 1 ∨ i = 2 ∨ i = 3 ∨ i = 4 := by omega
  · rw [getD_set_ne _ _ _ _ (by omega), getD_set_ne _ _ _ _ (by omega), getD_set_ne _ _ _ _ (by omega), getD_set_ne _ _ _ _ (by omega), Nat.add_zero, getD_set_self _ _ _ (by omega)]
  · rw [getD_set_ne _ _ _ _ (by omega), getD_set_ne _ _ _ _ (by omega), getD_set_ne _ _ _ _ (by omega), getD_set_self _ _ _ (by simp; omega)]
  · rw [getD_set_ne _ _ _ _ (by omega), getD_set_ne _ _ _ _ (by omega), getD_set_self _ _ _ (by simp; omega)]
  · rw [getD_set_ne _ _ _ _ (by omega), getD_set_self _ _ _ (by simp; omega)]
  · rw [getD_set_self _ _ _ (by simp; omega)]
theorem emod_pow (x P : Int) : ∀ n : Nat, (x % P) ^ n % P = x ^ n % P
  | 0 => by rw [Int.pow_zero, Int.pow_zero]
  | n + 1 => by rw [Int.pow_succ, Int.pow_succ, Int.mul_emod, emod_pow x P n, Int.emod_emod, ← Int.mul_emod]
theorem pow_step {x : Int} {ea eb ec : Nat} {p q t : Int} (h : q = p ^ 2 ^ eb % PP) (hp : p = x ^ ea % PP) (ht : t = x ^ ec % PP) : q * t % PP = x ^ (ea * 2 ^ eb + ec) % PP := by
  rw [h, ht, hp, emod_pow, ← Int.mul_emod, ← Int.pow_mul, ← Int.pow_add]
theorem PwTo.set {e : Nat → Int} {ys : List Int} {k a b c : Nat} {ta tc u : Nat → Int} {q : Int} (h : PwTo e ys (k + 2)) (_ : a < k + 2) (_ : b ≤ 100) (_ : c < k + 2) (hx : exL.getD (k + 2) 0 = exL.getD a 0 * 2 ^ b + exL.getD c 0)
    (Va : sv ta 5 = sv e 5 ^ exL.getD a 0 % PP) (Vc : sv tc 5 = sv e 5 ^ exL.getD c 0 % PP) (hq : q = sv ta 5 ^ 2 ^ b % PP) (hu : Lm u ∧ sv u 5 = q * sv tc 5 % PP) (hk : k < 11) : PwTo e (sety ys ((k + 2) * 5) u) (k + 1 + 2) := by
  refine ⟨by simp [sety, h.1], fun j hj => ?_⟩
  by_cases ej : j < k + 2
  · obtain ⟨t, ht, hy⟩ := h.2 j ej
    exact ⟨t, ht, fun i hi => by rw [sety_other _ _ _ _ (by omega)]; exact hy i hi⟩
  · obtain rfl : j = k + 2 := by omega
    refine ⟨u, ⟨hu.1, ?_⟩, fun i hi => ?_⟩
    · rw [hu.2, pow_step hq Va Vc, hx]
    · rw [Nat.mul_comm 5]; exact sety_same ys _ u (by rw [h.1]; omega) i hi
set_option maxHeartbeats 8000000 in
theorem chain_any (w : World) (e : Nat → Int) (he : Elm e) (a b c : Nat) (ha : a < 13) (hb : b ≤ 100) (hc : c < 13) (hS : HasSt w 13) :
    Calls Tryz.prog 117 #[ag5 e, .agg #[.int .i64 (a : Int), .int .i64 (b : Int), .int .i64 (c : Int)]] w fun r w' => ∃ t, r = .returned (ag5 t) ∧ Lm t ∧ sv t 5 = sv e 5 ^ (exL.getD a 0 * 2 ^ b + exL.getD c 0) % PP ∧ Below w.heap.size w w' := by
  obtain ⟨l0, h0⟩ : ∃ l : Int, l = (a : Int) := ⟨_, rfl⟩
  obtain ⟨l1, h1⟩ : ∃ l : Int, l = (b : Int) := ⟨_, rfl⟩
  obtain ⟨l2, h2⟩ : ∃ l : Int, l = (c : Int) := ⟨_, rfl⟩
  have H0 := hide h0
  have H1 := hide h1
  have H2 := hide h2
  have HA := hide ha
  have HB := hide hb
  have HC := hide hc
  rw [← h0, ← h1, ← h2]
  clear h0 h1 h2 ha hb hc
  have B0 := blk_box w .u64 80 (e 0) (e 1) (e 2) (e 3) (e 4)
  have n0 : Below w.heap.size w (w.alloc (.cells #[.int .u64 (e 0), .int .u64 (e 1), .int .u64 (e 2), .int .u64 (e 3), .int .u64 (e 4)] 80)) := (Below.refl _ _).alloc (Nat.le_refl _) _
  have s0 : (w.alloc (.cells #[.int .u64 (e 0), .int .u64 (e 1), .int .u64 (e 2), .int .u64 (e 3), .int .u64 (e 4)] 80)).heap.size = w.heap.size + 1 := by simp
  simp only [ag5]
  go_enter Tryz.func117, Tryz.ntmps117
  go_wp2
  generalize w.alloc (.cells #[.int .u64 (e 0), .int .u64 (e 1), .int .u64 (e 2), .int .u64 (e 3), .int .u64 (e 4)] 80) = wa at *
  have B1 := blk_box3 wa .i64 184 l0 l1 l2
  have n1 : Below wa.heap.size wa (wa.alloc (.cells #[.int .i64 l0, .int .i64 l1, .int .i64 l2] 184)) := (Below.refl _ _).alloc (Nat.le_refl _) _
  have s1 : (wa.alloc (.cells #[.int .i64 l0, .int .i64 l1, .int .i64 l2] 184)).heap.size = w.heap.size + 1 + 1 := by simp [s0]
  generalize wa.alloc (.cells #[.int .i64 l0, .int .i64 l1, .int .i64 l2] 184) = wb at *
  have B2 := blk_box wb .u64 80 0 0 0 0 0
  have n2 : Below wb.heap.size wb (wb.alloc (.cells #[.int .u64 0, .int .u64 0, .int .u64 0, .int .u64 0, .int .u64 0] 80)) := (Below.refl _ _).alloc (Nat.le_refl _) _
  have s2 : (wb.alloc (.cells #[.int .u64 0, .int .u64 0, .int .u64 0, .int .u64 0, .int .u64 0] 80)).heap.size = w.heap.size + 1 + 1 + 1 := by simp [s1]
  generalize wb.alloc (.cells #[.int .u64 0, .int .u64 0, .int .u64 0, .int .u64 0, .int .u64 0] 80) = wc at *
  have LS := pw0_laid wc e
  rw [s2] at LS
  rw [LS]
  have B3 : Blk (wc.alloc (.cells ((pw0 e).map (Value.int .u64)).toArray 185)) (w.heap.size + 1 + 1 + 1) .u64 (pw0 e) := ⟨185, by rw [← s2, heap_alloc_last]⟩
  have n3 : Below wc.heap.size wc (wc.alloc (.cells ((pw0 e).map (Value.int .u64)).toArray 185)) := (Below.refl _ _).alloc (Nat.le_refl _) _
  have s3 : (wc.alloc (.cells ((pw0 e).map (Value.int .u64)).toArray 185)).heap.size = w.heap.size + 1 + 1 + 1 + 1 := by simp [s2]
  generalize wc.alloc (.cells ((pw0 e).map (Value.int .u64)).toArray 185) = wd at *
  have E0 := ((B0.up n1).up n2).up n3
  have N := nxt (nxt (nxt n0 n1) n2) n3
  have hSd := hS.up N
  rw [s0] at B1
  rw [s1] at B2
  have E1 := (B1.up n2).up n3
  have E2 := B2.up n3
  clear B0 B1 B2 n0 n1 n2 n3 s0 s1 s2 LS hS
  obtain ⟨⟨p0, p1, p2, p3, p4⟩, _⟩ := E0.f5
  have hR := hide hSd.range
  clear hSd
  go_upto_region 2 with fail
  go_wp2_with (refine wpList_load_mid rfl 186 (Operand.global 13) rfl 13 0 rfl stA.toList (.array 11 184) hR.out u86 rfl i86 ?_)
  clear hR
  go_loopw [12] (fun i wr => ∃ (k : Nat) (ys : List Int), k ≤ 11 ∧ i = .int .i64 k ∧ PwTo e ys (k + 2) ∧ Blk wr (w.heap.size + 1 + 1 + 1) .u64 ys ∧ Blk wr (w.heap.size + 1) .i64 [l0, l1, l2] ∧ Blk wr (w.heap.size + 1 + 1) .u64 [0, 0, 0, 0, 0] ∧ Below w.heap.size w wr) (fun i _ => 11 - (intOf i).toNat)
  case atStart => exact ⟨0, _, by omega, rfl, PwTo.zero he, B3, E1, E2, N⟩
  case round =>
    clear B3 E0 E1 E2 N s3 p0 p1 p2 p3 p4
    obtain ⟨k, ys, hk, rfl, hP, hB, hL, hR, hN⟩ := hrel
    have hsz := hB.lt
    by_cases hlt : k < 11
    · have k2 : (k : Int) < 11 := by omega
      obtain ⟨a, b, c, ha, hb, hc, hx, hI⟩ := st_tab k hlt
      obtain ⟨ta, ⟨La, Va⟩, Ya⟩ := hP.2 a (by omega)
      obtain ⟨tc, ⟨Lc, Vc⟩, Yc⟩ := hP.2 c (by omega)
      have T0 := blk_box3 wr .i64 184 (a : Int) (b : Int) (c : Int)
      have n0 : Below wr.heap.size wr (wr.alloc (.cells #[.int .i64 (a : Int), .int .i64 (b : Int), .int .i64 (c : Int)] 184)) := (Below.refl _ _).alloc (Nat.le_refl _) _
      have hB1 := hB.up n0
      have hL1 := hL.up n0
      have hR1 := hR.up n0
      have hN1 := nxt hN n0
      have zn : (wr.alloc (.cells #[.int .i64 (a : Int), .int .i64 (b : Int), .int .i64 (c : Int)] 184)).heap.size = wr.heap.size + 1 := by simp
      clear hB hL hR hN
      go_upto_region 5 with fail
      generalize wr.alloc (.cells #[.int .i64 (a : Int), .int .i64 (b : Int), .int .i64 (c : Int)] 184) = wn at *
      obtain ⟨G, hG⟩ : ∃ G, G = wr.heap.size := ⟨_, rfl⟩
      rw [← hG] at T0 zn hsz ⊢
      clear n0 hG wr
      have hyl := hP.1
      have a1 : (a : Int) < 13 := by omega
      have c1 : (c : Int) < 13 := by omega
      have kk : IntKind.i64.wrap ((2 : Int) + (k : Int)) = 2 + (k : Int) := by rw [IntKind.wrap_i64]; omega
      have k0 : (0 : Int) ≤ 2 + (k : Int) := by omega
      have kl : (2 : Int) + (k : Int) < 13 := by omega
      have kt : ((2 : Int) + (k : Int)).toNat = k + 2 := by omega
      have FB : Hid (∀ W, Below wn.heap.size wn W → Blk W G .i64 [(a : Int), (b : Int), (c : Int)] ∧ Blk W (w.heap.size + 1 + 1 + 1) .u64 ys) := fun W n => ⟨T0.up n, hB1.up n⟩
      have SQ : Hid (∀ W, Below wn.heap.size wn W → Calls Tryz.prog 118 #[.agg #[.int .u64 (ta 0), .int .u64 (ta 1), .int .u64 (ta 2), .int .u64 (ta 3), .int .u64 (ta 4)], .int .i64 (b : Int)] W fun r w' => ∃ t, r = .returned (ag5 t) ∧ (Lm t ∧ sv t 5 = sv ta 5 ^ 2 ^ b % PP) ∧ Below wn.heap.size wn w') := by
        intro W n
        refine (squareTimes_any W ta (Elm.of La Va) b (by omega)).mono ?_
        rintro r w' ⟨t, rfl, L, V, n'⟩
        exact ⟨t, rfl, ⟨L, V⟩, nxt n n'⟩
      have MU : Hid (∀ W t, Below wn.heap.size wn W → Lm t → Calls Tryz.prog 105 #[ag5 t, .agg #[.int .u64 (tc 0), .int .u64 (tc 1), .int .u64 (tc 2), .int .u64 (tc 3), .int .u64 (tc 4)]] W fun r w' => ∃ u, r = .returned (.agg #[.int .u64 (u 0), .int .u64 (u 1), .int .u64 (u 2), .int .u64 (u 3), .int .u64 (u 4)]) ∧ (Lm u ∧ sv u 5 = sv t 5 * sv tc 5 % PP) ∧ Below wn.heap.size wn w') := by
        intro W t n ht
        refine (mulE_any W t tc ht Lc).mono ?_
        rintro r w' ⟨u, rfl, L, V, n'⟩
        exact ⟨u, rfl, ⟨L, V⟩, nxt n n'⟩
      have SB : Hid (∀ W, Below wn.heap.size wn W → W.cell? ⟨G, 0, none⟩ = some (.int .i64 (a : Int)) ∧ W.cell? ⟨G, 1, none⟩ = some (.int .i64 (b : Int)) ∧ W.cell? ⟨G, 2, none⟩ = some (.int .i64 (c : Int)) ∧ W.cell? ⟨w.heap.size + 1 + 1 + 1, a * 5, none⟩ = some (.int .u64 (ta 0)) ∧ W.cell? ⟨w.heap.size + 1 + 1 + 1, a * 5 + 1, none⟩ = some (.int .u64 (ta 1)) ∧ W.cell? ⟨w.heap.size + 1 + 1 + 1, a * 5 + 2, none⟩ = some (.int .u64 (ta 2)) ∧ W.cell? ⟨w.heap.size + 1 + 1 + 1, a * 5 + 3, none⟩ = some (.int .u64 (ta 3)) ∧ W.cell? ⟨w.heap.size + 1 + 1 + 1, a * 5 + 4, none⟩ = some (.int .u64 (ta 4)) ∧ W.cell? ⟨w.heap.size + 1 + 1 + 1, c * 5, none⟩ = some (.int .u64 (tc 0)) ∧ W.cell? ⟨w.heap.size + 1 + 1 + 1, c * 5 + 1, none⟩ = some (.int .u64 (tc 1)) ∧ W.cell? ⟨w.heap.size + 1 + 1 + 1, c * 5 + 2, none⟩ = some (.int .u64 (tc 2)) ∧ W.cell? ⟨w.heap.size + 1 + 1 + 1, c * 5 + 3, none⟩ = some (.int .u64 (tc 3)) ∧ W.cell? ⟨w.heap.size + 1 + 1 + 1, c * 5 + 4, none⟩ = some (.int .u64 (tc 4))) := by
        intro W n
        obtain ⟨x0, x1, x2, x3, x4⟩ := (hB1.up n).at5o (by omega) Ya
        obtain ⟨y0, y1, y2, y3, y4⟩ := (hB1.up n).at5o (by omega) Yc
        exact ⟨(T0.up n).cell (i := 0) (by simp), (T0.up n).cell (i := 1) (by simp), (T0.up n).cell (i := 2) (by simp), x0, x1, x2, x3, x4, y0, y1, y2, y3, y4⟩
      have SC : Hid (∀ W (u : Nat → Int), Below wn.heap.size wn W → Blk (((((W.setCell ⟨w.heap.size + 1 + 1 + 1, (k + 2) * 5, none⟩ (.int .u64 (u 0))).setCell ⟨w.heap.size + 1 + 1 + 1, (k + 2) * 5 + 1, none⟩ (.int .u64 (u 1))).setCell ⟨w.heap.size + 1 + 1 + 1, (k + 2) * 5 + 2, none⟩ (.int .u64 (u 2))).setCell ⟨w.heap.size + 1 + 1 + 1, (k + 2) * 5 + 3, none⟩ (.int .u64 (u 3))).setCell ⟨w.heap.size + 1 + 1 + 1, (k + 2) * 5 + 4, none⟩ (.int .u64 (u 4))) (w.heap.size + 1 + 1 + 1) .u64 (sety ys ((k + 2) * 5) u) ∧ Below wn.heap.size wn W) := by
        intro W u n
        exact ⟨(((((hB1.up n).store _ _).store _ _).store _ _).store _ _).store _ _, n⟩
      have SS : Hid (∀ W (u : Nat → Int), Below wn.heap.size wn W → (fun W => W.cell? ⟨G, 0, none⟩ = some (.int .i64 (a : Int)) ∧ W.cell? ⟨G, 1, none⟩ = some (.int .i64 (b : Int)) ∧ W.cell? ⟨G, 2, none⟩ = some (.int .i64 (c : Int)) ∧ W.cell? ⟨w.heap.size + 1 + 1 + 1, a * 5, none⟩ = some (.int .u64 (ta 0)) ∧ W.cell? ⟨w.heap.size + 1 + 1 + 1, a * 5 + 1, none⟩ = some (.int .u64 (ta 1)) ∧ W.cell? ⟨w.heap.size + 1 + 1 + 1, a * 5 + 2, none⟩ = some (.int .u64 (ta 2)) ∧ W.cell? ⟨w.heap.size + 1 + 1 + 1, a * 5 + 3, none⟩ = some (.int .u64 (ta 3)) ∧ W.cell? ⟨w.heap.size + 1 + 1 + 1, a * 5 + 4, none⟩ = some (.int .u64 (ta 4)) ∧ W.cell? ⟨w.heap.size + 1 + 1 + 1, c * 5, none⟩ = some (.int .u64 (tc 0)) ∧ W.cell? ⟨w.heap.size + 1 + 1 + 1, c * 5 + 1, none⟩ = some (.int .u64 (tc 1)) ∧ W.cell? ⟨w.heap.size + 1 + 1 + 1, c * 5 + 2, none⟩ = some (.int .u64 (tc 2)) ∧ W.cell? ⟨w.heap.size + 1 + 1 + 1, c * 5 + 3, none⟩ = some (.int .u64 (tc 3)) ∧ W.cell? ⟨w.heap.size + 1 + 1 + 1, c * 5 + 4, none⟩ = some (.int .u64 (tc 4))) (((((W.setCell ⟨w.heap.size + 1 + 1 + 1, (k + 2) * 5, none⟩ (.int .u64 (u 0))).setCell ⟨w.heap.size + 1 + 1 + 1, (k + 2) * 5 + 1, none⟩ (.int .u64 (u 1))).setCell ⟨w.heap.size + 1 + 1 + 1, (k + 2) * 5 + 2, none⟩ (.int .u64 (u 2))).setCell ⟨w.heap.size + 1 + 1 + 1, (k + 2) * 5 + 3, none⟩ (.int .u64 (u 3))).setCell ⟨w.heap.size + 1 + 1 + 1, (k + 2) * 5 + 4, none⟩ (.int .u64 (u 4)))) := by
        intro W u n
        obtain ⟨B, _⟩ := (unhide SC) W u n
        have hl : (sety ys ((k + 2) * 5) u).length = 65 := by simp [sety, hyl]
        obtain ⟨x0, x1, x2, x3, x4⟩ := B.at5o (a := a) (t := ta) (by omega) (fun i hi => by rw [sety_other _ _ _ _ (by omega)]; exact Ya i hi)
        obtain ⟨y0, y1, y2, y3, y4⟩ := B.at5o (a := c) (t := tc) (by omega) (fun i hi => by rw [sety_other _ _ _ _ (by omega)]; exact Yc i hi)
        have T1 := T0.up n
        have hne : G ≠ w.heap.size + 1 + 1 + 1 := by omega
        have T2 := ((((T1.keep (k := (k + 2) * 5) (v := .int .u64 (u 0)) hne).keep (k := (k + 2) * 5 + 1) (v := .int .u64 (u 1)) hne).keep (k := (k + 2) * 5 + 2) (v := .int .u64 (u 2)) hne).keep (k := (k + 2) * 5 + 3) (v := .int .u64 (u 3)) hne).keep (k := (k + 2) * 5 + 4) (v := .int .u64 (u 4)) hne
        exact ⟨T2.cell (i := 0) (by simp), T2.cell (i := 1) (by simp), T2.cell (i := 2) (by simp), x0, x1, x2, x3, x4, y0, y1, y2, y3, y4⟩
      have PWn : Hid (∀ (q : Int) (u : Nat → Int), q = sv ta 5 ^ 2 ^ b % PP → Lm u ∧ sv u 5 = q * sv tc 5 % PP → PwTo e (sety ys ((k + 2) * 5) u) (k + 1 + 2)) := fun q u h1 h2 => hP.set ha hb hc hx Va Vc h1 h2 hlt
      have nd : Below wn.heap.size wn wn.drew := (Below.refl _ _).drew
      have HYL := hide hyl
      clear Ya Yc hI hyl hx Va Vc
      go_region_held3 (fun W => W.cell? ⟨G, 0, none⟩ = some (.int .i64 (a : Int)) ∧ W.cell? ⟨G, 1, none⟩ = some (.int .i64 (b : Int)) ∧ W.cell? ⟨G, 2, none⟩ = some (.int .i64 (c : Int)) ∧ W.cell? ⟨w.heap.size + 1 + 1 + 1, a * 5, none⟩ = some (.int .u64 (ta 0)) ∧ W.cell? ⟨w.heap.size + 1 + 1 + 1, a * 5 + 1, none⟩ = some (.int .u64 (ta 1)) ∧ W.cell? ⟨w.heap.size + 1 + 1 + 1, a * 5 + 2, none⟩ = some (.int .u64 (ta 2)) ∧ W.cell? ⟨w.heap.size + 1 + 1 + 1, a * 5 + 3, none⟩ = some (.int .u64 (ta 3)) ∧ W.cell? ⟨w.heap.size + 1 + 1 + 1, a * 5 + 4, none⟩ = some (.int .u64 (ta 4)) ∧ W.cell? ⟨w.heap.size + 1 + 1 + 1, c * 5, none⟩ = some (.int .u64 (tc 0)) ∧ W.cell? ⟨w.heap.size + 1 + 1 + 1, c * 5 + 1, none⟩ = some (.int .u64 (tc 1)) ∧ W.cell? ⟨w.heap.size + 1 + 1 + 1, c * 5 + 2, none⟩ = some (.int .u64 (tc 2)) ∧ W.cell? ⟨w.heap.size + 1 + 1 + 1, c * 5 + 3, none⟩ = some (.int .u64 (tc 3)) ∧ W.cell? ⟨w.heap.size + 1 + 1 + 1, c * 5 + 4, none⟩ = some (.int .u64 (tc 4))) (first | exact (unhide SB) _ nd | exact (unhide SB) _ ns | exact (unhide SB) _ nm | exact (unhide SS) _ _ nm)
        (first
          | (go_at_call 118; refine ((unhide SQ) _ nd).mono ?_; rintro r ws ⟨t, rfl, LT, ns⟩)
          | (go_at_call 105; refine ((unhide MU) _ _ ns LT.1).mono ?_; rintro r wm ⟨u, rfl, LU, nm⟩; obtain ⟨Tm, Bm⟩ := (unhide FB) wm nm; obtain ⟨⟨_, _, _, _, _⟩, ⟨_, _, _, _, _⟩⟩ := Bm.mid5 ((k + 2) * 5) (by have := HYL.out; omega)))
      all_goals
        have F1 := ((unhide SC) wm u nm).1
        have F2 : Blk (((((wm.setCell ⟨w.heap.size + 1 + 1 + 1, (k + 2) * 5, none⟩ (.int .u64 (u 0))).setCell ⟨w.heap.size + 1 + 1 + 1, (k + 2) * 5 + 1, none⟩ (.int .u64 (u 1))).setCell ⟨w.heap.size + 1 + 1 + 1, (k + 2) * 5 + 2, none⟩ (.int .u64 (u 2))).setCell ⟨w.heap.size + 1 + 1 + 1, (k + 2) * 5 + 3, none⟩ (.int .u64 (u 3))).setCell ⟨w.heap.size + 1 + 1 + 1, (k + 2) * 5 + 4, none⟩ (.int .u64 (u 4))) (w.heap.size + 1) .i64 [l0, l1, l2] := (((((hL1.up nm).keep (by omega)).keep (by omega)).keep (by omega)).keep (by omega)).keep (by omega)
        have F3 : Blk (((((wm.setCell ⟨w.heap.size + 1 + 1 + 1, (k + 2) * 5, none⟩ (.int .u64 (u 0))).setCell ⟨w.heap.size + 1 + 1 + 1, (k + 2) * 5 + 1, none⟩ (.int .u64 (u 1))).setCell ⟨w.heap.size + 1 + 1 + 1, (k + 2) * 5 + 2, none⟩ (.int .u64 (u 2))).setCell ⟨w.heap.size + 1 + 1 + 1, (k + 2) * 5 + 3, none⟩ (.int .u64 (u 3))).setCell ⟨w.heap.size + 1 + 1 + 1, (k + 2) * 5 + 4, none⟩ (.int .u64 (u 4))) (w.heap.size + 1 + 1) .u64 [0, 0, 0, 0, 0] := (((((hR1.up nm).keep (by omega)).keep (by omega)).keep (by omega)).keep (by omega)).keep (by omega)
        have hsz' : w.heap.size ≤ w.heap.size + 1 + 1 + 1 := by omega
        have F4 : Below w.heap.size w (((((wm.setCell ⟨w.heap.size + 1 + 1 + 1, (k + 2) * 5, none⟩ (.int .u64 (u 0))).setCell ⟨w.heap.size + 1 + 1 + 1, (k + 2) * 5 + 1, none⟩ (.int .u64 (u 1))).setCell ⟨w.heap.size + 1 + 1 + 1, (k + 2) * 5 + 2, none⟩ (.int .u64 (u 2))).setCell ⟨w.heap.size + 1 + 1 + 1, (k + 2) * 5 + 3, none⟩ (.int .u64 (u 3))).setCell ⟨w.heap.size + 1 + 1 + 1, (k + 2) * 5 + 4, none⟩ (.int .u64 (u 4))) := (((((nxt hN1 nm).setCell hsz' _).setCell hsz' _).setCell hsz' _).setCell hsz' _).setCell hsz' _
        have F5 := hide ((unhide PWn) _ _ LT.2 LU)
        generalize ((((wm.setCell ⟨w.heap.size + 1 + 1 + 1, (k + 2) * 5, none⟩ (.int .u64 (u 0))).setCell ⟨w.heap.size + 1 + 1 + 1, (k + 2) * 5 + 1, none⟩ (.int .u64 (u 1))).setCell ⟨w.heap.size + 1 + 1 + 1, (k + 2) * 5 + 2, none⟩ (.int .u64 (u 2))).setCell ⟨w.heap.size + 1 + 1 + 1, (k + 2) * 5 + 3, none⟩ (.int .u64 (u 3))).setCell ⟨w.heap.size + 1 + 1 + 1, (k + 2) * 5 + 4, none⟩ (.int .u64 (u 4)) = wz at *
        clear SB SC SS SQ MU FB PWn hB1 hL1 hR1 hN1 T0 LT LU Tm Bm nm ns nd kk k0 kl kt a1 c1 La Lc hP
        go_wp2
        go_roundw
        case rel => exact ⟨k + 1, _, by omega, by go_num, F5.out, F1, F2, F3, F4⟩
        case measure => simp [intOf]; omega
    · obtain rfl : k = 11 := by omega
      rw [H0.out, H1.out, H2.out] at hL
      have ha := HA.out
      have hb := HB.out
      have hc := HC.out
      obtain ⟨ta, ⟨La, Va⟩, Ya⟩ := hP.2 a ha
      obtain ⟨tc, ⟨Lc, Vc⟩, Yc⟩ := hP.2 c hc
      have hyl := hP.1
      have a1 : (a : Int) < 13 := by omega
      have c1 : (c : Int) < 13 := by omega
      have SQ : Hid (∀ W, Below wr.heap.size wr W → Calls Tryz.prog 118 #[.agg #[.int .u64 (ta 0), .int .u64 (ta 1), .int .u64 (ta 2), .int .u64 (ta 3), .int .u64 (ta 4)], .int .i64 (b : Int)] W fun r w' => ∃ t, r = .returned (ag5 t) ∧ (Lm t ∧ sv t 5 = sv ta 5 ^ 2 ^ b % PP) ∧ Below wr.heap.size wr w') := by
        intro W n
        refine (squareTimes_any W ta (Elm.of La Va) b (by omega)).mono ?_
        rintro r w' ⟨t, rfl, L, V, n'⟩
        exact ⟨t, rfl, ⟨L, V⟩, nxt n n'⟩
      have MU : Hid (∀ W t, Below wr.heap.size wr W → Lm t → Calls Tryz.prog 105 #[ag5 t, .agg #[.int .u64 (tc 0), .int .u64 (tc 1), .int .u64 (tc 2), .int .u64 (tc 3), .int .u64 (tc 4)]] W fun r w' => ∃ u, r = .returned (.agg #[.int .u64 (u 0), .int .u64 (u 1), .int .u64 (u 2), .int .u64 (u 3), .int .u64 (u 4)]) ∧ (Lm u ∧ sv u 5 = sv t 5 * sv tc 5 % PP) ∧ Below wr.heap.size wr w') := by
        intro W t n ht
        refine (mulE_any W t tc ht Lc).mono ?_
        rintro r w' ⟨u, rfl, L, V, n'⟩
        exact ⟨u, rfl, ⟨L, V⟩, nxt n n'⟩
      have SB : Hid (∀ W, Below wr.heap.size wr W → W.cell? ⟨w.heap.size + 1, 0, none⟩ = some (.int .i64 (a : Int)) ∧ W.cell? ⟨w.heap.size + 1, 1, none⟩ = some (.int .i64 (b : Int)) ∧ W.cell? ⟨w.heap.size + 1, 2, none⟩ = some (.int .i64 (c : Int)) ∧ W.cell? ⟨w.heap.size + 1 + 1 + 1, a * 5, none⟩ = some (.int .u64 (ta 0)) ∧ W.cell? ⟨w.heap.size + 1 + 1 + 1, a * 5 + 1, none⟩ = some (.int .u64 (ta 1)) ∧ W.cell? ⟨w.heap.size + 1 + 1 + 1, a * 5 + 2, none⟩ = some (.int .u64 (ta 2)) ∧ W.cell? ⟨w.heap.size + 1 + 1 + 1, a * 5 + 3, none⟩ = some (.int .u64 (ta 3)) ∧ W.cell? ⟨w.heap.size + 1 + 1 + 1, a * 5 + 4, none⟩ = some (.int .u64 (ta 4)) ∧ W.cell? ⟨w.heap.size + 1 + 1 + 1, c * 5, none⟩ = some (.int .u64 (tc 0)) ∧ W.cell? ⟨w.heap.size + 1 + 1 + 1, c * 5 + 1, none⟩ = some (.int .u64 (tc 1)) ∧ W.cell? ⟨w.heap.size + 1 + 1 + 1, c * 5 + 2, none⟩ = some (.int .u64 (tc 2)) ∧ W.cell? ⟨w.heap.size + 1 + 1 + 1, c * 5 + 3, none⟩ = some (.int .u64 (tc 3)) ∧ W.cell? ⟨w.heap.size + 1 + 1 + 1, c * 5 + 4, none⟩ = some (.int .u64 (tc 4))) := by
        intro W n
        obtain ⟨x0, x1, x2, x3, x4⟩ := (hB.up n).at5o (by omega) Ya
        obtain ⟨y0, y1, y2, y3, y4⟩ := (hB.up n).at5o (by omega) Yc
        exact ⟨(hL.up n).cell (i := 0) (by simp), (hL.up n).cell (i := 1) (by simp), (hL.up n).cell (i := 2) (by simp), x0, x1, x2, x3, x4, y0, y1, y2, y3, y4⟩
      have SS : Hid (∀ W (u : Nat → Int), Below wr.heap.size wr W → (fun W => W.cell? ⟨w.heap.size + 1, 0, none⟩ = some (.int .i64 (a : Int)) ∧ W.cell? ⟨w.heap.size + 1, 1, none⟩ = some (.int .i64 (b : Int)) ∧ W.cell? ⟨w.heap.size + 1, 2, none⟩ = some (.int .i64 (c : Int)) ∧ W.cell? ⟨w.heap.size + 1 + 1 + 1, a * 5, none⟩ = some (.int .u64 (ta 0)) ∧ W.cell? ⟨w.heap.size + 1 + 1 + 1, a * 5 + 1, none⟩ = some (.int .u64 (ta 1)) ∧ W.cell? ⟨w.heap.size + 1 + 1 + 1, a * 5 + 2, none⟩ = some (.int .u64 (ta 2)) ∧ W.cell? ⟨w.heap.size + 1 + 1 + 1, a * 5 + 3, none⟩ = some (.int .u64 (ta 3)) ∧ W.cell? ⟨w.heap.size + 1 + 1 + 1, a * 5 + 4, none⟩ = some (.int .u64 (ta 4)) ∧ W.cell? ⟨w.heap.size + 1 + 1 + 1, c * 5, none⟩ = some (.int .u64 (tc 0)) ∧ W.cell? ⟨w.heap.size + 1 + 1 + 1, c * 5 + 1, none⟩ = some (.int .u64 (tc 1)) ∧ W.cell? ⟨w.heap.size + 1 + 1 + 1, c * 5 + 2, none⟩ = some (.int .u64 (tc 2)) ∧ W.cell? ⟨w.heap.size + 1 + 1 + 1, c * 5 + 3, none⟩ = some (.int .u64 (tc 3)) ∧ W.cell? ⟨w.heap.size + 1 + 1 + 1, c * 5 + 4, none⟩ = some (.int .u64 (tc 4))) (((((W.setCell ⟨w.heap.size + 1 + 1, 0, none⟩ (.int .u64 (u 0))).setCell ⟨w.heap.size + 1 + 1, 1, none⟩ (.int .u64 (u 1))).setCell ⟨w.heap.size + 1 + 1, 2, none⟩ (.int .u64 (u 2))).setCell ⟨w.heap.size + 1 + 1, 3, none⟩ (.int .u64 (u 3))).setCell ⟨w.heap.size + 1 + 1, 4, none⟩ (.int .u64 (u 4)))) := by
        intro W u n
        have n1 : w.heap.size + 1 + 1 + 1 ≠ w.heap.size + 1 + 1 := by omega
        have n2 : w.heap.size + 1 ≠ w.heap.size + 1 + 1 := by omega
        have B := (((((hB.up n).keep (k := 0) (v := .int .u64 (u 0)) n1).keep (k := 1) (v := .int .u64 (u 1)) n1).keep (k := 2) (v := .int .u64 (u 2)) n1).keep (k := 3) (v := .int .u64 (u 3)) n1).keep (k := 4) (v := .int .u64 (u 4)) n1
        have T2 := (((((hL.up n).keep (k := 0) (v := .int .u64 (u 0)) n2).keep (k := 1) (v := .int .u64 (u 1)) n2).keep (k := 2) (v := .int .u64 (u 2)) n2).keep (k := 3) (v := .int .u64 (u 3)) n2).keep (k := 4) (v := .int .u64 (u 4)) n2
        obtain ⟨x0, x1, x2, x3, x4⟩ := B.at5o (by omega) Ya
        obtain ⟨y0, y1, y2, y3, y4⟩ := B.at5o (by omega) Yc
        exact ⟨T2.cell (i := 0) (by simp), T2.cell (i := 1) (by simp), T2.cell (i := 2) (by simp), x0, x1, x2, x3, x4, y0, y1, y2, y3, y4⟩
      have RB : Hid (∀ W, Below wr.heap.size wr W → Blk W (w.heap.size + 1 + 1) .u64 [0, 0, 0, 0, 0]) := fun W n => hR.up n
      have PW : Hid (∀ (q : Int) (u : Nat → Int), q = sv ta 5 ^ 2 ^ b % PP → sv u 5 = q * sv tc 5 % PP → sv u 5 = sv e 5 ^ (exL.getD a 0 * 2 ^ b + exL.getD c 0) % PP) := fun q u h1 h2 => by rw [h2, pow_step h1 Va Vc]
      have nd : Below wr.heap.size wr wr.drew := (Below.refl _ _).drew
      clear Ya Yc Va Vc hP hyl ha hb hc
      go_upto_region 7 with fail
      go_region_held3 (fun W => W.cell? ⟨w.heap.size + 1, 0, none⟩ = some (.int .i64 (a : Int)) ∧ W.cell? ⟨w.heap.size + 1, 1, none⟩ = some (.int .i64 (b : Int)) ∧ W.cell? ⟨w.heap.size + 1, 2, none⟩ = some (.int .i64 (c : Int)) ∧ W.cell? ⟨w.heap.size + 1 + 1 + 1, a * 5, none⟩ = some (.int .u64 (ta 0)) ∧ W.cell? ⟨w.heap.size + 1 + 1 + 1, a * 5 + 1, none⟩ = some (.int .u64 (ta 1)) ∧ W.cell? ⟨w.heap.size + 1 + 1 + 1, a * 5 + 2, none⟩ = some (.int .u64 (ta 2)) ∧ W.cell? ⟨w.heap.size + 1 + 1 + 1, a * 5 + 3, none⟩ = some (.int .u64 (ta 3)) ∧ W.cell? ⟨w.heap.size + 1 + 1 + 1, a * 5 + 4, none⟩ = some (.int .u64 (ta 4)) ∧ W.cell? ⟨w.heap.size + 1 + 1 + 1, c * 5, none⟩ = some (.int .u64 (tc 0)) ∧ W.cell? ⟨w.heap.size + 1 + 1 + 1, c * 5 + 1, none⟩ = some (.int .u64 (tc 1)) ∧ W.cell? ⟨w.heap.size + 1 + 1 + 1, c * 5 + 2, none⟩ = some (.int .u64 (tc 2)) ∧ W.cell? ⟨w.heap.size + 1 + 1 + 1, c * 5 + 3, none⟩ = some (.int .u64 (tc 3)) ∧ W.cell? ⟨w.heap.size + 1 + 1 + 1, c * 5 + 4, none⟩ = some (.int .u64 (tc 4))) (first | exact (unhide SB) _ nd | exact (unhide SB) _ ns | exact (unhide SB) _ nm | exact (unhide SS) _ _ nm)
        (first
          | (go_at_call 118; refine ((unhide SQ) _ nd).mono ?_; rintro r ws ⟨t, rfl, LT, ns⟩)
          | (go_at_call 105; refine ((unhide MU) _ _ ns LT.1).mono ?_; rintro r wm ⟨u, rfl, LU, nm⟩; (have Rm := (unhide RB) wm nm); obtain ⟨⟨p0, p1, p2, p3, p4⟩, ⟨_, _, _, _, _⟩⟩ := Rm.f5))
      all_goals
        have N2 := nxt hN nm
        have F5 := hide ((unhide PW) _ _ LT.2 LU.2)
        go_wp2
        exact bodyPost_ret (v := ag5 u) (by simp [ag5, results, Tryz.results117, go_sem, p0, p1, p2, p3, p4]) rfl ⟨u, rfl, LU.1, F5.out, below_set5 N2 (by omega) _ _ _ _ _⟩
end Go.Proofs.YtkglcainhkbgbaaGreatDoor
namespace Go.Proofs.YtkglcainhkbgbaaGreatDoor
set_option maxRecDepth 100000
open Go.RowKit
def Has3 (w : World) (g : Nat) (a b c : Int) : Prop := w.cell? ⟨g, 0, none⟩ = some (.int .i64 a) ∧ w.cell? ⟨g, 1, none⟩ = some (.int .i64 b) ∧ w.cell? ⟨g, 2, none⟩ = some (.int .i64 c)
theorem Has3.lt {w : World} {g : Nat} {a b c : Int} (h : Has3 w g a b c) : g < w.heap.size := block_lt_of_cell h.1
theorem Has3.up {w w' : World} {g : Nat} {a b c : Int} (h : Has3 w g a b c) (n : Below w.heap.size w w') : Has3 w' g a b c :=
  ⟨(World.cell?_of_block (a := ⟨g, 0, none⟩) (n.block g h.lt)).trans h.1, (World.cell?_of_block (a := ⟨g, 1, none⟩) (n.block g h.lt)).trans h.2.1, (World.cell?_of_block (a := ⟨g, 2, none⟩) (n.block g h.lt)).trans h.2.2⟩
def eInv : Nat := 57896044618658097711785492504343953926634992332820282019728792003956564819947
theorem eInv_ok : exL.getD 12 0 * 2 ^ 5 + exL.getD 4 0 = eInv := by decide +kernel
theorem eInv_P : eInv + 1 = P25519 - 1 := by decide +kernel
set_option maxHeartbeats 4000000 in
theorem invert_any (w : World) (e : Nat → Int) (he : Elm e) (hS : HasSt w 13) (hI : Has3 w 10 12 5 4) :
    Calls Tryz.prog 107 #[ag5 e] w fun r w' => ∃ t, r = .returned (ag5 t) ∧ Lm t ∧ sv t 5 = sv e 5 ^ eInv % PP ∧ Below w.heap.size w w' := by
  have B0 := blk_box w .u64 80 (e 0) (e 1) (e 2) (e 3) (e 4)
  have n0 : Below w.heap.size w (w.alloc (.cells #[.int .u64 (e 0), .int .u64 (e 1), .int .u64 (e 2), .int .u64 (e 3), .int .u64 (e 4)] 80)) := (Below.refl _ _).alloc (Nat.le_refl _) _
  have s0 : (w.alloc (.cells #[.int .u64 (e 0), .int .u64 (e 1), .int .u64 (e 2), .int .u64 (e 3), .int .u64 (e 4)] 80)).heap.size = w.heap.size + 1 := by simp
  have M : ∀ w, HasSt w 13 → Calls Tryz.prog 117 #[.agg #[.int .u64 (e 0), .int .u64 (e 1), .int .u64 (e 2), .int .u64 (e 3), .int .u64 (e 4)], .agg #[.int .i64 12, .int .i64 5, .int .i64 4]] w fun r w' => ∃ t, r = .returned (.agg #[.int .u64 (t 0), .int .u64 (t 1), .int .u64 (t 2), .int .u64 (t 3), .int .u64 (t 4)]) ∧ Lm t ∧ sv t 5 = sv e 5 ^ (exL.getD 12 0 * 2 ^ 5 + exL.getD 4 0) % PP ∧ Below w.heap.size w w' := fun w h => chain_any w e he 12 5 4 (by omega) (by omega) (by omega) h
  simp only [ag5]
  go_enter Tryz.func107, Tryz.ntmps107
  go_upto_region 1 with fail
  generalize w.alloc (.cells #[.int .u64 (e 0), .int .u64 (e 1), .int .u64 (e 2), .int .u64 (e 3), .int .u64 (e 4)] 80) = wa at *
  have B1 := blk_box wa .u64 80 0 0 0 0 0
  have n1 : Below wa.heap.size wa (wa.alloc (.cells #[.int .u64 0, .int .u64 0, .int .u64 0, .int .u64 0, .int .u64 0] 80)) := (Below.refl _ _).alloc (Nat.le_refl _) _
  rw [s0] at B1
  generalize wa.alloc (.cells #[.int .u64 0, .int .u64 0, .int .u64 0, .int .u64 0, .int .u64 0] 80) = wb at *
  have N1 := nxt n0 n1
  obtain ⟨⟨q0, q1, q2, q3, q4⟩, _⟩ := (B0.up n1).f5
  obtain ⟨i0, i1, i2⟩ := hI.up N1
  go_wp2_with fail
  refine (M wb (hS.up N1)).mono ?_
  rintro r w1 ⟨t, rfl, L, V, n2⟩
  obtain ⟨⟨p0, p1, p2, p3, p4⟩, ⟨g0, g1, g2, g3, g4⟩⟩ := (B1.up n2).f5
  have N2 := nxt N1 n2
  rw [eInv_ok] at V
  have V' := hide V
  clear M B0 B1 n0 n1 n2 N1 V s0 hS hI i0 i1 i2 q0 q1 q2 q3 q4
  go_wp2
  exact bodyPost_ret (v := ag5 t) (by simp [ag5, results, Tryz.results107, go_sem, p0, p1, p2, p3, p4]) rfl ⟨t, rfl, L, V'.out, below_set5 N2 (by omega) _ _ _ _ _⟩
end Go.Proofs.YtkglcainhkbgbaaGreatDoor
namespace Go.Proofs.YtkglcainhkbgbaaGreatDoor
set_option maxRecDepth 100000
open Go.RowKit
def twP (j : Nat) : Int := if j = 0 then 4503599627370458 else 4503599627370494
def subU (e f : Nat → Int) (j : Nat) : Int := if j < 5 then e j + twP j - f j else 0
theorem sub_ok {e f : Nat → Int} (he : Lm e) (hf : Lm f) : (∀ j, 0 ≤ subU e f j ∧ subU e f j < 9223372036854775808) ∧ sv (stl (subU e f)) 5 = (sv e 5 - sv f 5) % PP ∧ Lm (stl (subU e f)) := by
  have b : ∀ j, 0 ≤ subU e f j ∧ subU e f j < 9223372036854775808 := fun j => by
    unfold subU twP
    split
    · have := he j (by omega); have := hf j (by omega)
      split <;> omega
    · omega
  obtain ⟨h1, h2⟩ := stl_ok b
  refine ⟨b, ?_, h1⟩
  rw [h2]
  have e1 : sv (subU e f) 5 = sv e 5 - sv f 5 + 57896044618658097711785492504343953926634992332820282019728792003956564819949 * 2 := by
    simp [sv, subU, twP]
    omega
  rw [e1]
  exact Int.add_mul_emod_self_left _ _ _
def HasTw (w : World) (g : Nat) : Prop := ∀ k, k < 5 → w.cell? ⟨g, k, none⟩ = some (.int .u64 (twP k))
theorem HasTw.of_block {w w' : World} {g : Nat} (h : HasTw w g) (hb : w'.heap[g]? = w.heap[g]?) : HasTw w' g := fun k hk => (World.cell?_of_block (a := ⟨g, k, none⟩) hb).trans (h k hk)
theorem HasTw.lt {w : World} {g : Nat} (h : HasTw w g) : g < w.heap.size := block_lt_of_cell (h 0 (by omega))
theorem HasTw.up {w w' : World} {g : Nat} (h : HasTw w g) (n : Below w.heap.size w w') : HasTw w' g := h.of_block (n.block g h.lt)
set_option maxHeartbeats 4000000 in
theorem sub_any (w : World) (e f : Nat → Int) (he : Lm e) (hf : Lm f) (hT : HasTw w 9) :
    Calls Tryz.prog 102 #[ag5 e, ag5 f] w fun r w' => r = .returned (ag5 (stl (subU e f))) ∧ Below w.heap.size w w' := by
  have tl := hT.lt
  have B0 := blk_box w .u64 80 (e 0) (e 1) (e 2) (e 3) (e 4)
  have n0 : Below w.heap.size w (w.alloc (.cells #[.int .u64 (e 0), .int .u64 (e 1), .int .u64 (e 2), .int .u64 (e 3), .int .u64 (e 4)] 80)) := (Below.refl _ _).alloc (Nat.le_refl _) _
  have s0 : (w.alloc (.cells #[.int .u64 (e 0), .int .u64 (e 1), .int .u64 (e 2), .int .u64 (e 3), .int .u64 (e 4)] 80)).heap.size = w.heap.size + 1 := by simp
  simp only [ag5]
  go_enter Tryz.func102, Tryz.ntmps102
  go_wp2
  generalize w.alloc (.cells #[.int .u64 (e 0), .int .u64 (e 1), .int .u64 (e 2), .int .u64 (e 3), .int .u64 (e 4)] 80) = wa at *
  have B1 := blk_box wa .u64 80 (f 0) (f 1) (f 2) (f 3) (f 4)
  have n1 : Below wa.heap.size wa (wa.alloc (.cells #[.int .u64 (f 0), .int .u64 (f 1), .int .u64 (f 2), .int .u64 (f 3), .int .u64 (f 4)] 80)) := (Below.refl _ _).alloc (Nat.le_refl _) _
  have s1 : (wa.alloc (.cells #[.int .u64 (f 0), .int .u64 (f 1), .int .u64 (f 2), .int .u64 (f 3), .int .u64 (f 4)] 80)).heap.size = w.heap.size + 1 + 1 := by simp [s0]
  generalize wa.alloc (.cells #[.int .u64 (f 0), .int .u64 (f 1), .int .u64 (f 2), .int .u64 (f 3), .int .u64 (f 4)] 80) = wb at *
  have B2 := blk_box wb .u64 80 0 0 0 0 0
  have n2 : Below wb.heap.size wb (wb.alloc (.cells #[.int .u64 0, .int .u64 0, .int .u64 0, .int .u64 0, .int .u64 0] 80)) := (Below.refl _ _).alloc (Nat.le_refl _) _
  have s2 : (wb.alloc (.cells #[.int .u64 0, .int .u64 0, .int .u64 0, .int .u64 0, .int .u64 0] 80)).heap.size = w.heap.size + 1 + 1 + 1 := by simp [s1]
  generalize wb.alloc (.cells #[.int .u64 0, .int .u64 0, .int .u64 0, .int .u64 0, .int .u64 0] 80) = wc at *
  have B3 := blk_box wc .u64 179 0 0 0 0 0
  have n3 : Below wc.heap.size wc (wc.alloc (.cells #[.int .u64 0, .int .u64 0, .int .u64 0, .int .u64 0, .int .u64 0] 179)) := (Below.refl _ _).alloc (Nat.le_refl _) _
  generalize wc.alloc (.cells #[.int .u64 0, .int .u64 0, .int .u64 0, .int .u64 0, .int .u64 0] 179) = wd at *
  have E0 := ((B0.up n1).up n2).up n3
  have E1 := (B1.up n2).up n3
  have E2 := B2.up n3
  have N := nxt (nxt (nxt n0 n1) n2) n3
  have T0 := hT.up N
  rw [s0] at E1
  rw [s1] at E2
  rw [s2] at B3
  clear B0 B1 B2 n0 n1 n2 n3 s0 s1 s2 hT
  go_loopw [7] (fun i wr => ∃ (k : Nat) (ys : List Int), k ≤ 5 ∧ i = .int .i64 k ∧ Upd (subU e f) (fun _ => 0) ys k ∧ Blk wr w.heap.size .u64 [e 0, e 1, e 2, e 3, e 4] ∧ Blk wr (w.heap.size + 1) .u64 [f 0, f 1, f 2, f 3, f 4] ∧ Blk wr (w.heap.size + 1 + 1) .u64 [0, 0, 0, 0, 0] ∧ Blk wr (w.heap.size + 1 + 1 + 1) .u64 ys ∧ HasTw wr 9 ∧ Below w.heap.size w wr) (fun i _ => 5 - (intOf i).toNat)
  case atStart => exact ⟨0, _, by omega, rfl, Upd.zero _ (fun _ => 0), E0, E1, E2, B3, T0, N⟩
  case round =>
    clear E0 E1 E2 B3 N T0
    obtain ⟨k, ys, hk, rfl, hU, hE, hF, hR, hB, hT, hN⟩ := hrel
    by_cases hlt : k < 5
    · have R := hU.step hlt
      have ce := hE.at5 hlt
      have cf := hF.at5 hlt
      have ct := hT k hlt
      have hcy := hB.cell (i := k) (by rw [hU.1]; exact hlt)
      have hfy := hB.free k
      have eb := he k hlt
      have fb := hf k hlt
      have tb : 4503599627370458 ≤ twP k ∧ twP k ≤ 4503599627370494 := by unfold twP; split <;> omega
      have k2 : (k : Int) < 5 := by omega
      have E : subU e f k = e k + twP k - f k := by unfold subU; rw [if_pos hlt]
      have S := hB.store k (e k + twP k - f k)
      have SE := hide (hE.keep (g' := w.heap.size + 1 + 1 + 1) (k := k) (v := .int .u64 (e k + twP k - f k)) (by omega))
      have SF := hide (hF.keep (g' := w.heap.size + 1 + 1 + 1) (k := k) (v := .int .u64 (e k + twP k - f k)) (by omega))
      have SR := hR.keep (g' := w.heap.size + 1 + 1 + 1) (k := k) (v := .int .u64 (e k + twP k - f k)) (by omega)
      have ST := hide (hT.of_block (w' := wr.setCell ⟨w.heap.size + 1 + 1 + 1, k, none⟩ (.int .u64 (e k + twP k - f k))) (heap_setCell_other wr ⟨w.heap.size + 1 + 1 + 1, k, none⟩ 9 _ (by show 9 ≠ w.heap.size + 1 + 1 + 1; omega)))
      have Sn : Below w.heap.size w (wr.setCell ⟨w.heap.size + 1 + 1 + 1, k, none⟩ (.int .u64 (e k + twP k - f k))) := hN.setCell (by show w.heap.size ≤ w.heap.size + 1 + 1 + 1; omega) _
      rw [E] at R
      have x1 : IntKind.u64.wrap (e k + twP k) = e k + twP k := by rw [IntKind.wrap_u64]; omega
      have x2 : IntKind.u64.wrap (e k + twP k - f k) = e k + twP k - f k := by rw [IntKind.wrap_u64]; omega
      clear hU hE hF hR hB hN he hf E hT
      generalize e k = x at *
      generalize f k = y at *
      generalize twP k = t at *
      go_wp2
      go_region
      go_wp2
      go_roundw
      case rel => exact ⟨k + 1, _, by omega, by go_num, R, SE.out.drew, SF.out.drew, SR.drew, S.drew, ST.out, Sn.drew⟩
      case measure => simp [intOf]; omega
    · obtain rfl : k = 5 := by omega
      have hy := hU.all
      subst hy
      have A := sub_ok he hf
      obtain ⟨⟨q0, q1, q2, q3, q4⟩, _⟩ := hB.f5
      go_wp2_with fail
      refine (settle_any wr (subU e f) A.1).mono ?_
      rintro r w1 ⟨rfl, n1⟩
      obtain ⟨⟨p0, p1, p2, p3, p4⟩, ⟨g0, g1, g2, g3, g4⟩⟩ := (hR.up n1).f5
      have N1 := nxt hN n1
      obtain ⟨t, ht⟩ : ∃ t, t = stl (subU e f) := ⟨_, rfl⟩
      have hT' : Hid (t = stl (subU e f)) := ht
      rw [← ht]
      clear hU hE hF hR hB hN A n1 q0 q1 q2 q3 q4 ht hT
      simp only [ag5]
      go_wp2
      exact bodyPost_ret (v := ag5 t) (by simp [ag5, results, Tryz.results102, go_sem, p0, p1, p2, p3, p4]) rfl ⟨by rw [hT'.out]; rfl, below_set5 N1 (by omega) _ _ _ _ _⟩
theorem subE_any (w : World) (e f : Nat → Int) (he : Lm e) (hf : Lm f) (hT : HasTw w 9) :
    Calls Tryz.prog 102 #[ag5 e, ag5 f] w fun r w' => ∃ t, r = .returned (ag5 t) ∧ Lm t ∧ sv t 5 = (sv e 5 - sv f 5) % PP ∧ Below w.heap.size w w' := by
  refine (sub_any w e f he hf hT).mono ?_
  rintro r w' ⟨rfl, n⟩
  obtain ⟨_, h2, h3⟩ := sub_ok he hf
  exact ⟨_, rfl, h3, h2, n⟩
end Go.Proofs.YtkglcainhkbgbaaGreatDoor
namespace Go.Proofs.YtkglcainhkbgbaaGreatDoor
set_option maxRecDepth 100000
open Go Go.RowKit
def cl5 (e : Nat → Int) : List Value := [.int .u64 (e 0), .int .u64 (e 1), .int .u64 (e 2), .int .u64 (e 3), .int .u64 (e 4)]
def cl10 (e f : Nat → Int) : List Value := [.int .u64 (e 0), .int .u64 (e 1), .int .u64 (e 2), .int .u64 (e 3), .int .u64 (e 4), .int .u64 (f 0), .int .u64 (f 1), .int .u64 (f 2), .int .u64 (f 3), .int .u64 (f 4)]
def ag10 (e f : Nat → Int) : Value := .agg (cl10 e f).toArray
def Is5 (e : Nat → Int) (A : Int) : Prop := Lm e ∧ sv e 5 = A % PP
def EM (A : Int) : Fact := ⟨fun v _ => ∃ e, v = ag5 e ∧ Is5 e A, fun _ h => h⟩
def E2 (A B : Int) : Fact := ⟨fun v _ => ∃ e f, v = ag10 e f ∧ Is5 e A ∧ Is5 f B, fun _ h => h⟩
def Em5 (W : World) (q o : Nat) (A : Int) : Prop := ∃ e, W.rangeAt q o (cl5 e) ∧ q < W.heap.size ∧ Is5 e A
def Rat (W : World) (q : Nat) (A B : Int) : Prop := ∃ e f, W.rangeAt q 0 (cl10 e f) ∧ W.there q 0 10 ∧ Is5 e A ∧ Is5 f B
theorem Em5.up {W W' : World} {q o : Nat} {A : Int} (h : Em5 W q o A) (n : Below W.heap.size W W') : Em5 W' q o A := by
  obtain ⟨t, r, l, h⟩ := h
  exact ⟨t, fun j v hv => (World.cell?_of_block (a := ⟨q, o + j, none⟩) (n.block q l)).trans (r j v hv), Nat.lt_of_lt_of_le l n.size, h⟩
theorem Em5.but {W W' : World} {g o q : Nat} {A : Int} (h : Em5 W g o A) (k : ButQ q W W') (hne : g ≠ q) : Em5 W' g o A := by
  obtain ⟨t, r, l, h⟩ := h
  exact ⟨t, fun j v hv => (World.cell?_of_block (a := ⟨g, o + j, none⟩) (k.1 g hne l)).trans (r j v hv), Nat.lt_of_lt_of_le l k.2, h⟩
theorem Em5.lt {W : World} {q o : Nat} {A : Int} (h : Em5 W q o A) : q < W.heap.size := by
  obtain ⟨_, _, l, _⟩ := h
  exact l
theorem Rat.lt {W : World} {q : Nat} {A B : Int} (h : Rat W q A B) : q < W.heap.size := by
  obtain ⟨_, _, _, t, _⟩ := h
  exact there_lt (by omega) t
theorem Rat.up {W W' : World} {q : Nat} {A B : Int} (h : Rat W q A B) (n : Below W.heap.size W W') : Rat W' q A B := by
  have l := h.lt
  obtain ⟨e, f, r, t, h⟩ := h
  exact ⟨e, f, fun j v hv => (World.cell?_of_block (a := ⟨q, 0 + j, none⟩) (n.block q l)).trans (r j v hv), there_up (by omega) t n, h⟩
theorem Rat.but {W W' : World} {g q : Nat} {A B : Int} (h : Rat W g A B) (k : ButQ q W W') (hne : g ≠ q) : Rat W' g A B := by
  have l := h.lt
  obtain ⟨e, f, r, t, h⟩ := h
  exact ⟨e, f, fun j v hv => (World.cell?_of_block (a := ⟨g, 0 + j, none⟩) (k.1 g hne l)).trans (r j v hv), there_but (by omega) t k hne, h⟩
theorem Rat.x {W : World} {q : Nat} {A B : Int} (h : Rat W q A B) : Em5 W q 0 A := by
  have l := h.lt
  obtain ⟨e, f, r, t, h⟩ := h
  refine ⟨e, fun j v hv => r j v ?_, l, h.1⟩
  have hj : j < 5 := (List.getElem?_eq_some_iff.1 hv).1
  obtain rfl | rfl | rfl | rfl | rfl : j = 0 ∨ j = 1 ∨ j = 2 ∨ j = 3 ∨ j = 4 := by omega
  all_goals exact hv
theorem Rat.y {W : World} {q : Nat} {A B : Int} (h : Rat W q A B) : Em5 W q 5 B := by
  have l := h.lt
  obtain ⟨e, f, r, t, h⟩ := h
  refine ⟨f, fun j v hv => ?_, l, h.2⟩
  have hj : j < 5 := (List.getElem?_eq_some_iff.1 hv).1
  have q := r (5 + j) v (by
    obtain rfl | rfl | rfl | rfl | rfl : j = 0 ∨ j = 1 ∨ j = 2 ∨ j = 3 ∨ j = 4 := by omega
    all_goals exact hv)
  simpa using q
theorem cl5_one (e : Nat → Int) : (cl5 e).toArray.all (·.oneCell') = true := by simp [cl5, Value.oneCell']
theorem u5 : Tryz.prog.underlying 80 = some (.array 5 39) := Tryz.underlying80
theorem i5 : (Tryz.prog.info? 80).map (·.size) = some 5 := by kernel_rfl
theorem i10 : (Tryz.prog.info? 171).map (·.size) = some 10 := by kernel_rfl
def sm5 (n : Int) (j : Nat) : Int := if j = 0 then n else 0
theorem sm5_ok {n : Int} (h0 : 0 ≤ n) (h1 : n < 1000000) : Is5 (sm5 n) n := by
  refine ⟨fun j _ => ?_, ?_⟩
  · unfold sm5
    split <;> omega
  · simp only [sv, sm5]
    rw [Int.emod_eq_of_lt h0 (Int.lt_trans h1 (by decide))]
    simp
theorem bu5 (n : Int) (w : World) : (Instr.build 80 #[(0, .int .u64 n)]).run Tryz.prog w = .ok (ag5 (sm5 n)) w := by kernel_rfl
theorem fx10 (q : Nat) (w : World) : (Instr.fieldAt 171 (.pointer (some ⟨q, 0, none⟩)) 0).run Tryz.prog w = .ok (.pointer (some ⟨q, 0, none⟩)) w := by kernel_rfl
theorem fy10 (q : Nat) (w : World) : (Instr.fieldAt 171 (.pointer (some ⟨q, 0, none⟩)) 1).run Tryz.prog w = .ok (.pointer (some ⟨q, 5, none⟩)) w := by kernel_rfl
section
variable {P : Program} {ops : Array Oper} {Q : Exit → Act → World → Prop} {md : Region.Mode} {F : Nat → Fact} {a0 : Act} {w0 : World} {i : Nat} {o : Oper} {ts : Array TypeId}
theorem step_mv (hi : ops[i]? = some o) (p : Nat) (hop : o.op = .move (.tmp p)) (hp : apart ops p = true) {v : Value} (h0 : a0.tmps.getD p undef = v) (hF : F i = Fact.eq v) : StepOk P md ops Q F a0 w0 i := by
  refine step_pure hi fun b w hb hw _ => ⟨v, ?_, by rw [hF]; exact rfl⟩
  have e := (based_at hb p hp).trans h0
  simp [execOp, hop, e]
theorem step_fldf (hi : ops[i]? = some o) (ty : TypeId) (p f j : Nat) (hop : o.op = .fieldAddr ty (.tmp p) f) (hj : waits md ops i j p = true) (q off : Nat) (hFj : F j = Fact.eq (.pointer (some ⟨q, 0, none⟩)))
    (hr : ∀ w, (Instr.fieldAt ty (.pointer (some ⟨q, 0, none⟩)) f).run P w = .ok (.pointer (some ⟨q, off, none⟩)) w) (hF : F i = Fact.eq (.pointer (some ⟨q, off, none⟩))) : StepOk P md ops Q F a0 w0 i := by
  refine step_pure hi fun a w hb _ hf => ⟨_, ?_, by rw [hF]; exact rfl⟩
  have e := hf j p hj
  rw [hFj] at e
  have e' : a.eval (.tmp p) = .pointer (some ⟨q, 0, none⟩) := e
  simp [execOp, hop, e', hr]
end
section
variable {ops : Array Oper} {Q : Exit → Act → World → Prop} {md : Region.Mode} {F : Nat → Fact} {a0 : Act} {w0 : World} {i : Nat} {o : Oper} {ts : Array TypeId}
theorem step_e5 (hi : ops[i]? = some o) (p : Nat) (hop : o.op = .load 80 (.tmp p)) (hp : apart ops p = true) (q off : Nat) (h0 : a0.tmps.getD p undef = .pointer (some ⟨q, off, none⟩)) (A : Int) (hE : Em5 w0 q off A) (hF : F i = EM A) : StepOk Tryz.prog md ops Q F a0 w0 i := by
  refine step_load hi _ _ hop _ 5 u5 rfl i5 fun a w hb hw _ => ?_
  obtain ⟨t, r, _, h⟩ := hE.up hw
  exact ⟨q, off, _, (based_at hb p hp).trans h0, r, rfl, by rw [hF]; exact ⟨t, rfl, h⟩⟩
theorem step_e5f (hi : ops[i]? = some o) (p j : Nat) (hop : o.op = .load 80 (.tmp p)) (hj : waits md ops i j p = true) (q off : Nat) (hFj : F j = Fact.eq (.pointer (some ⟨q, off, none⟩))) (A : Int) (hE : Em5 w0 q off A) (hF : F i = EM A) : StepOk Tryz.prog md ops Q F a0 w0 i := by
  refine step_load hi _ _ hop _ 5 u5 rfl i5 fun a w _ hw hf => ?_
  obtain ⟨t, r, _, h⟩ := hE.up hw
  have e := hf j p hj
  rw [hFj] at e
  exact ⟨q, off, _, e, r, rfl, by rw [hF]; exact ⟨t, rfl, h⟩⟩
theorem step_b5 (hi : ops[i]? = some o) (n : Int) (h0 : 0 ≤ n ∧ n < 1000000) (hop : o.op = .build 80 #[(0, .const (.int .u64 n))]) (hF : F i = EM n) : StepOk Tryz.prog md ops Q F a0 w0 i := by
  refine step_pure hi fun a w _ _ _ => ⟨ag5 (sm5 n), ?_, by rw [hF]; exact ⟨_, rfl, sm5_ok h0.1 h0.2⟩⟩
  simp only [execOp, hop]
  have g : (#[(0, Operand.const (.int .u64 n))].map fun (n, x) => (n, a.eval x)) = #[(0, .int .u64 n)] := by simp [Act.eval]
  rw [g, Sem.run_bind, bu5]
  rfl
theorem step_two5 (hi : ops[i]? = some o) (n : FuncId) (p q : Nat) (hop : o.op = .call { callee := .value (.func n), args := #[.tmp p, .tmp q], argTypes := ts }) (he : enters Tryz.prog n = true)
    (f : Int → Int → Int) (law : ∀ (w : World) (a b : Nat → Int), Below w0.heap.size w0 w → Lm a → Lm b → Calls Tryz.prog n #[ag5 a, ag5 b] w fun r w' => ∃ t, r = .returned (ag5 t) ∧ Lm t ∧ sv t 5 = f (sv a 5) (sv b 5) % PP ∧ Below w.heap.size w w')
    (hf : ∀ a b A B : Int, a % PP = A % PP → b % PP = B % PP → f a b % PP = f A B % PP)
    (j k : Nat) (A B : Int) (hj : waits md ops i j p = true) (hk : waits md ops i k q = true) (hFj : F j = EM A) (hFk : F k = EM B) (hFi : F i = EM (f A B)) : StepOk Tryz.prog md ops Q F a0 w0 i := by
  refine step_call hi n _ ts hop he fun a w _ hw hF => ?_
  have ea := hF j p hj
  have eb := hF k q hk
  rw [hFj] at ea
  rw [hFk] at eb
  obtain ⟨t, e1, L1, V1⟩ := ea
  obtain ⟨u, e2, L2, V2⟩ := eb
  show Calls Tryz.prog n #[a.tmps.getD p undef, a.tmps.getD q undef] w _
  rw [e1, e2]
  refine (law w t u hw L1 L2).mono ?_
  rintro r w' ⟨s, rfl, L, V, hn⟩
  rw [hFi]
  refine ⟨_, rfl, hn, s, rfl, L, ?_⟩
  rw [V]
  exact hf _ _ _ _ (by rw [V1, Int.emod_emod_of_dvd _ (Int.dvd_refl _)]) (by rw [V2, Int.emod_emod_of_dvd _ (Int.dvd_refl _)])
theorem step_one5 (hi : ops[i]? = some o) (n : FuncId) (p : Nat) (hop : o.op = .call { callee := .value (.func n), args := #[.tmp p], argTypes := ts }) (he : enters Tryz.prog n = true)
    (f : Int → Int) (law : ∀ (w : World) (a : Nat → Int), Below w0.heap.size w0 w → Elm a → Calls Tryz.prog n #[ag5 a] w fun r w' => ∃ t, r = .returned (ag5 t) ∧ Lm t ∧ sv t 5 = f (sv a 5) % PP ∧ Below w.heap.size w w')
    (hf : ∀ a A : Int, a % PP = A % PP → f a % PP = f A % PP)
    (j : Nat) (A : Int) (hj : waits md ops i j p = true) (hFj : F j = EM A) (hFi : F i = EM (f A)) : StepOk Tryz.prog md ops Q F a0 w0 i := by
  refine step_call hi n _ ts hop he fun a w _ hw hF => ?_
  have ea := hF j p hj
  rw [hFj] at ea
  obtain ⟨t, e1, L1, V1⟩ := ea
  show Calls Tryz.prog n #[a.tmps.getD p undef] w _
  rw [e1]
  refine (law w t hw (Elm.of L1 V1)).mono ?_
  rintro r w' ⟨s, rfl, L, V, hn⟩
  rw [hFi]
  refine ⟨_, rfl, hn, s, rfl, L, ?_⟩
  rw [V]
  exact hf _ _ (by rw [V1, Int.emod_emod_of_dvd _ (Int.dvd_refl _)])
theorem en5_add : enters Tryz.prog 103 = true := by kernel_rfl
theorem en5_sub : enters Tryz.prog 102 = true := by kernel_rfl
theorem en5_mul : enters Tryz.prog 105 = true := by kernel_rfl
theorem en5_sq : enters Tryz.prog 101 = true := by kernel_rfl
theorem en5_inv : enters Tryz.prog 107 = true := by kernel_rfl
theorem step_add5 (hi : ops[i]? = some o) (p q j k : Nat) (A B : Int) (hop : o.op = .call { callee := .value (.func 103), args := #[.tmp p, .tmp q], argTypes := ts })
    (hj : waits md ops i j p = true) (hk : waits md ops i k q = true) (hFj : F j = EM A) (hFk : F k = EM B) (hFi : F i = EM (A + B)) : StepOk Tryz.prog md ops Q F a0 w0 i :=
  step_two5 hi _ p q hop en5_add (fun a b => a + b) (fun w a b _ ha hb => (add_any w a b ha hb).mono (by
    rintro r w' ⟨rfl, n⟩
    obtain ⟨_, h2, h3⟩ := add_ok ha hb
    exact ⟨_, rfl, h3, h2, n⟩)) (fun _ _ _ _ h k => mod_add h k) j k A B hj hk hFj hFk hFi
theorem step_sub5 (hT : HasTw w0 9) (hi : ops[i]? = some o) (p q j k : Nat) (A B : Int) (hop : o.op = .call { callee := .value (.func 102), args := #[.tmp p, .tmp q], argTypes := ts })
    (hj : waits md ops i j p = true) (hk : waits md ops i k q = true) (hFj : F j = EM A) (hFk : F k = EM B) (hFi : F i = EM (A - B)) : StepOk Tryz.prog md ops Q F a0 w0 i :=
  step_two5 hi _ p q hop en5_sub (fun a b => a - b) (fun w a b hw ha hb => subE_any w a b ha hb (hT.up hw)) (fun _ _ _ _ h k => mod_sub h k) j k A B hj hk hFj hFk hFi
theorem step_mul5 (hi : ops[i]? = some o) (p q j k : Nat) (A B : Int) (hop : o.op = .call { callee := .value (.func 105), args := #[.tmp p, .tmp q], argTypes := ts })
    (hj : waits md ops i j p = true) (hk : waits md ops i k q = true) (hFj : F j = EM A) (hFk : F k = EM B) (hFi : F i = EM (A * B)) : StepOk Tryz.prog md ops Q F a0 w0 i :=
  step_two5 hi _ p q hop en5_mul (fun a b => a * b) (fun w a b _ ha hb => mulE_any w a b ha hb) (fun _ _ _ _ h k => mod_mul h k) j k A B hj hk hFj hFk hFi
theorem step_sq5 (hi : ops[i]? = some o) (p j : Nat) (A : Int) (hop : o.op = .call { callee := .value (.func 101), args := #[.tmp p], argTypes := ts })
    (hj : waits md ops i j p = true) (hFj : F j = EM A) (hFi : F i = EM (A * A)) : StepOk Tryz.prog md ops Q F a0 w0 i :=
  step_one5 hi _ p hop en5_sq (fun a => a * a) (fun w a _ ha => square_any w a ha.1) (fun _ _ h => mod_mul h h) j A hj hFj hFi
theorem step_inv5 (hS : HasSt w0 13) (hI : Has3 w0 10 12 5 4) (hi : ops[i]? = some o) (p j : Nat) (A : Int) (hop : o.op = .call { callee := .value (.func 107), args := #[.tmp p], argTypes := ts })
    (hj : waits md ops i j p = true) (hFj : F j = EM A) (hFi : F i = EM (A ^ eInv)) : StepOk Tryz.prog md ops Q F a0 w0 i :=
  step_one5 hi _ p hop en5_inv (fun a => a ^ eInv) (fun w a hw ha => invert_any w a ha (hS.up hw) (hI.up hw)) (fun _ _ h => pow_mod h _) j A hj hFj hFi
abbrev zObj5 : Obj := .cells #[.int .u64 0, .int .u64 0, .int .u64 0, .int .u64 0, .int .u64 0] 80
theorem fresh_grow (hi : ops[i]? = some o) (ob : Obj)
    (G : ∀ (a : Act) (w : World), Below w0.heap.size w0 w → (execOp a.eval o).run Tryz.prog w = .ok (.value (.pointer (some ⟨w.heap.size, 0, none⟩))) (w.alloc ob) ∧ (F i).p (.pointer (some ⟨w.heap.size, 0, none⟩)) (w.alloc ob)) : FreshOk Tryz.prog md ops Q F a0 w0 i := by
  intro o' ho' a w hb hw hf K hK
  obtain rfl := Option.some.inj (hi.symm.trans ho')
  obtain ⟨hr, hv⟩ := G a w hw
  unfold Oper.wp
  rw [hr]
  exact hK _ _ ((Below.refl _ _).alloc (Nat.le_refl _) _) hv rfl (by simp)
theorem fresh_new5 (hi : ops[i]? = some o) (hop : o.op = .alloc 80) (hF : F i = NB w0 5) : FreshOk Tryz.prog md ops Q F a0 w0 i := by
  refine fresh_grow hi zObj5 fun a w hw => ⟨?_, ?_⟩
  · simp only [execOp, hop]
    kernel_rfl
  · rw [hF]
    exact ⟨by omega, _, rfl, there_new w _ _, hw.size⟩
theorem step_new5 (hi : ops[i]? = some o) (hop : o.op = .alloc 80) (hF : F i = NB w0 5) : StepOk Tryz.prog md ops Q F a0 w0 i := (fresh_new5 hi hop hF).step
end
theorem set_em {W : World} {q : Nat} {t : Nat → Int} {A : Int} (th : W.there q 0 5) (h : Is5 t A) : Em5 (W.setCells q 0 (cl5 t)) q 0 A :=
  ⟨t, World.rangeAt_setCells_same W q 0 _ th, by rw [heap_size_setCells]; exact there_lt (by omega) th, h⟩
section
variable {ops : Array Oper} {Q : Exit → Act → World → Prop} {a0 : Act} {w : World} {id : Nat} {draw : Bool}
theorem region_new5 (k jA jV pA pV : Nat) (o : Oper) (F : Nat → Fact) (A : Int) (hT : textOk .any ops a0.tmps.size k = true) (hk : ops[k]? = some o) (hd : o.dst = none) (hop : o.op = .store 80 (.tmp pA) (.tmp pV))
    (wA : writes ops jA pA = true) (wV : writes ops jV pV = true) (FA : F jA = NB w 5) (FV : F jV = EM A) (steps : ∀ i, i < k → StepOk Tryz.prog .any ops Q F a0 w i)
    (fin : ∀ (vs : Nat → Value) (q : Nat) (W : World), vs pA = .pointer (some ⟨q, 0, none⟩) → w.heap.size ≤ q → Below w.heap.size w W → Em5 W q 0 A → Q .normal (puts vs a0 ops.toList) W) :
    (Code.region id ops draw).wp Tryz.prog Q a0 w := by
  refine region_store k o F (by kernel_rfl) hT hk hd steps fun a W hb hw hF => ?_
  have h1 := hF jA pA wA
  have h2 := hF jV pV wV
  rw [FA] at h1
  rw [FV] at h2
  obtain ⟨_, q, eq, th, hq⟩ := h1
  obtain ⟨t, ev, V⟩ := h2
  refine wp_store_mid 80 (.tmp pA) (.tmp pV) hop q 0 (cl5 t).toArray eq ev th i5 (cl5_one t) ?_
  obtain ⟨vs, hvs⟩ : ∃ vs : Nat → Value, ∀ d, a.tmps.getD d undef = vs d := ⟨_, fun _ => rfl⟩
  rw [hd]
  show Q .normal a _
  rw [puts_of hT rfl hb vs hvs]
  exact fin vs q _ ((hvs pA).symm.trans eq) hq (below_setCells hq _ _ _ hw) (set_em th V)
theorem region_put5 (k jV pD pV : Nat) (o : Oper) (F : Nat → Fact) (A : Int) (q : Nat) (hT : textOk .any ops a0.tmps.size k = true) (hk : ops[k]? = some o) (hd : o.dst = none) (hop : o.op = .store 80 (.tmp pD) (.tmp pV))
    (hp : apart ops pD = true) (h0 : a0.tmps.getD pD undef = .pointer (some ⟨q, 0, none⟩)) (ht : w.there q 0 5) (wV : writes ops jV pV = true) (FV : F jV = EM A) (steps : ∀ i, i < k → StepOk Tryz.prog .any ops Q F a0 w i)
    (fin : ∀ (vs : Nat → Value) (W W' : World), Below w.heap.size w W → ButQ q w W' → Em5 W' q 0 A → (∀ (w1 : World) (B : Nat), Below B w1 W → B ≤ q → Below B w1 W') → Q .normal (puts vs a0 ops.toList) W') :
    (Code.region id ops draw).wp Tryz.prog Q a0 w := by
  refine region_store k o F (by kernel_rfl) hT hk hd steps fun a W hb hw hF => ?_
  have h2 := hF jV pV wV
  rw [FV] at h2
  obtain ⟨t, ev, V⟩ := h2
  have th := there_up (by omega) ht hw
  refine wp_store_mid 80 (.tmp pD) (.tmp pV) hop q 0 (cl5 t).toArray ((based_at hb pD hp).trans h0) ev th i5 (cl5_one t) ?_
  obtain ⟨vs, hvs⟩ : ∃ vs : Nat → Value, ∀ d, a.tmps.getD d undef = vs d := ⟨_, fun _ => rfl⟩
  rw [hd]
  show Q .normal a _
  rw [puts_of hT rfl hb vs hvs]
  exact fin vs W _ hw (but_set hw _) (set_em th V) (fun w1 B n hB => below_setCells hB _ _ _ n)
end
end Go.Proofs.YtkglcainhkbgbaaGreatDoor
namespace Go.Proofs.YtkglcainhkbgbaaGreatDoor
set_option maxRecDepth 100000
open Go.RowKit
def dW (u v : Int) : Int := (u + v) * (u + v) - (u - v) * (u - v)
def dU (u v : Int) : Int := (u + v) * (u + v) * ((u - v) * (u - v))
def dV (u v : Int) : Int := dW u v * ((u + v) * (u + v) + dW u v * 121665)
def sY (u v u' v' : Int) : Int := (u' - v') * (u + v)
def sZ (u v u' v' : Int) : Int := (u' + v') * (u - v)
def sU (u v u' v' : Int) : Int := (sY u v u' v' + sZ u v u' v') * (sY u v u' v' + sZ u v u' v')
def sV (x u v u' v' : Int) : Int := x * ((sY u v u' v' - sZ u v u' v') * (sY u v u' v' - sZ u v u' v'))
end Go.Proofs.YtkglcainhkbgbaaGreatDoor
namespace Go.Proofs.YtkglcainhkbgbaaGreatDoor
set_option maxRecDepth 100000
open Go Go.RowKit
def But2 (q1 q2 : Nat) (W W' : World) : Prop := (∀ g, g ≠ q1 → g ≠ q2 → g < W.heap.size → W'.heap[g]? = W.heap[g]?) ∧ W.heap.size ≤ W'.heap.size ∧ ∀ (w1 : World) (B : Nat), Below B w1 W → B ≤ q1 → B ≤ q2 → B ≤ W.heap.size → Below B w1 W'
theorem em5_new (W : World) (t : TypeId) {a : Nat → Int} {A : Int} (ha : Is5 a A) : Em5 (W.alloc (.cells #[.int .u64 (a 0), .int .u64 (a 1), .int .u64 (a 2), .int .u64 (a 3), .int .u64 (a 4)] t)) W.heap.size 0 A := by
  have e : (W.alloc (.cells #[.int .u64 (a 0), .int .u64 (a 1), .int .u64 (a 2), .int .u64 (a 3), .int .u64 (a 4)] t)).heap[W.heap.size]? = some (.cells #[.int .u64 (a 0), .int .u64 (a 1), .int .u64 (a 2), .int .u64 (a 3), .int .u64 (a 4)] t) := heap_alloc_last _ _
  refine ⟨a, fun j v hv => ?_, by simp, ha⟩
  unfold World.cell?
  simp only
  rw [e]
  have hj : j < 5 := (List.getElem?_eq_some_iff.1 hv).1
  obtain rfl | rfl | rfl | rfl | rfl : j = 0 ∨ j = 1 ∨ j = 2 ∨ j = 3 ∨ j = 4 := by omega
  all_goals simpa [cl5] using hv
end Go.Proofs.YtkglcainhkbgbaaGreatDoor
namespace Go.Proofs.YtkglcainhkbgbaaGreatDoor
set_option maxRecDepth 100000
open Go Go.RowKit
def Tens (W : World) (q : Nat) (f : Nat → Int) : Prop := ∀ j, j < 10 → W.cell? ⟨q, j, none⟩ = some (.int .u64 (f j)) ∧ W.frozen? ⟨q, j, none⟩ = false
def mixT (b : Bool) (o k : Nat) (f g : Nat → Int) (j : Nat) : Int := if b = true ∧ o ≤ j ∧ j < o + k then g j else f j
theorem Tens.lt {W : World} {q : Nat} {f : Nat → Int} (h : Tens W q f) : q < W.heap.size := block_lt_of_cell (h 0 (by omega)).1
theorem Tens.of_block {W W' : World} {q : Nat} {f : Nat → Int} (h : Tens W q f) (hb : W'.heap[q]? = W.heap[q]?) : Tens W' q f := fun j hj => ⟨(World.cell?_of_block (a := ⟨q, j, none⟩) hb).trans (h j hj).1, (World.frozen?_of_block (a := ⟨q, j, none⟩) hb).trans (h j hj).2⟩
theorem Tens.store {W : World} {q : Nat} {b : Bool} {o k : Nat} {f g : Nat → Int} (h : Tens W q (mixT b o k f g)) (z : Int) (hz : z = if b = true then g (o + k) else f (o + k)) : Tens (W.setCell ⟨q, o + k, none⟩ (.int .u64 z)) q (mixT b o (k + 1) f g) := by
  intro j hj
  refine ⟨?_, by rw [World.frozen?_setCell]; exact (h j hj).2⟩
  by_cases e : j = o + k
  · subst e
    rw [World.cell?_setCell_same _ _ _ (h (o + k) hj).1, hz]
    unfold mixT
    by_cases hb : b = true
    · rw [if_pos hb, if_pos ⟨hb, by omega, by omega⟩]
    · rw [if_neg hb, if_neg (fun h => hb h.1)]
  · have hne : (⟨q, o + k, none⟩ : Addr) ≠ ⟨q, j, none⟩ := fun h => e (by simp only [Addr.mk.injEq, true_and, and_true] at h; omega)
    rw [World.cell?_setCell_other (h := hne), (h j hj).1]
    unfold mixT
    congr 2
    by_cases c : b = true ∧ o ≤ j ∧ j < o + k
    · rw [if_pos c, if_pos ⟨c.1, c.2.1, by omega⟩]
    · rw [if_neg c, if_neg (fun h => c ⟨h.1, h.2.1, by omega⟩)]
def mask (b : Bool) : Int := if b = true then 18446744073709551615 else 0
theorem Tens.congr {W : World} {q : Nat} {f g : Nat → Int} (h : Tens W q f) (e : ∀ j, j < 10 → f j = g j) : Tens W q g := fun j hj => ⟨by rw [← e j hj]; exact (h j hj).1, (h j hj).2⟩
theorem But2.trans {q1 q2 : Nat} {a b c : World} (h : But2 q1 q2 a b) (k : But2 q1 q2 b c) : But2 q1 q2 a c :=
  ⟨fun g h1 h2 h3 => (k.1 g h1 h2 (Nat.lt_of_lt_of_le h3 h.2.1)).trans (h.1 g h1 h2 h3), Nat.le_trans h.2.1 k.2.1, fun w1 B hb k1 k2 k3 => k.2.2 w1 B (h.2.2 w1 B hb k1 k2 k3) k1 k2 (Nat.le_trans k3 h.2.1)⟩
theorem But2.drewN {q1 q2 : Nat} {a b : World} (h : But2 q1 q2 a b) (n : Nat) : But2 q1 q2 a (b.drewN n) := ⟨h.1, h.2.1, fun w1 B hb k1 k2 k3 => below_drewN (h.2.2 w1 B hb k1 k2 k3) n⟩
def pick (b : Bool) (x y : Int) : Int := if b = true then x else y
end Go.Proofs.YtkglcainhkbgbaaGreatDoor
namespace Go.Proofs.YtkglcainhkbgbaaGreatDoor
set_option maxRecDepth 100000
open Go Go.RowKit
structure Two4 where
  a : Int
  b : Int
  c : Int
  d : Int
def lrnd (x : Int) (bit : Bool) (s : Two4) : Two4 :=
  ⟨pick bit (sU s.a s.b s.c s.d) (dU s.a s.b), pick bit (sV x s.a s.b s.c s.d) (dV s.a s.b), pick bit (dU s.c s.d) (sU s.a s.b s.c s.d), pick bit (dV s.c s.d) (sV x s.a s.b s.c s.d)⟩
def lrnds (x : Int) (bit : Nat → Bool) : Nat → Two4
  | 0 => ⟨1, 0, x, 1⟩
  | n + 1 => lrnd x (bit n) (lrnds x bit n)
end Go.Proofs.YtkglcainhkbgbaaGreatDoor
namespace Go.Proofs.YtkglcainhkbgbaaGreatDoor
set_option maxRecDepth 100000
open Go Go.RowKit
theorem But2.blk {q1 q2 g : Nat} {W W' : World} {k : IntKind} {ys : List Int} (h : But2 q1 q2 W W') (e : Blk W g k ys) (h1 : g ≠ q1) (h2 : g ≠ q2) : Blk W' g k ys := e.of_block (h.1 g h1 h2 e.lt)
theorem But2.there {q1 q2 g n : Nat} {W W' : World} (h : But2 q1 q2 W W') (hn : 0 < n) (e : W.there g 0 n) (h1 : g ≠ q1) (h2 : g ≠ q2) : W'.there g 0 n := by
  have hb := h.1 g h1 h2 (there_lt hn e)
  exact fun j hj => ⟨by rw [World.cell?_of_block (a := ⟨g, 0 + j, none⟩) hb]; exact (e j hj).1, by rw [World.frozen?_of_block (a := ⟨g, 0 + j, none⟩) hb]; exact (e j hj).2⟩
def ladE (x : Int) (bit : Nat → Bool) (n : Nat) : Int := (lrnds x bit n).a * (lrnds x bit n).b ^ eInv
end Go.Proofs.YtkglcainhkbgbaaGreatDoor
namespace Go.Proofs.YtkglcainhkbgbaaGreatDoor
set_option maxRecDepth 100000
open Go.RowKit
def HasW (w : World) (g : Nat) (f : Nat → Int) (n : Nat) : Prop := ∀ k, k < n → w.cell? ⟨g, k, none⟩ = some (.int .u64 (f k))
theorem HasW.of_block {w w' : World} {g n : Nat} {f : Nat → Int} (h : HasW w g f n) (hb : w'.heap[g]? = w.heap[g]?) : HasW w' g f n := fun k hk => (World.cell?_of_block (a := ⟨g, k, none⟩) hb).trans (h k hk)
theorem HasW.lt {w : World} {g n : Nat} {f : Nat → Int} (h : HasW w g f n) (hn : 0 < n) : g < w.heap.size := block_lt_of_cell (h 0 hn)
theorem HasW.up {w w' : World} {g n : Nat} {f : Nat → Int} (h : HasW w g f n) (b : Below w.heap.size w w') : HasW w' g f n := by
  by_cases hn : 0 < n
  · exact h.of_block (b.block g (h.lt hn))
  · exact fun k hk => absurd hk (by omega)
theorem HasW.f4 {w : World} {g : Nat} {f : Nat → Int} (h : HasW w g f 4) : w.cell? ⟨g, 0, none⟩ = some (.int .u64 (f 0)) ∧ w.cell? ⟨g, 1, none⟩ = some (.int .u64 (f 1)) ∧ w.cell? ⟨g, 2, none⟩ = some (.int .u64 (f 2)) ∧ w.cell? ⟨g, 3, none⟩ = some (.int .u64 (f 3)) :=
  ⟨h 0 (by omega), h 1 (by omega), h 2 (by omega), h 3 (by omega)⟩
set_option maxHeartbeats 2000000 in
theorem scalarBytes_any (w : World) (W : Nat → Int) (hW : W4 W) :
    Calls Tryz.prog 29 #[ag4 W] w fun r w' => NewRow w.heap.size w' r .u8 (fill (byt (wval W)) 32) ∧ Below w.heap.size w w' := by
  have hal : Below w.heap.size w (w.alloc (.cells #[.int .u64 (W 0), .int .u64 (W 1), .int .u64 (W 2), .int .u64 (W 3)] 41)) := (Below.refl _ _).alloc (Nat.le_refl _) _
  have WB := fun w' => wordsBytes_any w' W hW
  simp only [ag4] at WB ⊢
  go_enter Tryz.func29, Tryz.ntmps29
  go_wp2_with fail
  generalize w.alloc (.cells #[.int .u64 (W 0), .int .u64 (W 1), .int .u64 (W 2), .int .u64 (W 3)] 41) = wa at *
  refine (WB wa).mono ?_
  rintro r w2 ⟨rfl, B, n2⟩
  have N2 := nxt hal n2
  have z := hal.size
  clear WB
  go_wp2
  go_ret
  exact ⟨⟨_, 32, wa.heap.size + 1, by rw [fill_len]; rfl, B.own0, by simp, by rw [fill_len]; omega, by omega⟩, N2⟩
set_option maxHeartbeats 2000000 in
theorem implOrderBytes_any (w : World) (hQ : HasW w 0 qw 4) :
    Calls Tryz.prog 13 #[] w fun r w' => NewRow w.heap.size w' r .u8 (fill (byt QQ) 32) ∧ Below w.heap.size w w' := by
  obtain ⟨q0, q1, q2, q3⟩ := hQ.f4
  have SB := fun w' => scalarBytes_any w' qw qw_W4
  rw [qw_val] at SB
  simp only [ag4] at SB
  generalize qw 0 = a0 at *
  generalize qw 1 = a1 at *
  generalize qw 2 = a2 at *
  generalize qw 3 = a3 at *
  go_enter Tryz.func13, Tryz.ntmps13
  go_wp2_with fail
  refine (SB w).mono ?_
  rintro r w2 ⟨⟨a4, c4, g4, rfl, o4, p4, q4, r4⟩, n2⟩
  clear SB
  go_wp2
  go_ret
  exact ⟨⟨a4, c4, g4, rfl, o4, p4, q4, r4⟩, n2⟩
end Go.Proofs.YtkglcainhkbgbaaGreatDoor
