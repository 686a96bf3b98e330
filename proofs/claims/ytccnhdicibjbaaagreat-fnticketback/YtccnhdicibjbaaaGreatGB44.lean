import Derived.Test.YtccnhdicibjbaaaGreatGB14
import Derived.Test.YtccnhdicibjbaaaGreatGB42
import Derived.Test.YtccnhdicibjbaaaGreatGB43
import Derived.Deep.RegionWith
import Derived.Deep.WholeRow
import Derived.Deep.RegionHeld3
namespace Go.Proofs.YtccnhdicibjbaaaGreat
open Go.RowKit
set_option maxRecDepth 100000 in
set_option maxHeartbeats 400000 in
theorem l1Copy_own (w : World) (g : Nat) (ad : Addr) (cap : Nat) (xs : List Int) (hr : Rd w g (some ad) .u8 xs) (hn : xs.length ≤ 1048576) (h0 : 0 < xs.length) :
    Calls Tryz.prog 30 #[.slice (some ad) xs.length cap] w fun e w' => ∃ v, e = .returned v ∧ v ≠ .slice none 0 0 ∧ w'.ownsRow w.heap.size 5 1 v xs.length (xs.map (Value.int .u8)) ∧ Below w.heap.size w w' := by
  obtain ⟨i0, hi, hz0, hz1, hz2⟩ := info_parts Tryz.info5
  have hown : (w.alloc (.cells #[] 5)).ownsRow w.heap.size 5 1 (.slice (some ⟨w.heap.size, 0, none⟩) 0 0) 0 [] := World.ownsRow_lit w #[] 0 (Nat.le_refl _) (by unfold maxLen; omega) (by simp)
  have hal : Below w.heap.size w (w.alloc (.cells #[] 5)) := (Below.refl _ _).alloc (Nat.le_refl _) _
  have hcell : ∀ j u, (xs.map (Value.int .u8))[j]? = some u → (w.alloc (.cells #[] 5)).cell? (ad.add j) = some u := by
    intro j u hj
    have hjl : j < xs.length := by
      have := (List.getElem?_eq_some_iff.1 hj).1
      simpa using this
    obtain ⟨off, ha, hcc⟩ := (hr.up hal) (by omega)
    simp only [Option.some.injEq] at ha
    subst ha
    rw [Addr.add_mid, hcc j hjl]
    simpa [hjl] using hj
  have hone : ∀ u ∈ xs.map (Value.int .u8), u.oneCell' = true := oneCells _ _
  go_enter Tryz.func30, Tryz.ntmps30
  go_wp2_with (at_builtin; refine wpList_append_own _ rfl _ _ 22 rfl w.heap.size 5 i0 (.int .u8 0) 1 1 Tryz.underlying22 hi hz0 hz1 hz2 rfl (by decide) (.slice (some ⟨w.heap.size, 0, none⟩) 0 0) 0 [] rfl hown ad xs.length cap (xs.map (Value.int .u8)) rfl (by simp) hcell hone (by unfold maxLen; omega) (by omega) (by simp) ?_; intro v' w1 hown' hgrow hnil)
  simp only [Nat.zero_add, List.nil_append] at hown'
  have hB : Below w.heap.size w w1 := hal.grown hgrow (by simp) (by intro k hk; simp [Value.ownBlock] at hk; omega)
  have hv : v' ≠ .slice none 0 0 := fun h => by have := (hnil.1 h).1; simp at this
  clear hgrow hown hnil
  go_wp2
  go_ret
  exact ⟨_, rfl, hv, hown', hB⟩
theorem bval_zeros (xs : List Int) : ∀ m, bval (xs ++ List.replicate m 0) = bval xs * 256 ^ m
  | 0 => by simp
  | m + 1 => by
    rw [List.replicate_succ', ← List.append_assoc, bval_snoc, bval_zeros xs m, Int.pow_succ, Int.mul_assoc]
    omega
theorem byt_addz {xs : List Int} (h : Byt xs) (m : Nat) : Byt (xs ++ List.replicate m 0) := by
  intro i
  by_cases e : i < xs.length
  · have := h i
    simpa [List.getElem?_append, e] using this
  · rw [List.getD_eq_getElem?_getD, List.getElem?_append, if_neg e, List.getElem?_replicate]
    split <;> simp
set_option maxRecDepth 100000 in
set_option maxHeartbeats 1000000 in
theorem l1Shift130_any (w : World) (g : Nat) (ad : Addr) (c : Nat) (xs : List Int) (ha : Rd w g (some ad) .u8 xs) (hb : Byt xs) (hl : xs.length ≤ 64) (h0 : 0 < xs.length) :
    Calls Tryz.prog 93 #[.slice (some ad) xs.length c, .int .i64 130] w fun e w' => ∃ ys, Canon ys (bval xs * 1361129467683753853853498429727072845824) ∧ NewRow w.heap.size w' e .u8 ys ∧ Below w.heap.size w w' := by
  obtain ⟨i0, hi, hz0, hz1, hz2⟩ := info_parts Tryz.info5
  go_enter Tryz.func93, Tryz.ntmps93
  go_wp2_with fail
  refine (l1Copy_own w g ad c xs ha (by omega) h0).mono ?_
  rintro e w1 ⟨v, rfl, hv, o1, n1⟩
  obtain ⟨v', w2, hap, o2, hgr, hv'⟩ := append_zeros_own (P := Tryz.prog) w1 22 3 22 5 i0 .i64 .i64 Tryz.underlying22 Tryz.underlying3 hi hz0 hz1 hz2 w.heap.size v xs.length _ o1 hv 16 (by omega) (by omega) n1.size
  have n2 : Below w.heap.size w w2 := n1.grown hgr (n1.size) (fun i hi => (o1.lt i hi).1)
  have o2' : w2.ownsRow w.heap.size 5 1 v' (xs ++ List.replicate 16 0).length ((xs ++ List.replicate 16 0).map (Value.int .u8)) := by simpa using o2
  obtain ⟨a3, c3, g3, rfl, o3, p3, q3, r3⟩ := Own.of_ownsRow o2'
  have V := hide (bval_zeros xs 16)
  have Z := byt_addz hb 16
  have L : (xs ++ List.replicate 16 (0 : Int)).length ≤ 128 := by simp; omega
  generalize xs ++ List.replicate 16 (0 : Int) = zs at *
  clear o1 o2 o2' hgr hv hv'
  go_wp2_with (at_builtin; refine Lib.wpList_append_run _ rfl _ _ 22 3 rfl _ _ rfl rfl _ _ hap ?_)
  have n3 : Below w2.heap.size w2 (w2.alloc (.cells #[.int .u8 4] 5)) := (Below.refl _ _).alloc (Nat.le_refl _) _
  have B2 : Blk (w2.alloc (.cells #[.int .u8 4] 5)) w2.heap.size .u8 [4] := ⟨5, by rw [heap_alloc_last]; rfl⟩
  generalize w2.alloc (.cells #[.int .u8 4] 5) = w4 at *
  have hb2 : Byt [4] := fun i => by
    match i with
    | 0 => decide
    | i + 1 => simp
  refine (l1Mul_any w4 g3 _ _ _ c3 1 zs [4] (o3.up n3).rd B2.own0.rd Z hb2 (by omega) (by decide)).mono ?_
  rintro e w5 ⟨ys, C, ⟨a5, c5, g5, rfl, o5, p5, q5, r5⟩, n5⟩
  have N5 := nxt (nxt n2 n3) n5
  have z := (nxt n2 n3).size
  have C' : Canon ys (bval xs * 1361129467683753853853498429727072845824) := by
    rw [V.out] at C
    have e1 : bval [4] = 4 := by decide
    have e2 : (256 : Int) ^ 16 * 4 = 1361129467683753853853498429727072845824 := by decide
    rw [e1, Int.mul_assoc, e2] at C
    exact C
  clear hap C
  go_wp2
  go_ret
  exact ⟨ys, C', ⟨a5, c5, g5, rfl, o5, p5, q5, by omega⟩, N5⟩
theorem byt_one {d : Int} (h0 : 0 ≤ d) (h1 : d < 256) : Byt [d] := fun i => by
  match i with
  | 0 => exact ⟨h0, h1⟩
  | i + 1 => simp
end Go.Proofs.YtccnhdicibjbaaaGreat
