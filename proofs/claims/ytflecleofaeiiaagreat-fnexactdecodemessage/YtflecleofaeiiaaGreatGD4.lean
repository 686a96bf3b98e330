import Derived.Test.YtflecleofaeiiaaGreatGD3
import Derived.WideMake
import Derived.Test.YtflecleofaeiiaaGreatGD1
import Derived.Test.YtflecleofaeiiaaGreatRows
import Derived.WalkSpells
import Derived.Deep.QuietTactic
import Derived.BigQuiet
import Derived.Laws.BytesString
import Derived.Deep.MidRow

/-
  Messages: the registry of the kinds.
-/
namespace Go.Proofs.YtflecleofaeiiaaGreat
open Go Go.RowKit

theorem mapPut (w : World) (r clock : Nat) (es : Array MapEntry) (k : Int) (val : Value) (hb : w.heap[r]? = some (.map es clock)) (hf : Instr.findNow (.int .i64) (.int .i64 k) es.toList 0 = some none) :
    ∃ w', (Instr.mapUpdate 48 (.map (some r)) (.int .i64 k) val).run Tryz.prog w = .ok () w' ∧ w'.heap[r]? = some (.map (es.push { key := .int .i64 k, val := val, born := clock }) (clock + 1)) ∧ Only r w w' := by
  have hm := Tryz.underlying48
  have hk : Tryz.prog.underlying 2 = some (.int .i64) := by kernel_rfl
  have hc : (Instr.checkKey false 10000 2 (.int .i64 k)).run Tryz.prog w = .ok () w := MapKept.run_checkKey (k := .int .i64 k) hk (by simp [MapKept.IsKey]) false 9999
  have hr : r < w.heap.size := (Array.getElem?_eq_some_iff.1 hb).1
  refine ⟨{ w with heap := w.heap.setIfInBounds r (.map (es.push { key := .int .i64 k, val := val, born := clock }) (clock + 1)) }, ?_, ?_, ?_⟩
  · simp [Instr.mapUpdate, run_underlying hm, MapKept.run_getObj_map hb, hc, MapKept.run_findKey hk hf, MapKept.run_setObj_map _ hb, Result.andThen]
  · show (w.heap.setIfInBounds r _)[r]? = _
    rw [Array.getElem?_setIfInBounds_self, if_pos hr]
  · exact ⟨rfl, rfl, rfl, by simp, fun g hg => by
      show (w.heap.setIfInBounds r _)[g]? = _
      rw [Array.getElem?_setIfInBounds_ne (Ne.symm hg)]⟩
/-- The registry's entries. -/
def regE : Array MapEntry := #[{ key := .int .i64 1, val := .func (Fn.func 44) #[] #[], born := 0 }, { key := .int .i64 2, val := .func (Fn.func 45) #[] #[], born := 1 }, { key := .int .i64 4, val := .func (Fn.func 46) #[] #[], born := 2 }, { key := .int .i64 5, val := .func (Fn.func 47) #[] #[], born := 3 }, { key := .int .i64 8, val := .func (Fn.func 48) #[] #[], born := 4 }, { key := .int .i64 11, val := .func (Fn.func 49) #[] #[], born := 5 }, { key := .int .i64 15, val := .func (Fn.func 50) #[] #[], born := 6 }, { key := .int .i64 20, val := .func (Fn.func 51) #[] #[], born := 7 }, { key := .int .i64 24, val := .func (Fn.func 52) #[] #[], born := 8 }]
set_option maxRecDepth 20000 in
set_option maxHeartbeats 1000000 in
theorem messageKinds_any (w : World) : Calls Tryz.prog 23 #[] w fun e w' => e = .returned (.map (some w.heap.size)) ∧ w'.heap[w.heap.size]? = some (.map regE 9) ∧ Below w.heap.size w w' := by
  have hmm := @run_makeMap Tryz.prog
  have b0 : (w.alloc (.map #[] 0)).heap[w.heap.size]? = some (.map #[] 0) := heap_alloc_new w _
  have n0 : Below w.heap.size w (w.alloc (.map #[] 0)) := (Below.refl _ _).alloc (Nat.le_refl _) _
  obtain ⟨w1, u1, b1, o1⟩ := mapPut (w.alloc (.map #[] 0)) w.heap.size 0 #[] 1 (.func (Fn.func 44) #[] #[]) b0 rfl
  have n1 := n0.trans (o1.below (Nat.le_refl _))
  obtain ⟨w2, u2, b2, o2⟩ := mapPut w1 w.heap.size 1 #[{ key := .int .i64 1, val := .func (Fn.func 44) #[] #[], born := 0 }] 2 (.func (Fn.func 45) #[] #[]) b1 rfl
  have n2 := n1.trans (o2.below (Nat.le_refl _))
  obtain ⟨w3, u3, b3, o3⟩ := mapPut w2 w.heap.size 2 #[{ key := .int .i64 1, val := .func (Fn.func 44) #[] #[], born := 0 }, { key := .int .i64 2, val := .func (Fn.func 45) #[] #[], born := 1 }] 4 (.func (Fn.func 46) #[] #[]) b2 rfl
  have n3 := n2.trans (o3.below (Nat.le_refl _))
  obtain ⟨w4, u4, b4, o4⟩ := mapPut w3 w.heap.size 3 #[{ key := .int .i64 1, val := .func (Fn.func 44) #[] #[], born := 0 }, { key := .int .i64 2, val := .func (Fn.func 45) #[] #[], born := 1 }, { key := .int .i64 4, val := .func (Fn.func 46) #[] #[], born := 2 }] 5 (.func (Fn.func 47) #[] #[]) b3 rfl
  have n4 := n3.trans (o4.below (Nat.le_refl _))
  obtain ⟨w5, u5, b5, o5⟩ := mapPut w4 w.heap.size 4 #[{ key := .int .i64 1, val := .func (Fn.func 44) #[] #[], born := 0 }, { key := .int .i64 2, val := .func (Fn.func 45) #[] #[], born := 1 }, { key := .int .i64 4, val := .func (Fn.func 46) #[] #[], born := 2 }, { key := .int .i64 5, val := .func (Fn.func 47) #[] #[], born := 3 }] 8 (.func (Fn.func 48) #[] #[]) b4 rfl
  have n5 := n4.trans (o5.below (Nat.le_refl _))
  obtain ⟨w6, u6, b6, o6⟩ := mapPut w5 w.heap.size 5 #[{ key := .int .i64 1, val := .func (Fn.func 44) #[] #[], born := 0 }, { key := .int .i64 2, val := .func (Fn.func 45) #[] #[], born := 1 }, { key := .int .i64 4, val := .func (Fn.func 46) #[] #[], born := 2 }, { key := .int .i64 5, val := .func (Fn.func 47) #[] #[], born := 3 }, { key := .int .i64 8, val := .func (Fn.func 48) #[] #[], born := 4 }] 11 (.func (Fn.func 49) #[] #[]) b5 rfl
  have n6 := n5.trans (o6.below (Nat.le_refl _))
  obtain ⟨w7, u7, b7, o7⟩ := mapPut w6 w.heap.size 6 #[{ key := .int .i64 1, val := .func (Fn.func 44) #[] #[], born := 0 }, { key := .int .i64 2, val := .func (Fn.func 45) #[] #[], born := 1 }, { key := .int .i64 4, val := .func (Fn.func 46) #[] #[], born := 2 }, { key := .int .i64 5, val := .func (Fn.func 47) #[] #[], born := 3 }, { key := .int .i64 8, val := .func (Fn.func 48) #[] #[], born := 4 }, { key := .int .i64 11, val := .func (Fn.func 49) #[] #[], born := 5 }] 15 (.func (Fn.func 50) #[] #[]) b6 rfl
  have n7 := n6.trans (o7.below (Nat.le_refl _))
  obtain ⟨w8, u8, b8, o8⟩ := mapPut w7 w.heap.size 7 #[{ key := .int .i64 1, val := .func (Fn.func 44) #[] #[], born := 0 }, { key := .int .i64 2, val := .func (Fn.func 45) #[] #[], born := 1 }, { key := .int .i64 4, val := .func (Fn.func 46) #[] #[], born := 2 }, { key := .int .i64 5, val := .func (Fn.func 47) #[] #[], born := 3 }, { key := .int .i64 8, val := .func (Fn.func 48) #[] #[], born := 4 }, { key := .int .i64 11, val := .func (Fn.func 49) #[] #[], born := 5 }, { key := .int .i64 15, val := .func (Fn.func 50) #[] #[], born := 6 }] 20 (.func (Fn.func 51) #[] #[]) b7 rfl
  have n8 := n7.trans (o8.below (Nat.le_refl _))
  obtain ⟨w9, u9, b9, o9⟩ := mapPut w8 w.heap.size 8 #[{ key := .int .i64 1, val := .func (Fn.func 44) #[] #[], born := 0 }, { key := .int .i64 2, val := .func (Fn.func 45) #[] #[], born := 1 }, { key := .int .i64 4, val := .func (Fn.func 46) #[] #[], born := 2 }, { key := .int .i64 5, val := .func (Fn.func 47) #[] #[], born := 3 }, { key := .int .i64 8, val := .func (Fn.func 48) #[] #[], born := 4 }, { key := .int .i64 11, val := .func (Fn.func 49) #[] #[], born := 5 }, { key := .int .i64 15, val := .func (Fn.func 50) #[] #[], born := 6 }, { key := .int .i64 20, val := .func (Fn.func 51) #[] #[], born := 7 }] 24 (.func (Fn.func 52) #[] #[]) b8 rfl
  have n9 := n8.trans (o9.below (Nat.le_refl _))
  have B9 : Hid (w9.heap[w.heap.size]? = some (.map regE 9)) := b9
  have N9 := hide n9
  clear b0 n0 b1 n1 b2 n2 b3 n3 b4 n4 b5 n5 b6 n6 b7 n7 b8 n8 b9 n9 o1 o2 o3 o4 o5 o6 o7 o8 o9
  go_enter Tryz.func23, Tryz.ntmps23
  go_wp2
  go_ret
  exact ⟨rfl, B9.out, N9.out⟩
/-- What the registry has for a kind. -/
def regV (k : Int) : Value := if k = 1 then .func (Fn.func 44) #[] #[] else if k = 2 then .func (Fn.func 45) #[] #[] else if k = 4 then .func (Fn.func 46) #[] #[] else if k = 5 then .func (Fn.func 47) #[] #[] else if k = 8 then .func (Fn.func 48) #[] #[] else if k = 11 then .func (Fn.func 49) #[] #[] else if k = 15 then .func (Fn.func 50) #[] #[] else if k = 20 then .func (Fn.func 51) #[] #[] else if k = 24 then .func (Fn.func 52) #[] #[] else .nilFunc
theorem regLook (w : World) (q : Nat) (hb : w.heap[q]? = some (.map regE 9)) (k : Int) : (Instr.lookup 48 (.map (some q)) (.int .i64 k) false).run Tryz.prog w = .ok (regV k) w := by
  have hm := Tryz.underlying48
  have hk : Tryz.prog.underlying 2 = some (.int .i64) := by kernel_rfl
  have hc : (Instr.checkKey regE.isEmpty 10000 2 (.int .i64 k)).run Tryz.prog w = .ok () w := MapKept.run_checkKey (k := .int .i64 k) hk (by simp [MapKept.IsKey]) regE.isEmpty 9999
  by_cases k0 : k = 1
  · subst k0
    have h1 : Instr.findNow (.int .i64) (.int .i64 1) regE.toList 0 = some (some (0, .func (Fn.func 44) #[] #[])) := rfl
    rw [show regV 1 = .func (Fn.func 44) #[] #[] from rfl]
    simp [Instr.lookup, run_underlying hm, MapKept.run_getObj_map hb, hc, MapKept.run_findKey hk h1, Result.andThen]
  by_cases k1 : k = 2
  · subst k1
    have h1 : Instr.findNow (.int .i64) (.int .i64 2) regE.toList 0 = some (some (1, .func (Fn.func 45) #[] #[])) := rfl
    rw [show regV 2 = .func (Fn.func 45) #[] #[] from rfl]
    simp [Instr.lookup, run_underlying hm, MapKept.run_getObj_map hb, hc, MapKept.run_findKey hk h1, Result.andThen]
  by_cases k2 : k = 4
  · subst k2
    have h1 : Instr.findNow (.int .i64) (.int .i64 4) regE.toList 0 = some (some (2, .func (Fn.func 46) #[] #[])) := rfl
    rw [show regV 4 = .func (Fn.func 46) #[] #[] from rfl]
    simp [Instr.lookup, run_underlying hm, MapKept.run_getObj_map hb, hc, MapKept.run_findKey hk h1, Result.andThen]
  by_cases k3 : k = 5
  · subst k3
    have h1 : Instr.findNow (.int .i64) (.int .i64 5) regE.toList 0 = some (some (3, .func (Fn.func 47) #[] #[])) := rfl
    rw [show regV 5 = .func (Fn.func 47) #[] #[] from rfl]
    simp [Instr.lookup, run_underlying hm, MapKept.run_getObj_map hb, hc, MapKept.run_findKey hk h1, Result.andThen]
  by_cases k4 : k = 8
  · subst k4
    have h1 : Instr.findNow (.int .i64) (.int .i64 8) regE.toList 0 = some (some (4, .func (Fn.func 48) #[] #[])) := rfl
    rw [show regV 8 = .func (Fn.func 48) #[] #[] from rfl]
    simp [Instr.lookup, run_underlying hm, MapKept.run_getObj_map hb, hc, MapKept.run_findKey hk h1, Result.andThen]
  by_cases k5 : k = 11
  · subst k5
    have h1 : Instr.findNow (.int .i64) (.int .i64 11) regE.toList 0 = some (some (5, .func (Fn.func 49) #[] #[])) := rfl
    rw [show regV 11 = .func (Fn.func 49) #[] #[] from rfl]
    simp [Instr.lookup, run_underlying hm, MapKept.run_getObj_map hb, hc, MapKept.run_findKey hk h1, Result.andThen]
  by_cases k6 : k = 15
  · subst k6
    have h1 : Instr.findNow (.int .i64) (.int .i64 15) regE.toList 0 = some (some (6, .func (Fn.func 50) #[] #[])) := rfl
    rw [show regV 15 = .func (Fn.func 50) #[] #[] from rfl]
    simp [Instr.lookup, run_underlying hm, MapKept.run_getObj_map hb, hc, MapKept.run_findKey hk h1, Result.andThen]
  by_cases k7 : k = 20
  · subst k7
    have h1 : Instr.findNow (.int .i64) (.int .i64 20) regE.toList 0 = some (some (7, .func (Fn.func 51) #[] #[])) := rfl
    rw [show regV 20 = .func (Fn.func 51) #[] #[] from rfl]
    simp [Instr.lookup, run_underlying hm, MapKept.run_getObj_map hb, hc, MapKept.run_findKey hk h1, Result.andThen]
  by_cases k8 : k = 24
  · subst k8
    have h1 : Instr.findNow (.int .i64) (.int .i64 24) regE.toList 0 = some (some (8, .func (Fn.func 52) #[] #[])) := rfl
    rw [show regV 24 = .func (Fn.func 52) #[] #[] from rfl]
    simp [Instr.lookup, run_underlying hm, MapKept.run_getObj_map hb, hc, MapKept.run_findKey hk h1, Result.andThen]
  have h1 : Instr.findNow (.int .i64) (.int .i64 k) regE.toList 0 = some none := by
    rcases MapKept.findNow_spec (d := .int .i64) (k := .int .i64 k) (by simp [MapKept.IsKey]) regE.toList 0 (by simp [regE, MapKept.IsKey]) with ⟨h, -⟩ | ⟨j, e, -, h2, h3⟩
    · exact h
    · exfalso
      have hm := List.mem_of_getElem? h2
      simp only [regE, List.mem_cons, List.not_mem_nil, or_false] at hm
      rcases hm with rfl | rfl | rfl | rfl | rfl | rfl | rfl | rfl | rfl <;> simp at h3 <;> omega
  have hv : regV k = .nilFunc := by unfold regV; rw [if_neg k0, if_neg k1, if_neg k2, if_neg k3, if_neg k4, if_neg k5, if_neg k6, if_neg k7, if_neg k8]
  have hz : (zeroValue 75).run Tryz.prog w = .ok .nilFunc w := by kernel_rfl
  rw [hv]
  simp [Instr.lookup, run_underlying hm, MapKept.run_getObj_map hb, hc, MapKept.run_findKey hk h1, hz, Result.andThen]
end Go.Proofs.YtflecleofaeiiaaGreat

/-
  Numbers as lists of bytes (the highest first) and as lists of limbs (the lowest first): plain arithmetic.
-/
namespace Go.Proofs.YtflecleofaeiiaaGreat

def bval (xs : List Int) : Int := xs.foldl (fun v x => v * 256 + x) 0
def dig (xs : List Int) (i : Nat) : Int := if i < xs.length then xs.getD (xs.length - 1 - i) 0 else 0
def hi (xs : List Int) (i : Nat) : Int := bval (xs.take (xs.length - i))
def lo (xs : List Int) : Nat → Int
  | 0 => 0
  | i + 1 => lo xs i + dig xs i * 256 ^ i
def sg (x y : Int) : Int := if x < y then -1 else if y < x then 1 else 0

theorem bval_snoc (xs : List Int) (x : Int) : bval (xs ++ [x]) = bval xs * 256 + x := by simp [bval]
theorem bval_nil : bval [] = 0 := rfl
theorem hi_zero (xs : List Int) : hi xs 0 = bval xs := by simp [hi]
theorem hi_past (xs : List Int) (i : Nat) (h : xs.length ≤ i) : hi xs i = 0 := by
  unfold hi
  rw [show xs.length - i = 0 by omega]
  rfl
theorem hi_step (xs : List Int) (i : Nat) : hi xs i = hi xs (i + 1) * 256 + dig xs i := by
  by_cases h : i < xs.length
  · unfold hi dig
    rw [if_pos h, show xs.length - i = (xs.length - (i + 1)) + 1 by omega, List.take_succ_eq_append_getElem (by omega), bval_snoc]
    simp [show xs.length - 1 - i = xs.length - (i + 1) by omega, show xs.length - (i + 1) < xs.length by omega]
  · rw [hi_past xs i (by omega), hi_past xs (i + 1) (by omega)]
    simp [dig, h]
theorem dig_byt {xs : List Int} (hb : Byt xs) (i : Nat) : 0 ≤ dig xs i ∧ dig xs i ≤ 255 := by
  unfold dig
  split
  · have := hb (xs.length - 1 - i); omega
  · omega
theorem hi_lt {a b : List Int} (ha : Byt a) (hb : Byt b) : ∀ i, hi a i < hi b i → bval a < bval b
  | 0, h => by rwa [hi_zero, hi_zero] at h
  | i + 1, h => by
    refine hi_lt ha hb i ?_
    rw [hi_step a i, hi_step b i]
    have := dig_byt ha i
    have := dig_byt hb i
    omega
theorem bval_lo (xs : List Int) : ∀ i, bval xs = hi xs i * 256 ^ i + lo xs i
  | 0 => by rw [hi_zero]; simp [lo]
  | i + 1 => by
    rw [bval_lo xs i, hi_step xs i, lo, Int.pow_succ, Int.add_mul, Int.mul_assoc, Int.mul_comm 256]
    omega
theorem lo_all (xs : List Int) (i : Nat) (h : xs.length ≤ i) : lo xs i = bval xs := by
  rw [bval_lo xs i, hi_past xs i h]; omega
theorem p256_pos (i : Nat) : (0 : Int) < 256 ^ i := Int.pow_pos (by decide)
theorem lo_bd {xs : List Int} (hb : Byt xs) : ∀ i, 0 ≤ lo xs i ∧ lo xs i < 256 ^ i
  | 0 => by simp [lo]
  | i + 1 => by
    have h := lo_bd hb i
    have hd := dig_byt hb i
    have hp := p256_pos i
    rw [lo, Int.pow_succ]
    have h1 : 0 ≤ dig xs i * 256 ^ i := Int.mul_nonneg hd.1 (by omega)
    have h2 : dig xs i * 256 ^ i ≤ 255 * 256 ^ i := Int.mul_le_mul_of_nonneg_right hd.2 (by omega)
    omega
theorem bval_nonneg {xs : List Int} (hb : Byt xs) : 0 ≤ bval xs := by
  rw [← lo_all xs xs.length (Nat.le_refl _)]; exact (lo_bd hb _).1

/-! ### limbs -/
def lval : List Int → Int
  | [] => 0
  | z :: r => z + 4294967296 * lval r
def Lmb (zs : List Int) : Prop := ∀ i, 0 ≤ zs.getD i 0 ∧ zs.getD i 0 < 4294967296
def lhi (zs : List Int) (i : Nat) : Int := lval (zs.drop i)

theorem lhi_zero (zs : List Int) : lhi zs 0 = lval zs := rfl
theorem lhi_past (zs : List Int) (i : Nat) (h : zs.length ≤ i) : lhi zs i = 0 := by
  unfold lhi; rw [List.drop_of_length_le h]; rfl
theorem lhi_step (zs : List Int) (i : Nat) : lhi zs i = zs.getD i 0 + 4294967296 * lhi zs (i + 1) := by
  by_cases h : i < zs.length
  · unfold lhi
    rw [List.drop_eq_getElem_cons h, lval]
    simp [h]
  · rw [lhi_past zs i (by omega), lhi_past zs (i + 1) (by omega)]
    simp [show zs.length ≤ i by omega]
theorem lhi_lt {a b : List Int} (ha : Lmb a) (hb : Lmb b) : ∀ i, lhi a i < lhi b i → lval a < lval b
  | 0, h => h
  | i + 1, h => by
    refine lhi_lt ha hb i ?_
    rw [lhi_step a i, lhi_step b i]
    have := ha i
    have := hb i
    omega
theorem lmb_tail {z : Int} {r : List Int} (h : Lmb (z :: r)) : (0 ≤ z ∧ z < 4294967296) ∧ Lmb r :=
  ⟨by simpa using h 0, fun i => by simpa using h (i + 1)⟩
theorem p32_pos (i : Nat) : (0 : Int) < 4294967296 ^ i := Int.pow_pos (by decide)
theorem lval_bd : ∀ {zs : List Int}, Lmb zs → 0 ≤ lval zs ∧ lval zs < 4294967296 ^ zs.length
  | [], _ => by simp [lval]
  | z :: r, h => by
    obtain ⟨hz, hr⟩ := lmb_tail h
    have := lval_bd hr
    rw [lval, List.length_cons, Int.pow_succ]
    omega
theorem lval_set (v : Int) : ∀ (zs : List Int) (q : Nat), q < zs.length → lval (zs.set q v) = lval zs + (v - zs.getD q 0) * 4294967296 ^ q
  | z :: r, 0, _ => by simp [lval]; omega
  | z :: r, q + 1, h => by
    have := lval_set v r q (by simpa using h)
    simp only [List.set_cons_succ, lval, this, List.getD_cons_succ, Int.pow_succ]
    rw [Int.mul_add, ← Int.mul_assoc (v - r.getD q 0), Int.mul_comm 4294967296 ((v - r.getD q 0) * 4294967296 ^ q)]
    omega
theorem limb_le : ∀ {zs : List Int} (_ : Lmb zs) (q : Nat), zs.getD q 0 * 4294967296 ^ q ≤ lval zs
  | [], _, q => by simp [lval]
  | z :: r, h, 0 => by
    obtain ⟨hz, hr⟩ := lmb_tail h
    have := lval_bd hr
    simp [lval]; omega
  | z :: r, h, q + 1 => by
    obtain ⟨hz, hr⟩ := lmb_tail h
    have := limb_le hr q
    rw [List.getD_cons_succ, Int.pow_succ, lval, ← Int.mul_assoc]
    omega
theorem lmb_set {zs : List Int} (h : Lmb zs) (q : Nat) (v : Int) (h0 : 0 ≤ v) (h1 : v < 4294967296) : Lmb (zs.set q v) := by
  intro i
  by_cases e : q = i
  · subst e
    by_cases hq : q < zs.length
    · rw [getD_set_self _ _ _ hq]; exact ⟨h0, h1⟩
    · have := h q
      rwa [List.set_eq_of_length_le (by omega)]
  · rw [getD_set_ne _ _ _ _ e]; exact h i
theorem lmb_zeros (n : Nat) : Lmb (List.replicate n 0) := by
  intro i
  by_cases h : i < n <;> simp [h]
theorem lval_zeros : ∀ n, lval (List.replicate n 0) = 0
  | 0 => rfl
  | n + 1 => by rw [List.replicate_succ, lval, lval_zeros n]; rfl
theorem lmb_take {zs : List Int} (h : Lmb zs) (s : Nat) : Lmb (zs.take s) := by
  intro i
  by_cases e : i < s
  · have := h i
    simpa [List.getElem?_take, e] using this
  · simp [List.getElem?_take, e]
theorem lval_take : ∀ (zs : List Int) (s : Nat), (∀ j, s ≤ j → zs.getD j 0 = 0) → lval (zs.take s) = lval zs
  | [], s, _ => by simp
  | z :: r, 0, h => by
    have h0 := h 0 (by omega)
    have := lval_take r 0 (fun j _ => by simpa using h (j + 1) (by omega))
    simp at h0 this
    simp [lval, h0, ← this]
  | z :: r, s + 1, h => by
    have := lval_take r s (fun j hj => by simpa using h (j + 1) (by omega))
    simp [lval, this]
/-- No limb 0 at the end. -/
def Top (zs : List Int) : Prop := 0 < zs.length → zs.getD (zs.length - 1) 0 ≠ 0
theorem lval_ge {zs : List Int} (h : Lmb zs) (ht : Top zs) (h0 : 0 < zs.length) : 4294967296 ^ (zs.length - 1) ≤ lval zs := by
  have h1 := limb_le h (zs.length - 1)
  have h2 := ht h0
  have h3 := h (zs.length - 1)
  have hp := p32_pos (zs.length - 1)
  have : 1 * 4294967296 ^ (zs.length - 1) ≤ zs.getD (zs.length - 1) 0 * (4294967296 : Int) ^ (zs.length - 1) := Int.mul_le_mul_of_nonneg_right (by omega) (by omega)
  omega
theorem p32_mono {i j : Nat} (h : i ≤ j) : (4294967296 : Int) ^ i ≤ 4294967296 ^ j := by
  obtain ⟨d, rfl⟩ := Nat.le.dest h
  induction d with
  | zero => exact Int.le_refl _
  | succ d ih =>
    have := ih (by omega)
    have hp := p32_pos (i + d)
    rw [← Nat.add_assoc, Int.pow_succ]; omega
theorem lval_lt_of_len {a b : List Int} (ha : Lmb a) (hb : Lmb b) (ht : Top b) (h : a.length < b.length) : lval a < lval b := by
  have h1 := (lval_bd ha).2
  have h2 := lval_ge hb ht (by omega)
  have h3 := p32_mono (show a.length ≤ b.length - 1 by omega)
  omega

/-! ### the one form of a number -/
/-- No byte 0 ahead. -/
def Canon (ys : List Int) (v : Int) : Prop := Byt ys ∧ bval ys = v ∧ (0 < ys.length → ys.getD 0 0 ≠ 0)
theorem hi_same {a b : List Int} (ha : Byt a) (hb : Byt b) (h : bval a = bval b) : ∀ i, hi a i = hi b i
  | 0 => by rw [hi_zero, hi_zero, h]
  | i + 1 => by
    have h0 := hi_same ha hb h i
    rw [hi_step a i, hi_step b i] at h0
    have := dig_byt ha i
    have := dig_byt hb i
    omega
theorem dig_same {a b : List Int} (ha : Byt a) (hb : Byt b) (h : bval a = bval b) (i : Nat) : dig a i = dig b i := by
  have h0 := hi_same ha hb h i
  have h1 := hi_same ha hb h (i + 1)
  rw [hi_step a i, hi_step b i, h1] at h0
  omega
theorem dig_top (a : List Int) (h : 0 < a.length) : dig a (a.length - 1) = a.getD 0 0 := by
  unfold dig
  rw [if_pos (by omega), show a.length - 1 - (a.length - 1) = 0 by omega]
theorem canon_len {a b : List Int} {v : Int} (ha : Canon a v) (hb : Canon b v) : ¬ a.length < b.length := by
  intro h
  have h1 := dig_same ha.1 hb.1 (ha.2.1.trans hb.2.1.symm) (b.length - 1)
  rw [dig_top b (by omega)] at h1
  have h2 : dig a (b.length - 1) = 0 := by unfold dig; rw [if_neg (by omega)]
  exact hb.2.2 (by omega) (by omega)
theorem Canon.uniq {a b : List Int} {v : Int} (ha : Canon a v) (hb : Canon b v) : a = b := by
  have hl : a.length = b.length := by
    have h1 := canon_len ha hb
    have h2 := canon_len hb ha
    omega
  refine eq_of_getD hl (fun i hi => ?_)
  have h1 := dig_same ha.1 hb.1 (ha.2.1.trans hb.2.1.symm) (a.length - 1 - i)
  unfold dig at h1
  rw [if_pos (by omega), if_pos (by omega), show a.length - 1 - (a.length - 1 - i) = i by omega, show b.length - 1 - (a.length - 1 - i) = i by omega] at h1
  exact h1
theorem bval_cons0 (xs : List Int) : bval (0 :: xs) = bval xs := rfl
theorem bval_drop : ∀ (xs : List Int) (k : Nat), (∀ j, j < k → xs.getD j 0 = 0) → bval (xs.drop k) = bval xs
  | xs, 0, _ => by simp
  | [], k + 1, _ => by simp
  | x :: r, k + 1, h => by
    have h0 := h 0 (by omega)
    simp at h0
    subst h0
    rw [List.drop_succ_cons, bval_cons0]
    exact bval_drop r k (fun j hj => by simpa using h (j + 1) (by omega))
theorem byt_drop {xs : List Int} (h : Byt xs) (k : Nat) : Byt (xs.drop k) := fun i => by
  have := h (k + i)
  simpa [List.getElem?_drop] using this
theorem byt_nil : Byt [] := fun i => by simp
/-- The first k bytes are 0. -/
def ZeroTo (xs : List Int) (k : Nat) : Prop := ∀ j, j < k → xs.getD j 0 = 0
theorem ZeroTo.step {xs : List Int} {k : Nat} (h : ZeroTo xs k) (h0 : xs.getD k 0 = 0) : ZeroTo xs (k + 1) := fun j hj => by
  by_cases e : j = k
  · rw [e]; exact h0
  · exact h j (by omega)
theorem ZeroTo.canon {xs : List Int} {k : Nat} (h : ZeroTo xs k) (hb : Byt xs) (hk : k < xs.length → xs.getD k 0 ≠ 0) : Canon (xs.drop k) (bval xs) := by
  refine ⟨byt_drop hb k, bval_drop xs k h, fun h0 => ?_⟩
  have := hk (by rw [List.length_drop] at h0; omega)
  simpa [List.getElem?_drop] using this

theorem p256_4 (r : Nat) : ∀ q : Nat, (256 : Int) ^ (4 * q + r) = 4294967296 ^ q * 256 ^ r
  | 0 => by simp
  | q + 1 => by
    have := p256_4 r q
    rw [show 4 * (q + 1) + r = (4 * q + r) + 1 + 1 + 1 + 1 by omega, Int.pow_succ, Int.pow_succ, Int.pow_succ, Int.pow_succ, this, Int.pow_succ, Int.mul_right_comm (4294967296 ^ q) 4294967296 (256 ^ r)]
    omega

theorem sg_lt {x y : Int} (h : x < y) : sg x y = -1 := by simp [sg, h]
theorem sg_gt {x y : Int} (h : y < x) : sg x y = 1 := by simp [sg, h]; omega
theorem sg_eq {x y : Int} (h : x = y) : sg x y = 0 := by simp [sg, h]
end Go.Proofs.YtflecleofaeiiaaGreat

/-
  The contracts of the model's small functions of chapter 1: a digit, a comparison, the limit.
-/
namespace Go.Proofs.YtflecleofaeiiaaGreat
open Go.RowKit

/-- Above place k the two are one. -/
def HiEq (a b : List Int) (k : Nat) : Prop := hi a k = hi b k

end Go.Proofs.YtflecleofaeiiaaGreat

/-
  The contracts of the laws' own helpers on bytes.
-/
namespace Go.Proofs.YtflecleofaeiiaaGreat
open Go.RowKit

theorem Tryz.info5 : (Tryz.prog.info? 5).map (fun i => (i.zero, i.size, i.bytes)) = some (some (.int .u8 0), 1, 1) := by kernel_rfl

/-- The first k places of ys are those of xs. -/
def CopyTo (xs ys : List Int) (k : Nat) : Prop := ys.length = xs.length ∧ ∀ j, j < k → ys.getD j 0 = xs.getD j 0
theorem CopyTo.zero (xs : List Int) : CopyTo xs (List.replicate xs.length 0) 0 := ⟨by simp, fun j h => absurd h (by omega)⟩
theorem CopyTo.step {xs ys : List Int} {k : Nat} (h : CopyTo xs ys k) (hk : k < xs.length) : CopyTo xs (ys.set k (xs.getD k 0)) (k + 1) := by
  refine ⟨by simpa using h.1, fun j hj => ?_⟩
  by_cases e : k = j
  · subst e
    rw [getD_set_self _ _ _ (by rw [h.1]; exact hk)]
  · rw [getD_set_ne _ _ _ _ e]
    exact h.2 j (by omega)
theorem CopyTo.all {xs ys : List Int} (h : CopyTo xs ys xs.length) : ys = xs := eq_of_getD h.1 (fun i hi => h.2 i (by rw [← h.1]; exact hi))

set_option maxRecDepth 100000 in
set_option maxHeartbeats 400000 in
theorem toByteS_any (w : World) (g : Nat) (a : Option Addr) (cap : Nat) (xs : List Int) (hr : Rd w g a .u8 xs) (hn : xs.length ≤ 1048576) :
    Calls Tryz.prog 6 #[.slice a xs.length cap] w fun e w' => e = .returned (.slice (some ⟨w.heap.size, 0, none⟩) xs.length xs.length) ∧ Blk w' w.heap.size .u8 xs ∧ Below w.heap.size w w' := by
  obtain ⟨i0, hi, hz0, hz1, hz2⟩ := info_parts Tryz.info5
  go_enter Tryz.func6, Tryz.ntmps6
  go_wp2_with (at_make; refine wpList_make_full _ rfl _ _ 22 rfl w.heap.size 5 i0 (.int .u8 0) 1 Tryz.underlying22 hi hz0 hz1 .i64 .i64 _ _ xs.length rfl rfl rfl rfl (by rw [hz2]; omega) (by unfold maxLen; omega) (Nat.le_refl _) ?_; intro w1 hown hgrow)
  have hB0 := Blk.of_made hown
  have hN0 : Below w.heap.size w w1 := (Below.refl _ _).grown hgrow (Nat.le_refl _) (by simp)
  clear hown hgrow
  go_loopw [4] (fun i wr => ∃ (k : Nat) (ys : List Int), k ≤ xs.length ∧ i = .int .i64 k ∧ CopyTo xs ys k ∧ Blk wr w.heap.size .u8 ys ∧ Below w.heap.size w wr) (fun i _ => xs.length - (intOf i).toNat)
  case atStart => exact ⟨0, _, Nat.zero_le _, rfl, CopyTo.zero xs, hB0, hN0⟩
  case round =>
    obtain ⟨k, ys, hk, rfl, hcp, hB, hN⟩ := hrel
    by_cases hlt : k < xs.length
    · obtain ⟨off, rfl, hc⟩ := hr (by omega)
      have hg := hr.lt (by omega)
      have R : CopyTo xs (ys.set k (xs.getD k 0)) (k + 1) := hcp.step hlt
      have hcx : wr.cell? ⟨g, off + k, none⟩ = some (.int .u8 (xs.getD k 0)) := (hN.cell (p := ⟨g, off + k, none⟩) hg).trans (hc k hlt)
      have hcy : wr.cell? ⟨w.heap.size, k, none⟩ = some (.int .u8 (ys.getD k 0)) := hB.cell (by rw [hcp.1]; exact hlt)
      have hfy := hB.free k
      have hB' := hB.store k (xs.getD k 0)
      have hN' : Below w.heap.size w (wr.setCell ⟨w.heap.size, k, none⟩ (.int .u8 (xs.getD k 0))) := hN.setCell (Nat.le_refl _) _
      generalize xs.getD k 0 = x at *
      clear hB hN hc hcp
      go_wp2
      go_roundw
      case rel => exact ⟨k + 1, _, by omega, by go_num, R, hB', hN'⟩
      case measure => simp [intOf]; omega
    · obtain rfl : k = xs.length := by omega
      go_wp2
      go_ret
      refine ⟨rfl, ?_, hN⟩
      rw [← hcp.all]
      exact hB

set_option maxHeartbeats 400000 in
theorem eqByteS_same (w : World) (g g' : Nat) (a b : Option Addr) (ca cb : Nat) (xs : List Int) (ha : Rd w g a .u8 xs) (hb : Rd w g' b .u8 xs) (hn : xs.length ≤ 1048576) :
    Calls Tryz.prog 9 #[.slice a xs.length ca, .slice b xs.length cb] w fun e w' => e = .returned (.bool true) ∧ Below w.heap.size w w' := by
  go_enter Tryz.func9, Tryz.ntmps9
  go_wp2
  go_loopw [5] (fun i wr => ∃ (k n : Nat), k ≤ xs.length ∧ i = .int .i64 k ∧ wr = w.drewN n) (fun i _ => xs.length - (intOf i).toNat)
  case atStart => exact ⟨0, 0, Nat.zero_le _, rfl, rfl⟩
  case round =>
    obtain ⟨k, n, hk, rfl, rfl⟩ := hrel
    by_cases hlt : k < xs.length
    · obtain ⟨off, rfl, hc⟩ := ha (by omega)
      obtain ⟨off', rfl, hc'⟩ := hb (by omega)
      have h1 := hc k hlt
      have h2 := hc' k hlt
      have hlt' : (k : Int) < (xs.length : Int) := by omega
      generalize xs.getD k 0 = x at *
      clear hc hc'
      go_wp2
      go_quiet (fail)
      go_wp2
      go_roundw
      case rel => exact ⟨k + 1, _, by omega, by go_num, rfl⟩
      case measure => simp [intOf]; omega
    · obtain rfl : k = xs.length := by omega
      go_wp2
      go_ret
      exact ⟨rfl, below_drewN (Below.refl _ _) _⟩

/-- What is marked: k, k + 1, .. as bytes. -/
def marks (k : Int) (n : Nat) : List Int := (List.range n).map fun i : Nat => (k + (i : Int)) % 256
theorem marks_len (k : Int) (n : Nat) : (marks k n).length = n := by simp [marks]
theorem marks_get (k : Int) (n i : Nat) (h : i < n) : (marks k n).getD i 0 = (k + (i : Int)) % 256 := by simp [marks, h]

/-- The first j places of ys are marked. -/
def MarkTo (k : Int) (ys : List Int) (n j : Nat) : Prop := ys.length = n ∧ ∀ i, i < j → ys.getD i 0 = (k + (i : Int)) % 256
theorem MarkTo.step {k : Int} {ys : List Int} {n j : Nat} (h : MarkTo k ys n j) (hj : j < n) : MarkTo k (ys.set j ((k + (j : Int)) % 256)) n (j + 1) := by
  refine ⟨by simpa using h.1, fun i hi => ?_⟩
  by_cases e : j = i
  · subst e
    rw [getD_set_self _ _ _ (by rw [h.1]; exact hj)]
  · rw [getD_set_ne _ _ _ _ e]
    exact h.2 i (by omega)
theorem MarkTo.all {k : Int} {ys : List Int} {n : Nat} (h : MarkTo k ys n n) : ys = marks k n :=
  eq_of_getD (by rw [h.1, marks_len]) (fun i hi => by rw [h.1] at hi; rw [h.2 i hi, marks_get k n i hi])

set_option maxHeartbeats 400000 in
theorem markByteS_any (w : World) (g : Nat) (a : Option Addr) (ca : Nat) (xs : List Int) (k : Int) (ha : Own w g a .u8 xs) (hn : xs.length ≤ 1048576) (k0 : 0 ≤ k) (k1 : k ≤ 1099511627776) :
    Calls Tryz.prog 10 #[.slice a xs.length ca, .int .i64 k] w fun e w' => e = .returned (.int .i64 (k + (xs.length : Int))) ∧ Own w' g a .u8 (marks k xs.length) ∧ Only g w w' := by
  go_enter Tryz.func10, Tryz.ntmps10
  go_wp2
  go_loopw [1, 5] (fun q i wr => ∃ (j : Nat) (ys : List Int), j ≤ xs.length ∧ i = .int .i64 j ∧ q = .int .i64 (k + (j : Int)) ∧ MarkTo k ys xs.length j ∧ Own wr g a .u8 ys ∧ Only g w wr) (fun _ i _ => xs.length - (intOf i).toNat)
  case atStart => exact ⟨0, xs, Nat.zero_le _, rfl, by go_num, ⟨rfl, fun i h => absurd h (by omega)⟩, ha, Only.refl _ _⟩
  case round =>
    obtain ⟨j, ys, hj, rfl, rfl, hm, hB, hN⟩ := hrel
    by_cases hlt : j < xs.length
    · have hl : j < ys.length := by rw [hm.1]; exact hlt
      obtain ⟨off, rfl, hc⟩ := hB (by omega)
      have R := hm.step hlt
      obtain ⟨h1, h2⟩ := hc j hl
      have hB' := hB.store j hl ((k + (j : Int)) % 256)
      have hN' := hN.trans (Only.setCell wr g (off + j) (.int .u8 ((k + (j : Int)) % 256)))
      clear hB hN hc hm ha
      go_wp2
      go_roundw
      case rel => exact ⟨j + 1, _, by omega, by go_num, by go_num, R, hB', hN'⟩
      case measure => simp [intOf]; omega
    · obtain rfl : j = xs.length := by omega
      go_wp2
      go_ret
      refine ⟨rfl, ?_, hN⟩
      rw [← hm.all]
      exact hB

set_option maxHeartbeats 400000 in
theorem heldByteS_any (w : World) (g : Nat) (a : Option Addr) (ca n : Nat) (k : Int) (ha : Rd w g a .u8 (marks k n)) (hn : n ≤ 1048576) (k0 : 0 ≤ k) (k1 : k ≤ 1099511627776) :
    Calls Tryz.prog 33 #[.slice a n ca, .int .i64 k] w fun e w' => e = .returned (.int .i64 (k + (n : Int))) ∧ w' = w := by
  go_enter Tryz.func33, Tryz.ntmps33
  go_wp2
  go_loop [1, 5] (fun q i => ∃ (j : Nat), j ≤ n ∧ i = .int .i64 j ∧ q = .int .i64 (k + (j : Int))) (fun _ i => n - (intOf i).toNat)
  case atStart => exact ⟨0, Nat.zero_le _, rfl, by go_num⟩
  case round =>
    obtain ⟨j, hj, rfl, rfl⟩ := hrel
    by_cases hlt : j < n
    · obtain ⟨off, rfl, hc⟩ := ha (by rw [marks_len]; omega)
      have h1 := hc j (by rw [marks_len]; exact hlt)
      rw [marks_get k n j hlt] at h1
      clear hc
      go_wp2
      go_round
      case rel => exact ⟨j + 1, by omega, by go_num, by go_num⟩
      case measure => simp [intOf]; omega
    · obtain rfl : j = n := by omega
      go_wp2
      go_ret
      exact ⟨rfl, rfl⟩
end Go.Proofs.YtflecleofaeiiaaGreat

/-
  What is drawn: the source, its answers, bytes; the laws' own small helpers (Dr without the field's texts).
-/
namespace Go.Proofs.YtflecleofaeiiaaGreat
open Go.RowKit

/-- Of what was there nothing but block g has turned. -/
structure But (g : Nat) (w w' : World) : Prop where
  os : w'.os = w.os
  tape : w'.tape = w.tape
  output : w'.output = w.output
  size : w.heap.size ≤ w'.heap.size
  block : ∀ k, k < w.heap.size → k ≠ g → w'.heap[k]? = w.heap[k]?

theorem But.of {g : Nat} {a b c : World} (h : Below a.heap.size a b) (k : Only g b c) : But g a c :=
  ⟨k.os.trans h.os, k.tape.trans h.tape, k.output.trans h.output, by rw [k.size]; exact h.size, fun i hi hne => (k.block i hne).trans (h.block i hi)⟩

theorem But.below {g B : Nat} {w w' : World} (h : But g w w') (hB : B ≤ g) (hs : B ≤ w.heap.size) : Below B w w' := ⟨h.os, h.tape, h.output, h.size, fun k hk => h.block k (by omega) (by omega)⟩

theorem Own.but {w w' : World} {g g' : Nat} {a : Option Addr} {k : IntKind} {xs : List Int} (h : Own w g a k xs) (ho : But g' w w') (hne : 0 < xs.length → g ≠ g') : Own w' g a k xs := by
  by_cases h0 : 0 < xs.length
  · exact h.of_block (ho.block g (h.rd.lt h0) (hne h0))
  · exact fun h1 => absurd h1 h0

/-- The text of bytes. -/
def str (xs : List Int) : ByteArray := xs.foldl (fun r n => r.push (UInt8.ofNat n.toNat)) ByteArray.empty

theorem conv_run (w : World) (g : Nat) (a : Option Addr) (c : Nat) (xs : List Int) (hr : Rd w g a .u8 xs) : (convert 22 9 (.slice a xs.length c)).run Tryz.prog w = .ok (.string (str xs)) w := by
  rw [run_convert_bytes_string w 22 9 5 a xs.length c Tryz.underlying22 Tryz.underlying5 Tryz.underlying9]
  cases a with
  | none =>
    obtain rfl : xs = [] := by
      by_cases h0 : 0 < xs.length
      · obtain ⟨off, h, _⟩ := hr h0
        simp at h
      · exact List.eq_nil_of_length_eq_zero (by omega)
    simp [Conv.bytesToString, str]
  | some ad =>
    have hl := run_loadCells_list (P := Tryz.prog) w ad (xs.map (Value.int .u8)) (fun j v hj => by
      have hjl : j < xs.length := by
        have := (List.getElem?_eq_some_iff.1 hj).1
        simpa using this
      obtain ⟨off, ha, hcc⟩ := hr (by omega)
      simp only [Option.some.injEq] at ha
      subst ha
      rw [add_mid, hcc j hjl]
      simpa [hjl] using hj)
    rw [List.length_map] at hl
    exact run_bytesToString w ad xs.length c xs hl

/-- The source of what is drawn: its code, and how often it was asked. -/
structure Src (w : World) (s : Nat) (a : Option Addr) (n c : Nat) (at_ : Int) : Prop where
  code : w.cell? ⟨s, 0, none⟩ = some (.slice a n c)
  at_ : w.cell? ⟨s, 1, none⟩ = some (.int .i64 at_)
  free : w.frozen? ⟨s, 1, none⟩ = false

theorem Src.lt {w : World} {s : Nat} {a : Option Addr} {n c : Nat} {t : Int} (h : Src w s a n c t) : s < w.heap.size := block_lt_of_cell h.code

theorem Src.of_block {w w' : World} {s : Nat} {a : Option Addr} {n c : Nat} {t : Int} (h : Src w s a n c t) (hb : w'.heap[s]? = w.heap[s]?) : Src w' s a n c t :=
  ⟨(World.cell?_of_block (a := ⟨s, 0, none⟩) hb).trans h.code, (World.cell?_of_block (a := ⟨s, 1, none⟩) hb).trans h.at_, (World.frozen?_of_block (a := ⟨s, 1, none⟩) hb).trans h.free⟩

theorem Src.up {w w' : World} {s : Nat} {a : Option Addr} {n c : Nat} {t : Int} (h : Src w s a n c t) (hb : Below w.heap.size w w') : Src w' s a n c t := h.of_block (hb.block s h.lt)

theorem Src.step {w : World} {s : Nat} {a : Option Addr} {n c : Nat} {t : Int} (h : Src w s a n c t) (u : Int) (m : Nat) : Src ((w.setCell ⟨s, 1, none⟩ (.int .i64 u)).drewN m) s a n c u := by
  refine ⟨?_, ?_, ?_⟩
  · rw [World.cell?_drewN, World.cell?_setCell_other (h := by simp)]; exact h.code
  · rw [World.cell?_drewN, World.cell?_setCell_same _ _ _ h.at_]
  · rw [World.frozen?_drewN, World.frozen?_setCell]; exact h.free

theorem Only.step (w : World) (s : Nat) (u : Value) (m : Nat) : Only s w ((w.setCell ⟨s, 1, none⟩ u).drewN m) := (Only.setCell w s 1 u).trans (Only.drewN _ _ _)

theorem But.refl (g : Nat) (w : World) : But g w w := ⟨rfl, rfl, rfl, Nat.le_refl _, fun _ _ _ => rfl⟩

theorem But.only {g : Nat} {a b c : World} (h : But g a b) (k : Only g b c) : But g a c :=
  ⟨k.os.trans h.os, k.tape.trans h.tape, k.output.trans h.output, by rw [k.size]; exact h.size, fun i hi hne => (k.block i hne).trans (h.block i hi hne)⟩

theorem But.grown {g : Nat} {a b c : World} {row : Option Nat} (h : But g a b) (k : b.grownBy c row) (hr : ∀ i, row = some i → a.heap.size ≤ i) : But g a c :=
  ⟨k.os.trans h.os, k.tape.trans h.tape, k.output.trans h.output, Nat.le_trans h.size k.size, fun i hi hne => (k.block i (Nat.lt_of_lt_of_le hi h.size) (fun e => by have := hr i e.symm; omega)).trans (h.block i hi hne)⟩

theorem But.trans {g : Nat} {a b c : World} (h : But g a b) (k : But g b c) : But g a c :=
  ⟨k.os.trans h.os, k.tape.trans h.tape, k.output.trans h.output, Nat.le_trans h.size k.size, fun i hi hne => (k.block i (Nat.lt_of_lt_of_le hi h.size) hne).trans (h.block i hi hne)⟩

theorem But.ofBelow {g : Nat} {a b : World} (h : Below a.heap.size a b) : But g a b := ⟨h.os, h.tape, h.output, h.size, fun i hi _ => h.block i hi⟩

theorem But.ofOnly {g : Nat} {a b : World} (h : Only g a b) : But g a b := (But.refl g a).only h

theorem Rd.but {w w' : World} {g g' : Nat} {a : Option Addr} {k : IntKind} {xs : List Int} (h : Rd w g a k xs) (ho : But g' w w') (hne : 0 < xs.length → g ≠ g') : Rd w' g a k xs := by
  by_cases h0 : 0 < xs.length
  · exact h.of_block (ho.block g (h.lt h0) (hne h0))
  · exact fun h1 => absurd h1 h0

theorem Only.grown {g : Nat} {a b : World} (h : Only g a b) : a.grownBy b (some g) := ⟨h.os, h.tape, h.output, Nat.le_of_eq h.size.symm, fun k _ hne => h.block k (fun e => hne (by rw [e]))⟩

theorem byt_snoc {ys : List Int} (h : Byt ys) (x : Int) (h0 : 0 ≤ x) (h1 : x < 256) : Byt (ys ++ [x]) := by
  intro i
  by_cases hi : i < ys.length
  · have := h i
    simpa [List.getElem?_append, hi] using this
  · by_cases e : i = ys.length
    · subst e; simp; exact ⟨h0, h1⟩
    · rw [List.getD_eq_getElem?_getD, List.getElem?_eq_none (by simp; omega)]
      decide

theorem But.setCell {g b off : Nat} {a w : World} {u : Value} (h : But g a w) (hb : a.heap.size ≤ b) : But g a (w.setCell ⟨b, off, none⟩ u) :=
  ⟨h.os, h.tape, h.output, by simpa [World.setCell] using h.size, fun k hk hne => (heap_setCell_other w ⟨b, off, none⟩ k u (by show k ≠ b; omega)).trans (h.block k hk hne)⟩

/-- A row that the call made: where it lies, and that it may be read again. -/
def Row (w : World) (g : Nat) (a : Option Addr) (c : Nat) (xs : List Int) : Prop := Own w g a .u8 xs ∧ (a = none → c = 0) ∧ xs.length ≤ c

end Go.Proofs.YtflecleofaeiiaaGreat
