
/-
  Messages: the registry of the kinds.
-/
import Derived.Test.YtfckjoheiabfoaaMgD
import Derived.WideMake
namespace Go.Proofs.Ytfckjoheiabfoaa
open Go Go.RowKit

theorem mapPut (w : World) (r clock : Nat) (es : Array MapEntry) (k : Int) (val : Value) (hb : w.heap[r]? = some (.map es clock)) (hf : Instr.findNow (.int .i64) (.int .i64 k) es.toList 0 = some none) :
    ∃ w', (Instr.mapUpdate 62 (.map (some r)) (.int .i64 k) val).run Try.prog w = .ok () w' ∧ w'.heap[r]? = some (.map (es.push { key := .int .i64 k, val := val, born := clock }) (clock + 1)) ∧ Only r w w' := by
  have hm := Try.underlying62
  have hk : Try.prog.underlying 2 = some (.int .i64) := by kernel_rfl
  have hc : (Instr.checkKey false 10000 2 (.int .i64 k)).run Try.prog w = .ok () w := MapKept.run_checkKey (k := .int .i64 k) hk (by simp [MapKept.IsKey]) false 9999
  have hr : r < w.heap.size := (Array.getElem?_eq_some_iff.1 hb).1
  refine ⟨{ w with heap := w.heap.setIfInBounds r (.map (es.push { key := .int .i64 k, val := val, born := clock }) (clock + 1)) }, ?_, ?_, ?_⟩
  · simp [Instr.mapUpdate, run_underlying hm, MapKept.run_getObj_map hb, hc, MapKept.run_findKey hk hf, MapKept.run_setObj_map _ hb, Result.andThen]
  · show (w.heap.setIfInBounds r _)[r]? = _
    rw [Array.getElem?_setIfInBounds_self, if_pos hr]
  · exact ⟨rfl, rfl, rfl, by simp, fun g hg => by
      show (w.heap.setIfInBounds r _)[g]? = _
      rw [Array.getElem?_setIfInBounds_ne (Ne.symm hg)]⟩
/-- The registry's entries. -/
def regE : Array MapEntry := #[{ key := .int .i64 1, val := .func (Fn.func 32) #[] #[], born := 0 }, { key := .int .i64 2, val := .func (Fn.func 33) #[] #[], born := 1 }, { key := .int .i64 4, val := .func (Fn.func 34) #[] #[], born := 2 }, { key := .int .i64 5, val := .func (Fn.func 35) #[] #[], born := 3 }, { key := .int .i64 8, val := .func (Fn.func 36) #[] #[], born := 4 }, { key := .int .i64 11, val := .func (Fn.func 37) #[] #[], born := 5 }, { key := .int .i64 15, val := .func (Fn.func 38) #[] #[], born := 6 }, { key := .int .i64 20, val := .func (Fn.func 39) #[] #[], born := 7 }, { key := .int .i64 24, val := .func (Fn.func 40) #[] #[], born := 8 }]
set_option maxRecDepth 20000 in
set_option maxHeartbeats 1000000 in
theorem messageKinds_any (w : World) : Calls Try.prog 28 #[] w fun e w' => e = .returned (.map (some w.heap.size)) ∧ w'.heap[w.heap.size]? = some (.map regE 9) ∧ Below w.heap.size w w' := by
  have hmm := @run_makeMap Try.prog
  have b0 : (w.alloc (.map #[] 0)).heap[w.heap.size]? = some (.map #[] 0) := heap_alloc_new w _
  have n0 : Below w.heap.size w (w.alloc (.map #[] 0)) := (Below.refl _ _).alloc (Nat.le_refl _) _
  obtain ⟨w1, u1, b1, o1⟩ := mapPut (w.alloc (.map #[] 0)) w.heap.size 0 #[] 1 (.func (Fn.func 32) #[] #[]) b0 rfl
  have n1 := n0.trans (o1.below (Nat.le_refl _))
  obtain ⟨w2, u2, b2, o2⟩ := mapPut w1 w.heap.size 1 #[{ key := .int .i64 1, val := .func (Fn.func 32) #[] #[], born := 0 }] 2 (.func (Fn.func 33) #[] #[]) b1 rfl
  have n2 := n1.trans (o2.below (Nat.le_refl _))
  obtain ⟨w3, u3, b3, o3⟩ := mapPut w2 w.heap.size 2 #[{ key := .int .i64 1, val := .func (Fn.func 32) #[] #[], born := 0 }, { key := .int .i64 2, val := .func (Fn.func 33) #[] #[], born := 1 }] 4 (.func (Fn.func 34) #[] #[]) b2 rfl
  have n3 := n2.trans (o3.below (Nat.le_refl _))
  obtain ⟨w4, u4, b4, o4⟩ := mapPut w3 w.heap.size 3 #[{ key := .int .i64 1, val := .func (Fn.func 32) #[] #[], born := 0 }, { key := .int .i64 2, val := .func (Fn.func 33) #[] #[], born := 1 }, { key := .int .i64 4, val := .func (Fn.func 34) #[] #[], born := 2 }] 5 (.func (Fn.func 35) #[] #[]) b3 rfl
  have n4 := n3.trans (o4.below (Nat.le_refl _))
  obtain ⟨w5, u5, b5, o5⟩ := mapPut w4 w.heap.size 4 #[{ key := .int .i64 1, val := .func (Fn.func 32) #[] #[], born := 0 }, { key := .int .i64 2, val := .func (Fn.func 33) #[] #[], born := 1 }, { key := .int .i64 4, val := .func (Fn.func 34) #[] #[], born := 2 }, { key := .int .i64 5, val := .func (Fn.func 35) #[] #[], born := 3 }] 8 (.func (Fn.func 36) #[] #[]) b4 rfl
  have n5 := n4.trans (o5.below (Nat.le_refl _))
  obtain ⟨w6, u6, b6, o6⟩ := mapPut w5 w.heap.size 5 #[{ key := .int .i64 1, val := .func (Fn.func 32) #[] #[], born := 0 }, { key := .int .i64 2, val := .func (Fn.func 33) #[] #[], born := 1 }, { key := .int .i64 4, val := .func (Fn.func 34) #[] #[], born := 2 }, { key := .int .i64 5, val := .func (Fn.func 35) #[] #[], born := 3 }, { key := .int .i64 8, val := .func (Fn.func 36) #[] #[], born := 4 }] 11 (.func (Fn.func 37) #[] #[]) b5 rfl
  have n6 := n5.trans (o6.below (Nat.le_refl _))
  obtain ⟨w7, u7, b7, o7⟩ := mapPut w6 w.heap.size 6 #[{ key := .int .i64 1, val := .func (Fn.func 32) #[] #[], born := 0 }, { key := .int .i64 2, val := .func (Fn.func 33) #[] #[], born := 1 }, { key := .int .i64 4, val := .func (Fn.func 34) #[] #[], born := 2 }, { key := .int .i64 5, val := .func (Fn.func 35) #[] #[], born := 3 }, { key := .int .i64 8, val := .func (Fn.func 36) #[] #[], born := 4 }, { key := .int .i64 11, val := .func (Fn.func 37) #[] #[], born := 5 }] 15 (.func (Fn.func 38) #[] #[]) b6 rfl
  have n7 := n6.trans (o7.below (Nat.le_refl _))
  obtain ⟨w8, u8, b8, o8⟩ := mapPut w7 w.heap.size 7 #[{ key := .int .i64 1, val := .func (Fn.func 32) #[] #[], born := 0 }, { key := .int .i64 2, val := .func (Fn.func 33) #[] #[], born := 1 }, { key := .int .i64 4, val := .func (Fn.func 34) #[] #[], born := 2 }, { key := .int .i64 5, val := .func (Fn.func 35) #[] #[], born := 3 }, { key := .int .i64 8, val := .func (Fn.func 36) #[] #[], born := 4 }, { key := .int .i64 11, val := .func (Fn.func 37) #[] #[], born := 5 }, { key := .int .i64 15, val := .func (Fn.func 38) #[] #[], born := 6 }] 20 (.func (Fn.func 39) #[] #[]) b7 rfl
  have n8 := n7.trans (o8.below (Nat.le_refl _))
  obtain ⟨w9, u9, b9, o9⟩ := mapPut w8 w.heap.size 8 #[{ key := .int .i64 1, val := .func (Fn.func 32) #[] #[], born := 0 }, { key := .int .i64 2, val := .func (Fn.func 33) #[] #[], born := 1 }, { key := .int .i64 4, val := .func (Fn.func 34) #[] #[], born := 2 }, { key := .int .i64 5, val := .func (Fn.func 35) #[] #[], born := 3 }, { key := .int .i64 8, val := .func (Fn.func 36) #[] #[], born := 4 }, { key := .int .i64 11, val := .func (Fn.func 37) #[] #[], born := 5 }, { key := .int .i64 15, val := .func (Fn.func 38) #[] #[], born := 6 }, { key := .int .i64 20, val := .func (Fn.func 39) #[] #[], born := 7 }] 24 (.func (Fn.func 40) #[] #[]) b8 rfl
  have n9 := n8.trans (o9.below (Nat.le_refl _))
  have B9 : Hid (w9.heap[w.heap.size]? = some (.map regE 9)) := b9
  have N9 := hide n9
  clear b0 n0 b1 n1 b2 n2 b3 n3 b4 n4 b5 n5 b6 n6 b7 n7 b8 n8 b9 n9 o1 o2 o3 o4 o5 o6 o7 o8 o9
  go_enter Try.func28, Try.ntmps28
  go_wp2
  go_ret
  exact ⟨rfl, B9.out, N9.out⟩
/-- What the registry has for a kind. -/
def regV (k : Int) : Value := if k = 1 then .func (Fn.func 32) #[] #[] else if k = 2 then .func (Fn.func 33) #[] #[] else if k = 4 then .func (Fn.func 34) #[] #[] else if k = 5 then .func (Fn.func 35) #[] #[] else if k = 8 then .func (Fn.func 36) #[] #[] else if k = 11 then .func (Fn.func 37) #[] #[] else if k = 15 then .func (Fn.func 38) #[] #[] else if k = 20 then .func (Fn.func 39) #[] #[] else if k = 24 then .func (Fn.func 40) #[] #[] else .nilFunc
theorem regLook (w : World) (q : Nat) (hb : w.heap[q]? = some (.map regE 9)) (k : Int) : (Instr.lookup 62 (.map (some q)) (.int .i64 k) false).run Try.prog w = .ok (regV k) w := by
  have hm := Try.underlying62
  have hk : Try.prog.underlying 2 = some (.int .i64) := by kernel_rfl
  have hc : (Instr.checkKey regE.isEmpty 10000 2 (.int .i64 k)).run Try.prog w = .ok () w := MapKept.run_checkKey (k := .int .i64 k) hk (by simp [MapKept.IsKey]) regE.isEmpty 9999
  by_cases k0 : k = 1
  · subst k0
    have h1 : Instr.findNow (.int .i64) (.int .i64 1) regE.toList 0 = some (some (0, .func (Fn.func 32) #[] #[])) := rfl
    rw [show regV 1 = .func (Fn.func 32) #[] #[] from rfl]
    simp [Instr.lookup, run_underlying hm, MapKept.run_getObj_map hb, hc, MapKept.run_findKey hk h1, Result.andThen]
  by_cases k1 : k = 2
  · subst k1
    have h1 : Instr.findNow (.int .i64) (.int .i64 2) regE.toList 0 = some (some (1, .func (Fn.func 33) #[] #[])) := rfl
    rw [show regV 2 = .func (Fn.func 33) #[] #[] from rfl]
    simp [Instr.lookup, run_underlying hm, MapKept.run_getObj_map hb, hc, MapKept.run_findKey hk h1, Result.andThen]
  by_cases k2 : k = 4
  · subst k2
    have h1 : Instr.findNow (.int .i64) (.int .i64 4) regE.toList 0 = some (some (2, .func (Fn.func 34) #[] #[])) := rfl
    rw [show regV 4 = .func (Fn.func 34) #[] #[] from rfl]
    simp [Instr.lookup, run_underlying hm, MapKept.run_getObj_map hb, hc, MapKept.run_findKey hk h1, Result.andThen]
  by_cases k3 : k = 5
  · subst k3
    have h1 : Instr.findNow (.int .i64) (.int .i64 5) regE.toList 0 = some (some (3, .func (Fn.func 35) #[] #[])) := rfl
    rw [show regV 5 = .func (Fn.func 35) #[] #[] from rfl]
    simp [Instr.lookup, run_underlying hm, MapKept.run_getObj_map hb, hc, MapKept.run_findKey hk h1, Result.andThen]
  by_cases k4 : k = 8
  · subst k4
    have h1 : Instr.findNow (.int .i64) (.int .i64 8) regE.toList 0 = some (some (4, .func (Fn.func 36) #[] #[])) := rfl
    rw [show regV 8 = .func (Fn.func 36) #[] #[] from rfl]
    simp [Instr.lookup, run_underlying hm, MapKept.run_getObj_map hb, hc, MapKept.run_findKey hk h1, Result.andThen]
  by_cases k5 : k = 11
  · subst k5
    have h1 : Instr.findNow (.int .i64) (.int .i64 11) regE.toList 0 = some (some (5, .func (Fn.func 37) #[] #[])) := rfl
    rw [show regV 11 = .func (Fn.func 37) #[] #[] from rfl]
    simp [Instr.lookup, run_underlying hm, MapKept.run_getObj_map hb, hc, MapKept.run_findKey hk h1, Result.andThen]
  by_cases k6 : k = 15
  · subst k6
    have h1 : Instr.findNow (.int .i64) (.int .i64 15) regE.toList 0 = some (some (6, .func (Fn.func 38) #[] #[])) := rfl
    rw [show regV 15 = .func (Fn.func 38) #[] #[] from rfl]
    simp [Instr.lookup, run_underlying hm, MapKept.run_getObj_map hb, hc, MapKept.run_findKey hk h1, Result.andThen]
  by_cases k7 : k = 20
  · subst k7
    have h1 : Instr.findNow (.int .i64) (.int .i64 20) regE.toList 0 = some (some (7, .func (Fn.func 39) #[] #[])) := rfl
    rw [show regV 20 = .func (Fn.func 39) #[] #[] from rfl]
    simp [Instr.lookup, run_underlying hm, MapKept.run_getObj_map hb, hc, MapKept.run_findKey hk h1, Result.andThen]
  by_cases k8 : k = 24
  · subst k8
    have h1 : Instr.findNow (.int .i64) (.int .i64 24) regE.toList 0 = some (some (8, .func (Fn.func 40) #[] #[])) := rfl
    rw [show regV 24 = .func (Fn.func 40) #[] #[] from rfl]
    simp [Instr.lookup, run_underlying hm, MapKept.run_getObj_map hb, hc, MapKept.run_findKey hk h1, Result.andThen]
  have h1 : Instr.findNow (.int .i64) (.int .i64 k) regE.toList 0 = some none := by
    rcases MapKept.findNow_spec (d := .int .i64) (k := .int .i64 k) (by simp [MapKept.IsKey]) regE.toList 0 (by simp [regE, MapKept.IsKey]) with ⟨h, -⟩ | ⟨j, e, -, h2, h3⟩
    · exact h
    · exfalso
      have hm := List.mem_of_getElem? h2
      simp only [regE, List.mem_cons, List.not_mem_nil, or_false] at hm
      rcases hm with rfl | rfl | rfl | rfl | rfl | rfl | rfl | rfl | rfl <;> simp at h3 <;> omega
  have hv : regV k = .nilFunc := by unfold regV; rw [if_neg k0, if_neg k1, if_neg k2, if_neg k3, if_neg k4, if_neg k5, if_neg k6, if_neg k7, if_neg k8]
  have hz : (zeroValue 60).run Try.prog w = .ok .nilFunc w := by kernel_rfl
  rw [hv]
  simp [Instr.lookup, run_underlying hm, MapKept.run_getObj_map hb, hc, MapKept.run_findKey hk h1, hz, Result.andThen]
end Go.Proofs.Ytfckjoheiabfoaa
