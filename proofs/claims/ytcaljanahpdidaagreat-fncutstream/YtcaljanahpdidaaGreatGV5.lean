import Derived.Test.YtcaljanahpdidaaGreatGV4
import Derived.WideMake
import Derived.Test.YtcaljanahpdidaaGreatGV2
namespace Go.Proofs.YtcaljanahpdidaaGreat
open Go Go.RowKit
theorem mapPut (w : World) (r clock : Nat) (es : Array MapEntry) (k : Int) (val : Value) (hb : w.heap[r]? = some (.map es clock)) (hf : Instr.findNow (.int .i64) (.int .i64 k) es.toList 0 = some none) :
    ∃ w', (Instr.mapUpdate 54 (.map (some r)) (.int .i64 k) val).run Tryz.prog w = .ok () w' ∧ w'.heap[r]? = some (.map (es.push { key := .int .i64 k, val := val, born := clock }) (clock + 1)) ∧ Only r w w' := by
  have hm := Tryz.underlying54
  have hk : Tryz.prog.underlying 2 = some (.int .i64) := by kernel_rfl
  have hc : (Instr.checkKey false 10000 2 (.int .i64 k)).run Tryz.prog w = .ok () w := MapKept.run_checkKey (k := .int .i64 k) hk (by simp [MapKept.IsKey]) false 9999
  have hr : r < w.heap.size := (Array.getElem?_eq_some_iff.1 hb).1
  refine ⟨{ w with heap := w.heap.setIfInBounds r (.map (es.push { key := .int .i64 k, val := val, born := clock }) (clock + 1)) }, ?_, ?_, ?_⟩
  · simp [Instr.mapUpdate, run_underlying hm, MapKept.run_getObj_map hb, hc, MapKept.run_findKey hk hf, MapKept.run_setObj_map _ hb, Result.andThen]
  · show (w.heap.setIfInBounds r _)[r]? = _
    rw [Array.getElem?_setIfInBounds_self, if_pos hr]
  · exact ⟨rfl, rfl, rfl, by simp, fun g hg => by
      show (w.heap.setIfInBounds r _)[g]? = _
      rw [Array.getElem?_setIfInBounds_ne (Ne.symm hg)]⟩
def regE : Array MapEntry := #[{ key := .int .i64 1, val := .func (Fn.func 32) #[] #[], born := 0 }, { key := .int .i64 2, val := .func (Fn.func 33) #[] #[], born := 1 }, { key := .int .i64 4, val := .func (Fn.func 34) #[] #[], born := 2 }, { key := .int .i64 5, val := .func (Fn.func 35) #[] #[], born := 3 }, { key := .int .i64 8, val := .func (Fn.func 36) #[] #[], born := 4 }, { key := .int .i64 11, val := .func (Fn.func 37) #[] #[], born := 5 }, { key := .int .i64 15, val := .func (Fn.func 38) #[] #[], born := 6 }, { key := .int .i64 20, val := .func (Fn.func 39) #[] #[], born := 7 }, { key := .int .i64 24, val := .func (Fn.func 40) #[] #[], born := 8 }]
set_option maxRecDepth 20000 in
set_option maxHeartbeats 1000000 in
theorem messageKinds_any (w : World) : Calls Tryz.prog 21 #[] w fun e w' => e = .returned (.map (some w.heap.size)) ∧ w'.heap[w.heap.size]? = some (.map regE 9) ∧ Below w.heap.size w w' := by
  have hmm := @run_makeMap Tryz.prog
  have b0 : (w.alloc (.map #[] 0)).heap[w.heap.size]? = some (.map #[] 0) := heap_alloc_new w _
  have n0 : Below w.heap.size w (w.alloc (.map #[] 0)) := (Below.refl _ _).alloc (Nat.le_refl _) _
  obtain ⟨w1, u1, b1, o1⟩ := mapPut (w.alloc (.map #[] 0)) w.heap.size 0 #[] 1 (.func (Fn.func 32) #[] #[]) b0 rfl
  have n1 := n0.trans (o1.below (Nat.le_refl _))
  obtain ⟨w2, u2, b2, o2⟩ := mapPut w1 w.heap.size 1 #[{ key := .int .i64 1, val := .func (Fn.func 32) #[] #[], born := 0 }] 2 (.func (Fn.func 33) #[] #[]) b1 rfl
  have n2 := n1.trans (o2.below (Nat.le_refl _))
  obtain ⟨w3, u3, b3, o3⟩ := mapPut w2 w.heap.size 2 #[{ key := .int .i64 1, val := .func (Fn.func 32) #[] #[], born := 0 }, { key := .int .i64 2, val := .func (Fn.func 33) #[] #[], born := 1 }] 4 (.func (Fn.func 34) #[] #[]) b2 rfl
  have n3 := n2.trans (o3.below (Nat.le_refl _))
  obtain ⟨w4, u4, b4, o4⟩ := mapPut w3 w.heap.size 3 #[{ key := .int .i64 1, val := .func (Fn.func 32) #[] #[], born := 0 }, { key := .int .i64 2, val := .func (Fn.func 33) #[] #[], born := 1 }, { key := .int .i64 4, val := .func (Fn.func 34) #[] #[], born := 2 }] 5 (.func (Fn.func 35) #[] #[]) b3 rfl
  have n4 := n3.trans (o4.below (Nat.le_refl _))
  obtain ⟨w5, u5, b5, o5⟩ := mapPut w4 w.heap.size 4 #[{ key := .int .i64 1, val := .func (Fn.func 32) #[] #[], born := 0 }, { key := .int .i64 2, val := .func (Fn.func 33) #[] #[], born := 1 }, { key := .int .i64 4, val := .func (Fn.func 34) #[] #[], born := 2 }, { key := .int .i64 5, val := .func (Fn.func 35) #[] #[], born := 3 }] 8 (.func (Fn.func 36) #[] #[]) b4 rfl
  have n5 := n4.trans (o5.below (Nat.le_refl _))
  obtain ⟨w6, u6, b6, o6⟩ := mapPut w5 w.heap.size 5 #[{ key := .int .i64 1, val := .func (Fn.func 32) #[] #[], born := 0 }, { key := .int .i64 2, val := .func (Fn.func 33) #[] #[], born := 1 }, { key := .int .i64 4, val := .func (Fn.func 34) #[] #[], born := 2 }, { key := .int .i64 5, val := .func (Fn.func 35) #[] #[], born := 3 }, { key := .int .i64 8, val := .func (Fn.func 36) #[] #[], born := 4 }] 11 (.func (Fn.func 37) #[] #[]) b5 rfl
  have n6 := n5.trans (o6.below (Nat.le_refl _))
  obtain ⟨w7, u7, b7, o7⟩ := mapPut w6 w.heap.size 6 #[{ key := .int .i64 1, val := .func (Fn.func 32) #[] #[], born := 0 }, { key := .int .i64 2, val := .func (Fn.func 33) #[] #[], born := 1 }, { key := .int .i64 4, val := .func (Fn.func 34) #[] #[], born := 2 }, { key := .int .i64 5, val := .func (Fn.func 35) #[] #[], born := 3 }, { key := .int .i64 8, val := .func (Fn.func 36) #[] #[], born := 4 }, { key := .int .i64 11, val := .func (Fn.func 37) #[] #[], born := 5 }] 15 (.func (Fn.func 38) #[] #[]) b6 rfl
  have n7 := n6.trans (o7.below (Nat.le_refl _))
  obtain ⟨w8, u8, b8, o8⟩ := mapPut w7 w.heap.size 7 #[{ key := .int .i64 1, val := .func (Fn.func 32) #[] #[], born := 0 }, { key := .int .i64 2, val := .func (Fn.func 33) #[] #[], born := 1 }, { key := .int .i64 4, val := .func (Fn.func 34) #[] #[], born := 2 }, { key := .int .i64 5, val := .func (Fn.func 35) #[] #[], born := 3 }, { key := .int .i64 8, val := .func (Fn.func 36) #[] #[], born := 4 }, { key := .int .i64 11, val := .func (Fn.func 37) #[] #[], born := 5 }, { key := .int .i64 15, val := .func (Fn.func 38) #[] #[], born := 6 }] 20 (.func (Fn.func 39) #[] #[]) b7 rfl
  have n8 := n7.trans (o8.below (Nat.le_refl _))
  obtain ⟨w9, u9, b9, o9⟩ := mapPut w8 w.heap.size 8 #[{ key := .int .i64 1, val := .func (Fn.func 32) #[] #[], born := 0 }, { key := .int .i64 2, val := .func (Fn.func 33) #[] #[], born := 1 }, { key := .int .i64 4, val := .func (Fn.func 34) #[] #[], born := 2 }, { key := .int .i64 5, val := .func (Fn.func 35) #[] #[], born := 3 }, { key := .int .i64 8, val := .func (Fn.func 36) #[] #[], born := 4 }, { key := .int .i64 11, val := .func (Fn.func 37) #[] #[], born := 5 }, { key := .int .i64 15, val := .func (Fn.func 38) #[] #[], born := 6 }, { key := .int .i64 20, val := .func (Fn.func 39) #[] #[], born := 7 }] 24 (.func (Fn.func 40) #[] #[]) b8 rfl
  have n9 := n8.trans (o9.below (Nat.le_refl _))
  have B9 : Hid (w9.heap[w.heap.size]? = some (.map regE 9)) := b9
  have N9 := hide n9
  clear b0 n0 b1 n1 b2 n2 b3 n3 b4 n4 b5 n5 b6 n6 b7 n7 b8 n8 b9 n9 o1 o2 o3 o4 o5 o6 o7 o8 o9
  go_enter Tryz.func21, Tryz.ntmps21
  go_wp2
  go_ret
  exact ⟨rfl, B9.out, N9.out⟩
def regV (k : Int) : Value := if k = 1 then .func (Fn.func 32) #[] #[] else if k = 2 then .func (Fn.func 33) #[] #[] else if k = 4 then .func (Fn.func 34) #[] #[] else if k = 5 then .func (Fn.func 35) #[] #[] else if k = 8 then .func (Fn.func 36) #[] #[] else if k = 11 then .func (Fn.func 37) #[] #[] else if k = 15 then .func (Fn.func 38) #[] #[] else if k = 20 then .func (Fn.func 39) #[] #[] else if k = 24 then .func (Fn.func 40) #[] #[] else .nilFunc
theorem regLook (w : World) (q : Nat) (hb : w.heap[q]? = some (.map regE 9)) (k : Int) : (Instr.lookup 54 (.map (some q)) (.int .i64 k) false).run Tryz.prog w = .ok (regV k) w := by
  have hm := Tryz.underlying54
  have hk : Tryz.prog.underlying 2 = some (.int .i64) := by kernel_rfl
  have hc : (Instr.checkKey regE.isEmpty 10000 2 (.int .i64 k)).run Tryz.prog w = .ok () w := MapKept.run_checkKey (k := .int .i64 k) hk (by simp [MapKept.IsKey]) regE.isEmpty 9999
  by_cases k0 : k = 1
  · subst k0
    have h1 : Instr.findNow (.int .i64) (.int .i64 1) regE.toList 0 = some (some (0, .func (Fn.func 32) #[] #[])) := rfl
    rw [show regV 1 = .func (Fn.func 32) #[] #[] from rfl]
    simp [Instr.lookup, run_underlying hm, MapKept.run_getObj_map hb, hc, MapKept.run_findKey hk h1, Result.andThen]
  by_cases k1 : k = 2
  · subst k1
    have h1 : Instr.findNow (.int .i64) (.int .i64 2) regE.toList 0 = some (some (1, .func (Fn.func 33) #[] #[])) := rfl
    rw [show regV 2 = .func (Fn.func 33) #[] #[] from rfl]
    simp [Instr.lookup, run_underlying hm, MapKept.run_getObj_map hb, hc, MapKept.run_findKey hk h1, Result.andThen]
  by_cases k2 : k = 4
  · subst k2
    have h1 : Instr.findNow (.int .i64) (.int .i64 4) regE.toList 0 = some (some (2, .func (Fn.func 34) #[] #[])) := rfl
    rw [show regV 4 = .func (Fn.func 34) #[] #[] from rfl]
    simp [Instr.lookup, run_underlying hm, MapKept.run_getObj_map hb, hc, MapKept.run_findKey hk h1, Result.andThen]
  by_cases k3 : k = 5
  · subst k3
    have h1 : Instr.findNow (.int .i64) (.int .i64 5) regE.toList 0 = some (some (3, .func (Fn.func 35) #[] #[])) := rfl
    rw [show regV 5 = .func (Fn.func 35) #[] #[] from rfl]
    simp [Instr.lookup, run_underlying hm, MapKept.run_getObj_map hb, hc, MapKept.run_findKey hk h1, Result.andThen]
  by_cases k4 : k = 8
  · subst k4
    have h1 : Instr.findNow (.int .i64) (.int .i64 8) regE.toList 0 = some (some (4, .func (Fn.func 36) #[] #[])) := rfl
    rw [show regV 8 = .func (Fn.func 36) #[] #[] from rfl]
    simp [Instr.lookup, run_underlying hm, MapKept.run_getObj_map hb, hc, MapKept.run_findKey hk h1, Result.andThen]
  by_cases k5 : k = 11
  · subst k5
    have h1 : Instr.findNow (.int .i64) (.int .i64 11) regE.toList 0 = some (some (5, .func (Fn.func 37) #[] #[])) := rfl
    rw [show regV 11 = .func (Fn.func 37) #[] #[] from rfl]
    simp [Instr.lookup, run_underlying hm, MapKept.run_getObj_map hb, hc, MapKept.run_findKey hk h1, Result.andThen]
  by_cases k6 : k = 15
  · subst k6
    have h1 : Instr.findNow (.int .i64) (.int .i64 15) regE.toList 0 = some (some (6, .func (Fn.func 38) #[] #[])) := rfl
    rw [show regV 15 = .func (Fn.func 38) #[] #[] from rfl]
    simp [Instr.lookup, run_underlying hm, MapKept.run_getObj_map hb, hc, MapKept.run_findKey hk h1, Result.andThen]
  by_cases k7 : k = 20
  · subst k7
    have h1 : Instr.findNow (.int .i64) (.int .i64 20) regE.toList 0 = some (some (7, .func (Fn.func 39) #[] #[])) := rfl
    rw [show regV 20 = .func (Fn.func 39) #[] #[] from rfl]
    simp [Instr.lookup, run_underlying hm, MapKept.run_getObj_map hb, hc, MapKept.run_findKey hk h1, Result.andThen]
  by_cases k8 : k = 24
  · subst k8
    have h1 : Instr.findNow (.int .i64) (.int .i64 24) regE.toList 0 = some (some (8, .func (Fn.func 40) #[] #[])) := rfl
    rw [show regV 24 = .func (Fn.func 40) #[] #[] from rfl]
    simp [Instr.lookup, run_underlying hm, MapKept.run_getObj_map hb, hc, MapKept.run_findKey hk h1, Result.andThen]
  have h1 : Instr.findNow (.int .i64) (.int .i64 k) regE.toList 0 = some none := by
    rcases MapKept.findNow_spec (d := .int .i64) (k := .int .i64 k) (by simp [MapKept.IsKey]) regE.toList 0 (by simp [regE, MapKept.IsKey]) with ⟨h, -⟩ | ⟨j, e, -, h2, h3⟩
    · exact h
    · exfalso
      have hm := List.mem_of_getElem? h2
      simp only [regE, List.mem_cons, List.not_mem_nil, or_false] at hm
      rcases hm with rfl | rfl | rfl | rfl | rfl | rfl | rfl | rfl | rfl <;> simp at h3 <;> omega
  have hv : regV k = .nilFunc := by unfold regV; rw [if_neg k0, if_neg k1, if_neg k2, if_neg k3, if_neg k4, if_neg k5, if_neg k6, if_neg k7, if_neg k8]
  have hz : (zeroValue 67).run Tryz.prog w = .ok .nilFunc w := by kernel_rfl
  rw [hv]
  simp [Instr.lookup, run_underlying hm, MapKept.run_getObj_map hb, hc, MapKept.run_findKey hk h1, hz, Result.andThen]
end Go.Proofs.YtcaljanahpdidaaGreat
namespace Go.Proofs.YtcaljanahpdidaaGreat
open Go.RowKit
theorem str_data : ∀ (xs : List Int) (acc : ByteArray), (xs.foldl (fun r n => r.push (UInt8.ofNat n.toNat)) acc).data = acc.data ++ (xs.map (fun n => UInt8.ofNat n.toNat)).toArray
  | [], acc => by simp
  | x :: r, acc => by
    rw [List.foldl_cons, str_data r]
    simp [ByteArray.push]
theorem toList_inj {s t : ByteArray} (h : s.toList = t.toList) : s = t := by
  rw [ByteArray.toList_eq, ByteArray.toList_eq] at h
  have := Array.ext' h
  cases s; cases t; simp_all
theorem str_inj {xs ys : List Int} (hx : Byt xs) (hy : Byt ys) (h : str xs = str ys) : xs = ys := by
  have h1 : (xs.map (fun n => UInt8.ofNat n.toNat)) = (ys.map (fun n => UInt8.ofNat n.toNat)) := by
    have := congrArg ByteArray.data h
    unfold str at this
    rw [str_data, str_data] at this
    simpa using this
  have hl : xs.length = ys.length := by have := congrArg List.length h1; simpa using this
  refine eq_of_getD hl (fun i hi => ?_)
  have h2 : (xs.map (fun n => UInt8.ofNat n.toNat))[i]? = (ys.map (fun n => UInt8.ofNat n.toNat))[i]? := by rw [h1]
  have a := hx i
  have b := hy i
  have hi' : i < ys.length := by omega
  simp [hi, hi'] at h2 a b ⊢
  have h3 := congrArg UInt8.toNat h2
  simp at h3
  omega
end Go.Proofs.YtcaljanahpdidaaGreat
namespace Go.Proofs.YtcaljanahpdidaaGreat
open Go Go.RowKit
set_option maxRecDepth 100000 in
theorem bytesEqual_any (w : World) (g g' : Nat) (a b : Option Addr) (ca cb : Nat) (xs ys : List Int) (ha : Rd w g a .u8 xs) (hb : Rd w g' b .u8 ys) (hx : Byt xs) (hy : Byt ys) :
    Calls Tryz.prog 50 #[.slice a xs.length ca, .slice b ys.length cb] w fun e w' => e = .returned (.bool (decide (xs = ys))) ∧ w' = w := by
  have h1 := conv_run w g a ca xs ha
  have h2 := conv_run w g' b cb ys hb
  by_cases e : xs = ys
  · subst e
    generalize str xs = s at *
    go_enter Tryz.func50, Tryz.ntmps50
    go_wp2
    go_ret
    exact ⟨by simp, rfl⟩
  · have D := hide (show decide (xs = ys) = false by simpa using e)
    have h3 : str xs ≠ str ys := fun h => e (str_inj hx hy h)
    generalize str xs = s at *
    generalize str ys = t at *
    have H3 := hide h3
    clear h3 e
    go_enter Tryz.func50, Tryz.ntmps50
    go_wp2
    go_ret
    have e : (s.toList == t.toList) = false := by
      cases h : (s.toList == t.toList)
      · rfl
      · exact absurd (toList_inj (beq_iff_eq.1 h)) H3.out
    exact ⟨by rw [D.out, ← e]; rfl, rfl⟩
end Go.Proofs.YtcaljanahpdidaaGreat
namespace Go.Proofs.YtcaljanahpdidaaGreat
open Go Go.RowKit
set_option maxHeartbeats 1000000 in
theorem equalTexts_any (w : World) (g g' : Nat) (a b : Option Addr) (ca cb : Nat) (ls ms : List (List UInt8)) (ha : RdT w g a ls) (hb : RdT w g' b ms) (hn : ls.length ≤ 1048576) (_hm : ms.length ≤ 1048576) :
    Calls Tryz.prog 51 #[.slice a ls.length ca, .slice b ms.length cb] w fun e w' => e = .returned (.bool (decide (ls = ms))) ∧ Below w.heap.size w w' := by
  by_cases hl : ls.length = ms.length
  · have d0 : ((ls.length : Int) != (ms.length : Int)) = false := by simp [hl]
    have E := hide (show ∀ k, k < ls.length → ls.getD k [] ≠ ms.getD k [] → decide (ls = ms) = false from fun k _ hne => decide_eq_false fun h => hne (by rw [h]))
    have HL := hide hl
    rw [← hl]
    have HB : Hid (0 < ls.length → ∃ off, b = some ⟨g', off, none⟩ ∧ ∀ i, i < ls.length → w.cell? ⟨g', off + i, none⟩ = some (tx (ms.getD i []))) := fun h => by
      obtain ⟨o, e, hc⟩ := hb (by omega)
      exact ⟨o, e, fun i hi => hc i (by omega)⟩
    clear hl hb
    go_enter Tryz.func51, Tryz.ntmps51
    go_wp2
    go_loopw [13] (fun i wr => ∃ (k n : Nat), k ≤ ls.length ∧ i = .int .i64 k ∧ wr = w.drewN n ∧ ∀ j, j < k → ls.getD j [] = ms.getD j []) (fun i _ => ls.length - (intOf i).toNat)
    case atStart => exact ⟨0, 0, Nat.zero_le _, rfl, rfl, fun j hj => absurd hj (by omega)⟩
    case round =>
      obtain ⟨k, n, hk, rfl, rfl, hall⟩ := hrel
      by_cases hlt : k < ls.length
      · obtain ⟨off, rfl, hc⟩ := ha (by omega)
        obtain ⟨off', rfl, hc'⟩ := HB.out (by omega)
        have h1 := hc k hlt
        have h2 := hc' k hlt
        have hlt' : (k : Int) < (ls.length : Int) := by omega
        have EK := hide (E.out k hlt)
        have HALL := hide hall
        clear hc hc' E hall HB
        generalize hx : ls.getD k [] = x at *
        generalize hy : ms.getD k [] = y at *
        have HX := hide hx
        have HY := hide hy
        clear hx hy
        unfold tx at h1 h2
        by_cases hxy : x = y
        · subst hxy
          have e1 : (x != x) = false := by simp
          have e2 : (x == x) = true := by simp
          have NXT : Hid (∀ j, j < k + 1 → ls.getD j [] = ms.getD j []) := fun j hj => by
            by_cases h : j = k
            · subst h
              rw [HX.out, HY.out]
            · exact HALL.out j (by omega)
          clear HALL EK
          go_wp2
          go_region
          go_wp2
          go_roundw
          case rel => exact ⟨k + 1, _, by omega, by go_num, rfl, NXT.out⟩
          case measure => simp [intOf]; omega
        · have e1 : (x != y) = true := by simpa using hxy
          have e2 : (x == y) = false := by simpa using hxy
          have F := hide (EK.out hxy)
          clear HALL EK
          go_wp2
          go_region
          go_wp2
          go_ret
          exact ⟨by rw [F.out]; rfl, below_drewN (Below.refl _ _) _⟩
      · obtain rfl : k = ls.length := by omega
        have T : Hid (decide (ls = ms) = true) := decide_eq_true (List.ext_getElem HL.out fun i h1 h2 => by
          have := hall i h1
          rw [List.getD_eq_getElem?_getD, List.getD_eq_getElem?_getD, List.getElem?_eq_getElem h1, List.getElem?_eq_getElem h2] at this
          exact this)
        clear hall E HB ha
        go_wp2
        go_ret
        exact ⟨by rw [T.out]; rfl, below_drewN (Below.refl _ _) _⟩
  · have d0 : ((ls.length : Int) != (ms.length : Int)) = true := by simp; omega
    have D := hide (show decide (ls = ms) = false from decide_eq_false fun h => hl (by rw [h]))
    clear ha hb hl
    go_enter Tryz.func51, Tryz.ntmps51
    go_wp2
    go_ret
    exact ⟨by rw [D.out]; rfl, Below.refl _ _⟩
end Go.Proofs.YtcaljanahpdidaaGreat
namespace Go.Proofs.YtcaljanahpdidaaGreat
open Go Go.RowKit
structure Plb where
  a : Option Addr
  c : Nat
  q : Nat
def plb0 : Plb := ⟨none, 0, 0⟩
structure RdL (w : World) (g : Nat) (a : Option Addr) (bs : List (List Int)) (ps : List Plb) : Prop where
  r : 0 < bs.length → ∃ off, a = some ⟨g, off, none⟩ ∧ ∀ i, i < bs.length → w.cell? ⟨g, off + i, none⟩ = some (.slice (ps.getD i plb0).a (bs.getD i []).length (ps.getD i plb0).c)
  b : ∀ i, i < bs.length → Rd w (ps.getD i plb0).q (ps.getD i plb0).a .u8 (bs.getD i [])
theorem RdL.up {w w' : World} {g : Nat} {a : Option Addr} {bs : List (List Int)} {ps : List Plb} (h : RdL w g a bs ps) (n : Below w.heap.size w w') : RdL w' g a bs ps :=
  ⟨fun h0 => by
    obtain ⟨o, e, hc⟩ := h.r h0
    refine ⟨o, e, fun i hi => ?_⟩
    have := hc i hi
    rw [World.cell?_of_block (a := ⟨g, o + i, none⟩) (n.block g (block_lt_of_cell this))]
    exact this, fun i hi => (h.b i hi).up n⟩
theorem blobEq_any (w : World) (g g' : Nat) (a b : Option Addr) (ca cb : Nat) (xs ys : List Int) (ha : Rd w g a .u8 xs) (hb : Rd w g' b .u8 ys) (hx : Byt xs) (hy : Byt ys) :
    Calls Tryz.prog 49 #[.agg #[.slice a xs.length ca], .agg #[.slice b ys.length cb]] w fun e w' => e = .returned (.bool (decide (xs = ys))) ∧ Below w.heap.size w w' := by
  have n1 : Below w.heap.size w (w.alloc (.cells #[.slice a xs.length ca] 46)) := (Below.refl _ _).alloc (Nat.le_refl _) _
  have n2 : Below w.heap.size w ((w.alloc (.cells #[.slice a xs.length ca] 46)).alloc (.cells #[.slice b ys.length cb] 46)) := n1.alloc n1.size _
  have BE := hide (bytesEqual_any _ g g' a b ca cb xs ys (ha.up n2) (hb.up n2) hx hy)
  have N2 := hide n2
  clear ha hb hx hy n1 n2
  generalize decide (xs = ys) = d at *
  go_enter Tryz.func49, Tryz.ntmps49
  go_wp2_with fail
  refine BE.out.mono ?_
  rintro e w1 ⟨rfl, rfl⟩
  go_wp2
  go_ret
  exact ⟨rfl, N2.out⟩
def ctO (n : Nat) : Bool := decide (n = 0) || decide (2000 < n)
theorem certOut_any (w : World) (a : Option Addr) (c n : Nat) (hn : n ≤ 1048576) :
    Calls Tryz.prog 119 #[.agg #[.slice a n c]] w fun e w' => e = .returned (.bool (ctO n)) ∧ Below w.heap.size w w' := by
  have n1 : Hid (Below w.heap.size w (w.alloc (.cells #[.slice a n c] 46))) := (Below.refl _ _).alloc (Nat.le_refl _) _
  have E := hide (show ctO n = (decide (n = 0) || decide (2000 < n)) from rfl)
  generalize ctO n = f at *
  by_cases k0 : n = 0
  · subst k0
    obtain rfl : f = true := E.out
    go_enter Tryz.func119, Tryz.ntmps119
    go_wp2
    go_ret
    exact ⟨rfl, n1.out⟩
  · have e0 : ((n : Int) == 0) = false := by simp; omega
    by_cases k1 : 2000 < n
    · have EF : f = true := by rw [E.out]; simp [k1]
      subst EF
      have d1 : decide ((2000 : Int) < (n : Int)) = true := by simp; omega
      go_enter Tryz.func119, Tryz.ntmps119
      go_wp2
      go_ret
      exact ⟨rfl, n1.out⟩
    · have EF : f = false := by rw [E.out]; simp [k0, k1]
      subst EF
      have d1 : decide ((2000 : Int) < (n : Int)) = false := by simp; omega
      go_enter Tryz.func119, Tryz.ntmps119
      go_wp2
      go_ret
      exact ⟨rfl, n1.out⟩
end Go.Proofs.YtcaljanahpdidaaGreat
namespace Go.Proofs.YtcaljanahpdidaaGreat
open Go Go.RowKit
def ctA (bs : List (List Int)) : Bool := bs.any fun b => ctO b.length
theorem ctA_yes {bs : List (List Int)} {k : Nat} (hk : k < bs.length) (h : ctO (bs.getD k []).length = true) : ctA bs = true := by
  unfold ctA
  rw [List.any_eq_true]
  refine ⟨bs.getD k [], ?_, h⟩
  rw [List.getD_eq_getElem?_getD, List.getElem?_eq_getElem hk]
  exact List.getElem_mem hk
theorem ctA_no {bs : List (List Int)} (h : ∀ j, j < bs.length → ctO (bs.getD j []).length = false) : ctA bs = false := by
  unfold ctA
  rw [List.any_eq_false]
  intro b hb
  obtain ⟨i, hi, e⟩ := List.getElem_of_mem hb
  have := h i hi
  rw [List.getD_eq_getElem?_getD, List.getElem?_eq_getElem hi] at this
  simpa [← e] using this
set_option maxHeartbeats 1000000 in
theorem certIndex_any (w : World) (g : Nat) (a : Option Addr) (c : Nat) (bs : List (List Int)) (ps : List Plb) (hr : RdL w g a bs ps) (hn : bs.length ≤ 1048576) (hz : ∀ i, i < bs.length → (bs.getD i []).length ≤ 1048576) :
    Calls Tryz.prog 121 #[.slice a bs.length c, .func (Fn.func 119) #[] #[]] w fun e w' => ∃ r : Int, e = .returned (.int .i64 r) ∧ decide (0 ≤ r) = ctA bs ∧ Below w.heap.size w w' := by
  go_enter Tryz.func121, Tryz.ntmps121
  go_wp2
  go_loopw [8] (fun i wr => ∃ (k : Nat), k ≤ bs.length ∧ i = .int .i64 k ∧ Below w.heap.size w wr ∧ ∀ j, j < k → ctO (bs.getD j []).length = false) (fun i _ => bs.length - (intOf i).toNat)
  case atStart => exact ⟨0, Nat.zero_le _, rfl, Below.refl _ _, fun j hj => absurd hj (by omega)⟩
  case round =>
    obtain ⟨k, hk, rfl, N, hall⟩ := hrel
    by_cases hlt : k < bs.length
    · obtain ⟨off, rfl, hc⟩ := (hr.up N).r (by omega)
      have t0 : (k : Int) < (bs.length : Int) := by omega
      have c1 := hc k hlt
      have CO := hide (certOut_any wr (ps.getD k plb0).a (ps.getD k plb0).c (bs.getD k []).length (hz k hlt))
      have YES := hide (fun h => ctA_yes hlt h)
      have HALL := hide hall
      have HN := hide N
      clear hc hall N
      generalize (ps.getD k plb0).a = pa at *
      generalize (ps.getD k plb0).c = pc at *
      generalize hx : (bs.getD k []).length = x at *
      have HX := hide hx
      clear hx
      generalize hv : ctO x = v at *
      have HV := hide hv
      clear hv
      go_wp2_with fail
      refine CO.out.mono ?_
      rintro e w1 ⟨rfl, n1⟩
      have N1 := hide (nxt HN.out n1)
      clear CO n1 HN
      cases v with
      | true =>
        have Y := hide (YES.out (by first | rfl | exact HV.out))
        clear YES HALL
        go_wp2
        go_ret
        exact ⟨_, rfl, by rw [Y.out]; simp, N1.out⟩
      | false =>
        have NXT : Hid (∀ j, j < k + 1 → ctO (bs.getD j []).length = false) := fun j hj => by
          by_cases h : j = k
          · subst h
            rw [HX.out]
            exact HV.out
          · exact HALL.out j (by omega)
        clear YES HALL
        go_wp2
        go_roundw
        case rel => exact ⟨k + 1, by omega, by go_num, N1.out, NXT.out⟩
        case measure => simp [intOf]; omega
    · obtain rfl : k = bs.length := by omega
      have NO := hide (ctA_no hall)
      have HN := hide N
      clear hall hr N
      go_wp2
      go_ret
      exact ⟨-1, rfl, by rw [NO.out]; rfl, HN.out⟩
theorem certContains_any (w : World) (g : Nat) (a : Option Addr) (c : Nat) (bs : List (List Int)) (ps : List Plb) (hr : RdL w g a bs ps) (hn : bs.length ≤ 1048576) (hz : ∀ i, i < bs.length → (bs.getD i []).length ≤ 1048576) :
    Calls Tryz.prog 120 #[.slice a bs.length c, .func (Fn.func 119) #[] #[]] w fun e w' => e = .returned (.bool (ctA bs)) ∧ Below w.heap.size w w' := by
  have IX := hide (certIndex_any w g a c bs ps hr hn hz)
  clear hr hz
  generalize ctA bs = v at *
  go_enter Tryz.func120, Tryz.ntmps120
  go_wp2_with fail
  refine IX.out.mono ?_
  rintro e w1 ⟨r, rfl, hr, n1⟩
  have HR := hide hr
  have N1 := hide n1
  clear hr n1 IX
  go_wp2
  go_ret
  exact ⟨by rw [← HR.out]; rfl, N1.out⟩
def ceF (bs : List (List Int)) : Int := if bs.length = 0 then 8 else if 4 < bs.length then 8 else if ctA bs = true then 8 else 0
set_option maxHeartbeats 1000000 in
theorem certsFault_any (w : World) (q g : Nat) (a : Option Addr) (c : Nat) (bs : List (List Int)) (ps : List Plb) (hr : RdL w g a bs ps) (hn : bs.length ≤ 1048576) (hz : ∀ i, i < bs.length → (bs.getD i []).length ≤ 1048576) (h0 : w.cell? ⟨q, 0, none⟩ = some (.slice a bs.length c)) :
    Calls Tryz.prog 116 #[.pointer (some ⟨q, 0, none⟩)] w fun x w' => x = .returned (.int .i64 (ceF bs)) ∧ Below w.heap.size w w' := by
  have E := hide (show ceF bs = if bs.length = 0 then 8 else if 4 < bs.length then 8 else if ctA bs = true then 8 else 0 from rfl)
  have CC := hide (certContains_any w g a c bs ps hr hn hz)
  clear hr hz
  generalize ceF bs = f at *
  generalize ctA bs = v at *
  by_cases k0 : bs.length = 0
  · have EF : f = 8 := by rw [E.out, if_pos k0]
    subst EF
    have e0 : ((bs.length : Int) == 0) = true := by simp [k0]
    clear E CC k0
    go_enter Tryz.func116, Tryz.ntmps116
    go_wp2
    go_ret
    exact ⟨rfl, Below.refl _ _⟩
  · have e0 : ((bs.length : Int) == 0) = false := by rw [beq_eq_false_iff_ne]; omega
    by_cases k1 : 4 < bs.length
    · have EF : f = 8 := by rw [E.out, if_neg k0, if_pos k1]
      subst EF
      have d1 : decide ((4 : Int) < (bs.length : Int)) = true := by simp; omega
      clear E CC
      go_enter Tryz.func116, Tryz.ntmps116
      go_wp2
      go_ret
      exact ⟨rfl, Below.refl _ _⟩
    · have EF := hide (show f = if v = true then 8 else 0 by rw [E.out, if_neg k0, if_neg k1])
      have d1 : decide ((4 : Int) < (bs.length : Int)) = false := by simp; omega
      clear E
      go_enter Tryz.func116, Tryz.ntmps116
      go_wp2_with fail
      refine CC.out.mono ?_
      rintro e w1 ⟨rfl, n1⟩
      cases v with
      | false =>
        go_wp2
        go_ret
        exact ⟨by rw [EF.out]; rfl, n1⟩
      | true =>
        go_wp2
        go_ret
        exact ⟨by rw [EF.out]; rfl, n1⟩
end Go.Proofs.YtcaljanahpdidaaGreat
namespace Go.Proofs.YtcaljanahpdidaaGreat
open Go Go.RowKit
set_option maxHeartbeats 1000000 in
theorem certEqual_any (w : World) (g g' : Nat) (a b : Option Addr) (ca cb : Nat) (xs ys : List (List Int)) (ps qs : List Plb) (ha : RdL w g a xs ps) (hb : RdL w g' b ys qs) (hn : xs.length ≤ 1048576) (_hm : ys.length ≤ 1048576) (hx : ∀ i, i < xs.length → Byt (xs.getD i [])) (hy : ∀ i, i < ys.length → Byt (ys.getD i [])) :
    Calls Tryz.prog 52 #[.slice a xs.length ca, .slice b ys.length cb, .func (Fn.func 49) #[] #[]] w fun e w' => e = .returned (.bool (decide (xs = ys))) ∧ Below w.heap.size w w' := by
  by_cases hl : xs.length = ys.length
  · have d0 : ((xs.length : Int) != (ys.length : Int)) = false := by simp [hl]
    have E := hide (show ∀ k, xs.getD k [] ≠ ys.getD k [] → decide (xs = ys) = false from fun k hne => decide_eq_false fun h => hne (by rw [h]))
    have T := hide (show (∀ j, j < xs.length → xs.getD j [] = ys.getD j []) → decide (xs = ys) = true from fun hall => decide_eq_true (List.ext_getElem hl fun i h1 h2 => by
      have := hall i h1
      rw [List.getD_eq_getElem?_getD, List.getD_eq_getElem?_getD, List.getElem?_eq_getElem h1, List.getElem?_eq_getElem h2] at this
      exact this))
    have HY := hide (show ∀ i, i < xs.length → Byt (ys.getD i []) from fun i hi => hy i (by omega))
    have HB1 := hide (show ∀ W, Below w.heap.size w W → 0 < xs.length → ∃ off, b = some ⟨g', off, none⟩ ∧ ∀ i, i < xs.length → W.cell? ⟨g', off + i, none⟩ = some (.slice (qs.getD i plb0).a (ys.getD i []).length (qs.getD i plb0).c) from fun W n h => by
      obtain ⟨o, e, hc⟩ := (hb.up n).r (by omega)
      exact ⟨o, e, fun i hi => hc i (by omega)⟩)
    have HB2 := hide (show ∀ W, Below w.heap.size w W → ∀ i, i < xs.length → Rd W (qs.getD i plb0).q (qs.getD i plb0).a .u8 (ys.getD i []) from fun W n i hi => (hb.up n).b i (by omega))
    have HX := hide hx
    have HA := hide ha
    rw [← hl]
    generalize decide (xs = ys) = d at *
    clear hl hb ha hx hy
    go_enter Tryz.func52, Tryz.ntmps52
    go_wp2
    go_loopw [17] (fun i wr => ∃ (k : Nat), k ≤ xs.length ∧ i = .int .i64 k ∧ Below w.heap.size w wr ∧ ∀ j, j < k → xs.getD j [] = ys.getD j []) (fun i _ => xs.length - (intOf i).toNat)
    case atStart => exact ⟨0, Nat.zero_le _, rfl, Below.refl _ _, fun j hj => absurd hj (by omega)⟩
    case round =>
      obtain ⟨k, hk, rfl, N, hall⟩ := hrel
      by_cases hlt : k < xs.length
      · obtain ⟨off, rfl, hc⟩ := (HA.out.up N).r (by omega)
        obtain ⟨off', rfl, hc'⟩ := HB1.out wr N (by omega)
        have t0 : (k : Int) < (xs.length : Int) := by omega
        have c1 := hc k hlt
        have c2 := hc' k hlt
        have l1 := block_lt_of_cell c1
        have l2 := block_lt_of_cell c2
        have z1 : g ≠ wr.heap.size := by simp only at l1; omega
        have z2 : g' ≠ wr.heap.size := by simp only at l2; omega
        have z3 : wr.heap.size ≠ g := fun h => z1 h.symm
        have z4 : wr.heap.size ≠ g' := fun h => z2 h.symm
        have l3 : ∀ o, (wr.alloc o).cell? ⟨g', off' + k, none⟩ = some (.slice (qs.getD k plb0).a (ys.getD k []).length (qs.getD k plb0).c) := fun o => (World.cell?_of_block (a := ⟨g', off' + k, none⟩) (Below.heap_alloc wr o g' (by simpa using l2))).trans c2
        have BE := hide (show ∀ W, Below wr.heap.size wr W → _ from fun W n => blobEq_any W (ps.getD k plb0).q (qs.getD k plb0).q (ps.getD k plb0).a (qs.getD k plb0).a (ps.getD k plb0).c (qs.getD k plb0).c (xs.getD k []) (ys.getD k []) (((HA.out.up N).b k hlt).up n) ((HB2.out wr N k hlt).up n) (HX.out k hlt) (HY.out k hlt))
        have EK := hide (E.out k)
        have HALL := hide hall
        have HN := hide N
        have DY : Hid (decide (xs.getD k [] = ys.getD k []) = true → xs.getD k [] = ys.getD k []) := fun h => of_decide_eq_true h
        have DN : Hid (decide (xs.getD k [] = ys.getD k []) = false → xs.getD k [] ≠ ys.getD k []) := fun h => of_decide_eq_false h
        clear hc hc' E hall HB1 HB2 HA HX HY N
        generalize (ps.getD k plb0).a = pa at *
        generalize (ps.getD k plb0).c = pc at *
        generalize (qs.getD k plb0).a = qa at *
        generalize (qs.getD k plb0).c = qc at *
        generalize hx : xs.getD k [] = x at *
        generalize hy : ys.getD k [] = y at *
        have GX := hide hx
        have GY := hide hy
        clear hx hy
        generalize decide (x = y) = v at *
        generalize hxl : x.length = xl at *
        generalize hyl : y.length = yl at *
        clear hxl hyl
        go_wp2_with fail
        refine (BE.out _ ?_).mono ?_
        · exact ((Below.refl _ _).alloc (Nat.le_refl _) _).alloc (by simp) _
        rintro e w1 ⟨rfl, n1⟩
        have N1 := hide (nxt HN.out ((((Below.refl _ _).alloc (Nat.le_refl _) _).alloc (by simp) _).trans (n1.mono (by simp <;> omega))))
        clear BE n1 HN
        cases v with
        | true =>
          have XY := DY.out rfl
          have NXT : Hid (∀ j, j < k + 1 → xs.getD j [] = ys.getD j []) := fun j hj => by
            by_cases h : j = k
            · subst h
              rw [GX.out, GY.out, XY]
            · exact HALL.out j (by omega)
          clear XY HALL EK DY DN
          go_wp2
          go_roundw
          case rel => exact ⟨k + 1, by omega, by go_num, N1.out, NXT.out⟩
          case measure => simp [intOf]; omega
        | false =>
          have F := hide (EK.out (DN.out rfl))
          clear HALL EK DY DN
          go_wp2
          go_ret
          exact ⟨by rw [F.out]; rfl, N1.out⟩
      · obtain rfl : k = xs.length := by omega
        have F := hide (T.out hall)
        have HN := hide N
        clear hall E HB1 HB2 HA N
        go_wp2
        go_ret
        exact ⟨by rw [F.out]; rfl, HN.out⟩
  · have d0 : ((xs.length : Int) != (ys.length : Int)) = true := by simp; omega
    have F : Hid (decide (xs = ys) = false) := decide_eq_false fun h => hl (by rw [h])
    go_enter Tryz.func52, Tryz.ntmps52
    go_wp2
    go_ret
    exact ⟨by rw [F.out]; rfl, Below.refl _ _⟩
end Go.Proofs.YtcaljanahpdidaaGreat
