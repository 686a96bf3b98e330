import Derived.Test.YtdnkgmlidhepbaaGreatGC9
import Derived.WideMake
import Derived.Test.YtdnkgmlidhepbaaGreatGC5
import Derived.Test.YtdnkgmlidhepbaaGreatGC3
import Derived.Test.YtdnkgmlidhepbaaGreatGC4
import Derived.Test.YtdnkgmlidhepbaaGreatGC1
namespace Go.Proofs.YtdnkgmlidhepbaaGreat
open Go Go.RowKit
def tiF (g e : Int) (r t : Nat) : Int := if r ≠ 32 then 3 else if t = 0 ∨ 400 < t then 6 else if (!ageB g || !ageB e) = true then 7 else 0
set_option maxHeartbeats 1000000 in
theorem ticketFault_any (w : World) (q : Nat) (g e : Int) (a2 a3 : Option Addr) (r t c2 c3 : Nat) (hr : r ≤ 1048576) (ht : t ≤ 1048576)
    (h0 : w.cell? ⟨q, 0, none⟩ = some (.int .i64 g)) (h1 : w.cell? ⟨q, 1, none⟩ = some (.int .i64 e)) (h2 : w.cell? ⟨q, 2, none⟩ = some (.slice a2 r c2)) (h3 : w.cell? ⟨q, 3, none⟩ = some (.slice a3 t c3)) :
    Calls Tryz.prog 118 #[.pointer (some ⟨q, 0, none⟩)] w fun x w' => x = .returned (.int .i64 (tiF g e r t)) ∧ w' = w := by
  have E := hide (show tiF g e r t = if r ≠ 32 then 3 else if t = 0 ∨ 400 < t then 6 else if (!ageB g || !ageB e) = true then 7 else 0 from rfl)
  have AG := hide (isAge_any w g)
  have AE := hide (isAge_any w e)
  generalize tiF g e r t = f at *
  generalize ageB g = x5 at *
  generalize ageB e = x6 at *
  by_cases k0 : r = 32
  · subst k0
    by_cases k1 : t = 0
    · subst k1
      have EF : f = 6 := by rw [E.out]; simp
      subst EF
      clear E AG AE
      go_enter Tryz.func118, Tryz.ntmps118
      go_wp2
      go_ret
      exact ⟨rfl, rfl⟩
    · have d1 : ((t : Int) == 0) = false := by simp; omega
      by_cases k2 : 400 < t
      · have EF : f = 6 := by rw [E.out]; simp [k2]
        subst EF
        have d2 : decide ((400 : Int) < (t : Int)) = true := by simp; omega
        clear E AG AE
        go_enter Tryz.func118, Tryz.ntmps118
        go_wp2
        go_ret
        exact ⟨rfl, rfl⟩
      · have EF := hide (show f = if (!x5 || !x6) = true then 7 else 0 by rw [E.out]; simp [k1, k2])
        have d2 : decide ((400 : Int) < (t : Int)) = false := by simp; omega
        clear E
        go_enter Tryz.func118, Tryz.ntmps118
        go_wp2_with fail
        refine AG.out.mono ?_
        rintro x w1 ⟨rfl, rfl⟩
        cases x5 with
        | false =>
          go_wp2
          go_ret
          exact ⟨by rw [EF.out]; rfl, rfl⟩
        | true =>
          go_wp2_with fail
          refine AE.out.mono ?_
          rintro x w1 ⟨rfl, rfl⟩
          cases x6 with
          | false =>
            go_wp2
            go_ret
            exact ⟨by rw [EF.out]; rfl, rfl⟩
          | true =>
            go_wp2
            go_ret
            exact ⟨by rw [EF.out]; rfl, rfl⟩
  · have EF : f = 3 := by rw [E.out]; simp [k0]
    subst EF
    have d0 : ((r : Int) != 32) = true := by simp; omega
    clear E AG AE
    go_enter Tryz.func118, Tryz.ntmps118
    go_wp2
    go_ret
    exact ⟨rfl, rfl⟩
def exF (ls : List (List UInt8)) (e : Int) : Int := if prB ls 1 = false then 5 else if flgB e = false then 7 else 0
set_option maxHeartbeats 1000000 in
theorem extrasFault_any (w : World) (q : Nat) (a0 : Option Addr) (c0 gp : Nat) (ls : List (List UInt8)) (e : Int) (hp : RdT w gp a0 ls) (hc : ls.length ≤ c0) (hn : ls.length ≤ 1048576) (hz : ∀ l ∈ ls, l.length ≤ 1048576)
    (h0 : w.cell? ⟨q, 0, none⟩ = some (.slice a0 ls.length c0)) (h1 : w.cell? ⟨q, 1, none⟩ = some (.int .i64 e)) :
    Calls Tryz.prog 126 #[.pointer (some ⟨q, 0, none⟩)] w fun x w' => x = .returned (.int .i64 (exF ls e)) ∧ w' = w := by
  have E := hide (show exF ls e = if prB ls 1 = false then 5 else if flgB e = false then 7 else 0 from rfl)
  have AP := hide (areProtocols_any w gp a0 c0 ls 1 hp hc hn (by decide) hz)
  have FL := hide (isFlag_any w e)
  clear hp hc hn hz
  generalize exF ls e = f at *
  generalize prB ls 1 = x4 at *
  generalize flgB e = x6 at *
  cases x4 with
  | false =>
    obtain rfl : f = 5 := E.out
    clear E FL
    go_enter Tryz.func126, Tryz.ntmps126
    go_wp2_with fail
    refine AP.out.mono ?_
    rintro x w1 ⟨rfl, rfl⟩
    go_wp2
    go_ret
    exact ⟨rfl, rfl⟩
  | true =>
    go_enter Tryz.func126, Tryz.ntmps126
    go_wp2_with fail
    refine AP.out.mono ?_
    rintro x w1 ⟨rfl, rfl⟩
    go_wp2_with fail
    refine FL.out.mono ?_
    rintro x w1 ⟨rfl, rfl⟩
    cases x6 with
    | false =>
      go_wp2
      go_ret
      exact ⟨by rw [E.out]; rfl, rfl⟩
    | true =>
      go_wp2
      go_ret
      exact ⟨by rw [E.out]; rfl, rfl⟩
def pfF (n : Nat) (k : Nat) : Int := if k ≠ n then 3 else 0
theorem proofFault_any (w : World) (q : Nat) (a0 : Option Addr) (k c0 : Nat) (hk : k ≤ 1048576) (h0 : w.cell? ⟨q, 0, none⟩ = some (.slice a0 k c0)) :
    Calls Tryz.prog 137 #[.pointer (some ⟨q, 0, none⟩)] w fun x w' => x = .returned (.int .i64 (pfF 64 k)) ∧ w' = w := by
  have E := hide (show pfF 64 k = if k ≠ 64 then 3 else 0 from rfl)
  generalize pfF 64 k = f at *
  by_cases k0 : k = 64
  · subst k0
    obtain rfl : f = 0 := E.out
    go_enter Tryz.func137, Tryz.ntmps137
    go_wp2
    go_ret
    exact ⟨rfl, rfl⟩
  · have EF : f = 3 := by rw [E.out]; simp [k0]
    subst EF
    have d0 : ((k : Int) != 64) = true := by simp; omega
    go_enter Tryz.func137, Tryz.ntmps137
    go_wp2
    go_ret
    exact ⟨rfl, rfl⟩
theorem finishedFault_any (w : World) (q : Nat) (a0 : Option Addr) (k c0 : Nat) (hk : k ≤ 1048576) (h0 : w.cell? ⟨q, 0, none⟩ = some (.slice a0 k c0)) :
    Calls Tryz.prog 141 #[.pointer (some ⟨q, 0, none⟩)] w fun x w' => x = .returned (.int .i64 (pfF 32 k)) ∧ w' = w := by
  have E := hide (show pfF 32 k = if k ≠ 32 then 3 else 0 from rfl)
  generalize pfF 32 k = f at *
  by_cases k0 : k = 32
  · subst k0
    obtain rfl : f = 0 := E.out
    go_enter Tryz.func141, Tryz.ntmps141
    go_wp2
    go_ret
    exact ⟨rfl, rfl⟩
  · have EF : f = 3 := by rw [E.out]; simp [k0]
    subst EF
    have d0 : ((k : Int) != 32) = true := by simp; omega
    go_enter Tryz.func141, Tryz.ntmps141
    go_wp2
    go_ret
    exact ⟨rfl, rfl⟩
def upF (e : Int) : Int := if flgB e = false then 7 else 0
theorem updateFault_any (w : World) (q : Nat) (e : Int) (h0 : w.cell? ⟨q, 0, none⟩ = some (.int .i64 e)) :
    Calls Tryz.prog 145 #[.pointer (some ⟨q, 0, none⟩)] w fun x w' => x = .returned (.int .i64 (upF e)) ∧ w' = w := by
  have E := hide (show upF e = if flgB e = false then 7 else 0 from rfl)
  have FL := hide (isFlag_any w e)
  generalize upF e = f at *
  generalize flgB e = x6 at *
  go_enter Tryz.func145, Tryz.ntmps145
  go_wp2_with fail
  refine FL.out.mono ?_
  rintro x w1 ⟨rfl, rfl⟩
  cases x6 with
  | false =>
    go_wp2
    go_ret
    exact ⟨by rw [E.out]; rfl, rfl⟩
  | true =>
    go_wp2
    go_ret
    exact ⟨by rw [E.out]; rfl, rfl⟩
theorem endFault_any (w : World) (v : Value) : Calls Tryz.prog 122 #[v] w fun x w' => x = .returned (.int .i64 0) ∧ w' = w := by
  go_enter Tryz.func122, Tryz.ntmps122
  go_wp2
  go_ret
  exact ⟨rfl, rfl⟩
end Go.Proofs.YtdnkgmlidhepbaaGreat
namespace Go.Proofs.YtdnkgmlidhepbaaGreat
open Go Go.RowKit
theorem mapPut (w : World) (r clock : Nat) (es : Array MapEntry) (k : Int) (val : Value) (hb : w.heap[r]? = some (.map es clock)) (hf : Instr.findNow (.int .i64) (.int .i64 k) es.toList 0 = some none) :
    ∃ w', (Instr.mapUpdate 48 (.map (some r)) (.int .i64 k) val).run Tryz.prog w = .ok () w' ∧ w'.heap[r]? = some (.map (es.push { key := .int .i64 k, val := val, born := clock }) (clock + 1)) ∧ Only r w w' := by
  have hm := Tryz.underlying48
  have hk : Tryz.prog.underlying 2 = some (.int .i64) := by kernel_rfl
  have hc : (Instr.checkKey false 10000 2 (.int .i64 k)).run Tryz.prog w = .ok () w := MapKept.run_checkKey (k := .int .i64 k) hk (by simp [MapKept.IsKey]) false 9999
  have hr : r < w.heap.size := (Array.getElem?_eq_some_iff.1 hb).1
  refine ⟨{ w with heap := w.heap.setIfInBounds r (.map (es.push { key := .int .i64 k, val := val, born := clock }) (clock + 1)) }, ?_, ?_, ?_⟩
  · simp [Instr.mapUpdate, run_underlying hm, MapKept.run_getObj_map hb, hc, MapKept.run_findKey hk hf, MapKept.run_setObj_map _ hb, Result.andThen]
  · show (w.heap.setIfInBounds r _)[r]? = _
    rw [Array.getElem?_setIfInBounds_self, if_pos hr]
  · exact ⟨rfl, rfl, rfl, by simp, fun g hg => by
      show (w.heap.setIfInBounds r _)[g]? = _
      rw [Array.getElem?_setIfInBounds_ne (Ne.symm hg)]⟩
def regE : Array MapEntry := #[{ key := .int .i64 1, val := .func (Fn.func 44) #[] #[], born := 0 }, { key := .int .i64 2, val := .func (Fn.func 45) #[] #[], born := 1 }, { key := .int .i64 4, val := .func (Fn.func 46) #[] #[], born := 2 }, { key := .int .i64 5, val := .func (Fn.func 47) #[] #[], born := 3 }, { key := .int .i64 8, val := .func (Fn.func 48) #[] #[], born := 4 }, { key := .int .i64 11, val := .func (Fn.func 49) #[] #[], born := 5 }, { key := .int .i64 15, val := .func (Fn.func 50) #[] #[], born := 6 }, { key := .int .i64 20, val := .func (Fn.func 51) #[] #[], born := 7 }, { key := .int .i64 24, val := .func (Fn.func 52) #[] #[], born := 8 }]
set_option maxRecDepth 20000 in
set_option maxHeartbeats 1000000 in
theorem messageKinds_any (w : World) : Calls Tryz.prog 23 #[] w fun e w' => e = .returned (.map (some w.heap.size)) ∧ w'.heap[w.heap.size]? = some (.map regE 9) ∧ Below w.heap.size w w' := by
  have hmm := @run_makeMap Tryz.prog
  have b0 : (w.alloc (.map #[] 0)).heap[w.heap.size]? = some (.map #[] 0) := heap_alloc_new w _
  have n0 : Below w.heap.size w (w.alloc (.map #[] 0)) := (Below.refl _ _).alloc (Nat.le_refl _) _
  obtain ⟨w1, u1, b1, o1⟩ := mapPut (w.alloc (.map #[] 0)) w.heap.size 0 #[] 1 (.func (Fn.func 44) #[] #[]) b0 rfl
  have n1 := n0.trans (o1.below (Nat.le_refl _))
  obtain ⟨w2, u2, b2, o2⟩ := mapPut w1 w.heap.size 1 #[{ key := .int .i64 1, val := .func (Fn.func 44) #[] #[], born := 0 }] 2 (.func (Fn.func 45) #[] #[]) b1 rfl
  have n2 := n1.trans (o2.below (Nat.le_refl _))
  obtain ⟨w3, u3, b3, o3⟩ := mapPut w2 w.heap.size 2 #[{ key := .int .i64 1, val := .func (Fn.func 44) #[] #[], born := 0 }, { key := .int .i64 2, val := .func (Fn.func 45) #[] #[], born := 1 }] 4 (.func (Fn.func 46) #[] #[]) b2 rfl
  have n3 := n2.trans (o3.below (Nat.le_refl _))
  obtain ⟨w4, u4, b4, o4⟩ := mapPut w3 w.heap.size 3 #[{ key := .int .i64 1, val := .func (Fn.func 44) #[] #[], born := 0 }, { key := .int .i64 2, val := .func (Fn.func 45) #[] #[], born := 1 }, { key := .int .i64 4, val := .func (Fn.func 46) #[] #[], born := 2 }] 5 (.func (Fn.func 47) #[] #[]) b3 rfl
  have n4 := n3.trans (o4.below (Nat.le_refl _))
  obtain ⟨w5, u5, b5, o5⟩ := mapPut w4 w.heap.size 4 #[{ key := .int .i64 1, val := .func (Fn.func 44) #[] #[], born := 0 }, { key := .int .i64 2, val := .func (Fn.func 45) #[] #[], born := 1 }, { key := .int .i64 4, val := .func (Fn.func 46) #[] #[], born := 2 }, { key := .int .i64 5, val := .func (Fn.func 47) #[] #[], born := 3 }] 8 (.func (Fn.func 48) #[] #[]) b4 rfl
  have n5 := n4.trans (o5.below (Nat.le_refl _))
  obtain ⟨w6, u6, b6, o6⟩ := mapPut w5 w.heap.size 5 #[{ key := .int .i64 1, val := .func (Fn.func 44) #[] #[], born := 0 }, { key := .int .i64 2, val := .func (Fn.func 45) #[] #[], born := 1 }, { key := .int .i64 4, val := .func (Fn.func 46) #[] #[], born := 2 }, { key := .int .i64 5, val := .func (Fn.func 47) #[] #[], born := 3 }, { key := .int .i64 8, val := .func (Fn.func 48) #[] #[], born := 4 }] 11 (.func (Fn.func 49) #[] #[]) b5 rfl
  have n6 := n5.trans (o6.below (Nat.le_refl _))
  obtain ⟨w7, u7, b7, o7⟩ := mapPut w6 w.heap.size 6 #[{ key := .int .i64 1, val := .func (Fn.func 44) #[] #[], born := 0 }, { key := .int .i64 2, val := .func (Fn.func 45) #[] #[], born := 1 }, { key := .int .i64 4, val := .func (Fn.func 46) #[] #[], born := 2 }, { key := .int .i64 5, val := .func (Fn.func 47) #[] #[], born := 3 }, { key := .int .i64 8, val := .func (Fn.func 48) #[] #[], born := 4 }, { key := .int .i64 11, val := .func (Fn.func 49) #[] #[], born := 5 }] 15 (.func (Fn.func 50) #[] #[]) b6 rfl
  have n7 := n6.trans (o7.below (Nat.le_refl _))
  obtain ⟨w8, u8, b8, o8⟩ := mapPut w7 w.heap.size 7 #[{ key := .int .i64 1, val := .func (Fn.func 44) #[] #[], born := 0 }, { key := .int .i64 2, val := .func (Fn.func 45) #[] #[], born := 1 }, { key := .int .i64 4, val := .func (Fn.func 46) #[] #[], born := 2 }, { key := .int .i64 5, val := .func (Fn.func 47) #[] #[], born := 3 }, { key := .int .i64 8, val := .func (Fn.func 48) #[] #[], born := 4 }, { key := .int .i64 11, val := .func (Fn.func 49) #[] #[], born := 5 }, { key := .int .i64 15, val := .func (Fn.func 50) #[] #[], born := 6 }] 20 (.func (Fn.func 51) #[] #[]) b7 rfl
  have n8 := n7.trans (o8.below (Nat.le_refl _))
  obtain ⟨w9, u9, b9, o9⟩ := mapPut w8 w.heap.size 8 #[{ key := .int .i64 1, val := .func (Fn.func 44) #[] #[], born := 0 }, { key := .int .i64 2, val := .func (Fn.func 45) #[] #[], born := 1 }, { key := .int .i64 4, val := .func (Fn.func 46) #[] #[], born := 2 }, { key := .int .i64 5, val := .func (Fn.func 47) #[] #[], born := 3 }, { key := .int .i64 8, val := .func (Fn.func 48) #[] #[], born := 4 }, { key := .int .i64 11, val := .func (Fn.func 49) #[] #[], born := 5 }, { key := .int .i64 15, val := .func (Fn.func 50) #[] #[], born := 6 }, { key := .int .i64 20, val := .func (Fn.func 51) #[] #[], born := 7 }] 24 (.func (Fn.func 52) #[] #[]) b8 rfl
  have n9 := n8.trans (o9.below (Nat.le_refl _))
  have B9 : Hid (w9.heap[w.heap.size]? = some (.map regE 9)) := b9
  have N9 := hide n9
  clear b0 n0 b1 n1 b2 n2 b3 n3 b4 n4 b5 n5 b6 n6 b7 n7 b8 n8 b9 n9 o1 o2 o3 o4 o5 o6 o7 o8 o9
  go_enter Tryz.func23, Tryz.ntmps23
  go_wp2
  go_ret
  exact ⟨rfl, B9.out, N9.out⟩
def regV (k : Int) : Value := if k = 1 then .func (Fn.func 44) #[] #[] else if k = 2 then .func (Fn.func 45) #[] #[] else if k = 4 then .func (Fn.func 46) #[] #[] else if k = 5 then .func (Fn.func 47) #[] #[] else if k = 8 then .func (Fn.func 48) #[] #[] else if k = 11 then .func (Fn.func 49) #[] #[] else if k = 15 then .func (Fn.func 50) #[] #[] else if k = 20 then .func (Fn.func 51) #[] #[] else if k = 24 then .func (Fn.func 52) #[] #[] else .nilFunc
theorem regLook (w : World) (q : Nat) (hb : w.heap[q]? = some (.map regE 9)) (k : Int) : (Instr.lookup 48 (.map (some q)) (.int .i64 k) false).run Tryz.prog w = .ok (regV k) w := by
  have hm := Tryz.underlying48
  have hk : Tryz.prog.underlying 2 = some (.int .i64) := by kernel_rfl
  have hc : (Instr.checkKey regE.isEmpty 10000 2 (.int .i64 k)).run Tryz.prog w = .ok () w := MapKept.run_checkKey (k := .int .i64 k) hk (by simp [MapKept.IsKey]) regE.isEmpty 9999
  by_cases k0 : k = 1
  · subst k0
    have h1 : Instr.findNow (.int .i64) (.int .i64 1) regE.toList 0 = some (some (0, .func (Fn.func 44) #[] #[])) := rfl
    rw [show regV 1 = .func (Fn.func 44) #[] #[] from rfl]
    simp [Instr.lookup, run_underlying hm, MapKept.run_getObj_map hb, hc, MapKept.run_findKey hk h1, Result.andThen]
  by_cases k1 : k = 2
  · subst k1
    have h1 : Instr.findNow (.int .i64) (.int .i64 2) regE.toList 0 = some (some (1, .func (Fn.func 45) #[] #[])) := rfl
    rw [show regV 2 = .func (Fn.func 45) #[] #[] from rfl]
    simp [Instr.lookup, run_underlying hm, MapKept.run_getObj_map hb, hc, MapKept.run_findKey hk h1, Result.andThen]
  by_cases k2 : k = 4
  · subst k2
    have h1 : Instr.findNow (.int .i64) (.int .i64 4) regE.toList 0 = some (some (2, .func (Fn.func 46) #[] #[])) := rfl
    rw [show regV 4 = .func (Fn.func 46) #[] #[] from rfl]
    simp [Instr.lookup, run_underlying hm, MapKept.run_getObj_map hb, hc, MapKept.run_findKey hk h1, Result.andThen]
  by_cases k3 : k = 5
  · subst k3
    have h1 : Instr.findNow (.int .i64) (.int .i64 5) regE.toList 0 = some (some (3, .func (Fn.func 47) #[] #[])) := rfl
    rw [show regV 5 = .func (Fn.func 47) #[] #[] from rfl]
    simp [Instr.lookup, run_underlying hm, MapKept.run_getObj_map hb, hc, MapKept.run_findKey hk h1, Result.andThen]
  by_cases k4 : k = 8
  · subst k4
    have h1 : Instr.findNow (.int .i64) (.int .i64 8) regE.toList 0 = some (some (4, .func (Fn.func 48) #[] #[])) := rfl
    rw [show regV 8 = .func (Fn.func 48) #[] #[] from rfl]
    simp [Instr.lookup, run_underlying hm, MapKept.run_getObj_map hb, hc, MapKept.run_findKey hk h1, Result.andThen]
  by_cases k5 : k = 11
  · subst k5
    have h1 : Instr.findNow (.int .i64) (.int .i64 11) regE.toList 0 = some (some (5, .func (Fn.func 49) #[] #[])) := rfl
    rw [show regV 11 = .func (Fn.func 49) #[] #[] from rfl]
    simp [Instr.lookup, run_underlying hm, MapKept.run_getObj_map hb, hc, MapKept.run_findKey hk h1, Result.andThen]
  by_cases k6 : k = 15
  · subst k6
    have h1 : Instr.findNow (.int .i64) (.int .i64 15) regE.toList 0 = some (some (6, .func (Fn.func 50) #[] #[])) := rfl
    rw [show regV 15 = .func (Fn.func 50) #[] #[] from rfl]
    simp [Instr.lookup, run_underlying hm, MapKept.run_getObj_map hb, hc, MapKept.run_findKey hk h1, Result.andThen]
  by_cases k7 : k = 20
  · subst k7
    have h1 : Instr.findNow (.int .i64) (.int .i64 20) regE.toList 0 = some (some (7, .func (Fn.func 51) #[] #[])) := rfl
    rw [show regV 20 = .func (Fn.func 51) #[] #[] from rfl]
    simp [Instr.lookup, run_underlying hm, MapKept.run_getObj_map hb, hc, MapKept.run_findKey hk h1, Result.andThen]
  by_cases k8 : k = 24
  · subst k8
    have h1 : Instr.findNow (.int .i64) (.int .i64 24) regE.toList 0 = some (some (8, .func (Fn.func 52) #[] #[])) := rfl
    rw [show regV 24 = .func (Fn.func 52) #[] #[] from rfl]
    simp [Instr.lookup, run_underlying hm, MapKept.run_getObj_map hb, hc, MapKept.run_findKey hk h1, Result.andThen]
  have h1 : Instr.findNow (.int .i64) (.int .i64 k) regE.toList 0 = some none := by
    rcases MapKept.findNow_spec (d := .int .i64) (k := .int .i64 k) (by simp [MapKept.IsKey]) regE.toList 0 (by simp [regE, MapKept.IsKey]) with ⟨h, -⟩ | ⟨j, e, -, h2, h3⟩
    · exact h
    · exfalso
      have hm := List.mem_of_getElem? h2
      simp only [regE, List.mem_cons, List.not_mem_nil, or_false] at hm
      rcases hm with rfl | rfl | rfl | rfl | rfl | rfl | rfl | rfl | rfl <;> simp at h3 <;> omega
  have hv : regV k = .nilFunc := by unfold regV; rw [if_neg k0, if_neg k1, if_neg k2, if_neg k3, if_neg k4, if_neg k5, if_neg k6, if_neg k7, if_neg k8]
  have hz : (zeroValue 75).run Tryz.prog w = .ok .nilFunc w := by kernel_rfl
  rw [hv]
  simp [Instr.lookup, run_underlying hm, MapKept.run_getObj_map hb, hc, MapKept.run_findKey hk h1, hz, Result.andThen]
end Go.Proofs.YtdnkgmlidhepbaaGreat
namespace Go.Proofs.YtdnkgmlidhepbaaGreat
open Go Go.RowKit
set_option maxRecDepth 100000 in
theorem bytesEqual_any (w : World) (g g' : Nat) (a b : Option Addr) (ca cb : Nat) (xs ys : List Int) (ha : Rd w g a .u8 xs) (hb : Rd w g' b .u8 ys) (hx : Byt xs) (hy : Byt ys) :
    Calls Tryz.prog 69 #[.slice a xs.length ca, .slice b ys.length cb] w fun e w' => e = .returned (.bool (decide (xs = ys))) ∧ w' = w := by
  have h1 := conv_run w g a ca xs ha
  have h2 := conv_run w g' b cb ys hb
  by_cases e : xs = ys
  · subst e
    generalize str xs = s at *
    go_enter Tryz.func69, Tryz.ntmps69
    go_wp2
    go_ret
    exact ⟨by simp, rfl⟩
  · have D := hide (show decide (xs = ys) = false by simpa using e)
    have h3 : str xs ≠ str ys := fun h => e (str_inj hx hy h)
    generalize str xs = s at *
    generalize str ys = t at *
    have H3 := hide h3
    clear h3 e
    go_enter Tryz.func69, Tryz.ntmps69
    go_wp2
    go_ret
    have e : (s.toList == t.toList) = false := by
      cases h : (s.toList == t.toList)
      · rfl
      · exact absurd (toList_inj (beq_iff_eq.1 h)) H3.out
    exact ⟨by rw [D.out, ← e]; rfl, rfl⟩
end Go.Proofs.YtdnkgmlidhepbaaGreat
namespace Go.Proofs.YtdnkgmlidhepbaaGreat
open Go Go.RowKit
end Go.Proofs.YtdnkgmlidhepbaaGreat
namespace Go.Proofs.YtdnkgmlidhepbaaGreat
open Go Go.RowKit
structure Plb where
  a : Option Addr
  c : Nat
  q : Nat
def plb0 : Plb := ⟨none, 0, 0⟩
structure RdL (w : World) (g : Nat) (a : Option Addr) (bs : List (List Int)) (ps : List Plb) : Prop where
  r : 0 < bs.length → ∃ off, a = some ⟨g, off, none⟩ ∧ ∀ i, i < bs.length → w.cell? ⟨g, off + i, none⟩ = some (.slice (ps.getD i plb0).a (bs.getD i []).length (ps.getD i plb0).c)
  b : ∀ i, i < bs.length → Rd w (ps.getD i plb0).q (ps.getD i plb0).a .u8 (bs.getD i [])
theorem RdL.up {w w' : World} {g : Nat} {a : Option Addr} {bs : List (List Int)} {ps : List Plb} (h : RdL w g a bs ps) (n : Below w.heap.size w w') : RdL w' g a bs ps :=
  ⟨fun h0 => by
    obtain ⟨o, e, hc⟩ := h.r h0
    refine ⟨o, e, fun i hi => ?_⟩
    have := hc i hi
    rw [World.cell?_of_block (a := ⟨g, o + i, none⟩) (n.block g (block_lt_of_cell this))]
    exact this, fun i hi => (h.b i hi).up n⟩
def ctO (n : Nat) : Bool := decide (n = 0) || decide (2000 < n)
theorem certOut_any (w : World) (a : Option Addr) (c n : Nat) (hn : n ≤ 1048576) :
    Calls Tryz.prog 133 #[.agg #[.slice a n c]] w fun e w' => e = .returned (.bool (ctO n)) ∧ Below w.heap.size w w' := by
  have n1 : Hid (Below w.heap.size w (w.alloc (.cells #[.slice a n c] 63))) := (Below.refl _ _).alloc (Nat.le_refl _) _
  have E := hide (show ctO n = (decide (n = 0) || decide (2000 < n)) from rfl)
  generalize ctO n = f at *
  by_cases k0 : n = 0
  · subst k0
    obtain rfl : f = true := E.out
    go_enter Tryz.func133, Tryz.ntmps133
    go_wp2
    go_ret
    exact ⟨rfl, n1.out⟩
  · have e0 : ((n : Int) == 0) = false := by simp; omega
    by_cases k1 : 2000 < n
    · have EF : f = true := by rw [E.out]; simp [k1]
      subst EF
      have d1 : decide ((2000 : Int) < (n : Int)) = true := by simp; omega
      go_enter Tryz.func133, Tryz.ntmps133
      go_wp2
      go_ret
      exact ⟨rfl, n1.out⟩
    · have EF : f = false := by rw [E.out]; simp [k0, k1]
      subst EF
      have d1 : decide ((2000 : Int) < (n : Int)) = false := by simp; omega
      go_enter Tryz.func133, Tryz.ntmps133
      go_wp2
      go_ret
      exact ⟨rfl, n1.out⟩
end Go.Proofs.YtdnkgmlidhepbaaGreat
namespace Go.Proofs.YtdnkgmlidhepbaaGreat
open Go Go.RowKit
theorem RowB.nil (w : World) (base : Nat) : RowB w base (.slice none 0 0) [] := ⟨rfl, .inl ⟨rfl, rfl⟩⟩
end Go.Proofs.YtdnkgmlidhepbaaGreat
namespace Go.Proofs.YtdnkgmlidhepbaaGreat
open Go Go.RowKit
theorem bigL_take (n : Int) (t k : Nat) (h : k < t) : (bigL n t).take (k + 1) = (bigL n t).take k ++ [n / 256 ^ (t - 1 - k) % 256] := by
  rw [List.take_add_one]
  simp [bigL, h]
set_option maxHeartbeats 2000000 in
theorem appendNumber_any (w : World) (base : Nat) (v : Value) (xs : List Int) (R0 : RowB w base v xs) (hb : base ≤ w.heap.size) (n : Int) (t : Nat) (ht : t ≤ 4) (hl : xs.length ≤ 1073741824) :
    Calls Tryz.prog 95 #[v, .int .i64 n, .int .i64 (t : Int)] w fun e w' => ∃ v', e = .returned v' ∧ RowB w' base v' (xs ++ bigL n t) ∧ Below base w w' := by
  obtain ⟨i0, hi, hz0, hz1, hz2⟩ := info_parts Tryz.info5
  go_enter Tryz.func95, Tryz.ntmps95
  go_wp2
  go_loopw [0, 7, 9] (fun l _ i wr => ∃ k : Nat, k ≤ t ∧ i = .int .i64 k ∧ RowB wr base l (xs ++ (bigL n t).take k) ∧ Below base w wr) (fun _ _ i _ => t - (intOf i).toNat)
  case atStart => exact ⟨0, Nat.zero_le _, rfl, by simpa using R0, Below.refl _ _⟩
  case round =>
    obtain ⟨k, hk, rfl, R, hN⟩ := hrel
    by_cases hlt : k < t
    · have hs := hN.size
      have bt := bigL_take n t k hlt
      obtain ⟨x, hx⟩ : ∃ x, x = n / 256 ^ (t - 1 - k) % 256 := ⟨_, rfl⟩
      rw [← hx] at bt
      have BT := hide bt
      clear bt
      have n2 : Below wr.heap.size wr (wr.alloc (.cells #[.int .u8 x] 5)) := (Below.refl _ _).alloc (Nat.le_refl _) _
      obtain ⟨v3, w3, hap3, R3, n3⟩ := append_any (P := Tryz.prog) (wr.alloc (.cells #[.int .u8 x] 5)) 22 i0 Tryz.underlying22 hi hz0 hz1 hz2 base base _ _ (R.up n2) _ _ 1 [x] (blk_lit1 wr .u8 5 x).own0.rd (by simp) (by simp; omega) (Nat.le_refl _) (by simp; omega)
      rw [List.append_assoc, ← BT.out] at R3
      have N3 := (hN.trans (n2.mono (by omega))).trans n3
      clear R n2 n3 hN BT
      have k1 : (k : Int) < (t : Int) := by omega
      obtain ⟨d, hd⟩ : ∃ d, d = t - 1 - k := ⟨_, rfl⟩
      rw [← hd] at hx
      rcases (by omega : d = 0 ∨ d = 1 ∨ d = 2 ∨ d = 3) with rfl | rfl | rfl | rfl
      · have he : (t : Int) - 1 - (k : Int) = 0 := by omega
        clear hd
        simp at hx
        replace hx := hx.symm
        go_wp2_with (at_builtin; refine Lib.wpList_append_run _ rfl _ _ 22 22 rfl _ _ rfl rfl _ _ hap3 ?_)
        clear hap3
        go_roundw
        case rel => exact ⟨k + 1, by omega, by go_num, R3, N3⟩
        case measure => simp [intOf]; omega
      · have he : (t : Int) - 1 - (k : Int) = 1 := by omega
        clear hd
        simp at hx
        replace hx := hx.symm
        go_wp2_with (at_builtin; refine Lib.wpList_append_run _ rfl _ _ 22 22 rfl _ _ rfl rfl _ _ hap3 ?_)
        clear hap3
        go_roundw
        case rel => exact ⟨k + 1, by omega, by go_num, R3, N3⟩
        case measure => simp [intOf]; omega
      · have he : (t : Int) - 1 - (k : Int) = 2 := by omega
        clear hd
        simp at hx
        replace hx := hx.symm
        go_wp2_with (at_builtin; refine Lib.wpList_append_run _ rfl _ _ 22 22 rfl _ _ rfl rfl _ _ hap3 ?_)
        clear hap3
        go_roundw
        case rel => exact ⟨k + 1, by omega, by go_num, R3, N3⟩
        case measure => simp [intOf]; omega
      · have he : (t : Int) - 1 - (k : Int) = 3 := by omega
        clear hd
        simp at hx
        replace hx := hx.symm
        go_wp2_with (at_builtin; refine Lib.wpList_append_run _ rfl _ _ 22 22 rfl _ _ rfl rfl _ _ hap3 ?_)
        clear hap3
        go_roundw
        case rel => exact ⟨k + 1, by omega, by go_num, R3, N3⟩
        case measure => simp [intOf]; omega
    · obtain rfl : k = t := by omega
      rw [List.take_of_length_le (by rw [bigL_len]; exact Nat.le_refl _)] at R
      go_wp2
      go_ret
      exact ⟨_, rfl, R, hN⟩
def loL (xs : List Int) : List Int := bigL (xs.length : Int) 2 ++ xs
def lsL (ls : List (List UInt8)) : List Int := [(ls.length : Int)] ++ (ls.map shL).flatten
def clL (bs : List (List Int)) : List Int := [(bs.length : Int)] ++ (bs.map loL).flatten
theorem loL_len (l : List Int) : (loL l).length = l.length + 2 := by simp [loL, bigL_len]; omega
set_option maxHeartbeats 1000000 in
theorem appendLong_any (w : World) (base : Nat) (v : Value) (xs : List Int) (R0 : RowB w base v xs) (hb : base ≤ w.heap.size) (g : Nat) (a : Option Addr) (c : Nat) (us : List Int) (hr : Rd w g a .u8 us) (hc : a = none → c = 0) (hg : us.length = 0 ∨ g < base) (hl : xs.length ≤ 1073741824) (hz : us.length ≤ 1048576) :
    Calls Tryz.prog 94 #[v, .slice a us.length c] w fun e w' => ∃ v', e = .returned v' ∧ RowB w' base v' (xs ++ loL us) ∧ Below base w w' := by
  obtain ⟨i0, hi, hz0, hz1, hz2⟩ := info_parts Tryz.info5
  have C1 := hide (appendNumber_any w base v xs R0 hb (us.length : Int) 2 (by omega) hl)
  go_enter Tryz.func94, Tryz.ntmps94
  go_wp2_with fail
  refine C1.out.mono ?_
  rintro r w1 ⟨v1, rfl, R1, n1⟩
  have s1 := n1.size
  have hr1 : Rd w1 g a .u8 us := by
    by_cases h0 : 0 < us.length
    · exact hr.of_block (n1.block g (by omega))
    · exact fun h => absurd h h0
  obtain ⟨v2, w2, hap, R2, n2⟩ := append_any (P := Tryz.prog) w1 22 i0 Tryz.underlying22 hi hz0 hz1 hz2 base base _ _ R1 g a c us hr1 hc (by rw [List.length_append, bigL_len]; omega) (Nat.le_refl _) (by omega)
  rw [List.append_assoc] at R2
  have N2 := n1.trans n2
  clear R1 n1 n2 C1 R0 hr hr1 hg
  go_wp2_with (at_builtin; refine Lib.wpList_append_run _ rfl _ _ 22 22 rfl _ _ rfl rfl _ _ hap ?_)
  go_ret
  exact ⟨_, rfl, R2, N2⟩
theorem RdT.at_base {w w' : World} {g base : Nat} {a : Option Addr} {ls : List (List UInt8)} (h : RdT w g a ls) (hg : ls.length = 0 ∨ g < base) (n : Below base w w') : RdT w' g a ls := by
  by_cases h0 : 0 < ls.length
  · exact h.of_block (n.block g (by omega))
  · exact fun h1 => absurd h1 h0
theorem Rd.at_base {w w' : World} {g base : Nat} {a : Option Addr} {xs : List Int} (h : Rd w g a .u8 xs) (hg : xs.length = 0 ∨ g < base) (n : Below base w w') : Rd w' g a .u8 xs := by
  by_cases h0 : 0 < xs.length
  · exact h.of_block (n.block g (by omega))
  · exact fun h1 => absurd h1 h0
theorem sh_take (ls : List (List UInt8)) (k : Nat) (h : k < ls.length) : ((ls.map shL).take (k + 1)).flatten = ((ls.map shL).take k).flatten ++ shL (ls.getD k []) := by
  rw [List.take_add_one]
  simp [h]
theorem sh_sum (ls : List (List UInt8)) (B : Nat) (hz : ∀ l ∈ ls, l.length ≤ B) (k : Nat) : ((ls.map shL).take k).flatten.length ≤ k * (B + 1) := by
  induction k with
  | zero => simp
  | succ k ih =>
    by_cases h : k < ls.length
    · rw [sh_take ls k h, List.length_append, shL_len, Nat.succ_mul]
      have := hz (ls.getD k []) (by rw [List.getD_eq_getElem?_getD, List.getElem?_eq_getElem h]; exact List.getElem_mem h)
      omega
    · rw [List.take_of_length_le (by simp; omega)]
      rw [List.take_of_length_le (by simp; omega)] at ih
      rw [Nat.succ_mul]
      omega
set_option maxHeartbeats 1000000 in
theorem appendShorts_any (w : World) (base : Nat) (v : Value) (xs : List Int) (R0 : RowB w base v xs) (hb : base ≤ w.heap.size) (g : Nat) (a : Option Addr) (c : Nat) (ls : List (List UInt8)) (hr : RdT w g a ls) (hg : ls.length = 0 ∨ g < base) (hl : xs.length ≤ 536870912) (hn : ls.length ≤ 8) (hz : ∀ l ∈ ls, l.length ≤ 1048576) :
    Calls Tryz.prog 93 #[v, .slice a ls.length c] w fun e w' => ∃ v', e = .returned v' ∧ RowB w' base v' (xs ++ lsL ls) ∧ Below base w w' := by
  obtain ⟨i0, hi, hz0, hz1, hz2⟩ := info_parts Tryz.info5
  have n2 : Below w.heap.size w (w.alloc (.cells #[.int .u8 (ls.length : Int)] 5)) := (Below.refl _ _).alloc (Nat.le_refl _) _
  obtain ⟨v3, w3, hap3, R3, n3⟩ := append_any (P := Tryz.prog) (w.alloc (.cells #[.int .u8 (ls.length : Int)] 5)) 22 i0 Tryz.underlying22 hi hz0 hz1 hz2 base base _ _ (R0.up n2) _ _ 1 [(ls.length : Int)] (blk_lit1 w .u8 5 (ls.length : Int)).own0.rd (by simp) (by simp; omega) (Nat.le_refl _) (by simp; omega)
  have N3 := (n2.mono hb).trans n3
  have SUM := hide (sh_sum ls 1048576 hz)
  have HZ := hide hz
  clear n2 n3 R0 hz
  go_enter Tryz.func93, Tryz.ntmps93
  go_wp2_with (at_builtin; refine Lib.wpList_append_run _ rfl _ _ 22 22 rfl _ _ rfl rfl _ _ hap3 ?_)
  clear hap3
  go_loopw [0, 6, 15] (fun q _ i wr => ∃ k : Nat, k ≤ ls.length ∧ i = .int .i64 k ∧ RowB wr base q (xs ++ [(ls.length : Int)] ++ ((ls.map shL).take k).flatten) ∧ Below base w wr) (fun _ _ i _ => ls.length - (intOf i).toNat)
  case atStart => exact ⟨0, Nat.zero_le _, rfl, by simpa using R3, N3⟩
  case round =>
    obtain ⟨k, hk, rfl, R, hN⟩ := hrel
    clear R3 N3
    by_cases hlt : k < ls.length
    · have hs := hN.size
      obtain ⟨off, rfl, hc⟩ := (hr.at_base hg hN) (by omega)
      have t0 : (k : Int) < (ls.length : Int) := by omega
      have c1 := hc k hlt
      have ST := hide (sh_take ls k hlt)
      have zk : (ls.getD k []).length ≤ 1048576 := HZ.out _ (by rw [List.getD_eq_getElem?_getD, List.getElem?_eq_getElem hlt]; exact List.getElem_mem hlt)
      have CS := hide (appendShort_any wr base _ _ R (by omega) (ls.getD k []) (by
        have := SUM.out k
        have : k * (1048576 + 1) ≤ 8 * (1048576 + 1) := Nat.mul_le_mul_right _ (by omega)
        simp only [List.length_append, List.length_cons, List.length_nil]
        omega) zk)
      clear R hc zk hr
      generalize ls.getD k [] = x at *
      simp only [tx] at c1
      go_wp2_with fail
      refine CS.out.mono ?_
      rintro r w4 ⟨v4, rfl, R4, n4⟩
      rw [List.append_assoc, ← ST.out] at R4
      have N4 := hN.trans n4
      clear CS n4 hN ST c1
      go_wp2
      go_roundw
      case rel => exact ⟨k + 1, by omega, by go_num, R4, N4⟩
      case measure => simp [intOf]; omega
    · obtain rfl : k = ls.length := by omega
      rw [List.take_of_length_le (by simp), List.append_assoc] at R
      clear hr
      go_wp2
      go_ret
      exact ⟨_, rfl, R, hN⟩
end Go.Proofs.YtdnkgmlidhepbaaGreat
