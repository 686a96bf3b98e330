
/-
  A ticket's state out of bytes; the program's (written by gens/dsi.py).
-/
import Derived.Test.YtjdbnlbmhnpifaaDsB
import Derived.Test.YtjdbnlbmhnpifaaBeQ
import Derived.Defers
import Derived.Recover
namespace Go.Proofs.Ytjdbnlbmhnpifaa
open Go Go.RowKit

theorem results_cellD {P : Program} {fn : Func} {p : Tmp} {ty : TypeId} (h : fn.results = #[.cell p ty]) (tmps : Array Value) (w : World) (g : Nat) (cs : List Value) (d : TypeDesc)
    (hp : tmps.getD p undef = .pointer (some ⟨g, 0, none⟩)) (hc : w.rangeAt g 0 cs) (hu : P.underlying ty = some d) (hd : d.isRow = true) (hi : (P.info? ty).map (·.size) = some cs.length) :
    (results fn tmps).run P w = .ok (.agg cs.toArray) w := results_cellG h tmps w g cs d hp hc hu hd hi
theorem dcCatch_pan (p : Nat) (u : TypeId) (pv : Value) (w : World) (hT : RwC w p [.bool false, .slice none 0 0, .slice none 0 0, .int .i64 0, .int .i64 0, .string ⟨#[]⟩, .string ⟨#[]⟩, .int .i64 0] 36) :
    CallsD Try.prog 38 #[.pointer (some ⟨p, 0, none⟩)] (.panicking [{ v := .iface u pv, recovered := false }]) w fun e u' w' =>
      e = .returned (.tuple #[]) ∧ u' = .panicking [{ v := .iface u pv, recovered := true }] ∧ Only p w w' ∧ RwC w' p [.bool false, .slice none 0 0, .slice none 0 0, .int .i64 0, .int .i64 0, .string ⟨#[]⟩, .string ⟨#[]⟩, .int .i64 0] 36 := by
  have c0 : w.cell? ⟨p, 0, none⟩ = some (.bool false) := hT.cell 0
  have f0 := hT.free 0
  have c1 : w.cell? ⟨p, 1, none⟩ = some (.slice none 0 0) := hT.cell 1
  have f1 := hT.free 1
  have c2 : w.cell? ⟨p, 2, none⟩ = some (.slice none 0 0) := hT.cell 2
  have f2 := hT.free 2
  have c3 : w.cell? ⟨p, 3, none⟩ = some (.int .i64 0) := hT.cell 3
  have f3 := hT.free 3
  have c4 : w.cell? ⟨p, 4, none⟩ = some (.int .i64 0) := hT.cell 4
  have f4 := hT.free 4
  have c5 : w.cell? ⟨p, 5, none⟩ = some (.string ⟨#[]⟩) := hT.cell 5
  have f5 := hT.free 5
  have c6 : w.cell? ⟨p, 6, none⟩ = some (.string ⟨#[]⟩) := hT.cell 6
  have f6 := hT.free 6
  have c7 : w.cell? ⟨p, 7, none⟩ = some (.int .i64 0) := hT.cell 7
  have f7 := hT.free 7
  have K : Hid (RwC ((((((((w.setCell ⟨p, 0, none⟩ (.bool false)).setCell ⟨p, 1, none⟩ (.slice none 0 0)).setCell ⟨p, 2, none⟩ (.slice none 0 0)).setCell ⟨p, 3, none⟩ (.int .i64 0)).setCell ⟨p, 4, none⟩ (.int .i64 0)).setCell ⟨p, 5, none⟩ (.string ⟨#[]⟩)).setCell ⟨p, 6, none⟩ (.string ⟨#[]⟩)).setCell ⟨p, 7, none⟩ (.int .i64 0)) p [.bool false, .slice none 0 0, .slice none 0 0, .int .i64 0, .int .i64 0, .string ⟨#[]⟩, .string ⟨#[]⟩, .int .i64 0] 36) := ((((((((hT.set 0 (.bool false)).set 1 (.slice none 0 0)).set 2 (.slice none 0 0)).set 3 (.int .i64 0)).set 4 (.int .i64 0)).set 5 (.string ⟨#[]⟩)).set 6 (.string ⟨#[]⟩)).set 7 (.int .i64 0))
  have O : Hid (Only p w ((((((((w.setCell ⟨p, 0, none⟩ (.bool false)).setCell ⟨p, 1, none⟩ (.slice none 0 0)).setCell ⟨p, 2, none⟩ (.slice none 0 0)).setCell ⟨p, 3, none⟩ (.int .i64 0)).setCell ⟨p, 4, none⟩ (.int .i64 0)).setCell ⟨p, 5, none⟩ (.string ⟨#[]⟩)).setCell ⟨p, 6, none⟩ (.string ⟨#[]⟩)).setCell ⟨p, 7, none⟩ (.int .i64 0))) := ((((((((Only.refl p w).trans (Only.setCell _ p 0 _)).trans (Only.setCell _ p 1 _)).trans (Only.setCell _ p 2 _)).trans (Only.setCell _ p 3 _)).trans (Only.setCell _ p 4 _)).trans (Only.setCell _ p 5 _)).trans (Only.setCell _ p 6 _)).trans (Only.setCell _ p 7 _)
  clear hT
  refine callsD_of_wpS Try.func38 rfl fun c₀ cs hu => ?_
  apply wpS_seq
  apply wpS_region
  simp [wpOpsS, go_sem, recoverD, hu, Try.ntmps38, Exit.thenS]
  refine wpS_cond (t := true) (by simp [Act.eval, Array.replicate]) ?_
  simp only [if_true]
  refine wpS_of_wp ?_
  go_wp2
  exact ⟨rfl, _, rfl, .tuple #[], by simp [results, Try.results38, go_sem], rfl, rfl, O.out, K.out⟩
theorem dcCatch_idle (p : Addr) (w : World) :
    CallsD Try.prog 38 #[.pointer (some p)] .returning w fun e u' w' => e = .returned (.tuple #[]) ∧ u' = .returning ∧ w' = w := by
  refine callsD_of_wpS Try.func38 rfl fun c₀ cs hu => ?_
  apply wpS_seq
  apply wpS_region
  simp [wpOpsS, go_sem, recoverD, hu, Try.ntmps38, Exit.thenS]
  refine wpS_cond (t := false) (by simp [Act.eval, Array.replicate]) ?_
  simp only [Bool.false_eq_true, if_false]
  refine wpS_of_wp (wp_skip ?_)
  cases c₀
  simp_all [bodyPostS, results, Try.results38]
set_option maxHeartbeats 16000000 in
theorem implDcS_any (w : World) (g : Nat) (a : Option Addr) (c : Nat) (b : List Int) (hr : Rd w g a .u8 b) (hb : Byt b) (hc0 : a = none → c = 0) (hc : b.length ≤ c) (hl : b.length ≤ 1048576) :
    Calls Try.prog 19 #[.slice a b.length c] w fun e w' => NewD w.heap.size w' e b ∧ Below w.heap.size w w' := by
  have hmf : ∀ (fn : Fn) (first cap : Array Value) (w : World), (Instr.makeFunc fn first cap).run Try.prog w = .ok (.func fn first cap) w := fun _ _ _ _ => rfl
  obtain ⟨dR, hdR, hrowR⟩ := rowSr
  have z1 : (w.alloc (.cells #[.bool false, .slice none 0 0, .slice none 0 0, .int .i64 0, .int .i64 0, .string ⟨#[]⟩, .string ⟨#[]⟩, .int .i64 0] 36)).heap.size = w.heap.size + 1 := by simp
  have n1 : Below w.heap.size w (w.alloc (.cells #[.bool false, .slice none 0 0, .slice none 0 0, .int .i64 0, .int .i64 0, .string ⟨#[]⟩, .string ⟨#[]⟩, .int .i64 0] 36)) := (Below.refl _ _).alloc (Nat.le_refl _) _
  have n2 : Below (w.alloc (.cells #[.bool false, .slice none 0 0, .slice none 0 0, .int .i64 0, .int .i64 0, .string ⟨#[]⟩, .string ⟨#[]⟩, .int .i64 0] 36)).heap.size (w.alloc (.cells #[.bool false, .slice none 0 0, .slice none 0 0, .int .i64 0, .int .i64 0, .string ⟨#[]⟩, .string ⟨#[]⟩, .int .i64 0] 36)) ((w.alloc (.cells #[.bool false, .slice none 0 0, .slice none 0 0, .int .i64 0, .int .i64 0, .string ⟨#[]⟩, .string ⟨#[]⟩, .int .i64 0] 36)).alloc (.cells #[.slice a b.length c, .int .i64 0] 55)) := (Below.refl _ _).alloc (Nat.le_refl _) _
  have Q0 : RwC (w.alloc (.cells #[.bool false, .slice none 0 0, .slice none 0 0, .int .i64 0, .int .i64 0, .string ⟨#[]⟩, .string ⟨#[]⟩, .int .i64 0] 36)) w.heap.size [.bool false, .slice none 0 0, .slice none 0 0, .int .i64 0, .int .i64 0, .string ⟨#[]⟩, .string ⟨#[]⟩, .int .i64 0] 36 := RwC.new w _ _
  have C0 : Cur ((w.alloc (.cells #[.bool false, .slice none 0 0, .slice none 0 0, .int .i64 0, .int .i64 0, .string ⟨#[]⟩, .string ⟨#[]⟩, .int .i64 0] 36)).alloc (.cells #[.slice a b.length c, .int .i64 0] 55)) (w.alloc (.cells #[.bool false, .slice none 0 0, .slice none 0 0, .int .i64 0, .int .i64 0, .string ⟨#[]⟩, .string ⟨#[]⟩, .int .i64 0] 36)).heap.size (.slice a b.length c) ((0 : Nat) : Int) := ⟨55, heap_alloc_new _ _⟩
  have N := nxt n1 n2
  replace Q0 := Q0.up n2
  rw [z1] at C0
  have zq := C0.lt
  have lg : 0 < b.length → g ≠ w.heap.size + 1 := fun h => by have := hr.lt h; omega
  have ST := hide (state_any _ (w.heap.size + 1) g a c b C0 (hr.up N) hb lg hc0 hc hl)
  have L1 := hide (dn1_is hb)
  have L2 := hide (dn2_is hb)
  clear n1 n2 z1 C0
  go_enter_defers Try.func19, Try.ntmps19
  go_wp2_with fail
  generalize (w.alloc (.cells #[.bool false, .slice none 0 0, .slice none 0 0, .int .i64 0, .int .i64 0, .string ⟨#[]⟩, .string ⟨#[]⟩, .int .i64 0] 36)).alloc (.cells #[.slice a b.length c, .int .i64 0] 55) = v0 at *
  refine ST.out.mono ?_
  rintro e v1 ⟨h, K1⟩
  have z1 := K1.size
  replace N := N.trans (K1.below (B := w.heap.size) (by omega) (by omega))
  replace Q0 := Q0.kp K1 (by omega)
  clear ST K1
  rcases h with ⟨h0, gX, gY, rfl, BX, BY, yX, yY⟩ | ⟨h0, t, v, rfl⟩
  · have T0 : RwC (v1.alloc (.cells #[.slice (some ⟨gX, 0, none⟩) 32 32, .slice (some ⟨gY, 0, none⟩) 32 32, .int .i64 (dM b), .int .i64 (dL b), .string ⟨⟨dH b⟩⟩, .string ⟨⟨dP b⟩⟩, .int .i64 (dE b)] 27)) v1.heap.size [.slice (some ⟨gX, 0, none⟩) 32 32, .slice (some ⟨gY, 0, none⟩) 32 32, .int .i64 (dM b), .int .i64 (dL b), .string ⟨⟨dH b⟩⟩, .string ⟨⟨dP b⟩⟩, .int .i64 (dE b)] 27 := RwC.new v1 _ _
    have n3 : Below v1.heap.size v1 (v1.alloc (.cells #[.slice (some ⟨gX, 0, none⟩) 32 32, .slice (some ⟨gY, 0, none⟩) 32 32, .int .i64 (dM b), .int .i64 (dL b), .string ⟨⟨dH b⟩⟩, .string ⟨⟨dP b⟩⟩, .int .i64 (dE b)] 27)) := (Below.refl _ _).alloc (Nat.le_refl _) _
    have lX := BX.lt
    have lY := BY.lt
    have zt : v1.heap.size < (v1.alloc (.cells #[.slice (some ⟨gX, 0, none⟩) 32 32, .slice (some ⟨gY, 0, none⟩) 32 32, .int .i64 (dM b), .int .i64 (dL b), .string ⟨⟨dH b⟩⟩, .string ⟨⟨dP b⟩⟩, .int .i64 (dE b)] 27)).heap.size := T0.lt
    replace Q0 := Q0.up n3
    replace BX := BX.up n3
    replace BY := BY.up n3
    replace N := nxt N n3
    obtain ⟨q, hq⟩ : ∃ q, q = v1.heap.size := ⟨_, rfl⟩
    rw [← hq] at T0 zt
    have lqv : v1.heap.size ≤ q := Nat.le_of_eq hq.symm
    clear n3
    have DB := hide (dsB_form h0)
    have HL := hide (show (dH b).length ≤ 1048576 by rw [dH_len]; have := L1.out; omega)
    have PL := hide (show (dP b).length ≤ 1048576 by rw [dP_len]; have := L2.out; omega)
    have EN := hide (implEnS_any _ (dM b) (dL b) (dH b) (dP b) (dE b) gX (some ⟨gX, 0, none⟩) 32 (dX b) BX.own0.rd (fun h => nomatch h) gY (some ⟨gY, 0, none⟩) 32 (dY b) BY.own0.rd (fun h => nomatch h) HL.out PL.out)
    rw [dX_len, dY_len] at EN
    have BE : Hid (Byt (esA (dX b) (dY b) (dM b) (dL b) (dH b) (dP b) (dE b))) := byt_esA (tkB_byt hb 0 32) (tkB_byt hb 32 32) _ _ _ _ _
    generalize esA (dX b) (dY b) (dM b) (dL b) (dH b) (dP b) (dE b) = E at *
    clear HL PL L1 L2 h0
    have t0 : (v1.alloc (.cells #[.slice (some ⟨gX, 0, none⟩) 32 32, .slice (some ⟨gY, 0, none⟩) 32 32, .int .i64 (dM b), .int .i64 (dL b), .string ⟨⟨dH b⟩⟩, .string ⟨⟨dP b⟩⟩, .int .i64 (dE b)] 27)).cell? ⟨q, 0, none⟩ = some (.slice (some ⟨gX, 0, none⟩) 32 32) := T0.cell 0
    have t1 : (v1.alloc (.cells #[.slice (some ⟨gX, 0, none⟩) 32 32, .slice (some ⟨gY, 0, none⟩) 32 32, .int .i64 (dM b), .int .i64 (dL b), .string ⟨⟨dH b⟩⟩, .string ⟨⟨dP b⟩⟩, .int .i64 (dE b)] 27)).cell? ⟨q, 1, none⟩ = some (.slice (some ⟨gY, 0, none⟩) 32 32) := T0.cell 1
    have t2 : (v1.alloc (.cells #[.slice (some ⟨gX, 0, none⟩) 32 32, .slice (some ⟨gY, 0, none⟩) 32 32, .int .i64 (dM b), .int .i64 (dL b), .string ⟨⟨dH b⟩⟩, .string ⟨⟨dP b⟩⟩, .int .i64 (dE b)] 27)).cell? ⟨q, 2, none⟩ = some (.int .i64 (dM b)) := T0.cell 2
    have t3 : (v1.alloc (.cells #[.slice (some ⟨gX, 0, none⟩) 32 32, .slice (some ⟨gY, 0, none⟩) 32 32, .int .i64 (dM b), .int .i64 (dL b), .string ⟨⟨dH b⟩⟩, .string ⟨⟨dP b⟩⟩, .int .i64 (dE b)] 27)).cell? ⟨q, 3, none⟩ = some (.int .i64 (dL b)) := T0.cell 3
    have t4 : (v1.alloc (.cells #[.slice (some ⟨gX, 0, none⟩) 32 32, .slice (some ⟨gY, 0, none⟩) 32 32, .int .i64 (dM b), .int .i64 (dL b), .string ⟨⟨dH b⟩⟩, .string ⟨⟨dP b⟩⟩, .int .i64 (dE b)] 27)).cell? ⟨q, 4, none⟩ = some (.string ⟨⟨dH b⟩⟩) := T0.cell 4
    have t5 : (v1.alloc (.cells #[.slice (some ⟨gX, 0, none⟩) 32 32, .slice (some ⟨gY, 0, none⟩) 32 32, .int .i64 (dM b), .int .i64 (dL b), .string ⟨⟨dH b⟩⟩, .string ⟨⟨dP b⟩⟩, .int .i64 (dE b)] 27)).cell? ⟨q, 5, none⟩ = some (.string ⟨⟨dP b⟩⟩) := T0.cell 5
    have t6 : (v1.alloc (.cells #[.slice (some ⟨gX, 0, none⟩) 32 32, .slice (some ⟨gY, 0, none⟩) 32 32, .int .i64 (dM b), .int .i64 (dL b), .string ⟨⟨dH b⟩⟩, .string ⟨⟨dP b⟩⟩, .int .i64 (dE b)] 27)).cell? ⟨q, 6, none⟩ = some (.int .i64 (dE b)) := T0.cell 6
    go_wp2_with fail
    rw [← hq]
    clear hq
    generalize v1.alloc (.cells #[.slice (some ⟨gX, 0, none⟩) 32 32, .slice (some ⟨gY, 0, none⟩) 32 32, .int .i64 (dM b), .int .i64 (dL b), .string ⟨⟨dH b⟩⟩, .string ⟨⟨dP b⟩⟩, .int .i64 (dE b)] 27) = y1 at *
    refine EN.out.mono ?_
    rintro e y2 ⟨v2, rfl, R2, m2⟩
    obtain ⟨a2, c2, g2, rfl, D2, -, -, -⟩ := R2.rd
    have zz := m2.size
    replace N := nxt N m2
    replace Q0 := Q0.up m2
    replace BX := BX.up m2
    replace BY := BY.up m2
    replace T0 := T0.up m2
    have SA := hide (bytesEqual_any y2 g2 g a2 a c2 c E b D2 (hr.up N) BE.out hb)
    clear EN R2 m2 D2 BE t0 t1 t2 t3 t4 t5 t6
    go_wp2_with fail
    refine SA.out.mono ?_
    rintro e y3 ⟨rfl, h3⟩
    have h3 := h3.symm
    subst h3
    by_cases hE : E = b
    · have DG := hide (DB.out.trans (decide_eq_true hE))
      rw [decide_eq_true hE]
      clear SA DB hE
      have t0 : y2.cell? ⟨q, 0, none⟩ = some (.slice (some ⟨gX, 0, none⟩) 32 32) := T0.cell 0
      have t1 : y2.cell? ⟨q, 1, none⟩ = some (.slice (some ⟨gY, 0, none⟩) 32 32) := T0.cell 1
      have t2 : y2.cell? ⟨q, 2, none⟩ = some (.int .i64 (dM b)) := T0.cell 2
      have t3 : y2.cell? ⟨q, 3, none⟩ = some (.int .i64 (dL b)) := T0.cell 3
      have t4 : y2.cell? ⟨q, 4, none⟩ = some (.string ⟨⟨dH b⟩⟩) := T0.cell 4
      have t5 : y2.cell? ⟨q, 5, none⟩ = some (.string ⟨⟨dP b⟩⟩) := T0.cell 5
      have t6 : y2.cell? ⟨q, 6, none⟩ = some (.int .i64 (dE b)) := T0.cell 6
      have qc0 : y2.cell? ⟨w.heap.size, 0, none⟩ = some (.bool false) := Q0.cell 0
      have qf0 := Q0.free 0
      have qc1 : y2.cell? ⟨w.heap.size, 1, none⟩ = some (.slice none 0 0) := Q0.cell 1
      have qf1 := Q0.free 1
      have qc2 : y2.cell? ⟨w.heap.size, 2, none⟩ = some (.slice none 0 0) := Q0.cell 2
      have qf2 := Q0.free 2
      have qc3 : y2.cell? ⟨w.heap.size, 3, none⟩ = some (.int .i64 0) := Q0.cell 3
      have qf3 := Q0.free 3
      have qc4 : y2.cell? ⟨w.heap.size, 4, none⟩ = some (.int .i64 0) := Q0.cell 4
      have qf4 := Q0.free 4
      have qc5 : y2.cell? ⟨w.heap.size, 5, none⟩ = some (.string ⟨#[]⟩) := Q0.cell 5
      have qf5 := Q0.free 5
      have qc6 : y2.cell? ⟨w.heap.size, 6, none⟩ = some (.string ⟨#[]⟩) := Q0.cell 6
      have qf6 := Q0.free 6
      have qc7 : y2.cell? ⟨w.heap.size, 7, none⟩ = some (.int .i64 0) := Q0.cell 7
      have qf7 := Q0.free 7
      have RF : RwC ((((((((y2.setCell ⟨w.heap.size, 0, none⟩ (.bool true)).setCell ⟨w.heap.size, 1, none⟩ (.slice (some ⟨gX, 0, none⟩) 32 32)).setCell ⟨w.heap.size, 2, none⟩ (.slice (some ⟨gY, 0, none⟩) 32 32)).setCell ⟨w.heap.size, 3, none⟩ (.int .i64 (dM b))).setCell ⟨w.heap.size, 4, none⟩ (.int .i64 (dL b))).setCell ⟨w.heap.size, 5, none⟩ (.string ⟨⟨dH b⟩⟩)).setCell ⟨w.heap.size, 6, none⟩ (.string ⟨⟨dP b⟩⟩)).setCell ⟨w.heap.size, 7, none⟩ (.int .i64 (dE b))) w.heap.size [.bool true, .slice (some ⟨gX, 0, none⟩) 32 32, .slice (some ⟨gY, 0, none⟩) 32 32, .int .i64 (dM b), .int .i64 (dL b), .string ⟨⟨dH b⟩⟩, .string ⟨⟨dP b⟩⟩, .int .i64 (dE b)] 36 := ((((((((Q0.set 0 (.bool true)).set 1 (.slice (some ⟨gX, 0, none⟩) 32 32)).set 2 (.slice (some ⟨gY, 0, none⟩) 32 32)).set 3 (.int .i64 (dM b))).set 4 (.int .i64 (dL b))).set 5 (.string ⟨⟨dH b⟩⟩)).set 6 (.string ⟨⟨dP b⟩⟩)).set 7 (.int .i64 (dE b)))
      have OF : Only w.heap.size y2 ((((((((y2.setCell ⟨w.heap.size, 0, none⟩ (.bool true)).setCell ⟨w.heap.size, 1, none⟩ (.slice (some ⟨gX, 0, none⟩) 32 32)).setCell ⟨w.heap.size, 2, none⟩ (.slice (some ⟨gY, 0, none⟩) 32 32)).setCell ⟨w.heap.size, 3, none⟩ (.int .i64 (dM b))).setCell ⟨w.heap.size, 4, none⟩ (.int .i64 (dL b))).setCell ⟨w.heap.size, 5, none⟩ (.string ⟨⟨dH b⟩⟩)).setCell ⟨w.heap.size, 6, none⟩ (.string ⟨⟨dP b⟩⟩)).setCell ⟨w.heap.size, 7, none⟩ (.int .i64 (dE b))) := ((((((((Only.refl w.heap.size y2).trans (Only.setCell _ w.heap.size 0 _)).trans (Only.setCell _ w.heap.size 1 _)).trans (Only.setCell _ w.heap.size 2 _)).trans (Only.setCell _ w.heap.size 3 _)).trans (Only.setCell _ w.heap.size 4 _)).trans (Only.setCell _ w.heap.size 5 _)).trans (Only.setCell _ w.heap.size 6 _)).trans (Only.setCell _ w.heap.size 7 _)
      have NF := hide (N.trans (OF.below (B := w.heap.size) (Nat.le_refl _)))
      have BX2 := hide (BX.of_block (OF.block gX (by omega)))
      have BY2 := hide (BY.of_block (OF.block gY (by omega)))
      clear OF
      go_wp2
      generalize (((((((y2.setCell ⟨w.heap.size, 0, none⟩ (.bool true)).setCell ⟨w.heap.size, 1, none⟩ (.slice (some ⟨gX, 0, none⟩) 32 32)).setCell ⟨w.heap.size, 2, none⟩ (.slice (some ⟨gY, 0, none⟩) 32 32)).setCell ⟨w.heap.size, 3, none⟩ (.int .i64 (dM b))).setCell ⟨w.heap.size, 4, none⟩ (.int .i64 (dL b))).setCell ⟨w.heap.size, 5, none⟩ (.string ⟨⟨dH b⟩⟩)).setCell ⟨w.heap.size, 6, none⟩ (.string ⟨⟨dP b⟩⟩)).setCell ⟨w.heap.size, 7, none⟩ (.int .i64 (dE b)) = y4 at *
      refine leaves_cons (f := 38) (args := #[.pointer (some ⟨w.heap.size, 0, none⟩)]) (by simp) (by simp [go_sem]) ?_
      refine (dcCatch_idle _ _).mono ?_
      rintro e u' w4 ⟨rfl, rfl, h4⟩
      have h4 := h4.symm
      subst h4
      have RR := RF.rangeG
      show ∃ v, (results Try.f19 _).run Try.prog y4 = .ok v y4 ∧ (NewD w.heap.size y4 (.returned v) b ∧ Below w.heap.size w y4)
      exact ⟨_, results_cellD Try.results19 _ y4 w.heap.size _ dR rfl RR hdR hrowR iSr, NewD.good DG.out BX2.out BY2.out (by omega) (by omega) (by omega), NF.out⟩
    · have DG := hide (DB.out.trans (decide_eq_false hE))
      rw [decide_eq_false hE]
      clear SA DB hE
      go_wp2
      refine leaves_cons (f := 38) (args := #[.pointer (some ⟨w.heap.size, 0, none⟩)]) (by simp) (by simp [go_sem]) ?_
      refine (dcCatch_pan w.heap.size _ _ _ Q0).mono ?_
      rintro e u' w4 ⟨rfl, rfl, O4, T4⟩
      have RR := T4.rangeG
      have KF : w.heap.size + 1 < w4.heap.size := by rw [O4.size]; omega
      have NF := N.trans (O4.below (B := w.heap.size) (Nat.le_refl _))
      show ∃ v, (results Try.f19 _).run Try.prog w4 = .ok v w4 ∧ (NewD w.heap.size w4 (.returned v) b ∧ Below w.heap.size w w4)
      exact ⟨_, results_cellD Try.results19 _ w4 w.heap.size _ dR rfl RR hdR hrowR iSr, NewD.bad DG.out (g := w.heap.size) (g' := w.heap.size + 1) (by omega) (Nat.le_refl _) (by omega) (by omega) KF, NF⟩
  · have DG := hide (dsB_short h0)
    clear h0
    go_wp2
    refine leaves_cons (f := 38) (args := #[.pointer (some ⟨w.heap.size, 0, none⟩)]) (by simp) (by simp [go_sem]) ?_
    refine (dcCatch_pan w.heap.size _ _ _ Q0).mono ?_
    rintro e u' w4 ⟨rfl, rfl, O4, T4⟩
    have RR := T4.rangeG
    have KF : w.heap.size + 1 < w4.heap.size := by rw [O4.size]; omega
    have NF := N.trans (O4.below (B := w.heap.size) (Nat.le_refl _))
    show ∃ v, (results Try.f19 _).run Try.prog w4 = .ok v w4 ∧ (NewD w.heap.size w4 (.returned v) b ∧ Below w.heap.size w w4)
    exact ⟨_, results_cellD Try.results19 _ w4 w.heap.size _ dR rfl RR hdR hrowR iSr, NewD.bad DG.out (g := w.heap.size) (g' := w.heap.size + 1) (by omega) (Nat.le_refl _) (by omega) (by omega) KF, NF⟩
end Go.Proofs.Ytjdbnlbmhnpifaa
