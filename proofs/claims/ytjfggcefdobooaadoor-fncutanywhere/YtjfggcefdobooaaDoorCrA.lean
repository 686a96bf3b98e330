
/-
  Records cut: the cursor's number, a record's head read; the program's.
-/
import Derived.Test.YtjfggcefdobooaaDoorRcA
import Derived.Test.YtjfggcefdobooaaDoorNuA
import Derived.Test.YtjfggcefdobooaaDoorCuA
import Derived.Test.YtjfggcefdobooaaDoorBtA
import Derived.Test.YtjfggcefdobooaaDoorTcH
import Derived.Deep.Cut
namespace Go.Proofs.YtjfggcefdobooaaDoor
set_option maxRecDepth 100000
open Go Go.RowKit

theorem results_twoC {P : Program} {fn : Func} {p t : Tmp} {ty : TypeId} (h : fn.results = #[.cell p ty, .tmp t]) (tmps : Array Value) (w : World) (g : Nat) (cs : List Value) (d : TypeDesc) (v : Value)
    (hp : tmps.getD p undef = .pointer (some ⟨g, 0, none⟩)) (ht : tmps.getD t undef = v) (hc : w.rangeAt g 0 cs) (hu : P.underlying ty = some d) (hd : d.isRow = true) (hi : (P.info? ty).map (·.size) = some cs.length) :
    (results fn tmps).run P w = .ok (.tuple #[.agg cs.toArray, v]) w := by
  have hp' : tmps[p]?.getD undef = .pointer (some ⟨g, 0, none⟩) := by simpa using hp
  have ht' : tmps[t]?.getD undef = v := by simpa using ht
  simp [results, h, hp', ht', asAddr, run_loadVar_mid w g 0 ty cs d hc hu hd hi]
theorem iRh : (Tryd.prog.info? 43).map (·.size) = some 2 := by kernel_rfl
theorem rowRh : ∃ d, Tryd.prog.underlying 43 = some d ∧ d.isRow = true := ⟨_, Tryd.underlying43, rfl⟩
/-- The error of a head that is read (none: no one). -/
def rhE (a0 a1 : Addr) (xs : List Int) : Option Addr := if xs.length = 0 then some a0 else if isK (beN xs 0 1) = true then (if xs.length < 3 then some a0 else none) else some a1
set_option maxHeartbeats 4000000 in
theorem readHead_any (w : World) (g : Nat) (a : Option Addr) (c : Nat) (xs : List Int) (hr : Rd w g a .u8 xs) (hb : Byt xs) (hn : xs.length ≤ 1048576) (a0 a1 : Addr) (h0 : Sen w 0 a0) (h1 : Sen w 1 a1) :
    Calls Tryd.prog 27 #[.slice a xs.length c] w fun e w' => Below w.heap.size w w' ∧
      ((rhE a0 a1 xs = none ∧ e = .returned (.tuple #[.agg #[.int .i64 (beN xs 0 1), .int .i64 (beN xs 1 2)], .nilIface])) ∨ (∃ x, rhE a0 a1 xs = some x ∧ e = .returned (.tuple #[.agg #[.int .i64 0, .int .i64 0], erV x]))) := by
  obtain ⟨d1, hd1, hrow1⟩ := rowRh
  have n0 : Below w.heap.size w (w.alloc (.cells #[.int .i64 0, .int .i64 0] 43)) := (Below.refl _ _).alloc (Nat.le_refl _) _
  have Z0 : RwC (w.alloc (.cells #[.int .i64 0, .int .i64 0] 43)) w.heap.size [.int .i64 0, .int .i64 0] 43 := RwC.new w _ _
  have eR : Hid (rhE a0 a1 xs = if xs.length = 0 then some a0 else if isK (beN xs 0 1) = true then (if xs.length < 3 then some a0 else none) else some a1) := rfl
  generalize rhE a0 a1 xs = E at *
  by_cases hz : xs.length = 0
  · have u0 : ((xs.length : Int) == 0) = true := by rw [hz]; rfl
    have u1 : decide ((xs.length : Int) = 0) = true := decide_eq_true (by omega)
    have e1 : Hid (E = some a0) := by show _ = _; rw [eR.out, if_pos hz]
    clear eR hz hr
    go_enter Tryd.func27, Tryd.ntmps27
    go_upto_region 1 with fail
    generalize w.alloc (.cells #[.int .i64 0, .int .i64 0] 43) = wa at *
    have ZF : RwC ((wa.setCell ⟨w.heap.size, 0, none⟩ (.int .i64 0)).setCell ⟨w.heap.size, 1, none⟩ (.int .i64 0)) (w.heap.size) [.int .i64 0, .int .i64 0] 43 := (Z0.set 0 _).set 1 _
    have OF : Only (w.heap.size) wa ((wa.setCell ⟨w.heap.size, 0, none⟩ (.int .i64 0)).setCell ⟨w.heap.size, 1, none⟩ (.int .i64 0)) := (Only.setCell _ (w.heap.size) 0 _).trans (Only.setCell _ (w.heap.size) 1 _)
    have cg := (h0.up n0).c
    unfold erV at cg
    have kg : ((wa.setCell ⟨w.heap.size, 0, none⟩ (.int .i64 0)).setCell ⟨w.heap.size, 1, none⟩ (.int .i64 0)).cell? ⟨0, 0, none⟩ = some (.iface 80 (.pointer (some a0))) := (World.cell?_of_block (a := ⟨0, 0, none⟩) (OF.block 0 (by have : 0 < w.heap.size := block_lt_of_cell h0.c; omega))).trans cg
    have RR := ZF.rangeG
    have NF := n0.trans (OF.below (B := w.heap.size) (by omega))
    have x0 := Z0.c0
    have x1 := Z0.c1
    have f0 := Z0.free 0
    have f1 := Z0.free 1
    clear OF ZF
    go_wp2
    go_region
    all_goals
      go_wp2
      exact bodyPost_ret (v := .tuple #[.agg #[.int .i64 0, .int .i64 0], erV a0]) (results_twoC Tryd.results27 _ _ (w.heap.size) [.int .i64 0, .int .i64 0] d1 (erV a0) rfl rfl RR hd1 hrow1 iRh) rfl ⟨NF.drew, .inr ⟨a0, e1.out, rfl⟩⟩
  · have u0 : ((xs.length : Int) == 0) = false := beq_eq_false_iff_ne.2 (by omega)
    have u1 : decide ((xs.length : Int) = 0) = false := decide_eq_false (by omega)
    have gl := hr.lt (by omega)
    have KN := hide fun W => isKind_any W (beN xs 0 1)
    go_enter Tryd.func27, Tryd.ntmps27
    go_upto_region 1 with fail
    generalize w.alloc (.cells #[.int .i64 0, .int .i64 0] 43) = wa at *
    have n1 : Below wa.heap.size wa (wa.alloc (.cells #[.slice a xs.length c, .int .i64 0] 65)) := (Below.refl _ _).alloc (Nat.le_refl _) _
    have C0 : Cur (wa.alloc (.cells #[.slice a xs.length c, .int .i64 0] 65)) wa.heap.size (.slice a xs.length c) 0 := ⟨65, heap_alloc_new wa _⟩
    have lZ := Z0.lt
    have NM := hide (curNum_any (wa.alloc (.cells #[.slice a xs.length c, .int .i64 0] 65)) wa.heap.size g a c xs 0 1 C0 ((hr.up n0).up n1) hb (fun _ => by omega) (by omega) (by omega) (by omega))
    have N1 := nxt n0 n1
    have Z1 := Z0.up n1
    clear C0 n1
    go_wp2_with fail
    generalize wa.alloc (.cells #[.slice a xs.length c, .int .i64 0] 65) = wb at *
    refine NM.out.mono ?_
    rintro e w1 ⟨rfl, C1, O1⟩
    have N2 := N1.trans (O1.below (B := w.heap.size) (by have := n0.size; omega))
    have Z2 := Z1.onl O1 (by omega)
    clear NM N1 Z1
    go_wp2_with fail
    refine (KN.out w1).mono ?_
    rintro e w2 ⟨rfl, hw⟩
    have hw := hw.symm
    subst hw
    by_cases hk : isK (beN xs 0 1) = true
    · rw [hk]
      by_cases h3 : xs.length < 3
      · have u3 : decide ((xs.length : Int) < 3) = true := by simp; omega
        have e1 : Hid (E = some a0) := by show _ = _; rw [eR.out, if_neg hz, if_pos hk, if_pos h3]
        clear eR hz hr hk KN C1 O1
        have ZF : RwC ((w1.setCell ⟨w.heap.size, 0, none⟩ (.int .i64 0)).setCell ⟨w.heap.size, 1, none⟩ (.int .i64 0)) (w.heap.size) [.int .i64 0, .int .i64 0] 43 := (Z2.set 0 _).set 1 _
        have OF : Only (w.heap.size) w1 ((w1.setCell ⟨w.heap.size, 0, none⟩ (.int .i64 0)).setCell ⟨w.heap.size, 1, none⟩ (.int .i64 0)) := (Only.setCell _ (w.heap.size) 0 _).trans (Only.setCell _ (w.heap.size) 1 _)
        have cg := (h0.up N2).c
        unfold erV at cg
        have kg : ((w1.setCell ⟨w.heap.size, 0, none⟩ (.int .i64 0)).setCell ⟨w.heap.size, 1, none⟩ (.int .i64 0)).cell? ⟨0, 0, none⟩ = some (.iface 80 (.pointer (some a0))) := (World.cell?_of_block (a := ⟨0, 0, none⟩) (OF.block 0 (by have : 0 < w.heap.size := block_lt_of_cell h0.c; omega))).trans cg
        have RR := ZF.rangeG
        have NF := N2.trans (OF.below (B := w.heap.size) (by omega))
        have x0 := Z2.c0
        have x1 := Z2.c1
        have f0 := Z2.free 0
        have f1 := Z2.free 1
        clear OF ZF
        go_wp2
        go_region
        all_goals
          go_wp2
          exact bodyPost_ret (v := .tuple #[.agg #[.int .i64 0, .int .i64 0], erV a0]) (results_twoC Tryd.results27 _ _ (w.heap.size) [.int .i64 0, .int .i64 0] d1 (erV a0) rfl rfl RR hd1 hrow1 iRh) rfl ⟨NF.drew, .inr ⟨a0, e1.out, rfl⟩⟩
      · have u3 : decide ((xs.length : Int) < 3) = false := by simp; omega
        have e1 : Hid (E = none) := by show _ = _; rw [eR.out, if_neg hz, if_pos hk, if_neg h3]
        have NM := hide (curNum_any w1 wa.heap.size g a c xs 1 2 C1 (hr.up N2) hb (fun _ => by have := n0.size; omega) (by omega) (by omega) (by omega))
        clear eR hz hk KN C1
        go_wp2_with fail
        refine NM.out.mono ?_
        rintro e w3 ⟨rfl, C3, O3⟩
        have N3 := N2.trans (O3.below (B := w.heap.size) (by have := n0.size; omega))
        have Z3 := Z2.onl O3 (by omega)
        have ZF : RwC ((w3.setCell ⟨w.heap.size, 0, none⟩ (.int .i64 (beN xs 0 1))).setCell ⟨w.heap.size, 1, none⟩ (.int .i64 (beN xs 1 2))) w.heap.size [.int .i64 (beN xs 0 1), .int .i64 (beN xs 1 2)] 43 := (Z3.set 0 _).set 1 _
        have OF : Only w.heap.size w3 ((w3.setCell ⟨w.heap.size, 0, none⟩ (.int .i64 (beN xs 0 1))).setCell ⟨w.heap.size, 1, none⟩ (.int .i64 (beN xs 1 2))) := (Only.setCell _ w.heap.size 0 _).trans (Only.setCell _ w.heap.size 1 _)
        have RR := ZF.rangeG
        have NF := N3.trans (OF.below (B := w.heap.size) (by omega))
        have x0 := Z3.c0
        have x1 := Z3.c1
        have f0 := Z3.free 0
        have f1 := Z3.free 1
        clear OF ZF NM C3 O3 O1 hr
        go_wp2
        exact bodyPost_ret (v := .tuple #[.agg #[.int .i64 (beN xs 0 1), .int .i64 (beN xs 1 2)], .nilIface]) (results_twoC Tryd.results27 _ _ w.heap.size [.int .i64 (beN xs 0 1), .int .i64 (beN xs 1 2)] d1 .nilIface rfl rfl RR hd1 hrow1 iRh) rfl ⟨NF, .inl ⟨e1.out, rfl⟩⟩
    · have hk2 : isK (beN xs 0 1) = false := by simpa using hk
      rw [hk2]
      have e1 : Hid (E = some a1) := by show _ = _; rw [eR.out, if_neg hz, if_neg hk]
      clear eR hz hr hk hk2 KN C1 O1
      have ZF : RwC ((w1.setCell ⟨w.heap.size, 0, none⟩ (.int .i64 0)).setCell ⟨w.heap.size, 1, none⟩ (.int .i64 0)) (w.heap.size) [.int .i64 0, .int .i64 0] 43 := (Z2.set 0 _).set 1 _
      have OF : Only (w.heap.size) w1 ((w1.setCell ⟨w.heap.size, 0, none⟩ (.int .i64 0)).setCell ⟨w.heap.size, 1, none⟩ (.int .i64 0)) := (Only.setCell _ (w.heap.size) 0 _).trans (Only.setCell _ (w.heap.size) 1 _)
      have cg := (h1.up N2).c
      unfold erV at cg
      have kg : ((w1.setCell ⟨w.heap.size, 0, none⟩ (.int .i64 0)).setCell ⟨w.heap.size, 1, none⟩ (.int .i64 0)).cell? ⟨1, 0, none⟩ = some (.iface 80 (.pointer (some a1))) := (World.cell?_of_block (a := ⟨1, 0, none⟩) (OF.block 1 (by have : 1 < w.heap.size := block_lt_of_cell h1.c; omega))).trans cg
      have RR := ZF.rangeG
      have NF := N2.trans (OF.below (B := w.heap.size) (by omega))
      have x0 := Z2.c0
      have x1 := Z2.c1
      have f0 := Z2.free 0
      have f1 := Z2.free 1
      clear OF ZF
      go_wp2
      go_region
      all_goals
        go_wp2
        exact bodyPost_ret (v := .tuple #[.agg #[.int .i64 0, .int .i64 0], erV a1]) (results_twoC Tryd.results27 _ _ (w.heap.size) [.int .i64 0, .int .i64 0] d1 (erV a1) rfl rfl RR hd1 hrow1 iRh) rfl ⟨NF.drew, .inr ⟨a1, e1.out, rfl⟩⟩
end Go.Proofs.YtjfggcefdobooaaDoor
