
/-
  The program's DecodeTime: the panics are caught.
-/
import Derived.Test.YtakcpkfofgiehaaDoorCuF
import Derived.Defers
import Derived.Recover
namespace Go.Proofs.YtakcpkfofgiehaaDoor
set_option maxRecDepth 100000
open Go Go.RowKit

/-- The deferred function, where the frame panics. -/
theorem dtCatch_pan (p : Nat) (u : TypeId) (pv x y : Value) (w : World) (hT : Tl w p x y) :
    CallsD Tryd.prog 26 #[.pointer (some ⟨p, 0, none⟩)] (.panicking [{ v := .iface u pv, recovered := false }]) w fun e u' w' =>
      e = .returned (.tuple #[]) ∧ u' = .panicking [{ v := .iface u pv, recovered := true }] ∧ Only p w w' ∧ Tl w' p (.bool false) (.int .i64 0) := by
  have c0 := hT.c0
  have c1 := hT.c1
  have f0 := hT.fr 0
  have f1 := hT.fr 1
  have K : Hid (Tl ((w.setCell ⟨p, 0, none⟩ (.bool false)).setCell ⟨p, 1, none⟩ (.int .i64 0)) p (.bool false) (.int .i64 0)) := (hT.set0 _).set1 _
  have O : Hid (Only p w ((w.setCell ⟨p, 0, none⟩ (.bool false)).setCell ⟨p, 1, none⟩ (.int .i64 0))) := (Only.setCell w p 0 _).trans (Only.setCell _ p 1 _)
  clear hT
  refine callsD_of_wpS Tryd.func26 rfl fun c₀ cs hu => ?_
  apply wpS_seq
  apply wpS_region
  simp [wpOpsS, go_sem, recoverD, hu, Tryd.ntmps26, Exit.thenS]
  refine wpS_cond (t := true) (by simp [Act.eval, Array.replicate]) ?_
  simp only [if_true]
  refine wpS_of_wp ?_
  go_wp2
  exact ⟨rfl, _, rfl, .tuple #[], by simp [results, Tryd.results26, go_sem], rfl, rfl, O.out, K.out⟩

theorem dtCatch_idle (p : Addr) (w : World) :
    CallsD Tryd.prog 26 #[.pointer (some p)] .returning w fun e u' w' => e = .returned (.tuple #[]) ∧ u' = .returning ∧ w' = w := by
  refine callsD_of_wpS Tryd.func26 rfl fun c₀ cs hu => ?_
  apply wpS_seq
  apply wpS_region
  simp [wpOpsS, go_sem, recoverD, hu, Tryd.ntmps26, Exit.thenS]
  refine wpS_cond (t := false) (by simp [Act.eval, Array.replicate]) ?_
  simp only [Bool.false_eq_true, if_false]
  refine wpS_of_wp (wp_skip ?_)
  cases c₀
  simp_all [bodyPostS, results, Tryd.results26]

set_option maxHeartbeats 1000000 in
theorem implDecodeTime_any (w : World) (g : Nat) (a : Option Addr) (c : Nat) (xs : List Int) (hr : Rd w g a .u8 xs) (hb : Byt xs) (hl : xs.length ≤ 1048576) (hM : HasM w) :
    Calls Tryd.prog 13 #[.slice a xs.length c] w fun e w' => e = .returned (.agg #[.bool (tmB xs), .int .i64 (tmV xs)]) ∧ Below w.heap.size w w' := by
  have hmf : ∀ (fn : Fn) (first cap : Array Value) (w : World), (Instr.makeFunc fn first cap).run Tryd.prog w = .ok (.func fn first cap) w := fun _ _ _ _ => rfl
  have n0 : Below w.heap.size w (w.alloc (.cells #[.bool false, .int .i64 0] 28)) := (Below.refl _ _).alloc (Nat.le_refl _) _
  have T0 := Tl.new w (.bool false) (.int .i64 0) 28
  have z0 : (w.alloc (.cells #[.bool false, .int .i64 0] 28)).heap.size = w.heap.size + 1 := by simp
  have DV : Hid (tmV xs = if tmB xs = true then TV xs else 0) := rfl
  have n1 : Below w.heap.size w ((w.alloc (.cells #[.bool false, .int .i64 0] 28)).alloc (.cells #[.slice a xs.length c, .int .i64 0] 44)) := n0.alloc (by simp) _
  have T1 : Tl ((w.alloc (.cells #[.bool false, .int .i64 0] 28)).alloc (.cells #[.slice a xs.length c, .int .i64 0] 44)) w.heap.size (.bool false) (.int .i64 0) := T0.up ((Below.refl _ _).alloc (Nat.le_refl _) _)
  have C1 : Cur ((w.alloc (.cells #[.bool false, .int .i64 0] 28)).alloc (.cells #[.slice a xs.length c, .int .i64 0] 44)) (w.heap.size + 1) (.slice a xs.length c) ((0 : Nat) : Int) := by
    have := Tl.new (w.alloc (.cells #[.bool false, .int .i64 0] 28)) (.slice a xs.length c) (.int .i64 0) 44
    rw [z0] at this
    exact this
  have MM := hM.up n1
  have ML := hM.lt
  clear z0 n0 T0
  go_enter_defers Tryd.func13, Tryd.ntmps13
  go_wp2_with fail
  generalize (w.alloc (.cells #[.bool false, .int .i64 0] 28)).alloc (.cells #[.slice a xs.length c, .int .i64 0] 44) = W1 at *
  refine (time_any W1 (w.heap.size + 1) g a c xs C1 (hr.up n1) hb (fun h => by have := hr.lt h; omega) hl MM (by omega)).mono ?_
  rintro r w2 ⟨h, O2⟩
  have T2 := T1.kp O2 (by omega)
  have N2 : Below w.heap.size w w2 := n1.trans (O2.below (by omega) n1.size)
  clear T1 C1 O2
  rcases h with ⟨hd', rfl⟩ | ⟨hd', t, v, rfl⟩
  · have hd := tmB_yes hd'
    clear hd'
    rw [if_pos hd] at DV
    have HD := hide hd
    have c0 := T2.c0
    have c1 := T2.c1
    have f0 := T2.fr 0
    have f1 := T2.fr 1
    have T3 := (T2.set0 (.bool true)).set1 (.int .i64 (TV xs))
    have N3 : Below w.heap.size w ((w2.setCell ⟨w.heap.size, 0, none⟩ (.bool true)).setCell ⟨w.heap.size, 1, none⟩ (.int .i64 (TV xs))) := (N2.setCell (Nat.le_refl _) _).setCell (Nat.le_refl _) _
    clear hd T2
    go_wp2
    generalize (w2.setCell ⟨w.heap.size, 0, none⟩ (.bool true)).setCell ⟨w.heap.size, 1, none⟩ (.int .i64 (TV xs)) = w3 at *
    refine leaves_cons (f := 26) (args := #[.pointer (some ⟨w.heap.size, 0, none⟩)]) (by simp) (by simp [go_sem]) ?_
    refine (dtCatch_idle _ _).mono ?_
    rintro e u' w4 ⟨rfl, rfl, h4⟩
    have h4 := h4.symm
    subst h4
    simp [Leaves, settle, results, Tryd.results13, go_sem, T3.c0, T3.c1]
    exact ⟨⟨HD.out, DV.out.symm⟩, N3⟩
  · have hd := tmB_no hd'
    clear hd'
    rw [if_neg (by rw [hd]; decide)] at DV
    have HD := hide hd
    clear hd
    go_wp2
    refine leaves_cons (f := 26) (args := #[.pointer (some ⟨w.heap.size, 0, none⟩)]) (by simp) (by simp [go_sem]) ?_
    refine (dtCatch_pan w.heap.size t v _ _ w2 T2).mono ?_
    rintro e u' w4 ⟨rfl, rfl, O4, T4⟩
    simp [Leaves, settle, results, Tryd.results13, go_sem, T4.c0, T4.c1]
    exact ⟨⟨HD.out, DV.out.symm⟩, N2.trans (O4.below (Nat.le_refl _))⟩
end Go.Proofs.YtakcpkfofgiehaaDoor
