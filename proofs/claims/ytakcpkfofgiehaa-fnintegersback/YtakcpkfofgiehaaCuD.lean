
/-
  The program's DecodeInteger: the panics are caught.
-/
import Derived.Test.YtakcpkfofgiehaaCuI
import Derived.Defers
import Derived.Recover
namespace Go.Proofs.Ytakcpkfofgiehaa
open Go Go.RowKit

/-- The deferred function, where the frame panics. -/
theorem diCatch_pan (p : Nat) (u : TypeId) (pv x y : Value) (w : World) (hT : Tl w p x y) :
    CallsD Try.prog 44 #[.pointer (some ⟨p, 0, none⟩)] (.panicking [{ v := .iface u pv, recovered := false }]) w fun e u' w' =>
      e = .returned (.tuple #[]) ∧ u' = .panicking [{ v := .iface u pv, recovered := true }] ∧ Only p w w' ∧ Tl w' p (.bool false) (.int .i64 0) := by
  have c0 := hT.c0
  have c1 := hT.c1
  have f0 := hT.fr 0
  have f1 := hT.fr 1
  have K : Hid (Tl ((w.setCell ⟨p, 0, none⟩ (.bool false)).setCell ⟨p, 1, none⟩ (.int .i64 0)) p (.bool false) (.int .i64 0)) := (hT.set0 _).set1 _
  have O : Hid (Only p w ((w.setCell ⟨p, 0, none⟩ (.bool false)).setCell ⟨p, 1, none⟩ (.int .i64 0))) := (Only.setCell w p 0 _).trans (Only.setCell _ p 1 _)
  clear hT
  refine callsD_of_wpS Try.func44 rfl fun c₀ cs hu => ?_
  apply wpS_seq
  apply wpS_region
  simp [wpOpsS, go_sem, recoverD, hu, Try.ntmps44, Exit.thenS]
  refine wpS_cond (t := true) (by simp [Act.eval, Array.replicate]) ?_
  simp only [if_true]
  refine wpS_of_wp ?_
  go_wp2
  exact ⟨rfl, _, rfl, .tuple #[], by simp [results, Try.results44, go_sem], rfl, rfl, O.out, K.out⟩

theorem diCatch_idle (p : Addr) (w : World) :
    CallsD Try.prog 44 #[.pointer (some p)] .returning w fun e u' w' => e = .returned (.tuple #[]) ∧ u' = .returning ∧ w' = w := by
  refine callsD_of_wpS Try.func44 rfl fun c₀ cs hu => ?_
  apply wpS_seq
  apply wpS_region
  simp [wpOpsS, go_sem, recoverD, hu, Try.ntmps44, Exit.thenS]
  refine wpS_cond (t := false) (by simp [Act.eval, Array.replicate]) ?_
  simp only [Bool.false_eq_true, if_false]
  refine wpS_of_wp (wp_skip ?_)
  cases c₀
  simp_all [bodyPostS, results, Try.results44]

set_option maxHeartbeats 1000000 in
theorem implDecodeInteger_any (w : World) (g : Nat) (a : Option Addr) (c : Nat) (xs : List Int) (hr : Rd w g a .u8 xs) (hb : Byt xs) :
    Calls Try.prog 19 #[.slice a xs.length c] w fun e w' => e = .returned (.agg #[.bool (diB xs), .int .i64 (diV xs)]) ∧ Below w.heap.size w w' := by
  have hmf : ∀ (fn : Fn) (first cap : Array Value) (w : World), (Instr.makeFunc fn first cap).run Try.prog w = .ok (.func fn first cap) w := fun _ _ _ _ => rfl
  have n0 : Below w.heap.size w (w.alloc (.cells #[.bool false, .int .i64 0] 31)) := (Below.refl _ _).alloc (Nat.le_refl _) _
  have T0 := Tl.new w (.bool false) (.int .i64 0) 31
  have z0 : (w.alloc (.cells #[.bool false, .int .i64 0] 31)).heap.size = w.heap.size + 1 := by simp
  have DV : Hid (diV xs = if diB xs = true then sv xs else 0) := rfl
  have n1 : Below w.heap.size w ((w.alloc (.cells #[.bool false, .int .i64 0] 31)).alloc (.cells #[.slice a xs.length c, .int .i64 0] 60)) := n0.alloc (by simp) _
  have T1 : Tl ((w.alloc (.cells #[.bool false, .int .i64 0] 31)).alloc (.cells #[.slice a xs.length c, .int .i64 0] 60)) w.heap.size (.bool false) (.int .i64 0) := T0.up ((Below.refl _ _).alloc (Nat.le_refl _) _)
  have C1 : Cur ((w.alloc (.cells #[.bool false, .int .i64 0] 31)).alloc (.cells #[.slice a xs.length c, .int .i64 0] 60)) (w.heap.size + 1) (.slice a xs.length c) ((0 : Nat) : Int) := by
    have := Tl.new (w.alloc (.cells #[.bool false, .int .i64 0] 31)) (.slice a xs.length c) (.int .i64 0) 60
    rw [z0] at this
    exact this
  clear z0 n0 T0
  go_enter_defers Try.func19, Try.ntmps19
  go_wp2_with fail
  generalize (w.alloc (.cells #[.bool false, .int .i64 0] 31)).alloc (.cells #[.slice a xs.length c, .int .i64 0] 60) = W1 at *
  refine (integer_any W1 (w.heap.size + 1) g a c xs C1 (hr.up n1) hb (fun h => by have := hr.lt h; omega)).mono ?_
  rintro r w2 ⟨h, O2⟩
  have T2 := T1.only O2 (by omega)
  have N2 : Below w.heap.size w w2 := n1.trans (O2.below (by omega))
  clear T1 C1 O2
  rcases h with ⟨hd, rfl⟩ | ⟨hd, t, v, rfl⟩
  · rw [if_pos hd] at DV
    have HD := hide hd
    have c0 := T2.c0
    have c1 := T2.c1
    have f0 := T2.fr 0
    have f1 := T2.fr 1
    have T3 := (T2.set0 (.bool true)).set1 (.int .i64 (sv xs))
    have N3 : Below w.heap.size w ((w2.setCell ⟨w.heap.size, 0, none⟩ (.bool true)).setCell ⟨w.heap.size, 1, none⟩ (.int .i64 (sv xs))) := (N2.setCell (Nat.le_refl _) _).setCell (Nat.le_refl _) _
    clear hd T2
    go_wp2
    generalize (w2.setCell ⟨w.heap.size, 0, none⟩ (.bool true)).setCell ⟨w.heap.size, 1, none⟩ (.int .i64 (sv xs)) = w3 at *
    refine leaves_cons (f := 44) (args := #[.pointer (some ⟨w.heap.size, 0, none⟩)]) (by simp) (by simp [go_sem]) ?_
    refine (diCatch_idle _ _).mono ?_
    rintro e u' w4 ⟨rfl, rfl, h4⟩
    have h4 := h4.symm
    subst h4
    simp [Leaves, settle, results, Try.results19, go_sem, T3.c0, T3.c1]
    exact ⟨⟨HD.out, DV.out.symm⟩, N3⟩
  · rw [if_neg (by rw [hd]; decide)] at DV
    have HD := hide hd
    clear hd
    go_wp2
    refine leaves_cons (f := 44) (args := #[.pointer (some ⟨w.heap.size, 0, none⟩)]) (by simp) (by simp [go_sem]) ?_
    refine (diCatch_pan w.heap.size t v _ _ w2 T2).mono ?_
    rintro e u' w4 ⟨rfl, rfl, O4, T4⟩
    simp [Leaves, settle, results, Try.results19, go_sem, T4.c0, T4.c1]
    exact ⟨⟨HD.out, DV.out.symm⟩, N2.trans (O4.below (Nat.le_refl _))⟩
end Go.Proofs.Ytakcpkfofgiehaa
