
/-
  The program's DecodeItems.
-/
import Derived.Test.YtgmnnmlbmibabaaIrB
namespace Go.Proofs.Ytgmnnmlbmibabaa
open Go Go.RowKit

theorem only_set2 (w : World) (p : Nat) (x y : Value) : Only p w ((w.setCell ⟨p, 0, none⟩ x).setCell ⟨p, 1, none⟩ y) := (Only.setCell w p 0 x).trans (Only.setCell _ p 1 y)
/-- The deferred function, where the frame panics. -/
theorem dsCatch_pan (p : Nat) (u : TypeId) (pv x y : Value) (w : World) (hT : Tl w p x y) :
    CallsD Try.prog 21 #[.pointer (some ⟨p, 0, none⟩)] (.panicking [{ v := .iface u pv, recovered := false }]) w fun e u' w' =>
      e = .returned (.tuple #[]) ∧ u' = .panicking [{ v := .iface u pv, recovered := true }] ∧ Only p w w' ∧ Tl w' p (.bool false) (.slice none 0 0) := by
  have c0 := hT.c0
  have c1 := hT.c1
  have f0 := hT.fr 0
  have f1 := hT.fr 1
  have K := hide ((hT.set0 (.bool false)).set1 (.slice none 0 0))
  have O := hide (only_set2 w p (.bool false) (.slice none 0 0))
  clear hT
  refine callsD_of_wpS Try.func21 rfl fun c₀ cs hu => ?_
  apply wpS_seq
  apply wpS_region
  simp [wpOpsS, go_sem, recoverD, hu, Try.ntmps21, Exit.thenS]
  refine wpS_cond (t := true) (by simp [Act.eval, Array.replicate]) ?_
  simp only [if_true]
  refine wpS_of_wp ?_
  go_wp2
  exact ⟨rfl, _, rfl, .tuple #[], by simp [results, Try.results21, go_sem], rfl, rfl, O.out, K.out⟩

theorem dsCatch_idle (p : Addr) (w : World) :
    CallsD Try.prog 21 #[.pointer (some p)] .returning w fun e u' w' => e = .returned (.tuple #[]) ∧ u' = .returning ∧ w' = w := by
  refine callsD_of_wpS Try.func21 rfl fun c₀ cs hu => ?_
  apply wpS_seq
  apply wpS_region
  simp [wpOpsS, go_sem, recoverD, hu, Try.ntmps21, Exit.thenS]
  refine wpS_cond (t := false) (by simp [Act.eval, Array.replicate]) ?_
  simp only [Bool.false_eq_true, if_false]
  refine wpS_of_wp (wp_skip ?_)
  cases c₀
  simp_all [bodyPostS, results, Try.results21]

/-- A truth and a row of items that the call made. -/
def NewI (B : Nat) (w' : World) (e : Ending) (o : Option (List (Int × List Int))) : Prop :=
  ∃ v bs, e = .returned (.agg #[.bool o.isSome, v]) ∧ IRow w' B v (o.getD []) bs

set_option maxHeartbeats 2000000 in
theorem implDecodeItems_any (w : World) (g : Nat) (a : Option Addr) (c : Nat) (xs : List Int) (hr : Rd w g a .u8 xs) (hb : Byt xs) (hc0 : a = none → c = 0) (hc : xs.length ≤ c) (hn : xs.length ≤ 1048576) :
    Calls Try.prog 7 #[.slice a xs.length c] w fun e w' => NewI w.heap.size w' e (itsF xs 1000 0) ∧ Below w.heap.size w w' := by
  have hmf : ∀ (fn : Fn) (first cap : Array Value) (w : World), (Instr.makeFunc fn first cap).run Try.prog w = .ok (.func fn first cap) w := fun _ _ _ _ => rfl
  have n0 : Below w.heap.size w (w.alloc (.cells #[.bool false, .slice none 0 0] 25)) := (Below.refl _ _).alloc (Nat.le_refl _) _
  have T0 := Tl.new w (.bool false) (.slice none 0 0) 25
  have z0 : (w.alloc (.cells #[.bool false, .slice none 0 0] 25)).heap.size = w.heap.size + 1 := by simp
  have n1 : Below w.heap.size w ((w.alloc (.cells #[.bool false, .slice none 0 0] 25)).alloc (.cells #[.slice a xs.length c, .int .i64 0] 46)) := n0.alloc (by simp) _
  have T1 := T0.up ((Below.refl _ _).alloc (Nat.le_refl _) (.cells #[.slice a xs.length c, .int .i64 0] 46))
  have C1 := cur_new (w.alloc (.cells #[.bool false, .slice none 0 0] 25)) (.slice a xs.length c) 0 46
  rw [z0] at C1
  have z1 : w.heap.size + 1 < ((w.alloc (.cells #[.bool false, .slice none 0 0] 25)).alloc (.cells #[.slice a xs.length c, .int .i64 0] 46)).heap.size := by simp
  clear z0 n0 T0
  have IT : Hid (∀ W, Cur W (w.heap.size + 1) (.slice a xs.length c) 0 → Below w.heap.size w W → Calls Try.prog 22 #[.pointer (some ⟨w.heap.size + 1, 0, none⟩)] W fun e w' => ((∃ its bs v, itsF xs 1000 0 = some its ∧ e = .returned v ∧ IRow w' W.heap.size v its bs) ∨ (itsF xs 1000 0 = none ∧ Pan e)) ∧ Kp (w.heap.size + 1) W w') := fun W hC hN => items_any W (w.heap.size + 1) g a c xs hC (hr.up hN) hb (fun h => by have := hr.lt h; omega) hc0 hc hn
  go_enter_defers Try.func7, Try.ntmps7
  go_wp2_with fail
  generalize (w.alloc (.cells #[.bool false, .slice none 0 0] 25)).alloc (.cells #[.slice a xs.length c, .int .i64 0] 46) = W1 at *
  refine (IT.out W1 C1 n1).mono ?_
  rintro r w2 ⟨⟨its, bs, v, h1, rfl, R2⟩ | ⟨h1, t, v, rfl⟩, K2⟩
  · obtain ⟨ra, rc, ev, -⟩ := R2.slice
    have N2 : Below w.heap.size w w2 := n1.trans (K2.below (by omega) (by omega))
    have T2 := T1.kp K2 (by omega)
    have c0 := T2.c0
    have c1 := T2.c1
    have f0 := T2.fr 0
    have f1 := T2.fr 1
    have T4 := hide ((T2.set0 (.bool true)).set1 v)
    have O4 := only_set2 w2 w.heap.size (.bool true) v
    have N4 := hide (N2.trans (O4.below (Nat.le_refl _)))
    have R4 := hide (R2.of (w' := (w2.setCell ⟨w.heap.size, 0, none⟩ (.bool true)).setCell ⟨w.heap.size, 1, none⟩ v) (fun k hk hB => O4.block k (by omega)))
    have H1 := hide h1
    have NI : Hid (∀ W, IRow W W1.heap.size v its bs → NewI w.heap.size W (.returned (.agg #[.bool true, v])) (some its)) := fun W R => ⟨v, bs, rfl, ⟨⟨R.o.1, by
      rcases R.o.2 with h' | ⟨g, cap, cur, e1, hbg, h3⟩
      · exact .inl h'
      · exact .inr ⟨g, cap, cur, e1, by omega, h3⟩⟩, R.l, R.b, fun i hi h0 => ⟨by have := (R.h i hi h0).1; omega, (R.h i hi h0).2⟩, R.d⟩⟩
    clear h1 IT O4 R2 N2 T2 K2 T1 C1 n1
    generalize its.length = m at ev
    subst ev
    go_wp2
    refine leaves_cons (f := 21) (args := #[.pointer (some ⟨w.heap.size, 0, none⟩)]) (by simp) (by simp [go_sem]) ?_
    refine (dsCatch_idle _ _).mono ?_
    rintro e u' w5 ⟨rfl, rfl, h4⟩
    have h4 := h4.symm
    subst h4
    refine ⟨.agg #[.bool true, .slice ra m rc], ?_, ?_⟩
    · simp [results, Try.results7, go_sem, T4.out.c0, T4.out.c1]
    · rw [H1.out]
      exact ⟨NI.out _ R4.out, N4.out⟩
  · have N2 : Below w.heap.size w w2 := n1.trans (K2.below (by omega) (by omega))
    have T2 := T1.kp K2 (by omega)
    have H1 := hide h1
    clear h1 IT
    go_wp2
    refine leaves_cons (f := 21) (args := #[.pointer (some ⟨w.heap.size, 0, none⟩)]) (by simp) (by simp [go_sem]) ?_
    refine (dsCatch_pan w.heap.size t v _ _ w2 T2).mono ?_
    rintro e u' w4 ⟨rfl, rfl, O4, T4⟩
    refine ⟨.agg #[.bool false, .slice none 0 0], ?_, ?_⟩
    · simp [results, Try.results7, go_sem, T4.c0, T4.c1]
    · rw [H1.out]
      exact ⟨⟨_, [], rfl, IRow.nil _ _⟩, N2.trans (O4.below (Nat.le_refl _))⟩
end Go.Proofs.Ytgmnnmlbmibabaa
