
/-
  The program's DecodeItem.
-/
import Derived.Test.YtgmnnmlbmibabaaCuM
import Derived.Test.YtgmnnmlbmibabaaFoA
import Derived.Defers
import Derived.Recover
namespace Go.Proofs.Ytgmnnmlbmibabaa
open Go Go.RowKit

/-- The deferred function, where the frame panics. -/
theorem dtCatch_pan (p : Nat) (u : TypeId) (pv x y z v : Value) (w : World) (hT : Fo w p x y z v) :
    CallsD Try.prog 34 #[.pointer (some ⟨p, 0, none⟩)] (.panicking [{ v := .iface u pv, recovered := false }]) w fun e u' w' =>
      e = .returned (.tuple #[]) ∧ u' = .panicking [{ v := .iface u pv, recovered := true }] ∧ Only p w w' ∧ Fo w' p (.bool false) (.int .i64 0) (.slice none 0 0) (.int .i64 0) := by
  have c0 := hT.c0
  have c1 := hT.c1
  have c2 := hT.c2
  have c3 := hT.c3
  have f0 := hT.fr 0
  have f1 := hT.fr 1
  have f2 := hT.fr 2
  have f3 := hT.fr 3
  have K := hide (hT.set (.bool false) (.int .i64 0) (.slice none 0 0) (.int .i64 0))
  have O := hide (only_set4 w p (.bool false) (.int .i64 0) (.slice none 0 0) (.int .i64 0))
  clear hT
  refine callsD_of_wpS Try.func34 rfl fun c₀ cs hu => ?_
  apply wpS_seq
  apply wpS_region
  simp [wpOpsS, go_sem, recoverD, hu, Try.ntmps34, Exit.thenS]
  refine wpS_cond (t := true) (by simp [Act.eval, Array.replicate]) ?_
  simp only [if_true]
  refine wpS_of_wp ?_
  go_wp2
  exact ⟨rfl, _, rfl, .tuple #[], by simp [results, Try.results34, go_sem], rfl, rfl, O.out, K.out⟩

theorem dtCatch_idle (p : Addr) (w : World) :
    CallsD Try.prog 34 #[.pointer (some p)] .returning w fun e u' w' => e = .returned (.tuple #[]) ∧ u' = .returning ∧ w' = w := by
  refine callsD_of_wpS Try.func34 rfl fun c₀ cs hu => ?_
  apply wpS_seq
  apply wpS_region
  simp [wpOpsS, go_sem, recoverD, hu, Try.ntmps34, Exit.thenS]
  refine wpS_cond (t := false) (by simp [Act.eval, Array.replicate]) ?_
  simp only [Bool.false_eq_true, if_false]
  refine wpS_of_wp (wp_skip ?_)
  cases c₀
  simp_all [bodyPostS, results, Try.results34]

theorem cur_new (w : World) (l : Value) (i : Int) (t : TypeId) : Cur (w.alloc (.cells #[l, .int .i64 i] t)) w.heap.size l i := Tl.new w l (.int .i64 i) t

set_option maxHeartbeats 2000000 in
theorem implDecodeItem_any (w : World) (g : Nat) (a : Option Addr) (c : Nat) (xs : List Int) (i : Int) (hr : Rd w g a .u8 xs) (hb : Byt xs) (hc0 : a = none → c = 0) (hc : xs.length ≤ c) (hn : xs.length ≤ 1048576) :
    Calls Try.prog 19 #[.slice a xs.length c, .int .i64 i] w fun e w' => NewT w.heap.size w' e (diT (itZ xs i)) (dtT (itZ xs i)) (dbT xs (itZ xs i)) (dnT (itZ xs i)) ∧ Below w.heap.size w w' := by
  have hmf : ∀ (fn : Fn) (first cap : Array Value) (w : World), (Instr.makeFunc fn first cap).run Try.prog w = .ok (.func fn first cap) w := fun _ _ _ _ => rfl
  have n0 : Below w.heap.size w (w.alloc (.cells #[.bool false, .int .i64 0, .slice none 0 0, .int .i64 0] 42)) := (Below.refl _ _).alloc (Nat.le_refl _) _
  have T0 := Fo.new w (.bool false) (.int .i64 0) (.slice none 0 0) (.int .i64 0) 42
  have z0 : (w.alloc (.cells #[.bool false, .int .i64 0, .slice none 0 0, .int .i64 0] 42)).heap.size = w.heap.size + 1 := by simp
  have n1 : Below w.heap.size w ((w.alloc (.cells #[.bool false, .int .i64 0, .slice none 0 0, .int .i64 0] 42)).alloc (.cells #[.slice a xs.length c, .int .i64 i] 46)) := n0.alloc (by simp) _
  have T1 := T0.up ((Below.refl _ _).alloc (Nat.le_refl _) (.cells #[.slice a xs.length c, .int .i64 i] 46))
  have C1 := cur_new (w.alloc (.cells #[.bool false, .int .i64 0, .slice none 0 0, .int .i64 0] 42)) (.slice a xs.length c) i 46
  rw [z0] at C1
  have z1 : w.heap.size + 1 < ((w.alloc (.cells #[.bool false, .int .i64 0, .slice none 0 0, .int .i64 0] 42)).alloc (.cells #[.slice a xs.length c, .int .i64 i] 46)).heap.size := by simp
  clear z0 n0 T0
  -- what item answers, at any place
  have IT : Hid (∀ W, Cur W (w.heap.size + 1) (.slice a xs.length c) i → Below w.heap.size w W → Calls Try.prog 35 #[.pointer (some ⟨w.heap.size + 1, 0, none⟩)] W fun e w' => ((∃ (t : Int) (s n q : Nat), itZ xs i = some (t, s, n) ∧ e = .returned (.agg #[.int .i64 t, .slice (some ⟨q, 0, none⟩) n n]) ∧ W.heap.size ≤ q ∧ Blk w' q .u8 ((xs.drop s).take n) ∧ n ≤ xs.length - s ∧ Cur w' (w.heap.size + 1) (.slice a xs.length c) ((s + n : Nat) : Int)) ∨ (itZ xs i = none ∧ Pan e)) ∧ Kp (w.heap.size + 1) W w') := fun W hC hN => by
    by_cases hi : 0 ≤ i
    · obtain ⟨k, rfl⟩ := Int.eq_ofNat_of_zero_le hi
      have e : itZ xs (k : Int) = itA xs k := by unfold itZ; rw [if_pos hi]; rfl
      rw [e]
      refine (item_any W (w.heap.size + 1) g a c xs k hC (hr.up hN) hb (fun h => by have := hr.lt h; omega) hc0 hc hn).mono ?_
      rintro e w' ⟨⟨t, s, n, q, h1, h2, h3, h4, h5⟩ | h, hk⟩
      · have bd := itA_bd hb h1
        exact ⟨.inl ⟨t, s, n, q, h1, h2, h3, h4, by omega, h5⟩, hk⟩
      · exact ⟨.inr h, hk⟩
    · have e : itZ xs i = none := by unfold itZ; rw [if_neg hi]
      rw [e]
      refine (item_neg W (w.heap.size + 1) a _ c i hC (by omega)).mono ?_
      rintro e w' ⟨h, hk⟩
      exact ⟨.inr ⟨rfl, h⟩, hk⟩
  go_enter_defers Try.func19, Try.ntmps19
  go_wp2_with fail
  generalize (w.alloc (.cells #[.bool false, .int .i64 0, .slice none 0 0, .int .i64 0] 42)).alloc (.cells #[.slice a xs.length c, .int .i64 i] 46) = W1 at *
  refine (IT.out W1 C1 n1).mono ?_
  rintro r w2 ⟨⟨t, s, n, q, h1, rfl, h3, B2, h5, C2⟩ | ⟨h1, t, v, rfl⟩, K2⟩
  · have N2 : Below w.heap.size w w2 := n1.trans (K2.below (by omega) (by omega))
    have T2 := T1.kp K2 (by omega)
    have z2 := K2.size
    have lq := B2.lt
    have n3 : Below w2.heap.size w2 (w2.alloc (.cells #[.int .i64 t, .slice (some ⟨q, 0, none⟩) n n] 38)) := (Below.refl _ _).alloc (Nat.le_refl _) _
    have I3 := Tl.new w2 (.int .i64 t) (.slice (some ⟨q, 0, none⟩) n n) 38
    have T3 := T2.up n3
    have C3 := C2.up n3
    have B3 := B2.up n3
    have N3 := nxt N2 n3
    have H1 := hide h1
    have H5 := hide h5
    clear h1 h5 T1 C1 IT T2 C2 B2 K2 n1
    go_wp2_with fail
    generalize w2.alloc (.cells #[.int .i64 t, .slice (some ⟨q, 0, none⟩) n n] 38) = w3 at *
    have i0 := I3.c0
    have i1 := I3.c1
    have d1 := C3.c1
    have c0 := T3.c0
    have c1 := T3.c1
    have c2 := T3.c2
    have c3 := T3.c3
    have f0 := T3.fr 0
    have f1 := T3.fr 1
    have f2 := T3.fr 2
    have f3 := T3.fr 3
    have T4 : Fo (World.drew ((((w3.setCell ⟨w.heap.size, 0, none⟩ (.bool true)).setCell ⟨w.heap.size, 1, none⟩ (.int .i64 t)).setCell ⟨w.heap.size, 2, none⟩ (.slice (some ⟨q, 0, none⟩) n n)).setCell ⟨w.heap.size, 3, none⟩ (.int .i64 ((s : Int) + (n : Int))))) w.heap.size (.bool true) (.int .i64 t) (.slice (some ⟨q, 0, none⟩) n n) (.int .i64 ((s : Int) + (n : Int))) := T3.set (.bool true) (.int .i64 t) (.slice (some ⟨q, 0, none⟩) n n) (.int .i64 ((s : Int) + (n : Int)))
    have O4 : Only w.heap.size w3 (World.drew ((((w3.setCell ⟨w.heap.size, 0, none⟩ (.bool true)).setCell ⟨w.heap.size, 1, none⟩ (.int .i64 t)).setCell ⟨w.heap.size, 2, none⟩ (.slice (some ⟨q, 0, none⟩) n n)).setCell ⟨w.heap.size, 3, none⟩ (.int .i64 ((s : Int) + (n : Int))))) := (only_set4 w3 w.heap.size (.bool true) (.int .i64 t) (.slice (some ⟨q, 0, none⟩) n n) (.int .i64 ((s : Int) + (n : Int)))).trans (Only.drewN _ _ 1)
    have N4 := N3.trans (O4.below (Nat.le_refl _))
    have B4 := B3.of_block (O4.block q (by omega))
    clear O4
    go_region
    go_wp2
    generalize World.drew ((((w3.setCell ⟨w.heap.size, 0, none⟩ (.bool true)).setCell ⟨w.heap.size, 1, none⟩ (.int .i64 t)).setCell ⟨w.heap.size, 2, none⟩ (.slice (some ⟨q, 0, none⟩) n n)).setCell ⟨w.heap.size, 3, none⟩ (.int .i64 ((s : Int) + (n : Int)))) = w4 at *
    refine leaves_cons (f := 34) (args := #[.pointer (some ⟨w.heap.size, 0, none⟩)]) (by simp) (by simp [go_sem]) ?_
    refine (dtCatch_idle _ _).mono ?_
    rintro e u' w5 ⟨rfl, rfl, h4⟩
    have h4 := h4.symm
    subst h4
    refine ⟨.agg #[.bool true, .int .i64 t, .slice (some ⟨q, 0, none⟩) n n, .int .i64 ((s : Int) + (n : Int))], ?_, ?_⟩
    · simp [results, Try.results19, go_sem, T4.c0, T4.c1, T4.c2, T4.c3]
    · have BL : ((xs.drop s).take n).length = n := by rw [List.length_take, List.length_drop]; have := H5.out; omega
      rw [H1.out]
      refine ⟨⟨_, n, q, ?_, B4.own0, by simp, by show ((xs.drop s).take n).length ≤ n; omega, by omega⟩, N4⟩
      show _ = Ending.returned (.agg #[.bool true, .int .i64 t, .slice _ ((xs.drop s).take n).length n, .int .i64 ((s + n : Nat) : Int)])
      rw [BL, show ((s + n : Nat) : Int) = (s : Int) + (n : Int) by omega]
  · have N2 : Below w.heap.size w w2 := n1.trans (K2.below (by omega) (by omega))
    have T2 := T1.kp K2 (by omega)
    have H1 := hide h1
    clear h1 IT
    go_wp2
    refine leaves_cons (f := 34) (args := #[.pointer (some ⟨w.heap.size, 0, none⟩)]) (by simp) (by simp [go_sem]) ?_
    refine (dtCatch_pan w.heap.size t v _ _ _ _ w2 T2).mono ?_
    rintro e u' w4 ⟨rfl, rfl, O4, T4⟩
    refine ⟨.agg #[.bool false, .int .i64 0, .slice none 0 0, .int .i64 0], ?_, ?_⟩
    · simp [results, Try.results19, go_sem, T4.c0, T4.c1, T4.c2, T4.c3]
    · rw [H1.out]
      exact ⟨⟨none, 0, w.heap.size, rfl, Own.nil _ _ _ _, fun _ => rfl, Nat.le_refl _, Nat.le_refl _⟩, N2.trans (O4.below (Nat.le_refl _))⟩
end Go.Proofs.Ytgmnnmlbmibabaa
