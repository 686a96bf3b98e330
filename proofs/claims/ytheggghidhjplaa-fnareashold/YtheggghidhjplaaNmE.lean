
/-
  PatternOutside, and its law.
-/
import Derived.Test.YtheggghidhjplaaNmD
import Derived.Laws.EntriesVeiled
namespace Go.Proofs.Ytheggghidhjplaa
open Go Go.RowKit

theorem inS_self (n : List UInt8) : inS n n = true := by
  unfold inS
  rw [decide_eq_true rfl]
  rfl
/-- A pattern without a star matches itself alone. -/
theorem plain_same (p : List UInt8) (a : List UInt8) : (niB (bas p) a || nmB p a) = (niB (bas p) a || (star p && nmB p a)) := by
  cases hs : star p with
  | true => rfl
  | false =>
    rw [Bool.false_and, Bool.or_false]
    have hb : bas p = p := by
      unfold bas
      rw [if_neg (by rw [hs]; decide)]
    rw [hb]
    cases hm : nmB p a with
    | false => rw [Bool.or_false]
    | true =>
      unfold nmB mtS at hm
      rw [if_neg (by rw [hs]; decide)] at hm
      simp only [Bool.and_eq_true, decide_eq_true_eq] at hm
      obtain ⟨⟨_, h2⟩, rfl⟩ := hm
      have : niB p p = true := by
        unfold niB
        rw [decide_eq_true h2, inS_self]
        rfl
      rw [this]
      rfl
set_option maxHeartbeats 2000000 in
theorem implPatternOutside_any (w : World) (p : List UInt8) (g : Nat) (a : Option Addr) (c : Nat) (pm : List (List UInt8)) (g' : Nat) (a' : Option Addr) (c' : Nat) (ex : List (List UInt8)) (hp : p.length ≤ 9223372036854775807) (hr : RdT w g a pm) (hr' : RdT w g' a' ex)
    (l1 : pm.length ≤ 1048576) (l2 : ex.length ≤ 1048576) (m1 : ∀ l ∈ pm, l.length ≤ 9223372036854775807) (m2 : ∀ l ∈ ex, l.length ≤ 9223372036854775807) :
    Calls Try.prog 23 #[.string ⟨⟨p⟩⟩, .slice a pm.length c, .slice a' ex.length c'] w fun e w' => e = .returned (.bool (poB p pm ex)) ∧ Below w.heap.size w w' := by
  have PF := hide (fun w => implPatternFault_any w p hp)
  have W0 : Below w.heap.size w (w.alloc (.cells #[tx p] 9)) := (Below.refl _ _).alloc (Nat.le_refl _) _
  have C0 : (w.alloc (.cells #[tx p] 9)).cell? ⟨w.heap.size, 0, none⟩ = some (tx p) := cell_one_new w (tx p) 9 0 _ rfl
  by_cases f1 : patF p = 0
  · rw [f1] at PF
    have TP := hide (fun w => trimPrefix_any w p hp)
    have PS := hide (fun a => plain_same p a)
    have EQ : Hid (poB p pm ex = ((decide (pm ≠ []) && !pm.any (niB (bas p))) || ex.any fun a => niB (bas p) a || nmB p a)) := by
      show _ = _
      have : (fun a => niB (bas p) a || nmB p a) = fun a => niB (bas p) a || (star p && nmB p a) := funext PS.out
      rw [this]
      unfold poB
      rw [decide_eq_false (fun k => k f1)]
      rfl
    have bl : (bas p).length ≤ 9223372036854775807 := by
      unfold bas
      split
      · rw [List.length_drop]; omega
      · exact hp
    clear f1 PS
    generalize bas p = n at *
    unfold tx at C0 W0
    go_enter Try.func23, Try.ntmps23
    go_wp2_with fail
    refine (PF.out _).mono ?_
    rintro e w1 ⟨rfl, h1⟩
    subst h1
    generalize hw0 : w.alloc (.cells #[Value.string ⟨⟨p⟩⟩] 9) = W1 at *
    go_wp2_with fail
    refine (TP.out _).mono ?_
    rintro e w1 ⟨rfl, h1⟩
    subst h1
    have v1 : Below w1.heap.size w1 (w1.alloc (.cells #[tx n] 9)) := (Below.refl _ _).alloc (Nat.le_refl _) _
    have z2 : (w1.alloc (.cells #[tx n] 9)).heap.size = w1.heap.size + 1 := by simp
    have k1 : (w1.alloc (.cells #[tx n] 9)).cell? ⟨w1.heap.size, 0, none⟩ = some (tx n) := cell_one_new w1 (tx n) 9 0 _ rfl
    have v2 : Below w1.heap.size w1 ((w1.alloc (.cells #[tx n] 9)).alloc (.cells #[.func (.func 68) #[] #[.pointer (some ⟨w1.heap.size, 0, none⟩)]] 66)) := v1.alloc (by rw [z2]; omega) _
    have v12 : Below (w1.alloc (.cells #[tx n] 9)).heap.size (w1.alloc (.cells #[tx n] 9)) ((w1.alloc (.cells #[tx n] 9)).alloc (.cells #[.func (.func 68) #[] #[.pointer (some ⟨w1.heap.size, 0, none⟩)]] 66)) := (Below.refl _ _).alloc (Nat.le_refl _) _
    have k8 : ((w1.alloc (.cells #[tx n] 9)).alloc (.cells #[.func (.func 68) #[] #[.pointer (some ⟨w1.heap.size, 0, none⟩)]] 66)).cell? ⟨w1.heap.size + 1, 0, none⟩ = some (.func (.func 68) #[] #[.pointer (some ⟨w1.heap.size, 0, none⟩)]) := by
      have := cell_one_new (w1.alloc (.cells #[tx n] 9)) (.func (.func 68) #[] #[.pointer (some ⟨w1.heap.size, 0, none⟩)]) 66 0 _ rfl
      rw [z2] at this
      exact this
    have k1' : Hid (((w1.alloc (.cells #[tx n] 9)).alloc (.cells #[.func (.func 68) #[] #[.pointer (some ⟨w1.heap.size, 0, none⟩)]] 66)).cell? ⟨w1.heap.size, 0, none⟩ = some (tx n)) := (v12.cell (block_lt_of_cell k1)).trans k1
    have k3' : Hid (((w1.alloc (.cells #[tx n] 9)).alloc (.cells #[.func (.func 68) #[] #[.pointer (some ⟨w1.heap.size, 0, none⟩)]] 66)).cell? ⟨w.heap.size, 0, none⟩ = some (tx p)) := (v2.cell (block_lt_of_cell C0)).trans C0
    have HB := hide (nxt W0 v2)
    have K8 := hide k8
    clear k1 k8 v1 v2 v12 z2
    unfold tx at k1' k3' HB K8
    by_cases hpm : pm.length = 0
    · have t0 : decide ((0 : Int) < (pm.length : Int)) = false := decide_eq_false (by omega)
      have t1 : decide (0 < pm.length) = false := decide_eq_false (by omega)
      have E2 := hide (show poB p pm ex = ex.any (fun l => niB n l || nmB p l) by
        rw [EQ.out, List.eq_nil_of_length_eq_zero hpm]
        simp)
      have CG := hide (fun W (h1 : RdT W g' a' ex) h2 h3 h4 => conF2_any W g' a' c' ex p n w1.heap.size (w1.heap.size + 1) w.heap.size h1 h2 h3 h4 hp bl (by omega) m2)
      have hpm' := hide hpm
      clear EQ hpm
      generalize ex.any (fun l => niB n l || nmB p l) = z at *
      go_wp2_with fail
      refine (CG.out _ (hr'.up HB.out) k1'.out K8.out k3'.out).mono ?_
      rintro e w5 ⟨rfl, n5⟩
      have n6 := hide (nxt HB.out n5)
      clear n5 HB k1' k3' K8
      go_wp2
      go_ret
      exact ⟨by rw [E2.out]; rfl, n6.out⟩
    · have t0 : 0 < pm.length := by omega
      have CF := hide (fun W (h1 : RdT W g a pm) (h2 : W.cell? ⟨w1.heap.size, 0, none⟩ = some (tx n)) => conF1_any W g a c pm n w1.heap.size h1 h2 bl (by omega) m1)
      have CG := hide (fun W (h1 : RdT W g' a' ex) h2 h3 h4 => conF2_any W g' a' c' ex p n w1.heap.size (w1.heap.size + 1) w.heap.size h1 h2 h3 h4 hp bl (by omega) m2)
      have hne : ¬ pm = [] := fun k => hpm (by rw [k]; rfl)
      have E2 := hide (show poB p pm ex = (!pm.any (fun l => niB n l) || ex.any (fun l => niB n l || nmB p l)) by
        rw [EQ.out]
        simp only [ne_eq, hne, not_false_eq_true, decide_true, Bool.true_and])
      clear EQ hpm hne
      generalize ex.any (fun l => niB n l || nmB p l) = z at *
      generalize pm.any (fun l => niB n l) = y at *
      go_wp2_with fail
      refine (CF.out _ (hr.up HB.out) k1'.out).mono ?_
      rintro e w5 ⟨rfl, n5⟩
      have n6 := hide (nxt HB.out n5)
      have q1 := hide ((n5.cell (block_lt_of_cell k1'.out)).trans k1'.out)
      have q3 := hide ((n5.cell (block_lt_of_cell k3'.out)).trans k3'.out)
      have q8 := hide ((n5.cell (block_lt_of_cell K8.out)).trans K8.out)
      clear n5 HB k1' k3' K8 CF
      cases y with
      | false =>
        go_wp2
        go_ret
        exact ⟨by rw [E2.out]; rfl, n6.out⟩
      | true =>
        go_wp2_with fail
        refine (CG.out _ (hr'.up n6.out) q1.out q8.out q3.out).mono ?_
        rintro e w7 ⟨rfl, n7⟩
        have n8 := hide (nxt n6.out n7)
        clear n7 n6 q1 q3 q8
        go_wp2
        go_ret
        exact ⟨by rw [E2.out]; rfl, n8.out⟩
  · have EQ : Hid (poB p pm ex = true) := by
      show _ = _
      unfold poB
      rw [decide_eq_true f1]
      rfl
    have t2 : (patF p == 0) = false := by simpa using f1
    have t3 : (patF p != 0) = true := by simpa using f1
    generalize patF p = z at *
    unfold tx at C0 W0
    go_enter Try.func23, Try.ntmps23
    go_wp2_with fail
    refine (PF.out _).mono ?_
    rintro e w1 ⟨rfl, h1⟩
    subst h1
    go_wp2
    go_ret
    exact ⟨by rw [EQ.out]; rfl, W0⟩
end Go.Proofs.Ytheggghidhjplaa
