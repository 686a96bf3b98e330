
/-
  The cursor's item.
-/
import Derived.Test.YtgmnnmlbmibabaaCuU
import Derived.Test.YtgmnnmlbmibabaaItR
namespace Go.Proofs.Ytgmnnmlbmibabaa
open Go Go.RowKit

/-- takeList, whatever is left. -/
theorem takeList_any (w : World) (p g : Nat) (a : Option Addr) (c : Nat) (xs : List Int) (i n : Nat) (hC : Cur w p (.slice a xs.length c) i) (hr : Rd w g a .u8 xs) (hc0 : a = none → c = 0) (hc : xs.length ≤ c) (hn : xs.length ≤ 1048576) (hi : i ≤ xs.length) (hin : i + n ≤ xs.length) :
    Calls Try.prog 46 #[.pointer (some ⟨p, 0, none⟩), .int .i64 (n : Int)] w fun e w' => e = .returned (.slice (some ⟨w.heap.size, 0, none⟩) n n) ∧ Blk w' w.heap.size .u8 ((xs.drop i).take n) ∧ Cur w' p (.slice a xs.length c) ((i + n : Nat) : Int) ∧ Kp p w w' := by
  by_cases h : i < xs.length
  · exact takeList_mid w p g a c xs i n hC hr hc hn h hin
  · obtain rfl : i = xs.length := by omega
    obtain rfl : n = 0 := by omega
    have := takeList_end w p a xs.length c hC hc0 hc hn
    simpa using this
set_option maxHeartbeats 1000000 in
theorem takeList_bad (w : World) (p : Nat) (a : Option Addr) (m c i n : Nat) (hC : Cur w p (.slice a m c) i) (hin : m < i + n) (hm : m ≤ 1048576) (hi : i ≤ m) :
    Calls Try.prog 46 #[.pointer (some ⟨p, 0, none⟩), .int .i64 (n : Int)] w fun e w' => Pan e ∧ Only p w w' := by
  have c0 := hC.c0
  have c1 := hC.c1
  have t1 : decide ((m : Int) - (i : Int) < (n : Int)) = true := by simp; omega
  clear hC
  go_enter Try.func46, Try.ntmps46
  go_wp2
  go_quiet (fail)
  go_wp2
  exact ⟨rfl, ⟨_, _, rfl⟩, Only.drewN w p _⟩

theorem Kp.only_trans {p : Nat} {a b c : World} (h : Only p a b) (k : Kp p b c) : Kp p a c := h.kp.trans k

set_option maxHeartbeats 2000000 in
theorem item_any (w : World) (p g : Nat) (a : Option Addr) (c : Nat) (xs : List Int) (i : Nat) (hC : Cur w p (.slice a xs.length c) i) (hr : Rd w g a .u8 xs) (hb : Byt xs) (hg : 0 < xs.length → g ≠ p) (hc0 : a = none → c = 0) (hc : xs.length ≤ c) (hn : xs.length ≤ 1048576) :
    Calls Try.prog 35 #[.pointer (some ⟨p, 0, none⟩)] w fun e w' => ((∃ (t : Int) (s n q : Nat), itA xs i = some (t, s, n) ∧ e = .returned (.agg #[.int .i64 t, .slice (some ⟨q, 0, none⟩) n n]) ∧ w.heap.size ≤ q ∧ Blk w' q .u8 ((xs.drop s).take n) ∧ Cur w' p (.slice a xs.length c) ((s + n : Nat) : Int)) ∨ (itA xs i = none ∧ Pan e)) ∧ Kp p w w' := by
  have pl := hC.lt
  have n0 : Below w.heap.size w (w.alloc (.cells #[.int .i64 0, .slice none 0 0] 38)) := (Below.refl _ _).alloc (Nat.le_refl _) _
  have T0 := Tl.new w (.int .i64 0) (.slice none 0 0) 38
  have z0 : w.heap.size < (w.alloc (.cells #[.int .i64 0, .slice none 0 0] 38)).heap.size := by simp
  have b0 := hb i
  have C1 := hC.up n0
  have K1 : Kp p w (w.alloc (.cells #[.int .i64 0, .slice none 0 0] 38)) := below_kp n0
  have R1 := hr.up n0
  go_enter Try.func35, Try.ntmps35
  go_wp2_with fail
  generalize w.alloc (.cells #[.int .i64 0, .slice none 0 0] 38) = W1 at *
  refine (take_any W1 p g a c xs i C1 R1 (by omega)).mono ?_
  rintro r w2 ⟨⟨h1, rfl, C2⟩ | ⟨h1, t, v, rfl⟩, O2⟩
  · have R2 := R1.only O2 hg
    have T2 := T0.only O2 (by omega)
    have K2 := K1.trans O2.kp
    have z2 := Nat.le_of_eq O2.size.symm
    clear C1 R1 T0 K1 n0 O2
    by_cases hx : xs.getD i 0 = 0
    · have IA := hide (itA_zero (i := i) hx)
      rw [hx]
      go_wp2
      exact ⟨rfl, .inr ⟨IA.out, _, _, rfl⟩, K2⟩
    · have t1 : decide (xs.getD i 0 = 0) = false := decide_eq_false hx
      have t2 : (xs.getD i 0 == 0) = false := by simpa using hx
      have LN := hide (length_any w2 p g a c xs (i + 1) C2 R2 hb hg hn)
      have IY := fun m n h k => hide (itA_yes (m := m) (n := n) h1 hx h k)
      have HX := hide hx
      clear hx
      generalize hxi : xs.getD i 0 = x at *
      have HXI := hide hxi
      clear hxi
      go_wp2_with fail
      refine LN.out.mono ?_
      rintro r w3 ⟨⟨m, n, hl, rfl, C3⟩ | ⟨hl, t, v, rfl⟩, O3⟩
      · have bd := lnA_bd hb hl
        have T3 := T2.only O3 (by omega)
        have R3 := R2.only O3 hg
        have K3 := K2.trans O3.kp
        have z3 := Nat.le_of_eq O3.size.symm
        clear T2 R2 K2 O3 LN C2
        by_cases hin : i + 1 + m + n ≤ xs.length
        · have IA := IY m n hl hin
          have TL := hide (takeList_any w3 p g a c xs (i + 1 + m) n C3 R3 hc0 hc hn (by omega) hin)
          clear IY hl
          go_wp2_with fail
          refine TL.out.mono ?_
          rintro r w4 ⟨rfl, B4, C4, k4⟩
          have T4 := T3.kp k4 (by omega)
          have K4 := K3.trans k4
          have c0 := T4.c0
          have c1 := T4.c1
          have f0 := T4.fr 0
          have f1 := T4.fr 1
          have T5 := (T4.set0 (.int .i64 x)).set1 (.slice (some ⟨w3.heap.size, 0, none⟩) n n)
          have O5 : Only w.heap.size w4 ((w4.setCell ⟨w.heap.size, 0, none⟩ (.int .i64 x)).setCell ⟨w.heap.size, 1, none⟩ (.slice (some ⟨w3.heap.size, 0, none⟩) n n)) := (Only.setCell _ _ _ _).trans (Only.setCell _ _ _ _)
          have K5 : Kp p w ((w4.setCell ⟨w.heap.size, 0, none⟩ (.int .i64 x)).setCell ⟨w.heap.size, 1, none⟩ (.slice (some ⟨w3.heap.size, 0, none⟩) n n)) := ⟨O5.os.trans K4.os, O5.tape.trans K4.tape, O5.output.trans K4.output, by have := K4.size; have := O5.size; omega, fun k hk hp => (O5.block k (by omega)).trans (K4.block k hk hp)⟩
          have B5 := B4.of_block (O5.block w3.heap.size (by omega))
          have C5 := C4.of_block (O5.block p (by omega))
          clear T4 K4 O5 TL T3 B4 C4
          go_wp2
          generalize (w4.setCell ⟨w.heap.size, 0, none⟩ (.int .i64 x)).setCell ⟨w.heap.size, 1, none⟩ (.slice (some ⟨w3.heap.size, 0, none⟩) n n) = w5 at *
          refine bodyPost_ret (v := .agg #[.int .i64 x, .slice (some ⟨w3.heap.size, 0, none⟩) n n]) (by simp [results, Try.results35, go_sem, T5.c0, T5.c1]) rfl ⟨.inl ⟨x, i + 1 + m, n, w3.heap.size, IA.out, rfl, by omega, B5, C5⟩, K5⟩
        · have IA := hide (itA_short hl (by omega))
          have TL := hide (takeList_bad w3 p a xs.length c (i + 1 + m) n C3 (by omega) hn (by omega))
          clear IY hl
          go_wp2_with fail
          refine TL.out.mono ?_
          rintro r w4 ⟨⟨t, v, rfl⟩, O4⟩
          go_wp2
          exact ⟨rfl, .inr ⟨IA.out, t, v, rfl⟩, K3.trans O4.kp⟩
      · have IA := hide (itA_ln hl)
        clear IY hl
        go_wp2
        exact ⟨rfl, .inr ⟨IA.out, t, v, rfl⟩, K2.trans O3.kp⟩
  · have IA := hide (itA_out h1)
    go_wp2
    exact ⟨rfl, .inr ⟨IA.out, t, v, rfl⟩, K1.trans O2.kp⟩

set_option maxHeartbeats 1000000 in
theorem item_neg (w : World) (p : Nat) (a : Option Addr) (m c : Nat) (i : Int) (hC : Cur w p (.slice a m c) i) (hi : i < 0) :
    Calls Try.prog 35 #[.pointer (some ⟨p, 0, none⟩)] w fun e w' => Pan e ∧ Kp p w w' := by
  have n0 : Below w.heap.size w (w.alloc (.cells #[.int .i64 0, .slice none 0 0] 38)) := (Below.refl _ _).alloc (Nat.le_refl _) _
  have C1 := hC.up n0
  have K1 : Kp p w (w.alloc (.cells #[.int .i64 0, .slice none 0 0] 38)) := below_kp n0
  go_enter Try.func35, Try.ntmps35
  go_wp2_with fail
  generalize w.alloc (.cells #[.int .i64 0, .slice none 0 0] 38) = W1 at *
  refine (take_bad W1 p a m c i C1 (by omega)).mono ?_
  rintro r w2 ⟨⟨t, v, rfl⟩, O2⟩
  go_wp2
  exact ⟨rfl, ⟨t, v, rfl⟩, K1.trans O2.kp⟩
end Go.Proofs.Ytgmnnmlbmibabaa
