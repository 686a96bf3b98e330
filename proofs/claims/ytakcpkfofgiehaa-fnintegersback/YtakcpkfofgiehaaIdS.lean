
/-
  The model's DecodeInteger.
-/
import Derived.Test.YtakcpkfofgiehaaIeS
import Derived.Test.YtakcpkfofgiehaaCuA
namespace Go.Proofs.Ytakcpkfofgiehaa
open Go Go.RowKit

set_option maxHeartbeats 1000000 in
theorem specDecodeInteger_any (w : World) (g : Nat) (a : Option Addr) (c : Nat) (xs : List Int) (hr : Rd w g a .u8 xs) (hb : Byt xs) :
    Calls Try.prog 18 #[.slice a xs.length c] w fun e w' => e = .returned (.agg #[.bool (diB xs), .int .i64 (diV xs)]) ∧ Below w.heap.size w w' := by
  have n0 : Below w.heap.size w (w.alloc (.cells #[.bool false, .int .i64 0] 31)) := (Below.refl _ _).alloc (Nat.le_refl _) _
  have T0 := Tl.new w (.bool false) (.int .i64 0) 31
  have DV : Hid (diV xs = if diB xs = true then sv xs else 0) := rfl
  by_cases h1 : 1 ≤ xs.length
  · by_cases h8 : xs.length ≤ 8
    · have DB : Hid (diB xs = decide (eiL (sv xs) = xs)) := by show diB xs = _; rw [diB_same hb]; unfold diB; rw [decide_eq_true h1, decide_eq_true h8]; rfl
      have t1 : decide ((xs.length : Int) < 1) = false := by simp; omega
      have t8 : decide (8 < (xs.length : Int)) = false := by simp; omega
      have SG := hide (l10Signed_any _ g a c xs (hr.up n0) hb h1 h8)
      have EB := eiL_byt (sv xs)
      have SP := fun W => hide (specEncodeInteger_any W (sv xs))
      go_enter Try.func18, Try.ntmps18
      go_wp2_with fail
      generalize w.alloc (.cells #[.bool false, .int .i64 0] 31) = W1 at *
      refine SG.out.mono ?_
      rintro r w2 ⟨rfl, h⟩
      have h := h.symm
      subst h
      clear SG
      go_wp2_with fail
      refine (SP W1).out.mono ?_
      rintro r w3 ⟨⟨a3, c3, g3, rfl, o3, p3, q3, r3⟩, n3⟩
      have N3 := n0.trans (n3.mono n0.size)
      have T3 := T0.up n3
      have SM := l1Same_any w3 g3 g a3 a c3 c (eiL (sv xs)) xs o3.rd (hr.up N3) EB hb
      by_cases hs : eiL (sv xs) = xs
      · rw [decide_eq_true hs] at DB SM
        rw [if_pos DB.out] at DV
        have c0 := T3.c0
        have c1 := T3.c1
        have f0 := T3.fr 0
        have f1 := T3.fr 1
        have T4 := (T3.set0 (.bool true)).set1 (.int .i64 (sv xs))
        have N4 : Below w.heap.size w ((w3.setCell ⟨w.heap.size, 0, none⟩ (.bool true)).setCell ⟨w.heap.size, 1, none⟩ (.int .i64 (sv xs))) := (N3.setCell (Nat.le_refl _) _).setCell (Nat.le_refl _) _
        clear hs SP
        go_wp2_with fail
        refine SM.mono ?_
        rintro r w4 ⟨rfl, h⟩
        have h := h.symm
        subst h
        go_wp2
        generalize (w3.setCell ⟨w.heap.size, 0, none⟩ (.bool true)).setCell ⟨w.heap.size, 1, none⟩ (.int .i64 (sv xs)) = w5 at *
        exact bodyPost_ret (v := .agg #[.bool true, .int .i64 (sv xs)]) (by simp [results, Try.results18, go_sem, T4.c0, T4.c1]) rfl ⟨by rw [DB.out, DV.out], N4⟩
      · rw [decide_eq_false hs] at DB SM
        rw [if_neg (by rw [DB.out]; decide)] at DV
        have c0 := T3.c0
        have c1 := T3.c1
        have f0 := T3.fr 0
        have f1 := T3.fr 1
        have T4 := (T3.set0 (.bool false)).set1 (.int .i64 0)
        have N4 : Below w.heap.size w ((w3.setCell ⟨w.heap.size, 0, none⟩ (.bool false)).setCell ⟨w.heap.size, 1, none⟩ (.int .i64 0)) := (N3.setCell (Nat.le_refl _) _).setCell (Nat.le_refl _) _
        clear hs SP
        go_wp2_with fail
        refine SM.mono ?_
        rintro r w4 ⟨rfl, h⟩
        have h := h.symm
        subst h
        go_wp2
        generalize (w3.setCell ⟨w.heap.size, 0, none⟩ (.bool false)).setCell ⟨w.heap.size, 1, none⟩ (.int .i64 0) = w5 at *
        exact bodyPost_ret (v := .agg #[.bool false, .int .i64 0]) (by simp [results, Try.results18, go_sem, T4.c0, T4.c1]) rfl ⟨by rw [DB.out, DV.out], N4⟩
    · have DB : Hid (diB xs = false) := by show diB xs = _; unfold diB; rw [decide_eq_false h8]; simp
      rw [if_neg (by rw [DB.out]; decide)] at DV
      have t1 : decide ((xs.length : Int) < 1) = false := by simp; omega
      have t8 : decide (8 < (xs.length : Int)) = true := by simp; omega
      go_enter Try.func18, Try.ntmps18
      go_wp2
      exact bodyPost_ret (v := .agg #[.bool false, .int .i64 0]) (by simp [results, Try.results18, go_sem]) rfl ⟨by rw [DB.out, DV.out], n0⟩
  · have DB : Hid (diB xs = false) := by show diB xs = _; unfold diB; rw [decide_eq_false h1]; simp
    rw [if_neg (by rw [DB.out]; decide)] at DV
    have t1 : decide ((xs.length : Int) < 1) = true := by simp; omega
    go_enter Try.func18, Try.ntmps18
    go_wp2
    exact bodyPost_ret (v := .agg #[.bool false, .int .i64 0]) (by simp [results, Try.results18, go_sem]) rfl ⟨by rw [DB.out, DV.out], n0⟩
end Go.Proofs.Ytakcpkfofgiehaa
