
/-
  Patterns and lists of them that are drawn.
-/
import Derived.Test.YtheggghidhjplaaArB
namespace Go.Proofs.Ytheggghidhjplaa
open Go Go.RowKit

theorem But.other {s g : Nat} {a b c : World} (h : But s a b) (k : But g b c) (hg : a.heap.size ≤ g) : But s a c :=
  ⟨k.os.trans h.os, k.tape.trans h.tape, k.output.trans h.output, Nat.le_trans h.size k.size, fun i hi hne => (k.block i (Nat.lt_of_lt_of_le hi h.size) (by omega)).trans (h.block i hi hne)⟩
theorem Dra.other {w w' : World} {s g q : Nat} {a : Option Addr} {c : Nat} {xs : List Int} {t : Int} (h : Dra w s g a c xs t) (k : But q w w') (hs : s ≠ q) (hg : 0 < xs.length → g ≠ q) : Dra w' s g a c xs t :=
  ⟨h.S.of_block (k.block s h.S.lt hs), h.R.but k hg, h.ne, h.hb, h.hl, h.t0⟩
set_option maxHeartbeats 4000000 in
theorem drawPattern_D {w : World} {s g : Nat} {a : Option Addr} {c : Nat} {xs : List Int} {t : Int} (d : Dra w s g a c xs t) (t1 : t ≤ 990000) :
    Calls Try.prog 86 #[.pointer (some ⟨s, 0, none⟩)] w fun e w' => ∃ (l : List UInt8) (u : Int), e = .returned (.string ⟨⟨l⟩⟩) ∧ l.length ≤ 72 ∧ u ≤ t + 4 ∧ Dra w' s g a c xs u ∧ But s w w' := by
  have D0 := hide d
  clear d
  go_enter Try.func86, Try.ntmps86
  go_wp2_with fail
  refine (chance_D D0.out (by omega) (by omega) (by omega)).mono ?_
  rintro e w1 ⟨b, rfl, d1, b1⟩
  have D1 := hide d1
  have U1 := hide b1
  clear d1 b1 D0
  cases b with
  | true =>
    go_wp2_with fail
    refine (drawName_D D1.out (by omega)).mono ?_
    rintro e w2 ⟨x, u2, rfl, hx, hu2, d2, b2⟩
    have D2 := hide d2
    have U2 := hide (U1.out.trans b2)
    clear d2 b2 D1 U1
    have ad : ∀ W : World, (Op.stringOp .add (ByteArray.mk #[42, 46]) (ByteArray.mk ⟨x⟩)).run Try.prog W = .ok (.string ⟨⟨42 :: 46 :: x⟩⟩) W := fun W => tx_add W [42, 46] x (by simp; omega)
    go_wp2
    go_ret
    exact ⟨42 :: 46 :: x, _, rfl, by simp; omega, by omega, D2.out, U2.out⟩
  | false =>
    go_wp2_with fail
    refine (drawName_D D1.out (by omega)).mono ?_
    rintro e w2 ⟨x, u2, rfl, hx, hu2, d2, b2⟩
    have D2 := hide d2
    have U2 := hide (U1.out.trans b2)
    clear d2 b2 D1 U1
    go_wp2
    go_ret
    exact ⟨x, _, rfl, by omega, by omega, D2.out, U2.out⟩
set_option maxRecDepth 100000 in
set_option maxHeartbeats 8000000 in
theorem drawList_D {w : World} {s g : Nat} {a : Option Addr} {c : Nat} {xs : List Int} {t : Int} (d : Dra w s g a c xs t) (t1 : t ≤ 900000) (m : Nat) (m0 : 1 ≤ m) (m1 : m ≤ 3) :
    Calls Try.prog 87 #[.pointer (some ⟨s, 0, none⟩), .int .i64 m, .bool false] w fun e w' => ∃ (v : Value) (q : Nat) (ls : List (List UInt8)) (u : Int), e = .returned v ∧ RowAt w' q v ls ∧ w.heap.size ≤ q ∧ (∀ l ∈ ls, l.length ≤ 70) ∧ ls.length ≤ 3 ∧ u ≤ t + 20 ∧ Dra w' s g a c xs u ∧ But s w w' := by
  have R0 : RowAt (w.alloc (.cells #[] 9)) w.heap.size (.slice (some ⟨w.heap.size, 0, none⟩) 0 0) [] := RowAt.new w [] (by simp)
  have n0 : Below w.heap.size w (w.alloc (.cells #[] 9)) := (Below.refl _ _).alloc (Nat.le_refl _) _
  have D1 := hide (d.up n0)
  have U1 : Hid (But s w (w.alloc (.cells #[] 9))) := But.ofBelow n0
  have sl : Hid (s < w.heap.size) := d.S.lt
  have gl : Hid (0 < xs.length → g < w.heap.size) := fun h => d.R.lt h
  have wm : IntKind.i64.wrap ((m : Int) + 1) = (m : Int) + 1 := by rw [IntKind.wrap_i64]; omega
  have RH := hide R0
  clear R0 n0 d
  go_enter Try.func87, Try.ntmps87
  go_wp2_with fail
  generalize w.alloc (.cells #[] 9) = w1 at *
  refine (next_D D1.out (by omega) (by omega) (by omega)).mono ?_
  rintro e w2 ⟨k0, rfl, hk0, d2, b2⟩
  have D2 := hide d2
  have U2 := hide (U1.out.trans b2)
  have R2 := hide (RH.out.but b2 (by have := sl.out; omega))
  clear d2 b2 D1 U1 RH
  have hk3 : k0 ≤ 3 := by omega
  clear hk0
  go_wp2
  go_loopw [7, 8, 9] (fun o i _ wr => ∃ (q : Nat) (out : List (List UInt8)) (k : Nat) (u : Int), RowAt wr q o out ∧ w.heap.size ≤ q ∧ (∀ l ∈ out, l.length ≤ 70) ∧ i = .int .i64 k ∧ out.length + k ≤ 3 ∧ u + 4 * k ≤ t + 17 ∧ Dra wr s g a c xs u ∧ But s w wr) (fun _ i _ _ => (intOf i).toNat)
  case atStart => exact ⟨w.heap.size, [], k0, t + 1, R2.out, Nat.le_refl _, (fun l h => absurd h (by simp)), rfl, by simpa using hk3, by omega, D2.out, U2.out⟩
  case round =>
    clear R2 D2 U2 hk3
    obtain ⟨q, out, k, u, R, hq, hin, rfl, hok, hu, D, U⟩ := hrel
    obtain ⟨c1, rfl⟩ := R.e
    have RH := hide R
    have DH := hide D
    have UH := hide U
    have HI := hide hin
    clear R D U hin
    by_cases hk : k = 0
    · subst hk
      rw [show ((0 : Nat) : Int) = 0 from rfl]
      have ol : out.length ≤ 3 := by omega
      go_wp2_with fail
      refine (l11Sorted_any wr q _ c1 out RH.out.rd (by omega)).mono ?_
      rintro e w3 ⟨⟨v, q3, o3, rfl, R3, hq3, hin3, hl3⟩, n3⟩
      have D3 := hide (DH.out.up n3)
      have U3 := hide (UH.out.trans (But.ofBelow (g := s) n3))
      have R3h := hide R3
      have hq4 : Hid (w.heap.size ≤ q3) := by have := UH.out.size; show _ ≤ _; omega
      obtain ⟨c3, rfl⟩ := R3.e
      have HI3 : Hid (∀ l ∈ o3, l.length ≤ 70) := fun l h => HI.out l (hin3 l h)
      clear R3 n3 hq3 hin3
      go_wp2
      go_ret
      exact ⟨_, q3, o3, u, rfl, R3h.out, hq4.out, HI3.out, by omega, by omega, D3.out, U3.out⟩
    · have tk : decide ((0 : Int) < (k : Int)) = true := decide_eq_true (by omega)
      have tk' : 0 < k := by omega
      have sk : IntKind.i64.wrap ((k : Int) - 1) = ((k - 1 : Nat) : Int) := by rw [IntKind.wrap_i64]; omega
      have sk' : wrap64 ((k : Int) - 1) = ((k - 1 : Nat) : Int) := by unfold wrap64; omega
      go_wp2_with fail
      refine (drawName_D DH.out (by omega)).mono ?_
      rintro e w3 ⟨x, u3, rfl, hx, hu3, d3, b3⟩
      have D3 := hide d3
      have U3 := hide (UH.out.trans b3)
      have R3 := hide (RH.out.but b3 (by have := sl.out; omega))
      clear d3 b3 DH UH RH
      go_wp2_with fail
      refine (specPatternFault_any w3 x (by omega)).mono ?_
      rintro e w4 ⟨rfl, n4⟩
      have D4 := hide (D3.out.up n4)
      have U4 := hide (U3.out.trans (But.ofBelow (g := s) n4))
      have R4 := hide (R3.out.up n4)
      clear n4 D3 U3 R3
      by_cases hf : patF x = 0
      · rw [hf]
        have na : Below w4.heap.size w4 (w4.alloc (.cells #[.string ⟨⟨x⟩⟩] 9)) := (Below.refl _ _).alloc (Nat.le_refl _) _
        have R5 := R4.out.up na
        have D5 := D4.out.up na
        have U5 := U4.out.trans (But.ofBelow (g := s) na)
        have RO := RowAt.one w4 x
        obtain ⟨v', w6, g', hap, R6, B6, hg'⟩ := appendT (w4.alloc (.cells #[.string ⟨⟨x⟩⟩] 9)) 28 _ out [x] q w4.heap.size 0 1 R5 (fun i hi => by
          obtain ⟨o2, e2, hc2⟩ := RO.rd (by simp)
          obtain rfl : o2 = 0 := by simpa using e2.symm
          exact hc2 i hi) (by simp; omega)
        have D6 := hide (D5.other B6 (by have := sl.out; omega) (fun h => by have := gl.out h; omega))
        have U6 := hide (U5.other B6 hq)
        have GQ : Hid (w.heap.size ≤ g') := by
          show w.heap.size ≤ g'
          rcases hg' with rfl | rfl
          · exact hq
          · exact U5.size
        have IN : Hid (∀ l ∈ out ++ [x], l.length ≤ 70) := fun l h => by
          rcases List.mem_append.1 h with h | h
          · exact HI.out l h
          · rw [List.mem_singleton] at h
            rw [h]
            exact hx
        have R6h := hide R6
        obtain ⟨c6, rfl⟩ := R6.e
        have e4 : (out ++ [x]).length = out.length + 1 := by simp
        clear na R5 D5 U5 RO R6 B6 hg' D4 U4 R4 hf HI
        go_wp2_with (at_builtin; refine Lib.wpList_append_run _ rfl _ _ 28 28 rfl _ _ rfl rfl _ _ hap ?_)
        clear hap
        go_wp2
        go_roundw
        case rel => exact ⟨g', out ++ [x], k - 1, u3, (by have := R6h.out; rwa [e4] at this), GQ.out, IN.out, (by first | rfl | go_num), by omega, by omega, D6.out, U6.out⟩
        case measure => simp [intOf]; omega
      · have z1 : (patF x == 0) = false := by simpa using hf
        clear hf
        generalize patF x = z at *
        go_wp2
        go_roundw
        case rel => exact ⟨q, out, k - 1, u3, R4.out, hq, HI.out, (by first | rfl | go_num), by omega, by omega, D4.out, U4.out⟩
        case measure => simp [intOf]; omega
end Go.Proofs.Ytheggghidhjplaa
