
/-
  Names that are drawn, spoilt at times.
-/
import Derived.Test.YtheggghidhjplaaDnA
namespace Go.Proofs.Ytheggghidhjplaa
open Go Go.RowKit

theorem str_one (x : Int) : ∃ b, str [x] = ByteArray.mk ⟨[b]⟩ := ⟨UInt8.ofNat x.toNat, rfl⟩
set_option maxRecDepth 100000 in
set_option maxHeartbeats 8000000 in
theorem drawAny_D {w : World} {s g : Nat} {a : Option Addr} {c : Nat} {xs : List Int} {t : Int} (d : Dra w s g a c xs t) (t1 : t ≤ 1000000) :
    Calls Try.prog 65 #[.pointer (some ⟨s, 0, none⟩)] w fun e w' => ∃ (l : List UInt8) (u : Int), e = .returned (.string ⟨⟨l⟩⟩) ∧ l.length ≤ 200 ∧ u ≤ t + 6 ∧ Dra w' s g a c xs u ∧ But s w w' := by
  have D0 := hide d
  clear d
  go_enter Try.func65, Try.ntmps65
  go_wp2_with fail
  refine (drawName_D D0.out (by omega)).mono ?_
  rintro e w1 ⟨x, u1, rfl, hx, hu, d1, b1⟩
  have D1 := hide d1
  have U1 := hide b1
  have sx := tx_size x
  clear d1 b1 D0
  go_wp2_with fail
  refine (next_D D1.out (by omega) (by omega) (by omega)).mono ?_
  rintro e w2 ⟨k, rfl, hk, d2, b2⟩
  have D2 := hide d2
  have U2 := hide (U1.out.trans b2)
  clear d2 b2 D1 U1
  have hk' : k = 0 ∨ k = 1 ∨ k = 2 ∨ k = 3 ∨ k = 4 ∨ k = 5 ∨ k = 6 ∨ (k ≠ 0 ∧ k ≠ 1 ∧ k ≠ 2 ∧ k ≠ 3 ∧ k ≠ 4 ∧ k ≠ 5 ∧ k ≠ 6) := by omega
  clear hk
  rcases hk' with rfl | rfl | rfl | rfl | rfl | rfl | rfl | ⟨q0, q1, q2, q3, q4, q5, q6⟩
  · have ad : ∀ W : World, (Op.stringOp .add (ByteArray.mk ⟨x⟩) (ByteArray.mk #[46])).run Try.prog W = .ok (.string ⟨⟨x ++ [46]⟩⟩) W := fun W => tx_add W x [46] (by simp; omega)
    rw [show ((0 : Nat) : Int) = 0 from rfl]
    go_wp2
    go_ret
    exact ⟨_, _, rfl, by simp; omega, by omega, D2.out, U2.out⟩
  · have ad : ∀ W : World, (Op.stringOp .add (ByteArray.mk #[45]) (ByteArray.mk ⟨x⟩)).run Try.prog W = .ok (.string ⟨⟨45 :: x⟩⟩) W := fun W => tx_add W [45] x (by simp; omega)
    rw [show ((1 : Nat) : Int) = 1 from rfl]
    go_wp2
    go_ret
    exact ⟨_, _, rfl, by simp; omega, by omega, D2.out, U2.out⟩
  · rw [show ((2 : Nat) : Int) = 2 from rfl]
    go_wp2
    go_ret
    exact ⟨[97, 46, 46, 98], _, rfl, by simp, by omega, D2.out, U2.out⟩
  · rw [show ((3 : Nat) : Int) = 3 from rfl]
    go_wp2
    go_ret
    exact ⟨[], _, rfl, by simp, by omega, D2.out, U2.out⟩
  · have ad : ∀ W : World, (Op.stringOp .add (ByteArray.mk #[65]) (ByteArray.mk ⟨x⟩)).run Try.prog W = .ok (.string ⟨⟨65 :: x⟩⟩) W := fun W => tx_add W [65] x (by simp; omega)
    rw [show ((4 : Nat) : Int) = 4 from rfl]
    go_wp2
    go_ret
    exact ⟨_, _, rfl, by simp; omega, by omega, D2.out, U2.out⟩
  · rw [show ((5 : Nat) : Int) = 5 from rfl]
    go_wp2
    go_loopw [3] (fun v wr => wr = w2 ∧ ∃ (l : List UInt8), v = .string ⟨⟨l⟩⟩ ∧ l.length ≤ 127) (fun v _ => 128 - (match v with | .string b => b.size | _ => 0))
    case atStart => exact ⟨rfl, x, rfl, by omega⟩
    case round =>
      obtain ⟨e1, l, rfl, hl⟩ := hrel
      subst e1
      have sl := tx_size l
      by_cases h : l.length < 120
      · have tl : decide ((l.length : Int) < 120) = true := decide_eq_true (by omega)
        have ad : ∀ W : World, (Op.stringOp .add (ByteArray.mk ⟨l⟩) (ByteArray.mk #[46, 97, 98, 99, 100, 101, 102, 103])).run Try.prog W = .ok (.string ⟨⟨l ++ [46, 97, 98, 99, 100, 101, 102, 103]⟩⟩) W := fun W => tx_add W l [46, 97, 98, 99, 100, 101, 102, 103] (by simp; omega)
        have H := hide h
        clear h
        go_wp2
        go_roundw
        case rel => exact ⟨by simp, _, rfl, by have := H.out; simp; omega⟩
        case measure =>
          have := H.out
          show 128 - (l ++ [46, 97, 98, 99, 100, 101, 102, 103]).length < 128 - l.length
          simp
          omega
      · have tl : decide ((l.length : Int) < 120) = false := decide_eq_false (by omega)
        clear h
        go_wp2_with fail
        refine (next_D D2.out (by omega) (by omega) (by omega)).mono ?_
        rintro e w3 ⟨m, rfl, hm, d3, b3⟩
        have D3 := hide d3
        have U3 := hide (U2.out.trans b3)
        clear d3 b3 D2 U2
        go_wp2
        go_loopw [3, 5] (fun v i wr => wr = w3 ∧ ∃ (l : List UInt8) (j : Nat), v = .string ⟨⟨l⟩⟩ ∧ i = .int .i64 j ∧ l.length + j ≤ 150) (fun _ i _ => (intOf i).toNat)
        case atStart => exact ⟨rfl, l, m, rfl, rfl, by omega⟩
        case round =>
          obtain ⟨e1, l, j, rfl, rfl, hl⟩ := hrel
          subst e1
          by_cases hj : j = 0
          · subst hj
            rw [show ((0 : Nat) : Int) = 0 from rfl]
            go_wp2
            go_ret
            exact ⟨l, _, rfl, by omega, by omega, D3.out, U3.out⟩
          · have tj : decide ((0 : Int) < (j : Int)) = true := decide_eq_true (by omega)
            have tj' : 0 < j := by omega
            have ad : ∀ W : World, (Op.stringOp .add (ByteArray.mk ⟨l⟩) (ByteArray.mk #[104])).run Try.prog W = .ok (.string ⟨⟨l ++ [104]⟩⟩) W := fun W => tx_add W l [104] (by simp; omega)
            have sj : IntKind.i64.wrap ((j : Int) - 1) = ((j - 1 : Nat) : Int) := by rw [IntKind.wrap_i64]; omega
            have sj' : wrap64 ((j : Int) - 1) = ((j - 1 : Nat) : Int) := by unfold wrap64; omega
            go_wp2
            go_roundw
            case rel => exact ⟨by simp, l ++ [104], j - 1, rfl, by first | rfl | go_num, by simp; omega⟩
            case measure => simp [intOf]; omega
  · rw [show ((6 : Nat) : Int) = 6 from rfl]
    have w6 : IntKind.i64.wrap ((x.length : Int) + 1) = (x.length : Int) + 1 := by rw [IntKind.wrap_i64]; omega
    go_wp2_with fail
    refine (next_D D2.out (by omega) (by omega) (by omega)).mono ?_
    rintro e w3 ⟨m, rfl, hm, d3, b3⟩
    have D3 := hide d3
    have U3 := hide (U2.out.trans b3)
    clear d3 b3 D2 U2
    have hm' : m ≤ x.length := by omega
    have x1 : (ByteArray.mk ⟨x⟩).extract 0 m = ByteArray.mk ⟨x.take m⟩ := by
      have := ByteArray.extract_mk x 0 m
      simpa using this
    have x2 : (ByteArray.mk ⟨x⟩).extract m x.length = ByteArray.mk ⟨x.drop m⟩ := by
      have := ByteArray.extract_mk x m x.length
      rw [List.take_of_length_le (by rw [List.length_drop]; omega)] at this
      exact this
    have t2 : (m : Int) ≤ (x.length : Int) := by omega
    have NX := hide (fun W (h : Below w3.heap.size w3 W) => next_D (n := 256) (D3.out.up h) (by omega) (by omega) (by omega))
    have nd : Below w3.heap.size w3 w3.drew := (Below.refl _ _).drew
    have UU := hide (fun W (h : Below w3.heap.size w3 W) => U3.out.trans (But.ofBelow (g := s) h))
    have KC : Hid (∀ (W : World) (y : Nat), (y : Int) < 256 → ∃ b : UInt8, (convert 23 9 (.slice (some ⟨W.heap.size, 0, none⟩) 1 1)).run Try.prog (W.alloc (.cells #[.int .u8 (IntKind.u8.wrap (y : Int))] 5)) = .ok (.string ⟨⟨[b]⟩⟩) (W.alloc (.cells #[.int .u8 (IntKind.u8.wrap (y : Int))] 5)) ∧ (∀ W : World, (Op.stringOp .add (ByteArray.mk ⟨x.take m⟩) (ByteArray.mk ⟨[b]⟩)).run Try.prog W = .ok (.string ⟨⟨x.take m ++ [b]⟩⟩) W) ∧ (∀ W : World, (Op.stringOp .add (ByteArray.mk ⟨x.take m ++ [b]⟩) (ByteArray.mk ⟨x.drop m⟩)).run Try.prog W = .ok (.string ⟨⟨x.take m ++ [b] ++ x.drop m⟩⟩) W)) := by
      intro W y _
      obtain ⟨b, hb⟩ := str_one (IntKind.u8.wrap (y : Int))
      have cv := conv_run (W.alloc (.cells #[.int .u8 (IntKind.u8.wrap (y : Int))] 5)) W.heap.size (some ⟨W.heap.size, 0, none⟩) 1 [IntKind.u8.wrap (y : Int)] (fun _ => ⟨0, rfl, fun i hi => by
        obtain rfl : i = 0 := by
          simp at hi
          omega
        exact cell_one_new W (.int .u8 (IntKind.u8.wrap (y : Int))) 5 0 _ rfl⟩)
      rw [hb] at cv
      exact ⟨b, cv, fun W => tx_add W (x.take m) [b] (by simp; omega), fun W => tx_add W (x.take m ++ [b]) (x.drop m) (by simp; omega)⟩
    go_wp2
    go_region_with (go_at_call 63; refine ((unhide NX) _ nd).mono ?_; rintro e w4 ⟨y, rfl, hy, d4, b4⟩; obtain ⟨b, cv, ad1, ad2⟩ := (unhide KC) w4 y hy)
    have na : Below w4.heap.size w4 (w4.alloc (.cells #[.int .u8 (IntKind.u8.wrap (y : Int))] 5)) := (Below.refl _ _).alloc (Nat.le_refl _) _
    have D5 := hide (d4.up na)
    have U5 := hide (((UU.out w3.drew nd).trans b4).trans (But.ofBelow na))
    clear na d4 b4 cv ad1 ad2
    generalize w4.alloc (.cells #[.int .u8 (IntKind.u8.wrap (y : Int))] 5) = w5 at *
    go_wp2
    go_ret
    exact ⟨x.take m ++ [b] ++ x.drop m, _, by simp, by simp; omega, by omega, D5.out, U5.out⟩
  · have e0 : ((k : Int) == 0) = false := by simp; omega
    have e1 : ((k : Int) == 1) = false := by simp; omega
    have e2 : ((k : Int) == 2) = false := by simp; omega
    have e3 : ((k : Int) == 3) = false := by simp; omega
    have e4 : ((k : Int) == 4) = false := by simp; omega
    have e5 : ((k : Int) == 5) = false := by simp; omega
    have e6 : ((k : Int) == 6) = false := by simp; omega
    clear q0 q1 q2 q3 q4 q5 q6
    go_wp2
    go_ret
    exact ⟨x, _, rfl, by omega, by omega, D2.out, U2.out⟩
end Go.Proofs.Ytheggghidhjplaa
