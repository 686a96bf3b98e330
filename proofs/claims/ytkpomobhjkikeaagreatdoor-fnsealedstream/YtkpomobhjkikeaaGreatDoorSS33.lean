import Derived.Test.YtkpomobhjkikeaaGreatDoorSS17
import Derived.Test.YtkpomobhjkikeaaGreatDoorSS3
import Derived.Deep.QuietTactic
import Derived.Deep.DeepCutAuto
namespace Go.Proofs.YtkpomobhjkikeaaGreatDoor
set_option maxRecDepth 100000
open Go Go.RowKit
theorem and31 (n : Nat) (h : n < 32) : bits BinOp.and IntKind.u64 (n : Int) 31 = (n : Int) := by
  rw [show (31 : Int) = ((31 : Nat) : Int) from rfl, u64_and_nat n 31 (by omega) (by omega), show (31 : Nat) = 2 ^ 5 - 1 from rfl, Nat.and_two_pow_sub_one_eq_mod, Nat.mod_eq_of_lt (by omega)]
set_option maxHeartbeats 1000000 in
theorem rotl_any (w : World) (x : Int) (h : W4 x) (n : Nat) (h0 : 0 < n) (h1 : n < 32) : Calls Tryz.prog 121 #[.int .u32 x, .int .i64 (n : Int)] w fun e w' => e = .returned (.int .u32 (lf x n)) ∧ w' = w := by
  obtain ⟨x0, x1⟩ := h
  have A := and31 n h1
  go_enter Tryz.func121, Tryz.ntmps121
  go_wp2
  go_ret
  exact ⟨rfl, rfl⟩
set_option maxHeartbeats 2000000 in
theorem quarter_any (w : World) (s : Q4) (h : s.Ok) : Calls Tryz.prog 116 #[.int .u32 s.a, .int .u32 s.b, .int .u32 s.c, .int .u32 s.d] w fun e w' => e = .returned (.tuple #[.int .u32 (qr s).a, .int .u32 (qr s).b, .int .u32 (qr s).c, .int .u32 (qr s).d]) ∧ w' = w := by
  have hs := h
  have hs1 := qH_ok h 16 12
  obtain ⟨⟨a0, a1⟩, ⟨b0, b1⟩, ⟨c0, c1⟩, ⟨d0, d1⟩⟩ := h
  have e1 : Hid (qH s 16 12 = ⟨qA s, qB s 16 12, qC s 16, qD s 16⟩) := rfl
  have e2 : Hid (qr s = ⟨qA (qH s 16 12), qB (qH s 16 12) 8 7, qC (qH s 16 12) 8, qD (qH s 16 12) 8⟩) := rfl
  have R1 := fun w => hide (rotl_any w _ (xor_w4 hs.2.2.2 (qA_w s)) 16 (by decide) (by decide))
  have R2 := fun w => hide (rotl_any w _ (xor_w4 hs.2.1 (qC_w s 16)) 12 (by decide) (by decide))
  have R3 := fun w => hide (rotl_any w _ (xor_w4 hs1.2.2.2 (qA_w (qH s 16 12))) 8 (by decide) (by decide))
  have R4 := fun w => hide (rotl_any w _ (xor_w4 hs1.2.1 (qC_w (qH s 16 12) 8)) 7 (by decide) (by decide))
  have v1 := qA_w s
  have v2 := qD_w hs 16
  have v3 := qC_w s 16
  have v4 := qB_w hs 16 12
  have v5 := qA_w (qH s 16 12)
  have v6 := qD_w hs1 8
  have v7 := qC_w (qH s 16 12) 8
  have v8 := qB_w hs1 8 7
  have f1 : Hid ((s.a + s.b) % 4294967296 = qA s) := rfl
  have f2 : Hid ((s.c + qD s 16) % 4294967296 = qC s 16) := rfl
  have f3 : Hid ((qA s + qB s 16 12) % 4294967296 = qA (qH s 16 12)) := rfl
  have f4 : Hid ((qC s 16 + qD (qH s 16 12) 8) % 4294967296 = qC (qH s 16 12) 8) := rfl
  have R1' : ∀ w, Hid (Calls Tryz.prog 121 #[.int .u32 (bits BinOp.xor IntKind.u32 s.d (qA s)), .int .i64 16] w fun e w' => e = .returned (.int .u32 (qD s 16)) ∧ w' = w) := R1
  have R2' : ∀ w, Hid (Calls Tryz.prog 121 #[.int .u32 (bits BinOp.xor IntKind.u32 s.b (qC s 16)), .int .i64 12] w fun e w' => e = .returned (.int .u32 (qB s 16 12)) ∧ w' = w) := R2
  have R3' : ∀ w, Hid (Calls Tryz.prog 121 #[.int .u32 (bits BinOp.xor IntKind.u32 (qD s 16) (qA (qH s 16 12))), .int .i64 8] w fun e w' => e = .returned (.int .u32 (qD (qH s 16 12) 8)) ∧ w' = w) := R3
  have R4' : ∀ w, Hid (Calls Tryz.prog 121 #[.int .u32 (bits BinOp.xor IntKind.u32 (qB s 16 12) (qC (qH s 16 12) 8)), .int .i64 7] w fun e w' => e = .returned (.int .u32 (qB (qH s 16 12) 8 7)) ∧ w' = w) := R4
  have EQ : Hid (.tuple #[.int .u32 (qr s).a, .int .u32 (qr s).b, .int .u32 (qr s).c, .int .u32 (qr s).d] = Value.tuple #[.int .u32 (qA (qH s 16 12)), .int .u32 (qB (qH s 16 12) 8 7), .int .u32 (qC (qH s 16 12) 8), .int .u32 (qD (qH s 16 12) 8)]) := rfl
  rw [EQ.out]
  clear EQ e1 e2 R1 R2 R3 R4 hs hs1
  generalize qA (qH s 16 12) = xa at *
  generalize qB (qH s 16 12) 8 7 = xb at *
  generalize qC (qH s 16 12) 8 = xc at *
  generalize qD (qH s 16 12) 8 = xd at *
  generalize qA s = ya at *
  generalize qD s 16 = yd at *
  generalize qC s 16 = yc at *
  generalize qB s 16 12 = yb at *
  obtain ⟨v10, v11⟩ := v1
  obtain ⟨v20, v21⟩ := v2
  obtain ⟨v30, v31⟩ := v3
  obtain ⟨v40, v41⟩ := v4
  obtain ⟨v50, v51⟩ := v5
  obtain ⟨v60, v61⟩ := v6
  obtain ⟨v70, v71⟩ := v7
  obtain ⟨v80, v81⟩ := v8
  obtain ⟨sa, sb, sc, sd⟩ := s
  dsimp only at *
  go_enter Tryz.func116, Tryz.ntmps116
  go_wp2_with fail
  rw [f1.out]
  refine (R1' w).out.mono ?_
  rintro r w1 ⟨rfl, rfl⟩
  go_wp2_with fail
  rw [f2.out]
  refine (R2' w1).out.mono ?_
  rintro r w2 ⟨rfl, rfl⟩
  go_wp2_with fail
  rw [f3.out]
  refine (R3' w2).out.mono ?_
  rintro r w3 ⟨rfl, rfl⟩
  go_wp2_with fail
  rw [f4.out]
  refine (R4' w3).out.mono ?_
  rintro r w4 ⟨rfl, rfl⟩
  go_wp2
  exact bodyPost_ret (v := .tuple #[.int .u32 xa, .int .u32 xb, .int .u32 xc, .int .u32 xd]) (by simp [results, Tryz.results116, go_sem]) rfl ⟨rfl, rfl⟩
end Go.Proofs.YtkpomobhjkikeaaGreatDoor
