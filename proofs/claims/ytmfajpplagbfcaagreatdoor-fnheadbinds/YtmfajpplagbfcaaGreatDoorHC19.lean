import Derived.Test.YtmfajpplagbfcaaGreatDoorHC2
import Derived.Test.YtmfajpplagbfcaaGreatDoorHC3
import Derived.Laws.BitsAllLaws
import Derived.Deep.QuietTactic
import Derived.BigQuiet
import Derived.Test.YtmfajpplagbfcaaGreatDoorHC8
import Derived.Test.YtmfajpplagbfcaaGreatDoorHC1
namespace Go.Proofs.YtmfajpplagbfcaaGreatDoor
set_option maxRecDepth 100000
open Go.RowKit
theorem p256_two (k : Nat) : (256 : Int) ^ k = 2 ^ (8 * k) := by rw [Int.pow_mul]; rfl
set_option maxRecDepth 20000 in
set_option maxHeartbeats 1000000 in
theorem len64_32 (w : World) : Calls Tryz.prog 96 #[.int .u64 4294967295] w fun e w' => e = .returned (.int .i64 32) ∧ w' = w := by
  go_enter Tryz.func96, Tryz.ntmps96
  go_wp2
  go_ret
  exact ⟨by kernel_rfl, rfl⟩
set_option maxHeartbeats 1000000 in
theorem wordBits_32 (w : World) : Calls Tryz.prog 84 #[] w fun e w' => e = .returned (.int .i64 32) ∧ w' = w := by
  go_enter Tryz.func84, Tryz.ntmps84
  go_wp2_with fail
  refine (len64_32 w).mono ?_
  rintro r w1 ⟨rfl, rfl⟩
  go_wp2
  go_ret
  exact ⟨rfl, rfl⟩
theorem wordSize_32 (w : World) : Calls Tryz.prog 85 #[] w fun e w' => e = .returned (.int .i64 4) ∧ w' = w := by
  go_enter Tryz.func85, Tryz.ntmps85
  go_wp2_with fail
  refine (wordBits_32 w).mono ?_
  rintro r w1 ⟨rfl, rfl⟩
  go_wp2
  go_ret
  exact ⟨rfl, rfl⟩
theorem blockSize_32 (w : World) : Calls Tryz.prog 75 #[] w fun e w' => e = .returned (.int .i64 64) ∧ w' = w := by
  go_enter Tryz.func75, Tryz.ntmps75
  go_wp2_with fail
  refine (wordSize_32 w).mono ?_
  rintro r w1 ⟨rfl, rfl⟩
  go_wp2
  go_ret
  exact ⟨rfl, rfl⟩
set_option maxHeartbeats 4000000 in
theorem padding_32 (w : World) (n : Int) (h0 : 0 ≤ n) (h1 : n ≤ 1099511627776) :
    Calls Tryz.prog 79 #[.int .i64 n] w fun e w' => NewRow w.heap.size w' e .u8 (padL n 64 8) ∧ Below w.heap.size w w' := by
  obtain ⟨i0, hi, hz0, hz1, hz2⟩ := info_parts Tryz.info5
  have PS := padS_32 n
  have PL : padS n 64 8 = (padL n 64 8).length := (padL_len n 64 8).symm
  have PA := fun ys => hide (fun h => PadTo.all (n := n) (B := 64) (t := 8) (ys := ys) h0 h1 (by decide) h)
  have S1 : 9 ≤ padS n 64 8 ∧ padS n 64 8 ≤ 256 := by have := padZ_lt n (B := 64) (t := 8) (by decide); unfold padS; omega
  have T : decide (64 - n % 64 < 9) = true ∧ 64 - n % 64 + 64 = (padS n 64 8 : Int) ∨ decide (64 - n % 64 < 9) = false ∧ 64 - n % 64 = (padS n 64 8 : Int) := by
    rw [PS]
    split
    · left; simp_all
    · right; simp_all
  generalize padL n 64 8 = pl at *
  generalize padS n 64 8 = s at *
  clear PS
  have KL := hide PL
  clear PL
  have z0 : 0 ≤ n % 64 ∧ n % 64 < 64 := by omega
  rcases T with ⟨t1, t2⟩ | ⟨t1, t2⟩
  · go_enter Tryz.func79, Tryz.ntmps79
    go_wp2_with fail
    refine (blockSize_32 w).mono ?_
    rintro r w1 ⟨rfl, rfl⟩
    go_wp2_with fail
    refine (blockSize_32 w1).mono ?_
    rintro r w2 ⟨rfl, rfl⟩
    go_wp2_with fail
    refine (wordSize_32 w2).mono ?_
    rintro r w3 ⟨rfl, rfl⟩
    go_wp2_with fail
    refine (blockSize_32 w3).mono ?_
    rintro r w4 ⟨rfl, rfl⟩
    go_wp2_with (at_make; refine wpList_make_full _ rfl _ _ 22 rfl w4.heap.size 5 i0 (.int .u8 0) 1 Tryz.underlying22 hi hz0 hz1 .i64 .i64 _ _ s rfl rfl rfl rfl (by rw [hz2]; omega) (by unfold maxLen; omega) (Nat.le_refl _) ?_; intro w5 hown hgrow; have hB0 := Blk.of_made hown; have h00 := hB0.cell (i := 0) (by simp; omega); generalize (List.replicate s (0 : Int)).getD 0 0 = y0 at h00; have f00 := hB0.free 0; have s0 : (0 : Int) < (s : Int) := by omega)
    have hN0 : Below w4.heap.size w4 w5 := (Below.refl _ _).grown hgrow (Nat.le_refl _) (by simp)
    have hB1 := hB0.store 0 128
    have hN1 : Below w4.heap.size w4 (w5.setCell ⟨w4.heap.size, 0, none⟩ (.int .u8 128)) := hN0.setCell (Nat.le_refl _) _
    have P0 := PadTo.zero n s (by omega)
    clear hown hgrow hB0 hN0
    go_loopw [23] (fun i wr => ∃ (k : Nat) (ys : List Int), k ≤ 8 ∧ i = .int .i64 k ∧ PadTo n s ys k ∧ Blk wr w4.heap.size .u8 ys ∧ Below w4.heap.size w4 wr) (fun i _ => 8 - (intOf i).toNat)
    case atStart => exact ⟨0, _, Nat.zero_le _, rfl, P0, hB1, hN1⟩
    case round =>
      obtain ⟨k, ys, hk, rfl, hT, hB, hN⟩ := hrel
      by_cases hlt : k < 8
      · have R := hT.step (by omega)
        rw [p256_two k] at R
        obtain ⟨p, hp⟩ : ∃ p : Nat, s - 1 - k = p := ⟨_, rfl⟩
        rw [hp] at R
        have hl : p < ys.length := by rw [hT.1]; omega
        have p1 : (s : Int) - 1 - (k : Int) = (p : Int) := by omega
        have p2 : (p : Int) < (s : Int) := by omega
        have hcy := hB.cell hl
        have hfy := hB.free p
        have hB' := hB.store p (8 * n / 2 ^ (8 * k) % 256)
        have hN' : Below w4.heap.size w4 (wr.setCell ⟨w4.heap.size, p, none⟩ (.int .u8 (8 * n / 2 ^ (8 * k) % 256))) := hN.setCell (Nat.le_refl _) _
        clear hB hN hT
        go_wp2
        go_roundw
        case rel => exact ⟨k + 1, _, by omega, by go_num, R, hB', hN'⟩
        case measure => simp [intOf]; omega
      · obtain rfl : k = 8 := by omega
        have K := hide ((PA ys).out hT)
        have LS := hide hT.1
        clear hT PA
        go_wp2
        go_ret
        refine ⟨⟨_, s, w4.heap.size, by rw [KL.out]; rfl, ?_, by simp, by rw [← KL.out]; exact Nat.le_refl _, Nat.le_refl _⟩, hN⟩
        rw [← K.out]
        exact hB.own0
  · go_enter Tryz.func79, Tryz.ntmps79
    go_wp2_with fail
    refine (blockSize_32 w).mono ?_
    rintro r w1 ⟨rfl, rfl⟩
    go_wp2_with fail
    refine (blockSize_32 w1).mono ?_
    rintro r w2 ⟨rfl, rfl⟩
    go_wp2_with fail
    refine (wordSize_32 w2).mono ?_
    rintro r w3 ⟨rfl, rfl⟩
    go_wp2_with (at_make; refine wpList_make_full _ rfl _ _ 22 rfl w3.heap.size 5 i0 (.int .u8 0) 1 Tryz.underlying22 hi hz0 hz1 .i64 .i64 _ _ s rfl rfl rfl rfl (by rw [hz2]; omega) (by unfold maxLen; omega) (Nat.le_refl _) ?_; intro w5 hown hgrow; have hB0 := Blk.of_made hown; have h00 := hB0.cell (i := 0) (by simp; omega); generalize (List.replicate s (0 : Int)).getD 0 0 = y0 at h00; have f00 := hB0.free 0; have s0 : (0 : Int) < (s : Int) := by omega)
    have hN0 : Below w3.heap.size w3 w5 := (Below.refl _ _).grown hgrow (Nat.le_refl _) (by simp)
    have hB1 := hB0.store 0 128
    have hN1 : Below w3.heap.size w3 (w5.setCell ⟨w3.heap.size, 0, none⟩ (.int .u8 128)) := hN0.setCell (Nat.le_refl _) _
    have P0 := PadTo.zero n s (by omega)
    clear hown hgrow hB0 hN0
    go_loopw [23] (fun i wr => ∃ (k : Nat) (ys : List Int), k ≤ 8 ∧ i = .int .i64 k ∧ PadTo n s ys k ∧ Blk wr w3.heap.size .u8 ys ∧ Below w3.heap.size w3 wr) (fun i _ => 8 - (intOf i).toNat)
    case atStart => exact ⟨0, _, Nat.zero_le _, rfl, P0, hB1, hN1⟩
    case round =>
      obtain ⟨k, ys, hk, rfl, hT, hB, hN⟩ := hrel
      by_cases hlt : k < 8
      · have R := hT.step (by omega)
        rw [p256_two k] at R
        obtain ⟨p, hp⟩ : ∃ p : Nat, s - 1 - k = p := ⟨_, rfl⟩
        rw [hp] at R
        have hl : p < ys.length := by rw [hT.1]; omega
        have p1 : (s : Int) - 1 - (k : Int) = (p : Int) := by omega
        have p2 : (p : Int) < (s : Int) := by omega
        have hcy := hB.cell hl
        have hfy := hB.free p
        have hB' := hB.store p (8 * n / 2 ^ (8 * k) % 256)
        have hN' : Below w3.heap.size w3 (wr.setCell ⟨w3.heap.size, p, none⟩ (.int .u8 (8 * n / 2 ^ (8 * k) % 256))) := hN.setCell (Nat.le_refl _) _
        clear hB hN hT
        go_wp2
        go_roundw
        case rel => exact ⟨k + 1, _, by omega, by go_num, R, hB', hN'⟩
        case measure => simp [intOf]; omega
      · obtain rfl : k = 8 := by omega
        have K := hide ((PA ys).out hT)
        have LS := hide hT.1
        clear hT PA
        go_wp2
        go_ret
        refine ⟨⟨_, s, w3.heap.size, by rw [KL.out]; rfl, ?_, by simp, by rw [← KL.out]; exact Nat.le_refl _, Nat.le_refl _⟩, hN⟩
        rw [← K.out]
        exact hB.own0
end Go.Proofs.YtmfajpplagbfcaaGreatDoor
namespace Go.Proofs.YtmfajpplagbfcaaGreatDoor
set_option maxRecDepth 100000
open Go.RowKit
def vlen (v : Value) : Nat := match v with | .slice _ n _ => n | _ => 0
theorem vlen_slice (a : Option Addr) (n c : Nat) : vlen (.slice a n c) = n := rfl
end Go.Proofs.YtmfajpplagbfcaaGreatDoor
namespace Go.Proofs.YtmfajpplagbfcaaGreatDoor
set_option maxRecDepth 100000
open Go Go.RowKit
def Wd32 (x : Int) : Prop := 0 ≤ x ∧ x < 4294967296
def rr32 (x : Int) (n : Nat) : Int := bits BinOp.or IntKind.u32 (x / 2 ^ n) (x * 2 ^ (32 - n) % 4294967296)
def ng32 (x : Int) : Int := bits BinOp.xor IntKind.u32 IntKind.u32.max x
def sg032 (x : Int) : Int := bits BinOp.xor IntKind.u32 (bits BinOp.xor IntKind.u32 (rr32 x 7) (rr32 x 18)) (x / 8)
def sg132 (x : Int) : Int := bits BinOp.xor IntKind.u32 (bits BinOp.xor IntKind.u32 (rr32 x 17) (rr32 x 19)) (x / 1024)
def gg032 (x : Int) : Int := bits BinOp.xor IntKind.u32 (bits BinOp.xor IntKind.u32 (rr32 x 2) (rr32 x 13)) (rr32 x 22)
def gg132 (x : Int) : Int := bits BinOp.xor IntKind.u32 (bits BinOp.xor IntKind.u32 (rr32 x 6) (rr32 x 11)) (rr32 x 25)
def ch32 (e f g : Int) : Int := bits BinOp.xor IntKind.u32 (bits BinOp.and IntKind.u32 e f) (bits BinOp.and IntKind.u32 (ng32 e) g)
def mj32 (a b c : Int) : Int := bits BinOp.xor IntKind.u32 (bits BinOp.xor IntKind.u32 (bits BinOp.and IntKind.u32 a b) (bits BinOp.and IntKind.u32 a c)) (bits BinOp.and IntKind.u32 b c)
theorem mod_wd32 (x : Int) : Wd32 (x % 4294967296) := ⟨by omega, by omega⟩
set_option maxHeartbeats 1000000 in
theorem turnRight_32 (w : World) (x : Int) (h : Wd32 x) (n : Nat) (h0 : 0 < n) (h1 : n < 32) : Calls Tryz.prog 100 #[.int .u32 x, .int .i64 (n : Int)] w fun e w' => e = .returned (.int .u32 (rr32 x n)) ∧ ∃ m, w' = w.drewN m := by
  obtain ⟨x0, x1⟩ := h
  go_enter Tryz.func100, Tryz.ntmps100
  go_wp2_with fail
  go_quiet ((go_at_call 84; exact Calls.quiet_of_same (wordBits_32 _)))
  go_wp2
  go_ret
  exact ⟨rfl, _, rfl⟩
theorem choice_32 (w : World) (e f g : Int) (he : Wd32 e) (hf : Wd32 f) (hg : Wd32 g) : Calls Tryz.prog 89 #[.int .u32 e, .int .u32 f, .int .u32 g] w fun r w' => r = .returned (.int .u32 (ch32 e f g)) ∧ w' = w := by
  obtain ⟨e0, e1⟩ := he
  obtain ⟨f0, f1⟩ := hf
  obtain ⟨g0, g1⟩ := hg
  go_enter Tryz.func89, Tryz.ntmps89
  go_wp2
  go_ret
  exact ⟨rfl, rfl⟩
theorem majority_32 (w : World) (e f g : Int) (he : Wd32 e) (hf : Wd32 f) (hg : Wd32 g) : Calls Tryz.prog 91 #[.int .u32 e, .int .u32 f, .int .u32 g] w fun r w' => r = .returned (.int .u32 (mj32 e f g)) ∧ w' = w := by
  obtain ⟨e0, e1⟩ := he
  obtain ⟨f0, f1⟩ := hf
  obtain ⟨g0, g1⟩ := hg
  go_enter Tryz.func91, Tryz.ntmps91
  go_wp2
  go_ret
  exact ⟨rfl, rfl⟩
theorem hasLong_32 (w : World) : Calls Tryz.prog 97 #[] w fun e w' => e = .returned (.bool false) ∧ w' = w := by
  go_enter Tryz.func97, Tryz.ntmps97
  go_wp2_with fail
  refine (wordBits_32 w).mono ?_
  rintro r w1 ⟨rfl, rfl⟩
  go_wp2
  go_ret
  exact ⟨rfl, rfl⟩
theorem stepsOf_32 (w : World) : Calls Tryz.prog 86 #[] w fun e w' => e = .returned (.int .i64 64) ∧ w' = w := by
  go_enter Tryz.func86, Tryz.ntmps86
  go_wp2_with fail
  refine (hasLong_32 w).mono ?_
  rintro r w1 ⟨rfl, rfl⟩
  go_wp2
  go_ret
  exact ⟨rfl, rfl⟩
theorem upperBits_32 (w : World) (x : Int) (h0 : 0 ≤ x) (h1 : x < 18446744073709551616) : Calls Tryz.prog 74 #[.int .u64 x] w fun e w' => e = .returned (.int .u32 (x / 4294967296)) ∧ w' = w := by
  go_enter Tryz.func74, Tryz.ntmps74
  go_wp2_with fail
  refine (wordBits_32 w).mono ?_
  rintro r w1 ⟨rfl, rfl⟩
  go_wp2
  go_ret
  exact ⟨rfl, rfl⟩
set_option maxHeartbeats 1000000 in
theorem smallMix0_32 (w : World) (x : Int) (h : Wd32 x) : Calls Tryz.prog 99 #[.int .u32 x] w fun e w' => e = .returned (.int .u32 (sg032 x)) ∧ ∃ m, w' = w.drewN m := by
  have T0 := fun w => hide (turnRight_32 w x h 7 (by decide) (by decide))
  have T1 := fun w => hide (turnRight_32 w x h 18 (by decide) (by decide))
  obtain ⟨x0, x1⟩ := h
  go_enter Tryz.func99, Tryz.ntmps99
  go_wp2_with fail
  refine (hasLong_32 w).mono ?_
  rintro r w0 ⟨rfl, rfl⟩
  go_wp2_with fail
  refine (T0 w0).out.mono ?_
  rintro r w1 ⟨rfl, n1, rfl⟩
  go_wp2_with fail
  refine (T1 (w0.drewN n1)).out.mono ?_
  rintro r w2 ⟨rfl, n2, rfl⟩
  go_wp2
  go_ret
  exact ⟨rfl, _, rfl⟩
set_option maxHeartbeats 1000000 in
theorem smallMix1_32 (w : World) (x : Int) (h : Wd32 x) : Calls Tryz.prog 98 #[.int .u32 x] w fun e w' => e = .returned (.int .u32 (sg132 x)) ∧ ∃ m, w' = w.drewN m := by
  have T0 := fun w => hide (turnRight_32 w x h 17 (by decide) (by decide))
  have T1 := fun w => hide (turnRight_32 w x h 19 (by decide) (by decide))
  obtain ⟨x0, x1⟩ := h
  go_enter Tryz.func98, Tryz.ntmps98
  go_wp2_with fail
  refine (hasLong_32 w).mono ?_
  rintro r w0 ⟨rfl, rfl⟩
  go_wp2_with fail
  refine (T0 w0).out.mono ?_
  rintro r w1 ⟨rfl, n1, rfl⟩
  go_wp2_with fail
  refine (T1 (w0.drewN n1)).out.mono ?_
  rintro r w2 ⟨rfl, n2, rfl⟩
  go_wp2
  go_ret
  exact ⟨rfl, _, rfl⟩
set_option maxHeartbeats 1000000 in
theorem greatMix0_32 (w : World) (x : Int) (h : Wd32 x) : Calls Tryz.prog 90 #[.int .u32 x] w fun e w' => e = .returned (.int .u32 (gg032 x)) ∧ ∃ m, w' = w.drewN m := by
  have T0 := fun w => hide (turnRight_32 w x h 2 (by decide) (by decide))
  have T1 := fun w => hide (turnRight_32 w x h 13 (by decide) (by decide))
  have T2 := fun w => hide (turnRight_32 w x h 22 (by decide) (by decide))
  obtain ⟨x0, x1⟩ := h
  go_enter Tryz.func90, Tryz.ntmps90
  go_wp2_with fail
  refine (hasLong_32 w).mono ?_
  rintro r w0 ⟨rfl, rfl⟩
  go_wp2_with fail
  refine (T0 w0).out.mono ?_
  rintro r w1 ⟨rfl, n1, rfl⟩
  go_wp2_with fail
  refine (T1 (w0.drewN n1)).out.mono ?_
  rintro r w2 ⟨rfl, n2, rfl⟩
  go_wp2_with fail
  refine (T2 _).out.mono ?_
  rintro r w3 ⟨rfl, n3, rfl⟩
  go_wp2
  go_ret
  exact ⟨rfl, _, rfl⟩
set_option maxHeartbeats 1000000 in
theorem greatMix1_32 (w : World) (x : Int) (h : Wd32 x) : Calls Tryz.prog 88 #[.int .u32 x] w fun e w' => e = .returned (.int .u32 (gg132 x)) ∧ ∃ m, w' = w.drewN m := by
  have T0 := fun w => hide (turnRight_32 w x h 6 (by decide) (by decide))
  have T1 := fun w => hide (turnRight_32 w x h 11 (by decide) (by decide))
  have T2 := fun w => hide (turnRight_32 w x h 25 (by decide) (by decide))
  obtain ⟨x0, x1⟩ := h
  go_enter Tryz.func88, Tryz.ntmps88
  go_wp2_with fail
  refine (hasLong_32 w).mono ?_
  rintro r w0 ⟨rfl, rfl⟩
  go_wp2_with fail
  refine (T0 w0).out.mono ?_
  rintro r w1 ⟨rfl, n1, rfl⟩
  go_wp2_with fail
  refine (T1 (w0.drewN n1)).out.mono ?_
  rintro r w2 ⟨rfl, n2, rfl⟩
  go_wp2_with fail
  refine (T2 _).out.mono ?_
  rintro r w3 ⟨rfl, n3, rfl⟩
  go_wp2
  go_ret
  exact ⟨rfl, _, rfl⟩
end Go.Proofs.YtmfajpplagbfcaaGreatDoor
namespace Go.Proofs.YtmfajpplagbfcaaGreatDoor
set_option maxRecDepth 100000
open Go Go.RowKit
def extv32 (y0 y2 y7 y15 : Int) : Int := (y0 + (((sg132 y2 + y7) % 4294967296) + sg032 y15) % 4294967296) % 4294967296
set_option maxHeartbeats 4000000 in
theorem extend_32 (w : World) (q i0 p0 p2 p7 p15 : Nat) (y0 y2 y7 y15 : Int) (s2 : IntKind.i64.wrap ((i0 : Int) - 2) = (i0 : Int) - 2) (s7 : IntKind.i64.wrap ((i0 : Int) - 7) = (i0 : Int) - 7) (s15 : IntKind.i64.wrap ((i0 : Int) - 15) = (i0 : Int) - 15)
    (m0 : (i0 : Int).tmod 16 = (p0 : Int)) (m2 : ((i0 : Int) - 2).tmod 16 = (p2 : Int)) (m7 : ((i0 : Int) - 7).tmod 16 = (p7 : Int)) (m15 : ((i0 : Int) - 15).tmod 16 = (p15 : Int))
    (l0 : (p0 : Int) < 16) (l2 : (p2 : Int) < 16) (l7 : (p7 : Int) < 16) (l15 : (p15 : Int) < 16) (h2 : Wd32 y2) (h15 : Wd32 y15)
    (c0 : ∀ w', Below w.heap.size w w' → w'.cell? ⟨q, p0, none⟩ = some (.int .u32 y0)) (c2 : ∀ w', Below w.heap.size w w' → w'.cell? ⟨q, p2, none⟩ = some (.int .u32 y2)) (c7 : ∀ w', Below w.heap.size w w' → w'.cell? ⟨q, p7, none⟩ = some (.int .u32 y7)) (c15 : ∀ w', Below w.heap.size w w' → w'.cell? ⟨q, p15, none⟩ = some (.int .u32 y15))
    (f0 : ∀ w', Below w.heap.size w w' → w'.frozen? ⟨q, p0, none⟩ = false) :
    Calls Tryz.prog 87 #[.pointer (some ⟨q, 0, none⟩), .int .i64 (i0 : Int)] w fun e w' => e = .returned (.tuple #[]) ∧ ∃ w1, Below w.heap.size w w1 ∧ w' = w1.setCell ⟨q, p0, none⟩ (.int .u32 (extv32 y0 y2 y7 y15)) := by
  go_enter Tryz.func87, Tryz.ntmps87
  go_wp2_with fail
  refine region_store 34 _ (fun i => [Fact.eq (.pointer (some ⟨q, 0, none⟩)), Fact.eq (.int .i64 (i0 : Int)), Fact.eq (.int .i64 (p0 : Int)), Fact.eq (.pointer (some ⟨q, 0, none⟩)), Fact.eq (.pointer (some ⟨q, p0, none⟩)), Fact.eq (.int .u32 (y0)), Fact.eq (.pointer (some ⟨q, 0, none⟩)), Fact.eq (.int .i64 (i0 : Int)), Fact.eq (.int .i64 ((i0 : Int) - 2)), Fact.eq (.int .i64 (p2 : Int)), Fact.eq (.pointer (some ⟨q, 0, none⟩)), Fact.eq (.pointer (some ⟨q, p2, none⟩)), Fact.eq (.int .u32 (y2)), Fact.eq (.int .u32 (sg132 y2)), Fact.eq (.pointer (some ⟨q, 0, none⟩)), Fact.eq (.int .i64 (i0 : Int)), Fact.eq (.int .i64 ((i0 : Int) - 7)), Fact.eq (.int .i64 (p7 : Int)), Fact.eq (.pointer (some ⟨q, 0, none⟩)), Fact.eq (.pointer (some ⟨q, p7, none⟩)), Fact.eq (.int .u32 (y7)), Fact.eq (.int .u32 ((sg132 y2 + y7) % 4294967296)), Fact.eq (.pointer (some ⟨q, 0, none⟩)), Fact.eq (.int .i64 (i0 : Int)), Fact.eq (.int .i64 ((i0 : Int) - 15)), Fact.eq (.int .i64 (p15 : Int)), Fact.eq (.pointer (some ⟨q, 0, none⟩)), Fact.eq (.pointer (some ⟨q, p15, none⟩)), Fact.eq (.int .u32 (y15)), Fact.eq (.int .u32 (sg032 y15)), Fact.eq (.int .u32 ((((sg132 y2 + y7) % 4294967296) + sg032 y15) % 4294967296)), Fact.eq (.int .u32 ((y0 + (((sg132 y2 + y7) % 4294967296) + sg032 y15) % 4294967296) % 4294967296)), Fact.eq (.pointer (some ⟨q, 0, none⟩)), Fact.eq (.pointer (some ⟨q, p0, none⟩))].getD i Fact.no) (by kernel_rfl) (by kernel_rfl) rfl rfl ?_ ?_
  · skip
    intro i hi
    obtain rfl | rfl | rfl | rfl | rfl | rfl | rfl | rfl | rfl | rfl | rfl | rfl | rfl | rfl | rfl | rfl | rfl | rfl | rfl | rfl | rfl | rfl | rfl | rfl | rfl | rfl | rfl | rfl | rfl | rfl | rfl | rfl | rfl | rfl : i = 0 ∨ i = 1 ∨ i = 2 ∨ i = 3 ∨ i = 4 ∨ i = 5 ∨ i = 6 ∨ i = 7 ∨ i = 8 ∨ i = 9 ∨ i = 10 ∨ i = 11 ∨ i = 12 ∨ i = 13 ∨ i = 14 ∨ i = 15 ∨ i = 16 ∨ i = 17 ∨ i = 18 ∨ i = 19 ∨ i = 20 ∨ i = 21 ∨ i = 22 ∨ i = 23 ∨ i = 24 ∨ i = 25 ∨ i = 26 ∨ i = 27 ∨ i = 28 ∨ i = 29 ∨ i = 30 ∨ i = 31 ∨ i = 32 ∨ i = 33 := by omega
    · refine step_pure rfl fun a w hb hw hf => ?_
      have e0 : a.tmps[0]?.getD undef = .pointer (some ⟨q, 0, none⟩) := gdv (hb.2.2 0 (by kernel_rfl))
      exact ⟨.pointer (some ⟨q, 0, none⟩), by simp [go_sem, e0], rfl⟩
    · refine step_pure rfl fun a w hb hw hf => ?_
      have e1 : a.tmps[1]?.getD undef = .int .i64 (i0 : Int) := gdv (hb.2.2 1 (by kernel_rfl))
      exact ⟨.int .i64 (i0 : Int), by simp [go_sem, e1], rfl⟩
    · refine step_pure rfl fun a w hb hw hf => ?_
      have e5 : a.tmps[5]?.getD undef = .int .i64 (i0 : Int) := gdv (hf 1 5 (by kernel_rfl))
      exact ⟨.int .i64 (p0 : Int), by simp [go_sem, e5, m0], rfl⟩
    · refine step_pure rfl fun a w hb hw hf => ?_
      have e4 : a.tmps[4]?.getD undef = .pointer (some ⟨q, 0, none⟩) := gdv (hf 0 4 (by kernel_rfl))
      exact ⟨.pointer (some ⟨q, 0, none⟩), by simp [go_sem, e4], rfl⟩
    · refine step_pure rfl fun a w hb hw hf => ?_
      have e7 : a.tmps[7]?.getD undef = .pointer (some ⟨q, 0, none⟩) := gdv (hf 3 7 (by kernel_rfl))
      have e6 : a.tmps[6]?.getD undef = .int .i64 (p0 : Int) := gdv (hf 2 6 (by kernel_rfl))
      exact ⟨.pointer (some ⟨q, p0, none⟩), by simp [go_sem, e7, e6, l0], rfl⟩
    · refine step_pure rfl fun a w hb hw hf => ?_
      have e8 : a.tmps[8]?.getD undef = .pointer (some ⟨q, p0, none⟩) := gdv (hf 4 8 (by kernel_rfl))
      have hc := c0 w hw
      exact ⟨.int .u32 (y0), by simp [go_sem, e8, hc], rfl⟩
    · refine step_pure rfl fun a w hb hw hf => ?_
      have e0 : a.tmps[0]?.getD undef = .pointer (some ⟨q, 0, none⟩) := gdv (hb.2.2 0 (by kernel_rfl))
      exact ⟨.pointer (some ⟨q, 0, none⟩), by simp [go_sem, e0], rfl⟩
    · refine step_pure rfl fun a w hb hw hf => ?_
      have e1 : a.tmps[1]?.getD undef = .int .i64 (i0 : Int) := gdv (hb.2.2 1 (by kernel_rfl))
      exact ⟨.int .i64 (i0 : Int), by simp [go_sem, e1], rfl⟩
    · refine step_pure rfl fun a w hb hw hf => ?_
      have e11 : a.tmps[11]?.getD undef = .int .i64 (i0 : Int) := gdv (hf 7 11 (by kernel_rfl))
      exact ⟨.int .i64 ((i0 : Int) - 2), by simp [go_sem, e11, s2], rfl⟩
    · refine step_pure rfl fun a w hb hw hf => ?_
      have e12 : a.tmps[12]?.getD undef = .int .i64 ((i0 : Int) - 2) := gdv (hf 8 12 (by kernel_rfl))
      exact ⟨.int .i64 (p2 : Int), by simp [go_sem, e12, m2], rfl⟩
    · refine step_pure rfl fun a w hb hw hf => ?_
      have e10 : a.tmps[10]?.getD undef = .pointer (some ⟨q, 0, none⟩) := gdv (hf 6 10 (by kernel_rfl))
      exact ⟨.pointer (some ⟨q, 0, none⟩), by simp [go_sem, e10], rfl⟩
    · refine step_pure rfl fun a w hb hw hf => ?_
      have e14 : a.tmps[14]?.getD undef = .pointer (some ⟨q, 0, none⟩) := gdv (hf 10 14 (by kernel_rfl))
      have e13 : a.tmps[13]?.getD undef = .int .i64 (p2 : Int) := gdv (hf 9 13 (by kernel_rfl))
      exact ⟨.pointer (some ⟨q, p2, none⟩), by simp [go_sem, e14, e13, l2], rfl⟩
    · refine step_pure rfl fun a w hb hw hf => ?_
      have e15 : a.tmps[15]?.getD undef = .pointer (some ⟨q, p2, none⟩) := gdv (hf 11 15 (by kernel_rfl))
      have hc := c2 w hw
      exact ⟨.int .u32 (y2), by simp [go_sem, e15, hc], rfl⟩
    · refine step_callv rfl 98 _ _ rfl (by kernel_rfl) fun a w hb hw hf => ?_
      have e16 : a.tmps.getD 16 undef = .int .u32 (y2) := hf 12 16 (by kernel_rfl)
      show Calls Tryz.prog 98 #[a.tmps.getD 16 undef] w _
      rw [e16]
      exact (smallMix1_32 w y2 h2).mono (by rintro r w' ⟨rfl, m, rfl⟩; exact ⟨_, rfl, below_drewN (Below.refl _ _) _, rfl⟩)
    · refine step_pure rfl fun a w hb hw hf => ?_
      have e0 : a.tmps[0]?.getD undef = .pointer (some ⟨q, 0, none⟩) := gdv (hb.2.2 0 (by kernel_rfl))
      exact ⟨.pointer (some ⟨q, 0, none⟩), by simp [go_sem, e0], rfl⟩
    · refine step_pure rfl fun a w hb hw hf => ?_
      have e1 : a.tmps[1]?.getD undef = .int .i64 (i0 : Int) := gdv (hb.2.2 1 (by kernel_rfl))
      exact ⟨.int .i64 (i0 : Int), by simp [go_sem, e1], rfl⟩
    · refine step_pure rfl fun a w hb hw hf => ?_
      have e19 : a.tmps[19]?.getD undef = .int .i64 (i0 : Int) := gdv (hf 15 19 (by kernel_rfl))
      exact ⟨.int .i64 ((i0 : Int) - 7), by simp [go_sem, e19, s7], rfl⟩
    · refine step_pure rfl fun a w hb hw hf => ?_
      have e20 : a.tmps[20]?.getD undef = .int .i64 ((i0 : Int) - 7) := gdv (hf 16 20 (by kernel_rfl))
      exact ⟨.int .i64 (p7 : Int), by simp [go_sem, e20, m7], rfl⟩
    · refine step_pure rfl fun a w hb hw hf => ?_
      have e18 : a.tmps[18]?.getD undef = .pointer (some ⟨q, 0, none⟩) := gdv (hf 14 18 (by kernel_rfl))
      exact ⟨.pointer (some ⟨q, 0, none⟩), by simp [go_sem, e18], rfl⟩
    · refine step_pure rfl fun a w hb hw hf => ?_
      have e22 : a.tmps[22]?.getD undef = .pointer (some ⟨q, 0, none⟩) := gdv (hf 18 22 (by kernel_rfl))
      have e21 : a.tmps[21]?.getD undef = .int .i64 (p7 : Int) := gdv (hf 17 21 (by kernel_rfl))
      exact ⟨.pointer (some ⟨q, p7, none⟩), by simp [go_sem, e22, e21, l7], rfl⟩
    · refine step_pure rfl fun a w hb hw hf => ?_
      have e23 : a.tmps[23]?.getD undef = .pointer (some ⟨q, p7, none⟩) := gdv (hf 19 23 (by kernel_rfl))
      have hc := c7 w hw
      exact ⟨.int .u32 (y7), by simp [go_sem, e23, hc], rfl⟩
    · refine step_pure rfl fun a w hb hw hf => ?_
      have e17 : a.tmps[17]?.getD undef = .int .u32 (sg132 y2) := gdv (hf 13 17 (by kernel_rfl))
      have e24 : a.tmps[24]?.getD undef = .int .u32 (y7) := gdv (hf 20 24 (by kernel_rfl))
      exact ⟨.int .u32 ((sg132 y2 + y7) % 4294967296), by simp [go_sem, e17, e24, IntKind.wrap_u32'], rfl⟩
    · refine step_pure rfl fun a w hb hw hf => ?_
      have e0 : a.tmps[0]?.getD undef = .pointer (some ⟨q, 0, none⟩) := gdv (hb.2.2 0 (by kernel_rfl))
      exact ⟨.pointer (some ⟨q, 0, none⟩), by simp [go_sem, e0], rfl⟩
    · refine step_pure rfl fun a w hb hw hf => ?_
      have e1 : a.tmps[1]?.getD undef = .int .i64 (i0 : Int) := gdv (hb.2.2 1 (by kernel_rfl))
      exact ⟨.int .i64 (i0 : Int), by simp [go_sem, e1], rfl⟩
    · refine step_pure rfl fun a w hb hw hf => ?_
      have e27 : a.tmps[27]?.getD undef = .int .i64 (i0 : Int) := gdv (hf 23 27 (by kernel_rfl))
      exact ⟨.int .i64 ((i0 : Int) - 15), by simp [go_sem, e27, s15], rfl⟩
    · refine step_pure rfl fun a w hb hw hf => ?_
      have e28 : a.tmps[28]?.getD undef = .int .i64 ((i0 : Int) - 15) := gdv (hf 24 28 (by kernel_rfl))
      exact ⟨.int .i64 (p15 : Int), by simp [go_sem, e28, m15], rfl⟩
    · refine step_pure rfl fun a w hb hw hf => ?_
      have e26 : a.tmps[26]?.getD undef = .pointer (some ⟨q, 0, none⟩) := gdv (hf 22 26 (by kernel_rfl))
      exact ⟨.pointer (some ⟨q, 0, none⟩), by simp [go_sem, e26], rfl⟩
    · refine step_pure rfl fun a w hb hw hf => ?_
      have e30 : a.tmps[30]?.getD undef = .pointer (some ⟨q, 0, none⟩) := gdv (hf 26 30 (by kernel_rfl))
      have e29 : a.tmps[29]?.getD undef = .int .i64 (p15 : Int) := gdv (hf 25 29 (by kernel_rfl))
      exact ⟨.pointer (some ⟨q, p15, none⟩), by simp [go_sem, e30, e29, l15], rfl⟩
    · refine step_pure rfl fun a w hb hw hf => ?_
      have e31 : a.tmps[31]?.getD undef = .pointer (some ⟨q, p15, none⟩) := gdv (hf 27 31 (by kernel_rfl))
      have hc := c15 w hw
      exact ⟨.int .u32 (y15), by simp [go_sem, e31, hc], rfl⟩
    · refine step_callv rfl 99 _ _ rfl (by kernel_rfl) fun a w hb hw hf => ?_
      have e32 : a.tmps.getD 32 undef = .int .u32 (y15) := hf 28 32 (by kernel_rfl)
      show Calls Tryz.prog 99 #[a.tmps.getD 32 undef] w _
      rw [e32]
      exact (smallMix0_32 w y15 h15).mono (by rintro r w' ⟨rfl, m, rfl⟩; exact ⟨_, rfl, below_drewN (Below.refl _ _) _, rfl⟩)
    · refine step_pure rfl fun a w hb hw hf => ?_
      have e25 : a.tmps[25]?.getD undef = .int .u32 ((sg132 y2 + y7) % 4294967296) := gdv (hf 21 25 (by kernel_rfl))
      have e33 : a.tmps[33]?.getD undef = .int .u32 (sg032 y15) := gdv (hf 29 33 (by kernel_rfl))
      exact ⟨.int .u32 ((((sg132 y2 + y7) % 4294967296) + sg032 y15) % 4294967296), by simp [go_sem, e25, e33, IntKind.wrap_u32'], rfl⟩
    · refine step_pure rfl fun a w hb hw hf => ?_
      have e9 : a.tmps[9]?.getD undef = .int .u32 (y0) := gdv (hf 5 9 (by kernel_rfl))
      have e34 : a.tmps[34]?.getD undef = .int .u32 ((((sg132 y2 + y7) % 4294967296) + sg032 y15) % 4294967296) := gdv (hf 30 34 (by kernel_rfl))
      exact ⟨.int .u32 ((y0 + (((sg132 y2 + y7) % 4294967296) + sg032 y15) % 4294967296) % 4294967296), by simp [go_sem, e9, e34, IntKind.wrap_u32'], rfl⟩
    · refine step_pure rfl fun a w hb hw hf => ?_
      have e4 : a.tmps[4]?.getD undef = .pointer (some ⟨q, 0, none⟩) := gdv (hf 0 4 (by kernel_rfl))
      exact ⟨.pointer (some ⟨q, 0, none⟩), by simp [go_sem, e4], rfl⟩
    · refine step_pure rfl fun a w hb hw hf => ?_
      have e36 : a.tmps[36]?.getD undef = .pointer (some ⟨q, 0, none⟩) := gdv (hf 32 36 (by kernel_rfl))
      have e6 : a.tmps[6]?.getD undef = .int .i64 (p0 : Int) := gdv (hf 2 6 (by kernel_rfl))
      exact ⟨.pointer (some ⟨q, p0, none⟩), by simp [go_sem, e36, e6, l0], rfl⟩
  · intro a w' hb hw hf
    have e37 : a.tmps[37]?.getD undef = .pointer (some ⟨q, p0, none⟩) := gdv (hf 33 37 (by kernel_rfl))
    have e35 : a.tmps[35]?.getD undef = .int .u32 (extv32 y0 y2 y7 y15) := gdv (hf 31 35 (by kernel_rfl))
    have hc := c0 w' hw
    have hz := f0 w' hw
    unfold Oper.wp
    simp [go_sem, e37, e35, hc, hz]
    exact bodyPost_end (v := .tuple #[]) (by simp [results, Tryz.results87, go_sem]) hb.1 ⟨rfl, w', hw, rfl⟩
end Go.Proofs.YtmfajpplagbfcaaGreatDoor
namespace Go.Proofs.YtmfajpplagbfcaaGreatDoor
set_option maxRecDepth 100000
open Go.RowKit
def stLh : List Int := [7640891576956012808, 13503953896175478587, 4354685564936845355, 11912009170470909681, 5840696475078001361, 11170449401992604703, 2270897969802886507, 6620516959819538809]
def kL : List Int := [4794697086780616226, 8158064640168781261, 13096744586834688815, 16840607885511220156, 4131703408338449720, 6480981068601479193, 10538285296894168987, 12329834152419229976, 15566598209576043074, 1334009975649890238, 2608012711638119052, 6128411473006802146, 8268148722764581231, 9286055187155687089, 11230858885718282805, 13951009754708518548, 16472876342353939154, 17275323862435702243, 1135362057144423861, 2597628984639134821, 3308224258029322869, 5365058923640841347, 6679025012923562964, 8573033837759648693, 10970295158949994411, 12119686244451234320, 12683024718118986047, 13788192230050041572, 14330467153632333762, 15395433587784984357, 489312712824947311, 1452737877330783856, 2861767655752347644, 3322285676063803686, 5560940570517711597, 5996557281743188959, 7280758554555802590, 8532644243296465576, 9350256976987008742, 10552545826968843579, 11727347734174303076, 12113106623233404929, 14000437183269869457, 14369950271660146224, 15101387698204529176, 15463397548674623760, 17586052441742319658, 1182934255886127544, 1847814050463011016, 2177327727835720531, 2830643537854262169, 3796741975233480872, 4115178125766777443, 5681478168544905931, 6601373596472566643, 7507060721942968483, 8399075790359081724, 8693463985226723168, 9568029438360202098, 10144078919501101548, 10430055236837252648, 11840083180663258601, 13761210420658862357, 14299343276471374635, 14566680578165727644, 15097957966210449927, 16922976911328602910, 17689382322260857208, 500013540394364858, 748580250866718886, 1242879168328830382, 1977374033974150939, 2944078676154940804, 3659926193048069267, 4368137639120453308, 4836135668995329356, 5532061633213252278, 6448918945643986474, 6902733635092675308, 7801388544844847127]
theorem kL_lt : ∀ i : Fin 80, 0 ≤ kL.getD i.val 0 ∧ kL.getD i.val 0 < 18446744073709551616 := by decide +kernel
theorem stL_lt : ∀ i : Fin 8, 0 ≤ stLh.getD i.val 0 ∧ stLh.getD i.val 0 < 18446744073709551616 := by decide +kernel
def HasT (W : World) (g : Nat) (l : List Int) : Prop := ∀ k, k < l.length → W.cell? ⟨g, k, none⟩ = some (.int .u64 (l.getD k 0))
theorem HasT.up {w w' : World} {g : Nat} {l : List Int} (h : HasT w g l) (n : Below w.heap.size w w') : HasT w' g l := fun k hk =>
  (World.cell?_of_block (a := ⟨g, k, none⟩) (n.block g (block_lt_of_cell (h k hk)))).trans (h k hk)
theorem HasT.of_block {w w' : World} {g : Nat} {l : List Int} (h : HasT w g l) (hb : w'.heap[g]? = w.heap[g]?) : HasT w' g l := fun k hk => (World.cell?_of_block (a := ⟨g, k, none⟩) hb).trans (h k hk)
structure S8 where
  a : Int
  b : Int
  c : Int
  d : Int
  e : Int
  f : Int
  g : Int
  h : Int
def ag8 (k : IntKind) (s : S8) : Value := .agg #[.int k s.a, .int k s.b, .int k s.c, .int k s.d, .int k s.e, .int k s.f, .int k s.g, .int k s.h]
def S8.l (s : S8) : List Int := [s.a, s.b, s.c, s.d, s.e, s.f, s.g, s.h]
theorem S8.l_len (s : S8) : s.l.length = 8 := rfl
end Go.Proofs.YtmfajpplagbfcaaGreatDoor
namespace Go.Proofs.YtmfajpplagbfcaaGreatDoor
set_option maxRecDepth 100000
open Go Go.RowKit
def Ok32 (s : S8) : Prop := Wd32 s.a ∧ Wd32 s.b ∧ Wd32 s.c ∧ Wd32 s.d ∧ Wd32 s.e ∧ Wd32 s.f ∧ Wd32 s.g ∧ Wd32 s.h
/-- The words of a block and those made of them. -/
def wF32 (b : Nat → Int) : Nat → Nat → Int
  | 0, _ => 0
  | n + 1, i => if i < 16 then b i else (sg132 (wF32 b n (i - 2)) + wF32 b n (i - 7) + sg032 (wF32 b n (i - 15)) + wF32 b n (i - 16)) % 4294967296
def wS32 (b : Nat → Int) (i : Nat) : Int := wF32 b (1 + i) i
theorem wF_same32 (b : Nat → Int) : ∀ n m i : Nat, i < n → i < m → wF32 b n i = wF32 b m i
  | 0, _, _, h, _ => absurd h (by omega)
  | _ + 1, 0, _, _, k => absurd k (by omega)
  | n + 1, m + 1, i, h, k => by
    rw [wF32, wF32]
    by_cases c : i < 16
    · rw [if_pos c, if_pos c]
    · rw [if_neg c, if_neg c, wF_same32 b n m (i - 2) (by omega) (by omega), wF_same32 b n m (i - 7) (by omega) (by omega), wF_same32 b n m (i - 15) (by omega) (by omega), wF_same32 b n m (i - 16) (by omega) (by omega)]
theorem wS_eq32 (b : Nat → Int) (i : Nat) : wS32 b i = if i < 16 then b i else (sg132 (wS32 b (i - 2)) + wS32 b (i - 7) + sg032 (wS32 b (i - 15)) + wS32 b (i - 16)) % 4294967296 := by
  have e : wS32 b i = wF32 b (i + 1) i := wF_same32 b _ _ i (by omega) (by omega)
  rw [e, wF32]
  by_cases c : i < 16
  · rw [if_pos c, if_pos c]
  · rw [if_neg c, if_neg c, wF_same32 b i (1 + (i - 2)) (i - 2) (by omega) (by omega), wF_same32 b i (1 + (i - 7)) (i - 7) (by omega) (by omega), wF_same32 b i (1 + (i - 15)) (i - 15) (by omega) (by omega), wF_same32 b i (1 + (i - 16)) (i - 16) (by omega) (by omega)]
    rfl
theorem wS_low32 (b : Nat → Int) {i : Nat} (h : i < 16) : wS32 b i = b i := by rw [wS_eq32, if_pos h]
theorem wS_go32 (b : Nat → Int) {i : Nat} (h : 16 ≤ i) : wS32 b i = (sg132 (wS32 b (i - 2)) + wS32 b (i - 7) + sg032 (wS32 b (i - 15)) + wS32 b (i - 16)) % 4294967296 := by
  conv => lhs; rw [wS_eq32]
  rw [if_neg (by omega)]
theorem wS_wd32 {b : Nat → Int} (hb : ∀ i, i < 16 → Wd32 (b i)) (i : Nat) : Wd32 (wS32 b i) := by
  by_cases h : i < 16
  · rw [wS_low32 b h]
    exact hb i h
  · rw [wS_go32 b (by omega)]
    exact mod_wd32 _
def Roll32 (b : Nat → Int) (ys : List Int) (n : Nat) : Prop := ys.length = 16 ∧ ∀ m, m < n → n ≤ m + 16 → ys.getD (m % 16) 0 = wS32 b m
theorem Roll.first32 {b : Nat → Int} {ys : List Int} (hl : ys.length = 16) (h : ∀ i, i < 16 → ys.getD i 0 = b i) : Roll32 b ys 16 :=
  ⟨hl, fun m hm _ => by rw [Nat.mod_eq_of_lt hm, h m hm, wS_low32 b hm]⟩
theorem Roll.step32 {b : Nat → Int} {ys : List Int} {i : Nat} (h : Roll32 b ys i) (hi : 16 ≤ i) :
    Roll32 b (ys.set (i % 16) (extv32 (ys.getD (i % 16) 0) (ys.getD ((i - 2) % 16) 0) (ys.getD ((i - 7) % 16) 0) (ys.getD ((i - 15) % 16) 0))) (i + 1) := by
  have e0 := h.2 (i - 16) (by omega) (by omega)
  have e2 := h.2 (i - 2) (by omega) (by omega)
  have e7 := h.2 (i - 7) (by omega) (by omega)
  have e15 := h.2 (i - 15) (by omega) (by omega)
  rw [show (i - 16) % 16 = i % 16 by omega] at e0
  rw [e0, e2, e7, e15]
  have ev : extv32 (wS32 b (i - 16)) (wS32 b (i - 2)) (wS32 b (i - 7)) (wS32 b (i - 15)) = wS32 b i := by
    rw [wS_go32 b hi]
    unfold extv32
    omega
  rw [ev]
  refine ⟨by rw [List.length_set]; exact h.1, fun m hm hm' => ?_⟩
  by_cases c : m = i
  · subst c
    rw [getD_set_self _ _ _ (by rw [h.1]; omega)]
  · rw [getD_set_ne _ _ _ _ (by omega)]
    exact h.2 m (by omega) (by omega)
def tS32 (k w : Int) (s : S8) : Int := (s.h + gg132 s.e + ch32 s.e s.f s.g + k + w) % 4294967296
def uS32 (s : S8) : Int := (gg032 s.a + mj32 s.a s.b s.c) % 4294967296
def stp32 (k w : Int) (s : S8) : S8 := ⟨(tS32 k w s + uS32 s) % 4294967296, s.a, s.b, s.c, (s.d + tS32 k w s) % 4294967296, s.e, s.f, s.g⟩
theorem stp_ok32 {k w : Int} {s : S8} (h : Ok32 s) : Ok32 (stp32 k w s) :=
  ⟨mod_wd32 _, h.1, h.2.1, h.2.2.1, mod_wd32 _, h.2.2.2.2.1, h.2.2.2.2.2.1, h.2.2.2.2.2.2.1⟩
def rnds32 (K w : Nat → Int) : Nat → S8 → S8
  | 0, s => s
  | n + 1, s => stp32 (K n) (w n) (rnds32 K w n s)
theorem rnds_ok32 {K w : Nat → Int} {s : S8} (h : Ok32 s) : ∀ n, Ok32 (rnds32 K w n s)
  | 0 => h
  | n + 1 => stp_ok32 (rnds_ok32 h n)
def K32 (i : Nat) : Int := kL.getD i 0 / 4294967296
theorem K_wd32 (i : Nat) (h : i < 64) : Wd32 (K32 i) := by
  have := kL_lt ⟨i, by omega⟩
  have h2 : kL.getD (⟨i, by omega⟩ : Fin 80).val 0 = kL.getD i 0 := rfl
  rw [h2] at this
  unfold K32 Wd32
  omega
def add32 (s r : S8) : S8 := ⟨(s.a + r.a) % 4294967296, (s.b + r.b) % 4294967296, (s.c + r.c) % 4294967296, (s.d + r.d) % 4294967296, (s.e + r.e) % 4294967296, (s.f + r.f) % 4294967296, (s.g + r.g) % 4294967296, (s.h + r.h) % 4294967296⟩
theorem add_ok32 (s r : S8) : Ok32 (add32 s r) := ⟨mod_wd32 _, mod_wd32 _, mod_wd32 _, mod_wd32 _, mod_wd32 _, mod_wd32 _, mod_wd32 _, mod_wd32 _⟩
def blk32 (s : S8) (b : Nat → Int) : S8 := add32 s (rnds32 K32 (wS32 b) 64 s)
theorem blk_ok32 (s : S8) (b : Nat → Int) : Ok32 (blk32 s b) := add_ok32 _ _
end Go.Proofs.YtmfajpplagbfcaaGreatDoor
namespace Go.Proofs.YtmfajpplagbfcaaGreatDoor
set_option maxRecDepth 100000
open Go Go.RowKit
end Go.Proofs.YtmfajpplagbfcaaGreatDoor
namespace Go.Proofs.YtmfajpplagbfcaaGreatDoor
set_option maxRecDepth 100000
open Go Go.RowKit
end Go.Proofs.YtmfajpplagbfcaaGreatDoor
namespace Go.Proofs.YtmfajpplagbfcaaGreatDoor
set_option maxRecDepth 100000
open Go Go.RowKit
end Go.Proofs.YtmfajpplagbfcaaGreatDoor
