import Derived.Test.YtkpomobhjkikeaaGreatDoorSS17
import Derived.Test.YtkpomobhjkikeaaGreatDoorSS3
import Derived.Deep.QuietTactic
namespace Go.Proofs.YtkpomobhjkikeaaGreatDoor
set_option maxRecDepth 100000
open Go Go.RowKit
def lw (xs : List Int) (o : Nat) : Int := xs.getD o 0 + xs.getD (o + 1) 0 * 256 + xs.getD (o + 2) 0 * 65536 + xs.getD (o + 3) 0 * 16777216
theorem lw_w4 {xs : List Int} (h : Byt xs) (o : Nat) : W4 (lw xs o) := by
  have h0 := h o
  have h1 := h (o + 1)
  have h2 := h (o + 2)
  have h3 := h (o + 3)
  unfold lw
  exact ⟨by omega, by omega⟩
theorem lwor (a b c d : Int) (ha : 0 ≤ a ∧ a < 256) (hb : 0 ≤ b ∧ b < 256) (hc : 0 ≤ c ∧ c < 256) (hd : 0 ≤ d ∧ d < 256) :
    bits BinOp.or IntKind.u32 (bits BinOp.or IntKind.u32 (bits BinOp.or IntKind.u32 a (b * 256)) (c * 65536)) (d * 16777216) = a + b * 256 + c * 65536 + d * 16777216 := by
  obtain ⟨a, rfl⟩ := Int.eq_ofNat_of_zero_le ha.1
  obtain ⟨b, rfl⟩ := Int.eq_ofNat_of_zero_le hb.1
  obtain ⟨c, rfl⟩ := Int.eq_ofNat_of_zero_le hc.1
  obtain ⟨d, rfl⟩ := Int.eq_ofNat_of_zero_le hd.1
  have ha := ha.2
  have hb := hb.2
  have hc := hc.2
  have hd := hd.2
  rw [show (b : Int) * 256 = ((b * 256 : Nat) : Int) by omega, show (c : Int) * 65536 = ((c * 65536 : Nat) : Int) by omega, show (d : Int) * 16777216 = ((d * 16777216 : Nat) : Int) by omega]
  have e1 : a ||| (b * 256) = b * 256 + a := by rw [Nat.or_comm, show b * 256 = b <<< 8 from (Nat.shiftLeft_eq b 8).symm, Nat.shiftLeft_add_eq_or_of_lt (by omega)]
  have e2 : (b * 256 + a) ||| (c * 65536) = c * 65536 + (b * 256 + a) := by rw [Nat.or_comm, show c * 65536 = c <<< 16 from (Nat.shiftLeft_eq c 16).symm, Nat.shiftLeft_add_eq_or_of_lt (by omega)]
  have e3 : (c * 65536 + (b * 256 + a)) ||| (d * 16777216) = d * 16777216 + (c * 65536 + (b * 256 + a)) := by rw [Nat.or_comm, show d * 16777216 = d <<< 24 from (Nat.shiftLeft_eq d 24).symm, Nat.shiftLeft_add_eq_or_of_lt (by omega)]
  rw [u32_or_nat a (b * 256) (by omega) (by omega), e1, u32_or_nat _ (c * 65536) (by omega) (by omega), e2, u32_or_nat _ (d * 16777216) (by omega) (by omega), e3]
  omega
set_option maxHeartbeats 1000000 in
theorem littleWord_any (w : World) (g : Nat) (a : Option Addr) (c : Nat) (xs : List Int) (hr : Rd w g a .u8 xs) (hb : Byt xs) (hl : 4 ≤ xs.length) :
    Calls Tryz.prog 103 #[.slice a xs.length c] w fun e w' => e = .returned (.int .u32 (lw xs 0)) ∧ ∃ m, w' = w.drewN m := by
  obtain ⟨off, rfl, hc⟩ := hr (by omega)
  have c0 := hc 0 (by omega)
  rw [Nat.add_zero] at c0
  have c1 := hc 1 (by omega)
  have c2 := hc 2 (by omega)
  have c3 := hc 3 (by omega)
  have b0 := hb 0
  have b1 := hb 1
  have b2 := hb 2
  have b3 := hb 3
  have LO := hide (lwor _ _ _ _ b0 b1 b2 b3)
  have LW : Hid (lw xs 0 = xs.getD 0 0 + xs.getD 1 0 * 256 + xs.getD 2 0 * 65536 + xs.getD 3 0 * 16777216) := rfl
  rw [LW.out]
  clear hc hr hb LW
  generalize xs.getD 0 0 = x0 at *
  generalize xs.getD 1 0 = x1 at *
  generalize xs.getD 2 0 = x2 at *
  generalize xs.getD 3 0 = x3 at *
  obtain ⟨b00, b01⟩ := b0
  obtain ⟨b10, b11⟩ := b1
  obtain ⟨b20, b21⟩ := b2
  obtain ⟨b30, b31⟩ := b3
  generalize xs.length = n at *
  have hl0 : (0 : Int) < (n : Int) := by omega
  have hl1 : (1 : Int) < (n : Int) := by omega
  have hl2 : (2 : Int) < (n : Int) := by omega
  have hl3 : (3 : Int) < (n : Int) := by omega
  have hm0 : 0 < n := by omega
  have hm1 : 1 < n := by omega
  have hm2 : 2 < n := by omega
  have hm3 : 3 < n := by omega
  have m1 : x1 * 256 % 4294967296 = x1 * 256 := by omega
  have m2 : x2 * 65536 % 4294967296 = x2 * 65536 := by omega
  have m3 : x3 * 16777216 % 4294967296 = x3 * 16777216 := by omega
  go_enter Tryz.func103, Tryz.ntmps103
  go_wp2_with fail
  go_quiet (fail)
  go_wp2
  go_ret
  refine ⟨?_, _, rfl⟩
  rw [← LO.out]
  rfl
end Go.Proofs.YtkpomobhjkikeaaGreatDoor
