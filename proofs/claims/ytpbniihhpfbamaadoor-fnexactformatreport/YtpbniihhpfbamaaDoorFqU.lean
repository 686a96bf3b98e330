
/-
  The words of a line: the model's.
-/
import Derived.Test.YtpbniihhpfbamaaDoorFqT
namespace Go.Proofs.YtpbniihhpfbamaaDoor
set_option maxRecDepth 100000
open Go Go.RowKit

/-- Where the model's loop over digits stands. -/
def DgR (N v : Nat) (out : List UInt8) : Prop := (if v < 10 then out else Lib.decDigits (v / 10) ++ out) = Lib.decDigits N
theorem DgR.start (N : Nat) : DgR N N [UInt8.ofNat (48 + N % 10)] := by
  unfold DgR
  rw [Lib.decDigits.eq_def N]
  by_cases h : N < 10
  · rw [if_pos h, dif_pos h, Nat.mod_eq_of_lt h]
  · rw [if_neg h, dif_neg h]
theorem DgR.next {N v : Nat} {out : List UInt8} (h : DgR N v out) (hv : ¬ v < 10) : DgR N (v / 10) ([UInt8.ofNat (48 + v / 10 % 10)] ++ out) := by
  unfold DgR at h ⊢
  rw [if_neg hv] at h
  rw [← h, Lib.decDigits.eq_def (v / 10)]
  by_cases h2 : v / 10 < 10
  · rw [if_pos h2, dif_pos h2, Nat.mod_eq_of_lt h2]
  · rw [if_neg h2, dif_neg h2, List.append_assoc]
theorem DgR.len {N v : Nat} {out : List UInt8} (h : DgR N v out) (hN : N < 18446744073709551616) : out.length ≤ 20 := by
  unfold DgR at h
  have := Lib.nDigits_le20 N hN
  have e := congrArg List.length h
  rw [Lib.decDigits_length] at e
  split at e
  · omega
  · rw [List.length_append] at e; omega
theorem DgR.stop {N v : Nat} {out : List UInt8} (h : DgR N v out) (hv : v < 10) : out = Lib.decDigits N := by
  unfold DgR at h
  rwa [if_pos hv] at h
/-- One byte as a text. -/
theorem conv1 (w : World) (z : Int) : (convert 23 9 (.slice (some ⟨w.heap.size, 0, none⟩) 1 1)).run Tryd.prog (w.alloc (.cells #[.int .u8 z] 5)) = .ok (.string ⟨⟨[UInt8.ofNat z.toNat]⟩⟩) (w.alloc (.cells #[.int .u8 z] 5)) := by
  have hB : Blk (w.alloc (.cells #[.int .u8 z] 5)) w.heap.size .u8 [z] := ⟨5, heap_alloc_new w _⟩
  exact conv_run (w.alloc (.cells #[.int .u8 z] 5)) w.heap.size (some ⟨w.heap.size, 0, none⟩) 1 [z] hB.own0.rd
theorem dgB (v : Nat) : UInt8.ofNat (48 + ((v : Int) % 10)).toNat = UInt8.ofNat (48 + v % 10) := by
  have : (48 + ((v : Int) % 10)).toNat = 48 + v % 10 := by omega
  rw [this]
set_option maxHeartbeats 1000000 in
theorem l20NumberN (w : World) (N : Nat) (hN : N ≤ 9223372036854775807) : Calls Tryd.prog 13 #[.int .i64 (N : Int)] w fun e w' => e = .returned (tx (Lib.decDigits N)) ∧ Below w.heap.size w w' := by
  have t1 : ((N : Int) == -9223372036854775808) = false := beq_eq_false_iff_ne.2 (by omega)
  have t2 : decide ((N : Int) < 0) = false := decide_eq_false (by omega)
  have n1 : Below w.heap.size w (w.alloc (.cells #[.int .u8 (48 + (N : Int) % 10)] 5)) := (Below.refl _ _).alloc (Nat.le_refl _) _
  have N1 := hide n1
  have C1 := conv1 w (48 + (N : Int) % 10)
  have ST := hide (DgR.start N)
  have b8 : IntKind.u8.wrap (48 + (N : Int) % 10) = 48 + (N : Int) % 10 := by rw [IntKind.wrap_u8]; omega
  clear n1
  go_enter Tryd.func13, Tryd.ntmps13
  go_upto_region 6 with fail
  clear C1 b8
  generalize w.alloc (.cells #[.int .u8 (48 + (N : Int) % 10)] 5) = w1 at *
  generalize [UInt8.ofNat (48 + N % 10)] = d0 at *
  go_loopw [0, 3] (fun v s wr => ∃ (k : Nat) (out : List UInt8), v = .int .i64 (k : Int) ∧ s = .string ⟨⟨out⟩⟩ ∧ k ≤ N ∧ Hid (DgR N k out) ∧ Hid (Below w.heap.size w wr)) (fun v _ _ => (intOf v).toNat)
  case atStart => exact ⟨N, d0, rfl, rfl, Nat.le_refl _, ST, N1⟩
  case round =>
    clear ST N1
    obtain ⟨k, out, rfl, rfl, hk, D, B⟩ := hrel
    by_cases h10 : k < 10
    · have x1 : decide ((10 : Int) ≤ (k : Int)) = false := decide_eq_false (by omega)
      have x1' : ¬ (10 : Int) ≤ (k : Int) := by omega
      have E := hide (D.out.stop h10)
      clear D h10
      go_wp2
      go_ret
      exact ⟨by rw [← E.out]; rfl, B.out⟩
    · have x1 : decide ((10 : Int) ≤ (k : Int)) = true := decide_eq_true (by omega)
      have x1' : (10 : Int) ≤ (k : Int) := by omega
      have ol := D.out.len (by omega)
      have D2 := hide (D.out.next h10)
      obtain ⟨j, hj⟩ : ∃ j, j = k / 10 := ⟨_, rfl⟩
      have x2 : (k : Int) / 10 = (j : Int) := by omega
      have jk : j < k := by omega
      rw [← hj] at D2
      have C2 := conv1 wr (48 + (j : Int) % 10)
      have dj := dgB j
      generalize UInt8.ofNat (48 + ((j : Int) % 10)).toNat = d at *
      rw [← dj] at D2
      have b8 : IntKind.u8.wrap (48 + (j : Int) % 10) = 48 + (j : Int) % 10 := by rw [IntKind.wrap_u8]; omega
      have AD : ∀ W : World, (Op.stringOp .add (ByteArray.mk ⟨[d]⟩) (ByteArray.mk ⟨out⟩)).run Tryd.prog W = .ok (.string ⟨⟨[d] ++ out⟩⟩) W := fun W => tx_add W _ out (by simp; omega)
      have B2 : Hid (Below w.heap.size w (wr.alloc (.cells #[.int .u8 (48 + (j : Int) % 10)] 5))) := B.out.alloc B.out.size _
      clear D B h10 hj ol dj
      generalize [d] ++ out = out2 at *
      go_wp2
      go_roundw
      case rel => exact ⟨j, out2, rfl, rfl, by omega, D2, B2⟩
      case measure => simp [intOf]; omega
end Go.Proofs.YtpbniihhpfbamaaDoor
