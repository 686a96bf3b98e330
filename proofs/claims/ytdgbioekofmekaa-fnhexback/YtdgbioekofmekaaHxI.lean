
/-
  The library's IndexRune among the hexadecimal digits.
-/
import Derived.Test.YtdgbioekofmekaaHxA
import Derived.Lib.Bytealg
import Derived.Lib.OthersKept
import Derived.Lib.TrimU
import Derived.BigQuiet
namespace Go.Proofs.Ytdgbioekofmekaa
open Go Go.RowKit

theorem call_idxX (l : List UInt8) (x : Int) (w : World) : (callFunc 34 #[.string ⟨⟨l⟩⟩, .int .u8 x]).run Try.prog w = .ok (.value (.int .i64 (Lib.indexByte l x.toNat.toUInt8))) w := by
  rw [run_callFunc_extern Try.func34 (by kernel_rfl) (by kernel_rfl) (by kernel_rfl) (e := Extern.BytealgIndexByte.indexByte) (by kernel_rfl), Lib.run_indexByteString]
  rfl
set_option maxHeartbeats 1000000 in
theorem indexByteX (w : World) (l : List UInt8) (x : Int) :
    Calls Try.prog 29 #[.string ⟨⟨l⟩⟩, .int .u8 x] w fun e w' => e = .returned (.int .i64 (Lib.indexByte l x.toNat.toUInt8)) ∧ w' = w := by
  have C : ∀ w, Calls Try.prog 33 #[.string ⟨⟨l⟩⟩, .int .u8 x] w fun e w' => e = .returned (.int .i64 (Lib.indexByte l x.toNat.toUInt8)) ∧ w' = w := by
    intro w
    have K := fun w => call_idxX l x w
    generalize Lib.indexByte l x.toNat.toUInt8 = z at *
    go_enter Try.func33, Try.ntmps33
    go_wp2
    go_ret
    exact ⟨rfl, rfl⟩
  have C' := hide C
  clear C
  go_enter Try.func29, Try.ntmps29
  go_wp2_with fail
  refine (C'.out w).mono ?_
  rintro e w1 ⟨rfl, rfl⟩
  go_wp2
  go_ret
  exact ⟨rfl, rfl⟩
theorem idx_none (l : List UInt8) (c : UInt8) (h : ∀ b ∈ l, b ≠ c) : Lib.indexByte l c = -1 := by
  induction l with
  | nil => rfl
  | cons b t ih =>
    unfold Lib.indexByte
    have h1 : (b == c) = false := by simpa using h b (by simp)
    rw [h1, ih (fun x hx => h x (by simp [hx]))]
    rfl
theorem hx_low : ∀ b ∈ hxS, b.toNat < 128 := by decide
theorem idx_high (k : Nat) (c : UInt8) (h : 128 ≤ c.toNat) : Lib.indexByte (hxS.drop k) c = -1 :=
  idx_none _ _ (fun b hb e => by have := hx_low b (List.mem_of_mem_drop hb); rw [e] at this; omega)

set_option maxRecDepth 100000 in
set_option maxHeartbeats 4000000 in
theorem indexRune_low (w : World) (r : Int) (h0 : 0 ≤ r) (h1 : r < 128) :
    Calls Try.prog 20 #[.string ⟨#[48, 49, 50, 51, 52, 53, 54, 55, 56, 57, 97, 98, 99, 100, 101, 102]⟩, .int .i32 r] w fun e w' => e = .returned (.int .i64 (Lib.indexByte hxS r.toNat.toUInt8)) ∧ w' = w := by
  have t1 : decide ((0 : Int) ≤ r) = true := by simp; omega
  have t2 : decide (r < 128) = true := by simp; omega
  have q : r % 256 = r := by omega
  have IB := fun W => hide (indexByteX W hxS r)
  go_enter Try.func20, Try.ntmps20
  go_wp2_with fail
  refine (IB w).out.mono ?_
  rintro e w1 ⟨rfl, h⟩
  have h := h.symm
  subst h
  go_wp2
  go_ret
  exact ⟨rfl, rfl⟩
set_option maxRecDepth 100000 in
set_option maxHeartbeats 1000000 in
theorem validRune_any (w : World) (r : Int) (h0 : 128 ≤ r) (h1 : r ≤ 2147483647) :
    Calls Try.prog 30 #[.int .i32 r] w fun e w' => e = .returned (.bool (Utf8.valid r)) ∧ w' = w := by
  have t0 : decide ((0 : Int) ≤ r) = true := by simp; omega
  by_cases h2 : r < 55296
  · have t2 : decide (r < 55296) = true := by simp; omega
    have V : Hid (Utf8.valid r = true) := by show _ = _; simp [Utf8.valid]; omega
    rw [V.out]
    go_enter Try.func30, Try.ntmps30
    go_wp2
    go_ret
    exact ⟨rfl, rfl⟩
  · have t2 : decide (r < 55296) = false := by simp; omega
    by_cases h3 : 57343 < r
    · have t3 : decide (57343 < r) = true := by simp; omega
      by_cases h4 : r ≤ 1114111
      · have t4 : decide (r ≤ 1114111) = true := by simp; omega
        have V : Hid (Utf8.valid r = true) := by show _ = _; simp [Utf8.valid]; omega
        rw [V.out]
        go_enter Try.func30, Try.ntmps30
        go_wp2
        go_ret
        exact ⟨rfl, rfl⟩
      · have t4 : decide (r ≤ 1114111) = false := by simp; omega
        have V : Hid (Utf8.valid r = false) := by show _ = _; simp [Utf8.valid]; omega
        rw [V.out]
        go_enter Try.func30, Try.ntmps30
        go_wp2
        go_ret
        exact ⟨rfl, rfl⟩
    · have t3 : decide (57343 < r) = false := by simp; omega
      have V : Hid (Utf8.valid r = false) := by show _ = _; simp [Utf8.valid]; omega
      rw [V.out]
      go_enter Try.func30, Try.ntmps30
      go_wp2
      go_ret
      exact ⟨rfl, rfl⟩
/-- A rune that is not among the first 128, in bytes: the last of them is no digit. -/
theorem enc_high (r : Int) (h0 : 128 ≤ r) (hv : Utf8.valid r = true) : ∃ q : UInt8, 128 ≤ q.toNat ∧ ((∃ a : UInt8, Utf8.encode r = ⟨#[a, q]⟩) ∨ (∃ a b : UInt8, Utf8.encode r = ⟨#[a, b, q]⟩) ∨ (∃ a b c : UInt8, Utf8.encode r = ⟨#[a, b, c, q]⟩)) := by
  refine ⟨UInt8.ofNat (128 + r.toNat % 64), ?_, ?_⟩
  · simp; omega
  · unfold Utf8.encode
    simp only [hv, if_true]
    have : ¬ r.toNat < 128 := by omega
    rw [if_neg this]
    split
    · exact .inl ⟨_, rfl⟩
    · split
      · exact .inr (.inl ⟨_, _, rfl⟩)
      · exact .inr (.inr ⟨_, _, _, rfl⟩)
theorem ne_hx (k : Nat) (h : k < 16) (q : UInt8) (hq : 128 ≤ q.toNat) : ¬ ((hxS.getD k 0).toNat = q.toNat) := fun e => by
  have hl : k < hxS.length := h
  have m := hx_low (hxS.getD k 0) (by simp [List.getD, List.getElem?_eq_getElem hl])
  omega
set_option maxRecDepth 100000 in
set_option maxHeartbeats 8000000 in
theorem indexRune_high (w : World) (r : Int) (h0 : 128 ≤ r) (h1 : r ≤ 2147483647) :
    Calls Try.prog 20 #[.string ⟨#[48, 49, 50, 51, 52, 53, 54, 55, 56, 57, 97, 98, 99, 100, 101, 102]⟩, .int .i32 r] w fun e w' => e = .returned (.int .i64 (-1)) ∧ Below w.heap.size w w' := by
  have t1 : decide ((0 : Int) ≤ r) = true := by simp; omega
  have t2 : decide (r < 128) = false := by simp; omega
  have VR := hide (validRune_any w r h0 h1)
  by_cases he : r = 65533
  · subst he
    clear VR t1 t2
    have hs : (ByteArray.mk #[48, 49, 50, 51, 52, 53, 54, 55, 56, 57, 97, 98, 99, 100, 101, 102]).size = 16 := rfl
    have AS : ∀ k (hk : k < (ByteArray.mk #[48, 49, 50, 51, 52, 53, 54, 55, 56, 57, 97, 98, 99, 100, 101, 102]).size), ((ByteArray.mk #[48, 49, 50, 51, 52, 53, 54, 55, 56, 57, 97, 98, 99, 100, 101, 102])[k]'hk).toNat < 128 := by decide
    generalize ByteArray.mk #[48, 49, 50, 51, 52, 53, 54, 55, 56, 57, 97, 98, 99, 100, 101, 102] = s at *
    have H0 := World.iter_heap w s 0
    have N0 : Below w.heap.size w (w.iter s 0) := (Below.refl _ _).alloc (Nat.le_refl _) _
    go_enter Try.func20, Try.ntmps20
    go_wp2
    generalize w.iter s 0 = w0 at *
    go_loopw [5, 6, 176, 177, 178, 179] (fun _ _ _ _ _ _ wr => ∃ k : Nat, k ≤ 16 ∧ wr.heap[w.heap.size]? = some (.stringIter s k) ∧ Below w.heap.size w wr) (fun _ _ _ _ _ _ wr => 16 - wr.iterPos w.heap.size)
    case atStart => exact ⟨0, by omega, H0, N0⟩
    case round =>
      obtain ⟨k, hk, hI, hN⟩ := hrel
      have ip : wr.iterPos w.heap.size = k := by simp [World.iterPos, hI]
      by_cases hlt : k < 16
      · have hl : k < s.size := by rw [hs]; exact hlt
        have nx := fun ty => Lib.run_next_ascii_at (P := Try.prog) wr w.heap.size s k ty hI hl (AS k hl)
        have b := AS k hl
        generalize (s[k]'hl).toNat = v at *
        have t3 : decide ((v : Int) = 65533) = false := by simp; omega
        have t4 : ((v : Int) == 65533) = false := by simp; omega
        have I2 := Lib.iterAt_heap wr w.heap.size s k (k + 1) hI
        have N2 := Lib.below_iterAt hN (Nat.le_refl _) s (k + 1)
        have ip2 : (wr.iterAt w.heap.size s (k + 1)).iterPos w.heap.size = k + 1 := by simp [World.iterPos, I2]
        clear hI hN AS
        go_wp2
        go_roundw
        case rel => exact ⟨k + 1, by omega, I2, N2⟩
        case measure => rw [ip, ip2]; omega
      · have nx := fun ty => Lib.run_next_end_at (P := Try.prog) wr w.heap.size s k ty hI (by rw [hs]; omega)
        go_wp2
        go_ret
        exact ⟨rfl, hN⟩
  have t3 : decide (r = 65533) = false := by simp; omega
  have t4 : (r == 65533) = false := by simp; omega
  cases hv : Utf8.valid r with
  | false =>
    rw [hv] at VR
    go_enter Try.func20, Try.ntmps20
    go_wp2_with fail
    refine VR.out.mono ?_
    rintro e w1 ⟨rfl, h⟩
    have h := h.symm
    subst h
    go_wp2
    go_ret
    exact ⟨rfl, Below.refl _ _⟩
  | true =>
    rw [hv] at VR
    obtain ⟨q, hq, ⟨a, en⟩ | ⟨a, b, en⟩ | ⟨a, b, c, en⟩⟩ := enc_high r h0 hv
    · have IB := fun W => hide (indexByteX W (hxS.drop 2) q.toNat)
      have wz : IntKind.i64.wrap 2 = 2 := by decide
      have ne := ne_hx 1 (by decide) q hq
      have D : Hid (Lib.indexByte (hxS.drop 2) (q.toNat : Int).toNat.toUInt8 = -1) := idx_high 2 _ (by simpa using hq)
      rw [D.out] at IB
      have sl : ∀ W, (Instr.slice 9 (.string ⟨#[48, 49, 50, 51, 52, 53, 54, 55, 56, 57, 97, 98, 99, 100, 101, 102]⟩) (some (.int .i64 2)) none none).run Try.prog W = .ok (.string ⟨⟨hxS.drop 2⟩⟩) W := fun W => by simp [go_sem]; rfl
      have ixd : ∀ W, (Instr.index 9 (.string ⟨#[48, 49, 50, 51, 52, 53, 54, 55, 56, 57, 97, 98, 99, 100, 101, 102]⟩) (.int .i64 1)).run Try.prog W = .ok (.int .u8 49) W := fun W => run_tx (P := Try.prog) W 9 hxS 1 Try.underlying9 (by decide)
      have ixq : ∀ W, (Instr.index 9 (.string ⟨#[a, q]⟩) (.int .i64 1)).run Try.prog W = .ok (.int .u8 (q.toNat : Int)) W := fun W => run_tx (P := Try.prog) W 9 [a, q] 1 Try.underlying9 (by simp)
      obtain ⟨x, hx⟩ : ∃ x : Int, x = (q.toNat : Int) := ⟨_, rfl⟩
      rw [← hx] at ixq IB
      have x1 : ¬ x = 49 := by rw [hx]; intro e; exact ne (by show (49 : Nat) = _; omega)
      have x2 : decide (x = 49) = false := decide_eq_false x1
      have x3 : decide (49 = x) = false := decide_eq_false (fun e => x1 e.symm)
      have x4 : ((49 : Int) == x) = false := by simpa using fun e : (49 : Int) = x => x1 e.symm
      clear D hv hx ne hq x1
      go_enter Try.func20, Try.ntmps20
      go_wp2_with fail
      refine VR.out.mono ?_
      rintro e w1 ⟨rfl, h⟩
      have h := h.symm
      subst h
      go_wp2_with fail
      go_step3
      go_wp2_with fail
      go_loopw [9, 10] (fun i f wr => i = .int .i64 1 ∧ f = .int .i64 0 ∧ wr = w) (fun _ _ _ => 0)
      case atStart => exact ⟨rfl, rfl, rfl⟩
      case round =>
        obtain ⟨rfl, rfl, rfl⟩ := hrel
        go_wp2_with fail
        go_step3
        go_upto_region 6 with fail
        go_quiet (fail)
        go_upto_region 7 with fail
        go_quiet (first | (go_at_call 29; refine (IB _).out.mono ?_; rintro e w3 ⟨rfl, rfl⟩; exact ⟨rfl, _, rfl⟩) | fail)
        go_wp2
        show bodyPost Try.prog Try.f20 (fun e w' => e = Ending.returned (Value.int IntKind.i64 (-1)) ∧ Below wr.heap.size wr w') Exit.ret _ _
        go_ret
        exact ⟨rfl, ⟨rfl, rfl, rfl, Nat.le_refl _, fun _ _ => rfl⟩⟩
    · have IB := fun W => hide (indexByteX W (hxS.drop 3) q.toNat)
      have wz : IntKind.i64.wrap 3 = 3 := by decide
      have ne := ne_hx 2 (by decide) q hq
      have D : Hid (Lib.indexByte (hxS.drop 3) (q.toNat : Int).toNat.toUInt8 = -1) := idx_high 3 _ (by simpa using hq)
      rw [D.out] at IB
      have sl : ∀ W, (Instr.slice 9 (.string ⟨#[48, 49, 50, 51, 52, 53, 54, 55, 56, 57, 97, 98, 99, 100, 101, 102]⟩) (some (.int .i64 3)) none none).run Try.prog W = .ok (.string ⟨⟨hxS.drop 3⟩⟩) W := fun W => by simp [go_sem]; rfl
      have ixd : ∀ W, (Instr.index 9 (.string ⟨#[48, 49, 50, 51, 52, 53, 54, 55, 56, 57, 97, 98, 99, 100, 101, 102]⟩) (.int .i64 2)).run Try.prog W = .ok (.int .u8 50) W := fun W => run_tx (P := Try.prog) W 9 hxS 2 Try.underlying9 (by decide)
      have ixq : ∀ W, (Instr.index 9 (.string ⟨#[a, b, q]⟩) (.int .i64 2)).run Try.prog W = .ok (.int .u8 (q.toNat : Int)) W := fun W => run_tx (P := Try.prog) W 9 [a, b, q] 2 Try.underlying9 (by simp)
      obtain ⟨x, hx⟩ : ∃ x : Int, x = (q.toNat : Int) := ⟨_, rfl⟩
      rw [← hx] at ixq IB
      have x1 : ¬ x = 50 := by rw [hx]; intro e; exact ne (by show (50 : Nat) = _; omega)
      have x2 : decide (x = 50) = false := decide_eq_false x1
      have x3 : decide (50 = x) = false := decide_eq_false (fun e => x1 e.symm)
      have x4 : ((50 : Int) == x) = false := by simpa using fun e : (50 : Int) = x => x1 e.symm
      clear D hv hx ne hq x1
      go_enter Try.func20, Try.ntmps20
      go_wp2_with fail
      refine VR.out.mono ?_
      rintro e w1 ⟨rfl, h⟩
      have h := h.symm
      subst h
      go_wp2_with fail
      go_step3
      go_wp2_with fail
      go_loopw [9, 10] (fun i f wr => i = .int .i64 2 ∧ f = .int .i64 0 ∧ wr = w) (fun _ _ _ => 0)
      case atStart => exact ⟨rfl, rfl, rfl⟩
      case round =>
        obtain ⟨rfl, rfl, rfl⟩ := hrel
        go_wp2_with fail
        go_step3
        go_upto_region 6 with fail
        go_quiet (fail)
        go_upto_region 7 with fail
        go_quiet (first | (go_at_call 29; refine (IB _).out.mono ?_; rintro e w3 ⟨rfl, rfl⟩; exact ⟨rfl, _, rfl⟩) | fail)
        go_wp2
        show bodyPost Try.prog Try.f20 (fun e w' => e = Ending.returned (Value.int IntKind.i64 (-1)) ∧ Below wr.heap.size wr w') Exit.ret _ _
        go_ret
        exact ⟨rfl, ⟨rfl, rfl, rfl, Nat.le_refl _, fun _ _ => rfl⟩⟩
    · have IB := fun W => hide (indexByteX W (hxS.drop 4) q.toNat)
      have wz : IntKind.i64.wrap 4 = 4 := by decide
      have ne := ne_hx 3 (by decide) q hq
      have D : Hid (Lib.indexByte (hxS.drop 4) (q.toNat : Int).toNat.toUInt8 = -1) := idx_high 4 _ (by simpa using hq)
      rw [D.out] at IB
      have sl : ∀ W, (Instr.slice 9 (.string ⟨#[48, 49, 50, 51, 52, 53, 54, 55, 56, 57, 97, 98, 99, 100, 101, 102]⟩) (some (.int .i64 4)) none none).run Try.prog W = .ok (.string ⟨⟨hxS.drop 4⟩⟩) W := fun W => by simp [go_sem]; rfl
      have ixd : ∀ W, (Instr.index 9 (.string ⟨#[48, 49, 50, 51, 52, 53, 54, 55, 56, 57, 97, 98, 99, 100, 101, 102]⟩) (.int .i64 3)).run Try.prog W = .ok (.int .u8 51) W := fun W => run_tx (P := Try.prog) W 9 hxS 3 Try.underlying9 (by decide)
      have ixq : ∀ W, (Instr.index 9 (.string ⟨#[a, b, c, q]⟩) (.int .i64 3)).run Try.prog W = .ok (.int .u8 (q.toNat : Int)) W := fun W => run_tx (P := Try.prog) W 9 [a, b, c, q] 3 Try.underlying9 (by simp)
      obtain ⟨x, hx⟩ : ∃ x : Int, x = (q.toNat : Int) := ⟨_, rfl⟩
      rw [← hx] at ixq IB
      have x1 : ¬ x = 51 := by rw [hx]; intro e; exact ne (by show (51 : Nat) = _; omega)
      have x2 : decide (x = 51) = false := decide_eq_false x1
      have x3 : decide (51 = x) = false := decide_eq_false (fun e => x1 e.symm)
      have x4 : ((51 : Int) == x) = false := by simpa using fun e : (51 : Int) = x => x1 e.symm
      clear D hv hx ne hq x1
      go_enter Try.func20, Try.ntmps20
      go_wp2_with fail
      refine VR.out.mono ?_
      rintro e w1 ⟨rfl, h⟩
      have h := h.symm
      subst h
      go_wp2_with fail
      go_step3
      go_wp2_with fail
      go_loopw [9, 10] (fun i f wr => i = .int .i64 3 ∧ f = .int .i64 0 ∧ wr = w) (fun _ _ _ => 0)
      case atStart => exact ⟨rfl, rfl, rfl⟩
      case round =>
        obtain ⟨rfl, rfl, rfl⟩ := hrel
        go_wp2_with fail
        go_step3
        go_upto_region 6 with fail
        go_quiet (fail)
        go_upto_region 7 with fail
        go_quiet (first | (go_at_call 29; refine (IB _).out.mono ?_; rintro e w3 ⟨rfl, rfl⟩; exact ⟨rfl, _, rfl⟩) | fail)
        go_wp2
        show bodyPost Try.prog Try.f20 (fun e w' => e = Ending.returned (Value.int IntKind.i64 (-1)) ∧ Below wr.heap.size wr w') Exit.ret _ _
        go_ret
        exact ⟨rfl, ⟨rfl, rfl, rfl, Nat.le_refl _, fun _ _ => rfl⟩⟩
end Go.Proofs.Ytdgbioekofmekaa
