
/-
  Bytes that are read one field behind the other; the model's l13Take, l13Number. Behind the end there are bytes 0.
-/
import Derived.Test.YtjdbnlbmhnpifaaNmA
import Derived.BigQuiet
namespace Go.Proofs.Ytjdbnlbmhnpifaa
open Go Go.RowKit

/-- The n bytes from place i on. -/
def tkB (xs : List Int) (i n : Nat) : List Int := fill (fun k => xs.getD (i + k) 0) n
theorem tkB_len (xs : List Int) (i n : Nat) : (tkB xs i n).length = n := fill_len _ _
theorem tkB_get (xs : List Int) (i n k : Nat) (h : k < n) : (tkB xs i n).getD k 0 = xs.getD (i + k) 0 := fill_get _ _ _ h
theorem tkB_byt {xs : List Int} (h : Byt xs) (i n : Nat) : Byt (tkB xs i n) := fun k => by
  by_cases hk : k < n
  · rw [tkB_get _ _ _ _ hk]; exact h _
  · rw [List.getD_eq_getElem?_getD, List.getElem?_eq_none (by rw [tkB_len]; omega)]
    exact ⟨by simp, by simp⟩
/-- What is read lies in a block of its own; of what was there the reader's block alone has changed. -/
def NewI (p : Nat) (w w' : World) : Prop := w'.os = w.os ∧ w'.tape = w.tape ∧ w'.output = w.output ∧ w.heap.size ≤ w'.heap.size ∧ ∀ b, b < w.heap.size → b ≠ p → w'.heap[b]? = w.heap[b]?
theorem NewI.below {p B : Nat} {w w' : World} (h : NewI p w w') (hB : B ≤ p) (hw : B ≤ w.heap.size) : Below B w w' := ⟨h.1, h.2.1, h.2.2.1, h.2.2.2.1, fun k hk => h.2.2.2.2 k (by omega) (by omega)⟩
theorem NewI.block {p b : Nat} {w w' : World} (h : NewI p w w') (hb : b < w.heap.size) (hne : b ≠ p) : w'.heap[b]? = w.heap[b]? := h.2.2.2.2 b hb hne
theorem NewI.refl (p : Nat) (w : World) : NewI p w w := ⟨rfl, rfl, rfl, Nat.le_refl _, fun _ _ _ => rfl⟩
theorem NewI.trans {p : Nat} {a b c : World} (h : NewI p a b) (k : NewI p b c) : NewI p a c :=
  ⟨k.1.trans h.1, k.2.1.trans h.2.1, k.2.2.1.trans h.2.2.1, Nat.le_trans h.2.2.2.1 k.2.2.2.1, fun x hx hn => (k.2.2.2.2 x (Nat.lt_of_lt_of_le hx h.2.2.2.1) hn).trans (h.2.2.2.2 x hx hn)⟩
theorem NewI.of_below {p : Nat} {w w' : World} (h : Below w.heap.size w w') : NewI p w w' := ⟨h.os, h.tape, h.output, h.size, fun b hb _ => h.block b hb⟩
theorem NewI.of_only {p : Nat} {w w' : World} (h : Only p w w') : NewI p w w' := ⟨h.os, h.tape, h.output, Nat.le_of_eq h.size.symm, fun b _ hn => h.block b hn⟩
set_option maxHeartbeats 2000000 in
theorem l13Take_any (w : World) (p g : Nat) (a : Option Addr) (c : Nat) (xs : List Int) (i n : Nat) (hC : Cur w p (.slice a xs.length c) i) (hr : Rd w g a .u8 xs) (hi : i ≤ 4194304) (hn : n ≤ 3000) (hl : xs.length ≤ 4194304) :
    Calls Try.prog 35 #[.pointer (some ⟨p, 0, none⟩), .int .i64 (n : Int)] w fun e w' => e = .returned (.slice (some ⟨w.heap.size, 0, none⟩) n n) ∧ Blk w' w.heap.size .u8 (tkB xs i n) ∧ Cur w' p (.slice a xs.length c) ((i + n : Nat) : Int) ∧ NewI p w w' := by
  obtain ⟨i0, hi0, hz0, hz1, hz2⟩ := info_parts Try.info5
  have pl := hC.lt
  go_enter Try.func35, Try.ntmps35
  go_wp2_with (at_make; refine wpList_make_full _ rfl _ _ 22 rfl w.heap.size 5 i0 (.int .u8 0) 1 Try.underlying22 hi0 hz0 hz1 .i64 .i64 _ _ n rfl rfl rfl rfl (by rw [hz2]; omega) (by unfold maxLen; omega) (Nat.le_refl _) ?_; intro w1 hown hgrow)
  have hB0 := Blk.of_made hown
  have hN0 : Below w.heap.size w w1 := (Below.refl _ _).grown hgrow (Nat.le_refl _) (by simp)
  clear hown hgrow
  go_loopw [6] (fun j wr => ∃ (k : Nat) (ys : List Int), k ≤ n ∧ j = .int .i64 (k : Int) ∧ Hid (FillTo (fun k => xs.getD (i + k) 0) ys n k) ∧ Hid (∀ j, k ≤ j → ys.getD j 0 = 0) ∧ Blk wr w.heap.size .u8 ys ∧ Below w.heap.size w wr) (fun j _ => n - (intOf j).toNat)
  case atStart => exact ⟨0, _, Nat.zero_le _, rfl, ⟨by simp, fun j hj => absurd hj (by omega)⟩, (fun j _ => by rw [List.getD_eq_getElem?_getD, List.getElem?_replicate]; split <;> rfl), hB0, hN0⟩
  case round =>
    clear hB0 hN0
    obtain ⟨k, ys, hk, rfl, F, Z, B, N⟩ := hrel
    have C := hC.up N
    have c0 := C.c0
    have c1 := C.c1
    have f1 := C.f1
    by_cases hlt : k < n
    · have k0 : (k : Int) < (n : Int) := by omega
      have k1 : decide ((k : Int) < (n : Int)) = true := by simp; omega
      have kl : k < ys.length := by rw [F.out.1]; exact hlt
      by_cases hx : i + k < xs.length
      · have x0 : (i : Int) + (k : Int) < (xs.length : Int) := by omega
        have x1 : decide ((i : Int) + (k : Int) < (xs.length : Int)) = true := decide_eq_true x0
        obtain ⟨off, rfl, hc⟩ := hr.up N (by omega)
        have hcx := hc (i + k) hx
        clear hc
        have hfy := B.free k
        have hcy := B.cell kl
        have F' := hide (F.out.step hlt)
        have Z' : Hid (∀ j, k + 1 ≤ j → (ys.set k (xs.getD (i + k) 0)).getD j 0 = 0) := fun j hj => by rw [getD_set_ne _ _ _ _ (by omega)]; exact Z.out j (by omega)
        have B' := fun m q => hide (show Blk (((wr.drewN m).setCell ⟨w.heap.size, k, none⟩ (.int .u8 (xs.getD (i + k) 0))).drewN q) w.heap.size .u8 (ys.set k (xs.getD (i + k) 0)) from Blk.store (show Blk (wr.drewN m) w.heap.size .u8 ys from B) k (xs.getD (i + k) 0))
        have N' := fun m q => hide (show Below w.heap.size w (((wr.drewN m).setCell ⟨w.heap.size, k, none⟩ (.int .u8 (xs.getD (i + k) 0))).drewN q) from below_drewN ((below_drewN N m).trans ((Only.setCell _ _ _ _).below (Nat.le_refl _))) q)
        generalize xs.getD (i + k) 0 = x at *
        go_wp2
        go_quiet (fail)
        go_wp2
        go_region
        all_goals
          go_wp2
          go_roundw
          case rel => exact ⟨k + 1, _, by omega, by go_num, F', Z', (B' _ 0).out, (N' _ 0).out⟩
          case measure => simp [intOf]; omega
      · have x0 : ¬ (i : Int) + (k : Int) < (xs.length : Int) := by omega
        have x1 : decide ((i : Int) + (k : Int) < (xs.length : Int)) = false := decide_eq_false x0
        have F' : Hid (FillTo (fun k => xs.getD (i + k) 0) ys n (k + 1)) := by
          refine ⟨F.out.1, fun j hj => ?_⟩
          by_cases hjk : j < k
          · exact F.out.2 j hjk
          · obtain rfl : j = k := by omega
            show ys.getD j 0 = xs.getD (i + j) 0
            rw [Z.out j (Nat.le_refl _), List.getD_eq_getElem?_getD, List.getElem?_eq_none (by omega)]
            rfl
        have Z' : Hid (∀ j, k + 1 ≤ j → ys.getD j 0 = 0) := fun j hj => Z.out j (by omega)
        have B' := fun m => hide (show Blk (wr.drewN m) w.heap.size .u8 ys from B)
        have N' := fun m => hide (show Below w.heap.size w (wr.drewN m) from below_drewN N m)
        go_wp2
        go_quiet (fail)
        go_wp2
        go_roundw
        case rel => exact ⟨k + 1, _, by omega, by go_num, F', Z', (B' _).out, (N' _).out⟩
        case measure => simp [intOf]; omega
    · obtain rfl : k = n := by omega
      have k0 : ¬ (k : Int) < (k : Int) := by omega
      obtain rfl : ys = tkB xs i k := F.out.all
      have c2 := hide (show Cur (wr.setCell ⟨p, 1, none⟩ (.int .i64 ((i : Int) + (k : Int)))) p (.slice a xs.length c) ((i + k : Nat) : Int) from by have := C.store ((i : Int) + (k : Int)); rwa [show ((i : Int) + (k : Int)) = ((i + k : Nat) : Int) by omega] at this ⊢)
      have B2 := hide (show Blk (wr.setCell ⟨p, 1, none⟩ (.int .i64 ((i : Int) + (k : Int)))) w.heap.size .u8 (tkB xs i k) from B.of_block ((Only.setCell wr p 1 _).block _ (by omega)))
      have N2 := hide ((NewI.of_below (p := p) N).trans (NewI.of_only (Only.setCell wr p 1 (.int .i64 ((i : Int) + (k : Int))))))
      go_wp2
      go_ret
      exact ⟨rfl, B2.out, c2.out, N2.out⟩
/-- A number of n bytes from place i on, as 64 bits hold it. -/
def nmV (xs : List Int) (i n : Nat) : Int := wrap64 (beN xs i n)
theorem beN_tkB (xs : List Int) (i n : Nat) : ∀ k, k ≤ n → beN (tkB xs i n) 0 k = beN xs i k
  | 0, _ => rfl
  | k + 1, h => by
    have ih := beN_tkB xs i n k (by omega)
    show beN (tkB xs i n) 0 k * 256 + (tkB xs i n).getD (0 + k) 0 = beN xs i k * 256 + xs.getD (i + k) 0
    rw [ih, Nat.zero_add, tkB_get _ _ _ _ (by omega)]
set_option maxHeartbeats 2000000 in
theorem l13Number_any (w : World) (p g : Nat) (a : Option Addr) (c : Nat) (xs : List Int) (i n : Nat) (hC : Cur w p (.slice a xs.length c) i) (hr : Rd w g a .u8 xs) (hb : Byt xs) (hi : i ≤ 4194304) (hn : n ≤ 8) (hl : xs.length ≤ 4194304) :
    Calls Try.prog 36 #[.pointer (some ⟨p, 0, none⟩), .int .i64 (n : Int)] w fun e w' => e = .returned (.int .i64 (nmV xs i n)) ∧ Cur w' p (.slice a xs.length c) ((i + n : Nat) : Int) ∧ NewI p w w' := by
  have TK := hide (l13Take_any w p g a c xs i n hC hr hi (by omega) hl)
  have pl := hC.lt
  clear hC hr
  go_enter Try.func36, Try.ntmps36
  go_wp2_with fail
  refine TK.out.mono ?_
  rintro e w1 ⟨rfl, B, C, N⟩
  clear TK
  go_wp2
  go_loopw [5, 7] (fun v j wr => ∃ k : Nat, k ≤ n ∧ v = .int .i64 (nmV xs i k) ∧ j = .int .i64 (k : Int) ∧ wr = w1) (fun _ j _ => n - (intOf j).toNat)
  case atStart => exact ⟨0, Nat.zero_le _, by rw [show nmV xs i 0 = 0 by unfold nmV wrap64 beN; decide], rfl, rfl⟩
  case round =>
    obtain ⟨k, hk, rfl, rfl, rfl⟩ := hrel
    by_cases hlt : k < n
    · have k0 : (k : Int) < (n : Int) := by omega
      have kl : k < (tkB xs i n).length := by rw [tkB_len]; exact hlt
      have hc := B.cell kl
      rw [tkB_get _ _ _ _ hlt] at hc
      have bx := hb (i + k)
      have x0 := bx.1
      have x1 := bx.2
      have e : Hid (nmV xs i (k + 1) = wrap64 (wrap64 (nmV xs i k * 256) + xs.getD (i + k) 0)) := by
        show nmV xs i (k + 1) = _
        unfold nmV wrap64
        simp only [beN]
        omega
      clear bx
      generalize xs.getD (i + k) 0 = x at *
      generalize nmV xs i k = m at *
      go_wp2
      go_roundw
      case rel => exact ⟨k + 1, by omega, by rw [e.out], by go_num, trivial⟩
      case measure => simp [intOf]; omega
    · obtain rfl : k = n := by omega
      go_wp2
      go_ret
      exact ⟨rfl, C, N⟩
theorem nmV_small {xs : List Int} (hb : Byt xs) (i n : Nat) (hn : n ≤ 7) : nmV xs i n = beN xs i n := by
  have r := beN_rng hb i n
  have r1 : beN xs i n < 72057594037927936 := by
    rcases (by omega : n = 0 ∨ n = 1 ∨ n = 2 ∨ n = 3 ∨ n = 4 ∨ n = 5 ∨ n = 6 ∨ n = 7) with rfl | rfl | rfl | rfl | rfl | rfl | rfl | rfl
    all_goals (have := r.2; simp at this; omega)
  unfold nmV wrap64
  omega
end Go.Proofs.Ytjdbnlbmhnpifaa
