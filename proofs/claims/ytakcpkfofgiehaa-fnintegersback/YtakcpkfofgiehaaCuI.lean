
/-
  The cursor's integer.
-/
import Derived.Test.YtakcpkfofgiehaaCuA
import Derived.Test.YtakcpkfofgiehaaIeA
namespace Go.Proofs.Ytakcpkfofgiehaa
open Go Go.RowKit

/-- The place of a cursor. -/
def curI (w : World) (p : Nat) : Nat := match w.cell? ⟨p, 1, none⟩ with | some (.int _ i) => i.toNat | _ => 0
theorem Cur.curI {w : World} {p : Nat} {l : Value} {i : Nat} (h : Cur w p l (i : Int)) : curI w p = i := by
  unfold Proofs.Ytakcpkfofgiehaa.curI
  rw [h.c1]
  simp
theorem svK_one (xs : List Int) (h0 : 0 ≤ xs.getD 0 0) (h1 : xs.getD 0 0 < 256) : IntKind.i8.wrap (xs.getD 0 0) = svK xs 1 := by
  have e : svK xs 1 = (if 128 ≤ xs.getD 0 0 then -1 else 0) * 256 + xs.getD 0 0 := rfl
  rw [e]
  generalize xs.getD 0 0 = x at *
  simp [IntKind.wrap, IntKind.signed, IntKind.bits]
  split <;> omega

set_option maxHeartbeats 2000000 in
theorem integer_any (w : World) (p g : Nat) (a : Option Addr) (c : Nat) (xs : List Int) (hC : Cur w p (.slice a xs.length c) ((0 : Nat) : Int)) (hr : Rd w g a .u8 xs) (hb : Byt xs) (hg : 0 < xs.length → g ≠ p) :
    Calls Try.prog 45 #[.pointer (some ⟨p, 0, none⟩)] w fun e w' => ((diB xs = true ∧ e = .returned (.int .i64 (sv xs))) ∨ (diB xs = false ∧ Pan e)) ∧ Only p w w' := by
  have c0 := hC.c0
  by_cases h8 : xs.length ≤ 8
  · have t8 : decide (8 < (xs.length : Int)) = false := by simp; omega
    by_cases h1 : 1 ≤ xs.length
    · have TK := hide (take_ok w p g a c xs 0 hC hr (by omega) (by omega))
      have hx := hb 0
      have W8 := svK_one xs hx.1 hx.2
      have BD := fun k => hide (svK_bd hb k)
      have P8 : Hid (∀ k, k < xs.length → (2 : Int) ^ (8 * k + 7) ≤ 9223372036854775808) := fun k hk => by
        have : (2 : Int) ^ (8 * k + 7) ≤ 2 ^ 63 := by exact_mod_cast Nat.pow_le_pow_right (by decide) (by omega)
        simpa using this
      have ST := fun k => hide (show svK xs (k + 1) = svK xs k * 256 + xs.getD k 0 from rfl)
      have SV : Hid (sv xs = svK xs xs.length) := rfl
      have DB : Hid (diB xs = decide (isz (svK xs xs.length) = xs.length)) := by show diB xs = _; unfold diB; rw [decide_eq_true h1, decide_eq_true h8]; rfl
      have IS := fun W => hide (integerSize_any W (svK xs xs.length) (by have := (BD (xs.length - 1)).out; rw [show xs.length - 1 + 1 = xs.length by omega] at this; have := P8.out (xs.length - 1) (by omega); omega) (by have := (BD (xs.length - 1)).out; rw [show xs.length - 1 + 1 = xs.length by omega] at this; have := P8.out (xs.length - 1) (by omega); omega))
      rw [SV.out]
      clear SV hC
      generalize hF : svK xs = f at *
      have HF := hide hF
      clear hF
      generalize hx0 : xs.getD 0 0 = x0 at *
      clear hx0
      go_enter Try.func45, Try.ntmps45
      go_wp2_with fail
      refine TK.out.mono ?_
      rintro r w1 ⟨rfl, C1, O1⟩
      have W1 : Hid (wrap64 (f 1) = f 1) := by show _ = _; have b := (BD 0).out; simp at b; unfold wrap64; omega
      clear TK c0
      go_wp2_with fail
      clear W8 hx
      generalize hn : xs.length = n at *
      have HN := hide hn
      clear hn
      go_loopw [3] (fun q wr => ∃ (k : Nat), k ≤ n ∧ q = .int .i64 (f k) ∧ Cur wr p (.slice a n c) (k : Int) ∧ Only p w wr) (fun _ wr => n - curI wr p)
      case atStart => exact ⟨1, h1, by rw [W1.out], C1, O1⟩
      case round =>
        obtain ⟨k, hk, rfl, Ck, Ok⟩ := hrel
        have AE := atEnd_any wr p a n c k Ck
        by_cases hlt : k < n
        · rw [decide_eq_false (show ¬ k = n by omega)] at AE
          have st := ST k
          have bd := (BD k).out
          have p8 := P8.out k hlt
          have hx := hb k
          have r1 : -9223372036854775808 ≤ f k * 256 := by have := st.out; rw [this] at bd; omega
          have r2 : f k * 256 < 9223372036854775808 := by have := st.out; rw [this] at bd; omega
          have OR := or_byte (f k) (xs.getD k 0) r1 r2 hx.1 hx.2
          have TK := fun q => hide (take_ok (wr.drewN q) p g a c xs k (by rw [HN.out]; exact Ck.drew q) ((hr.of_block (Ok.block g (hg (by omega)))).of_block rfl) (by rw [HN.out]; omega) (by rw [HN.out]; omega))
          simp only [HN.out] at TK
          rw [← st.out] at OR
          clear bd p8 st
          generalize xs.getD k 0 = x at *
          go_wp2_with fail
          refine AE.mono ?_
          rintro r w2 ⟨rfl, q, rfl⟩
          go_wp2_with fail
          refine (TK q).out.mono ?_
          rintro r w3 ⟨rfl, C3, O3⟩
          have M1 := Ck.curI
          have M3 := C3.curI
          have MM : Hid (n - curI w3 p < n - curI wr p) := by show _ < _; rw [M1, M3]; omega
          clear M1 M3
          go_wp2
          go_roundw
          case rel => exact ⟨k + 1, by omega, rfl, C3, Ok.trans ((Only.drewN wr p q).trans O3)⟩
          case measure => exact MM.out
        · obtain rfl : k = n := by omega
          rw [decide_eq_true rfl] at AE
          have c0 := Ck.c0
          go_wp2_with fail
          refine AE.mono ?_
          rintro r w2 ⟨rfl, q, rfl⟩
          have DBk : Hid (diB xs = decide (isz (f k) = k)) := DB
          clear DB AE BD P8 ST O1 C1
          have is := fun W => (IS W).out
          clear IS
          by_cases hz : isz (f k) = k
          · rw [decide_eq_true hz] at DBk
            simp only [hz] at is
            clear hz
            go_wp2
            go_quiet ((go_at_call 42; refine (is _).mono ?_; rintro e w' ⟨rfl, rfl⟩; exact ⟨rfl, _, rfl⟩))
            go_wp2
            go_ret
            exact ⟨.inl ⟨DBk.out, by rw [HN.out]; rfl⟩, Ok.trans ((Only.drewN wr p q).trans (Only.drewN _ p _))⟩
          · rw [decide_eq_false hz] at DBk
            have t1 : ((isz (f k) : Int) == (k : Int)) = false := by simp; omega
            have t2 : decide ((isz (f k) : Int) = (k : Int)) = false := by simp; omega
            generalize isz (f k) = s at *
            clear hz
            go_wp2
            go_quiet ((go_at_call 42; refine (is _).mono ?_; rintro e w' ⟨rfl, rfl⟩; exact ⟨rfl, _, rfl⟩))
            go_wp2
            exact ⟨rfl, .inr ⟨DBk.out, _, _, rfl⟩, Ok.trans (Only.drewN wr p _)⟩
    · obtain rfl : xs = [] := List.eq_nil_of_length_eq_zero (by omega)
      have TK := hide (take_bad w p a _ c _ hC (by simp))
      go_enter Try.func45, Try.ntmps45
      go_wp2_with fail
      refine TK.out.mono ?_
      rintro r w1 ⟨⟨t, v, rfl⟩, O1⟩
      go_wp2
      exact ⟨rfl, .inr ⟨rfl, t, v, rfl⟩, O1⟩
  · have t8 : decide (8 < (xs.length : Int)) = true := by simp; omega
    have DB : Hid (diB xs = false) := by show diB xs = _; unfold diB; rw [decide_eq_false h8]; simp
    clear hC hr hg
    go_enter Try.func45, Try.ntmps45
    go_wp2
    exact ⟨rfl, .inr ⟨DB.out, _, _, rfl⟩, Only.refl _ _⟩
end Go.Proofs.Ytakcpkfofgiehaa
