
/-
  The law FnHexBack.
-/
import Derived.Test.YtdgbioekofmekaaHxB
import Derived.Test.YtdgbioekofmekaaRgW
import Derived.Test.YtdgbioekofmekaaRgQ
namespace Go.Proofs.Ytdgbioekofmekaa
open Go Go.RowKit

theorem nb_hx (y : Int) (h0 : 0 ≤ y) (h1 : y < 16) : nbV (UInt8.ofNat (hxB y).toNat) = y := by
  obtain ⟨n, rfl⟩ := Int.eq_ofNat_of_zero_le h0
  have : ∀ n : Nat, n < 16 → nbV (UInt8.ofNat (hxB (n : Int)).toNat) = (n : Int) := by decide
  exact this n (by omega)
theorem h2_he : ∀ xs : List Int, Byt xs → h2L (txX (heL xs)) = xs
  | [], _ => rfl
  | x :: t, hb => by
    have h0 := hb 0
    simp at h0
    have ih := h2_he t (fun i => by have := hb (i + 1); simpa using this)
    have e : txX (heL (x :: t)) = UInt8.ofNat (hxB (x / 16)).toNat :: UInt8.ofNat (hxB (x % 16)).toNat :: txX (heL t) := by simp [heL, hx2, txX]
    rw [e]
    unfold h2L
    rw [ih, nb_hx _ (by omega) (by omega), nb_hx _ (by omega) (by omega)]
    congr 1
    omega
theorem dec_enc (xs : List Int) (hb : Byt xs) : ∃ l : List UInt8, ehF xs = ⟨⟨l⟩⟩ ∧ dhG l = true ∧ dhD l = xs ∧ l.length ≤ 2 * xs.length + 1 := by
  by_cases h : xs = []
  · subst h
    exact ⟨[45], rfl, rfl, rfl, by simp⟩
  · have e : ehF xs = ⟨⟨txX (heL xs)⟩⟩ := by unfold ehF; rw [if_neg h, str_isX]
    have h2 := h2_he xs hb
    have g : dhG (txX (heL xs)) = true := (ehF_h2 _).1 (by rw [h2]; exact e)
    exact ⟨_, e, g, by unfold dhD; rw [if_pos g]; exact h2, by simp [txX, heL_len]⟩
/-- A struct whose first part is known. -/
def AgF (b : Bool) : Fact := ⟨fun v _ => ∃ x, v = .agg #[.bool b, x], fun _ h => h⟩
theorem fdX (b : Bool) (v : Value) (w : World) : (Instr.field 28 (.agg #[.bool b, v]) 0).run Try.prog w = .ok (.bool b) w := by kernel_rfl

set_option maxRecDepth 20000 in
set_option maxHeartbeats 4000000 in
theorem hexBack_law (w : World) (g0 : Nat) (a0 : Option Addr) (c0 : Nat) (X0 : List Int) (hX0 : Rd w g0 a0 .u8 X0) (bX0 : Byt X0) (g1 : Nat) (a1 : Option Addr) (c1 : Nat) (X1 : List Int) (hX1 : Rd w g1 a1 .u8 X1) (bX1 : Byt X1) :
    Calls Try.prog 5 #[.slice a0 X0.length c0, .slice a1 X1.length c1] w fun e w' => e = .returned (.bool true) ∧ Below w.heap.size w w' := by
  by_cases q0 : X0.length ≤ 1048576
  · have u0 : decide ((1048576 : Int) < (X0.length : Int)) = false := by simp; omega
    by_cases q1 : X1.length ≤ 1048576
    · have u1 : decide ((1048576 : Int) < (X1.length : Int)) = false := by simp; omega
      go_enter Try.func5, Try.ntmps5
      go_wp2_with fail
      refine (drawEncHex_any w g0 a0 c0 X0 hX0 bX0 q0).mono ?_
      rintro e w1 ⟨ys, yb, yl, ⟨a2, c2, g2, rfl, o2, p2, q2, r2⟩, N1⟩
      go_wp2_with fail
      refine (lwCopy_any w1 g2 a2 c2 ys o2.rd p2 (by omega)).mono ?_
      rintro e w2 ⟨⟨a3, c3, g3, rfl, o3, p3, q3, r3⟩, n2⟩
      have N2 := nxt N1 n2
      have o2a := o2.up n2
      obtain ⟨l, el, gl, dl, ll⟩ := dec_enc ys yb
      go_wp2_with fail
      refine (implEncodeHex_any w2 g3 a3 c3 ys o3.rd yb (by omega)).mono ?_
      rintro e w3 ⟨rfl, n3⟩
      rw [el]
      have N3 := nxt N2 n3
      have o2b := o2a.up n3
      have DH := hide (implDecodeHex_any w3 l (by omega))
      rw [gl, dl] at DH
      clear o2 o2a o3 n2 n3 N1 N2 el gl dl ll p3 q3 r3
      go_wp2_with fail
      refine DH.out.mono ?_
      rintro e w4 ⟨⟨a5, c5, g5, rfl, o5, p5, q5, r5⟩, n4⟩
      have N4 := nxt N3 n4
      have o2c := o2b.up n4
      have T6 := Two.new w4 (.bool true) (.slice a5 ys.length c5) 28
      have n5 : Below w4.heap.size w4 (w4.alloc (.cells #[.bool true, .slice a5 ys.length c5] 28)) := (Below.refl _ _).alloc (Nat.le_refl _) _
      have N5 := nxt N4 n5
      have o2d := o2c.up n5
      have o5d := o5.up n5
      clear DH o2b o2c o5 n4 N3 p5 q5 r5
      go_wp2_with fail
      generalize w4.alloc (.cells #[.bool true, .slice a5 ys.length c5] 28) = w5 at *
      refine (lwSame_same w5 g5 g2 a5 a2 c5 c2 ys o5d.rd o2d.rd).mono ?_
      rintro e w6 ⟨rfl, h⟩
      have h := h.symm
      subst h
      clear o2d o5d T6 n5 N4
      go_wp2_with fail
      refine (drawDecHex_any w5 g1 a1 c1 X1 (hX1.up N5) bX1 q1).mono ?_
      rintro e y1 ⟨t, rfl, tl, m1⟩
      have M1 := nxt N5 m1
      have SD := fun W => hide (specDecodeHex_any W t (by omega))
      have BK := ehF_h2 t
      have DL : (dhD t).length ≤ 1048576 := by unfold dhD; split <;> simp [h2L_len]; omega
      have DB : Byt (dhD t) := by unfold dhD; split; exact h2L_byt t; exact byt_nil
      have IE := fun W g a c h => hide (implEncodeHex_any W g a c (dhD t) h DB DL)
      have DD : Hid (dhG t = true → dhD t = h2L t) := fun h => by unfold dhD; rw [if_pos h]
      go_wp2_with fail
      refine (implDecodeHex_any y1 t (by omega)).mono ?_
      rintro e y2 ⟨⟨a5, c5, g5, rfl, o5, p5, q5, r5⟩, m2⟩
      have M2 := nxt M1 m2
      have T8 := Two.new y2 (.bool (dhG t)) (.slice a5 (dhD t).length c5) 28
      have m3 : Below y2.heap.size y2 (y2.alloc (.cells #[.bool (dhG t), .slice a5 (dhD t).length c5] 28)) := (Below.refl _ _).alloc (Nat.le_refl _) _
      have M3 := nxt M2 m3
      have o5d := o5.up m3
      clear o5 m1 m2 N5 M1 M2 m3
      cases hg : dhG t with
      | false =>
        rw [hg] at T8 SD M3 o5d
        obtain ⟨ds, hds⟩ : ∃ ds, ds = dhD t := ⟨_, rfl⟩
        rw [← hds] at T8 SD o5d IE M3 ⊢
        have fd := fun (v : Value) W => fdX false v W
        clear BK DD hds hg IE
        go_upto_region 9 with fail
        generalize y2.alloc (.cells #[.bool false, .slice a5 ds.length c5] 28) = y3 at *
        refine region_guardW (fun i => [true, true, true, true, true, true, true, true, true, true, true, false, false, false, false, false, true, true, true].getD i true) (fun i => [Fact.eq (.pointer (some ⟨y2.heap.size, 0, none⟩)), Fact.eq (.bool false), Fact.eq (.string ⟨⟨t⟩⟩), AgF false, Fact.eq (.bool false), Fact.eq (.bool true), Fact.eq (.bool true), Fact.eq (.pointer (some ⟨y2.heap.size, 0, none⟩)), Fact.eq (.bool false), Fact.eq (.bool true), Fact.eq (.bool true), Fact.eq undef, Fact.eq undef, Fact.eq undef, Fact.eq undef, Fact.eq undef, Fact.eq (.bool true), Fact.eq (.bool true), Fact.eq (.bool true)].getD i Fact.no) (by kernel_rfl) (by kernel_rfl) ?_ ?_ ?_
        · intro i hi hwn
          have hiN : i < 19 := hi
          obtain rfl | rfl | rfl | rfl | rfl | rfl | rfl | rfl | rfl | rfl | rfl | rfl | rfl | rfl | rfl | rfl | rfl | rfl | rfl : i = 0 ∨ i = 1 ∨ i = 2 ∨ i = 3 ∨ i = 4 ∨ i = 5 ∨ i = 6 ∨ i = 7 ∨ i = 8 ∨ i = 9 ∨ i = 10 ∨ i = 11 ∨ i = 12 ∨ i = 13 ∨ i = 14 ∨ i = 15 ∨ i = 16 ∨ i = 17 ∨ i = 18 := by omega
          · refine step_pure rfl fun a ww hb hw hf => ?_
            have e8 : a.tmps[8]?.getD undef = .pointer (some ⟨y2.heap.size, 0, none⟩) := gdv (hb.2.2 8 (by kernel_rfl))
            exact ⟨.pointer (some ⟨y2.heap.size, 0, none⟩), by simp [go_sem, e8], rfl⟩
          · refine step_pure rfl fun a ww hb hw hf => ?_
            have e37 : a.tmps[37]?.getD undef = .pointer (some ⟨y2.heap.size, 0, none⟩) := gdv (hf 0 37 (by kernel_rfl))
            have hc := (T8.up hw).c0
            exact ⟨.bool false, by simp [go_sem, e37, hc], rfl⟩
          · refine step_pure rfl fun a ww hb hw hf => ?_
            have e7 : a.tmps[7]?.getD undef = .string ⟨⟨t⟩⟩ := gdv (hb.2.2 7 (by kernel_rfl))
            exact ⟨.string ⟨⟨t⟩⟩, by simp [go_sem, e7], rfl⟩
          · refine step_callv rfl 10 _ _ rfl (by kernel_rfl) fun a ww hb hw hf => ?_
            have e39 : a.tmps.getD 39 undef = .string ⟨⟨t⟩⟩ := hf 2 39 (by kernel_rfl)
            show Calls Try.prog 10 #[a.tmps.getD 39 undef] ww _
            rw [e39]
            exact (SD ww).out.mono (by rintro r w' ⟨⟨a, c, g, rfl, -⟩, n'⟩; exact ⟨_, rfl, n', _, rfl⟩)
          · refine step_pure rfl fun a ww hb hw hf => ?_
            obtain ⟨x, hx⟩ := hf 3 40 (by kernel_rfl)
            have e40 : a.tmps[40]?.getD undef = .agg #[.bool false, x] := gdv hx
            have h1 := fdX false x ww
            exact ⟨.bool false, by simp [go_sem, e40, h1], rfl⟩
          · refine step_pure rfl fun a ww hb hw hf => ?_
            have e38 : a.tmps[38]?.getD undef = .bool false := gdv (hf 1 38 (by kernel_rfl))
            have e41 : a.tmps[41]?.getD undef = .bool false := gdv (hf 4 41 (by kernel_rfl))
            exact ⟨.bool true, by simp [go_sem, e38, e41], rfl⟩
          · refine step_pure rfl fun a ww hb hw hf => ?_
            have e42 : a.tmps[42]?.getD undef = .bool true := gdv (hf 5 42 (by kernel_rfl))
            exact ⟨.bool true, by simp [go_sem, e42], rfl⟩
          · refine step_pure rfl fun a ww hb hw hf => ?_
            have e8 : a.tmps[8]?.getD undef = .pointer (some ⟨y2.heap.size, 0, none⟩) := gdv (hb.2.2 8 (by kernel_rfl))
            exact ⟨.pointer (some ⟨y2.heap.size, 0, none⟩), by simp [go_sem, e8], rfl⟩
          · refine step_pure rfl fun a ww hb hw hf => ?_
            have e44 : a.tmps[44]?.getD undef = .pointer (some ⟨y2.heap.size, 0, none⟩) := gdv (hf 7 44 (by kernel_rfl))
            have hc := (T8.up hw).c0
            exact ⟨.bool false, by simp [go_sem, e44, hc], rfl⟩
          · refine step_pure rfl fun a ww hb hw hf => ?_
            have e45 : a.tmps[45]?.getD undef = .bool false := gdv (hf 8 45 (by kernel_rfl))
            exact ⟨.bool true, by simp [go_sem, e45], rfl⟩
          · refine step_pure rfl fun a ww hb hw hf => ?_
            have e46 : a.tmps[46]?.getD undef = .bool true := gdv (hf 9 46 (by kernel_rfl))
            exact ⟨.bool true, by simp [go_sem, e46], rfl⟩
          · exact absurd hwn (by decide)
          · exact absurd hwn (by decide)
          · exact absurd hwn (by decide)
          · exact absurd hwn (by decide)
          · exact absurd hwn (by decide)
          · refine step_pure rfl fun a ww hb hw hf => ?_
            have e47 : a.tmps[47]?.getD undef = .bool true := gdv (hf 10 47 (by kernel_rfl))
            exact ⟨.bool true, by simp [go_sem, e47], rfl⟩
          · refine step_pure rfl fun a ww hb hw hf => ?_
            have e43 : a.tmps[43]?.getD undef = .bool true := gdv (hf 6 43 (by kernel_rfl))
            have e53 : a.tmps[53]?.getD undef = .bool true := gdv (hf 16 53 (by kernel_rfl))
            exact ⟨.bool true, by simp [go_sem, e43, e53], rfl⟩
          · refine step_pure rfl fun a ww hb hw hf => ?_
            have e54 : a.tmps[54]?.getD undef = .bool true := gdv (hf 17 54 (by kernel_rfl))
            exact ⟨.bool true, by simp [go_sem, e54], rfl⟩
        · intro i o ho A WW hf
          have hiN : i < 19 := (Array.getElem?_eq_some_iff.1 ho).1
          obtain rfl | rfl | rfl | rfl | rfl | rfl | rfl | rfl | rfl | rfl | rfl | rfl | rfl | rfl | rfl | rfl | rfl | rfl | rfl : i = 0 ∨ i = 1 ∨ i = 2 ∨ i = 3 ∨ i = 4 ∨ i = 5 ∨ i = 6 ∨ i = 7 ∨ i = 8 ∨ i = 9 ∨ i = 10 ∨ i = 11 ∨ i = 12 ∨ i = 13 ∨ i = 14 ∨ i = 15 ∨ i = 16 ∨ i = 17 ∨ i = 18 := by omega
          · cases ho; exact .inl ⟨rfl, wanted_none rfl⟩
          · cases ho; exact .inl ⟨rfl, wanted_none rfl⟩
          · cases ho; exact .inl ⟨rfl, wanted_none rfl⟩
          · cases ho; exact .inl ⟨rfl, wanted_none rfl⟩
          · cases ho; exact .inl ⟨rfl, wanted_none rfl⟩
          · cases ho; exact .inl ⟨rfl, wanted_none rfl⟩
          · cases ho; exact .inl ⟨rfl, wanted_none rfl⟩
          · cases ho; exact .inl ⟨rfl, wanted_some rfl (by kernel_rfl) (hf 6 43 (by kernel_rfl))⟩
          · cases ho; exact .inl ⟨rfl, wanted_some rfl (by kernel_rfl) (hf 6 43 (by kernel_rfl))⟩
          · cases ho; exact .inl ⟨rfl, wanted_some rfl (by kernel_rfl) (hf 6 43 (by kernel_rfl))⟩
          · cases ho; exact .inl ⟨rfl, wanted_some rfl (by kernel_rfl) (hf 6 43 (by kernel_rfl))⟩
          · cases ho; exact .inr ⟨wanted_off rfl (by kernel_rfl) (hf 10 47 (by kernel_rfl)) (by decide), rfl⟩
          · cases ho; exact .inr ⟨wanted_off rfl (by kernel_rfl) (hf 10 47 (by kernel_rfl)) (by decide), rfl⟩
          · cases ho; exact .inr ⟨wanted_off rfl (by kernel_rfl) (hf 10 47 (by kernel_rfl)) (by decide), rfl⟩
          · cases ho; exact .inr ⟨wanted_off rfl (by kernel_rfl) (hf 10 47 (by kernel_rfl)) (by decide), rfl⟩
          · cases ho; exact .inr ⟨wanted_off rfl (by kernel_rfl) (hf 10 47 (by kernel_rfl)) (by decide), rfl⟩
          · cases ho; exact .inl ⟨rfl, wanted_some rfl (by kernel_rfl) (hf 6 43 (by kernel_rfl))⟩
          · cases ho; exact .inl ⟨rfl, wanted_none rfl⟩
          · cases ho; exact .inl ⟨rfl, wanted_none rfl⟩
        intro A wb hb' hw hF
        have e2 := hF 18 4 (by kernel_rfl)
        obtain ⟨vs, hvs⟩ : ∃ vs : Nat → Value, ∀ d, A.tmps.getD d undef = vs d := ⟨_, fun _ => rfl⟩
        rw [hvs] at e2
        rw [puts_guard (md := .any) (by kernel_rfl) rfl hb' vs hvs]
        clear hb' hF hvs
        have e3 : vs 4 = .bool true := e2
        clear e2
        simp only [puts, e3, Act.put, List.setIfInBounds_toArray, List.set_cons_succ, List.set_cons_zero]
        clear e3
        have NX := nxt M3 hw
        go_wp2
        go_ret
        exact ⟨rfl, NX⟩
      | true =>
        rw [hg] at T8 SD M3 o5d
        obtain ⟨ds, hds⟩ : ∃ ds, ds = dhD t := ⟨_, rfl⟩
        rw [← hds] at T8 SD o5d IE M3 ⊢
        have fd := fun (v : Value) W => fdX true v W
        have ES : Hid (ehF ds = ⟨⟨t⟩⟩) := by
          show _ = _
          rw [hds, DD.out hg]
          exact BK.2 hg
        rw [ES.out] at IE
        clear BK DD hds hg ES
        go_upto_region 9 with fail
        generalize y2.alloc (.cells #[.bool true, .slice a5 ds.length c5] 28) = y3 at *
        have CY : Hid (∀ W, Below y3.heap.size y3 W → (W.cell? ⟨y2.heap.size, 0, none⟩ = some (.bool true) ∧ W.cell? ⟨y2.heap.size, 1, none⟩ = some (.slice a5 ds.length c5))) := fun W m => ⟨(T8.up m).c0, (T8.up m).c1⟩
        have SP : Hid (∀ W, Below y3.heap.size y3 W → Calls Try.prog 10 #[.string ⟨⟨t⟩⟩] W fun e w' => ∃ a c, e = .returned (.agg #[.bool true, .slice a ds.length c]) ∧ Below y3.heap.size y3 w') := fun W m => (SD W).out.mono (by
          rintro e w' ⟨⟨a, c, g, rfl, -⟩, n⟩
          exact ⟨a, c, rfl, nxt m n⟩)
        have EP : Hid (∀ W, Below y3.heap.size y3 W → Calls Try.prog 8 #[.slice a5 ds.length c5] W fun e w' => e = .returned (.string ⟨⟨t⟩⟩) ∧ Below y3.heap.size y3 w') := fun W m => (IE W g5 a5 c5 (o5d.rd.up m)).out.mono (by
          rintro e w' ⟨rfl, n⟩
          exact ⟨rfl, nxt m n⟩)
        have nd : Below y3.heap.size y3 y3.drew := (Below.refl _ _).drew
        clear SD o5d T8 IE
        go_region_held3 (fun W => W.cell? ⟨y2.heap.size, 0, none⟩ = some (.bool true) ∧ W.cell? ⟨y2.heap.size, 1, none⟩ = some (.slice a5 ds.length c5))
          (first | exact (unhide CY) _ ne | exact (unhide CY) _ nc | exact (unhide CY) _ nd)
          (first
            | (go_at_call 10; refine ((unhide SP) _ nd).mono ?_; rintro r wc ⟨ac, cc, rfl, nc⟩)
            | (go_at_call 8; refine ((unhide EP) _ nc).mono ?_; rintro r we ⟨rfl, ne⟩)
            | fail)
        all_goals go_wp2
        all_goals go_ret
        all_goals exact ⟨rfl, nxt M3 ne⟩
    · have u1 : decide ((1048576 : Int) < (X1.length : Int)) = true := by simp; omega
      go_enter Try.func5, Try.ntmps5
      go_wp2
      go_ret
      exact ⟨rfl, Below.refl _ _⟩
  · have u0 : decide ((1048576 : Int) < (X0.length : Int)) = true := by simp; omega
    go_enter Try.func5, Try.ntmps5
    go_wp2
    go_ret
    exact ⟨rfl, Below.refl _ _⟩
end Go.Proofs.Ytdgbioekofmekaa
