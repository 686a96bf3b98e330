
/-
  The law FnPadEnds.
-/
import Derived.Test.YtljpjbojdekeiaaDoorHmD
import Derived.Test.YtljpjbojdekeiaaDoorDrH
import Derived.Test.YtljpjbojdekeiaaDoorRg5
import Derived.Test.YtljpjbojdekeiaaDoorLaidH
namespace Go.Proofs.YtljpjbojdekeiaaDoor
set_option maxRecDepth 100000
open Go Go.RowKit

theorem laid_padE {W : World} (h : laidMetH Tryd.prog Rows.fnPadEndsRow.laid W) : HasH W := ⟨start_of (reads_ofH h (by kernel_rfl) (.head _)), steps_of (reads_ofH h (by kernel_rfl) (.tail _ (.head _)))⟩
theorem pad_mod (n : Nat) : ((n : Int) + ((padL (n : Int) 64 8).length : Int)) % 64 = 0 ∧ ((n : Int) + ((padL (n : Int) 128 16).length : Int)) % 128 = 0 ∧ 9 ≤ (padL (n : Int) 64 8).length ∧ (padL (n : Int) 64 8).length ≤ 72 ∧ 17 ≤ (padL (n : Int) 128 16).length ∧ (padL (n : Int) 128 16).length ≤ 144 := by
  rw [padL_len, padL_len]
  unfold padZ
  omega
theorem left_pad (ys : List Int) : left32 (ys ++ padL (ys.length : Int) 64 8) = [] := by
  have h := (pad_mod ys.length).1
  rw [left_is32, List.drop_eq_nil_iff, List.length_append]
  omega
theorem padA_is {n : Nat} (h : n ≤ 5000) (B t : Nat) : padA (n : Int) B t = padL (n : Int) B t := by
  unfold padA
  rw [if_pos (by omega)]
theorem step_pickT {ops : Array Oper} {Q : Exit → Act → World → Prop} {md : Region.Mode} {F : Nat → Fact} {a0 : Act} {w0 : World} {i : Nat} {o : Oper} {P : Program} (hi : ops[i]? = some o) (p q j k : Nat) {v : Value} {x : Value} (hop : o.op = .pick (.tmp p) (.tmp q) (.const x)) (hj : waits md ops i j p = true) (hk : waits md ops i k q = true) (hFj : F j = Fact.eq (.bool true)) (hFk : F k = Fact.eq v) (hFi : F i = Fact.eq v) : StepOk P md ops Q F a0 w0 i := by
  refine step_pure hi fun a w _ _ hf => ⟨v, ?_, by rw [hFi]; exact rfl⟩
  have h1 := hf j p hj
  have h2 := hf k q hk
  rw [hFj] at h1
  rw [hFk] at h2
  have g1 : a.eval (.tmp p) = .bool true := h1
  have g2 : a.eval (.tmp q) = v := h2
  have g3 : a.eval (.const x) = x := rfl
  simp only [execOp, hop, g1, g2, g3]
  rfl
set_option maxHeartbeats 8000000 in
theorem padE_law (w : World) (g : Nat) (a : Option Addr) (ca : Nat) (xs : List Int) (ha : Rd w g a .u8 xs) (hx : Byt xs) (hL : HasH w) :
    Calls Tryd.prog 3 #[.slice a xs.length ca] w fun e w' => e = .returned (.bool true) ∧ Below w.heap.size w w' := by
  by_cases h1 : xs.length ≤ 1048576
  · have t1 : decide ((1048576 : Int) < (xs.length : Int)) = false := by simp; omega
    go_enter Tryd.func3, Tryd.ntmps3
    go_wp2_with fail
    refine (drawHash_any w g a ca xs ha hx h1).mono ?_
    rintro e w1 ⟨ys, yl, yb, ⟨a1, c1, g1, rfl, o1, p1, q1, r1⟩, n1⟩
    go_wp2_with fail
    obtain ⟨m1, m2, m3, m4, m5, m6⟩ := pad_mod ys.length
    have lp := left_pad ys
    have pb := padL_byt (ys.length : Int) 64 8
    have hh : Hid (tell32 (whole32 start32 (ys ++ padL (ys.length : Int) 64 8)) = hashL32 ys) := rfl
    have P1 := fun W => implHashPad_any W (ys.length : Int)
    have P2 := fun W => implLongPad_any W (ys.length : Int)
    rw [padA_is yl] at P1 P2
    generalize padL (ys.length : Int) 64 8 = pl at *
    generalize padL (ys.length : Int) 128 16 = lg at *
    refine (P1 w1).mono ?_
    rintro e w2 ⟨⟨a2, c2, g2, rfl, o2, p2, q2, r2⟩, n2⟩
    go_wp2_with fail
    refine (P2 w2).mono ?_
    rintro e w3 ⟨⟨a3, c3, g3, rfl, o3, p3, q3, r3⟩, n3⟩
    clear P1 P2
    have z1 : ((((ys.length : Int) + (pl.length : Int)) % 64) != 0) = false := by rw [m1]; rfl
    have z2 : ((((ys.length : Int) + (lg.length : Int)) % 128) != 0) = false := by rw [m2]; rfl
    have z3 : decide ((pl.length : Int) < 9) = false := by simp; omega
    have z4 : decide (72 < (pl.length : Int)) = false := by simp; omega
    have z5 : decide ((lg.length : Int) < 17) = false := by simp; omega
    have z6 : decide (144 < (lg.length : Int)) = false := by simp; omega
    have N3 := nxt (nxt n1 n2) n3
    have LP := hide lp
    have y1 := (o1.up n2).up n3
    have y2 := o2.up n3
    clear m1 m2 m3 m5 lp o1 o2 o3 n1 n2 n3
    go_wp2_with fail
    refine (startD w3 (hL.1.up N3)).mono ?_
    rintro e w4 ⟨⟨v4, rfl, d4⟩, n4⟩
    have N4 := nxt N3 n4
    go_wp2_with fail
    refine (lwCopy_any w4 g1 a1 c1 ys (y1.up n4).rd p1 (by omega)).mono ?_
    rintro e w5 ⟨⟨a5, c5, g5, rfl, o5, p5, q5, r5⟩, n5⟩
    have N5 := nxt N4 n5
    go_wp2_with fail
    refine (moreD w5 v4 _ [] (d4.up n5) byt_nil g5 a5 c5 ys o5.rd yb q5 (by simp; omega) (hL.2.up N5)).mono ?_
    rintro e w6 ⟨⟨v6, rfl, d6⟩, n6⟩
    rw [List.nil_append] at d6
    have N6 := nxt N5 n6
    go_wp2_with fail
    refine (moreD w6 v6 _ ys d6 yb g2 a2 c2 pl (((y2.up n4).up n5).up n6).rd pb q2 (by omega) (hL.2.up N6)).mono ?_
    rintro e w7 ⟨⟨v7, rfl, d7⟩, n7⟩
    have N7 := nxt N6 n7
    have y7 := (((y1.up n4).up n5).up n6).up n7
    unfold SD at d7
    rw [LP.out, hh.out] at d7
    clear d4 d6 n4 n5 n6 n7 o5 y1 y2 N6 N5 N4 N3 hh LP pb z1 z2 z3 z4 z5 z6 r2 r3 r5 p3 q3
    obtain ⟨ws, hws⟩ : ∃ l, l = hashL32 ys := ⟨_, rfl⟩
    rw [← hws] at d7
    have HWS := hide hws
    clear hws
    obtain ⟨LL, hLL⟩ : ∃ n : Int, n = (((ys ++ pl).length : Nat) : Int) := ⟨_, rfl⟩
    rw [← hLL] at d7
    clear hLL
    obtain ⟨b1, b2, e1, e2, f1, f2, rfl, o8, o9, p8, p9, q8, q9, r8, r9⟩ := d7
    go_upto_region 10 with fail
    have T8 := C3.new w7 (.int .i64 LL) (.slice b1 ws.length e1) (.slice b2 ([] : List Int).length e2) 26
    have m8 : Below w7.heap.size w7 (w7.alloc (.cells #[.int .i64 LL, .slice b1 ws.length e1, .slice b2 ([] : List Int).length e2] 26)) := (Below.refl _ _).alloc (Nat.le_refl _) _
    have N8 := nxt N7 m8
    have o8' := o8.up m8
    have y8 := y7.up m8
    change Code.wp _ _ _ _ (w7.alloc (.cells #[.int .i64 LL, .slice b1 ws.length e1, .slice b2 ([] : List Int).length e2] 26))
    generalize w7.alloc (.cells #[.int .i64 LL, .slice b1 ws.length e1, .slice b2 ([] : List Int).length e2] 26) = w8 at *
    clear o8 m8 y7
    refine region_guard (fun i => [Fact.eq (.pointer (some ⟨w7.heap.size, 2, none⟩)), Fact.eq (.slice b2 0 e2), Fact.eq (.int .i64 0), Fact.eq (.bool true), Fact.eq (.bool true), Fact.eq (.pointer (some ⟨w7.heap.size, 1, none⟩)), Fact.eq (.slice b1 ws.length e1), Fact.eq (.slice a1 ys.length c1), RNh w8.heap.size ys, RNh w8.heap.size ws, Fact.eq (.bool true), Fact.eq (.bool true), Fact.eq (.bool true)].getD i Fact.no) (by kernel_rfl) (by kernel_rfl) ?_ ?_ ?_
    · intro i hi
      have hiN : i < 13 := hi
      obtain rfl | rfl | rfl | rfl | rfl | rfl | rfl | rfl | rfl | rfl | rfl | rfl | rfl : i = 0 ∨ i = 1 ∨ i = 2 ∨ i = 3 ∨ i = 4 ∨ i = 5 ∨ i = 6 ∨ i = 7 ∨ i = 8 ∨ i = 9 ∨ i = 10 ∨ i = 11 ∨ i = 12 := by omega
      · refine step_pure rfl fun A ww hb hw hf => ?_
        have e1 : A.tmps[7]?.getD undef = .pointer (some ⟨w7.heap.size, 0, none⟩) := gdv (hb.2.2 7 (by kernel_rfl))
        exact ⟨.pointer (some ⟨w7.heap.size, 2, none⟩), by simp [go_sem, e1], rfl⟩
      · refine step_pure rfl fun A ww hb hw hf => ?_
        have e3 : A.tmps[59]?.getD undef = .pointer (some ⟨w7.heap.size, 2, none⟩) := gdv (hf 0 59 (by kernel_rfl))
        have hc := (T8.up hw).c2
        exact ⟨.slice b2 0 e2, by simp [go_sem, e3, hc], rfl⟩
      · refine step_pure rfl fun A ww hb hw hf => ?_
        have e3 : A.tmps[60]?.getD undef = .slice b2 0 e2 := gdv (hf 1 60 (by kernel_rfl))
        exact ⟨.int .i64 0, by simp [go_sem, e3], rfl⟩
      · refine step_pure rfl fun A ww hb hw hf => ?_
        have e3 : A.tmps[61]?.getD undef = .int .i64 0 := gdv (hf 2 61 (by kernel_rfl))
        exact ⟨.bool true, by simp [go_sem, e3], rfl⟩
      · refine step_pure rfl fun A ww hb hw hf => ?_
        have e3 : A.tmps[62]?.getD undef = .bool true := gdv (hf 3 62 (by kernel_rfl))
        exact ⟨.bool true, by simp [go_sem, e3], rfl⟩
      · refine step_pure rfl fun A ww hb hw hf => ?_
        have e1 : A.tmps[7]?.getD undef = .pointer (some ⟨w7.heap.size, 0, none⟩) := gdv (hb.2.2 7 (by kernel_rfl))
        exact ⟨.pointer (some ⟨w7.heap.size, 1, none⟩), by simp [go_sem, e1], rfl⟩
      · refine step_pure rfl fun A ww hb hw hf => ?_
        have e3 : A.tmps[64]?.getD undef = .pointer (some ⟨w7.heap.size, 1, none⟩) := gdv (hf 5 64 (by kernel_rfl))
        have hc := (T8.up hw).c1
        exact ⟨.slice b1 ws.length e1, by simp [go_sem, e3, hc], rfl⟩
      · refine step_pure rfl fun A ww hb hw hf => ?_
        have e1 : A.tmps[3]?.getD undef = .slice a1 ys.length c1 := gdv (hb.2.2 3 (by kernel_rfl))
        exact ⟨.slice a1 ys.length c1, by simp [go_sem, e1], rfl⟩
      · refine step_callv rfl 19 _ _ rfl (by kernel_rfl) fun A ww hb hw hf => ?_
        have e9 : A.tmps.getD 66 undef = .slice a1 ys.length c1 := hf 7 66 (by kernel_rfl)
        show Calls Tryd.prog 19 #[A.tmps.getD 66 undef] ww _
        rw [e9]
        exact (lwCopy_any ww g1 a1 c1 ys (y8.up hw).rd p1 (by omega)).mono (by rintro r w' ⟨⟨a1, c1, g1, rfl, o1, p1, q1, r1⟩, n⟩; exact ⟨_, rfl, n, a1, c1, g1, rfl, o1, p1, q1, Nat.le_trans hw.size r1⟩)
      · refine step_callv rfl 21 _ _ rfl (by kernel_rfl) fun A ww hb hw hf => ?_
        obtain ⟨a9, c9, g9, e9, o9, p9, q9, r9⟩ := hf 8 67 (by kernel_rfl)
        show Calls Tryd.prog 21 #[A.tmps.getD 67 undef] ww _
        rw [e9]
        have IH := implHash_32 ww g9 a9 c9 ys o9.rd yb q9 (by omega) (hL.1.up (nxt N8 hw)) (hL.2.up (nxt N8 hw))
        rw [← HWS.out] at IH
        exact IH.mono (by rintro r w' ⟨⟨a1, c1, g1, rfl, o1, p1, q1, r1⟩, n⟩; exact ⟨_, rfl, n, a1, c1, g1, rfl, o1, p1, q1, Nat.le_trans hw.size r1⟩)
      · refine step_callv rfl 20 _ _ rfl (by kernel_rfl) fun A ww hb hw hf => ?_
        have e6 : A.tmps.getD 65 undef = .slice b1 ws.length e1 := hf 6 65 (by kernel_rfl)
        obtain ⟨a9, c9, g9, e9, o9, p9, q9, r9⟩ := hf 9 68 (by kernel_rfl)
        show Calls Tryd.prog 20 #[A.tmps.getD 65 undef, A.tmps.getD 68 undef] ww _
        rw [e6, e9]
        exact (lwSame_same ww f1 g9 b1 a9 e1 c9 ws (o8'.up hw).rd o9.rd).mono (by rintro r w' ⟨rfl, rfl⟩; exact ⟨_, rfl, Below.refl _ _, rfl⟩)
      · exact step_pickT rfl 63 69 4 10 rfl (by kernel_rfl) (by kernel_rfl) rfl rfl rfl
      · refine step_pure rfl fun A ww hb hw hf => ?_
        have e3 : A.tmps[70]?.getD undef = .bool true := gdv (hf 11 70 (by kernel_rfl))
        exact ⟨.bool true, by simp [go_sem, e3], rfl⟩
    · intro i o ho A W hf
      have hiN : i < 13 := (Array.getElem?_eq_some_iff.1 ho).1
      obtain rfl | rfl | rfl | rfl | rfl | rfl | rfl | rfl | rfl | rfl | rfl | rfl | rfl : i = 0 ∨ i = 1 ∨ i = 2 ∨ i = 3 ∨ i = 4 ∨ i = 5 ∨ i = 6 ∨ i = 7 ∨ i = 8 ∨ i = 9 ∨ i = 10 ∨ i = 11 ∨ i = 12 := by omega
      iterate 5 (· cases ho; exact wanted_none rfl)
      iterate 6 (· cases ho; exact wanted_some rfl (by kernel_rfl) (hf 4 63 (by kernel_rfl)))
      iterate 2 (· cases ho; exact wanted_none rfl)
    intro A W4 hb' hw hF
    have e2 := hF 12 2 (by kernel_rfl)
    obtain ⟨vs, hvs⟩ : ∃ vs : Nat → Value, ∀ d, A.tmps.getD d undef = vs d := ⟨_, fun _ => rfl⟩
    rw [hvs] at e2
    rw [puts_guard (md := .any) (by kernel_rfl) rfl hb' vs hvs]
    clear hb' hF hvs
    have e3 : vs 2 = .bool true := e2
    clear e2
    simp only [puts, e3, Act.put, List.setIfInBounds_toArray, List.set_cons_succ, List.set_cons_zero]
    clear e3
    have NN := nxt N8 hw
    go_wp2
    go_ret
    exact ⟨rfl, NN⟩
  · have t1 : decide ((1048576 : Int) < (xs.length : Int)) = true := by simp; omega
    go_enter Tryd.func3, Tryd.ntmps3
    go_wp2
    go_ret
    exact ⟨rfl, Below.refl _ _⟩
end Go.Proofs.YtljpjbojdekeiaaDoor
