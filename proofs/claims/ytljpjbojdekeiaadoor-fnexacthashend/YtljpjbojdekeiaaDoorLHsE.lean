
/-
  The law of HashEnd.
-/
import Derived.Test.YtljpjbojdekeiaaDoorLsM
import Derived.Test.YtljpjbojdekeiaaDoorLaidH
import Derived.Test.YtljpjbojdekeiaaDoorHelp
namespace Go.Proofs.YtljpjbojdekeiaaDoor
set_option maxRecDepth 100000
open Go Go.RowKit

theorem rd_of_row3 {w : World} {a : Option Addr} {len cap : Nat} {zs : List Int}
    (h : (a = none ∧ len = 0 ∧ cap = 0 ∧ zs = []) ∨ ∃ x, a = some x ∧ len ≤ cap ∧ cap ≤ maxLen ∧ zs.length = cap ∧ (∀ i, i < zs.length → w.cell? (x.add i) = some (.int .u8 (zs.getD i 0))) ∧ ∀ n ∈ zs, (Lit.int .u8 n).wf = true) :
    ∃ (g : Nat) (xs : List Int), xs.length = len ∧ Rd w g a .u8 xs ∧ Byt xs ∧ xs.length < 9223372036854775808 := by
  obtain ⟨g, xs, hl, r, b⟩ := rd_of_row h
  refine ⟨g, xs, hl, r, b, ?_⟩
  rcases h with ⟨_, h, _⟩ | ⟨_, _, h1, h2, _⟩
  · omega
  · have : maxLen = 9223372036854775807 := rfl
    omega
theorem laid_hend {W : World} (h : laidMetH Tryd.prog Rows.fnExactHashEndRow.laid W) : HasT W 1 kL := steps_of (reads_ofH h (by kernel_rfl) (.head _))
set_option maxHeartbeats 8000000 in
theorem hend_law (w : World) (L : Int) (g0 : Nat) (a0 : Option Addr) (c0 : Nat) (X0 : List Int) (hX0 : Rd w g0 a0 .u8 X0) (bX0 : Byt X0) (l0 : X0.length < 9223372036854775808) (g1 : Nat) (a1 : Option Addr) (c1 : Nat) (X1 : List Int) (hX1 : Rd w g1 a1 .u8 X1) (bX1 : Byt X1) (l1 : X1.length < 9223372036854775808) (hL : HasT w 1 kL) :
    Calls Tryd.prog 10 #[.agg #[.int .i64 L, .slice a0 X0.length c0, .slice a1 X1.length c1]] w fun e w' => e = .returned (.bool true) ∧ Below w.heap.size w w' := by
  have SZ := fun W => hide (szState_any W L a0 a1 X0.length c0 X1.length c1 1048576 l0 l1 (by decide) (by decide))
  have T0 := C3.new w (.int .i64 L) (.slice a0 X0.length c0) (.slice a1 X1.length c1) 39
  have N : Below w.heap.size w (w.alloc (.cells #[.int .i64 L, .slice a0 X0.length c0, .slice a1 X1.length c1] 39)) := (Below.refl _ _).alloc (Nat.le_refl _) _
  clear l0 l1
  by_cases q : X0.length + X1.length ≤ 1048576
  · have u0 : ¬ ((1048576 : Int) < (X0.length : Int) + (X1.length : Int)) := by omega
    have u1 : decide ((1048576 : Int) - (X0.length : Int) - (X1.length : Int) < 0) = false := by simp; omega
    simp only [if_neg u0] at SZ
    have q0 : X0.length ≤ 1048576 := by omega
    have q1 : X1.length ≤ 1048576 := by omega
    have hy : (endA L X0 X1).length ≤ 1048576 := Nat.le_trans (endA_len _ _ _) (by decide)
    have SP := fun W g g' (h : Blk W g .u8 X0) (h' : Blk W g' .u8 X1) => hide (specEnd_any W L g _ X0.length X0 h.own0.rd bX0 g' (some ⟨g', 0, none⟩) X1.length X1 h'.own0.rd bX1 (by simp))
    have IM := fun W g g' (h : Blk W g .u8 X0) (h' : Blk W g' .u8 X1) (n : Below w.heap.size w W) => hide (implEnd_any W L g _ X0.length X0 h.own0.rd bX0 g' (some ⟨g', 0, none⟩) X1.length X1 h'.own0.rd bX1 (by simp) (hL.up n))
    have TO := fun W (n : Below w.heap.size w W) => hide (toState_any W L g0 g1 a0 a1 c0 c1 X0 X1 (hX0.up n) (hX1.up n) q0 q1)
    have v1 : decide ((1 : Int) + (X0.length : Int) + (X1.length : Int) < 0) = false := by simp; omega
    obtain ⟨ys, hys⟩ : ∃ ys, ys = endA L X0 X1 := ⟨_, rfl⟩
    simp only [← hys] at SP IM hy
    clear hys u0 q hL hX0 hX1
    go_enter Tryd.func10, Tryd.ntmps10
    go_upto_region 2 with fail
    generalize w.alloc (.cells #[.int .i64 L, .slice a0 X0.length c0, .slice a1 X1.length c1] 39) = wa at *
    have x0 := T0.c0
    have x1 := T0.c1
    have x2 := T0.c2
    go_wp2_with fail
    refine (SZ wa).out.mono ?_
    rintro e w1 ⟨rfl, m1⟩
    have lT := T0.lt
    have z1 := m1.size
    replace N := nxt N m1
    replace T0 := T0.up m1
    clear SZ x0 x1 x2 m1
    go_upto_region 5 with fail
    have x0 := T0.c0
    have x1 := T0.c1
    have x2 := T0.c2
    go_wp2_with fail
    refine (TO w1 N).out.mono ?_
    rintro e w2 ⟨⟨v2, rfl, gA, gB, rfl, A0, A1, r1, r2, r3⟩, m2⟩
    have z2 := m2.size
    replace N := nxt N m2
    replace T0 := T0.up m2
    clear x0 x1 x2 m2 r1 r2 r3
    go_wp2_with fail
    refine (SP w2 gA gB A0 A1).out.mono ?_
    rintro e w3 ⟨⟨aS, cS, gS, rfl, oS, pS, kS, rS⟩, m3⟩
    have z3 := m3.size
    have lS := oS.rd.lt
    replace N := nxt N m3
    replace T0 := T0.up m3
    clear A0 A1 m3 pS kS SP
    go_upto_region 6 with fail
    have x0 := T0.c0
    have x1 := T0.c1
    have x2 := T0.c2
    go_wp2_with fail
    refine (TO w3 N).out.mono ?_
    rintro e w4 ⟨⟨v4, rfl, gA, gB, rfl, A0, A1, r1, r2, r3⟩, m4⟩
    have z4 := m4.size
    have T5 := C3.new w4 (.int .i64 L) (.slice (some ⟨gA, 0, none⟩) X0.length X0.length) (.slice (some ⟨gB, 0, none⟩) X1.length X1.length) 26
    have m5 : Below w4.heap.size w4 (w4.alloc (.cells #[.int .i64 L, .slice (some ⟨gA, 0, none⟩) X0.length X0.length, .slice (some ⟨gB, 0, none⟩) X1.length X1.length] 26)) := (Below.refl _ _).alloc (Nat.le_refl _) _
    replace N := nxt N m4
    replace T0 := T0.up m4
    replace oS := oS.up m4
    clear x0 x1 x2 m4
    go_upto_region 7 with fail
    generalize w4.alloc (.cells #[.int .i64 L, .slice (some ⟨gA, 0, none⟩) X0.length X0.length, .slice (some ⟨gB, 0, none⟩) X1.length X1.length] 26) = w5 at *
    have z5 := m5.size
    replace N := nxt N m5
    replace T0 := T0.up m5
    replace oS := oS.up m5
    replace A0 := A0.up m5
    replace A1 := A1.up m5
    clear m5
    have y0 := T5.c0
    have y1 := T5.c1
    have y2 := T5.c2
    go_wp2_with fail
    refine (IM w5 gA gB A0 A1 N).out.mono ?_
    rintro e w6 ⟨⟨aI, cI, gI, rfl, oI, pI, kI, rI⟩, m6⟩
    have z6 := m6.size
    have lI := oI.rd.lt
    replace N := nxt N m6
    replace T0 := T0.up m6
    replace T5 := T5.up m6
    replace oS := oS.up m6
    replace A0 := A0.up m6
    replace A1 := A1.up m6
    clear m6 pI kI y0 y1 y2
    go_wp2_with fail
    refine (eqByteS_same w6 _ _ _ _ _ _ ys oI.rd oS.rd hy).mono ?_
    rintro e w7 ⟨rfl, m7⟩
    have z7 := m7.size
    replace N := nxt N m7
    replace T0 := T0.up m7
    replace T5 := T5.up m7
    replace oS := oS.up m7
    replace oI := oI.up m7
    replace A0 := A0.up m7
    replace A1 := A1.up m7
    clear m7
    go_upto_region 10 with fail
    have nd : Below w7.heap.size w7 w7.drew := (Below.refl _ _).drew
    have CY : Hid (∀ W, Below w7.heap.size w7 W → (W.cell? ⟨w4.heap.size, 0, none⟩ = some (.int .i64 L) ∧ W.cell? ⟨w4.heap.size, 1, none⟩ = some (.slice (some ⟨gA, 0, none⟩) X0.length X0.length) ∧ W.cell? ⟨w4.heap.size, 2, none⟩ = some (.slice (some ⟨gB, 0, none⟩) X1.length X1.length)) ∧ (W.cell? ⟨w.heap.size, 0, none⟩ = some (.int .i64 L) ∧ W.cell? ⟨w.heap.size, 1, none⟩ = some (.slice a0 X0.length c0) ∧ W.cell? ⟨w.heap.size, 2, none⟩ = some (.slice a1 X1.length c1))) := fun W n => ⟨⟨(T5.up n).c0, (T5.up n).c1, (T5.up n).c2⟩, ⟨(T0.up n).c0, (T0.up n).c1, (T0.up n).c2⟩⟩
    have TO2 : Hid (∀ W, Below w7.heap.size w7 W → Calls Tryd.prog 30 #[.agg #[.int .i64 L, .slice a0 X0.length c0, .slice a1 X1.length c1]] W fun e w' => (∃ gC gD, e = .returned (.agg #[.int .i64 L, .slice (some ⟨gC, 0, none⟩) X0.length X0.length, .slice (some ⟨gD, 0, none⟩) X1.length X1.length]) ∧ Blk w' gC .u8 X0 ∧ Blk w' gD .u8 X1) ∧ Below w7.heap.size w7 w') := fun W n => (TO W (nxt N n)).out.mono (by
      rintro e w' ⟨⟨v4, rfl, gA, gB, rfl, A0, A1, r1, r2, r3⟩, m4⟩
      exact ⟨⟨gA, gB, rfl, A0, A1⟩, nxt n m4⟩)
    have EQ : Hid (∀ W gC gD, Below w7.heap.size w7 W → Blk W gC .u8 X0 → Blk W gD .u8 X1 → Calls Tryd.prog 32 #[.agg #[.int .i64 L, .slice (some ⟨gA, 0, none⟩) X0.length X0.length, .slice (some ⟨gB, 0, none⟩) X1.length X1.length], .agg #[.int .i64 L, .slice (some ⟨gC, 0, none⟩) X0.length X0.length, .slice (some ⟨gD, 0, none⟩) X1.length X1.length]] W fun e w' => e = .returned (.bool true) ∧ Below w7.heap.size w7 w') := fun W gC gD n h h' => (eqState_same W L _ _ _ _ _ _ _ _ _ _ _ _ X0 X1 (A0.up n).own0.rd (A1.up n).own0.rd h.own0.rd h'.own0.rd q0 q1).mono (by
      rintro e w' ⟨rfl, m⟩
      exact ⟨rfl, nxt n m⟩)
    go_cut [31] (fun v wc => v = .bool false ∧ Below w7.heap.size w7 wc)
    case first =>
      clear T0 T5 oS oI A0 A1 N TO IM
      go_region_held3 (fun W => (W.cell? ⟨w4.heap.size, 0, none⟩ = some (.int .i64 L) ∧ W.cell? ⟨w4.heap.size, 1, none⟩ = some (.slice (some ⟨gA, 0, none⟩) X0.length X0.length) ∧ W.cell? ⟨w4.heap.size, 2, none⟩ = some (.slice (some ⟨gB, 0, none⟩) X1.length X1.length)) ∧ (W.cell? ⟨w.heap.size, 0, none⟩ = some (.int .i64 L) ∧ W.cell? ⟨w.heap.size, 1, none⟩ = some (.slice a0 X0.length c0) ∧ W.cell? ⟨w.heap.size, 2, none⟩ = some (.slice a1 X1.length c1)))
        (first | exact (unhide CY) _ b9 | exact (unhide CY) _ b8 | exact (unhide CY) _ nd)
        (first
          | (go_at_call 30; refine ((unhide TO2) _ nd).mono ?_; rintro r w8 ⟨⟨gC, gD, rfl, E0, E1⟩, b8⟩)
          | (go_at_call 32; refine ((unhide EQ) _ _ _ b8 E0 E1).mono ?_; rintro r w9 ⟨rfl, b9⟩)
          | fail)
      all_goals
        go_wp2_with fail
        go_meet
        exact ⟨rfl, b9⟩
    case rest =>
      obtain ⟨rfl, m8⟩ := hcut
      have z8 := m8.size
      replace N := nxt N m8
      replace T0 := T0.up m8
      replace T5 := T5.up m8
      replace oS := oS.up m8
      replace oI := oI.up m8
      replace A0 := A0.up m8
      replace A1 := A1.up m8
      clear m8 CY TO2 EQ nd
      go_upto_region 13 with fail
      have y0 := T5.c0
      have y1 := T5.c1
      have y2 := T5.c2
      go_wp2_with fail
      refine (markState_any wc L gA gB X0 X1 1 A0 A1 (by omega) q0 q1 (by decide) (by decide)).mono ?_
      rintro e w9 ⟨rfl, m9⟩
      have z9 := m9.size
      have lT0 := T0.lt
      replace T0 := T0.of_block (m9.block w.heap.size T0.lt (by omega) (by omega))
      replace oS := oS.bt2 m9 (fun h => by have := lS h; omega)
      replace oI := oI.bt2 m9 (fun h => by have := lI h; omega)
      replace N := N.trans (m9.below (B := w.heap.size) (by omega) (by omega) (by omega))
      clear m9 A0 A1 y0 y1 y2 T5
      go_wp2_with fail
      refine (eqByteS_same w9 _ _ _ _ _ _ ys oI.rd oS.rd hy).mono ?_
      rintro e w10 ⟨rfl, m10⟩
      have z10 := m10.size
      replace N := nxt N m10
      replace T0 := T0.up m10
      replace oS := oS.up m10
      replace oI := oI.up m10
      clear m10
      go_wp2_with fail
      refine (markByteS_any w10 _ _ _ ys 1 oI hy (by decide) (by decide)).mono ?_
      rintro e w11 ⟨rfl, oA, OA⟩
      replace N := N.trans (OA.below (B := w.heap.size) (by omega))
      replace oS := oS.only OA (fun h => by have := lS h; omega)
      replace T0 := T0.of_block (OA.block w.heap.size (by omega))
      have v2 : decide ((1 : Int) + (ys.length : Int) < 0) = false := by simp; omega
      clear oI OA
      go_wp2_with fail
      refine (heldByteS_any w11 _ _ _ ys.length 1 oA.rd hy (by decide) (by decide)).mono ?_
      rintro e w12 ⟨rfl, rfl⟩
      go_upto_region 24 with fail
      have x0 := T0.c0
      have x1 := T0.c1
      have x2 := T0.c2
      go_wp2_with fail
      refine (TO w12 N).out.mono ?_
      rintro e w13 ⟨⟨v13, rfl, hA, hB, rfl, D0, D1, t1, t2, t3⟩, m13⟩
      replace N := nxt N m13
      replace oS := oS.up m13
      replace oA := oA.up m13
      clear m13 x0 x1 x2 T0 t1 t2 t3
      go_wp2_with fail
      refine (IM w13 hA hB D0 D1 N).out.mono ?_
      rintro e w14 ⟨⟨aJ, cJ, gJ, rfl, oJ, pJ, kJ, rJ⟩, m14⟩
      replace N := nxt N m14
      replace oS := oS.up m14
      replace oA := oA.up m14
      clear m14 pJ kJ rJ
      go_wp2_with fail
      refine (eqByteS_same w14 _ _ _ _ _ _ ys oJ.rd oS.rd hy).mono ?_
      rintro e w15 ⟨rfl, m15⟩
      replace N := nxt N m15
      replace oA := oA.up m15
      clear m15
      go_wp2_with fail
      refine (heldByteS_any w15 _ _ _ ys.length 1 oA.rd hy (by decide) (by decide)).mono ?_
      rintro e w16 ⟨rfl, rfl⟩
      go_wp2
      go_ret
      exact ⟨rfl, N⟩
  · have u0 : ((1048576 : Int) < (X0.length : Int) + (X1.length : Int)) := by omega
    simp only [if_pos u0] at SZ
    clear u0 q
    go_enter Tryd.func10, Tryd.ntmps10
    go_upto_region 2 with fail
    generalize w.alloc (.cells #[.int .i64 L, .slice a0 X0.length c0, .slice a1 X1.length c1] 39) = wa at *
    have x0 := T0.c0
    have x1 := T0.c1
    have x2 := T0.c2
    go_wp2_with fail
    refine (SZ wa).out.mono ?_
    rintro e w1 ⟨rfl, m1⟩
    replace N := nxt N m1
    clear x0 x1 x2
    go_wp2
    go_ret
    exact ⟨rfl, N⟩
end Go.Proofs.YtljpjbojdekeiaaDoor
