
/-
  The law of EncodeRecord (written by gens/lx.py).
-/
import Derived.Test.YtcempddbcfigbaaDoorRcB
import Derived.Test.YtcempddbcfigbaaDoorRcC
import Derived.Test.YtcempddbcfigbaaDoorRdR
namespace Go.Proofs.YtcempddbcfigbaaDoor
set_option maxRecDepth 100000
open Go Go.RowKit

/-- The two errors that EncodeRecord reads. -/
def HasR2 (W : World) : Prop := ∃ a1 a2, Sen W 1 a1 ∧ Sen W 2 a2
theorem laid_encR {W : World} (h : laidMetH Tryd.prog Rows.fnExactEncodeRecordRow.laid W) : HasR2 W := by
  obtain ⟨a1, a2, h1, h2, _⟩ := sen_pair h (by kernel_rfl) (n0 := "loop.example/g00004/impl.errNoKind") (n1 := "loop.example/g00004/impl.errWrongSize") (.cons_cons _ (.cons_cons _ .slnil)) (g0 := 1) (g1 := 2) (by kernel_rfl) (by kernel_rfl) (by kernel_rfl) (by kernel_rfl)
  exact ⟨a1, a2, h1, h2⟩
set_option maxHeartbeats 8000000 in
theorem encR_law (w : World) (n0 : Int) (g0 : Nat) (a0 : Option Addr) (c0 : Nat) (X0 : List Int) (hX0 : Rd w g0 a0 .u8 X0) (_bX0 : Byt X0) (lX0 : X0.length < 9223372036854775808) (hL : HasR2 w) :
    Calls Tryd.prog 3 #[.agg #[.int .i64 n0, .slice a0 X0.length c0]] w fun e w' => e = .returned (.bool true) ∧ Below w.heap.size w w' := by
  by_cases qs : X0.length ≤ 1048576
  · skip
    have SZ := fun W => hide (szRecord_any W n0 a0 X0.length c0 1048576 lX0 (by decide) (by decide))
    simp only [if_neg (show ¬ ((1048576 : Int) < (X0.length : Int)) by omega)] at SZ
    have us : decide ((1048576 : Int) - (X0.length : Int) < 0) = false := by simp; omega
    obtain ⟨a1, a2, h1, h2⟩ := hL
    have hL : True := trivial
    have SP : ∀ W g a c, Rd W g a .u8 X0 → (a = none → c = 0) → X0.length ≤ c → Calls Tryd.prog 7 #[.agg #[.int .i64 n0, .slice a X0.length c]] W fun e w' => NewRow W.heap.size w' e .u8 (enA n0 X0) ∧ Below W.heap.size W w' := fun W g a c h p _ => (specEncode_any W n0 g a c X0 h p).mono (by rintro e w' ⟨v, rfl, R, n⟩; obtain ⟨x1, x2, x3, rfl, x4⟩ := R.own; exact ⟨⟨x1, x2, x3, rfl, x4⟩, n⟩)
    have IM : ∀ W g a c, Rd W g a .u8 X0 → (a = none → c = 0) → X0.length ≤ c → Below w.heap.size w W → Calls Tryd.prog 9 #[.agg #[.int .i64 n0, .slice a X0.length c]] W fun e w' => NewRow W.heap.size w' e .u8 (enA n0 X0) ∧ Below W.heap.size W w' := fun W g a c h p _ m => (implEncode_any W n0 g a c X0 h p a1 a2 (h1.up m) (h2.up m)).mono (by rintro e w' ⟨v, rfl, R, n⟩; obtain ⟨x1, x2, x3, rfl, x4⟩ := R.own; exact ⟨⟨x1, x2, x3, rfl, x4⟩, n⟩)
    clear h1 h2
    have hy : (enA n0 X0).length ≤ 1048576 := Nat.le_trans (enA_len n0 X0) (by decide)
    obtain ⟨ys, hys⟩ : ∃ ys, ys = enA n0 X0 := ⟨_, rfl⟩
    simp only [← hys] at SP IM hy
    clear hys
    clear hL
    go_enter Tryd.func3, Tryd.ntmps3
    go_upto_region 1 with fail
    have B : RwC (w.alloc (.cells #[.int .i64 n0, .slice a0 X0.length c0] 24)) w.heap.size [.int .i64 n0, .slice a0 X0.length c0] 24 := RwC.new w _ _
    have N : Below w.heap.size w (w.alloc (.cells #[.int .i64 n0, .slice a0 X0.length c0] 24)) := (Below.refl _ _).alloc (Nat.le_refl _) _
    have zN : (w.alloc (.cells #[.int .i64 n0, .slice a0 X0.length c0] 24)).heap.size = w.heap.size + 1 := by simp
    generalize w.alloc (.cells #[.int .i64 n0, .slice a0 X0.length c0] 24) = w0 at *
    have lB : w.heap.size < w0.heap.size := by omega
    clear zN
    have Bc0 := B.c0
    have Bc1 := B.c1
    go_wp2_with fail
    refine ((SZ w0).out).mono ?_
    rintro e w1 ⟨rfl, m1⟩
    have zm1 := m1.size
    clear Bc0 Bc1
    replace B := B.up m1
    replace N := nxt N m1
    clear m1
    have Bc0 := B.c0
    have Bc1 := B.c1
    go_wp2_with fail
    refine (toRecord_any w1 n0 g0 a0 c0 X0 (hX0.up N) (by omega)).mono ?_
    rintro e w2 ⟨m0, rfl, mB0, ymB0, m2⟩
    have zm2 := m2.size
    clear Bc0 Bc1
    replace B := B.up m2
    replace N := nxt N m2
    clear m2
    have lmB0 := mB0.lt
    go_wp2_with fail
    refine (SP w2 _ _ _ mB0.own0.rd (by simp) (Nat.le_refl _)).mono ?_
    rintro e w3 ⟨⟨aoS, coS, goS, rfl, oS, poS, koS, roS⟩, m3⟩
    have zm3 := m3.size
    replace B := B.up m3
    replace mB0 := mB0.up m3
    replace N := nxt N m3
    clear m3
    have loS := oS.rd.lt
    clear poS koS
    clear mB0
    have Bc0 := B.c0
    have Bc1 := B.c1
    go_wp2_with fail
    refine (toRecord_any w3 n0 g0 a0 c0 X0 (hX0.up N) (by omega)).mono ?_
    rintro e w4 ⟨x0, rfl, xB0, yxB0, m4⟩
    have zm4 := m4.size
    clear Bc0 Bc1
    replace B := B.up m4
    replace oS := oS.up m4
    replace N := nxt N m4
    clear m4
    have lxB0 := xB0.lt
    have Tx : RwC (w4.alloc (.cells #[.int .i64 n0, .slice (some ⟨x0, 0, none⟩) X0.length X0.length] 27)) w4.heap.size [.int .i64 n0, .slice (some ⟨x0, 0, none⟩) X0.length X0.length] 27 := RwC.new w4 _ _
    have m5 : Below w4.heap.size w4 (w4.alloc (.cells #[.int .i64 n0, .slice (some ⟨x0, 0, none⟩) X0.length X0.length] 27)) := (Below.refl _ _).alloc (Nat.le_refl _) _
    have zm5 := m5.size
    obtain ⟨pTx, eTx⟩ : ∃ b, b = w4.heap.size := ⟨_, rfl⟩
    have yTx : w4.heap.size ≤ pTx := Nat.le_of_eq eTx.symm
    replace B := B.up m5
    replace oS := oS.up m5
    replace xB0 := xB0.up m5
    replace N := nxt N m5
    clear m5
    have Txc0 := Tx.c0
    have Txc1 := Tx.c1
    go_wp2_with fail
    generalize w4.alloc (.cells #[.int .i64 n0, .slice (some ⟨x0, 0, none⟩) X0.length X0.length] 27) = w5 at *
    rw [← eTx] at Tx ⊢
    have lTx := Tx.lt
    clear eTx
    refine (IM w5 _ _ _ xB0.own0.rd (by simp) (Nat.le_refl _) N).mono ?_
    rintro e w6 ⟨⟨aoI, coI, goI, rfl, oI, poI, koI, roI⟩, m6⟩
    have zm6 := m6.size
    clear Txc0 Txc1
    replace B := B.up m6
    replace oS := oS.up m6
    replace xB0 := xB0.up m6
    replace Tx := Tx.up m6
    replace N := nxt N m6
    clear m6
    have loI := oI.rd.lt
    clear poI koI
    go_wp2_with fail
    refine (eqByteS_same w6 _ _ _ _ _ _ ys oI.rd oS.rd hy).mono ?_
    rintro e w7 ⟨rfl, m7⟩
    have zm7 := m7.size
    replace B := B.up m7
    replace oS := oS.up m7
    replace xB0 := xB0.up m7
    replace Tx := Tx.up m7
    replace oI := oI.up m7
    replace N := nxt N m7
    clear m7
    go_upto_region 10 with fail
    have CY : Hid (∀ W, Below w7.heap.size w7 W → (W.cell? ⟨pTx, 0, none⟩ = some (.int .i64 n0) ∧ W.cell? ⟨pTx, 1, none⟩ = some (.slice (some ⟨x0, 0, none⟩) X0.length X0.length) ∧ W.cell? ⟨w.heap.size, 0, none⟩ = some (.int .i64 n0) ∧ W.cell? ⟨w.heap.size, 1, none⟩ = some (.slice a0 X0.length c0))) := fun W m => ⟨(Tx.up m).c0, (Tx.up m).c1, (B.up m).c0, (B.up m).c1⟩
    have TO : Hid (∀ W, Below w7.heap.size w7 W → Calls Tryd.prog 8 #[.agg #[.int .i64 n0, .slice a0 X0.length c0]] W fun e w' => ∃ f0, e = .returned (.agg #[.int .i64 n0, .slice (some ⟨f0, 0, none⟩) X0.length X0.length]) ∧ Blk w' f0 .u8 X0 ∧ Below w7.heap.size w7 w') := fun W m => (toRecord_any W n0 g0 a0 c0 X0 ((hX0.up N).up m) (by omega)).mono (by
      rintro e w' ⟨f0, rfl, h0, _, l⟩
      exact ⟨f0, rfl, h0, nxt m l⟩)
    have EQ : Hid (∀ W f0, Below w7.heap.size w7 W → Blk W f0 .u8 X0 → Calls Tryd.prog 11 #[.agg #[.int .i64 n0, .slice (some ⟨x0, 0, none⟩) X0.length X0.length], .agg #[.int .i64 n0, .slice (some ⟨f0, 0, none⟩) X0.length X0.length]] W fun e w' => e = .returned (.bool true) ∧ Below w7.heap.size w7 w') := fun W f0 m h0 => (eqRecord_same W n0 _ _ _ _ _ _ X0 (xB0.up m).own0.rd h0.own0.rd (by omega)).mono (by
      rintro e w' ⟨rfl, l⟩
      exact ⟨rfl, nxt m l⟩)
    have nd : Below w7.heap.size w7 w7.drew := (Below.refl _ _).drew
    go_region_held3 (fun W => W.cell? ⟨pTx, 0, none⟩ = some (.int .i64 n0) ∧ W.cell? ⟨pTx, 1, none⟩ = some (.slice (some ⟨x0, 0, none⟩) X0.length X0.length) ∧ W.cell? ⟨w.heap.size, 0, none⟩ = some (.int .i64 n0) ∧ W.cell? ⟨w.heap.size, 1, none⟩ = some (.slice a0 X0.length c0))
      (first | exact (unhide CY) _ m8 | exact (unhide CY) _ bt | exact (unhide CY) _ nd)
      (first
        | (go_at_call 11; refine ((unhide EQ) _ _ bt ft0).mono ?_; rintro r w8 ⟨rfl, m8⟩)
        | (go_at_call 8; refine ((unhide TO) _ nd).mono ?_; rintro r wt ⟨f0, rfl, ft0, bt⟩)
        | fail)
    have zm8 := m8.size
    clear bt nd CY TO EQ ft0
    replace B := B.up m8
    replace oS := oS.up m8
    replace xB0 := xB0.up m8
    replace Tx := Tx.up m8
    replace oI := oI.up m8
    replace N := nxt N m8
    clear m8
    have Txc0 := Tx.c0
    have Txc1 := Tx.c1
    go_wp2_with fail
    refine (markRecord_any w8 n0 _ _ _ X0 (1) xB0.own0 (by omega) (by omega) (by omega)).mono ?_
    rintro e w9 ⟨rfl, O⟩
    clear Txc0 Txc1
    clear xB0
    clear Tx
    replace B := B.tch O (by simp; omega)
    replace oS := oS.tch O (fun h => by have := loS h; simp; omega)
    replace oI := oI.tch O (fun h => by have := loI h; simp; omega)
    have NN := N.size
    replace N := N.trans (O.below (B := w.heap.size) (by omega) (by simp; omega))
    have zm9 := O.size
    clear O NN
    have v1 : decide (1 + (X0.length : Int) < 0) = false := by simp; omega
    go_wp2_with fail
    refine (eqByteS_same w9 _ _ _ _ _ _ ys oI.rd oS.rd hy).mono ?_
    rintro e w10 ⟨rfl, m10⟩
    have zm10 := m10.size
    replace B := B.up m10
    replace oS := oS.up m10
    replace oI := oI.up m10
    replace N := nxt N m10
    clear m10
    go_wp2_with fail
    refine (markByteS_any w10 _ _ _ ys 1 oI hy (by decide) (by decide)).mono ?_
    rintro e w11 ⟨rfl, oA, O⟩
    have O := Tch.of_only O
    clear oI
    replace B := B.tch O (by simp; omega)
    replace oS := oS.tch O (fun h => by have := loS h; simp; omega)
    have NN := N.size
    replace N := N.trans (O.below (B := w.heap.size) (by omega) (by simp; omega))
    have zm11 := O.size
    clear O NN
    have loA := oA.rd.lt
    have v2 : decide ((1 : Int) + (ys.length : Int) < 0) = false := by simp; omega
    go_wp2_with fail
    refine (heldByteS_any w11 _ _ _ ys.length 1 oA.rd hy (by decide) (by decide)).mono ?_
    rintro e w12 ⟨rfl, rfl⟩
    have Bc0 := B.c0
    have Bc1 := B.c1
    go_wp2_with fail
    refine (toRecord_any w12 n0 g0 a0 c0 X0 (hX0.up N) (by omega)).mono ?_
    rintro e w13 ⟨d0, rfl, dB0, ydB0, m13⟩
    have zm13 := m13.size
    clear Bc0 Bc1
    replace B := B.up m13
    replace oS := oS.up m13
    replace oA := oA.up m13
    replace N := nxt N m13
    clear m13
    have ldB0 := dB0.lt
    go_wp2_with fail
    refine (IM w13 _ _ _ dB0.own0.rd (by simp) (Nat.le_refl _) N).mono ?_
    rintro e w14 ⟨⟨aoJ, coJ, goJ, rfl, oJ, poJ, koJ, roJ⟩, m14⟩
    have zm14 := m14.size
    replace B := B.up m14
    replace oS := oS.up m14
    replace oA := oA.up m14
    replace dB0 := dB0.up m14
    replace N := nxt N m14
    clear m14
    have loJ := oJ.rd.lt
    clear poJ koJ
    clear dB0
    go_wp2_with fail
    refine (eqByteS_same w14 _ _ _ _ _ _ ys oJ.rd oS.rd hy).mono ?_
    rintro e w15 ⟨rfl, m15⟩
    have zm15 := m15.size
    replace B := B.up m15
    replace oS := oS.up m15
    replace oA := oA.up m15
    replace oJ := oJ.up m15
    replace N := nxt N m15
    clear m15
    go_wp2_with fail
    refine (heldByteS_any w15 _ _ _ ys.length 1 oA.rd hy (by decide) (by decide)).mono ?_
    rintro e w16 ⟨rfl, rfl⟩
    go_wp2
    go_ret
    exact ⟨rfl, N⟩
  · skip
    have SZ := fun W => hide (szRecord_any W n0 a0 X0.length c0 1048576 lX0 (by decide) (by decide))
    simp only [if_pos (show ((1048576 : Int) < (X0.length : Int)) by omega)] at SZ
    go_enter Tryd.func3, Tryd.ntmps3
    go_upto_region 1 with fail
    have B : RwC (w.alloc (.cells #[.int .i64 n0, .slice a0 X0.length c0] 24)) w.heap.size [.int .i64 n0, .slice a0 X0.length c0] 24 := RwC.new w _ _
    have N : Below w.heap.size w (w.alloc (.cells #[.int .i64 n0, .slice a0 X0.length c0] 24)) := (Below.refl _ _).alloc (Nat.le_refl _) _
    have zN : (w.alloc (.cells #[.int .i64 n0, .slice a0 X0.length c0] 24)).heap.size = w.heap.size + 1 := by simp
    generalize w.alloc (.cells #[.int .i64 n0, .slice a0 X0.length c0] 24) = w0 at *
    have lB : w.heap.size < w0.heap.size := by omega
    clear zN
    have Bc0 := B.c0
    have Bc1 := B.c1
    go_wp2_with fail
    refine ((SZ w0).out).mono ?_
    rintro e w1 ⟨rfl, m1⟩
    have zm1 := m1.size
    clear Bc0 Bc1
    replace B := B.up m1
    replace N := nxt N m1
    clear m1
    go_wp2
    go_ret
    exact ⟨rfl, N⟩
end Go.Proofs.YtcempddbcfigbaaDoor
