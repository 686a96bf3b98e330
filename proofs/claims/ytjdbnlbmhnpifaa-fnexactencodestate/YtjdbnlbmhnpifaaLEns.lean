
/-
  The law of EncodeState (written by gens/lx.py).
-/
import Derived.Test.YtjdbnlbmhnpifaaSeS
import Derived.Test.YtjdbnlbmhnpifaaTsC
import Derived.Test.YtjdbnlbmhnpifaaRdR
import Derived.Deep.RegionHeld3
namespace Go.Proofs.Ytjdbnlbmhnpifaa
open Go Go.RowKit

set_option maxHeartbeats 8000000 in
theorem ens_law (w : World) (g0 : Nat) (a0 : Option Addr) (c0 : Nat) (X0 : List Int) (hX0 : Rd w g0 a0 .u8 X0) (_bX0 : Byt X0) (lX0 : X0.length < 9223372036854775808) (g0' : Nat) (a0' : Option Addr) (c0' : Nat) (X0' : List Int) (hX0' : Rd w g0' a0' .u8 X0') (_bX0' : Byt X0') (lX0' : X0'.length < 9223372036854775808) (n0 : Int) (_bn0 : (Lit.int .i64 n0).wf = true) (n0' : Int) (_bn0' : (Lit.int .i64 n0').wf = true) (t0 : ByteArray) (wt0 : t0.size ≤ maxLen) (t0' : ByteArray) (wt0' : t0'.size ≤ maxLen) (n0'' : Int) (_bn0'' : (Lit.int .i64 n0'').wf = true) :
    Calls Try.prog 4 #[.agg #[.slice a0 X0.length c0, .slice a0' X0'.length c0', .int .i64 n0, .int .i64 n0', .string t0, .string t0', .int .i64 n0'']] w fun e w' => e = .returned (.bool true) ∧ Below w.heap.size w w' := by
  have lt0 : t0.size < 9223372036854775808 := by unfold maxLen at wt0; omega
  clear wt0
  have lt0' : t0'.size < 9223372036854775808 := by unfold maxLen at wt0'; omega
  clear wt0'
  by_cases qs : X0.length + X0'.length + t0.size + t0'.size ≤ 1048576
  · skip
    have SZ := fun W => hide (szTicketState_any W n0 n0' t0 t0' n0'' a0 X0.length c0 a0' X0'.length c0' 1048576 lX0 lX0' lt0 lt0' (by decide) (by decide))
    simp only [if_neg (show ¬ ((1048576 : Int) < (X0.length : Int) + (X0'.length : Int) + (t0.size : Int) + (t0'.size : Int)) by omega)] at SZ
    have us : decide ((1048576 : Int) - (X0.length : Int) - (X0'.length : Int) - (t0.size : Int) - (t0'.size : Int) < 0) = false := by simp; omega
    have h4 : t0.data.toList.length ≤ 1048576 := by show t0.size ≤ _; omega
    have h5 : t0'.data.toList.length ≤ 1048576 := by show t0'.size ≤ _; omega
    have SP : ∀ W g a c, Rd W g a .u8 X0 → (a = none → c = 0) → X0.length ≤ c → ∀ g' a' c', Rd W g' a' .u8 X0' → (a' = none → c' = 0) → X0'.length ≤ c' → Calls Try.prog 11 #[.agg #[.slice a X0.length c, .slice a' X0'.length c', .int .i64 n0, .int .i64 n0', .string t0, .string t0', .int .i64 n0'']] W fun e w' => NewRow W.heap.size w' e .u8 (esA X0 X0' n0 n0' t0.data.toList t0'.data.toList n0'') ∧ Below W.heap.size W w' := fun W g a c h p _ g' a' c' h' p' _ => (specEnS_any W n0 n0' t0.data.toList t0'.data.toList n0'' g a c X0 h p g' a' c' X0' h' p' h4 h5).mono (by rintro e w' ⟨v, rfl, R, n⟩; obtain ⟨x1, x2, x3, rfl, x4⟩ := R.own; exact ⟨⟨x1, x2, x3, rfl, x4⟩, n⟩)
    have IM : ∀ W g a c, Rd W g a .u8 X0 → (a = none → c = 0) → X0.length ≤ c → ∀ g' a' c', Rd W g' a' .u8 X0' → (a' = none → c' = 0) → X0'.length ≤ c' → Below w.heap.size w W → Calls Try.prog 12 #[.agg #[.slice a X0.length c, .slice a' X0'.length c', .int .i64 n0, .int .i64 n0', .string t0, .string t0', .int .i64 n0'']] W fun e w' => NewRow W.heap.size w' e .u8 (esA X0 X0' n0 n0' t0.data.toList t0'.data.toList n0'') ∧ Below W.heap.size W w' := fun W g a c h p _ g' a' c' h' p' _ _ => (implEnS_any W n0 n0' t0.data.toList t0'.data.toList n0'' g a c X0 h p g' a' c' X0' h' p' h4 h5).mono (by rintro e w' ⟨v, rfl, R, n⟩; obtain ⟨x1, x2, x3, rfl, x4⟩ := R.own; exact ⟨⟨x1, x2, x3, rfl, x4⟩, n⟩)
    clear h4 h5
    have hy : (esA X0 X0' n0 n0' t0.data.toList t0'.data.toList n0'').length ≤ 1048576 := Nat.le_trans (esA_len _ _ _ _ _ _ _) (by decide)
    obtain ⟨ys, hys⟩ : ∃ ys, ys = esA X0 X0' n0 n0' t0.data.toList t0'.data.toList n0'' := ⟨_, rfl⟩
    simp only [← hys] at SP IM hy
    clear hys
    go_enter Try.func4, Try.ntmps4
    go_upto_region 1 with fail
    have B : RwC (w.alloc (.cells #[.slice a0 X0.length c0, .slice a0' X0'.length c0', .int .i64 n0, .int .i64 n0', .string t0, .string t0', .int .i64 n0''] 24)) w.heap.size [.slice a0 X0.length c0, .slice a0' X0'.length c0', .int .i64 n0, .int .i64 n0', .string t0, .string t0', .int .i64 n0''] 24 := RwC.new w _ _
    have N : Below w.heap.size w (w.alloc (.cells #[.slice a0 X0.length c0, .slice a0' X0'.length c0', .int .i64 n0, .int .i64 n0', .string t0, .string t0', .int .i64 n0''] 24)) := (Below.refl _ _).alloc (Nat.le_refl _) _
    have zN : (w.alloc (.cells #[.slice a0 X0.length c0, .slice a0' X0'.length c0', .int .i64 n0, .int .i64 n0', .string t0, .string t0', .int .i64 n0''] 24)).heap.size = w.heap.size + 1 := by simp
    generalize w.alloc (.cells #[.slice a0 X0.length c0, .slice a0' X0'.length c0', .int .i64 n0, .int .i64 n0', .string t0, .string t0', .int .i64 n0''] 24) = w0 at *
    have lB : w.heap.size < w0.heap.size := by omega
    clear zN
    have Bc0 := B.cell 0
    have Bc1 := B.cell 1
    have Bc2 := B.cell 2
    have Bc3 := B.cell 3
    have Bc4 := B.cell 4
    have Bc5 := B.cell 5
    have Bc6 := B.cell 6
    go_wp2_with fail
    refine ((SZ w0).out).mono ?_
    rintro e w1 ⟨rfl, m1⟩
    have zm1 := m1.size
    clear Bc0 Bc1 Bc2 Bc3 Bc4 Bc5 Bc6
    replace B := B.up m1
    replace N := nxt N m1
    clear m1
    have Bc0 := B.cell 0
    have Bc1 := B.cell 1
    have Bc2 := B.cell 2
    have Bc3 := B.cell 3
    have Bc4 := B.cell 4
    have Bc5 := B.cell 5
    have Bc6 := B.cell 6
    go_wp2_with fail
    refine (toTicketState_any w1 n0 n0' t0 t0' n0'' g0 a0 c0 X0 g0' a0' c0' X0' (hX0.up N) (hX0'.up N) (by omega) (by omega)).mono ?_
    rintro e w2 ⟨m0, m0', rfl, mB0, mB0', ymB0, ymB0', m2⟩
    have zm2 := m2.size
    clear Bc0 Bc1 Bc2 Bc3 Bc4 Bc5 Bc6
    replace B := B.up m2
    replace N := nxt N m2
    clear m2
    have lmB0 := mB0.lt
    have lmB0' := mB0'.lt
    go_wp2_with fail
    refine (SP w2 _ _ _ mB0.own0.rd (by simp) (Nat.le_refl _) _ _ _ mB0'.own0.rd (by simp) (Nat.le_refl _)).mono ?_
    rintro e w3 ⟨⟨aoS, coS, goS, rfl, oS, poS, koS, roS⟩, m3⟩
    have zm3 := m3.size
    replace B := B.up m3
    replace mB0 := mB0.up m3
    replace mB0' := mB0'.up m3
    replace N := nxt N m3
    clear m3
    have loS := oS.rd.lt
    clear poS koS
    clear mB0 mB0'
    have Bc0 := B.cell 0
    have Bc1 := B.cell 1
    have Bc2 := B.cell 2
    have Bc3 := B.cell 3
    have Bc4 := B.cell 4
    have Bc5 := B.cell 5
    have Bc6 := B.cell 6
    go_wp2_with fail
    refine (toTicketState_any w3 n0 n0' t0 t0' n0'' g0 a0 c0 X0 g0' a0' c0' X0' (hX0.up N) (hX0'.up N) (by omega) (by omega)).mono ?_
    rintro e w4 ⟨x0, x0', rfl, xB0, xB0', yxB0, yxB0', m4⟩
    have zm4 := m4.size
    clear Bc0 Bc1 Bc2 Bc3 Bc4 Bc5 Bc6
    replace B := B.up m4
    replace oS := oS.up m4
    replace N := nxt N m4
    clear m4
    have lxB0 := xB0.lt
    have lxB0' := xB0'.lt
    have Tx : RwC (w4.alloc (.cells #[.slice (some ⟨x0, 0, none⟩) X0.length X0.length, .slice (some ⟨x0', 0, none⟩) X0'.length X0'.length, .int .i64 n0, .int .i64 n0', .string t0, .string t0', .int .i64 n0''] 27)) w4.heap.size [.slice (some ⟨x0, 0, none⟩) X0.length X0.length, .slice (some ⟨x0', 0, none⟩) X0'.length X0'.length, .int .i64 n0, .int .i64 n0', .string t0, .string t0', .int .i64 n0''] 27 := RwC.new w4 _ _
    have m5 : Below w4.heap.size w4 (w4.alloc (.cells #[.slice (some ⟨x0, 0, none⟩) X0.length X0.length, .slice (some ⟨x0', 0, none⟩) X0'.length X0'.length, .int .i64 n0, .int .i64 n0', .string t0, .string t0', .int .i64 n0''] 27)) := (Below.refl _ _).alloc (Nat.le_refl _) _
    have zm5 := m5.size
    obtain ⟨pTx, eTx⟩ : ∃ b, b = w4.heap.size := ⟨_, rfl⟩
    have yTx : w4.heap.size ≤ pTx := Nat.le_of_eq eTx.symm
    replace B := B.up m5
    replace oS := oS.up m5
    replace xB0 := xB0.up m5
    replace xB0' := xB0'.up m5
    replace N := nxt N m5
    clear m5
    have Txc0 := Tx.cell 0
    have Txc1 := Tx.cell 1
    have Txc2 := Tx.cell 2
    have Txc3 := Tx.cell 3
    have Txc4 := Tx.cell 4
    have Txc5 := Tx.cell 5
    have Txc6 := Tx.cell 6
    go_wp2_with fail
    generalize w4.alloc (.cells #[.slice (some ⟨x0, 0, none⟩) X0.length X0.length, .slice (some ⟨x0', 0, none⟩) X0'.length X0'.length, .int .i64 n0, .int .i64 n0', .string t0, .string t0', .int .i64 n0''] 27) = w5 at *
    rw [← eTx] at Tx ⊢
    have lTx := Tx.lt
    clear eTx
    refine (IM w5 _ _ _ xB0.own0.rd (by simp) (Nat.le_refl _) _ _ _ xB0'.own0.rd (by simp) (Nat.le_refl _) N).mono ?_
    rintro e w6 ⟨⟨aoI, coI, goI, rfl, oI, poI, koI, roI⟩, m6⟩
    have zm6 := m6.size
    clear Txc0 Txc1 Txc2 Txc3 Txc4 Txc5 Txc6
    replace B := B.up m6
    replace oS := oS.up m6
    replace xB0 := xB0.up m6
    replace xB0' := xB0'.up m6
    replace Tx := Tx.up m6
    replace N := nxt N m6
    clear m6
    have loI := oI.rd.lt
    clear poI koI
    go_wp2_with fail
    refine (eqByteS_same w6 _ _ _ _ _ _ ys oI.rd oS.rd hy).mono ?_
    rintro e w7 ⟨rfl, m7⟩
    have zm7 := m7.size
    replace B := B.up m7
    replace oS := oS.up m7
    replace xB0 := xB0.up m7
    replace xB0' := xB0'.up m7
    replace Tx := Tx.up m7
    replace oI := oI.up m7
    replace N := nxt N m7
    clear m7
    go_upto_region 10 with fail
    have CY : Hid (∀ W, Below w7.heap.size w7 W → (W.cell? ⟨pTx, 0, none⟩ = some (.slice (some ⟨x0, 0, none⟩) X0.length X0.length) ∧ W.cell? ⟨pTx, 1, none⟩ = some (.slice (some ⟨x0', 0, none⟩) X0'.length X0'.length) ∧ W.cell? ⟨pTx, 2, none⟩ = some (.int .i64 n0) ∧ W.cell? ⟨pTx, 3, none⟩ = some (.int .i64 n0') ∧ W.cell? ⟨pTx, 4, none⟩ = some (.string t0) ∧ W.cell? ⟨pTx, 5, none⟩ = some (.string t0') ∧ W.cell? ⟨pTx, 6, none⟩ = some (.int .i64 n0'') ∧ W.cell? ⟨w.heap.size, 0, none⟩ = some (.slice a0 X0.length c0) ∧ W.cell? ⟨w.heap.size, 1, none⟩ = some (.slice a0' X0'.length c0') ∧ W.cell? ⟨w.heap.size, 2, none⟩ = some (.int .i64 n0) ∧ W.cell? ⟨w.heap.size, 3, none⟩ = some (.int .i64 n0') ∧ W.cell? ⟨w.heap.size, 4, none⟩ = some (.string t0) ∧ W.cell? ⟨w.heap.size, 5, none⟩ = some (.string t0') ∧ W.cell? ⟨w.heap.size, 6, none⟩ = some (.int .i64 n0''))) := fun W m => ⟨(Tx.up m).cell 0, (Tx.up m).cell 1, (Tx.up m).cell 2, (Tx.up m).cell 3, (Tx.up m).cell 4, (Tx.up m).cell 5, (Tx.up m).cell 6, (B.up m).cell 0, (B.up m).cell 1, (B.up m).cell 2, (B.up m).cell 3, (B.up m).cell 4, (B.up m).cell 5, (B.up m).cell 6⟩
    have TO : Hid (∀ W, Below w7.heap.size w7 W → Calls Try.prog 8 #[.agg #[.slice a0 X0.length c0, .slice a0' X0'.length c0', .int .i64 n0, .int .i64 n0', .string t0, .string t0', .int .i64 n0'']] W fun e w' => ∃ f0 f0', e = .returned (.agg #[.slice (some ⟨f0, 0, none⟩) X0.length X0.length, .slice (some ⟨f0', 0, none⟩) X0'.length X0'.length, .int .i64 n0, .int .i64 n0', .string t0, .string t0', .int .i64 n0'']) ∧ Blk w' f0 .u8 X0 ∧ Blk w' f0' .u8 X0' ∧ Below w7.heap.size w7 w') := fun W m => (toTicketState_any W n0 n0' t0 t0' n0'' g0 a0 c0 X0 g0' a0' c0' X0' ((hX0.up N).up m) ((hX0'.up N).up m) (by omega) (by omega)).mono (by
      rintro e w' ⟨f0, f0', rfl, h0, h0', _, _, l⟩
      exact ⟨f0, f0', rfl, h0, h0', nxt m l⟩)
    have EQ : Hid (∀ W f0 f0', Below w7.heap.size w7 W → Blk W f0 .u8 X0 → Blk W f0' .u8 X0' → Calls Try.prog 10 #[.agg #[.slice (some ⟨x0, 0, none⟩) X0.length X0.length, .slice (some ⟨x0', 0, none⟩) X0'.length X0'.length, .int .i64 n0, .int .i64 n0', .string t0, .string t0', .int .i64 n0''], .agg #[.slice (some ⟨f0, 0, none⟩) X0.length X0.length, .slice (some ⟨f0', 0, none⟩) X0'.length X0'.length, .int .i64 n0, .int .i64 n0', .string t0, .string t0', .int .i64 n0'']] W fun e w' => e = .returned (.bool true) ∧ Below w7.heap.size w7 w') := fun W f0 f0' m h0 h0' => (eqTicketState_same W n0 n0' t0 t0' n0'' _ _ _ _ _ _ X0 (xB0.up m).own0.rd h0.own0.rd (by omega) _ _ _ _ _ _ X0' (xB0'.up m).own0.rd h0'.own0.rd (by omega)).mono (by
      rintro e w' ⟨rfl, l⟩
      exact ⟨rfl, nxt m l⟩)
    have nd : Below w7.heap.size w7 w7.drew := (Below.refl _ _).drew
    go_region_held3 (fun W => W.cell? ⟨pTx, 0, none⟩ = some (.slice (some ⟨x0, 0, none⟩) X0.length X0.length) ∧ W.cell? ⟨pTx, 1, none⟩ = some (.slice (some ⟨x0', 0, none⟩) X0'.length X0'.length) ∧ W.cell? ⟨pTx, 2, none⟩ = some (.int .i64 n0) ∧ W.cell? ⟨pTx, 3, none⟩ = some (.int .i64 n0') ∧ W.cell? ⟨pTx, 4, none⟩ = some (.string t0) ∧ W.cell? ⟨pTx, 5, none⟩ = some (.string t0') ∧ W.cell? ⟨pTx, 6, none⟩ = some (.int .i64 n0'') ∧ W.cell? ⟨w.heap.size, 0, none⟩ = some (.slice a0 X0.length c0) ∧ W.cell? ⟨w.heap.size, 1, none⟩ = some (.slice a0' X0'.length c0') ∧ W.cell? ⟨w.heap.size, 2, none⟩ = some (.int .i64 n0) ∧ W.cell? ⟨w.heap.size, 3, none⟩ = some (.int .i64 n0') ∧ W.cell? ⟨w.heap.size, 4, none⟩ = some (.string t0) ∧ W.cell? ⟨w.heap.size, 5, none⟩ = some (.string t0') ∧ W.cell? ⟨w.heap.size, 6, none⟩ = some (.int .i64 n0''))
      (first | exact (unhide CY) _ m8 | exact (unhide CY) _ bt | exact (unhide CY) _ nd)
      (first
        | (go_at_call 10; refine ((unhide EQ) _ _ _ bt ft0 ft0').mono ?_; rintro r w8 ⟨rfl, m8⟩)
        | (go_at_call 8; refine ((unhide TO) _ nd).mono ?_; rintro r wt ⟨f0, f0', rfl, ft0, ft0', bt⟩)
        | fail)
    have zm8 := m8.size
    clear bt nd CY TO EQ ft0 ft0'
    replace B := B.up m8
    replace oS := oS.up m8
    replace xB0 := xB0.up m8
    replace xB0' := xB0'.up m8
    replace Tx := Tx.up m8
    replace oI := oI.up m8
    replace N := nxt N m8
    clear m8
    have Txc0 := Tx.cell 0
    have Txc1 := Tx.cell 1
    have Txc2 := Tx.cell 2
    have Txc3 := Tx.cell 3
    have Txc4 := Tx.cell 4
    have Txc5 := Tx.cell 5
    have Txc6 := Tx.cell 6
    go_wp2_with fail
    refine (markTicketState_any w8 n0 n0' t0 t0' n0'' _ _ _ X0 _ _ _ X0' (1) xB0.own0 xB0'.own0 (by omega) (by omega) (by omega) (by omega) (by omega)).mono ?_
    rintro e w9 ⟨rfl, -, -, O⟩
    clear Txc0 Txc1 Txc2 Txc3 Txc4 Txc5 Txc6
    clear xB0 xB0'
    clear Tx
    replace B := B.tch O (by simp; omega)
    replace oS := oS.tch O (fun h => by have := loS h; simp; omega)
    replace oI := oI.tch O (fun h => by have := loI h; simp; omega)
    have NN := N.size
    replace N := N.trans (O.below (B := w.heap.size) (by omega) (by simp; omega))
    have zm9 := O.size
    clear O NN
    have v1 : decide (1 + (X0.length : Int) + (X0'.length : Int) < 0) = false := by simp; omega
    go_wp2_with fail
    refine (eqByteS_same w9 _ _ _ _ _ _ ys oI.rd oS.rd hy).mono ?_
    rintro e w10 ⟨rfl, m10⟩
    have zm10 := m10.size
    replace B := B.up m10
    replace oS := oS.up m10
    replace oI := oI.up m10
    replace N := nxt N m10
    clear m10
    go_wp2_with fail
    refine (markByteS_any w10 _ _ _ ys 1 oI hy (by decide) (by decide)).mono ?_
    rintro e w11 ⟨rfl, oA, O⟩
    have O := Tch.of_only O
    clear oI
    replace B := B.tch O (by simp; omega)
    replace oS := oS.tch O (fun h => by have := loS h; simp; omega)
    have NN := N.size
    replace N := N.trans (O.below (B := w.heap.size) (by omega) (by simp; omega))
    have zm11 := O.size
    clear O NN
    have loA := oA.rd.lt
    have v2 : decide ((1 : Int) + (ys.length : Int) < 0) = false := by simp; omega
    go_wp2_with fail
    refine (heldByteS_any w11 _ _ _ ys.length 1 oA.rd hy (by decide) (by decide)).mono ?_
    rintro e w12 ⟨rfl, rfl⟩
    have Bc0 := B.cell 0
    have Bc1 := B.cell 1
    have Bc2 := B.cell 2
    have Bc3 := B.cell 3
    have Bc4 := B.cell 4
    have Bc5 := B.cell 5
    have Bc6 := B.cell 6
    go_wp2_with fail
    refine (toTicketState_any w12 n0 n0' t0 t0' n0'' g0 a0 c0 X0 g0' a0' c0' X0' (hX0.up N) (hX0'.up N) (by omega) (by omega)).mono ?_
    rintro e w13 ⟨d0, d0', rfl, dB0, dB0', ydB0, ydB0', m13⟩
    have zm13 := m13.size
    clear Bc0 Bc1 Bc2 Bc3 Bc4 Bc5 Bc6
    replace B := B.up m13
    replace oS := oS.up m13
    replace oA := oA.up m13
    replace N := nxt N m13
    clear m13
    have ldB0 := dB0.lt
    have ldB0' := dB0'.lt
    go_wp2_with fail
    refine (IM w13 _ _ _ dB0.own0.rd (by simp) (Nat.le_refl _) _ _ _ dB0'.own0.rd (by simp) (Nat.le_refl _) N).mono ?_
    rintro e w14 ⟨⟨aoJ, coJ, goJ, rfl, oJ, poJ, koJ, roJ⟩, m14⟩
    have zm14 := m14.size
    replace B := B.up m14
    replace oS := oS.up m14
    replace oA := oA.up m14
    replace dB0 := dB0.up m14
    replace dB0' := dB0'.up m14
    replace N := nxt N m14
    clear m14
    have loJ := oJ.rd.lt
    clear poJ koJ
    clear dB0 dB0'
    go_wp2_with fail
    refine (eqByteS_same w14 _ _ _ _ _ _ ys oJ.rd oS.rd hy).mono ?_
    rintro e w15 ⟨rfl, m15⟩
    have zm15 := m15.size
    replace B := B.up m15
    replace oS := oS.up m15
    replace oA := oA.up m15
    replace oJ := oJ.up m15
    replace N := nxt N m15
    clear m15
    go_wp2_with fail
    refine (heldByteS_any w15 _ _ _ ys.length 1 oA.rd hy (by decide) (by decide)).mono ?_
    rintro e w16 ⟨rfl, rfl⟩
    go_wp2
    go_ret
    exact ⟨rfl, N⟩
  · skip
    have SZ := fun W => hide (szTicketState_any W n0 n0' t0 t0' n0'' a0 X0.length c0 a0' X0'.length c0' 1048576 lX0 lX0' lt0 lt0' (by decide) (by decide))
    simp only [if_pos (show ((1048576 : Int) < (X0.length : Int) + (X0'.length : Int) + (t0.size : Int) + (t0'.size : Int)) by omega)] at SZ
    go_enter Try.func4, Try.ntmps4
    go_upto_region 1 with fail
    have B : RwC (w.alloc (.cells #[.slice a0 X0.length c0, .slice a0' X0'.length c0', .int .i64 n0, .int .i64 n0', .string t0, .string t0', .int .i64 n0''] 24)) w.heap.size [.slice a0 X0.length c0, .slice a0' X0'.length c0', .int .i64 n0, .int .i64 n0', .string t0, .string t0', .int .i64 n0''] 24 := RwC.new w _ _
    have N : Below w.heap.size w (w.alloc (.cells #[.slice a0 X0.length c0, .slice a0' X0'.length c0', .int .i64 n0, .int .i64 n0', .string t0, .string t0', .int .i64 n0''] 24)) := (Below.refl _ _).alloc (Nat.le_refl _) _
    have zN : (w.alloc (.cells #[.slice a0 X0.length c0, .slice a0' X0'.length c0', .int .i64 n0, .int .i64 n0', .string t0, .string t0', .int .i64 n0''] 24)).heap.size = w.heap.size + 1 := by simp
    generalize w.alloc (.cells #[.slice a0 X0.length c0, .slice a0' X0'.length c0', .int .i64 n0, .int .i64 n0', .string t0, .string t0', .int .i64 n0''] 24) = w0 at *
    have lB : w.heap.size < w0.heap.size := by omega
    clear zN
    have Bc0 := B.cell 0
    have Bc1 := B.cell 1
    have Bc2 := B.cell 2
    have Bc3 := B.cell 3
    have Bc4 := B.cell 4
    have Bc5 := B.cell 5
    have Bc6 := B.cell 6
    go_wp2_with fail
    refine ((SZ w0).out).mono ?_
    rintro e w1 ⟨rfl, m1⟩
    have zm1 := m1.size
    clear Bc0 Bc1 Bc2 Bc3 Bc4 Bc5 Bc6
    replace B := B.up m1
    replace N := nxt N m1
    clear m1
    go_wp2
    go_ret
    exact ⟨rfl, N⟩
end Go.Proofs.Ytjdbnlbmhnpifaa
