
/-
  The law of SealTicket (written by gens/lx.py).
-/
import Derived.Test.YtcljoaknaegpmaaSlS
import Derived.Test.YtcljoaknaegpmaaTsC
import Derived.Test.YtcljoaknaegpmaaRdR
import Derived.Deep.RegionHeld3
namespace Go.Proofs.Ytcljoaknaegpmaa
open Go Go.RowKit

set_option maxHeartbeats 8000000 in
theorem slt_law (w : World) (g0 : Nat) (a0 : Option Addr) (c0 : Nat) (X0 : List Int) (hX0 : Rd w g0 a0 .u8 X0) (bX0 : Byt X0) (lX0 : X0.length < 9223372036854775808) (g1 : Nat) (a1 : Option Addr) (c1 : Nat) (X1 : List Int) (hX1 : Rd w g1 a1 .u8 X1) (bX1 : Byt X1) (lX1 : X1.length < 9223372036854775808) (g2 : Nat) (a2 : Option Addr) (c2 : Nat) (X2 : List Int) (hX2 : Rd w g2 a2 .u8 X2) (bX2 : Byt X2) (lX2 : X2.length < 9223372036854775808) (g2' : Nat) (a2' : Option Addr) (c2' : Nat) (X2' : List Int) (hX2' : Rd w g2' a2' .u8 X2') (bX2' : Byt X2') (lX2' : X2'.length < 9223372036854775808) (n2 : Int) (_bn2 : (Lit.int .i64 n2).wf = true) (n2' : Int) (_bn2' : (Lit.int .i64 n2').wf = true) (t2 : ByteArray) (wt2 : t2.size ≤ maxLen) (t2' : ByteArray) (wt2' : t2'.size ≤ maxLen) (n2'' : Int) (_bn2'' : (Lit.int .i64 n2'').wf = true) :
    Calls Try.prog 3 #[.slice a0 X0.length c0, .slice a1 X1.length c1, .agg #[.slice a2 X2.length c2, .slice a2' X2'.length c2', .int .i64 n2, .int .i64 n2', .string t2, .string t2', .int .i64 n2'']] w fun e w' => e = .returned (.bool true) ∧ Below w.heap.size w w' := by
  have lt2 : t2.size < 9223372036854775808 := by unfold maxLen at wt2; omega
  clear wt2
  have lt2' : t2'.size < 9223372036854775808 := by unfold maxLen at wt2'; omega
  clear wt2'
  by_cases q0 : X0.length ≤ 1048576
  · have u0 : decide ((1048576 : Int) < (X0.length : Int)) = false := by simp; omega
    by_cases q1 : X1.length ≤ 1048576
    · have u1 : decide ((1048576 : Int) < (X1.length : Int)) = false := by simp; omega
      by_cases qs : X2.length + X2'.length + t2.size + t2'.size ≤ 1048576
      · skip
        have SZ := fun W => hide (szTicketState_any W n2 n2' t2 t2' n2'' a2 X2.length c2 a2' X2'.length c2' 1048576 lX2 lX2' lt2 lt2' (by decide) (by decide))
        simp only [if_neg (show ¬ ((1048576 : Int) < (X2.length : Int) + (X2'.length : Int) + (t2.size : Int) + (t2'.size : Int)) by omega)] at SZ
        have us : decide ((1048576 : Int) - (X2.length : Int) - (X2'.length : Int) - (t2.size : Int) - (t2'.size : Int) < 0) = false := by simp; omega
        have h4 : t2.data.toList.length ≤ 1048576 := by show t2.size ≤ _; omega
        have h5 : t2'.data.toList.length ≤ 1048576 := by show t2'.size ≤ _; omega
        have SP : ∀ W g a c, Rd W g a .u8 X0 → (a = none → c = 0) → X0.length ≤ c → ∀ g' a' c', Rd W g' a' .u8 X1 → (a' = none → c' = 0) → X1.length ≤ c' → ∀ gx ax cx, Rd W gx ax .u8 X2 → (ax = none → cx = 0) → X2.length ≤ cx → ∀ gy ay cy, Rd W gy ay .u8 X2' → (ay = none → cy = 0) → X2'.length ≤ cy → Calls Try.prog 6 #[.slice a X0.length c, .slice a' X1.length c', .agg #[.slice ax X2.length cx, .slice ay X2'.length cy, .int .i64 n2, .int .i64 n2', .string t2, .string t2', .int .i64 n2'']] W fun e w' => NewRow W.heap.size w' e .u8 (slA X0 X1 (esA X2 X2' n2 n2' t2.data.toList t2'.data.toList n2'')) ∧ Below W.heap.size W w' := fun W g a c h _ k g' a' c' h' p' k' gx ax cx hx px _ gy ay cy hy py _ => (specSl_any W g a c X0 h bX0 k g' a' c' X1 h' bX1 p' k' n2 n2' t2.data.toList t2'.data.toList n2'' gx ax cx X2 hx bX2 px gy ay cy X2' hy bX2' py h4 h5).mono (by rintro e w' ⟨v, rfl, R, n⟩; obtain ⟨x1, x2, x3, rfl, x4⟩ := R.own; exact ⟨⟨x1, x2, x3, rfl, x4⟩, n⟩)
        have IM : ∀ W g a c, Rd W g a .u8 X0 → (a = none → c = 0) → X0.length ≤ c → ∀ g' a' c', Rd W g' a' .u8 X1 → (a' = none → c' = 0) → X1.length ≤ c' → ∀ gx ax cx, Rd W gx ax .u8 X2 → (ax = none → cx = 0) → X2.length ≤ cx → ∀ gy ay cy, Rd W gy ay .u8 X2' → (ay = none → cy = 0) → X2'.length ≤ cy → Below w.heap.size w W → Calls Try.prog 9 #[.slice a X0.length c, .slice a' X1.length c', .agg #[.slice ax X2.length cx, .slice ay X2'.length cy, .int .i64 n2, .int .i64 n2', .string t2, .string t2', .int .i64 n2'']] W fun e w' => NewRow W.heap.size w' e .u8 (slA X0 X1 (esA X2 X2' n2 n2' t2.data.toList t2'.data.toList n2'')) ∧ Below W.heap.size W w' := fun W g a c h _ k g' a' c' h' p' k' gx ax cx hx px _ gy ay cy hy py _ _ => (implSl_any W g a c X0 h bX0 k g' a' c' X1 h' bX1 p' k' n2 n2' t2.data.toList t2'.data.toList n2'' gx ax cx X2 hx bX2 px gy ay cy X2' hy bX2' py h4 h5).mono (by rintro e w' ⟨v, rfl, R, n⟩; obtain ⟨x1, x2, x3, rfl, x4⟩ := R.own; exact ⟨⟨x1, x2, x3, rfl, x4⟩, n⟩)
        clear h4 h5
        have hy : (slA X0 X1 (esA X2 X2' n2 n2' t2.data.toList t2'.data.toList n2'')).length ≤ 1048576 := Nat.le_trans (slA_len _ _ _ (esA_len _ _ _ _ _ _ _)) (by decide)
        obtain ⟨ys, hys⟩ : ∃ ys, ys = slA X0 X1 (esA X2 X2' n2 n2' t2.data.toList t2'.data.toList n2'') := ⟨_, rfl⟩
        simp only [← hys] at SP IM hy
        clear hys
        go_enter Try.func3, Try.ntmps3
        go_upto_region 1 with fail
        have B : RwC (w.alloc (.cells #[.slice a2 X2.length c2, .slice a2' X2'.length c2', .int .i64 n2, .int .i64 n2', .string t2, .string t2', .int .i64 n2''] 24)) w.heap.size [.slice a2 X2.length c2, .slice a2' X2'.length c2', .int .i64 n2, .int .i64 n2', .string t2, .string t2', .int .i64 n2''] 24 := RwC.new w _ _
        have N : Below w.heap.size w (w.alloc (.cells #[.slice a2 X2.length c2, .slice a2' X2'.length c2', .int .i64 n2, .int .i64 n2', .string t2, .string t2', .int .i64 n2''] 24)) := (Below.refl _ _).alloc (Nat.le_refl _) _
        have zN : (w.alloc (.cells #[.slice a2 X2.length c2, .slice a2' X2'.length c2', .int .i64 n2, .int .i64 n2', .string t2, .string t2', .int .i64 n2''] 24)).heap.size = w.heap.size + 1 := by simp
        generalize w.alloc (.cells #[.slice a2 X2.length c2, .slice a2' X2'.length c2', .int .i64 n2, .int .i64 n2', .string t2, .string t2', .int .i64 n2''] 24) = w0 at *
        have lB : w.heap.size < w0.heap.size := by omega
        clear zN
        have Bc0 := B.cell 0
        have Bc1 := B.cell 1
        have Bc2 := B.cell 2
        have Bc3 := B.cell 3
        have Bc4 := B.cell 4
        have Bc5 := B.cell 5
        have Bc6 := B.cell 6
        go_wp2_with fail
        refine ((SZ w0).out).mono ?_
        rintro e w1 ⟨rfl, m1⟩
        have zm1 := m1.size
        clear Bc0 Bc1 Bc2 Bc3 Bc4 Bc5 Bc6
        replace B := B.up m1
        replace N := nxt N m1
        clear m1
        go_upto_region 9 with fail
        have CY : Hid (∀ W, Below w1.heap.size w1 W → (W.cell? ⟨w.heap.size, 0, none⟩ = some (.slice a2 X2.length c2) ∧ W.cell? ⟨w.heap.size, 1, none⟩ = some (.slice a2' X2'.length c2') ∧ W.cell? ⟨w.heap.size, 2, none⟩ = some (.int .i64 n2) ∧ W.cell? ⟨w.heap.size, 3, none⟩ = some (.int .i64 n2') ∧ W.cell? ⟨w.heap.size, 4, none⟩ = some (.string t2) ∧ W.cell? ⟨w.heap.size, 5, none⟩ = some (.string t2') ∧ W.cell? ⟨w.heap.size, 6, none⟩ = some (.int .i64 n2''))) := fun W m => ⟨(B.up m).cell 0, (B.up m).cell 1, (B.up m).cell 2, (B.up m).cell 3, (B.up m).cell 4, (B.up m).cell 5, (B.up m).cell 6⟩
        have nd : Below w1.heap.size w1 w1.drew := (Below.refl _ _).drew
        have TB0 : Hid (∀ W, Below w1.heap.size w1 W → Calls Try.prog 7 #[.slice a0 X0.length c0] W fun e w' => ∃ q, e = .returned (.slice (some ⟨q, 0, none⟩) X0.length X0.length) ∧ Blk w' q .u8 X0 ∧ Below W.heap.size W w') := fun W m => (toByteS_any W g0 a0 c0 X0 ((hX0.up N).up m) q0).mono (by
          rintro e w' ⟨rfl, k, l⟩
          exact ⟨_, rfl, k, l⟩)
        have TB1 : Hid (∀ W, Below w1.heap.size w1 W → Calls Try.prog 7 #[.slice a1 X1.length c1] W fun e w' => ∃ q, e = .returned (.slice (some ⟨q, 0, none⟩) X1.length X1.length) ∧ Blk w' q .u8 X1 ∧ Below W.heap.size W w') := fun W m => (toByteS_any W g1 a1 c1 X1 ((hX1.up N).up m) q1).mono (by
          rintro e w' ⟨rfl, k, l⟩
          exact ⟨_, rfl, k, l⟩)
        have TT : Hid (∀ W, Below w1.heap.size w1 W → Calls Try.prog 8 #[.agg #[.slice a2 X2.length c2, .slice a2' X2'.length c2', .int .i64 n2, .int .i64 n2', .string t2, .string t2', .int .i64 n2'']] W fun e w' => ∃ f2 f2', e = .returned (.agg #[.slice (some ⟨f2, 0, none⟩) X2.length X2.length, .slice (some ⟨f2', 0, none⟩) X2'.length X2'.length, .int .i64 n2, .int .i64 n2', .string t2, .string t2', .int .i64 n2'']) ∧ Blk w' f2 .u8 X2 ∧ Blk w' f2' .u8 X2' ∧ Below W.heap.size W w') := fun W m => (toTicketState_any W n2 n2' t2 t2' n2'' g2 a2 c2 X2 g2' a2' c2' X2' ((hX2.up N).up m) ((hX2'.up N).up m) (by omega) (by omega)).mono (by
          rintro e w' ⟨f2, f2', rfl, h2, h2', _, _, l⟩
          exact ⟨f2, f2', rfl, h2, h2', l⟩)
        go_region_held3 (fun W => W.cell? ⟨w.heap.size, 0, none⟩ = some (.slice a2 X2.length c2) ∧ W.cell? ⟨w.heap.size, 1, none⟩ = some (.slice a2' X2'.length c2') ∧ W.cell? ⟨w.heap.size, 2, none⟩ = some (.int .i64 n2) ∧ W.cell? ⟨w.heap.size, 3, none⟩ = some (.int .i64 n2') ∧ W.cell? ⟨w.heap.size, 4, none⟩ = some (.string t2) ∧ W.cell? ⟨w.heap.size, 5, none⟩ = some (.string t2') ∧ W.cell? ⟨w.heap.size, 6, none⟩ = some (.int .i64 n2''))
          (first | exact (unhide CY) _ m2 | exact (unhide CY) _ b3 | exact (unhide CY) _ b2 | exact (unhide CY) _ b1 | exact (unhide CY) _ nd)
          (first
            | (go_at_call 6; refine (SP v3 _ _ _ mB0.own0.rd (by simp) (Nat.le_refl _) _ _ _ mB1.own0.rd (by simp) (Nat.le_refl _) _ _ _ mB2.own0.rd (by simp) (Nat.le_refl _) _ _ _ mB2'.own0.rd (by simp) (Nat.le_refl _)).mono ?_; rintro r w2 ⟨⟨aoS, coS, goS, rfl, oS, poS, koS, roS⟩, l4⟩; (have m2 := nxt b3 l4))
            | (go_at_call 8; refine ((unhide TT) _ b2).mono ?_; rintro r v3 ⟨m2, m2', rfl, mB2, mB2', l3⟩; (have b3 := nxt b2 l3); (replace mB0 := mB0.up l3); (replace mB1 := mB1.up l3))
            | (go_at_call 7; refine ((unhide TB1) _ b1).mono ?_; rintro r v2 ⟨m1, rfl, mB1, l2⟩; (have b2 := nxt b1 l2); (replace mB0 := mB0.up l2))
            | (go_at_call 7; refine ((unhide TB0) _ nd).mono ?_; rintro r v1 ⟨m0, rfl, mB0, l1⟩; (have b1 := nxt nd l1))
            | fail)
        have zm2 := m2.size
        have zbm2 := b3.size
        have loS := oS.rd.lt
        clear poS koS nd CY b1 b2 b3 l1 l2 l3 l4 mB0 mB1 mB2 mB2' TB0 TB1 TT
        replace B := B.up m2
        replace N := nxt N m2
        clear m2
        go_wp2_with fail
        refine (toByteS_any w2 g0 a0 c0 X0 (hX0.up N) q0).mono ?_
        rintro e w3 ⟨rfl, xB0, m3⟩
        have zm3 := m3.size
        replace B := B.up m3
        replace oS := oS.up m3
        replace N := nxt N m3
        clear m3
        obtain ⟨x0, ex0⟩ : ∃ b, b = w2.heap.size := ⟨_, rfl⟩
        rw [← ex0] at xB0 ⊢
        have lxB0 := xB0.lt
        have yxB0 : w2.heap.size ≤ x0 := Nat.le_of_eq ex0.symm
        clear ex0
        go_wp2_with fail
        refine (toByteS_any w3 g1 a1 c1 X1 (hX1.up N) q1).mono ?_
        rintro e w4 ⟨rfl, xB1, m4⟩
        have zm4 := m4.size
        replace B := B.up m4
        replace oS := oS.up m4
        replace xB0 := xB0.up m4
        replace N := nxt N m4
        clear m4
        obtain ⟨x1, ex1⟩ : ∃ b, b = w3.heap.size := ⟨_, rfl⟩
        rw [← ex1] at xB1 ⊢
        have lxB1 := xB1.lt
        have yxB1 : w3.heap.size ≤ x1 := Nat.le_of_eq ex1.symm
        clear ex1
        have Bc0 := B.cell 0
        have Bc1 := B.cell 1
        have Bc2 := B.cell 2
        have Bc3 := B.cell 3
        have Bc4 := B.cell 4
        have Bc5 := B.cell 5
        have Bc6 := B.cell 6
        go_wp2_with fail
        refine (toTicketState_any w4 n2 n2' t2 t2' n2'' g2 a2 c2 X2 g2' a2' c2' X2' (hX2.up N) (hX2'.up N) (by omega) (by omega)).mono ?_
        rintro e w5 ⟨x2, x2', rfl, xB2, xB2', yxB2, yxB2', m5⟩
        have zm5 := m5.size
        clear Bc0 Bc1 Bc2 Bc3 Bc4 Bc5 Bc6
        replace B := B.up m5
        replace oS := oS.up m5
        replace xB0 := xB0.up m5
        replace xB1 := xB1.up m5
        replace N := nxt N m5
        clear m5
        have lxB2 := xB2.lt
        have lxB2' := xB2'.lt
        have Tx : RwC (w5.alloc (.cells #[.slice (some ⟨x2, 0, none⟩) X2.length X2.length, .slice (some ⟨x2', 0, none⟩) X2'.length X2'.length, .int .i64 n2, .int .i64 n2', .string t2, .string t2', .int .i64 n2''] 28)) w5.heap.size [.slice (some ⟨x2, 0, none⟩) X2.length X2.length, .slice (some ⟨x2', 0, none⟩) X2'.length X2'.length, .int .i64 n2, .int .i64 n2', .string t2, .string t2', .int .i64 n2''] 28 := RwC.new w5 _ _
        have m6 : Below w5.heap.size w5 (w5.alloc (.cells #[.slice (some ⟨x2, 0, none⟩) X2.length X2.length, .slice (some ⟨x2', 0, none⟩) X2'.length X2'.length, .int .i64 n2, .int .i64 n2', .string t2, .string t2', .int .i64 n2''] 28)) := (Below.refl _ _).alloc (Nat.le_refl _) _
        have zm6 := m6.size
        obtain ⟨pTx, eTx⟩ : ∃ b, b = w5.heap.size := ⟨_, rfl⟩
        have yTx : w5.heap.size ≤ pTx := Nat.le_of_eq eTx.symm
        replace B := B.up m6
        replace oS := oS.up m6
        replace xB0 := xB0.up m6
        replace xB1 := xB1.up m6
        replace xB2 := xB2.up m6
        replace xB2' := xB2'.up m6
        replace N := nxt N m6
        clear m6
        have Txc0 := Tx.cell 0
        have Txc1 := Tx.cell 1
        have Txc2 := Tx.cell 2
        have Txc3 := Tx.cell 3
        have Txc4 := Tx.cell 4
        have Txc5 := Tx.cell 5
        have Txc6 := Tx.cell 6
        go_wp2_with fail
        generalize w5.alloc (.cells #[.slice (some ⟨x2, 0, none⟩) X2.length X2.length, .slice (some ⟨x2', 0, none⟩) X2'.length X2'.length, .int .i64 n2, .int .i64 n2', .string t2, .string t2', .int .i64 n2''] 28) = w6 at *
        rw [← eTx] at Tx ⊢
        have lTx := Tx.lt
        clear eTx
        refine (IM w6 _ _ _ xB0.own0.rd (by simp) (Nat.le_refl _) _ _ _ xB1.own0.rd (by simp) (Nat.le_refl _) _ _ _ xB2.own0.rd (by simp) (Nat.le_refl _) _ _ _ xB2'.own0.rd (by simp) (Nat.le_refl _) N).mono ?_
        rintro e w7 ⟨⟨aoI, coI, goI, rfl, oI, poI, koI, roI⟩, m7⟩
        have zm7 := m7.size
        clear Txc0 Txc1 Txc2 Txc3 Txc4 Txc5 Txc6
        replace B := B.up m7
        replace oS := oS.up m7
        replace xB0 := xB0.up m7
        replace xB1 := xB1.up m7
        replace xB2 := xB2.up m7
        replace xB2' := xB2'.up m7
        replace Tx := Tx.up m7
        replace N := nxt N m7
        clear m7
        have loI := oI.rd.lt
        clear poI koI
        go_wp2_with fail
        refine (eqByteS_same w7 _ _ _ _ _ _ ys oI.rd oS.rd hy).mono ?_
        rintro e w8 ⟨rfl, m8⟩
        have zm8 := m8.size
        replace B := B.up m8
        replace oS := oS.up m8
        replace xB0 := xB0.up m8
        replace xB1 := xB1.up m8
        replace xB2 := xB2.up m8
        replace xB2' := xB2'.up m8
        replace Tx := Tx.up m8
        replace oI := oI.up m8
        replace N := nxt N m8
        clear m8
        go_wp2_with fail
        refine (toByteS_any w8 g0 a0 c0 X0 (hX0.up N) q0).mono ?_
        rintro e w9 ⟨rfl, eB0, m9⟩
        have zm9 := m9.size
        replace B := B.up m9
        replace oS := oS.up m9
        replace xB0 := xB0.up m9
        replace xB1 := xB1.up m9
        replace xB2 := xB2.up m9
        replace xB2' := xB2'.up m9
        replace Tx := Tx.up m9
        replace oI := oI.up m9
        replace N := nxt N m9
        clear m9
        obtain ⟨e0, ee0⟩ : ∃ b, b = w8.heap.size := ⟨_, rfl⟩
        rw [← ee0] at eB0 ⊢
        have leB0 := eB0.lt
        have yeB0 : w8.heap.size ≤ e0 := Nat.le_of_eq ee0.symm
        clear ee0
        go_wp2_with fail
        refine (eqByteS_same w9 _ _ _ _ _ _ X0 xB0.own0.rd eB0.own0.rd q0).mono ?_
        rintro e w10 ⟨rfl, m10⟩
        have zm10 := m10.size
        replace B := B.up m10
        replace oS := oS.up m10
        replace xB0 := xB0.up m10
        replace xB1 := xB1.up m10
        replace xB2 := xB2.up m10
        replace xB2' := xB2'.up m10
        replace Tx := Tx.up m10
        replace oI := oI.up m10
        replace eB0 := eB0.up m10
        replace N := nxt N m10
        clear m10
        clear eB0
        go_wp2_with fail
        refine (toByteS_any w10 g1 a1 c1 X1 (hX1.up N) q1).mono ?_
        rintro e w11 ⟨rfl, eB1, m11⟩
        have zm11 := m11.size
        replace B := B.up m11
        replace oS := oS.up m11
        replace xB0 := xB0.up m11
        replace xB1 := xB1.up m11
        replace xB2 := xB2.up m11
        replace xB2' := xB2'.up m11
        replace Tx := Tx.up m11
        replace oI := oI.up m11
        replace N := nxt N m11
        clear m11
        obtain ⟨e1, ee1⟩ : ∃ b, b = w10.heap.size := ⟨_, rfl⟩
        rw [← ee1] at eB1 ⊢
        have leB1 := eB1.lt
        have yeB1 : w10.heap.size ≤ e1 := Nat.le_of_eq ee1.symm
        clear ee1
        go_wp2_with fail
        refine (eqByteS_same w11 _ _ _ _ _ _ X1 xB1.own0.rd eB1.own0.rd q1).mono ?_
        rintro e w12 ⟨rfl, m12⟩
        have zm12 := m12.size
        replace B := B.up m12
        replace oS := oS.up m12
        replace xB0 := xB0.up m12
        replace xB1 := xB1.up m12
        replace xB2 := xB2.up m12
        replace xB2' := xB2'.up m12
        replace Tx := Tx.up m12
        replace oI := oI.up m12
        replace eB1 := eB1.up m12
        replace N := nxt N m12
        clear m12
        clear eB1
        go_upto_region 20 with fail
        have CY : Hid (∀ W, Below w12.heap.size w12 W → (W.cell? ⟨pTx, 0, none⟩ = some (.slice (some ⟨x2, 0, none⟩) X2.length X2.length) ∧ W.cell? ⟨pTx, 1, none⟩ = some (.slice (some ⟨x2', 0, none⟩) X2'.length X2'.length) ∧ W.cell? ⟨pTx, 2, none⟩ = some (.int .i64 n2) ∧ W.cell? ⟨pTx, 3, none⟩ = some (.int .i64 n2') ∧ W.cell? ⟨pTx, 4, none⟩ = some (.string t2) ∧ W.cell? ⟨pTx, 5, none⟩ = some (.string t2') ∧ W.cell? ⟨pTx, 6, none⟩ = some (.int .i64 n2'') ∧ W.cell? ⟨w.heap.size, 0, none⟩ = some (.slice a2 X2.length c2) ∧ W.cell? ⟨w.heap.size, 1, none⟩ = some (.slice a2' X2'.length c2') ∧ W.cell? ⟨w.heap.size, 2, none⟩ = some (.int .i64 n2) ∧ W.cell? ⟨w.heap.size, 3, none⟩ = some (.int .i64 n2') ∧ W.cell? ⟨w.heap.size, 4, none⟩ = some (.string t2) ∧ W.cell? ⟨w.heap.size, 5, none⟩ = some (.string t2') ∧ W.cell? ⟨w.heap.size, 6, none⟩ = some (.int .i64 n2''))) := fun W m => ⟨(Tx.up m).cell 0, (Tx.up m).cell 1, (Tx.up m).cell 2, (Tx.up m).cell 3, (Tx.up m).cell 4, (Tx.up m).cell 5, (Tx.up m).cell 6, (B.up m).cell 0, (B.up m).cell 1, (B.up m).cell 2, (B.up m).cell 3, (B.up m).cell 4, (B.up m).cell 5, (B.up m).cell 6⟩
        have TO : Hid (∀ W, Below w12.heap.size w12 W → Calls Try.prog 8 #[.agg #[.slice a2 X2.length c2, .slice a2' X2'.length c2', .int .i64 n2, .int .i64 n2', .string t2, .string t2', .int .i64 n2'']] W fun e w' => ∃ f2 f2', e = .returned (.agg #[.slice (some ⟨f2, 0, none⟩) X2.length X2.length, .slice (some ⟨f2', 0, none⟩) X2'.length X2'.length, .int .i64 n2, .int .i64 n2', .string t2, .string t2', .int .i64 n2'']) ∧ Blk w' f2 .u8 X2 ∧ Blk w' f2' .u8 X2' ∧ Below w12.heap.size w12 w') := fun W m => (toTicketState_any W n2 n2' t2 t2' n2'' g2 a2 c2 X2 g2' a2' c2' X2' ((hX2.up N).up m) ((hX2'.up N).up m) (by omega) (by omega)).mono (by
          rintro e w' ⟨f2, f2', rfl, h2, h2', _, _, l⟩
          exact ⟨f2, f2', rfl, h2, h2', nxt m l⟩)
        have EQ : Hid (∀ W f2 f2', Below w12.heap.size w12 W → Blk W f2 .u8 X2 → Blk W f2' .u8 X2' → Calls Try.prog 11 #[.agg #[.slice (some ⟨x2, 0, none⟩) X2.length X2.length, .slice (some ⟨x2', 0, none⟩) X2'.length X2'.length, .int .i64 n2, .int .i64 n2', .string t2, .string t2', .int .i64 n2''], .agg #[.slice (some ⟨f2, 0, none⟩) X2.length X2.length, .slice (some ⟨f2', 0, none⟩) X2'.length X2'.length, .int .i64 n2, .int .i64 n2', .string t2, .string t2', .int .i64 n2'']] W fun e w' => e = .returned (.bool true) ∧ Below w12.heap.size w12 w') := fun W f2 f2' m h2 h2' => (eqTicketState_same W n2 n2' t2 t2' n2'' _ _ _ _ _ _ X2 (xB2.up m).own0.rd h2.own0.rd (by omega) _ _ _ _ _ _ X2' (xB2'.up m).own0.rd h2'.own0.rd (by omega)).mono (by
          rintro e w' ⟨rfl, l⟩
          exact ⟨rfl, nxt m l⟩)
        have nd : Below w12.heap.size w12 w12.drew := (Below.refl _ _).drew
        go_region_held3 (fun W => W.cell? ⟨pTx, 0, none⟩ = some (.slice (some ⟨x2, 0, none⟩) X2.length X2.length) ∧ W.cell? ⟨pTx, 1, none⟩ = some (.slice (some ⟨x2', 0, none⟩) X2'.length X2'.length) ∧ W.cell? ⟨pTx, 2, none⟩ = some (.int .i64 n2) ∧ W.cell? ⟨pTx, 3, none⟩ = some (.int .i64 n2') ∧ W.cell? ⟨pTx, 4, none⟩ = some (.string t2) ∧ W.cell? ⟨pTx, 5, none⟩ = some (.string t2') ∧ W.cell? ⟨pTx, 6, none⟩ = some (.int .i64 n2'') ∧ W.cell? ⟨w.heap.size, 0, none⟩ = some (.slice a2 X2.length c2) ∧ W.cell? ⟨w.heap.size, 1, none⟩ = some (.slice a2' X2'.length c2') ∧ W.cell? ⟨w.heap.size, 2, none⟩ = some (.int .i64 n2) ∧ W.cell? ⟨w.heap.size, 3, none⟩ = some (.int .i64 n2') ∧ W.cell? ⟨w.heap.size, 4, none⟩ = some (.string t2) ∧ W.cell? ⟨w.heap.size, 5, none⟩ = some (.string t2') ∧ W.cell? ⟨w.heap.size, 6, none⟩ = some (.int .i64 n2''))
          (first | exact (unhide CY) _ m13 | exact (unhide CY) _ bt | exact (unhide CY) _ nd)
          (first
            | (go_at_call 11; refine ((unhide EQ) _ _ _ bt ft2 ft2').mono ?_; rintro r w13 ⟨rfl, m13⟩)
            | (go_at_call 8; refine ((unhide TO) _ nd).mono ?_; rintro r wt ⟨f2, f2', rfl, ft2, ft2', bt⟩)
            | fail)
        have zm13 := m13.size
        clear bt nd CY TO EQ ft2 ft2'
        replace B := B.up m13
        replace oS := oS.up m13
        replace xB0 := xB0.up m13
        replace xB1 := xB1.up m13
        replace xB2 := xB2.up m13
        replace xB2' := xB2'.up m13
        replace Tx := Tx.up m13
        replace oI := oI.up m13
        replace N := nxt N m13
        clear m13
        go_wp2_with fail
        refine (markByteS_any w13 _ _ _ X0 (1) xB0.own0 q0 (by omega) (by omega)).mono ?_
        rintro e w14 ⟨rfl, _, O⟩
        have O := Tch.of_only O
        clear xB0
        replace B := B.tch O (by simp; omega)
        replace oS := oS.tch O (fun h => by have := loS h; simp; omega)
        replace xB1 := xB1.tch O (by simp; omega)
        replace xB2 := xB2.tch O (by simp; omega)
        replace xB2' := xB2'.tch O (by simp; omega)
        replace Tx := Tx.tch O (by simp; omega)
        replace oI := oI.tch O (fun h => by have := loI h; simp; omega)
        have NN := N.size
        replace N := N.trans (O.below (B := w.heap.size) (by omega) (by simp; omega))
        have zm14 := O.size
        clear O NN
        go_wp2_with fail
        refine (markByteS_any w14 _ _ _ X1 (1 + (X0.length : Int)) xB1.own0 q1 (by omega) (by omega)).mono ?_
        rintro e w15 ⟨rfl, _, O⟩
        have O := Tch.of_only O
        clear xB1
        replace B := B.tch O (by simp; omega)
        replace oS := oS.tch O (fun h => by have := loS h; simp; omega)
        replace xB2 := xB2.tch O (by simp; omega)
        replace xB2' := xB2'.tch O (by simp; omega)
        replace Tx := Tx.tch O (by simp; omega)
        replace oI := oI.tch O (fun h => by have := loI h; simp; omega)
        have NN := N.size
        replace N := N.trans (O.below (B := w.heap.size) (by omega) (by simp; omega))
        have zm15 := O.size
        clear O NN
        have Txc0 := Tx.cell 0
        have Txc1 := Tx.cell 1
        have Txc2 := Tx.cell 2
        have Txc3 := Tx.cell 3
        have Txc4 := Tx.cell 4
        have Txc5 := Tx.cell 5
        have Txc6 := Tx.cell 6
        go_wp2_with fail
        refine (markTicketState_any w15 n2 n2' t2 t2' n2'' _ _ _ X2 _ _ _ X2' (1 + (X0.length : Int) + (X1.length : Int)) xB2.own0 xB2'.own0 (by omega) (by omega) (by omega) (by omega) (by omega)).mono ?_
        rintro e w16 ⟨rfl, -, -, O⟩
        clear Txc0 Txc1 Txc2 Txc3 Txc4 Txc5 Txc6
        clear xB2 xB2'
        clear Tx
        replace B := B.tch O (by simp; omega)
        replace oS := oS.tch O (fun h => by have := loS h; simp; omega)
        replace oI := oI.tch O (fun h => by have := loI h; simp; omega)
        have NN := N.size
        replace N := N.trans (O.below (B := w.heap.size) (by omega) (by simp; omega))
        have zm16 := O.size
        clear O NN
        have v1 : decide (1 + (X0.length : Int) + (X1.length : Int) + (X2.length : Int) + (X2'.length : Int) < 0) = false := by simp; omega
        go_wp2_with fail
        refine (eqByteS_same w16 _ _ _ _ _ _ ys oI.rd oS.rd hy).mono ?_
        rintro e w17 ⟨rfl, m17⟩
        have zm17 := m17.size
        replace B := B.up m17
        replace oS := oS.up m17
        replace oI := oI.up m17
        replace N := nxt N m17
        clear m17
        go_wp2_with fail
        refine (markByteS_any w17 _ _ _ ys 1 oI hy (by decide) (by decide)).mono ?_
        rintro e w18 ⟨rfl, oA, O⟩
        have O := Tch.of_only O
        clear oI
        replace B := B.tch O (by simp; omega)
        replace oS := oS.tch O (fun h => by have := loS h; simp; omega)
        have NN := N.size
        replace N := N.trans (O.below (B := w.heap.size) (by omega) (by simp; omega))
        have zm18 := O.size
        clear O NN
        have loA := oA.rd.lt
        have v2 : decide ((1 : Int) + (ys.length : Int) < 0) = false := by simp; omega
        go_wp2_with fail
        refine (heldByteS_any w18 _ _ _ ys.length 1 oA.rd hy (by decide) (by decide)).mono ?_
        rintro e w19 ⟨rfl, rfl⟩
        go_upto_region 36 with fail
        have CY : Hid (∀ W, Below w19.heap.size w19 W → (W.cell? ⟨w.heap.size, 0, none⟩ = some (.slice a2 X2.length c2) ∧ W.cell? ⟨w.heap.size, 1, none⟩ = some (.slice a2' X2'.length c2') ∧ W.cell? ⟨w.heap.size, 2, none⟩ = some (.int .i64 n2) ∧ W.cell? ⟨w.heap.size, 3, none⟩ = some (.int .i64 n2') ∧ W.cell? ⟨w.heap.size, 4, none⟩ = some (.string t2) ∧ W.cell? ⟨w.heap.size, 5, none⟩ = some (.string t2') ∧ W.cell? ⟨w.heap.size, 6, none⟩ = some (.int .i64 n2''))) := fun W m => ⟨(B.up m).cell 0, (B.up m).cell 1, (B.up m).cell 2, (B.up m).cell 3, (B.up m).cell 4, (B.up m).cell 5, (B.up m).cell 6⟩
        have nd : Below w19.heap.size w19 w19.drew := (Below.refl _ _).drew
        have TB0 : Hid (∀ W, Below w19.heap.size w19 W → Calls Try.prog 7 #[.slice a0 X0.length c0] W fun e w' => ∃ q, e = .returned (.slice (some ⟨q, 0, none⟩) X0.length X0.length) ∧ Blk w' q .u8 X0 ∧ Below W.heap.size W w') := fun W m => (toByteS_any W g0 a0 c0 X0 ((hX0.up N).up m) q0).mono (by
          rintro e w' ⟨rfl, k, l⟩
          exact ⟨_, rfl, k, l⟩)
        have TB1 : Hid (∀ W, Below w19.heap.size w19 W → Calls Try.prog 7 #[.slice a1 X1.length c1] W fun e w' => ∃ q, e = .returned (.slice (some ⟨q, 0, none⟩) X1.length X1.length) ∧ Blk w' q .u8 X1 ∧ Below W.heap.size W w') := fun W m => (toByteS_any W g1 a1 c1 X1 ((hX1.up N).up m) q1).mono (by
          rintro e w' ⟨rfl, k, l⟩
          exact ⟨_, rfl, k, l⟩)
        have TT : Hid (∀ W, Below w19.heap.size w19 W → Calls Try.prog 8 #[.agg #[.slice a2 X2.length c2, .slice a2' X2'.length c2', .int .i64 n2, .int .i64 n2', .string t2, .string t2', .int .i64 n2'']] W fun e w' => ∃ f2 f2', e = .returned (.agg #[.slice (some ⟨f2, 0, none⟩) X2.length X2.length, .slice (some ⟨f2', 0, none⟩) X2'.length X2'.length, .int .i64 n2, .int .i64 n2', .string t2, .string t2', .int .i64 n2'']) ∧ Blk w' f2 .u8 X2 ∧ Blk w' f2' .u8 X2' ∧ Below W.heap.size W w') := fun W m => (toTicketState_any W n2 n2' t2 t2' n2'' g2 a2 c2 X2 g2' a2' c2' X2' ((hX2.up N).up m) ((hX2'.up N).up m) (by omega) (by omega)).mono (by
          rintro e w' ⟨f2, f2', rfl, h2, h2', _, _, l⟩
          exact ⟨f2, f2', rfl, h2, h2', l⟩)
        go_region_held3 (fun W => W.cell? ⟨w.heap.size, 0, none⟩ = some (.slice a2 X2.length c2) ∧ W.cell? ⟨w.heap.size, 1, none⟩ = some (.slice a2' X2'.length c2') ∧ W.cell? ⟨w.heap.size, 2, none⟩ = some (.int .i64 n2) ∧ W.cell? ⟨w.heap.size, 3, none⟩ = some (.int .i64 n2') ∧ W.cell? ⟨w.heap.size, 4, none⟩ = some (.string t2) ∧ W.cell? ⟨w.heap.size, 5, none⟩ = some (.string t2') ∧ W.cell? ⟨w.heap.size, 6, none⟩ = some (.int .i64 n2''))
          (first | exact (unhide CY) _ m20 | exact (unhide CY) _ b3 | exact (unhide CY) _ b2 | exact (unhide CY) _ b1 | exact (unhide CY) _ nd)
          (first
            | (go_at_call 9; refine (IM v3 _ _ _ dB0.own0.rd (by simp) (Nat.le_refl _) _ _ _ dB1.own0.rd (by simp) (Nat.le_refl _) _ _ _ dB2.own0.rd (by simp) (Nat.le_refl _) _ _ _ dB2'.own0.rd (by simp) (Nat.le_refl _) (nxt N b3)).mono ?_; rintro r w20 ⟨⟨aoJ, coJ, goJ, rfl, oJ, poJ, koJ, roJ⟩, l4⟩; (have m20 := nxt b3 l4))
            | (go_at_call 8; refine ((unhide TT) _ b2).mono ?_; rintro r v3 ⟨d2, d2', rfl, dB2, dB2', l3⟩; (have b3 := nxt b2 l3); (replace dB0 := dB0.up l3); (replace dB1 := dB1.up l3))
            | (go_at_call 7; refine ((unhide TB1) _ b1).mono ?_; rintro r v2 ⟨d1, rfl, dB1, l2⟩; (have b2 := nxt b1 l2); (replace dB0 := dB0.up l2))
            | (go_at_call 7; refine ((unhide TB0) _ nd).mono ?_; rintro r v1 ⟨d0, rfl, dB0, l1⟩; (have b1 := nxt nd l1))
            | fail)
        have zm20 := m20.size
        have zbm20 := b3.size
        have loJ := oJ.rd.lt
        clear poJ koJ nd CY b1 b2 b3 l1 l2 l3 l4 dB0 dB1 dB2 dB2' TB0 TB1 TT
        replace B := B.up m20
        replace oS := oS.up m20
        replace oA := oA.up m20
        replace N := nxt N m20
        clear m20
        go_wp2_with fail
        refine (eqByteS_same w20 _ _ _ _ _ _ ys oJ.rd oS.rd hy).mono ?_
        rintro e w21 ⟨rfl, m21⟩
        have zm21 := m21.size
        replace B := B.up m21
        replace oS := oS.up m21
        replace oA := oA.up m21
        replace oJ := oJ.up m21
        replace N := nxt N m21
        clear m21
        go_wp2_with fail
        refine (heldByteS_any w21 _ _ _ ys.length 1 oA.rd hy (by decide) (by decide)).mono ?_
        rintro e w22 ⟨rfl, rfl⟩
        go_wp2
        go_ret
        exact ⟨rfl, N⟩
      · skip
        have SZ := fun W => hide (szTicketState_any W n2 n2' t2 t2' n2'' a2 X2.length c2 a2' X2'.length c2' 1048576 lX2 lX2' lt2 lt2' (by decide) (by decide))
        simp only [if_pos (show ((1048576 : Int) < (X2.length : Int) + (X2'.length : Int) + (t2.size : Int) + (t2'.size : Int)) by omega)] at SZ
        go_enter Try.func3, Try.ntmps3
        go_upto_region 1 with fail
        have B : RwC (w.alloc (.cells #[.slice a2 X2.length c2, .slice a2' X2'.length c2', .int .i64 n2, .int .i64 n2', .string t2, .string t2', .int .i64 n2''] 24)) w.heap.size [.slice a2 X2.length c2, .slice a2' X2'.length c2', .int .i64 n2, .int .i64 n2', .string t2, .string t2', .int .i64 n2''] 24 := RwC.new w _ _
        have N : Below w.heap.size w (w.alloc (.cells #[.slice a2 X2.length c2, .slice a2' X2'.length c2', .int .i64 n2, .int .i64 n2', .string t2, .string t2', .int .i64 n2''] 24)) := (Below.refl _ _).alloc (Nat.le_refl _) _
        have zN : (w.alloc (.cells #[.slice a2 X2.length c2, .slice a2' X2'.length c2', .int .i64 n2, .int .i64 n2', .string t2, .string t2', .int .i64 n2''] 24)).heap.size = w.heap.size + 1 := by simp
        generalize w.alloc (.cells #[.slice a2 X2.length c2, .slice a2' X2'.length c2', .int .i64 n2, .int .i64 n2', .string t2, .string t2', .int .i64 n2''] 24) = w0 at *
        have lB : w.heap.size < w0.heap.size := by omega
        clear zN
        have Bc0 := B.cell 0
        have Bc1 := B.cell 1
        have Bc2 := B.cell 2
        have Bc3 := B.cell 3
        have Bc4 := B.cell 4
        have Bc5 := B.cell 5
        have Bc6 := B.cell 6
        go_wp2_with fail
        refine ((SZ w0).out).mono ?_
        rintro e w1 ⟨rfl, m1⟩
        have zm1 := m1.size
        clear Bc0 Bc1 Bc2 Bc3 Bc4 Bc5 Bc6
        replace B := B.up m1
        replace N := nxt N m1
        clear m1
        go_wp2
        go_ret
        exact ⟨rfl, N⟩
    · have u1 : decide ((1048576 : Int) < (X1.length : Int)) = true := by simp; omega
      go_enter Try.func3, Try.ntmps3
      go_upto_region 1 with fail
      have B : RwC (w.alloc (.cells #[.slice a2 X2.length c2, .slice a2' X2'.length c2', .int .i64 n2, .int .i64 n2', .string t2, .string t2', .int .i64 n2''] 24)) w.heap.size [.slice a2 X2.length c2, .slice a2' X2'.length c2', .int .i64 n2, .int .i64 n2', .string t2, .string t2', .int .i64 n2''] 24 := RwC.new w _ _
      have N : Below w.heap.size w (w.alloc (.cells #[.slice a2 X2.length c2, .slice a2' X2'.length c2', .int .i64 n2, .int .i64 n2', .string t2, .string t2', .int .i64 n2''] 24)) := (Below.refl _ _).alloc (Nat.le_refl _) _
      have zN : (w.alloc (.cells #[.slice a2 X2.length c2, .slice a2' X2'.length c2', .int .i64 n2, .int .i64 n2', .string t2, .string t2', .int .i64 n2''] 24)).heap.size = w.heap.size + 1 := by simp
      generalize w.alloc (.cells #[.slice a2 X2.length c2, .slice a2' X2'.length c2', .int .i64 n2, .int .i64 n2', .string t2, .string t2', .int .i64 n2''] 24) = w0 at *
      have lB : w.heap.size < w0.heap.size := by omega
      clear zN
      go_wp2
      go_ret
      exact ⟨rfl, N⟩
  · have u0 : decide ((1048576 : Int) < (X0.length : Int)) = true := by simp; omega
    go_enter Try.func3, Try.ntmps3
    go_upto_region 1 with fail
    have B : RwC (w.alloc (.cells #[.slice a2 X2.length c2, .slice a2' X2'.length c2', .int .i64 n2, .int .i64 n2', .string t2, .string t2', .int .i64 n2''] 24)) w.heap.size [.slice a2 X2.length c2, .slice a2' X2'.length c2', .int .i64 n2, .int .i64 n2', .string t2, .string t2', .int .i64 n2''] 24 := RwC.new w _ _
    have N : Below w.heap.size w (w.alloc (.cells #[.slice a2 X2.length c2, .slice a2' X2'.length c2', .int .i64 n2, .int .i64 n2', .string t2, .string t2', .int .i64 n2''] 24)) := (Below.refl _ _).alloc (Nat.le_refl _) _
    have zN : (w.alloc (.cells #[.slice a2 X2.length c2, .slice a2' X2'.length c2', .int .i64 n2, .int .i64 n2', .string t2, .string t2', .int .i64 n2''] 24)).heap.size = w.heap.size + 1 := by simp
    generalize w.alloc (.cells #[.slice a2 X2.length c2, .slice a2' X2'.length c2', .int .i64 n2, .int .i64 n2', .string t2, .string t2', .int .i64 n2''] 24) = w0 at *
    have lB : w.heap.size < w0.heap.size := by omega
    clear zN
    go_wp2
    go_ret
    exact ⟨rfl, N⟩
end Go.Proofs.Ytcljoaknaegpmaa
