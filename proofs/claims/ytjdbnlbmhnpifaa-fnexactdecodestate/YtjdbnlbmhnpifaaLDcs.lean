
/-
  The law of DecodeState (written by gens/lsr.py).
-/
import Derived.Test.YtjdbnlbmhnpifaaDsI
import Derived.Test.YtjdbnlbmhnpifaaTsR
import Derived.Test.YtjdbnlbmhnpifaaDsR
namespace Go.Proofs.Ytjdbnlbmhnpifaa
open Go Go.RowKit

set_option maxHeartbeats 8000000 in
theorem dcs_law (w : World) (g0 : Nat) (a0 : Option Addr) (c0 : Nat) (X0 : List Int) (hX0 : Rd w g0 a0 .u8 X0) (bX0 : Byt X0) :
    Calls Try.prog 5 #[.slice a0 X0.length c0] w fun e w' => e = .returned (.bool true) ∧ Below w.heap.size w w' := by
  by_cases q0 : X0.length ≤ 1048576
  · have u0 : decide ((1048576 : Int) < (X0.length : Int)) = false := by simp; omega
    have SP : ∀ W g a c, Rd W g a .u8 X0 → (a = none → c = 0) → X0.length ≤ c → Calls Try.prog 17 #[.slice a X0.length c] W fun e w' => NewR W.heap.size w' e (dsB X0) (rX X0) (rY X0) (rM X0) (rL X0) (rH X0) (rP X0) (rE X0) ∧ Below W.heap.size W w' := fun W g a c h _ _ => specDcS_any W g a c X0 h bX0 q0
    have IM : ∀ W g a c, Rd W g a .u8 X0 → (a = none → c = 0) → X0.length ≤ c → Calls Try.prog 19 #[.slice a X0.length c] W fun e w' => NewR W.heap.size w' e (dsB X0) (rX X0) (rY X0) (rM X0) (rL X0) (rH X0) (rP X0) (rE X0) ∧ Below W.heap.size W w' := fun W g a c h p k => implDcS_any W g a c X0 h bX0 p k q0
    have hx := rX_len X0
    have hy := rY_len X0
    unfold NewR at SP IM
    generalize dsB X0 = gd at *
    generalize rX X0 = xs at *
    generalize rY X0 = ys at *
    generalize rM X0 = md at *
    generalize rL X0 = li at *
    generalize (ByteArray.mk ⟨rH X0⟩) = ho at *
    generalize (ByteArray.mk ⟨rP X0⟩) = pr at *
    generalize rE X0 = ea at *
    go_enter Try.func5, Try.ntmps5
    have N : Below w.heap.size w w := Below.refl _ _
    go_wp2_with fail
    refine (toByteS_any w g0 a0 c0 X0 (hX0.up N) q0).mono ?_
    rintro e w1 ⟨rfl, mB0, m1⟩
    have zm1 := m1.size
    replace N := nxt N m1
    clear m1
    obtain ⟨m0, em0⟩ : ∃ b, b = w.heap.size := ⟨_, rfl⟩
    rw [← em0] at mB0 ⊢
    have lmB0 := mB0.lt
    have ymB0 : w.heap.size ≤ m0 := Nat.le_of_eq em0.symm
    clear em0
    go_wp2_with fail
    refine (SP w1 _ _ _ mB0.own0.rd (by simp) (Nat.le_refl _)).mono ?_
    rintro e w2 ⟨⟨aoS, coS, goS, aoS', coS', goS', rfl, oS, oS', neoS, loS, koS, loS', koS'⟩, m2⟩
    have zm2 := m2.size
    replace mB0 := mB0.up m2
    replace N := nxt N m2
    clear m2
    clear mB0
    have bS : RwC (w2.alloc (.cells #[.bool gd, .slice aoS xs.length coS, .slice aoS' ys.length coS', .int .i64 md, .int .i64 li, .string ho, .string pr, .int .i64 ea] 36)) w2.heap.size [.bool gd, .slice aoS xs.length coS, .slice aoS' ys.length coS', .int .i64 md, .int .i64 li, .string ho, .string pr, .int .i64 ea] 36 := RwC.new w2 _ _
    have m3 : Below w2.heap.size w2 (w2.alloc (.cells #[.bool gd, .slice aoS xs.length coS, .slice aoS' ys.length coS', .int .i64 md, .int .i64 li, .string ho, .string pr, .int .i64 ea] 36)) := (Below.refl _ _).alloc (Nat.le_refl _) _
    have zm3 := m3.size
    obtain ⟨pbS, ebS⟩ : ∃ b, b = w2.heap.size := ⟨_, rfl⟩
    have ybS : w2.heap.size ≤ pbS := Nat.le_of_eq ebS.symm
    rw [← ebS] at bS
    have lbS := bS.lt
    replace oS := oS.up m3
    replace oS' := oS'.up m3
    replace N := nxt N m3
    clear m3
    go_wp2_with fail
    rw [← ebS]
    clear ebS
    generalize w2.alloc (.cells #[.bool gd, .slice aoS xs.length coS, .slice aoS' ys.length coS', .int .i64 md, .int .i64 li, .string ho, .string pr, .int .i64 ea] 36) = w3 at *
    refine (toByteS_any w3 g0 a0 c0 X0 (hX0.up N) q0).mono ?_
    rintro e w4 ⟨rfl, xB0, m4⟩
    have zm4 := m4.size
    replace oS := oS.up m4
    replace oS' := oS'.up m4
    replace bS := bS.up m4
    replace N := nxt N m4
    clear m4
    obtain ⟨x0, ex0⟩ : ∃ b, b = w3.heap.size := ⟨_, rfl⟩
    rw [← ex0] at xB0 ⊢
    have lxB0 := xB0.lt
    have yxB0 : w3.heap.size ≤ x0 := Nat.le_of_eq ex0.symm
    clear ex0
    go_wp2_with fail
    refine (IM w4 _ _ _ xB0.own0.rd (by simp) (Nat.le_refl _)).mono ?_
    rintro e w5 ⟨⟨aoI, coI, goI, aoI', coI', goI', rfl, oI, oI', neoI, loI, koI, loI', koI'⟩, m5⟩
    have zm5 := m5.size
    replace oS := oS.up m5
    replace oS' := oS'.up m5
    replace bS := bS.up m5
    replace xB0 := xB0.up m5
    replace N := nxt N m5
    clear m5
    have bI : RwC (w5.alloc (.cells #[.bool gd, .slice aoI xs.length coI, .slice aoI' ys.length coI', .int .i64 md, .int .i64 li, .string ho, .string pr, .int .i64 ea] 36)) w5.heap.size [.bool gd, .slice aoI xs.length coI, .slice aoI' ys.length coI', .int .i64 md, .int .i64 li, .string ho, .string pr, .int .i64 ea] 36 := RwC.new w5 _ _
    have m6 : Below w5.heap.size w5 (w5.alloc (.cells #[.bool gd, .slice aoI xs.length coI, .slice aoI' ys.length coI', .int .i64 md, .int .i64 li, .string ho, .string pr, .int .i64 ea] 36)) := (Below.refl _ _).alloc (Nat.le_refl _) _
    have zm6 := m6.size
    obtain ⟨pbI, ebI⟩ : ∃ b, b = w5.heap.size := ⟨_, rfl⟩
    have ybI : w5.heap.size ≤ pbI := Nat.le_of_eq ebI.symm
    rw [← ebI] at bI
    have lbI := bI.lt
    replace oS := oS.up m6
    replace oS' := oS'.up m6
    replace bS := bS.up m6
    replace xB0 := xB0.up m6
    replace oI := oI.up m6
    replace oI' := oI'.up m6
    replace N := nxt N m6
    clear m6
    have bIc0 : (w5.alloc (.cells #[.bool gd, .slice aoI xs.length coI, .slice aoI' ys.length coI', .int .i64 md, .int .i64 li, .string ho, .string pr, .int .i64 ea] 36)).cell? ⟨pbI, 0, none⟩ = some (.bool gd) := bI.cell 0
    have bIc1 : (w5.alloc (.cells #[.bool gd, .slice aoI xs.length coI, .slice aoI' ys.length coI', .int .i64 md, .int .i64 li, .string ho, .string pr, .int .i64 ea] 36)).cell? ⟨pbI, 1, none⟩ = some (.slice aoI xs.length coI) := bI.cell 1
    have bIc2 : (w5.alloc (.cells #[.bool gd, .slice aoI xs.length coI, .slice aoI' ys.length coI', .int .i64 md, .int .i64 li, .string ho, .string pr, .int .i64 ea] 36)).cell? ⟨pbI, 2, none⟩ = some (.slice aoI' ys.length coI') := bI.cell 2
    have bIc3 : (w5.alloc (.cells #[.bool gd, .slice aoI xs.length coI, .slice aoI' ys.length coI', .int .i64 md, .int .i64 li, .string ho, .string pr, .int .i64 ea] 36)).cell? ⟨pbI, 3, none⟩ = some (.int .i64 md) := bI.cell 3
    have bIc4 : (w5.alloc (.cells #[.bool gd, .slice aoI xs.length coI, .slice aoI' ys.length coI', .int .i64 md, .int .i64 li, .string ho, .string pr, .int .i64 ea] 36)).cell? ⟨pbI, 4, none⟩ = some (.int .i64 li) := bI.cell 4
    have bIc5 : (w5.alloc (.cells #[.bool gd, .slice aoI xs.length coI, .slice aoI' ys.length coI', .int .i64 md, .int .i64 li, .string ho, .string pr, .int .i64 ea] 36)).cell? ⟨pbI, 5, none⟩ = some (.string ho) := bI.cell 5
    have bIc6 : (w5.alloc (.cells #[.bool gd, .slice aoI xs.length coI, .slice aoI' ys.length coI', .int .i64 md, .int .i64 li, .string ho, .string pr, .int .i64 ea] 36)).cell? ⟨pbI, 6, none⟩ = some (.string pr) := bI.cell 6
    have bIc7 : (w5.alloc (.cells #[.bool gd, .slice aoI xs.length coI, .slice aoI' ys.length coI', .int .i64 md, .int .i64 li, .string ho, .string pr, .int .i64 ea] 36)).cell? ⟨pbI, 7, none⟩ = some (.int .i64 ea) := bI.cell 7
    have bSc0 : (w5.alloc (.cells #[.bool gd, .slice aoI xs.length coI, .slice aoI' ys.length coI', .int .i64 md, .int .i64 li, .string ho, .string pr, .int .i64 ea] 36)).cell? ⟨pbS, 0, none⟩ = some (.bool gd) := bS.cell 0
    have bSc1 : (w5.alloc (.cells #[.bool gd, .slice aoI xs.length coI, .slice aoI' ys.length coI', .int .i64 md, .int .i64 li, .string ho, .string pr, .int .i64 ea] 36)).cell? ⟨pbS, 1, none⟩ = some (.slice aoS xs.length coS) := bS.cell 1
    have bSc2 : (w5.alloc (.cells #[.bool gd, .slice aoI xs.length coI, .slice aoI' ys.length coI', .int .i64 md, .int .i64 li, .string ho, .string pr, .int .i64 ea] 36)).cell? ⟨pbS, 2, none⟩ = some (.slice aoS' ys.length coS') := bS.cell 2
    have bSc3 : (w5.alloc (.cells #[.bool gd, .slice aoI xs.length coI, .slice aoI' ys.length coI', .int .i64 md, .int .i64 li, .string ho, .string pr, .int .i64 ea] 36)).cell? ⟨pbS, 3, none⟩ = some (.int .i64 md) := bS.cell 3
    have bSc4 : (w5.alloc (.cells #[.bool gd, .slice aoI xs.length coI, .slice aoI' ys.length coI', .int .i64 md, .int .i64 li, .string ho, .string pr, .int .i64 ea] 36)).cell? ⟨pbS, 4, none⟩ = some (.int .i64 li) := bS.cell 4
    have bSc5 : (w5.alloc (.cells #[.bool gd, .slice aoI xs.length coI, .slice aoI' ys.length coI', .int .i64 md, .int .i64 li, .string ho, .string pr, .int .i64 ea] 36)).cell? ⟨pbS, 5, none⟩ = some (.string ho) := bS.cell 5
    have bSc6 : (w5.alloc (.cells #[.bool gd, .slice aoI xs.length coI, .slice aoI' ys.length coI', .int .i64 md, .int .i64 li, .string ho, .string pr, .int .i64 ea] 36)).cell? ⟨pbS, 6, none⟩ = some (.string pr) := bS.cell 6
    have bSc7 : (w5.alloc (.cells #[.bool gd, .slice aoI xs.length coI, .slice aoI' ys.length coI', .int .i64 md, .int .i64 li, .string ho, .string pr, .int .i64 ea] 36)).cell? ⟨pbS, 7, none⟩ = some (.int .i64 ea) := bS.cell 7
    go_wp2_with fail
    rw [← ebI]
    clear ebI
    generalize w5.alloc (.cells #[.bool gd, .slice aoI xs.length coI, .slice aoI' ys.length coI', .int .i64 md, .int .i64 li, .string ho, .string pr, .int .i64 ea] 36) = w6 at *
    refine (eqStateResult_same w6 gd md li ho pr ea _ _ _ _ _ _ xs oI.rd oS.rd hx _ _ _ _ _ _ ys oI'.rd oS'.rd hy).mono ?_
    rintro e w7 ⟨rfl, m7⟩
    have zm7 := m7.size
    clear bIc0 bIc1 bIc2 bIc3 bIc4 bIc5 bIc6 bIc7
    clear bSc0 bSc1 bSc2 bSc3 bSc4 bSc5 bSc6 bSc7
    replace oS := oS.up m7
    replace oS' := oS'.up m7
    replace bS := bS.up m7
    replace xB0 := xB0.up m7
    replace oI := oI.up m7
    replace oI' := oI'.up m7
    replace bI := bI.up m7
    replace N := nxt N m7
    clear m7
    go_wp2_with fail
    refine (toByteS_any w7 g0 a0 c0 X0 (hX0.up N) q0).mono ?_
    rintro e w8 ⟨rfl, eB0, m8⟩
    have zm8 := m8.size
    replace oS := oS.up m8
    replace oS' := oS'.up m8
    replace bS := bS.up m8
    replace xB0 := xB0.up m8
    replace oI := oI.up m8
    replace oI' := oI'.up m8
    replace bI := bI.up m8
    replace N := nxt N m8
    clear m8
    obtain ⟨e0, ee0⟩ : ∃ b, b = w7.heap.size := ⟨_, rfl⟩
    rw [← ee0] at eB0 ⊢
    have leB0 := eB0.lt
    have yeB0 : w7.heap.size ≤ e0 := Nat.le_of_eq ee0.symm
    clear ee0
    go_wp2_with fail
    refine (eqByteS_same w8 _ _ _ _ _ _ X0 xB0.own0.rd eB0.own0.rd q0).mono ?_
    rintro e w9 ⟨rfl, m9⟩
    have zm9 := m9.size
    replace oS := oS.up m9
    replace oS' := oS'.up m9
    replace bS := bS.up m9
    replace xB0 := xB0.up m9
    replace oI := oI.up m9
    replace oI' := oI'.up m9
    replace bI := bI.up m9
    replace eB0 := eB0.up m9
    replace N := nxt N m9
    clear m9
    clear eB0
    go_wp2_with fail
    refine (markByteS_any w9 _ _ _ X0 (1) xB0.own0 q0 (by omega) (by omega)).mono ?_
    rintro e w10 ⟨rfl, _, O⟩
    have O := Tch.of_only O
    clear xB0
    replace oS := oS.tch O (fun _ => by simp; omega)
    replace oS' := oS'.tch O (fun _ => by simp; omega)
    replace bS := bS.tch O (by simp; omega)
    replace oI := oI.tch O (fun _ => by simp; omega)
    replace oI' := oI'.tch O (fun _ => by simp; omega)
    replace bI := bI.tch O (by simp; omega)
    have NN := N.size
    replace N := N.trans (O.below (B := w.heap.size) (by omega) (by simp; omega))
    have zm10 := O.size
    clear O NN
    have v1 : decide (1 + (X0.length : Int) < 0) = false := by simp; omega
    have bIc0 : w10.cell? ⟨pbI, 0, none⟩ = some (.bool gd) := bI.cell 0
    have bIc1 : w10.cell? ⟨pbI, 1, none⟩ = some (.slice aoI xs.length coI) := bI.cell 1
    have bIc2 : w10.cell? ⟨pbI, 2, none⟩ = some (.slice aoI' ys.length coI') := bI.cell 2
    have bIc3 : w10.cell? ⟨pbI, 3, none⟩ = some (.int .i64 md) := bI.cell 3
    have bIc4 : w10.cell? ⟨pbI, 4, none⟩ = some (.int .i64 li) := bI.cell 4
    have bIc5 : w10.cell? ⟨pbI, 5, none⟩ = some (.string ho) := bI.cell 5
    have bIc6 : w10.cell? ⟨pbI, 6, none⟩ = some (.string pr) := bI.cell 6
    have bIc7 : w10.cell? ⟨pbI, 7, none⟩ = some (.int .i64 ea) := bI.cell 7
    have bSc0 : w10.cell? ⟨pbS, 0, none⟩ = some (.bool gd) := bS.cell 0
    have bSc1 : w10.cell? ⟨pbS, 1, none⟩ = some (.slice aoS xs.length coS) := bS.cell 1
    have bSc2 : w10.cell? ⟨pbS, 2, none⟩ = some (.slice aoS' ys.length coS') := bS.cell 2
    have bSc3 : w10.cell? ⟨pbS, 3, none⟩ = some (.int .i64 md) := bS.cell 3
    have bSc4 : w10.cell? ⟨pbS, 4, none⟩ = some (.int .i64 li) := bS.cell 4
    have bSc5 : w10.cell? ⟨pbS, 5, none⟩ = some (.string ho) := bS.cell 5
    have bSc6 : w10.cell? ⟨pbS, 6, none⟩ = some (.string pr) := bS.cell 6
    have bSc7 : w10.cell? ⟨pbS, 7, none⟩ = some (.int .i64 ea) := bS.cell 7
    go_wp2_with fail
    refine (eqStateResult_same w10 gd md li ho pr ea _ _ _ _ _ _ xs oI.rd oS.rd hx _ _ _ _ _ _ ys oI'.rd oS'.rd hy).mono ?_
    rintro e w11 ⟨rfl, m11⟩
    have zm11 := m11.size
    clear bIc0 bIc1 bIc2 bIc3 bIc4 bIc5 bIc6 bIc7
    clear bSc0 bSc1 bSc2 bSc3 bSc4 bSc5 bSc6 bSc7
    replace oS := oS.up m11
    replace oS' := oS'.up m11
    replace bS := bS.up m11
    replace oI := oI.up m11
    replace oI' := oI'.up m11
    replace bI := bI.up m11
    replace N := nxt N m11
    clear m11
    have bIc0 : w11.cell? ⟨pbI, 0, none⟩ = some (.bool gd) := bI.cell 0
    have bIc1 : w11.cell? ⟨pbI, 1, none⟩ = some (.slice aoI xs.length coI) := bI.cell 1
    have bIc2 : w11.cell? ⟨pbI, 2, none⟩ = some (.slice aoI' ys.length coI') := bI.cell 2
    have bIc3 : w11.cell? ⟨pbI, 3, none⟩ = some (.int .i64 md) := bI.cell 3
    have bIc4 : w11.cell? ⟨pbI, 4, none⟩ = some (.int .i64 li) := bI.cell 4
    have bIc5 : w11.cell? ⟨pbI, 5, none⟩ = some (.string ho) := bI.cell 5
    have bIc6 : w11.cell? ⟨pbI, 6, none⟩ = some (.string pr) := bI.cell 6
    have bIc7 : w11.cell? ⟨pbI, 7, none⟩ = some (.int .i64 ea) := bI.cell 7
    go_wp2_with fail
    refine (markStateResult_any w11 gd md li ho pr ea _ _ _ xs _ _ _ ys 1 oI oI' hx hy ⟨neoI, by omega, by omega⟩ (by decide) (by decide)).mono ?_
    rintro e w12 ⟨rfl, oA, oA', O⟩
    clear bIc0 bIc1 bIc2 bIc3 bIc4 bIc5 bIc6 bIc7
    clear oI oI'
    replace oS := oS.tch O (fun _ => by simp; omega)
    replace oS' := oS'.tch O (fun _ => by simp; omega)
    replace bS := bS.tch O (by simp; omega)
    replace bI := bI.tch O (by simp; omega)
    have NN := N.size
    replace N := N.trans (O.below (B := w.heap.size) (by omega) (by simp; omega))
    have zm12 := O.size
    clear O NN
    have v2 : decide ((1 : Int) + (xs.length : Int) + (ys.length : Int) < 0) = false := by simp; omega
    have bIc0 : w12.cell? ⟨pbI, 0, none⟩ = some (.bool gd) := bI.cell 0
    have bIc1 : w12.cell? ⟨pbI, 1, none⟩ = some (.slice aoI xs.length coI) := bI.cell 1
    have bIc2 : w12.cell? ⟨pbI, 2, none⟩ = some (.slice aoI' ys.length coI') := bI.cell 2
    have bIc3 : w12.cell? ⟨pbI, 3, none⟩ = some (.int .i64 md) := bI.cell 3
    have bIc4 : w12.cell? ⟨pbI, 4, none⟩ = some (.int .i64 li) := bI.cell 4
    have bIc5 : w12.cell? ⟨pbI, 5, none⟩ = some (.string ho) := bI.cell 5
    have bIc6 : w12.cell? ⟨pbI, 6, none⟩ = some (.string pr) := bI.cell 6
    have bIc7 : w12.cell? ⟨pbI, 7, none⟩ = some (.int .i64 ea) := bI.cell 7
    go_wp2_with fail
    refine (heldStateResult_any w12 gd md li ho pr ea _ _ _ xs.length _ _ _ ys.length 1 oA.rd oA'.rd hx hy (by decide) (by decide)).mono ?_
    rintro e w13 ⟨rfl, m13⟩
    have zm13 := m13.size
    clear bIc0 bIc1 bIc2 bIc3 bIc4 bIc5 bIc6 bIc7
    replace oS := oS.up m13
    replace oS' := oS'.up m13
    replace bS := bS.up m13
    replace bI := bI.up m13
    replace oA := oA.up m13
    replace oA' := oA'.up m13
    replace N := nxt N m13
    clear m13
    go_wp2_with fail
    refine (toByteS_any w13 g0 a0 c0 X0 (hX0.up N) q0).mono ?_
    rintro e w14 ⟨rfl, dB0, m14⟩
    have zm14 := m14.size
    replace oS := oS.up m14
    replace oS' := oS'.up m14
    replace bS := bS.up m14
    replace bI := bI.up m14
    replace oA := oA.up m14
    replace oA' := oA'.up m14
    replace N := nxt N m14
    clear m14
    obtain ⟨d0, ed0⟩ : ∃ b, b = w13.heap.size := ⟨_, rfl⟩
    rw [← ed0] at dB0 ⊢
    have ldB0 := dB0.lt
    have ydB0 : w13.heap.size ≤ d0 := Nat.le_of_eq ed0.symm
    clear ed0
    go_wp2_with fail
    refine (IM w14 _ _ _ dB0.own0.rd (by simp) (Nat.le_refl _)).mono ?_
    rintro e w15 ⟨⟨aoJ, coJ, goJ, aoJ', coJ', goJ', rfl, oJ, oJ', neoJ, loJ, koJ, loJ', koJ'⟩, m15⟩
    have zm15 := m15.size
    replace oS := oS.up m15
    replace oS' := oS'.up m15
    replace bS := bS.up m15
    replace bI := bI.up m15
    replace oA := oA.up m15
    replace oA' := oA'.up m15
    replace dB0 := dB0.up m15
    replace N := nxt N m15
    clear m15
    clear dB0
    have bJ : RwC (w15.alloc (.cells #[.bool gd, .slice aoJ xs.length coJ, .slice aoJ' ys.length coJ', .int .i64 md, .int .i64 li, .string ho, .string pr, .int .i64 ea] 36)) w15.heap.size [.bool gd, .slice aoJ xs.length coJ, .slice aoJ' ys.length coJ', .int .i64 md, .int .i64 li, .string ho, .string pr, .int .i64 ea] 36 := RwC.new w15 _ _
    have m16 : Below w15.heap.size w15 (w15.alloc (.cells #[.bool gd, .slice aoJ xs.length coJ, .slice aoJ' ys.length coJ', .int .i64 md, .int .i64 li, .string ho, .string pr, .int .i64 ea] 36)) := (Below.refl _ _).alloc (Nat.le_refl _) _
    have zm16 := m16.size
    obtain ⟨pbJ, ebJ⟩ : ∃ b, b = w15.heap.size := ⟨_, rfl⟩
    have ybJ : w15.heap.size ≤ pbJ := Nat.le_of_eq ebJ.symm
    rw [← ebJ] at bJ
    have lbJ := bJ.lt
    replace oS := oS.up m16
    replace oS' := oS'.up m16
    replace bS := bS.up m16
    replace bI := bI.up m16
    replace oA := oA.up m16
    replace oA' := oA'.up m16
    replace oJ := oJ.up m16
    replace oJ' := oJ'.up m16
    replace N := nxt N m16
    clear m16
    have bJc0 : (w15.alloc (.cells #[.bool gd, .slice aoJ xs.length coJ, .slice aoJ' ys.length coJ', .int .i64 md, .int .i64 li, .string ho, .string pr, .int .i64 ea] 36)).cell? ⟨pbJ, 0, none⟩ = some (.bool gd) := bJ.cell 0
    have bJc1 : (w15.alloc (.cells #[.bool gd, .slice aoJ xs.length coJ, .slice aoJ' ys.length coJ', .int .i64 md, .int .i64 li, .string ho, .string pr, .int .i64 ea] 36)).cell? ⟨pbJ, 1, none⟩ = some (.slice aoJ xs.length coJ) := bJ.cell 1
    have bJc2 : (w15.alloc (.cells #[.bool gd, .slice aoJ xs.length coJ, .slice aoJ' ys.length coJ', .int .i64 md, .int .i64 li, .string ho, .string pr, .int .i64 ea] 36)).cell? ⟨pbJ, 2, none⟩ = some (.slice aoJ' ys.length coJ') := bJ.cell 2
    have bJc3 : (w15.alloc (.cells #[.bool gd, .slice aoJ xs.length coJ, .slice aoJ' ys.length coJ', .int .i64 md, .int .i64 li, .string ho, .string pr, .int .i64 ea] 36)).cell? ⟨pbJ, 3, none⟩ = some (.int .i64 md) := bJ.cell 3
    have bJc4 : (w15.alloc (.cells #[.bool gd, .slice aoJ xs.length coJ, .slice aoJ' ys.length coJ', .int .i64 md, .int .i64 li, .string ho, .string pr, .int .i64 ea] 36)).cell? ⟨pbJ, 4, none⟩ = some (.int .i64 li) := bJ.cell 4
    have bJc5 : (w15.alloc (.cells #[.bool gd, .slice aoJ xs.length coJ, .slice aoJ' ys.length coJ', .int .i64 md, .int .i64 li, .string ho, .string pr, .int .i64 ea] 36)).cell? ⟨pbJ, 5, none⟩ = some (.string ho) := bJ.cell 5
    have bJc6 : (w15.alloc (.cells #[.bool gd, .slice aoJ xs.length coJ, .slice aoJ' ys.length coJ', .int .i64 md, .int .i64 li, .string ho, .string pr, .int .i64 ea] 36)).cell? ⟨pbJ, 6, none⟩ = some (.string pr) := bJ.cell 6
    have bJc7 : (w15.alloc (.cells #[.bool gd, .slice aoJ xs.length coJ, .slice aoJ' ys.length coJ', .int .i64 md, .int .i64 li, .string ho, .string pr, .int .i64 ea] 36)).cell? ⟨pbJ, 7, none⟩ = some (.int .i64 ea) := bJ.cell 7
    have bSc0 : (w15.alloc (.cells #[.bool gd, .slice aoJ xs.length coJ, .slice aoJ' ys.length coJ', .int .i64 md, .int .i64 li, .string ho, .string pr, .int .i64 ea] 36)).cell? ⟨pbS, 0, none⟩ = some (.bool gd) := bS.cell 0
    have bSc1 : (w15.alloc (.cells #[.bool gd, .slice aoJ xs.length coJ, .slice aoJ' ys.length coJ', .int .i64 md, .int .i64 li, .string ho, .string pr, .int .i64 ea] 36)).cell? ⟨pbS, 1, none⟩ = some (.slice aoS xs.length coS) := bS.cell 1
    have bSc2 : (w15.alloc (.cells #[.bool gd, .slice aoJ xs.length coJ, .slice aoJ' ys.length coJ', .int .i64 md, .int .i64 li, .string ho, .string pr, .int .i64 ea] 36)).cell? ⟨pbS, 2, none⟩ = some (.slice aoS' ys.length coS') := bS.cell 2
    have bSc3 : (w15.alloc (.cells #[.bool gd, .slice aoJ xs.length coJ, .slice aoJ' ys.length coJ', .int .i64 md, .int .i64 li, .string ho, .string pr, .int .i64 ea] 36)).cell? ⟨pbS, 3, none⟩ = some (.int .i64 md) := bS.cell 3
    have bSc4 : (w15.alloc (.cells #[.bool gd, .slice aoJ xs.length coJ, .slice aoJ' ys.length coJ', .int .i64 md, .int .i64 li, .string ho, .string pr, .int .i64 ea] 36)).cell? ⟨pbS, 4, none⟩ = some (.int .i64 li) := bS.cell 4
    have bSc5 : (w15.alloc (.cells #[.bool gd, .slice aoJ xs.length coJ, .slice aoJ' ys.length coJ', .int .i64 md, .int .i64 li, .string ho, .string pr, .int .i64 ea] 36)).cell? ⟨pbS, 5, none⟩ = some (.string ho) := bS.cell 5
    have bSc6 : (w15.alloc (.cells #[.bool gd, .slice aoJ xs.length coJ, .slice aoJ' ys.length coJ', .int .i64 md, .int .i64 li, .string ho, .string pr, .int .i64 ea] 36)).cell? ⟨pbS, 6, none⟩ = some (.string pr) := bS.cell 6
    have bSc7 : (w15.alloc (.cells #[.bool gd, .slice aoJ xs.length coJ, .slice aoJ' ys.length coJ', .int .i64 md, .int .i64 li, .string ho, .string pr, .int .i64 ea] 36)).cell? ⟨pbS, 7, none⟩ = some (.int .i64 ea) := bS.cell 7
    go_wp2_with fail
    rw [← ebJ]
    clear ebJ
    generalize w15.alloc (.cells #[.bool gd, .slice aoJ xs.length coJ, .slice aoJ' ys.length coJ', .int .i64 md, .int .i64 li, .string ho, .string pr, .int .i64 ea] 36) = w16 at *
    refine (eqStateResult_same w16 gd md li ho pr ea _ _ _ _ _ _ xs oJ.rd oS.rd hx _ _ _ _ _ _ ys oJ'.rd oS'.rd hy).mono ?_
    rintro e w17 ⟨rfl, m17⟩
    have zm17 := m17.size
    clear bJc0 bJc1 bJc2 bJc3 bJc4 bJc5 bJc6 bJc7
    clear bSc0 bSc1 bSc2 bSc3 bSc4 bSc5 bSc6 bSc7
    replace oS := oS.up m17
    replace oS' := oS'.up m17
    replace bS := bS.up m17
    replace bI := bI.up m17
    replace oA := oA.up m17
    replace oA' := oA'.up m17
    replace oJ := oJ.up m17
    replace oJ' := oJ'.up m17
    replace bJ := bJ.up m17
    replace N := nxt N m17
    clear m17
    have bIc0 : w17.cell? ⟨pbI, 0, none⟩ = some (.bool gd) := bI.cell 0
    have bIc1 : w17.cell? ⟨pbI, 1, none⟩ = some (.slice aoI xs.length coI) := bI.cell 1
    have bIc2 : w17.cell? ⟨pbI, 2, none⟩ = some (.slice aoI' ys.length coI') := bI.cell 2
    have bIc3 : w17.cell? ⟨pbI, 3, none⟩ = some (.int .i64 md) := bI.cell 3
    have bIc4 : w17.cell? ⟨pbI, 4, none⟩ = some (.int .i64 li) := bI.cell 4
    have bIc5 : w17.cell? ⟨pbI, 5, none⟩ = some (.string ho) := bI.cell 5
    have bIc6 : w17.cell? ⟨pbI, 6, none⟩ = some (.string pr) := bI.cell 6
    have bIc7 : w17.cell? ⟨pbI, 7, none⟩ = some (.int .i64 ea) := bI.cell 7
    go_wp2_with fail
    refine (heldStateResult_any w17 gd md li ho pr ea _ _ _ xs.length _ _ _ ys.length 1 oA.rd oA'.rd hx hy (by decide) (by decide)).mono ?_
    rintro e w18 ⟨rfl, m18⟩
    have zm18 := m18.size
    clear bIc0 bIc1 bIc2 bIc3 bIc4 bIc5 bIc6 bIc7
    replace oS := oS.up m18
    replace oS' := oS'.up m18
    replace bS := bS.up m18
    replace bI := bI.up m18
    replace oA := oA.up m18
    replace oA' := oA'.up m18
    replace oJ := oJ.up m18
    replace oJ' := oJ'.up m18
    replace bJ := bJ.up m18
    replace N := nxt N m18
    clear m18
    go_wp2
    go_ret
    exact ⟨rfl, N⟩
  · have u0 : decide ((1048576 : Int) < (X0.length : Int)) = true := by simp; omega
    go_enter Try.func5, Try.ntmps5
    go_wp2
    go_ret
    exact ⟨rfl, Below.refl _ _⟩
end Go.Proofs.Ytjdbnlbmhnpifaa
