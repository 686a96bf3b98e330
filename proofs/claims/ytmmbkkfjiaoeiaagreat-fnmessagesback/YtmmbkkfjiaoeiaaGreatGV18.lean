import Derived.Test.YtmmbkkfjiaoeiaaGreatGV17
import Derived.Test.YtmmbkkfjiaoeiaaGreatGV1
namespace Go.Proofs.YtmmbkkfjiaoeiaaGreat
open Go Go.RowKit
theorem Cur.only' {w w' : World} {p q : Nat} {l : Value} {i : Int} (h : Cur w p l i) (O : Only q w w') (hne : p ≠ q) : Cur w' p l i := by
  obtain ⟨t, h⟩ := h
  exact ⟨t, (O.block p hne).trans h⟩
set_option maxRecDepth 100000 in
set_option maxHeartbeats 4000000 in
theorem updRead_any (w : World) (q p g : Nat) (a : Option Addr) (c : Nat) (xs : List Int) (t : TypeId) (hq : RwC w q [.int .i64 0] t) (hqp : q ≠ p) (hC : Cur w p (.slice a xs.length c) ((0 : Nat) : Int)) (_hpl : p < w.heap.size) (hr : Rd w g a .u8 xs) (hb : Byt xs) (hgp : 0 < xs.length → g ≠ p) (hgq : 0 < xs.length → g ≠ q) (_hc0 : a = none → c = 0) (_hc : xs.length ≤ c) (hn : xs.length ≤ 1048576) :
    Calls Tryz.prog 147 #[.pointer (some ⟨q, 0, none⟩), .pointer (some ⟨p, 0, none⟩)] w fun e w' => ((1 ≤ xs.length ∧ e = .returned (.tuple #[]) ∧ RwC w' q [.int .i64 (beN xs 0 1)] t ∧ Cur w' p (.slice a xs.length c) ((1 : Nat) : Int)) ∨ (xs.length < 1 ∧ Pan e)) ∧ Kq p q w w' := by
  have hql := hq.lt
  have KT : Tch [p, q] w w := ⟨rfl, rfl, rfl, Nat.le_refl _, fun _ _ _ => rfl⟩
  go_enter Tryz.func147, Tryz.ntmps147
  by_cases h0 : 1 ≤ xs.length
  rotate_left
  · have NB := hide (number_bad w p g a c xs 0 1 hC hr hgp (by omega) (by omega) (by omega) (by omega))
    go_wp2_with fail
    refine NB.out.mono ?_
    rintro e v0 ⟨⟨t', v', rfl⟩, O2⟩
    go_wp2
    exact ⟨rfl, .inr ⟨by omega, t', v', rfl⟩, (KT.trans (Tch.of_only O2)).mono (by simp)⟩
  have NM := hide (numberG_any w p g a c xs 0 1 hC hr hb hgp (by omega) (by omega) (by omega))
  rw [nmV_small hb 0 1 (by decide)] at NM
  go_wp2_with fail
  refine NM.out.mono ?_
  rintro e v0 ⟨rfl, C, O1⟩
  have K := O1.kp
  clear O1
  clear NM
  have q0 : RwC v0 q [.int .i64 0] t := hq.kp K hqp
  have c0 : v0.cell? ⟨q, 0, none⟩ = some (.int .i64 0) := q0.cell 0
  have f0 := q0.free 0
  have O := Only.setCell v0 q 0 (.int .i64 (beN xs 0 1))
  have Q' : RwC (v0.setCell ⟨q, 0, none⟩ (.int .i64 (beN xs 0 1))) q [.int .i64 (beN xs 0 1)] t := q0.set 0 _
  have KT' : Tch [p, q] w (v0.setCell ⟨q, 0, none⟩ (.int .i64 (beN xs 0 1))) := (((KT.trans K.tch).trans (Tch.of_only O)).mono (by simp))
  have C' : Cur (v0.setCell ⟨q, 0, none⟩ (.int .i64 (beN xs 0 1))) p (.slice a xs.length c) ((1 : Nat) : Int) := C.only' O (by omega)
  have R' : Rd (v0.setCell ⟨q, 0, none⟩ (.int .i64 (beN xs 0 1))) g a .u8 xs := (hr.of_block' (fun h => K.block g (hr.lt h) (hgp h))).of_block' (fun h => O.block g (hgq h))
  clear hq q0 KT K O C hC hr
  go_wp2
  go_end0
  exact ⟨.inl ⟨h0, rfl, Q', C'⟩, KT'⟩
set_option maxRecDepth 100000 in
set_option maxHeartbeats 4000000 in
theorem finRead_any (w : World) (q p g : Nat) (a : Option Addr) (c : Nat) (xs : List Int) (t : TypeId) (hq : RwC w q [.slice none 0 0] t) (hqp : q ≠ p) (hC : Cur w p (.slice a xs.length c) ((0 : Nat) : Int)) (_hpl : p < w.heap.size) (hr : Rd w g a .u8 xs) (_hb : Byt xs) (hgp : 0 < xs.length → g ≠ p) (hgq : 0 < xs.length → g ≠ q) (hc0 : a = none → c = 0) (hc : xs.length ≤ c) (hn : xs.length ≤ 1048576) :
    Calls Tryz.prog 143 #[.pointer (some ⟨q, 0, none⟩), .pointer (some ⟨p, 0, none⟩)] w fun e w' => ((32 ≤ xs.length ∧ e = .returned (.tuple #[]) ∧ ∃ G0, RwC w' q [.slice (some ⟨G0, 0, none⟩) 32 32] t ∧ Cur w' p (.slice a xs.length c) ((32 : Nat) : Int) ∧ Blk w' G0 .u8 (tkB xs 0 32) ∧ w.heap.size ≤ G0) ∨ (xs.length < 32 ∧ Pan e)) ∧ Kq p q w w' := by
  have hql := hq.lt
  have KT : Tch [p, q] w w := ⟨rfl, rfl, rfl, Nat.le_refl _, fun _ _ _ => rfl⟩
  go_enter Tryz.func143, Tryz.ntmps143
  by_cases h0 : 32 ≤ xs.length
  rotate_left
  · have NB := hide (takeList_bad w p a xs.length c 0 32 hC (by omega) hn (by omega))
    go_wp2_with fail
    refine NB.out.mono ?_
    rintro e v0 ⟨⟨t', v', rfl⟩, O2⟩
    go_wp2
    exact ⟨rfl, .inr ⟨by omega, t', v', rfl⟩, (KT.trans (Tch.of_only O2)).mono (by simp)⟩
  have NM := hide (takeList_any w p g a c xs 0 32 hC hr hc0 hc hn (by omega) (by omega))
  rw [tkB_take xs 0 32 (by omega)] at NM
  go_wp2_with fail
  refine NM.out.mono ?_
  rintro e v0 ⟨rfl, B0, C, K⟩
  have l0 := KT.size
  clear NM
  have q0 : RwC v0 q [.slice none 0 0] t := hq.kp K hqp
  have c0 : v0.cell? ⟨q, 0, none⟩ = some (.slice none 0 0) := q0.cell 0
  have f0 := q0.free 0
  have O := Only.setCell v0 q 0 (.slice (some ⟨w.heap.size, 0, none⟩) 32 32)
  have Q' : RwC (v0.setCell ⟨q, 0, none⟩ (.slice (some ⟨w.heap.size, 0, none⟩) 32 32)) q [.slice (some ⟨w.heap.size, 0, none⟩) 32 32] t := q0.set 0 _
  have KT' : Tch [p, q] w (v0.setCell ⟨q, 0, none⟩ (.slice (some ⟨w.heap.size, 0, none⟩) 32 32)) := (((KT.trans K.tch).trans (Tch.of_only O)).mono (by simp))
  have C' : Cur (v0.setCell ⟨q, 0, none⟩ (.slice (some ⟨w.heap.size, 0, none⟩) 32 32)) p (.slice a xs.length c) ((32 : Nat) : Int) := C.only' O (by omega)
  have R' : Rd (v0.setCell ⟨q, 0, none⟩ (.slice (some ⟨w.heap.size, 0, none⟩) 32 32)) g a .u8 xs := (hr.of_block' (fun h => K.block g (hr.lt h) (hgp h))).of_block' (fun h => O.block g (hgq h))
  replace B0 := B0.of_block (O.block (w.heap.size) (by omega))
  clear hq q0 KT K O C hC hr
  go_wp2
  go_end0
  exact ⟨.inl ⟨h0, rfl, w.heap.size, Q', C', B0, by omega⟩, KT'⟩
set_option maxRecDepth 100000 in
set_option maxHeartbeats 4000000 in
theorem firstRead_any (w : World) (q p g : Nat) (a : Option Addr) (c : Nat) (xs : List Int) (t : TypeId) (rest : List Value) (hq : RwC w q (.int .i64 0 :: .slice none 0 0 :: .slice none 0 0 :: rest) t) (hqp : q ≠ p) (hC : Cur w p (.slice a xs.length c) ((0 : Nat) : Int)) (_hpl : p < w.heap.size) (hr : Rd w g a .u8 xs) (hb : Byt xs) (hgp : 0 < xs.length → g ≠ p) (hgq : 0 < xs.length → g ≠ q) (hc0 : a = none → c = 0) (hc : xs.length ≤ c) (hn : xs.length ≤ 1048576) :
    Calls Tryz.prog 101 #[.pointer (some ⟨q, 0, none⟩), .pointer (some ⟨p, 0, none⟩)] w fun e w' => ((65 ≤ xs.length ∧ e = .returned (.tuple #[]) ∧ ∃ G1 G2, RwC w' q (.int .i64 (beN xs 0 1) :: .slice (some ⟨G1, 0, none⟩) 32 32 :: .slice (some ⟨G2, 0, none⟩) 32 32 :: rest) t ∧ Cur w' p (.slice a xs.length c) ((65 : Nat) : Int) ∧ Blk w' G1 .u8 (tkB xs 1 32) ∧ w.heap.size ≤ G1 ∧ Blk w' G2 .u8 (tkB xs 33 32) ∧ w.heap.size ≤ G2 ∧ G1 < G2) ∨ (xs.length < 65 ∧ Pan e)) ∧ Kq p q w w' := by
  have hql := hq.lt
  have KT : Tch [p, q] w w := ⟨rfl, rfl, rfl, Nat.le_refl _, fun _ _ _ => rfl⟩
  go_enter Tryz.func101, Tryz.ntmps101
  by_cases h0 : 1 ≤ xs.length
  rotate_left
  · have NB := hide (number_bad w p g a c xs 0 1 hC hr hgp (by omega) (by omega) (by omega) (by omega))
    go_wp2_with fail
    refine NB.out.mono ?_
    rintro e v0 ⟨⟨t', v', rfl⟩, O2⟩
    go_wp2
    exact ⟨rfl, .inr ⟨by omega, t', v', rfl⟩, (KT.trans (Tch.of_only O2)).mono (by simp)⟩
  have NM := hide (numberG_any w p g a c xs 0 1 hC hr hb hgp (by omega) (by omega) (by omega))
  rw [nmV_small hb 0 1 (by decide)] at NM
  go_wp2_with fail
  refine NM.out.mono ?_
  rintro e v0 ⟨rfl, C, O1⟩
  have K := O1.kp
  clear O1
  clear NM
  have q0 : RwC v0 q (.int .i64 0 :: .slice none 0 0 :: .slice none 0 0 :: rest) t := hq.kp K hqp
  have c0 : v0.cell? ⟨q, 0, none⟩ = some (.int .i64 0) := q0.cell 0
  have f0 := q0.free 0
  have O := Only.setCell v0 q 0 (.int .i64 (beN xs 0 1))
  have Q' : RwC (v0.setCell ⟨q, 0, none⟩ (.int .i64 (beN xs 0 1))) q (.int .i64 (beN xs 0 1) :: .slice none 0 0 :: .slice none 0 0 :: rest) t := q0.set 0 _
  have KT' : Tch [p, q] w (v0.setCell ⟨q, 0, none⟩ (.int .i64 (beN xs 0 1))) := (((KT.trans K.tch).trans (Tch.of_only O)).mono (by simp))
  have C' : Cur (v0.setCell ⟨q, 0, none⟩ (.int .i64 (beN xs 0 1))) p (.slice a xs.length c) ((1 : Nat) : Int) := C.only' O (by omega)
  have R' : Rd (v0.setCell ⟨q, 0, none⟩ (.int .i64 (beN xs 0 1))) g a .u8 xs := (hr.of_block' (fun h => K.block g (hr.lt h) (hgp h))).of_block' (fun h => O.block g (hgq h))
  clear hq q0 KT K O C hC hr
  go_upto_region 1 with fail
  generalize v0.setCell ⟨q, 0, none⟩ (.int .i64 (beN xs 0 1)) = w1 at *
  have hq := Q'
  have KT := KT'
  have hC := C'
  have hr := R'
  clear Q' KT' C' R' c0 f0
  by_cases h1 : 33 ≤ xs.length
  rotate_left
  · have NB := hide (takeList_bad w1 p a xs.length c 1 32 hC (by omega) hn (by omega))
    go_wp2_with fail
    refine NB.out.mono ?_
    rintro e v1 ⟨⟨t', v', rfl⟩, O2⟩
    go_wp2
    exact ⟨rfl, .inr ⟨by omega, t', v', rfl⟩, (KT.trans (Tch.of_only O2)).mono (by simp)⟩
  have NM := hide (takeList_any w1 p g a c xs 1 32 hC hr hc0 hc hn (by omega) (by omega))
  rw [tkB_take xs 1 32 (by omega)] at NM
  go_wp2_with fail
  refine NM.out.mono ?_
  rintro e v1 ⟨rfl, B1, C, K⟩
  have l1 := KT.size
  clear NM
  have q1 : RwC v1 q (.int .i64 (beN xs 0 1) :: .slice none 0 0 :: .slice none 0 0 :: rest) t := hq.kp K hqp
  have c1 : v1.cell? ⟨q, 1, none⟩ = some (.slice none 0 0) := q1.cell 1
  have f1 := q1.free 1
  have O := Only.setCell v1 q 1 (.slice (some ⟨w1.heap.size, 0, none⟩) 32 32)
  have Q' : RwC (v1.setCell ⟨q, 1, none⟩ (.slice (some ⟨w1.heap.size, 0, none⟩) 32 32)) q (.int .i64 (beN xs 0 1) :: .slice (some ⟨w1.heap.size, 0, none⟩) 32 32 :: .slice none 0 0 :: rest) t := q1.set 1 _
  have KT' : Tch [p, q] w (v1.setCell ⟨q, 1, none⟩ (.slice (some ⟨w1.heap.size, 0, none⟩) 32 32)) := (((KT.trans K.tch).trans (Tch.of_only O)).mono (by simp))
  have C' : Cur (v1.setCell ⟨q, 1, none⟩ (.slice (some ⟨w1.heap.size, 0, none⟩) 32 32)) p (.slice a xs.length c) ((33 : Nat) : Int) := C.only' O (by omega)
  have R' : Rd (v1.setCell ⟨q, 1, none⟩ (.slice (some ⟨w1.heap.size, 0, none⟩) 32 32)) g a .u8 xs := (hr.of_block' (fun h => K.block g (hr.lt h) (hgp h))).of_block' (fun h => O.block g (hgq h))
  replace B1 := B1.of_block (O.block (w1.heap.size) (by omega))
  clear hq q1 KT K O C hC hr
  go_upto_region 2 with fail
  generalize v1.setCell ⟨q, 1, none⟩ (.slice (some ⟨w1.heap.size, 0, none⟩) 32 32) = w2 at *
  have hq := Q'
  have KT := KT'
  have hC := C'
  have hr := R'
  clear Q' KT' C' R' c1 f1
  have od1 := B1.lt
  by_cases h2 : 65 ≤ xs.length
  rotate_left
  · have NB := hide (takeList_bad w2 p a xs.length c 33 32 hC (by omega) hn (by omega))
    go_wp2_with fail
    refine NB.out.mono ?_
    rintro e v2 ⟨⟨t', v', rfl⟩, O2⟩
    go_wp2
    exact ⟨rfl, .inr ⟨by omega, t', v', rfl⟩, (KT.trans (Tch.of_only O2)).mono (by simp)⟩
  have NM := hide (takeList_any w2 p g a c xs 33 32 hC hr hc0 hc hn (by omega) (by omega))
  rw [tkB_take xs 33 32 (by omega)] at NM
  go_wp2_with fail
  refine NM.out.mono ?_
  rintro e v2 ⟨rfl, B2, C, K⟩
  have l2 := KT.size
  clear NM
  have q2 : RwC v2 q (.int .i64 (beN xs 0 1) :: .slice (some ⟨w1.heap.size, 0, none⟩) 32 32 :: .slice none 0 0 :: rest) t := hq.kp K hqp
  have c2 : v2.cell? ⟨q, 2, none⟩ = some (.slice none 0 0) := q2.cell 2
  have f2 := q2.free 2
  have O := Only.setCell v2 q 2 (.slice (some ⟨w2.heap.size, 0, none⟩) 32 32)
  have Q' : RwC (v2.setCell ⟨q, 2, none⟩ (.slice (some ⟨w2.heap.size, 0, none⟩) 32 32)) q (.int .i64 (beN xs 0 1) :: .slice (some ⟨w1.heap.size, 0, none⟩) 32 32 :: .slice (some ⟨w2.heap.size, 0, none⟩) 32 32 :: rest) t := q2.set 2 _
  have KT' : Tch [p, q] w (v2.setCell ⟨q, 2, none⟩ (.slice (some ⟨w2.heap.size, 0, none⟩) 32 32)) := (((KT.trans K.tch).trans (Tch.of_only O)).mono (by simp))
  have C' : Cur (v2.setCell ⟨q, 2, none⟩ (.slice (some ⟨w2.heap.size, 0, none⟩) 32 32)) p (.slice a xs.length c) ((65 : Nat) : Int) := C.only' O (by omega)
  have R' : Rd (v2.setCell ⟨q, 2, none⟩ (.slice (some ⟨w2.heap.size, 0, none⟩) 32 32)) g a .u8 xs := (hr.of_block' (fun h => K.block g (hr.lt h) (hgp h))).of_block' (fun h => O.block g (hgq h))
  replace B1 := (B1.kp K (by omega)).of_block (O.block (w1.heap.size) (by omega))
  replace B2 := B2.of_block (O.block (w2.heap.size) (by omega))
  clear hq q2 KT K O C hC hr
  go_wp2
  go_end0
  exact ⟨.inl ⟨h2, rfl, w1.heap.size, w2.heap.size, Q', C', B1, by omega, B2, by omega, by omega⟩, KT'⟩
set_option maxRecDepth 100000 in
set_option maxHeartbeats 4000000 in
theorem tickRead_any (w : World) (q p g : Nat) (a : Option Addr) (c : Nat) (xs : List Int) (t : TypeId) (hq : RwC w q [.int .i64 0, .int .i64 0, .slice none 0 0, .slice none 0 0] t) (hqp : q ≠ p) (hC : Cur w p (.slice a xs.length c) ((0 : Nat) : Int)) (_hpl : p < w.heap.size) (hr : Rd w g a .u8 xs) (hb : Byt xs) (hgp : 0 < xs.length → g ≠ p) (hgq : 0 < xs.length → g ≠ q) (hc0 : a = none → c = 0) (hc : xs.length ≤ c) (hn : xs.length ≤ 1048576) :
    Calls Tryz.prog 119 #[.pointer (some ⟨q, 0, none⟩), .pointer (some ⟨p, 0, none⟩)] w fun e w' => ((42 + (beN xs 40 2).toNat ≤ xs.length ∧ e = .returned (.tuple #[]) ∧ ∃ G2 G3, RwC w' q [.int .i64 (beN xs 0 4), .int .i64 (beN xs 4 4), .slice (some ⟨G2, 0, none⟩) 32 32, .slice (some ⟨G3, 0, none⟩) (beN xs 40 2).toNat (beN xs 40 2).toNat] t ∧ Blk w' G2 .u8 (tkB xs 8 32) ∧ w.heap.size ≤ G2 ∧ Blk w' G3 .u8 (tkB xs 42 (beN xs 40 2).toNat) ∧ w.heap.size ≤ G3 ∧ G2 < G3) ∨ (xs.length < 42 + (beN xs 40 2).toNat ∧ Pan e)) ∧ Kq p q w w' := by
  have hql := hq.lt
  have KT : Tch [p, q] w w := ⟨rfl, rfl, rfl, Nat.le_refl _, fun _ _ _ => rfl⟩
  go_enter Tryz.func119, Tryz.ntmps119
  by_cases h0 : 4 ≤ xs.length
  rotate_left
  · have NB := hide (number_bad w p g a c xs 0 4 hC hr hgp (by omega) (by omega) (by omega) (by omega))
    go_wp2_with fail
    refine NB.out.mono ?_
    rintro e v0 ⟨⟨t', v', rfl⟩, O2⟩
    go_wp2
    exact ⟨rfl, .inr ⟨by omega, t', v', rfl⟩, (KT.trans (Tch.of_only O2)).mono (by simp)⟩
  have NM := hide (numberG_any w p g a c xs 0 4 hC hr hb hgp (by omega) (by omega) (by omega))
  rw [nmV_small hb 0 4 (by decide)] at NM
  go_wp2_with fail
  refine NM.out.mono ?_
  rintro e v0 ⟨rfl, C, O1⟩
  have K := O1.kp
  clear O1
  clear NM
  have q0 : RwC v0 q [.int .i64 0, .int .i64 0, .slice none 0 0, .slice none 0 0] t := hq.kp K hqp
  have c0 : v0.cell? ⟨q, 0, none⟩ = some (.int .i64 0) := q0.cell 0
  have f0 := q0.free 0
  have O := Only.setCell v0 q 0 (.int .i64 (beN xs 0 4))
  have Q' : RwC (v0.setCell ⟨q, 0, none⟩ (.int .i64 (beN xs 0 4))) q [.int .i64 (beN xs 0 4), .int .i64 0, .slice none 0 0, .slice none 0 0] t := q0.set 0 _
  have KT' : Tch [p, q] w (v0.setCell ⟨q, 0, none⟩ (.int .i64 (beN xs 0 4))) := (((KT.trans K.tch).trans (Tch.of_only O)).mono (by simp))
  have C' : Cur (v0.setCell ⟨q, 0, none⟩ (.int .i64 (beN xs 0 4))) p (.slice a xs.length c) ((4 : Nat) : Int) := C.only' O (by omega)
  have R' : Rd (v0.setCell ⟨q, 0, none⟩ (.int .i64 (beN xs 0 4))) g a .u8 xs := (hr.of_block' (fun h => K.block g (hr.lt h) (hgp h))).of_block' (fun h => O.block g (hgq h))
  clear hq q0 KT K O C hC hr
  go_upto_region 1 with fail
  generalize v0.setCell ⟨q, 0, none⟩ (.int .i64 (beN xs 0 4)) = w1 at *
  have hq := Q'
  have KT := KT'
  have hC := C'
  have hr := R'
  clear Q' KT' C' R' c0 f0
  by_cases h1 : 8 ≤ xs.length
  rotate_left
  · have NB := hide (number_bad w1 p g a c xs 4 4 hC hr hgp (by omega) (by omega) (by omega) (by omega))
    go_wp2_with fail
    refine NB.out.mono ?_
    rintro e v1 ⟨⟨t', v', rfl⟩, O2⟩
    go_wp2
    exact ⟨rfl, .inr ⟨by omega, t', v', rfl⟩, (KT.trans (Tch.of_only O2)).mono (by simp)⟩
  have NM := hide (numberG_any w1 p g a c xs 4 4 hC hr hb hgp (by omega) (by omega) (by omega))
  rw [nmV_small hb 4 4 (by decide)] at NM
  go_wp2_with fail
  refine NM.out.mono ?_
  rintro e v1 ⟨rfl, C, O1⟩
  have K := O1.kp
  clear O1
  clear NM
  have q1 : RwC v1 q [.int .i64 (beN xs 0 4), .int .i64 0, .slice none 0 0, .slice none 0 0] t := hq.kp K hqp
  have c1 : v1.cell? ⟨q, 1, none⟩ = some (.int .i64 0) := q1.cell 1
  have f1 := q1.free 1
  have O := Only.setCell v1 q 1 (.int .i64 (beN xs 4 4))
  have Q' : RwC (v1.setCell ⟨q, 1, none⟩ (.int .i64 (beN xs 4 4))) q [.int .i64 (beN xs 0 4), .int .i64 (beN xs 4 4), .slice none 0 0, .slice none 0 0] t := q1.set 1 _
  have KT' : Tch [p, q] w (v1.setCell ⟨q, 1, none⟩ (.int .i64 (beN xs 4 4))) := (((KT.trans K.tch).trans (Tch.of_only O)).mono (by simp))
  have C' : Cur (v1.setCell ⟨q, 1, none⟩ (.int .i64 (beN xs 4 4))) p (.slice a xs.length c) ((8 : Nat) : Int) := C.only' O (by omega)
  have R' : Rd (v1.setCell ⟨q, 1, none⟩ (.int .i64 (beN xs 4 4))) g a .u8 xs := (hr.of_block' (fun h => K.block g (hr.lt h) (hgp h))).of_block' (fun h => O.block g (hgq h))
  clear hq q1 KT K O C hC hr
  go_upto_region 2 with fail
  generalize v1.setCell ⟨q, 1, none⟩ (.int .i64 (beN xs 4 4)) = w2 at *
  have hq := Q'
  have KT := KT'
  have hC := C'
  have hr := R'
  clear Q' KT' C' R' c1 f1
  by_cases h2 : 40 ≤ xs.length
  rotate_left
  · have NB := hide (takeList_bad w2 p a xs.length c 8 32 hC (by omega) hn (by omega))
    go_wp2_with fail
    refine NB.out.mono ?_
    rintro e v2 ⟨⟨t', v', rfl⟩, O2⟩
    go_wp2
    exact ⟨rfl, .inr ⟨by omega, t', v', rfl⟩, (KT.trans (Tch.of_only O2)).mono (by simp)⟩
  have NM := hide (takeList_any w2 p g a c xs 8 32 hC hr hc0 hc hn (by omega) (by omega))
  rw [tkB_take xs 8 32 (by omega)] at NM
  go_wp2_with fail
  refine NM.out.mono ?_
  rintro e v2 ⟨rfl, B2, C, K⟩
  have l2 := KT.size
  clear NM
  have q2 : RwC v2 q [.int .i64 (beN xs 0 4), .int .i64 (beN xs 4 4), .slice none 0 0, .slice none 0 0] t := hq.kp K hqp
  have c2 : v2.cell? ⟨q, 2, none⟩ = some (.slice none 0 0) := q2.cell 2
  have f2 := q2.free 2
  have O := Only.setCell v2 q 2 (.slice (some ⟨w2.heap.size, 0, none⟩) 32 32)
  have Q' : RwC (v2.setCell ⟨q, 2, none⟩ (.slice (some ⟨w2.heap.size, 0, none⟩) 32 32)) q [.int .i64 (beN xs 0 4), .int .i64 (beN xs 4 4), .slice (some ⟨w2.heap.size, 0, none⟩) 32 32, .slice none 0 0] t := q2.set 2 _
  have KT' : Tch [p, q] w (v2.setCell ⟨q, 2, none⟩ (.slice (some ⟨w2.heap.size, 0, none⟩) 32 32)) := (((KT.trans K.tch).trans (Tch.of_only O)).mono (by simp))
  have C' : Cur (v2.setCell ⟨q, 2, none⟩ (.slice (some ⟨w2.heap.size, 0, none⟩) 32 32)) p (.slice a xs.length c) ((40 : Nat) : Int) := C.only' O (by omega)
  have R' : Rd (v2.setCell ⟨q, 2, none⟩ (.slice (some ⟨w2.heap.size, 0, none⟩) 32 32)) g a .u8 xs := (hr.of_block' (fun h => K.block g (hr.lt h) (hgp h))).of_block' (fun h => O.block g (hgq h))
  replace B2 := B2.of_block (O.block (w2.heap.size) (by omega))
  clear hq q2 KT K O C hC hr
  go_upto_region 3 with fail
  generalize v2.setCell ⟨q, 2, none⟩ (.slice (some ⟨w2.heap.size, 0, none⟩) 32 32) = w3 at *
  have hq := Q'
  have KT := KT'
  have hC := C'
  have hr := R'
  clear Q' KT' C' R' c2 f2
  have od2 := B2.lt
  have lL := KT.size
  have LG := hide (long_any w3 p g a c xs 40 hC hr hb hgp hc0 hc hn (by omega))
  go_wp2_with fail
  refine LG.out.mono ?_
  rintro e v3 ⟨⟨h3, ⟨G3, rfl, B3, l3⟩, -⟩ | ⟨h3, t', v', rfl⟩, K⟩
  rotate_left
  · go_wp2
    exact ⟨rfl, .inr ⟨by omega, t', v', rfl⟩, (KT.trans (K.tch)).mono (by simp)⟩
  have q3 : RwC v3 q [.int .i64 (beN xs 0 4), .int .i64 (beN xs 4 4), .slice (some ⟨w2.heap.size, 0, none⟩) 32 32, .slice none 0 0] t := hq.kp K hqp
  have c3 : v3.cell? ⟨q, 3, none⟩ = some (.slice none 0 0) := q3.cell 3
  have f3 := q3.free 3
  have O := Only.setCell v3 q 3 (.slice (some ⟨G3, 0, none⟩) (beN xs 40 2).toNat (beN xs 40 2).toNat)
  have Q' : RwC (v3.setCell ⟨q, 3, none⟩ (.slice (some ⟨G3, 0, none⟩) (beN xs 40 2).toNat (beN xs 40 2).toNat)) q [.int .i64 (beN xs 0 4), .int .i64 (beN xs 4 4), .slice (some ⟨w2.heap.size, 0, none⟩) 32 32, .slice (some ⟨G3, 0, none⟩) (beN xs 40 2).toNat (beN xs 40 2).toNat] t := q3.set 3 _
  have KT' : Tch [p, q] w (v3.setCell ⟨q, 3, none⟩ (.slice (some ⟨G3, 0, none⟩) (beN xs 40 2).toNat (beN xs 40 2).toNat)) := (((KT.trans K.tch).trans (Tch.of_only O)).mono (by simp))
  replace B2 := (B2.kp K (by omega)).of_block (O.block (w2.heap.size) (by omega))
  replace B3 := B3.of_block (O.block (G3) (by omega))
  clear hq q3 KT K O
  go_wp2
  go_end0
  exact ⟨.inl ⟨h3, rfl, w2.heap.size, G3, Q', B2, by omega, B3, by omega, by omega⟩, KT'⟩
end Go.Proofs.YtmmbkkfjiaoeiaaGreat
namespace Go.Proofs.YtmmbkkfjiaoeiaaGreat
open Go Go.RowKit
theorem Rd.tchK {w w' : World} {S : List Nat} {g : Nat} {a : Option Addr} {xs : List Int} (h : Rd w g a .u8 xs) (m : Tch S w w') (hne : 0 < xs.length → g ∉ S) : Rd w' g a .u8 xs := h.of_block' (fun h0 => m.block g (h.lt h0) (hne h0))
set_option maxRecDepth 100000 in
set_option maxHeartbeats 4000000 in
theorem ansRead_any (w : World) (q p g : Nat) (a : Option Addr) (c : Nat) (xs : List Int) (t : TypeId) (hq : RwC w q [.int .i64 0, .slice none 0 0, .slice none 0 0, .bool false] t) (hqp : q ≠ p) (hC : Cur w p (.slice a xs.length c) ((0 : Nat) : Int)) (hpl : p < w.heap.size) (hr : Rd w g a .u8 xs) (hb : Byt xs) (hgp : 0 < xs.length → g ≠ p) (hgq : 0 < xs.length → g ≠ q) (hc0 : a = none → c = 0) (hc : xs.length ≤ c) (hn : xs.length ≤ 1048576) :
    Calls Tryz.prog 115 #[.pointer (some ⟨q, 0, none⟩), .pointer (some ⟨p, 0, none⟩)] w fun e w' => ((66 ≤ xs.length ∧ e = .returned (.tuple #[]) ∧ ∃ G1 G2, RwC w' q [.int .i64 (beN xs 0 1), .slice (some ⟨G1, 0, none⟩) 32 32, .slice (some ⟨G2, 0, none⟩) 32 32, .bool (beN xs 65 1 == 1)] t ∧ Blk w' G1 .u8 (tkB xs 1 32) ∧ w.heap.size ≤ G1 ∧ Blk w' G2 .u8 (tkB xs 33 32) ∧ w.heap.size ≤ G2 ∧ G1 < G2) ∨ (xs.length < 66 ∧ Pan e)) ∧ Kq p q w w' := by
  have FR := hide (firstRead_any w q p g a c xs t [.bool false] hq hqp hC hpl hr hb hgp hgq hc0 hc hn)
  have hql := hq.lt
  clear hq hC
  go_enter Tryz.func115, Tryz.ntmps115
  go_wp2_with fail
  refine FR.out.mono ?_
  rintro e w1 ⟨⟨h1, rfl, G1, G2, Q, C, B1, l1, B2, l2, o12⟩ | ⟨h1, t', v', rfl⟩, T⟩
  rotate_left
  · go_wp2
    exact ⟨rfl, .inr ⟨by omega, t', v', rfl⟩, T⟩
  have T : Tch [p, q] w w1 := T
  have hr1 := hr.tchK T (fun h0 => by have := hgp h0; have := hgq h0; simp; omega)
  clear FR hr
  by_cases h2 : 66 ≤ xs.length
  rotate_left
  · have NB := hide (number_bad w1 p g a c xs 65 1 C hr1 hgp (by omega) (by omega) (by omega) (by omega))
    go_wp2_with fail
    refine NB.out.mono ?_
    rintro e v1 ⟨⟨t', v', rfl⟩, O2⟩
    go_wp2
    exact ⟨rfl, .inr ⟨by omega, t', v', rfl⟩, (T.trans (Tch.of_only O2)).mono (by simp)⟩
  have NM := hide (numberG_any w1 p g a c xs 65 1 C hr1 hb hgp (by omega) (by omega) (by omega))
  rw [nmV_small hb 65 1 (by decide)] at NM
  go_wp2_with fail
  refine NM.out.mono ?_
  rintro e v1 ⟨rfl, -, O1⟩
  have K := O1.kp
  clear NM O1 C hr1
  have Q1 : RwC v1 q [.int .i64 (beN xs 0 1), .slice (some ⟨G1, 0, none⟩) 32 32, .slice (some ⟨G2, 0, none⟩) 32 32, .bool false] t := Q.kp K hqp
  have c3 : v1.cell? ⟨q, 3, none⟩ = some (.bool false) := Q1.cell 3
  have f3 := Q1.free 3
  have O := Only.setCell v1 q 3 (.bool (beN xs 65 1 == 1))
  have Q' : Hid (RwC (v1.setCell ⟨q, 3, none⟩ (.bool (beN xs 65 1 == 1))) q [.int .i64 (beN xs 0 1), .slice (some ⟨G1, 0, none⟩) 32 32, .slice (some ⟨G2, 0, none⟩) 32 32, .bool (beN xs 65 1 == 1)] t) := Q1.set 3 _
  have T' : Hid (Kq p q w (v1.setCell ⟨q, 3, none⟩ (.bool (beN xs 65 1 == 1)))) := ((T.trans K.tch).trans (Tch.of_only O)).mono (by simp)
  have D1 := hide ((B1.kp K (by omega)).of_block (O.block G1 (by omega)))
  have D2 := hide ((B2.kp K (by omega)).of_block (O.block G2 (by omega)))
  clear Q Q1 T K O B1 B2
  go_wp2
  go_end0
  exact ⟨.inl ⟨h2, rfl, G1, G2, Q'.out, D1.out, l1, D2.out, l2, o12⟩, T'.out⟩
end Go.Proofs.YtmmbkkfjiaoeiaaGreat
namespace Go.Proofs.YtmmbkkfjiaoeiaaGreat
open Go Go.RowKit
def ppT (xs : List Int) (i : Nat) : Nat → Nat
  | 0 => i
  | k + 1 => ppT xs i k + 1 + (beN xs (ppT xs i k) 1).toNat
def txT (xs : List Int) (i k : Nat) : List (List UInt8) := (List.range k).map fun j => txB (tkB xs (ppT xs i j + 1) (beN xs (ppT xs i j) 1).toNat)
theorem txT_len (xs : List Int) (i k : Nat) : (txT xs i k).length = k := by simp [txT]
theorem txT_step (xs : List Int) (i k : Nat) : txT xs i (k + 1) = txT xs i k ++ [txB (tkB xs (ppT xs i k + 1) (beN xs (ppT xs i k) 1).toNat)] := by simp [txT, List.range_succ]
theorem ppT_le (xs : List Int) (i k n : Nat) (h : k ≤ n) : ppT xs i k ≤ ppT xs i n := by
  induction n with
  | zero => obtain rfl : k = 0 := by omega
            exact Nat.le_refl _
  | succ n ih =>
    by_cases e : k = n + 1
    · subst e
      exact Nat.le_refl _
    · have := ih (by omega)
      show _ ≤ ppT xs i n + 1 + _
      omega
theorem RowT.kp {w w' : World} {base p : Nat} {v : Value} {ls : List (List UInt8)} (h : RowT w base v ls) (n : Kp p w w') (hp : p < base) : RowT w' base v ls := by
  refine ⟨h.1, ?_⟩
  rcases h.2 with h' | ⟨g, cap, cur, rfl, hbg, hg, hnc, hcm, hcs, ht⟩
  · exact .inl h'
  · exact .inr ⟨g, cap, cur, rfl, hbg, by rw [n.block g ((Array.getElem?_eq_some_iff.1 hg).1) (by omega)]; exact hg, hnc, hcm, hcs, ht⟩
theorem Kp.below' {p B : Nat} {w v v' : World} (h : Kp p w v) (n : Below B v v') (hB : w.heap.size ≤ B) : Kp p w v' :=
  ⟨n.os.trans h.os, n.tape.trans h.tape, n.output.trans h.output, Nat.le_trans h.size n.size, fun k hk hp => (n.block k (by omega)).trans (h.block k hk hp)⟩
theorem Cur.belw {w w' : World} {p B : Nat} {l : Value} {i : Int} (h : Cur w p l i) (n : Below B w w') (hp : p < B) : Cur w' p l i := by
  obtain ⟨t, h⟩ := h
  exact ⟨t, (n.block p hp).trans h⟩
set_option maxRecDepth 100000 in
set_option maxHeartbeats 4000000 in
theorem shorts_any (w : World) (p g : Nat) (a : Option Addr) (c : Nat) (xs : List Int) (i : Nat) (hC : Cur w p (.slice a xs.length c) i) (hpl : p < w.heap.size) (hr : Rd w g a .u8 xs) (hb : Byt xs) (hgp : 0 < xs.length → g ≠ p) (hc0 : a = none → c = 0) (hc : xs.length ≤ c) (hn : xs.length ≤ 1048576) (hi : i ≤ xs.length) :
    Calls Tryz.prog 103 #[.pointer (some ⟨p, 0, none⟩)] w fun e w' => ((i < xs.length ∧ ppT xs (i + 1) (xs.getD i 0).toNat ≤ xs.length ∧ (∃ v, e = .returned v ∧ RowT w' w.heap.size v (txT xs (i + 1) (xs.getD i 0).toNat)) ∧ Cur w' p (.slice a xs.length c) ((ppT xs (i + 1) (xs.getD i 0).toNat : Nat) : Int)) ∨ (¬ (i < xs.length ∧ ppT xs (i + 1) (xs.getD i 0).toNat ≤ xs.length) ∧ Pan e)) ∧ Kp p w w' := by
  by_cases h1 : i < xs.length
  rotate_left
  · have TB := hide (take_bad w p a xs.length c i hC (by omega))
    have H := hide h1
    clear hC hr h1
    go_enter Tryz.func103, Tryz.ntmps103
    go_wp2_with fail
    refine TB.out.mono ?_
    rintro e v1 ⟨⟨t', v', rfl⟩, O2⟩
    go_wp2
    exact ⟨rfl, .inr ⟨fun h => H.out h.1, t', v', rfl⟩, O2.kp⟩
  have TK := hide (take_ok w p g a c xs i hC hr h1 (by omega))
  have bx := hb i
  obtain ⟨n, hn1⟩ := Int.eq_ofNat_of_zero_le bx.1
  have e1 : (xs.getD i 0).toNat = n := by omega
  rw [e1]
  rw [hn1] at TK
  have n256 : n < 256 := by omega
  clear hn1 e1 hC
  go_enter Tryz.func103, Tryz.ntmps103
  go_wp2_with fail
  refine TK.out.mono ?_
  rintro e w1 ⟨rfl, C1, O1⟩
  have K1 := O1.kp
  have sz1 := O1.size
  clear TK O1
  go_wp2
  go_loopw [3, 6] (fun v j wr => ∃ k : Nat, k ≤ n ∧ j = .int .u8 k ∧ RowT wr w.heap.size v (txT xs (i + 1) k) ∧ Cur wr p (.slice a xs.length c) ((ppT xs (i + 1) k : Nat) : Int) ∧ ppT xs (i + 1) k ≤ xs.length ∧ Kp p w wr) (fun _ j _ => n - (intOf j).toNat)
  case atStart => exact ⟨0, Nat.zero_le _, rfl, World.ownsRow_nil _ _ _ _, C1, by show i + 1 ≤ _; omega, K1⟩
  case round =>
    obtain ⟨k, hk, rfl, hR, hC, hpp, hK⟩ := hrel
    clear C1 K1
    by_cases hlt : k < n
    · have t0 : (k : Int) < (n : Int) := by omega
      have hrk := hr.of_block' (fun h => hK.block g (hr.lt h) (hgp h))
      have SH := hide (short_any wr p g a c xs (ppT xs (i + 1) k) hC hrk hb hgp hc0 hc hn hpp)
      have LE := hide (ppT_le xs (i + 1) (k + 1) n (by omega))
      have ST := hide (txT_step xs (i + 1) k)
      have LN := hide (txT_len xs (i + 1) k)
      have HR := hide hR
      have HK := hide hK
      clear hrk hC hR hK
      go_wp2_with fail
      refine SH.out.mono ?_
      rintro e w2 ⟨⟨h2, rfl, C2⟩ | ⟨h2, t', v', rfl⟩, K2⟩
      rotate_left
      · have H : Hid (¬ (i < xs.length ∧ ppT xs (i + 1) n ≤ xs.length)) := fun h => by
          have := LE.out
          have e : ppT xs (i + 1) (k + 1) = ppT xs (i + 1) k + 1 + (beN xs (ppT xs (i + 1) k) 1).toNat := rfl
          omega
        go_wp2
        exact ⟨rfl, .inr ⟨H.out, t', v', rfl⟩, HK.out.trans K2⟩
      have R2 := HR.out.kp K2 hpl
      have KK := HK.out.trans K2
      obtain ⟨v', w', hrun, R3, N3⟩ := append_tx w2 23 w.heap.size u3 _ R2 (txB (tkB xs (ppT xs (i + 1) k + 1) (beN xs (ppT xs (i + 1) k) 1).toNat)) (by rw [LN.out]; omega) KK.size
      generalize hl : txB (tkB xs (ppT xs (i + 1) k + 1) (beN xs (ppT xs (i + 1) k) 1).toNat) = ll at *
      have h1' : (Builtin.append_ #[23, 23] 23 #[u3, .slice (some ⟨w2.heap.size, 0, none⟩) 1 1]).run Tryz.prog (w2.alloc (.cells #[Value.string ⟨⟨ll⟩⟩] 9)) = .ok v' w' := hrun
      have FR : Hid (RowT w' w.heap.size v' (txT xs (i + 1) (k + 1))) := by show RowT _ _ _ _; rw [ST.out]; exact R3
      have FC : Hid (Cur w' p (.slice a xs.length c) ((ppT xs (i + 1) (k + 1) : Nat) : Int)) := C2.belw N3 hpl
      have FK := hide (KK.below' N3 (Nat.le_refl _))
      have FP : Hid (ppT xs (i + 1) (k + 1) ≤ xs.length) := h2
      clear R2 KK R3 N3 C2 K2 SH HR HK ST LE h2 hrun hl
      go_wp2_with (at_builtin; refine Lib.wpList_append_run _ rfl _ _ 23 23 rfl _ _ rfl rfl _ _ h1' ?_)
      go_roundw
      case rel => exact ⟨k + 1, by omega, by go_num, FR.out, FC.out, FP.out, FK.out⟩
      case measure => simp [intOf]; omega
    · obtain rfl : k = n := by omega
      have HR := hide hR
      have HC := hide hC
      have HK := hide hK
      clear hR hC hK
      go_wp2
      go_ret
      exact ⟨.inl ⟨h1, hpp, ⟨_, rfl, HR.out⟩, HC.out⟩, HK.out⟩
end Go.Proofs.YtmmbkkfjiaoeiaaGreat
namespace Go.Proofs.YtmmbkkfjiaoeiaaGreat
open Go Go.RowKit
theorem RowT.onl {w w' : World} {base q : Nat} {v : Value} {ls : List (List UInt8)} (h : RowT w base v ls) (O : Only q w w') (hq : q < base) : RowT w' base v ls := by
  refine ⟨h.1, ?_⟩
  rcases h.2 with h' | ⟨g, cap, cur, rfl, hbg, hg, hnc, hcm, hcs, ht⟩
  · exact .inl h'
  · exact .inr ⟨g, cap, cur, rfl, hbg, by rw [O.block g (by omega)]; exact hg, hnc, hcm, hcs, ht⟩
set_option maxRecDepth 100000 in
set_option maxHeartbeats 4000000 in
theorem extRead_any (w : World) (q p g : Nat) (a : Option Addr) (c : Nat) (xs : List Int) (t : TypeId) (hq : RwC w q [.slice none 0 0, .int .i64 0] t) (hqp : q ≠ p) (hC : Cur w p (.slice a xs.length c) ((0 : Nat) : Int)) (hpl : p < w.heap.size) (hr : Rd w g a .u8 xs) (hb : Byt xs) (hgp : 0 < xs.length → g ≠ p) (hgq : 0 < xs.length → g ≠ q) (hc0 : a = none → c = 0) (hc : xs.length ≤ c) (hn : xs.length ≤ 1048576) :
    Calls Tryz.prog 127 #[.pointer (some ⟨q, 0, none⟩), .pointer (some ⟨p, 0, none⟩)] w fun e w' => ((0 < xs.length ∧ ppT xs 1 (xs.getD 0 0).toNat + 1 ≤ xs.length ∧ e = .returned (.tuple #[]) ∧ ∃ v, RwC w' q [v, .int .i64 (beN xs (ppT xs 1 (xs.getD 0 0).toNat) 1)] t ∧ RowT w' w.heap.size v (txT xs 1 (xs.getD 0 0).toNat)) ∨ (¬ (0 < xs.length ∧ ppT xs 1 (xs.getD 0 0).toNat + 1 ≤ xs.length) ∧ Pan e)) ∧ Kq p q w w' := by
  have hql := hq.lt
  have SH := hide (shorts_any w p g a c xs 0 hC hpl hr hb hgp hc0 hc hn (Nat.zero_le _))
  clear hC
  obtain ⟨P, hP⟩ : ∃ P, P = ppT xs (0 + 1) (xs.getD 0 0).toNat := ⟨_, rfl⟩
  have hP1 : ppT xs 1 (xs.getD 0 0).toNat = P := hP.symm
  rw [← hP] at SH
  rw [hP1]
  clear hP hP1
  obtain ⟨TX, hT⟩ : ∃ T, T = txT xs (0 + 1) (xs.getD 0 0).toNat := ⟨_, rfl⟩
  have hT1 : txT xs 1 (xs.getD 0 0).toNat = TX := hT.symm
  rw [← hT] at SH
  rw [hT1]
  clear hT hT1
  go_enter Tryz.func127, Tryz.ntmps127
  go_wp2_with fail
  refine SH.out.mono ?_
  rintro e v1 ⟨⟨h1, h2, ⟨rv, rfl, R1⟩, C1⟩ | ⟨h1, t', v', rfl⟩, K1⟩
  rotate_left
  · have H : Hid (¬ (0 < xs.length ∧ P + 1 ≤ xs.length)) := fun h => h1 ⟨h.1, by omega⟩
    go_wp2
    exact ⟨rfl, .inr ⟨H.out, t', v', rfl⟩, K1.tch.mono (by simp)⟩
  clear SH
  have Q1 := hq.kp K1 hqp
  have c0 : v1.cell? ⟨q, 0, none⟩ = some (.slice none 0 0) := Q1.cell 0
  have f0 := Q1.free 0
  have O := Only.setCell v1 q 0 rv
  have Q2 : RwC (v1.setCell ⟨q, 0, none⟩ rv) q [rv, .int .i64 0] t := Q1.set 0 _
  have T2 : Tch [p, q] w (v1.setCell ⟨q, 0, none⟩ rv) := (K1.tch.trans (Tch.of_only O)).mono (by simp)
  have C2 := C1.only' O (by omega)
  have R2 := R1.onl O hql
  have hr2 := (hr.of_block' (fun h => K1.block g (hr.lt h) (hgp h))).of_block' (fun h => O.block g (hgq h))
  obtain ⟨ra, rl, rc, hrv⟩ : ∃ ra rl rc, rv = .slice ra rl rc := by
    rcases R1.2 with ⟨h', _⟩ | ⟨g', cap, cur, h', _⟩
    · exact ⟨_, _, _, h'⟩
    · exact ⟨_, _, _, h'⟩
  subst hrv
  clear hq Q1 K1 O C1 R1 hr
  go_upto_region 1 with fail
  generalize v1.setCell ⟨q, 0, none⟩ (.slice ra rl rc) = w2 at *
  clear c0 f0
  by_cases h3 : P + 1 ≤ xs.length
  rotate_left
  · have NB := hide (number_bad w2 p g a c xs P 1 C2 hr2 hgp (by omega) (by omega) (by omega) (by omega))
    have H : Hid (¬ (0 < xs.length ∧ P + 1 ≤ xs.length)) := fun h => h3 h.2
    go_wp2_with fail
    refine NB.out.mono ?_
    rintro e v2 ⟨⟨t', v', rfl⟩, O2⟩
    go_wp2
    exact ⟨rfl, .inr ⟨H.out, t', v', rfl⟩, (T2.trans (Tch.of_only O2)).mono (by simp)⟩
  have NM := hide (numberG_any w2 p g a c xs P 1 C2 hr2 hb hgp h3 (by omega) (by omega))
  rw [nmV_small hb P 1 (by decide)] at NM
  go_wp2_with fail
  refine NM.out.mono ?_
  rintro e v2 ⟨rfl, -, O1⟩
  have K := O1.kp
  have Q3 := Q2.kp K hqp
  have c1 : v2.cell? ⟨q, 1, none⟩ = some (.int .i64 0) := Q3.cell 1
  have f1 := Q3.free 1
  have O := Only.setCell v2 q 1 (.int .i64 (beN xs P 1))
  have FQ : Hid (RwC (v2.setCell ⟨q, 1, none⟩ (.int .i64 (beN xs P 1))) q [.slice ra rl rc, .int .i64 (beN xs P 1)] t) := Q3.set 1 _
  have FT : Hid (Kq p q w (v2.setCell ⟨q, 1, none⟩ (.int .i64 (beN xs P 1)))) := ((T2.trans K.tch).trans (Tch.of_only O)).mono (by simp)
  have FR := hide ((R2.kp K hpl).onl O hql)
  clear NM O1 K Q3 O R2 T2 Q2 C2 hr2
  go_wp2
  go_end0
  exact ⟨.inl ⟨h1, h3, rfl, _, FQ.out, FR.out⟩, FT.out⟩
end Go.Proofs.YtmmbkkfjiaoeiaaGreat
namespace Go.Proofs.YtmmbkkfjiaoeiaaGreat
open Go Go.RowKit
def hpA (xs : List Int) : Nat := 65 + 1 + (beN xs 65 1).toNat
def hpB (xs : List Int) : Nat := ppT xs (hpA xs + 1) (xs.getD (hpA xs) 0).toNat
def hpN (xs : List Int) : Nat := (beN xs (hpB xs) 2).toNat
def hpC (xs : List Int) : Nat := hpB xs + 2 + hpN xs
def HeG (xs : List Int) : Prop := hpA xs < xs.length ∧ hpC xs ≤ xs.length ∧ (0 < hpN xs → hpC xs + 37 ≤ xs.length)
theorem RowT.base' {w : World} {b b' : Nat} {v : Value} {ls : List (List UInt8)} (h : RowT w b v ls) (l : b' ≤ b) : RowT w b' v ls := by
  refine ⟨h.1, ?_⟩
  rcases h.2 with h' | ⟨g, cap, cur, rfl, hbg, hg, hnc, hcm, hcs, ht⟩
  · exact .inl h'
  · exact .inr ⟨g, cap, cur, rfl, by omega, hg, hnc, hcm, hcs, ht⟩
set_option maxRecDepth 100000 in
set_option maxHeartbeats 8000000 in
theorem helRead_any (w : World) (q p g : Nat) (a : Option Addr) (c : Nat) (xs : List Int) (t : TypeId) (hq : RwC w q [.int .i64 0, .slice none 0 0, .slice none 0 0, .string ⟨#[]⟩, .slice none 0 0, .slice none 0 0, .int .i64 0, .int .i64 0, .slice none 0 0] t) (hqp : q ≠ p) (hC : Cur w p (.slice a xs.length c) ((0 : Nat) : Int)) (hpl : p < w.heap.size) (hr : Rd w g a .u8 xs) (hb : Byt xs) (hgp : 0 < xs.length → g ≠ p) (hgq : 0 < xs.length → g ≠ q) (hc0 : a = none → c = 0) (hc : xs.length ≤ c) (hn : xs.length ≤ 1048576) :
    Calls Tryz.prog 89 #[.pointer (some ⟨q, 0, none⟩), .pointer (some ⟨p, 0, none⟩)] w fun e w' => ((HeG xs ∧ e = .returned (.tuple #[]) ∧ ∃ G1 G2 rv G5 x6 x7 x8, RwC w' q [.int .i64 (beN xs 0 1), .slice (some ⟨G1, 0, none⟩) 32 32, .slice (some ⟨G2, 0, none⟩) 32 32, .string ⟨⟨txB (tkB xs 66 (beN xs 65 1).toNat)⟩⟩, rv, .slice (some ⟨G5, 0, none⟩) (hpN xs) (hpN xs), .int .i64 x6, .int .i64 x7, x8] t ∧ Blk w' G1 .u8 (tkB xs 1 32) ∧ w.heap.size ≤ G1 ∧ Blk w' G2 .u8 (tkB xs 33 32) ∧ w.heap.size ≤ G2 ∧ G1 < G2 ∧ (∃ F1, G2 < F1 ∧ F1 ≤ G5 ∧ RowT w' F1 rv (txT xs (hpA xs + 1) (xs.getD (hpA xs) 0).toNat) ∧ ∀ k, rv.ownBlock = some k → k < G5) ∧ Blk w' G5 .u8 (tkB xs (hpB xs + 2) (hpN xs)) ∧ w.heap.size ≤ G5 ∧ ((hpN xs = 0 ∧ x6 = 0 ∧ x7 = 0 ∧ x8 = .slice none 0 0) ∨ (0 < hpN xs ∧ x6 = beN xs (hpC xs) 4 ∧ x7 = beN xs (hpC xs + 4) 1 ∧ ∃ G8, x8 = .slice (some ⟨G8, 0, none⟩) 32 32 ∧ Blk w' G8 .u8 (tkB xs (hpC xs + 5) 32) ∧ G5 < G8))) ∨ (¬ HeG xs ∧ Pan e)) ∧ Kq p q w w' := by
  have FR := hide (firstRead_any w q p g a c xs t [.string ⟨#[]⟩, .slice none 0 0, .slice none 0 0, .int .i64 0, .int .i64 0, .slice none 0 0] hq hqp hC hpl hr hb hgp hgq hc0 hc hn)
  have hql := hq.lt
  have EA : Hid (hpA xs = 65 + 1 + (beN xs 65 1).toNat) := rfl
  have EB : Hid (hpB xs = ppT xs (hpA xs + 1) (xs.getD (hpA xs) 0).toNat) := rfl
  have EN : Hid (hpN xs = (beN xs (hpB xs) 2).toNat) := rfl
  have EC : Hid (hpC xs = hpB xs + 2 + hpN xs) := rfl
  have lAB : hpA xs + 1 ≤ hpB xs := by rw [EB.out]; exact ppT_le xs (hpA xs + 1) 0 _ (Nat.zero_le _)
  have HG : Hid (HeG xs ↔ hpA xs < xs.length ∧ hpC xs ≤ xs.length ∧ (0 < hpN xs → hpC xs + 37 ≤ xs.length)) := Iff.rfl
  clear hq hC
  go_enter Tryz.func89, Tryz.ntmps89
  go_wp2_with fail
  refine FR.out.mono ?_
  rintro e w1 ⟨⟨h1, rfl, G1, G2, Q, C, B1, l1, B2, l2, o12⟩ | ⟨h1, t', v', rfl⟩, T⟩
  rotate_left
  · have H : Hid (¬ HeG xs) := fun h => by have := HG.out.1 h; have := EA.out; have := EB.out; have := EN.out; have := EC.out; omega
    go_wp2
    exact ⟨rfl, .inr ⟨H.out, t', v', rfl⟩, T⟩
  have T : Tch [p, q] w w1 := T
  have hr := hr.tchK T (fun h0 => by have := hgp h0; have := hgq h0; simp; omega)
  clear FR
  have NM := hide (short_any w1 p g a c xs 65 C hr hb hgp hc0 hc hn (by omega))
  go_wp2_with fail
  refine NM.out.mono ?_
  rintro e v1 ⟨⟨hs, rfl, C'⟩ | ⟨h1, t', v', rfl⟩, K⟩
  rotate_left
  · have H : Hid (¬ HeG xs) := fun h => by have := HG.out.1 h; have := EA.out; have := EB.out; have := EN.out; have := EC.out; omega
    go_wp2
    exact ⟨rfl, .inr ⟨H.out, t', v', rfl⟩, (T.trans K.tch).mono (by simp)⟩
  have Q1 : RwC v1 q [.int .i64 (beN xs 0 1), .slice (some ⟨G1, 0, none⟩) 32 32, .slice (some ⟨G2, 0, none⟩) 32 32, .string ⟨#[]⟩, .slice none 0 0, .slice none 0 0, .int .i64 0, .int .i64 0, .slice none 0 0] t := Q.kp K hqp
  have cc : v1.cell? ⟨q, 3, none⟩ = some (.string ⟨#[]⟩) := Q1.cell 3
  have ff := Q1.free 3
  have O := Only.setCell v1 q 3 (.string ⟨⟨txB (tkB xs 66 (beN xs 65 1).toNat)⟩⟩)
  have Q2 : RwC (v1.setCell ⟨q, 3, none⟩ (.string ⟨⟨txB (tkB xs 66 (beN xs 65 1).toNat)⟩⟩)) q [.int .i64 (beN xs 0 1), .slice (some ⟨G1, 0, none⟩) 32 32, .slice (some ⟨G2, 0, none⟩) 32 32, .string ⟨⟨txB (tkB xs 66 (beN xs 65 1).toNat)⟩⟩, .slice none 0 0, .slice none 0 0, .int .i64 0, .int .i64 0, .slice none 0 0] t := Q1.set 3 _
  have T2 : Tch [p, q] w (v1.setCell ⟨q, 3, none⟩ (.string ⟨⟨txB (tkB xs 66 (beN xs 65 1).toNat)⟩⟩)) := ((T.trans K.tch).trans (Tch.of_only O)).mono (by simp)
  have C2 := C'.only' O (by omega)
  have R2 := (hr.of_block' (fun h => K.block g (hr.lt h) (hgp h))).of_block' (fun h => O.block g (hgq h))
  replace B1 := (B1.kp K (by omega)).of_block (O.block _ (by omega))
  replace B2 := (B2.kp K (by omega)).of_block (O.block _ (by omega))
  have sT := T.size
  clear NM Q Q1 T K O C C' hr
  go_upto_region 2 with fail
  generalize v1.setCell ⟨q, 3, none⟩ (.string ⟨⟨txB (tkB xs 66 (beN xs 65 1).toNat)⟩⟩) = w2 at *
  have Q := Q2
  have T := T2
  have C := C2
  have hr := R2
  clear Q2 T2 C2 R2 cc ff
  rw [← EA.out] at C hs
  have NM := hide (shorts_any w2 p g a c xs (hpA xs) C (by have := T.size; omega) hr hb hgp hc0 hc hn (by omega))
  go_wp2_with fail
  refine NM.out.mono ?_
  rintro e v2 ⟨⟨ht1, ht2, ⟨rv, rfl, RT⟩, C'⟩ | ⟨h2, t', v', rfl⟩, K⟩
  rotate_left
  · have H : Hid (¬ HeG xs) := fun h => by have := HG.out.1 h; have := EA.out; have := EB.out; have := EN.out; have := EC.out; omega
    go_wp2
    exact ⟨rfl, .inr ⟨H.out, t', v', rfl⟩, (T.trans K.tch).mono (by simp)⟩
  obtain ⟨ra, rl, rc, hrv⟩ : ∃ ra rl rc, rv = .slice ra rl rc := by
    rcases RT.2 with ⟨h', _⟩ | ⟨g', cap, cur, h', _⟩
    · exact ⟨_, _, _, h'⟩
    · exact ⟨_, _, _, h'⟩
  subst hrv
  obtain ⟨F1, g2F, wF, F1v, RT⟩ : ∃ F1, G2 < F1 ∧ w.heap.size ≤ F1 ∧ F1 ≤ v2.heap.size ∧ RowT v2 F1 (.slice ra rl rc) (txT xs (hpA xs + 1) (xs.getD (hpA xs) 0).toNat) := ⟨w2.heap.size, B2.lt, T.size, K.size, RT⟩
  have Q1 : RwC v2 q [.int .i64 (beN xs 0 1), .slice (some ⟨G1, 0, none⟩) 32 32, .slice (some ⟨G2, 0, none⟩) 32 32, .string ⟨⟨txB (tkB xs 66 (beN xs 65 1).toNat)⟩⟩, .slice none 0 0, .slice none 0 0, .int .i64 0, .int .i64 0, .slice none 0 0] t := Q.kp K hqp
  have cc : v2.cell? ⟨q, 4, none⟩ = some (.slice none 0 0) := Q1.cell 4
  have ff := Q1.free 4
  have O := Only.setCell v2 q 4 (.slice ra rl rc)
  have Q2 : RwC (v2.setCell ⟨q, 4, none⟩ (.slice ra rl rc)) q [.int .i64 (beN xs 0 1), .slice (some ⟨G1, 0, none⟩) 32 32, .slice (some ⟨G2, 0, none⟩) 32 32, .string ⟨⟨txB (tkB xs 66 (beN xs 65 1).toNat)⟩⟩, .slice ra rl rc, .slice none 0 0, .int .i64 0, .int .i64 0, .slice none 0 0] t := Q1.set 4 _
  have T2 : Tch [p, q] w (v2.setCell ⟨q, 4, none⟩ (.slice ra rl rc)) := ((T.trans K.tch).trans (Tch.of_only O)).mono (by simp)
  have C2 := C'.only' O (by omega)
  have R2 := (hr.of_block' (fun h => K.block g (hr.lt h) (hgp h))).of_block' (fun h => O.block g (hgq h))
  replace B1 := (B1.kp K (by omega)).of_block (O.block _ (by omega))
  replace B2 := (B2.kp K (by omega)).of_block (O.block _ (by omega))
  replace RT := RT.onl O (by omega)
  have FV : F1 ≤ (v2.setCell ⟨q, 4, none⟩ (.slice ra rl rc)).heap.size := by rw [O.size]; exact F1v
  clear F1v
  have sT := T.size
  clear NM Q Q1 T K O C C' hr
  go_upto_region 3 with fail
  generalize v2.setCell ⟨q, 4, none⟩ (.slice ra rl rc) = w3 at *
  have Q := Q2
  have T := T2
  have C := C2
  have hr := R2
  clear Q2 T2 C2 R2 cc ff
  rw [← EB.out] at C ht2
  have NM := hide (long_any w3 p g a c xs (hpB xs) C hr hb hgp hc0 hc hn (by omega))
  go_wp2_with fail
  refine NM.out.mono ?_
  rintro e v3 ⟨⟨hl1, ⟨G5, rfl, B5, l5⟩, C'⟩ | ⟨h3, t', v', rfl⟩, K⟩
  rotate_left
  · have H : Hid (¬ HeG xs) := fun h => by have := HG.out.1 h; have := EA.out; have := EB.out; have := EN.out; have := EC.out; omega
    go_wp2
    exact ⟨rfl, .inr ⟨H.out, t', v', rfl⟩, (T.trans K.tch).mono (by simp)⟩
  have l5' : w.heap.size ≤ G5 := Nat.le_trans T.size l5
  have F5 : F1 ≤ G5 := Nat.le_trans FV l5
  have rvG : Hid (∀ k, Value.ownBlock (.slice ra rl rc) = some k → k < G5) := fun k hk => Nat.lt_of_lt_of_le (World.ownsRow.lt RT k hk).2 l5
  clear l5 FV
  have Q1 : RwC v3 q [.int .i64 (beN xs 0 1), .slice (some ⟨G1, 0, none⟩) 32 32, .slice (some ⟨G2, 0, none⟩) 32 32, .string ⟨⟨txB (tkB xs 66 (beN xs 65 1).toNat)⟩⟩, .slice ra rl rc, .slice none 0 0, .int .i64 0, .int .i64 0, .slice none 0 0] t := Q.kp K hqp
  have cc : v3.cell? ⟨q, 5, none⟩ = some (.slice none 0 0) := Q1.cell 5
  have ff := Q1.free 5
  have O := Only.setCell v3 q 5 (.slice (some ⟨G5, 0, none⟩) (beN xs (hpB xs) 2).toNat (beN xs (hpB xs) 2).toNat)
  have Q2 : RwC (v3.setCell ⟨q, 5, none⟩ (.slice (some ⟨G5, 0, none⟩) (beN xs (hpB xs) 2).toNat (beN xs (hpB xs) 2).toNat)) q [.int .i64 (beN xs 0 1), .slice (some ⟨G1, 0, none⟩) 32 32, .slice (some ⟨G2, 0, none⟩) 32 32, .string ⟨⟨txB (tkB xs 66 (beN xs 65 1).toNat)⟩⟩, .slice ra rl rc, .slice (some ⟨G5, 0, none⟩) (beN xs (hpB xs) 2).toNat (beN xs (hpB xs) 2).toNat, .int .i64 0, .int .i64 0, .slice none 0 0] t := Q1.set 5 _
  have T2 : Tch [p, q] w (v3.setCell ⟨q, 5, none⟩ (.slice (some ⟨G5, 0, none⟩) (beN xs (hpB xs) 2).toNat (beN xs (hpB xs) 2).toNat)) := ((T.trans K.tch).trans (Tch.of_only O)).mono (by simp)
  have C2 := C'.only' O (by omega)
  have R2 := (hr.of_block' (fun h => K.block g (hr.lt h) (hgp h))).of_block' (fun h => O.block g (hgq h))
  replace B1 := (B1.kp K (by omega)).of_block (O.block _ (by omega))
  replace B2 := (B2.kp K (by omega)).of_block (O.block _ (by omega))
  replace RT := (RT.kp K (by omega)).onl O (by omega)
  replace B5 := B5.of_block (O.block _ (by omega))
  have sT := T.size
  clear NM Q Q1 T K O C C' hr
  go_upto_region 4 with fail
  generalize v3.setCell ⟨q, 5, none⟩ (.slice (some ⟨G5, 0, none⟩) (beN xs (hpB xs) 2).toNat (beN xs (hpB xs) 2).toNat) = w4 at *
  have Q := Q2
  have T := T2
  have C := C2
  have hr := R2
  clear Q2 T2 C2 R2 cc ff
  rw [← EN.out] at Q B5 C hl1
  try rw [← EN.out]
  rw [← EC.out] at C hl1
  have c5 : w4.cell? ⟨q, 5, none⟩ = some (.slice (some ⟨G5, 0, none⟩) (hpN xs) (hpN xs)) := Q.cell 5
  by_cases hz : hpN xs = 0
  · have z0 : decide ((0 : Int) < (hpN xs : Int)) = false := decide_eq_false (by omega)
    have FIN : Hid (HeG xs) := HG.out.2 ⟨by omega, by omega, fun h => by omega⟩
    go_wp2
    go_end0
    exact ⟨.inl ⟨FIN.out, rfl, G1, G2, .slice ra rl rc, G5, 0, 0, .slice none 0 0, Q, B1, l1, B2, l2, o12, ⟨F1, g2F, F5, RT, rvG.out⟩, B5, l5', .inl ⟨hz, rfl, rfl, rfl⟩⟩, T⟩
  have hpos : 0 < hpN xs := by omega
  have z0 : decide ((0 : Int) < (hpN xs : Int)) = true := decide_eq_true (by omega)
  go_upto_region 5 with fail
  clear c5 z0
  by_cases h4 : hpC xs + 4 ≤ xs.length
  rotate_left
  · have NB := hide (number_bad w4 p g a c xs (hpC xs) 4 C hr hgp (by omega) (by omega) (by omega) (by omega))
    have H : Hid (¬ HeG xs) := fun h => by have := (HG.out.1 h).2.2 hpos; have := EC.out; omega
    go_wp2_with fail
    refine NB.out.mono ?_
    rintro e v4 ⟨⟨t', v', rfl⟩, O2⟩
    go_wp2
    exact ⟨rfl, .inr ⟨H.out, t', v', rfl⟩, (T.trans (Tch.of_only O2)).mono (by simp)⟩
  have NM := hide (numberG_any w4 p g a c xs (hpC xs) 4 C hr hb hgp (by omega) (by omega) (by omega))
  rw [nmV_small hb (hpC xs) 4 (by decide)] at NM
  go_wp2_with fail
  refine NM.out.mono ?_
  rintro e v4 ⟨rfl, C', O1⟩
  have K := O1.kp
  clear O1
  have Q1 : RwC v4 q [.int .i64 (beN xs 0 1), .slice (some ⟨G1, 0, none⟩) 32 32, .slice (some ⟨G2, 0, none⟩) 32 32, .string ⟨⟨txB (tkB xs 66 (beN xs 65 1).toNat)⟩⟩, .slice ra rl rc, .slice (some ⟨G5, 0, none⟩) (hpN xs) (hpN xs), .int .i64 0, .int .i64 0, .slice none 0 0] t := Q.kp K hqp
  have cc : v4.cell? ⟨q, 6, none⟩ = some (.int .i64 0) := Q1.cell 6
  have ff := Q1.free 6
  have O := Only.setCell v4 q 6 (.int .i64 (beN xs (hpC xs) 4))
  have Q2 : RwC (v4.setCell ⟨q, 6, none⟩ (.int .i64 (beN xs (hpC xs) 4))) q [.int .i64 (beN xs 0 1), .slice (some ⟨G1, 0, none⟩) 32 32, .slice (some ⟨G2, 0, none⟩) 32 32, .string ⟨⟨txB (tkB xs 66 (beN xs 65 1).toNat)⟩⟩, .slice ra rl rc, .slice (some ⟨G5, 0, none⟩) (hpN xs) (hpN xs), .int .i64 (beN xs (hpC xs) 4), .int .i64 0, .slice none 0 0] t := Q1.set 6 _
  have T2 : Tch [p, q] w (v4.setCell ⟨q, 6, none⟩ (.int .i64 (beN xs (hpC xs) 4))) := ((T.trans K.tch).trans (Tch.of_only O)).mono (by simp)
  have C2 := C'.only' O (by omega)
  have R2 := (hr.of_block' (fun h => K.block g (hr.lt h) (hgp h))).of_block' (fun h => O.block g (hgq h))
  replace B1 := (B1.kp K (by omega)).of_block (O.block _ (by omega))
  replace B2 := (B2.kp K (by omega)).of_block (O.block _ (by omega))
  replace RT := (RT.kp K (by omega)).onl O (by omega)
  replace B5 := (B5.kp K (by omega)).of_block (O.block _ (by omega))
  have sT := T.size
  clear NM Q Q1 T K O C C' hr
  go_upto_region 6 with fail
  generalize v4.setCell ⟨q, 6, none⟩ (.int .i64 (beN xs (hpC xs) 4)) = w5 at *
  have Q := Q2
  have T := T2
  have C := C2
  have hr := R2
  clear Q2 T2 C2 R2 cc ff
  by_cases h5 : hpC xs + 4 + 1 ≤ xs.length
  rotate_left
  · have NB := hide (number_bad w5 p g a c xs (hpC xs + 4) 1 C hr hgp (by omega) (by omega) (by omega) (by omega))
    have H : Hid (¬ HeG xs) := fun h => by have := (HG.out.1 h).2.2 hpos; have := EC.out; omega
    go_wp2_with fail
    refine NB.out.mono ?_
    rintro e v5 ⟨⟨t', v', rfl⟩, O2⟩
    go_wp2
    exact ⟨rfl, .inr ⟨H.out, t', v', rfl⟩, (T.trans (Tch.of_only O2)).mono (by simp)⟩
  have NM := hide (numberG_any w5 p g a c xs (hpC xs + 4) 1 C hr hb hgp (by omega) (by omega) (by omega))
  rw [nmV_small hb (hpC xs + 4) 1 (by decide)] at NM
  go_wp2_with fail
  refine NM.out.mono ?_
  rintro e v5 ⟨rfl, C', O1⟩
  have K := O1.kp
  clear O1
  have Q1 : RwC v5 q [.int .i64 (beN xs 0 1), .slice (some ⟨G1, 0, none⟩) 32 32, .slice (some ⟨G2, 0, none⟩) 32 32, .string ⟨⟨txB (tkB xs 66 (beN xs 65 1).toNat)⟩⟩, .slice ra rl rc, .slice (some ⟨G5, 0, none⟩) (hpN xs) (hpN xs), .int .i64 (beN xs (hpC xs) 4), .int .i64 0, .slice none 0 0] t := Q.kp K hqp
  have cc : v5.cell? ⟨q, 7, none⟩ = some (.int .i64 0) := Q1.cell 7
  have ff := Q1.free 7
  have O := Only.setCell v5 q 7 (.int .i64 (beN xs (hpC xs + 4) 1))
  have Q2 : RwC (v5.setCell ⟨q, 7, none⟩ (.int .i64 (beN xs (hpC xs + 4) 1))) q [.int .i64 (beN xs 0 1), .slice (some ⟨G1, 0, none⟩) 32 32, .slice (some ⟨G2, 0, none⟩) 32 32, .string ⟨⟨txB (tkB xs 66 (beN xs 65 1).toNat)⟩⟩, .slice ra rl rc, .slice (some ⟨G5, 0, none⟩) (hpN xs) (hpN xs), .int .i64 (beN xs (hpC xs) 4), .int .i64 (beN xs (hpC xs + 4) 1), .slice none 0 0] t := Q1.set 7 _
  have T2 : Tch [p, q] w (v5.setCell ⟨q, 7, none⟩ (.int .i64 (beN xs (hpC xs + 4) 1))) := ((T.trans K.tch).trans (Tch.of_only O)).mono (by simp)
  have C2 := C'.only' O (by omega)
  have R2 := (hr.of_block' (fun h => K.block g (hr.lt h) (hgp h))).of_block' (fun h => O.block g (hgq h))
  replace B1 := (B1.kp K (by omega)).of_block (O.block _ (by omega))
  replace B2 := (B2.kp K (by omega)).of_block (O.block _ (by omega))
  replace RT := (RT.kp K (by omega)).onl O (by omega)
  replace B5 := (B5.kp K (by omega)).of_block (O.block _ (by omega))
  have sT := T.size
  clear NM Q Q1 T K O C C' hr
  go_upto_region 7 with fail
  generalize v5.setCell ⟨q, 7, none⟩ (.int .i64 (beN xs (hpC xs + 4) 1)) = w6 at *
  have Q := Q2
  have T := T2
  have C := C2
  have hr := R2
  clear Q2 T2 C2 R2 cc ff
  have C : Cur w6 p (.slice a xs.length c) ((hpC xs + 5 : Nat) : Int) := C
  have l8 := B5.lt
  by_cases h6 : hpC xs + 5 + 32 ≤ xs.length
  rotate_left
  · have NB := hide (takeList_bad w6 p a xs.length c (hpC xs + 5) 32 C (by omega) hn (by omega))
    have H : Hid (¬ HeG xs) := fun h => by have := (HG.out.1 h).2.2 hpos; have := EC.out; omega
    go_wp2_with fail
    refine NB.out.mono ?_
    rintro e v6 ⟨⟨t', v', rfl⟩, O2⟩
    go_wp2
    exact ⟨rfl, .inr ⟨H.out, t', v', rfl⟩, (T.trans (Tch.of_only O2)).mono (by simp)⟩
  have NM := hide (takeList_any w6 p g a c xs (hpC xs + 5) 32 C hr hc0 hc hn (by omega) (by omega))
  rw [tkB_take xs (hpC xs + 5) 32 (by omega)] at NM
  go_wp2_with fail
  refine NM.out.mono ?_
  rintro e v6 ⟨rfl, B8, C', K⟩
  have Q1 : RwC v6 q [.int .i64 (beN xs 0 1), .slice (some ⟨G1, 0, none⟩) 32 32, .slice (some ⟨G2, 0, none⟩) 32 32, .string ⟨⟨txB (tkB xs 66 (beN xs 65 1).toNat)⟩⟩, .slice ra rl rc, .slice (some ⟨G5, 0, none⟩) (hpN xs) (hpN xs), .int .i64 (beN xs (hpC xs) 4), .int .i64 (beN xs (hpC xs + 4) 1), .slice none 0 0] t := Q.kp K hqp
  have cc : v6.cell? ⟨q, 8, none⟩ = some (.slice none 0 0) := Q1.cell 8
  have ff := Q1.free 8
  have O := Only.setCell v6 q 8 (.slice (some ⟨w6.heap.size, 0, none⟩) 32 32)
  have Q2 : RwC (v6.setCell ⟨q, 8, none⟩ (.slice (some ⟨w6.heap.size, 0, none⟩) 32 32)) q [.int .i64 (beN xs 0 1), .slice (some ⟨G1, 0, none⟩) 32 32, .slice (some ⟨G2, 0, none⟩) 32 32, .string ⟨⟨txB (tkB xs 66 (beN xs 65 1).toNat)⟩⟩, .slice ra rl rc, .slice (some ⟨G5, 0, none⟩) (hpN xs) (hpN xs), .int .i64 (beN xs (hpC xs) 4), .int .i64 (beN xs (hpC xs + 4) 1), .slice (some ⟨w6.heap.size, 0, none⟩) 32 32] t := Q1.set 8 _
  have T2 : Tch [p, q] w (v6.setCell ⟨q, 8, none⟩ (.slice (some ⟨w6.heap.size, 0, none⟩) 32 32)) := ((T.trans K.tch).trans (Tch.of_only O)).mono (by simp)
  have C2 := C'.only' O (by omega)
  have R2 := (hr.of_block' (fun h => K.block g (hr.lt h) (hgp h))).of_block' (fun h => O.block g (hgq h))
  replace B1 := (B1.kp K (by omega)).of_block (O.block _ (by omega))
  replace B2 := (B2.kp K (by omega)).of_block (O.block _ (by omega))
  replace RT := (RT.kp K (by omega)).onl O (by omega)
  replace B5 := (B5.kp K (by omega)).of_block (O.block _ (by omega))
  replace B8 := B8.of_block (O.block _ (by omega))
  have sT := T.size
  clear NM Q Q1 T K O C C' hr
  have FIN : Hid (HeG xs) := HG.out.2 ⟨by omega, by omega, fun h => by omega⟩
  go_wp2
  go_end0
  exact ⟨.inl ⟨FIN.out, rfl, G1, G2, .slice ra rl rc, G5, _, _, _, Q2, B1, l1, B2, l2, o12, ⟨F1, g2F, F5, RT, rvG.out⟩, B5, l5', .inr ⟨hpos, rfl, rfl, _, rfl, B8, l8⟩⟩, T2⟩
end Go.Proofs.YtmmbkkfjiaoeiaaGreat
