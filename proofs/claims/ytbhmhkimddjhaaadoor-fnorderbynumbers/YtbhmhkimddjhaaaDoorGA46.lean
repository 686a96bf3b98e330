import Derived.Test.YtbhmhkimddjhaaaDoorGA45
import Derived.Test.YtbhmhkimddjhaaaDoorGA23
/-
  OrderMulAdd, the program's and the model's.
-/
namespace Go.Proofs.YtbhmhkimddjhaaaDoor
set_option maxRecDepth 100000
open Go.RowKit

/-- What both answer. -/
def omul (xs ys zs : List Int) : List Int := if xs.length = 32 ∧ ys.length = 32 ∧ zs.length = 32 then fill (byt ((num xs * num ys + num zs) % QQ)) 32 else []
theorem omul_len (xs ys zs : List Int) : (omul xs ys zs).length ≤ 32 := by
  unfold omul
  split
  · rw [fill_len]; omega
  · simp

set_option maxHeartbeats 2000000 in
theorem implOrderMulAdd_any (w : World) (g g' g'' : Nat) (a b c : Option Addr) (ca cb cc : Nat) (xs ys zs : List Int) (ha : Rd w g a .u8 xs) (hb : Rd w g' b .u8 ys) (hc : Rd w g'' c .u8 zs) (hx : Byt xs) (hy : Byt ys) (hz : Byt zs) (hO : HasO w) :
    Calls Tryd.prog 22 #[.slice a xs.length ca, .slice b ys.length cb, .slice c zs.length cc] w fun e w' => NewRow w.heap.size w' e .u8 (omul xs ys zs) ∧ Below w.heap.size w w' := by
  by_cases h1 : xs.length = 32
  · by_cases h2 : ys.length = 32
    · by_cases h3 : zs.length = 32
      · have R1 := fun W (h : Below w.heap.size w W) => readScalar_any W g a ca xs (ha.up h) hx h1
        have R2 := fun W (h : Below w.heap.size w W) => readScalar_any W g' b cb ys (hb.up h) hy h2
        have R3 := fun W (h : Below w.heap.size w W) => readScalar_any W g'' c cc zs (hc.up h) hz h3
        have W1 : W4 (wv (fun j => xs.getD j 0) 32) := fun j _ => wv_lt hx 32 j
        have W2 : W4 (wv (fun j => ys.getD j 0) 32) := fun j _ => wv_lt hy 32 j
        have W3 : W4 (wv (fun j => zs.getD j 0) 32) := fun j _ => wv_lt hz 32 j
        have V1 : wval (wv (fun j => xs.getD j 0) 32) = num xs := by rw [wv_sum _ 32 (by omega)]; unfold num; rw [h1]
        have V2 : wval (wv (fun j => ys.getD j 0) 32) = num ys := by rw [wv_sum _ 32 (by omega)]; unfold num; rw [h2]
        have V3 : wval (wv (fun j => zs.getD j 0) 32) = num zs := by rw [wv_sum _ 32 (by omega)]; unfold num; rw [h3]
        have K : Hid (omul xs ys zs = fill (byt ((num xs * num ys + num zs) % QQ)) 32) := by show _ = _; rw [omul, if_pos ⟨h1, h2, h3⟩]
        rw [h1, h2, h3]
        clear h1 h2 h3 ha hb hc hx hy hz
        generalize wv (fun j => xs.getD j 0) 32 = s at *
        generalize wv (fun j => ys.getD j 0) 32 = t at *
        generalize wv (fun j => zs.getD j 0) 32 = u at *
        obtain ⟨_, m1, m2⟩ := ma_all W1 W2 W3
        have M1 := m1 4 (by omega)
        have MA := fun W => mulAdd_any W s t u W1 W2 W3
        rw [V1, V2, V3] at m2
        generalize ma s t u 4 = D at *
        obtain ⟨r1, r2⟩ := rdD_ok M1
        have DR := fun W (h : Below w.heap.size w W) => doubleReduce_any W D M1 (hO.up h)
        have SB := fun W => scalarBytes_any W (rdD D) r1
        rw [r2, m2, ← K.out] at SB
        clear m1 m2 r1 r2 M1 W1 W2 W3 V1 V2 V3
        go_enter Tryd.func22, Tryd.ntmps22
        go_wp2_with fail
        refine (R1 w (Below.refl _ _)).mono ?_
        rintro e w1 ⟨rfl, n1⟩
        go_wp2_with fail
        refine (R2 w1 n1).mono ?_
        rintro e w2 ⟨rfl, n2⟩
        have N2 := nxt n1 n2
        go_wp2_with fail
        refine (R3 w2 N2).mono ?_
        rintro e w3 ⟨rfl, n3⟩
        have N3 := nxt N2 n3
        clear R1 R2 R3
        go_wp2_with fail
        refine (MA w3).mono ?_
        rintro e w4 ⟨rfl, n4⟩
        have N4 := nxt N3 n4
        go_wp2_with fail
        refine (DR w4 N4).mono ?_
        rintro e w5 ⟨rfl, n5⟩
        have N5 := nxt N4 n5
        go_wp2_with fail
        refine (SB w5).mono ?_
        rintro e w6 ⟨⟨a3, c3, g3, rfl, o3, p3, q3, r3⟩, n6⟩
        have N6 := nxt N5 n6
        have z := N5.size
        clear MA DR SB
        go_wp2
        go_ret
        exact ⟨⟨a3, c3, g3, rfl, o3, p3, q3, by omega⟩, N6⟩
      · have K : Hid (omul xs ys zs = []) := by show _ = _; rw [omul, if_neg (fun h => h3 h.2.2)]
        have t3 : ((zs.length : Int) == 32) = false := by simp; omega
        rw [h1, h2]
        clear h1 h2 h3
        go_enter Tryd.func22, Tryd.ntmps22
        go_wp2
        go_ret
        rw [K.out]
        exact ⟨newRow_nil _ _, Below.refl _ _⟩
    · have K : Hid (omul xs ys zs = []) := by show _ = _; rw [omul, if_neg (fun h => h2 h.2.1)]
      have t2 : ((ys.length : Int) == 32) = false := by simp; omega
      rw [h1]
      clear h1 h2
      go_enter Tryd.func22, Tryd.ntmps22
      go_wp2
      go_ret
      rw [K.out]
      exact ⟨newRow_nil _ _, Below.refl _ _⟩
  · have K : Hid (omul xs ys zs = []) := by show _ = _; rw [omul, if_neg (fun h => h1 h.1)]
    have t1 : ((xs.length : Int) == 32) = false := by simp; omega
    have t1' : ((xs.length : Int) != 32) = true := by simp; omega
    clear h1
    go_enter Tryd.func22, Tryd.ntmps22
    go_wp2
    go_ret
    rw [K.out]
    exact ⟨newRow_nil _ _, Below.refl _ _⟩

set_option maxHeartbeats 2000000 in
theorem specOrderMulAdd_any (w : World) (g g' g'' : Nat) (a b c : Option Addr) (ca cb cc : Nat) (xs ys zs : List Int) (ha : Rd w g a .u8 xs) (hb : Rd w g' b .u8 ys) (hc : Rd w g'' c .u8 zs) (hx : Byt xs) (hy : Byt ys) (hz : Byt zs) :
    Calls Tryd.prog 21 #[.slice a xs.length ca, .slice b ys.length cb, .slice c zs.length cc] w fun e w' => NewRow w.heap.size w' e .u8 (omul xs ys zs) ∧ Below w.heap.size w w' := by
  have hal : Below w.heap.size w (w.alloc (.cells #[] 5)) := (Below.refl _ _).alloc (Nat.le_refl _) _
  by_cases h1 : xs.length = 32
  · by_cases h2 : ys.length = 32
    · by_cases h3 : zs.length = 32
      · have R1 := fun W (h : Below w.heap.size w W) => l2Num_any W g a ca xs (ha.up h) hx (by omega)
        have R2 := fun W (h : Below w.heap.size w W) => l2Num_any W g' b cb ys (hb.up h) hy (by omega)
        have R3 := fun W (h : Below w.heap.size w W) => l2Num_any W g'' c cc zs (hc.up h) hz (by omega)
        have K : Hid (omul xs ys zs = fill (byt ((num xs * num ys + num zs) % QQ)) 32) := by show _ = _; rw [omul, if_pos ⟨h1, h2, h3⟩]
        have V1 : Hid (lsum (fun j => xs.getD j 0) 32 = num xs) := by show _ = _; unfold num; rw [h1]
        have V2 : Hid (lsum (fun j => ys.getD j 0) 32 = num ys) := by show _ = _; unfold num; rw [h2]
        have V3 : Hid (lsum (fun j => zs.getD j 0) 32 = num zs) := by show _ = _; unfold num; rw [h3]
        simp only [h1] at R1
        simp only [h2] at R2
        simp only [h3] at R3
        rw [h1, h2, h3]
        clear h1 h2 h3 ha hb hc hal
        go_enter Tryd.func21, Tryd.ntmps21
        go_wp2_with fail
        refine (R1 w (Below.refl _ _)).mono ?_
        rintro e w1 ⟨y1, C1, l1, ⟨a1, c1, g1, rfl, o1, p1, q1, r1⟩, n1⟩
        go_wp2_with fail
        refine (R2 w1 n1).mono ?_
        rintro e w2 ⟨y2, C2, l2, ⟨a2, c2, g2, rfl, o2, p2, q2, r2⟩, n2⟩
        have N2 := nxt n1 n2
        have o1' := o1.up n2
        clear R1 R2 o1 n1 n2
        go_wp2_with fail
        refine (l1Mul_any w2 g1 g2 a1 a2 c1 c2 y1 y2 o1'.rd o2.rd C1.1 C2.1 (by omega) (by omega)).mono ?_
        rintro e w3 ⟨y3, C3, ⟨a3, c3, g3, rfl, o3, p3, q3, r3⟩, n3⟩
        have N3 := nxt N2 n3
        have L3 : y3.length ≤ 64 := C3.len (n := 64) (mul_lt64 (bval_lt32 C1.1 l1) (bval_lt32 C2.1 l2) (bval_nonneg C1.1) (bval_nonneg C2.1))
        rw [C1.2.1, C2.2.1, V1.out, V2.out] at C3
        clear N2 n3 o1' o2 C1 C2 p1 q1 r1 p2 q2 r2 l1 l2
        go_wp2_with fail
        refine (R3 w3 N3).mono ?_
        rintro e w4 ⟨y4, C4, l4, ⟨a4, c4, g4, rfl, o4, p4, q4, r4⟩, n4⟩
        have N4 := nxt N3 n4
        have o3' := o3.up n4
        clear R3 N3 n4 o3
        go_wp2_with fail
        refine (l1Add_any w4 g3 g4 a3 a4 c3 c4 y3 y4 o3'.rd o4.rd C3.1 C4.1 (by omega) (by omega)).mono ?_
        rintro e w5 ⟨y5, C5, ⟨a5, c5, g5, rfl, o5, p5, q5, r5⟩, n5⟩
        have N5 := nxt N4 n5
        have L5 : y5.length ≤ 65 := C5.len (n := 65) (by
          have b3 := Int.lt_of_lt_of_le (bval_lt C3.1) (p256_le (show y3.length ≤ 64 from L3))
          have b4 := Int.lt_of_lt_of_le (bval_lt C4.1) (p256_le (show y4.length ≤ 64 by omega))
          rw [Int.pow_succ]
          omega)
        rw [C3.2.1, C4.2.1, V3.out] at C5
        clear N4 n5 o3' o4 C3 C4 p3 q3 r3 p4 q4 r4
        go_wp2_with fail
        refine (l3Order_any w5).mono ?_
        rintro e w6 ⟨qs, C6, ⟨a6, c6, g6, rfl, o6, p6, q6, r6⟩, n6⟩
        have L6 := canon_q C6
        have N6 := nxt N5 n6
        have o5' := o5.up n6
        clear N5 n6 o5
        go_wp2_with fail
        refine (l1Mod_any w6 g5 g6 a5 a6 c5 c6 y5 qs o5'.rd o6.rd C5.1 C6.1 p6 q6 (by omega) (by omega) (q_pos C6)).mono ?_
        rintro e w7 ⟨⟨y7, a7, c7, g7, rfl, o7, p7, q7, r7, C7⟩, n7⟩
        have N7 := nxt N6 n7
        have V : Hid (fill (dig y7) 32 = omul xs ys zs) := by
          show _ = _
          rw [K.out]
          exact tell_q C7.1 _ (by rw [C7.2.1, C6.2.1, C5.2.1])
        have L7 : y7.length ≤ 32 := C7.len (by
          rw [C6.2.1]
          exact Int.lt_trans (Int.emod_lt_of_pos _ (by decide)) (by decide))
        go_wp2_with fail
        refine (l1Little_any w7 g7 a7 c7 y7 32 o7.rd C7.1 (by omega) (by omega)).mono ?_
        rintro e w8 ⟨rfl, B8, n8⟩
        rw [V.out] at B8
        have N8 := nxt N7 n8
        have z := N7.size
        have lo : (omul xs ys zs).length = 32 := by rw [K.out, fill_len]
        have LO := hide lo
        clear lo C5 C6 C7 N6 N7 n7 n8
        go_wp2
        go_ret
        exact ⟨⟨_, 32, w7.heap.size, by rw [LO.out]; rfl, B8.own0, by simp, by rw [LO.out]; omega, z⟩, N8⟩
      · have K : Hid (omul xs ys zs = []) := by show _ = _; rw [omul, if_neg (fun h => h3 h.2.2)]
        have t3 : ((zs.length : Int) == 32) = false := by simp; omega
        rw [h1, h2]
        clear h1 h2 h3
        go_enter Tryd.func21, Tryd.ntmps21
        go_wp2
        go_ret
        rw [K.out]
        exact ⟨newRow_lit _ _, hal⟩
    · have K : Hid (omul xs ys zs = []) := by show _ = _; rw [omul, if_neg (fun h => h2 h.2.1)]
      have t2 : ((ys.length : Int) == 32) = false := by simp; omega
      rw [h1]
      clear h1 h2
      go_enter Tryd.func21, Tryd.ntmps21
      go_wp2
      go_ret
      rw [K.out]
      exact ⟨newRow_lit _ _, hal⟩
  · have K : Hid (omul xs ys zs = []) := by show _ = _; rw [omul, if_neg (fun h => h1 h.1)]
    have t1 : ((xs.length : Int) == 32) = false := by simp; omega
    have t1' : ((xs.length : Int) != 32) = true := by simp; omega
    clear h1
    go_enter Tryd.func21, Tryd.ntmps21
    go_wp2
    go_ret
    rw [K.out]
    exact ⟨newRow_lit _ _, hal⟩
end Go.Proofs.YtbhmhkimddjhaaaDoor
