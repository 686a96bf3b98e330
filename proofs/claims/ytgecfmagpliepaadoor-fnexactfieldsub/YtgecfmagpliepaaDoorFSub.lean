/-
  FieldSub, the program's and the model's.
-/
import Derived.Test.YtgecfmagpliepaaDoorSub
import Derived.Test.YtgecfmagpliepaaDoorFOps
import Derived.Test.YtgecfmagpliepaaDoorS2
namespace Go.Proofs.YtgecfmagpliepaaDoor
set_option maxRecDepth 100000
open Go.RowKit

/-- What both answer. -/
def fsub (xs ys : List Int) : List Int := if xs.length = 32 ∧ ys.length = 32 then fill (byt ((num xs - num ys) % PP)) 32 else []
theorem fsub_len (xs ys : List Int) : (fsub xs ys).length ≤ 32 := by
  unfold fsub
  split
  · rw [fill_len]; omega
  · simp

set_option maxHeartbeats 2000000 in
theorem implFieldSub_any (w : World) (g g' : Nat) (a b : Option Addr) (ca cb : Nat) (xs ys : List Int) (ha : Rd w g a .u8 xs) (hb : Rd w g' b .u8 ys) (hx : Byt xs) (hy : Byt ys) (hT : HasTw w 0) :
    Calls Tryd.prog 11 #[.slice a xs.length ca, .slice b ys.length cb] w fun e w' => NewRow w.heap.size w' e .u8 (fsub xs ys) ∧ Below w.heap.size w w' := by
  have T1 := isFieldSize_any w a ca xs.length
  by_cases h1 : xs.length = 32
  · have T2 := fun w' => isFieldSize_any w' b cb ys.length
    rw [decide_eq_true h1] at T1
    by_cases h2 : ys.length = 32
    · simp only [decide_eq_true h2] at T2
      have E1 := elt_ok hx h1
      have E2 := elt_ok hy h2
      have R1 := fun w' n => readElement_any w' g a ca xs (ha.up n) hx h1
      have R2 := fun w' n => readElement_any w' g' b cb ys (hb.up n) hy h2
      have K : Hid (fsub xs ys = fill (byt ((num xs - num ys) % PP)) 32) := by show _ = _; simp [fsub, h1, h2]
      rw [h1] at T1 ⊢
      simp only [h2] at T2 ⊢
      clear h1 h2 ha hb
      go_enter Tryd.func11, Tryd.ntmps11
      go_wp2_with fail
      refine T1.mono ?_
      rintro e w0 ⟨rfl, rfl⟩
      go_wp2_with fail
      refine (T2 w0).mono ?_
      rintro e w0' ⟨rfl, rfl⟩
      clear T1 T2
      go_wp2_with fail
      refine (R1 w0' (Below.refl _ _)).mono ?_
      rintro e w1 ⟨rfl, n1⟩
      go_wp2_with fail
      refine (R2 w1 n1).mono ?_
      rintro e w2 ⟨rfl, n2⟩
      have N2 := nxt n1 n2
      clear R1 R2
      go_wp2_with fail
      refine (subE_any w2 (elt xs) (elt ys) E1.1 E2.1 (hT.up N2)).mono ?_
      rintro e w3 ⟨t, rfl, L, V, n3⟩
      have N3 := nxt N2 n3
      go_wp2_with fail
      refine (bytes_any w3 t L).mono ?_
      rintro e w4 ⟨⟨a4, c4, g4, rfl, o4, p4, q4, r4⟩, n4⟩
      have N4 := nxt N3 n4
      have z := N3.size
      have K' : Hid (fsub xs ys = fill (byt (sv t 5)) 32) := by show _ = _; rw [K.out, V, E1.2, E2.2, ← Int.sub_emod]
      clear E1 E2 V
      go_wp2
      go_ret
      refine ⟨?_, N4⟩
      rw [K'.out]
      exact ⟨a4, c4, g4, rfl, o4, p4, q4, by omega⟩
    · simp only [decide_eq_false h2] at T2
      have K : Hid (fsub xs ys = []) := by show _ = _; simp [fsub, h2]
      clear h1 h2 ha hb
      go_enter Tryd.func11, Tryd.ntmps11
      go_wp2_with fail
      refine T1.mono ?_
      rintro e w0 ⟨rfl, rfl⟩
      go_wp2_with fail
      refine (T2 w0).mono ?_
      rintro e w0' ⟨rfl, rfl⟩
      go_wp2
      go_ret
      rw [K.out]
      exact ⟨newRow_nil _ _, Below.refl _ _⟩
  · rw [decide_eq_false h1] at T1
    have K : Hid (fsub xs ys = []) := by show _ = _; simp [fsub, h1]
    clear h1 ha hb
    go_enter Tryd.func11, Tryd.ntmps11
    go_wp2_with fail
    refine T1.mono ?_
    rintro e w0 ⟨rfl, rfl⟩
    go_wp2
    go_ret
    rw [K.out]
    exact ⟨newRow_nil _ _, Below.refl _ _⟩

set_option maxHeartbeats 2000000 in
theorem specFieldSub_any (w : World) (g g' : Nat) (a b : Option Addr) (ca cb : Nat) (xs ys : List Int) (ha : Rd w g a .u8 xs) (hb : Rd w g' b .u8 ys) (hx : Byt xs) (hy : Byt ys) :
    Calls Tryd.prog 9 #[.slice a xs.length ca, .slice b ys.length cb] w fun e w' => NewRow w.heap.size w' e .u8 (fsub xs ys) ∧ Below w.heap.size w w' := by
  have T := l2Two_any w a b ca cb xs.length ys.length
  by_cases h : xs.length = 32 ∧ ys.length = 32
  · have R1 := fun w' n => l2Num_any w' g a ca xs (ha.up n) hx (by omega)
    have R2 := fun w' n => l2Num_any w' g' b cb ys (hb.up n) hy (by omega)
    have K : Hid (fsub xs ys = fill (byt ((num xs - num ys) % PP)) 32) := by show _ = _; simp [fsub, h]
    rw [decide_eq_true h] at T
    have H1 := hide h.1
    have H2 := hide h.2
    clear h ha hb
    go_enter Tryd.func9, Tryd.ntmps9
    go_wp2_with fail
    refine T.mono ?_
    rintro e w0 ⟨rfl, rfl⟩
    clear T
    go_wp2_with fail
    refine (R2 w0 (Below.refl _ _)).mono ?_
    rintro e w1 ⟨y1, C1, l1, ⟨a1, c1, g1, rfl, o1, p1, q1, r1⟩, n1⟩
    have L1 : y1.length ≤ 32 := by have := H2.out; omega
    go_wp2_with fail
    refine (l2Prime_any w1).mono ?_
    rintro e w2 ⟨rfl, B2, n2⟩
    have N2 := nxt n1 n2
    go_wp2_with fail
    refine (l1Mod_any w2 g1 _ a1 _ c1 32 y1 pbytes (o1.up n2).rd B2.own0.rd C1.1 pbytes_byt (by simp) (by decide) (by omega) (by decide) (by rw [pbytes_val]; decide)).mono ?_
    rintro e w3 ⟨⟨m, a3, c3, g3, rfl, o3, p3, q3, r3, C3⟩, n3⟩
    have N3 := nxt N2 n3
    clear B2 o1 p1 q1 r1 n1 n2 n3 N2
    go_wp2_with fail
    refine (R1 w3 N3).mono ?_
    rintro e w4 ⟨y4, C4, l4, ⟨a4, c4, g4, rfl, o4, p4, q4, r4⟩, n4⟩
    have N4 := nxt N3 n4
    have o3a := o3.up n4
    have L4 : y4.length ≤ 32 := by have := H1.out; omega
    clear R1 R2
    go_wp2_with fail
    refine (l2Prime_any w4).mono ?_
    rintro e w5 ⟨rfl, B5, n5⟩
    have N5 := nxt N4 n5
    have o3b := o3a.up n5
    go_wp2_with fail
    refine (l1Add_any w5 g4 _ a4 _ c4 32 y4 pbytes (o4.up n5).rd B5.own0.rd C4.1 pbytes_byt (by omega) (by decide)).mono ?_
    rintro e w6 ⟨y6, C6, ⟨a6, c6, g6, rfl, o6, p6, q6, r6⟩, n6⟩
    have N6 := nxt N5 n6
    have o3c := o3b.up n6
    have E4 := hide C4.2.1
    have E1 := hide C1.2.1
    have v4 := bval_nonneg C4.1
    have v4' := bval_lt32 C4.1 L4
    have m0 : bval y1 % bval pbytes < PP := by rw [pbytes_val]; exact Int.emod_lt_of_pos _ (by decide)
    have e6 : bval y6 = bval y4 + PP := by rw [C6.2.1, pbytes_val]
    have hle : bval m ≤ bval y6 := by rw [C3.2.1, e6]; omega
    have L6 : y6.length ≤ 64 := C6.len (n := 64) (by
      have : (256 : Int) ^ 64 = 13407807929942597099574024998205846127479365820592393377723561443721764030073546976801874298166903427690031858186486050853753882811946569946433649006084096 := by decide
      rw [pbytes_val]
      show bval y4 + 57896044618658097711785492504343953926634992332820282019728792003956564819949 < _
      omega)
    have Lm6 : m.length ≤ y6.length := C3.len (by rw [← C3.2.1]; exact Int.lt_of_le_of_lt hle (bval_lt C6.1))
    clear C4 B5 o4 p4 q4 r4 n4 n5 N4 N5 o3 o3a o3b
    go_wp2_with fail
    refine (l1Sub_any w6 g6 g3 a6 a3 c6 c3 y6 m o6.rd o3c.rd C6.1 C3.1 (by omega) Lm6 hle).mono ?_
    rintro e w7 ⟨y7, C7, ⟨a7, c7, g7, rfl, o7, p7, q7, r7⟩, n7⟩
    have N7 := nxt N6 n7
    have L7 : y7.length ≤ 4096 := by
      have := C7.len (n := 64) (Int.lt_of_le_of_lt (show bval y6 - bval m ≤ bval y6 by have := bval_nonneg C3.1; omega) (Int.lt_of_lt_of_le (bval_lt C6.1) (p256_le L6)))
      omega
    have K' : Hid (fsub xs ys = fill (byt (bval y7 % PP)) 32) := by
      show _ = _
      rw [K.out, C7.2.1, e6, C3.2.1, pbytes_val, E4.out, E1.out]
      congr 2
      show (num xs - num ys) % 57896044618658097711785492504343953926634992332820282019728792003956564819949 = (num xs + 57896044618658097711785492504343953926634992332820282019728792003956564819949 - num ys % 57896044618658097711785492504343953926634992332820282019728792003956564819949) % 57896044618658097711785492504343953926634992332820282019728792003956564819949
      generalize num xs = x
      generalize num ys = y
      omega
    clear C3 C6 o3c o6 p6 q6 r6 e6 hle Lm6
    go_wp2_with fail
    refine (l2Tell_any w7 g7 a7 c7 y7 o7.rd C7.1 L7).mono ?_
    rintro e w8 ⟨⟨a8, c8, g8, rfl, o8, p8, q8, r8⟩, n8⟩
    have N8 := nxt N7 n8
    have z := N7.size
    clear C1 C7
    go_wp2
    go_ret
    refine ⟨?_, N8⟩
    rw [K'.out]
    exact ⟨a8, c8, g8, rfl, o8, p8, q8, by omega⟩
  · have K : Hid (fsub xs ys = []) := by show _ = _; simp [fsub, h]
    have hal : Below w.heap.size w (w.alloc (.cells #[] 5)) := (Below.refl _ _).alloc (Nat.le_refl _) _
    rw [decide_eq_false h] at T
    clear h ha hb
    go_enter Tryd.func9, Tryd.ntmps9
    go_wp2_with fail
    refine T.mono ?_
    rintro e w0 ⟨rfl, rfl⟩
    go_wp2
    go_ret
    rw [K.out]
    exact ⟨newRow_lit _ _, hal⟩
end Go.Proofs.YtgecfmagpliepaaDoor
