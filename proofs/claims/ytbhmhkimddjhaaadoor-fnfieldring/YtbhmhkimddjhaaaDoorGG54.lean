import Derived.Test.YtbhmhkimddjhaaaDoorGG17
import Derived.Test.YtbhmhkimddjhaaaDoorGG46
import Derived.Test.YtbhmhkimddjhaaaDoorGG8
/-
  FieldAdd, the program's and the model's.
-/
namespace Go.Proofs.YtbhmhkimddjhaaaDoor
set_option maxRecDepth 100000
open Go.RowKit

/-- What both answer. -/
def fadd (xs ys : List Int) : List Int := if xs.length = 32 ∧ ys.length = 32 then fill (byt ((num xs + num ys) % PP)) 32 else []
theorem fadd_len (xs ys : List Int) : (fadd xs ys).length ≤ 32 := by
  unfold fadd
  split
  · rw [fill_len]; omega
  · simp

set_option maxHeartbeats 2000000 in
theorem implFieldAdd_any (w : World) (g g' : Nat) (a b : Option Addr) (ca cb : Nat) (xs ys : List Int) (ha : Rd w g a .u8 xs) (hb : Rd w g' b .u8 ys) (hx : Byt xs) (hy : Byt ys) :
    Calls Tryd.prog 42 #[.slice a xs.length ca, .slice b ys.length cb] w fun e w' => NewRow w.heap.size w' e .u8 (fadd xs ys) ∧ Below w.heap.size w w' := by
  have T1 := isFieldSize_any w a ca xs.length
  by_cases h1 : xs.length = 32
  · have T2 := fun w' => isFieldSize_any w' b cb ys.length
    rw [decide_eq_true h1] at T1
    by_cases h2 : ys.length = 32
    · simp only [decide_eq_true h2] at T2
      have E1 := elt_ok hx h1
      have E2 := elt_ok hy h2
      have R1 := fun w' n => readElement_any w' g a ca xs (ha.up n) hx h1
      have R2 := fun w' n => readElement_any w' g' b cb ys (hb.up n) hy h2
      have K : Hid (fadd xs ys = fill (byt ((num xs + num ys) % PP)) 32) := by show _ = _; simp [fadd, h1, h2]
      rw [h1] at T1 ⊢
      simp only [h2] at T2 ⊢
      clear h1 h2 ha hb
      go_enter Tryd.func42, Tryd.ntmps42
      go_wp2_with fail
      refine T1.mono ?_
      rintro e w0 ⟨rfl, rfl⟩
      go_wp2_with fail
      refine (T2 w0).mono ?_
      rintro e w0' ⟨rfl, rfl⟩
      clear T1 T2
      go_wp2_with fail
      refine (R1 w0' (Below.refl _ _)).mono ?_
      rintro e w1 ⟨rfl, n1⟩
      go_wp2_with fail
      refine (R2 w1 n1).mono ?_
      rintro e w2 ⟨rfl, n2⟩
      have N2 := nxt n1 n2
      clear R1 R2
      go_wp2_with fail
      refine (addE_any w2 (elt xs) (elt ys) E1.1 E2.1).mono ?_
      rintro e w3 ⟨t, rfl, L, V, n3⟩
      have N3 := nxt N2 n3
      go_wp2_with fail
      refine (bytes_any w3 t L).mono ?_
      rintro e w4 ⟨⟨a4, c4, g4, rfl, o4, p4, q4, r4⟩, n4⟩
      have N4 := nxt N3 n4
      have z := N3.size
      have K' : Hid (fadd xs ys = fill (byt (sv t 5)) 32) := by show _ = _; rw [K.out, V, E1.2, E2.2, ← Int.add_emod]
      clear E1 E2 V
      go_wp2
      go_ret
      refine ⟨?_, N4⟩
      rw [K'.out]
      exact ⟨a4, c4, g4, rfl, o4, p4, q4, by omega⟩
    · simp only [decide_eq_false h2] at T2
      have K : Hid (fadd xs ys = []) := by show _ = _; simp [fadd, h2]
      clear h1 h2 ha hb
      go_enter Tryd.func42, Tryd.ntmps42
      go_wp2_with fail
      refine T1.mono ?_
      rintro e w0 ⟨rfl, rfl⟩
      go_wp2_with fail
      refine (T2 w0).mono ?_
      rintro e w0' ⟨rfl, rfl⟩
      go_wp2
      go_ret
      rw [K.out]
      exact ⟨newRow_nil _ _, Below.refl _ _⟩
  · rw [decide_eq_false h1] at T1
    have K : Hid (fadd xs ys = []) := by show _ = _; simp [fadd, h1]
    clear h1 ha hb
    go_enter Tryd.func42, Tryd.ntmps42
    go_wp2_with fail
    refine T1.mono ?_
    rintro e w0 ⟨rfl, rfl⟩
    go_wp2
    go_ret
    rw [K.out]
    exact ⟨newRow_nil _ _, Below.refl _ _⟩

set_option maxHeartbeats 2000000 in
theorem specFieldAdd_any (w : World) (g g' : Nat) (a b : Option Addr) (ca cb : Nat) (xs ys : List Int) (ha : Rd w g a .u8 xs) (hb : Rd w g' b .u8 ys) (hx : Byt xs) (hy : Byt ys) :
    Calls Tryd.prog 46 #[.slice a xs.length ca, .slice b ys.length cb] w fun e w' => NewRow w.heap.size w' e .u8 (fadd xs ys) ∧ Below w.heap.size w w' := by
  have T := l2Two_any w a b ca cb xs.length ys.length
  by_cases h : xs.length = 32 ∧ ys.length = 32
  · have R1 := fun w' n => l2Num_any w' g a ca xs (ha.up n) hx (by omega)
    have R2 := fun w' n => l2Num_any w' g' b cb ys (hb.up n) hy (by omega)
    have K : Hid (fadd xs ys = fill (byt ((num xs + num ys) % PP)) 32) := by show _ = _; simp [fadd, h]
    rw [decide_eq_true h] at T
    have H1 := hide h.1
    have H2 := hide h.2
    clear h ha hb
    go_enter Tryd.func46, Tryd.ntmps46
    go_wp2_with fail
    refine T.mono ?_
    rintro e w0 ⟨rfl, rfl⟩
    clear T
    go_wp2_with fail
    refine (R1 w0 (Below.refl _ _)).mono ?_
    rintro e w1 ⟨y1, C1, l1, ⟨a1, c1, g1, rfl, o1, p1, q1, r1⟩, n1⟩
    go_wp2_with fail
    refine (R2 w1 n1).mono ?_
    rintro e w2 ⟨y2, C2, l2, ⟨a2, c2, g2, rfl, o2, p2, q2, r2⟩, n2⟩
    have N2 := nxt n1 n2
    have L1 : y1.length ≤ 32 := by have := H1.out; omega
    have L2 : y2.length ≤ 32 := by have := H2.out; omega
    clear R1 R2
    go_wp2_with fail
    refine (l1Add_any w2 g1 g2 a1 a2 c1 c2 y1 y2 (o1.up n2).rd o2.rd C1.1 C2.1 (by omega) (by omega)).mono ?_
    rintro e w3 ⟨y3, C3, ⟨a3, c3, g3, rfl, o3, p3, q3, r3⟩, n3⟩
    have N3 := nxt N2 n3
    have L3 : y3.length ≤ 4096 := by
      have := C3.len (n := 64) (add_lt64 (bval_lt32 C1.1 L1) (bval_lt32 C2.1 L2))
      omega
    have K' : Hid (fadd xs ys = fill (byt (bval y3 % PP)) 32) := by show _ = _; rw [K.out, C3.2.1, C1.2.1, C2.2.1]
    go_wp2_with fail
    refine (l2Tell_any w3 g3 a3 c3 y3 o3.rd C3.1 L3).mono ?_
    rintro e w4 ⟨⟨a4, c4, g4, rfl, o4, p4, q4, r4⟩, n4⟩
    have N4 := nxt N3 n4
    have z := N3.size
    clear C1 C2 C3
    go_wp2
    go_ret
    refine ⟨?_, N4⟩
    rw [K'.out]
    exact ⟨a4, c4, g4, rfl, o4, p4, q4, by omega⟩
  · have K : Hid (fadd xs ys = []) := by show _ = _; simp [fadd, h]
    have hal : Below w.heap.size w (w.alloc (.cells #[] 5)) := (Below.refl _ _).alloc (Nat.le_refl _) _
    rw [decide_eq_false h] at T
    clear h ha hb
    go_enter Tryd.func46, Tryd.ntmps46
    go_wp2_with fail
    refine T.mono ?_
    rintro e w0 ⟨rfl, rfl⟩
    go_wp2
    go_ret
    rw [K.out]
    exact ⟨newRow_lit _ _, hal⟩
end Go.Proofs.YtbhmhkimddjhaaaDoor
