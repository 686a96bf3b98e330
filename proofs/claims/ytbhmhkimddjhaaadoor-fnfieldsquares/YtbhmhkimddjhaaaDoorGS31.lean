import Derived.Test.YtbhmhkimddjhaaaDoorGS28
import Derived.Test.YtbhmhkimddjhaaaDoorGS30
import Derived.Test.YtbhmhkimddjhaaaDoorGS19
/-
  The program's FieldRoot.
-/
namespace Go.Proofs.YtbhmhkimddjhaaaDoor
set_option maxRecDepth 100000
open Go.RowKit

/-- Has the element of these bytes a root? The bytes of the even one. -/
def frB (xs : List Int) : Bool := decide (xs.length = 32) && decide (r1I (num xs % PP) * r1I (num xs % PP) % PP = num xs % PP)
def frL (xs : List Int) : List Int := if frB xs = true then fill (byt (fin2 (r1I (num xs % PP)))) 32 else []
theorem frL_len (xs : List Int) : (frL xs).length ≤ 32 := by
  unfold frL
  split
  · rw [fill_len]; omega
  · simp

set_option maxHeartbeats 4000000 in
theorem implFieldRoot_any (w : World) (g : Nat) (a : Option Addr) (c : Nat) (xs : List Int) (hr : Rd w g a .u8 xs) (hb : Byt xs) (hR : HasR w) :
    Calls Tryd.prog 33 #[.slice a xs.length c] w fun e w' => NewRes w.heap.size w' e (frB xs) (frL xs) ∧ Below w.heap.size w w' := by
  have hal : Below w.heap.size w (w.alloc (.cells #[.bool false, .slice none 0 0] 41)) := (Below.refl _ _).alloc (Nat.le_refl _) _
  have T0 := Two.new w (.bool false) (.slice none 0 0) 41
  have s0 : (w.alloc (.cells #[.bool false, .slice none 0 0] 41)).heap.size = w.heap.size + 1 := by simp
  have TS := fun W => isFieldSize_any W a c xs.length
  by_cases hl : xs.length = 32
  · have E1 := elt_ok hb hl
    have EE : Elm (elt xs) := Elm.of E1.1 E1.2
    have R1 := fun W n => readElement_any W g a c xs (hr.up n) hb hl
    have RT := fun W (h : Below w.heap.size w W) => root_any W (elt xs) EE (hR.up h)
    rw [E1.2] at RT
    have EA : (stl (rl (wv (fun j => xs.getD j 0) 32))) = elt xs := rfl
    rw [EA] at R1
    simp only [decide_eq_true hl] at TS
    have HL := hide hl
    rw [hl] at TS ⊢
    clear hl hb hr E1 EE EA
    generalize elt xs = e at *
    simp only [ag5] at R1 RT
    go_enter Tryd.func33, Tryd.ntmps33
    go_wp2_with fail
    generalize w.alloc (.cells #[.bool false, .slice none 0 0] 41) = wa at *
    refine (TS wa).mono ?_
    rintro r w0 ⟨rfl, rfl⟩
    go_wp2_with fail
    refine (R1 w0 hal).mono ?_
    rintro r w1 ⟨rfl, n1⟩
    have N1 := nxt hal n1
    go_wp2_with fail
    refine (RT w1 N1).mono ?_
    rintro r w2 ⟨RO, n2⟩
    have N2 := nxt N1 n2
    have T2 := (T0.up n1).up n2
    clear RT R1 TS T0 n1 N1
    rcases RO with ⟨gg, t, rfl, L, V⟩ | ⟨gg, rfl⟩
    · have KB : Hid (frB xs = true) := by show _ = _; unfold frB; rw [decide_eq_true HL.out, decide_eq_true gg]; rfl
      have KL : Hid (frL xs = fill (byt (sv t 5)) 32) := by show _ = _; rw [V, frL, if_pos KB.out]
      have BY := fun W => bytes_any W t L
      rw [← KL.out] at BY
      have n3 : Below w2.heap.size w2 (w2.alloc (.cells #[.int .u64 (t 0), .int .u64 (t 1), .int .u64 (t 2), .int .u64 (t 3), .int .u64 (t 4)] 76)) := (Below.refl _ _).alloc (Nat.le_refl _) _
      clear gg V
      simp only [ag5] at BY ⊢
      go_wp2_with fail
      generalize w2.alloc (.cells #[.int .u64 (t 0), .int .u64 (t 1), .int .u64 (t 2), .int .u64 (t 3), .int .u64 (t 4)] 76) = w3 at *
      refine (BY w3).mono ?_
      rintro r w4 ⟨⟨a4, c4, g4, rfl, o4, p4, q4, r4⟩, n4⟩
      have N4 := nxt (nxt N2 n3) n4
      obtain ⟨c0, c1, f0, f1⟩ := (T2.up n3).up n4
      have z4 := (nxt N2 n3).size
      have z2 := T2.lt
      have z3 := n3.size
      have O := (Only.setCell w4 w.heap.size 0 (.bool true)).trans (Only.setCell _ w.heap.size 1 (.slice a4 (frL xs).length c4))
      have o5 := o4.only O (fun _ => by omega)
      have N5 := N4.trans (O.below (Nat.le_refl _))
      clear BY n3 n4 T2 N2 O o4 N4
      have HK := hide KL
      clear KL
      go_wp2
      refine bodyPost_ret (v := .agg #[.bool true, .slice a4 (frL xs).length c4]) (by simp [results, Tryd.results33, go_sem, c0, c1]) rfl ⟨?_, N5⟩
      rw [KB.out]
      exact ⟨a4, c4, g4, rfl, o5, p4, q4, by omega⟩
    · have KB : Hid (frB xs = false) := by show _ = _; unfold frB; rw [decide_eq_true HL.out, decide_eq_false gg]; rfl
      have KL : Hid (frL xs = []) := by show _ = _; rw [frL, if_neg (by rw [KB.out]; simp)]
      have n3 : Below w2.heap.size w2 (w2.alloc (.cells #[.int .u64 0, .int .u64 0, .int .u64 0, .int .u64 0, .int .u64 0] 76)) := (Below.refl _ _).alloc (Nat.le_refl _) _
      have N3 := nxt N2 n3
      obtain ⟨c0, c1, f0, f1⟩ := T2.up n3
      clear gg
      simp only [ag5, z5e]
      go_wp2
      refine bodyPost_ret (v := .agg #[.bool false, .slice none 0 0]) (by simp [results, Tryd.results33, go_sem, c0, c1]) rfl ⟨?_, ?_⟩
      · rw [KB.out, KL.out]
        exact NewRes.none (by simp [World.setCell]; have := N3.size; simp at this; omega)
      · exact (N3.setCell (Nat.le_refl _) _).setCell (Nat.le_refl _) _
  · have KB : Hid (frB xs = false) := by show _ = _; unfold frB; rw [decide_eq_false hl]; rfl
    have KL : Hid (frL xs = []) := by show _ = _; rw [frL, if_neg (by rw [KB.out]; simp)]
    simp only [decide_eq_false hl] at TS
    obtain ⟨c0, c1, f0, f1⟩ := T0
    clear hl
    go_enter Tryd.func33, Tryd.ntmps33
    go_wp2_with fail
    generalize w.alloc (.cells #[.bool false, .slice none 0 0] 41) = wa at *
    refine (TS wa).mono ?_
    rintro r w0 ⟨rfl, rfl⟩
    go_wp2
    refine bodyPost_ret (v := .agg #[.bool false, .slice none 0 0]) (by simp [results, Tryd.results33, go_sem, c0, c1]) rfl ⟨?_, ?_⟩
    · rw [KB.out, KL.out]
      exact NewRes.none (by simp [World.setCell]; omega)
    · exact (hal.setCell (Nat.le_refl _) _).setCell (Nat.le_refl _) _
end Go.Proofs.YtbhmhkimddjhaaaDoor
