
/-
  A text turned into bytes; a short list: its length is one byte; the model's.
-/
import Derived.Test.YtjdbnlbmhnpifaaShA
import Derived.Test.YtjdbnlbmhnpifaaNbS
import Derived.Lib.ConvBytes
namespace Go.Proofs.Ytjdbnlbmhnpifaa
open Go Go.RowKit

theorem convT (w : World) (l : List UInt8) : ∃ (c : Nat) (w' : World), (convert 9 22 (.string ⟨⟨l⟩⟩)).run Try.prog w = .ok (.slice (some ⟨w.heap.size, 0, none⟩) l.length c) w' ∧ Rd w' w.heap.size (some ⟨w.heap.size, 0, none⟩) .u8 (txL l) ∧ l.length ≤ c ∧ Below w.heap.size w w' := by
  refine ⟨_, _, Lib.run_convert_string_bytes w 9 22 5 ⟨⟨l⟩⟩ Try.underlying9 Try.underlying22 Try.underlying5, fun _ => ⟨0, rfl, fun i hi => ?_⟩, grownCap_ge w _ 0 5, ⟨rfl, rfl, rfl, by rw [Lib.bytesWorld_size]; omega, fun b hb => Lib.bytesWorld_at_old w 5 _ b hb⟩⟩
  rw [txL_len] at hi
  rw [Nat.zero_add, Lib.bytesWorld_cell w 5 ⟨⟨l⟩⟩ i hi]
  unfold txL
  rw [List.getD_eq_getElem?_getD, List.getD_eq_getElem?_getD, List.getElem?_map]
  have h : l[i]? = some l[i] := List.getElem?_eq_getElem hi
  rw [h]
  simp
theorem wpList_convT {P : Program} (w : World) {ops : Array Oper} {rest : List Oper} {o : Oper} {a : Act} {Q : Exit → Act → World → Prop} (hgd : o.guard = none) (src dst : TypeId) (x : Operand) (ho : o.op = .convert src dst x) (v : Value) (hx : a.eval x = v)
    (v' : Value) (w' : World) (hr : (convert src dst v).run P w = .ok v' w') (h : wpList P ops Q rest (a.put o.dst v') w') : wpList P ops Q (o :: rest) a w :=
  wpList_plain hgd fun _ hK => by
    unfold Oper.wp execOp
    simp only [ho, hx]
    rw [Sem.run_bind, hr]
    exact hK _ _ h
theorem shL_is (l : List UInt8) (h : l.length ≤ 255) : shL l = ((l.length : Int) :: txL l) := by
  unfold shL bigL
  simp [List.range_succ]
  omega
set_option maxHeartbeats 1000000 in
/-- A short list: its length is one byte. -/
theorem l13ShortR_any (w : World) (g : Nat) (a : Option Addr) (c : Nat) (xs : List Int) (h : Rd w g a .u8 xs) (hz : a = none → c = 0) (hl : xs.length ≤ 255) :
    Calls Try.prog 31 #[.slice a xs.length c] w fun e w' => ∃ v, e = .returned v ∧ RowB w' w.heap.size v ((xs.length : Int) :: xs) ∧ Below w.heap.size w w' := by
  obtain ⟨i0, hi, hz0, hz1, hz2⟩ := info_parts Try.info5
  have n0 : Below w.heap.size w (w.alloc (.cells #[.int .u8 (xs.length : Int)] 5)) := (Below.refl _ _).alloc (Nat.le_refl _) _
  obtain ⟨v1, w1, hap, R1, n1⟩ := append_any (P := Try.prog) (w.alloc (.cells #[.int .u8 (xs.length : Int)] 5)) 22 i0 Try.underlying22 hi hz0 hz1 hz2 w.heap.size w.heap.size _ _ (RowB.lit1 w (xs.length : Int)) g a c xs (h.up n0) hz (by simp; omega) (Nat.le_refl _) n0.size
  have N1 := n0.trans n1
  rw [List.cons_append, List.nil_append] at R1
  clear n0 n1 h
  go_enter Try.func31, Try.ntmps31
  go_wp2_with (at_builtin; refine Lib.wpList_append_run _ rfl _ _ 22 22 rfl _ _ rfl rfl _ _ hap ?_)
  go_ret
  exact ⟨_, rfl, R1, N1⟩
end Go.Proofs.Ytjdbnlbmhnpifaa
