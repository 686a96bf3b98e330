
/-
  Iterators over lines: what is made.
-/
import Derived.Test.YtpbniihhpfbamaaDoorFqW
import Derived.Test.YtpbniihhpfbamaaDoorFqB
namespace Go.Proofs.YtpbniihhpfbamaaDoor
set_option maxRecDepth 100000
open Go Go.RowKit

/-- An iterator over the texts ls, as a value. -/
def SqV (ls : List (List UInt8)) (v : Value) (w : World) : Prop := ∃ gf lb n0, v = .func (.func gf) #[] lb ∧ n0 ≤ w.heap.size ∧ enters Tryd.prog gf = true ∧ SeqS Tryd.prog gf lb n0 ls w
theorem SqV.up {ls : List (List UInt8)} {v : Value} {w w' : World} (h : SqV ls v w) (n : Below w.heap.size w w') : SqV ls v w' := by
  obtain ⟨gf, lb, n0, e, h0, en, s⟩ := h
  exact ⟨gf, lb, n0, e, Nat.le_trans h0 n.size, en, s.up (n.mono h0)⟩
/-- The same, whatever becomes of rows of iterators at B or above. -/
def SqX (B : Nat) (ls : List (List UInt8)) (v : Value) (w : World) : Prop := ∃ gf lb n0, v = .func (.func gf) #[] lb ∧ n0 ≤ w.heap.size ∧ enters Tryd.prog gf = true ∧ SeqX Tryd.prog gf lb B n0 ls w
theorem SqX.bel {B : Nat} {ls : List (List UInt8)} {v : Value} {w w' : World} (h : SqX B ls v w) (n : Bel B w.heap.size w w') : SqX B ls v w' := by
  obtain ⟨gf, lb, n0, e, h0, en, s⟩ := h
  exact ⟨gf, lb, n0, e, Nat.le_trans h0 n.size, en, s.up (n.mono h0)⟩
theorem SqX.up {B : Nat} {ls : List (List UInt8)} {v : Value} {w w' : World} (h : SqX B ls v w) (n : Below w.heap.size w w') : SqX B ls v w' := h.bel (Below.bel n)
theorem SqX.toV {B : Nat} {ls : List (List UInt8)} {v : Value} {w : World} (h : SqX B ls v w) : SqV ls v w := by
  obtain ⟨gf, lb, n0, e, h0, en, s⟩ := h
  exact ⟨gf, lb, n0, e, h0, en, s.toS⟩
theorem values_any (w : World) (g : Nat) (a : Option Addr) (c B : Nat) (ls : List (List UInt8)) (hr : RdT w g a ls) (hg : 0 < ls.length → g < w.heap.size) (hgt : 0 < ls.length → ∀ cs fz, w.heap[g]? ≠ some (.cells cs 63 fz)) (hN : ls.length ≤ 1000000000) :
    Calls Tryd.prog 39 #[.slice a ls.length c] w fun e w' => (∃ v, e = .returned v ∧ SqX B ls v w') ∧ Below w.heap.size w w' := by
  have n1 : Below w.heap.size w (w.alloc (.cells #[.slice a ls.length c] 48)) := (Below.refl _ _).alloc (Nat.le_refl _) _
  have cb := RwC.new w [.slice a ls.length c] 48
  have z1 : (w.alloc (.cells #[.slice a ls.length c] 48)).heap.size = w.heap.size + 1 := World.size_alloc _ _
  have S := hide (values_seq _ w.heap.size g a c B (w.heap.size + 1) ls cb (Nat.lt_succ_self _) (hr.up n1) (fun h => Nat.lt_succ_of_lt (hg h)) (fun h cs fz => by rw [n1.block g (hg h)]; exact hgt h cs fz) hN (Nat.le_of_eq z1.symm))
  have N1 := hide n1
  have Z1 := hide z1
  clear n1 z1 cb hr hg hgt
  go_enter Tryd.func39, Tryd.ntmps39
  go_wp2
  go_ret
  exact ⟨⟨_, rfl, _, _, _, rfl, Nat.le_of_eq Z1.out.symm, by kernel_rfl, S.out⟩, N1.out⟩
theorem blkT_ne {w : World} {q : Nat} {ls : List (List UInt8)} (h : BlkT w q ls) : ∀ cs fz, w.heap[q]? ≠ some (.cells cs 63 fz) := fun cs fz e => by
  rw [show w.heap[q]? = _ from h] at e
  simp at e
theorem single_any (w : World) (B : Nat) (l : List UInt8) :
    Calls Tryd.prog 22 #[tx l] w fun e w' => (∃ v, e = .returned v ∧ SqX B [l] v w') ∧ Below w.heap.size w w' := by
  have n1 : Below w.heap.size w (w.alloc (.cells #[tx l] 9)) := (Below.refl _ _).alloc (Nat.le_refl _) _
  have B1 : BlkT (w.alloc (.cells #[tx l] 9)) w.heap.size [l] := heap_alloc_new w _
  have V : Hid (Calls Tryd.prog 39 #[.slice (some ⟨w.heap.size, 0, none⟩) 1 1] (w.alloc (.cells #[tx l] 9)) _) := values_any _ w.heap.size (some ⟨w.heap.size, 0, none⟩) 1 B [l] B1.rd (fun _ => B1.lt) (fun _ => blkT_ne B1) (by simp)
  have B0 := bsT1 w l
  have N1 := hide n1
  clear n1 B1
  go_enter Tryd.func22, Tryd.ntmps22
  unfold tx at *
  go_wp2_with fail
  refine V.out.mono ?_
  rintro e w2 ⟨⟨v, rfl, S⟩, n2⟩
  have S := hide S
  have NN := hide (nxt N1.out n2)
  clear n2 V
  go_wp2
  go_ret
  exact ⟨⟨_, rfl, S.out⟩, NN.out⟩
/-- An iterator, made in the region. -/
def FSq (B : Nat) (ls : List (List UInt8)) : Fact := ⟨SqX B ls, fun n h => h.up n⟩
end Go.Proofs.YtpbniihhpfbamaaDoor
