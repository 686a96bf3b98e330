
/-
  The model's CutRecords (written by gens/crs.py).
-/
import Derived.Test.YtjfggcefdobooaaDoorCrQ
import Derived.Test.YtjfggcefdobooaaDoorNbS
import Derived.Test.YtjfggcefdobooaaDoorCrU
namespace Go.Proofs.YtjfggcefdobooaaDoor
set_option maxRecDepth 100000
open Go Go.RowKit

/-- Where the model's loop stands. -/
structure SSt (w wr : World) (xs : List Int) (k : Nat) (its : List (Int × List Int)) (bs : List Plc) (v : Value) : Prop where
  A : Ahc xs its k
  R : IRow wr (w.heap.size + 2) v its bs
  T : RwC wr (w.heap.size + 1) [.int .i64 0, v, .slice none 0 0] 31
  U : RwC wr w.heap.size [.int .i64 0, .slice none 0 0, .slice none 0 0] 31
  N : Below w.heap.size w wr
theorem SSt.up {w wr w' : World} {xs : List Int} {k : Nat} {its : List (Int × List Int)} {bs : List Plc} {v : Value} (h : SSt w wr xs k its bs v) (n : Below wr.heap.size wr w') : SSt w w' xs k its bs v :=
  ⟨h.A, h.R.of (fun i hi _ => n.block i hi), h.T.up n, h.U.up n, nxt h.N n⟩
theorem SSt.app {w wr w9 : World} {xs : List Int} {k : Nat} {its : List (Int × List Int)} {bs : List Plc} {v : Value} {ad : Option Addr} {cd p0 : Nat} (h : SSt w wr xs k its bs v) (hb : Byt xs) (hn : xs.length ≤ 1048576) (ht : rcT (xs.drop k) = 0) (b9 : Below wr.heap.size wr w9) (hp : RwC w9 p0 [.int .i64 (rcK (xs.drop k)), .slice ad (rcB (xs.drop k)).length cd] 25) (hR : RowB w9 wr.heap.size (.slice ad (rcB (xs.drop k)).length cd) (rcB (xs.drop k))) :
    ∃ v' w4, (Builtin.append_ #[23, 23] 23 #[v, .slice (some ⟨p0, 0, none⟩) 1 1]).run Tryd.prog w9 = .ok v' w4 ∧ w4.cell? ⟨w.heap.size + 1, 1, none⟩ = some v ∧ w4.frozen? ⟨w.heap.size + 1, 1, none⟩ = false ∧
      ∃ its' bs', SSt w (w4.setCell ⟨w.heap.size + 1, 1, none⟩ v') xs (k + (3 + rcN (xs.drop k))) its' bs' v' := by
  have L := rcT_len (byt_drop hb k) ht
  have Al := h.A.l
  have Ak := h.A.k
  obtain ⟨a, c, gd, ev', O1, O2, O3, O4⟩ := hR.own
  simp only [Value.slice.injEq, true_and] at ev'
  obtain ⟨rfl, rfl⟩ := ev'
  have LI : Lie w9 (rcB (xs.drop k)) ⟨ad, cd, gd⟩ := ⟨O1, O2, O3⟩
  have h9 := h.up b9
  have z9 := b9.size
  have zT := h.T.lt
  obtain ⟨v', w4, r1, r2, r3, r4, -⟩ := h9.R.appQ (rcK (xs.drop k), rcB (xs.drop k)) ⟨ad, cd, gd⟩ p0 hp (by omega) LI wr.heap.size (by omega) (fun i hi h0 => h.R.lt hi h0) (fun i hi => (h.R.o.lt i hi).2) O4 (by omega)
  have T4 : RwC w4 (w.heap.size + 1) [.int .i64 0, v, .slice none 0 0] 31 := (r4.block _ (by omega)).trans h9.T
  have U4 : RwC w4 w.heap.size [.int .i64 0, .slice none 0 0, .slice none 0 0] 31 := (r4.block _ (by omega)).trans h9.U
  have O5 := Only.setCell w4 (w.heap.size + 1) 1 v'
  exact ⟨v', w4, r1, T4.c1, T4.free 1, _, _, ⟨h.A.step hb ht, r2.of (fun i hi hB => O5.block i (by omega)), T4.set 1 v', U4.onl O5 (by omega), (h9.N.trans (r4.mono (show w.heap.size ≤ w.heap.size + 2 by omega))).trans (O5.below (by omega))⟩⟩
/-- A row of one record. -/
def NBr (b : Nat) (x : Int) (D : List Int) : Fact := ⟨fun v w => ∃ p a c, v = .slice (some ⟨p, 0, none⟩) 1 1 ∧ RwC w p [.int .i64 x, .slice a D.length c] 25 ∧ RowB w b (.slice a D.length c) D, fun n h => by
  obtain ⟨p, a, c, e, r, q⟩ := h
  exact ⟨p, a, c, e, r.up n, q.up n⟩⟩
end Go.Proofs.YtjfggcefdobooaaDoor
