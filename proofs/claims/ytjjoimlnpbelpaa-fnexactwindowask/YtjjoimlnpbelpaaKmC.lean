
/-
  Rows of int64: counted, copied, held against each other; windows; what an end's report reads as (written by gens/kmc.py).
-/
import Derived.Test.YtjjoimlnpbelpaaKmB
import Derived.Test.YtjjoimlnpbelpaaSvC
namespace Go.Proofs.Ytjjoimlnpbelpaa
open Go Go.RowKit

theorem infoI64 : (Try.prog.info? 2).map (fun i => (i.zero, i.size, i.bytes)) = some (some (.int .i64 0), 1, 8) := by kernel_rfl
theorem i64Parts : ∃ i0, Try.prog.info? 2 = some i0 ∧ i0.zero = some (.int .i64 0) ∧ i0.size = 1 ∧ i0.bytes = 8 := by
  have h := infoI64
  cases hq : Try.prog.info? 2 with
  | none => rw [hq] at h; simp at h
  | some i0 =>
    rw [hq] at h
    simp only [Option.map_some, Option.some.injEq, Prod.mk.injEq] at h
    exact ⟨i0, rfl, h.1, h.2.1, h.2.2⟩
theorem Rd.onlK {w w' : World} {g q : Nat} {a : Option Addr} {k : IntKind} {xs : List Int} (h : Rd w g a k xs) (O : Only q w w') (hne : g ≠ q) : Rd w' g a k xs := fun h0 => h.of_block (O.block g hne) h0
/-- A list that was copied: all of it lies at b or above. -/
structure CpS (b : Nat) (W : World) (p : Nat) (k : IntKind) (xs : List Int) : Prop where
  rd : Rd W p (some ⟨p, 0, none⟩) k xs
  lo : b ≤ p
theorem CpS.of {b : Nat} {W : World} {p : Nat} {k : IntKind} {xs : List Int} (h : Blk W p k xs) (l : b ≤ p) : CpS b W p k xs := ⟨h.own0.rd, l⟩
theorem CpS.up {b : Nat} {W W' : World} {p : Nat} {k : IntKind} {xs : List Int} (h : CpS b W p k xs) (n : Below W.heap.size W W') : CpS b W' p k xs := ⟨h.rd.up n, h.lo⟩
theorem CpS.onl {b q : Nat} {W W' : World} {p : Nat} {k : IntKind} {xs : List Int} (h : CpS b W p k xs) (O : Only q W W') (hq : q < b) : CpS b W' p k xs := ⟨h.rd.onlK O (by have := h.lo; omega), h.lo⟩
/-- Marks that were copied. -/
structure CpK (b : Nat) (W : World) (p : Nat) (ms : List Mrk) (ps : List Plm) : Prop where
  rd : RdK W p (some ⟨p, 0, none⟩) ms ps
  lo : b ≤ p
  los : ∀ i, i < ms.length → b ≤ (ps.getD i plm0).q
theorem CpK.up {b : Nat} {W W' : World} {p : Nat} {ms : List Mrk} {ps : List Plm} (h : CpK b W p ms ps) (n : Below W.heap.size W W') : CpK b W' p ms ps := ⟨h.rd.up n, h.lo, h.los⟩
theorem RdK.onl {w w' : World} {g q : Nat} {a : Option Addr} {ms : List Mrk} {ps : List Plm} (h : RdK w g a ms ps) (O : Only q w w') (hg : g ≠ q) (hs : ∀ i, i < ms.length → (ps.getD i plm0).q ≠ q) : RdK w' g a ms ps :=
  ⟨fun h0 => by
    obtain ⟨off, e, hc⟩ := h.r h0
    exact ⟨off, e, fun i hi => ⟨(World.cell?_of_block (O.block g hg)).trans (hc i hi).1, (World.cell?_of_block (O.block g hg)).trans (hc i hi).2⟩⟩,
   fun i hi => (h.b i hi).onlK O (hs i hi)⟩
theorem CpK.onl {b q : Nat} {W W' : World} {p : Nat} {ms : List Mrk} {ps : List Plm} (h : CpK b W p ms ps) (O : Only q W W') (hq : q < b) : CpK b W' p ms ps := ⟨h.rd.onl O (by have := h.lo; omega) (fun i hi => by have := h.los i hi; omega), h.lo, h.los⟩
/-- Cells put into a list, one behind the other. -/
def setL (cs : List Value) : Nat → List Value → List Value
  | _, [] => cs
  | o, v :: r => setL (cs.set o v) (o + 1) r
theorem TMs.sets {w W : World} {tL tM : TypeId} {src zer cs : List Value} (h : TMs w W tL tM src zer cs) (o : Nat) (vs : List Value) : TMs w (W.setCells (w.heap.size + 1 + 1) o vs) tL tM src zer (setL cs o vs) := by
  induction vs generalizing W cs o with
  | nil => exact h
  | cons v r ih => exact ih (h.set o v) (o + 1)
theorem RwC.part {w : World} {q : Nat} {cs : List Value} {t : TypeId} (h : RwC w q cs t) (o : Nat) (l : List Value) (hl : (cs.drop o).take l.length = l) : w.rangeAt q o l := fun j v hj => by
  rw [h.cell (o + j)]
  rw [← hl] at hj
  rw [List.getElem?_take] at hj
  split at hj
  · rw [List.getElem?_drop] at hj
    exact hj
  · simp at hj
theorem RwC.tpart {w : World} {q : Nat} {cs : List Value} {t : TypeId} (h : RwC w q cs t) (o n : Nat) (hl : o + n ≤ cs.length) : w.there q o n := fun j hj => by
  rw [h.cell (o + j), h.free (o + j)]
  exact ⟨by rw [List.getElem?_eq_getElem (by omega)]; simp, rfl⟩
theorem iWd : (Try.prog.info? 29).map (·.size) = some 2 := by kernel_rfl
theorem rowWd : ∃ d, Try.prog.underlying 29 = some d ∧ d.isRow = true := ⟨_, Try.underlying29, rfl⟩
theorem oneWd (wd : Int) (a : Option Addr) (n c : Nat) : ([.int .i64 wd, .slice a n c] : List Value).toArray.all (·.oneCell') = true := all_oneCell_toArray fun v hv => by
  simp only [List.mem_cons, List.not_mem_nil, or_false] at hv
  rcases hv with rfl | rfl
  all_goals rfl
end Go.Proofs.Ytjjoimlnpbelpaa
