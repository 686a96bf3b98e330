
/-
  A hash on its way: its cells, as a value and in memory. No program in sight (written by gens/hh.py).
-/
import Derived.Test.YtnfciobpfiibcaaDoorHsS
import Derived.Laws.IdiomCopy
import Derived.Deep.DeepCutAuto
import Derived.Lib.AppendZeros
namespace Go.Proofs.YtnfciobpfiibcaaDoor
set_option maxRecDepth 100000
open Go Go.RowKit

def hcl (k : IntKind) (L : Int) (C : S8) (R : List Int) : List Value := .int .i64 L :: (C.l.map (Value.int k) ++ R.map (Value.int .u8))
theorem hcl_len (k : IntKind) (L : Int) (C : S8) {R : List Int} (h : R.length = 128) : (hcl k L C R).length = 137 := by
  unfold hcl
  rw [List.length_cons, List.length_append, List.length_map, List.length_map, h, S8.l_len]
theorem hcl_one (k : IntKind) (L : Int) (C : S8) (R : List Int) : (hcl k L C R).toArray.all (·.oneCell') = true := all_oneCell_toArray fun v hv => by
  unfold hcl at hv
  rcases List.mem_cons.1 hv with rfl | h
  · rfl
  · rcases List.mem_append.1 h with h | h
    · obtain ⟨x, _, rfl⟩ := List.mem_map.1 h
      rfl
    · obtain ⟨x, _, rfl⟩ := List.mem_map.1 h
      rfl
structure HB (k : IntKind) (w : World) (q : Nat) (L : Int) (C : S8) (R : List Int) : Prop where
  len : R.length = 128
  c0 : w.cell? ⟨q, 0, none⟩ = some (.int .i64 L)
  f0 : w.frozen? ⟨q, 0, none⟩ = false
  ch : Seg w q 1 k C.l
  rs : Seg w q 9 .u8 R
theorem HB.lt {k : IntKind} {w : World} {q : Nat} {L : Int} {C : S8} {R : List Int} (h : HB k w q L C R) : q < w.heap.size := block_lt_of_cell h.c0
theorem HB.of_block {k : IntKind} {w w' : World} {q : Nat} {L : Int} {C : S8} {R : List Int} (h : HB k w q L C R) (hb : w'.heap[q]? = w.heap[q]?) : HB k w' q L C R :=
  ⟨h.len, (World.cell?_of_block (a := ⟨q, 0, none⟩) hb).trans h.c0, (World.frozen?_of_block (a := ⟨q, 0, none⟩) hb).trans h.f0,
   fun i hi => ⟨(World.cell?_of_block (a := ⟨q, 1 + i, none⟩) hb).trans (h.ch i hi).1, (World.frozen?_of_block (a := ⟨q, 1 + i, none⟩) hb).trans (h.ch i hi).2⟩,
   fun i hi => ⟨(World.cell?_of_block (a := ⟨q, 9 + i, none⟩) hb).trans (h.rs i hi).1, (World.frozen?_of_block (a := ⟨q, 9 + i, none⟩) hb).trans (h.rs i hi).2⟩⟩
theorem HB.up {k : IntKind} {w w' : World} {q : Nat} {L : Int} {C : S8} {R : List Int} (h : HB k w q L C R) (n : Below w.heap.size w w') : HB k w' q L C R := h.of_block (n.block q h.lt)
theorem HB.range {k : IntKind} {w : World} {q : Nat} {L : Int} {C : S8} {R : List Int} (h : HB k w q L C R) : w.rangeAt q 0 (hcl k L C R) := by
  intro j v hv
  unfold hcl at hv
  cases j with
  | zero =>
    simp at hv
    subst hv
    exact h.c0
  | succ j =>
    rw [List.getElem?_cons_succ] at hv
    by_cases c : j < 8
    · rw [List.getElem?_append_left (by rw [List.length_map, S8.l_len]; exact c)] at hv
      rw [show 0 + (j + 1) = 1 + j by omega]
      exact h.ch.range j v hv
    · rw [List.getElem?_append_right (by rw [List.length_map, S8.l_len]; omega), List.length_map, S8.l_len] at hv
      rw [show 0 + (j + 1) = 9 + (j - 8) by omega]
      exact h.rs.range (j - 8) v hv
theorem HB.there {k : IntKind} {w : World} {q : Nat} {L : Int} {C : S8} {R : List Int} (h : HB k w q L C R) : w.there q 0 137 := by
  intro j hj
  rw [Nat.zero_add]
  cases j with
  | zero => exact ⟨by rw [h.c0]; rfl, h.f0⟩
  | succ j =>
    by_cases c : j < 8
    · have := h.ch j (by rw [S8.l_len]; exact c)
      rw [show 1 + j = j + 1 by omega] at this
      exact ⟨by rw [this.1]; rfl, this.2⟩
    · have := h.rs (j - 8) (by rw [h.len]; omega)
      rw [show 9 + (j - 8) = j + 1 by omega] at this
      exact ⟨by rw [this.1]; rfl, this.2⟩
/-- Cells that hold it. -/
theorem HB.of_range {k : IntKind} {w : World} {q : Nat} {L : Int} {C : S8} {R : List Int} (hl : R.length = 128) (rg : w.rangeAt q 0 (hcl k L C R)) (th : w.there q 0 137) : HB k w q L C R := by
  have f : ∀ j, j < 137 → w.frozen? ⟨q, j, none⟩ = false := fun j hj => by have := (th j hj).2; rwa [Nat.zero_add] at this
  refine ⟨hl, rg 0 _ rfl, f 0 (by omega), fun i hi => ⟨?_, f _ (by rw [S8.l_len] at hi; omega)⟩, fun i hi => ⟨?_, f _ (by omega)⟩⟩
  · have := rg (i + 1) (.int k (C.l.getD i 0)) (by
      unfold hcl
      rw [List.getElem?_cons_succ, List.getElem?_append_left (by rw [List.length_map]; exact hi)]
      simp [hi])
    rwa [show 0 + (i + 1) = 1 + i by omega] at this
  · have := rg (i + 9) (.int .u8 (R.getD i 0)) (by
      unfold hcl
      rw [show i + 9 = (i + 8) + 1 by omega, List.getElem?_cons_succ, List.getElem?_append_right (by rw [List.length_map, S8.l_len]; omega), List.length_map, S8.l_len, Nat.add_sub_cancel]
      simp [hi])
    rwa [show 0 + (i + 9) = 9 + i by omega] at this
theorem HB.alloc (k : IntKind) (w : World) (ty : TypeId) (L : Int) (C : S8) {R : List Int} (hl : R.length = 128) : HB k (w.alloc (.cells (hcl k L C R).toArray ty)) w.heap.size L C R := by
  have hh : (w.alloc (.cells (hcl k L C R).toArray ty)).heap[w.heap.size]? = some (.cells (hcl k L C R).toArray ty (0, 0)) := by
    show (w.heap.push _)[w.heap.size]? = _
    simp
  refine HB.of_range hl (fun j v hv => ?_) (fun j hj => ⟨?_, frozen_of_row _ _ _ _ _ hh⟩)
  · rw [cell_of_row _ _ _ _ _ _ hh]
    simpa using hv
  · rw [cell_of_row _ _ _ _ _ _ hh]
    have := hcl_len k L C hl
    simp [this]
    omega
/-- The length is set. -/
theorem HB.setL {k : IntKind} {w : World} {q : Nat} {L : Int} {C : S8} {R : List Int} (h : HB k w q L C R) (L' : Int) : HB k (w.setCell ⟨q, 0, none⟩ (.int .i64 L')) q L' C R := by
  refine ⟨h.len, World.cell?_setCell_same _ _ _ h.c0, by rw [frozen_setCell]; exact h.f0, fun i hi => ⟨?_, by rw [frozen_setCell]; exact (h.ch i hi).2⟩, fun i hi => ⟨?_, by rw [frozen_setCell]; exact (h.rs i hi).2⟩⟩
  · rw [World.cell?_setCell_other (h := fun h => by simp only [Addr.mk.injEq, true_and, and_true] at h; omega)]
    exact (h.ch i hi).1
  · rw [World.cell?_setCell_other (h := fun h => by simp only [Addr.mk.injEq, true_and, and_true] at h; omega)]
    exact (h.rs i hi).1
/-- A part of it is set. -/
theorem setCells_frozen (w : World) (q o : Nat) (vs : List Value) (a : Addr) : (w.setCells q o vs).frozen? a = w.frozen? a := World.frozen?_setCells q vs o w a
theorem cell_out {w : World} {q o : Nat} {vs : List Value} {j : Nat} {v : Value} (h : w.cell? ⟨q, j, none⟩ = some v) (hj : j < o ∨ o + vs.length ≤ j) : (w.setCells q o vs).cell? ⟨q, j, none⟩ = some v := by
  have := World.rangeAt_setCells_apart (w := w) (b' := q) (o' := j) (cs := [v]) (fun i u hu => by
    match i, hu with
    | 0, hu => simp at hu; subst hu; exact h) q o vs (.inr (by rcases hj with hj | hj; exact .inl (by simp; omega); exact .inr (by omega)))
  exact this 0 v rfl
theorem HB.setC {k : IntKind} {w : World} {q : Nat} {L : Int} {C : S8} {R : List Int} (h : HB k w q L C R) (C' : S8) : HB k (w.setCells q 1 (C'.l.map (Value.int k))) q L C' R := by
  have l8 : (C'.l.map (Value.int k)).length = 8 := by rw [List.length_map, S8.l_len]
  have sm := World.rangeAt_setCells_same w q 1 (C'.l.map (Value.int k)) (by
    rw [l8]
    intro j hj
    have := h.ch j (by rw [S8.l_len]; exact hj)
    exact ⟨by rw [this.1]; rfl, this.2⟩)
  refine ⟨h.len, cell_out h.c0 (.inl (by omega)), by rw [setCells_frozen]; exact h.f0, fun i hi => ⟨?_, ?_⟩, fun i hi => ⟨cell_out (h.rs i hi).1 (.inr (by rw [l8]; omega)), by rw [setCells_frozen]; exact (h.rs i hi).2⟩⟩
  · exact sm i _ (by simp [hi])
  · rw [setCells_frozen]
    exact (h.ch i (by rw [S8.l_len] at hi ⊢; exact hi)).2
/-- Bytes are laid over a part of the rest. -/
def lay (R : List Int) (r : Nat) (xs : List Int) : List Int := R.take r ++ (xs ++ R.drop (r + xs.length))
theorem lay_len {R : List Int} {r : Nat} {xs : List Int} (h : r + xs.length ≤ R.length) : (lay R r xs).length = R.length := by
  unfold lay
  simp
  omega
theorem HB.setR {k : IntKind} {w : World} {q : Nat} {L : Int} {C : S8} {R : List Int} (h : HB k w q L C R) (r : Nat) (xs : List Int) (hr : r + xs.length ≤ 128) : HB k (w.setCells q (9 + r) (xs.map (Value.int .u8))) q L C (lay R r xs) := by
  have hl := h.len
  have lx : (xs.map (Value.int .u8)).length = xs.length := List.length_map _
  have sm := World.rangeAt_setCells_same w q (9 + r) (xs.map (Value.int .u8)) (by
    rw [lx]
    intro j hj
    have := h.rs (r + j) (by omega)
    rw [show 9 + (r + j) = 9 + r + j by omega] at this
    exact ⟨by rw [this.1]; rfl, this.2⟩)
  refine ⟨by rw [lay_len (by omega)]; exact hl, cell_out h.c0 (.inl (by omega)), by rw [setCells_frozen]; exact h.f0, fun i hi => ⟨cell_out (h.ch i hi).1 (.inl (by rw [S8.l_len] at hi; omega)), by rw [setCells_frozen]; exact (h.ch i hi).2⟩, fun i hi => ?_⟩
  rw [lay_len (by omega)] at hi
  refine ⟨?_, by rw [setCells_frozen]; exact (h.rs i hi).2⟩
  unfold lay
  have tl : (R.take r).length = r := by rw [List.length_take]; omega
  by_cases c1 : i < r
  · rw [getD_apd_left _ _ _ (by omega)]
    have e : (R.take r).getD i 0 = R.getD i 0 := by rw [List.getD_eq_getElem?_getD, List.getD_eq_getElem?_getD, List.getElem?_take, if_pos c1]
    rw [e]
    exact cell_out (h.rs i hi).1 (.inl (by omega))
  · rw [getD_apd_right _ _ _ (by omega), tl]
    by_cases c2 : i - r < xs.length
    · rw [getD_apd_left _ _ _ c2]
      have := sm (i - r) (.int .u8 (xs.getD (i - r) 0)) (by simp [c2])
      rwa [show 9 + r + (i - r) = 9 + i by omega] at this
    · rw [getD_apd_right _ _ _ (by omega), List.getD_eq_getElem?_getD, List.getElem?_drop, show r + xs.length + (i - r - xs.length) = i by omega, ← List.getD_eq_getElem?_getD]
      exact cell_out (h.rs i hi).1 (.inr (by rw [lx]; omega))
theorem only_setCells (w : World) (q : Nat) : ∀ (vs : List Value) (o : Nat), Only q w (w.setCells q o vs)
  | [], _ => Only.refl _ _
  | v :: vs, o => (Only.setCell w q o v).trans (only_setCells (w.setCell ⟨q, o, none⟩ v) q vs (o + 1))
/-- All blocks but q that were there are as they were. -/
structure Bth (q : Nat) (w w' : World) : Prop where
  os : w'.os = w.os
  tape : w'.tape = w.tape
  output : w'.output = w.output
  size : w.heap.size ≤ w'.heap.size
  block : ∀ g, g < w.heap.size → g ≠ q → w'.heap[g]? = w.heap[g]?
theorem Bth.refl (q : Nat) (w : World) : Bth q w w := ⟨rfl, rfl, rfl, Nat.le_refl _, fun _ _ _ => rfl⟩
theorem Bth.trans {q : Nat} {a b c : World} (h : Bth q a b) (k : Bth q b c) : Bth q a c :=
  ⟨k.os.trans h.os, k.tape.trans h.tape, k.output.trans h.output, Nat.le_trans h.size k.size, fun g hg hq => (k.block g (Nat.lt_of_lt_of_le hg h.size) hq).trans (h.block g hg hq)⟩
theorem Bth.of_below {q : Nat} {a b : World} (h : Below a.heap.size a b) : Bth q a b := ⟨h.os, h.tape, h.output, h.size, fun g hg _ => h.block g hg⟩
theorem Bth.of_only {q : Nat} {a b : World} (h : Only q a b) : Bth q a b := ⟨h.os, h.tape, h.output, Nat.le_of_eq h.size.symm, fun g _ hq => h.block g hq⟩
theorem Bth.below {q B : Nat} {a b : World} (h : Bth q a b) (h1 : B ≤ q) (h2 : B ≤ a.heap.size) : Below B a b := ⟨h.os, h.tape, h.output, h.size, fun g hg => h.block g (by omega) (by omega)⟩
theorem HasT.bt {q g : Nat} {w w' : World} {l : List Int} (h : HasT w g l) (hl : 0 < l.length) (b : Bth q w w') (hq : g ≠ q) : HasT w' g l := h.of_block (b.block g (block_lt_of_cell (h 0 hl)) hq)
theorem Rd.bt {q g : Nat} {w w' : World} {a : Option Addr} {k : IntKind} {xs : List Int} (h : Rd w g a k xs) (b : Bth q w w') (hq : g ≠ q) : Rd w' g a k xs := by
  by_cases h0 : 0 < xs.length
  · exact h.of_block (b.block g (h.lt h0) hq)
  · exact fun h1 => absurd h1 h0
theorem HB.of_seg {k : IntKind} {w w' : World} {q : Nat} {L : Int} {C C' : S8} {R : List Int} (h : HB k w q L C R) (x : SegX q 1 8 w w') (s : Seg w' q 1 k C'.l) : HB k w' q L C' R :=
  ⟨h.len, (x.out 0 (.inl (by omega))).1.trans h.c0, (x.out 0 (.inl (by omega))).2.trans h.f0, s, fun i hi => ⟨(x.out (9 + i) (.inr (by omega))).1.trans (h.rs i hi).1, (x.out (9 + i) (.inr (by omega))).2.trans (h.rs i hi).2⟩⟩
theorem results_cell_m {P : Program} {fn : Func} {p : Tmp} {ty : TypeId} (h : fn.results = #[.cell p ty]) (tmps : Array Value) (w : World) (g : Nat) (cs : List Value) (d : TypeDesc)
    (hp : tmps.getD p undef = .pointer (some ⟨g, 0, none⟩)) (hc : w.rangeAt g 0 cs) (hu : P.underlying ty = some d) (hd : d.isRow = true) (hi : (P.info? ty).map (·.size) = some cs.length) :
    (results fn tmps).run P w = .ok (.agg cs.toArray) w := by
  have hp' : tmps[p]?.getD undef = .pointer (some ⟨g, 0, none⟩) := by simpa using hp
  simp [results, h, hp', asAddr, run_loadVar_mid w g 0 ty cs d hc hu hd hi]
theorem take_more {R : List Int} {r : Nat} {xs : List Int} (h : r ≤ R.length) : (lay R r xs).take (r + xs.length) = R.take r ++ xs := by
  unfold lay
  rw [← List.append_assoc]
  have : (R.take r ++ xs).length = r + xs.length := by rw [List.length_append, List.length_take]; omega
  rw [← this]
  exact List.take_left
theorem lay_byt {R : List Int} {r : Nat} {xs : List Int} (h : Byt R) (k : Byt xs) : Byt (lay R r xs) := by
  refine byt_apd (fun j => ?_) (byt_apd k (fun j => ?_))
  · rw [List.getD_eq_getElem?_getD, List.getElem?_take]
    split
    · rw [← List.getD_eq_getElem?_getD]
      exact h j
    · simp
  · rw [List.getD_eq_getElem?_getD, List.getElem?_drop, ← List.getD_eq_getElem?_getD]
    exact h _
theorem byt_takeh {xs : List Int} (h : Byt xs) (n : Nat) : Byt (xs.take n) := fun j => by
  rw [List.getD_eq_getElem?_getD, List.getElem?_take]
  split
  · rw [← List.getD_eq_getElem?_getD]
    exact h j
  · simp
theorem rd_drop {w : World} {g o t : Nat} {xs : List Int} (h : Rd w g (some ⟨g, o, none⟩) .u8 xs) : Rd w g (some ⟨g, o + t, none⟩) .u8 (xs.drop t) := by
  intro h0
  rw [List.length_drop] at h0
  obtain ⟨o', e, hc⟩ := h (by omega)
  simp only [Option.some.injEq, Addr.mk.injEq, true_and, and_true] at e
  subst e
  refine ⟨o + t, rfl, fun i hi => ?_⟩
  rw [List.length_drop] at hi
  have := hc (t + i) (by omega)
  rw [List.getD_eq_getElem?_getD, List.getElem?_drop, ← List.getD_eq_getElem?_getD, Nat.add_assoc]
  exact this
theorem und22h : Tryd.prog.underlying 22 = some (.slice 5) := Tryd.underlying22
theorem s5 : (Tryd.prog.info? 5).map (·.size) = some 1 := by kernel_rfl
theorem wpList_copy_run {P : Program} (w : World) {ops : Array Oper} {rest : List Oper} {o : Oper} {a : Act} {Q : Exit → Act → World → Prop} (hgd : o.guard = none) (s x : Operand) (t tn : TypeId)
    (ho : o.op = .call { callee := .builtin .copy, args := #[s, x], argTypes := #[t, tn] }) (vs vx : Value) (hs : a.eval s = vs) (hx : a.eval x = vx)
    (v' : Value) (w' : World) (hr : (Builtin.copy_ #[t, tn] o.type #[vs, vx]).run P w = .ok v' w') (h : wpList P ops Q rest (a.put o.dst v') w') : wpList P ops Q (o :: rest) a w :=
  wpList_plain hgd fun _ hK => by
    unfold Oper.wp execOp
    simp only [ho, resolve, invoke, builtin, Sem.run_bind, Sem.run_pure, Result.andThen_ok, List.map_toArray, List.map_cons, List.map_nil, hs, hx, hr]
    exact hK _ _ h
theorem zero137 (k : IntKind) : hcl k 0 ⟨0, 0, 0, 0, 0, 0, 0, 0⟩ (List.replicate 128 0) = .int .i64 0 :: (List.replicate 8 (.int k 0) ++ List.replicate 128 (.int .u8 0)) := by
  unfold hcl
  rw [List.map_replicate]
  rfl
end Go.Proofs.YtnfciobpfiibcaaDoor
