import Derived.Test.YtmfajpplagbfcaaGreatDoorHB26
import Derived.Laws.IdiomCopy
import Derived.Deep.DeepCutAuto
import Derived.Lib.AppendZeros
import Derived.Test.YtmfajpplagbfcaaGreatDoorHB25
import Derived.BigRegion
namespace Go.Proofs.YtmfajpplagbfcaaGreatDoor
set_option maxRecDepth 100000
open Go Go.RowKit
def hcl (k : IntKind) (L : Int) (C : S8) (R : List Int) : List Value := .int .i64 L :: (C.l.map (Value.int k) ++ R.map (Value.int .u8))
theorem hcl_len (k : IntKind) (L : Int) (C : S8) {R : List Int} (h : R.length = 128) : (hcl k L C R).length = 137 := by
  unfold hcl
  rw [List.length_cons, List.length_append, List.length_map, List.length_map, h, S8.l_len]
theorem hcl_one (k : IntKind) (L : Int) (C : S8) (R : List Int) : (hcl k L C R).toArray.all (·.oneCell') = true := all_oneCell_toArray fun v hv => by
  unfold hcl at hv
  rcases List.mem_cons.1 hv with rfl | h
  · rfl
  · rcases List.mem_append.1 h with h | h
    · obtain ⟨x, _, rfl⟩ := List.mem_map.1 h
      rfl
    · obtain ⟨x, _, rfl⟩ := List.mem_map.1 h
      rfl
structure HB (k : IntKind) (w : World) (q : Nat) (L : Int) (C : S8) (R : List Int) : Prop where
  len : R.length = 128
  c0 : w.cell? ⟨q, 0, none⟩ = some (.int .i64 L)
  f0 : w.frozen? ⟨q, 0, none⟩ = false
  ch : Seg w q 1 k C.l
  rs : Seg w q 9 .u8 R
theorem HB.lt {k : IntKind} {w : World} {q : Nat} {L : Int} {C : S8} {R : List Int} (h : HB k w q L C R) : q < w.heap.size := block_lt_of_cell h.c0
theorem HB.of_block {k : IntKind} {w w' : World} {q : Nat} {L : Int} {C : S8} {R : List Int} (h : HB k w q L C R) (hb : w'.heap[q]? = w.heap[q]?) : HB k w' q L C R :=
  ⟨h.len, (World.cell?_of_block (a := ⟨q, 0, none⟩) hb).trans h.c0, (World.frozen?_of_block (a := ⟨q, 0, none⟩) hb).trans h.f0,
   fun i hi => ⟨(World.cell?_of_block (a := ⟨q, 1 + i, none⟩) hb).trans (h.ch i hi).1, (World.frozen?_of_block (a := ⟨q, 1 + i, none⟩) hb).trans (h.ch i hi).2⟩,
   fun i hi => ⟨(World.cell?_of_block (a := ⟨q, 9 + i, none⟩) hb).trans (h.rs i hi).1, (World.frozen?_of_block (a := ⟨q, 9 + i, none⟩) hb).trans (h.rs i hi).2⟩⟩
theorem HB.up {k : IntKind} {w w' : World} {q : Nat} {L : Int} {C : S8} {R : List Int} (h : HB k w q L C R) (n : Below w.heap.size w w') : HB k w' q L C R := h.of_block (n.block q h.lt)
theorem HB.range {k : IntKind} {w : World} {q : Nat} {L : Int} {C : S8} {R : List Int} (h : HB k w q L C R) : w.rangeAt q 0 (hcl k L C R) := by
  intro j v hv
  unfold hcl at hv
  cases j with
  | zero =>
    simp at hv
    subst hv
    exact h.c0
  | succ j =>
    rw [List.getElem?_cons_succ] at hv
    by_cases c : j < 8
    · rw [List.getElem?_append_left (by rw [List.length_map, S8.l_len]; exact c)] at hv
      rw [show 0 + (j + 1) = 1 + j by omega]
      exact h.ch.range j v hv
    · rw [List.getElem?_append_right (by rw [List.length_map, S8.l_len]; omega), List.length_map, S8.l_len] at hv
      rw [show 0 + (j + 1) = 9 + (j - 8) by omega]
      exact h.rs.range (j - 8) v hv
theorem HB.there {k : IntKind} {w : World} {q : Nat} {L : Int} {C : S8} {R : List Int} (h : HB k w q L C R) : w.there q 0 137 := by
  intro j hj
  rw [Nat.zero_add]
  cases j with
  | zero => exact ⟨by rw [h.c0]; rfl, h.f0⟩
  | succ j =>
    by_cases c : j < 8
    · have := h.ch j (by rw [S8.l_len]; exact c)
      rw [show 1 + j = j + 1 by omega] at this
      exact ⟨by rw [this.1]; rfl, this.2⟩
    · have := h.rs (j - 8) (by rw [h.len]; omega)
      rw [show 9 + (j - 8) = j + 1 by omega] at this
      exact ⟨by rw [this.1]; rfl, this.2⟩
theorem HB.of_range {k : IntKind} {w : World} {q : Nat} {L : Int} {C : S8} {R : List Int} (hl : R.length = 128) (rg : w.rangeAt q 0 (hcl k L C R)) (th : w.there q 0 137) : HB k w q L C R := by
  have f : ∀ j, j < 137 → w.frozen? ⟨q, j, none⟩ = false := fun j hj => by have := (th j hj).2; rwa [Nat.zero_add] at this
  refine ⟨hl, rg 0 _ rfl, f 0 (by omega), fun i hi => ⟨?_, f _ (by rw [S8.l_len] at hi; omega)⟩, fun i hi => ⟨?_, f _ (by omega)⟩⟩
  · have := rg (i + 1) (.int k (C.l.getD i 0)) (by
      unfold hcl
      rw [List.getElem?_cons_succ, List.getElem?_append_left (by rw [List.length_map]; exact hi)]
      simp [hi])
    rwa [show 0 + (i + 1) = 1 + i by omega] at this
  · have := rg (i + 9) (.int .u8 (R.getD i 0)) (by
      unfold hcl
      rw [show i + 9 = (i + 8) + 1 by omega, List.getElem?_cons_succ, List.getElem?_append_right (by rw [List.length_map, S8.l_len]; omega), List.length_map, S8.l_len, Nat.add_sub_cancel]
      simp [hi])
    rwa [show 0 + (i + 9) = 9 + i by omega] at this
theorem HB.alloc (k : IntKind) (w : World) (ty : TypeId) (L : Int) (C : S8) {R : List Int} (hl : R.length = 128) : HB k (w.alloc (.cells (hcl k L C R).toArray ty)) w.heap.size L C R := by
  have hh : (w.alloc (.cells (hcl k L C R).toArray ty)).heap[w.heap.size]? = some (.cells (hcl k L C R).toArray ty (0, 0)) := by
    show (w.heap.push _)[w.heap.size]? = _
    simp
  refine HB.of_range hl (fun j v hv => ?_) (fun j hj => ⟨?_, frozen_of_row _ _ _ _ _ hh⟩)
  · rw [cell_of_row _ _ _ _ _ _ hh]
    simpa using hv
  · rw [cell_of_row _ _ _ _ _ _ hh]
    have := hcl_len k L C hl
    simp [this]
    omega
theorem HB.setL {k : IntKind} {w : World} {q : Nat} {L : Int} {C : S8} {R : List Int} (h : HB k w q L C R) (L' : Int) : HB k (w.setCell ⟨q, 0, none⟩ (.int .i64 L')) q L' C R := by
  refine ⟨h.len, World.cell?_setCell_same _ _ _ h.c0, by rw [frozen_setCell]; exact h.f0, fun i hi => ⟨?_, by rw [frozen_setCell]; exact (h.ch i hi).2⟩, fun i hi => ⟨?_, by rw [frozen_setCell]; exact (h.rs i hi).2⟩⟩
  · rw [World.cell?_setCell_other (h := fun h => by simp only [Addr.mk.injEq, true_and, and_true] at h; omega)]
    exact (h.ch i hi).1
  · rw [World.cell?_setCell_other (h := fun h => by simp only [Addr.mk.injEq, true_and, and_true] at h; omega)]
    exact (h.rs i hi).1
theorem setCells_frozen (w : World) (q o : Nat) (vs : List Value) (a : Addr) : (w.setCells q o vs).frozen? a = w.frozen? a := World.frozen?_setCells q vs o w a
theorem cell_out {w : World} {q o : Nat} {vs : List Value} {j : Nat} {v : Value} (h : w.cell? ⟨q, j, none⟩ = some v) (hj : j < o ∨ o + vs.length ≤ j) : (w.setCells q o vs).cell? ⟨q, j, none⟩ = some v := by
  have := World.rangeAt_setCells_apart (w := w) (b' := q) (o' := j) (cs := [v]) (fun i u hu => by
    match i, hu with
    | 0, hu => simp at hu; subst hu; exact h) q o vs (.inr (by rcases hj with hj | hj; exact .inl (by simp; omega); exact .inr (by omega)))
  exact this 0 v rfl
theorem HB.setC {k : IntKind} {w : World} {q : Nat} {L : Int} {C : S8} {R : List Int} (h : HB k w q L C R) (C' : S8) : HB k (w.setCells q 1 (C'.l.map (Value.int k))) q L C' R := by
  have l8 : (C'.l.map (Value.int k)).length = 8 := by rw [List.length_map, S8.l_len]
  have sm := World.rangeAt_setCells_same w q 1 (C'.l.map (Value.int k)) (by
    rw [l8]
    intro j hj
    have := h.ch j (by rw [S8.l_len]; exact hj)
    exact ⟨by rw [this.1]; rfl, this.2⟩)
  refine ⟨h.len, cell_out h.c0 (.inl (by omega)), by rw [setCells_frozen]; exact h.f0, fun i hi => ⟨?_, ?_⟩, fun i hi => ⟨cell_out (h.rs i hi).1 (.inr (by rw [l8]; omega)), by rw [setCells_frozen]; exact (h.rs i hi).2⟩⟩
  · exact sm i _ (by simp [hi])
  · rw [setCells_frozen]
    exact (h.ch i (by rw [S8.l_len] at hi ⊢; exact hi)).2
def lay (R : List Int) (r : Nat) (xs : List Int) : List Int := R.take r ++ (xs ++ R.drop (r + xs.length))
theorem lay_len {R : List Int} {r : Nat} {xs : List Int} (h : r + xs.length ≤ R.length) : (lay R r xs).length = R.length := by
  unfold lay
  simp
  omega
theorem HB.setR {k : IntKind} {w : World} {q : Nat} {L : Int} {C : S8} {R : List Int} (h : HB k w q L C R) (r : Nat) (xs : List Int) (hr : r + xs.length ≤ 128) : HB k (w.setCells q (9 + r) (xs.map (Value.int .u8))) q L C (lay R r xs) := by
  have hl := h.len
  have lx : (xs.map (Value.int .u8)).length = xs.length := List.length_map _
  have sm := World.rangeAt_setCells_same w q (9 + r) (xs.map (Value.int .u8)) (by
    rw [lx]
    intro j hj
    have := h.rs (r + j) (by omega)
    rw [show 9 + (r + j) = 9 + r + j by omega] at this
    exact ⟨by rw [this.1]; rfl, this.2⟩)
  refine ⟨by rw [lay_len (by omega)]; exact hl, cell_out h.c0 (.inl (by omega)), by rw [setCells_frozen]; exact h.f0, fun i hi => ⟨cell_out (h.ch i hi).1 (.inl (by rw [S8.l_len] at hi; omega)), by rw [setCells_frozen]; exact (h.ch i hi).2⟩, fun i hi => ?_⟩
  rw [lay_len (by omega)] at hi
  refine ⟨?_, by rw [setCells_frozen]; exact (h.rs i hi).2⟩
  unfold lay
  have tl : (R.take r).length = r := by rw [List.length_take]; omega
  by_cases c1 : i < r
  · rw [getD_apd_left _ _ _ (by omega)]
    have e : (R.take r).getD i 0 = R.getD i 0 := by rw [List.getD_eq_getElem?_getD, List.getD_eq_getElem?_getD, List.getElem?_take, if_pos c1]
    rw [e]
    exact cell_out (h.rs i hi).1 (.inl (by omega))
  · rw [getD_apd_right _ _ _ (by omega), tl]
    by_cases c2 : i - r < xs.length
    · rw [getD_apd_left _ _ _ c2]
      have := sm (i - r) (.int .u8 (xs.getD (i - r) 0)) (by simp [c2])
      rwa [show 9 + r + (i - r) = 9 + i by omega] at this
    · rw [getD_apd_right _ _ _ (by omega), List.getD_eq_getElem?_getD, List.getElem?_drop, show r + xs.length + (i - r - xs.length) = i by omega, ← List.getD_eq_getElem?_getD]
      exact cell_out (h.rs i hi).1 (.inr (by rw [lx]; omega))
theorem only_setCells (w : World) (q : Nat) : ∀ (vs : List Value) (o : Nat), Only q w (w.setCells q o vs)
  | [], _ => Only.refl _ _
  | v :: vs, o => (Only.setCell w q o v).trans (only_setCells (w.setCell ⟨q, o, none⟩ v) q vs (o + 1))
structure Bth (q : Nat) (w w' : World) : Prop where
  os : w'.os = w.os
  tape : w'.tape = w.tape
  output : w'.output = w.output
  size : w.heap.size ≤ w'.heap.size
  block : ∀ g, g < w.heap.size → g ≠ q → w'.heap[g]? = w.heap[g]?
theorem Bth.refl (q : Nat) (w : World) : Bth q w w := ⟨rfl, rfl, rfl, Nat.le_refl _, fun _ _ _ => rfl⟩
theorem Bth.trans {q : Nat} {a b c : World} (h : Bth q a b) (k : Bth q b c) : Bth q a c :=
  ⟨k.os.trans h.os, k.tape.trans h.tape, k.output.trans h.output, Nat.le_trans h.size k.size, fun g hg hq => (k.block g (Nat.lt_of_lt_of_le hg h.size) hq).trans (h.block g hg hq)⟩
theorem Bth.of_below {q : Nat} {a b : World} (h : Below a.heap.size a b) : Bth q a b := ⟨h.os, h.tape, h.output, h.size, fun g hg _ => h.block g hg⟩
theorem Bth.of_only {q : Nat} {a b : World} (h : Only q a b) : Bth q a b := ⟨h.os, h.tape, h.output, Nat.le_of_eq h.size.symm, fun g _ hq => h.block g hq⟩
theorem Bth.below {q B : Nat} {a b : World} (h : Bth q a b) (h1 : B ≤ q) (h2 : B ≤ a.heap.size) : Below B a b := ⟨h.os, h.tape, h.output, h.size, fun g hg => h.block g (by omega) (by omega)⟩
theorem HasT.bt {q g : Nat} {w w' : World} {l : List Int} (h : HasT w g l) (hl : 0 < l.length) (b : Bth q w w') (hq : g ≠ q) : HasT w' g l := h.of_block (b.block g (block_lt_of_cell (h 0 hl)) hq)
theorem Rd.bt {q g : Nat} {w w' : World} {a : Option Addr} {k : IntKind} {xs : List Int} (h : Rd w g a k xs) (b : Bth q w w') (hq : g ≠ q) : Rd w' g a k xs := by
  by_cases h0 : 0 < xs.length
  · exact h.of_block (b.block g (h.lt h0) hq)
  · exact fun h1 => absurd h1 h0
theorem HB.of_seg {k : IntKind} {w w' : World} {q : Nat} {L : Int} {C C' : S8} {R : List Int} (h : HB k w q L C R) (x : SegX q 1 8 w w') (s : Seg w' q 1 k C'.l) : HB k w' q L C' R :=
  ⟨h.len, (x.out 0 (.inl (by omega))).1.trans h.c0, (x.out 0 (.inl (by omega))).2.trans h.f0, s, fun i hi => ⟨(x.out (9 + i) (.inr (by omega))).1.trans (h.rs i hi).1, (x.out (9 + i) (.inr (by omega))).2.trans (h.rs i hi).2⟩⟩
theorem results_cell_m {P : Program} {fn : Func} {p : Tmp} {ty : TypeId} (h : fn.results = #[.cell p ty]) (tmps : Array Value) (w : World) (g : Nat) (cs : List Value) (d : TypeDesc)
    (hp : tmps.getD p undef = .pointer (some ⟨g, 0, none⟩)) (hc : w.rangeAt g 0 cs) (hu : P.underlying ty = some d) (hd : d.isRow = true) (hi : (P.info? ty).map (·.size) = some cs.length) :
    (results fn tmps).run P w = .ok (.agg cs.toArray) w := by
  have hp' : tmps[p]?.getD undef = .pointer (some ⟨g, 0, none⟩) := by simpa using hp
  simp [results, h, hp', asAddr, run_loadVar_mid w g 0 ty cs d hc hu hd hi]
theorem take_more {R : List Int} {r : Nat} {xs : List Int} (h : r ≤ R.length) : (lay R r xs).take (r + xs.length) = R.take r ++ xs := by
  unfold lay
  rw [← List.append_assoc]
  have : (R.take r ++ xs).length = r + xs.length := by rw [List.length_append, List.length_take]; omega
  rw [← this]
  exact List.take_left
theorem lay_byt {R : List Int} {r : Nat} {xs : List Int} (h : Byt R) (k : Byt xs) : Byt (lay R r xs) := by
  refine byt_apd (fun j => ?_) (byt_apd k (fun j => ?_))
  · rw [List.getD_eq_getElem?_getD, List.getElem?_take]
    split
    · rw [← List.getD_eq_getElem?_getD]
      exact h j
    · simp
  · rw [List.getD_eq_getElem?_getD, List.getElem?_drop, ← List.getD_eq_getElem?_getD]
    exact h _
theorem byt_takeh {xs : List Int} (h : Byt xs) (n : Nat) : Byt (xs.take n) := fun j => by
  rw [List.getD_eq_getElem?_getD, List.getElem?_take]
  split
  · rw [← List.getD_eq_getElem?_getD]
    exact h j
  · simp
theorem rd_drop {w : World} {g o t : Nat} {xs : List Int} (h : Rd w g (some ⟨g, o, none⟩) .u8 xs) : Rd w g (some ⟨g, o + t, none⟩) .u8 (xs.drop t) := by
  intro h0
  rw [List.length_drop] at h0
  obtain ⟨o', e, hc⟩ := h (by omega)
  simp only [Option.some.injEq, Addr.mk.injEq, true_and, and_true] at e
  subst e
  refine ⟨o + t, rfl, fun i hi => ?_⟩
  rw [List.length_drop] at hi
  have := hc (t + i) (by omega)
  rw [List.getD_eq_getElem?_getD, List.getElem?_drop, ← List.getD_eq_getElem?_getD, Nat.add_assoc]
  exact this
theorem und22h : Tryz.prog.underlying 22 = some (.slice 5) := Tryz.underlying22
theorem s5 : (Tryz.prog.info? 5).map (·.size) = some 1 := by kernel_rfl
theorem zero137 (k : IntKind) : hcl k 0 ⟨0, 0, 0, 0, 0, 0, 0, 0⟩ (List.replicate 128 0) = .int .i64 0 :: (List.replicate 8 (.int k 0) ++ List.replicate 128 (.int .u8 0)) := by
  unfold hcl
  rw [List.map_replicate]
  rfl
end Go.Proofs.YtmfajpplagbfcaaGreatDoor
namespace Go.Proofs.YtmfajpplagbfcaaGreatDoor
set_option maxRecDepth 100000
open Go Go.RowKit
set_option maxHeartbeats 8000000 in
theorem behind_32 (w : World) (s : S8) (hs : Ok32 s) (b : Nat → Int) (hb : ∀ i, i < 16 → Wd32 (b i)) (hT : HasT w 1 kL) :
    Calls Tryz.prog 77 #[ag8 .u32 s, agw .u32 b] w fun e w' => e = .returned (ag8 .u32 (blk32 s b)) ∧ Below w.heap.size w w' := by
  have n0 : Below w.heap.size w (w.alloc (.cells #[.int .u32 s.a, .int .u32 s.b, .int .u32 s.c, .int .u32 s.d, .int .u32 s.e, .int .u32 s.f, .int .u32 s.g, .int .u32 s.h] 73)) := (Below.refl _ _).alloc (Nat.le_refl _) _
  have B0 := blk_ag8 w .u32 73 s
  have z0 : (w.alloc (.cells #[.int .u32 s.a, .int .u32 s.b, .int .u32 s.c, .int .u32 s.d, .int .u32 s.e, .int .u32 s.f, .int .u32 s.g, .int .u32 s.h] 73)).heap.size = w.heap.size + 1 := by simp
  simp only [ag8, agw]
  go_enter Tryz.func77, Tryz.ntmps77
  go_wp2_with fail
  generalize w.alloc (.cells #[.int .u32 s.a, .int .u32 s.b, .int .u32 s.c, .int .u32 s.d, .int .u32 s.e, .int .u32 s.f, .int .u32 s.g, .int .u32 s.h] 73) = wa at *
  have n1 : Below wa.heap.size wa (wa.alloc (.cells #[.int .u32 (b 0), .int .u32 (b 1), .int .u32 (b 2), .int .u32 (b 3), .int .u32 (b 4), .int .u32 (b 5), .int .u32 (b 6), .int .u32 (b 7), .int .u32 (b 8), .int .u32 (b 9), .int .u32 (b 10), .int .u32 (b 11), .int .u32 (b 12), .int .u32 (b 13), .int .u32 (b 14), .int .u32 (b 15)] 123)) := (Below.refl _ _).alloc (Nat.le_refl _) _
  have B1 := blk_agw wa .u32 123 b
  have z1 : (wa.alloc (.cells #[.int .u32 (b 0), .int .u32 (b 1), .int .u32 (b 2), .int .u32 (b 3), .int .u32 (b 4), .int .u32 (b 5), .int .u32 (b 6), .int .u32 (b 7), .int .u32 (b 8), .int .u32 (b 9), .int .u32 (b 10), .int .u32 (b 11), .int .u32 (b 12), .int .u32 (b 13), .int .u32 (b 14), .int .u32 (b 15)] 123)).heap.size = wa.heap.size + 1 := by simp
  generalize wa.alloc (.cells #[.int .u32 (b 0), .int .u32 (b 1), .int .u32 (b 2), .int .u32 (b 3), .int .u32 (b 4), .int .u32 (b 5), .int .u32 (b 6), .int .u32 (b 7), .int .u32 (b 8), .int .u32 (b 9), .int .u32 (b 10), .int .u32 (b 11), .int .u32 (b 12), .int .u32 (b 13), .int .u32 (b 14), .int .u32 (b 15)] 123) = wb at *
  have B0 := B0.up n1
  have N1 := nxt n0 n1
  rw [z0] at B1 z1
  clear n0 n1 z0
  have n2 : Below wb.heap.size wb (wb.alloc (.cells #[.int .u32 0, .int .u32 0, .int .u32 0, .int .u32 0, .int .u32 0, .int .u32 0, .int .u32 0, .int .u32 0] 73)) := (Below.refl _ _).alloc (Nat.le_refl _) _
  have B2 := blk_ag8 wb .u32 73 ⟨0, 0, 0, 0, 0, 0, 0, 0⟩
  have z2 : (wb.alloc (.cells #[.int .u32 0, .int .u32 0, .int .u32 0, .int .u32 0, .int .u32 0, .int .u32 0, .int .u32 0, .int .u32 0] 73)).heap.size = wb.heap.size + 1 := by simp
  simp only [] at B2
  generalize wb.alloc (.cells #[.int .u32 0, .int .u32 0, .int .u32 0, .int .u32 0, .int .u32 0, .int .u32 0, .int .u32 0, .int .u32 0] 73) = wc at *
  have B0 := B0.up n2
  have B1 := B1.up n2
  have N2 := nxt N1 n2
  rw [z1] at B2 z2
  clear n2 N1 z1
  have hT2 := hT.up N2
  obtain ⟨⟨c0, c1, c2, c3, c4, c5, c6, c7⟩, -⟩ := B0.f8
  go_quiet (fail)
  go_wp2_with fail
  refine (stepsOf_32 _).mono ?_
  rintro r wd ⟨rfl, rfl⟩
  have N2 := N2.trans (below_drewN (Below.refl _ _) nq)
  have B0 : Blk (wc.drewN nq) w.heap.size .u32 s.l := B0
  have B1 : Blk (wc.drewN nq) (w.heap.size + 1) .u32 (lsw b) := B1
  have B2 : Blk (wc.drewN nq) (w.heap.size + 1 + 1) .u32 (S8.l ⟨0, 0, 0, 0, 0, 0, 0, 0⟩) := B2
  have hT2 : HasT (wc.drewN nq) 1 kL := hT2
  have z2 : (wc.drewN nq).heap.size = w.heap.size + 1 + 1 + 1 := z2
  generalize wc.drewN nq = wd at *
  clear c0 c1 c2 c3 c4 c5 c6 c7
  have gl : 1 < w.heap.size := block_lt_of_cell (hT 0 (by decide))
  clear hT
  have R0 := Roll.first32 (b := b) (lsw_len b) (lsw_get b)
  go_wp2_with fail
  go_loopw [5, 6, 7, 8, 9, 10, 11, 12, 33] (fun va vb vc vd ve vf vg vh i wr => ∃ (n : Nat) (r : S8) (ys : List Int), n ≤ 64 ∧ i = .int .i64 n ∧ va = .int .u32 r.a ∧ vb = .int .u32 r.b ∧ vc = .int .u32 r.c ∧ vd = .int .u32 r.d ∧ ve = .int .u32 r.e ∧ vf = .int .u32 r.f ∧ vg = .int .u32 r.g ∧ vh = .int .u32 r.h ∧ Hid (r = rnds32 K32 (wS32 b) n s) ∧ Roll32 b ys (max n 16) ∧ Blk wr (w.heap.size + 1) .u32 ys ∧ Blk wr w.heap.size .u32 s.l ∧ Blk wr (w.heap.size + 1 + 1) .u32 (S8.l ⟨0, 0, 0, 0, 0, 0, 0, 0⟩) ∧ HasT wr 1 kL ∧ Below w.heap.size w wr) (fun _ _ _ _ _ _ _ _ i _ => 64 - (intOf i).toNat)
  case atStart => exact ⟨0, s, lsw b, Nat.zero_le _, rfl, rfl, rfl, rfl, rfl, rfl, rfl, rfl, rfl, rfl, R0, B1, B0, B2, hT2, N2⟩
  case round =>
    obtain ⟨n, r, ys, hn, rfl, rfl, rfl, rfl, rfl, rfl, rfl, rfl, rfl, hr, hR, hB1, hB0, hB2, hT, hN⟩ := hrel
    clear B0 B1 B2 hT2 N2 R0 z2
    by_cases hlt : n < 64
    · have ok : Ok32 r := by rw [hr.out]; exact rnds_ok32 hs n
      obtain ⟨oa, ob, oc, od, oe, of, og, oh⟩ := ok
      have hr' : Hid (stp32 (K32 n) (wS32 b n) r = rnds32 K32 (wS32 b) (n + 1) s) := by show _ = _; rw [hr.out]; rfl
      have G1 := fun w => hide (greatMix1_32 w r.e oe)
      have G0 := fun w => hide (greatMix0_32 w r.a oa)
      have CH := fun w => hide (choice_32 w r.e r.f r.g oe of og)
      have MJ := fun w => hide (majority_32 w r.a r.b r.c oa ob oc)
      have kl := kL_lt ⟨n, by omega⟩
      have UB : ∀ w, Hid (Calls Tryz.prog 74 #[.int .u64 (kL.getD n 0)] w fun e w' => e = .returned (.int .u32 (K32 n)) ∧ w' = w) := fun w => upperBits_32 w (kL.getD n 0) kl.1 kl.2
      have wd := wS_wd32 hb n
      have kd := K_wd32 n hlt
      clear hr kl
      by_cases h16 : 16 ≤ n
      · have hR' := Roll.step32 (i := n) (by rw [Nat.max_eq_left h16] at hR; exact hR) h16
        have y2 := hR.2 (n - 2) (by omega) (by omega)
        have y15 := hR.2 (n - 15) (by omega) (by omega)
        have EX := extend_32 wr (w.heap.size + 1) n (n % 16) ((n - 2) % 16) ((n - 7) % 16) ((n - 15) % 16) (ys.getD (n % 16) 0) (ys.getD ((n - 2) % 16) 0) (ys.getD ((n - 7) % 16) 0) (ys.getD ((n - 15) % 16) 0)
          (by rw [IntKind.wrap_i64]; omega) (by rw [IntKind.wrap_i64]; omega) (by rw [IntKind.wrap_i64]; omega) (by have := tm16 n 0 (by omega); simpa using this) (tm16 n 2 (by omega)) (tm16 n 7 (by omega)) (tm16 n 15 (by omega)) (by omega) (by omega) (by omega) (by omega) (by rw [y2]; exact wS_wd32 hb _) (by rw [y15]; exact wS_wd32 hb _)
          (fun W h => (hB1.up h).cell (by rw [hR.1]; omega)) (fun W h => (hB1.up h).cell (by rw [hR.1]; omega)) (fun W h => (hB1.up h).cell (by rw [hR.1]; omega)) (fun W h => (hB1.up h).cell (by rw [hR.1]; omega)) (fun W h => (hB1.up h).free _)
        generalize extv32 (ys.getD (n % 16) 0) (ys.getD ((n - 2) % 16) 0) (ys.getD ((n - 7) % 16) 0) (ys.getD ((n - 15) % 16) 0) = ev at *
        have EXH := hide EX
        have h16' : decide ((16 : Int) ≤ (n : Int)) = true := by simp; omega
        clear EX y2 y15 hb
        go_wp2_with fail
        refine EXH.out.mono ?_
        rintro x wx ⟨rfl, w1, nb, rfl⟩
        have hl := hB1.lt
        have B1 := (hB1.up nb).store (n % 16) ev
        have B0 := (hB0.up nb).of_block (w' := w1.setCell ⟨w.heap.size + 1, n % 16, none⟩ (.int .u32 ev)) (heap_setCell_other _ ⟨w.heap.size + 1, n % 16, none⟩ _ _ (by show w.heap.size ≠ w.heap.size + 1; omega))
        have B2 := (hB2.up nb).of_block (w' := w1.setCell ⟨w.heap.size + 1, n % 16, none⟩ (.int .u32 ev)) (heap_setCell_other _ ⟨w.heap.size + 1, n % 16, none⟩ _ _ (by show w.heap.size + 1 + 1 ≠ w.heap.size + 1; omega))
        have N : Below w.heap.size w (w1.setCell ⟨w.heap.size + 1, n % 16, none⟩ (.int .u32 ev)) := (nxt hN nb).setCell (by show w.heap.size ≤ w.heap.size + 1; omega) _
        have T1 := (hT.up nb).of_block (w' := w1.setCell ⟨w.heap.size + 1, n % 16, none⟩ (.int .u32 ev)) (heap_setCell_other _ ⟨w.heap.size + 1, n % 16, none⟩ _ _ (by show 1 ≠ w.heap.size + 1; omega))
        generalize w1.setCell ⟨w.heap.size + 1, n % 16, none⟩ (.int .u32 ev) = wt at *
        have RR : Roll32 b (ys.set (n % 16) ev) (max (n + 1) 16) := by rw [Nat.max_eq_left (by omega)]; exact hR'
        generalize ys.set (n % 16) ev = ys' at *
        clear EXH hR hR' hB1 hB0 hB2 hT hN nb h16'
        have cb := B1.cell (i := n % 16) (by rw [RR.1]; omega)
        rw [RR.2 n (by omega) (by omega)] at cb
        have ck := T1 n (by show n < 80; omega)
        have p1 : (n : Int) % 16 = ((n % 16 : Nat) : Int) := by omega
        have p2 : ((n % 16 : Nat) : Int) < 16 := by omega
        have p3 : (n : Int) < 80 := by omega
        generalize n % 16 = p at cb p1 p2
        clear h16
        go_wp2_with fail
        go_quiet ((first | (go_at_call 88; exact Calls.quiet_of (G1 _).out) | (go_at_call 89; exact Calls.quiet_of_same (CH _).out) | (go_at_call 74; exact Calls.quiet_of_same (UB _).out)))
        obtain ⟨t, ht⟩ : ∃ t, t = tS32 (K32 n) (wS32 b n) r := ⟨_, rfl⟩
        go_wp2_with fail
        have tv : ((r.h + gg132 r.e + ch32 r.e r.f r.g + K32 n) % 4294967296 + wS32 b n) % 4294967296 = t := by rw [ht]; unfold tS32; omega
        rw [tv]
        have HT := hide ht
        clear tv ht cb ck p1 p2 p3 G1 CH UB kd wd
        refine (G0 _).out.mono ?_
        rintro x wx ⟨rfl, m1, rfl⟩
        go_wp2_with fail
        refine (MJ _).out.mono ?_
        rintro x wx ⟨rfl, rfl⟩
        go_wp2
        go_roundw
        case rel => exact ⟨n + 1, stp32 (K32 n) (wS32 b n) r, ys', by omega, by go_num, by congr 1; show _ = (tS32 (K32 n) (wS32 b n) r + uS32 r) % 4294967296; rw [← HT.out]; unfold uS32; omega, rfl, rfl, rfl, by congr 1; show _ = (r.d + tS32 (K32 n) (wS32 b n) r) % 4294967296; rw [← HT.out], rfl, rfl, rfl, hr', RR, B1, B0, B2, T1, below_drewN N _⟩
        case measure => simp [intOf]; omega
      · have RR : Roll32 b ys (max (n + 1) 16) := by rw [Nat.max_eq_right (by omega)]; rw [Nat.max_eq_right (by omega)] at hR; exact hR
        have h16' : decide ((16 : Int) ≤ (n : Int)) = false := by simp; omega
        have B1 := hB1
        have B0 := hB0
        have B2 := hB2
        have T1 := hT
        have N := hN
        clear hR hB1 hB0 hB2 hT hN hb
        generalize ys = ys' at *
        generalize wr = wt at *
        have cb := B1.cell (i := n % 16) (by rw [RR.1]; omega)
        rw [RR.2 n (by omega) (by omega)] at cb
        have ck := T1 n (by show n < 80; omega)
        have p1 : (n : Int) % 16 = ((n % 16 : Nat) : Int) := by omega
        have p2 : ((n % 16 : Nat) : Int) < 16 := by omega
        have p3 : (n : Int) < 80 := by omega
        generalize n % 16 = p at cb p1 p2
        clear h16
        go_wp2_with fail
        go_quiet ((first | (go_at_call 88; exact Calls.quiet_of (G1 _).out) | (go_at_call 89; exact Calls.quiet_of_same (CH _).out) | (go_at_call 74; exact Calls.quiet_of_same (UB _).out)))
        obtain ⟨t, ht⟩ : ∃ t, t = tS32 (K32 n) (wS32 b n) r := ⟨_, rfl⟩
        go_wp2_with fail
        have tv : ((r.h + gg132 r.e + ch32 r.e r.f r.g + K32 n) % 4294967296 + wS32 b n) % 4294967296 = t := by rw [ht]; unfold tS32; omega
        rw [tv]
        have HT := hide ht
        clear tv ht cb ck p1 p2 p3 G1 CH UB kd wd
        refine (G0 _).out.mono ?_
        rintro x wx ⟨rfl, m1, rfl⟩
        go_wp2_with fail
        refine (MJ _).out.mono ?_
        rintro x wx ⟨rfl, rfl⟩
        go_wp2
        go_roundw
        case rel => exact ⟨n + 1, stp32 (K32 n) (wS32 b n) r, ys', by omega, by go_num, by congr 1; show _ = (tS32 (K32 n) (wS32 b n) r + uS32 r) % 4294967296; rw [← HT.out]; unfold uS32; omega, rfl, rfl, rfl, by congr 1; show _ = (r.d + tS32 (K32 n) (wS32 b n) r) % 4294967296; rw [← HT.out], rfl, rfl, rfl, hr', RR, B1, B0, B2, T1, below_drewN N _⟩
        case measure => simp [intOf]; omega
    · obtain rfl : n = 64 := by omega
      have K : Hid (blk32 s b = add32 s r) := by show _ = _; rw [hr.out]; rfl
      obtain ⟨⟨c0, c1, c2, c3, c4, c5, c6, c7⟩, -⟩ := hB0.f8
      obtain ⟨⟨d0, d1, d2, d3, d4, d5, d6, d7⟩, ⟨f0, f1, f2, f3, f4, f5, f6, f7⟩⟩ := hB2.f8
      clear hr hR hB1 hB0 hB2 hT
      go_wp2
      refine bodyPost_ret (v := ag8 .u32 (add32 s r)) (by simp [ag8, add32, results,  Tryz.results77, go_sem, d0, d1, d2, d3, d4, d5, d6, d7]) rfl ⟨by rw [K.out]; rfl, ?_⟩
      exact below_set8 hN (by omega) _ _ _ _ _ _ _ _
end Go.Proofs.YtmfajpplagbfcaaGreatDoor
namespace Go.Proofs.YtmfajpplagbfcaaGreatDoor
set_option maxRecDepth 100000
open Go Go.RowKit
set_option maxHeartbeats 4000000 in
theorem fillWords_32 (w : World) (q off n cw : Nat) (hZ : Seg w q off .u32 (List.replicate n 0)) (g : Nat) (a : Option Addr) (c : Nat) (xs : List Int) (hr : Rd w g a .u8 xs) (hb : Byt xs) (hl : xs.length = 4 * n) (h0 : 0 < n) (hn : n ≤ 16) (hg : g ≠ q) :
    Calls Tryz.prog 92 #[.slice (some ⟨q, off, none⟩) n cw, .slice a xs.length c] w fun e w' => e = .returned (.tuple #[]) ∧ ∃ ys, (ys.length = n ∧ ∀ j, j < n → ys.getD j 0 = wd 4 xs j) ∧ Seg w' q off .u32 ys ∧ SegX q off n w w' := by
  obtain ⟨o2, rfl, hc⟩ := hr (by omega)
  rw [hl]
  have HL := hide hl
  clear hl
  go_enter Tryz.func92, Tryz.ntmps92
  go_wp2_with fail
  refine (wordSize_32 w).mono ?_
  rintro r w1 ⟨rfl, rfl⟩
  go_wp2
  go_loopw [10] (fun i wr => ∃ (j : Nat) (ys : List Int), j ≤ 4 * n ∧ i = .int .i64 j ∧ FilW 4 xs n ys j ∧ Seg wr q off .u32 ys ∧ SegX q off n w1 wr) (fun i _ => 4 * n - (intOf i).toNat)
  case atStart => exact ⟨0, _, Nat.zero_le _, rfl, FilW.zero 4 xs n, hZ, SegX.refl _ _ _ _⟩
  case round =>
    obtain ⟨j, ys, hj, rfl, hF, hS, hX⟩ := hrel
    by_cases hlt : j < 4 * n
    · have cx : wr.cell? ⟨g, o2 + j, none⟩ = some (.int .u8 (xs.getD j 0)) := by
        rw [World.cell?_of_block (a := ⟨g, o2 + j, none⟩) (hX.only.block g hg)]
        exact hc j (by rw [HL.out]; exact hlt)
      have hp : j / 4 < n := by omega
      have R := hF.step (by decide)
      have hh := hF.here hp
      have hs := hS (j / 4) (by rw [hF.1]; exact hp)
      rw [hh] at hs
      have xb := hb j
      have bl := bw_lt (z := 4) hb (j / 4) (j % 4)
      have bl2 : bw 4 xs (j / 4) (j % 4) < 16777216 := by
        have : (256 : Int) ^ (j % 4) ≤ 256 ^ (4 - 1) := p256_leh (by omega)
        have e : (256 : Int) ^ (4 - 1) = 16777216 := by decide
        omega
      have ov := orb32 (bw 4 xs (j / 4) (j % 4)) (xs.getD j 0) bl.1 bl2 xb.1 xb.2
      have S' := hS.store (j / 4) (by rw [hF.1]; exact hp) (bw 4 xs (j / 4) (j % 4) * 256 + xs.getD j 0)
      have X' := hX.trans (SegX.set wr q off n (j / 4) hp (.int .u32 (bw 4 xs (j / 4) (j % 4) * 256 + xs.getD j 0)))
      obtain ⟨h1, h2⟩ := hs
      have d1 : (j : Int) / 4 = ((j / 4 : Nat) : Int) := by omega
      have d2 : ((j / 4 : Nat) : Int) < (n : Int) := by omega
      have d3 : (j : Int) < 4 * (n : Int) := by omega
      clear hF hS hX hh bl hp
      generalize j / 4 = p at *
      generalize bw 4 xs p (j % 4) = bv at *
      generalize xs.getD j 0 = x at *
      obtain ⟨x0, x1⟩ := xb
      go_wp2_with fail
      go_region
      go_wp2
      go_roundw
      case rel => exact ⟨j + 1, _, by omega, by go_num, R, S', X'.drew⟩
      case measure => simp [intOf]; omega
    · obtain rfl : j = 4 * n := by omega
      have K := hide (hF.all (by decide))
      clear hF
      go_wp2
      exact bodyPost_end (v := .tuple #[]) (by simp [results, Tryz.results92, go_sem]) rfl ⟨rfl, ys, K.out, hS, hX⟩
theorem info16_32 : (Tryz.prog.info? 123).map (·.size) = some 16 := by kernel_rfl
theorem und16_32 : Tryz.prog.underlying 123 = some (.array 16 71) := by kernel_rfl
set_option maxHeartbeats 4000000 in
theorem readBlock_32 (w : World) (g : Nat) (a : Option Addr) (c : Nat) (xs : List Int) (hr : Rd w g a .u8 xs) (hb : Byt xs) (hl : xs.length = 64) :
    Calls Tryz.prog 78 #[.slice a 64 c] w fun e w' => e = .returned (agw .u32 (wd 4 xs)) ∧ Below w.heap.size w w' := by
  have n0 : Below w.heap.size w (w.alloc (.cells #[.int .u32 0, .int .u32 0, .int .u32 0, .int .u32 0, .int .u32 0, .int .u32 0, .int .u32 0, .int .u32 0, .int .u32 0, .int .u32 0, .int .u32 0, .int .u32 0, .int .u32 0, .int .u32 0, .int .u32 0, .int .u32 0] 123)) := (Below.refl _ _).alloc (Nat.le_refl _) _
  have B0 := blk_agw w .u32 123 (fun _ => 0)
  have z0 : (w.alloc (.cells #[.int .u32 0, .int .u32 0, .int .u32 0, .int .u32 0, .int .u32 0, .int .u32 0, .int .u32 0, .int .u32 0, .int .u32 0, .int .u32 0, .int .u32 0, .int .u32 0, .int .u32 0, .int .u32 0, .int .u32 0, .int .u32 0] 123)).heap.size = w.heap.size + 1 := by simp
  have gl := hr.lt (by omega)
  have HL := hide hl
  go_enter Tryz.func78, Tryz.ntmps78
  go_wp2_with fail
  generalize w.alloc (.cells #[.int .u32 0, .int .u32 0, .int .u32 0, .int .u32 0, .int .u32 0, .int .u32 0, .int .u32 0, .int .u32 0, .int .u32 0, .int .u32 0, .int .u32 0, .int .u32 0, .int .u32 0, .int .u32 0, .int .u32 0, .int .u32 0] 123) = wa at *
  have n1 : Below wa.heap.size wa (wa.alloc (.cells #[.int .u32 0, .int .u32 0, .int .u32 0, .int .u32 0, .int .u32 0, .int .u32 0, .int .u32 0, .int .u32 0, .int .u32 0, .int .u32 0, .int .u32 0, .int .u32 0, .int .u32 0, .int .u32 0, .int .u32 0, .int .u32 0] 123)) := (Below.refl _ _).alloc (Nat.le_refl _) _
  have B1 := blk_agw wa .u32 123 (fun _ => 0)
  have z1 : (wa.alloc (.cells #[.int .u32 0, .int .u32 0, .int .u32 0, .int .u32 0, .int .u32 0, .int .u32 0, .int .u32 0, .int .u32 0, .int .u32 0, .int .u32 0, .int .u32 0, .int .u32 0, .int .u32 0, .int .u32 0, .int .u32 0, .int .u32 0] 123)).heap.size = wa.heap.size + 1 := by simp
  generalize wa.alloc (.cells #[.int .u32 0, .int .u32 0, .int .u32 0, .int .u32 0, .int .u32 0, .int .u32 0, .int .u32 0, .int .u32 0, .int .u32 0, .int .u32 0, .int .u32 0, .int .u32 0, .int .u32 0, .int .u32 0, .int .u32 0, .int .u32 0] 123) = wb at *
  rw [z0] at B1 z1
  have B0 := B0.up n1
  have N1 := nxt n0 n1
  have FW := fillWords_32 wb (w.heap.size + 1) 0 16 16 (Seg.blk B1) g a c xs (hr.up N1) hb HL.out (by decide) (by decide) (by omega)
  rw [HL.out] at FW
  clear n0 n1 hl hr
  have FH := hide FW
  clear FW
  refine FH.out.mono ?_
  rintro r w2 ⟨rfl, ys, ⟨yl, yv⟩, S2, X2⟩
  obtain rfl : ys = lsw (wd 4 xs) := eq_of_getD (by rw [yl, lsw_len]) (fun i hi => by rw [yl] at hi; rw [yv i hi, lsw_get _ _ hi])
  have B0 := B0.of_block (X2.only.block w.heap.size (by omega))
  have N2 : Below w.heap.size w w2 := N1.trans (X2.only.below (by omega))
  have RG := S2.range
  obtain ⟨t0, H0⟩ := B0
  have SR := setRow_heap w2 w.heap.size _ ((lsw (wd 4 xs)).map (Value.int .u32)).toArray _ _ H0
  have SN : Below w.heap.size w (w2.setRow w.heap.size ((lsw (wd 4 xs)).map (Value.int .u32)).toArray) := N2.trans ⟨rfl, rfl, rfl, by simp, fun i hi => setRow_other w2 _ i _ (by omega)⟩
  have V : Hid (agw .u32 (wd 4 xs) = .agg ((lsw (wd 4 xs)).map (Value.int .u32)).toArray) := rfl
  have L : Hid (((lsw (wd 4 xs)).map (Value.int .u32)).length = 16) := by show _ = _; rw [List.length_map]; rfl
  have O := one_ints .u32 (lsw (wd 4 xs))
  generalize (lsw (wd 4 xs)).map (Value.int .u32) = vs at *
  clear FH X2 S2 yl yv N1 N2 B1
  go_wp2_with (first
    | (refine wpList_load_mid rfl 123 (.tmp 3) rfl (w.heap.size + 1) 0 rfl vs (.array 16 71) RG und16_32 rfl (by rw [L.out]; exact info16_32) ?_)
    | (refine wpList_store_row rfl 123 (.tmp 2) (.tmp 7) rfl w.heap.size vs.toArray rfl rfl t0 _ H0 (by rw [List.size_toArray, L.out]; exact info16_32) (by rw [List.size_toArray, List.size_toArray, L.out]; rfl) O ?_))
  exact bodyPost_ret (v := .agg vs.toArray) (results_cell_row Tryz.results78 _ _ w.heap.size t0 vs.toArray (0, 0) (.array 16 71) rfl SR und16_32 rfl (by rw [List.size_toArray, L.out]; exact info16_32)) rfl ⟨by rw [V.out], SN⟩
set_option maxHeartbeats 4000000 in
theorem bytes_32 (w : World) (s : S8) (hs : Ok32 s) :
    Calls Tryz.prog 80 #[ag8 .u32 s] w fun e w' => NewRow w.heap.size w' e .u8 (tell32 s) ∧ Below w.heap.size w w' := by
  obtain ⟨i0, hi, hz0, hz1, hz2⟩ := info_parts Tryz.info5
  have n0 : Below w.heap.size w (w.alloc (.cells #[.int .u32 s.a, .int .u32 s.b, .int .u32 s.c, .int .u32 s.d, .int .u32 s.e, .int .u32 s.f, .int .u32 s.g, .int .u32 s.h] 73)) := (Below.refl _ _).alloc (Nat.le_refl _) _
  have B0 := blk_ag8 w .u32 73 s
  have z0 : (w.alloc (.cells #[.int .u32 s.a, .int .u32 s.b, .int .u32 s.c, .int .u32 s.d, .int .u32 s.e, .int .u32 s.f, .int .u32 s.g, .int .u32 s.h] 73)).heap.size = w.heap.size + 1 := by simp
  have TL := hide (tell_len32 s)
  have TG := fun i h => hide (tell_get32 s i h)
  have SW : ∀ p, p < 8 → Wd32 (s.l.getD p 0) := by
    obtain ⟨h1, h2, h3, h4, h5, h6, h7, h8⟩ := hs
    intro p hp
    obtain rfl | rfl | rfl | rfl | rfl | rfl | rfl | rfl : p = 0 ∨ p = 1 ∨ p = 2 ∨ p = 3 ∨ p = 4 ∨ p = 5 ∨ p = 6 ∨ p = 7 := by omega
    all_goals assumption
  simp only [ag8]
  go_enter Tryz.func80, Tryz.ntmps80
  go_wp2_with fail
  generalize w.alloc (.cells #[.int .u32 s.a, .int .u32 s.b, .int .u32 s.c, .int .u32 s.d, .int .u32 s.e, .int .u32 s.f, .int .u32 s.g, .int .u32 s.h] 73) = wa at *
  refine (wordSize_32 wa).mono ?_
  rintro r wa' ⟨rfl, rfl⟩
  go_wp2_with (at_make; refine wpList_make_full _ rfl _ _ 22 rfl wa'.heap.size 5 i0 (.int .u8 0) 1 Tryz.underlying22 hi hz0 hz1 .i64 .i64 _ _ 32 rfl rfl rfl rfl (by rw [hz2]; decide) (by unfold maxLen; decide) (Nat.le_refl _) ?_; intro w5 hown hgrow)
  have hB0 := Blk.of_made hown
  have hN0 : Below wa'.heap.size wa' w5 := (Below.refl _ _).grown hgrow (Nat.le_refl _) (by simp)
  have B0 := B0.up hN0
  have N := nxt n0 hN0
  rw [z0] at hB0
  have CP : CopyTo (tell32 s) (List.replicate 32 0) 0 := ⟨by rw [TL.out]; simp, fun j h => absurd h (by omega)⟩
  clear hown hgrow hN0 n0
  go_loopw [12] (fun i wr => ∃ (j : Nat) (ys : List Int), j ≤ 32 ∧ i = .int .i64 j ∧ CopyTo (tell32 s) ys j ∧ Blk wr (w.heap.size + 1) .u8 ys ∧ Blk wr w.heap.size .u32 s.l ∧ Below w.heap.size w wr) (fun i _ => 32 - (intOf i).toNat)
  case atStart => exact ⟨0, _, Nat.zero_le _, rfl, CP, hB0, B0, N⟩
  case round =>
    obtain ⟨j, ys, hj, rfl, hC, hY, hS, hN⟩ := hrel
    clear CP hB0 B0 N
    by_cases hlt : j < 32
    · have R := hC.step (by rw [TL.out]; exact hlt)
      have tg := (TG j hlt).out
      have yl : ys.length = 32 := hC.1.trans TL.out
      have cs := hS.cell (i := j / 4) (by rw [S8.l_len]; omega)
      have cy := hY.cell (i := j) (by omega)
      have fy := hY.free j
      have sw := SW (j / 4) (by omega)
      have Y' := hY.store j ((tell32 s).getD j 0)
      have S' := hS.of_block (w' := wr.setCell ⟨w.heap.size + 1, j, none⟩ (.int .u8 ((tell32 s).getD j 0))) (heap_setCell_other _ ⟨w.heap.size + 1, j, none⟩ _ _ (by show w.heap.size ≠ w.heap.size + 1; omega))
      have N' : Below w.heap.size w (wr.setCell ⟨w.heap.size + 1, j, none⟩ (.int .u8 ((tell32 s).getD j 0))) := hN.setCell (by show w.heap.size ≤ w.heap.size + 1; omega) _
      rw [tg] at R Y' S' N'
      have d1 : (j : Int) / 4 = ((j / 4 : Nat) : Int) := by omega
      have d2 : ((j / 4 : Nat) : Int) < 8 := by omega
      have d3 : (j : Int) % 4 = ((j % 4 : Nat) : Int) := by omega
      have d4 : (3 : Int) - ((j % 4 : Nat) : Int) = ((4 - 1 - j % 4 : Nat) : Int) := by omega
      have d5 : 4 - 1 - j % 4 ≤ 3 := by omega
      have d6 : (j : Int) < 32 := by omega
      generalize ys.getD j 0 = y0 at *
      generalize j / 4 = p at *
      generalize s.l.getD p 0 = v at *
      generalize 4 - 1 - j % 4 = sh at *
      generalize j % 4 = rm at *
      obtain ⟨v0, v1⟩ := sw
      clear hC hY hS hN tg TG SW yl
      go_wp2_with fail
      go_region
      go_wp2
      go_roundw
      case rel => exact ⟨j + 1, _, by omega, by go_num, R, Y'.drew, S'.drew, N'.drew⟩
      case measure => simp [intOf]; omega
    · obtain rfl : j = 32 := by omega
      have K := hide (show ys = tell32 s from CopyTo.all (by rw [TL.out]; exact hC))
      clear hC
      go_wp2
      go_ret
      refine ⟨⟨_, 32, w.heap.size + 1, by rw [TL.out]; rfl, ?_, by simp, by rw [TL.out]; exact Nat.le_refl _, by omega⟩, hN⟩
      rw [← K.out]
      exact hY.own0
end Go.Proofs.YtmfajpplagbfcaaGreatDoor
