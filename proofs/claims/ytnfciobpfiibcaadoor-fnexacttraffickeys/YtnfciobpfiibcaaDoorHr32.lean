
/-
  A hash state that is handed in is read (a good one).
-/
import Derived.Test.YtnfciobpfiibcaaDoorHq32
import Derived.Test.YtnfciobpfiibcaaDoorRgL
import Derived.Test.YtnfciobpfiibcaaDoorPdI
namespace Go.Proofs.YtnfciobpfiibcaaDoor
set_option maxRecDepth 100000
open Go Go.RowKit

structure C3 (w : World) (p : Nat) (x y z : Value) : Prop where
  c0 : w.cell? ⟨p, 0, none⟩ = some x
  c1 : w.cell? ⟨p, 1, none⟩ = some y
  c2 : w.cell? ⟨p, 2, none⟩ = some z
theorem C3.lt {w : World} {p : Nat} {x y z : Value} (h : C3 w p x y z) : p < w.heap.size := block_lt_of_cell h.c0
theorem C3.of_block {w w' : World} {p : Nat} {x y z : Value} (h : C3 w p x y z) (hb : w'.heap[p]? = w.heap[p]?) : C3 w' p x y z :=
  ⟨(World.cell?_of_block (a := ⟨p, 0, none⟩) hb).trans h.c0, (World.cell?_of_block (a := ⟨p, 1, none⟩) hb).trans h.c1, (World.cell?_of_block (a := ⟨p, 2, none⟩) hb).trans h.c2⟩
theorem C3.up {w w' : World} {p : Nat} {x y z : Value} (h : C3 w p x y z) (n : Below w.heap.size w w') : C3 w' p x y z := h.of_block (n.block p h.lt)
theorem C3.new (w : World) (x y z : Value) (t : TypeId) : C3 (w.alloc (.cells #[x, y, z] t)) w.heap.size x y z :=
  ⟨by simp [World.cell?_alloc_at], by simp [World.cell?_alloc_at], by simp [World.cell?_alloc_at]⟩
theorem results_two {P : Program} {fn : Func} {p t : Tmp} {ty : TypeId} (h : fn.results = #[.cell p ty, .tmp t]) (tmps : Array Value) (w : World) (g : Nat) (cs : List Value) (d : TypeDesc) (v : Value)
    (hp : tmps.getD p undef = .pointer (some ⟨g, 0, none⟩)) (ht : tmps.getD t undef = v) (hc : w.rangeAt g 0 cs) (hu : P.underlying ty = some d) (hd : d.isRow = true) (hi : (P.info? ty).map (·.size) = some cs.length) :
    (results fn tmps).run P w = .ok (.tuple #[.agg cs.toArray, v]) w := by
  have hp' : tmps[p]?.getD undef = .pointer (some ⟨g, 0, none⟩) := by simpa using hp
  have ht' : tmps[t]?.getD undef = v := by simpa using ht
  simp [results, h, hp', ht', asAddr, run_loadVar_mid w g 0 ty cs d hc hu hd hi]
/-- A list that may be nil is copied over a row of bytes. -/
theorem copy_rest (w : World) (q : Nat) (L : Int) (C : S8) (g : Nat) (a : Option Addr) (c : Nat) (R : List Int) (H : HB .u32 w q L C (List.replicate 128 0)) (hr : Rd w g a .u8 R) (hl : R.length ≤ 128) (hc : a = none → c = 0) :
    ∃ w', (Builtin.copy_ #[22, 22] 3 #[.slice (some ⟨q, 9, none⟩) 128 128, .slice a R.length c]).run Tryd.prog w = .ok (.int .i64 (R.length : Int)) w' ∧ HB .u32 w' q L C (R ++ List.replicate (128 - R.length) 0) ∧ Only q w w' := by
  have e : lay (List.replicate 128 0) 0 R = R ++ List.replicate (128 - R.length) 0 := by
    unfold lay
    rw [List.take_zero, List.nil_append, Nat.zero_add, List.drop_replicate]
  cases a with
  | none =>
    obtain rfl : R = [] := by
      by_cases h0 : 0 < R.length
      · obtain ⟨off, h, _⟩ := hr h0
        simp at h
      · exact List.eq_nil_of_length_eq_zero (by omega)
    obtain rfl := hc rfl
    exact ⟨w, by first | kernel_rfl | go_simp, H, Only.refl _ _⟩
  | some x =>
    have hrun := run_copy_cells (P := Tryd.prog) w 22 22 3 5 q 9 128 128 x R.length c (R.map (Value.int .u8)) und22h s5 (by rw [List.length_map]; exact (Nat.min_eq_left hl).symm)
      (fun j v hj => by
        have hjl : j < R.length := by have := (List.getElem?_eq_some_iff.1 hj).1; simpa using this
        obtain ⟨o', e', hcc'⟩ := hr (by omega)
        simp only [Option.some.injEq] at e'
        subst e'
        rw [Addr.add_mid, hcc' j hjl]
        simpa [hjl] using hj)
      (fun j hj => by
        rw [List.length_map] at hj
        have := H.rs j (by rw [H.len]; omega)
        rw [this.1]; rfl)
      (fun j hj => by
        rw [List.length_map] at hj
        exact (H.rs j (by rw [H.len]; omega)).2)
      (fun v hv => by obtain ⟨x, _, rfl⟩ := List.mem_map.1 hv; rfl)
    rw [List.length_map] at hrun
    have H3 := H.setR 0 R (by omega)
    rw [e] at H3
    exact ⟨_, hrun, H3, only_setCells w q _ 9⟩
end Go.Proofs.YtnfciobpfiibcaaDoor
