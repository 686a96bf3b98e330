
/-
  The cursor's takeList.
-/
import Derived.Test.YtdgbioekofmekaaCuL
import Derived.Test.YtdgbioekofmekaaBtA
import Derived.Deep.RegionHeld3
import Derived.Deep.DeepCutAuto
namespace Go.Proofs.Ytdgbioekofmekaa
open Go Go.RowKit

/-- Of the blocks that were there none but p has turned. -/
structure Kp (p : Nat) (w w' : World) : Prop where
  os : w'.os = w.os
  tape : w'.tape = w.tape
  output : w'.output = w.output
  size : w.heap.size ≤ w'.heap.size
  block : ∀ k, k < w.heap.size → k ≠ p → w'.heap[k]? = w.heap[k]?
theorem Kp.refl (p : Nat) (w : World) : Kp p w w := ⟨rfl, rfl, rfl, Nat.le_refl _, fun _ _ _ => rfl⟩
theorem Kp.trans {p : Nat} {a b c : World} (h : Kp p a b) (k : Kp p b c) : Kp p a c :=
  ⟨k.os.trans h.os, k.tape.trans h.tape, k.output.trans h.output, Nat.le_trans h.size k.size, fun i hi hp => (k.block i (by have := h.size; omega) hp).trans (h.block i hi hp)⟩
theorem Only.kp {p : Nat} {w w' : World} (h : Only p w w') : Kp p w w' := ⟨h.os, h.tape, h.output, Nat.le_of_eq h.size.symm, fun k _ hp => h.block k hp⟩
theorem below_kp {p : Nat} {w w' : World} (h : Below w.heap.size w w') : Kp p w w' := ⟨h.os, h.tape, h.output, h.size, fun k hk _ => h.block k hk⟩
theorem Kp.below {p B : Nat} {w w' : World} (h : Kp p w w') (hB : B ≤ p) (hs : B ≤ w.heap.size) : Below B w w' :=
  ⟨h.os, h.tape, h.output, h.size, fun k hk => h.block k (by omega) (by omega)⟩
theorem Rd.kp {w w' : World} {g q : Nat} {a : Option Addr} {k : IntKind} {xs : List Int} (h : Rd w g a k xs) (n : Kp q w w') (hne : 0 < xs.length → g ≠ q) : Rd w' g a k xs := by
  by_cases h0 : 0 < xs.length
  · exact h.of_block (n.block g (h.lt h0) (hne h0))
  · obtain rfl : xs = [] := List.eq_nil_of_length_eq_zero (by omega)
    exact Rd.nil _ _ _ _
theorem Tl.kp {w w' : World} {p q : Nat} {x y : Value} (h : Tl w p x y) (n : Kp q w w') (hne : p ≠ q) : Tl w' p x y := h.of_block (n.block p h.lt hne)
/-- A copy as one step of a drawn region. -/
theorem step_copy_ex {P : Program} {ops : Array Oper} {o : Oper} {a : Act} {w : World} {K : Act → World → Prop} {Q : Exit → Act → World → Prop} {E : Prop} (hg : o.guard = none) (s x : Operand) (t tn : TypeId)
    (ho : o.op = .call { callee := .builtin .copy, args := #[s, x], argTypes := #[t, tn] }) (vs vx : Value) (hs : a.eval s = vs) (hx : a.eval x = vx) (v' : Value) (w' : World)
    (H : (Builtin.copy_ #[t, tn] o.type #[vs, vx]).run P w = .ok v' w') (hK : K (a.put o.dst v') w') :
    if Region.wanted o (yielded ops a.tmps) = true then Oper.wp P o a w K Q else E := by
  have hw : Region.wanted o (yielded ops a.tmps) = true := by simp [Region.wanted, hg]
  rw [if_pos hw]
  unfold Oper.wp execOp
  simp only [ho, resolve, invoke, builtin, Sem.run_bind, Sem.run_pure, Result.andThen_ok, List.map_toArray, List.map_cons, List.map_nil, hs, hx, H]
  exact hK
theorem rowU8' : (Try.prog.info? 5).map (·.size) = some 1 := by kernel_rfl

/-- As much as there is room for is copied. -/
theorem copy_cut {P : Program} (w : World) (ty rt e : TypeId) (hu : P.underlying ty = some (.slice e)) (hsz : (P.info? e).map (·.size) = some 1) {g : Nat} {k : IntKind} {zs : List Int} (hB : Blk w g k zs)
    (gs : Nat) (sp : Option Addr) (ys : List Int) (hr : Rd w gs sp k ys) (hl : zs.length ≤ ys.length) (dc sc : Nat) :
    ∃ w2, (Builtin.copy_ #[ty, ty] rt #[.slice (some ⟨g, 0, none⟩) zs.length dc, .slice sp ys.length sc]).run P w = .ok (goInt zs.length) w2 ∧ Blk w2 g k (ys.take zs.length) ∧ Only g w w2 := by
  by_cases h0 : 0 < zs.length
  · obtain ⟨off, rfl, hc⟩ := hr (by omega)
    obtain ⟨t, hB⟩ := hB
    have hlt : (ys.take zs.length).length = zs.length := by rw [List.length_take]; omega
    have hrun := run_copy_row (P := P) w ty ty rt e g 0 zs.length dc ⟨gs, off, none⟩ ys.length sc _ t ((ys.take zs.length).map (Value.int k)) hu hsz hB (by rw [List.length_map, hlt]; exact (Nat.min_eq_right hl).symm)
      (fun j v hj => by
        have hjl : j < zs.length := by
          have := (List.getElem?_eq_some_iff.1 hj).1
          rw [List.length_map, hlt] at this
          exact this
        rw [add_mid, hc j (by omega)]
        rw [List.getElem?_map, List.getElem?_take, if_pos hjl] at hj
        rw [List.getD_eq_getElem?_getD]
        cases hy : ys[j]? with
        | none => rw [hy] at hj; simp at hj
        | some y => rw [hy] at hj; simpa using hj) (by rw [List.length_map, hlt]; simp) (oneCells _ _)
    rw [List.length_map, hlt] at hrun
    refine ⟨_, hrun, ⟨t, ?_⟩, ⟨rfl, rfl, rfl, by simp, fun i hi => setRow_other w g i _ hi⟩⟩
    rw [setRow_heap w g _ _ t _ hB]
    simp
  · obtain rfl : zs = [] := List.eq_nil_of_length_eq_zero (by omega)
    exact ⟨w, run_copy_none (P := P) w ty ty rt e _ _ _ _ _ _ hu hsz (by simp), by simpa using hB, Only.refl _ _⟩

end Go.Proofs.Ytdgbioekofmekaa
