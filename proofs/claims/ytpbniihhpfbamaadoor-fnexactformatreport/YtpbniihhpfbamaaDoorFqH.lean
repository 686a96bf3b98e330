
/-
  A byte into a builder; the text of an iterator's lines (the numbers are seat 20r's own).
-/
import Derived.Test.YtpbniihhpfbamaaDoorFqG
import Derived.Test.YtpbniihhpfbamaaDoorFqY
namespace Go.Proofs.YtpbniihhpfbamaaDoor
set_option maxRecDepth 100000
open Go Go.RowKit Go.Shelf

set_option maxRecDepth 100000 in
theorem writeLf_any (w : World) (B b : Nat) (l : List UInt8) (h : Lib.IsBuilder 85 5 B b (Lib.byteCells l) w) (hB : B ≤ w.heap.size) (hl : l.length + 1 ≤ 140737488355328) :
    Calls Tryd.prog 37 #[.pointer (some ⟨b, 0, none⟩), .int .u8 10] w fun e w' => (∃ v, e = .returned v) ∧ Lib.IsBuilder 85 5 B b (Lib.byteCells (l ++ [10])) w' ∧ ChS (BdS b) w w' := by
  obtain ⟨i0, hi, hz0, hz1, hz2⟩ := info_parts Tryd.info5
  have CC := hide (copyChk w B b _ h)
  clear h
  go_enter Tryd.func37, Tryd.ntmps37
  go_wp2_with (go_at_call 56; refine CC.out.mono ?_)
  rintro e w1 ⟨rfl, v, C⟩
  have hlt : b < w1.heap.size := (Array.getElem?_eq_some_iff.1 C.hp).1
  have ol : w1.ownsRow B 5 1 v l.length (Lib.byteCells l) := by
    have := C.own
    rwa [show (Lib.byteCells l).length = l.length by simp [Lib.byteCells]] at this
  have nz : ∀ k, k < w1.heap.size → (w1.alloc (.cells #[.int .u8 10] 5)).heap[k]? = w1.heap[k]? := fun k hk => Lib.alloc_old w1 _ k hk
  obtain ⟨v', w2, hap, ho2, hg2, -, hk2⟩ := run_append_own_at (P := Tryd.prog) (w1.alloc (.cells #[.int .u8 10] 5)) B 23 23 5 i0 (.int .u8 0) 1 1 Tryd.underlying23 hi hz0 hz1 hz2 rfl (by decide) v l.length (Lib.byteCells l) (ol.alloc _) ⟨w1.heap.size, 0, none⟩ 1 1 [.int .u8 10] rfl (fun j u hj => by
    match j, hj with
    | 0, hj => simp at hj; subst hj; simp [Addr.add]) (fun u hu => by simp at hu; subst hu; rfl) (by unfold maxLen; omega) (by omega) (by have := C.size; simp; omega)
  have e1 : Lib.byteCells l ++ [Value.int .u8 10] = Lib.byteCells (l ++ [10]) := by simp [Lib.byteCells]
  rw [e1, show l.length + 1 = (l ++ [10]).length by simp] at ho2
  have hg3 : w1.grownBy w2 v.ownBlock := ⟨hg2.os, hg2.tape, hg2.output, Nat.le_trans (by simp) hg2.size, fun k hk hne => (hg2.block k (by simp; omega) hne).trans (nz k hk)⟩
  have hk3 : ∀ k, v'.ownBlock = some k → v.ownBlock = some k ∨ w1.heap.size ≤ k := fun k hk => by
    rcases hk2 with h | h
    · exact .inl (h ▸ hk)
    · rw [h] at hk
      have := Option.some.inj hk
      simp at this
      exact .inr (by omega)
  have c0 : w1.cell? ⟨b, 0, none⟩ = some (.pointer (some ⟨b, 0, none⟩)) := by rw [Lib.cell_of_heap C.hp]; rfl
  have c1 : w1.cell? ⟨b, 1, none⟩ = some v := by rw [Lib.cell_of_heap C.hp]; rfl
  have hb2 : w2.heap[b]? = some (.cells #[.pointer (some ⟨b, 0, none⟩), v] 85 (0, 0)) := by
    rw [hg3.block b hlt (fun e => C.ne e.symm)]
    exact C.hp
  have d1 : w2.cell? ⟨b, 1, none⟩ = some v := by rw [Lib.cell_of_heap hb2]; rfl
  have f1 : w2.frozen? ⟨b, 1, none⟩ = false := Lib.frozen_of_heap hb2 1
  have FIN := hide (C.done (l := l ++ [10]) ho2 hg3 hk3)
  obtain ⟨ao, n', cap, ev⟩ : ∃ ao n' cap, v' = .slice ao n' cap := by
    rcases ho2.2 with ⟨hv, _⟩ | ⟨g, cap, cur, hv, _⟩
    · exact ⟨_, _, _, hv⟩
    · exact ⟨_, _, _, hv⟩
  subst ev
  clear C ol ho2 hg2 hk2 hg3 hk3 hb2 CC nz
  go_wp2_with (at_builtin; refine Lib.wpList_append_run _ rfl _ _ 23 23 rfl _ _ rfl rfl _ _ hap ?_)
  go_ret
  exact ⟨⟨_, rfl⟩, FIN.out⟩
/-- A builder's bytes last while others change nothing of its own. -/
theorem bd_abd (B b n0 : Nat) (hn : n0 ≤ B) : Abd (BdS b) n0 (fun pre X => B ≤ X.heap.size ∧ Lib.IsBuilder 85 5 B b (Lib.byteCells (ltT pre)) X) := by
  have lie : ∀ (cs : List Value) (X : World), Lib.IsBuilder 85 5 B b cs X → ∀ k, BdS b X k → B ≤ k ∧ k < X.heap.size := by
    intro cs X h k hk
    have : ∃ p v, B ≤ b ∧ X.heap[b]? = some (.cells #[p, v] 85 (0, 0)) ∧ X.ownsRow B 5 1 v cs.length cs := by
      rcases h with ⟨h1, v, h2, h3, _⟩ | ⟨h1, v, h2, h3, _⟩
      · exact ⟨_, v, h1, h2, h3⟩
      · exact ⟨_, v, h1, h2, h3⟩
    obtain ⟨p, v, h1, h2, h3⟩ := this
    rcases hk with rfl | ⟨v2, hv, ho⟩
    · exact ⟨h1, (Array.getElem?_eq_some_iff.1 h2).1⟩
    · have c1 : X.cell? ⟨b, 1, none⟩ = some v := by rw [Lib.cell_of_heap h2]; rfl
      rw [c1] at hv
      obtain rfl := Option.some.inj hv
      exact h3.lt k ho
  refine ⟨fun pre X h k hk => ⟨Nat.le_trans hn (lie _ X h.2 k hk).1, (lie _ X h.2 k hk).2⟩, fun pre X Y h hs hk => ?_⟩
  have hY : Y.heap[b]? = X.heap[b]? := hk b (.inl rfl)
  have one : ∀ p, Lib.BuilderAt 85 5 B b p (Lib.byteCells (ltT pre)) X → Lib.BuilderAt 85 5 B b p (Lib.byteCells (ltT pre)) Y := by
    rintro p ⟨h1, v, h2, h3, h4⟩
    have c1 : X.cell? ⟨b, 1, none⟩ = some v := by rw [Lib.cell_of_heap h2]; rfl
    refine ⟨h1, v, hY.trans h2, ⟨h3.1, ?_⟩, h4⟩
    rcases h3.2 with h | ⟨g, cap, cur, rfl, hbg, hg, r⟩
    · exact .inl h
    · exact .inr ⟨g, cap, cur, rfl, hbg, (hk g (.inr ⟨_, c1, rfl⟩)).trans hg, r⟩
  refine ⟨⟨Nat.le_trans h.1 hs, h.2.imp (one _) (one _)⟩, fun k hkY => ?_⟩
  rcases hkY with rfl | ⟨v, hv, ho⟩
  · exact .inl rfl
  · have : X.cell? ⟨b, 1, none⟩ = Y.cell? ⟨b, 1, none⟩ := (World.cell?_of_block (a := ⟨b, 1, none⟩) hY).symm
    exact .inr ⟨v, this.trans hv, ho⟩
end Go.Proofs.YtpbniihhpfbamaaDoor
