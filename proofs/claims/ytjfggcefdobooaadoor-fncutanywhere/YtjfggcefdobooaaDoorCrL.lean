
/-
  The law of CutRecords (written by gens/lcut.py).
-/
import Derived.Test.YtjfggcefdobooaaDoorCrS
import Derived.Test.YtjfggcefdobooaaDoorCrH
import Derived.Test.YtjfggcefdobooaaDoorRdR
namespace Go.Proofs.YtjfggcefdobooaaDoor
set_option maxRecDepth 100000
open Go Go.RowKit

theorem cut_end {xs : List Int} (hb : Byt xs) : ∀ (f : Nat) (its : List (Int × List Int)) (k : Nat), Ahc xs its k → xs.length - k < f → ∃ its' k', Ahc xs its' k' ∧ rcT (xs.drop k') ≠ 0
  | 0, _, _, _, h => absurd h (by omega)
  | f + 1, its, k, A, h => by
    by_cases ht : rcT (xs.drop k) = 0
    · have L := rcT_len (byt_drop hb k) ht
      have ld : (xs.drop k).length = xs.length - k := List.length_drop
      exact cut_end hb f _ _ (A.step hb ht) (by omega)
    · exact ⟨its, k, A, ht⟩
theorem cut_bd (xs : List Int) (hb : Byt xs) (hx : xs.length ≤ 1048576) : (cutR xs).length ≤ 262144 ∧ (∀ i, i < (cutR xs).length → ((cutR xs).getD i (0, [])).2.length ≤ 2321) ∧ (cutL xs).length ≤ 1048576 := by
  obtain ⟨its, k, A, ht⟩ := cut_end hb _ _ _ (Ahc.zero xs) (Nat.lt_succ_self _)
  obtain ⟨e1, e2⟩ := A.done ht
  have := A.l
  have := A.k
  rw [e1]
  refine ⟨by omega, A.b, ?_⟩
  unfold cutL
  split
  · rw [List.length_drop]
    omega
  · simp
/-- A row between two places of memory. -/
structure IRm (w : World) (B M : Nat) (v : Value) (its : List (Int × List Int)) (bs : List Plc) : Prop where
  r : IRow w B v its bs
  o : ∀ k, v.ownBlock = some k → k < M
  q : ∀ i, i < its.length → 0 < (its.getD i (0, [])).2.length → (bs.getD i plc0).q < M
theorem IRow.m {w : World} {B : Nat} {v : Value} {its : List (Int × List Int)} {bs : List Plc} (h : IRow w B v its bs) : IRm w B w.heap.size v its bs := ⟨h, fun k hk => (h.o.lt k hk).2, fun _ hi h0 => h.lt hi h0⟩
theorem IRm.keep {w w' : World} {B M : Nat} {v : Value} {its : List (Int × List Int)} {bs : List Plc} (h : IRm w B M v its bs) (hb : ∀ k, B ≤ k → k < M → w'.heap[k]? = w.heap[k]?) : IRm w' B M v its bs := by
  refine ⟨⟨⟨h.r.o.1, ?_⟩, h.r.l, fun i hi => ?_, h.r.h, h.r.d⟩, h.o, h.q⟩
  · rcases h.r.o.2 with h' | ⟨g, cap, cur, rfl, hbg, hg, hnc, hcm, hcs, ht⟩
    · exact .inl h'
    · exact .inr ⟨g, cap, cur, rfl, hbg, by rw [hb g hbg (h.o g rfl)]; exact hg, hnc, hcm, hcs, ht⟩
  · exact (h.r.b i hi).of fun h0 => hb _ (h.r.h i hi h0).1 (h.q i hi h0)
theorem IRm.up {w w' : World} {B M : Nat} {v : Value} {its : List (Int × List Int)} {bs : List Plc} (h : IRm w B M v its bs) (n : Below w.heap.size w w') (hM : M ≤ w.heap.size) : IRm w' B M v its bs := h.keep (fun k _ hk => n.block k (by omega))
theorem IRm.within {w : World} {B M : Nat} {v : Value} {its : List (Int × List Int)} {bs : List Plc} (h : IRm w B M v its bs) {p : Nat} (hp : rowS v its bs p) : B ≤ p ∧ p < M := by
  rcases hp with hp | ⟨i, hi, h0, rfl⟩
  · exact ⟨(h.r.o.lt p hp).1, h.o p hp⟩
  · exact ⟨(h.r.h i hi h0).1, h.q i hi h0⟩
theorem NoP.not {p : Nat} {v : Value} {its : List (Int × List Int)} {bs : List Plc} (h : NoP p v its bs) : ¬ rowS v its bs p := by
  rintro (hp | ⟨i, hi, h0, e⟩)
  · exact h.o hp
  · exact h.b i hi h0 e
theorem NewC.at {B : Nat} {w : World} {e : Ending} {xs : List Int} (h : NewC B w e xs) : ∃ a c bs x y gr, e = .returned (.agg #[.int .i64 (cutC xs), .slice a (cutR xs).length c, .slice x (cutL xs).length y]) ∧ IRm w B w.heap.size (.slice a (cutR xs).length c) (cutR xs) bs ∧ Own w gr x .u8 (cutL xs) ∧ (0 < (cutL xs).length → B ≤ gr ∧ gr < w.heap.size ∧ NoP gr (.slice a (cutR xs).length c) (cutR xs) bs) := by
  obtain ⟨v, bs, vr, he, R, Q, hp⟩ := h
  obtain ⟨a, c, rfl, -⟩ := R.slice
  obtain ⟨x, y, gr, rfl, O1, O2, O3, O4⟩ := Q.own
  refine ⟨a, c, bs, x, y, gr, he, R.m, O1, fun h0 => ⟨O4, O1.rd.lt h0, hp gr ?_⟩⟩
  obtain ⟨-, ⟨e1, e2⟩ | ⟨gg, cap, cur, e1, -, hg, -⟩⟩ := Q
  · omega
  · obtain ⟨off, e3, -⟩ := O1 h0
    simp only [Value.slice.injEq] at e1
    obtain ⟨e4, -⟩ := e1
    rw [e3] at e4
    simp only [Option.some.injEq, Addr.mk.injEq] at e4
    rw [e3, e4.1]
    simp [Value.ownBlock]
theorem Btw.below {B M C : Nat} {w w' : World} (n : Btw B M w w') (h : C ≤ B) : Below C w w' := ⟨n.os, n.tape, n.output, Nat.le_of_eq n.size.symm, fun k hk => n.block k (by omega)⟩
theorem Mkd.of {w w' : World} {v : Value} {its : List (Int × List Int)} {bs : List Plc} {n : Int} (h : Mkd w v its bs n) (hb : ∀ p, p < w.heap.size → rowS v its bs p → w'.heap[p]? = w.heap[p]?) : Mkd w' v its bs n := fun g c e i hi => by
  have P := h g c e i hi
  have hg : g < w.heap.size := block_lt_of_cell P.1
  have sg : rowS v its bs g := .inl (by rw [e]; rfl)
  exact P.keep (World.cell?_of_block (a := ⟨g, i * 2, none⟩) (hb g hg sg)) (World.cell?_of_block (a := ⟨g, i * 2 + 1, none⟩) (hb g hg sg)) (fun h0 => hb _ (P.2.2.rd.lt (by rw [marks_len]; exact h0)) (.inr ⟨i, hi, h0, rfl⟩))

end Go.Proofs.YtjfggcefdobooaaDoor
