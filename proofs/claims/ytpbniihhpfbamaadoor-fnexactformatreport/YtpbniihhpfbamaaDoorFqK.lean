
/-
  Iterators over marks and over iterators: what is made; rows of iterators.
-/
import Derived.Test.YtpbniihhpfbamaaDoorFqE
import Derived.Test.YtpbniihhpfbamaaDoorFqJ
import Derived.Maps.AppendAt
namespace Go.Proofs.YtpbniihhpfbamaaDoor
set_option maxRecDepth 100000
open Go Go.RowKit

theorem eachM_any (w : World) (B g : Nat) (a : Option Addr) (c : Nat) (ms : List Mrk) (ps : List Plm) (hB : B ≤ w.heap.size) (hr : ∀ W, Below B w W → RdK W g a ms ps ∧ HasW W) (hm : LnM ms) (hN : ms.length ≤ 1048576) :
    Calls Tryd.prog 44 #[.slice a ms.length c, .func (.func 45) #[] #[]] w fun e w' => (∃ v, e = .returned v ∧ SqX B (ms.map mkT) v w') ∧ Below w.heap.size w w' := by
  have n1 : Below w.heap.size w (w.alloc (.cells #[.slice a ms.length c] 35)) := (Below.refl _ _).alloc (Nat.le_refl _) _
  have c1 : RwC (w.alloc (.cells #[.slice a ms.length c] 35)) w.heap.size [.slice a ms.length c] 35 := RwC.new w [.slice a ms.length c] 35
  have z1 : (w.alloc (.cells #[.slice a ms.length c] 35)).heap.size = w.heap.size + 1 := World.size_alloc _ _
  have FT := fun (w1 : World) => RwC.new w1 [.func (.func 45) #[] #[]] 99
  have N1 := hide n1
  have C1 := hide c1
  have Z1 := hide z1
  have HR := hide hr
  clear n1 c1 z1 hr
  go_enter Tryd.func44, Tryd.ntmps44
  go_wp2
  go_ret
  generalize w.alloc (.cells #[.slice a ms.length c] 35) = w1 at *
  have n2 : ∀ o, Below w1.heap.size w1 (w1.alloc o) := fun o => (Below.refl _ _).alloc (Nat.le_refl _) _
  have z2 : ∀ o, (w1.alloc o).heap.size = w1.heap.size + 1 := fun o => World.size_alloc _ _
  refine ⟨⟨_, rfl, _, _, _, rfl, Nat.le_refl _, by kernel_rfl, each_seq _ w.heap.size (w.heap.size + 1) g a c B _ ms ps ?_ ?_ ?_ ?_ (Nat.le_refl _) ?_ ?_ hm hN⟩, N1.out.trans ((n2 _).mono N1.out.size)⟩
  · exact C1.out.up (n2 _)
  · have := FT w1
    rw [Z1.out] at this
    exact this
  · have := Z1.out; rw [z2]; omega
  · have := Z1.out; rw [z2]; omega
  · have := Z1.out; rw [z2]; omega
  · intro W hBe
    exact HR.out W (((N1.out.trans ((n2 _).mono N1.out.size)).mono hB).trans hBe)
/-- A row of iterators in memory of its own. -/
def RwV (B : Nat) (w : World) (v : Value) (vs : List Value) : Prop := w.ownsRow B 63 1 v vs.length vs
theorem RwV.cells {B : Nat} {w : World} {v : Value} {vs : List Value} (h : RwV B w v vs) : ∃ g a c, v = .slice a vs.length c ∧ (0 < vs.length → ∃ off, a = some ⟨g, off, none⟩ ∧ ∀ i, i < vs.length → w.cell? ⟨g, off + i, none⟩ = some (vs.getD i undef)) := by
  have h' := h
  rcases h.2 with ⟨rfl, hn⟩ | ⟨g, cap, cur, rfl, _⟩
  · exact ⟨0, none, 0, by rw [hn], fun h0 => by omega⟩
  · refine ⟨g, some ⟨g, 0, none⟩, cap, rfl, fun _ => ⟨0, rfl, fun i hi => ?_⟩⟩
    have hc := World.ownsRow.cells (g := g) h' rfl i (vs.getD i undef) (by rw [List.getD_eq_getElem?_getD, List.getElem?_eq_getElem hi]; rfl)
    have e : (⟨g, 0, none⟩ : Addr).add i = ⟨g, i, none⟩ := by unfold Addr.add; split <;> simp_all
    rw [Nat.zero_add, ← e]
    exact hc
theorem joined_any (w : World) (B : Nat) (v : Value) (vs : List Value) (pss : List (List (List UInt8))) (hv : RwV B w v vs) (hlen : vs.length = pss.length) (hs : ∀ i, i < vs.length → SqV (pss.getD i []) (vs.getD i undef) w) (hN : vs.length ≤ 1000000000) :
    Calls Tryd.prog 46 #[v] w fun e w' => (∃ v, e = .returned v ∧ SqV pss.flatten v w') ∧ Below w.heap.size w w' := by
  obtain ⟨g, a, c, rfl, hc⟩ := hv.cells
  have n1 : Below w.heap.size w (w.alloc (.cells #[.slice a vs.length c] 95)) := (Below.refl _ _).alloc (Nat.le_refl _) _
  have c1 : (w.alloc (.cells #[.slice a vs.length c] 95)).cell? ⟨w.heap.size, 0, none⟩ = some (.slice a vs.length c) := (RwC.new w [.slice a vs.length c] 95).cell 0
  have z1 : (w.alloc (.cells #[.slice a vs.length c] 95)).heap.size = w.heap.size + 1 := World.size_alloc _ _
  have JS := hide (joined_seq _ w.heap.size g a c vs pss hlen c1 (by omega) (fun h0 => by
    obtain ⟨off, e, hh⟩ := hc h0
    exact ⟨off, e, fun i hi => (n1.cell (block_lt_of_cell (hh i hi))).trans (hh i hi)⟩) (fun i hi => (hs i hi).up n1) hN)
  have N1 := hide n1
  clear n1 c1 z1 hc hs hv hlen
  go_enter Tryd.func46, Tryd.ntmps46
  go_wp2
  go_ret
  exact ⟨⟨_, rfl, _, _, _, rfl, Nat.le_refl _, by kernel_rfl, JS.out⟩, N1.out⟩
theorem infoSq : (Tryd.prog.info? 63).map (fun i => (i.zero, i.size, i.bytes)) = some (some .nilFunc, 1, 8) := by kernel_rfl
/-- Iterators more: what is at B or above and no row of iterators stays. -/
theorem app_V (w : World) (B : Nat) (v : Value) (vs fs : List Value) (m : Nat) (hm : fs.length = m) (h0 : 0 < m) (hv : RwV B w v vs) (hf : ∀ f ∈ fs, f.oneCell' = true) (hN : vs.length + m ≤ 2000000) (hB : B ≤ w.heap.size) :
    ∃ v' w', (Builtin.append_ #[95, 95] 95 #[v, .slice (some ⟨w.heap.size, 0, none⟩) m m]).run Tryd.prog (w.alloc (.cells fs.toArray 63)) = .ok v' w' ∧ RwV B w' v' (vs ++ fs) ∧ Bel B w.heap.size w w' := by
  obtain ⟨i0, hi, hz0, hz1, hz2⟩ := info_parts infoSq
  subst hm
  have nz : ∀ k, k < w.heap.size → (w.alloc (.cells fs.toArray 63)).heap[k]? = w.heap[k]? := fun k hk => Lib.alloc_old w _ k hk
  have T := RwC.new w fs 63
  obtain ⟨v', w', hap, ho, hg, -, -⟩ := run_append_own_at (P := Tryd.prog) (w.alloc (.cells fs.toArray 63)) B 95 95 63 i0 .nilFunc 1 8 Tryd.underlying95 hi hz0 hz1 hz2 rfl (by decide) v vs.length vs (World.ownsRow.alloc hv _) ⟨w.heap.size, 0, none⟩ fs.length fs.length fs (by simp) (fun j u hj => by
    have e : (⟨w.heap.size, 0, none⟩ : Addr).add j = ⟨w.heap.size, j, none⟩ := by unfold Addr.add; split <;> simp_all
    rw [e, T.cell j]
    exact hj) hf (by unfold maxLen; omega) (by omega) (by simp; omega)
  refine ⟨v', w', hap, ?_, hg.os, hg.tape, hg.output, Nat.le_trans (by simp) hg.size, fun k hk ht => ?_⟩
  · show w'.ownsRow B _ 1 v' (vs ++ fs).length (vs ++ fs)
    rw [List.length_append]
    exact ho
  · refine (hg.block k (by simp; omega) fun e => ?_).trans (nz k hk)
    rcases hv.2 with ⟨rfl, -⟩ | ⟨g, cap, cur, rfl, hbg, hgc, -⟩
    · simp [Value.ownBlock] at e
    · have : k = g := Option.some.inj e
      subst this
      rcases ht with ht | ht
      · omega
      · exact ht _ _ hgc
end Go.Proofs.YtpbniihhpfbamaaDoor
