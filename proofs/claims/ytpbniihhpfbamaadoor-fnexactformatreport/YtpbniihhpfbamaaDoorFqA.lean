
/-
  An iterator over texts that is walked through to its end, also out of the body of another such loop: what it owes, and the statement that ranges over it.
-/
import Derived.Test.YtpbniihhpfbamaaDoorXcI
import Derived.RangeFuncFrom
namespace Go.Proofs.YtpbniihhpfbamaaDoor
set_option maxRecDepth 100000
open Go Go.RowKit

/-- A text as a value. -/
def txv (l : List UInt8) : Value := .string ⟨⟨l⟩⟩
/-- A round at whatever depth. -/
theorem yield_any {P : Program} {n m l : Nat} {args : Array Value} {W : World} {R : Ending → World → Prop} (h : YieldAt Fence.wide n P l args W R) : YieldAt Fence.wide m P l args W R := by
  obtain ⟨fn, tmps, assign, body, hy, h1, h2⟩ := h
  exact ⟨fn, tmps, assign, body, hy, h1, fun c cs _ => h2 c cs (fun d hd => by cases hd)⟩
theorem round_any {P : Program} {n m l f : Nat} {tmps : Array Value} {assign body : Code} {w : World} {R : Ending → World → Prop} (h : RoundIn Fence.wide n P l f tmps assign body w R) : RoundIn Fence.wide m P l f tmps assign body w R := ⟨h.1, fun c cs _ => h.2 c cs (fun d hd => by cases hd)⟩
/-- The iterator g gives the texts xs out, one after the other, whatever a round does that keeps what lies below n0 and all that is no cells of this call. -/
def SeqT (P : Program) (g : Nat) (lb : Array Value) (n0 : Nat) (xs : List (List UInt8)) (w : World) : Prop :=
  ∀ (n l : Nat) (J : List (List UInt8) → World → Prop) (W : World), Below n0 w W → OwnFrom W.heap.size J →
    (∀ pre x W1, J pre W1 → (pre ++ [x]) <+: xs → W.heap.size ≤ W1.heap.size → YieldAt Fence.wide n P l #[txv x] W1 fun e W' => e = .returned (.bool true) ∧ J (pre ++ [x]) W' ∧ Below n0 W1 W' ∧ KeepsFrom W.heap.size W1 W') →
    J [] W → CallsIn Fence.wide n P g (#[.func (.yield l) #[] #[]] ++ lb) W fun e W' => (∃ v, e = .returned v) ∧ J xs W' ∧ Below n0 W W' ∧ W.heap.size ≤ W'.heap.size
theorem SeqT.up {P : Program} {g : Nat} {lb : Array Value} {n0 : Nat} {xs : List (List UInt8)} {w w' : World} (h : SeqT P g lb n0 xs w) (n : Below n0 w w') : SeqT P g lb n0 xs w' :=
  fun m l J W hW => h m l J W (n.trans hW)
/-- How a body is left that never leaves its loop. -/
def postT (n0 B : Nat) (I : List (List UInt8) → World → Prop) (xs : List (List UInt8)) (W : World) : Exit → Act → World → Prop
  | .normal, _, W' => KeepsFrom B W W' ∧ Below n0 W W' ∧ I xs W'
  | _, _, _ => False
theorem keepsFrom_put {B l : Nat} {W : World} {o : Obj} (hl : l < B) : KeepsFrom B W (W.putObj l o) := KeepsFrom.of_grownBy (grownBy_putObj' W l o) (fun j e => by cases e; exact hl)
theorem below_put {n0 l : Nat} {W : World} {o : Obj} (hl : n0 ≤ l) : Below n0 W (W.putObj l o) := ⟨rfl, rfl, rfl, by simp, fun k hk => World.putObj_heap_other (by omega)⟩
theorem wpIn_rangeT {P : Program} {g : Operand} {ps : Array Tmp} {assign body : Code} {Q : Exit → Act → World → Prop} {a : Act} {w : World} {n gf : Nat} {lb : Array Value} (hg : a.eval g = .func (.func gf) #[] lb) (eg : ∀ args w, (callFunc gf args).run P w = .ok (.enter gf args) w)
    {n0 : Nat} {xs : List (List UInt8)} {w0 : World} (hseq : SeqT P gf lb n0 xs w0) (hb0 : Below n0 w0 w) (hn0 : n0 ≤ w.heap.size) (hps : ps.size = 1) (I : List (List UInt8) → World → Prop) (hI : OwnFrom w.heap.size I) (h0 : I [] w) (a₁ : List UInt8 → Act)
    (hassign : ∀ (l : Nat) (x : List UInt8) (W : World) (K : Act → World → Prop), K (a₁ x) W → assign.wpIn (Fence.wide.inRound l) (n - 1) P (Exit.then K (fun _ _ _ => False)) { tmps := (ps.zip #[txv x]).foldl (fun t (p, v) => t.setIfInBounds p v) a.tmps, defers := [] } W)
    (hbody : ∀ (l : Nat) (pre : List (List UInt8)) (x : List UInt8) (W : World), I pre W → (pre ++ [x]) <+: xs → w.heap.size ≤ W.heap.size → body.wpIn (Fence.wide.inRound l) (n - 1) P (postT n0 w.heap.size I (pre ++ [x]) W) (a₁ x) W)
    (hdone : ∀ W : World, I xs W → Below n0 w W → w.heap.size + 1 < W.heap.size → W.heap[w.heap.size]? = some (.deferred (some [])) → Q .normal { a with defers := { target := .collected w.heap.size, args := #[] } :: a.defers } W) :
    (Code.rangeFunc g ps assign body).wpIn Fence.wide n P Q a w := by
  refine wpIn_rangeFunc fun fn _ => ?_
  generalize hB : w.heap.size = B at *
  generalize hrec : (fun st => ({ state := st, pending := none, fn := fn, tmps := a.tmps, params := ps, assign := assign, body := body, defers := B } : Loop)) = rec
  have z1 : (w.alloc (.deferred (some []))).heap.size = B + 1 := by rw [World.size_alloc, hB]
  have z2 : ((w.alloc (.deferred (some []))).alloc (.loop (rec .ready))).heap.size = B + 2 := by rw [World.size_alloc, z1]
  have L1 : ((w.alloc (.deferred (some []))).alloc (.loop (rec .ready))).heap[B + 1]? = some (.loop (rec .ready)) := by rw [← z1]; exact World.alloc_heap_new _ _
  have K1 : ((w.alloc (.deferred (some []))).alloc (.loop (rec .ready))).heap[B]? = some (.deferred (some [])) := by
    rw [Below.heap_alloc _ _ _ (by omega), ← hB]
    exact World.alloc_heap_new _ _
  have I1 : I [] ((w.alloc (.deferred (some []))).alloc (.loop (rec .ready))) := hI.alloc _ (hI.alloc _ h0)
  have b1 : Below n0 w ((w.alloc (.deferred (some []))).alloc (.loop (rec .ready))) := ((Below.refl n0 w).alloc (by omega) _).alloc (by omega) _
  have E1 : (Instr.enterLoop fn a.tmps ps assign body none).run P w = .ok (B + 1, [{ target := .collected B, args := #[] }]) ((w.alloc (.deferred (some []))).alloc (.loop (rec .ready))) := by
    rw [run_enterLoop_outer, ← hrec, hB]
  generalize (w.alloc (.deferred (some []))).alloc (.loop (rec .ready)) = W1 at *
  refine ⟨B + 1, _, W1, { target := .fn (.func gf) lb, args := #[.func (.yield (B + 1)) #[] #[]] }, W1, gf, #[.func (.yield (B + 1)) #[] #[]] ++ lb, W1, E1, ?_, fun _ _ => trivial, by simp [invoke, go_sem, eg], fun h => (by cases h), ?_⟩
  · simp only [resolve, hg]
    simp [go_sem]
  refine (hseq (n - 1) (B + 1) (fun pre W => I pre W ∧ W.heap[B + 1]? = some (.loop (rec .ready)) ∧ W.heap[B]? = some (.deferred (some [])) ∧ Below n0 w W) W1 (hb0.trans b1) ?_ ?_ ⟨I1, L1, K1, b1⟩).mono ?_
  · intro s X Y row hs hg' hr
    have far : ∀ k o, k < B + 2 → X.heap[k]? = some o → Y.heap[k]? = some o := fun k o hk ho => (hg'.block k (Array.getElem?_eq_some_iff.1 ho).1 (fun e => by have := (hr k e.symm).1; omega)).trans ho
    exact ⟨hI s X Y row hs.1 hg' (fun r e => ⟨by have := (hr r e).1; omega, (hr r e).2⟩), far _ _ (by omega) hs.2.1, far _ _ (by omega) hs.2.2.1, hs.2.2.2.trans ((Below.refl n0 X).grown hg' (by
      have := (Array.getElem?_eq_some_iff.1 hs.2.1).1
      omega) (fun r e => by have := (hr r e).1; omega))⟩
  · rintro pre x W ⟨hi, hl, hk, hbW⟩ hpre hW
    have lt := (Array.getElem?_eq_some_iff.1 hl).1
    have hy := run_yield (P := P) (args := #[txv x]) hl (by rw [← hrec]; simp [hps])
    refine ⟨_, _, _, _, hy, ?_⟩
    rw [← hrec]
    refine roundIn_of_wpIn trivial (hassign _ x W _ ⟨_, run_beginRound hl (by rw [← hrec]), ?_⟩)
    have l2 : (W.putObj (B + 1) (.loop { rec .ready with state := .busy })).heap[B + 1]? = some (.loop { rec .ready with state := .busy }) := World.putObj_heap_same lt
    have k2 : (W.putObj (B + 1) (.loop { rec .ready with state := .busy })).heap[B]? = some (.deferred (some [])) := (World.putObj_heap_other (by omega)).trans hk
    have b2 : Below n0 W (W.putObj (B + 1) (.loop { rec .ready with state := .busy })) := below_put (by omega)
    refine wpIn_mono (hbody _ pre x _ (hI.putObj _ hi (by omega) hl rfl) hpre (by simp; omega)) ?_
    rintro e a3 W3 hp
    cases e with
    | normal =>
      obtain ⟨k3, b3, i3⟩ := hp
      have l3 := k3.same _ _ (by omega) l2 rfl
      have d3 := k3.same _ _ (Nat.le_refl _) k2 rfl
      have lt3 := (Array.getElem?_eq_some_iff.1 l3).1
      have er := run_endRound (P := P) none l3
      refine ⟨_, _, er, rfl, ⟨hI.putObj _ i3 (by omega) l3 rfl, ?_, (World.putObj_heap_other (by omega)).trans d3, ?_⟩, ?_, ?_⟩
      · rw [World.putObj_heap_same lt3, ← hrec]
        rfl
      · exact ((hbW.trans b2).trans b3).trans (below_put (by omega))
      · exact (b2.trans b3).trans (below_put (by omega))
      · rw [z2]
        refine ⟨?_, fun k o hk ho hc => ?_⟩
        · have := k3.size
          simp at this ⊢
          omega
        · rw [World.putObj_heap_other (by omega)]
          refine k3.same k o (by omega) ?_ hc
          rw [World.putObj_heap_other (by omega)]
          exact ho
    | ret => exact hp.elim
    | exit id => exact hp.elim
    | goto t => exact hp.elim
    | panic ch => exact hp.elim
    | outgrown => exact hp.elim
  · rintro e W2 ⟨⟨v, rfl⟩, ⟨hi, hl, hk, hbW⟩, hb2, hs2⟩
    have lt := (Array.getElem?_eq_some_iff.1 hl).1
    refine ⟨none, W2.putObj (B + 1) (.loop { rec .ready with state := .exhausted }), ?_, ?_⟩
    · have := run_endLoop (P := P) hl (by rw [← hrec]; simp)
      rw [this, ← hrec]
    · exact hdone _ (hI.putObj _ hi (by omega) hl rfl) (hbW.trans (below_put (by omega))) (by simp; omega) ((World.putObj_heap_other (by omega)).trans hk)
end Go.Proofs.YtpbniihhpfbamaaDoor
