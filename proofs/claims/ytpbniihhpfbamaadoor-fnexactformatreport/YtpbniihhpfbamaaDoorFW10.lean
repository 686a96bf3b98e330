import Derived.Test.YtpbniihhpfbamaaDoorFW1
import Derived.RangeFuncNested
import Derived.RangeFuncBound
import Derived.RangeFuncCalls
import Derived.RangeFuncLeaves
import Derived.RangeFuncWrites
import Derived.Shelf.Abstract
import Derived.WalkKit
import Derived.OwnWalkIn
import Derived.TacticsInMore
import Derived.LoopNIn
import Derived.LoopIn
import Derived.RangeFuncFrom
import Derived.Test.YtpbniihhpfbamaaDoorFW3
import Derived.Test.YtpbniihhpfbamaaDoorFWxFqW

/-
  A body of a round over a function that is walked as any other code: straight operations without deferring.
-/
namespace Go.Proofs.YtpbniihhpfbamaaDoor
set_option maxRecDepth 100000
open Go Go.RowKit

section
variable {P : Program} {ops : Array Oper} {Q : Exit → Act → World → Prop} {n l : Nat}
theorem op_in {o : Oper} {a : Act} {w : World} {K : Act → World → Prop} (hd : ∀ c, o.op ≠ .defer c) (h : o.wp P a w K Q) : o.wpIn (Fence.wide.inRound l) n P a w K Q := by
  refine ⟨fun _ _ => trivial, ?_⟩
  rw [Oper.semAt_plain (Fence.wide.inRound l) _ _ hd]
  unfold Oper.wp at h
  generalize (execOp a.eval o).run P w = r at *
  cases r with
  | ok x w' =>
    cases x with
    | value v => exact h
    | skip => exact h
    | defer d => exact h
    | enter f args => exact ⟨fun h' => by simp [Fence.wide] at h', CallsIn.inRound l (callsIn_wide.2 h)⟩
    | row row args =>
      refine ⟨fun h' => by simp [Fence.wide] at h', fun c cs _ => ?_⟩
      obtain ⟨v, w', r, s⟩ := h c cs
      exact ⟨v, w', r, stepsIn_wide.2 s⟩
    | _ => exact h.elim
  | halt x w' =>
    cases x with
    | panic v => exact h
    | _ => exact h.elim
theorem list_in (hq : ¬ LetsOut Q) : ∀ (rest : List Oper) (a : Act) (w : World), (∀ o ∈ rest, ∀ c, o.op ≠ .defer c) → wpList P ops Q rest a w → wpListIn (Fence.wide.inRound l) n P ops Q rest a w
  | [], _, _, _, h => h
  | o :: rest, a, w, hd, h => by
    unfold wpList at h
    unfold wpListIn
    split at h
    · rename_i hw
      rw [if_pos hw]
      rcases h with h | h
      · refine op_in (hd o (by simp)) ?_
        exact Oper.wp_mono (fun a' w' h' => list_in hq rest a' w' (fun o' ho' => hd o' (by simp [ho'])) h') h
      · exact absurd h.2 hq
    · rename_i hw
      rw [if_neg hw]
      exact ⟨fun _ _ => trivial, list_in hq rest _ _ (fun o' ho' => hd o' (by simp [ho'])) h⟩
/-- No deferring. -/
def noDefer (ops : List Oper) : Bool := ops.all fun o => match o.op with | .defer _ => false | _ => true
theorem region_in {id : Nat} {a : Act} {w : World} (ops : List Oper) (hq : ¬ LetsOut Q) (hd : noDefer ops = true) (h : wpList P ops.toArray Q ops a w) : (Code.region id ops.toArray false).wpIn (Fence.wide.inRound l) n P Q a w := by
  refine wpIn_region_lit (list_in hq _ _ _ (fun o ho c e => ?_) h)
  have := List.all_eq_true.1 hd o ho
  rw [e] at this
  simp at this
end
end Go.Proofs.YtpbniihhpfbamaaDoor

/-
  An iterator over texts that is walked through to its end, also out of the body of another such loop: what it owes, and the statement that ranges over it.
-/
namespace Go.Proofs.YtpbniihhpfbamaaDoor
set_option maxRecDepth 100000
open Go Go.RowKit

/-- A text as a value. -/
def txv (l : List UInt8) : Value := .string ⟨⟨l⟩⟩
/-- A round at whatever depth. -/
theorem yield_any {P : Program} {n m l : Nat} {args : Array Value} {W : World} {R : Ending → World → Prop} (h : YieldAt Fence.wide n P l args W R) : YieldAt Fence.wide m P l args W R := by
  obtain ⟨fn, tmps, assign, body, hy, h1, h2⟩ := h
  exact ⟨fn, tmps, assign, body, hy, h1, fun c cs _ => h2 c cs (fun d hd => by cases hd)⟩
theorem round_any {P : Program} {n m l f : Nat} {tmps : Array Value} {assign body : Code} {w : World} {R : Ending → World → Prop} (h : RoundIn Fence.wide n P l f tmps assign body w R) : RoundIn Fence.wide m P l f tmps assign body w R := ⟨h.1, fun c cs _ => h.2 c cs (fun d hd => by cases hd)⟩
/-- The iterator g gives the texts xs out, one after the other, whatever a round does that keeps what lies below n0 and all that is no cells of this call. -/
def SeqT (P : Program) (g : Nat) (lb : Array Value) (n0 : Nat) (xs : List (List UInt8)) (w : World) : Prop :=
  ∀ (n l : Nat) (J : List (List UInt8) → World → Prop) (W : World), Below n0 w W → OwnFrom W.heap.size J →
    (∀ pre x W1, J pre W1 → (pre ++ [x]) <+: xs → W.heap.size ≤ W1.heap.size → YieldAt Fence.wide n P l #[txv x] W1 fun e W' => e = .returned (.bool true) ∧ J (pre ++ [x]) W' ∧ Below n0 W1 W' ∧ KeepsFrom W.heap.size W1 W') →
    J [] W → CallsIn Fence.wide n P g (#[.func (.yield l) #[] #[]] ++ lb) W fun e W' => (∃ v, e = .returned v) ∧ J xs W' ∧ Below n0 W W' ∧ W.heap.size ≤ W'.heap.size
theorem SeqT.up {P : Program} {g : Nat} {lb : Array Value} {n0 : Nat} {xs : List (List UInt8)} {w w' : World} (h : SeqT P g lb n0 xs w) (n : Below n0 w w') : SeqT P g lb n0 xs w' :=
  fun m l J W hW => h m l J W (n.trans hW)
/-- How a body is left that never leaves its loop. -/
def postT (n0 B : Nat) (I : List (List UInt8) → World → Prop) (xs : List (List UInt8)) (W : World) : Exit → Act → World → Prop
  | .normal, _, W' => KeepsFrom B W W' ∧ Below n0 W W' ∧ I xs W'
  | _, _, _ => False
theorem keepsFrom_put {B l : Nat} {W : World} {o : Obj} (hl : l < B) : KeepsFrom B W (W.putObj l o) := KeepsFrom.of_grownBy (grownBy_putObj' W l o) (fun j e => by cases e; exact hl)
theorem below_put {n0 l : Nat} {W : World} {o : Obj} (hl : n0 ≤ l) : Below n0 W (W.putObj l o) := ⟨rfl, rfl, rfl, by simp, fun k hk => World.putObj_heap_other (by omega)⟩
theorem wpIn_rangeT {P : Program} {g : Operand} {ps : Array Tmp} {assign body : Code} {Q : Exit → Act → World → Prop} {a : Act} {w : World} {n gf : Nat} {lb : Array Value} (hg : a.eval g = .func (.func gf) #[] lb) (eg : ∀ args w, (callFunc gf args).run P w = .ok (.enter gf args) w)
    {n0 : Nat} {xs : List (List UInt8)} {w0 : World} (hseq : SeqT P gf lb n0 xs w0) (hb0 : Below n0 w0 w) (hn0 : n0 ≤ w.heap.size) (hps : ps.size = 1) (I : List (List UInt8) → World → Prop) (hI : OwnFrom w.heap.size I) (h0 : I [] w) (a₁ : List UInt8 → Act)
    (hassign : ∀ (l : Nat) (x : List UInt8) (W : World) (K : Act → World → Prop), K (a₁ x) W → assign.wpIn (Fence.wide.inRound l) (n - 1) P (Exit.then K (fun _ _ _ => False)) { tmps := (ps.zip #[txv x]).foldl (fun t (p, v) => t.setIfInBounds p v) a.tmps, defers := [] } W)
    (hbody : ∀ (l : Nat) (pre : List (List UInt8)) (x : List UInt8) (W : World), I pre W → (pre ++ [x]) <+: xs → w.heap.size ≤ W.heap.size → body.wpIn (Fence.wide.inRound l) (n - 1) P (postT n0 w.heap.size I (pre ++ [x]) W) (a₁ x) W)
    (hdone : ∀ W : World, I xs W → Below n0 w W → w.heap.size + 1 < W.heap.size → W.heap[w.heap.size]? = some (.deferred (some [])) → Q .normal { a with defers := { target := .collected w.heap.size, args := #[] } :: a.defers } W) :
    (Code.rangeFunc g ps assign body).wpIn Fence.wide n P Q a w := by
  refine wpIn_rangeFunc fun fn _ => ?_
  generalize hB : w.heap.size = B at *
  generalize hrec : (fun st => ({ state := st, pending := none, fn := fn, tmps := a.tmps, params := ps, assign := assign, body := body, defers := B } : Loop)) = rec
  have z1 : (w.alloc (.deferred (some []))).heap.size = B + 1 := by rw [World.size_alloc, hB]
  have z2 : ((w.alloc (.deferred (some []))).alloc (.loop (rec .ready))).heap.size = B + 2 := by rw [World.size_alloc, z1]
  have L1 : ((w.alloc (.deferred (some []))).alloc (.loop (rec .ready))).heap[B + 1]? = some (.loop (rec .ready)) := by rw [← z1]; exact World.alloc_heap_new _ _
  have K1 : ((w.alloc (.deferred (some []))).alloc (.loop (rec .ready))).heap[B]? = some (.deferred (some [])) := by
    rw [Below.heap_alloc _ _ _ (by omega), ← hB]
    exact World.alloc_heap_new _ _
  have I1 : I [] ((w.alloc (.deferred (some []))).alloc (.loop (rec .ready))) := hI.alloc _ (hI.alloc _ h0)
  have b1 : Below n0 w ((w.alloc (.deferred (some []))).alloc (.loop (rec .ready))) := ((Below.refl n0 w).alloc (by omega) _).alloc (by omega) _
  have E1 : (Instr.enterLoop fn a.tmps ps assign body none).run P w = .ok (B + 1, [{ target := .collected B, args := #[] }]) ((w.alloc (.deferred (some []))).alloc (.loop (rec .ready))) := by
    rw [run_enterLoop_outer, ← hrec, hB]
  generalize (w.alloc (.deferred (some []))).alloc (.loop (rec .ready)) = W1 at *
  refine ⟨B + 1, _, W1, { target := .fn (.func gf) lb, args := #[.func (.yield (B + 1)) #[] #[]] }, W1, gf, #[.func (.yield (B + 1)) #[] #[]] ++ lb, W1, E1, ?_, fun _ _ => trivial, by simp [invoke, go_sem, eg], fun h => (by cases h), ?_⟩
  · simp only [resolve, hg]
    simp [go_sem]
  refine (hseq (n - 1) (B + 1) (fun pre W => I pre W ∧ W.heap[B + 1]? = some (.loop (rec .ready)) ∧ W.heap[B]? = some (.deferred (some [])) ∧ Below n0 w W) W1 (hb0.trans b1) ?_ ?_ ⟨I1, L1, K1, b1⟩).mono ?_
  · intro s X Y row hs hg' hr
    have far : ∀ k o, k < B + 2 → X.heap[k]? = some o → Y.heap[k]? = some o := fun k o hk ho => (hg'.block k (Array.getElem?_eq_some_iff.1 ho).1 (fun e => by have := (hr k e.symm).1; omega)).trans ho
    exact ⟨hI s X Y row hs.1 hg' (fun r e => ⟨by have := (hr r e).1; omega, (hr r e).2⟩), far _ _ (by omega) hs.2.1, far _ _ (by omega) hs.2.2.1, hs.2.2.2.trans ((Below.refl n0 X).grown hg' (by
      have := (Array.getElem?_eq_some_iff.1 hs.2.1).1
      omega) (fun r e => by have := (hr r e).1; omega))⟩
  · rintro pre x W ⟨hi, hl, hk, hbW⟩ hpre hW
    have lt := (Array.getElem?_eq_some_iff.1 hl).1
    have hy := run_yield (P := P) (args := #[txv x]) hl (by rw [← hrec]; simp [hps])
    refine ⟨_, _, _, _, hy, ?_⟩
    rw [← hrec]
    refine roundIn_of_wpIn trivial (hassign _ x W _ ⟨_, run_beginRound hl (by rw [← hrec]), ?_⟩)
    have l2 : (W.putObj (B + 1) (.loop { rec .ready with state := .busy })).heap[B + 1]? = some (.loop { rec .ready with state := .busy }) := World.putObj_heap_same lt
    have k2 : (W.putObj (B + 1) (.loop { rec .ready with state := .busy })).heap[B]? = some (.deferred (some [])) := (World.putObj_heap_other (by omega)).trans hk
    have b2 : Below n0 W (W.putObj (B + 1) (.loop { rec .ready with state := .busy })) := below_put (by omega)
    refine wpIn_mono (hbody _ pre x _ (hI.putObj _ hi (by omega) hl rfl) hpre (by simp; omega)) ?_
    rintro e a3 W3 hp
    cases e with
    | normal =>
      obtain ⟨k3, b3, i3⟩ := hp
      have l3 := k3.same _ _ (by omega) l2 rfl
      have d3 := k3.same _ _ (Nat.le_refl _) k2 rfl
      have lt3 := (Array.getElem?_eq_some_iff.1 l3).1
      have er := run_endRound (P := P) none l3
      refine ⟨_, _, er, rfl, ⟨hI.putObj _ i3 (by omega) l3 rfl, ?_, (World.putObj_heap_other (by omega)).trans d3, ?_⟩, ?_, ?_⟩
      · rw [World.putObj_heap_same lt3, ← hrec]
        rfl
      · exact ((hbW.trans b2).trans b3).trans (below_put (by omega))
      · exact (b2.trans b3).trans (below_put (by omega))
      · rw [z2]
        refine ⟨?_, fun k o hk ho hc => ?_⟩
        · have := k3.size
          simp at this ⊢
          omega
        · rw [World.putObj_heap_other (by omega)]
          refine k3.same k o (by omega) ?_ hc
          rw [World.putObj_heap_other (by omega)]
          exact ho
    | ret => exact hp.elim
    | exit id => exact hp.elim
    | goto t => exact hp.elim
    | panic ch => exact hp.elim
    | outgrown => exact hp.elim
  · rintro e W2 ⟨⟨v, rfl⟩, ⟨hi, hl, hk, hbW⟩, hb2, hs2⟩
    have lt := (Array.getElem?_eq_some_iff.1 hl).1
    refine ⟨none, W2.putObj (B + 1) (.loop { rec .ready with state := .exhausted }), ?_, ?_⟩
    · have := run_endLoop (P := P) hl (by rw [← hrec]; simp)
      rw [this, ← hrec]
    · exact hdone _ (hI.putObj _ hi (by omega) hl rfl) (hbW.trans (below_put (by omega))) (by simp; omega) ((World.putObj_heap_other (by omega)).trans hk)
end Go.Proofs.YtpbniihhpfbamaaDoor

/-
  An iterator over texts that is walked through to its end: what a round may change is told by the blocks that the walker owns.
-/
namespace Go.Proofs.YtpbniihhpfbamaaDoor
set_option maxRecDepth 100000
open Go Go.RowKit

/-- Only what is owned has changed, and what is owned is as of old or new. -/
structure ChS (S : World → Nat → Prop) (W W' : World) : Prop where
  os : W'.os = W.os
  tape : W'.tape = W.tape
  output : W'.output = W.output
  size : W.heap.size ≤ W'.heap.size
  keep : ∀ b, b < W.heap.size → ¬ S W b → W'.heap[b]? = W.heap[b]?
  own : ∀ b, S W' b → S W b ∨ W.heap.size ≤ b
theorem ChS.refl (S : World → Nat → Prop) (W : World) : ChS S W W := ⟨rfl, rfl, rfl, Nat.le_refl _, fun _ _ _ => rfl, fun _ h => .inl h⟩
theorem ChS.trans {S : World → Nat → Prop} {U V W : World} (h : ChS S U V) (k : ChS S V W) : ChS S U W :=
  ⟨k.os.trans h.os, k.tape.trans h.tape, k.output.trans h.output, Nat.le_trans h.size k.size,
   fun b hb hs => (k.keep b (Nat.lt_of_lt_of_le hb h.size) (fun hv => (h.own b hv).elim hs (fun hl => absurd hb (Nat.not_lt.2 hl)))).trans (h.keep b hb hs),
   fun b hw => (k.own b hw).elim (h.own b) (fun hl => .inr (Nat.le_trans h.size hl))⟩
theorem ChS.below {S : World → Nat → Prop} {W W' : World} {n0 : Nat} (h : ChS S W W') (hl : ∀ b, S W b → n0 ≤ b) (hn : n0 ≤ W.heap.size) : Below n0 W W' :=
  ⟨h.os, h.tape, h.output, h.size, fun k hk => h.keep k (Nat.lt_of_lt_of_le hk hn) (fun hs => absurd hk (Nat.not_lt.2 (hl k hs)))⟩
/-- What a walker knows lasts while others change nothing of its own. -/
structure Abd (S : World → Nat → Prop) (n0 : Nat) (J : List (List UInt8) → World → Prop) : Prop where
  lie : ∀ pre X, J pre X → ∀ b, S X b → n0 ≤ b ∧ b < X.heap.size
  stay : ∀ pre X Y, J pre X → X.heap.size ≤ Y.heap.size → (∀ b, S X b → Y.heap[b]? = X.heap[b]?) → J pre Y ∧ ∀ b, S Y b → S X b
theorem Abd.grow {S : World → Nat → Prop} {n0 : Nat} {J : List (List UInt8) → World → Prop} (h : Abd S n0 J) {pre : List (List UInt8)} {X Y : World} (hJ : J pre X) (n : Below X.heap.size X Y) : J pre Y ∧ ChS S X Y := by
  obtain ⟨j, s⟩ := h.stay pre X Y hJ n.size (fun b hb => n.block b (h.lie pre X hJ b hb).2)
  exact ⟨j, n.os, n.tape, n.output, n.size, fun b hb _ => n.block b hb, fun b hb => .inl (s b hb)⟩
theorem Abd.put {S : World → Nat → Prop} {n0 : Nat} {J : List (List UInt8) → World → Prop} (h : Abd S n0 J) {pre : List (List UInt8)} {X : World} (hJ : J pre X) {l : Nat} (hl : ¬ S X l) (o : Obj) : J pre (X.putObj l o) ∧ ∀ b, S (X.putObj l o) b → S X b :=
  h.stay pre X _ hJ (by simp) (fun b hb => World.putObj_heap_other (fun e => hl (e ▸ hb)))
/-- The iterator g gives the texts xs out, one after the other, to a walker that owns nothing older than n0. -/
def SeqS (P : Program) (g : Nat) (lb : Array Value) (n0 : Nat) (xs : List (List UInt8)) (w : World) : Prop :=
  ∀ (n l : Nat) (S : World → Nat → Prop) (J : List (List UInt8) → World → Prop) (W : World), Below n0 w W → Abd S n0 J →
    (∀ pre x W1, J pre W1 → (pre ++ [x]) <+: xs → ChS S W W1 → YieldAt Fence.wide n P l #[txv x] W1 fun e W' => e = .returned (.bool true) ∧ J (pre ++ [x]) W' ∧ ChS S W1 W') →
    J [] W → CallsIn Fence.wide n P g (#[.func (.yield l) #[] #[]] ++ lb) W fun e W' => (∃ v, e = .returned v) ∧ J xs W' ∧ ChS S W W'
theorem SeqS.up {P : Program} {g : Nat} {lb : Array Value} {n0 : Nat} {xs : List (List UInt8)} {w w' : World} (h : SeqS P g lb n0 xs w) (n : Below n0 w w') : SeqS P g lb n0 xs w' :=
  fun m l S J W hW => h m l S J W (n.trans hW)
/-- All below n0 is as it was, but for rows of iterators that lie at B or above. -/
structure Bel (B n0 : Nat) (w w' : World) : Prop where
  os : w'.os = w.os
  tape : w'.tape = w.tape
  output : w'.output = w.output
  size : w.heap.size ≤ w'.heap.size
  block : ∀ k, k < n0 → (k < B ∨ ∀ cs fz, w.heap[k]? ≠ some (.cells cs 63 fz)) → w'.heap[k]? = w.heap[k]?
theorem Below.bel {B n0 : Nat} {w w' : World} (h : Below n0 w w') : Bel B n0 w w' := ⟨h.os, h.tape, h.output, h.size, fun k hk _ => h.block k hk⟩
theorem Bel.refl (B n0 : Nat) (w : World) : Bel B n0 w w := ⟨rfl, rfl, rfl, Nat.le_refl _, fun _ _ _ => rfl⟩
theorem Bel.trans {B n0 : Nat} {a b c : World} (h : Bel B n0 a b) (k : Bel B n0 b c) : Bel B n0 a c :=
  ⟨k.os.trans h.os, k.tape.trans h.tape, k.output.trans h.output, Nat.le_trans h.size k.size, fun i hi ht => by
    have e := h.block i hi ht
    exact (k.block i hi (ht.imp id fun ht cs fz => by rw [e]; exact ht cs fz)).trans e⟩
theorem Bel.mono {B n0 n1 : Nat} {a b : World} (h : Bel B n1 a b) (l : n0 ≤ n1) : Bel B n0 a b := ⟨h.os, h.tape, h.output, h.size, fun k hk ht => h.block k (Nat.lt_of_lt_of_le hk l) ht⟩
theorem Bel.low {B n0 : Nat} {a b : World} (h : Bel B n0 a b) (l : B ≤ n0) : Below B a b := ⟨h.os, h.tape, h.output, h.size, fun k hk => h.block k (Nat.lt_of_lt_of_le hk l) (.inl hk)⟩
/-- As SeqS, whatever becomes of rows of iterators at B or above. -/
def SeqX (P : Program) (g : Nat) (lb : Array Value) (B n0 : Nat) (xs : List (List UInt8)) (w : World) : Prop :=
  ∀ (n l : Nat) (S : World → Nat → Prop) (J : List (List UInt8) → World → Prop) (W : World), Bel B n0 w W → Abd S n0 J →
    (∀ pre x W1, J pre W1 → (pre ++ [x]) <+: xs → ChS S W W1 → YieldAt Fence.wide n P l #[txv x] W1 fun e W' => e = .returned (.bool true) ∧ J (pre ++ [x]) W' ∧ ChS S W1 W') →
    J [] W → CallsIn Fence.wide n P g (#[.func (.yield l) #[] #[]] ++ lb) W fun e W' => (∃ v, e = .returned v) ∧ J xs W' ∧ ChS S W W'
theorem SeqX.up {P : Program} {g : Nat} {lb : Array Value} {B n0 : Nat} {xs : List (List UInt8)} {w w' : World} (h : SeqX P g lb B n0 xs w) (n : Bel B n0 w w') : SeqX P g lb B n0 xs w' :=
  fun m l S J W hW => h m l S J W (n.trans hW)
theorem SeqX.toS {P : Program} {g : Nat} {lb : Array Value} {B n0 : Nat} {xs : List (List UInt8)} {w : World} (h : SeqX P g lb B n0 xs w) : SeqS P g lb n0 xs w :=
  fun m l S J W hW => h m l S J W (Below.bel hW)
/-- How a body is left that never leaves its loop. -/
def postS (S : World → Nat → Prop) (I : List (List UInt8) → World → Prop) (xs : List (List UInt8)) (W : World) : Exit → Act → World → Prop
  | .normal, _, W' => I xs W' ∧ ChS S W W'
  | _, _, _ => False
theorem wpIn_rangeS {P : Program} {g : Operand} {ps : Array Tmp} {assign body : Code} {Q : Exit → Act → World → Prop} {a : Act} {w : World} {n gf : Nat} {lb : Array Value} (hg : a.eval g = .func (.func gf) #[] lb) (eg : ∀ args w, (callFunc gf args).run P w = .ok (.enter gf args) w)
    {n0 : Nat} {xs : List (List UInt8)} {w0 : World} (hseq : SeqS P gf lb n0 xs w0) (hb0 : Below n0 w0 w) (hn0 : n0 ≤ w.heap.size) (hps : ps.size = 1) (S : World → Nat → Prop) (I : List (List UInt8) → World → Prop) (hI : Abd S n0 I) (h0 : I [] w) (a₁ : List UInt8 → Act)
    (hassign : ∀ (l : Nat) (x : List UInt8) (W : World) (K : Act → World → Prop), K (a₁ x) W → assign.wpIn (Fence.wide.inRound l) (n - 1) P (Exit.then K (fun _ _ _ => False)) { tmps := (ps.zip #[txv x]).foldl (fun t (p, v) => t.setIfInBounds p v) a.tmps, defers := [] } W)
    (hbody : ∀ (l : Nat) (pre : List (List UInt8)) (x : List UInt8) (W : World), I pre W → (pre ++ [x]) <+: xs → ChS S w W → body.wpIn (Fence.wide.inRound l) (n - 1) P (postS S I (pre ++ [x]) W) (a₁ x) W)
    (hdone : ∀ W : World, I xs W → ChS S w W → w.heap.size + 1 < W.heap.size → W.heap[w.heap.size]? = some (.deferred (some [])) → ¬ S W w.heap.size → Q .normal { a with defers := { target := .collected w.heap.size, args := #[] } :: a.defers } W) :
    (Code.rangeFunc g ps assign body).wpIn Fence.wide n P Q a w := by
  refine wpIn_rangeFunc fun fn _ => ?_
  have lw := hI.lie [] w h0
  generalize hB : w.heap.size = B at *
  generalize hrec : (fun st => ({ state := st, pending := none, fn := fn, tmps := a.tmps, params := ps, assign := assign, body := body, defers := B } : Loop)) = rec
  have z1 : (w.alloc (.deferred (some []))).heap.size = B + 1 := by rw [World.size_alloc, hB]
  have z2 : ((w.alloc (.deferred (some []))).alloc (.loop (rec .ready))).heap.size = B + 2 := by rw [World.size_alloc, z1]
  have L1 : ((w.alloc (.deferred (some []))).alloc (.loop (rec .ready))).heap[B + 1]? = some (.loop (rec .ready)) := by rw [← z1]; exact World.alloc_heap_new _ _
  have K1 : ((w.alloc (.deferred (some []))).alloc (.loop (rec .ready))).heap[B]? = some (.deferred (some [])) := by
    rw [Below.heap_alloc _ _ _ (by omega), ← hB]
    exact World.alloc_heap_new _ _
  have b1 : Below w.heap.size w ((w.alloc (.deferred (some []))).alloc (.loop (rec .ready))) := ((Below.refl _ w).alloc (by omega) _).alloc (by omega) _
  obtain ⟨I1, c1⟩ := hI.grow h0 b1
  have E1 : (Instr.enterLoop fn a.tmps ps assign body none).run P w = .ok (B + 1, [{ target := .collected B, args := #[] }]) ((w.alloc (.deferred (some []))).alloc (.loop (rec .ready))) := by
    rw [run_enterLoop_outer, ← hrec, hB]
  have s1 : ∀ b, S ((w.alloc (.deferred (some []))).alloc (.loop (rec .ready))) b → b < B := fun b hb => (hI.stay [] w _ h0 b1.size (fun b hb => b1.block b (by rw [hB]; exact (lw b hb).2))).2 b hb |> fun h => (lw b h).2
  generalize (w.alloc (.deferred (some []))).alloc (.loop (rec .ready)) = W1 at *
  have toS : ∀ W, ChS (fun X b => S X b ∨ b = B ∨ b = B + 1) W1 W → ¬ S W B → ¬ S W (B + 1) → ChS S w W := fun W h n1 n2 =>
    ⟨h.os.trans c1.os, h.tape.trans c1.tape, h.output.trans c1.output, Nat.le_trans c1.size h.size,
     fun b hb hs => (h.keep b (by omega) (fun hv => by
       rcases hv with hv | hv | hv
       · exact (c1.own b hv).elim hs (fun hl => by omega)
       · omega
       · omega)).trans (c1.keep b hb hs),
     fun b hw => by
       rcases h.own b (.inl hw) with (hv | hv | hv) | hv
       · exact c1.own b hv
       · exact absurd hw (hv ▸ n1)
       · exact absurd hw (hv ▸ n2)
       · exact .inr (Nat.le_trans c1.size hv)⟩
  refine ⟨B + 1, _, W1, { target := .fn (.func gf) lb, args := #[.func (.yield (B + 1)) #[] #[]] }, W1, gf, #[.func (.yield (B + 1)) #[] #[]] ++ lb, W1, E1, ?_, fun _ _ => trivial, by simp [invoke, go_sem, eg], fun h => (by cases h), ?_⟩
  · simp only [resolve, hg]
    simp [go_sem]
  refine (hseq (n - 1) (B + 1) (fun X b => S X b ∨ b = B ∨ b = B + 1) (fun pre W => I pre W ∧ W.heap[B + 1]? = some (.loop (rec .ready)) ∧ W.heap[B]? = some (.deferred (some [])) ∧ ¬ S W B ∧ ¬ S W (B + 1)) W1 (hb0.trans (b1.mono (by omega))) ⟨?_, ?_⟩ ?_ ⟨I1, L1, K1, fun h => by have := s1 _ h; omega, fun h => by have := s1 _ h; omega⟩).mono ?_
  · rintro pre X ⟨i, l, -⟩ b (hb | rfl | rfl)
    · exact hI.lie pre X i b hb
    · exact ⟨hn0, by have := (Array.getElem?_eq_some_iff.1 l).1; omega⟩
    · exact ⟨by omega, (Array.getElem?_eq_some_iff.1 l).1⟩
  · rintro pre X Y ⟨i, l, k, nb, nb'⟩ hs hk
    obtain ⟨i', s'⟩ := hI.stay pre X Y i hs (fun b hb => hk b (.inl hb))
    exact ⟨⟨i', (hk _ (.inr (.inr rfl))).trans l, (hk _ (.inr (.inl rfl))).trans k, fun h => nb (s' _ h), fun h => nb' (s' _ h)⟩, fun b hb => hb.elim (fun h => .inl (s' b h)) .inr⟩
  · rintro pre x W ⟨hi, hl, hk, nb, nb'⟩ hpre hW
    have lt := (Array.getElem?_eq_some_iff.1 hl).1
    have hy := run_yield (P := P) (args := #[txv x]) hl (by rw [← hrec]; simp [hps])
    refine ⟨_, _, _, _, hy, ?_⟩
    rw [← hrec]
    refine roundIn_of_wpIn trivial (hassign _ x W _ ⟨_, run_beginRound hl (by rw [← hrec]), ?_⟩)
    have l2 : (W.putObj (B + 1) (.loop { rec .ready with state := .busy })).heap[B + 1]? = some (.loop { rec .ready with state := .busy }) := World.putObj_heap_same lt
    have k2 : (W.putObj (B + 1) (.loop { rec .ready with state := .busy })).heap[B]? = some (.deferred (some [])) := (World.putObj_heap_other (by omega)).trans hk
    obtain ⟨i2, s2⟩ := hI.put hi nb' (.loop { rec .ready with state := .busy })
    have b2 : Below (B + 1) W (W.putObj (B + 1) (.loop { rec .ready with state := .busy })) := below_put (by omega)
    have o2 : ∀ b, b ≠ B + 1 → (W.putObj (B + 1) (.loop { rec .ready with state := .busy })).heap[b]? = W.heap[b]? := fun b hb => World.putObj_heap_other (by omega)
    have z3 : (W.putObj (B + 1) (.loop { rec .ready with state := .busy })).heap.size = W.heap.size := by simp
    have cW := toS W hW nb nb'
    have cb : ChS S w (W.putObj (B + 1) (.loop { rec .ready with state := .busy })) :=
      ⟨b2.os.trans cW.os, b2.tape.trans cW.tape, b2.output.trans cW.output, Nat.le_trans cW.size b2.size, fun b hb hs => (o2 b (by omega)).trans (cW.keep b hb hs), fun b hb => cW.own b (s2 b hb)⟩
    generalize W.putObj (B + 1) (.loop { rec .ready with state := .busy }) = Wb at *
    refine wpIn_mono (hbody _ pre x _ i2 hpre cb) ?_
    rintro e a3 W3 hp
    cases e with
    | normal =>
      obtain ⟨i3, c3⟩ := hp
      have n3 : ¬ S W3 (B + 1) := fun h => (c3.own _ h).elim (fun h => nb' (s2 _ h)) (fun h => by omega)
      have n3' : ¬ S W3 B := fun h => (c3.own _ h).elim (fun h => nb (s2 _ h)) (fun h => by omega)
      have l3 := (c3.keep (B + 1) (by omega) (fun h => nb' (s2 _ h))).trans l2
      have d3 := (c3.keep B (by omega) (fun h => nb (s2 _ h))).trans k2
      have lt3 := (Array.getElem?_eq_some_iff.1 l3).1
      have er := run_endRound (P := P) none l3
      have P4 := fun o => hI.put i3 n3 o
      refine ⟨_, _, er, rfl, ⟨(P4 _).1, ?_, (World.putObj_heap_other (by omega)).trans d3, fun h => n3' ((P4 _).2 _ h), fun h => n3 ((P4 _).2 _ h)⟩, ?_⟩
      · rw [World.putObj_heap_same lt3, ← hrec]
        rfl
      · have b4 : ∀ o, Below (B + 1) W3 (W3.putObj (B + 1) o) := fun o => below_put (by omega)
        refine ⟨(b4 _).os.trans (c3.os.trans b2.os), (b4 _).tape.trans (c3.tape.trans b2.tape), (b4 _).output.trans (c3.output.trans b2.output), by have := c3.size; simp; omega, fun b hb hs => ?_, fun b hb => ?_⟩
        · have h1 : b ≠ B := fun e => hs (.inr (.inl e))
          have h2 : b ≠ B + 1 := fun e => hs (.inr (.inr e))
          have h3 : ¬ S W b := fun e => hs (.inl e)
          exact (World.putObj_heap_other (by omega)).trans ((c3.keep b (by omega) (fun h => h3 (s2 b h))).trans (o2 b h2))
        · rcases hb with hb | hb
          · rcases c3.own b ((P4 _).2 b hb) with h | h
            · exact .inl (.inl (s2 b h))
            · exact .inr (by omega)
          · exact .inl (.inr hb)
    | ret => exact hp.elim
    | exit id => exact hp.elim
    | goto t => exact hp.elim
    | panic ch => exact hp.elim
    | outgrown => exact hp.elim
  · rintro e W2 ⟨⟨v, rfl⟩, ⟨hi, hl, hk, nb, nb'⟩, hb2⟩
    have lt := (Array.getElem?_eq_some_iff.1 hl).1
    refine ⟨none, W2.putObj (B + 1) (.loop { rec .ready with state := .exhausted }), ?_, ?_⟩
    · have := run_endLoop (P := P) hl (by rw [← hrec]; simp)
      rw [this, ← hrec]
    · obtain ⟨i5, s5⟩ := hI.put hi nb' (.loop { rec .ready with state := .exhausted })
      have b5 : Below (B + 1) W2 (W2.putObj (B + 1) (.loop { rec .ready with state := .exhausted })) := below_put (by omega)
      have cW := toS W2 hb2 nb nb'
      exact hdone _ i5 ⟨b5.os.trans cW.os, b5.tape.trans cW.tape, b5.output.trans cW.output, Nat.le_trans cW.size b5.size, fun b hb hs => (World.putObj_heap_other (by omega)).trans (cW.keep b hb hs), fun b hb => cW.own b (s5 b hb)⟩ (by simp; omega) ((World.putObj_heap_other (by omega)).trans hk) (fun h => nb (s5 _ h))
end Go.Proofs.YtpbniihhpfbamaaDoor

/-
  slices.Values over texts, as an iterator that is walked to its end.
-/
namespace Go.Proofs.YtpbniihhpfbamaaDoor
set_option maxRecDepth 100000
open Go Go.RowKit Go.Shelf
attribute [local go_sem] Oper.semAt_some

theorem txv_tx (l : List UInt8) : txv l = tx l := rfl
set_option maxRecDepth 100000 in
set_option maxHeartbeats 2000000 in
theorem values_seq (w : World) (b g : Nat) (a : Option Addr) (c B n0 : Nat) (xs : List (List UInt8)) (hb : RwC w b [.slice a xs.length c] 48) (hbn : b < n0) (hr : RdT w g a xs) (hg : 0 < xs.length → g < n0) (hgt : 0 < xs.length → ∀ cs fz, w.heap[g]? ≠ some (.cells cs 63 fz)) (hN : xs.length ≤ 1000000000) (hn0 : n0 ≤ w.heap.size) :
    SeqX Tryd.prog 57 #[.pointer (some ⟨b, 0, none⟩)] B n0 xs w := by
  intro n l S J W hW hA hY h0
  have BL : ∀ W', ChS S W W' → Below n0 W W' := fun W' h => h.below (fun b hb => (hA.lie [] W h0 b hb).1) (Nat.le_trans hn0 hW.size)
  have hbW : W.cell? ⟨b, 0, none⟩ = some (.slice a xs.length c) := (World.cell?_of_block (a := ⟨b, 0, none⟩) (hW.block b hbn (.inr fun cs fz e => by
    rw [show w.heap[b]? = _ from hb] at e
    simp at e))).trans (hb.cell 0)
  have hrW : ∀ W', Below n0 W W' → RdT W' g a xs := fun W' h => by
    by_cases hl : 0 < xs.length
    · exact hr.of_block ((h.block g (hg hl)).trans (hW.block g (hg hl) (.inr (hgt hl))))
    · exact fun h1 => absurd h1 hl
  clear hr hb hgt
  refine callsIn_of_wp Tryd.func57 rfl trivial ?_ rfl
  simp only [Tryd.ntmps57, List.size_toArray, List.length_cons, List.length_nil, Nat.reduceAdd, Nat.reduceSub, Array.replicate_succ, Array.replicate_zero, List.push_toArray, List.append_toArray, List.nil_append, List.cons_append]
  gi_wp2
  gi_loopw [7] (fun i wr => ∃ k : Nat, k ≤ xs.length ∧ i = .int .i64 (k : Int) ∧ Hid (J (xs.take k) wr ∧ ChS S W wr)) (fun i _ => xs.length - (intOf i).toNat)
  case atStart => exact ⟨0, Nat.zero_le _, rfl, by rw [List.take_zero]; exact h0, ChS.refl _ _⟩
  case round =>
    obtain ⟨k, hk, rfl, HJ⟩ := hrel
    by_cases hlt : k < xs.length
    · have k0 : (k : Int) < (xs.length : Int) := by omega
      have k0' : decide ((k : Int) < (xs.length : Int)) = true := decide_eq_true k0
      have k1 : IntKind.i64.wrap ((k : Int) + 1) = ((k + 1 : Nat) : Int) := by rw [IntKind.wrap_i64]; omega
      obtain ⟨off, rfl, hc⟩ := hrW wr (BL wr HJ.out.2) (by omega)
      have hx := hc k hlt
      have TK : Hid (xs.take (k + 1) = xs.take k ++ [xs.getD k []]) := by
        show _ = _
        rw [List.take_add_one, List.getD_eq_getElem?_getD, List.getElem?_eq_getElem hlt]
        rfl
      obtain ⟨fn, tmps, assign, body, hy, hR⟩ := hY (xs.take k) (xs.getD k []) wr HJ.out.1 (by rw [← TK.out]; exact List.take_prefix _ _) HJ.out.2
      rw [← TK.out] at hR
      unfold txv at hy
      unfold tx at hx
      generalize xs.getD k [] = x at *
      clear hc TK
      gi_wp2
      refine ⟨fun h => (by cases h), (round_any hR).mono ?_⟩
      rintro e W3 ⟨rfl, hJ3, hb3⟩
      have HJ3 : Hid (J (xs.take (k + 1)) W3 ∧ ChS S W W3) := ⟨hJ3, HJ.out.2.trans hb3⟩
      clear HJ hJ3 hb3
      gi_wp2
      go_roundw
      case rel => exact ⟨k + 1, by omega, by first | rfl | go_num, HJ3⟩
      case measure => simp [intOf]; omega
    · obtain rfl : k = xs.length := by omega
      have k0 : ¬ (xs.length : Int) < (xs.length : Int) := by omega
      gi_wp2
      go_end0
      have := HJ.out
      rw [List.take_length] at this
      exact ⟨⟨_, rfl⟩, this⟩
end Go.Proofs.YtpbniihhpfbamaaDoor

/-
  Iterators over lines: what is made.
-/
namespace Go.Proofs.YtpbniihhpfbamaaDoor
set_option maxRecDepth 100000
open Go Go.RowKit

/-- An iterator over the texts ls, as a value. -/
def SqV (ls : List (List UInt8)) (v : Value) (w : World) : Prop := ∃ gf lb n0, v = .func (.func gf) #[] lb ∧ n0 ≤ w.heap.size ∧ enters Tryd.prog gf = true ∧ SeqS Tryd.prog gf lb n0 ls w
theorem SqV.up {ls : List (List UInt8)} {v : Value} {w w' : World} (h : SqV ls v w) (n : Below w.heap.size w w') : SqV ls v w' := by
  obtain ⟨gf, lb, n0, e, h0, en, s⟩ := h
  exact ⟨gf, lb, n0, e, Nat.le_trans h0 n.size, en, s.up (n.mono h0)⟩
/-- The same, whatever becomes of rows of iterators at B or above. -/
def SqX (B : Nat) (ls : List (List UInt8)) (v : Value) (w : World) : Prop := ∃ gf lb n0, v = .func (.func gf) #[] lb ∧ n0 ≤ w.heap.size ∧ enters Tryd.prog gf = true ∧ SeqX Tryd.prog gf lb B n0 ls w
theorem SqX.bel {B : Nat} {ls : List (List UInt8)} {v : Value} {w w' : World} (h : SqX B ls v w) (n : Bel B w.heap.size w w') : SqX B ls v w' := by
  obtain ⟨gf, lb, n0, e, h0, en, s⟩ := h
  exact ⟨gf, lb, n0, e, Nat.le_trans h0 n.size, en, s.up (n.mono h0)⟩
theorem SqX.up {B : Nat} {ls : List (List UInt8)} {v : Value} {w w' : World} (h : SqX B ls v w) (n : Below w.heap.size w w') : SqX B ls v w' := h.bel (Below.bel n)
theorem SqX.toV {B : Nat} {ls : List (List UInt8)} {v : Value} {w : World} (h : SqX B ls v w) : SqV ls v w := by
  obtain ⟨gf, lb, n0, e, h0, en, s⟩ := h
  exact ⟨gf, lb, n0, e, h0, en, s.toS⟩
theorem values_any (w : World) (g : Nat) (a : Option Addr) (c B : Nat) (ls : List (List UInt8)) (hr : RdT w g a ls) (hg : 0 < ls.length → g < w.heap.size) (hgt : 0 < ls.length → ∀ cs fz, w.heap[g]? ≠ some (.cells cs 63 fz)) (hN : ls.length ≤ 1000000000) :
    Calls Tryd.prog 39 #[.slice a ls.length c] w fun e w' => (∃ v, e = .returned v ∧ SqX B ls v w') ∧ Below w.heap.size w w' := by
  have n1 : Below w.heap.size w (w.alloc (.cells #[.slice a ls.length c] 48)) := (Below.refl _ _).alloc (Nat.le_refl _) _
  have cb := RwC.new w [.slice a ls.length c] 48
  have z1 : (w.alloc (.cells #[.slice a ls.length c] 48)).heap.size = w.heap.size + 1 := World.size_alloc _ _
  have S := hide (values_seq _ w.heap.size g a c B (w.heap.size + 1) ls cb (Nat.lt_succ_self _) (hr.up n1) (fun h => Nat.lt_succ_of_lt (hg h)) (fun h cs fz => by rw [n1.block g (hg h)]; exact hgt h cs fz) hN (Nat.le_of_eq z1.symm))
  have N1 := hide n1
  have Z1 := hide z1
  clear n1 z1 cb hr hg hgt
  go_enter Tryd.func39, Tryd.ntmps39
  go_wp2
  go_ret
  exact ⟨⟨_, rfl, _, _, _, rfl, Nat.le_of_eq Z1.out.symm, by kernel_rfl, S.out⟩, N1.out⟩
theorem blkT_ne {w : World} {q : Nat} {ls : List (List UInt8)} (h : BlkT w q ls) : ∀ cs fz, w.heap[q]? ≠ some (.cells cs 63 fz) := fun cs fz e => by
  rw [show w.heap[q]? = _ from h] at e
  simp at e
theorem single_any (w : World) (B : Nat) (l : List UInt8) :
    Calls Tryd.prog 22 #[tx l] w fun e w' => (∃ v, e = .returned v ∧ SqX B [l] v w') ∧ Below w.heap.size w w' := by
  have n1 : Below w.heap.size w (w.alloc (.cells #[tx l] 9)) := (Below.refl _ _).alloc (Nat.le_refl _) _
  have B1 : BlkT (w.alloc (.cells #[tx l] 9)) w.heap.size [l] := heap_alloc_new w _
  have V : Hid (Calls Tryd.prog 39 #[.slice (some ⟨w.heap.size, 0, none⟩) 1 1] (w.alloc (.cells #[tx l] 9)) _) := values_any _ w.heap.size (some ⟨w.heap.size, 0, none⟩) 1 B [l] B1.rd (fun _ => B1.lt) (fun _ => blkT_ne B1) (by simp)
  have B0 := bsT1 w l
  have N1 := hide n1
  clear n1 B1
  go_enter Tryd.func22, Tryd.ntmps22
  unfold tx at *
  go_wp2_with fail
  refine V.out.mono ?_
  rintro e w2 ⟨⟨v, rfl, S⟩, n2⟩
  have S := hide S
  have NN := hide (nxt N1.out n2)
  clear n2 V
  go_wp2
  go_ret
  exact ⟨⟨_, rfl, S.out⟩, NN.out⟩
/-- An iterator, made in the region. -/
def FSq (B : Nat) (ls : List (List UInt8)) : Fact := ⟨SqX B ls, fun n h => h.up n⟩
end Go.Proofs.YtpbniihhpfbamaaDoor
