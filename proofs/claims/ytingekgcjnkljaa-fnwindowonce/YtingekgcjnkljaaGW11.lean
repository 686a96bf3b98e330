import Derived.Test.YtingekgcjnkljaaGW10
import Derived.Test.YtingekgcjnkljaaGWxWaE
import Derived.BigQuiet
import Derived.Test.YtingekgcjnkljaaGW1
import Derived.RangeFuncNested
import Derived.RangeFuncBound
import Derived.RangeFuncCalls
import Derived.RangeFuncLeaves
import Derived.RangeFuncWrites
import Derived.Shelf.Abstract
import Derived.WalkKit
import Derived.OwnWalkIn
import Derived.TacticsInMore
import Derived.LoopNIn
import Derived.LoopIn

/-
  Windows that are asked: two ids are told apart by the places of their marks.
-/
namespace Go.Proofs.Ytingekgcjnkljaa
open Go Go.RowKit Go.Maps Go.Sort

set_option maxRecDepth 100000 in
theorem fldP0 (p u : Int) (w : World) : (Instr.field 53 (.agg #[.int .i64 p, .int .i64 u]) 0).run Try.prog w = .ok (.int .i64 p) w := by kernel_rfl
set_option maxRecDepth 100000 in
theorem fldP1 (p u : Int) (w : World) : (Instr.field 53 (.agg #[.int .i64 p, .int .i64 u]) 1).run Try.prog w = .ok (.int .i64 u) w := by kernel_rfl
set_option maxRecDepth 100000 in
theorem isNaN_any (w : World) (a : Int) : Calls Try.prog 37 #[.int .i64 a] w fun e w' => e = .returned (.bool false) ∧ w' = w := by
  have h : (a != a) = false := by simp
  go_enter Try.func37, Try.ntmps37
  go_wp2
  go_ret
  exact ⟨by simp, rfl⟩
set_option maxRecDepth 100000 in
theorem compare_any (w : World) (a b : Int) : Calls Try.prog 32 #[.int .i64 a, .int .i64 b] w fun e w' => e = .returned (.int .i64 (Lib.compareInt a b)) ∧ w' = w := by
  have N1 := hide (isNaN_any w a)
  have N2 := hide (isNaN_any w b)
  by_cases h1 : a < b
  · have u1 : decide (a < b) = true := decide_eq_true h1
    have r : Lib.compareInt a b = -1 := by unfold Lib.compareInt; simp [h1]
    have R := hide r
    clear r
    go_enter Try.func32, Try.ntmps32
    go_wp2_with fail
    refine N1.out.mono ?_
    rintro e w1 ⟨rfl, rfl⟩
    go_wp2_with fail
    refine N2.out.mono ?_
    rintro e w2 ⟨rfl, rfl⟩
    go_wp2
    go_ret
    exact ⟨by rw [R.out]; rfl, rfl⟩
  · have u1 : decide (a < b) = false := decide_eq_false h1
    by_cases h2 : b < a
    · have u2 : decide (b < a) = true := decide_eq_true h2
      have r : Lib.compareInt a b = 1 := by unfold Lib.compareInt; simp [h1, h2]
      have R := hide r
      clear r
      go_enter Try.func32, Try.ntmps32
      go_wp2_with fail
      refine N1.out.mono ?_
      rintro e w1 ⟨rfl, rfl⟩
      go_wp2_with fail
      refine N2.out.mono ?_
      rintro e w2 ⟨rfl, rfl⟩
      go_wp2
      go_ret
      exact ⟨by rw [R.out]; rfl, rfl⟩
    · have u2 : decide (b < a) = false := decide_eq_false h2
      have r : Lib.compareInt a b = 0 := by unfold Lib.compareInt; simp [h1, h2]
      have R := hide r
      clear r
      go_enter Try.func32, Try.ntmps32
      go_wp2_with fail
      refine N1.out.mono ?_
      rintro e w1 ⟨rfl, rfl⟩
      go_wp2_with fail
      refine N2.out.mono ?_
      rintro e w2 ⟨rfl, rfl⟩
      go_wp2
      go_ret
      exact ⟨by rw [R.out]; rfl, rfl⟩
theorem quiet_load58 {C : World → Prop} {next : Act → Prop} {a : Act} {o : Oper} (x : Operand) (ho : o.op = .load 56 x) (q : Nat) (hx : a.eval x = .pointer (some ⟨q, 0, none⟩)) (cs : List Value) (hl : cs.length = 32) (hc : ∀ w, C w → w.rangeAt q 0 cs) (hn : next (a.put o.dst (.agg cs.toArray))) : o.quiet Try.prog a C next := by
  refine ⟨.agg cs.toArray, fun w hw => ?_, hn⟩
  unfold Oper.quietAt execOp
  simp only [ho, hx, Instr.loadAt, Instr.sureAddr, Sem.run_bind, Sem.run_pure, Result.andThen_ok, run_loadVar_mid w q 0 56 cs _ (hc w hw) uId rfl (by rw [hl]; exact iId)]
  exact ⟨rfl, rfl⟩
set_option maxRecDepth 100000 in
theorem closure_any (W : World) (s b n : Nat) (D : DataW Unit) (x y : List Int) (hx : x.length = 32) (bx : Byt x) (hy : y.length = 32) (by' : Byt y) (hs : W.cell? ⟨s, 0, none⟩ = some (.map (some b))) (own : W.ownsMap Try.prog 56 pmR b n D) (p u p' u' : Int) (e1 : D.atKey (keyL x) (pmD 0 0) = pmD p u) (e2 : D.atKey (keyL y) (pmD 0 0) = pmD p' u') :
    Calls Try.prog 31 #[idV x, idV y, .pointer (some ⟨s, 0, none⟩)] W fun e w' => e = .returned (.int .i64 (Lib.compareInt p p')) ∧ ∃ q os', w' = grow (W.drewN q) os' := by
  obtain ⟨cs, hcs⟩ : ∃ cs, cs = x.map (Value.int .u8) := ⟨_, rfl⟩
  obtain ⟨ds, hds⟩ : ∃ ds, ds = y.map (Value.int .u8) := ⟨_, rfl⟩
  have ev : idV x = .agg cs.toArray := by rw [hcs]; rfl
  have ew : idV y = .agg ds.toArray := by rw [hds]; rfl
  have cl : cs.length = 32 := by rw [hcs, List.length_map]; exact hx
  have dl : ds.length = 32 := by rw [hds, List.length_map]; exact hy
  have K1 := hide (keyL_some hx bx)
  have K2 := hide (keyL_some hy by')
  rw [ev] at K1
  rw [ew] at K2
  rw [ev, ew]
  have n1 : Below W.heap.size W ((W.alloc (.cells cs.toArray 56)).alloc (.cells ds.toArray 56)) := ((Below.refl _ _).alloc (Nat.le_refl _) _).alloc (by simp) _
  have z1 : (W.alloc (.cells cs.toArray 56)).heap.size = W.heap.size + 1 := by simp
  have T0 : RwC ((W.alloc (.cells cs.toArray 56)).alloc (.cells ds.toArray 56)) W.heap.size cs 56 := (RwC.new W _ _).push _
  have U0 : RwC ((W.alloc (.cells cs.toArray 56)).alloc (.cells ds.toArray 56)) (W.heap.size + 1) ds 56 := by
    have h := RwC.new (W.alloc (.cells cs.toArray 56)) ds 56
    rwa [z1] at h
  have S1 := (n1.cell (block_lt_of_cell hs)).trans hs
  have GR : Hid (∀ q, ((W.alloc (.cells cs.toArray 56)).alloc (.cells ds.toArray 56)).drewN q = grow (W.drewN q) #[.cells cs.toArray 56, .cells ds.toArray 56]) := fun q => by
    show World.drewN _ _ = _
    rw [alloc_eq_grow, alloc_eq_grow, grow_grow]
    rfl
  have CP := fun W' => hide (compare_any W' p p')
  clear hcs hds ev ew
  go_enter Try.func31, Try.ntmps31
  go_upto_region 1 with fail
  try rw [z1]
  generalize (W.alloc (.cells cs.toArray 56)).alloc (.cells ds.toArray 56) = W1 at *
  have OW := ownP own n1
  have L1 : Hid (∀ w', (∃ n, w' = W1.drewN n) → w'.rangeAt W.heap.size 0 cs) := fun w' ⟨n, e⟩ => by rw [e]; exact (T0.drews n).rangeG
  have L2 : Hid (∀ w', (∃ n, w' = W1.drewN n) → w'.rangeAt (W.heap.size + 1) 0 ds) := fun w' ⟨n, e⟩ => by rw [e]; exact (U0.drews n).rangeG
  have CL := hide cl
  have DL := hide dl
  have M1 : ∀ n, (Instr.lookup 47 (.map (some b)) (.agg cs.toArray) false).run Try.prog (W1.drewN n) = .ok (.agg #[.int .i64 p, .int .i64 u]) (W1.drewN n) := fun n => by
    obtain ⟨a, c, h1, h2⟩ := look_book0 (ownP OW (below_drewN (Below.refl _ _) n)) K1.out
    obtain ⟨rfl, rfl⟩ := pmD_inj (e1.symm.trans h2)
    exact h1
  have M2 : ∀ n, (Instr.lookup 47 (.map (some b)) (.agg ds.toArray) false).run Try.prog (W1.drewN n) = .ok (.agg #[.int .i64 p', .int .i64 u']) (W1.drewN n) := fun n => by
    obtain ⟨a, c, h1, h2⟩ := look_book0 (ownP OW (below_drewN (Below.refl _ _) n)) K2.out
    obtain ⟨rfl, rfl⟩ := pmD_inj (e2.symm.trans h2)
    exact h1
  clear z1 n1 T0 U0 OW own K1 K2 cl dl e1 e2
  generalize hsz : W.heap.size = s0 at *
  clear hsz
  have F1 := fldP0 p u
  have F2 := fldP0 p' u'
  refine wp_region_quiet_lit (by kernel_rfl) (by kernel_rfl) ?_
  go_big_quiet_step (fail)
  go_big_quiet_want
  refine quiet_load58 (.tmp 3) rfl s0 rfl cs CL.out L1.out ?_
  go_frame
  go_big_quiet_on
  go_big_quiet_step (fail)
  go_big_quiet_step (fail)
  go_big_quiet_step (fail)
  go_big_quiet_want
  refine quiet_load58 (.tmp 4) rfl (s0 + 1) rfl ds DL.out L2.out ?_
  go_frame
  go_big_quiet_on
  go_big_quiet_step (fail)
  go_big_quiet_step (fail)
  go_big_quiet_step ((go_at_call 32; refine (CP _).out.mono ?_; rintro e w' ⟨rfl, rfl⟩; exact ⟨rfl, _, rfl⟩))
  go_big_quiet_step (fail)
  refine wpQuiet_nil ?_
  intro _ hw'
  obtain ⟨nq, hw''⟩ := hw'
  subst hw''
  go_wp2
  go_ret
  exact ⟨rfl, nq, _, GR.out nq⟩
end Go.Proofs.Ytingekgcjnkljaa

/-
  Windows that are asked: ids sorted by the places of their marks.
-/
namespace Go.Proofs.Ytingekgcjnkljaa
open Go Go.RowKit Go.Maps Go.Sort

abbrev Id32 : Type := { x : List Int // x.length = 32 ∧ Byt x }
set_option maxRecDepth 100000 in
def encI (x : Id32) : List Value := x.1.map (Value.int .u8)
set_option maxRecDepth 100000 in
theorem encI_len (x : Id32) : (encI x).length = 32 := by unfold encI; rw [List.length_map]; exact x.2.1
set_option maxRecDepth 100000 in
theorem encI_one (x : Id32) : ∀ v ∈ encI x, v.oneCell' = true := fun v hv => by
  obtain ⟨y, _, rfl⟩ := List.mem_map.1 hv
  rfl
set_option maxRecDepth 100000 in
def plD : DataW Unit → Int
  | .agg [.lit (.int .i64 p), _] => p
  | _ => 0
set_option maxRecDepth 100000 in
theorem plD_mk (p u : Int) : plD (pmD p u) = p := rfl
def id0 : Id32 := ⟨List.replicate 32 0, by simp, fun i => by
  rw [List.getD_eq_getElem?_getD, List.getElem?_replicate]
  split <;> decide⟩
set_option maxRecDepth 100000 in
def plOf (D : DataW Unit) (x : List Int) : Int := plD (D.atKey (keyL x) (pmD 0 0))
set_option maxRecDepth 100000 in
def cfD (D : DataW Unit) (x y : Id32) : Int := Lib.compareInt (plOf D x.1) (plOf D y.1)
set_option maxRecDepth 100000 in
theorem lt_cfD (D : DataW Unit) (x y : Id32) : ltOf (cfD D) x y = decide (plOf D x.1 < plOf D y.1) := by
  unfold ltOf cfD Lib.compareInt
  by_cases h1 : plOf D x.1 < plOf D y.1
  · simp [h1]
  · by_cases h2 : plOf D y.1 < plOf D x.1 <;> simp [h1, h2]
set_option maxRecDepth 100000 in
theorem swo_cfD (D : DataW Unit) : SWO (ltOf (cfD D)) where
  irrefl x := by rw [lt_cfD]; simp
  trans x y z h1 h2 := by rw [lt_cfD] at *; simp at *; omega
  ntrans x y z h1 h2 := by rw [lt_cfD] at *; simp at *; omega
set_option maxRecDepth 100000 in
theorem grown_K [Inhabited Id32] {w : World} {g off n : Nat} {os : Array Obj} (d : Array Id32) : w.grownBy (sortWorldK encI 32 w g off n d os) (some g) := by
  have h1 : ∀ k, k ≠ g → (putRowK encI 32 (Sort.ahead w n) g off d).heap[k]? = w.heap[k]? := fun k hk => by
    unfold putRowK putRow mapBlock
    show (w.heap.modify g _)[k]? = _
    rw [Array.getElem?_modify, if_neg (by omega)]
  have h2 : (putRowK encI 32 (Sort.ahead w n) g off d).heap.size = w.heap.size := by
    unfold putRowK putRow mapBlock
    show (w.heap.modify g _).size = _
    rw [Array.size_modify]
  refine ⟨rfl, rfl, rfl, ?_, fun k hk hne => ?_⟩
  · unfold sortWorldK
    rw [size_grow, h2]
    omega
  · unfold sortWorldK
    rw [heap_grow_old _ _ (by rw [h2]; exact hk)]
    exact h1 k (fun e => hne (by rw [e]))
set_option maxRecDepth 100000 in
theorem own_gr {w w' : World} {b n g : Nat} {D : DataW Unit} (h : w.ownsMap Try.prog 56 pmR b n D) (m : w.grownBy w' (some g)) (hne : b ≠ g) : w'.ownsMap Try.prog 56 pmR b n D := by
  obtain ⟨es, clock, hb, h⟩ := h
  exact ⟨es, clock, (m.block b (Array.getElem?_eq_some_iff.1 hb).1 (by simpa using hne)).trans hb, h⟩
set_option maxRecDepth 100000 in
theorem cmpLays [Inhabited Id32] (D : DataW Unit) (s b n g off size : Nat) (w : World) (hs : w.cell? ⟨s, 0, none⟩ = some (.map (some b))) (own : w.ownsMap Try.prog 56 pmR b n D) (hsg : s ≠ g) (hbg : b ≠ g) : CmpLays Try.prog 31 #[.pointer (some ⟨s, 0, none⟩)] encI 32 (cfD D) g off size w := by
  intro m os dk _ x y
  obtain ⟨p, u, -, e1⟩ := look_book0 own (keyL_some x.2.1 x.2.2)
  obtain ⟨p', u', -, e2⟩ := look_book0 own (keyL_some y.2.1 y.2.2)
  have ec : cfD D x y = Lib.compareInt p p' := by unfold cfD plOf; rw [e1, e2]; rfl
  rw [ec]
  have gr := grown_K (w := w) (g := g) (off := off) (n := m) (os := os) dk
  exact closure_any _ s b n D x.1 y.1 x.2.1 x.2.2 y.2.1 y.2.2 ((World.cell?_of_block (a := ⟨s, 0, none⟩) (gr.block s (block_lt_of_cell hs) (by simpa using hsg))).trans hs) (own_gr own gr hbg) p u p' u' e1 e2
set_option maxRecDepth 100000 in
theorem aggId (w : World) : (isAgg 56).run Try.prog w = .ok true w := by kernel_rfl
set_option maxRecDepth 100000 in
theorem szId (w : World) : (Go.sizeOf 56).run Try.prog w = .ok 32 w := by kernel_rfl
set_option maxRecDepth 100000 in
theorem sortIds_any [Inhabited Id32] (D : DataW Unit) (s b n g cap : Nat) (d : Array Id32) (w : World) (hs : w.cell? ⟨s, 0, none⟩ = some (.map (some b))) (own : w.ownsMap Try.prog 56 pmR b n D) (hsg : s ≠ g) (hbg : b ≠ g) (hH : HoldsK encI 32 w g 0 d) (hg : g < w.heap.size) (hz : d.size < 4611686018427387904) :
    Calls Try.prog 39 #[.slice (some ⟨g, 0, none⟩) d.size cap, .func (.func 31) #[] #[.pointer (some ⟨s, 0, none⟩)]] w fun e w' => e = .returned (.tuple #[]) ∧ ∃ d' : Array Id32, d'.toList.Perm d.toList ∧ (∀ i j, i < j → j < d.size → plOf D (d'[i]!).1 ≤ plOf D (d'[j]!).1) ∧ HoldsK encI 32 w' g 0 d' ∧ w.grownBy w' (some g) := by
  have eg : ∀ args w, (callFunc 31 args).run Try.prog w = .ok (.enter 31 args) w := enters_of Try.func31 (by kernel_rfl) rfl
  refine (AnyQ.slices_SortFunc Try.sortId 32 aggId szId encI encI_len encI_one (cfD D) (swo_cfD D) 31 #[.pointer (some ⟨s, 0, none⟩)] g 0 cap d w eg (cmpLays D s b n g 0 d.size w hs own hsg hbg) hH hg hz).mono ?_
  rintro e w' ⟨rfl, d', m, os, hp, hso, rfl⟩
  obtain ⟨p1, -, p3⟩ := hp
  refine ⟨rfl, d', ?_, fun i j hi hj => ?_, ?_, grown_K d'⟩
  · have x1 : d'.extract 0 d.size = d' := by rw [← p1]; simp
    have x2 : d.extract 0 d.size = d := by simp
    rw [x1, x2] at p3
    exact p3
  · have := hso i j (Nat.zero_le _) hi hj
    rw [lt_cfD] at this
    simpa using this
  · unfold sortWorldK
    refine holdsK_grow _ _ _ _ _ _ _ ?_ (holdsK_putRowK _ _ _ _ _ d d' hH p1)
    show g < ((Sort.ahead w m).heap.modify g _).size
    rw [Array.size_modify]
    exact hg
end Go.Proofs.Ytingekgcjnkljaa

/-
  A body of a round over a function that is walked as any other code: straight operations without deferring.
-/
namespace Go.Proofs.Ytingekgcjnkljaa
open Go Go.RowKit

section
variable {P : Program} {ops : Array Oper} {Q : Exit → Act → World → Prop} {n l : Nat}
theorem op_in {o : Oper} {a : Act} {w : World} {K : Act → World → Prop} (hd : ∀ c, o.op ≠ .defer c) (h : o.wp P a w K Q) : o.wpIn (Fence.wide.inRound l) n P a w K Q := by
  refine ⟨fun _ _ => trivial, ?_⟩
  rw [Oper.semAt_plain (Fence.wide.inRound l) _ _ hd]
  unfold Oper.wp at h
  generalize (execOp a.eval o).run P w = r at *
  cases r with
  | ok x w' =>
    cases x with
    | value v => exact h
    | skip => exact h
    | defer d => exact h
    | enter f args => exact ⟨fun h' => by simp [Fence.wide] at h', CallsIn.inRound l (callsIn_wide.2 h)⟩
    | row row args =>
      refine ⟨fun h' => by simp [Fence.wide] at h', fun c cs _ => ?_⟩
      obtain ⟨v, w', r, s⟩ := h c cs
      exact ⟨v, w', r, stepsIn_wide.2 s⟩
    | _ => exact h.elim
  | halt x w' =>
    cases x with
    | panic v => exact h
    | _ => exact h.elim
theorem list_in (hq : ¬ LetsOut Q) : ∀ (rest : List Oper) (a : Act) (w : World), (∀ o ∈ rest, ∀ c, o.op ≠ .defer c) → wpList P ops Q rest a w → wpListIn (Fence.wide.inRound l) n P ops Q rest a w
  | [], _, _, _, h => h
  | o :: rest, a, w, hd, h => by
    unfold wpList at h
    unfold wpListIn
    split at h
    · rename_i hw
      rw [if_pos hw]
      rcases h with h | h
      · refine op_in (hd o (by simp)) ?_
        exact Oper.wp_mono (fun a' w' h' => list_in hq rest a' w' (fun o' ho' => hd o' (by simp [ho'])) h') h
      · exact absurd h.2 hq
    · rename_i hw
      rw [if_neg hw]
      exact ⟨fun _ _ => trivial, list_in hq rest _ _ (fun o' ho' => hd o' (by simp [ho'])) h⟩
/-- No deferring. -/
def noDefer (ops : List Oper) : Bool := ops.all fun o => match o.op with | .defer _ => false | _ => true
theorem region_in {id : Nat} {a : Act} {w : World} (ops : List Oper) (hq : ¬ LetsOut Q) (hd : noDefer ops = true) (h : wpList P ops.toArray Q ops a w) : (Code.region id ops.toArray false).wpIn (Fence.wide.inRound l) n P Q a w := by
  refine wpIn_region_lit (list_in hq _ _ _ (fun o ho c e => ?_) h)
  have := List.all_eq_true.1 hd o ho
  rw [e] at this
  simp at this
end
end Go.Proofs.Ytingekgcjnkljaa
