
/-
  Windows that are asked: two ids are told apart by the places of their marks.
-/
import Derived.Test.YtjjoimlnpbelpaaWaD
import Derived.Test.YtjjoimlnpbelpaaWaE
import Derived.BigQuiet
namespace Go.Proofs.Ytjjoimlnpbelpaa
open Go Go.RowKit Go.Maps Go.Sort

set_option maxRecDepth 100000 in
theorem fldP0 (p u : Int) (w : World) : (Instr.field 55 (.agg #[.int .i64 p, .int .i64 u]) 0).run Try.prog w = .ok (.int .i64 p) w := by kernel_rfl
set_option maxRecDepth 100000 in
theorem fldP1 (p u : Int) (w : World) : (Instr.field 55 (.agg #[.int .i64 p, .int .i64 u]) 1).run Try.prog w = .ok (.int .i64 u) w := by kernel_rfl
set_option maxRecDepth 100000 in
theorem isNaN_any (w : World) (a : Int) : Calls Try.prog 44 #[.int .i64 a] w fun e w' => e = .returned (.bool false) ∧ w' = w := by
  have h : (a != a) = false := by simp
  go_enter Try.func44, Try.ntmps44
  go_wp2
  go_ret
  exact ⟨by simp, rfl⟩
set_option maxRecDepth 100000 in
theorem compare_any (w : World) (a b : Int) : Calls Try.prog 36 #[.int .i64 a, .int .i64 b] w fun e w' => e = .returned (.int .i64 (Lib.compareInt a b)) ∧ w' = w := by
  have N1 := hide (isNaN_any w a)
  have N2 := hide (isNaN_any w b)
  by_cases h1 : a < b
  · have u1 : decide (a < b) = true := decide_eq_true h1
    have r : Lib.compareInt a b = -1 := by unfold Lib.compareInt; simp [h1]
    have R := hide r
    clear r
    go_enter Try.func36, Try.ntmps36
    go_wp2_with fail
    refine N1.out.mono ?_
    rintro e w1 ⟨rfl, rfl⟩
    go_wp2_with fail
    refine N2.out.mono ?_
    rintro e w2 ⟨rfl, rfl⟩
    go_wp2
    go_ret
    exact ⟨by rw [R.out]; rfl, rfl⟩
  · have u1 : decide (a < b) = false := decide_eq_false h1
    by_cases h2 : b < a
    · have u2 : decide (b < a) = true := decide_eq_true h2
      have r : Lib.compareInt a b = 1 := by unfold Lib.compareInt; simp [h1, h2]
      have R := hide r
      clear r
      go_enter Try.func36, Try.ntmps36
      go_wp2_with fail
      refine N1.out.mono ?_
      rintro e w1 ⟨rfl, rfl⟩
      go_wp2_with fail
      refine N2.out.mono ?_
      rintro e w2 ⟨rfl, rfl⟩
      go_wp2
      go_ret
      exact ⟨by rw [R.out]; rfl, rfl⟩
    · have u2 : decide (b < a) = false := decide_eq_false h2
      have r : Lib.compareInt a b = 0 := by unfold Lib.compareInt; simp [h1, h2]
      have R := hide r
      clear r
      go_enter Try.func36, Try.ntmps36
      go_wp2_with fail
      refine N1.out.mono ?_
      rintro e w1 ⟨rfl, rfl⟩
      go_wp2_with fail
      refine N2.out.mono ?_
      rintro e w2 ⟨rfl, rfl⟩
      go_wp2
      go_ret
      exact ⟨by rw [R.out]; rfl, rfl⟩
theorem quiet_load58 {C : World → Prop} {next : Act → Prop} {a : Act} {o : Oper} (x : Operand) (ho : o.op = .load 58 x) (q : Nat) (hx : a.eval x = .pointer (some ⟨q, 0, none⟩)) (cs : List Value) (hl : cs.length = 32) (hc : ∀ w, C w → w.rangeAt q 0 cs) (hn : next (a.put o.dst (.agg cs.toArray))) : o.quiet Try.prog a C next := by
  refine ⟨.agg cs.toArray, fun w hw => ?_, hn⟩
  unfold Oper.quietAt execOp
  simp only [ho, hx, Instr.loadAt, Instr.sureAddr, Sem.run_bind, Sem.run_pure, Result.andThen_ok, run_loadVar_mid w q 0 58 cs _ (hc w hw) uId rfl (by rw [hl]; exact iId)]
  exact ⟨rfl, rfl⟩
set_option maxRecDepth 100000 in
theorem closure_any (W : World) (s b n : Nat) (D : DataW Unit) (x y : List Int) (hx : x.length = 32) (bx : Byt x) (hy : y.length = 32) (by' : Byt y) (hs : W.cell? ⟨s, 0, none⟩ = some (.map (some b))) (own : W.ownsMap Try.prog 58 pmR b n D) (p u p' u' : Int) (e1 : D.atKey (keyL x) (pmD 0 0) = pmD p u) (e2 : D.atKey (keyL y) (pmD 0 0) = pmD p' u') :
    Calls Try.prog 35 #[idV x, idV y, .pointer (some ⟨s, 0, none⟩)] W fun e w' => e = .returned (.int .i64 (Lib.compareInt p p')) ∧ ∃ q os', w' = grow (W.drewN q) os' := by
  obtain ⟨cs, hcs⟩ : ∃ cs, cs = x.map (Value.int .u8) := ⟨_, rfl⟩
  obtain ⟨ds, hds⟩ : ∃ ds, ds = y.map (Value.int .u8) := ⟨_, rfl⟩
  have ev : idV x = .agg cs.toArray := by rw [hcs]; rfl
  have ew : idV y = .agg ds.toArray := by rw [hds]; rfl
  have cl : cs.length = 32 := by rw [hcs, List.length_map]; exact hx
  have dl : ds.length = 32 := by rw [hds, List.length_map]; exact hy
  have K1 := hide (keyL_some hx bx)
  have K2 := hide (keyL_some hy by')
  rw [ev] at K1
  rw [ew] at K2
  rw [ev, ew]
  have n1 : Below W.heap.size W ((W.alloc (.cells cs.toArray 58)).alloc (.cells ds.toArray 58)) := ((Below.refl _ _).alloc (Nat.le_refl _) _).alloc (by simp) _
  have z1 : (W.alloc (.cells cs.toArray 58)).heap.size = W.heap.size + 1 := by simp
  have T0 : RwC ((W.alloc (.cells cs.toArray 58)).alloc (.cells ds.toArray 58)) W.heap.size cs 58 := (RwC.new W _ _).push _
  have U0 : RwC ((W.alloc (.cells cs.toArray 58)).alloc (.cells ds.toArray 58)) (W.heap.size + 1) ds 58 := by
    have h := RwC.new (W.alloc (.cells cs.toArray 58)) ds 58
    rwa [z1] at h
  have S1 := (n1.cell (block_lt_of_cell hs)).trans hs
  have GR : Hid (∀ q, ((W.alloc (.cells cs.toArray 58)).alloc (.cells ds.toArray 58)).drewN q = grow (W.drewN q) #[.cells cs.toArray 58, .cells ds.toArray 58]) := fun q => by
    show World.drewN _ _ = _
    rw [alloc_eq_grow, alloc_eq_grow, grow_grow]
    rfl
  have CP := fun W' => hide (compare_any W' p p')
  clear hcs hds ev ew
  go_enter Try.func35, Try.ntmps35
  go_upto_region 1 with fail
  try rw [z1]
  generalize (W.alloc (.cells cs.toArray 58)).alloc (.cells ds.toArray 58) = W1 at *
  have OW := ownP own n1
  have L1 : Hid (∀ w', (∃ n, w' = W1.drewN n) → w'.rangeAt W.heap.size 0 cs) := fun w' ⟨n, e⟩ => by rw [e]; exact (T0.drews n).rangeG
  have L2 : Hid (∀ w', (∃ n, w' = W1.drewN n) → w'.rangeAt (W.heap.size + 1) 0 ds) := fun w' ⟨n, e⟩ => by rw [e]; exact (U0.drews n).rangeG
  have CL := hide cl
  have DL := hide dl
  have M1 : ∀ n, (Instr.lookup 49 (.map (some b)) (.agg cs.toArray) false).run Try.prog (W1.drewN n) = .ok (.agg #[.int .i64 p, .int .i64 u]) (W1.drewN n) := fun n => by
    obtain ⟨a, c, h1, h2⟩ := look_book0 (ownP OW (below_drewN (Below.refl _ _) n)) K1.out
    obtain ⟨rfl, rfl⟩ := pmD_inj (e1.symm.trans h2)
    exact h1
  have M2 : ∀ n, (Instr.lookup 49 (.map (some b)) (.agg ds.toArray) false).run Try.prog (W1.drewN n) = .ok (.agg #[.int .i64 p', .int .i64 u']) (W1.drewN n) := fun n => by
    obtain ⟨a, c, h1, h2⟩ := look_book0 (ownP OW (below_drewN (Below.refl _ _) n)) K2.out
    obtain ⟨rfl, rfl⟩ := pmD_inj (e2.symm.trans h2)
    exact h1
  clear z1 n1 T0 U0 OW own K1 K2 cl dl e1 e2
  generalize hsz : W.heap.size = s0 at *
  clear hsz
  have F1 := fldP0 p u
  have F2 := fldP0 p' u'
  refine wp_region_quiet_lit (by kernel_rfl) (by kernel_rfl) ?_
  go_big_quiet_step (fail)
  go_big_quiet_want
  refine quiet_load58 (.tmp 3) rfl s0 rfl cs CL.out L1.out ?_
  go_frame
  go_big_quiet_on
  go_big_quiet_step (fail)
  go_big_quiet_step (fail)
  go_big_quiet_step (fail)
  go_big_quiet_want
  refine quiet_load58 (.tmp 4) rfl (s0 + 1) rfl ds DL.out L2.out ?_
  go_frame
  go_big_quiet_on
  go_big_quiet_step (fail)
  go_big_quiet_step (fail)
  go_big_quiet_step ((go_at_call 36; refine (CP _).out.mono ?_; rintro e w' ⟨rfl, rfl⟩; exact ⟨rfl, _, rfl⟩))
  go_big_quiet_step (fail)
  refine wpQuiet_nil ?_
  intro _ hw'
  obtain ⟨nq, hw''⟩ := hw'
  subst hw''
  go_wp2
  go_ret
  exact ⟨rfl, nq, _, GR.out nq⟩
end Go.Proofs.Ytjjoimlnpbelpaa
