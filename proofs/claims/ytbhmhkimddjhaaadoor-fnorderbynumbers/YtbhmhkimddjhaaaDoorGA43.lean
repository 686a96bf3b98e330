import Derived.Test.YtbhmhkimddjhaaaDoorGA41
import Derived.Test.YtbhmhkimddjhaaaDoorGA23
import Derived.Test.YtbhmhkimddjhaaaDoorRows
import Derived.Test.YtbhmhkimddjhaaaDoorGA39
import Derived.Lib.LaidTab
import Derived.Lib.LaidU8
import Derived.LaidMore
/-
  The program's scalar: reading, reducing; OrderValid.
-/
namespace Go.Proofs.YtbhmhkimddjhaaaDoor
set_option maxRecDepth 100000
open Go.RowKit

set_option maxHeartbeats 4000000 in
theorem scalarReduce_any (w : World) (s : Nat → Int) (hs : W4 s) (hQ : HasW w 0 qw 4) :
    Calls Tryd.prog 53 #[ag4 s] w fun r w' => r = .returned (ag4 (rdS s)) ∧ Below w.heap.size w w' := by
  have h3 := hs 3 (by omega)
  have n0 : Below w.heap.size w (w.alloc (.cells #[.int .u64 (s 0), .int .u64 (s 1), .int .u64 (s 2), .int .u64 (s 3)] 51)) := (Below.refl _ _).alloc (Nat.le_refl _) _
  have n1 : Below w.heap.size w ((w.alloc (.cells #[.int .u64 (s 0), .int .u64 (s 1), .int .u64 (s 2), .int .u64 (s 3)] 51)).alloc (.cells #[.int .u64 0, .int .u64 0, .int .u64 0, .int .u64 0] 51)) := n0.alloc (by simp) _
  have B1 : Blk ((w.alloc (.cells #[.int .u64 (s 0), .int .u64 (s 1), .int .u64 (s 2), .int .u64 (s 3)] 51)).alloc (.cells #[.int .u64 0, .int .u64 0, .int .u64 0, .int .u64 0] 51)) (w.heap.size + 1) .u64 [0, 0, 0, 0] := by
    have := blk_box4 (w.alloc (.cells #[.int .u64 (s 0), .int .u64 (s 1), .int .u64 (s 2), .int .u64 (s 3)] 51)) .u64 51 0 0 0 0
    simpa using this
  have LT := fun W (h : Below w.heap.size w W) => lessTimes_any W s qw (s 3 / 1152921504606846976) (by omega) hs qw_W4 (hQ.up h)
  have E : Hid (lsT (s 3 / 1152921504606846976) s qw = rdS s) := rfl
  obtain ⟨q0, q1, q2, q3⟩ := (hQ.up n1).f4
  obtain ⟨q, hq⟩ : ∃ q, q = qw := ⟨_, rfl⟩
  rw [← hq] at q0 q1 q2 q3 LT E
  clear hQ hq
  simp only [ag4] at LT ⊢
  go_enter Tryd.func53, Tryd.ntmps53
  go_wp2_with fail
  refine (LT _ n1).mono ?_
  rintro r w2 ⟨rfl, n2⟩
  have N2 := nxt n1 n2
  have B2 := B1.up n2
  generalize lsT (s 3 / 1152921504606846976) s q = f at *
  obtain ⟨⟨r0, r1, r2, r3⟩, ⟨g0, g1, g2, g3⟩⟩ := B2.f4
  clear B1 n0 n1 LT q0 q1 q2 q3
  go_wp2
  refine bodyPost_ret (v := ag4 f) (by simp [ag4, results, Tryd.results53, go_sem, r0, r1, r2, r3]) rfl ⟨by rw [E.out]; rfl, ?_⟩
  exact below_set4 N2 (by omega) _ _ _ _

set_option maxHeartbeats 4000000 in
theorem readScalar_any (w : World) (g : Nat) (a : Option Addr) (cap : Nat) (xs : List Int) (hr : Rd w g a .u8 xs) (hb : Byt xs) (hl : xs.length = 32) :
    Calls Tryd.prog 52 #[.slice a 32 cap] w fun r w' => r = .returned (ag4 (wv (fun j => xs.getD j 0) 32)) ∧ Below w.heap.size w w' := by
  have n0 : Below w.heap.size w (w.alloc (.cells #[.int .u64 0, .int .u64 0, .int .u64 0, .int .u64 0] 51)) := (Below.refl _ _).alloc (Nat.le_refl _) _
  have B0 := blk_box4 w .u64 51 0 0 0 0
  have RW := fun W h => readWords_any W g a cap xs (hr.up h) hb hl
  clear hl hb hr
  generalize wv (fun j => xs.getD j 0) 32 = f at *
  simp only [ag4] at RW ⊢
  go_enter Tryd.func52, Tryd.ntmps52
  go_wp2_with fail
  refine (RW _ n0).mono ?_
  rintro r w2 ⟨rfl, n2⟩
  have N2 := nxt n0 n2
  have B2 := B0.up n2
  obtain ⟨⟨r0, r1, r2, r3⟩, ⟨g0, g1, g2, g3⟩⟩ := B2.f4
  clear B0 n0 RW
  go_wp2
  refine bodyPost_ret (v := ag4 f) (by simp [ag4, results, Tryd.results52, go_sem, r0, r1, r2, r3]) rfl ⟨rfl, ?_⟩
  exact below_set4 N2 (Nat.le_refl _) _ _ _ _

set_option maxHeartbeats 4000000 in
theorem eqScalar (a0 a1 a2 a3 b0 b1 b2 b3 : Int) (w : World) :
    (Op.equalIn 10000 51 (.agg #[.int .u64 a0, .int .u64 a1, .int .u64 a2, .int .u64 a3]) (.agg #[.int .u64 b0, .int .u64 b1, .int .u64 b2, .int .u64 b3])).run Tryd.prog w = .ok (a0 == b0 && a1 == b1 && a2 == b2 && a3 == b3) w := by
  have u3 := Tryd.underlying49
  have a3' := Tryd.isAgg49
  have z3 := Tryd.sizeOf49
  rw [show (10000 : Nat) = 9999 + 1 from rfl, Op.equalIn]
  simp only [Sem.run_bind, run_underlying Tryd.underlying51, Result.andThen_ok]
  simp only [Std.Legacy.Range.forIn_eq_forIn_range', Std.Legacy.Range.size, Nat.sub_zero, Nat.add_sub_cancel, Nat.div_one, List.range'_succ, List.range'_zero, List.forIn_cons, List.forIn_nil]
  go_simp
  by_cases h0 : a0 = b0 <;> by_cases h1 : a1 = b1 <;> by_cases h2 : a2 = b2 <;> by_cases h3 : a3 = b3 <;> simp [h0, h1, h2, h3]
theorem eq_W4 {U V : Nat → Int} (hU : W4 U) (hV : W4 V) : (U 0 == V 0 && U 1 == V 1 && U 2 == V 2 && U 3 == V 3) = decide (wval U = wval V) := by
  by_cases h : wval U = wval V
  · have e := hU.uniq hV h
    rw [e 0 (by omega), e 1 (by omega), e 2 (by omega), e 3 (by omega)]
    simp [h]
  · rw [decide_eq_false h]
    cases hq : (U 0 == V 0 && U 1 == V 1 && U 2 == V 2 && U 3 == V 3)
    · rfl
    · exfalso
      simp only [Bool.and_eq_true, beq_iff_eq] at hq
      exact h (by unfold wval; rw [hq.1.1.1, hq.1.1.2, hq.1.2, hq.2])
theorem num_nonneg {xs : List Int} (hb : Byt xs) : 0 ≤ num xs := by
  have : ∀ k, 0 ≤ lsum (fun j => xs.getD j 0) k := by
    intro k
    induction k with
    | zero => simp [lsum]
    | succ k ih =>
      have h1 := Int.mul_nonneg (hb k).1 (Int.le_of_lt (p256_pos k))
      rw [lsum]; omega
  exact this _

set_option maxHeartbeats 4000000 in
theorem implOrderValid_any (w : World) (g : Nat) (a : Option Addr) (c : Nat) (xs : List Int) (hr : Rd w g a .u8 xs) (hb : Byt xs) (hQ : HasW w 0 qw 4) :
    Calls Tryd.prog 18 #[.slice a xs.length c] w fun e w' => e = .returned (.bool (ovalid xs)) ∧ Below w.heap.size w w' := by
  by_cases hl : xs.length = 32
  · have R1 := readScalar_any w g a c xs hr hb hl
    have hW : W4 (wv (fun j => xs.getD j 0) 32) := fun j _ => wv_lt hb 32 j
    have hv : wval (wv (fun j => xs.getD j 0) 32) = num xs := by rw [wv_sum _ 32 (by omega)]; unfold num; rw [hl]
    have h0 := num_nonneg hb
    have K : Hid (ovalid xs = decide (num xs < QQ)) := by show _ = _; simp [ovalid, hl]
    rw [hl]
    clear hl hr hb
    generalize wv (fun j => xs.getD j 0) 32 = f at *
    obtain ⟨r1, r2⟩ := rdS_ok hW
    have RD := fun W (h : Below w.heap.size w W) => scalarReduce_any W f hW (hQ.up h)
    have V : Hid ((rdS f 0 == f 0 && rdS f 1 == f 1 && rdS f 2 == f 2 && rdS f 3 == f 3) = ovalid xs) := by
      show _ = _
      rw [eq_W4 r1 hW, r2, hv, K.out]
      by_cases h : num xs < QQ
      · rw [decide_eq_true h, Int.emod_eq_of_lt h0 h]; simp
      · rw [decide_eq_false h, decide_eq_false]
        have := Int.emod_lt_of_pos (num xs) (show (0 : Int) < QQ by decide)
        omega
    have EQ := fun W => eqScalar (rdS f 0) (rdS f 1) (rdS f 2) (rdS f 3) (f 0) (f 1) (f 2) (f 3) W
    rw [V.out] at EQ
    generalize rdS f = u at *
    clear V K hv h0 r1 r2 hW
    simp only [ag4] at R1 RD
    go_enter Tryd.func18, Tryd.ntmps18
    go_wp2_with fail
    refine R1.mono ?_
    rintro e w1 ⟨rfl, n1⟩
    have n2 : Below w1.heap.size w1 (w1.alloc (.cells #[.int .u64 (f 0), .int .u64 (f 1), .int .u64 (f 2), .int .u64 (f 3)] 51)) := (Below.refl _ _).alloc (Nat.le_refl _) _
    have B2 := blk_box4 w1 .u64 51 (f 0) (f 1) (f 2) (f 3)
    have N2 := nxt n1 n2
    clear R1 n1 n2
    go_wp2
    generalize w1.alloc (.cells #[.int .u64 (f 0), .int .u64 (f 1), .int .u64 (f 2), .int .u64 (f 3)] 51) = w2 at *
    have CE : Hid (∀ W, Below w2.heap.size w2 W → W.cell? ⟨w1.heap.size, 0, none⟩ = some (.int .u64 (f 0)) ∧ W.cell? ⟨w1.heap.size, 1, none⟩ = some (.int .u64 (f 1)) ∧ W.cell? ⟨w1.heap.size, 2, none⟩ = some (.int .u64 (f 2)) ∧ W.cell? ⟨w1.heap.size, 3, none⟩ = some (.int .u64 (f 3))) := fun W n => (B2.up n).f4.1
    have RE : Hid (∀ W, Below w2.heap.size w2 W → Calls Tryd.prog 53 #[.agg #[.int .u64 (f 0), .int .u64 (f 1), .int .u64 (f 2), .int .u64 (f 3)]] W fun r w' => r = .returned (.agg #[.int .u64 (u 0), .int .u64 (u 1), .int .u64 (u 2), .int .u64 (u 3)]) ∧ Below w2.heap.size w2 w') := by
      intro W n
      refine (RD W (nxt N2 n)).mono ?_
      rintro r w' ⟨rfl, n'⟩
      exact ⟨rfl, nxt n n'⟩
    have nd : Below w2.heap.size w2 w2.drew := (Below.refl _ _).drew
    clear RD B2
    go_region_held3 (fun W => W.cell? ⟨w1.heap.size, 0, none⟩ = some (.int .u64 (f 0)) ∧ W.cell? ⟨w1.heap.size, 1, none⟩ = some (.int .u64 (f 1)) ∧ W.cell? ⟨w1.heap.size, 2, none⟩ = some (.int .u64 (f 2)) ∧ W.cell? ⟨w1.heap.size, 3, none⟩ = some (.int .u64 (f 3)))
      (first | exact (unhide CE) _ nd | exact (unhide CE) _ ns)
      (first
        | (go_at_call 53; refine ((unhide RE) _ nd).mono ?_; rintro r ws ⟨rfl, ns⟩))
    all_goals
      have NS := nxt N2 ns
      go_wp2
      go_ret
      exact ⟨rfl, NS⟩
  · have K : ovalid xs = false := by simp [ovalid, hl]
    have hK := hide K
    have t : ((xs.length : Int) == 32) = false := by simp; omega
    clear K hl
    go_enter Tryd.func18, Tryd.ntmps18
    go_wp2
    go_ret
    exact ⟨by rw [hK.out]; rfl, Below.refl _ _⟩
end Go.Proofs.YtbhmhkimddjhaaaDoor
/-
  What the listed words of the order give the walks: their cells.
-/
namespace Go.Proofs.YtbhmhkimddjhaaaDoor
set_option maxRecDepth 100000
open Go.RowKit

theorem gOg : Tryd.prog.globalNamed "loop.example/g00004/impl.orderOfGroup" = some 0 := by kernel_rfl
theorem tOg : (Tryd.prog.globals[0]?).map (·.type) = some 51 := by kernel_rfl
theorem gOs : Tryd.prog.globalNamed "loop.example/g00004/impl.orderSixteenfold" = some 2 := by kernel_rfl
theorem tOs : (Tryd.prog.globals[2]?).map (·.type) = some 51 := by kernel_rfl
theorem gOf : Tryd.prog.globalNamed "loop.example/g00004/impl.orderFolds" = some 1 := by kernel_rfl
theorem tOf : (Tryd.prog.globals[1]?).map (·.type) = some 91 := by kernel_rfl
theorem uSc : Tryd.prog.underlying 51 = some (.array 4 49) := by kernel_rfl
theorem uOf : Tryd.prog.underlying 91 = some (.array 4 51) := by kernel_rfl
theorem cSc : Tryd.prog.cellsOf 51 = 4 := by kernel_rfl
theorem cW : Tryd.prog.cellsOf 49 = 1 := by kernel_rfl
theorem four_of_reads {W : World} {n : String} {g : Nat} {x y z u : Int} (hn : Tryd.prog.globalNamed n = some g) (ht : (Tryd.prog.globals[g]?).map (·.type) = some 51)
    (h : Lib.VarReads Tryd.prog W n (.agg [.lit (.int .u64 x), .lit (.int .u64 y), .lit (.int .u64 z), .lit (.int .u64 u)])) (f : Nat → Int) (hf : f 0 = x ∧ f 1 = y ∧ f 2 = z ∧ f 3 = u) : HasW W g f 4 := by
  obtain ⟨g', t, cs, fuel, p, hg, ht', hv, hd⟩ := h
  obtain rfl := Option.some.inj (hn.symm.trans hg)
  obtain rfl := Option.some.inj (ht.symm.trans ht')
  have hcs := Lib.cells_of_tab (zs := [x, y, z, u]) uSc Tryd.underlying49 cW cSc hd
  obtain ⟨rfl, rfl, rfl, rfl⟩ := hf
  intro k hk
  rw [World.var?_cell hg hv k]
  obtain ⟨l⟩ := cs
  simp only at hcs
  subst hcs
  obtain rfl | rfl | rfl | rfl : k = 0 ∨ k = 1 ∨ k = 2 ∨ k = 3 := by omega
  all_goals rfl
theorem folds_of_reads {W : World} (h : Lib.VarReads Tryd.prog W "loop.example/g00004/impl.orderFolds" Rows.laid_loop_example_g00004_impl_orderFolds) : HasW W 1 (fun k => fw (k / 4) (k % 4)) 16 := by
  obtain ⟨g, t, cs, fuel, p, hg, ht, hv, hd⟩ := h
  obtain rfl := Option.some.inj (gOf.symm.trans hg)
  obtain rfl := Option.some.inj (tOf.symm.trans ht)
  have key : ∀ j, j < 4 → (cs.toList.drop (j * 4)).take 4 = [.int .u64 (fw j 0), .int .u64 (fw j 1), .int .u64 (fw j 2), .int .u64 (fw j 3)] := by
    intro j hj
    obtain ⟨f', d, q, h1, h2⟩ := Lib.array_elem uOf hd j hj
    rw [cSc] at h2
    obtain rfl | rfl | rfl | rfl : j = 0 ∨ j = 1 ∨ j = 2 ∨ j = 3 := by omega
    all_goals
      cases h1
      exact Lib.cells_of_tab (zs := [_, _, _, _]) uSc Tryd.underlying49 cW cSc h2
  intro i hi
  rw [World.var?_cell hg hv i]
  have k := key (i / 4) (by omega)
  have e : cs[i]? = ((cs.toList.drop (i / 4 * 4)).take 4)[i % 4]? := by
    rw [List.getElem?_take, if_pos (by omega), List.getElem?_drop, show i / 4 * 4 + i % 4 = i by omega]
    simp
  rw [e, k]
  show _ = some (Value.int .u64 (fw (i / 4) (i % 4)))
  rcases (show i % 4 = 0 ∨ i % 4 = 1 ∨ i % 4 = 2 ∨ i % 4 = 3 by omega) with r | r | r | r
  all_goals
    rw [r]
    rfl
/-- A listed variable reads as it is listed (the list bears plain data alone). -/
theorem reads_ofq {l : List (String × DataW Unit)} {W : World} (h : laidMetH Tryd.prog l W) (hp : (l.all fun x => x.2.handleName?.isNone) = true) {n : String} {d : DataW Unit} (hm : (n, d) ∈ l) : Lib.VarReads Tryd.prog W n d := by
  rw [MakeChecks.laidMetH_plain _ _ _ hp] at h
  exact Lib.laidMet.reads h hm
theorem q_of_reads {W : World} (h : Lib.VarReads Tryd.prog W "loop.example/g00004/impl.orderOfGroup" Rows.laid_loop_example_g00004_impl_orderOfGroup) : HasW W 0 qw 4 := four_of_reads gOg tOg h qw ⟨rfl, rfl, rfl, rfl⟩
theorem s_of_reads {W : World} (h : Lib.VarReads Tryd.prog W "loop.example/g00004/impl.orderSixteenfold" Rows.laid_loop_example_g00004_impl_orderSixteenfold) : HasW W 2 q16 4 := four_of_reads gOs tOs h q16 ⟨rfl, rfl, rfl, rfl⟩
theorem laid_obytes {W : World} (h : laidMetH Tryd.prog Rows.fnExactOrderBytesRow.laid W) : HasW W 0 qw 4 := q_of_reads (reads_ofq h (by kernel_rfl) (.head _))
theorem laid_ovalid {W : World} (h : laidMetH Tryd.prog Rows.fnExactOrderValidRow.laid W) : HasW W 0 qw 4 := q_of_reads (reads_ofq h (by kernel_rfl) (.head _))
/-- All three of them. -/
def HasO (W : World) : Prop := HasW W 0 qw 4 ∧ HasW W 2 q16 4 ∧ HasW W 1 (fun k => fw (k / 4) (k % 4)) 16
theorem HasO.up {W W' : World} (h : HasO W) (n : Below W.heap.size W W') : HasO W' := ⟨h.1.up n, h.2.1.up n, h.2.2.up n⟩
theorem laid_ored {W : World} (h : laidMetH Tryd.prog Rows.fnExactOrderReduceRow.laid W) : HasO W := ⟨q_of_reads (reads_ofq h (by kernel_rfl) (.head _)), s_of_reads (reads_ofq h (by kernel_rfl) (.tail _ (.head _))), folds_of_reads (reads_ofq h (by kernel_rfl) (.tail _ (.tail _ (.head _))))⟩
theorem laid_omul {W : World} (h : laidMetH Tryd.prog Rows.fnExactOrderMulAddRow.laid W) : HasO W := ⟨q_of_reads (reads_ofq h (by kernel_rfl) (.head _)), s_of_reads (reads_ofq h (by kernel_rfl) (.tail _ (.head _))), folds_of_reads (reads_ofq h (by kernel_rfl) (.tail _ (.tail _ (.head _))))⟩
theorem laid_onum {W : World} (h : laidMetH Tryd.prog Rows.fnOrderByNumbersRow.laid W) : HasO W := ⟨q_of_reads (reads_ofq h (by kernel_rfl) (.head _)), s_of_reads (reads_ofq h (by kernel_rfl) (.tail _ (.head _))), folds_of_reads (reads_ofq h (by kernel_rfl) (.tail _ (.tail _ (.head _))))⟩
end Go.Proofs.YtbhmhkimddjhaaaDoor
